import Derived.Test.YtmfapopclbnlpaaGreatDoorProg
import Derived.ProofKit
import Derived.Test.YtmfapopclbnlpaaGreatDoorSt6
import Derived.Test.YtmfapopclbnlpaaGreatDoorSt10
import Derived.Test.YtmfapopclbnlpaaGreatDoorSt18
import Derived.Test.YtmfapopclbnlpaaGreatDoorSt23
import Derived.Test.YtmfapopclbnlpaaGreatDoorSt24
set_option linter.unusedVariables false
set_option linter.unusedSimpArgs false
set_option maxRecDepth 100000
set_option maxHeartbeats 4000000
namespace Go.Proofs.YtmfapopclbnlpaaGreatDoor
open Go Go.Proofs Go.RowKit Go.Vc
section
def gV(l:Bs):H5:=if preB l [91]=true then eR (l.drop 1)else if ji l nL=true then F4 8 else if l=[]then(1,[],0,z8,0)else(5,xw l,0,z8,0)
def tK:cq:=bR [(78,da),(74,mv),(161,mB),(162,mA),(26,qI)]
def tL(l:Bs):ba:=fun i=>none
theorem vj:cS Tryz.prog aA tK:=ai cK (ai lr (ai oN (ai oM (ai xx (ax)))))
theorem Aa(l:Bs)(k:PV→Prop):cD Tryz.prog tK aA (tL l) 1000 Tryz.f136 [.str l,.bool false] k=(
 True∧
 (preB l (ByteArray.mk #[91]).data.toList=true→
 ((1:Nat)≤List.length l∧List.length l≤(1000000:Nat))∧
 k
 (PV.tup
 [PV.agg
 [PV.int .i64 (eR (List.drop (1:Nat) l)).1,
 PV.str (eR (List.drop (1:Nat) l)).2.1,
 PV.int .u32 (eR (List.drop (1:Nat) l)).2.2.1,
 PV.arr (8:Nat) (ar.ints .u16 (eR (List.drop (1:Nat) l)).2.2.2.1)],
 PV.int .i64 (eR (List.drop (1:Nat) l)).2.2.2.2]))∧
 (preB l (ByteArray.mk #[91]).data.toList=false→
 (false=true→
 (List.length l).le (1000000:Nat)∧
 k
 (PV.tup
 [PV.agg
 [PV.int .i64
 (eB (bE (cl l))).1,
 PV.str
 (eB
 (bE (cl l))).2.1,
 PV.int .u32
 (eB
 (bE (cl l))).2.2.1,
 PV.arr (8:Nat)
 (ar.ints .u16
 (eB
 (bE (cl l))).2.2.2.1)],
 PV.int .i64
 (eB
 (bE (cl l))).2.2.2.2]))∧
 (false=false→
 (List.length l≤(1000000:Nat)∧
 (ByteArray.mk
 #[0,9,10,13,32,35,47,58,60,62,63,64,91,92,93,94,124]).data.toList.length≤
 (1000000:Nat)∧
 ∀(b:UInt8),
 b∈
 (ByteArray.mk
 #[0,9,10,13,32,35,47,58,60,62,63,64,91,92,93,94,124]).data.toList→
 b.toNat<(128:Nat))∧
 (ji l
 (ByteArray.mk
 #[0,9,10,13,32,35,47,58,60,62,63,64,91,92,93,94,124]).data.toList=
 true→
 k
 (PV.tup
 [PV.agg
 [PV.int .i64 (0:Int),PV.str [],PV.int .u32 (0:Int),
 PV.arr (8:Nat) (ar.ints .u16 (List.replicate (8:Nat) (0:Int)))],
 PV.int .i64 (8:Int)]))∧
 (ji l
 (ByteArray.mk
 #[0,9,10,13,32,35,47,58,60,62,63,64,91,92,93,94,124]).data.toList=
 false→
 (decide (l=(ByteArray.mk #[]).data.toList)=true→
 k
 (PV.tup
 [PV.agg
 [PV.int .i64 (1:Int),PV.str [],PV.int .u32 (0:Int),
 PV.arr (8:Nat) (ar.ints .u16 (List.replicate (8:Nat) (0:Int)))],
 PV.int .i64 (0:Int)]))∧
 (decide (l=(ByteArray.mk #[]).data.toList)=false→
 (List.length l).le (300000:Nat)∧
 k
 (PV.tup
 [PV.agg
 [PV.int .i64 (5:Int),PV.str (xw l),
 PV.int .u32 (0:Int),
 PV.arr (8:Nat) (ar.ints .u16 (List.replicate (8:Nat) (0:Int)))],
 PV.int .i64 (0:Int)])))))):=by kernel_rfl
attribute [local irreducible] Go.Vc.cD
theorem Ab(l:Bs):ag Tryz.prog aA 136 [.str l,.bool false] ⟨l.length≤300000,.tup [.agg [.int .i64 (gV l).1,.str (gV l).2.1,.int .u32 (gV l).2.2.1,.arr 8 (.ints .u16 (gV l).2.2.2.1)],.int .i64 (gV l).2.2.2.2]⟩:=b5 (by kernel_rfl) vj (H:=tL l) (fuel:=1000) Tryz.func136 (by kernel_rfl) fun hpre=>(Aa l _).mpr (by
 have e91:(ByteArray.mk #[91]).data.toList=([91]:Bs):=rfl
 rw [e91]
 refine ⟨trivial,fun h=>⟨⟨?_,by omega⟩,?_⟩,fun h=>⟨fun h=>(by cases h),fun _=>⟨⟨by omega,by decide,by decide⟩,fun h2=>?_,fun h2=>⟨fun h3=>?_,fun h3=>?_⟩⟩⟩⟩
 ·cases l with
  |nil=>cases h
  |cons b r=>rw [List.length_cons];omega
 ·have:gV l=eR (l.drop 1):=by unfold gV;rw [if_pos h]
  rw [this]
 ·have h2':ji l nL=true:=h2
  have:gV l=F4 8:=by unfold gV;rw [if_neg (by rw [h];decide),if_pos h2']
  rw [this];rfl
 ·have h2':ji l nL=false:=h2
  have h3':l=[]:=of_decide_eq_true h3
  have:gV l=(1,[],0,z8,0):=by unfold gV;rw [if_neg (by rw [h];decide),if_neg (by rw [h2'];decide),if_pos h3']
  rw [this];rfl
 ·have h2':ji l nL=false:=h2
  have h3':¬l=[]:=of_decide_eq_false h3
  have:gV l=(5,xw l,0,z8,0):=by unfold gV;rw [if_neg (by rw [h];decide),if_neg (by rw [h2'];decide),if_neg h3']
  rw [this]
  exact ⟨hpre,rfl⟩)
end
theorem xJ {l:Bs}{x:Int}(h0:0≤x)(h1:x<l.length):l.drop x.toNat=l.getD x.toNat 0::l.drop (x+1).toNat:=by
 have hs:(x+1).toNat=x.toNat+1:=by omega
 rw [hs,List.drop_eq_getElem_cons (by omega),List.getD_eq_getElem?_getD,List.getElem?_eq_getElem (by omega)]
 rfl
theorem tM {l:Bs}{x:Int}(h1:¬x<l.length):l.drop x.toNat=[]:=by rw [List.drop_eq_nil_iff];omega
structure RS where
 sc:Bs
 us:Bs
 pw:Bs
 hk:Int
 hs:Bs
 hn:Int
 hp:List Int
 port:Int
 opq:Bool
 pn:Bool
 pl:List Bs
 hq:Bool
 q:Bs
 hf:Bool
 fg:Bs
 bare:Bool
 sp:Bool
 rst:Bs
@[match_pattern] abbrev bG (m:Nat) (sc us pw:Bs) (hk:Int) (hs:Bs) (hn:Int) (hp:List Int) (port:Int) (opq pn:Bool) (pl:List Bs) (hq:Bool) (q:Bs) (hf:Bool) (fg:Bs):PV:=.agg [.str sc,.str us,.str pw,.agg [.int .i64 hk,.str hs,.int .u32 hn,.arr 8 (.ints .u16 hp)],.int .i64 port,.bool opq,.row pn (.strs pl) m,.bool hq,.str q,.bool hf,.str fg]
@[match_pattern] abbrev aE (m:Nat) (B:PV) (sc us pw:Bs) (hk:Int) (hs:Bs) (hn:Int) (hp:List Int) (port:Int) (opq pn:Bool) (pl:List Bs) (hq:Bool) (q:Bs) (hf:Bool) (fg:Bs) (bare sp:Bool) (rst:Bs):PV:=.agg [.agg [.str sc,.str us,.str pw,.agg [.int .i64 hk,.str hs,.int .u32 hn,.arr 8 (.ints .u16 hp)],.int .i64 port,.bool opq,.row pn (.strs pl) m,.bool hq,.str q,.bool hf,.str fg],B,.bool bare,.bool sp,.str rst]
def az(sp:Bool)(rst:Bs)(z:Int):Bool:=decide (z<al rst)&&(decide (ak rst z=47)||sp&&decide (ak rst z=92))
theorem pE {sp:Bool}{rst:Bs}{z:Int}(h:az sp rst z=true):z<al rst:=by by_cases g:z<al rst;exact g;simp [az,g]at h
def aC:Nat→Bool→Int→Bs→Bs
 |0,_,_,l=>l
 |f+1,sp,n,l=>if az sp l 0=true∧(sp=true∨n<2)then aC f sp (n+1) (aa l 1)else l
theorem nP {l:Bs}(h:0<l.length):(aa l 1).length+1=l.length:=by unfold aa;simp;omega
theorem qN {sp:Bool}{l:Bs}(h:az sp l 0=true):0<l.length:=by have:=pE h;unfold al at this;omega
theorem qO {sp:Bool}{n:Int}{l:Bs}(h:az sp l 0=true∧(sp=true∨n<2)):aC l.length sp n l=aC (aa l 1).length sp (n+1) (aa l 1):=by
 rw [←nP (qN h.1)]
 show(if _ then _ else _)=_
 rw [if_pos h]
theorem BN {sp:Bool}{n:Int}{l:Bs}(h:¬(az sp l 0=true∧(sp=true∨n<2))):aC l.length sp n l=l:=by
 cases l with
 |nil=>rfl
 |cons b l=>
  show(if _ then _ else _)=_
  rw [if_neg h]
def bT(l:Bs):Bool:=decide (l=[])||(decide (ak l 0=63)||decide (ak l 0=35))
def dU(sp:Bool):Bs:=if sp=true then [47,92]else [47]
def ah(sp:Bool)(l:Bs):Nat:=aW l (dU sp++[63,35])
def aF(l:Bs):Nat:=aW l [63,35]
def xK(l:Bs):Nat:=aW l [35]
def RS.shl(r:RS):RS:={r with rst:=if az r.sp r.rst 0=true then aa r.rst 1 else r.rst}
def RS.skip(r:RS):RS:={r with rst:=aC r.rst.length r.sp 0 r.rst}
def RS.cut(r:RS)(z:Int):RS:={r with rst:=aa r.rst z}
def kB:Bool→Int→Bs→Int
 |_,_,[]=>-1
 |w,i,b::l=>if b.toNat=91 then kB true (i+1) l else if b.toNat=93 then kB false (i+1) l else if b.toNat=58∧w=false then i else kB w (i+1) l
def bh(l:Bs):Int:=kB false 0 l
def iO:Int→Bs→Option Int
 |n,[]=>some n
 |n,b::l=>if 48≤b.toNat∧b.toNat≤57 then iO (min (n*10+(b.toNat-48)) 65536) l else none
def dT(sc:Bs)(port:Int)(s:Bs):Int×Int:=match s with
 |[]=>(port,0)
 |s=>match iO 0 s with
  |none=>(port,8)
  |some n=>if 65535<n then(port,8)else if ay sc=true∧IB sc=n then(port,0)else(n,0)
def aO(sp:Bool)(l:Bs):H5:=if sp=true then cv l else gV l
def RS.aX(r:RS)(s:Bs):RS×Int:=
 if bh s=0∨(s=[]∧r.sp=true)then(r,8)else
 let name:=if 0<bh s then ae s (bh s)else s
 let pt:=if 0<bh s then aa s (bh s+1)else []
 let h:=aO r.sp name
 let r1:RS:={r with hk:=h.1,hs:=h.2.1,hn:=h.2.2.1,hp:=h.2.2.2.1}
 if h.2.2.2.2=0 then({r1 with port:=(dT r.sc r.port pt).1},(dT r.sc r.port pt).2)else(r1,h.2.2.2.2)
def RS.aZ(r:RS):RS×Int:=
 let s:=ae r.rst (ah r.sp r.rst)
 let r1:=r.cut (ah r.sp r.rst)
 if 0≤aM s 64 then
  let r2:RS:={r1 with us:=bw 5 (dq (ae s (aM s 64)) 58),pw:=bw 5 (dK (ae s (aM s 64)) 58)}
  if aa s (aM s 64+1)=[]then(r2,8)else r2.aX (aa s (aM s 64+1))
 else r1.aX s
def LA:Bs:=[108,111,99,97,108,104,111,115,116]
def RS.av(r:RS):RS×Int:=
 let s:=ae r.rst (ah r.sp r.rst)
 let r1:=r.cut (ah r.sp r.rst)
 if s=[]then(r1,0)else
 let h:=cv s
 if h.1=2∧h.2.1=LA then(r1,h.2.2.2.2)else({r1 with hk:=h.1,hs:=h.2.1,hn:=h.2.2.1,hp:=h.2.2.2.1},h.2.2.2.2)
abbrev Pa:=Bool×List Bs
def b6(sc:Bs)(p:Pa):Pa:=if p.2=[]∨(p.2.length=1∧sc=fL∧nG (p.2.getD 0 [])=true)then p else(p.1,p.2.take (p.2.length-1))
def Ac(p:Pa)(last:Bool):Pa:=if last=true then(false,p.2++[[]])else p
def cH(sc:Bs)(p:Pa)(s:Bs)(last:Bool):Pa:=
 if mm s=true then Ac (b6 sc p) last
 else if ml s=true then Ac p last
 else if sc=fL∧p.2=[]∧bS s=true then(false,p.2++[ae s 1++[58]])
 else(false,p.2++[bw 4 s])
def jU(sc:Bs)(m:Bs):Nat→Bs→Pa→Pa
 |0,_,p=>p
 |f+1,s,p=>if aW s m=s.length then cH sc p s true else jU sc m f (s.drop (aW s m+1)) (cH sc p (s.take (aW s m)) false)
theorem qP(sc m:Bs):∀(f g:Nat) (s:Bs) (p:Pa),s.length<f→s.length<g→jU sc m f s p=jU sc m g s p
 |0,_,_,_,h,_=>by omega
 |_,0,_,_,_,h=>by omega
 |f+1,g+1,s,p,h,h'=>by
  unfold jU
  by_cases e:aW s m=s.length
  ·rw [if_pos e,if_pos e]
  ·rw [if_neg e,if_neg e]
   have hl:=fe s m
   exact qP sc m f g _ _ (by rw [List.length_drop];omega) (by rw [List.length_drop];omega)
@[irreducible] def kK (sc m s:Bs) (p:Pa):Pa:=jU sc m (s.length+1) s p
theorem Ad(sc m s:Bs)(p:Pa):kK sc m s p=if aW s m=s.length then cH sc p s true else kK sc m (s.drop (aW s m+1)) (cH sc p (s.take (aW s m)) false):=by
 unfold kK
 rw [jU]
 by_cases e:aW s m=s.length
 ·rw [if_pos e,if_pos e]
 ·rw [if_neg e,if_neg e]
  have hl:=fe s m
  exact qP sc m _ _ _ _ (by rw [List.length_drop];omega) (by rw [List.length_drop];omega)
def bt(sp:Bool)(sc:Bs)(s:Bs)(p:Pa):Pa:=kK sc (dU sp) s p
def RS.path(r:RS):RS:={r with
 pn:=(bt r.sp r.sc (ae r.rst (aF r.rst)) (r.pn,r.pl)).1
 pl:=(bt r.sp r.sc (ae r.rst (aF r.rst)) (r.pn,r.pl)).2
 rst:=aa r.rst (aF r.rst)}
def L8:Bs:=[37,50,48]
def nQ(s rest:Bs):Bs:=if rest≠[]∧0<s.length∧ak s (s.length-1)=32 then bw 0 (ae s (s.length-1))++L8 else bw 0 s
def RS.mC(r:RS):RS:={r with opq:=true,pn:=false,pl:=[nQ (ae r.rst (aF r.rst)) (aa r.rst (aF r.rst))],rst:=aa r.rst (aF r.rst)}
def RS.query(r:RS):RS:=if preB r.rst [63]=true then
    {r with hq:=true,q:=bw (if r.sp=true then 3 else 2) (ae (aa r.rst 1) (xK (aa r.rst 1))),rst:=aa (aa r.rst 1) (xK (aa r.rst 1))}
 else r
def RS.IT(r:RS):RS:=if preB r.rst [35]=true then {r with hf:=true,fg:=bw 1 (aa r.rst 1),rst:=aa r.rst 1}else r
def RS.tail(r:RS):RS:=r.query.IT
def RS.gq(r:RS):RS×Int:=if(ab r.rst r.rst 0).2.2=true then
    ({r with rst:=(ab r.rst r.rst 0).2.1,bare:=false,sc:=(ab r.rst r.rst 0).1,sp:=ay (ab r.rst r.rst 0).1},0)
 else(r,8)
def RS.aS(r:RS):RS×Int:=
 let r1:RS:={r with hk:=1}
 if az r.sp r.rst 0=true∧az r.sp r.rst 1=true then
  let r2:=r1.cut 2
  if bS (ae r2.rst (ah r2.sp r2.rst))=true then(r2.path,0)
  else if r2.av.2=0 then(r2.av.1.shl.path,0)else r2.av
 else(r1.shl.path,0)
def RS.bz(r:RS):RS×Int:=if r.aZ.2=0 then
    (if r.aZ.1.sp=false∧bT r.aZ.1.rst=true then(r.aZ.1.tail,0)else(r.aZ.1.shl.path.tail,0))
 else r.aZ
def RS.ao(r:RS):RS×Int:=if r.gq.2=0 then
    let r1:=r.gq.1
    if r1.sc=fL then(if r1.aS.2=0 then(r1.aS.1.tail,0)else r1.aS)
    else if r1.sp=true then r1.skip.bz
    else if preB r1.rst [47,47]=true then(r1.cut 2).bz
    else if preB r1.rst [47]=true then((r1.cut 1).path.tail,0)
    else(r1.mC.tail,0)
 else r.gq
theorem BO(l:Bs):∀(p r:Bs) (i:Nat),(∀b∈p,r9 b=true)→ab l (p++r) i=ab l r (i+p.length)
 |[],r,i,_=>rfl
 |b::p,r,i,h=>by
  show(if r9 b=true then ab l (p++r) (i+1)else _)=_
  rw [if_pos (h b (List.mem_cons_self ..)),BO l p r (i+1) (fun c hc=>h c (List.mem_cons_of_mem _ hc))]
  congr 1
  simp;omega
theorem xL {p r:Bs}(hp:p≠[])(h:∀b∈p,r9 b=true):ab (p++58::r) (p++58::r) 0=(bE p,r,true):=by
 rw [BO _ p (58::r) 0 h]
 have h0:¬(0+p.length=0):=by simpa using hp
 show(if r9 58=true then _ else if 0+p.length=0 then _ else if(58:UInt8).toNat=58 then _ else _)=_
 rw [if_neg (by decide),if_neg h0]
 show(bE ((p++58::r).take (0+p.length)),(p++58::r).drop (0+p.length+1),true)=_
 rw [Nat.zero_add,List.take_left,←List.drop_drop,List.drop_left]
 rfl
theorem tN {sp:Bool}{n:Int}{l:Bs}(h:az sp l 0=false):aC l.length sp n l=l:=BN (by rw [h];simp)
def mD(b:UInt8):Bool:=decide (b.toNat≤32)
def gN(b:UInt8):Bool:=decide (b=9∨b=10∨b=13)
def dk(l:Bs):Bs:=l.dropWhile mD
def cr(l:Bs):Bs:=(l.reverse.dropWhile mD).reverse
def an(l:Bs):Bs:=(cr (dk (bj l))).filter (fun b=>!gN b)
def RS.init(l:Bs):RS:=⟨[],[],[],0,[],0,z8,-1,false,true,[],false,[],false,[],false,false,l⟩
def LB:RS:={RS.init []with port:=0}
def L3(p:RS×Int):RS×Int:=if p.2=0 then p else(LB,p.2)
def bM(l:Bs):RS×Int:=L3 (RS.init (an l)).ao
section
theorem qQ(l:Bs):(bj l).length≤4*l.length:=by
 have a:=(mc (dy l)).2
 have b:=mb _ l (Nat.le_refl _)
 unfold bj;omega
theorem qR {b:UInt8}{r:Bs}(h:b.toNat≤32):dk (b::r)=dk r:=by
 unfold dk
 rw [List.dropWhile_cons_of_pos]
 unfold mD;exact decide_eq_true h
theorem qS {b:UInt8}{r:Bs}(h:¬b.toNat≤32):dk (b::r)=b::r:=by
 unfold dk
 rw [List.dropWhile_cons_of_neg]
 unfold mD;rw [decide_eq_true_iff];exact h
theorem Ae {b:UInt8}{r:Bs}(h:b.toNat≤32):cr (r++[b])=cr r:=by
 have:=qR (r:=r.reverse) h
 unfold dk at this
 unfold cr
 rw [List.reverse_append]
 show(List.dropWhile mD (b::r.reverse)).reverse=_
 rw [this]
theorem Af {b:UInt8}{r:Bs}(h:¬b.toNat≤32):cr (r++[b])=r++[b]:=by
 have:=qS (r:=r.reverse) h
 unfold dk at this
 unfold cr
 rw [List.reverse_append]
 show(List.dropWhile mD (b::r.reverse)).reverse=_
 rw [this];simp
theorem Gb {y m:Bs}(h:ji y m=false):∀b∈y,m.contains b=false:=by
 have h1:¬0≤Lib.indexAny y m:=of_decide_eq_false h
 have h2:=((zX m y).2 h1).2
 unfold aW at h2
 exact List.findIdx_eq_length.1 h2
theorem KP(c:UInt8):(bif bif !decide ((c.toNat:Int)=9)then !decide ((c.toNat:Int)=10)else false then !decide ((c.toNat:Int)=13)else false)=!gN c:=by
 have e:∀(d:UInt8),decide ((c.toNat:Int)=(d.toNat:Int))=decide (c=d):=fun d=>by
  rw [decide_eq_decide]
  exact ⟨fun h=>UInt8.toNat_inj.1 (by omega),fun h=>by rw [h]⟩
 have e9:=e 9
 have e10:=e 10
 have e13:=e 13
 rw [show(((9:UInt8).toNat:Nat):Int)=9 from rfl]at e9
 rw [show(((10:UInt8).toNat:Nat):Int)=10 from rfl]at e10
 rw [show(((13:UInt8).toNat:Nat):Int)=13 from rfl]at e13
 rw [e9,e10,e13]
 unfold gN
 by_cases h9:c=9<;>by_cases h10:c=10<;>by_cases h13:c=13<;>simp [h9,h10,h13]
theorem xM(y:Bs)(i:Int)(h0:0≤i)(h1:i<y.length):(y.take (i+1).toNat).filter (fun c=>!gN c)=(y.take i.toNat).filter (fun c=>!gN c)++(if gN (y.getD i.toNat 0)=true then []else [y.getD i.toNat 0]):=by
 have hs:(i+1).toNat=i.toNat+1:=by omega
 rw [hs,List.take_add_one,List.getElem?_eq_getElem (by omega),List.filter_append,List.getD_eq_getElem?_getD,List.getElem?_eq_getElem (by omega)]
 congr 1
 show List.filter _ [y[i.toNat]'(by omega)]=_
 rw [List.filter_cons,List.filter_nil]
 show(if(!gN (y[i.toNat]'(by omega)))=true then _ else _)=(if gN (y[i.toNat]'(by omega))=true then _ else _)
 cases gN (y[i.toNat]'(by omega))<;>rfl
def BP:cq:=bR [(41,nM),(74,mv)]
def BQ(l:Bs):ba:=fun i=>bif Nat.beq i 2 then some ⟨(Bs),(fun s x=>((s.put 0 (.str x)).put 14 .undef)),(fun s=>s.str 0),(fun s x=>let y:=x;y.length≤300000∧dk y=dk (bj l)),(fun s x=>let y:=x;y.length),[14]⟩else bif Nat.beq i 4 then some ⟨(Bs),(fun s x=>((s.put 0 (.str x)).put 26 .undef)),(fun s=>s.str 0),(fun s x=>let y:=x;y.length≤300000∧cr y=cr (dk (bj l))),(fun s x=>let y:=x;y.length),[26]⟩else bif Nat.beq i 10 then some ⟨(Int)×(Bool×Bs),(fun s x=>((((((s.put 41 (.int .i64 x.1)).row s 3 x.2.1 (.bytes x.2.2)).put 4 .undef).put 5 .undef).put 42 .undef).put 56 .undef)),(fun s=>(s.int 41,(s.nil 3,s.bytes 3))),(fun s x=>let i:=x.1;let b:=x.2;0≤i∧i≤(s.str 0).length∧b.1=false∧b.2=((s.str 0).take i.toNat).filter (fun c=>!gN c)),(fun s x=>let i:=x.1;let b:=x.2;(((s.str 0).length:Int)-i).toNat),[4,5,42,56]⟩else none
theorem Ag:cS Tryz.prog aA BP:=ai vf (ai lr (ax))
theorem Gc(l:Bs)(k:PV→Prop):cD Tryz.prog BP aA (BQ l) 1000 Tryz.f46 [.str l] k=(
 (List.length l).le (1000000:Nat)∧
 VS.mk []
 [(0,PV.str (bj l)),(2,PV.str (ByteArray.mk #[]).data.toList),
 (3,PV.undef),(4,PV.undef),(5,PV.undef),((14:Nat),PV.undef),(26,PV.undef),
 (34,PV.undef),(40,PV.undef),(41,PV.undef),(42,PV.undef),(56,PV.undef)]
 []=
 VS.mk []
 [((0:Nat),PV.str (bj l)),(2,PV.str (ByteArray.mk #[]).data.toList),
 (3,PV.undef),(4,PV.undef),(5,PV.undef),((14:Nat),PV.undef),(26,PV.undef),
 (34,PV.undef),(40,PV.undef),(41,PV.undef),(42,PV.undef),(56,PV.undef)]
 []∧
 ((bj l).length≤(300000:Nat)∧
 dk (bj l)=
 dk (bj l))∧
 ∀(x:List UInt8),
 x.length≤(300000:Nat)∧
 dk x=dk (bj l)→
 ((!decide (x=(ByteArray.mk #[]).data.toList))=true→within (0:Int) (al x))∧
 ((bif !decide (x=(ByteArray.mk #[]).data.toList)then decide (ak x (0:Int)≤(32:Int))else false)=true→
 upto (1:Int) (al x) (al x)∧
 rR (VS.mk []
 [((0:Nat),PV.str (aa x (1:Int))),(2,PV.str (ByteArray.mk #[]).data.toList),
 (3,PV.undef),(4,PV.undef),(5,PV.undef),((14:Nat),PV.undef),
 (26,PV.undef),(34,PV.undef),(40,PV.undef),(41,PV.undef),
 (42,PV.undef),(56,PV.undef)]
 [])∧
 ((aa x (1:Int)).length≤(300000:Nat)∧
 dk (aa x (1:Int))=
 dk (bj l))∧
 (aa x (1:Int)).length<x.length)∧
 ((bif !decide (x=(ByteArray.mk #[]).data.toList)then decide (ak x (0:Int)≤(32:Int))else false)=false→
 rR (VS.mk []
 [((0:Nat),PV.str x),(2,PV.str (ByteArray.mk #[]).data.toList),(3,PV.undef),
 (4,PV.undef),(5,PV.undef),
 ((14:Nat),
 PV.bool (bif !decide (x=(ByteArray.mk #[]).data.toList)then decide (ak x (0:Int)≤(32:Int))else false)),
 ((26:Nat),PV.undef),(34,PV.undef),(40,PV.undef),(41,PV.undef),
 (42,PV.undef),(56,PV.undef)]
 [])∧
 (x.length≤(300000:Nat)∧
 cr x=
 cr (dk (bj l)))∧
 ∀(x_1:List UInt8),
 x_1.length≤(300000:Nat)∧
 cr x_1=
 cr
 (dk (bj l))→
 ((!decide (x_1=(ByteArray.mk #[]).data.toList))=true→aG (al x_1-(1:Int)))∧
 ((!decide (x_1=(ByteArray.mk #[]).data.toList))=true→within (al x_1-(1:Int)) (al x_1))∧
 ((bif !decide (x_1=(ByteArray.mk #[]).data.toList)then decide (ak x_1 (al x_1-(1:Int))≤(32:Int))
 else false)=
 true→
 aG (al x_1-(1:Int))∧
 upto (0:Int) (al x_1-(1:Int)) (al x_1)∧
 rR (VS.mk []
 [((0:Nat),PV.str (ae x_1 (al x_1-(1:Int)))),
 (2,PV.str (ByteArray.mk #[]).data.toList),(3,PV.undef),(4,PV.undef),
 (5,PV.undef),
 ((14:Nat),
 PV.bool
 (bif !decide (x=(ByteArray.mk #[]).data.toList)then decide (ak x (0:Int)≤(32:Int))
 else false)),
 ((26:Nat),PV.undef),(34,PV.undef),(40,PV.undef),
 (41,PV.undef),(42,PV.undef),(56,PV.undef)]
 [])∧
 ((ae x_1 (al x_1-(1:Int))).length≤(300000:Nat)∧
 cr (ae x_1 (al x_1-(1:Int)))=
 cr
 (dk (bj l)))∧
 (ae x_1 (al x_1-(1:Int))).length<x_1.length)∧
 ((bif !decide (x_1=(ByteArray.mk #[]).data.toList)then decide (ak x_1 (al x_1-(1:Int))≤(32:Int))
 else false)=
 false→
 (x_1.length≤(1000000:Nat)∧
 (ByteArray.mk #[9,10,13]).data.toList.length≤(1000000:Nat)∧
 ∀(b:UInt8),b∈(ByteArray.mk #[9,10,13]).data.toList→b.toNat<(128:Nat))∧
 ((!ji x_1 (ByteArray.mk #[9,10,13]).data.toList)=
 true→
 k (PV.str x_1))∧
 ((!ji x_1 (ByteArray.mk #[9,10,13]).data.toList)=
 false→
 ((0:Int)≤(0:Int)∧(0:Int)≤al x_1∧al x_1≤de)∧
 VS.mk []
 [((0:Nat),PV.str x_1),(2,PV.str (ByteArray.mk #[]).data.toList),
 (3,
 PV.row false (ar.bytes (List.replicate (Int.toNat (0:Int)) (0:UInt8)))
 ((38:Nat)+(32:Nat))),
 ((4:Nat),PV.undef),((5:Nat),PV.undef),
 ((14:Nat),
 PV.bool
 (bif !decide (x=(ByteArray.mk #[]).data.toList)then decide (ak x (0:Int)≤(32:Int))
 else false)),
 ((26:Nat),
 PV.bool
 (bif !decide (x_1=(ByteArray.mk #[]).data.toList)then
 decide (ak x_1 (al x_1-(1:Int))≤(32:Int))
 else false)),
 (34,
 PV.bool
 !ji x_1
 (ByteArray.mk #[9,10,13]).data.toList),
 (40,PV.int .i64 (al x_1)),(41,PV.int .i64 (0:Int)),
 ((42:Nat),PV.undef),((56:Nat),PV.undef)]
 []=
 VS.mk []
 [((0:Nat),PV.str x_1),(2,PV.str (ByteArray.mk #[]).data.toList),
 ((3:Nat),
 PV.row false (ar.bytes (List.replicate (Int.toNat (0:Int)) (0:UInt8)))
 ((38:Nat)+(32:Nat))),
 ((4:Nat),PV.undef),((5:Nat),PV.undef),
 ((14:Nat),
 PV.bool
 (bif !decide (x=(ByteArray.mk #[]).data.toList)then decide (ak x (0:Int)≤(32:Int))
 else false)),
 ((26:Nat),
 PV.bool
 (bif !decide (x_1=(ByteArray.mk #[]).data.toList)then
 decide (ak x_1 (al x_1-(1:Int))≤(32:Int))
 else false)),
 (34,
 PV.bool
 !ji x_1
 (ByteArray.mk #[9,10,13]).data.toList),
 (40,PV.int .i64 (al x_1)),((41:Nat),PV.int .i64 (0:Int)),
 ((42:Nat),PV.undef),((56:Nat),PV.undef)]
 []∧
 ((0:Int)≤(0:Int)∧
 (0:Int)≤↑x_1.length∧
 false=false∧
 List.replicate (Int.toNat (0:Int)) (0:UInt8)=
 List.filter (fun(c:UInt8)↦!gN c)
 (List.take (Int.toNat (0:Int)) x_1))∧
 ∀(x_2:Int×Bool×Bs),
 (0:Int)≤x_2.1∧
 x_2.1≤↑x_1.length∧
 x_2.2.1=false∧
 x_2.2.2=
 List.filter (fun(c:UInt8)↦!gN c)
 (List.take x_2.1.toNat x_1)→
 (decide (x_2.1<al x_1)=true→
 within x_2.1 (al x_1)∧
 ((bif
 bif !decide (ak x_1 x_2.1=(9:Int))then
 !decide (ak x_1 x_2.1=(10:Int))
 else false then
 !decide (ak x_1 x_2.1=(13:Int))
 else false)=
 true→
 jr [PV.int .u8 (ak x_1 x_2.1)]∧
 Int.ofNat (List.length (x_2.2.2++[bo (ak x_1 x_2.1)]))≤de∧
 aG (x_2.1+(1:Int))∧
 VS.mk []
 [((0:Nat),PV.str x_1),(2,PV.str (ByteArray.mk #[]).data.toList),
 ((3:Nat),
 PV.row false
 (ar.bytes (x_2.2.2++[bo (ak x_1 x_2.1)]))
 (nat_lit 69+(1:Nat))),
 ((4:Nat),PV.undef),((5:Nat),PV.undef),
 ((14:Nat),
 PV.bool
 (bif !decide (x=(ByteArray.mk #[]).data.toList)then
 decide (ak x (0:Int)≤(32:Int))
 else false)),
 ((26:Nat),
 PV.bool
 (bif !decide (x_1=(ByteArray.mk #[]).data.toList)then
 decide (ak x_1 (al x_1-(1:Int))≤(32:Int))
 else false)),
 (34,
 PV.bool
 !ji x_1
 (ByteArray.mk #[9,10,13]).data.toList),
 (40,PV.int .i64 (al x_1)),
 ((41:Nat),PV.int .i64 (x_2.1+(1:Int))),
 ((42:Nat),PV.undef),((56:Nat),PV.undef)]
 []=
 VS.mk []
 [((0:Nat),PV.str x_1),(2,PV.str (ByteArray.mk #[]).data.toList),
 ((3:Nat),
 PV.row false
 (ar.bytes (x_2.2.2++[bo (ak x_1 x_2.1)]))
 ((38:Nat)+(32:Nat))),
 ((4:Nat),PV.undef),((5:Nat),PV.undef),
 ((14:Nat),
 PV.bool
 (bif !decide (x=(ByteArray.mk #[]).data.toList)then
 decide (ak x (0:Int)≤(32:Int))
 else false)),
 ((26:Nat),
 PV.bool
 (bif !decide (x_1=(ByteArray.mk #[]).data.toList)then
 decide (ak x_1 (al x_1-(1:Int))≤(32:Int))
 else false)),
 (34,
 PV.bool
 !ji x_1
 (ByteArray.mk #[9,10,13]).data.toList),
 (40,PV.int .i64 (al x_1)),
 ((41:Nat),PV.int .i64 (x_2.1+(1:Int))),
 ((42:Nat),PV.undef),((56:Nat),PV.undef)]
 []∧
 ((0:Int)≤x_2.1+(1:Int)∧
 x_2.1+(1:Int)≤↑x_1.length∧
 false=false∧
 x_2.2.2++[bo (ak x_1 x_2.1)]=
 List.filter (fun(c:UInt8)↦!gN c)
 (List.take (x_2.1+(1:Int)).toNat x_1))∧
 (↑x_1.length-(x_2.1+(1:Int))).toNat<(↑x_1.length-x_2.1).toNat)∧
 ((bif
 bif !decide (ak x_1 x_2.1=(9:Int))then
 !decide (ak x_1 x_2.1=(10:Int))
 else false then
 !decide (ak x_1 x_2.1=(13:Int))
 else false)=
 false→
 aG (x_2.1+(1:Int))∧
 rR (VS.mk []
 [((0:Nat),PV.str x_1),(2,PV.str (ByteArray.mk #[]).data.toList),
 ((3:Nat),
 PV.row x_2.2.1 (ar.bytes x_2.2.2) ((38:Nat)+(32:Nat))),
 ((4:Nat),PV.undef),((5:Nat),PV.undef),
 ((14:Nat),
 PV.bool
 (bif !decide (x=(ByteArray.mk #[]).data.toList)then
 decide (ak x (0:Int)≤(32:Int))
 else false)),
 ((26:Nat),
 PV.bool
 (bif !decide (x_1=(ByteArray.mk #[]).data.toList)then
 decide (ak x_1 (al x_1-(1:Int))≤(32:Int))
 else false)),
 (34,
 PV.bool
 !ji x_1
 (ByteArray.mk #[9,10,13]).data.toList),
 (40,PV.int .i64 (al x_1)),
 ((41:Nat),PV.int .i64 (x_2.1+(1:Int))),
 ((42:Nat),PV.undef),((56:Nat),PV.undef)]
 [])∧
 ((0:Int)≤x_2.1+(1:Int)∧
 x_2.1+(1:Int)≤↑x_1.length∧
 x_2.2.1=false∧
 x_2.2.2=
 List.filter (fun(c:UInt8)↦!gN c)
 (List.take (x_2.1+(1:Int)).toNat x_1))∧
 (↑x_1.length-(x_2.1+(1:Int))).toNat<(↑x_1.length-x_2.1).toNat))∧
 (decide (x_2.1<al x_1)=false→k (PV.str x_2.2.2)))))):=by kernel_rfl
attribute [local irreducible] Go.Vc.cD
theorem Gd(l:Bs):ag Tryz.prog aA 46 [.str l] ⟨l.length≤60000,.str (an l)⟩:=b5 (by kernel_rfl) Ag (H:=BQ l) (fuel:=1000) Tryz.func46 (by kernel_rfl) fun hpre=>(Gc l _).mpr (by
 have hp:=qQ l
 have e0:(ByteArray.mk #[]).data.toList=([]:Bs):=rfl
 have h9:∀b:UInt8,b∈(ByteArray.mk #[9,10,13]).data.toList→b.toNat<128:=by rw [show(ByteArray.mk #[9,10,13]).data.toList=([9,10,13]:Bs)from rfl];decide
 have ne:∀x:Bs,(!decide (x=(ByteArray.mk #[]).data.toList))=true→0<x.length:=fun x h=>by
  have h':decide (x=(ByteArray.mk #[]).data.toList)=false:=by simpa using h
  exact List.length_pos_iff.2 (of_decide_eq_false h')
 have d1:∀x:Bs,(bif !decide (x=(ByteArray.mk #[]).data.toList)then decide (ak x (0:Int)≤(32:Int))else false)=true→∃b r,x=b::r∧b.toNat≤32:=fun x h=>by
  cases x with
  |nil=>cases h
  |cons b r=>
   refine ⟨b,r,rfl,?_⟩
   have:decide (ak (b::r) (0:Int)≤(32:Int))=true:=h
   have:=of_decide_eq_true this
   have e:ak (b::r) 0=(b.toNat:Int):=rfl
   omega
 have d0:∀x:Bs,(bif !decide (x=(ByteArray.mk #[]).data.toList)then decide (ak x (0:Int)≤(32:Int))else false)=false→dk x=x:=fun x h=>by
  cases x with
  |nil=>rfl
  |cons b r=>
   have:decide (ak (b::r) (0:Int)≤(32:Int))=false:=h
   have:=of_decide_eq_false this
   have e:ak (b::r) 0=(b.toNat:Int):=rfl
   exact qS (by omega)
 have lastb:∀(r:Bs) (b:UInt8),ak (r++[b]) (al (r++[b])-1)=(b.toNat:Int):=fun r b=>by
  unfold ak al
  have:(((r++[b]).length:Int)-1).toNat=r.length:=by simp
  rw [this];simp
 have g1:∀x:Bs,(bif !decide (x=(ByteArray.mk #[]).data.toList)then decide (ak x (al x-(1:Int))≤(32:Int))else false)=true→∃b r,x=r++[b]∧b.toNat≤32:=fun x h=>by
  rcases List.eq_nil_or_concat x with rfl|⟨r,b,rfl⟩
  ·cases h
  ·refine ⟨b,r,by simp,?_⟩
   rw [List.concat_eq_append]at h
   cases e:(!decide (r++[b]=(ByteArray.mk #[]).data.toList))with
   |false=>rw [e]at h;cases h
   |true=>
    rw [e]at h
    have:=of_decide_eq_true (show decide _=true from h)
    rw [lastb]at this
    omega
 have g0:∀x:Bs,(bif !decide (x=(ByteArray.mk #[]).data.toList)then decide (ak x (al x-(1:Int))≤(32:Int))else false)=false→cr x=x:=fun x h=>by
  rcases List.eq_nil_or_concat x with rfl|⟨r,b,rfl⟩
  ·rfl
  ·rw [List.concat_eq_append]at h⊢
   cases e:(!decide (r++[b]=(ByteArray.mk #[]).data.toList))with
   |false=>
    have:decide (r++[b]=(ByteArray.mk #[]).data.toList)=true:=by rw [←Bool.not_eq_false'];exact e
    have:=of_decide_eq_true this
    exact absurd this (by rw [e0];simp)
   |true=>
    rw [e]at h
    have:=of_decide_eq_false (show decide _=false from h)
    rw [lastb]at this
    exact Af (by omega)
 refine ⟨show l.length≤1000000 by omega,rfl,⟨by omega,rfl⟩,fun x ⟨h1,h2⟩=>⟨fun h=>?_,fun h=>?_,fun h=>⟨rfl,⟨h1,by rw [←h2,d0 x h]⟩,fun y ⟨h3,h4⟩=>⟨fun g=>?_,fun g=>?_,fun g=>?_,fun g=>⟨⟨by omega,by decide,h9⟩,fun c=>?_,fun c=>⟨⟨Int.le_refl _,by unfold al;omega,by unfold al de;omega⟩,rfl,⟨Int.le_refl _,by omega,rfl,rfl⟩,fun z ⟨z0,z1,z2,z3⟩=>⟨fun d=>?_,fun d=>?_⟩⟩⟩⟩⟩⟩⟩
 ·have:=ne x h;unfold within al;omega
 ·obtain ⟨b,r,rfl,hb⟩:=d1 x h
  rw [qR hb]at h2
  rw [List.length_cons]at h1
  refine ⟨by unfold upto al;rw [List.length_cons];omega,rfl,⟨?_,h2⟩,?_⟩
  ·show r.length≤_;omega
  ·show r.length<(b::r).length;rw [List.length_cons];omega
 ·have:=ne y g;unfold aG al;omega
 ·have:=ne y g;unfold within al;omega
 ·obtain ⟨b,r,rfl,hb⟩:=g1 y g
  rw [Ae hb]at h4
  rw [List.length_append]at h3
  have hl:(r++[b]).length=r.length+1:=by simp
  have e:ae (r++[b]) (al (r++[b])-1)=r:=by
   unfold ae al
   have:(((r++[b]).length:Int)-1).toNat=r.length:=by simp
   rw [this,List.take_left]
  rw [e]
  exact ⟨by unfold aG al;omega,by unfold upto al;omega,rfl,⟨by omega,h4⟩,by omega⟩
 ·have hc:ji y [9,10,13]=false:=by simpa using c
  have h5:=Gb hc
  have h6:y.filter (fun c=>!gN c)=y:=by
   rw [List.filter_eq_self]
   intro b hb
   have:=h5 b hb
   unfold gN
   rw [Bool.not_eq_true',decide_eq_false_iff_not]
   rintro (rfl|rfl|rfl)<;>revert this<;>decide
  show PV.str y=PV.str (an l)
  unfold an
  rw [←h4,g0 y g,h6]
 ·have hlt:z.1<y.length:=of_decide_eq_true d
  have hst:=xM y z.1 z0 hlt
  have hby:ak y z.1=((y.getD z.1.toNat 0).toNat:Int):=rfl
  have hcr:=(y.getD z.1.toNat 0).toNat_lt
  have hzl:z.2.2.length≤y.length:=by rw [z3];exact Nat.le_trans (List.length_filter_le _ _) (by rw [List.length_take];exact Nat.min_le_right _ _)
  have hzb:bo (ak y z.1)=y.getD z.1.toNat 0:=jO y z.1
  rw [hzb,hby,KP]
  refine ⟨⟨z0,hlt⟩,fun e=>⟨?_,?_,by unfold aG;omega,rfl,⟨by omega,by omega,rfl,?_⟩,by omega⟩,fun e=>⟨by unfold aG;omega,rfl,⟨by omega,by omega,z2,?_⟩,by omega⟩⟩
  ·show pI (((y.getD z.1.toNat 0).toNat:Nat):Int);unfold pI;omega
  ·rw [List.length_append]
   show((z.2.2.length+1:Nat):Int)≤16777216
   omega
  ·rw [hst,if_neg (by simpa using e),z3]
  ·rw [hst,if_pos (by simpa using e),z3,List.append_nil]
 ·have hge:¬z.1<y.length:=of_decide_eq_false d
  show PV.str z.2.2=PV.str (an l)
  unfold an
  rw [z3,←h4,g0 y g,List.take_of_length_le (by omega)])
def ks:List PV→Option aI:=fun xs=>match xs with
 |[.str l]=>some ⟨l.length≤60000,.str (an l)⟩
 |_=>none
theorem mE:∀xs c,ks xs=some c→ag Tryz.prog aA 46 xs c:=fun xs c h=>by
 unfold ks at h
 split at h
 ·injection h with h;subst h;exact Gd _
 ·cases h
end
def bV(b:PV)(m:Nat)(sc us pw:Bs)(hk:Int)(hs:Bs)(hn:Int)(hp:List Int)(port:Int)(opq pn:Bool)(pl:List Bs)(hq:Bool)(q:Bs)(hf:Bool)(fg:Bs)(bare sp:Bool)(rst:Bs):PV:=(aE m b sc us pw hk hs hn hp port opq pn pl hq q hf fg bare sp rst)
theorem Ah(l:Bs)(sp:Bool):ag Tryz.prog aA 136 [.str l,.bool sp] ⟨l.length≤300000,.tup [.agg [.int .i64 (aO sp l).1,.str (aO sp l).2.1,.int .u32 (aO sp l).2.2.1,.arr 8 (.ints .u16 (aO sp l).2.2.2.1)],.int .i64 (aO sp l).2.2.2.2]⟩:=by
 cases sp with
 |true=>exact (tJ l).to (fun h=>by show l.length≤1000000;omega) (fun _=>rfl)
 |false=>exact (Ab l).to (fun h=>h) (fun _=>rfl)
def jV:List PV→Option aI:=fun xs=>match xs with |[.str l,.bool sp]=>some ⟨l.length≤300000,.tup [.agg [.int .i64 (aO sp l).1,.str (aO sp l).2.1,.int .u32 (aO sp l).2.2.1,.arr 8 (.ints .u16 (aO sp l).2.2.2.1)],.int .i64 (aO sp l).2.2.2.2]⟩|_=>none
theorem qT:∀xs c,jV xs=some c→ag Tryz.prog aA 136 xs c:=fun xs c h=>by
 unfold jV at h
 split at h
 ·injection h with h;subst h;exact Ah _ _
 ·cases h
theorem IU(l:Bs):ag Tryz.prog aA 119 [.str l] ⟨l.length≤300000∧(ab l l 0).2.2=true,.tup [.str (ab l l 0).1,.str (ab l l 0).2.1,.bool true]⟩:=(tH l).to (fun h=>h.1) (fun h=>by rw [h.2])
theorem IV(l:Bs):ag Tryz.prog aA 119 [.str l] ⟨l.length≤300000∧(ab l l 0).2.2=false,.tup [.str (ab l l 0).1,.str (ab l l 0).2.1,.bool false]⟩:=(tH l).to (fun h=>h.1) (fun h=>by rw [h.2])
def qU:List PV→Option aI:=fun xs=>match xs with |[.str l]=>some ⟨l.length≤300000∧(ab l l 0).2.2=true,.tup [.str (ab l l 0).1,.str (ab l l 0).2.1,.bool true]⟩|_=>none
theorem xN:∀xs c,qU xs=some c→ag Tryz.prog aA 119 xs c:=fun xs c h=>by
 unfold qU at h
 split at h
 ·injection h with h;subst h;exact IU _
 ·cases h
def mF:List PV→Option aI:=fun xs=>match xs with |[.str l]=>some ⟨l.length≤300000∧(ab l l 0).2.2=false,.tup [.str (ab l l 0).1,.str (ab l l 0).2.1,.bool false]⟩|_=>none
theorem oO:∀xs c,mF xs=some c→ag Tryz.prog aA 119 xs c:=fun xs c h=>by
 unfold mF at h
 split at h
 ·injection h with h;subst h;exact IV _
 ·cases h
def tO(l:Bs):Bool:=decide (l=[])||decide (ak l 0=35)
def RS.LC(x b:RS):RS:={x with hk:=b.hk,hs:=b.hs,hn:=b.hn,hp:=b.hp}
def RS.LD(x b:RS):RS:={x with pn:=b.pn,pl:=b.pl}
def RS.Ge(x b:RS):RS:={x with hq:=b.hq,q:=b.q}
def RS.qV(x b:RS):RS:=if tO x.rst=true then x.Ge b else x
def RS.short(x:RS):RS:={x with pn:=(b6 x.sc (x.pn,x.pl)).1,pl:=(b6 x.sc (x.pn,x.pl)).2}
def RS.cc(x b:RS):RS:=(((RS.LC {x with hk:=1} b).LD b).short).path
def RS.aw(x b:RS):RS:=(RS.cc {x with sc:=b.sc,bare:=true,sp:=ay b.sc} b).tail
theorem KQ(l:Bs):ag Tryz.prog aA 156 [.str l] ⟨l.length≤1000000,.bool (bC l)⟩:=
 ag.b9 Tryz.func156 (by kernel_rfl) rfl fun h0 F w vs _ _ hw hx=>by
  obtain ⟨_,_,rfl,r1,rfl⟩:=hx
  obtain rfl:=r1
  exact ⟨.bool (bC l),(zD l w h0).mono fun e w' ⟨h1,h2⟩=>⟨h1,h2▸Below.refl _ _⟩,fun G w=>rfl⟩
def vk:List PV→Option aI:=fun xs=>match xs with
 |[.str l]=>some ⟨l.length≤1000000,.bool (bC l)⟩
 |_=>none
theorem Ai:∀xs c,vk xs=some c→ag Tryz.prog aA 156 xs c:=fun xs c h=>by
 unfold vk at h
 split at h
 ·injection h with h;subst h;exact KQ _
 ·cases h
section
def tP:cq:=bR [(119,mF),(27,dQ),(78,da)]
def tQ(sc us pw:Bs)(hk:Int)(hs:Bs)(hn:Int)(hp:List Int)(port:Int)(opq pn:Bool)(pl:List Bs)(hq:Bool)(q:Bs)(hf:Bool)(fg:Bs)(bare sp:Bool)(rst:Bs)(bsc bus bpw:Bs)(bhk:Int)(bhs:Bs)(bhn:Int)(bhp:List Int)(bport:Int)(bopq bpn:Bool)(bpl:List Bs)(bhq:Bool)(bq:Bs)(bhf:Bool)(bfg:Bs):ba:=fun i=>none
theorem vm:cS Tryz.prog aA tP:=ai oO (ai dR (ai cK (ax)))
theorem Aj(sc us pw:Bs)(hk:Int)(hs:Bs)(hn:Int)(hp:List Int)(port:Int)(opq pn:Bool)(pl:List Bs)(hq:Bool)(q:Bs)(hf:Bool)(fg:Bs)(bare sp:Bool)(rst:Bs)(bsc bus bpw:Bs)(bhk:Int)(bhs:Bs)(bhn:Int)(bhp:List Int)(bport:Int)(bopq bpn:Bool)(bpl:List Bs)(bhq:Bool)(bq:Bs)(bhf:Bool)(bfg:Bs)(k:PV→List PV→Prop):bQ Tryz.prog tP aA (tQ sc us pw hk hs hn hp port opq pn pl hq q hf fg bare sp rst bsc bus bpw bhk bhs bhn bhp bport bopq bpn bpl bhq bq bhf bfg) 1000 Tryz.f75 [.ptr 0 0] [aE 1 (.ptr 1 0) sc us pw hk hs hn hp port opq pn pl hq q hf fg bare sp rst,bG 0 bsc bus bpw bhk bhs bhn bhp bport bopq bpn bpl bhq bq bhf bfg] k=(
 (List.length rst≤(300000:Nat)∧
 (ab rst rst (0:Nat)).2.2=false)∧
 (false=true→
 True∧
 (bopq=true→
 False)∧
 (bopq=false→
 k (PV.int .i64 (0:Int)) [bV (PV.ptr (1:Nat) (0:Nat)) 1 ((ab rst rst (0:Nat)).1) us pw hk hs hn hp port opq pn pl hq q hf fg (!false) (ay (ab rst rst (0:Nat)).1) ((ab rst rst (0:Nat)).2.1),bG (0:Nat) bsc bus bpw bhk bhs bhn bhp bport bopq bpn bpl bhq bq bhf bfg]))∧
 (false=false→
 (false=true→
 (false=true→
 k (PV.int .i64 (8:Int)) [bV (PV.ptr (1:Nat) (0:Nat)) 1 sc us pw hk hs hn hp port opq pn pl hq q hf fg bare sp rst,bG (0:Nat) bsc bus bpw bhk bhs bhn bhp bport bopq bpn bpl bhq bq bhf bfg])∧
 (false=false→
 True∧
 (bopq=true→
 False)∧
 (bopq=false→
 k (PV.int .i64 (0:Int)) [bV (PV.ptr (1:Nat) (0:Nat)) 1 bsc us pw hk hs hn hp port opq pn pl hq q hf fg (!false) (ay bsc) rst,bG (0:Nat) bsc bus bpw bhk bhs bhn bhp bport bopq bpn bpl bhq bq bhf bfg])))∧
 (false=false→
 (bopq=true→
 True)∧
 ((bif bopq then !preB rst (ByteArray.mk #[35]).data.toList else false)=true→
 k (PV.int .i64 (8:Int)) [bV (PV.ptr (1:Nat) (0:Nat)) 1 sc us pw hk hs hn hp port opq pn pl hq q hf fg bare sp rst,bG (0:Nat) bsc bus bpw bhk bhs bhn bhp bport bopq bpn bpl bhq bq bhf bfg])∧
 ((bif bopq then !preB rst (ByteArray.mk #[35]).data.toList else false)=false→
 True∧
 (bopq=true→
 False)∧
 (bopq=false→
 k (PV.int .i64 (0:Int)) [bV (PV.ptr (1:Nat) (0:Nat)) 1 bsc us pw hk hs hn hp port opq pn pl hq q hf fg (!false) (ay bsc) rst,bG (0:Nat) bsc bus bpw bhk bhs bhn bhp bport bopq bpn bpl bhq bq bhf bfg]))))):=by kernel_rfl
attribute [local irreducible] Go.Vc.cD Go.Vc.bQ
theorem vn(sc us pw:Bs)(hk:Int)(hs:Bs)(hn:Int)(hp:List Int)(port:Int)(opq pn:Bool)(pl:List Bs)(hq:Bool)(q:Bs)(hf:Bool)(fg:Bs)(bare sp:Bool)(rst:Bs)(bsc bus bpw:Bs)(bhk:Int)(bhs:Bs)(bhn:Int)(bhp:List Int)(bport:Int)(bopq bpn:Bool)(bpl:List Bs)(bhq:Bool)(bq:Bs)(bhf:Bool)(bfg:Bs):br Tryz.prog aA 75 [.ptr 0 0] [aE 1 (.ptr 1 0) sc us pw hk hs hn hp port opq pn pl hq q hf fg bare sp rst,bG 0 bsc bus bpw bhk bhs bhn bhp bport bopq bpn bpl bhq bq bhf bfg] (rst.length≤300000∧(ab rst rst 0).2.2=false∧bopq=false) (.int .i64 0) [aE 1 (.ptr 1 0) bsc us pw hk hs hn hp port opq pn pl hq q hf fg true (ay bsc) rst,bG 0 bsc bus bpw bhk bhs bhn bhp bport bopq bpn bpl bhq bq bhf bfg]:=bH (by kernel_rfl) vm (H:=tQ sc us pw hk hs hn hp port opq pn pl hq q hf fg bare sp rst bsc bus bpw bhk bhs bhn bhp bport bopq bpn bpl bhq bq bhf bfg) (fuel:=1000) Tryz.func75 (by kernel_rfl) (Nat.le_of_ble_eq_true rfl) fun hpre=>(Aj sc us pw hk hs hn hp port opq pn pl hq q hf fg bare sp rst bsc bus bpw bhk bhs bhn bhp bport bopq bpn bpl bhq bq bhf bfg _).mpr (by
 obtain ⟨h1,h2,rfl⟩:=hpre
 exact ⟨⟨h1,h2⟩,nofun,fun _=>⟨nofun,fun _=>⟨nofun,nofun,fun _=>⟨trivial,nofun,fun _=>⟨rfl,rfl⟩⟩⟩⟩⟩)
theorem Ak(sc us pw:Bs)(hk:Int)(hs:Bs)(hn:Int)(hp:List Int)(port:Int)(opq pn:Bool)(pl:List Bs)(hq:Bool)(q:Bs)(hf:Bool)(fg:Bs)(bare sp:Bool)(rst:Bs)(bsc bus bpw:Bs)(bhk:Int)(bhs:Bs)(bhn:Int)(bhp:List Int)(bport:Int)(bopq bpn:Bool)(bpl:List Bs)(bhq:Bool)(bq:Bs)(bhf:Bool)(bfg:Bs):ag Tryz.prog aA 75 [.ptr 0 0,aE 1 (.ptr 1 0) sc us pw hk hs hn hp port opq pn pl hq q hf fg bare sp rst,bG 0 bsc bus bpw bhk bhs bhn bhp bport bopq bpn bpl bhq bq bhf bfg] ⟨rst.length≤300000∧(ab rst rst 0).2.2=false∧bopq=false,.tup [.int .i64 0,aE 1 (.ptr 1 0) bsc us pw hk hs hn hp port opq pn pl hq q hf fg true (ay bsc) rst,bG 0 bsc bus bpw bhk bhs bhn bhp bport bopq bpn bpl bhq bq bhf bfg]⟩:=ag.bd (fun h=>by have e:List.isEmpty (PV.aB PV.bD [.ptr 0 0,aE 1 (.ptr 1 0) sc us pw hk hs hn hp port opq pn pl hq q hf fg bare sp rst,bG 0 bsc bus bpw bhk bhs bhn bhp bport bopq bpn bpl bhq bq bhf bfg])=false:=(by kernel_rfl);exact Bool.noConfusion (e.symm.trans (congrArg List.isEmpty h))) (vn sc us pw hk hs hn hp port opq pn pl hq q hf fg bare sp rst bsc bus bpw bhk bhs bhn bhp bport bopq bpn bpl bhq bq bhf bfg)
def jW:List PV→Option aI:=fun xs=>match xs with
 |[.ptr 0 0,aE 1 (.ptr 1 0) sc us pw hk hs hn hp port opq pn pl hq q hf fg bare sp rst,bG 0 bsc bus bpw bhk bhs bhn bhp bport bopq bpn bpl bhq bq bhf bfg]=>some ⟨rst.length≤300000∧(ab rst rst 0).2.2=false∧bopq=false,.tup [.int .i64 0,aE 1 (.ptr 1 0) bsc us pw hk hs hn hp port opq pn pl hq q hf fg true (ay bsc) rst,bG 0 bsc bus bpw bhk bhs bhn bhp bport bopq bpn bpl bhq bq bhf bfg]⟩
 |_=>none
theorem qW:∀xs c,jW xs=some c→ag Tryz.prog aA 75 xs c:=fun xs c h=>by
 unfold jW at h
 split at h
 ·injection h with h;subst h;exact Ak _ _ _ _ _ _ _ _ _ _ _ _ _ _ _ _ _ _ _ _ _ _ _ _ _ _ _ _ _ _ _ _ _
 ·cases h
end
section
def BR:cq:=bR []
def BS(bp:Option Addr)(sc us pw:Bs)(hk:Int)(hs:Bs)(hn:Int)(hp:List Int)(port:Int)(opq pn:Bool)(pl:List Bs)(hq:Bool)(q:Bs)(hf:Bool)(fg:Bs)(bare sp:Bool)(rst:Bs)(at_:Int):ba:=fun i=>none
theorem Al:cS Tryz.prog aA BR:=ax
theorem Gf(bp:Option Addr)(sc us pw:Bs)(hk:Int)(hs:Bs)(hn:Int)(hp:List Int)(port:Int)(opq pn:Bool)(pl:List Bs)(hq:Bool)(q:Bs)(hf:Bool)(fg:Bs)(bare sp:Bool)(rst:Bs)(at_:Int)(k:PV→List PV→Prop):bQ Tryz.prog BR aA (BS bp sc us pw hk hs hn hp port opq pn pl hq q hf fg bare sp rst at_) 1000 Tryz.f82 [.ptr 0 0,.int .i64 at_] [aE 1 (.raw (.pointer bp)) sc us pw hk hs hn hp port opq pn pl hq q hf fg bare sp rst] k=(
 (decide (at_<al rst)=true→
 within at_ (al rst))∧
 (decide (at_<al rst)=true→
 decide (ak rst at_=(47:Int))=false→
 sp=true→
 within at_ (al rst))∧
 k (PV.bool (bif decide (at_<al rst)then bif decide (ak rst at_=(47:Int))then true else bif sp then decide (ak rst at_=(92:Int))else false else false)) [bV (PV.raw (Go.Value.pointer bp)) 1 sc us pw hk hs hn hp port opq pn pl hq q hf fg bare sp rst]):=by kernel_rfl
attribute [local irreducible] Go.Vc.cD Go.Vc.bQ
theorem qX(bp:Option Addr)(sc us pw:Bs)(hk:Int)(hs:Bs)(hn:Int)(hp:List Int)(port:Int)(opq pn:Bool)(pl:List Bs)(hq:Bool)(q:Bs)(hf:Bool)(fg:Bs)(bare sp:Bool)(rst:Bs)(at_:Int):br Tryz.prog aA 82 [.ptr 0 0,.int .i64 at_] [aE 1 (.raw (.pointer bp)) sc us pw hk hs hn hp port opq pn pl hq q hf fg bare sp rst] (0≤at_∧at_<1000) (.bool (az sp rst at_)) [aE 1 (.raw (.pointer bp)) sc us pw hk hs hn hp port opq pn pl hq q hf fg bare sp rst]:=bH (by kernel_rfl) Al (H:=BS bp sc us pw hk hs hn hp port opq pn pl hq q hf fg bare sp rst at_) (fuel:=1000) Tryz.func82 (by kernel_rfl) (Nat.le_of_ble_eq_true rfl) fun hpre=>(Gf bp sc us pw hk hs hn hp port opq pn pl hq q hf fg bare sp rst at_ _).mpr (by
 refine ⟨fun h=>?_,fun h _ _=>?_,?_,rfl⟩
 ·unfold within;simp at h;omega
 ·unfold within;simp at h;omega
 ·congr 1
  by_cases h1:at_<al rst<;>by_cases h2:ak rst at_=47<;>cases sp<;>simp [az,h1,h2])
theorem Gg(bp:Option Addr)(sc us pw:Bs)(hk:Int)(hs:Bs)(hn:Int)(hp:List Int)(port:Int)(opq pn:Bool)(pl:List Bs)(hq:Bool)(q:Bs)(hf:Bool)(fg:Bs)(bare sp:Bool)(rst:Bs)(at_:Int):ag Tryz.prog aA 82 [.ptr 0 0,.int .i64 at_,aE 1 (.raw (.pointer bp)) sc us pw hk hs hn hp port opq pn pl hq q hf fg bare sp rst] ⟨0≤at_∧at_<1000,.tup [.bool (az sp rst at_),aE 1 (.raw (.pointer bp)) sc us pw hk hs hn hp port opq pn pl hq q hf fg bare sp rst]⟩:=ag.bd (fun h=>by have e:List.isEmpty (PV.aB PV.bD [.ptr 0 0,.int .i64 at_,aE 1 (.raw (.pointer bp)) sc us pw hk hs hn hp port opq pn pl hq q hf fg bare sp rst])=false:=(by kernel_rfl);exact Bool.noConfusion (e.symm.trans (congrArg List.isEmpty h))) (qX bp sc us pw hk hs hn hp port opq pn pl hq q hf fg bare sp rst at_)
def gx:List PV→Option aI:=fun xs=>match xs with
 |[.ptr 0 0,.int .i64 at_,aE 1 (.raw (.pointer bp)) sc us pw hk hs hn hp port opq pn pl hq q hf fg bare sp rst]=>some ⟨0≤at_∧at_<1000,.tup [.bool (az sp rst at_),aE 1 (.raw (.pointer bp)) sc us pw hk hs hn hp port opq pn pl hq q hf fg bare sp rst]⟩
 |_=>none
theorem gr:∀xs c,gx xs=some c→ag Tryz.prog aA 82 xs c:=fun xs c h=>by
 unfold gx at h
 split at h
 ·injection h with h;subst h;exact Gg _ _ _ _ _ _ _ _ _ _ _ _ _ _ _ _ _ _ _ _
 ·cases h
end
section
def oP:cq:=bR [(82,gx)]
def oQ(bp:Option Addr)(sc us pw:Bs)(hk:Int)(hs:Bs)(hn:Int)(hp:List Int)(port:Int)(opq pn:Bool)(pl:List Bs)(hq:Bool)(q:Bs)(hf:Bool)(fg:Bs)(bare sp:Bool)(rst:Bs):ba:=fun i=>none
theorem qY:cS Tryz.prog aA oP:=ai gr (ax)
theorem vo(bp:Option Addr)(sc us pw:Bs)(hk:Int)(hs:Bs)(hn:Int)(hp:List Int)(port:Int)(opq pn:Bool)(pl:List Bs)(hq:Bool)(q:Bs)(hf:Bool)(fg:Bs)(bare sp:Bool)(rst:Bs)(k:PV→List PV→Prop):bQ Tryz.prog oP aA (oQ bp sc us pw hk hs hn hp port opq pn pl hq q hf fg bare sp rst) 1000 Tryz.f84 [.ptr 0 0] [aE 1 (.raw (.pointer bp)) sc us pw hk hs hn hp port opq pn pl hq q hf fg bare sp rst] k=(
 ((0:Int)≤(0:Int)∧
 (0:Int)<(1000:Int))∧
 ((!az sp rst (0:Int))=true→
 k (PV.bool false) [bV (PV.raw (Go.Value.pointer bp)) 1 sc us pw hk hs hn hp port opq pn pl hq q hf fg bare sp rst])∧
 ((!az sp rst (0:Int))=false→
 upto (1:Int) (al rst) (al rst)∧
 k (PV.bool true) [bV (PV.raw (Go.Value.pointer bp)) 1 sc us pw hk hs hn hp port opq pn pl hq q hf fg bare sp (aa rst (1:Int))])):=by kernel_rfl
attribute [local irreducible] Go.Vc.cD Go.Vc.bQ
theorem jX(bp:Option Addr)(sc us pw:Bs)(hk:Int)(hs:Bs)(hn:Int)(hp:List Int)(port:Int)(opq pn:Bool)(pl:List Bs)(hq:Bool)(q:Bs)(hf:Bool)(fg:Bs)(bare sp:Bool)(rst:Bs):br Tryz.prog aA 84 [.ptr 0 0] [aE 1 (.raw (.pointer bp)) sc us pw hk hs hn hp port opq pn pl hq q hf fg bare sp rst] (True) (.bool (az sp rst 0)) [aE 1 (.raw (.pointer bp)) sc us pw hk hs hn hp port opq pn pl hq q hf fg bare sp (if az sp rst 0=true then aa rst 1 else rst)]:=bH (by kernel_rfl) qY (H:=oQ bp sc us pw hk hs hn hp port opq pn pl hq q hf fg bare sp rst) (fuel:=1000) Tryz.func84 (by kernel_rfl) (Nat.le_of_ble_eq_true rfl) fun hpre=>(vo bp sc us pw hk hs hn hp port opq pn pl hq q hf fg bare sp rst _).mpr (by
 refine ⟨by omega,fun h=>?_,fun h=>⟨?_,?_⟩⟩
 ·rw [show az sp rst 0=false by simpa using h];exact ⟨rfl,rfl⟩
 ·have:=pE (show az sp rst 0=true by simpa using h)
  unfold upto;omega
 ·rw [show az sp rst 0=true by simpa using h];exact ⟨rfl,rfl⟩)
theorem vp(bp:Option Addr)(sc us pw:Bs)(hk:Int)(hs:Bs)(hn:Int)(hp:List Int)(port:Int)(opq pn:Bool)(pl:List Bs)(hq:Bool)(q:Bs)(hf:Bool)(fg:Bs)(bare sp:Bool)(rst:Bs):ag Tryz.prog aA 84 [.ptr 0 0,aE 1 (.raw (.pointer bp)) sc us pw hk hs hn hp port opq pn pl hq q hf fg bare sp rst] ⟨True,.tup [.bool (az sp rst 0),aE 1 (.raw (.pointer bp)) sc us pw hk hs hn hp port opq pn pl hq q hf fg bare sp (if az sp rst 0=true then aa rst 1 else rst)]⟩:=ag.bd (fun h=>by have e:List.isEmpty (PV.aB PV.bD [.ptr 0 0,aE 1 (.raw (.pointer bp)) sc us pw hk hs hn hp port opq pn pl hq q hf fg bare sp rst])=false:=(by kernel_rfl);exact Bool.noConfusion (e.symm.trans (congrArg List.isEmpty h))) (jX bp sc us pw hk hs hn hp port opq pn pl hq q hf fg bare sp rst)
def fE:List PV→Option aI:=fun xs=>match xs with
 |[.ptr 0 0,aE 1 (.raw (.pointer bp)) sc us pw hk hs hn hp port opq pn pl hq q hf fg bare sp rst]=>some ⟨True,.tup [.bool (az sp rst 0),aE 1 (.raw (.pointer bp)) sc us pw hk hs hn hp port opq pn pl hq q hf fg bare sp (if az sp rst 0=true then aa rst 1 else rst)]⟩
 |_=>none
theorem iP:∀xs c,fE xs=some c→ag Tryz.prog aA 84 xs c:=fun xs c h=>by
 unfold fE at h
 split at h
 ·injection h with h;subst h;exact vp _ _ _ _ _ _ _ _ _ _ _ _ _ _ _ _ _ _ _
 ·cases h
end
section
def kL:cq:=bR [(82,gx)]
def kM(bp:Option Addr)(sc us pw:Bs)(hk:Int)(hs:Bs)(hn:Int)(hp:List Int)(port:Int)(opq pn:Bool)(pl:List Bs)(hq:Bool)(q:Bs)(hf:Bool)(fg:Bs)(bare sp:Bool)(rst:Bs):ba:=fun i=>bif Nat.beq i 1 then some ⟨(Int)×(Bs),(fun s x=>((((((((((((((s.put 2 (.int .i64 x.1)).Lq 0 [4] (.str x.2)).put 3 .undef).put 4 .undef).put 5 .undef).put 6 .undef).put 7 .undef).put 8 .undef).put 9 .undef).put 10 .undef).put 11 .undef).put 12 .undef).put 13 .undef).put 14 .undef)),(fun s=>(s.int 2,(s.bx 0 [4]).dd)),(fun s x=>let n:=x.1;let x:=x.2;0≤n∧n+x.length=rst.length∧aC x.length sp n x=aC rst.length sp 0 rst),(fun s x=>let n:=x.1;let x:=x.2;x.length),[3,4,5,6,7,8,9,10,11,12,13,14]⟩else none
theorem nR:cS Tryz.prog aA kL:=ai gr (ax)
theorem qZ(bp:Option Addr)(sc us pw:Bs)(hk:Int)(hs:Bs)(hn:Int)(hp:List Int)(port:Int)(opq pn:Bool)(pl:List Bs)(hq:Bool)(q:Bs)(hf:Bool)(fg:Bs)(bare sp:Bool)(rst:Bs)(k:PV→List PV→Prop):bQ Tryz.prog kL aA (kM bp sc us pw hk hs hn hp port opq pn pl hq q hf fg bare sp rst) 1000 Tryz.f79 [.ptr 0 0] [aE 1 (.raw (.pointer bp)) sc us pw hk hs hn hp port opq pn pl hq q hf fg bare sp rst] k=(
 VS.mk [] [(0,PV.ptr (0:Nat) (0:Nat)),(2,PV.int .i64 (0:Int)),((14:Nat),PV.undef)] [((0:Nat),bV (PV.raw (Go.Value.pointer bp)) 1 sc us pw hk hs hn hp port opq pn pl hq q hf fg bare sp rst)]=VS.mk [] [(0,PV.ptr (0:Nat) (0:Nat)),((2:Nat),PV.int .i64 (0:Int)),((14:Nat),PV.undef)] [((0:Nat),bV (PV.raw (Go.Value.pointer bp)) 1 sc us pw hk hs hn hp port opq pn pl hq q hf fg bare sp rst)]∧
 ((0:Int)≤(0:Int)∧
 (0:Int)+↑(List.length rst)=↑(List.length rst)∧
 aC (List.length rst) sp (0:Int) rst=aC (List.length rst) sp (0:Int) rst)∧
 ∀(x:Int×Bs),(0:Int)≤x.1∧
 x.1+↑(List.length x.2)=↑(List.length rst)∧
 aC (List.length x.2) sp x.1 x.2=aC (List.length rst) sp (0:Int) rst→
 ((0:Int)≤(0:Int)∧
 (0:Int)<(1000:Int))∧
 ((bif az sp x.2 (0:Int)then bif sp then true else decide (x.1<(2:Int))else false)=true→
 upto (1:Int) (al x.2) (al x.2)∧
 aG (x.1+(1:Int))∧
 rR (VS.mk [] [(0,PV.ptr (0:Nat) (0:Nat)),((2:Nat),PV.int .i64 (x.1+(1:Int))),((14:Nat),PV.undef)] [((0:Nat),bV (PV.raw (Go.Value.pointer bp)) 1 sc us pw hk hs hn hp port opq pn pl hq q hf fg bare sp (aa x.2 (1:Int)))])∧
 ((0:Int)≤x.1+(1:Int)∧
 x.1+(1:Int)+↑(aa x.2 (1:Int)).length=↑(List.length rst)∧
 aC (aa x.2 (1:Int)).length sp (x.1+(1:Int)) (aa x.2 (1:Int))=aC (List.length rst) sp (0:Int) rst)∧
 (aa x.2 (1:Int)).length<List.length x.2)∧
 ((bif az sp x.2 (0:Int)then bif sp then true else decide (x.1<(2:Int))else false)=false→
 k (PV.tup []) [bV (PV.raw (Go.Value.pointer bp)) 1 sc us pw hk hs hn hp port opq pn pl hq q hf fg bare sp x.2])):=by kernel_rfl
attribute [local irreducible] Go.Vc.cD Go.Vc.bQ
theorem nS(bp:Option Addr)(sc us pw:Bs)(hk:Int)(hs:Bs)(hn:Int)(hp:List Int)(port:Int)(opq pn:Bool)(pl:List Bs)(hq:Bool)(q:Bs)(hf:Bool)(fg:Bs)(bare sp:Bool)(rst:Bs):br Tryz.prog aA 79 [.ptr 0 0] [aE 1 (.raw (.pointer bp)) sc us pw hk hs hn hp port opq pn pl hq q hf fg bare sp rst] (rst.length≤300000) (.tup []) [aE 1 (.raw (.pointer bp)) sc us pw hk hs hn hp port opq pn pl hq q hf fg bare sp (aC rst.length sp 0 rst)]:=bH (by kernel_rfl) nR (H:=kM bp sc us pw hk hs hn hp port opq pn pl hq q hf fg bare sp rst) (fuel:=1000) Tryz.func79 (by kernel_rfl) (Nat.le_of_ble_eq_true rfl) fun hpre=>(qZ bp sc us pw hk hs hn hp port opq pn pl hq q hf fg bare sp rst _).mpr (by
 refine ⟨rfl,⟨by omega,by omega,rfl⟩,fun x ⟨h0,h1,h2⟩=>⟨by omega,fun hc=>?_,fun hc=>?_⟩⟩
 ·have hc:az sp x.2 0=true∧(sp=true∨x.1<2):=by
   cases h:az sp x.2 0<;>cases hs:sp<;>simp_all
  have hp:=qN hc.1
  have hl:=nP hp
  refine ⟨?_,?_,rfl,⟨by omega,by omega,?_⟩,by omega⟩
  ·unfold upto al;omega
  ·unfold aG;omega
  ·rw [←qO hc];exact h2
 ·have hc:¬(az sp x.2 0=true∧(sp=true∨x.1<2)):=by
   cases h:az sp x.2 0<;>cases hs:sp<;>simp_all
  rw [←h2,BN hc];exact ⟨rfl,rfl⟩)
theorem ra(bp:Option Addr)(sc us pw:Bs)(hk:Int)(hs:Bs)(hn:Int)(hp:List Int)(port:Int)(opq pn:Bool)(pl:List Bs)(hq:Bool)(q:Bs)(hf:Bool)(fg:Bs)(bare sp:Bool)(rst:Bs):ag Tryz.prog aA 79 [.ptr 0 0,aE 1 (.raw (.pointer bp)) sc us pw hk hs hn hp port opq pn pl hq q hf fg bare sp rst] ⟨rst.length≤300000,.tup [.tup [],aE 1 (.raw (.pointer bp)) sc us pw hk hs hn hp port opq pn pl hq q hf fg bare sp (aC rst.length sp 0 rst)]⟩:=ag.bd (fun h=>by have e:List.isEmpty (PV.aB PV.bD [.ptr 0 0,aE 1 (.raw (.pointer bp)) sc us pw hk hs hn hp port opq pn pl hq q hf fg bare sp rst])=false:=(by kernel_rfl);exact Bool.noConfusion (e.symm.trans (congrArg List.isEmpty h))) (nS bp sc us pw hk hs hn hp port opq pn pl hq q hf fg bare sp rst)
def gb:List PV→Option aI:=fun xs=>match xs with
 |[.ptr 0 0,aE 1 (.raw (.pointer bp)) sc us pw hk hs hn hp port opq pn pl hq q hf fg bare sp rst]=>some ⟨rst.length≤300000,.tup [.tup [],aE 1 (.raw (.pointer bp)) sc us pw hk hs hn hp port opq pn pl hq q hf fg bare sp (aC rst.length sp 0 rst)]⟩
 |_=>none
theorem ly:∀xs c,gb xs=some c→ag Tryz.prog aA 79 xs c:=fun xs c h=>by
 unfold gb at h
 split at h
 ·injection h with h;subst h;exact ra _ _ _ _ _ _ _ _ _ _ _ _ _ _ _ _ _ _ _
 ·cases h
end
section
theorem Gi(l m:Bs):(bif decide (al m≤al l)then decide (ae l (al m)=m)else false)=preB l m:=by
 unfold preB
 rw [←Lib.hasPrefix_of_take]
 unfold al ae
 rw [Int.toNat_natCast]
 have:decide ((m.length:Int)≤l.length)=decide (m.length≤l.length):=by rw [decide_eq_decide];omega
 rw [this,Bool.eq_iff_iff]
 cases decide (m.length≤l.length)<;>simp
theorem IW {l m:Bs}(h:preB l m=true):m.length≤l.length:=by
 rw [←Gi]at h
 cases e:decide (al m≤al l)with
 |false=>rw [e]at h;cases h
 |true=>have:=of_decide_eq_true e;unfold al at this;omega
def Gj:cq:=bR []
def Gk(l m:Bs):ba:=fun i=>none
theorem DD:cS Tryz.prog aA Gj:=ax
theorem IX(l m:Bs)(k:PV→Prop):cD Tryz.prog Gj aA (Gk l m) 1000 Tryz.f126 [.str l,.str m] k=(
 (decide (al m≤al l)=true→upto (0:Int) (al m) (al l))∧
 k (PV.bool (bif decide (al m≤al l)then decide (ae l (al m)=m)else false))):=by kernel_rfl
attribute [local irreducible] Go.Vc.cD
theorem IY(l m:Bs):ag Tryz.prog aA 126 [.str l,.str m] ⟨True,.bool (preB l m)⟩:=b5 (by kernel_rfl) DD (H:=Gk l m) (fuel:=1000) Tryz.func126 (by kernel_rfl) fun hpre=>(IX l m _).mpr (by
 refine ⟨fun h=>⟨by omega,by unfold al;omega,of_decide_eq_true h⟩,?_⟩
 rw [Gi])
def rb:List PV→Option aI:=fun xs=>match xs with
 |[.str l,.str m]=>some ⟨True,.bool (preB l m)⟩
 |_=>none
theorem xO:∀xs c,rb xs=some c→ag Tryz.prog aA 126 xs c:=fun xs c h=>by
 unfold rb at h
 split at h
 ·injection h with h;subst h;exact IY _ _
 ·cases h
end
section
def aj(l m:Bs):Bs×Bool:=if preB l m=true then(aa l (al m),true)else(l,false)
def BT:cq:=bR [(126,rb)]
def BU(l m:Bs):ba:=fun i=>none
theorem Am:cS Tryz.prog aA BT:=ai xO (ax)
theorem Gl(l m:Bs)(k:PV→Prop):cD Tryz.prog BT aA (BU l m) 1000 Tryz.f157 [.str l,.str m] k=(
 True∧
 ((!preB l m)=true→k (PV.tup [PV.str l,PV.bool false]))∧
 ((!preB l m)=false→
 upto (al m) (al l) (al l)∧k (PV.tup [PV.str (aa l (al m)),PV.bool true]))):=by kernel_rfl
attribute [local irreducible] Go.Vc.cD
theorem Gm(l m:Bs):ag Tryz.prog aA 157 [.str l,.str m] ⟨True,.tup [.str (aj l m).1,.bool (aj l m).2]⟩:=b5 (by kernel_rfl) Am (H:=BU l m) (fuel:=1000) Tryz.func157 (by kernel_rfl) fun hpre=>(Gl l m _).mpr (by
 refine ⟨trivial,fun h=>?_,fun h=>⟨?_,?_⟩⟩
 ·unfold aj;rw [if_neg (by intro e;rw [e]at h;cases h)]
 ·have:=IW (show preB l m=true by simpa using h)
  unfold upto al;omega
 ·unfold aj;rw [if_pos (by simpa using h)])
def nT:List PV→Option aI:=fun xs=>match xs with
 |[.str l,.str m]=>some ⟨True,.tup [.str (aj l m).1,.bool (aj l m).2]⟩
 |_=>none
theorem vq:∀xs c,nT xs=some c→ag Tryz.prog aA 157 xs c:=fun xs c h=>by
 unfold nT at h
 split at h
 ·injection h with h;subst h;exact Gm _ _
 ·cases h
end
section
def Gn:cq:=bR [(157,nT)]
def Gp(l m:Bs):ba:=fun i=>none
theorem DE:cS Tryz.prog aA Gn:=ai vq (ax)
theorem IZ(l m:Bs)(k:PV→Prop):cD Tryz.prog Gn aA (Gp l m) 1000 Tryz.f127 [.str l,.str m] k=(
 True∧k (PV.tup [PV.str (aj l m).1,PV.bool (aj l m).2])):=by kernel_rfl
attribute [local irreducible] Go.Vc.cD
theorem I0(l m:Bs):ag Tryz.prog aA 127 [.str l,.str m] ⟨True,.tup [.str (aj l m).1,.bool (aj l m).2]⟩:=b5 (by kernel_rfl) DE (H:=Gp l m) (fuel:=1000) Tryz.func127 (by kernel_rfl) fun hpre=>(IZ l m _).mpr (by
 exact ⟨trivial,rfl⟩)
def mG:List PV→Option aI:=fun xs=>match xs with
 |[.str l,.str m]=>some ⟨True,.tup [.str (aj l m).1,.bool (aj l m).2]⟩
 |_=>none
theorem oR:∀xs c,mG xs=some c→ag Tryz.prog aA 127 xs c:=fun xs c h=>by
 unfold mG at h
 split at h
 ·injection h with h;subst h;exact I0 _ _
 ·cases h
end
section
def Gq:cq:=bR [(127,mG)]
def Gr(bp:Option Addr)(sc us pw:Bs)(hk:Int)(hs:Bs)(hn:Int)(hp:List Int)(port:Int)(opq pn:Bool)(pl:List Bs)(hq:Bool)(q:Bs)(hf:Bool)(fg:Bs)(bare sp:Bool)(rst:Bs)(p:Bs):ba:=fun i=>none
theorem DF:cS Tryz.prog aA Gq:=ai oR (ax)
theorem I1(bp:Option Addr)(sc us pw:Bs)(hk:Int)(hs:Bs)(hn:Int)(hp:List Int)(port:Int)(opq pn:Bool)(pl:List Bs)(hq:Bool)(q:Bs)(hf:Bool)(fg:Bs)(bare sp:Bool)(rst:Bs)(p:Bs)(k:PV→List PV→Prop):bQ Tryz.prog Gq aA (Gr bp sc us pw hk hs hn hp port opq pn pl hq q hf fg bare sp rst p) 1000 Tryz.f80 [.ptr 0 0,.str p] [aE 1 (.raw (.pointer bp)) sc us pw hk hs hn hp port opq pn pl hq q hf fg bare sp rst] k=(
 True∧
 k (PV.bool (aj rst p).2) [bV (PV.raw (Go.Value.pointer bp)) 1 sc us pw hk hs hn hp port opq pn pl hq q hf fg bare sp ((aj rst p).1)]):=by kernel_rfl
attribute [local irreducible] Go.Vc.cD Go.Vc.bQ
theorem DG(bp:Option Addr)(sc us pw:Bs)(hk:Int)(hs:Bs)(hn:Int)(hp:List Int)(port:Int)(opq pn:Bool)(pl:List Bs)(hq:Bool)(q:Bs)(hf:Bool)(fg:Bs)(bare sp:Bool)(rst:Bs)(p:Bs):br Tryz.prog aA 80 [.ptr 0 0,.str p] [aE 1 (.raw (.pointer bp)) sc us pw hk hs hn hp port opq pn pl hq q hf fg bare sp rst] (True) (.bool (aj rst p).2) [aE 1 (.raw (.pointer bp)) sc us pw hk hs hn hp port opq pn pl hq q hf fg bare sp ((aj rst p).1)]:=bH (by kernel_rfl) DF (H:=Gr bp sc us pw hk hs hn hp port opq pn pl hq q hf fg bare sp rst p) (fuel:=1000) Tryz.func80 (by kernel_rfl) (Nat.le_of_ble_eq_true rfl) fun hpre=>(I1 bp sc us pw hk hs hn hp port opq pn pl hq q hf fg bare sp rst p _).mpr (by
 exact ⟨trivial,rfl,rfl⟩)
theorem I2(bp:Option Addr)(sc us pw:Bs)(hk:Int)(hs:Bs)(hn:Int)(hp:List Int)(port:Int)(opq pn:Bool)(pl:List Bs)(hq:Bool)(q:Bs)(hf:Bool)(fg:Bs)(bare sp:Bool)(rst:Bs)(p:Bs):ag Tryz.prog aA 80 [.ptr 0 0,.str p,aE 1 (.raw (.pointer bp)) sc us pw hk hs hn hp port opq pn pl hq q hf fg bare sp rst] ⟨True,.tup [.bool (aj rst p).2,aE 1 (.raw (.pointer bp)) sc us pw hk hs hn hp port opq pn pl hq q hf fg bare sp ((aj rst p).1)]⟩:=ag.bd (fun h=>by have e:List.isEmpty (PV.aB PV.bD [.ptr 0 0,.str p,aE 1 (.raw (.pointer bp)) sc us pw hk hs hn hp port opq pn pl hq q hf fg bare sp rst])=false:=(by kernel_rfl);exact Bool.noConfusion (e.symm.trans (congrArg List.isEmpty h))) (DG bp sc us pw hk hs hn hp port opq pn pl hq q hf fg bare sp rst p)
def jY:List PV→Option aI:=fun xs=>match xs with
 |[.ptr 0 0,.str p,aE 1 (.raw (.pointer bp)) sc us pw hk hs hn hp port opq pn pl hq q hf fg bare sp rst]=>some ⟨True,.tup [.bool (aj rst p).2,aE 1 (.raw (.pointer bp)) sc us pw hk hs hn hp port opq pn pl hq q hf fg bare sp ((aj rst p).1)]⟩
 |_=>none
theorem jZ:∀xs c,jY xs=some c→ag Tryz.prog aA 80 xs c:=fun xs c h=>by
 unfold jY at h
 split at h
 ·injection h with h;subst h;exact I2 _ _ _ _ _ _ _ _ _ _ _ _ _ _ _ _ _ _ _ _
 ·cases h
end
section
def xP:cq:=bR []
def xQ(bp:Option Addr)(sc us pw:Bs)(hk:Int)(hs:Bs)(hn:Int)(hp:List Int)(port:Int)(opq pn:Bool)(pl:List Bs)(hq:Bool)(q:Bs)(hf:Bool)(fg:Bs)(bare sp:Bool)(rst:Bs):ba:=fun i=>none
theorem xR:cS Tryz.prog aA xP:=ax
theorem DH(bp:Option Addr)(sc us pw:Bs)(hk:Int)(hs:Bs)(hn:Int)(hp:List Int)(port:Int)(opq pn:Bool)(pl:List Bs)(hq:Bool)(q:Bs)(hf:Bool)(fg:Bs)(bare sp:Bool)(rst:Bs)(k:PV→List PV→Prop):bQ Tryz.prog xP aA (xQ bp sc us pw hk hs hn hp port opq pn pl hq q hf fg bare sp rst) 1000 Tryz.f89 [.ptr 0 0] [aE 1 (.raw (.pointer bp)) sc us pw hk hs hn hp port opq pn pl hq q hf fg bare sp rst] k=(
 (decide (rst=(ByteArray.mk #[]).data.toList)=false→
 within (0:Int) (al rst))∧
 ((bif decide (rst=(ByteArray.mk #[]).data.toList)then true else decide (ak rst (0:Int)=(63:Int)))=false→
 within (0:Int) (al rst))∧
 k (PV.bool (bif bif decide (rst=(ByteArray.mk #[]).data.toList)then true else decide (ak rst (0:Int)=(63:Int))then true else decide (ak rst (0:Int)=(35:Int)))) [bV (PV.raw (Go.Value.pointer bp)) 1 sc us pw hk hs hn hp port opq pn pl hq q hf fg bare sp rst]):=by kernel_rfl
attribute [local irreducible] Go.Vc.cD Go.Vc.bQ
theorem oS(bp:Option Addr)(sc us pw:Bs)(hk:Int)(hs:Bs)(hn:Int)(hp:List Int)(port:Int)(opq pn:Bool)(pl:List Bs)(hq:Bool)(q:Bs)(hf:Bool)(fg:Bs)(bare sp:Bool)(rst:Bs):br Tryz.prog aA 89 [.ptr 0 0] [aE 1 (.raw (.pointer bp)) sc us pw hk hs hn hp port opq pn pl hq q hf fg bare sp rst] (True) (.bool (bT rst)) [aE 1 (.raw (.pointer bp)) sc us pw hk hs hn hp port opq pn pl hq q hf fg bare sp rst]:=bH (by kernel_rfl) xR (H:=xQ bp sc us pw hk hs hn hp port opq pn pl hq q hf fg bare sp rst) (fuel:=1000) Tryz.func89 (by kernel_rfl) (Nat.le_of_ble_eq_true rfl) fun hpre=>(DH bp sc us pw hk hs hn hp port opq pn pl hq q hf fg bare sp rst _).mpr (by
 have h0:decide (rst=(ByteArray.mk #[]).data.toList)=false→within 0 (al rst):=fun h=>by
  have:=of_decide_eq_false h
  have:0<rst.length:=List.length_pos_iff.2 this
  unfold within al;omega
 refine ⟨h0,fun h=>h0 ?_,?_,rfl⟩
 ·cases hd:decide (rst=(ByteArray.mk #[]).data.toList)with
  |false=>rfl
  |true=>rw [hd]at h;cases h
 ·congr 1
  have e:bT rst=(decide (rst=(ByteArray.mk #[]).data.toList)||(decide (ak rst 0=63)||decide (ak rst 0=35))):=rfl
  rw [e]
  cases decide (rst=(ByteArray.mk #[]).data.toList)<;>cases decide (ak rst 0=63)<;>cases decide (ak rst 0=35)<;>rfl)
theorem DI(bp:Option Addr)(sc us pw:Bs)(hk:Int)(hs:Bs)(hn:Int)(hp:List Int)(port:Int)(opq pn:Bool)(pl:List Bs)(hq:Bool)(q:Bs)(hf:Bool)(fg:Bs)(bare sp:Bool)(rst:Bs):ag Tryz.prog aA 89 [.ptr 0 0,aE 1 (.raw (.pointer bp)) sc us pw hk hs hn hp port opq pn pl hq q hf fg bare sp rst] ⟨True,.tup [.bool (bT rst),aE 1 (.raw (.pointer bp)) sc us pw hk hs hn hp port opq pn pl hq q hf fg bare sp rst]⟩:=ag.bd (fun h=>by have e:List.isEmpty (PV.aB PV.bD [.ptr 0 0,aE 1 (.raw (.pointer bp)) sc us pw hk hs hn hp port opq pn pl hq q hf fg bare sp rst])=false:=(by kernel_rfl);exact Bool.noConfusion (e.symm.trans (congrArg List.isEmpty h))) (oS bp sc us pw hk hs hn hp port opq pn pl hq q hf fg bare sp rst)
def lz:List PV→Option aI:=fun xs=>match xs with
 |[.ptr 0 0,aE 1 (.raw (.pointer bp)) sc us pw hk hs hn hp port opq pn pl hq q hf fg bare sp rst]=>some ⟨True,.tup [.bool (bT rst),aE 1 (.raw (.pointer bp)) sc us pw hk hs hn hp port opq pn pl hq q hf fg bare sp rst]⟩
 |_=>none
theorem sh:∀xs c,lz xs=some c→ag Tryz.prog aA 89 xs c:=fun xs c h=>by
 unfold lz at h
 split at h
 ·injection h with h;subst h;exact DI _ _ _ _ _ _ _ _ _ _ _ _ _ _ _ _ _ _ _
 ·cases h
end
section
def tR:cq:=bR []
def tS(bp:Option Addr)(sc us pw:Bs)(hk:Int)(hs:Bs)(hn:Int)(hp:List Int)(port:Int)(opq pn:Bool)(pl:List Bs)(hq:Bool)(q:Bs)(hf:Bool)(fg:Bs)(bare sp:Bool)(rst:Bs):ba:=fun i=>none
theorem vr:cS Tryz.prog aA tR:=ax
theorem An(bp:Option Addr)(sc us pw:Bs)(hk:Int)(hs:Bs)(hn:Int)(hp:List Int)(port:Int)(opq pn:Bool)(pl:List Bs)(hq:Bool)(q:Bs)(hf:Bool)(fg:Bs)(bare sp:Bool)(rst:Bs)(k:PV→List PV→Prop):bQ Tryz.prog tR aA (tS bp sc us pw hk hs hn hp port opq pn pl hq q hf fg bare sp rst) 1000 Tryz.f138 [.ptr 0 0] [aE 1 (.raw (.pointer bp)) sc us pw hk hs hn hp port opq pn pl hq q hf fg bare sp rst] k=(
 (sp=true→
 k (PV.str (ByteArray.mk #[47,92]).data.toList) [bV (PV.raw (Go.Value.pointer bp)) 1 sc us pw hk hs hn hp port opq pn pl hq q hf fg bare sp rst])∧
 (sp=false→
 k (PV.str (ByteArray.mk #[47]).data.toList) [bV (PV.raw (Go.Value.pointer bp)) 1 sc us pw hk hs hn hp port opq pn pl hq q hf fg bare sp rst])):=by kernel_rfl
attribute [local irreducible] Go.Vc.cD Go.Vc.bQ
theorem vt(bp:Option Addr)(sc us pw:Bs)(hk:Int)(hs:Bs)(hn:Int)(hp:List Int)(port:Int)(opq pn:Bool)(pl:List Bs)(hq:Bool)(q:Bs)(hf:Bool)(fg:Bs)(bare sp:Bool)(rst:Bs):br Tryz.prog aA 138 [.ptr 0 0] [aE 1 (.raw (.pointer bp)) sc us pw hk hs hn hp port opq pn pl hq q hf fg bare sp rst] (True) (.str (dU sp)) [aE 1 (.raw (.pointer bp)) sc us pw hk hs hn hp port opq pn pl hq q hf fg bare sp rst]:=bH (by kernel_rfl) vr (H:=tS bp sc us pw hk hs hn hp port opq pn pl hq q hf fg bare sp rst) (fuel:=1000) Tryz.func138 (by kernel_rfl) (Nat.le_of_ble_eq_true rfl) fun hpre=>(An bp sc us pw hk hs hn hp port opq pn pl hq q hf fg bare sp rst _).mpr (by
 exact ⟨fun h=>by subst h;exact ⟨rfl,rfl⟩,fun h=>by subst h;exact ⟨rfl,rfl⟩⟩)
theorem Ao(bp:Option Addr)(sc us pw:Bs)(hk:Int)(hs:Bs)(hn:Int)(hp:List Int)(port:Int)(opq pn:Bool)(pl:List Bs)(hq:Bool)(q:Bs)(hf:Bool)(fg:Bs)(bare sp:Bool)(rst:Bs):ag Tryz.prog aA 138 [.ptr 0 0,aE 1 (.raw (.pointer bp)) sc us pw hk hs hn hp port opq pn pl hq q hf fg bare sp rst] ⟨True,.tup [.str (dU sp),aE 1 (.raw (.pointer bp)) sc us pw hk hs hn hp port opq pn pl hq q hf fg bare sp rst]⟩:=ag.bd (fun h=>by have e:List.isEmpty (PV.aB PV.bD [.ptr 0 0,aE 1 (.raw (.pointer bp)) sc us pw hk hs hn hp port opq pn pl hq q hf fg bare sp rst])=false:=(by kernel_rfl);exact Bool.noConfusion (e.symm.trans (congrArg List.isEmpty h))) (vt bp sc us pw hk hs hn hp port opq pn pl hq q hf fg bare sp rst)
def gW:List PV→Option aI:=fun xs=>match xs with
 |[.ptr 0 0,aE 1 (.raw (.pointer bp)) sc us pw hk hs hn hp port opq pn pl hq q hf fg bare sp rst]=>some ⟨True,.tup [.str (dU sp),aE 1 (.raw (.pointer bp)) sc us pw hk hs hn hp port opq pn pl hq q hf fg bare sp rst]⟩
 |_=>none
theorem j0:∀xs c,gW xs=some c→ag Tryz.prog aA 138 xs c:=fun xs c h=>by
 unfold gW at h
 split at h
 ·injection h with h;subst h;exact Ao _ _ _ _ _ _ _ _ _ _ _ _ _ _ _ _ _ _ _
 ·cases h
end
section
def Gs:cq:=bR [(118,vd)]
def Gt(l m:Bs):ba:=fun i=>none
theorem DJ:cS Tryz.prog aA Gs:=ai zY (ax)
theorem I3(l m:Bs)(k:PV→Prop):cD Tryz.prog Gs aA (Gt l m) 1000 Tryz.f129 [.str l,.str m] k=(
 (List.length l≤(1000000:Nat)∧List.length m≤(1000000:Nat)∧∀(b:UInt8),b∈m→b.toNat<(128:Nat))∧
 (decide ((0:Int)≤KL l m)=true→k (PV.int .i64 (KL l m)))∧
 (decide ((0:Int)≤KL l m)=false→k (PV.int .i64 (al l)))):=by kernel_rfl
attribute [local irreducible] Go.Vc.cD
theorem I4(l m:Bs):ag Tryz.prog aA 129 [.str l,.str m] ⟨l.length≤1000000∧m.length≤1000000∧(∀b∈m,b.toNat<128),.int .i64 (aW l m)⟩:=b5 (by kernel_rfl) DJ (H:=Gt l m) (fuel:=1000) Tryz.func129 (by kernel_rfl) fun hpre=>(I3 l m _).mpr (by
 have hh:=zX m l
 rw [←FT]at hh
 refine ⟨hpre,fun h=>?_,fun h=>?_⟩
 ·exact congrArg (PV.int .i64) (hh.1 (of_decide_eq_true h)).1
 ·show PV.int .i64 (al l)=_
  rw [(hh.2 (of_decide_eq_false h)).2];rfl)
def gG:List PV→Option aI:=fun xs=>match xs with
 |[.str l,.str m]=>some ⟨l.length≤1000000∧m.length≤1000000∧(∀b∈m,b.toNat<128),.int .i64 (aW l m)⟩
 |_=>none
theorem fT:∀xs c,gG xs=some c→ag Tryz.prog aA 129 xs c:=fun xs c h=>by
 unfold gG at h
 split at h
 ·injection h with h;subst h;exact I4 _ _
 ·cases h
end
section
def tT:cq:=bR [(138,gW),(129,gG)]
def tU(bp:Option Addr)(sc us pw:Bs)(hk:Int)(hs:Bs)(hn:Int)(hp:List Int)(port:Int)(opq pn:Bool)(pl:List Bs)(hq:Bool)(q:Bs)(hf:Bool)(fg:Bs)(bare sp:Bool)(rst:Bs):ba:=fun i=>none
theorem vu:cS Tryz.prog aA tT:=ai j0 (ai fT (ax))
theorem Ap(bp:Option Addr)(sc us pw:Bs)(hk:Int)(hs:Bs)(hn:Int)(hp:List Int)(port:Int)(opq pn:Bool)(pl:List Bs)(hq:Bool)(q:Bs)(hf:Bool)(fg:Bs)(bare sp:Bool)(rst:Bs)(k:PV→List PV→Prop):bQ Tryz.prog tT aA (tU bp sc us pw hk hs hn hp port opq pn pl hq q hf fg bare sp rst) 1000 Tryz.f124 [.ptr 0 0] [aE 1 (.raw (.pointer bp)) sc us pw hk hs hn hp port opq pn pl hq q hf fg bare sp rst] k=(
 (True∧
 List.length (dU sp)+(ByteArray.mk #[63,35]).data.toList.length≤Go.Vc.maxLen∧
 (List.length rst≤(1000000:Nat)∧
 List.length (dU sp++(ByteArray.mk #[63,35]).data.toList)≤(1000000:Nat)∧
 ∀(b:UInt8),b∈dU sp++(ByteArray.mk #[63,35]).data.toList→
 b.toNat<(128:Nat))∧
 k (PV.int .i64 ↑(aW rst (dU sp++(ByteArray.mk #[63,35]).data.toList))) [bV (PV.raw (Go.Value.pointer bp)) 1 sc us pw hk hs hn hp port opq pn pl hq q hf fg bare sp rst])∧
 True∧
 List.length (dU sp)+(ByteArray.mk #[63,35]).data.toList.length≤Go.Vc.maxLen∧
 (List.length rst≤(1000000:Nat)∧
 List.length (dU sp++(ByteArray.mk #[63,35]).data.toList)≤(1000000:Nat)∧
 ∀(b:UInt8),b∈dU sp++(ByteArray.mk #[63,35]).data.toList→
 b.toNat<(128:Nat))∧
 k (PV.int .i64 ↑(aW rst (dU sp++(ByteArray.mk #[63,35]).data.toList))) [bV (PV.raw (Go.Value.pointer bp)) 1 sc us pw hk hs hn hp port opq pn pl hq q hf fg bare sp rst]):=by kernel_rfl
attribute [local irreducible] Go.Vc.cD Go.Vc.bQ
theorem vv(bp:Option Addr)(sc us pw:Bs)(hk:Int)(hs:Bs)(hn:Int)(hp:List Int)(port:Int)(opq pn:Bool)(pl:List Bs)(hq:Bool)(q:Bs)(hf:Bool)(fg:Bs)(bare sp:Bool)(rst:Bs):br Tryz.prog aA 124 [.ptr 0 0] [aE 1 (.raw (.pointer bp)) sc us pw hk hs hn hp port opq pn pl hq q hf fg bare sp rst] (rst.length≤300000) (.int .i64 (ah sp rst)) [aE 1 (.raw (.pointer bp)) sc us pw hk hs hn hp port opq pn pl hq q hf fg bare sp rst]:=bH (by kernel_rfl) vu (H:=tU bp sc us pw hk hs hn hp port opq pn pl hq q hf fg bare sp rst) (fuel:=1000) Tryz.func124 (by kernel_rfl) (Nat.le_of_ble_eq_true rfl) fun hpre=>(Ap bp sc us pw hk hs hn hp port opq pn pl hq q hf fg bare sp rst _).mpr (by
 have e2:(ByteArray.mk #[63,35]).data.toList=[63,35]:=rfl
 have hs:(dU sp).length≤2:=by unfold dU;split<;>decide
 have h1:List.length (dU sp)+(ByteArray.mk #[63,35]).data.toList.length≤Go.Vc.maxLen:=Nat.le_trans (show _ ≤100 by rw [e2];simp;omega) (by decide)
 have h2:List.length (dU sp++(ByteArray.mk #[63,35]).data.toList)≤1000000:=by rw [e2];simp;omega
 have h3:∀b:UInt8,b∈dU sp++(ByteArray.mk #[63,35]).data.toList→b.toNat<128:=by rw [e2];unfold dU;split<;>decide
 exact ⟨⟨trivial,h1,⟨by omega,h2,h3⟩,rfl,rfl⟩,trivial,h1,⟨by omega,h2,h3⟩,rfl,rfl⟩)
theorem Aq(bp:Option Addr)(sc us pw:Bs)(hk:Int)(hs:Bs)(hn:Int)(hp:List Int)(port:Int)(opq pn:Bool)(pl:List Bs)(hq:Bool)(q:Bs)(hf:Bool)(fg:Bs)(bare sp:Bool)(rst:Bs):ag Tryz.prog aA 124 [.ptr 0 0,aE 1 (.raw (.pointer bp)) sc us pw hk hs hn hp port opq pn pl hq q hf fg bare sp rst] ⟨rst.length≤300000,.tup [.int .i64 (ah sp rst),aE 1 (.raw (.pointer bp)) sc us pw hk hs hn hp port opq pn pl hq q hf fg bare sp rst]⟩:=ag.bd (fun h=>by have e:List.isEmpty (PV.aB PV.bD [.ptr 0 0,aE 1 (.raw (.pointer bp)) sc us pw hk hs hn hp port opq pn pl hq q hf fg bare sp rst])=false:=(by kernel_rfl);exact Bool.noConfusion (e.symm.trans (congrArg List.isEmpty h))) (vv bp sc us pw hk hs hn hp port opq pn pl hq q hf fg bare sp rst)
def fU:List PV→Option aI:=fun xs=>match xs with
 |[.ptr 0 0,aE 1 (.raw (.pointer bp)) sc us pw hk hs hn hp port opq pn pl hq q hf fg bare sp rst]=>some ⟨rst.length≤300000,.tup [.int .i64 (ah sp rst),aE 1 (.raw (.pointer bp)) sc us pw hk hs hn hp port opq pn pl hq q hf fg bare sp rst]⟩
 |_=>none
theorem gH:∀xs c,fU xs=some c→ag Tryz.prog aA 124 xs c:=fun xs c h=>by
 unfold fU at h
 split at h
 ·injection h with h;subst h;exact Aq _ _ _ _ _ _ _ _ _ _ _ _ _ _ _ _ _ _ _
 ·cases h
end
section
def Gu:cq:=bR []
def Gv(bp:Option Addr)(sc us pw:Bs)(hk:Int)(hs:Bs)(hn:Int)(hp:List Int)(port:Int)(opq pn:Bool)(pl:List Bs)(hq:Bool)(q:Bs)(hf:Bool)(fg:Bs)(bare sp:Bool)(rst:Bs)(z:Int):ba:=fun i=>none
theorem DK:cS Tryz.prog aA Gu:=ax
theorem I5(bp:Option Addr)(sc us pw:Bs)(hk:Int)(hs:Bs)(hn:Int)(hp:List Int)(port:Int)(opq pn:Bool)(pl:List Bs)(hq:Bool)(q:Bs)(hf:Bool)(fg:Bs)(bare sp:Bool)(rst:Bs)(z:Int)(k:PV→List PV→Prop):bQ Tryz.prog Gu aA (Gv bp sc us pw hk hs hn hp port opq pn pl hq q hf fg bare sp rst z) 1000 Tryz.f128 [.ptr 0 0,.int .i64 z] [aE 1 (.raw (.pointer bp)) sc us pw hk hs hn hp port opq pn pl hq q hf fg bare sp rst] k=(
 upto (0:Int) z (al rst)∧
 upto z (al rst) (al rst)∧
 k (PV.str (ae rst z)) [bV (PV.raw (Go.Value.pointer bp)) 1 sc us pw hk hs hn hp port opq pn pl hq q hf fg bare sp (aa rst z)]):=by kernel_rfl
attribute [local irreducible] Go.Vc.cD Go.Vc.bQ
theorem DL(bp:Option Addr)(sc us pw:Bs)(hk:Int)(hs:Bs)(hn:Int)(hp:List Int)(port:Int)(opq pn:Bool)(pl:List Bs)(hq:Bool)(q:Bs)(hf:Bool)(fg:Bs)(bare sp:Bool)(rst:Bs)(z:Int):br Tryz.prog aA 128 [.ptr 0 0,.int .i64 z] [aE 1 (.raw (.pointer bp)) sc us pw hk hs hn hp port opq pn pl hq q hf fg bare sp rst] (0≤z∧z≤al rst) (.str (ae rst z)) [aE 1 (.raw (.pointer bp)) sc us pw hk hs hn hp port opq pn pl hq q hf fg bare sp (aa rst z)]:=bH (by kernel_rfl) DK (H:=Gv bp sc us pw hk hs hn hp port opq pn pl hq q hf fg bare sp rst z) (fuel:=1000) Tryz.func128 (by kernel_rfl) (Nat.le_of_ble_eq_true rfl) fun hpre=>(I5 bp sc us pw hk hs hn hp port opq pn pl hq q hf fg bare sp rst z _).mpr (by
 obtain ⟨h0,h1⟩:=hpre
 exact ⟨⟨by omega,h0,h1⟩,⟨h0,h1,Int.le_refl _⟩,rfl,rfl⟩)
theorem I6(bp:Option Addr)(sc us pw:Bs)(hk:Int)(hs:Bs)(hn:Int)(hp:List Int)(port:Int)(opq pn:Bool)(pl:List Bs)(hq:Bool)(q:Bs)(hf:Bool)(fg:Bs)(bare sp:Bool)(rst:Bs)(z:Int):ag Tryz.prog aA 128 [.ptr 0 0,.int .i64 z,aE 1 (.raw (.pointer bp)) sc us pw hk hs hn hp port opq pn pl hq q hf fg bare sp rst] ⟨0≤z∧z≤al rst,.tup [.str (ae rst z),aE 1 (.raw (.pointer bp)) sc us pw hk hs hn hp port opq pn pl hq q hf fg bare sp (aa rst z)]⟩:=ag.bd (fun h=>by have e:List.isEmpty (PV.aB PV.bD [.ptr 0 0,.int .i64 z,aE 1 (.raw (.pointer bp)) sc us pw hk hs hn hp port opq pn pl hq q hf fg bare sp rst])=false:=(by kernel_rfl);exact Bool.noConfusion (e.symm.trans (congrArg List.isEmpty h))) (DL bp sc us pw hk hs hn hp port opq pn pl hq q hf fg bare sp rst z)
def gI:List PV→Option aI:=fun xs=>match xs with
 |[.ptr 0 0,.int .i64 z,aE 1 (.raw (.pointer bp)) sc us pw hk hs hn hp port opq pn pl hq q hf fg bare sp rst]=>some ⟨0≤z∧z≤al rst,.tup [.str (ae rst z),aE 1 (.raw (.pointer bp)) sc us pw hk hs hn hp port opq pn pl hq q hf fg bare sp (aa rst z)]⟩
 |_=>none
theorem fX:∀xs c,gI xs=some c→ag Tryz.prog aA 128 xs c:=fun xs c h=>by
 unfold gI at h
 split at h
 ·injection h with h;subst h;exact I6 _ _ _ _ _ _ _ _ _ _ _ _ _ _ _ _ _ _ _ _
 ·cases h
end
section
def BV:cq:=bR []
def BW(l:Bs):ba:=fun i=>bif Nat.beq i 3 then some ⟨(Int)×(Bool),(fun s x=>((((((((((((((((((s.put 7 (.int .i64 x.1)).put 3 (.bool x.2)).put 4 .undef).put 8 .undef).put 9 .undef).put 10 .undef).put 11 .undef).put 12 .undef).put 13 .undef).put 14 .undef).put 15 .undef).put 16 .undef).put 17 .undef).put 18 .undef).put 19 .undef).put 20 .undef).put 21 .undef).put 22 .undef)),(fun s=>(s.int 7,s.bool 3)),(fun s x=>let i:=x.1;let wn:=x.2;0≤i∧i≤l.length∧kB wn i (l.drop i.toNat)=bh l),(fun s x=>let i:=x.1;let wn:=x.2;((l.length:Int)-i).toNat),[4,8,9,10,11,12,13,14,15,16,17,18,19,20,21,22]⟩else none
theorem Ar:cS Tryz.prog aA BV:=ax
theorem Gw(l:Bs)(k:PV→Prop):cD Tryz.prog BV aA (BW l) 1000 Tryz.f135 [.str l] k=(
 VS.mk []
 [(0,PV.str l),(2,PV.int .i64 (0:Int)),(3,PV.bool false),((4:Nat),PV.undef),
 (6,PV.int .i64 (al l)),(7,PV.int .i64 (0:Int)),((8:Nat),PV.undef),
 ((12:Nat),PV.undef),((13:Nat),PV.undef),((15:Nat),PV.undef),((17:Nat),PV.undef),((20:Nat),PV.undef)]
 []=
 VS.mk []
 [(0,PV.str l),(2,PV.int .i64 (0:Int)),((3:Nat),PV.bool false),((4:Nat),PV.undef),
 (6,PV.int .i64 (al l)),((7:Nat),PV.int .i64 (0:Int)),((8:Nat),PV.undef),
 ((12:Nat),PV.undef),((13:Nat),PV.undef),((15:Nat),PV.undef),((17:Nat),PV.undef),((20:Nat),PV.undef)]
 []∧
 ((0:Int)≤(0:Int)∧
 (0:Int)≤↑(List.length l)∧
 kB false (0:Int) (List.drop (Int.toNat (0:Int)) l)=bh l)∧
 ∀(x:Int×Bool),
 (0:Int)≤x.1∧
 x.1≤↑(List.length l)∧
 kB x.2 x.1 (List.drop x.1.toNat l)=bh l→
 (decide (x.1<al l)=true→
 within x.1 (al l)∧
 (decide (ak l x.1=(91:Int))=true→
 aG (x.1+(1:Int))∧
 rR (VS.mk []
 [(0,PV.str l),(2,PV.int .i64 (0:Int)),((3:Nat),PV.bool true),
 ((4:Nat),PV.undef),(6,PV.int .i64 (al l)),
 ((7:Nat),PV.int .i64 (x.1+(1:Int))),((8:Nat),PV.undef),((12:Nat),PV.undef),
 ((13:Nat),PV.undef),((15:Nat),PV.undef),((17:Nat),PV.undef),((20:Nat),PV.undef)]
 [])∧
 ((0:Int)≤x.1+(1:Int)∧
 x.1+(1:Int)≤↑(List.length l)∧
 kB true (x.1+(1:Int)) (List.drop (x.1+(1:Int)).toNat l)=
 bh l)∧
 (↑(List.length l)-(x.1+(1:Int))).toNat<(↑(List.length l)-x.1).toNat)∧
 (decide (ak l x.1=(91:Int))=false→
 (decide (ak l x.1=(93:Int))=true→
 aG (x.1+(1:Int))∧
 rR (VS.mk []
 [(0,PV.str l),(2,PV.int .i64 (0:Int)),((3:Nat),PV.bool false),
 ((4:Nat),PV.undef),(6,PV.int .i64 (al l)),
 ((7:Nat),PV.int .i64 (x.1+(1:Int))),((8:Nat),PV.undef),((12:Nat),PV.undef),
 ((13:Nat),PV.undef),((15:Nat),PV.undef),((17:Nat),PV.undef),((20:Nat),PV.undef)]
 [])∧
 ((0:Int)≤x.1+(1:Int)∧
 x.1+(1:Int)≤↑(List.length l)∧
 kB false (x.1+(1:Int)) (List.drop (x.1+(1:Int)).toNat l)=
 bh l)∧
 (↑(List.length l)-(x.1+(1:Int))).toNat<(↑(List.length l)-x.1).toNat)∧
 (decide (ak l x.1=(93:Int))=false→
 (decide (ak l x.1=(58:Int))=true→
 ((!x.2)=true→k (PV.int .i64 x.1))∧
 ((!x.2)=false→
 aG (x.1+(1:Int))∧
 rR (VS.mk []
 [(0,PV.str l),(2,PV.int .i64 (0:Int)),((3:Nat),PV.bool x.2),
 ((4:Nat),PV.undef),(6,PV.int .i64 (al l)),
 ((7:Nat),PV.int .i64 (x.1+(1:Int))),((8:Nat),PV.undef),((12:Nat),PV.undef),
 ((13:Nat),PV.undef),((15:Nat),PV.undef),((17:Nat),PV.undef),((20:Nat),PV.undef)]
 [])∧
 ((0:Int)≤x.1+(1:Int)∧
 x.1+(1:Int)≤↑(List.length l)∧
 kB x.2 (x.1+(1:Int)) (List.drop (x.1+(1:Int)).toNat l)=
 bh l)∧
 (↑(List.length l)-(x.1+(1:Int))).toNat<(↑(List.length l)-x.1).toNat))∧
 (decide (ak l x.1=(58:Int))=false→
 aG (x.1+(1:Int))∧
 rR (VS.mk []
 [(0,PV.str l),(2,PV.int .i64 (0:Int)),((3:Nat),PV.bool x.2),
 ((4:Nat),PV.undef),(6,PV.int .i64 (al l)),
 ((7:Nat),PV.int .i64 (x.1+(1:Int))),((8:Nat),PV.undef),((12:Nat),PV.undef),
 ((13:Nat),PV.undef),((15:Nat),PV.undef),((17:Nat),PV.undef),((20:Nat),PV.undef)]
 [])∧
 ((0:Int)≤x.1+(1:Int)∧
 x.1+(1:Int)≤↑(List.length l)∧
 kB x.2 (x.1+(1:Int)) (List.drop (x.1+(1:Int)).toNat l)=
 bh l)∧
 (↑(List.length l)-(x.1+(1:Int))).toNat<(↑(List.length l)-x.1).toNat))))∧
 (decide (x.1<al l)=false→k (PV.int .i64 (-1:Int)))):=by kernel_rfl
attribute [local irreducible] Go.Vc.cD
theorem Gy(l:Bs):ag Tryz.prog aA 135 [.str l] ⟨l.length≤1000000,.int .i64 (bh l)⟩:=b5 (by kernel_rfl) Ar (H:=BW l) (fuel:=1000) Tryz.func135 (by kernel_rfl) fun hpre=>(Gw l _).mpr (by
 refine ⟨rfl,⟨by omega,by omega,rfl⟩,fun x ⟨h0,h1,h2⟩=>⟨fun h=>?_,fun h=>?_⟩⟩
 ·have hlt:x.1<l.length:=of_decide_eq_true h
  rw [xJ h0 hlt]at h2
  obtain ⟨c,hc⟩:∃c,c=l.getD x.1.toNat 0:=⟨_,rfl⟩
  have hby:ak l x.1=c.toNat:=by rw [hc];rfl
  rw [←hc,kB]at h2
  rw [hby]
  refine ⟨⟨h0,hlt⟩,fun g=>⟨by unfold aG;omega,rfl,⟨by omega,by omega,?_⟩,by omega⟩,fun g=>⟨fun g2=>⟨by unfold aG;omega,rfl,⟨by omega,by omega,?_⟩,by omega⟩,fun g2=>⟨fun g3=>⟨fun g4=>?_,fun g4=>⟨by unfold aG;omega,rfl,⟨by omega,by omega,?_⟩,by omega⟩⟩,fun g3=>⟨by unfold aG;omega,rfl,⟨by omega,by omega,?_⟩,by omega⟩⟩⟩⟩
  ·have:=of_decide_eq_true g
   rw [if_pos (by omega)]at h2;exact h2
  ·have:=of_decide_eq_false g
   have:=of_decide_eq_true g2
   rw [if_neg (by omega),if_pos (by omega)]at h2;exact h2
  ·have:=of_decide_eq_false g
   have:=of_decide_eq_false g2
   have:=of_decide_eq_true g3
   have hw:x.2=false:=by simpa using g4
   rw [if_neg (by omega),if_neg (by omega),if_pos ⟨by omega,hw⟩]at h2
   rw [h2]
  ·have:=of_decide_eq_false g
   have:=of_decide_eq_false g2
   have hw:¬x.2=false:=by simpa using g4
   rw [if_neg (by omega),if_neg (by omega),if_neg (fun e=>hw e.2)]at h2;exact h2
  ·have:=of_decide_eq_false g
   have:=of_decide_eq_false g2
   have:=of_decide_eq_false g3
   rw [if_neg (by omega),if_neg (by omega),if_neg (by omega)]at h2;exact h2
 ·have hge:¬x.1<l.length:=of_decide_eq_false h
  rw [tM hge]at h2
  show PV.int _ _=PV.int _ _
  rw [←h2];rfl)
def nU:List PV→Option aI:=fun xs=>match xs with
 |[.str l]=>some ⟨l.length≤1000000,.int .i64 (bh l)⟩
 |_=>none
theorem vw:∀xs c,nU xs=some c→ag Tryz.prog aA 135 xs c:=fun xs c h=>by
 unfold nU at h
 split at h
 ·injection h with h;subst h;exact Gy _
 ·cases h
end
section
theorem mH {sc:Bs}{port:Int}{t:Bs}(h:t≠[]):dT sc port t=match iO 0 t with
 |none=>(port,8)
 |some n=>if 65535<n then(port,8)else if ay sc=true∧IB sc=n then(port,0)else(n,0):=by
 cases t with
 |nil=>exact absurd rfl h
 |cons b t=>rfl
def Gz:cq:=bR [(155,iN),(27,dQ)]
def GA(bp:Option Addr)(sc us pw:Bs)(hk:Int)(hs:Bs)(hn:Int)(hp:List Int)(port:Int)(opq pn:Bool)(pl:List Bs)(hq:Bool)(q:Bs)(hf:Bool)(fg:Bs)(bare sp:Bool)(rst:Bs)(t:Bs):ba:=fun i=>bif Nat.beq i 5 then some ⟨(Int)×(Int),(fun s x=>((((((((((((((((((((s.put 5 (.int .i64 x.1)).put 13 (.int .i64 x.2)).put 6 .undef).put 14 .undef).put 15 .undef).put 16 .undef).put 17 .undef).put 18 .undef).put 19 .undef).put 20 .undef).put 21 .undef).put 22 .undef).put 23 .undef).put 24 .undef).put 25 .undef).put 26 .undef).put 27 .undef).put 28 .undef).put 29 .undef).put 30 .undef)),(fun s=>(s.int 5,s.int 13)),(fun s x=>let n:=x.1;let i:=x.2;0≤i∧i≤t.length∧0≤n∧n≤65536∧iO n (t.drop i.toNat)=iO 0 t),(fun s x=>let n:=x.1;let i:=x.2;((t.length:Int)-i).toNat),[6,14,15,16,17,18,19,20,21,22,23,24,25,26,27,28,29,30]⟩else none
theorem DM:cS Tryz.prog aA Gz:=ai jj (ai dR (ax))
theorem I7(bp:Option Addr)(sc us pw:Bs)(hk:Int)(hs:Bs)(hn:Int)(hp:List Int)(port:Int)(opq pn:Bool)(pl:List Bs)(hq:Bool)(q:Bs)(hf:Bool)(fg:Bs)(bare sp:Bool)(rst:Bs)(t:Bs)(k:PV→List PV→Prop):bQ Tryz.prog Gz aA (GA bp sc us pw hk hs hn hp port opq pn pl hq q hf fg bare sp rst t) 1000 Tryz.f137 [.ptr 0 0,.str t] [aE 1 (.raw (.pointer bp)) sc us pw hk hs hn hp port opq pn pl hq q hf fg bare sp rst] k=(
 (decide (t=(ByteArray.mk #[]).data.toList)=true→
 k (PV.int .i64 (0:Int)) [bV (PV.raw (Go.Value.pointer bp)) 1 sc us pw hk hs hn hp port opq pn pl hq q hf fg bare sp rst])∧
 (decide (t=(ByteArray.mk #[]).data.toList)=false→
 VS.mk [] [(0,PV.ptr (0:Nat) (0:Nat)),(1,PV.str t),(4,PV.int .i64 (0:Int)),(5,PV.int .i64 (0:Int)),((6:Nat),PV.undef),(7,PV.undef),(8,PV.undef),(10,PV.bool (decide (t=(ByteArray.mk #[]).data.toList))),(12,PV.int .i64 (al t)),(13,PV.int .i64 (0:Int)),((14:Nat),PV.undef),((20:Nat),PV.undef),(32,PV.undef),(48,PV.undef)] [((0:Nat),bV (PV.raw (Go.Value.pointer bp)) 1 sc us pw hk hs hn hp port opq pn pl hq q hf fg bare sp rst)]=VS.mk [] [(0,PV.ptr (0:Nat) (0:Nat)),(1,PV.str t),(4,PV.int .i64 (0:Int)),((5:Nat),PV.int .i64 (0:Int)),((6:Nat),PV.undef),(7,PV.undef),(8,PV.undef),(10,PV.bool (decide (t=(ByteArray.mk #[]).data.toList))),(12,PV.int .i64 (al t)),((13:Nat),PV.int .i64 (0:Int)),((14:Nat),PV.undef),((20:Nat),PV.undef),(32,PV.undef),(48,PV.undef)] [((0:Nat),bV (PV.raw (Go.Value.pointer bp)) 1 sc us pw hk hs hn hp port opq pn pl hq q hf fg bare sp rst)]∧
 ((0:Int)≤(0:Int)∧
 (0:Int)≤↑(List.length t)∧
 (0:Int)≤(0:Int)∧
 (0:Int)≤(65536:Int)∧
 iO (0:Int) (List.drop (Int.toNat (0:Int)) t)=iO (0:Int) t)∧
 ∀(x:Int×Int),(0:Int)≤x.2∧
 x.2≤↑(List.length t)∧
 (0:Int)≤x.1∧
 x.1≤(65536:Int)∧
 iO x.1 (List.drop x.2.toNat t)=iO (0:Int) t→
 (decide (x.2<al t)=true→
 within x.2 (al t)∧
 True∧
 ((!decide ((48:Int)≤ak t x.2∧
 ak t x.2≤(57:Int)))=true→
 k (PV.int .i64 (8:Int)) [bV (PV.raw (Go.Value.pointer bp)) 1 sc us pw hk hs hn hp port opq pn pl hq q hf fg bare sp rst])∧
 ((!decide ((48:Int)≤ak t x.2∧
 ak t x.2≤(57:Int)))=false→
 aG (x.1*(10:Int))∧
 within x.2 (al t)∧
 aG (x.1*(10:Int)+Go.IntKind.i64.wrap (Go.IntKind.u8.wrap (ak t x.2-(48:Int))))∧
 aG (x.2+(1:Int))∧
 rR (VS.mk [] [(0,PV.ptr (0:Nat) (0:Nat)),(1,PV.str t),(4,PV.int .i64 (0:Int)),((5:Nat),PV.int .i64 (min (x.1*(10:Int)+Go.IntKind.i64.wrap (Go.IntKind.u8.wrap (ak t x.2-(48:Int)))) (65536:Int))),((6:Nat),PV.undef),(7,PV.undef),(8,PV.undef),(10,PV.bool (decide (t=(ByteArray.mk #[]).data.toList))),(12,PV.int .i64 (al t)),((13:Nat),PV.int .i64 (x.2+(1:Int))),((14:Nat),PV.undef),((20:Nat),PV.undef),(32,PV.undef),(48,PV.undef)] [((0:Nat),bV (PV.raw (Go.Value.pointer bp)) 1 sc us pw hk hs hn hp port opq pn pl hq q hf fg bare sp rst)])∧
 ((0:Int)≤x.2+(1:Int)∧
 x.2+(1:Int)≤↑(List.length t)∧
 (0:Int)≤min (x.1*(10:Int)+Go.IntKind.i64.wrap (Go.IntKind.u8.wrap (ak t x.2-(48:Int)))) (65536:Int)∧
 min (x.1*(10:Int)+Go.IntKind.i64.wrap (Go.IntKind.u8.wrap (ak t x.2-(48:Int)))) (65536:Int)≤(65536:Int)∧
 iO (min (x.1*(10:Int)+Go.IntKind.i64.wrap (Go.IntKind.u8.wrap (ak t x.2-(48:Int)))) (65536:Int)) (List.drop (x.2+(1:Int)).toNat t)=iO (0:Int) t)∧
 (↑(List.length t)-(x.2+(1:Int))).toNat<(↑(List.length t)-x.2).toNat))∧
 (decide (x.2<al t)=false→
 (decide ((65535:Int)<x.1)=true→
 k (PV.int .i64 (8:Int)) [bV (PV.raw (Go.Value.pointer bp)) 1 sc us pw hk hs hn hp port opq pn pl hq q hf fg bare sp rst])∧
 (decide ((65535:Int)<x.1)=false→
 True∧
 ((bif !ay sc then true else !decide (IB sc=x.1))=true→
 k (PV.int .i64 (0:Int)) [bV (PV.raw (Go.Value.pointer bp)) 1 sc us pw hk hs hn hp x.1 opq pn pl hq q hf fg bare sp rst])∧
 ((bif !ay sc then true else !decide (IB sc=x.1))=false→
 k (PV.int .i64 (0:Int)) [bV (PV.raw (Go.Value.pointer bp)) 1 sc us pw hk hs hn hp port opq pn pl hq q hf fg bare sp rst]))))):=by kernel_rfl
attribute [local irreducible] Go.Vc.cD Go.Vc.bQ
theorem DN(bp:Option Addr)(sc us pw:Bs)(hk:Int)(hs:Bs)(hn:Int)(hp:List Int)(port:Int)(opq pn:Bool)(pl:List Bs)(hq:Bool)(q:Bs)(hf:Bool)(fg:Bs)(bare sp:Bool)(rst:Bs)(t:Bs):br Tryz.prog aA 137 [.ptr 0 0,.str t] [aE 1 (.raw (.pointer bp)) sc us pw hk hs hn hp port opq pn pl hq q hf fg bare sp rst] (t.length≤300000) (.int .i64 (dT sc port t).2) [aE 1 (.raw (.pointer bp)) sc us pw hk hs hn hp ((dT sc port t).1) opq pn pl hq q hf fg bare sp rst]:=bH (by kernel_rfl) DM (H:=GA bp sc us pw hk hs hn hp port opq pn pl hq q hf fg bare sp rst t) (fuel:=1000) Tryz.func137 (by kernel_rfl) (Nat.le_of_ble_eq_true rfl) fun hpre=>(I7 bp sc us pw hk hs hn hp port opq pn pl hq q hf fg bare sp rst t _).mpr (by
 refine ⟨fun h=>?_,fun h=>⟨rfl,⟨by omega,by omega,by omega,by omega,rfl⟩,fun x ⟨h0,h1,h2,h3,h4⟩=>⟨fun g=>?_,fun g=>?_⟩⟩⟩
 ·have e:t=[]:=of_decide_eq_true h
  subst e;exact ⟨rfl,rfl⟩
 ·have hne:t≠[]:=of_decide_eq_false h
  have hlt:x.2<t.length:=of_decide_eq_true g
  rw [xJ h0 hlt]at h4
  obtain ⟨c,hc⟩:∃c,c=t.getD x.2.toNat 0:=⟨_,rfl⟩
  have hby:ak t x.2=c.toNat:=by rw [hc];rfl
  rw [←hc,iO]at h4
  rw [hby]
  refine ⟨⟨h0,hlt⟩,trivial,fun g2=>?_,fun g2=>?_⟩
  ·have g3:¬(48≤c.toNat∧c.toNat≤57):=by
    intro e
    rw [decide_eq_true (show(48:Int)≤c.toNat∧(c.toNat:Int)≤57 by omega)]at g2;cases g2
   rw [if_neg g3]at h4
   have e:dT sc port t=(port,8):=by rw [mH hne,←h4]
   rw [e];exact ⟨rfl,rfl⟩
  ·have g3:48≤c.toNat∧c.toNat≤57:=by
    have:=of_decide_eq_true (show decide ((48:Int)≤c.toNat∧(c.toNat:Int)≤57)=true by simpa using g2)
    omega
   rw [if_pos g3]at h4
   have w1:IntKind.u8.wrap ((c.toNat:Int)-48)=(c.toNat:Int)-48:=IntWalk.u8_in _ (by omega)
   have w2:IntKind.i64.wrap ((c.toNat:Int)-48)=(c.toNat:Int)-48:=IntWalk.i64_in _ (by omega)
   rw [w1,w2]
   exact ⟨by unfold aG;omega,⟨h0,hlt⟩,by unfold aG;omega,by unfold aG;omega,rfl,⟨by omega,by omega,by omega,by omega,h4⟩,by omega⟩
 ·have hne:t≠[]:=of_decide_eq_false h
  have hge:¬x.2<t.length:=of_decide_eq_false g
  rw [tM hge]at h4
  have h5:iO 0 t=some x.1:=h4.symm
  refine ⟨fun g2=>?_,fun g2=>⟨trivial,fun g3=>?_,fun g3=>?_⟩⟩
  ·have e:dT sc port t=(port,8):=by rw [mH hne,h5];exact if_pos (of_decide_eq_true g2)
   rw [e];exact ⟨rfl,rfl⟩
  ·have e:dT sc port t=(x.1,0):=by
    rw [mH hne,h5]
    show(if _ then _ else if _ then _ else _)=_
    rw [if_neg (of_decide_eq_false g2),if_neg]
    rintro ⟨e1,e2⟩
    rw [e1,decide_eq_true e2]at g3;cases g3
   rw [e];exact ⟨rfl,rfl⟩
  ·have e:dT sc port t=(port,0):=by
    rw [mH hne,h5]
    show(if _ then _ else if _ then _ else _)=_
    rw [if_neg (of_decide_eq_false g2),if_pos]
    cases e1:ay sc with
    |false=>rw [e1]at g3;cases g3
    |true=>
     refine ⟨rfl,?_⟩
     rw [e1]at g3
     exact of_decide_eq_true (show decide (IB sc=x.1)=true by simpa using g3)
   rw [e];exact ⟨rfl,rfl⟩)
theorem I8(bp:Option Addr)(sc us pw:Bs)(hk:Int)(hs:Bs)(hn:Int)(hp:List Int)(port:Int)(opq pn:Bool)(pl:List Bs)(hq:Bool)(q:Bs)(hf:Bool)(fg:Bs)(bare sp:Bool)(rst:Bs)(t:Bs):ag Tryz.prog aA 137 [.ptr 0 0,.str t,aE 1 (.raw (.pointer bp)) sc us pw hk hs hn hp port opq pn pl hq q hf fg bare sp rst] ⟨t.length≤300000,.tup [.int .i64 (dT sc port t).2,aE 1 (.raw (.pointer bp)) sc us pw hk hs hn hp ((dT sc port t).1) opq pn pl hq q hf fg bare sp rst]⟩:=ag.bd (fun h=>by have e:List.isEmpty (PV.aB PV.bD [.ptr 0 0,.str t,aE 1 (.raw (.pointer bp)) sc us pw hk hs hn hp port opq pn pl hq q hf fg bare sp rst])=false:=(by kernel_rfl);exact Bool.noConfusion (e.symm.trans (congrArg List.isEmpty h))) (DN bp sc us pw hk hs hn hp port opq pn pl hq q hf fg bare sp rst t)
def re:List PV→Option aI:=fun xs=>match xs with
 |[.ptr 0 0,.str t,aE 1 (.raw (.pointer bp)) sc us pw hk hs hn hp port opq pn pl hq q hf fg bare sp rst]=>some ⟨t.length≤300000,.tup [.int .i64 (dT sc port t).2,aE 1 (.raw (.pointer bp)) sc us pw hk hs hn hp ((dT sc port t).1) opq pn pl hq q hf fg bare sp rst]⟩
 |_=>none
theorem xS:∀xs c,re xs=some c→ag Tryz.prog aA 137 xs c:=fun xs c h=>by
 unfold re at h
 split at h
 ·injection h with h;subst h;exact I8 _ _ _ _ _ _ _ _ _ _ _ _ _ _ _ _ _ _ _ _
 ·cases h
end
section
theorem pF:∀(l:Bs) (w:Bool) (i:Int),kB w i l=-1∨(i≤kB w i l∧kB w i l<i+l.length)
 |[],w,i=>.inl rfl
 |b::l,w,i=>by
  have h1:=pF l true (i+1)
  have h2:=pF l false (i+1)
  have h3:=pF l w (i+1)
  unfold kB
  rw [List.length_cons]
  split
  ·omega
  ·split
   ·omega
   ·split
    ·omega
    ·omega
theorem BX(l:Bs):-1≤bh l∧bh l<max l.length 1:=by
 have:=pF l false 0
 unfold bh
 cases l with
 |nil=>exact ⟨by decide,by decide⟩
 |cons b l=>rw [List.length_cons]at this⊢;omega
theorem I9 {l:Bs}(h:0<bh l):bh l<l.length:=by
 have:=BX l
 cases l with
 |nil=>revert h;decide
 |cons b l=>rw [List.length_cons]at this⊢;omega
theorem GB(l:Bs)(c:Int):aM l c<l.length:=by
 rw [xy]
 rcases Lib.lastIndexByte_spec ⟨l.toArray⟩ c with⟨h1,-⟩|⟨i,h1,h2,-,-⟩
 ·rw [h1];omega
 ·rw [h2]
  have:i<l.length:=by simpa [ByteArray.size]using h1
  omega
theorem rf(l:Bs)(z:Int):(ae l z).length≤l.length:=by unfold ae;rw [List.length_take];exact Nat.min_le_right _ _
theorem cQ(l:Bs)(z:Int):(aa l z).length≤l.length:=by unfold aa;rw [List.length_drop];omega
theorem Ja(l:Bs)(c:UInt8):(dq l c).length≤l.length:=by
 unfold dq;split
 ·rw [List.length_take];exact Nat.min_le_right _ _
 ·exact Nat.le_refl _
theorem Jb(l:Bs)(c:UInt8):(dK l c).length≤l.length:=by
 unfold dK;split
 ·rw [List.length_drop];omega
 ·exact Nat.zero_le _
def LF(k:PV→List PV→Prop)(bp:Option Addr)(sc us pw:Bs)(hk:Int)(hs:Bs)(hn:Int)(hp:List Int)(port:Int)(opq pn:Bool)(pl:List Bs)(hq:Bool)(q:Bs)(hf:Bool)(fg:Bs)(bare sp:Bool)(t D:Bs):Prop:=t.length.le (1000000:Nat)∧
 ((bif decide (bh t=(0:Int))then true else bif decide (t=(ByteArray.mk #[]).data.toList)then sp else false)=true→
 k (PV.int .i64 (8:Int)) [bV (PV.raw (Go.Value.pointer bp)) 1 sc us pw hk hs hn hp port opq pn pl hq q hf fg bare sp D])∧
 ((bif decide (bh t=(0:Int))then true else bif decide (t=(ByteArray.mk #[]).data.toList)then sp else false)=false→
 (decide ((0:Int)<bh t)=true→
 upto (0:Int) (bh t) (al t)∧
 aG (bh t+(1:Int))∧
 upto (bh t+(1:Int)) (al t) (al t)∧
 (ae t (bh t)).length.le (300000:Nat)∧
 ((!decide ((aO sp (ae t (bh t))).2.2.2.2=(0:Int)))=true→
 k (PV.int .i64 (aO sp (ae t (bh t))).2.2.2.2) [bV (PV.raw (Go.Value.pointer bp)) 1 sc us pw ((aO sp (ae t (bh t))).1) ((aO sp (ae t (bh t))).2.1) ((aO sp (ae t (bh t))).2.2.1) ((aO sp (ae t (bh t))).2.2.2.1) port opq pn pl hq q hf fg bare sp D])∧
 ((!decide ((aO sp (ae t (bh t))).2.2.2.2=(0:Int)))=false→
 (aa t (bh t+(1:Int))).length.le (300000:Nat)∧
 k (PV.int .i64 (dT sc port (aa t (bh t+(1:Int)))).2) [bV (PV.raw (Go.Value.pointer bp)) 1 sc us pw ((aO sp (ae t (bh t))).1) ((aO sp (ae t (bh t))).2.1) ((aO sp (ae t (bh t))).2.2.1) ((aO sp (ae t (bh t))).2.2.2.1) ((dT sc port (aa t (bh t+(1:Int)))).1) opq pn pl hq q hf fg bare sp D]))∧
 (decide ((0:Int)<bh t)=false→
 t.length.le (300000:Nat)∧
 ((!decide ((aO sp t).2.2.2.2=(0:Int)))=true→
 k (PV.int .i64 (aO sp t).2.2.2.2) [bV (PV.raw (Go.Value.pointer bp)) 1 sc us pw ((aO sp t).1) ((aO sp t).2.1) ((aO sp t).2.2.1) ((aO sp t).2.2.2.1) port opq pn pl hq q hf fg bare sp D])∧
 ((!decide ((aO sp t).2.2.2.2=(0:Int)))=false→
 (ByteArray.mk #[]).data.toList.length.le (300000:Nat)∧
 k (PV.int .i64 (0:Int)) [bV (PV.raw (Go.Value.pointer bp)) 1 sc us pw ((aO sp t).1) ((aO sp t).2.1) ((aO sp t).2.2.1) ((aO sp t).2.2.2.1) port opq pn pl hq q hf fg bare sp D])))
set_option maxHeartbeats 2000000 in
theorem BY(bp:Option Addr)(sc us pw:Bs)(hk:Int)(hs:Bs)(hn:Int)(hp:List Int)(port:Int)(opq pn:Bool)(pl:List Bs)(hq:Bool)(q:Bs)(hf:Bool)(fg:Bs)(bare sp:Bool)(t D:Bs)(hl:t.length≤300000):
 LF (fun v os=>v=.int .i64 ((RS.mk sc us pw hk hs hn hp port opq pn pl hq q hf fg bare sp D).aX t).2∧os=[aE 1 (.raw (.pointer bp)) sc (((RS.mk sc us pw hk hs hn hp port opq pn pl hq q hf fg bare sp D).aX t).1.us) (((RS.mk sc us pw hk hs hn hp port opq pn pl hq q hf fg bare sp D).aX t).1.pw) (((RS.mk sc us pw hk hs hn hp port opq pn pl hq q hf fg bare sp D).aX t).1.hk) (((RS.mk sc us pw hk hs hn hp port opq pn pl hq q hf fg bare sp D).aX t).1.hs) (((RS.mk sc us pw hk hs hn hp port opq pn pl hq q hf fg bare sp D).aX t).1.hn) (((RS.mk sc us pw hk hs hn hp port opq pn pl hq q hf fg bare sp D).aX t).1.hp) (((RS.mk sc us pw hk hs hn hp port opq pn pl hq q hf fg bare sp D).aX t).1.port) opq pn pl hq q hf fg bare sp D]) bp sc us pw hk hs hn hp port opq pn pl hq q hf fg bare sp t D:=by
 have hb:=BX t
 have hcond:(bif decide (bh t=(0:Int))then true else bif decide (t=(ByteArray.mk #[]).data.toList)then sp else false)=decide (bh t=0∨(t=[]∧sp=true)):=by
  rw [Bool.eq_iff_iff]
  simp only [sb,L7,Bool.and_eq_true,Bool.or_eq_true,decide_eq_true_eq]
  try exact Iff.rfl
 unfold LF
 rw [hcond]
 refine ⟨show t.length≤1000000 by omega,fun h=>?_,fun h=>⟨fun h2=>?_,fun h2=>?_⟩⟩
 ·have e:(RS.mk sc us pw hk hs hn hp port opq pn pl hq q hf fg bare sp D).aX t=((RS.mk sc us pw hk hs hn hp port opq pn pl hq q hf fg bare sp D),8):=if_pos (of_decide_eq_true h)
  rw [e];exact ⟨rfl,rfl⟩
 ·have hc:=of_decide_eq_false h
  have h3:0<bh t:=of_decide_eq_true h2
  have h4:=I9 h3
  have ht:=rf t (bh t)
  have hd:=cQ t (bh t+1)
  have e:(RS.mk sc us pw hk hs hn hp port opq pn pl hq q hf fg bare sp D).aX t=if(aO sp (ae t (bh t))).2.2.2.2=0 then({(RS.mk sc us pw hk hs hn hp port opq pn pl hq q hf fg bare sp D)with hk:=(aO sp (ae t (bh t))).1,hs:=(aO sp (ae t (bh t))).2.1,hn:=(aO sp (ae t (bh t))).2.2.1,hp:=(aO sp (ae t (bh t))).2.2.2.1,port:=(dT sc port (aa t (bh t+1))).1},(dT sc port (aa t (bh t+1))).2)else({(RS.mk sc us pw hk hs hn hp port opq pn pl hq q hf fg bare sp D)with hk:=(aO sp (ae t (bh t))).1,hs:=(aO sp (ae t (bh t))).2.1,hn:=(aO sp (ae t (bh t))).2.2.1,hp:=(aO sp (ae t (bh t))).2.2.2.1},(aO sp (ae t (bh t))).2.2.2.2):=by
   unfold RS.aX
   rw [if_neg hc]
   dsimp only
   rw [if_pos h3,if_pos h3]
  rw [e]
  refine ⟨⟨by omega,by omega,by unfold al;omega⟩,by unfold aG;omega,⟨by omega,by unfold al;omega,Int.le_refl _⟩,show(ae t (bh t)).length≤300000 by omega,fun h5=>?_,fun h5=>⟨show(aa t (bh t+1)).length≤300000 by omega,?_⟩⟩
  ·rw [if_neg (by simpa using h5)];exact ⟨rfl,rfl⟩
  ·rw [if_pos (by simpa using h5)];exact ⟨rfl,rfl⟩
 ·have hc:=of_decide_eq_false h
  have h3:¬0<bh t:=of_decide_eq_false h2
  have e:(RS.mk sc us pw hk hs hn hp port opq pn pl hq q hf fg bare sp D).aX t=if(aO sp t).2.2.2.2=0 then({(RS.mk sc us pw hk hs hn hp port opq pn pl hq q hf fg bare sp D)with hk:=(aO sp t).1,hs:=(aO sp t).2.1,hn:=(aO sp t).2.2.1,hp:=(aO sp t).2.2.2.1,port:=(dT sc port []).1},(dT sc port []).2)else({(RS.mk sc us pw hk hs hn hp port opq pn pl hq q hf fg bare sp D)with hk:=(aO sp t).1,hs:=(aO sp t).2.1,hn:=(aO sp t).2.2.1,hp:=(aO sp t).2.2.2.1},(aO sp t).2.2.2.2):=by
   unfold RS.aX
   rw [if_neg hc]
   dsimp only
   rw [if_neg h3,if_neg h3]
  rw [e]
  refine ⟨show t.length≤300000 from hl,fun h5=>?_,fun h5=>⟨Nat.zero_le _,?_⟩⟩
  ·rw [if_neg (by simpa using h5)];exact ⟨rfl,rfl⟩
  ·rw [if_pos (by simpa using h5)];exact ⟨rfl,rfl⟩
def oT:cq:=bR [(124,fU),(128,gI),(133,qJ),(134,ve),(26,ff),(135,nU),(136,jV),(137,re)]
def oU(bp:Option Addr)(sc us pw:Bs)(hk:Int)(hs:Bs)(hn:Int)(hp:List Int)(port:Int)(opq pn:Bool)(pl:List Bs)(hq:Bool)(q:Bs)(hf:Bool)(fg:Bs)(bare sp:Bool)(rst:Bs):ba:=fun i=>none
theorem rh:cS Tryz.prog aA oT:=ai gH (ai fX (ai xz (ai zZ (ai dS (ai vw (ai qT (ai xS (ax))))))))
theorem vx(bp:Option Addr)(sc us pw:Bs)(hk:Int)(hs:Bs)(hn:Int)(hp:List Int)(port:Int)(opq pn:Bool)(pl:List Bs)(hq:Bool)(q:Bs)(hf:Bool)(fg:Bs)(bare sp:Bool)(rst:Bs)(k:PV→List PV→Prop):bQ Tryz.prog oT aA (oU bp sc us pw hk hs hn hp port opq pn pl hq q hf fg bare sp rst) 1000 Tryz.f88 [.ptr 0 0] [aE 1 (.raw (.pointer bp)) sc us pw hk hs hn hp port opq pn pl hq q hf fg bare sp rst] k=(
 (List.length rst).le (300000:Nat)∧
 ((0:Int)≤↑(ah sp rst)∧
 ↑(ah sp rst)≤al rst)∧
 ((ae rst ↑(ah sp rst)).length≤(1000000:Nat)∧
 (0:Int)≤(64:Int)∧
 (64:Int)≤(255:Int))∧
 (decide ((0:Int)≤aM (ae rst ↑(ah sp rst)) (64:Int))=true→
 upto (0:Int) (aM (ae rst ↑(ah sp rst)) (64:Int)) (al (ae rst ↑(ah sp rst)))∧
 ((ae (ae rst ↑(ah sp rst)) (aM (ae rst ↑(ah sp rst)) (64:Int))).length≤(1000000:Nat)∧
 (ByteArray.mk #[58]).data.toList=[(58:UInt8)])∧
 ((dq (ae (ae rst ↑(ah sp rst)) (aM (ae rst ↑(ah sp rst)) (64:Int))) (58:UInt8)).length≤(300000:Nat)∧
 (0:Int)≤(5:Int)∧
 (5:Int)≤(6:Int))∧
 ((dK (ae (ae rst ↑(ah sp rst)) (aM (ae rst ↑(ah sp rst)) (64:Int))) (58:UInt8)).length≤(300000:Nat)∧
 (0:Int)≤(5:Int)∧
 (5:Int)≤(6:Int))∧
 aG (aM (ae rst ↑(ah sp rst)) (64:Int)+(1:Int))∧
 upto (aM (ae rst ↑(ah sp rst)) (64:Int)+(1:Int)) (al (ae rst ↑(ah sp rst))) (al (ae rst ↑(ah sp rst)))∧
 (decide (aa (ae rst ↑(ah sp rst)) (aM (ae rst ↑(ah sp rst)) (64:Int)+(1:Int))=(ByteArray.mk #[]).data.toList)=true→
 k (PV.int .i64 (8:Int)) [bV (PV.raw (Go.Value.pointer bp)) 1 sc (bw (5:Int) (dq (ae (ae rst ↑(ah sp rst)) (aM (ae rst ↑(ah sp rst)) (64:Int))) (58:UInt8))) (bw (5:Int) (dK (ae (ae rst ↑(ah sp rst)) (aM (ae rst ↑(ah sp rst)) (64:Int))) (58:UInt8))) hk hs hn hp port opq pn pl hq q hf fg bare sp (aa rst ↑(ah sp rst))])∧
 (decide (aa (ae rst ↑(ah sp rst)) (aM (ae rst ↑(ah sp rst)) (64:Int)+(1:Int))=(ByteArray.mk #[]).data.toList)=false→
 (aa (ae rst ↑(ah sp rst)) (aM (ae rst ↑(ah sp rst)) (64:Int)+(1:Int))).length.le (1000000:Nat)∧
 ((bif decide (bh (aa (ae rst ↑(ah sp rst)) (aM (ae rst ↑(ah sp rst)) (64:Int)+(1:Int)))=(0:Int))then true else bif decide (aa (ae rst ↑(ah sp rst)) (aM (ae rst ↑(ah sp rst)) (64:Int)+(1:Int))=(ByteArray.mk #[]).data.toList)then sp else false)=true→
 k (PV.int .i64 (8:Int)) [bV (PV.raw (Go.Value.pointer bp)) 1 sc (bw (5:Int) (dq (ae (ae rst ↑(ah sp rst)) (aM (ae rst ↑(ah sp rst)) (64:Int))) (58:UInt8))) (bw (5:Int) (dK (ae (ae rst ↑(ah sp rst)) (aM (ae rst ↑(ah sp rst)) (64:Int))) (58:UInt8))) hk hs hn hp port opq pn pl hq q hf fg bare sp (aa rst ↑(ah sp rst))])∧
 ((bif decide (bh (aa (ae rst ↑(ah sp rst)) (aM (ae rst ↑(ah sp rst)) (64:Int)+(1:Int)))=(0:Int))then true else bif decide (aa (ae rst ↑(ah sp rst)) (aM (ae rst ↑(ah sp rst)) (64:Int)+(1:Int))=(ByteArray.mk #[]).data.toList)then sp else false)=false→
 (decide ((0:Int)<bh (aa (ae rst ↑(ah sp rst)) (aM (ae rst ↑(ah sp rst)) (64:Int)+(1:Int))))=true→
 upto (0:Int) (bh (aa (ae rst ↑(ah sp rst)) (aM (ae rst ↑(ah sp rst)) (64:Int)+(1:Int)))) (al (aa (ae rst ↑(ah sp rst)) (aM (ae rst ↑(ah sp rst)) (64:Int)+(1:Int))))∧
 aG (bh (aa (ae rst ↑(ah sp rst)) (aM (ae rst ↑(ah sp rst)) (64:Int)+(1:Int)))+(1:Int))∧
 upto (bh (aa (ae rst ↑(ah sp rst)) (aM (ae rst ↑(ah sp rst)) (64:Int)+(1:Int)))+(1:Int)) (al (aa (ae rst ↑(ah sp rst)) (aM (ae rst ↑(ah sp rst)) (64:Int)+(1:Int)))) (al (aa (ae rst ↑(ah sp rst)) (aM (ae rst ↑(ah sp rst)) (64:Int)+(1:Int))))∧
 (ae (aa (ae rst ↑(ah sp rst)) (aM (ae rst ↑(ah sp rst)) (64:Int)+(1:Int))) (bh (aa (ae rst ↑(ah sp rst)) (aM (ae rst ↑(ah sp rst)) (64:Int)+(1:Int))))).length.le (300000:Nat)∧
 ((!decide ((aO sp (ae (aa (ae rst ↑(ah sp rst)) (aM (ae rst ↑(ah sp rst)) (64:Int)+(1:Int))) (bh (aa (ae rst ↑(ah sp rst)) (aM (ae rst ↑(ah sp rst)) (64:Int)+(1:Int)))))).2.2.2.2=(0:Int)))=true→
 k (PV.int .i64 (aO sp (ae (aa (ae rst ↑(ah sp rst)) (aM (ae rst ↑(ah sp rst)) (64:Int)+(1:Int))) (bh (aa (ae rst ↑(ah sp rst)) (aM (ae rst ↑(ah sp rst)) (64:Int)+(1:Int)))))).2.2.2.2) [bV (PV.raw (Go.Value.pointer bp)) 1 sc (bw (5:Int) (dq (ae (ae rst ↑(ah sp rst)) (aM (ae rst ↑(ah sp rst)) (64:Int))) (58:UInt8))) (bw (5:Int) (dK (ae (ae rst ↑(ah sp rst)) (aM (ae rst ↑(ah sp rst)) (64:Int))) (58:UInt8))) ((aO sp (ae (aa (ae rst ↑(ah sp rst)) (aM (ae rst ↑(ah sp rst)) (64:Int)+(1:Int))) (bh (aa (ae rst ↑(ah sp rst)) (aM (ae rst ↑(ah sp rst)) (64:Int)+(1:Int)))))).1) ((aO sp (ae (aa (ae rst ↑(ah sp rst)) (aM (ae rst ↑(ah sp rst)) (64:Int)+(1:Int))) (bh (aa (ae rst ↑(ah sp rst)) (aM (ae rst ↑(ah sp rst)) (64:Int)+(1:Int)))))).2.1) ((aO sp (ae (aa (ae rst ↑(ah sp rst)) (aM (ae rst ↑(ah sp rst)) (64:Int)+(1:Int))) (bh (aa (ae rst ↑(ah sp rst)) (aM (ae rst ↑(ah sp rst)) (64:Int)+(1:Int)))))).2.2.1) ((aO sp (ae (aa (ae rst ↑(ah sp rst)) (aM (ae rst ↑(ah sp rst)) (64:Int)+(1:Int))) (bh (aa (ae rst ↑(ah sp rst)) (aM (ae rst ↑(ah sp rst)) (64:Int)+(1:Int)))))).2.2.2.1) port opq pn pl hq q hf fg bare sp (aa rst ↑(ah sp rst))])∧
 ((!decide ((aO sp (ae (aa (ae rst ↑(ah sp rst)) (aM (ae rst ↑(ah sp rst)) (64:Int)+(1:Int))) (bh (aa (ae rst ↑(ah sp rst)) (aM (ae rst ↑(ah sp rst)) (64:Int)+(1:Int)))))).2.2.2.2=(0:Int)))=false→
 (aa (aa (ae rst ↑(ah sp rst)) (aM (ae rst ↑(ah sp rst)) (64:Int)+(1:Int))) (bh (aa (ae rst ↑(ah sp rst)) (aM (ae rst ↑(ah sp rst)) (64:Int)+(1:Int)))+(1:Int))).length.le (300000:Nat)∧
 k (PV.int .i64 (dT sc port (aa (aa (ae rst ↑(ah sp rst)) (aM (ae rst ↑(ah sp rst)) (64:Int)+(1:Int))) (bh (aa (ae rst ↑(ah sp rst)) (aM (ae rst ↑(ah sp rst)) (64:Int)+(1:Int)))+(1:Int)))).2) [bV (PV.raw (Go.Value.pointer bp)) 1 sc (bw (5:Int) (dq (ae (ae rst ↑(ah sp rst)) (aM (ae rst ↑(ah sp rst)) (64:Int))) (58:UInt8))) (bw (5:Int) (dK (ae (ae rst ↑(ah sp rst)) (aM (ae rst ↑(ah sp rst)) (64:Int))) (58:UInt8))) ((aO sp (ae (aa (ae rst ↑(ah sp rst)) (aM (ae rst ↑(ah sp rst)) (64:Int)+(1:Int))) (bh (aa (ae rst ↑(ah sp rst)) (aM (ae rst ↑(ah sp rst)) (64:Int)+(1:Int)))))).1) ((aO sp (ae (aa (ae rst ↑(ah sp rst)) (aM (ae rst ↑(ah sp rst)) (64:Int)+(1:Int))) (bh (aa (ae rst ↑(ah sp rst)) (aM (ae rst ↑(ah sp rst)) (64:Int)+(1:Int)))))).2.1) ((aO sp (ae (aa (ae rst ↑(ah sp rst)) (aM (ae rst ↑(ah sp rst)) (64:Int)+(1:Int))) (bh (aa (ae rst ↑(ah sp rst)) (aM (ae rst ↑(ah sp rst)) (64:Int)+(1:Int)))))).2.2.1) ((aO sp (ae (aa (ae rst ↑(ah sp rst)) (aM (ae rst ↑(ah sp rst)) (64:Int)+(1:Int))) (bh (aa (ae rst ↑(ah sp rst)) (aM (ae rst ↑(ah sp rst)) (64:Int)+(1:Int)))))).2.2.2.1) ((dT sc port (aa (aa (ae rst ↑(ah sp rst)) (aM (ae rst ↑(ah sp rst)) (64:Int)+(1:Int))) (bh (aa (ae rst ↑(ah sp rst)) (aM (ae rst ↑(ah sp rst)) (64:Int)+(1:Int)))+(1:Int)))).1) opq pn pl hq q hf fg bare sp (aa rst ↑(ah sp rst))]))∧
 (decide ((0:Int)<bh (aa (ae rst ↑(ah sp rst)) (aM (ae rst ↑(ah sp rst)) (64:Int)+(1:Int))))=false→
 (aa (ae rst ↑(ah sp rst)) (aM (ae rst ↑(ah sp rst)) (64:Int)+(1:Int))).length.le (300000:Nat)∧
 ((!decide ((aO sp (aa (ae rst ↑(ah sp rst)) (aM (ae rst ↑(ah sp rst)) (64:Int)+(1:Int)))).2.2.2.2=(0:Int)))=true→
 k (PV.int .i64 (aO sp (aa (ae rst ↑(ah sp rst)) (aM (ae rst ↑(ah sp rst)) (64:Int)+(1:Int)))).2.2.2.2) [bV (PV.raw (Go.Value.pointer bp)) 1 sc (bw (5:Int) (dq (ae (ae rst ↑(ah sp rst)) (aM (ae rst ↑(ah sp rst)) (64:Int))) (58:UInt8))) (bw (5:Int) (dK (ae (ae rst ↑(ah sp rst)) (aM (ae rst ↑(ah sp rst)) (64:Int))) (58:UInt8))) ((aO sp (aa (ae rst ↑(ah sp rst)) (aM (ae rst ↑(ah sp rst)) (64:Int)+(1:Int)))).1) ((aO sp (aa (ae rst ↑(ah sp rst)) (aM (ae rst ↑(ah sp rst)) (64:Int)+(1:Int)))).2.1) ((aO sp (aa (ae rst ↑(ah sp rst)) (aM (ae rst ↑(ah sp rst)) (64:Int)+(1:Int)))).2.2.1) ((aO sp (aa (ae rst ↑(ah sp rst)) (aM (ae rst ↑(ah sp rst)) (64:Int)+(1:Int)))).2.2.2.1) port opq pn pl hq q hf fg bare sp (aa rst ↑(ah sp rst))])∧
 ((!decide ((aO sp (aa (ae rst ↑(ah sp rst)) (aM (ae rst ↑(ah sp rst)) (64:Int)+(1:Int)))).2.2.2.2=(0:Int)))=false→
 (ByteArray.mk #[]).data.toList.length.le (300000:Nat)∧
 k (PV.int .i64 (0:Int)) [bV (PV.raw (Go.Value.pointer bp)) 1 sc (bw (5:Int) (dq (ae (ae rst ↑(ah sp rst)) (aM (ae rst ↑(ah sp rst)) (64:Int))) (58:UInt8))) (bw (5:Int) (dK (ae (ae rst ↑(ah sp rst)) (aM (ae rst ↑(ah sp rst)) (64:Int))) (58:UInt8))) ((aO sp (aa (ae rst ↑(ah sp rst)) (aM (ae rst ↑(ah sp rst)) (64:Int)+(1:Int)))).1) ((aO sp (aa (ae rst ↑(ah sp rst)) (aM (ae rst ↑(ah sp rst)) (64:Int)+(1:Int)))).2.1) ((aO sp (aa (ae rst ↑(ah sp rst)) (aM (ae rst ↑(ah sp rst)) (64:Int)+(1:Int)))).2.2.1) ((aO sp (aa (ae rst ↑(ah sp rst)) (aM (ae rst ↑(ah sp rst)) (64:Int)+(1:Int)))).2.2.2.1) port opq pn pl hq q hf fg bare sp (aa rst ↑(ah sp rst))])))))∧
 (decide ((0:Int)≤aM (ae rst ↑(ah sp rst)) (64:Int))=false→
 (ae rst ↑(ah sp rst)).length.le (1000000:Nat)∧
 ((bif decide (bh (ae rst ↑(ah sp rst))=(0:Int))then true else bif decide (ae rst ↑(ah sp rst)=(ByteArray.mk #[]).data.toList)then sp else false)=true→
 k (PV.int .i64 (8:Int)) [bV (PV.raw (Go.Value.pointer bp)) 1 sc us pw hk hs hn hp port opq pn pl hq q hf fg bare sp (aa rst ↑(ah sp rst))])∧
 ((bif decide (bh (ae rst ↑(ah sp rst))=(0:Int))then true else bif decide (ae rst ↑(ah sp rst)=(ByteArray.mk #[]).data.toList)then sp else false)=false→
 (decide ((0:Int)<bh (ae rst ↑(ah sp rst)))=true→
 upto (0:Int) (bh (ae rst ↑(ah sp rst))) (al (ae rst ↑(ah sp rst)))∧
 aG (bh (ae rst ↑(ah sp rst))+(1:Int))∧
 upto (bh (ae rst ↑(ah sp rst))+(1:Int)) (al (ae rst ↑(ah sp rst))) (al (ae rst ↑(ah sp rst)))∧
 (ae (ae rst ↑(ah sp rst)) (bh (ae rst ↑(ah sp rst)))).length.le (300000:Nat)∧
 ((!decide ((aO sp (ae (ae rst ↑(ah sp rst)) (bh (ae rst ↑(ah sp rst))))).2.2.2.2=(0:Int)))=true→
 k (PV.int .i64 (aO sp (ae (ae rst ↑(ah sp rst)) (bh (ae rst ↑(ah sp rst))))).2.2.2.2) [bV (PV.raw (Go.Value.pointer bp)) 1 sc us pw ((aO sp (ae (ae rst ↑(ah sp rst)) (bh (ae rst ↑(ah sp rst))))).1) ((aO sp (ae (ae rst ↑(ah sp rst)) (bh (ae rst ↑(ah sp rst))))).2.1) ((aO sp (ae (ae rst ↑(ah sp rst)) (bh (ae rst ↑(ah sp rst))))).2.2.1) ((aO sp (ae (ae rst ↑(ah sp rst)) (bh (ae rst ↑(ah sp rst))))).2.2.2.1) port opq pn pl hq q hf fg bare sp (aa rst ↑(ah sp rst))])∧
 ((!decide ((aO sp (ae (ae rst ↑(ah sp rst)) (bh (ae rst ↑(ah sp rst))))).2.2.2.2=(0:Int)))=false→
 (aa (ae rst ↑(ah sp rst)) (bh (ae rst ↑(ah sp rst))+(1:Int))).length.le (300000:Nat)∧
 k (PV.int .i64 (dT sc port (aa (ae rst ↑(ah sp rst)) (bh (ae rst ↑(ah sp rst))+(1:Int)))).2) [bV (PV.raw (Go.Value.pointer bp)) 1 sc us pw ((aO sp (ae (ae rst ↑(ah sp rst)) (bh (ae rst ↑(ah sp rst))))).1) ((aO sp (ae (ae rst ↑(ah sp rst)) (bh (ae rst ↑(ah sp rst))))).2.1) ((aO sp (ae (ae rst ↑(ah sp rst)) (bh (ae rst ↑(ah sp rst))))).2.2.1) ((aO sp (ae (ae rst ↑(ah sp rst)) (bh (ae rst ↑(ah sp rst))))).2.2.2.1) ((dT sc port (aa (ae rst ↑(ah sp rst)) (bh (ae rst ↑(ah sp rst))+(1:Int)))).1) opq pn pl hq q hf fg bare sp (aa rst ↑(ah sp rst))]))∧
 (decide ((0:Int)<bh (ae rst ↑(ah sp rst)))=false→
 (ae rst ↑(ah sp rst)).length.le (300000:Nat)∧
 ((!decide ((aO sp (ae rst ↑(ah sp rst))).2.2.2.2=(0:Int)))=true→
 k (PV.int .i64 (aO sp (ae rst ↑(ah sp rst))).2.2.2.2) [bV (PV.raw (Go.Value.pointer bp)) 1 sc us pw ((aO sp (ae rst ↑(ah sp rst))).1) ((aO sp (ae rst ↑(ah sp rst))).2.1) ((aO sp (ae rst ↑(ah sp rst))).2.2.1) ((aO sp (ae rst ↑(ah sp rst))).2.2.2.1) port opq pn pl hq q hf fg bare sp (aa rst ↑(ah sp rst))])∧
 ((!decide ((aO sp (ae rst ↑(ah sp rst))).2.2.2.2=(0:Int)))=false→
 (ByteArray.mk #[]).data.toList.length.le (300000:Nat)∧
 k (PV.int .i64 (0:Int)) [bV (PV.raw (Go.Value.pointer bp)) 1 sc us pw ((aO sp (ae rst ↑(ah sp rst))).1) ((aO sp (ae rst ↑(ah sp rst))).2.1) ((aO sp (ae rst ↑(ah sp rst))).2.2.1) ((aO sp (ae rst ↑(ah sp rst))).2.2.2.1) port opq pn pl hq q hf fg bare sp (aa rst ↑(ah sp rst))]))))):=by kernel_rfl
attribute [local irreducible] Go.Vc.cD Go.Vc.bQ
theorem ri(bp:Option Addr)(sc us pw:Bs)(hk:Int)(hs:Bs)(hn:Int)(hp:List Int)(port:Int)(opq pn:Bool)(pl:List Bs)(hq:Bool)(q:Bs)(hf:Bool)(fg:Bs)(bare sp:Bool)(rst:Bs):br Tryz.prog aA 88 [.ptr 0 0] [aE 1 (.raw (.pointer bp)) sc us pw hk hs hn hp port opq pn pl hq q hf fg bare sp rst] (rst.length≤300000) (.int .i64 (RS.mk sc us pw hk hs hn hp port opq pn pl hq q hf fg bare sp rst).aZ.2) [aE 1 (.raw (.pointer bp)) sc ((RS.mk sc us pw hk hs hn hp port opq pn pl hq q hf fg bare sp rst).aZ.1.us) ((RS.mk sc us pw hk hs hn hp port opq pn pl hq q hf fg bare sp rst).aZ.1.pw) ((RS.mk sc us pw hk hs hn hp port opq pn pl hq q hf fg bare sp rst).aZ.1.hk) ((RS.mk sc us pw hk hs hn hp port opq pn pl hq q hf fg bare sp rst).aZ.1.hs) ((RS.mk sc us pw hk hs hn hp port opq pn pl hq q hf fg bare sp rst).aZ.1.hn) ((RS.mk sc us pw hk hs hn hp port opq pn pl hq q hf fg bare sp rst).aZ.1.hp) ((RS.mk sc us pw hk hs hn hp port opq pn pl hq q hf fg bare sp rst).aZ.1.port) opq pn pl hq q hf fg bare sp (aa rst (ah sp rst))]:=bH (by kernel_rfl) rh (H:=oU bp sc us pw hk hs hn hp port opq pn pl hq q hf fg bare sp rst) (fuel:=1000) Tryz.func88 (by kernel_rfl) (Nat.le_of_ble_eq_true rfl) fun hpre=>(vx bp sc us pw hk hs hn hp port opq pn pl hq q hf fg bare sp rst _).mpr (by
 have e3:ah sp rst≤rst.length:=fe _ _
 obtain ⟨S,e4⟩:∃S,S=ae rst (ah sp rst:Int):=⟨_,rfl⟩
 obtain ⟨D,e5⟩:∃D,D=aa rst (ah sp rst:Int):=⟨_,rfl⟩
 have ha:(RS.mk sc us pw hk hs hn hp port opq pn pl hq q hf fg bare sp rst).aZ=if 0≤aM S 64 then(if aa S (aM S 64+1)=[]then(RS.mk sc (bw 5 (dq (ae S (aM S 64)) 58)) (bw 5 (dK (ae S (aM S 64)) 58)) hk hs hn hp port opq pn pl hq q hf fg bare sp D,8)else(RS.mk sc (bw 5 (dq (ae S (aM S 64)) 58)) (bw 5 (dK (ae S (aM S 64)) 58)) hk hs hn hp port opq pn pl hq q hf fg bare sp D).aX (aa S (aM S 64+1)))else(RS.mk sc us pw hk hs hn hp port opq pn pl hq q hf fg bare sp D).aX S:=by rw [e4,e5];rfl
 rw [←e4,←e5]
 have e6:S.length≤300000:=by rw [e4];have:=rf rst (ah sp rst:Int);omega
 have hl:=GB S 64
 have ht:=rf S (aM S 64)
 have hd:=cQ S (aM S 64+1)
 have hca:=Ja (ae S (aM S 64)) 58
 have hcb:=Jb (ae S (aM S 64)) 58
 refine ⟨show rst.length≤300000 from hpre,⟨by omega,by unfold al;exact Int.ofNat_le.2 e3⟩,⟨by omega,by omega,by omega⟩,fun h=>⟨⟨by omega,of_decide_eq_true h,by unfold al;omega⟩,⟨by omega,rfl⟩,⟨by omega,by omega,by omega⟩,⟨by omega,by omega,by omega⟩,by have:=of_decide_eq_true h;unfold aG;omega,⟨by have:=of_decide_eq_true h;omega,by unfold al;omega,Int.le_refl _⟩,fun h2=>?_,fun h2=>?_⟩,fun h=>?_⟩
 ·rw [ha,if_pos (of_decide_eq_true h),if_pos (show aa S (aM S 64+1)=[]from of_decide_eq_true h2)]
  exact ⟨rfl,rfl⟩
 ·rw [ha,if_pos (of_decide_eq_true h),if_neg (show ¬aa S (aM S 64+1)=[]from of_decide_eq_false h2)]
  exact BY bp sc (bw 5 (dq (ae S (aM S 64)) 58)) (bw 5 (dK (ae S (aM S 64)) 58)) hk hs hn hp port opq pn pl hq q hf fg bare sp (aa S (aM S 64+1)) D (by omega)
 ·rw [ha,if_neg (of_decide_eq_false h)]
  exact BY bp sc us pw hk hs hn hp port opq pn pl hq q hf fg bare sp S D e6)
theorem vy(bp:Option Addr)(sc us pw:Bs)(hk:Int)(hs:Bs)(hn:Int)(hp:List Int)(port:Int)(opq pn:Bool)(pl:List Bs)(hq:Bool)(q:Bs)(hf:Bool)(fg:Bs)(bare sp:Bool)(rst:Bs):ag Tryz.prog aA 88 [.ptr 0 0,aE 1 (.raw (.pointer bp)) sc us pw hk hs hn hp port opq pn pl hq q hf fg bare sp rst] ⟨rst.length≤300000,.tup [.int .i64 (RS.mk sc us pw hk hs hn hp port opq pn pl hq q hf fg bare sp rst).aZ.2,aE 1 (.raw (.pointer bp)) sc ((RS.mk sc us pw hk hs hn hp port opq pn pl hq q hf fg bare sp rst).aZ.1.us) ((RS.mk sc us pw hk hs hn hp port opq pn pl hq q hf fg bare sp rst).aZ.1.pw) ((RS.mk sc us pw hk hs hn hp port opq pn pl hq q hf fg bare sp rst).aZ.1.hk) ((RS.mk sc us pw hk hs hn hp port opq pn pl hq q hf fg bare sp rst).aZ.1.hs) ((RS.mk sc us pw hk hs hn hp port opq pn pl hq q hf fg bare sp rst).aZ.1.hn) ((RS.mk sc us pw hk hs hn hp port opq pn pl hq q hf fg bare sp rst).aZ.1.hp) ((RS.mk sc us pw hk hs hn hp port opq pn pl hq q hf fg bare sp rst).aZ.1.port) opq pn pl hq q hf fg bare sp (aa rst (ah sp rst))]⟩:=ag.bd (fun h=>by have e:List.isEmpty (PV.aB PV.bD [.ptr 0 0,aE 1 (.raw (.pointer bp)) sc us pw hk hs hn hp port opq pn pl hq q hf fg bare sp rst])=false:=(by kernel_rfl);exact Bool.noConfusion (e.symm.trans (congrArg List.isEmpty h))) (ri bp sc us pw hk hs hn hp port opq pn pl hq q hf fg bare sp rst)
def ie:List PV→Option aI:=fun xs=>match xs with
 |[.ptr 0 0,aE 1 (.raw (.pointer bp)) sc us pw hk hs hn hp port opq pn pl hq q hf fg bare sp rst]=>some ⟨rst.length≤300000,.tup [.int .i64 (RS.mk sc us pw hk hs hn hp port opq pn pl hq q hf fg bare sp rst).aZ.2,aE 1 (.raw (.pointer bp)) sc ((RS.mk sc us pw hk hs hn hp port opq pn pl hq q hf fg bare sp rst).aZ.1.us) ((RS.mk sc us pw hk hs hn hp port opq pn pl hq q hf fg bare sp rst).aZ.1.pw) ((RS.mk sc us pw hk hs hn hp port opq pn pl hq q hf fg bare sp rst).aZ.1.hk) ((RS.mk sc us pw hk hs hn hp port opq pn pl hq q hf fg bare sp rst).aZ.1.hs) ((RS.mk sc us pw hk hs hn hp port opq pn pl hq q hf fg bare sp rst).aZ.1.hn) ((RS.mk sc us pw hk hs hn hp port opq pn pl hq q hf fg bare sp rst).aZ.1.hp) ((RS.mk sc us pw hk hs hn hp port opq pn pl hq q hf fg bare sp rst).aZ.1.port) opq pn pl hq q hf fg bare sp (aa rst (ah sp rst))]⟩
 |_=>none
theorem nV:∀xs c,ie xs=some c→ag Tryz.prog aA 88 xs c:=fun xs c h=>by
 unfold ie at h
 split at h
 ·injection h with h;subst h;exact vy _ _ _ _ _ _ _ _ _ _ _ _ _ _ _ _ _ _ _
 ·cases h
end
section
def rj:cq:=bR [(124,fU),(128,gI),(136,lx)]
def rk(bp:Option Addr)(sc us pw:Bs)(hk:Int)(hs:Bs)(hn:Int)(hp:List Int)(port:Int)(opq pn:Bool)(pl:List Bs)(hq:Bool)(q:Bs)(hf:Bool)(fg:Bs)(bare sp:Bool)(rst:Bs):ba:=fun i=>none
theorem si:cS Tryz.prog aA rj:=ai gH (ai fX (ai sg (ax)))
theorem xT(bp:Option Addr)(sc us pw:Bs)(hk:Int)(hs:Bs)(hn:Int)(hp:List Int)(port:Int)(opq pn:Bool)(pl:List Bs)(hq:Bool)(q:Bs)(hf:Bool)(fg:Bs)(bare sp:Bool)(rst:Bs)(k:PV→List PV→Prop):bQ Tryz.prog rj aA (rk bp sc us pw hk hs hn hp port opq pn pl hq q hf fg bare sp rst) 1000 Tryz.f125 [.ptr 0 0] [aE 1 (.raw (.pointer bp)) sc us pw hk hs hn hp port opq pn pl hq q hf fg bare sp rst] k=(
 (List.length rst).le (300000:Nat)∧
 ((0:Int)≤↑(ah sp rst)∧
 ↑(ah sp rst)≤al rst)∧
 (decide (ae rst ↑(ah sp rst)=(ByteArray.mk #[]).data.toList)=true→
 k (PV.int .i64 (0:Int)) [bV (PV.raw (Go.Value.pointer bp)) 1 sc us pw hk hs hn hp port opq pn pl hq q hf fg bare sp (aa rst ↑(ah sp rst))])∧
 (decide (ae rst ↑(ah sp rst)=(ByteArray.mk #[]).data.toList)=false→
 (ae rst ↑(ah sp rst)).length.le (1000000:Nat)∧
 ((bif !decide ((cv (ae rst ↑(ah sp rst))).1=(2:Int))then true else !decide ((cv (ae rst ↑(ah sp rst))).2.1=(ByteArray.mk #[108,111,99,97,108,104,111,115,116]).data.toList))=true→
 k (PV.int .i64 (cv (ae rst ↑(ah sp rst))).2.2.2.2) [bV (PV.raw (Go.Value.pointer bp)) 1 sc us pw ((cv (ae rst ↑(ah sp rst))).1) ((cv (ae rst ↑(ah sp rst))).2.1) ((cv (ae rst ↑(ah sp rst))).2.2.1) ((cv (ae rst ↑(ah sp rst))).2.2.2.1) port opq pn pl hq q hf fg bare sp (aa rst ↑(ah sp rst))])∧
 ((bif !decide ((cv (ae rst ↑(ah sp rst))).1=(2:Int))then true else !decide ((cv (ae rst ↑(ah sp rst))).2.1=(ByteArray.mk #[108,111,99,97,108,104,111,115,116]).data.toList))=false→
 k (PV.int .i64 (cv (ae rst ↑(ah sp rst))).2.2.2.2) [bV (PV.raw (Go.Value.pointer bp)) 1 sc us pw hk hs hn hp port opq pn pl hq q hf fg bare sp (aa rst ↑(ah sp rst))]))):=by kernel_rfl
attribute [local irreducible] Go.Vc.cD Go.Vc.bQ
theorem sj(bp:Option Addr)(sc us pw:Bs)(hk:Int)(hs:Bs)(hn:Int)(hp:List Int)(port:Int)(opq pn:Bool)(pl:List Bs)(hq:Bool)(q:Bs)(hf:Bool)(fg:Bs)(bare sp:Bool)(rst:Bs):br Tryz.prog aA 125 [.ptr 0 0] [aE 1 (.raw (.pointer bp)) sc us pw hk hs hn hp port opq pn pl hq q hf fg bare sp rst] (rst.length≤300000) (.int .i64 (RS.mk sc us pw hk hs hn hp port opq pn pl hq q hf fg bare sp rst).av.2) [aE 1 (.raw (.pointer bp)) sc us pw ((RS.mk sc us pw hk hs hn hp port opq pn pl hq q hf fg bare sp rst).av.1.hk) ((RS.mk sc us pw hk hs hn hp port opq pn pl hq q hf fg bare sp rst).av.1.hs) ((RS.mk sc us pw hk hs hn hp port opq pn pl hq q hf fg bare sp rst).av.1.hn) ((RS.mk sc us pw hk hs hn hp port opq pn pl hq q hf fg bare sp rst).av.1.hp) port opq pn pl hq q hf fg bare sp (aa rst (ah sp rst))]:=bH (by kernel_rfl) si (H:=rk bp sc us pw hk hs hn hp port opq pn pl hq q hf fg bare sp rst) (fuel:=1000) Tryz.func125 (by kernel_rfl) (Nat.le_of_ble_eq_true rfl) fun hpre=>(xT bp sc us pw hk hs hn hp port opq pn pl hq q hf fg bare sp rst _).mpr (by
 have e3:ah sp rst≤rst.length:=fe _ _
 obtain ⟨S,e4⟩:∃S,S=ae rst (ah sp rst:Int):=⟨_,rfl⟩
 rw [←e4]
 have e6:S.length≤300000:=by rw [e4];unfold ae;rw [List.length_take];omega
 have ef:(RS.mk sc us pw hk hs hn hp port opq pn pl hq q hf fg bare sp rst).av=if S=[]then((RS.mk sc us pw hk hs hn hp port opq pn pl hq q hf fg bare sp rst).cut (ah sp rst),0)else if(cv S).1=2∧(cv S).2.1=LA then((RS.mk sc us pw hk hs hn hp port opq pn pl hq q hf fg bare sp rst).cut (ah sp rst),(cv S).2.2.2.2)else({(RS.mk sc us pw hk hs hn hp port opq pn pl hq q hf fg bare sp rst).cut (ah sp rst)with hk:=(cv S).1,hs:=(cv S).2.1,hn:=(cv S).2.2.1,hp:=(cv S).2.2.2.1},(cv S).2.2.2.2):=by rw [e4];rfl
 rw [ef]
 refine ⟨show rst.length≤300000 from hpre,⟨by omega,by unfold al;exact Int.ofNat_le.2 e3⟩,fun h=>?_,fun h=>⟨show S.length≤1000000 by omega,fun h2=>?_,fun h2=>?_⟩⟩
 ·rw [if_pos (show S=[]from of_decide_eq_true h)];exact ⟨rfl,rfl⟩
 ·rw [if_neg (show ¬S=[]from of_decide_eq_false h),if_neg]
  ·exact ⟨rfl,rfl⟩
  ·rintro ⟨a,b⟩
   rw [decide_eq_true a,show decide ((cv S).2.1=(ByteArray.mk #[108,111,99,97,108,104,111,115,116]).data.toList)=true from decide_eq_true b]at h2
   cases h2
 ·rw [if_neg (show ¬S=[]from of_decide_eq_false h),if_pos]
  ·exact ⟨rfl,rfl⟩
  ·cases ha:decide ((cv S).1=2)with
   |false=>rw [ha]at h2;cases h2
   |true=>
    rw [ha]at h2
    cases hb:decide ((cv S).2.1=(ByteArray.mk #[108,111,99,97,108,104,111,115,116]).data.toList)with
    |false=>rw [hb]at h2;cases h2
    |true=>exact ⟨of_decide_eq_true ha,of_decide_eq_true hb⟩)
theorem xU(bp:Option Addr)(sc us pw:Bs)(hk:Int)(hs:Bs)(hn:Int)(hp:List Int)(port:Int)(opq pn:Bool)(pl:List Bs)(hq:Bool)(q:Bs)(hf:Bool)(fg:Bs)(bare sp:Bool)(rst:Bs):ag Tryz.prog aA 125 [.ptr 0 0,aE 1 (.raw (.pointer bp)) sc us pw hk hs hn hp port opq pn pl hq q hf fg bare sp rst] ⟨rst.length≤300000,.tup [.int .i64 (RS.mk sc us pw hk hs hn hp port opq pn pl hq q hf fg bare sp rst).av.2,aE 1 (.raw (.pointer bp)) sc us pw ((RS.mk sc us pw hk hs hn hp port opq pn pl hq q hf fg bare sp rst).av.1.hk) ((RS.mk sc us pw hk hs hn hp port opq pn pl hq q hf fg bare sp rst).av.1.hs) ((RS.mk sc us pw hk hs hn hp port opq pn pl hq q hf fg bare sp rst).av.1.hn) ((RS.mk sc us pw hk hs hn hp port opq pn pl hq q hf fg bare sp rst).av.1.hp) port opq pn pl hq q hf fg bare sp (aa rst (ah sp rst))]⟩:=ag.bd (fun h=>by have e:List.isEmpty (PV.aB PV.bD [.ptr 0 0,aE 1 (.raw (.pointer bp)) sc us pw hk hs hn hp port opq pn pl hq q hf fg bare sp rst])=false:=(by kernel_rfl);exact Bool.noConfusion (e.symm.trans (congrArg List.isEmpty h))) (sj bp sc us pw hk hs hn hp port opq pn pl hq q hf fg bare sp rst)
def jl:List PV→Option aI:=fun xs=>match xs with
 |[.ptr 0 0,aE 1 (.raw (.pointer bp)) sc us pw hk hs hn hp port opq pn pl hq q hf fg bare sp rst]=>some ⟨rst.length≤300000,.tup [.int .i64 (RS.mk sc us pw hk hs hn hp port opq pn pl hq q hf fg bare sp rst).av.2,aE 1 (.raw (.pointer bp)) sc us pw ((RS.mk sc us pw hk hs hn hp port opq pn pl hq q hf fg bare sp rst).av.1.hk) ((RS.mk sc us pw hk hs hn hp port opq pn pl hq q hf fg bare sp rst).av.1.hs) ((RS.mk sc us pw hk hs hn hp port opq pn pl hq q hf fg bare sp rst).av.1.hn) ((RS.mk sc us pw hk hs hn hp port opq pn pl hq q hf fg bare sp rst).av.1.hp) port opq pn pl hq q hf fg bare sp (aa rst (ah sp rst))]⟩
 |_=>none
theorem o6:∀xs c,jl xs=some c→ag Tryz.prog aA 125 xs c:=fun xs c h=>by
 unfold jl at h
 split at h
 ·injection h with h;subst h;exact xU _ _ _ _ _ _ _ _ _ _ _ _ _ _ _ _ _ _ _
 ·cases h
end
section
def JK:cq:=bR [(153,jk)]
def JL(l:Bs):ba:=fun i=>none
theorem GC:cS Tryz.prog aA JK:=ai kJ (ax)
theorem KR(l:Bs)(k:PV→Prop):cD Tryz.prog JK aA (JL l) 1000 Tryz.f123 [.str l] k=(
 (decide (al l=(2:Int))=true→within (0:Int) (al l))∧
 (decide (al l=(2:Int))=true→(0:Int)≤ak l (0:Int)∧ak l (0:Int)≤(255:Int))∧
 ((bif decide (al l=(2:Int))then
 decide
 ((97:Int)≤ak l (0:Int)∧ak l (0:Int)≤(122:Int)∨
 (65:Int)≤ak l (0:Int)∧ak l (0:Int)≤(90:Int))
 else false)=
 true→
 within (1:Int) (al l))∧
 ((bif decide (al l=(2:Int))then
 decide
 ((97:Int)≤ak l (0:Int)∧ak l (0:Int)≤(122:Int)∨
 (65:Int)≤ak l (0:Int)∧ak l (0:Int)≤(90:Int))
 else false)=
 true→
 decide (ak l (1:Int)=(58:Int))=false→within (1:Int) (al l))∧
 k
 (PV.bool
 (bif
 bif decide (al l=(2:Int))then
 decide
 ((97:Int)≤ak l (0:Int)∧ak l (0:Int)≤(122:Int)∨
 (65:Int)≤ak l (0:Int)∧ak l (0:Int)≤(90:Int))
 else false then
 bif decide (ak l (1:Int)=(58:Int))then true else decide (ak l (1:Int)=(124:Int))
 else false))):=by kernel_rfl
attribute [local irreducible] Go.Vc.cD
theorem KS(l:Bs):ag Tryz.prog aA 123 [.str l] ⟨True,.bool (bS l)⟩:=b5 (by kernel_rfl) GC (H:=JL l) (fuel:=1000) Tryz.func123 (by kernel_rfl) fun hpre=>(KR l _).mpr (by
 have hr:=gS l 0
 have b0:ak l 0=aD l 0:=iM l 0
 have b1:ak l 1=aD l 1:=iM l 1
 have w2:∀z:Int,0≤z→z<2→∀b:Bool,(bif decide (al l=2)then b else false)=true→within z (al l):=fun z h0 h1 b h=>by
  cases e:decide (al l=2)with
  |false=>rw [e]at h;cases h
  |true=>have:=of_decide_eq_true e;unfold within;omega
 refine ⟨fun h=>?_,fun _=>by omega,fun h=>w2 1 (by omega) (by omega) _ h,fun h _=>w2 1 (by omega) (by omega) _ h,?_⟩
 ·have:=of_decide_eq_true h;unfold within;omega
 ·congr 1
  unfold bS C3
  rw [b0,b1,Bool.eq_iff_iff]
  simp only [sb,L7,Bool.and_eq_true,Bool.or_eq_true,decide_eq_true_eq]
  unfold al
  omega)
def mI:List PV→Option aI:=fun xs=>match xs with
 |[.str l]=>some ⟨True,.bool (bS l)⟩
 |_=>none
theorem lA:∀xs c,mI xs=some c→ag Tryz.prog aA 123 xs c:=fun xs c h=>by
 unfold mI at h
 split at h
 ·injection h with h;subst h;exact KS _
 ·cases h
end
section
def JM:cq:=bR [(123,mI)]
def JN(l:Bs):ba:=fun i=>none
theorem GD:cS Tryz.prog aA JM:=ai lA (ax)
theorem KU(l:Bs)(k:PV→Prop):cD Tryz.prog JM aA (JN l) 1000 Tryz.f132 [.str l] k=(
 True∧
 (bS l=true→within (1:Int) (al l))∧
 k (PV.bool (bif bS l then decide (ak l (1:Int)=(58:Int))else false))):=by kernel_rfl
attribute [local irreducible] Go.Vc.cD
theorem KV(l:Bs):ag Tryz.prog aA 132 [.str l] ⟨True,.bool (nG l)⟩:=b5 (by kernel_rfl) GD (H:=JN l) (fuel:=1000) Tryz.func132 (by kernel_rfl) fun hpre=>(KU l _).mpr (by
 have b1:ak l 1=aD l 1:=iM l 1
 refine ⟨trivial,fun h=>?_,?_⟩
 ·unfold bS at h
  simp only [Bool.and_eq_true,decide_eq_true_eq]at h
  unfold within al;omega
 ·show PV.bool _=PV.bool (bS l&&decide (aD l 1=58))
  rw [←b1]
  cases bS l<;>rfl)
def vz:List PV→Option aI:=fun xs=>match xs with
 |[.str l]=>some ⟨True,.bool (nG l)⟩
 |_=>none
theorem As:∀xs c,vz xs=some c→ag Tryz.prog aA 132 xs c:=fun xs c h=>by
 unfold vz at h
 split at h
 ·injection h with h;subst h;exact KV _
 ·cases h
end
section
def tV:cq:=bR [(132,vz)]
def tW(bp:Option Addr)(sc us pw:Bs)(hk:Int)(hs:Bs)(hn:Int)(hp:List Int)(port:Int)(opq pn:Bool)(pl:List Bs)(hq:Bool)(q:Bs)(hf:Bool)(fg:Bs)(bare sp:Bool)(rst:Bs):ba:=fun i=>none
theorem vA:cS Tryz.prog aA tV:=ai As (ax)
theorem Au(bp:Option Addr)(sc us pw:Bs)(hk:Int)(hs:Bs)(hn:Int)(hp:List Int)(port:Int)(opq pn:Bool)(pl:List Bs)(hq:Bool)(q:Bs)(hf:Bool)(fg:Bs)(bare sp:Bool)(rst:Bs)(k:PV→List PV→Prop):bQ Tryz.prog tV aA (tW bp sc us pw hk hs hn hp port opq pn pl hq q hf fg bare sp rst) 1000 Tryz.f87 [.ptr 0 0] [aE 1 (.raw (.pointer bp)) sc us pw hk hs hn hp port opq pn pl hq q hf fg bare sp rst] k=(
 (decide (Int.ofNat pl.length=(0:Int))=false→
 (bif decide (Int.ofNat pl.length=(1:Int))then decide (sc=(ByteArray.mk #[102,105,108,101]).data.toList)else false)=true→
 within (0:Int) (Int.ofNat pl.length))∧
 (decide (Int.ofNat pl.length=(0:Int))=false→
 (bif decide (Int.ofNat pl.length=(1:Int))then decide (sc=(ByteArray.mk #[102,105,108,101]).data.toList)else false)=true→
 True)∧
 ((bif decide (Int.ofNat pl.length=(0:Int))then true else bif bif decide (Int.ofNat pl.length=(1:Int))then decide (sc=(ByteArray.mk #[102,105,108,101]).data.toList)else false then nG (gY pl (0:Int))else false)=true→
 k (PV.tup []) [bV (PV.raw (Go.Value.pointer bp)) 1 sc us pw hk hs hn hp port opq pn pl hq q hf fg bare sp rst])∧
 ((bif decide (Int.ofNat pl.length=(0:Int))then true else bif bif decide (Int.ofNat pl.length=(1:Int))then decide (sc=(ByteArray.mk #[102,105,108,101]).data.toList)else false then nG (gY pl (0:Int))else false)=false→
 aG (Int.ofNat pl.length-(1:Int))∧
 upto (0:Int) (Int.ofNat pl.length-(1:Int)) (Int.ofNat pl.length)∧
 k (PV.tup []) [bV (PV.raw (Go.Value.pointer bp)) 1 sc us pw hk hs hn hp port opq pn (ae pl (Int.ofNat pl.length-(1:Int))) hq q hf fg bare sp rst])):=by kernel_rfl
attribute [local irreducible] Go.Vc.cD Go.Vc.bQ
theorem mJ(bp:Option Addr)(sc us pw:Bs)(hk:Int)(hs:Bs)(hn:Int)(hp:List Int)(port:Int)(opq pn:Bool)(pl:List Bs)(hq:Bool)(q:Bs)(hf:Bool)(fg:Bs)(bare sp:Bool)(rst:Bs):br Tryz.prog aA 87 [.ptr 0 0] [aE 1 (.raw (.pointer bp)) sc us pw hk hs hn hp port opq pn pl hq q hf fg bare sp rst] (pl.length≤1000000) (.tup []) [aE 1 (.raw (.pointer bp)) sc us pw hk hs hn hp port opq ((b6 sc (pn,pl)).1) ((b6 sc (pn,pl)).2) hq q hf fg bare sp rst]:=bH (by kernel_rfl) vA (H:=tW bp sc us pw hk hs hn hp port opq pn pl hq q hf fg bare sp rst) (fuel:=1000) Tryz.func87 (by kernel_rfl) (Nat.le_of_ble_eq_true rfl) fun hpre=>(Au bp sc us pw hk hs hn hp port opq pn pl hq q hf fg bare sp rst _).mpr (by
 have ef:(ByteArray.mk #[102,105,108,101]).data.toList=fL:=rfl
 rcases pl with _ |⟨x,_ |⟨y,t⟩⟩
 ·refine ⟨fun h=>(by cases h),fun h=>(by cases h),fun _=>⟨rfl,rfl⟩,fun h=>(by cases h)⟩
 ·refine ⟨fun _ _=>⟨Int.le_refl _,show(0:Int)<1 by decide⟩,fun _ _=>trivial,fun h=>?_,fun h=>?_⟩
  ·have:b6 sc (pn,[x])=(pn,[x]):=by
    unfold b6
    rw [if_pos]
    refine .inr ⟨rfl,?_,?_⟩
    ·by_cases e:sc=fL
     ·exact e
     ·rw [show decide (sc=(ByteArray.mk #[102,105,108,101]).data.toList)=false from decide_eq_false e]at h;cases h
    ·by_cases e:sc=fL
     ·rw [show decide (sc=(ByteArray.mk #[102,105,108,101]).data.toList)=true from decide_eq_true e]at h;exact h
     ·rw [show decide (sc=(ByteArray.mk #[102,105,108,101]).data.toList)=false from decide_eq_false e]at h;cases h
   rw [this];exact ⟨rfl,rfl⟩
  ·have:b6 sc (pn,[x])=(pn,[]):=by
    unfold b6
    rw [if_neg]
    ·rfl
    ·rintro (e|⟨-,e,e2⟩)
     ·cases e
     ·rw [show decide (sc=(ByteArray.mk #[102,105,108,101]).data.toList)=true from decide_eq_true e]at h
      have e3:nG (gY [x] 0)=true:=e2
      rw [e3]at h;cases h
   rw [this]
   exact ⟨show aG (1-1) by unfold aG;omega,show upto 0 (1-1) 1 by unfold upto;omega,rfl,rfl⟩
 ·have hn:¬Int.ofNat (x::y::t).length=(0:Int):=by simp [Int.ofNat];omega
  have hn1:¬Int.ofNat (x::y::t).length=(1:Int):=by simp [Int.ofNat];omega
  rw [decide_eq_false hn,decide_eq_false hn1]
  refine ⟨fun _ h=>(by cases h),fun _ h=>(by cases h),fun h=>(by cases h),fun _=>?_⟩
  have:b6 sc (pn,x::y::t)=(pn,ae (x::y::t) (Int.ofNat (x::y::t).length-1)):=by
   unfold b6
   rw [if_neg]
   ·unfold ae
    show(pn,(x::y::t).take ((x::y::t).length-1))=_
    congr 2
    simp
   ·rintro (e|⟨e,-⟩)
    ·cases e
    ·simp at e
  rw [this]
  have hl:t.length+1+1≤1000000:=hpre
  have e9:Int.ofNat (x::y::t).length=(t.length:Int)+2:=by show((t.length+1+1:Nat):Int)=_;omega
  exact ⟨by rw [e9];unfold aG;omega,by rw [e9];unfold upto;omega,rfl,rfl⟩)
theorem Av(bp:Option Addr)(sc us pw:Bs)(hk:Int)(hs:Bs)(hn:Int)(hp:List Int)(port:Int)(opq pn:Bool)(pl:List Bs)(hq:Bool)(q:Bs)(hf:Bool)(fg:Bs)(bare sp:Bool)(rst:Bs):ag Tryz.prog aA 87 [.ptr 0 0,aE 1 (.raw (.pointer bp)) sc us pw hk hs hn hp port opq pn pl hq q hf fg bare sp rst] ⟨pl.length≤1000000,.tup [.tup [],aE 1 (.raw (.pointer bp)) sc us pw hk hs hn hp port opq ((b6 sc (pn,pl)).1) ((b6 sc (pn,pl)).2) hq q hf fg bare sp rst]⟩:=ag.bd (fun h=>by have e:List.isEmpty (PV.aB PV.bD [.ptr 0 0,aE 1 (.raw (.pointer bp)) sc us pw hk hs hn hp port opq pn pl hq q hf fg bare sp rst])=false:=(by kernel_rfl);exact Bool.noConfusion (e.symm.trans (congrArg List.isEmpty h))) (mJ bp sc us pw hk hs hn hp port opq pn pl hq q hf fg bare sp rst)
def j3:List PV→Option aI:=fun xs=>match xs with
 |[.ptr 0 0,aE 1 (.raw (.pointer bp)) sc us pw hk hs hn hp port opq pn pl hq q hf fg bare sp rst]=>some ⟨pl.length≤1000000,.tup [.tup [],aE 1 (.raw (.pointer bp)) sc us pw hk hs hn hp port opq ((b6 sc (pn,pl)).1) ((b6 sc (pn,pl)).2) hq q hf fg bare sp rst]⟩
 |_=>none
theorem rl:∀xs c,j3 xs=some c→ag Tryz.prog aA 87 xs c:=fun xs c h=>by
 unfold j3 at h
 split at h
 ·injection h with h;subst h;exact Av _ _ _ _ _ _ _ _ _ _ _ _ _ _ _ _ _ _ _
 ·cases h
end
section
theorem rm(sc:Bs)(p:Pa):(b6 sc p).2.length≤p.2.length:=by
 unfold b6
 split
 ·exact Nat.le_refl _
 ·show(p.2.take _).length≤_
  rw [List.length_take];omega
def GF:cq:=bR [(163,qK),(164,vg),(123,mI),(87,j3),(26,ff)]
def GG(bp:Option Addr)(sc us pw:Bs)(hk:Int)(hs:Bs)(hn:Int)(hp:List Int)(port:Int)(opq pn:Bool)(pl:List Bs)(hq:Bool)(q:Bs)(hf:Bool)(fg:Bs)(bare sp:Bool)(rst:Bs)(t:Bs)(last:Bool):ba:=fun i=>none
theorem DO:cS Tryz.prog aA GF:=ai xA (ai z6 (ai lA (ai rl (ai dS (ax)))))
theorem Jc(bp:Option Addr)(sc us pw:Bs)(hk:Int)(hs:Bs)(hn:Int)(hp:List Int)(port:Int)(opq pn:Bool)(pl:List Bs)(hq:Bool)(q:Bs)(hf:Bool)(fg:Bs)(bare sp:Bool)(rst:Bs)(t:Bs)(last:Bool)(k:PV→List PV→Prop):bQ Tryz.prog GF aA (GG bp sc us pw hk hs hn hp port opq pn pl hq q hf fg bare sp rst t last) 1000 Tryz.f139 [.ptr 0 0,.str t,.bool last] [aE 1 (.raw (.pointer bp)) sc us pw hk hs hn hp port opq pn pl hq q hf fg bare sp rst] k=(
 (List.length t).le (1000000:Nat)∧
 (mm t=true→
 pl.length.le (1000000:Nat)∧
 (last=true→
 Int.ofNat ((b6 sc (pn,pl)).2++[(ByteArray.mk #[]).data.toList]).length≤de∧
 k (PV.tup []) [bV (PV.raw (Go.Value.pointer bp)) 1 sc us pw hk hs hn hp port opq false ((b6 sc (pn,pl)).2++[(ByteArray.mk #[]).data.toList]) hq q hf fg bare sp rst])∧
 (last=false→
 k (PV.tup []) [bV (PV.raw (Go.Value.pointer bp)) 1 sc us pw hk hs hn hp port opq ((b6 sc (pn,pl)).1) ((b6 sc (pn,pl)).2) hq q hf fg bare sp rst]))∧
 (mm t=false→
 (List.length t).le (1000000:Nat)∧
 (ml t=true→
 (last=true→
 Int.ofNat (pl++[(ByteArray.mk #[]).data.toList]).length≤de∧
 k (PV.tup []) [bV (PV.raw (Go.Value.pointer bp)) 1 sc us pw hk hs hn hp port opq false (pl++[(ByteArray.mk #[]).data.toList]) hq q hf fg bare sp rst])∧
 (last=false→
 k (PV.tup []) [bV (PV.raw (Go.Value.pointer bp)) 1 sc us pw hk hs hn hp port opq pn pl hq q hf fg bare sp rst]))∧
 (ml t=false→
 ((bif decide (sc=(ByteArray.mk #[102,105,108,101]).data.toList)then decide (Int.ofNat pl.length=(0:Int))else false)=true→
 True)∧
 ((bif bif decide (sc=(ByteArray.mk #[102,105,108,101]).data.toList)then decide (Int.ofNat pl.length=(0:Int))else false then bS t else false)=true→
 upto (0:Int) (1:Int) (al t)∧
 (ae t (1:Int)).length+(ByteArray.mk #[58]).data.toList.length≤Go.Vc.maxLen∧
 (Int.ofNat (pl++[ae t (1:Int)++(ByteArray.mk #[58]).data.toList]).length≤de∧
 k (PV.tup []) [bV (PV.raw (Go.Value.pointer bp)) 1 sc us pw hk hs hn hp port opq false (pl++[ae t (1:Int)++(ByteArray.mk #[58]).data.toList]) hq q hf fg bare sp rst])∧
 Int.ofNat (pl++[ae t (1:Int)++(ByteArray.mk #[58]).data.toList]).length≤de∧
 k (PV.tup []) [bV (PV.raw (Go.Value.pointer bp)) 1 sc us pw hk hs hn hp port opq false (pl++[ae t (1:Int)++(ByteArray.mk #[58]).data.toList]) hq q hf fg bare sp rst])∧
 ((bif bif decide (sc=(ByteArray.mk #[102,105,108,101]).data.toList)then decide (Int.ofNat pl.length=(0:Int))else false then bS t else false)=false→
 ((List.length t≤(300000:Nat)∧
 (0:Int)≤(4:Int)∧
 (4:Int)≤(6:Int))∧
 Int.ofNat (pl++[bw (4:Int) t]).length≤de∧
 k (PV.tup []) [bV (PV.raw (Go.Value.pointer bp)) 1 sc us pw hk hs hn hp port opq false (pl++[bw (4:Int) t]) hq q hf fg bare sp rst])∧
 (List.length t≤(300000:Nat)∧
 (0:Int)≤(4:Int)∧
 (4:Int)≤(6:Int))∧
 (Int.ofNat (pl++[bw (4:Int) t]).length≤de∧
 k (PV.tup []) [bV (PV.raw (Go.Value.pointer bp)) 1 sc us pw hk hs hn hp port opq false (pl++[bw (4:Int) t]) hq q hf fg bare sp rst])∧
 Int.ofNat (pl++[bw (4:Int) t]).length≤de∧
 k (PV.tup []) [bV (PV.raw (Go.Value.pointer bp)) 1 sc us pw hk hs hn hp port opq false (pl++[bw (4:Int) t]) hq q hf fg bare sp rst])))):=by kernel_rfl
attribute [local irreducible] Go.Vc.cD Go.Vc.bQ
theorem DP(bp:Option Addr)(sc us pw:Bs)(hk:Int)(hs:Bs)(hn:Int)(hp:List Int)(port:Int)(opq pn:Bool)(pl:List Bs)(hq:Bool)(q:Bs)(hf:Bool)(fg:Bs)(bare sp:Bool)(rst:Bs)(t:Bs)(last:Bool):br Tryz.prog aA 139 [.ptr 0 0,.str t,.bool last] [aE 1 (.raw (.pointer bp)) sc us pw hk hs hn hp port opq pn pl hq q hf fg bare sp rst] (pl.length≤1000000∧t.length≤300000) (.tup []) [aE 1 (.raw (.pointer bp)) sc us pw hk hs hn hp port opq ((cH sc (pn,pl) t last).1) ((cH sc (pn,pl) t last).2) hq q hf fg bare sp rst]:=bH (by kernel_rfl) DO (H:=GG bp sc us pw hk hs hn hp port opq pn pl hq q hf fg bare sp rst t last) (fuel:=1000) Tryz.func139 (by kernel_rfl) (Nat.le_of_ble_eq_true rfl) fun hpre=>(Jc bp sc us pw hk hs hn hp port opq pn pl hq q hf fg bare sp rst t last _).mpr (by
 obtain ⟨hp1,hp2⟩:=hpre
 have hm:∀(p:List Bs) (x:Bs),p.length≤1000000→Int.ofNat (p++[x]).length≤de:=fun p x h=>by
  rw [List.length_append]
  show((p.length+1:Nat):Int)≤16777216
  omega
 have hsl:=rm sc (pn,pl)
 have ht:(List.length t).le 1000000:=show t.length≤1000000 by omega
 have hcond:(bif bif decide (sc=(ByteArray.mk #[102,105,108,101]).data.toList)then decide (Int.ofNat pl.length=(0:Int))else false then bS t else false)=decide (sc=fL∧pl=[]∧bS t=true):=by
  rw [Bool.eq_iff_iff]
  simp only [sb,Bool.and_eq_true,decide_eq_true_eq]
  constructor
  ·rintro ⟨⟨a,b⟩,c⟩
   exact ⟨a,List.eq_nil_of_length_eq_zero (Int.ofNat.inj b),c⟩
  ·rintro ⟨a,b,c⟩
   exact ⟨⟨a,by rw [b];rfl⟩,c⟩
 rw [hcond]
 refine ⟨ht,fun h=>⟨hp1,fun hl=>⟨hm _ _ (Nat.le_trans hsl hp1),?_⟩,fun hl=>?_⟩,fun h=>⟨ht,fun h2=>⟨fun hl=>⟨hm _ _ hp1,?_⟩,fun hl=>?_⟩,fun h2=>⟨fun _=>trivial,fun h3=>?_,fun h3=>?_⟩⟩⟩
 ·have e:cH sc (pn,pl) t last=(false,(b6 sc (pn,pl)).2++[[]]):=by unfold cH;rw [if_pos h,hl];rfl
  rw [e];exact ⟨rfl,rfl⟩
 ·have e:cH sc (pn,pl) t last=b6 sc (pn,pl):=by unfold cH;rw [if_pos h,hl];rfl
  rw [e];exact ⟨rfl,rfl⟩
 ·have e:cH sc (pn,pl) t last=(false,pl++[[]]):=by unfold cH;rw [if_neg (by rw [h];decide),if_pos h2,hl];rfl
  rw [e];exact ⟨rfl,rfl⟩
 ·have e:cH sc (pn,pl) t last=(pn,pl):=by unfold cH;rw [if_neg (by rw [h];decide),if_pos h2,hl];rfl
  rw [e];exact ⟨rfl,rfl⟩
 ·have hc:=of_decide_eq_true h3
  have e:cH sc (pn,pl) t last=(false,pl++[ae t 1++[58]]):=by unfold cH;rw [if_neg (by rw [h];decide),if_neg (by rw [h2];decide),if_pos hc]
  have h2l:t.length=2:=by
   have:=hc.2.2
   unfold bS at this
   simp only [Bool.and_eq_true,decide_eq_true_eq]at this
   exact this.1.1
  rw [e]
  have hk:(ae t 1).length≤1:=by unfold ae;rw [List.length_take];exact Nat.min_le_left _ _
  exact ⟨⟨Int.le_refl _,by omega,by unfold al;omega⟩,Nat.le_trans (Nat.add_le_add_right hk _) (by decide),⟨hm _ _ hp1,rfl,rfl⟩,hm _ _ hp1,rfl,rfl⟩
 ·have hc:=of_decide_eq_false h3
  have e:cH sc (pn,pl) t last=(false,pl++[bw 4 t]):=by unfold cH;rw [if_neg (by rw [h];decide),if_neg (by rw [h2];decide),if_neg hc]
  rw [e]
  exact ⟨⟨⟨hp2,by omega,by omega⟩,hm _ _ hp1,rfl,rfl⟩,⟨hp2,by omega,by omega⟩,⟨hm _ _ hp1,rfl,rfl⟩,hm _ _ hp1,rfl,rfl⟩)
theorem Jd(bp:Option Addr)(sc us pw:Bs)(hk:Int)(hs:Bs)(hn:Int)(hp:List Int)(port:Int)(opq pn:Bool)(pl:List Bs)(hq:Bool)(q:Bs)(hf:Bool)(fg:Bs)(bare sp:Bool)(rst:Bs)(t:Bs)(last:Bool):ag Tryz.prog aA 139 [.ptr 0 0,.str t,.bool last,aE 1 (.raw (.pointer bp)) sc us pw hk hs hn hp port opq pn pl hq q hf fg bare sp rst] ⟨pl.length≤1000000∧t.length≤300000,.tup [.tup [],aE 1 (.raw (.pointer bp)) sc us pw hk hs hn hp port opq ((cH sc (pn,pl) t last).1) ((cH sc (pn,pl) t last).2) hq q hf fg bare sp rst]⟩:=ag.bd (fun h=>by have e:List.isEmpty (PV.aB PV.bD [.ptr 0 0,.str t,.bool last,aE 1 (.raw (.pointer bp)) sc us pw hk hs hn hp port opq pn pl hq q hf fg bare sp rst])=false:=(by kernel_rfl);exact Bool.noConfusion (e.symm.trans (congrArg List.isEmpty h))) (DP bp sc us pw hk hs hn hp port opq pn pl hq q hf fg bare sp rst t last)
def rp:List PV→Option aI:=fun xs=>match xs with
 |[.ptr 0 0,.str t,.bool last,aE 1 (.raw (.pointer bp)) sc us pw hk hs hn hp port opq pn pl hq q hf fg bare sp rst]=>some ⟨pl.length≤1000000∧t.length≤300000,.tup [.tup [],aE 1 (.raw (.pointer bp)) sc us pw hk hs hn hp port opq ((cH sc (pn,pl) t last).1) ((cH sc (pn,pl) t last).2) hq q hf fg bare sp rst]⟩
 |_=>none
theorem xV:∀xs c,rp xs=some c→ag Tryz.prog aA 139 xs c:=fun xs c h=>by
 unfold rp at h
 split at h
 ·injection h with h;subst h;exact Jd _ _ _ _ _ _ _ _ _ _ _ _ _ _ _ _ _ _ _ _ _
 ·cases h
end
section
theorem nW(sc:Bs)(p:Pa)(t:Bs)(last:Bool):(cH sc p t last).2.length≤p.2.length+1:=by
 have h1:=rm sc p
 unfold cH Ac
 (repeat' split)<;>simp<;>omega
def GH:cq:=bR [(128,gI),(129,gG),(138,gW),(139,rp)]
def GI(bp:Option Addr)(sc us pw:Bs)(hk:Int)(hs:Bs)(hn:Int)(hp:List Int)(port:Int)(opq pn:Bool)(pl:List Bs)(hq:Bool)(q:Bs)(hf:Bool)(fg:Bs)(bare sp:Bool)(rst:Bs):ba:=fun i=>bif Nat.beq i 2 then some ⟨(Bs)×(Bool×List Bs),(fun s x=>(VS.mk s.loc (((s.put 2 (.str x.1)).put 4 .undef).put 29 .undef).env [(0,aE 1 (.raw (.pointer bp)) sc us pw hk hs hn hp port opq (x.2.1) (x.2.2) hq q hf fg bare sp (aa rst (aF rst)))])),(fun s=>(s.str 2,((s.bx 0 [0,6]).lL,(s.bx 0 [0,6]).kQ))),(fun s x=>let t:=x.1;let p:=x.2;t.length≤300000∧p.2.length+t.length≤pl.length+rst.length∧kK sc (dU sp) t p=bt sp sc (ae rst (aF rst)) (pn,pl)),(fun s x=>let t:=x.1;let p:=x.2;t.length),[4,29]⟩else none
theorem DQ:cS Tryz.prog aA GH:=ai fX (ai fT (ai j0 (ai xV (ax))))
theorem Je(bp:Option Addr)(sc us pw:Bs)(hk:Int)(hs:Bs)(hn:Int)(hp:List Int)(port:Int)(opq pn:Bool)(pl:List Bs)(hq:Bool)(q:Bs)(hf:Bool)(fg:Bs)(bare sp:Bool)(rst:Bs)(k:PV→List PV→Prop):bQ Tryz.prog GH aA (GI bp sc us pw hk hs hn hp port opq pn pl hq q hf fg bare sp rst) 1000 Tryz.f90 [.ptr 0 0] [aE 1 (.raw (.pointer bp)) sc us pw hk hs hn hp port opq pn pl hq q hf fg bare sp rst] k=(
 (List.length rst≤(1000000:Nat)∧
 (ByteArray.mk #[63,35]).data.toList.length≤(1000000:Nat)∧
 ∀(b:UInt8),b∈(ByteArray.mk #[63,35]).data.toList→
 b.toNat<(128:Nat))∧
 ((0:Int)≤↑(aW rst (ByteArray.mk #[63,35]).data.toList)∧
 ↑(aW rst (ByteArray.mk #[63,35]).data.toList)≤al rst)∧
 True∧
 VS.mk [] [(0,PV.ptr (0:Nat) (0:Nat)),(2,PV.str (ae rst ↑(aW rst (ByteArray.mk #[63,35]).data.toList))),(3,PV.str (dU sp)),((4:Nat),PV.undef),((29:Nat),PV.undef)] [((0:Nat),bV (PV.raw (Go.Value.pointer bp)) 1 sc us pw hk hs hn hp port opq pn pl hq q hf fg bare sp (aa rst ↑(aW rst (ByteArray.mk #[63,35]).data.toList)))]=VS.mk [] [(0,PV.ptr (0:Nat) (0:Nat)),((2:Nat),PV.str (ae rst ↑(aW rst (ByteArray.mk #[63,35]).data.toList))),(3,PV.str (dU sp)),((4:Nat),PV.undef),((29:Nat),PV.undef)] [((0:Nat),bV (PV.raw (Go.Value.pointer bp)) 1 sc us pw hk hs hn hp port opq pn pl hq q hf fg bare sp (aa rst ↑(aF rst)))]∧
 ((ae rst ↑(aW rst (ByteArray.mk #[63,35]).data.toList)).length≤(300000:Nat)∧
 pl.length+(ae rst ↑(aW rst (ByteArray.mk #[63,35]).data.toList)).length≤pl.length+List.length rst∧
 kK sc (dU sp) (ae rst ↑(aW rst (ByteArray.mk #[63,35]).data.toList)) (pn,pl)=bt sp sc (ae rst ↑(aF rst)) (pn,pl))∧
 ∀(x:Bs×Bool×List Bs),List.length x.1≤(300000:Nat)∧
 x.2.2.length+List.length x.1≤pl.length+List.length rst∧
 kK sc (dU sp) x.1 x.2=bt sp sc (ae rst ↑(aF rst)) (pn,pl)→
 (List.length x.1≤(1000000:Nat)∧
 List.length (dU sp)≤(1000000:Nat)∧
 ∀(b:UInt8),b∈dU sp→
 b.toNat<(128:Nat))∧
 upto (0:Int) (↑(aW x.1 (dU sp))) (al x.1)∧
 (x.2.2.length≤(1000000:Nat)∧
 (ae x.1 ↑(aW x.1 (dU sp))).length≤(300000:Nat))∧
 (decide (↑(aW x.1 (dU sp))=al x.1)=true→
 k (PV.tup []) [bV (PV.raw (Go.Value.pointer bp)) 1 sc us pw hk hs hn hp port opq ((cH sc (x.2.1,x.2.2) (ae x.1 ↑(aW x.1 (dU sp))) (decide (↑(aW x.1 (dU sp))=al x.1))).1) ((cH sc (x.2.1,x.2.2) (ae x.1 ↑(aW x.1 (dU sp))) (decide (↑(aW x.1 (dU sp))=al x.1))).2) hq q hf fg bare sp (aa rst ↑(aF rst))])∧
 (decide (↑(aW x.1 (dU sp))=al x.1)=false→
 aG (↑(aW x.1 (dU sp))+(1:Int))∧
 upto (↑(aW x.1 (dU sp))+(1:Int)) (al x.1) (al x.1)∧
 rR (VS.mk [] [(0,PV.ptr (0:Nat) (0:Nat)),((2:Nat),PV.str (aa x.1 (↑(aW x.1 (dU sp))+(1:Int)))),(3,PV.str (dU sp)),((4:Nat),PV.undef),((29:Nat),PV.undef)] [((0:Nat),bV (PV.raw (Go.Value.pointer bp)) 1 sc us pw hk hs hn hp port opq ((cH sc (x.2.1,x.2.2) (ae x.1 ↑(aW x.1 (dU sp))) (decide (↑(aW x.1 (dU sp))=al x.1))).1) ((cH sc (x.2.1,x.2.2) (ae x.1 ↑(aW x.1 (dU sp))) (decide (↑(aW x.1 (dU sp))=al x.1))).2) hq q hf fg bare sp (aa rst ↑(aF rst)))])∧
 ((aa x.1 (↑(aW x.1 (dU sp))+(1:Int))).length≤(300000:Nat)∧
 (cH sc (x.2.1,x.2.2) (ae x.1 ↑(aW x.1 (dU sp))) (decide (↑(aW x.1 (dU sp))=al x.1))).2.length+(aa x.1 (↑(aW x.1 (dU sp))+(1:Int))).length≤pl.length+List.length rst∧
 kK sc (dU sp) (aa x.1 (↑(aW x.1 (dU sp))+(1:Int))) ((cH sc (x.2.1,x.2.2) (ae x.1 ↑(aW x.1 (dU sp))) (decide (↑(aW x.1 (dU sp))=al x.1))).1,(cH sc (x.2.1,x.2.2) (ae x.1 ↑(aW x.1 (dU sp))) (decide (↑(aW x.1 (dU sp))=al x.1))).2)=bt sp sc (ae rst ↑(aF rst)) (pn,pl))∧
 (aa x.1 (↑(aW x.1 (dU sp))+(1:Int))).length<List.length x.1)):=by kernel_rfl
attribute [local irreducible] Go.Vc.cD Go.Vc.bQ
theorem tX(bp:Option Addr)(sc us pw:Bs)(hk:Int)(hs:Bs)(hn:Int)(hp:List Int)(port:Int)(opq pn:Bool)(pl:List Bs)(hq:Bool)(q:Bs)(hf:Bool)(fg:Bs)(bare sp:Bool)(rst:Bs):br Tryz.prog aA 90 [.ptr 0 0] [aE 1 (.raw (.pointer bp)) sc us pw hk hs hn hp port opq pn pl hq q hf fg bare sp rst] (rst.length≤300000∧pl.length≤100000) (.tup []) [aE 1 (.raw (.pointer bp)) sc us pw hk hs hn hp port opq ((bt sp sc (ae rst (aF rst)) (pn,pl)).1) ((bt sp sc (ae rst (aF rst)) (pn,pl)).2) hq q hf fg bare sp (aa rst (aF rst))]:=bH (by kernel_rfl) DQ (H:=GI bp sc us pw hk hs hn hp port opq pn pl hq q hf fg bare sp rst) (fuel:=1000) Tryz.func90 (by kernel_rfl) (Nat.le_of_ble_eq_true rfl) fun hpre=>(Je bp sc us pw hk hs hn hp port opq pn pl hq q hf fg bare sp rst _).mpr (by
 obtain ⟨hp1,hp2⟩:=hpre
 have h63:∀b:UInt8,b∈(ByteArray.mk #[63,35]).data.toList→b.toNat<128:=by rw [show(ByteArray.mk #[63,35]).data.toList=([63,35]:Bs)from rfl];decide
 have hs3:∀b:UInt8,b∈dU sp→b.toNat<128:=by unfold dU;split<;>decide
 have hs2:(dU sp).length≤1000000:=by unfold dU;split<;>decide
 have e3:=fe rst (ByteArray.mk #[63,35]).data.toList
 have e4:(ae rst (aW rst (ByteArray.mk #[63,35]).data.toList:Int)).length≤rst.length:=by unfold ae;rw [List.length_take];exact Nat.min_le_right _ _
 refine ⟨⟨by omega,by decide,h63⟩,⟨by omega,by unfold al;exact Int.ofNat_le.2 e3⟩,trivial,rfl,⟨by omega,by omega,rfl⟩,fun x ⟨h1,h2,h3⟩=>?_⟩
 have e5:=fe x.1 (dU sp)
 rw [Ad]at h3
 generalize aW x.1 (dU sp)=n at *
 have e6:ae x.1 (n:Int)=x.1.take n:=by unfold ae;rw [Int.toNat_natCast]
 have e7:aa x.1 ((n:Int)+1)=x.1.drop (n+1):=by unfold aa;congr 1
 have e8:(x.1.take n).length≤300000:=by rw [List.length_take];omega
 rw [e6,e7]
 refine ⟨⟨by omega,hs2,hs3⟩,⟨Int.le_refl _,by omega,by unfold al;omega⟩,⟨by omega,e8⟩,fun h=>?_,fun h=>?_⟩
 ·have hl:n=x.1.length:=by have:=of_decide_eq_true h;unfold al at this;omega
  rw [if_pos hl]at h3
  have e9:x.1.take n=x.1:=by rw [hl,List.take_length]
  rw [h,e9,←h3]
  exact ⟨rfl,rfl⟩
 ·have hl:¬n=x.1.length:=by have:=of_decide_eq_false h;unfold al at this;omega
  rw [if_neg hl]at h3
  have e10:(x.1.drop (n+1)).length=x.1.length-(n+1):=List.length_drop
  have e11:=nW sc x.2 (x.1.take n) false
  rw [h]
  refine ⟨by unfold aG;omega,⟨by omega,by unfold al;omega,Int.le_refl _⟩,rfl,⟨by omega,?_,h3⟩,by omega⟩
  show(cH sc x.2 (x.1.take n) false).2.length+_ ≤_
  omega)
theorem Jf(bp:Option Addr)(sc us pw:Bs)(hk:Int)(hs:Bs)(hn:Int)(hp:List Int)(port:Int)(opq pn:Bool)(pl:List Bs)(hq:Bool)(q:Bs)(hf:Bool)(fg:Bs)(bare sp:Bool)(rst:Bs):ag Tryz.prog aA 90 [.ptr 0 0,aE 1 (.raw (.pointer bp)) sc us pw hk hs hn hp port opq pn pl hq q hf fg bare sp rst] ⟨rst.length≤300000∧pl.length≤100000,.tup [.tup [],aE 1 (.raw (.pointer bp)) sc us pw hk hs hn hp port opq ((bt sp sc (ae rst (aF rst)) (pn,pl)).1) ((bt sp sc (ae rst (aF rst)) (pn,pl)).2) hq q hf fg bare sp (aa rst (aF rst))]⟩:=ag.bd (fun h=>by have e:List.isEmpty (PV.aB PV.bD [.ptr 0 0,aE 1 (.raw (.pointer bp)) sc us pw hk hs hn hp port opq pn pl hq q hf fg bare sp rst])=false:=(by kernel_rfl);exact Bool.noConfusion (e.symm.trans (congrArg List.isEmpty h))) (tX bp sc us pw hk hs hn hp port opq pn pl hq q hf fg bare sp rst)
def mK:List PV→Option aI:=fun xs=>match xs with
 |[.ptr 0 0,aE 1 (.raw (.pointer bp)) sc us pw hk hs hn hp port opq pn pl hq q hf fg bare sp rst]=>some ⟨rst.length≤300000∧pl.length≤100000,.tup [.tup [],aE 1 (.raw (.pointer bp)) sc us pw hk hs hn hp port opq ((bt sp sc (ae rst (aF rst)) (pn,pl)).1) ((bt sp sc (ae rst (aF rst)) (pn,pl)).2) hq q hf fg bare sp (aa rst (aF rst))]⟩
 |_=>none
theorem oV:∀xs c,mK xs=some c→ag Tryz.prog aA 90 xs c:=fun xs c h=>by
 unfold mK at h
 split at h
 ·injection h with h;subst h;exact Jf _ _ _ _ _ _ _ _ _ _ _ _ _ _ _ _ _ _ _
 ·cases h
end
section
def JO:cq:=bR [(158,mz)]
def JP(l m:Bs):ba:=fun i=>none
theorem GJ:cS Tryz.prog aA JO:=ai oL (ax)
theorem KW(l m:Bs)(k:PV→Prop):cD Tryz.prog JO aA (JP l m) 1000 Tryz.f130 [.str l,.str m] k=(
 (List.length l≤(1000000:Nat)∧List.length m≤(1000000:Nat))∧k (PV.bool (ic l m))):=by kernel_rfl
attribute [local irreducible] Go.Vc.cD
theorem KX(l m:Bs):ag Tryz.prog aA 130 [.str l,.str m] ⟨l.length≤1000000∧m.length≤1000000,.bool (ic l m)⟩:=b5 (by kernel_rfl) GJ (H:=JP l m) (fuel:=1000) Tryz.func130 (by kernel_rfl) fun hpre=>(KW l m _).mpr (by
 exact ⟨hpre,rfl⟩)
def vB:List PV→Option aI:=fun xs=>match xs with
 |[.str l,.str m]=>some ⟨l.length≤1000000∧m.length≤1000000,.bool (ic l m)⟩
 |_=>none
theorem Aw:∀xs c,vB xs=some c→ag Tryz.prog aA 130 xs c:=fun xs c h=>by
 unfold vB at h
 split at h
 ·injection h with h;subst h;exact KX _ _
 ·cases h
end
section
theorem tY(k:Int)(l:Bs):(bw k l).length≤12*l.length:=by
 have hpl:(bj l).length≤4*l.length:=by
  have a:=(mc (dy l)).2
  have b:=mb _ l (Nat.le_refl _)
  unfold bj;omega
 unfold bw
 split
 ·have:=wR (tb k) (bj l);omega
 ·omega
theorem LG(l:Bs):ic l [32]=decide (0<l.length∧ak l (l.length-1)=32):=by
 unfold ic al aa
 rcases List.eq_nil_or_concat l with rfl|⟨L,b,rfl⟩
 ·rfl
 ·have h1:(((L.concat b).length:Int)-(([32]:Bs).length:Int)).toNat=L.length:=by simp
  have h2:ak (L.concat b) ((L.concat b).length-1)=b.toNat:=by
   unfold ak
   have:(((L.concat b).length:Int)-1).toNat=L.length:=by simp
   rw [this];simp
  rw [h1,h2]
  have h3:decide ((([32]:Bs).length:Int)≤((L.concat b).length:Int))=true:=decide_eq_true (by simp;omega)
  have h4:(0:Nat)<(L.concat b).length:=by simp
  rw [h3,cond_true,decide_eq_decide]
  have h5:(L.concat b).drop L.length=[b]:=by simp
  rw [h5]
  simp only [h4,true_and,List.cons.injEq,and_true]
  constructor
  ·rintro rfl;rfl
  ·intro h;exact UInt8.toNat_inj.1 (by have:(32:UInt8).toNat=32:=rfl;omega)
def xW:cq:=bR [(128,gI),(129,gG),(130,vB),(26,ff)]
def xX(bp:Option Addr)(sc us pw:Bs)(hk:Int)(hs:Bs)(hn:Int)(hp:List Int)(port:Int)(opq pn:Bool)(pl:List Bs)(hq:Bool)(q:Bs)(hf:Bool)(fg:Bs)(bare sp:Bool)(rst:Bs):ba:=fun i=>none
theorem xY:cS Tryz.prog aA xW:=ai fX (ai fT (ai Aw (ai dS (ax))))
theorem DR(bp:Option Addr)(sc us pw:Bs)(hk:Int)(hs:Bs)(hn:Int)(hp:List Int)(port:Int)(opq pn:Bool)(pl:List Bs)(hq:Bool)(q:Bs)(hf:Bool)(fg:Bs)(bare sp:Bool)(rst:Bs)(k:PV→List PV→Prop):bQ Tryz.prog xW aA (xX bp sc us pw hk hs hn hp port opq pn pl hq q hf fg bare sp rst) 1000 Tryz.f81 [.ptr 0 0] [aE 1 (.raw (.pointer bp)) sc us pw hk hs hn hp port opq pn pl hq q hf fg bare sp rst] k=(
 (List.length rst≤(1000000:Nat)∧
 (ByteArray.mk #[63,35]).data.toList.length≤(1000000:Nat)∧
 ∀(b:UInt8),b∈(ByteArray.mk #[63,35]).data.toList→
 b.toNat<(128:Nat))∧
 ((0:Int)≤↑(aW rst (ByteArray.mk #[63,35]).data.toList)∧
 ↑(aW rst (ByteArray.mk #[63,35]).data.toList)≤al rst)∧
 ((!decide (aa rst ↑(aW rst (ByteArray.mk #[63,35]).data.toList)=(ByteArray.mk #[]).data.toList))=true→
 (ae rst ↑(aW rst (ByteArray.mk #[63,35]).data.toList)).length≤(1000000:Nat)∧
 (ByteArray.mk #[32]).data.toList.length≤(1000000:Nat))∧
 ((bif !decide (aa rst ↑(aW rst (ByteArray.mk #[63,35]).data.toList)=(ByteArray.mk #[]).data.toList)then ic (ae rst ↑(aW rst (ByteArray.mk #[63,35]).data.toList)) (ByteArray.mk #[32]).data.toList else false)=true→
 aG (al (ae rst ↑(aW rst (ByteArray.mk #[63,35]).data.toList))-(1:Int))∧
 upto (0:Int) (al (ae rst ↑(aW rst (ByteArray.mk #[63,35]).data.toList))-(1:Int)) (al (ae rst ↑(aW rst (ByteArray.mk #[63,35]).data.toList)))∧
 ((ae (ae rst ↑(aW rst (ByteArray.mk #[63,35]).data.toList)) (al (ae rst ↑(aW rst (ByteArray.mk #[63,35]).data.toList))-(1:Int))).length≤(300000:Nat)∧
 (0:Int)≤(0:Int)∧
 (0:Int)≤(6:Int))∧
 (bw (0:Int) (ae (ae rst ↑(aW rst (ByteArray.mk #[63,35]).data.toList)) (al (ae rst ↑(aW rst (ByteArray.mk #[63,35]).data.toList))-(1:Int)))).length+(ByteArray.mk #[37,50,48]).data.toList.length≤Go.Vc.maxLen∧
 k (PV.tup []) [bV (PV.raw (Go.Value.pointer bp)) 0 sc us pw hk hs hn hp port true false ([bw (0:Int) (ae (ae rst ↑(aW rst (ByteArray.mk #[63,35]).data.toList)) (al (ae rst ↑(aW rst (ByteArray.mk #[63,35]).data.toList))-(1:Int)))++(ByteArray.mk #[37,50,48]).data.toList]) hq q hf fg bare sp (aa rst ↑(aW rst (ByteArray.mk #[63,35]).data.toList))])∧
 ((bif !decide (aa rst ↑(aW rst (ByteArray.mk #[63,35]).data.toList)=(ByteArray.mk #[]).data.toList)then ic (ae rst ↑(aW rst (ByteArray.mk #[63,35]).data.toList)) (ByteArray.mk #[32]).data.toList else false)=false→
 ((ae rst ↑(aW rst (ByteArray.mk #[63,35]).data.toList)).length≤(300000:Nat)∧
 (0:Int)≤(0:Int)∧
 (0:Int)≤(6:Int))∧
 (bw (0:Int) (ae rst ↑(aW rst (ByteArray.mk #[63,35]).data.toList))).length+(ByteArray.mk #[]).data.toList.length≤Go.Vc.maxLen∧
 k (PV.tup []) [bV (PV.raw (Go.Value.pointer bp)) 0 sc us pw hk hs hn hp port true false ([bw (0:Int) (ae rst ↑(aW rst (ByteArray.mk #[63,35]).data.toList))++(ByteArray.mk #[]).data.toList]) hq q hf fg bare sp (aa rst ↑(aW rst (ByteArray.mk #[63,35]).data.toList))])):=by kernel_rfl
attribute [local irreducible] Go.Vc.cD Go.Vc.bQ
theorem xZ(bp:Option Addr)(sc us pw:Bs)(hk:Int)(hs:Bs)(hn:Int)(hp:List Int)(port:Int)(opq pn:Bool)(pl:List Bs)(hq:Bool)(q:Bs)(hf:Bool)(fg:Bs)(bare sp:Bool)(rst:Bs):br Tryz.prog aA 81 [.ptr 0 0] [aE 1 (.raw (.pointer bp)) sc us pw hk hs hn hp port opq pn pl hq q hf fg bare sp rst] (rst.length≤300000) (.tup []) [aE 0 (.raw (.pointer bp)) sc us pw hk hs hn hp port true false ([nQ (ae rst (aF rst)) (aa rst (aF rst))]) hq q hf fg bare sp (aa rst (aF rst))]:=bH (by kernel_rfl) xY (H:=xX bp sc us pw hk hs hn hp port opq pn pl hq q hf fg bare sp rst) (fuel:=1000) Tryz.func81 (by kernel_rfl) (Nat.le_of_ble_eq_true rfl) fun hpre=>(DR bp sc us pw hk hs hn hp port opq pn pl hq q hf fg bare sp rst _).mpr (by
 obtain ⟨n,e1⟩:∃n,n=aW rst (ByteArray.mk #[63,35]).data.toList:=⟨_,rfl⟩
 have e2:aF rst=n:=e1.symm
 have h63:∀b:UInt8,b∈(ByteArray.mk #[63,35]).data.toList→b.toNat<128:=by rw [show(ByteArray.mk #[63,35]).data.toList=([63,35]:Bs)from rfl];decide
 rw [←e1]
 have e3:n≤rst.length:=by rw [e1];exact fe _ _
 obtain ⟨S,e4⟩:∃S,S=ae rst (n:Int):=⟨_,rfl⟩
 obtain ⟨D,e5⟩:∃D,D=aa rst (n:Int):=⟨_,rfl⟩
 rw [←e4,←e5]
 have e6:S.length≤300000:=by rw [e4];unfold ae;rw [List.length_take];omega
 have e7:nQ (ae rst (aF rst)) (aa rst (aF rst))=nQ S D:=by rw [e2,←e4,←e5]
 have e8:aa rst (aF rst:Int)=D:=by rw [e2,←e5]
 have e9:(ae S (al S-1)).length≤300000:=by unfold ae;rw [List.length_take];omega
 have hcond:(bif !decide (D=(ByteArray.mk #[]).data.toList)then ic S (ByteArray.mk #[32]).data.toList else false)=decide (D≠[]∧0<S.length∧ak S (S.length-1)=32):=by
  rw [show ic S (ByteArray.mk #[32]).data.toList=ic S [32]from rfl,LG,Bool.eq_iff_iff]
  simp only [sb,Bool.and_eq_true,decide_eq_true_eq,Bool.not_eq_true',decide_eq_false_iff_not]
  try exact Iff.rfl
 rw [hcond,e7]
 rw [e8]
 refine ⟨⟨by omega,by decide,h63⟩,⟨by omega,by unfold al;exact Int.ofNat_le.2 e3⟩,fun _=>⟨by omega,by decide⟩,fun h=>?_,fun h=>?_⟩
 ·have hc:=of_decide_eq_true h
  have ex:nQ S D=bw 0 (ae S (al S-1))++L8:=by unfold nQ;rw [if_pos hc];rfl
  rw [ex]
  exact ⟨by unfold aG al;omega,by unfold upto al;omega,⟨e9,by omega,by omega⟩,Nat.le_trans (Nat.add_le_add_right (tY 0 _) _) (Nat.le_trans (show _ ≤12*300000+3 from Nat.add_le_add (Nat.mul_le_mul_left 12 e9) (by decide)) (by decide)),rfl,rfl⟩
 ·have hc:=of_decide_eq_false h
  have ex:nQ S D=bw 0 S:=by unfold nQ;rw [if_neg hc]
  rw [ex,show(ByteArray.mk #[]).data.toList=([]:Bs)from rfl,List.append_nil]
  exact ⟨⟨e6,by omega,by omega⟩,Nat.le_trans (Nat.add_le_add_right (tY 0 _) _) (Nat.le_trans (show _ ≤12*300000+0 from Nat.add_le_add (Nat.mul_le_mul_left 12 e6) (by decide)) (by decide)),rfl,rfl⟩)
theorem DS(bp:Option Addr)(sc us pw:Bs)(hk:Int)(hs:Bs)(hn:Int)(hp:List Int)(port:Int)(opq pn:Bool)(pl:List Bs)(hq:Bool)(q:Bs)(hf:Bool)(fg:Bs)(bare sp:Bool)(rst:Bs):ag Tryz.prog aA 81 [.ptr 0 0,aE 1 (.raw (.pointer bp)) sc us pw hk hs hn hp port opq pn pl hq q hf fg bare sp rst] ⟨rst.length≤300000,.tup [.tup [],aE 0 (.raw (.pointer bp)) sc us pw hk hs hn hp port true false ([nQ (ae rst (aF rst)) (aa rst (aF rst))]) hq q hf fg bare sp (aa rst (aF rst))]⟩:=ag.bd (fun h=>by have e:List.isEmpty (PV.aB PV.bD [.ptr 0 0,aE 1 (.raw (.pointer bp)) sc us pw hk hs hn hp port opq pn pl hq q hf fg bare sp rst])=false:=(by kernel_rfl);exact Bool.noConfusion (e.symm.trans (congrArg List.isEmpty h))) (xZ bp sc us pw hk hs hn hp port opq pn pl hq q hf fg bare sp rst)
def lB:List PV→Option aI:=fun xs=>match xs with
 |[.ptr 0 0,aE 1 (.raw (.pointer bp)) sc us pw hk hs hn hp port opq pn pl hq q hf fg bare sp rst]=>some ⟨rst.length≤300000,.tup [.tup [],aE 0 (.raw (.pointer bp)) sc us pw hk hs hn hp port true false ([nQ (ae rst (aF rst)) (aa rst (aF rst))]) hq q hf fg bare sp (aa rst (aF rst))]⟩
 |_=>none
theorem sk:∀xs c,lB xs=some c→ag Tryz.prog aA 81 xs c:=fun xs c h=>by
 unfold lB at h
 split at h
 ·injection h with h;subst h;exact DS _ _ _ _ _ _ _ _ _ _ _ _ _ _ _ _ _ _ _
 ·cases h
end
section
def ee(rst:Bs)(hq:Bool):Bool:=if preB rst [63]=true then true else hq
def eh(sp:Bool)(rst q:Bs):Bs:=if preB rst [63]=true then bw (if sp=true then 3 else 2) (ae (aa rst 1) (xK (aa rst 1)))else q
def bL(rst:Bs):Bs:=if preB rst [63]=true then aa (aa rst 1) (xK (aa rst 1))else rst
theorem GK(r:RS):r.query={r with hq:=ee r.rst r.hq,q:=eh r.sp r.rst r.q,rst:=bL r.rst}:=by
 unfold RS.query ee eh bL
 split<;>rfl
def BZ:cq:=bR [(80,jY),(128,gI),(129,gG),(26,ff)]
def B3(bp:Option Addr)(sc us pw:Bs)(hk:Int)(hs:Bs)(hn:Int)(hp:List Int)(port:Int)(opq pn:Bool)(pl:List Bs)(hq:Bool)(q:Bs)(hf:Bool)(fg:Bs)(bare sp:Bool)(rst:Bs):ba:=fun i=>none
theorem Ax:cS Tryz.prog aA BZ:=ai jZ (ai fX (ai fT (ai dS (ax))))
theorem GL(bp:Option Addr)(sc us pw:Bs)(hk:Int)(hs:Bs)(hn:Int)(hp:List Int)(port:Int)(opq pn:Bool)(pl:List Bs)(hq:Bool)(q:Bs)(hf:Bool)(fg:Bs)(bare sp:Bool)(rst:Bs)(k:PV→List PV→Prop):bQ Tryz.prog BZ aA (B3 bp sc us pw hk hs hn hp port opq pn pl hq q hf fg bare sp rst) 1000 Tryz.f91 [.ptr 0 0] [aE 1 (.raw (.pointer bp)) sc us pw hk hs hn hp port opq pn pl hq q hf fg bare sp rst] k=(
 True∧
 ((!(aj rst (ByteArray.mk #[63]).data.toList).2)=true→
 k (PV.tup []) [bV (PV.raw (Go.Value.pointer bp)) 1 sc us pw hk hs hn hp port opq pn pl hq q hf fg bare sp ((aj rst (ByteArray.mk #[63]).data.toList).1)])∧
 ((!(aj rst (ByteArray.mk #[63]).data.toList).2)=false→
 (sp=true→
 (List.length (aj rst (ByteArray.mk #[63]).data.toList).1≤(1000000:Nat)∧
 (ByteArray.mk #[35]).data.toList.length≤(1000000:Nat)∧
 ∀(b:UInt8),b∈(ByteArray.mk #[35]).data.toList→
 b.toNat<(128:Nat))∧
 ((0:Int)≤↑(aW (aj rst (ByteArray.mk #[63]).data.toList).1 (ByteArray.mk #[35]).data.toList)∧
 ↑(aW (aj rst (ByteArray.mk #[63]).data.toList).1 (ByteArray.mk #[35]).data.toList)≤al (aj rst (ByteArray.mk #[63]).data.toList).1)∧
 ((ae (aj rst (ByteArray.mk #[63]).data.toList).1 ↑(aW (aj rst (ByteArray.mk #[63]).data.toList).1 (ByteArray.mk #[35]).data.toList)).length≤(300000:Nat)∧
 (0:Int)≤(3:Int)∧
 (3:Int)≤(6:Int))∧
 k (PV.tup []) [bV (PV.raw (Go.Value.pointer bp)) 1 sc us pw hk hs hn hp port opq pn pl true (bw (3:Int) (ae (aj rst (ByteArray.mk #[63]).data.toList).1 ↑(aW (aj rst (ByteArray.mk #[63]).data.toList).1 (ByteArray.mk #[35]).data.toList))) hf fg bare sp (aa (aj rst (ByteArray.mk #[63]).data.toList).1 ↑(aW (aj rst (ByteArray.mk #[63]).data.toList).1 (ByteArray.mk #[35]).data.toList))])∧
 (sp=false→
 (List.length (aj rst (ByteArray.mk #[63]).data.toList).1≤(1000000:Nat)∧
 (ByteArray.mk #[35]).data.toList.length≤(1000000:Nat)∧
 ∀(b:UInt8),b∈(ByteArray.mk #[35]).data.toList→
 b.toNat<(128:Nat))∧
 ((0:Int)≤↑(aW (aj rst (ByteArray.mk #[63]).data.toList).1 (ByteArray.mk #[35]).data.toList)∧
 ↑(aW (aj rst (ByteArray.mk #[63]).data.toList).1 (ByteArray.mk #[35]).data.toList)≤al (aj rst (ByteArray.mk #[63]).data.toList).1)∧
 ((ae (aj rst (ByteArray.mk #[63]).data.toList).1 ↑(aW (aj rst (ByteArray.mk #[63]).data.toList).1 (ByteArray.mk #[35]).data.toList)).length≤(300000:Nat)∧
 (0:Int)≤(2:Int)∧
 (2:Int)≤(6:Int))∧
 k (PV.tup []) [bV (PV.raw (Go.Value.pointer bp)) 1 sc us pw hk hs hn hp port opq pn pl true (bw (2:Int) (ae (aj rst (ByteArray.mk #[63]).data.toList).1 ↑(aW (aj rst (ByteArray.mk #[63]).data.toList).1 (ByteArray.mk #[35]).data.toList))) hf fg bare sp (aa (aj rst (ByteArray.mk #[63]).data.toList).1 ↑(aW (aj rst (ByteArray.mk #[63]).data.toList).1 (ByteArray.mk #[35]).data.toList))]))):=by kernel_rfl
attribute [local irreducible] Go.Vc.cD Go.Vc.bQ
theorem rq(bp:Option Addr)(sc us pw:Bs)(hk:Int)(hs:Bs)(hn:Int)(hp:List Int)(port:Int)(opq pn:Bool)(pl:List Bs)(hq:Bool)(q:Bs)(hf:Bool)(fg:Bs)(bare sp:Bool)(rst:Bs):br Tryz.prog aA 91 [.ptr 0 0] [aE 1 (.raw (.pointer bp)) sc us pw hk hs hn hp port opq pn pl hq q hf fg bare sp rst] (rst.length≤300000) (.tup []) [aE 1 (.raw (.pointer bp)) sc us pw hk hs hn hp port opq pn pl (ee rst hq) (eh sp rst q) hf fg bare sp (bL rst)]:=bH (by kernel_rfl) Ax (H:=B3 bp sc us pw hk hs hn hp port opq pn pl hq q hf fg bare sp rst) (fuel:=1000) Tryz.func91 (by kernel_rfl) (Nat.le_of_ble_eq_true rfl) fun hpre=>(GL bp sc us pw hk hs hn hp port opq pn pl hq q hf fg bare sp rst _).mpr (by
 have ec:(ByteArray.mk #[63]).data.toList=([63]:Bs):=rfl
 have ed:(ByteArray.mk #[35]).data.toList=([35]:Bs):=rfl
 have h35:∀b:UInt8,b∈(ByteArray.mk #[35]).data.toList→b.toNat<128:=by rw [ed];decide
 cases hc:preB rst [63]with
 |false=>
  have e1:aj rst (ByteArray.mk #[63]).data.toList=(rst,false):=by unfold aj;rw [ec,hc];rfl
  have e2:ee rst hq=hq∧eh sp rst q=q∧bL rst=rst:=by unfold ee eh bL;rw [hc];exact ⟨rfl,rfl,rfl⟩
  rw [e1,e2.1,e2.2.1,e2.2.2]
  exact ⟨trivial,fun _=>⟨rfl,rfl⟩,fun h=>by cases h⟩
 |true=>
  have e1:aj rst (ByteArray.mk #[63]).data.toList=(aa rst 1,true):=by unfold aj;rw [ec,hc];rfl
  have e2:ee rst hq=true∧eh sp rst q=bw (if sp=true then 3 else 2) (ae (aa rst 1) (xK (aa rst 1)))∧bL rst=aa (aa rst 1) (xK (aa rst 1)):=⟨if_pos hc,if_pos hc,if_pos hc⟩
  have hl:(aa rst 1).length≤300000:=by unfold aa;rw [List.length_drop];omega
  have hi:=fe (aa rst 1) (ByteArray.mk #[35]).data.toList
  have ht:(ae (aa rst 1) (aW (aa rst 1) (ByteArray.mk #[35]).data.toList:Int)).length≤300000:=by unfold ae;rw [List.length_take];omega
  rw [e1,e2.1,e2.2.1,e2.2.2]
  refine ⟨trivial,fun h=>(by cases h),fun _=>⟨fun hsp=>?_,fun hsp=>?_⟩⟩
  ·subst hsp
   exact ⟨⟨Nat.le_trans hl (by decide),by decide,h35⟩,⟨by omega,by unfold al;exact Int.ofNat_le.2 hi⟩,⟨ht,by omega,by omega⟩,rfl,rfl⟩
  ·subst hsp
   exact ⟨⟨Nat.le_trans hl (by decide),by decide,h35⟩,⟨by omega,by unfold al;exact Int.ofNat_le.2 hi⟩,⟨ht,by omega,by omega⟩,rfl,rfl⟩)
theorem GM(bp:Option Addr)(sc us pw:Bs)(hk:Int)(hs:Bs)(hn:Int)(hp:List Int)(port:Int)(opq pn:Bool)(pl:List Bs)(hq:Bool)(q:Bs)(hf:Bool)(fg:Bs)(bare sp:Bool)(rst:Bs):ag Tryz.prog aA 91 [.ptr 0 0,aE 1 (.raw (.pointer bp)) sc us pw hk hs hn hp port opq pn pl hq q hf fg bare sp rst] ⟨rst.length≤300000,.tup [.tup [],aE 1 (.raw (.pointer bp)) sc us pw hk hs hn hp port opq pn pl (ee rst hq) (eh sp rst q) hf fg bare sp (bL rst)]⟩:=ag.bd (fun h=>by have e:List.isEmpty (PV.aB PV.bD [.ptr 0 0,aE 1 (.raw (.pointer bp)) sc us pw hk hs hn hp port opq pn pl hq q hf fg bare sp rst])=false:=(by kernel_rfl);exact Bool.noConfusion (e.symm.trans (congrArg List.isEmpty h))) (rq bp sc us pw hk hs hn hp port opq pn pl hq q hf fg bare sp rst)
def nX:List PV→Option aI:=fun xs=>match xs with
 |[.ptr 0 0,aE 1 (.raw (.pointer bp)) sc us pw hk hs hn hp port opq pn pl hq q hf fg bare sp rst]=>some ⟨rst.length≤300000,.tup [.tup [],aE 1 (.raw (.pointer bp)) sc us pw hk hs hn hp port opq pn pl (ee rst hq) (eh sp rst q) hf fg bare sp (bL rst)]⟩
 |_=>none
theorem vC:∀xs c,nX xs=some c→ag Tryz.prog aA 91 xs c:=fun xs c h=>by
 unfold nX at h
 split at h
 ·injection h with h;subst h;exact GM _ _ _ _ _ _ _ _ _ _ _ _ _ _ _ _ _ _ _
 ·cases h
end
section
def B4:cq:=bR [(127,mG)]
def B5(bp:Option Addr)(sc us pw:Bs)(hk:Int)(hs:Bs)(hn:Int)(hp:List Int)(port:Int)(opq pn:Bool)(pl:List Bs)(hq:Bool)(q:Bs)(hf:Bool)(fg:Bs)(bare sp:Bool)(rst:Bs)(p:Bs):ba:=fun i=>none
theorem Ay:cS Tryz.prog aA B4:=ai oR (ax)
theorem GN(bp:Option Addr)(sc us pw:Bs)(hk:Int)(hs:Bs)(hn:Int)(hp:List Int)(port:Int)(opq pn:Bool)(pl:List Bs)(hq:Bool)(q:Bs)(hf:Bool)(fg:Bs)(bare sp:Bool)(rst:Bs)(p:Bs)(k:PV→List PV→Prop):bQ Tryz.prog B4 aA (B5 bp sc us pw hk hs hn hp port opq pn pl hq q hf fg bare sp rst p) 1000 Tryz.f80 [.ptr 0 0,.str p] [aE 0 (.raw (.pointer bp)) sc us pw hk hs hn hp port opq pn pl hq q hf fg bare sp rst] k=(
 True∧
 k (PV.bool (aj rst p).2) [bV (PV.raw (Go.Value.pointer bp)) 0 sc us pw hk hs hn hp port opq pn pl hq q hf fg bare sp ((aj rst p).1)]):=by kernel_rfl
attribute [local irreducible] Go.Vc.cD Go.Vc.bQ
theorem Az(bp:Option Addr)(sc us pw:Bs)(hk:Int)(hs:Bs)(hn:Int)(hp:List Int)(port:Int)(opq pn:Bool)(pl:List Bs)(hq:Bool)(q:Bs)(hf:Bool)(fg:Bs)(bare sp:Bool)(rst:Bs)(p:Bs):br Tryz.prog aA 80 [.ptr 0 0,.str p] [aE 0 (.raw (.pointer bp)) sc us pw hk hs hn hp port opq pn pl hq q hf fg bare sp rst] (True) (.bool (aj rst p).2) [aE 0 (.raw (.pointer bp)) sc us pw hk hs hn hp port opq pn pl hq q hf fg bare sp ((aj rst p).1)]:=bH (by kernel_rfl) Ay (H:=B5 bp sc us pw hk hs hn hp port opq pn pl hq q hf fg bare sp rst p) (fuel:=1000) Tryz.func80 (by kernel_rfl) (Nat.le_of_ble_eq_true rfl) fun hpre=>(GN bp sc us pw hk hs hn hp port opq pn pl hq q hf fg bare sp rst p _).mpr (by
 exact ⟨trivial,rfl,rfl⟩)
theorem GO(bp:Option Addr)(sc us pw:Bs)(hk:Int)(hs:Bs)(hn:Int)(hp:List Int)(port:Int)(opq pn:Bool)(pl:List Bs)(hq:Bool)(q:Bs)(hf:Bool)(fg:Bs)(bare sp:Bool)(rst:Bs)(p:Bs):ag Tryz.prog aA 80 [.ptr 0 0,.str p,aE 0 (.raw (.pointer bp)) sc us pw hk hs hn hp port opq pn pl hq q hf fg bare sp rst] ⟨True,.tup [.bool (aj rst p).2,aE 0 (.raw (.pointer bp)) sc us pw hk hs hn hp port opq pn pl hq q hf fg bare sp ((aj rst p).1)]⟩:=ag.bd (fun h=>by have e:List.isEmpty (PV.aB PV.bD [.ptr 0 0,.str p,aE 0 (.raw (.pointer bp)) sc us pw hk hs hn hp port opq pn pl hq q hf fg bare sp rst])=false:=(by kernel_rfl);exact Bool.noConfusion (e.symm.trans (congrArg List.isEmpty h))) (Az bp sc us pw hk hs hn hp port opq pn pl hq q hf fg bare sp rst p)
def kt:List PV→Option aI:=fun xs=>match xs with
 |[.ptr 0 0,.str p,aE 0 (.raw (.pointer bp)) sc us pw hk hs hn hp port opq pn pl hq q hf fg bare sp rst]=>some ⟨True,.tup [.bool (aj rst p).2,aE 0 (.raw (.pointer bp)) sc us pw hk hs hn hp port opq pn pl hq q hf fg bare sp ((aj rst p).1)]⟩
 |_=>none
theorem mL:∀xs c,kt xs=some c→ag Tryz.prog aA 80 xs c:=fun xs c h=>by
 unfold kt at h
 split at h
 ·injection h with h;subst h;exact GO _ _ _ _ _ _ _ _ _ _ _ _ _ _ _ _ _ _ _ _
 ·cases h
end
section
def B6:cq:=bR []
def B7(bp:Option Addr)(sc us pw:Bs)(hk:Int)(hs:Bs)(hn:Int)(hp:List Int)(port:Int)(opq pn:Bool)(pl:List Bs)(hq:Bool)(q:Bs)(hf:Bool)(fg:Bs)(bare sp:Bool)(rst:Bs)(z:Int):ba:=fun i=>none
theorem AA:cS Tryz.prog aA B6:=ax
theorem GP(bp:Option Addr)(sc us pw:Bs)(hk:Int)(hs:Bs)(hn:Int)(hp:List Int)(port:Int)(opq pn:Bool)(pl:List Bs)(hq:Bool)(q:Bs)(hf:Bool)(fg:Bs)(bare sp:Bool)(rst:Bs)(z:Int)(k:PV→List PV→Prop):bQ Tryz.prog B6 aA (B7 bp sc us pw hk hs hn hp port opq pn pl hq q hf fg bare sp rst z) 1000 Tryz.f128 [.ptr 0 0,.int .i64 z] [aE 0 (.raw (.pointer bp)) sc us pw hk hs hn hp port opq pn pl hq q hf fg bare sp rst] k=(
 upto (0:Int) z (al rst)∧
 upto z (al rst) (al rst)∧
 k (PV.str (ae rst z)) [bV (PV.raw (Go.Value.pointer bp)) 0 sc us pw hk hs hn hp port opq pn pl hq q hf fg bare sp (aa rst z)]):=by kernel_rfl
attribute [local irreducible] Go.Vc.cD Go.Vc.bQ
theorem AB(bp:Option Addr)(sc us pw:Bs)(hk:Int)(hs:Bs)(hn:Int)(hp:List Int)(port:Int)(opq pn:Bool)(pl:List Bs)(hq:Bool)(q:Bs)(hf:Bool)(fg:Bs)(bare sp:Bool)(rst:Bs)(z:Int):br Tryz.prog aA 128 [.ptr 0 0,.int .i64 z] [aE 0 (.raw (.pointer bp)) sc us pw hk hs hn hp port opq pn pl hq q hf fg bare sp rst] (0≤z∧z≤al rst) (.str (ae rst z)) [aE 0 (.raw (.pointer bp)) sc us pw hk hs hn hp port opq pn pl hq q hf fg bare sp (aa rst z)]:=bH (by kernel_rfl) AA (H:=B7 bp sc us pw hk hs hn hp port opq pn pl hq q hf fg bare sp rst z) (fuel:=1000) Tryz.func128 (by kernel_rfl) (Nat.le_of_ble_eq_true rfl) fun hpre=>(GP bp sc us pw hk hs hn hp port opq pn pl hq q hf fg bare sp rst z _).mpr (by
 obtain ⟨h0,h1⟩:=hpre
 exact ⟨⟨by omega,h0,h1⟩,⟨h0,h1,Int.le_refl _⟩,rfl,rfl⟩)
theorem GQ(bp:Option Addr)(sc us pw:Bs)(hk:Int)(hs:Bs)(hn:Int)(hp:List Int)(port:Int)(opq pn:Bool)(pl:List Bs)(hq:Bool)(q:Bs)(hf:Bool)(fg:Bs)(bare sp:Bool)(rst:Bs)(z:Int):ag Tryz.prog aA 128 [.ptr 0 0,.int .i64 z,aE 0 (.raw (.pointer bp)) sc us pw hk hs hn hp port opq pn pl hq q hf fg bare sp rst] ⟨0≤z∧z≤al rst,.tup [.str (ae rst z),aE 0 (.raw (.pointer bp)) sc us pw hk hs hn hp port opq pn pl hq q hf fg bare sp (aa rst z)]⟩:=ag.bd (fun h=>by have e:List.isEmpty (PV.aB PV.bD [.ptr 0 0,.int .i64 z,aE 0 (.raw (.pointer bp)) sc us pw hk hs hn hp port opq pn pl hq q hf fg bare sp rst])=false:=(by kernel_rfl);exact Bool.noConfusion (e.symm.trans (congrArg List.isEmpty h))) (AB bp sc us pw hk hs hn hp port opq pn pl hq q hf fg bare sp rst z)
def nY:List PV→Option aI:=fun xs=>match xs with
 |[.ptr 0 0,.int .i64 z,aE 0 (.raw (.pointer bp)) sc us pw hk hs hn hp port opq pn pl hq q hf fg bare sp rst]=>some ⟨0≤z∧z≤al rst,.tup [.str (ae rst z),aE 0 (.raw (.pointer bp)) sc us pw hk hs hn hp port opq pn pl hq q hf fg bare sp (aa rst z)]⟩
 |_=>none
theorem vD:∀xs c,nY xs=some c→ag Tryz.prog aA 128 xs c:=fun xs c h=>by
 unfold nY at h
 split at h
 ·injection h with h;subst h;exact GQ _ _ _ _ _ _ _ _ _ _ _ _ _ _ _ _ _ _ _ _
 ·cases h
end
section
def x3:cq:=bR [(80,kt),(128,nY),(129,gG),(26,ff)]
def x4(bp:Option Addr)(sc us pw:Bs)(hk:Int)(hs:Bs)(hn:Int)(hp:List Int)(port:Int)(opq pn:Bool)(pl:List Bs)(hq:Bool)(q:Bs)(hf:Bool)(fg:Bs)(bare sp:Bool)(rst:Bs):ba:=fun i=>none
theorem x5:cS Tryz.prog aA x3:=ai mL (ai vD (ai fT (ai dS (ax))))
theorem DT(bp:Option Addr)(sc us pw:Bs)(hk:Int)(hs:Bs)(hn:Int)(hp:List Int)(port:Int)(opq pn:Bool)(pl:List Bs)(hq:Bool)(q:Bs)(hf:Bool)(fg:Bs)(bare sp:Bool)(rst:Bs)(k:PV→List PV→Prop):bQ Tryz.prog x3 aA (x4 bp sc us pw hk hs hn hp port opq pn pl hq q hf fg bare sp rst) 1000 Tryz.f91 [.ptr 0 0] [aE 0 (.raw (.pointer bp)) sc us pw hk hs hn hp port opq pn pl hq q hf fg bare sp rst] k=(
 True∧
 ((!(aj rst (ByteArray.mk #[63]).data.toList).2)=true→
 k (PV.tup []) [bV (PV.raw (Go.Value.pointer bp)) 0 sc us pw hk hs hn hp port opq pn pl hq q hf fg bare sp ((aj rst (ByteArray.mk #[63]).data.toList).1)])∧
 ((!(aj rst (ByteArray.mk #[63]).data.toList).2)=false→
 (sp=true→
 (List.length (aj rst (ByteArray.mk #[63]).data.toList).1≤(1000000:Nat)∧
 (ByteArray.mk #[35]).data.toList.length≤(1000000:Nat)∧
 ∀(b:UInt8),b∈(ByteArray.mk #[35]).data.toList→
 b.toNat<(128:Nat))∧
 ((0:Int)≤↑(aW (aj rst (ByteArray.mk #[63]).data.toList).1 (ByteArray.mk #[35]).data.toList)∧
 ↑(aW (aj rst (ByteArray.mk #[63]).data.toList).1 (ByteArray.mk #[35]).data.toList)≤al (aj rst (ByteArray.mk #[63]).data.toList).1)∧
 ((ae (aj rst (ByteArray.mk #[63]).data.toList).1 ↑(aW (aj rst (ByteArray.mk #[63]).data.toList).1 (ByteArray.mk #[35]).data.toList)).length≤(300000:Nat)∧
 (0:Int)≤(3:Int)∧
 (3:Int)≤(6:Int))∧
 k (PV.tup []) [bV (PV.raw (Go.Value.pointer bp)) 0 sc us pw hk hs hn hp port opq pn pl true (bw (3:Int) (ae (aj rst (ByteArray.mk #[63]).data.toList).1 ↑(aW (aj rst (ByteArray.mk #[63]).data.toList).1 (ByteArray.mk #[35]).data.toList))) hf fg bare sp (aa (aj rst (ByteArray.mk #[63]).data.toList).1 ↑(aW (aj rst (ByteArray.mk #[63]).data.toList).1 (ByteArray.mk #[35]).data.toList))])∧
 (sp=false→
 (List.length (aj rst (ByteArray.mk #[63]).data.toList).1≤(1000000:Nat)∧
 (ByteArray.mk #[35]).data.toList.length≤(1000000:Nat)∧
 ∀(b:UInt8),b∈(ByteArray.mk #[35]).data.toList→
 b.toNat<(128:Nat))∧
 ((0:Int)≤↑(aW (aj rst (ByteArray.mk #[63]).data.toList).1 (ByteArray.mk #[35]).data.toList)∧
 ↑(aW (aj rst (ByteArray.mk #[63]).data.toList).1 (ByteArray.mk #[35]).data.toList)≤al (aj rst (ByteArray.mk #[63]).data.toList).1)∧
 ((ae (aj rst (ByteArray.mk #[63]).data.toList).1 ↑(aW (aj rst (ByteArray.mk #[63]).data.toList).1 (ByteArray.mk #[35]).data.toList)).length≤(300000:Nat)∧
 (0:Int)≤(2:Int)∧
 (2:Int)≤(6:Int))∧
 k (PV.tup []) [bV (PV.raw (Go.Value.pointer bp)) 0 sc us pw hk hs hn hp port opq pn pl true (bw (2:Int) (ae (aj rst (ByteArray.mk #[63]).data.toList).1 ↑(aW (aj rst (ByteArray.mk #[63]).data.toList).1 (ByteArray.mk #[35]).data.toList))) hf fg bare sp (aa (aj rst (ByteArray.mk #[63]).data.toList).1 ↑(aW (aj rst (ByteArray.mk #[63]).data.toList).1 (ByteArray.mk #[35]).data.toList))]))):=by kernel_rfl
attribute [local irreducible] Go.Vc.cD Go.Vc.bQ
theorem x6(bp:Option Addr)(sc us pw:Bs)(hk:Int)(hs:Bs)(hn:Int)(hp:List Int)(port:Int)(opq pn:Bool)(pl:List Bs)(hq:Bool)(q:Bs)(hf:Bool)(fg:Bs)(bare sp:Bool)(rst:Bs):br Tryz.prog aA 91 [.ptr 0 0] [aE 0 (.raw (.pointer bp)) sc us pw hk hs hn hp port opq pn pl hq q hf fg bare sp rst] (rst.length≤300000) (.tup []) [aE 0 (.raw (.pointer bp)) sc us pw hk hs hn hp port opq pn pl (ee rst hq) (eh sp rst q) hf fg bare sp (bL rst)]:=bH (by kernel_rfl) x5 (H:=x4 bp sc us pw hk hs hn hp port opq pn pl hq q hf fg bare sp rst) (fuel:=1000) Tryz.func91 (by kernel_rfl) (Nat.le_of_ble_eq_true rfl) fun hpre=>(DT bp sc us pw hk hs hn hp port opq pn pl hq q hf fg bare sp rst _).mpr (by
 have ec:(ByteArray.mk #[63]).data.toList=([63]:Bs):=rfl
 have ed:(ByteArray.mk #[35]).data.toList=([35]:Bs):=rfl
 have h35:∀b:UInt8,b∈(ByteArray.mk #[35]).data.toList→b.toNat<128:=by rw [ed];decide
 cases hc:preB rst [63]with
 |false=>
  have e1:aj rst (ByteArray.mk #[63]).data.toList=(rst,false):=by unfold aj;rw [ec,hc];rfl
  have e2:ee rst hq=hq∧eh sp rst q=q∧bL rst=rst:=by unfold ee eh bL;rw [hc];exact ⟨rfl,rfl,rfl⟩
  rw [e1,e2.1,e2.2.1,e2.2.2]
  exact ⟨trivial,fun _=>⟨rfl,rfl⟩,fun h=>by cases h⟩
 |true=>
  have e1:aj rst (ByteArray.mk #[63]).data.toList=(aa rst 1,true):=by unfold aj;rw [ec,hc];rfl
  have e2:ee rst hq=true∧eh sp rst q=bw (if sp=true then 3 else 2) (ae (aa rst 1) (xK (aa rst 1)))∧bL rst=aa (aa rst 1) (xK (aa rst 1)):=⟨if_pos hc,if_pos hc,if_pos hc⟩
  have hl:(aa rst 1).length≤300000:=by unfold aa;rw [List.length_drop];omega
  have hi:=fe (aa rst 1) (ByteArray.mk #[35]).data.toList
  have ht:(ae (aa rst 1) (aW (aa rst 1) (ByteArray.mk #[35]).data.toList:Int)).length≤300000:=by unfold ae;rw [List.length_take];omega
  rw [e1,e2.1,e2.2.1,e2.2.2]
  refine ⟨trivial,fun h=>(by cases h),fun _=>⟨fun hsp=>?_,fun hsp=>?_⟩⟩
  ·subst hsp
   exact ⟨⟨Nat.le_trans hl (by decide),by decide,h35⟩,⟨by omega,by unfold al;exact Int.ofNat_le.2 hi⟩,⟨ht,by omega,by omega⟩,rfl,rfl⟩
  ·subst hsp
   exact ⟨⟨Nat.le_trans hl (by decide),by decide,h35⟩,⟨by omega,by unfold al;exact Int.ofNat_le.2 hi⟩,⟨ht,by omega,by omega⟩,rfl,rfl⟩)
theorem DU(bp:Option Addr)(sc us pw:Bs)(hk:Int)(hs:Bs)(hn:Int)(hp:List Int)(port:Int)(opq pn:Bool)(pl:List Bs)(hq:Bool)(q:Bs)(hf:Bool)(fg:Bs)(bare sp:Bool)(rst:Bs):ag Tryz.prog aA 91 [.ptr 0 0,aE 0 (.raw (.pointer bp)) sc us pw hk hs hn hp port opq pn pl hq q hf fg bare sp rst] ⟨rst.length≤300000,.tup [.tup [],aE 0 (.raw (.pointer bp)) sc us pw hk hs hn hp port opq pn pl (ee rst hq) (eh sp rst q) hf fg bare sp (bL rst)]⟩:=ag.bd (fun h=>by have e:List.isEmpty (PV.aB PV.bD [.ptr 0 0,aE 0 (.raw (.pointer bp)) sc us pw hk hs hn hp port opq pn pl hq q hf fg bare sp rst])=false:=(by kernel_rfl);exact Bool.noConfusion (e.symm.trans (congrArg List.isEmpty h))) (x6 bp sc us pw hk hs hn hp port opq pn pl hq q hf fg bare sp rst)
def lC:List PV→Option aI:=fun xs=>match xs with
 |[.ptr 0 0,aE 0 (.raw (.pointer bp)) sc us pw hk hs hn hp port opq pn pl hq q hf fg bare sp rst]=>some ⟨rst.length≤300000,.tup [.tup [],aE 0 (.raw (.pointer bp)) sc us pw hk hs hn hp port opq pn pl (ee rst hq) (eh sp rst q) hf fg bare sp (bL rst)]⟩
 |_=>none
theorem sl:∀xs c,lC xs=some c→ag Tryz.prog aA 91 xs c:=fun xs c h=>by
 unfold lC at h
 split at h
 ·injection h with h;subst h;exact DU _ _ _ _ _ _ _ _ _ _ _ _ _ _ _ _ _ _ _
 ·cases h
end
section
def ei(rst:Bs)(hf:Bool):Bool:=if preB rst [35]=true then true else hf
def ej(rst fg:Bs):Bs:=if preB rst [35]=true then bw 1 (aa rst 1)else fg
def en(rst:Bs):Bs:=if preB rst [35]=true then aa rst 1 else rst
theorem Jg(r:RS):r.IT={r with hf:=ei r.rst r.hf,fg:=ej r.rst r.fg,rst:=en r.rst}:=by
 unfold RS.IT ei ej en
 split<;>rfl
def rr:cq:=bR [(80,jY),(26,ff)]
def ru(bp:Option Addr)(sc us pw:Bs)(hk:Int)(hs:Bs)(hn:Int)(hp:List Int)(port:Int)(opq pn:Bool)(pl:List Bs)(hq:Bool)(q:Bs)(hf:Bool)(fg:Bs)(bare sp:Bool)(rst:Bs):ba:=fun i=>none
theorem sn:cS Tryz.prog aA rr:=ai jZ (ai dS (ax))
theorem x7(bp:Option Addr)(sc us pw:Bs)(hk:Int)(hs:Bs)(hn:Int)(hp:List Int)(port:Int)(opq pn:Bool)(pl:List Bs)(hq:Bool)(q:Bs)(hf:Bool)(fg:Bs)(bare sp:Bool)(rst:Bs)(k:PV→List PV→Prop):bQ Tryz.prog rr aA (ru bp sc us pw hk hs hn hp port opq pn pl hq q hf fg bare sp rst) 1000 Tryz.f92 [.ptr 0 0] [aE 1 (.raw (.pointer bp)) sc us pw hk hs hn hp port opq pn pl hq q hf fg bare sp rst] k=(
 True∧
 ((aj rst (ByteArray.mk #[35]).data.toList).2=true→
 (List.length (aj rst (ByteArray.mk #[35]).data.toList).1≤(300000:Nat)∧
 (0:Int)≤(1:Int)∧
 (1:Int)≤(6:Int))∧
 k (PV.tup []) [bV (PV.raw (Go.Value.pointer bp)) 1 sc us pw hk hs hn hp port opq pn pl hq q true (bw (1:Int) (aj rst (ByteArray.mk #[35]).data.toList).1) bare sp ((aj rst (ByteArray.mk #[35]).data.toList).1)])∧
 ((aj rst (ByteArray.mk #[35]).data.toList).2=false→
 k (PV.tup []) [bV (PV.raw (Go.Value.pointer bp)) 1 sc us pw hk hs hn hp port opq pn pl hq q hf fg bare sp ((aj rst (ByteArray.mk #[35]).data.toList).1)])):=by kernel_rfl
attribute [local irreducible] Go.Vc.cD Go.Vc.bQ
theorem kN(bp:Option Addr)(sc us pw:Bs)(hk:Int)(hs:Bs)(hn:Int)(hp:List Int)(port:Int)(opq pn:Bool)(pl:List Bs)(hq:Bool)(q:Bs)(hf:Bool)(fg:Bs)(bare sp:Bool)(rst:Bs):br Tryz.prog aA 92 [.ptr 0 0] [aE 1 (.raw (.pointer bp)) sc us pw hk hs hn hp port opq pn pl hq q hf fg bare sp rst] (rst.length≤300000) (.tup []) [aE 1 (.raw (.pointer bp)) sc us pw hk hs hn hp port opq pn pl hq q (ei rst hf) (ej rst fg) bare sp (en rst)]:=bH (by kernel_rfl) sn (H:=ru bp sc us pw hk hs hn hp port opq pn pl hq q hf fg bare sp rst) (fuel:=1000) Tryz.func92 (by kernel_rfl) (Nat.le_of_ble_eq_true rfl) fun hpre=>(x7 bp sc us pw hk hs hn hp port opq pn pl hq q hf fg bare sp rst _).mpr (by
 have ed:(ByteArray.mk #[35]).data.toList=([35]:Bs):=rfl
 cases hc:preB rst [35]with
 |false=>
  have e1:aj rst (ByteArray.mk #[35]).data.toList=(rst,false):=by unfold aj;rw [ed,hc];rfl
  have e2:ei rst hf=hf∧ej rst fg=fg∧en rst=rst:=by unfold ei ej en;rw [hc];exact ⟨rfl,rfl,rfl⟩
  rw [e1,e2.1,e2.2.1,e2.2.2]
  exact ⟨trivial,fun h=>(by cases h),fun _=>⟨rfl,rfl⟩⟩
 |true=>
  have e1:aj rst (ByteArray.mk #[35]).data.toList=(aa rst 1,true):=by unfold aj;rw [ed,hc];rfl
  have e2:ei rst hf=true∧ej rst fg=bw 1 (aa rst 1)∧en rst=aa rst 1:=⟨if_pos hc,if_pos hc,if_pos hc⟩
  have hl:(aa rst 1).length≤300000:=by unfold aa;rw [List.length_drop];omega
  rw [e1,e2.1,e2.2.1,e2.2.2]
  exact ⟨trivial,fun _=>⟨⟨hl,by omega,by omega⟩,rfl,rfl⟩,fun h=>(by cases h)⟩)
theorem x8(bp:Option Addr)(sc us pw:Bs)(hk:Int)(hs:Bs)(hn:Int)(hp:List Int)(port:Int)(opq pn:Bool)(pl:List Bs)(hq:Bool)(q:Bs)(hf:Bool)(fg:Bs)(bare sp:Bool)(rst:Bs):ag Tryz.prog aA 92 [.ptr 0 0,aE 1 (.raw (.pointer bp)) sc us pw hk hs hn hp port opq pn pl hq q hf fg bare sp rst] ⟨rst.length≤300000,.tup [.tup [],aE 1 (.raw (.pointer bp)) sc us pw hk hs hn hp port opq pn pl hq q (ei rst hf) (ej rst fg) bare sp (en rst)]⟩:=ag.bd (fun h=>by have e:List.isEmpty (PV.aB PV.bD [.ptr 0 0,aE 1 (.raw (.pointer bp)) sc us pw hk hs hn hp port opq pn pl hq q hf fg bare sp rst])=false:=(by kernel_rfl);exact Bool.noConfusion (e.symm.trans (congrArg List.isEmpty h))) (kN bp sc us pw hk hs hn hp port opq pn pl hq q hf fg bare sp rst)
def jm:List PV→Option aI:=fun xs=>match xs with
 |[.ptr 0 0,aE 1 (.raw (.pointer bp)) sc us pw hk hs hn hp port opq pn pl hq q hf fg bare sp rst]=>some ⟨rst.length≤300000,.tup [.tup [],aE 1 (.raw (.pointer bp)) sc us pw hk hs hn hp port opq pn pl hq q (ei rst hf) (ej rst fg) bare sp (en rst)]⟩
 |_=>none
theorem o7:∀xs c,jm xs=some c→ag Tryz.prog aA 92 xs c:=fun xs c h=>by
 unfold jm at h
 split at h
 ·injection h with h;subst h;exact x8 _ _ _ _ _ _ _ _ _ _ _ _ _ _ _ _ _ _ _
 ·cases h
end
section
def oW:cq:=bR [(80,kt),(26,ff)]
def oX(bp:Option Addr)(sc us pw:Bs)(hk:Int)(hs:Bs)(hn:Int)(hp:List Int)(port:Int)(opq pn:Bool)(pl:List Bs)(hq:Bool)(q:Bs)(hf:Bool)(fg:Bs)(bare sp:Bool)(rst:Bs):ba:=fun i=>none
theorem rv:cS Tryz.prog aA oW:=ai mL (ai dS (ax))
theorem vE(bp:Option Addr)(sc us pw:Bs)(hk:Int)(hs:Bs)(hn:Int)(hp:List Int)(port:Int)(opq pn:Bool)(pl:List Bs)(hq:Bool)(q:Bs)(hf:Bool)(fg:Bs)(bare sp:Bool)(rst:Bs)(k:PV→List PV→Prop):bQ Tryz.prog oW aA (oX bp sc us pw hk hs hn hp port opq pn pl hq q hf fg bare sp rst) 1000 Tryz.f92 [.ptr 0 0] [aE 0 (.raw (.pointer bp)) sc us pw hk hs hn hp port opq pn pl hq q hf fg bare sp rst] k=(
 True∧
 ((aj rst (ByteArray.mk #[35]).data.toList).2=true→
 (List.length (aj rst (ByteArray.mk #[35]).data.toList).1≤(300000:Nat)∧
 (0:Int)≤(1:Int)∧
 (1:Int)≤(6:Int))∧
 k (PV.tup []) [bV (PV.raw (Go.Value.pointer bp)) 0 sc us pw hk hs hn hp port opq pn pl hq q true (bw (1:Int) (aj rst (ByteArray.mk #[35]).data.toList).1) bare sp ((aj rst (ByteArray.mk #[35]).data.toList).1)])∧
 ((aj rst (ByteArray.mk #[35]).data.toList).2=false→
 k (PV.tup []) [bV (PV.raw (Go.Value.pointer bp)) 0 sc us pw hk hs hn hp port opq pn pl hq q hf fg bare sp ((aj rst (ByteArray.mk #[35]).data.toList).1)])):=by kernel_rfl
attribute [local irreducible] Go.Vc.cD Go.Vc.bQ
theorem ry(bp:Option Addr)(sc us pw:Bs)(hk:Int)(hs:Bs)(hn:Int)(hp:List Int)(port:Int)(opq pn:Bool)(pl:List Bs)(hq:Bool)(q:Bs)(hf:Bool)(fg:Bs)(bare sp:Bool)(rst:Bs):br Tryz.prog aA 92 [.ptr 0 0] [aE 0 (.raw (.pointer bp)) sc us pw hk hs hn hp port opq pn pl hq q hf fg bare sp rst] (rst.length≤300000) (.tup []) [aE 0 (.raw (.pointer bp)) sc us pw hk hs hn hp port opq pn pl hq q (ei rst hf) (ej rst fg) bare sp (en rst)]:=bH (by kernel_rfl) rv (H:=oX bp sc us pw hk hs hn hp port opq pn pl hq q hf fg bare sp rst) (fuel:=1000) Tryz.func92 (by kernel_rfl) (Nat.le_of_ble_eq_true rfl) fun hpre=>(vE bp sc us pw hk hs hn hp port opq pn pl hq q hf fg bare sp rst _).mpr (by
 have ed:(ByteArray.mk #[35]).data.toList=([35]:Bs):=rfl
 cases hc:preB rst [35]with
 |false=>
  have e1:aj rst (ByteArray.mk #[35]).data.toList=(rst,false):=by unfold aj;rw [ed,hc];rfl
  have e2:ei rst hf=hf∧ej rst fg=fg∧en rst=rst:=by unfold ei ej en;rw [hc];exact ⟨rfl,rfl,rfl⟩
  rw [e1,e2.1,e2.2.1,e2.2.2]
  exact ⟨trivial,fun h=>(by cases h),fun _=>⟨rfl,rfl⟩⟩
 |true=>
  have e1:aj rst (ByteArray.mk #[35]).data.toList=(aa rst 1,true):=by unfold aj;rw [ed,hc];rfl
  have e2:ei rst hf=true∧ej rst fg=bw 1 (aa rst 1)∧en rst=aa rst 1:=⟨if_pos hc,if_pos hc,if_pos hc⟩
  have hl:(aa rst 1).length≤300000:=by unfold aa;rw [List.length_drop];omega
  rw [e1,e2.1,e2.2.1,e2.2.2]
  exact ⟨trivial,fun _=>⟨⟨hl,by omega,by omega⟩,rfl,rfl⟩,fun h=>(by cases h)⟩)
theorem vF(bp:Option Addr)(sc us pw:Bs)(hk:Int)(hs:Bs)(hn:Int)(hp:List Int)(port:Int)(opq pn:Bool)(pl:List Bs)(hq:Bool)(q:Bs)(hf:Bool)(fg:Bs)(bare sp:Bool)(rst:Bs):ag Tryz.prog aA 92 [.ptr 0 0,aE 0 (.raw (.pointer bp)) sc us pw hk hs hn hp port opq pn pl hq q hf fg bare sp rst] ⟨rst.length≤300000,.tup [.tup [],aE 0 (.raw (.pointer bp)) sc us pw hk hs hn hp port opq pn pl hq q (ei rst hf) (ej rst fg) bare sp (en rst)]⟩:=ag.bd (fun h=>by have e:List.isEmpty (PV.aB PV.bD [.ptr 0 0,aE 0 (.raw (.pointer bp)) sc us pw hk hs hn hp port opq pn pl hq q hf fg bare sp rst])=false:=(by kernel_rfl);exact Bool.noConfusion (e.symm.trans (congrArg List.isEmpty h))) (ry bp sc us pw hk hs hn hp port opq pn pl hq q hf fg bare sp rst)
def ig:List PV→Option aI:=fun xs=>match xs with
 |[.ptr 0 0,aE 0 (.raw (.pointer bp)) sc us pw hk hs hn hp port opq pn pl hq q hf fg bare sp rst]=>some ⟨rst.length≤300000,.tup [.tup [],aE 0 (.raw (.pointer bp)) sc us pw hk hs hn hp port opq pn pl hq q (ei rst hf) (ej rst fg) bare sp (en rst)]⟩
 |_=>none
theorem nZ:∀xs c,ig xs=some c→ag Tryz.prog aA 92 xs c:=fun xs c h=>by
 unfold ig at h
 split at h
 ·injection h with h;subst h;exact vF _ _ _ _ _ _ _ _ _ _ _ _ _ _ _ _ _ _ _
 ·cases h
end
section
attribute [local instance] K7
theorem eJ(bp:Option Addr):ofRaw bp (.raw (.pointer bp))=.ptr 1 0:=by unfold ofRaw;exact if_pos rfl
theorem DV(sc us pw:Bs)(hk:Int)(hs:Bs)(hn:Int)(hp:List Int)(port:Int)(opq pn:Bool)(pl:List Bs)(hq:Bool)(q:Bs)(hf:Bool)(fg:Bs)(bare sp:Bool)(rst:Bs)(at_:Int)(bsc bus bpw:Bs)(bhk:Int)(bhs:Bs)(bhn:Int)(bhp:List Int)(bport:Int)(bopq bpn:Bool)(bpl:List Bs)(bhq:Bool)(bq:Bs)(bhf:Bool)(bfg:Bs):ag Tryz.prog aA 82 [.ptr 0 0,.int .i64 at_,aE 1 (.ptr 1 0) sc us pw hk hs hn hp port opq pn pl hq q hf fg bare sp rst,bG 0 bsc bus bpw bhk bhs bhn bhp bport bopq bpn bpl bhq bq bhf bfg] ⟨0≤at_∧at_<1000,.tup [.bool (az sp rst at_),aE 1 (.ptr 1 0) sc us pw hk hs hn hp port opq pn pl hq q hf fg bare sp rst,bG 0 bsc bus bpw bhk bhs bhn bhp bport bopq bpn bpl bhq bq bhf bfg]⟩:=
 ag.bd (fun h=>by have e:List.isEmpty (PV.aB PV.bD [.ptr 0 0,.int .i64 at_,aE 1 (.ptr 1 0) sc us pw hk hs hn hp port opq pn pl hq q hf fg bare sp rst,bG 0 bsc bus bpw bhk bhs bhn bhp bport bopq bpn bpl bhq bq bhf bfg])=false:=(by kernel_rfl);exact Bool.noConfusion (e.symm.trans (congrArg List.isEmpty h)))
  (eH (fun bp=>(aE 1 (.raw (.pointer bp)) sc us pw hk hs hn hp port opq pn pl hq q hf fg bare sp rst)) (fun bp=>(aE 1 (.raw (.pointer bp)) sc us pw hk hs hn hp port opq pn pl hq q hf fg bare sp rst)) (fun bp=>qX bp sc us pw hk hs hn hp port opq pn pl hq q hf fg bare sp rst at_) (fun bp=>rfl) (fun bp=>by
    show PV.agg [_,ofRaw bp (.raw (.pointer bp)),_,_,_]=_
    rw [eJ];rfl) (fun bp=>rfl) rfl)
theorem so(sc us pw:Bs)(hk:Int)(hs:Bs)(hn:Int)(hp:List Int)(port:Int)(opq pn:Bool)(pl:List Bs)(hq:Bool)(q:Bs)(hf:Bool)(fg:Bs)(bare sp:Bool)(rst:Bs)(bsc bus bpw:Bs)(bhk:Int)(bhs:Bs)(bhn:Int)(bhp:List Int)(bport:Int)(bopq bpn:Bool)(bpl:List Bs)(bhq:Bool)(bq:Bs)(bhf:Bool)(bfg:Bs):ag Tryz.prog aA 84 [.ptr 0 0,aE 1 (.ptr 1 0) sc us pw hk hs hn hp port opq pn pl hq q hf fg bare sp rst,bG 0 bsc bus bpw bhk bhs bhn bhp bport bopq bpn bpl bhq bq bhf bfg] ⟨True,.tup [.bool (az sp rst 0),aE 1 (.ptr 1 0) sc us pw hk hs hn hp port opq pn pl hq q hf fg bare sp (if az sp rst 0=true then aa rst 1 else rst),bG 0 bsc bus bpw bhk bhs bhn bhp bport bopq bpn bpl bhq bq bhf bfg]⟩:=
 ag.bd (fun h=>by have e:List.isEmpty (PV.aB PV.bD [.ptr 0 0,aE 1 (.ptr 1 0) sc us pw hk hs hn hp port opq pn pl hq q hf fg bare sp rst,bG 0 bsc bus bpw bhk bhs bhn bhp bport bopq bpn bpl bhq bq bhf bfg])=false:=(by kernel_rfl);exact Bool.noConfusion (e.symm.trans (congrArg List.isEmpty h)))
  (eH (fun bp=>(aE 1 (.raw (.pointer bp)) sc us pw hk hs hn hp port opq pn pl hq q hf fg bare sp rst)) (fun bp=>(aE 1 (.raw (.pointer bp)) sc us pw hk hs hn hp port opq pn pl hq q hf fg bare sp (if az sp rst 0=true then aa rst 1 else rst))) (fun bp=>jX bp sc us pw hk hs hn hp port opq pn pl hq q hf fg bare sp rst) (fun bp=>rfl) (fun bp=>by
    show PV.agg [_,ofRaw bp (.raw (.pointer bp)),_,_,_]=_
    rw [eJ];rfl) (fun bp=>rfl) rfl)
theorem AD(sc us pw:Bs)(hk:Int)(hs:Bs)(hn:Int)(hp:List Int)(port:Int)(opq pn:Bool)(pl:List Bs)(hq:Bool)(q:Bs)(hf:Bool)(fg:Bs)(bare sp:Bool)(rst:Bs)(bsc bus bpw:Bs)(bhk:Int)(bhs:Bs)(bhn:Int)(bhp:List Int)(bport:Int)(bopq bpn:Bool)(bpl:List Bs)(bhq:Bool)(bq:Bs)(bhf:Bool)(bfg:Bs):ag Tryz.prog aA 89 [.ptr 0 0,aE 1 (.ptr 1 0) sc us pw hk hs hn hp port opq pn pl hq q hf fg bare sp rst,bG 0 bsc bus bpw bhk bhs bhn bhp bport bopq bpn bpl bhq bq bhf bfg] ⟨True,.tup [.bool (bT rst),aE 1 (.ptr 1 0) sc us pw hk hs hn hp port opq pn pl hq q hf fg bare sp rst,bG 0 bsc bus bpw bhk bhs bhn bhp bport bopq bpn bpl bhq bq bhf bfg]⟩:=
 ag.bd (fun h=>by have e:List.isEmpty (PV.aB PV.bD [.ptr 0 0,aE 1 (.ptr 1 0) sc us pw hk hs hn hp port opq pn pl hq q hf fg bare sp rst,bG 0 bsc bus bpw bhk bhs bhn bhp bport bopq bpn bpl bhq bq bhf bfg])=false:=(by kernel_rfl);exact Bool.noConfusion (e.symm.trans (congrArg List.isEmpty h)))
  (eH (fun bp=>(aE 1 (.raw (.pointer bp)) sc us pw hk hs hn hp port opq pn pl hq q hf fg bare sp rst)) (fun bp=>(aE 1 (.raw (.pointer bp)) sc us pw hk hs hn hp port opq pn pl hq q hf fg bare sp rst)) (fun bp=>oS bp sc us pw hk hs hn hp port opq pn pl hq q hf fg bare sp rst) (fun bp=>rfl) (fun bp=>by
    show PV.agg [_,ofRaw bp (.raw (.pointer bp)),_,_,_]=_
    rw [eJ];rfl) (fun bp=>rfl) rfl)
def j4:List PV→Option aI:=fun xs=>match xs with
 |[.ptr 0 0,aE 1 (.ptr 1 0) sc us pw hk hs hn hp port opq pn pl hq q hf fg bare sp rst,bG 0 bsc bus bpw bhk bhs bhn bhp bport bopq bpn bpl bhq bq bhf bfg]=>some ⟨True,.tup [.bool (bT rst),aE 1 (.ptr 1 0) sc us pw hk hs hn hp port opq pn pl hq q hf fg bare sp rst,bG 0 bsc bus bpw bhk bhs bhn bhp bport bopq bpn bpl bhq bq bhf bfg]⟩
 |_=>none
theorem rz:∀xs c,j4 xs=some c→ag Tryz.prog aA 89 xs c:=fun xs c h=>by
 unfold j4 at h
 split at h
 ·injection h with h;subst h;exact AD _ _ _ _ _ _ _ _ _ _ _ _ _ _ _ _ _ _ _ _ _ _ _ _ _ _ _ _ _ _ _ _ _
 ·cases h
theorem x9(sc us pw:Bs)(hk:Int)(hs:Bs)(hn:Int)(hp:List Int)(port:Int)(opq pn:Bool)(pl:List Bs)(hq:Bool)(q:Bs)(hf:Bool)(fg:Bs)(bare sp:Bool)(rst:Bs)(bsc bus bpw:Bs)(bhk:Int)(bhs:Bs)(bhn:Int)(bhp:List Int)(bport:Int)(bopq bpn:Bool)(bpl:List Bs)(bhq:Bool)(bq:Bs)(bhf:Bool)(bfg:Bs):ag Tryz.prog aA 87 [.ptr 0 0,aE 1 (.ptr 1 0) sc us pw hk hs hn hp port opq pn pl hq q hf fg bare sp rst,bG 0 bsc bus bpw bhk bhs bhn bhp bport bopq bpn bpl bhq bq bhf bfg] ⟨pl.length≤1000000,.tup [.tup [],aE 1 (.ptr 1 0) sc us pw hk hs hn hp port opq ((b6 sc (pn,pl)).1) ((b6 sc (pn,pl)).2) hq q hf fg bare sp rst,bG 0 bsc bus bpw bhk bhs bhn bhp bport bopq bpn bpl bhq bq bhf bfg]⟩:=
 ag.bd (fun h=>by have e:List.isEmpty (PV.aB PV.bD [.ptr 0 0,aE 1 (.ptr 1 0) sc us pw hk hs hn hp port opq pn pl hq q hf fg bare sp rst,bG 0 bsc bus bpw bhk bhs bhn bhp bport bopq bpn bpl bhq bq bhf bfg])=false:=(by kernel_rfl);exact Bool.noConfusion (e.symm.trans (congrArg List.isEmpty h)))
  (eH (fun bp=>(aE 1 (.raw (.pointer bp)) sc us pw hk hs hn hp port opq pn pl hq q hf fg bare sp rst)) (fun bp=>(aE 1 (.raw (.pointer bp)) sc us pw hk hs hn hp port opq ((b6 sc (pn,pl)).1) ((b6 sc (pn,pl)).2) hq q hf fg bare sp rst)) (fun bp=>mJ bp sc us pw hk hs hn hp port opq pn pl hq q hf fg bare sp rst) (fun bp=>rfl) (fun bp=>by
    show PV.agg [_,ofRaw bp (.raw (.pointer bp)),_,_,_]=_
    rw [eJ];rfl) (fun bp=>rfl) rfl)
def jn:List PV→Option aI:=fun xs=>match xs with
 |[.ptr 0 0,aE 1 (.ptr 1 0) sc us pw hk hs hn hp port opq pn pl hq q hf fg bare sp rst,bG 0 bsc bus bpw bhk bhs bhn bhp bport bopq bpn bpl bhq bq bhf bfg]=>some ⟨pl.length≤1000000,.tup [.tup [],aE 1 (.ptr 1 0) sc us pw hk hs hn hp port opq ((b6 sc (pn,pl)).1) ((b6 sc (pn,pl)).2) hq q hf fg bare sp rst,bG 0 bsc bus bpw bhk bhs bhn bhp bport bopq bpn bpl bhq bq bhf bfg]⟩
 |_=>none
theorem o8:∀xs c,jn xs=some c→ag Tryz.prog aA 87 xs c:=fun xs c h=>by
 unfold jn at h
 split at h
 ·injection h with h;subst h;exact x9 _ _ _ _ _ _ _ _ _ _ _ _ _ _ _ _ _ _ _ _ _ _ _ _ _ _ _ _ _ _ _ _ _
 ·cases h
theorem GR(sc us pw:Bs)(hk:Int)(hs:Bs)(hn:Int)(hp:List Int)(port:Int)(opq pn:Bool)(pl:List Bs)(hq:Bool)(q:Bs)(hf:Bool)(fg:Bs)(bare sp:Bool)(rst:Bs)(bsc bus bpw:Bs)(bhk:Int)(bhs:Bs)(bhn:Int)(bhp:List Int)(bport:Int)(bopq bpn:Bool)(bpl:List Bs)(bhq:Bool)(bq:Bs)(bhf:Bool)(bfg:Bs):ag Tryz.prog aA 90 [.ptr 0 0,aE 1 (.ptr 1 0) sc us pw hk hs hn hp port opq pn pl hq q hf fg bare sp rst,bG 0 bsc bus bpw bhk bhs bhn bhp bport bopq bpn bpl bhq bq bhf bfg] ⟨rst.length≤300000∧pl.length≤100000,.tup [.tup [],aE 1 (.ptr 1 0) sc us pw hk hs hn hp port opq ((bt sp sc (ae rst (aF rst)) (pn,pl)).1) ((bt sp sc (ae rst (aF rst)) (pn,pl)).2) hq q hf fg bare sp (aa rst (aF rst)),bG 0 bsc bus bpw bhk bhs bhn bhp bport bopq bpn bpl bhq bq bhf bfg]⟩:=
 ag.bd (fun h=>by have e:List.isEmpty (PV.aB PV.bD [.ptr 0 0,aE 1 (.ptr 1 0) sc us pw hk hs hn hp port opq pn pl hq q hf fg bare sp rst,bG 0 bsc bus bpw bhk bhs bhn bhp bport bopq bpn bpl bhq bq bhf bfg])=false:=(by kernel_rfl);exact Bool.noConfusion (e.symm.trans (congrArg List.isEmpty h)))
  (eH (fun bp=>(aE 1 (.raw (.pointer bp)) sc us pw hk hs hn hp port opq pn pl hq q hf fg bare sp rst)) (fun bp=>(aE 1 (.raw (.pointer bp)) sc us pw hk hs hn hp port opq ((bt sp sc (ae rst (aF rst)) (pn,pl)).1) ((bt sp sc (ae rst (aF rst)) (pn,pl)).2) hq q hf fg bare sp (aa rst (aF rst)))) (fun bp=>tX bp sc us pw hk hs hn hp port opq pn pl hq q hf fg bare sp rst) (fun bp=>rfl) (fun bp=>by
    show PV.agg [_,ofRaw bp (.raw (.pointer bp)),_,_,_]=_
    rw [eJ];rfl) (fun bp=>rfl) rfl)
def n3:List PV→Option aI:=fun xs=>match xs with
 |[.ptr 0 0,aE 1 (.ptr 1 0) sc us pw hk hs hn hp port opq pn pl hq q hf fg bare sp rst,bG 0 bsc bus bpw bhk bhs bhn bhp bport bopq bpn bpl bhq bq bhf bfg]=>some ⟨rst.length≤300000∧pl.length≤100000,.tup [.tup [],aE 1 (.ptr 1 0) sc us pw hk hs hn hp port opq ((bt sp sc (ae rst (aF rst)) (pn,pl)).1) ((bt sp sc (ae rst (aF rst)) (pn,pl)).2) hq q hf fg bare sp (aa rst (aF rst)),bG 0 bsc bus bpw bhk bhs bhn bhp bport bopq bpn bpl bhq bq bhf bfg]⟩
 |_=>none
theorem vG:∀xs c,n3 xs=some c→ag Tryz.prog aA 90 xs c:=fun xs c h=>by
 unfold n3 at h
 split at h
 ·injection h with h;subst h;exact GR _ _ _ _ _ _ _ _ _ _ _ _ _ _ _ _ _ _ _ _ _ _ _ _ _ _ _ _ _ _ _ _ _
 ·cases h
theorem DW(sc us pw:Bs)(hk:Int)(hs:Bs)(hn:Int)(hp:List Int)(port:Int)(opq pn:Bool)(pl:List Bs)(hq:Bool)(q:Bs)(hf:Bool)(fg:Bs)(bare sp:Bool)(rst:Bs)(bsc bus bpw:Bs)(bhk:Int)(bhs:Bs)(bhn:Int)(bhp:List Int)(bport:Int)(bopq bpn:Bool)(bpl:List Bs)(bhq:Bool)(bq:Bs)(bhf:Bool)(bfg:Bs):ag Tryz.prog aA 91 [.ptr 0 0,aE 1 (.ptr 1 0) sc us pw hk hs hn hp port opq pn pl hq q hf fg bare sp rst,bG 0 bsc bus bpw bhk bhs bhn bhp bport bopq bpn bpl bhq bq bhf bfg] ⟨rst.length≤300000,.tup [.tup [],aE 1 (.ptr 1 0) sc us pw hk hs hn hp port opq pn pl (ee rst hq) (eh sp rst q) hf fg bare sp (bL rst),bG 0 bsc bus bpw bhk bhs bhn bhp bport bopq bpn bpl bhq bq bhf bfg]⟩:=
 ag.bd (fun h=>by have e:List.isEmpty (PV.aB PV.bD [.ptr 0 0,aE 1 (.ptr 1 0) sc us pw hk hs hn hp port opq pn pl hq q hf fg bare sp rst,bG 0 bsc bus bpw bhk bhs bhn bhp bport bopq bpn bpl bhq bq bhf bfg])=false:=(by kernel_rfl);exact Bool.noConfusion (e.symm.trans (congrArg List.isEmpty h)))
  (eH (fun bp=>(aE 1 (.raw (.pointer bp)) sc us pw hk hs hn hp port opq pn pl hq q hf fg bare sp rst)) (fun bp=>(aE 1 (.raw (.pointer bp)) sc us pw hk hs hn hp port opq pn pl (ee rst hq) (eh sp rst q) hf fg bare sp (bL rst))) (fun bp=>rq bp sc us pw hk hs hn hp port opq pn pl hq q hf fg bare sp rst) (fun bp=>rfl) (fun bp=>by
    show PV.agg [_,ofRaw bp (.raw (.pointer bp)),_,_,_]=_
    rw [eJ];rfl) (fun bp=>rfl) rfl)
def lD:List PV→Option aI:=fun xs=>match xs with
 |[.ptr 0 0,aE 1 (.ptr 1 0) sc us pw hk hs hn hp port opq pn pl hq q hf fg bare sp rst,bG 0 bsc bus bpw bhk bhs bhn bhp bport bopq bpn bpl bhq bq bhf bfg]=>some ⟨rst.length≤300000,.tup [.tup [],aE 1 (.ptr 1 0) sc us pw hk hs hn hp port opq pn pl (ee rst hq) (eh sp rst q) hf fg bare sp (bL rst),bG 0 bsc bus bpw bhk bhs bhn bhp bport bopq bpn bpl bhq bq bhf bfg]⟩
 |_=>none
theorem sq:∀xs c,lD xs=some c→ag Tryz.prog aA 91 xs c:=fun xs c h=>by
 unfold lD at h
 split at h
 ·injection h with h;subst h;exact DW _ _ _ _ _ _ _ _ _ _ _ _ _ _ _ _ _ _ _ _ _ _ _ _ _ _ _ _ _ _ _ _ _
 ·cases h
theorem vH(sc us pw:Bs)(hk:Int)(hs:Bs)(hn:Int)(hp:List Int)(port:Int)(opq pn:Bool)(pl:List Bs)(hq:Bool)(q:Bs)(hf:Bool)(fg:Bs)(bare sp:Bool)(rst:Bs)(bsc bus bpw:Bs)(bhk:Int)(bhs:Bs)(bhn:Int)(bhp:List Int)(bport:Int)(bopq bpn:Bool)(bpl:List Bs)(bhq:Bool)(bq:Bs)(bhf:Bool)(bfg:Bs):ag Tryz.prog aA 92 [.ptr 0 0,aE 1 (.ptr 1 0) sc us pw hk hs hn hp port opq pn pl hq q hf fg bare sp rst,bG 0 bsc bus bpw bhk bhs bhn bhp bport bopq bpn bpl bhq bq bhf bfg] ⟨rst.length≤300000,.tup [.tup [],aE 1 (.ptr 1 0) sc us pw hk hs hn hp port opq pn pl hq q (ei rst hf) (ej rst fg) bare sp (en rst),bG 0 bsc bus bpw bhk bhs bhn bhp bport bopq bpn bpl bhq bq bhf bfg]⟩:=
 ag.bd (fun h=>by have e:List.isEmpty (PV.aB PV.bD [.ptr 0 0,aE 1 (.ptr 1 0) sc us pw hk hs hn hp port opq pn pl hq q hf fg bare sp rst,bG 0 bsc bus bpw bhk bhs bhn bhp bport bopq bpn bpl bhq bq bhf bfg])=false:=(by kernel_rfl);exact Bool.noConfusion (e.symm.trans (congrArg List.isEmpty h)))
  (eH (fun bp=>(aE 1 (.raw (.pointer bp)) sc us pw hk hs hn hp port opq pn pl hq q hf fg bare sp rst)) (fun bp=>(aE 1 (.raw (.pointer bp)) sc us pw hk hs hn hp port opq pn pl hq q (ei rst hf) (ej rst fg) bare sp (en rst))) (fun bp=>kN bp sc us pw hk hs hn hp port opq pn pl hq q hf fg bare sp rst) (fun bp=>rfl) (fun bp=>by
    show PV.agg [_,ofRaw bp (.raw (.pointer bp)),_,_,_]=_
    rw [eJ];rfl) (fun bp=>rfl) rfl)
def ij:List PV→Option aI:=fun xs=>match xs with
 |[.ptr 0 0,aE 1 (.ptr 1 0) sc us pw hk hs hn hp port opq pn pl hq q hf fg bare sp rst,bG 0 bsc bus bpw bhk bhs bhn bhp bport bopq bpn bpl bhq bq bhf bfg]=>some ⟨rst.length≤300000,.tup [.tup [],aE 1 (.ptr 1 0) sc us pw hk hs hn hp port opq pn pl hq q (ei rst hf) (ej rst fg) bare sp (en rst),bG 0 bsc bus bpw bhk bhs bhn bhp bport bopq bpn bpl bhq bq bhf bfg]⟩
 |_=>none
theorem n4:∀xs c,ij xs=some c→ag Tryz.prog aA 92 xs c:=fun xs c h=>by
 unfold ij at h
 split at h
 ·injection h with h;subst h;exact vH _ _ _ _ _ _ _ _ _ _ _ _ _ _ _ _ _ _ _ _ _ _ _ _ _ _ _ _ _ _ _ _ _
 ·cases h
end
section
def ya:cq:=bR []
def yb(sc us pw:Bs)(hk:Int)(hs:Bs)(hn:Int)(hp:List Int)(port:Int)(opq pn:Bool)(pl:List Bs)(hq:Bool)(q:Bs)(hf:Bool)(fg:Bs)(bare sp:Bool)(rst:Bs)(bsc bus bpw:Bs)(bhk:Int)(bhs:Bs)(bhn:Int)(bhp:List Int)(bport:Int)(bopq bpn:Bool)(bpl:List Bs)(bhq:Bool)(bq:Bs)(bhf:Bool)(bfg:Bs):ba:=fun i=>none
theorem yc:cS Tryz.prog aA ya:=ax
theorem DX(sc us pw:Bs)(hk:Int)(hs:Bs)(hn:Int)(hp:List Int)(port:Int)(opq pn:Bool)(pl:List Bs)(hq:Bool)(q:Bs)(hf:Bool)(fg:Bs)(bare sp:Bool)(rst:Bs)(bsc bus bpw:Bs)(bhk:Int)(bhs:Bs)(bhn:Int)(bhp:List Int)(bport:Int)(bopq bpn:Bool)(bpl:List Bs)(bhq:Bool)(bq:Bs)(bhf:Bool)(bfg:Bs)(k:PV→List PV→Prop):bQ Tryz.prog ya aA (yb sc us pw hk hs hn hp port opq pn pl hq q hf fg bare sp rst bsc bus bpw bhk bhs bhn bhp bport bopq bpn bpl bhq bq bhf bfg) 1000 Tryz.f77 [.ptr 0 0] [aE 1 (.ptr 1 0) sc us pw hk hs hn hp port opq pn pl hq q hf fg bare sp rst,bG 0 bsc bus bpw bhk bhs bhn bhp bport bopq bpn bpl bhq bq bhf bfg] k=(
 k (PV.bool (decide (bsc=sc))) [bV (PV.ptr (1:Nat) (0:Nat)) 1 sc us pw hk hs hn hp port opq pn pl hq q hf fg bare sp rst,bG (0:Nat) bsc bus bpw bhk bhs bhn bhp bport bopq bpn bpl bhq bq bhf bfg]):=by kernel_rfl
attribute [local irreducible] Go.Vc.cD Go.Vc.bQ
theorem yd(sc us pw:Bs)(hk:Int)(hs:Bs)(hn:Int)(hp:List Int)(port:Int)(opq pn:Bool)(pl:List Bs)(hq:Bool)(q:Bs)(hf:Bool)(fg:Bs)(bare sp:Bool)(rst:Bs)(bsc bus bpw:Bs)(bhk:Int)(bhs:Bs)(bhn:Int)(bhp:List Int)(bport:Int)(bopq bpn:Bool)(bpl:List Bs)(bhq:Bool)(bq:Bs)(bhf:Bool)(bfg:Bs):br Tryz.prog aA 77 [.ptr 0 0] [aE 1 (.ptr 1 0) sc us pw hk hs hn hp port opq pn pl hq q hf fg bare sp rst,bG 0 bsc bus bpw bhk bhs bhn bhp bport bopq bpn bpl bhq bq bhf bfg] (True) (.bool (decide (bsc=sc))) [aE 1 (.ptr 1 0) sc us pw hk hs hn hp port opq pn pl hq q hf fg bare sp rst,bG 0 bsc bus bpw bhk bhs bhn bhp bport bopq bpn bpl bhq bq bhf bfg]:=bH (by kernel_rfl) yc (H:=yb sc us pw hk hs hn hp port opq pn pl hq q hf fg bare sp rst bsc bus bpw bhk bhs bhn bhp bport bopq bpn bpl bhq bq bhf bfg) (fuel:=1000) Tryz.func77 (by kernel_rfl) (Nat.le_of_ble_eq_true rfl) fun hpre=>(DX sc us pw hk hs hn hp port opq pn pl hq q hf fg bare sp rst bsc bus bpw bhk bhs bhn bhp bport bopq bpn bpl bhq bq bhf bfg _).mpr (by
 exact ⟨rfl,rfl⟩)
theorem DY(sc us pw:Bs)(hk:Int)(hs:Bs)(hn:Int)(hp:List Int)(port:Int)(opq pn:Bool)(pl:List Bs)(hq:Bool)(q:Bs)(hf:Bool)(fg:Bs)(bare sp:Bool)(rst:Bs)(bsc bus bpw:Bs)(bhk:Int)(bhs:Bs)(bhn:Int)(bhp:List Int)(bport:Int)(bopq bpn:Bool)(bpl:List Bs)(bhq:Bool)(bq:Bs)(bhf:Bool)(bfg:Bs):ag Tryz.prog aA 77 [.ptr 0 0,aE 1 (.ptr 1 0) sc us pw hk hs hn hp port opq pn pl hq q hf fg bare sp rst,bG 0 bsc bus bpw bhk bhs bhn bhp bport bopq bpn bpl bhq bq bhf bfg] ⟨True,.tup [.bool (decide (bsc=sc)),aE 1 (.ptr 1 0) sc us pw hk hs hn hp port opq pn pl hq q hf fg bare sp rst,bG 0 bsc bus bpw bhk bhs bhn bhp bport bopq bpn bpl bhq bq bhf bfg]⟩:=ag.bd (fun h=>by have e:List.isEmpty (PV.aB PV.bD [.ptr 0 0,aE 1 (.ptr 1 0) sc us pw hk hs hn hp port opq pn pl hq q hf fg bare sp rst,bG 0 bsc bus bpw bhk bhs bhn bhp bport bopq bpn bpl bhq bq bhf bfg])=false:=(by kernel_rfl);exact Bool.noConfusion (e.symm.trans (congrArg List.isEmpty h))) (yd sc us pw hk hs hn hp port opq pn pl hq q hf fg bare sp rst bsc bus bpw bhk bhs bhn bhp bport bopq bpn bpl bhq bq bhf bfg)
end
section
def mM:cq:=bR []
def mN(sc us pw:Bs)(hk:Int)(hs:Bs)(hn:Int)(hp:List Int)(port:Int)(opq pn:Bool)(pl:List Bs)(hq:Bool)(q:Bs)(hf:Bool)(fg:Bs)(bare sp:Bool)(rst:Bs)(bsc bus bpw:Bs)(bhk:Int)(bhs:Bs)(bhn:Int)(bhp:List Int)(bport:Int)(bopq bpn:Bool)(bpl:List Bs)(bhq:Bool)(bq:Bs)(bhf:Bool)(bfg:Bs):ba:=fun i=>none
theorem o9:cS Tryz.prog aA mM:=ax
theorem sr(sc us pw:Bs)(hk:Int)(hs:Bs)(hn:Int)(hp:List Int)(port:Int)(opq pn:Bool)(pl:List Bs)(hq:Bool)(q:Bs)(hf:Bool)(fg:Bs)(bare sp:Bool)(rst:Bs)(bsc bus bpw:Bs)(bhk:Int)(bhs:Bs)(bhn:Int)(bhp:List Int)(bport:Int)(bopq bpn:Bool)(bpl:List Bs)(bhq:Bool)(bq:Bs)(bhf:Bool)(bfg:Bs)(k:PV→List PV→Prop):bQ Tryz.prog mM aA (mN sc us pw hk hs hn hp port opq pn pl hq q hf fg bare sp rst bsc bus bpw bhk bhs bhn bhp bport bopq bpn bpl bhq bq bhf bfg) 1000 Tryz.f120 [.ptr 0 0] [aE 1 (.ptr 1 0) sc us pw hk hs hn hp port opq pn pl hq q hf fg bare sp rst,bG 0 bsc bus bpw bhk bhs bhn bhp bport bopq bpn bpl bhq bq bhf bfg] k=(
 k (PV.tup []) [bV (PV.ptr (1:Nat) (0:Nat)) 1 sc us pw hk hs hn hp port opq pn pl bhq bq hf fg bare sp rst,bG (0:Nat) bsc bus bpw bhk bhs bhn bhp bport bopq bpn bpl bhq bq bhf bfg]):=by kernel_rfl
attribute [local irreducible] Go.Vc.cD Go.Vc.bQ
theorem pb(sc us pw:Bs)(hk:Int)(hs:Bs)(hn:Int)(hp:List Int)(port:Int)(opq pn:Bool)(pl:List Bs)(hq:Bool)(q:Bs)(hf:Bool)(fg:Bs)(bare sp:Bool)(rst:Bs)(bsc bus bpw:Bs)(bhk:Int)(bhs:Bs)(bhn:Int)(bhp:List Int)(bport:Int)(bopq bpn:Bool)(bpl:List Bs)(bhq:Bool)(bq:Bs)(bhf:Bool)(bfg:Bs):br Tryz.prog aA 120 [.ptr 0 0] [aE 1 (.ptr 1 0) sc us pw hk hs hn hp port opq pn pl hq q hf fg bare sp rst,bG 0 bsc bus bpw bhk bhs bhn bhp bport bopq bpn bpl bhq bq bhf bfg] (True) (.tup []) [aE 1 (.ptr 1 0) sc us pw hk hs hn hp port opq pn pl bhq bq hf fg bare sp rst,bG 0 bsc bus bpw bhk bhs bhn bhp bport bopq bpn bpl bhq bq bhf bfg]:=bH (by kernel_rfl) o9 (H:=mN sc us pw hk hs hn hp port opq pn pl hq q hf fg bare sp rst bsc bus bpw bhk bhs bhn bhp bport bopq bpn bpl bhq bq bhf bfg) (fuel:=1000) Tryz.func120 (by kernel_rfl) (Nat.le_of_ble_eq_true rfl) fun hpre=>(sr sc us pw hk hs hn hp port opq pn pl hq q hf fg bare sp rst bsc bus bpw bhk bhs bhn bhp bport bopq bpn bpl bhq bq bhf bfg _).mpr (by
 exact ⟨rfl,rfl⟩)
theorem ss(sc us pw:Bs)(hk:Int)(hs:Bs)(hn:Int)(hp:List Int)(port:Int)(opq pn:Bool)(pl:List Bs)(hq:Bool)(q:Bs)(hf:Bool)(fg:Bs)(bare sp:Bool)(rst:Bs)(bsc bus bpw:Bs)(bhk:Int)(bhs:Bs)(bhn:Int)(bhp:List Int)(bport:Int)(bopq bpn:Bool)(bpl:List Bs)(bhq:Bool)(bq:Bs)(bhf:Bool)(bfg:Bs):ag Tryz.prog aA 120 [.ptr 0 0,aE 1 (.ptr 1 0) sc us pw hk hs hn hp port opq pn pl hq q hf fg bare sp rst,bG 0 bsc bus bpw bhk bhs bhn bhp bport bopq bpn bpl bhq bq bhf bfg] ⟨True,.tup [.tup [],aE 1 (.ptr 1 0) sc us pw hk hs hn hp port opq pn pl bhq bq hf fg bare sp rst,bG 0 bsc bus bpw bhk bhs bhn bhp bport bopq bpn bpl bhq bq bhf bfg]⟩:=ag.bd (fun h=>by have e:List.isEmpty (PV.aB PV.bD [.ptr 0 0,aE 1 (.ptr 1 0) sc us pw hk hs hn hp port opq pn pl hq q hf fg bare sp rst,bG 0 bsc bus bpw bhk bhs bhn bhp bport bopq bpn bpl bhq bq bhf bfg])=false:=(by kernel_rfl);exact Bool.noConfusion (e.symm.trans (congrArg List.isEmpty h))) (pb sc us pw hk hs hn hp port opq pn pl hq q hf fg bare sp rst bsc bus bpw bhk bhs bhn bhp bport bopq bpn bpl bhq bq bhf bfg)
def gJ:List PV→Option aI:=fun xs=>match xs with
 |[.ptr 0 0,aE 1 (.ptr 1 0) sc us pw hk hs hn hp port opq pn pl hq q hf fg bare sp rst,bG 0 bsc bus bpw bhk bhs bhn bhp bport bopq bpn bpl bhq bq bhf bfg]=>some ⟨True,.tup [.tup [],aE 1 (.ptr 1 0) sc us pw hk hs hn hp port opq pn pl bhq bq hf fg bare sp rst,bG 0 bsc bus bpw bhk bhs bhn bhp bport bopq bpn bpl bhq bq bhf bfg]⟩
 |_=>none
theorem mO:∀xs c,gJ xs=some c→ag Tryz.prog aA 120 xs c:=fun xs c h=>by
 unfold gJ at h
 split at h
 ·injection h with h;subst h;exact ss _ _ _ _ _ _ _ _ _ _ _ _ _ _ _ _ _ _ _ _ _ _ _ _ _ _ _ _ _ _ _ _ _
 ·cases h
end
section
def ye:cq:=bR [(120,gJ),(89,j4)]
def yf(sc us pw:Bs)(hk:Int)(hs:Bs)(hn:Int)(hp:List Int)(port:Int)(opq pn:Bool)(pl:List Bs)(hq:Bool)(q:Bs)(hf:Bool)(fg:Bs)(bare sp:Bool)(rst:Bs)(bsc bus bpw:Bs)(bhk:Int)(bhs:Bs)(bhn:Int)(bhp:List Int)(bport:Int)(bopq bpn:Bool)(bpl:List Bs)(bhq:Bool)(bq:Bs)(bhf:Bool)(bfg:Bs):ba:=fun i=>none
theorem yg:cS Tryz.prog aA ye:=ai mO (ai rz (ax))
theorem DZ(sc us pw:Bs)(hk:Int)(hs:Bs)(hn:Int)(hp:List Int)(port:Int)(opq pn:Bool)(pl:List Bs)(hq:Bool)(q:Bs)(hf:Bool)(fg:Bs)(bare sp:Bool)(rst:Bs)(bsc bus bpw:Bs)(bhk:Int)(bhs:Bs)(bhn:Int)(bhp:List Int)(bport:Int)(bopq bpn:Bool)(bpl:List Bs)(bhq:Bool)(bq:Bs)(bhf:Bool)(bfg:Bs)(k:PV→List PV→Prop):bQ Tryz.prog ye aA (yf sc us pw hk hs hn hp port opq pn pl hq q hf fg bare sp rst bsc bus bpw bhk bhs bhn bhp bport bopq bpn bpl bhq bq bhf bfg) 1000 Tryz.f86 [.ptr 0 0] [aE 1 (.ptr 1 0) sc us pw hk hs hn hp port opq pn pl hq q hf fg bare sp rst,bG 0 bsc bus bpw bhk bhs bhn bhp bport bopq bpn bpl bhq bq bhf bfg] k=(
 (decide (rst=(ByteArray.mk #[]).data.toList)=false→
 within (0:Int) (al rst))∧
 ((bif decide (rst=(ByteArray.mk #[]).data.toList)then true else decide (ak rst (0:Int)=(35:Int)))=true→
 True∧
 True∧
 k (PV.bool (bT rst)) [bV (PV.ptr (1:Nat) (0:Nat)) 1 sc us pw hk hs hn hp port opq pn pl bhq bq hf fg bare sp rst,bG (0:Nat) bsc bus bpw bhk bhs bhn bhp bport bopq bpn bpl bhq bq bhf bfg])∧
 ((bif decide (rst=(ByteArray.mk #[]).data.toList)then true else decide (ak rst (0:Int)=(35:Int)))=false→
 True∧
 k (PV.bool (bT rst)) [bV (PV.ptr (1:Nat) (0:Nat)) 1 sc us pw hk hs hn hp port opq pn pl hq q hf fg bare sp rst,bG (0:Nat) bsc bus bpw bhk bhs bhn bhp bport bopq bpn bpl bhq bq bhf bfg])):=by kernel_rfl
attribute [local irreducible] Go.Vc.cD Go.Vc.bQ
theorem yh(sc us pw:Bs)(hk:Int)(hs:Bs)(hn:Int)(hp:List Int)(port:Int)(opq pn:Bool)(pl:List Bs)(hq:Bool)(q:Bs)(hf:Bool)(fg:Bs)(bare sp:Bool)(rst:Bs)(bsc bus bpw:Bs)(bhk:Int)(bhs:Bs)(bhn:Int)(bhp:List Int)(bport:Int)(bopq bpn:Bool)(bpl:List Bs)(bhq:Bool)(bq:Bs)(bhf:Bool)(bfg:Bs):br Tryz.prog aA 86 [.ptr 0 0] [aE 1 (.ptr 1 0) sc us pw hk hs hn hp port opq pn pl hq q hf fg bare sp rst,bG 0 bsc bus bpw bhk bhs bhn bhp bport bopq bpn bpl bhq bq bhf bfg] (True) (.bool (bT rst)) [aE 1 (.ptr 1 0) sc us pw hk hs hn hp port opq pn pl (((RS.mk sc us pw hk hs hn hp port opq pn pl hq q hf fg bare sp rst).qV (RS.mk bsc bus bpw bhk bhs bhn bhp bport bopq bpn bpl bhq bq bhf bfg false false [])).hq) (((RS.mk sc us pw hk hs hn hp port opq pn pl hq q hf fg bare sp rst).qV (RS.mk bsc bus bpw bhk bhs bhn bhp bport bopq bpn bpl bhq bq bhf bfg false false [])).q) hf fg bare sp rst,bG 0 bsc bus bpw bhk bhs bhn bhp bport bopq bpn bpl bhq bq bhf bfg]:=bH (by kernel_rfl) yg (H:=yf sc us pw hk hs hn hp port opq pn pl hq q hf fg bare sp rst bsc bus bpw bhk bhs bhn bhp bport bopq bpn bpl bhq bq bhf bfg) (fuel:=1000) Tryz.func86 (by kernel_rfl) (Nat.le_of_ble_eq_true rfl) fun hpre=>(DZ sc us pw hk hs hn hp port opq pn pl hq q hf fg bare sp rst bsc bus bpw bhk bhs bhn bhp bport bopq bpn bpl bhq bq bhf bfg _).mpr (by
 refine ⟨fun h=>?_,fun h=>⟨trivial,trivial,?_⟩,fun h=>⟨trivial,?_⟩⟩
 ·have:¬rst=[]:=of_decide_eq_false h
  have:0<rst.length:=List.length_pos_iff.2 this
  unfold within al;omega
 ·have h2:tO rst=true:=by
   unfold tO
   cases e:decide (rst=(ByteArray.mk #[]).data.toList)with
   |true=>rfl
   |false=>rw [e]at h;exact h
  have e:(RS.mk sc us pw hk hs hn hp port opq pn pl hq q hf fg bare sp rst).qV (RS.mk bsc bus bpw bhk bhs bhn bhp bport bopq bpn bpl bhq bq bhf bfg false false [])=(RS.mk sc us pw hk hs hn hp port opq pn pl hq q hf fg bare sp rst).Ge (RS.mk bsc bus bpw bhk bhs bhn bhp bport bopq bpn bpl bhq bq bhf bfg false false []):=if_pos h2
  rw [e];exact ⟨rfl,rfl⟩
 ·have h2:¬tO rst=true:=by
   unfold tO
   cases e:decide (rst=(ByteArray.mk #[]).data.toList)with
   |true=>rw [e]at h;cases h
   |false=>
    rw [e]at h
    intro g;exact Bool.noConfusion (g.symm.trans h)
  have e:(RS.mk sc us pw hk hs hn hp port opq pn pl hq q hf fg bare sp rst).qV (RS.mk bsc bus bpw bhk bhs bhn bhp bport bopq bpn bpl bhq bq bhf bfg false false [])=(RS.mk sc us pw hk hs hn hp port opq pn pl hq q hf fg bare sp rst):=if_neg h2
  rw [e];exact ⟨rfl,rfl⟩)
theorem D3(sc us pw:Bs)(hk:Int)(hs:Bs)(hn:Int)(hp:List Int)(port:Int)(opq pn:Bool)(pl:List Bs)(hq:Bool)(q:Bs)(hf:Bool)(fg:Bs)(bare sp:Bool)(rst:Bs)(bsc bus bpw:Bs)(bhk:Int)(bhs:Bs)(bhn:Int)(bhp:List Int)(bport:Int)(bopq bpn:Bool)(bpl:List Bs)(bhq:Bool)(bq:Bs)(bhf:Bool)(bfg:Bs):ag Tryz.prog aA 86 [.ptr 0 0,aE 1 (.ptr 1 0) sc us pw hk hs hn hp port opq pn pl hq q hf fg bare sp rst,bG 0 bsc bus bpw bhk bhs bhn bhp bport bopq bpn bpl bhq bq bhf bfg] ⟨True,.tup [.bool (bT rst),aE 1 (.ptr 1 0) sc us pw hk hs hn hp port opq pn pl (((RS.mk sc us pw hk hs hn hp port opq pn pl hq q hf fg bare sp rst).qV (RS.mk bsc bus bpw bhk bhs bhn bhp bport bopq bpn bpl bhq bq bhf bfg false false [])).hq) (((RS.mk sc us pw hk hs hn hp port opq pn pl hq q hf fg bare sp rst).qV (RS.mk bsc bus bpw bhk bhs bhn bhp bport bopq bpn bpl bhq bq bhf bfg false false [])).q) hf fg bare sp rst,bG 0 bsc bus bpw bhk bhs bhn bhp bport bopq bpn bpl bhq bq bhf bfg]⟩:=ag.bd (fun h=>by have e:List.isEmpty (PV.aB PV.bD [.ptr 0 0,aE 1 (.ptr 1 0) sc us pw hk hs hn hp port opq pn pl hq q hf fg bare sp rst,bG 0 bsc bus bpw bhk bhs bhn bhp bport bopq bpn bpl bhq bq bhf bfg])=false:=(by kernel_rfl);exact Bool.noConfusion (e.symm.trans (congrArg List.isEmpty h))) (yh sc us pw hk hs hn hp port opq pn pl hq q hf fg bare sp rst bsc bus bpw bhk bhs bhn bhp bport bopq bpn bpl bhq bq bhf bfg)
end
section
attribute [local instance] K7
theorem D4 {x:RS}(b:RS)(h:bT x.rst=false):x.qV b=x:=by
 refine if_neg fun g=>?_
 unfold bT at h
 unfold tO at g
 rw [Bool.or_eq_false_iff,Bool.or_eq_false_iff]at h
 rw [h.1,h.2.2]at g;cases g
theorem AE(sc us pw:Bs)(hk:Int)(hs:Bs)(hn:Int)(hp:List Int)(port:Int)(opq pn:Bool)(pl:List Bs)(hq:Bool)(q:Bs)(hf:Bool)(fg:Bs)(bare sp:Bool)(rst:Bs)(at_:Int)(bsc bus bpw:Bs)(bhk:Int)(bhs:Bs)(bhn:Int)(bhp:List Int)(bport:Int)(bopq bpn:Bool)(bpl:List Bs)(bhq:Bool)(bq:Bs)(bhf:Bool)(bfg:Bs):ag Tryz.prog aA 82 [.ptr 0 0,.int .i64 at_,aE 1 (.ptr 1 0) sc us pw hk hs hn hp port opq pn pl hq q hf fg bare sp rst,bG 0 bsc bus bpw bhk bhs bhn bhp bport bopq bpn bpl bhq bq bhf bfg] ⟨(0≤at_∧at_<1000)∧az sp rst at_=false,.tup [.bool false,aE 1 (.ptr 1 0) sc us pw hk hs hn hp port opq pn pl hq q hf fg bare sp rst,bG 0 bsc bus bpw bhk bhs bhn bhp bport bopq bpn bpl bhq bq bhf bfg]⟩:=
 ag.LM (DV sc us pw hk hs hn hp port opq pn pl hq q hf fg bare sp rst at_ bsc bus bpw bhk bhs bhn bhp bport bopq bpn bpl bhq bq bhf bfg) (fun h=>by have e:List.isEmpty (PV.aB PV.bD [.ptr 0 0,.int .i64 at_,aE 1 (.ptr 1 0) sc us pw hk hs hn hp port opq pn pl hq q hf fg bare sp rst,bG 0 bsc bus bpw bhk bhs bhn bhp bport bopq bpn bpl bhq bq bhf bfg])=false:=(by kernel_rfl);exact Bool.noConfusion (e.symm.trans (congrArg List.isEmpty h))) (fun h=>h.1) (fun h=>by rw [h.2])
def j5:List PV→Option aI:=fun xs=>match xs with
 |[.ptr 0 0,.int .i64 at_,aE 1 (.ptr 1 0) sc us pw hk hs hn hp port opq pn pl hq q hf fg bare sp rst,bG 0 bsc bus bpw bhk bhs bhn bhp bport bopq bpn bpl bhq bq bhf bfg]=>some ⟨(0≤at_∧at_<1000)∧az sp rst at_=false,.tup [.bool false,aE 1 (.ptr 1 0) sc us pw hk hs hn hp port opq pn pl hq q hf fg bare sp rst,bG 0 bsc bus bpw bhk bhs bhn bhp bport bopq bpn bpl bhq bq bhf bfg]⟩
 |_=>none
theorem rA:∀xs c,j5 xs=some c→ag Tryz.prog aA 82 xs c:=fun xs c h=>by
 unfold j5 at h
 split at h
 ·injection h with h;subst h;exact AE _ _ _ _ _ _ _ _ _ _ _ _ _ _ _ _ _ _ _ _ _ _ _ _ _ _ _ _ _ _ _ _ _ _
 ·cases h
theorem rB(sc us pw:Bs)(hk:Int)(hs:Bs)(hn:Int)(hp:List Int)(port:Int)(opq pn:Bool)(pl:List Bs)(hq:Bool)(q:Bs)(hf:Bool)(fg:Bs)(bare sp:Bool)(rst:Bs)(bsc bus bpw:Bs)(bhk:Int)(bhs:Bs)(bhn:Int)(bhp:List Int)(bport:Int)(bopq bpn:Bool)(bpl:List Bs)(bhq:Bool)(bq:Bs)(bhf:Bool)(bfg:Bs):ag Tryz.prog aA 84 [.ptr 0 0,aE 1 (.ptr 1 0) sc us pw hk hs hn hp port opq pn pl hq q hf fg bare sp rst,bG 0 bsc bus bpw bhk bhs bhn bhp bport bopq bpn bpl bhq bq bhf bfg] ⟨az sp rst 0=false,.tup [.bool false,aE 1 (.ptr 1 0) sc us pw hk hs hn hp port opq pn pl hq q hf fg bare sp rst,bG 0 bsc bus bpw bhk bhs bhn bhp bport bopq bpn bpl bhq bq bhf bfg]⟩:=
 ag.LM (so sc us pw hk hs hn hp port opq pn pl hq q hf fg bare sp rst bsc bus bpw bhk bhs bhn bhp bport bopq bpn bpl bhq bq bhf bfg) (fun h=>by have e:List.isEmpty (PV.aB PV.bD [.ptr 0 0,aE 1 (.ptr 1 0) sc us pw hk hs hn hp port opq pn pl hq q hf fg bare sp rst,bG 0 bsc bus bpw bhk bhs bhn bhp bport bopq bpn bpl bhq bq bhf bfg])=false:=(by kernel_rfl);exact Bool.noConfusion (e.symm.trans (congrArg List.isEmpty h))) (fun h=>trivial) (fun h=>by rw [h];rfl)
def gd:List PV→Option aI:=fun xs=>match xs with
 |[.ptr 0 0,aE 1 (.ptr 1 0) sc us pw hk hs hn hp port opq pn pl hq q hf fg bare sp rst,bG 0 bsc bus bpw bhk bhs bhn bhp bport bopq bpn bpl bhq bq bhf bfg]=>some ⟨az sp rst 0=false,.tup [.bool false,aE 1 (.ptr 1 0) sc us pw hk hs hn hp port opq pn pl hq q hf fg bare sp rst,bG 0 bsc bus bpw bhk bhs bhn bhp bport bopq bpn bpl bhq bq bhf bfg]⟩
 |_=>none
theorem lE:∀xs c,gd xs=some c→ag Tryz.prog aA 84 xs c:=fun xs c h=>by
 unfold gd at h
 split at h
 ·injection h with h;subst h;exact rB _ _ _ _ _ _ _ _ _ _ _ _ _ _ _ _ _ _ _ _ _ _ _ _ _ _ _ _ _ _ _ _ _
 ·cases h
theorem AF(sc us pw:Bs)(hk:Int)(hs:Bs)(hn:Int)(hp:List Int)(port:Int)(opq pn:Bool)(pl:List Bs)(hq:Bool)(q:Bs)(hf:Bool)(fg:Bs)(bare sp:Bool)(rst:Bs)(bsc bus bpw:Bs)(bhk:Int)(bhs:Bs)(bhn:Int)(bhp:List Int)(bport:Int)(bopq bpn:Bool)(bpl:List Bs)(bhq:Bool)(bq:Bs)(bhf:Bool)(bfg:Bs):ag Tryz.prog aA 77 [.ptr 0 0,aE 1 (.ptr 1 0) sc us pw hk hs hn hp port opq pn pl hq q hf fg bare sp rst,bG 0 bsc bus bpw bhk bhs bhn bhp bport bopq bpn bpl bhq bq bhf bfg] ⟨bsc=sc,.tup [.bool true,aE 1 (.ptr 1 0) sc us pw hk hs hn hp port opq pn pl hq q hf fg bare sp rst,bG 0 bsc bus bpw bhk bhs bhn bhp bport bopq bpn bpl bhq bq bhf bfg]⟩:=
 ag.LM (DY sc us pw hk hs hn hp port opq pn pl hq q hf fg bare sp rst bsc bus bpw bhk bhs bhn bhp bport bopq bpn bpl bhq bq bhf bfg) (fun h=>by have e:List.isEmpty (PV.aB PV.bD [.ptr 0 0,aE 1 (.ptr 1 0) sc us pw hk hs hn hp port opq pn pl hq q hf fg bare sp rst,bG 0 bsc bus bpw bhk bhs bhn bhp bport bopq bpn bpl bhq bq bhf bfg])=false:=(by kernel_rfl);exact Bool.noConfusion (e.symm.trans (congrArg List.isEmpty h))) (fun h=>trivial) (fun h=>by rw [decide_eq_true h])
def gX:List PV→Option aI:=fun xs=>match xs with
 |[.ptr 0 0,aE 1 (.ptr 1 0) sc us pw hk hs hn hp port opq pn pl hq q hf fg bare sp rst,bG 0 bsc bus bpw bhk bhs bhn bhp bport bopq bpn bpl bhq bq bhf bfg]=>some ⟨bsc=sc,.tup [.bool true,aE 1 (.ptr 1 0) sc us pw hk hs hn hp port opq pn pl hq q hf fg bare sp rst,bG 0 bsc bus bpw bhk bhs bhn bhp bport bopq bpn bpl bhq bq bhf bfg]⟩
 |_=>none
theorem j6:∀xs c,gX xs=some c→ag Tryz.prog aA 77 xs c:=fun xs c h=>by
 unfold gX at h
 split at h
 ·injection h with h;subst h;exact AF _ _ _ _ _ _ _ _ _ _ _ _ _ _ _ _ _ _ _ _ _ _ _ _ _ _ _ _ _ _ _ _ _
 ·cases h
theorem D5(sc us pw:Bs)(hk:Int)(hs:Bs)(hn:Int)(hp:List Int)(port:Int)(opq pn:Bool)(pl:List Bs)(hq:Bool)(q:Bs)(hf:Bool)(fg:Bs)(bare sp:Bool)(rst:Bs)(bsc bus bpw:Bs)(bhk:Int)(bhs:Bs)(bhn:Int)(bhp:List Int)(bport:Int)(bopq bpn:Bool)(bpl:List Bs)(bhq:Bool)(bq:Bs)(bhf:Bool)(bfg:Bs):ag Tryz.prog aA 86 [.ptr 0 0,aE 1 (.ptr 1 0) sc us pw hk hs hn hp port opq pn pl hq q hf fg bare sp rst,bG 0 bsc bus bpw bhk bhs bhn bhp bport bopq bpn bpl bhq bq bhf bfg] ⟨bT rst=false,.tup [.bool false,aE 1 (.ptr 1 0) sc us pw hk hs hn hp port opq pn pl hq q hf fg bare sp rst,bG 0 bsc bus bpw bhk bhs bhn bhp bport bopq bpn bpl bhq bq bhf bfg]⟩:=
 ag.LM (D3 sc us pw hk hs hn hp port opq pn pl hq q hf fg bare sp rst bsc bus bpw bhk bhs bhn bhp bport bopq bpn bpl bhq bq bhf bfg) (fun h=>by have e:List.isEmpty (PV.aB PV.bD [.ptr 0 0,aE 1 (.ptr 1 0) sc us pw hk hs hn hp port opq pn pl hq q hf fg bare sp rst,bG 0 bsc bus bpw bhk bhs bhn bhp bport bopq bpn bpl bhq bq bhf bfg])=false:=(by kernel_rfl);exact Bool.noConfusion (e.symm.trans (congrArg List.isEmpty h))) (fun h=>trivial) (fun h=>by rw [D4 (x:=(RS.mk sc us pw hk hs hn hp port opq pn pl hq q hf fg bare sp rst)) (RS.mk bsc bus bpw bhk bhs bhn bhp bport bopq bpn bpl bhq bq bhf bfg false false []) h,h])
def lF:List PV→Option aI:=fun xs=>match xs with
 |[.ptr 0 0,aE 1 (.ptr 1 0) sc us pw hk hs hn hp port opq pn pl hq q hf fg bare sp rst,bG 0 bsc bus bpw bhk bhs bhn bhp bport bopq bpn bpl bhq bq bhf bfg]=>some ⟨bT rst=false,.tup [.bool false,aE 1 (.ptr 1 0) sc us pw hk hs hn hp port opq pn pl hq q hf fg bare sp rst,bG 0 bsc bus bpw bhk bhs bhn bhp bport bopq bpn bpl bhq bq bhf bfg]⟩
 |_=>none
theorem su:∀xs c,lF xs=some c→ag Tryz.prog aA 86 xs c:=fun xs c h=>by
 unfold lF at h
 split at h
 ·injection h with h;subst h;exact D5 _ _ _ _ _ _ _ _ _ _ _ _ _ _ _ _ _ _ _ _ _ _ _ _ _ _ _ _ _ _ _ _ _
 ·cases h
end
section
def tZ:cq:=bR [(156,vk),(87,jn)]
def ua(sc us pw:Bs)(hk:Int)(hs:Bs)(hn:Int)(hp:List Int)(port:Int)(opq pn:Bool)(pl:List Bs)(hq:Bool)(q:Bs)(hf:Bool)(fg:Bs)(bare sp:Bool)(rst:Bs)(bsc bus bpw:Bs)(bhk:Int)(bhs:Bs)(bhn:Int)(bhp:List Int)(bport:Int)(bopq bpn:Bool)(bpl:List Bs)(bhq:Bool)(bq:Bs)(bhf:Bool)(bfg:Bs):ba:=fun i=>none
theorem vI:cS Tryz.prog aA tZ:=ai Ai (ai o8 (ax))
theorem AG(sc us pw:Bs)(hk:Int)(hs:Bs)(hn:Int)(hp:List Int)(port:Int)(opq pn:Bool)(pl:List Bs)(hq:Bool)(q:Bs)(hf:Bool)(fg:Bs)(bare sp:Bool)(rst:Bs)(bsc bus bpw:Bs)(bhk:Int)(bhs:Bs)(bhn:Int)(bhp:List Int)(bport:Int)(bopq bpn:Bool)(bpl:List Bs)(bhq:Bool)(bq:Bs)(bhf:Bool)(bfg:Bs)(k:PV→List PV→Prop):bQ Tryz.prog tZ aA (ua sc us pw hk hs hn hp port opq pn pl hq q hf fg bare sp rst bsc bus bpw bhk bhs bhn bhp bport bopq bpn bpl bhq bq bhf bfg) 1000 Tryz.f122 [.ptr 0 0] [aE 1 (.ptr 1 0) sc us pw hk hs hn hp port opq pn pl hq q hf fg bare sp rst,bG 0 bsc bus bpw bhk bhs bhn bhp bport bopq bpn bpl bhq bq bhf bfg] k=(
 (List.length rst).le (1000000:Nat)∧
 (bC rst=true→
 k (PV.tup []) [bV (PV.ptr (1:Nat) (0:Nat)) 0 sc us pw hk hs hn hp port opq true ([]) hq q hf fg bare sp rst,bG (0:Nat) bsc bus bpw bhk bhs bhn bhp bport bopq bpn bpl bhq bq bhf bfg])∧
 (bC rst=false→
 pl.length.le (1000000:Nat)∧
 k (PV.tup []) [bV (PV.ptr (1:Nat) (0:Nat)) 1 sc us pw hk hs hn hp port opq ((b6 sc (pn,pl)).1) ((b6 sc (pn,pl)).2) hq q hf fg bare sp rst,bG (0:Nat) bsc bus bpw bhk bhs bhn bhp bport bopq bpn bpl bhq bq bhf bfg])):=by kernel_rfl
attribute [local irreducible] Go.Vc.cD Go.Vc.bQ
theorem vJ(sc us pw:Bs)(hk:Int)(hs:Bs)(hn:Int)(hp:List Int)(port:Int)(opq pn:Bool)(pl:List Bs)(hq:Bool)(q:Bs)(hf:Bool)(fg:Bs)(bare sp:Bool)(rst:Bs)(bsc bus bpw:Bs)(bhk:Int)(bhs:Bs)(bhn:Int)(bhp:List Int)(bport:Int)(bopq bpn:Bool)(bpl:List Bs)(bhq:Bool)(bq:Bs)(bhf:Bool)(bfg:Bs):br Tryz.prog aA 122 [.ptr 0 0] [aE 1 (.ptr 1 0) sc us pw hk hs hn hp port opq pn pl hq q hf fg bare sp rst,bG 0 bsc bus bpw bhk bhs bhn bhp bport bopq bpn bpl bhq bq bhf bfg] (rst.length≤300000∧pl.length≤1000000∧bC rst=false) (.tup []) [aE 1 (.ptr 1 0) sc us pw hk hs hn hp port opq (((RS.mk sc us pw hk hs hn hp port opq pn pl hq q hf fg bare sp rst).short).pn) (((RS.mk sc us pw hk hs hn hp port opq pn pl hq q hf fg bare sp rst).short).pl) hq q hf fg bare sp rst,bG 0 bsc bus bpw bhk bhs bhn bhp bport bopq bpn bpl bhq bq bhf bfg]:=bH (by kernel_rfl) vI (H:=ua sc us pw hk hs hn hp port opq pn pl hq q hf fg bare sp rst bsc bus bpw bhk bhs bhn bhp bport bopq bpn bpl bhq bq bhf bfg) (fuel:=1000) Tryz.func122 (by kernel_rfl) (Nat.le_of_ble_eq_true rfl) fun hpre=>(AG sc us pw hk hs hn hp port opq pn pl hq q hf fg bare sp rst bsc bus bpw bhk bhs bhn bhp bport bopq bpn bpl bhq bq bhf bfg _).mpr (by
 obtain ⟨h1,h2,h3⟩:=hpre
 exact ⟨show rst.length≤1000000 by omega,fun h=>absurd (h.symm.trans h3) nofun,fun _=>⟨h2,rfl,rfl⟩⟩)
theorem AH(sc us pw:Bs)(hk:Int)(hs:Bs)(hn:Int)(hp:List Int)(port:Int)(opq pn:Bool)(pl:List Bs)(hq:Bool)(q:Bs)(hf:Bool)(fg:Bs)(bare sp:Bool)(rst:Bs)(bsc bus bpw:Bs)(bhk:Int)(bhs:Bs)(bhn:Int)(bhp:List Int)(bport:Int)(bopq bpn:Bool)(bpl:List Bs)(bhq:Bool)(bq:Bs)(bhf:Bool)(bfg:Bs):ag Tryz.prog aA 122 [.ptr 0 0,aE 1 (.ptr 1 0) sc us pw hk hs hn hp port opq pn pl hq q hf fg bare sp rst,bG 0 bsc bus bpw bhk bhs bhn bhp bport bopq bpn bpl bhq bq bhf bfg] ⟨rst.length≤300000∧pl.length≤1000000∧bC rst=false,.tup [.tup [],aE 1 (.ptr 1 0) sc us pw hk hs hn hp port opq (((RS.mk sc us pw hk hs hn hp port opq pn pl hq q hf fg bare sp rst).short).pn) (((RS.mk sc us pw hk hs hn hp port opq pn pl hq q hf fg bare sp rst).short).pl) hq q hf fg bare sp rst,bG 0 bsc bus bpw bhk bhs bhn bhp bport bopq bpn bpl bhq bq bhf bfg]⟩:=ag.bd (fun h=>by have e:List.isEmpty (PV.aB PV.bD [.ptr 0 0,aE 1 (.ptr 1 0) sc us pw hk hs hn hp port opq pn pl hq q hf fg bare sp rst,bG 0 bsc bus bpw bhk bhs bhn bhp bport bopq bpn bpl bhq bq bhf bfg])=false:=(by kernel_rfl);exact Bool.noConfusion (e.symm.trans (congrArg List.isEmpty h))) (vJ sc us pw hk hs hn hp port opq pn pl hq q hf fg bare sp rst bsc bus bpw bhk bhs bhn bhp bport bopq bpn bpl bhq bq bhf bfg)
def j7:List PV→Option aI:=fun xs=>match xs with
 |[.ptr 0 0,aE 1 (.ptr 1 0) sc us pw hk hs hn hp port opq pn pl hq q hf fg bare sp rst,bG 0 bsc bus bpw bhk bhs bhn bhp bport bopq bpn bpl bhq bq bhf bfg]=>some ⟨rst.length≤300000∧pl.length≤1000000∧bC rst=false,.tup [.tup [],aE 1 (.ptr 1 0) sc us pw hk hs hn hp port opq (((RS.mk sc us pw hk hs hn hp port opq pn pl hq q hf fg bare sp rst).short).pn) (((RS.mk sc us pw hk hs hn hp port opq pn pl hq q hf fg bare sp rst).short).pl) hq q hf fg bare sp rst,bG 0 bsc bus bpw bhk bhs bhn bhp bport bopq bpn bpl bhq bq bhf bfg]⟩
 |_=>none
theorem rC:∀xs c,j7 xs=some c→ag Tryz.prog aA 122 xs c:=fun xs c h=>by
 unfold j7 at h
 split at h
 ·injection h with h;subst h;exact AH _ _ _ _ _ _ _ _ _ _ _ _ _ _ _ _ _ _ _ _ _ _ _ _ _ _ _ _ _ _ _ _ _
 ·cases h
end
section
def ub:cq:=bR [(119,qU),(27,dQ)]
def uc(sc us pw:Bs)(hk:Int)(hs:Bs)(hn:Int)(hp:List Int)(port:Int)(opq pn:Bool)(pl:List Bs)(hq:Bool)(q:Bs)(hf:Bool)(fg:Bs)(bare sp:Bool)(rst:Bs):ba:=fun i=>none
theorem vK:cS Tryz.prog aA ub:=ai xN (ai dR (ax))
theorem AI(sc us pw:Bs)(hk:Int)(hs:Bs)(hn:Int)(hp:List Int)(port:Int)(opq pn:Bool)(pl:List Bs)(hq:Bool)(q:Bs)(hf:Bool)(fg:Bs)(bare sp:Bool)(rst:Bs)(k:PV→List PV→Prop):bQ Tryz.prog ub aA (uc sc us pw hk hs hn hp port opq pn pl hq q hf fg bare sp rst) 1000 Tryz.f75 [.ptr 0 0] [aE 1 (.raw (.pointer none)) sc us pw hk hs hn hp port opq pn pl hq q hf fg bare sp rst] k=(
 (List.length rst≤(300000:Nat)∧
 (ab rst rst (0:Nat)).2.2=true)∧
 (true=true→
 True∧
 ((!true)=true→
 False)∧
 ((!true)=true→
 False)∧
 ((!true)=true→
 False)∧
 (false=true→
 False)∧
 (false=false→
 k (PV.int .i64 (0:Int)) [bV (PV.raw (Go.Value.pointer none)) 1 ((ab rst rst (0:Nat)).1) us pw hk hs hn hp port opq pn pl hq q hf fg (!true) (ay (ab rst rst (0:Nat)).1) ((ab rst rst (0:Nat)).2.1)]))∧
 (true=false→
 (true=true→
 (true=true→
 k (PV.int .i64 (8:Int)) [bV (PV.raw (Go.Value.pointer none)) 1 sc us pw hk hs hn hp port opq pn pl hq q hf fg bare sp rst])∧
 (true=false→
 False))∧
 (true=false→
 False))):=by kernel_rfl
attribute [local irreducible] Go.Vc.cD Go.Vc.bQ
theorem vL(sc us pw:Bs)(hk:Int)(hs:Bs)(hn:Int)(hp:List Int)(port:Int)(opq pn:Bool)(pl:List Bs)(hq:Bool)(q:Bs)(hf:Bool)(fg:Bs)(bare sp:Bool)(rst:Bs):br Tryz.prog aA 75 [.ptr 0 0] [aE 1 (.raw (.pointer none)) sc us pw hk hs hn hp port opq pn pl hq q hf fg bare sp rst] (rst.length≤300000∧(ab rst rst 0).2.2=true) (.int .i64 0) [aE 1 (.raw (.pointer none)) ((ab rst rst 0).1) us pw hk hs hn hp port opq pn pl hq q hf fg false (ay (ab rst rst 0).1) ((ab rst rst 0).2.1)]:=bH (by kernel_rfl) vK (H:=uc sc us pw hk hs hn hp port opq pn pl hq q hf fg bare sp rst) (fuel:=1000) Tryz.func75 (by kernel_rfl) (Nat.le_of_ble_eq_true rfl) fun hpre=>(AI sc us pw hk hs hn hp port opq pn pl hq q hf fg bare sp rst _).mpr (by
 exact ⟨hpre,fun _=>⟨trivial,fun h=>(by cases h),fun h=>(by cases h),fun h=>(by cases h),fun h=>(by cases h),fun _=>⟨rfl,rfl⟩⟩,fun h=>(by cases h)⟩)
theorem AJ(sc us pw:Bs)(hk:Int)(hs:Bs)(hn:Int)(hp:List Int)(port:Int)(opq pn:Bool)(pl:List Bs)(hq:Bool)(q:Bs)(hf:Bool)(fg:Bs)(bare sp:Bool)(rst:Bs):ag Tryz.prog aA 75 [.ptr 0 0,aE 1 (.raw (.pointer none)) sc us pw hk hs hn hp port opq pn pl hq q hf fg bare sp rst] ⟨rst.length≤300000∧(ab rst rst 0).2.2=true,.tup [.int .i64 0,aE 1 (.raw (.pointer none)) ((ab rst rst 0).1) us pw hk hs hn hp port opq pn pl hq q hf fg false (ay (ab rst rst 0).1) ((ab rst rst 0).2.1)]⟩:=ag.bd (fun h=>by have e:List.isEmpty (PV.aB PV.bD [.ptr 0 0,aE 1 (.raw (.pointer none)) sc us pw hk hs hn hp port opq pn pl hq q hf fg bare sp rst])=false:=(by kernel_rfl);exact Bool.noConfusion (e.symm.trans (congrArg List.isEmpty h))) (vL sc us pw hk hs hn hp port opq pn pl hq q hf fg bare sp rst)
def j8:List PV→Option aI:=fun xs=>match xs with
 |[.ptr 0 0,aE 1 (.raw (.pointer none)) sc us pw hk hs hn hp port opq pn pl hq q hf fg bare sp rst]=>some ⟨rst.length≤300000∧(ab rst rst 0).2.2=true,.tup [.int .i64 0,aE 1 (.raw (.pointer none)) ((ab rst rst 0).1) us pw hk hs hn hp port opq pn pl hq q hf fg false (ay (ab rst rst 0).1) ((ab rst rst 0).2.1)]⟩
 |_=>none
theorem rD:∀xs c,j8 xs=some c→ag Tryz.prog aA 75 xs c:=fun xs c h=>by
 unfold j8 at h
 split at h
 ·injection h with h;subst h;exact AJ _ _ _ _ _ _ _ _ _ _ _ _ _ _ _ _ _ _
 ·cases h
end
section
def B8:cq:=bR []
def B9(sc us pw:Bs)(hk:Int)(hs:Bs)(hn:Int)(hp:List Int)(port:Int)(opq pn:Bool)(pl:List Bs)(hq:Bool)(q:Bs)(hf:Bool)(fg:Bs)(bare sp:Bool)(rst:Bs):ba:=fun i=>none
theorem AK:cS Tryz.prog aA B8:=ax
theorem GS(sc us pw:Bs)(hk:Int)(hs:Bs)(hn:Int)(hp:List Int)(port:Int)(opq pn:Bool)(pl:List Bs)(hq:Bool)(q:Bs)(hf:Bool)(fg:Bs)(bare sp:Bool)(rst:Bs)(k:PV→List PV→Prop):bQ Tryz.prog B8 aA (B9 sc us pw hk hs hn hp port opq pn pl hq q hf fg bare sp rst) 1000 Tryz.f77 [.ptr 0 0] [aE 1 (.raw (.pointer none)) sc us pw hk hs hn hp port opq pn pl hq q hf fg bare sp rst] k=(
 (false=true→
 False)∧
 (false=true→
 False)∧
 (false=true→
 False)∧
 (false=true→
 False)∧
 k (PV.bool false) [bV (PV.raw (Go.Value.pointer none)) 1 sc us pw hk hs hn hp port opq pn pl hq q hf fg bare sp rst]):=by kernel_rfl
attribute [local irreducible] Go.Vc.cD Go.Vc.bQ
theorem AL(sc us pw:Bs)(hk:Int)(hs:Bs)(hn:Int)(hp:List Int)(port:Int)(opq pn:Bool)(pl:List Bs)(hq:Bool)(q:Bs)(hf:Bool)(fg:Bs)(bare sp:Bool)(rst:Bs):br Tryz.prog aA 77 [.ptr 0 0] [aE 1 (.raw (.pointer none)) sc us pw hk hs hn hp port opq pn pl hq q hf fg bare sp rst] (True) (.bool false) [aE 1 (.raw (.pointer none)) sc us pw hk hs hn hp port opq pn pl hq q hf fg bare sp rst]:=bH (by kernel_rfl) AK (H:=B9 sc us pw hk hs hn hp port opq pn pl hq q hf fg bare sp rst) (fuel:=1000) Tryz.func77 (by kernel_rfl) (Nat.le_of_ble_eq_true rfl) fun hpre=>(GS sc us pw hk hs hn hp port opq pn pl hq q hf fg bare sp rst _).mpr (by
 exact ⟨nofun,nofun,nofun,nofun,rfl,rfl⟩)
theorem GU(sc us pw:Bs)(hk:Int)(hs:Bs)(hn:Int)(hp:List Int)(port:Int)(opq pn:Bool)(pl:List Bs)(hq:Bool)(q:Bs)(hf:Bool)(fg:Bs)(bare sp:Bool)(rst:Bs):ag Tryz.prog aA 77 [.ptr 0 0,aE 1 (.raw (.pointer none)) sc us pw hk hs hn hp port opq pn pl hq q hf fg bare sp rst] ⟨True,.tup [.bool false,aE 1 (.raw (.pointer none)) sc us pw hk hs hn hp port opq pn pl hq q hf fg bare sp rst]⟩:=ag.bd (fun h=>by have e:List.isEmpty (PV.aB PV.bD [.ptr 0 0,aE 1 (.raw (.pointer none)) sc us pw hk hs hn hp port opq pn pl hq q hf fg bare sp rst])=false:=(by kernel_rfl);exact Bool.noConfusion (e.symm.trans (congrArg List.isEmpty h))) (AL sc us pw hk hs hn hp port opq pn pl hq q hf fg bare sp rst)
def gy:List PV→Option aI:=fun xs=>match xs with
 |[.ptr 0 0,aE 1 (.raw (.pointer none)) sc us pw hk hs hn hp port opq pn pl hq q hf fg bare sp rst]=>some ⟨True,.tup [.bool false,aE 1 (.raw (.pointer none)) sc us pw hk hs hn hp port opq pn pl hq q hf fg bare sp rst]⟩
 |_=>none
theorem gu:∀xs c,gy xs=some c→ag Tryz.prog aA 77 xs c:=fun xs c h=>by
 unfold gy at h
 split at h
 ·injection h with h;subst h;exact GU _ _ _ _ _ _ _ _ _ _ _ _ _ _ _ _ _ _
 ·cases h
end
section
def mP:cq:=bR [(77,gy)]
def mQ(sc us pw:Bs)(hk:Int)(hs:Bs)(hn:Int)(hp:List Int)(port:Int)(opq pn:Bool)(pl:List Bs)(hq:Bool)(q:Bs)(hf:Bool)(fg:Bs)(bare sp:Bool)(rst:Bs):ba:=fun i=>none
theorem pd:cS Tryz.prog aA mP:=ai gu (ax)
theorem sw(sc us pw:Bs)(hk:Int)(hs:Bs)(hn:Int)(hp:List Int)(port:Int)(opq pn:Bool)(pl:List Bs)(hq:Bool)(q:Bs)(hf:Bool)(fg:Bs)(bare sp:Bool)(rst:Bs)(k:PV→List PV→Prop):bQ Tryz.prog mP aA (mQ sc us pw hk hs hn hp port opq pn pl hq q hf fg bare sp rst) 1000 Tryz.f121 [.ptr 0 0] [aE 1 (.raw (.pointer none)) sc us pw hk hs hn hp port opq pn pl hq q hf fg bare sp rst] k=(
 True∧
 ((!false)=true→
 k (PV.tup []) [bV (PV.raw (Go.Value.pointer none)) 1 sc us pw hk hs hn hp port opq pn pl hq q hf fg bare sp rst])∧
 ((!false)=false→
 False)):=by kernel_rfl
attribute [local irreducible] Go.Vc.cD Go.Vc.bQ
theorem pg(sc us pw:Bs)(hk:Int)(hs:Bs)(hn:Int)(hp:List Int)(port:Int)(opq pn:Bool)(pl:List Bs)(hq:Bool)(q:Bs)(hf:Bool)(fg:Bs)(bare sp:Bool)(rst:Bs):br Tryz.prog aA 121 [.ptr 0 0] [aE 1 (.raw (.pointer none)) sc us pw hk hs hn hp port opq pn pl hq q hf fg bare sp rst] (True) (.tup []) [aE 1 (.raw (.pointer none)) sc us pw hk hs hn hp port opq pn pl hq q hf fg bare sp rst]:=bH (by kernel_rfl) pd (H:=mQ sc us pw hk hs hn hp port opq pn pl hq q hf fg bare sp rst) (fuel:=1000) Tryz.func121 (by kernel_rfl) (Nat.le_of_ble_eq_true rfl) fun hpre=>(sw sc us pw hk hs hn hp port opq pn pl hq q hf fg bare sp rst _).mpr (by
 exact ⟨trivial,fun _=>⟨rfl,rfl⟩,fun h=>(by cases h)⟩)
theorem sx(sc us pw:Bs)(hk:Int)(hs:Bs)(hn:Int)(hp:List Int)(port:Int)(opq pn:Bool)(pl:List Bs)(hq:Bool)(q:Bs)(hf:Bool)(fg:Bs)(bare sp:Bool)(rst:Bs):ag Tryz.prog aA 121 [.ptr 0 0,aE 1 (.raw (.pointer none)) sc us pw hk hs hn hp port opq pn pl hq q hf fg bare sp rst] ⟨True,.tup [.tup [],aE 1 (.raw (.pointer none)) sc us pw hk hs hn hp port opq pn pl hq q hf fg bare sp rst]⟩:=ag.bd (fun h=>by have e:List.isEmpty (PV.aB PV.bD [.ptr 0 0,aE 1 (.raw (.pointer none)) sc us pw hk hs hn hp port opq pn pl hq q hf fg bare sp rst])=false:=(by kernel_rfl);exact Bool.noConfusion (e.symm.trans (congrArg List.isEmpty h))) (pg sc us pw hk hs hn hp port opq pn pl hq q hf fg bare sp rst)
def gK:List PV→Option aI:=fun xs=>match xs with
 |[.ptr 0 0,aE 1 (.raw (.pointer none)) sc us pw hk hs hn hp port opq pn pl hq q hf fg bare sp rst]=>some ⟨True,.tup [.tup [],aE 1 (.raw (.pointer none)) sc us pw hk hs hn hp port opq pn pl hq q hf fg bare sp rst]⟩
 |_=>none
theorem mR:∀xs c,gK xs=some c→ag Tryz.prog aA 121 xs c:=fun xs c h=>by
 unfold gK at h
 split at h
 ·injection h with h;subst h;exact sx _ _ _ _ _ _ _ _ _ _ _ _ _ _ _ _ _ _
 ·cases h
end
section
theorem eC(r:RS):r.av.1={r with hk:=r.av.1.hk,hs:=r.av.1.hs,hn:=r.av.1.hn,hp:=r.av.1.hp,rst:=aa r.rst (ah r.sp r.rst)}:=by
 unfold RS.av
 dsimp only
 split
 ·rfl
 ·split<;>rfl
theorem mS(sp:Bool)(l:Bs):List.length (if az sp l (0:Int)=true then aa l (1:Int)else l)≤l.length:=by
 split
 ·exact cQ l 1
 ·exact Nat.le_refl _
def Ca:cq:=bR [(82,gx),(84,fE),(121,gK),(77,gy),(124,fU),(123,mI),(125,jl),(90,mK)]
def Cb(sc us pw:Bs)(hk:Int)(hs:Bs)(hn:Int)(hp:List Int)(port:Int)(opq pn:Bool)(pl:List Bs)(hq:Bool)(q:Bs)(hf:Bool)(fg:Bs)(bare sp:Bool)(rst:Bs):ba:=fun i=>none
theorem AM:cS Tryz.prog aA Ca:=ai gr (ai iP (ai mR (ai gu (ai gH (ai lA (ai o6 (ai oV (ax))))))))
theorem GV(sc us pw:Bs)(hk:Int)(hs:Bs)(hn:Int)(hp:List Int)(port:Int)(opq pn:Bool)(pl:List Bs)(hq:Bool)(q:Bs)(hf:Bool)(fg:Bs)(bare sp:Bool)(rst:Bs)(k:PV→List PV→Prop):bQ Tryz.prog Ca aA (Cb sc us pw hk hs hn hp port opq pn pl hq q hf fg bare sp rst) 1000 Tryz.f76 [.ptr 0 0] [aE 1 (.raw (.pointer none)) sc us pw hk hs hn hp port opq pn pl hq q hf fg bare sp rst] k=(
 ((0:Int)≤(0:Int)∧
 (0:Int)<(1000:Int))∧
 (az sp rst (0:Int)=true→
 ((0:Int)≤(1:Int)∧
 (1:Int)<(1000:Int))∧
 (az sp rst (1:Int)=true→
 upto (2:Int) (al rst) (al rst)∧
 ((aa rst (2:Int)).length.le (300000:Nat)∧
 upto (0:Int) (↑(ah sp (aa rst (2:Int)))) (al (aa rst (2:Int)))∧
 True∧
 (bS (ae (aa rst (2:Int)) ↑(ah sp (aa rst (2:Int))))=true→
 ((aa rst (2:Int)).length≤(300000:Nat)∧
 pl.length≤(100000:Nat))∧
 k (PV.int .i64 (0:Int)) [bV (PV.raw (Go.Value.pointer none)) 1 sc us pw (1:Int) hs hn hp port opq ((bt sp sc (ae (aa rst (2:Int)) ↑(aF (aa rst (2:Int)))) (pn,pl)).1) ((bt sp sc (ae (aa rst (2:Int)) ↑(aF (aa rst (2:Int)))) (pn,pl)).2) hq q hf fg bare sp (aa (aa rst (2:Int)) ↑(aF (aa rst (2:Int))))])∧
 (bS (ae (aa rst (2:Int)) ↑(ah sp (aa rst (2:Int))))=false→
 (aa rst (2:Int)).length.le (300000:Nat)∧
 ((!decide ((RS.mk sc us pw (1:Int) hs hn hp port opq pn pl hq q hf fg bare sp (aa rst (2:Int))).av.2=(0:Int)))=true→
 k (PV.int .i64 (RS.mk sc us pw (1:Int) hs hn hp port opq pn pl hq q hf fg bare sp (aa rst (2:Int))).av.2) [bV (PV.raw (Go.Value.pointer none)) 1 sc us pw ((RS.mk sc us pw (1:Int) hs hn hp port opq pn pl hq q hf fg bare sp (aa rst (2:Int))).av.1.hk) ((RS.mk sc us pw (1:Int) hs hn hp port opq pn pl hq q hf fg bare sp (aa rst (2:Int))).av.1.hs) ((RS.mk sc us pw (1:Int) hs hn hp port opq pn pl hq q hf fg bare sp (aa rst (2:Int))).av.1.hn) ((RS.mk sc us pw (1:Int) hs hn hp port opq pn pl hq q hf fg bare sp (aa rst (2:Int))).av.1.hp) port opq pn pl hq q hf fg bare sp (aa (aa rst (2:Int)) ↑(ah sp (aa rst (2:Int))))])∧
 ((!decide ((RS.mk sc us pw (1:Int) hs hn hp port opq pn pl hq q hf fg bare sp (aa rst (2:Int))).av.2=(0:Int)))=false→
 True∧
 (List.length (if az sp (aa (aa rst (2:Int)) ↑(ah sp (aa rst (2:Int)))) (0:Int)=true then aa (aa (aa rst (2:Int)) ↑(ah sp (aa rst (2:Int)))) (1:Int)else aa (aa rst (2:Int)) ↑(ah sp (aa rst (2:Int))))≤(300000:Nat)∧
 pl.length≤(100000:Nat))∧
 k (PV.int .i64 (0:Int)) [bV (PV.raw (Go.Value.pointer none)) 1 sc us pw ((RS.mk sc us pw (1:Int) hs hn hp port opq pn pl hq q hf fg bare sp (aa rst (2:Int))).av.1.hk) ((RS.mk sc us pw (1:Int) hs hn hp port opq pn pl hq q hf fg bare sp (aa rst (2:Int))).av.1.hs) ((RS.mk sc us pw (1:Int) hs hn hp port opq pn pl hq q hf fg bare sp (aa rst (2:Int))).av.1.hn) ((RS.mk sc us pw (1:Int) hs hn hp port opq pn pl hq q hf fg bare sp (aa rst (2:Int))).av.1.hp) port opq ((bt sp sc (ae (if az sp (aa (aa rst (2:Int)) ↑(ah sp (aa rst (2:Int)))) (0:Int)=true then aa (aa (aa rst (2:Int)) ↑(ah sp (aa rst (2:Int)))) (1:Int)else aa (aa rst (2:Int)) ↑(ah sp (aa rst (2:Int)))) ↑(aF (if az sp (aa (aa rst (2:Int)) ↑(ah sp (aa rst (2:Int)))) (0:Int)=true then aa (aa (aa rst (2:Int)) ↑(ah sp (aa rst (2:Int)))) (1:Int)else aa (aa rst (2:Int)) ↑(ah sp (aa rst (2:Int)))))) (pn,pl)).1) ((bt sp sc (ae (if az sp (aa (aa rst (2:Int)) ↑(ah sp (aa rst (2:Int)))) (0:Int)=true then aa (aa (aa rst (2:Int)) ↑(ah sp (aa rst (2:Int)))) (1:Int)else aa (aa rst (2:Int)) ↑(ah sp (aa rst (2:Int)))) ↑(aF (if az sp (aa (aa rst (2:Int)) ↑(ah sp (aa rst (2:Int)))) (0:Int)=true then aa (aa (aa rst (2:Int)) ↑(ah sp (aa rst (2:Int)))) (1:Int)else aa (aa rst (2:Int)) ↑(ah sp (aa rst (2:Int)))))) (pn,pl)).2) hq q hf fg bare sp (aa (if az sp (aa (aa rst (2:Int)) ↑(ah sp (aa rst (2:Int)))) (0:Int)=true then aa (aa (aa rst (2:Int)) ↑(ah sp (aa rst (2:Int)))) (1:Int)else aa (aa rst (2:Int)) ↑(ah sp (aa rst (2:Int)))) ↑(aF (if az sp (aa (aa rst (2:Int)) ↑(ah sp (aa rst (2:Int)))) (0:Int)=true then aa (aa (aa rst (2:Int)) ↑(ah sp (aa rst (2:Int)))) (1:Int)else aa (aa rst (2:Int)) ↑(ah sp (aa rst (2:Int))))))])))∧
 (aa rst (2:Int)).length.le (300000:Nat)∧
 upto (0:Int) (↑(ah sp (aa rst (2:Int)))) (al (aa rst (2:Int)))∧
 True∧
 (bS (ae (aa rst (2:Int)) ↑(ah sp (aa rst (2:Int))))=true→
 ((aa rst (2:Int)).length≤(300000:Nat)∧
 pl.length≤(100000:Nat))∧
 k (PV.int .i64 (0:Int)) [bV (PV.raw (Go.Value.pointer none)) 1 sc us pw (1:Int) hs hn hp port opq ((bt sp sc (ae (aa rst (2:Int)) ↑(aF (aa rst (2:Int)))) (pn,pl)).1) ((bt sp sc (ae (aa rst (2:Int)) ↑(aF (aa rst (2:Int)))) (pn,pl)).2) hq q hf fg bare sp (aa (aa rst (2:Int)) ↑(aF (aa rst (2:Int))))])∧
 (bS (ae (aa rst (2:Int)) ↑(ah sp (aa rst (2:Int))))=false→
 (aa rst (2:Int)).length.le (300000:Nat)∧
 ((!decide ((RS.mk sc us pw (1:Int) hs hn hp port opq pn pl hq q hf fg bare sp (aa rst (2:Int))).av.2=(0:Int)))=true→
 k (PV.int .i64 (RS.mk sc us pw (1:Int) hs hn hp port opq pn pl hq q hf fg bare sp (aa rst (2:Int))).av.2) [bV (PV.raw (Go.Value.pointer none)) 1 sc us pw ((RS.mk sc us pw (1:Int) hs hn hp port opq pn pl hq q hf fg bare sp (aa rst (2:Int))).av.1.hk) ((RS.mk sc us pw (1:Int) hs hn hp port opq pn pl hq q hf fg bare sp (aa rst (2:Int))).av.1.hs) ((RS.mk sc us pw (1:Int) hs hn hp port opq pn pl hq q hf fg bare sp (aa rst (2:Int))).av.1.hn) ((RS.mk sc us pw (1:Int) hs hn hp port opq pn pl hq q hf fg bare sp (aa rst (2:Int))).av.1.hp) port opq pn pl hq q hf fg bare sp (aa (aa rst (2:Int)) ↑(ah sp (aa rst (2:Int))))])∧
 ((!decide ((RS.mk sc us pw (1:Int) hs hn hp port opq pn pl hq q hf fg bare sp (aa rst (2:Int))).av.2=(0:Int)))=false→
 True∧
 (List.length (if az sp (aa (aa rst (2:Int)) ↑(ah sp (aa rst (2:Int)))) (0:Int)=true then aa (aa (aa rst (2:Int)) ↑(ah sp (aa rst (2:Int)))) (1:Int)else aa (aa rst (2:Int)) ↑(ah sp (aa rst (2:Int))))≤(300000:Nat)∧
 pl.length≤(100000:Nat))∧
 k (PV.int .i64 (0:Int)) [bV (PV.raw (Go.Value.pointer none)) 1 sc us pw ((RS.mk sc us pw (1:Int) hs hn hp port opq pn pl hq q hf fg bare sp (aa rst (2:Int))).av.1.hk) ((RS.mk sc us pw (1:Int) hs hn hp port opq pn pl hq q hf fg bare sp (aa rst (2:Int))).av.1.hs) ((RS.mk sc us pw (1:Int) hs hn hp port opq pn pl hq q hf fg bare sp (aa rst (2:Int))).av.1.hn) ((RS.mk sc us pw (1:Int) hs hn hp port opq pn pl hq q hf fg bare sp (aa rst (2:Int))).av.1.hp) port opq ((bt sp sc (ae (if az sp (aa (aa rst (2:Int)) ↑(ah sp (aa rst (2:Int)))) (0:Int)=true then aa (aa (aa rst (2:Int)) ↑(ah sp (aa rst (2:Int)))) (1:Int)else aa (aa rst (2:Int)) ↑(ah sp (aa rst (2:Int)))) ↑(aF (if az sp (aa (aa rst (2:Int)) ↑(ah sp (aa rst (2:Int)))) (0:Int)=true then aa (aa (aa rst (2:Int)) ↑(ah sp (aa rst (2:Int)))) (1:Int)else aa (aa rst (2:Int)) ↑(ah sp (aa rst (2:Int)))))) (pn,pl)).1) ((bt sp sc (ae (if az sp (aa (aa rst (2:Int)) ↑(ah sp (aa rst (2:Int)))) (0:Int)=true then aa (aa (aa rst (2:Int)) ↑(ah sp (aa rst (2:Int)))) (1:Int)else aa (aa rst (2:Int)) ↑(ah sp (aa rst (2:Int)))) ↑(aF (if az sp (aa (aa rst (2:Int)) ↑(ah sp (aa rst (2:Int)))) (0:Int)=true then aa (aa (aa rst (2:Int)) ↑(ah sp (aa rst (2:Int)))) (1:Int)else aa (aa rst (2:Int)) ↑(ah sp (aa rst (2:Int)))))) (pn,pl)).2) hq q hf fg bare sp (aa (if az sp (aa (aa rst (2:Int)) ↑(ah sp (aa rst (2:Int)))) (0:Int)=true then aa (aa (aa rst (2:Int)) ↑(ah sp (aa rst (2:Int)))) (1:Int)else aa (aa rst (2:Int)) ↑(ah sp (aa rst (2:Int)))) ↑(aF (if az sp (aa (aa rst (2:Int)) ↑(ah sp (aa rst (2:Int)))) (0:Int)=true then aa (aa (aa rst (2:Int)) ↑(ah sp (aa rst (2:Int)))) (1:Int)else aa (aa rst (2:Int)) ↑(ah sp (aa rst (2:Int))))))])))∧
 (az sp rst (1:Int)=false→
 True∧
 (az sp rst (0:Int)=true→
 True∧
 (List.length (if az sp rst (0:Int)=true then aa rst (1:Int)else rst)≤(300000:Nat)∧
 pl.length≤(100000:Nat))∧
 k (PV.int .i64 (0:Int)) [bV (PV.raw (Go.Value.pointer none)) 1 sc us pw (1:Int) hs hn hp port opq ((bt sp sc (ae (if az sp rst (0:Int)=true then aa rst (1:Int)else rst) ↑(aF (if az sp rst (0:Int)=true then aa rst (1:Int)else rst))) (pn,pl)).1) ((bt sp sc (ae (if az sp rst (0:Int)=true then aa rst (1:Int)else rst) ↑(aF (if az sp rst (0:Int)=true then aa rst (1:Int)else rst))) (pn,pl)).2) hq q hf fg bare sp (aa (if az sp rst (0:Int)=true then aa rst (1:Int)else rst) ↑(aF (if az sp rst (0:Int)=true then aa rst (1:Int)else rst)))])∧
 (az sp rst (0:Int)=false→
 True∧
 ((!false)=true→
 (List.length (if az sp rst (0:Int)=true then aa rst (1:Int)else rst)≤(300000:Nat)∧
 pl.length≤(100000:Nat))∧
 k (PV.int .i64 (0:Int)) [bV (PV.raw (Go.Value.pointer none)) 1 sc us pw (1:Int) hs hn hp port opq ((bt sp sc (ae (if az sp rst (0:Int)=true then aa rst (1:Int)else rst) ↑(aF (if az sp rst (0:Int)=true then aa rst (1:Int)else rst))) (pn,pl)).1) ((bt sp sc (ae (if az sp rst (0:Int)=true then aa rst (1:Int)else rst) ↑(aF (if az sp rst (0:Int)=true then aa rst (1:Int)else rst))) (pn,pl)).2) hq q hf fg bare sp (aa (if az sp rst (0:Int)=true then aa rst (1:Int)else rst) ↑(aF (if az sp rst (0:Int)=true then aa rst (1:Int)else rst)))])∧
 ((!false)=false→
 False))))∧
 (az sp rst (0:Int)=!true→
 (false=true→
 upto (2:Int) (al rst) (al rst)∧
 ((aa rst (2:Int)).length.le (300000:Nat)∧
 upto (0:Int) (↑(ah sp (aa rst (2:Int)))) (al (aa rst (2:Int)))∧
 True∧
 (bS (ae (aa rst (2:Int)) ↑(ah sp (aa rst (2:Int))))=true→
 ((aa rst (2:Int)).length≤(300000:Nat)∧
 pl.length≤(100000:Nat))∧
 k (PV.int .i64 (0:Int)) [bV (PV.raw (Go.Value.pointer none)) 1 sc us pw (1:Int) hs hn hp port opq ((bt sp sc (ae (aa rst (2:Int)) ↑(aF (aa rst (2:Int)))) (pn,pl)).1) ((bt sp sc (ae (aa rst (2:Int)) ↑(aF (aa rst (2:Int)))) (pn,pl)).2) hq q hf fg bare sp (aa (aa rst (2:Int)) ↑(aF (aa rst (2:Int))))])∧
 (bS (ae (aa rst (2:Int)) ↑(ah sp (aa rst (2:Int))))=false→
 (aa rst (2:Int)).length.le (300000:Nat)∧
 ((!decide ((RS.mk sc us pw (1:Int) hs hn hp port opq pn pl hq q hf fg bare sp (aa rst (2:Int))).av.2=(0:Int)))=true→
 k (PV.int .i64 (RS.mk sc us pw (1:Int) hs hn hp port opq pn pl hq q hf fg bare sp (aa rst (2:Int))).av.2) [bV (PV.raw (Go.Value.pointer none)) 1 sc us pw ((RS.mk sc us pw (1:Int) hs hn hp port opq pn pl hq q hf fg bare sp (aa rst (2:Int))).av.1.hk) ((RS.mk sc us pw (1:Int) hs hn hp port opq pn pl hq q hf fg bare sp (aa rst (2:Int))).av.1.hs) ((RS.mk sc us pw (1:Int) hs hn hp port opq pn pl hq q hf fg bare sp (aa rst (2:Int))).av.1.hn) ((RS.mk sc us pw (1:Int) hs hn hp port opq pn pl hq q hf fg bare sp (aa rst (2:Int))).av.1.hp) port opq pn pl hq q hf fg bare sp (aa (aa rst (2:Int)) ↑(ah sp (aa rst (2:Int))))])∧
 ((!decide ((RS.mk sc us pw (1:Int) hs hn hp port opq pn pl hq q hf fg bare sp (aa rst (2:Int))).av.2=(0:Int)))=false→
 True∧
 (List.length (if az sp (aa (aa rst (2:Int)) ↑(ah sp (aa rst (2:Int)))) (0:Int)=true then aa (aa (aa rst (2:Int)) ↑(ah sp (aa rst (2:Int)))) (1:Int)else aa (aa rst (2:Int)) ↑(ah sp (aa rst (2:Int))))≤(300000:Nat)∧
 pl.length≤(100000:Nat))∧
 k (PV.int .i64 (0:Int)) [bV (PV.raw (Go.Value.pointer none)) 1 sc us pw ((RS.mk sc us pw (1:Int) hs hn hp port opq pn pl hq q hf fg bare sp (aa rst (2:Int))).av.1.hk) ((RS.mk sc us pw (1:Int) hs hn hp port opq pn pl hq q hf fg bare sp (aa rst (2:Int))).av.1.hs) ((RS.mk sc us pw (1:Int) hs hn hp port opq pn pl hq q hf fg bare sp (aa rst (2:Int))).av.1.hn) ((RS.mk sc us pw (1:Int) hs hn hp port opq pn pl hq q hf fg bare sp (aa rst (2:Int))).av.1.hp) port opq ((bt sp sc (ae (if az sp (aa (aa rst (2:Int)) ↑(ah sp (aa rst (2:Int)))) (0:Int)=true then aa (aa (aa rst (2:Int)) ↑(ah sp (aa rst (2:Int)))) (1:Int)else aa (aa rst (2:Int)) ↑(ah sp (aa rst (2:Int)))) ↑(aF (if az sp (aa (aa rst (2:Int)) ↑(ah sp (aa rst (2:Int)))) (0:Int)=true then aa (aa (aa rst (2:Int)) ↑(ah sp (aa rst (2:Int)))) (1:Int)else aa (aa rst (2:Int)) ↑(ah sp (aa rst (2:Int)))))) (pn,pl)).1) ((bt sp sc (ae (if az sp (aa (aa rst (2:Int)) ↑(ah sp (aa rst (2:Int)))) (0:Int)=true then aa (aa (aa rst (2:Int)) ↑(ah sp (aa rst (2:Int)))) (1:Int)else aa (aa rst (2:Int)) ↑(ah sp (aa rst (2:Int)))) ↑(aF (if az sp (aa (aa rst (2:Int)) ↑(ah sp (aa rst (2:Int)))) (0:Int)=true then aa (aa (aa rst (2:Int)) ↑(ah sp (aa rst (2:Int)))) (1:Int)else aa (aa rst (2:Int)) ↑(ah sp (aa rst (2:Int)))))) (pn,pl)).2) hq q hf fg bare sp (aa (if az sp (aa (aa rst (2:Int)) ↑(ah sp (aa rst (2:Int)))) (0:Int)=true then aa (aa (aa rst (2:Int)) ↑(ah sp (aa rst (2:Int)))) (1:Int)else aa (aa rst (2:Int)) ↑(ah sp (aa rst (2:Int)))) ↑(aF (if az sp (aa (aa rst (2:Int)) ↑(ah sp (aa rst (2:Int)))) (0:Int)=true then aa (aa (aa rst (2:Int)) ↑(ah sp (aa rst (2:Int)))) (1:Int)else aa (aa rst (2:Int)) ↑(ah sp (aa rst (2:Int))))))])))∧
 (aa rst (2:Int)).length.le (300000:Nat)∧
 upto (0:Int) (↑(ah sp (aa rst (2:Int)))) (al (aa rst (2:Int)))∧
 True∧
 (bS (ae (aa rst (2:Int)) ↑(ah sp (aa rst (2:Int))))=true→
 ((aa rst (2:Int)).length≤(300000:Nat)∧
 pl.length≤(100000:Nat))∧
 k (PV.int .i64 (0:Int)) [bV (PV.raw (Go.Value.pointer none)) 1 sc us pw (1:Int) hs hn hp port opq ((bt sp sc (ae (aa rst (2:Int)) ↑(aF (aa rst (2:Int)))) (pn,pl)).1) ((bt sp sc (ae (aa rst (2:Int)) ↑(aF (aa rst (2:Int)))) (pn,pl)).2) hq q hf fg bare sp (aa (aa rst (2:Int)) ↑(aF (aa rst (2:Int))))])∧
 (bS (ae (aa rst (2:Int)) ↑(ah sp (aa rst (2:Int))))=false→
 (aa rst (2:Int)).length.le (300000:Nat)∧
 ((!decide ((RS.mk sc us pw (1:Int) hs hn hp port opq pn pl hq q hf fg bare sp (aa rst (2:Int))).av.2=(0:Int)))=true→
 k (PV.int .i64 (RS.mk sc us pw (1:Int) hs hn hp port opq pn pl hq q hf fg bare sp (aa rst (2:Int))).av.2) [bV (PV.raw (Go.Value.pointer none)) 1 sc us pw ((RS.mk sc us pw (1:Int) hs hn hp port opq pn pl hq q hf fg bare sp (aa rst (2:Int))).av.1.hk) ((RS.mk sc us pw (1:Int) hs hn hp port opq pn pl hq q hf fg bare sp (aa rst (2:Int))).av.1.hs) ((RS.mk sc us pw (1:Int) hs hn hp port opq pn pl hq q hf fg bare sp (aa rst (2:Int))).av.1.hn) ((RS.mk sc us pw (1:Int) hs hn hp port opq pn pl hq q hf fg bare sp (aa rst (2:Int))).av.1.hp) port opq pn pl hq q hf fg bare sp (aa (aa rst (2:Int)) ↑(ah sp (aa rst (2:Int))))])∧
 ((!decide ((RS.mk sc us pw (1:Int) hs hn hp port opq pn pl hq q hf fg bare sp (aa rst (2:Int))).av.2=(0:Int)))=false→
 True∧
 (List.length (if az sp (aa (aa rst (2:Int)) ↑(ah sp (aa rst (2:Int)))) (0:Int)=true then aa (aa (aa rst (2:Int)) ↑(ah sp (aa rst (2:Int)))) (1:Int)else aa (aa rst (2:Int)) ↑(ah sp (aa rst (2:Int))))≤(300000:Nat)∧
 pl.length≤(100000:Nat))∧
 k (PV.int .i64 (0:Int)) [bV (PV.raw (Go.Value.pointer none)) 1 sc us pw ((RS.mk sc us pw (1:Int) hs hn hp port opq pn pl hq q hf fg bare sp (aa rst (2:Int))).av.1.hk) ((RS.mk sc us pw (1:Int) hs hn hp port opq pn pl hq q hf fg bare sp (aa rst (2:Int))).av.1.hs) ((RS.mk sc us pw (1:Int) hs hn hp port opq pn pl hq q hf fg bare sp (aa rst (2:Int))).av.1.hn) ((RS.mk sc us pw (1:Int) hs hn hp port opq pn pl hq q hf fg bare sp (aa rst (2:Int))).av.1.hp) port opq ((bt sp sc (ae (if az sp (aa (aa rst (2:Int)) ↑(ah sp (aa rst (2:Int)))) (0:Int)=true then aa (aa (aa rst (2:Int)) ↑(ah sp (aa rst (2:Int)))) (1:Int)else aa (aa rst (2:Int)) ↑(ah sp (aa rst (2:Int)))) ↑(aF (if az sp (aa (aa rst (2:Int)) ↑(ah sp (aa rst (2:Int)))) (0:Int)=true then aa (aa (aa rst (2:Int)) ↑(ah sp (aa rst (2:Int)))) (1:Int)else aa (aa rst (2:Int)) ↑(ah sp (aa rst (2:Int)))))) (pn,pl)).1) ((bt sp sc (ae (if az sp (aa (aa rst (2:Int)) ↑(ah sp (aa rst (2:Int)))) (0:Int)=true then aa (aa (aa rst (2:Int)) ↑(ah sp (aa rst (2:Int)))) (1:Int)else aa (aa rst (2:Int)) ↑(ah sp (aa rst (2:Int)))) ↑(aF (if az sp (aa (aa rst (2:Int)) ↑(ah sp (aa rst (2:Int)))) (0:Int)=true then aa (aa (aa rst (2:Int)) ↑(ah sp (aa rst (2:Int)))) (1:Int)else aa (aa rst (2:Int)) ↑(ah sp (aa rst (2:Int)))))) (pn,pl)).2) hq q hf fg bare sp (aa (if az sp (aa (aa rst (2:Int)) ↑(ah sp (aa rst (2:Int)))) (0:Int)=true then aa (aa (aa rst (2:Int)) ↑(ah sp (aa rst (2:Int)))) (1:Int)else aa (aa rst (2:Int)) ↑(ah sp (aa rst (2:Int)))) ↑(aF (if az sp (aa (aa rst (2:Int)) ↑(ah sp (aa rst (2:Int)))) (0:Int)=true then aa (aa (aa rst (2:Int)) ↑(ah sp (aa rst (2:Int)))) (1:Int)else aa (aa rst (2:Int)) ↑(ah sp (aa rst (2:Int))))))])))∧
 (false=false→
 True∧
 (az sp rst (0:Int)=true→
 True∧
 (List.length (if az sp rst (0:Int)=true then aa rst (1:Int)else rst)≤(300000:Nat)∧
 pl.length≤(100000:Nat))∧
 k (PV.int .i64 (0:Int)) [bV (PV.raw (Go.Value.pointer none)) 1 sc us pw (1:Int) hs hn hp port opq ((bt sp sc (ae (if az sp rst (0:Int)=true then aa rst (1:Int)else rst) ↑(aF (if az sp rst (0:Int)=true then aa rst (1:Int)else rst))) (pn,pl)).1) ((bt sp sc (ae (if az sp rst (0:Int)=true then aa rst (1:Int)else rst) ↑(aF (if az sp rst (0:Int)=true then aa rst (1:Int)else rst))) (pn,pl)).2) hq q hf fg bare sp (aa (if az sp rst (0:Int)=true then aa rst (1:Int)else rst) ↑(aF (if az sp rst (0:Int)=true then aa rst (1:Int)else rst)))])∧
 (az sp rst (0:Int)=false→
 True∧
 ((!false)=true→
 (List.length (if az sp rst (0:Int)=true then aa rst (1:Int)else rst)≤(300000:Nat)∧
 pl.length≤(100000:Nat))∧
 k (PV.int .i64 (0:Int)) [bV (PV.raw (Go.Value.pointer none)) 1 sc us pw (1:Int) hs hn hp port opq ((bt sp sc (ae (if az sp rst (0:Int)=true then aa rst (1:Int)else rst) ↑(aF (if az sp rst (0:Int)=true then aa rst (1:Int)else rst))) (pn,pl)).1) ((bt sp sc (ae (if az sp rst (0:Int)=true then aa rst (1:Int)else rst) ↑(aF (if az sp rst (0:Int)=true then aa rst (1:Int)else rst))) (pn,pl)).2) hq q hf fg bare sp (aa (if az sp rst (0:Int)=true then aa rst (1:Int)else rst) ↑(aF (if az sp rst (0:Int)=true then aa rst (1:Int)else rst)))])∧
 ((!false)=false→
 False))))):=by kernel_rfl
attribute [local irreducible] Go.Vc.cD Go.Vc.bQ
theorem AN(sc us pw:Bs)(hk:Int)(hs:Bs)(hn:Int)(hp:List Int)(port:Int)(opq pn:Bool)(pl:List Bs)(hq:Bool)(q:Bs)(hf:Bool)(fg:Bs)(bare sp:Bool)(rst:Bs):br Tryz.prog aA 76 [.ptr 0 0] [aE 1 (.raw (.pointer none)) sc us pw hk hs hn hp port opq pn pl hq q hf fg bare sp rst] (rst.length≤300000∧pl.length≤100000) (.int .i64 (RS.mk sc us pw hk hs hn hp port opq pn pl hq q hf fg bare sp rst).aS.2) [aE 1 (.raw (.pointer none)) sc us pw ((RS.mk sc us pw hk hs hn hp port opq pn pl hq q hf fg bare sp rst).aS.1.hk) ((RS.mk sc us pw hk hs hn hp port opq pn pl hq q hf fg bare sp rst).aS.1.hs) ((RS.mk sc us pw hk hs hn hp port opq pn pl hq q hf fg bare sp rst).aS.1.hn) ((RS.mk sc us pw hk hs hn hp port opq pn pl hq q hf fg bare sp rst).aS.1.hp) port opq ((RS.mk sc us pw hk hs hn hp port opq pn pl hq q hf fg bare sp rst).aS.1.pn) ((RS.mk sc us pw hk hs hn hp port opq pn pl hq q hf fg bare sp rst).aS.1.pl) hq q hf fg bare sp ((RS.mk sc us pw hk hs hn hp port opq pn pl hq q hf fg bare sp rst).aS.1.rst)]:=bH (by kernel_rfl) AM (H:=Cb sc us pw hk hs hn hp port opq pn pl hq q hf fg bare sp rst) (fuel:=1000) Tryz.func76 (by kernel_rfl) (Nat.le_of_ble_eq_true rfl) fun hpre=>(GV sc us pw hk hs hn hp port opq pn pl hq q hf fg bare sp rst _).mpr (by
 obtain ⟨hp1,hp2⟩:=hpre
 have hl2:=cQ rst 2
 have hs1:=mS sp rst
 have hB:∀k:PV→List PV→Prop,¬(az sp rst 0=true∧az sp rst 1=true)→(RS.mk sc us pw hk hs hn hp port opq pn pl hq q hf fg bare sp rst).aS=(({(RS.mk sc us pw hk hs hn hp port opq pn pl hq q hf fg bare sp rst)with hk:=1}:RS).shl.path,0):=fun _ h=>by
  unfold RS.aS
  dsimp only
  rw [if_neg h]
 refine ⟨⟨by omega,by omega⟩,fun h0=>⟨⟨by omega,by omega⟩,fun h1=>?_,fun h1=>?_⟩,fun h0=>⟨fun h=>(by cases h),fun _=>?_⟩⟩
 ·have hsl:=pE h1
  refine ⟨⟨by omega,by unfold al at *;omega,Int.le_refl _⟩,(fun a=>⟨a,a⟩) ?_⟩
  have he:=fe (aa rst 2) (dU sp++[63,35])
  have he2:ah sp (aa rst 2)≤(aa rst 2).length:=he
  have e0:(RS.mk sc us pw hk hs hn hp port opq pn pl hq q hf fg bare sp rst).aS=(if bS (ae (aa rst 2) (ah sp (aa rst 2)))=true then((RS.mk sc us pw 1 hs hn hp port opq pn pl hq q hf fg bare sp (aa rst 2)).path,0)else if(RS.mk sc us pw 1 hs hn hp port opq pn pl hq q hf fg bare sp (aa rst 2)).av.2=0 then((RS.mk sc us pw 1 hs hn hp port opq pn pl hq q hf fg bare sp (aa rst 2)).av.1.shl.path,0)else(RS.mk sc us pw 1 hs hn hp port opq pn pl hq q hf fg bare sp (aa rst 2)).av):=by
   unfold RS.aS
   dsimp only
   rw [if_pos ⟨h0,h1⟩]
   rfl
  refine ⟨show(aa rst 2).length≤300000 by omega,⟨Int.le_refl _,by omega,by unfold al;omega⟩,trivial,fun h2=>⟨⟨by omega,hp2⟩,?_⟩,fun h2=>⟨show(aa rst 2).length≤300000 by omega,fun h3=>?_,fun h3=>⟨trivial,⟨Nat.le_trans (mS sp _) (Nat.le_trans (cQ _ _) (by omega)),hp2⟩,?_⟩⟩⟩
  ·rw [e0,if_pos h2];exact ⟨rfl,rfl⟩
  ·have h4:¬(RS.mk sc us pw 1 hs hn hp port opq pn pl hq q hf fg bare sp (aa rst 2)).av.2=0:=by simpa using h3
   have er:=eC (RS.mk sc us pw 1 hs hn hp port opq pn pl hq q hf fg bare sp (aa rst 2))
   rw [e0,if_neg (by rw [h2];decide),if_neg h4]
   have e1:(RS.mk sc us pw 1 hs hn hp port opq pn pl hq q hf fg bare sp (aa rst 2)).av.1.pn=pn:=by rw [er]
   have e2:(RS.mk sc us pw 1 hs hn hp port opq pn pl hq q hf fg bare sp (aa rst 2)).av.1.pl=pl:=by rw [er]
   have e3:(RS.mk sc us pw 1 hs hn hp port opq pn pl hq q hf fg bare sp (aa rst 2)).av.1.rst=aa (aa rst 2) (ah sp (aa rst 2)):=by rw [er]
   rw [e1,e2,e3];exact ⟨rfl,rfl⟩
  ·have h4:(RS.mk sc us pw 1 hs hn hp port opq pn pl hq q hf fg bare sp (aa rst 2)).av.2=0:=by simpa using h3
   have er:=eC (RS.mk sc us pw 1 hs hn hp port opq pn pl hq q hf fg bare sp (aa rst 2))
   have gen:∀G:RS,G={(RS.mk sc us pw 1 hs hn hp port opq pn pl hq q hf fg bare sp (aa rst 2))with hk:=G.hk,hs:=G.hs,hn:=G.hn,hp:=G.hp,rst:=aa (aa rst 2) (ah sp (aa rst 2))}→G.shl=RS.mk sc us pw G.hk G.hs G.hn G.hp port opq pn pl hq q hf fg bare sp (if az sp (aa (aa rst 2) (ah sp (aa rst 2))) 0=true then aa (aa (aa rst 2) (ah sp (aa rst 2))) 1 else aa (aa rst 2) (ah sp (aa rst 2))):=fun G e=>by rw [e];rfl
   rw [e0,if_neg (by rw [h2];decide),if_pos h4,gen _ er]
   exact ⟨rfl,rfl⟩
 ·rw [hB (fun _ _=>True) (by rw [h1];simp)]
  exact ⟨trivial,fun _=>⟨trivial,⟨by omega,hp2⟩,rfl,rfl⟩,fun _=>⟨trivial,fun _=>⟨⟨by omega,hp2⟩,rfl,rfl⟩,fun h=>(by cases h)⟩⟩
 ·rw [hB (fun _ _=>True) (by rw [show az sp rst 0=false from h0];simp)]
  exact ⟨trivial,fun _=>⟨trivial,⟨by omega,hp2⟩,rfl,rfl⟩,fun _=>⟨trivial,fun _=>⟨⟨by omega,hp2⟩,rfl,rfl⟩,fun h=>(by cases h)⟩⟩)
theorem GW(sc us pw:Bs)(hk:Int)(hs:Bs)(hn:Int)(hp:List Int)(port:Int)(opq pn:Bool)(pl:List Bs)(hq:Bool)(q:Bs)(hf:Bool)(fg:Bs)(bare sp:Bool)(rst:Bs):ag Tryz.prog aA 76 [.ptr 0 0,aE 1 (.raw (.pointer none)) sc us pw hk hs hn hp port opq pn pl hq q hf fg bare sp rst] ⟨rst.length≤300000∧pl.length≤100000,.tup [.int .i64 (RS.mk sc us pw hk hs hn hp port opq pn pl hq q hf fg bare sp rst).aS.2,aE 1 (.raw (.pointer none)) sc us pw ((RS.mk sc us pw hk hs hn hp port opq pn pl hq q hf fg bare sp rst).aS.1.hk) ((RS.mk sc us pw hk hs hn hp port opq pn pl hq q hf fg bare sp rst).aS.1.hs) ((RS.mk sc us pw hk hs hn hp port opq pn pl hq q hf fg bare sp rst).aS.1.hn) ((RS.mk sc us pw hk hs hn hp port opq pn pl hq q hf fg bare sp rst).aS.1.hp) port opq ((RS.mk sc us pw hk hs hn hp port opq pn pl hq q hf fg bare sp rst).aS.1.pn) ((RS.mk sc us pw hk hs hn hp port opq pn pl hq q hf fg bare sp rst).aS.1.pl) hq q hf fg bare sp ((RS.mk sc us pw hk hs hn hp port opq pn pl hq q hf fg bare sp rst).aS.1.rst)]⟩:=ag.bd (fun h=>by have e:List.isEmpty (PV.aB PV.bD [.ptr 0 0,aE 1 (.raw (.pointer none)) sc us pw hk hs hn hp port opq pn pl hq q hf fg bare sp rst])=false:=(by kernel_rfl);exact Bool.noConfusion (e.symm.trans (congrArg List.isEmpty h))) (AN sc us pw hk hs hn hp port opq pn pl hq q hf fg bare sp rst)
def n5:List PV→Option aI:=fun xs=>match xs with
 |[.ptr 0 0,aE 1 (.raw (.pointer none)) sc us pw hk hs hn hp port opq pn pl hq q hf fg bare sp rst]=>some ⟨rst.length≤300000∧pl.length≤100000,.tup [.int .i64 (RS.mk sc us pw hk hs hn hp port opq pn pl hq q hf fg bare sp rst).aS.2,aE 1 (.raw (.pointer none)) sc us pw ((RS.mk sc us pw hk hs hn hp port opq pn pl hq q hf fg bare sp rst).aS.1.hk) ((RS.mk sc us pw hk hs hn hp port opq pn pl hq q hf fg bare sp rst).aS.1.hs) ((RS.mk sc us pw hk hs hn hp port opq pn pl hq q hf fg bare sp rst).aS.1.hn) ((RS.mk sc us pw hk hs hn hp port opq pn pl hq q hf fg bare sp rst).aS.1.hp) port opq ((RS.mk sc us pw hk hs hn hp port opq pn pl hq q hf fg bare sp rst).aS.1.pn) ((RS.mk sc us pw hk hs hn hp port opq pn pl hq q hf fg bare sp rst).aS.1.pl) hq q hf fg bare sp ((RS.mk sc us pw hk hs hn hp port opq pn pl hq q hf fg bare sp rst).aS.1.rst)]⟩
 |_=>none
theorem vM:∀xs c,n5 xs=some c→ag Tryz.prog aA 76 xs c:=fun xs c h=>by
 unfold n5 at h
 split at h
 ·injection h with h;subst h;exact GW _ _ _ _ _ _ _ _ _ _ _ _ _ _ _ _ _ _
 ·cases h
end
section
def ud:cq:=bR [(119,mF),(27,dQ)]
def ue(sc us pw:Bs)(hk:Int)(hs:Bs)(hn:Int)(hp:List Int)(port:Int)(opq pn:Bool)(pl:List Bs)(hq:Bool)(q:Bs)(hf:Bool)(fg:Bs)(bare sp:Bool)(rst:Bs):ba:=fun i=>none
theorem vN:cS Tryz.prog aA ud:=ai oO (ai dR (ax))
theorem AO(sc us pw:Bs)(hk:Int)(hs:Bs)(hn:Int)(hp:List Int)(port:Int)(opq pn:Bool)(pl:List Bs)(hq:Bool)(q:Bs)(hf:Bool)(fg:Bs)(bare sp:Bool)(rst:Bs)(k:PV→List PV→Prop):bQ Tryz.prog ud aA (ue sc us pw hk hs hn hp port opq pn pl hq q hf fg bare sp rst) 1000 Tryz.f75 [.ptr 0 0] [aE 1 (.raw (.pointer none)) sc us pw hk hs hn hp port opq pn pl hq q hf fg bare sp rst] k=(
 (List.length rst≤(300000:Nat)∧
 (ab rst rst (0:Nat)).2.2=false)∧
 (false=true→
 True∧
 ((!false)=true→
 False)∧
 ((!false)=true→
 False)∧
 ((!false)=true→
 False)∧
 False)∧
 (false=false→
 (true=true→
 (true=true→
 k (PV.int .i64 (8:Int)) [bV (PV.raw (Go.Value.pointer none)) 1 sc us pw hk hs hn hp port opq pn pl hq q hf fg bare sp rst])∧
 (true=false→
 False))∧
 (true=false→
 False))):=by kernel_rfl
attribute [local irreducible] Go.Vc.cD Go.Vc.bQ
theorem vO(sc us pw:Bs)(hk:Int)(hs:Bs)(hn:Int)(hp:List Int)(port:Int)(opq pn:Bool)(pl:List Bs)(hq:Bool)(q:Bs)(hf:Bool)(fg:Bs)(bare sp:Bool)(rst:Bs):br Tryz.prog aA 75 [.ptr 0 0] [aE 1 (.raw (.pointer none)) sc us pw hk hs hn hp port opq pn pl hq q hf fg bare sp rst] (rst.length≤300000∧(ab rst rst 0).2.2=false) (.int .i64 8) [aE 1 (.raw (.pointer none)) sc us pw hk hs hn hp port opq pn pl hq q hf fg bare sp rst]:=bH (by kernel_rfl) vN (H:=ue sc us pw hk hs hn hp port opq pn pl hq q hf fg bare sp rst) (fuel:=1000) Tryz.func75 (by kernel_rfl) (Nat.le_of_ble_eq_true rfl) fun hpre=>(AO sc us pw hk hs hn hp port opq pn pl hq q hf fg bare sp rst _).mpr (by
 exact ⟨hpre,fun h=>(by cases h),fun _=>⟨fun _=>⟨fun _=>⟨rfl,rfl⟩,fun h=>(by cases h)⟩,fun h=>(by cases h)⟩⟩)
theorem AP(sc us pw:Bs)(hk:Int)(hs:Bs)(hn:Int)(hp:List Int)(port:Int)(opq pn:Bool)(pl:List Bs)(hq:Bool)(q:Bs)(hf:Bool)(fg:Bs)(bare sp:Bool)(rst:Bs):ag Tryz.prog aA 75 [.ptr 0 0,aE 1 (.raw (.pointer none)) sc us pw hk hs hn hp port opq pn pl hq q hf fg bare sp rst] ⟨rst.length≤300000∧(ab rst rst 0).2.2=false,.tup [.int .i64 8,aE 1 (.raw (.pointer none)) sc us pw hk hs hn hp port opq pn pl hq q hf fg bare sp rst]⟩:=ag.bd (fun h=>by have e:List.isEmpty (PV.aB PV.bD [.ptr 0 0,aE 1 (.raw (.pointer none)) sc us pw hk hs hn hp port opq pn pl hq q hf fg bare sp rst])=false:=(by kernel_rfl);exact Bool.noConfusion (e.symm.trans (congrArg List.isEmpty h))) (vO sc us pw hk hs hn hp port opq pn pl hq q hf fg bare sp rst)
def j9:List PV→Option aI:=fun xs=>match xs with
 |[.ptr 0 0,aE 1 (.raw (.pointer none)) sc us pw hk hs hn hp port opq pn pl hq q hf fg bare sp rst]=>some ⟨rst.length≤300000∧(ab rst rst 0).2.2=false,.tup [.int .i64 8,aE 1 (.raw (.pointer none)) sc us pw hk hs hn hp port opq pn pl hq q hf fg bare sp rst]⟩
 |_=>none
theorem rE:∀xs c,j9 xs=some c→ag Tryz.prog aA 75 xs c:=fun xs c h=>by
 unfold j9 at h
 split at h
 ·injection h with h;subst h;exact AP _ _ _ _ _ _ _ _ _ _ _ _ _ _ _ _ _ _
 ·cases h
end
section
def yi:cq:=bR [(75,j9),(77,gy),(78,da)]
def yj(sc us pw:Bs)(hk:Int)(hs:Bs)(hn:Int)(hp:List Int)(port:Int)(pn:Bool)(pl:List Bs)(hq:Bool)(q:Bs)(hf:Bool)(fg:Bs)(bare sp:Bool)(rst:Bs):ba:=fun i=>none
theorem yk:cS Tryz.prog aA yi:=ai rE (ai gu (ai cK (ax)))
theorem D6(sc us pw:Bs)(hk:Int)(hs:Bs)(hn:Int)(hp:List Int)(port:Int)(pn:Bool)(pl:List Bs)(hq:Bool)(q:Bs)(hf:Bool)(fg:Bs)(bare sp:Bool)(rst:Bs)(k:PV→List PV→Prop):bQ Tryz.prog yi aA (yj sc us pw hk hs hn hp port pn pl hq q hf fg bare sp rst) 1000 Tryz.f47 [.ptr 0 0] [aE 1 (.raw (.pointer none)) sc us pw hk hs hn hp port false pn pl hq q hf fg bare sp rst] k=(
 (List.length rst≤(300000:Nat)∧
 (ab rst rst (0:Nat)).2.2=false)∧
 ((!decide ((8:Int)=(0:Int)))=true→
 k (PV.int .i64 (8:Int)) [bV (PV.raw (Go.Value.pointer none)) 1 sc us pw hk hs hn hp port false pn pl hq q hf fg bare sp rst])∧
 ((!decide ((8:Int)=(0:Int)))=false→
 (false=true→
 False)∧
 (false=false→
 (decide (sc=(ByteArray.mk #[102,105,108,101]).data.toList)=true→
 False)∧
 (decide (sc=(ByteArray.mk #[102,105,108,101]).data.toList)=false→
 (bare=false→
 (sp=true→
 True∧
 (false=false→
 false=true→
 True)∧
 (false=true→
 False)∧
 (false=false→
 (sp=true→
 False)∧
 (sp=false→
 False)))∧
 (sp=!true→
 (false=false→
 false=true→
 True)∧
 (false=true→
 False)∧
 (false=false→
 (sp=true→
 False)∧
 (sp=false→
 False))))∧
 (bare=!false→
 ((!false)=false→
 false=true→
 True)∧
 (true=true→
 False)∧
 (true=false→
 (sp=true→
 False)∧
 (sp=false→
 False))))))):=by kernel_rfl
attribute [local irreducible] Go.Vc.cD Go.Vc.bQ
theorem yl(sc us pw:Bs)(hk:Int)(hs:Bs)(hn:Int)(hp:List Int)(port:Int)(pn:Bool)(pl:List Bs)(hq:Bool)(q:Bs)(hf:Bool)(fg:Bs)(bare sp:Bool)(rst:Bs):br Tryz.prog aA 47 [.ptr 0 0] [aE 1 (.raw (.pointer none)) sc us pw hk hs hn hp port false pn pl hq q hf fg bare sp rst] (rst.length≤300000∧(ab rst rst 0).2.2=false) (.int .i64 (RS.mk sc us pw hk hs hn hp port false pn pl hq q hf fg bare sp rst).ao.2) [aE 0 (.raw (.pointer none)) ((RS.mk sc us pw hk hs hn hp port false pn pl hq q hf fg bare sp rst).ao.1.sc) ((RS.mk sc us pw hk hs hn hp port false pn pl hq q hf fg bare sp rst).ao.1.us) ((RS.mk sc us pw hk hs hn hp port false pn pl hq q hf fg bare sp rst).ao.1.pw) ((RS.mk sc us pw hk hs hn hp port false pn pl hq q hf fg bare sp rst).ao.1.hk) ((RS.mk sc us pw hk hs hn hp port false pn pl hq q hf fg bare sp rst).ao.1.hs) ((RS.mk sc us pw hk hs hn hp port false pn pl hq q hf fg bare sp rst).ao.1.hn) ((RS.mk sc us pw hk hs hn hp port false pn pl hq q hf fg bare sp rst).ao.1.hp) ((RS.mk sc us pw hk hs hn hp port false pn pl hq q hf fg bare sp rst).ao.1.port) ((RS.mk sc us pw hk hs hn hp port false pn pl hq q hf fg bare sp rst).ao.1.opq) ((RS.mk sc us pw hk hs hn hp port false pn pl hq q hf fg bare sp rst).ao.1.pn) ((RS.mk sc us pw hk hs hn hp port false pn pl hq q hf fg bare sp rst).ao.1.pl) ((RS.mk sc us pw hk hs hn hp port false pn pl hq q hf fg bare sp rst).ao.1.hq) ((RS.mk sc us pw hk hs hn hp port false pn pl hq q hf fg bare sp rst).ao.1.q) ((RS.mk sc us pw hk hs hn hp port false pn pl hq q hf fg bare sp rst).ao.1.hf) ((RS.mk sc us pw hk hs hn hp port false pn pl hq q hf fg bare sp rst).ao.1.fg) ((RS.mk sc us pw hk hs hn hp port false pn pl hq q hf fg bare sp rst).ao.1.bare) ((RS.mk sc us pw hk hs hn hp port false pn pl hq q hf fg bare sp rst).ao.1.sp) ((RS.mk sc us pw hk hs hn hp port false pn pl hq q hf fg bare sp rst).ao.1.rst)]:=uM (by kernel_rfl) yk (H:=yj sc us pw hk hs hn hp port pn pl hq q hf fg bare sp rst) (fuel:=1000) Tryz.func47 (by kernel_rfl) (Nat.le_of_ble_eq_true rfl) fun hpre=>(D6 sc us pw hk hs hn hp port pn pl hq q hf fg bare sp rst _).mpr (by
 have e:(RS.mk sc us pw hk hs hn hp port false pn pl hq q hf fg bare sp rst).ao=((RS.mk sc us pw hk hs hn hp port false pn pl hq q hf fg bare sp rst),8):=by
  unfold RS.ao
  rw [show(RS.mk sc us pw hk hs hn hp port false pn pl hq q hf fg bare sp rst).gq=((RS.mk sc us pw hk hs hn hp port false pn pl hq q hf fg bare sp rst),8)from if_neg (by show ¬(ab rst rst 0).2.2=true;rw [hpre.2];decide)]
  rfl
 rw [e]
 exact ⟨hpre,fun _=>⟨rfl,rfl⟩,fun h=>absurd h (by decide)⟩)
end
theorem rF(a b:Bs){i:Nat}(h:i<a.length):aD (a++b) i=aD a i:=by
 unfold aD;simp [List.getD,List.getElem?_append_left h]
theorem AQ(a:Bs)(c:UInt8)(b:Bs):aD (a++c::b) a.length=c.toNat:=by
 unfold aD;simp [List.getD]
theorem GX(a:Bs)(c:UInt8)(b:Bs)(hc:c.toNat<128):∀(j i:Nat) (r lo hi:Int),i≤a.length→128≤lo→nl (a++c::b) j i r lo hi=nl a j i r lo hi
 |0,i,r,lo,hi,_,_=>rfl
 |j+1,i,r,lo,hi,h,hlo=>by
  by_cases hl:i<a.length
  ·have hb:=rF a (c::b) hl
   have hl2:i<(a++c::b).length:=by rw [List.length_append];omega
   by_cases g:lo≤aD a i∧aD a i≤hi
   ·rw [eX ⟨hl,g⟩,eX ⟨hl2,by rw [hb];exact g⟩,hb]
    exact GX a c b hc j (i+1) _ 128 191 (by omega) (by omega)
   ·rw [ju (fun e=>g e.2),ju (fun e=>g (by rw [←hb];exact e.2))]
  ·have e:i=a.length:=by omega
   subst e
   rw [ju (l:=a++c::b) (fun e=>by have:=e.2.1;rw [AQ]at this;omega),ju (l:=a) (fun e=>by omega)]
theorem D7 {a:Bs}(c:UInt8)(b:Bs)(hc:c.toNat<128)(h:0<a.length):bb (a++c::b)=bb a:=by
 have hb:=rF a (c::b) h
 unfold bb
 rw [hb,if_neg (by rw [List.length_append];omega),if_neg (show ¬a.length=0 by omega)]
 rcases iH (aD a 0)with e|⟨m,lo,hi,e,-,-,h3,-⟩
 ·rw [e];rfl
 ·rw [e]
  dsimp only
  rw [GX a c b hc _ 1 _ _ _ (by omega) h3]
theorem GY(c:UInt8)(b:Bs)(hc:c.toNat<128):∀(n:Nat) (a:Bs),a.length≤n→dy (a++c::b)=dy a++(c.toNat:Int)::dy b:=by
 have h1:dy (c::b)=(c.toNat:Int)::dy b:=by
  rw [dW (by simp),pA (by simp) (by rw [cB];omega),cB];rfl
 intro n
 induction n with
 |zero=>
  intro a h
  have:a=[]:=List.eq_nil_of_length_eq_zero (by omega)
  subst this
  rw [List.nil_append,h1];rfl
 |succ n ih=>
  intro a h
  by_cases h0:a.length=0
  ·have:a=[]:=List.eq_nil_of_length_eq_zero h0
   subst this
   rw [List.nil_append,h1];rfl
  ·have hn:=eY a (by omega)
   rw [dW (by rw [List.length_append];omega),dW (l:=a) (by omega),D7 c b hc (by omega),List.drop_append_of_le_length hn.2.1,ih _ (by rw [List.length_drop];omega)]
   rfl
theorem D8(a:Bs)(c:UInt8)(b:Bs)(hc:c.toNat<128):bj (a++c::b)=bj a++c::bj b:=by
 unfold bj
 rw [GY c b hc _ a (Nat.le_refl _),jP]
 congr 1
 show encR (hZ _)++_=_
 have h:hZ (c.toNat:Int)=c.toNat:=pB ⟨by omega,by omega,by omega⟩
 rw [h]
 unfold encR
 rw [if_pos (by omega),s9]
 rfl
theorem D9(l:Bs)(h:0<l.length):encR (hZ (bb l).1)=l.take (bb l).2.1∨encR (hZ (bb l).1)=[239,191,189]:=by
 cases hv:(bb l).2.2 with
 |true=>
  obtain ⟨h1,h2,-⟩:=lg (l:=l) (r:=(bb l).1) (n:=(bb l).2.1) (by rw [←hv])
  rw [pB h1];exact .inl h2
 |false=>
  rw [((eY l h).2.2.2 hv).1]
  exact .inr (by decide)
theorem rG(l:Bs)(h:0<l.length):bj l=encR (hZ (bb l).1)++bj (l.drop (bb l).2.1):=by
 unfold bj;rw [dW h];rfl
end Go.Proofs.YtmfapopclbnlpaaGreatDoor
