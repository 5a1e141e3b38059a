import Derived.Test.YtmfapopclbnlpaaGreatDoorProg
import Derived.ProofKit
import Derived.Test.YtmfapopclbnlpaaGreatDoorHs6
import Derived.Test.YtmfapopclbnlpaaGreatDoorHs10
import Derived.Test.YtmfapopclbnlpaaGreatDoorHs18
import Derived.Test.YtmfapopclbnlpaaGreatDoorHs21
import Derived.Test.YtmfapopclbnlpaaGreatDoorHs22
set_option linter.unusedVariables false
set_option linter.unusedSimpArgs false
set_option maxRecDepth 100000
set_option maxHeartbeats 4000000
namespace Go.Proofs.YtmfapopclbnlpaaGreatDoor
open Go Go.Proofs Go.RowKit Go.Vc
section
def gY(l:Bs):H5:=if preB l [91]=true then eX (l.drop 1)else if jm l nS=true then Ge 8 else if l=[]then(1,[],0,z8,0)else(5,xD l,0,z8,0)
def tN:cp:=bP [(78,cY),(74,mB),(161,mG),(162,mF),(26,qM)]
def tO(l:Bs):ba:=fun i=>none
theorem vm:cR Tryz.prog aA tN:=ai cI (ai lx (ai oV (ai oU (ai xE (ax)))))
theorem Ah(l:Bs)(k:PV→Prop):cB Tryz.prog tN aA (tO l) 1000 Tryz.f136 [.str l,.bool false] k=(
 True∧
 (preB l (ByteArray.mk #[91]).data.toList=true→
 ((1:Nat)≤List.length l∧List.length l≤(1000000:Nat))∧
 k
 (PV.tup
 [PV.agg
 [PV.int .i64 (eX (List.drop (1:Nat) l)).1,
 PV.str (eX (List.drop (1:Nat) l)).2.1,
 PV.int .u32 (eX (List.drop (1:Nat) l)).2.2.1,
 PV.arr (8:Nat) (ar.ints .u16 (eX (List.drop (1:Nat) l)).2.2.2.1)],
 PV.int .i64 (eX (List.drop (1:Nat) l)).2.2.2.2]))∧
 (preB l (ByteArray.mk #[91]).data.toList=false→
 (false=true→
 (List.length l).le (1000000:Nat)∧
 k
 (PV.tup
 [PV.agg
 [PV.int .i64
 (eC (cv (cm l))).1,
 PV.str
 (eC
 (cv (cm l))).2.1,
 PV.int .u32
 (eC
 (cv (cm l))).2.2.1,
 PV.arr (8:Nat)
 (ar.ints .u16
 (eC
 (cv (cm l))).2.2.2.1)],
 PV.int .i64
 (eC
 (cv (cm l))).2.2.2.2]))∧
 (false=false→
 (List.length l≤(1000000:Nat)∧
 (ByteArray.mk
 #[0,9,10,13,32,35,47,58,60,62,63,64,91,92,93,94,124]).data.toList.length≤
 (1000000:Nat)∧
 ∀(b:UInt8),
 b∈
 (ByteArray.mk
 #[0,9,10,13,32,35,47,58,60,62,63,64,91,92,93,94,124]).data.toList→
 b.toNat<(128:Nat))∧
 (jm l
 (ByteArray.mk
 #[0,9,10,13,32,35,47,58,60,62,63,64,91,92,93,94,124]).data.toList=
 true→
 k
 (PV.tup
 [PV.agg
 [PV.int .i64 (0:Int),PV.str [],PV.int .u32 (0:Int),
 PV.arr (8:Nat) (ar.ints .u16 (List.replicate (8:Nat) (0:Int)))],
 PV.int .i64 (8:Int)]))∧
 (jm l
 (ByteArray.mk
 #[0,9,10,13,32,35,47,58,60,62,63,64,91,92,93,94,124]).data.toList=
 false→
 (decide (l=(ByteArray.mk #[]).data.toList)=true→
 k
 (PV.tup
 [PV.agg
 [PV.int .i64 (1:Int),PV.str [],PV.int .u32 (0:Int),
 PV.arr (8:Nat) (ar.ints .u16 (List.replicate (8:Nat) (0:Int)))],
 PV.int .i64 (0:Int)]))∧
 (decide (l=(ByteArray.mk #[]).data.toList)=false→
 (List.length l).le (300000:Nat)∧
 k
 (PV.tup
 [PV.agg
 [PV.int .i64 (5:Int),PV.str (xD l),
 PV.int .u32 (0:Int),
 PV.arr (8:Nat) (ar.ints .u16 (List.replicate (8:Nat) (0:Int)))],
 PV.int .i64 (0:Int)])))))):=by kernel_rfl
attribute [local irreducible] Go.Vc.cB
theorem Ai(l:Bs):ag Tryz.prog aA 136 [.str l,.bool false] ⟨l.length≤300000,.tup [.agg [.int .i64 (gY l).1,.str (gY l).2.1,.int .u32 (gY l).2.2.1,.arr 8 (.ints .u16 (gY l).2.2.2.1)],.int .i64 (gY l).2.2.2.2]⟩:=bY (by kernel_rfl) vm (H:=tO l) (fuel:=1000) Tryz.func136 (by kernel_rfl) fun hpre=>(Ah l _).mpr (by
 have e91:(ByteArray.mk #[91]).data.toList=([91]:Bs):=rfl
 rw [e91]
 refine ⟨trivial,fun h=>⟨⟨?_,by omega⟩,?_⟩,fun h=>⟨fun h=>(by cases h),fun _=>⟨⟨by omega,by decide,by decide⟩,fun h2=>?_,fun h2=>⟨fun h3=>?_,fun h3=>?_⟩⟩⟩⟩
 ·cases l with
  |nil=>cases h
  |cons b r=>rw [List.length_cons];omega
 ·have:gY l=eX (l.drop 1):=by unfold gY;rw [if_pos h]
  rw [this]
 ·have h2':jm l nS=true:=h2
  have:gY l=Ge 8:=by unfold gY;rw [if_neg (by rw [h];decide),if_pos h2']
  rw [this];rfl
 ·have h2':jm l nS=false:=h2
  have h3':l=[]:=of_decide_eq_true h3
  have:gY l=(1,[],0,z8,0):=by unfold gY;rw [if_neg (by rw [h];decide),if_neg (by rw [h2'];decide),if_pos h3']
  rw [this];rfl
 ·have h2':jm l nS=false:=h2
  have h3':¬l=[]:=of_decide_eq_false h3
  have:gY l=(5,xD l,0,z8,0):=by unfold gY;rw [if_neg (by rw [h];decide),if_neg (by rw [h2'];decide),if_neg h3']
  rw [this]
  exact ⟨hpre,rfl⟩)
end
theorem xQ {l:Bs}{x:Int}(h0:0≤x)(h1:x<l.length):l.drop x.toNat=l.getD x.toNat 0::l.drop (x+1).toNat:=by
 have hs:(x+1).toNat=x.toNat+1:=by omega
 rw [hs,List.drop_eq_getElem_cons (by omega),List.getD_eq_getElem?_getD,List.getElem?_eq_getElem (by omega)]
 rfl
theorem tP {l:Bs}{x:Int}(h1:¬x<l.length):l.drop x.toNat=[]:=by rw [List.drop_eq_nil_iff];omega
structure RS where
 sc:Bs
 us:Bs
 pw:Bs
 hk:Int
 hs:Bs
 hn:Int
 hp:List Int
 port:Int
 opq:Bool
 pn:Bool
 pl:List Bs
 hq:Bool
 q:Bs
 hf:Bool
 fg:Bs
 bare:Bool
 sp:Bool
 rst:Bs
@[match_pattern] abbrev bE (m:Nat) (sc us pw:Bs) (hk:Int) (hs:Bs) (hn:Int) (hp:List Int) (port:Int) (opq pn:Bool) (pl:List Bs) (hq:Bool) (q:Bs) (hf:Bool) (fg:Bs):PV:=.agg [.str sc,.str us,.str pw,.agg [.int .i64 hk,.str hs,.int .u32 hn,.arr 8 (.ints .u16 hp)],.int .i64 port,.bool opq,.row pn (.strs pl) m,.bool hq,.str q,.bool hf,.str fg]
@[match_pattern] abbrev aE (m:Nat) (B:PV) (sc us pw:Bs) (hk:Int) (hs:Bs) (hn:Int) (hp:List Int) (port:Int) (opq pn:Bool) (pl:List Bs) (hq:Bool) (q:Bs) (hf:Bool) (fg:Bs) (bare sp:Bool) (rst:Bs):PV:=.agg [.agg [.str sc,.str us,.str pw,.agg [.int .i64 hk,.str hs,.int .u32 hn,.arr 8 (.ints .u16 hp)],.int .i64 port,.bool opq,.row pn (.strs pl) m,.bool hq,.str q,.bool hf,.str fg],B,.bool bare,.bool sp,.str rst]
def az(sp:Bool)(rst:Bs)(z:Int):Bool:=decide (z<ak rst)&&(decide (al rst z=47)||sp&&decide (al rst z=92))
theorem pL {sp:Bool}{rst:Bs}{z:Int}(h:az sp rst z=true):z<ak rst:=by by_cases g:z<ak rst;exact g;simp [az,g]at h
def aC:Nat→Bool→Int→Bs→Bs
 |0,_,_,l=>l
 |f+1,sp,n,l=>if az sp l 0=true∧(sp=true∨n<2)then aC f sp (n+1) (aa l 1)else l
theorem nW {l:Bs}(h:0<l.length):(aa l 1).length+1=l.length:=by unfold aa;simp;omega
theorem gK {sp:Bool}{l:Bs}(h:az sp l 0=true):0<l.length:=by have:=pL h;unfold ak at this;omega
theorem qR {sp:Bool}{n:Int}{l:Bs}(h:az sp l 0=true∧(sp=true∨n<2)):aC l.length sp n l=aC (aa l 1).length sp (n+1) (aa l 1):=by
 rw [←nW (gK h.1)]
 show(if _ then _ else _)=_
 rw [if_pos h]
theorem pM {sp:Bool}{n:Int}{l:Bs}(h:¬(az sp l 0=true∧(sp=true∨n<2))):aC l.length sp n l=l:=by
 cases l with
 |nil=>rfl
 |cons b l=>
  show(if _ then _ else _)=_
  rw [if_neg h]
def bz(l:Bs):Bool:=decide (l=[])||(decide (al l 0=63)||decide (al l 0=35))
def eY(sp:Bool):Bs:=if sp=true then [47,92]else [47]
def ah(sp:Bool)(l:Bs):Nat:=bd l (eY sp++[63,35])
def aF(l:Bs):Nat:=bd l [63,35]
def sj(l:Bs):Nat:=bd l [35]
def RS.shl(r:RS):RS:={r with rst:=if az r.sp r.rst 0=true then aa r.rst 1 else r.rst}
def RS.skip(r:RS):RS:={r with rst:=aC r.rst.length r.sp 0 r.rst}
def RS.cut(r:RS)(z:Int):RS:={r with rst:=aa r.rst z}
def kE:Bool→Int→Bs→Int
 |_,_,[]=>-1
 |w,i,b::l=>if b.toNat=91 then kE true (i+1) l else if b.toNat=93 then kE false (i+1) l else if b.toNat=58∧w=false then i else kE w (i+1) l
def bj(l:Bs):Int:=kE false 0 l
def iR:Int→Bs→Option Int
 |n,[]=>some n
 |n,b::l=>if 48≤b.toNat∧b.toNat≤57 then iR (min (n*10+(b.toNat-48)) 65536) l else none
def dS(sc:Bs)(port:Int)(s:Bs):Int×Int:=match s with
 |[]=>(port,0)
 |s=>match iR 0 s with
  |none=>(port,8)
  |some n=>if 65535<n then(port,8)else if ay sc=true∧IU sc=n then(port,0)else(n,0)
def aP(sp:Bool)(l:Bs):H5:=if sp=true then cw l else gY l
def RS.aZ(r:RS)(s:Bs):RS×Int:=
 if bj s=0∨(s=[]∧r.sp=true)then(r,8)else
 let name:=if 0<bj s then ae s (bj s)else s
 let pt:=if 0<bj s then aa s (bj s+1)else []
 let h:=aP r.sp name
 let r1:RS:={r with hk:=h.1,hs:=h.2.1,hn:=h.2.2.1,hp:=h.2.2.2.1}
 if h.2.2.2.2=0 then({r1 with port:=(dS r.sc r.port pt).1},(dS r.sc r.port pt).2)else(r1,h.2.2.2.2)
def RS.aU(r:RS):RS×Int:=
 let s:=ae r.rst (ah r.sp r.rst)
 let r1:=r.cut (ah r.sp r.rst)
 if 0≤aN s 64 then
  let r2:RS:={r1 with us:=bl 5 (dm (ae s (aN s 64)) 58),pw:=bl 5 (dJ (ae s (aN s 64)) 58)}
  if aa s (aN s 64+1)=[]then(r2,8)else r2.aZ (aa s (aN s 64+1))
 else r1.aZ s
def LH:Bs:=[108,111,99,97,108,104,111,115,116]
def RS.av(r:RS):RS×Int:=
 let s:=ae r.rst (ah r.sp r.rst)
 let r1:=r.cut (ah r.sp r.rst)
 if s=[]then(r1,0)else
 let h:=cw s
 if h.1=2∧h.2.1=LH then(r1,h.2.2.2.2)else({r1 with hk:=h.1,hs:=h.2.1,hn:=h.2.2.1,hp:=h.2.2.2.1},h.2.2.2.2)
abbrev Pa:=Bool×List Bs
def b6(sc:Bs)(p:Pa):Pa:=if p.2=[]∨(p.2.length=1∧sc=fL∧nN (p.2.getD 0 [])=true)then p else(p.1,p.2.take (p.2.length-1))
def Aj(p:Pa)(last:Bool):Pa:=if last=true then(false,p.2++[[]])else p
def cF(sc:Bs)(p:Pa)(s:Bs)(last:Bool):Pa:=
 if mv s=true then Aj (b6 sc p) last
 else if mr s=true then Aj p last
 else if sc=fL∧p.2=[]∧bL s=true then(false,p.2++[ae s 1++[58]])
 else(false,p.2++[bl 4 s])
def oW(sc:Bs)(m:Bs):Nat→Bs→Pa→Pa
 |0,_,p=>p
 |f+1,s,p=>if bd s m=s.length then cF sc p s true else oW sc m f (s.drop (bd s m+1)) (cF sc p (s.take (bd s m)) false)
theorem qS(sc m:Bs):∀(f g:Nat) (s:Bs) (p:Pa),s.length<f→s.length<g→oW sc m f s p=oW sc m g s p
 |0,_,_,_,h,_=>by omega
 |_,0,_,_,_,h=>by omega
 |f+1,g+1,s,p,h,h'=>by
  unfold oW
  by_cases e:bd s m=s.length
  ·rw [if_pos e,if_pos e]
  ·rw [if_neg e,if_neg e]
   have hl:=db s m
   exact qS sc m f g _ _ (by rw [List.length_drop];omega) (by rw [List.length_drop];omega)
@[irreducible] def mH (sc m s:Bs) (p:Pa):Pa:=oW sc m (s.length+1) s p
theorem Ak(sc m s:Bs)(p:Pa):mH sc m s p=if bd s m=s.length then cF sc p s true else mH sc m (s.drop (bd s m+1)) (cF sc p (s.take (bd s m)) false):=by
 unfold mH
 rw [oW]
 by_cases e:bd s m=s.length
 ·rw [if_pos e,if_pos e]
 ·rw [if_neg e,if_neg e]
  have hl:=db s m
  exact qS sc m _ _ _ _ (by rw [List.length_drop];omega) (by rw [List.length_drop];omega)
def bC(sp:Bool)(sc:Bs)(s:Bs)(p:Pa):Pa:=mH sc (eY sp) s p
def RS.path(r:RS):RS:={r with
 pn:=(bC r.sp r.sc (ae r.rst (aF r.rst)) (r.pn,r.pl)).1
 pl:=(bC r.sp r.sc (ae r.rst (aF r.rst)) (r.pn,r.pl)).2
 rst:=aa r.rst (aF r.rst)}
def Mb:Bs:=[37,50,48]
def lB(s rest:Bs):Bs:=if rest≠[]∧0<s.length∧al s (s.length-1)=32 then bl 0 (ae s (s.length-1))++Mb else bl 0 s
def RS.gZ(r:RS):RS:={r with opq:=true,pn:=false,pl:=[lB (ae r.rst (aF r.rst)) (aa r.rst (aF r.rst))],rst:=aa r.rst (aF r.rst)}
def RS.query(r:RS):RS:=if preB r.rst [63]=true then
    {r with hq:=true,q:=bl (if r.sp=true then 3 else 2) (ae (aa r.rst 1) (sj (aa r.rst 1))),rst:=aa (aa r.rst 1) (sj (aa r.rst 1))}
 else r
def RS.Al(r:RS):RS:=if preB r.rst [35]=true then {r with hf:=true,fg:=bl 1 (aa r.rst 1),rst:=aa r.rst 1}else r
def RS.tail(r:RS):RS:=r.query.Al
def RS.dx(r:RS):RS×Int:=if(ab r.rst r.rst 0).2.2=true then
    ({r with rst:=(ab r.rst r.rst 0).2.1,bare:=false,sc:=(ab r.rst r.rst 0).1,sp:=ay (ab r.rst r.rst 0).1},0)
 else(r,8)
def RS.aY(r:RS):RS×Int:=
 let r1:RS:={r with hk:=1}
 if az r.sp r.rst 0=true∧az r.sp r.rst 1=true then
  let r2:=r1.cut 2
  if bL (ae r2.rst (ah r2.sp r2.rst))=true then(r2.path,0)
  else if r2.av.2=0 then(r2.av.1.shl.path,0)else r2.av
 else(r1.shl.path,0)
def RS.bX(r:RS):RS×Int:=if r.aU.2=0 then
    (if r.aU.1.sp=false∧bz r.aU.1.rst=true then(r.aU.1.tail,0)else(r.aU.1.shl.path.tail,0))
 else r.aU
def RS.ao(r:RS):RS×Int:=if r.dx.2=0 then
    let r1:=r.dx.1
    if r1.sc=fL then(if r1.aY.2=0 then(r1.aY.1.tail,0)else r1.aY)
    else if r1.sp=true then r1.skip.bX
    else if preB r1.rst [47,47]=true then(r1.cut 2).bX
    else if preB r1.rst [47]=true then((r1.cut 1).path.tail,0)
    else(r1.gZ.tail,0)
 else r.dx
theorem Gm {m xs:Bs}{y:UInt8}{zs:Bs}(h:∀b∈xs,m.contains b=false)(hy:m.contains y=true):bd (xs++y::zs) m=xs.length:=by
 unfold bd
 induction xs with
 |nil=>rw [List.nil_append,List.findIdx_cons,hy];rfl
 |cons x xs ih=>
  rw [List.cons_append,List.findIdx_cons,h x (List.mem_cons_self ..),ih (fun b hb=>h b (List.mem_cons_of_mem _ hb))]
  rfl
theorem DL {m xs:Bs}(h:∀b∈xs,m.contains b=false):bd xs m=xs.length:=by
 unfold bd
 induction xs with
 |nil=>rfl
 |cons x xs ih=>
  rw [List.findIdx_cons,h x (List.mem_cons_self ..),ih (fun b hb=>h b (List.mem_cons_of_mem _ hb))]
  rfl
theorem DM(xs ys:Bs):ae (xs++ys) (xs.length:Int)=xs:=by unfold ae;rw [Int.toNat_natCast];simp
theorem DN(xs ys:Bs):aa (xs++ys) (xs.length:Int)=ys:=by unfold aa;rw [Int.toNat_natCast];simp
def vn(b:UInt8):Bool:=decide (b.toNat≤32)
def jC(b:UInt8):Bool:=decide (b=9∨b=10∨b=13)
def cO(l:Bs):Bs:=l.dropWhile vn
def dT(l:Bs):Bs:=(l.reverse.dropWhile vn).reverse
def an(l:Bs):Bs:=(dT (cO (aK l))).filter (fun b=>!jC b)
theorem xR {l:Bs}(h:∀b∈l,32<b.toNat):cO l=l:=by
 unfold cO
 cases l with
 |nil=>rfl
 |cons b l=>
  have:=h b (List.mem_cons_self ..)
  rw [List.dropWhile_cons_of_neg]
  unfold vn
  rw [decide_eq_true_iff];omega
theorem Gn {l:Bs}(h:∀b∈l,32<b.toNat):dT l=l:=by
 have:=xR (l:=l.reverse) (fun b hb=>h b (List.mem_reverse.1 hb))
 unfold cO at this
 unfold dT
 rw [this,List.reverse_reverse]
def RS.init(l:Bs):RS:=⟨[],[],[],0,[],0,z8,-1,false,true,[],false,[],false,[],false,false,l⟩
def KY:RS:={RS.init []with port:=0}
def L7(p:RS×Int):RS×Int:=if p.2=0 then p else(KY,p.2)
def bm(l:Bs):RS×Int:=L7 (RS.init (an l)).ao
section
def dX:Int→List Bs→Bool
 |_,[]=>false
 |n,s::ss=>if n≤(s.length:Int)then true else dX (n-s.length-1) ss
def Gp:cp:=bP []
def Gq(n:Int)(nl:Bool)(ss:List Bs):ba:=fun i=>bif Nat.beq i 2 then some ⟨(Int)×(Int),(fun s x=>((((s.put 0 (.int .i64 x.1)).put 5 (.int .i64 x.2)).put 9 .undef).put 18 .undef)),(fun s=>(s.int 0,s.int 5)),(fun s x=>let m:=x.1;let i:=x.2;0≤i∧i≤ss.length∧-1000000≤m+i∧m≤1000000∧dX n ss=dX m (ss.drop i.toNat)),(fun s x=>let m:=x.1;let i:=x.2;((ss.length:Int)-i).toNat),[9,18]⟩else none
theorem DO:cR Tryz.prog aA Gp:=ax
theorem Ja(n:Int)(nl:Bool)(ss:List Bs)(k:PV→Prop):cB Tryz.prog Gp aA (Gq n nl ss) 1000 Tryz.f13 [.int .i64 n,.row nl (.strs ss) 0] k=(
 VS.mk []
 [(0,PV.int .i64 n),(1,PV.row nl (ar.strs ss) (0:Nat)),(4,PV.bool false),
 (5,PV.int .i64 (0:Int)),((9:Nat),PV.undef),((18:Nat),PV.undef)]
 []=
 VS.mk []
 [((0:Nat),PV.int .i64 n),(1,PV.row nl (ar.strs ss) (0:Nat)),(4,PV.bool false),
 ((5:Nat),PV.int .i64 (0:Int)),((9:Nat),PV.undef),((18:Nat),PV.undef)]
 []∧
 ((0:Int)≤(0:Int)∧
 (0:Int)≤↑ss.length∧
 (-1000000:Int)≤n+(0:Int)∧
 n≤(1000000:Int)∧
 dX n ss=dX n (List.drop (Int.toNat (0:Int)) ss))∧
 ∀(x:Int×Int),
 (0:Int)≤x.2∧
 x.2≤↑ss.length∧
 (-1000000:Int)≤x.1+x.2∧
 x.1≤(1000000:Int)∧
 dX n ss=dX x.1 (List.drop x.2.toNat ss)→
 (decide (x.2<Int.ofNat ss.length)=true→
 within x.2 (Int.ofNat ss.length)∧
 (decide (x.1≤ak (eH ss x.2))=true→k (PV.bool true))∧
 (decide (x.1≤ak (eH ss x.2))=false→
 within x.2 (Int.ofNat ss.length)∧
 aD (x.1-ak (eH ss x.2))∧
 aD (x.1-ak (eH ss x.2)-(1:Int))∧
 aD (x.2+(1:Int))∧
 rV (VS.mk []
 [((0:Nat),PV.int .i64 (x.1-ak (eH ss x.2)-(1:Int))),
 (1,PV.row nl (ar.strs ss) (0:Nat)),(4,PV.bool false),
 ((5:Nat),PV.int .i64 (x.2+(1:Int))),((9:Nat),PV.undef),((18:Nat),PV.undef)]
 [])∧
 ((0:Int)≤x.2+(1:Int)∧
 x.2+(1:Int)≤↑ss.length∧
 (-1000000:Int)≤x.1-ak (eH ss x.2)-(1:Int)+(x.2+(1:Int))∧
 x.1-ak (eH ss x.2)-(1:Int)≤(1000000:Int)∧
 dX n ss=
 dX (x.1-ak (eH ss x.2)-(1:Int))
 (List.drop (x.2+(1:Int)).toNat ss))∧
 (↑ss.length-(x.2+(1:Int))).toNat<(↑ss.length-x.2).toNat))∧
 (decide (x.2<Int.ofNat ss.length)=false→k (PV.bool false))):=by kernel_rfl
attribute [local irreducible] Go.Vc.cB
theorem Jb(n:Int)(nl:Bool)(ss:List Bs):ag Tryz.prog aA 13 [.int .i64 n,.row nl (.strs ss) 0] ⟨-1000000≤n∧n≤1000000∧ss.length≤10,.bool (dX n ss)⟩:=bY (by kernel_rfl) DO (H:=Gq n nl ss) (fuel:=1000) Tryz.func13 (by kernel_rfl) fun hpre=>(Ja n nl ss _).mpr (by
 obtain ⟨p0,p1,p2⟩:=hpre
 refine ⟨rfl,⟨by omega,by omega,by omega,by omega,rfl⟩,fun x ⟨h0,h1,h2,h3,h4⟩=>⟨fun h=>?_,fun h=>?_⟩⟩
 ·have hlt:x.2<ss.length:=of_decide_eq_true h
  have hd:ss.drop x.2.toNat=eH ss x.2::ss.drop (x.2+1).toNat:=by
   rw [show(x.2+1).toNat=x.2.toNat+1 by omega,List.drop_eq_getElem_cons (by omega)]
   congr 1
   unfold eH
   rw [List.getD_eq_getElem?_getD,List.getElem?_eq_getElem (by omega)];rfl
  rw [hd,dX]at h4
  generalize eH ss x.2=t at *
  have hw:within x.2 (Int.ofNat ss.length):=⟨h0,hlt⟩
  unfold ak
  refine ⟨hw,fun g=>?_,fun g=>?_⟩
  ·rw [if_pos (of_decide_eq_true g)]at h4;rw [h4]
  ·have g:=of_decide_eq_false g
   rw [if_neg g]at h4
   exact ⟨hw,by unfold aD;omega,by unfold aD;omega,by unfold aD;omega,rfl,⟨by omega,by omega,by omega,by omega,h4⟩,by omega⟩
 ·have hge:¬x.2<ss.length:=of_decide_eq_false h
  rw [List.drop_eq_nil_iff.2 (by omega)]at h4
  rw [h4];rfl)
def qT:List PV→Option aG:=fun xs=>match xs with
 |[.int .i64 n,.row nl (.strs ss) 0]=>some ⟨-1000000≤n∧n≤1000000∧ss.length≤10,.bool (dX n ss)⟩
 |_=>none
theorem xS:∀xs c,qT xs=some c→ag Tryz.prog aA 13 xs c:=fun xs c h=>by
 unfold qT at h
 split at h
 ·injection h with h;subst h;exact Jb _ _ _
 ·cases h
end
section
theorem qU(l:Bs):(aK l).length≤4*l.length:=by
 have a:=(ml (eL l)).2
 have b:=mj _ l (Nat.le_refl _)
 unfold aK;omega
theorem qV {b:UInt8}{r:Bs}(h:b.toNat≤32):cO (b::r)=cO r:=by
 unfold cO
 rw [List.dropWhile_cons_of_pos]
 unfold vn;exact decide_eq_true h
theorem qW {b:UInt8}{r:Bs}(h:¬b.toNat≤32):cO (b::r)=b::r:=by
 unfold cO
 rw [List.dropWhile_cons_of_neg]
 unfold vn;rw [decide_eq_true_iff];exact h
theorem Am {b:UInt8}{r:Bs}(h:b.toNat≤32):dT (r++[b])=dT r:=by
 have:=qV (r:=r.reverse) h
 unfold cO at this
 unfold dT
 rw [List.reverse_append]
 show(List.dropWhile vn (b::r.reverse)).reverse=_
 rw [this]
theorem An {b:UInt8}{r:Bs}(h:¬b.toNat≤32):dT (r++[b])=r++[b]:=by
 have:=qW (r:=r.reverse) h
 unfold cO at this
 unfold dT
 rw [List.reverse_append]
 show(List.dropWhile vn (b::r.reverse)).reverse=_
 rw [this];simp
theorem Gr {y m:Bs}(h:jm y m=false):∀b∈y,m.contains b=false:=by
 have h1:¬0≤Lib.indexAny y m:=of_decide_eq_false h
 have h2:=((Ac m y).2 h1).2
 unfold bd at h2
 exact List.findIdx_eq_length.1 h2
theorem KZ(c:UInt8):(bif bif !decide ((c.toNat:Int)=9)then !decide ((c.toNat:Int)=10)else false then !decide ((c.toNat:Int)=13)else false)=!jC c:=by
 have e:∀(d:UInt8),decide ((c.toNat:Int)=(d.toNat:Int))=decide (c=d):=fun d=>by
  rw [decide_eq_decide]
  exact ⟨fun h=>UInt8.toNat_inj.1 (by omega),fun h=>by rw [h]⟩
 have e9:=e 9
 have e10:=e 10
 have e13:=e 13
 rw [show(((9:UInt8).toNat:Nat):Int)=9 from rfl]at e9
 rw [show(((10:UInt8).toNat:Nat):Int)=10 from rfl]at e10
 rw [show(((13:UInt8).toNat:Nat):Int)=13 from rfl]at e13
 rw [e9,e10,e13]
 unfold jC
 by_cases h9:c=9<;>by_cases h10:c=10<;>by_cases h13:c=13<;>simp [h9,h10,h13]
theorem xT(y:Bs)(i:Int)(h0:0≤i)(h1:i<y.length):(y.take (i+1).toNat).filter (fun c=>!jC c)=(y.take i.toNat).filter (fun c=>!jC c)++(if jC (y.getD i.toNat 0)=true then []else [y.getD i.toNat 0]):=by
 have hs:(i+1).toNat=i.toNat+1:=by omega
 rw [hs,List.take_add_one,List.getElem?_eq_getElem (by omega),List.filter_append,List.getD_eq_getElem?_getD,List.getElem?_eq_getElem (by omega)]
 congr 1
 show List.filter _ [y[i.toNat]'(by omega)]=_
 rw [List.filter_cons,List.filter_nil]
 show(if(!jC (y[i.toNat]'(by omega)))=true then _ else _)=(if jC (y[i.toNat]'(by omega))=true then _ else _)
 cases jC (y[i.toNat]'(by omega))<;>rfl
def BX:cp:=bP [(41,nT),(74,mB)]
def BY(l:Bs):ba:=fun i=>bif Nat.beq i 2 then some ⟨(Bs),(fun s x=>((s.put 0 (.str x)).put 14 .undef)),(fun s=>s.str 0),(fun s x=>let y:=x;y.length≤300000∧cO y=cO (aK l)),(fun s x=>let y:=x;y.length),[14]⟩else bif Nat.beq i 4 then some ⟨(Bs),(fun s x=>((s.put 0 (.str x)).put 26 .undef)),(fun s=>s.str 0),(fun s x=>let y:=x;y.length≤300000∧dT y=dT (cO (aK l))),(fun s x=>let y:=x;y.length),[26]⟩else bif Nat.beq i 10 then some ⟨(Int)×(Bool×Bs),(fun s x=>((((((s.put 41 (.int .i64 x.1)).row s 3 x.2.1 (.bytes x.2.2)).put 4 .undef).put 5 .undef).put 42 .undef).put 56 .undef)),(fun s=>(s.int 41,(s.nil 3,s.bytes 3))),(fun s x=>let i:=x.1;let b:=x.2;0≤i∧i≤(s.str 0).length∧b.1=false∧b.2=((s.str 0).take i.toNat).filter (fun c=>!jC c)),(fun s x=>let i:=x.1;let b:=x.2;(((s.str 0).length:Int)-i).toNat),[4,5,42,56]⟩else none
theorem Ao:cR Tryz.prog aA BX:=ai vh (ai lx (ax))
theorem Gs(l:Bs)(k:PV→Prop):cB Tryz.prog BX aA (BY l) 1000 Tryz.f46 [.str l] k=(
 (List.length l).le (1000000:Nat)∧
 VS.mk []
 [(0,PV.str (aK l)),(2,PV.str (ByteArray.mk #[]).data.toList),
 (3,PV.undef),(4,PV.undef),(5,PV.undef),((14:Nat),PV.undef),(26,PV.undef),
 (34,PV.undef),(40,PV.undef),(41,PV.undef),(42,PV.undef),(56,PV.undef)]
 []=
 VS.mk []
 [((0:Nat),PV.str (aK l)),(2,PV.str (ByteArray.mk #[]).data.toList),
 (3,PV.undef),(4,PV.undef),(5,PV.undef),((14:Nat),PV.undef),(26,PV.undef),
 (34,PV.undef),(40,PV.undef),(41,PV.undef),(42,PV.undef),(56,PV.undef)]
 []∧
 ((aK l).length≤(300000:Nat)∧
 cO (aK l)=
 cO (aK l))∧
 ∀(x:List UInt8),
 x.length≤(300000:Nat)∧
 cO x=cO (aK l)→
 ((!decide (x=(ByteArray.mk #[]).data.toList))=true→within (0:Int) (ak x))∧
 ((bif !decide (x=(ByteArray.mk #[]).data.toList)then decide (al x (0:Int)≤(32:Int))else false)=true→
 upto (1:Int) (ak x) (ak x)∧
 rV (VS.mk []
 [((0:Nat),PV.str (aa x (1:Int))),(2,PV.str (ByteArray.mk #[]).data.toList),
 (3,PV.undef),(4,PV.undef),(5,PV.undef),((14:Nat),PV.undef),
 (26,PV.undef),(34,PV.undef),(40,PV.undef),(41,PV.undef),
 (42,PV.undef),(56,PV.undef)]
 [])∧
 ((aa x (1:Int)).length≤(300000:Nat)∧
 cO (aa x (1:Int))=
 cO (aK l))∧
 (aa x (1:Int)).length<x.length)∧
 ((bif !decide (x=(ByteArray.mk #[]).data.toList)then decide (al x (0:Int)≤(32:Int))else false)=false→
 rV (VS.mk []
 [((0:Nat),PV.str x),(2,PV.str (ByteArray.mk #[]).data.toList),(3,PV.undef),
 (4,PV.undef),(5,PV.undef),
 ((14:Nat),
 PV.bool (bif !decide (x=(ByteArray.mk #[]).data.toList)then decide (al x (0:Int)≤(32:Int))else false)),
 ((26:Nat),PV.undef),(34,PV.undef),(40,PV.undef),(41,PV.undef),
 (42,PV.undef),(56,PV.undef)]
 [])∧
 (x.length≤(300000:Nat)∧
 dT x=
 dT (cO (aK l)))∧
 ∀(x_1:List UInt8),
 x_1.length≤(300000:Nat)∧
 dT x_1=
 dT
 (cO (aK l))→
 ((!decide (x_1=(ByteArray.mk #[]).data.toList))=true→aD (ak x_1-(1:Int)))∧
 ((!decide (x_1=(ByteArray.mk #[]).data.toList))=true→within (ak x_1-(1:Int)) (ak x_1))∧
 ((bif !decide (x_1=(ByteArray.mk #[]).data.toList)then decide (al x_1 (ak x_1-(1:Int))≤(32:Int))
 else false)=
 true→
 aD (ak x_1-(1:Int))∧
 upto (0:Int) (ak x_1-(1:Int)) (ak x_1)∧
 rV (VS.mk []
 [((0:Nat),PV.str (ae x_1 (ak x_1-(1:Int)))),
 (2,PV.str (ByteArray.mk #[]).data.toList),(3,PV.undef),(4,PV.undef),
 (5,PV.undef),
 ((14:Nat),
 PV.bool
 (bif !decide (x=(ByteArray.mk #[]).data.toList)then decide (al x (0:Int)≤(32:Int))
 else false)),
 ((26:Nat),PV.undef),(34,PV.undef),(40,PV.undef),
 (41,PV.undef),(42,PV.undef),(56,PV.undef)]
 [])∧
 ((ae x_1 (ak x_1-(1:Int))).length≤(300000:Nat)∧
 dT (ae x_1 (ak x_1-(1:Int)))=
 dT
 (cO (aK l)))∧
 (ae x_1 (ak x_1-(1:Int))).length<x_1.length)∧
 ((bif !decide (x_1=(ByteArray.mk #[]).data.toList)then decide (al x_1 (ak x_1-(1:Int))≤(32:Int))
 else false)=
 false→
 (x_1.length≤(1000000:Nat)∧
 (ByteArray.mk #[9,10,13]).data.toList.length≤(1000000:Nat)∧
 ∀(b:UInt8),b∈(ByteArray.mk #[9,10,13]).data.toList→b.toNat<(128:Nat))∧
 ((!jm x_1 (ByteArray.mk #[9,10,13]).data.toList)=
 true→
 k (PV.str x_1))∧
 ((!jm x_1 (ByteArray.mk #[9,10,13]).data.toList)=
 false→
 ((0:Int)≤(0:Int)∧(0:Int)≤ak x_1∧ak x_1≤dd)∧
 VS.mk []
 [((0:Nat),PV.str x_1),(2,PV.str (ByteArray.mk #[]).data.toList),
 (3,
 PV.row false (ar.bytes (List.replicate (Int.toNat (0:Int)) (0:UInt8)))
 ((38:Nat)+(32:Nat))),
 ((4:Nat),PV.undef),((5:Nat),PV.undef),
 ((14:Nat),
 PV.bool
 (bif !decide (x=(ByteArray.mk #[]).data.toList)then decide (al x (0:Int)≤(32:Int))
 else false)),
 ((26:Nat),
 PV.bool
 (bif !decide (x_1=(ByteArray.mk #[]).data.toList)then
 decide (al x_1 (ak x_1-(1:Int))≤(32:Int))
 else false)),
 (34,
 PV.bool
 !jm x_1
 (ByteArray.mk #[9,10,13]).data.toList),
 (40,PV.int .i64 (ak x_1)),(41,PV.int .i64 (0:Int)),
 ((42:Nat),PV.undef),((56:Nat),PV.undef)]
 []=
 VS.mk []
 [((0:Nat),PV.str x_1),(2,PV.str (ByteArray.mk #[]).data.toList),
 ((3:Nat),
 PV.row false (ar.bytes (List.replicate (Int.toNat (0:Int)) (0:UInt8)))
 ((38:Nat)+(32:Nat))),
 ((4:Nat),PV.undef),((5:Nat),PV.undef),
 ((14:Nat),
 PV.bool
 (bif !decide (x=(ByteArray.mk #[]).data.toList)then decide (al x (0:Int)≤(32:Int))
 else false)),
 ((26:Nat),
 PV.bool
 (bif !decide (x_1=(ByteArray.mk #[]).data.toList)then
 decide (al x_1 (ak x_1-(1:Int))≤(32:Int))
 else false)),
 (34,
 PV.bool
 !jm x_1
 (ByteArray.mk #[9,10,13]).data.toList),
 (40,PV.int .i64 (ak x_1)),((41:Nat),PV.int .i64 (0:Int)),
 ((42:Nat),PV.undef),((56:Nat),PV.undef)]
 []∧
 ((0:Int)≤(0:Int)∧
 (0:Int)≤↑x_1.length∧
 false=false∧
 List.replicate (Int.toNat (0:Int)) (0:UInt8)=
 List.filter (fun(c:UInt8)↦!jC c)
 (List.take (Int.toNat (0:Int)) x_1))∧
 ∀(x_2:Int×Bool×Bs),
 (0:Int)≤x_2.1∧
 x_2.1≤↑x_1.length∧
 x_2.2.1=false∧
 x_2.2.2=
 List.filter (fun(c:UInt8)↦!jC c)
 (List.take x_2.1.toNat x_1)→
 (decide (x_2.1<ak x_1)=true→
 within x_2.1 (ak x_1)∧
 ((bif
 bif !decide (al x_1 x_2.1=(9:Int))then
 !decide (al x_1 x_2.1=(10:Int))
 else false then
 !decide (al x_1 x_2.1=(13:Int))
 else false)=
 true→
 lR [PV.int .u8 (al x_1 x_2.1)]∧
 Int.ofNat (List.length (x_2.2.2++[bR (al x_1 x_2.1)]))≤dd∧
 aD (x_2.1+(1:Int))∧
 VS.mk []
 [((0:Nat),PV.str x_1),(2,PV.str (ByteArray.mk #[]).data.toList),
 ((3:Nat),
 PV.row false
 (ar.bytes (x_2.2.2++[bR (al x_1 x_2.1)]))
 (nat_lit 69+(1:Nat))),
 ((4:Nat),PV.undef),((5:Nat),PV.undef),
 ((14:Nat),
 PV.bool
 (bif !decide (x=(ByteArray.mk #[]).data.toList)then
 decide (al x (0:Int)≤(32:Int))
 else false)),
 ((26:Nat),
 PV.bool
 (bif !decide (x_1=(ByteArray.mk #[]).data.toList)then
 decide (al x_1 (ak x_1-(1:Int))≤(32:Int))
 else false)),
 (34,
 PV.bool
 !jm x_1
 (ByteArray.mk #[9,10,13]).data.toList),
 (40,PV.int .i64 (ak x_1)),
 ((41:Nat),PV.int .i64 (x_2.1+(1:Int))),
 ((42:Nat),PV.undef),((56:Nat),PV.undef)]
 []=
 VS.mk []
 [((0:Nat),PV.str x_1),(2,PV.str (ByteArray.mk #[]).data.toList),
 ((3:Nat),
 PV.row false
 (ar.bytes (x_2.2.2++[bR (al x_1 x_2.1)]))
 ((38:Nat)+(32:Nat))),
 ((4:Nat),PV.undef),((5:Nat),PV.undef),
 ((14:Nat),
 PV.bool
 (bif !decide (x=(ByteArray.mk #[]).data.toList)then
 decide (al x (0:Int)≤(32:Int))
 else false)),
 ((26:Nat),
 PV.bool
 (bif !decide (x_1=(ByteArray.mk #[]).data.toList)then
 decide (al x_1 (ak x_1-(1:Int))≤(32:Int))
 else false)),
 (34,
 PV.bool
 !jm x_1
 (ByteArray.mk #[9,10,13]).data.toList),
 (40,PV.int .i64 (ak x_1)),
 ((41:Nat),PV.int .i64 (x_2.1+(1:Int))),
 ((42:Nat),PV.undef),((56:Nat),PV.undef)]
 []∧
 ((0:Int)≤x_2.1+(1:Int)∧
 x_2.1+(1:Int)≤↑x_1.length∧
 false=false∧
 x_2.2.2++[bR (al x_1 x_2.1)]=
 List.filter (fun(c:UInt8)↦!jC c)
 (List.take (x_2.1+(1:Int)).toNat x_1))∧
 (↑x_1.length-(x_2.1+(1:Int))).toNat<(↑x_1.length-x_2.1).toNat)∧
 ((bif
 bif !decide (al x_1 x_2.1=(9:Int))then
 !decide (al x_1 x_2.1=(10:Int))
 else false then
 !decide (al x_1 x_2.1=(13:Int))
 else false)=
 false→
 aD (x_2.1+(1:Int))∧
 rV (VS.mk []
 [((0:Nat),PV.str x_1),(2,PV.str (ByteArray.mk #[]).data.toList),
 ((3:Nat),
 PV.row x_2.2.1 (ar.bytes x_2.2.2) ((38:Nat)+(32:Nat))),
 ((4:Nat),PV.undef),((5:Nat),PV.undef),
 ((14:Nat),
 PV.bool
 (bif !decide (x=(ByteArray.mk #[]).data.toList)then
 decide (al x (0:Int)≤(32:Int))
 else false)),
 ((26:Nat),
 PV.bool
 (bif !decide (x_1=(ByteArray.mk #[]).data.toList)then
 decide (al x_1 (ak x_1-(1:Int))≤(32:Int))
 else false)),
 (34,
 PV.bool
 !jm x_1
 (ByteArray.mk #[9,10,13]).data.toList),
 (40,PV.int .i64 (ak x_1)),
 ((41:Nat),PV.int .i64 (x_2.1+(1:Int))),
 ((42:Nat),PV.undef),((56:Nat),PV.undef)]
 [])∧
 ((0:Int)≤x_2.1+(1:Int)∧
 x_2.1+(1:Int)≤↑x_1.length∧
 x_2.2.1=false∧
 x_2.2.2=
 List.filter (fun(c:UInt8)↦!jC c)
 (List.take (x_2.1+(1:Int)).toNat x_1))∧
 (↑x_1.length-(x_2.1+(1:Int))).toNat<(↑x_1.length-x_2.1).toNat))∧
 (decide (x_2.1<ak x_1)=false→k (PV.str x_2.2.2)))))):=by kernel_rfl
attribute [local irreducible] Go.Vc.cB
theorem Gt(l:Bs):ag Tryz.prog aA 46 [.str l] ⟨l.length≤60000,.str (an l)⟩:=bY (by kernel_rfl) Ao (H:=BY l) (fuel:=1000) Tryz.func46 (by kernel_rfl) fun hpre=>(Gs l _).mpr (by
 have hp:=qU l
 have e0:(ByteArray.mk #[]).data.toList=([]:Bs):=rfl
 have h9:∀b:UInt8,b∈(ByteArray.mk #[9,10,13]).data.toList→b.toNat<128:=by rw [show(ByteArray.mk #[9,10,13]).data.toList=([9,10,13]:Bs)from rfl];decide
 have ne:∀x:Bs,(!decide (x=(ByteArray.mk #[]).data.toList))=true→0<x.length:=fun x h=>by
  have h':decide (x=(ByteArray.mk #[]).data.toList)=false:=by simpa using h
  exact List.length_pos_iff.2 (of_decide_eq_false h')
 have d1:∀x:Bs,(bif !decide (x=(ByteArray.mk #[]).data.toList)then decide (al x (0:Int)≤(32:Int))else false)=true→∃b r,x=b::r∧b.toNat≤32:=fun x h=>by
  cases x with
  |nil=>cases h
  |cons b r=>
   refine ⟨b,r,rfl,?_⟩
   have:decide (al (b::r) (0:Int)≤(32:Int))=true:=h
   have:=of_decide_eq_true this
   have e:al (b::r) 0=(b.toNat:Int):=rfl
   omega
 have d0:∀x:Bs,(bif !decide (x=(ByteArray.mk #[]).data.toList)then decide (al x (0:Int)≤(32:Int))else false)=false→cO x=x:=fun x h=>by
  cases x with
  |nil=>rfl
  |cons b r=>
   have:decide (al (b::r) (0:Int)≤(32:Int))=false:=h
   have:=of_decide_eq_false this
   have e:al (b::r) 0=(b.toNat:Int):=rfl
   exact qW (by omega)
 have lastb:∀(r:Bs) (b:UInt8),al (r++[b]) (ak (r++[b])-1)=(b.toNat:Int):=fun r b=>by
  unfold al ak
  have:(((r++[b]).length:Int)-1).toNat=r.length:=by simp
  rw [this];simp
 have g1:∀x:Bs,(bif !decide (x=(ByteArray.mk #[]).data.toList)then decide (al x (ak x-(1:Int))≤(32:Int))else false)=true→∃b r,x=r++[b]∧b.toNat≤32:=fun x h=>by
  rcases List.eq_nil_or_concat x with rfl|⟨r,b,rfl⟩
  ·cases h
  ·refine ⟨b,r,by simp,?_⟩
   rw [List.concat_eq_append]at h
   cases e:(!decide (r++[b]=(ByteArray.mk #[]).data.toList))with
   |false=>rw [e]at h;cases h
   |true=>
    rw [e]at h
    have:=of_decide_eq_true (show decide _=true from h)
    rw [lastb]at this
    omega
 have g0:∀x:Bs,(bif !decide (x=(ByteArray.mk #[]).data.toList)then decide (al x (ak x-(1:Int))≤(32:Int))else false)=false→dT x=x:=fun x h=>by
  rcases List.eq_nil_or_concat x with rfl|⟨r,b,rfl⟩
  ·rfl
  ·rw [List.concat_eq_append]at h⊢
   cases e:(!decide (r++[b]=(ByteArray.mk #[]).data.toList))with
   |false=>
    have:decide (r++[b]=(ByteArray.mk #[]).data.toList)=true:=by rw [←Bool.not_eq_false'];exact e
    have:=of_decide_eq_true this
    exact absurd this (by rw [e0];simp)
   |true=>
    rw [e]at h
    have:=of_decide_eq_false (show decide _=false from h)
    rw [lastb]at this
    exact An (by omega)
 refine ⟨show l.length≤1000000 by omega,rfl,⟨by omega,rfl⟩,fun x ⟨h1,h2⟩=>⟨fun h=>?_,fun h=>?_,fun h=>⟨rfl,⟨h1,by rw [←h2,d0 x h]⟩,fun y ⟨h3,h4⟩=>⟨fun g=>?_,fun g=>?_,fun g=>?_,fun g=>⟨⟨by omega,by decide,h9⟩,fun c=>?_,fun c=>⟨⟨Int.le_refl _,by unfold ak;omega,by unfold ak dd;omega⟩,rfl,⟨Int.le_refl _,by omega,rfl,rfl⟩,fun z ⟨z0,z1,z2,z3⟩=>⟨fun d=>?_,fun d=>?_⟩⟩⟩⟩⟩⟩⟩
 ·have:=ne x h;unfold within ak;omega
 ·obtain ⟨b,r,rfl,hb⟩:=d1 x h
  rw [qV hb]at h2
  rw [List.length_cons]at h1
  refine ⟨by unfold upto ak;rw [List.length_cons];omega,rfl,⟨?_,h2⟩,?_⟩
  ·show r.length≤_;omega
  ·show r.length<(b::r).length;rw [List.length_cons];omega
 ·have:=ne y g;unfold aD ak;omega
 ·have:=ne y g;unfold within ak;omega
 ·obtain ⟨b,r,rfl,hb⟩:=g1 y g
  rw [Am hb]at h4
  rw [List.length_append]at h3
  have hl:(r++[b]).length=r.length+1:=by simp
  have e:ae (r++[b]) (ak (r++[b])-1)=r:=by
   unfold ae ak
   have:(((r++[b]).length:Int)-1).toNat=r.length:=by simp
   rw [this,List.take_left]
  rw [e]
  exact ⟨by unfold aD ak;omega,by unfold upto ak;omega,rfl,⟨by omega,h4⟩,by omega⟩
 ·have hc:jm y [9,10,13]=false:=by simpa using c
  have h5:=Gr hc
  have h6:y.filter (fun c=>!jC c)=y:=by
   rw [List.filter_eq_self]
   intro b hb
   have:=h5 b hb
   unfold jC
   rw [Bool.not_eq_true',decide_eq_false_iff_not]
   rintro (rfl|rfl|rfl)<;>revert this<;>decide
  show PV.str y=PV.str (an l)
  unfold an
  rw [←h4,g0 y g,h6]
 ·have hlt:z.1<y.length:=of_decide_eq_true d
  have hst:=xT y z.1 z0 hlt
  have hby:al y z.1=((y.getD z.1.toNat 0).toNat:Int):=rfl
  have hcr:=(y.getD z.1.toNat 0).toNat_lt
  have hzl:z.2.2.length≤y.length:=by rw [z3];exact Nat.le_trans (List.length_filter_le _ _) (by rw [List.length_take];exact Nat.min_le_right _ _)
  have hzb:bR (al y z.1)=y.getD z.1.toNat 0:=jS y z.1
  rw [hzb,hby,KZ]
  refine ⟨⟨z0,hlt⟩,fun e=>⟨?_,?_,by unfold aD;omega,rfl,⟨by omega,by omega,rfl,?_⟩,by omega⟩,fun e=>⟨by unfold aD;omega,rfl,⟨by omega,by omega,z2,?_⟩,by omega⟩⟩
  ·show pP (((y.getD z.1.toNat 0).toNat:Nat):Int);unfold pP;omega
  ·rw [List.length_append]
   show((z.2.2.length+1:Nat):Int)≤16777216
   omega
  ·rw [hst,if_neg (by simpa using e),z3]
  ·rw [hst,if_pos (by simpa using e),z3,List.append_nil]
 ·have hge:¬z.1<y.length:=of_decide_eq_false d
  show PV.str z.2.2=PV.str (an l)
  unfold an
  rw [z3,←h4,g0 y g,List.take_of_length_le (by omega)])
def kv:List PV→Option aG:=fun xs=>match xs with
 |[.str l]=>some ⟨l.length≤60000,.str (an l)⟩
 |_=>none
theorem mI:∀xs c,kv xs=some c→ag Tryz.prog aA 46 xs c:=fun xs c h=>by
 unfold kv at h
 split at h
 ·injection h with h;subst h;exact Gt _
 ·cases h
end
def bT(b:PV)(m:Nat)(sc us pw:Bs)(hk:Int)(hs:Bs)(hn:Int)(hp:List Int)(port:Int)(opq pn:Bool)(pl:List Bs)(hq:Bool)(q:Bs)(hf:Bool)(fg:Bs)(bare sp:Bool)(rst:Bs):PV:=(aE m b sc us pw hk hs hn hp port opq pn pl hq q hf fg bare sp rst)
theorem Ap(l:Bs)(sp:Bool):ag Tryz.prog aA 136 [.str l,.bool sp] ⟨l.length≤300000,.tup [.agg [.int .i64 (aP sp l).1,.str (aP sp l).2.1,.int .u32 (aP sp l).2.2.1,.arr 8 (.ints .u16 (aP sp l).2.2.2.1)],.int .i64 (aP sp l).2.2.2.2]⟩:=by
 cases sp with
 |true=>exact (tM l).to (fun h=>by show l.length≤1000000;omega) (fun _=>rfl)
 |false=>exact (Ai l).to (fun h=>h) (fun _=>rfl)
def jY:List PV→Option aG:=fun xs=>match xs with |[.str l,.bool sp]=>some ⟨l.length≤300000,.tup [.agg [.int .i64 (aP sp l).1,.str (aP sp l).2.1,.int .u32 (aP sp l).2.2.1,.arr 8 (.ints .u16 (aP sp l).2.2.2.1)],.int .i64 (aP sp l).2.2.2.2]⟩|_=>none
theorem qX:∀xs c,jY xs=some c→ag Tryz.prog aA 136 xs c:=fun xs c h=>by
 unfold jY at h
 split at h
 ·injection h with h;subst h;exact Ap _ _
 ·cases h
theorem Jc(l:Bs):ag Tryz.prog aA 119 [.str l] ⟨l.length≤300000∧(ab l l 0).2.2=true,.tup [.str (ab l l 0).1,.str (ab l l 0).2.1,.bool true]⟩:=(tK l).to (fun h=>h.1) (fun h=>by rw [h.2])
theorem Jd(l:Bs):ag Tryz.prog aA 119 [.str l] ⟨l.length≤300000∧(ab l l 0).2.2=false,.tup [.str (ab l l 0).1,.str (ab l l 0).2.1,.bool false]⟩:=(tK l).to (fun h=>h.1) (fun h=>by rw [h.2])
def qY:List PV→Option aG:=fun xs=>match xs with |[.str l]=>some ⟨l.length≤300000∧(ab l l 0).2.2=true,.tup [.str (ab l l 0).1,.str (ab l l 0).2.1,.bool true]⟩|_=>none
theorem xU:∀xs c,qY xs=some c→ag Tryz.prog aA 119 xs c:=fun xs c h=>by
 unfold qY at h
 split at h
 ·injection h with h;subst h;exact Jc _
 ·cases h
def mJ:List PV→Option aG:=fun xs=>match xs with |[.str l]=>some ⟨l.length≤300000∧(ab l l 0).2.2=false,.tup [.str (ab l l 0).1,.str (ab l l 0).2.1,.bool false]⟩|_=>none
theorem oX:∀xs c,mJ xs=some c→ag Tryz.prog aA 119 xs c:=fun xs c h=>by
 unfold mJ at h
 split at h
 ·injection h with h;subst h;exact Jd _
 ·cases h
def tQ(l:Bs):Bool:=decide (l=[])||decide (al l 0=35)
def RS.LI(x b:RS):RS:={x with hk:=b.hk,hs:=b.hs,hn:=b.hn,hp:=b.hp}
def RS.LJ(x b:RS):RS:={x with pn:=b.pn,pl:=b.pl}
def RS.Gu(x b:RS):RS:={x with hq:=b.hq,q:=b.q}
def RS.qZ(x b:RS):RS:=if tQ x.rst=true then x.Gu b else x
def RS.short(x:RS):RS:={x with pn:=(b6 x.sc (x.pn,x.pl)).1,pl:=(b6 x.sc (x.pn,x.pl)).2}
def RS.b9(x b:RS):RS:=(((RS.LI {x with hk:=1} b).LJ b).short).path
def RS.aw(x b:RS):RS:=(RS.b9 {x with sc:=b.sc,bare:=true,sp:=ay b.sc} b).tail
theorem K0(l:Bs):ag Tryz.prog aA 156 [.str l] ⟨l.length≤1000000,.bool (bw l)⟩:=
 ag.ck Tryz.func156 (by kernel_rfl) rfl fun h0 F w vs _ _ hw hx=>by
  obtain ⟨_,_,rfl,r1,rfl⟩:=hx
  obtain rfl:=r1
  exact ⟨.bool (bw l),(zL l w h0).mono fun e w' ⟨h1,h2⟩=>⟨h1,h2▸Below.refl _ _⟩,fun G w=>rfl⟩
def vo:List PV→Option aG:=fun xs=>match xs with
 |[.str l]=>some ⟨l.length≤1000000,.bool (bw l)⟩
 |_=>none
theorem Aq:∀xs c,vo xs=some c→ag Tryz.prog aA 156 xs c:=fun xs c h=>by
 unfold vo at h
 split at h
 ·injection h with h;subst h;exact K0 _
 ·cases h
section
def tR:cp:=bP [(119,mJ),(27,dQ),(78,cY)]
def tS(sc us pw:Bs)(hk:Int)(hs:Bs)(hn:Int)(hp:List Int)(port:Int)(opq pn:Bool)(pl:List Bs)(hq:Bool)(q:Bs)(hf:Bool)(fg:Bs)(bare sp:Bool)(rst:Bs)(bsc bus bpw:Bs)(bhk:Int)(bhs:Bs)(bhn:Int)(bhp:List Int)(bport:Int)(bopq bpn:Bool)(bpl:List Bs)(bhq:Bool)(bq:Bs)(bhf:Bool)(bfg:Bs):ba:=fun i=>none
theorem vp:cR Tryz.prog aA tR:=ai oX (ai dR (ai cI (ax)))
theorem Ar(sc us pw:Bs)(hk:Int)(hs:Bs)(hn:Int)(hp:List Int)(port:Int)(opq pn:Bool)(pl:List Bs)(hq:Bool)(q:Bs)(hf:Bool)(fg:Bs)(bare sp:Bool)(rst:Bs)(bsc bus bpw:Bs)(bhk:Int)(bhs:Bs)(bhn:Int)(bhp:List Int)(bport:Int)(bopq bpn:Bool)(bpl:List Bs)(bhq:Bool)(bq:Bs)(bhf:Bool)(bfg:Bs)(k:PV→List PV→Prop):bQ Tryz.prog tR aA (tS sc us pw hk hs hn hp port opq pn pl hq q hf fg bare sp rst bsc bus bpw bhk bhs bhn bhp bport bopq bpn bpl bhq bq bhf bfg) 1000 Tryz.f75 [.ptr 0 0] [aE 1 (.ptr 1 0) sc us pw hk hs hn hp port opq pn pl hq q hf fg bare sp rst,bE 0 bsc bus bpw bhk bhs bhn bhp bport bopq bpn bpl bhq bq bhf bfg] k=(
 (List.length rst≤(300000:Nat)∧
 (ab rst rst (0:Nat)).2.2=false)∧
 (false=true→
 True∧
 (bopq=true→
 False)∧
 (bopq=false→
 k (PV.int .i64 (0:Int)) [bT (PV.ptr (1:Nat) (0:Nat)) 1 ((ab rst rst (0:Nat)).1) us pw hk hs hn hp port opq pn pl hq q hf fg (!false) (ay (ab rst rst (0:Nat)).1) ((ab rst rst (0:Nat)).2.1),bE (0:Nat) bsc bus bpw bhk bhs bhn bhp bport bopq bpn bpl bhq bq bhf bfg]))∧
 (false=false→
 (false=true→
 (false=true→
 k (PV.int .i64 (8:Int)) [bT (PV.ptr (1:Nat) (0:Nat)) 1 sc us pw hk hs hn hp port opq pn pl hq q hf fg bare sp rst,bE (0:Nat) bsc bus bpw bhk bhs bhn bhp bport bopq bpn bpl bhq bq bhf bfg])∧
 (false=false→
 True∧
 (bopq=true→
 False)∧
 (bopq=false→
 k (PV.int .i64 (0:Int)) [bT (PV.ptr (1:Nat) (0:Nat)) 1 bsc us pw hk hs hn hp port opq pn pl hq q hf fg (!false) (ay bsc) rst,bE (0:Nat) bsc bus bpw bhk bhs bhn bhp bport bopq bpn bpl bhq bq bhf bfg])))∧
 (false=false→
 (bopq=true→
 True)∧
 ((bif bopq then !preB rst (ByteArray.mk #[35]).data.toList else false)=true→
 k (PV.int .i64 (8:Int)) [bT (PV.ptr (1:Nat) (0:Nat)) 1 sc us pw hk hs hn hp port opq pn pl hq q hf fg bare sp rst,bE (0:Nat) bsc bus bpw bhk bhs bhn bhp bport bopq bpn bpl bhq bq bhf bfg])∧
 ((bif bopq then !preB rst (ByteArray.mk #[35]).data.toList else false)=false→
 True∧
 (bopq=true→
 False)∧
 (bopq=false→
 k (PV.int .i64 (0:Int)) [bT (PV.ptr (1:Nat) (0:Nat)) 1 bsc us pw hk hs hn hp port opq pn pl hq q hf fg (!false) (ay bsc) rst,bE (0:Nat) bsc bus bpw bhk bhs bhn bhp bport bopq bpn bpl bhq bq bhf bfg]))))):=by kernel_rfl
attribute [local irreducible] Go.Vc.cB Go.Vc.bQ
theorem vq(sc us pw:Bs)(hk:Int)(hs:Bs)(hn:Int)(hp:List Int)(port:Int)(opq pn:Bool)(pl:List Bs)(hq:Bool)(q:Bs)(hf:Bool)(fg:Bs)(bare sp:Bool)(rst:Bs)(bsc bus bpw:Bs)(bhk:Int)(bhs:Bs)(bhn:Int)(bhp:List Int)(bport:Int)(bopq bpn:Bool)(bpl:List Bs)(bhq:Bool)(bq:Bs)(bhf:Bool)(bfg:Bs):bt Tryz.prog aA 75 [.ptr 0 0] [aE 1 (.ptr 1 0) sc us pw hk hs hn hp port opq pn pl hq q hf fg bare sp rst,bE 0 bsc bus bpw bhk bhs bhn bhp bport bopq bpn bpl bhq bq bhf bfg] (rst.length≤300000∧(ab rst rst 0).2.2=false∧bopq=false) (.int .i64 0) [aE 1 (.ptr 1 0) bsc us pw hk hs hn hp port opq pn pl hq q hf fg true (ay bsc) rst,bE 0 bsc bus bpw bhk bhs bhn bhp bport bopq bpn bpl bhq bq bhf bfg]:=bG (by kernel_rfl) vp (H:=tS sc us pw hk hs hn hp port opq pn pl hq q hf fg bare sp rst bsc bus bpw bhk bhs bhn bhp bport bopq bpn bpl bhq bq bhf bfg) (fuel:=1000) Tryz.func75 (by kernel_rfl) (Nat.le_of_ble_eq_true rfl) fun hpre=>(Ar sc us pw hk hs hn hp port opq pn pl hq q hf fg bare sp rst bsc bus bpw bhk bhs bhn bhp bport bopq bpn bpl bhq bq bhf bfg _).mpr (by
 obtain ⟨h1,h2,rfl⟩:=hpre
 exact ⟨⟨h1,h2⟩,nofun,fun _=>⟨nofun,fun _=>⟨nofun,nofun,fun _=>⟨trivial,nofun,fun _=>⟨rfl,rfl⟩⟩⟩⟩⟩)
theorem As(sc us pw:Bs)(hk:Int)(hs:Bs)(hn:Int)(hp:List Int)(port:Int)(opq pn:Bool)(pl:List Bs)(hq:Bool)(q:Bs)(hf:Bool)(fg:Bs)(bare sp:Bool)(rst:Bs)(bsc bus bpw:Bs)(bhk:Int)(bhs:Bs)(bhn:Int)(bhp:List Int)(bport:Int)(bopq bpn:Bool)(bpl:List Bs)(bhq:Bool)(bq:Bs)(bhf:Bool)(bfg:Bs):ag Tryz.prog aA 75 [.ptr 0 0,aE 1 (.ptr 1 0) sc us pw hk hs hn hp port opq pn pl hq q hf fg bare sp rst,bE 0 bsc bus bpw bhk bhs bhn bhp bport bopq bpn bpl bhq bq bhf bfg] ⟨rst.length≤300000∧(ab rst rst 0).2.2=false∧bopq=false,.tup [.int .i64 0,aE 1 (.ptr 1 0) bsc us pw hk hs hn hp port opq pn pl hq q hf fg true (ay bsc) rst,bE 0 bsc bus bpw bhk bhs bhn bhp bport bopq bpn bpl bhq bq bhf bfg]⟩:=ag.bg (fun h=>by have e:List.isEmpty (PV.aB PV.bD [.ptr 0 0,aE 1 (.ptr 1 0) sc us pw hk hs hn hp port opq pn pl hq q hf fg bare sp rst,bE 0 bsc bus bpw bhk bhs bhn bhp bport bopq bpn bpl bhq bq bhf bfg])=false:=(by kernel_rfl);exact Bool.noConfusion (e.symm.trans (congrArg List.isEmpty h))) (vq sc us pw hk hs hn hp port opq pn pl hq q hf fg bare sp rst bsc bus bpw bhk bhs bhn bhp bport bopq bpn bpl bhq bq bhf bfg)
def jZ:List PV→Option aG:=fun xs=>match xs with
 |[.ptr 0 0,aE 1 (.ptr 1 0) sc us pw hk hs hn hp port opq pn pl hq q hf fg bare sp rst,bE 0 bsc bus bpw bhk bhs bhn bhp bport bopq bpn bpl bhq bq bhf bfg]=>some ⟨rst.length≤300000∧(ab rst rst 0).2.2=false∧bopq=false,.tup [.int .i64 0,aE 1 (.ptr 1 0) bsc us pw hk hs hn hp port opq pn pl hq q hf fg true (ay bsc) rst,bE 0 bsc bus bpw bhk bhs bhn bhp bport bopq bpn bpl bhq bq bhf bfg]⟩
 |_=>none
theorem ra:∀xs c,jZ xs=some c→ag Tryz.prog aA 75 xs c:=fun xs c h=>by
 unfold jZ at h
 split at h
 ·injection h with h;subst h;exact As _ _ _ _ _ _ _ _ _ _ _ _ _ _ _ _ _ _ _ _ _ _ _ _ _ _ _ _ _ _ _ _ _
 ·cases h
end
section
def BZ:cp:=bP []
def B3(bp:Option Addr)(sc us pw:Bs)(hk:Int)(hs:Bs)(hn:Int)(hp:List Int)(port:Int)(opq pn:Bool)(pl:List Bs)(hq:Bool)(q:Bs)(hf:Bool)(fg:Bs)(bare sp:Bool)(rst:Bs)(at_:Int):ba:=fun i=>none
theorem Au:cR Tryz.prog aA BZ:=ax
theorem Gv(bp:Option Addr)(sc us pw:Bs)(hk:Int)(hs:Bs)(hn:Int)(hp:List Int)(port:Int)(opq pn:Bool)(pl:List Bs)(hq:Bool)(q:Bs)(hf:Bool)(fg:Bs)(bare sp:Bool)(rst:Bs)(at_:Int)(k:PV→List PV→Prop):bQ Tryz.prog BZ aA (B3 bp sc us pw hk hs hn hp port opq pn pl hq q hf fg bare sp rst at_) 1000 Tryz.f82 [.ptr 0 0,.int .i64 at_] [aE 1 (.raw (.pointer bp)) sc us pw hk hs hn hp port opq pn pl hq q hf fg bare sp rst] k=(
 (decide (at_<ak rst)=true→
 within at_ (ak rst))∧
 (decide (at_<ak rst)=true→
 decide (al rst at_=(47:Int))=false→
 sp=true→
 within at_ (ak rst))∧
 k (PV.bool (bif decide (at_<ak rst)then bif decide (al rst at_=(47:Int))then true else bif sp then decide (al rst at_=(92:Int))else false else false)) [bT (PV.raw (Go.Value.pointer bp)) 1 sc us pw hk hs hn hp port opq pn pl hq q hf fg bare sp rst]):=by kernel_rfl
attribute [local irreducible] Go.Vc.cB Go.Vc.bQ
theorem rb(bp:Option Addr)(sc us pw:Bs)(hk:Int)(hs:Bs)(hn:Int)(hp:List Int)(port:Int)(opq pn:Bool)(pl:List Bs)(hq:Bool)(q:Bs)(hf:Bool)(fg:Bs)(bare sp:Bool)(rst:Bs)(at_:Int):bt Tryz.prog aA 82 [.ptr 0 0,.int .i64 at_] [aE 1 (.raw (.pointer bp)) sc us pw hk hs hn hp port opq pn pl hq q hf fg bare sp rst] (0≤at_∧at_<1000) (.bool (az sp rst at_)) [aE 1 (.raw (.pointer bp)) sc us pw hk hs hn hp port opq pn pl hq q hf fg bare sp rst]:=bG (by kernel_rfl) Au (H:=B3 bp sc us pw hk hs hn hp port opq pn pl hq q hf fg bare sp rst at_) (fuel:=1000) Tryz.func82 (by kernel_rfl) (Nat.le_of_ble_eq_true rfl) fun hpre=>(Gv bp sc us pw hk hs hn hp port opq pn pl hq q hf fg bare sp rst at_ _).mpr (by
 refine ⟨fun h=>?_,fun h _ _=>?_,?_,rfl⟩
 ·unfold within;simp at h;omega
 ·unfold within;simp at h;omega
 ·congr 1
  by_cases h1:at_<ak rst<;>by_cases h2:al rst at_=47<;>cases sp<;>simp [az,h1,h2])
theorem Gw(bp:Option Addr)(sc us pw:Bs)(hk:Int)(hs:Bs)(hn:Int)(hp:List Int)(port:Int)(opq pn:Bool)(pl:List Bs)(hq:Bool)(q:Bs)(hf:Bool)(fg:Bs)(bare sp:Bool)(rst:Bs)(at_:Int):ag Tryz.prog aA 82 [.ptr 0 0,.int .i64 at_,aE 1 (.raw (.pointer bp)) sc us pw hk hs hn hp port opq pn pl hq q hf fg bare sp rst] ⟨0≤at_∧at_<1000,.tup [.bool (az sp rst at_),aE 1 (.raw (.pointer bp)) sc us pw hk hs hn hp port opq pn pl hq q hf fg bare sp rst]⟩:=ag.bg (fun h=>by have e:List.isEmpty (PV.aB PV.bD [.ptr 0 0,.int .i64 at_,aE 1 (.raw (.pointer bp)) sc us pw hk hs hn hp port opq pn pl hq q hf fg bare sp rst])=false:=(by kernel_rfl);exact Bool.noConfusion (e.symm.trans (congrArg List.isEmpty h))) (rb bp sc us pw hk hs hn hp port opq pn pl hq q hf fg bare sp rst at_)
def gz:List PV→Option aG:=fun xs=>match xs with
 |[.ptr 0 0,.int .i64 at_,aE 1 (.raw (.pointer bp)) sc us pw hk hs hn hp port opq pn pl hq q hf fg bare sp rst]=>some ⟨0≤at_∧at_<1000,.tup [.bool (az sp rst at_),aE 1 (.raw (.pointer bp)) sc us pw hk hs hn hp port opq pn pl hq q hf fg bare sp rst]⟩
 |_=>none
theorem gv:∀xs c,gz xs=some c→ag Tryz.prog aA 82 xs c:=fun xs c h=>by
 unfold gz at h
 split at h
 ·injection h with h;subst h;exact Gw _ _ _ _ _ _ _ _ _ _ _ _ _ _ _ _ _ _ _ _
 ·cases h
end
section
def oY:cp:=bP [(82,gz)]
def oZ(bp:Option Addr)(sc us pw:Bs)(hk:Int)(hs:Bs)(hn:Int)(hp:List Int)(port:Int)(opq pn:Bool)(pl:List Bs)(hq:Bool)(q:Bs)(hf:Bool)(fg:Bs)(bare sp:Bool)(rst:Bs):ba:=fun i=>none
theorem re:cR Tryz.prog aA oY:=ai gv (ax)
theorem vr(bp:Option Addr)(sc us pw:Bs)(hk:Int)(hs:Bs)(hn:Int)(hp:List Int)(port:Int)(opq pn:Bool)(pl:List Bs)(hq:Bool)(q:Bs)(hf:Bool)(fg:Bs)(bare sp:Bool)(rst:Bs)(k:PV→List PV→Prop):bQ Tryz.prog oY aA (oZ bp sc us pw hk hs hn hp port opq pn pl hq q hf fg bare sp rst) 1000 Tryz.f84 [.ptr 0 0] [aE 1 (.raw (.pointer bp)) sc us pw hk hs hn hp port opq pn pl hq q hf fg bare sp rst] k=(
 ((0:Int)≤(0:Int)∧
 (0:Int)<(1000:Int))∧
 ((!az sp rst (0:Int))=true→
 k (PV.bool false) [bT (PV.raw (Go.Value.pointer bp)) 1 sc us pw hk hs hn hp port opq pn pl hq q hf fg bare sp rst])∧
 ((!az sp rst (0:Int))=false→
 upto (1:Int) (ak rst) (ak rst)∧
 k (PV.bool true) [bT (PV.raw (Go.Value.pointer bp)) 1 sc us pw hk hs hn hp port opq pn pl hq q hf fg bare sp (aa rst (1:Int))])):=by kernel_rfl
attribute [local irreducible] Go.Vc.cB Go.Vc.bQ
theorem j0(bp:Option Addr)(sc us pw:Bs)(hk:Int)(hs:Bs)(hn:Int)(hp:List Int)(port:Int)(opq pn:Bool)(pl:List Bs)(hq:Bool)(q:Bs)(hf:Bool)(fg:Bs)(bare sp:Bool)(rst:Bs):bt Tryz.prog aA 84 [.ptr 0 0] [aE 1 (.raw (.pointer bp)) sc us pw hk hs hn hp port opq pn pl hq q hf fg bare sp rst] (True) (.bool (az sp rst 0)) [aE 1 (.raw (.pointer bp)) sc us pw hk hs hn hp port opq pn pl hq q hf fg bare sp (if az sp rst 0=true then aa rst 1 else rst)]:=bG (by kernel_rfl) re (H:=oZ bp sc us pw hk hs hn hp port opq pn pl hq q hf fg bare sp rst) (fuel:=1000) Tryz.func84 (by kernel_rfl) (Nat.le_of_ble_eq_true rfl) fun hpre=>(vr bp sc us pw hk hs hn hp port opq pn pl hq q hf fg bare sp rst _).mpr (by
 refine ⟨by omega,fun h=>?_,fun h=>⟨?_,?_⟩⟩
 ·rw [show az sp rst 0=false by simpa using h];exact ⟨rfl,rfl⟩
 ·have:=pL (show az sp rst 0=true by simpa using h)
  unfold upto;omega
 ·rw [show az sp rst 0=true by simpa using h];exact ⟨rfl,rfl⟩)
theorem vt(bp:Option Addr)(sc us pw:Bs)(hk:Int)(hs:Bs)(hn:Int)(hp:List Int)(port:Int)(opq pn:Bool)(pl:List Bs)(hq:Bool)(q:Bs)(hf:Bool)(fg:Bs)(bare sp:Bool)(rst:Bs):ag Tryz.prog aA 84 [.ptr 0 0,aE 1 (.raw (.pointer bp)) sc us pw hk hs hn hp port opq pn pl hq q hf fg bare sp rst] ⟨True,.tup [.bool (az sp rst 0),aE 1 (.raw (.pointer bp)) sc us pw hk hs hn hp port opq pn pl hq q hf fg bare sp (if az sp rst 0=true then aa rst 1 else rst)]⟩:=ag.bg (fun h=>by have e:List.isEmpty (PV.aB PV.bD [.ptr 0 0,aE 1 (.raw (.pointer bp)) sc us pw hk hs hn hp port opq pn pl hq q hf fg bare sp rst])=false:=(by kernel_rfl);exact Bool.noConfusion (e.symm.trans (congrArg List.isEmpty h))) (j0 bp sc us pw hk hs hn hp port opq pn pl hq q hf fg bare sp rst)
def fJ:List PV→Option aG:=fun xs=>match xs with
 |[.ptr 0 0,aE 1 (.raw (.pointer bp)) sc us pw hk hs hn hp port opq pn pl hq q hf fg bare sp rst]=>some ⟨True,.tup [.bool (az sp rst 0),aE 1 (.raw (.pointer bp)) sc us pw hk hs hn hp port opq pn pl hq q hf fg bare sp (if az sp rst 0=true then aa rst 1 else rst)]⟩
 |_=>none
theorem iS:∀xs c,fJ xs=some c→ag Tryz.prog aA 84 xs c:=fun xs c h=>by
 unfold fJ at h
 split at h
 ·injection h with h;subst h;exact vt _ _ _ _ _ _ _ _ _ _ _ _ _ _ _ _ _ _ _
 ·cases h
end
section
def kN:cp:=bP [(82,gz)]
def kO(bp:Option Addr)(sc us pw:Bs)(hk:Int)(hs:Bs)(hn:Int)(hp:List Int)(port:Int)(opq pn:Bool)(pl:List Bs)(hq:Bool)(q:Bs)(hf:Bool)(fg:Bs)(bare sp:Bool)(rst:Bs):ba:=fun i=>bif Nat.beq i 1 then some ⟨(Int)×(Bs),(fun s x=>((((((((((((((s.put 2 (.int .i64 x.1)).Lw 0 [4] (.str x.2)).put 3 .undef).put 4 .undef).put 5 .undef).put 6 .undef).put 7 .undef).put 8 .undef).put 9 .undef).put 10 .undef).put 11 .undef).put 12 .undef).put 13 .undef).put 14 .undef)),(fun s=>(s.int 2,(s.bx 0 [4]).dc)),(fun s x=>let n:=x.1;let x:=x.2;0≤n∧n+x.length=rst.length∧aC x.length sp n x=aC rst.length sp 0 rst),(fun s x=>let n:=x.1;let x:=x.2;x.length),[3,4,5,6,7,8,9,10,11,12,13,14]⟩else none
theorem nX:cR Tryz.prog aA kN:=ai gv (ax)
theorem rf(bp:Option Addr)(sc us pw:Bs)(hk:Int)(hs:Bs)(hn:Int)(hp:List Int)(port:Int)(opq pn:Bool)(pl:List Bs)(hq:Bool)(q:Bs)(hf:Bool)(fg:Bs)(bare sp:Bool)(rst:Bs)(k:PV→List PV→Prop):bQ Tryz.prog kN aA (kO bp sc us pw hk hs hn hp port opq pn pl hq q hf fg bare sp rst) 1000 Tryz.f79 [.ptr 0 0] [aE 1 (.raw (.pointer bp)) sc us pw hk hs hn hp port opq pn pl hq q hf fg bare sp rst] k=(
 VS.mk [] [(0,PV.ptr (0:Nat) (0:Nat)),(2,PV.int .i64 (0:Int)),((14:Nat),PV.undef)] [((0:Nat),bT (PV.raw (Go.Value.pointer bp)) 1 sc us pw hk hs hn hp port opq pn pl hq q hf fg bare sp rst)]=VS.mk [] [(0,PV.ptr (0:Nat) (0:Nat)),((2:Nat),PV.int .i64 (0:Int)),((14:Nat),PV.undef)] [((0:Nat),bT (PV.raw (Go.Value.pointer bp)) 1 sc us pw hk hs hn hp port opq pn pl hq q hf fg bare sp rst)]∧
 ((0:Int)≤(0:Int)∧
 (0:Int)+↑(List.length rst)=↑(List.length rst)∧
 aC (List.length rst) sp (0:Int) rst=aC (List.length rst) sp (0:Int) rst)∧
 ∀(x:Int×Bs),(0:Int)≤x.1∧
 x.1+↑(List.length x.2)=↑(List.length rst)∧
 aC (List.length x.2) sp x.1 x.2=aC (List.length rst) sp (0:Int) rst→
 ((0:Int)≤(0:Int)∧
 (0:Int)<(1000:Int))∧
 ((bif az sp x.2 (0:Int)then bif sp then true else decide (x.1<(2:Int))else false)=true→
 upto (1:Int) (ak x.2) (ak x.2)∧
 aD (x.1+(1:Int))∧
 rV (VS.mk [] [(0,PV.ptr (0:Nat) (0:Nat)),((2:Nat),PV.int .i64 (x.1+(1:Int))),((14:Nat),PV.undef)] [((0:Nat),bT (PV.raw (Go.Value.pointer bp)) 1 sc us pw hk hs hn hp port opq pn pl hq q hf fg bare sp (aa x.2 (1:Int)))])∧
 ((0:Int)≤x.1+(1:Int)∧
 x.1+(1:Int)+↑(aa x.2 (1:Int)).length=↑(List.length rst)∧
 aC (aa x.2 (1:Int)).length sp (x.1+(1:Int)) (aa x.2 (1:Int))=aC (List.length rst) sp (0:Int) rst)∧
 (aa x.2 (1:Int)).length<List.length x.2)∧
 ((bif az sp x.2 (0:Int)then bif sp then true else decide (x.1<(2:Int))else false)=false→
 k (PV.tup []) [bT (PV.raw (Go.Value.pointer bp)) 1 sc us pw hk hs hn hp port opq pn pl hq q hf fg bare sp x.2])):=by kernel_rfl
attribute [local irreducible] Go.Vc.cB Go.Vc.bQ
theorem nY(bp:Option Addr)(sc us pw:Bs)(hk:Int)(hs:Bs)(hn:Int)(hp:List Int)(port:Int)(opq pn:Bool)(pl:List Bs)(hq:Bool)(q:Bs)(hf:Bool)(fg:Bs)(bare sp:Bool)(rst:Bs):bt Tryz.prog aA 79 [.ptr 0 0] [aE 1 (.raw (.pointer bp)) sc us pw hk hs hn hp port opq pn pl hq q hf fg bare sp rst] (rst.length≤300000) (.tup []) [aE 1 (.raw (.pointer bp)) sc us pw hk hs hn hp port opq pn pl hq q hf fg bare sp (aC rst.length sp 0 rst)]:=bG (by kernel_rfl) nX (H:=kO bp sc us pw hk hs hn hp port opq pn pl hq q hf fg bare sp rst) (fuel:=1000) Tryz.func79 (by kernel_rfl) (Nat.le_of_ble_eq_true rfl) fun hpre=>(rf bp sc us pw hk hs hn hp port opq pn pl hq q hf fg bare sp rst _).mpr (by
 refine ⟨rfl,⟨by omega,by omega,rfl⟩,fun x ⟨h0,h1,h2⟩=>⟨by omega,fun hc=>?_,fun hc=>?_⟩⟩
 ·have hc:az sp x.2 0=true∧(sp=true∨x.1<2):=by
   cases h:az sp x.2 0<;>cases hs:sp<;>simp_all
  have hp:=gK hc.1
  have hl:=nW hp
  refine ⟨?_,?_,rfl,⟨by omega,by omega,?_⟩,by omega⟩
  ·unfold upto ak;omega
  ·unfold aD;omega
  ·rw [←qR hc];exact h2
 ·have hc:¬(az sp x.2 0=true∧(sp=true∨x.1<2)):=by
   cases h:az sp x.2 0<;>cases hs:sp<;>simp_all
  rw [←h2,pM hc];exact ⟨rfl,rfl⟩)
theorem rh(bp:Option Addr)(sc us pw:Bs)(hk:Int)(hs:Bs)(hn:Int)(hp:List Int)(port:Int)(opq pn:Bool)(pl:List Bs)(hq:Bool)(q:Bs)(hf:Bool)(fg:Bs)(bare sp:Bool)(rst:Bs):ag Tryz.prog aA 79 [.ptr 0 0,aE 1 (.raw (.pointer bp)) sc us pw hk hs hn hp port opq pn pl hq q hf fg bare sp rst] ⟨rst.length≤300000,.tup [.tup [],aE 1 (.raw (.pointer bp)) sc us pw hk hs hn hp port opq pn pl hq q hf fg bare sp (aC rst.length sp 0 rst)]⟩:=ag.bg (fun h=>by have e:List.isEmpty (PV.aB PV.bD [.ptr 0 0,aE 1 (.raw (.pointer bp)) sc us pw hk hs hn hp port opq pn pl hq q hf fg bare sp rst])=false:=(by kernel_rfl);exact Bool.noConfusion (e.symm.trans (congrArg List.isEmpty h))) (nY bp sc us pw hk hs hn hp port opq pn pl hq q hf fg bare sp rst)
def gg:List PV→Option aG:=fun xs=>match xs with
 |[.ptr 0 0,aE 1 (.raw (.pointer bp)) sc us pw hk hs hn hp port opq pn pl hq q hf fg bare sp rst]=>some ⟨rst.length≤300000,.tup [.tup [],aE 1 (.raw (.pointer bp)) sc us pw hk hs hn hp port opq pn pl hq q hf fg bare sp (aC rst.length sp 0 rst)]⟩
 |_=>none
theorem lC:∀xs c,gg xs=some c→ag Tryz.prog aA 79 xs c:=fun xs c h=>by
 unfold gg at h
 split at h
 ·injection h with h;subst h;exact rh _ _ _ _ _ _ _ _ _ _ _ _ _ _ _ _ _ _ _
 ·cases h
end
section
theorem Gy(l m:Bs):(bif decide (ak m≤ak l)then decide (ae l (ak m)=m)else false)=preB l m:=by
 unfold preB
 rw [←Lib.hasPrefix_of_take]
 unfold ak ae
 rw [Int.toNat_natCast]
 have:decide ((m.length:Int)≤l.length)=decide (m.length≤l.length):=by rw [decide_eq_decide];omega
 rw [this,Bool.eq_iff_iff]
 cases decide (m.length≤l.length)<;>simp
theorem Je {l m:Bs}(h:preB l m=true):m.length≤l.length:=by
 rw [←Gy]at h
 cases e:decide (ak m≤ak l)with
 |false=>rw [e]at h;cases h
 |true=>have:=of_decide_eq_true e;unfold ak at this;omega
def Gz:cp:=bP []
def GA(l m:Bs):ba:=fun i=>none
theorem DP:cR Tryz.prog aA Gz:=ax
theorem Jf(l m:Bs)(k:PV→Prop):cB Tryz.prog Gz aA (GA l m) 1000 Tryz.f126 [.str l,.str m] k=(
 (decide (ak m≤ak l)=true→upto (0:Int) (ak m) (ak l))∧
 k (PV.bool (bif decide (ak m≤ak l)then decide (ae l (ak m)=m)else false))):=by kernel_rfl
attribute [local irreducible] Go.Vc.cB
theorem Jg(l m:Bs):ag Tryz.prog aA 126 [.str l,.str m] ⟨True,.bool (preB l m)⟩:=bY (by kernel_rfl) DP (H:=GA l m) (fuel:=1000) Tryz.func126 (by kernel_rfl) fun hpre=>(Jf l m _).mpr (by
 refine ⟨fun h=>⟨by omega,by unfold ak;omega,of_decide_eq_true h⟩,?_⟩
 rw [Gy])
def ri:List PV→Option aG:=fun xs=>match xs with
 |[.str l,.str m]=>some ⟨True,.bool (preB l m)⟩
 |_=>none
theorem xV:∀xs c,ri xs=some c→ag Tryz.prog aA 126 xs c:=fun xs c h=>by
 unfold ri at h
 split at h
 ·injection h with h;subst h;exact Jg _ _
 ·cases h
end
section
def aj(l m:Bs):Bs×Bool:=if preB l m=true then(aa l (ak m),true)else(l,false)
def B4:cp:=bP [(126,ri)]
def B5(l m:Bs):ba:=fun i=>none
theorem Av:cR Tryz.prog aA B4:=ai xV (ax)
theorem GB(l m:Bs)(k:PV→Prop):cB Tryz.prog B4 aA (B5 l m) 1000 Tryz.f157 [.str l,.str m] k=(
 True∧
 ((!preB l m)=true→k (PV.tup [PV.str l,PV.bool false]))∧
 ((!preB l m)=false→
 upto (ak m) (ak l) (ak l)∧k (PV.tup [PV.str (aa l (ak m)),PV.bool true]))):=by kernel_rfl
attribute [local irreducible] Go.Vc.cB
theorem GC(l m:Bs):ag Tryz.prog aA 157 [.str l,.str m] ⟨True,.tup [.str (aj l m).1,.bool (aj l m).2]⟩:=bY (by kernel_rfl) Av (H:=B5 l m) (fuel:=1000) Tryz.func157 (by kernel_rfl) fun hpre=>(GB l m _).mpr (by
 refine ⟨trivial,fun h=>?_,fun h=>⟨?_,?_⟩⟩
 ·unfold aj;rw [if_neg (by intro e;rw [e]at h;cases h)]
 ·have:=Je (show preB l m=true by simpa using h)
  unfold upto ak;omega
 ·unfold aj;rw [if_pos (by simpa using h)])
def nZ:List PV→Option aG:=fun xs=>match xs with
 |[.str l,.str m]=>some ⟨True,.tup [.str (aj l m).1,.bool (aj l m).2]⟩
 |_=>none
theorem vu:∀xs c,nZ xs=some c→ag Tryz.prog aA 157 xs c:=fun xs c h=>by
 unfold nZ at h
 split at h
 ·injection h with h;subst h;exact GC _ _
 ·cases h
end
section
def GD:cp:=bP [(157,nZ)]
def GF(l m:Bs):ba:=fun i=>none
theorem DQ:cR Tryz.prog aA GD:=ai vu (ax)
theorem Jh(l m:Bs)(k:PV→Prop):cB Tryz.prog GD aA (GF l m) 1000 Tryz.f127 [.str l,.str m] k=(
 True∧k (PV.tup [PV.str (aj l m).1,PV.bool (aj l m).2])):=by kernel_rfl
attribute [local irreducible] Go.Vc.cB
theorem Ji(l m:Bs):ag Tryz.prog aA 127 [.str l,.str m] ⟨True,.tup [.str (aj l m).1,.bool (aj l m).2]⟩:=bY (by kernel_rfl) DQ (H:=GF l m) (fuel:=1000) Tryz.func127 (by kernel_rfl) fun hpre=>(Jh l m _).mpr (by
 exact ⟨trivial,rfl⟩)
def mK:List PV→Option aG:=fun xs=>match xs with
 |[.str l,.str m]=>some ⟨True,.tup [.str (aj l m).1,.bool (aj l m).2]⟩
 |_=>none
theorem o0:∀xs c,mK xs=some c→ag Tryz.prog aA 127 xs c:=fun xs c h=>by
 unfold mK at h
 split at h
 ·injection h with h;subst h;exact Ji _ _
 ·cases h
end
section
def GG:cp:=bP [(127,mK)]
def GH(bp:Option Addr)(sc us pw:Bs)(hk:Int)(hs:Bs)(hn:Int)(hp:List Int)(port:Int)(opq pn:Bool)(pl:List Bs)(hq:Bool)(q:Bs)(hf:Bool)(fg:Bs)(bare sp:Bool)(rst:Bs)(p:Bs):ba:=fun i=>none
theorem DR:cR Tryz.prog aA GG:=ai o0 (ax)
theorem Jj(bp:Option Addr)(sc us pw:Bs)(hk:Int)(hs:Bs)(hn:Int)(hp:List Int)(port:Int)(opq pn:Bool)(pl:List Bs)(hq:Bool)(q:Bs)(hf:Bool)(fg:Bs)(bare sp:Bool)(rst:Bs)(p:Bs)(k:PV→List PV→Prop):bQ Tryz.prog GG aA (GH bp sc us pw hk hs hn hp port opq pn pl hq q hf fg bare sp rst p) 1000 Tryz.f80 [.ptr 0 0,.str p] [aE 1 (.raw (.pointer bp)) sc us pw hk hs hn hp port opq pn pl hq q hf fg bare sp rst] k=(
 True∧
 k (PV.bool (aj rst p).2) [bT (PV.raw (Go.Value.pointer bp)) 1 sc us pw hk hs hn hp port opq pn pl hq q hf fg bare sp ((aj rst p).1)]):=by kernel_rfl
attribute [local irreducible] Go.Vc.cB Go.Vc.bQ
theorem DS(bp:Option Addr)(sc us pw:Bs)(hk:Int)(hs:Bs)(hn:Int)(hp:List Int)(port:Int)(opq pn:Bool)(pl:List Bs)(hq:Bool)(q:Bs)(hf:Bool)(fg:Bs)(bare sp:Bool)(rst:Bs)(p:Bs):bt Tryz.prog aA 80 [.ptr 0 0,.str p] [aE 1 (.raw (.pointer bp)) sc us pw hk hs hn hp port opq pn pl hq q hf fg bare sp rst] (True) (.bool (aj rst p).2) [aE 1 (.raw (.pointer bp)) sc us pw hk hs hn hp port opq pn pl hq q hf fg bare sp ((aj rst p).1)]:=bG (by kernel_rfl) DR (H:=GH bp sc us pw hk hs hn hp port opq pn pl hq q hf fg bare sp rst p) (fuel:=1000) Tryz.func80 (by kernel_rfl) (Nat.le_of_ble_eq_true rfl) fun hpre=>(Jj bp sc us pw hk hs hn hp port opq pn pl hq q hf fg bare sp rst p _).mpr (by
 exact ⟨trivial,rfl,rfl⟩)
theorem Jk(bp:Option Addr)(sc us pw:Bs)(hk:Int)(hs:Bs)(hn:Int)(hp:List Int)(port:Int)(opq pn:Bool)(pl:List Bs)(hq:Bool)(q:Bs)(hf:Bool)(fg:Bs)(bare sp:Bool)(rst:Bs)(p:Bs):ag Tryz.prog aA 80 [.ptr 0 0,.str p,aE 1 (.raw (.pointer bp)) sc us pw hk hs hn hp port opq pn pl hq q hf fg bare sp rst] ⟨True,.tup [.bool (aj rst p).2,aE 1 (.raw (.pointer bp)) sc us pw hk hs hn hp port opq pn pl hq q hf fg bare sp ((aj rst p).1)]⟩:=ag.bg (fun h=>by have e:List.isEmpty (PV.aB PV.bD [.ptr 0 0,.str p,aE 1 (.raw (.pointer bp)) sc us pw hk hs hn hp port opq pn pl hq q hf fg bare sp rst])=false:=(by kernel_rfl);exact Bool.noConfusion (e.symm.trans (congrArg List.isEmpty h))) (DS bp sc us pw hk hs hn hp port opq pn pl hq q hf fg bare sp rst p)
def j3:List PV→Option aG:=fun xs=>match xs with
 |[.ptr 0 0,.str p,aE 1 (.raw (.pointer bp)) sc us pw hk hs hn hp port opq pn pl hq q hf fg bare sp rst]=>some ⟨True,.tup [.bool (aj rst p).2,aE 1 (.raw (.pointer bp)) sc us pw hk hs hn hp port opq pn pl hq q hf fg bare sp ((aj rst p).1)]⟩
 |_=>none
theorem j4:∀xs c,j3 xs=some c→ag Tryz.prog aA 80 xs c:=fun xs c h=>by
 unfold j3 at h
 split at h
 ·injection h with h;subst h;exact Jk _ _ _ _ _ _ _ _ _ _ _ _ _ _ _ _ _ _ _ _
 ·cases h
end
section
def xW:cp:=bP []
def xX(bp:Option Addr)(sc us pw:Bs)(hk:Int)(hs:Bs)(hn:Int)(hp:List Int)(port:Int)(opq pn:Bool)(pl:List Bs)(hq:Bool)(q:Bs)(hf:Bool)(fg:Bs)(bare sp:Bool)(rst:Bs):ba:=fun i=>none
theorem xY:cR Tryz.prog aA xW:=ax
theorem DT(bp:Option Addr)(sc us pw:Bs)(hk:Int)(hs:Bs)(hn:Int)(hp:List Int)(port:Int)(opq pn:Bool)(pl:List Bs)(hq:Bool)(q:Bs)(hf:Bool)(fg:Bs)(bare sp:Bool)(rst:Bs)(k:PV→List PV→Prop):bQ Tryz.prog xW aA (xX bp sc us pw hk hs hn hp port opq pn pl hq q hf fg bare sp rst) 1000 Tryz.f89 [.ptr 0 0] [aE 1 (.raw (.pointer bp)) sc us pw hk hs hn hp port opq pn pl hq q hf fg bare sp rst] k=(
 (decide (rst=(ByteArray.mk #[]).data.toList)=false→
 within (0:Int) (ak rst))∧
 ((bif decide (rst=(ByteArray.mk #[]).data.toList)then true else decide (al rst (0:Int)=(63:Int)))=false→
 within (0:Int) (ak rst))∧
 k (PV.bool (bif bif decide (rst=(ByteArray.mk #[]).data.toList)then true else decide (al rst (0:Int)=(63:Int))then true else decide (al rst (0:Int)=(35:Int)))) [bT (PV.raw (Go.Value.pointer bp)) 1 sc us pw hk hs hn hp port opq pn pl hq q hf fg bare sp rst]):=by kernel_rfl
attribute [local irreducible] Go.Vc.cB Go.Vc.bQ
theorem o1(bp:Option Addr)(sc us pw:Bs)(hk:Int)(hs:Bs)(hn:Int)(hp:List Int)(port:Int)(opq pn:Bool)(pl:List Bs)(hq:Bool)(q:Bs)(hf:Bool)(fg:Bs)(bare sp:Bool)(rst:Bs):bt Tryz.prog aA 89 [.ptr 0 0] [aE 1 (.raw (.pointer bp)) sc us pw hk hs hn hp port opq pn pl hq q hf fg bare sp rst] (True) (.bool (bz rst)) [aE 1 (.raw (.pointer bp)) sc us pw hk hs hn hp port opq pn pl hq q hf fg bare sp rst]:=bG (by kernel_rfl) xY (H:=xX bp sc us pw hk hs hn hp port opq pn pl hq q hf fg bare sp rst) (fuel:=1000) Tryz.func89 (by kernel_rfl) (Nat.le_of_ble_eq_true rfl) fun hpre=>(DT bp sc us pw hk hs hn hp port opq pn pl hq q hf fg bare sp rst _).mpr (by
 have h0:decide (rst=(ByteArray.mk #[]).data.toList)=false→within 0 (ak rst):=fun h=>by
  have:=of_decide_eq_false h
  have:0<rst.length:=List.length_pos_iff.2 this
  unfold within ak;omega
 refine ⟨h0,fun h=>h0 ?_,?_,rfl⟩
 ·cases hd:decide (rst=(ByteArray.mk #[]).data.toList)with
  |false=>rfl
  |true=>rw [hd]at h;cases h
 ·congr 1
  have e:bz rst=(decide (rst=(ByteArray.mk #[]).data.toList)||(decide (al rst 0=63)||decide (al rst 0=35))):=rfl
  rw [e]
  cases decide (rst=(ByteArray.mk #[]).data.toList)<;>cases decide (al rst 0=63)<;>cases decide (al rst 0=35)<;>rfl)
theorem DU(bp:Option Addr)(sc us pw:Bs)(hk:Int)(hs:Bs)(hn:Int)(hp:List Int)(port:Int)(opq pn:Bool)(pl:List Bs)(hq:Bool)(q:Bs)(hf:Bool)(fg:Bs)(bare sp:Bool)(rst:Bs):ag Tryz.prog aA 89 [.ptr 0 0,aE 1 (.raw (.pointer bp)) sc us pw hk hs hn hp port opq pn pl hq q hf fg bare sp rst] ⟨True,.tup [.bool (bz rst),aE 1 (.raw (.pointer bp)) sc us pw hk hs hn hp port opq pn pl hq q hf fg bare sp rst]⟩:=ag.bg (fun h=>by have e:List.isEmpty (PV.aB PV.bD [.ptr 0 0,aE 1 (.raw (.pointer bp)) sc us pw hk hs hn hp port opq pn pl hq q hf fg bare sp rst])=false:=(by kernel_rfl);exact Bool.noConfusion (e.symm.trans (congrArg List.isEmpty h))) (o1 bp sc us pw hk hs hn hp port opq pn pl hq q hf fg bare sp rst)
def lD:List PV→Option aG:=fun xs=>match xs with
 |[.ptr 0 0,aE 1 (.raw (.pointer bp)) sc us pw hk hs hn hp port opq pn pl hq q hf fg bare sp rst]=>some ⟨True,.tup [.bool (bz rst),aE 1 (.raw (.pointer bp)) sc us pw hk hs hn hp port opq pn pl hq q hf fg bare sp rst]⟩
 |_=>none
theorem sk:∀xs c,lD xs=some c→ag Tryz.prog aA 89 xs c:=fun xs c h=>by
 unfold lD at h
 split at h
 ·injection h with h;subst h;exact DU _ _ _ _ _ _ _ _ _ _ _ _ _ _ _ _ _ _ _
 ·cases h
end
section
def tT:cp:=bP []
def tU(bp:Option Addr)(sc us pw:Bs)(hk:Int)(hs:Bs)(hn:Int)(hp:List Int)(port:Int)(opq pn:Bool)(pl:List Bs)(hq:Bool)(q:Bs)(hf:Bool)(fg:Bs)(bare sp:Bool)(rst:Bs):ba:=fun i=>none
theorem vv:cR Tryz.prog aA tT:=ax
theorem Aw(bp:Option Addr)(sc us pw:Bs)(hk:Int)(hs:Bs)(hn:Int)(hp:List Int)(port:Int)(opq pn:Bool)(pl:List Bs)(hq:Bool)(q:Bs)(hf:Bool)(fg:Bs)(bare sp:Bool)(rst:Bs)(k:PV→List PV→Prop):bQ Tryz.prog tT aA (tU bp sc us pw hk hs hn hp port opq pn pl hq q hf fg bare sp rst) 1000 Tryz.f138 [.ptr 0 0] [aE 1 (.raw (.pointer bp)) sc us pw hk hs hn hp port opq pn pl hq q hf fg bare sp rst] k=(
 (sp=true→
 k (PV.str (ByteArray.mk #[47,92]).data.toList) [bT (PV.raw (Go.Value.pointer bp)) 1 sc us pw hk hs hn hp port opq pn pl hq q hf fg bare sp rst])∧
 (sp=false→
 k (PV.str (ByteArray.mk #[47]).data.toList) [bT (PV.raw (Go.Value.pointer bp)) 1 sc us pw hk hs hn hp port opq pn pl hq q hf fg bare sp rst])):=by kernel_rfl
attribute [local irreducible] Go.Vc.cB Go.Vc.bQ
theorem vw(bp:Option Addr)(sc us pw:Bs)(hk:Int)(hs:Bs)(hn:Int)(hp:List Int)(port:Int)(opq pn:Bool)(pl:List Bs)(hq:Bool)(q:Bs)(hf:Bool)(fg:Bs)(bare sp:Bool)(rst:Bs):bt Tryz.prog aA 138 [.ptr 0 0] [aE 1 (.raw (.pointer bp)) sc us pw hk hs hn hp port opq pn pl hq q hf fg bare sp rst] (True) (.str (eY sp)) [aE 1 (.raw (.pointer bp)) sc us pw hk hs hn hp port opq pn pl hq q hf fg bare sp rst]:=bG (by kernel_rfl) vv (H:=tU bp sc us pw hk hs hn hp port opq pn pl hq q hf fg bare sp rst) (fuel:=1000) Tryz.func138 (by kernel_rfl) (Nat.le_of_ble_eq_true rfl) fun hpre=>(Aw bp sc us pw hk hs hn hp port opq pn pl hq q hf fg bare sp rst _).mpr (by
 exact ⟨fun h=>by subst h;exact ⟨rfl,rfl⟩,fun h=>by subst h;exact ⟨rfl,rfl⟩⟩)
theorem Ax(bp:Option Addr)(sc us pw:Bs)(hk:Int)(hs:Bs)(hn:Int)(hp:List Int)(port:Int)(opq pn:Bool)(pl:List Bs)(hq:Bool)(q:Bs)(hf:Bool)(fg:Bs)(bare sp:Bool)(rst:Bs):ag Tryz.prog aA 138 [.ptr 0 0,aE 1 (.raw (.pointer bp)) sc us pw hk hs hn hp port opq pn pl hq q hf fg bare sp rst] ⟨True,.tup [.str (eY sp),aE 1 (.raw (.pointer bp)) sc us pw hk hs hn hp port opq pn pl hq q hf fg bare sp rst]⟩:=ag.bg (fun h=>by have e:List.isEmpty (PV.aB PV.bD [.ptr 0 0,aE 1 (.raw (.pointer bp)) sc us pw hk hs hn hp port opq pn pl hq q hf fg bare sp rst])=false:=(by kernel_rfl);exact Bool.noConfusion (e.symm.trans (congrArg List.isEmpty h))) (vw bp sc us pw hk hs hn hp port opq pn pl hq q hf fg bare sp rst)
def hG:List PV→Option aG:=fun xs=>match xs with
 |[.ptr 0 0,aE 1 (.raw (.pointer bp)) sc us pw hk hs hn hp port opq pn pl hq q hf fg bare sp rst]=>some ⟨True,.tup [.str (eY sp),aE 1 (.raw (.pointer bp)) sc us pw hk hs hn hp port opq pn pl hq q hf fg bare sp rst]⟩
 |_=>none
theorem j5:∀xs c,hG xs=some c→ag Tryz.prog aA 138 xs c:=fun xs c h=>by
 unfold hG at h
 split at h
 ·injection h with h;subst h;exact Ax _ _ _ _ _ _ _ _ _ _ _ _ _ _ _ _ _ _ _
 ·cases h
end
section
def GI:cp:=bP [(118,vf)]
def GJ(l m:Bs):ba:=fun i=>none
theorem DV:cR Tryz.prog aA GI:=ai Ad (ax)
theorem Jl(l m:Bs)(k:PV→Prop):cB Tryz.prog GI aA (GJ l m) 1000 Tryz.f129 [.str l,.str m] k=(
 (List.length l≤(1000000:Nat)∧List.length m≤(1000000:Nat)∧∀(b:UInt8),b∈m→b.toNat<(128:Nat))∧
 (decide ((0:Int)≤KU l m)=true→k (PV.int .i64 (KU l m)))∧
 (decide ((0:Int)≤KU l m)=false→k (PV.int .i64 (ak l)))):=by kernel_rfl
attribute [local irreducible] Go.Vc.cB
theorem Jm(l m:Bs):ag Tryz.prog aA 129 [.str l,.str m] ⟨l.length≤1000000∧m.length≤1000000∧(∀b∈m,b.toNat<128),.int .i64 (bd l m)⟩:=bY (by kernel_rfl) DV (H:=GJ l m) (fuel:=1000) Tryz.func129 (by kernel_rfl) fun hpre=>(Jl l m _).mpr (by
 have hh:=Ac m l
 rw [←F4]at hh
 refine ⟨hpre,fun h=>?_,fun h=>?_⟩
 ·exact congrArg (PV.int .i64) (hh.1 (of_decide_eq_true h)).1
 ·show PV.int .i64 (ak l)=_
  rw [(hh.2 (of_decide_eq_false h)).2];rfl)
def gL:List PV→Option aG:=fun xs=>match xs with
 |[.str l,.str m]=>some ⟨l.length≤1000000∧m.length≤1000000∧(∀b∈m,b.toNat<128),.int .i64 (bd l m)⟩
 |_=>none
theorem fY:∀xs c,gL xs=some c→ag Tryz.prog aA 129 xs c:=fun xs c h=>by
 unfold gL at h
 split at h
 ·injection h with h;subst h;exact Jm _ _
 ·cases h
end
section
def tV:cp:=bP [(138,hG),(129,gL)]
def tW(bp:Option Addr)(sc us pw:Bs)(hk:Int)(hs:Bs)(hn:Int)(hp:List Int)(port:Int)(opq pn:Bool)(pl:List Bs)(hq:Bool)(q:Bs)(hf:Bool)(fg:Bs)(bare sp:Bool)(rst:Bs):ba:=fun i=>none
theorem vx:cR Tryz.prog aA tV:=ai j5 (ai fY (ax))
theorem Ay(bp:Option Addr)(sc us pw:Bs)(hk:Int)(hs:Bs)(hn:Int)(hp:List Int)(port:Int)(opq pn:Bool)(pl:List Bs)(hq:Bool)(q:Bs)(hf:Bool)(fg:Bs)(bare sp:Bool)(rst:Bs)(k:PV→List PV→Prop):bQ Tryz.prog tV aA (tW bp sc us pw hk hs hn hp port opq pn pl hq q hf fg bare sp rst) 1000 Tryz.f124 [.ptr 0 0] [aE 1 (.raw (.pointer bp)) sc us pw hk hs hn hp port opq pn pl hq q hf fg bare sp rst] k=(
 (True∧
 List.length (eY sp)+(ByteArray.mk #[63,35]).data.toList.length≤Go.Vc.maxLen∧
 (List.length rst≤(1000000:Nat)∧
 List.length (eY sp++(ByteArray.mk #[63,35]).data.toList)≤(1000000:Nat)∧
 ∀(b:UInt8),b∈eY sp++(ByteArray.mk #[63,35]).data.toList→
 b.toNat<(128:Nat))∧
 k (PV.int .i64 ↑(bd rst (eY sp++(ByteArray.mk #[63,35]).data.toList))) [bT (PV.raw (Go.Value.pointer bp)) 1 sc us pw hk hs hn hp port opq pn pl hq q hf fg bare sp rst])∧
 True∧
 List.length (eY sp)+(ByteArray.mk #[63,35]).data.toList.length≤Go.Vc.maxLen∧
 (List.length rst≤(1000000:Nat)∧
 List.length (eY sp++(ByteArray.mk #[63,35]).data.toList)≤(1000000:Nat)∧
 ∀(b:UInt8),b∈eY sp++(ByteArray.mk #[63,35]).data.toList→
 b.toNat<(128:Nat))∧
 k (PV.int .i64 ↑(bd rst (eY sp++(ByteArray.mk #[63,35]).data.toList))) [bT (PV.raw (Go.Value.pointer bp)) 1 sc us pw hk hs hn hp port opq pn pl hq q hf fg bare sp rst]):=by kernel_rfl
attribute [local irreducible] Go.Vc.cB Go.Vc.bQ
theorem vy(bp:Option Addr)(sc us pw:Bs)(hk:Int)(hs:Bs)(hn:Int)(hp:List Int)(port:Int)(opq pn:Bool)(pl:List Bs)(hq:Bool)(q:Bs)(hf:Bool)(fg:Bs)(bare sp:Bool)(rst:Bs):bt Tryz.prog aA 124 [.ptr 0 0] [aE 1 (.raw (.pointer bp)) sc us pw hk hs hn hp port opq pn pl hq q hf fg bare sp rst] (rst.length≤300000) (.int .i64 (ah sp rst)) [aE 1 (.raw (.pointer bp)) sc us pw hk hs hn hp port opq pn pl hq q hf fg bare sp rst]:=bG (by kernel_rfl) vx (H:=tW bp sc us pw hk hs hn hp port opq pn pl hq q hf fg bare sp rst) (fuel:=1000) Tryz.func124 (by kernel_rfl) (Nat.le_of_ble_eq_true rfl) fun hpre=>(Ay bp sc us pw hk hs hn hp port opq pn pl hq q hf fg bare sp rst _).mpr (by
 have e2:(ByteArray.mk #[63,35]).data.toList=[63,35]:=rfl
 have hs:(eY sp).length≤2:=by unfold eY;split<;>decide
 have h1:List.length (eY sp)+(ByteArray.mk #[63,35]).data.toList.length≤Go.Vc.maxLen:=Nat.le_trans (show _ ≤100 by rw [e2];simp;omega) (by decide)
 have h2:List.length (eY sp++(ByteArray.mk #[63,35]).data.toList)≤1000000:=by rw [e2];simp;omega
 have h3:∀b:UInt8,b∈eY sp++(ByteArray.mk #[63,35]).data.toList→b.toNat<128:=by rw [e2];unfold eY;split<;>decide
 exact ⟨⟨trivial,h1,⟨by omega,h2,h3⟩,rfl,rfl⟩,trivial,h1,⟨by omega,h2,h3⟩,rfl,rfl⟩)
theorem Az(bp:Option Addr)(sc us pw:Bs)(hk:Int)(hs:Bs)(hn:Int)(hp:List Int)(port:Int)(opq pn:Bool)(pl:List Bs)(hq:Bool)(q:Bs)(hf:Bool)(fg:Bs)(bare sp:Bool)(rst:Bs):ag Tryz.prog aA 124 [.ptr 0 0,aE 1 (.raw (.pointer bp)) sc us pw hk hs hn hp port opq pn pl hq q hf fg bare sp rst] ⟨rst.length≤300000,.tup [.int .i64 (ah sp rst),aE 1 (.raw (.pointer bp)) sc us pw hk hs hn hp port opq pn pl hq q hf fg bare sp rst]⟩:=ag.bg (fun h=>by have e:List.isEmpty (PV.aB PV.bD [.ptr 0 0,aE 1 (.raw (.pointer bp)) sc us pw hk hs hn hp port opq pn pl hq q hf fg bare sp rst])=false:=(by kernel_rfl);exact Bool.noConfusion (e.symm.trans (congrArg List.isEmpty h))) (vy bp sc us pw hk hs hn hp port opq pn pl hq q hf fg bare sp rst)
def fZ:List PV→Option aG:=fun xs=>match xs with
 |[.ptr 0 0,aE 1 (.raw (.pointer bp)) sc us pw hk hs hn hp port opq pn pl hq q hf fg bare sp rst]=>some ⟨rst.length≤300000,.tup [.int .i64 (ah sp rst),aE 1 (.raw (.pointer bp)) sc us pw hk hs hn hp port opq pn pl hq q hf fg bare sp rst]⟩
 |_=>none
theorem gM:∀xs c,fZ xs=some c→ag Tryz.prog aA 124 xs c:=fun xs c h=>by
 unfold fZ at h
 split at h
 ·injection h with h;subst h;exact Az _ _ _ _ _ _ _ _ _ _ _ _ _ _ _ _ _ _ _
 ·cases h
end
section
def GK:cp:=bP []
def GL(bp:Option Addr)(sc us pw:Bs)(hk:Int)(hs:Bs)(hn:Int)(hp:List Int)(port:Int)(opq pn:Bool)(pl:List Bs)(hq:Bool)(q:Bs)(hf:Bool)(fg:Bs)(bare sp:Bool)(rst:Bs)(z:Int):ba:=fun i=>none
theorem DW:cR Tryz.prog aA GK:=ax
theorem Jn(bp:Option Addr)(sc us pw:Bs)(hk:Int)(hs:Bs)(hn:Int)(hp:List Int)(port:Int)(opq pn:Bool)(pl:List Bs)(hq:Bool)(q:Bs)(hf:Bool)(fg:Bs)(bare sp:Bool)(rst:Bs)(z:Int)(k:PV→List PV→Prop):bQ Tryz.prog GK aA (GL bp sc us pw hk hs hn hp port opq pn pl hq q hf fg bare sp rst z) 1000 Tryz.f128 [.ptr 0 0,.int .i64 z] [aE 1 (.raw (.pointer bp)) sc us pw hk hs hn hp port opq pn pl hq q hf fg bare sp rst] k=(
 upto (0:Int) z (ak rst)∧
 upto z (ak rst) (ak rst)∧
 k (PV.str (ae rst z)) [bT (PV.raw (Go.Value.pointer bp)) 1 sc us pw hk hs hn hp port opq pn pl hq q hf fg bare sp (aa rst z)]):=by kernel_rfl
attribute [local irreducible] Go.Vc.cB Go.Vc.bQ
theorem DX(bp:Option Addr)(sc us pw:Bs)(hk:Int)(hs:Bs)(hn:Int)(hp:List Int)(port:Int)(opq pn:Bool)(pl:List Bs)(hq:Bool)(q:Bs)(hf:Bool)(fg:Bs)(bare sp:Bool)(rst:Bs)(z:Int):bt Tryz.prog aA 128 [.ptr 0 0,.int .i64 z] [aE 1 (.raw (.pointer bp)) sc us pw hk hs hn hp port opq pn pl hq q hf fg bare sp rst] (0≤z∧z≤ak rst) (.str (ae rst z)) [aE 1 (.raw (.pointer bp)) sc us pw hk hs hn hp port opq pn pl hq q hf fg bare sp (aa rst z)]:=bG (by kernel_rfl) DW (H:=GL bp sc us pw hk hs hn hp port opq pn pl hq q hf fg bare sp rst z) (fuel:=1000) Tryz.func128 (by kernel_rfl) (Nat.le_of_ble_eq_true rfl) fun hpre=>(Jn bp sc us pw hk hs hn hp port opq pn pl hq q hf fg bare sp rst z _).mpr (by
 obtain ⟨h0,h1⟩:=hpre
 exact ⟨⟨by omega,h0,h1⟩,⟨h0,h1,Int.le_refl _⟩,rfl,rfl⟩)
theorem Jo(bp:Option Addr)(sc us pw:Bs)(hk:Int)(hs:Bs)(hn:Int)(hp:List Int)(port:Int)(opq pn:Bool)(pl:List Bs)(hq:Bool)(q:Bs)(hf:Bool)(fg:Bs)(bare sp:Bool)(rst:Bs)(z:Int):ag Tryz.prog aA 128 [.ptr 0 0,.int .i64 z,aE 1 (.raw (.pointer bp)) sc us pw hk hs hn hp port opq pn pl hq q hf fg bare sp rst] ⟨0≤z∧z≤ak rst,.tup [.str (ae rst z),aE 1 (.raw (.pointer bp)) sc us pw hk hs hn hp port opq pn pl hq q hf fg bare sp (aa rst z)]⟩:=ag.bg (fun h=>by have e:List.isEmpty (PV.aB PV.bD [.ptr 0 0,.int .i64 z,aE 1 (.raw (.pointer bp)) sc us pw hk hs hn hp port opq pn pl hq q hf fg bare sp rst])=false:=(by kernel_rfl);exact Bool.noConfusion (e.symm.trans (congrArg List.isEmpty h))) (DX bp sc us pw hk hs hn hp port opq pn pl hq q hf fg bare sp rst z)
def gN:List PV→Option aG:=fun xs=>match xs with
 |[.ptr 0 0,.int .i64 z,aE 1 (.raw (.pointer bp)) sc us pw hk hs hn hp port opq pn pl hq q hf fg bare sp rst]=>some ⟨0≤z∧z≤ak rst,.tup [.str (ae rst z),aE 1 (.raw (.pointer bp)) sc us pw hk hs hn hp port opq pn pl hq q hf fg bare sp (aa rst z)]⟩
 |_=>none
theorem ga:∀xs c,gN xs=some c→ag Tryz.prog aA 128 xs c:=fun xs c h=>by
 unfold gN at h
 split at h
 ·injection h with h;subst h;exact Jo _ _ _ _ _ _ _ _ _ _ _ _ _ _ _ _ _ _ _ _
 ·cases h
end
section
def B6:cp:=bP []
def B7(l:Bs):ba:=fun i=>bif Nat.beq i 3 then some ⟨(Int)×(Bool),(fun s x=>((((((((((((((((((s.put 7 (.int .i64 x.1)).put 3 (.bool x.2)).put 4 .undef).put 8 .undef).put 9 .undef).put 10 .undef).put 11 .undef).put 12 .undef).put 13 .undef).put 14 .undef).put 15 .undef).put 16 .undef).put 17 .undef).put 18 .undef).put 19 .undef).put 20 .undef).put 21 .undef).put 22 .undef)),(fun s=>(s.int 7,s.bool 3)),(fun s x=>let i:=x.1;let wn:=x.2;0≤i∧i≤l.length∧kE wn i (l.drop i.toNat)=bj l),(fun s x=>let i:=x.1;let wn:=x.2;((l.length:Int)-i).toNat),[4,8,9,10,11,12,13,14,15,16,17,18,19,20,21,22]⟩else none
theorem AA:cR Tryz.prog aA B6:=ax
theorem GM(l:Bs)(k:PV→Prop):cB Tryz.prog B6 aA (B7 l) 1000 Tryz.f135 [.str l] k=(
 VS.mk []
 [(0,PV.str l),(2,PV.int .i64 (0:Int)),(3,PV.bool false),((4:Nat),PV.undef),
 (6,PV.int .i64 (ak l)),(7,PV.int .i64 (0:Int)),((8:Nat),PV.undef),
 ((12:Nat),PV.undef),((13:Nat),PV.undef),((15:Nat),PV.undef),((17:Nat),PV.undef),((20:Nat),PV.undef)]
 []=
 VS.mk []
 [(0,PV.str l),(2,PV.int .i64 (0:Int)),((3:Nat),PV.bool false),((4:Nat),PV.undef),
 (6,PV.int .i64 (ak l)),((7:Nat),PV.int .i64 (0:Int)),((8:Nat),PV.undef),
 ((12:Nat),PV.undef),((13:Nat),PV.undef),((15:Nat),PV.undef),((17:Nat),PV.undef),((20:Nat),PV.undef)]
 []∧
 ((0:Int)≤(0:Int)∧
 (0:Int)≤↑(List.length l)∧
 kE false (0:Int) (List.drop (Int.toNat (0:Int)) l)=bj l)∧
 ∀(x:Int×Bool),
 (0:Int)≤x.1∧
 x.1≤↑(List.length l)∧
 kE x.2 x.1 (List.drop x.1.toNat l)=bj l→
 (decide (x.1<ak l)=true→
 within x.1 (ak l)∧
 (decide (al l x.1=(91:Int))=true→
 aD (x.1+(1:Int))∧
 rV (VS.mk []
 [(0,PV.str l),(2,PV.int .i64 (0:Int)),((3:Nat),PV.bool true),
 ((4:Nat),PV.undef),(6,PV.int .i64 (ak l)),
 ((7:Nat),PV.int .i64 (x.1+(1:Int))),((8:Nat),PV.undef),((12:Nat),PV.undef),
 ((13:Nat),PV.undef),((15:Nat),PV.undef),((17:Nat),PV.undef),((20:Nat),PV.undef)]
 [])∧
 ((0:Int)≤x.1+(1:Int)∧
 x.1+(1:Int)≤↑(List.length l)∧
 kE true (x.1+(1:Int)) (List.drop (x.1+(1:Int)).toNat l)=
 bj l)∧
 (↑(List.length l)-(x.1+(1:Int))).toNat<(↑(List.length l)-x.1).toNat)∧
 (decide (al l x.1=(91:Int))=false→
 (decide (al l x.1=(93:Int))=true→
 aD (x.1+(1:Int))∧
 rV (VS.mk []
 [(0,PV.str l),(2,PV.int .i64 (0:Int)),((3:Nat),PV.bool false),
 ((4:Nat),PV.undef),(6,PV.int .i64 (ak l)),
 ((7:Nat),PV.int .i64 (x.1+(1:Int))),((8:Nat),PV.undef),((12:Nat),PV.undef),
 ((13:Nat),PV.undef),((15:Nat),PV.undef),((17:Nat),PV.undef),((20:Nat),PV.undef)]
 [])∧
 ((0:Int)≤x.1+(1:Int)∧
 x.1+(1:Int)≤↑(List.length l)∧
 kE false (x.1+(1:Int)) (List.drop (x.1+(1:Int)).toNat l)=
 bj l)∧
 (↑(List.length l)-(x.1+(1:Int))).toNat<(↑(List.length l)-x.1).toNat)∧
 (decide (al l x.1=(93:Int))=false→
 (decide (al l x.1=(58:Int))=true→
 ((!x.2)=true→k (PV.int .i64 x.1))∧
 ((!x.2)=false→
 aD (x.1+(1:Int))∧
 rV (VS.mk []
 [(0,PV.str l),(2,PV.int .i64 (0:Int)),((3:Nat),PV.bool x.2),
 ((4:Nat),PV.undef),(6,PV.int .i64 (ak l)),
 ((7:Nat),PV.int .i64 (x.1+(1:Int))),((8:Nat),PV.undef),((12:Nat),PV.undef),
 ((13:Nat),PV.undef),((15:Nat),PV.undef),((17:Nat),PV.undef),((20:Nat),PV.undef)]
 [])∧
 ((0:Int)≤x.1+(1:Int)∧
 x.1+(1:Int)≤↑(List.length l)∧
 kE x.2 (x.1+(1:Int)) (List.drop (x.1+(1:Int)).toNat l)=
 bj l)∧
 (↑(List.length l)-(x.1+(1:Int))).toNat<(↑(List.length l)-x.1).toNat))∧
 (decide (al l x.1=(58:Int))=false→
 aD (x.1+(1:Int))∧
 rV (VS.mk []
 [(0,PV.str l),(2,PV.int .i64 (0:Int)),((3:Nat),PV.bool x.2),
 ((4:Nat),PV.undef),(6,PV.int .i64 (ak l)),
 ((7:Nat),PV.int .i64 (x.1+(1:Int))),((8:Nat),PV.undef),((12:Nat),PV.undef),
 ((13:Nat),PV.undef),((15:Nat),PV.undef),((17:Nat),PV.undef),((20:Nat),PV.undef)]
 [])∧
 ((0:Int)≤x.1+(1:Int)∧
 x.1+(1:Int)≤↑(List.length l)∧
 kE x.2 (x.1+(1:Int)) (List.drop (x.1+(1:Int)).toNat l)=
 bj l)∧
 (↑(List.length l)-(x.1+(1:Int))).toNat<(↑(List.length l)-x.1).toNat))))∧
 (decide (x.1<ak l)=false→k (PV.int .i64 (-1:Int)))):=by kernel_rfl
attribute [local irreducible] Go.Vc.cB
theorem GN(l:Bs):ag Tryz.prog aA 135 [.str l] ⟨l.length≤1000000,.int .i64 (bj l)⟩:=bY (by kernel_rfl) AA (H:=B7 l) (fuel:=1000) Tryz.func135 (by kernel_rfl) fun hpre=>(GM l _).mpr (by
 refine ⟨rfl,⟨by omega,by omega,rfl⟩,fun x ⟨h0,h1,h2⟩=>⟨fun h=>?_,fun h=>?_⟩⟩
 ·have hlt:x.1<l.length:=of_decide_eq_true h
  rw [xQ h0 hlt]at h2
  obtain ⟨c,hc⟩:∃c,c=l.getD x.1.toNat 0:=⟨_,rfl⟩
  have hby:al l x.1=c.toNat:=by rw [hc];rfl
  rw [←hc,kE]at h2
  rw [hby]
  refine ⟨⟨h0,hlt⟩,fun g=>⟨by unfold aD;omega,rfl,⟨by omega,by omega,?_⟩,by omega⟩,fun g=>⟨fun g2=>⟨by unfold aD;omega,rfl,⟨by omega,by omega,?_⟩,by omega⟩,fun g2=>⟨fun g3=>⟨fun g4=>?_,fun g4=>⟨by unfold aD;omega,rfl,⟨by omega,by omega,?_⟩,by omega⟩⟩,fun g3=>⟨by unfold aD;omega,rfl,⟨by omega,by omega,?_⟩,by omega⟩⟩⟩⟩
  ·have:=of_decide_eq_true g
   rw [if_pos (by omega)]at h2;exact h2
  ·have:=of_decide_eq_false g
   have:=of_decide_eq_true g2
   rw [if_neg (by omega),if_pos (by omega)]at h2;exact h2
  ·have:=of_decide_eq_false g
   have:=of_decide_eq_false g2
   have:=of_decide_eq_true g3
   have hw:x.2=false:=by simpa using g4
   rw [if_neg (by omega),if_neg (by omega),if_pos ⟨by omega,hw⟩]at h2
   rw [h2]
  ·have:=of_decide_eq_false g
   have:=of_decide_eq_false g2
   have hw:¬x.2=false:=by simpa using g4
   rw [if_neg (by omega),if_neg (by omega),if_neg (fun e=>hw e.2)]at h2;exact h2
  ·have:=of_decide_eq_false g
   have:=of_decide_eq_false g2
   have:=of_decide_eq_false g3
   rw [if_neg (by omega),if_neg (by omega),if_neg (by omega)]at h2;exact h2
 ·have hge:¬x.1<l.length:=of_decide_eq_false h
  rw [tP hge]at h2
  show PV.int _ _=PV.int _ _
  rw [←h2];rfl)
def n5:List PV→Option aG:=fun xs=>match xs with
 |[.str l]=>some ⟨l.length≤1000000,.int .i64 (bj l)⟩
 |_=>none
theorem vz:∀xs c,n5 xs=some c→ag Tryz.prog aA 135 xs c:=fun xs c h=>by
 unfold n5 at h
 split at h
 ·injection h with h;subst h;exact GN _
 ·cases h
end
section
theorem mL {sc:Bs}{port:Int}{t:Bs}(h:t≠[]):dS sc port t=match iR 0 t with
 |none=>(port,8)
 |some n=>if 65535<n then(port,8)else if ay sc=true∧IU sc=n then(port,0)else(n,0):=by
 cases t with
 |nil=>exact absurd rfl h
 |cons b t=>rfl
def GO:cp:=bP [(155,iQ),(27,dQ)]
def GP(bp:Option Addr)(sc us pw:Bs)(hk:Int)(hs:Bs)(hn:Int)(hp:List Int)(port:Int)(opq pn:Bool)(pl:List Bs)(hq:Bool)(q:Bs)(hf:Bool)(fg:Bs)(bare sp:Bool)(rst:Bs)(t:Bs):ba:=fun i=>bif Nat.beq i 5 then some ⟨(Int)×(Int),(fun s x=>((((((((((((((((((((s.put 5 (.int .i64 x.1)).put 13 (.int .i64 x.2)).put 6 .undef).put 14 .undef).put 15 .undef).put 16 .undef).put 17 .undef).put 18 .undef).put 19 .undef).put 20 .undef).put 21 .undef).put 22 .undef).put 23 .undef).put 24 .undef).put 25 .undef).put 26 .undef).put 27 .undef).put 28 .undef).put 29 .undef).put 30 .undef)),(fun s=>(s.int 5,s.int 13)),(fun s x=>let n:=x.1;let i:=x.2;0≤i∧i≤t.length∧0≤n∧n≤65536∧iR n (t.drop i.toNat)=iR 0 t),(fun s x=>let n:=x.1;let i:=x.2;((t.length:Int)-i).toNat),[6,14,15,16,17,18,19,20,21,22,23,24,25,26,27,28,29,30]⟩else none
theorem DY:cR Tryz.prog aA GO:=ai jn (ai dR (ax))
theorem Jp(bp:Option Addr)(sc us pw:Bs)(hk:Int)(hs:Bs)(hn:Int)(hp:List Int)(port:Int)(opq pn:Bool)(pl:List Bs)(hq:Bool)(q:Bs)(hf:Bool)(fg:Bs)(bare sp:Bool)(rst:Bs)(t:Bs)(k:PV→List PV→Prop):bQ Tryz.prog GO aA (GP bp sc us pw hk hs hn hp port opq pn pl hq q hf fg bare sp rst t) 1000 Tryz.f137 [.ptr 0 0,.str t] [aE 1 (.raw (.pointer bp)) sc us pw hk hs hn hp port opq pn pl hq q hf fg bare sp rst] k=(
 (decide (t=(ByteArray.mk #[]).data.toList)=true→
 k (PV.int .i64 (0:Int)) [bT (PV.raw (Go.Value.pointer bp)) 1 sc us pw hk hs hn hp port opq pn pl hq q hf fg bare sp rst])∧
 (decide (t=(ByteArray.mk #[]).data.toList)=false→
 VS.mk [] [(0,PV.ptr (0:Nat) (0:Nat)),(1,PV.str t),(4,PV.int .i64 (0:Int)),(5,PV.int .i64 (0:Int)),((6:Nat),PV.undef),(7,PV.undef),(8,PV.undef),(10,PV.bool (decide (t=(ByteArray.mk #[]).data.toList))),(12,PV.int .i64 (ak t)),(13,PV.int .i64 (0:Int)),((14:Nat),PV.undef),((20:Nat),PV.undef),(32,PV.undef),(48,PV.undef)] [((0:Nat),bT (PV.raw (Go.Value.pointer bp)) 1 sc us pw hk hs hn hp port opq pn pl hq q hf fg bare sp rst)]=VS.mk [] [(0,PV.ptr (0:Nat) (0:Nat)),(1,PV.str t),(4,PV.int .i64 (0:Int)),((5:Nat),PV.int .i64 (0:Int)),((6:Nat),PV.undef),(7,PV.undef),(8,PV.undef),(10,PV.bool (decide (t=(ByteArray.mk #[]).data.toList))),(12,PV.int .i64 (ak t)),((13:Nat),PV.int .i64 (0:Int)),((14:Nat),PV.undef),((20:Nat),PV.undef),(32,PV.undef),(48,PV.undef)] [((0:Nat),bT (PV.raw (Go.Value.pointer bp)) 1 sc us pw hk hs hn hp port opq pn pl hq q hf fg bare sp rst)]∧
 ((0:Int)≤(0:Int)∧
 (0:Int)≤↑(List.length t)∧
 (0:Int)≤(0:Int)∧
 (0:Int)≤(65536:Int)∧
 iR (0:Int) (List.drop (Int.toNat (0:Int)) t)=iR (0:Int) t)∧
 ∀(x:Int×Int),(0:Int)≤x.2∧
 x.2≤↑(List.length t)∧
 (0:Int)≤x.1∧
 x.1≤(65536:Int)∧
 iR x.1 (List.drop x.2.toNat t)=iR (0:Int) t→
 (decide (x.2<ak t)=true→
 within x.2 (ak t)∧
 True∧
 ((!decide ((48:Int)≤al t x.2∧
 al t x.2≤(57:Int)))=true→
 k (PV.int .i64 (8:Int)) [bT (PV.raw (Go.Value.pointer bp)) 1 sc us pw hk hs hn hp port opq pn pl hq q hf fg bare sp rst])∧
 ((!decide ((48:Int)≤al t x.2∧
 al t x.2≤(57:Int)))=false→
 aD (x.1*(10:Int))∧
 within x.2 (ak t)∧
 aD (x.1*(10:Int)+Go.IntKind.i64.wrap (Go.IntKind.u8.wrap (al t x.2-(48:Int))))∧
 aD (x.2+(1:Int))∧
 rV (VS.mk [] [(0,PV.ptr (0:Nat) (0:Nat)),(1,PV.str t),(4,PV.int .i64 (0:Int)),((5:Nat),PV.int .i64 (min (x.1*(10:Int)+Go.IntKind.i64.wrap (Go.IntKind.u8.wrap (al t x.2-(48:Int)))) (65536:Int))),((6:Nat),PV.undef),(7,PV.undef),(8,PV.undef),(10,PV.bool (decide (t=(ByteArray.mk #[]).data.toList))),(12,PV.int .i64 (ak t)),((13:Nat),PV.int .i64 (x.2+(1:Int))),((14:Nat),PV.undef),((20:Nat),PV.undef),(32,PV.undef),(48,PV.undef)] [((0:Nat),bT (PV.raw (Go.Value.pointer bp)) 1 sc us pw hk hs hn hp port opq pn pl hq q hf fg bare sp rst)])∧
 ((0:Int)≤x.2+(1:Int)∧
 x.2+(1:Int)≤↑(List.length t)∧
 (0:Int)≤min (x.1*(10:Int)+Go.IntKind.i64.wrap (Go.IntKind.u8.wrap (al t x.2-(48:Int)))) (65536:Int)∧
 min (x.1*(10:Int)+Go.IntKind.i64.wrap (Go.IntKind.u8.wrap (al t x.2-(48:Int)))) (65536:Int)≤(65536:Int)∧
 iR (min (x.1*(10:Int)+Go.IntKind.i64.wrap (Go.IntKind.u8.wrap (al t x.2-(48:Int)))) (65536:Int)) (List.drop (x.2+(1:Int)).toNat t)=iR (0:Int) t)∧
 (↑(List.length t)-(x.2+(1:Int))).toNat<(↑(List.length t)-x.2).toNat))∧
 (decide (x.2<ak t)=false→
 (decide ((65535:Int)<x.1)=true→
 k (PV.int .i64 (8:Int)) [bT (PV.raw (Go.Value.pointer bp)) 1 sc us pw hk hs hn hp port opq pn pl hq q hf fg bare sp rst])∧
 (decide ((65535:Int)<x.1)=false→
 True∧
 ((bif !ay sc then true else !decide (IU sc=x.1))=true→
 k (PV.int .i64 (0:Int)) [bT (PV.raw (Go.Value.pointer bp)) 1 sc us pw hk hs hn hp x.1 opq pn pl hq q hf fg bare sp rst])∧
 ((bif !ay sc then true else !decide (IU sc=x.1))=false→
 k (PV.int .i64 (0:Int)) [bT (PV.raw (Go.Value.pointer bp)) 1 sc us pw hk hs hn hp port opq pn pl hq q hf fg bare sp rst]))))):=by kernel_rfl
attribute [local irreducible] Go.Vc.cB Go.Vc.bQ
theorem DZ(bp:Option Addr)(sc us pw:Bs)(hk:Int)(hs:Bs)(hn:Int)(hp:List Int)(port:Int)(opq pn:Bool)(pl:List Bs)(hq:Bool)(q:Bs)(hf:Bool)(fg:Bs)(bare sp:Bool)(rst:Bs)(t:Bs):bt Tryz.prog aA 137 [.ptr 0 0,.str t] [aE 1 (.raw (.pointer bp)) sc us pw hk hs hn hp port opq pn pl hq q hf fg bare sp rst] (t.length≤300000) (.int .i64 (dS sc port t).2) [aE 1 (.raw (.pointer bp)) sc us pw hk hs hn hp ((dS sc port t).1) opq pn pl hq q hf fg bare sp rst]:=bG (by kernel_rfl) DY (H:=GP bp sc us pw hk hs hn hp port opq pn pl hq q hf fg bare sp rst t) (fuel:=1000) Tryz.func137 (by kernel_rfl) (Nat.le_of_ble_eq_true rfl) fun hpre=>(Jp bp sc us pw hk hs hn hp port opq pn pl hq q hf fg bare sp rst t _).mpr (by
 refine ⟨fun h=>?_,fun h=>⟨rfl,⟨by omega,by omega,by omega,by omega,rfl⟩,fun x ⟨h0,h1,h2,h3,h4⟩=>⟨fun g=>?_,fun g=>?_⟩⟩⟩
 ·have e:t=[]:=of_decide_eq_true h
  subst e;exact ⟨rfl,rfl⟩
 ·have hne:t≠[]:=of_decide_eq_false h
  have hlt:x.2<t.length:=of_decide_eq_true g
  rw [xQ h0 hlt]at h4
  obtain ⟨c,hc⟩:∃c,c=t.getD x.2.toNat 0:=⟨_,rfl⟩
  have hby:al t x.2=c.toNat:=by rw [hc];rfl
  rw [←hc,iR]at h4
  rw [hby]
  refine ⟨⟨h0,hlt⟩,trivial,fun g2=>?_,fun g2=>?_⟩
  ·have g3:¬(48≤c.toNat∧c.toNat≤57):=by
    intro e
    rw [decide_eq_true (show(48:Int)≤c.toNat∧(c.toNat:Int)≤57 by omega)]at g2;cases g2
   rw [if_neg g3]at h4
   have e:dS sc port t=(port,8):=by rw [mL hne,←h4]
   rw [e];exact ⟨rfl,rfl⟩
  ·have g3:48≤c.toNat∧c.toNat≤57:=by
    have:=of_decide_eq_true (show decide ((48:Int)≤c.toNat∧(c.toNat:Int)≤57)=true by simpa using g2)
    omega
   rw [if_pos g3]at h4
   have w1:IntKind.u8.wrap ((c.toNat:Int)-48)=(c.toNat:Int)-48:=IntWalk.u8_in _ (by omega)
   have w2:IntKind.i64.wrap ((c.toNat:Int)-48)=(c.toNat:Int)-48:=IntWalk.i64_in _ (by omega)
   rw [w1,w2]
   exact ⟨by unfold aD;omega,⟨h0,hlt⟩,by unfold aD;omega,by unfold aD;omega,rfl,⟨by omega,by omega,by omega,by omega,h4⟩,by omega⟩
 ·have hne:t≠[]:=of_decide_eq_false h
  have hge:¬x.2<t.length:=of_decide_eq_false g
  rw [tP hge]at h4
  have h5:iR 0 t=some x.1:=h4.symm
  refine ⟨fun g2=>?_,fun g2=>⟨trivial,fun g3=>?_,fun g3=>?_⟩⟩
  ·have e:dS sc port t=(port,8):=by rw [mL hne,h5];exact if_pos (of_decide_eq_true g2)
   rw [e];exact ⟨rfl,rfl⟩
  ·have e:dS sc port t=(x.1,0):=by
    rw [mL hne,h5]
    show(if _ then _ else if _ then _ else _)=_
    rw [if_neg (of_decide_eq_false g2),if_neg]
    rintro ⟨e1,e2⟩
    rw [e1,decide_eq_true e2]at g3;cases g3
   rw [e];exact ⟨rfl,rfl⟩
  ·have e:dS sc port t=(port,0):=by
    rw [mL hne,h5]
    show(if _ then _ else if _ then _ else _)=_
    rw [if_neg (of_decide_eq_false g2),if_pos]
    cases e1:ay sc with
    |false=>rw [e1]at g3;cases g3
    |true=>
     refine ⟨rfl,?_⟩
     rw [e1]at g3
     exact of_decide_eq_true (show decide (IU sc=x.1)=true by simpa using g3)
   rw [e];exact ⟨rfl,rfl⟩)
theorem Jq(bp:Option Addr)(sc us pw:Bs)(hk:Int)(hs:Bs)(hn:Int)(hp:List Int)(port:Int)(opq pn:Bool)(pl:List Bs)(hq:Bool)(q:Bs)(hf:Bool)(fg:Bs)(bare sp:Bool)(rst:Bs)(t:Bs):ag Tryz.prog aA 137 [.ptr 0 0,.str t,aE 1 (.raw (.pointer bp)) sc us pw hk hs hn hp port opq pn pl hq q hf fg bare sp rst] ⟨t.length≤300000,.tup [.int .i64 (dS sc port t).2,aE 1 (.raw (.pointer bp)) sc us pw hk hs hn hp ((dS sc port t).1) opq pn pl hq q hf fg bare sp rst]⟩:=ag.bg (fun h=>by have e:List.isEmpty (PV.aB PV.bD [.ptr 0 0,.str t,aE 1 (.raw (.pointer bp)) sc us pw hk hs hn hp port opq pn pl hq q hf fg bare sp rst])=false:=(by kernel_rfl);exact Bool.noConfusion (e.symm.trans (congrArg List.isEmpty h))) (DZ bp sc us pw hk hs hn hp port opq pn pl hq q hf fg bare sp rst t)
def rj:List PV→Option aG:=fun xs=>match xs with
 |[.ptr 0 0,.str t,aE 1 (.raw (.pointer bp)) sc us pw hk hs hn hp port opq pn pl hq q hf fg bare sp rst]=>some ⟨t.length≤300000,.tup [.int .i64 (dS sc port t).2,aE 1 (.raw (.pointer bp)) sc us pw hk hs hn hp ((dS sc port t).1) opq pn pl hq q hf fg bare sp rst]⟩
 |_=>none
theorem xZ:∀xs c,rj xs=some c→ag Tryz.prog aA 137 xs c:=fun xs c h=>by
 unfold rj at h
 split at h
 ·injection h with h;subst h;exact Jq _ _ _ _ _ _ _ _ _ _ _ _ _ _ _ _ _ _ _ _
 ·cases h
end
section
theorem pN:∀(l:Bs) (w:Bool) (i:Int),kE w i l=-1∨(i≤kE w i l∧kE w i l<i+l.length)
 |[],w,i=>.inl rfl
 |b::l,w,i=>by
  have h1:=pN l true (i+1)
  have h2:=pN l false (i+1)
  have h3:=pN l w (i+1)
  unfold kE
  rw [List.length_cons]
  split
  ·omega
  ·split
   ·omega
   ·split
    ·omega
    ·omega
theorem B8(l:Bs):-1≤bj l∧bj l<max l.length 1:=by
 have:=pN l false 0
 unfold bj
 cases l with
 |nil=>exact ⟨by decide,by decide⟩
 |cons b l=>rw [List.length_cons]at this⊢;omega
theorem Jr {l:Bs}(h:0<bj l):bj l<l.length:=by
 have:=B8 l
 cases l with
 |nil=>revert h;decide
 |cons b l=>rw [List.length_cons]at this⊢;omega
theorem GQ(l:Bs)(c:Int):aN l c<l.length:=by
 rw [xF]
 rcases Lib.lastIndexByte_spec ⟨l.toArray⟩ c with⟨h1,-⟩|⟨i,h1,h2,-,-⟩
 ·rw [h1];omega
 ·rw [h2]
  have:i<l.length:=by simpa [ByteArray.size]using h1
  omega
theorem rk(l:Bs)(z:Int):(ae l z).length≤l.length:=by unfold ae;rw [List.length_take];exact Nat.min_le_right _ _
theorem cP(l:Bs)(z:Int):(aa l z).length≤l.length:=by unfold aa;rw [List.length_drop];omega
theorem Js(l:Bs)(c:UInt8):(dm l c).length≤l.length:=by
 unfold dm;split
 ·rw [List.length_take];exact Nat.min_le_right _ _
 ·exact Nat.le_refl _
theorem Jt(l:Bs)(c:UInt8):(dJ l c).length≤l.length:=by
 unfold dJ;split
 ·rw [List.length_drop];omega
 ·exact Nat.zero_le _
def LK(k:PV→List PV→Prop)(bp:Option Addr)(sc us pw:Bs)(hk:Int)(hs:Bs)(hn:Int)(hp:List Int)(port:Int)(opq pn:Bool)(pl:List Bs)(hq:Bool)(q:Bs)(hf:Bool)(fg:Bs)(bare sp:Bool)(t D:Bs):Prop:=t.length.le (1000000:Nat)∧
 ((bif decide (bj t=(0:Int))then true else bif decide (t=(ByteArray.mk #[]).data.toList)then sp else false)=true→
 k (PV.int .i64 (8:Int)) [bT (PV.raw (Go.Value.pointer bp)) 1 sc us pw hk hs hn hp port opq pn pl hq q hf fg bare sp D])∧
 ((bif decide (bj t=(0:Int))then true else bif decide (t=(ByteArray.mk #[]).data.toList)then sp else false)=false→
 (decide ((0:Int)<bj t)=true→
 upto (0:Int) (bj t) (ak t)∧
 aD (bj t+(1:Int))∧
 upto (bj t+(1:Int)) (ak t) (ak t)∧
 (ae t (bj t)).length.le (300000:Nat)∧
 ((!decide ((aP sp (ae t (bj t))).2.2.2.2=(0:Int)))=true→
 k (PV.int .i64 (aP sp (ae t (bj t))).2.2.2.2) [bT (PV.raw (Go.Value.pointer bp)) 1 sc us pw ((aP sp (ae t (bj t))).1) ((aP sp (ae t (bj t))).2.1) ((aP sp (ae t (bj t))).2.2.1) ((aP sp (ae t (bj t))).2.2.2.1) port opq pn pl hq q hf fg bare sp D])∧
 ((!decide ((aP sp (ae t (bj t))).2.2.2.2=(0:Int)))=false→
 (aa t (bj t+(1:Int))).length.le (300000:Nat)∧
 k (PV.int .i64 (dS sc port (aa t (bj t+(1:Int)))).2) [bT (PV.raw (Go.Value.pointer bp)) 1 sc us pw ((aP sp (ae t (bj t))).1) ((aP sp (ae t (bj t))).2.1) ((aP sp (ae t (bj t))).2.2.1) ((aP sp (ae t (bj t))).2.2.2.1) ((dS sc port (aa t (bj t+(1:Int)))).1) opq pn pl hq q hf fg bare sp D]))∧
 (decide ((0:Int)<bj t)=false→
 t.length.le (300000:Nat)∧
 ((!decide ((aP sp t).2.2.2.2=(0:Int)))=true→
 k (PV.int .i64 (aP sp t).2.2.2.2) [bT (PV.raw (Go.Value.pointer bp)) 1 sc us pw ((aP sp t).1) ((aP sp t).2.1) ((aP sp t).2.2.1) ((aP sp t).2.2.2.1) port opq pn pl hq q hf fg bare sp D])∧
 ((!decide ((aP sp t).2.2.2.2=(0:Int)))=false→
 (ByteArray.mk #[]).data.toList.length.le (300000:Nat)∧
 k (PV.int .i64 (0:Int)) [bT (PV.raw (Go.Value.pointer bp)) 1 sc us pw ((aP sp t).1) ((aP sp t).2.1) ((aP sp t).2.2.1) ((aP sp t).2.2.2.1) port opq pn pl hq q hf fg bare sp D])))
set_option maxHeartbeats 2000000 in
theorem B9(bp:Option Addr)(sc us pw:Bs)(hk:Int)(hs:Bs)(hn:Int)(hp:List Int)(port:Int)(opq pn:Bool)(pl:List Bs)(hq:Bool)(q:Bs)(hf:Bool)(fg:Bs)(bare sp:Bool)(t D:Bs)(hl:t.length≤300000):
 LK (fun v os=>v=.int .i64 ((RS.mk sc us pw hk hs hn hp port opq pn pl hq q hf fg bare sp D).aZ t).2∧os=[aE 1 (.raw (.pointer bp)) sc (((RS.mk sc us pw hk hs hn hp port opq pn pl hq q hf fg bare sp D).aZ t).1.us) (((RS.mk sc us pw hk hs hn hp port opq pn pl hq q hf fg bare sp D).aZ t).1.pw) (((RS.mk sc us pw hk hs hn hp port opq pn pl hq q hf fg bare sp D).aZ t).1.hk) (((RS.mk sc us pw hk hs hn hp port opq pn pl hq q hf fg bare sp D).aZ t).1.hs) (((RS.mk sc us pw hk hs hn hp port opq pn pl hq q hf fg bare sp D).aZ t).1.hn) (((RS.mk sc us pw hk hs hn hp port opq pn pl hq q hf fg bare sp D).aZ t).1.hp) (((RS.mk sc us pw hk hs hn hp port opq pn pl hq q hf fg bare sp D).aZ t).1.port) opq pn pl hq q hf fg bare sp D]) bp sc us pw hk hs hn hp port opq pn pl hq q hf fg bare sp t D:=by
 have hb:=B8 t
 have hcond:(bif decide (bj t=(0:Int))then true else bif decide (t=(ByteArray.mk #[]).data.toList)then sp else false)=decide (bj t=0∨(t=[]∧sp=true)):=by
  rw [Bool.eq_iff_iff]
  simp only [FZ,LO,Bool.and_eq_true,Bool.or_eq_true,decide_eq_true_eq]
  try exact Iff.rfl
 unfold LK
 rw [hcond]
 refine ⟨show t.length≤1000000 by omega,fun h=>?_,fun h=>⟨fun h2=>?_,fun h2=>?_⟩⟩
 ·have e:(RS.mk sc us pw hk hs hn hp port opq pn pl hq q hf fg bare sp D).aZ t=((RS.mk sc us pw hk hs hn hp port opq pn pl hq q hf fg bare sp D),8):=if_pos (of_decide_eq_true h)
  rw [e];exact ⟨rfl,rfl⟩
 ·have hc:=of_decide_eq_false h
  have h3:0<bj t:=of_decide_eq_true h2
  have h4:=Jr h3
  have ht:=rk t (bj t)
  have hd:=cP t (bj t+1)
  have e:(RS.mk sc us pw hk hs hn hp port opq pn pl hq q hf fg bare sp D).aZ t=if(aP sp (ae t (bj t))).2.2.2.2=0 then({(RS.mk sc us pw hk hs hn hp port opq pn pl hq q hf fg bare sp D)with hk:=(aP sp (ae t (bj t))).1,hs:=(aP sp (ae t (bj t))).2.1,hn:=(aP sp (ae t (bj t))).2.2.1,hp:=(aP sp (ae t (bj t))).2.2.2.1,port:=(dS sc port (aa t (bj t+1))).1},(dS sc port (aa t (bj t+1))).2)else({(RS.mk sc us pw hk hs hn hp port opq pn pl hq q hf fg bare sp D)with hk:=(aP sp (ae t (bj t))).1,hs:=(aP sp (ae t (bj t))).2.1,hn:=(aP sp (ae t (bj t))).2.2.1,hp:=(aP sp (ae t (bj t))).2.2.2.1},(aP sp (ae t (bj t))).2.2.2.2):=by
   unfold RS.aZ
   rw [if_neg hc]
   dsimp only
   rw [if_pos h3,if_pos h3]
  rw [e]
  refine ⟨⟨by omega,by omega,by unfold ak;omega⟩,by unfold aD;omega,⟨by omega,by unfold ak;omega,Int.le_refl _⟩,show(ae t (bj t)).length≤300000 by omega,fun h5=>?_,fun h5=>⟨show(aa t (bj t+1)).length≤300000 by omega,?_⟩⟩
  ·rw [if_neg (by simpa using h5)];exact ⟨rfl,rfl⟩
  ·rw [if_pos (by simpa using h5)];exact ⟨rfl,rfl⟩
 ·have hc:=of_decide_eq_false h
  have h3:¬0<bj t:=of_decide_eq_false h2
  have e:(RS.mk sc us pw hk hs hn hp port opq pn pl hq q hf fg bare sp D).aZ t=if(aP sp t).2.2.2.2=0 then({(RS.mk sc us pw hk hs hn hp port opq pn pl hq q hf fg bare sp D)with hk:=(aP sp t).1,hs:=(aP sp t).2.1,hn:=(aP sp t).2.2.1,hp:=(aP sp t).2.2.2.1,port:=(dS sc port []).1},(dS sc port []).2)else({(RS.mk sc us pw hk hs hn hp port opq pn pl hq q hf fg bare sp D)with hk:=(aP sp t).1,hs:=(aP sp t).2.1,hn:=(aP sp t).2.2.1,hp:=(aP sp t).2.2.2.1},(aP sp t).2.2.2.2):=by
   unfold RS.aZ
   rw [if_neg hc]
   dsimp only
   rw [if_neg h3,if_neg h3]
  rw [e]
  refine ⟨show t.length≤300000 from hl,fun h5=>?_,fun h5=>⟨Nat.zero_le _,?_⟩⟩
  ·rw [if_neg (by simpa using h5)];exact ⟨rfl,rfl⟩
  ·rw [if_pos (by simpa using h5)];exact ⟨rfl,rfl⟩
def o3:cp:=bP [(124,fZ),(128,gN),(133,qN),(134,vg),(26,eB),(135,n5),(136,jY),(137,rj)]
def o4(bp:Option Addr)(sc us pw:Bs)(hk:Int)(hs:Bs)(hn:Int)(hp:List Int)(port:Int)(opq pn:Bool)(pl:List Bs)(hq:Bool)(q:Bs)(hf:Bool)(fg:Bs)(bare sp:Bool)(rst:Bs):ba:=fun i=>none
theorem rl:cR Tryz.prog aA o3:=ai gM (ai ga (ai xG (ai Ae (ai du (ai vz (ai qX (ai xZ (ax))))))))
theorem vA(bp:Option Addr)(sc us pw:Bs)(hk:Int)(hs:Bs)(hn:Int)(hp:List Int)(port:Int)(opq pn:Bool)(pl:List Bs)(hq:Bool)(q:Bs)(hf:Bool)(fg:Bs)(bare sp:Bool)(rst:Bs)(k:PV→List PV→Prop):bQ Tryz.prog o3 aA (o4 bp sc us pw hk hs hn hp port opq pn pl hq q hf fg bare sp rst) 1000 Tryz.f88 [.ptr 0 0] [aE 1 (.raw (.pointer bp)) sc us pw hk hs hn hp port opq pn pl hq q hf fg bare sp rst] k=(
 (List.length rst).le (300000:Nat)∧
 ((0:Int)≤↑(ah sp rst)∧
 ↑(ah sp rst)≤ak rst)∧
 ((ae rst ↑(ah sp rst)).length≤(1000000:Nat)∧
 (0:Int)≤(64:Int)∧
 (64:Int)≤(255:Int))∧
 (decide ((0:Int)≤aN (ae rst ↑(ah sp rst)) (64:Int))=true→
 upto (0:Int) (aN (ae rst ↑(ah sp rst)) (64:Int)) (ak (ae rst ↑(ah sp rst)))∧
 ((ae (ae rst ↑(ah sp rst)) (aN (ae rst ↑(ah sp rst)) (64:Int))).length≤(1000000:Nat)∧
 (ByteArray.mk #[58]).data.toList=[(58:UInt8)])∧
 ((dm (ae (ae rst ↑(ah sp rst)) (aN (ae rst ↑(ah sp rst)) (64:Int))) (58:UInt8)).length≤(300000:Nat)∧
 (0:Int)≤(5:Int)∧
 (5:Int)≤(6:Int))∧
 ((dJ (ae (ae rst ↑(ah sp rst)) (aN (ae rst ↑(ah sp rst)) (64:Int))) (58:UInt8)).length≤(300000:Nat)∧
 (0:Int)≤(5:Int)∧
 (5:Int)≤(6:Int))∧
 aD (aN (ae rst ↑(ah sp rst)) (64:Int)+(1:Int))∧
 upto (aN (ae rst ↑(ah sp rst)) (64:Int)+(1:Int)) (ak (ae rst ↑(ah sp rst))) (ak (ae rst ↑(ah sp rst)))∧
 (decide (aa (ae rst ↑(ah sp rst)) (aN (ae rst ↑(ah sp rst)) (64:Int)+(1:Int))=(ByteArray.mk #[]).data.toList)=true→
 k (PV.int .i64 (8:Int)) [bT (PV.raw (Go.Value.pointer bp)) 1 sc (bl (5:Int) (dm (ae (ae rst ↑(ah sp rst)) (aN (ae rst ↑(ah sp rst)) (64:Int))) (58:UInt8))) (bl (5:Int) (dJ (ae (ae rst ↑(ah sp rst)) (aN (ae rst ↑(ah sp rst)) (64:Int))) (58:UInt8))) hk hs hn hp port opq pn pl hq q hf fg bare sp (aa rst ↑(ah sp rst))])∧
 (decide (aa (ae rst ↑(ah sp rst)) (aN (ae rst ↑(ah sp rst)) (64:Int)+(1:Int))=(ByteArray.mk #[]).data.toList)=false→
 (aa (ae rst ↑(ah sp rst)) (aN (ae rst ↑(ah sp rst)) (64:Int)+(1:Int))).length.le (1000000:Nat)∧
 ((bif decide (bj (aa (ae rst ↑(ah sp rst)) (aN (ae rst ↑(ah sp rst)) (64:Int)+(1:Int)))=(0:Int))then true else bif decide (aa (ae rst ↑(ah sp rst)) (aN (ae rst ↑(ah sp rst)) (64:Int)+(1:Int))=(ByteArray.mk #[]).data.toList)then sp else false)=true→
 k (PV.int .i64 (8:Int)) [bT (PV.raw (Go.Value.pointer bp)) 1 sc (bl (5:Int) (dm (ae (ae rst ↑(ah sp rst)) (aN (ae rst ↑(ah sp rst)) (64:Int))) (58:UInt8))) (bl (5:Int) (dJ (ae (ae rst ↑(ah sp rst)) (aN (ae rst ↑(ah sp rst)) (64:Int))) (58:UInt8))) hk hs hn hp port opq pn pl hq q hf fg bare sp (aa rst ↑(ah sp rst))])∧
 ((bif decide (bj (aa (ae rst ↑(ah sp rst)) (aN (ae rst ↑(ah sp rst)) (64:Int)+(1:Int)))=(0:Int))then true else bif decide (aa (ae rst ↑(ah sp rst)) (aN (ae rst ↑(ah sp rst)) (64:Int)+(1:Int))=(ByteArray.mk #[]).data.toList)then sp else false)=false→
 (decide ((0:Int)<bj (aa (ae rst ↑(ah sp rst)) (aN (ae rst ↑(ah sp rst)) (64:Int)+(1:Int))))=true→
 upto (0:Int) (bj (aa (ae rst ↑(ah sp rst)) (aN (ae rst ↑(ah sp rst)) (64:Int)+(1:Int)))) (ak (aa (ae rst ↑(ah sp rst)) (aN (ae rst ↑(ah sp rst)) (64:Int)+(1:Int))))∧
 aD (bj (aa (ae rst ↑(ah sp rst)) (aN (ae rst ↑(ah sp rst)) (64:Int)+(1:Int)))+(1:Int))∧
 upto (bj (aa (ae rst ↑(ah sp rst)) (aN (ae rst ↑(ah sp rst)) (64:Int)+(1:Int)))+(1:Int)) (ak (aa (ae rst ↑(ah sp rst)) (aN (ae rst ↑(ah sp rst)) (64:Int)+(1:Int)))) (ak (aa (ae rst ↑(ah sp rst)) (aN (ae rst ↑(ah sp rst)) (64:Int)+(1:Int))))∧
 (ae (aa (ae rst ↑(ah sp rst)) (aN (ae rst ↑(ah sp rst)) (64:Int)+(1:Int))) (bj (aa (ae rst ↑(ah sp rst)) (aN (ae rst ↑(ah sp rst)) (64:Int)+(1:Int))))).length.le (300000:Nat)∧
 ((!decide ((aP sp (ae (aa (ae rst ↑(ah sp rst)) (aN (ae rst ↑(ah sp rst)) (64:Int)+(1:Int))) (bj (aa (ae rst ↑(ah sp rst)) (aN (ae rst ↑(ah sp rst)) (64:Int)+(1:Int)))))).2.2.2.2=(0:Int)))=true→
 k (PV.int .i64 (aP sp (ae (aa (ae rst ↑(ah sp rst)) (aN (ae rst ↑(ah sp rst)) (64:Int)+(1:Int))) (bj (aa (ae rst ↑(ah sp rst)) (aN (ae rst ↑(ah sp rst)) (64:Int)+(1:Int)))))).2.2.2.2) [bT (PV.raw (Go.Value.pointer bp)) 1 sc (bl (5:Int) (dm (ae (ae rst ↑(ah sp rst)) (aN (ae rst ↑(ah sp rst)) (64:Int))) (58:UInt8))) (bl (5:Int) (dJ (ae (ae rst ↑(ah sp rst)) (aN (ae rst ↑(ah sp rst)) (64:Int))) (58:UInt8))) ((aP sp (ae (aa (ae rst ↑(ah sp rst)) (aN (ae rst ↑(ah sp rst)) (64:Int)+(1:Int))) (bj (aa (ae rst ↑(ah sp rst)) (aN (ae rst ↑(ah sp rst)) (64:Int)+(1:Int)))))).1) ((aP sp (ae (aa (ae rst ↑(ah sp rst)) (aN (ae rst ↑(ah sp rst)) (64:Int)+(1:Int))) (bj (aa (ae rst ↑(ah sp rst)) (aN (ae rst ↑(ah sp rst)) (64:Int)+(1:Int)))))).2.1) ((aP sp (ae (aa (ae rst ↑(ah sp rst)) (aN (ae rst ↑(ah sp rst)) (64:Int)+(1:Int))) (bj (aa (ae rst ↑(ah sp rst)) (aN (ae rst ↑(ah sp rst)) (64:Int)+(1:Int)))))).2.2.1) ((aP sp (ae (aa (ae rst ↑(ah sp rst)) (aN (ae rst ↑(ah sp rst)) (64:Int)+(1:Int))) (bj (aa (ae rst ↑(ah sp rst)) (aN (ae rst ↑(ah sp rst)) (64:Int)+(1:Int)))))).2.2.2.1) port opq pn pl hq q hf fg bare sp (aa rst ↑(ah sp rst))])∧
 ((!decide ((aP sp (ae (aa (ae rst ↑(ah sp rst)) (aN (ae rst ↑(ah sp rst)) (64:Int)+(1:Int))) (bj (aa (ae rst ↑(ah sp rst)) (aN (ae rst ↑(ah sp rst)) (64:Int)+(1:Int)))))).2.2.2.2=(0:Int)))=false→
 (aa (aa (ae rst ↑(ah sp rst)) (aN (ae rst ↑(ah sp rst)) (64:Int)+(1:Int))) (bj (aa (ae rst ↑(ah sp rst)) (aN (ae rst ↑(ah sp rst)) (64:Int)+(1:Int)))+(1:Int))).length.le (300000:Nat)∧
 k (PV.int .i64 (dS sc port (aa (aa (ae rst ↑(ah sp rst)) (aN (ae rst ↑(ah sp rst)) (64:Int)+(1:Int))) (bj (aa (ae rst ↑(ah sp rst)) (aN (ae rst ↑(ah sp rst)) (64:Int)+(1:Int)))+(1:Int)))).2) [bT (PV.raw (Go.Value.pointer bp)) 1 sc (bl (5:Int) (dm (ae (ae rst ↑(ah sp rst)) (aN (ae rst ↑(ah sp rst)) (64:Int))) (58:UInt8))) (bl (5:Int) (dJ (ae (ae rst ↑(ah sp rst)) (aN (ae rst ↑(ah sp rst)) (64:Int))) (58:UInt8))) ((aP sp (ae (aa (ae rst ↑(ah sp rst)) (aN (ae rst ↑(ah sp rst)) (64:Int)+(1:Int))) (bj (aa (ae rst ↑(ah sp rst)) (aN (ae rst ↑(ah sp rst)) (64:Int)+(1:Int)))))).1) ((aP sp (ae (aa (ae rst ↑(ah sp rst)) (aN (ae rst ↑(ah sp rst)) (64:Int)+(1:Int))) (bj (aa (ae rst ↑(ah sp rst)) (aN (ae rst ↑(ah sp rst)) (64:Int)+(1:Int)))))).2.1) ((aP sp (ae (aa (ae rst ↑(ah sp rst)) (aN (ae rst ↑(ah sp rst)) (64:Int)+(1:Int))) (bj (aa (ae rst ↑(ah sp rst)) (aN (ae rst ↑(ah sp rst)) (64:Int)+(1:Int)))))).2.2.1) ((aP sp (ae (aa (ae rst ↑(ah sp rst)) (aN (ae rst ↑(ah sp rst)) (64:Int)+(1:Int))) (bj (aa (ae rst ↑(ah sp rst)) (aN (ae rst ↑(ah sp rst)) (64:Int)+(1:Int)))))).2.2.2.1) ((dS sc port (aa (aa (ae rst ↑(ah sp rst)) (aN (ae rst ↑(ah sp rst)) (64:Int)+(1:Int))) (bj (aa (ae rst ↑(ah sp rst)) (aN (ae rst ↑(ah sp rst)) (64:Int)+(1:Int)))+(1:Int)))).1) opq pn pl hq q hf fg bare sp (aa rst ↑(ah sp rst))]))∧
 (decide ((0:Int)<bj (aa (ae rst ↑(ah sp rst)) (aN (ae rst ↑(ah sp rst)) (64:Int)+(1:Int))))=false→
 (aa (ae rst ↑(ah sp rst)) (aN (ae rst ↑(ah sp rst)) (64:Int)+(1:Int))).length.le (300000:Nat)∧
 ((!decide ((aP sp (aa (ae rst ↑(ah sp rst)) (aN (ae rst ↑(ah sp rst)) (64:Int)+(1:Int)))).2.2.2.2=(0:Int)))=true→
 k (PV.int .i64 (aP sp (aa (ae rst ↑(ah sp rst)) (aN (ae rst ↑(ah sp rst)) (64:Int)+(1:Int)))).2.2.2.2) [bT (PV.raw (Go.Value.pointer bp)) 1 sc (bl (5:Int) (dm (ae (ae rst ↑(ah sp rst)) (aN (ae rst ↑(ah sp rst)) (64:Int))) (58:UInt8))) (bl (5:Int) (dJ (ae (ae rst ↑(ah sp rst)) (aN (ae rst ↑(ah sp rst)) (64:Int))) (58:UInt8))) ((aP sp (aa (ae rst ↑(ah sp rst)) (aN (ae rst ↑(ah sp rst)) (64:Int)+(1:Int)))).1) ((aP sp (aa (ae rst ↑(ah sp rst)) (aN (ae rst ↑(ah sp rst)) (64:Int)+(1:Int)))).2.1) ((aP sp (aa (ae rst ↑(ah sp rst)) (aN (ae rst ↑(ah sp rst)) (64:Int)+(1:Int)))).2.2.1) ((aP sp (aa (ae rst ↑(ah sp rst)) (aN (ae rst ↑(ah sp rst)) (64:Int)+(1:Int)))).2.2.2.1) port opq pn pl hq q hf fg bare sp (aa rst ↑(ah sp rst))])∧
 ((!decide ((aP sp (aa (ae rst ↑(ah sp rst)) (aN (ae rst ↑(ah sp rst)) (64:Int)+(1:Int)))).2.2.2.2=(0:Int)))=false→
 (ByteArray.mk #[]).data.toList.length.le (300000:Nat)∧
 k (PV.int .i64 (0:Int)) [bT (PV.raw (Go.Value.pointer bp)) 1 sc (bl (5:Int) (dm (ae (ae rst ↑(ah sp rst)) (aN (ae rst ↑(ah sp rst)) (64:Int))) (58:UInt8))) (bl (5:Int) (dJ (ae (ae rst ↑(ah sp rst)) (aN (ae rst ↑(ah sp rst)) (64:Int))) (58:UInt8))) ((aP sp (aa (ae rst ↑(ah sp rst)) (aN (ae rst ↑(ah sp rst)) (64:Int)+(1:Int)))).1) ((aP sp (aa (ae rst ↑(ah sp rst)) (aN (ae rst ↑(ah sp rst)) (64:Int)+(1:Int)))).2.1) ((aP sp (aa (ae rst ↑(ah sp rst)) (aN (ae rst ↑(ah sp rst)) (64:Int)+(1:Int)))).2.2.1) ((aP sp (aa (ae rst ↑(ah sp rst)) (aN (ae rst ↑(ah sp rst)) (64:Int)+(1:Int)))).2.2.2.1) port opq pn pl hq q hf fg bare sp (aa rst ↑(ah sp rst))])))))∧
 (decide ((0:Int)≤aN (ae rst ↑(ah sp rst)) (64:Int))=false→
 (ae rst ↑(ah sp rst)).length.le (1000000:Nat)∧
 ((bif decide (bj (ae rst ↑(ah sp rst))=(0:Int))then true else bif decide (ae rst ↑(ah sp rst)=(ByteArray.mk #[]).data.toList)then sp else false)=true→
 k (PV.int .i64 (8:Int)) [bT (PV.raw (Go.Value.pointer bp)) 1 sc us pw hk hs hn hp port opq pn pl hq q hf fg bare sp (aa rst ↑(ah sp rst))])∧
 ((bif decide (bj (ae rst ↑(ah sp rst))=(0:Int))then true else bif decide (ae rst ↑(ah sp rst)=(ByteArray.mk #[]).data.toList)then sp else false)=false→
 (decide ((0:Int)<bj (ae rst ↑(ah sp rst)))=true→
 upto (0:Int) (bj (ae rst ↑(ah sp rst))) (ak (ae rst ↑(ah sp rst)))∧
 aD (bj (ae rst ↑(ah sp rst))+(1:Int))∧
 upto (bj (ae rst ↑(ah sp rst))+(1:Int)) (ak (ae rst ↑(ah sp rst))) (ak (ae rst ↑(ah sp rst)))∧
 (ae (ae rst ↑(ah sp rst)) (bj (ae rst ↑(ah sp rst)))).length.le (300000:Nat)∧
 ((!decide ((aP sp (ae (ae rst ↑(ah sp rst)) (bj (ae rst ↑(ah sp rst))))).2.2.2.2=(0:Int)))=true→
 k (PV.int .i64 (aP sp (ae (ae rst ↑(ah sp rst)) (bj (ae rst ↑(ah sp rst))))).2.2.2.2) [bT (PV.raw (Go.Value.pointer bp)) 1 sc us pw ((aP sp (ae (ae rst ↑(ah sp rst)) (bj (ae rst ↑(ah sp rst))))).1) ((aP sp (ae (ae rst ↑(ah sp rst)) (bj (ae rst ↑(ah sp rst))))).2.1) ((aP sp (ae (ae rst ↑(ah sp rst)) (bj (ae rst ↑(ah sp rst))))).2.2.1) ((aP sp (ae (ae rst ↑(ah sp rst)) (bj (ae rst ↑(ah sp rst))))).2.2.2.1) port opq pn pl hq q hf fg bare sp (aa rst ↑(ah sp rst))])∧
 ((!decide ((aP sp (ae (ae rst ↑(ah sp rst)) (bj (ae rst ↑(ah sp rst))))).2.2.2.2=(0:Int)))=false→
 (aa (ae rst ↑(ah sp rst)) (bj (ae rst ↑(ah sp rst))+(1:Int))).length.le (300000:Nat)∧
 k (PV.int .i64 (dS sc port (aa (ae rst ↑(ah sp rst)) (bj (ae rst ↑(ah sp rst))+(1:Int)))).2) [bT (PV.raw (Go.Value.pointer bp)) 1 sc us pw ((aP sp (ae (ae rst ↑(ah sp rst)) (bj (ae rst ↑(ah sp rst))))).1) ((aP sp (ae (ae rst ↑(ah sp rst)) (bj (ae rst ↑(ah sp rst))))).2.1) ((aP sp (ae (ae rst ↑(ah sp rst)) (bj (ae rst ↑(ah sp rst))))).2.2.1) ((aP sp (ae (ae rst ↑(ah sp rst)) (bj (ae rst ↑(ah sp rst))))).2.2.2.1) ((dS sc port (aa (ae rst ↑(ah sp rst)) (bj (ae rst ↑(ah sp rst))+(1:Int)))).1) opq pn pl hq q hf fg bare sp (aa rst ↑(ah sp rst))]))∧
 (decide ((0:Int)<bj (ae rst ↑(ah sp rst)))=false→
 (ae rst ↑(ah sp rst)).length.le (300000:Nat)∧
 ((!decide ((aP sp (ae rst ↑(ah sp rst))).2.2.2.2=(0:Int)))=true→
 k (PV.int .i64 (aP sp (ae rst ↑(ah sp rst))).2.2.2.2) [bT (PV.raw (Go.Value.pointer bp)) 1 sc us pw ((aP sp (ae rst ↑(ah sp rst))).1) ((aP sp (ae rst ↑(ah sp rst))).2.1) ((aP sp (ae rst ↑(ah sp rst))).2.2.1) ((aP sp (ae rst ↑(ah sp rst))).2.2.2.1) port opq pn pl hq q hf fg bare sp (aa rst ↑(ah sp rst))])∧
 ((!decide ((aP sp (ae rst ↑(ah sp rst))).2.2.2.2=(0:Int)))=false→
 (ByteArray.mk #[]).data.toList.length.le (300000:Nat)∧
 k (PV.int .i64 (0:Int)) [bT (PV.raw (Go.Value.pointer bp)) 1 sc us pw ((aP sp (ae rst ↑(ah sp rst))).1) ((aP sp (ae rst ↑(ah sp rst))).2.1) ((aP sp (ae rst ↑(ah sp rst))).2.2.1) ((aP sp (ae rst ↑(ah sp rst))).2.2.2.1) port opq pn pl hq q hf fg bare sp (aa rst ↑(ah sp rst))]))))):=by kernel_rfl
attribute [local irreducible] Go.Vc.cB Go.Vc.bQ
theorem rm(bp:Option Addr)(sc us pw:Bs)(hk:Int)(hs:Bs)(hn:Int)(hp:List Int)(port:Int)(opq pn:Bool)(pl:List Bs)(hq:Bool)(q:Bs)(hf:Bool)(fg:Bs)(bare sp:Bool)(rst:Bs):bt Tryz.prog aA 88 [.ptr 0 0] [aE 1 (.raw (.pointer bp)) sc us pw hk hs hn hp port opq pn pl hq q hf fg bare sp rst] (rst.length≤300000) (.int .i64 (RS.mk sc us pw hk hs hn hp port opq pn pl hq q hf fg bare sp rst).aU.2) [aE 1 (.raw (.pointer bp)) sc ((RS.mk sc us pw hk hs hn hp port opq pn pl hq q hf fg bare sp rst).aU.1.us) ((RS.mk sc us pw hk hs hn hp port opq pn pl hq q hf fg bare sp rst).aU.1.pw) ((RS.mk sc us pw hk hs hn hp port opq pn pl hq q hf fg bare sp rst).aU.1.hk) ((RS.mk sc us pw hk hs hn hp port opq pn pl hq q hf fg bare sp rst).aU.1.hs) ((RS.mk sc us pw hk hs hn hp port opq pn pl hq q hf fg bare sp rst).aU.1.hn) ((RS.mk sc us pw hk hs hn hp port opq pn pl hq q hf fg bare sp rst).aU.1.hp) ((RS.mk sc us pw hk hs hn hp port opq pn pl hq q hf fg bare sp rst).aU.1.port) opq pn pl hq q hf fg bare sp (aa rst (ah sp rst))]:=bG (by kernel_rfl) rl (H:=o4 bp sc us pw hk hs hn hp port opq pn pl hq q hf fg bare sp rst) (fuel:=1000) Tryz.func88 (by kernel_rfl) (Nat.le_of_ble_eq_true rfl) fun hpre=>(vA bp sc us pw hk hs hn hp port opq pn pl hq q hf fg bare sp rst _).mpr (by
 have e3:ah sp rst≤rst.length:=db _ _
 obtain ⟨S,e4⟩:∃S,S=ae rst (ah sp rst:Int):=⟨_,rfl⟩
 obtain ⟨D,e5⟩:∃D,D=aa rst (ah sp rst:Int):=⟨_,rfl⟩
 have ha:(RS.mk sc us pw hk hs hn hp port opq pn pl hq q hf fg bare sp rst).aU=if 0≤aN S 64 then(if aa S (aN S 64+1)=[]then(RS.mk sc (bl 5 (dm (ae S (aN S 64)) 58)) (bl 5 (dJ (ae S (aN S 64)) 58)) hk hs hn hp port opq pn pl hq q hf fg bare sp D,8)else(RS.mk sc (bl 5 (dm (ae S (aN S 64)) 58)) (bl 5 (dJ (ae S (aN S 64)) 58)) hk hs hn hp port opq pn pl hq q hf fg bare sp D).aZ (aa S (aN S 64+1)))else(RS.mk sc us pw hk hs hn hp port opq pn pl hq q hf fg bare sp D).aZ S:=by rw [e4,e5];rfl
 rw [←e4,←e5]
 have e6:S.length≤300000:=by rw [e4];have:=rk rst (ah sp rst:Int);omega
 have hl:=GQ S 64
 have ht:=rk S (aN S 64)
 have hd:=cP S (aN S 64+1)
 have hca:=Js (ae S (aN S 64)) 58
 have hcb:=Jt (ae S (aN S 64)) 58
 refine ⟨show rst.length≤300000 from hpre,⟨by omega,by unfold ak;exact Int.ofNat_le.2 e3⟩,⟨by omega,by omega,by omega⟩,fun h=>⟨⟨by omega,of_decide_eq_true h,by unfold ak;omega⟩,⟨by omega,rfl⟩,⟨by omega,by omega,by omega⟩,⟨by omega,by omega,by omega⟩,by have:=of_decide_eq_true h;unfold aD;omega,⟨by have:=of_decide_eq_true h;omega,by unfold ak;omega,Int.le_refl _⟩,fun h2=>?_,fun h2=>?_⟩,fun h=>?_⟩
 ·rw [ha,if_pos (of_decide_eq_true h),if_pos (show aa S (aN S 64+1)=[]from of_decide_eq_true h2)]
  exact ⟨rfl,rfl⟩
 ·rw [ha,if_pos (of_decide_eq_true h),if_neg (show ¬aa S (aN S 64+1)=[]from of_decide_eq_false h2)]
  exact B9 bp sc (bl 5 (dm (ae S (aN S 64)) 58)) (bl 5 (dJ (ae S (aN S 64)) 58)) hk hs hn hp port opq pn pl hq q hf fg bare sp (aa S (aN S 64+1)) D (by omega)
 ·rw [ha,if_neg (of_decide_eq_false h)]
  exact B9 bp sc us pw hk hs hn hp port opq pn pl hq q hf fg bare sp S D e6)
theorem vB(bp:Option Addr)(sc us pw:Bs)(hk:Int)(hs:Bs)(hn:Int)(hp:List Int)(port:Int)(opq pn:Bool)(pl:List Bs)(hq:Bool)(q:Bs)(hf:Bool)(fg:Bs)(bare sp:Bool)(rst:Bs):ag Tryz.prog aA 88 [.ptr 0 0,aE 1 (.raw (.pointer bp)) sc us pw hk hs hn hp port opq pn pl hq q hf fg bare sp rst] ⟨rst.length≤300000,.tup [.int .i64 (RS.mk sc us pw hk hs hn hp port opq pn pl hq q hf fg bare sp rst).aU.2,aE 1 (.raw (.pointer bp)) sc ((RS.mk sc us pw hk hs hn hp port opq pn pl hq q hf fg bare sp rst).aU.1.us) ((RS.mk sc us pw hk hs hn hp port opq pn pl hq q hf fg bare sp rst).aU.1.pw) ((RS.mk sc us pw hk hs hn hp port opq pn pl hq q hf fg bare sp rst).aU.1.hk) ((RS.mk sc us pw hk hs hn hp port opq pn pl hq q hf fg bare sp rst).aU.1.hs) ((RS.mk sc us pw hk hs hn hp port opq pn pl hq q hf fg bare sp rst).aU.1.hn) ((RS.mk sc us pw hk hs hn hp port opq pn pl hq q hf fg bare sp rst).aU.1.hp) ((RS.mk sc us pw hk hs hn hp port opq pn pl hq q hf fg bare sp rst).aU.1.port) opq pn pl hq q hf fg bare sp (aa rst (ah sp rst))]⟩:=ag.bg (fun h=>by have e:List.isEmpty (PV.aB PV.bD [.ptr 0 0,aE 1 (.raw (.pointer bp)) sc us pw hk hs hn hp port opq pn pl hq q hf fg bare sp rst])=false:=(by kernel_rfl);exact Bool.noConfusion (e.symm.trans (congrArg List.isEmpty h))) (rm bp sc us pw hk hs hn hp port opq pn pl hq q hf fg bare sp rst)
def ig:List PV→Option aG:=fun xs=>match xs with
 |[.ptr 0 0,aE 1 (.raw (.pointer bp)) sc us pw hk hs hn hp port opq pn pl hq q hf fg bare sp rst]=>some ⟨rst.length≤300000,.tup [.int .i64 (RS.mk sc us pw hk hs hn hp port opq pn pl hq q hf fg bare sp rst).aU.2,aE 1 (.raw (.pointer bp)) sc ((RS.mk sc us pw hk hs hn hp port opq pn pl hq q hf fg bare sp rst).aU.1.us) ((RS.mk sc us pw hk hs hn hp port opq pn pl hq q hf fg bare sp rst).aU.1.pw) ((RS.mk sc us pw hk hs hn hp port opq pn pl hq q hf fg bare sp rst).aU.1.hk) ((RS.mk sc us pw hk hs hn hp port opq pn pl hq q hf fg bare sp rst).aU.1.hs) ((RS.mk sc us pw hk hs hn hp port opq pn pl hq q hf fg bare sp rst).aU.1.hn) ((RS.mk sc us pw hk hs hn hp port opq pn pl hq q hf fg bare sp rst).aU.1.hp) ((RS.mk sc us pw hk hs hn hp port opq pn pl hq q hf fg bare sp rst).aU.1.port) opq pn pl hq q hf fg bare sp (aa rst (ah sp rst))]⟩
 |_=>none
theorem n7:∀xs c,ig xs=some c→ag Tryz.prog aA 88 xs c:=fun xs c h=>by
 unfold ig at h
 split at h
 ·injection h with h;subst h;exact vB _ _ _ _ _ _ _ _ _ _ _ _ _ _ _ _ _ _ _
 ·cases h
end
section
def rp:cp:=bP [(124,fZ),(128,gN),(136,lA)]
def rq(bp:Option Addr)(sc us pw:Bs)(hk:Int)(hs:Bs)(hn:Int)(hp:List Int)(port:Int)(opq pn:Bool)(pl:List Bs)(hq:Bool)(q:Bs)(hf:Bool)(fg:Bs)(bare sp:Bool)(rst:Bs):ba:=fun i=>none
theorem sl:cR Tryz.prog aA rp:=ai gM (ai ga (ai si (ax)))
theorem x3(bp:Option Addr)(sc us pw:Bs)(hk:Int)(hs:Bs)(hn:Int)(hp:List Int)(port:Int)(opq pn:Bool)(pl:List Bs)(hq:Bool)(q:Bs)(hf:Bool)(fg:Bs)(bare sp:Bool)(rst:Bs)(k:PV→List PV→Prop):bQ Tryz.prog rp aA (rq bp sc us pw hk hs hn hp port opq pn pl hq q hf fg bare sp rst) 1000 Tryz.f125 [.ptr 0 0] [aE 1 (.raw (.pointer bp)) sc us pw hk hs hn hp port opq pn pl hq q hf fg bare sp rst] k=(
 (List.length rst).le (300000:Nat)∧
 ((0:Int)≤↑(ah sp rst)∧
 ↑(ah sp rst)≤ak rst)∧
 (decide (ae rst ↑(ah sp rst)=(ByteArray.mk #[]).data.toList)=true→
 k (PV.int .i64 (0:Int)) [bT (PV.raw (Go.Value.pointer bp)) 1 sc us pw hk hs hn hp port opq pn pl hq q hf fg bare sp (aa rst ↑(ah sp rst))])∧
 (decide (ae rst ↑(ah sp rst)=(ByteArray.mk #[]).data.toList)=false→
 (ae rst ↑(ah sp rst)).length.le (1000000:Nat)∧
 ((bif !decide ((cw (ae rst ↑(ah sp rst))).1=(2:Int))then true else !decide ((cw (ae rst ↑(ah sp rst))).2.1=(ByteArray.mk #[108,111,99,97,108,104,111,115,116]).data.toList))=true→
 k (PV.int .i64 (cw (ae rst ↑(ah sp rst))).2.2.2.2) [bT (PV.raw (Go.Value.pointer bp)) 1 sc us pw ((cw (ae rst ↑(ah sp rst))).1) ((cw (ae rst ↑(ah sp rst))).2.1) ((cw (ae rst ↑(ah sp rst))).2.2.1) ((cw (ae rst ↑(ah sp rst))).2.2.2.1) port opq pn pl hq q hf fg bare sp (aa rst ↑(ah sp rst))])∧
 ((bif !decide ((cw (ae rst ↑(ah sp rst))).1=(2:Int))then true else !decide ((cw (ae rst ↑(ah sp rst))).2.1=(ByteArray.mk #[108,111,99,97,108,104,111,115,116]).data.toList))=false→
 k (PV.int .i64 (cw (ae rst ↑(ah sp rst))).2.2.2.2) [bT (PV.raw (Go.Value.pointer bp)) 1 sc us pw hk hs hn hp port opq pn pl hq q hf fg bare sp (aa rst ↑(ah sp rst))]))):=by kernel_rfl
attribute [local irreducible] Go.Vc.cB Go.Vc.bQ
theorem sn(bp:Option Addr)(sc us pw:Bs)(hk:Int)(hs:Bs)(hn:Int)(hp:List Int)(port:Int)(opq pn:Bool)(pl:List Bs)(hq:Bool)(q:Bs)(hf:Bool)(fg:Bs)(bare sp:Bool)(rst:Bs):bt Tryz.prog aA 125 [.ptr 0 0] [aE 1 (.raw (.pointer bp)) sc us pw hk hs hn hp port opq pn pl hq q hf fg bare sp rst] (rst.length≤300000) (.int .i64 (RS.mk sc us pw hk hs hn hp port opq pn pl hq q hf fg bare sp rst).av.2) [aE 1 (.raw (.pointer bp)) sc us pw ((RS.mk sc us pw hk hs hn hp port opq pn pl hq q hf fg bare sp rst).av.1.hk) ((RS.mk sc us pw hk hs hn hp port opq pn pl hq q hf fg bare sp rst).av.1.hs) ((RS.mk sc us pw hk hs hn hp port opq pn pl hq q hf fg bare sp rst).av.1.hn) ((RS.mk sc us pw hk hs hn hp port opq pn pl hq q hf fg bare sp rst).av.1.hp) port opq pn pl hq q hf fg bare sp (aa rst (ah sp rst))]:=bG (by kernel_rfl) sl (H:=rq bp sc us pw hk hs hn hp port opq pn pl hq q hf fg bare sp rst) (fuel:=1000) Tryz.func125 (by kernel_rfl) (Nat.le_of_ble_eq_true rfl) fun hpre=>(x3 bp sc us pw hk hs hn hp port opq pn pl hq q hf fg bare sp rst _).mpr (by
 have e3:ah sp rst≤rst.length:=db _ _
 obtain ⟨S,e4⟩:∃S,S=ae rst (ah sp rst:Int):=⟨_,rfl⟩
 rw [←e4]
 have e6:S.length≤300000:=by rw [e4];unfold ae;rw [List.length_take];omega
 have ef:(RS.mk sc us pw hk hs hn hp port opq pn pl hq q hf fg bare sp rst).av=if S=[]then((RS.mk sc us pw hk hs hn hp port opq pn pl hq q hf fg bare sp rst).cut (ah sp rst),0)else if(cw S).1=2∧(cw S).2.1=LH then((RS.mk sc us pw hk hs hn hp port opq pn pl hq q hf fg bare sp rst).cut (ah sp rst),(cw S).2.2.2.2)else({(RS.mk sc us pw hk hs hn hp port opq pn pl hq q hf fg bare sp rst).cut (ah sp rst)with hk:=(cw S).1,hs:=(cw S).2.1,hn:=(cw S).2.2.1,hp:=(cw S).2.2.2.1},(cw S).2.2.2.2):=by rw [e4];rfl
 rw [ef]
 refine ⟨show rst.length≤300000 from hpre,⟨by omega,by unfold ak;exact Int.ofNat_le.2 e3⟩,fun h=>?_,fun h=>⟨show S.length≤1000000 by omega,fun h2=>?_,fun h2=>?_⟩⟩
 ·rw [if_pos (show S=[]from of_decide_eq_true h)];exact ⟨rfl,rfl⟩
 ·rw [if_neg (show ¬S=[]from of_decide_eq_false h),if_neg]
  ·exact ⟨rfl,rfl⟩
  ·rintro ⟨a,b⟩
   rw [decide_eq_true a,show decide ((cw S).2.1=(ByteArray.mk #[108,111,99,97,108,104,111,115,116]).data.toList)=true from decide_eq_true b]at h2
   cases h2
 ·rw [if_neg (show ¬S=[]from of_decide_eq_false h),if_pos]
  ·exact ⟨rfl,rfl⟩
  ·cases ha:decide ((cw S).1=2)with
   |false=>rw [ha]at h2;cases h2
   |true=>
    rw [ha]at h2
    cases hb:decide ((cw S).2.1=(ByteArray.mk #[108,111,99,97,108,104,111,115,116]).data.toList)with
    |false=>rw [hb]at h2;cases h2
    |true=>exact ⟨of_decide_eq_true ha,of_decide_eq_true hb⟩)
theorem x4(bp:Option Addr)(sc us pw:Bs)(hk:Int)(hs:Bs)(hn:Int)(hp:List Int)(port:Int)(opq pn:Bool)(pl:List Bs)(hq:Bool)(q:Bs)(hf:Bool)(fg:Bs)(bare sp:Bool)(rst:Bs):ag Tryz.prog aA 125 [.ptr 0 0,aE 1 (.raw (.pointer bp)) sc us pw hk hs hn hp port opq pn pl hq q hf fg bare sp rst] ⟨rst.length≤300000,.tup [.int .i64 (RS.mk sc us pw hk hs hn hp port opq pn pl hq q hf fg bare sp rst).av.2,aE 1 (.raw (.pointer bp)) sc us pw ((RS.mk sc us pw hk hs hn hp port opq pn pl hq q hf fg bare sp rst).av.1.hk) ((RS.mk sc us pw hk hs hn hp port opq pn pl hq q hf fg bare sp rst).av.1.hs) ((RS.mk sc us pw hk hs hn hp port opq pn pl hq q hf fg bare sp rst).av.1.hn) ((RS.mk sc us pw hk hs hn hp port opq pn pl hq q hf fg bare sp rst).av.1.hp) port opq pn pl hq q hf fg bare sp (aa rst (ah sp rst))]⟩:=ag.bg (fun h=>by have e:List.isEmpty (PV.aB PV.bD [.ptr 0 0,aE 1 (.raw (.pointer bp)) sc us pw hk hs hn hp port opq pn pl hq q hf fg bare sp rst])=false:=(by kernel_rfl);exact Bool.noConfusion (e.symm.trans (congrArg List.isEmpty h))) (sn bp sc us pw hk hs hn hp port opq pn pl hq q hf fg bare sp rst)
def jq:List PV→Option aG:=fun xs=>match xs with
 |[.ptr 0 0,aE 1 (.raw (.pointer bp)) sc us pw hk hs hn hp port opq pn pl hq q hf fg bare sp rst]=>some ⟨rst.length≤300000,.tup [.int .i64 (RS.mk sc us pw hk hs hn hp port opq pn pl hq q hf fg bare sp rst).av.2,aE 1 (.raw (.pointer bp)) sc us pw ((RS.mk sc us pw hk hs hn hp port opq pn pl hq q hf fg bare sp rst).av.1.hk) ((RS.mk sc us pw hk hs hn hp port opq pn pl hq q hf fg bare sp rst).av.1.hs) ((RS.mk sc us pw hk hs hn hp port opq pn pl hq q hf fg bare sp rst).av.1.hn) ((RS.mk sc us pw hk hs hn hp port opq pn pl hq q hf fg bare sp rst).av.1.hp) port opq pn pl hq q hf fg bare sp (aa rst (ah sp rst))]⟩
 |_=>none
theorem po:∀xs c,jq xs=some c→ag Tryz.prog aA 125 xs c:=fun xs c h=>by
 unfold jq at h
 split at h
 ·injection h with h;subst h;exact x4 _ _ _ _ _ _ _ _ _ _ _ _ _ _ _ _ _ _ _
 ·cases h
end
section
def JY:cp:=bP [(153,jo)]
def JZ(l:Bs):ba:=fun i=>none
theorem GR:cR Tryz.prog aA JY:=ai kM (ax)
theorem K1(l:Bs)(k:PV→Prop):cB Tryz.prog JY aA (JZ l) 1000 Tryz.f123 [.str l] k=(
 (decide (ak l=(2:Int))=true→within (0:Int) (ak l))∧
 (decide (ak l=(2:Int))=true→(0:Int)≤al l (0:Int)∧al l (0:Int)≤(255:Int))∧
 ((bif decide (ak l=(2:Int))then
 decide
 ((97:Int)≤al l (0:Int)∧al l (0:Int)≤(122:Int)∨
 (65:Int)≤al l (0:Int)∧al l (0:Int)≤(90:Int))
 else false)=
 true→
 within (1:Int) (ak l))∧
 ((bif decide (ak l=(2:Int))then
 decide
 ((97:Int)≤al l (0:Int)∧al l (0:Int)≤(122:Int)∨
 (65:Int)≤al l (0:Int)∧al l (0:Int)≤(90:Int))
 else false)=
 true→
 decide (al l (1:Int)=(58:Int))=false→within (1:Int) (ak l))∧
 k
 (PV.bool
 (bif
 bif decide (ak l=(2:Int))then
 decide
 ((97:Int)≤al l (0:Int)∧al l (0:Int)≤(122:Int)∨
 (65:Int)≤al l (0:Int)∧al l (0:Int)≤(90:Int))
 else false then
 bif decide (al l (1:Int)=(58:Int))then true else decide (al l (1:Int)=(124:Int))
 else false))):=by kernel_rfl
attribute [local irreducible] Go.Vc.cB
theorem K2(l:Bs):ag Tryz.prog aA 123 [.str l] ⟨True,.bool (bL l)⟩:=bY (by kernel_rfl) GR (H:=JZ l) (fuel:=1000) Tryz.func123 (by kernel_rfl) fun hpre=>(K1 l _).mpr (by
 have hr:=gW l 0
 have b0:al l 0=aM l 0:=iP l 0
 have b1:al l 1=aM l 1:=iP l 1
 have w2:∀z:Int,0≤z→z<2→∀b:Bool,(bif decide (ak l=2)then b else false)=true→within z (ak l):=fun z h0 h1 b h=>by
  cases e:decide (ak l=2)with
  |false=>rw [e]at h;cases h
  |true=>have:=of_decide_eq_true e;unfold within;omega
 refine ⟨fun h=>?_,fun _=>by omega,fun h=>w2 1 (by omega) (by omega) _ h,fun h _=>w2 1 (by omega) (by omega) _ h,?_⟩
 ·have:=of_decide_eq_true h;unfold within;omega
 ·congr 1
  unfold bL Da
  rw [b0,b1,Bool.eq_iff_iff]
  simp only [FZ,LO,Bool.and_eq_true,Bool.or_eq_true,decide_eq_true_eq]
  unfold ak
  omega)
def mM:List PV→Option aG:=fun xs=>match xs with
 |[.str l]=>some ⟨True,.bool (bL l)⟩
 |_=>none
theorem lE:∀xs c,mM xs=some c→ag Tryz.prog aA 123 xs c:=fun xs c h=>by
 unfold mM at h
 split at h
 ·injection h with h;subst h;exact K2 _
 ·cases h
end
section
def J0:cp:=bP [(123,mM)]
def J3(l:Bs):ba:=fun i=>none
theorem GS:cR Tryz.prog aA J0:=ai lE (ax)
theorem K3(l:Bs)(k:PV→Prop):cB Tryz.prog J0 aA (J3 l) 1000 Tryz.f132 [.str l] k=(
 True∧
 (bL l=true→within (1:Int) (ak l))∧
 k (PV.bool (bif bL l then decide (al l (1:Int)=(58:Int))else false))):=by kernel_rfl
attribute [local irreducible] Go.Vc.cB
theorem K4(l:Bs):ag Tryz.prog aA 132 [.str l] ⟨True,.bool (nN l)⟩:=bY (by kernel_rfl) GS (H:=J3 l) (fuel:=1000) Tryz.func132 (by kernel_rfl) fun hpre=>(K3 l _).mpr (by
 have b1:al l 1=aM l 1:=iP l 1
 refine ⟨trivial,fun h=>?_,?_⟩
 ·unfold bL at h
  simp only [Bool.and_eq_true,decide_eq_true_eq]at h
  unfold within ak;omega
 ·show PV.bool _=PV.bool (bL l&&decide (aM l 1=58))
  rw [←b1]
  cases bL l<;>rfl)
def vC:List PV→Option aG:=fun xs=>match xs with
 |[.str l]=>some ⟨True,.bool (nN l)⟩
 |_=>none
theorem AB:∀xs c,vC xs=some c→ag Tryz.prog aA 132 xs c:=fun xs c h=>by
 unfold vC at h
 split at h
 ·injection h with h;subst h;exact K4 _
 ·cases h
end
section
def tX:cp:=bP [(132,vC)]
def tY(bp:Option Addr)(sc us pw:Bs)(hk:Int)(hs:Bs)(hn:Int)(hp:List Int)(port:Int)(opq pn:Bool)(pl:List Bs)(hq:Bool)(q:Bs)(hf:Bool)(fg:Bs)(bare sp:Bool)(rst:Bs):ba:=fun i=>none
theorem vD:cR Tryz.prog aA tX:=ai AB (ax)
theorem AD(bp:Option Addr)(sc us pw:Bs)(hk:Int)(hs:Bs)(hn:Int)(hp:List Int)(port:Int)(opq pn:Bool)(pl:List Bs)(hq:Bool)(q:Bs)(hf:Bool)(fg:Bs)(bare sp:Bool)(rst:Bs)(k:PV→List PV→Prop):bQ Tryz.prog tX aA (tY bp sc us pw hk hs hn hp port opq pn pl hq q hf fg bare sp rst) 1000 Tryz.f87 [.ptr 0 0] [aE 1 (.raw (.pointer bp)) sc us pw hk hs hn hp port opq pn pl hq q hf fg bare sp rst] k=(
 (decide (Int.ofNat pl.length=(0:Int))=false→
 (bif decide (Int.ofNat pl.length=(1:Int))then decide (sc=(ByteArray.mk #[102,105,108,101]).data.toList)else false)=true→
 within (0:Int) (Int.ofNat pl.length))∧
 (decide (Int.ofNat pl.length=(0:Int))=false→
 (bif decide (Int.ofNat pl.length=(1:Int))then decide (sc=(ByteArray.mk #[102,105,108,101]).data.toList)else false)=true→
 True)∧
 ((bif decide (Int.ofNat pl.length=(0:Int))then true else bif bif decide (Int.ofNat pl.length=(1:Int))then decide (sc=(ByteArray.mk #[102,105,108,101]).data.toList)else false then nN (eH pl (0:Int))else false)=true→
 k (PV.tup []) [bT (PV.raw (Go.Value.pointer bp)) 1 sc us pw hk hs hn hp port opq pn pl hq q hf fg bare sp rst])∧
 ((bif decide (Int.ofNat pl.length=(0:Int))then true else bif bif decide (Int.ofNat pl.length=(1:Int))then decide (sc=(ByteArray.mk #[102,105,108,101]).data.toList)else false then nN (eH pl (0:Int))else false)=false→
 aD (Int.ofNat pl.length-(1:Int))∧
 upto (0:Int) (Int.ofNat pl.length-(1:Int)) (Int.ofNat pl.length)∧
 k (PV.tup []) [bT (PV.raw (Go.Value.pointer bp)) 1 sc us pw hk hs hn hp port opq pn (ae pl (Int.ofNat pl.length-(1:Int))) hq q hf fg bare sp rst])):=by kernel_rfl
attribute [local irreducible] Go.Vc.cB Go.Vc.bQ
theorem mN(bp:Option Addr)(sc us pw:Bs)(hk:Int)(hs:Bs)(hn:Int)(hp:List Int)(port:Int)(opq pn:Bool)(pl:List Bs)(hq:Bool)(q:Bs)(hf:Bool)(fg:Bs)(bare sp:Bool)(rst:Bs):bt Tryz.prog aA 87 [.ptr 0 0] [aE 1 (.raw (.pointer bp)) sc us pw hk hs hn hp port opq pn pl hq q hf fg bare sp rst] (pl.length≤1000000) (.tup []) [aE 1 (.raw (.pointer bp)) sc us pw hk hs hn hp port opq ((b6 sc (pn,pl)).1) ((b6 sc (pn,pl)).2) hq q hf fg bare sp rst]:=bG (by kernel_rfl) vD (H:=tY bp sc us pw hk hs hn hp port opq pn pl hq q hf fg bare sp rst) (fuel:=1000) Tryz.func87 (by kernel_rfl) (Nat.le_of_ble_eq_true rfl) fun hpre=>(AD bp sc us pw hk hs hn hp port opq pn pl hq q hf fg bare sp rst _).mpr (by
 have ef:(ByteArray.mk #[102,105,108,101]).data.toList=fL:=rfl
 rcases pl with _ |⟨x,_ |⟨y,t⟩⟩
 ·refine ⟨fun h=>(by cases h),fun h=>(by cases h),fun _=>⟨rfl,rfl⟩,fun h=>(by cases h)⟩
 ·refine ⟨fun _ _=>⟨Int.le_refl _,show(0:Int)<1 by decide⟩,fun _ _=>trivial,fun h=>?_,fun h=>?_⟩
  ·have:b6 sc (pn,[x])=(pn,[x]):=by
    unfold b6
    rw [if_pos]
    refine .inr ⟨rfl,?_,?_⟩
    ·by_cases e:sc=fL
     ·exact e
     ·rw [show decide (sc=(ByteArray.mk #[102,105,108,101]).data.toList)=false from decide_eq_false e]at h;cases h
    ·by_cases e:sc=fL
     ·rw [show decide (sc=(ByteArray.mk #[102,105,108,101]).data.toList)=true from decide_eq_true e]at h;exact h
     ·rw [show decide (sc=(ByteArray.mk #[102,105,108,101]).data.toList)=false from decide_eq_false e]at h;cases h
   rw [this];exact ⟨rfl,rfl⟩
  ·have:b6 sc (pn,[x])=(pn,[]):=by
    unfold b6
    rw [if_neg]
    ·rfl
    ·rintro (e|⟨-,e,e2⟩)
     ·cases e
     ·rw [show decide (sc=(ByteArray.mk #[102,105,108,101]).data.toList)=true from decide_eq_true e]at h
      have e3:nN (eH [x] 0)=true:=e2
      rw [e3]at h;cases h
   rw [this]
   exact ⟨show aD (1-1) by unfold aD;omega,show upto 0 (1-1) 1 by unfold upto;omega,rfl,rfl⟩
 ·have hn:¬Int.ofNat (x::y::t).length=(0:Int):=by simp [Int.ofNat];omega
  have hn1:¬Int.ofNat (x::y::t).length=(1:Int):=by simp [Int.ofNat];omega
  rw [decide_eq_false hn,decide_eq_false hn1]
  refine ⟨fun _ h=>(by cases h),fun _ h=>(by cases h),fun h=>(by cases h),fun _=>?_⟩
  have:b6 sc (pn,x::y::t)=(pn,ae (x::y::t) (Int.ofNat (x::y::t).length-1)):=by
   unfold b6
   rw [if_neg]
   ·unfold ae
    show(pn,(x::y::t).take ((x::y::t).length-1))=_
    congr 2
    simp
   ·rintro (e|⟨e,-⟩)
    ·cases e
    ·simp at e
  rw [this]
  have hl:t.length+1+1≤1000000:=hpre
  have e9:Int.ofNat (x::y::t).length=(t.length:Int)+2:=by show((t.length+1+1:Nat):Int)=_;omega
  exact ⟨by rw [e9];unfold aD;omega,by rw [e9];unfold upto;omega,rfl,rfl⟩)
theorem AE(bp:Option Addr)(sc us pw:Bs)(hk:Int)(hs:Bs)(hn:Int)(hp:List Int)(port:Int)(opq pn:Bool)(pl:List Bs)(hq:Bool)(q:Bs)(hf:Bool)(fg:Bs)(bare sp:Bool)(rst:Bs):ag Tryz.prog aA 87 [.ptr 0 0,aE 1 (.raw (.pointer bp)) sc us pw hk hs hn hp port opq pn pl hq q hf fg bare sp rst] ⟨pl.length≤1000000,.tup [.tup [],aE 1 (.raw (.pointer bp)) sc us pw hk hs hn hp port opq ((b6 sc (pn,pl)).1) ((b6 sc (pn,pl)).2) hq q hf fg bare sp rst]⟩:=ag.bg (fun h=>by have e:List.isEmpty (PV.aB PV.bD [.ptr 0 0,aE 1 (.raw (.pointer bp)) sc us pw hk hs hn hp port opq pn pl hq q hf fg bare sp rst])=false:=(by kernel_rfl);exact Bool.noConfusion (e.symm.trans (congrArg List.isEmpty h))) (mN bp sc us pw hk hs hn hp port opq pn pl hq q hf fg bare sp rst)
def j6:List PV→Option aG:=fun xs=>match xs with
 |[.ptr 0 0,aE 1 (.raw (.pointer bp)) sc us pw hk hs hn hp port opq pn pl hq q hf fg bare sp rst]=>some ⟨pl.length≤1000000,.tup [.tup [],aE 1 (.raw (.pointer bp)) sc us pw hk hs hn hp port opq ((b6 sc (pn,pl)).1) ((b6 sc (pn,pl)).2) hq q hf fg bare sp rst]⟩
 |_=>none
theorem rr:∀xs c,j6 xs=some c→ag Tryz.prog aA 87 xs c:=fun xs c h=>by
 unfold j6 at h
 split at h
 ·injection h with h;subst h;exact AE _ _ _ _ _ _ _ _ _ _ _ _ _ _ _ _ _ _ _
 ·cases h
end
section
theorem ru(sc:Bs)(p:Pa):(b6 sc p).2.length≤p.2.length:=by
 unfold b6
 split
 ·exact Nat.le_refl _
 ·show(p.2.take _).length≤_
  rw [List.length_take];omega
def GU:cp:=bP [(163,qO),(164,vi),(123,mM),(87,j6),(26,eB)]
def GV(bp:Option Addr)(sc us pw:Bs)(hk:Int)(hs:Bs)(hn:Int)(hp:List Int)(port:Int)(opq pn:Bool)(pl:List Bs)(hq:Bool)(q:Bs)(hf:Bool)(fg:Bs)(bare sp:Bool)(rst:Bs)(t:Bs)(last:Bool):ba:=fun i=>none
theorem D3:cR Tryz.prog aA GU:=ai xH (ai Af (ai lE (ai rr (ai du (ax)))))
theorem Ju(bp:Option Addr)(sc us pw:Bs)(hk:Int)(hs:Bs)(hn:Int)(hp:List Int)(port:Int)(opq pn:Bool)(pl:List Bs)(hq:Bool)(q:Bs)(hf:Bool)(fg:Bs)(bare sp:Bool)(rst:Bs)(t:Bs)(last:Bool)(k:PV→List PV→Prop):bQ Tryz.prog GU aA (GV bp sc us pw hk hs hn hp port opq pn pl hq q hf fg bare sp rst t last) 1000 Tryz.f139 [.ptr 0 0,.str t,.bool last] [aE 1 (.raw (.pointer bp)) sc us pw hk hs hn hp port opq pn pl hq q hf fg bare sp rst] k=(
 (List.length t).le (1000000:Nat)∧
 (mv t=true→
 pl.length.le (1000000:Nat)∧
 (last=true→
 Int.ofNat ((b6 sc (pn,pl)).2++[(ByteArray.mk #[]).data.toList]).length≤dd∧
 k (PV.tup []) [bT (PV.raw (Go.Value.pointer bp)) 1 sc us pw hk hs hn hp port opq false ((b6 sc (pn,pl)).2++[(ByteArray.mk #[]).data.toList]) hq q hf fg bare sp rst])∧
 (last=false→
 k (PV.tup []) [bT (PV.raw (Go.Value.pointer bp)) 1 sc us pw hk hs hn hp port opq ((b6 sc (pn,pl)).1) ((b6 sc (pn,pl)).2) hq q hf fg bare sp rst]))∧
 (mv t=false→
 (List.length t).le (1000000:Nat)∧
 (mr t=true→
 (last=true→
 Int.ofNat (pl++[(ByteArray.mk #[]).data.toList]).length≤dd∧
 k (PV.tup []) [bT (PV.raw (Go.Value.pointer bp)) 1 sc us pw hk hs hn hp port opq false (pl++[(ByteArray.mk #[]).data.toList]) hq q hf fg bare sp rst])∧
 (last=false→
 k (PV.tup []) [bT (PV.raw (Go.Value.pointer bp)) 1 sc us pw hk hs hn hp port opq pn pl hq q hf fg bare sp rst]))∧
 (mr t=false→
 ((bif decide (sc=(ByteArray.mk #[102,105,108,101]).data.toList)then decide (Int.ofNat pl.length=(0:Int))else false)=true→
 True)∧
 ((bif bif decide (sc=(ByteArray.mk #[102,105,108,101]).data.toList)then decide (Int.ofNat pl.length=(0:Int))else false then bL t else false)=true→
 upto (0:Int) (1:Int) (ak t)∧
 (ae t (1:Int)).length+(ByteArray.mk #[58]).data.toList.length≤Go.Vc.maxLen∧
 (Int.ofNat (pl++[ae t (1:Int)++(ByteArray.mk #[58]).data.toList]).length≤dd∧
 k (PV.tup []) [bT (PV.raw (Go.Value.pointer bp)) 1 sc us pw hk hs hn hp port opq false (pl++[ae t (1:Int)++(ByteArray.mk #[58]).data.toList]) hq q hf fg bare sp rst])∧
 Int.ofNat (pl++[ae t (1:Int)++(ByteArray.mk #[58]).data.toList]).length≤dd∧
 k (PV.tup []) [bT (PV.raw (Go.Value.pointer bp)) 1 sc us pw hk hs hn hp port opq false (pl++[ae t (1:Int)++(ByteArray.mk #[58]).data.toList]) hq q hf fg bare sp rst])∧
 ((bif bif decide (sc=(ByteArray.mk #[102,105,108,101]).data.toList)then decide (Int.ofNat pl.length=(0:Int))else false then bL t else false)=false→
 ((List.length t≤(300000:Nat)∧
 (0:Int)≤(4:Int)∧
 (4:Int)≤(6:Int))∧
 Int.ofNat (pl++[bl (4:Int) t]).length≤dd∧
 k (PV.tup []) [bT (PV.raw (Go.Value.pointer bp)) 1 sc us pw hk hs hn hp port opq false (pl++[bl (4:Int) t]) hq q hf fg bare sp rst])∧
 (List.length t≤(300000:Nat)∧
 (0:Int)≤(4:Int)∧
 (4:Int)≤(6:Int))∧
 (Int.ofNat (pl++[bl (4:Int) t]).length≤dd∧
 k (PV.tup []) [bT (PV.raw (Go.Value.pointer bp)) 1 sc us pw hk hs hn hp port opq false (pl++[bl (4:Int) t]) hq q hf fg bare sp rst])∧
 Int.ofNat (pl++[bl (4:Int) t]).length≤dd∧
 k (PV.tup []) [bT (PV.raw (Go.Value.pointer bp)) 1 sc us pw hk hs hn hp port opq false (pl++[bl (4:Int) t]) hq q hf fg bare sp rst])))):=by kernel_rfl
attribute [local irreducible] Go.Vc.cB Go.Vc.bQ
theorem D4(bp:Option Addr)(sc us pw:Bs)(hk:Int)(hs:Bs)(hn:Int)(hp:List Int)(port:Int)(opq pn:Bool)(pl:List Bs)(hq:Bool)(q:Bs)(hf:Bool)(fg:Bs)(bare sp:Bool)(rst:Bs)(t:Bs)(last:Bool):bt Tryz.prog aA 139 [.ptr 0 0,.str t,.bool last] [aE 1 (.raw (.pointer bp)) sc us pw hk hs hn hp port opq pn pl hq q hf fg bare sp rst] (pl.length≤1000000∧t.length≤300000) (.tup []) [aE 1 (.raw (.pointer bp)) sc us pw hk hs hn hp port opq ((cF sc (pn,pl) t last).1) ((cF sc (pn,pl) t last).2) hq q hf fg bare sp rst]:=bG (by kernel_rfl) D3 (H:=GV bp sc us pw hk hs hn hp port opq pn pl hq q hf fg bare sp rst t last) (fuel:=1000) Tryz.func139 (by kernel_rfl) (Nat.le_of_ble_eq_true rfl) fun hpre=>(Ju bp sc us pw hk hs hn hp port opq pn pl hq q hf fg bare sp rst t last _).mpr (by
 obtain ⟨hp1,hp2⟩:=hpre
 have hm:∀(p:List Bs) (x:Bs),p.length≤1000000→Int.ofNat (p++[x]).length≤dd:=fun p x h=>by
  rw [List.length_append]
  show((p.length+1:Nat):Int)≤16777216
  omega
 have hsl:=ru sc (pn,pl)
 have ht:(List.length t).le 1000000:=show t.length≤1000000 by omega
 have hcond:(bif bif decide (sc=(ByteArray.mk #[102,105,108,101]).data.toList)then decide (Int.ofNat pl.length=(0:Int))else false then bL t else false)=decide (sc=fL∧pl=[]∧bL t=true):=by
  rw [Bool.eq_iff_iff]
  simp only [FZ,Bool.and_eq_true,decide_eq_true_eq]
  constructor
  ·rintro ⟨⟨a,b⟩,c⟩
   exact ⟨a,List.eq_nil_of_length_eq_zero (Int.ofNat.inj b),c⟩
  ·rintro ⟨a,b,c⟩
   exact ⟨⟨a,by rw [b];rfl⟩,c⟩
 rw [hcond]
 refine ⟨ht,fun h=>⟨hp1,fun hl=>⟨hm _ _ (Nat.le_trans hsl hp1),?_⟩,fun hl=>?_⟩,fun h=>⟨ht,fun h2=>⟨fun hl=>⟨hm _ _ hp1,?_⟩,fun hl=>?_⟩,fun h2=>⟨fun _=>trivial,fun h3=>?_,fun h3=>?_⟩⟩⟩
 ·have e:cF sc (pn,pl) t last=(false,(b6 sc (pn,pl)).2++[[]]):=by unfold cF;rw [if_pos h,hl];rfl
  rw [e];exact ⟨rfl,rfl⟩
 ·have e:cF sc (pn,pl) t last=b6 sc (pn,pl):=by unfold cF;rw [if_pos h,hl];rfl
  rw [e];exact ⟨rfl,rfl⟩
 ·have e:cF sc (pn,pl) t last=(false,pl++[[]]):=by unfold cF;rw [if_neg (by rw [h];decide),if_pos h2,hl];rfl
  rw [e];exact ⟨rfl,rfl⟩
 ·have e:cF sc (pn,pl) t last=(pn,pl):=by unfold cF;rw [if_neg (by rw [h];decide),if_pos h2,hl];rfl
  rw [e];exact ⟨rfl,rfl⟩
 ·have hc:=of_decide_eq_true h3
  have e:cF sc (pn,pl) t last=(false,pl++[ae t 1++[58]]):=by unfold cF;rw [if_neg (by rw [h];decide),if_neg (by rw [h2];decide),if_pos hc]
  have h2l:t.length=2:=by
   have:=hc.2.2
   unfold bL at this
   simp only [Bool.and_eq_true,decide_eq_true_eq]at this
   exact this.1.1
  rw [e]
  have hk:(ae t 1).length≤1:=by unfold ae;rw [List.length_take];exact Nat.min_le_left _ _
  exact ⟨⟨Int.le_refl _,by omega,by unfold ak;omega⟩,Nat.le_trans (Nat.add_le_add_right hk _) (by decide),⟨hm _ _ hp1,rfl,rfl⟩,hm _ _ hp1,rfl,rfl⟩
 ·have hc:=of_decide_eq_false h3
  have e:cF sc (pn,pl) t last=(false,pl++[bl 4 t]):=by unfold cF;rw [if_neg (by rw [h];decide),if_neg (by rw [h2];decide),if_neg hc]
  rw [e]
  exact ⟨⟨⟨hp2,by omega,by omega⟩,hm _ _ hp1,rfl,rfl⟩,⟨hp2,by omega,by omega⟩,⟨hm _ _ hp1,rfl,rfl⟩,hm _ _ hp1,rfl,rfl⟩)
theorem Jv(bp:Option Addr)(sc us pw:Bs)(hk:Int)(hs:Bs)(hn:Int)(hp:List Int)(port:Int)(opq pn:Bool)(pl:List Bs)(hq:Bool)(q:Bs)(hf:Bool)(fg:Bs)(bare sp:Bool)(rst:Bs)(t:Bs)(last:Bool):ag Tryz.prog aA 139 [.ptr 0 0,.str t,.bool last,aE 1 (.raw (.pointer bp)) sc us pw hk hs hn hp port opq pn pl hq q hf fg bare sp rst] ⟨pl.length≤1000000∧t.length≤300000,.tup [.tup [],aE 1 (.raw (.pointer bp)) sc us pw hk hs hn hp port opq ((cF sc (pn,pl) t last).1) ((cF sc (pn,pl) t last).2) hq q hf fg bare sp rst]⟩:=ag.bg (fun h=>by have e:List.isEmpty (PV.aB PV.bD [.ptr 0 0,.str t,.bool last,aE 1 (.raw (.pointer bp)) sc us pw hk hs hn hp port opq pn pl hq q hf fg bare sp rst])=false:=(by kernel_rfl);exact Bool.noConfusion (e.symm.trans (congrArg List.isEmpty h))) (D4 bp sc us pw hk hs hn hp port opq pn pl hq q hf fg bare sp rst t last)
def rv:List PV→Option aG:=fun xs=>match xs with
 |[.ptr 0 0,.str t,.bool last,aE 1 (.raw (.pointer bp)) sc us pw hk hs hn hp port opq pn pl hq q hf fg bare sp rst]=>some ⟨pl.length≤1000000∧t.length≤300000,.tup [.tup [],aE 1 (.raw (.pointer bp)) sc us pw hk hs hn hp port opq ((cF sc (pn,pl) t last).1) ((cF sc (pn,pl) t last).2) hq q hf fg bare sp rst]⟩
 |_=>none
theorem x5:∀xs c,rv xs=some c→ag Tryz.prog aA 139 xs c:=fun xs c h=>by
 unfold rv at h
 split at h
 ·injection h with h;subst h;exact Jv _ _ _ _ _ _ _ _ _ _ _ _ _ _ _ _ _ _ _ _ _
 ·cases h
end
section
theorem n8(sc:Bs)(p:Pa)(t:Bs)(last:Bool):(cF sc p t last).2.length≤p.2.length+1:=by
 have h1:=ru sc p
 unfold cF Aj
 (repeat' split)<;>simp<;>omega
def GW:cp:=bP [(128,gN),(129,gL),(138,hG),(139,rv)]
def GX(bp:Option Addr)(sc us pw:Bs)(hk:Int)(hs:Bs)(hn:Int)(hp:List Int)(port:Int)(opq pn:Bool)(pl:List Bs)(hq:Bool)(q:Bs)(hf:Bool)(fg:Bs)(bare sp:Bool)(rst:Bs):ba:=fun i=>bif Nat.beq i 2 then some ⟨(Bs)×(Bool×List Bs),(fun s x=>(VS.mk s.loc (((s.put 2 (.str x.1)).put 4 .undef).put 29 .undef).env [(0,aE 1 (.raw (.pointer bp)) sc us pw hk hs hn hp port opq (x.2.1) (x.2.2) hq q hf fg bare sp (aa rst (aF rst)))])),(fun s=>(s.str 2,((s.bx 0 [0,6]).lP,(s.bx 0 [0,6]).kT))),(fun s x=>let t:=x.1;let p:=x.2;t.length≤300000∧p.2.length+t.length≤pl.length+rst.length∧mH sc (eY sp) t p=bC sp sc (ae rst (aF rst)) (pn,pl)),(fun s x=>let t:=x.1;let p:=x.2;t.length),[4,29]⟩else none
theorem D5:cR Tryz.prog aA GW:=ai ga (ai fY (ai j5 (ai x5 (ax))))
theorem Jw(bp:Option Addr)(sc us pw:Bs)(hk:Int)(hs:Bs)(hn:Int)(hp:List Int)(port:Int)(opq pn:Bool)(pl:List Bs)(hq:Bool)(q:Bs)(hf:Bool)(fg:Bs)(bare sp:Bool)(rst:Bs)(k:PV→List PV→Prop):bQ Tryz.prog GW aA (GX bp sc us pw hk hs hn hp port opq pn pl hq q hf fg bare sp rst) 1000 Tryz.f90 [.ptr 0 0] [aE 1 (.raw (.pointer bp)) sc us pw hk hs hn hp port opq pn pl hq q hf fg bare sp rst] k=(
 (List.length rst≤(1000000:Nat)∧
 (ByteArray.mk #[63,35]).data.toList.length≤(1000000:Nat)∧
 ∀(b:UInt8),b∈(ByteArray.mk #[63,35]).data.toList→
 b.toNat<(128:Nat))∧
 ((0:Int)≤↑(bd rst (ByteArray.mk #[63,35]).data.toList)∧
 ↑(bd rst (ByteArray.mk #[63,35]).data.toList)≤ak rst)∧
 True∧
 VS.mk [] [(0,PV.ptr (0:Nat) (0:Nat)),(2,PV.str (ae rst ↑(bd rst (ByteArray.mk #[63,35]).data.toList))),(3,PV.str (eY sp)),((4:Nat),PV.undef),((29:Nat),PV.undef)] [((0:Nat),bT (PV.raw (Go.Value.pointer bp)) 1 sc us pw hk hs hn hp port opq pn pl hq q hf fg bare sp (aa rst ↑(bd rst (ByteArray.mk #[63,35]).data.toList)))]=VS.mk [] [(0,PV.ptr (0:Nat) (0:Nat)),((2:Nat),PV.str (ae rst ↑(bd rst (ByteArray.mk #[63,35]).data.toList))),(3,PV.str (eY sp)),((4:Nat),PV.undef),((29:Nat),PV.undef)] [((0:Nat),bT (PV.raw (Go.Value.pointer bp)) 1 sc us pw hk hs hn hp port opq pn pl hq q hf fg bare sp (aa rst ↑(aF rst)))]∧
 ((ae rst ↑(bd rst (ByteArray.mk #[63,35]).data.toList)).length≤(300000:Nat)∧
 pl.length+(ae rst ↑(bd rst (ByteArray.mk #[63,35]).data.toList)).length≤pl.length+List.length rst∧
 mH sc (eY sp) (ae rst ↑(bd rst (ByteArray.mk #[63,35]).data.toList)) (pn,pl)=bC sp sc (ae rst ↑(aF rst)) (pn,pl))∧
 ∀(x:Bs×Bool×List Bs),List.length x.1≤(300000:Nat)∧
 x.2.2.length+List.length x.1≤pl.length+List.length rst∧
 mH sc (eY sp) x.1 x.2=bC sp sc (ae rst ↑(aF rst)) (pn,pl)→
 (List.length x.1≤(1000000:Nat)∧
 List.length (eY sp)≤(1000000:Nat)∧
 ∀(b:UInt8),b∈eY sp→
 b.toNat<(128:Nat))∧
 upto (0:Int) (↑(bd x.1 (eY sp))) (ak x.1)∧
 (x.2.2.length≤(1000000:Nat)∧
 (ae x.1 ↑(bd x.1 (eY sp))).length≤(300000:Nat))∧
 (decide (↑(bd x.1 (eY sp))=ak x.1)=true→
 k (PV.tup []) [bT (PV.raw (Go.Value.pointer bp)) 1 sc us pw hk hs hn hp port opq ((cF sc (x.2.1,x.2.2) (ae x.1 ↑(bd x.1 (eY sp))) (decide (↑(bd x.1 (eY sp))=ak x.1))).1) ((cF sc (x.2.1,x.2.2) (ae x.1 ↑(bd x.1 (eY sp))) (decide (↑(bd x.1 (eY sp))=ak x.1))).2) hq q hf fg bare sp (aa rst ↑(aF rst))])∧
 (decide (↑(bd x.1 (eY sp))=ak x.1)=false→
 aD (↑(bd x.1 (eY sp))+(1:Int))∧
 upto (↑(bd x.1 (eY sp))+(1:Int)) (ak x.1) (ak x.1)∧
 rV (VS.mk [] [(0,PV.ptr (0:Nat) (0:Nat)),((2:Nat),PV.str (aa x.1 (↑(bd x.1 (eY sp))+(1:Int)))),(3,PV.str (eY sp)),((4:Nat),PV.undef),((29:Nat),PV.undef)] [((0:Nat),bT (PV.raw (Go.Value.pointer bp)) 1 sc us pw hk hs hn hp port opq ((cF sc (x.2.1,x.2.2) (ae x.1 ↑(bd x.1 (eY sp))) (decide (↑(bd x.1 (eY sp))=ak x.1))).1) ((cF sc (x.2.1,x.2.2) (ae x.1 ↑(bd x.1 (eY sp))) (decide (↑(bd x.1 (eY sp))=ak x.1))).2) hq q hf fg bare sp (aa rst ↑(aF rst)))])∧
 ((aa x.1 (↑(bd x.1 (eY sp))+(1:Int))).length≤(300000:Nat)∧
 (cF sc (x.2.1,x.2.2) (ae x.1 ↑(bd x.1 (eY sp))) (decide (↑(bd x.1 (eY sp))=ak x.1))).2.length+(aa x.1 (↑(bd x.1 (eY sp))+(1:Int))).length≤pl.length+List.length rst∧
 mH sc (eY sp) (aa x.1 (↑(bd x.1 (eY sp))+(1:Int))) ((cF sc (x.2.1,x.2.2) (ae x.1 ↑(bd x.1 (eY sp))) (decide (↑(bd x.1 (eY sp))=ak x.1))).1,(cF sc (x.2.1,x.2.2) (ae x.1 ↑(bd x.1 (eY sp))) (decide (↑(bd x.1 (eY sp))=ak x.1))).2)=bC sp sc (ae rst ↑(aF rst)) (pn,pl))∧
 (aa x.1 (↑(bd x.1 (eY sp))+(1:Int))).length<List.length x.1)):=by kernel_rfl
attribute [local irreducible] Go.Vc.cB Go.Vc.bQ
theorem tZ(bp:Option Addr)(sc us pw:Bs)(hk:Int)(hs:Bs)(hn:Int)(hp:List Int)(port:Int)(opq pn:Bool)(pl:List Bs)(hq:Bool)(q:Bs)(hf:Bool)(fg:Bs)(bare sp:Bool)(rst:Bs):bt Tryz.prog aA 90 [.ptr 0 0] [aE 1 (.raw (.pointer bp)) sc us pw hk hs hn hp port opq pn pl hq q hf fg bare sp rst] (rst.length≤300000∧pl.length≤100000) (.tup []) [aE 1 (.raw (.pointer bp)) sc us pw hk hs hn hp port opq ((bC sp sc (ae rst (aF rst)) (pn,pl)).1) ((bC sp sc (ae rst (aF rst)) (pn,pl)).2) hq q hf fg bare sp (aa rst (aF rst))]:=bG (by kernel_rfl) D5 (H:=GX bp sc us pw hk hs hn hp port opq pn pl hq q hf fg bare sp rst) (fuel:=1000) Tryz.func90 (by kernel_rfl) (Nat.le_of_ble_eq_true rfl) fun hpre=>(Jw bp sc us pw hk hs hn hp port opq pn pl hq q hf fg bare sp rst _).mpr (by
 obtain ⟨hp1,hp2⟩:=hpre
 have h63:∀b:UInt8,b∈(ByteArray.mk #[63,35]).data.toList→b.toNat<128:=by rw [show(ByteArray.mk #[63,35]).data.toList=([63,35]:Bs)from rfl];decide
 have hs3:∀b:UInt8,b∈eY sp→b.toNat<128:=by unfold eY;split<;>decide
 have hs2:(eY sp).length≤1000000:=by unfold eY;split<;>decide
 have e3:=db rst (ByteArray.mk #[63,35]).data.toList
 have e4:(ae rst (bd rst (ByteArray.mk #[63,35]).data.toList:Int)).length≤rst.length:=by unfold ae;rw [List.length_take];exact Nat.min_le_right _ _
 refine ⟨⟨by omega,by decide,h63⟩,⟨by omega,by unfold ak;exact Int.ofNat_le.2 e3⟩,trivial,rfl,⟨by omega,by omega,rfl⟩,fun x ⟨h1,h2,h3⟩=>?_⟩
 have e5:=db x.1 (eY sp)
 rw [Ak]at h3
 generalize bd x.1 (eY sp)=n at *
 have e6:ae x.1 (n:Int)=x.1.take n:=by unfold ae;rw [Int.toNat_natCast]
 have e7:aa x.1 ((n:Int)+1)=x.1.drop (n+1):=by unfold aa;congr 1
 have e8:(x.1.take n).length≤300000:=by rw [List.length_take];omega
 rw [e6,e7]
 refine ⟨⟨by omega,hs2,hs3⟩,⟨Int.le_refl _,by omega,by unfold ak;omega⟩,⟨by omega,e8⟩,fun h=>?_,fun h=>?_⟩
 ·have hl:n=x.1.length:=by have:=of_decide_eq_true h;unfold ak at this;omega
  rw [if_pos hl]at h3
  have e9:x.1.take n=x.1:=by rw [hl,List.take_length]
  rw [h,e9,←h3]
  exact ⟨rfl,rfl⟩
 ·have hl:¬n=x.1.length:=by have:=of_decide_eq_false h;unfold ak at this;omega
  rw [if_neg hl]at h3
  have e10:(x.1.drop (n+1)).length=x.1.length-(n+1):=List.length_drop
  have e11:=n8 sc x.2 (x.1.take n) false
  rw [h]
  refine ⟨by unfold aD;omega,⟨by omega,by unfold ak;omega,Int.le_refl _⟩,rfl,⟨by omega,?_,h3⟩,by omega⟩
  show(cF sc x.2 (x.1.take n) false).2.length+_ ≤_
  omega)
theorem Jx(bp:Option Addr)(sc us pw:Bs)(hk:Int)(hs:Bs)(hn:Int)(hp:List Int)(port:Int)(opq pn:Bool)(pl:List Bs)(hq:Bool)(q:Bs)(hf:Bool)(fg:Bs)(bare sp:Bool)(rst:Bs):ag Tryz.prog aA 90 [.ptr 0 0,aE 1 (.raw (.pointer bp)) sc us pw hk hs hn hp port opq pn pl hq q hf fg bare sp rst] ⟨rst.length≤300000∧pl.length≤100000,.tup [.tup [],aE 1 (.raw (.pointer bp)) sc us pw hk hs hn hp port opq ((bC sp sc (ae rst (aF rst)) (pn,pl)).1) ((bC sp sc (ae rst (aF rst)) (pn,pl)).2) hq q hf fg bare sp (aa rst (aF rst))]⟩:=ag.bg (fun h=>by have e:List.isEmpty (PV.aB PV.bD [.ptr 0 0,aE 1 (.raw (.pointer bp)) sc us pw hk hs hn hp port opq pn pl hq q hf fg bare sp rst])=false:=(by kernel_rfl);exact Bool.noConfusion (e.symm.trans (congrArg List.isEmpty h))) (tZ bp sc us pw hk hs hn hp port opq pn pl hq q hf fg bare sp rst)
def mO:List PV→Option aG:=fun xs=>match xs with
 |[.ptr 0 0,aE 1 (.raw (.pointer bp)) sc us pw hk hs hn hp port opq pn pl hq q hf fg bare sp rst]=>some ⟨rst.length≤300000∧pl.length≤100000,.tup [.tup [],aE 1 (.raw (.pointer bp)) sc us pw hk hs hn hp port opq ((bC sp sc (ae rst (aF rst)) (pn,pl)).1) ((bC sp sc (ae rst (aF rst)) (pn,pl)).2) hq q hf fg bare sp (aa rst (aF rst))]⟩
 |_=>none
theorem o5:∀xs c,mO xs=some c→ag Tryz.prog aA 90 xs c:=fun xs c h=>by
 unfold mO at h
 split at h
 ·injection h with h;subst h;exact Jx _ _ _ _ _ _ _ _ _ _ _ _ _ _ _ _ _ _ _
 ·cases h
end
section
def J4:cp:=bP [(158,mE)]
def J5(l m:Bs):ba:=fun i=>none
theorem GY:cR Tryz.prog aA J4:=ai oT (ax)
theorem K5(l m:Bs)(k:PV→Prop):cB Tryz.prog J4 aA (J5 l m) 1000 Tryz.f130 [.str l,.str m] k=(
 (List.length l≤(1000000:Nat)∧List.length m≤(1000000:Nat))∧k (PV.bool (ie l m))):=by kernel_rfl
attribute [local irreducible] Go.Vc.cB
theorem K6(l m:Bs):ag Tryz.prog aA 130 [.str l,.str m] ⟨l.length≤1000000∧m.length≤1000000,.bool (ie l m)⟩:=bY (by kernel_rfl) GY (H:=J5 l m) (fuel:=1000) Tryz.func130 (by kernel_rfl) fun hpre=>(K5 l m _).mpr (by
 exact ⟨hpre,rfl⟩)
def vE:List PV→Option aG:=fun xs=>match xs with
 |[.str l,.str m]=>some ⟨l.length≤1000000∧m.length≤1000000,.bool (ie l m)⟩
 |_=>none
theorem AF:∀xs c,vE xs=some c→ag Tryz.prog aA 130 xs c:=fun xs c h=>by
 unfold vE at h
 split at h
 ·injection h with h;subst h;exact K6 _ _
 ·cases h
end
section
theorem ua(k:Int)(l:Bs):(bl k l).length≤12*l.length:=by
 have hpl:(aK l).length≤4*l.length:=by
  have a:=(ml (eL l)).2
  have b:=mj _ l (Nat.le_refl _)
  unfold aK;omega
 unfold bl
 split
 ·have:=wY (tf k) (aK l);omega
 ·omega
theorem LL(l:Bs):ie l [32]=decide (0<l.length∧al l (l.length-1)=32):=by
 unfold ie ak aa
 rcases List.eq_nil_or_concat l with rfl|⟨L,b,rfl⟩
 ·rfl
 ·have h1:(((L.concat b).length:Int)-(([32]:Bs).length:Int)).toNat=L.length:=by simp
  have h2:al (L.concat b) ((L.concat b).length-1)=b.toNat:=by
   unfold al
   have:(((L.concat b).length:Int)-1).toNat=L.length:=by simp
   rw [this];simp
  rw [h1,h2]
  have h3:decide ((([32]:Bs).length:Int)≤((L.concat b).length:Int))=true:=decide_eq_true (by simp;omega)
  have h4:(0:Nat)<(L.concat b).length:=by simp
  rw [h3,cond_true,decide_eq_decide]
  have h5:(L.concat b).drop L.length=[b]:=by simp
  rw [h5]
  simp only [h4,true_and,List.cons.injEq,and_true]
  constructor
  ·rintro rfl;rfl
  ·intro h;exact UInt8.toNat_inj.1 (by have:(32:UInt8).toNat=32:=rfl;omega)
def x6:cp:=bP [(128,gN),(129,gL),(130,vE),(26,eB)]
def x7(bp:Option Addr)(sc us pw:Bs)(hk:Int)(hs:Bs)(hn:Int)(hp:List Int)(port:Int)(opq pn:Bool)(pl:List Bs)(hq:Bool)(q:Bs)(hf:Bool)(fg:Bs)(bare sp:Bool)(rst:Bs):ba:=fun i=>none
theorem x8:cR Tryz.prog aA x6:=ai ga (ai fY (ai AF (ai du (ax))))
theorem D6(bp:Option Addr)(sc us pw:Bs)(hk:Int)(hs:Bs)(hn:Int)(hp:List Int)(port:Int)(opq pn:Bool)(pl:List Bs)(hq:Bool)(q:Bs)(hf:Bool)(fg:Bs)(bare sp:Bool)(rst:Bs)(k:PV→List PV→Prop):bQ Tryz.prog x6 aA (x7 bp sc us pw hk hs hn hp port opq pn pl hq q hf fg bare sp rst) 1000 Tryz.f81 [.ptr 0 0] [aE 1 (.raw (.pointer bp)) sc us pw hk hs hn hp port opq pn pl hq q hf fg bare sp rst] k=(
 (List.length rst≤(1000000:Nat)∧
 (ByteArray.mk #[63,35]).data.toList.length≤(1000000:Nat)∧
 ∀(b:UInt8),b∈(ByteArray.mk #[63,35]).data.toList→
 b.toNat<(128:Nat))∧
 ((0:Int)≤↑(bd rst (ByteArray.mk #[63,35]).data.toList)∧
 ↑(bd rst (ByteArray.mk #[63,35]).data.toList)≤ak rst)∧
 ((!decide (aa rst ↑(bd rst (ByteArray.mk #[63,35]).data.toList)=(ByteArray.mk #[]).data.toList))=true→
 (ae rst ↑(bd rst (ByteArray.mk #[63,35]).data.toList)).length≤(1000000:Nat)∧
 (ByteArray.mk #[32]).data.toList.length≤(1000000:Nat))∧
 ((bif !decide (aa rst ↑(bd rst (ByteArray.mk #[63,35]).data.toList)=(ByteArray.mk #[]).data.toList)then ie (ae rst ↑(bd rst (ByteArray.mk #[63,35]).data.toList)) (ByteArray.mk #[32]).data.toList else false)=true→
 aD (ak (ae rst ↑(bd rst (ByteArray.mk #[63,35]).data.toList))-(1:Int))∧
 upto (0:Int) (ak (ae rst ↑(bd rst (ByteArray.mk #[63,35]).data.toList))-(1:Int)) (ak (ae rst ↑(bd rst (ByteArray.mk #[63,35]).data.toList)))∧
 ((ae (ae rst ↑(bd rst (ByteArray.mk #[63,35]).data.toList)) (ak (ae rst ↑(bd rst (ByteArray.mk #[63,35]).data.toList))-(1:Int))).length≤(300000:Nat)∧
 (0:Int)≤(0:Int)∧
 (0:Int)≤(6:Int))∧
 (bl (0:Int) (ae (ae rst ↑(bd rst (ByteArray.mk #[63,35]).data.toList)) (ak (ae rst ↑(bd rst (ByteArray.mk #[63,35]).data.toList))-(1:Int)))).length+(ByteArray.mk #[37,50,48]).data.toList.length≤Go.Vc.maxLen∧
 k (PV.tup []) [bT (PV.raw (Go.Value.pointer bp)) 0 sc us pw hk hs hn hp port true false ([bl (0:Int) (ae (ae rst ↑(bd rst (ByteArray.mk #[63,35]).data.toList)) (ak (ae rst ↑(bd rst (ByteArray.mk #[63,35]).data.toList))-(1:Int)))++(ByteArray.mk #[37,50,48]).data.toList]) hq q hf fg bare sp (aa rst ↑(bd rst (ByteArray.mk #[63,35]).data.toList))])∧
 ((bif !decide (aa rst ↑(bd rst (ByteArray.mk #[63,35]).data.toList)=(ByteArray.mk #[]).data.toList)then ie (ae rst ↑(bd rst (ByteArray.mk #[63,35]).data.toList)) (ByteArray.mk #[32]).data.toList else false)=false→
 ((ae rst ↑(bd rst (ByteArray.mk #[63,35]).data.toList)).length≤(300000:Nat)∧
 (0:Int)≤(0:Int)∧
 (0:Int)≤(6:Int))∧
 (bl (0:Int) (ae rst ↑(bd rst (ByteArray.mk #[63,35]).data.toList))).length+(ByteArray.mk #[]).data.toList.length≤Go.Vc.maxLen∧
 k (PV.tup []) [bT (PV.raw (Go.Value.pointer bp)) 0 sc us pw hk hs hn hp port true false ([bl (0:Int) (ae rst ↑(bd rst (ByteArray.mk #[63,35]).data.toList))++(ByteArray.mk #[]).data.toList]) hq q hf fg bare sp (aa rst ↑(bd rst (ByteArray.mk #[63,35]).data.toList))])):=by kernel_rfl
attribute [local irreducible] Go.Vc.cB Go.Vc.bQ
theorem x9(bp:Option Addr)(sc us pw:Bs)(hk:Int)(hs:Bs)(hn:Int)(hp:List Int)(port:Int)(opq pn:Bool)(pl:List Bs)(hq:Bool)(q:Bs)(hf:Bool)(fg:Bs)(bare sp:Bool)(rst:Bs):bt Tryz.prog aA 81 [.ptr 0 0] [aE 1 (.raw (.pointer bp)) sc us pw hk hs hn hp port opq pn pl hq q hf fg bare sp rst] (rst.length≤300000) (.tup []) [aE 0 (.raw (.pointer bp)) sc us pw hk hs hn hp port true false ([lB (ae rst (aF rst)) (aa rst (aF rst))]) hq q hf fg bare sp (aa rst (aF rst))]:=bG (by kernel_rfl) x8 (H:=x7 bp sc us pw hk hs hn hp port opq pn pl hq q hf fg bare sp rst) (fuel:=1000) Tryz.func81 (by kernel_rfl) (Nat.le_of_ble_eq_true rfl) fun hpre=>(D6 bp sc us pw hk hs hn hp port opq pn pl hq q hf fg bare sp rst _).mpr (by
 obtain ⟨n,e1⟩:∃n,n=bd rst (ByteArray.mk #[63,35]).data.toList:=⟨_,rfl⟩
 have e2:aF rst=n:=e1.symm
 have h63:∀b:UInt8,b∈(ByteArray.mk #[63,35]).data.toList→b.toNat<128:=by rw [show(ByteArray.mk #[63,35]).data.toList=([63,35]:Bs)from rfl];decide
 rw [←e1]
 have e3:n≤rst.length:=by rw [e1];exact db _ _
 obtain ⟨S,e4⟩:∃S,S=ae rst (n:Int):=⟨_,rfl⟩
 obtain ⟨D,e5⟩:∃D,D=aa rst (n:Int):=⟨_,rfl⟩
 rw [←e4,←e5]
 have e6:S.length≤300000:=by rw [e4];unfold ae;rw [List.length_take];omega
 have e7:lB (ae rst (aF rst)) (aa rst (aF rst))=lB S D:=by rw [e2,←e4,←e5]
 have e8:aa rst (aF rst:Int)=D:=by rw [e2,←e5]
 have e9:(ae S (ak S-1)).length≤300000:=by unfold ae;rw [List.length_take];omega
 have hcond:(bif !decide (D=(ByteArray.mk #[]).data.toList)then ie S (ByteArray.mk #[32]).data.toList else false)=decide (D≠[]∧0<S.length∧al S (S.length-1)=32):=by
  rw [show ie S (ByteArray.mk #[32]).data.toList=ie S [32]from rfl,LL,Bool.eq_iff_iff]
  simp only [FZ,Bool.and_eq_true,decide_eq_true_eq,Bool.not_eq_true',decide_eq_false_iff_not]
  try exact Iff.rfl
 rw [hcond,e7]
 rw [e8]
 refine ⟨⟨by omega,by decide,h63⟩,⟨by omega,by unfold ak;exact Int.ofNat_le.2 e3⟩,fun _=>⟨by omega,by decide⟩,fun h=>?_,fun h=>?_⟩
 ·have hc:=of_decide_eq_true h
  have ex:lB S D=bl 0 (ae S (ak S-1))++Mb:=by unfold lB;rw [if_pos hc];rfl
  rw [ex]
  exact ⟨by unfold aD ak;omega,by unfold upto ak;omega,⟨e9,by omega,by omega⟩,Nat.le_trans (Nat.add_le_add_right (ua 0 _) _) (Nat.le_trans (show _ ≤12*300000+3 from Nat.add_le_add (Nat.mul_le_mul_left 12 e9) (by decide)) (by decide)),rfl,rfl⟩
 ·have hc:=of_decide_eq_false h
  have ex:lB S D=bl 0 S:=by unfold lB;rw [if_neg hc]
  rw [ex,show(ByteArray.mk #[]).data.toList=([]:Bs)from rfl,List.append_nil]
  exact ⟨⟨e6,by omega,by omega⟩,Nat.le_trans (Nat.add_le_add_right (ua 0 _) _) (Nat.le_trans (show _ ≤12*300000+0 from Nat.add_le_add (Nat.mul_le_mul_left 12 e6) (by decide)) (by decide)),rfl,rfl⟩)
theorem D7(bp:Option Addr)(sc us pw:Bs)(hk:Int)(hs:Bs)(hn:Int)(hp:List Int)(port:Int)(opq pn:Bool)(pl:List Bs)(hq:Bool)(q:Bs)(hf:Bool)(fg:Bs)(bare sp:Bool)(rst:Bs):ag Tryz.prog aA 81 [.ptr 0 0,aE 1 (.raw (.pointer bp)) sc us pw hk hs hn hp port opq pn pl hq q hf fg bare sp rst] ⟨rst.length≤300000,.tup [.tup [],aE 0 (.raw (.pointer bp)) sc us pw hk hs hn hp port true false ([lB (ae rst (aF rst)) (aa rst (aF rst))]) hq q hf fg bare sp (aa rst (aF rst))]⟩:=ag.bg (fun h=>by have e:List.isEmpty (PV.aB PV.bD [.ptr 0 0,aE 1 (.raw (.pointer bp)) sc us pw hk hs hn hp port opq pn pl hq q hf fg bare sp rst])=false:=(by kernel_rfl);exact Bool.noConfusion (e.symm.trans (congrArg List.isEmpty h))) (x9 bp sc us pw hk hs hn hp port opq pn pl hq q hf fg bare sp rst)
def lF:List PV→Option aG:=fun xs=>match xs with
 |[.ptr 0 0,aE 1 (.raw (.pointer bp)) sc us pw hk hs hn hp port opq pn pl hq q hf fg bare sp rst]=>some ⟨rst.length≤300000,.tup [.tup [],aE 0 (.raw (.pointer bp)) sc us pw hk hs hn hp port true false ([lB (ae rst (aF rst)) (aa rst (aF rst))]) hq q hf fg bare sp (aa rst (aF rst))]⟩
 |_=>none
theorem so:∀xs c,lF xs=some c→ag Tryz.prog aA 81 xs c:=fun xs c h=>by
 unfold lF at h
 split at h
 ·injection h with h;subst h;exact D7 _ _ _ _ _ _ _ _ _ _ _ _ _ _ _ _ _ _ _
 ·cases h
end
section
def ee(rst:Bs)(hq:Bool):Bool:=if preB rst [63]=true then true else hq
def eh(sp:Bool)(rst q:Bs):Bs:=if preB rst [63]=true then bl (if sp=true then 3 else 2) (ae (aa rst 1) (sj (aa rst 1)))else q
def bK(rst:Bs):Bs:=if preB rst [63]=true then aa (aa rst 1) (sj (aa rst 1))else rst
theorem GZ(r:RS):r.query={r with hq:=ee r.rst r.hq,q:=eh r.sp r.rst r.q,rst:=bK r.rst}:=by
 unfold RS.query ee eh bK
 split<;>rfl
def Ca:cp:=bP [(80,j3),(128,gN),(129,gL),(26,eB)]
def Cb(bp:Option Addr)(sc us pw:Bs)(hk:Int)(hs:Bs)(hn:Int)(hp:List Int)(port:Int)(opq pn:Bool)(pl:List Bs)(hq:Bool)(q:Bs)(hf:Bool)(fg:Bs)(bare sp:Bool)(rst:Bs):ba:=fun i=>none
theorem AG:cR Tryz.prog aA Ca:=ai j4 (ai ga (ai fY (ai du (ax))))
theorem G3(bp:Option Addr)(sc us pw:Bs)(hk:Int)(hs:Bs)(hn:Int)(hp:List Int)(port:Int)(opq pn:Bool)(pl:List Bs)(hq:Bool)(q:Bs)(hf:Bool)(fg:Bs)(bare sp:Bool)(rst:Bs)(k:PV→List PV→Prop):bQ Tryz.prog Ca aA (Cb bp sc us pw hk hs hn hp port opq pn pl hq q hf fg bare sp rst) 1000 Tryz.f91 [.ptr 0 0] [aE 1 (.raw (.pointer bp)) sc us pw hk hs hn hp port opq pn pl hq q hf fg bare sp rst] k=(
 True∧
 ((!(aj rst (ByteArray.mk #[63]).data.toList).2)=true→
 k (PV.tup []) [bT (PV.raw (Go.Value.pointer bp)) 1 sc us pw hk hs hn hp port opq pn pl hq q hf fg bare sp ((aj rst (ByteArray.mk #[63]).data.toList).1)])∧
 ((!(aj rst (ByteArray.mk #[63]).data.toList).2)=false→
 (sp=true→
 (List.length (aj rst (ByteArray.mk #[63]).data.toList).1≤(1000000:Nat)∧
 (ByteArray.mk #[35]).data.toList.length≤(1000000:Nat)∧
 ∀(b:UInt8),b∈(ByteArray.mk #[35]).data.toList→
 b.toNat<(128:Nat))∧
 ((0:Int)≤↑(bd (aj rst (ByteArray.mk #[63]).data.toList).1 (ByteArray.mk #[35]).data.toList)∧
 ↑(bd (aj rst (ByteArray.mk #[63]).data.toList).1 (ByteArray.mk #[35]).data.toList)≤ak (aj rst (ByteArray.mk #[63]).data.toList).1)∧
 ((ae (aj rst (ByteArray.mk #[63]).data.toList).1 ↑(bd (aj rst (ByteArray.mk #[63]).data.toList).1 (ByteArray.mk #[35]).data.toList)).length≤(300000:Nat)∧
 (0:Int)≤(3:Int)∧
 (3:Int)≤(6:Int))∧
 k (PV.tup []) [bT (PV.raw (Go.Value.pointer bp)) 1 sc us pw hk hs hn hp port opq pn pl true (bl (3:Int) (ae (aj rst (ByteArray.mk #[63]).data.toList).1 ↑(bd (aj rst (ByteArray.mk #[63]).data.toList).1 (ByteArray.mk #[35]).data.toList))) hf fg bare sp (aa (aj rst (ByteArray.mk #[63]).data.toList).1 ↑(bd (aj rst (ByteArray.mk #[63]).data.toList).1 (ByteArray.mk #[35]).data.toList))])∧
 (sp=false→
 (List.length (aj rst (ByteArray.mk #[63]).data.toList).1≤(1000000:Nat)∧
 (ByteArray.mk #[35]).data.toList.length≤(1000000:Nat)∧
 ∀(b:UInt8),b∈(ByteArray.mk #[35]).data.toList→
 b.toNat<(128:Nat))∧
 ((0:Int)≤↑(bd (aj rst (ByteArray.mk #[63]).data.toList).1 (ByteArray.mk #[35]).data.toList)∧
 ↑(bd (aj rst (ByteArray.mk #[63]).data.toList).1 (ByteArray.mk #[35]).data.toList)≤ak (aj rst (ByteArray.mk #[63]).data.toList).1)∧
 ((ae (aj rst (ByteArray.mk #[63]).data.toList).1 ↑(bd (aj rst (ByteArray.mk #[63]).data.toList).1 (ByteArray.mk #[35]).data.toList)).length≤(300000:Nat)∧
 (0:Int)≤(2:Int)∧
 (2:Int)≤(6:Int))∧
 k (PV.tup []) [bT (PV.raw (Go.Value.pointer bp)) 1 sc us pw hk hs hn hp port opq pn pl true (bl (2:Int) (ae (aj rst (ByteArray.mk #[63]).data.toList).1 ↑(bd (aj rst (ByteArray.mk #[63]).data.toList).1 (ByteArray.mk #[35]).data.toList))) hf fg bare sp (aa (aj rst (ByteArray.mk #[63]).data.toList).1 ↑(bd (aj rst (ByteArray.mk #[63]).data.toList).1 (ByteArray.mk #[35]).data.toList))]))):=by kernel_rfl
attribute [local irreducible] Go.Vc.cB Go.Vc.bQ
theorem ry(bp:Option Addr)(sc us pw:Bs)(hk:Int)(hs:Bs)(hn:Int)(hp:List Int)(port:Int)(opq pn:Bool)(pl:List Bs)(hq:Bool)(q:Bs)(hf:Bool)(fg:Bs)(bare sp:Bool)(rst:Bs):bt Tryz.prog aA 91 [.ptr 0 0] [aE 1 (.raw (.pointer bp)) sc us pw hk hs hn hp port opq pn pl hq q hf fg bare sp rst] (rst.length≤300000) (.tup []) [aE 1 (.raw (.pointer bp)) sc us pw hk hs hn hp port opq pn pl (ee rst hq) (eh sp rst q) hf fg bare sp (bK rst)]:=bG (by kernel_rfl) AG (H:=Cb bp sc us pw hk hs hn hp port opq pn pl hq q hf fg bare sp rst) (fuel:=1000) Tryz.func91 (by kernel_rfl) (Nat.le_of_ble_eq_true rfl) fun hpre=>(G3 bp sc us pw hk hs hn hp port opq pn pl hq q hf fg bare sp rst _).mpr (by
 have ec:(ByteArray.mk #[63]).data.toList=([63]:Bs):=rfl
 have ed:(ByteArray.mk #[35]).data.toList=([35]:Bs):=rfl
 have h35:∀b:UInt8,b∈(ByteArray.mk #[35]).data.toList→b.toNat<128:=by rw [ed];decide
 cases hc:preB rst [63]with
 |false=>
  have e1:aj rst (ByteArray.mk #[63]).data.toList=(rst,false):=by unfold aj;rw [ec,hc];rfl
  have e2:ee rst hq=hq∧eh sp rst q=q∧bK rst=rst:=by unfold ee eh bK;rw [hc];exact ⟨rfl,rfl,rfl⟩
  rw [e1,e2.1,e2.2.1,e2.2.2]
  exact ⟨trivial,fun _=>⟨rfl,rfl⟩,fun h=>by cases h⟩
 |true=>
  have e1:aj rst (ByteArray.mk #[63]).data.toList=(aa rst 1,true):=by unfold aj;rw [ec,hc];rfl
  have e2:ee rst hq=true∧eh sp rst q=bl (if sp=true then 3 else 2) (ae (aa rst 1) (sj (aa rst 1)))∧bK rst=aa (aa rst 1) (sj (aa rst 1)):=⟨if_pos hc,if_pos hc,if_pos hc⟩
  have hl:(aa rst 1).length≤300000:=by unfold aa;rw [List.length_drop];omega
  have hi:=db (aa rst 1) (ByteArray.mk #[35]).data.toList
  have ht:(ae (aa rst 1) (bd (aa rst 1) (ByteArray.mk #[35]).data.toList:Int)).length≤300000:=by unfold ae;rw [List.length_take];omega
  rw [e1,e2.1,e2.2.1,e2.2.2]
  refine ⟨trivial,fun h=>(by cases h),fun _=>⟨fun hsp=>?_,fun hsp=>?_⟩⟩
  ·subst hsp
   exact ⟨⟨Nat.le_trans hl (by decide),by decide,h35⟩,⟨by omega,by unfold ak;exact Int.ofNat_le.2 hi⟩,⟨ht,by omega,by omega⟩,rfl,rfl⟩
  ·subst hsp
   exact ⟨⟨Nat.le_trans hl (by decide),by decide,h35⟩,⟨by omega,by unfold ak;exact Int.ofNat_le.2 hi⟩,⟨ht,by omega,by omega⟩,rfl,rfl⟩)
theorem G4(bp:Option Addr)(sc us pw:Bs)(hk:Int)(hs:Bs)(hn:Int)(hp:List Int)(port:Int)(opq pn:Bool)(pl:List Bs)(hq:Bool)(q:Bs)(hf:Bool)(fg:Bs)(bare sp:Bool)(rst:Bs):ag Tryz.prog aA 91 [.ptr 0 0,aE 1 (.raw (.pointer bp)) sc us pw hk hs hn hp port opq pn pl hq q hf fg bare sp rst] ⟨rst.length≤300000,.tup [.tup [],aE 1 (.raw (.pointer bp)) sc us pw hk hs hn hp port opq pn pl (ee rst hq) (eh sp rst q) hf fg bare sp (bK rst)]⟩:=ag.bg (fun h=>by have e:List.isEmpty (PV.aB PV.bD [.ptr 0 0,aE 1 (.raw (.pointer bp)) sc us pw hk hs hn hp port opq pn pl hq q hf fg bare sp rst])=false:=(by kernel_rfl);exact Bool.noConfusion (e.symm.trans (congrArg List.isEmpty h))) (ry bp sc us pw hk hs hn hp port opq pn pl hq q hf fg bare sp rst)
def n9:List PV→Option aG:=fun xs=>match xs with
 |[.ptr 0 0,aE 1 (.raw (.pointer bp)) sc us pw hk hs hn hp port opq pn pl hq q hf fg bare sp rst]=>some ⟨rst.length≤300000,.tup [.tup [],aE 1 (.raw (.pointer bp)) sc us pw hk hs hn hp port opq pn pl (ee rst hq) (eh sp rst q) hf fg bare sp (bK rst)]⟩
 |_=>none
theorem vF:∀xs c,n9 xs=some c→ag Tryz.prog aA 91 xs c:=fun xs c h=>by
 unfold n9 at h
 split at h
 ·injection h with h;subst h;exact G4 _ _ _ _ _ _ _ _ _ _ _ _ _ _ _ _ _ _ _
 ·cases h
end
section
def Cc:cp:=bP [(127,mK)]
def Cd(bp:Option Addr)(sc us pw:Bs)(hk:Int)(hs:Bs)(hn:Int)(hp:List Int)(port:Int)(opq pn:Bool)(pl:List Bs)(hq:Bool)(q:Bs)(hf:Bool)(fg:Bs)(bare sp:Bool)(rst:Bs)(p:Bs):ba:=fun i=>none
theorem AH:cR Tryz.prog aA Cc:=ai o0 (ax)
theorem G5(bp:Option Addr)(sc us pw:Bs)(hk:Int)(hs:Bs)(hn:Int)(hp:List Int)(port:Int)(opq pn:Bool)(pl:List Bs)(hq:Bool)(q:Bs)(hf:Bool)(fg:Bs)(bare sp:Bool)(rst:Bs)(p:Bs)(k:PV→List PV→Prop):bQ Tryz.prog Cc aA (Cd bp sc us pw hk hs hn hp port opq pn pl hq q hf fg bare sp rst p) 1000 Tryz.f80 [.ptr 0 0,.str p] [aE 0 (.raw (.pointer bp)) sc us pw hk hs hn hp port opq pn pl hq q hf fg bare sp rst] k=(
 True∧
 k (PV.bool (aj rst p).2) [bT (PV.raw (Go.Value.pointer bp)) 0 sc us pw hk hs hn hp port opq pn pl hq q hf fg bare sp ((aj rst p).1)]):=by kernel_rfl
attribute [local irreducible] Go.Vc.cB Go.Vc.bQ
theorem AI(bp:Option Addr)(sc us pw:Bs)(hk:Int)(hs:Bs)(hn:Int)(hp:List Int)(port:Int)(opq pn:Bool)(pl:List Bs)(hq:Bool)(q:Bs)(hf:Bool)(fg:Bs)(bare sp:Bool)(rst:Bs)(p:Bs):bt Tryz.prog aA 80 [.ptr 0 0,.str p] [aE 0 (.raw (.pointer bp)) sc us pw hk hs hn hp port opq pn pl hq q hf fg bare sp rst] (True) (.bool (aj rst p).2) [aE 0 (.raw (.pointer bp)) sc us pw hk hs hn hp port opq pn pl hq q hf fg bare sp ((aj rst p).1)]:=bG (by kernel_rfl) AH (H:=Cd bp sc us pw hk hs hn hp port opq pn pl hq q hf fg bare sp rst p) (fuel:=1000) Tryz.func80 (by kernel_rfl) (Nat.le_of_ble_eq_true rfl) fun hpre=>(G5 bp sc us pw hk hs hn hp port opq pn pl hq q hf fg bare sp rst p _).mpr (by
 exact ⟨trivial,rfl,rfl⟩)
theorem G6(bp:Option Addr)(sc us pw:Bs)(hk:Int)(hs:Bs)(hn:Int)(hp:List Int)(port:Int)(opq pn:Bool)(pl:List Bs)(hq:Bool)(q:Bs)(hf:Bool)(fg:Bs)(bare sp:Bool)(rst:Bs)(p:Bs):ag Tryz.prog aA 80 [.ptr 0 0,.str p,aE 0 (.raw (.pointer bp)) sc us pw hk hs hn hp port opq pn pl hq q hf fg bare sp rst] ⟨True,.tup [.bool (aj rst p).2,aE 0 (.raw (.pointer bp)) sc us pw hk hs hn hp port opq pn pl hq q hf fg bare sp ((aj rst p).1)]⟩:=ag.bg (fun h=>by have e:List.isEmpty (PV.aB PV.bD [.ptr 0 0,.str p,aE 0 (.raw (.pointer bp)) sc us pw hk hs hn hp port opq pn pl hq q hf fg bare sp rst])=false:=(by kernel_rfl);exact Bool.noConfusion (e.symm.trans (congrArg List.isEmpty h))) (AI bp sc us pw hk hs hn hp port opq pn pl hq q hf fg bare sp rst p)
def kx:List PV→Option aG:=fun xs=>match xs with
 |[.ptr 0 0,.str p,aE 0 (.raw (.pointer bp)) sc us pw hk hs hn hp port opq pn pl hq q hf fg bare sp rst]=>some ⟨True,.tup [.bool (aj rst p).2,aE 0 (.raw (.pointer bp)) sc us pw hk hs hn hp port opq pn pl hq q hf fg bare sp ((aj rst p).1)]⟩
 |_=>none
theorem mP:∀xs c,kx xs=some c→ag Tryz.prog aA 80 xs c:=fun xs c h=>by
 unfold kx at h
 split at h
 ·injection h with h;subst h;exact G6 _ _ _ _ _ _ _ _ _ _ _ _ _ _ _ _ _ _ _ _
 ·cases h
end
section
def Ce:cp:=bP []
def Cf(bp:Option Addr)(sc us pw:Bs)(hk:Int)(hs:Bs)(hn:Int)(hp:List Int)(port:Int)(opq pn:Bool)(pl:List Bs)(hq:Bool)(q:Bs)(hf:Bool)(fg:Bs)(bare sp:Bool)(rst:Bs)(z:Int):ba:=fun i=>none
theorem AJ:cR Tryz.prog aA Ce:=ax
theorem G7(bp:Option Addr)(sc us pw:Bs)(hk:Int)(hs:Bs)(hn:Int)(hp:List Int)(port:Int)(opq pn:Bool)(pl:List Bs)(hq:Bool)(q:Bs)(hf:Bool)(fg:Bs)(bare sp:Bool)(rst:Bs)(z:Int)(k:PV→List PV→Prop):bQ Tryz.prog Ce aA (Cf bp sc us pw hk hs hn hp port opq pn pl hq q hf fg bare sp rst z) 1000 Tryz.f128 [.ptr 0 0,.int .i64 z] [aE 0 (.raw (.pointer bp)) sc us pw hk hs hn hp port opq pn pl hq q hf fg bare sp rst] k=(
 upto (0:Int) z (ak rst)∧
 upto z (ak rst) (ak rst)∧
 k (PV.str (ae rst z)) [bT (PV.raw (Go.Value.pointer bp)) 0 sc us pw hk hs hn hp port opq pn pl hq q hf fg bare sp (aa rst z)]):=by kernel_rfl
attribute [local irreducible] Go.Vc.cB Go.Vc.bQ
theorem AK(bp:Option Addr)(sc us pw:Bs)(hk:Int)(hs:Bs)(hn:Int)(hp:List Int)(port:Int)(opq pn:Bool)(pl:List Bs)(hq:Bool)(q:Bs)(hf:Bool)(fg:Bs)(bare sp:Bool)(rst:Bs)(z:Int):bt Tryz.prog aA 128 [.ptr 0 0,.int .i64 z] [aE 0 (.raw (.pointer bp)) sc us pw hk hs hn hp port opq pn pl hq q hf fg bare sp rst] (0≤z∧z≤ak rst) (.str (ae rst z)) [aE 0 (.raw (.pointer bp)) sc us pw hk hs hn hp port opq pn pl hq q hf fg bare sp (aa rst z)]:=bG (by kernel_rfl) AJ (H:=Cf bp sc us pw hk hs hn hp port opq pn pl hq q hf fg bare sp rst z) (fuel:=1000) Tryz.func128 (by kernel_rfl) (Nat.le_of_ble_eq_true rfl) fun hpre=>(G7 bp sc us pw hk hs hn hp port opq pn pl hq q hf fg bare sp rst z _).mpr (by
 obtain ⟨h0,h1⟩:=hpre
 exact ⟨⟨by omega,h0,h1⟩,⟨h0,h1,Int.le_refl _⟩,rfl,rfl⟩)
theorem G8(bp:Option Addr)(sc us pw:Bs)(hk:Int)(hs:Bs)(hn:Int)(hp:List Int)(port:Int)(opq pn:Bool)(pl:List Bs)(hq:Bool)(q:Bs)(hf:Bool)(fg:Bs)(bare sp:Bool)(rst:Bs)(z:Int):ag Tryz.prog aA 128 [.ptr 0 0,.int .i64 z,aE 0 (.raw (.pointer bp)) sc us pw hk hs hn hp port opq pn pl hq q hf fg bare sp rst] ⟨0≤z∧z≤ak rst,.tup [.str (ae rst z),aE 0 (.raw (.pointer bp)) sc us pw hk hs hn hp port opq pn pl hq q hf fg bare sp (aa rst z)]⟩:=ag.bg (fun h=>by have e:List.isEmpty (PV.aB PV.bD [.ptr 0 0,.int .i64 z,aE 0 (.raw (.pointer bp)) sc us pw hk hs hn hp port opq pn pl hq q hf fg bare sp rst])=false:=(by kernel_rfl);exact Bool.noConfusion (e.symm.trans (congrArg List.isEmpty h))) (AK bp sc us pw hk hs hn hp port opq pn pl hq q hf fg bare sp rst z)
def oa:List PV→Option aG:=fun xs=>match xs with
 |[.ptr 0 0,.int .i64 z,aE 0 (.raw (.pointer bp)) sc us pw hk hs hn hp port opq pn pl hq q hf fg bare sp rst]=>some ⟨0≤z∧z≤ak rst,.tup [.str (ae rst z),aE 0 (.raw (.pointer bp)) sc us pw hk hs hn hp port opq pn pl hq q hf fg bare sp (aa rst z)]⟩
 |_=>none
theorem vG:∀xs c,oa xs=some c→ag Tryz.prog aA 128 xs c:=fun xs c h=>by
 unfold oa at h
 split at h
 ·injection h with h;subst h;exact G8 _ _ _ _ _ _ _ _ _ _ _ _ _ _ _ _ _ _ _ _
 ·cases h
end
section
def ya:cp:=bP [(80,kx),(128,oa),(129,gL),(26,eB)]
def yb(bp:Option Addr)(sc us pw:Bs)(hk:Int)(hs:Bs)(hn:Int)(hp:List Int)(port:Int)(opq pn:Bool)(pl:List Bs)(hq:Bool)(q:Bs)(hf:Bool)(fg:Bs)(bare sp:Bool)(rst:Bs):ba:=fun i=>none
theorem yc:cR Tryz.prog aA ya:=ai mP (ai vG (ai fY (ai du (ax))))
theorem D8(bp:Option Addr)(sc us pw:Bs)(hk:Int)(hs:Bs)(hn:Int)(hp:List Int)(port:Int)(opq pn:Bool)(pl:List Bs)(hq:Bool)(q:Bs)(hf:Bool)(fg:Bs)(bare sp:Bool)(rst:Bs)(k:PV→List PV→Prop):bQ Tryz.prog ya aA (yb bp sc us pw hk hs hn hp port opq pn pl hq q hf fg bare sp rst) 1000 Tryz.f91 [.ptr 0 0] [aE 0 (.raw (.pointer bp)) sc us pw hk hs hn hp port opq pn pl hq q hf fg bare sp rst] k=(
 True∧
 ((!(aj rst (ByteArray.mk #[63]).data.toList).2)=true→
 k (PV.tup []) [bT (PV.raw (Go.Value.pointer bp)) 0 sc us pw hk hs hn hp port opq pn pl hq q hf fg bare sp ((aj rst (ByteArray.mk #[63]).data.toList).1)])∧
 ((!(aj rst (ByteArray.mk #[63]).data.toList).2)=false→
 (sp=true→
 (List.length (aj rst (ByteArray.mk #[63]).data.toList).1≤(1000000:Nat)∧
 (ByteArray.mk #[35]).data.toList.length≤(1000000:Nat)∧
 ∀(b:UInt8),b∈(ByteArray.mk #[35]).data.toList→
 b.toNat<(128:Nat))∧
 ((0:Int)≤↑(bd (aj rst (ByteArray.mk #[63]).data.toList).1 (ByteArray.mk #[35]).data.toList)∧
 ↑(bd (aj rst (ByteArray.mk #[63]).data.toList).1 (ByteArray.mk #[35]).data.toList)≤ak (aj rst (ByteArray.mk #[63]).data.toList).1)∧
 ((ae (aj rst (ByteArray.mk #[63]).data.toList).1 ↑(bd (aj rst (ByteArray.mk #[63]).data.toList).1 (ByteArray.mk #[35]).data.toList)).length≤(300000:Nat)∧
 (0:Int)≤(3:Int)∧
 (3:Int)≤(6:Int))∧
 k (PV.tup []) [bT (PV.raw (Go.Value.pointer bp)) 0 sc us pw hk hs hn hp port opq pn pl true (bl (3:Int) (ae (aj rst (ByteArray.mk #[63]).data.toList).1 ↑(bd (aj rst (ByteArray.mk #[63]).data.toList).1 (ByteArray.mk #[35]).data.toList))) hf fg bare sp (aa (aj rst (ByteArray.mk #[63]).data.toList).1 ↑(bd (aj rst (ByteArray.mk #[63]).data.toList).1 (ByteArray.mk #[35]).data.toList))])∧
 (sp=false→
 (List.length (aj rst (ByteArray.mk #[63]).data.toList).1≤(1000000:Nat)∧
 (ByteArray.mk #[35]).data.toList.length≤(1000000:Nat)∧
 ∀(b:UInt8),b∈(ByteArray.mk #[35]).data.toList→
 b.toNat<(128:Nat))∧
 ((0:Int)≤↑(bd (aj rst (ByteArray.mk #[63]).data.toList).1 (ByteArray.mk #[35]).data.toList)∧
 ↑(bd (aj rst (ByteArray.mk #[63]).data.toList).1 (ByteArray.mk #[35]).data.toList)≤ak (aj rst (ByteArray.mk #[63]).data.toList).1)∧
 ((ae (aj rst (ByteArray.mk #[63]).data.toList).1 ↑(bd (aj rst (ByteArray.mk #[63]).data.toList).1 (ByteArray.mk #[35]).data.toList)).length≤(300000:Nat)∧
 (0:Int)≤(2:Int)∧
 (2:Int)≤(6:Int))∧
 k (PV.tup []) [bT (PV.raw (Go.Value.pointer bp)) 0 sc us pw hk hs hn hp port opq pn pl true (bl (2:Int) (ae (aj rst (ByteArray.mk #[63]).data.toList).1 ↑(bd (aj rst (ByteArray.mk #[63]).data.toList).1 (ByteArray.mk #[35]).data.toList))) hf fg bare sp (aa (aj rst (ByteArray.mk #[63]).data.toList).1 ↑(bd (aj rst (ByteArray.mk #[63]).data.toList).1 (ByteArray.mk #[35]).data.toList))]))):=by kernel_rfl
attribute [local irreducible] Go.Vc.cB Go.Vc.bQ
theorem yd(bp:Option Addr)(sc us pw:Bs)(hk:Int)(hs:Bs)(hn:Int)(hp:List Int)(port:Int)(opq pn:Bool)(pl:List Bs)(hq:Bool)(q:Bs)(hf:Bool)(fg:Bs)(bare sp:Bool)(rst:Bs):bt Tryz.prog aA 91 [.ptr 0 0] [aE 0 (.raw (.pointer bp)) sc us pw hk hs hn hp port opq pn pl hq q hf fg bare sp rst] (rst.length≤300000) (.tup []) [aE 0 (.raw (.pointer bp)) sc us pw hk hs hn hp port opq pn pl (ee rst hq) (eh sp rst q) hf fg bare sp (bK rst)]:=bG (by kernel_rfl) yc (H:=yb bp sc us pw hk hs hn hp port opq pn pl hq q hf fg bare sp rst) (fuel:=1000) Tryz.func91 (by kernel_rfl) (Nat.le_of_ble_eq_true rfl) fun hpre=>(D8 bp sc us pw hk hs hn hp port opq pn pl hq q hf fg bare sp rst _).mpr (by
 have ec:(ByteArray.mk #[63]).data.toList=([63]:Bs):=rfl
 have ed:(ByteArray.mk #[35]).data.toList=([35]:Bs):=rfl
 have h35:∀b:UInt8,b∈(ByteArray.mk #[35]).data.toList→b.toNat<128:=by rw [ed];decide
 cases hc:preB rst [63]with
 |false=>
  have e1:aj rst (ByteArray.mk #[63]).data.toList=(rst,false):=by unfold aj;rw [ec,hc];rfl
  have e2:ee rst hq=hq∧eh sp rst q=q∧bK rst=rst:=by unfold ee eh bK;rw [hc];exact ⟨rfl,rfl,rfl⟩
  rw [e1,e2.1,e2.2.1,e2.2.2]
  exact ⟨trivial,fun _=>⟨rfl,rfl⟩,fun h=>by cases h⟩
 |true=>
  have e1:aj rst (ByteArray.mk #[63]).data.toList=(aa rst 1,true):=by unfold aj;rw [ec,hc];rfl
  have e2:ee rst hq=true∧eh sp rst q=bl (if sp=true then 3 else 2) (ae (aa rst 1) (sj (aa rst 1)))∧bK rst=aa (aa rst 1) (sj (aa rst 1)):=⟨if_pos hc,if_pos hc,if_pos hc⟩
  have hl:(aa rst 1).length≤300000:=by unfold aa;rw [List.length_drop];omega
  have hi:=db (aa rst 1) (ByteArray.mk #[35]).data.toList
  have ht:(ae (aa rst 1) (bd (aa rst 1) (ByteArray.mk #[35]).data.toList:Int)).length≤300000:=by unfold ae;rw [List.length_take];omega
  rw [e1,e2.1,e2.2.1,e2.2.2]
  refine ⟨trivial,fun h=>(by cases h),fun _=>⟨fun hsp=>?_,fun hsp=>?_⟩⟩
  ·subst hsp
   exact ⟨⟨Nat.le_trans hl (by decide),by decide,h35⟩,⟨by omega,by unfold ak;exact Int.ofNat_le.2 hi⟩,⟨ht,by omega,by omega⟩,rfl,rfl⟩
  ·subst hsp
   exact ⟨⟨Nat.le_trans hl (by decide),by decide,h35⟩,⟨by omega,by unfold ak;exact Int.ofNat_le.2 hi⟩,⟨ht,by omega,by omega⟩,rfl,rfl⟩)
theorem D9(bp:Option Addr)(sc us pw:Bs)(hk:Int)(hs:Bs)(hn:Int)(hp:List Int)(port:Int)(opq pn:Bool)(pl:List Bs)(hq:Bool)(q:Bs)(hf:Bool)(fg:Bs)(bare sp:Bool)(rst:Bs):ag Tryz.prog aA 91 [.ptr 0 0,aE 0 (.raw (.pointer bp)) sc us pw hk hs hn hp port opq pn pl hq q hf fg bare sp rst] ⟨rst.length≤300000,.tup [.tup [],aE 0 (.raw (.pointer bp)) sc us pw hk hs hn hp port opq pn pl (ee rst hq) (eh sp rst q) hf fg bare sp (bK rst)]⟩:=ag.bg (fun h=>by have e:List.isEmpty (PV.aB PV.bD [.ptr 0 0,aE 0 (.raw (.pointer bp)) sc us pw hk hs hn hp port opq pn pl hq q hf fg bare sp rst])=false:=(by kernel_rfl);exact Bool.noConfusion (e.symm.trans (congrArg List.isEmpty h))) (yd bp sc us pw hk hs hn hp port opq pn pl hq q hf fg bare sp rst)
def lG:List PV→Option aG:=fun xs=>match xs with
 |[.ptr 0 0,aE 0 (.raw (.pointer bp)) sc us pw hk hs hn hp port opq pn pl hq q hf fg bare sp rst]=>some ⟨rst.length≤300000,.tup [.tup [],aE 0 (.raw (.pointer bp)) sc us pw hk hs hn hp port opq pn pl (ee rst hq) (eh sp rst q) hf fg bare sp (bK rst)]⟩
 |_=>none
theorem sq:∀xs c,lG xs=some c→ag Tryz.prog aA 91 xs c:=fun xs c h=>by
 unfold lG at h
 split at h
 ·injection h with h;subst h;exact D9 _ _ _ _ _ _ _ _ _ _ _ _ _ _ _ _ _ _ _
 ·cases h
end
section
def ei(rst:Bs)(hf:Bool):Bool:=if preB rst [35]=true then true else hf
def ej(rst fg:Bs):Bs:=if preB rst [35]=true then bl 1 (aa rst 1)else fg
def en(rst:Bs):Bs:=if preB rst [35]=true then aa rst 1 else rst
theorem Jy(r:RS):r.Al={r with hf:=ei r.rst r.hf,fg:=ej r.rst r.fg,rst:=en r.rst}:=by
 unfold RS.Al ei ej en
 split<;>rfl
def rz:cp:=bP [(80,j3),(26,eB)]
def rA(bp:Option Addr)(sc us pw:Bs)(hk:Int)(hs:Bs)(hn:Int)(hp:List Int)(port:Int)(opq pn:Bool)(pl:List Bs)(hq:Bool)(q:Bs)(hf:Bool)(fg:Bs)(bare sp:Bool)(rst:Bs):ba:=fun i=>none
theorem sr:cR Tryz.prog aA rz:=ai j4 (ai du (ax))
theorem ye(bp:Option Addr)(sc us pw:Bs)(hk:Int)(hs:Bs)(hn:Int)(hp:List Int)(port:Int)(opq pn:Bool)(pl:List Bs)(hq:Bool)(q:Bs)(hf:Bool)(fg:Bs)(bare sp:Bool)(rst:Bs)(k:PV→List PV→Prop):bQ Tryz.prog rz aA (rA bp sc us pw hk hs hn hp port opq pn pl hq q hf fg bare sp rst) 1000 Tryz.f92 [.ptr 0 0] [aE 1 (.raw (.pointer bp)) sc us pw hk hs hn hp port opq pn pl hq q hf fg bare sp rst] k=(
 True∧
 ((aj rst (ByteArray.mk #[35]).data.toList).2=true→
 (List.length (aj rst (ByteArray.mk #[35]).data.toList).1≤(300000:Nat)∧
 (0:Int)≤(1:Int)∧
 (1:Int)≤(6:Int))∧
 k (PV.tup []) [bT (PV.raw (Go.Value.pointer bp)) 1 sc us pw hk hs hn hp port opq pn pl hq q true (bl (1:Int) (aj rst (ByteArray.mk #[35]).data.toList).1) bare sp ((aj rst (ByteArray.mk #[35]).data.toList).1)])∧
 ((aj rst (ByteArray.mk #[35]).data.toList).2=false→
 k (PV.tup []) [bT (PV.raw (Go.Value.pointer bp)) 1 sc us pw hk hs hn hp port opq pn pl hq q hf fg bare sp ((aj rst (ByteArray.mk #[35]).data.toList).1)])):=by kernel_rfl
attribute [local irreducible] Go.Vc.cB Go.Vc.bQ
theorem kP(bp:Option Addr)(sc us pw:Bs)(hk:Int)(hs:Bs)(hn:Int)(hp:List Int)(port:Int)(opq pn:Bool)(pl:List Bs)(hq:Bool)(q:Bs)(hf:Bool)(fg:Bs)(bare sp:Bool)(rst:Bs):bt Tryz.prog aA 92 [.ptr 0 0] [aE 1 (.raw (.pointer bp)) sc us pw hk hs hn hp port opq pn pl hq q hf fg bare sp rst] (rst.length≤300000) (.tup []) [aE 1 (.raw (.pointer bp)) sc us pw hk hs hn hp port opq pn pl hq q (ei rst hf) (ej rst fg) bare sp (en rst)]:=bG (by kernel_rfl) sr (H:=rA bp sc us pw hk hs hn hp port opq pn pl hq q hf fg bare sp rst) (fuel:=1000) Tryz.func92 (by kernel_rfl) (Nat.le_of_ble_eq_true rfl) fun hpre=>(ye bp sc us pw hk hs hn hp port opq pn pl hq q hf fg bare sp rst _).mpr (by
 have ed:(ByteArray.mk #[35]).data.toList=([35]:Bs):=rfl
 cases hc:preB rst [35]with
 |false=>
  have e1:aj rst (ByteArray.mk #[35]).data.toList=(rst,false):=by unfold aj;rw [ed,hc];rfl
  have e2:ei rst hf=hf∧ej rst fg=fg∧en rst=rst:=by unfold ei ej en;rw [hc];exact ⟨rfl,rfl,rfl⟩
  rw [e1,e2.1,e2.2.1,e2.2.2]
  exact ⟨trivial,fun h=>(by cases h),fun _=>⟨rfl,rfl⟩⟩
 |true=>
  have e1:aj rst (ByteArray.mk #[35]).data.toList=(aa rst 1,true):=by unfold aj;rw [ed,hc];rfl
  have e2:ei rst hf=true∧ej rst fg=bl 1 (aa rst 1)∧en rst=aa rst 1:=⟨if_pos hc,if_pos hc,if_pos hc⟩
  have hl:(aa rst 1).length≤300000:=by unfold aa;rw [List.length_drop];omega
  rw [e1,e2.1,e2.2.1,e2.2.2]
  exact ⟨trivial,fun _=>⟨⟨hl,by omega,by omega⟩,rfl,rfl⟩,fun h=>(by cases h)⟩)
theorem yf(bp:Option Addr)(sc us pw:Bs)(hk:Int)(hs:Bs)(hn:Int)(hp:List Int)(port:Int)(opq pn:Bool)(pl:List Bs)(hq:Bool)(q:Bs)(hf:Bool)(fg:Bs)(bare sp:Bool)(rst:Bs):ag Tryz.prog aA 92 [.ptr 0 0,aE 1 (.raw (.pointer bp)) sc us pw hk hs hn hp port opq pn pl hq q hf fg bare sp rst] ⟨rst.length≤300000,.tup [.tup [],aE 1 (.raw (.pointer bp)) sc us pw hk hs hn hp port opq pn pl hq q (ei rst hf) (ej rst fg) bare sp (en rst)]⟩:=ag.bg (fun h=>by have e:List.isEmpty (PV.aB PV.bD [.ptr 0 0,aE 1 (.raw (.pointer bp)) sc us pw hk hs hn hp port opq pn pl hq q hf fg bare sp rst])=false:=(by kernel_rfl);exact Bool.noConfusion (e.symm.trans (congrArg List.isEmpty h))) (kP bp sc us pw hk hs hn hp port opq pn pl hq q hf fg bare sp rst)
def jr:List PV→Option aG:=fun xs=>match xs with
 |[.ptr 0 0,aE 1 (.raw (.pointer bp)) sc us pw hk hs hn hp port opq pn pl hq q hf fg bare sp rst]=>some ⟨rst.length≤300000,.tup [.tup [],aE 1 (.raw (.pointer bp)) sc us pw hk hs hn hp port opq pn pl hq q (ei rst hf) (ej rst fg) bare sp (en rst)]⟩
 |_=>none
theorem pq:∀xs c,jr xs=some c→ag Tryz.prog aA 92 xs c:=fun xs c h=>by
 unfold jr at h
 split at h
 ·injection h with h;subst h;exact yf _ _ _ _ _ _ _ _ _ _ _ _ _ _ _ _ _ _ _
 ·cases h
end
section
def o6:cp:=bP [(80,kx),(26,eB)]
def o7(bp:Option Addr)(sc us pw:Bs)(hk:Int)(hs:Bs)(hn:Int)(hp:List Int)(port:Int)(opq pn:Bool)(pl:List Bs)(hq:Bool)(q:Bs)(hf:Bool)(fg:Bs)(bare sp:Bool)(rst:Bs):ba:=fun i=>none
theorem rB:cR Tryz.prog aA o6:=ai mP (ai du (ax))
theorem vH(bp:Option Addr)(sc us pw:Bs)(hk:Int)(hs:Bs)(hn:Int)(hp:List Int)(port:Int)(opq pn:Bool)(pl:List Bs)(hq:Bool)(q:Bs)(hf:Bool)(fg:Bs)(bare sp:Bool)(rst:Bs)(k:PV→List PV→Prop):bQ Tryz.prog o6 aA (o7 bp sc us pw hk hs hn hp port opq pn pl hq q hf fg bare sp rst) 1000 Tryz.f92 [.ptr 0 0] [aE 0 (.raw (.pointer bp)) sc us pw hk hs hn hp port opq pn pl hq q hf fg bare sp rst] k=(
 True∧
 ((aj rst (ByteArray.mk #[35]).data.toList).2=true→
 (List.length (aj rst (ByteArray.mk #[35]).data.toList).1≤(300000:Nat)∧
 (0:Int)≤(1:Int)∧
 (1:Int)≤(6:Int))∧
 k (PV.tup []) [bT (PV.raw (Go.Value.pointer bp)) 0 sc us pw hk hs hn hp port opq pn pl hq q true (bl (1:Int) (aj rst (ByteArray.mk #[35]).data.toList).1) bare sp ((aj rst (ByteArray.mk #[35]).data.toList).1)])∧
 ((aj rst (ByteArray.mk #[35]).data.toList).2=false→
 k (PV.tup []) [bT (PV.raw (Go.Value.pointer bp)) 0 sc us pw hk hs hn hp port opq pn pl hq q hf fg bare sp ((aj rst (ByteArray.mk #[35]).data.toList).1)])):=by kernel_rfl
attribute [local irreducible] Go.Vc.cB Go.Vc.bQ
theorem rC(bp:Option Addr)(sc us pw:Bs)(hk:Int)(hs:Bs)(hn:Int)(hp:List Int)(port:Int)(opq pn:Bool)(pl:List Bs)(hq:Bool)(q:Bs)(hf:Bool)(fg:Bs)(bare sp:Bool)(rst:Bs):bt Tryz.prog aA 92 [.ptr 0 0] [aE 0 (.raw (.pointer bp)) sc us pw hk hs hn hp port opq pn pl hq q hf fg bare sp rst] (rst.length≤300000) (.tup []) [aE 0 (.raw (.pointer bp)) sc us pw hk hs hn hp port opq pn pl hq q (ei rst hf) (ej rst fg) bare sp (en rst)]:=bG (by kernel_rfl) rB (H:=o7 bp sc us pw hk hs hn hp port opq pn pl hq q hf fg bare sp rst) (fuel:=1000) Tryz.func92 (by kernel_rfl) (Nat.le_of_ble_eq_true rfl) fun hpre=>(vH bp sc us pw hk hs hn hp port opq pn pl hq q hf fg bare sp rst _).mpr (by
 have ed:(ByteArray.mk #[35]).data.toList=([35]:Bs):=rfl
 cases hc:preB rst [35]with
 |false=>
  have e1:aj rst (ByteArray.mk #[35]).data.toList=(rst,false):=by unfold aj;rw [ed,hc];rfl
  have e2:ei rst hf=hf∧ej rst fg=fg∧en rst=rst:=by unfold ei ej en;rw [hc];exact ⟨rfl,rfl,rfl⟩
  rw [e1,e2.1,e2.2.1,e2.2.2]
  exact ⟨trivial,fun h=>(by cases h),fun _=>⟨rfl,rfl⟩⟩
 |true=>
  have e1:aj rst (ByteArray.mk #[35]).data.toList=(aa rst 1,true):=by unfold aj;rw [ed,hc];rfl
  have e2:ei rst hf=true∧ej rst fg=bl 1 (aa rst 1)∧en rst=aa rst 1:=⟨if_pos hc,if_pos hc,if_pos hc⟩
  have hl:(aa rst 1).length≤300000:=by unfold aa;rw [List.length_drop];omega
  rw [e1,e2.1,e2.2.1,e2.2.2]
  exact ⟨trivial,fun _=>⟨⟨hl,by omega,by omega⟩,rfl,rfl⟩,fun h=>(by cases h)⟩)
theorem vI(bp:Option Addr)(sc us pw:Bs)(hk:Int)(hs:Bs)(hn:Int)(hp:List Int)(port:Int)(opq pn:Bool)(pl:List Bs)(hq:Bool)(q:Bs)(hf:Bool)(fg:Bs)(bare sp:Bool)(rst:Bs):ag Tryz.prog aA 92 [.ptr 0 0,aE 0 (.raw (.pointer bp)) sc us pw hk hs hn hp port opq pn pl hq q hf fg bare sp rst] ⟨rst.length≤300000,.tup [.tup [],aE 0 (.raw (.pointer bp)) sc us pw hk hs hn hp port opq pn pl hq q (ei rst hf) (ej rst fg) bare sp (en rst)]⟩:=ag.bg (fun h=>by have e:List.isEmpty (PV.aB PV.bD [.ptr 0 0,aE 0 (.raw (.pointer bp)) sc us pw hk hs hn hp port opq pn pl hq q hf fg bare sp rst])=false:=(by kernel_rfl);exact Bool.noConfusion (e.symm.trans (congrArg List.isEmpty h))) (rC bp sc us pw hk hs hn hp port opq pn pl hq q hf fg bare sp rst)
def ij:List PV→Option aG:=fun xs=>match xs with
 |[.ptr 0 0,aE 0 (.raw (.pointer bp)) sc us pw hk hs hn hp port opq pn pl hq q hf fg bare sp rst]=>some ⟨rst.length≤300000,.tup [.tup [],aE 0 (.raw (.pointer bp)) sc us pw hk hs hn hp port opq pn pl hq q (ei rst hf) (ej rst fg) bare sp (en rst)]⟩
 |_=>none
theorem ob:∀xs c,ij xs=some c→ag Tryz.prog aA 92 xs c:=fun xs c h=>by
 unfold ij at h
 split at h
 ·injection h with h;subst h;exact vI _ _ _ _ _ _ _ _ _ _ _ _ _ _ _ _ _ _ _
 ·cases h
end
section
attribute [local instance] Lc
theorem eN(bp:Option Addr):ofRaw bp (.raw (.pointer bp))=.ptr 1 0:=by unfold ofRaw;exact if_pos rfl
theorem Ea(sc us pw:Bs)(hk:Int)(hs:Bs)(hn:Int)(hp:List Int)(port:Int)(opq pn:Bool)(pl:List Bs)(hq:Bool)(q:Bs)(hf:Bool)(fg:Bs)(bare sp:Bool)(rst:Bs)(at_:Int)(bsc bus bpw:Bs)(bhk:Int)(bhs:Bs)(bhn:Int)(bhp:List Int)(bport:Int)(bopq bpn:Bool)(bpl:List Bs)(bhq:Bool)(bq:Bs)(bhf:Bool)(bfg:Bs):ag Tryz.prog aA 82 [.ptr 0 0,.int .i64 at_,aE 1 (.ptr 1 0) sc us pw hk hs hn hp port opq pn pl hq q hf fg bare sp rst,bE 0 bsc bus bpw bhk bhs bhn bhp bport bopq bpn bpl bhq bq bhf bfg] ⟨0≤at_∧at_<1000,.tup [.bool (az sp rst at_),aE 1 (.ptr 1 0) sc us pw hk hs hn hp port opq pn pl hq q hf fg bare sp rst,bE 0 bsc bus bpw bhk bhs bhn bhp bport bopq bpn bpl bhq bq bhf bfg]⟩:=
 ag.bg (fun h=>by have e:List.isEmpty (PV.aB PV.bD [.ptr 0 0,.int .i64 at_,aE 1 (.ptr 1 0) sc us pw hk hs hn hp port opq pn pl hq q hf fg bare sp rst,bE 0 bsc bus bpw bhk bhs bhn bhp bport bopq bpn bpl bhq bq bhf bfg])=false:=(by kernel_rfl);exact Bool.noConfusion (e.symm.trans (congrArg List.isEmpty h)))
  (eK (fun bp=>(aE 1 (.raw (.pointer bp)) sc us pw hk hs hn hp port opq pn pl hq q hf fg bare sp rst)) (fun bp=>(aE 1 (.raw (.pointer bp)) sc us pw hk hs hn hp port opq pn pl hq q hf fg bare sp rst)) (fun bp=>rb bp sc us pw hk hs hn hp port opq pn pl hq q hf fg bare sp rst at_) (fun bp=>rfl) (fun bp=>by
    show PV.agg [_,ofRaw bp (.raw (.pointer bp)),_,_,_]=_
    rw [eN];rfl) (fun bp=>rfl) rfl)
theorem su(sc us pw:Bs)(hk:Int)(hs:Bs)(hn:Int)(hp:List Int)(port:Int)(opq pn:Bool)(pl:List Bs)(hq:Bool)(q:Bs)(hf:Bool)(fg:Bs)(bare sp:Bool)(rst:Bs)(bsc bus bpw:Bs)(bhk:Int)(bhs:Bs)(bhn:Int)(bhp:List Int)(bport:Int)(bopq bpn:Bool)(bpl:List Bs)(bhq:Bool)(bq:Bs)(bhf:Bool)(bfg:Bs):ag Tryz.prog aA 84 [.ptr 0 0,aE 1 (.ptr 1 0) sc us pw hk hs hn hp port opq pn pl hq q hf fg bare sp rst,bE 0 bsc bus bpw bhk bhs bhn bhp bport bopq bpn bpl bhq bq bhf bfg] ⟨True,.tup [.bool (az sp rst 0),aE 1 (.ptr 1 0) sc us pw hk hs hn hp port opq pn pl hq q hf fg bare sp (if az sp rst 0=true then aa rst 1 else rst),bE 0 bsc bus bpw bhk bhs bhn bhp bport bopq bpn bpl bhq bq bhf bfg]⟩:=
 ag.bg (fun h=>by have e:List.isEmpty (PV.aB PV.bD [.ptr 0 0,aE 1 (.ptr 1 0) sc us pw hk hs hn hp port opq pn pl hq q hf fg bare sp rst,bE 0 bsc bus bpw bhk bhs bhn bhp bport bopq bpn bpl bhq bq bhf bfg])=false:=(by kernel_rfl);exact Bool.noConfusion (e.symm.trans (congrArg List.isEmpty h)))
  (eK (fun bp=>(aE 1 (.raw (.pointer bp)) sc us pw hk hs hn hp port opq pn pl hq q hf fg bare sp rst)) (fun bp=>(aE 1 (.raw (.pointer bp)) sc us pw hk hs hn hp port opq pn pl hq q hf fg bare sp (if az sp rst 0=true then aa rst 1 else rst))) (fun bp=>j0 bp sc us pw hk hs hn hp port opq pn pl hq q hf fg bare sp rst) (fun bp=>rfl) (fun bp=>by
    show PV.agg [_,ofRaw bp (.raw (.pointer bp)),_,_,_]=_
    rw [eN];rfl) (fun bp=>rfl) rfl)
theorem AL(sc us pw:Bs)(hk:Int)(hs:Bs)(hn:Int)(hp:List Int)(port:Int)(opq pn:Bool)(pl:List Bs)(hq:Bool)(q:Bs)(hf:Bool)(fg:Bs)(bare sp:Bool)(rst:Bs)(bsc bus bpw:Bs)(bhk:Int)(bhs:Bs)(bhn:Int)(bhp:List Int)(bport:Int)(bopq bpn:Bool)(bpl:List Bs)(bhq:Bool)(bq:Bs)(bhf:Bool)(bfg:Bs):ag Tryz.prog aA 89 [.ptr 0 0,aE 1 (.ptr 1 0) sc us pw hk hs hn hp port opq pn pl hq q hf fg bare sp rst,bE 0 bsc bus bpw bhk bhs bhn bhp bport bopq bpn bpl bhq bq bhf bfg] ⟨True,.tup [.bool (bz rst),aE 1 (.ptr 1 0) sc us pw hk hs hn hp port opq pn pl hq q hf fg bare sp rst,bE 0 bsc bus bpw bhk bhs bhn bhp bport bopq bpn bpl bhq bq bhf bfg]⟩:=
 ag.bg (fun h=>by have e:List.isEmpty (PV.aB PV.bD [.ptr 0 0,aE 1 (.ptr 1 0) sc us pw hk hs hn hp port opq pn pl hq q hf fg bare sp rst,bE 0 bsc bus bpw bhk bhs bhn bhp bport bopq bpn bpl bhq bq bhf bfg])=false:=(by kernel_rfl);exact Bool.noConfusion (e.symm.trans (congrArg List.isEmpty h)))
  (eK (fun bp=>(aE 1 (.raw (.pointer bp)) sc us pw hk hs hn hp port opq pn pl hq q hf fg bare sp rst)) (fun bp=>(aE 1 (.raw (.pointer bp)) sc us pw hk hs hn hp port opq pn pl hq q hf fg bare sp rst)) (fun bp=>o1 bp sc us pw hk hs hn hp port opq pn pl hq q hf fg bare sp rst) (fun bp=>rfl) (fun bp=>by
    show PV.agg [_,ofRaw bp (.raw (.pointer bp)),_,_,_]=_
    rw [eN];rfl) (fun bp=>rfl) rfl)
def j7:List PV→Option aG:=fun xs=>match xs with
 |[.ptr 0 0,aE 1 (.ptr 1 0) sc us pw hk hs hn hp port opq pn pl hq q hf fg bare sp rst,bE 0 bsc bus bpw bhk bhs bhn bhp bport bopq bpn bpl bhq bq bhf bfg]=>some ⟨True,.tup [.bool (bz rst),aE 1 (.ptr 1 0) sc us pw hk hs hn hp port opq pn pl hq q hf fg bare sp rst,bE 0 bsc bus bpw bhk bhs bhn bhp bport bopq bpn bpl bhq bq bhf bfg]⟩
 |_=>none
theorem rD:∀xs c,j7 xs=some c→ag Tryz.prog aA 89 xs c:=fun xs c h=>by
 unfold j7 at h
 split at h
 ·injection h with h;subst h;exact AL _ _ _ _ _ _ _ _ _ _ _ _ _ _ _ _ _ _ _ _ _ _ _ _ _ _ _ _ _ _ _ _ _
 ·cases h
theorem yg(sc us pw:Bs)(hk:Int)(hs:Bs)(hn:Int)(hp:List Int)(port:Int)(opq pn:Bool)(pl:List Bs)(hq:Bool)(q:Bs)(hf:Bool)(fg:Bs)(bare sp:Bool)(rst:Bs)(bsc bus bpw:Bs)(bhk:Int)(bhs:Bs)(bhn:Int)(bhp:List Int)(bport:Int)(bopq bpn:Bool)(bpl:List Bs)(bhq:Bool)(bq:Bs)(bhf:Bool)(bfg:Bs):ag Tryz.prog aA 87 [.ptr 0 0,aE 1 (.ptr 1 0) sc us pw hk hs hn hp port opq pn pl hq q hf fg bare sp rst,bE 0 bsc bus bpw bhk bhs bhn bhp bport bopq bpn bpl bhq bq bhf bfg] ⟨pl.length≤1000000,.tup [.tup [],aE 1 (.ptr 1 0) sc us pw hk hs hn hp port opq ((b6 sc (pn,pl)).1) ((b6 sc (pn,pl)).2) hq q hf fg bare sp rst,bE 0 bsc bus bpw bhk bhs bhn bhp bport bopq bpn bpl bhq bq bhf bfg]⟩:=
 ag.bg (fun h=>by have e:List.isEmpty (PV.aB PV.bD [.ptr 0 0,aE 1 (.ptr 1 0) sc us pw hk hs hn hp port opq pn pl hq q hf fg bare sp rst,bE 0 bsc bus bpw bhk bhs bhn bhp bport bopq bpn bpl bhq bq bhf bfg])=false:=(by kernel_rfl);exact Bool.noConfusion (e.symm.trans (congrArg List.isEmpty h)))
  (eK (fun bp=>(aE 1 (.raw (.pointer bp)) sc us pw hk hs hn hp port opq pn pl hq q hf fg bare sp rst)) (fun bp=>(aE 1 (.raw (.pointer bp)) sc us pw hk hs hn hp port opq ((b6 sc (pn,pl)).1) ((b6 sc (pn,pl)).2) hq q hf fg bare sp rst)) (fun bp=>mN bp sc us pw hk hs hn hp port opq pn pl hq q hf fg bare sp rst) (fun bp=>rfl) (fun bp=>by
    show PV.agg [_,ofRaw bp (.raw (.pointer bp)),_,_,_]=_
    rw [eN];rfl) (fun bp=>rfl) rfl)
def js:List PV→Option aG:=fun xs=>match xs with
 |[.ptr 0 0,aE 1 (.ptr 1 0) sc us pw hk hs hn hp port opq pn pl hq q hf fg bare sp rst,bE 0 bsc bus bpw bhk bhs bhn bhp bport bopq bpn bpl bhq bq bhf bfg]=>some ⟨pl.length≤1000000,.tup [.tup [],aE 1 (.ptr 1 0) sc us pw hk hs hn hp port opq ((b6 sc (pn,pl)).1) ((b6 sc (pn,pl)).2) hq q hf fg bare sp rst,bE 0 bsc bus bpw bhk bhs bhn bhp bport bopq bpn bpl bhq bq bhf bfg]⟩
 |_=>none
theorem pr:∀xs c,js xs=some c→ag Tryz.prog aA 87 xs c:=fun xs c h=>by
 unfold js at h
 split at h
 ·injection h with h;subst h;exact yg _ _ _ _ _ _ _ _ _ _ _ _ _ _ _ _ _ _ _ _ _ _ _ _ _ _ _ _ _ _ _ _ _
 ·cases h
theorem G9(sc us pw:Bs)(hk:Int)(hs:Bs)(hn:Int)(hp:List Int)(port:Int)(opq pn:Bool)(pl:List Bs)(hq:Bool)(q:Bs)(hf:Bool)(fg:Bs)(bare sp:Bool)(rst:Bs)(bsc bus bpw:Bs)(bhk:Int)(bhs:Bs)(bhn:Int)(bhp:List Int)(bport:Int)(bopq bpn:Bool)(bpl:List Bs)(bhq:Bool)(bq:Bs)(bhf:Bool)(bfg:Bs):ag Tryz.prog aA 90 [.ptr 0 0,aE 1 (.ptr 1 0) sc us pw hk hs hn hp port opq pn pl hq q hf fg bare sp rst,bE 0 bsc bus bpw bhk bhs bhn bhp bport bopq bpn bpl bhq bq bhf bfg] ⟨rst.length≤300000∧pl.length≤100000,.tup [.tup [],aE 1 (.ptr 1 0) sc us pw hk hs hn hp port opq ((bC sp sc (ae rst (aF rst)) (pn,pl)).1) ((bC sp sc (ae rst (aF rst)) (pn,pl)).2) hq q hf fg bare sp (aa rst (aF rst)),bE 0 bsc bus bpw bhk bhs bhn bhp bport bopq bpn bpl bhq bq bhf bfg]⟩:=
 ag.bg (fun h=>by have e:List.isEmpty (PV.aB PV.bD [.ptr 0 0,aE 1 (.ptr 1 0) sc us pw hk hs hn hp port opq pn pl hq q hf fg bare sp rst,bE 0 bsc bus bpw bhk bhs bhn bhp bport bopq bpn bpl bhq bq bhf bfg])=false:=(by kernel_rfl);exact Bool.noConfusion (e.symm.trans (congrArg List.isEmpty h)))
  (eK (fun bp=>(aE 1 (.raw (.pointer bp)) sc us pw hk hs hn hp port opq pn pl hq q hf fg bare sp rst)) (fun bp=>(aE 1 (.raw (.pointer bp)) sc us pw hk hs hn hp port opq ((bC sp sc (ae rst (aF rst)) (pn,pl)).1) ((bC sp sc (ae rst (aF rst)) (pn,pl)).2) hq q hf fg bare sp (aa rst (aF rst)))) (fun bp=>tZ bp sc us pw hk hs hn hp port opq pn pl hq q hf fg bare sp rst) (fun bp=>rfl) (fun bp=>by
    show PV.agg [_,ofRaw bp (.raw (.pointer bp)),_,_,_]=_
    rw [eN];rfl) (fun bp=>rfl) rfl)
def od:List PV→Option aG:=fun xs=>match xs with
 |[.ptr 0 0,aE 1 (.ptr 1 0) sc us pw hk hs hn hp port opq pn pl hq q hf fg bare sp rst,bE 0 bsc bus bpw bhk bhs bhn bhp bport bopq bpn bpl bhq bq bhf bfg]=>some ⟨rst.length≤300000∧pl.length≤100000,.tup [.tup [],aE 1 (.ptr 1 0) sc us pw hk hs hn hp port opq ((bC sp sc (ae rst (aF rst)) (pn,pl)).1) ((bC sp sc (ae rst (aF rst)) (pn,pl)).2) hq q hf fg bare sp (aa rst (aF rst)),bE 0 bsc bus bpw bhk bhs bhn bhp bport bopq bpn bpl bhq bq bhf bfg]⟩
 |_=>none
theorem vJ:∀xs c,od xs=some c→ag Tryz.prog aA 90 xs c:=fun xs c h=>by
 unfold od at h
 split at h
 ·injection h with h;subst h;exact G9 _ _ _ _ _ _ _ _ _ _ _ _ _ _ _ _ _ _ _ _ _ _ _ _ _ _ _ _ _ _ _ _ _
 ·cases h
theorem Eb(sc us pw:Bs)(hk:Int)(hs:Bs)(hn:Int)(hp:List Int)(port:Int)(opq pn:Bool)(pl:List Bs)(hq:Bool)(q:Bs)(hf:Bool)(fg:Bs)(bare sp:Bool)(rst:Bs)(bsc bus bpw:Bs)(bhk:Int)(bhs:Bs)(bhn:Int)(bhp:List Int)(bport:Int)(bopq bpn:Bool)(bpl:List Bs)(bhq:Bool)(bq:Bs)(bhf:Bool)(bfg:Bs):ag Tryz.prog aA 91 [.ptr 0 0,aE 1 (.ptr 1 0) sc us pw hk hs hn hp port opq pn pl hq q hf fg bare sp rst,bE 0 bsc bus bpw bhk bhs bhn bhp bport bopq bpn bpl bhq bq bhf bfg] ⟨rst.length≤300000,.tup [.tup [],aE 1 (.ptr 1 0) sc us pw hk hs hn hp port opq pn pl (ee rst hq) (eh sp rst q) hf fg bare sp (bK rst),bE 0 bsc bus bpw bhk bhs bhn bhp bport bopq bpn bpl bhq bq bhf bfg]⟩:=
 ag.bg (fun h=>by have e:List.isEmpty (PV.aB PV.bD [.ptr 0 0,aE 1 (.ptr 1 0) sc us pw hk hs hn hp port opq pn pl hq q hf fg bare sp rst,bE 0 bsc bus bpw bhk bhs bhn bhp bport bopq bpn bpl bhq bq bhf bfg])=false:=(by kernel_rfl);exact Bool.noConfusion (e.symm.trans (congrArg List.isEmpty h)))
  (eK (fun bp=>(aE 1 (.raw (.pointer bp)) sc us pw hk hs hn hp port opq pn pl hq q hf fg bare sp rst)) (fun bp=>(aE 1 (.raw (.pointer bp)) sc us pw hk hs hn hp port opq pn pl (ee rst hq) (eh sp rst q) hf fg bare sp (bK rst))) (fun bp=>ry bp sc us pw hk hs hn hp port opq pn pl hq q hf fg bare sp rst) (fun bp=>rfl) (fun bp=>by
    show PV.agg [_,ofRaw bp (.raw (.pointer bp)),_,_,_]=_
    rw [eN];rfl) (fun bp=>rfl) rfl)
def lH:List PV→Option aG:=fun xs=>match xs with
 |[.ptr 0 0,aE 1 (.ptr 1 0) sc us pw hk hs hn hp port opq pn pl hq q hf fg bare sp rst,bE 0 bsc bus bpw bhk bhs bhn bhp bport bopq bpn bpl bhq bq bhf bfg]=>some ⟨rst.length≤300000,.tup [.tup [],aE 1 (.ptr 1 0) sc us pw hk hs hn hp port opq pn pl (ee rst hq) (eh sp rst q) hf fg bare sp (bK rst),bE 0 bsc bus bpw bhk bhs bhn bhp bport bopq bpn bpl bhq bq bhf bfg]⟩
 |_=>none
theorem sw:∀xs c,lH xs=some c→ag Tryz.prog aA 91 xs c:=fun xs c h=>by
 unfold lH at h
 split at h
 ·injection h with h;subst h;exact Eb _ _ _ _ _ _ _ _ _ _ _ _ _ _ _ _ _ _ _ _ _ _ _ _ _ _ _ _ _ _ _ _ _
 ·cases h
theorem vK(sc us pw:Bs)(hk:Int)(hs:Bs)(hn:Int)(hp:List Int)(port:Int)(opq pn:Bool)(pl:List Bs)(hq:Bool)(q:Bs)(hf:Bool)(fg:Bs)(bare sp:Bool)(rst:Bs)(bsc bus bpw:Bs)(bhk:Int)(bhs:Bs)(bhn:Int)(bhp:List Int)(bport:Int)(bopq bpn:Bool)(bpl:List Bs)(bhq:Bool)(bq:Bs)(bhf:Bool)(bfg:Bs):ag Tryz.prog aA 92 [.ptr 0 0,aE 1 (.ptr 1 0) sc us pw hk hs hn hp port opq pn pl hq q hf fg bare sp rst,bE 0 bsc bus bpw bhk bhs bhn bhp bport bopq bpn bpl bhq bq bhf bfg] ⟨rst.length≤300000,.tup [.tup [],aE 1 (.ptr 1 0) sc us pw hk hs hn hp port opq pn pl hq q (ei rst hf) (ej rst fg) bare sp (en rst),bE 0 bsc bus bpw bhk bhs bhn bhp bport bopq bpn bpl bhq bq bhf bfg]⟩:=
 ag.bg (fun h=>by have e:List.isEmpty (PV.aB PV.bD [.ptr 0 0,aE 1 (.ptr 1 0) sc us pw hk hs hn hp port opq pn pl hq q hf fg bare sp rst,bE 0 bsc bus bpw bhk bhs bhn bhp bport bopq bpn bpl bhq bq bhf bfg])=false:=(by kernel_rfl);exact Bool.noConfusion (e.symm.trans (congrArg List.isEmpty h)))
  (eK (fun bp=>(aE 1 (.raw (.pointer bp)) sc us pw hk hs hn hp port opq pn pl hq q hf fg bare sp rst)) (fun bp=>(aE 1 (.raw (.pointer bp)) sc us pw hk hs hn hp port opq pn pl hq q (ei rst hf) (ej rst fg) bare sp (en rst))) (fun bp=>kP bp sc us pw hk hs hn hp port opq pn pl hq q hf fg bare sp rst) (fun bp=>rfl) (fun bp=>by
    show PV.agg [_,ofRaw bp (.raw (.pointer bp)),_,_,_]=_
    rw [eN];rfl) (fun bp=>rfl) rfl)
def ik:List PV→Option aG:=fun xs=>match xs with
 |[.ptr 0 0,aE 1 (.ptr 1 0) sc us pw hk hs hn hp port opq pn pl hq q hf fg bare sp rst,bE 0 bsc bus bpw bhk bhs bhn bhp bport bopq bpn bpl bhq bq bhf bfg]=>some ⟨rst.length≤300000,.tup [.tup [],aE 1 (.ptr 1 0) sc us pw hk hs hn hp port opq pn pl hq q (ei rst hf) (ej rst fg) bare sp (en rst),bE 0 bsc bus bpw bhk bhs bhn bhp bport bopq bpn bpl bhq bq bhf bfg]⟩
 |_=>none
theorem oe:∀xs c,ik xs=some c→ag Tryz.prog aA 92 xs c:=fun xs c h=>by
 unfold ik at h
 split at h
 ·injection h with h;subst h;exact vK _ _ _ _ _ _ _ _ _ _ _ _ _ _ _ _ _ _ _ _ _ _ _ _ _ _ _ _ _ _ _ _ _
 ·cases h
end
section
def yh:cp:=bP []
def yi(sc us pw:Bs)(hk:Int)(hs:Bs)(hn:Int)(hp:List Int)(port:Int)(opq pn:Bool)(pl:List Bs)(hq:Bool)(q:Bs)(hf:Bool)(fg:Bs)(bare sp:Bool)(rst:Bs)(bsc bus bpw:Bs)(bhk:Int)(bhs:Bs)(bhn:Int)(bhp:List Int)(bport:Int)(bopq bpn:Bool)(bpl:List Bs)(bhq:Bool)(bq:Bs)(bhf:Bool)(bfg:Bs):ba:=fun i=>none
theorem yj:cR Tryz.prog aA yh:=ax
theorem Ec(sc us pw:Bs)(hk:Int)(hs:Bs)(hn:Int)(hp:List Int)(port:Int)(opq pn:Bool)(pl:List Bs)(hq:Bool)(q:Bs)(hf:Bool)(fg:Bs)(bare sp:Bool)(rst:Bs)(bsc bus bpw:Bs)(bhk:Int)(bhs:Bs)(bhn:Int)(bhp:List Int)(bport:Int)(bopq bpn:Bool)(bpl:List Bs)(bhq:Bool)(bq:Bs)(bhf:Bool)(bfg:Bs)(k:PV→List PV→Prop):bQ Tryz.prog yh aA (yi sc us pw hk hs hn hp port opq pn pl hq q hf fg bare sp rst bsc bus bpw bhk bhs bhn bhp bport bopq bpn bpl bhq bq bhf bfg) 1000 Tryz.f77 [.ptr 0 0] [aE 1 (.ptr 1 0) sc us pw hk hs hn hp port opq pn pl hq q hf fg bare sp rst,bE 0 bsc bus bpw bhk bhs bhn bhp bport bopq bpn bpl bhq bq bhf bfg] k=(
 k (PV.bool (decide (bsc=sc))) [bT (PV.ptr (1:Nat) (0:Nat)) 1 sc us pw hk hs hn hp port opq pn pl hq q hf fg bare sp rst,bE (0:Nat) bsc bus bpw bhk bhs bhn bhp bport bopq bpn bpl bhq bq bhf bfg]):=by kernel_rfl
attribute [local irreducible] Go.Vc.cB Go.Vc.bQ
theorem yk(sc us pw:Bs)(hk:Int)(hs:Bs)(hn:Int)(hp:List Int)(port:Int)(opq pn:Bool)(pl:List Bs)(hq:Bool)(q:Bs)(hf:Bool)(fg:Bs)(bare sp:Bool)(rst:Bs)(bsc bus bpw:Bs)(bhk:Int)(bhs:Bs)(bhn:Int)(bhp:List Int)(bport:Int)(bopq bpn:Bool)(bpl:List Bs)(bhq:Bool)(bq:Bs)(bhf:Bool)(bfg:Bs):bt Tryz.prog aA 77 [.ptr 0 0] [aE 1 (.ptr 1 0) sc us pw hk hs hn hp port opq pn pl hq q hf fg bare sp rst,bE 0 bsc bus bpw bhk bhs bhn bhp bport bopq bpn bpl bhq bq bhf bfg] (True) (.bool (decide (bsc=sc))) [aE 1 (.ptr 1 0) sc us pw hk hs hn hp port opq pn pl hq q hf fg bare sp rst,bE 0 bsc bus bpw bhk bhs bhn bhp bport bopq bpn bpl bhq bq bhf bfg]:=bG (by kernel_rfl) yj (H:=yi sc us pw hk hs hn hp port opq pn pl hq q hf fg bare sp rst bsc bus bpw bhk bhs bhn bhp bport bopq bpn bpl bhq bq bhf bfg) (fuel:=1000) Tryz.func77 (by kernel_rfl) (Nat.le_of_ble_eq_true rfl) fun hpre=>(Ec sc us pw hk hs hn hp port opq pn pl hq q hf fg bare sp rst bsc bus bpw bhk bhs bhn bhp bport bopq bpn bpl bhq bq bhf bfg _).mpr (by
 exact ⟨rfl,rfl⟩)
theorem Ed(sc us pw:Bs)(hk:Int)(hs:Bs)(hn:Int)(hp:List Int)(port:Int)(opq pn:Bool)(pl:List Bs)(hq:Bool)(q:Bs)(hf:Bool)(fg:Bs)(bare sp:Bool)(rst:Bs)(bsc bus bpw:Bs)(bhk:Int)(bhs:Bs)(bhn:Int)(bhp:List Int)(bport:Int)(bopq bpn:Bool)(bpl:List Bs)(bhq:Bool)(bq:Bs)(bhf:Bool)(bfg:Bs):ag Tryz.prog aA 77 [.ptr 0 0,aE 1 (.ptr 1 0) sc us pw hk hs hn hp port opq pn pl hq q hf fg bare sp rst,bE 0 bsc bus bpw bhk bhs bhn bhp bport bopq bpn bpl bhq bq bhf bfg] ⟨True,.tup [.bool (decide (bsc=sc)),aE 1 (.ptr 1 0) sc us pw hk hs hn hp port opq pn pl hq q hf fg bare sp rst,bE 0 bsc bus bpw bhk bhs bhn bhp bport bopq bpn bpl bhq bq bhf bfg]⟩:=ag.bg (fun h=>by have e:List.isEmpty (PV.aB PV.bD [.ptr 0 0,aE 1 (.ptr 1 0) sc us pw hk hs hn hp port opq pn pl hq q hf fg bare sp rst,bE 0 bsc bus bpw bhk bhs bhn bhp bport bopq bpn bpl bhq bq bhf bfg])=false:=(by kernel_rfl);exact Bool.noConfusion (e.symm.trans (congrArg List.isEmpty h))) (yk sc us pw hk hs hn hp port opq pn pl hq q hf fg bare sp rst bsc bus bpw bhk bhs bhn bhp bport bopq bpn bpl bhq bq bhf bfg)
end
section
def mQ:cp:=bP []
def mR(sc us pw:Bs)(hk:Int)(hs:Bs)(hn:Int)(hp:List Int)(port:Int)(opq pn:Bool)(pl:List Bs)(hq:Bool)(q:Bs)(hf:Bool)(fg:Bs)(bare sp:Bool)(rst:Bs)(bsc bus bpw:Bs)(bhk:Int)(bhs:Bs)(bhn:Int)(bhp:List Int)(bport:Int)(bopq bpn:Bool)(bpl:List Bs)(bhq:Bool)(bq:Bs)(bhf:Bool)(bfg:Bs):ba:=fun i=>none
theorem pv:cR Tryz.prog aA mQ:=ax
theorem sx(sc us pw:Bs)(hk:Int)(hs:Bs)(hn:Int)(hp:List Int)(port:Int)(opq pn:Bool)(pl:List Bs)(hq:Bool)(q:Bs)(hf:Bool)(fg:Bs)(bare sp:Bool)(rst:Bs)(bsc bus bpw:Bs)(bhk:Int)(bhs:Bs)(bhn:Int)(bhp:List Int)(bport:Int)(bopq bpn:Bool)(bpl:List Bs)(bhq:Bool)(bq:Bs)(bhf:Bool)(bfg:Bs)(k:PV→List PV→Prop):bQ Tryz.prog mQ aA (mR sc us pw hk hs hn hp port opq pn pl hq q hf fg bare sp rst bsc bus bpw bhk bhs bhn bhp bport bopq bpn bpl bhq bq bhf bfg) 1000 Tryz.f120 [.ptr 0 0] [aE 1 (.ptr 1 0) sc us pw hk hs hn hp port opq pn pl hq q hf fg bare sp rst,bE 0 bsc bus bpw bhk bhs bhn bhp bport bopq bpn bpl bhq bq bhf bfg] k=(
 k (PV.tup []) [bT (PV.ptr (1:Nat) (0:Nat)) 1 sc us pw hk hs hn hp port opq pn pl bhq bq hf fg bare sp rst,bE (0:Nat) bsc bus bpw bhk bhs bhn bhp bport bopq bpn bpl bhq bq bhf bfg]):=by kernel_rfl
attribute [local irreducible] Go.Vc.cB Go.Vc.bQ
theorem py(sc us pw:Bs)(hk:Int)(hs:Bs)(hn:Int)(hp:List Int)(port:Int)(opq pn:Bool)(pl:List Bs)(hq:Bool)(q:Bs)(hf:Bool)(fg:Bs)(bare sp:Bool)(rst:Bs)(bsc bus bpw:Bs)(bhk:Int)(bhs:Bs)(bhn:Int)(bhp:List Int)(bport:Int)(bopq bpn:Bool)(bpl:List Bs)(bhq:Bool)(bq:Bs)(bhf:Bool)(bfg:Bs):bt Tryz.prog aA 120 [.ptr 0 0] [aE 1 (.ptr 1 0) sc us pw hk hs hn hp port opq pn pl hq q hf fg bare sp rst,bE 0 bsc bus bpw bhk bhs bhn bhp bport bopq bpn bpl bhq bq bhf bfg] (True) (.tup []) [aE 1 (.ptr 1 0) sc us pw hk hs hn hp port opq pn pl bhq bq hf fg bare sp rst,bE 0 bsc bus bpw bhk bhs bhn bhp bport bopq bpn bpl bhq bq bhf bfg]:=bG (by kernel_rfl) pv (H:=mR sc us pw hk hs hn hp port opq pn pl hq q hf fg bare sp rst bsc bus bpw bhk bhs bhn bhp bport bopq bpn bpl bhq bq bhf bfg) (fuel:=1000) Tryz.func120 (by kernel_rfl) (Nat.le_of_ble_eq_true rfl) fun hpre=>(sx sc us pw hk hs hn hp port opq pn pl hq q hf fg bare sp rst bsc bus bpw bhk bhs bhn bhp bport bopq bpn bpl bhq bq bhf bfg _).mpr (by
 exact ⟨rfl,rfl⟩)
theorem sy(sc us pw:Bs)(hk:Int)(hs:Bs)(hn:Int)(hp:List Int)(port:Int)(opq pn:Bool)(pl:List Bs)(hq:Bool)(q:Bs)(hf:Bool)(fg:Bs)(bare sp:Bool)(rst:Bs)(bsc bus bpw:Bs)(bhk:Int)(bhs:Bs)(bhn:Int)(bhp:List Int)(bport:Int)(bopq bpn:Bool)(bpl:List Bs)(bhq:Bool)(bq:Bs)(bhf:Bool)(bfg:Bs):ag Tryz.prog aA 120 [.ptr 0 0,aE 1 (.ptr 1 0) sc us pw hk hs hn hp port opq pn pl hq q hf fg bare sp rst,bE 0 bsc bus bpw bhk bhs bhn bhp bport bopq bpn bpl bhq bq bhf bfg] ⟨True,.tup [.tup [],aE 1 (.ptr 1 0) sc us pw hk hs hn hp port opq pn pl bhq bq hf fg bare sp rst,bE 0 bsc bus bpw bhk bhs bhn bhp bport bopq bpn bpl bhq bq bhf bfg]⟩:=ag.bg (fun h=>by have e:List.isEmpty (PV.aB PV.bD [.ptr 0 0,aE 1 (.ptr 1 0) sc us pw hk hs hn hp port opq pn pl hq q hf fg bare sp rst,bE 0 bsc bus bpw bhk bhs bhn bhp bport bopq bpn bpl bhq bq bhf bfg])=false:=(by kernel_rfl);exact Bool.noConfusion (e.symm.trans (congrArg List.isEmpty h))) (py sc us pw hk hs hn hp port opq pn pl hq q hf fg bare sp rst bsc bus bpw bhk bhs bhn bhp bport bopq bpn bpl bhq bq bhf bfg)
def gO:List PV→Option aG:=fun xs=>match xs with
 |[.ptr 0 0,aE 1 (.ptr 1 0) sc us pw hk hs hn hp port opq pn pl hq q hf fg bare sp rst,bE 0 bsc bus bpw bhk bhs bhn bhp bport bopq bpn bpl bhq bq bhf bfg]=>some ⟨True,.tup [.tup [],aE 1 (.ptr 1 0) sc us pw hk hs hn hp port opq pn pl bhq bq hf fg bare sp rst,bE 0 bsc bus bpw bhk bhs bhn bhp bport bopq bpn bpl bhq bq bhf bfg]⟩
 |_=>none
theorem mS:∀xs c,gO xs=some c→ag Tryz.prog aA 120 xs c:=fun xs c h=>by
 unfold gO at h
 split at h
 ·injection h with h;subst h;exact sy _ _ _ _ _ _ _ _ _ _ _ _ _ _ _ _ _ _ _ _ _ _ _ _ _ _ _ _ _ _ _ _ _
 ·cases h
end
section
def yl:cp:=bP [(120,gO),(89,j7)]
def ym(sc us pw:Bs)(hk:Int)(hs:Bs)(hn:Int)(hp:List Int)(port:Int)(opq pn:Bool)(pl:List Bs)(hq:Bool)(q:Bs)(hf:Bool)(fg:Bs)(bare sp:Bool)(rst:Bs)(bsc bus bpw:Bs)(bhk:Int)(bhs:Bs)(bhn:Int)(bhp:List Int)(bport:Int)(bopq bpn:Bool)(bpl:List Bs)(bhq:Bool)(bq:Bs)(bhf:Bool)(bfg:Bs):ba:=fun i=>none
theorem yn:cR Tryz.prog aA yl:=ai mS (ai rD (ax))
theorem Ee(sc us pw:Bs)(hk:Int)(hs:Bs)(hn:Int)(hp:List Int)(port:Int)(opq pn:Bool)(pl:List Bs)(hq:Bool)(q:Bs)(hf:Bool)(fg:Bs)(bare sp:Bool)(rst:Bs)(bsc bus bpw:Bs)(bhk:Int)(bhs:Bs)(bhn:Int)(bhp:List Int)(bport:Int)(bopq bpn:Bool)(bpl:List Bs)(bhq:Bool)(bq:Bs)(bhf:Bool)(bfg:Bs)(k:PV→List PV→Prop):bQ Tryz.prog yl aA (ym sc us pw hk hs hn hp port opq pn pl hq q hf fg bare sp rst bsc bus bpw bhk bhs bhn bhp bport bopq bpn bpl bhq bq bhf bfg) 1000 Tryz.f86 [.ptr 0 0] [aE 1 (.ptr 1 0) sc us pw hk hs hn hp port opq pn pl hq q hf fg bare sp rst,bE 0 bsc bus bpw bhk bhs bhn bhp bport bopq bpn bpl bhq bq bhf bfg] k=(
 (decide (rst=(ByteArray.mk #[]).data.toList)=false→
 within (0:Int) (ak rst))∧
 ((bif decide (rst=(ByteArray.mk #[]).data.toList)then true else decide (al rst (0:Int)=(35:Int)))=true→
 True∧
 True∧
 k (PV.bool (bz rst)) [bT (PV.ptr (1:Nat) (0:Nat)) 1 sc us pw hk hs hn hp port opq pn pl bhq bq hf fg bare sp rst,bE (0:Nat) bsc bus bpw bhk bhs bhn bhp bport bopq bpn bpl bhq bq bhf bfg])∧
 ((bif decide (rst=(ByteArray.mk #[]).data.toList)then true else decide (al rst (0:Int)=(35:Int)))=false→
 True∧
 k (PV.bool (bz rst)) [bT (PV.ptr (1:Nat) (0:Nat)) 1 sc us pw hk hs hn hp port opq pn pl hq q hf fg bare sp rst,bE (0:Nat) bsc bus bpw bhk bhs bhn bhp bport bopq bpn bpl bhq bq bhf bfg])):=by kernel_rfl
attribute [local irreducible] Go.Vc.cB Go.Vc.bQ
theorem yo(sc us pw:Bs)(hk:Int)(hs:Bs)(hn:Int)(hp:List Int)(port:Int)(opq pn:Bool)(pl:List Bs)(hq:Bool)(q:Bs)(hf:Bool)(fg:Bs)(bare sp:Bool)(rst:Bs)(bsc bus bpw:Bs)(bhk:Int)(bhs:Bs)(bhn:Int)(bhp:List Int)(bport:Int)(bopq bpn:Bool)(bpl:List Bs)(bhq:Bool)(bq:Bs)(bhf:Bool)(bfg:Bs):bt Tryz.prog aA 86 [.ptr 0 0] [aE 1 (.ptr 1 0) sc us pw hk hs hn hp port opq pn pl hq q hf fg bare sp rst,bE 0 bsc bus bpw bhk bhs bhn bhp bport bopq bpn bpl bhq bq bhf bfg] (True) (.bool (bz rst)) [aE 1 (.ptr 1 0) sc us pw hk hs hn hp port opq pn pl (((RS.mk sc us pw hk hs hn hp port opq pn pl hq q hf fg bare sp rst).qZ (RS.mk bsc bus bpw bhk bhs bhn bhp bport bopq bpn bpl bhq bq bhf bfg false false [])).hq) (((RS.mk sc us pw hk hs hn hp port opq pn pl hq q hf fg bare sp rst).qZ (RS.mk bsc bus bpw bhk bhs bhn bhp bport bopq bpn bpl bhq bq bhf bfg false false [])).q) hf fg bare sp rst,bE 0 bsc bus bpw bhk bhs bhn bhp bport bopq bpn bpl bhq bq bhf bfg]:=bG (by kernel_rfl) yn (H:=ym sc us pw hk hs hn hp port opq pn pl hq q hf fg bare sp rst bsc bus bpw bhk bhs bhn bhp bport bopq bpn bpl bhq bq bhf bfg) (fuel:=1000) Tryz.func86 (by kernel_rfl) (Nat.le_of_ble_eq_true rfl) fun hpre=>(Ee sc us pw hk hs hn hp port opq pn pl hq q hf fg bare sp rst bsc bus bpw bhk bhs bhn bhp bport bopq bpn bpl bhq bq bhf bfg _).mpr (by
 refine ⟨fun h=>?_,fun h=>⟨trivial,trivial,?_⟩,fun h=>⟨trivial,?_⟩⟩
 ·have:¬rst=[]:=of_decide_eq_false h
  have:0<rst.length:=List.length_pos_iff.2 this
  unfold within ak;omega
 ·have h2:tQ rst=true:=by
   unfold tQ
   cases e:decide (rst=(ByteArray.mk #[]).data.toList)with
   |true=>rfl
   |false=>rw [e]at h;exact h
  have e:(RS.mk sc us pw hk hs hn hp port opq pn pl hq q hf fg bare sp rst).qZ (RS.mk bsc bus bpw bhk bhs bhn bhp bport bopq bpn bpl bhq bq bhf bfg false false [])=(RS.mk sc us pw hk hs hn hp port opq pn pl hq q hf fg bare sp rst).Gu (RS.mk bsc bus bpw bhk bhs bhn bhp bport bopq bpn bpl bhq bq bhf bfg false false []):=if_pos h2
  rw [e];exact ⟨rfl,rfl⟩
 ·have h2:¬tQ rst=true:=by
   unfold tQ
   cases e:decide (rst=(ByteArray.mk #[]).data.toList)with
   |true=>rw [e]at h;cases h
   |false=>
    rw [e]at h
    intro g;exact Bool.noConfusion (g.symm.trans h)
  have e:(RS.mk sc us pw hk hs hn hp port opq pn pl hq q hf fg bare sp rst).qZ (RS.mk bsc bus bpw bhk bhs bhn bhp bport bopq bpn bpl bhq bq bhf bfg false false [])=(RS.mk sc us pw hk hs hn hp port opq pn pl hq q hf fg bare sp rst):=if_neg h2
  rw [e];exact ⟨rfl,rfl⟩)
theorem Ef(sc us pw:Bs)(hk:Int)(hs:Bs)(hn:Int)(hp:List Int)(port:Int)(opq pn:Bool)(pl:List Bs)(hq:Bool)(q:Bs)(hf:Bool)(fg:Bs)(bare sp:Bool)(rst:Bs)(bsc bus bpw:Bs)(bhk:Int)(bhs:Bs)(bhn:Int)(bhp:List Int)(bport:Int)(bopq bpn:Bool)(bpl:List Bs)(bhq:Bool)(bq:Bs)(bhf:Bool)(bfg:Bs):ag Tryz.prog aA 86 [.ptr 0 0,aE 1 (.ptr 1 0) sc us pw hk hs hn hp port opq pn pl hq q hf fg bare sp rst,bE 0 bsc bus bpw bhk bhs bhn bhp bport bopq bpn bpl bhq bq bhf bfg] ⟨True,.tup [.bool (bz rst),aE 1 (.ptr 1 0) sc us pw hk hs hn hp port opq pn pl (((RS.mk sc us pw hk hs hn hp port opq pn pl hq q hf fg bare sp rst).qZ (RS.mk bsc bus bpw bhk bhs bhn bhp bport bopq bpn bpl bhq bq bhf bfg false false [])).hq) (((RS.mk sc us pw hk hs hn hp port opq pn pl hq q hf fg bare sp rst).qZ (RS.mk bsc bus bpw bhk bhs bhn bhp bport bopq bpn bpl bhq bq bhf bfg false false [])).q) hf fg bare sp rst,bE 0 bsc bus bpw bhk bhs bhn bhp bport bopq bpn bpl bhq bq bhf bfg]⟩:=ag.bg (fun h=>by have e:List.isEmpty (PV.aB PV.bD [.ptr 0 0,aE 1 (.ptr 1 0) sc us pw hk hs hn hp port opq pn pl hq q hf fg bare sp rst,bE 0 bsc bus bpw bhk bhs bhn bhp bport bopq bpn bpl bhq bq bhf bfg])=false:=(by kernel_rfl);exact Bool.noConfusion (e.symm.trans (congrArg List.isEmpty h))) (yo sc us pw hk hs hn hp port opq pn pl hq q hf fg bare sp rst bsc bus bpw bhk bhs bhn bhp bport bopq bpn bpl bhq bq bhf bfg)
end
section
attribute [local instance] Lc
theorem Eg {x:RS}(b:RS)(h:bz x.rst=false):x.qZ b=x:=by
 refine if_neg fun g=>?_
 unfold bz at h
 unfold tQ at g
 rw [Bool.or_eq_false_iff,Bool.or_eq_false_iff]at h
 rw [h.1,h.2.2]at g;cases g
theorem AM(sc us pw:Bs)(hk:Int)(hs:Bs)(hn:Int)(hp:List Int)(port:Int)(opq pn:Bool)(pl:List Bs)(hq:Bool)(q:Bs)(hf:Bool)(fg:Bs)(bare sp:Bool)(rst:Bs)(at_:Int)(bsc bus bpw:Bs)(bhk:Int)(bhs:Bs)(bhn:Int)(bhp:List Int)(bport:Int)(bopq bpn:Bool)(bpl:List Bs)(bhq:Bool)(bq:Bs)(bhf:Bool)(bfg:Bs):ag Tryz.prog aA 82 [.ptr 0 0,.int .i64 at_,aE 1 (.ptr 1 0) sc us pw hk hs hn hp port opq pn pl hq q hf fg bare sp rst,bE 0 bsc bus bpw bhk bhs bhn bhp bport bopq bpn bpl bhq bq bhf bfg] ⟨(0≤at_∧at_<1000)∧az sp rst at_=false,.tup [.bool false,aE 1 (.ptr 1 0) sc us pw hk hs hn hp port opq pn pl hq q hf fg bare sp rst,bE 0 bsc bus bpw bhk bhs bhn bhp bport bopq bpn bpl bhq bq bhf bfg]⟩:=
 ag.LN (Ea sc us pw hk hs hn hp port opq pn pl hq q hf fg bare sp rst at_ bsc bus bpw bhk bhs bhn bhp bport bopq bpn bpl bhq bq bhf bfg) (fun h=>by have e:List.isEmpty (PV.aB PV.bD [.ptr 0 0,.int .i64 at_,aE 1 (.ptr 1 0) sc us pw hk hs hn hp port opq pn pl hq q hf fg bare sp rst,bE 0 bsc bus bpw bhk bhs bhn bhp bport bopq bpn bpl bhq bq bhf bfg])=false:=(by kernel_rfl);exact Bool.noConfusion (e.symm.trans (congrArg List.isEmpty h))) (fun h=>h.1) (fun h=>by rw [h.2])
def j8:List PV→Option aG:=fun xs=>match xs with
 |[.ptr 0 0,.int .i64 at_,aE 1 (.ptr 1 0) sc us pw hk hs hn hp port opq pn pl hq q hf fg bare sp rst,bE 0 bsc bus bpw bhk bhs bhn bhp bport bopq bpn bpl bhq bq bhf bfg]=>some ⟨(0≤at_∧at_<1000)∧az sp rst at_=false,.tup [.bool false,aE 1 (.ptr 1 0) sc us pw hk hs hn hp port opq pn pl hq q hf fg bare sp rst,bE 0 bsc bus bpw bhk bhs bhn bhp bport bopq bpn bpl bhq bq bhf bfg]⟩
 |_=>none
theorem rE:∀xs c,j8 xs=some c→ag Tryz.prog aA 82 xs c:=fun xs c h=>by
 unfold j8 at h
 split at h
 ·injection h with h;subst h;exact AM _ _ _ _ _ _ _ _ _ _ _ _ _ _ _ _ _ _ _ _ _ _ _ _ _ _ _ _ _ _ _ _ _ _
 ·cases h
theorem rF(sc us pw:Bs)(hk:Int)(hs:Bs)(hn:Int)(hp:List Int)(port:Int)(opq pn:Bool)(pl:List Bs)(hq:Bool)(q:Bs)(hf:Bool)(fg:Bs)(bare sp:Bool)(rst:Bs)(bsc bus bpw:Bs)(bhk:Int)(bhs:Bs)(bhn:Int)(bhp:List Int)(bport:Int)(bopq bpn:Bool)(bpl:List Bs)(bhq:Bool)(bq:Bs)(bhf:Bool)(bfg:Bs):ag Tryz.prog aA 84 [.ptr 0 0,aE 1 (.ptr 1 0) sc us pw hk hs hn hp port opq pn pl hq q hf fg bare sp rst,bE 0 bsc bus bpw bhk bhs bhn bhp bport bopq bpn bpl bhq bq bhf bfg] ⟨az sp rst 0=false,.tup [.bool false,aE 1 (.ptr 1 0) sc us pw hk hs hn hp port opq pn pl hq q hf fg bare sp rst,bE 0 bsc bus bpw bhk bhs bhn bhp bport bopq bpn bpl bhq bq bhf bfg]⟩:=
 ag.LN (su sc us pw hk hs hn hp port opq pn pl hq q hf fg bare sp rst bsc bus bpw bhk bhs bhn bhp bport bopq bpn bpl bhq bq bhf bfg) (fun h=>by have e:List.isEmpty (PV.aB PV.bD [.ptr 0 0,aE 1 (.ptr 1 0) sc us pw hk hs hn hp port opq pn pl hq q hf fg bare sp rst,bE 0 bsc bus bpw bhk bhs bhn bhp bport bopq bpn bpl bhq bq bhf bfg])=false:=(by kernel_rfl);exact Bool.noConfusion (e.symm.trans (congrArg List.isEmpty h))) (fun h=>trivial) (fun h=>by rw [h];rfl)
def gh:List PV→Option aG:=fun xs=>match xs with
 |[.ptr 0 0,aE 1 (.ptr 1 0) sc us pw hk hs hn hp port opq pn pl hq q hf fg bare sp rst,bE 0 bsc bus bpw bhk bhs bhn bhp bport bopq bpn bpl bhq bq bhf bfg]=>some ⟨az sp rst 0=false,.tup [.bool false,aE 1 (.ptr 1 0) sc us pw hk hs hn hp port opq pn pl hq q hf fg bare sp rst,bE 0 bsc bus bpw bhk bhs bhn bhp bport bopq bpn bpl bhq bq bhf bfg]⟩
 |_=>none
theorem lI:∀xs c,gh xs=some c→ag Tryz.prog aA 84 xs c:=fun xs c h=>by
 unfold gh at h
 split at h
 ·injection h with h;subst h;exact rF _ _ _ _ _ _ _ _ _ _ _ _ _ _ _ _ _ _ _ _ _ _ _ _ _ _ _ _ _ _ _ _ _
 ·cases h
theorem AN(sc us pw:Bs)(hk:Int)(hs:Bs)(hn:Int)(hp:List Int)(port:Int)(opq pn:Bool)(pl:List Bs)(hq:Bool)(q:Bs)(hf:Bool)(fg:Bs)(bare sp:Bool)(rst:Bs)(bsc bus bpw:Bs)(bhk:Int)(bhs:Bs)(bhn:Int)(bhp:List Int)(bport:Int)(bopq bpn:Bool)(bpl:List Bs)(bhq:Bool)(bq:Bs)(bhf:Bool)(bfg:Bs):ag Tryz.prog aA 77 [.ptr 0 0,aE 1 (.ptr 1 0) sc us pw hk hs hn hp port opq pn pl hq q hf fg bare sp rst,bE 0 bsc bus bpw bhk bhs bhn bhp bport bopq bpn bpl bhq bq bhf bfg] ⟨bsc=sc,.tup [.bool true,aE 1 (.ptr 1 0) sc us pw hk hs hn hp port opq pn pl hq q hf fg bare sp rst,bE 0 bsc bus bpw bhk bhs bhn bhp bport bopq bpn bpl bhq bq bhf bfg]⟩:=
 ag.LN (Ed sc us pw hk hs hn hp port opq pn pl hq q hf fg bare sp rst bsc bus bpw bhk bhs bhn bhp bport bopq bpn bpl bhq bq bhf bfg) (fun h=>by have e:List.isEmpty (PV.aB PV.bD [.ptr 0 0,aE 1 (.ptr 1 0) sc us pw hk hs hn hp port opq pn pl hq q hf fg bare sp rst,bE 0 bsc bus bpw bhk bhs bhn bhp bport bopq bpn bpl bhq bq bhf bfg])=false:=(by kernel_rfl);exact Bool.noConfusion (e.symm.trans (congrArg List.isEmpty h))) (fun h=>trivial) (fun h=>by rw [decide_eq_true h])
def hH:List PV→Option aG:=fun xs=>match xs with
 |[.ptr 0 0,aE 1 (.ptr 1 0) sc us pw hk hs hn hp port opq pn pl hq q hf fg bare sp rst,bE 0 bsc bus bpw bhk bhs bhn bhp bport bopq bpn bpl bhq bq bhf bfg]=>some ⟨bsc=sc,.tup [.bool true,aE 1 (.ptr 1 0) sc us pw hk hs hn hp port opq pn pl hq q hf fg bare sp rst,bE 0 bsc bus bpw bhk bhs bhn bhp bport bopq bpn bpl bhq bq bhf bfg]⟩
 |_=>none
theorem j9:∀xs c,hH xs=some c→ag Tryz.prog aA 77 xs c:=fun xs c h=>by
 unfold hH at h
 split at h
 ·injection h with h;subst h;exact AN _ _ _ _ _ _ _ _ _ _ _ _ _ _ _ _ _ _ _ _ _ _ _ _ _ _ _ _ _ _ _ _ _
 ·cases h
theorem Eh(sc us pw:Bs)(hk:Int)(hs:Bs)(hn:Int)(hp:List Int)(port:Int)(opq pn:Bool)(pl:List Bs)(hq:Bool)(q:Bs)(hf:Bool)(fg:Bs)(bare sp:Bool)(rst:Bs)(bsc bus bpw:Bs)(bhk:Int)(bhs:Bs)(bhn:Int)(bhp:List Int)(bport:Int)(bopq bpn:Bool)(bpl:List Bs)(bhq:Bool)(bq:Bs)(bhf:Bool)(bfg:Bs):ag Tryz.prog aA 86 [.ptr 0 0,aE 1 (.ptr 1 0) sc us pw hk hs hn hp port opq pn pl hq q hf fg bare sp rst,bE 0 bsc bus bpw bhk bhs bhn bhp bport bopq bpn bpl bhq bq bhf bfg] ⟨bz rst=false,.tup [.bool false,aE 1 (.ptr 1 0) sc us pw hk hs hn hp port opq pn pl hq q hf fg bare sp rst,bE 0 bsc bus bpw bhk bhs bhn bhp bport bopq bpn bpl bhq bq bhf bfg]⟩:=
 ag.LN (Ef sc us pw hk hs hn hp port opq pn pl hq q hf fg bare sp rst bsc bus bpw bhk bhs bhn bhp bport bopq bpn bpl bhq bq bhf bfg) (fun h=>by have e:List.isEmpty (PV.aB PV.bD [.ptr 0 0,aE 1 (.ptr 1 0) sc us pw hk hs hn hp port opq pn pl hq q hf fg bare sp rst,bE 0 bsc bus bpw bhk bhs bhn bhp bport bopq bpn bpl bhq bq bhf bfg])=false:=(by kernel_rfl);exact Bool.noConfusion (e.symm.trans (congrArg List.isEmpty h))) (fun h=>trivial) (fun h=>by rw [Eg (x:=(RS.mk sc us pw hk hs hn hp port opq pn pl hq q hf fg bare sp rst)) (RS.mk bsc bus bpw bhk bhs bhn bhp bport bopq bpn bpl bhq bq bhf bfg false false []) h,h])
def lJ:List PV→Option aG:=fun xs=>match xs with
 |[.ptr 0 0,aE 1 (.ptr 1 0) sc us pw hk hs hn hp port opq pn pl hq q hf fg bare sp rst,bE 0 bsc bus bpw bhk bhs bhn bhp bport bopq bpn bpl bhq bq bhf bfg]=>some ⟨bz rst=false,.tup [.bool false,aE 1 (.ptr 1 0) sc us pw hk hs hn hp port opq pn pl hq q hf fg bare sp rst,bE 0 bsc bus bpw bhk bhs bhn bhp bport bopq bpn bpl bhq bq bhf bfg]⟩
 |_=>none
theorem sA:∀xs c,lJ xs=some c→ag Tryz.prog aA 86 xs c:=fun xs c h=>by
 unfold lJ at h
 split at h
 ·injection h with h;subst h;exact Eh _ _ _ _ _ _ _ _ _ _ _ _ _ _ _ _ _ _ _ _ _ _ _ _ _ _ _ _ _ _ _ _ _
 ·cases h
end
section
def ub:cp:=bP [(156,vo),(87,js)]
def uc(sc us pw:Bs)(hk:Int)(hs:Bs)(hn:Int)(hp:List Int)(port:Int)(opq pn:Bool)(pl:List Bs)(hq:Bool)(q:Bs)(hf:Bool)(fg:Bs)(bare sp:Bool)(rst:Bs)(bsc bus bpw:Bs)(bhk:Int)(bhs:Bs)(bhn:Int)(bhp:List Int)(bport:Int)(bopq bpn:Bool)(bpl:List Bs)(bhq:Bool)(bq:Bs)(bhf:Bool)(bfg:Bs):ba:=fun i=>none
theorem vL:cR Tryz.prog aA ub:=ai Aq (ai pr (ax))
theorem AO(sc us pw:Bs)(hk:Int)(hs:Bs)(hn:Int)(hp:List Int)(port:Int)(opq pn:Bool)(pl:List Bs)(hq:Bool)(q:Bs)(hf:Bool)(fg:Bs)(bare sp:Bool)(rst:Bs)(bsc bus bpw:Bs)(bhk:Int)(bhs:Bs)(bhn:Int)(bhp:List Int)(bport:Int)(bopq bpn:Bool)(bpl:List Bs)(bhq:Bool)(bq:Bs)(bhf:Bool)(bfg:Bs)(k:PV→List PV→Prop):bQ Tryz.prog ub aA (uc sc us pw hk hs hn hp port opq pn pl hq q hf fg bare sp rst bsc bus bpw bhk bhs bhn bhp bport bopq bpn bpl bhq bq bhf bfg) 1000 Tryz.f122 [.ptr 0 0] [aE 1 (.ptr 1 0) sc us pw hk hs hn hp port opq pn pl hq q hf fg bare sp rst,bE 0 bsc bus bpw bhk bhs bhn bhp bport bopq bpn bpl bhq bq bhf bfg] k=(
 (List.length rst).le (1000000:Nat)∧
 (bw rst=true→
 k (PV.tup []) [bT (PV.ptr (1:Nat) (0:Nat)) 0 sc us pw hk hs hn hp port opq true ([]) hq q hf fg bare sp rst,bE (0:Nat) bsc bus bpw bhk bhs bhn bhp bport bopq bpn bpl bhq bq bhf bfg])∧
 (bw rst=false→
 pl.length.le (1000000:Nat)∧
 k (PV.tup []) [bT (PV.ptr (1:Nat) (0:Nat)) 1 sc us pw hk hs hn hp port opq ((b6 sc (pn,pl)).1) ((b6 sc (pn,pl)).2) hq q hf fg bare sp rst,bE (0:Nat) bsc bus bpw bhk bhs bhn bhp bport bopq bpn bpl bhq bq bhf bfg])):=by kernel_rfl
attribute [local irreducible] Go.Vc.cB Go.Vc.bQ
theorem vM(sc us pw:Bs)(hk:Int)(hs:Bs)(hn:Int)(hp:List Int)(port:Int)(opq pn:Bool)(pl:List Bs)(hq:Bool)(q:Bs)(hf:Bool)(fg:Bs)(bare sp:Bool)(rst:Bs)(bsc bus bpw:Bs)(bhk:Int)(bhs:Bs)(bhn:Int)(bhp:List Int)(bport:Int)(bopq bpn:Bool)(bpl:List Bs)(bhq:Bool)(bq:Bs)(bhf:Bool)(bfg:Bs):bt Tryz.prog aA 122 [.ptr 0 0] [aE 1 (.ptr 1 0) sc us pw hk hs hn hp port opq pn pl hq q hf fg bare sp rst,bE 0 bsc bus bpw bhk bhs bhn bhp bport bopq bpn bpl bhq bq bhf bfg] (rst.length≤300000∧pl.length≤1000000∧bw rst=false) (.tup []) [aE 1 (.ptr 1 0) sc us pw hk hs hn hp port opq (((RS.mk sc us pw hk hs hn hp port opq pn pl hq q hf fg bare sp rst).short).pn) (((RS.mk sc us pw hk hs hn hp port opq pn pl hq q hf fg bare sp rst).short).pl) hq q hf fg bare sp rst,bE 0 bsc bus bpw bhk bhs bhn bhp bport bopq bpn bpl bhq bq bhf bfg]:=bG (by kernel_rfl) vL (H:=uc sc us pw hk hs hn hp port opq pn pl hq q hf fg bare sp rst bsc bus bpw bhk bhs bhn bhp bport bopq bpn bpl bhq bq bhf bfg) (fuel:=1000) Tryz.func122 (by kernel_rfl) (Nat.le_of_ble_eq_true rfl) fun hpre=>(AO sc us pw hk hs hn hp port opq pn pl hq q hf fg bare sp rst bsc bus bpw bhk bhs bhn bhp bport bopq bpn bpl bhq bq bhf bfg _).mpr (by
 obtain ⟨h1,h2,h3⟩:=hpre
 exact ⟨show rst.length≤1000000 by omega,fun h=>absurd (h.symm.trans h3) nofun,fun _=>⟨h2,rfl,rfl⟩⟩)
theorem AP(sc us pw:Bs)(hk:Int)(hs:Bs)(hn:Int)(hp:List Int)(port:Int)(opq pn:Bool)(pl:List Bs)(hq:Bool)(q:Bs)(hf:Bool)(fg:Bs)(bare sp:Bool)(rst:Bs)(bsc bus bpw:Bs)(bhk:Int)(bhs:Bs)(bhn:Int)(bhp:List Int)(bport:Int)(bopq bpn:Bool)(bpl:List Bs)(bhq:Bool)(bq:Bs)(bhf:Bool)(bfg:Bs):ag Tryz.prog aA 122 [.ptr 0 0,aE 1 (.ptr 1 0) sc us pw hk hs hn hp port opq pn pl hq q hf fg bare sp rst,bE 0 bsc bus bpw bhk bhs bhn bhp bport bopq bpn bpl bhq bq bhf bfg] ⟨rst.length≤300000∧pl.length≤1000000∧bw rst=false,.tup [.tup [],aE 1 (.ptr 1 0) sc us pw hk hs hn hp port opq (((RS.mk sc us pw hk hs hn hp port opq pn pl hq q hf fg bare sp rst).short).pn) (((RS.mk sc us pw hk hs hn hp port opq pn pl hq q hf fg bare sp rst).short).pl) hq q hf fg bare sp rst,bE 0 bsc bus bpw bhk bhs bhn bhp bport bopq bpn bpl bhq bq bhf bfg]⟩:=ag.bg (fun h=>by have e:List.isEmpty (PV.aB PV.bD [.ptr 0 0,aE 1 (.ptr 1 0) sc us pw hk hs hn hp port opq pn pl hq q hf fg bare sp rst,bE 0 bsc bus bpw bhk bhs bhn bhp bport bopq bpn bpl bhq bq bhf bfg])=false:=(by kernel_rfl);exact Bool.noConfusion (e.symm.trans (congrArg List.isEmpty h))) (vM sc us pw hk hs hn hp port opq pn pl hq q hf fg bare sp rst bsc bus bpw bhk bhs bhn bhp bport bopq bpn bpl bhq bq bhf bfg)
def ka:List PV→Option aG:=fun xs=>match xs with
 |[.ptr 0 0,aE 1 (.ptr 1 0) sc us pw hk hs hn hp port opq pn pl hq q hf fg bare sp rst,bE 0 bsc bus bpw bhk bhs bhn bhp bport bopq bpn bpl bhq bq bhf bfg]=>some ⟨rst.length≤300000∧pl.length≤1000000∧bw rst=false,.tup [.tup [],aE 1 (.ptr 1 0) sc us pw hk hs hn hp port opq (((RS.mk sc us pw hk hs hn hp port opq pn pl hq q hf fg bare sp rst).short).pn) (((RS.mk sc us pw hk hs hn hp port opq pn pl hq q hf fg bare sp rst).short).pl) hq q hf fg bare sp rst,bE 0 bsc bus bpw bhk bhs bhn bhp bport bopq bpn bpl bhq bq bhf bfg]⟩
 |_=>none
theorem rG:∀xs c,ka xs=some c→ag Tryz.prog aA 122 xs c:=fun xs c h=>by
 unfold ka at h
 split at h
 ·injection h with h;subst h;exact AP _ _ _ _ _ _ _ _ _ _ _ _ _ _ _ _ _ _ _ _ _ _ _ _ _ _ _ _ _ _ _ _ _
 ·cases h
end
section
def ud:cp:=bP [(119,qY),(27,dQ)]
def ue(sc us pw:Bs)(hk:Int)(hs:Bs)(hn:Int)(hp:List Int)(port:Int)(opq pn:Bool)(pl:List Bs)(hq:Bool)(q:Bs)(hf:Bool)(fg:Bs)(bare sp:Bool)(rst:Bs):ba:=fun i=>none
theorem vN:cR Tryz.prog aA ud:=ai xU (ai dR (ax))
theorem AQ(sc us pw:Bs)(hk:Int)(hs:Bs)(hn:Int)(hp:List Int)(port:Int)(opq pn:Bool)(pl:List Bs)(hq:Bool)(q:Bs)(hf:Bool)(fg:Bs)(bare sp:Bool)(rst:Bs)(k:PV→List PV→Prop):bQ Tryz.prog ud aA (ue sc us pw hk hs hn hp port opq pn pl hq q hf fg bare sp rst) 1000 Tryz.f75 [.ptr 0 0] [aE 1 (.raw (.pointer none)) sc us pw hk hs hn hp port opq pn pl hq q hf fg bare sp rst] k=(
 (List.length rst≤(300000:Nat)∧
 (ab rst rst (0:Nat)).2.2=true)∧
 (true=true→
 True∧
 ((!true)=true→
 False)∧
 ((!true)=true→
 False)∧
 ((!true)=true→
 False)∧
 (false=true→
 False)∧
 (false=false→
 k (PV.int .i64 (0:Int)) [bT (PV.raw (Go.Value.pointer none)) 1 ((ab rst rst (0:Nat)).1) us pw hk hs hn hp port opq pn pl hq q hf fg (!true) (ay (ab rst rst (0:Nat)).1) ((ab rst rst (0:Nat)).2.1)]))∧
 (true=false→
 (true=true→
 (true=true→
 k (PV.int .i64 (8:Int)) [bT (PV.raw (Go.Value.pointer none)) 1 sc us pw hk hs hn hp port opq pn pl hq q hf fg bare sp rst])∧
 (true=false→
 False))∧
 (true=false→
 False))):=by kernel_rfl
attribute [local irreducible] Go.Vc.cB Go.Vc.bQ
theorem vO(sc us pw:Bs)(hk:Int)(hs:Bs)(hn:Int)(hp:List Int)(port:Int)(opq pn:Bool)(pl:List Bs)(hq:Bool)(q:Bs)(hf:Bool)(fg:Bs)(bare sp:Bool)(rst:Bs):bt Tryz.prog aA 75 [.ptr 0 0] [aE 1 (.raw (.pointer none)) sc us pw hk hs hn hp port opq pn pl hq q hf fg bare sp rst] (rst.length≤300000∧(ab rst rst 0).2.2=true) (.int .i64 0) [aE 1 (.raw (.pointer none)) ((ab rst rst 0).1) us pw hk hs hn hp port opq pn pl hq q hf fg false (ay (ab rst rst 0).1) ((ab rst rst 0).2.1)]:=bG (by kernel_rfl) vN (H:=ue sc us pw hk hs hn hp port opq pn pl hq q hf fg bare sp rst) (fuel:=1000) Tryz.func75 (by kernel_rfl) (Nat.le_of_ble_eq_true rfl) fun hpre=>(AQ sc us pw hk hs hn hp port opq pn pl hq q hf fg bare sp rst _).mpr (by
 exact ⟨hpre,fun _=>⟨trivial,fun h=>(by cases h),fun h=>(by cases h),fun h=>(by cases h),fun h=>(by cases h),fun _=>⟨rfl,rfl⟩⟩,fun h=>(by cases h)⟩)
theorem AR(sc us pw:Bs)(hk:Int)(hs:Bs)(hn:Int)(hp:List Int)(port:Int)(opq pn:Bool)(pl:List Bs)(hq:Bool)(q:Bs)(hf:Bool)(fg:Bs)(bare sp:Bool)(rst:Bs):ag Tryz.prog aA 75 [.ptr 0 0,aE 1 (.raw (.pointer none)) sc us pw hk hs hn hp port opq pn pl hq q hf fg bare sp rst] ⟨rst.length≤300000∧(ab rst rst 0).2.2=true,.tup [.int .i64 0,aE 1 (.raw (.pointer none)) ((ab rst rst 0).1) us pw hk hs hn hp port opq pn pl hq q hf fg false (ay (ab rst rst 0).1) ((ab rst rst 0).2.1)]⟩:=ag.bg (fun h=>by have e:List.isEmpty (PV.aB PV.bD [.ptr 0 0,aE 1 (.raw (.pointer none)) sc us pw hk hs hn hp port opq pn pl hq q hf fg bare sp rst])=false:=(by kernel_rfl);exact Bool.noConfusion (e.symm.trans (congrArg List.isEmpty h))) (vO sc us pw hk hs hn hp port opq pn pl hq q hf fg bare sp rst)
def kb:List PV→Option aG:=fun xs=>match xs with
 |[.ptr 0 0,aE 1 (.raw (.pointer none)) sc us pw hk hs hn hp port opq pn pl hq q hf fg bare sp rst]=>some ⟨rst.length≤300000∧(ab rst rst 0).2.2=true,.tup [.int .i64 0,aE 1 (.raw (.pointer none)) ((ab rst rst 0).1) us pw hk hs hn hp port opq pn pl hq q hf fg false (ay (ab rst rst 0).1) ((ab rst rst 0).2.1)]⟩
 |_=>none
theorem rH:∀xs c,kb xs=some c→ag Tryz.prog aA 75 xs c:=fun xs c h=>by
 unfold kb at h
 split at h
 ·injection h with h;subst h;exact AR _ _ _ _ _ _ _ _ _ _ _ _ _ _ _ _ _ _
 ·cases h
end
section
def Cg:cp:=bP []
def Ch(sc us pw:Bs)(hk:Int)(hs:Bs)(hn:Int)(hp:List Int)(port:Int)(opq pn:Bool)(pl:List Bs)(hq:Bool)(q:Bs)(hf:Bool)(fg:Bs)(bare sp:Bool)(rst:Bs):ba:=fun i=>none
theorem AS:cR Tryz.prog aA Cg:=ax
theorem Ha(sc us pw:Bs)(hk:Int)(hs:Bs)(hn:Int)(hp:List Int)(port:Int)(opq pn:Bool)(pl:List Bs)(hq:Bool)(q:Bs)(hf:Bool)(fg:Bs)(bare sp:Bool)(rst:Bs)(k:PV→List PV→Prop):bQ Tryz.prog Cg aA (Ch sc us pw hk hs hn hp port opq pn pl hq q hf fg bare sp rst) 1000 Tryz.f77 [.ptr 0 0] [aE 1 (.raw (.pointer none)) sc us pw hk hs hn hp port opq pn pl hq q hf fg bare sp rst] k=(
 (false=true→
 False)∧
 (false=true→
 False)∧
 (false=true→
 False)∧
 (false=true→
 False)∧
 k (PV.bool false) [bT (PV.raw (Go.Value.pointer none)) 1 sc us pw hk hs hn hp port opq pn pl hq q hf fg bare sp rst]):=by kernel_rfl
attribute [local irreducible] Go.Vc.cB Go.Vc.bQ
theorem AT(sc us pw:Bs)(hk:Int)(hs:Bs)(hn:Int)(hp:List Int)(port:Int)(opq pn:Bool)(pl:List Bs)(hq:Bool)(q:Bs)(hf:Bool)(fg:Bs)(bare sp:Bool)(rst:Bs):bt Tryz.prog aA 77 [.ptr 0 0] [aE 1 (.raw (.pointer none)) sc us pw hk hs hn hp port opq pn pl hq q hf fg bare sp rst] (True) (.bool false) [aE 1 (.raw (.pointer none)) sc us pw hk hs hn hp port opq pn pl hq q hf fg bare sp rst]:=bG (by kernel_rfl) AS (H:=Ch sc us pw hk hs hn hp port opq pn pl hq q hf fg bare sp rst) (fuel:=1000) Tryz.func77 (by kernel_rfl) (Nat.le_of_ble_eq_true rfl) fun hpre=>(Ha sc us pw hk hs hn hp port opq pn pl hq q hf fg bare sp rst _).mpr (by
 exact ⟨nofun,nofun,nofun,nofun,rfl,rfl⟩)
theorem Hb(sc us pw:Bs)(hk:Int)(hs:Bs)(hn:Int)(hp:List Int)(port:Int)(opq pn:Bool)(pl:List Bs)(hq:Bool)(q:Bs)(hf:Bool)(fg:Bs)(bare sp:Bool)(rst:Bs):ag Tryz.prog aA 77 [.ptr 0 0,aE 1 (.raw (.pointer none)) sc us pw hk hs hn hp port opq pn pl hq q hf fg bare sp rst] ⟨True,.tup [.bool false,aE 1 (.raw (.pointer none)) sc us pw hk hs hn hp port opq pn pl hq q hf fg bare sp rst]⟩:=ag.bg (fun h=>by have e:List.isEmpty (PV.aB PV.bD [.ptr 0 0,aE 1 (.raw (.pointer none)) sc us pw hk hs hn hp port opq pn pl hq q hf fg bare sp rst])=false:=(by kernel_rfl);exact Bool.noConfusion (e.symm.trans (congrArg List.isEmpty h))) (AT sc us pw hk hs hn hp port opq pn pl hq q hf fg bare sp rst)
def gA:List PV→Option aG:=fun xs=>match xs with
 |[.ptr 0 0,aE 1 (.raw (.pointer none)) sc us pw hk hs hn hp port opq pn pl hq q hf fg bare sp rst]=>some ⟨True,.tup [.bool false,aE 1 (.raw (.pointer none)) sc us pw hk hs hn hp port opq pn pl hq q hf fg bare sp rst]⟩
 |_=>none
theorem gw:∀xs c,gA xs=some c→ag Tryz.prog aA 77 xs c:=fun xs c h=>by
 unfold gA at h
 split at h
 ·injection h with h;subst h;exact Hb _ _ _ _ _ _ _ _ _ _ _ _ _ _ _ _ _ _
 ·cases h
end
section
def mT:cp:=bP [(77,gA)]
def mU(sc us pw:Bs)(hk:Int)(hs:Bs)(hn:Int)(hp:List Int)(port:Int)(opq pn:Bool)(pl:List Bs)(hq:Bool)(q:Bs)(hf:Bool)(fg:Bs)(bare sp:Bool)(rst:Bs):ba:=fun i=>none
theorem pz:cR Tryz.prog aA mT:=ai gw (ax)
theorem sB(sc us pw:Bs)(hk:Int)(hs:Bs)(hn:Int)(hp:List Int)(port:Int)(opq pn:Bool)(pl:List Bs)(hq:Bool)(q:Bs)(hf:Bool)(fg:Bs)(bare sp:Bool)(rst:Bs)(k:PV→List PV→Prop):bQ Tryz.prog mT aA (mU sc us pw hk hs hn hp port opq pn pl hq q hf fg bare sp rst) 1000 Tryz.f121 [.ptr 0 0] [aE 1 (.raw (.pointer none)) sc us pw hk hs hn hp port opq pn pl hq q hf fg bare sp rst] k=(
 True∧
 ((!false)=true→
 k (PV.tup []) [bT (PV.raw (Go.Value.pointer none)) 1 sc us pw hk hs hn hp port opq pn pl hq q hf fg bare sp rst])∧
 ((!false)=false→
 False)):=by kernel_rfl
attribute [local irreducible] Go.Vc.cB Go.Vc.bQ
theorem pA(sc us pw:Bs)(hk:Int)(hs:Bs)(hn:Int)(hp:List Int)(port:Int)(opq pn:Bool)(pl:List Bs)(hq:Bool)(q:Bs)(hf:Bool)(fg:Bs)(bare sp:Bool)(rst:Bs):bt Tryz.prog aA 121 [.ptr 0 0] [aE 1 (.raw (.pointer none)) sc us pw hk hs hn hp port opq pn pl hq q hf fg bare sp rst] (True) (.tup []) [aE 1 (.raw (.pointer none)) sc us pw hk hs hn hp port opq pn pl hq q hf fg bare sp rst]:=bG (by kernel_rfl) pz (H:=mU sc us pw hk hs hn hp port opq pn pl hq q hf fg bare sp rst) (fuel:=1000) Tryz.func121 (by kernel_rfl) (Nat.le_of_ble_eq_true rfl) fun hpre=>(sB sc us pw hk hs hn hp port opq pn pl hq q hf fg bare sp rst _).mpr (by
 exact ⟨trivial,fun _=>⟨rfl,rfl⟩,fun h=>(by cases h)⟩)
theorem sC(sc us pw:Bs)(hk:Int)(hs:Bs)(hn:Int)(hp:List Int)(port:Int)(opq pn:Bool)(pl:List Bs)(hq:Bool)(q:Bs)(hf:Bool)(fg:Bs)(bare sp:Bool)(rst:Bs):ag Tryz.prog aA 121 [.ptr 0 0,aE 1 (.raw (.pointer none)) sc us pw hk hs hn hp port opq pn pl hq q hf fg bare sp rst] ⟨True,.tup [.tup [],aE 1 (.raw (.pointer none)) sc us pw hk hs hn hp port opq pn pl hq q hf fg bare sp rst]⟩:=ag.bg (fun h=>by have e:List.isEmpty (PV.aB PV.bD [.ptr 0 0,aE 1 (.raw (.pointer none)) sc us pw hk hs hn hp port opq pn pl hq q hf fg bare sp rst])=false:=(by kernel_rfl);exact Bool.noConfusion (e.symm.trans (congrArg List.isEmpty h))) (pA sc us pw hk hs hn hp port opq pn pl hq q hf fg bare sp rst)
def gP:List PV→Option aG:=fun xs=>match xs with
 |[.ptr 0 0,aE 1 (.raw (.pointer none)) sc us pw hk hs hn hp port opq pn pl hq q hf fg bare sp rst]=>some ⟨True,.tup [.tup [],aE 1 (.raw (.pointer none)) sc us pw hk hs hn hp port opq pn pl hq q hf fg bare sp rst]⟩
 |_=>none
theorem mV:∀xs c,gP xs=some c→ag Tryz.prog aA 121 xs c:=fun xs c h=>by
 unfold gP at h
 split at h
 ·injection h with h;subst h;exact sC _ _ _ _ _ _ _ _ _ _ _ _ _ _ _ _ _ _
 ·cases h
end
section
theorem eD(r:RS):r.av.1={r with hk:=r.av.1.hk,hs:=r.av.1.hs,hn:=r.av.1.hn,hp:=r.av.1.hp,rst:=aa r.rst (ah r.sp r.rst)}:=by
 unfold RS.av
 dsimp only
 split
 ·rfl
 ·split<;>rfl
theorem mW(sp:Bool)(l:Bs):List.length (if az sp l (0:Int)=true then aa l (1:Int)else l)≤l.length:=by
 split
 ·exact cP l 1
 ·exact Nat.le_refl _
def Ci:cp:=bP [(82,gz),(84,fJ),(121,gP),(77,gA),(124,fZ),(123,mM),(125,jq),(90,mO)]
def Cj(sc us pw:Bs)(hk:Int)(hs:Bs)(hn:Int)(hp:List Int)(port:Int)(opq pn:Bool)(pl:List Bs)(hq:Bool)(q:Bs)(hf:Bool)(fg:Bs)(bare sp:Bool)(rst:Bs):ba:=fun i=>none
theorem AU:cR Tryz.prog aA Ci:=ai gv (ai iS (ai mV (ai gw (ai gM (ai lE (ai po (ai o5 (ax))))))))
theorem Hc(sc us pw:Bs)(hk:Int)(hs:Bs)(hn:Int)(hp:List Int)(port:Int)(opq pn:Bool)(pl:List Bs)(hq:Bool)(q:Bs)(hf:Bool)(fg:Bs)(bare sp:Bool)(rst:Bs)(k:PV→List PV→Prop):bQ Tryz.prog Ci aA (Cj sc us pw hk hs hn hp port opq pn pl hq q hf fg bare sp rst) 1000 Tryz.f76 [.ptr 0 0] [aE 1 (.raw (.pointer none)) sc us pw hk hs hn hp port opq pn pl hq q hf fg bare sp rst] k=(
 ((0:Int)≤(0:Int)∧
 (0:Int)<(1000:Int))∧
 (az sp rst (0:Int)=true→
 ((0:Int)≤(1:Int)∧
 (1:Int)<(1000:Int))∧
 (az sp rst (1:Int)=true→
 upto (2:Int) (ak rst) (ak rst)∧
 ((aa rst (2:Int)).length.le (300000:Nat)∧
 upto (0:Int) (↑(ah sp (aa rst (2:Int)))) (ak (aa rst (2:Int)))∧
 True∧
 (bL (ae (aa rst (2:Int)) ↑(ah sp (aa rst (2:Int))))=true→
 ((aa rst (2:Int)).length≤(300000:Nat)∧
 pl.length≤(100000:Nat))∧
 k (PV.int .i64 (0:Int)) [bT (PV.raw (Go.Value.pointer none)) 1 sc us pw (1:Int) hs hn hp port opq ((bC sp sc (ae (aa rst (2:Int)) ↑(aF (aa rst (2:Int)))) (pn,pl)).1) ((bC sp sc (ae (aa rst (2:Int)) ↑(aF (aa rst (2:Int)))) (pn,pl)).2) hq q hf fg bare sp (aa (aa rst (2:Int)) ↑(aF (aa rst (2:Int))))])∧
 (bL (ae (aa rst (2:Int)) ↑(ah sp (aa rst (2:Int))))=false→
 (aa rst (2:Int)).length.le (300000:Nat)∧
 ((!decide ((RS.mk sc us pw (1:Int) hs hn hp port opq pn pl hq q hf fg bare sp (aa rst (2:Int))).av.2=(0:Int)))=true→
 k (PV.int .i64 (RS.mk sc us pw (1:Int) hs hn hp port opq pn pl hq q hf fg bare sp (aa rst (2:Int))).av.2) [bT (PV.raw (Go.Value.pointer none)) 1 sc us pw ((RS.mk sc us pw (1:Int) hs hn hp port opq pn pl hq q hf fg bare sp (aa rst (2:Int))).av.1.hk) ((RS.mk sc us pw (1:Int) hs hn hp port opq pn pl hq q hf fg bare sp (aa rst (2:Int))).av.1.hs) ((RS.mk sc us pw (1:Int) hs hn hp port opq pn pl hq q hf fg bare sp (aa rst (2:Int))).av.1.hn) ((RS.mk sc us pw (1:Int) hs hn hp port opq pn pl hq q hf fg bare sp (aa rst (2:Int))).av.1.hp) port opq pn pl hq q hf fg bare sp (aa (aa rst (2:Int)) ↑(ah sp (aa rst (2:Int))))])∧
 ((!decide ((RS.mk sc us pw (1:Int) hs hn hp port opq pn pl hq q hf fg bare sp (aa rst (2:Int))).av.2=(0:Int)))=false→
 True∧
 (List.length (if az sp (aa (aa rst (2:Int)) ↑(ah sp (aa rst (2:Int)))) (0:Int)=true then aa (aa (aa rst (2:Int)) ↑(ah sp (aa rst (2:Int)))) (1:Int)else aa (aa rst (2:Int)) ↑(ah sp (aa rst (2:Int))))≤(300000:Nat)∧
 pl.length≤(100000:Nat))∧
 k (PV.int .i64 (0:Int)) [bT (PV.raw (Go.Value.pointer none)) 1 sc us pw ((RS.mk sc us pw (1:Int) hs hn hp port opq pn pl hq q hf fg bare sp (aa rst (2:Int))).av.1.hk) ((RS.mk sc us pw (1:Int) hs hn hp port opq pn pl hq q hf fg bare sp (aa rst (2:Int))).av.1.hs) ((RS.mk sc us pw (1:Int) hs hn hp port opq pn pl hq q hf fg bare sp (aa rst (2:Int))).av.1.hn) ((RS.mk sc us pw (1:Int) hs hn hp port opq pn pl hq q hf fg bare sp (aa rst (2:Int))).av.1.hp) port opq ((bC sp sc (ae (if az sp (aa (aa rst (2:Int)) ↑(ah sp (aa rst (2:Int)))) (0:Int)=true then aa (aa (aa rst (2:Int)) ↑(ah sp (aa rst (2:Int)))) (1:Int)else aa (aa rst (2:Int)) ↑(ah sp (aa rst (2:Int)))) ↑(aF (if az sp (aa (aa rst (2:Int)) ↑(ah sp (aa rst (2:Int)))) (0:Int)=true then aa (aa (aa rst (2:Int)) ↑(ah sp (aa rst (2:Int)))) (1:Int)else aa (aa rst (2:Int)) ↑(ah sp (aa rst (2:Int)))))) (pn,pl)).1) ((bC sp sc (ae (if az sp (aa (aa rst (2:Int)) ↑(ah sp (aa rst (2:Int)))) (0:Int)=true then aa (aa (aa rst (2:Int)) ↑(ah sp (aa rst (2:Int)))) (1:Int)else aa (aa rst (2:Int)) ↑(ah sp (aa rst (2:Int)))) ↑(aF (if az sp (aa (aa rst (2:Int)) ↑(ah sp (aa rst (2:Int)))) (0:Int)=true then aa (aa (aa rst (2:Int)) ↑(ah sp (aa rst (2:Int)))) (1:Int)else aa (aa rst (2:Int)) ↑(ah sp (aa rst (2:Int)))))) (pn,pl)).2) hq q hf fg bare sp (aa (if az sp (aa (aa rst (2:Int)) ↑(ah sp (aa rst (2:Int)))) (0:Int)=true then aa (aa (aa rst (2:Int)) ↑(ah sp (aa rst (2:Int)))) (1:Int)else aa (aa rst (2:Int)) ↑(ah sp (aa rst (2:Int)))) ↑(aF (if az sp (aa (aa rst (2:Int)) ↑(ah sp (aa rst (2:Int)))) (0:Int)=true then aa (aa (aa rst (2:Int)) ↑(ah sp (aa rst (2:Int)))) (1:Int)else aa (aa rst (2:Int)) ↑(ah sp (aa rst (2:Int))))))])))∧
 (aa rst (2:Int)).length.le (300000:Nat)∧
 upto (0:Int) (↑(ah sp (aa rst (2:Int)))) (ak (aa rst (2:Int)))∧
 True∧
 (bL (ae (aa rst (2:Int)) ↑(ah sp (aa rst (2:Int))))=true→
 ((aa rst (2:Int)).length≤(300000:Nat)∧
 pl.length≤(100000:Nat))∧
 k (PV.int .i64 (0:Int)) [bT (PV.raw (Go.Value.pointer none)) 1 sc us pw (1:Int) hs hn hp port opq ((bC sp sc (ae (aa rst (2:Int)) ↑(aF (aa rst (2:Int)))) (pn,pl)).1) ((bC sp sc (ae (aa rst (2:Int)) ↑(aF (aa rst (2:Int)))) (pn,pl)).2) hq q hf fg bare sp (aa (aa rst (2:Int)) ↑(aF (aa rst (2:Int))))])∧
 (bL (ae (aa rst (2:Int)) ↑(ah sp (aa rst (2:Int))))=false→
 (aa rst (2:Int)).length.le (300000:Nat)∧
 ((!decide ((RS.mk sc us pw (1:Int) hs hn hp port opq pn pl hq q hf fg bare sp (aa rst (2:Int))).av.2=(0:Int)))=true→
 k (PV.int .i64 (RS.mk sc us pw (1:Int) hs hn hp port opq pn pl hq q hf fg bare sp (aa rst (2:Int))).av.2) [bT (PV.raw (Go.Value.pointer none)) 1 sc us pw ((RS.mk sc us pw (1:Int) hs hn hp port opq pn pl hq q hf fg bare sp (aa rst (2:Int))).av.1.hk) ((RS.mk sc us pw (1:Int) hs hn hp port opq pn pl hq q hf fg bare sp (aa rst (2:Int))).av.1.hs) ((RS.mk sc us pw (1:Int) hs hn hp port opq pn pl hq q hf fg bare sp (aa rst (2:Int))).av.1.hn) ((RS.mk sc us pw (1:Int) hs hn hp port opq pn pl hq q hf fg bare sp (aa rst (2:Int))).av.1.hp) port opq pn pl hq q hf fg bare sp (aa (aa rst (2:Int)) ↑(ah sp (aa rst (2:Int))))])∧
 ((!decide ((RS.mk sc us pw (1:Int) hs hn hp port opq pn pl hq q hf fg bare sp (aa rst (2:Int))).av.2=(0:Int)))=false→
 True∧
 (List.length (if az sp (aa (aa rst (2:Int)) ↑(ah sp (aa rst (2:Int)))) (0:Int)=true then aa (aa (aa rst (2:Int)) ↑(ah sp (aa rst (2:Int)))) (1:Int)else aa (aa rst (2:Int)) ↑(ah sp (aa rst (2:Int))))≤(300000:Nat)∧
 pl.length≤(100000:Nat))∧
 k (PV.int .i64 (0:Int)) [bT (PV.raw (Go.Value.pointer none)) 1 sc us pw ((RS.mk sc us pw (1:Int) hs hn hp port opq pn pl hq q hf fg bare sp (aa rst (2:Int))).av.1.hk) ((RS.mk sc us pw (1:Int) hs hn hp port opq pn pl hq q hf fg bare sp (aa rst (2:Int))).av.1.hs) ((RS.mk sc us pw (1:Int) hs hn hp port opq pn pl hq q hf fg bare sp (aa rst (2:Int))).av.1.hn) ((RS.mk sc us pw (1:Int) hs hn hp port opq pn pl hq q hf fg bare sp (aa rst (2:Int))).av.1.hp) port opq ((bC sp sc (ae (if az sp (aa (aa rst (2:Int)) ↑(ah sp (aa rst (2:Int)))) (0:Int)=true then aa (aa (aa rst (2:Int)) ↑(ah sp (aa rst (2:Int)))) (1:Int)else aa (aa rst (2:Int)) ↑(ah sp (aa rst (2:Int)))) ↑(aF (if az sp (aa (aa rst (2:Int)) ↑(ah sp (aa rst (2:Int)))) (0:Int)=true then aa (aa (aa rst (2:Int)) ↑(ah sp (aa rst (2:Int)))) (1:Int)else aa (aa rst (2:Int)) ↑(ah sp (aa rst (2:Int)))))) (pn,pl)).1) ((bC sp sc (ae (if az sp (aa (aa rst (2:Int)) ↑(ah sp (aa rst (2:Int)))) (0:Int)=true then aa (aa (aa rst (2:Int)) ↑(ah sp (aa rst (2:Int)))) (1:Int)else aa (aa rst (2:Int)) ↑(ah sp (aa rst (2:Int)))) ↑(aF (if az sp (aa (aa rst (2:Int)) ↑(ah sp (aa rst (2:Int)))) (0:Int)=true then aa (aa (aa rst (2:Int)) ↑(ah sp (aa rst (2:Int)))) (1:Int)else aa (aa rst (2:Int)) ↑(ah sp (aa rst (2:Int)))))) (pn,pl)).2) hq q hf fg bare sp (aa (if az sp (aa (aa rst (2:Int)) ↑(ah sp (aa rst (2:Int)))) (0:Int)=true then aa (aa (aa rst (2:Int)) ↑(ah sp (aa rst (2:Int)))) (1:Int)else aa (aa rst (2:Int)) ↑(ah sp (aa rst (2:Int)))) ↑(aF (if az sp (aa (aa rst (2:Int)) ↑(ah sp (aa rst (2:Int)))) (0:Int)=true then aa (aa (aa rst (2:Int)) ↑(ah sp (aa rst (2:Int)))) (1:Int)else aa (aa rst (2:Int)) ↑(ah sp (aa rst (2:Int))))))])))∧
 (az sp rst (1:Int)=false→
 True∧
 (az sp rst (0:Int)=true→
 True∧
 (List.length (if az sp rst (0:Int)=true then aa rst (1:Int)else rst)≤(300000:Nat)∧
 pl.length≤(100000:Nat))∧
 k (PV.int .i64 (0:Int)) [bT (PV.raw (Go.Value.pointer none)) 1 sc us pw (1:Int) hs hn hp port opq ((bC sp sc (ae (if az sp rst (0:Int)=true then aa rst (1:Int)else rst) ↑(aF (if az sp rst (0:Int)=true then aa rst (1:Int)else rst))) (pn,pl)).1) ((bC sp sc (ae (if az sp rst (0:Int)=true then aa rst (1:Int)else rst) ↑(aF (if az sp rst (0:Int)=true then aa rst (1:Int)else rst))) (pn,pl)).2) hq q hf fg bare sp (aa (if az sp rst (0:Int)=true then aa rst (1:Int)else rst) ↑(aF (if az sp rst (0:Int)=true then aa rst (1:Int)else rst)))])∧
 (az sp rst (0:Int)=false→
 True∧
 ((!false)=true→
 (List.length (if az sp rst (0:Int)=true then aa rst (1:Int)else rst)≤(300000:Nat)∧
 pl.length≤(100000:Nat))∧
 k (PV.int .i64 (0:Int)) [bT (PV.raw (Go.Value.pointer none)) 1 sc us pw (1:Int) hs hn hp port opq ((bC sp sc (ae (if az sp rst (0:Int)=true then aa rst (1:Int)else rst) ↑(aF (if az sp rst (0:Int)=true then aa rst (1:Int)else rst))) (pn,pl)).1) ((bC sp sc (ae (if az sp rst (0:Int)=true then aa rst (1:Int)else rst) ↑(aF (if az sp rst (0:Int)=true then aa rst (1:Int)else rst))) (pn,pl)).2) hq q hf fg bare sp (aa (if az sp rst (0:Int)=true then aa rst (1:Int)else rst) ↑(aF (if az sp rst (0:Int)=true then aa rst (1:Int)else rst)))])∧
 ((!false)=false→
 False))))∧
 (az sp rst (0:Int)=!true→
 (false=true→
 upto (2:Int) (ak rst) (ak rst)∧
 ((aa rst (2:Int)).length.le (300000:Nat)∧
 upto (0:Int) (↑(ah sp (aa rst (2:Int)))) (ak (aa rst (2:Int)))∧
 True∧
 (bL (ae (aa rst (2:Int)) ↑(ah sp (aa rst (2:Int))))=true→
 ((aa rst (2:Int)).length≤(300000:Nat)∧
 pl.length≤(100000:Nat))∧
 k (PV.int .i64 (0:Int)) [bT (PV.raw (Go.Value.pointer none)) 1 sc us pw (1:Int) hs hn hp port opq ((bC sp sc (ae (aa rst (2:Int)) ↑(aF (aa rst (2:Int)))) (pn,pl)).1) ((bC sp sc (ae (aa rst (2:Int)) ↑(aF (aa rst (2:Int)))) (pn,pl)).2) hq q hf fg bare sp (aa (aa rst (2:Int)) ↑(aF (aa rst (2:Int))))])∧
 (bL (ae (aa rst (2:Int)) ↑(ah sp (aa rst (2:Int))))=false→
 (aa rst (2:Int)).length.le (300000:Nat)∧
 ((!decide ((RS.mk sc us pw (1:Int) hs hn hp port opq pn pl hq q hf fg bare sp (aa rst (2:Int))).av.2=(0:Int)))=true→
 k (PV.int .i64 (RS.mk sc us pw (1:Int) hs hn hp port opq pn pl hq q hf fg bare sp (aa rst (2:Int))).av.2) [bT (PV.raw (Go.Value.pointer none)) 1 sc us pw ((RS.mk sc us pw (1:Int) hs hn hp port opq pn pl hq q hf fg bare sp (aa rst (2:Int))).av.1.hk) ((RS.mk sc us pw (1:Int) hs hn hp port opq pn pl hq q hf fg bare sp (aa rst (2:Int))).av.1.hs) ((RS.mk sc us pw (1:Int) hs hn hp port opq pn pl hq q hf fg bare sp (aa rst (2:Int))).av.1.hn) ((RS.mk sc us pw (1:Int) hs hn hp port opq pn pl hq q hf fg bare sp (aa rst (2:Int))).av.1.hp) port opq pn pl hq q hf fg bare sp (aa (aa rst (2:Int)) ↑(ah sp (aa rst (2:Int))))])∧
 ((!decide ((RS.mk sc us pw (1:Int) hs hn hp port opq pn pl hq q hf fg bare sp (aa rst (2:Int))).av.2=(0:Int)))=false→
 True∧
 (List.length (if az sp (aa (aa rst (2:Int)) ↑(ah sp (aa rst (2:Int)))) (0:Int)=true then aa (aa (aa rst (2:Int)) ↑(ah sp (aa rst (2:Int)))) (1:Int)else aa (aa rst (2:Int)) ↑(ah sp (aa rst (2:Int))))≤(300000:Nat)∧
 pl.length≤(100000:Nat))∧
 k (PV.int .i64 (0:Int)) [bT (PV.raw (Go.Value.pointer none)) 1 sc us pw ((RS.mk sc us pw (1:Int) hs hn hp port opq pn pl hq q hf fg bare sp (aa rst (2:Int))).av.1.hk) ((RS.mk sc us pw (1:Int) hs hn hp port opq pn pl hq q hf fg bare sp (aa rst (2:Int))).av.1.hs) ((RS.mk sc us pw (1:Int) hs hn hp port opq pn pl hq q hf fg bare sp (aa rst (2:Int))).av.1.hn) ((RS.mk sc us pw (1:Int) hs hn hp port opq pn pl hq q hf fg bare sp (aa rst (2:Int))).av.1.hp) port opq ((bC sp sc (ae (if az sp (aa (aa rst (2:Int)) ↑(ah sp (aa rst (2:Int)))) (0:Int)=true then aa (aa (aa rst (2:Int)) ↑(ah sp (aa rst (2:Int)))) (1:Int)else aa (aa rst (2:Int)) ↑(ah sp (aa rst (2:Int)))) ↑(aF (if az sp (aa (aa rst (2:Int)) ↑(ah sp (aa rst (2:Int)))) (0:Int)=true then aa (aa (aa rst (2:Int)) ↑(ah sp (aa rst (2:Int)))) (1:Int)else aa (aa rst (2:Int)) ↑(ah sp (aa rst (2:Int)))))) (pn,pl)).1) ((bC sp sc (ae (if az sp (aa (aa rst (2:Int)) ↑(ah sp (aa rst (2:Int)))) (0:Int)=true then aa (aa (aa rst (2:Int)) ↑(ah sp (aa rst (2:Int)))) (1:Int)else aa (aa rst (2:Int)) ↑(ah sp (aa rst (2:Int)))) ↑(aF (if az sp (aa (aa rst (2:Int)) ↑(ah sp (aa rst (2:Int)))) (0:Int)=true then aa (aa (aa rst (2:Int)) ↑(ah sp (aa rst (2:Int)))) (1:Int)else aa (aa rst (2:Int)) ↑(ah sp (aa rst (2:Int)))))) (pn,pl)).2) hq q hf fg bare sp (aa (if az sp (aa (aa rst (2:Int)) ↑(ah sp (aa rst (2:Int)))) (0:Int)=true then aa (aa (aa rst (2:Int)) ↑(ah sp (aa rst (2:Int)))) (1:Int)else aa (aa rst (2:Int)) ↑(ah sp (aa rst (2:Int)))) ↑(aF (if az sp (aa (aa rst (2:Int)) ↑(ah sp (aa rst (2:Int)))) (0:Int)=true then aa (aa (aa rst (2:Int)) ↑(ah sp (aa rst (2:Int)))) (1:Int)else aa (aa rst (2:Int)) ↑(ah sp (aa rst (2:Int))))))])))∧
 (aa rst (2:Int)).length.le (300000:Nat)∧
 upto (0:Int) (↑(ah sp (aa rst (2:Int)))) (ak (aa rst (2:Int)))∧
 True∧
 (bL (ae (aa rst (2:Int)) ↑(ah sp (aa rst (2:Int))))=true→
 ((aa rst (2:Int)).length≤(300000:Nat)∧
 pl.length≤(100000:Nat))∧
 k (PV.int .i64 (0:Int)) [bT (PV.raw (Go.Value.pointer none)) 1 sc us pw (1:Int) hs hn hp port opq ((bC sp sc (ae (aa rst (2:Int)) ↑(aF (aa rst (2:Int)))) (pn,pl)).1) ((bC sp sc (ae (aa rst (2:Int)) ↑(aF (aa rst (2:Int)))) (pn,pl)).2) hq q hf fg bare sp (aa (aa rst (2:Int)) ↑(aF (aa rst (2:Int))))])∧
 (bL (ae (aa rst (2:Int)) ↑(ah sp (aa rst (2:Int))))=false→
 (aa rst (2:Int)).length.le (300000:Nat)∧
 ((!decide ((RS.mk sc us pw (1:Int) hs hn hp port opq pn pl hq q hf fg bare sp (aa rst (2:Int))).av.2=(0:Int)))=true→
 k (PV.int .i64 (RS.mk sc us pw (1:Int) hs hn hp port opq pn pl hq q hf fg bare sp (aa rst (2:Int))).av.2) [bT (PV.raw (Go.Value.pointer none)) 1 sc us pw ((RS.mk sc us pw (1:Int) hs hn hp port opq pn pl hq q hf fg bare sp (aa rst (2:Int))).av.1.hk) ((RS.mk sc us pw (1:Int) hs hn hp port opq pn pl hq q hf fg bare sp (aa rst (2:Int))).av.1.hs) ((RS.mk sc us pw (1:Int) hs hn hp port opq pn pl hq q hf fg bare sp (aa rst (2:Int))).av.1.hn) ((RS.mk sc us pw (1:Int) hs hn hp port opq pn pl hq q hf fg bare sp (aa rst (2:Int))).av.1.hp) port opq pn pl hq q hf fg bare sp (aa (aa rst (2:Int)) ↑(ah sp (aa rst (2:Int))))])∧
 ((!decide ((RS.mk sc us pw (1:Int) hs hn hp port opq pn pl hq q hf fg bare sp (aa rst (2:Int))).av.2=(0:Int)))=false→
 True∧
 (List.length (if az sp (aa (aa rst (2:Int)) ↑(ah sp (aa rst (2:Int)))) (0:Int)=true then aa (aa (aa rst (2:Int)) ↑(ah sp (aa rst (2:Int)))) (1:Int)else aa (aa rst (2:Int)) ↑(ah sp (aa rst (2:Int))))≤(300000:Nat)∧
 pl.length≤(100000:Nat))∧
 k (PV.int .i64 (0:Int)) [bT (PV.raw (Go.Value.pointer none)) 1 sc us pw ((RS.mk sc us pw (1:Int) hs hn hp port opq pn pl hq q hf fg bare sp (aa rst (2:Int))).av.1.hk) ((RS.mk sc us pw (1:Int) hs hn hp port opq pn pl hq q hf fg bare sp (aa rst (2:Int))).av.1.hs) ((RS.mk sc us pw (1:Int) hs hn hp port opq pn pl hq q hf fg bare sp (aa rst (2:Int))).av.1.hn) ((RS.mk sc us pw (1:Int) hs hn hp port opq pn pl hq q hf fg bare sp (aa rst (2:Int))).av.1.hp) port opq ((bC sp sc (ae (if az sp (aa (aa rst (2:Int)) ↑(ah sp (aa rst (2:Int)))) (0:Int)=true then aa (aa (aa rst (2:Int)) ↑(ah sp (aa rst (2:Int)))) (1:Int)else aa (aa rst (2:Int)) ↑(ah sp (aa rst (2:Int)))) ↑(aF (if az sp (aa (aa rst (2:Int)) ↑(ah sp (aa rst (2:Int)))) (0:Int)=true then aa (aa (aa rst (2:Int)) ↑(ah sp (aa rst (2:Int)))) (1:Int)else aa (aa rst (2:Int)) ↑(ah sp (aa rst (2:Int)))))) (pn,pl)).1) ((bC sp sc (ae (if az sp (aa (aa rst (2:Int)) ↑(ah sp (aa rst (2:Int)))) (0:Int)=true then aa (aa (aa rst (2:Int)) ↑(ah sp (aa rst (2:Int)))) (1:Int)else aa (aa rst (2:Int)) ↑(ah sp (aa rst (2:Int)))) ↑(aF (if az sp (aa (aa rst (2:Int)) ↑(ah sp (aa rst (2:Int)))) (0:Int)=true then aa (aa (aa rst (2:Int)) ↑(ah sp (aa rst (2:Int)))) (1:Int)else aa (aa rst (2:Int)) ↑(ah sp (aa rst (2:Int)))))) (pn,pl)).2) hq q hf fg bare sp (aa (if az sp (aa (aa rst (2:Int)) ↑(ah sp (aa rst (2:Int)))) (0:Int)=true then aa (aa (aa rst (2:Int)) ↑(ah sp (aa rst (2:Int)))) (1:Int)else aa (aa rst (2:Int)) ↑(ah sp (aa rst (2:Int)))) ↑(aF (if az sp (aa (aa rst (2:Int)) ↑(ah sp (aa rst (2:Int)))) (0:Int)=true then aa (aa (aa rst (2:Int)) ↑(ah sp (aa rst (2:Int)))) (1:Int)else aa (aa rst (2:Int)) ↑(ah sp (aa rst (2:Int))))))])))∧
 (false=false→
 True∧
 (az sp rst (0:Int)=true→
 True∧
 (List.length (if az sp rst (0:Int)=true then aa rst (1:Int)else rst)≤(300000:Nat)∧
 pl.length≤(100000:Nat))∧
 k (PV.int .i64 (0:Int)) [bT (PV.raw (Go.Value.pointer none)) 1 sc us pw (1:Int) hs hn hp port opq ((bC sp sc (ae (if az sp rst (0:Int)=true then aa rst (1:Int)else rst) ↑(aF (if az sp rst (0:Int)=true then aa rst (1:Int)else rst))) (pn,pl)).1) ((bC sp sc (ae (if az sp rst (0:Int)=true then aa rst (1:Int)else rst) ↑(aF (if az sp rst (0:Int)=true then aa rst (1:Int)else rst))) (pn,pl)).2) hq q hf fg bare sp (aa (if az sp rst (0:Int)=true then aa rst (1:Int)else rst) ↑(aF (if az sp rst (0:Int)=true then aa rst (1:Int)else rst)))])∧
 (az sp rst (0:Int)=false→
 True∧
 ((!false)=true→
 (List.length (if az sp rst (0:Int)=true then aa rst (1:Int)else rst)≤(300000:Nat)∧
 pl.length≤(100000:Nat))∧
 k (PV.int .i64 (0:Int)) [bT (PV.raw (Go.Value.pointer none)) 1 sc us pw (1:Int) hs hn hp port opq ((bC sp sc (ae (if az sp rst (0:Int)=true then aa rst (1:Int)else rst) ↑(aF (if az sp rst (0:Int)=true then aa rst (1:Int)else rst))) (pn,pl)).1) ((bC sp sc (ae (if az sp rst (0:Int)=true then aa rst (1:Int)else rst) ↑(aF (if az sp rst (0:Int)=true then aa rst (1:Int)else rst))) (pn,pl)).2) hq q hf fg bare sp (aa (if az sp rst (0:Int)=true then aa rst (1:Int)else rst) ↑(aF (if az sp rst (0:Int)=true then aa rst (1:Int)else rst)))])∧
 ((!false)=false→
 False))))):=by kernel_rfl
attribute [local irreducible] Go.Vc.cB Go.Vc.bQ
theorem AV(sc us pw:Bs)(hk:Int)(hs:Bs)(hn:Int)(hp:List Int)(port:Int)(opq pn:Bool)(pl:List Bs)(hq:Bool)(q:Bs)(hf:Bool)(fg:Bs)(bare sp:Bool)(rst:Bs):bt Tryz.prog aA 76 [.ptr 0 0] [aE 1 (.raw (.pointer none)) sc us pw hk hs hn hp port opq pn pl hq q hf fg bare sp rst] (rst.length≤300000∧pl.length≤100000) (.int .i64 (RS.mk sc us pw hk hs hn hp port opq pn pl hq q hf fg bare sp rst).aY.2) [aE 1 (.raw (.pointer none)) sc us pw ((RS.mk sc us pw hk hs hn hp port opq pn pl hq q hf fg bare sp rst).aY.1.hk) ((RS.mk sc us pw hk hs hn hp port opq pn pl hq q hf fg bare sp rst).aY.1.hs) ((RS.mk sc us pw hk hs hn hp port opq pn pl hq q hf fg bare sp rst).aY.1.hn) ((RS.mk sc us pw hk hs hn hp port opq pn pl hq q hf fg bare sp rst).aY.1.hp) port opq ((RS.mk sc us pw hk hs hn hp port opq pn pl hq q hf fg bare sp rst).aY.1.pn) ((RS.mk sc us pw hk hs hn hp port opq pn pl hq q hf fg bare sp rst).aY.1.pl) hq q hf fg bare sp ((RS.mk sc us pw hk hs hn hp port opq pn pl hq q hf fg bare sp rst).aY.1.rst)]:=bG (by kernel_rfl) AU (H:=Cj sc us pw hk hs hn hp port opq pn pl hq q hf fg bare sp rst) (fuel:=1000) Tryz.func76 (by kernel_rfl) (Nat.le_of_ble_eq_true rfl) fun hpre=>(Hc sc us pw hk hs hn hp port opq pn pl hq q hf fg bare sp rst _).mpr (by
 obtain ⟨hp1,hp2⟩:=hpre
 have hl2:=cP rst 2
 have hs1:=mW sp rst
 have hB:∀k:PV→List PV→Prop,¬(az sp rst 0=true∧az sp rst 1=true)→(RS.mk sc us pw hk hs hn hp port opq pn pl hq q hf fg bare sp rst).aY=(({(RS.mk sc us pw hk hs hn hp port opq pn pl hq q hf fg bare sp rst)with hk:=1}:RS).shl.path,0):=fun _ h=>by
  unfold RS.aY
  dsimp only
  rw [if_neg h]
 refine ⟨⟨by omega,by omega⟩,fun h0=>⟨⟨by omega,by omega⟩,fun h1=>?_,fun h1=>?_⟩,fun h0=>⟨fun h=>(by cases h),fun _=>?_⟩⟩
 ·have hsl:=pL h1
  refine ⟨⟨by omega,by unfold ak at *;omega,Int.le_refl _⟩,(fun a=>⟨a,a⟩) ?_⟩
  have he:=db (aa rst 2) (eY sp++[63,35])
  have he2:ah sp (aa rst 2)≤(aa rst 2).length:=he
  have e0:(RS.mk sc us pw hk hs hn hp port opq pn pl hq q hf fg bare sp rst).aY=(if bL (ae (aa rst 2) (ah sp (aa rst 2)))=true then((RS.mk sc us pw 1 hs hn hp port opq pn pl hq q hf fg bare sp (aa rst 2)).path,0)else if(RS.mk sc us pw 1 hs hn hp port opq pn pl hq q hf fg bare sp (aa rst 2)).av.2=0 then((RS.mk sc us pw 1 hs hn hp port opq pn pl hq q hf fg bare sp (aa rst 2)).av.1.shl.path,0)else(RS.mk sc us pw 1 hs hn hp port opq pn pl hq q hf fg bare sp (aa rst 2)).av):=by
   unfold RS.aY
   dsimp only
   rw [if_pos ⟨h0,h1⟩]
   rfl
  refine ⟨show(aa rst 2).length≤300000 by omega,⟨Int.le_refl _,by omega,by unfold ak;omega⟩,trivial,fun h2=>⟨⟨by omega,hp2⟩,?_⟩,fun h2=>⟨show(aa rst 2).length≤300000 by omega,fun h3=>?_,fun h3=>⟨trivial,⟨Nat.le_trans (mW sp _) (Nat.le_trans (cP _ _) (by omega)),hp2⟩,?_⟩⟩⟩
  ·rw [e0,if_pos h2];exact ⟨rfl,rfl⟩
  ·have h4:¬(RS.mk sc us pw 1 hs hn hp port opq pn pl hq q hf fg bare sp (aa rst 2)).av.2=0:=by simpa using h3
   have er:=eD (RS.mk sc us pw 1 hs hn hp port opq pn pl hq q hf fg bare sp (aa rst 2))
   rw [e0,if_neg (by rw [h2];decide),if_neg h4]
   have e1:(RS.mk sc us pw 1 hs hn hp port opq pn pl hq q hf fg bare sp (aa rst 2)).av.1.pn=pn:=by rw [er]
   have e2:(RS.mk sc us pw 1 hs hn hp port opq pn pl hq q hf fg bare sp (aa rst 2)).av.1.pl=pl:=by rw [er]
   have e3:(RS.mk sc us pw 1 hs hn hp port opq pn pl hq q hf fg bare sp (aa rst 2)).av.1.rst=aa (aa rst 2) (ah sp (aa rst 2)):=by rw [er]
   rw [e1,e2,e3];exact ⟨rfl,rfl⟩
  ·have h4:(RS.mk sc us pw 1 hs hn hp port opq pn pl hq q hf fg bare sp (aa rst 2)).av.2=0:=by simpa using h3
   have er:=eD (RS.mk sc us pw 1 hs hn hp port opq pn pl hq q hf fg bare sp (aa rst 2))
   have gen:∀G:RS,G={(RS.mk sc us pw 1 hs hn hp port opq pn pl hq q hf fg bare sp (aa rst 2))with hk:=G.hk,hs:=G.hs,hn:=G.hn,hp:=G.hp,rst:=aa (aa rst 2) (ah sp (aa rst 2))}→G.shl=RS.mk sc us pw G.hk G.hs G.hn G.hp port opq pn pl hq q hf fg bare sp (if az sp (aa (aa rst 2) (ah sp (aa rst 2))) 0=true then aa (aa (aa rst 2) (ah sp (aa rst 2))) 1 else aa (aa rst 2) (ah sp (aa rst 2))):=fun G e=>by rw [e];rfl
   rw [e0,if_neg (by rw [h2];decide),if_pos h4,gen _ er]
   exact ⟨rfl,rfl⟩
 ·rw [hB (fun _ _=>True) (by rw [h1];simp)]
  exact ⟨trivial,fun _=>⟨trivial,⟨by omega,hp2⟩,rfl,rfl⟩,fun _=>⟨trivial,fun _=>⟨⟨by omega,hp2⟩,rfl,rfl⟩,fun h=>(by cases h)⟩⟩
 ·rw [hB (fun _ _=>True) (by rw [show az sp rst 0=false from h0];simp)]
  exact ⟨trivial,fun _=>⟨trivial,⟨by omega,hp2⟩,rfl,rfl⟩,fun _=>⟨trivial,fun _=>⟨⟨by omega,hp2⟩,rfl,rfl⟩,fun h=>(by cases h)⟩⟩)
theorem Hd(sc us pw:Bs)(hk:Int)(hs:Bs)(hn:Int)(hp:List Int)(port:Int)(opq pn:Bool)(pl:List Bs)(hq:Bool)(q:Bs)(hf:Bool)(fg:Bs)(bare sp:Bool)(rst:Bs):ag Tryz.prog aA 76 [.ptr 0 0,aE 1 (.raw (.pointer none)) sc us pw hk hs hn hp port opq pn pl hq q hf fg bare sp rst] ⟨rst.length≤300000∧pl.length≤100000,.tup [.int .i64 (RS.mk sc us pw hk hs hn hp port opq pn pl hq q hf fg bare sp rst).aY.2,aE 1 (.raw (.pointer none)) sc us pw ((RS.mk sc us pw hk hs hn hp port opq pn pl hq q hf fg bare sp rst).aY.1.hk) ((RS.mk sc us pw hk hs hn hp port opq pn pl hq q hf fg bare sp rst).aY.1.hs) ((RS.mk sc us pw hk hs hn hp port opq pn pl hq q hf fg bare sp rst).aY.1.hn) ((RS.mk sc us pw hk hs hn hp port opq pn pl hq q hf fg bare sp rst).aY.1.hp) port opq ((RS.mk sc us pw hk hs hn hp port opq pn pl hq q hf fg bare sp rst).aY.1.pn) ((RS.mk sc us pw hk hs hn hp port opq pn pl hq q hf fg bare sp rst).aY.1.pl) hq q hf fg bare sp ((RS.mk sc us pw hk hs hn hp port opq pn pl hq q hf fg bare sp rst).aY.1.rst)]⟩:=ag.bg (fun h=>by have e:List.isEmpty (PV.aB PV.bD [.ptr 0 0,aE 1 (.raw (.pointer none)) sc us pw hk hs hn hp port opq pn pl hq q hf fg bare sp rst])=false:=(by kernel_rfl);exact Bool.noConfusion (e.symm.trans (congrArg List.isEmpty h))) (AV sc us pw hk hs hn hp port opq pn pl hq q hf fg bare sp rst)
def og:List PV→Option aG:=fun xs=>match xs with
 |[.ptr 0 0,aE 1 (.raw (.pointer none)) sc us pw hk hs hn hp port opq pn pl hq q hf fg bare sp rst]=>some ⟨rst.length≤300000∧pl.length≤100000,.tup [.int .i64 (RS.mk sc us pw hk hs hn hp port opq pn pl hq q hf fg bare sp rst).aY.2,aE 1 (.raw (.pointer none)) sc us pw ((RS.mk sc us pw hk hs hn hp port opq pn pl hq q hf fg bare sp rst).aY.1.hk) ((RS.mk sc us pw hk hs hn hp port opq pn pl hq q hf fg bare sp rst).aY.1.hs) ((RS.mk sc us pw hk hs hn hp port opq pn pl hq q hf fg bare sp rst).aY.1.hn) ((RS.mk sc us pw hk hs hn hp port opq pn pl hq q hf fg bare sp rst).aY.1.hp) port opq ((RS.mk sc us pw hk hs hn hp port opq pn pl hq q hf fg bare sp rst).aY.1.pn) ((RS.mk sc us pw hk hs hn hp port opq pn pl hq q hf fg bare sp rst).aY.1.pl) hq q hf fg bare sp ((RS.mk sc us pw hk hs hn hp port opq pn pl hq q hf fg bare sp rst).aY.1.rst)]⟩
 |_=>none
theorem vP:∀xs c,og xs=some c→ag Tryz.prog aA 76 xs c:=fun xs c h=>by
 unfold og at h
 split at h
 ·injection h with h;subst h;exact Hd _ _ _ _ _ _ _ _ _ _ _ _ _ _ _ _ _ _
 ·cases h
end
section
def uf:cp:=bP [(119,mJ),(27,dQ)]
def ug(sc us pw:Bs)(hk:Int)(hs:Bs)(hn:Int)(hp:List Int)(port:Int)(opq pn:Bool)(pl:List Bs)(hq:Bool)(q:Bs)(hf:Bool)(fg:Bs)(bare sp:Bool)(rst:Bs):ba:=fun i=>none
theorem vQ:cR Tryz.prog aA uf:=ai oX (ai dR (ax))
theorem AW(sc us pw:Bs)(hk:Int)(hs:Bs)(hn:Int)(hp:List Int)(port:Int)(opq pn:Bool)(pl:List Bs)(hq:Bool)(q:Bs)(hf:Bool)(fg:Bs)(bare sp:Bool)(rst:Bs)(k:PV→List PV→Prop):bQ Tryz.prog uf aA (ug sc us pw hk hs hn hp port opq pn pl hq q hf fg bare sp rst) 1000 Tryz.f75 [.ptr 0 0] [aE 1 (.raw (.pointer none)) sc us pw hk hs hn hp port opq pn pl hq q hf fg bare sp rst] k=(
 (List.length rst≤(300000:Nat)∧
 (ab rst rst (0:Nat)).2.2=false)∧
 (false=true→
 True∧
 ((!false)=true→
 False)∧
 ((!false)=true→
 False)∧
 ((!false)=true→
 False)∧
 False)∧
 (false=false→
 (true=true→
 (true=true→
 k (PV.int .i64 (8:Int)) [bT (PV.raw (Go.Value.pointer none)) 1 sc us pw hk hs hn hp port opq pn pl hq q hf fg bare sp rst])∧
 (true=false→
 False))∧
 (true=false→
 False))):=by kernel_rfl
attribute [local irreducible] Go.Vc.cB Go.Vc.bQ
theorem vR(sc us pw:Bs)(hk:Int)(hs:Bs)(hn:Int)(hp:List Int)(port:Int)(opq pn:Bool)(pl:List Bs)(hq:Bool)(q:Bs)(hf:Bool)(fg:Bs)(bare sp:Bool)(rst:Bs):bt Tryz.prog aA 75 [.ptr 0 0] [aE 1 (.raw (.pointer none)) sc us pw hk hs hn hp port opq pn pl hq q hf fg bare sp rst] (rst.length≤300000∧(ab rst rst 0).2.2=false) (.int .i64 8) [aE 1 (.raw (.pointer none)) sc us pw hk hs hn hp port opq pn pl hq q hf fg bare sp rst]:=bG (by kernel_rfl) vQ (H:=ug sc us pw hk hs hn hp port opq pn pl hq q hf fg bare sp rst) (fuel:=1000) Tryz.func75 (by kernel_rfl) (Nat.le_of_ble_eq_true rfl) fun hpre=>(AW sc us pw hk hs hn hp port opq pn pl hq q hf fg bare sp rst _).mpr (by
 exact ⟨hpre,fun h=>(by cases h),fun _=>⟨fun _=>⟨fun _=>⟨rfl,rfl⟩,fun h=>(by cases h)⟩,fun h=>(by cases h)⟩⟩)
theorem AX(sc us pw:Bs)(hk:Int)(hs:Bs)(hn:Int)(hp:List Int)(port:Int)(opq pn:Bool)(pl:List Bs)(hq:Bool)(q:Bs)(hf:Bool)(fg:Bs)(bare sp:Bool)(rst:Bs):ag Tryz.prog aA 75 [.ptr 0 0,aE 1 (.raw (.pointer none)) sc us pw hk hs hn hp port opq pn pl hq q hf fg bare sp rst] ⟨rst.length≤300000∧(ab rst rst 0).2.2=false,.tup [.int .i64 8,aE 1 (.raw (.pointer none)) sc us pw hk hs hn hp port opq pn pl hq q hf fg bare sp rst]⟩:=ag.bg (fun h=>by have e:List.isEmpty (PV.aB PV.bD [.ptr 0 0,aE 1 (.raw (.pointer none)) sc us pw hk hs hn hp port opq pn pl hq q hf fg bare sp rst])=false:=(by kernel_rfl);exact Bool.noConfusion (e.symm.trans (congrArg List.isEmpty h))) (vR sc us pw hk hs hn hp port opq pn pl hq q hf fg bare sp rst)
def kd:List PV→Option aG:=fun xs=>match xs with
 |[.ptr 0 0,aE 1 (.raw (.pointer none)) sc us pw hk hs hn hp port opq pn pl hq q hf fg bare sp rst]=>some ⟨rst.length≤300000∧(ab rst rst 0).2.2=false,.tup [.int .i64 8,aE 1 (.raw (.pointer none)) sc us pw hk hs hn hp port opq pn pl hq q hf fg bare sp rst]⟩
 |_=>none
theorem rI:∀xs c,kd xs=some c→ag Tryz.prog aA 75 xs c:=fun xs c h=>by
 unfold kd at h
 split at h
 ·injection h with h;subst h;exact AX _ _ _ _ _ _ _ _ _ _ _ _ _ _ _ _ _ _
 ·cases h
end
end Go.Proofs.YtmfapopclbnlpaaGreatDoor
