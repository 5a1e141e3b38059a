import Derived.Test.YtmfapopclbnlpaaGreatDoorProg
import Derived.ProofKit
import Derived.Test.YtmfapopclbnlpaaGreatDoorUt6
import Derived.Test.YtmfapopclbnlpaaGreatDoorUt10
import Derived.Test.YtmfapopclbnlpaaGreatDoorUt18
import Derived.Test.YtmfapopclbnlpaaGreatDoorUt23
import Derived.Test.YtmfapopclbnlpaaGreatDoorUt24
set_option linter.unusedVariables false
set_option linter.unusedSimpArgs false
set_option maxRecDepth 100000
set_option maxHeartbeats 4000000
namespace Go.Proofs.YtmfapopclbnlpaaGreatDoor
open Go Go.Proofs Go.RowKit Go.Vc
section
def gQ(l:Bs):H5:=if preB l [91]=true then eN (l.drop 1)else if jc l nu=true then Fy 8 else if l=[]then(1,[],0,z8,0)else(5,w6 l,0,z8,0)
def s6:cq:=bN [(78,cY),(74,mg),(161,mm),(162,ml),(26,ql)]
def s7(l:Bs):aY:=fun i=>none
theorem uM:cS Tryz.prog ay s6:=ai cG (ai lf (ai ou (ai ot (ai w7 (ax)))))
theorem zC(l:Bs)(k:PV→Prop):cC Tryz.prog s6 ay (s7 l) 1000 Tryz.f136 [.str l,.bool false] k=(
 True∧
 (preB l (ByteArray.mk #[91]).data.toList=true→
 ((1:Nat)≤List.length l∧List.length l≤(1000000:Nat))∧
 k
 (PV.tup
 [PV.agg
 [PV.int .i64 (eN (List.drop (1:Nat) l)).1,
 PV.str (eN (List.drop (1:Nat) l)).2.1,
 PV.int .u32 (eN (List.drop (1:Nat) l)).2.2.1,
 PV.arr (8:Nat) (aq.ints .u16 (eN (List.drop (1:Nat) l)).2.2.2.1)],
 PV.int .i64 (eN (List.drop (1:Nat) l)).2.2.2.2]))∧
 (preB l (ByteArray.mk #[91]).data.toList=false→
 (false=true→
 (List.length l).le (1000000:Nat)∧
 k
 (PV.tup
 [PV.agg
 [PV.int .i64
 (et (cc (cl l))).1,
 PV.str
 (et
 (cc (cl l))).2.1,
 PV.int .u32
 (et
 (cc (cl l))).2.2.1,
 PV.arr (8:Nat)
 (aq.ints .u16
 (et
 (cc (cl l))).2.2.2.1)],
 PV.int .i64
 (et
 (cc (cl l))).2.2.2.2]))∧
 (false=false→
 (List.length l≤(1000000:Nat)∧
 (ByteArray.mk
 #[0,9,10,13,32,35,47,58,60,62,63,64,91,92,93,94,124]).data.toList.length≤
 (1000000:Nat)∧
 ∀(b:UInt8),
 b∈
 (ByteArray.mk
 #[0,9,10,13,32,35,47,58,60,62,63,64,91,92,93,94,124]).data.toList→
 b.toNat<(128:Nat))∧
 (jc l
 (ByteArray.mk
 #[0,9,10,13,32,35,47,58,60,62,63,64,91,92,93,94,124]).data.toList=
 true→
 k
 (PV.tup
 [PV.agg
 [PV.int .i64 (0:Int),PV.str [],PV.int .u32 (0:Int),
 PV.arr (8:Nat) (aq.ints .u16 (List.replicate (8:Nat) (0:Int)))],
 PV.int .i64 (8:Int)]))∧
 (jc l
 (ByteArray.mk
 #[0,9,10,13,32,35,47,58,60,62,63,64,91,92,93,94,124]).data.toList=
 false→
 (decide (l=(ByteArray.mk #[]).data.toList)=true→
 k
 (PV.tup
 [PV.agg
 [PV.int .i64 (1:Int),PV.str [],PV.int .u32 (0:Int),
 PV.arr (8:Nat) (aq.ints .u16 (List.replicate (8:Nat) (0:Int)))],
 PV.int .i64 (0:Int)]))∧
 (decide (l=(ByteArray.mk #[]).data.toList)=false→
 (List.length l).le (300000:Nat)∧
 k
 (PV.tup
 [PV.agg
 [PV.int .i64 (5:Int),PV.str (w6 l),
 PV.int .u32 (0:Int),
 PV.arr (8:Nat) (aq.ints .u16 (List.replicate (8:Nat) (0:Int)))],
 PV.int .i64 (0:Int)])))))):=by kernel_rfl
attribute [local irreducible] Go.Vc.cC
theorem zD(l:Bs):ag Tryz.prog ay 136 [.str l,.bool false] ⟨l.length≤300000,.tup [.agg [.int .i64 (gQ l).1,.str (gQ l).2.1,.int .u32 (gQ l).2.2.1,.arr 8 (.ints .u16 (gQ l).2.2.2.1)],.int .i64 (gQ l).2.2.2.2]⟩:=cj (by kernel_rfl) uM (H:=s7 l) (fuel:=1000) Tryz.func136 (by kernel_rfl) fun hpre=>(zC l _).mpr (by
 have e91:(ByteArray.mk #[91]).data.toList=([91]:Bs):=rfl
 rw [e91]
 refine ⟨trivial,fun h=>⟨⟨?_,by omega⟩,?_⟩,fun h=>⟨fun h=>(by cases h),fun _=>⟨⟨by omega,by decide,by decide⟩,fun h2=>?_,fun h2=>⟨fun h3=>?_,fun h3=>?_⟩⟩⟩⟩
 ·cases l with
  |nil=>cases h
  |cons b r=>rw [List.length_cons];omega
 ·have:gQ l=eN (l.drop 1):=by unfold gQ;rw [if_pos h]
  rw [this]
 ·have h2':jc l nu=true:=h2
  have:gQ l=Fy 8:=by unfold gQ;rw [if_neg (by rw [h];decide),if_pos h2']
  rw [this];rfl
 ·have h2':jc l nu=false:=h2
  have h3':l=[]:=of_decide_eq_true h3
  have:gQ l=(1,[],0,z8,0):=by unfold gQ;rw [if_neg (by rw [h];decide),if_neg (by rw [h2'];decide),if_pos h3']
  rw [this];rfl
 ·have h2':jc l nu=false:=h2
  have h3':¬l=[]:=of_decide_eq_false h3
  have:gQ l=(5,w6 l,0,z8,0):=by unfold gQ;rw [if_neg (by rw [h];decide),if_neg (by rw [h2'];decide),if_neg h3']
  rw [this]
  exact ⟨hpre,rfl⟩)
end
theorem xj {l:Bs}{x:Int}(h0:0≤x)(h1:x<l.length):l.drop x.toNat=l.getD x.toNat 0::l.drop (x+1).toNat:=by
 have hs:(x+1).toNat=x.toNat+1:=by omega
 rw [hs,List.drop_eq_getElem_cons (by omega),List.getD_eq_getElem?_getD,List.getElem?_eq_getElem (by omega)]
 rfl
theorem s8 {l:Bs}{x:Int}(h1:¬x<l.length):l.drop x.toNat=[]:=by rw [List.drop_eq_nil_iff];omega
structure RS where
 sc:Bs
 us:Bs
 pw:Bs
 hk:Int
 hs:Bs
 hn:Int
 hp:List Int
 port:Int
 opq:Bool
 pn:Bool
 pl:List Bs
 hq:Bool
 q:Bs
 hf:Bool
 fg:Bs
 bare:Bool
 sp:Bool
 rst:Bs
@[match_pattern] abbrev bD (m:Nat) (sc us pw:Bs) (hk:Int) (hs:Bs) (hn:Int) (hp:List Int) (port:Int) (opq pn:Bool) (pl:List Bs) (hq:Bool) (q:Bs) (hf:Bool) (fg:Bs):PV:=.agg [.str sc,.str us,.str pw,.agg [.int .i64 hk,.str hs,.int .u32 hn,.arr 8 (.ints .u16 hp)],.int .i64 port,.bool opq,.row pn (.strs pl) m,.bool hq,.str q,.bool hf,.str fg]
@[match_pattern] abbrev aC (m:Nat) (B:PV) (sc us pw:Bs) (hk:Int) (hs:Bs) (hn:Int) (hp:List Int) (port:Int) (opq pn:Bool) (pl:List Bs) (hq:Bool) (q:Bs) (hf:Bool) (fg:Bs) (bare sp:Bool) (rst:Bs):PV:=.agg [.agg [.str sc,.str us,.str pw,.agg [.int .i64 hk,.str hs,.int .u32 hn,.arr 8 (.ints .u16 hp)],.int .i64 port,.bool opq,.row pn (.strs pl) m,.bool hq,.str q,.bool hf,.str fg],B,.bool bare,.bool sp,.str rst]
def az(sp:Bool)(rst:Bs)(z:Int):Bool:=decide (z<ak rst)&&(decide (al rst z=47)||sp&&decide (al rst z=92))
theorem uN {sp:Bool}{rst:Bs}{z:Int}(h:az sp rst z=true):z<ak rst:=by by_cases g:z<ak rst;exact g;simp [az,g]at h
def aB:Nat→Bool→Int→Bs→Bs
 |0,_,_,l=>l
 |f+1,sp,n,l=>if az sp l 0=true∧(sp=true∨n<2)then aB f sp (n+1) (aa l 1)else l
theorem s9 {l:Bs}(h:0<l.length):(aa l 1).length+1=l.length:=by unfold aa;simp;omega
theorem xk {sp:Bool}{l:Bs}(h:az sp l 0=true):0<l.length:=by have:=uN h;unfold ak at this;omega
theorem xl {sp:Bool}{n:Int}{l:Bs}(h:az sp l 0=true∧(sp=true∨n<2)):aB l.length sp n l=aB (aa l 1).length sp (n+1) (aa l 1):=by
 rw [←s9 (xk h.1)]
 show(if _ then _ else _)=_
 rw [if_pos h]
theorem Bn {sp:Bool}{n:Int}{l:Bs}(h:¬(az sp l 0=true∧(sp=true∨n<2))):aB l.length sp n l=l:=by
 cases l with
 |nil=>rfl
 |cons b l=>
  show(if _ then _ else _)=_
  rw [if_neg h]
def bQ(l:Bs):Bool:=decide (l=[])||(decide (al l 0=63)||decide (al l 0=35))
def eO(sp:Bool):Bs:=if sp=true then [47,92]else [47]
def ah(sp:Bool)(l:Bs):Nat:=bd l (eO sp++[63,35])
def aE(l:Bs):Nat:=bd l [63,35]
def xm(l:Bs):Nat:=bd l [35]
def RS.shl(r:RS):RS:={r with rst:=if az r.sp r.rst 0=true then aa r.rst 1 else r.rst}
def RS.skip(r:RS):RS:={r with rst:=aB r.rst.length r.sp 0 r.rst}
def RS.cut(r:RS)(z:Int):RS:={r with rst:=aa r.rst z}
def kt:Bool→Int→Bs→Int
 |_,_,[]=>-1
 |w,i,b::l=>if b.toNat=91 then kt true (i+1) l else if b.toNat=93 then kt false (i+1) l else if b.toNat=58∧w=false then i else kt w (i+1) l
def bc(l:Bs):Int:=kt false 0 l
def iH:Int→Bs→Option Int
 |n,[]=>some n
 |n,b::l=>if 48≤b.toNat∧b.toNat≤57 then iH (min (n*10+(b.toNat-48)) 65536) l else none
def dQ(sc:Bs)(port:Int)(s:Bs):Int×Int:=match s with
 |[]=>(port,0)
 |s=>match iH 0 s with
  |none=>(port,8)
  |some n=>if 65535<n then(port,8)else if aw sc=true∧Ht sc=n then(port,0)else(n,0)
def aN(sp:Bool)(l:Bs):H5:=if sp=true then cu l else gQ l
def RS.bM(r:RS)(s:Bs):RS×Int:=
 if bc s=0∨(s=[]∧r.sp=true)then(r,8)else
 let name:=if 0<bc s then ae s (bc s)else s
 let pt:=if 0<bc s then aa s (bc s+1)else []
 let h:=aN r.sp name
 let r1:RS:={r with hk:=h.1,hs:=h.2.1,hn:=h.2.2.1,hp:=h.2.2.2.1}
 if h.2.2.2.2=0 then({r1 with port:=(dQ r.sc r.port pt).1},(dQ r.sc r.port pt).2)else(r1,h.2.2.2.2)
def RS.aX(r:RS):RS×Int:=
 let s:=ae r.rst (ah r.sp r.rst)
 let r1:=r.cut (ah r.sp r.rst)
 if 0≤aF s 64 then
  let r2:RS:={r1 with us:=aU 5 (cK (ae s (aF s 64)) 58),pw:=aU 5 (cU (ae s (aF s 64)) 58)}
  if aa s (aF s 64+1)=[]then(r2,8)else r2.bM (aa s (aF s 64+1))
 else r1.bM s
def KO:Bs:=[108,111,99,97,108,104,111,115,116]
def RS.av(r:RS):RS×Int:=
 let s:=ae r.rst (ah r.sp r.rst)
 let r1:=r.cut (ah r.sp r.rst)
 if s=[]then(r1,0)else
 let h:=cu s
 if h.1=2∧h.2.1=KO then(r1,h.2.2.2.2)else({r1 with hk:=h.1,hs:=h.2.1,hn:=h.2.2.1,hp:=h.2.2.2.1},h.2.2.2.2)
abbrev Pa:=Bool×List Bs
def bZ(sc:Bs)(p:Pa):Pa:=if p.2=[]∨(p.2.length=1∧sc=fL∧nj (p.2.getD 0 [])=true)then p else(p.1,p.2.take (p.2.length-1))
def zE(p:Pa)(last:Bool):Pa:=if last=true then(false,p.2++[[]])else p
def cH(sc:Bs)(p:Pa)(s:Bs)(last:Bool):Pa:=
 if ma s=true then zE (bZ sc p) last
 else if l9 s=true then zE p last
 else if sc=fL∧p.2=[]∧bL s=true then(false,p.2++[ae s 1++[58]])
 else(false,p.2++[aU 4 s])
def ta(sc:Bs)(m:Bs):Nat→Bs→Pa→Pa
 |0,_,p=>p
 |f+1,s,p=>if bd s m=s.length then cH sc p s true else ta sc m f (s.drop (bd s m+1)) (cH sc p (s.take (bd s m)) false)
theorem qu(sc m:Bs):∀(f g:Nat) (s:Bs) (p:Pa),s.length<f→s.length<g→ta sc m f s p=ta sc m g s p
 |0,_,_,_,h,_=>by omega
 |_,0,_,_,_,h=>by omega
 |f+1,g+1,s,p,h,h'=>by
  unfold ta
  by_cases e:bd s m=s.length
  ·rw [if_pos e,if_pos e]
  ·rw [if_neg e,if_neg e]
   have hl:=fv s m
   exact qu sc m f g _ _ (by rw [List.length_drop];omega) (by rw [List.length_drop];omega)
@[irreducible] def ov (sc m s:Bs) (p:Pa):Pa:=ta sc m (s.length+1) s p
theorem zF(sc m s:Bs)(p:Pa):ov sc m s p=if bd s m=s.length then cH sc p s true else ov sc m (s.drop (bd s m+1)) (cH sc p (s.take (bd s m)) false):=by
 unfold ov
 rw [ta]
 by_cases e:bd s m=s.length
 ·rw [if_pos e,if_pos e]
 ·rw [if_neg e,if_neg e]
  have hl:=fv s m
  exact qu sc m _ _ _ _ (by rw [List.length_drop];omega) (by rw [List.length_drop];omega)
def bo(sp:Bool)(sc:Bs)(s:Bs)(p:Pa):Pa:=ov sc (eO sp) s p
def RS.path(r:RS):RS:={r with
 pn:=(bo r.sp r.sc (ae r.rst (aE r.rst)) (r.pn,r.pl)).1
 pl:=(bo r.sp r.sc (ae r.rst (aE r.rst)) (r.pn,r.pl)).2
 rst:=aa r.rst (aE r.rst)}
def Lh:Bs:=[37,50,48]
def nz(s rest:Bs):Bs:=if rest≠[]∧0<s.length∧al s (s.length-1)=32 then aU 0 (ae s (s.length-1))++Lh else aU 0 s
def RS.o8(r:RS):RS:={r with opq:=true,pn:=false,pl:=[nz (ae r.rst (aE r.rst)) (aa r.rst (aE r.rst))],rst:=aa r.rst (aE r.rst)}
def RS.query(r:RS):RS:=if preB r.rst [63]=true then
    {r with hq:=true,q:=aU (if r.sp=true then 3 else 2) (ae (aa r.rst 1) (xm (aa r.rst 1))),rst:=aa (aa r.rst 1) (xm (aa r.rst 1))}
 else r
def RS.J7(r:RS):RS:=if preB r.rst [35]=true then {r with hf:=true,fg:=aU 1 (aa r.rst 1),rst:=aa r.rst 1}else r
def RS.tail(r:RS):RS:=r.query.J7
def RS.jf(r:RS):RS×Int:=if(ab r.rst r.rst 0).2.2=true then
    ({r with rst:=(ab r.rst r.rst 0).2.1,bare:=false,sc:=(ab r.rst r.rst 0).1,sp:=aw (ab r.rst r.rst 0).1},0)
 else(r,8)
def RS.bb(r:RS):RS×Int:=
 let r1:RS:={r with hk:=1}
 if az r.sp r.rst 0=true∧az r.sp r.rst 1=true then
  let r2:=r1.cut 2
  if bL (ae r2.rst (ah r2.sp r2.rst))=true then(r2.path,0)
  else if r2.av.2=0 then(r2.av.1.shl.path,0)else r2.av
 else(r1.shl.path,0)
def RS.b7(r:RS):RS×Int:=if r.aX.2=0 then
    (if r.aX.1.sp=false∧bQ r.aX.1.rst=true then(r.aX.1.tail,0)else(r.aX.1.shl.path.tail,0))
 else r.aX
def RS.ao(r:RS):RS×Int:=if r.jf.2=0 then
    let r1:=r.jf.1
    if r1.sc=fL then(if r1.bb.2=0 then(r1.bb.1.tail,0)else r1.bb)
    else if r1.sp=true then r1.skip.b7
    else if preB r1.rst [47,47]=true then(r1.cut 2).b7
    else if preB r1.rst [47]=true then((r1.cut 1).path.tail,0)
    else(r1.o8.tail,0)
 else r.jf
theorem FF {m xs:Bs}{y:UInt8}{zs:Bs}(h:∀b∈xs,m.contains b=false)(hy:m.contains y=true):bd (xs++y::zs) m=xs.length:=by
 unfold bd
 induction xs with
 |nil=>rw [List.nil_append,List.findIdx_cons,hy];rfl
 |cons x xs ih=>
  rw [List.cons_append,List.findIdx_cons,h x (List.mem_cons_self ..),ih (fun b hb=>h b (List.mem_cons_of_mem _ hb))]
  rfl
theorem nA(xs ys:Bs):ae (xs++ys) (xs.length:Int)=xs:=by unfold ae;rw [Int.toNat_natCast];simp
theorem C9(xs ys:Bs):aa (xs++ys) (xs.length:Int)=ys:=by unfold aa;rw [Int.toNat_natCast];simp
theorem Bo(l:Bs):∀(p r:Bs) (i:Nat),(∀b∈p,wU b=true)→ab l (p++r) i=ab l r (i+p.length)
 |[],r,i,_=>rfl
 |b::p,r,i,h=>by
  show(if wU b=true then ab l (p++r) (i+1)else _)=_
  rw [if_pos (h b (List.mem_cons_self ..)),Bo l p r (i+1) (fun c hc=>h c (List.mem_cons_of_mem _ hc))]
  congr 1
  simp;omega
theorem xn {p r:Bs}(hp:p≠[])(h:∀b∈p,wU b=true):ab (p++58::r) (p++58::r) 0=(cc p,r,true):=by
 rw [Bo _ p (58::r) 0 h]
 have h0:¬(0+p.length=0):=by simpa using hp
 show(if wU 58=true then _ else if 0+p.length=0 then _ else if(58:UInt8).toNat=58 then _ else _)=_
 rw [if_neg (by decide),if_neg h0]
 show(cc ((p++58::r).take (0+p.length)),(p++58::r).drop (0+p.length+1),true)=_
 rw [Nat.zero_add,List.take_left,←List.drop_drop,List.drop_left]
 rfl
theorem Bp {sp:Bool}{n:Int}(b:UInt8)(l:Bs)(hb:b=47∨(sp=true∧b=92))(hn:sp=true∨n<2):aB (b::l).length sp n (b::l)=aB l.length sp (n+1) l:=by
 have:az sp (b::l) 0=true:=by
  unfold az
  rw [decide_eq_true (show(0:Int)<ak (b::l) by unfold ak;rw [List.length_cons];omega)]
  rcases hb with rfl|⟨h1,rfl⟩
  ·rfl
  ·rw [h1];rfl
 rw [xl ⟨this,hn⟩]
 rfl
theorem Da {sp:Bool}{n:Int}{l:Bs}(h:az sp l 0=false):aB l.length sp n l=l:=Bn (by rw [h];simp)
def zG(b:UInt8):Bool:=decide (b.toNat≤32)
def jO(b:UInt8):Bool:=decide (b=9∨b=10∨b=13)
def da(l:Bs):Bs:=l.dropWhile zG
def eJ(l:Bs):Bs:=(l.reverse.dropWhile zG).reverse
def an(l:Bs):Bs:=(eJ (da (bP l))).filter (fun b=>!jO b)
theorem xo {l:Bs}(h:∀b∈l,32<b.toNat):da l=l:=by
 unfold da
 cases l with
 |nil=>rfl
 |cons b l=>
  have:=h b (List.mem_cons_self ..)
  rw [List.dropWhile_cons_of_neg]
  unfold zG
  rw [decide_eq_true_iff];omega
theorem FG {l:Bs}(h:∀b∈l,32<b.toNat):eJ l=l:=by
 have:=xo (l:=l.reverse) (fun b hb=>h b (List.mem_reverse.1 hb))
 unfold da at this
 unfold eJ
 rw [this,List.reverse_reverse]
theorem FH {l:Bs}(hv:bO l=true)(h:∀b∈l,32<b.toNat):an l=l:=by
 unfold an
 rw [gi hv,xo h,FG h,List.filter_eq_self]
 intro b hb
 have:=h b hb
 unfold jO
 rw [Bool.not_eq_true',decide_eq_false_iff_not]
 rintro (rfl|rfl|rfl)<;>revert this<;>decide
def RS.init(l:Bs):RS:=⟨[],[],[],0,[],0,z8,-1,false,true,[],false,[],false,[],false,false,l⟩
def KP:RS:={RS.init []with port:=0}
def Ld(p:RS×Int):RS×Int:=if p.2=0 then p else(KP,p.2)
def bz(l:Bs):RS×Int:=Ld (RS.init (an l)).ao
theorem rH {l p r:Bs}(hl:l=p++58::r)(hp:p≠[])(h:∀b∈p,wU b=true)(hf:cc p≠fL)(hs:aw (cc p)=true):
 (RS.init l).ao=({RS.init r with sc:=cc p,sp:=true,bare:=false}:RS).skip.b7:=by
 subst hl
 unfold RS.ao
 have e:(RS.init (p++58::r)).jf=({RS.init r with sc:=cc p,sp:=true,bare:=false},0):=by
  unfold RS.jf
  show(if(ab (p++58::r) (p++58::r) 0).2.2=true then _ else _)=_
  rw [show ab (RS.init (p++58::r)).rst (RS.init (p++58::r)).rst 0=(cc p,r,true)from xn hp h,xn hp h,if_pos rfl,hs]
  rfl
 rw [e,if_pos rfl]
 dsimp only
 rw [if_neg hf,if_pos rfl]
section
theorem qv(l:Bs):(bP l).length≤4*l.length:=by
 have a:=(lX (dS l)).2
 have b:=lW _ l (Nat.le_refl _)
 unfold bP;omega
theorem qw {b:UInt8}{r:Bs}(h:b.toNat≤32):da (b::r)=da r:=by
 unfold da
 rw [List.dropWhile_cons_of_pos]
 unfold zG;exact decide_eq_true h
theorem qx {b:UInt8}{r:Bs}(h:¬b.toNat≤32):da (b::r)=b::r:=by
 unfold da
 rw [List.dropWhile_cons_of_neg]
 unfold zG;rw [decide_eq_true_iff];exact h
theorem zH {b:UInt8}{r:Bs}(h:b.toNat≤32):eJ (r++[b])=eJ r:=by
 have:=qw (r:=r.reverse) h
 unfold da at this
 unfold eJ
 rw [List.reverse_append]
 show(List.dropWhile zG (b::r.reverse)).reverse=_
 rw [this]
theorem zI {b:UInt8}{r:Bs}(h:¬b.toNat≤32):eJ (r++[b])=r++[b]:=by
 have:=qx (r:=r.reverse) h
 unfold da at this
 unfold eJ
 rw [List.reverse_append]
 show(List.dropWhile zG (b::r.reverse)).reverse=_
 rw [this];simp
theorem FI {y m:Bs}(h:jc y m=false):∀b∈y,m.contains b=false:=by
 have h1:¬0≤Lib.indexAny y m:=of_decide_eq_false h
 have h2:=((zx m y).2 h1).2
 unfold bd at h2
 exact List.findIdx_eq_length.1 h2
theorem J8(c:UInt8):(bif bif !decide ((c.toNat:Int)=9)then !decide ((c.toNat:Int)=10)else false then !decide ((c.toNat:Int)=13)else false)=!jO c:=by
 have e:∀(d:UInt8),decide ((c.toNat:Int)=(d.toNat:Int))=decide (c=d):=fun d=>by
  rw [decide_eq_decide]
  exact ⟨fun h=>UInt8.toNat_inj.1 (by omega),fun h=>by rw [h]⟩
 have e9:=e 9
 have e10:=e 10
 have e13:=e 13
 rw [show(((9:UInt8).toNat:Nat):Int)=9 from rfl]at e9
 rw [show(((10:UInt8).toNat:Nat):Int)=10 from rfl]at e10
 rw [show(((13:UInt8).toNat:Nat):Int)=13 from rfl]at e13
 rw [e9,e10,e13]
 unfold jO
 by_cases h9:c=9<;>by_cases h10:c=10<;>by_cases h13:c=13<;>simp [h9,h10,h13]
theorem xp(y:Bs)(i:Int)(h0:0≤i)(h1:i<y.length):(y.take (i+1).toNat).filter (fun c=>!jO c)=(y.take i.toNat).filter (fun c=>!jO c)++(if jO (y.getD i.toNat 0)=true then []else [y.getD i.toNat 0]):=by
 have hs:(i+1).toNat=i.toNat+1:=by omega
 rw [hs,List.take_add_one,List.getElem?_eq_getElem (by omega),List.filter_append,List.getD_eq_getElem?_getD,List.getElem?_eq_getElem (by omega)]
 congr 1
 show List.filter _ [y[i.toNat]'(by omega)]=_
 rw [List.filter_cons,List.filter_nil]
 show(if(!jO (y[i.toNat]'(by omega)))=true then _ else _)=(if jO (y[i.toNat]'(by omega))=true then _ else _)
 cases jO (y[i.toNat]'(by omega))<;>rfl
def Bq:cq:=bN [(41,nv),(74,mg)]
def Br(l:Bs):aY:=fun i=>bif Nat.beq i 2 then some ⟨(Bs),(fun s x=>((s.put 0 (.str x)).put 14 .undef)),(fun s=>s.str 0),(fun s x=>let y:=x;y.length≤300000∧da y=da (bP l)),(fun s x=>let y:=x;y.length),[14]⟩else bif Nat.beq i 4 then some ⟨(Bs),(fun s x=>((s.put 0 (.str x)).put 26 .undef)),(fun s=>s.str 0),(fun s x=>let y:=x;y.length≤300000∧eJ y=eJ (da (bP l))),(fun s x=>let y:=x;y.length),[26]⟩else bif Nat.beq i 10 then some ⟨(Int)×(Bool×Bs),(fun s x=>((((((s.put 41 (.int .i64 x.1)).row s 3 x.2.1 (.bytes x.2.2)).put 4 .undef).put 5 .undef).put 42 .undef).put 56 .undef)),(fun s=>(s.int 41,(s.nil 3,s.bytes 3))),(fun s x=>let i:=x.1;let b:=x.2;0≤i∧i≤(s.str 0).length∧b.1=false∧b.2=((s.str 0).take i.toNat).filter (fun c=>!jO c)),(fun s x=>let i:=x.1;let b:=x.2;(((s.str 0).length:Int)-i).toNat),[4,5,42,56]⟩else none
theorem zJ:cS Tryz.prog ay Bq:=ai uI (ai lf (ax))
theorem FJ(l:Bs)(k:PV→Prop):cC Tryz.prog Bq ay (Br l) 1000 Tryz.f46 [.str l] k=(
 (List.length l).le (1000000:Nat)∧
 VS.mk []
 [(0,PV.str (bP l)),(2,PV.str (ByteArray.mk #[]).data.toList),
 (3,PV.undef),(4,PV.undef),(5,PV.undef),((14:Nat),PV.undef),(26,PV.undef),
 (34,PV.undef),(40,PV.undef),(41,PV.undef),(42,PV.undef),(56,PV.undef)]
 []=
 VS.mk []
 [((0:Nat),PV.str (bP l)),(2,PV.str (ByteArray.mk #[]).data.toList),
 (3,PV.undef),(4,PV.undef),(5,PV.undef),((14:Nat),PV.undef),(26,PV.undef),
 (34,PV.undef),(40,PV.undef),(41,PV.undef),(42,PV.undef),(56,PV.undef)]
 []∧
 ((bP l).length≤(300000:Nat)∧
 da (bP l)=
 da (bP l))∧
 ∀(x:List UInt8),
 x.length≤(300000:Nat)∧
 da x=da (bP l)→
 ((!decide (x=(ByteArray.mk #[]).data.toList))=true→within (0:Int) (ak x))∧
 ((bif !decide (x=(ByteArray.mk #[]).data.toList)then decide (al x (0:Int)≤(32:Int))else false)=true→
 upto (1:Int) (ak x) (ak x)∧
 r6 (VS.mk []
 [((0:Nat),PV.str (aa x (1:Int))),(2,PV.str (ByteArray.mk #[]).data.toList),
 (3,PV.undef),(4,PV.undef),(5,PV.undef),((14:Nat),PV.undef),
 (26,PV.undef),(34,PV.undef),(40,PV.undef),(41,PV.undef),
 (42,PV.undef),(56,PV.undef)]
 [])∧
 ((aa x (1:Int)).length≤(300000:Nat)∧
 da (aa x (1:Int))=
 da (bP l))∧
 (aa x (1:Int)).length<x.length)∧
 ((bif !decide (x=(ByteArray.mk #[]).data.toList)then decide (al x (0:Int)≤(32:Int))else false)=false→
 r6 (VS.mk []
 [((0:Nat),PV.str x),(2,PV.str (ByteArray.mk #[]).data.toList),(3,PV.undef),
 (4,PV.undef),(5,PV.undef),
 ((14:Nat),
 PV.bool (bif !decide (x=(ByteArray.mk #[]).data.toList)then decide (al x (0:Int)≤(32:Int))else false)),
 ((26:Nat),PV.undef),(34,PV.undef),(40,PV.undef),(41,PV.undef),
 (42,PV.undef),(56,PV.undef)]
 [])∧
 (x.length≤(300000:Nat)∧
 eJ x=
 eJ (da (bP l)))∧
 ∀(x_1:List UInt8),
 x_1.length≤(300000:Nat)∧
 eJ x_1=
 eJ
 (da (bP l))→
 ((!decide (x_1=(ByteArray.mk #[]).data.toList))=true→aD (ak x_1-(1:Int)))∧
 ((!decide (x_1=(ByteArray.mk #[]).data.toList))=true→within (ak x_1-(1:Int)) (ak x_1))∧
 ((bif !decide (x_1=(ByteArray.mk #[]).data.toList)then decide (al x_1 (ak x_1-(1:Int))≤(32:Int))
 else false)=
 true→
 aD (ak x_1-(1:Int))∧
 upto (0:Int) (ak x_1-(1:Int)) (ak x_1)∧
 r6 (VS.mk []
 [((0:Nat),PV.str (ae x_1 (ak x_1-(1:Int)))),
 (2,PV.str (ByteArray.mk #[]).data.toList),(3,PV.undef),(4,PV.undef),
 (5,PV.undef),
 ((14:Nat),
 PV.bool
 (bif !decide (x=(ByteArray.mk #[]).data.toList)then decide (al x (0:Int)≤(32:Int))
 else false)),
 ((26:Nat),PV.undef),(34,PV.undef),(40,PV.undef),
 (41,PV.undef),(42,PV.undef),(56,PV.undef)]
 [])∧
 ((ae x_1 (ak x_1-(1:Int))).length≤(300000:Nat)∧
 eJ (ae x_1 (ak x_1-(1:Int)))=
 eJ
 (da (bP l)))∧
 (ae x_1 (ak x_1-(1:Int))).length<x_1.length)∧
 ((bif !decide (x_1=(ByteArray.mk #[]).data.toList)then decide (al x_1 (ak x_1-(1:Int))≤(32:Int))
 else false)=
 false→
 (x_1.length≤(1000000:Nat)∧
 (ByteArray.mk #[9,10,13]).data.toList.length≤(1000000:Nat)∧
 ∀(b:UInt8),b∈(ByteArray.mk #[9,10,13]).data.toList→b.toNat<(128:Nat))∧
 ((!jc x_1 (ByteArray.mk #[9,10,13]).data.toList)=
 true→
 k (PV.str x_1))∧
 ((!jc x_1 (ByteArray.mk #[9,10,13]).data.toList)=
 false→
 ((0:Int)≤(0:Int)∧(0:Int)≤ak x_1∧ak x_1≤dd)∧
 VS.mk []
 [((0:Nat),PV.str x_1),(2,PV.str (ByteArray.mk #[]).data.toList),
 (3,
 PV.row false (aq.bytes (List.replicate (Int.toNat (0:Int)) (0:UInt8)))
 ((38:Nat)+(32:Nat))),
 ((4:Nat),PV.undef),((5:Nat),PV.undef),
 ((14:Nat),
 PV.bool
 (bif !decide (x=(ByteArray.mk #[]).data.toList)then decide (al x (0:Int)≤(32:Int))
 else false)),
 ((26:Nat),
 PV.bool
 (bif !decide (x_1=(ByteArray.mk #[]).data.toList)then
 decide (al x_1 (ak x_1-(1:Int))≤(32:Int))
 else false)),
 (34,
 PV.bool
 !jc x_1
 (ByteArray.mk #[9,10,13]).data.toList),
 (40,PV.int .i64 (ak x_1)),(41,PV.int .i64 (0:Int)),
 ((42:Nat),PV.undef),((56:Nat),PV.undef)]
 []=
 VS.mk []
 [((0:Nat),PV.str x_1),(2,PV.str (ByteArray.mk #[]).data.toList),
 ((3:Nat),
 PV.row false (aq.bytes (List.replicate (Int.toNat (0:Int)) (0:UInt8)))
 ((38:Nat)+(32:Nat))),
 ((4:Nat),PV.undef),((5:Nat),PV.undef),
 ((14:Nat),
 PV.bool
 (bif !decide (x=(ByteArray.mk #[]).data.toList)then decide (al x (0:Int)≤(32:Int))
 else false)),
 ((26:Nat),
 PV.bool
 (bif !decide (x_1=(ByteArray.mk #[]).data.toList)then
 decide (al x_1 (ak x_1-(1:Int))≤(32:Int))
 else false)),
 (34,
 PV.bool
 !jc x_1
 (ByteArray.mk #[9,10,13]).data.toList),
 (40,PV.int .i64 (ak x_1)),((41:Nat),PV.int .i64 (0:Int)),
 ((42:Nat),PV.undef),((56:Nat),PV.undef)]
 []∧
 ((0:Int)≤(0:Int)∧
 (0:Int)≤↑x_1.length∧
 false=false∧
 List.replicate (Int.toNat (0:Int)) (0:UInt8)=
 List.filter (fun(c:UInt8)↦!jO c)
 (List.take (Int.toNat (0:Int)) x_1))∧
 ∀(x_2:Int×Bool×Bs),
 (0:Int)≤x_2.1∧
 x_2.1≤↑x_1.length∧
 x_2.2.1=false∧
 x_2.2.2=
 List.filter (fun(c:UInt8)↦!jO c)
 (List.take x_2.1.toNat x_1)→
 (decide (x_2.1<ak x_1)=true→
 within x_2.1 (ak x_1)∧
 ((bif
 bif !decide (al x_1 x_2.1=(9:Int))then
 !decide (al x_1 x_2.1=(10:Int))
 else false then
 !decide (al x_1 x_2.1=(13:Int))
 else false)=
 true→
 lD [PV.int .u8 (al x_1 x_2.1)]∧
 Int.ofNat (List.length (x_2.2.2++[bR (al x_1 x_2.1)]))≤dd∧
 aD (x_2.1+(1:Int))∧
 VS.mk []
 [((0:Nat),PV.str x_1),(2,PV.str (ByteArray.mk #[]).data.toList),
 ((3:Nat),
 PV.row false
 (aq.bytes (x_2.2.2++[bR (al x_1 x_2.1)]))
 (nat_lit 69+(1:Nat))),
 ((4:Nat),PV.undef),((5:Nat),PV.undef),
 ((14:Nat),
 PV.bool
 (bif !decide (x=(ByteArray.mk #[]).data.toList)then
 decide (al x (0:Int)≤(32:Int))
 else false)),
 ((26:Nat),
 PV.bool
 (bif !decide (x_1=(ByteArray.mk #[]).data.toList)then
 decide (al x_1 (ak x_1-(1:Int))≤(32:Int))
 else false)),
 (34,
 PV.bool
 !jc x_1
 (ByteArray.mk #[9,10,13]).data.toList),
 (40,PV.int .i64 (ak x_1)),
 ((41:Nat),PV.int .i64 (x_2.1+(1:Int))),
 ((42:Nat),PV.undef),((56:Nat),PV.undef)]
 []=
 VS.mk []
 [((0:Nat),PV.str x_1),(2,PV.str (ByteArray.mk #[]).data.toList),
 ((3:Nat),
 PV.row false
 (aq.bytes (x_2.2.2++[bR (al x_1 x_2.1)]))
 ((38:Nat)+(32:Nat))),
 ((4:Nat),PV.undef),((5:Nat),PV.undef),
 ((14:Nat),
 PV.bool
 (bif !decide (x=(ByteArray.mk #[]).data.toList)then
 decide (al x (0:Int)≤(32:Int))
 else false)),
 ((26:Nat),
 PV.bool
 (bif !decide (x_1=(ByteArray.mk #[]).data.toList)then
 decide (al x_1 (ak x_1-(1:Int))≤(32:Int))
 else false)),
 (34,
 PV.bool
 !jc x_1
 (ByteArray.mk #[9,10,13]).data.toList),
 (40,PV.int .i64 (ak x_1)),
 ((41:Nat),PV.int .i64 (x_2.1+(1:Int))),
 ((42:Nat),PV.undef),((56:Nat),PV.undef)]
 []∧
 ((0:Int)≤x_2.1+(1:Int)∧
 x_2.1+(1:Int)≤↑x_1.length∧
 false=false∧
 x_2.2.2++[bR (al x_1 x_2.1)]=
 List.filter (fun(c:UInt8)↦!jO c)
 (List.take (x_2.1+(1:Int)).toNat x_1))∧
 (↑x_1.length-(x_2.1+(1:Int))).toNat<(↑x_1.length-x_2.1).toNat)∧
 ((bif
 bif !decide (al x_1 x_2.1=(9:Int))then
 !decide (al x_1 x_2.1=(10:Int))
 else false then
 !decide (al x_1 x_2.1=(13:Int))
 else false)=
 false→
 aD (x_2.1+(1:Int))∧
 r6 (VS.mk []
 [((0:Nat),PV.str x_1),(2,PV.str (ByteArray.mk #[]).data.toList),
 ((3:Nat),
 PV.row x_2.2.1 (aq.bytes x_2.2.2) ((38:Nat)+(32:Nat))),
 ((4:Nat),PV.undef),((5:Nat),PV.undef),
 ((14:Nat),
 PV.bool
 (bif !decide (x=(ByteArray.mk #[]).data.toList)then
 decide (al x (0:Int)≤(32:Int))
 else false)),
 ((26:Nat),
 PV.bool
 (bif !decide (x_1=(ByteArray.mk #[]).data.toList)then
 decide (al x_1 (ak x_1-(1:Int))≤(32:Int))
 else false)),
 (34,
 PV.bool
 !jc x_1
 (ByteArray.mk #[9,10,13]).data.toList),
 (40,PV.int .i64 (ak x_1)),
 ((41:Nat),PV.int .i64 (x_2.1+(1:Int))),
 ((42:Nat),PV.undef),((56:Nat),PV.undef)]
 [])∧
 ((0:Int)≤x_2.1+(1:Int)∧
 x_2.1+(1:Int)≤↑x_1.length∧
 x_2.2.1=false∧
 x_2.2.2=
 List.filter (fun(c:UInt8)↦!jO c)
 (List.take (x_2.1+(1:Int)).toNat x_1))∧
 (↑x_1.length-(x_2.1+(1:Int))).toNat<(↑x_1.length-x_2.1).toNat))∧
 (decide (x_2.1<ak x_1)=false→k (PV.str x_2.2.2)))))):=by kernel_rfl
attribute [local irreducible] Go.Vc.cC
theorem FK(l:Bs):ag Tryz.prog ay 46 [.str l] ⟨l.length≤60000,.str (an l)⟩:=cj (by kernel_rfl) zJ (H:=Br l) (fuel:=1000) Tryz.func46 (by kernel_rfl) fun hpre=>(FJ l _).mpr (by
 have hp:=qv l
 have e0:(ByteArray.mk #[]).data.toList=([]:Bs):=rfl
 have h9:∀b:UInt8,b∈(ByteArray.mk #[9,10,13]).data.toList→b.toNat<128:=by rw [show(ByteArray.mk #[9,10,13]).data.toList=([9,10,13]:Bs)from rfl];decide
 have ne:∀x:Bs,(!decide (x=(ByteArray.mk #[]).data.toList))=true→0<x.length:=fun x h=>by
  have h':decide (x=(ByteArray.mk #[]).data.toList)=false:=by simpa using h
  exact List.length_pos_iff.2 (of_decide_eq_false h')
 have d1:∀x:Bs,(bif !decide (x=(ByteArray.mk #[]).data.toList)then decide (al x (0:Int)≤(32:Int))else false)=true→∃b r,x=b::r∧b.toNat≤32:=fun x h=>by
  cases x with
  |nil=>cases h
  |cons b r=>
   refine ⟨b,r,rfl,?_⟩
   have:decide (al (b::r) (0:Int)≤(32:Int))=true:=h
   have:=of_decide_eq_true this
   have e:al (b::r) 0=(b.toNat:Int):=rfl
   omega
 have d0:∀x:Bs,(bif !decide (x=(ByteArray.mk #[]).data.toList)then decide (al x (0:Int)≤(32:Int))else false)=false→da x=x:=fun x h=>by
  cases x with
  |nil=>rfl
  |cons b r=>
   have:decide (al (b::r) (0:Int)≤(32:Int))=false:=h
   have:=of_decide_eq_false this
   have e:al (b::r) 0=(b.toNat:Int):=rfl
   exact qx (by omega)
 have lastb:∀(r:Bs) (b:UInt8),al (r++[b]) (ak (r++[b])-1)=(b.toNat:Int):=fun r b=>by
  unfold al ak
  have:(((r++[b]).length:Int)-1).toNat=r.length:=by simp
  rw [this];simp
 have g1:∀x:Bs,(bif !decide (x=(ByteArray.mk #[]).data.toList)then decide (al x (ak x-(1:Int))≤(32:Int))else false)=true→∃b r,x=r++[b]∧b.toNat≤32:=fun x h=>by
  rcases List.eq_nil_or_concat x with rfl|⟨r,b,rfl⟩
  ·cases h
  ·refine ⟨b,r,by simp,?_⟩
   rw [List.concat_eq_append]at h
   cases e:(!decide (r++[b]=(ByteArray.mk #[]).data.toList))with
   |false=>rw [e]at h;cases h
   |true=>
    rw [e]at h
    have:=of_decide_eq_true (show decide _=true from h)
    rw [lastb]at this
    omega
 have g0:∀x:Bs,(bif !decide (x=(ByteArray.mk #[]).data.toList)then decide (al x (ak x-(1:Int))≤(32:Int))else false)=false→eJ x=x:=fun x h=>by
  rcases List.eq_nil_or_concat x with rfl|⟨r,b,rfl⟩
  ·rfl
  ·rw [List.concat_eq_append]at h⊢
   cases e:(!decide (r++[b]=(ByteArray.mk #[]).data.toList))with
   |false=>
    have:decide (r++[b]=(ByteArray.mk #[]).data.toList)=true:=by rw [←Bool.not_eq_false'];exact e
    have:=of_decide_eq_true this
    exact absurd this (by rw [e0];simp)
   |true=>
    rw [e]at h
    have:=of_decide_eq_false (show decide _=false from h)
    rw [lastb]at this
    exact zI (by omega)
 refine ⟨show l.length≤1000000 by omega,rfl,⟨by omega,rfl⟩,fun x ⟨h1,h2⟩=>⟨fun h=>?_,fun h=>?_,fun h=>⟨rfl,⟨h1,by rw [←h2,d0 x h]⟩,fun y ⟨h3,h4⟩=>⟨fun g=>?_,fun g=>?_,fun g=>?_,fun g=>⟨⟨by omega,by decide,h9⟩,fun c=>?_,fun c=>⟨⟨Int.le_refl _,by unfold ak;omega,by unfold ak dd;omega⟩,rfl,⟨Int.le_refl _,by omega,rfl,rfl⟩,fun z ⟨z0,z1,z2,z3⟩=>⟨fun d=>?_,fun d=>?_⟩⟩⟩⟩⟩⟩⟩
 ·have:=ne x h;unfold within ak;omega
 ·obtain ⟨b,r,rfl,hb⟩:=d1 x h
  rw [qw hb]at h2
  rw [List.length_cons]at h1
  refine ⟨by unfold upto ak;rw [List.length_cons];omega,rfl,⟨?_,h2⟩,?_⟩
  ·show r.length≤_;omega
  ·show r.length<(b::r).length;rw [List.length_cons];omega
 ·have:=ne y g;unfold aD ak;omega
 ·have:=ne y g;unfold within ak;omega
 ·obtain ⟨b,r,rfl,hb⟩:=g1 y g
  rw [zH hb]at h4
  rw [List.length_append]at h3
  have hl:(r++[b]).length=r.length+1:=by simp
  have e:ae (r++[b]) (ak (r++[b])-1)=r:=by
   unfold ae ak
   have:(((r++[b]).length:Int)-1).toNat=r.length:=by simp
   rw [this,List.take_left]
  rw [e]
  exact ⟨by unfold aD ak;omega,by unfold upto ak;omega,rfl,⟨by omega,h4⟩,by omega⟩
 ·have hc:jc y [9,10,13]=false:=by simpa using c
  have h5:=FI hc
  have h6:y.filter (fun c=>!jO c)=y:=by
   rw [List.filter_eq_self]
   intro b hb
   have:=h5 b hb
   unfold jO
   rw [Bool.not_eq_true',decide_eq_false_iff_not]
   rintro (rfl|rfl|rfl)<;>revert this<;>decide
  show PV.str y=PV.str (an l)
  unfold an
  rw [←h4,g0 y g,h6]
 ·have hlt:z.1<y.length:=of_decide_eq_true d
  have hst:=xp y z.1 z0 hlt
  have hby:al y z.1=((y.getD z.1.toNat 0).toNat:Int):=rfl
  have hcr:=(y.getD z.1.toNat 0).toNat_lt
  have hzl:z.2.2.length≤y.length:=by rw [z3];exact Nat.le_trans (List.length_filter_le _ _) (by rw [List.length_take];exact Nat.min_le_right _ _)
  have hzb:bR (al y z.1)=y.getD z.1.toNat 0:=jH y z.1
  rw [hzb,hby,J8]
  refine ⟨⟨z0,hlt⟩,fun e=>⟨?_,?_,by unfold aD;omega,rfl,⟨by omega,by omega,rfl,?_⟩,by omega⟩,fun e=>⟨by unfold aD;omega,rfl,⟨by omega,by omega,z2,?_⟩,by omega⟩⟩
  ·show pd (((y.getD z.1.toNat 0).toNat:Nat):Int);unfold pd;omega
  ·rw [List.length_append]
   show((z.2.2.length+1:Nat):Int)≤16777216
   omega
  ·rw [hst,if_neg (by simpa using e),z3]
  ·rw [hst,if_pos (by simpa using e),z3,List.append_nil]
 ·have hge:¬z.1<y.length:=of_decide_eq_false d
  show PV.str z.2.2=PV.str (an l)
  unfold an
  rw [z3,←h4,g0 y g,List.take_of_length_le (by omega)])
def km:List PV→Option aI:=fun xs=>match xs with
 |[.str l]=>some ⟨l.length≤60000,.str (an l)⟩
 |_=>none
theorem mn:∀xs c,km xs=some c→ag Tryz.prog ay 46 xs c:=fun xs c h=>by
 unfold km at h
 split at h
 ·injection h with h;subst h;exact FK _
 ·cases h
end
def bT(b:PV)(m:Nat)(sc us pw:Bs)(hk:Int)(hs:Bs)(hn:Int)(hp:List Int)(port:Int)(opq pn:Bool)(pl:List Bs)(hq:Bool)(q:Bs)(hf:Bool)(fg:Bs)(bare sp:Bool)(rst:Bs):PV:=(aC m b sc us pw hk hs hn hp port opq pn pl hq q hf fg bare sp rst)
theorem zK(l:Bs)(sp:Bool):ag Tryz.prog ay 136 [.str l,.bool sp] ⟨l.length≤300000,.tup [.agg [.int .i64 (aN sp l).1,.str (aN sp l).2.1,.int .u32 (aN sp l).2.2.1,.arr 8 (.ints .u16 (aN sp l).2.2.2.1)],.int .i64 (aN sp l).2.2.2.2]⟩:=by
 cases sp with
 |true=>exact (s5 l).to (fun h=>by show l.length≤1000000;omega) (fun _=>rfl)
 |false=>exact (zD l).to (fun h=>h) (fun _=>rfl)
def jP:List PV→Option aI:=fun xs=>match xs with |[.str l,.bool sp]=>some ⟨l.length≤300000,.tup [.agg [.int .i64 (aN sp l).1,.str (aN sp l).2.1,.int .u32 (aN sp l).2.2.1,.arr 8 (.ints .u16 (aN sp l).2.2.2.1)],.int .i64 (aN sp l).2.2.2.2]⟩|_=>none
theorem qy:∀xs c,jP xs=some c→ag Tryz.prog ay 136 xs c:=fun xs c h=>by
 unfold jP at h
 split at h
 ·injection h with h;subst h;exact zK _ _
 ·cases h
theorem Ic(l:Bs):ag Tryz.prog ay 119 [.str l] ⟨l.length≤300000∧(ab l l 0).2.2=true,.tup [.str (ab l l 0).1,.str (ab l l 0).2.1,.bool true]⟩:=(s3 l).to (fun h=>h.1) (fun h=>by rw [h.2])
theorem Ie(l:Bs):ag Tryz.prog ay 119 [.str l] ⟨l.length≤300000∧(ab l l 0).2.2=false,.tup [.str (ab l l 0).1,.str (ab l l 0).2.1,.bool false]⟩:=(s3 l).to (fun h=>h.1) (fun h=>by rw [h.2])
def qA:List PV→Option aI:=fun xs=>match xs with |[.str l]=>some ⟨l.length≤300000∧(ab l l 0).2.2=true,.tup [.str (ab l l 0).1,.str (ab l l 0).2.1,.bool true]⟩|_=>none
theorem xq:∀xs c,qA xs=some c→ag Tryz.prog ay 119 xs c:=fun xs c h=>by
 unfold qA at h
 split at h
 ·injection h with h;subst h;exact Ic _
 ·cases h
def mo:List PV→Option aI:=fun xs=>match xs with |[.str l]=>some ⟨l.length≤300000∧(ab l l 0).2.2=false,.tup [.str (ab l l 0).1,.str (ab l l 0).2.1,.bool false]⟩|_=>none
theorem ow:∀xs c,mo xs=some c→ag Tryz.prog ay 119 xs c:=fun xs c h=>by
 unfold mo at h
 split at h
 ·injection h with h;subst h;exact Ie _
 ·cases h
def tb(l:Bs):Bool:=decide (l=[])||decide (al l 0=35)
def RS.KQ(x b:RS):RS:={x with hk:=b.hk,hs:=b.hs,hn:=b.hn,hp:=b.hp}
def RS.KR(x b:RS):RS:={x with pn:=b.pn,pl:=b.pl}
def RS.FL(x b:RS):RS:={x with hq:=b.hq,q:=b.q}
def RS.qB(x b:RS):RS:=if tb x.rst=true then x.FL b else x
def RS.short(x:RS):RS:={x with pn:=(bZ x.sc (x.pn,x.pl)).1,pl:=(bZ x.sc (x.pn,x.pl)).2}
def RS.b8(x b:RS):RS:=(((RS.KQ {x with hk:=1} b).KR b).short).path
def RS.au(x b:RS):RS:=(RS.b8 {x with sc:=b.sc,bare:=true,sp:=aw b.sc} b).tail
theorem J9(l:Bs):ag Tryz.prog ay 156 [.str l] ⟨l.length≤1000000,.bool (bm l)⟩:=
 ag.b6 Tryz.func156 (by kernel_rfl) rfl fun h0 F w vs _ _ hw hx=>by
  obtain ⟨_,_,rfl,r1,rfl⟩:=hx
  obtain rfl:=r1
  exact ⟨.bool (bm l),(za l w h0).mono fun e w' ⟨h1,h2⟩=>⟨h1,h2▸Below.refl _ _⟩,fun G w=>rfl⟩
def uO:List PV→Option aI:=fun xs=>match xs with
 |[.str l]=>some ⟨l.length≤1000000,.bool (bm l)⟩
 |_=>none
theorem zL:∀xs c,uO xs=some c→ag Tryz.prog ay 156 xs c:=fun xs c h=>by
 unfold uO at h
 split at h
 ·injection h with h;subst h;exact J9 _
 ·cases h
section
def td:cq:=bN [(119,mo),(27,dN),(78,cY)]
def te(sc us pw:Bs)(hk:Int)(hs:Bs)(hn:Int)(hp:List Int)(port:Int)(opq pn:Bool)(pl:List Bs)(hq:Bool)(q:Bs)(hf:Bool)(fg:Bs)(bare sp:Bool)(rst:Bs)(bsc bus bpw:Bs)(bhk:Int)(bhs:Bs)(bhn:Int)(bhp:List Int)(bport:Int)(bopq bpn:Bool)(bpl:List Bs)(bhq:Bool)(bq:Bs)(bhf:Bool)(bfg:Bs):aY:=fun i=>none
theorem uP:cS Tryz.prog ay td:=ai ow (ai dO (ai cG (ax)))
theorem zM(sc us pw:Bs)(hk:Int)(hs:Bs)(hn:Int)(hp:List Int)(port:Int)(opq pn:Bool)(pl:List Bs)(hq:Bool)(q:Bs)(hf:Bool)(fg:Bs)(bare sp:Bool)(rst:Bs)(bsc bus bpw:Bs)(bhk:Int)(bhs:Bs)(bhn:Int)(bhp:List Int)(bport:Int)(bopq bpn:Bool)(bpl:List Bs)(bhq:Bool)(bq:Bs)(bhf:Bool)(bfg:Bs)(k:PV→List PV→Prop):bK Tryz.prog td ay (te sc us pw hk hs hn hp port opq pn pl hq q hf fg bare sp rst bsc bus bpw bhk bhs bhn bhp bport bopq bpn bpl bhq bq bhf bfg) 1000 Tryz.f75 [.ptr 0 0] [aC 1 (.ptr 1 0) sc us pw hk hs hn hp port opq pn pl hq q hf fg bare sp rst,bD 0 bsc bus bpw bhk bhs bhn bhp bport bopq bpn bpl bhq bq bhf bfg] k=(
 (List.length rst≤(300000:Nat)∧
 (ab rst rst (0:Nat)).2.2=false)∧
 (false=true→
 True∧
 (bopq=true→
 False)∧
 (bopq=false→
 k (PV.int .i64 (0:Int)) [bT (PV.ptr (1:Nat) (0:Nat)) 1 ((ab rst rst (0:Nat)).1) us pw hk hs hn hp port opq pn pl hq q hf fg (!false) (aw (ab rst rst (0:Nat)).1) ((ab rst rst (0:Nat)).2.1),bD (0:Nat) bsc bus bpw bhk bhs bhn bhp bport bopq bpn bpl bhq bq bhf bfg]))∧
 (false=false→
 (false=true→
 (false=true→
 k (PV.int .i64 (8:Int)) [bT (PV.ptr (1:Nat) (0:Nat)) 1 sc us pw hk hs hn hp port opq pn pl hq q hf fg bare sp rst,bD (0:Nat) bsc bus bpw bhk bhs bhn bhp bport bopq bpn bpl bhq bq bhf bfg])∧
 (false=false→
 True∧
 (bopq=true→
 False)∧
 (bopq=false→
 k (PV.int .i64 (0:Int)) [bT (PV.ptr (1:Nat) (0:Nat)) 1 bsc us pw hk hs hn hp port opq pn pl hq q hf fg (!false) (aw bsc) rst,bD (0:Nat) bsc bus bpw bhk bhs bhn bhp bport bopq bpn bpl bhq bq bhf bfg])))∧
 (false=false→
 (bopq=true→
 True)∧
 ((bif bopq then !preB rst (ByteArray.mk #[35]).data.toList else false)=true→
 k (PV.int .i64 (8:Int)) [bT (PV.ptr (1:Nat) (0:Nat)) 1 sc us pw hk hs hn hp port opq pn pl hq q hf fg bare sp rst,bD (0:Nat) bsc bus bpw bhk bhs bhn bhp bport bopq bpn bpl bhq bq bhf bfg])∧
 ((bif bopq then !preB rst (ByteArray.mk #[35]).data.toList else false)=false→
 True∧
 (bopq=true→
 False)∧
 (bopq=false→
 k (PV.int .i64 (0:Int)) [bT (PV.ptr (1:Nat) (0:Nat)) 1 bsc us pw hk hs hn hp port opq pn pl hq q hf fg (!false) (aw bsc) rst,bD (0:Nat) bsc bus bpw bhk bhs bhn bhp bport bopq bpn bpl bhq bq bhf bfg]))))):=by kernel_rfl
attribute [local irreducible] Go.Vc.cC Go.Vc.bK
theorem uQ(sc us pw:Bs)(hk:Int)(hs:Bs)(hn:Int)(hp:List Int)(port:Int)(opq pn:Bool)(pl:List Bs)(hq:Bool)(q:Bs)(hf:Bool)(fg:Bs)(bare sp:Bool)(rst:Bs)(bsc bus bpw:Bs)(bhk:Int)(bhs:Bs)(bhn:Int)(bhp:List Int)(bport:Int)(bopq bpn:Bool)(bpl:List Bs)(bhq:Bool)(bq:Bs)(bhf:Bool)(bfg:Bs):bj Tryz.prog ay 75 [.ptr 0 0] [aC 1 (.ptr 1 0) sc us pw hk hs hn hp port opq pn pl hq q hf fg bare sp rst,bD 0 bsc bus bpw bhk bhs bhn bhp bport bopq bpn bpl bhq bq bhf bfg] (rst.length≤300000∧(ab rst rst 0).2.2=false∧bopq=false) (.int .i64 0) [aC 1 (.ptr 1 0) bsc us pw hk hs hn hp port opq pn pl hq q hf fg true (aw bsc) rst,bD 0 bsc bus bpw bhk bhs bhn bhp bport bopq bpn bpl bhq bq bhf bfg]:=bt (by kernel_rfl) uP (H:=te sc us pw hk hs hn hp port opq pn pl hq q hf fg bare sp rst bsc bus bpw bhk bhs bhn bhp bport bopq bpn bpl bhq bq bhf bfg) (fuel:=1000) Tryz.func75 (by kernel_rfl) (Nat.le_of_ble_eq_true rfl) fun hpre=>(zM sc us pw hk hs hn hp port opq pn pl hq q hf fg bare sp rst bsc bus bpw bhk bhs bhn bhp bport bopq bpn bpl bhq bq bhf bfg _).mpr (by
 obtain ⟨h1,h2,rfl⟩:=hpre
 exact ⟨⟨h1,h2⟩,nofun,fun _=>⟨nofun,fun _=>⟨nofun,nofun,fun _=>⟨trivial,nofun,fun _=>⟨rfl,rfl⟩⟩⟩⟩⟩)
theorem zN(sc us pw:Bs)(hk:Int)(hs:Bs)(hn:Int)(hp:List Int)(port:Int)(opq pn:Bool)(pl:List Bs)(hq:Bool)(q:Bs)(hf:Bool)(fg:Bs)(bare sp:Bool)(rst:Bs)(bsc bus bpw:Bs)(bhk:Int)(bhs:Bs)(bhn:Int)(bhp:List Int)(bport:Int)(bopq bpn:Bool)(bpl:List Bs)(bhq:Bool)(bq:Bs)(bhf:Bool)(bfg:Bs):ag Tryz.prog ay 75 [.ptr 0 0,aC 1 (.ptr 1 0) sc us pw hk hs hn hp port opq pn pl hq q hf fg bare sp rst,bD 0 bsc bus bpw bhk bhs bhn bhp bport bopq bpn bpl bhq bq bhf bfg] ⟨rst.length≤300000∧(ab rst rst 0).2.2=false∧bopq=false,.tup [.int .i64 0,aC 1 (.ptr 1 0) bsc us pw hk hs hn hp port opq pn pl hq q hf fg true (aw bsc) rst,bD 0 bsc bus bpw bhk bhs bhn bhp bport bopq bpn bpl bhq bq bhf bfg]⟩:=ag.aZ (fun h=>by have e:List.isEmpty (PV.aA PV.br [.ptr 0 0,aC 1 (.ptr 1 0) sc us pw hk hs hn hp port opq pn pl hq q hf fg bare sp rst,bD 0 bsc bus bpw bhk bhs bhn bhp bport bopq bpn bpl bhq bq bhf bfg])=false:=(by kernel_rfl);exact Bool.noConfusion (e.symm.trans (congrArg List.isEmpty h))) (uQ sc us pw hk hs hn hp port opq pn pl hq q hf fg bare sp rst bsc bus bpw bhk bhs bhn bhp bport bopq bpn bpl bhq bq bhf bfg)
def jQ:List PV→Option aI:=fun xs=>match xs with
 |[.ptr 0 0,aC 1 (.ptr 1 0) sc us pw hk hs hn hp port opq pn pl hq q hf fg bare sp rst,bD 0 bsc bus bpw bhk bhs bhn bhp bport bopq bpn bpl bhq bq bhf bfg]=>some ⟨rst.length≤300000∧(ab rst rst 0).2.2=false∧bopq=false,.tup [.int .i64 0,aC 1 (.ptr 1 0) bsc us pw hk hs hn hp port opq pn pl hq q hf fg true (aw bsc) rst,bD 0 bsc bus bpw bhk bhs bhn bhp bport bopq bpn bpl bhq bq bhf bfg]⟩
 |_=>none
theorem qC:∀xs c,jQ xs=some c→ag Tryz.prog ay 75 xs c:=fun xs c h=>by
 unfold jQ at h
 split at h
 ·injection h with h;subst h;exact zN _ _ _ _ _ _ _ _ _ _ _ _ _ _ _ _ _ _ _ _ _ _ _ _ _ _ _ _ _ _ _ _ _
 ·cases h
end
section
def Bt:cq:=bN []
def Bu(bp:Option Addr)(sc us pw:Bs)(hk:Int)(hs:Bs)(hn:Int)(hp:List Int)(port:Int)(opq pn:Bool)(pl:List Bs)(hq:Bool)(q:Bs)(hf:Bool)(fg:Bs)(bare sp:Bool)(rst:Bs)(at_:Int):aY:=fun i=>none
theorem zO:cS Tryz.prog ay Bt:=ax
theorem FM(bp:Option Addr)(sc us pw:Bs)(hk:Int)(hs:Bs)(hn:Int)(hp:List Int)(port:Int)(opq pn:Bool)(pl:List Bs)(hq:Bool)(q:Bs)(hf:Bool)(fg:Bs)(bare sp:Bool)(rst:Bs)(at_:Int)(k:PV→List PV→Prop):bK Tryz.prog Bt ay (Bu bp sc us pw hk hs hn hp port opq pn pl hq q hf fg bare sp rst at_) 1000 Tryz.f82 [.ptr 0 0,.int .i64 at_] [aC 1 (.raw (.pointer bp)) sc us pw hk hs hn hp port opq pn pl hq q hf fg bare sp rst] k=(
 (decide (at_<ak rst)=true→
 within at_ (ak rst))∧
 (decide (at_<ak rst)=true→
 decide (al rst at_=(47:Int))=false→
 sp=true→
 within at_ (ak rst))∧
 k (PV.bool (bif decide (at_<ak rst)then bif decide (al rst at_=(47:Int))then true else bif sp then decide (al rst at_=(92:Int))else false else false)) [bT (PV.raw (Go.Value.pointer bp)) 1 sc us pw hk hs hn hp port opq pn pl hq q hf fg bare sp rst]):=by kernel_rfl
attribute [local irreducible] Go.Vc.cC Go.Vc.bK
theorem qD(bp:Option Addr)(sc us pw:Bs)(hk:Int)(hs:Bs)(hn:Int)(hp:List Int)(port:Int)(opq pn:Bool)(pl:List Bs)(hq:Bool)(q:Bs)(hf:Bool)(fg:Bs)(bare sp:Bool)(rst:Bs)(at_:Int):bj Tryz.prog ay 82 [.ptr 0 0,.int .i64 at_] [aC 1 (.raw (.pointer bp)) sc us pw hk hs hn hp port opq pn pl hq q hf fg bare sp rst] (0≤at_∧at_<1000) (.bool (az sp rst at_)) [aC 1 (.raw (.pointer bp)) sc us pw hk hs hn hp port opq pn pl hq q hf fg bare sp rst]:=bt (by kernel_rfl) zO (H:=Bu bp sc us pw hk hs hn hp port opq pn pl hq q hf fg bare sp rst at_) (fuel:=1000) Tryz.func82 (by kernel_rfl) (Nat.le_of_ble_eq_true rfl) fun hpre=>(FM bp sc us pw hk hs hn hp port opq pn pl hq q hf fg bare sp rst at_ _).mpr (by
 refine ⟨fun h=>?_,fun h _ _=>?_,?_,rfl⟩
 ·unfold within;simp at h;omega
 ·unfold within;simp at h;omega
 ·congr 1
  by_cases h1:at_<ak rst<;>by_cases h2:al rst at_=47<;>cases sp<;>simp [az,h1,h2])
theorem FN(bp:Option Addr)(sc us pw:Bs)(hk:Int)(hs:Bs)(hn:Int)(hp:List Int)(port:Int)(opq pn:Bool)(pl:List Bs)(hq:Bool)(q:Bs)(hf:Bool)(fg:Bs)(bare sp:Bool)(rst:Bs)(at_:Int):ag Tryz.prog ay 82 [.ptr 0 0,.int .i64 at_,aC 1 (.raw (.pointer bp)) sc us pw hk hs hn hp port opq pn pl hq q hf fg bare sp rst] ⟨0≤at_∧at_<1000,.tup [.bool (az sp rst at_),aC 1 (.raw (.pointer bp)) sc us pw hk hs hn hp port opq pn pl hq q hf fg bare sp rst]⟩:=ag.aZ (fun h=>by have e:List.isEmpty (PV.aA PV.br [.ptr 0 0,.int .i64 at_,aC 1 (.raw (.pointer bp)) sc us pw hk hs hn hp port opq pn pl hq q hf fg bare sp rst])=false:=(by kernel_rfl);exact Bool.noConfusion (e.symm.trans (congrArg List.isEmpty h))) (qD bp sc us pw hk hs hn hp port opq pn pl hq q hf fg bare sp rst at_)
def gr:List PV→Option aI:=fun xs=>match xs with
 |[.ptr 0 0,.int .i64 at_,aC 1 (.raw (.pointer bp)) sc us pw hk hs hn hp port opq pn pl hq q hf fg bare sp rst]=>some ⟨0≤at_∧at_<1000,.tup [.bool (az sp rst at_),aC 1 (.raw (.pointer bp)) sc us pw hk hs hn hp port opq pn pl hq q hf fg bare sp rst]⟩
 |_=>none
theorem gj:∀xs c,gr xs=some c→ag Tryz.prog ay 82 xs c:=fun xs c h=>by
 unfold gr at h
 split at h
 ·injection h with h;subst h;exact FN _ _ _ _ _ _ _ _ _ _ _ _ _ _ _ _ _ _ _ _
 ·cases h
end
section
def ox:cq:=bN [(82,gr)]
def oy(bp:Option Addr)(sc us pw:Bs)(hk:Int)(hs:Bs)(hn:Int)(hp:List Int)(port:Int)(opq pn:Bool)(pl:List Bs)(hq:Bool)(q:Bs)(hf:Bool)(fg:Bs)(bare sp:Bool)(rst:Bs):aY:=fun i=>none
theorem qE:cS Tryz.prog ay ox:=ai gj (ax)
theorem uR(bp:Option Addr)(sc us pw:Bs)(hk:Int)(hs:Bs)(hn:Int)(hp:List Int)(port:Int)(opq pn:Bool)(pl:List Bs)(hq:Bool)(q:Bs)(hf:Bool)(fg:Bs)(bare sp:Bool)(rst:Bs)(k:PV→List PV→Prop):bK Tryz.prog ox ay (oy bp sc us pw hk hs hn hp port opq pn pl hq q hf fg bare sp rst) 1000 Tryz.f84 [.ptr 0 0] [aC 1 (.raw (.pointer bp)) sc us pw hk hs hn hp port opq pn pl hq q hf fg bare sp rst] k=(
 ((0:Int)≤(0:Int)∧
 (0:Int)<(1000:Int))∧
 ((!az sp rst (0:Int))=true→
 k (PV.bool false) [bT (PV.raw (Go.Value.pointer bp)) 1 sc us pw hk hs hn hp port opq pn pl hq q hf fg bare sp rst])∧
 ((!az sp rst (0:Int))=false→
 upto (1:Int) (ak rst) (ak rst)∧
 k (PV.bool true) [bT (PV.raw (Go.Value.pointer bp)) 1 sc us pw hk hs hn hp port opq pn pl hq q hf fg bare sp (aa rst (1:Int))])):=by kernel_rfl
attribute [local irreducible] Go.Vc.cC Go.Vc.bK
theorem jR(bp:Option Addr)(sc us pw:Bs)(hk:Int)(hs:Bs)(hn:Int)(hp:List Int)(port:Int)(opq pn:Bool)(pl:List Bs)(hq:Bool)(q:Bs)(hf:Bool)(fg:Bs)(bare sp:Bool)(rst:Bs):bj Tryz.prog ay 84 [.ptr 0 0] [aC 1 (.raw (.pointer bp)) sc us pw hk hs hn hp port opq pn pl hq q hf fg bare sp rst] (True) (.bool (az sp rst 0)) [aC 1 (.raw (.pointer bp)) sc us pw hk hs hn hp port opq pn pl hq q hf fg bare sp (if az sp rst 0=true then aa rst 1 else rst)]:=bt (by kernel_rfl) qE (H:=oy bp sc us pw hk hs hn hp port opq pn pl hq q hf fg bare sp rst) (fuel:=1000) Tryz.func84 (by kernel_rfl) (Nat.le_of_ble_eq_true rfl) fun hpre=>(uR bp sc us pw hk hs hn hp port opq pn pl hq q hf fg bare sp rst _).mpr (by
 refine ⟨by omega,fun h=>?_,fun h=>⟨?_,?_⟩⟩
 ·rw [show az sp rst 0=false by simpa using h];exact ⟨rfl,rfl⟩
 ·have:=uN (show az sp rst 0=true by simpa using h)
  unfold upto;omega
 ·rw [show az sp rst 0=true by simpa using h];exact ⟨rfl,rfl⟩)
theorem uS(bp:Option Addr)(sc us pw:Bs)(hk:Int)(hs:Bs)(hn:Int)(hp:List Int)(port:Int)(opq pn:Bool)(pl:List Bs)(hq:Bool)(q:Bs)(hf:Bool)(fg:Bs)(bare sp:Bool)(rst:Bs):ag Tryz.prog ay 84 [.ptr 0 0,aC 1 (.raw (.pointer bp)) sc us pw hk hs hn hp port opq pn pl hq q hf fg bare sp rst] ⟨True,.tup [.bool (az sp rst 0),aC 1 (.raw (.pointer bp)) sc us pw hk hs hn hp port opq pn pl hq q hf fg bare sp (if az sp rst 0=true then aa rst 1 else rst)]⟩:=ag.aZ (fun h=>by have e:List.isEmpty (PV.aA PV.br [.ptr 0 0,aC 1 (.raw (.pointer bp)) sc us pw hk hs hn hp port opq pn pl hq q hf fg bare sp rst])=false:=(by kernel_rfl);exact Bool.noConfusion (e.symm.trans (congrArg List.isEmpty h))) (jR bp sc us pw hk hs hn hp port opq pn pl hq q hf fg bare sp rst)
def fw:List PV→Option aI:=fun xs=>match xs with
 |[.ptr 0 0,aC 1 (.raw (.pointer bp)) sc us pw hk hs hn hp port opq pn pl hq q hf fg bare sp rst]=>some ⟨True,.tup [.bool (az sp rst 0),aC 1 (.raw (.pointer bp)) sc us pw hk hs hn hp port opq pn pl hq q hf fg bare sp (if az sp rst 0=true then aa rst 1 else rst)]⟩
 |_=>none
theorem iI:∀xs c,fw xs=some c→ag Tryz.prog ay 84 xs c:=fun xs c h=>by
 unfold fw at h
 split at h
 ·injection h with h;subst h;exact uS _ _ _ _ _ _ _ _ _ _ _ _ _ _ _ _ _ _ _
 ·cases h
end
section
def kD:cq:=bN [(82,gr)]
def kE(bp:Option Addr)(sc us pw:Bs)(hk:Int)(hs:Bs)(hn:Int)(hp:List Int)(port:Int)(opq pn:Bool)(pl:List Bs)(hq:Bool)(q:Bs)(hf:Bool)(fg:Bs)(bare sp:Bool)(rst:Bs):aY:=fun i=>bif Nat.beq i 1 then some ⟨(Int)×(Bs),(fun s x=>((((((((((((((s.put 2 (.int .i64 x.1)).KE 0 [4] (.str x.2)).put 3 .undef).put 4 .undef).put 5 .undef).put 6 .undef).put 7 .undef).put 8 .undef).put 9 .undef).put 10 .undef).put 11 .undef).put 12 .undef).put 13 .undef).put 14 .undef)),(fun s=>(s.int 2,(s.bx 0 [4]).dc)),(fun s x=>let n:=x.1;let x:=x.2;0≤n∧n+x.length=rst.length∧aB x.length sp n x=aB rst.length sp 0 rst),(fun s x=>let n:=x.1;let x:=x.2;x.length),[3,4,5,6,7,8,9,10,11,12,13,14]⟩else none
theorem nB:cS Tryz.prog ay kD:=ai gj (ax)
theorem qF(bp:Option Addr)(sc us pw:Bs)(hk:Int)(hs:Bs)(hn:Int)(hp:List Int)(port:Int)(opq pn:Bool)(pl:List Bs)(hq:Bool)(q:Bs)(hf:Bool)(fg:Bs)(bare sp:Bool)(rst:Bs)(k:PV→List PV→Prop):bK Tryz.prog kD ay (kE bp sc us pw hk hs hn hp port opq pn pl hq q hf fg bare sp rst) 1000 Tryz.f79 [.ptr 0 0] [aC 1 (.raw (.pointer bp)) sc us pw hk hs hn hp port opq pn pl hq q hf fg bare sp rst] k=(
 VS.mk [] [(0,PV.ptr (0:Nat) (0:Nat)),(2,PV.int .i64 (0:Int)),((14:Nat),PV.undef)] [((0:Nat),bT (PV.raw (Go.Value.pointer bp)) 1 sc us pw hk hs hn hp port opq pn pl hq q hf fg bare sp rst)]=VS.mk [] [(0,PV.ptr (0:Nat) (0:Nat)),((2:Nat),PV.int .i64 (0:Int)),((14:Nat),PV.undef)] [((0:Nat),bT (PV.raw (Go.Value.pointer bp)) 1 sc us pw hk hs hn hp port opq pn pl hq q hf fg bare sp rst)]∧
 ((0:Int)≤(0:Int)∧
 (0:Int)+↑(List.length rst)=↑(List.length rst)∧
 aB (List.length rst) sp (0:Int) rst=aB (List.length rst) sp (0:Int) rst)∧
 ∀(x:Int×Bs),(0:Int)≤x.1∧
 x.1+↑(List.length x.2)=↑(List.length rst)∧
 aB (List.length x.2) sp x.1 x.2=aB (List.length rst) sp (0:Int) rst→
 ((0:Int)≤(0:Int)∧
 (0:Int)<(1000:Int))∧
 ((bif az sp x.2 (0:Int)then bif sp then true else decide (x.1<(2:Int))else false)=true→
 upto (1:Int) (ak x.2) (ak x.2)∧
 aD (x.1+(1:Int))∧
 r6 (VS.mk [] [(0,PV.ptr (0:Nat) (0:Nat)),((2:Nat),PV.int .i64 (x.1+(1:Int))),((14:Nat),PV.undef)] [((0:Nat),bT (PV.raw (Go.Value.pointer bp)) 1 sc us pw hk hs hn hp port opq pn pl hq q hf fg bare sp (aa x.2 (1:Int)))])∧
 ((0:Int)≤x.1+(1:Int)∧
 x.1+(1:Int)+↑(aa x.2 (1:Int)).length=↑(List.length rst)∧
 aB (aa x.2 (1:Int)).length sp (x.1+(1:Int)) (aa x.2 (1:Int))=aB (List.length rst) sp (0:Int) rst)∧
 (aa x.2 (1:Int)).length<List.length x.2)∧
 ((bif az sp x.2 (0:Int)then bif sp then true else decide (x.1<(2:Int))else false)=false→
 k (PV.tup []) [bT (PV.raw (Go.Value.pointer bp)) 1 sc us pw hk hs hn hp port opq pn pl hq q hf fg bare sp x.2])):=by kernel_rfl
attribute [local irreducible] Go.Vc.cC Go.Vc.bK
theorem nC(bp:Option Addr)(sc us pw:Bs)(hk:Int)(hs:Bs)(hn:Int)(hp:List Int)(port:Int)(opq pn:Bool)(pl:List Bs)(hq:Bool)(q:Bs)(hf:Bool)(fg:Bs)(bare sp:Bool)(rst:Bs):bj Tryz.prog ay 79 [.ptr 0 0] [aC 1 (.raw (.pointer bp)) sc us pw hk hs hn hp port opq pn pl hq q hf fg bare sp rst] (rst.length≤300000) (.tup []) [aC 1 (.raw (.pointer bp)) sc us pw hk hs hn hp port opq pn pl hq q hf fg bare sp (aB rst.length sp 0 rst)]:=bt (by kernel_rfl) nB (H:=kE bp sc us pw hk hs hn hp port opq pn pl hq q hf fg bare sp rst) (fuel:=1000) Tryz.func79 (by kernel_rfl) (Nat.le_of_ble_eq_true rfl) fun hpre=>(qF bp sc us pw hk hs hn hp port opq pn pl hq q hf fg bare sp rst _).mpr (by
 refine ⟨rfl,⟨by omega,by omega,rfl⟩,fun x ⟨h0,h1,h2⟩=>⟨by omega,fun hc=>?_,fun hc=>?_⟩⟩
 ·have hc:az sp x.2 0=true∧(sp=true∨x.1<2):=by
   cases h:az sp x.2 0<;>cases hs:sp<;>simp_all
  have hp:=xk hc.1
  have hl:=s9 hp
  refine ⟨?_,?_,rfl,⟨by omega,by omega,?_⟩,by omega⟩
  ·unfold upto ak;omega
  ·unfold aD;omega
  ·rw [←xl hc];exact h2
 ·have hc:¬(az sp x.2 0=true∧(sp=true∨x.1<2)):=by
   cases h:az sp x.2 0<;>cases hs:sp<;>simp_all
  rw [←h2,Bn hc];exact ⟨rfl,rfl⟩)
theorem qG(bp:Option Addr)(sc us pw:Bs)(hk:Int)(hs:Bs)(hn:Int)(hp:List Int)(port:Int)(opq pn:Bool)(pl:List Bs)(hq:Bool)(q:Bs)(hf:Bool)(fg:Bs)(bare sp:Bool)(rst:Bs):ag Tryz.prog ay 79 [.ptr 0 0,aC 1 (.raw (.pointer bp)) sc us pw hk hs hn hp port opq pn pl hq q hf fg bare sp rst] ⟨rst.length≤300000,.tup [.tup [],aC 1 (.raw (.pointer bp)) sc us pw hk hs hn hp port opq pn pl hq q hf fg bare sp (aB rst.length sp 0 rst)]⟩:=ag.aZ (fun h=>by have e:List.isEmpty (PV.aA PV.br [.ptr 0 0,aC 1 (.raw (.pointer bp)) sc us pw hk hs hn hp port opq pn pl hq q hf fg bare sp rst])=false:=(by kernel_rfl);exact Bool.noConfusion (e.symm.trans (congrArg List.isEmpty h))) (nC bp sc us pw hk hs hn hp port opq pn pl hq q hf fg bare sp rst)
def fX:List PV→Option aI:=fun xs=>match xs with
 |[.ptr 0 0,aC 1 (.raw (.pointer bp)) sc us pw hk hs hn hp port opq pn pl hq q hf fg bare sp rst]=>some ⟨rst.length≤300000,.tup [.tup [],aC 1 (.raw (.pointer bp)) sc us pw hk hs hn hp port opq pn pl hq q hf fg bare sp (aB rst.length sp 0 rst)]⟩
 |_=>none
theorem ll:∀xs c,fX xs=some c→ag Tryz.prog ay 79 xs c:=fun xs c h=>by
 unfold fX at h
 split at h
 ·injection h with h;subst h;exact qG _ _ _ _ _ _ _ _ _ _ _ _ _ _ _ _ _ _ _
 ·cases h
end
section
theorem FO(l m:Bs):(bif decide (ak m≤ak l)then decide (ae l (ak m)=m)else false)=preB l m:=by
 unfold preB
 rw [←Lib.hasPrefix_of_take]
 unfold ak ae
 rw [Int.toNat_natCast]
 have:decide ((m.length:Int)≤l.length)=decide (m.length≤l.length):=by rw [decide_eq_decide];omega
 rw [this,Bool.eq_iff_iff]
 cases decide (m.length≤l.length)<;>simp
theorem Ig {l m:Bs}(h:preB l m=true):m.length≤l.length:=by
 rw [←FO]at h
 cases e:decide (ak m≤ak l)with
 |false=>rw [e]at h;cases h
 |true=>have:=of_decide_eq_true e;unfold ak at this;omega
def FP:cq:=bN []
def FQ(l m:Bs):aY:=fun i=>none
theorem Db:cS Tryz.prog ay FP:=ax
theorem Ih(l m:Bs)(k:PV→Prop):cC Tryz.prog FP ay (FQ l m) 1000 Tryz.f126 [.str l,.str m] k=(
 (decide (ak m≤ak l)=true→upto (0:Int) (ak m) (ak l))∧
 k (PV.bool (bif decide (ak m≤ak l)then decide (ae l (ak m)=m)else false))):=by kernel_rfl
attribute [local irreducible] Go.Vc.cC
theorem Ii(l m:Bs):ag Tryz.prog ay 126 [.str l,.str m] ⟨True,.bool (preB l m)⟩:=cj (by kernel_rfl) Db (H:=FQ l m) (fuel:=1000) Tryz.func126 (by kernel_rfl) fun hpre=>(Ih l m _).mpr (by
 refine ⟨fun h=>⟨by omega,by unfold ak;omega,of_decide_eq_true h⟩,?_⟩
 rw [FO])
def qH:List PV→Option aI:=fun xs=>match xs with
 |[.str l,.str m]=>some ⟨True,.bool (preB l m)⟩
 |_=>none
theorem xr:∀xs c,qH xs=some c→ag Tryz.prog ay 126 xs c:=fun xs c h=>by
 unfold qH at h
 split at h
 ·injection h with h;subst h;exact Ii _ _
 ·cases h
end
section
def aj(l m:Bs):Bs×Bool:=if preB l m=true then(aa l (ak m),true)else(l,false)
def Bv:cq:=bN [(126,qH)]
def Bw(l m:Bs):aY:=fun i=>none
theorem zP:cS Tryz.prog ay Bv:=ai xr (ax)
theorem FR(l m:Bs)(k:PV→Prop):cC Tryz.prog Bv ay (Bw l m) 1000 Tryz.f157 [.str l,.str m] k=(
 True∧
 ((!preB l m)=true→k (PV.tup [PV.str l,PV.bool false]))∧
 ((!preB l m)=false→
 upto (ak m) (ak l) (ak l)∧k (PV.tup [PV.str (aa l (ak m)),PV.bool true]))):=by kernel_rfl
attribute [local irreducible] Go.Vc.cC
theorem FT(l m:Bs):ag Tryz.prog ay 157 [.str l,.str m] ⟨True,.tup [.str (aj l m).1,.bool (aj l m).2]⟩:=cj (by kernel_rfl) zP (H:=Bw l m) (fuel:=1000) Tryz.func157 (by kernel_rfl) fun hpre=>(FR l m _).mpr (by
 refine ⟨trivial,fun h=>?_,fun h=>⟨?_,?_⟩⟩
 ·unfold aj;rw [if_neg (by intro e;rw [e]at h;cases h)]
 ·have:=Ig (show preB l m=true by simpa using h)
  unfold upto ak;omega
 ·unfold aj;rw [if_pos (by simpa using h)])
def nD:List PV→Option aI:=fun xs=>match xs with
 |[.str l,.str m]=>some ⟨True,.tup [.str (aj l m).1,.bool (aj l m).2]⟩
 |_=>none
theorem uT:∀xs c,nD xs=some c→ag Tryz.prog ay 157 xs c:=fun xs c h=>by
 unfold nD at h
 split at h
 ·injection h with h;subst h;exact FT _ _
 ·cases h
end
section
def FU:cq:=bN [(157,nD)]
def FV(l m:Bs):aY:=fun i=>none
theorem Dc:cS Tryz.prog ay FU:=ai uT (ax)
theorem Ij(l m:Bs)(k:PV→Prop):cC Tryz.prog FU ay (FV l m) 1000 Tryz.f127 [.str l,.str m] k=(
 True∧k (PV.tup [PV.str (aj l m).1,PV.bool (aj l m).2])):=by kernel_rfl
attribute [local irreducible] Go.Vc.cC
theorem Ik(l m:Bs):ag Tryz.prog ay 127 [.str l,.str m] ⟨True,.tup [.str (aj l m).1,.bool (aj l m).2]⟩:=cj (by kernel_rfl) Dc (H:=FV l m) (fuel:=1000) Tryz.func127 (by kernel_rfl) fun hpre=>(Ij l m _).mpr (by
 exact ⟨trivial,rfl⟩)
def mq:List PV→Option aI:=fun xs=>match xs with
 |[.str l,.str m]=>some ⟨True,.tup [.str (aj l m).1,.bool (aj l m).2]⟩
 |_=>none
theorem oz:∀xs c,mq xs=some c→ag Tryz.prog ay 127 xs c:=fun xs c h=>by
 unfold mq at h
 split at h
 ·injection h with h;subst h;exact Ik _ _
 ·cases h
end
section
def FW:cq:=bN [(127,mq)]
def FX(bp:Option Addr)(sc us pw:Bs)(hk:Int)(hs:Bs)(hn:Int)(hp:List Int)(port:Int)(opq pn:Bool)(pl:List Bs)(hq:Bool)(q:Bs)(hf:Bool)(fg:Bs)(bare sp:Bool)(rst:Bs)(p:Bs):aY:=fun i=>none
theorem Dd:cS Tryz.prog ay FW:=ai oz (ax)
theorem Il(bp:Option Addr)(sc us pw:Bs)(hk:Int)(hs:Bs)(hn:Int)(hp:List Int)(port:Int)(opq pn:Bool)(pl:List Bs)(hq:Bool)(q:Bs)(hf:Bool)(fg:Bs)(bare sp:Bool)(rst:Bs)(p:Bs)(k:PV→List PV→Prop):bK Tryz.prog FW ay (FX bp sc us pw hk hs hn hp port opq pn pl hq q hf fg bare sp rst p) 1000 Tryz.f80 [.ptr 0 0,.str p] [aC 1 (.raw (.pointer bp)) sc us pw hk hs hn hp port opq pn pl hq q hf fg bare sp rst] k=(
 True∧
 k (PV.bool (aj rst p).2) [bT (PV.raw (Go.Value.pointer bp)) 1 sc us pw hk hs hn hp port opq pn pl hq q hf fg bare sp ((aj rst p).1)]):=by kernel_rfl
attribute [local irreducible] Go.Vc.cC Go.Vc.bK
theorem De(bp:Option Addr)(sc us pw:Bs)(hk:Int)(hs:Bs)(hn:Int)(hp:List Int)(port:Int)(opq pn:Bool)(pl:List Bs)(hq:Bool)(q:Bs)(hf:Bool)(fg:Bs)(bare sp:Bool)(rst:Bs)(p:Bs):bj Tryz.prog ay 80 [.ptr 0 0,.str p] [aC 1 (.raw (.pointer bp)) sc us pw hk hs hn hp port opq pn pl hq q hf fg bare sp rst] (True) (.bool (aj rst p).2) [aC 1 (.raw (.pointer bp)) sc us pw hk hs hn hp port opq pn pl hq q hf fg bare sp ((aj rst p).1)]:=bt (by kernel_rfl) Dd (H:=FX bp sc us pw hk hs hn hp port opq pn pl hq q hf fg bare sp rst p) (fuel:=1000) Tryz.func80 (by kernel_rfl) (Nat.le_of_ble_eq_true rfl) fun hpre=>(Il bp sc us pw hk hs hn hp port opq pn pl hq q hf fg bare sp rst p _).mpr (by
 exact ⟨trivial,rfl,rfl⟩)
theorem Im(bp:Option Addr)(sc us pw:Bs)(hk:Int)(hs:Bs)(hn:Int)(hp:List Int)(port:Int)(opq pn:Bool)(pl:List Bs)(hq:Bool)(q:Bs)(hf:Bool)(fg:Bs)(bare sp:Bool)(rst:Bs)(p:Bs):ag Tryz.prog ay 80 [.ptr 0 0,.str p,aC 1 (.raw (.pointer bp)) sc us pw hk hs hn hp port opq pn pl hq q hf fg bare sp rst] ⟨True,.tup [.bool (aj rst p).2,aC 1 (.raw (.pointer bp)) sc us pw hk hs hn hp port opq pn pl hq q hf fg bare sp ((aj rst p).1)]⟩:=ag.aZ (fun h=>by have e:List.isEmpty (PV.aA PV.br [.ptr 0 0,.str p,aC 1 (.raw (.pointer bp)) sc us pw hk hs hn hp port opq pn pl hq q hf fg bare sp rst])=false:=(by kernel_rfl);exact Bool.noConfusion (e.symm.trans (congrArg List.isEmpty h))) (De bp sc us pw hk hs hn hp port opq pn pl hq q hf fg bare sp rst p)
def jS:List PV→Option aI:=fun xs=>match xs with
 |[.ptr 0 0,.str p,aC 1 (.raw (.pointer bp)) sc us pw hk hs hn hp port opq pn pl hq q hf fg bare sp rst]=>some ⟨True,.tup [.bool (aj rst p).2,aC 1 (.raw (.pointer bp)) sc us pw hk hs hn hp port opq pn pl hq q hf fg bare sp ((aj rst p).1)]⟩
 |_=>none
theorem jT:∀xs c,jS xs=some c→ag Tryz.prog ay 80 xs c:=fun xs c h=>by
 unfold jS at h
 split at h
 ·injection h with h;subst h;exact Im _ _ _ _ _ _ _ _ _ _ _ _ _ _ _ _ _ _ _ _
 ·cases h
end
section
def xt:cq:=bN []
def xu(bp:Option Addr)(sc us pw:Bs)(hk:Int)(hs:Bs)(hn:Int)(hp:List Int)(port:Int)(opq pn:Bool)(pl:List Bs)(hq:Bool)(q:Bs)(hf:Bool)(fg:Bs)(bare sp:Bool)(rst:Bs):aY:=fun i=>none
theorem xv:cS Tryz.prog ay xt:=ax
theorem Df(bp:Option Addr)(sc us pw:Bs)(hk:Int)(hs:Bs)(hn:Int)(hp:List Int)(port:Int)(opq pn:Bool)(pl:List Bs)(hq:Bool)(q:Bs)(hf:Bool)(fg:Bs)(bare sp:Bool)(rst:Bs)(k:PV→List PV→Prop):bK Tryz.prog xt ay (xu bp sc us pw hk hs hn hp port opq pn pl hq q hf fg bare sp rst) 1000 Tryz.f89 [.ptr 0 0] [aC 1 (.raw (.pointer bp)) sc us pw hk hs hn hp port opq pn pl hq q hf fg bare sp rst] k=(
 (decide (rst=(ByteArray.mk #[]).data.toList)=false→
 within (0:Int) (ak rst))∧
 ((bif decide (rst=(ByteArray.mk #[]).data.toList)then true else decide (al rst (0:Int)=(63:Int)))=false→
 within (0:Int) (ak rst))∧
 k (PV.bool (bif bif decide (rst=(ByteArray.mk #[]).data.toList)then true else decide (al rst (0:Int)=(63:Int))then true else decide (al rst (0:Int)=(35:Int)))) [bT (PV.raw (Go.Value.pointer bp)) 1 sc us pw hk hs hn hp port opq pn pl hq q hf fg bare sp rst]):=by kernel_rfl
attribute [local irreducible] Go.Vc.cC Go.Vc.bK
theorem oA(bp:Option Addr)(sc us pw:Bs)(hk:Int)(hs:Bs)(hn:Int)(hp:List Int)(port:Int)(opq pn:Bool)(pl:List Bs)(hq:Bool)(q:Bs)(hf:Bool)(fg:Bs)(bare sp:Bool)(rst:Bs):bj Tryz.prog ay 89 [.ptr 0 0] [aC 1 (.raw (.pointer bp)) sc us pw hk hs hn hp port opq pn pl hq q hf fg bare sp rst] (True) (.bool (bQ rst)) [aC 1 (.raw (.pointer bp)) sc us pw hk hs hn hp port opq pn pl hq q hf fg bare sp rst]:=bt (by kernel_rfl) xv (H:=xu bp sc us pw hk hs hn hp port opq pn pl hq q hf fg bare sp rst) (fuel:=1000) Tryz.func89 (by kernel_rfl) (Nat.le_of_ble_eq_true rfl) fun hpre=>(Df bp sc us pw hk hs hn hp port opq pn pl hq q hf fg bare sp rst _).mpr (by
 have h0:decide (rst=(ByteArray.mk #[]).data.toList)=false→within 0 (ak rst):=fun h=>by
  have:=of_decide_eq_false h
  have:0<rst.length:=List.length_pos_iff.2 this
  unfold within ak;omega
 refine ⟨h0,fun h=>h0 ?_,?_,rfl⟩
 ·cases hd:decide (rst=(ByteArray.mk #[]).data.toList)with
  |false=>rfl
  |true=>rw [hd]at h;cases h
 ·congr 1
  have e:bQ rst=(decide (rst=(ByteArray.mk #[]).data.toList)||(decide (al rst 0=63)||decide (al rst 0=35))):=rfl
  rw [e]
  cases decide (rst=(ByteArray.mk #[]).data.toList)<;>cases decide (al rst 0=63)<;>cases decide (al rst 0=35)<;>rfl)
theorem Dg(bp:Option Addr)(sc us pw:Bs)(hk:Int)(hs:Bs)(hn:Int)(hp:List Int)(port:Int)(opq pn:Bool)(pl:List Bs)(hq:Bool)(q:Bs)(hf:Bool)(fg:Bs)(bare sp:Bool)(rst:Bs):ag Tryz.prog ay 89 [.ptr 0 0,aC 1 (.raw (.pointer bp)) sc us pw hk hs hn hp port opq pn pl hq q hf fg bare sp rst] ⟨True,.tup [.bool (bQ rst),aC 1 (.raw (.pointer bp)) sc us pw hk hs hn hp port opq pn pl hq q hf fg bare sp rst]⟩:=ag.aZ (fun h=>by have e:List.isEmpty (PV.aA PV.br [.ptr 0 0,aC 1 (.raw (.pointer bp)) sc us pw hk hs hn hp port opq pn pl hq q hf fg bare sp rst])=false:=(by kernel_rfl);exact Bool.noConfusion (e.symm.trans (congrArg List.isEmpty h))) (oA bp sc us pw hk hs hn hp port opq pn pl hq q hf fg bare sp rst)
def ln:List PV→Option aI:=fun xs=>match xs with
 |[.ptr 0 0,aC 1 (.raw (.pointer bp)) sc us pw hk hs hn hp port opq pn pl hq q hf fg bare sp rst]=>some ⟨True,.tup [.bool (bQ rst),aC 1 (.raw (.pointer bp)) sc us pw hk hs hn hp port opq pn pl hq q hf fg bare sp rst]⟩
 |_=>none
theorem rI:∀xs c,ln xs=some c→ag Tryz.prog ay 89 xs c:=fun xs c h=>by
 unfold ln at h
 split at h
 ·injection h with h;subst h;exact Dg _ _ _ _ _ _ _ _ _ _ _ _ _ _ _ _ _ _ _
 ·cases h
end
section
def tf:cq:=bN []
def tg(bp:Option Addr)(sc us pw:Bs)(hk:Int)(hs:Bs)(hn:Int)(hp:List Int)(port:Int)(opq pn:Bool)(pl:List Bs)(hq:Bool)(q:Bs)(hf:Bool)(fg:Bs)(bare sp:Bool)(rst:Bs):aY:=fun i=>none
theorem uU:cS Tryz.prog ay tf:=ax
theorem zQ(bp:Option Addr)(sc us pw:Bs)(hk:Int)(hs:Bs)(hn:Int)(hp:List Int)(port:Int)(opq pn:Bool)(pl:List Bs)(hq:Bool)(q:Bs)(hf:Bool)(fg:Bs)(bare sp:Bool)(rst:Bs)(k:PV→List PV→Prop):bK Tryz.prog tf ay (tg bp sc us pw hk hs hn hp port opq pn pl hq q hf fg bare sp rst) 1000 Tryz.f138 [.ptr 0 0] [aC 1 (.raw (.pointer bp)) sc us pw hk hs hn hp port opq pn pl hq q hf fg bare sp rst] k=(
 (sp=true→
 k (PV.str (ByteArray.mk #[47,92]).data.toList) [bT (PV.raw (Go.Value.pointer bp)) 1 sc us pw hk hs hn hp port opq pn pl hq q hf fg bare sp rst])∧
 (sp=false→
 k (PV.str (ByteArray.mk #[47]).data.toList) [bT (PV.raw (Go.Value.pointer bp)) 1 sc us pw hk hs hn hp port opq pn pl hq q hf fg bare sp rst])):=by kernel_rfl
attribute [local irreducible] Go.Vc.cC Go.Vc.bK
theorem uV(bp:Option Addr)(sc us pw:Bs)(hk:Int)(hs:Bs)(hn:Int)(hp:List Int)(port:Int)(opq pn:Bool)(pl:List Bs)(hq:Bool)(q:Bs)(hf:Bool)(fg:Bs)(bare sp:Bool)(rst:Bs):bj Tryz.prog ay 138 [.ptr 0 0] [aC 1 (.raw (.pointer bp)) sc us pw hk hs hn hp port opq pn pl hq q hf fg bare sp rst] (True) (.str (eO sp)) [aC 1 (.raw (.pointer bp)) sc us pw hk hs hn hp port opq pn pl hq q hf fg bare sp rst]:=bt (by kernel_rfl) uU (H:=tg bp sc us pw hk hs hn hp port opq pn pl hq q hf fg bare sp rst) (fuel:=1000) Tryz.func138 (by kernel_rfl) (Nat.le_of_ble_eq_true rfl) fun hpre=>(zQ bp sc us pw hk hs hn hp port opq pn pl hq q hf fg bare sp rst _).mpr (by
 exact ⟨fun h=>by subst h;exact ⟨rfl,rfl⟩,fun h=>by subst h;exact ⟨rfl,rfl⟩⟩)
theorem zR(bp:Option Addr)(sc us pw:Bs)(hk:Int)(hs:Bs)(hn:Int)(hp:List Int)(port:Int)(opq pn:Bool)(pl:List Bs)(hq:Bool)(q:Bs)(hf:Bool)(fg:Bs)(bare sp:Bool)(rst:Bs):ag Tryz.prog ay 138 [.ptr 0 0,aC 1 (.raw (.pointer bp)) sc us pw hk hs hn hp port opq pn pl hq q hf fg bare sp rst] ⟨True,.tup [.str (eO sp),aC 1 (.raw (.pointer bp)) sc us pw hk hs hn hp port opq pn pl hq q hf fg bare sp rst]⟩:=ag.aZ (fun h=>by have e:List.isEmpty (PV.aA PV.br [.ptr 0 0,aC 1 (.raw (.pointer bp)) sc us pw hk hs hn hp port opq pn pl hq q hf fg bare sp rst])=false:=(by kernel_rfl);exact Bool.noConfusion (e.symm.trans (congrArg List.isEmpty h))) (uV bp sc us pw hk hs hn hp port opq pn pl hq q hf fg bare sp rst)
def gR:List PV→Option aI:=fun xs=>match xs with
 |[.ptr 0 0,aC 1 (.raw (.pointer bp)) sc us pw hk hs hn hp port opq pn pl hq q hf fg bare sp rst]=>some ⟨True,.tup [.str (eO sp),aC 1 (.raw (.pointer bp)) sc us pw hk hs hn hp port opq pn pl hq q hf fg bare sp rst]⟩
 |_=>none
theorem jU:∀xs c,gR xs=some c→ag Tryz.prog ay 138 xs c:=fun xs c h=>by
 unfold gR at h
 split at h
 ·injection h with h;subst h;exact zR _ _ _ _ _ _ _ _ _ _ _ _ _ _ _ _ _ _ _
 ·cases h
end
section
def FY:cq:=bN [(118,uG)]
def FZ(l m:Bs):aY:=fun i=>none
theorem Dh:cS Tryz.prog ay FY:=ai zy (ax)
theorem Io(l m:Bs)(k:PV→Prop):cC Tryz.prog FY ay (FZ l m) 1000 Tryz.f129 [.str l,.str m] k=(
 (List.length l≤(1000000:Nat)∧List.length m≤(1000000:Nat)∧∀(b:UInt8),b∈m→b.toNat<(128:Nat))∧
 (decide ((0:Int)≤J3 l m)=true→k (PV.int .i64 (J3 l m)))∧
 (decide ((0:Int)≤J3 l m)=false→k (PV.int .i64 (ak l)))):=by kernel_rfl
attribute [local irreducible] Go.Vc.cC
theorem Ip(l m:Bs):ag Tryz.prog ay 129 [.str l,.str m] ⟨l.length≤1000000∧m.length≤1000000∧(∀b∈m,b.toNat<128),.int .i64 (bd l m)⟩:=cj (by kernel_rfl) Dh (H:=FZ l m) (fuel:=1000) Tryz.func129 (by kernel_rfl) fun hpre=>(Io l m _).mpr (by
 have hh:=zx m l
 rw [←Fm]at hh
 refine ⟨hpre,fun h=>?_,fun h=>?_⟩
 ·exact congrArg (PV.int .i64) (hh.1 (of_decide_eq_true h)).1
 ·show PV.int .i64 (ak l)=_
  rw [(hh.2 (of_decide_eq_false h)).2];rfl)
def gC:List PV→Option aI:=fun xs=>match xs with
 |[.str l,.str m]=>some ⟨l.length≤1000000∧m.length≤1000000∧(∀b∈m,b.toNat<128),.int .i64 (bd l m)⟩
 |_=>none
theorem fO:∀xs c,gC xs=some c→ag Tryz.prog ay 129 xs c:=fun xs c h=>by
 unfold gC at h
 split at h
 ·injection h with h;subst h;exact Ip _ _
 ·cases h
end
section
def tj:cq:=bN [(138,gR),(129,gC)]
def tm(bp:Option Addr)(sc us pw:Bs)(hk:Int)(hs:Bs)(hn:Int)(hp:List Int)(port:Int)(opq pn:Bool)(pl:List Bs)(hq:Bool)(q:Bs)(hf:Bool)(fg:Bs)(bare sp:Bool)(rst:Bs):aY:=fun i=>none
theorem uW:cS Tryz.prog ay tj:=ai jU (ai fO (ax))
theorem zS(bp:Option Addr)(sc us pw:Bs)(hk:Int)(hs:Bs)(hn:Int)(hp:List Int)(port:Int)(opq pn:Bool)(pl:List Bs)(hq:Bool)(q:Bs)(hf:Bool)(fg:Bs)(bare sp:Bool)(rst:Bs)(k:PV→List PV→Prop):bK Tryz.prog tj ay (tm bp sc us pw hk hs hn hp port opq pn pl hq q hf fg bare sp rst) 1000 Tryz.f124 [.ptr 0 0] [aC 1 (.raw (.pointer bp)) sc us pw hk hs hn hp port opq pn pl hq q hf fg bare sp rst] k=(
 (True∧
 List.length (eO sp)+(ByteArray.mk #[63,35]).data.toList.length≤Go.Vc.maxLen∧
 (List.length rst≤(1000000:Nat)∧
 List.length (eO sp++(ByteArray.mk #[63,35]).data.toList)≤(1000000:Nat)∧
 ∀(b:UInt8),b∈eO sp++(ByteArray.mk #[63,35]).data.toList→
 b.toNat<(128:Nat))∧
 k (PV.int .i64 ↑(bd rst (eO sp++(ByteArray.mk #[63,35]).data.toList))) [bT (PV.raw (Go.Value.pointer bp)) 1 sc us pw hk hs hn hp port opq pn pl hq q hf fg bare sp rst])∧
 True∧
 List.length (eO sp)+(ByteArray.mk #[63,35]).data.toList.length≤Go.Vc.maxLen∧
 (List.length rst≤(1000000:Nat)∧
 List.length (eO sp++(ByteArray.mk #[63,35]).data.toList)≤(1000000:Nat)∧
 ∀(b:UInt8),b∈eO sp++(ByteArray.mk #[63,35]).data.toList→
 b.toNat<(128:Nat))∧
 k (PV.int .i64 ↑(bd rst (eO sp++(ByteArray.mk #[63,35]).data.toList))) [bT (PV.raw (Go.Value.pointer bp)) 1 sc us pw hk hs hn hp port opq pn pl hq q hf fg bare sp rst]):=by kernel_rfl
attribute [local irreducible] Go.Vc.cC Go.Vc.bK
theorem uX(bp:Option Addr)(sc us pw:Bs)(hk:Int)(hs:Bs)(hn:Int)(hp:List Int)(port:Int)(opq pn:Bool)(pl:List Bs)(hq:Bool)(q:Bs)(hf:Bool)(fg:Bs)(bare sp:Bool)(rst:Bs):bj Tryz.prog ay 124 [.ptr 0 0] [aC 1 (.raw (.pointer bp)) sc us pw hk hs hn hp port opq pn pl hq q hf fg bare sp rst] (rst.length≤300000) (.int .i64 (ah sp rst)) [aC 1 (.raw (.pointer bp)) sc us pw hk hs hn hp port opq pn pl hq q hf fg bare sp rst]:=bt (by kernel_rfl) uW (H:=tm bp sc us pw hk hs hn hp port opq pn pl hq q hf fg bare sp rst) (fuel:=1000) Tryz.func124 (by kernel_rfl) (Nat.le_of_ble_eq_true rfl) fun hpre=>(zS bp sc us pw hk hs hn hp port opq pn pl hq q hf fg bare sp rst _).mpr (by
 have e2:(ByteArray.mk #[63,35]).data.toList=[63,35]:=rfl
 have hs:(eO sp).length≤2:=by unfold eO;split<;>decide
 have h1:List.length (eO sp)+(ByteArray.mk #[63,35]).data.toList.length≤Go.Vc.maxLen:=Nat.le_trans (show _ ≤100 by rw [e2];simp;omega) (by decide)
 have h2:List.length (eO sp++(ByteArray.mk #[63,35]).data.toList)≤1000000:=by rw [e2];simp;omega
 have h3:∀b:UInt8,b∈eO sp++(ByteArray.mk #[63,35]).data.toList→b.toNat<128:=by rw [e2];unfold eO;split<;>decide
 exact ⟨⟨trivial,h1,⟨by omega,h2,h3⟩,rfl,rfl⟩,trivial,h1,⟨by omega,h2,h3⟩,rfl,rfl⟩)
theorem zT(bp:Option Addr)(sc us pw:Bs)(hk:Int)(hs:Bs)(hn:Int)(hp:List Int)(port:Int)(opq pn:Bool)(pl:List Bs)(hq:Bool)(q:Bs)(hf:Bool)(fg:Bs)(bare sp:Bool)(rst:Bs):ag Tryz.prog ay 124 [.ptr 0 0,aC 1 (.raw (.pointer bp)) sc us pw hk hs hn hp port opq pn pl hq q hf fg bare sp rst] ⟨rst.length≤300000,.tup [.int .i64 (ah sp rst),aC 1 (.raw (.pointer bp)) sc us pw hk hs hn hp port opq pn pl hq q hf fg bare sp rst]⟩:=ag.aZ (fun h=>by have e:List.isEmpty (PV.aA PV.br [.ptr 0 0,aC 1 (.raw (.pointer bp)) sc us pw hk hs hn hp port opq pn pl hq q hf fg bare sp rst])=false:=(by kernel_rfl);exact Bool.noConfusion (e.symm.trans (congrArg List.isEmpty h))) (uX bp sc us pw hk hs hn hp port opq pn pl hq q hf fg bare sp rst)
def fP:List PV→Option aI:=fun xs=>match xs with
 |[.ptr 0 0,aC 1 (.raw (.pointer bp)) sc us pw hk hs hn hp port opq pn pl hq q hf fg bare sp rst]=>some ⟨rst.length≤300000,.tup [.int .i64 (ah sp rst),aC 1 (.raw (.pointer bp)) sc us pw hk hs hn hp port opq pn pl hq q hf fg bare sp rst]⟩
 |_=>none
theorem gD:∀xs c,fP xs=some c→ag Tryz.prog ay 124 xs c:=fun xs c h=>by
 unfold fP at h
 split at h
 ·injection h with h;subst h;exact zT _ _ _ _ _ _ _ _ _ _ _ _ _ _ _ _ _ _ _
 ·cases h
end
section
def F1:cq:=bN []
def F2(bp:Option Addr)(sc us pw:Bs)(hk:Int)(hs:Bs)(hn:Int)(hp:List Int)(port:Int)(opq pn:Bool)(pl:List Bs)(hq:Bool)(q:Bs)(hf:Bool)(fg:Bs)(bare sp:Bool)(rst:Bs)(z:Int):aY:=fun i=>none
theorem Di:cS Tryz.prog ay F1:=ax
theorem Iq(bp:Option Addr)(sc us pw:Bs)(hk:Int)(hs:Bs)(hn:Int)(hp:List Int)(port:Int)(opq pn:Bool)(pl:List Bs)(hq:Bool)(q:Bs)(hf:Bool)(fg:Bs)(bare sp:Bool)(rst:Bs)(z:Int)(k:PV→List PV→Prop):bK Tryz.prog F1 ay (F2 bp sc us pw hk hs hn hp port opq pn pl hq q hf fg bare sp rst z) 1000 Tryz.f128 [.ptr 0 0,.int .i64 z] [aC 1 (.raw (.pointer bp)) sc us pw hk hs hn hp port opq pn pl hq q hf fg bare sp rst] k=(
 upto (0:Int) z (ak rst)∧
 upto z (ak rst) (ak rst)∧
 k (PV.str (ae rst z)) [bT (PV.raw (Go.Value.pointer bp)) 1 sc us pw hk hs hn hp port opq pn pl hq q hf fg bare sp (aa rst z)]):=by kernel_rfl
attribute [local irreducible] Go.Vc.cC Go.Vc.bK
theorem Dj(bp:Option Addr)(sc us pw:Bs)(hk:Int)(hs:Bs)(hn:Int)(hp:List Int)(port:Int)(opq pn:Bool)(pl:List Bs)(hq:Bool)(q:Bs)(hf:Bool)(fg:Bs)(bare sp:Bool)(rst:Bs)(z:Int):bj Tryz.prog ay 128 [.ptr 0 0,.int .i64 z] [aC 1 (.raw (.pointer bp)) sc us pw hk hs hn hp port opq pn pl hq q hf fg bare sp rst] (0≤z∧z≤ak rst) (.str (ae rst z)) [aC 1 (.raw (.pointer bp)) sc us pw hk hs hn hp port opq pn pl hq q hf fg bare sp (aa rst z)]:=bt (by kernel_rfl) Di (H:=F2 bp sc us pw hk hs hn hp port opq pn pl hq q hf fg bare sp rst z) (fuel:=1000) Tryz.func128 (by kernel_rfl) (Nat.le_of_ble_eq_true rfl) fun hpre=>(Iq bp sc us pw hk hs hn hp port opq pn pl hq q hf fg bare sp rst z _).mpr (by
 obtain ⟨h0,h1⟩:=hpre
 exact ⟨⟨by omega,h0,h1⟩,⟨h0,h1,Int.le_refl _⟩,rfl,rfl⟩)
theorem Ir(bp:Option Addr)(sc us pw:Bs)(hk:Int)(hs:Bs)(hn:Int)(hp:List Int)(port:Int)(opq pn:Bool)(pl:List Bs)(hq:Bool)(q:Bs)(hf:Bool)(fg:Bs)(bare sp:Bool)(rst:Bs)(z:Int):ag Tryz.prog ay 128 [.ptr 0 0,.int .i64 z,aC 1 (.raw (.pointer bp)) sc us pw hk hs hn hp port opq pn pl hq q hf fg bare sp rst] ⟨0≤z∧z≤ak rst,.tup [.str (ae rst z),aC 1 (.raw (.pointer bp)) sc us pw hk hs hn hp port opq pn pl hq q hf fg bare sp (aa rst z)]⟩:=ag.aZ (fun h=>by have e:List.isEmpty (PV.aA PV.br [.ptr 0 0,.int .i64 z,aC 1 (.raw (.pointer bp)) sc us pw hk hs hn hp port opq pn pl hq q hf fg bare sp rst])=false:=(by kernel_rfl);exact Bool.noConfusion (e.symm.trans (congrArg List.isEmpty h))) (Dj bp sc us pw hk hs hn hp port opq pn pl hq q hf fg bare sp rst z)
def gE:List PV→Option aI:=fun xs=>match xs with
 |[.ptr 0 0,.int .i64 z,aC 1 (.raw (.pointer bp)) sc us pw hk hs hn hp port opq pn pl hq q hf fg bare sp rst]=>some ⟨0≤z∧z≤ak rst,.tup [.str (ae rst z),aC 1 (.raw (.pointer bp)) sc us pw hk hs hn hp port opq pn pl hq q hf fg bare sp (aa rst z)]⟩
 |_=>none
theorem fQ:∀xs c,gE xs=some c→ag Tryz.prog ay 128 xs c:=fun xs c h=>by
 unfold gE at h
 split at h
 ·injection h with h;subst h;exact Ir _ _ _ _ _ _ _ _ _ _ _ _ _ _ _ _ _ _ _ _
 ·cases h
end
section
def Bx:cq:=bN []
def By(l:Bs):aY:=fun i=>bif Nat.beq i 3 then some ⟨(Int)×(Bool),(fun s x=>((((((((((((((((((s.put 7 (.int .i64 x.1)).put 3 (.bool x.2)).put 4 .undef).put 8 .undef).put 9 .undef).put 10 .undef).put 11 .undef).put 12 .undef).put 13 .undef).put 14 .undef).put 15 .undef).put 16 .undef).put 17 .undef).put 18 .undef).put 19 .undef).put 20 .undef).put 21 .undef).put 22 .undef)),(fun s=>(s.int 7,s.bool 3)),(fun s x=>let i:=x.1;let wn:=x.2;0≤i∧i≤l.length∧kt wn i (l.drop i.toNat)=bc l),(fun s x=>let i:=x.1;let wn:=x.2;((l.length:Int)-i).toNat),[4,8,9,10,11,12,13,14,15,16,17,18,19,20,21,22]⟩else none
theorem zU:cS Tryz.prog ay Bx:=ax
theorem F3(l:Bs)(k:PV→Prop):cC Tryz.prog Bx ay (By l) 1000 Tryz.f135 [.str l] k=(
 VS.mk []
 [(0,PV.str l),(2,PV.int .i64 (0:Int)),(3,PV.bool false),((4:Nat),PV.undef),
 (6,PV.int .i64 (ak l)),(7,PV.int .i64 (0:Int)),((8:Nat),PV.undef),
 ((12:Nat),PV.undef),((13:Nat),PV.undef),((15:Nat),PV.undef),((17:Nat),PV.undef),((20:Nat),PV.undef)]
 []=
 VS.mk []
 [(0,PV.str l),(2,PV.int .i64 (0:Int)),((3:Nat),PV.bool false),((4:Nat),PV.undef),
 (6,PV.int .i64 (ak l)),((7:Nat),PV.int .i64 (0:Int)),((8:Nat),PV.undef),
 ((12:Nat),PV.undef),((13:Nat),PV.undef),((15:Nat),PV.undef),((17:Nat),PV.undef),((20:Nat),PV.undef)]
 []∧
 ((0:Int)≤(0:Int)∧
 (0:Int)≤↑(List.length l)∧
 kt false (0:Int) (List.drop (Int.toNat (0:Int)) l)=bc l)∧
 ∀(x:Int×Bool),
 (0:Int)≤x.1∧
 x.1≤↑(List.length l)∧
 kt x.2 x.1 (List.drop x.1.toNat l)=bc l→
 (decide (x.1<ak l)=true→
 within x.1 (ak l)∧
 (decide (al l x.1=(91:Int))=true→
 aD (x.1+(1:Int))∧
 r6 (VS.mk []
 [(0,PV.str l),(2,PV.int .i64 (0:Int)),((3:Nat),PV.bool true),
 ((4:Nat),PV.undef),(6,PV.int .i64 (ak l)),
 ((7:Nat),PV.int .i64 (x.1+(1:Int))),((8:Nat),PV.undef),((12:Nat),PV.undef),
 ((13:Nat),PV.undef),((15:Nat),PV.undef),((17:Nat),PV.undef),((20:Nat),PV.undef)]
 [])∧
 ((0:Int)≤x.1+(1:Int)∧
 x.1+(1:Int)≤↑(List.length l)∧
 kt true (x.1+(1:Int)) (List.drop (x.1+(1:Int)).toNat l)=
 bc l)∧
 (↑(List.length l)-(x.1+(1:Int))).toNat<(↑(List.length l)-x.1).toNat)∧
 (decide (al l x.1=(91:Int))=false→
 (decide (al l x.1=(93:Int))=true→
 aD (x.1+(1:Int))∧
 r6 (VS.mk []
 [(0,PV.str l),(2,PV.int .i64 (0:Int)),((3:Nat),PV.bool false),
 ((4:Nat),PV.undef),(6,PV.int .i64 (ak l)),
 ((7:Nat),PV.int .i64 (x.1+(1:Int))),((8:Nat),PV.undef),((12:Nat),PV.undef),
 ((13:Nat),PV.undef),((15:Nat),PV.undef),((17:Nat),PV.undef),((20:Nat),PV.undef)]
 [])∧
 ((0:Int)≤x.1+(1:Int)∧
 x.1+(1:Int)≤↑(List.length l)∧
 kt false (x.1+(1:Int)) (List.drop (x.1+(1:Int)).toNat l)=
 bc l)∧
 (↑(List.length l)-(x.1+(1:Int))).toNat<(↑(List.length l)-x.1).toNat)∧
 (decide (al l x.1=(93:Int))=false→
 (decide (al l x.1=(58:Int))=true→
 ((!x.2)=true→k (PV.int .i64 x.1))∧
 ((!x.2)=false→
 aD (x.1+(1:Int))∧
 r6 (VS.mk []
 [(0,PV.str l),(2,PV.int .i64 (0:Int)),((3:Nat),PV.bool x.2),
 ((4:Nat),PV.undef),(6,PV.int .i64 (ak l)),
 ((7:Nat),PV.int .i64 (x.1+(1:Int))),((8:Nat),PV.undef),((12:Nat),PV.undef),
 ((13:Nat),PV.undef),((15:Nat),PV.undef),((17:Nat),PV.undef),((20:Nat),PV.undef)]
 [])∧
 ((0:Int)≤x.1+(1:Int)∧
 x.1+(1:Int)≤↑(List.length l)∧
 kt x.2 (x.1+(1:Int)) (List.drop (x.1+(1:Int)).toNat l)=
 bc l)∧
 (↑(List.length l)-(x.1+(1:Int))).toNat<(↑(List.length l)-x.1).toNat))∧
 (decide (al l x.1=(58:Int))=false→
 aD (x.1+(1:Int))∧
 r6 (VS.mk []
 [(0,PV.str l),(2,PV.int .i64 (0:Int)),((3:Nat),PV.bool x.2),
 ((4:Nat),PV.undef),(6,PV.int .i64 (ak l)),
 ((7:Nat),PV.int .i64 (x.1+(1:Int))),((8:Nat),PV.undef),((12:Nat),PV.undef),
 ((13:Nat),PV.undef),((15:Nat),PV.undef),((17:Nat),PV.undef),((20:Nat),PV.undef)]
 [])∧
 ((0:Int)≤x.1+(1:Int)∧
 x.1+(1:Int)≤↑(List.length l)∧
 kt x.2 (x.1+(1:Int)) (List.drop (x.1+(1:Int)).toNat l)=
 bc l)∧
 (↑(List.length l)-(x.1+(1:Int))).toNat<(↑(List.length l)-x.1).toNat))))∧
 (decide (x.1<ak l)=false→k (PV.int .i64 (-1:Int)))):=by kernel_rfl
attribute [local irreducible] Go.Vc.cC
theorem F4(l:Bs):ag Tryz.prog ay 135 [.str l] ⟨l.length≤1000000,.int .i64 (bc l)⟩:=cj (by kernel_rfl) zU (H:=By l) (fuel:=1000) Tryz.func135 (by kernel_rfl) fun hpre=>(F3 l _).mpr (by
 refine ⟨rfl,⟨by omega,by omega,rfl⟩,fun x ⟨h0,h1,h2⟩=>⟨fun h=>?_,fun h=>?_⟩⟩
 ·have hlt:x.1<l.length:=of_decide_eq_true h
  rw [xj h0 hlt]at h2
  obtain ⟨c,hc⟩:∃c,c=l.getD x.1.toNat 0:=⟨_,rfl⟩
  have hby:al l x.1=c.toNat:=by rw [hc];rfl
  rw [←hc,kt]at h2
  rw [hby]
  refine ⟨⟨h0,hlt⟩,fun g=>⟨by unfold aD;omega,rfl,⟨by omega,by omega,?_⟩,by omega⟩,fun g=>⟨fun g2=>⟨by unfold aD;omega,rfl,⟨by omega,by omega,?_⟩,by omega⟩,fun g2=>⟨fun g3=>⟨fun g4=>?_,fun g4=>⟨by unfold aD;omega,rfl,⟨by omega,by omega,?_⟩,by omega⟩⟩,fun g3=>⟨by unfold aD;omega,rfl,⟨by omega,by omega,?_⟩,by omega⟩⟩⟩⟩
  ·have:=of_decide_eq_true g
   rw [if_pos (by omega)]at h2;exact h2
  ·have:=of_decide_eq_false g
   have:=of_decide_eq_true g2
   rw [if_neg (by omega),if_pos (by omega)]at h2;exact h2
  ·have:=of_decide_eq_false g
   have:=of_decide_eq_false g2
   have:=of_decide_eq_true g3
   have hw:x.2=false:=by simpa using g4
   rw [if_neg (by omega),if_neg (by omega),if_pos ⟨by omega,hw⟩]at h2
   rw [h2]
  ·have:=of_decide_eq_false g
   have:=of_decide_eq_false g2
   have hw:¬x.2=false:=by simpa using g4
   rw [if_neg (by omega),if_neg (by omega),if_neg (fun e=>hw e.2)]at h2;exact h2
  ·have:=of_decide_eq_false g
   have:=of_decide_eq_false g2
   have:=of_decide_eq_false g3
   rw [if_neg (by omega),if_neg (by omega),if_neg (by omega)]at h2;exact h2
 ·have hge:¬x.1<l.length:=of_decide_eq_false h
  rw [s8 hge]at h2
  show PV.int _ _=PV.int _ _
  rw [←h2];rfl)
def nE:List PV→Option aI:=fun xs=>match xs with
 |[.str l]=>some ⟨l.length≤1000000,.int .i64 (bc l)⟩
 |_=>none
theorem uY:∀xs c,nE xs=some c→ag Tryz.prog ay 135 xs c:=fun xs c h=>by
 unfold nE at h
 split at h
 ·injection h with h;subst h;exact F4 _
 ·cases h
end
section
theorem mr {sc:Bs}{port:Int}{t:Bs}(h:t≠[]):dQ sc port t=match iH 0 t with
 |none=>(port,8)
 |some n=>if 65535<n then(port,8)else if aw sc=true∧Ht sc=n then(port,0)else(n,0):=by
 cases t with
 |nil=>exact absurd rfl h
 |cons b t=>rfl
def F5:cq:=bN [(155,iG),(27,dN)]
def F6(bp:Option Addr)(sc us pw:Bs)(hk:Int)(hs:Bs)(hn:Int)(hp:List Int)(port:Int)(opq pn:Bool)(pl:List Bs)(hq:Bool)(q:Bs)(hf:Bool)(fg:Bs)(bare sp:Bool)(rst:Bs)(t:Bs):aY:=fun i=>bif Nat.beq i 5 then some ⟨(Int)×(Int),(fun s x=>((((((((((((((((((((s.put 5 (.int .i64 x.1)).put 13 (.int .i64 x.2)).put 6 .undef).put 14 .undef).put 15 .undef).put 16 .undef).put 17 .undef).put 18 .undef).put 19 .undef).put 20 .undef).put 21 .undef).put 22 .undef).put 23 .undef).put 24 .undef).put 25 .undef).put 26 .undef).put 27 .undef).put 28 .undef).put 29 .undef).put 30 .undef)),(fun s=>(s.int 5,s.int 13)),(fun s x=>let n:=x.1;let i:=x.2;0≤i∧i≤t.length∧0≤n∧n≤65536∧iH n (t.drop i.toNat)=iH 0 t),(fun s x=>let n:=x.1;let i:=x.2;((t.length:Int)-i).toNat),[6,14,15,16,17,18,19,20,21,22,23,24,25,26,27,28,29,30]⟩else none
theorem Dk:cS Tryz.prog ay F5:=ai jd (ai dO (ax))
theorem It(bp:Option Addr)(sc us pw:Bs)(hk:Int)(hs:Bs)(hn:Int)(hp:List Int)(port:Int)(opq pn:Bool)(pl:List Bs)(hq:Bool)(q:Bs)(hf:Bool)(fg:Bs)(bare sp:Bool)(rst:Bs)(t:Bs)(k:PV→List PV→Prop):bK Tryz.prog F5 ay (F6 bp sc us pw hk hs hn hp port opq pn pl hq q hf fg bare sp rst t) 1000 Tryz.f137 [.ptr 0 0,.str t] [aC 1 (.raw (.pointer bp)) sc us pw hk hs hn hp port opq pn pl hq q hf fg bare sp rst] k=(
 (decide (t=(ByteArray.mk #[]).data.toList)=true→
 k (PV.int .i64 (0:Int)) [bT (PV.raw (Go.Value.pointer bp)) 1 sc us pw hk hs hn hp port opq pn pl hq q hf fg bare sp rst])∧
 (decide (t=(ByteArray.mk #[]).data.toList)=false→
 VS.mk [] [(0,PV.ptr (0:Nat) (0:Nat)),(1,PV.str t),(4,PV.int .i64 (0:Int)),(5,PV.int .i64 (0:Int)),((6:Nat),PV.undef),(7,PV.undef),(8,PV.undef),(10,PV.bool (decide (t=(ByteArray.mk #[]).data.toList))),(12,PV.int .i64 (ak t)),(13,PV.int .i64 (0:Int)),((14:Nat),PV.undef),((20:Nat),PV.undef),(32,PV.undef),(48,PV.undef)] [((0:Nat),bT (PV.raw (Go.Value.pointer bp)) 1 sc us pw hk hs hn hp port opq pn pl hq q hf fg bare sp rst)]=VS.mk [] [(0,PV.ptr (0:Nat) (0:Nat)),(1,PV.str t),(4,PV.int .i64 (0:Int)),((5:Nat),PV.int .i64 (0:Int)),((6:Nat),PV.undef),(7,PV.undef),(8,PV.undef),(10,PV.bool (decide (t=(ByteArray.mk #[]).data.toList))),(12,PV.int .i64 (ak t)),((13:Nat),PV.int .i64 (0:Int)),((14:Nat),PV.undef),((20:Nat),PV.undef),(32,PV.undef),(48,PV.undef)] [((0:Nat),bT (PV.raw (Go.Value.pointer bp)) 1 sc us pw hk hs hn hp port opq pn pl hq q hf fg bare sp rst)]∧
 ((0:Int)≤(0:Int)∧
 (0:Int)≤↑(List.length t)∧
 (0:Int)≤(0:Int)∧
 (0:Int)≤(65536:Int)∧
 iH (0:Int) (List.drop (Int.toNat (0:Int)) t)=iH (0:Int) t)∧
 ∀(x:Int×Int),(0:Int)≤x.2∧
 x.2≤↑(List.length t)∧
 (0:Int)≤x.1∧
 x.1≤(65536:Int)∧
 iH x.1 (List.drop x.2.toNat t)=iH (0:Int) t→
 (decide (x.2<ak t)=true→
 within x.2 (ak t)∧
 True∧
 ((!decide ((48:Int)≤al t x.2∧
 al t x.2≤(57:Int)))=true→
 k (PV.int .i64 (8:Int)) [bT (PV.raw (Go.Value.pointer bp)) 1 sc us pw hk hs hn hp port opq pn pl hq q hf fg bare sp rst])∧
 ((!decide ((48:Int)≤al t x.2∧
 al t x.2≤(57:Int)))=false→
 aD (x.1*(10:Int))∧
 within x.2 (ak t)∧
 aD (x.1*(10:Int)+Go.IntKind.i64.wrap (Go.IntKind.u8.wrap (al t x.2-(48:Int))))∧
 aD (x.2+(1:Int))∧
 r6 (VS.mk [] [(0,PV.ptr (0:Nat) (0:Nat)),(1,PV.str t),(4,PV.int .i64 (0:Int)),((5:Nat),PV.int .i64 (min (x.1*(10:Int)+Go.IntKind.i64.wrap (Go.IntKind.u8.wrap (al t x.2-(48:Int)))) (65536:Int))),((6:Nat),PV.undef),(7,PV.undef),(8,PV.undef),(10,PV.bool (decide (t=(ByteArray.mk #[]).data.toList))),(12,PV.int .i64 (ak t)),((13:Nat),PV.int .i64 (x.2+(1:Int))),((14:Nat),PV.undef),((20:Nat),PV.undef),(32,PV.undef),(48,PV.undef)] [((0:Nat),bT (PV.raw (Go.Value.pointer bp)) 1 sc us pw hk hs hn hp port opq pn pl hq q hf fg bare sp rst)])∧
 ((0:Int)≤x.2+(1:Int)∧
 x.2+(1:Int)≤↑(List.length t)∧
 (0:Int)≤min (x.1*(10:Int)+Go.IntKind.i64.wrap (Go.IntKind.u8.wrap (al t x.2-(48:Int)))) (65536:Int)∧
 min (x.1*(10:Int)+Go.IntKind.i64.wrap (Go.IntKind.u8.wrap (al t x.2-(48:Int)))) (65536:Int)≤(65536:Int)∧
 iH (min (x.1*(10:Int)+Go.IntKind.i64.wrap (Go.IntKind.u8.wrap (al t x.2-(48:Int)))) (65536:Int)) (List.drop (x.2+(1:Int)).toNat t)=iH (0:Int) t)∧
 (↑(List.length t)-(x.2+(1:Int))).toNat<(↑(List.length t)-x.2).toNat))∧
 (decide (x.2<ak t)=false→
 (decide ((65535:Int)<x.1)=true→
 k (PV.int .i64 (8:Int)) [bT (PV.raw (Go.Value.pointer bp)) 1 sc us pw hk hs hn hp port opq pn pl hq q hf fg bare sp rst])∧
 (decide ((65535:Int)<x.1)=false→
 True∧
 ((bif !aw sc then true else !decide (Ht sc=x.1))=true→
 k (PV.int .i64 (0:Int)) [bT (PV.raw (Go.Value.pointer bp)) 1 sc us pw hk hs hn hp x.1 opq pn pl hq q hf fg bare sp rst])∧
 ((bif !aw sc then true else !decide (Ht sc=x.1))=false→
 k (PV.int .i64 (0:Int)) [bT (PV.raw (Go.Value.pointer bp)) 1 sc us pw hk hs hn hp port opq pn pl hq q hf fg bare sp rst]))))):=by kernel_rfl
attribute [local irreducible] Go.Vc.cC Go.Vc.bK
theorem Dl(bp:Option Addr)(sc us pw:Bs)(hk:Int)(hs:Bs)(hn:Int)(hp:List Int)(port:Int)(opq pn:Bool)(pl:List Bs)(hq:Bool)(q:Bs)(hf:Bool)(fg:Bs)(bare sp:Bool)(rst:Bs)(t:Bs):bj Tryz.prog ay 137 [.ptr 0 0,.str t] [aC 1 (.raw (.pointer bp)) sc us pw hk hs hn hp port opq pn pl hq q hf fg bare sp rst] (t.length≤300000) (.int .i64 (dQ sc port t).2) [aC 1 (.raw (.pointer bp)) sc us pw hk hs hn hp ((dQ sc port t).1) opq pn pl hq q hf fg bare sp rst]:=bt (by kernel_rfl) Dk (H:=F6 bp sc us pw hk hs hn hp port opq pn pl hq q hf fg bare sp rst t) (fuel:=1000) Tryz.func137 (by kernel_rfl) (Nat.le_of_ble_eq_true rfl) fun hpre=>(It bp sc us pw hk hs hn hp port opq pn pl hq q hf fg bare sp rst t _).mpr (by
 refine ⟨fun h=>?_,fun h=>⟨rfl,⟨by omega,by omega,by omega,by omega,rfl⟩,fun x ⟨h0,h1,h2,h3,h4⟩=>⟨fun g=>?_,fun g=>?_⟩⟩⟩
 ·have e:t=[]:=of_decide_eq_true h
  subst e;exact ⟨rfl,rfl⟩
 ·have hne:t≠[]:=of_decide_eq_false h
  have hlt:x.2<t.length:=of_decide_eq_true g
  rw [xj h0 hlt]at h4
  obtain ⟨c,hc⟩:∃c,c=t.getD x.2.toNat 0:=⟨_,rfl⟩
  have hby:al t x.2=c.toNat:=by rw [hc];rfl
  rw [←hc,iH]at h4
  rw [hby]
  refine ⟨⟨h0,hlt⟩,trivial,fun g2=>?_,fun g2=>?_⟩
  ·have g3:¬(48≤c.toNat∧c.toNat≤57):=by
    intro e
    rw [decide_eq_true (show(48:Int)≤c.toNat∧(c.toNat:Int)≤57 by omega)]at g2;cases g2
   rw [if_neg g3]at h4
   have e:dQ sc port t=(port,8):=by rw [mr hne,←h4]
   rw [e];exact ⟨rfl,rfl⟩
  ·have g3:48≤c.toNat∧c.toNat≤57:=by
    have:=of_decide_eq_true (show decide ((48:Int)≤c.toNat∧(c.toNat:Int)≤57)=true by simpa using g2)
    omega
   rw [if_pos g3]at h4
   have w1:IntKind.u8.wrap ((c.toNat:Int)-48)=(c.toNat:Int)-48:=IntWalk.u8_in _ (by omega)
   have w2:IntKind.i64.wrap ((c.toNat:Int)-48)=(c.toNat:Int)-48:=IntWalk.i64_in _ (by omega)
   rw [w1,w2]
   exact ⟨by unfold aD;omega,⟨h0,hlt⟩,by unfold aD;omega,by unfold aD;omega,rfl,⟨by omega,by omega,by omega,by omega,h4⟩,by omega⟩
 ·have hne:t≠[]:=of_decide_eq_false h
  have hge:¬x.2<t.length:=of_decide_eq_false g
  rw [s8 hge]at h4
  have h5:iH 0 t=some x.1:=h4.symm
  refine ⟨fun g2=>?_,fun g2=>⟨trivial,fun g3=>?_,fun g3=>?_⟩⟩
  ·have e:dQ sc port t=(port,8):=by rw [mr hne,h5];exact if_pos (of_decide_eq_true g2)
   rw [e];exact ⟨rfl,rfl⟩
  ·have e:dQ sc port t=(x.1,0):=by
    rw [mr hne,h5]
    show(if _ then _ else if _ then _ else _)=_
    rw [if_neg (of_decide_eq_false g2),if_neg]
    rintro ⟨e1,e2⟩
    rw [e1,decide_eq_true e2]at g3;cases g3
   rw [e];exact ⟨rfl,rfl⟩
  ·have e:dQ sc port t=(port,0):=by
    rw [mr hne,h5]
    show(if _ then _ else if _ then _ else _)=_
    rw [if_neg (of_decide_eq_false g2),if_pos]
    cases e1:aw sc with
    |false=>rw [e1]at g3;cases g3
    |true=>
     refine ⟨rfl,?_⟩
     rw [e1]at g3
     exact of_decide_eq_true (show decide (Ht sc=x.1)=true by simpa using g3)
   rw [e];exact ⟨rfl,rfl⟩)
theorem Iu(bp:Option Addr)(sc us pw:Bs)(hk:Int)(hs:Bs)(hn:Int)(hp:List Int)(port:Int)(opq pn:Bool)(pl:List Bs)(hq:Bool)(q:Bs)(hf:Bool)(fg:Bs)(bare sp:Bool)(rst:Bs)(t:Bs):ag Tryz.prog ay 137 [.ptr 0 0,.str t,aC 1 (.raw (.pointer bp)) sc us pw hk hs hn hp port opq pn pl hq q hf fg bare sp rst] ⟨t.length≤300000,.tup [.int .i64 (dQ sc port t).2,aC 1 (.raw (.pointer bp)) sc us pw hk hs hn hp ((dQ sc port t).1) opq pn pl hq q hf fg bare sp rst]⟩:=ag.aZ (fun h=>by have e:List.isEmpty (PV.aA PV.br [.ptr 0 0,.str t,aC 1 (.raw (.pointer bp)) sc us pw hk hs hn hp port opq pn pl hq q hf fg bare sp rst])=false:=(by kernel_rfl);exact Bool.noConfusion (e.symm.trans (congrArg List.isEmpty h))) (Dl bp sc us pw hk hs hn hp port opq pn pl hq q hf fg bare sp rst t)
def qI:List PV→Option aI:=fun xs=>match xs with
 |[.ptr 0 0,.str t,aC 1 (.raw (.pointer bp)) sc us pw hk hs hn hp port opq pn pl hq q hf fg bare sp rst]=>some ⟨t.length≤300000,.tup [.int .i64 (dQ sc port t).2,aC 1 (.raw (.pointer bp)) sc us pw hk hs hn hp ((dQ sc port t).1) opq pn pl hq q hf fg bare sp rst]⟩
 |_=>none
theorem xw:∀xs c,qI xs=some c→ag Tryz.prog ay 137 xs c:=fun xs c h=>by
 unfold qI at h
 split at h
 ·injection h with h;subst h;exact Iu _ _ _ _ _ _ _ _ _ _ _ _ _ _ _ _ _ _ _ _
 ·cases h
end
section
theorem o9:∀(l:Bs) (w:Bool) (i:Int),kt w i l=-1∨(i≤kt w i l∧kt w i l<i+l.length)
 |[],w,i=>.inl rfl
 |b::l,w,i=>by
  have h1:=o9 l true (i+1)
  have h2:=o9 l false (i+1)
  have h3:=o9 l w (i+1)
  unfold kt
  rw [List.length_cons]
  split
  ·omega
  ·split
   ·omega
   ·split
    ·omega
    ·omega
theorem Bz(l:Bs):-1≤bc l∧bc l<max l.length 1:=by
 have:=o9 l false 0
 unfold bc
 cases l with
 |nil=>exact ⟨by decide,by decide⟩
 |cons b l=>rw [List.length_cons]at this⊢;omega
theorem Iv {l:Bs}(h:0<bc l):bc l<l.length:=by
 have:=Bz l
 cases l with
 |nil=>revert h;decide
 |cons b l=>rw [List.length_cons]at this⊢;omega
theorem F7(l:Bs)(c:Int):aF l c<l.length:=by
 rw [qm]
 rcases Lib.lastIndexByte_spec ⟨l.toArray⟩ c with⟨h1,-⟩|⟨i,h1,h2,-,-⟩
 ·rw [h1];omega
 ·rw [h2]
  have:i<l.length:=by simpa [ByteArray.size]using h1
  omega
theorem qJ(l:Bs)(z:Int):(ae l z).length≤l.length:=by unfold ae;rw [List.length_take];exact Nat.min_le_right _ _
theorem cO(l:Bs)(z:Int):(aa l z).length≤l.length:=by unfold aa;rw [List.length_drop];omega
theorem Iw(l:Bs)(c:UInt8):(cK l c).length≤l.length:=by
 unfold cK;split
 ·rw [List.length_take];exact Nat.min_le_right _ _
 ·exact Nat.le_refl _
theorem Ix(l:Bs)(c:UInt8):(cU l c).length≤l.length:=by
 unfold cU;split
 ·rw [List.length_drop];omega
 ·exact Nat.zero_le _
def KS(k:PV→List PV→Prop)(bp:Option Addr)(sc us pw:Bs)(hk:Int)(hs:Bs)(hn:Int)(hp:List Int)(port:Int)(opq pn:Bool)(pl:List Bs)(hq:Bool)(q:Bs)(hf:Bool)(fg:Bs)(bare sp:Bool)(t D:Bs):Prop:=t.length.le (1000000:Nat)∧
 ((bif decide (bc t=(0:Int))then true else bif decide (t=(ByteArray.mk #[]).data.toList)then sp else false)=true→
 k (PV.int .i64 (8:Int)) [bT (PV.raw (Go.Value.pointer bp)) 1 sc us pw hk hs hn hp port opq pn pl hq q hf fg bare sp D])∧
 ((bif decide (bc t=(0:Int))then true else bif decide (t=(ByteArray.mk #[]).data.toList)then sp else false)=false→
 (decide ((0:Int)<bc t)=true→
 upto (0:Int) (bc t) (ak t)∧
 aD (bc t+(1:Int))∧
 upto (bc t+(1:Int)) (ak t) (ak t)∧
 (ae t (bc t)).length.le (300000:Nat)∧
 ((!decide ((aN sp (ae t (bc t))).2.2.2.2=(0:Int)))=true→
 k (PV.int .i64 (aN sp (ae t (bc t))).2.2.2.2) [bT (PV.raw (Go.Value.pointer bp)) 1 sc us pw ((aN sp (ae t (bc t))).1) ((aN sp (ae t (bc t))).2.1) ((aN sp (ae t (bc t))).2.2.1) ((aN sp (ae t (bc t))).2.2.2.1) port opq pn pl hq q hf fg bare sp D])∧
 ((!decide ((aN sp (ae t (bc t))).2.2.2.2=(0:Int)))=false→
 (aa t (bc t+(1:Int))).length.le (300000:Nat)∧
 k (PV.int .i64 (dQ sc port (aa t (bc t+(1:Int)))).2) [bT (PV.raw (Go.Value.pointer bp)) 1 sc us pw ((aN sp (ae t (bc t))).1) ((aN sp (ae t (bc t))).2.1) ((aN sp (ae t (bc t))).2.2.1) ((aN sp (ae t (bc t))).2.2.2.1) ((dQ sc port (aa t (bc t+(1:Int)))).1) opq pn pl hq q hf fg bare sp D]))∧
 (decide ((0:Int)<bc t)=false→
 t.length.le (300000:Nat)∧
 ((!decide ((aN sp t).2.2.2.2=(0:Int)))=true→
 k (PV.int .i64 (aN sp t).2.2.2.2) [bT (PV.raw (Go.Value.pointer bp)) 1 sc us pw ((aN sp t).1) ((aN sp t).2.1) ((aN sp t).2.2.1) ((aN sp t).2.2.2.1) port opq pn pl hq q hf fg bare sp D])∧
 ((!decide ((aN sp t).2.2.2.2=(0:Int)))=false→
 (ByteArray.mk #[]).data.toList.length.le (300000:Nat)∧
 k (PV.int .i64 (0:Int)) [bT (PV.raw (Go.Value.pointer bp)) 1 sc us pw ((aN sp t).1) ((aN sp t).2.1) ((aN sp t).2.2.1) ((aN sp t).2.2.2.1) port opq pn pl hq q hf fg bare sp D])))
set_option maxHeartbeats 2000000 in
theorem BA(bp:Option Addr)(sc us pw:Bs)(hk:Int)(hs:Bs)(hn:Int)(hp:List Int)(port:Int)(opq pn:Bool)(pl:List Bs)(hq:Bool)(q:Bs)(hf:Bool)(fg:Bs)(bare sp:Bool)(t D:Bs)(hl:t.length≤300000):
 KS (fun v os=>v=.int .i64 ((RS.mk sc us pw hk hs hn hp port opq pn pl hq q hf fg bare sp D).bM t).2∧os=[aC 1 (.raw (.pointer bp)) sc (((RS.mk sc us pw hk hs hn hp port opq pn pl hq q hf fg bare sp D).bM t).1.us) (((RS.mk sc us pw hk hs hn hp port opq pn pl hq q hf fg bare sp D).bM t).1.pw) (((RS.mk sc us pw hk hs hn hp port opq pn pl hq q hf fg bare sp D).bM t).1.hk) (((RS.mk sc us pw hk hs hn hp port opq pn pl hq q hf fg bare sp D).bM t).1.hs) (((RS.mk sc us pw hk hs hn hp port opq pn pl hq q hf fg bare sp D).bM t).1.hn) (((RS.mk sc us pw hk hs hn hp port opq pn pl hq q hf fg bare sp D).bM t).1.hp) (((RS.mk sc us pw hk hs hn hp port opq pn pl hq q hf fg bare sp D).bM t).1.port) opq pn pl hq q hf fg bare sp D]) bp sc us pw hk hs hn hp port opq pn pl hq q hf fg bare sp t D:=by
 have hb:=Bz t
 have hcond:(bif decide (bc t=(0:Int))then true else bif decide (t=(ByteArray.mk #[]).data.toList)then sp else false)=decide (bc t=0∨(t=[]∧sp=true)):=by
  rw [Bool.eq_iff_iff]
  simp only [Fi,Lg,Bool.and_eq_true,Bool.or_eq_true,decide_eq_true_eq]
  try exact Iff.rfl
 unfold KS
 rw [hcond]
 refine ⟨show t.length≤1000000 by omega,fun h=>?_,fun h=>⟨fun h2=>?_,fun h2=>?_⟩⟩
 ·have e:(RS.mk sc us pw hk hs hn hp port opq pn pl hq q hf fg bare sp D).bM t=((RS.mk sc us pw hk hs hn hp port opq pn pl hq q hf fg bare sp D),8):=if_pos (of_decide_eq_true h)
  rw [e];exact ⟨rfl,rfl⟩
 ·have hc:=of_decide_eq_false h
  have h3:0<bc t:=of_decide_eq_true h2
  have h4:=Iv h3
  have ht:=qJ t (bc t)
  have hd:=cO t (bc t+1)
  have e:(RS.mk sc us pw hk hs hn hp port opq pn pl hq q hf fg bare sp D).bM t=if(aN sp (ae t (bc t))).2.2.2.2=0 then({(RS.mk sc us pw hk hs hn hp port opq pn pl hq q hf fg bare sp D)with hk:=(aN sp (ae t (bc t))).1,hs:=(aN sp (ae t (bc t))).2.1,hn:=(aN sp (ae t (bc t))).2.2.1,hp:=(aN sp (ae t (bc t))).2.2.2.1,port:=(dQ sc port (aa t (bc t+1))).1},(dQ sc port (aa t (bc t+1))).2)else({(RS.mk sc us pw hk hs hn hp port opq pn pl hq q hf fg bare sp D)with hk:=(aN sp (ae t (bc t))).1,hs:=(aN sp (ae t (bc t))).2.1,hn:=(aN sp (ae t (bc t))).2.2.1,hp:=(aN sp (ae t (bc t))).2.2.2.1},(aN sp (ae t (bc t))).2.2.2.2):=by
   unfold RS.bM
   rw [if_neg hc]
   dsimp only
   rw [if_pos h3,if_pos h3]
  rw [e]
  refine ⟨⟨by omega,by omega,by unfold ak;omega⟩,by unfold aD;omega,⟨by omega,by unfold ak;omega,Int.le_refl _⟩,show(ae t (bc t)).length≤300000 by omega,fun h5=>?_,fun h5=>⟨show(aa t (bc t+1)).length≤300000 by omega,?_⟩⟩
  ·rw [if_neg (by simpa using h5)];exact ⟨rfl,rfl⟩
  ·rw [if_pos (by simpa using h5)];exact ⟨rfl,rfl⟩
 ·have hc:=of_decide_eq_false h
  have h3:¬0<bc t:=of_decide_eq_false h2
  have e:(RS.mk sc us pw hk hs hn hp port opq pn pl hq q hf fg bare sp D).bM t=if(aN sp t).2.2.2.2=0 then({(RS.mk sc us pw hk hs hn hp port opq pn pl hq q hf fg bare sp D)with hk:=(aN sp t).1,hs:=(aN sp t).2.1,hn:=(aN sp t).2.2.1,hp:=(aN sp t).2.2.2.1,port:=(dQ sc port []).1},(dQ sc port []).2)else({(RS.mk sc us pw hk hs hn hp port opq pn pl hq q hf fg bare sp D)with hk:=(aN sp t).1,hs:=(aN sp t).2.1,hn:=(aN sp t).2.2.1,hp:=(aN sp t).2.2.2.1},(aN sp t).2.2.2.2):=by
   unfold RS.bM
   rw [if_neg hc]
   dsimp only
   rw [if_neg h3,if_neg h3]
  rw [e]
  refine ⟨show t.length≤300000 from hl,fun h5=>?_,fun h5=>⟨Nat.zero_le _,?_⟩⟩
  ·rw [if_neg (by simpa using h5)];exact ⟨rfl,rfl⟩
  ·rw [if_pos (by simpa using h5)];exact ⟨rfl,rfl⟩
def oB:cq:=bN [(124,fP),(128,gE),(133,qn),(134,uH),(26,eY),(135,nE),(136,jP),(137,qI)]
def oC(bp:Option Addr)(sc us pw:Bs)(hk:Int)(hs:Bs)(hn:Int)(hp:List Int)(port:Int)(opq pn:Bool)(pl:List Bs)(hq:Bool)(q:Bs)(hf:Bool)(fg:Bs)(bare sp:Bool)(rst:Bs):aY:=fun i=>none
theorem qK:cS Tryz.prog ay oB:=ai gD (ai fQ (ai w9 (ai zz (ai dP (ai uY (ai qy (ai xw (ax))))))))
theorem uZ(bp:Option Addr)(sc us pw:Bs)(hk:Int)(hs:Bs)(hn:Int)(hp:List Int)(port:Int)(opq pn:Bool)(pl:List Bs)(hq:Bool)(q:Bs)(hf:Bool)(fg:Bs)(bare sp:Bool)(rst:Bs)(k:PV→List PV→Prop):bK Tryz.prog oB ay (oC bp sc us pw hk hs hn hp port opq pn pl hq q hf fg bare sp rst) 1000 Tryz.f88 [.ptr 0 0] [aC 1 (.raw (.pointer bp)) sc us pw hk hs hn hp port opq pn pl hq q hf fg bare sp rst] k=(
 (List.length rst).le (300000:Nat)∧
 ((0:Int)≤↑(ah sp rst)∧
 ↑(ah sp rst)≤ak rst)∧
 ((ae rst ↑(ah sp rst)).length≤(1000000:Nat)∧
 (0:Int)≤(64:Int)∧
 (64:Int)≤(255:Int))∧
 (decide ((0:Int)≤aF (ae rst ↑(ah sp rst)) (64:Int))=true→
 upto (0:Int) (aF (ae rst ↑(ah sp rst)) (64:Int)) (ak (ae rst ↑(ah sp rst)))∧
 ((ae (ae rst ↑(ah sp rst)) (aF (ae rst ↑(ah sp rst)) (64:Int))).length≤(1000000:Nat)∧
 (ByteArray.mk #[58]).data.toList=[(58:UInt8)])∧
 ((cK (ae (ae rst ↑(ah sp rst)) (aF (ae rst ↑(ah sp rst)) (64:Int))) (58:UInt8)).length≤(300000:Nat)∧
 (0:Int)≤(5:Int)∧
 (5:Int)≤(6:Int))∧
 ((cU (ae (ae rst ↑(ah sp rst)) (aF (ae rst ↑(ah sp rst)) (64:Int))) (58:UInt8)).length≤(300000:Nat)∧
 (0:Int)≤(5:Int)∧
 (5:Int)≤(6:Int))∧
 aD (aF (ae rst ↑(ah sp rst)) (64:Int)+(1:Int))∧
 upto (aF (ae rst ↑(ah sp rst)) (64:Int)+(1:Int)) (ak (ae rst ↑(ah sp rst))) (ak (ae rst ↑(ah sp rst)))∧
 (decide (aa (ae rst ↑(ah sp rst)) (aF (ae rst ↑(ah sp rst)) (64:Int)+(1:Int))=(ByteArray.mk #[]).data.toList)=true→
 k (PV.int .i64 (8:Int)) [bT (PV.raw (Go.Value.pointer bp)) 1 sc (aU (5:Int) (cK (ae (ae rst ↑(ah sp rst)) (aF (ae rst ↑(ah sp rst)) (64:Int))) (58:UInt8))) (aU (5:Int) (cU (ae (ae rst ↑(ah sp rst)) (aF (ae rst ↑(ah sp rst)) (64:Int))) (58:UInt8))) hk hs hn hp port opq pn pl hq q hf fg bare sp (aa rst ↑(ah sp rst))])∧
 (decide (aa (ae rst ↑(ah sp rst)) (aF (ae rst ↑(ah sp rst)) (64:Int)+(1:Int))=(ByteArray.mk #[]).data.toList)=false→
 (aa (ae rst ↑(ah sp rst)) (aF (ae rst ↑(ah sp rst)) (64:Int)+(1:Int))).length.le (1000000:Nat)∧
 ((bif decide (bc (aa (ae rst ↑(ah sp rst)) (aF (ae rst ↑(ah sp rst)) (64:Int)+(1:Int)))=(0:Int))then true else bif decide (aa (ae rst ↑(ah sp rst)) (aF (ae rst ↑(ah sp rst)) (64:Int)+(1:Int))=(ByteArray.mk #[]).data.toList)then sp else false)=true→
 k (PV.int .i64 (8:Int)) [bT (PV.raw (Go.Value.pointer bp)) 1 sc (aU (5:Int) (cK (ae (ae rst ↑(ah sp rst)) (aF (ae rst ↑(ah sp rst)) (64:Int))) (58:UInt8))) (aU (5:Int) (cU (ae (ae rst ↑(ah sp rst)) (aF (ae rst ↑(ah sp rst)) (64:Int))) (58:UInt8))) hk hs hn hp port opq pn pl hq q hf fg bare sp (aa rst ↑(ah sp rst))])∧
 ((bif decide (bc (aa (ae rst ↑(ah sp rst)) (aF (ae rst ↑(ah sp rst)) (64:Int)+(1:Int)))=(0:Int))then true else bif decide (aa (ae rst ↑(ah sp rst)) (aF (ae rst ↑(ah sp rst)) (64:Int)+(1:Int))=(ByteArray.mk #[]).data.toList)then sp else false)=false→
 (decide ((0:Int)<bc (aa (ae rst ↑(ah sp rst)) (aF (ae rst ↑(ah sp rst)) (64:Int)+(1:Int))))=true→
 upto (0:Int) (bc (aa (ae rst ↑(ah sp rst)) (aF (ae rst ↑(ah sp rst)) (64:Int)+(1:Int)))) (ak (aa (ae rst ↑(ah sp rst)) (aF (ae rst ↑(ah sp rst)) (64:Int)+(1:Int))))∧
 aD (bc (aa (ae rst ↑(ah sp rst)) (aF (ae rst ↑(ah sp rst)) (64:Int)+(1:Int)))+(1:Int))∧
 upto (bc (aa (ae rst ↑(ah sp rst)) (aF (ae rst ↑(ah sp rst)) (64:Int)+(1:Int)))+(1:Int)) (ak (aa (ae rst ↑(ah sp rst)) (aF (ae rst ↑(ah sp rst)) (64:Int)+(1:Int)))) (ak (aa (ae rst ↑(ah sp rst)) (aF (ae rst ↑(ah sp rst)) (64:Int)+(1:Int))))∧
 (ae (aa (ae rst ↑(ah sp rst)) (aF (ae rst ↑(ah sp rst)) (64:Int)+(1:Int))) (bc (aa (ae rst ↑(ah sp rst)) (aF (ae rst ↑(ah sp rst)) (64:Int)+(1:Int))))).length.le (300000:Nat)∧
 ((!decide ((aN sp (ae (aa (ae rst ↑(ah sp rst)) (aF (ae rst ↑(ah sp rst)) (64:Int)+(1:Int))) (bc (aa (ae rst ↑(ah sp rst)) (aF (ae rst ↑(ah sp rst)) (64:Int)+(1:Int)))))).2.2.2.2=(0:Int)))=true→
 k (PV.int .i64 (aN sp (ae (aa (ae rst ↑(ah sp rst)) (aF (ae rst ↑(ah sp rst)) (64:Int)+(1:Int))) (bc (aa (ae rst ↑(ah sp rst)) (aF (ae rst ↑(ah sp rst)) (64:Int)+(1:Int)))))).2.2.2.2) [bT (PV.raw (Go.Value.pointer bp)) 1 sc (aU (5:Int) (cK (ae (ae rst ↑(ah sp rst)) (aF (ae rst ↑(ah sp rst)) (64:Int))) (58:UInt8))) (aU (5:Int) (cU (ae (ae rst ↑(ah sp rst)) (aF (ae rst ↑(ah sp rst)) (64:Int))) (58:UInt8))) ((aN sp (ae (aa (ae rst ↑(ah sp rst)) (aF (ae rst ↑(ah sp rst)) (64:Int)+(1:Int))) (bc (aa (ae rst ↑(ah sp rst)) (aF (ae rst ↑(ah sp rst)) (64:Int)+(1:Int)))))).1) ((aN sp (ae (aa (ae rst ↑(ah sp rst)) (aF (ae rst ↑(ah sp rst)) (64:Int)+(1:Int))) (bc (aa (ae rst ↑(ah sp rst)) (aF (ae rst ↑(ah sp rst)) (64:Int)+(1:Int)))))).2.1) ((aN sp (ae (aa (ae rst ↑(ah sp rst)) (aF (ae rst ↑(ah sp rst)) (64:Int)+(1:Int))) (bc (aa (ae rst ↑(ah sp rst)) (aF (ae rst ↑(ah sp rst)) (64:Int)+(1:Int)))))).2.2.1) ((aN sp (ae (aa (ae rst ↑(ah sp rst)) (aF (ae rst ↑(ah sp rst)) (64:Int)+(1:Int))) (bc (aa (ae rst ↑(ah sp rst)) (aF (ae rst ↑(ah sp rst)) (64:Int)+(1:Int)))))).2.2.2.1) port opq pn pl hq q hf fg bare sp (aa rst ↑(ah sp rst))])∧
 ((!decide ((aN sp (ae (aa (ae rst ↑(ah sp rst)) (aF (ae rst ↑(ah sp rst)) (64:Int)+(1:Int))) (bc (aa (ae rst ↑(ah sp rst)) (aF (ae rst ↑(ah sp rst)) (64:Int)+(1:Int)))))).2.2.2.2=(0:Int)))=false→
 (aa (aa (ae rst ↑(ah sp rst)) (aF (ae rst ↑(ah sp rst)) (64:Int)+(1:Int))) (bc (aa (ae rst ↑(ah sp rst)) (aF (ae rst ↑(ah sp rst)) (64:Int)+(1:Int)))+(1:Int))).length.le (300000:Nat)∧
 k (PV.int .i64 (dQ sc port (aa (aa (ae rst ↑(ah sp rst)) (aF (ae rst ↑(ah sp rst)) (64:Int)+(1:Int))) (bc (aa (ae rst ↑(ah sp rst)) (aF (ae rst ↑(ah sp rst)) (64:Int)+(1:Int)))+(1:Int)))).2) [bT (PV.raw (Go.Value.pointer bp)) 1 sc (aU (5:Int) (cK (ae (ae rst ↑(ah sp rst)) (aF (ae rst ↑(ah sp rst)) (64:Int))) (58:UInt8))) (aU (5:Int) (cU (ae (ae rst ↑(ah sp rst)) (aF (ae rst ↑(ah sp rst)) (64:Int))) (58:UInt8))) ((aN sp (ae (aa (ae rst ↑(ah sp rst)) (aF (ae rst ↑(ah sp rst)) (64:Int)+(1:Int))) (bc (aa (ae rst ↑(ah sp rst)) (aF (ae rst ↑(ah sp rst)) (64:Int)+(1:Int)))))).1) ((aN sp (ae (aa (ae rst ↑(ah sp rst)) (aF (ae rst ↑(ah sp rst)) (64:Int)+(1:Int))) (bc (aa (ae rst ↑(ah sp rst)) (aF (ae rst ↑(ah sp rst)) (64:Int)+(1:Int)))))).2.1) ((aN sp (ae (aa (ae rst ↑(ah sp rst)) (aF (ae rst ↑(ah sp rst)) (64:Int)+(1:Int))) (bc (aa (ae rst ↑(ah sp rst)) (aF (ae rst ↑(ah sp rst)) (64:Int)+(1:Int)))))).2.2.1) ((aN sp (ae (aa (ae rst ↑(ah sp rst)) (aF (ae rst ↑(ah sp rst)) (64:Int)+(1:Int))) (bc (aa (ae rst ↑(ah sp rst)) (aF (ae rst ↑(ah sp rst)) (64:Int)+(1:Int)))))).2.2.2.1) ((dQ sc port (aa (aa (ae rst ↑(ah sp rst)) (aF (ae rst ↑(ah sp rst)) (64:Int)+(1:Int))) (bc (aa (ae rst ↑(ah sp rst)) (aF (ae rst ↑(ah sp rst)) (64:Int)+(1:Int)))+(1:Int)))).1) opq pn pl hq q hf fg bare sp (aa rst ↑(ah sp rst))]))∧
 (decide ((0:Int)<bc (aa (ae rst ↑(ah sp rst)) (aF (ae rst ↑(ah sp rst)) (64:Int)+(1:Int))))=false→
 (aa (ae rst ↑(ah sp rst)) (aF (ae rst ↑(ah sp rst)) (64:Int)+(1:Int))).length.le (300000:Nat)∧
 ((!decide ((aN sp (aa (ae rst ↑(ah sp rst)) (aF (ae rst ↑(ah sp rst)) (64:Int)+(1:Int)))).2.2.2.2=(0:Int)))=true→
 k (PV.int .i64 (aN sp (aa (ae rst ↑(ah sp rst)) (aF (ae rst ↑(ah sp rst)) (64:Int)+(1:Int)))).2.2.2.2) [bT (PV.raw (Go.Value.pointer bp)) 1 sc (aU (5:Int) (cK (ae (ae rst ↑(ah sp rst)) (aF (ae rst ↑(ah sp rst)) (64:Int))) (58:UInt8))) (aU (5:Int) (cU (ae (ae rst ↑(ah sp rst)) (aF (ae rst ↑(ah sp rst)) (64:Int))) (58:UInt8))) ((aN sp (aa (ae rst ↑(ah sp rst)) (aF (ae rst ↑(ah sp rst)) (64:Int)+(1:Int)))).1) ((aN sp (aa (ae rst ↑(ah sp rst)) (aF (ae rst ↑(ah sp rst)) (64:Int)+(1:Int)))).2.1) ((aN sp (aa (ae rst ↑(ah sp rst)) (aF (ae rst ↑(ah sp rst)) (64:Int)+(1:Int)))).2.2.1) ((aN sp (aa (ae rst ↑(ah sp rst)) (aF (ae rst ↑(ah sp rst)) (64:Int)+(1:Int)))).2.2.2.1) port opq pn pl hq q hf fg bare sp (aa rst ↑(ah sp rst))])∧
 ((!decide ((aN sp (aa (ae rst ↑(ah sp rst)) (aF (ae rst ↑(ah sp rst)) (64:Int)+(1:Int)))).2.2.2.2=(0:Int)))=false→
 (ByteArray.mk #[]).data.toList.length.le (300000:Nat)∧
 k (PV.int .i64 (0:Int)) [bT (PV.raw (Go.Value.pointer bp)) 1 sc (aU (5:Int) (cK (ae (ae rst ↑(ah sp rst)) (aF (ae rst ↑(ah sp rst)) (64:Int))) (58:UInt8))) (aU (5:Int) (cU (ae (ae rst ↑(ah sp rst)) (aF (ae rst ↑(ah sp rst)) (64:Int))) (58:UInt8))) ((aN sp (aa (ae rst ↑(ah sp rst)) (aF (ae rst ↑(ah sp rst)) (64:Int)+(1:Int)))).1) ((aN sp (aa (ae rst ↑(ah sp rst)) (aF (ae rst ↑(ah sp rst)) (64:Int)+(1:Int)))).2.1) ((aN sp (aa (ae rst ↑(ah sp rst)) (aF (ae rst ↑(ah sp rst)) (64:Int)+(1:Int)))).2.2.1) ((aN sp (aa (ae rst ↑(ah sp rst)) (aF (ae rst ↑(ah sp rst)) (64:Int)+(1:Int)))).2.2.2.1) port opq pn pl hq q hf fg bare sp (aa rst ↑(ah sp rst))])))))∧
 (decide ((0:Int)≤aF (ae rst ↑(ah sp rst)) (64:Int))=false→
 (ae rst ↑(ah sp rst)).length.le (1000000:Nat)∧
 ((bif decide (bc (ae rst ↑(ah sp rst))=(0:Int))then true else bif decide (ae rst ↑(ah sp rst)=(ByteArray.mk #[]).data.toList)then sp else false)=true→
 k (PV.int .i64 (8:Int)) [bT (PV.raw (Go.Value.pointer bp)) 1 sc us pw hk hs hn hp port opq pn pl hq q hf fg bare sp (aa rst ↑(ah sp rst))])∧
 ((bif decide (bc (ae rst ↑(ah sp rst))=(0:Int))then true else bif decide (ae rst ↑(ah sp rst)=(ByteArray.mk #[]).data.toList)then sp else false)=false→
 (decide ((0:Int)<bc (ae rst ↑(ah sp rst)))=true→
 upto (0:Int) (bc (ae rst ↑(ah sp rst))) (ak (ae rst ↑(ah sp rst)))∧
 aD (bc (ae rst ↑(ah sp rst))+(1:Int))∧
 upto (bc (ae rst ↑(ah sp rst))+(1:Int)) (ak (ae rst ↑(ah sp rst))) (ak (ae rst ↑(ah sp rst)))∧
 (ae (ae rst ↑(ah sp rst)) (bc (ae rst ↑(ah sp rst)))).length.le (300000:Nat)∧
 ((!decide ((aN sp (ae (ae rst ↑(ah sp rst)) (bc (ae rst ↑(ah sp rst))))).2.2.2.2=(0:Int)))=true→
 k (PV.int .i64 (aN sp (ae (ae rst ↑(ah sp rst)) (bc (ae rst ↑(ah sp rst))))).2.2.2.2) [bT (PV.raw (Go.Value.pointer bp)) 1 sc us pw ((aN sp (ae (ae rst ↑(ah sp rst)) (bc (ae rst ↑(ah sp rst))))).1) ((aN sp (ae (ae rst ↑(ah sp rst)) (bc (ae rst ↑(ah sp rst))))).2.1) ((aN sp (ae (ae rst ↑(ah sp rst)) (bc (ae rst ↑(ah sp rst))))).2.2.1) ((aN sp (ae (ae rst ↑(ah sp rst)) (bc (ae rst ↑(ah sp rst))))).2.2.2.1) port opq pn pl hq q hf fg bare sp (aa rst ↑(ah sp rst))])∧
 ((!decide ((aN sp (ae (ae rst ↑(ah sp rst)) (bc (ae rst ↑(ah sp rst))))).2.2.2.2=(0:Int)))=false→
 (aa (ae rst ↑(ah sp rst)) (bc (ae rst ↑(ah sp rst))+(1:Int))).length.le (300000:Nat)∧
 k (PV.int .i64 (dQ sc port (aa (ae rst ↑(ah sp rst)) (bc (ae rst ↑(ah sp rst))+(1:Int)))).2) [bT (PV.raw (Go.Value.pointer bp)) 1 sc us pw ((aN sp (ae (ae rst ↑(ah sp rst)) (bc (ae rst ↑(ah sp rst))))).1) ((aN sp (ae (ae rst ↑(ah sp rst)) (bc (ae rst ↑(ah sp rst))))).2.1) ((aN sp (ae (ae rst ↑(ah sp rst)) (bc (ae rst ↑(ah sp rst))))).2.2.1) ((aN sp (ae (ae rst ↑(ah sp rst)) (bc (ae rst ↑(ah sp rst))))).2.2.2.1) ((dQ sc port (aa (ae rst ↑(ah sp rst)) (bc (ae rst ↑(ah sp rst))+(1:Int)))).1) opq pn pl hq q hf fg bare sp (aa rst ↑(ah sp rst))]))∧
 (decide ((0:Int)<bc (ae rst ↑(ah sp rst)))=false→
 (ae rst ↑(ah sp rst)).length.le (300000:Nat)∧
 ((!decide ((aN sp (ae rst ↑(ah sp rst))).2.2.2.2=(0:Int)))=true→
 k (PV.int .i64 (aN sp (ae rst ↑(ah sp rst))).2.2.2.2) [bT (PV.raw (Go.Value.pointer bp)) 1 sc us pw ((aN sp (ae rst ↑(ah sp rst))).1) ((aN sp (ae rst ↑(ah sp rst))).2.1) ((aN sp (ae rst ↑(ah sp rst))).2.2.1) ((aN sp (ae rst ↑(ah sp rst))).2.2.2.1) port opq pn pl hq q hf fg bare sp (aa rst ↑(ah sp rst))])∧
 ((!decide ((aN sp (ae rst ↑(ah sp rst))).2.2.2.2=(0:Int)))=false→
 (ByteArray.mk #[]).data.toList.length.le (300000:Nat)∧
 k (PV.int .i64 (0:Int)) [bT (PV.raw (Go.Value.pointer bp)) 1 sc us pw ((aN sp (ae rst ↑(ah sp rst))).1) ((aN sp (ae rst ↑(ah sp rst))).2.1) ((aN sp (ae rst ↑(ah sp rst))).2.2.1) ((aN sp (ae rst ↑(ah sp rst))).2.2.2.1) port opq pn pl hq q hf fg bare sp (aa rst ↑(ah sp rst))]))))):=by kernel_rfl
attribute [local irreducible] Go.Vc.cC Go.Vc.bK
theorem qL(bp:Option Addr)(sc us pw:Bs)(hk:Int)(hs:Bs)(hn:Int)(hp:List Int)(port:Int)(opq pn:Bool)(pl:List Bs)(hq:Bool)(q:Bs)(hf:Bool)(fg:Bs)(bare sp:Bool)(rst:Bs):bj Tryz.prog ay 88 [.ptr 0 0] [aC 1 (.raw (.pointer bp)) sc us pw hk hs hn hp port opq pn pl hq q hf fg bare sp rst] (rst.length≤300000) (.int .i64 (RS.mk sc us pw hk hs hn hp port opq pn pl hq q hf fg bare sp rst).aX.2) [aC 1 (.raw (.pointer bp)) sc ((RS.mk sc us pw hk hs hn hp port opq pn pl hq q hf fg bare sp rst).aX.1.us) ((RS.mk sc us pw hk hs hn hp port opq pn pl hq q hf fg bare sp rst).aX.1.pw) ((RS.mk sc us pw hk hs hn hp port opq pn pl hq q hf fg bare sp rst).aX.1.hk) ((RS.mk sc us pw hk hs hn hp port opq pn pl hq q hf fg bare sp rst).aX.1.hs) ((RS.mk sc us pw hk hs hn hp port opq pn pl hq q hf fg bare sp rst).aX.1.hn) ((RS.mk sc us pw hk hs hn hp port opq pn pl hq q hf fg bare sp rst).aX.1.hp) ((RS.mk sc us pw hk hs hn hp port opq pn pl hq q hf fg bare sp rst).aX.1.port) opq pn pl hq q hf fg bare sp (aa rst (ah sp rst))]:=bt (by kernel_rfl) qK (H:=oC bp sc us pw hk hs hn hp port opq pn pl hq q hf fg bare sp rst) (fuel:=1000) Tryz.func88 (by kernel_rfl) (Nat.le_of_ble_eq_true rfl) fun hpre=>(uZ bp sc us pw hk hs hn hp port opq pn pl hq q hf fg bare sp rst _).mpr (by
 have e3:ah sp rst≤rst.length:=fv _ _
 obtain ⟨S,e4⟩:∃S,S=ae rst (ah sp rst:Int):=⟨_,rfl⟩
 obtain ⟨D,e5⟩:∃D,D=aa rst (ah sp rst:Int):=⟨_,rfl⟩
 have ha:(RS.mk sc us pw hk hs hn hp port opq pn pl hq q hf fg bare sp rst).aX=if 0≤aF S 64 then(if aa S (aF S 64+1)=[]then(RS.mk sc (aU 5 (cK (ae S (aF S 64)) 58)) (aU 5 (cU (ae S (aF S 64)) 58)) hk hs hn hp port opq pn pl hq q hf fg bare sp D,8)else(RS.mk sc (aU 5 (cK (ae S (aF S 64)) 58)) (aU 5 (cU (ae S (aF S 64)) 58)) hk hs hn hp port opq pn pl hq q hf fg bare sp D).bM (aa S (aF S 64+1)))else(RS.mk sc us pw hk hs hn hp port opq pn pl hq q hf fg bare sp D).bM S:=by rw [e4,e5];rfl
 rw [←e4,←e5]
 have e6:S.length≤300000:=by rw [e4];have:=qJ rst (ah sp rst:Int);omega
 have hl:=F7 S 64
 have ht:=qJ S (aF S 64)
 have hd:=cO S (aF S 64+1)
 have hca:=Iw (ae S (aF S 64)) 58
 have hcb:=Ix (ae S (aF S 64)) 58
 refine ⟨show rst.length≤300000 from hpre,⟨by omega,by unfold ak;exact Int.ofNat_le.2 e3⟩,⟨by omega,by omega,by omega⟩,fun h=>⟨⟨by omega,of_decide_eq_true h,by unfold ak;omega⟩,⟨by omega,rfl⟩,⟨by omega,by omega,by omega⟩,⟨by omega,by omega,by omega⟩,by have:=of_decide_eq_true h;unfold aD;omega,⟨by have:=of_decide_eq_true h;omega,by unfold ak;omega,Int.le_refl _⟩,fun h2=>?_,fun h2=>?_⟩,fun h=>?_⟩
 ·rw [ha,if_pos (of_decide_eq_true h),if_pos (show aa S (aF S 64+1)=[]from of_decide_eq_true h2)]
  exact ⟨rfl,rfl⟩
 ·rw [ha,if_pos (of_decide_eq_true h),if_neg (show ¬aa S (aF S 64+1)=[]from of_decide_eq_false h2)]
  exact BA bp sc (aU 5 (cK (ae S (aF S 64)) 58)) (aU 5 (cU (ae S (aF S 64)) 58)) hk hs hn hp port opq pn pl hq q hf fg bare sp (aa S (aF S 64+1)) D (by omega)
 ·rw [ha,if_neg (of_decide_eq_false h)]
  exact BA bp sc us pw hk hs hn hp port opq pn pl hq q hf fg bare sp S D e6)
theorem u9(bp:Option Addr)(sc us pw:Bs)(hk:Int)(hs:Bs)(hn:Int)(hp:List Int)(port:Int)(opq pn:Bool)(pl:List Bs)(hq:Bool)(q:Bs)(hf:Bool)(fg:Bs)(bare sp:Bool)(rst:Bs):ag Tryz.prog ay 88 [.ptr 0 0,aC 1 (.raw (.pointer bp)) sc us pw hk hs hn hp port opq pn pl hq q hf fg bare sp rst] ⟨rst.length≤300000,.tup [.int .i64 (RS.mk sc us pw hk hs hn hp port opq pn pl hq q hf fg bare sp rst).aX.2,aC 1 (.raw (.pointer bp)) sc ((RS.mk sc us pw hk hs hn hp port opq pn pl hq q hf fg bare sp rst).aX.1.us) ((RS.mk sc us pw hk hs hn hp port opq pn pl hq q hf fg bare sp rst).aX.1.pw) ((RS.mk sc us pw hk hs hn hp port opq pn pl hq q hf fg bare sp rst).aX.1.hk) ((RS.mk sc us pw hk hs hn hp port opq pn pl hq q hf fg bare sp rst).aX.1.hs) ((RS.mk sc us pw hk hs hn hp port opq pn pl hq q hf fg bare sp rst).aX.1.hn) ((RS.mk sc us pw hk hs hn hp port opq pn pl hq q hf fg bare sp rst).aX.1.hp) ((RS.mk sc us pw hk hs hn hp port opq pn pl hq q hf fg bare sp rst).aX.1.port) opq pn pl hq q hf fg bare sp (aa rst (ah sp rst))]⟩:=ag.aZ (fun h=>by have e:List.isEmpty (PV.aA PV.br [.ptr 0 0,aC 1 (.raw (.pointer bp)) sc us pw hk hs hn hp port opq pn pl hq q hf fg bare sp rst])=false:=(by kernel_rfl);exact Bool.noConfusion (e.symm.trans (congrArg List.isEmpty h))) (qL bp sc us pw hk hs hn hp port opq pn pl hq q hf fg bare sp rst)
def hM:List PV→Option aI:=fun xs=>match xs with
 |[.ptr 0 0,aC 1 (.raw (.pointer bp)) sc us pw hk hs hn hp port opq pn pl hq q hf fg bare sp rst]=>some ⟨rst.length≤300000,.tup [.int .i64 (RS.mk sc us pw hk hs hn hp port opq pn pl hq q hf fg bare sp rst).aX.2,aC 1 (.raw (.pointer bp)) sc ((RS.mk sc us pw hk hs hn hp port opq pn pl hq q hf fg bare sp rst).aX.1.us) ((RS.mk sc us pw hk hs hn hp port opq pn pl hq q hf fg bare sp rst).aX.1.pw) ((RS.mk sc us pw hk hs hn hp port opq pn pl hq q hf fg bare sp rst).aX.1.hk) ((RS.mk sc us pw hk hs hn hp port opq pn pl hq q hf fg bare sp rst).aX.1.hs) ((RS.mk sc us pw hk hs hn hp port opq pn pl hq q hf fg bare sp rst).aX.1.hn) ((RS.mk sc us pw hk hs hn hp port opq pn pl hq q hf fg bare sp rst).aX.1.hp) ((RS.mk sc us pw hk hs hn hp port opq pn pl hq q hf fg bare sp rst).aX.1.port) opq pn pl hq q hf fg bare sp (aa rst (ah sp rst))]⟩
 |_=>none
theorem nG:∀xs c,hM xs=some c→ag Tryz.prog ay 88 xs c:=fun xs c h=>by
 unfold hM at h
 split at h
 ·injection h with h;subst h;exact u9 _ _ _ _ _ _ _ _ _ _ _ _ _ _ _ _ _ _ _
 ·cases h
end
section
def qM:cq:=bN [(124,fP),(128,gE),(136,lk)]
def qN(bp:Option Addr)(sc us pw:Bs)(hk:Int)(hs:Bs)(hn:Int)(hp:List Int)(port:Int)(opq pn:Bool)(pl:List Bs)(hq:Bool)(q:Bs)(hf:Bool)(fg:Bs)(bare sp:Bool)(rst:Bs):aY:=fun i=>none
theorem rJ:cS Tryz.prog ay qM:=ai gD (ai fQ (ai rG (ax)))
theorem xx(bp:Option Addr)(sc us pw:Bs)(hk:Int)(hs:Bs)(hn:Int)(hp:List Int)(port:Int)(opq pn:Bool)(pl:List Bs)(hq:Bool)(q:Bs)(hf:Bool)(fg:Bs)(bare sp:Bool)(rst:Bs)(k:PV→List PV→Prop):bK Tryz.prog qM ay (qN bp sc us pw hk hs hn hp port opq pn pl hq q hf fg bare sp rst) 1000 Tryz.f125 [.ptr 0 0] [aC 1 (.raw (.pointer bp)) sc us pw hk hs hn hp port opq pn pl hq q hf fg bare sp rst] k=(
 (List.length rst).le (300000:Nat)∧
 ((0:Int)≤↑(ah sp rst)∧
 ↑(ah sp rst)≤ak rst)∧
 (decide (ae rst ↑(ah sp rst)=(ByteArray.mk #[]).data.toList)=true→
 k (PV.int .i64 (0:Int)) [bT (PV.raw (Go.Value.pointer bp)) 1 sc us pw hk hs hn hp port opq pn pl hq q hf fg bare sp (aa rst ↑(ah sp rst))])∧
 (decide (ae rst ↑(ah sp rst)=(ByteArray.mk #[]).data.toList)=false→
 (ae rst ↑(ah sp rst)).length.le (1000000:Nat)∧
 ((bif !decide ((cu (ae rst ↑(ah sp rst))).1=(2:Int))then true else !decide ((cu (ae rst ↑(ah sp rst))).2.1=(ByteArray.mk #[108,111,99,97,108,104,111,115,116]).data.toList))=true→
 k (PV.int .i64 (cu (ae rst ↑(ah sp rst))).2.2.2.2) [bT (PV.raw (Go.Value.pointer bp)) 1 sc us pw ((cu (ae rst ↑(ah sp rst))).1) ((cu (ae rst ↑(ah sp rst))).2.1) ((cu (ae rst ↑(ah sp rst))).2.2.1) ((cu (ae rst ↑(ah sp rst))).2.2.2.1) port opq pn pl hq q hf fg bare sp (aa rst ↑(ah sp rst))])∧
 ((bif !decide ((cu (ae rst ↑(ah sp rst))).1=(2:Int))then true else !decide ((cu (ae rst ↑(ah sp rst))).2.1=(ByteArray.mk #[108,111,99,97,108,104,111,115,116]).data.toList))=false→
 k (PV.int .i64 (cu (ae rst ↑(ah sp rst))).2.2.2.2) [bT (PV.raw (Go.Value.pointer bp)) 1 sc us pw hk hs hn hp port opq pn pl hq q hf fg bare sp (aa rst ↑(ah sp rst))]))):=by kernel_rfl
attribute [local irreducible] Go.Vc.cC Go.Vc.bK
theorem rK(bp:Option Addr)(sc us pw:Bs)(hk:Int)(hs:Bs)(hn:Int)(hp:List Int)(port:Int)(opq pn:Bool)(pl:List Bs)(hq:Bool)(q:Bs)(hf:Bool)(fg:Bs)(bare sp:Bool)(rst:Bs):bj Tryz.prog ay 125 [.ptr 0 0] [aC 1 (.raw (.pointer bp)) sc us pw hk hs hn hp port opq pn pl hq q hf fg bare sp rst] (rst.length≤300000) (.int .i64 (RS.mk sc us pw hk hs hn hp port opq pn pl hq q hf fg bare sp rst).av.2) [aC 1 (.raw (.pointer bp)) sc us pw ((RS.mk sc us pw hk hs hn hp port opq pn pl hq q hf fg bare sp rst).av.1.hk) ((RS.mk sc us pw hk hs hn hp port opq pn pl hq q hf fg bare sp rst).av.1.hs) ((RS.mk sc us pw hk hs hn hp port opq pn pl hq q hf fg bare sp rst).av.1.hn) ((RS.mk sc us pw hk hs hn hp port opq pn pl hq q hf fg bare sp rst).av.1.hp) port opq pn pl hq q hf fg bare sp (aa rst (ah sp rst))]:=bt (by kernel_rfl) rJ (H:=qN bp sc us pw hk hs hn hp port opq pn pl hq q hf fg bare sp rst) (fuel:=1000) Tryz.func125 (by kernel_rfl) (Nat.le_of_ble_eq_true rfl) fun hpre=>(xx bp sc us pw hk hs hn hp port opq pn pl hq q hf fg bare sp rst _).mpr (by
 have e3:ah sp rst≤rst.length:=fv _ _
 obtain ⟨S,e4⟩:∃S,S=ae rst (ah sp rst:Int):=⟨_,rfl⟩
 rw [←e4]
 have e6:S.length≤300000:=by rw [e4];unfold ae;rw [List.length_take];omega
 have ef:(RS.mk sc us pw hk hs hn hp port opq pn pl hq q hf fg bare sp rst).av=if S=[]then((RS.mk sc us pw hk hs hn hp port opq pn pl hq q hf fg bare sp rst).cut (ah sp rst),0)else if(cu S).1=2∧(cu S).2.1=KO then((RS.mk sc us pw hk hs hn hp port opq pn pl hq q hf fg bare sp rst).cut (ah sp rst),(cu S).2.2.2.2)else({(RS.mk sc us pw hk hs hn hp port opq pn pl hq q hf fg bare sp rst).cut (ah sp rst)with hk:=(cu S).1,hs:=(cu S).2.1,hn:=(cu S).2.2.1,hp:=(cu S).2.2.2.1},(cu S).2.2.2.2):=by rw [e4];rfl
 rw [ef]
 refine ⟨show rst.length≤300000 from hpre,⟨by omega,by unfold ak;exact Int.ofNat_le.2 e3⟩,fun h=>?_,fun h=>⟨show S.length≤1000000 by omega,fun h2=>?_,fun h2=>?_⟩⟩
 ·rw [if_pos (show S=[]from of_decide_eq_true h)];exact ⟨rfl,rfl⟩
 ·rw [if_neg (show ¬S=[]from of_decide_eq_false h),if_neg]
  ·exact ⟨rfl,rfl⟩
  ·rintro ⟨a,b⟩
   rw [decide_eq_true a,show decide ((cu S).2.1=(ByteArray.mk #[108,111,99,97,108,104,111,115,116]).data.toList)=true from decide_eq_true b]at h2
   cases h2
 ·rw [if_neg (show ¬S=[]from of_decide_eq_false h),if_pos]
  ·exact ⟨rfl,rfl⟩
  ·cases ha:decide ((cu S).1=2)with
   |false=>rw [ha]at h2;cases h2
   |true=>
    rw [ha]at h2
    cases hb:decide ((cu S).2.1=(ByteArray.mk #[108,111,99,97,108,104,111,115,116]).data.toList)with
    |false=>rw [hb]at h2;cases h2
    |true=>exact ⟨of_decide_eq_true ha,of_decide_eq_true hb⟩)
theorem xy(bp:Option Addr)(sc us pw:Bs)(hk:Int)(hs:Bs)(hn:Int)(hp:List Int)(port:Int)(opq pn:Bool)(pl:List Bs)(hq:Bool)(q:Bs)(hf:Bool)(fg:Bs)(bare sp:Bool)(rst:Bs):ag Tryz.prog ay 125 [.ptr 0 0,aC 1 (.raw (.pointer bp)) sc us pw hk hs hn hp port opq pn pl hq q hf fg bare sp rst] ⟨rst.length≤300000,.tup [.int .i64 (RS.mk sc us pw hk hs hn hp port opq pn pl hq q hf fg bare sp rst).av.2,aC 1 (.raw (.pointer bp)) sc us pw ((RS.mk sc us pw hk hs hn hp port opq pn pl hq q hf fg bare sp rst).av.1.hk) ((RS.mk sc us pw hk hs hn hp port opq pn pl hq q hf fg bare sp rst).av.1.hs) ((RS.mk sc us pw hk hs hn hp port opq pn pl hq q hf fg bare sp rst).av.1.hn) ((RS.mk sc us pw hk hs hn hp port opq pn pl hq q hf fg bare sp rst).av.1.hp) port opq pn pl hq q hf fg bare sp (aa rst (ah sp rst))]⟩:=ag.aZ (fun h=>by have e:List.isEmpty (PV.aA PV.br [.ptr 0 0,aC 1 (.raw (.pointer bp)) sc us pw hk hs hn hp port opq pn pl hq q hf fg bare sp rst])=false:=(by kernel_rfl);exact Bool.noConfusion (e.symm.trans (congrArg List.isEmpty h))) (rK bp sc us pw hk hs hn hp port opq pn pl hq q hf fg bare sp rst)
def jg:List PV→Option aI:=fun xs=>match xs with
 |[.ptr 0 0,aC 1 (.raw (.pointer bp)) sc us pw hk hs hn hp port opq pn pl hq q hf fg bare sp rst]=>some ⟨rst.length≤300000,.tup [.int .i64 (RS.mk sc us pw hk hs hn hp port opq pn pl hq q hf fg bare sp rst).av.2,aC 1 (.raw (.pointer bp)) sc us pw ((RS.mk sc us pw hk hs hn hp port opq pn pl hq q hf fg bare sp rst).av.1.hk) ((RS.mk sc us pw hk hs hn hp port opq pn pl hq q hf fg bare sp rst).av.1.hs) ((RS.mk sc us pw hk hs hn hp port opq pn pl hq q hf fg bare sp rst).av.1.hn) ((RS.mk sc us pw hk hs hn hp port opq pn pl hq q hf fg bare sp rst).av.1.hp) port opq pn pl hq q hf fg bare sp (aa rst (ah sp rst))]⟩
 |_=>none
theorem oP:∀xs c,jg xs=some c→ag Tryz.prog ay 125 xs c:=fun xs c h=>by
 unfold jg at h
 split at h
 ·injection h with h;subst h;exact xy _ _ _ _ _ _ _ _ _ _ _ _ _ _ _ _ _ _ _
 ·cases h
end
section
def I7:cq:=bN [(153,je)]
def I8(l:Bs):aY:=fun i=>none
theorem F8:cS Tryz.prog ay I7:=ai kC (ax)
theorem Ka(l:Bs)(k:PV→Prop):cC Tryz.prog I7 ay (I8 l) 1000 Tryz.f123 [.str l] k=(
 (decide (ak l=(2:Int))=true→within (0:Int) (ak l))∧
 (decide (ak l=(2:Int))=true→(0:Int)≤al l (0:Int)∧al l (0:Int)≤(255:Int))∧
 ((bif decide (ak l=(2:Int))then
 decide
 ((97:Int)≤al l (0:Int)∧al l (0:Int)≤(122:Int)∨
 (65:Int)≤al l (0:Int)∧al l (0:Int)≤(90:Int))
 else false)=
 true→
 within (1:Int) (ak l))∧
 ((bif decide (ak l=(2:Int))then
 decide
 ((97:Int)≤al l (0:Int)∧al l (0:Int)≤(122:Int)∨
 (65:Int)≤al l (0:Int)∧al l (0:Int)≤(90:Int))
 else false)=
 true→
 decide (al l (1:Int)=(58:Int))=false→within (1:Int) (ak l))∧
 k
 (PV.bool
 (bif
 bif decide (ak l=(2:Int))then
 decide
 ((97:Int)≤al l (0:Int)∧al l (0:Int)≤(122:Int)∨
 (65:Int)≤al l (0:Int)∧al l (0:Int)≤(90:Int))
 else false then
 bif decide (al l (1:Int)=(58:Int))then true else decide (al l (1:Int)=(124:Int))
 else false))):=by kernel_rfl
attribute [local irreducible] Go.Vc.cC
theorem Kb(l:Bs):ag Tryz.prog ay 123 [.str l] ⟨True,.bool (bL l)⟩:=cj (by kernel_rfl) F8 (H:=I8 l) (fuel:=1000) Tryz.func123 (by kernel_rfl) fun hpre=>(Ka l _).mpr (by
 have hr:=gN l 0
 have b0:al l 0=aK l 0:=iF l 0
 have b1:al l 1=aK l 1:=iF l 1
 have w2:∀z:Int,0≤z→z<2→∀b:Bool,(bif decide (ak l=2)then b else false)=true→within z (ak l):=fun z h0 h1 b h=>by
  cases e:decide (ak l=2)with
  |false=>rw [e]at h;cases h
  |true=>have:=of_decide_eq_true e;unfold within;omega
 refine ⟨fun h=>?_,fun _=>by omega,fun h=>w2 1 (by omega) (by omega) _ h,fun h _=>w2 1 (by omega) (by omega) _ h,?_⟩
 ·have:=of_decide_eq_true h;unfold within;omega
 ·congr 1
  unfold bL Cu
  rw [b0,b1,Bool.eq_iff_iff]
  simp only [Fi,Lg,Bool.and_eq_true,Bool.or_eq_true,decide_eq_true_eq]
  unfold ak
  omega)
def mv:List PV→Option aI:=fun xs=>match xs with
 |[.str l]=>some ⟨True,.bool (bL l)⟩
 |_=>none
theorem lp:∀xs c,mv xs=some c→ag Tryz.prog ay 123 xs c:=fun xs c h=>by
 unfold mv at h
 split at h
 ·injection h with h;subst h;exact Kb _
 ·cases h
end
section
def I9:cq:=bN [(123,mv)]
def Ja(l:Bs):aY:=fun i=>none
theorem F9:cS Tryz.prog ay I9:=ai lp (ax)
theorem Kc(l:Bs)(k:PV→Prop):cC Tryz.prog I9 ay (Ja l) 1000 Tryz.f132 [.str l] k=(
 True∧
 (bL l=true→within (1:Int) (ak l))∧
 k (PV.bool (bif bL l then decide (al l (1:Int)=(58:Int))else false))):=by kernel_rfl
attribute [local irreducible] Go.Vc.cC
theorem Kd(l:Bs):ag Tryz.prog ay 132 [.str l] ⟨True,.bool (nj l)⟩:=cj (by kernel_rfl) F9 (H:=Ja l) (fuel:=1000) Tryz.func132 (by kernel_rfl) fun hpre=>(Kc l _).mpr (by
 have b1:al l 1=aK l 1:=iF l 1
 refine ⟨trivial,fun h=>?_,?_⟩
 ·unfold bL at h
  simp only [Bool.and_eq_true,decide_eq_true_eq]at h
  unfold within ak;omega
 ·show PV.bool _=PV.bool (bL l&&decide (aK l 1=58))
  rw [←b1]
  cases bL l<;>rfl)
def va:List PV→Option aI:=fun xs=>match xs with
 |[.str l]=>some ⟨True,.bool (nj l)⟩
 |_=>none
theorem zV:∀xs c,va xs=some c→ag Tryz.prog ay 132 xs c:=fun xs c h=>by
 unfold va at h
 split at h
 ·injection h with h;subst h;exact Kd _
 ·cases h
end
section
def tp:cq:=bN [(132,va)]
def tq(bp:Option Addr)(sc us pw:Bs)(hk:Int)(hs:Bs)(hn:Int)(hp:List Int)(port:Int)(opq pn:Bool)(pl:List Bs)(hq:Bool)(q:Bs)(hf:Bool)(fg:Bs)(bare sp:Bool)(rst:Bs):aY:=fun i=>none
theorem vc:cS Tryz.prog ay tp:=ai zV (ax)
theorem zW(bp:Option Addr)(sc us pw:Bs)(hk:Int)(hs:Bs)(hn:Int)(hp:List Int)(port:Int)(opq pn:Bool)(pl:List Bs)(hq:Bool)(q:Bs)(hf:Bool)(fg:Bs)(bare sp:Bool)(rst:Bs)(k:PV→List PV→Prop):bK Tryz.prog tp ay (tq bp sc us pw hk hs hn hp port opq pn pl hq q hf fg bare sp rst) 1000 Tryz.f87 [.ptr 0 0] [aC 1 (.raw (.pointer bp)) sc us pw hk hs hn hp port opq pn pl hq q hf fg bare sp rst] k=(
 (decide (Int.ofNat pl.length=(0:Int))=false→
 (bif decide (Int.ofNat pl.length=(1:Int))then decide (sc=(ByteArray.mk #[102,105,108,101]).data.toList)else false)=true→
 within (0:Int) (Int.ofNat pl.length))∧
 (decide (Int.ofNat pl.length=(0:Int))=false→
 (bif decide (Int.ofNat pl.length=(1:Int))then decide (sc=(ByteArray.mk #[102,105,108,101]).data.toList)else false)=true→
 True)∧
 ((bif decide (Int.ofNat pl.length=(0:Int))then true else bif bif decide (Int.ofNat pl.length=(1:Int))then decide (sc=(ByteArray.mk #[102,105,108,101]).data.toList)else false then nj (dE pl (0:Int))else false)=true→
 k (PV.tup []) [bT (PV.raw (Go.Value.pointer bp)) 1 sc us pw hk hs hn hp port opq pn pl hq q hf fg bare sp rst])∧
 ((bif decide (Int.ofNat pl.length=(0:Int))then true else bif bif decide (Int.ofNat pl.length=(1:Int))then decide (sc=(ByteArray.mk #[102,105,108,101]).data.toList)else false then nj (dE pl (0:Int))else false)=false→
 aD (Int.ofNat pl.length-(1:Int))∧
 upto (0:Int) (Int.ofNat pl.length-(1:Int)) (Int.ofNat pl.length)∧
 k (PV.tup []) [bT (PV.raw (Go.Value.pointer bp)) 1 sc us pw hk hs hn hp port opq pn (ae pl (Int.ofNat pl.length-(1:Int))) hq q hf fg bare sp rst])):=by kernel_rfl
attribute [local irreducible] Go.Vc.cC Go.Vc.bK
theorem mw(bp:Option Addr)(sc us pw:Bs)(hk:Int)(hs:Bs)(hn:Int)(hp:List Int)(port:Int)(opq pn:Bool)(pl:List Bs)(hq:Bool)(q:Bs)(hf:Bool)(fg:Bs)(bare sp:Bool)(rst:Bs):bj Tryz.prog ay 87 [.ptr 0 0] [aC 1 (.raw (.pointer bp)) sc us pw hk hs hn hp port opq pn pl hq q hf fg bare sp rst] (pl.length≤1000000) (.tup []) [aC 1 (.raw (.pointer bp)) sc us pw hk hs hn hp port opq ((bZ sc (pn,pl)).1) ((bZ sc (pn,pl)).2) hq q hf fg bare sp rst]:=bt (by kernel_rfl) vc (H:=tq bp sc us pw hk hs hn hp port opq pn pl hq q hf fg bare sp rst) (fuel:=1000) Tryz.func87 (by kernel_rfl) (Nat.le_of_ble_eq_true rfl) fun hpre=>(zW bp sc us pw hk hs hn hp port opq pn pl hq q hf fg bare sp rst _).mpr (by
 have ef:(ByteArray.mk #[102,105,108,101]).data.toList=fL:=rfl
 rcases pl with _ |⟨x,_ |⟨y,t⟩⟩
 ·refine ⟨fun h=>(by cases h),fun h=>(by cases h),fun _=>⟨rfl,rfl⟩,fun h=>(by cases h)⟩
 ·refine ⟨fun _ _=>⟨Int.le_refl _,show(0:Int)<1 by decide⟩,fun _ _=>trivial,fun h=>?_,fun h=>?_⟩
  ·have:bZ sc (pn,[x])=(pn,[x]):=by
    unfold bZ
    rw [if_pos]
    refine .inr ⟨rfl,?_,?_⟩
    ·by_cases e:sc=fL
     ·exact e
     ·rw [show decide (sc=(ByteArray.mk #[102,105,108,101]).data.toList)=false from decide_eq_false e]at h;cases h
    ·by_cases e:sc=fL
     ·rw [show decide (sc=(ByteArray.mk #[102,105,108,101]).data.toList)=true from decide_eq_true e]at h;exact h
     ·rw [show decide (sc=(ByteArray.mk #[102,105,108,101]).data.toList)=false from decide_eq_false e]at h;cases h
   rw [this];exact ⟨rfl,rfl⟩
  ·have:bZ sc (pn,[x])=(pn,[]):=by
    unfold bZ
    rw [if_neg]
    ·rfl
    ·rintro (e|⟨-,e,e2⟩)
     ·cases e
     ·rw [show decide (sc=(ByteArray.mk #[102,105,108,101]).data.toList)=true from decide_eq_true e]at h
      have e3:nj (dE [x] 0)=true:=e2
      rw [e3]at h;cases h
   rw [this]
   exact ⟨show aD (1-1) by unfold aD;omega,show upto 0 (1-1) 1 by unfold upto;omega,rfl,rfl⟩
 ·have hn:¬Int.ofNat (x::y::t).length=(0:Int):=by simp [Int.ofNat];omega
  have hn1:¬Int.ofNat (x::y::t).length=(1:Int):=by simp [Int.ofNat];omega
  rw [decide_eq_false hn,decide_eq_false hn1]
  refine ⟨fun _ h=>(by cases h),fun _ h=>(by cases h),fun h=>(by cases h),fun _=>?_⟩
  have:bZ sc (pn,x::y::t)=(pn,ae (x::y::t) (Int.ofNat (x::y::t).length-1)):=by
   unfold bZ
   rw [if_neg]
   ·unfold ae
    show(pn,(x::y::t).take ((x::y::t).length-1))=_
    congr 2
    simp
   ·rintro (e|⟨e,-⟩)
    ·cases e
    ·simp at e
  rw [this]
  have hl:t.length+1+1≤1000000:=hpre
  have e9:Int.ofNat (x::y::t).length=(t.length:Int)+2:=by show((t.length+1+1:Nat):Int)=_;omega
  exact ⟨by rw [e9];unfold aD;omega,by rw [e9];unfold upto;omega,rfl,rfl⟩)
theorem zX(bp:Option Addr)(sc us pw:Bs)(hk:Int)(hs:Bs)(hn:Int)(hp:List Int)(port:Int)(opq pn:Bool)(pl:List Bs)(hq:Bool)(q:Bs)(hf:Bool)(fg:Bs)(bare sp:Bool)(rst:Bs):ag Tryz.prog ay 87 [.ptr 0 0,aC 1 (.raw (.pointer bp)) sc us pw hk hs hn hp port opq pn pl hq q hf fg bare sp rst] ⟨pl.length≤1000000,.tup [.tup [],aC 1 (.raw (.pointer bp)) sc us pw hk hs hn hp port opq ((bZ sc (pn,pl)).1) ((bZ sc (pn,pl)).2) hq q hf fg bare sp rst]⟩:=ag.aZ (fun h=>by have e:List.isEmpty (PV.aA PV.br [.ptr 0 0,aC 1 (.raw (.pointer bp)) sc us pw hk hs hn hp port opq pn pl hq q hf fg bare sp rst])=false:=(by kernel_rfl);exact Bool.noConfusion (e.symm.trans (congrArg List.isEmpty h))) (mw bp sc us pw hk hs hn hp port opq pn pl hq q hf fg bare sp rst)
def jV:List PV→Option aI:=fun xs=>match xs with
 |[.ptr 0 0,aC 1 (.raw (.pointer bp)) sc us pw hk hs hn hp port opq pn pl hq q hf fg bare sp rst]=>some ⟨pl.length≤1000000,.tup [.tup [],aC 1 (.raw (.pointer bp)) sc us pw hk hs hn hp port opq ((bZ sc (pn,pl)).1) ((bZ sc (pn,pl)).2) hq q hf fg bare sp rst]⟩
 |_=>none
theorem qO:∀xs c,jV xs=some c→ag Tryz.prog ay 87 xs c:=fun xs c h=>by
 unfold jV at h
 split at h
 ·injection h with h;subst h;exact zX _ _ _ _ _ _ _ _ _ _ _ _ _ _ _ _ _ _ _
 ·cases h
end
section
theorem qP(sc:Bs)(p:Pa):(bZ sc p).2.length≤p.2.length:=by
 unfold bZ
 split
 ·exact Nat.le_refl _
 ·show(p.2.take _).length≤_
  rw [List.length_take];omega
def Ga:cq:=bN [(163,qo),(164,uJ),(123,mv),(87,jV),(26,eY)]
def Gb(bp:Option Addr)(sc us pw:Bs)(hk:Int)(hs:Bs)(hn:Int)(hp:List Int)(port:Int)(opq pn:Bool)(pl:List Bs)(hq:Bool)(q:Bs)(hf:Bool)(fg:Bs)(bare sp:Bool)(rst:Bs)(t:Bs)(last:Bool):aY:=fun i=>none
theorem Dm:cS Tryz.prog ay Ga:=ai xa (ai zA (ai lp (ai qO (ai dP (ax)))))
theorem Iy(bp:Option Addr)(sc us pw:Bs)(hk:Int)(hs:Bs)(hn:Int)(hp:List Int)(port:Int)(opq pn:Bool)(pl:List Bs)(hq:Bool)(q:Bs)(hf:Bool)(fg:Bs)(bare sp:Bool)(rst:Bs)(t:Bs)(last:Bool)(k:PV→List PV→Prop):bK Tryz.prog Ga ay (Gb bp sc us pw hk hs hn hp port opq pn pl hq q hf fg bare sp rst t last) 1000 Tryz.f139 [.ptr 0 0,.str t,.bool last] [aC 1 (.raw (.pointer bp)) sc us pw hk hs hn hp port opq pn pl hq q hf fg bare sp rst] k=(
 (List.length t).le (1000000:Nat)∧
 (ma t=true→
 pl.length.le (1000000:Nat)∧
 (last=true→
 Int.ofNat ((bZ sc (pn,pl)).2++[(ByteArray.mk #[]).data.toList]).length≤dd∧
 k (PV.tup []) [bT (PV.raw (Go.Value.pointer bp)) 1 sc us pw hk hs hn hp port opq false ((bZ sc (pn,pl)).2++[(ByteArray.mk #[]).data.toList]) hq q hf fg bare sp rst])∧
 (last=false→
 k (PV.tup []) [bT (PV.raw (Go.Value.pointer bp)) 1 sc us pw hk hs hn hp port opq ((bZ sc (pn,pl)).1) ((bZ sc (pn,pl)).2) hq q hf fg bare sp rst]))∧
 (ma t=false→
 (List.length t).le (1000000:Nat)∧
 (l9 t=true→
 (last=true→
 Int.ofNat (pl++[(ByteArray.mk #[]).data.toList]).length≤dd∧
 k (PV.tup []) [bT (PV.raw (Go.Value.pointer bp)) 1 sc us pw hk hs hn hp port opq false (pl++[(ByteArray.mk #[]).data.toList]) hq q hf fg bare sp rst])∧
 (last=false→
 k (PV.tup []) [bT (PV.raw (Go.Value.pointer bp)) 1 sc us pw hk hs hn hp port opq pn pl hq q hf fg bare sp rst]))∧
 (l9 t=false→
 ((bif decide (sc=(ByteArray.mk #[102,105,108,101]).data.toList)then decide (Int.ofNat pl.length=(0:Int))else false)=true→
 True)∧
 ((bif bif decide (sc=(ByteArray.mk #[102,105,108,101]).data.toList)then decide (Int.ofNat pl.length=(0:Int))else false then bL t else false)=true→
 upto (0:Int) (1:Int) (ak t)∧
 (ae t (1:Int)).length+(ByteArray.mk #[58]).data.toList.length≤Go.Vc.maxLen∧
 (Int.ofNat (pl++[ae t (1:Int)++(ByteArray.mk #[58]).data.toList]).length≤dd∧
 k (PV.tup []) [bT (PV.raw (Go.Value.pointer bp)) 1 sc us pw hk hs hn hp port opq false (pl++[ae t (1:Int)++(ByteArray.mk #[58]).data.toList]) hq q hf fg bare sp rst])∧
 Int.ofNat (pl++[ae t (1:Int)++(ByteArray.mk #[58]).data.toList]).length≤dd∧
 k (PV.tup []) [bT (PV.raw (Go.Value.pointer bp)) 1 sc us pw hk hs hn hp port opq false (pl++[ae t (1:Int)++(ByteArray.mk #[58]).data.toList]) hq q hf fg bare sp rst])∧
 ((bif bif decide (sc=(ByteArray.mk #[102,105,108,101]).data.toList)then decide (Int.ofNat pl.length=(0:Int))else false then bL t else false)=false→
 ((List.length t≤(300000:Nat)∧
 (0:Int)≤(4:Int)∧
 (4:Int)≤(6:Int))∧
 Int.ofNat (pl++[aU (4:Int) t]).length≤dd∧
 k (PV.tup []) [bT (PV.raw (Go.Value.pointer bp)) 1 sc us pw hk hs hn hp port opq false (pl++[aU (4:Int) t]) hq q hf fg bare sp rst])∧
 (List.length t≤(300000:Nat)∧
 (0:Int)≤(4:Int)∧
 (4:Int)≤(6:Int))∧
 (Int.ofNat (pl++[aU (4:Int) t]).length≤dd∧
 k (PV.tup []) [bT (PV.raw (Go.Value.pointer bp)) 1 sc us pw hk hs hn hp port opq false (pl++[aU (4:Int) t]) hq q hf fg bare sp rst])∧
 Int.ofNat (pl++[aU (4:Int) t]).length≤dd∧
 k (PV.tup []) [bT (PV.raw (Go.Value.pointer bp)) 1 sc us pw hk hs hn hp port opq false (pl++[aU (4:Int) t]) hq q hf fg bare sp rst])))):=by kernel_rfl
attribute [local irreducible] Go.Vc.cC Go.Vc.bK
theorem Dn(bp:Option Addr)(sc us pw:Bs)(hk:Int)(hs:Bs)(hn:Int)(hp:List Int)(port:Int)(opq pn:Bool)(pl:List Bs)(hq:Bool)(q:Bs)(hf:Bool)(fg:Bs)(bare sp:Bool)(rst:Bs)(t:Bs)(last:Bool):bj Tryz.prog ay 139 [.ptr 0 0,.str t,.bool last] [aC 1 (.raw (.pointer bp)) sc us pw hk hs hn hp port opq pn pl hq q hf fg bare sp rst] (pl.length≤1000000∧t.length≤300000) (.tup []) [aC 1 (.raw (.pointer bp)) sc us pw hk hs hn hp port opq ((cH sc (pn,pl) t last).1) ((cH sc (pn,pl) t last).2) hq q hf fg bare sp rst]:=bt (by kernel_rfl) Dm (H:=Gb bp sc us pw hk hs hn hp port opq pn pl hq q hf fg bare sp rst t last) (fuel:=1000) Tryz.func139 (by kernel_rfl) (Nat.le_of_ble_eq_true rfl) fun hpre=>(Iy bp sc us pw hk hs hn hp port opq pn pl hq q hf fg bare sp rst t last _).mpr (by
 obtain ⟨hp1,hp2⟩:=hpre
 have hm:∀(p:List Bs) (x:Bs),p.length≤1000000→Int.ofNat (p++[x]).length≤dd:=fun p x h=>by
  rw [List.length_append]
  show((p.length+1:Nat):Int)≤16777216
  omega
 have hsl:=qP sc (pn,pl)
 have ht:(List.length t).le 1000000:=show t.length≤1000000 by omega
 have hcond:(bif bif decide (sc=(ByteArray.mk #[102,105,108,101]).data.toList)then decide (Int.ofNat pl.length=(0:Int))else false then bL t else false)=decide (sc=fL∧pl=[]∧bL t=true):=by
  rw [Bool.eq_iff_iff]
  simp only [Fi,Bool.and_eq_true,decide_eq_true_eq]
  constructor
  ·rintro ⟨⟨a,b⟩,c⟩
   exact ⟨a,List.eq_nil_of_length_eq_zero (Int.ofNat.inj b),c⟩
  ·rintro ⟨a,b,c⟩
   exact ⟨⟨a,by rw [b];rfl⟩,c⟩
 rw [hcond]
 refine ⟨ht,fun h=>⟨hp1,fun hl=>⟨hm _ _ (Nat.le_trans hsl hp1),?_⟩,fun hl=>?_⟩,fun h=>⟨ht,fun h2=>⟨fun hl=>⟨hm _ _ hp1,?_⟩,fun hl=>?_⟩,fun h2=>⟨fun _=>trivial,fun h3=>?_,fun h3=>?_⟩⟩⟩
 ·have e:cH sc (pn,pl) t last=(false,(bZ sc (pn,pl)).2++[[]]):=by unfold cH;rw [if_pos h,hl];rfl
  rw [e];exact ⟨rfl,rfl⟩
 ·have e:cH sc (pn,pl) t last=bZ sc (pn,pl):=by unfold cH;rw [if_pos h,hl];rfl
  rw [e];exact ⟨rfl,rfl⟩
 ·have e:cH sc (pn,pl) t last=(false,pl++[[]]):=by unfold cH;rw [if_neg (by rw [h];decide),if_pos h2,hl];rfl
  rw [e];exact ⟨rfl,rfl⟩
 ·have e:cH sc (pn,pl) t last=(pn,pl):=by unfold cH;rw [if_neg (by rw [h];decide),if_pos h2,hl];rfl
  rw [e];exact ⟨rfl,rfl⟩
 ·have hc:=of_decide_eq_true h3
  have e:cH sc (pn,pl) t last=(false,pl++[ae t 1++[58]]):=by unfold cH;rw [if_neg (by rw [h];decide),if_neg (by rw [h2];decide),if_pos hc]
  have h2l:t.length=2:=by
   have:=hc.2.2
   unfold bL at this
   simp only [Bool.and_eq_true,decide_eq_true_eq]at this
   exact this.1.1
  rw [e]
  have hk:(ae t 1).length≤1:=by unfold ae;rw [List.length_take];exact Nat.min_le_left _ _
  exact ⟨⟨Int.le_refl _,by omega,by unfold ak;omega⟩,Nat.le_trans (Nat.add_le_add_right hk _) (by decide),⟨hm _ _ hp1,rfl,rfl⟩,hm _ _ hp1,rfl,rfl⟩
 ·have hc:=of_decide_eq_false h3
  have e:cH sc (pn,pl) t last=(false,pl++[aU 4 t]):=by unfold cH;rw [if_neg (by rw [h];decide),if_neg (by rw [h2];decide),if_neg hc]
  rw [e]
  exact ⟨⟨⟨hp2,by omega,by omega⟩,hm _ _ hp1,rfl,rfl⟩,⟨hp2,by omega,by omega⟩,⟨hm _ _ hp1,rfl,rfl⟩,hm _ _ hp1,rfl,rfl⟩)
theorem Iz(bp:Option Addr)(sc us pw:Bs)(hk:Int)(hs:Bs)(hn:Int)(hp:List Int)(port:Int)(opq pn:Bool)(pl:List Bs)(hq:Bool)(q:Bs)(hf:Bool)(fg:Bs)(bare sp:Bool)(rst:Bs)(t:Bs)(last:Bool):ag Tryz.prog ay 139 [.ptr 0 0,.str t,.bool last,aC 1 (.raw (.pointer bp)) sc us pw hk hs hn hp port opq pn pl hq q hf fg bare sp rst] ⟨pl.length≤1000000∧t.length≤300000,.tup [.tup [],aC 1 (.raw (.pointer bp)) sc us pw hk hs hn hp port opq ((cH sc (pn,pl) t last).1) ((cH sc (pn,pl) t last).2) hq q hf fg bare sp rst]⟩:=ag.aZ (fun h=>by have e:List.isEmpty (PV.aA PV.br [.ptr 0 0,.str t,.bool last,aC 1 (.raw (.pointer bp)) sc us pw hk hs hn hp port opq pn pl hq q hf fg bare sp rst])=false:=(by kernel_rfl);exact Bool.noConfusion (e.symm.trans (congrArg List.isEmpty h))) (Dn bp sc us pw hk hs hn hp port opq pn pl hq q hf fg bare sp rst t last)
def qQ:List PV→Option aI:=fun xs=>match xs with
 |[.ptr 0 0,.str t,.bool last,aC 1 (.raw (.pointer bp)) sc us pw hk hs hn hp port opq pn pl hq q hf fg bare sp rst]=>some ⟨pl.length≤1000000∧t.length≤300000,.tup [.tup [],aC 1 (.raw (.pointer bp)) sc us pw hk hs hn hp port opq ((cH sc (pn,pl) t last).1) ((cH sc (pn,pl) t last).2) hq q hf fg bare sp rst]⟩
 |_=>none
theorem xz:∀xs c,qQ xs=some c→ag Tryz.prog ay 139 xs c:=fun xs c h=>by
 unfold qQ at h
 split at h
 ·injection h with h;subst h;exact Iz _ _ _ _ _ _ _ _ _ _ _ _ _ _ _ _ _ _ _ _ _
 ·cases h
end
section
theorem Dp(sc:Bs)(p:Pa)(t:Bs)(last:Bool):(cH sc p t last).2.length≤p.2.length+1:=by
 have h1:=qP sc p
 unfold cH zE
 (repeat' split)<;>simp<;>omega
def Gc:cq:=bN [(128,gE),(129,gC),(138,gR),(139,qQ)]
def Gd(bp:Option Addr)(sc us pw:Bs)(hk:Int)(hs:Bs)(hn:Int)(hp:List Int)(port:Int)(opq pn:Bool)(pl:List Bs)(hq:Bool)(q:Bs)(hf:Bool)(fg:Bs)(bare sp:Bool)(rst:Bs):aY:=fun i=>bif Nat.beq i 2 then some ⟨(Bs)×(Bool×List Bs),(fun s x=>(VS.mk s.loc (((s.put 2 (.str x.1)).put 4 .undef).put 29 .undef).env [(0,aC 1 (.raw (.pointer bp)) sc us pw hk hs hn hp port opq (x.2.1) (x.2.2) hq q hf fg bare sp (aa rst (aE rst)))])),(fun s=>(s.str 2,((s.bx 0 [0,6]).lB,(s.bx 0 [0,6]).kI))),(fun s x=>let t:=x.1;let p:=x.2;t.length≤300000∧p.2.length+t.length≤pl.length+rst.length∧ov sc (eO sp) t p=bo sp sc (ae rst (aE rst)) (pn,pl)),(fun s x=>let t:=x.1;let p:=x.2;t.length),[4,29]⟩else none
theorem Dq:cS Tryz.prog ay Gc:=ai fQ (ai fO (ai jU (ai xz (ax))))
theorem IA(bp:Option Addr)(sc us pw:Bs)(hk:Int)(hs:Bs)(hn:Int)(hp:List Int)(port:Int)(opq pn:Bool)(pl:List Bs)(hq:Bool)(q:Bs)(hf:Bool)(fg:Bs)(bare sp:Bool)(rst:Bs)(k:PV→List PV→Prop):bK Tryz.prog Gc ay (Gd bp sc us pw hk hs hn hp port opq pn pl hq q hf fg bare sp rst) 1000 Tryz.f90 [.ptr 0 0] [aC 1 (.raw (.pointer bp)) sc us pw hk hs hn hp port opq pn pl hq q hf fg bare sp rst] k=(
 (List.length rst≤(1000000:Nat)∧
 (ByteArray.mk #[63,35]).data.toList.length≤(1000000:Nat)∧
 ∀(b:UInt8),b∈(ByteArray.mk #[63,35]).data.toList→
 b.toNat<(128:Nat))∧
 ((0:Int)≤↑(bd rst (ByteArray.mk #[63,35]).data.toList)∧
 ↑(bd rst (ByteArray.mk #[63,35]).data.toList)≤ak rst)∧
 True∧
 VS.mk [] [(0,PV.ptr (0:Nat) (0:Nat)),(2,PV.str (ae rst ↑(bd rst (ByteArray.mk #[63,35]).data.toList))),(3,PV.str (eO sp)),((4:Nat),PV.undef),((29:Nat),PV.undef)] [((0:Nat),bT (PV.raw (Go.Value.pointer bp)) 1 sc us pw hk hs hn hp port opq pn pl hq q hf fg bare sp (aa rst ↑(bd rst (ByteArray.mk #[63,35]).data.toList)))]=VS.mk [] [(0,PV.ptr (0:Nat) (0:Nat)),((2:Nat),PV.str (ae rst ↑(bd rst (ByteArray.mk #[63,35]).data.toList))),(3,PV.str (eO sp)),((4:Nat),PV.undef),((29:Nat),PV.undef)] [((0:Nat),bT (PV.raw (Go.Value.pointer bp)) 1 sc us pw hk hs hn hp port opq pn pl hq q hf fg bare sp (aa rst ↑(aE rst)))]∧
 ((ae rst ↑(bd rst (ByteArray.mk #[63,35]).data.toList)).length≤(300000:Nat)∧
 pl.length+(ae rst ↑(bd rst (ByteArray.mk #[63,35]).data.toList)).length≤pl.length+List.length rst∧
 ov sc (eO sp) (ae rst ↑(bd rst (ByteArray.mk #[63,35]).data.toList)) (pn,pl)=bo sp sc (ae rst ↑(aE rst)) (pn,pl))∧
 ∀(x:Bs×Bool×List Bs),List.length x.1≤(300000:Nat)∧
 x.2.2.length+List.length x.1≤pl.length+List.length rst∧
 ov sc (eO sp) x.1 x.2=bo sp sc (ae rst ↑(aE rst)) (pn,pl)→
 (List.length x.1≤(1000000:Nat)∧
 List.length (eO sp)≤(1000000:Nat)∧
 ∀(b:UInt8),b∈eO sp→
 b.toNat<(128:Nat))∧
 upto (0:Int) (↑(bd x.1 (eO sp))) (ak x.1)∧
 (x.2.2.length≤(1000000:Nat)∧
 (ae x.1 ↑(bd x.1 (eO sp))).length≤(300000:Nat))∧
 (decide (↑(bd x.1 (eO sp))=ak x.1)=true→
 k (PV.tup []) [bT (PV.raw (Go.Value.pointer bp)) 1 sc us pw hk hs hn hp port opq ((cH sc (x.2.1,x.2.2) (ae x.1 ↑(bd x.1 (eO sp))) (decide (↑(bd x.1 (eO sp))=ak x.1))).1) ((cH sc (x.2.1,x.2.2) (ae x.1 ↑(bd x.1 (eO sp))) (decide (↑(bd x.1 (eO sp))=ak x.1))).2) hq q hf fg bare sp (aa rst ↑(aE rst))])∧
 (decide (↑(bd x.1 (eO sp))=ak x.1)=false→
 aD (↑(bd x.1 (eO sp))+(1:Int))∧
 upto (↑(bd x.1 (eO sp))+(1:Int)) (ak x.1) (ak x.1)∧
 r6 (VS.mk [] [(0,PV.ptr (0:Nat) (0:Nat)),((2:Nat),PV.str (aa x.1 (↑(bd x.1 (eO sp))+(1:Int)))),(3,PV.str (eO sp)),((4:Nat),PV.undef),((29:Nat),PV.undef)] [((0:Nat),bT (PV.raw (Go.Value.pointer bp)) 1 sc us pw hk hs hn hp port opq ((cH sc (x.2.1,x.2.2) (ae x.1 ↑(bd x.1 (eO sp))) (decide (↑(bd x.1 (eO sp))=ak x.1))).1) ((cH sc (x.2.1,x.2.2) (ae x.1 ↑(bd x.1 (eO sp))) (decide (↑(bd x.1 (eO sp))=ak x.1))).2) hq q hf fg bare sp (aa rst ↑(aE rst)))])∧
 ((aa x.1 (↑(bd x.1 (eO sp))+(1:Int))).length≤(300000:Nat)∧
 (cH sc (x.2.1,x.2.2) (ae x.1 ↑(bd x.1 (eO sp))) (decide (↑(bd x.1 (eO sp))=ak x.1))).2.length+(aa x.1 (↑(bd x.1 (eO sp))+(1:Int))).length≤pl.length+List.length rst∧
 ov sc (eO sp) (aa x.1 (↑(bd x.1 (eO sp))+(1:Int))) ((cH sc (x.2.1,x.2.2) (ae x.1 ↑(bd x.1 (eO sp))) (decide (↑(bd x.1 (eO sp))=ak x.1))).1,(cH sc (x.2.1,x.2.2) (ae x.1 ↑(bd x.1 (eO sp))) (decide (↑(bd x.1 (eO sp))=ak x.1))).2)=bo sp sc (ae rst ↑(aE rst)) (pn,pl))∧
 (aa x.1 (↑(bd x.1 (eO sp))+(1:Int))).length<List.length x.1)):=by kernel_rfl
attribute [local irreducible] Go.Vc.cC Go.Vc.bK
theorem tt(bp:Option Addr)(sc us pw:Bs)(hk:Int)(hs:Bs)(hn:Int)(hp:List Int)(port:Int)(opq pn:Bool)(pl:List Bs)(hq:Bool)(q:Bs)(hf:Bool)(fg:Bs)(bare sp:Bool)(rst:Bs):bj Tryz.prog ay 90 [.ptr 0 0] [aC 1 (.raw (.pointer bp)) sc us pw hk hs hn hp port opq pn pl hq q hf fg bare sp rst] (rst.length≤300000∧pl.length≤100000) (.tup []) [aC 1 (.raw (.pointer bp)) sc us pw hk hs hn hp port opq ((bo sp sc (ae rst (aE rst)) (pn,pl)).1) ((bo sp sc (ae rst (aE rst)) (pn,pl)).2) hq q hf fg bare sp (aa rst (aE rst))]:=bt (by kernel_rfl) Dq (H:=Gd bp sc us pw hk hs hn hp port opq pn pl hq q hf fg bare sp rst) (fuel:=1000) Tryz.func90 (by kernel_rfl) (Nat.le_of_ble_eq_true rfl) fun hpre=>(IA bp sc us pw hk hs hn hp port opq pn pl hq q hf fg bare sp rst _).mpr (by
 obtain ⟨hp1,hp2⟩:=hpre
 have h63:∀b:UInt8,b∈(ByteArray.mk #[63,35]).data.toList→b.toNat<128:=by rw [show(ByteArray.mk #[63,35]).data.toList=([63,35]:Bs)from rfl];decide
 have hs3:∀b:UInt8,b∈eO sp→b.toNat<128:=by unfold eO;split<;>decide
 have hs2:(eO sp).length≤1000000:=by unfold eO;split<;>decide
 have e3:=fv rst (ByteArray.mk #[63,35]).data.toList
 have e4:(ae rst (bd rst (ByteArray.mk #[63,35]).data.toList:Int)).length≤rst.length:=by unfold ae;rw [List.length_take];exact Nat.min_le_right _ _
 refine ⟨⟨by omega,by decide,h63⟩,⟨by omega,by unfold ak;exact Int.ofNat_le.2 e3⟩,trivial,rfl,⟨by omega,by omega,rfl⟩,fun x ⟨h1,h2,h3⟩=>?_⟩
 have e5:=fv x.1 (eO sp)
 rw [zF]at h3
 generalize bd x.1 (eO sp)=n at *
 have e6:ae x.1 (n:Int)=x.1.take n:=by unfold ae;rw [Int.toNat_natCast]
 have e7:aa x.1 ((n:Int)+1)=x.1.drop (n+1):=by unfold aa;congr 1
 have e8:(x.1.take n).length≤300000:=by rw [List.length_take];omega
 rw [e6,e7]
 refine ⟨⟨by omega,hs2,hs3⟩,⟨Int.le_refl _,by omega,by unfold ak;omega⟩,⟨by omega,e8⟩,fun h=>?_,fun h=>?_⟩
 ·have hl:n=x.1.length:=by have:=of_decide_eq_true h;unfold ak at this;omega
  rw [if_pos hl]at h3
  have e9:x.1.take n=x.1:=by rw [hl,List.take_length]
  rw [h,e9,←h3]
  exact ⟨rfl,rfl⟩
 ·have hl:¬n=x.1.length:=by have:=of_decide_eq_false h;unfold ak at this;omega
  rw [if_neg hl]at h3
  have e10:(x.1.drop (n+1)).length=x.1.length-(n+1):=List.length_drop
  have e11:=Dp sc x.2 (x.1.take n) false
  rw [h]
  refine ⟨by unfold aD;omega,⟨by omega,by unfold ak;omega,Int.le_refl _⟩,rfl,⟨by omega,?_,h3⟩,by omega⟩
  show(cH sc x.2 (x.1.take n) false).2.length+_ ≤_
  omega)
theorem IB(bp:Option Addr)(sc us pw:Bs)(hk:Int)(hs:Bs)(hn:Int)(hp:List Int)(port:Int)(opq pn:Bool)(pl:List Bs)(hq:Bool)(q:Bs)(hf:Bool)(fg:Bs)(bare sp:Bool)(rst:Bs):ag Tryz.prog ay 90 [.ptr 0 0,aC 1 (.raw (.pointer bp)) sc us pw hk hs hn hp port opq pn pl hq q hf fg bare sp rst] ⟨rst.length≤300000∧pl.length≤100000,.tup [.tup [],aC 1 (.raw (.pointer bp)) sc us pw hk hs hn hp port opq ((bo sp sc (ae rst (aE rst)) (pn,pl)).1) ((bo sp sc (ae rst (aE rst)) (pn,pl)).2) hq q hf fg bare sp (aa rst (aE rst))]⟩:=ag.aZ (fun h=>by have e:List.isEmpty (PV.aA PV.br [.ptr 0 0,aC 1 (.raw (.pointer bp)) sc us pw hk hs hn hp port opq pn pl hq q hf fg bare sp rst])=false:=(by kernel_rfl);exact Bool.noConfusion (e.symm.trans (congrArg List.isEmpty h))) (tt bp sc us pw hk hs hn hp port opq pn pl hq q hf fg bare sp rst)
def my:List PV→Option aI:=fun xs=>match xs with
 |[.ptr 0 0,aC 1 (.raw (.pointer bp)) sc us pw hk hs hn hp port opq pn pl hq q hf fg bare sp rst]=>some ⟨rst.length≤300000∧pl.length≤100000,.tup [.tup [],aC 1 (.raw (.pointer bp)) sc us pw hk hs hn hp port opq ((bo sp sc (ae rst (aE rst)) (pn,pl)).1) ((bo sp sc (ae rst (aE rst)) (pn,pl)).2) hq q hf fg bare sp (aa rst (aE rst))]⟩
 |_=>none
theorem oD:∀xs c,my xs=some c→ag Tryz.prog ay 90 xs c:=fun xs c h=>by
 unfold my at h
 split at h
 ·injection h with h;subst h;exact IB _ _ _ _ _ _ _ _ _ _ _ _ _ _ _ _ _ _ _
 ·cases h
end
section
def Jb:cq:=bN [(158,mj)]
def Jc(l m:Bs):aY:=fun i=>none
theorem Ge:cS Tryz.prog ay Jb:=ai oq (ax)
theorem Ke(l m:Bs)(k:PV→Prop):cC Tryz.prog Jb ay (Jc l m) 1000 Tryz.f130 [.str l,.str m] k=(
 (List.length l≤(1000000:Nat)∧List.length m≤(1000000:Nat))∧k (PV.bool (hH l m))):=by kernel_rfl
attribute [local irreducible] Go.Vc.cC
theorem Kf(l m:Bs):ag Tryz.prog ay 130 [.str l,.str m] ⟨l.length≤1000000∧m.length≤1000000,.bool (hH l m)⟩:=cj (by kernel_rfl) Ge (H:=Jc l m) (fuel:=1000) Tryz.func130 (by kernel_rfl) fun hpre=>(Ke l m _).mpr (by
 exact ⟨hpre,rfl⟩)
def vd:List PV→Option aI:=fun xs=>match xs with
 |[.str l,.str m]=>some ⟨l.length≤1000000∧m.length≤1000000,.bool (hH l m)⟩
 |_=>none
theorem zY:∀xs c,vd xs=some c→ag Tryz.prog ay 130 xs c:=fun xs c h=>by
 unfold vd at h
 split at h
 ·injection h with h;subst h;exact Kf _ _
 ·cases h
end
section
theorem tu(k:Int)(l:Bs):(aU k l).length≤12*l.length:=by
 have hpl:(bP l).length≤4*l.length:=by
  have a:=(lX (dS l)).2
  have b:=lW _ l (Nat.le_refl _)
  unfold bP;omega
 unfold aU
 split
 ·have:=wi (sI k) (bP l);omega
 ·omega
theorem KU(l:Bs):hH l [32]=decide (0<l.length∧al l (l.length-1)=32):=by
 unfold hH ak aa
 rcases List.eq_nil_or_concat l with rfl|⟨L,b,rfl⟩
 ·rfl
 ·have h1:(((L.concat b).length:Int)-(([32]:Bs).length:Int)).toNat=L.length:=by simp
  have h2:al (L.concat b) ((L.concat b).length-1)=b.toNat:=by
   unfold al
   have:(((L.concat b).length:Int)-1).toNat=L.length:=by simp
   rw [this];simp
  rw [h1,h2]
  have h3:decide ((([32]:Bs).length:Int)≤((L.concat b).length:Int))=true:=decide_eq_true (by simp;omega)
  have h4:(0:Nat)<(L.concat b).length:=by simp
  rw [h3,cond_true,decide_eq_decide]
  have h5:(L.concat b).drop L.length=[b]:=by simp
  rw [h5]
  simp only [h4,true_and,List.cons.injEq,and_true]
  constructor
  ·rintro rfl;rfl
  ·intro h;exact UInt8.toNat_inj.1 (by have:(32:UInt8).toNat=32:=rfl;omega)
def xA:cq:=bN [(128,gE),(129,gC),(130,vd),(26,eY)]
def xB(bp:Option Addr)(sc us pw:Bs)(hk:Int)(hs:Bs)(hn:Int)(hp:List Int)(port:Int)(opq pn:Bool)(pl:List Bs)(hq:Bool)(q:Bs)(hf:Bool)(fg:Bs)(bare sp:Bool)(rst:Bs):aY:=fun i=>none
theorem xC:cS Tryz.prog ay xA:=ai fQ (ai fO (ai zY (ai dP (ax))))
theorem Dr(bp:Option Addr)(sc us pw:Bs)(hk:Int)(hs:Bs)(hn:Int)(hp:List Int)(port:Int)(opq pn:Bool)(pl:List Bs)(hq:Bool)(q:Bs)(hf:Bool)(fg:Bs)(bare sp:Bool)(rst:Bs)(k:PV→List PV→Prop):bK Tryz.prog xA ay (xB bp sc us pw hk hs hn hp port opq pn pl hq q hf fg bare sp rst) 1000 Tryz.f81 [.ptr 0 0] [aC 1 (.raw (.pointer bp)) sc us pw hk hs hn hp port opq pn pl hq q hf fg bare sp rst] k=(
 (List.length rst≤(1000000:Nat)∧
 (ByteArray.mk #[63,35]).data.toList.length≤(1000000:Nat)∧
 ∀(b:UInt8),b∈(ByteArray.mk #[63,35]).data.toList→
 b.toNat<(128:Nat))∧
 ((0:Int)≤↑(bd rst (ByteArray.mk #[63,35]).data.toList)∧
 ↑(bd rst (ByteArray.mk #[63,35]).data.toList)≤ak rst)∧
 ((!decide (aa rst ↑(bd rst (ByteArray.mk #[63,35]).data.toList)=(ByteArray.mk #[]).data.toList))=true→
 (ae rst ↑(bd rst (ByteArray.mk #[63,35]).data.toList)).length≤(1000000:Nat)∧
 (ByteArray.mk #[32]).data.toList.length≤(1000000:Nat))∧
 ((bif !decide (aa rst ↑(bd rst (ByteArray.mk #[63,35]).data.toList)=(ByteArray.mk #[]).data.toList)then hH (ae rst ↑(bd rst (ByteArray.mk #[63,35]).data.toList)) (ByteArray.mk #[32]).data.toList else false)=true→
 aD (ak (ae rst ↑(bd rst (ByteArray.mk #[63,35]).data.toList))-(1:Int))∧
 upto (0:Int) (ak (ae rst ↑(bd rst (ByteArray.mk #[63,35]).data.toList))-(1:Int)) (ak (ae rst ↑(bd rst (ByteArray.mk #[63,35]).data.toList)))∧
 ((ae (ae rst ↑(bd rst (ByteArray.mk #[63,35]).data.toList)) (ak (ae rst ↑(bd rst (ByteArray.mk #[63,35]).data.toList))-(1:Int))).length≤(300000:Nat)∧
 (0:Int)≤(0:Int)∧
 (0:Int)≤(6:Int))∧
 (aU (0:Int) (ae (ae rst ↑(bd rst (ByteArray.mk #[63,35]).data.toList)) (ak (ae rst ↑(bd rst (ByteArray.mk #[63,35]).data.toList))-(1:Int)))).length+(ByteArray.mk #[37,50,48]).data.toList.length≤Go.Vc.maxLen∧
 k (PV.tup []) [bT (PV.raw (Go.Value.pointer bp)) 0 sc us pw hk hs hn hp port true false ([aU (0:Int) (ae (ae rst ↑(bd rst (ByteArray.mk #[63,35]).data.toList)) (ak (ae rst ↑(bd rst (ByteArray.mk #[63,35]).data.toList))-(1:Int)))++(ByteArray.mk #[37,50,48]).data.toList]) hq q hf fg bare sp (aa rst ↑(bd rst (ByteArray.mk #[63,35]).data.toList))])∧
 ((bif !decide (aa rst ↑(bd rst (ByteArray.mk #[63,35]).data.toList)=(ByteArray.mk #[]).data.toList)then hH (ae rst ↑(bd rst (ByteArray.mk #[63,35]).data.toList)) (ByteArray.mk #[32]).data.toList else false)=false→
 ((ae rst ↑(bd rst (ByteArray.mk #[63,35]).data.toList)).length≤(300000:Nat)∧
 (0:Int)≤(0:Int)∧
 (0:Int)≤(6:Int))∧
 (aU (0:Int) (ae rst ↑(bd rst (ByteArray.mk #[63,35]).data.toList))).length+(ByteArray.mk #[]).data.toList.length≤Go.Vc.maxLen∧
 k (PV.tup []) [bT (PV.raw (Go.Value.pointer bp)) 0 sc us pw hk hs hn hp port true false ([aU (0:Int) (ae rst ↑(bd rst (ByteArray.mk #[63,35]).data.toList))++(ByteArray.mk #[]).data.toList]) hq q hf fg bare sp (aa rst ↑(bd rst (ByteArray.mk #[63,35]).data.toList))])):=by kernel_rfl
attribute [local irreducible] Go.Vc.cC Go.Vc.bK
theorem xD(bp:Option Addr)(sc us pw:Bs)(hk:Int)(hs:Bs)(hn:Int)(hp:List Int)(port:Int)(opq pn:Bool)(pl:List Bs)(hq:Bool)(q:Bs)(hf:Bool)(fg:Bs)(bare sp:Bool)(rst:Bs):bj Tryz.prog ay 81 [.ptr 0 0] [aC 1 (.raw (.pointer bp)) sc us pw hk hs hn hp port opq pn pl hq q hf fg bare sp rst] (rst.length≤300000) (.tup []) [aC 0 (.raw (.pointer bp)) sc us pw hk hs hn hp port true false ([nz (ae rst (aE rst)) (aa rst (aE rst))]) hq q hf fg bare sp (aa rst (aE rst))]:=bt (by kernel_rfl) xC (H:=xB bp sc us pw hk hs hn hp port opq pn pl hq q hf fg bare sp rst) (fuel:=1000) Tryz.func81 (by kernel_rfl) (Nat.le_of_ble_eq_true rfl) fun hpre=>(Dr bp sc us pw hk hs hn hp port opq pn pl hq q hf fg bare sp rst _).mpr (by
 obtain ⟨n,e1⟩:∃n,n=bd rst (ByteArray.mk #[63,35]).data.toList:=⟨_,rfl⟩
 have e2:aE rst=n:=e1.symm
 have h63:∀b:UInt8,b∈(ByteArray.mk #[63,35]).data.toList→b.toNat<128:=by rw [show(ByteArray.mk #[63,35]).data.toList=([63,35]:Bs)from rfl];decide
 rw [←e1]
 have e3:n≤rst.length:=by rw [e1];exact fv _ _
 obtain ⟨S,e4⟩:∃S,S=ae rst (n:Int):=⟨_,rfl⟩
 obtain ⟨D,e5⟩:∃D,D=aa rst (n:Int):=⟨_,rfl⟩
 rw [←e4,←e5]
 have e6:S.length≤300000:=by rw [e4];unfold ae;rw [List.length_take];omega
 have e7:nz (ae rst (aE rst)) (aa rst (aE rst))=nz S D:=by rw [e2,←e4,←e5]
 have e8:aa rst (aE rst:Int)=D:=by rw [e2,←e5]
 have e9:(ae S (ak S-1)).length≤300000:=by unfold ae;rw [List.length_take];omega
 have hcond:(bif !decide (D=(ByteArray.mk #[]).data.toList)then hH S (ByteArray.mk #[32]).data.toList else false)=decide (D≠[]∧0<S.length∧al S (S.length-1)=32):=by
  rw [show hH S (ByteArray.mk #[32]).data.toList=hH S [32]from rfl,KU,Bool.eq_iff_iff]
  simp only [Fi,Bool.and_eq_true,decide_eq_true_eq,Bool.not_eq_true',decide_eq_false_iff_not]
  try exact Iff.rfl
 rw [hcond,e7]
 rw [e8]
 refine ⟨⟨by omega,by decide,h63⟩,⟨by omega,by unfold ak;exact Int.ofNat_le.2 e3⟩,fun _=>⟨by omega,by decide⟩,fun h=>?_,fun h=>?_⟩
 ·have hc:=of_decide_eq_true h
  have ex:nz S D=aU 0 (ae S (ak S-1))++Lh:=by unfold nz;rw [if_pos hc];rfl
  rw [ex]
  exact ⟨by unfold aD ak;omega,by unfold upto ak;omega,⟨e9,by omega,by omega⟩,Nat.le_trans (Nat.add_le_add_right (tu 0 _) _) (Nat.le_trans (show _ ≤12*300000+3 from Nat.add_le_add (Nat.mul_le_mul_left 12 e9) (by decide)) (by decide)),rfl,rfl⟩
 ·have hc:=of_decide_eq_false h
  have ex:nz S D=aU 0 S:=by unfold nz;rw [if_neg hc]
  rw [ex,show(ByteArray.mk #[]).data.toList=([]:Bs)from rfl,List.append_nil]
  exact ⟨⟨e6,by omega,by omega⟩,Nat.le_trans (Nat.add_le_add_right (tu 0 _) _) (Nat.le_trans (show _ ≤12*300000+0 from Nat.add_le_add (Nat.mul_le_mul_left 12 e6) (by decide)) (by decide)),rfl,rfl⟩)
theorem Ds(bp:Option Addr)(sc us pw:Bs)(hk:Int)(hs:Bs)(hn:Int)(hp:List Int)(port:Int)(opq pn:Bool)(pl:List Bs)(hq:Bool)(q:Bs)(hf:Bool)(fg:Bs)(bare sp:Bool)(rst:Bs):ag Tryz.prog ay 81 [.ptr 0 0,aC 1 (.raw (.pointer bp)) sc us pw hk hs hn hp port opq pn pl hq q hf fg bare sp rst] ⟨rst.length≤300000,.tup [.tup [],aC 0 (.raw (.pointer bp)) sc us pw hk hs hn hp port true false ([nz (ae rst (aE rst)) (aa rst (aE rst))]) hq q hf fg bare sp (aa rst (aE rst))]⟩:=ag.aZ (fun h=>by have e:List.isEmpty (PV.aA PV.br [.ptr 0 0,aC 1 (.raw (.pointer bp)) sc us pw hk hs hn hp port opq pn pl hq q hf fg bare sp rst])=false:=(by kernel_rfl);exact Bool.noConfusion (e.symm.trans (congrArg List.isEmpty h))) (xD bp sc us pw hk hs hn hp port opq pn pl hq q hf fg bare sp rst)
def lq:List PV→Option aI:=fun xs=>match xs with
 |[.ptr 0 0,aC 1 (.raw (.pointer bp)) sc us pw hk hs hn hp port opq pn pl hq q hf fg bare sp rst]=>some ⟨rst.length≤300000,.tup [.tup [],aC 0 (.raw (.pointer bp)) sc us pw hk hs hn hp port true false ([nz (ae rst (aE rst)) (aa rst (aE rst))]) hq q hf fg bare sp (aa rst (aE rst))]⟩
 |_=>none
theorem rL:∀xs c,lq xs=some c→ag Tryz.prog ay 81 xs c:=fun xs c h=>by
 unfold lq at h
 split at h
 ·injection h with h;subst h;exact Ds _ _ _ _ _ _ _ _ _ _ _ _ _ _ _ _ _ _ _
 ·cases h
end
section
def dW(rst:Bs)(hq:Bool):Bool:=if preB rst [63]=true then true else hq
def dX(sp:Bool)(rst q:Bs):Bs:=if preB rst [63]=true then aU (if sp=true then 3 else 2) (ae (aa rst 1) (xm (aa rst 1)))else q
def bG(rst:Bs):Bs:=if preB rst [63]=true then aa (aa rst 1) (xm (aa rst 1))else rst
theorem Gf(r:RS):r.query={r with hq:=dW r.rst r.hq,q:=dX r.sp r.rst r.q,rst:=bG r.rst}:=by
 unfold RS.query dW dX bG
 split<;>rfl
def BC:cq:=bN [(80,jS),(128,gE),(129,gC),(26,eY)]
def BD(bp:Option Addr)(sc us pw:Bs)(hk:Int)(hs:Bs)(hn:Int)(hp:List Int)(port:Int)(opq pn:Bool)(pl:List Bs)(hq:Bool)(q:Bs)(hf:Bool)(fg:Bs)(bare sp:Bool)(rst:Bs):aY:=fun i=>none
theorem zZ:cS Tryz.prog ay BC:=ai jT (ai fQ (ai fO (ai dP (ax))))
theorem Gg(bp:Option Addr)(sc us pw:Bs)(hk:Int)(hs:Bs)(hn:Int)(hp:List Int)(port:Int)(opq pn:Bool)(pl:List Bs)(hq:Bool)(q:Bs)(hf:Bool)(fg:Bs)(bare sp:Bool)(rst:Bs)(k:PV→List PV→Prop):bK Tryz.prog BC ay (BD bp sc us pw hk hs hn hp port opq pn pl hq q hf fg bare sp rst) 1000 Tryz.f91 [.ptr 0 0] [aC 1 (.raw (.pointer bp)) sc us pw hk hs hn hp port opq pn pl hq q hf fg bare sp rst] k=(
 True∧
 ((!(aj rst (ByteArray.mk #[63]).data.toList).2)=true→
 k (PV.tup []) [bT (PV.raw (Go.Value.pointer bp)) 1 sc us pw hk hs hn hp port opq pn pl hq q hf fg bare sp ((aj rst (ByteArray.mk #[63]).data.toList).1)])∧
 ((!(aj rst (ByteArray.mk #[63]).data.toList).2)=false→
 (sp=true→
 (List.length (aj rst (ByteArray.mk #[63]).data.toList).1≤(1000000:Nat)∧
 (ByteArray.mk #[35]).data.toList.length≤(1000000:Nat)∧
 ∀(b:UInt8),b∈(ByteArray.mk #[35]).data.toList→
 b.toNat<(128:Nat))∧
 ((0:Int)≤↑(bd (aj rst (ByteArray.mk #[63]).data.toList).1 (ByteArray.mk #[35]).data.toList)∧
 ↑(bd (aj rst (ByteArray.mk #[63]).data.toList).1 (ByteArray.mk #[35]).data.toList)≤ak (aj rst (ByteArray.mk #[63]).data.toList).1)∧
 ((ae (aj rst (ByteArray.mk #[63]).data.toList).1 ↑(bd (aj rst (ByteArray.mk #[63]).data.toList).1 (ByteArray.mk #[35]).data.toList)).length≤(300000:Nat)∧
 (0:Int)≤(3:Int)∧
 (3:Int)≤(6:Int))∧
 k (PV.tup []) [bT (PV.raw (Go.Value.pointer bp)) 1 sc us pw hk hs hn hp port opq pn pl true (aU (3:Int) (ae (aj rst (ByteArray.mk #[63]).data.toList).1 ↑(bd (aj rst (ByteArray.mk #[63]).data.toList).1 (ByteArray.mk #[35]).data.toList))) hf fg bare sp (aa (aj rst (ByteArray.mk #[63]).data.toList).1 ↑(bd (aj rst (ByteArray.mk #[63]).data.toList).1 (ByteArray.mk #[35]).data.toList))])∧
 (sp=false→
 (List.length (aj rst (ByteArray.mk #[63]).data.toList).1≤(1000000:Nat)∧
 (ByteArray.mk #[35]).data.toList.length≤(1000000:Nat)∧
 ∀(b:UInt8),b∈(ByteArray.mk #[35]).data.toList→
 b.toNat<(128:Nat))∧
 ((0:Int)≤↑(bd (aj rst (ByteArray.mk #[63]).data.toList).1 (ByteArray.mk #[35]).data.toList)∧
 ↑(bd (aj rst (ByteArray.mk #[63]).data.toList).1 (ByteArray.mk #[35]).data.toList)≤ak (aj rst (ByteArray.mk #[63]).data.toList).1)∧
 ((ae (aj rst (ByteArray.mk #[63]).data.toList).1 ↑(bd (aj rst (ByteArray.mk #[63]).data.toList).1 (ByteArray.mk #[35]).data.toList)).length≤(300000:Nat)∧
 (0:Int)≤(2:Int)∧
 (2:Int)≤(6:Int))∧
 k (PV.tup []) [bT (PV.raw (Go.Value.pointer bp)) 1 sc us pw hk hs hn hp port opq pn pl true (aU (2:Int) (ae (aj rst (ByteArray.mk #[63]).data.toList).1 ↑(bd (aj rst (ByteArray.mk #[63]).data.toList).1 (ByteArray.mk #[35]).data.toList))) hf fg bare sp (aa (aj rst (ByteArray.mk #[63]).data.toList).1 ↑(bd (aj rst (ByteArray.mk #[63]).data.toList).1 (ByteArray.mk #[35]).data.toList))]))):=by kernel_rfl
attribute [local irreducible] Go.Vc.cC Go.Vc.bK
theorem qR(bp:Option Addr)(sc us pw:Bs)(hk:Int)(hs:Bs)(hn:Int)(hp:List Int)(port:Int)(opq pn:Bool)(pl:List Bs)(hq:Bool)(q:Bs)(hf:Bool)(fg:Bs)(bare sp:Bool)(rst:Bs):bj Tryz.prog ay 91 [.ptr 0 0] [aC 1 (.raw (.pointer bp)) sc us pw hk hs hn hp port opq pn pl hq q hf fg bare sp rst] (rst.length≤300000) (.tup []) [aC 1 (.raw (.pointer bp)) sc us pw hk hs hn hp port opq pn pl (dW rst hq) (dX sp rst q) hf fg bare sp (bG rst)]:=bt (by kernel_rfl) zZ (H:=BD bp sc us pw hk hs hn hp port opq pn pl hq q hf fg bare sp rst) (fuel:=1000) Tryz.func91 (by kernel_rfl) (Nat.le_of_ble_eq_true rfl) fun hpre=>(Gg bp sc us pw hk hs hn hp port opq pn pl hq q hf fg bare sp rst _).mpr (by
 have ec:(ByteArray.mk #[63]).data.toList=([63]:Bs):=rfl
 have ed:(ByteArray.mk #[35]).data.toList=([35]:Bs):=rfl
 have h35:∀b:UInt8,b∈(ByteArray.mk #[35]).data.toList→b.toNat<128:=by rw [ed];decide
 cases hc:preB rst [63]with
 |false=>
  have e1:aj rst (ByteArray.mk #[63]).data.toList=(rst,false):=by unfold aj;rw [ec,hc];rfl
  have e2:dW rst hq=hq∧dX sp rst q=q∧bG rst=rst:=by unfold dW dX bG;rw [hc];exact ⟨rfl,rfl,rfl⟩
  rw [e1,e2.1,e2.2.1,e2.2.2]
  exact ⟨trivial,fun _=>⟨rfl,rfl⟩,fun h=>by cases h⟩
 |true=>
  have e1:aj rst (ByteArray.mk #[63]).data.toList=(aa rst 1,true):=by unfold aj;rw [ec,hc];rfl
  have e2:dW rst hq=true∧dX sp rst q=aU (if sp=true then 3 else 2) (ae (aa rst 1) (xm (aa rst 1)))∧bG rst=aa (aa rst 1) (xm (aa rst 1)):=⟨if_pos hc,if_pos hc,if_pos hc⟩
  have hl:(aa rst 1).length≤300000:=by unfold aa;rw [List.length_drop];omega
  have hi:=fv (aa rst 1) (ByteArray.mk #[35]).data.toList
  have ht:(ae (aa rst 1) (bd (aa rst 1) (ByteArray.mk #[35]).data.toList:Int)).length≤300000:=by unfold ae;rw [List.length_take];omega
  rw [e1,e2.1,e2.2.1,e2.2.2]
  refine ⟨trivial,fun h=>(by cases h),fun _=>⟨fun hsp=>?_,fun hsp=>?_⟩⟩
  ·subst hsp
   exact ⟨⟨Nat.le_trans hl (by decide),by decide,h35⟩,⟨by omega,by unfold ak;exact Int.ofNat_le.2 hi⟩,⟨ht,by omega,by omega⟩,rfl,rfl⟩
  ·subst hsp
   exact ⟨⟨Nat.le_trans hl (by decide),by decide,h35⟩,⟨by omega,by unfold ak;exact Int.ofNat_le.2 hi⟩,⟨ht,by omega,by omega⟩,rfl,rfl⟩)
theorem Gi(bp:Option Addr)(sc us pw:Bs)(hk:Int)(hs:Bs)(hn:Int)(hp:List Int)(port:Int)(opq pn:Bool)(pl:List Bs)(hq:Bool)(q:Bs)(hf:Bool)(fg:Bs)(bare sp:Bool)(rst:Bs):ag Tryz.prog ay 91 [.ptr 0 0,aC 1 (.raw (.pointer bp)) sc us pw hk hs hn hp port opq pn pl hq q hf fg bare sp rst] ⟨rst.length≤300000,.tup [.tup [],aC 1 (.raw (.pointer bp)) sc us pw hk hs hn hp port opq pn pl (dW rst hq) (dX sp rst q) hf fg bare sp (bG rst)]⟩:=ag.aZ (fun h=>by have e:List.isEmpty (PV.aA PV.br [.ptr 0 0,aC 1 (.raw (.pointer bp)) sc us pw hk hs hn hp port opq pn pl hq q hf fg bare sp rst])=false:=(by kernel_rfl);exact Bool.noConfusion (e.symm.trans (congrArg List.isEmpty h))) (qR bp sc us pw hk hs hn hp port opq pn pl hq q hf fg bare sp rst)
def nH:List PV→Option aI:=fun xs=>match xs with
 |[.ptr 0 0,aC 1 (.raw (.pointer bp)) sc us pw hk hs hn hp port opq pn pl hq q hf fg bare sp rst]=>some ⟨rst.length≤300000,.tup [.tup [],aC 1 (.raw (.pointer bp)) sc us pw hk hs hn hp port opq pn pl (dW rst hq) (dX sp rst q) hf fg bare sp (bG rst)]⟩
 |_=>none
theorem ve:∀xs c,nH xs=some c→ag Tryz.prog ay 91 xs c:=fun xs c h=>by
 unfold nH at h
 split at h
 ·injection h with h;subst h;exact Gi _ _ _ _ _ _ _ _ _ _ _ _ _ _ _ _ _ _ _
 ·cases h
end
section
def BE:cq:=bN [(127,mq)]
def BF(bp:Option Addr)(sc us pw:Bs)(hk:Int)(hs:Bs)(hn:Int)(hp:List Int)(port:Int)(opq pn:Bool)(pl:List Bs)(hq:Bool)(q:Bs)(hf:Bool)(fg:Bs)(bare sp:Bool)(rst:Bs)(p:Bs):aY:=fun i=>none
theorem z6:cS Tryz.prog ay BE:=ai oz (ax)
theorem Gj(bp:Option Addr)(sc us pw:Bs)(hk:Int)(hs:Bs)(hn:Int)(hp:List Int)(port:Int)(opq pn:Bool)(pl:List Bs)(hq:Bool)(q:Bs)(hf:Bool)(fg:Bs)(bare sp:Bool)(rst:Bs)(p:Bs)(k:PV→List PV→Prop):bK Tryz.prog BE ay (BF bp sc us pw hk hs hn hp port opq pn pl hq q hf fg bare sp rst p) 1000 Tryz.f80 [.ptr 0 0,.str p] [aC 0 (.raw (.pointer bp)) sc us pw hk hs hn hp port opq pn pl hq q hf fg bare sp rst] k=(
 True∧
 k (PV.bool (aj rst p).2) [bT (PV.raw (Go.Value.pointer bp)) 0 sc us pw hk hs hn hp port opq pn pl hq q hf fg bare sp ((aj rst p).1)]):=by kernel_rfl
attribute [local irreducible] Go.Vc.cC Go.Vc.bK
theorem z7(bp:Option Addr)(sc us pw:Bs)(hk:Int)(hs:Bs)(hn:Int)(hp:List Int)(port:Int)(opq pn:Bool)(pl:List Bs)(hq:Bool)(q:Bs)(hf:Bool)(fg:Bs)(bare sp:Bool)(rst:Bs)(p:Bs):bj Tryz.prog ay 80 [.ptr 0 0,.str p] [aC 0 (.raw (.pointer bp)) sc us pw hk hs hn hp port opq pn pl hq q hf fg bare sp rst] (True) (.bool (aj rst p).2) [aC 0 (.raw (.pointer bp)) sc us pw hk hs hn hp port opq pn pl hq q hf fg bare sp ((aj rst p).1)]:=bt (by kernel_rfl) z6 (H:=BF bp sc us pw hk hs hn hp port opq pn pl hq q hf fg bare sp rst p) (fuel:=1000) Tryz.func80 (by kernel_rfl) (Nat.le_of_ble_eq_true rfl) fun hpre=>(Gj bp sc us pw hk hs hn hp port opq pn pl hq q hf fg bare sp rst p _).mpr (by
 exact ⟨trivial,rfl,rfl⟩)
theorem Gk(bp:Option Addr)(sc us pw:Bs)(hk:Int)(hs:Bs)(hn:Int)(hp:List Int)(port:Int)(opq pn:Bool)(pl:List Bs)(hq:Bool)(q:Bs)(hf:Bool)(fg:Bs)(bare sp:Bool)(rst:Bs)(p:Bs):ag Tryz.prog ay 80 [.ptr 0 0,.str p,aC 0 (.raw (.pointer bp)) sc us pw hk hs hn hp port opq pn pl hq q hf fg bare sp rst] ⟨True,.tup [.bool (aj rst p).2,aC 0 (.raw (.pointer bp)) sc us pw hk hs hn hp port opq pn pl hq q hf fg bare sp ((aj rst p).1)]⟩:=ag.aZ (fun h=>by have e:List.isEmpty (PV.aA PV.br [.ptr 0 0,.str p,aC 0 (.raw (.pointer bp)) sc us pw hk hs hn hp port opq pn pl hq q hf fg bare sp rst])=false:=(by kernel_rfl);exact Bool.noConfusion (e.symm.trans (congrArg List.isEmpty h))) (z7 bp sc us pw hk hs hn hp port opq pn pl hq q hf fg bare sp rst p)
def kn:List PV→Option aI:=fun xs=>match xs with
 |[.ptr 0 0,.str p,aC 0 (.raw (.pointer bp)) sc us pw hk hs hn hp port opq pn pl hq q hf fg bare sp rst]=>some ⟨True,.tup [.bool (aj rst p).2,aC 0 (.raw (.pointer bp)) sc us pw hk hs hn hp port opq pn pl hq q hf fg bare sp ((aj rst p).1)]⟩
 |_=>none
theorem mz:∀xs c,kn xs=some c→ag Tryz.prog ay 80 xs c:=fun xs c h=>by
 unfold kn at h
 split at h
 ·injection h with h;subst h;exact Gk _ _ _ _ _ _ _ _ _ _ _ _ _ _ _ _ _ _ _ _
 ·cases h
end
section
def BG:cq:=bN []
def BH(bp:Option Addr)(sc us pw:Bs)(hk:Int)(hs:Bs)(hn:Int)(hp:List Int)(port:Int)(opq pn:Bool)(pl:List Bs)(hq:Bool)(q:Bs)(hf:Bool)(fg:Bs)(bare sp:Bool)(rst:Bs)(z:Int):aY:=fun i=>none
theorem Aa:cS Tryz.prog ay BG:=ax
theorem Gl(bp:Option Addr)(sc us pw:Bs)(hk:Int)(hs:Bs)(hn:Int)(hp:List Int)(port:Int)(opq pn:Bool)(pl:List Bs)(hq:Bool)(q:Bs)(hf:Bool)(fg:Bs)(bare sp:Bool)(rst:Bs)(z:Int)(k:PV→List PV→Prop):bK Tryz.prog BG ay (BH bp sc us pw hk hs hn hp port opq pn pl hq q hf fg bare sp rst z) 1000 Tryz.f128 [.ptr 0 0,.int .i64 z] [aC 0 (.raw (.pointer bp)) sc us pw hk hs hn hp port opq pn pl hq q hf fg bare sp rst] k=(
 upto (0:Int) z (ak rst)∧
 upto z (ak rst) (ak rst)∧
 k (PV.str (ae rst z)) [bT (PV.raw (Go.Value.pointer bp)) 0 sc us pw hk hs hn hp port opq pn pl hq q hf fg bare sp (aa rst z)]):=by kernel_rfl
attribute [local irreducible] Go.Vc.cC Go.Vc.bK
theorem Ab(bp:Option Addr)(sc us pw:Bs)(hk:Int)(hs:Bs)(hn:Int)(hp:List Int)(port:Int)(opq pn:Bool)(pl:List Bs)(hq:Bool)(q:Bs)(hf:Bool)(fg:Bs)(bare sp:Bool)(rst:Bs)(z:Int):bj Tryz.prog ay 128 [.ptr 0 0,.int .i64 z] [aC 0 (.raw (.pointer bp)) sc us pw hk hs hn hp port opq pn pl hq q hf fg bare sp rst] (0≤z∧z≤ak rst) (.str (ae rst z)) [aC 0 (.raw (.pointer bp)) sc us pw hk hs hn hp port opq pn pl hq q hf fg bare sp (aa rst z)]:=bt (by kernel_rfl) Aa (H:=BH bp sc us pw hk hs hn hp port opq pn pl hq q hf fg bare sp rst z) (fuel:=1000) Tryz.func128 (by kernel_rfl) (Nat.le_of_ble_eq_true rfl) fun hpre=>(Gl bp sc us pw hk hs hn hp port opq pn pl hq q hf fg bare sp rst z _).mpr (by
 obtain ⟨h0,h1⟩:=hpre
 exact ⟨⟨by omega,h0,h1⟩,⟨h0,h1,Int.le_refl _⟩,rfl,rfl⟩)
theorem Gm(bp:Option Addr)(sc us pw:Bs)(hk:Int)(hs:Bs)(hn:Int)(hp:List Int)(port:Int)(opq pn:Bool)(pl:List Bs)(hq:Bool)(q:Bs)(hf:Bool)(fg:Bs)(bare sp:Bool)(rst:Bs)(z:Int):ag Tryz.prog ay 128 [.ptr 0 0,.int .i64 z,aC 0 (.raw (.pointer bp)) sc us pw hk hs hn hp port opq pn pl hq q hf fg bare sp rst] ⟨0≤z∧z≤ak rst,.tup [.str (ae rst z),aC 0 (.raw (.pointer bp)) sc us pw hk hs hn hp port opq pn pl hq q hf fg bare sp (aa rst z)]⟩:=ag.aZ (fun h=>by have e:List.isEmpty (PV.aA PV.br [.ptr 0 0,.int .i64 z,aC 0 (.raw (.pointer bp)) sc us pw hk hs hn hp port opq pn pl hq q hf fg bare sp rst])=false:=(by kernel_rfl);exact Bool.noConfusion (e.symm.trans (congrArg List.isEmpty h))) (Ab bp sc us pw hk hs hn hp port opq pn pl hq q hf fg bare sp rst z)
def nI:List PV→Option aI:=fun xs=>match xs with
 |[.ptr 0 0,.int .i64 z,aC 0 (.raw (.pointer bp)) sc us pw hk hs hn hp port opq pn pl hq q hf fg bare sp rst]=>some ⟨0≤z∧z≤ak rst,.tup [.str (ae rst z),aC 0 (.raw (.pointer bp)) sc us pw hk hs hn hp port opq pn pl hq q hf fg bare sp (aa rst z)]⟩
 |_=>none
theorem vf:∀xs c,nI xs=some c→ag Tryz.prog ay 128 xs c:=fun xs c h=>by
 unfold nI at h
 split at h
 ·injection h with h;subst h;exact Gm _ _ _ _ _ _ _ _ _ _ _ _ _ _ _ _ _ _ _ _
 ·cases h
end
section
def xE:cq:=bN [(80,kn),(128,nI),(129,gC),(26,eY)]
def xF(bp:Option Addr)(sc us pw:Bs)(hk:Int)(hs:Bs)(hn:Int)(hp:List Int)(port:Int)(opq pn:Bool)(pl:List Bs)(hq:Bool)(q:Bs)(hf:Bool)(fg:Bs)(bare sp:Bool)(rst:Bs):aY:=fun i=>none
theorem xG:cS Tryz.prog ay xE:=ai mz (ai vf (ai fO (ai dP (ax))))
theorem Dt(bp:Option Addr)(sc us pw:Bs)(hk:Int)(hs:Bs)(hn:Int)(hp:List Int)(port:Int)(opq pn:Bool)(pl:List Bs)(hq:Bool)(q:Bs)(hf:Bool)(fg:Bs)(bare sp:Bool)(rst:Bs)(k:PV→List PV→Prop):bK Tryz.prog xE ay (xF bp sc us pw hk hs hn hp port opq pn pl hq q hf fg bare sp rst) 1000 Tryz.f91 [.ptr 0 0] [aC 0 (.raw (.pointer bp)) sc us pw hk hs hn hp port opq pn pl hq q hf fg bare sp rst] k=(
 True∧
 ((!(aj rst (ByteArray.mk #[63]).data.toList).2)=true→
 k (PV.tup []) [bT (PV.raw (Go.Value.pointer bp)) 0 sc us pw hk hs hn hp port opq pn pl hq q hf fg bare sp ((aj rst (ByteArray.mk #[63]).data.toList).1)])∧
 ((!(aj rst (ByteArray.mk #[63]).data.toList).2)=false→
 (sp=true→
 (List.length (aj rst (ByteArray.mk #[63]).data.toList).1≤(1000000:Nat)∧
 (ByteArray.mk #[35]).data.toList.length≤(1000000:Nat)∧
 ∀(b:UInt8),b∈(ByteArray.mk #[35]).data.toList→
 b.toNat<(128:Nat))∧
 ((0:Int)≤↑(bd (aj rst (ByteArray.mk #[63]).data.toList).1 (ByteArray.mk #[35]).data.toList)∧
 ↑(bd (aj rst (ByteArray.mk #[63]).data.toList).1 (ByteArray.mk #[35]).data.toList)≤ak (aj rst (ByteArray.mk #[63]).data.toList).1)∧
 ((ae (aj rst (ByteArray.mk #[63]).data.toList).1 ↑(bd (aj rst (ByteArray.mk #[63]).data.toList).1 (ByteArray.mk #[35]).data.toList)).length≤(300000:Nat)∧
 (0:Int)≤(3:Int)∧
 (3:Int)≤(6:Int))∧
 k (PV.tup []) [bT (PV.raw (Go.Value.pointer bp)) 0 sc us pw hk hs hn hp port opq pn pl true (aU (3:Int) (ae (aj rst (ByteArray.mk #[63]).data.toList).1 ↑(bd (aj rst (ByteArray.mk #[63]).data.toList).1 (ByteArray.mk #[35]).data.toList))) hf fg bare sp (aa (aj rst (ByteArray.mk #[63]).data.toList).1 ↑(bd (aj rst (ByteArray.mk #[63]).data.toList).1 (ByteArray.mk #[35]).data.toList))])∧
 (sp=false→
 (List.length (aj rst (ByteArray.mk #[63]).data.toList).1≤(1000000:Nat)∧
 (ByteArray.mk #[35]).data.toList.length≤(1000000:Nat)∧
 ∀(b:UInt8),b∈(ByteArray.mk #[35]).data.toList→
 b.toNat<(128:Nat))∧
 ((0:Int)≤↑(bd (aj rst (ByteArray.mk #[63]).data.toList).1 (ByteArray.mk #[35]).data.toList)∧
 ↑(bd (aj rst (ByteArray.mk #[63]).data.toList).1 (ByteArray.mk #[35]).data.toList)≤ak (aj rst (ByteArray.mk #[63]).data.toList).1)∧
 ((ae (aj rst (ByteArray.mk #[63]).data.toList).1 ↑(bd (aj rst (ByteArray.mk #[63]).data.toList).1 (ByteArray.mk #[35]).data.toList)).length≤(300000:Nat)∧
 (0:Int)≤(2:Int)∧
 (2:Int)≤(6:Int))∧
 k (PV.tup []) [bT (PV.raw (Go.Value.pointer bp)) 0 sc us pw hk hs hn hp port opq pn pl true (aU (2:Int) (ae (aj rst (ByteArray.mk #[63]).data.toList).1 ↑(bd (aj rst (ByteArray.mk #[63]).data.toList).1 (ByteArray.mk #[35]).data.toList))) hf fg bare sp (aa (aj rst (ByteArray.mk #[63]).data.toList).1 ↑(bd (aj rst (ByteArray.mk #[63]).data.toList).1 (ByteArray.mk #[35]).data.toList))]))):=by kernel_rfl
attribute [local irreducible] Go.Vc.cC Go.Vc.bK
theorem xH(bp:Option Addr)(sc us pw:Bs)(hk:Int)(hs:Bs)(hn:Int)(hp:List Int)(port:Int)(opq pn:Bool)(pl:List Bs)(hq:Bool)(q:Bs)(hf:Bool)(fg:Bs)(bare sp:Bool)(rst:Bs):bj Tryz.prog ay 91 [.ptr 0 0] [aC 0 (.raw (.pointer bp)) sc us pw hk hs hn hp port opq pn pl hq q hf fg bare sp rst] (rst.length≤300000) (.tup []) [aC 0 (.raw (.pointer bp)) sc us pw hk hs hn hp port opq pn pl (dW rst hq) (dX sp rst q) hf fg bare sp (bG rst)]:=bt (by kernel_rfl) xG (H:=xF bp sc us pw hk hs hn hp port opq pn pl hq q hf fg bare sp rst) (fuel:=1000) Tryz.func91 (by kernel_rfl) (Nat.le_of_ble_eq_true rfl) fun hpre=>(Dt bp sc us pw hk hs hn hp port opq pn pl hq q hf fg bare sp rst _).mpr (by
 have ec:(ByteArray.mk #[63]).data.toList=([63]:Bs):=rfl
 have ed:(ByteArray.mk #[35]).data.toList=([35]:Bs):=rfl
 have h35:∀b:UInt8,b∈(ByteArray.mk #[35]).data.toList→b.toNat<128:=by rw [ed];decide
 cases hc:preB rst [63]with
 |false=>
  have e1:aj rst (ByteArray.mk #[63]).data.toList=(rst,false):=by unfold aj;rw [ec,hc];rfl
  have e2:dW rst hq=hq∧dX sp rst q=q∧bG rst=rst:=by unfold dW dX bG;rw [hc];exact ⟨rfl,rfl,rfl⟩
  rw [e1,e2.1,e2.2.1,e2.2.2]
  exact ⟨trivial,fun _=>⟨rfl,rfl⟩,fun h=>by cases h⟩
 |true=>
  have e1:aj rst (ByteArray.mk #[63]).data.toList=(aa rst 1,true):=by unfold aj;rw [ec,hc];rfl
  have e2:dW rst hq=true∧dX sp rst q=aU (if sp=true then 3 else 2) (ae (aa rst 1) (xm (aa rst 1)))∧bG rst=aa (aa rst 1) (xm (aa rst 1)):=⟨if_pos hc,if_pos hc,if_pos hc⟩
  have hl:(aa rst 1).length≤300000:=by unfold aa;rw [List.length_drop];omega
  have hi:=fv (aa rst 1) (ByteArray.mk #[35]).data.toList
  have ht:(ae (aa rst 1) (bd (aa rst 1) (ByteArray.mk #[35]).data.toList:Int)).length≤300000:=by unfold ae;rw [List.length_take];omega
  rw [e1,e2.1,e2.2.1,e2.2.2]
  refine ⟨trivial,fun h=>(by cases h),fun _=>⟨fun hsp=>?_,fun hsp=>?_⟩⟩
  ·subst hsp
   exact ⟨⟨Nat.le_trans hl (by decide),by decide,h35⟩,⟨by omega,by unfold ak;exact Int.ofNat_le.2 hi⟩,⟨ht,by omega,by omega⟩,rfl,rfl⟩
  ·subst hsp
   exact ⟨⟨Nat.le_trans hl (by decide),by decide,h35⟩,⟨by omega,by unfold ak;exact Int.ofNat_le.2 hi⟩,⟨ht,by omega,by omega⟩,rfl,rfl⟩)
theorem Du(bp:Option Addr)(sc us pw:Bs)(hk:Int)(hs:Bs)(hn:Int)(hp:List Int)(port:Int)(opq pn:Bool)(pl:List Bs)(hq:Bool)(q:Bs)(hf:Bool)(fg:Bs)(bare sp:Bool)(rst:Bs):ag Tryz.prog ay 91 [.ptr 0 0,aC 0 (.raw (.pointer bp)) sc us pw hk hs hn hp port opq pn pl hq q hf fg bare sp rst] ⟨rst.length≤300000,.tup [.tup [],aC 0 (.raw (.pointer bp)) sc us pw hk hs hn hp port opq pn pl (dW rst hq) (dX sp rst q) hf fg bare sp (bG rst)]⟩:=ag.aZ (fun h=>by have e:List.isEmpty (PV.aA PV.br [.ptr 0 0,aC 0 (.raw (.pointer bp)) sc us pw hk hs hn hp port opq pn pl hq q hf fg bare sp rst])=false:=(by kernel_rfl);exact Bool.noConfusion (e.symm.trans (congrArg List.isEmpty h))) (xH bp sc us pw hk hs hn hp port opq pn pl hq q hf fg bare sp rst)
def lr:List PV→Option aI:=fun xs=>match xs with
 |[.ptr 0 0,aC 0 (.raw (.pointer bp)) sc us pw hk hs hn hp port opq pn pl hq q hf fg bare sp rst]=>some ⟨rst.length≤300000,.tup [.tup [],aC 0 (.raw (.pointer bp)) sc us pw hk hs hn hp port opq pn pl (dW rst hq) (dX sp rst q) hf fg bare sp (bG rst)]⟩
 |_=>none
theorem rM:∀xs c,lr xs=some c→ag Tryz.prog ay 91 xs c:=fun xs c h=>by
 unfold lr at h
 split at h
 ·injection h with h;subst h;exact Du _ _ _ _ _ _ _ _ _ _ _ _ _ _ _ _ _ _ _
 ·cases h
end
section
def dY(rst:Bs)(hf:Bool):Bool:=if preB rst [35]=true then true else hf
def dZ(rst fg:Bs):Bs:=if preB rst [35]=true then aU 1 (aa rst 1)else fg
def eb(rst:Bs):Bs:=if preB rst [35]=true then aa rst 1 else rst
theorem IC(r:RS):r.J7={r with hf:=dY r.rst r.hf,fg:=dZ r.rst r.fg,rst:=eb r.rst}:=by
 unfold RS.J7 dY dZ eb
 split<;>rfl
def qS:cq:=bN [(80,jS),(26,eY)]
def qT(bp:Option Addr)(sc us pw:Bs)(hk:Int)(hs:Bs)(hn:Int)(hp:List Int)(port:Int)(opq pn:Bool)(pl:List Bs)(hq:Bool)(q:Bs)(hf:Bool)(fg:Bs)(bare sp:Bool)(rst:Bs):aY:=fun i=>none
theorem rN:cS Tryz.prog ay qS:=ai jT (ai dP (ax))
theorem xI(bp:Option Addr)(sc us pw:Bs)(hk:Int)(hs:Bs)(hn:Int)(hp:List Int)(port:Int)(opq pn:Bool)(pl:List Bs)(hq:Bool)(q:Bs)(hf:Bool)(fg:Bs)(bare sp:Bool)(rst:Bs)(k:PV→List PV→Prop):bK Tryz.prog qS ay (qT bp sc us pw hk hs hn hp port opq pn pl hq q hf fg bare sp rst) 1000 Tryz.f92 [.ptr 0 0] [aC 1 (.raw (.pointer bp)) sc us pw hk hs hn hp port opq pn pl hq q hf fg bare sp rst] k=(
 True∧
 ((aj rst (ByteArray.mk #[35]).data.toList).2=true→
 (List.length (aj rst (ByteArray.mk #[35]).data.toList).1≤(300000:Nat)∧
 (0:Int)≤(1:Int)∧
 (1:Int)≤(6:Int))∧
 k (PV.tup []) [bT (PV.raw (Go.Value.pointer bp)) 1 sc us pw hk hs hn hp port opq pn pl hq q true (aU (1:Int) (aj rst (ByteArray.mk #[35]).data.toList).1) bare sp ((aj rst (ByteArray.mk #[35]).data.toList).1)])∧
 ((aj rst (ByteArray.mk #[35]).data.toList).2=false→
 k (PV.tup []) [bT (PV.raw (Go.Value.pointer bp)) 1 sc us pw hk hs hn hp port opq pn pl hq q hf fg bare sp ((aj rst (ByteArray.mk #[35]).data.toList).1)])):=by kernel_rfl
attribute [local irreducible] Go.Vc.cC Go.Vc.bK
theorem kF(bp:Option Addr)(sc us pw:Bs)(hk:Int)(hs:Bs)(hn:Int)(hp:List Int)(port:Int)(opq pn:Bool)(pl:List Bs)(hq:Bool)(q:Bs)(hf:Bool)(fg:Bs)(bare sp:Bool)(rst:Bs):bj Tryz.prog ay 92 [.ptr 0 0] [aC 1 (.raw (.pointer bp)) sc us pw hk hs hn hp port opq pn pl hq q hf fg bare sp rst] (rst.length≤300000) (.tup []) [aC 1 (.raw (.pointer bp)) sc us pw hk hs hn hp port opq pn pl hq q (dY rst hf) (dZ rst fg) bare sp (eb rst)]:=bt (by kernel_rfl) rN (H:=qT bp sc us pw hk hs hn hp port opq pn pl hq q hf fg bare sp rst) (fuel:=1000) Tryz.func92 (by kernel_rfl) (Nat.le_of_ble_eq_true rfl) fun hpre=>(xI bp sc us pw hk hs hn hp port opq pn pl hq q hf fg bare sp rst _).mpr (by
 have ed:(ByteArray.mk #[35]).data.toList=([35]:Bs):=rfl
 cases hc:preB rst [35]with
 |false=>
  have e1:aj rst (ByteArray.mk #[35]).data.toList=(rst,false):=by unfold aj;rw [ed,hc];rfl
  have e2:dY rst hf=hf∧dZ rst fg=fg∧eb rst=rst:=by unfold dY dZ eb;rw [hc];exact ⟨rfl,rfl,rfl⟩
  rw [e1,e2.1,e2.2.1,e2.2.2]
  exact ⟨trivial,fun h=>(by cases h),fun _=>⟨rfl,rfl⟩⟩
 |true=>
  have e1:aj rst (ByteArray.mk #[35]).data.toList=(aa rst 1,true):=by unfold aj;rw [ed,hc];rfl
  have e2:dY rst hf=true∧dZ rst fg=aU 1 (aa rst 1)∧eb rst=aa rst 1:=⟨if_pos hc,if_pos hc,if_pos hc⟩
  have hl:(aa rst 1).length≤300000:=by unfold aa;rw [List.length_drop];omega
  rw [e1,e2.1,e2.2.1,e2.2.2]
  exact ⟨trivial,fun _=>⟨⟨hl,by omega,by omega⟩,rfl,rfl⟩,fun h=>(by cases h)⟩)
theorem xJ(bp:Option Addr)(sc us pw:Bs)(hk:Int)(hs:Bs)(hn:Int)(hp:List Int)(port:Int)(opq pn:Bool)(pl:List Bs)(hq:Bool)(q:Bs)(hf:Bool)(fg:Bs)(bare sp:Bool)(rst:Bs):ag Tryz.prog ay 92 [.ptr 0 0,aC 1 (.raw (.pointer bp)) sc us pw hk hs hn hp port opq pn pl hq q hf fg bare sp rst] ⟨rst.length≤300000,.tup [.tup [],aC 1 (.raw (.pointer bp)) sc us pw hk hs hn hp port opq pn pl hq q (dY rst hf) (dZ rst fg) bare sp (eb rst)]⟩:=ag.aZ (fun h=>by have e:List.isEmpty (PV.aA PV.br [.ptr 0 0,aC 1 (.raw (.pointer bp)) sc us pw hk hs hn hp port opq pn pl hq q hf fg bare sp rst])=false:=(by kernel_rfl);exact Bool.noConfusion (e.symm.trans (congrArg List.isEmpty h))) (kF bp sc us pw hk hs hn hp port opq pn pl hq q hf fg bare sp rst)
def jh:List PV→Option aI:=fun xs=>match xs with
 |[.ptr 0 0,aC 1 (.raw (.pointer bp)) sc us pw hk hs hn hp port opq pn pl hq q hf fg bare sp rst]=>some ⟨rst.length≤300000,.tup [.tup [],aC 1 (.raw (.pointer bp)) sc us pw hk hs hn hp port opq pn pl hq q (dY rst hf) (dZ rst fg) bare sp (eb rst)]⟩
 |_=>none
theorem oQ:∀xs c,jh xs=some c→ag Tryz.prog ay 92 xs c:=fun xs c h=>by
 unfold jh at h
 split at h
 ·injection h with h;subst h;exact xJ _ _ _ _ _ _ _ _ _ _ _ _ _ _ _ _ _ _ _
 ·cases h
end
section
def oE:cq:=bN [(80,kn),(26,eY)]
def oF(bp:Option Addr)(sc us pw:Bs)(hk:Int)(hs:Bs)(hn:Int)(hp:List Int)(port:Int)(opq pn:Bool)(pl:List Bs)(hq:Bool)(q:Bs)(hf:Bool)(fg:Bs)(bare sp:Bool)(rst:Bs):aY:=fun i=>none
theorem qU:cS Tryz.prog ay oE:=ai mz (ai dP (ax))
theorem vg(bp:Option Addr)(sc us pw:Bs)(hk:Int)(hs:Bs)(hn:Int)(hp:List Int)(port:Int)(opq pn:Bool)(pl:List Bs)(hq:Bool)(q:Bs)(hf:Bool)(fg:Bs)(bare sp:Bool)(rst:Bs)(k:PV→List PV→Prop):bK Tryz.prog oE ay (oF bp sc us pw hk hs hn hp port opq pn pl hq q hf fg bare sp rst) 1000 Tryz.f92 [.ptr 0 0] [aC 0 (.raw (.pointer bp)) sc us pw hk hs hn hp port opq pn pl hq q hf fg bare sp rst] k=(
 True∧
 ((aj rst (ByteArray.mk #[35]).data.toList).2=true→
 (List.length (aj rst (ByteArray.mk #[35]).data.toList).1≤(300000:Nat)∧
 (0:Int)≤(1:Int)∧
 (1:Int)≤(6:Int))∧
 k (PV.tup []) [bT (PV.raw (Go.Value.pointer bp)) 0 sc us pw hk hs hn hp port opq pn pl hq q true (aU (1:Int) (aj rst (ByteArray.mk #[35]).data.toList).1) bare sp ((aj rst (ByteArray.mk #[35]).data.toList).1)])∧
 ((aj rst (ByteArray.mk #[35]).data.toList).2=false→
 k (PV.tup []) [bT (PV.raw (Go.Value.pointer bp)) 0 sc us pw hk hs hn hp port opq pn pl hq q hf fg bare sp ((aj rst (ByteArray.mk #[35]).data.toList).1)])):=by kernel_rfl
attribute [local irreducible] Go.Vc.cC Go.Vc.bK
theorem qV(bp:Option Addr)(sc us pw:Bs)(hk:Int)(hs:Bs)(hn:Int)(hp:List Int)(port:Int)(opq pn:Bool)(pl:List Bs)(hq:Bool)(q:Bs)(hf:Bool)(fg:Bs)(bare sp:Bool)(rst:Bs):bj Tryz.prog ay 92 [.ptr 0 0] [aC 0 (.raw (.pointer bp)) sc us pw hk hs hn hp port opq pn pl hq q hf fg bare sp rst] (rst.length≤300000) (.tup []) [aC 0 (.raw (.pointer bp)) sc us pw hk hs hn hp port opq pn pl hq q (dY rst hf) (dZ rst fg) bare sp (eb rst)]:=bt (by kernel_rfl) qU (H:=oF bp sc us pw hk hs hn hp port opq pn pl hq q hf fg bare sp rst) (fuel:=1000) Tryz.func92 (by kernel_rfl) (Nat.le_of_ble_eq_true rfl) fun hpre=>(vg bp sc us pw hk hs hn hp port opq pn pl hq q hf fg bare sp rst _).mpr (by
 have ed:(ByteArray.mk #[35]).data.toList=([35]:Bs):=rfl
 cases hc:preB rst [35]with
 |false=>
  have e1:aj rst (ByteArray.mk #[35]).data.toList=(rst,false):=by unfold aj;rw [ed,hc];rfl
  have e2:dY rst hf=hf∧dZ rst fg=fg∧eb rst=rst:=by unfold dY dZ eb;rw [hc];exact ⟨rfl,rfl,rfl⟩
  rw [e1,e2.1,e2.2.1,e2.2.2]
  exact ⟨trivial,fun h=>(by cases h),fun _=>⟨rfl,rfl⟩⟩
 |true=>
  have e1:aj rst (ByteArray.mk #[35]).data.toList=(aa rst 1,true):=by unfold aj;rw [ed,hc];rfl
  have e2:dY rst hf=true∧dZ rst fg=aU 1 (aa rst 1)∧eb rst=aa rst 1:=⟨if_pos hc,if_pos hc,if_pos hc⟩
  have hl:(aa rst 1).length≤300000:=by unfold aa;rw [List.length_drop];omega
  rw [e1,e2.1,e2.2.1,e2.2.2]
  exact ⟨trivial,fun _=>⟨⟨hl,by omega,by omega⟩,rfl,rfl⟩,fun h=>(by cases h)⟩)
theorem vh(bp:Option Addr)(sc us pw:Bs)(hk:Int)(hs:Bs)(hn:Int)(hp:List Int)(port:Int)(opq pn:Bool)(pl:List Bs)(hq:Bool)(q:Bs)(hf:Bool)(fg:Bs)(bare sp:Bool)(rst:Bs):ag Tryz.prog ay 92 [.ptr 0 0,aC 0 (.raw (.pointer bp)) sc us pw hk hs hn hp port opq pn pl hq q hf fg bare sp rst] ⟨rst.length≤300000,.tup [.tup [],aC 0 (.raw (.pointer bp)) sc us pw hk hs hn hp port opq pn pl hq q (dY rst hf) (dZ rst fg) bare sp (eb rst)]⟩:=ag.aZ (fun h=>by have e:List.isEmpty (PV.aA PV.br [.ptr 0 0,aC 0 (.raw (.pointer bp)) sc us pw hk hs hn hp port opq pn pl hq q hf fg bare sp rst])=false:=(by kernel_rfl);exact Bool.noConfusion (e.symm.trans (congrArg List.isEmpty h))) (qV bp sc us pw hk hs hn hp port opq pn pl hq q hf fg bare sp rst)
def hO:List PV→Option aI:=fun xs=>match xs with
 |[.ptr 0 0,aC 0 (.raw (.pointer bp)) sc us pw hk hs hn hp port opq pn pl hq q hf fg bare sp rst]=>some ⟨rst.length≤300000,.tup [.tup [],aC 0 (.raw (.pointer bp)) sc us pw hk hs hn hp port opq pn pl hq q (dY rst hf) (dZ rst fg) bare sp (eb rst)]⟩
 |_=>none
theorem nJ:∀xs c,hO xs=some c→ag Tryz.prog ay 92 xs c:=fun xs c h=>by
 unfold hO at h
 split at h
 ·injection h with h;subst h;exact vh _ _ _ _ _ _ _ _ _ _ _ _ _ _ _ _ _ _ _
 ·cases h
end
section
attribute [local instance] Kn
theorem eD(bp:Option Addr):ofRaw bp (.raw (.pointer bp))=.ptr 1 0:=by unfold ofRaw;exact if_pos rfl
theorem Dv(sc us pw:Bs)(hk:Int)(hs:Bs)(hn:Int)(hp:List Int)(port:Int)(opq pn:Bool)(pl:List Bs)(hq:Bool)(q:Bs)(hf:Bool)(fg:Bs)(bare sp:Bool)(rst:Bs)(at_:Int)(bsc bus bpw:Bs)(bhk:Int)(bhs:Bs)(bhn:Int)(bhp:List Int)(bport:Int)(bopq bpn:Bool)(bpl:List Bs)(bhq:Bool)(bq:Bs)(bhf:Bool)(bfg:Bs):ag Tryz.prog ay 82 [.ptr 0 0,.int .i64 at_,aC 1 (.ptr 1 0) sc us pw hk hs hn hp port opq pn pl hq q hf fg bare sp rst,bD 0 bsc bus bpw bhk bhs bhn bhp bport bopq bpn bpl bhq bq bhf bfg] ⟨0≤at_∧at_<1000,.tup [.bool (az sp rst at_),aC 1 (.ptr 1 0) sc us pw hk hs hn hp port opq pn pl hq q hf fg bare sp rst,bD 0 bsc bus bpw bhk bhs bhn bhp bport bopq bpn bpl bhq bq bhf bfg]⟩:=
 ag.aZ (fun h=>by have e:List.isEmpty (PV.aA PV.br [.ptr 0 0,.int .i64 at_,aC 1 (.ptr 1 0) sc us pw hk hs hn hp port opq pn pl hq q hf fg bare sp rst,bD 0 bsc bus bpw bhk bhs bhn bhp bport bopq bpn bpl bhq bq bhf bfg])=false:=(by kernel_rfl);exact Bool.noConfusion (e.symm.trans (congrArg List.isEmpty h)))
  (eB (fun bp=>(aC 1 (.raw (.pointer bp)) sc us pw hk hs hn hp port opq pn pl hq q hf fg bare sp rst)) (fun bp=>(aC 1 (.raw (.pointer bp)) sc us pw hk hs hn hp port opq pn pl hq q hf fg bare sp rst)) (fun bp=>qD bp sc us pw hk hs hn hp port opq pn pl hq q hf fg bare sp rst at_) (fun bp=>rfl) (fun bp=>by
    show PV.agg [_,ofRaw bp (.raw (.pointer bp)),_,_,_]=_
    rw [eD];rfl) (fun bp=>rfl) rfl)
theorem rO(sc us pw:Bs)(hk:Int)(hs:Bs)(hn:Int)(hp:List Int)(port:Int)(opq pn:Bool)(pl:List Bs)(hq:Bool)(q:Bs)(hf:Bool)(fg:Bs)(bare sp:Bool)(rst:Bs)(bsc bus bpw:Bs)(bhk:Int)(bhs:Bs)(bhn:Int)(bhp:List Int)(bport:Int)(bopq bpn:Bool)(bpl:List Bs)(bhq:Bool)(bq:Bs)(bhf:Bool)(bfg:Bs):ag Tryz.prog ay 84 [.ptr 0 0,aC 1 (.ptr 1 0) sc us pw hk hs hn hp port opq pn pl hq q hf fg bare sp rst,bD 0 bsc bus bpw bhk bhs bhn bhp bport bopq bpn bpl bhq bq bhf bfg] ⟨True,.tup [.bool (az sp rst 0),aC 1 (.ptr 1 0) sc us pw hk hs hn hp port opq pn pl hq q hf fg bare sp (if az sp rst 0=true then aa rst 1 else rst),bD 0 bsc bus bpw bhk bhs bhn bhp bport bopq bpn bpl bhq bq bhf bfg]⟩:=
 ag.aZ (fun h=>by have e:List.isEmpty (PV.aA PV.br [.ptr 0 0,aC 1 (.ptr 1 0) sc us pw hk hs hn hp port opq pn pl hq q hf fg bare sp rst,bD 0 bsc bus bpw bhk bhs bhn bhp bport bopq bpn bpl bhq bq bhf bfg])=false:=(by kernel_rfl);exact Bool.noConfusion (e.symm.trans (congrArg List.isEmpty h)))
  (eB (fun bp=>(aC 1 (.raw (.pointer bp)) sc us pw hk hs hn hp port opq pn pl hq q hf fg bare sp rst)) (fun bp=>(aC 1 (.raw (.pointer bp)) sc us pw hk hs hn hp port opq pn pl hq q hf fg bare sp (if az sp rst 0=true then aa rst 1 else rst))) (fun bp=>jR bp sc us pw hk hs hn hp port opq pn pl hq q hf fg bare sp rst) (fun bp=>rfl) (fun bp=>by
    show PV.agg [_,ofRaw bp (.raw (.pointer bp)),_,_,_]=_
    rw [eD];rfl) (fun bp=>rfl) rfl)
theorem Ac(sc us pw:Bs)(hk:Int)(hs:Bs)(hn:Int)(hp:List Int)(port:Int)(opq pn:Bool)(pl:List Bs)(hq:Bool)(q:Bs)(hf:Bool)(fg:Bs)(bare sp:Bool)(rst:Bs)(bsc bus bpw:Bs)(bhk:Int)(bhs:Bs)(bhn:Int)(bhp:List Int)(bport:Int)(bopq bpn:Bool)(bpl:List Bs)(bhq:Bool)(bq:Bs)(bhf:Bool)(bfg:Bs):ag Tryz.prog ay 89 [.ptr 0 0,aC 1 (.ptr 1 0) sc us pw hk hs hn hp port opq pn pl hq q hf fg bare sp rst,bD 0 bsc bus bpw bhk bhs bhn bhp bport bopq bpn bpl bhq bq bhf bfg] ⟨True,.tup [.bool (bQ rst),aC 1 (.ptr 1 0) sc us pw hk hs hn hp port opq pn pl hq q hf fg bare sp rst,bD 0 bsc bus bpw bhk bhs bhn bhp bport bopq bpn bpl bhq bq bhf bfg]⟩:=
 ag.aZ (fun h=>by have e:List.isEmpty (PV.aA PV.br [.ptr 0 0,aC 1 (.ptr 1 0) sc us pw hk hs hn hp port opq pn pl hq q hf fg bare sp rst,bD 0 bsc bus bpw bhk bhs bhn bhp bport bopq bpn bpl bhq bq bhf bfg])=false:=(by kernel_rfl);exact Bool.noConfusion (e.symm.trans (congrArg List.isEmpty h)))
  (eB (fun bp=>(aC 1 (.raw (.pointer bp)) sc us pw hk hs hn hp port opq pn pl hq q hf fg bare sp rst)) (fun bp=>(aC 1 (.raw (.pointer bp)) sc us pw hk hs hn hp port opq pn pl hq q hf fg bare sp rst)) (fun bp=>oA bp sc us pw hk hs hn hp port opq pn pl hq q hf fg bare sp rst) (fun bp=>rfl) (fun bp=>by
    show PV.agg [_,ofRaw bp (.raw (.pointer bp)),_,_,_]=_
    rw [eD];rfl) (fun bp=>rfl) rfl)
def jW:List PV→Option aI:=fun xs=>match xs with
 |[.ptr 0 0,aC 1 (.ptr 1 0) sc us pw hk hs hn hp port opq pn pl hq q hf fg bare sp rst,bD 0 bsc bus bpw bhk bhs bhn bhp bport bopq bpn bpl bhq bq bhf bfg]=>some ⟨True,.tup [.bool (bQ rst),aC 1 (.ptr 1 0) sc us pw hk hs hn hp port opq pn pl hq q hf fg bare sp rst,bD 0 bsc bus bpw bhk bhs bhn bhp bport bopq bpn bpl bhq bq bhf bfg]⟩
 |_=>none
theorem qW:∀xs c,jW xs=some c→ag Tryz.prog ay 89 xs c:=fun xs c h=>by
 unfold jW at h
 split at h
 ·injection h with h;subst h;exact Ac _ _ _ _ _ _ _ _ _ _ _ _ _ _ _ _ _ _ _ _ _ _ _ _ _ _ _ _ _ _ _ _ _
 ·cases h
theorem xK(sc us pw:Bs)(hk:Int)(hs:Bs)(hn:Int)(hp:List Int)(port:Int)(opq pn:Bool)(pl:List Bs)(hq:Bool)(q:Bs)(hf:Bool)(fg:Bs)(bare sp:Bool)(rst:Bs)(bsc bus bpw:Bs)(bhk:Int)(bhs:Bs)(bhn:Int)(bhp:List Int)(bport:Int)(bopq bpn:Bool)(bpl:List Bs)(bhq:Bool)(bq:Bs)(bhf:Bool)(bfg:Bs):ag Tryz.prog ay 87 [.ptr 0 0,aC 1 (.ptr 1 0) sc us pw hk hs hn hp port opq pn pl hq q hf fg bare sp rst,bD 0 bsc bus bpw bhk bhs bhn bhp bport bopq bpn bpl bhq bq bhf bfg] ⟨pl.length≤1000000,.tup [.tup [],aC 1 (.ptr 1 0) sc us pw hk hs hn hp port opq ((bZ sc (pn,pl)).1) ((bZ sc (pn,pl)).2) hq q hf fg bare sp rst,bD 0 bsc bus bpw bhk bhs bhn bhp bport bopq bpn bpl bhq bq bhf bfg]⟩:=
 ag.aZ (fun h=>by have e:List.isEmpty (PV.aA PV.br [.ptr 0 0,aC 1 (.ptr 1 0) sc us pw hk hs hn hp port opq pn pl hq q hf fg bare sp rst,bD 0 bsc bus bpw bhk bhs bhn bhp bport bopq bpn bpl bhq bq bhf bfg])=false:=(by kernel_rfl);exact Bool.noConfusion (e.symm.trans (congrArg List.isEmpty h)))
  (eB (fun bp=>(aC 1 (.raw (.pointer bp)) sc us pw hk hs hn hp port opq pn pl hq q hf fg bare sp rst)) (fun bp=>(aC 1 (.raw (.pointer bp)) sc us pw hk hs hn hp port opq ((bZ sc (pn,pl)).1) ((bZ sc (pn,pl)).2) hq q hf fg bare sp rst)) (fun bp=>mw bp sc us pw hk hs hn hp port opq pn pl hq q hf fg bare sp rst) (fun bp=>rfl) (fun bp=>by
    show PV.agg [_,ofRaw bp (.raw (.pointer bp)),_,_,_]=_
    rw [eD];rfl) (fun bp=>rfl) rfl)
def ji:List PV→Option aI:=fun xs=>match xs with
 |[.ptr 0 0,aC 1 (.ptr 1 0) sc us pw hk hs hn hp port opq pn pl hq q hf fg bare sp rst,bD 0 bsc bus bpw bhk bhs bhn bhp bport bopq bpn bpl bhq bq bhf bfg]=>some ⟨pl.length≤1000000,.tup [.tup [],aC 1 (.ptr 1 0) sc us pw hk hs hn hp port opq ((bZ sc (pn,pl)).1) ((bZ sc (pn,pl)).2) hq q hf fg bare sp rst,bD 0 bsc bus bpw bhk bhs bhn bhp bport bopq bpn bpl bhq bq bhf bfg]⟩
 |_=>none
theorem oR:∀xs c,ji xs=some c→ag Tryz.prog ay 87 xs c:=fun xs c h=>by
 unfold ji at h
 split at h
 ·injection h with h;subst h;exact xK _ _ _ _ _ _ _ _ _ _ _ _ _ _ _ _ _ _ _ _ _ _ _ _ _ _ _ _ _ _ _ _ _
 ·cases h
theorem Gn(sc us pw:Bs)(hk:Int)(hs:Bs)(hn:Int)(hp:List Int)(port:Int)(opq pn:Bool)(pl:List Bs)(hq:Bool)(q:Bs)(hf:Bool)(fg:Bs)(bare sp:Bool)(rst:Bs)(bsc bus bpw:Bs)(bhk:Int)(bhs:Bs)(bhn:Int)(bhp:List Int)(bport:Int)(bopq bpn:Bool)(bpl:List Bs)(bhq:Bool)(bq:Bs)(bhf:Bool)(bfg:Bs):ag Tryz.prog ay 90 [.ptr 0 0,aC 1 (.ptr 1 0) sc us pw hk hs hn hp port opq pn pl hq q hf fg bare sp rst,bD 0 bsc bus bpw bhk bhs bhn bhp bport bopq bpn bpl bhq bq bhf bfg] ⟨rst.length≤300000∧pl.length≤100000,.tup [.tup [],aC 1 (.ptr 1 0) sc us pw hk hs hn hp port opq ((bo sp sc (ae rst (aE rst)) (pn,pl)).1) ((bo sp sc (ae rst (aE rst)) (pn,pl)).2) hq q hf fg bare sp (aa rst (aE rst)),bD 0 bsc bus bpw bhk bhs bhn bhp bport bopq bpn bpl bhq bq bhf bfg]⟩:=
 ag.aZ (fun h=>by have e:List.isEmpty (PV.aA PV.br [.ptr 0 0,aC 1 (.ptr 1 0) sc us pw hk hs hn hp port opq pn pl hq q hf fg bare sp rst,bD 0 bsc bus bpw bhk bhs bhn bhp bport bopq bpn bpl bhq bq bhf bfg])=false:=(by kernel_rfl);exact Bool.noConfusion (e.symm.trans (congrArg List.isEmpty h)))
  (eB (fun bp=>(aC 1 (.raw (.pointer bp)) sc us pw hk hs hn hp port opq pn pl hq q hf fg bare sp rst)) (fun bp=>(aC 1 (.raw (.pointer bp)) sc us pw hk hs hn hp port opq ((bo sp sc (ae rst (aE rst)) (pn,pl)).1) ((bo sp sc (ae rst (aE rst)) (pn,pl)).2) hq q hf fg bare sp (aa rst (aE rst)))) (fun bp=>tt bp sc us pw hk hs hn hp port opq pn pl hq q hf fg bare sp rst) (fun bp=>rfl) (fun bp=>by
    show PV.agg [_,ofRaw bp (.raw (.pointer bp)),_,_,_]=_
    rw [eD];rfl) (fun bp=>rfl) rfl)
def nK:List PV→Option aI:=fun xs=>match xs with
 |[.ptr 0 0,aC 1 (.ptr 1 0) sc us pw hk hs hn hp port opq pn pl hq q hf fg bare sp rst,bD 0 bsc bus bpw bhk bhs bhn bhp bport bopq bpn bpl bhq bq bhf bfg]=>some ⟨rst.length≤300000∧pl.length≤100000,.tup [.tup [],aC 1 (.ptr 1 0) sc us pw hk hs hn hp port opq ((bo sp sc (ae rst (aE rst)) (pn,pl)).1) ((bo sp sc (ae rst (aE rst)) (pn,pl)).2) hq q hf fg bare sp (aa rst (aE rst)),bD 0 bsc bus bpw bhk bhs bhn bhp bport bopq bpn bpl bhq bq bhf bfg]⟩
 |_=>none
theorem vi:∀xs c,nK xs=some c→ag Tryz.prog ay 90 xs c:=fun xs c h=>by
 unfold nK at h
 split at h
 ·injection h with h;subst h;exact Gn _ _ _ _ _ _ _ _ _ _ _ _ _ _ _ _ _ _ _ _ _ _ _ _ _ _ _ _ _ _ _ _ _
 ·cases h
theorem Dw(sc us pw:Bs)(hk:Int)(hs:Bs)(hn:Int)(hp:List Int)(port:Int)(opq pn:Bool)(pl:List Bs)(hq:Bool)(q:Bs)(hf:Bool)(fg:Bs)(bare sp:Bool)(rst:Bs)(bsc bus bpw:Bs)(bhk:Int)(bhs:Bs)(bhn:Int)(bhp:List Int)(bport:Int)(bopq bpn:Bool)(bpl:List Bs)(bhq:Bool)(bq:Bs)(bhf:Bool)(bfg:Bs):ag Tryz.prog ay 91 [.ptr 0 0,aC 1 (.ptr 1 0) sc us pw hk hs hn hp port opq pn pl hq q hf fg bare sp rst,bD 0 bsc bus bpw bhk bhs bhn bhp bport bopq bpn bpl bhq bq bhf bfg] ⟨rst.length≤300000,.tup [.tup [],aC 1 (.ptr 1 0) sc us pw hk hs hn hp port opq pn pl (dW rst hq) (dX sp rst q) hf fg bare sp (bG rst),bD 0 bsc bus bpw bhk bhs bhn bhp bport bopq bpn bpl bhq bq bhf bfg]⟩:=
 ag.aZ (fun h=>by have e:List.isEmpty (PV.aA PV.br [.ptr 0 0,aC 1 (.ptr 1 0) sc us pw hk hs hn hp port opq pn pl hq q hf fg bare sp rst,bD 0 bsc bus bpw bhk bhs bhn bhp bport bopq bpn bpl bhq bq bhf bfg])=false:=(by kernel_rfl);exact Bool.noConfusion (e.symm.trans (congrArg List.isEmpty h)))
  (eB (fun bp=>(aC 1 (.raw (.pointer bp)) sc us pw hk hs hn hp port opq pn pl hq q hf fg bare sp rst)) (fun bp=>(aC 1 (.raw (.pointer bp)) sc us pw hk hs hn hp port opq pn pl (dW rst hq) (dX sp rst q) hf fg bare sp (bG rst))) (fun bp=>qR bp sc us pw hk hs hn hp port opq pn pl hq q hf fg bare sp rst) (fun bp=>rfl) (fun bp=>by
    show PV.agg [_,ofRaw bp (.raw (.pointer bp)),_,_,_]=_
    rw [eD];rfl) (fun bp=>rfl) rfl)
def lu:List PV→Option aI:=fun xs=>match xs with
 |[.ptr 0 0,aC 1 (.ptr 1 0) sc us pw hk hs hn hp port opq pn pl hq q hf fg bare sp rst,bD 0 bsc bus bpw bhk bhs bhn bhp bport bopq bpn bpl bhq bq bhf bfg]=>some ⟨rst.length≤300000,.tup [.tup [],aC 1 (.ptr 1 0) sc us pw hk hs hn hp port opq pn pl (dW rst hq) (dX sp rst q) hf fg bare sp (bG rst),bD 0 bsc bus bpw bhk bhs bhn bhp bport bopq bpn bpl bhq bq bhf bfg]⟩
 |_=>none
theorem rP:∀xs c,lu xs=some c→ag Tryz.prog ay 91 xs c:=fun xs c h=>by
 unfold lu at h
 split at h
 ·injection h with h;subst h;exact Dw _ _ _ _ _ _ _ _ _ _ _ _ _ _ _ _ _ _ _ _ _ _ _ _ _ _ _ _ _ _ _ _ _
 ·cases h
theorem vj(sc us pw:Bs)(hk:Int)(hs:Bs)(hn:Int)(hp:List Int)(port:Int)(opq pn:Bool)(pl:List Bs)(hq:Bool)(q:Bs)(hf:Bool)(fg:Bs)(bare sp:Bool)(rst:Bs)(bsc bus bpw:Bs)(bhk:Int)(bhs:Bs)(bhn:Int)(bhp:List Int)(bport:Int)(bopq bpn:Bool)(bpl:List Bs)(bhq:Bool)(bq:Bs)(bhf:Bool)(bfg:Bs):ag Tryz.prog ay 92 [.ptr 0 0,aC 1 (.ptr 1 0) sc us pw hk hs hn hp port opq pn pl hq q hf fg bare sp rst,bD 0 bsc bus bpw bhk bhs bhn bhp bport bopq bpn bpl bhq bq bhf bfg] ⟨rst.length≤300000,.tup [.tup [],aC 1 (.ptr 1 0) sc us pw hk hs hn hp port opq pn pl hq q (dY rst hf) (dZ rst fg) bare sp (eb rst),bD 0 bsc bus bpw bhk bhs bhn bhp bport bopq bpn bpl bhq bq bhf bfg]⟩:=
 ag.aZ (fun h=>by have e:List.isEmpty (PV.aA PV.br [.ptr 0 0,aC 1 (.ptr 1 0) sc us pw hk hs hn hp port opq pn pl hq q hf fg bare sp rst,bD 0 bsc bus bpw bhk bhs bhn bhp bport bopq bpn bpl bhq bq bhf bfg])=false:=(by kernel_rfl);exact Bool.noConfusion (e.symm.trans (congrArg List.isEmpty h)))
  (eB (fun bp=>(aC 1 (.raw (.pointer bp)) sc us pw hk hs hn hp port opq pn pl hq q hf fg bare sp rst)) (fun bp=>(aC 1 (.raw (.pointer bp)) sc us pw hk hs hn hp port opq pn pl hq q (dY rst hf) (dZ rst fg) bare sp (eb rst))) (fun bp=>kF bp sc us pw hk hs hn hp port opq pn pl hq q hf fg bare sp rst) (fun bp=>rfl) (fun bp=>by
    show PV.agg [_,ofRaw bp (.raw (.pointer bp)),_,_,_]=_
    rw [eD];rfl) (fun bp=>rfl) rfl)
def hY:List PV→Option aI:=fun xs=>match xs with
 |[.ptr 0 0,aC 1 (.ptr 1 0) sc us pw hk hs hn hp port opq pn pl hq q hf fg bare sp rst,bD 0 bsc bus bpw bhk bhs bhn bhp bport bopq bpn bpl bhq bq bhf bfg]=>some ⟨rst.length≤300000,.tup [.tup [],aC 1 (.ptr 1 0) sc us pw hk hs hn hp port opq pn pl hq q (dY rst hf) (dZ rst fg) bare sp (eb rst),bD 0 bsc bus bpw bhk bhs bhn bhp bport bopq bpn bpl bhq bq bhf bfg]⟩
 |_=>none
theorem nL:∀xs c,hY xs=some c→ag Tryz.prog ay 92 xs c:=fun xs c h=>by
 unfold hY at h
 split at h
 ·injection h with h;subst h;exact vj _ _ _ _ _ _ _ _ _ _ _ _ _ _ _ _ _ _ _ _ _ _ _ _ _ _ _ _ _ _ _ _ _
 ·cases h
end
section
def xL:cq:=bN []
def xM(sc us pw:Bs)(hk:Int)(hs:Bs)(hn:Int)(hp:List Int)(port:Int)(opq pn:Bool)(pl:List Bs)(hq:Bool)(q:Bs)(hf:Bool)(fg:Bs)(bare sp:Bool)(rst:Bs)(bsc bus bpw:Bs)(bhk:Int)(bhs:Bs)(bhn:Int)(bhp:List Int)(bport:Int)(bopq bpn:Bool)(bpl:List Bs)(bhq:Bool)(bq:Bs)(bhf:Bool)(bfg:Bs):aY:=fun i=>none
theorem xN:cS Tryz.prog ay xL:=ax
theorem Dx(sc us pw:Bs)(hk:Int)(hs:Bs)(hn:Int)(hp:List Int)(port:Int)(opq pn:Bool)(pl:List Bs)(hq:Bool)(q:Bs)(hf:Bool)(fg:Bs)(bare sp:Bool)(rst:Bs)(bsc bus bpw:Bs)(bhk:Int)(bhs:Bs)(bhn:Int)(bhp:List Int)(bport:Int)(bopq bpn:Bool)(bpl:List Bs)(bhq:Bool)(bq:Bs)(bhf:Bool)(bfg:Bs)(k:PV→List PV→Prop):bK Tryz.prog xL ay (xM sc us pw hk hs hn hp port opq pn pl hq q hf fg bare sp rst bsc bus bpw bhk bhs bhn bhp bport bopq bpn bpl bhq bq bhf bfg) 1000 Tryz.f77 [.ptr 0 0] [aC 1 (.ptr 1 0) sc us pw hk hs hn hp port opq pn pl hq q hf fg bare sp rst,bD 0 bsc bus bpw bhk bhs bhn bhp bport bopq bpn bpl bhq bq bhf bfg] k=(
 k (PV.bool (decide (bsc=sc))) [bT (PV.ptr (1:Nat) (0:Nat)) 1 sc us pw hk hs hn hp port opq pn pl hq q hf fg bare sp rst,bD (0:Nat) bsc bus bpw bhk bhs bhn bhp bport bopq bpn bpl bhq bq bhf bfg]):=by kernel_rfl
attribute [local irreducible] Go.Vc.cC Go.Vc.bK
theorem xO(sc us pw:Bs)(hk:Int)(hs:Bs)(hn:Int)(hp:List Int)(port:Int)(opq pn:Bool)(pl:List Bs)(hq:Bool)(q:Bs)(hf:Bool)(fg:Bs)(bare sp:Bool)(rst:Bs)(bsc bus bpw:Bs)(bhk:Int)(bhs:Bs)(bhn:Int)(bhp:List Int)(bport:Int)(bopq bpn:Bool)(bpl:List Bs)(bhq:Bool)(bq:Bs)(bhf:Bool)(bfg:Bs):bj Tryz.prog ay 77 [.ptr 0 0] [aC 1 (.ptr 1 0) sc us pw hk hs hn hp port opq pn pl hq q hf fg bare sp rst,bD 0 bsc bus bpw bhk bhs bhn bhp bport bopq bpn bpl bhq bq bhf bfg] (True) (.bool (decide (bsc=sc))) [aC 1 (.ptr 1 0) sc us pw hk hs hn hp port opq pn pl hq q hf fg bare sp rst,bD 0 bsc bus bpw bhk bhs bhn bhp bport bopq bpn bpl bhq bq bhf bfg]:=bt (by kernel_rfl) xN (H:=xM sc us pw hk hs hn hp port opq pn pl hq q hf fg bare sp rst bsc bus bpw bhk bhs bhn bhp bport bopq bpn bpl bhq bq bhf bfg) (fuel:=1000) Tryz.func77 (by kernel_rfl) (Nat.le_of_ble_eq_true rfl) fun hpre=>(Dx sc us pw hk hs hn hp port opq pn pl hq q hf fg bare sp rst bsc bus bpw bhk bhs bhn bhp bport bopq bpn bpl bhq bq bhf bfg _).mpr (by
 exact ⟨rfl,rfl⟩)
theorem Dy(sc us pw:Bs)(hk:Int)(hs:Bs)(hn:Int)(hp:List Int)(port:Int)(opq pn:Bool)(pl:List Bs)(hq:Bool)(q:Bs)(hf:Bool)(fg:Bs)(bare sp:Bool)(rst:Bs)(bsc bus bpw:Bs)(bhk:Int)(bhs:Bs)(bhn:Int)(bhp:List Int)(bport:Int)(bopq bpn:Bool)(bpl:List Bs)(bhq:Bool)(bq:Bs)(bhf:Bool)(bfg:Bs):ag Tryz.prog ay 77 [.ptr 0 0,aC 1 (.ptr 1 0) sc us pw hk hs hn hp port opq pn pl hq q hf fg bare sp rst,bD 0 bsc bus bpw bhk bhs bhn bhp bport bopq bpn bpl bhq bq bhf bfg] ⟨True,.tup [.bool (decide (bsc=sc)),aC 1 (.ptr 1 0) sc us pw hk hs hn hp port opq pn pl hq q hf fg bare sp rst,bD 0 bsc bus bpw bhk bhs bhn bhp bport bopq bpn bpl bhq bq bhf bfg]⟩:=ag.aZ (fun h=>by have e:List.isEmpty (PV.aA PV.br [.ptr 0 0,aC 1 (.ptr 1 0) sc us pw hk hs hn hp port opq pn pl hq q hf fg bare sp rst,bD 0 bsc bus bpw bhk bhs bhn bhp bport bopq bpn bpl bhq bq bhf bfg])=false:=(by kernel_rfl);exact Bool.noConfusion (e.symm.trans (congrArg List.isEmpty h))) (xO sc us pw hk hs hn hp port opq pn pl hq q hf fg bare sp rst bsc bus bpw bhk bhs bhn bhp bport bopq bpn bpl bhq bq bhf bfg)
end
section
def mA:cq:=bN []
def mB(sc us pw:Bs)(hk:Int)(hs:Bs)(hn:Int)(hp:List Int)(port:Int)(opq pn:Bool)(pl:List Bs)(hq:Bool)(q:Bs)(hf:Bool)(fg:Bs)(bare sp:Bool)(rst:Bs)(bsc bus bpw:Bs)(bhk:Int)(bhs:Bs)(bhn:Int)(bhp:List Int)(bport:Int)(bopq bpn:Bool)(bpl:List Bs)(bhq:Bool)(bq:Bs)(bhf:Bool)(bfg:Bs):aY:=fun i=>none
theorem oS:cS Tryz.prog ay mA:=ax
theorem rQ(sc us pw:Bs)(hk:Int)(hs:Bs)(hn:Int)(hp:List Int)(port:Int)(opq pn:Bool)(pl:List Bs)(hq:Bool)(q:Bs)(hf:Bool)(fg:Bs)(bare sp:Bool)(rst:Bs)(bsc bus bpw:Bs)(bhk:Int)(bhs:Bs)(bhn:Int)(bhp:List Int)(bport:Int)(bopq bpn:Bool)(bpl:List Bs)(bhq:Bool)(bq:Bs)(bhf:Bool)(bfg:Bs)(k:PV→List PV→Prop):bK Tryz.prog mA ay (mB sc us pw hk hs hn hp port opq pn pl hq q hf fg bare sp rst bsc bus bpw bhk bhs bhn bhp bport bopq bpn bpl bhq bq bhf bfg) 1000 Tryz.f120 [.ptr 0 0] [aC 1 (.ptr 1 0) sc us pw hk hs hn hp port opq pn pl hq q hf fg bare sp rst,bD 0 bsc bus bpw bhk bhs bhn bhp bport bopq bpn bpl bhq bq bhf bfg] k=(
 k (PV.tup []) [bT (PV.ptr (1:Nat) (0:Nat)) 1 sc us pw hk hs hn hp port opq pn pl bhq bq hf fg bare sp rst,bD (0:Nat) bsc bus bpw bhk bhs bhn bhp bport bopq bpn bpl bhq bq bhf bfg]):=by kernel_rfl
attribute [local irreducible] Go.Vc.cC Go.Vc.bK
theorem oT(sc us pw:Bs)(hk:Int)(hs:Bs)(hn:Int)(hp:List Int)(port:Int)(opq pn:Bool)(pl:List Bs)(hq:Bool)(q:Bs)(hf:Bool)(fg:Bs)(bare sp:Bool)(rst:Bs)(bsc bus bpw:Bs)(bhk:Int)(bhs:Bs)(bhn:Int)(bhp:List Int)(bport:Int)(bopq bpn:Bool)(bpl:List Bs)(bhq:Bool)(bq:Bs)(bhf:Bool)(bfg:Bs):bj Tryz.prog ay 120 [.ptr 0 0] [aC 1 (.ptr 1 0) sc us pw hk hs hn hp port opq pn pl hq q hf fg bare sp rst,bD 0 bsc bus bpw bhk bhs bhn bhp bport bopq bpn bpl bhq bq bhf bfg] (True) (.tup []) [aC 1 (.ptr 1 0) sc us pw hk hs hn hp port opq pn pl bhq bq hf fg bare sp rst,bD 0 bsc bus bpw bhk bhs bhn bhp bport bopq bpn bpl bhq bq bhf bfg]:=bt (by kernel_rfl) oS (H:=mB sc us pw hk hs hn hp port opq pn pl hq q hf fg bare sp rst bsc bus bpw bhk bhs bhn bhp bport bopq bpn bpl bhq bq bhf bfg) (fuel:=1000) Tryz.func120 (by kernel_rfl) (Nat.le_of_ble_eq_true rfl) fun hpre=>(rQ sc us pw hk hs hn hp port opq pn pl hq q hf fg bare sp rst bsc bus bpw bhk bhs bhn bhp bport bopq bpn bpl bhq bq bhf bfg _).mpr (by
 exact ⟨rfl,rfl⟩)
theorem rR(sc us pw:Bs)(hk:Int)(hs:Bs)(hn:Int)(hp:List Int)(port:Int)(opq pn:Bool)(pl:List Bs)(hq:Bool)(q:Bs)(hf:Bool)(fg:Bs)(bare sp:Bool)(rst:Bs)(bsc bus bpw:Bs)(bhk:Int)(bhs:Bs)(bhn:Int)(bhp:List Int)(bport:Int)(bopq bpn:Bool)(bpl:List Bs)(bhq:Bool)(bq:Bs)(bhf:Bool)(bfg:Bs):ag Tryz.prog ay 120 [.ptr 0 0,aC 1 (.ptr 1 0) sc us pw hk hs hn hp port opq pn pl hq q hf fg bare sp rst,bD 0 bsc bus bpw bhk bhs bhn bhp bport bopq bpn bpl bhq bq bhf bfg] ⟨True,.tup [.tup [],aC 1 (.ptr 1 0) sc us pw hk hs hn hp port opq pn pl bhq bq hf fg bare sp rst,bD 0 bsc bus bpw bhk bhs bhn bhp bport bopq bpn bpl bhq bq bhf bfg]⟩:=ag.aZ (fun h=>by have e:List.isEmpty (PV.aA PV.br [.ptr 0 0,aC 1 (.ptr 1 0) sc us pw hk hs hn hp port opq pn pl hq q hf fg bare sp rst,bD 0 bsc bus bpw bhk bhs bhn bhp bport bopq bpn bpl bhq bq bhf bfg])=false:=(by kernel_rfl);exact Bool.noConfusion (e.symm.trans (congrArg List.isEmpty h))) (oT sc us pw hk hs hn hp port opq pn pl hq q hf fg bare sp rst bsc bus bpw bhk bhs bhn bhp bport bopq bpn bpl bhq bq bhf bfg)
def gF:List PV→Option aI:=fun xs=>match xs with
 |[.ptr 0 0,aC 1 (.ptr 1 0) sc us pw hk hs hn hp port opq pn pl hq q hf fg bare sp rst,bD 0 bsc bus bpw bhk bhs bhn bhp bport bopq bpn bpl bhq bq bhf bfg]=>some ⟨True,.tup [.tup [],aC 1 (.ptr 1 0) sc us pw hk hs hn hp port opq pn pl bhq bq hf fg bare sp rst,bD 0 bsc bus bpw bhk bhs bhn bhp bport bopq bpn bpl bhq bq bhf bfg]⟩
 |_=>none
theorem mC:∀xs c,gF xs=some c→ag Tryz.prog ay 120 xs c:=fun xs c h=>by
 unfold gF at h
 split at h
 ·injection h with h;subst h;exact rR _ _ _ _ _ _ _ _ _ _ _ _ _ _ _ _ _ _ _ _ _ _ _ _ _ _ _ _ _ _ _ _ _
 ·cases h
end
section
def xP:cq:=bN [(120,gF),(89,jW)]
def xQ(sc us pw:Bs)(hk:Int)(hs:Bs)(hn:Int)(hp:List Int)(port:Int)(opq pn:Bool)(pl:List Bs)(hq:Bool)(q:Bs)(hf:Bool)(fg:Bs)(bare sp:Bool)(rst:Bs)(bsc bus bpw:Bs)(bhk:Int)(bhs:Bs)(bhn:Int)(bhp:List Int)(bport:Int)(bopq bpn:Bool)(bpl:List Bs)(bhq:Bool)(bq:Bs)(bhf:Bool)(bfg:Bs):aY:=fun i=>none
theorem xR:cS Tryz.prog ay xP:=ai mC (ai qW (ax))
theorem Dz(sc us pw:Bs)(hk:Int)(hs:Bs)(hn:Int)(hp:List Int)(port:Int)(opq pn:Bool)(pl:List Bs)(hq:Bool)(q:Bs)(hf:Bool)(fg:Bs)(bare sp:Bool)(rst:Bs)(bsc bus bpw:Bs)(bhk:Int)(bhs:Bs)(bhn:Int)(bhp:List Int)(bport:Int)(bopq bpn:Bool)(bpl:List Bs)(bhq:Bool)(bq:Bs)(bhf:Bool)(bfg:Bs)(k:PV→List PV→Prop):bK Tryz.prog xP ay (xQ sc us pw hk hs hn hp port opq pn pl hq q hf fg bare sp rst bsc bus bpw bhk bhs bhn bhp bport bopq bpn bpl bhq bq bhf bfg) 1000 Tryz.f86 [.ptr 0 0] [aC 1 (.ptr 1 0) sc us pw hk hs hn hp port opq pn pl hq q hf fg bare sp rst,bD 0 bsc bus bpw bhk bhs bhn bhp bport bopq bpn bpl bhq bq bhf bfg] k=(
 (decide (rst=(ByteArray.mk #[]).data.toList)=false→
 within (0:Int) (ak rst))∧
 ((bif decide (rst=(ByteArray.mk #[]).data.toList)then true else decide (al rst (0:Int)=(35:Int)))=true→
 True∧
 True∧
 k (PV.bool (bQ rst)) [bT (PV.ptr (1:Nat) (0:Nat)) 1 sc us pw hk hs hn hp port opq pn pl bhq bq hf fg bare sp rst,bD (0:Nat) bsc bus bpw bhk bhs bhn bhp bport bopq bpn bpl bhq bq bhf bfg])∧
 ((bif decide (rst=(ByteArray.mk #[]).data.toList)then true else decide (al rst (0:Int)=(35:Int)))=false→
 True∧
 k (PV.bool (bQ rst)) [bT (PV.ptr (1:Nat) (0:Nat)) 1 sc us pw hk hs hn hp port opq pn pl hq q hf fg bare sp rst,bD (0:Nat) bsc bus bpw bhk bhs bhn bhp bport bopq bpn bpl bhq bq bhf bfg])):=by kernel_rfl
attribute [local irreducible] Go.Vc.cC Go.Vc.bK
theorem xS(sc us pw:Bs)(hk:Int)(hs:Bs)(hn:Int)(hp:List Int)(port:Int)(opq pn:Bool)(pl:List Bs)(hq:Bool)(q:Bs)(hf:Bool)(fg:Bs)(bare sp:Bool)(rst:Bs)(bsc bus bpw:Bs)(bhk:Int)(bhs:Bs)(bhn:Int)(bhp:List Int)(bport:Int)(bopq bpn:Bool)(bpl:List Bs)(bhq:Bool)(bq:Bs)(bhf:Bool)(bfg:Bs):bj Tryz.prog ay 86 [.ptr 0 0] [aC 1 (.ptr 1 0) sc us pw hk hs hn hp port opq pn pl hq q hf fg bare sp rst,bD 0 bsc bus bpw bhk bhs bhn bhp bport bopq bpn bpl bhq bq bhf bfg] (True) (.bool (bQ rst)) [aC 1 (.ptr 1 0) sc us pw hk hs hn hp port opq pn pl (((RS.mk sc us pw hk hs hn hp port opq pn pl hq q hf fg bare sp rst).qB (RS.mk bsc bus bpw bhk bhs bhn bhp bport bopq bpn bpl bhq bq bhf bfg false false [])).hq) (((RS.mk sc us pw hk hs hn hp port opq pn pl hq q hf fg bare sp rst).qB (RS.mk bsc bus bpw bhk bhs bhn bhp bport bopq bpn bpl bhq bq bhf bfg false false [])).q) hf fg bare sp rst,bD 0 bsc bus bpw bhk bhs bhn bhp bport bopq bpn bpl bhq bq bhf bfg]:=bt (by kernel_rfl) xR (H:=xQ sc us pw hk hs hn hp port opq pn pl hq q hf fg bare sp rst bsc bus bpw bhk bhs bhn bhp bport bopq bpn bpl bhq bq bhf bfg) (fuel:=1000) Tryz.func86 (by kernel_rfl) (Nat.le_of_ble_eq_true rfl) fun hpre=>(Dz sc us pw hk hs hn hp port opq pn pl hq q hf fg bare sp rst bsc bus bpw bhk bhs bhn bhp bport bopq bpn bpl bhq bq bhf bfg _).mpr (by
 refine ⟨fun h=>?_,fun h=>⟨trivial,trivial,?_⟩,fun h=>⟨trivial,?_⟩⟩
 ·have:¬rst=[]:=of_decide_eq_false h
  have:0<rst.length:=List.length_pos_iff.2 this
  unfold within ak;omega
 ·have h2:tb rst=true:=by
   unfold tb
   cases e:decide (rst=(ByteArray.mk #[]).data.toList)with
   |true=>rfl
   |false=>rw [e]at h;exact h
  have e:(RS.mk sc us pw hk hs hn hp port opq pn pl hq q hf fg bare sp rst).qB (RS.mk bsc bus bpw bhk bhs bhn bhp bport bopq bpn bpl bhq bq bhf bfg false false [])=(RS.mk sc us pw hk hs hn hp port opq pn pl hq q hf fg bare sp rst).FL (RS.mk bsc bus bpw bhk bhs bhn bhp bport bopq bpn bpl bhq bq bhf bfg false false []):=if_pos h2
  rw [e];exact ⟨rfl,rfl⟩
 ·have h2:¬tb rst=true:=by
   unfold tb
   cases e:decide (rst=(ByteArray.mk #[]).data.toList)with
   |true=>rw [e]at h;cases h
   |false=>
    rw [e]at h
    intro g;exact Bool.noConfusion (g.symm.trans h)
  have e:(RS.mk sc us pw hk hs hn hp port opq pn pl hq q hf fg bare sp rst).qB (RS.mk bsc bus bpw bhk bhs bhn bhp bport bopq bpn bpl bhq bq bhf bfg false false [])=(RS.mk sc us pw hk hs hn hp port opq pn pl hq q hf fg bare sp rst):=if_neg h2
  rw [e];exact ⟨rfl,rfl⟩)
theorem DA(sc us pw:Bs)(hk:Int)(hs:Bs)(hn:Int)(hp:List Int)(port:Int)(opq pn:Bool)(pl:List Bs)(hq:Bool)(q:Bs)(hf:Bool)(fg:Bs)(bare sp:Bool)(rst:Bs)(bsc bus bpw:Bs)(bhk:Int)(bhs:Bs)(bhn:Int)(bhp:List Int)(bport:Int)(bopq bpn:Bool)(bpl:List Bs)(bhq:Bool)(bq:Bs)(bhf:Bool)(bfg:Bs):ag Tryz.prog ay 86 [.ptr 0 0,aC 1 (.ptr 1 0) sc us pw hk hs hn hp port opq pn pl hq q hf fg bare sp rst,bD 0 bsc bus bpw bhk bhs bhn bhp bport bopq bpn bpl bhq bq bhf bfg] ⟨True,.tup [.bool (bQ rst),aC 1 (.ptr 1 0) sc us pw hk hs hn hp port opq pn pl (((RS.mk sc us pw hk hs hn hp port opq pn pl hq q hf fg bare sp rst).qB (RS.mk bsc bus bpw bhk bhs bhn bhp bport bopq bpn bpl bhq bq bhf bfg false false [])).hq) (((RS.mk sc us pw hk hs hn hp port opq pn pl hq q hf fg bare sp rst).qB (RS.mk bsc bus bpw bhk bhs bhn bhp bport bopq bpn bpl bhq bq bhf bfg false false [])).q) hf fg bare sp rst,bD 0 bsc bus bpw bhk bhs bhn bhp bport bopq bpn bpl bhq bq bhf bfg]⟩:=ag.aZ (fun h=>by have e:List.isEmpty (PV.aA PV.br [.ptr 0 0,aC 1 (.ptr 1 0) sc us pw hk hs hn hp port opq pn pl hq q hf fg bare sp rst,bD 0 bsc bus bpw bhk bhs bhn bhp bport bopq bpn bpl bhq bq bhf bfg])=false:=(by kernel_rfl);exact Bool.noConfusion (e.symm.trans (congrArg List.isEmpty h))) (xS sc us pw hk hs hn hp port opq pn pl hq q hf fg bare sp rst bsc bus bpw bhk bhs bhn bhp bport bopq bpn bpl bhq bq bhf bfg)
end
section
attribute [local instance] Kn
theorem DC {x:RS}(b:RS)(h:bQ x.rst=false):x.qB b=x:=by
 refine if_neg fun g=>?_
 unfold bQ at h
 unfold tb at g
 rw [Bool.or_eq_false_iff,Bool.or_eq_false_iff]at h
 rw [h.1,h.2.2]at g;cases g
theorem Ad(sc us pw:Bs)(hk:Int)(hs:Bs)(hn:Int)(hp:List Int)(port:Int)(opq pn:Bool)(pl:List Bs)(hq:Bool)(q:Bs)(hf:Bool)(fg:Bs)(bare sp:Bool)(rst:Bs)(at_:Int)(bsc bus bpw:Bs)(bhk:Int)(bhs:Bs)(bhn:Int)(bhp:List Int)(bport:Int)(bopq bpn:Bool)(bpl:List Bs)(bhq:Bool)(bq:Bs)(bhf:Bool)(bfg:Bs):ag Tryz.prog ay 82 [.ptr 0 0,.int .i64 at_,aC 1 (.ptr 1 0) sc us pw hk hs hn hp port opq pn pl hq q hf fg bare sp rst,bD 0 bsc bus bpw bhk bhs bhn bhp bport bopq bpn bpl bhq bq bhf bfg] ⟨(0≤at_∧at_<1000)∧az sp rst at_=false,.tup [.bool false,aC 1 (.ptr 1 0) sc us pw hk hs hn hp port opq pn pl hq q hf fg bare sp rst,bD 0 bsc bus bpw bhk bhs bhn bhp bport bopq bpn bpl bhq bq bhf bfg]⟩:=
 ag.KX (Dv sc us pw hk hs hn hp port opq pn pl hq q hf fg bare sp rst at_ bsc bus bpw bhk bhs bhn bhp bport bopq bpn bpl bhq bq bhf bfg) (fun h=>by have e:List.isEmpty (PV.aA PV.br [.ptr 0 0,.int .i64 at_,aC 1 (.ptr 1 0) sc us pw hk hs hn hp port opq pn pl hq q hf fg bare sp rst,bD 0 bsc bus bpw bhk bhs bhn bhp bport bopq bpn bpl bhq bq bhf bfg])=false:=(by kernel_rfl);exact Bool.noConfusion (e.symm.trans (congrArg List.isEmpty h))) (fun h=>h.1) (fun h=>by rw [h.2])
def jX:List PV→Option aI:=fun xs=>match xs with
 |[.ptr 0 0,.int .i64 at_,aC 1 (.ptr 1 0) sc us pw hk hs hn hp port opq pn pl hq q hf fg bare sp rst,bD 0 bsc bus bpw bhk bhs bhn bhp bport bopq bpn bpl bhq bq bhf bfg]=>some ⟨(0≤at_∧at_<1000)∧az sp rst at_=false,.tup [.bool false,aC 1 (.ptr 1 0) sc us pw hk hs hn hp port opq pn pl hq q hf fg bare sp rst,bD 0 bsc bus bpw bhk bhs bhn bhp bport bopq bpn bpl bhq bq bhf bfg]⟩
 |_=>none
theorem qX:∀xs c,jX xs=some c→ag Tryz.prog ay 82 xs c:=fun xs c h=>by
 unfold jX at h
 split at h
 ·injection h with h;subst h;exact Ad _ _ _ _ _ _ _ _ _ _ _ _ _ _ _ _ _ _ _ _ _ _ _ _ _ _ _ _ _ _ _ _ _ _
 ·cases h
theorem qY(sc us pw:Bs)(hk:Int)(hs:Bs)(hn:Int)(hp:List Int)(port:Int)(opq pn:Bool)(pl:List Bs)(hq:Bool)(q:Bs)(hf:Bool)(fg:Bs)(bare sp:Bool)(rst:Bs)(bsc bus bpw:Bs)(bhk:Int)(bhs:Bs)(bhn:Int)(bhp:List Int)(bport:Int)(bopq bpn:Bool)(bpl:List Bs)(bhq:Bool)(bq:Bs)(bhf:Bool)(bfg:Bs):ag Tryz.prog ay 84 [.ptr 0 0,aC 1 (.ptr 1 0) sc us pw hk hs hn hp port opq pn pl hq q hf fg bare sp rst,bD 0 bsc bus bpw bhk bhs bhn bhp bport bopq bpn bpl bhq bq bhf bfg] ⟨az sp rst 0=false,.tup [.bool false,aC 1 (.ptr 1 0) sc us pw hk hs hn hp port opq pn pl hq q hf fg bare sp rst,bD 0 bsc bus bpw bhk bhs bhn bhp bport bopq bpn bpl bhq bq bhf bfg]⟩:=
 ag.KX (rO sc us pw hk hs hn hp port opq pn pl hq q hf fg bare sp rst bsc bus bpw bhk bhs bhn bhp bport bopq bpn bpl bhq bq bhf bfg) (fun h=>by have e:List.isEmpty (PV.aA PV.br [.ptr 0 0,aC 1 (.ptr 1 0) sc us pw hk hs hn hp port opq pn pl hq q hf fg bare sp rst,bD 0 bsc bus bpw bhk bhs bhn bhp bport bopq bpn bpl bhq bq bhf bfg])=false:=(by kernel_rfl);exact Bool.noConfusion (e.symm.trans (congrArg List.isEmpty h))) (fun h=>trivial) (fun h=>by rw [h];rfl)
def fY:List PV→Option aI:=fun xs=>match xs with
 |[.ptr 0 0,aC 1 (.ptr 1 0) sc us pw hk hs hn hp port opq pn pl hq q hf fg bare sp rst,bD 0 bsc bus bpw bhk bhs bhn bhp bport bopq bpn bpl bhq bq bhf bfg]=>some ⟨az sp rst 0=false,.tup [.bool false,aC 1 (.ptr 1 0) sc us pw hk hs hn hp port opq pn pl hq q hf fg bare sp rst,bD 0 bsc bus bpw bhk bhs bhn bhp bport bopq bpn bpl bhq bq bhf bfg]⟩
 |_=>none
theorem lv:∀xs c,fY xs=some c→ag Tryz.prog ay 84 xs c:=fun xs c h=>by
 unfold fY at h
 split at h
 ·injection h with h;subst h;exact qY _ _ _ _ _ _ _ _ _ _ _ _ _ _ _ _ _ _ _ _ _ _ _ _ _ _ _ _ _ _ _ _ _
 ·cases h
theorem Ae(sc us pw:Bs)(hk:Int)(hs:Bs)(hn:Int)(hp:List Int)(port:Int)(opq pn:Bool)(pl:List Bs)(hq:Bool)(q:Bs)(hf:Bool)(fg:Bs)(bare sp:Bool)(rst:Bs)(bsc bus bpw:Bs)(bhk:Int)(bhs:Bs)(bhn:Int)(bhp:List Int)(bport:Int)(bopq bpn:Bool)(bpl:List Bs)(bhq:Bool)(bq:Bs)(bhf:Bool)(bfg:Bs):ag Tryz.prog ay 77 [.ptr 0 0,aC 1 (.ptr 1 0) sc us pw hk hs hn hp port opq pn pl hq q hf fg bare sp rst,bD 0 bsc bus bpw bhk bhs bhn bhp bport bopq bpn bpl bhq bq bhf bfg] ⟨bsc=sc,.tup [.bool true,aC 1 (.ptr 1 0) sc us pw hk hs hn hp port opq pn pl hq q hf fg bare sp rst,bD 0 bsc bus bpw bhk bhs bhn bhp bport bopq bpn bpl bhq bq bhf bfg]⟩:=
 ag.KX (Dy sc us pw hk hs hn hp port opq pn pl hq q hf fg bare sp rst bsc bus bpw bhk bhs bhn bhp bport bopq bpn bpl bhq bq bhf bfg) (fun h=>by have e:List.isEmpty (PV.aA PV.br [.ptr 0 0,aC 1 (.ptr 1 0) sc us pw hk hs hn hp port opq pn pl hq q hf fg bare sp rst,bD 0 bsc bus bpw bhk bhs bhn bhp bport bopq bpn bpl bhq bq bhf bfg])=false:=(by kernel_rfl);exact Bool.noConfusion (e.symm.trans (congrArg List.isEmpty h))) (fun h=>trivial) (fun h=>by rw [decide_eq_true h])
def gS:List PV→Option aI:=fun xs=>match xs with
 |[.ptr 0 0,aC 1 (.ptr 1 0) sc us pw hk hs hn hp port opq pn pl hq q hf fg bare sp rst,bD 0 bsc bus bpw bhk bhs bhn bhp bport bopq bpn bpl bhq bq bhf bfg]=>some ⟨bsc=sc,.tup [.bool true,aC 1 (.ptr 1 0) sc us pw hk hs hn hp port opq pn pl hq q hf fg bare sp rst,bD 0 bsc bus bpw bhk bhs bhn bhp bport bopq bpn bpl bhq bq bhf bfg]⟩
 |_=>none
theorem jY:∀xs c,gS xs=some c→ag Tryz.prog ay 77 xs c:=fun xs c h=>by
 unfold gS at h
 split at h
 ·injection h with h;subst h;exact Ae _ _ _ _ _ _ _ _ _ _ _ _ _ _ _ _ _ _ _ _ _ _ _ _ _ _ _ _ _ _ _ _ _
 ·cases h
theorem DD(sc us pw:Bs)(hk:Int)(hs:Bs)(hn:Int)(hp:List Int)(port:Int)(opq pn:Bool)(pl:List Bs)(hq:Bool)(q:Bs)(hf:Bool)(fg:Bs)(bare sp:Bool)(rst:Bs)(bsc bus bpw:Bs)(bhk:Int)(bhs:Bs)(bhn:Int)(bhp:List Int)(bport:Int)(bopq bpn:Bool)(bpl:List Bs)(bhq:Bool)(bq:Bs)(bhf:Bool)(bfg:Bs):ag Tryz.prog ay 86 [.ptr 0 0,aC 1 (.ptr 1 0) sc us pw hk hs hn hp port opq pn pl hq q hf fg bare sp rst,bD 0 bsc bus bpw bhk bhs bhn bhp bport bopq bpn bpl bhq bq bhf bfg] ⟨bQ rst=false,.tup [.bool false,aC 1 (.ptr 1 0) sc us pw hk hs hn hp port opq pn pl hq q hf fg bare sp rst,bD 0 bsc bus bpw bhk bhs bhn bhp bport bopq bpn bpl bhq bq bhf bfg]⟩:=
 ag.KX (DA sc us pw hk hs hn hp port opq pn pl hq q hf fg bare sp rst bsc bus bpw bhk bhs bhn bhp bport bopq bpn bpl bhq bq bhf bfg) (fun h=>by have e:List.isEmpty (PV.aA PV.br [.ptr 0 0,aC 1 (.ptr 1 0) sc us pw hk hs hn hp port opq pn pl hq q hf fg bare sp rst,bD 0 bsc bus bpw bhk bhs bhn bhp bport bopq bpn bpl bhq bq bhf bfg])=false:=(by kernel_rfl);exact Bool.noConfusion (e.symm.trans (congrArg List.isEmpty h))) (fun h=>trivial) (fun h=>by rw [DC (x:=(RS.mk sc us pw hk hs hn hp port opq pn pl hq q hf fg bare sp rst)) (RS.mk bsc bus bpw bhk bhs bhn bhp bport bopq bpn bpl bhq bq bhf bfg false false []) h,h])
def lx:List PV→Option aI:=fun xs=>match xs with
 |[.ptr 0 0,aC 1 (.ptr 1 0) sc us pw hk hs hn hp port opq pn pl hq q hf fg bare sp rst,bD 0 bsc bus bpw bhk bhs bhn bhp bport bopq bpn bpl bhq bq bhf bfg]=>some ⟨bQ rst=false,.tup [.bool false,aC 1 (.ptr 1 0) sc us pw hk hs hn hp port opq pn pl hq q hf fg bare sp rst,bD 0 bsc bus bpw bhk bhs bhn bhp bport bopq bpn bpl bhq bq bhf bfg]⟩
 |_=>none
theorem rS:∀xs c,lx xs=some c→ag Tryz.prog ay 86 xs c:=fun xs c h=>by
 unfold lx at h
 split at h
 ·injection h with h;subst h;exact DD _ _ _ _ _ _ _ _ _ _ _ _ _ _ _ _ _ _ _ _ _ _ _ _ _ _ _ _ _ _ _ _ _
 ·cases h
end
section
def tw:cq:=bN [(156,uO),(87,ji)]
def tz(sc us pw:Bs)(hk:Int)(hs:Bs)(hn:Int)(hp:List Int)(port:Int)(opq pn:Bool)(pl:List Bs)(hq:Bool)(q:Bs)(hf:Bool)(fg:Bs)(bare sp:Bool)(rst:Bs)(bsc bus bpw:Bs)(bhk:Int)(bhs:Bs)(bhn:Int)(bhp:List Int)(bport:Int)(bopq bpn:Bool)(bpl:List Bs)(bhq:Bool)(bq:Bs)(bhf:Bool)(bfg:Bs):aY:=fun i=>none
theorem vk:cS Tryz.prog ay tw:=ai zL (ai oR (ax))
theorem Af(sc us pw:Bs)(hk:Int)(hs:Bs)(hn:Int)(hp:List Int)(port:Int)(opq pn:Bool)(pl:List Bs)(hq:Bool)(q:Bs)(hf:Bool)(fg:Bs)(bare sp:Bool)(rst:Bs)(bsc bus bpw:Bs)(bhk:Int)(bhs:Bs)(bhn:Int)(bhp:List Int)(bport:Int)(bopq bpn:Bool)(bpl:List Bs)(bhq:Bool)(bq:Bs)(bhf:Bool)(bfg:Bs)(k:PV→List PV→Prop):bK Tryz.prog tw ay (tz sc us pw hk hs hn hp port opq pn pl hq q hf fg bare sp rst bsc bus bpw bhk bhs bhn bhp bport bopq bpn bpl bhq bq bhf bfg) 1000 Tryz.f122 [.ptr 0 0] [aC 1 (.ptr 1 0) sc us pw hk hs hn hp port opq pn pl hq q hf fg bare sp rst,bD 0 bsc bus bpw bhk bhs bhn bhp bport bopq bpn bpl bhq bq bhf bfg] k=(
 (List.length rst).le (1000000:Nat)∧
 (bm rst=true→
 k (PV.tup []) [bT (PV.ptr (1:Nat) (0:Nat)) 0 sc us pw hk hs hn hp port opq true ([]) hq q hf fg bare sp rst,bD (0:Nat) bsc bus bpw bhk bhs bhn bhp bport bopq bpn bpl bhq bq bhf bfg])∧
 (bm rst=false→
 pl.length.le (1000000:Nat)∧
 k (PV.tup []) [bT (PV.ptr (1:Nat) (0:Nat)) 1 sc us pw hk hs hn hp port opq ((bZ sc (pn,pl)).1) ((bZ sc (pn,pl)).2) hq q hf fg bare sp rst,bD (0:Nat) bsc bus bpw bhk bhs bhn bhp bport bopq bpn bpl bhq bq bhf bfg])):=by kernel_rfl
attribute [local irreducible] Go.Vc.cC Go.Vc.bK
theorem vm(sc us pw:Bs)(hk:Int)(hs:Bs)(hn:Int)(hp:List Int)(port:Int)(opq pn:Bool)(pl:List Bs)(hq:Bool)(q:Bs)(hf:Bool)(fg:Bs)(bare sp:Bool)(rst:Bs)(bsc bus bpw:Bs)(bhk:Int)(bhs:Bs)(bhn:Int)(bhp:List Int)(bport:Int)(bopq bpn:Bool)(bpl:List Bs)(bhq:Bool)(bq:Bs)(bhf:Bool)(bfg:Bs):bj Tryz.prog ay 122 [.ptr 0 0] [aC 1 (.ptr 1 0) sc us pw hk hs hn hp port opq pn pl hq q hf fg bare sp rst,bD 0 bsc bus bpw bhk bhs bhn bhp bport bopq bpn bpl bhq bq bhf bfg] (rst.length≤300000∧pl.length≤1000000∧bm rst=false) (.tup []) [aC 1 (.ptr 1 0) sc us pw hk hs hn hp port opq (((RS.mk sc us pw hk hs hn hp port opq pn pl hq q hf fg bare sp rst).short).pn) (((RS.mk sc us pw hk hs hn hp port opq pn pl hq q hf fg bare sp rst).short).pl) hq q hf fg bare sp rst,bD 0 bsc bus bpw bhk bhs bhn bhp bport bopq bpn bpl bhq bq bhf bfg]:=bt (by kernel_rfl) vk (H:=tz sc us pw hk hs hn hp port opq pn pl hq q hf fg bare sp rst bsc bus bpw bhk bhs bhn bhp bport bopq bpn bpl bhq bq bhf bfg) (fuel:=1000) Tryz.func122 (by kernel_rfl) (Nat.le_of_ble_eq_true rfl) fun hpre=>(Af sc us pw hk hs hn hp port opq pn pl hq q hf fg bare sp rst bsc bus bpw bhk bhs bhn bhp bport bopq bpn bpl bhq bq bhf bfg _).mpr (by
 obtain ⟨h1,h2,h3⟩:=hpre
 exact ⟨show rst.length≤1000000 by omega,fun h=>absurd (h.symm.trans h3) nofun,fun _=>⟨h2,rfl,rfl⟩⟩)
theorem Ag(sc us pw:Bs)(hk:Int)(hs:Bs)(hn:Int)(hp:List Int)(port:Int)(opq pn:Bool)(pl:List Bs)(hq:Bool)(q:Bs)(hf:Bool)(fg:Bs)(bare sp:Bool)(rst:Bs)(bsc bus bpw:Bs)(bhk:Int)(bhs:Bs)(bhn:Int)(bhp:List Int)(bport:Int)(bopq bpn:Bool)(bpl:List Bs)(bhq:Bool)(bq:Bs)(bhf:Bool)(bfg:Bs):ag Tryz.prog ay 122 [.ptr 0 0,aC 1 (.ptr 1 0) sc us pw hk hs hn hp port opq pn pl hq q hf fg bare sp rst,bD 0 bsc bus bpw bhk bhs bhn bhp bport bopq bpn bpl bhq bq bhf bfg] ⟨rst.length≤300000∧pl.length≤1000000∧bm rst=false,.tup [.tup [],aC 1 (.ptr 1 0) sc us pw hk hs hn hp port opq (((RS.mk sc us pw hk hs hn hp port opq pn pl hq q hf fg bare sp rst).short).pn) (((RS.mk sc us pw hk hs hn hp port opq pn pl hq q hf fg bare sp rst).short).pl) hq q hf fg bare sp rst,bD 0 bsc bus bpw bhk bhs bhn bhp bport bopq bpn bpl bhq bq bhf bfg]⟩:=ag.aZ (fun h=>by have e:List.isEmpty (PV.aA PV.br [.ptr 0 0,aC 1 (.ptr 1 0) sc us pw hk hs hn hp port opq pn pl hq q hf fg bare sp rst,bD 0 bsc bus bpw bhk bhs bhn bhp bport bopq bpn bpl bhq bq bhf bfg])=false:=(by kernel_rfl);exact Bool.noConfusion (e.symm.trans (congrArg List.isEmpty h))) (vm sc us pw hk hs hn hp port opq pn pl hq q hf fg bare sp rst bsc bus bpw bhk bhs bhn bhp bport bopq bpn bpl bhq bq bhf bfg)
def jZ:List PV→Option aI:=fun xs=>match xs with
 |[.ptr 0 0,aC 1 (.ptr 1 0) sc us pw hk hs hn hp port opq pn pl hq q hf fg bare sp rst,bD 0 bsc bus bpw bhk bhs bhn bhp bport bopq bpn bpl bhq bq bhf bfg]=>some ⟨rst.length≤300000∧pl.length≤1000000∧bm rst=false,.tup [.tup [],aC 1 (.ptr 1 0) sc us pw hk hs hn hp port opq (((RS.mk sc us pw hk hs hn hp port opq pn pl hq q hf fg bare sp rst).short).pn) (((RS.mk sc us pw hk hs hn hp port opq pn pl hq q hf fg bare sp rst).short).pl) hq q hf fg bare sp rst,bD 0 bsc bus bpw bhk bhs bhn bhp bport bopq bpn bpl bhq bq bhf bfg]⟩
 |_=>none
theorem qZ:∀xs c,jZ xs=some c→ag Tryz.prog ay 122 xs c:=fun xs c h=>by
 unfold jZ at h
 split at h
 ·injection h with h;subst h;exact Ag _ _ _ _ _ _ _ _ _ _ _ _ _ _ _ _ _ _ _ _ _ _ _ _ _ _ _ _ _ _ _ _ _
 ·cases h
end
section
def tC:cq:=bN [(119,qA),(27,dN)]
def tD(sc us pw:Bs)(hk:Int)(hs:Bs)(hn:Int)(hp:List Int)(port:Int)(opq pn:Bool)(pl:List Bs)(hq:Bool)(q:Bs)(hf:Bool)(fg:Bs)(bare sp:Bool)(rst:Bs):aY:=fun i=>none
theorem vn:cS Tryz.prog ay tC:=ai xq (ai dO (ax))
theorem Ah(sc us pw:Bs)(hk:Int)(hs:Bs)(hn:Int)(hp:List Int)(port:Int)(opq pn:Bool)(pl:List Bs)(hq:Bool)(q:Bs)(hf:Bool)(fg:Bs)(bare sp:Bool)(rst:Bs)(k:PV→List PV→Prop):bK Tryz.prog tC ay (tD sc us pw hk hs hn hp port opq pn pl hq q hf fg bare sp rst) 1000 Tryz.f75 [.ptr 0 0] [aC 1 (.raw (.pointer none)) sc us pw hk hs hn hp port opq pn pl hq q hf fg bare sp rst] k=(
 (List.length rst≤(300000:Nat)∧
 (ab rst rst (0:Nat)).2.2=true)∧
 (true=true→
 True∧
 ((!true)=true→
 False)∧
 ((!true)=true→
 False)∧
 ((!true)=true→
 False)∧
 (false=true→
 False)∧
 (false=false→
 k (PV.int .i64 (0:Int)) [bT (PV.raw (Go.Value.pointer none)) 1 ((ab rst rst (0:Nat)).1) us pw hk hs hn hp port opq pn pl hq q hf fg (!true) (aw (ab rst rst (0:Nat)).1) ((ab rst rst (0:Nat)).2.1)]))∧
 (true=false→
 (true=true→
 (true=true→
 k (PV.int .i64 (8:Int)) [bT (PV.raw (Go.Value.pointer none)) 1 sc us pw hk hs hn hp port opq pn pl hq q hf fg bare sp rst])∧
 (true=false→
 False))∧
 (true=false→
 False))):=by kernel_rfl
attribute [local irreducible] Go.Vc.cC Go.Vc.bK
theorem vo(sc us pw:Bs)(hk:Int)(hs:Bs)(hn:Int)(hp:List Int)(port:Int)(opq pn:Bool)(pl:List Bs)(hq:Bool)(q:Bs)(hf:Bool)(fg:Bs)(bare sp:Bool)(rst:Bs):bj Tryz.prog ay 75 [.ptr 0 0] [aC 1 (.raw (.pointer none)) sc us pw hk hs hn hp port opq pn pl hq q hf fg bare sp rst] (rst.length≤300000∧(ab rst rst 0).2.2=true) (.int .i64 0) [aC 1 (.raw (.pointer none)) ((ab rst rst 0).1) us pw hk hs hn hp port opq pn pl hq q hf fg false (aw (ab rst rst 0).1) ((ab rst rst 0).2.1)]:=bt (by kernel_rfl) vn (H:=tD sc us pw hk hs hn hp port opq pn pl hq q hf fg bare sp rst) (fuel:=1000) Tryz.func75 (by kernel_rfl) (Nat.le_of_ble_eq_true rfl) fun hpre=>(Ah sc us pw hk hs hn hp port opq pn pl hq q hf fg bare sp rst _).mpr (by
 exact ⟨hpre,fun _=>⟨trivial,fun h=>(by cases h),fun h=>(by cases h),fun h=>(by cases h),fun h=>(by cases h),fun _=>⟨rfl,rfl⟩⟩,fun h=>(by cases h)⟩)
theorem Ai(sc us pw:Bs)(hk:Int)(hs:Bs)(hn:Int)(hp:List Int)(port:Int)(opq pn:Bool)(pl:List Bs)(hq:Bool)(q:Bs)(hf:Bool)(fg:Bs)(bare sp:Bool)(rst:Bs):ag Tryz.prog ay 75 [.ptr 0 0,aC 1 (.raw (.pointer none)) sc us pw hk hs hn hp port opq pn pl hq q hf fg bare sp rst] ⟨rst.length≤300000∧(ab rst rst 0).2.2=true,.tup [.int .i64 0,aC 1 (.raw (.pointer none)) ((ab rst rst 0).1) us pw hk hs hn hp port opq pn pl hq q hf fg false (aw (ab rst rst 0).1) ((ab rst rst 0).2.1)]⟩:=ag.aZ (fun h=>by have e:List.isEmpty (PV.aA PV.br [.ptr 0 0,aC 1 (.raw (.pointer none)) sc us pw hk hs hn hp port opq pn pl hq q hf fg bare sp rst])=false:=(by kernel_rfl);exact Bool.noConfusion (e.symm.trans (congrArg List.isEmpty h))) (vo sc us pw hk hs hn hp port opq pn pl hq q hf fg bare sp rst)
def j0:List PV→Option aI:=fun xs=>match xs with
 |[.ptr 0 0,aC 1 (.raw (.pointer none)) sc us pw hk hs hn hp port opq pn pl hq q hf fg bare sp rst]=>some ⟨rst.length≤300000∧(ab rst rst 0).2.2=true,.tup [.int .i64 0,aC 1 (.raw (.pointer none)) ((ab rst rst 0).1) us pw hk hs hn hp port opq pn pl hq q hf fg false (aw (ab rst rst 0).1) ((ab rst rst 0).2.1)]⟩
 |_=>none
theorem ra:∀xs c,j0 xs=some c→ag Tryz.prog ay 75 xs c:=fun xs c h=>by
 unfold j0 at h
 split at h
 ·injection h with h;subst h;exact Ai _ _ _ _ _ _ _ _ _ _ _ _ _ _ _ _ _ _
 ·cases h
end
section
def BI:cq:=bN []
def BJ(sc us pw:Bs)(hk:Int)(hs:Bs)(hn:Int)(hp:List Int)(port:Int)(opq pn:Bool)(pl:List Bs)(hq:Bool)(q:Bs)(hf:Bool)(fg:Bs)(bare sp:Bool)(rst:Bs):aY:=fun i=>none
theorem Aj:cS Tryz.prog ay BI:=ax
theorem Gp(sc us pw:Bs)(hk:Int)(hs:Bs)(hn:Int)(hp:List Int)(port:Int)(opq pn:Bool)(pl:List Bs)(hq:Bool)(q:Bs)(hf:Bool)(fg:Bs)(bare sp:Bool)(rst:Bs)(k:PV→List PV→Prop):bK Tryz.prog BI ay (BJ sc us pw hk hs hn hp port opq pn pl hq q hf fg bare sp rst) 1000 Tryz.f77 [.ptr 0 0] [aC 1 (.raw (.pointer none)) sc us pw hk hs hn hp port opq pn pl hq q hf fg bare sp rst] k=(
 (false=true→
 False)∧
 (false=true→
 False)∧
 (false=true→
 False)∧
 (false=true→
 False)∧
 k (PV.bool false) [bT (PV.raw (Go.Value.pointer none)) 1 sc us pw hk hs hn hp port opq pn pl hq q hf fg bare sp rst]):=by kernel_rfl
attribute [local irreducible] Go.Vc.cC Go.Vc.bK
theorem Ak(sc us pw:Bs)(hk:Int)(hs:Bs)(hn:Int)(hp:List Int)(port:Int)(opq pn:Bool)(pl:List Bs)(hq:Bool)(q:Bs)(hf:Bool)(fg:Bs)(bare sp:Bool)(rst:Bs):bj Tryz.prog ay 77 [.ptr 0 0] [aC 1 (.raw (.pointer none)) sc us pw hk hs hn hp port opq pn pl hq q hf fg bare sp rst] (True) (.bool false) [aC 1 (.raw (.pointer none)) sc us pw hk hs hn hp port opq pn pl hq q hf fg bare sp rst]:=bt (by kernel_rfl) Aj (H:=BJ sc us pw hk hs hn hp port opq pn pl hq q hf fg bare sp rst) (fuel:=1000) Tryz.func77 (by kernel_rfl) (Nat.le_of_ble_eq_true rfl) fun hpre=>(Gp sc us pw hk hs hn hp port opq pn pl hq q hf fg bare sp rst _).mpr (by
 exact ⟨nofun,nofun,nofun,nofun,rfl,rfl⟩)
theorem Gq(sc us pw:Bs)(hk:Int)(hs:Bs)(hn:Int)(hp:List Int)(port:Int)(opq pn:Bool)(pl:List Bs)(hq:Bool)(q:Bs)(hf:Bool)(fg:Bs)(bare sp:Bool)(rst:Bs):ag Tryz.prog ay 77 [.ptr 0 0,aC 1 (.raw (.pointer none)) sc us pw hk hs hn hp port opq pn pl hq q hf fg bare sp rst] ⟨True,.tup [.bool false,aC 1 (.raw (.pointer none)) sc us pw hk hs hn hp port opq pn pl hq q hf fg bare sp rst]⟩:=ag.aZ (fun h=>by have e:List.isEmpty (PV.aA PV.br [.ptr 0 0,aC 1 (.raw (.pointer none)) sc us pw hk hs hn hp port opq pn pl hq q hf fg bare sp rst])=false:=(by kernel_rfl);exact Bool.noConfusion (e.symm.trans (congrArg List.isEmpty h))) (Ak sc us pw hk hs hn hp port opq pn pl hq q hf fg bare sp rst)
def gu:List PV→Option aI:=fun xs=>match xs with
 |[.ptr 0 0,aC 1 (.raw (.pointer none)) sc us pw hk hs hn hp port opq pn pl hq q hf fg bare sp rst]=>some ⟨True,.tup [.bool false,aC 1 (.raw (.pointer none)) sc us pw hk hs hn hp port opq pn pl hq q hf fg bare sp rst]⟩
 |_=>none
theorem gm:∀xs c,gu xs=some c→ag Tryz.prog ay 77 xs c:=fun xs c h=>by
 unfold gu at h
 split at h
 ·injection h with h;subst h;exact Gq _ _ _ _ _ _ _ _ _ _ _ _ _ _ _ _ _ _
 ·cases h
end
section
def mD:cq:=bN [(77,gu)]
def mE(sc us pw:Bs)(hk:Int)(hs:Bs)(hn:Int)(hp:List Int)(port:Int)(opq pn:Bool)(pl:List Bs)(hq:Bool)(q:Bs)(hf:Bool)(fg:Bs)(bare sp:Bool)(rst:Bs):aY:=fun i=>none
theorem oU:cS Tryz.prog ay mD:=ai gm (ax)
theorem rT(sc us pw:Bs)(hk:Int)(hs:Bs)(hn:Int)(hp:List Int)(port:Int)(opq pn:Bool)(pl:List Bs)(hq:Bool)(q:Bs)(hf:Bool)(fg:Bs)(bare sp:Bool)(rst:Bs)(k:PV→List PV→Prop):bK Tryz.prog mD ay (mE sc us pw hk hs hn hp port opq pn pl hq q hf fg bare sp rst) 1000 Tryz.f121 [.ptr 0 0] [aC 1 (.raw (.pointer none)) sc us pw hk hs hn hp port opq pn pl hq q hf fg bare sp rst] k=(
 True∧
 ((!false)=true→
 k (PV.tup []) [bT (PV.raw (Go.Value.pointer none)) 1 sc us pw hk hs hn hp port opq pn pl hq q hf fg bare sp rst])∧
 ((!false)=false→
 False)):=by kernel_rfl
attribute [local irreducible] Go.Vc.cC Go.Vc.bK
theorem oV(sc us pw:Bs)(hk:Int)(hs:Bs)(hn:Int)(hp:List Int)(port:Int)(opq pn:Bool)(pl:List Bs)(hq:Bool)(q:Bs)(hf:Bool)(fg:Bs)(bare sp:Bool)(rst:Bs):bj Tryz.prog ay 121 [.ptr 0 0] [aC 1 (.raw (.pointer none)) sc us pw hk hs hn hp port opq pn pl hq q hf fg bare sp rst] (True) (.tup []) [aC 1 (.raw (.pointer none)) sc us pw hk hs hn hp port opq pn pl hq q hf fg bare sp rst]:=bt (by kernel_rfl) oU (H:=mE sc us pw hk hs hn hp port opq pn pl hq q hf fg bare sp rst) (fuel:=1000) Tryz.func121 (by kernel_rfl) (Nat.le_of_ble_eq_true rfl) fun hpre=>(rT sc us pw hk hs hn hp port opq pn pl hq q hf fg bare sp rst _).mpr (by
 exact ⟨trivial,fun _=>⟨rfl,rfl⟩,fun h=>(by cases h)⟩)
theorem rU(sc us pw:Bs)(hk:Int)(hs:Bs)(hn:Int)(hp:List Int)(port:Int)(opq pn:Bool)(pl:List Bs)(hq:Bool)(q:Bs)(hf:Bool)(fg:Bs)(bare sp:Bool)(rst:Bs):ag Tryz.prog ay 121 [.ptr 0 0,aC 1 (.raw (.pointer none)) sc us pw hk hs hn hp port opq pn pl hq q hf fg bare sp rst] ⟨True,.tup [.tup [],aC 1 (.raw (.pointer none)) sc us pw hk hs hn hp port opq pn pl hq q hf fg bare sp rst]⟩:=ag.aZ (fun h=>by have e:List.isEmpty (PV.aA PV.br [.ptr 0 0,aC 1 (.raw (.pointer none)) sc us pw hk hs hn hp port opq pn pl hq q hf fg bare sp rst])=false:=(by kernel_rfl);exact Bool.noConfusion (e.symm.trans (congrArg List.isEmpty h))) (oV sc us pw hk hs hn hp port opq pn pl hq q hf fg bare sp rst)
def gG:List PV→Option aI:=fun xs=>match xs with
 |[.ptr 0 0,aC 1 (.raw (.pointer none)) sc us pw hk hs hn hp port opq pn pl hq q hf fg bare sp rst]=>some ⟨True,.tup [.tup [],aC 1 (.raw (.pointer none)) sc us pw hk hs hn hp port opq pn pl hq q hf fg bare sp rst]⟩
 |_=>none
theorem mF:∀xs c,gG xs=some c→ag Tryz.prog ay 121 xs c:=fun xs c h=>by
 unfold gG at h
 split at h
 ·injection h with h;subst h;exact rU _ _ _ _ _ _ _ _ _ _ _ _ _ _ _ _ _ _
 ·cases h
end
section
theorem eu(r:RS):r.av.1={r with hk:=r.av.1.hk,hs:=r.av.1.hs,hn:=r.av.1.hn,hp:=r.av.1.hp,rst:=aa r.rst (ah r.sp r.rst)}:=by
 unfold RS.av
 dsimp only
 split
 ·rfl
 ·split<;>rfl
theorem mG(sp:Bool)(l:Bs):List.length (if az sp l (0:Int)=true then aa l (1:Int)else l)≤l.length:=by
 split
 ·exact cO l 1
 ·exact Nat.le_refl _
def BK:cq:=bN [(82,gr),(84,fw),(121,gG),(77,gu),(124,fP),(123,mv),(125,jg),(90,my)]
def BL(sc us pw:Bs)(hk:Int)(hs:Bs)(hn:Int)(hp:List Int)(port:Int)(opq pn:Bool)(pl:List Bs)(hq:Bool)(q:Bs)(hf:Bool)(fg:Bs)(bare sp:Bool)(rst:Bs):aY:=fun i=>none
theorem Al:cS Tryz.prog ay BK:=ai gj (ai iI (ai mF (ai gm (ai gD (ai lp (ai oP (ai oD (ax))))))))
theorem Gr(sc us pw:Bs)(hk:Int)(hs:Bs)(hn:Int)(hp:List Int)(port:Int)(opq pn:Bool)(pl:List Bs)(hq:Bool)(q:Bs)(hf:Bool)(fg:Bs)(bare sp:Bool)(rst:Bs)(k:PV→List PV→Prop):bK Tryz.prog BK ay (BL sc us pw hk hs hn hp port opq pn pl hq q hf fg bare sp rst) 1000 Tryz.f76 [.ptr 0 0] [aC 1 (.raw (.pointer none)) sc us pw hk hs hn hp port opq pn pl hq q hf fg bare sp rst] k=(
 ((0:Int)≤(0:Int)∧
 (0:Int)<(1000:Int))∧
 (az sp rst (0:Int)=true→
 ((0:Int)≤(1:Int)∧
 (1:Int)<(1000:Int))∧
 (az sp rst (1:Int)=true→
 upto (2:Int) (ak rst) (ak rst)∧
 ((aa rst (2:Int)).length.le (300000:Nat)∧
 upto (0:Int) (↑(ah sp (aa rst (2:Int)))) (ak (aa rst (2:Int)))∧
 True∧
 (bL (ae (aa rst (2:Int)) ↑(ah sp (aa rst (2:Int))))=true→
 ((aa rst (2:Int)).length≤(300000:Nat)∧
 pl.length≤(100000:Nat))∧
 k (PV.int .i64 (0:Int)) [bT (PV.raw (Go.Value.pointer none)) 1 sc us pw (1:Int) hs hn hp port opq ((bo sp sc (ae (aa rst (2:Int)) ↑(aE (aa rst (2:Int)))) (pn,pl)).1) ((bo sp sc (ae (aa rst (2:Int)) ↑(aE (aa rst (2:Int)))) (pn,pl)).2) hq q hf fg bare sp (aa (aa rst (2:Int)) ↑(aE (aa rst (2:Int))))])∧
 (bL (ae (aa rst (2:Int)) ↑(ah sp (aa rst (2:Int))))=false→
 (aa rst (2:Int)).length.le (300000:Nat)∧
 ((!decide ((RS.mk sc us pw (1:Int) hs hn hp port opq pn pl hq q hf fg bare sp (aa rst (2:Int))).av.2=(0:Int)))=true→
 k (PV.int .i64 (RS.mk sc us pw (1:Int) hs hn hp port opq pn pl hq q hf fg bare sp (aa rst (2:Int))).av.2) [bT (PV.raw (Go.Value.pointer none)) 1 sc us pw ((RS.mk sc us pw (1:Int) hs hn hp port opq pn pl hq q hf fg bare sp (aa rst (2:Int))).av.1.hk) ((RS.mk sc us pw (1:Int) hs hn hp port opq pn pl hq q hf fg bare sp (aa rst (2:Int))).av.1.hs) ((RS.mk sc us pw (1:Int) hs hn hp port opq pn pl hq q hf fg bare sp (aa rst (2:Int))).av.1.hn) ((RS.mk sc us pw (1:Int) hs hn hp port opq pn pl hq q hf fg bare sp (aa rst (2:Int))).av.1.hp) port opq pn pl hq q hf fg bare sp (aa (aa rst (2:Int)) ↑(ah sp (aa rst (2:Int))))])∧
 ((!decide ((RS.mk sc us pw (1:Int) hs hn hp port opq pn pl hq q hf fg bare sp (aa rst (2:Int))).av.2=(0:Int)))=false→
 True∧
 (List.length (if az sp (aa (aa rst (2:Int)) ↑(ah sp (aa rst (2:Int)))) (0:Int)=true then aa (aa (aa rst (2:Int)) ↑(ah sp (aa rst (2:Int)))) (1:Int)else aa (aa rst (2:Int)) ↑(ah sp (aa rst (2:Int))))≤(300000:Nat)∧
 pl.length≤(100000:Nat))∧
 k (PV.int .i64 (0:Int)) [bT (PV.raw (Go.Value.pointer none)) 1 sc us pw ((RS.mk sc us pw (1:Int) hs hn hp port opq pn pl hq q hf fg bare sp (aa rst (2:Int))).av.1.hk) ((RS.mk sc us pw (1:Int) hs hn hp port opq pn pl hq q hf fg bare sp (aa rst (2:Int))).av.1.hs) ((RS.mk sc us pw (1:Int) hs hn hp port opq pn pl hq q hf fg bare sp (aa rst (2:Int))).av.1.hn) ((RS.mk sc us pw (1:Int) hs hn hp port opq pn pl hq q hf fg bare sp (aa rst (2:Int))).av.1.hp) port opq ((bo sp sc (ae (if az sp (aa (aa rst (2:Int)) ↑(ah sp (aa rst (2:Int)))) (0:Int)=true then aa (aa (aa rst (2:Int)) ↑(ah sp (aa rst (2:Int)))) (1:Int)else aa (aa rst (2:Int)) ↑(ah sp (aa rst (2:Int)))) ↑(aE (if az sp (aa (aa rst (2:Int)) ↑(ah sp (aa rst (2:Int)))) (0:Int)=true then aa (aa (aa rst (2:Int)) ↑(ah sp (aa rst (2:Int)))) (1:Int)else aa (aa rst (2:Int)) ↑(ah sp (aa rst (2:Int)))))) (pn,pl)).1) ((bo sp sc (ae (if az sp (aa (aa rst (2:Int)) ↑(ah sp (aa rst (2:Int)))) (0:Int)=true then aa (aa (aa rst (2:Int)) ↑(ah sp (aa rst (2:Int)))) (1:Int)else aa (aa rst (2:Int)) ↑(ah sp (aa rst (2:Int)))) ↑(aE (if az sp (aa (aa rst (2:Int)) ↑(ah sp (aa rst (2:Int)))) (0:Int)=true then aa (aa (aa rst (2:Int)) ↑(ah sp (aa rst (2:Int)))) (1:Int)else aa (aa rst (2:Int)) ↑(ah sp (aa rst (2:Int)))))) (pn,pl)).2) hq q hf fg bare sp (aa (if az sp (aa (aa rst (2:Int)) ↑(ah sp (aa rst (2:Int)))) (0:Int)=true then aa (aa (aa rst (2:Int)) ↑(ah sp (aa rst (2:Int)))) (1:Int)else aa (aa rst (2:Int)) ↑(ah sp (aa rst (2:Int)))) ↑(aE (if az sp (aa (aa rst (2:Int)) ↑(ah sp (aa rst (2:Int)))) (0:Int)=true then aa (aa (aa rst (2:Int)) ↑(ah sp (aa rst (2:Int)))) (1:Int)else aa (aa rst (2:Int)) ↑(ah sp (aa rst (2:Int))))))])))∧
 (aa rst (2:Int)).length.le (300000:Nat)∧
 upto (0:Int) (↑(ah sp (aa rst (2:Int)))) (ak (aa rst (2:Int)))∧
 True∧
 (bL (ae (aa rst (2:Int)) ↑(ah sp (aa rst (2:Int))))=true→
 ((aa rst (2:Int)).length≤(300000:Nat)∧
 pl.length≤(100000:Nat))∧
 k (PV.int .i64 (0:Int)) [bT (PV.raw (Go.Value.pointer none)) 1 sc us pw (1:Int) hs hn hp port opq ((bo sp sc (ae (aa rst (2:Int)) ↑(aE (aa rst (2:Int)))) (pn,pl)).1) ((bo sp sc (ae (aa rst (2:Int)) ↑(aE (aa rst (2:Int)))) (pn,pl)).2) hq q hf fg bare sp (aa (aa rst (2:Int)) ↑(aE (aa rst (2:Int))))])∧
 (bL (ae (aa rst (2:Int)) ↑(ah sp (aa rst (2:Int))))=false→
 (aa rst (2:Int)).length.le (300000:Nat)∧
 ((!decide ((RS.mk sc us pw (1:Int) hs hn hp port opq pn pl hq q hf fg bare sp (aa rst (2:Int))).av.2=(0:Int)))=true→
 k (PV.int .i64 (RS.mk sc us pw (1:Int) hs hn hp port opq pn pl hq q hf fg bare sp (aa rst (2:Int))).av.2) [bT (PV.raw (Go.Value.pointer none)) 1 sc us pw ((RS.mk sc us pw (1:Int) hs hn hp port opq pn pl hq q hf fg bare sp (aa rst (2:Int))).av.1.hk) ((RS.mk sc us pw (1:Int) hs hn hp port opq pn pl hq q hf fg bare sp (aa rst (2:Int))).av.1.hs) ((RS.mk sc us pw (1:Int) hs hn hp port opq pn pl hq q hf fg bare sp (aa rst (2:Int))).av.1.hn) ((RS.mk sc us pw (1:Int) hs hn hp port opq pn pl hq q hf fg bare sp (aa rst (2:Int))).av.1.hp) port opq pn pl hq q hf fg bare sp (aa (aa rst (2:Int)) ↑(ah sp (aa rst (2:Int))))])∧
 ((!decide ((RS.mk sc us pw (1:Int) hs hn hp port opq pn pl hq q hf fg bare sp (aa rst (2:Int))).av.2=(0:Int)))=false→
 True∧
 (List.length (if az sp (aa (aa rst (2:Int)) ↑(ah sp (aa rst (2:Int)))) (0:Int)=true then aa (aa (aa rst (2:Int)) ↑(ah sp (aa rst (2:Int)))) (1:Int)else aa (aa rst (2:Int)) ↑(ah sp (aa rst (2:Int))))≤(300000:Nat)∧
 pl.length≤(100000:Nat))∧
 k (PV.int .i64 (0:Int)) [bT (PV.raw (Go.Value.pointer none)) 1 sc us pw ((RS.mk sc us pw (1:Int) hs hn hp port opq pn pl hq q hf fg bare sp (aa rst (2:Int))).av.1.hk) ((RS.mk sc us pw (1:Int) hs hn hp port opq pn pl hq q hf fg bare sp (aa rst (2:Int))).av.1.hs) ((RS.mk sc us pw (1:Int) hs hn hp port opq pn pl hq q hf fg bare sp (aa rst (2:Int))).av.1.hn) ((RS.mk sc us pw (1:Int) hs hn hp port opq pn pl hq q hf fg bare sp (aa rst (2:Int))).av.1.hp) port opq ((bo sp sc (ae (if az sp (aa (aa rst (2:Int)) ↑(ah sp (aa rst (2:Int)))) (0:Int)=true then aa (aa (aa rst (2:Int)) ↑(ah sp (aa rst (2:Int)))) (1:Int)else aa (aa rst (2:Int)) ↑(ah sp (aa rst (2:Int)))) ↑(aE (if az sp (aa (aa rst (2:Int)) ↑(ah sp (aa rst (2:Int)))) (0:Int)=true then aa (aa (aa rst (2:Int)) ↑(ah sp (aa rst (2:Int)))) (1:Int)else aa (aa rst (2:Int)) ↑(ah sp (aa rst (2:Int)))))) (pn,pl)).1) ((bo sp sc (ae (if az sp (aa (aa rst (2:Int)) ↑(ah sp (aa rst (2:Int)))) (0:Int)=true then aa (aa (aa rst (2:Int)) ↑(ah sp (aa rst (2:Int)))) (1:Int)else aa (aa rst (2:Int)) ↑(ah sp (aa rst (2:Int)))) ↑(aE (if az sp (aa (aa rst (2:Int)) ↑(ah sp (aa rst (2:Int)))) (0:Int)=true then aa (aa (aa rst (2:Int)) ↑(ah sp (aa rst (2:Int)))) (1:Int)else aa (aa rst (2:Int)) ↑(ah sp (aa rst (2:Int)))))) (pn,pl)).2) hq q hf fg bare sp (aa (if az sp (aa (aa rst (2:Int)) ↑(ah sp (aa rst (2:Int)))) (0:Int)=true then aa (aa (aa rst (2:Int)) ↑(ah sp (aa rst (2:Int)))) (1:Int)else aa (aa rst (2:Int)) ↑(ah sp (aa rst (2:Int)))) ↑(aE (if az sp (aa (aa rst (2:Int)) ↑(ah sp (aa rst (2:Int)))) (0:Int)=true then aa (aa (aa rst (2:Int)) ↑(ah sp (aa rst (2:Int)))) (1:Int)else aa (aa rst (2:Int)) ↑(ah sp (aa rst (2:Int))))))])))∧
 (az sp rst (1:Int)=false→
 True∧
 (az sp rst (0:Int)=true→
 True∧
 (List.length (if az sp rst (0:Int)=true then aa rst (1:Int)else rst)≤(300000:Nat)∧
 pl.length≤(100000:Nat))∧
 k (PV.int .i64 (0:Int)) [bT (PV.raw (Go.Value.pointer none)) 1 sc us pw (1:Int) hs hn hp port opq ((bo sp sc (ae (if az sp rst (0:Int)=true then aa rst (1:Int)else rst) ↑(aE (if az sp rst (0:Int)=true then aa rst (1:Int)else rst))) (pn,pl)).1) ((bo sp sc (ae (if az sp rst (0:Int)=true then aa rst (1:Int)else rst) ↑(aE (if az sp rst (0:Int)=true then aa rst (1:Int)else rst))) (pn,pl)).2) hq q hf fg bare sp (aa (if az sp rst (0:Int)=true then aa rst (1:Int)else rst) ↑(aE (if az sp rst (0:Int)=true then aa rst (1:Int)else rst)))])∧
 (az sp rst (0:Int)=false→
 True∧
 ((!false)=true→
 (List.length (if az sp rst (0:Int)=true then aa rst (1:Int)else rst)≤(300000:Nat)∧
 pl.length≤(100000:Nat))∧
 k (PV.int .i64 (0:Int)) [bT (PV.raw (Go.Value.pointer none)) 1 sc us pw (1:Int) hs hn hp port opq ((bo sp sc (ae (if az sp rst (0:Int)=true then aa rst (1:Int)else rst) ↑(aE (if az sp rst (0:Int)=true then aa rst (1:Int)else rst))) (pn,pl)).1) ((bo sp sc (ae (if az sp rst (0:Int)=true then aa rst (1:Int)else rst) ↑(aE (if az sp rst (0:Int)=true then aa rst (1:Int)else rst))) (pn,pl)).2) hq q hf fg bare sp (aa (if az sp rst (0:Int)=true then aa rst (1:Int)else rst) ↑(aE (if az sp rst (0:Int)=true then aa rst (1:Int)else rst)))])∧
 ((!false)=false→
 False))))∧
 (az sp rst (0:Int)=!true→
 (false=true→
 upto (2:Int) (ak rst) (ak rst)∧
 ((aa rst (2:Int)).length.le (300000:Nat)∧
 upto (0:Int) (↑(ah sp (aa rst (2:Int)))) (ak (aa rst (2:Int)))∧
 True∧
 (bL (ae (aa rst (2:Int)) ↑(ah sp (aa rst (2:Int))))=true→
 ((aa rst (2:Int)).length≤(300000:Nat)∧
 pl.length≤(100000:Nat))∧
 k (PV.int .i64 (0:Int)) [bT (PV.raw (Go.Value.pointer none)) 1 sc us pw (1:Int) hs hn hp port opq ((bo sp sc (ae (aa rst (2:Int)) ↑(aE (aa rst (2:Int)))) (pn,pl)).1) ((bo sp sc (ae (aa rst (2:Int)) ↑(aE (aa rst (2:Int)))) (pn,pl)).2) hq q hf fg bare sp (aa (aa rst (2:Int)) ↑(aE (aa rst (2:Int))))])∧
 (bL (ae (aa rst (2:Int)) ↑(ah sp (aa rst (2:Int))))=false→
 (aa rst (2:Int)).length.le (300000:Nat)∧
 ((!decide ((RS.mk sc us pw (1:Int) hs hn hp port opq pn pl hq q hf fg bare sp (aa rst (2:Int))).av.2=(0:Int)))=true→
 k (PV.int .i64 (RS.mk sc us pw (1:Int) hs hn hp port opq pn pl hq q hf fg bare sp (aa rst (2:Int))).av.2) [bT (PV.raw (Go.Value.pointer none)) 1 sc us pw ((RS.mk sc us pw (1:Int) hs hn hp port opq pn pl hq q hf fg bare sp (aa rst (2:Int))).av.1.hk) ((RS.mk sc us pw (1:Int) hs hn hp port opq pn pl hq q hf fg bare sp (aa rst (2:Int))).av.1.hs) ((RS.mk sc us pw (1:Int) hs hn hp port opq pn pl hq q hf fg bare sp (aa rst (2:Int))).av.1.hn) ((RS.mk sc us pw (1:Int) hs hn hp port opq pn pl hq q hf fg bare sp (aa rst (2:Int))).av.1.hp) port opq pn pl hq q hf fg bare sp (aa (aa rst (2:Int)) ↑(ah sp (aa rst (2:Int))))])∧
 ((!decide ((RS.mk sc us pw (1:Int) hs hn hp port opq pn pl hq q hf fg bare sp (aa rst (2:Int))).av.2=(0:Int)))=false→
 True∧
 (List.length (if az sp (aa (aa rst (2:Int)) ↑(ah sp (aa rst (2:Int)))) (0:Int)=true then aa (aa (aa rst (2:Int)) ↑(ah sp (aa rst (2:Int)))) (1:Int)else aa (aa rst (2:Int)) ↑(ah sp (aa rst (2:Int))))≤(300000:Nat)∧
 pl.length≤(100000:Nat))∧
 k (PV.int .i64 (0:Int)) [bT (PV.raw (Go.Value.pointer none)) 1 sc us pw ((RS.mk sc us pw (1:Int) hs hn hp port opq pn pl hq q hf fg bare sp (aa rst (2:Int))).av.1.hk) ((RS.mk sc us pw (1:Int) hs hn hp port opq pn pl hq q hf fg bare sp (aa rst (2:Int))).av.1.hs) ((RS.mk sc us pw (1:Int) hs hn hp port opq pn pl hq q hf fg bare sp (aa rst (2:Int))).av.1.hn) ((RS.mk sc us pw (1:Int) hs hn hp port opq pn pl hq q hf fg bare sp (aa rst (2:Int))).av.1.hp) port opq ((bo sp sc (ae (if az sp (aa (aa rst (2:Int)) ↑(ah sp (aa rst (2:Int)))) (0:Int)=true then aa (aa (aa rst (2:Int)) ↑(ah sp (aa rst (2:Int)))) (1:Int)else aa (aa rst (2:Int)) ↑(ah sp (aa rst (2:Int)))) ↑(aE (if az sp (aa (aa rst (2:Int)) ↑(ah sp (aa rst (2:Int)))) (0:Int)=true then aa (aa (aa rst (2:Int)) ↑(ah sp (aa rst (2:Int)))) (1:Int)else aa (aa rst (2:Int)) ↑(ah sp (aa rst (2:Int)))))) (pn,pl)).1) ((bo sp sc (ae (if az sp (aa (aa rst (2:Int)) ↑(ah sp (aa rst (2:Int)))) (0:Int)=true then aa (aa (aa rst (2:Int)) ↑(ah sp (aa rst (2:Int)))) (1:Int)else aa (aa rst (2:Int)) ↑(ah sp (aa rst (2:Int)))) ↑(aE (if az sp (aa (aa rst (2:Int)) ↑(ah sp (aa rst (2:Int)))) (0:Int)=true then aa (aa (aa rst (2:Int)) ↑(ah sp (aa rst (2:Int)))) (1:Int)else aa (aa rst (2:Int)) ↑(ah sp (aa rst (2:Int)))))) (pn,pl)).2) hq q hf fg bare sp (aa (if az sp (aa (aa rst (2:Int)) ↑(ah sp (aa rst (2:Int)))) (0:Int)=true then aa (aa (aa rst (2:Int)) ↑(ah sp (aa rst (2:Int)))) (1:Int)else aa (aa rst (2:Int)) ↑(ah sp (aa rst (2:Int)))) ↑(aE (if az sp (aa (aa rst (2:Int)) ↑(ah sp (aa rst (2:Int)))) (0:Int)=true then aa (aa (aa rst (2:Int)) ↑(ah sp (aa rst (2:Int)))) (1:Int)else aa (aa rst (2:Int)) ↑(ah sp (aa rst (2:Int))))))])))∧
 (aa rst (2:Int)).length.le (300000:Nat)∧
 upto (0:Int) (↑(ah sp (aa rst (2:Int)))) (ak (aa rst (2:Int)))∧
 True∧
 (bL (ae (aa rst (2:Int)) ↑(ah sp (aa rst (2:Int))))=true→
 ((aa rst (2:Int)).length≤(300000:Nat)∧
 pl.length≤(100000:Nat))∧
 k (PV.int .i64 (0:Int)) [bT (PV.raw (Go.Value.pointer none)) 1 sc us pw (1:Int) hs hn hp port opq ((bo sp sc (ae (aa rst (2:Int)) ↑(aE (aa rst (2:Int)))) (pn,pl)).1) ((bo sp sc (ae (aa rst (2:Int)) ↑(aE (aa rst (2:Int)))) (pn,pl)).2) hq q hf fg bare sp (aa (aa rst (2:Int)) ↑(aE (aa rst (2:Int))))])∧
 (bL (ae (aa rst (2:Int)) ↑(ah sp (aa rst (2:Int))))=false→
 (aa rst (2:Int)).length.le (300000:Nat)∧
 ((!decide ((RS.mk sc us pw (1:Int) hs hn hp port opq pn pl hq q hf fg bare sp (aa rst (2:Int))).av.2=(0:Int)))=true→
 k (PV.int .i64 (RS.mk sc us pw (1:Int) hs hn hp port opq pn pl hq q hf fg bare sp (aa rst (2:Int))).av.2) [bT (PV.raw (Go.Value.pointer none)) 1 sc us pw ((RS.mk sc us pw (1:Int) hs hn hp port opq pn pl hq q hf fg bare sp (aa rst (2:Int))).av.1.hk) ((RS.mk sc us pw (1:Int) hs hn hp port opq pn pl hq q hf fg bare sp (aa rst (2:Int))).av.1.hs) ((RS.mk sc us pw (1:Int) hs hn hp port opq pn pl hq q hf fg bare sp (aa rst (2:Int))).av.1.hn) ((RS.mk sc us pw (1:Int) hs hn hp port opq pn pl hq q hf fg bare sp (aa rst (2:Int))).av.1.hp) port opq pn pl hq q hf fg bare sp (aa (aa rst (2:Int)) ↑(ah sp (aa rst (2:Int))))])∧
 ((!decide ((RS.mk sc us pw (1:Int) hs hn hp port opq pn pl hq q hf fg bare sp (aa rst (2:Int))).av.2=(0:Int)))=false→
 True∧
 (List.length (if az sp (aa (aa rst (2:Int)) ↑(ah sp (aa rst (2:Int)))) (0:Int)=true then aa (aa (aa rst (2:Int)) ↑(ah sp (aa rst (2:Int)))) (1:Int)else aa (aa rst (2:Int)) ↑(ah sp (aa rst (2:Int))))≤(300000:Nat)∧
 pl.length≤(100000:Nat))∧
 k (PV.int .i64 (0:Int)) [bT (PV.raw (Go.Value.pointer none)) 1 sc us pw ((RS.mk sc us pw (1:Int) hs hn hp port opq pn pl hq q hf fg bare sp (aa rst (2:Int))).av.1.hk) ((RS.mk sc us pw (1:Int) hs hn hp port opq pn pl hq q hf fg bare sp (aa rst (2:Int))).av.1.hs) ((RS.mk sc us pw (1:Int) hs hn hp port opq pn pl hq q hf fg bare sp (aa rst (2:Int))).av.1.hn) ((RS.mk sc us pw (1:Int) hs hn hp port opq pn pl hq q hf fg bare sp (aa rst (2:Int))).av.1.hp) port opq ((bo sp sc (ae (if az sp (aa (aa rst (2:Int)) ↑(ah sp (aa rst (2:Int)))) (0:Int)=true then aa (aa (aa rst (2:Int)) ↑(ah sp (aa rst (2:Int)))) (1:Int)else aa (aa rst (2:Int)) ↑(ah sp (aa rst (2:Int)))) ↑(aE (if az sp (aa (aa rst (2:Int)) ↑(ah sp (aa rst (2:Int)))) (0:Int)=true then aa (aa (aa rst (2:Int)) ↑(ah sp (aa rst (2:Int)))) (1:Int)else aa (aa rst (2:Int)) ↑(ah sp (aa rst (2:Int)))))) (pn,pl)).1) ((bo sp sc (ae (if az sp (aa (aa rst (2:Int)) ↑(ah sp (aa rst (2:Int)))) (0:Int)=true then aa (aa (aa rst (2:Int)) ↑(ah sp (aa rst (2:Int)))) (1:Int)else aa (aa rst (2:Int)) ↑(ah sp (aa rst (2:Int)))) ↑(aE (if az sp (aa (aa rst (2:Int)) ↑(ah sp (aa rst (2:Int)))) (0:Int)=true then aa (aa (aa rst (2:Int)) ↑(ah sp (aa rst (2:Int)))) (1:Int)else aa (aa rst (2:Int)) ↑(ah sp (aa rst (2:Int)))))) (pn,pl)).2) hq q hf fg bare sp (aa (if az sp (aa (aa rst (2:Int)) ↑(ah sp (aa rst (2:Int)))) (0:Int)=true then aa (aa (aa rst (2:Int)) ↑(ah sp (aa rst (2:Int)))) (1:Int)else aa (aa rst (2:Int)) ↑(ah sp (aa rst (2:Int)))) ↑(aE (if az sp (aa (aa rst (2:Int)) ↑(ah sp (aa rst (2:Int)))) (0:Int)=true then aa (aa (aa rst (2:Int)) ↑(ah sp (aa rst (2:Int)))) (1:Int)else aa (aa rst (2:Int)) ↑(ah sp (aa rst (2:Int))))))])))∧
 (false=false→
 True∧
 (az sp rst (0:Int)=true→
 True∧
 (List.length (if az sp rst (0:Int)=true then aa rst (1:Int)else rst)≤(300000:Nat)∧
 pl.length≤(100000:Nat))∧
 k (PV.int .i64 (0:Int)) [bT (PV.raw (Go.Value.pointer none)) 1 sc us pw (1:Int) hs hn hp port opq ((bo sp sc (ae (if az sp rst (0:Int)=true then aa rst (1:Int)else rst) ↑(aE (if az sp rst (0:Int)=true then aa rst (1:Int)else rst))) (pn,pl)).1) ((bo sp sc (ae (if az sp rst (0:Int)=true then aa rst (1:Int)else rst) ↑(aE (if az sp rst (0:Int)=true then aa rst (1:Int)else rst))) (pn,pl)).2) hq q hf fg bare sp (aa (if az sp rst (0:Int)=true then aa rst (1:Int)else rst) ↑(aE (if az sp rst (0:Int)=true then aa rst (1:Int)else rst)))])∧
 (az sp rst (0:Int)=false→
 True∧
 ((!false)=true→
 (List.length (if az sp rst (0:Int)=true then aa rst (1:Int)else rst)≤(300000:Nat)∧
 pl.length≤(100000:Nat))∧
 k (PV.int .i64 (0:Int)) [bT (PV.raw (Go.Value.pointer none)) 1 sc us pw (1:Int) hs hn hp port opq ((bo sp sc (ae (if az sp rst (0:Int)=true then aa rst (1:Int)else rst) ↑(aE (if az sp rst (0:Int)=true then aa rst (1:Int)else rst))) (pn,pl)).1) ((bo sp sc (ae (if az sp rst (0:Int)=true then aa rst (1:Int)else rst) ↑(aE (if az sp rst (0:Int)=true then aa rst (1:Int)else rst))) (pn,pl)).2) hq q hf fg bare sp (aa (if az sp rst (0:Int)=true then aa rst (1:Int)else rst) ↑(aE (if az sp rst (0:Int)=true then aa rst (1:Int)else rst)))])∧
 ((!false)=false→
 False))))):=by kernel_rfl
attribute [local irreducible] Go.Vc.cC Go.Vc.bK
theorem Am(sc us pw:Bs)(hk:Int)(hs:Bs)(hn:Int)(hp:List Int)(port:Int)(opq pn:Bool)(pl:List Bs)(hq:Bool)(q:Bs)(hf:Bool)(fg:Bs)(bare sp:Bool)(rst:Bs):bj Tryz.prog ay 76 [.ptr 0 0] [aC 1 (.raw (.pointer none)) sc us pw hk hs hn hp port opq pn pl hq q hf fg bare sp rst] (rst.length≤300000∧pl.length≤100000) (.int .i64 (RS.mk sc us pw hk hs hn hp port opq pn pl hq q hf fg bare sp rst).bb.2) [aC 1 (.raw (.pointer none)) sc us pw ((RS.mk sc us pw hk hs hn hp port opq pn pl hq q hf fg bare sp rst).bb.1.hk) ((RS.mk sc us pw hk hs hn hp port opq pn pl hq q hf fg bare sp rst).bb.1.hs) ((RS.mk sc us pw hk hs hn hp port opq pn pl hq q hf fg bare sp rst).bb.1.hn) ((RS.mk sc us pw hk hs hn hp port opq pn pl hq q hf fg bare sp rst).bb.1.hp) port opq ((RS.mk sc us pw hk hs hn hp port opq pn pl hq q hf fg bare sp rst).bb.1.pn) ((RS.mk sc us pw hk hs hn hp port opq pn pl hq q hf fg bare sp rst).bb.1.pl) hq q hf fg bare sp ((RS.mk sc us pw hk hs hn hp port opq pn pl hq q hf fg bare sp rst).bb.1.rst)]:=bt (by kernel_rfl) Al (H:=BL sc us pw hk hs hn hp port opq pn pl hq q hf fg bare sp rst) (fuel:=1000) Tryz.func76 (by kernel_rfl) (Nat.le_of_ble_eq_true rfl) fun hpre=>(Gr sc us pw hk hs hn hp port opq pn pl hq q hf fg bare sp rst _).mpr (by
 obtain ⟨hp1,hp2⟩:=hpre
 have hl2:=cO rst 2
 have hs1:=mG sp rst
 have hB:∀k:PV→List PV→Prop,¬(az sp rst 0=true∧az sp rst 1=true)→(RS.mk sc us pw hk hs hn hp port opq pn pl hq q hf fg bare sp rst).bb=(({(RS.mk sc us pw hk hs hn hp port opq pn pl hq q hf fg bare sp rst)with hk:=1}:RS).shl.path,0):=fun _ h=>by
  unfold RS.bb
  dsimp only
  rw [if_neg h]
 refine ⟨⟨by omega,by omega⟩,fun h0=>⟨⟨by omega,by omega⟩,fun h1=>?_,fun h1=>?_⟩,fun h0=>⟨fun h=>(by cases h),fun _=>?_⟩⟩
 ·have hsl:=uN h1
  refine ⟨⟨by omega,by unfold ak at *;omega,Int.le_refl _⟩,(fun a=>⟨a,a⟩) ?_⟩
  have he:=fv (aa rst 2) (eO sp++[63,35])
  have he2:ah sp (aa rst 2)≤(aa rst 2).length:=he
  have e0:(RS.mk sc us pw hk hs hn hp port opq pn pl hq q hf fg bare sp rst).bb=(if bL (ae (aa rst 2) (ah sp (aa rst 2)))=true then((RS.mk sc us pw 1 hs hn hp port opq pn pl hq q hf fg bare sp (aa rst 2)).path,0)else if(RS.mk sc us pw 1 hs hn hp port opq pn pl hq q hf fg bare sp (aa rst 2)).av.2=0 then((RS.mk sc us pw 1 hs hn hp port opq pn pl hq q hf fg bare sp (aa rst 2)).av.1.shl.path,0)else(RS.mk sc us pw 1 hs hn hp port opq pn pl hq q hf fg bare sp (aa rst 2)).av):=by
   unfold RS.bb
   dsimp only
   rw [if_pos ⟨h0,h1⟩]
   rfl
  refine ⟨show(aa rst 2).length≤300000 by omega,⟨Int.le_refl _,by omega,by unfold ak;omega⟩,trivial,fun h2=>⟨⟨by omega,hp2⟩,?_⟩,fun h2=>⟨show(aa rst 2).length≤300000 by omega,fun h3=>?_,fun h3=>⟨trivial,⟨Nat.le_trans (mG sp _) (Nat.le_trans (cO _ _) (by omega)),hp2⟩,?_⟩⟩⟩
  ·rw [e0,if_pos h2];exact ⟨rfl,rfl⟩
  ·have h4:¬(RS.mk sc us pw 1 hs hn hp port opq pn pl hq q hf fg bare sp (aa rst 2)).av.2=0:=by simpa using h3
   have er:=eu (RS.mk sc us pw 1 hs hn hp port opq pn pl hq q hf fg bare sp (aa rst 2))
   rw [e0,if_neg (by rw [h2];decide),if_neg h4]
   have e1:(RS.mk sc us pw 1 hs hn hp port opq pn pl hq q hf fg bare sp (aa rst 2)).av.1.pn=pn:=by rw [er]
   have e2:(RS.mk sc us pw 1 hs hn hp port opq pn pl hq q hf fg bare sp (aa rst 2)).av.1.pl=pl:=by rw [er]
   have e3:(RS.mk sc us pw 1 hs hn hp port opq pn pl hq q hf fg bare sp (aa rst 2)).av.1.rst=aa (aa rst 2) (ah sp (aa rst 2)):=by rw [er]
   rw [e1,e2,e3];exact ⟨rfl,rfl⟩
  ·have h4:(RS.mk sc us pw 1 hs hn hp port opq pn pl hq q hf fg bare sp (aa rst 2)).av.2=0:=by simpa using h3
   have er:=eu (RS.mk sc us pw 1 hs hn hp port opq pn pl hq q hf fg bare sp (aa rst 2))
   have gen:∀G:RS,G={(RS.mk sc us pw 1 hs hn hp port opq pn pl hq q hf fg bare sp (aa rst 2))with hk:=G.hk,hs:=G.hs,hn:=G.hn,hp:=G.hp,rst:=aa (aa rst 2) (ah sp (aa rst 2))}→G.shl=RS.mk sc us pw G.hk G.hs G.hn G.hp port opq pn pl hq q hf fg bare sp (if az sp (aa (aa rst 2) (ah sp (aa rst 2))) 0=true then aa (aa (aa rst 2) (ah sp (aa rst 2))) 1 else aa (aa rst 2) (ah sp (aa rst 2))):=fun G e=>by rw [e];rfl
   rw [e0,if_neg (by rw [h2];decide),if_pos h4,gen _ er]
   exact ⟨rfl,rfl⟩
 ·rw [hB (fun _ _=>True) (by rw [h1];simp)]
  exact ⟨trivial,fun _=>⟨trivial,⟨by omega,hp2⟩,rfl,rfl⟩,fun _=>⟨trivial,fun _=>⟨⟨by omega,hp2⟩,rfl,rfl⟩,fun h=>(by cases h)⟩⟩
 ·rw [hB (fun _ _=>True) (by rw [show az sp rst 0=false from h0];simp)]
  exact ⟨trivial,fun _=>⟨trivial,⟨by omega,hp2⟩,rfl,rfl⟩,fun _=>⟨trivial,fun _=>⟨⟨by omega,hp2⟩,rfl,rfl⟩,fun h=>(by cases h)⟩⟩)
theorem Gs(sc us pw:Bs)(hk:Int)(hs:Bs)(hn:Int)(hp:List Int)(port:Int)(opq pn:Bool)(pl:List Bs)(hq:Bool)(q:Bs)(hf:Bool)(fg:Bs)(bare sp:Bool)(rst:Bs):ag Tryz.prog ay 76 [.ptr 0 0,aC 1 (.raw (.pointer none)) sc us pw hk hs hn hp port opq pn pl hq q hf fg bare sp rst] ⟨rst.length≤300000∧pl.length≤100000,.tup [.int .i64 (RS.mk sc us pw hk hs hn hp port opq pn pl hq q hf fg bare sp rst).bb.2,aC 1 (.raw (.pointer none)) sc us pw ((RS.mk sc us pw hk hs hn hp port opq pn pl hq q hf fg bare sp rst).bb.1.hk) ((RS.mk sc us pw hk hs hn hp port opq pn pl hq q hf fg bare sp rst).bb.1.hs) ((RS.mk sc us pw hk hs hn hp port opq pn pl hq q hf fg bare sp rst).bb.1.hn) ((RS.mk sc us pw hk hs hn hp port opq pn pl hq q hf fg bare sp rst).bb.1.hp) port opq ((RS.mk sc us pw hk hs hn hp port opq pn pl hq q hf fg bare sp rst).bb.1.pn) ((RS.mk sc us pw hk hs hn hp port opq pn pl hq q hf fg bare sp rst).bb.1.pl) hq q hf fg bare sp ((RS.mk sc us pw hk hs hn hp port opq pn pl hq q hf fg bare sp rst).bb.1.rst)]⟩:=ag.aZ (fun h=>by have e:List.isEmpty (PV.aA PV.br [.ptr 0 0,aC 1 (.raw (.pointer none)) sc us pw hk hs hn hp port opq pn pl hq q hf fg bare sp rst])=false:=(by kernel_rfl);exact Bool.noConfusion (e.symm.trans (congrArg List.isEmpty h))) (Am sc us pw hk hs hn hp port opq pn pl hq q hf fg bare sp rst)
def nM:List PV→Option aI:=fun xs=>match xs with
 |[.ptr 0 0,aC 1 (.raw (.pointer none)) sc us pw hk hs hn hp port opq pn pl hq q hf fg bare sp rst]=>some ⟨rst.length≤300000∧pl.length≤100000,.tup [.int .i64 (RS.mk sc us pw hk hs hn hp port opq pn pl hq q hf fg bare sp rst).bb.2,aC 1 (.raw (.pointer none)) sc us pw ((RS.mk sc us pw hk hs hn hp port opq pn pl hq q hf fg bare sp rst).bb.1.hk) ((RS.mk sc us pw hk hs hn hp port opq pn pl hq q hf fg bare sp rst).bb.1.hs) ((RS.mk sc us pw hk hs hn hp port opq pn pl hq q hf fg bare sp rst).bb.1.hn) ((RS.mk sc us pw hk hs hn hp port opq pn pl hq q hf fg bare sp rst).bb.1.hp) port opq ((RS.mk sc us pw hk hs hn hp port opq pn pl hq q hf fg bare sp rst).bb.1.pn) ((RS.mk sc us pw hk hs hn hp port opq pn pl hq q hf fg bare sp rst).bb.1.pl) hq q hf fg bare sp ((RS.mk sc us pw hk hs hn hp port opq pn pl hq q hf fg bare sp rst).bb.1.rst)]⟩
 |_=>none
theorem vp:∀xs c,nM xs=some c→ag Tryz.prog ay 76 xs c:=fun xs c h=>by
 unfold nM at h
 split at h
 ·injection h with h;subst h;exact Gs _ _ _ _ _ _ _ _ _ _ _ _ _ _ _ _ _ _
 ·cases h
end
section
def tE:cq:=bN [(119,mo),(27,dN)]
def tF(sc us pw:Bs)(hk:Int)(hs:Bs)(hn:Int)(hp:List Int)(port:Int)(opq pn:Bool)(pl:List Bs)(hq:Bool)(q:Bs)(hf:Bool)(fg:Bs)(bare sp:Bool)(rst:Bs):aY:=fun i=>none
theorem vq:cS Tryz.prog ay tE:=ai ow (ai dO (ax))
theorem An(sc us pw:Bs)(hk:Int)(hs:Bs)(hn:Int)(hp:List Int)(port:Int)(opq pn:Bool)(pl:List Bs)(hq:Bool)(q:Bs)(hf:Bool)(fg:Bs)(bare sp:Bool)(rst:Bs)(k:PV→List PV→Prop):bK Tryz.prog tE ay (tF sc us pw hk hs hn hp port opq pn pl hq q hf fg bare sp rst) 1000 Tryz.f75 [.ptr 0 0] [aC 1 (.raw (.pointer none)) sc us pw hk hs hn hp port opq pn pl hq q hf fg bare sp rst] k=(
 (List.length rst≤(300000:Nat)∧
 (ab rst rst (0:Nat)).2.2=false)∧
 (false=true→
 True∧
 ((!false)=true→
 False)∧
 ((!false)=true→
 False)∧
 ((!false)=true→
 False)∧
 False)∧
 (false=false→
 (true=true→
 (true=true→
 k (PV.int .i64 (8:Int)) [bT (PV.raw (Go.Value.pointer none)) 1 sc us pw hk hs hn hp port opq pn pl hq q hf fg bare sp rst])∧
 (true=false→
 False))∧
 (true=false→
 False))):=by kernel_rfl
attribute [local irreducible] Go.Vc.cC Go.Vc.bK
theorem vr(sc us pw:Bs)(hk:Int)(hs:Bs)(hn:Int)(hp:List Int)(port:Int)(opq pn:Bool)(pl:List Bs)(hq:Bool)(q:Bs)(hf:Bool)(fg:Bs)(bare sp:Bool)(rst:Bs):bj Tryz.prog ay 75 [.ptr 0 0] [aC 1 (.raw (.pointer none)) sc us pw hk hs hn hp port opq pn pl hq q hf fg bare sp rst] (rst.length≤300000∧(ab rst rst 0).2.2=false) (.int .i64 8) [aC 1 (.raw (.pointer none)) sc us pw hk hs hn hp port opq pn pl hq q hf fg bare sp rst]:=bt (by kernel_rfl) vq (H:=tF sc us pw hk hs hn hp port opq pn pl hq q hf fg bare sp rst) (fuel:=1000) Tryz.func75 (by kernel_rfl) (Nat.le_of_ble_eq_true rfl) fun hpre=>(An sc us pw hk hs hn hp port opq pn pl hq q hf fg bare sp rst _).mpr (by
 exact ⟨hpre,fun h=>(by cases h),fun _=>⟨fun _=>⟨fun _=>⟨rfl,rfl⟩,fun h=>(by cases h)⟩,fun h=>(by cases h)⟩⟩)
theorem Ao(sc us pw:Bs)(hk:Int)(hs:Bs)(hn:Int)(hp:List Int)(port:Int)(opq pn:Bool)(pl:List Bs)(hq:Bool)(q:Bs)(hf:Bool)(fg:Bs)(bare sp:Bool)(rst:Bs):ag Tryz.prog ay 75 [.ptr 0 0,aC 1 (.raw (.pointer none)) sc us pw hk hs hn hp port opq pn pl hq q hf fg bare sp rst] ⟨rst.length≤300000∧(ab rst rst 0).2.2=false,.tup [.int .i64 8,aC 1 (.raw (.pointer none)) sc us pw hk hs hn hp port opq pn pl hq q hf fg bare sp rst]⟩:=ag.aZ (fun h=>by have e:List.isEmpty (PV.aA PV.br [.ptr 0 0,aC 1 (.raw (.pointer none)) sc us pw hk hs hn hp port opq pn pl hq q hf fg bare sp rst])=false:=(by kernel_rfl);exact Bool.noConfusion (e.symm.trans (congrArg List.isEmpty h))) (vr sc us pw hk hs hn hp port opq pn pl hq q hf fg bare sp rst)
def j3:List PV→Option aI:=fun xs=>match xs with
 |[.ptr 0 0,aC 1 (.raw (.pointer none)) sc us pw hk hs hn hp port opq pn pl hq q hf fg bare sp rst]=>some ⟨rst.length≤300000∧(ab rst rst 0).2.2=false,.tup [.int .i64 8,aC 1 (.raw (.pointer none)) sc us pw hk hs hn hp port opq pn pl hq q hf fg bare sp rst]⟩
 |_=>none
theorem rb:∀xs c,j3 xs=some c→ag Tryz.prog ay 75 xs c:=fun xs c h=>by
 unfold j3 at h
 split at h
 ·injection h with h;subst h;exact Ao _ _ _ _ _ _ _ _ _ _ _ _ _ _ _ _ _ _
 ·cases h
end
section
def xT:cq:=bN [(75,j3),(77,gu),(78,cY)]
def xU(sc us pw:Bs)(hk:Int)(hs:Bs)(hn:Int)(hp:List Int)(port:Int)(pn:Bool)(pl:List Bs)(hq:Bool)(q:Bs)(hf:Bool)(fg:Bs)(bare sp:Bool)(rst:Bs):aY:=fun i=>none
theorem xV:cS Tryz.prog ay xT:=ai rb (ai gm (ai cG (ax)))
theorem DE(sc us pw:Bs)(hk:Int)(hs:Bs)(hn:Int)(hp:List Int)(port:Int)(pn:Bool)(pl:List Bs)(hq:Bool)(q:Bs)(hf:Bool)(fg:Bs)(bare sp:Bool)(rst:Bs)(k:PV→List PV→Prop):bK Tryz.prog xT ay (xU sc us pw hk hs hn hp port pn pl hq q hf fg bare sp rst) 1000 Tryz.f47 [.ptr 0 0] [aC 1 (.raw (.pointer none)) sc us pw hk hs hn hp port false pn pl hq q hf fg bare sp rst] k=(
 (List.length rst≤(300000:Nat)∧
 (ab rst rst (0:Nat)).2.2=false)∧
 ((!decide ((8:Int)=(0:Int)))=true→
 k (PV.int .i64 (8:Int)) [bT (PV.raw (Go.Value.pointer none)) 1 sc us pw hk hs hn hp port false pn pl hq q hf fg bare sp rst])∧
 ((!decide ((8:Int)=(0:Int)))=false→
 (false=true→
 False)∧
 (false=false→
 (decide (sc=(ByteArray.mk #[102,105,108,101]).data.toList)=true→
 False)∧
 (decide (sc=(ByteArray.mk #[102,105,108,101]).data.toList)=false→
 (bare=false→
 (sp=true→
 True∧
 (false=false→
 false=true→
 True)∧
 (false=true→
 False)∧
 (false=false→
 (sp=true→
 False)∧
 (sp=false→
 False)))∧
 (sp=!true→
 (false=false→
 false=true→
 True)∧
 (false=true→
 False)∧
 (false=false→
 (sp=true→
 False)∧
 (sp=false→
 False))))∧
 (bare=!false→
 ((!false)=false→
 false=true→
 True)∧
 (true=true→
 False)∧
 (true=false→
 (sp=true→
 False)∧
 (sp=false→
 False))))))):=by kernel_rfl
attribute [local irreducible] Go.Vc.cC Go.Vc.bK
theorem xW(sc us pw:Bs)(hk:Int)(hs:Bs)(hn:Int)(hp:List Int)(port:Int)(pn:Bool)(pl:List Bs)(hq:Bool)(q:Bs)(hf:Bool)(fg:Bs)(bare sp:Bool)(rst:Bs):bj Tryz.prog ay 47 [.ptr 0 0] [aC 1 (.raw (.pointer none)) sc us pw hk hs hn hp port false pn pl hq q hf fg bare sp rst] (rst.length≤300000∧(ab rst rst 0).2.2=false) (.int .i64 (RS.mk sc us pw hk hs hn hp port false pn pl hq q hf fg bare sp rst).ao.2) [aC 0 (.raw (.pointer none)) ((RS.mk sc us pw hk hs hn hp port false pn pl hq q hf fg bare sp rst).ao.1.sc) ((RS.mk sc us pw hk hs hn hp port false pn pl hq q hf fg bare sp rst).ao.1.us) ((RS.mk sc us pw hk hs hn hp port false pn pl hq q hf fg bare sp rst).ao.1.pw) ((RS.mk sc us pw hk hs hn hp port false pn pl hq q hf fg bare sp rst).ao.1.hk) ((RS.mk sc us pw hk hs hn hp port false pn pl hq q hf fg bare sp rst).ao.1.hs) ((RS.mk sc us pw hk hs hn hp port false pn pl hq q hf fg bare sp rst).ao.1.hn) ((RS.mk sc us pw hk hs hn hp port false pn pl hq q hf fg bare sp rst).ao.1.hp) ((RS.mk sc us pw hk hs hn hp port false pn pl hq q hf fg bare sp rst).ao.1.port) ((RS.mk sc us pw hk hs hn hp port false pn pl hq q hf fg bare sp rst).ao.1.opq) ((RS.mk sc us pw hk hs hn hp port false pn pl hq q hf fg bare sp rst).ao.1.pn) ((RS.mk sc us pw hk hs hn hp port false pn pl hq q hf fg bare sp rst).ao.1.pl) ((RS.mk sc us pw hk hs hn hp port false pn pl hq q hf fg bare sp rst).ao.1.hq) ((RS.mk sc us pw hk hs hn hp port false pn pl hq q hf fg bare sp rst).ao.1.q) ((RS.mk sc us pw hk hs hn hp port false pn pl hq q hf fg bare sp rst).ao.1.hf) ((RS.mk sc us pw hk hs hn hp port false pn pl hq q hf fg bare sp rst).ao.1.fg) ((RS.mk sc us pw hk hs hn hp port false pn pl hq q hf fg bare sp rst).ao.1.bare) ((RS.mk sc us pw hk hs hn hp port false pn pl hq q hf fg bare sp rst).ao.1.sp) ((RS.mk sc us pw hk hs hn hp port false pn pl hq q hf fg bare sp rst).ao.1.rst)]:=uh (by kernel_rfl) xV (H:=xU sc us pw hk hs hn hp port pn pl hq q hf fg bare sp rst) (fuel:=1000) Tryz.func47 (by kernel_rfl) (Nat.le_of_ble_eq_true rfl) fun hpre=>(DE sc us pw hk hs hn hp port pn pl hq q hf fg bare sp rst _).mpr (by
 have e:(RS.mk sc us pw hk hs hn hp port false pn pl hq q hf fg bare sp rst).ao=((RS.mk sc us pw hk hs hn hp port false pn pl hq q hf fg bare sp rst),8):=by
  unfold RS.ao
  rw [show(RS.mk sc us pw hk hs hn hp port false pn pl hq q hf fg bare sp rst).jf=((RS.mk sc us pw hk hs hn hp port false pn pl hq q hf fg bare sp rst),8)from if_neg (by show ¬(ab rst rst 0).2.2=true;rw [hpre.2];decide)]
  rfl
 rw [e]
 exact ⟨hpre,fun _=>⟨rfl,rfl⟩,fun h=>absurd h (by decide)⟩)
end
end Go.Proofs.YtmfapopclbnlpaaGreatDoor
