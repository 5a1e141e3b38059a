import Derived.Test.YtmfapopclbnlpaaGreatDoorProg
import Derived.ProofKit
import Derived.Test.YtmfapopclbnlpaaGreatDoorDt6
import Derived.Test.YtmfapopclbnlpaaGreatDoorDt10
import Derived.Test.YtmfapopclbnlpaaGreatDoorDt18
import Derived.Test.YtmfapopclbnlpaaGreatDoorDt23
import Derived.Test.YtmfapopclbnlpaaGreatDoorDt24
set_option linter.unusedVariables false
set_option linter.unusedSimpArgs false
set_option maxRecDepth 100000
set_option maxHeartbeats 4000000
namespace Go.Proofs.YtmfapopclbnlpaaGreatDoor
open Go Go.Proofs Go.RowKit Go.Vc
section
def gS(l:Bs):H5:=if preB l [91]=true then eO (l.drop 1)else if je l nC=true then FF 8 else if l=[]then(1,[],0,z8,0)else(5,xj l,0,z8,0)
def tp:cw:=bO [(78,db),(74,ml),(161,mr),(162,mq),(26,qx)]
def tq(l:Bs):aX:=fun i=>none
theorem uZ:cW Tryz.prog az tp:=ai cK (ai ll (ai oE (ai oD (ai xk (ax)))))
theorem zQ(l:Bs)(k:PV→Prop):cG Tryz.prog tp az (tq l) 1000 Tryz.f136 [.str l,.bool false] k=(
 True∧
 (preB l (ByteArray.mk #[91]).data.toList=true→
 ((1:Nat)≤List.length l∧List.length l≤(1000000:Nat))∧
 k
 (PV.tup
 [PV.agg
 [PV.int .i64 (eO (List.drop (1:Nat) l)).1,
 PV.str (eO (List.drop (1:Nat) l)).2.1,
 PV.int .u32 (eO (List.drop (1:Nat) l)).2.2.1,
 PV.arr (8:Nat) (an.ints .u16 (eO (List.drop (1:Nat) l)).2.2.2.1)],
 PV.int .i64 (eO (List.drop (1:Nat) l)).2.2.2.2]))∧
 (preB l (ByteArray.mk #[91]).data.toList=false→
 (false=true→
 (List.length l).le (1000000:Nat)∧
 k
 (PV.tup
 [PV.agg
 [PV.int .i64
 (ew (ck (cr l))).1,
 PV.str
 (ew
 (ck (cr l))).2.1,
 PV.int .u32
 (ew
 (ck (cr l))).2.2.1,
 PV.arr (8:Nat)
 (an.ints .u16
 (ew
 (ck (cr l))).2.2.2.1)],
 PV.int .i64
 (ew
 (ck (cr l))).2.2.2.2]))∧
 (false=false→
 (List.length l≤(1000000:Nat)∧
 (ByteArray.mk
 #[0,9,10,13,32,35,47,58,60,62,63,64,91,92,93,94,124]).data.toList.length≤
 (1000000:Nat)∧
 ∀(b:UInt8),
 b∈
 (ByteArray.mk
 #[0,9,10,13,32,35,47,58,60,62,63,64,91,92,93,94,124]).data.toList→
 b.toNat<(128:Nat))∧
 (je l
 (ByteArray.mk
 #[0,9,10,13,32,35,47,58,60,62,63,64,91,92,93,94,124]).data.toList=
 true→
 k
 (PV.tup
 [PV.agg
 [PV.int .i64 (0:Int),PV.str [],PV.int .u32 (0:Int),
 PV.arr (8:Nat) (an.ints .u16 (List.replicate (8:Nat) (0:Int)))],
 PV.int .i64 (8:Int)]))∧
 (je l
 (ByteArray.mk
 #[0,9,10,13,32,35,47,58,60,62,63,64,91,92,93,94,124]).data.toList=
 false→
 (decide (l=(ByteArray.mk #[]).data.toList)=true→
 k
 (PV.tup
 [PV.agg
 [PV.int .i64 (1:Int),PV.str [],PV.int .u32 (0:Int),
 PV.arr (8:Nat) (an.ints .u16 (List.replicate (8:Nat) (0:Int)))],
 PV.int .i64 (0:Int)]))∧
 (decide (l=(ByteArray.mk #[]).data.toList)=false→
 (List.length l).le (300000:Nat)∧
 k
 (PV.tup
 [PV.agg
 [PV.int .i64 (5:Int),PV.str (xj l),
 PV.int .u32 (0:Int),
 PV.arr (8:Nat) (an.ints .u16 (List.replicate (8:Nat) (0:Int)))],
 PV.int .i64 (0:Int)])))))):=by kernel_rfl
attribute [local irreducible] Go.Vc.cG
theorem zR(l:Bs):ag Tryz.prog az 136 [.str l,.bool false] ⟨l.length≤300000,.tup [.agg [.int .i64 (gS l).1,.str (gS l).2.1,.int .u32 (gS l).2.2.1,.arr 8 (.ints .u16 (gS l).2.2.2.1)],.int .i64 (gS l).2.2.2.2]⟩:=b7 (by kernel_rfl) uZ (H:=tq l) (fuel:=1000) Tryz.func136 (by kernel_rfl) fun hpre=>(zQ l _).mpr (by
 have e91:(ByteArray.mk #[91]).data.toList=([91]:Bs):=rfl
 rw [e91]
 refine ⟨trivial,fun h=>⟨⟨?_,by omega⟩,?_⟩,fun h=>⟨fun h=>(by cases h),fun _=>⟨⟨by omega,by decide,by decide⟩,fun h2=>?_,fun h2=>⟨fun h3=>?_,fun h3=>?_⟩⟩⟩⟩
 ·cases l with
  |nil=>cases h
  |cons b r=>rw [List.length_cons];omega
 ·have:gS l=eO (l.drop 1):=by unfold gS;rw [if_pos h]
  rw [this]
 ·have h2':je l nC=true:=h2
  have:gS l=FF 8:=by unfold gS;rw [if_neg (by rw [h];decide),if_pos h2']
  rw [this];rfl
 ·have h2':je l nC=false:=h2
  have h3':l=[]:=of_decide_eq_true h3
  have:gS l=(1,[],0,z8,0):=by unfold gS;rw [if_neg (by rw [h];decide),if_neg (by rw [h2'];decide),if_pos h3']
  rw [this];rfl
 ·have h2':je l nC=false:=h2
  have h3':¬l=[]:=of_decide_eq_false h3
  have:gS l=(5,xj l,0,z8,0):=by unfold gS;rw [if_neg (by rw [h];decide),if_neg (by rw [h2'];decide),if_neg h3']
  rw [this]
  exact ⟨hpre,rfl⟩)
end
theorem xw {l:Bs}{x:Int}(h0:0≤x)(h1:x<l.length):l.drop x.toNat=l.getD x.toNat 0::l.drop (x+1).toNat:=by
 have hs:(x+1).toNat=x.toNat+1:=by omega
 rw [hs,List.drop_eq_getElem_cons (by omega),List.getD_eq_getElem?_getD,List.getElem?_eq_getElem (by omega)]
 rfl
theorem tt {l:Bs}{x:Int}(h1:¬x<l.length):l.drop x.toNat=[]:=by rw [List.drop_eq_nil_iff];omega
structure RS where
 sc:Bs
 us:Bs
 pw:Bs
 hk:Int
 hs:Bs
 hn:Int
 hp:List Int
 port:Int
 opq:Bool
 pn:Bool
 pl:List Bs
 hq:Bool
 q:Bs
 hf:Bool
 fg:Bs
 bare:Bool
 sp:Bool
 rst:Bs
@[match_pattern] abbrev bC (m:Nat) (sc us pw:Bs) (hk:Int) (hs:Bs) (hn:Int) (hp:List Int) (port:Int) (opq pn:Bool) (pl:List Bs) (hq:Bool) (q:Bs) (hf:Bool) (fg:Bs):PV:=.agg [.str sc,.str us,.str pw,.agg [.int .i64 hk,.str hs,.int .u32 hn,.arr 8 (.ints .u16 hp)],.int .i64 port,.bool opq,.row pn (.strs pl) m,.bool hq,.str q,.bool hf,.str fg]
@[match_pattern] abbrev aD (m:Nat) (B:PV) (sc us pw:Bs) (hk:Int) (hs:Bs) (hn:Int) (hp:List Int) (port:Int) (opq pn:Bool) (pl:List Bs) (hq:Bool) (q:Bs) (hf:Bool) (fg:Bs) (bare sp:Bool) (rst:Bs):PV:=.agg [.agg [.str sc,.str us,.str pw,.agg [.int .i64 hk,.str hs,.int .u32 hn,.arr 8 (.ints .u16 hp)],.int .i64 port,.bool opq,.row pn (.strs pl) m,.bool hq,.str q,.bool hf,.str fg],B,.bool bare,.bool sp,.str rst]
def aA(sp:Bool)(rst:Bs)(z:Int):Bool:=decide (z<ak rst)&&(decide (al rst z=47)||sp&&decide (al rst z=92))
theorem u7 {sp:Bool}{rst:Bs}{z:Int}(h:aA sp rst z=true):z<ak rst:=by by_cases g:z<ak rst;exact g;simp [aA,g]at h
def aB:Nat→Bool→Int→Bs→Bs
 |0,_,_,l=>l
 |f+1,sp,n,l=>if aA sp l 0=true∧(sp=true∨n<2)then aB f sp (n+1) (aa l 1)else l
theorem tu {l:Bs}(h:0<l.length):(aa l 1).length+1=l.length:=by unfold aa;simp;omega
theorem xx {sp:Bool}{l:Bs}(h:aA sp l 0=true):0<l.length:=by have:=u7 h;unfold ak at this;omega
theorem xy {sp:Bool}{n:Int}{l:Bs}(h:aA sp l 0=true∧(sp=true∨n<2)):aB l.length sp n l=aB (aa l 1).length sp (n+1) (aa l 1):=by
 rw [←tu (xx h.1)]
 show(if _ then _ else _)=_
 rw [if_pos h]
theorem Bu {sp:Bool}{n:Int}{l:Bs}(h:¬(aA sp l 0=true∧(sp=true∨n<2))):aB l.length sp n l=l:=by
 cases l with
 |nil=>rfl
 |cons b l=>
  show(if _ then _ else _)=_
  rw [if_neg h]
def bQ(l:Bs):Bool:=decide (l=[])||(decide (al l 0=63)||decide (al l 0=35))
def eP(sp:Bool):Bs:=if sp=true then [47,92]else [47]
def ah(sp:Bool)(l:Bs):Nat:=aY l (eP sp++[63,35])
def aE(l:Bs):Nat:=aY l [63,35]
def xz(l:Bs):Nat:=aY l [35]
def RS.shl(r:RS):RS:={r with rst:=if aA r.sp r.rst 0=true then aa r.rst 1 else r.rst}
def RS.skip(r:RS):RS:={r with rst:=aB r.rst.length r.sp 0 r.rst}
def RS.cut(r:RS)(z:Int):RS:={r with rst:=aa r.rst z}
def kx:Bool→Int→Bs→Int
 |_,_,[]=>-1
 |w,i,b::l=>if b.toNat=91 then kx true (i+1) l else if b.toNat=93 then kx false (i+1) l else if b.toNat=58∧w=false then i else kx w (i+1) l
def bc(l:Bs):Int:=kx false 0 l
def iJ:Int→Bs→Option Int
 |n,[]=>some n
 |n,b::l=>if 48≤b.toNat∧b.toNat≤57 then iJ (min (n*10+(b.toNat-48)) 65536) l else none
def dS(sc:Bs)(port:Int)(s:Bs):Int×Int:=match s with
 |[]=>(port,0)
 |s=>match iJ 0 s with
  |none=>(port,8)
  |some n=>if 65535<n then(port,8)else if aw sc=true∧Ie sc=n then(port,0)else(n,0)
def aM(sp:Bool)(l:Bs):H5:=if sp=true then cA l else gS l
def RS.bm(r:RS)(s:Bs):RS×Int:=
 if bc s=0∨(s=[]∧r.sp=true)then(r,8)else
 let name:=if 0<bc s then ae s (bc s)else s
 let pt:=if 0<bc s then aa s (bc s+1)else []
 let h:=aM r.sp name
 let r1:RS:={r with hk:=h.1,hs:=h.2.1,hn:=h.2.2.1,hp:=h.2.2.2.1}
 if h.2.2.2.2=0 then({r1 with port:=(dS r.sc r.port pt).1},(dS r.sc r.port pt).2)else(r1,h.2.2.2.2)
def RS.aU(r:RS):RS×Int:=
 let s:=ae r.rst (ah r.sp r.rst)
 let r1:=r.cut (ah r.sp r.rst)
 if 0≤aI s 64 then
  let r2:RS:={r1 with us:=bl 5 (dq (ae s (aI s 64)) 58),pw:=bl 5 (dJ (ae s (aI s 64)) 58)}
  if aa s (aI s 64+1)=[]then(r2,8)else r2.bm (aa s (aI s 64+1))
 else r1.bm s
def Le:Bs:=[108,111,99,97,108,104,111,115,116]
def RS.av(r:RS):RS×Int:=
 let s:=ae r.rst (ah r.sp r.rst)
 let r1:=r.cut (ah r.sp r.rst)
 if s=[]then(r1,0)else
 let h:=cA s
 if h.1=2∧h.2.1=Le then(r1,h.2.2.2.2)else({r1 with hk:=h.1,hs:=h.2.1,hn:=h.2.2.1,hp:=h.2.2.2.1},h.2.2.2.2)
abbrev Pa:=Bool×List Bs
def bN(sc:Bs)(p:Pa):Pa:=if p.2=[]∨(p.2.length=1∧sc=fL∧nw (p.2.getD 0 [])=true)then p else(p.1,p.2.take (p.2.length-1))
def nH(p:Pa)(last:Bool):Pa:=if last=true then(false,p.2++[[]])else p
def cp(sc:Bs)(p:Pa)(s:Bs)(last:Bool):Pa:=
 if jq s=true then nH (bN sc p) last
 else if ku s=true then nH p last
 else if sc=fL∧p.2=[]∧bM s=true then(false,p.2++[ae s 1++[58]])
 else(false,p.2++[bl 4 s])
def oF(sc:Bs)(m:Bs):Nat→Bs→Pa→Pa
 |0,_,p=>p
 |f+1,s,p=>if aY s m=s.length then cp sc p s true else oF sc m f (s.drop (aY s m+1)) (cp sc p (s.take (aY s m)) false)
theorem qE(sc m:Bs):∀(f g:Nat) (s:Bs) (p:Pa),s.length<f→s.length<g→oF sc m f s p=oF sc m g s p
 |0,_,_,_,h,_=>by omega
 |_,0,_,_,_,h=>by omega
 |f+1,g+1,s,p,h,h'=>by
  unfold oF
  by_cases e:aY s m=s.length
  ·rw [if_pos e,if_pos e]
  ·rw [if_neg e,if_neg e]
   have hl:=eY s m
   exact qE sc m f g _ _ (by rw [List.length_drop];omega) (by rw [List.length_drop];omega)
@[irreducible] def kH (sc m s:Bs) (p:Pa):Pa:=oF sc m (s.length+1) s p
theorem lr(sc m s:Bs)(p:Pa):kH sc m s p=if aY s m=s.length then cp sc p s true else kH sc m (s.drop (aY s m+1)) (cp sc p (s.take (aY s m)) false):=by
 unfold kH
 rw [oF]
 by_cases e:aY s m=s.length
 ·rw [if_pos e,if_pos e]
 ·rw [if_neg e,if_neg e]
  have hl:=eY s m
  exact qE sc m _ _ _ _ (by rw [List.length_drop];omega) (by rw [List.length_drop];omega)
def br(sp:Bool)(sc:Bs)(s:Bs)(p:Pa):Pa:=kH sc (eP sp) s p
def RS.path(r:RS):RS:={r with
 pn:=(br r.sp r.sc (ae r.rst (aE r.rst)) (r.pn,r.pl)).1
 pl:=(br r.sp r.sc (ae r.rst (aE r.rst)) (r.pn,r.pl)).2
 rst:=aa r.rst (aE r.rst)}
def LI:Bs:=[37,50,48]
def nI(s rest:Bs):Bs:=if rest≠[]∧0<s.length∧al s (s.length-1)=32 then bl 0 (ae s (s.length-1))++LI else bl 0 s
def RS.pq(r:RS):RS:={r with opq:=true,pn:=false,pl:=[nI (ae r.rst (aE r.rst)) (aa r.rst (aE r.rst))],rst:=aa r.rst (aE r.rst)}
def RS.query(r:RS):RS:=if preB r.rst [63]=true then
    {r with hq:=true,q:=bl (if r.sp=true then 3 else 2) (ae (aa r.rst 1) (xz (aa r.rst 1))),rst:=aa (aa r.rst 1) (xz (aa r.rst 1))}
 else r
def RS.Iy(r:RS):RS:=if preB r.rst [35]=true then {r with hf:=true,fg:=bl 1 (aa r.rst 1),rst:=aa r.rst 1}else r
def RS.tail(r:RS):RS:=r.query.Iy
def RS.jh(r:RS):RS×Int:=if(ab r.rst r.rst 0).2.2=true then
    ({r with rst:=(ab r.rst r.rst 0).2.1,bare:=false,sc:=(ab r.rst r.rst 0).1,sp:=aw (ab r.rst r.rst 0).1},0)
 else(r,8)
def RS.bb(r:RS):RS×Int:=
 let r1:RS:={r with hk:=1}
 if aA r.sp r.rst 0=true∧aA r.sp r.rst 1=true then
  let r2:=r1.cut 2
  if bM (ae r2.rst (ah r2.sp r2.rst))=true then(r2.path,0)
  else if r2.av.2=0 then(r2.av.1.shl.path,0)else r2.av
 else(r1.shl.path,0)
def RS.b9(r:RS):RS×Int:=if r.aU.2=0 then
    (if r.aU.1.sp=false∧bQ r.aU.1.rst=true then(r.aU.1.tail,0)else(r.aU.1.shl.path.tail,0))
 else r.aU
def RS.aq(r:RS):RS×Int:=if r.jh.2=0 then
    let r1:=r.jh.1
    if r1.sc=fL then(if r1.bb.2=0 then(r1.bb.1.tail,0)else r1.bb)
    else if r1.sp=true then r1.skip.b9
    else if preB r1.rst [47,47]=true then(r1.cut 2).b9
    else if preB r1.rst [47]=true then((r1.cut 1).path.tail,0)
    else(r1.pq.tail,0)
 else r.jh
theorem xA {m xs:Bs}{y:UInt8}{zs:Bs}(h:∀b∈xs,m.contains b=false)(hy:m.contains y=true):aY (xs++y::zs) m=xs.length:=by
 unfold aY
 induction xs with
 |nil=>rw [List.nil_append,List.findIdx_cons,hy];rfl
 |cons x xs ih=>
  rw [List.cons_append,List.findIdx_cons,h x (List.mem_cons_self ..),ih (fun b hb=>h b (List.mem_cons_of_mem _ hb))]
  rfl
theorem tw {m xs:Bs}(h:∀b∈xs,m.contains b=false):aY xs m=xs.length:=by
 unfold aY
 induction xs with
 |nil=>rfl
 |cons x xs ih=>
  rw [List.findIdx_cons,h x (List.mem_cons_self ..),ih (fun b hb=>h b (List.mem_cons_of_mem _ hb))]
  rfl
theorem FM {l:Bs}{c:Int}(h:∀b∈l,(b.toNat:Int)≠c):¬0≤aI l c:=by
 rw [qy]
 rcases Lib.lastIndexByte_spec ⟨l.toArray⟩ c with⟨h1,-⟩|⟨i,h1,-,h3,-⟩
 ·rw [h1];decide
 ·exfalso
  have hi:i<l.length:=by simpa [ByteArray.size]using h1
  refine h l[i] (List.getElem_mem _) ?_
  rw [←h3]
  simp [getElem!_def,hi]
theorem Bv(l:Bs):∀(p r:Bs) (i:Nat),(∀b∈p,xd b=true)→ab l (p++r) i=ab l r (i+p.length)
 |[],r,i,_=>rfl
 |b::p,r,i,h=>by
  show(if xd b=true then ab l (p++r) (i+1)else _)=_
  rw [if_pos (h b (List.mem_cons_self ..)),Bv l p r (i+1) (fun c hc=>h c (List.mem_cons_of_mem _ hc))]
  congr 1
  simp;omega
theorem xB {p r:Bs}(hp:p≠[])(h:∀b∈p,xd b=true):ab (p++58::r) (p++58::r) 0=(ck p,r,true):=by
 rw [Bv _ p (58::r) 0 h]
 have h0:¬(0+p.length=0):=by simpa using hp
 show(if xd 58=true then _ else if 0+p.length=0 then _ else if(58:UInt8).toNat=58 then _ else _)=_
 rw [if_neg (by decide),if_neg h0]
 show(ck ((p++58::r).take (0+p.length)),(p++58::r).drop (0+p.length+1),true)=_
 rw [Nat.zero_add,List.take_left,←List.drop_drop,List.drop_left]
 rfl
theorem Bw {sp:Bool}{n:Int}(b:UInt8)(l:Bs)(hb:b=47∨(sp=true∧b=92))(hn:sp=true∨n<2):aB (b::l).length sp n (b::l)=aB l.length sp (n+1) l:=by
 have:aA sp (b::l) 0=true:=by
  unfold aA
  rw [decide_eq_true (show(0:Int)<ak (b::l) by unfold ak;rw [List.length_cons];omega)]
  rcases hb with rfl|⟨h1,rfl⟩
  ·rfl
  ·rw [h1];rfl
 rw [xy ⟨this,hn⟩]
 rfl
theorem Dk {sp:Bool}{n:Int}{l:Bs}(h:aA sp l 0=false):aB l.length sp n l=l:=Bu (by rw [h];simp)
def zS(b:UInt8):Bool:=decide (b.toNat≤32)
def jR(b:UInt8):Bool:=decide (b=9∨b=10∨b=13)
def de(l:Bs):Bs:=l.dropWhile zS
def eK(l:Bs):Bs:=(l.reverse.dropWhile zS).reverse
def ao(l:Bs):Bs:=(eK (de (bY l))).filter (fun b=>!jR b)
theorem xC {l:Bs}(h:∀b∈l,32<b.toNat):de l=l:=by
 unfold de
 cases l with
 |nil=>rfl
 |cons b l=>
  have:=h b (List.mem_cons_self ..)
  rw [List.dropWhile_cons_of_neg]
  unfold zS
  rw [decide_eq_true_iff];omega
theorem FN {l:Bs}(h:∀b∈l,32<b.toNat):eK l=l:=by
 have:=xC (l:=l.reverse) (fun b hb=>h b (List.mem_reverse.1 hb))
 unfold de at this
 unfold eK
 rw [this,List.reverse_reverse]
theorem FO {l:Bs}(hv:fp l=true)(h:∀b∈l,32<b.toNat):ao l=l:=by
 unfold ao
 rw [mh hv,xC h,FN h,List.filter_eq_self]
 intro b hb
 have:=h b hb
 unfold jR
 rw [Bool.not_eq_true',decide_eq_false_iff_not]
 rintro (rfl|rfl|rfl)<;>revert this<;>decide
def RS.init(l:Bs):RS:=⟨[],[],[],0,[],0,z8,-1,false,true,[],false,[],false,[],false,false,l⟩
def Lf:RS:={RS.init []with port:=0}
def LJ(p:RS×Int):RS×Int:=if p.2=0 then p else(Lf,p.2)
def bH(l:Bs):RS×Int:=LJ (RS.init (ao l)).aq
theorem rW {l p r:Bs}(hl:l=p++58::r)(hp:p≠[])(h:∀b∈p,xd b=true)(hf:ck p≠fL)(hs:aw (ck p)=true):
 (RS.init l).aq=({RS.init r with sc:=ck p,sp:=true,bare:=false}:RS).skip.b9:=by
 subst hl
 unfold RS.aq
 have e:(RS.init (p++58::r)).jh=({RS.init r with sc:=ck p,sp:=true,bare:=false},0):=by
  unfold RS.jh
  show(if(ab (p++58::r) (p++58::r) 0).2.2=true then _ else _)=_
  rw [show ab (RS.init (p++58::r)).rst (RS.init (p++58::r)).rst 0=(ck p,r,true)from xB hp h,xB hp h,if_pos rfl,hs]
  rfl
 rw [e,if_pos rfl]
 dsimp only
 rw [if_neg hf,if_pos rfl]
section
theorem qF(l:Bs):(bY l).length≤4*l.length:=by
 have a:=(l9 (gD l)).2
 have b:=l8 _ l (Nat.le_refl _)
 unfold bY;omega
theorem qG {b:UInt8}{r:Bs}(h:b.toNat≤32):de (b::r)=de r:=by
 unfold de
 rw [List.dropWhile_cons_of_pos]
 unfold zS;exact decide_eq_true h
theorem qH {b:UInt8}{r:Bs}(h:¬b.toNat≤32):de (b::r)=b::r:=by
 unfold de
 rw [List.dropWhile_cons_of_neg]
 unfold zS;rw [decide_eq_true_iff];exact h
theorem zT {b:UInt8}{r:Bs}(h:b.toNat≤32):eK (r++[b])=eK r:=by
 have:=qG (r:=r.reverse) h
 unfold de at this
 unfold eK
 rw [List.reverse_append]
 show(List.dropWhile zS (b::r.reverse)).reverse=_
 rw [this]
theorem zU {b:UInt8}{r:Bs}(h:¬b.toNat≤32):eK (r++[b])=r++[b]:=by
 have:=qH (r:=r.reverse) h
 unfold de at this
 unfold eK
 rw [List.reverse_append]
 show(List.dropWhile zS (b::r.reverse)).reverse=_
 rw [this];simp
theorem FP {y m:Bs}(h:je y m=false):∀b∈y,m.contains b=false:=by
 have h1:¬0≤Lib.indexAny y m:=of_decide_eq_false h
 have h2:=((zL m y).2 h1).2
 unfold aY at h2
 exact List.findIdx_eq_length.1 h2
theorem Kx(c:UInt8):(bif bif !decide ((c.toNat:Int)=9)then !decide ((c.toNat:Int)=10)else false then !decide ((c.toNat:Int)=13)else false)=!jR c:=by
 have e:∀(d:UInt8),decide ((c.toNat:Int)=(d.toNat:Int))=decide (c=d):=fun d=>by
  rw [decide_eq_decide]
  exact ⟨fun h=>UInt8.toNat_inj.1 (by omega),fun h=>by rw [h]⟩
 have e9:=e 9
 have e10:=e 10
 have e13:=e 13
 rw [show(((9:UInt8).toNat:Nat):Int)=9 from rfl]at e9
 rw [show(((10:UInt8).toNat:Nat):Int)=10 from rfl]at e10
 rw [show(((13:UInt8).toNat:Nat):Int)=13 from rfl]at e13
 rw [e9,e10,e13]
 unfold jR
 by_cases h9:c=9<;>by_cases h10:c=10<;>by_cases h13:c=13<;>simp [h9,h10,h13]
theorem xD(y:Bs)(i:Int)(h0:0≤i)(h1:i<y.length):(y.take (i+1).toNat).filter (fun c=>!jR c)=(y.take i.toNat).filter (fun c=>!jR c)++(if jR (y.getD i.toNat 0)=true then []else [y.getD i.toNat 0]):=by
 have hs:(i+1).toNat=i.toNat+1:=by omega
 rw [hs,List.take_add_one,List.getElem?_eq_getElem (by omega),List.filter_append,List.getD_eq_getElem?_getD,List.getElem?_eq_getElem (by omega)]
 congr 1
 show List.filter _ [y[i.toNat]'(by omega)]=_
 rw [List.filter_cons,List.filter_nil]
 show(if(!jR (y[i.toNat]'(by omega)))=true then _ else _)=(if jR (y[i.toNat]'(by omega))=true then _ else _)
 cases jR (y[i.toNat]'(by omega))<;>rfl
def Bx:cw:=bO [(41,nD),(74,ml)]
def By(l:Bs):aX:=fun i=>bif Nat.beq i 2 then some ⟨(Bs),(fun s x=>((s.put 0 (.str x)).put 14 .undef)),(fun s=>s.str 0),(fun s x=>let y:=x;y.length≤300000∧de y=de (bY l)),(fun s x=>let y:=x;y.length),[14]⟩else bif Nat.beq i 4 then some ⟨(Bs),(fun s x=>((s.put 0 (.str x)).put 26 .undef)),(fun s=>s.str 0),(fun s x=>let y:=x;y.length≤300000∧eK y=eK (de (bY l))),(fun s x=>let y:=x;y.length),[26]⟩else bif Nat.beq i 10 then some ⟨(Int)×(Bool×Bs),(fun s x=>((((((s.put 41 (.int .i64 x.1)).row s 3 x.2.1 (.bytes x.2.2)).put 4 .undef).put 5 .undef).put 42 .undef).put 56 .undef)),(fun s=>(s.int 41,(s.nil 3,s.bytes 3))),(fun s x=>let i:=x.1;let b:=x.2;0≤i∧i≤(s.str 0).length∧b.1=false∧b.2=((s.str 0).take i.toNat).filter (fun c=>!jR c)),(fun s x=>let i:=x.1;let b:=x.2;(((s.str 0).length:Int)-i).toNat),[4,5,42,56]⟩else none
theorem zV:cW Tryz.prog az Bx:=ai uV (ai ll (ax))
theorem FQ(l:Bs)(k:PV→Prop):cG Tryz.prog Bx az (By l) 1000 Tryz.f46 [.str l] k=(
 (List.length l).le (1000000:Nat)∧
 VS.mk []
 [(0,PV.str (bY l)),(2,PV.str (ByteArray.mk #[]).data.toList),
 (3,PV.undef),(4,PV.undef),(5,PV.undef),((14:Nat),PV.undef),(26,PV.undef),
 (34,PV.undef),(40,PV.undef),(41,PV.undef),(42,PV.undef),(56,PV.undef)]
 []=
 VS.mk []
 [((0:Nat),PV.str (bY l)),(2,PV.str (ByteArray.mk #[]).data.toList),
 (3,PV.undef),(4,PV.undef),(5,PV.undef),((14:Nat),PV.undef),(26,PV.undef),
 (34,PV.undef),(40,PV.undef),(41,PV.undef),(42,PV.undef),(56,PV.undef)]
 []∧
 ((bY l).length≤(300000:Nat)∧
 de (bY l)=
 de (bY l))∧
 ∀(x:List UInt8),
 x.length≤(300000:Nat)∧
 de x=de (bY l)→
 ((!decide (x=(ByteArray.mk #[]).data.toList))=true→within (0:Int) (ak x))∧
 ((bif !decide (x=(ByteArray.mk #[]).data.toList)then decide (al x (0:Int)≤(32:Int))else false)=true→
 upto (1:Int) (ak x) (ak x)∧
 kz (VS.mk []
 [((0:Nat),PV.str (aa x (1:Int))),(2,PV.str (ByteArray.mk #[]).data.toList),
 (3,PV.undef),(4,PV.undef),(5,PV.undef),((14:Nat),PV.undef),
 (26,PV.undef),(34,PV.undef),(40,PV.undef),(41,PV.undef),
 (42,PV.undef),(56,PV.undef)]
 [])∧
 ((aa x (1:Int)).length≤(300000:Nat)∧
 de (aa x (1:Int))=
 de (bY l))∧
 (aa x (1:Int)).length<x.length)∧
 ((bif !decide (x=(ByteArray.mk #[]).data.toList)then decide (al x (0:Int)≤(32:Int))else false)=false→
 kz (VS.mk []
 [((0:Nat),PV.str x),(2,PV.str (ByteArray.mk #[]).data.toList),(3,PV.undef),
 (4,PV.undef),(5,PV.undef),
 ((14:Nat),
 PV.bool (bif !decide (x=(ByteArray.mk #[]).data.toList)then decide (al x (0:Int)≤(32:Int))else false)),
 ((26:Nat),PV.undef),(34,PV.undef),(40,PV.undef),(41,PV.undef),
 (42,PV.undef),(56,PV.undef)]
 [])∧
 (x.length≤(300000:Nat)∧
 eK x=
 eK (de (bY l)))∧
 ∀(x_1:List UInt8),
 x_1.length≤(300000:Nat)∧
 eK x_1=
 eK
 (de (bY l))→
 ((!decide (x_1=(ByteArray.mk #[]).data.toList))=true→ay (ak x_1-(1:Int)))∧
 ((!decide (x_1=(ByteArray.mk #[]).data.toList))=true→within (ak x_1-(1:Int)) (ak x_1))∧
 ((bif !decide (x_1=(ByteArray.mk #[]).data.toList)then decide (al x_1 (ak x_1-(1:Int))≤(32:Int))
 else false)=
 true→
 ay (ak x_1-(1:Int))∧
 upto (0:Int) (ak x_1-(1:Int)) (ak x_1)∧
 kz (VS.mk []
 [((0:Nat),PV.str (ae x_1 (ak x_1-(1:Int)))),
 (2,PV.str (ByteArray.mk #[]).data.toList),(3,PV.undef),(4,PV.undef),
 (5,PV.undef),
 ((14:Nat),
 PV.bool
 (bif !decide (x=(ByteArray.mk #[]).data.toList)then decide (al x (0:Int)≤(32:Int))
 else false)),
 ((26:Nat),PV.undef),(34,PV.undef),(40,PV.undef),
 (41,PV.undef),(42,PV.undef),(56,PV.undef)]
 [])∧
 ((ae x_1 (ak x_1-(1:Int))).length≤(300000:Nat)∧
 eK (ae x_1 (ak x_1-(1:Int)))=
 eK
 (de (bY l)))∧
 (ae x_1 (ak x_1-(1:Int))).length<x_1.length)∧
 ((bif !decide (x_1=(ByteArray.mk #[]).data.toList)then decide (al x_1 (ak x_1-(1:Int))≤(32:Int))
 else false)=
 false→
 (x_1.length≤(1000000:Nat)∧
 (ByteArray.mk #[9,10,13]).data.toList.length≤(1000000:Nat)∧
 ∀(b:UInt8),b∈(ByteArray.mk #[9,10,13]).data.toList→b.toNat<(128:Nat))∧
 ((!je x_1 (ByteArray.mk #[9,10,13]).data.toList)=
 true→
 k (PV.str x_1))∧
 ((!je x_1 (ByteArray.mk #[9,10,13]).data.toList)=
 false→
 ((0:Int)≤(0:Int)∧(0:Int)≤ak x_1∧ak x_1≤cq)∧
 VS.mk []
 [((0:Nat),PV.str x_1),(2,PV.str (ByteArray.mk #[]).data.toList),
 (3,
 PV.row false (an.bytes (List.replicate (Int.toNat (0:Int)) (0:UInt8)))
 ((38:Nat)+(32:Nat))),
 ((4:Nat),PV.undef),((5:Nat),PV.undef),
 ((14:Nat),
 PV.bool
 (bif !decide (x=(ByteArray.mk #[]).data.toList)then decide (al x (0:Int)≤(32:Int))
 else false)),
 ((26:Nat),
 PV.bool
 (bif !decide (x_1=(ByteArray.mk #[]).data.toList)then
 decide (al x_1 (ak x_1-(1:Int))≤(32:Int))
 else false)),
 (34,
 PV.bool
 !je x_1
 (ByteArray.mk #[9,10,13]).data.toList),
 (40,PV.int .i64 (ak x_1)),(41,PV.int .i64 (0:Int)),
 ((42:Nat),PV.undef),((56:Nat),PV.undef)]
 []=
 VS.mk []
 [((0:Nat),PV.str x_1),(2,PV.str (ByteArray.mk #[]).data.toList),
 ((3:Nat),
 PV.row false (an.bytes (List.replicate (Int.toNat (0:Int)) (0:UInt8)))
 ((38:Nat)+(32:Nat))),
 ((4:Nat),PV.undef),((5:Nat),PV.undef),
 ((14:Nat),
 PV.bool
 (bif !decide (x=(ByteArray.mk #[]).data.toList)then decide (al x (0:Int)≤(32:Int))
 else false)),
 ((26:Nat),
 PV.bool
 (bif !decide (x_1=(ByteArray.mk #[]).data.toList)then
 decide (al x_1 (ak x_1-(1:Int))≤(32:Int))
 else false)),
 (34,
 PV.bool
 !je x_1
 (ByteArray.mk #[9,10,13]).data.toList),
 (40,PV.int .i64 (ak x_1)),((41:Nat),PV.int .i64 (0:Int)),
 ((42:Nat),PV.undef),((56:Nat),PV.undef)]
 []∧
 ((0:Int)≤(0:Int)∧
 (0:Int)≤↑x_1.length∧
 false=false∧
 List.replicate (Int.toNat (0:Int)) (0:UInt8)=
 List.filter (fun(c:UInt8)↦!jR c)
 (List.take (Int.toNat (0:Int)) x_1))∧
 ∀(x_2:Int×Bool×Bs),
 (0:Int)≤x_2.1∧
 x_2.1≤↑x_1.length∧
 x_2.2.1=false∧
 x_2.2.2=
 List.filter (fun(c:UInt8)↦!jR c)
 (List.take x_2.1.toNat x_1)→
 (decide (x_2.1<ak x_1)=true→
 within x_2.1 (ak x_1)∧
 ((bif
 bif !decide (al x_1 x_2.1=(9:Int))then
 !decide (al x_1 x_2.1=(10:Int))
 else false then
 !decide (al x_1 x_2.1=(13:Int))
 else false)=
 true→
 lJ [PV.int .u8 (al x_1 x_2.1)]∧
 Int.ofNat (List.length (x_2.2.2++[bR (al x_1 x_2.1)]))≤cq∧
 ay (x_2.1+(1:Int))∧
 VS.mk []
 [((0:Nat),PV.str x_1),(2,PV.str (ByteArray.mk #[]).data.toList),
 ((3:Nat),
 PV.row false
 (an.bytes (x_2.2.2++[bR (al x_1 x_2.1)]))
 (nat_lit 69+(1:Nat))),
 ((4:Nat),PV.undef),((5:Nat),PV.undef),
 ((14:Nat),
 PV.bool
 (bif !decide (x=(ByteArray.mk #[]).data.toList)then
 decide (al x (0:Int)≤(32:Int))
 else false)),
 ((26:Nat),
 PV.bool
 (bif !decide (x_1=(ByteArray.mk #[]).data.toList)then
 decide (al x_1 (ak x_1-(1:Int))≤(32:Int))
 else false)),
 (34,
 PV.bool
 !je x_1
 (ByteArray.mk #[9,10,13]).data.toList),
 (40,PV.int .i64 (ak x_1)),
 ((41:Nat),PV.int .i64 (x_2.1+(1:Int))),
 ((42:Nat),PV.undef),((56:Nat),PV.undef)]
 []=
 VS.mk []
 [((0:Nat),PV.str x_1),(2,PV.str (ByteArray.mk #[]).data.toList),
 ((3:Nat),
 PV.row false
 (an.bytes (x_2.2.2++[bR (al x_1 x_2.1)]))
 ((38:Nat)+(32:Nat))),
 ((4:Nat),PV.undef),((5:Nat),PV.undef),
 ((14:Nat),
 PV.bool
 (bif !decide (x=(ByteArray.mk #[]).data.toList)then
 decide (al x (0:Int)≤(32:Int))
 else false)),
 ((26:Nat),
 PV.bool
 (bif !decide (x_1=(ByteArray.mk #[]).data.toList)then
 decide (al x_1 (ak x_1-(1:Int))≤(32:Int))
 else false)),
 (34,
 PV.bool
 !je x_1
 (ByteArray.mk #[9,10,13]).data.toList),
 (40,PV.int .i64 (ak x_1)),
 ((41:Nat),PV.int .i64 (x_2.1+(1:Int))),
 ((42:Nat),PV.undef),((56:Nat),PV.undef)]
 []∧
 ((0:Int)≤x_2.1+(1:Int)∧
 x_2.1+(1:Int)≤↑x_1.length∧
 false=false∧
 x_2.2.2++[bR (al x_1 x_2.1)]=
 List.filter (fun(c:UInt8)↦!jR c)
 (List.take (x_2.1+(1:Int)).toNat x_1))∧
 (↑x_1.length-(x_2.1+(1:Int))).toNat<(↑x_1.length-x_2.1).toNat)∧
 ((bif
 bif !decide (al x_1 x_2.1=(9:Int))then
 !decide (al x_1 x_2.1=(10:Int))
 else false then
 !decide (al x_1 x_2.1=(13:Int))
 else false)=
 false→
 ay (x_2.1+(1:Int))∧
 kz (VS.mk []
 [((0:Nat),PV.str x_1),(2,PV.str (ByteArray.mk #[]).data.toList),
 ((3:Nat),
 PV.row x_2.2.1 (an.bytes x_2.2.2) ((38:Nat)+(32:Nat))),
 ((4:Nat),PV.undef),((5:Nat),PV.undef),
 ((14:Nat),
 PV.bool
 (bif !decide (x=(ByteArray.mk #[]).data.toList)then
 decide (al x (0:Int)≤(32:Int))
 else false)),
 ((26:Nat),
 PV.bool
 (bif !decide (x_1=(ByteArray.mk #[]).data.toList)then
 decide (al x_1 (ak x_1-(1:Int))≤(32:Int))
 else false)),
 (34,
 PV.bool
 !je x_1
 (ByteArray.mk #[9,10,13]).data.toList),
 (40,PV.int .i64 (ak x_1)),
 ((41:Nat),PV.int .i64 (x_2.1+(1:Int))),
 ((42:Nat),PV.undef),((56:Nat),PV.undef)]
 [])∧
 ((0:Int)≤x_2.1+(1:Int)∧
 x_2.1+(1:Int)≤↑x_1.length∧
 x_2.2.1=false∧
 x_2.2.2=
 List.filter (fun(c:UInt8)↦!jR c)
 (List.take (x_2.1+(1:Int)).toNat x_1))∧
 (↑x_1.length-(x_2.1+(1:Int))).toNat<(↑x_1.length-x_2.1).toNat))∧
 (decide (x_2.1<ak x_1)=false→k (PV.str x_2.2.2)))))):=by kernel_rfl
attribute [local irreducible] Go.Vc.cG
theorem FR(l:Bs):ag Tryz.prog az 46 [.str l] ⟨l.length≤60000,.str (ao l)⟩:=b7 (by kernel_rfl) zV (H:=By l) (fuel:=1000) Tryz.func46 (by kernel_rfl) fun hpre=>(FQ l _).mpr (by
 have hp:=qF l
 have e0:(ByteArray.mk #[]).data.toList=([]:Bs):=rfl
 have h9:∀b:UInt8,b∈(ByteArray.mk #[9,10,13]).data.toList→b.toNat<128:=by rw [show(ByteArray.mk #[9,10,13]).data.toList=([9,10,13]:Bs)from rfl];decide
 have ne:∀x:Bs,(!decide (x=(ByteArray.mk #[]).data.toList))=true→0<x.length:=fun x h=>by
  have h':decide (x=(ByteArray.mk #[]).data.toList)=false:=by simpa using h
  exact List.length_pos_iff.2 (of_decide_eq_false h')
 have d1:∀x:Bs,(bif !decide (x=(ByteArray.mk #[]).data.toList)then decide (al x (0:Int)≤(32:Int))else false)=true→∃b r,x=b::r∧b.toNat≤32:=fun x h=>by
  cases x with
  |nil=>cases h
  |cons b r=>
   refine ⟨b,r,rfl,?_⟩
   have:decide (al (b::r) (0:Int)≤(32:Int))=true:=h
   have:=of_decide_eq_true this
   have e:al (b::r) 0=(b.toNat:Int):=rfl
   omega
 have d0:∀x:Bs,(bif !decide (x=(ByteArray.mk #[]).data.toList)then decide (al x (0:Int)≤(32:Int))else false)=false→de x=x:=fun x h=>by
  cases x with
  |nil=>rfl
  |cons b r=>
   have:decide (al (b::r) (0:Int)≤(32:Int))=false:=h
   have:=of_decide_eq_false this
   have e:al (b::r) 0=(b.toNat:Int):=rfl
   exact qH (by omega)
 have lastb:∀(r:Bs) (b:UInt8),al (r++[b]) (ak (r++[b])-1)=(b.toNat:Int):=fun r b=>by
  unfold al ak
  have:(((r++[b]).length:Int)-1).toNat=r.length:=by simp
  rw [this];simp
 have g1:∀x:Bs,(bif !decide (x=(ByteArray.mk #[]).data.toList)then decide (al x (ak x-(1:Int))≤(32:Int))else false)=true→∃b r,x=r++[b]∧b.toNat≤32:=fun x h=>by
  rcases List.eq_nil_or_concat x with rfl|⟨r,b,rfl⟩
  ·cases h
  ·refine ⟨b,r,by simp,?_⟩
   rw [List.concat_eq_append]at h
   cases e:(!decide (r++[b]=(ByteArray.mk #[]).data.toList))with
   |false=>rw [e]at h;cases h
   |true=>
    rw [e]at h
    have:=of_decide_eq_true (show decide _=true from h)
    rw [lastb]at this
    omega
 have g0:∀x:Bs,(bif !decide (x=(ByteArray.mk #[]).data.toList)then decide (al x (ak x-(1:Int))≤(32:Int))else false)=false→eK x=x:=fun x h=>by
  rcases List.eq_nil_or_concat x with rfl|⟨r,b,rfl⟩
  ·rfl
  ·rw [List.concat_eq_append]at h⊢
   cases e:(!decide (r++[b]=(ByteArray.mk #[]).data.toList))with
   |false=>
    have:decide (r++[b]=(ByteArray.mk #[]).data.toList)=true:=by rw [←Bool.not_eq_false'];exact e
    have:=of_decide_eq_true this
    exact absurd this (by rw [e0];simp)
   |true=>
    rw [e]at h
    have:=of_decide_eq_false (show decide _=false from h)
    rw [lastb]at this
    exact zU (by omega)
 refine ⟨show l.length≤1000000 by omega,rfl,⟨by omega,rfl⟩,fun x ⟨h1,h2⟩=>⟨fun h=>?_,fun h=>?_,fun h=>⟨rfl,⟨h1,by rw [←h2,d0 x h]⟩,fun y ⟨h3,h4⟩=>⟨fun g=>?_,fun g=>?_,fun g=>?_,fun g=>⟨⟨by omega,by decide,h9⟩,fun c=>?_,fun c=>⟨⟨Int.le_refl _,by unfold ak;omega,by unfold ak cq;omega⟩,rfl,⟨Int.le_refl _,by omega,rfl,rfl⟩,fun z ⟨z0,z1,z2,z3⟩=>⟨fun d=>?_,fun d=>?_⟩⟩⟩⟩⟩⟩⟩
 ·have:=ne x h;unfold within ak;omega
 ·obtain ⟨b,r,rfl,hb⟩:=d1 x h
  rw [qG hb]at h2
  rw [List.length_cons]at h1
  refine ⟨by unfold upto ak;rw [List.length_cons];omega,rfl,⟨?_,h2⟩,?_⟩
  ·show r.length≤_;omega
  ·show r.length<(b::r).length;rw [List.length_cons];omega
 ·have:=ne y g;unfold ay ak;omega
 ·have:=ne y g;unfold within ak;omega
 ·obtain ⟨b,r,rfl,hb⟩:=g1 y g
  rw [zT hb]at h4
  rw [List.length_append]at h3
  have hl:(r++[b]).length=r.length+1:=by simp
  have e:ae (r++[b]) (ak (r++[b])-1)=r:=by
   unfold ae ak
   have:(((r++[b]).length:Int)-1).toNat=r.length:=by simp
   rw [this,List.take_left]
  rw [e]
  exact ⟨by unfold ay ak;omega,by unfold upto ak;omega,rfl,⟨by omega,h4⟩,by omega⟩
 ·have hc:je y [9,10,13]=false:=by simpa using c
  have h5:=FP hc
  have h6:y.filter (fun c=>!jR c)=y:=by
   rw [List.filter_eq_self]
   intro b hb
   have:=h5 b hb
   unfold jR
   rw [Bool.not_eq_true',decide_eq_false_iff_not]
   rintro (rfl|rfl|rfl)<;>revert this<;>decide
  show PV.str y=PV.str (ao l)
  unfold ao
  rw [←h4,g0 y g,h6]
 ·have hlt:z.1<y.length:=of_decide_eq_true d
  have hst:=xD y z.1 z0 hlt
  have hby:al y z.1=((y.getD z.1.toNat 0).toNat:Int):=rfl
  have hcr:=(y.getD z.1.toNat 0).toNat_lt
  have hzl:z.2.2.length≤y.length:=by rw [z3];exact Nat.le_trans (List.length_filter_le _ _) (by rw [List.length_take];exact Nat.min_le_right _ _)
  have hzb:bR (al y z.1)=y.getD z.1.toNat 0:=jL y z.1
  rw [hzb,hby,Kx]
  refine ⟨⟨z0,hlt⟩,fun e=>⟨?_,?_,by unfold ay;omega,rfl,⟨by omega,by omega,rfl,?_⟩,by omega⟩,fun e=>⟨by unfold ay;omega,rfl,⟨by omega,by omega,z2,?_⟩,by omega⟩⟩
  ·show py (((y.getD z.1.toNat 0).toNat:Nat):Int);unfold py;omega
  ·rw [List.length_append]
   show((z.2.2.length+1:Nat):Int)≤16777216
   omega
  ·rw [hst,if_neg (by simpa using e),z3]
  ·rw [hst,if_pos (by simpa using e),z3,List.append_nil]
 ·have hge:¬z.1<y.length:=of_decide_eq_false d
  show PV.str z.2.2=PV.str (ao l)
  unfold ao
  rw [z3,←h4,g0 y g,List.take_of_length_le (by omega)])
def kp:List PV→Option aF:=fun xs=>match xs with
 |[.str l]=>some ⟨l.length≤60000,.str (ao l)⟩
 |_=>none
theorem mv:∀xs c,kp xs=some c→ag Tryz.prog az 46 xs c:=fun xs c h=>by
 unfold kp at h
 split at h
 ·injection h with h;subst h;exact FR _
 ·cases h
end
def bT(b:PV)(m:Nat)(sc us pw:Bs)(hk:Int)(hs:Bs)(hn:Int)(hp:List Int)(port:Int)(opq pn:Bool)(pl:List Bs)(hq:Bool)(q:Bs)(hf:Bool)(fg:Bs)(bare sp:Bool)(rst:Bs):PV:=(aD m b sc us pw hk hs hn hp port opq pn pl hq q hf fg bare sp rst)
theorem zW(l:Bs)(sp:Bool):ag Tryz.prog az 136 [.str l,.bool sp] ⟨l.length≤300000,.tup [.agg [.int .i64 (aM sp l).1,.str (aM sp l).2.1,.int .u32 (aM sp l).2.2.1,.arr 8 (.ints .u16 (aM sp l).2.2.2.1)],.int .i64 (aM sp l).2.2.2.2]⟩:=by
 cases sp with
 |true=>exact (tm l).to (fun h=>by show l.length≤1000000;omega) (fun _=>rfl)
 |false=>exact (zR l).to (fun h=>h) (fun _=>rfl)
def jS:List PV→Option aF:=fun xs=>match xs with |[.str l,.bool sp]=>some ⟨l.length≤300000,.tup [.agg [.int .i64 (aM sp l).1,.str (aM sp l).2.1,.int .u32 (aM sp l).2.2.1,.arr 8 (.ints .u16 (aM sp l).2.2.2.1)],.int .i64 (aM sp l).2.2.2.2]⟩|_=>none
theorem qI:∀xs c,jS xs=some c→ag Tryz.prog az 136 xs c:=fun xs c h=>by
 unfold jS at h
 split at h
 ·injection h with h;subst h;exact zW _ _
 ·cases h
theorem Iz(l:Bs):ag Tryz.prog az 119 [.str l] ⟨l.length≤300000∧(ab l l 0).2.2=true,.tup [.str (ab l l 0).1,.str (ab l l 0).2.1,.bool true]⟩:=(tg l).to (fun h=>h.1) (fun h=>by rw [h.2])
theorem IA(l:Bs):ag Tryz.prog az 119 [.str l] ⟨l.length≤300000∧(ab l l 0).2.2=false,.tup [.str (ab l l 0).1,.str (ab l l 0).2.1,.bool false]⟩:=(tg l).to (fun h=>h.1) (fun h=>by rw [h.2])
def qJ:List PV→Option aF:=fun xs=>match xs with |[.str l]=>some ⟨l.length≤300000∧(ab l l 0).2.2=true,.tup [.str (ab l l 0).1,.str (ab l l 0).2.1,.bool true]⟩|_=>none
theorem xE:∀xs c,qJ xs=some c→ag Tryz.prog az 119 xs c:=fun xs c h=>by
 unfold qJ at h
 split at h
 ·injection h with h;subst h;exact Iz _
 ·cases h
def mw:List PV→Option aF:=fun xs=>match xs with |[.str l]=>some ⟨l.length≤300000∧(ab l l 0).2.2=false,.tup [.str (ab l l 0).1,.str (ab l l 0).2.1,.bool false]⟩|_=>none
theorem oG:∀xs c,mw xs=some c→ag Tryz.prog az 119 xs c:=fun xs c h=>by
 unfold mw at h
 split at h
 ·injection h with h;subst h;exact IA _
 ·cases h
def tz(l:Bs):Bool:=decide (l=[])||decide (al l 0=35)
def RS.Lg(x b:RS):RS:={x with hk:=b.hk,hs:=b.hs,hn:=b.hn,hp:=b.hp}
def RS.Lh(x b:RS):RS:={x with pn:=b.pn,pl:=b.pl}
def RS.FT(x b:RS):RS:={x with hq:=b.hq,q:=b.q}
def RS.qK(x b:RS):RS:=if tz x.rst=true then x.FT b else x
def RS.short(x:RS):RS:={x with pn:=(bN x.sc (x.pn,x.pl)).1,pl:=(bN x.sc (x.pn,x.pl)).2}
def RS.cc(x b:RS):RS:=(((RS.Lg {x with hk:=1} b).Lh b).short).path
def RS.au(x b:RS):RS:=(RS.cc {x with sc:=b.sc,bare:=true,sp:=aw b.sc} b).tail
theorem Ky(l:Bs):ag Tryz.prog az 156 [.str l] ⟨l.length≤1000000,.bool (bo l)⟩:=
 ag.b8 Tryz.func156 (by kernel_rfl) rfl fun h0 F w vs _ _ hw hx=>by
  obtain ⟨_,_,rfl,r1,rfl⟩:=hx
  obtain rfl:=r1
  exact ⟨.bool (bo l),(zp l w h0).mono fun e w' ⟨h1,h2⟩=>⟨h1,h2▸Below.refl _ _⟩,fun G w=>rfl⟩
def u9:List PV→Option aF:=fun xs=>match xs with
 |[.str l]=>some ⟨l.length≤1000000,.bool (bo l)⟩
 |_=>none
theorem zX:∀xs c,u9 xs=some c→ag Tryz.prog az 156 xs c:=fun xs c h=>by
 unfold u9 at h
 split at h
 ·injection h with h;subst h;exact Ky _
 ·cases h
section
def tC:cw:=bO [(119,mw),(27,dP),(78,db)]
def tD(sc us pw:Bs)(hk:Int)(hs:Bs)(hn:Int)(hp:List Int)(port:Int)(opq pn:Bool)(pl:List Bs)(hq:Bool)(q:Bs)(hf:Bool)(fg:Bs)(bare sp:Bool)(rst:Bs)(bsc bus bpw:Bs)(bhk:Int)(bhs:Bs)(bhn:Int)(bhp:List Int)(bport:Int)(bopq bpn:Bool)(bpl:List Bs)(bhq:Bool)(bq:Bs)(bhf:Bool)(bfg:Bs):aX:=fun i=>none
theorem va:cW Tryz.prog az tC:=ai oG (ai dQ (ai cK (ax)))
theorem zY(sc us pw:Bs)(hk:Int)(hs:Bs)(hn:Int)(hp:List Int)(port:Int)(opq pn:Bool)(pl:List Bs)(hq:Bool)(q:Bs)(hf:Bool)(fg:Bs)(bare sp:Bool)(rst:Bs)(bsc bus bpw:Bs)(bhk:Int)(bhs:Bs)(bhn:Int)(bhp:List Int)(bport:Int)(bopq bpn:Bool)(bpl:List Bs)(bhq:Bool)(bq:Bs)(bhf:Bool)(bfg:Bs)(k:PV→List PV→Prop):bL Tryz.prog tC az (tD sc us pw hk hs hn hp port opq pn pl hq q hf fg bare sp rst bsc bus bpw bhk bhs bhn bhp bport bopq bpn bpl bhq bq bhf bfg) 1000 Tryz.f75 [.ptr 0 0] [aD 1 (.ptr 1 0) sc us pw hk hs hn hp port opq pn pl hq q hf fg bare sp rst,bC 0 bsc bus bpw bhk bhs bhn bhp bport bopq bpn bpl bhq bq bhf bfg] k=(
 (List.length rst≤(300000:Nat)∧
 (ab rst rst (0:Nat)).2.2=false)∧
 (false=true→
 True∧
 (bopq=true→
 False)∧
 (bopq=false→
 k (PV.int .i64 (0:Int)) [bT (PV.ptr (1:Nat) (0:Nat)) 1 ((ab rst rst (0:Nat)).1) us pw hk hs hn hp port opq pn pl hq q hf fg (!false) (aw (ab rst rst (0:Nat)).1) ((ab rst rst (0:Nat)).2.1),bC (0:Nat) bsc bus bpw bhk bhs bhn bhp bport bopq bpn bpl bhq bq bhf bfg]))∧
 (false=false→
 (false=true→
 (false=true→
 k (PV.int .i64 (8:Int)) [bT (PV.ptr (1:Nat) (0:Nat)) 1 sc us pw hk hs hn hp port opq pn pl hq q hf fg bare sp rst,bC (0:Nat) bsc bus bpw bhk bhs bhn bhp bport bopq bpn bpl bhq bq bhf bfg])∧
 (false=false→
 True∧
 (bopq=true→
 False)∧
 (bopq=false→
 k (PV.int .i64 (0:Int)) [bT (PV.ptr (1:Nat) (0:Nat)) 1 bsc us pw hk hs hn hp port opq pn pl hq q hf fg (!false) (aw bsc) rst,bC (0:Nat) bsc bus bpw bhk bhs bhn bhp bport bopq bpn bpl bhq bq bhf bfg])))∧
 (false=false→
 (bopq=true→
 True)∧
 ((bif bopq then !preB rst (ByteArray.mk #[35]).data.toList else false)=true→
 k (PV.int .i64 (8:Int)) [bT (PV.ptr (1:Nat) (0:Nat)) 1 sc us pw hk hs hn hp port opq pn pl hq q hf fg bare sp rst,bC (0:Nat) bsc bus bpw bhk bhs bhn bhp bport bopq bpn bpl bhq bq bhf bfg])∧
 ((bif bopq then !preB rst (ByteArray.mk #[35]).data.toList else false)=false→
 True∧
 (bopq=true→
 False)∧
 (bopq=false→
 k (PV.int .i64 (0:Int)) [bT (PV.ptr (1:Nat) (0:Nat)) 1 bsc us pw hk hs hn hp port opq pn pl hq q hf fg (!false) (aw bsc) rst,bC (0:Nat) bsc bus bpw bhk bhs bhn bhp bport bopq bpn bpl bhq bq bhf bfg]))))):=by kernel_rfl
attribute [local irreducible] Go.Vc.cG Go.Vc.bL
theorem vc(sc us pw:Bs)(hk:Int)(hs:Bs)(hn:Int)(hp:List Int)(port:Int)(opq pn:Bool)(pl:List Bs)(hq:Bool)(q:Bs)(hf:Bool)(fg:Bs)(bare sp:Bool)(rst:Bs)(bsc bus bpw:Bs)(bhk:Int)(bhs:Bs)(bhn:Int)(bhp:List Int)(bport:Int)(bopq bpn:Bool)(bpl:List Bs)(bhq:Bool)(bq:Bs)(bhf:Bool)(bfg:Bs):bh Tryz.prog az 75 [.ptr 0 0] [aD 1 (.ptr 1 0) sc us pw hk hs hn hp port opq pn pl hq q hf fg bare sp rst,bC 0 bsc bus bpw bhk bhs bhn bhp bport bopq bpn bpl bhq bq bhf bfg] (rst.length≤300000∧(ab rst rst 0).2.2=false∧bopq=false) (.int .i64 0) [aD 1 (.ptr 1 0) bsc us pw hk hs hn hp port opq pn pl hq q hf fg true (aw bsc) rst,bC 0 bsc bus bpw bhk bhs bhn bhp bport bopq bpn bpl bhq bq bhf bfg]:=bu (by kernel_rfl) va (H:=tD sc us pw hk hs hn hp port opq pn pl hq q hf fg bare sp rst bsc bus bpw bhk bhs bhn bhp bport bopq bpn bpl bhq bq bhf bfg) (fuel:=1000) Tryz.func75 (by kernel_rfl) (Nat.le_of_ble_eq_true rfl) fun hpre=>(zY sc us pw hk hs hn hp port opq pn pl hq q hf fg bare sp rst bsc bus bpw bhk bhs bhn bhp bport bopq bpn bpl bhq bq bhf bfg _).mpr (by
 obtain ⟨h1,h2,rfl⟩:=hpre
 exact ⟨⟨h1,h2⟩,nofun,fun _=>⟨nofun,fun _=>⟨nofun,nofun,fun _=>⟨trivial,nofun,fun _=>⟨rfl,rfl⟩⟩⟩⟩⟩)
theorem zZ(sc us pw:Bs)(hk:Int)(hs:Bs)(hn:Int)(hp:List Int)(port:Int)(opq pn:Bool)(pl:List Bs)(hq:Bool)(q:Bs)(hf:Bool)(fg:Bs)(bare sp:Bool)(rst:Bs)(bsc bus bpw:Bs)(bhk:Int)(bhs:Bs)(bhn:Int)(bhp:List Int)(bport:Int)(bopq bpn:Bool)(bpl:List Bs)(bhq:Bool)(bq:Bs)(bhf:Bool)(bfg:Bs):ag Tryz.prog az 75 [.ptr 0 0,aD 1 (.ptr 1 0) sc us pw hk hs hn hp port opq pn pl hq q hf fg bare sp rst,bC 0 bsc bus bpw bhk bhs bhn bhp bport bopq bpn bpl bhq bq bhf bfg] ⟨rst.length≤300000∧(ab rst rst 0).2.2=false∧bopq=false,.tup [.int .i64 0,aD 1 (.ptr 1 0) bsc us pw hk hs hn hp port opq pn pl hq q hf fg true (aw bsc) rst,bC 0 bsc bus bpw bhk bhs bhn bhp bport bopq bpn bpl bhq bq bhf bfg]⟩:=ag.aZ (fun h=>by have e:List.isEmpty (PV.aC PV.bt [.ptr 0 0,aD 1 (.ptr 1 0) sc us pw hk hs hn hp port opq pn pl hq q hf fg bare sp rst,bC 0 bsc bus bpw bhk bhs bhn bhp bport bopq bpn bpl bhq bq bhf bfg])=false:=(by kernel_rfl);exact Bool.noConfusion (e.symm.trans (congrArg List.isEmpty h))) (vc sc us pw hk hs hn hp port opq pn pl hq q hf fg bare sp rst bsc bus bpw bhk bhs bhn bhp bport bopq bpn bpl bhq bq bhf bfg)
def jT:List PV→Option aF:=fun xs=>match xs with
 |[.ptr 0 0,aD 1 (.ptr 1 0) sc us pw hk hs hn hp port opq pn pl hq q hf fg bare sp rst,bC 0 bsc bus bpw bhk bhs bhn bhp bport bopq bpn bpl bhq bq bhf bfg]=>some ⟨rst.length≤300000∧(ab rst rst 0).2.2=false∧bopq=false,.tup [.int .i64 0,aD 1 (.ptr 1 0) bsc us pw hk hs hn hp port opq pn pl hq q hf fg true (aw bsc) rst,bC 0 bsc bus bpw bhk bhs bhn bhp bport bopq bpn bpl bhq bq bhf bfg]⟩
 |_=>none
theorem qL:∀xs c,jT xs=some c→ag Tryz.prog az 75 xs c:=fun xs c h=>by
 unfold jT at h
 split at h
 ·injection h with h;subst h;exact zZ _ _ _ _ _ _ _ _ _ _ _ _ _ _ _ _ _ _ _ _ _ _ _ _ _ _ _ _ _ _ _ _ _
 ·cases h
end
section
def Bz:cw:=bO []
def BA(bp:Option Addr)(sc us pw:Bs)(hk:Int)(hs:Bs)(hn:Int)(hp:List Int)(port:Int)(opq pn:Bool)(pl:List Bs)(hq:Bool)(q:Bs)(hf:Bool)(fg:Bs)(bare sp:Bool)(rst:Bs)(at_:Int):aX:=fun i=>none
theorem z6:cW Tryz.prog az Bz:=ax
theorem FU(bp:Option Addr)(sc us pw:Bs)(hk:Int)(hs:Bs)(hn:Int)(hp:List Int)(port:Int)(opq pn:Bool)(pl:List Bs)(hq:Bool)(q:Bs)(hf:Bool)(fg:Bs)(bare sp:Bool)(rst:Bs)(at_:Int)(k:PV→List PV→Prop):bL Tryz.prog Bz az (BA bp sc us pw hk hs hn hp port opq pn pl hq q hf fg bare sp rst at_) 1000 Tryz.f82 [.ptr 0 0,.int .i64 at_] [aD 1 (.raw (.pointer bp)) sc us pw hk hs hn hp port opq pn pl hq q hf fg bare sp rst] k=(
 (decide (at_<ak rst)=true→
 within at_ (ak rst))∧
 (decide (at_<ak rst)=true→
 decide (al rst at_=(47:Int))=false→
 sp=true→
 within at_ (ak rst))∧
 k (PV.bool (bif decide (at_<ak rst)then bif decide (al rst at_=(47:Int))then true else bif sp then decide (al rst at_=(92:Int))else false else false)) [bT (PV.raw (Go.Value.pointer bp)) 1 sc us pw hk hs hn hp port opq pn pl hq q hf fg bare sp rst]):=by kernel_rfl
attribute [local irreducible] Go.Vc.cG Go.Vc.bL
theorem qM(bp:Option Addr)(sc us pw:Bs)(hk:Int)(hs:Bs)(hn:Int)(hp:List Int)(port:Int)(opq pn:Bool)(pl:List Bs)(hq:Bool)(q:Bs)(hf:Bool)(fg:Bs)(bare sp:Bool)(rst:Bs)(at_:Int):bh Tryz.prog az 82 [.ptr 0 0,.int .i64 at_] [aD 1 (.raw (.pointer bp)) sc us pw hk hs hn hp port opq pn pl hq q hf fg bare sp rst] (0≤at_∧at_<1000) (.bool (aA sp rst at_)) [aD 1 (.raw (.pointer bp)) sc us pw hk hs hn hp port opq pn pl hq q hf fg bare sp rst]:=bu (by kernel_rfl) z6 (H:=BA bp sc us pw hk hs hn hp port opq pn pl hq q hf fg bare sp rst at_) (fuel:=1000) Tryz.func82 (by kernel_rfl) (Nat.le_of_ble_eq_true rfl) fun hpre=>(FU bp sc us pw hk hs hn hp port opq pn pl hq q hf fg bare sp rst at_ _).mpr (by
 refine ⟨fun h=>?_,fun h _ _=>?_,?_,rfl⟩
 ·unfold within;simp at h;omega
 ·unfold within;simp at h;omega
 ·congr 1
  by_cases h1:at_<ak rst<;>by_cases h2:al rst at_=47<;>cases sp<;>simp [aA,h1,h2])
theorem FV(bp:Option Addr)(sc us pw:Bs)(hk:Int)(hs:Bs)(hn:Int)(hp:List Int)(port:Int)(opq pn:Bool)(pl:List Bs)(hq:Bool)(q:Bs)(hf:Bool)(fg:Bs)(bare sp:Bool)(rst:Bs)(at_:Int):ag Tryz.prog az 82 [.ptr 0 0,.int .i64 at_,aD 1 (.raw (.pointer bp)) sc us pw hk hs hn hp port opq pn pl hq q hf fg bare sp rst] ⟨0≤at_∧at_<1000,.tup [.bool (aA sp rst at_),aD 1 (.raw (.pointer bp)) sc us pw hk hs hn hp port opq pn pl hq q hf fg bare sp rst]⟩:=ag.aZ (fun h=>by have e:List.isEmpty (PV.aC PV.bt [.ptr 0 0,.int .i64 at_,aD 1 (.raw (.pointer bp)) sc us pw hk hs hn hp port opq pn pl hq q hf fg bare sp rst])=false:=(by kernel_rfl);exact Bool.noConfusion (e.symm.trans (congrArg List.isEmpty h))) (qM bp sc us pw hk hs hn hp port opq pn pl hq q hf fg bare sp rst at_)
def gr:List PV→Option aF:=fun xs=>match xs with
 |[.ptr 0 0,.int .i64 at_,aD 1 (.raw (.pointer bp)) sc us pw hk hs hn hp port opq pn pl hq q hf fg bare sp rst]=>some ⟨0≤at_∧at_<1000,.tup [.bool (aA sp rst at_),aD 1 (.raw (.pointer bp)) sc us pw hk hs hn hp port opq pn pl hq q hf fg bare sp rst]⟩
 |_=>none
theorem gi:∀xs c,gr xs=some c→ag Tryz.prog az 82 xs c:=fun xs c h=>by
 unfold gr at h
 split at h
 ·injection h with h;subst h;exact FV _ _ _ _ _ _ _ _ _ _ _ _ _ _ _ _ _ _ _ _
 ·cases h
end
section
def oH:cw:=bO [(82,gr)]
def oI(bp:Option Addr)(sc us pw:Bs)(hk:Int)(hs:Bs)(hn:Int)(hp:List Int)(port:Int)(opq pn:Bool)(pl:List Bs)(hq:Bool)(q:Bs)(hf:Bool)(fg:Bs)(bare sp:Bool)(rst:Bs):aX:=fun i=>none
theorem qN:cW Tryz.prog az oH:=ai gi (ax)
theorem vd(bp:Option Addr)(sc us pw:Bs)(hk:Int)(hs:Bs)(hn:Int)(hp:List Int)(port:Int)(opq pn:Bool)(pl:List Bs)(hq:Bool)(q:Bs)(hf:Bool)(fg:Bs)(bare sp:Bool)(rst:Bs)(k:PV→List PV→Prop):bL Tryz.prog oH az (oI bp sc us pw hk hs hn hp port opq pn pl hq q hf fg bare sp rst) 1000 Tryz.f84 [.ptr 0 0] [aD 1 (.raw (.pointer bp)) sc us pw hk hs hn hp port opq pn pl hq q hf fg bare sp rst] k=(
 ((0:Int)≤(0:Int)∧
 (0:Int)<(1000:Int))∧
 ((!aA sp rst (0:Int))=true→
 k (PV.bool false) [bT (PV.raw (Go.Value.pointer bp)) 1 sc us pw hk hs hn hp port opq pn pl hq q hf fg bare sp rst])∧
 ((!aA sp rst (0:Int))=false→
 upto (1:Int) (ak rst) (ak rst)∧
 k (PV.bool true) [bT (PV.raw (Go.Value.pointer bp)) 1 sc us pw hk hs hn hp port opq pn pl hq q hf fg bare sp (aa rst (1:Int))])):=by kernel_rfl
attribute [local irreducible] Go.Vc.cG Go.Vc.bL
theorem jU(bp:Option Addr)(sc us pw:Bs)(hk:Int)(hs:Bs)(hn:Int)(hp:List Int)(port:Int)(opq pn:Bool)(pl:List Bs)(hq:Bool)(q:Bs)(hf:Bool)(fg:Bs)(bare sp:Bool)(rst:Bs):bh Tryz.prog az 84 [.ptr 0 0] [aD 1 (.raw (.pointer bp)) sc us pw hk hs hn hp port opq pn pl hq q hf fg bare sp rst] (True) (.bool (aA sp rst 0)) [aD 1 (.raw (.pointer bp)) sc us pw hk hs hn hp port opq pn pl hq q hf fg bare sp (if aA sp rst 0=true then aa rst 1 else rst)]:=bu (by kernel_rfl) qN (H:=oI bp sc us pw hk hs hn hp port opq pn pl hq q hf fg bare sp rst) (fuel:=1000) Tryz.func84 (by kernel_rfl) (Nat.le_of_ble_eq_true rfl) fun hpre=>(vd bp sc us pw hk hs hn hp port opq pn pl hq q hf fg bare sp rst _).mpr (by
 refine ⟨by omega,fun h=>?_,fun h=>⟨?_,?_⟩⟩
 ·rw [show aA sp rst 0=false by simpa using h];exact ⟨rfl,rfl⟩
 ·have:=u7 (show aA sp rst 0=true by simpa using h)
  unfold upto;omega
 ·rw [show aA sp rst 0=true by simpa using h];exact ⟨rfl,rfl⟩)
theorem ve(bp:Option Addr)(sc us pw:Bs)(hk:Int)(hs:Bs)(hn:Int)(hp:List Int)(port:Int)(opq pn:Bool)(pl:List Bs)(hq:Bool)(q:Bs)(hf:Bool)(fg:Bs)(bare sp:Bool)(rst:Bs):ag Tryz.prog az 84 [.ptr 0 0,aD 1 (.raw (.pointer bp)) sc us pw hk hs hn hp port opq pn pl hq q hf fg bare sp rst] ⟨True,.tup [.bool (aA sp rst 0),aD 1 (.raw (.pointer bp)) sc us pw hk hs hn hp port opq pn pl hq q hf fg bare sp (if aA sp rst 0=true then aa rst 1 else rst)]⟩:=ag.aZ (fun h=>by have e:List.isEmpty (PV.aC PV.bt [.ptr 0 0,aD 1 (.raw (.pointer bp)) sc us pw hk hs hn hp port opq pn pl hq q hf fg bare sp rst])=false:=(by kernel_rfl);exact Bool.noConfusion (e.symm.trans (congrArg List.isEmpty h))) (jU bp sc us pw hk hs hn hp port opq pn pl hq q hf fg bare sp rst)
def fw:List PV→Option aF:=fun xs=>match xs with
 |[.ptr 0 0,aD 1 (.raw (.pointer bp)) sc us pw hk hs hn hp port opq pn pl hq q hf fg bare sp rst]=>some ⟨True,.tup [.bool (aA sp rst 0),aD 1 (.raw (.pointer bp)) sc us pw hk hs hn hp port opq pn pl hq q hf fg bare sp (if aA sp rst 0=true then aa rst 1 else rst)]⟩
 |_=>none
theorem iK:∀xs c,fw xs=some c→ag Tryz.prog az 84 xs c:=fun xs c h=>by
 unfold fw at h
 split at h
 ·injection h with h;subst h;exact ve _ _ _ _ _ _ _ _ _ _ _ _ _ _ _ _ _ _ _
 ·cases h
end
section
def kI:cw:=bO [(82,gr)]
def kJ(bp:Option Addr)(sc us pw:Bs)(hk:Int)(hs:Bs)(hn:Int)(hp:List Int)(port:Int)(opq pn:Bool)(pl:List Bs)(hq:Bool)(q:Bs)(hf:Bool)(fg:Bs)(bare sp:Bool)(rst:Bs):aX:=fun i=>bif Nat.beq i 1 then some ⟨(Int)×(Bs),(fun s x=>((((((((((((((s.put 2 (.int .i64 x.1)).K4 0 [4] (.str x.2)).put 3 .undef).put 4 .undef).put 5 .undef).put 6 .undef).put 7 .undef).put 8 .undef).put 9 .undef).put 10 .undef).put 11 .undef).put 12 .undef).put 13 .undef).put 14 .undef)),(fun s=>(s.int 2,(s.bx 0 [4]).dh)),(fun s x=>let n:=x.1;let x:=x.2;0≤n∧n+x.length=rst.length∧aB x.length sp n x=aB rst.length sp 0 rst),(fun s x=>let n:=x.1;let x:=x.2;x.length),[3,4,5,6,7,8,9,10,11,12,13,14]⟩else none
theorem nJ:cW Tryz.prog az kI:=ai gi (ax)
theorem qO(bp:Option Addr)(sc us pw:Bs)(hk:Int)(hs:Bs)(hn:Int)(hp:List Int)(port:Int)(opq pn:Bool)(pl:List Bs)(hq:Bool)(q:Bs)(hf:Bool)(fg:Bs)(bare sp:Bool)(rst:Bs)(k:PV→List PV→Prop):bL Tryz.prog kI az (kJ bp sc us pw hk hs hn hp port opq pn pl hq q hf fg bare sp rst) 1000 Tryz.f79 [.ptr 0 0] [aD 1 (.raw (.pointer bp)) sc us pw hk hs hn hp port opq pn pl hq q hf fg bare sp rst] k=(
 VS.mk [] [(0,PV.ptr (0:Nat) (0:Nat)),(2,PV.int .i64 (0:Int)),((14:Nat),PV.undef)] [((0:Nat),bT (PV.raw (Go.Value.pointer bp)) 1 sc us pw hk hs hn hp port opq pn pl hq q hf fg bare sp rst)]=VS.mk [] [(0,PV.ptr (0:Nat) (0:Nat)),((2:Nat),PV.int .i64 (0:Int)),((14:Nat),PV.undef)] [((0:Nat),bT (PV.raw (Go.Value.pointer bp)) 1 sc us pw hk hs hn hp port opq pn pl hq q hf fg bare sp rst)]∧
 ((0:Int)≤(0:Int)∧
 (0:Int)+↑(List.length rst)=↑(List.length rst)∧
 aB (List.length rst) sp (0:Int) rst=aB (List.length rst) sp (0:Int) rst)∧
 ∀(x:Int×Bs),(0:Int)≤x.1∧
 x.1+↑(List.length x.2)=↑(List.length rst)∧
 aB (List.length x.2) sp x.1 x.2=aB (List.length rst) sp (0:Int) rst→
 ((0:Int)≤(0:Int)∧
 (0:Int)<(1000:Int))∧
 ((bif aA sp x.2 (0:Int)then bif sp then true else decide (x.1<(2:Int))else false)=true→
 upto (1:Int) (ak x.2) (ak x.2)∧
 ay (x.1+(1:Int))∧
 kz (VS.mk [] [(0,PV.ptr (0:Nat) (0:Nat)),((2:Nat),PV.int .i64 (x.1+(1:Int))),((14:Nat),PV.undef)] [((0:Nat),bT (PV.raw (Go.Value.pointer bp)) 1 sc us pw hk hs hn hp port opq pn pl hq q hf fg bare sp (aa x.2 (1:Int)))])∧
 ((0:Int)≤x.1+(1:Int)∧
 x.1+(1:Int)+↑(aa x.2 (1:Int)).length=↑(List.length rst)∧
 aB (aa x.2 (1:Int)).length sp (x.1+(1:Int)) (aa x.2 (1:Int))=aB (List.length rst) sp (0:Int) rst)∧
 (aa x.2 (1:Int)).length<List.length x.2)∧
 ((bif aA sp x.2 (0:Int)then bif sp then true else decide (x.1<(2:Int))else false)=false→
 k (PV.tup []) [bT (PV.raw (Go.Value.pointer bp)) 1 sc us pw hk hs hn hp port opq pn pl hq q hf fg bare sp x.2])):=by kernel_rfl
attribute [local irreducible] Go.Vc.cG Go.Vc.bL
theorem nK(bp:Option Addr)(sc us pw:Bs)(hk:Int)(hs:Bs)(hn:Int)(hp:List Int)(port:Int)(opq pn:Bool)(pl:List Bs)(hq:Bool)(q:Bs)(hf:Bool)(fg:Bs)(bare sp:Bool)(rst:Bs):bh Tryz.prog az 79 [.ptr 0 0] [aD 1 (.raw (.pointer bp)) sc us pw hk hs hn hp port opq pn pl hq q hf fg bare sp rst] (rst.length≤300000) (.tup []) [aD 1 (.raw (.pointer bp)) sc us pw hk hs hn hp port opq pn pl hq q hf fg bare sp (aB rst.length sp 0 rst)]:=bu (by kernel_rfl) nJ (H:=kJ bp sc us pw hk hs hn hp port opq pn pl hq q hf fg bare sp rst) (fuel:=1000) Tryz.func79 (by kernel_rfl) (Nat.le_of_ble_eq_true rfl) fun hpre=>(qO bp sc us pw hk hs hn hp port opq pn pl hq q hf fg bare sp rst _).mpr (by
 refine ⟨rfl,⟨by omega,by omega,rfl⟩,fun x ⟨h0,h1,h2⟩=>⟨by omega,fun hc=>?_,fun hc=>?_⟩⟩
 ·have hc:aA sp x.2 0=true∧(sp=true∨x.1<2):=by
   cases h:aA sp x.2 0<;>cases hs:sp<;>simp_all
  have hp:=xx hc.1
  have hl:=tu hp
  refine ⟨?_,?_,rfl,⟨by omega,by omega,?_⟩,by omega⟩
  ·unfold upto ak;omega
  ·unfold ay;omega
  ·rw [←xy hc];exact h2
 ·have hc:¬(aA sp x.2 0=true∧(sp=true∨x.1<2)):=by
   cases h:aA sp x.2 0<;>cases hs:sp<;>simp_all
  rw [←h2,Bu hc];exact ⟨rfl,rfl⟩)
theorem qP(bp:Option Addr)(sc us pw:Bs)(hk:Int)(hs:Bs)(hn:Int)(hp:List Int)(port:Int)(opq pn:Bool)(pl:List Bs)(hq:Bool)(q:Bs)(hf:Bool)(fg:Bs)(bare sp:Bool)(rst:Bs):ag Tryz.prog az 79 [.ptr 0 0,aD 1 (.raw (.pointer bp)) sc us pw hk hs hn hp port opq pn pl hq q hf fg bare sp rst] ⟨rst.length≤300000,.tup [.tup [],aD 1 (.raw (.pointer bp)) sc us pw hk hs hn hp port opq pn pl hq q hf fg bare sp (aB rst.length sp 0 rst)]⟩:=ag.aZ (fun h=>by have e:List.isEmpty (PV.aC PV.bt [.ptr 0 0,aD 1 (.raw (.pointer bp)) sc us pw hk hs hn hp port opq pn pl hq q hf fg bare sp rst])=false:=(by kernel_rfl);exact Bool.noConfusion (e.symm.trans (congrArg List.isEmpty h))) (nK bp sc us pw hk hs hn hp port opq pn pl hq q hf fg bare sp rst)
def fU:List PV→Option aF:=fun xs=>match xs with
 |[.ptr 0 0,aD 1 (.raw (.pointer bp)) sc us pw hk hs hn hp port opq pn pl hq q hf fg bare sp rst]=>some ⟨rst.length≤300000,.tup [.tup [],aD 1 (.raw (.pointer bp)) sc us pw hk hs hn hp port opq pn pl hq q hf fg bare sp (aB rst.length sp 0 rst)]⟩
 |_=>none
theorem lu:∀xs c,fU xs=some c→ag Tryz.prog az 79 xs c:=fun xs c h=>by
 unfold fU at h
 split at h
 ·injection h with h;subst h;exact qP _ _ _ _ _ _ _ _ _ _ _ _ _ _ _ _ _ _ _
 ·cases h
end
section
theorem FW(l m:Bs):(bif decide (ak m≤ak l)then decide (ae l (ak m)=m)else false)=preB l m:=by
 unfold preB
 rw [←Lib.hasPrefix_of_take]
 unfold ak ae
 rw [Int.toNat_natCast]
 have:decide ((m.length:Int)≤l.length)=decide (m.length≤l.length):=by rw [decide_eq_decide];omega
 rw [this,Bool.eq_iff_iff]
 cases decide (m.length≤l.length)<;>simp
theorem IB {l m:Bs}(h:preB l m=true):m.length≤l.length:=by
 rw [←FW]at h
 cases e:decide (ak m≤ak l)with
 |false=>rw [e]at h;cases h
 |true=>have:=of_decide_eq_true e;unfold ak at this;omega
def FX:cw:=bO []
def FY(l m:Bs):aX:=fun i=>none
theorem Dl:cW Tryz.prog az FX:=ax
theorem IC(l m:Bs)(k:PV→Prop):cG Tryz.prog FX az (FY l m) 1000 Tryz.f126 [.str l,.str m] k=(
 (decide (ak m≤ak l)=true→upto (0:Int) (ak m) (ak l))∧
 k (PV.bool (bif decide (ak m≤ak l)then decide (ae l (ak m)=m)else false))):=by kernel_rfl
attribute [local irreducible] Go.Vc.cG
theorem ID(l m:Bs):ag Tryz.prog az 126 [.str l,.str m] ⟨True,.bool (preB l m)⟩:=b7 (by kernel_rfl) Dl (H:=FY l m) (fuel:=1000) Tryz.func126 (by kernel_rfl) fun hpre=>(IC l m _).mpr (by
 refine ⟨fun h=>⟨by omega,by unfold ak;omega,of_decide_eq_true h⟩,?_⟩
 rw [FW])
def qQ:List PV→Option aF:=fun xs=>match xs with
 |[.str l,.str m]=>some ⟨True,.bool (preB l m)⟩
 |_=>none
theorem xF:∀xs c,qQ xs=some c→ag Tryz.prog az 126 xs c:=fun xs c h=>by
 unfold qQ at h
 split at h
 ·injection h with h;subst h;exact ID _ _
 ·cases h
end
section
def aj(l m:Bs):Bs×Bool:=if preB l m=true then(aa l (ak m),true)else(l,false)
def BC:cw:=bO [(126,qQ)]
def BD(l m:Bs):aX:=fun i=>none
theorem z7:cW Tryz.prog az BC:=ai xF (ax)
theorem FZ(l m:Bs)(k:PV→Prop):cG Tryz.prog BC az (BD l m) 1000 Tryz.f157 [.str l,.str m] k=(
 True∧
 ((!preB l m)=true→k (PV.tup [PV.str l,PV.bool false]))∧
 ((!preB l m)=false→
 upto (ak m) (ak l) (ak l)∧k (PV.tup [PV.str (aa l (ak m)),PV.bool true]))):=by kernel_rfl
attribute [local irreducible] Go.Vc.cG
theorem F1(l m:Bs):ag Tryz.prog az 157 [.str l,.str m] ⟨True,.tup [.str (aj l m).1,.bool (aj l m).2]⟩:=b7 (by kernel_rfl) z7 (H:=BD l m) (fuel:=1000) Tryz.func157 (by kernel_rfl) fun hpre=>(FZ l m _).mpr (by
 refine ⟨trivial,fun h=>?_,fun h=>⟨?_,?_⟩⟩
 ·unfold aj;rw [if_neg (by intro e;rw [e]at h;cases h)]
 ·have:=IB (show preB l m=true by simpa using h)
  unfold upto ak;omega
 ·unfold aj;rw [if_pos (by simpa using h)])
def nL:List PV→Option aF:=fun xs=>match xs with
 |[.str l,.str m]=>some ⟨True,.tup [.str (aj l m).1,.bool (aj l m).2]⟩
 |_=>none
theorem vf:∀xs c,nL xs=some c→ag Tryz.prog az 157 xs c:=fun xs c h=>by
 unfold nL at h
 split at h
 ·injection h with h;subst h;exact F1 _ _
 ·cases h
end
section
def F2:cw:=bO [(157,nL)]
def F3(l m:Bs):aX:=fun i=>none
theorem Dm:cW Tryz.prog az F2:=ai vf (ax)
theorem IE(l m:Bs)(k:PV→Prop):cG Tryz.prog F2 az (F3 l m) 1000 Tryz.f127 [.str l,.str m] k=(
 True∧k (PV.tup [PV.str (aj l m).1,PV.bool (aj l m).2])):=by kernel_rfl
attribute [local irreducible] Go.Vc.cG
theorem IF(l m:Bs):ag Tryz.prog az 127 [.str l,.str m] ⟨True,.tup [.str (aj l m).1,.bool (aj l m).2]⟩:=b7 (by kernel_rfl) Dm (H:=F3 l m) (fuel:=1000) Tryz.func127 (by kernel_rfl) fun hpre=>(IE l m _).mpr (by
 exact ⟨trivial,rfl⟩)
def my:List PV→Option aF:=fun xs=>match xs with
 |[.str l,.str m]=>some ⟨True,.tup [.str (aj l m).1,.bool (aj l m).2]⟩
 |_=>none
theorem oJ:∀xs c,my xs=some c→ag Tryz.prog az 127 xs c:=fun xs c h=>by
 unfold my at h
 split at h
 ·injection h with h;subst h;exact IF _ _
 ·cases h
end
section
def F4:cw:=bO [(127,my)]
def F5(bp:Option Addr)(sc us pw:Bs)(hk:Int)(hs:Bs)(hn:Int)(hp:List Int)(port:Int)(opq pn:Bool)(pl:List Bs)(hq:Bool)(q:Bs)(hf:Bool)(fg:Bs)(bare sp:Bool)(rst:Bs)(p:Bs):aX:=fun i=>none
theorem Dn:cW Tryz.prog az F4:=ai oJ (ax)
theorem IG(bp:Option Addr)(sc us pw:Bs)(hk:Int)(hs:Bs)(hn:Int)(hp:List Int)(port:Int)(opq pn:Bool)(pl:List Bs)(hq:Bool)(q:Bs)(hf:Bool)(fg:Bs)(bare sp:Bool)(rst:Bs)(p:Bs)(k:PV→List PV→Prop):bL Tryz.prog F4 az (F5 bp sc us pw hk hs hn hp port opq pn pl hq q hf fg bare sp rst p) 1000 Tryz.f80 [.ptr 0 0,.str p] [aD 1 (.raw (.pointer bp)) sc us pw hk hs hn hp port opq pn pl hq q hf fg bare sp rst] k=(
 True∧
 k (PV.bool (aj rst p).2) [bT (PV.raw (Go.Value.pointer bp)) 1 sc us pw hk hs hn hp port opq pn pl hq q hf fg bare sp ((aj rst p).1)]):=by kernel_rfl
attribute [local irreducible] Go.Vc.cG Go.Vc.bL
theorem Dp(bp:Option Addr)(sc us pw:Bs)(hk:Int)(hs:Bs)(hn:Int)(hp:List Int)(port:Int)(opq pn:Bool)(pl:List Bs)(hq:Bool)(q:Bs)(hf:Bool)(fg:Bs)(bare sp:Bool)(rst:Bs)(p:Bs):bh Tryz.prog az 80 [.ptr 0 0,.str p] [aD 1 (.raw (.pointer bp)) sc us pw hk hs hn hp port opq pn pl hq q hf fg bare sp rst] (True) (.bool (aj rst p).2) [aD 1 (.raw (.pointer bp)) sc us pw hk hs hn hp port opq pn pl hq q hf fg bare sp ((aj rst p).1)]:=bu (by kernel_rfl) Dn (H:=F5 bp sc us pw hk hs hn hp port opq pn pl hq q hf fg bare sp rst p) (fuel:=1000) Tryz.func80 (by kernel_rfl) (Nat.le_of_ble_eq_true rfl) fun hpre=>(IG bp sc us pw hk hs hn hp port opq pn pl hq q hf fg bare sp rst p _).mpr (by
 exact ⟨trivial,rfl,rfl⟩)
theorem IH(bp:Option Addr)(sc us pw:Bs)(hk:Int)(hs:Bs)(hn:Int)(hp:List Int)(port:Int)(opq pn:Bool)(pl:List Bs)(hq:Bool)(q:Bs)(hf:Bool)(fg:Bs)(bare sp:Bool)(rst:Bs)(p:Bs):ag Tryz.prog az 80 [.ptr 0 0,.str p,aD 1 (.raw (.pointer bp)) sc us pw hk hs hn hp port opq pn pl hq q hf fg bare sp rst] ⟨True,.tup [.bool (aj rst p).2,aD 1 (.raw (.pointer bp)) sc us pw hk hs hn hp port opq pn pl hq q hf fg bare sp ((aj rst p).1)]⟩:=ag.aZ (fun h=>by have e:List.isEmpty (PV.aC PV.bt [.ptr 0 0,.str p,aD 1 (.raw (.pointer bp)) sc us pw hk hs hn hp port opq pn pl hq q hf fg bare sp rst])=false:=(by kernel_rfl);exact Bool.noConfusion (e.symm.trans (congrArg List.isEmpty h))) (Dp bp sc us pw hk hs hn hp port opq pn pl hq q hf fg bare sp rst p)
def jV:List PV→Option aF:=fun xs=>match xs with
 |[.ptr 0 0,.str p,aD 1 (.raw (.pointer bp)) sc us pw hk hs hn hp port opq pn pl hq q hf fg bare sp rst]=>some ⟨True,.tup [.bool (aj rst p).2,aD 1 (.raw (.pointer bp)) sc us pw hk hs hn hp port opq pn pl hq q hf fg bare sp ((aj rst p).1)]⟩
 |_=>none
theorem jW:∀xs c,jV xs=some c→ag Tryz.prog az 80 xs c:=fun xs c h=>by
 unfold jV at h
 split at h
 ·injection h with h;subst h;exact IH _ _ _ _ _ _ _ _ _ _ _ _ _ _ _ _ _ _ _ _
 ·cases h
end
section
def xG:cw:=bO []
def xH(bp:Option Addr)(sc us pw:Bs)(hk:Int)(hs:Bs)(hn:Int)(hp:List Int)(port:Int)(opq pn:Bool)(pl:List Bs)(hq:Bool)(q:Bs)(hf:Bool)(fg:Bs)(bare sp:Bool)(rst:Bs):aX:=fun i=>none
theorem xI:cW Tryz.prog az xG:=ax
theorem Dq(bp:Option Addr)(sc us pw:Bs)(hk:Int)(hs:Bs)(hn:Int)(hp:List Int)(port:Int)(opq pn:Bool)(pl:List Bs)(hq:Bool)(q:Bs)(hf:Bool)(fg:Bs)(bare sp:Bool)(rst:Bs)(k:PV→List PV→Prop):bL Tryz.prog xG az (xH bp sc us pw hk hs hn hp port opq pn pl hq q hf fg bare sp rst) 1000 Tryz.f89 [.ptr 0 0] [aD 1 (.raw (.pointer bp)) sc us pw hk hs hn hp port opq pn pl hq q hf fg bare sp rst] k=(
 (decide (rst=(ByteArray.mk #[]).data.toList)=false→
 within (0:Int) (ak rst))∧
 ((bif decide (rst=(ByteArray.mk #[]).data.toList)then true else decide (al rst (0:Int)=(63:Int)))=false→
 within (0:Int) (ak rst))∧
 k (PV.bool (bif bif decide (rst=(ByteArray.mk #[]).data.toList)then true else decide (al rst (0:Int)=(63:Int))then true else decide (al rst (0:Int)=(35:Int)))) [bT (PV.raw (Go.Value.pointer bp)) 1 sc us pw hk hs hn hp port opq pn pl hq q hf fg bare sp rst]):=by kernel_rfl
attribute [local irreducible] Go.Vc.cG Go.Vc.bL
theorem oK(bp:Option Addr)(sc us pw:Bs)(hk:Int)(hs:Bs)(hn:Int)(hp:List Int)(port:Int)(opq pn:Bool)(pl:List Bs)(hq:Bool)(q:Bs)(hf:Bool)(fg:Bs)(bare sp:Bool)(rst:Bs):bh Tryz.prog az 89 [.ptr 0 0] [aD 1 (.raw (.pointer bp)) sc us pw hk hs hn hp port opq pn pl hq q hf fg bare sp rst] (True) (.bool (bQ rst)) [aD 1 (.raw (.pointer bp)) sc us pw hk hs hn hp port opq pn pl hq q hf fg bare sp rst]:=bu (by kernel_rfl) xI (H:=xH bp sc us pw hk hs hn hp port opq pn pl hq q hf fg bare sp rst) (fuel:=1000) Tryz.func89 (by kernel_rfl) (Nat.le_of_ble_eq_true rfl) fun hpre=>(Dq bp sc us pw hk hs hn hp port opq pn pl hq q hf fg bare sp rst _).mpr (by
 have h0:decide (rst=(ByteArray.mk #[]).data.toList)=false→within 0 (ak rst):=fun h=>by
  have:=of_decide_eq_false h
  have:0<rst.length:=List.length_pos_iff.2 this
  unfold within ak;omega
 refine ⟨h0,fun h=>h0 ?_,?_,rfl⟩
 ·cases hd:decide (rst=(ByteArray.mk #[]).data.toList)with
  |false=>rfl
  |true=>rw [hd]at h;cases h
 ·congr 1
  have e:bQ rst=(decide (rst=(ByteArray.mk #[]).data.toList)||(decide (al rst 0=63)||decide (al rst 0=35))):=rfl
  rw [e]
  cases decide (rst=(ByteArray.mk #[]).data.toList)<;>cases decide (al rst 0=63)<;>cases decide (al rst 0=35)<;>rfl)
theorem Dr(bp:Option Addr)(sc us pw:Bs)(hk:Int)(hs:Bs)(hn:Int)(hp:List Int)(port:Int)(opq pn:Bool)(pl:List Bs)(hq:Bool)(q:Bs)(hf:Bool)(fg:Bs)(bare sp:Bool)(rst:Bs):ag Tryz.prog az 89 [.ptr 0 0,aD 1 (.raw (.pointer bp)) sc us pw hk hs hn hp port opq pn pl hq q hf fg bare sp rst] ⟨True,.tup [.bool (bQ rst),aD 1 (.raw (.pointer bp)) sc us pw hk hs hn hp port opq pn pl hq q hf fg bare sp rst]⟩:=ag.aZ (fun h=>by have e:List.isEmpty (PV.aC PV.bt [.ptr 0 0,aD 1 (.raw (.pointer bp)) sc us pw hk hs hn hp port opq pn pl hq q hf fg bare sp rst])=false:=(by kernel_rfl);exact Bool.noConfusion (e.symm.trans (congrArg List.isEmpty h))) (oK bp sc us pw hk hs hn hp port opq pn pl hq q hf fg bare sp rst)
def lv:List PV→Option aF:=fun xs=>match xs with
 |[.ptr 0 0,aD 1 (.raw (.pointer bp)) sc us pw hk hs hn hp port opq pn pl hq q hf fg bare sp rst]=>some ⟨True,.tup [.bool (bQ rst),aD 1 (.raw (.pointer bp)) sc us pw hk hs hn hp port opq pn pl hq q hf fg bare sp rst]⟩
 |_=>none
theorem rX:∀xs c,lv xs=some c→ag Tryz.prog az 89 xs c:=fun xs c h=>by
 unfold lv at h
 split at h
 ·injection h with h;subst h;exact Dr _ _ _ _ _ _ _ _ _ _ _ _ _ _ _ _ _ _ _
 ·cases h
end
section
def tE:cw:=bO []
def tF(bp:Option Addr)(sc us pw:Bs)(hk:Int)(hs:Bs)(hn:Int)(hp:List Int)(port:Int)(opq pn:Bool)(pl:List Bs)(hq:Bool)(q:Bs)(hf:Bool)(fg:Bs)(bare sp:Bool)(rst:Bs):aX:=fun i=>none
theorem vg:cW Tryz.prog az tE:=ax
theorem Aa(bp:Option Addr)(sc us pw:Bs)(hk:Int)(hs:Bs)(hn:Int)(hp:List Int)(port:Int)(opq pn:Bool)(pl:List Bs)(hq:Bool)(q:Bs)(hf:Bool)(fg:Bs)(bare sp:Bool)(rst:Bs)(k:PV→List PV→Prop):bL Tryz.prog tE az (tF bp sc us pw hk hs hn hp port opq pn pl hq q hf fg bare sp rst) 1000 Tryz.f138 [.ptr 0 0] [aD 1 (.raw (.pointer bp)) sc us pw hk hs hn hp port opq pn pl hq q hf fg bare sp rst] k=(
 (sp=true→
 k (PV.str (ByteArray.mk #[47,92]).data.toList) [bT (PV.raw (Go.Value.pointer bp)) 1 sc us pw hk hs hn hp port opq pn pl hq q hf fg bare sp rst])∧
 (sp=false→
 k (PV.str (ByteArray.mk #[47]).data.toList) [bT (PV.raw (Go.Value.pointer bp)) 1 sc us pw hk hs hn hp port opq pn pl hq q hf fg bare sp rst])):=by kernel_rfl
attribute [local irreducible] Go.Vc.cG Go.Vc.bL
theorem vh(bp:Option Addr)(sc us pw:Bs)(hk:Int)(hs:Bs)(hn:Int)(hp:List Int)(port:Int)(opq pn:Bool)(pl:List Bs)(hq:Bool)(q:Bs)(hf:Bool)(fg:Bs)(bare sp:Bool)(rst:Bs):bh Tryz.prog az 138 [.ptr 0 0] [aD 1 (.raw (.pointer bp)) sc us pw hk hs hn hp port opq pn pl hq q hf fg bare sp rst] (True) (.str (eP sp)) [aD 1 (.raw (.pointer bp)) sc us pw hk hs hn hp port opq pn pl hq q hf fg bare sp rst]:=bu (by kernel_rfl) vg (H:=tF bp sc us pw hk hs hn hp port opq pn pl hq q hf fg bare sp rst) (fuel:=1000) Tryz.func138 (by kernel_rfl) (Nat.le_of_ble_eq_true rfl) fun hpre=>(Aa bp sc us pw hk hs hn hp port opq pn pl hq q hf fg bare sp rst _).mpr (by
 exact ⟨fun h=>by subst h;exact ⟨rfl,rfl⟩,fun h=>by subst h;exact ⟨rfl,rfl⟩⟩)
theorem Ab(bp:Option Addr)(sc us pw:Bs)(hk:Int)(hs:Bs)(hn:Int)(hp:List Int)(port:Int)(opq pn:Bool)(pl:List Bs)(hq:Bool)(q:Bs)(hf:Bool)(fg:Bs)(bare sp:Bool)(rst:Bs):ag Tryz.prog az 138 [.ptr 0 0,aD 1 (.raw (.pointer bp)) sc us pw hk hs hn hp port opq pn pl hq q hf fg bare sp rst] ⟨True,.tup [.str (eP sp),aD 1 (.raw (.pointer bp)) sc us pw hk hs hn hp port opq pn pl hq q hf fg bare sp rst]⟩:=ag.aZ (fun h=>by have e:List.isEmpty (PV.aC PV.bt [.ptr 0 0,aD 1 (.raw (.pointer bp)) sc us pw hk hs hn hp port opq pn pl hq q hf fg bare sp rst])=false:=(by kernel_rfl);exact Bool.noConfusion (e.symm.trans (congrArg List.isEmpty h))) (vh bp sc us pw hk hs hn hp port opq pn pl hq q hf fg bare sp rst)
def gT:List PV→Option aF:=fun xs=>match xs with
 |[.ptr 0 0,aD 1 (.raw (.pointer bp)) sc us pw hk hs hn hp port opq pn pl hq q hf fg bare sp rst]=>some ⟨True,.tup [.str (eP sp),aD 1 (.raw (.pointer bp)) sc us pw hk hs hn hp port opq pn pl hq q hf fg bare sp rst]⟩
 |_=>none
theorem jX:∀xs c,gT xs=some c→ag Tryz.prog az 138 xs c:=fun xs c h=>by
 unfold gT at h
 split at h
 ·injection h with h;subst h;exact Ab _ _ _ _ _ _ _ _ _ _ _ _ _ _ _ _ _ _ _
 ·cases h
end
section
def F6:cw:=bO [(118,uT)]
def F7(l m:Bs):aX:=fun i=>none
theorem Ds:cW Tryz.prog az F6:=ai zM (ax)
theorem II(l m:Bs)(k:PV→Prop):cG Tryz.prog F6 az (F7 l m) 1000 Tryz.f129 [.str l,.str m] k=(
 (List.length l≤(1000000:Nat)∧List.length m≤(1000000:Nat)∧∀(b:UInt8),b∈m→b.toNat<(128:Nat))∧
 (decide ((0:Int)≤Kt l m)=true→k (PV.int .i64 (Kt l m)))∧
 (decide ((0:Int)≤Kt l m)=false→k (PV.int .i64 (ak l)))):=by kernel_rfl
attribute [local irreducible] Go.Vc.cG
theorem IJ(l m:Bs):ag Tryz.prog az 129 [.str l,.str m] ⟨l.length≤1000000∧m.length≤1000000∧(∀b∈m,b.toNat<128),.int .i64 (aY l m)⟩:=b7 (by kernel_rfl) Ds (H:=F7 l m) (fuel:=1000) Tryz.func129 (by kernel_rfl) fun hpre=>(II l m _).mpr (by
 have hh:=zL m l
 rw [←Fv]at hh
 refine ⟨hpre,fun h=>?_,fun h=>?_⟩
 ·exact congrArg (PV.int .i64) (hh.1 (of_decide_eq_true h)).1
 ·show PV.int .i64 (ak l)=_
  rw [(hh.2 (of_decide_eq_false h)).2];rfl)
def gF:List PV→Option aF:=fun xs=>match xs with
 |[.str l,.str m]=>some ⟨l.length≤1000000∧m.length≤1000000∧(∀b∈m,b.toNat<128),.int .i64 (aY l m)⟩
 |_=>none
theorem fN:∀xs c,gF xs=some c→ag Tryz.prog az 129 xs c:=fun xs c h=>by
 unfold gF at h
 split at h
 ·injection h with h;subst h;exact IJ _ _
 ·cases h
end
section
def tG:cw:=bO [(138,gT),(129,gF)]
def tH(bp:Option Addr)(sc us pw:Bs)(hk:Int)(hs:Bs)(hn:Int)(hp:List Int)(port:Int)(opq pn:Bool)(pl:List Bs)(hq:Bool)(q:Bs)(hf:Bool)(fg:Bs)(bare sp:Bool)(rst:Bs):aX:=fun i=>none
theorem vi:cW Tryz.prog az tG:=ai jX (ai fN (ax))
theorem Ac(bp:Option Addr)(sc us pw:Bs)(hk:Int)(hs:Bs)(hn:Int)(hp:List Int)(port:Int)(opq pn:Bool)(pl:List Bs)(hq:Bool)(q:Bs)(hf:Bool)(fg:Bs)(bare sp:Bool)(rst:Bs)(k:PV→List PV→Prop):bL Tryz.prog tG az (tH bp sc us pw hk hs hn hp port opq pn pl hq q hf fg bare sp rst) 1000 Tryz.f124 [.ptr 0 0] [aD 1 (.raw (.pointer bp)) sc us pw hk hs hn hp port opq pn pl hq q hf fg bare sp rst] k=(
 (True∧
 List.length (eP sp)+(ByteArray.mk #[63,35]).data.toList.length≤Go.Vc.maxLen∧
 (List.length rst≤(1000000:Nat)∧
 List.length (eP sp++(ByteArray.mk #[63,35]).data.toList)≤(1000000:Nat)∧
 ∀(b:UInt8),b∈eP sp++(ByteArray.mk #[63,35]).data.toList→
 b.toNat<(128:Nat))∧
 k (PV.int .i64 ↑(aY rst (eP sp++(ByteArray.mk #[63,35]).data.toList))) [bT (PV.raw (Go.Value.pointer bp)) 1 sc us pw hk hs hn hp port opq pn pl hq q hf fg bare sp rst])∧
 True∧
 List.length (eP sp)+(ByteArray.mk #[63,35]).data.toList.length≤Go.Vc.maxLen∧
 (List.length rst≤(1000000:Nat)∧
 List.length (eP sp++(ByteArray.mk #[63,35]).data.toList)≤(1000000:Nat)∧
 ∀(b:UInt8),b∈eP sp++(ByteArray.mk #[63,35]).data.toList→
 b.toNat<(128:Nat))∧
 k (PV.int .i64 ↑(aY rst (eP sp++(ByteArray.mk #[63,35]).data.toList))) [bT (PV.raw (Go.Value.pointer bp)) 1 sc us pw hk hs hn hp port opq pn pl hq q hf fg bare sp rst]):=by kernel_rfl
attribute [local irreducible] Go.Vc.cG Go.Vc.bL
theorem vj(bp:Option Addr)(sc us pw:Bs)(hk:Int)(hs:Bs)(hn:Int)(hp:List Int)(port:Int)(opq pn:Bool)(pl:List Bs)(hq:Bool)(q:Bs)(hf:Bool)(fg:Bs)(bare sp:Bool)(rst:Bs):bh Tryz.prog az 124 [.ptr 0 0] [aD 1 (.raw (.pointer bp)) sc us pw hk hs hn hp port opq pn pl hq q hf fg bare sp rst] (rst.length≤300000) (.int .i64 (ah sp rst)) [aD 1 (.raw (.pointer bp)) sc us pw hk hs hn hp port opq pn pl hq q hf fg bare sp rst]:=bu (by kernel_rfl) vi (H:=tH bp sc us pw hk hs hn hp port opq pn pl hq q hf fg bare sp rst) (fuel:=1000) Tryz.func124 (by kernel_rfl) (Nat.le_of_ble_eq_true rfl) fun hpre=>(Ac bp sc us pw hk hs hn hp port opq pn pl hq q hf fg bare sp rst _).mpr (by
 have e2:(ByteArray.mk #[63,35]).data.toList=[63,35]:=rfl
 have hs:(eP sp).length≤2:=by unfold eP;split<;>decide
 have h1:List.length (eP sp)+(ByteArray.mk #[63,35]).data.toList.length≤Go.Vc.maxLen:=Nat.le_trans (show _ ≤100 by rw [e2];simp;omega) (by decide)
 have h2:List.length (eP sp++(ByteArray.mk #[63,35]).data.toList)≤1000000:=by rw [e2];simp;omega
 have h3:∀b:UInt8,b∈eP sp++(ByteArray.mk #[63,35]).data.toList→b.toNat<128:=by rw [e2];unfold eP;split<;>decide
 exact ⟨⟨trivial,h1,⟨by omega,h2,h3⟩,rfl,rfl⟩,trivial,h1,⟨by omega,h2,h3⟩,rfl,rfl⟩)
theorem Ad(bp:Option Addr)(sc us pw:Bs)(hk:Int)(hs:Bs)(hn:Int)(hp:List Int)(port:Int)(opq pn:Bool)(pl:List Bs)(hq:Bool)(q:Bs)(hf:Bool)(fg:Bs)(bare sp:Bool)(rst:Bs):ag Tryz.prog az 124 [.ptr 0 0,aD 1 (.raw (.pointer bp)) sc us pw hk hs hn hp port opq pn pl hq q hf fg bare sp rst] ⟨rst.length≤300000,.tup [.int .i64 (ah sp rst),aD 1 (.raw (.pointer bp)) sc us pw hk hs hn hp port opq pn pl hq q hf fg bare sp rst]⟩:=ag.aZ (fun h=>by have e:List.isEmpty (PV.aC PV.bt [.ptr 0 0,aD 1 (.raw (.pointer bp)) sc us pw hk hs hn hp port opq pn pl hq q hf fg bare sp rst])=false:=(by kernel_rfl);exact Bool.noConfusion (e.symm.trans (congrArg List.isEmpty h))) (vj bp sc us pw hk hs hn hp port opq pn pl hq q hf fg bare sp rst)
def fO:List PV→Option aF:=fun xs=>match xs with
 |[.ptr 0 0,aD 1 (.raw (.pointer bp)) sc us pw hk hs hn hp port opq pn pl hq q hf fg bare sp rst]=>some ⟨rst.length≤300000,.tup [.int .i64 (ah sp rst),aD 1 (.raw (.pointer bp)) sc us pw hk hs hn hp port opq pn pl hq q hf fg bare sp rst]⟩
 |_=>none
theorem gG:∀xs c,fO xs=some c→ag Tryz.prog az 124 xs c:=fun xs c h=>by
 unfold fO at h
 split at h
 ·injection h with h;subst h;exact Ad _ _ _ _ _ _ _ _ _ _ _ _ _ _ _ _ _ _ _
 ·cases h
end
section
def F8:cw:=bO []
def F9(bp:Option Addr)(sc us pw:Bs)(hk:Int)(hs:Bs)(hn:Int)(hp:List Int)(port:Int)(opq pn:Bool)(pl:List Bs)(hq:Bool)(q:Bs)(hf:Bool)(fg:Bs)(bare sp:Bool)(rst:Bs)(z:Int):aX:=fun i=>none
theorem Dt:cW Tryz.prog az F8:=ax
theorem IK(bp:Option Addr)(sc us pw:Bs)(hk:Int)(hs:Bs)(hn:Int)(hp:List Int)(port:Int)(opq pn:Bool)(pl:List Bs)(hq:Bool)(q:Bs)(hf:Bool)(fg:Bs)(bare sp:Bool)(rst:Bs)(z:Int)(k:PV→List PV→Prop):bL Tryz.prog F8 az (F9 bp sc us pw hk hs hn hp port opq pn pl hq q hf fg bare sp rst z) 1000 Tryz.f128 [.ptr 0 0,.int .i64 z] [aD 1 (.raw (.pointer bp)) sc us pw hk hs hn hp port opq pn pl hq q hf fg bare sp rst] k=(
 upto (0:Int) z (ak rst)∧
 upto z (ak rst) (ak rst)∧
 k (PV.str (ae rst z)) [bT (PV.raw (Go.Value.pointer bp)) 1 sc us pw hk hs hn hp port opq pn pl hq q hf fg bare sp (aa rst z)]):=by kernel_rfl
attribute [local irreducible] Go.Vc.cG Go.Vc.bL
theorem Du(bp:Option Addr)(sc us pw:Bs)(hk:Int)(hs:Bs)(hn:Int)(hp:List Int)(port:Int)(opq pn:Bool)(pl:List Bs)(hq:Bool)(q:Bs)(hf:Bool)(fg:Bs)(bare sp:Bool)(rst:Bs)(z:Int):bh Tryz.prog az 128 [.ptr 0 0,.int .i64 z] [aD 1 (.raw (.pointer bp)) sc us pw hk hs hn hp port opq pn pl hq q hf fg bare sp rst] (0≤z∧z≤ak rst) (.str (ae rst z)) [aD 1 (.raw (.pointer bp)) sc us pw hk hs hn hp port opq pn pl hq q hf fg bare sp (aa rst z)]:=bu (by kernel_rfl) Dt (H:=F9 bp sc us pw hk hs hn hp port opq pn pl hq q hf fg bare sp rst z) (fuel:=1000) Tryz.func128 (by kernel_rfl) (Nat.le_of_ble_eq_true rfl) fun hpre=>(IK bp sc us pw hk hs hn hp port opq pn pl hq q hf fg bare sp rst z _).mpr (by
 obtain ⟨h0,h1⟩:=hpre
 exact ⟨⟨by omega,h0,h1⟩,⟨h0,h1,Int.le_refl _⟩,rfl,rfl⟩)
theorem IL(bp:Option Addr)(sc us pw:Bs)(hk:Int)(hs:Bs)(hn:Int)(hp:List Int)(port:Int)(opq pn:Bool)(pl:List Bs)(hq:Bool)(q:Bs)(hf:Bool)(fg:Bs)(bare sp:Bool)(rst:Bs)(z:Int):ag Tryz.prog az 128 [.ptr 0 0,.int .i64 z,aD 1 (.raw (.pointer bp)) sc us pw hk hs hn hp port opq pn pl hq q hf fg bare sp rst] ⟨0≤z∧z≤ak rst,.tup [.str (ae rst z),aD 1 (.raw (.pointer bp)) sc us pw hk hs hn hp port opq pn pl hq q hf fg bare sp (aa rst z)]⟩:=ag.aZ (fun h=>by have e:List.isEmpty (PV.aC PV.bt [.ptr 0 0,.int .i64 z,aD 1 (.raw (.pointer bp)) sc us pw hk hs hn hp port opq pn pl hq q hf fg bare sp rst])=false:=(by kernel_rfl);exact Bool.noConfusion (e.symm.trans (congrArg List.isEmpty h))) (Du bp sc us pw hk hs hn hp port opq pn pl hq q hf fg bare sp rst z)
def gH:List PV→Option aF:=fun xs=>match xs with
 |[.ptr 0 0,.int .i64 z,aD 1 (.raw (.pointer bp)) sc us pw hk hs hn hp port opq pn pl hq q hf fg bare sp rst]=>some ⟨0≤z∧z≤ak rst,.tup [.str (ae rst z),aD 1 (.raw (.pointer bp)) sc us pw hk hs hn hp port opq pn pl hq q hf fg bare sp (aa rst z)]⟩
 |_=>none
theorem fP:∀xs c,gH xs=some c→ag Tryz.prog az 128 xs c:=fun xs c h=>by
 unfold gH at h
 split at h
 ·injection h with h;subst h;exact IL _ _ _ _ _ _ _ _ _ _ _ _ _ _ _ _ _ _ _ _
 ·cases h
end
section
def BE:cw:=bO []
def BF(l:Bs):aX:=fun i=>bif Nat.beq i 3 then some ⟨(Int)×(Bool),(fun s x=>((((((((((((((((((s.put 7 (.int .i64 x.1)).put 3 (.bool x.2)).put 4 .undef).put 8 .undef).put 9 .undef).put 10 .undef).put 11 .undef).put 12 .undef).put 13 .undef).put 14 .undef).put 15 .undef).put 16 .undef).put 17 .undef).put 18 .undef).put 19 .undef).put 20 .undef).put 21 .undef).put 22 .undef)),(fun s=>(s.int 7,s.bool 3)),(fun s x=>let i:=x.1;let wn:=x.2;0≤i∧i≤l.length∧kx wn i (l.drop i.toNat)=bc l),(fun s x=>let i:=x.1;let wn:=x.2;((l.length:Int)-i).toNat),[4,8,9,10,11,12,13,14,15,16,17,18,19,20,21,22]⟩else none
theorem Ae:cW Tryz.prog az BE:=ax
theorem Ga(l:Bs)(k:PV→Prop):cG Tryz.prog BE az (BF l) 1000 Tryz.f135 [.str l] k=(
 VS.mk []
 [(0,PV.str l),(2,PV.int .i64 (0:Int)),(3,PV.bool false),((4:Nat),PV.undef),
 (6,PV.int .i64 (ak l)),(7,PV.int .i64 (0:Int)),((8:Nat),PV.undef),
 ((12:Nat),PV.undef),((13:Nat),PV.undef),((15:Nat),PV.undef),((17:Nat),PV.undef),((20:Nat),PV.undef)]
 []=
 VS.mk []
 [(0,PV.str l),(2,PV.int .i64 (0:Int)),((3:Nat),PV.bool false),((4:Nat),PV.undef),
 (6,PV.int .i64 (ak l)),((7:Nat),PV.int .i64 (0:Int)),((8:Nat),PV.undef),
 ((12:Nat),PV.undef),((13:Nat),PV.undef),((15:Nat),PV.undef),((17:Nat),PV.undef),((20:Nat),PV.undef)]
 []∧
 ((0:Int)≤(0:Int)∧
 (0:Int)≤↑(List.length l)∧
 kx false (0:Int) (List.drop (Int.toNat (0:Int)) l)=bc l)∧
 ∀(x:Int×Bool),
 (0:Int)≤x.1∧
 x.1≤↑(List.length l)∧
 kx x.2 x.1 (List.drop x.1.toNat l)=bc l→
 (decide (x.1<ak l)=true→
 within x.1 (ak l)∧
 (decide (al l x.1=(91:Int))=true→
 ay (x.1+(1:Int))∧
 kz (VS.mk []
 [(0,PV.str l),(2,PV.int .i64 (0:Int)),((3:Nat),PV.bool true),
 ((4:Nat),PV.undef),(6,PV.int .i64 (ak l)),
 ((7:Nat),PV.int .i64 (x.1+(1:Int))),((8:Nat),PV.undef),((12:Nat),PV.undef),
 ((13:Nat),PV.undef),((15:Nat),PV.undef),((17:Nat),PV.undef),((20:Nat),PV.undef)]
 [])∧
 ((0:Int)≤x.1+(1:Int)∧
 x.1+(1:Int)≤↑(List.length l)∧
 kx true (x.1+(1:Int)) (List.drop (x.1+(1:Int)).toNat l)=
 bc l)∧
 (↑(List.length l)-(x.1+(1:Int))).toNat<(↑(List.length l)-x.1).toNat)∧
 (decide (al l x.1=(91:Int))=false→
 (decide (al l x.1=(93:Int))=true→
 ay (x.1+(1:Int))∧
 kz (VS.mk []
 [(0,PV.str l),(2,PV.int .i64 (0:Int)),((3:Nat),PV.bool false),
 ((4:Nat),PV.undef),(6,PV.int .i64 (ak l)),
 ((7:Nat),PV.int .i64 (x.1+(1:Int))),((8:Nat),PV.undef),((12:Nat),PV.undef),
 ((13:Nat),PV.undef),((15:Nat),PV.undef),((17:Nat),PV.undef),((20:Nat),PV.undef)]
 [])∧
 ((0:Int)≤x.1+(1:Int)∧
 x.1+(1:Int)≤↑(List.length l)∧
 kx false (x.1+(1:Int)) (List.drop (x.1+(1:Int)).toNat l)=
 bc l)∧
 (↑(List.length l)-(x.1+(1:Int))).toNat<(↑(List.length l)-x.1).toNat)∧
 (decide (al l x.1=(93:Int))=false→
 (decide (al l x.1=(58:Int))=true→
 ((!x.2)=true→k (PV.int .i64 x.1))∧
 ((!x.2)=false→
 ay (x.1+(1:Int))∧
 kz (VS.mk []
 [(0,PV.str l),(2,PV.int .i64 (0:Int)),((3:Nat),PV.bool x.2),
 ((4:Nat),PV.undef),(6,PV.int .i64 (ak l)),
 ((7:Nat),PV.int .i64 (x.1+(1:Int))),((8:Nat),PV.undef),((12:Nat),PV.undef),
 ((13:Nat),PV.undef),((15:Nat),PV.undef),((17:Nat),PV.undef),((20:Nat),PV.undef)]
 [])∧
 ((0:Int)≤x.1+(1:Int)∧
 x.1+(1:Int)≤↑(List.length l)∧
 kx x.2 (x.1+(1:Int)) (List.drop (x.1+(1:Int)).toNat l)=
 bc l)∧
 (↑(List.length l)-(x.1+(1:Int))).toNat<(↑(List.length l)-x.1).toNat))∧
 (decide (al l x.1=(58:Int))=false→
 ay (x.1+(1:Int))∧
 kz (VS.mk []
 [(0,PV.str l),(2,PV.int .i64 (0:Int)),((3:Nat),PV.bool x.2),
 ((4:Nat),PV.undef),(6,PV.int .i64 (ak l)),
 ((7:Nat),PV.int .i64 (x.1+(1:Int))),((8:Nat),PV.undef),((12:Nat),PV.undef),
 ((13:Nat),PV.undef),((15:Nat),PV.undef),((17:Nat),PV.undef),((20:Nat),PV.undef)]
 [])∧
 ((0:Int)≤x.1+(1:Int)∧
 x.1+(1:Int)≤↑(List.length l)∧
 kx x.2 (x.1+(1:Int)) (List.drop (x.1+(1:Int)).toNat l)=
 bc l)∧
 (↑(List.length l)-(x.1+(1:Int))).toNat<(↑(List.length l)-x.1).toNat))))∧
 (decide (x.1<ak l)=false→k (PV.int .i64 (-1:Int)))):=by kernel_rfl
attribute [local irreducible] Go.Vc.cG
theorem Gb(l:Bs):ag Tryz.prog az 135 [.str l] ⟨l.length≤1000000,.int .i64 (bc l)⟩:=b7 (by kernel_rfl) Ae (H:=BF l) (fuel:=1000) Tryz.func135 (by kernel_rfl) fun hpre=>(Ga l _).mpr (by
 refine ⟨rfl,⟨by omega,by omega,rfl⟩,fun x ⟨h0,h1,h2⟩=>⟨fun h=>?_,fun h=>?_⟩⟩
 ·have hlt:x.1<l.length:=of_decide_eq_true h
  rw [xw h0 hlt]at h2
  obtain ⟨c,hc⟩:∃c,c=l.getD x.1.toNat 0:=⟨_,rfl⟩
  have hby:al l x.1=c.toNat:=by rw [hc];rfl
  rw [←hc,kx]at h2
  rw [hby]
  refine ⟨⟨h0,hlt⟩,fun g=>⟨by unfold ay;omega,rfl,⟨by omega,by omega,?_⟩,by omega⟩,fun g=>⟨fun g2=>⟨by unfold ay;omega,rfl,⟨by omega,by omega,?_⟩,by omega⟩,fun g2=>⟨fun g3=>⟨fun g4=>?_,fun g4=>⟨by unfold ay;omega,rfl,⟨by omega,by omega,?_⟩,by omega⟩⟩,fun g3=>⟨by unfold ay;omega,rfl,⟨by omega,by omega,?_⟩,by omega⟩⟩⟩⟩
  ·have:=of_decide_eq_true g
   rw [if_pos (by omega)]at h2;exact h2
  ·have:=of_decide_eq_false g
   have:=of_decide_eq_true g2
   rw [if_neg (by omega),if_pos (by omega)]at h2;exact h2
  ·have:=of_decide_eq_false g
   have:=of_decide_eq_false g2
   have:=of_decide_eq_true g3
   have hw:x.2=false:=by simpa using g4
   rw [if_neg (by omega),if_neg (by omega),if_pos ⟨by omega,hw⟩]at h2
   rw [h2]
  ·have:=of_decide_eq_false g
   have:=of_decide_eq_false g2
   have hw:¬x.2=false:=by simpa using g4
   rw [if_neg (by omega),if_neg (by omega),if_neg (fun e=>hw e.2)]at h2;exact h2
  ·have:=of_decide_eq_false g
   have:=of_decide_eq_false g2
   have:=of_decide_eq_false g3
   rw [if_neg (by omega),if_neg (by omega),if_neg (by omega)]at h2;exact h2
 ·have hge:¬x.1<l.length:=of_decide_eq_false h
  rw [tt hge]at h2
  show PV.int _ _=PV.int _ _
  rw [←h2];rfl)
def nM:List PV→Option aF:=fun xs=>match xs with
 |[.str l]=>some ⟨l.length≤1000000,.int .i64 (bc l)⟩
 |_=>none
theorem vk:∀xs c,nM xs=some c→ag Tryz.prog az 135 xs c:=fun xs c h=>by
 unfold nM at h
 split at h
 ·injection h with h;subst h;exact Gb _
 ·cases h
end
section
theorem mz {sc:Bs}{port:Int}{t:Bs}(h:t≠[]):dS sc port t=match iJ 0 t with
 |none=>(port,8)
 |some n=>if 65535<n then(port,8)else if aw sc=true∧Ie sc=n then(port,0)else(n,0):=by
 cases t with
 |nil=>exact absurd rfl h
 |cons b t=>rfl
def Gc:cw:=bO [(155,iI),(27,dP)]
def Gd(bp:Option Addr)(sc us pw:Bs)(hk:Int)(hs:Bs)(hn:Int)(hp:List Int)(port:Int)(opq pn:Bool)(pl:List Bs)(hq:Bool)(q:Bs)(hf:Bool)(fg:Bs)(bare sp:Bool)(rst:Bs)(t:Bs):aX:=fun i=>bif Nat.beq i 5 then some ⟨(Int)×(Int),(fun s x=>((((((((((((((((((((s.put 5 (.int .i64 x.1)).put 13 (.int .i64 x.2)).put 6 .undef).put 14 .undef).put 15 .undef).put 16 .undef).put 17 .undef).put 18 .undef).put 19 .undef).put 20 .undef).put 21 .undef).put 22 .undef).put 23 .undef).put 24 .undef).put 25 .undef).put 26 .undef).put 27 .undef).put 28 .undef).put 29 .undef).put 30 .undef)),(fun s=>(s.int 5,s.int 13)),(fun s x=>let n:=x.1;let i:=x.2;0≤i∧i≤t.length∧0≤n∧n≤65536∧iJ n (t.drop i.toNat)=iJ 0 t),(fun s x=>let n:=x.1;let i:=x.2;((t.length:Int)-i).toNat),[6,14,15,16,17,18,19,20,21,22,23,24,25,26,27,28,29,30]⟩else none
theorem Dv:cW Tryz.prog az Gc:=ai jf (ai dQ (ax))
theorem IM(bp:Option Addr)(sc us pw:Bs)(hk:Int)(hs:Bs)(hn:Int)(hp:List Int)(port:Int)(opq pn:Bool)(pl:List Bs)(hq:Bool)(q:Bs)(hf:Bool)(fg:Bs)(bare sp:Bool)(rst:Bs)(t:Bs)(k:PV→List PV→Prop):bL Tryz.prog Gc az (Gd bp sc us pw hk hs hn hp port opq pn pl hq q hf fg bare sp rst t) 1000 Tryz.f137 [.ptr 0 0,.str t] [aD 1 (.raw (.pointer bp)) sc us pw hk hs hn hp port opq pn pl hq q hf fg bare sp rst] k=(
 (decide (t=(ByteArray.mk #[]).data.toList)=true→
 k (PV.int .i64 (0:Int)) [bT (PV.raw (Go.Value.pointer bp)) 1 sc us pw hk hs hn hp port opq pn pl hq q hf fg bare sp rst])∧
 (decide (t=(ByteArray.mk #[]).data.toList)=false→
 VS.mk [] [(0,PV.ptr (0:Nat) (0:Nat)),(1,PV.str t),(4,PV.int .i64 (0:Int)),(5,PV.int .i64 (0:Int)),((6:Nat),PV.undef),(7,PV.undef),(8,PV.undef),(10,PV.bool (decide (t=(ByteArray.mk #[]).data.toList))),(12,PV.int .i64 (ak t)),(13,PV.int .i64 (0:Int)),((14:Nat),PV.undef),((20:Nat),PV.undef),(32,PV.undef),(48,PV.undef)] [((0:Nat),bT (PV.raw (Go.Value.pointer bp)) 1 sc us pw hk hs hn hp port opq pn pl hq q hf fg bare sp rst)]=VS.mk [] [(0,PV.ptr (0:Nat) (0:Nat)),(1,PV.str t),(4,PV.int .i64 (0:Int)),((5:Nat),PV.int .i64 (0:Int)),((6:Nat),PV.undef),(7,PV.undef),(8,PV.undef),(10,PV.bool (decide (t=(ByteArray.mk #[]).data.toList))),(12,PV.int .i64 (ak t)),((13:Nat),PV.int .i64 (0:Int)),((14:Nat),PV.undef),((20:Nat),PV.undef),(32,PV.undef),(48,PV.undef)] [((0:Nat),bT (PV.raw (Go.Value.pointer bp)) 1 sc us pw hk hs hn hp port opq pn pl hq q hf fg bare sp rst)]∧
 ((0:Int)≤(0:Int)∧
 (0:Int)≤↑(List.length t)∧
 (0:Int)≤(0:Int)∧
 (0:Int)≤(65536:Int)∧
 iJ (0:Int) (List.drop (Int.toNat (0:Int)) t)=iJ (0:Int) t)∧
 ∀(x:Int×Int),(0:Int)≤x.2∧
 x.2≤↑(List.length t)∧
 (0:Int)≤x.1∧
 x.1≤(65536:Int)∧
 iJ x.1 (List.drop x.2.toNat t)=iJ (0:Int) t→
 (decide (x.2<ak t)=true→
 within x.2 (ak t)∧
 True∧
 ((!decide ((48:Int)≤al t x.2∧
 al t x.2≤(57:Int)))=true→
 k (PV.int .i64 (8:Int)) [bT (PV.raw (Go.Value.pointer bp)) 1 sc us pw hk hs hn hp port opq pn pl hq q hf fg bare sp rst])∧
 ((!decide ((48:Int)≤al t x.2∧
 al t x.2≤(57:Int)))=false→
 ay (x.1*(10:Int))∧
 within x.2 (ak t)∧
 ay (x.1*(10:Int)+Go.IntKind.i64.wrap (Go.IntKind.u8.wrap (al t x.2-(48:Int))))∧
 ay (x.2+(1:Int))∧
 kz (VS.mk [] [(0,PV.ptr (0:Nat) (0:Nat)),(1,PV.str t),(4,PV.int .i64 (0:Int)),((5:Nat),PV.int .i64 (min (x.1*(10:Int)+Go.IntKind.i64.wrap (Go.IntKind.u8.wrap (al t x.2-(48:Int)))) (65536:Int))),((6:Nat),PV.undef),(7,PV.undef),(8,PV.undef),(10,PV.bool (decide (t=(ByteArray.mk #[]).data.toList))),(12,PV.int .i64 (ak t)),((13:Nat),PV.int .i64 (x.2+(1:Int))),((14:Nat),PV.undef),((20:Nat),PV.undef),(32,PV.undef),(48,PV.undef)] [((0:Nat),bT (PV.raw (Go.Value.pointer bp)) 1 sc us pw hk hs hn hp port opq pn pl hq q hf fg bare sp rst)])∧
 ((0:Int)≤x.2+(1:Int)∧
 x.2+(1:Int)≤↑(List.length t)∧
 (0:Int)≤min (x.1*(10:Int)+Go.IntKind.i64.wrap (Go.IntKind.u8.wrap (al t x.2-(48:Int)))) (65536:Int)∧
 min (x.1*(10:Int)+Go.IntKind.i64.wrap (Go.IntKind.u8.wrap (al t x.2-(48:Int)))) (65536:Int)≤(65536:Int)∧
 iJ (min (x.1*(10:Int)+Go.IntKind.i64.wrap (Go.IntKind.u8.wrap (al t x.2-(48:Int)))) (65536:Int)) (List.drop (x.2+(1:Int)).toNat t)=iJ (0:Int) t)∧
 (↑(List.length t)-(x.2+(1:Int))).toNat<(↑(List.length t)-x.2).toNat))∧
 (decide (x.2<ak t)=false→
 (decide ((65535:Int)<x.1)=true→
 k (PV.int .i64 (8:Int)) [bT (PV.raw (Go.Value.pointer bp)) 1 sc us pw hk hs hn hp port opq pn pl hq q hf fg bare sp rst])∧
 (decide ((65535:Int)<x.1)=false→
 True∧
 ((bif !aw sc then true else !decide (Ie sc=x.1))=true→
 k (PV.int .i64 (0:Int)) [bT (PV.raw (Go.Value.pointer bp)) 1 sc us pw hk hs hn hp x.1 opq pn pl hq q hf fg bare sp rst])∧
 ((bif !aw sc then true else !decide (Ie sc=x.1))=false→
 k (PV.int .i64 (0:Int)) [bT (PV.raw (Go.Value.pointer bp)) 1 sc us pw hk hs hn hp port opq pn pl hq q hf fg bare sp rst]))))):=by kernel_rfl
attribute [local irreducible] Go.Vc.cG Go.Vc.bL
theorem Dw(bp:Option Addr)(sc us pw:Bs)(hk:Int)(hs:Bs)(hn:Int)(hp:List Int)(port:Int)(opq pn:Bool)(pl:List Bs)(hq:Bool)(q:Bs)(hf:Bool)(fg:Bs)(bare sp:Bool)(rst:Bs)(t:Bs):bh Tryz.prog az 137 [.ptr 0 0,.str t] [aD 1 (.raw (.pointer bp)) sc us pw hk hs hn hp port opq pn pl hq q hf fg bare sp rst] (t.length≤300000) (.int .i64 (dS sc port t).2) [aD 1 (.raw (.pointer bp)) sc us pw hk hs hn hp ((dS sc port t).1) opq pn pl hq q hf fg bare sp rst]:=bu (by kernel_rfl) Dv (H:=Gd bp sc us pw hk hs hn hp port opq pn pl hq q hf fg bare sp rst t) (fuel:=1000) Tryz.func137 (by kernel_rfl) (Nat.le_of_ble_eq_true rfl) fun hpre=>(IM bp sc us pw hk hs hn hp port opq pn pl hq q hf fg bare sp rst t _).mpr (by
 refine ⟨fun h=>?_,fun h=>⟨rfl,⟨by omega,by omega,by omega,by omega,rfl⟩,fun x ⟨h0,h1,h2,h3,h4⟩=>⟨fun g=>?_,fun g=>?_⟩⟩⟩
 ·have e:t=[]:=of_decide_eq_true h
  subst e;exact ⟨rfl,rfl⟩
 ·have hne:t≠[]:=of_decide_eq_false h
  have hlt:x.2<t.length:=of_decide_eq_true g
  rw [xw h0 hlt]at h4
  obtain ⟨c,hc⟩:∃c,c=t.getD x.2.toNat 0:=⟨_,rfl⟩
  have hby:al t x.2=c.toNat:=by rw [hc];rfl
  rw [←hc,iJ]at h4
  rw [hby]
  refine ⟨⟨h0,hlt⟩,trivial,fun g2=>?_,fun g2=>?_⟩
  ·have g3:¬(48≤c.toNat∧c.toNat≤57):=by
    intro e
    rw [decide_eq_true (show(48:Int)≤c.toNat∧(c.toNat:Int)≤57 by omega)]at g2;cases g2
   rw [if_neg g3]at h4
   have e:dS sc port t=(port,8):=by rw [mz hne,←h4]
   rw [e];exact ⟨rfl,rfl⟩
  ·have g3:48≤c.toNat∧c.toNat≤57:=by
    have:=of_decide_eq_true (show decide ((48:Int)≤c.toNat∧(c.toNat:Int)≤57)=true by simpa using g2)
    omega
   rw [if_pos g3]at h4
   have w1:IntKind.u8.wrap ((c.toNat:Int)-48)=(c.toNat:Int)-48:=IntWalk.u8_in _ (by omega)
   have w2:IntKind.i64.wrap ((c.toNat:Int)-48)=(c.toNat:Int)-48:=IntWalk.i64_in _ (by omega)
   rw [w1,w2]
   exact ⟨by unfold ay;omega,⟨h0,hlt⟩,by unfold ay;omega,by unfold ay;omega,rfl,⟨by omega,by omega,by omega,by omega,h4⟩,by omega⟩
 ·have hne:t≠[]:=of_decide_eq_false h
  have hge:¬x.2<t.length:=of_decide_eq_false g
  rw [tt hge]at h4
  have h5:iJ 0 t=some x.1:=h4.symm
  refine ⟨fun g2=>?_,fun g2=>⟨trivial,fun g3=>?_,fun g3=>?_⟩⟩
  ·have e:dS sc port t=(port,8):=by rw [mz hne,h5];exact if_pos (of_decide_eq_true g2)
   rw [e];exact ⟨rfl,rfl⟩
  ·have e:dS sc port t=(x.1,0):=by
    rw [mz hne,h5]
    show(if _ then _ else if _ then _ else _)=_
    rw [if_neg (of_decide_eq_false g2),if_neg]
    rintro ⟨e1,e2⟩
    rw [e1,decide_eq_true e2]at g3;cases g3
   rw [e];exact ⟨rfl,rfl⟩
  ·have e:dS sc port t=(port,0):=by
    rw [mz hne,h5]
    show(if _ then _ else if _ then _ else _)=_
    rw [if_neg (of_decide_eq_false g2),if_pos]
    cases e1:aw sc with
    |false=>rw [e1]at g3;cases g3
    |true=>
     refine ⟨rfl,?_⟩
     rw [e1]at g3
     exact of_decide_eq_true (show decide (Ie sc=x.1)=true by simpa using g3)
   rw [e];exact ⟨rfl,rfl⟩)
theorem IN(bp:Option Addr)(sc us pw:Bs)(hk:Int)(hs:Bs)(hn:Int)(hp:List Int)(port:Int)(opq pn:Bool)(pl:List Bs)(hq:Bool)(q:Bs)(hf:Bool)(fg:Bs)(bare sp:Bool)(rst:Bs)(t:Bs):ag Tryz.prog az 137 [.ptr 0 0,.str t,aD 1 (.raw (.pointer bp)) sc us pw hk hs hn hp port opq pn pl hq q hf fg bare sp rst] ⟨t.length≤300000,.tup [.int .i64 (dS sc port t).2,aD 1 (.raw (.pointer bp)) sc us pw hk hs hn hp ((dS sc port t).1) opq pn pl hq q hf fg bare sp rst]⟩:=ag.aZ (fun h=>by have e:List.isEmpty (PV.aC PV.bt [.ptr 0 0,.str t,aD 1 (.raw (.pointer bp)) sc us pw hk hs hn hp port opq pn pl hq q hf fg bare sp rst])=false:=(by kernel_rfl);exact Bool.noConfusion (e.symm.trans (congrArg List.isEmpty h))) (Dw bp sc us pw hk hs hn hp port opq pn pl hq q hf fg bare sp rst t)
def qR:List PV→Option aF:=fun xs=>match xs with
 |[.ptr 0 0,.str t,aD 1 (.raw (.pointer bp)) sc us pw hk hs hn hp port opq pn pl hq q hf fg bare sp rst]=>some ⟨t.length≤300000,.tup [.int .i64 (dS sc port t).2,aD 1 (.raw (.pointer bp)) sc us pw hk hs hn hp ((dS sc port t).1) opq pn pl hq q hf fg bare sp rst]⟩
 |_=>none
theorem xJ:∀xs c,qR xs=some c→ag Tryz.prog az 137 xs c:=fun xs c h=>by
 unfold qR at h
 split at h
 ·injection h with h;subst h;exact IN _ _ _ _ _ _ _ _ _ _ _ _ _ _ _ _ _ _ _ _
 ·cases h
end
section
theorem pr:∀(l:Bs) (w:Bool) (i:Int),kx w i l=-1∨(i≤kx w i l∧kx w i l<i+l.length)
 |[],w,i=>.inl rfl
 |b::l,w,i=>by
  have h1:=pr l true (i+1)
  have h2:=pr l false (i+1)
  have h3:=pr l w (i+1)
  unfold kx
  rw [List.length_cons]
  split
  ·omega
  ·split
   ·omega
   ·split
    ·omega
    ·omega
theorem BG(l:Bs):-1≤bc l∧bc l<max l.length 1:=by
 have:=pr l false 0
 unfold bc
 cases l with
 |nil=>exact ⟨by decide,by decide⟩
 |cons b l=>rw [List.length_cons]at this⊢;omega
theorem IP {l:Bs}(h:0<bc l):bc l<l.length:=by
 have:=BG l
 cases l with
 |nil=>revert h;decide
 |cons b l=>rw [List.length_cons]at this⊢;omega
theorem Ge(l:Bs)(c:Int):aI l c<l.length:=by
 rw [qy]
 rcases Lib.lastIndexByte_spec ⟨l.toArray⟩ c with⟨h1,-⟩|⟨i,h1,h2,-,-⟩
 ·rw [h1];omega
 ·rw [h2]
  have:i<l.length:=by simpa [ByteArray.size]using h1
  omega
theorem qS(l:Bs)(z:Int):(ae l z).length≤l.length:=by unfold ae;rw [List.length_take];exact Nat.min_le_right _ _
theorem cR(l:Bs)(z:Int):(aa l z).length≤l.length:=by unfold aa;rw [List.length_drop];omega
theorem IQ(l:Bs)(c:UInt8):(dq l c).length≤l.length:=by
 unfold dq;split
 ·rw [List.length_take];exact Nat.min_le_right _ _
 ·exact Nat.le_refl _
theorem IS(l:Bs)(c:UInt8):(dJ l c).length≤l.length:=by
 unfold dJ;split
 ·rw [List.length_drop];omega
 ·exact Nat.zero_le _
def Li(k:PV→List PV→Prop)(bp:Option Addr)(sc us pw:Bs)(hk:Int)(hs:Bs)(hn:Int)(hp:List Int)(port:Int)(opq pn:Bool)(pl:List Bs)(hq:Bool)(q:Bs)(hf:Bool)(fg:Bs)(bare sp:Bool)(t D:Bs):Prop:=t.length.le (1000000:Nat)∧
 ((bif decide (bc t=(0:Int))then true else bif decide (t=(ByteArray.mk #[]).data.toList)then sp else false)=true→
 k (PV.int .i64 (8:Int)) [bT (PV.raw (Go.Value.pointer bp)) 1 sc us pw hk hs hn hp port opq pn pl hq q hf fg bare sp D])∧
 ((bif decide (bc t=(0:Int))then true else bif decide (t=(ByteArray.mk #[]).data.toList)then sp else false)=false→
 (decide ((0:Int)<bc t)=true→
 upto (0:Int) (bc t) (ak t)∧
 ay (bc t+(1:Int))∧
 upto (bc t+(1:Int)) (ak t) (ak t)∧
 (ae t (bc t)).length.le (300000:Nat)∧
 ((!decide ((aM sp (ae t (bc t))).2.2.2.2=(0:Int)))=true→
 k (PV.int .i64 (aM sp (ae t (bc t))).2.2.2.2) [bT (PV.raw (Go.Value.pointer bp)) 1 sc us pw ((aM sp (ae t (bc t))).1) ((aM sp (ae t (bc t))).2.1) ((aM sp (ae t (bc t))).2.2.1) ((aM sp (ae t (bc t))).2.2.2.1) port opq pn pl hq q hf fg bare sp D])∧
 ((!decide ((aM sp (ae t (bc t))).2.2.2.2=(0:Int)))=false→
 (aa t (bc t+(1:Int))).length.le (300000:Nat)∧
 k (PV.int .i64 (dS sc port (aa t (bc t+(1:Int)))).2) [bT (PV.raw (Go.Value.pointer bp)) 1 sc us pw ((aM sp (ae t (bc t))).1) ((aM sp (ae t (bc t))).2.1) ((aM sp (ae t (bc t))).2.2.1) ((aM sp (ae t (bc t))).2.2.2.1) ((dS sc port (aa t (bc t+(1:Int)))).1) opq pn pl hq q hf fg bare sp D]))∧
 (decide ((0:Int)<bc t)=false→
 t.length.le (300000:Nat)∧
 ((!decide ((aM sp t).2.2.2.2=(0:Int)))=true→
 k (PV.int .i64 (aM sp t).2.2.2.2) [bT (PV.raw (Go.Value.pointer bp)) 1 sc us pw ((aM sp t).1) ((aM sp t).2.1) ((aM sp t).2.2.1) ((aM sp t).2.2.2.1) port opq pn pl hq q hf fg bare sp D])∧
 ((!decide ((aM sp t).2.2.2.2=(0:Int)))=false→
 (ByteArray.mk #[]).data.toList.length.le (300000:Nat)∧
 k (PV.int .i64 (0:Int)) [bT (PV.raw (Go.Value.pointer bp)) 1 sc us pw ((aM sp t).1) ((aM sp t).2.1) ((aM sp t).2.2.1) ((aM sp t).2.2.2.1) port opq pn pl hq q hf fg bare sp D])))
set_option maxHeartbeats 2000000 in
theorem BH(bp:Option Addr)(sc us pw:Bs)(hk:Int)(hs:Bs)(hn:Int)(hp:List Int)(port:Int)(opq pn:Bool)(pl:List Bs)(hq:Bool)(q:Bs)(hf:Bool)(fg:Bs)(bare sp:Bool)(t D:Bs)(hl:t.length≤300000):
 Li (fun v os=>v=.int .i64 ((RS.mk sc us pw hk hs hn hp port opq pn pl hq q hf fg bare sp D).bm t).2∧os=[aD 1 (.raw (.pointer bp)) sc (((RS.mk sc us pw hk hs hn hp port opq pn pl hq q hf fg bare sp D).bm t).1.us) (((RS.mk sc us pw hk hs hn hp port opq pn pl hq q hf fg bare sp D).bm t).1.pw) (((RS.mk sc us pw hk hs hn hp port opq pn pl hq q hf fg bare sp D).bm t).1.hk) (((RS.mk sc us pw hk hs hn hp port opq pn pl hq q hf fg bare sp D).bm t).1.hs) (((RS.mk sc us pw hk hs hn hp port opq pn pl hq q hf fg bare sp D).bm t).1.hn) (((RS.mk sc us pw hk hs hn hp port opq pn pl hq q hf fg bare sp D).bm t).1.hp) (((RS.mk sc us pw hk hs hn hp port opq pn pl hq q hf fg bare sp D).bm t).1.port) opq pn pl hq q hf fg bare sp D]) bp sc us pw hk hs hn hp port opq pn pl hq q hf fg bare sp t D:=by
 have hb:=BG t
 have hcond:(bif decide (bc t=(0:Int))then true else bif decide (t=(ByteArray.mk #[]).data.toList)then sp else false)=decide (bc t=0∨(t=[]∧sp=true)):=by
  rw [Bool.eq_iff_iff]
  simp only [Ig,KM,Bool.and_eq_true,Bool.or_eq_true,decide_eq_true_eq]
  try exact Iff.rfl
 unfold Li
 rw [hcond]
 refine ⟨show t.length≤1000000 by omega,fun h=>?_,fun h=>⟨fun h2=>?_,fun h2=>?_⟩⟩
 ·have e:(RS.mk sc us pw hk hs hn hp port opq pn pl hq q hf fg bare sp D).bm t=((RS.mk sc us pw hk hs hn hp port opq pn pl hq q hf fg bare sp D),8):=if_pos (of_decide_eq_true h)
  rw [e];exact ⟨rfl,rfl⟩
 ·have hc:=of_decide_eq_false h
  have h3:0<bc t:=of_decide_eq_true h2
  have h4:=IP h3
  have ht:=qS t (bc t)
  have hd:=cR t (bc t+1)
  have e:(RS.mk sc us pw hk hs hn hp port opq pn pl hq q hf fg bare sp D).bm t=if(aM sp (ae t (bc t))).2.2.2.2=0 then({(RS.mk sc us pw hk hs hn hp port opq pn pl hq q hf fg bare sp D)with hk:=(aM sp (ae t (bc t))).1,hs:=(aM sp (ae t (bc t))).2.1,hn:=(aM sp (ae t (bc t))).2.2.1,hp:=(aM sp (ae t (bc t))).2.2.2.1,port:=(dS sc port (aa t (bc t+1))).1},(dS sc port (aa t (bc t+1))).2)else({(RS.mk sc us pw hk hs hn hp port opq pn pl hq q hf fg bare sp D)with hk:=(aM sp (ae t (bc t))).1,hs:=(aM sp (ae t (bc t))).2.1,hn:=(aM sp (ae t (bc t))).2.2.1,hp:=(aM sp (ae t (bc t))).2.2.2.1},(aM sp (ae t (bc t))).2.2.2.2):=by
   unfold RS.bm
   rw [if_neg hc]
   dsimp only
   rw [if_pos h3,if_pos h3]
  rw [e]
  refine ⟨⟨by omega,by omega,by unfold ak;omega⟩,by unfold ay;omega,⟨by omega,by unfold ak;omega,Int.le_refl _⟩,show(ae t (bc t)).length≤300000 by omega,fun h5=>?_,fun h5=>⟨show(aa t (bc t+1)).length≤300000 by omega,?_⟩⟩
  ·rw [if_neg (by simpa using h5)];exact ⟨rfl,rfl⟩
  ·rw [if_pos (by simpa using h5)];exact ⟨rfl,rfl⟩
 ·have hc:=of_decide_eq_false h
  have h3:¬0<bc t:=of_decide_eq_false h2
  have e:(RS.mk sc us pw hk hs hn hp port opq pn pl hq q hf fg bare sp D).bm t=if(aM sp t).2.2.2.2=0 then({(RS.mk sc us pw hk hs hn hp port opq pn pl hq q hf fg bare sp D)with hk:=(aM sp t).1,hs:=(aM sp t).2.1,hn:=(aM sp t).2.2.1,hp:=(aM sp t).2.2.2.1,port:=(dS sc port []).1},(dS sc port []).2)else({(RS.mk sc us pw hk hs hn hp port opq pn pl hq q hf fg bare sp D)with hk:=(aM sp t).1,hs:=(aM sp t).2.1,hn:=(aM sp t).2.2.1,hp:=(aM sp t).2.2.2.1},(aM sp t).2.2.2.2):=by
   unfold RS.bm
   rw [if_neg hc]
   dsimp only
   rw [if_neg h3,if_neg h3]
  rw [e]
  refine ⟨show t.length≤300000 from hl,fun h5=>?_,fun h5=>⟨Nat.zero_le _,?_⟩⟩
  ·rw [if_neg (by simpa using h5)];exact ⟨rfl,rfl⟩
  ·rw [if_pos (by simpa using h5)];exact ⟨rfl,rfl⟩
def oL:cw:=bO [(124,fO),(128,gH),(133,qA),(134,uU),(26,eZ),(135,nM),(136,jS),(137,qR)]
def oM(bp:Option Addr)(sc us pw:Bs)(hk:Int)(hs:Bs)(hn:Int)(hp:List Int)(port:Int)(opq pn:Bool)(pl:List Bs)(hq:Bool)(q:Bs)(hf:Bool)(fg:Bs)(bare sp:Bool)(rst:Bs):aX:=fun i=>none
theorem qT:cW Tryz.prog az oL:=ai gG (ai fP (ai xl (ai zN (ai dR (ai vk (ai qI (ai xJ (ax))))))))
theorem vm(bp:Option Addr)(sc us pw:Bs)(hk:Int)(hs:Bs)(hn:Int)(hp:List Int)(port:Int)(opq pn:Bool)(pl:List Bs)(hq:Bool)(q:Bs)(hf:Bool)(fg:Bs)(bare sp:Bool)(rst:Bs)(k:PV→List PV→Prop):bL Tryz.prog oL az (oM bp sc us pw hk hs hn hp port opq pn pl hq q hf fg bare sp rst) 1000 Tryz.f88 [.ptr 0 0] [aD 1 (.raw (.pointer bp)) sc us pw hk hs hn hp port opq pn pl hq q hf fg bare sp rst] k=(
 (List.length rst).le (300000:Nat)∧
 ((0:Int)≤↑(ah sp rst)∧
 ↑(ah sp rst)≤ak rst)∧
 ((ae rst ↑(ah sp rst)).length≤(1000000:Nat)∧
 (0:Int)≤(64:Int)∧
 (64:Int)≤(255:Int))∧
 (decide ((0:Int)≤aI (ae rst ↑(ah sp rst)) (64:Int))=true→
 upto (0:Int) (aI (ae rst ↑(ah sp rst)) (64:Int)) (ak (ae rst ↑(ah sp rst)))∧
 ((ae (ae rst ↑(ah sp rst)) (aI (ae rst ↑(ah sp rst)) (64:Int))).length≤(1000000:Nat)∧
 (ByteArray.mk #[58]).data.toList=[(58:UInt8)])∧
 ((dq (ae (ae rst ↑(ah sp rst)) (aI (ae rst ↑(ah sp rst)) (64:Int))) (58:UInt8)).length≤(300000:Nat)∧
 (0:Int)≤(5:Int)∧
 (5:Int)≤(6:Int))∧
 ((dJ (ae (ae rst ↑(ah sp rst)) (aI (ae rst ↑(ah sp rst)) (64:Int))) (58:UInt8)).length≤(300000:Nat)∧
 (0:Int)≤(5:Int)∧
 (5:Int)≤(6:Int))∧
 ay (aI (ae rst ↑(ah sp rst)) (64:Int)+(1:Int))∧
 upto (aI (ae rst ↑(ah sp rst)) (64:Int)+(1:Int)) (ak (ae rst ↑(ah sp rst))) (ak (ae rst ↑(ah sp rst)))∧
 (decide (aa (ae rst ↑(ah sp rst)) (aI (ae rst ↑(ah sp rst)) (64:Int)+(1:Int))=(ByteArray.mk #[]).data.toList)=true→
 k (PV.int .i64 (8:Int)) [bT (PV.raw (Go.Value.pointer bp)) 1 sc (bl (5:Int) (dq (ae (ae rst ↑(ah sp rst)) (aI (ae rst ↑(ah sp rst)) (64:Int))) (58:UInt8))) (bl (5:Int) (dJ (ae (ae rst ↑(ah sp rst)) (aI (ae rst ↑(ah sp rst)) (64:Int))) (58:UInt8))) hk hs hn hp port opq pn pl hq q hf fg bare sp (aa rst ↑(ah sp rst))])∧
 (decide (aa (ae rst ↑(ah sp rst)) (aI (ae rst ↑(ah sp rst)) (64:Int)+(1:Int))=(ByteArray.mk #[]).data.toList)=false→
 (aa (ae rst ↑(ah sp rst)) (aI (ae rst ↑(ah sp rst)) (64:Int)+(1:Int))).length.le (1000000:Nat)∧
 ((bif decide (bc (aa (ae rst ↑(ah sp rst)) (aI (ae rst ↑(ah sp rst)) (64:Int)+(1:Int)))=(0:Int))then true else bif decide (aa (ae rst ↑(ah sp rst)) (aI (ae rst ↑(ah sp rst)) (64:Int)+(1:Int))=(ByteArray.mk #[]).data.toList)then sp else false)=true→
 k (PV.int .i64 (8:Int)) [bT (PV.raw (Go.Value.pointer bp)) 1 sc (bl (5:Int) (dq (ae (ae rst ↑(ah sp rst)) (aI (ae rst ↑(ah sp rst)) (64:Int))) (58:UInt8))) (bl (5:Int) (dJ (ae (ae rst ↑(ah sp rst)) (aI (ae rst ↑(ah sp rst)) (64:Int))) (58:UInt8))) hk hs hn hp port opq pn pl hq q hf fg bare sp (aa rst ↑(ah sp rst))])∧
 ((bif decide (bc (aa (ae rst ↑(ah sp rst)) (aI (ae rst ↑(ah sp rst)) (64:Int)+(1:Int)))=(0:Int))then true else bif decide (aa (ae rst ↑(ah sp rst)) (aI (ae rst ↑(ah sp rst)) (64:Int)+(1:Int))=(ByteArray.mk #[]).data.toList)then sp else false)=false→
 (decide ((0:Int)<bc (aa (ae rst ↑(ah sp rst)) (aI (ae rst ↑(ah sp rst)) (64:Int)+(1:Int))))=true→
 upto (0:Int) (bc (aa (ae rst ↑(ah sp rst)) (aI (ae rst ↑(ah sp rst)) (64:Int)+(1:Int)))) (ak (aa (ae rst ↑(ah sp rst)) (aI (ae rst ↑(ah sp rst)) (64:Int)+(1:Int))))∧
 ay (bc (aa (ae rst ↑(ah sp rst)) (aI (ae rst ↑(ah sp rst)) (64:Int)+(1:Int)))+(1:Int))∧
 upto (bc (aa (ae rst ↑(ah sp rst)) (aI (ae rst ↑(ah sp rst)) (64:Int)+(1:Int)))+(1:Int)) (ak (aa (ae rst ↑(ah sp rst)) (aI (ae rst ↑(ah sp rst)) (64:Int)+(1:Int)))) (ak (aa (ae rst ↑(ah sp rst)) (aI (ae rst ↑(ah sp rst)) (64:Int)+(1:Int))))∧
 (ae (aa (ae rst ↑(ah sp rst)) (aI (ae rst ↑(ah sp rst)) (64:Int)+(1:Int))) (bc (aa (ae rst ↑(ah sp rst)) (aI (ae rst ↑(ah sp rst)) (64:Int)+(1:Int))))).length.le (300000:Nat)∧
 ((!decide ((aM sp (ae (aa (ae rst ↑(ah sp rst)) (aI (ae rst ↑(ah sp rst)) (64:Int)+(1:Int))) (bc (aa (ae rst ↑(ah sp rst)) (aI (ae rst ↑(ah sp rst)) (64:Int)+(1:Int)))))).2.2.2.2=(0:Int)))=true→
 k (PV.int .i64 (aM sp (ae (aa (ae rst ↑(ah sp rst)) (aI (ae rst ↑(ah sp rst)) (64:Int)+(1:Int))) (bc (aa (ae rst ↑(ah sp rst)) (aI (ae rst ↑(ah sp rst)) (64:Int)+(1:Int)))))).2.2.2.2) [bT (PV.raw (Go.Value.pointer bp)) 1 sc (bl (5:Int) (dq (ae (ae rst ↑(ah sp rst)) (aI (ae rst ↑(ah sp rst)) (64:Int))) (58:UInt8))) (bl (5:Int) (dJ (ae (ae rst ↑(ah sp rst)) (aI (ae rst ↑(ah sp rst)) (64:Int))) (58:UInt8))) ((aM sp (ae (aa (ae rst ↑(ah sp rst)) (aI (ae rst ↑(ah sp rst)) (64:Int)+(1:Int))) (bc (aa (ae rst ↑(ah sp rst)) (aI (ae rst ↑(ah sp rst)) (64:Int)+(1:Int)))))).1) ((aM sp (ae (aa (ae rst ↑(ah sp rst)) (aI (ae rst ↑(ah sp rst)) (64:Int)+(1:Int))) (bc (aa (ae rst ↑(ah sp rst)) (aI (ae rst ↑(ah sp rst)) (64:Int)+(1:Int)))))).2.1) ((aM sp (ae (aa (ae rst ↑(ah sp rst)) (aI (ae rst ↑(ah sp rst)) (64:Int)+(1:Int))) (bc (aa (ae rst ↑(ah sp rst)) (aI (ae rst ↑(ah sp rst)) (64:Int)+(1:Int)))))).2.2.1) ((aM sp (ae (aa (ae rst ↑(ah sp rst)) (aI (ae rst ↑(ah sp rst)) (64:Int)+(1:Int))) (bc (aa (ae rst ↑(ah sp rst)) (aI (ae rst ↑(ah sp rst)) (64:Int)+(1:Int)))))).2.2.2.1) port opq pn pl hq q hf fg bare sp (aa rst ↑(ah sp rst))])∧
 ((!decide ((aM sp (ae (aa (ae rst ↑(ah sp rst)) (aI (ae rst ↑(ah sp rst)) (64:Int)+(1:Int))) (bc (aa (ae rst ↑(ah sp rst)) (aI (ae rst ↑(ah sp rst)) (64:Int)+(1:Int)))))).2.2.2.2=(0:Int)))=false→
 (aa (aa (ae rst ↑(ah sp rst)) (aI (ae rst ↑(ah sp rst)) (64:Int)+(1:Int))) (bc (aa (ae rst ↑(ah sp rst)) (aI (ae rst ↑(ah sp rst)) (64:Int)+(1:Int)))+(1:Int))).length.le (300000:Nat)∧
 k (PV.int .i64 (dS sc port (aa (aa (ae rst ↑(ah sp rst)) (aI (ae rst ↑(ah sp rst)) (64:Int)+(1:Int))) (bc (aa (ae rst ↑(ah sp rst)) (aI (ae rst ↑(ah sp rst)) (64:Int)+(1:Int)))+(1:Int)))).2) [bT (PV.raw (Go.Value.pointer bp)) 1 sc (bl (5:Int) (dq (ae (ae rst ↑(ah sp rst)) (aI (ae rst ↑(ah sp rst)) (64:Int))) (58:UInt8))) (bl (5:Int) (dJ (ae (ae rst ↑(ah sp rst)) (aI (ae rst ↑(ah sp rst)) (64:Int))) (58:UInt8))) ((aM sp (ae (aa (ae rst ↑(ah sp rst)) (aI (ae rst ↑(ah sp rst)) (64:Int)+(1:Int))) (bc (aa (ae rst ↑(ah sp rst)) (aI (ae rst ↑(ah sp rst)) (64:Int)+(1:Int)))))).1) ((aM sp (ae (aa (ae rst ↑(ah sp rst)) (aI (ae rst ↑(ah sp rst)) (64:Int)+(1:Int))) (bc (aa (ae rst ↑(ah sp rst)) (aI (ae rst ↑(ah sp rst)) (64:Int)+(1:Int)))))).2.1) ((aM sp (ae (aa (ae rst ↑(ah sp rst)) (aI (ae rst ↑(ah sp rst)) (64:Int)+(1:Int))) (bc (aa (ae rst ↑(ah sp rst)) (aI (ae rst ↑(ah sp rst)) (64:Int)+(1:Int)))))).2.2.1) ((aM sp (ae (aa (ae rst ↑(ah sp rst)) (aI (ae rst ↑(ah sp rst)) (64:Int)+(1:Int))) (bc (aa (ae rst ↑(ah sp rst)) (aI (ae rst ↑(ah sp rst)) (64:Int)+(1:Int)))))).2.2.2.1) ((dS sc port (aa (aa (ae rst ↑(ah sp rst)) (aI (ae rst ↑(ah sp rst)) (64:Int)+(1:Int))) (bc (aa (ae rst ↑(ah sp rst)) (aI (ae rst ↑(ah sp rst)) (64:Int)+(1:Int)))+(1:Int)))).1) opq pn pl hq q hf fg bare sp (aa rst ↑(ah sp rst))]))∧
 (decide ((0:Int)<bc (aa (ae rst ↑(ah sp rst)) (aI (ae rst ↑(ah sp rst)) (64:Int)+(1:Int))))=false→
 (aa (ae rst ↑(ah sp rst)) (aI (ae rst ↑(ah sp rst)) (64:Int)+(1:Int))).length.le (300000:Nat)∧
 ((!decide ((aM sp (aa (ae rst ↑(ah sp rst)) (aI (ae rst ↑(ah sp rst)) (64:Int)+(1:Int)))).2.2.2.2=(0:Int)))=true→
 k (PV.int .i64 (aM sp (aa (ae rst ↑(ah sp rst)) (aI (ae rst ↑(ah sp rst)) (64:Int)+(1:Int)))).2.2.2.2) [bT (PV.raw (Go.Value.pointer bp)) 1 sc (bl (5:Int) (dq (ae (ae rst ↑(ah sp rst)) (aI (ae rst ↑(ah sp rst)) (64:Int))) (58:UInt8))) (bl (5:Int) (dJ (ae (ae rst ↑(ah sp rst)) (aI (ae rst ↑(ah sp rst)) (64:Int))) (58:UInt8))) ((aM sp (aa (ae rst ↑(ah sp rst)) (aI (ae rst ↑(ah sp rst)) (64:Int)+(1:Int)))).1) ((aM sp (aa (ae rst ↑(ah sp rst)) (aI (ae rst ↑(ah sp rst)) (64:Int)+(1:Int)))).2.1) ((aM sp (aa (ae rst ↑(ah sp rst)) (aI (ae rst ↑(ah sp rst)) (64:Int)+(1:Int)))).2.2.1) ((aM sp (aa (ae rst ↑(ah sp rst)) (aI (ae rst ↑(ah sp rst)) (64:Int)+(1:Int)))).2.2.2.1) port opq pn pl hq q hf fg bare sp (aa rst ↑(ah sp rst))])∧
 ((!decide ((aM sp (aa (ae rst ↑(ah sp rst)) (aI (ae rst ↑(ah sp rst)) (64:Int)+(1:Int)))).2.2.2.2=(0:Int)))=false→
 (ByteArray.mk #[]).data.toList.length.le (300000:Nat)∧
 k (PV.int .i64 (0:Int)) [bT (PV.raw (Go.Value.pointer bp)) 1 sc (bl (5:Int) (dq (ae (ae rst ↑(ah sp rst)) (aI (ae rst ↑(ah sp rst)) (64:Int))) (58:UInt8))) (bl (5:Int) (dJ (ae (ae rst ↑(ah sp rst)) (aI (ae rst ↑(ah sp rst)) (64:Int))) (58:UInt8))) ((aM sp (aa (ae rst ↑(ah sp rst)) (aI (ae rst ↑(ah sp rst)) (64:Int)+(1:Int)))).1) ((aM sp (aa (ae rst ↑(ah sp rst)) (aI (ae rst ↑(ah sp rst)) (64:Int)+(1:Int)))).2.1) ((aM sp (aa (ae rst ↑(ah sp rst)) (aI (ae rst ↑(ah sp rst)) (64:Int)+(1:Int)))).2.2.1) ((aM sp (aa (ae rst ↑(ah sp rst)) (aI (ae rst ↑(ah sp rst)) (64:Int)+(1:Int)))).2.2.2.1) port opq pn pl hq q hf fg bare sp (aa rst ↑(ah sp rst))])))))∧
 (decide ((0:Int)≤aI (ae rst ↑(ah sp rst)) (64:Int))=false→
 (ae rst ↑(ah sp rst)).length.le (1000000:Nat)∧
 ((bif decide (bc (ae rst ↑(ah sp rst))=(0:Int))then true else bif decide (ae rst ↑(ah sp rst)=(ByteArray.mk #[]).data.toList)then sp else false)=true→
 k (PV.int .i64 (8:Int)) [bT (PV.raw (Go.Value.pointer bp)) 1 sc us pw hk hs hn hp port opq pn pl hq q hf fg bare sp (aa rst ↑(ah sp rst))])∧
 ((bif decide (bc (ae rst ↑(ah sp rst))=(0:Int))then true else bif decide (ae rst ↑(ah sp rst)=(ByteArray.mk #[]).data.toList)then sp else false)=false→
 (decide ((0:Int)<bc (ae rst ↑(ah sp rst)))=true→
 upto (0:Int) (bc (ae rst ↑(ah sp rst))) (ak (ae rst ↑(ah sp rst)))∧
 ay (bc (ae rst ↑(ah sp rst))+(1:Int))∧
 upto (bc (ae rst ↑(ah sp rst))+(1:Int)) (ak (ae rst ↑(ah sp rst))) (ak (ae rst ↑(ah sp rst)))∧
 (ae (ae rst ↑(ah sp rst)) (bc (ae rst ↑(ah sp rst)))).length.le (300000:Nat)∧
 ((!decide ((aM sp (ae (ae rst ↑(ah sp rst)) (bc (ae rst ↑(ah sp rst))))).2.2.2.2=(0:Int)))=true→
 k (PV.int .i64 (aM sp (ae (ae rst ↑(ah sp rst)) (bc (ae rst ↑(ah sp rst))))).2.2.2.2) [bT (PV.raw (Go.Value.pointer bp)) 1 sc us pw ((aM sp (ae (ae rst ↑(ah sp rst)) (bc (ae rst ↑(ah sp rst))))).1) ((aM sp (ae (ae rst ↑(ah sp rst)) (bc (ae rst ↑(ah sp rst))))).2.1) ((aM sp (ae (ae rst ↑(ah sp rst)) (bc (ae rst ↑(ah sp rst))))).2.2.1) ((aM sp (ae (ae rst ↑(ah sp rst)) (bc (ae rst ↑(ah sp rst))))).2.2.2.1) port opq pn pl hq q hf fg bare sp (aa rst ↑(ah sp rst))])∧
 ((!decide ((aM sp (ae (ae rst ↑(ah sp rst)) (bc (ae rst ↑(ah sp rst))))).2.2.2.2=(0:Int)))=false→
 (aa (ae rst ↑(ah sp rst)) (bc (ae rst ↑(ah sp rst))+(1:Int))).length.le (300000:Nat)∧
 k (PV.int .i64 (dS sc port (aa (ae rst ↑(ah sp rst)) (bc (ae rst ↑(ah sp rst))+(1:Int)))).2) [bT (PV.raw (Go.Value.pointer bp)) 1 sc us pw ((aM sp (ae (ae rst ↑(ah sp rst)) (bc (ae rst ↑(ah sp rst))))).1) ((aM sp (ae (ae rst ↑(ah sp rst)) (bc (ae rst ↑(ah sp rst))))).2.1) ((aM sp (ae (ae rst ↑(ah sp rst)) (bc (ae rst ↑(ah sp rst))))).2.2.1) ((aM sp (ae (ae rst ↑(ah sp rst)) (bc (ae rst ↑(ah sp rst))))).2.2.2.1) ((dS sc port (aa (ae rst ↑(ah sp rst)) (bc (ae rst ↑(ah sp rst))+(1:Int)))).1) opq pn pl hq q hf fg bare sp (aa rst ↑(ah sp rst))]))∧
 (decide ((0:Int)<bc (ae rst ↑(ah sp rst)))=false→
 (ae rst ↑(ah sp rst)).length.le (300000:Nat)∧
 ((!decide ((aM sp (ae rst ↑(ah sp rst))).2.2.2.2=(0:Int)))=true→
 k (PV.int .i64 (aM sp (ae rst ↑(ah sp rst))).2.2.2.2) [bT (PV.raw (Go.Value.pointer bp)) 1 sc us pw ((aM sp (ae rst ↑(ah sp rst))).1) ((aM sp (ae rst ↑(ah sp rst))).2.1) ((aM sp (ae rst ↑(ah sp rst))).2.2.1) ((aM sp (ae rst ↑(ah sp rst))).2.2.2.1) port opq pn pl hq q hf fg bare sp (aa rst ↑(ah sp rst))])∧
 ((!decide ((aM sp (ae rst ↑(ah sp rst))).2.2.2.2=(0:Int)))=false→
 (ByteArray.mk #[]).data.toList.length.le (300000:Nat)∧
 k (PV.int .i64 (0:Int)) [bT (PV.raw (Go.Value.pointer bp)) 1 sc us pw ((aM sp (ae rst ↑(ah sp rst))).1) ((aM sp (ae rst ↑(ah sp rst))).2.1) ((aM sp (ae rst ↑(ah sp rst))).2.2.1) ((aM sp (ae rst ↑(ah sp rst))).2.2.2.1) port opq pn pl hq q hf fg bare sp (aa rst ↑(ah sp rst))]))))):=by kernel_rfl
attribute [local irreducible] Go.Vc.cG Go.Vc.bL
theorem qU(bp:Option Addr)(sc us pw:Bs)(hk:Int)(hs:Bs)(hn:Int)(hp:List Int)(port:Int)(opq pn:Bool)(pl:List Bs)(hq:Bool)(q:Bs)(hf:Bool)(fg:Bs)(bare sp:Bool)(rst:Bs):bh Tryz.prog az 88 [.ptr 0 0] [aD 1 (.raw (.pointer bp)) sc us pw hk hs hn hp port opq pn pl hq q hf fg bare sp rst] (rst.length≤300000) (.int .i64 (RS.mk sc us pw hk hs hn hp port opq pn pl hq q hf fg bare sp rst).aU.2) [aD 1 (.raw (.pointer bp)) sc ((RS.mk sc us pw hk hs hn hp port opq pn pl hq q hf fg bare sp rst).aU.1.us) ((RS.mk sc us pw hk hs hn hp port opq pn pl hq q hf fg bare sp rst).aU.1.pw) ((RS.mk sc us pw hk hs hn hp port opq pn pl hq q hf fg bare sp rst).aU.1.hk) ((RS.mk sc us pw hk hs hn hp port opq pn pl hq q hf fg bare sp rst).aU.1.hs) ((RS.mk sc us pw hk hs hn hp port opq pn pl hq q hf fg bare sp rst).aU.1.hn) ((RS.mk sc us pw hk hs hn hp port opq pn pl hq q hf fg bare sp rst).aU.1.hp) ((RS.mk sc us pw hk hs hn hp port opq pn pl hq q hf fg bare sp rst).aU.1.port) opq pn pl hq q hf fg bare sp (aa rst (ah sp rst))]:=bu (by kernel_rfl) qT (H:=oM bp sc us pw hk hs hn hp port opq pn pl hq q hf fg bare sp rst) (fuel:=1000) Tryz.func88 (by kernel_rfl) (Nat.le_of_ble_eq_true rfl) fun hpre=>(vm bp sc us pw hk hs hn hp port opq pn pl hq q hf fg bare sp rst _).mpr (by
 have e3:ah sp rst≤rst.length:=eY _ _
 obtain ⟨S,e4⟩:∃S,S=ae rst (ah sp rst:Int):=⟨_,rfl⟩
 obtain ⟨D,e5⟩:∃D,D=aa rst (ah sp rst:Int):=⟨_,rfl⟩
 have ha:(RS.mk sc us pw hk hs hn hp port opq pn pl hq q hf fg bare sp rst).aU=if 0≤aI S 64 then(if aa S (aI S 64+1)=[]then(RS.mk sc (bl 5 (dq (ae S (aI S 64)) 58)) (bl 5 (dJ (ae S (aI S 64)) 58)) hk hs hn hp port opq pn pl hq q hf fg bare sp D,8)else(RS.mk sc (bl 5 (dq (ae S (aI S 64)) 58)) (bl 5 (dJ (ae S (aI S 64)) 58)) hk hs hn hp port opq pn pl hq q hf fg bare sp D).bm (aa S (aI S 64+1)))else(RS.mk sc us pw hk hs hn hp port opq pn pl hq q hf fg bare sp D).bm S:=by rw [e4,e5];rfl
 rw [←e4,←e5]
 have e6:S.length≤300000:=by rw [e4];have:=qS rst (ah sp rst:Int);omega
 have hl:=Ge S 64
 have ht:=qS S (aI S 64)
 have hd:=cR S (aI S 64+1)
 have hca:=IQ (ae S (aI S 64)) 58
 have hcb:=IS (ae S (aI S 64)) 58
 refine ⟨show rst.length≤300000 from hpre,⟨by omega,by unfold ak;exact Int.ofNat_le.2 e3⟩,⟨by omega,by omega,by omega⟩,fun h=>⟨⟨by omega,of_decide_eq_true h,by unfold ak;omega⟩,⟨by omega,rfl⟩,⟨by omega,by omega,by omega⟩,⟨by omega,by omega,by omega⟩,by have:=of_decide_eq_true h;unfold ay;omega,⟨by have:=of_decide_eq_true h;omega,by unfold ak;omega,Int.le_refl _⟩,fun h2=>?_,fun h2=>?_⟩,fun h=>?_⟩
 ·rw [ha,if_pos (of_decide_eq_true h),if_pos (show aa S (aI S 64+1)=[]from of_decide_eq_true h2)]
  exact ⟨rfl,rfl⟩
 ·rw [ha,if_pos (of_decide_eq_true h),if_neg (show ¬aa S (aI S 64+1)=[]from of_decide_eq_false h2)]
  exact BH bp sc (bl 5 (dq (ae S (aI S 64)) 58)) (bl 5 (dJ (ae S (aI S 64)) 58)) hk hs hn hp port opq pn pl hq q hf fg bare sp (aa S (aI S 64+1)) D (by omega)
 ·rw [ha,if_neg (of_decide_eq_false h)]
  exact BH bp sc us pw hk hs hn hp port opq pn pl hq q hf fg bare sp S D e6)
theorem vn(bp:Option Addr)(sc us pw:Bs)(hk:Int)(hs:Bs)(hn:Int)(hp:List Int)(port:Int)(opq pn:Bool)(pl:List Bs)(hq:Bool)(q:Bs)(hf:Bool)(fg:Bs)(bare sp:Bool)(rst:Bs):ag Tryz.prog az 88 [.ptr 0 0,aD 1 (.raw (.pointer bp)) sc us pw hk hs hn hp port opq pn pl hq q hf fg bare sp rst] ⟨rst.length≤300000,.tup [.int .i64 (RS.mk sc us pw hk hs hn hp port opq pn pl hq q hf fg bare sp rst).aU.2,aD 1 (.raw (.pointer bp)) sc ((RS.mk sc us pw hk hs hn hp port opq pn pl hq q hf fg bare sp rst).aU.1.us) ((RS.mk sc us pw hk hs hn hp port opq pn pl hq q hf fg bare sp rst).aU.1.pw) ((RS.mk sc us pw hk hs hn hp port opq pn pl hq q hf fg bare sp rst).aU.1.hk) ((RS.mk sc us pw hk hs hn hp port opq pn pl hq q hf fg bare sp rst).aU.1.hs) ((RS.mk sc us pw hk hs hn hp port opq pn pl hq q hf fg bare sp rst).aU.1.hn) ((RS.mk sc us pw hk hs hn hp port opq pn pl hq q hf fg bare sp rst).aU.1.hp) ((RS.mk sc us pw hk hs hn hp port opq pn pl hq q hf fg bare sp rst).aU.1.port) opq pn pl hq q hf fg bare sp (aa rst (ah sp rst))]⟩:=ag.aZ (fun h=>by have e:List.isEmpty (PV.aC PV.bt [.ptr 0 0,aD 1 (.raw (.pointer bp)) sc us pw hk hs hn hp port opq pn pl hq q hf fg bare sp rst])=false:=(by kernel_rfl);exact Bool.noConfusion (e.symm.trans (congrArg List.isEmpty h))) (qU bp sc us pw hk hs hn hp port opq pn pl hq q hf fg bare sp rst)
def hZ:List PV→Option aF:=fun xs=>match xs with
 |[.ptr 0 0,aD 1 (.raw (.pointer bp)) sc us pw hk hs hn hp port opq pn pl hq q hf fg bare sp rst]=>some ⟨rst.length≤300000,.tup [.int .i64 (RS.mk sc us pw hk hs hn hp port opq pn pl hq q hf fg bare sp rst).aU.2,aD 1 (.raw (.pointer bp)) sc ((RS.mk sc us pw hk hs hn hp port opq pn pl hq q hf fg bare sp rst).aU.1.us) ((RS.mk sc us pw hk hs hn hp port opq pn pl hq q hf fg bare sp rst).aU.1.pw) ((RS.mk sc us pw hk hs hn hp port opq pn pl hq q hf fg bare sp rst).aU.1.hk) ((RS.mk sc us pw hk hs hn hp port opq pn pl hq q hf fg bare sp rst).aU.1.hs) ((RS.mk sc us pw hk hs hn hp port opq pn pl hq q hf fg bare sp rst).aU.1.hn) ((RS.mk sc us pw hk hs hn hp port opq pn pl hq q hf fg bare sp rst).aU.1.hp) ((RS.mk sc us pw hk hs hn hp port opq pn pl hq q hf fg bare sp rst).aU.1.port) opq pn pl hq q hf fg bare sp (aa rst (ah sp rst))]⟩
 |_=>none
theorem nN:∀xs c,hZ xs=some c→ag Tryz.prog az 88 xs c:=fun xs c h=>by
 unfold hZ at h
 split at h
 ·injection h with h;subst h;exact vn _ _ _ _ _ _ _ _ _ _ _ _ _ _ _ _ _ _ _
 ·cases h
end
section
def qV:cw:=bO [(124,fO),(128,gH),(136,lq)]
def qW(bp:Option Addr)(sc us pw:Bs)(hk:Int)(hs:Bs)(hn:Int)(hp:List Int)(port:Int)(opq pn:Bool)(pl:List Bs)(hq:Bool)(q:Bs)(hf:Bool)(fg:Bs)(bare sp:Bool)(rst:Bs):aX:=fun i=>none
theorem rY:cW Tryz.prog az qV:=ai gG (ai fP (ai rV (ax)))
theorem xK(bp:Option Addr)(sc us pw:Bs)(hk:Int)(hs:Bs)(hn:Int)(hp:List Int)(port:Int)(opq pn:Bool)(pl:List Bs)(hq:Bool)(q:Bs)(hf:Bool)(fg:Bs)(bare sp:Bool)(rst:Bs)(k:PV→List PV→Prop):bL Tryz.prog qV az (qW bp sc us pw hk hs hn hp port opq pn pl hq q hf fg bare sp rst) 1000 Tryz.f125 [.ptr 0 0] [aD 1 (.raw (.pointer bp)) sc us pw hk hs hn hp port opq pn pl hq q hf fg bare sp rst] k=(
 (List.length rst).le (300000:Nat)∧
 ((0:Int)≤↑(ah sp rst)∧
 ↑(ah sp rst)≤ak rst)∧
 (decide (ae rst ↑(ah sp rst)=(ByteArray.mk #[]).data.toList)=true→
 k (PV.int .i64 (0:Int)) [bT (PV.raw (Go.Value.pointer bp)) 1 sc us pw hk hs hn hp port opq pn pl hq q hf fg bare sp (aa rst ↑(ah sp rst))])∧
 (decide (ae rst ↑(ah sp rst)=(ByteArray.mk #[]).data.toList)=false→
 (ae rst ↑(ah sp rst)).length.le (1000000:Nat)∧
 ((bif !decide ((cA (ae rst ↑(ah sp rst))).1=(2:Int))then true else !decide ((cA (ae rst ↑(ah sp rst))).2.1=(ByteArray.mk #[108,111,99,97,108,104,111,115,116]).data.toList))=true→
 k (PV.int .i64 (cA (ae rst ↑(ah sp rst))).2.2.2.2) [bT (PV.raw (Go.Value.pointer bp)) 1 sc us pw ((cA (ae rst ↑(ah sp rst))).1) ((cA (ae rst ↑(ah sp rst))).2.1) ((cA (ae rst ↑(ah sp rst))).2.2.1) ((cA (ae rst ↑(ah sp rst))).2.2.2.1) port opq pn pl hq q hf fg bare sp (aa rst ↑(ah sp rst))])∧
 ((bif !decide ((cA (ae rst ↑(ah sp rst))).1=(2:Int))then true else !decide ((cA (ae rst ↑(ah sp rst))).2.1=(ByteArray.mk #[108,111,99,97,108,104,111,115,116]).data.toList))=false→
 k (PV.int .i64 (cA (ae rst ↑(ah sp rst))).2.2.2.2) [bT (PV.raw (Go.Value.pointer bp)) 1 sc us pw hk hs hn hp port opq pn pl hq q hf fg bare sp (aa rst ↑(ah sp rst))]))):=by kernel_rfl
attribute [local irreducible] Go.Vc.cG Go.Vc.bL
theorem rZ(bp:Option Addr)(sc us pw:Bs)(hk:Int)(hs:Bs)(hn:Int)(hp:List Int)(port:Int)(opq pn:Bool)(pl:List Bs)(hq:Bool)(q:Bs)(hf:Bool)(fg:Bs)(bare sp:Bool)(rst:Bs):bh Tryz.prog az 125 [.ptr 0 0] [aD 1 (.raw (.pointer bp)) sc us pw hk hs hn hp port opq pn pl hq q hf fg bare sp rst] (rst.length≤300000) (.int .i64 (RS.mk sc us pw hk hs hn hp port opq pn pl hq q hf fg bare sp rst).av.2) [aD 1 (.raw (.pointer bp)) sc us pw ((RS.mk sc us pw hk hs hn hp port opq pn pl hq q hf fg bare sp rst).av.1.hk) ((RS.mk sc us pw hk hs hn hp port opq pn pl hq q hf fg bare sp rst).av.1.hs) ((RS.mk sc us pw hk hs hn hp port opq pn pl hq q hf fg bare sp rst).av.1.hn) ((RS.mk sc us pw hk hs hn hp port opq pn pl hq q hf fg bare sp rst).av.1.hp) port opq pn pl hq q hf fg bare sp (aa rst (ah sp rst))]:=bu (by kernel_rfl) rY (H:=qW bp sc us pw hk hs hn hp port opq pn pl hq q hf fg bare sp rst) (fuel:=1000) Tryz.func125 (by kernel_rfl) (Nat.le_of_ble_eq_true rfl) fun hpre=>(xK bp sc us pw hk hs hn hp port opq pn pl hq q hf fg bare sp rst _).mpr (by
 have e3:ah sp rst≤rst.length:=eY _ _
 obtain ⟨S,e4⟩:∃S,S=ae rst (ah sp rst:Int):=⟨_,rfl⟩
 rw [←e4]
 have e6:S.length≤300000:=by rw [e4];unfold ae;rw [List.length_take];omega
 have ef:(RS.mk sc us pw hk hs hn hp port opq pn pl hq q hf fg bare sp rst).av=if S=[]then((RS.mk sc us pw hk hs hn hp port opq pn pl hq q hf fg bare sp rst).cut (ah sp rst),0)else if(cA S).1=2∧(cA S).2.1=Le then((RS.mk sc us pw hk hs hn hp port opq pn pl hq q hf fg bare sp rst).cut (ah sp rst),(cA S).2.2.2.2)else({(RS.mk sc us pw hk hs hn hp port opq pn pl hq q hf fg bare sp rst).cut (ah sp rst)with hk:=(cA S).1,hs:=(cA S).2.1,hn:=(cA S).2.2.1,hp:=(cA S).2.2.2.1},(cA S).2.2.2.2):=by rw [e4];rfl
 rw [ef]
 refine ⟨show rst.length≤300000 from hpre,⟨by omega,by unfold ak;exact Int.ofNat_le.2 e3⟩,fun h=>?_,fun h=>⟨show S.length≤1000000 by omega,fun h2=>?_,fun h2=>?_⟩⟩
 ·rw [if_pos (show S=[]from of_decide_eq_true h)];exact ⟨rfl,rfl⟩
 ·rw [if_neg (show ¬S=[]from of_decide_eq_false h),if_neg]
  ·exact ⟨rfl,rfl⟩
  ·rintro ⟨a,b⟩
   rw [decide_eq_true a,show decide ((cA S).2.1=(ByteArray.mk #[108,111,99,97,108,104,111,115,116]).data.toList)=true from decide_eq_true b]at h2
   cases h2
 ·rw [if_neg (show ¬S=[]from of_decide_eq_false h),if_pos]
  ·exact ⟨rfl,rfl⟩
  ·cases ha:decide ((cA S).1=2)with
   |false=>rw [ha]at h2;cases h2
   |true=>
    rw [ha]at h2
    cases hb:decide ((cA S).2.1=(ByteArray.mk #[108,111,99,97,108,104,111,115,116]).data.toList)with
    |false=>rw [hb]at h2;cases h2
    |true=>exact ⟨of_decide_eq_true ha,of_decide_eq_true hb⟩)
theorem xL(bp:Option Addr)(sc us pw:Bs)(hk:Int)(hs:Bs)(hn:Int)(hp:List Int)(port:Int)(opq pn:Bool)(pl:List Bs)(hq:Bool)(q:Bs)(hf:Bool)(fg:Bs)(bare sp:Bool)(rst:Bs):ag Tryz.prog az 125 [.ptr 0 0,aD 1 (.raw (.pointer bp)) sc us pw hk hs hn hp port opq pn pl hq q hf fg bare sp rst] ⟨rst.length≤300000,.tup [.int .i64 (RS.mk sc us pw hk hs hn hp port opq pn pl hq q hf fg bare sp rst).av.2,aD 1 (.raw (.pointer bp)) sc us pw ((RS.mk sc us pw hk hs hn hp port opq pn pl hq q hf fg bare sp rst).av.1.hk) ((RS.mk sc us pw hk hs hn hp port opq pn pl hq q hf fg bare sp rst).av.1.hs) ((RS.mk sc us pw hk hs hn hp port opq pn pl hq q hf fg bare sp rst).av.1.hn) ((RS.mk sc us pw hk hs hn hp port opq pn pl hq q hf fg bare sp rst).av.1.hp) port opq pn pl hq q hf fg bare sp (aa rst (ah sp rst))]⟩:=ag.aZ (fun h=>by have e:List.isEmpty (PV.aC PV.bt [.ptr 0 0,aD 1 (.raw (.pointer bp)) sc us pw hk hs hn hp port opq pn pl hq q hf fg bare sp rst])=false:=(by kernel_rfl);exact Bool.noConfusion (e.symm.trans (congrArg List.isEmpty h))) (rZ bp sc us pw hk hs hn hp port opq pn pl hq q hf fg bare sp rst)
def ji:List PV→Option aF:=fun xs=>match xs with
 |[.ptr 0 0,aD 1 (.raw (.pointer bp)) sc us pw hk hs hn hp port opq pn pl hq q hf fg bare sp rst]=>some ⟨rst.length≤300000,.tup [.int .i64 (RS.mk sc us pw hk hs hn hp port opq pn pl hq q hf fg bare sp rst).av.2,aD 1 (.raw (.pointer bp)) sc us pw ((RS.mk sc us pw hk hs hn hp port opq pn pl hq q hf fg bare sp rst).av.1.hk) ((RS.mk sc us pw hk hs hn hp port opq pn pl hq q hf fg bare sp rst).av.1.hs) ((RS.mk sc us pw hk hs hn hp port opq pn pl hq q hf fg bare sp rst).av.1.hn) ((RS.mk sc us pw hk hs hn hp port opq pn pl hq q hf fg bare sp rst).av.1.hp) port opq pn pl hq q hf fg bare sp (aa rst (ah sp rst))]⟩
 |_=>none
theorem oX:∀xs c,ji xs=some c→ag Tryz.prog az 125 xs c:=fun xs c h=>by
 unfold ji at h
 split at h
 ·injection h with h;subst h;exact xL _ _ _ _ _ _ _ _ _ _ _ _ _ _ _ _ _ _ _
 ·cases h
end
section
def Jv:cw:=bO [(153,jg)]
def Jw(l:Bs):aX:=fun i=>none
theorem Gf:cW Tryz.prog az Jv:=ai kG (ax)
theorem Kz(l:Bs)(k:PV→Prop):cG Tryz.prog Jv az (Jw l) 1000 Tryz.f123 [.str l] k=(
 (decide (ak l=(2:Int))=true→within (0:Int) (ak l))∧
 (decide (ak l=(2:Int))=true→(0:Int)≤al l (0:Int)∧al l (0:Int)≤(255:Int))∧
 ((bif decide (ak l=(2:Int))then
 decide
 ((97:Int)≤al l (0:Int)∧al l (0:Int)≤(122:Int)∨
 (65:Int)≤al l (0:Int)∧al l (0:Int)≤(90:Int))
 else false)=
 true→
 within (1:Int) (ak l))∧
 ((bif decide (ak l=(2:Int))then
 decide
 ((97:Int)≤al l (0:Int)∧al l (0:Int)≤(122:Int)∨
 (65:Int)≤al l (0:Int)∧al l (0:Int)≤(90:Int))
 else false)=
 true→
 decide (al l (1:Int)=(58:Int))=false→within (1:Int) (ak l))∧
 k
 (PV.bool
 (bif
 bif decide (ak l=(2:Int))then
 decide
 ((97:Int)≤al l (0:Int)∧al l (0:Int)≤(122:Int)∨
 (65:Int)≤al l (0:Int)∧al l (0:Int)≤(90:Int))
 else false then
 bif decide (al l (1:Int)=(58:Int))then true else decide (al l (1:Int)=(124:Int))
 else false))):=by kernel_rfl
attribute [local irreducible] Go.Vc.cG
theorem KA(l:Bs):ag Tryz.prog az 123 [.str l] ⟨True,.bool (bM l)⟩:=b7 (by kernel_rfl) Gf (H:=Jw l) (fuel:=1000) Tryz.func123 (by kernel_rfl) fun hpre=>(Kz l _).mpr (by
 have hr:=gP l 0
 have b0:al l 0=aN l 0:=iH l 0
 have b1:al l 1=aN l 1:=iH l 1
 have w2:∀z:Int,0≤z→z<2→∀b:Bool,(bif decide (ak l=2)then b else false)=true→within z (ak l):=fun z h0 h1 b h=>by
  cases e:decide (ak l=2)with
  |false=>rw [e]at h;cases h
  |true=>have:=of_decide_eq_true e;unfold within;omega
 refine ⟨fun h=>?_,fun _=>by omega,fun h=>w2 1 (by omega) (by omega) _ h,fun h _=>w2 1 (by omega) (by omega) _ h,?_⟩
 ·have:=of_decide_eq_true h;unfold within;omega
 ·congr 1
  unfold bM CI
  rw [b0,b1,Bool.eq_iff_iff]
  simp only [Ig,KM,Bool.and_eq_true,Bool.or_eq_true,decide_eq_true_eq]
  unfold ak
  omega)
def mA:List PV→Option aF:=fun xs=>match xs with
 |[.str l]=>some ⟨True,.bool (bM l)⟩
 |_=>none
theorem lx:∀xs c,mA xs=some c→ag Tryz.prog az 123 xs c:=fun xs c h=>by
 unfold mA at h
 split at h
 ·injection h with h;subst h;exact KA _
 ·cases h
end
section
def Jx:cw:=bO [(123,mA)]
def Jy(l:Bs):aX:=fun i=>none
theorem Gg:cW Tryz.prog az Jx:=ai lx (ax)
theorem KB(l:Bs)(k:PV→Prop):cG Tryz.prog Jx az (Jy l) 1000 Tryz.f132 [.str l] k=(
 True∧
 (bM l=true→within (1:Int) (ak l))∧
 k (PV.bool (bif bM l then decide (al l (1:Int)=(58:Int))else false))):=by kernel_rfl
attribute [local irreducible] Go.Vc.cG
theorem KC(l:Bs):ag Tryz.prog az 132 [.str l] ⟨True,.bool (nw l)⟩:=b7 (by kernel_rfl) Gg (H:=Jy l) (fuel:=1000) Tryz.func132 (by kernel_rfl) fun hpre=>(KB l _).mpr (by
 have b1:al l 1=aN l 1:=iH l 1
 refine ⟨trivial,fun h=>?_,?_⟩
 ·unfold bM at h
  simp only [Bool.and_eq_true,decide_eq_true_eq]at h
  unfold within ak;omega
 ·show PV.bool _=PV.bool (bM l&&decide (aN l 1=58))
  rw [←b1]
  cases bM l<;>rfl)
def vo:List PV→Option aF:=fun xs=>match xs with
 |[.str l]=>some ⟨True,.bool (nw l)⟩
 |_=>none
theorem Af:∀xs c,vo xs=some c→ag Tryz.prog az 132 xs c:=fun xs c h=>by
 unfold vo at h
 split at h
 ·injection h with h;subst h;exact KC _
 ·cases h
end
section
def tI:cw:=bO [(132,vo)]
def tJ(bp:Option Addr)(sc us pw:Bs)(hk:Int)(hs:Bs)(hn:Int)(hp:List Int)(port:Int)(opq pn:Bool)(pl:List Bs)(hq:Bool)(q:Bs)(hf:Bool)(fg:Bs)(bare sp:Bool)(rst:Bs):aX:=fun i=>none
theorem vp:cW Tryz.prog az tI:=ai Af (ax)
theorem Ag(bp:Option Addr)(sc us pw:Bs)(hk:Int)(hs:Bs)(hn:Int)(hp:List Int)(port:Int)(opq pn:Bool)(pl:List Bs)(hq:Bool)(q:Bs)(hf:Bool)(fg:Bs)(bare sp:Bool)(rst:Bs)(k:PV→List PV→Prop):bL Tryz.prog tI az (tJ bp sc us pw hk hs hn hp port opq pn pl hq q hf fg bare sp rst) 1000 Tryz.f87 [.ptr 0 0] [aD 1 (.raw (.pointer bp)) sc us pw hk hs hn hp port opq pn pl hq q hf fg bare sp rst] k=(
 (decide (Int.ofNat pl.length=(0:Int))=false→
 (bif decide (Int.ofNat pl.length=(1:Int))then decide (sc=(ByteArray.mk #[102,105,108,101]).data.toList)else false)=true→
 within (0:Int) (Int.ofNat pl.length))∧
 (decide (Int.ofNat pl.length=(0:Int))=false→
 (bif decide (Int.ofNat pl.length=(1:Int))then decide (sc=(ByteArray.mk #[102,105,108,101]).data.toList)else false)=true→
 True)∧
 ((bif decide (Int.ofNat pl.length=(0:Int))then true else bif bif decide (Int.ofNat pl.length=(1:Int))then decide (sc=(ByteArray.mk #[102,105,108,101]).data.toList)else false then nw (cf pl (0:Int))else false)=true→
 k (PV.tup []) [bT (PV.raw (Go.Value.pointer bp)) 1 sc us pw hk hs hn hp port opq pn pl hq q hf fg bare sp rst])∧
 ((bif decide (Int.ofNat pl.length=(0:Int))then true else bif bif decide (Int.ofNat pl.length=(1:Int))then decide (sc=(ByteArray.mk #[102,105,108,101]).data.toList)else false then nw (cf pl (0:Int))else false)=false→
 ay (Int.ofNat pl.length-(1:Int))∧
 upto (0:Int) (Int.ofNat pl.length-(1:Int)) (Int.ofNat pl.length)∧
 k (PV.tup []) [bT (PV.raw (Go.Value.pointer bp)) 1 sc us pw hk hs hn hp port opq pn (ae pl (Int.ofNat pl.length-(1:Int))) hq q hf fg bare sp rst])):=by kernel_rfl
attribute [local irreducible] Go.Vc.cG Go.Vc.bL
theorem mB(bp:Option Addr)(sc us pw:Bs)(hk:Int)(hs:Bs)(hn:Int)(hp:List Int)(port:Int)(opq pn:Bool)(pl:List Bs)(hq:Bool)(q:Bs)(hf:Bool)(fg:Bs)(bare sp:Bool)(rst:Bs):bh Tryz.prog az 87 [.ptr 0 0] [aD 1 (.raw (.pointer bp)) sc us pw hk hs hn hp port opq pn pl hq q hf fg bare sp rst] (pl.length≤1000000) (.tup []) [aD 1 (.raw (.pointer bp)) sc us pw hk hs hn hp port opq ((bN sc (pn,pl)).1) ((bN sc (pn,pl)).2) hq q hf fg bare sp rst]:=bu (by kernel_rfl) vp (H:=tJ bp sc us pw hk hs hn hp port opq pn pl hq q hf fg bare sp rst) (fuel:=1000) Tryz.func87 (by kernel_rfl) (Nat.le_of_ble_eq_true rfl) fun hpre=>(Ag bp sc us pw hk hs hn hp port opq pn pl hq q hf fg bare sp rst _).mpr (by
 have ef:(ByteArray.mk #[102,105,108,101]).data.toList=fL:=rfl
 rcases pl with _ |⟨x,_ |⟨y,t⟩⟩
 ·refine ⟨fun h=>(by cases h),fun h=>(by cases h),fun _=>⟨rfl,rfl⟩,fun h=>(by cases h)⟩
 ·refine ⟨fun _ _=>⟨Int.le_refl _,show(0:Int)<1 by decide⟩,fun _ _=>trivial,fun h=>?_,fun h=>?_⟩
  ·have:bN sc (pn,[x])=(pn,[x]):=by
    unfold bN
    rw [if_pos]
    refine .inr ⟨rfl,?_,?_⟩
    ·by_cases e:sc=fL
     ·exact e
     ·rw [show decide (sc=(ByteArray.mk #[102,105,108,101]).data.toList)=false from decide_eq_false e]at h;cases h
    ·by_cases e:sc=fL
     ·rw [show decide (sc=(ByteArray.mk #[102,105,108,101]).data.toList)=true from decide_eq_true e]at h;exact h
     ·rw [show decide (sc=(ByteArray.mk #[102,105,108,101]).data.toList)=false from decide_eq_false e]at h;cases h
   rw [this];exact ⟨rfl,rfl⟩
  ·have:bN sc (pn,[x])=(pn,[]):=by
    unfold bN
    rw [if_neg]
    ·rfl
    ·rintro (e|⟨-,e,e2⟩)
     ·cases e
     ·rw [show decide (sc=(ByteArray.mk #[102,105,108,101]).data.toList)=true from decide_eq_true e]at h
      have e3:nw (cf [x] 0)=true:=e2
      rw [e3]at h;cases h
   rw [this]
   exact ⟨show ay (1-1) by unfold ay;omega,show upto 0 (1-1) 1 by unfold upto;omega,rfl,rfl⟩
 ·have hn:¬Int.ofNat (x::y::t).length=(0:Int):=by simp [Int.ofNat];omega
  have hn1:¬Int.ofNat (x::y::t).length=(1:Int):=by simp [Int.ofNat];omega
  rw [decide_eq_false hn,decide_eq_false hn1]
  refine ⟨fun _ h=>(by cases h),fun _ h=>(by cases h),fun h=>(by cases h),fun _=>?_⟩
  have:bN sc (pn,x::y::t)=(pn,ae (x::y::t) (Int.ofNat (x::y::t).length-1)):=by
   unfold bN
   rw [if_neg]
   ·unfold ae
    show(pn,(x::y::t).take ((x::y::t).length-1))=_
    congr 2
    simp
   ·rintro (e|⟨e,-⟩)
    ·cases e
    ·simp at e
  rw [this]
  have hl:t.length+1+1≤1000000:=hpre
  have e9:Int.ofNat (x::y::t).length=(t.length:Int)+2:=by show((t.length+1+1:Nat):Int)=_;omega
  exact ⟨by rw [e9];unfold ay;omega,by rw [e9];unfold upto;omega,rfl,rfl⟩)
theorem Ah(bp:Option Addr)(sc us pw:Bs)(hk:Int)(hs:Bs)(hn:Int)(hp:List Int)(port:Int)(opq pn:Bool)(pl:List Bs)(hq:Bool)(q:Bs)(hf:Bool)(fg:Bs)(bare sp:Bool)(rst:Bs):ag Tryz.prog az 87 [.ptr 0 0,aD 1 (.raw (.pointer bp)) sc us pw hk hs hn hp port opq pn pl hq q hf fg bare sp rst] ⟨pl.length≤1000000,.tup [.tup [],aD 1 (.raw (.pointer bp)) sc us pw hk hs hn hp port opq ((bN sc (pn,pl)).1) ((bN sc (pn,pl)).2) hq q hf fg bare sp rst]⟩:=ag.aZ (fun h=>by have e:List.isEmpty (PV.aC PV.bt [.ptr 0 0,aD 1 (.raw (.pointer bp)) sc us pw hk hs hn hp port opq pn pl hq q hf fg bare sp rst])=false:=(by kernel_rfl);exact Bool.noConfusion (e.symm.trans (congrArg List.isEmpty h))) (mB bp sc us pw hk hs hn hp port opq pn pl hq q hf fg bare sp rst)
def jY:List PV→Option aF:=fun xs=>match xs with
 |[.ptr 0 0,aD 1 (.raw (.pointer bp)) sc us pw hk hs hn hp port opq pn pl hq q hf fg bare sp rst]=>some ⟨pl.length≤1000000,.tup [.tup [],aD 1 (.raw (.pointer bp)) sc us pw hk hs hn hp port opq ((bN sc (pn,pl)).1) ((bN sc (pn,pl)).2) hq q hf fg bare sp rst]⟩
 |_=>none
theorem qX:∀xs c,jY xs=some c→ag Tryz.prog az 87 xs c:=fun xs c h=>by
 unfold jY at h
 split at h
 ·injection h with h;subst h;exact Ah _ _ _ _ _ _ _ _ _ _ _ _ _ _ _ _ _ _ _
 ·cases h
end
section
theorem qY(sc:Bs)(p:Pa):(bN sc p).2.length≤p.2.length:=by
 unfold bN
 split
 ·exact Nat.le_refl _
 ·show(p.2.take _).length≤_
  rw [List.length_take];omega
def Gi:cw:=bO [(163,qB),(164,uW),(123,mA),(87,jY),(26,eZ)]
def Gj(bp:Option Addr)(sc us pw:Bs)(hk:Int)(hs:Bs)(hn:Int)(hp:List Int)(port:Int)(opq pn:Bool)(pl:List Bs)(hq:Bool)(q:Bs)(hf:Bool)(fg:Bs)(bare sp:Bool)(rst:Bs)(t:Bs)(last:Bool):aX:=fun i=>none
theorem Dx:cW Tryz.prog az Gi:=ai xm (ai zO (ai lx (ai qX (ai dR (ax)))))
theorem IT(bp:Option Addr)(sc us pw:Bs)(hk:Int)(hs:Bs)(hn:Int)(hp:List Int)(port:Int)(opq pn:Bool)(pl:List Bs)(hq:Bool)(q:Bs)(hf:Bool)(fg:Bs)(bare sp:Bool)(rst:Bs)(t:Bs)(last:Bool)(k:PV→List PV→Prop):bL Tryz.prog Gi az (Gj bp sc us pw hk hs hn hp port opq pn pl hq q hf fg bare sp rst t last) 1000 Tryz.f139 [.ptr 0 0,.str t,.bool last] [aD 1 (.raw (.pointer bp)) sc us pw hk hs hn hp port opq pn pl hq q hf fg bare sp rst] k=(
 (List.length t).le (1000000:Nat)∧
 (jq t=true→
 pl.length.le (1000000:Nat)∧
 (last=true→
 Int.ofNat ((bN sc (pn,pl)).2++[(ByteArray.mk #[]).data.toList]).length≤cq∧
 k (PV.tup []) [bT (PV.raw (Go.Value.pointer bp)) 1 sc us pw hk hs hn hp port opq false ((bN sc (pn,pl)).2++[(ByteArray.mk #[]).data.toList]) hq q hf fg bare sp rst])∧
 (last=false→
 k (PV.tup []) [bT (PV.raw (Go.Value.pointer bp)) 1 sc us pw hk hs hn hp port opq ((bN sc (pn,pl)).1) ((bN sc (pn,pl)).2) hq q hf fg bare sp rst]))∧
 (jq t=false→
 (List.length t).le (1000000:Nat)∧
 (ku t=true→
 (last=true→
 Int.ofNat (pl++[(ByteArray.mk #[]).data.toList]).length≤cq∧
 k (PV.tup []) [bT (PV.raw (Go.Value.pointer bp)) 1 sc us pw hk hs hn hp port opq false (pl++[(ByteArray.mk #[]).data.toList]) hq q hf fg bare sp rst])∧
 (last=false→
 k (PV.tup []) [bT (PV.raw (Go.Value.pointer bp)) 1 sc us pw hk hs hn hp port opq pn pl hq q hf fg bare sp rst]))∧
 (ku t=false→
 ((bif decide (sc=(ByteArray.mk #[102,105,108,101]).data.toList)then decide (Int.ofNat pl.length=(0:Int))else false)=true→
 True)∧
 ((bif bif decide (sc=(ByteArray.mk #[102,105,108,101]).data.toList)then decide (Int.ofNat pl.length=(0:Int))else false then bM t else false)=true→
 upto (0:Int) (1:Int) (ak t)∧
 (ae t (1:Int)).length+(ByteArray.mk #[58]).data.toList.length≤Go.Vc.maxLen∧
 (Int.ofNat (pl++[ae t (1:Int)++(ByteArray.mk #[58]).data.toList]).length≤cq∧
 k (PV.tup []) [bT (PV.raw (Go.Value.pointer bp)) 1 sc us pw hk hs hn hp port opq false (pl++[ae t (1:Int)++(ByteArray.mk #[58]).data.toList]) hq q hf fg bare sp rst])∧
 Int.ofNat (pl++[ae t (1:Int)++(ByteArray.mk #[58]).data.toList]).length≤cq∧
 k (PV.tup []) [bT (PV.raw (Go.Value.pointer bp)) 1 sc us pw hk hs hn hp port opq false (pl++[ae t (1:Int)++(ByteArray.mk #[58]).data.toList]) hq q hf fg bare sp rst])∧
 ((bif bif decide (sc=(ByteArray.mk #[102,105,108,101]).data.toList)then decide (Int.ofNat pl.length=(0:Int))else false then bM t else false)=false→
 ((List.length t≤(300000:Nat)∧
 (0:Int)≤(4:Int)∧
 (4:Int)≤(6:Int))∧
 Int.ofNat (pl++[bl (4:Int) t]).length≤cq∧
 k (PV.tup []) [bT (PV.raw (Go.Value.pointer bp)) 1 sc us pw hk hs hn hp port opq false (pl++[bl (4:Int) t]) hq q hf fg bare sp rst])∧
 (List.length t≤(300000:Nat)∧
 (0:Int)≤(4:Int)∧
 (4:Int)≤(6:Int))∧
 (Int.ofNat (pl++[bl (4:Int) t]).length≤cq∧
 k (PV.tup []) [bT (PV.raw (Go.Value.pointer bp)) 1 sc us pw hk hs hn hp port opq false (pl++[bl (4:Int) t]) hq q hf fg bare sp rst])∧
 Int.ofNat (pl++[bl (4:Int) t]).length≤cq∧
 k (PV.tup []) [bT (PV.raw (Go.Value.pointer bp)) 1 sc us pw hk hs hn hp port opq false (pl++[bl (4:Int) t]) hq q hf fg bare sp rst])))):=by kernel_rfl
attribute [local irreducible] Go.Vc.cG Go.Vc.bL
theorem Dy(bp:Option Addr)(sc us pw:Bs)(hk:Int)(hs:Bs)(hn:Int)(hp:List Int)(port:Int)(opq pn:Bool)(pl:List Bs)(hq:Bool)(q:Bs)(hf:Bool)(fg:Bs)(bare sp:Bool)(rst:Bs)(t:Bs)(last:Bool):bh Tryz.prog az 139 [.ptr 0 0,.str t,.bool last] [aD 1 (.raw (.pointer bp)) sc us pw hk hs hn hp port opq pn pl hq q hf fg bare sp rst] (pl.length≤1000000∧t.length≤300000) (.tup []) [aD 1 (.raw (.pointer bp)) sc us pw hk hs hn hp port opq ((cp sc (pn,pl) t last).1) ((cp sc (pn,pl) t last).2) hq q hf fg bare sp rst]:=bu (by kernel_rfl) Dx (H:=Gj bp sc us pw hk hs hn hp port opq pn pl hq q hf fg bare sp rst t last) (fuel:=1000) Tryz.func139 (by kernel_rfl) (Nat.le_of_ble_eq_true rfl) fun hpre=>(IT bp sc us pw hk hs hn hp port opq pn pl hq q hf fg bare sp rst t last _).mpr (by
 obtain ⟨hp1,hp2⟩:=hpre
 have hm:∀(p:List Bs) (x:Bs),p.length≤1000000→Int.ofNat (p++[x]).length≤cq:=fun p x h=>by
  rw [List.length_append]
  show((p.length+1:Nat):Int)≤16777216
  omega
 have hsl:=qY sc (pn,pl)
 have ht:(List.length t).le 1000000:=show t.length≤1000000 by omega
 have hcond:(bif bif decide (sc=(ByteArray.mk #[102,105,108,101]).data.toList)then decide (Int.ofNat pl.length=(0:Int))else false then bM t else false)=decide (sc=fL∧pl=[]∧bM t=true):=by
  rw [Bool.eq_iff_iff]
  simp only [Ig,Bool.and_eq_true,decide_eq_true_eq]
  constructor
  ·rintro ⟨⟨a,b⟩,c⟩
   exact ⟨a,List.eq_nil_of_length_eq_zero (Int.ofNat.inj b),c⟩
  ·rintro ⟨a,b,c⟩
   exact ⟨⟨a,by rw [b];rfl⟩,c⟩
 rw [hcond]
 refine ⟨ht,fun h=>⟨hp1,fun hl=>⟨hm _ _ (Nat.le_trans hsl hp1),?_⟩,fun hl=>?_⟩,fun h=>⟨ht,fun h2=>⟨fun hl=>⟨hm _ _ hp1,?_⟩,fun hl=>?_⟩,fun h2=>⟨fun _=>trivial,fun h3=>?_,fun h3=>?_⟩⟩⟩
 ·have e:cp sc (pn,pl) t last=(false,(bN sc (pn,pl)).2++[[]]):=by unfold cp;rw [if_pos h,hl];rfl
  rw [e];exact ⟨rfl,rfl⟩
 ·have e:cp sc (pn,pl) t last=bN sc (pn,pl):=by unfold cp;rw [if_pos h,hl];rfl
  rw [e];exact ⟨rfl,rfl⟩
 ·have e:cp sc (pn,pl) t last=(false,pl++[[]]):=by unfold cp;rw [if_neg (by rw [h];decide),if_pos h2,hl];rfl
  rw [e];exact ⟨rfl,rfl⟩
 ·have e:cp sc (pn,pl) t last=(pn,pl):=by unfold cp;rw [if_neg (by rw [h];decide),if_pos h2,hl];rfl
  rw [e];exact ⟨rfl,rfl⟩
 ·have hc:=of_decide_eq_true h3
  have e:cp sc (pn,pl) t last=(false,pl++[ae t 1++[58]]):=by unfold cp;rw [if_neg (by rw [h];decide),if_neg (by rw [h2];decide),if_pos hc]
  have h2l:t.length=2:=by
   have:=hc.2.2
   unfold bM at this
   simp only [Bool.and_eq_true,decide_eq_true_eq]at this
   exact this.1.1
  rw [e]
  have hk:(ae t 1).length≤1:=by unfold ae;rw [List.length_take];exact Nat.min_le_left _ _
  exact ⟨⟨Int.le_refl _,by omega,by unfold ak;omega⟩,Nat.le_trans (Nat.add_le_add_right hk _) (by decide),⟨hm _ _ hp1,rfl,rfl⟩,hm _ _ hp1,rfl,rfl⟩
 ·have hc:=of_decide_eq_false h3
  have e:cp sc (pn,pl) t last=(false,pl++[bl 4 t]):=by unfold cp;rw [if_neg (by rw [h];decide),if_neg (by rw [h2];decide),if_neg hc]
  rw [e]
  exact ⟨⟨⟨hp2,by omega,by omega⟩,hm _ _ hp1,rfl,rfl⟩,⟨hp2,by omega,by omega⟩,⟨hm _ _ hp1,rfl,rfl⟩,hm _ _ hp1,rfl,rfl⟩)
theorem IU(bp:Option Addr)(sc us pw:Bs)(hk:Int)(hs:Bs)(hn:Int)(hp:List Int)(port:Int)(opq pn:Bool)(pl:List Bs)(hq:Bool)(q:Bs)(hf:Bool)(fg:Bs)(bare sp:Bool)(rst:Bs)(t:Bs)(last:Bool):ag Tryz.prog az 139 [.ptr 0 0,.str t,.bool last,aD 1 (.raw (.pointer bp)) sc us pw hk hs hn hp port opq pn pl hq q hf fg bare sp rst] ⟨pl.length≤1000000∧t.length≤300000,.tup [.tup [],aD 1 (.raw (.pointer bp)) sc us pw hk hs hn hp port opq ((cp sc (pn,pl) t last).1) ((cp sc (pn,pl) t last).2) hq q hf fg bare sp rst]⟩:=ag.aZ (fun h=>by have e:List.isEmpty (PV.aC PV.bt [.ptr 0 0,.str t,.bool last,aD 1 (.raw (.pointer bp)) sc us pw hk hs hn hp port opq pn pl hq q hf fg bare sp rst])=false:=(by kernel_rfl);exact Bool.noConfusion (e.symm.trans (congrArg List.isEmpty h))) (Dy bp sc us pw hk hs hn hp port opq pn pl hq q hf fg bare sp rst t last)
def qZ:List PV→Option aF:=fun xs=>match xs with
 |[.ptr 0 0,.str t,.bool last,aD 1 (.raw (.pointer bp)) sc us pw hk hs hn hp port opq pn pl hq q hf fg bare sp rst]=>some ⟨pl.length≤1000000∧t.length≤300000,.tup [.tup [],aD 1 (.raw (.pointer bp)) sc us pw hk hs hn hp port opq ((cp sc (pn,pl) t last).1) ((cp sc (pn,pl) t last).2) hq q hf fg bare sp rst]⟩
 |_=>none
theorem xM:∀xs c,qZ xs=some c→ag Tryz.prog az 139 xs c:=fun xs c h=>by
 unfold qZ at h
 split at h
 ·injection h with h;subst h;exact IU _ _ _ _ _ _ _ _ _ _ _ _ _ _ _ _ _ _ _ _ _
 ·cases h
end
section
theorem nO(sc:Bs)(p:Pa)(t:Bs)(last:Bool):(cp sc p t last).2.length≤p.2.length+1:=by
 have h1:=qY sc p
 unfold cp nH
 (repeat' split)<;>simp<;>omega
def Gk:cw:=bO [(128,gH),(129,gF),(138,gT),(139,qZ)]
def Gl(bp:Option Addr)(sc us pw:Bs)(hk:Int)(hs:Bs)(hn:Int)(hp:List Int)(port:Int)(opq pn:Bool)(pl:List Bs)(hq:Bool)(q:Bs)(hf:Bool)(fg:Bs)(bare sp:Bool)(rst:Bs):aX:=fun i=>bif Nat.beq i 2 then some ⟨(Bs)×(Bool×List Bs),(fun s x=>(VS.mk s.loc (((s.put 2 (.str x.1)).put 4 .undef).put 29 .undef).env [(0,aD 1 (.raw (.pointer bp)) sc us pw hk hs hn hp port opq (x.2.1) (x.2.2) hq q hf fg bare sp (aa rst (aE rst)))])),(fun s=>(s.str 2,((s.bx 0 [0,6]).lH,(s.bx 0 [0,6]).kO))),(fun s x=>let t:=x.1;let p:=x.2;t.length≤300000∧p.2.length+t.length≤pl.length+rst.length∧kH sc (eP sp) t p=br sp sc (ae rst (aE rst)) (pn,pl)),(fun s x=>let t:=x.1;let p:=x.2;t.length),[4,29]⟩else none
theorem Dz:cW Tryz.prog az Gk:=ai fP (ai fN (ai jX (ai xM (ax))))
theorem IV(bp:Option Addr)(sc us pw:Bs)(hk:Int)(hs:Bs)(hn:Int)(hp:List Int)(port:Int)(opq pn:Bool)(pl:List Bs)(hq:Bool)(q:Bs)(hf:Bool)(fg:Bs)(bare sp:Bool)(rst:Bs)(k:PV→List PV→Prop):bL Tryz.prog Gk az (Gl bp sc us pw hk hs hn hp port opq pn pl hq q hf fg bare sp rst) 1000 Tryz.f90 [.ptr 0 0] [aD 1 (.raw (.pointer bp)) sc us pw hk hs hn hp port opq pn pl hq q hf fg bare sp rst] k=(
 (List.length rst≤(1000000:Nat)∧
 (ByteArray.mk #[63,35]).data.toList.length≤(1000000:Nat)∧
 ∀(b:UInt8),b∈(ByteArray.mk #[63,35]).data.toList→
 b.toNat<(128:Nat))∧
 ((0:Int)≤↑(aY rst (ByteArray.mk #[63,35]).data.toList)∧
 ↑(aY rst (ByteArray.mk #[63,35]).data.toList)≤ak rst)∧
 True∧
 VS.mk [] [(0,PV.ptr (0:Nat) (0:Nat)),(2,PV.str (ae rst ↑(aY rst (ByteArray.mk #[63,35]).data.toList))),(3,PV.str (eP sp)),((4:Nat),PV.undef),((29:Nat),PV.undef)] [((0:Nat),bT (PV.raw (Go.Value.pointer bp)) 1 sc us pw hk hs hn hp port opq pn pl hq q hf fg bare sp (aa rst ↑(aY rst (ByteArray.mk #[63,35]).data.toList)))]=VS.mk [] [(0,PV.ptr (0:Nat) (0:Nat)),((2:Nat),PV.str (ae rst ↑(aY rst (ByteArray.mk #[63,35]).data.toList))),(3,PV.str (eP sp)),((4:Nat),PV.undef),((29:Nat),PV.undef)] [((0:Nat),bT (PV.raw (Go.Value.pointer bp)) 1 sc us pw hk hs hn hp port opq pn pl hq q hf fg bare sp (aa rst ↑(aE rst)))]∧
 ((ae rst ↑(aY rst (ByteArray.mk #[63,35]).data.toList)).length≤(300000:Nat)∧
 pl.length+(ae rst ↑(aY rst (ByteArray.mk #[63,35]).data.toList)).length≤pl.length+List.length rst∧
 kH sc (eP sp) (ae rst ↑(aY rst (ByteArray.mk #[63,35]).data.toList)) (pn,pl)=br sp sc (ae rst ↑(aE rst)) (pn,pl))∧
 ∀(x:Bs×Bool×List Bs),List.length x.1≤(300000:Nat)∧
 x.2.2.length+List.length x.1≤pl.length+List.length rst∧
 kH sc (eP sp) x.1 x.2=br sp sc (ae rst ↑(aE rst)) (pn,pl)→
 (List.length x.1≤(1000000:Nat)∧
 List.length (eP sp)≤(1000000:Nat)∧
 ∀(b:UInt8),b∈eP sp→
 b.toNat<(128:Nat))∧
 upto (0:Int) (↑(aY x.1 (eP sp))) (ak x.1)∧
 (x.2.2.length≤(1000000:Nat)∧
 (ae x.1 ↑(aY x.1 (eP sp))).length≤(300000:Nat))∧
 (decide (↑(aY x.1 (eP sp))=ak x.1)=true→
 k (PV.tup []) [bT (PV.raw (Go.Value.pointer bp)) 1 sc us pw hk hs hn hp port opq ((cp sc (x.2.1,x.2.2) (ae x.1 ↑(aY x.1 (eP sp))) (decide (↑(aY x.1 (eP sp))=ak x.1))).1) ((cp sc (x.2.1,x.2.2) (ae x.1 ↑(aY x.1 (eP sp))) (decide (↑(aY x.1 (eP sp))=ak x.1))).2) hq q hf fg bare sp (aa rst ↑(aE rst))])∧
 (decide (↑(aY x.1 (eP sp))=ak x.1)=false→
 ay (↑(aY x.1 (eP sp))+(1:Int))∧
 upto (↑(aY x.1 (eP sp))+(1:Int)) (ak x.1) (ak x.1)∧
 kz (VS.mk [] [(0,PV.ptr (0:Nat) (0:Nat)),((2:Nat),PV.str (aa x.1 (↑(aY x.1 (eP sp))+(1:Int)))),(3,PV.str (eP sp)),((4:Nat),PV.undef),((29:Nat),PV.undef)] [((0:Nat),bT (PV.raw (Go.Value.pointer bp)) 1 sc us pw hk hs hn hp port opq ((cp sc (x.2.1,x.2.2) (ae x.1 ↑(aY x.1 (eP sp))) (decide (↑(aY x.1 (eP sp))=ak x.1))).1) ((cp sc (x.2.1,x.2.2) (ae x.1 ↑(aY x.1 (eP sp))) (decide (↑(aY x.1 (eP sp))=ak x.1))).2) hq q hf fg bare sp (aa rst ↑(aE rst)))])∧
 ((aa x.1 (↑(aY x.1 (eP sp))+(1:Int))).length≤(300000:Nat)∧
 (cp sc (x.2.1,x.2.2) (ae x.1 ↑(aY x.1 (eP sp))) (decide (↑(aY x.1 (eP sp))=ak x.1))).2.length+(aa x.1 (↑(aY x.1 (eP sp))+(1:Int))).length≤pl.length+List.length rst∧
 kH sc (eP sp) (aa x.1 (↑(aY x.1 (eP sp))+(1:Int))) ((cp sc (x.2.1,x.2.2) (ae x.1 ↑(aY x.1 (eP sp))) (decide (↑(aY x.1 (eP sp))=ak x.1))).1,(cp sc (x.2.1,x.2.2) (ae x.1 ↑(aY x.1 (eP sp))) (decide (↑(aY x.1 (eP sp))=ak x.1))).2)=br sp sc (ae rst ↑(aE rst)) (pn,pl))∧
 (aa x.1 (↑(aY x.1 (eP sp))+(1:Int))).length<List.length x.1)):=by kernel_rfl
attribute [local irreducible] Go.Vc.cG Go.Vc.bL
theorem tK(bp:Option Addr)(sc us pw:Bs)(hk:Int)(hs:Bs)(hn:Int)(hp:List Int)(port:Int)(opq pn:Bool)(pl:List Bs)(hq:Bool)(q:Bs)(hf:Bool)(fg:Bs)(bare sp:Bool)(rst:Bs):bh Tryz.prog az 90 [.ptr 0 0] [aD 1 (.raw (.pointer bp)) sc us pw hk hs hn hp port opq pn pl hq q hf fg bare sp rst] (rst.length≤300000∧pl.length≤100000) (.tup []) [aD 1 (.raw (.pointer bp)) sc us pw hk hs hn hp port opq ((br sp sc (ae rst (aE rst)) (pn,pl)).1) ((br sp sc (ae rst (aE rst)) (pn,pl)).2) hq q hf fg bare sp (aa rst (aE rst))]:=bu (by kernel_rfl) Dz (H:=Gl bp sc us pw hk hs hn hp port opq pn pl hq q hf fg bare sp rst) (fuel:=1000) Tryz.func90 (by kernel_rfl) (Nat.le_of_ble_eq_true rfl) fun hpre=>(IV bp sc us pw hk hs hn hp port opq pn pl hq q hf fg bare sp rst _).mpr (by
 obtain ⟨hp1,hp2⟩:=hpre
 have h63:∀b:UInt8,b∈(ByteArray.mk #[63,35]).data.toList→b.toNat<128:=by rw [show(ByteArray.mk #[63,35]).data.toList=([63,35]:Bs)from rfl];decide
 have hs3:∀b:UInt8,b∈eP sp→b.toNat<128:=by unfold eP;split<;>decide
 have hs2:(eP sp).length≤1000000:=by unfold eP;split<;>decide
 have e3:=eY rst (ByteArray.mk #[63,35]).data.toList
 have e4:(ae rst (aY rst (ByteArray.mk #[63,35]).data.toList:Int)).length≤rst.length:=by unfold ae;rw [List.length_take];exact Nat.min_le_right _ _
 refine ⟨⟨by omega,by decide,h63⟩,⟨by omega,by unfold ak;exact Int.ofNat_le.2 e3⟩,trivial,rfl,⟨by omega,by omega,rfl⟩,fun x ⟨h1,h2,h3⟩=>?_⟩
 have e5:=eY x.1 (eP sp)
 rw [lr]at h3
 generalize aY x.1 (eP sp)=n at *
 have e6:ae x.1 (n:Int)=x.1.take n:=by unfold ae;rw [Int.toNat_natCast]
 have e7:aa x.1 ((n:Int)+1)=x.1.drop (n+1):=by unfold aa;congr 1
 have e8:(x.1.take n).length≤300000:=by rw [List.length_take];omega
 rw [e6,e7]
 refine ⟨⟨by omega,hs2,hs3⟩,⟨Int.le_refl _,by omega,by unfold ak;omega⟩,⟨by omega,e8⟩,fun h=>?_,fun h=>?_⟩
 ·have hl:n=x.1.length:=by have:=of_decide_eq_true h;unfold ak at this;omega
  rw [if_pos hl]at h3
  have e9:x.1.take n=x.1:=by rw [hl,List.take_length]
  rw [h,e9,←h3]
  exact ⟨rfl,rfl⟩
 ·have hl:¬n=x.1.length:=by have:=of_decide_eq_false h;unfold ak at this;omega
  rw [if_neg hl]at h3
  have e10:(x.1.drop (n+1)).length=x.1.length-(n+1):=List.length_drop
  have e11:=nO sc x.2 (x.1.take n) false
  rw [h]
  refine ⟨by unfold ay;omega,⟨by omega,by unfold ak;omega,Int.le_refl _⟩,rfl,⟨by omega,?_,h3⟩,by omega⟩
  show(cp sc x.2 (x.1.take n) false).2.length+_ ≤_
  omega)
theorem IW(bp:Option Addr)(sc us pw:Bs)(hk:Int)(hs:Bs)(hn:Int)(hp:List Int)(port:Int)(opq pn:Bool)(pl:List Bs)(hq:Bool)(q:Bs)(hf:Bool)(fg:Bs)(bare sp:Bool)(rst:Bs):ag Tryz.prog az 90 [.ptr 0 0,aD 1 (.raw (.pointer bp)) sc us pw hk hs hn hp port opq pn pl hq q hf fg bare sp rst] ⟨rst.length≤300000∧pl.length≤100000,.tup [.tup [],aD 1 (.raw (.pointer bp)) sc us pw hk hs hn hp port opq ((br sp sc (ae rst (aE rst)) (pn,pl)).1) ((br sp sc (ae rst (aE rst)) (pn,pl)).2) hq q hf fg bare sp (aa rst (aE rst))]⟩:=ag.aZ (fun h=>by have e:List.isEmpty (PV.aC PV.bt [.ptr 0 0,aD 1 (.raw (.pointer bp)) sc us pw hk hs hn hp port opq pn pl hq q hf fg bare sp rst])=false:=(by kernel_rfl);exact Bool.noConfusion (e.symm.trans (congrArg List.isEmpty h))) (tK bp sc us pw hk hs hn hp port opq pn pl hq q hf fg bare sp rst)
def mC:List PV→Option aF:=fun xs=>match xs with
 |[.ptr 0 0,aD 1 (.raw (.pointer bp)) sc us pw hk hs hn hp port opq pn pl hq q hf fg bare sp rst]=>some ⟨rst.length≤300000∧pl.length≤100000,.tup [.tup [],aD 1 (.raw (.pointer bp)) sc us pw hk hs hn hp port opq ((br sp sc (ae rst (aE rst)) (pn,pl)).1) ((br sp sc (ae rst (aE rst)) (pn,pl)).2) hq q hf fg bare sp (aa rst (aE rst))]⟩
 |_=>none
theorem oN:∀xs c,mC xs=some c→ag Tryz.prog az 90 xs c:=fun xs c h=>by
 unfold mC at h
 split at h
 ·injection h with h;subst h;exact IW _ _ _ _ _ _ _ _ _ _ _ _ _ _ _ _ _ _ _
 ·cases h
end
section
def Jz:cw:=bO [(158,mo)]
def JA(l m:Bs):aX:=fun i=>none
theorem Gm:cW Tryz.prog az Jz:=ai oC (ax)
theorem KD(l m:Bs)(k:PV→Prop):cG Tryz.prog Jz az (JA l m) 1000 Tryz.f130 [.str l,.str m] k=(
 (List.length l≤(1000000:Nat)∧List.length m≤(1000000:Nat))∧k (PV.bool (hY l m))):=by kernel_rfl
attribute [local irreducible] Go.Vc.cG
theorem KE(l m:Bs):ag Tryz.prog az 130 [.str l,.str m] ⟨l.length≤1000000∧m.length≤1000000,.bool (hY l m)⟩:=b7 (by kernel_rfl) Gm (H:=JA l m) (fuel:=1000) Tryz.func130 (by kernel_rfl) fun hpre=>(KD l m _).mpr (by
 exact ⟨hpre,rfl⟩)
def vq:List PV→Option aF:=fun xs=>match xs with
 |[.str l,.str m]=>some ⟨l.length≤1000000∧m.length≤1000000,.bool (hY l m)⟩
 |_=>none
theorem Ai:∀xs c,vq xs=some c→ag Tryz.prog az 130 xs c:=fun xs c h=>by
 unfold vq at h
 split at h
 ·injection h with h;subst h;exact KE _ _
 ·cases h
end
section
theorem tL(k:Int)(l:Bs):(bl k l).length≤12*l.length:=by
 have hpl:(bY l).length≤4*l.length:=by
  have a:=(l9 (gD l)).2
  have b:=l8 _ l (Nat.le_refl _)
  unfold bY;omega
 unfold bl
 split
 ·have:=wD (sU k) (bY l);omega
 ·omega
theorem Lj(l:Bs):hY l [32]=decide (0<l.length∧al l (l.length-1)=32):=by
 unfold hY ak aa
 rcases List.eq_nil_or_concat l with rfl|⟨L,b,rfl⟩
 ·rfl
 ·have h1:(((L.concat b).length:Int)-(([32]:Bs).length:Int)).toNat=L.length:=by simp
  have h2:al (L.concat b) ((L.concat b).length-1)=b.toNat:=by
   unfold al
   have:(((L.concat b).length:Int)-1).toNat=L.length:=by simp
   rw [this];simp
  rw [h1,h2]
  have h3:decide ((([32]:Bs).length:Int)≤((L.concat b).length:Int))=true:=decide_eq_true (by simp;omega)
  have h4:(0:Nat)<(L.concat b).length:=by simp
  rw [h3,cond_true,decide_eq_decide]
  have h5:(L.concat b).drop L.length=[b]:=by simp
  rw [h5]
  simp only [h4,true_and,List.cons.injEq,and_true]
  constructor
  ·rintro rfl;rfl
  ·intro h;exact UInt8.toNat_inj.1 (by have:(32:UInt8).toNat=32:=rfl;omega)
def xN:cw:=bO [(128,gH),(129,gF),(130,vq),(26,eZ)]
def xO(bp:Option Addr)(sc us pw:Bs)(hk:Int)(hs:Bs)(hn:Int)(hp:List Int)(port:Int)(opq pn:Bool)(pl:List Bs)(hq:Bool)(q:Bs)(hf:Bool)(fg:Bs)(bare sp:Bool)(rst:Bs):aX:=fun i=>none
theorem xP:cW Tryz.prog az xN:=ai fP (ai fN (ai Ai (ai dR (ax))))
theorem DA(bp:Option Addr)(sc us pw:Bs)(hk:Int)(hs:Bs)(hn:Int)(hp:List Int)(port:Int)(opq pn:Bool)(pl:List Bs)(hq:Bool)(q:Bs)(hf:Bool)(fg:Bs)(bare sp:Bool)(rst:Bs)(k:PV→List PV→Prop):bL Tryz.prog xN az (xO bp sc us pw hk hs hn hp port opq pn pl hq q hf fg bare sp rst) 1000 Tryz.f81 [.ptr 0 0] [aD 1 (.raw (.pointer bp)) sc us pw hk hs hn hp port opq pn pl hq q hf fg bare sp rst] k=(
 (List.length rst≤(1000000:Nat)∧
 (ByteArray.mk #[63,35]).data.toList.length≤(1000000:Nat)∧
 ∀(b:UInt8),b∈(ByteArray.mk #[63,35]).data.toList→
 b.toNat<(128:Nat))∧
 ((0:Int)≤↑(aY rst (ByteArray.mk #[63,35]).data.toList)∧
 ↑(aY rst (ByteArray.mk #[63,35]).data.toList)≤ak rst)∧
 ((!decide (aa rst ↑(aY rst (ByteArray.mk #[63,35]).data.toList)=(ByteArray.mk #[]).data.toList))=true→
 (ae rst ↑(aY rst (ByteArray.mk #[63,35]).data.toList)).length≤(1000000:Nat)∧
 (ByteArray.mk #[32]).data.toList.length≤(1000000:Nat))∧
 ((bif !decide (aa rst ↑(aY rst (ByteArray.mk #[63,35]).data.toList)=(ByteArray.mk #[]).data.toList)then hY (ae rst ↑(aY rst (ByteArray.mk #[63,35]).data.toList)) (ByteArray.mk #[32]).data.toList else false)=true→
 ay (ak (ae rst ↑(aY rst (ByteArray.mk #[63,35]).data.toList))-(1:Int))∧
 upto (0:Int) (ak (ae rst ↑(aY rst (ByteArray.mk #[63,35]).data.toList))-(1:Int)) (ak (ae rst ↑(aY rst (ByteArray.mk #[63,35]).data.toList)))∧
 ((ae (ae rst ↑(aY rst (ByteArray.mk #[63,35]).data.toList)) (ak (ae rst ↑(aY rst (ByteArray.mk #[63,35]).data.toList))-(1:Int))).length≤(300000:Nat)∧
 (0:Int)≤(0:Int)∧
 (0:Int)≤(6:Int))∧
 (bl (0:Int) (ae (ae rst ↑(aY rst (ByteArray.mk #[63,35]).data.toList)) (ak (ae rst ↑(aY rst (ByteArray.mk #[63,35]).data.toList))-(1:Int)))).length+(ByteArray.mk #[37,50,48]).data.toList.length≤Go.Vc.maxLen∧
 k (PV.tup []) [bT (PV.raw (Go.Value.pointer bp)) 0 sc us pw hk hs hn hp port true false ([bl (0:Int) (ae (ae rst ↑(aY rst (ByteArray.mk #[63,35]).data.toList)) (ak (ae rst ↑(aY rst (ByteArray.mk #[63,35]).data.toList))-(1:Int)))++(ByteArray.mk #[37,50,48]).data.toList]) hq q hf fg bare sp (aa rst ↑(aY rst (ByteArray.mk #[63,35]).data.toList))])∧
 ((bif !decide (aa rst ↑(aY rst (ByteArray.mk #[63,35]).data.toList)=(ByteArray.mk #[]).data.toList)then hY (ae rst ↑(aY rst (ByteArray.mk #[63,35]).data.toList)) (ByteArray.mk #[32]).data.toList else false)=false→
 ((ae rst ↑(aY rst (ByteArray.mk #[63,35]).data.toList)).length≤(300000:Nat)∧
 (0:Int)≤(0:Int)∧
 (0:Int)≤(6:Int))∧
 (bl (0:Int) (ae rst ↑(aY rst (ByteArray.mk #[63,35]).data.toList))).length+(ByteArray.mk #[]).data.toList.length≤Go.Vc.maxLen∧
 k (PV.tup []) [bT (PV.raw (Go.Value.pointer bp)) 0 sc us pw hk hs hn hp port true false ([bl (0:Int) (ae rst ↑(aY rst (ByteArray.mk #[63,35]).data.toList))++(ByteArray.mk #[]).data.toList]) hq q hf fg bare sp (aa rst ↑(aY rst (ByteArray.mk #[63,35]).data.toList))])):=by kernel_rfl
attribute [local irreducible] Go.Vc.cG Go.Vc.bL
theorem xQ(bp:Option Addr)(sc us pw:Bs)(hk:Int)(hs:Bs)(hn:Int)(hp:List Int)(port:Int)(opq pn:Bool)(pl:List Bs)(hq:Bool)(q:Bs)(hf:Bool)(fg:Bs)(bare sp:Bool)(rst:Bs):bh Tryz.prog az 81 [.ptr 0 0] [aD 1 (.raw (.pointer bp)) sc us pw hk hs hn hp port opq pn pl hq q hf fg bare sp rst] (rst.length≤300000) (.tup []) [aD 0 (.raw (.pointer bp)) sc us pw hk hs hn hp port true false ([nI (ae rst (aE rst)) (aa rst (aE rst))]) hq q hf fg bare sp (aa rst (aE rst))]:=bu (by kernel_rfl) xP (H:=xO bp sc us pw hk hs hn hp port opq pn pl hq q hf fg bare sp rst) (fuel:=1000) Tryz.func81 (by kernel_rfl) (Nat.le_of_ble_eq_true rfl) fun hpre=>(DA bp sc us pw hk hs hn hp port opq pn pl hq q hf fg bare sp rst _).mpr (by
 obtain ⟨n,e1⟩:∃n,n=aY rst (ByteArray.mk #[63,35]).data.toList:=⟨_,rfl⟩
 have e2:aE rst=n:=e1.symm
 have h63:∀b:UInt8,b∈(ByteArray.mk #[63,35]).data.toList→b.toNat<128:=by rw [show(ByteArray.mk #[63,35]).data.toList=([63,35]:Bs)from rfl];decide
 rw [←e1]
 have e3:n≤rst.length:=by rw [e1];exact eY _ _
 obtain ⟨S,e4⟩:∃S,S=ae rst (n:Int):=⟨_,rfl⟩
 obtain ⟨D,e5⟩:∃D,D=aa rst (n:Int):=⟨_,rfl⟩
 rw [←e4,←e5]
 have e6:S.length≤300000:=by rw [e4];unfold ae;rw [List.length_take];omega
 have e7:nI (ae rst (aE rst)) (aa rst (aE rst))=nI S D:=by rw [e2,←e4,←e5]
 have e8:aa rst (aE rst:Int)=D:=by rw [e2,←e5]
 have e9:(ae S (ak S-1)).length≤300000:=by unfold ae;rw [List.length_take];omega
 have hcond:(bif !decide (D=(ByteArray.mk #[]).data.toList)then hY S (ByteArray.mk #[32]).data.toList else false)=decide (D≠[]∧0<S.length∧al S (S.length-1)=32):=by
  rw [show hY S (ByteArray.mk #[32]).data.toList=hY S [32]from rfl,Lj,Bool.eq_iff_iff]
  simp only [Ig,Bool.and_eq_true,decide_eq_true_eq,Bool.not_eq_true',decide_eq_false_iff_not]
  try exact Iff.rfl
 rw [hcond,e7]
 rw [e8]
 refine ⟨⟨by omega,by decide,h63⟩,⟨by omega,by unfold ak;exact Int.ofNat_le.2 e3⟩,fun _=>⟨by omega,by decide⟩,fun h=>?_,fun h=>?_⟩
 ·have hc:=of_decide_eq_true h
  have ex:nI S D=bl 0 (ae S (ak S-1))++LI:=by unfold nI;rw [if_pos hc];rfl
  rw [ex]
  exact ⟨by unfold ay ak;omega,by unfold upto ak;omega,⟨e9,by omega,by omega⟩,Nat.le_trans (Nat.add_le_add_right (tL 0 _) _) (Nat.le_trans (show _ ≤12*300000+3 from Nat.add_le_add (Nat.mul_le_mul_left 12 e9) (by decide)) (by decide)),rfl,rfl⟩
 ·have hc:=of_decide_eq_false h
  have ex:nI S D=bl 0 S:=by unfold nI;rw [if_neg hc]
  rw [ex,show(ByteArray.mk #[]).data.toList=([]:Bs)from rfl,List.append_nil]
  exact ⟨⟨e6,by omega,by omega⟩,Nat.le_trans (Nat.add_le_add_right (tL 0 _) _) (Nat.le_trans (show _ ≤12*300000+0 from Nat.add_le_add (Nat.mul_le_mul_left 12 e6) (by decide)) (by decide)),rfl,rfl⟩)
theorem DC(bp:Option Addr)(sc us pw:Bs)(hk:Int)(hs:Bs)(hn:Int)(hp:List Int)(port:Int)(opq pn:Bool)(pl:List Bs)(hq:Bool)(q:Bs)(hf:Bool)(fg:Bs)(bare sp:Bool)(rst:Bs):ag Tryz.prog az 81 [.ptr 0 0,aD 1 (.raw (.pointer bp)) sc us pw hk hs hn hp port opq pn pl hq q hf fg bare sp rst] ⟨rst.length≤300000,.tup [.tup [],aD 0 (.raw (.pointer bp)) sc us pw hk hs hn hp port true false ([nI (ae rst (aE rst)) (aa rst (aE rst))]) hq q hf fg bare sp (aa rst (aE rst))]⟩:=ag.aZ (fun h=>by have e:List.isEmpty (PV.aC PV.bt [.ptr 0 0,aD 1 (.raw (.pointer bp)) sc us pw hk hs hn hp port opq pn pl hq q hf fg bare sp rst])=false:=(by kernel_rfl);exact Bool.noConfusion (e.symm.trans (congrArg List.isEmpty h))) (xQ bp sc us pw hk hs hn hp port opq pn pl hq q hf fg bare sp rst)
def ly:List PV→Option aF:=fun xs=>match xs with
 |[.ptr 0 0,aD 1 (.raw (.pointer bp)) sc us pw hk hs hn hp port opq pn pl hq q hf fg bare sp rst]=>some ⟨rst.length≤300000,.tup [.tup [],aD 0 (.raw (.pointer bp)) sc us pw hk hs hn hp port true false ([nI (ae rst (aE rst)) (aa rst (aE rst))]) hq q hf fg bare sp (aa rst (aE rst))]⟩
 |_=>none
theorem r5:∀xs c,ly xs=some c→ag Tryz.prog az 81 xs c:=fun xs c h=>by
 unfold ly at h
 split at h
 ·injection h with h;subst h;exact DC _ _ _ _ _ _ _ _ _ _ _ _ _ _ _ _ _ _ _
 ·cases h
end
section
def dX(rst:Bs)(hq:Bool):Bool:=if preB rst [63]=true then true else hq
def dY(sp:Bool)(rst q:Bs):Bs:=if preB rst [63]=true then bl (if sp=true then 3 else 2) (ae (aa rst 1) (xz (aa rst 1)))else q
def bG(rst:Bs):Bs:=if preB rst [63]=true then aa (aa rst 1) (xz (aa rst 1))else rst
theorem Gn(r:RS):r.query={r with hq:=dX r.rst r.hq,q:=dY r.sp r.rst r.q,rst:=bG r.rst}:=by
 unfold RS.query dX dY bG
 split<;>rfl
def BI:cw:=bO [(80,jV),(128,gH),(129,gF),(26,eZ)]
def BJ(bp:Option Addr)(sc us pw:Bs)(hk:Int)(hs:Bs)(hn:Int)(hp:List Int)(port:Int)(opq pn:Bool)(pl:List Bs)(hq:Bool)(q:Bs)(hf:Bool)(fg:Bs)(bare sp:Bool)(rst:Bs):aX:=fun i=>none
theorem Aj:cW Tryz.prog az BI:=ai jW (ai fP (ai fN (ai dR (ax))))
theorem Gp(bp:Option Addr)(sc us pw:Bs)(hk:Int)(hs:Bs)(hn:Int)(hp:List Int)(port:Int)(opq pn:Bool)(pl:List Bs)(hq:Bool)(q:Bs)(hf:Bool)(fg:Bs)(bare sp:Bool)(rst:Bs)(k:PV→List PV→Prop):bL Tryz.prog BI az (BJ bp sc us pw hk hs hn hp port opq pn pl hq q hf fg bare sp rst) 1000 Tryz.f91 [.ptr 0 0] [aD 1 (.raw (.pointer bp)) sc us pw hk hs hn hp port opq pn pl hq q hf fg bare sp rst] k=(
 True∧
 ((!(aj rst (ByteArray.mk #[63]).data.toList).2)=true→
 k (PV.tup []) [bT (PV.raw (Go.Value.pointer bp)) 1 sc us pw hk hs hn hp port opq pn pl hq q hf fg bare sp ((aj rst (ByteArray.mk #[63]).data.toList).1)])∧
 ((!(aj rst (ByteArray.mk #[63]).data.toList).2)=false→
 (sp=true→
 (List.length (aj rst (ByteArray.mk #[63]).data.toList).1≤(1000000:Nat)∧
 (ByteArray.mk #[35]).data.toList.length≤(1000000:Nat)∧
 ∀(b:UInt8),b∈(ByteArray.mk #[35]).data.toList→
 b.toNat<(128:Nat))∧
 ((0:Int)≤↑(aY (aj rst (ByteArray.mk #[63]).data.toList).1 (ByteArray.mk #[35]).data.toList)∧
 ↑(aY (aj rst (ByteArray.mk #[63]).data.toList).1 (ByteArray.mk #[35]).data.toList)≤ak (aj rst (ByteArray.mk #[63]).data.toList).1)∧
 ((ae (aj rst (ByteArray.mk #[63]).data.toList).1 ↑(aY (aj rst (ByteArray.mk #[63]).data.toList).1 (ByteArray.mk #[35]).data.toList)).length≤(300000:Nat)∧
 (0:Int)≤(3:Int)∧
 (3:Int)≤(6:Int))∧
 k (PV.tup []) [bT (PV.raw (Go.Value.pointer bp)) 1 sc us pw hk hs hn hp port opq pn pl true (bl (3:Int) (ae (aj rst (ByteArray.mk #[63]).data.toList).1 ↑(aY (aj rst (ByteArray.mk #[63]).data.toList).1 (ByteArray.mk #[35]).data.toList))) hf fg bare sp (aa (aj rst (ByteArray.mk #[63]).data.toList).1 ↑(aY (aj rst (ByteArray.mk #[63]).data.toList).1 (ByteArray.mk #[35]).data.toList))])∧
 (sp=false→
 (List.length (aj rst (ByteArray.mk #[63]).data.toList).1≤(1000000:Nat)∧
 (ByteArray.mk #[35]).data.toList.length≤(1000000:Nat)∧
 ∀(b:UInt8),b∈(ByteArray.mk #[35]).data.toList→
 b.toNat<(128:Nat))∧
 ((0:Int)≤↑(aY (aj rst (ByteArray.mk #[63]).data.toList).1 (ByteArray.mk #[35]).data.toList)∧
 ↑(aY (aj rst (ByteArray.mk #[63]).data.toList).1 (ByteArray.mk #[35]).data.toList)≤ak (aj rst (ByteArray.mk #[63]).data.toList).1)∧
 ((ae (aj rst (ByteArray.mk #[63]).data.toList).1 ↑(aY (aj rst (ByteArray.mk #[63]).data.toList).1 (ByteArray.mk #[35]).data.toList)).length≤(300000:Nat)∧
 (0:Int)≤(2:Int)∧
 (2:Int)≤(6:Int))∧
 k (PV.tup []) [bT (PV.raw (Go.Value.pointer bp)) 1 sc us pw hk hs hn hp port opq pn pl true (bl (2:Int) (ae (aj rst (ByteArray.mk #[63]).data.toList).1 ↑(aY (aj rst (ByteArray.mk #[63]).data.toList).1 (ByteArray.mk #[35]).data.toList))) hf fg bare sp (aa (aj rst (ByteArray.mk #[63]).data.toList).1 ↑(aY (aj rst (ByteArray.mk #[63]).data.toList).1 (ByteArray.mk #[35]).data.toList))]))):=by kernel_rfl
attribute [local irreducible] Go.Vc.cG Go.Vc.bL
theorem ra(bp:Option Addr)(sc us pw:Bs)(hk:Int)(hs:Bs)(hn:Int)(hp:List Int)(port:Int)(opq pn:Bool)(pl:List Bs)(hq:Bool)(q:Bs)(hf:Bool)(fg:Bs)(bare sp:Bool)(rst:Bs):bh Tryz.prog az 91 [.ptr 0 0] [aD 1 (.raw (.pointer bp)) sc us pw hk hs hn hp port opq pn pl hq q hf fg bare sp rst] (rst.length≤300000) (.tup []) [aD 1 (.raw (.pointer bp)) sc us pw hk hs hn hp port opq pn pl (dX rst hq) (dY sp rst q) hf fg bare sp (bG rst)]:=bu (by kernel_rfl) Aj (H:=BJ bp sc us pw hk hs hn hp port opq pn pl hq q hf fg bare sp rst) (fuel:=1000) Tryz.func91 (by kernel_rfl) (Nat.le_of_ble_eq_true rfl) fun hpre=>(Gp bp sc us pw hk hs hn hp port opq pn pl hq q hf fg bare sp rst _).mpr (by
 have ec:(ByteArray.mk #[63]).data.toList=([63]:Bs):=rfl
 have ed:(ByteArray.mk #[35]).data.toList=([35]:Bs):=rfl
 have h35:∀b:UInt8,b∈(ByteArray.mk #[35]).data.toList→b.toNat<128:=by rw [ed];decide
 cases hc:preB rst [63]with
 |false=>
  have e1:aj rst (ByteArray.mk #[63]).data.toList=(rst,false):=by unfold aj;rw [ec,hc];rfl
  have e2:dX rst hq=hq∧dY sp rst q=q∧bG rst=rst:=by unfold dX dY bG;rw [hc];exact ⟨rfl,rfl,rfl⟩
  rw [e1,e2.1,e2.2.1,e2.2.2]
  exact ⟨trivial,fun _=>⟨rfl,rfl⟩,fun h=>by cases h⟩
 |true=>
  have e1:aj rst (ByteArray.mk #[63]).data.toList=(aa rst 1,true):=by unfold aj;rw [ec,hc];rfl
  have e2:dX rst hq=true∧dY sp rst q=bl (if sp=true then 3 else 2) (ae (aa rst 1) (xz (aa rst 1)))∧bG rst=aa (aa rst 1) (xz (aa rst 1)):=⟨if_pos hc,if_pos hc,if_pos hc⟩
  have hl:(aa rst 1).length≤300000:=by unfold aa;rw [List.length_drop];omega
  have hi:=eY (aa rst 1) (ByteArray.mk #[35]).data.toList
  have ht:(ae (aa rst 1) (aY (aa rst 1) (ByteArray.mk #[35]).data.toList:Int)).length≤300000:=by unfold ae;rw [List.length_take];omega
  rw [e1,e2.1,e2.2.1,e2.2.2]
  refine ⟨trivial,fun h=>(by cases h),fun _=>⟨fun hsp=>?_,fun hsp=>?_⟩⟩
  ·subst hsp
   exact ⟨⟨Nat.le_trans hl (by decide),by decide,h35⟩,⟨by omega,by unfold ak;exact Int.ofNat_le.2 hi⟩,⟨ht,by omega,by omega⟩,rfl,rfl⟩
  ·subst hsp
   exact ⟨⟨Nat.le_trans hl (by decide),by decide,h35⟩,⟨by omega,by unfold ak;exact Int.ofNat_le.2 hi⟩,⟨ht,by omega,by omega⟩,rfl,rfl⟩)
theorem Gq(bp:Option Addr)(sc us pw:Bs)(hk:Int)(hs:Bs)(hn:Int)(hp:List Int)(port:Int)(opq pn:Bool)(pl:List Bs)(hq:Bool)(q:Bs)(hf:Bool)(fg:Bs)(bare sp:Bool)(rst:Bs):ag Tryz.prog az 91 [.ptr 0 0,aD 1 (.raw (.pointer bp)) sc us pw hk hs hn hp port opq pn pl hq q hf fg bare sp rst] ⟨rst.length≤300000,.tup [.tup [],aD 1 (.raw (.pointer bp)) sc us pw hk hs hn hp port opq pn pl (dX rst hq) (dY sp rst q) hf fg bare sp (bG rst)]⟩:=ag.aZ (fun h=>by have e:List.isEmpty (PV.aC PV.bt [.ptr 0 0,aD 1 (.raw (.pointer bp)) sc us pw hk hs hn hp port opq pn pl hq q hf fg bare sp rst])=false:=(by kernel_rfl);exact Bool.noConfusion (e.symm.trans (congrArg List.isEmpty h))) (ra bp sc us pw hk hs hn hp port opq pn pl hq q hf fg bare sp rst)
def nP:List PV→Option aF:=fun xs=>match xs with
 |[.ptr 0 0,aD 1 (.raw (.pointer bp)) sc us pw hk hs hn hp port opq pn pl hq q hf fg bare sp rst]=>some ⟨rst.length≤300000,.tup [.tup [],aD 1 (.raw (.pointer bp)) sc us pw hk hs hn hp port opq pn pl (dX rst hq) (dY sp rst q) hf fg bare sp (bG rst)]⟩
 |_=>none
theorem vr:∀xs c,nP xs=some c→ag Tryz.prog az 91 xs c:=fun xs c h=>by
 unfold nP at h
 split at h
 ·injection h with h;subst h;exact Gq _ _ _ _ _ _ _ _ _ _ _ _ _ _ _ _ _ _ _
 ·cases h
end
section
def BK:cw:=bO [(127,my)]
def BL(bp:Option Addr)(sc us pw:Bs)(hk:Int)(hs:Bs)(hn:Int)(hp:List Int)(port:Int)(opq pn:Bool)(pl:List Bs)(hq:Bool)(q:Bs)(hf:Bool)(fg:Bs)(bare sp:Bool)(rst:Bs)(p:Bs):aX:=fun i=>none
theorem Ak:cW Tryz.prog az BK:=ai oJ (ax)
theorem Gr(bp:Option Addr)(sc us pw:Bs)(hk:Int)(hs:Bs)(hn:Int)(hp:List Int)(port:Int)(opq pn:Bool)(pl:List Bs)(hq:Bool)(q:Bs)(hf:Bool)(fg:Bs)(bare sp:Bool)(rst:Bs)(p:Bs)(k:PV→List PV→Prop):bL Tryz.prog BK az (BL bp sc us pw hk hs hn hp port opq pn pl hq q hf fg bare sp rst p) 1000 Tryz.f80 [.ptr 0 0,.str p] [aD 0 (.raw (.pointer bp)) sc us pw hk hs hn hp port opq pn pl hq q hf fg bare sp rst] k=(
 True∧
 k (PV.bool (aj rst p).2) [bT (PV.raw (Go.Value.pointer bp)) 0 sc us pw hk hs hn hp port opq pn pl hq q hf fg bare sp ((aj rst p).1)]):=by kernel_rfl
attribute [local irreducible] Go.Vc.cG Go.Vc.bL
theorem Al(bp:Option Addr)(sc us pw:Bs)(hk:Int)(hs:Bs)(hn:Int)(hp:List Int)(port:Int)(opq pn:Bool)(pl:List Bs)(hq:Bool)(q:Bs)(hf:Bool)(fg:Bs)(bare sp:Bool)(rst:Bs)(p:Bs):bh Tryz.prog az 80 [.ptr 0 0,.str p] [aD 0 (.raw (.pointer bp)) sc us pw hk hs hn hp port opq pn pl hq q hf fg bare sp rst] (True) (.bool (aj rst p).2) [aD 0 (.raw (.pointer bp)) sc us pw hk hs hn hp port opq pn pl hq q hf fg bare sp ((aj rst p).1)]:=bu (by kernel_rfl) Ak (H:=BL bp sc us pw hk hs hn hp port opq pn pl hq q hf fg bare sp rst p) (fuel:=1000) Tryz.func80 (by kernel_rfl) (Nat.le_of_ble_eq_true rfl) fun hpre=>(Gr bp sc us pw hk hs hn hp port opq pn pl hq q hf fg bare sp rst p _).mpr (by
 exact ⟨trivial,rfl,rfl⟩)
theorem Gs(bp:Option Addr)(sc us pw:Bs)(hk:Int)(hs:Bs)(hn:Int)(hp:List Int)(port:Int)(opq pn:Bool)(pl:List Bs)(hq:Bool)(q:Bs)(hf:Bool)(fg:Bs)(bare sp:Bool)(rst:Bs)(p:Bs):ag Tryz.prog az 80 [.ptr 0 0,.str p,aD 0 (.raw (.pointer bp)) sc us pw hk hs hn hp port opq pn pl hq q hf fg bare sp rst] ⟨True,.tup [.bool (aj rst p).2,aD 0 (.raw (.pointer bp)) sc us pw hk hs hn hp port opq pn pl hq q hf fg bare sp ((aj rst p).1)]⟩:=ag.aZ (fun h=>by have e:List.isEmpty (PV.aC PV.bt [.ptr 0 0,.str p,aD 0 (.raw (.pointer bp)) sc us pw hk hs hn hp port opq pn pl hq q hf fg bare sp rst])=false:=(by kernel_rfl);exact Bool.noConfusion (e.symm.trans (congrArg List.isEmpty h))) (Al bp sc us pw hk hs hn hp port opq pn pl hq q hf fg bare sp rst p)
def kq:List PV→Option aF:=fun xs=>match xs with
 |[.ptr 0 0,.str p,aD 0 (.raw (.pointer bp)) sc us pw hk hs hn hp port opq pn pl hq q hf fg bare sp rst]=>some ⟨True,.tup [.bool (aj rst p).2,aD 0 (.raw (.pointer bp)) sc us pw hk hs hn hp port opq pn pl hq q hf fg bare sp ((aj rst p).1)]⟩
 |_=>none
theorem mD:∀xs c,kq xs=some c→ag Tryz.prog az 80 xs c:=fun xs c h=>by
 unfold kq at h
 split at h
 ·injection h with h;subst h;exact Gs _ _ _ _ _ _ _ _ _ _ _ _ _ _ _ _ _ _ _ _
 ·cases h
end
section
def BM:cw:=bO []
def BN(bp:Option Addr)(sc us pw:Bs)(hk:Int)(hs:Bs)(hn:Int)(hp:List Int)(port:Int)(opq pn:Bool)(pl:List Bs)(hq:Bool)(q:Bs)(hf:Bool)(fg:Bs)(bare sp:Bool)(rst:Bs)(z:Int):aX:=fun i=>none
theorem Am:cW Tryz.prog az BM:=ax
theorem Gt(bp:Option Addr)(sc us pw:Bs)(hk:Int)(hs:Bs)(hn:Int)(hp:List Int)(port:Int)(opq pn:Bool)(pl:List Bs)(hq:Bool)(q:Bs)(hf:Bool)(fg:Bs)(bare sp:Bool)(rst:Bs)(z:Int)(k:PV→List PV→Prop):bL Tryz.prog BM az (BN bp sc us pw hk hs hn hp port opq pn pl hq q hf fg bare sp rst z) 1000 Tryz.f128 [.ptr 0 0,.int .i64 z] [aD 0 (.raw (.pointer bp)) sc us pw hk hs hn hp port opq pn pl hq q hf fg bare sp rst] k=(
 upto (0:Int) z (ak rst)∧
 upto z (ak rst) (ak rst)∧
 k (PV.str (ae rst z)) [bT (PV.raw (Go.Value.pointer bp)) 0 sc us pw hk hs hn hp port opq pn pl hq q hf fg bare sp (aa rst z)]):=by kernel_rfl
attribute [local irreducible] Go.Vc.cG Go.Vc.bL
theorem An(bp:Option Addr)(sc us pw:Bs)(hk:Int)(hs:Bs)(hn:Int)(hp:List Int)(port:Int)(opq pn:Bool)(pl:List Bs)(hq:Bool)(q:Bs)(hf:Bool)(fg:Bs)(bare sp:Bool)(rst:Bs)(z:Int):bh Tryz.prog az 128 [.ptr 0 0,.int .i64 z] [aD 0 (.raw (.pointer bp)) sc us pw hk hs hn hp port opq pn pl hq q hf fg bare sp rst] (0≤z∧z≤ak rst) (.str (ae rst z)) [aD 0 (.raw (.pointer bp)) sc us pw hk hs hn hp port opq pn pl hq q hf fg bare sp (aa rst z)]:=bu (by kernel_rfl) Am (H:=BN bp sc us pw hk hs hn hp port opq pn pl hq q hf fg bare sp rst z) (fuel:=1000) Tryz.func128 (by kernel_rfl) (Nat.le_of_ble_eq_true rfl) fun hpre=>(Gt bp sc us pw hk hs hn hp port opq pn pl hq q hf fg bare sp rst z _).mpr (by
 obtain ⟨h0,h1⟩:=hpre
 exact ⟨⟨by omega,h0,h1⟩,⟨h0,h1,Int.le_refl _⟩,rfl,rfl⟩)
theorem Gu(bp:Option Addr)(sc us pw:Bs)(hk:Int)(hs:Bs)(hn:Int)(hp:List Int)(port:Int)(opq pn:Bool)(pl:List Bs)(hq:Bool)(q:Bs)(hf:Bool)(fg:Bs)(bare sp:Bool)(rst:Bs)(z:Int):ag Tryz.prog az 128 [.ptr 0 0,.int .i64 z,aD 0 (.raw (.pointer bp)) sc us pw hk hs hn hp port opq pn pl hq q hf fg bare sp rst] ⟨0≤z∧z≤ak rst,.tup [.str (ae rst z),aD 0 (.raw (.pointer bp)) sc us pw hk hs hn hp port opq pn pl hq q hf fg bare sp (aa rst z)]⟩:=ag.aZ (fun h=>by have e:List.isEmpty (PV.aC PV.bt [.ptr 0 0,.int .i64 z,aD 0 (.raw (.pointer bp)) sc us pw hk hs hn hp port opq pn pl hq q hf fg bare sp rst])=false:=(by kernel_rfl);exact Bool.noConfusion (e.symm.trans (congrArg List.isEmpty h))) (An bp sc us pw hk hs hn hp port opq pn pl hq q hf fg bare sp rst z)
def nQ:List PV→Option aF:=fun xs=>match xs with
 |[.ptr 0 0,.int .i64 z,aD 0 (.raw (.pointer bp)) sc us pw hk hs hn hp port opq pn pl hq q hf fg bare sp rst]=>some ⟨0≤z∧z≤ak rst,.tup [.str (ae rst z),aD 0 (.raw (.pointer bp)) sc us pw hk hs hn hp port opq pn pl hq q hf fg bare sp (aa rst z)]⟩
 |_=>none
theorem vt:∀xs c,nQ xs=some c→ag Tryz.prog az 128 xs c:=fun xs c h=>by
 unfold nQ at h
 split at h
 ·injection h with h;subst h;exact Gu _ _ _ _ _ _ _ _ _ _ _ _ _ _ _ _ _ _ _ _
 ·cases h
end
section
def xR:cw:=bO [(80,kq),(128,nQ),(129,gF),(26,eZ)]
def xS(bp:Option Addr)(sc us pw:Bs)(hk:Int)(hs:Bs)(hn:Int)(hp:List Int)(port:Int)(opq pn:Bool)(pl:List Bs)(hq:Bool)(q:Bs)(hf:Bool)(fg:Bs)(bare sp:Bool)(rst:Bs):aX:=fun i=>none
theorem xT:cW Tryz.prog az xR:=ai mD (ai vt (ai fN (ai dR (ax))))
theorem DD(bp:Option Addr)(sc us pw:Bs)(hk:Int)(hs:Bs)(hn:Int)(hp:List Int)(port:Int)(opq pn:Bool)(pl:List Bs)(hq:Bool)(q:Bs)(hf:Bool)(fg:Bs)(bare sp:Bool)(rst:Bs)(k:PV→List PV→Prop):bL Tryz.prog xR az (xS bp sc us pw hk hs hn hp port opq pn pl hq q hf fg bare sp rst) 1000 Tryz.f91 [.ptr 0 0] [aD 0 (.raw (.pointer bp)) sc us pw hk hs hn hp port opq pn pl hq q hf fg bare sp rst] k=(
 True∧
 ((!(aj rst (ByteArray.mk #[63]).data.toList).2)=true→
 k (PV.tup []) [bT (PV.raw (Go.Value.pointer bp)) 0 sc us pw hk hs hn hp port opq pn pl hq q hf fg bare sp ((aj rst (ByteArray.mk #[63]).data.toList).1)])∧
 ((!(aj rst (ByteArray.mk #[63]).data.toList).2)=false→
 (sp=true→
 (List.length (aj rst (ByteArray.mk #[63]).data.toList).1≤(1000000:Nat)∧
 (ByteArray.mk #[35]).data.toList.length≤(1000000:Nat)∧
 ∀(b:UInt8),b∈(ByteArray.mk #[35]).data.toList→
 b.toNat<(128:Nat))∧
 ((0:Int)≤↑(aY (aj rst (ByteArray.mk #[63]).data.toList).1 (ByteArray.mk #[35]).data.toList)∧
 ↑(aY (aj rst (ByteArray.mk #[63]).data.toList).1 (ByteArray.mk #[35]).data.toList)≤ak (aj rst (ByteArray.mk #[63]).data.toList).1)∧
 ((ae (aj rst (ByteArray.mk #[63]).data.toList).1 ↑(aY (aj rst (ByteArray.mk #[63]).data.toList).1 (ByteArray.mk #[35]).data.toList)).length≤(300000:Nat)∧
 (0:Int)≤(3:Int)∧
 (3:Int)≤(6:Int))∧
 k (PV.tup []) [bT (PV.raw (Go.Value.pointer bp)) 0 sc us pw hk hs hn hp port opq pn pl true (bl (3:Int) (ae (aj rst (ByteArray.mk #[63]).data.toList).1 ↑(aY (aj rst (ByteArray.mk #[63]).data.toList).1 (ByteArray.mk #[35]).data.toList))) hf fg bare sp (aa (aj rst (ByteArray.mk #[63]).data.toList).1 ↑(aY (aj rst (ByteArray.mk #[63]).data.toList).1 (ByteArray.mk #[35]).data.toList))])∧
 (sp=false→
 (List.length (aj rst (ByteArray.mk #[63]).data.toList).1≤(1000000:Nat)∧
 (ByteArray.mk #[35]).data.toList.length≤(1000000:Nat)∧
 ∀(b:UInt8),b∈(ByteArray.mk #[35]).data.toList→
 b.toNat<(128:Nat))∧
 ((0:Int)≤↑(aY (aj rst (ByteArray.mk #[63]).data.toList).1 (ByteArray.mk #[35]).data.toList)∧
 ↑(aY (aj rst (ByteArray.mk #[63]).data.toList).1 (ByteArray.mk #[35]).data.toList)≤ak (aj rst (ByteArray.mk #[63]).data.toList).1)∧
 ((ae (aj rst (ByteArray.mk #[63]).data.toList).1 ↑(aY (aj rst (ByteArray.mk #[63]).data.toList).1 (ByteArray.mk #[35]).data.toList)).length≤(300000:Nat)∧
 (0:Int)≤(2:Int)∧
 (2:Int)≤(6:Int))∧
 k (PV.tup []) [bT (PV.raw (Go.Value.pointer bp)) 0 sc us pw hk hs hn hp port opq pn pl true (bl (2:Int) (ae (aj rst (ByteArray.mk #[63]).data.toList).1 ↑(aY (aj rst (ByteArray.mk #[63]).data.toList).1 (ByteArray.mk #[35]).data.toList))) hf fg bare sp (aa (aj rst (ByteArray.mk #[63]).data.toList).1 ↑(aY (aj rst (ByteArray.mk #[63]).data.toList).1 (ByteArray.mk #[35]).data.toList))]))):=by kernel_rfl
attribute [local irreducible] Go.Vc.cG Go.Vc.bL
theorem xU(bp:Option Addr)(sc us pw:Bs)(hk:Int)(hs:Bs)(hn:Int)(hp:List Int)(port:Int)(opq pn:Bool)(pl:List Bs)(hq:Bool)(q:Bs)(hf:Bool)(fg:Bs)(bare sp:Bool)(rst:Bs):bh Tryz.prog az 91 [.ptr 0 0] [aD 0 (.raw (.pointer bp)) sc us pw hk hs hn hp port opq pn pl hq q hf fg bare sp rst] (rst.length≤300000) (.tup []) [aD 0 (.raw (.pointer bp)) sc us pw hk hs hn hp port opq pn pl (dX rst hq) (dY sp rst q) hf fg bare sp (bG rst)]:=bu (by kernel_rfl) xT (H:=xS bp sc us pw hk hs hn hp port opq pn pl hq q hf fg bare sp rst) (fuel:=1000) Tryz.func91 (by kernel_rfl) (Nat.le_of_ble_eq_true rfl) fun hpre=>(DD bp sc us pw hk hs hn hp port opq pn pl hq q hf fg bare sp rst _).mpr (by
 have ec:(ByteArray.mk #[63]).data.toList=([63]:Bs):=rfl
 have ed:(ByteArray.mk #[35]).data.toList=([35]:Bs):=rfl
 have h35:∀b:UInt8,b∈(ByteArray.mk #[35]).data.toList→b.toNat<128:=by rw [ed];decide
 cases hc:preB rst [63]with
 |false=>
  have e1:aj rst (ByteArray.mk #[63]).data.toList=(rst,false):=by unfold aj;rw [ec,hc];rfl
  have e2:dX rst hq=hq∧dY sp rst q=q∧bG rst=rst:=by unfold dX dY bG;rw [hc];exact ⟨rfl,rfl,rfl⟩
  rw [e1,e2.1,e2.2.1,e2.2.2]
  exact ⟨trivial,fun _=>⟨rfl,rfl⟩,fun h=>by cases h⟩
 |true=>
  have e1:aj rst (ByteArray.mk #[63]).data.toList=(aa rst 1,true):=by unfold aj;rw [ec,hc];rfl
  have e2:dX rst hq=true∧dY sp rst q=bl (if sp=true then 3 else 2) (ae (aa rst 1) (xz (aa rst 1)))∧bG rst=aa (aa rst 1) (xz (aa rst 1)):=⟨if_pos hc,if_pos hc,if_pos hc⟩
  have hl:(aa rst 1).length≤300000:=by unfold aa;rw [List.length_drop];omega
  have hi:=eY (aa rst 1) (ByteArray.mk #[35]).data.toList
  have ht:(ae (aa rst 1) (aY (aa rst 1) (ByteArray.mk #[35]).data.toList:Int)).length≤300000:=by unfold ae;rw [List.length_take];omega
  rw [e1,e2.1,e2.2.1,e2.2.2]
  refine ⟨trivial,fun h=>(by cases h),fun _=>⟨fun hsp=>?_,fun hsp=>?_⟩⟩
  ·subst hsp
   exact ⟨⟨Nat.le_trans hl (by decide),by decide,h35⟩,⟨by omega,by unfold ak;exact Int.ofNat_le.2 hi⟩,⟨ht,by omega,by omega⟩,rfl,rfl⟩
  ·subst hsp
   exact ⟨⟨Nat.le_trans hl (by decide),by decide,h35⟩,⟨by omega,by unfold ak;exact Int.ofNat_le.2 hi⟩,⟨ht,by omega,by omega⟩,rfl,rfl⟩)
theorem DE(bp:Option Addr)(sc us pw:Bs)(hk:Int)(hs:Bs)(hn:Int)(hp:List Int)(port:Int)(opq pn:Bool)(pl:List Bs)(hq:Bool)(q:Bs)(hf:Bool)(fg:Bs)(bare sp:Bool)(rst:Bs):ag Tryz.prog az 91 [.ptr 0 0,aD 0 (.raw (.pointer bp)) sc us pw hk hs hn hp port opq pn pl hq q hf fg bare sp rst] ⟨rst.length≤300000,.tup [.tup [],aD 0 (.raw (.pointer bp)) sc us pw hk hs hn hp port opq pn pl (dX rst hq) (dY sp rst q) hf fg bare sp (bG rst)]⟩:=ag.aZ (fun h=>by have e:List.isEmpty (PV.aC PV.bt [.ptr 0 0,aD 0 (.raw (.pointer bp)) sc us pw hk hs hn hp port opq pn pl hq q hf fg bare sp rst])=false:=(by kernel_rfl);exact Bool.noConfusion (e.symm.trans (congrArg List.isEmpty h))) (xU bp sc us pw hk hs hn hp port opq pn pl hq q hf fg bare sp rst)
def lz:List PV→Option aF:=fun xs=>match xs with
 |[.ptr 0 0,aD 0 (.raw (.pointer bp)) sc us pw hk hs hn hp port opq pn pl hq q hf fg bare sp rst]=>some ⟨rst.length≤300000,.tup [.tup [],aD 0 (.raw (.pointer bp)) sc us pw hk hs hn hp port opq pn pl (dX rst hq) (dY sp rst q) hf fg bare sp (bG rst)]⟩
 |_=>none
theorem r6:∀xs c,lz xs=some c→ag Tryz.prog az 91 xs c:=fun xs c h=>by
 unfold lz at h
 split at h
 ·injection h with h;subst h;exact DE _ _ _ _ _ _ _ _ _ _ _ _ _ _ _ _ _ _ _
 ·cases h
end
section
def dZ(rst:Bs)(hf:Bool):Bool:=if preB rst [35]=true then true else hf
def ee(rst fg:Bs):Bs:=if preB rst [35]=true then bl 1 (aa rst 1)else fg
def eh(rst:Bs):Bs:=if preB rst [35]=true then aa rst 1 else rst
theorem IX(r:RS):r.Iy={r with hf:=dZ r.rst r.hf,fg:=ee r.rst r.fg,rst:=eh r.rst}:=by
 unfold RS.Iy dZ ee eh
 split<;>rfl
def rb:cw:=bO [(80,jV),(26,eZ)]
def re(bp:Option Addr)(sc us pw:Bs)(hk:Int)(hs:Bs)(hn:Int)(hp:List Int)(port:Int)(opq pn:Bool)(pl:List Bs)(hq:Bool)(q:Bs)(hf:Bool)(fg:Bs)(bare sp:Bool)(rst:Bs):aX:=fun i=>none
theorem r7:cW Tryz.prog az rb:=ai jW (ai dR (ax))
theorem xV(bp:Option Addr)(sc us pw:Bs)(hk:Int)(hs:Bs)(hn:Int)(hp:List Int)(port:Int)(opq pn:Bool)(pl:List Bs)(hq:Bool)(q:Bs)(hf:Bool)(fg:Bs)(bare sp:Bool)(rst:Bs)(k:PV→List PV→Prop):bL Tryz.prog rb az (re bp sc us pw hk hs hn hp port opq pn pl hq q hf fg bare sp rst) 1000 Tryz.f92 [.ptr 0 0] [aD 1 (.raw (.pointer bp)) sc us pw hk hs hn hp port opq pn pl hq q hf fg bare sp rst] k=(
 True∧
 ((aj rst (ByteArray.mk #[35]).data.toList).2=true→
 (List.length (aj rst (ByteArray.mk #[35]).data.toList).1≤(300000:Nat)∧
 (0:Int)≤(1:Int)∧
 (1:Int)≤(6:Int))∧
 k (PV.tup []) [bT (PV.raw (Go.Value.pointer bp)) 1 sc us pw hk hs hn hp port opq pn pl hq q true (bl (1:Int) (aj rst (ByteArray.mk #[35]).data.toList).1) bare sp ((aj rst (ByteArray.mk #[35]).data.toList).1)])∧
 ((aj rst (ByteArray.mk #[35]).data.toList).2=false→
 k (PV.tup []) [bT (PV.raw (Go.Value.pointer bp)) 1 sc us pw hk hs hn hp port opq pn pl hq q hf fg bare sp ((aj rst (ByteArray.mk #[35]).data.toList).1)])):=by kernel_rfl
attribute [local irreducible] Go.Vc.cG Go.Vc.bL
theorem kK(bp:Option Addr)(sc us pw:Bs)(hk:Int)(hs:Bs)(hn:Int)(hp:List Int)(port:Int)(opq pn:Bool)(pl:List Bs)(hq:Bool)(q:Bs)(hf:Bool)(fg:Bs)(bare sp:Bool)(rst:Bs):bh Tryz.prog az 92 [.ptr 0 0] [aD 1 (.raw (.pointer bp)) sc us pw hk hs hn hp port opq pn pl hq q hf fg bare sp rst] (rst.length≤300000) (.tup []) [aD 1 (.raw (.pointer bp)) sc us pw hk hs hn hp port opq pn pl hq q (dZ rst hf) (ee rst fg) bare sp (eh rst)]:=bu (by kernel_rfl) r7 (H:=re bp sc us pw hk hs hn hp port opq pn pl hq q hf fg bare sp rst) (fuel:=1000) Tryz.func92 (by kernel_rfl) (Nat.le_of_ble_eq_true rfl) fun hpre=>(xV bp sc us pw hk hs hn hp port opq pn pl hq q hf fg bare sp rst _).mpr (by
 have ed:(ByteArray.mk #[35]).data.toList=([35]:Bs):=rfl
 cases hc:preB rst [35]with
 |false=>
  have e1:aj rst (ByteArray.mk #[35]).data.toList=(rst,false):=by unfold aj;rw [ed,hc];rfl
  have e2:dZ rst hf=hf∧ee rst fg=fg∧eh rst=rst:=by unfold dZ ee eh;rw [hc];exact ⟨rfl,rfl,rfl⟩
  rw [e1,e2.1,e2.2.1,e2.2.2]
  exact ⟨trivial,fun h=>(by cases h),fun _=>⟨rfl,rfl⟩⟩
 |true=>
  have e1:aj rst (ByteArray.mk #[35]).data.toList=(aa rst 1,true):=by unfold aj;rw [ed,hc];rfl
  have e2:dZ rst hf=true∧ee rst fg=bl 1 (aa rst 1)∧eh rst=aa rst 1:=⟨if_pos hc,if_pos hc,if_pos hc⟩
  have hl:(aa rst 1).length≤300000:=by unfold aa;rw [List.length_drop];omega
  rw [e1,e2.1,e2.2.1,e2.2.2]
  exact ⟨trivial,fun _=>⟨⟨hl,by omega,by omega⟩,rfl,rfl⟩,fun h=>(by cases h)⟩)
theorem xW(bp:Option Addr)(sc us pw:Bs)(hk:Int)(hs:Bs)(hn:Int)(hp:List Int)(port:Int)(opq pn:Bool)(pl:List Bs)(hq:Bool)(q:Bs)(hf:Bool)(fg:Bs)(bare sp:Bool)(rst:Bs):ag Tryz.prog az 92 [.ptr 0 0,aD 1 (.raw (.pointer bp)) sc us pw hk hs hn hp port opq pn pl hq q hf fg bare sp rst] ⟨rst.length≤300000,.tup [.tup [],aD 1 (.raw (.pointer bp)) sc us pw hk hs hn hp port opq pn pl hq q (dZ rst hf) (ee rst fg) bare sp (eh rst)]⟩:=ag.aZ (fun h=>by have e:List.isEmpty (PV.aC PV.bt [.ptr 0 0,aD 1 (.raw (.pointer bp)) sc us pw hk hs hn hp port opq pn pl hq q hf fg bare sp rst])=false:=(by kernel_rfl);exact Bool.noConfusion (e.symm.trans (congrArg List.isEmpty h))) (kK bp sc us pw hk hs hn hp port opq pn pl hq q hf fg bare sp rst)
def jj:List PV→Option aF:=fun xs=>match xs with
 |[.ptr 0 0,aD 1 (.raw (.pointer bp)) sc us pw hk hs hn hp port opq pn pl hq q hf fg bare sp rst]=>some ⟨rst.length≤300000,.tup [.tup [],aD 1 (.raw (.pointer bp)) sc us pw hk hs hn hp port opq pn pl hq q (dZ rst hf) (ee rst fg) bare sp (eh rst)]⟩
 |_=>none
theorem oY:∀xs c,jj xs=some c→ag Tryz.prog az 92 xs c:=fun xs c h=>by
 unfold jj at h
 split at h
 ·injection h with h;subst h;exact xW _ _ _ _ _ _ _ _ _ _ _ _ _ _ _ _ _ _ _
 ·cases h
end
section
def oO:cw:=bO [(80,kq),(26,eZ)]
def oP(bp:Option Addr)(sc us pw:Bs)(hk:Int)(hs:Bs)(hn:Int)(hp:List Int)(port:Int)(opq pn:Bool)(pl:List Bs)(hq:Bool)(q:Bs)(hf:Bool)(fg:Bs)(bare sp:Bool)(rst:Bs):aX:=fun i=>none
theorem rf:cW Tryz.prog az oO:=ai mD (ai dR (ax))
theorem vu(bp:Option Addr)(sc us pw:Bs)(hk:Int)(hs:Bs)(hn:Int)(hp:List Int)(port:Int)(opq pn:Bool)(pl:List Bs)(hq:Bool)(q:Bs)(hf:Bool)(fg:Bs)(bare sp:Bool)(rst:Bs)(k:PV→List PV→Prop):bL Tryz.prog oO az (oP bp sc us pw hk hs hn hp port opq pn pl hq q hf fg bare sp rst) 1000 Tryz.f92 [.ptr 0 0] [aD 0 (.raw (.pointer bp)) sc us pw hk hs hn hp port opq pn pl hq q hf fg bare sp rst] k=(
 True∧
 ((aj rst (ByteArray.mk #[35]).data.toList).2=true→
 (List.length (aj rst (ByteArray.mk #[35]).data.toList).1≤(300000:Nat)∧
 (0:Int)≤(1:Int)∧
 (1:Int)≤(6:Int))∧
 k (PV.tup []) [bT (PV.raw (Go.Value.pointer bp)) 0 sc us pw hk hs hn hp port opq pn pl hq q true (bl (1:Int) (aj rst (ByteArray.mk #[35]).data.toList).1) bare sp ((aj rst (ByteArray.mk #[35]).data.toList).1)])∧
 ((aj rst (ByteArray.mk #[35]).data.toList).2=false→
 k (PV.tup []) [bT (PV.raw (Go.Value.pointer bp)) 0 sc us pw hk hs hn hp port opq pn pl hq q hf fg bare sp ((aj rst (ByteArray.mk #[35]).data.toList).1)])):=by kernel_rfl
attribute [local irreducible] Go.Vc.cG Go.Vc.bL
theorem rh(bp:Option Addr)(sc us pw:Bs)(hk:Int)(hs:Bs)(hn:Int)(hp:List Int)(port:Int)(opq pn:Bool)(pl:List Bs)(hq:Bool)(q:Bs)(hf:Bool)(fg:Bs)(bare sp:Bool)(rst:Bs):bh Tryz.prog az 92 [.ptr 0 0] [aD 0 (.raw (.pointer bp)) sc us pw hk hs hn hp port opq pn pl hq q hf fg bare sp rst] (rst.length≤300000) (.tup []) [aD 0 (.raw (.pointer bp)) sc us pw hk hs hn hp port opq pn pl hq q (dZ rst hf) (ee rst fg) bare sp (eh rst)]:=bu (by kernel_rfl) rf (H:=oP bp sc us pw hk hs hn hp port opq pn pl hq q hf fg bare sp rst) (fuel:=1000) Tryz.func92 (by kernel_rfl) (Nat.le_of_ble_eq_true rfl) fun hpre=>(vu bp sc us pw hk hs hn hp port opq pn pl hq q hf fg bare sp rst _).mpr (by
 have ed:(ByteArray.mk #[35]).data.toList=([35]:Bs):=rfl
 cases hc:preB rst [35]with
 |false=>
  have e1:aj rst (ByteArray.mk #[35]).data.toList=(rst,false):=by unfold aj;rw [ed,hc];rfl
  have e2:dZ rst hf=hf∧ee rst fg=fg∧eh rst=rst:=by unfold dZ ee eh;rw [hc];exact ⟨rfl,rfl,rfl⟩
  rw [e1,e2.1,e2.2.1,e2.2.2]
  exact ⟨trivial,fun h=>(by cases h),fun _=>⟨rfl,rfl⟩⟩
 |true=>
  have e1:aj rst (ByteArray.mk #[35]).data.toList=(aa rst 1,true):=by unfold aj;rw [ed,hc];rfl
  have e2:dZ rst hf=true∧ee rst fg=bl 1 (aa rst 1)∧eh rst=aa rst 1:=⟨if_pos hc,if_pos hc,if_pos hc⟩
  have hl:(aa rst 1).length≤300000:=by unfold aa;rw [List.length_drop];omega
  rw [e1,e2.1,e2.2.1,e2.2.2]
  exact ⟨trivial,fun _=>⟨⟨hl,by omega,by omega⟩,rfl,rfl⟩,fun h=>(by cases h)⟩)
theorem vv(bp:Option Addr)(sc us pw:Bs)(hk:Int)(hs:Bs)(hn:Int)(hp:List Int)(port:Int)(opq pn:Bool)(pl:List Bs)(hq:Bool)(q:Bs)(hf:Bool)(fg:Bs)(bare sp:Bool)(rst:Bs):ag Tryz.prog az 92 [.ptr 0 0,aD 0 (.raw (.pointer bp)) sc us pw hk hs hn hp port opq pn pl hq q hf fg bare sp rst] ⟨rst.length≤300000,.tup [.tup [],aD 0 (.raw (.pointer bp)) sc us pw hk hs hn hp port opq pn pl hq q (dZ rst hf) (ee rst fg) bare sp (eh rst)]⟩:=ag.aZ (fun h=>by have e:List.isEmpty (PV.aC PV.bt [.ptr 0 0,aD 0 (.raw (.pointer bp)) sc us pw hk hs hn hp port opq pn pl hq q hf fg bare sp rst])=false:=(by kernel_rfl);exact Bool.noConfusion (e.symm.trans (congrArg List.isEmpty h))) (rh bp sc us pw hk hs hn hp port opq pn pl hq q hf fg bare sp rst)
def ia:List PV→Option aF:=fun xs=>match xs with
 |[.ptr 0 0,aD 0 (.raw (.pointer bp)) sc us pw hk hs hn hp port opq pn pl hq q hf fg bare sp rst]=>some ⟨rst.length≤300000,.tup [.tup [],aD 0 (.raw (.pointer bp)) sc us pw hk hs hn hp port opq pn pl hq q (dZ rst hf) (ee rst fg) bare sp (eh rst)]⟩
 |_=>none
theorem nR:∀xs c,ia xs=some c→ag Tryz.prog az 92 xs c:=fun xs c h=>by
 unfold ia at h
 split at h
 ·injection h with h;subst h;exact vv _ _ _ _ _ _ _ _ _ _ _ _ _ _ _ _ _ _ _
 ·cases h
end
section
attribute [local instance] KL
theorem eF(bp:Option Addr):ofRaw bp (.raw (.pointer bp))=.ptr 1 0:=by unfold ofRaw;exact if_pos rfl
theorem DF(sc us pw:Bs)(hk:Int)(hs:Bs)(hn:Int)(hp:List Int)(port:Int)(opq pn:Bool)(pl:List Bs)(hq:Bool)(q:Bs)(hf:Bool)(fg:Bs)(bare sp:Bool)(rst:Bs)(at_:Int)(bsc bus bpw:Bs)(bhk:Int)(bhs:Bs)(bhn:Int)(bhp:List Int)(bport:Int)(bopq bpn:Bool)(bpl:List Bs)(bhq:Bool)(bq:Bs)(bhf:Bool)(bfg:Bs):ag Tryz.prog az 82 [.ptr 0 0,.int .i64 at_,aD 1 (.ptr 1 0) sc us pw hk hs hn hp port opq pn pl hq q hf fg bare sp rst,bC 0 bsc bus bpw bhk bhs bhn bhp bport bopq bpn bpl bhq bq bhf bfg] ⟨0≤at_∧at_<1000,.tup [.bool (aA sp rst at_),aD 1 (.ptr 1 0) sc us pw hk hs hn hp port opq pn pl hq q hf fg bare sp rst,bC 0 bsc bus bpw bhk bhs bhn bhp bport bopq bpn bpl bhq bq bhf bfg]⟩:=
 ag.aZ (fun h=>by have e:List.isEmpty (PV.aC PV.bt [.ptr 0 0,.int .i64 at_,aD 1 (.ptr 1 0) sc us pw hk hs hn hp port opq pn pl hq q hf fg bare sp rst,bC 0 bsc bus bpw bhk bhs bhn bhp bport bopq bpn bpl bhq bq bhf bfg])=false:=(by kernel_rfl);exact Bool.noConfusion (e.symm.trans (congrArg List.isEmpty h)))
  (eD (fun bp=>(aD 1 (.raw (.pointer bp)) sc us pw hk hs hn hp port opq pn pl hq q hf fg bare sp rst)) (fun bp=>(aD 1 (.raw (.pointer bp)) sc us pw hk hs hn hp port opq pn pl hq q hf fg bare sp rst)) (fun bp=>qM bp sc us pw hk hs hn hp port opq pn pl hq q hf fg bare sp rst at_) (fun bp=>rfl) (fun bp=>by
    show PV.agg [_,ofRaw bp (.raw (.pointer bp)),_,_,_]=_
    rw [eF];rfl) (fun bp=>rfl) rfl)
theorem r8(sc us pw:Bs)(hk:Int)(hs:Bs)(hn:Int)(hp:List Int)(port:Int)(opq pn:Bool)(pl:List Bs)(hq:Bool)(q:Bs)(hf:Bool)(fg:Bs)(bare sp:Bool)(rst:Bs)(bsc bus bpw:Bs)(bhk:Int)(bhs:Bs)(bhn:Int)(bhp:List Int)(bport:Int)(bopq bpn:Bool)(bpl:List Bs)(bhq:Bool)(bq:Bs)(bhf:Bool)(bfg:Bs):ag Tryz.prog az 84 [.ptr 0 0,aD 1 (.ptr 1 0) sc us pw hk hs hn hp port opq pn pl hq q hf fg bare sp rst,bC 0 bsc bus bpw bhk bhs bhn bhp bport bopq bpn bpl bhq bq bhf bfg] ⟨True,.tup [.bool (aA sp rst 0),aD 1 (.ptr 1 0) sc us pw hk hs hn hp port opq pn pl hq q hf fg bare sp (if aA sp rst 0=true then aa rst 1 else rst),bC 0 bsc bus bpw bhk bhs bhn bhp bport bopq bpn bpl bhq bq bhf bfg]⟩:=
 ag.aZ (fun h=>by have e:List.isEmpty (PV.aC PV.bt [.ptr 0 0,aD 1 (.ptr 1 0) sc us pw hk hs hn hp port opq pn pl hq q hf fg bare sp rst,bC 0 bsc bus bpw bhk bhs bhn bhp bport bopq bpn bpl bhq bq bhf bfg])=false:=(by kernel_rfl);exact Bool.noConfusion (e.symm.trans (congrArg List.isEmpty h)))
  (eD (fun bp=>(aD 1 (.raw (.pointer bp)) sc us pw hk hs hn hp port opq pn pl hq q hf fg bare sp rst)) (fun bp=>(aD 1 (.raw (.pointer bp)) sc us pw hk hs hn hp port opq pn pl hq q hf fg bare sp (if aA sp rst 0=true then aa rst 1 else rst))) (fun bp=>jU bp sc us pw hk hs hn hp port opq pn pl hq q hf fg bare sp rst) (fun bp=>rfl) (fun bp=>by
    show PV.agg [_,ofRaw bp (.raw (.pointer bp)),_,_,_]=_
    rw [eF];rfl) (fun bp=>rfl) rfl)
theorem Ao(sc us pw:Bs)(hk:Int)(hs:Bs)(hn:Int)(hp:List Int)(port:Int)(opq pn:Bool)(pl:List Bs)(hq:Bool)(q:Bs)(hf:Bool)(fg:Bs)(bare sp:Bool)(rst:Bs)(bsc bus bpw:Bs)(bhk:Int)(bhs:Bs)(bhn:Int)(bhp:List Int)(bport:Int)(bopq bpn:Bool)(bpl:List Bs)(bhq:Bool)(bq:Bs)(bhf:Bool)(bfg:Bs):ag Tryz.prog az 89 [.ptr 0 0,aD 1 (.ptr 1 0) sc us pw hk hs hn hp port opq pn pl hq q hf fg bare sp rst,bC 0 bsc bus bpw bhk bhs bhn bhp bport bopq bpn bpl bhq bq bhf bfg] ⟨True,.tup [.bool (bQ rst),aD 1 (.ptr 1 0) sc us pw hk hs hn hp port opq pn pl hq q hf fg bare sp rst,bC 0 bsc bus bpw bhk bhs bhn bhp bport bopq bpn bpl bhq bq bhf bfg]⟩:=
 ag.aZ (fun h=>by have e:List.isEmpty (PV.aC PV.bt [.ptr 0 0,aD 1 (.ptr 1 0) sc us pw hk hs hn hp port opq pn pl hq q hf fg bare sp rst,bC 0 bsc bus bpw bhk bhs bhn bhp bport bopq bpn bpl bhq bq bhf bfg])=false:=(by kernel_rfl);exact Bool.noConfusion (e.symm.trans (congrArg List.isEmpty h)))
  (eD (fun bp=>(aD 1 (.raw (.pointer bp)) sc us pw hk hs hn hp port opq pn pl hq q hf fg bare sp rst)) (fun bp=>(aD 1 (.raw (.pointer bp)) sc us pw hk hs hn hp port opq pn pl hq q hf fg bare sp rst)) (fun bp=>oK bp sc us pw hk hs hn hp port opq pn pl hq q hf fg bare sp rst) (fun bp=>rfl) (fun bp=>by
    show PV.agg [_,ofRaw bp (.raw (.pointer bp)),_,_,_]=_
    rw [eF];rfl) (fun bp=>rfl) rfl)
def jZ:List PV→Option aF:=fun xs=>match xs with
 |[.ptr 0 0,aD 1 (.ptr 1 0) sc us pw hk hs hn hp port opq pn pl hq q hf fg bare sp rst,bC 0 bsc bus bpw bhk bhs bhn bhp bport bopq bpn bpl bhq bq bhf bfg]=>some ⟨True,.tup [.bool (bQ rst),aD 1 (.ptr 1 0) sc us pw hk hs hn hp port opq pn pl hq q hf fg bare sp rst,bC 0 bsc bus bpw bhk bhs bhn bhp bport bopq bpn bpl bhq bq bhf bfg]⟩
 |_=>none
theorem ri:∀xs c,jZ xs=some c→ag Tryz.prog az 89 xs c:=fun xs c h=>by
 unfold jZ at h
 split at h
 ·injection h with h;subst h;exact Ao _ _ _ _ _ _ _ _ _ _ _ _ _ _ _ _ _ _ _ _ _ _ _ _ _ _ _ _ _ _ _ _ _
 ·cases h
theorem xX(sc us pw:Bs)(hk:Int)(hs:Bs)(hn:Int)(hp:List Int)(port:Int)(opq pn:Bool)(pl:List Bs)(hq:Bool)(q:Bs)(hf:Bool)(fg:Bs)(bare sp:Bool)(rst:Bs)(bsc bus bpw:Bs)(bhk:Int)(bhs:Bs)(bhn:Int)(bhp:List Int)(bport:Int)(bopq bpn:Bool)(bpl:List Bs)(bhq:Bool)(bq:Bs)(bhf:Bool)(bfg:Bs):ag Tryz.prog az 87 [.ptr 0 0,aD 1 (.ptr 1 0) sc us pw hk hs hn hp port opq pn pl hq q hf fg bare sp rst,bC 0 bsc bus bpw bhk bhs bhn bhp bport bopq bpn bpl bhq bq bhf bfg] ⟨pl.length≤1000000,.tup [.tup [],aD 1 (.ptr 1 0) sc us pw hk hs hn hp port opq ((bN sc (pn,pl)).1) ((bN sc (pn,pl)).2) hq q hf fg bare sp rst,bC 0 bsc bus bpw bhk bhs bhn bhp bport bopq bpn bpl bhq bq bhf bfg]⟩:=
 ag.aZ (fun h=>by have e:List.isEmpty (PV.aC PV.bt [.ptr 0 0,aD 1 (.ptr 1 0) sc us pw hk hs hn hp port opq pn pl hq q hf fg bare sp rst,bC 0 bsc bus bpw bhk bhs bhn bhp bport bopq bpn bpl bhq bq bhf bfg])=false:=(by kernel_rfl);exact Bool.noConfusion (e.symm.trans (congrArg List.isEmpty h)))
  (eD (fun bp=>(aD 1 (.raw (.pointer bp)) sc us pw hk hs hn hp port opq pn pl hq q hf fg bare sp rst)) (fun bp=>(aD 1 (.raw (.pointer bp)) sc us pw hk hs hn hp port opq ((bN sc (pn,pl)).1) ((bN sc (pn,pl)).2) hq q hf fg bare sp rst)) (fun bp=>mB bp sc us pw hk hs hn hp port opq pn pl hq q hf fg bare sp rst) (fun bp=>rfl) (fun bp=>by
    show PV.agg [_,ofRaw bp (.raw (.pointer bp)),_,_,_]=_
    rw [eF];rfl) (fun bp=>rfl) rfl)
def jk:List PV→Option aF:=fun xs=>match xs with
 |[.ptr 0 0,aD 1 (.ptr 1 0) sc us pw hk hs hn hp port opq pn pl hq q hf fg bare sp rst,bC 0 bsc bus bpw bhk bhs bhn bhp bport bopq bpn bpl bhq bq bhf bfg]=>some ⟨pl.length≤1000000,.tup [.tup [],aD 1 (.ptr 1 0) sc us pw hk hs hn hp port opq ((bN sc (pn,pl)).1) ((bN sc (pn,pl)).2) hq q hf fg bare sp rst,bC 0 bsc bus bpw bhk bhs bhn bhp bport bopq bpn bpl bhq bq bhf bfg]⟩
 |_=>none
theorem oZ:∀xs c,jk xs=some c→ag Tryz.prog az 87 xs c:=fun xs c h=>by
 unfold jk at h
 split at h
 ·injection h with h;subst h;exact xX _ _ _ _ _ _ _ _ _ _ _ _ _ _ _ _ _ _ _ _ _ _ _ _ _ _ _ _ _ _ _ _ _
 ·cases h
theorem Gv(sc us pw:Bs)(hk:Int)(hs:Bs)(hn:Int)(hp:List Int)(port:Int)(opq pn:Bool)(pl:List Bs)(hq:Bool)(q:Bs)(hf:Bool)(fg:Bs)(bare sp:Bool)(rst:Bs)(bsc bus bpw:Bs)(bhk:Int)(bhs:Bs)(bhn:Int)(bhp:List Int)(bport:Int)(bopq bpn:Bool)(bpl:List Bs)(bhq:Bool)(bq:Bs)(bhf:Bool)(bfg:Bs):ag Tryz.prog az 90 [.ptr 0 0,aD 1 (.ptr 1 0) sc us pw hk hs hn hp port opq pn pl hq q hf fg bare sp rst,bC 0 bsc bus bpw bhk bhs bhn bhp bport bopq bpn bpl bhq bq bhf bfg] ⟨rst.length≤300000∧pl.length≤100000,.tup [.tup [],aD 1 (.ptr 1 0) sc us pw hk hs hn hp port opq ((br sp sc (ae rst (aE rst)) (pn,pl)).1) ((br sp sc (ae rst (aE rst)) (pn,pl)).2) hq q hf fg bare sp (aa rst (aE rst)),bC 0 bsc bus bpw bhk bhs bhn bhp bport bopq bpn bpl bhq bq bhf bfg]⟩:=
 ag.aZ (fun h=>by have e:List.isEmpty (PV.aC PV.bt [.ptr 0 0,aD 1 (.ptr 1 0) sc us pw hk hs hn hp port opq pn pl hq q hf fg bare sp rst,bC 0 bsc bus bpw bhk bhs bhn bhp bport bopq bpn bpl bhq bq bhf bfg])=false:=(by kernel_rfl);exact Bool.noConfusion (e.symm.trans (congrArg List.isEmpty h)))
  (eD (fun bp=>(aD 1 (.raw (.pointer bp)) sc us pw hk hs hn hp port opq pn pl hq q hf fg bare sp rst)) (fun bp=>(aD 1 (.raw (.pointer bp)) sc us pw hk hs hn hp port opq ((br sp sc (ae rst (aE rst)) (pn,pl)).1) ((br sp sc (ae rst (aE rst)) (pn,pl)).2) hq q hf fg bare sp (aa rst (aE rst)))) (fun bp=>tK bp sc us pw hk hs hn hp port opq pn pl hq q hf fg bare sp rst) (fun bp=>rfl) (fun bp=>by
    show PV.agg [_,ofRaw bp (.raw (.pointer bp)),_,_,_]=_
    rw [eF];rfl) (fun bp=>rfl) rfl)
def nS:List PV→Option aF:=fun xs=>match xs with
 |[.ptr 0 0,aD 1 (.ptr 1 0) sc us pw hk hs hn hp port opq pn pl hq q hf fg bare sp rst,bC 0 bsc bus bpw bhk bhs bhn bhp bport bopq bpn bpl bhq bq bhf bfg]=>some ⟨rst.length≤300000∧pl.length≤100000,.tup [.tup [],aD 1 (.ptr 1 0) sc us pw hk hs hn hp port opq ((br sp sc (ae rst (aE rst)) (pn,pl)).1) ((br sp sc (ae rst (aE rst)) (pn,pl)).2) hq q hf fg bare sp (aa rst (aE rst)),bC 0 bsc bus bpw bhk bhs bhn bhp bport bopq bpn bpl bhq bq bhf bfg]⟩
 |_=>none
theorem vw:∀xs c,nS xs=some c→ag Tryz.prog az 90 xs c:=fun xs c h=>by
 unfold nS at h
 split at h
 ·injection h with h;subst h;exact Gv _ _ _ _ _ _ _ _ _ _ _ _ _ _ _ _ _ _ _ _ _ _ _ _ _ _ _ _ _ _ _ _ _
 ·cases h
theorem DG(sc us pw:Bs)(hk:Int)(hs:Bs)(hn:Int)(hp:List Int)(port:Int)(opq pn:Bool)(pl:List Bs)(hq:Bool)(q:Bs)(hf:Bool)(fg:Bs)(bare sp:Bool)(rst:Bs)(bsc bus bpw:Bs)(bhk:Int)(bhs:Bs)(bhn:Int)(bhp:List Int)(bport:Int)(bopq bpn:Bool)(bpl:List Bs)(bhq:Bool)(bq:Bs)(bhf:Bool)(bfg:Bs):ag Tryz.prog az 91 [.ptr 0 0,aD 1 (.ptr 1 0) sc us pw hk hs hn hp port opq pn pl hq q hf fg bare sp rst,bC 0 bsc bus bpw bhk bhs bhn bhp bport bopq bpn bpl bhq bq bhf bfg] ⟨rst.length≤300000,.tup [.tup [],aD 1 (.ptr 1 0) sc us pw hk hs hn hp port opq pn pl (dX rst hq) (dY sp rst q) hf fg bare sp (bG rst),bC 0 bsc bus bpw bhk bhs bhn bhp bport bopq bpn bpl bhq bq bhf bfg]⟩:=
 ag.aZ (fun h=>by have e:List.isEmpty (PV.aC PV.bt [.ptr 0 0,aD 1 (.ptr 1 0) sc us pw hk hs hn hp port opq pn pl hq q hf fg bare sp rst,bC 0 bsc bus bpw bhk bhs bhn bhp bport bopq bpn bpl bhq bq bhf bfg])=false:=(by kernel_rfl);exact Bool.noConfusion (e.symm.trans (congrArg List.isEmpty h)))
  (eD (fun bp=>(aD 1 (.raw (.pointer bp)) sc us pw hk hs hn hp port opq pn pl hq q hf fg bare sp rst)) (fun bp=>(aD 1 (.raw (.pointer bp)) sc us pw hk hs hn hp port opq pn pl (dX rst hq) (dY sp rst q) hf fg bare sp (bG rst))) (fun bp=>ra bp sc us pw hk hs hn hp port opq pn pl hq q hf fg bare sp rst) (fun bp=>rfl) (fun bp=>by
    show PV.agg [_,ofRaw bp (.raw (.pointer bp)),_,_,_]=_
    rw [eF];rfl) (fun bp=>rfl) rfl)
def lA:List PV→Option aF:=fun xs=>match xs with
 |[.ptr 0 0,aD 1 (.ptr 1 0) sc us pw hk hs hn hp port opq pn pl hq q hf fg bare sp rst,bC 0 bsc bus bpw bhk bhs bhn bhp bport bopq bpn bpl bhq bq bhf bfg]=>some ⟨rst.length≤300000,.tup [.tup [],aD 1 (.ptr 1 0) sc us pw hk hs hn hp port opq pn pl (dX rst hq) (dY sp rst q) hf fg bare sp (bG rst),bC 0 bsc bus bpw bhk bhs bhn bhp bport bopq bpn bpl bhq bq bhf bfg]⟩
 |_=>none
theorem r9:∀xs c,lA xs=some c→ag Tryz.prog az 91 xs c:=fun xs c h=>by
 unfold lA at h
 split at h
 ·injection h with h;subst h;exact DG _ _ _ _ _ _ _ _ _ _ _ _ _ _ _ _ _ _ _ _ _ _ _ _ _ _ _ _ _ _ _ _ _
 ·cases h
theorem vx(sc us pw:Bs)(hk:Int)(hs:Bs)(hn:Int)(hp:List Int)(port:Int)(opq pn:Bool)(pl:List Bs)(hq:Bool)(q:Bs)(hf:Bool)(fg:Bs)(bare sp:Bool)(rst:Bs)(bsc bus bpw:Bs)(bhk:Int)(bhs:Bs)(bhn:Int)(bhp:List Int)(bport:Int)(bopq bpn:Bool)(bpl:List Bs)(bhq:Bool)(bq:Bs)(bhf:Bool)(bfg:Bs):ag Tryz.prog az 92 [.ptr 0 0,aD 1 (.ptr 1 0) sc us pw hk hs hn hp port opq pn pl hq q hf fg bare sp rst,bC 0 bsc bus bpw bhk bhs bhn bhp bport bopq bpn bpl bhq bq bhf bfg] ⟨rst.length≤300000,.tup [.tup [],aD 1 (.ptr 1 0) sc us pw hk hs hn hp port opq pn pl hq q (dZ rst hf) (ee rst fg) bare sp (eh rst),bC 0 bsc bus bpw bhk bhs bhn bhp bport bopq bpn bpl bhq bq bhf bfg]⟩:=
 ag.aZ (fun h=>by have e:List.isEmpty (PV.aC PV.bt [.ptr 0 0,aD 1 (.ptr 1 0) sc us pw hk hs hn hp port opq pn pl hq q hf fg bare sp rst,bC 0 bsc bus bpw bhk bhs bhn bhp bport bopq bpn bpl bhq bq bhf bfg])=false:=(by kernel_rfl);exact Bool.noConfusion (e.symm.trans (congrArg List.isEmpty h)))
  (eD (fun bp=>(aD 1 (.raw (.pointer bp)) sc us pw hk hs hn hp port opq pn pl hq q hf fg bare sp rst)) (fun bp=>(aD 1 (.raw (.pointer bp)) sc us pw hk hs hn hp port opq pn pl hq q (dZ rst hf) (ee rst fg) bare sp (eh rst))) (fun bp=>kK bp sc us pw hk hs hn hp port opq pn pl hq q hf fg bare sp rst) (fun bp=>rfl) (fun bp=>by
    show PV.agg [_,ofRaw bp (.raw (.pointer bp)),_,_,_]=_
    rw [eF];rfl) (fun bp=>rfl) rfl)
def ib:List PV→Option aF:=fun xs=>match xs with
 |[.ptr 0 0,aD 1 (.ptr 1 0) sc us pw hk hs hn hp port opq pn pl hq q hf fg bare sp rst,bC 0 bsc bus bpw bhk bhs bhn bhp bport bopq bpn bpl bhq bq bhf bfg]=>some ⟨rst.length≤300000,.tup [.tup [],aD 1 (.ptr 1 0) sc us pw hk hs hn hp port opq pn pl hq q (dZ rst hf) (ee rst fg) bare sp (eh rst),bC 0 bsc bus bpw bhk bhs bhn bhp bport bopq bpn bpl bhq bq bhf bfg]⟩
 |_=>none
theorem nT:∀xs c,ib xs=some c→ag Tryz.prog az 92 xs c:=fun xs c h=>by
 unfold ib at h
 split at h
 ·injection h with h;subst h;exact vx _ _ _ _ _ _ _ _ _ _ _ _ _ _ _ _ _ _ _ _ _ _ _ _ _ _ _ _ _ _ _ _ _
 ·cases h
end
section
def xY:cw:=bO []
def xZ(sc us pw:Bs)(hk:Int)(hs:Bs)(hn:Int)(hp:List Int)(port:Int)(opq pn:Bool)(pl:List Bs)(hq:Bool)(q:Bs)(hf:Bool)(fg:Bs)(bare sp:Bool)(rst:Bs)(bsc bus bpw:Bs)(bhk:Int)(bhs:Bs)(bhn:Int)(bhp:List Int)(bport:Int)(bopq bpn:Bool)(bpl:List Bs)(bhq:Bool)(bq:Bs)(bhf:Bool)(bfg:Bs):aX:=fun i=>none
theorem x3:cW Tryz.prog az xY:=ax
theorem DH(sc us pw:Bs)(hk:Int)(hs:Bs)(hn:Int)(hp:List Int)(port:Int)(opq pn:Bool)(pl:List Bs)(hq:Bool)(q:Bs)(hf:Bool)(fg:Bs)(bare sp:Bool)(rst:Bs)(bsc bus bpw:Bs)(bhk:Int)(bhs:Bs)(bhn:Int)(bhp:List Int)(bport:Int)(bopq bpn:Bool)(bpl:List Bs)(bhq:Bool)(bq:Bs)(bhf:Bool)(bfg:Bs)(k:PV→List PV→Prop):bL Tryz.prog xY az (xZ sc us pw hk hs hn hp port opq pn pl hq q hf fg bare sp rst bsc bus bpw bhk bhs bhn bhp bport bopq bpn bpl bhq bq bhf bfg) 1000 Tryz.f77 [.ptr 0 0] [aD 1 (.ptr 1 0) sc us pw hk hs hn hp port opq pn pl hq q hf fg bare sp rst,bC 0 bsc bus bpw bhk bhs bhn bhp bport bopq bpn bpl bhq bq bhf bfg] k=(
 k (PV.bool (decide (bsc=sc))) [bT (PV.ptr (1:Nat) (0:Nat)) 1 sc us pw hk hs hn hp port opq pn pl hq q hf fg bare sp rst,bC (0:Nat) bsc bus bpw bhk bhs bhn bhp bport bopq bpn bpl bhq bq bhf bfg]):=by kernel_rfl
attribute [local irreducible] Go.Vc.cG Go.Vc.bL
theorem x4(sc us pw:Bs)(hk:Int)(hs:Bs)(hn:Int)(hp:List Int)(port:Int)(opq pn:Bool)(pl:List Bs)(hq:Bool)(q:Bs)(hf:Bool)(fg:Bs)(bare sp:Bool)(rst:Bs)(bsc bus bpw:Bs)(bhk:Int)(bhs:Bs)(bhn:Int)(bhp:List Int)(bport:Int)(bopq bpn:Bool)(bpl:List Bs)(bhq:Bool)(bq:Bs)(bhf:Bool)(bfg:Bs):bh Tryz.prog az 77 [.ptr 0 0] [aD 1 (.ptr 1 0) sc us pw hk hs hn hp port opq pn pl hq q hf fg bare sp rst,bC 0 bsc bus bpw bhk bhs bhn bhp bport bopq bpn bpl bhq bq bhf bfg] (True) (.bool (decide (bsc=sc))) [aD 1 (.ptr 1 0) sc us pw hk hs hn hp port opq pn pl hq q hf fg bare sp rst,bC 0 bsc bus bpw bhk bhs bhn bhp bport bopq bpn bpl bhq bq bhf bfg]:=bu (by kernel_rfl) x3 (H:=xZ sc us pw hk hs hn hp port opq pn pl hq q hf fg bare sp rst bsc bus bpw bhk bhs bhn bhp bport bopq bpn bpl bhq bq bhf bfg) (fuel:=1000) Tryz.func77 (by kernel_rfl) (Nat.le_of_ble_eq_true rfl) fun hpre=>(DH sc us pw hk hs hn hp port opq pn pl hq q hf fg bare sp rst bsc bus bpw bhk bhs bhn bhp bport bopq bpn bpl bhq bq bhf bfg _).mpr (by
 exact ⟨rfl,rfl⟩)
theorem DI(sc us pw:Bs)(hk:Int)(hs:Bs)(hn:Int)(hp:List Int)(port:Int)(opq pn:Bool)(pl:List Bs)(hq:Bool)(q:Bs)(hf:Bool)(fg:Bs)(bare sp:Bool)(rst:Bs)(bsc bus bpw:Bs)(bhk:Int)(bhs:Bs)(bhn:Int)(bhp:List Int)(bport:Int)(bopq bpn:Bool)(bpl:List Bs)(bhq:Bool)(bq:Bs)(bhf:Bool)(bfg:Bs):ag Tryz.prog az 77 [.ptr 0 0,aD 1 (.ptr 1 0) sc us pw hk hs hn hp port opq pn pl hq q hf fg bare sp rst,bC 0 bsc bus bpw bhk bhs bhn bhp bport bopq bpn bpl bhq bq bhf bfg] ⟨True,.tup [.bool (decide (bsc=sc)),aD 1 (.ptr 1 0) sc us pw hk hs hn hp port opq pn pl hq q hf fg bare sp rst,bC 0 bsc bus bpw bhk bhs bhn bhp bport bopq bpn bpl bhq bq bhf bfg]⟩:=ag.aZ (fun h=>by have e:List.isEmpty (PV.aC PV.bt [.ptr 0 0,aD 1 (.ptr 1 0) sc us pw hk hs hn hp port opq pn pl hq q hf fg bare sp rst,bC 0 bsc bus bpw bhk bhs bhn bhp bport bopq bpn bpl bhq bq bhf bfg])=false:=(by kernel_rfl);exact Bool.noConfusion (e.symm.trans (congrArg List.isEmpty h))) (x4 sc us pw hk hs hn hp port opq pn pl hq q hf fg bare sp rst bsc bus bpw bhk bhs bhn bhp bport bopq bpn bpl bhq bq bhf bfg)
end
section
def mE:cw:=bO []
def mF(sc us pw:Bs)(hk:Int)(hs:Bs)(hn:Int)(hp:List Int)(port:Int)(opq pn:Bool)(pl:List Bs)(hq:Bool)(q:Bs)(hf:Bool)(fg:Bs)(bare sp:Bool)(rst:Bs)(bsc bus bpw:Bs)(bhk:Int)(bhs:Bs)(bhn:Int)(bhp:List Int)(bport:Int)(bopq bpn:Bool)(bpl:List Bs)(bhq:Bool)(bq:Bs)(bhf:Bool)(bfg:Bs):aX:=fun i=>none
theorem o0:cW Tryz.prog az mE:=ax
theorem sa(sc us pw:Bs)(hk:Int)(hs:Bs)(hn:Int)(hp:List Int)(port:Int)(opq pn:Bool)(pl:List Bs)(hq:Bool)(q:Bs)(hf:Bool)(fg:Bs)(bare sp:Bool)(rst:Bs)(bsc bus bpw:Bs)(bhk:Int)(bhs:Bs)(bhn:Int)(bhp:List Int)(bport:Int)(bopq bpn:Bool)(bpl:List Bs)(bhq:Bool)(bq:Bs)(bhf:Bool)(bfg:Bs)(k:PV→List PV→Prop):bL Tryz.prog mE az (mF sc us pw hk hs hn hp port opq pn pl hq q hf fg bare sp rst bsc bus bpw bhk bhs bhn bhp bport bopq bpn bpl bhq bq bhf bfg) 1000 Tryz.f120 [.ptr 0 0] [aD 1 (.ptr 1 0) sc us pw hk hs hn hp port opq pn pl hq q hf fg bare sp rst,bC 0 bsc bus bpw bhk bhs bhn bhp bport bopq bpn bpl bhq bq bhf bfg] k=(
 k (PV.tup []) [bT (PV.ptr (1:Nat) (0:Nat)) 1 sc us pw hk hs hn hp port opq pn pl bhq bq hf fg bare sp rst,bC (0:Nat) bsc bus bpw bhk bhs bhn bhp bport bopq bpn bpl bhq bq bhf bfg]):=by kernel_rfl
attribute [local irreducible] Go.Vc.cG Go.Vc.bL
theorem o1(sc us pw:Bs)(hk:Int)(hs:Bs)(hn:Int)(hp:List Int)(port:Int)(opq pn:Bool)(pl:List Bs)(hq:Bool)(q:Bs)(hf:Bool)(fg:Bs)(bare sp:Bool)(rst:Bs)(bsc bus bpw:Bs)(bhk:Int)(bhs:Bs)(bhn:Int)(bhp:List Int)(bport:Int)(bopq bpn:Bool)(bpl:List Bs)(bhq:Bool)(bq:Bs)(bhf:Bool)(bfg:Bs):bh Tryz.prog az 120 [.ptr 0 0] [aD 1 (.ptr 1 0) sc us pw hk hs hn hp port opq pn pl hq q hf fg bare sp rst,bC 0 bsc bus bpw bhk bhs bhn bhp bport bopq bpn bpl bhq bq bhf bfg] (True) (.tup []) [aD 1 (.ptr 1 0) sc us pw hk hs hn hp port opq pn pl bhq bq hf fg bare sp rst,bC 0 bsc bus bpw bhk bhs bhn bhp bport bopq bpn bpl bhq bq bhf bfg]:=bu (by kernel_rfl) o0 (H:=mF sc us pw hk hs hn hp port opq pn pl hq q hf fg bare sp rst bsc bus bpw bhk bhs bhn bhp bport bopq bpn bpl bhq bq bhf bfg) (fuel:=1000) Tryz.func120 (by kernel_rfl) (Nat.le_of_ble_eq_true rfl) fun hpre=>(sa sc us pw hk hs hn hp port opq pn pl hq q hf fg bare sp rst bsc bus bpw bhk bhs bhn bhp bport bopq bpn bpl bhq bq bhf bfg _).mpr (by
 exact ⟨rfl,rfl⟩)
theorem sb(sc us pw:Bs)(hk:Int)(hs:Bs)(hn:Int)(hp:List Int)(port:Int)(opq pn:Bool)(pl:List Bs)(hq:Bool)(q:Bs)(hf:Bool)(fg:Bs)(bare sp:Bool)(rst:Bs)(bsc bus bpw:Bs)(bhk:Int)(bhs:Bs)(bhn:Int)(bhp:List Int)(bport:Int)(bopq bpn:Bool)(bpl:List Bs)(bhq:Bool)(bq:Bs)(bhf:Bool)(bfg:Bs):ag Tryz.prog az 120 [.ptr 0 0,aD 1 (.ptr 1 0) sc us pw hk hs hn hp port opq pn pl hq q hf fg bare sp rst,bC 0 bsc bus bpw bhk bhs bhn bhp bport bopq bpn bpl bhq bq bhf bfg] ⟨True,.tup [.tup [],aD 1 (.ptr 1 0) sc us pw hk hs hn hp port opq pn pl bhq bq hf fg bare sp rst,bC 0 bsc bus bpw bhk bhs bhn bhp bport bopq bpn bpl bhq bq bhf bfg]⟩:=ag.aZ (fun h=>by have e:List.isEmpty (PV.aC PV.bt [.ptr 0 0,aD 1 (.ptr 1 0) sc us pw hk hs hn hp port opq pn pl hq q hf fg bare sp rst,bC 0 bsc bus bpw bhk bhs bhn bhp bport bopq bpn bpl bhq bq bhf bfg])=false:=(by kernel_rfl);exact Bool.noConfusion (e.symm.trans (congrArg List.isEmpty h))) (o1 sc us pw hk hs hn hp port opq pn pl hq q hf fg bare sp rst bsc bus bpw bhk bhs bhn bhp bport bopq bpn bpl bhq bq bhf bfg)
def gI:List PV→Option aF:=fun xs=>match xs with
 |[.ptr 0 0,aD 1 (.ptr 1 0) sc us pw hk hs hn hp port opq pn pl hq q hf fg bare sp rst,bC 0 bsc bus bpw bhk bhs bhn bhp bport bopq bpn bpl bhq bq bhf bfg]=>some ⟨True,.tup [.tup [],aD 1 (.ptr 1 0) sc us pw hk hs hn hp port opq pn pl bhq bq hf fg bare sp rst,bC 0 bsc bus bpw bhk bhs bhn bhp bport bopq bpn bpl bhq bq bhf bfg]⟩
 |_=>none
theorem mG:∀xs c,gI xs=some c→ag Tryz.prog az 120 xs c:=fun xs c h=>by
 unfold gI at h
 split at h
 ·injection h with h;subst h;exact sb _ _ _ _ _ _ _ _ _ _ _ _ _ _ _ _ _ _ _ _ _ _ _ _ _ _ _ _ _ _ _ _ _
 ·cases h
end
section
def x5:cw:=bO [(120,gI),(89,jZ)]
def x6(sc us pw:Bs)(hk:Int)(hs:Bs)(hn:Int)(hp:List Int)(port:Int)(opq pn:Bool)(pl:List Bs)(hq:Bool)(q:Bs)(hf:Bool)(fg:Bs)(bare sp:Bool)(rst:Bs)(bsc bus bpw:Bs)(bhk:Int)(bhs:Bs)(bhn:Int)(bhp:List Int)(bport:Int)(bopq bpn:Bool)(bpl:List Bs)(bhq:Bool)(bq:Bs)(bhf:Bool)(bfg:Bs):aX:=fun i=>none
theorem x7:cW Tryz.prog az x5:=ai mG (ai ri (ax))
theorem DJ(sc us pw:Bs)(hk:Int)(hs:Bs)(hn:Int)(hp:List Int)(port:Int)(opq pn:Bool)(pl:List Bs)(hq:Bool)(q:Bs)(hf:Bool)(fg:Bs)(bare sp:Bool)(rst:Bs)(bsc bus bpw:Bs)(bhk:Int)(bhs:Bs)(bhn:Int)(bhp:List Int)(bport:Int)(bopq bpn:Bool)(bpl:List Bs)(bhq:Bool)(bq:Bs)(bhf:Bool)(bfg:Bs)(k:PV→List PV→Prop):bL Tryz.prog x5 az (x6 sc us pw hk hs hn hp port opq pn pl hq q hf fg bare sp rst bsc bus bpw bhk bhs bhn bhp bport bopq bpn bpl bhq bq bhf bfg) 1000 Tryz.f86 [.ptr 0 0] [aD 1 (.ptr 1 0) sc us pw hk hs hn hp port opq pn pl hq q hf fg bare sp rst,bC 0 bsc bus bpw bhk bhs bhn bhp bport bopq bpn bpl bhq bq bhf bfg] k=(
 (decide (rst=(ByteArray.mk #[]).data.toList)=false→
 within (0:Int) (ak rst))∧
 ((bif decide (rst=(ByteArray.mk #[]).data.toList)then true else decide (al rst (0:Int)=(35:Int)))=true→
 True∧
 True∧
 k (PV.bool (bQ rst)) [bT (PV.ptr (1:Nat) (0:Nat)) 1 sc us pw hk hs hn hp port opq pn pl bhq bq hf fg bare sp rst,bC (0:Nat) bsc bus bpw bhk bhs bhn bhp bport bopq bpn bpl bhq bq bhf bfg])∧
 ((bif decide (rst=(ByteArray.mk #[]).data.toList)then true else decide (al rst (0:Int)=(35:Int)))=false→
 True∧
 k (PV.bool (bQ rst)) [bT (PV.ptr (1:Nat) (0:Nat)) 1 sc us pw hk hs hn hp port opq pn pl hq q hf fg bare sp rst,bC (0:Nat) bsc bus bpw bhk bhs bhn bhp bport bopq bpn bpl bhq bq bhf bfg])):=by kernel_rfl
attribute [local irreducible] Go.Vc.cG Go.Vc.bL
theorem x8(sc us pw:Bs)(hk:Int)(hs:Bs)(hn:Int)(hp:List Int)(port:Int)(opq pn:Bool)(pl:List Bs)(hq:Bool)(q:Bs)(hf:Bool)(fg:Bs)(bare sp:Bool)(rst:Bs)(bsc bus bpw:Bs)(bhk:Int)(bhs:Bs)(bhn:Int)(bhp:List Int)(bport:Int)(bopq bpn:Bool)(bpl:List Bs)(bhq:Bool)(bq:Bs)(bhf:Bool)(bfg:Bs):bh Tryz.prog az 86 [.ptr 0 0] [aD 1 (.ptr 1 0) sc us pw hk hs hn hp port opq pn pl hq q hf fg bare sp rst,bC 0 bsc bus bpw bhk bhs bhn bhp bport bopq bpn bpl bhq bq bhf bfg] (True) (.bool (bQ rst)) [aD 1 (.ptr 1 0) sc us pw hk hs hn hp port opq pn pl (((RS.mk sc us pw hk hs hn hp port opq pn pl hq q hf fg bare sp rst).qK (RS.mk bsc bus bpw bhk bhs bhn bhp bport bopq bpn bpl bhq bq bhf bfg false false [])).hq) (((RS.mk sc us pw hk hs hn hp port opq pn pl hq q hf fg bare sp rst).qK (RS.mk bsc bus bpw bhk bhs bhn bhp bport bopq bpn bpl bhq bq bhf bfg false false [])).q) hf fg bare sp rst,bC 0 bsc bus bpw bhk bhs bhn bhp bport bopq bpn bpl bhq bq bhf bfg]:=bu (by kernel_rfl) x7 (H:=x6 sc us pw hk hs hn hp port opq pn pl hq q hf fg bare sp rst bsc bus bpw bhk bhs bhn bhp bport bopq bpn bpl bhq bq bhf bfg) (fuel:=1000) Tryz.func86 (by kernel_rfl) (Nat.le_of_ble_eq_true rfl) fun hpre=>(DJ sc us pw hk hs hn hp port opq pn pl hq q hf fg bare sp rst bsc bus bpw bhk bhs bhn bhp bport bopq bpn bpl bhq bq bhf bfg _).mpr (by
 refine ⟨fun h=>?_,fun h=>⟨trivial,trivial,?_⟩,fun h=>⟨trivial,?_⟩⟩
 ·have:¬rst=[]:=of_decide_eq_false h
  have:0<rst.length:=List.length_pos_iff.2 this
  unfold within ak;omega
 ·have h2:tz rst=true:=by
   unfold tz
   cases e:decide (rst=(ByteArray.mk #[]).data.toList)with
   |true=>rfl
   |false=>rw [e]at h;exact h
  have e:(RS.mk sc us pw hk hs hn hp port opq pn pl hq q hf fg bare sp rst).qK (RS.mk bsc bus bpw bhk bhs bhn bhp bport bopq bpn bpl bhq bq bhf bfg false false [])=(RS.mk sc us pw hk hs hn hp port opq pn pl hq q hf fg bare sp rst).FT (RS.mk bsc bus bpw bhk bhs bhn bhp bport bopq bpn bpl bhq bq bhf bfg false false []):=if_pos h2
  rw [e];exact ⟨rfl,rfl⟩
 ·have h2:¬tz rst=true:=by
   unfold tz
   cases e:decide (rst=(ByteArray.mk #[]).data.toList)with
   |true=>rw [e]at h;cases h
   |false=>
    rw [e]at h
    intro g;exact Bool.noConfusion (g.symm.trans h)
  have e:(RS.mk sc us pw hk hs hn hp port opq pn pl hq q hf fg bare sp rst).qK (RS.mk bsc bus bpw bhk bhs bhn bhp bport bopq bpn bpl bhq bq bhf bfg false false [])=(RS.mk sc us pw hk hs hn hp port opq pn pl hq q hf fg bare sp rst):=if_neg h2
  rw [e];exact ⟨rfl,rfl⟩)
theorem DK(sc us pw:Bs)(hk:Int)(hs:Bs)(hn:Int)(hp:List Int)(port:Int)(opq pn:Bool)(pl:List Bs)(hq:Bool)(q:Bs)(hf:Bool)(fg:Bs)(bare sp:Bool)(rst:Bs)(bsc bus bpw:Bs)(bhk:Int)(bhs:Bs)(bhn:Int)(bhp:List Int)(bport:Int)(bopq bpn:Bool)(bpl:List Bs)(bhq:Bool)(bq:Bs)(bhf:Bool)(bfg:Bs):ag Tryz.prog az 86 [.ptr 0 0,aD 1 (.ptr 1 0) sc us pw hk hs hn hp port opq pn pl hq q hf fg bare sp rst,bC 0 bsc bus bpw bhk bhs bhn bhp bport bopq bpn bpl bhq bq bhf bfg] ⟨True,.tup [.bool (bQ rst),aD 1 (.ptr 1 0) sc us pw hk hs hn hp port opq pn pl (((RS.mk sc us pw hk hs hn hp port opq pn pl hq q hf fg bare sp rst).qK (RS.mk bsc bus bpw bhk bhs bhn bhp bport bopq bpn bpl bhq bq bhf bfg false false [])).hq) (((RS.mk sc us pw hk hs hn hp port opq pn pl hq q hf fg bare sp rst).qK (RS.mk bsc bus bpw bhk bhs bhn bhp bport bopq bpn bpl bhq bq bhf bfg false false [])).q) hf fg bare sp rst,bC 0 bsc bus bpw bhk bhs bhn bhp bport bopq bpn bpl bhq bq bhf bfg]⟩:=ag.aZ (fun h=>by have e:List.isEmpty (PV.aC PV.bt [.ptr 0 0,aD 1 (.ptr 1 0) sc us pw hk hs hn hp port opq pn pl hq q hf fg bare sp rst,bC 0 bsc bus bpw bhk bhs bhn bhp bport bopq bpn bpl bhq bq bhf bfg])=false:=(by kernel_rfl);exact Bool.noConfusion (e.symm.trans (congrArg List.isEmpty h))) (x8 sc us pw hk hs hn hp port opq pn pl hq q hf fg bare sp rst bsc bus bpw bhk bhs bhn bhp bport bopq bpn bpl bhq bq bhf bfg)
end
section
attribute [local instance] KL
theorem DL {x:RS}(b:RS)(h:bQ x.rst=false):x.qK b=x:=by
 refine if_neg fun g=>?_
 unfold bQ at h
 unfold tz at g
 rw [Bool.or_eq_false_iff,Bool.or_eq_false_iff]at h
 rw [h.1,h.2.2]at g;cases g
theorem Ap(sc us pw:Bs)(hk:Int)(hs:Bs)(hn:Int)(hp:List Int)(port:Int)(opq pn:Bool)(pl:List Bs)(hq:Bool)(q:Bs)(hf:Bool)(fg:Bs)(bare sp:Bool)(rst:Bs)(at_:Int)(bsc bus bpw:Bs)(bhk:Int)(bhs:Bs)(bhn:Int)(bhp:List Int)(bport:Int)(bopq bpn:Bool)(bpl:List Bs)(bhq:Bool)(bq:Bs)(bhf:Bool)(bfg:Bs):ag Tryz.prog az 82 [.ptr 0 0,.int .i64 at_,aD 1 (.ptr 1 0) sc us pw hk hs hn hp port opq pn pl hq q hf fg bare sp rst,bC 0 bsc bus bpw bhk bhs bhn bhp bport bopq bpn bpl bhq bq bhf bfg] ⟨(0≤at_∧at_<1000)∧aA sp rst at_=false,.tup [.bool false,aD 1 (.ptr 1 0) sc us pw hk hs hn hp port opq pn pl hq q hf fg bare sp rst,bC 0 bsc bus bpw bhk bhs bhn bhp bport bopq bpn bpl bhq bq bhf bfg]⟩:=
 ag.Ln (DF sc us pw hk hs hn hp port opq pn pl hq q hf fg bare sp rst at_ bsc bus bpw bhk bhs bhn bhp bport bopq bpn bpl bhq bq bhf bfg) (fun h=>by have e:List.isEmpty (PV.aC PV.bt [.ptr 0 0,.int .i64 at_,aD 1 (.ptr 1 0) sc us pw hk hs hn hp port opq pn pl hq q hf fg bare sp rst,bC 0 bsc bus bpw bhk bhs bhn bhp bport bopq bpn bpl bhq bq bhf bfg])=false:=(by kernel_rfl);exact Bool.noConfusion (e.symm.trans (congrArg List.isEmpty h))) (fun h=>h.1) (fun h=>by rw [h.2])
def j0:List PV→Option aF:=fun xs=>match xs with
 |[.ptr 0 0,.int .i64 at_,aD 1 (.ptr 1 0) sc us pw hk hs hn hp port opq pn pl hq q hf fg bare sp rst,bC 0 bsc bus bpw bhk bhs bhn bhp bport bopq bpn bpl bhq bq bhf bfg]=>some ⟨(0≤at_∧at_<1000)∧aA sp rst at_=false,.tup [.bool false,aD 1 (.ptr 1 0) sc us pw hk hs hn hp port opq pn pl hq q hf fg bare sp rst,bC 0 bsc bus bpw bhk bhs bhn bhp bport bopq bpn bpl bhq bq bhf bfg]⟩
 |_=>none
theorem rj:∀xs c,j0 xs=some c→ag Tryz.prog az 82 xs c:=fun xs c h=>by
 unfold j0 at h
 split at h
 ·injection h with h;subst h;exact Ap _ _ _ _ _ _ _ _ _ _ _ _ _ _ _ _ _ _ _ _ _ _ _ _ _ _ _ _ _ _ _ _ _ _
 ·cases h
theorem rk(sc us pw:Bs)(hk:Int)(hs:Bs)(hn:Int)(hp:List Int)(port:Int)(opq pn:Bool)(pl:List Bs)(hq:Bool)(q:Bs)(hf:Bool)(fg:Bs)(bare sp:Bool)(rst:Bs)(bsc bus bpw:Bs)(bhk:Int)(bhs:Bs)(bhn:Int)(bhp:List Int)(bport:Int)(bopq bpn:Bool)(bpl:List Bs)(bhq:Bool)(bq:Bs)(bhf:Bool)(bfg:Bs):ag Tryz.prog az 84 [.ptr 0 0,aD 1 (.ptr 1 0) sc us pw hk hs hn hp port opq pn pl hq q hf fg bare sp rst,bC 0 bsc bus bpw bhk bhs bhn bhp bport bopq bpn bpl bhq bq bhf bfg] ⟨aA sp rst 0=false,.tup [.bool false,aD 1 (.ptr 1 0) sc us pw hk hs hn hp port opq pn pl hq q hf fg bare sp rst,bC 0 bsc bus bpw bhk bhs bhn bhp bport bopq bpn bpl bhq bq bhf bfg]⟩:=
 ag.Ln (r8 sc us pw hk hs hn hp port opq pn pl hq q hf fg bare sp rst bsc bus bpw bhk bhs bhn bhp bport bopq bpn bpl bhq bq bhf bfg) (fun h=>by have e:List.isEmpty (PV.aC PV.bt [.ptr 0 0,aD 1 (.ptr 1 0) sc us pw hk hs hn hp port opq pn pl hq q hf fg bare sp rst,bC 0 bsc bus bpw bhk bhs bhn bhp bport bopq bpn bpl bhq bq bhf bfg])=false:=(by kernel_rfl);exact Bool.noConfusion (e.symm.trans (congrArg List.isEmpty h))) (fun h=>trivial) (fun h=>by rw [h];rfl)
def fX:List PV→Option aF:=fun xs=>match xs with
 |[.ptr 0 0,aD 1 (.ptr 1 0) sc us pw hk hs hn hp port opq pn pl hq q hf fg bare sp rst,bC 0 bsc bus bpw bhk bhs bhn bhp bport bopq bpn bpl bhq bq bhf bfg]=>some ⟨aA sp rst 0=false,.tup [.bool false,aD 1 (.ptr 1 0) sc us pw hk hs hn hp port opq pn pl hq q hf fg bare sp rst,bC 0 bsc bus bpw bhk bhs bhn bhp bport bopq bpn bpl bhq bq bhf bfg]⟩
 |_=>none
theorem lB:∀xs c,fX xs=some c→ag Tryz.prog az 84 xs c:=fun xs c h=>by
 unfold fX at h
 split at h
 ·injection h with h;subst h;exact rk _ _ _ _ _ _ _ _ _ _ _ _ _ _ _ _ _ _ _ _ _ _ _ _ _ _ _ _ _ _ _ _ _
 ·cases h
theorem Aq(sc us pw:Bs)(hk:Int)(hs:Bs)(hn:Int)(hp:List Int)(port:Int)(opq pn:Bool)(pl:List Bs)(hq:Bool)(q:Bs)(hf:Bool)(fg:Bs)(bare sp:Bool)(rst:Bs)(bsc bus bpw:Bs)(bhk:Int)(bhs:Bs)(bhn:Int)(bhp:List Int)(bport:Int)(bopq bpn:Bool)(bpl:List Bs)(bhq:Bool)(bq:Bs)(bhf:Bool)(bfg:Bs):ag Tryz.prog az 77 [.ptr 0 0,aD 1 (.ptr 1 0) sc us pw hk hs hn hp port opq pn pl hq q hf fg bare sp rst,bC 0 bsc bus bpw bhk bhs bhn bhp bport bopq bpn bpl bhq bq bhf bfg] ⟨bsc=sc,.tup [.bool true,aD 1 (.ptr 1 0) sc us pw hk hs hn hp port opq pn pl hq q hf fg bare sp rst,bC 0 bsc bus bpw bhk bhs bhn bhp bport bopq bpn bpl bhq bq bhf bfg]⟩:=
 ag.Ln (DI sc us pw hk hs hn hp port opq pn pl hq q hf fg bare sp rst bsc bus bpw bhk bhs bhn bhp bport bopq bpn bpl bhq bq bhf bfg) (fun h=>by have e:List.isEmpty (PV.aC PV.bt [.ptr 0 0,aD 1 (.ptr 1 0) sc us pw hk hs hn hp port opq pn pl hq q hf fg bare sp rst,bC 0 bsc bus bpw bhk bhs bhn bhp bport bopq bpn bpl bhq bq bhf bfg])=false:=(by kernel_rfl);exact Bool.noConfusion (e.symm.trans (congrArg List.isEmpty h))) (fun h=>trivial) (fun h=>by rw [decide_eq_true h])
def gU:List PV→Option aF:=fun xs=>match xs with
 |[.ptr 0 0,aD 1 (.ptr 1 0) sc us pw hk hs hn hp port opq pn pl hq q hf fg bare sp rst,bC 0 bsc bus bpw bhk bhs bhn bhp bport bopq bpn bpl bhq bq bhf bfg]=>some ⟨bsc=sc,.tup [.bool true,aD 1 (.ptr 1 0) sc us pw hk hs hn hp port opq pn pl hq q hf fg bare sp rst,bC 0 bsc bus bpw bhk bhs bhn bhp bport bopq bpn bpl bhq bq bhf bfg]⟩
 |_=>none
theorem j3:∀xs c,gU xs=some c→ag Tryz.prog az 77 xs c:=fun xs c h=>by
 unfold gU at h
 split at h
 ·injection h with h;subst h;exact Aq _ _ _ _ _ _ _ _ _ _ _ _ _ _ _ _ _ _ _ _ _ _ _ _ _ _ _ _ _ _ _ _ _
 ·cases h
theorem DM(sc us pw:Bs)(hk:Int)(hs:Bs)(hn:Int)(hp:List Int)(port:Int)(opq pn:Bool)(pl:List Bs)(hq:Bool)(q:Bs)(hf:Bool)(fg:Bs)(bare sp:Bool)(rst:Bs)(bsc bus bpw:Bs)(bhk:Int)(bhs:Bs)(bhn:Int)(bhp:List Int)(bport:Int)(bopq bpn:Bool)(bpl:List Bs)(bhq:Bool)(bq:Bs)(bhf:Bool)(bfg:Bs):ag Tryz.prog az 86 [.ptr 0 0,aD 1 (.ptr 1 0) sc us pw hk hs hn hp port opq pn pl hq q hf fg bare sp rst,bC 0 bsc bus bpw bhk bhs bhn bhp bport bopq bpn bpl bhq bq bhf bfg] ⟨bQ rst=false,.tup [.bool false,aD 1 (.ptr 1 0) sc us pw hk hs hn hp port opq pn pl hq q hf fg bare sp rst,bC 0 bsc bus bpw bhk bhs bhn bhp bport bopq bpn bpl bhq bq bhf bfg]⟩:=
 ag.Ln (DK sc us pw hk hs hn hp port opq pn pl hq q hf fg bare sp rst bsc bus bpw bhk bhs bhn bhp bport bopq bpn bpl bhq bq bhf bfg) (fun h=>by have e:List.isEmpty (PV.aC PV.bt [.ptr 0 0,aD 1 (.ptr 1 0) sc us pw hk hs hn hp port opq pn pl hq q hf fg bare sp rst,bC 0 bsc bus bpw bhk bhs bhn bhp bport bopq bpn bpl bhq bq bhf bfg])=false:=(by kernel_rfl);exact Bool.noConfusion (e.symm.trans (congrArg List.isEmpty h))) (fun h=>trivial) (fun h=>by rw [DL (x:=(RS.mk sc us pw hk hs hn hp port opq pn pl hq q hf fg bare sp rst)) (RS.mk bsc bus bpw bhk bhs bhn bhp bport bopq bpn bpl bhq bq bhf bfg false false []) h,h])
def lC:List PV→Option aF:=fun xs=>match xs with
 |[.ptr 0 0,aD 1 (.ptr 1 0) sc us pw hk hs hn hp port opq pn pl hq q hf fg bare sp rst,bC 0 bsc bus bpw bhk bhs bhn bhp bport bopq bpn bpl bhq bq bhf bfg]=>some ⟨bQ rst=false,.tup [.bool false,aD 1 (.ptr 1 0) sc us pw hk hs hn hp port opq pn pl hq q hf fg bare sp rst,bC 0 bsc bus bpw bhk bhs bhn bhp bport bopq bpn bpl bhq bq bhf bfg]⟩
 |_=>none
theorem sd:∀xs c,lC xs=some c→ag Tryz.prog az 86 xs c:=fun xs c h=>by
 unfold lC at h
 split at h
 ·injection h with h;subst h;exact DM _ _ _ _ _ _ _ _ _ _ _ _ _ _ _ _ _ _ _ _ _ _ _ _ _ _ _ _ _ _ _ _ _
 ·cases h
end
section
def tM:cw:=bO [(156,u9),(87,jk)]
def tN(sc us pw:Bs)(hk:Int)(hs:Bs)(hn:Int)(hp:List Int)(port:Int)(opq pn:Bool)(pl:List Bs)(hq:Bool)(q:Bs)(hf:Bool)(fg:Bs)(bare sp:Bool)(rst:Bs)(bsc bus bpw:Bs)(bhk:Int)(bhs:Bs)(bhn:Int)(bhp:List Int)(bport:Int)(bopq bpn:Bool)(bpl:List Bs)(bhq:Bool)(bq:Bs)(bhf:Bool)(bfg:Bs):aX:=fun i=>none
theorem vy:cW Tryz.prog az tM:=ai zX (ai oZ (ax))
theorem Ar(sc us pw:Bs)(hk:Int)(hs:Bs)(hn:Int)(hp:List Int)(port:Int)(opq pn:Bool)(pl:List Bs)(hq:Bool)(q:Bs)(hf:Bool)(fg:Bs)(bare sp:Bool)(rst:Bs)(bsc bus bpw:Bs)(bhk:Int)(bhs:Bs)(bhn:Int)(bhp:List Int)(bport:Int)(bopq bpn:Bool)(bpl:List Bs)(bhq:Bool)(bq:Bs)(bhf:Bool)(bfg:Bs)(k:PV→List PV→Prop):bL Tryz.prog tM az (tN sc us pw hk hs hn hp port opq pn pl hq q hf fg bare sp rst bsc bus bpw bhk bhs bhn bhp bport bopq bpn bpl bhq bq bhf bfg) 1000 Tryz.f122 [.ptr 0 0] [aD 1 (.ptr 1 0) sc us pw hk hs hn hp port opq pn pl hq q hf fg bare sp rst,bC 0 bsc bus bpw bhk bhs bhn bhp bport bopq bpn bpl bhq bq bhf bfg] k=(
 (List.length rst).le (1000000:Nat)∧
 (bo rst=true→
 k (PV.tup []) [bT (PV.ptr (1:Nat) (0:Nat)) 0 sc us pw hk hs hn hp port opq true ([]) hq q hf fg bare sp rst,bC (0:Nat) bsc bus bpw bhk bhs bhn bhp bport bopq bpn bpl bhq bq bhf bfg])∧
 (bo rst=false→
 pl.length.le (1000000:Nat)∧
 k (PV.tup []) [bT (PV.ptr (1:Nat) (0:Nat)) 1 sc us pw hk hs hn hp port opq ((bN sc (pn,pl)).1) ((bN sc (pn,pl)).2) hq q hf fg bare sp rst,bC (0:Nat) bsc bus bpw bhk bhs bhn bhp bport bopq bpn bpl bhq bq bhf bfg])):=by kernel_rfl
attribute [local irreducible] Go.Vc.cG Go.Vc.bL
theorem vz(sc us pw:Bs)(hk:Int)(hs:Bs)(hn:Int)(hp:List Int)(port:Int)(opq pn:Bool)(pl:List Bs)(hq:Bool)(q:Bs)(hf:Bool)(fg:Bs)(bare sp:Bool)(rst:Bs)(bsc bus bpw:Bs)(bhk:Int)(bhs:Bs)(bhn:Int)(bhp:List Int)(bport:Int)(bopq bpn:Bool)(bpl:List Bs)(bhq:Bool)(bq:Bs)(bhf:Bool)(bfg:Bs):bh Tryz.prog az 122 [.ptr 0 0] [aD 1 (.ptr 1 0) sc us pw hk hs hn hp port opq pn pl hq q hf fg bare sp rst,bC 0 bsc bus bpw bhk bhs bhn bhp bport bopq bpn bpl bhq bq bhf bfg] (rst.length≤300000∧pl.length≤1000000∧bo rst=false) (.tup []) [aD 1 (.ptr 1 0) sc us pw hk hs hn hp port opq (((RS.mk sc us pw hk hs hn hp port opq pn pl hq q hf fg bare sp rst).short).pn) (((RS.mk sc us pw hk hs hn hp port opq pn pl hq q hf fg bare sp rst).short).pl) hq q hf fg bare sp rst,bC 0 bsc bus bpw bhk bhs bhn bhp bport bopq bpn bpl bhq bq bhf bfg]:=bu (by kernel_rfl) vy (H:=tN sc us pw hk hs hn hp port opq pn pl hq q hf fg bare sp rst bsc bus bpw bhk bhs bhn bhp bport bopq bpn bpl bhq bq bhf bfg) (fuel:=1000) Tryz.func122 (by kernel_rfl) (Nat.le_of_ble_eq_true rfl) fun hpre=>(Ar sc us pw hk hs hn hp port opq pn pl hq q hf fg bare sp rst bsc bus bpw bhk bhs bhn bhp bport bopq bpn bpl bhq bq bhf bfg _).mpr (by
 obtain ⟨h1,h2,h3⟩:=hpre
 exact ⟨show rst.length≤1000000 by omega,fun h=>absurd (h.symm.trans h3) nofun,fun _=>⟨h2,rfl,rfl⟩⟩)
theorem As(sc us pw:Bs)(hk:Int)(hs:Bs)(hn:Int)(hp:List Int)(port:Int)(opq pn:Bool)(pl:List Bs)(hq:Bool)(q:Bs)(hf:Bool)(fg:Bs)(bare sp:Bool)(rst:Bs)(bsc bus bpw:Bs)(bhk:Int)(bhs:Bs)(bhn:Int)(bhp:List Int)(bport:Int)(bopq bpn:Bool)(bpl:List Bs)(bhq:Bool)(bq:Bs)(bhf:Bool)(bfg:Bs):ag Tryz.prog az 122 [.ptr 0 0,aD 1 (.ptr 1 0) sc us pw hk hs hn hp port opq pn pl hq q hf fg bare sp rst,bC 0 bsc bus bpw bhk bhs bhn bhp bport bopq bpn bpl bhq bq bhf bfg] ⟨rst.length≤300000∧pl.length≤1000000∧bo rst=false,.tup [.tup [],aD 1 (.ptr 1 0) sc us pw hk hs hn hp port opq (((RS.mk sc us pw hk hs hn hp port opq pn pl hq q hf fg bare sp rst).short).pn) (((RS.mk sc us pw hk hs hn hp port opq pn pl hq q hf fg bare sp rst).short).pl) hq q hf fg bare sp rst,bC 0 bsc bus bpw bhk bhs bhn bhp bport bopq bpn bpl bhq bq bhf bfg]⟩:=ag.aZ (fun h=>by have e:List.isEmpty (PV.aC PV.bt [.ptr 0 0,aD 1 (.ptr 1 0) sc us pw hk hs hn hp port opq pn pl hq q hf fg bare sp rst,bC 0 bsc bus bpw bhk bhs bhn bhp bport bopq bpn bpl bhq bq bhf bfg])=false:=(by kernel_rfl);exact Bool.noConfusion (e.symm.trans (congrArg List.isEmpty h))) (vz sc us pw hk hs hn hp port opq pn pl hq q hf fg bare sp rst bsc bus bpw bhk bhs bhn bhp bport bopq bpn bpl bhq bq bhf bfg)
def j4:List PV→Option aF:=fun xs=>match xs with
 |[.ptr 0 0,aD 1 (.ptr 1 0) sc us pw hk hs hn hp port opq pn pl hq q hf fg bare sp rst,bC 0 bsc bus bpw bhk bhs bhn bhp bport bopq bpn bpl bhq bq bhf bfg]=>some ⟨rst.length≤300000∧pl.length≤1000000∧bo rst=false,.tup [.tup [],aD 1 (.ptr 1 0) sc us pw hk hs hn hp port opq (((RS.mk sc us pw hk hs hn hp port opq pn pl hq q hf fg bare sp rst).short).pn) (((RS.mk sc us pw hk hs hn hp port opq pn pl hq q hf fg bare sp rst).short).pl) hq q hf fg bare sp rst,bC 0 bsc bus bpw bhk bhs bhn bhp bport bopq bpn bpl bhq bq bhf bfg]⟩
 |_=>none
theorem rl:∀xs c,j4 xs=some c→ag Tryz.prog az 122 xs c:=fun xs c h=>by
 unfold j4 at h
 split at h
 ·injection h with h;subst h;exact As _ _ _ _ _ _ _ _ _ _ _ _ _ _ _ _ _ _ _ _ _ _ _ _ _ _ _ _ _ _ _ _ _
 ·cases h
end
section
def tO:cw:=bO [(119,qJ),(27,dP)]
def tP(sc us pw:Bs)(hk:Int)(hs:Bs)(hn:Int)(hp:List Int)(port:Int)(opq pn:Bool)(pl:List Bs)(hq:Bool)(q:Bs)(hf:Bool)(fg:Bs)(bare sp:Bool)(rst:Bs):aX:=fun i=>none
theorem vA:cW Tryz.prog az tO:=ai xE (ai dQ (ax))
theorem Au(sc us pw:Bs)(hk:Int)(hs:Bs)(hn:Int)(hp:List Int)(port:Int)(opq pn:Bool)(pl:List Bs)(hq:Bool)(q:Bs)(hf:Bool)(fg:Bs)(bare sp:Bool)(rst:Bs)(k:PV→List PV→Prop):bL Tryz.prog tO az (tP sc us pw hk hs hn hp port opq pn pl hq q hf fg bare sp rst) 1000 Tryz.f75 [.ptr 0 0] [aD 1 (.raw (.pointer none)) sc us pw hk hs hn hp port opq pn pl hq q hf fg bare sp rst] k=(
 (List.length rst≤(300000:Nat)∧
 (ab rst rst (0:Nat)).2.2=true)∧
 (true=true→
 True∧
 ((!true)=true→
 False)∧
 ((!true)=true→
 False)∧
 ((!true)=true→
 False)∧
 (false=true→
 False)∧
 (false=false→
 k (PV.int .i64 (0:Int)) [bT (PV.raw (Go.Value.pointer none)) 1 ((ab rst rst (0:Nat)).1) us pw hk hs hn hp port opq pn pl hq q hf fg (!true) (aw (ab rst rst (0:Nat)).1) ((ab rst rst (0:Nat)).2.1)]))∧
 (true=false→
 (true=true→
 (true=true→
 k (PV.int .i64 (8:Int)) [bT (PV.raw (Go.Value.pointer none)) 1 sc us pw hk hs hn hp port opq pn pl hq q hf fg bare sp rst])∧
 (true=false→
 False))∧
 (true=false→
 False))):=by kernel_rfl
attribute [local irreducible] Go.Vc.cG Go.Vc.bL
theorem vB(sc us pw:Bs)(hk:Int)(hs:Bs)(hn:Int)(hp:List Int)(port:Int)(opq pn:Bool)(pl:List Bs)(hq:Bool)(q:Bs)(hf:Bool)(fg:Bs)(bare sp:Bool)(rst:Bs):bh Tryz.prog az 75 [.ptr 0 0] [aD 1 (.raw (.pointer none)) sc us pw hk hs hn hp port opq pn pl hq q hf fg bare sp rst] (rst.length≤300000∧(ab rst rst 0).2.2=true) (.int .i64 0) [aD 1 (.raw (.pointer none)) ((ab rst rst 0).1) us pw hk hs hn hp port opq pn pl hq q hf fg false (aw (ab rst rst 0).1) ((ab rst rst 0).2.1)]:=bu (by kernel_rfl) vA (H:=tP sc us pw hk hs hn hp port opq pn pl hq q hf fg bare sp rst) (fuel:=1000) Tryz.func75 (by kernel_rfl) (Nat.le_of_ble_eq_true rfl) fun hpre=>(Au sc us pw hk hs hn hp port opq pn pl hq q hf fg bare sp rst _).mpr (by
 exact ⟨hpre,fun _=>⟨trivial,fun h=>(by cases h),fun h=>(by cases h),fun h=>(by cases h),fun h=>(by cases h),fun _=>⟨rfl,rfl⟩⟩,fun h=>(by cases h)⟩)
theorem Av(sc us pw:Bs)(hk:Int)(hs:Bs)(hn:Int)(hp:List Int)(port:Int)(opq pn:Bool)(pl:List Bs)(hq:Bool)(q:Bs)(hf:Bool)(fg:Bs)(bare sp:Bool)(rst:Bs):ag Tryz.prog az 75 [.ptr 0 0,aD 1 (.raw (.pointer none)) sc us pw hk hs hn hp port opq pn pl hq q hf fg bare sp rst] ⟨rst.length≤300000∧(ab rst rst 0).2.2=true,.tup [.int .i64 0,aD 1 (.raw (.pointer none)) ((ab rst rst 0).1) us pw hk hs hn hp port opq pn pl hq q hf fg false (aw (ab rst rst 0).1) ((ab rst rst 0).2.1)]⟩:=ag.aZ (fun h=>by have e:List.isEmpty (PV.aC PV.bt [.ptr 0 0,aD 1 (.raw (.pointer none)) sc us pw hk hs hn hp port opq pn pl hq q hf fg bare sp rst])=false:=(by kernel_rfl);exact Bool.noConfusion (e.symm.trans (congrArg List.isEmpty h))) (vB sc us pw hk hs hn hp port opq pn pl hq q hf fg bare sp rst)
def j5:List PV→Option aF:=fun xs=>match xs with
 |[.ptr 0 0,aD 1 (.raw (.pointer none)) sc us pw hk hs hn hp port opq pn pl hq q hf fg bare sp rst]=>some ⟨rst.length≤300000∧(ab rst rst 0).2.2=true,.tup [.int .i64 0,aD 1 (.raw (.pointer none)) ((ab rst rst 0).1) us pw hk hs hn hp port opq pn pl hq q hf fg false (aw (ab rst rst 0).1) ((ab rst rst 0).2.1)]⟩
 |_=>none
theorem rm:∀xs c,j5 xs=some c→ag Tryz.prog az 75 xs c:=fun xs c h=>by
 unfold j5 at h
 split at h
 ·injection h with h;subst h;exact Av _ _ _ _ _ _ _ _ _ _ _ _ _ _ _ _ _ _
 ·cases h
end
section
def BO:cw:=bO []
def BP(sc us pw:Bs)(hk:Int)(hs:Bs)(hn:Int)(hp:List Int)(port:Int)(opq pn:Bool)(pl:List Bs)(hq:Bool)(q:Bs)(hf:Bool)(fg:Bs)(bare sp:Bool)(rst:Bs):aX:=fun i=>none
theorem Aw:cW Tryz.prog az BO:=ax
theorem Gw(sc us pw:Bs)(hk:Int)(hs:Bs)(hn:Int)(hp:List Int)(port:Int)(opq pn:Bool)(pl:List Bs)(hq:Bool)(q:Bs)(hf:Bool)(fg:Bs)(bare sp:Bool)(rst:Bs)(k:PV→List PV→Prop):bL Tryz.prog BO az (BP sc us pw hk hs hn hp port opq pn pl hq q hf fg bare sp rst) 1000 Tryz.f77 [.ptr 0 0] [aD 1 (.raw (.pointer none)) sc us pw hk hs hn hp port opq pn pl hq q hf fg bare sp rst] k=(
 (false=true→
 False)∧
 (false=true→
 False)∧
 (false=true→
 False)∧
 (false=true→
 False)∧
 k (PV.bool false) [bT (PV.raw (Go.Value.pointer none)) 1 sc us pw hk hs hn hp port opq pn pl hq q hf fg bare sp rst]):=by kernel_rfl
attribute [local irreducible] Go.Vc.cG Go.Vc.bL
theorem Ax(sc us pw:Bs)(hk:Int)(hs:Bs)(hn:Int)(hp:List Int)(port:Int)(opq pn:Bool)(pl:List Bs)(hq:Bool)(q:Bs)(hf:Bool)(fg:Bs)(bare sp:Bool)(rst:Bs):bh Tryz.prog az 77 [.ptr 0 0] [aD 1 (.raw (.pointer none)) sc us pw hk hs hn hp port opq pn pl hq q hf fg bare sp rst] (True) (.bool false) [aD 1 (.raw (.pointer none)) sc us pw hk hs hn hp port opq pn pl hq q hf fg bare sp rst]:=bu (by kernel_rfl) Aw (H:=BP sc us pw hk hs hn hp port opq pn pl hq q hf fg bare sp rst) (fuel:=1000) Tryz.func77 (by kernel_rfl) (Nat.le_of_ble_eq_true rfl) fun hpre=>(Gw sc us pw hk hs hn hp port opq pn pl hq q hf fg bare sp rst _).mpr (by
 exact ⟨nofun,nofun,nofun,nofun,rfl,rfl⟩)
theorem Gy(sc us pw:Bs)(hk:Int)(hs:Bs)(hn:Int)(hp:List Int)(port:Int)(opq pn:Bool)(pl:List Bs)(hq:Bool)(q:Bs)(hf:Bool)(fg:Bs)(bare sp:Bool)(rst:Bs):ag Tryz.prog az 77 [.ptr 0 0,aD 1 (.raw (.pointer none)) sc us pw hk hs hn hp port opq pn pl hq q hf fg bare sp rst] ⟨True,.tup [.bool false,aD 1 (.raw (.pointer none)) sc us pw hk hs hn hp port opq pn pl hq q hf fg bare sp rst]⟩:=ag.aZ (fun h=>by have e:List.isEmpty (PV.aC PV.bt [.ptr 0 0,aD 1 (.raw (.pointer none)) sc us pw hk hs hn hp port opq pn pl hq q hf fg bare sp rst])=false:=(by kernel_rfl);exact Bool.noConfusion (e.symm.trans (congrArg List.isEmpty h))) (Ax sc us pw hk hs hn hp port opq pn pl hq q hf fg bare sp rst)
def gu:List PV→Option aF:=fun xs=>match xs with
 |[.ptr 0 0,aD 1 (.raw (.pointer none)) sc us pw hk hs hn hp port opq pn pl hq q hf fg bare sp rst]=>some ⟨True,.tup [.bool false,aD 1 (.raw (.pointer none)) sc us pw hk hs hn hp port opq pn pl hq q hf fg bare sp rst]⟩
 |_=>none
theorem gj:∀xs c,gu xs=some c→ag Tryz.prog az 77 xs c:=fun xs c h=>by
 unfold gu at h
 split at h
 ·injection h with h;subst h;exact Gy _ _ _ _ _ _ _ _ _ _ _ _ _ _ _ _ _ _
 ·cases h
end
section
def mH:cw:=bO [(77,gu)]
def mI(sc us pw:Bs)(hk:Int)(hs:Bs)(hn:Int)(hp:List Int)(port:Int)(opq pn:Bool)(pl:List Bs)(hq:Bool)(q:Bs)(hf:Bool)(fg:Bs)(bare sp:Bool)(rst:Bs):aX:=fun i=>none
theorem o3:cW Tryz.prog az mH:=ai gj (ax)
theorem se(sc us pw:Bs)(hk:Int)(hs:Bs)(hn:Int)(hp:List Int)(port:Int)(opq pn:Bool)(pl:List Bs)(hq:Bool)(q:Bs)(hf:Bool)(fg:Bs)(bare sp:Bool)(rst:Bs)(k:PV→List PV→Prop):bL Tryz.prog mH az (mI sc us pw hk hs hn hp port opq pn pl hq q hf fg bare sp rst) 1000 Tryz.f121 [.ptr 0 0] [aD 1 (.raw (.pointer none)) sc us pw hk hs hn hp port opq pn pl hq q hf fg bare sp rst] k=(
 True∧
 ((!false)=true→
 k (PV.tup []) [bT (PV.raw (Go.Value.pointer none)) 1 sc us pw hk hs hn hp port opq pn pl hq q hf fg bare sp rst])∧
 ((!false)=false→
 False)):=by kernel_rfl
attribute [local irreducible] Go.Vc.cG Go.Vc.bL
theorem o4(sc us pw:Bs)(hk:Int)(hs:Bs)(hn:Int)(hp:List Int)(port:Int)(opq pn:Bool)(pl:List Bs)(hq:Bool)(q:Bs)(hf:Bool)(fg:Bs)(bare sp:Bool)(rst:Bs):bh Tryz.prog az 121 [.ptr 0 0] [aD 1 (.raw (.pointer none)) sc us pw hk hs hn hp port opq pn pl hq q hf fg bare sp rst] (True) (.tup []) [aD 1 (.raw (.pointer none)) sc us pw hk hs hn hp port opq pn pl hq q hf fg bare sp rst]:=bu (by kernel_rfl) o3 (H:=mI sc us pw hk hs hn hp port opq pn pl hq q hf fg bare sp rst) (fuel:=1000) Tryz.func121 (by kernel_rfl) (Nat.le_of_ble_eq_true rfl) fun hpre=>(se sc us pw hk hs hn hp port opq pn pl hq q hf fg bare sp rst _).mpr (by
 exact ⟨trivial,fun _=>⟨rfl,rfl⟩,fun h=>(by cases h)⟩)
theorem sf(sc us pw:Bs)(hk:Int)(hs:Bs)(hn:Int)(hp:List Int)(port:Int)(opq pn:Bool)(pl:List Bs)(hq:Bool)(q:Bs)(hf:Bool)(fg:Bs)(bare sp:Bool)(rst:Bs):ag Tryz.prog az 121 [.ptr 0 0,aD 1 (.raw (.pointer none)) sc us pw hk hs hn hp port opq pn pl hq q hf fg bare sp rst] ⟨True,.tup [.tup [],aD 1 (.raw (.pointer none)) sc us pw hk hs hn hp port opq pn pl hq q hf fg bare sp rst]⟩:=ag.aZ (fun h=>by have e:List.isEmpty (PV.aC PV.bt [.ptr 0 0,aD 1 (.raw (.pointer none)) sc us pw hk hs hn hp port opq pn pl hq q hf fg bare sp rst])=false:=(by kernel_rfl);exact Bool.noConfusion (e.symm.trans (congrArg List.isEmpty h))) (o4 sc us pw hk hs hn hp port opq pn pl hq q hf fg bare sp rst)
def gJ:List PV→Option aF:=fun xs=>match xs with
 |[.ptr 0 0,aD 1 (.raw (.pointer none)) sc us pw hk hs hn hp port opq pn pl hq q hf fg bare sp rst]=>some ⟨True,.tup [.tup [],aD 1 (.raw (.pointer none)) sc us pw hk hs hn hp port opq pn pl hq q hf fg bare sp rst]⟩
 |_=>none
theorem mJ:∀xs c,gJ xs=some c→ag Tryz.prog az 121 xs c:=fun xs c h=>by
 unfold gJ at h
 split at h
 ·injection h with h;subst h;exact sf _ _ _ _ _ _ _ _ _ _ _ _ _ _ _ _ _ _
 ·cases h
end
section
theorem ey(r:RS):r.av.1={r with hk:=r.av.1.hk,hs:=r.av.1.hs,hn:=r.av.1.hn,hp:=r.av.1.hp,rst:=aa r.rst (ah r.sp r.rst)}:=by
 unfold RS.av
 dsimp only
 split
 ·rfl
 ·split<;>rfl
theorem mK(sp:Bool)(l:Bs):List.length (if aA sp l (0:Int)=true then aa l (1:Int)else l)≤l.length:=by
 split
 ·exact cR l 1
 ·exact Nat.le_refl _
def BQ:cw:=bO [(82,gr),(84,fw),(121,gJ),(77,gu),(124,fO),(123,mA),(125,ji),(90,mC)]
def BR(sc us pw:Bs)(hk:Int)(hs:Bs)(hn:Int)(hp:List Int)(port:Int)(opq pn:Bool)(pl:List Bs)(hq:Bool)(q:Bs)(hf:Bool)(fg:Bs)(bare sp:Bool)(rst:Bs):aX:=fun i=>none
theorem Ay:cW Tryz.prog az BQ:=ai gi (ai iK (ai mJ (ai gj (ai gG (ai lx (ai oX (ai oN (ax))))))))
theorem Gz(sc us pw:Bs)(hk:Int)(hs:Bs)(hn:Int)(hp:List Int)(port:Int)(opq pn:Bool)(pl:List Bs)(hq:Bool)(q:Bs)(hf:Bool)(fg:Bs)(bare sp:Bool)(rst:Bs)(k:PV→List PV→Prop):bL Tryz.prog BQ az (BR sc us pw hk hs hn hp port opq pn pl hq q hf fg bare sp rst) 1000 Tryz.f76 [.ptr 0 0] [aD 1 (.raw (.pointer none)) sc us pw hk hs hn hp port opq pn pl hq q hf fg bare sp rst] k=(
 ((0:Int)≤(0:Int)∧
 (0:Int)<(1000:Int))∧
 (aA sp rst (0:Int)=true→
 ((0:Int)≤(1:Int)∧
 (1:Int)<(1000:Int))∧
 (aA sp rst (1:Int)=true→
 upto (2:Int) (ak rst) (ak rst)∧
 ((aa rst (2:Int)).length.le (300000:Nat)∧
 upto (0:Int) (↑(ah sp (aa rst (2:Int)))) (ak (aa rst (2:Int)))∧
 True∧
 (bM (ae (aa rst (2:Int)) ↑(ah sp (aa rst (2:Int))))=true→
 ((aa rst (2:Int)).length≤(300000:Nat)∧
 pl.length≤(100000:Nat))∧
 k (PV.int .i64 (0:Int)) [bT (PV.raw (Go.Value.pointer none)) 1 sc us pw (1:Int) hs hn hp port opq ((br sp sc (ae (aa rst (2:Int)) ↑(aE (aa rst (2:Int)))) (pn,pl)).1) ((br sp sc (ae (aa rst (2:Int)) ↑(aE (aa rst (2:Int)))) (pn,pl)).2) hq q hf fg bare sp (aa (aa rst (2:Int)) ↑(aE (aa rst (2:Int))))])∧
 (bM (ae (aa rst (2:Int)) ↑(ah sp (aa rst (2:Int))))=false→
 (aa rst (2:Int)).length.le (300000:Nat)∧
 ((!decide ((RS.mk sc us pw (1:Int) hs hn hp port opq pn pl hq q hf fg bare sp (aa rst (2:Int))).av.2=(0:Int)))=true→
 k (PV.int .i64 (RS.mk sc us pw (1:Int) hs hn hp port opq pn pl hq q hf fg bare sp (aa rst (2:Int))).av.2) [bT (PV.raw (Go.Value.pointer none)) 1 sc us pw ((RS.mk sc us pw (1:Int) hs hn hp port opq pn pl hq q hf fg bare sp (aa rst (2:Int))).av.1.hk) ((RS.mk sc us pw (1:Int) hs hn hp port opq pn pl hq q hf fg bare sp (aa rst (2:Int))).av.1.hs) ((RS.mk sc us pw (1:Int) hs hn hp port opq pn pl hq q hf fg bare sp (aa rst (2:Int))).av.1.hn) ((RS.mk sc us pw (1:Int) hs hn hp port opq pn pl hq q hf fg bare sp (aa rst (2:Int))).av.1.hp) port opq pn pl hq q hf fg bare sp (aa (aa rst (2:Int)) ↑(ah sp (aa rst (2:Int))))])∧
 ((!decide ((RS.mk sc us pw (1:Int) hs hn hp port opq pn pl hq q hf fg bare sp (aa rst (2:Int))).av.2=(0:Int)))=false→
 True∧
 (List.length (if aA sp (aa (aa rst (2:Int)) ↑(ah sp (aa rst (2:Int)))) (0:Int)=true then aa (aa (aa rst (2:Int)) ↑(ah sp (aa rst (2:Int)))) (1:Int)else aa (aa rst (2:Int)) ↑(ah sp (aa rst (2:Int))))≤(300000:Nat)∧
 pl.length≤(100000:Nat))∧
 k (PV.int .i64 (0:Int)) [bT (PV.raw (Go.Value.pointer none)) 1 sc us pw ((RS.mk sc us pw (1:Int) hs hn hp port opq pn pl hq q hf fg bare sp (aa rst (2:Int))).av.1.hk) ((RS.mk sc us pw (1:Int) hs hn hp port opq pn pl hq q hf fg bare sp (aa rst (2:Int))).av.1.hs) ((RS.mk sc us pw (1:Int) hs hn hp port opq pn pl hq q hf fg bare sp (aa rst (2:Int))).av.1.hn) ((RS.mk sc us pw (1:Int) hs hn hp port opq pn pl hq q hf fg bare sp (aa rst (2:Int))).av.1.hp) port opq ((br sp sc (ae (if aA sp (aa (aa rst (2:Int)) ↑(ah sp (aa rst (2:Int)))) (0:Int)=true then aa (aa (aa rst (2:Int)) ↑(ah sp (aa rst (2:Int)))) (1:Int)else aa (aa rst (2:Int)) ↑(ah sp (aa rst (2:Int)))) ↑(aE (if aA sp (aa (aa rst (2:Int)) ↑(ah sp (aa rst (2:Int)))) (0:Int)=true then aa (aa (aa rst (2:Int)) ↑(ah sp (aa rst (2:Int)))) (1:Int)else aa (aa rst (2:Int)) ↑(ah sp (aa rst (2:Int)))))) (pn,pl)).1) ((br sp sc (ae (if aA sp (aa (aa rst (2:Int)) ↑(ah sp (aa rst (2:Int)))) (0:Int)=true then aa (aa (aa rst (2:Int)) ↑(ah sp (aa rst (2:Int)))) (1:Int)else aa (aa rst (2:Int)) ↑(ah sp (aa rst (2:Int)))) ↑(aE (if aA sp (aa (aa rst (2:Int)) ↑(ah sp (aa rst (2:Int)))) (0:Int)=true then aa (aa (aa rst (2:Int)) ↑(ah sp (aa rst (2:Int)))) (1:Int)else aa (aa rst (2:Int)) ↑(ah sp (aa rst (2:Int)))))) (pn,pl)).2) hq q hf fg bare sp (aa (if aA sp (aa (aa rst (2:Int)) ↑(ah sp (aa rst (2:Int)))) (0:Int)=true then aa (aa (aa rst (2:Int)) ↑(ah sp (aa rst (2:Int)))) (1:Int)else aa (aa rst (2:Int)) ↑(ah sp (aa rst (2:Int)))) ↑(aE (if aA sp (aa (aa rst (2:Int)) ↑(ah sp (aa rst (2:Int)))) (0:Int)=true then aa (aa (aa rst (2:Int)) ↑(ah sp (aa rst (2:Int)))) (1:Int)else aa (aa rst (2:Int)) ↑(ah sp (aa rst (2:Int))))))])))∧
 (aa rst (2:Int)).length.le (300000:Nat)∧
 upto (0:Int) (↑(ah sp (aa rst (2:Int)))) (ak (aa rst (2:Int)))∧
 True∧
 (bM (ae (aa rst (2:Int)) ↑(ah sp (aa rst (2:Int))))=true→
 ((aa rst (2:Int)).length≤(300000:Nat)∧
 pl.length≤(100000:Nat))∧
 k (PV.int .i64 (0:Int)) [bT (PV.raw (Go.Value.pointer none)) 1 sc us pw (1:Int) hs hn hp port opq ((br sp sc (ae (aa rst (2:Int)) ↑(aE (aa rst (2:Int)))) (pn,pl)).1) ((br sp sc (ae (aa rst (2:Int)) ↑(aE (aa rst (2:Int)))) (pn,pl)).2) hq q hf fg bare sp (aa (aa rst (2:Int)) ↑(aE (aa rst (2:Int))))])∧
 (bM (ae (aa rst (2:Int)) ↑(ah sp (aa rst (2:Int))))=false→
 (aa rst (2:Int)).length.le (300000:Nat)∧
 ((!decide ((RS.mk sc us pw (1:Int) hs hn hp port opq pn pl hq q hf fg bare sp (aa rst (2:Int))).av.2=(0:Int)))=true→
 k (PV.int .i64 (RS.mk sc us pw (1:Int) hs hn hp port opq pn pl hq q hf fg bare sp (aa rst (2:Int))).av.2) [bT (PV.raw (Go.Value.pointer none)) 1 sc us pw ((RS.mk sc us pw (1:Int) hs hn hp port opq pn pl hq q hf fg bare sp (aa rst (2:Int))).av.1.hk) ((RS.mk sc us pw (1:Int) hs hn hp port opq pn pl hq q hf fg bare sp (aa rst (2:Int))).av.1.hs) ((RS.mk sc us pw (1:Int) hs hn hp port opq pn pl hq q hf fg bare sp (aa rst (2:Int))).av.1.hn) ((RS.mk sc us pw (1:Int) hs hn hp port opq pn pl hq q hf fg bare sp (aa rst (2:Int))).av.1.hp) port opq pn pl hq q hf fg bare sp (aa (aa rst (2:Int)) ↑(ah sp (aa rst (2:Int))))])∧
 ((!decide ((RS.mk sc us pw (1:Int) hs hn hp port opq pn pl hq q hf fg bare sp (aa rst (2:Int))).av.2=(0:Int)))=false→
 True∧
 (List.length (if aA sp (aa (aa rst (2:Int)) ↑(ah sp (aa rst (2:Int)))) (0:Int)=true then aa (aa (aa rst (2:Int)) ↑(ah sp (aa rst (2:Int)))) (1:Int)else aa (aa rst (2:Int)) ↑(ah sp (aa rst (2:Int))))≤(300000:Nat)∧
 pl.length≤(100000:Nat))∧
 k (PV.int .i64 (0:Int)) [bT (PV.raw (Go.Value.pointer none)) 1 sc us pw ((RS.mk sc us pw (1:Int) hs hn hp port opq pn pl hq q hf fg bare sp (aa rst (2:Int))).av.1.hk) ((RS.mk sc us pw (1:Int) hs hn hp port opq pn pl hq q hf fg bare sp (aa rst (2:Int))).av.1.hs) ((RS.mk sc us pw (1:Int) hs hn hp port opq pn pl hq q hf fg bare sp (aa rst (2:Int))).av.1.hn) ((RS.mk sc us pw (1:Int) hs hn hp port opq pn pl hq q hf fg bare sp (aa rst (2:Int))).av.1.hp) port opq ((br sp sc (ae (if aA sp (aa (aa rst (2:Int)) ↑(ah sp (aa rst (2:Int)))) (0:Int)=true then aa (aa (aa rst (2:Int)) ↑(ah sp (aa rst (2:Int)))) (1:Int)else aa (aa rst (2:Int)) ↑(ah sp (aa rst (2:Int)))) ↑(aE (if aA sp (aa (aa rst (2:Int)) ↑(ah sp (aa rst (2:Int)))) (0:Int)=true then aa (aa (aa rst (2:Int)) ↑(ah sp (aa rst (2:Int)))) (1:Int)else aa (aa rst (2:Int)) ↑(ah sp (aa rst (2:Int)))))) (pn,pl)).1) ((br sp sc (ae (if aA sp (aa (aa rst (2:Int)) ↑(ah sp (aa rst (2:Int)))) (0:Int)=true then aa (aa (aa rst (2:Int)) ↑(ah sp (aa rst (2:Int)))) (1:Int)else aa (aa rst (2:Int)) ↑(ah sp (aa rst (2:Int)))) ↑(aE (if aA sp (aa (aa rst (2:Int)) ↑(ah sp (aa rst (2:Int)))) (0:Int)=true then aa (aa (aa rst (2:Int)) ↑(ah sp (aa rst (2:Int)))) (1:Int)else aa (aa rst (2:Int)) ↑(ah sp (aa rst (2:Int)))))) (pn,pl)).2) hq q hf fg bare sp (aa (if aA sp (aa (aa rst (2:Int)) ↑(ah sp (aa rst (2:Int)))) (0:Int)=true then aa (aa (aa rst (2:Int)) ↑(ah sp (aa rst (2:Int)))) (1:Int)else aa (aa rst (2:Int)) ↑(ah sp (aa rst (2:Int)))) ↑(aE (if aA sp (aa (aa rst (2:Int)) ↑(ah sp (aa rst (2:Int)))) (0:Int)=true then aa (aa (aa rst (2:Int)) ↑(ah sp (aa rst (2:Int)))) (1:Int)else aa (aa rst (2:Int)) ↑(ah sp (aa rst (2:Int))))))])))∧
 (aA sp rst (1:Int)=false→
 True∧
 (aA sp rst (0:Int)=true→
 True∧
 (List.length (if aA sp rst (0:Int)=true then aa rst (1:Int)else rst)≤(300000:Nat)∧
 pl.length≤(100000:Nat))∧
 k (PV.int .i64 (0:Int)) [bT (PV.raw (Go.Value.pointer none)) 1 sc us pw (1:Int) hs hn hp port opq ((br sp sc (ae (if aA sp rst (0:Int)=true then aa rst (1:Int)else rst) ↑(aE (if aA sp rst (0:Int)=true then aa rst (1:Int)else rst))) (pn,pl)).1) ((br sp sc (ae (if aA sp rst (0:Int)=true then aa rst (1:Int)else rst) ↑(aE (if aA sp rst (0:Int)=true then aa rst (1:Int)else rst))) (pn,pl)).2) hq q hf fg bare sp (aa (if aA sp rst (0:Int)=true then aa rst (1:Int)else rst) ↑(aE (if aA sp rst (0:Int)=true then aa rst (1:Int)else rst)))])∧
 (aA sp rst (0:Int)=false→
 True∧
 ((!false)=true→
 (List.length (if aA sp rst (0:Int)=true then aa rst (1:Int)else rst)≤(300000:Nat)∧
 pl.length≤(100000:Nat))∧
 k (PV.int .i64 (0:Int)) [bT (PV.raw (Go.Value.pointer none)) 1 sc us pw (1:Int) hs hn hp port opq ((br sp sc (ae (if aA sp rst (0:Int)=true then aa rst (1:Int)else rst) ↑(aE (if aA sp rst (0:Int)=true then aa rst (1:Int)else rst))) (pn,pl)).1) ((br sp sc (ae (if aA sp rst (0:Int)=true then aa rst (1:Int)else rst) ↑(aE (if aA sp rst (0:Int)=true then aa rst (1:Int)else rst))) (pn,pl)).2) hq q hf fg bare sp (aa (if aA sp rst (0:Int)=true then aa rst (1:Int)else rst) ↑(aE (if aA sp rst (0:Int)=true then aa rst (1:Int)else rst)))])∧
 ((!false)=false→
 False))))∧
 (aA sp rst (0:Int)=!true→
 (false=true→
 upto (2:Int) (ak rst) (ak rst)∧
 ((aa rst (2:Int)).length.le (300000:Nat)∧
 upto (0:Int) (↑(ah sp (aa rst (2:Int)))) (ak (aa rst (2:Int)))∧
 True∧
 (bM (ae (aa rst (2:Int)) ↑(ah sp (aa rst (2:Int))))=true→
 ((aa rst (2:Int)).length≤(300000:Nat)∧
 pl.length≤(100000:Nat))∧
 k (PV.int .i64 (0:Int)) [bT (PV.raw (Go.Value.pointer none)) 1 sc us pw (1:Int) hs hn hp port opq ((br sp sc (ae (aa rst (2:Int)) ↑(aE (aa rst (2:Int)))) (pn,pl)).1) ((br sp sc (ae (aa rst (2:Int)) ↑(aE (aa rst (2:Int)))) (pn,pl)).2) hq q hf fg bare sp (aa (aa rst (2:Int)) ↑(aE (aa rst (2:Int))))])∧
 (bM (ae (aa rst (2:Int)) ↑(ah sp (aa rst (2:Int))))=false→
 (aa rst (2:Int)).length.le (300000:Nat)∧
 ((!decide ((RS.mk sc us pw (1:Int) hs hn hp port opq pn pl hq q hf fg bare sp (aa rst (2:Int))).av.2=(0:Int)))=true→
 k (PV.int .i64 (RS.mk sc us pw (1:Int) hs hn hp port opq pn pl hq q hf fg bare sp (aa rst (2:Int))).av.2) [bT (PV.raw (Go.Value.pointer none)) 1 sc us pw ((RS.mk sc us pw (1:Int) hs hn hp port opq pn pl hq q hf fg bare sp (aa rst (2:Int))).av.1.hk) ((RS.mk sc us pw (1:Int) hs hn hp port opq pn pl hq q hf fg bare sp (aa rst (2:Int))).av.1.hs) ((RS.mk sc us pw (1:Int) hs hn hp port opq pn pl hq q hf fg bare sp (aa rst (2:Int))).av.1.hn) ((RS.mk sc us pw (1:Int) hs hn hp port opq pn pl hq q hf fg bare sp (aa rst (2:Int))).av.1.hp) port opq pn pl hq q hf fg bare sp (aa (aa rst (2:Int)) ↑(ah sp (aa rst (2:Int))))])∧
 ((!decide ((RS.mk sc us pw (1:Int) hs hn hp port opq pn pl hq q hf fg bare sp (aa rst (2:Int))).av.2=(0:Int)))=false→
 True∧
 (List.length (if aA sp (aa (aa rst (2:Int)) ↑(ah sp (aa rst (2:Int)))) (0:Int)=true then aa (aa (aa rst (2:Int)) ↑(ah sp (aa rst (2:Int)))) (1:Int)else aa (aa rst (2:Int)) ↑(ah sp (aa rst (2:Int))))≤(300000:Nat)∧
 pl.length≤(100000:Nat))∧
 k (PV.int .i64 (0:Int)) [bT (PV.raw (Go.Value.pointer none)) 1 sc us pw ((RS.mk sc us pw (1:Int) hs hn hp port opq pn pl hq q hf fg bare sp (aa rst (2:Int))).av.1.hk) ((RS.mk sc us pw (1:Int) hs hn hp port opq pn pl hq q hf fg bare sp (aa rst (2:Int))).av.1.hs) ((RS.mk sc us pw (1:Int) hs hn hp port opq pn pl hq q hf fg bare sp (aa rst (2:Int))).av.1.hn) ((RS.mk sc us pw (1:Int) hs hn hp port opq pn pl hq q hf fg bare sp (aa rst (2:Int))).av.1.hp) port opq ((br sp sc (ae (if aA sp (aa (aa rst (2:Int)) ↑(ah sp (aa rst (2:Int)))) (0:Int)=true then aa (aa (aa rst (2:Int)) ↑(ah sp (aa rst (2:Int)))) (1:Int)else aa (aa rst (2:Int)) ↑(ah sp (aa rst (2:Int)))) ↑(aE (if aA sp (aa (aa rst (2:Int)) ↑(ah sp (aa rst (2:Int)))) (0:Int)=true then aa (aa (aa rst (2:Int)) ↑(ah sp (aa rst (2:Int)))) (1:Int)else aa (aa rst (2:Int)) ↑(ah sp (aa rst (2:Int)))))) (pn,pl)).1) ((br sp sc (ae (if aA sp (aa (aa rst (2:Int)) ↑(ah sp (aa rst (2:Int)))) (0:Int)=true then aa (aa (aa rst (2:Int)) ↑(ah sp (aa rst (2:Int)))) (1:Int)else aa (aa rst (2:Int)) ↑(ah sp (aa rst (2:Int)))) ↑(aE (if aA sp (aa (aa rst (2:Int)) ↑(ah sp (aa rst (2:Int)))) (0:Int)=true then aa (aa (aa rst (2:Int)) ↑(ah sp (aa rst (2:Int)))) (1:Int)else aa (aa rst (2:Int)) ↑(ah sp (aa rst (2:Int)))))) (pn,pl)).2) hq q hf fg bare sp (aa (if aA sp (aa (aa rst (2:Int)) ↑(ah sp (aa rst (2:Int)))) (0:Int)=true then aa (aa (aa rst (2:Int)) ↑(ah sp (aa rst (2:Int)))) (1:Int)else aa (aa rst (2:Int)) ↑(ah sp (aa rst (2:Int)))) ↑(aE (if aA sp (aa (aa rst (2:Int)) ↑(ah sp (aa rst (2:Int)))) (0:Int)=true then aa (aa (aa rst (2:Int)) ↑(ah sp (aa rst (2:Int)))) (1:Int)else aa (aa rst (2:Int)) ↑(ah sp (aa rst (2:Int))))))])))∧
 (aa rst (2:Int)).length.le (300000:Nat)∧
 upto (0:Int) (↑(ah sp (aa rst (2:Int)))) (ak (aa rst (2:Int)))∧
 True∧
 (bM (ae (aa rst (2:Int)) ↑(ah sp (aa rst (2:Int))))=true→
 ((aa rst (2:Int)).length≤(300000:Nat)∧
 pl.length≤(100000:Nat))∧
 k (PV.int .i64 (0:Int)) [bT (PV.raw (Go.Value.pointer none)) 1 sc us pw (1:Int) hs hn hp port opq ((br sp sc (ae (aa rst (2:Int)) ↑(aE (aa rst (2:Int)))) (pn,pl)).1) ((br sp sc (ae (aa rst (2:Int)) ↑(aE (aa rst (2:Int)))) (pn,pl)).2) hq q hf fg bare sp (aa (aa rst (2:Int)) ↑(aE (aa rst (2:Int))))])∧
 (bM (ae (aa rst (2:Int)) ↑(ah sp (aa rst (2:Int))))=false→
 (aa rst (2:Int)).length.le (300000:Nat)∧
 ((!decide ((RS.mk sc us pw (1:Int) hs hn hp port opq pn pl hq q hf fg bare sp (aa rst (2:Int))).av.2=(0:Int)))=true→
 k (PV.int .i64 (RS.mk sc us pw (1:Int) hs hn hp port opq pn pl hq q hf fg bare sp (aa rst (2:Int))).av.2) [bT (PV.raw (Go.Value.pointer none)) 1 sc us pw ((RS.mk sc us pw (1:Int) hs hn hp port opq pn pl hq q hf fg bare sp (aa rst (2:Int))).av.1.hk) ((RS.mk sc us pw (1:Int) hs hn hp port opq pn pl hq q hf fg bare sp (aa rst (2:Int))).av.1.hs) ((RS.mk sc us pw (1:Int) hs hn hp port opq pn pl hq q hf fg bare sp (aa rst (2:Int))).av.1.hn) ((RS.mk sc us pw (1:Int) hs hn hp port opq pn pl hq q hf fg bare sp (aa rst (2:Int))).av.1.hp) port opq pn pl hq q hf fg bare sp (aa (aa rst (2:Int)) ↑(ah sp (aa rst (2:Int))))])∧
 ((!decide ((RS.mk sc us pw (1:Int) hs hn hp port opq pn pl hq q hf fg bare sp (aa rst (2:Int))).av.2=(0:Int)))=false→
 True∧
 (List.length (if aA sp (aa (aa rst (2:Int)) ↑(ah sp (aa rst (2:Int)))) (0:Int)=true then aa (aa (aa rst (2:Int)) ↑(ah sp (aa rst (2:Int)))) (1:Int)else aa (aa rst (2:Int)) ↑(ah sp (aa rst (2:Int))))≤(300000:Nat)∧
 pl.length≤(100000:Nat))∧
 k (PV.int .i64 (0:Int)) [bT (PV.raw (Go.Value.pointer none)) 1 sc us pw ((RS.mk sc us pw (1:Int) hs hn hp port opq pn pl hq q hf fg bare sp (aa rst (2:Int))).av.1.hk) ((RS.mk sc us pw (1:Int) hs hn hp port opq pn pl hq q hf fg bare sp (aa rst (2:Int))).av.1.hs) ((RS.mk sc us pw (1:Int) hs hn hp port opq pn pl hq q hf fg bare sp (aa rst (2:Int))).av.1.hn) ((RS.mk sc us pw (1:Int) hs hn hp port opq pn pl hq q hf fg bare sp (aa rst (2:Int))).av.1.hp) port opq ((br sp sc (ae (if aA sp (aa (aa rst (2:Int)) ↑(ah sp (aa rst (2:Int)))) (0:Int)=true then aa (aa (aa rst (2:Int)) ↑(ah sp (aa rst (2:Int)))) (1:Int)else aa (aa rst (2:Int)) ↑(ah sp (aa rst (2:Int)))) ↑(aE (if aA sp (aa (aa rst (2:Int)) ↑(ah sp (aa rst (2:Int)))) (0:Int)=true then aa (aa (aa rst (2:Int)) ↑(ah sp (aa rst (2:Int)))) (1:Int)else aa (aa rst (2:Int)) ↑(ah sp (aa rst (2:Int)))))) (pn,pl)).1) ((br sp sc (ae (if aA sp (aa (aa rst (2:Int)) ↑(ah sp (aa rst (2:Int)))) (0:Int)=true then aa (aa (aa rst (2:Int)) ↑(ah sp (aa rst (2:Int)))) (1:Int)else aa (aa rst (2:Int)) ↑(ah sp (aa rst (2:Int)))) ↑(aE (if aA sp (aa (aa rst (2:Int)) ↑(ah sp (aa rst (2:Int)))) (0:Int)=true then aa (aa (aa rst (2:Int)) ↑(ah sp (aa rst (2:Int)))) (1:Int)else aa (aa rst (2:Int)) ↑(ah sp (aa rst (2:Int)))))) (pn,pl)).2) hq q hf fg bare sp (aa (if aA sp (aa (aa rst (2:Int)) ↑(ah sp (aa rst (2:Int)))) (0:Int)=true then aa (aa (aa rst (2:Int)) ↑(ah sp (aa rst (2:Int)))) (1:Int)else aa (aa rst (2:Int)) ↑(ah sp (aa rst (2:Int)))) ↑(aE (if aA sp (aa (aa rst (2:Int)) ↑(ah sp (aa rst (2:Int)))) (0:Int)=true then aa (aa (aa rst (2:Int)) ↑(ah sp (aa rst (2:Int)))) (1:Int)else aa (aa rst (2:Int)) ↑(ah sp (aa rst (2:Int))))))])))∧
 (false=false→
 True∧
 (aA sp rst (0:Int)=true→
 True∧
 (List.length (if aA sp rst (0:Int)=true then aa rst (1:Int)else rst)≤(300000:Nat)∧
 pl.length≤(100000:Nat))∧
 k (PV.int .i64 (0:Int)) [bT (PV.raw (Go.Value.pointer none)) 1 sc us pw (1:Int) hs hn hp port opq ((br sp sc (ae (if aA sp rst (0:Int)=true then aa rst (1:Int)else rst) ↑(aE (if aA sp rst (0:Int)=true then aa rst (1:Int)else rst))) (pn,pl)).1) ((br sp sc (ae (if aA sp rst (0:Int)=true then aa rst (1:Int)else rst) ↑(aE (if aA sp rst (0:Int)=true then aa rst (1:Int)else rst))) (pn,pl)).2) hq q hf fg bare sp (aa (if aA sp rst (0:Int)=true then aa rst (1:Int)else rst) ↑(aE (if aA sp rst (0:Int)=true then aa rst (1:Int)else rst)))])∧
 (aA sp rst (0:Int)=false→
 True∧
 ((!false)=true→
 (List.length (if aA sp rst (0:Int)=true then aa rst (1:Int)else rst)≤(300000:Nat)∧
 pl.length≤(100000:Nat))∧
 k (PV.int .i64 (0:Int)) [bT (PV.raw (Go.Value.pointer none)) 1 sc us pw (1:Int) hs hn hp port opq ((br sp sc (ae (if aA sp rst (0:Int)=true then aa rst (1:Int)else rst) ↑(aE (if aA sp rst (0:Int)=true then aa rst (1:Int)else rst))) (pn,pl)).1) ((br sp sc (ae (if aA sp rst (0:Int)=true then aa rst (1:Int)else rst) ↑(aE (if aA sp rst (0:Int)=true then aa rst (1:Int)else rst))) (pn,pl)).2) hq q hf fg bare sp (aa (if aA sp rst (0:Int)=true then aa rst (1:Int)else rst) ↑(aE (if aA sp rst (0:Int)=true then aa rst (1:Int)else rst)))])∧
 ((!false)=false→
 False))))):=by kernel_rfl
attribute [local irreducible] Go.Vc.cG Go.Vc.bL
theorem Az(sc us pw:Bs)(hk:Int)(hs:Bs)(hn:Int)(hp:List Int)(port:Int)(opq pn:Bool)(pl:List Bs)(hq:Bool)(q:Bs)(hf:Bool)(fg:Bs)(bare sp:Bool)(rst:Bs):bh Tryz.prog az 76 [.ptr 0 0] [aD 1 (.raw (.pointer none)) sc us pw hk hs hn hp port opq pn pl hq q hf fg bare sp rst] (rst.length≤300000∧pl.length≤100000) (.int .i64 (RS.mk sc us pw hk hs hn hp port opq pn pl hq q hf fg bare sp rst).bb.2) [aD 1 (.raw (.pointer none)) sc us pw ((RS.mk sc us pw hk hs hn hp port opq pn pl hq q hf fg bare sp rst).bb.1.hk) ((RS.mk sc us pw hk hs hn hp port opq pn pl hq q hf fg bare sp rst).bb.1.hs) ((RS.mk sc us pw hk hs hn hp port opq pn pl hq q hf fg bare sp rst).bb.1.hn) ((RS.mk sc us pw hk hs hn hp port opq pn pl hq q hf fg bare sp rst).bb.1.hp) port opq ((RS.mk sc us pw hk hs hn hp port opq pn pl hq q hf fg bare sp rst).bb.1.pn) ((RS.mk sc us pw hk hs hn hp port opq pn pl hq q hf fg bare sp rst).bb.1.pl) hq q hf fg bare sp ((RS.mk sc us pw hk hs hn hp port opq pn pl hq q hf fg bare sp rst).bb.1.rst)]:=bu (by kernel_rfl) Ay (H:=BR sc us pw hk hs hn hp port opq pn pl hq q hf fg bare sp rst) (fuel:=1000) Tryz.func76 (by kernel_rfl) (Nat.le_of_ble_eq_true rfl) fun hpre=>(Gz sc us pw hk hs hn hp port opq pn pl hq q hf fg bare sp rst _).mpr (by
 obtain ⟨hp1,hp2⟩:=hpre
 have hl2:=cR rst 2
 have hs1:=mK sp rst
 have hB:∀k:PV→List PV→Prop,¬(aA sp rst 0=true∧aA sp rst 1=true)→(RS.mk sc us pw hk hs hn hp port opq pn pl hq q hf fg bare sp rst).bb=(({(RS.mk sc us pw hk hs hn hp port opq pn pl hq q hf fg bare sp rst)with hk:=1}:RS).shl.path,0):=fun _ h=>by
  unfold RS.bb
  dsimp only
  rw [if_neg h]
 refine ⟨⟨by omega,by omega⟩,fun h0=>⟨⟨by omega,by omega⟩,fun h1=>?_,fun h1=>?_⟩,fun h0=>⟨fun h=>(by cases h),fun _=>?_⟩⟩
 ·have hsl:=u7 h1
  refine ⟨⟨by omega,by unfold ak at *;omega,Int.le_refl _⟩,(fun a=>⟨a,a⟩) ?_⟩
  have he:=eY (aa rst 2) (eP sp++[63,35])
  have he2:ah sp (aa rst 2)≤(aa rst 2).length:=he
  have e0:(RS.mk sc us pw hk hs hn hp port opq pn pl hq q hf fg bare sp rst).bb=(if bM (ae (aa rst 2) (ah sp (aa rst 2)))=true then((RS.mk sc us pw 1 hs hn hp port opq pn pl hq q hf fg bare sp (aa rst 2)).path,0)else if(RS.mk sc us pw 1 hs hn hp port opq pn pl hq q hf fg bare sp (aa rst 2)).av.2=0 then((RS.mk sc us pw 1 hs hn hp port opq pn pl hq q hf fg bare sp (aa rst 2)).av.1.shl.path,0)else(RS.mk sc us pw 1 hs hn hp port opq pn pl hq q hf fg bare sp (aa rst 2)).av):=by
   unfold RS.bb
   dsimp only
   rw [if_pos ⟨h0,h1⟩]
   rfl
  refine ⟨show(aa rst 2).length≤300000 by omega,⟨Int.le_refl _,by omega,by unfold ak;omega⟩,trivial,fun h2=>⟨⟨by omega,hp2⟩,?_⟩,fun h2=>⟨show(aa rst 2).length≤300000 by omega,fun h3=>?_,fun h3=>⟨trivial,⟨Nat.le_trans (mK sp _) (Nat.le_trans (cR _ _) (by omega)),hp2⟩,?_⟩⟩⟩
  ·rw [e0,if_pos h2];exact ⟨rfl,rfl⟩
  ·have h4:¬(RS.mk sc us pw 1 hs hn hp port opq pn pl hq q hf fg bare sp (aa rst 2)).av.2=0:=by simpa using h3
   have er:=ey (RS.mk sc us pw 1 hs hn hp port opq pn pl hq q hf fg bare sp (aa rst 2))
   rw [e0,if_neg (by rw [h2];decide),if_neg h4]
   have e1:(RS.mk sc us pw 1 hs hn hp port opq pn pl hq q hf fg bare sp (aa rst 2)).av.1.pn=pn:=by rw [er]
   have e2:(RS.mk sc us pw 1 hs hn hp port opq pn pl hq q hf fg bare sp (aa rst 2)).av.1.pl=pl:=by rw [er]
   have e3:(RS.mk sc us pw 1 hs hn hp port opq pn pl hq q hf fg bare sp (aa rst 2)).av.1.rst=aa (aa rst 2) (ah sp (aa rst 2)):=by rw [er]
   rw [e1,e2,e3];exact ⟨rfl,rfl⟩
  ·have h4:(RS.mk sc us pw 1 hs hn hp port opq pn pl hq q hf fg bare sp (aa rst 2)).av.2=0:=by simpa using h3
   have er:=ey (RS.mk sc us pw 1 hs hn hp port opq pn pl hq q hf fg bare sp (aa rst 2))
   have gen:∀G:RS,G={(RS.mk sc us pw 1 hs hn hp port opq pn pl hq q hf fg bare sp (aa rst 2))with hk:=G.hk,hs:=G.hs,hn:=G.hn,hp:=G.hp,rst:=aa (aa rst 2) (ah sp (aa rst 2))}→G.shl=RS.mk sc us pw G.hk G.hs G.hn G.hp port opq pn pl hq q hf fg bare sp (if aA sp (aa (aa rst 2) (ah sp (aa rst 2))) 0=true then aa (aa (aa rst 2) (ah sp (aa rst 2))) 1 else aa (aa rst 2) (ah sp (aa rst 2))):=fun G e=>by rw [e];rfl
   rw [e0,if_neg (by rw [h2];decide),if_pos h4,gen _ er]
   exact ⟨rfl,rfl⟩
 ·rw [hB (fun _ _=>True) (by rw [h1];simp)]
  exact ⟨trivial,fun _=>⟨trivial,⟨by omega,hp2⟩,rfl,rfl⟩,fun _=>⟨trivial,fun _=>⟨⟨by omega,hp2⟩,rfl,rfl⟩,fun h=>(by cases h)⟩⟩
 ·rw [hB (fun _ _=>True) (by rw [show aA sp rst 0=false from h0];simp)]
  exact ⟨trivial,fun _=>⟨trivial,⟨by omega,hp2⟩,rfl,rfl⟩,fun _=>⟨trivial,fun _=>⟨⟨by omega,hp2⟩,rfl,rfl⟩,fun h=>(by cases h)⟩⟩)
theorem GA(sc us pw:Bs)(hk:Int)(hs:Bs)(hn:Int)(hp:List Int)(port:Int)(opq pn:Bool)(pl:List Bs)(hq:Bool)(q:Bs)(hf:Bool)(fg:Bs)(bare sp:Bool)(rst:Bs):ag Tryz.prog az 76 [.ptr 0 0,aD 1 (.raw (.pointer none)) sc us pw hk hs hn hp port opq pn pl hq q hf fg bare sp rst] ⟨rst.length≤300000∧pl.length≤100000,.tup [.int .i64 (RS.mk sc us pw hk hs hn hp port opq pn pl hq q hf fg bare sp rst).bb.2,aD 1 (.raw (.pointer none)) sc us pw ((RS.mk sc us pw hk hs hn hp port opq pn pl hq q hf fg bare sp rst).bb.1.hk) ((RS.mk sc us pw hk hs hn hp port opq pn pl hq q hf fg bare sp rst).bb.1.hs) ((RS.mk sc us pw hk hs hn hp port opq pn pl hq q hf fg bare sp rst).bb.1.hn) ((RS.mk sc us pw hk hs hn hp port opq pn pl hq q hf fg bare sp rst).bb.1.hp) port opq ((RS.mk sc us pw hk hs hn hp port opq pn pl hq q hf fg bare sp rst).bb.1.pn) ((RS.mk sc us pw hk hs hn hp port opq pn pl hq q hf fg bare sp rst).bb.1.pl) hq q hf fg bare sp ((RS.mk sc us pw hk hs hn hp port opq pn pl hq q hf fg bare sp rst).bb.1.rst)]⟩:=ag.aZ (fun h=>by have e:List.isEmpty (PV.aC PV.bt [.ptr 0 0,aD 1 (.raw (.pointer none)) sc us pw hk hs hn hp port opq pn pl hq q hf fg bare sp rst])=false:=(by kernel_rfl);exact Bool.noConfusion (e.symm.trans (congrArg List.isEmpty h))) (Az sc us pw hk hs hn hp port opq pn pl hq q hf fg bare sp rst)
def nU:List PV→Option aF:=fun xs=>match xs with
 |[.ptr 0 0,aD 1 (.raw (.pointer none)) sc us pw hk hs hn hp port opq pn pl hq q hf fg bare sp rst]=>some ⟨rst.length≤300000∧pl.length≤100000,.tup [.int .i64 (RS.mk sc us pw hk hs hn hp port opq pn pl hq q hf fg bare sp rst).bb.2,aD 1 (.raw (.pointer none)) sc us pw ((RS.mk sc us pw hk hs hn hp port opq pn pl hq q hf fg bare sp rst).bb.1.hk) ((RS.mk sc us pw hk hs hn hp port opq pn pl hq q hf fg bare sp rst).bb.1.hs) ((RS.mk sc us pw hk hs hn hp port opq pn pl hq q hf fg bare sp rst).bb.1.hn) ((RS.mk sc us pw hk hs hn hp port opq pn pl hq q hf fg bare sp rst).bb.1.hp) port opq ((RS.mk sc us pw hk hs hn hp port opq pn pl hq q hf fg bare sp rst).bb.1.pn) ((RS.mk sc us pw hk hs hn hp port opq pn pl hq q hf fg bare sp rst).bb.1.pl) hq q hf fg bare sp ((RS.mk sc us pw hk hs hn hp port opq pn pl hq q hf fg bare sp rst).bb.1.rst)]⟩
 |_=>none
theorem vC:∀xs c,nU xs=some c→ag Tryz.prog az 76 xs c:=fun xs c h=>by
 unfold nU at h
 split at h
 ·injection h with h;subst h;exact GA _ _ _ _ _ _ _ _ _ _ _ _ _ _ _ _ _ _
 ·cases h
end
section
def tQ:cw:=bO [(119,mw),(27,dP)]
def tR(sc us pw:Bs)(hk:Int)(hs:Bs)(hn:Int)(hp:List Int)(port:Int)(opq pn:Bool)(pl:List Bs)(hq:Bool)(q:Bs)(hf:Bool)(fg:Bs)(bare sp:Bool)(rst:Bs):aX:=fun i=>none
theorem vD:cW Tryz.prog az tQ:=ai oG (ai dQ (ax))
theorem AA(sc us pw:Bs)(hk:Int)(hs:Bs)(hn:Int)(hp:List Int)(port:Int)(opq pn:Bool)(pl:List Bs)(hq:Bool)(q:Bs)(hf:Bool)(fg:Bs)(bare sp:Bool)(rst:Bs)(k:PV→List PV→Prop):bL Tryz.prog tQ az (tR sc us pw hk hs hn hp port opq pn pl hq q hf fg bare sp rst) 1000 Tryz.f75 [.ptr 0 0] [aD 1 (.raw (.pointer none)) sc us pw hk hs hn hp port opq pn pl hq q hf fg bare sp rst] k=(
 (List.length rst≤(300000:Nat)∧
 (ab rst rst (0:Nat)).2.2=false)∧
 (false=true→
 True∧
 ((!false)=true→
 False)∧
 ((!false)=true→
 False)∧
 ((!false)=true→
 False)∧
 False)∧
 (false=false→
 (true=true→
 (true=true→
 k (PV.int .i64 (8:Int)) [bT (PV.raw (Go.Value.pointer none)) 1 sc us pw hk hs hn hp port opq pn pl hq q hf fg bare sp rst])∧
 (true=false→
 False))∧
 (true=false→
 False))):=by kernel_rfl
attribute [local irreducible] Go.Vc.cG Go.Vc.bL
theorem vE(sc us pw:Bs)(hk:Int)(hs:Bs)(hn:Int)(hp:List Int)(port:Int)(opq pn:Bool)(pl:List Bs)(hq:Bool)(q:Bs)(hf:Bool)(fg:Bs)(bare sp:Bool)(rst:Bs):bh Tryz.prog az 75 [.ptr 0 0] [aD 1 (.raw (.pointer none)) sc us pw hk hs hn hp port opq pn pl hq q hf fg bare sp rst] (rst.length≤300000∧(ab rst rst 0).2.2=false) (.int .i64 8) [aD 1 (.raw (.pointer none)) sc us pw hk hs hn hp port opq pn pl hq q hf fg bare sp rst]:=bu (by kernel_rfl) vD (H:=tR sc us pw hk hs hn hp port opq pn pl hq q hf fg bare sp rst) (fuel:=1000) Tryz.func75 (by kernel_rfl) (Nat.le_of_ble_eq_true rfl) fun hpre=>(AA sc us pw hk hs hn hp port opq pn pl hq q hf fg bare sp rst _).mpr (by
 exact ⟨hpre,fun h=>(by cases h),fun _=>⟨fun _=>⟨fun _=>⟨rfl,rfl⟩,fun h=>(by cases h)⟩,fun h=>(by cases h)⟩⟩)
theorem AB(sc us pw:Bs)(hk:Int)(hs:Bs)(hn:Int)(hp:List Int)(port:Int)(opq pn:Bool)(pl:List Bs)(hq:Bool)(q:Bs)(hf:Bool)(fg:Bs)(bare sp:Bool)(rst:Bs):ag Tryz.prog az 75 [.ptr 0 0,aD 1 (.raw (.pointer none)) sc us pw hk hs hn hp port opq pn pl hq q hf fg bare sp rst] ⟨rst.length≤300000∧(ab rst rst 0).2.2=false,.tup [.int .i64 8,aD 1 (.raw (.pointer none)) sc us pw hk hs hn hp port opq pn pl hq q hf fg bare sp rst]⟩:=ag.aZ (fun h=>by have e:List.isEmpty (PV.aC PV.bt [.ptr 0 0,aD 1 (.raw (.pointer none)) sc us pw hk hs hn hp port opq pn pl hq q hf fg bare sp rst])=false:=(by kernel_rfl);exact Bool.noConfusion (e.symm.trans (congrArg List.isEmpty h))) (vE sc us pw hk hs hn hp port opq pn pl hq q hf fg bare sp rst)
def j6:List PV→Option aF:=fun xs=>match xs with
 |[.ptr 0 0,aD 1 (.raw (.pointer none)) sc us pw hk hs hn hp port opq pn pl hq q hf fg bare sp rst]=>some ⟨rst.length≤300000∧(ab rst rst 0).2.2=false,.tup [.int .i64 8,aD 1 (.raw (.pointer none)) sc us pw hk hs hn hp port opq pn pl hq q hf fg bare sp rst]⟩
 |_=>none
theorem rp:∀xs c,j6 xs=some c→ag Tryz.prog az 75 xs c:=fun xs c h=>by
 unfold j6 at h
 split at h
 ·injection h with h;subst h;exact AB _ _ _ _ _ _ _ _ _ _ _ _ _ _ _ _ _ _
 ·cases h
end
section
def x9:cw:=bO [(75,j6),(77,gu),(78,db)]
def ya(sc us pw:Bs)(hk:Int)(hs:Bs)(hn:Int)(hp:List Int)(port:Int)(pn:Bool)(pl:List Bs)(hq:Bool)(q:Bs)(hf:Bool)(fg:Bs)(bare sp:Bool)(rst:Bs):aX:=fun i=>none
theorem yb:cW Tryz.prog az x9:=ai rp (ai gj (ai cK (ax)))
theorem DN(sc us pw:Bs)(hk:Int)(hs:Bs)(hn:Int)(hp:List Int)(port:Int)(pn:Bool)(pl:List Bs)(hq:Bool)(q:Bs)(hf:Bool)(fg:Bs)(bare sp:Bool)(rst:Bs)(k:PV→List PV→Prop):bL Tryz.prog x9 az (ya sc us pw hk hs hn hp port pn pl hq q hf fg bare sp rst) 1000 Tryz.f47 [.ptr 0 0] [aD 1 (.raw (.pointer none)) sc us pw hk hs hn hp port false pn pl hq q hf fg bare sp rst] k=(
 (List.length rst≤(300000:Nat)∧
 (ab rst rst (0:Nat)).2.2=false)∧
 ((!decide ((8:Int)=(0:Int)))=true→
 k (PV.int .i64 (8:Int)) [bT (PV.raw (Go.Value.pointer none)) 1 sc us pw hk hs hn hp port false pn pl hq q hf fg bare sp rst])∧
 ((!decide ((8:Int)=(0:Int)))=false→
 (false=true→
 False)∧
 (false=false→
 (decide (sc=(ByteArray.mk #[102,105,108,101]).data.toList)=true→
 False)∧
 (decide (sc=(ByteArray.mk #[102,105,108,101]).data.toList)=false→
 (bare=false→
 (sp=true→
 True∧
 (false=false→
 false=true→
 True)∧
 (false=true→
 False)∧
 (false=false→
 (sp=true→
 False)∧
 (sp=false→
 False)))∧
 (sp=!true→
 (false=false→
 false=true→
 True)∧
 (false=true→
 False)∧
 (false=false→
 (sp=true→
 False)∧
 (sp=false→
 False))))∧
 (bare=!false→
 ((!false)=false→
 false=true→
 True)∧
 (true=true→
 False)∧
 (true=false→
 (sp=true→
 False)∧
 (sp=false→
 False))))))):=by kernel_rfl
attribute [local irreducible] Go.Vc.cG Go.Vc.bL
theorem yc(sc us pw:Bs)(hk:Int)(hs:Bs)(hn:Int)(hp:List Int)(port:Int)(pn:Bool)(pl:List Bs)(hq:Bool)(q:Bs)(hf:Bool)(fg:Bs)(bare sp:Bool)(rst:Bs):bh Tryz.prog az 47 [.ptr 0 0] [aD 1 (.raw (.pointer none)) sc us pw hk hs hn hp port false pn pl hq q hf fg bare sp rst] (rst.length≤300000∧(ab rst rst 0).2.2=false) (.int .i64 (RS.mk sc us pw hk hs hn hp port false pn pl hq q hf fg bare sp rst).aq.2) [aD 0 (.raw (.pointer none)) ((RS.mk sc us pw hk hs hn hp port false pn pl hq q hf fg bare sp rst).aq.1.sc) ((RS.mk sc us pw hk hs hn hp port false pn pl hq q hf fg bare sp rst).aq.1.us) ((RS.mk sc us pw hk hs hn hp port false pn pl hq q hf fg bare sp rst).aq.1.pw) ((RS.mk sc us pw hk hs hn hp port false pn pl hq q hf fg bare sp rst).aq.1.hk) ((RS.mk sc us pw hk hs hn hp port false pn pl hq q hf fg bare sp rst).aq.1.hs) ((RS.mk sc us pw hk hs hn hp port false pn pl hq q hf fg bare sp rst).aq.1.hn) ((RS.mk sc us pw hk hs hn hp port false pn pl hq q hf fg bare sp rst).aq.1.hp) ((RS.mk sc us pw hk hs hn hp port false pn pl hq q hf fg bare sp rst).aq.1.port) ((RS.mk sc us pw hk hs hn hp port false pn pl hq q hf fg bare sp rst).aq.1.opq) ((RS.mk sc us pw hk hs hn hp port false pn pl hq q hf fg bare sp rst).aq.1.pn) ((RS.mk sc us pw hk hs hn hp port false pn pl hq q hf fg bare sp rst).aq.1.pl) ((RS.mk sc us pw hk hs hn hp port false pn pl hq q hf fg bare sp rst).aq.1.hq) ((RS.mk sc us pw hk hs hn hp port false pn pl hq q hf fg bare sp rst).aq.1.q) ((RS.mk sc us pw hk hs hn hp port false pn pl hq q hf fg bare sp rst).aq.1.hf) ((RS.mk sc us pw hk hs hn hp port false pn pl hq q hf fg bare sp rst).aq.1.fg) ((RS.mk sc us pw hk hs hn hp port false pn pl hq q hf fg bare sp rst).aq.1.bare) ((RS.mk sc us pw hk hs hn hp port false pn pl hq q hf fg bare sp rst).aq.1.sp) ((RS.mk sc us pw hk hs hn hp port false pn pl hq q hf fg bare sp rst).aq.1.rst)]:=uy (by kernel_rfl) yb (H:=ya sc us pw hk hs hn hp port pn pl hq q hf fg bare sp rst) (fuel:=1000) Tryz.func47 (by kernel_rfl) (Nat.le_of_ble_eq_true rfl) fun hpre=>(DN sc us pw hk hs hn hp port pn pl hq q hf fg bare sp rst _).mpr (by
 have e:(RS.mk sc us pw hk hs hn hp port false pn pl hq q hf fg bare sp rst).aq=((RS.mk sc us pw hk hs hn hp port false pn pl hq q hf fg bare sp rst),8):=by
  unfold RS.aq
  rw [show(RS.mk sc us pw hk hs hn hp port false pn pl hq q hf fg bare sp rst).jh=((RS.mk sc us pw hk hs hn hp port false pn pl hq q hf fg bare sp rst),8)from if_neg (by show ¬(ab rst rst 0).2.2=true;rw [hpre.2];decide)]
  rfl
 rw [e]
 exact ⟨hpre,fun _=>⟨rfl,rfl⟩,fun h=>absurd h (by decide)⟩)
end
end Go.Proofs.YtmfapopclbnlpaaGreatDoor
