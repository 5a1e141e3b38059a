import Derived.Test.YtmfapopclbnlpaaGreatDoorProg
import Derived.ProofKit
import Derived.Test.YtmfapopclbnlpaaGreatDoorPt6
import Derived.Test.YtmfapopclbnlpaaGreatDoorPt10
import Derived.Test.YtmfapopclbnlpaaGreatDoorPt18
import Derived.Test.YtmfapopclbnlpaaGreatDoorPt23
import Derived.Test.YtmfapopclbnlpaaGreatDoorPt24
set_option linter.unusedVariables false
set_option linter.unusedSimpArgs false
set_option maxRecDepth 100000
set_option maxHeartbeats 4000000
namespace Go.Proofs.YtmfapopclbnlpaaGreatDoor
open Go Go.Proofs Go.RowKit Go.Vc
section
def gS(l:Bs):H5:=if preB l [91]=true then eP (l.drop 1)else if jc l nu=true then Fk 8 else if l=[]then(1,[],0,z8,0)else(5,wY l,0,z8,0)
def s5:cr:=bP [(78,cX),(74,mg),(161,mm),(162,ml),(26,qj)]
def s6(l:Bs):aY:=fun i=>none
theorem uN:cS Tryz.prog ay s5:=ai cH (ai kW (ai oq (ai oo (ai wZ (ax)))))
theorem zx(l:Bs)(k:PV→Prop):cD Tryz.prog s5 ay (s6 l) 1000 Tryz.f136 [.str l,.bool false] k=(
 True∧
 (preB l (ByteArray.mk #[91]).data.toList=true→
 ((1:Nat)≤List.length l∧List.length l≤(1000000:Nat))∧
 k
 (PV.tup
 [PV.agg
 [PV.int .i64 (eP (List.drop (1:Nat) l)).1,
 PV.str (eP (List.drop (1:Nat) l)).2.1,
 PV.int .u32 (eP (List.drop (1:Nat) l)).2.2.1,
 PV.arr (8:Nat) (aq.ints .u16 (eP (List.drop (1:Nat) l)).2.2.2.1)],
 PV.int .i64 (eP (List.drop (1:Nat) l)).2.2.2.2]))∧
 (preB l (ByteArray.mk #[91]).data.toList=false→
 (false=true→
 (List.length l).le (1000000:Nat)∧
 k
 (PV.tup
 [PV.agg
 [PV.int .i64
 (en (bX (cn l))).1,
 PV.str
 (en
 (bX (cn l))).2.1,
 PV.int .u32
 (en
 (bX (cn l))).2.2.1,
 PV.arr (8:Nat)
 (aq.ints .u16
 (en
 (bX (cn l))).2.2.2.1)],
 PV.int .i64
 (en
 (bX (cn l))).2.2.2.2]))∧
 (false=false→
 (List.length l≤(1000000:Nat)∧
 (ByteArray.mk
 #[0,9,10,13,32,35,47,58,60,62,63,64,91,92,93,94,124]).data.toList.length≤
 (1000000:Nat)∧
 ∀(b:UInt8),
 b∈
 (ByteArray.mk
 #[0,9,10,13,32,35,47,58,60,62,63,64,91,92,93,94,124]).data.toList→
 b.toNat<(128:Nat))∧
 (jc l
 (ByteArray.mk
 #[0,9,10,13,32,35,47,58,60,62,63,64,91,92,93,94,124]).data.toList=
 true→
 k
 (PV.tup
 [PV.agg
 [PV.int .i64 (0:Int),PV.str [],PV.int .u32 (0:Int),
 PV.arr (8:Nat) (aq.ints .u16 (List.replicate (8:Nat) (0:Int)))],
 PV.int .i64 (8:Int)]))∧
 (jc l
 (ByteArray.mk
 #[0,9,10,13,32,35,47,58,60,62,63,64,91,92,93,94,124]).data.toList=
 false→
 (decide (l=(ByteArray.mk #[]).data.toList)=true→
 k
 (PV.tup
 [PV.agg
 [PV.int .i64 (1:Int),PV.str [],PV.int .u32 (0:Int),
 PV.arr (8:Nat) (aq.ints .u16 (List.replicate (8:Nat) (0:Int)))],
 PV.int .i64 (0:Int)]))∧
 (decide (l=(ByteArray.mk #[]).data.toList)=false→
 (List.length l).le (300000:Nat)∧
 k
 (PV.tup
 [PV.agg
 [PV.int .i64 (5:Int),PV.str (wY l),
 PV.int .u32 (0:Int),
 PV.arr (8:Nat) (aq.ints .u16 (List.replicate (8:Nat) (0:Int)))],
 PV.int .i64 (0:Int)])))))):=by kernel_rfl
attribute [local irreducible] Go.Vc.cD
theorem zy(l:Bs):ag Tryz.prog ay 136 [.str l,.bool false] ⟨l.length≤300000,.tup [.agg [.int .i64 (gS l).1,.str (gS l).2.1,.int .u32 (gS l).2.2.1,.arr 8 (.ints .u16 (gS l).2.2.2.1)],.int .i64 (gS l).2.2.2.2]⟩:=cl (by kernel_rfl) uN (H:=s6 l) (fuel:=1000) Tryz.func136 (by kernel_rfl) fun hpre=>(zx l _).mpr (by
 have e91:(ByteArray.mk #[91]).data.toList=([91]:Bs):=rfl
 rw [e91]
 refine ⟨trivial,fun h=>⟨⟨?_,by omega⟩,?_⟩,fun h=>⟨fun h=>(by cases h),fun _=>⟨⟨by omega,by decide,by decide⟩,fun h2=>?_,fun h2=>⟨fun h3=>?_,fun h3=>?_⟩⟩⟩⟩
 ·cases l with
  |nil=>cases h
  |cons b r=>rw [List.length_cons];omega
 ·have:gS l=eP (l.drop 1):=by unfold gS;rw [if_pos h]
  rw [this]
 ·have h2':jc l nu=true:=h2
  have:gS l=Fk 8:=by unfold gS;rw [if_neg (by rw [h];decide),if_pos h2']
  rw [this];rfl
 ·have h2':jc l nu=false:=h2
  have h3':l=[]:=of_decide_eq_true h3
  have:gS l=(1,[],0,z8,0):=by unfold gS;rw [if_neg (by rw [h];decide),if_neg (by rw [h2'];decide),if_pos h3']
  rw [this];rfl
 ·have h2':jc l nu=false:=h2
  have h3':¬l=[]:=of_decide_eq_false h3
  have:gS l=(5,wY l,0,z8,0):=by unfold gS;rw [if_neg (by rw [h];decide),if_neg (by rw [h2'];decide),if_neg h3']
  rw [this]
  exact ⟨hpre,rfl⟩)
end
theorem xh {l:Bs}{x:Int}(h0:0≤x)(h1:x<l.length):l.drop x.toNat=l.getD x.toNat 0::l.drop (x+1).toNat:=by
 have hs:(x+1).toNat=x.toNat+1:=by omega
 rw [hs,List.drop_eq_getElem_cons (by omega),List.getD_eq_getElem?_getD,List.getElem?_eq_getElem (by omega)]
 rfl
theorem s7 {l:Bs}{x:Int}(h1:¬x<l.length):l.drop x.toNat=[]:=by rw [List.drop_eq_nil_iff];omega
structure RS where
 sc:Bs
 us:Bs
 pw:Bs
 hk:Int
 hs:Bs
 hn:Int
 hp:List Int
 port:Int
 opq:Bool
 pn:Bool
 pl:List Bs
 hq:Bool
 q:Bs
 hf:Bool
 fg:Bs
 bare:Bool
 sp:Bool
 rst:Bs
@[match_pattern] abbrev bD (m:Nat) (sc us pw:Bs) (hk:Int) (hs:Bs) (hn:Int) (hp:List Int) (port:Int) (opq pn:Bool) (pl:List Bs) (hq:Bool) (q:Bs) (hf:Bool) (fg:Bs):PV:=.agg [.str sc,.str us,.str pw,.agg [.int .i64 hk,.str hs,.int .u32 hn,.arr 8 (.ints .u16 hp)],.int .i64 port,.bool opq,.row pn (.strs pl) m,.bool hq,.str q,.bool hf,.str fg]
@[match_pattern] abbrev aC (m:Nat) (B:PV) (sc us pw:Bs) (hk:Int) (hs:Bs) (hn:Int) (hp:List Int) (port:Int) (opq pn:Bool) (pl:List Bs) (hq:Bool) (q:Bs) (hf:Bool) (fg:Bs) (bare sp:Bool) (rst:Bs):PV:=.agg [.agg [.str sc,.str us,.str pw,.agg [.int .i64 hk,.str hs,.int .u32 hn,.arr 8 (.ints .u16 hp)],.int .i64 port,.bool opq,.row pn (.strs pl) m,.bool hq,.str q,.bool hf,.str fg],B,.bool bare,.bool sp,.str rst]
def az(sp:Bool)(rst:Bs)(z:Int):Bool:=decide (z<ak rst)&&(decide (al rst z=47)||sp&&decide (al rst z=92))
theorem uO {sp:Bool}{rst:Bs}{z:Int}(h:az sp rst z=true):z<ak rst:=by by_cases g:z<ak rst;exact g;simp [az,g]at h
def aB:Nat→Bool→Int→Bs→Bs
 |0,_,_,l=>l
 |f+1,sp,n,l=>if az sp l 0=true∧(sp=true∨n<2)then aB f sp (n+1) (aa l 1)else l
theorem s8 {l:Bs}(h:0<l.length):(aa l 1).length+1=l.length:=by unfold aa;simp;omega
theorem xi {sp:Bool}{l:Bs}(h:az sp l 0=true):0<l.length:=by have:=uO h;unfold ak at this;omega
theorem xj {sp:Bool}{n:Int}{l:Bs}(h:az sp l 0=true∧(sp=true∨n<2)):aB l.length sp n l=aB (aa l 1).length sp (n+1) (aa l 1):=by
 rw [←s8 (xi h.1)]
 show(if _ then _ else _)=_
 rw [if_pos h]
theorem Bc {sp:Bool}{n:Int}{l:Bs}(h:¬(az sp l 0=true∧(sp=true∨n<2))):aB l.length sp n l=l:=by
 cases l with
 |nil=>rfl
 |cons b l=>
  show(if _ then _ else _)=_
  rw [if_neg h]
def bN(l:Bs):Bool:=decide (l=[])||(decide (al l 0=63)||decide (al l 0=35))
def ey(sp:Bool):Bs:=if sp=true then [47,92]else [47]
def ah(sp:Bool)(l:Bs):Nat:=bg l (ey sp++[63,35])
def aE(l:Bs):Nat:=bg l [63,35]
def xk(l:Bs):Nat:=bg l [35]
def RS.shl(r:RS):RS:={r with rst:=if az r.sp r.rst 0=true then aa r.rst 1 else r.rst}
def RS.skip(r:RS):RS:={r with rst:=aB r.rst.length r.sp 0 r.rst}
def RS.cut(r:RS)(z:Int):RS:={r with rst:=aa r.rst z}
def kq:Bool→Int→Bs→Int
 |_,_,[]=>-1
 |w,i,b::l=>if b.toNat=91 then kq true (i+1) l else if b.toNat=93 then kq false (i+1) l else if b.toNat=58∧w=false then i else kq w (i+1) l
def bd(l:Bs):Int:=kq false 0 l
def fU:Int→Bs→Option Int
 |n,[]=>some n
 |n,b::l=>if 48≤b.toNat∧b.toNat≤57 then fU (min (n*10+(b.toNat-48)) 65536) l else none
def cA(sc:Bs)(port:Int)(s:Bs):Int×Int:=match s with
 |[]=>(port,0)
 |s=>match fU 0 s with
  |none=>(port,8)
  |some n=>if 65535<n then(port,8)else if aw sc=true∧wR sc=n then(port,0)else(n,0)
def aO(sp:Bool)(l:Bs):H5:=if sp=true then cv l else gS l
def RS.bO(r:RS)(s:Bs):RS×Int:=
 if bd s=0∨(s=[]∧r.sp=true)then(r,8)else
 let name:=if 0<bd s then ae s (bd s)else s
 let pt:=if 0<bd s then aa s (bd s+1)else []
 let h:=aO r.sp name
 let r1:RS:={r with hk:=h.1,hs:=h.2.1,hn:=h.2.2.1,hp:=h.2.2.2.1}
 if h.2.2.2.2=0 then({r1 with port:=(cA r.sc r.port pt).1},(cA r.sc r.port pt).2)else(r1,h.2.2.2.2)
def RS.ba(r:RS):RS×Int:=
 let s:=ae r.rst (ah r.sp r.rst)
 let r1:=r.cut (ah r.sp r.rst)
 if 0≤aI s 64 then
  let r2:RS:={r1 with us:=bt 5 (dj (ae s (aI s 64)) 58),pw:=bt 5 (dG (ae s (aI s 64)) 58)}
  if aa s (aI s 64+1)=[]then(r2,8)else r2.bO (aa s (aI s 64+1))
 else r1.bO s
def KK:Bs:=[108,111,99,97,108,104,111,115,116]
def RS.av(r:RS):RS×Int:=
 let s:=ae r.rst (ah r.sp r.rst)
 let r1:=r.cut (ah r.sp r.rst)
 if s=[]then(r1,0)else
 let h:=cv s
 if h.1=2∧h.2.1=KK then(r1,h.2.2.2.2)else({r1 with hk:=h.1,hs:=h.2.1,hn:=h.2.2.1,hp:=h.2.2.2.1},h.2.2.2.2)
abbrev Pa:=Bool×List Bs
def b5(sc:Bs)(p:Pa):Pa:=if p.2=[]∨(p.2.length=1∧sc=fL∧nj (p.2.getD 0 [])=true)then p else(p.1,p.2.take (p.2.length-1))
def zz(p:Pa)(last:Bool):Pa:=if last=true then(false,p.2++[[]])else p
def cI(sc:Bs)(p:Pa)(s:Bs)(last:Bool):Pa:=
 if l9 s=true then zz (b5 sc p) last
 else if l8 s=true then zz p last
 else if sc=fL∧p.2=[]∧bM s=true then(false,p.2++[ae s 1++[58]])
 else(false,p.2++[bt 4 s])
def s9(sc:Bs)(m:Bs):Nat→Bs→Pa→Pa
 |0,_,p=>p
 |f+1,s,p=>if bg s m=s.length then cI sc p s true else s9 sc m f (s.drop (bg s m+1)) (cI sc p (s.take (bg s m)) false)
theorem qp(sc m:Bs):∀(f g:Nat) (s:Bs) (p:Pa),s.length<f→s.length<g→s9 sc m f s p=s9 sc m g s p
 |0,_,_,_,h,_=>by omega
 |_,0,_,_,_,h=>by omega
 |f+1,g+1,s,p,h,h'=>by
  unfold s9
  by_cases e:bg s m=s.length
  ·rw [if_pos e,if_pos e]
  ·rw [if_neg e,if_neg e]
   have hl:=fr s m
   exact qp sc m f g _ _ (by rw [List.length_drop];omega) (by rw [List.length_drop];omega)
@[irreducible] def ot (sc m s:Bs) (p:Pa):Pa:=s9 sc m (s.length+1) s p
theorem zA(sc m s:Bs)(p:Pa):ot sc m s p=if bg s m=s.length then cI sc p s true else ot sc m (s.drop (bg s m+1)) (cI sc p (s.take (bg s m)) false):=by
 unfold ot
 rw [s9]
 by_cases e:bg s m=s.length
 ·rw [if_pos e,if_pos e]
 ·rw [if_neg e,if_neg e]
  have hl:=fr s m
  exact qp sc m _ _ _ _ (by rw [List.length_drop];omega) (by rw [List.length_drop];omega)
def bu(sp:Bool)(sc:Bs)(s:Bs)(p:Pa):Pa:=ot sc (ey sp) s p
def RS.path(r:RS):RS:={r with
 pn:=(bu r.sp r.sc (ae r.rst (aE r.rst)) (r.pn,r.pl)).1
 pl:=(bu r.sp r.sc (ae r.rst (aE r.rst)) (r.pn,r.pl)).2
 rst:=aa r.rst (aE r.rst)}
def Lf:Bs:=[37,50,48]
def nz(s rest:Bs):Bs:=if rest≠[]∧0<s.length∧al s (s.length-1)=32 then bt 0 (ae s (s.length-1))++Lf else bt 0 s
def RS.o6(r:RS):RS:={r with opq:=true,pn:=false,pl:=[nz (ae r.rst (aE r.rst)) (aa r.rst (aE r.rst))],rst:=aa r.rst (aE r.rst)}
def RS.query(r:RS):RS:=if preB r.rst [63]=true then
    {r with hq:=true,q:=bt (if r.sp=true then 3 else 2) (ae (aa r.rst 1) (xk (aa r.rst 1))),rst:=aa (aa r.rst 1) (xk (aa r.rst 1))}
 else r
def RS.J4(r:RS):RS:=if preB r.rst [35]=true then {r with hf:=true,fg:=bt 1 (aa r.rst 1),rst:=aa r.rst 1}else r
def RS.tail(r:RS):RS:=r.query.J4
def RS.gh(r:RS):RS×Int:=if(ab r.rst r.rst 0).2.2=true then
    ({r with rst:=(ab r.rst r.rst 0).2.1,bare:=false,sc:=(ab r.rst r.rst 0).1,sp:=aw (ab r.rst r.rst 0).1},0)
 else(r,8)
def RS.bc(r:RS):RS×Int:=
 let r1:RS:={r with hk:=1}
 if az r.sp r.rst 0=true∧az r.sp r.rst 1=true then
  let r2:=r1.cut 2
  if bM (ae r2.rst (ah r2.sp r2.rst))=true then(r2.path,0)
  else if r2.av.2=0 then(r2.av.1.shl.path,0)else r2.av
 else(r1.shl.path,0)
def RS.b9(r:RS):RS×Int:=if r.ba.2=0 then
    (if r.ba.1.sp=false∧bN r.ba.1.rst=true then(r.ba.1.tail,0)else(r.ba.1.shl.path.tail,0))
 else r.ba
def RS.ao(r:RS):RS×Int:=if r.gh.2=0 then
    let r1:=r.gh.1
    if r1.sc=fL then(if r1.bc.2=0 then(r1.bc.1.tail,0)else r1.bc)
    else if r1.sp=true then r1.skip.b9
    else if preB r1.rst [47,47]=true then(r1.cut 2).b9
    else if preB r1.rst [47]=true then((r1.cut 1).path.tail,0)
    else(r1.o6.tail,0)
 else r.gh
theorem Ft {m xs:Bs}{y:UInt8}{zs:Bs}(h:∀b∈xs,m.contains b=false)(hy:m.contains y=true):bg (xs++y::zs) m=xs.length:=by
 unfold bg
 induction xs with
 |nil=>rw [List.nil_append,List.findIdx_cons,hy];rfl
 |cons x xs ih=>
  rw [List.cons_append,List.findIdx_cons,h x (List.mem_cons_self ..),ih (fun b hb=>h b (List.mem_cons_of_mem _ hb))]
  rfl
theorem CW(xs ys:Bs):ae (xs++ys) (xs.length:Int)=xs:=by unfold ae;rw [Int.toNat_natCast];simp
theorem CX(xs ys:Bs):aa (xs++ys) (xs.length:Int)=ys:=by unfold aa;rw [Int.toNat_natCast];simp
theorem Fu {l:Bs}{c:Int}(h:∀b∈l,(b.toNat:Int)≠c):¬0≤aI l c:=by
 rw [qk]
 rcases Lib.lastIndexByte_spec ⟨l.toArray⟩ c with⟨h1,-⟩|⟨i,h1,-,h3,-⟩
 ·rw [h1];decide
 ·exfalso
  have hi:i<l.length:=by simpa [ByteArray.size]using h1
  refine h l[i] (List.getElem_mem _) ?_
  rw [←h3]
  simp [getElem!_def,hi]
theorem Bd(l:Bs):∀(p r:Bs) (i:Nat),(∀b∈p,rE b=true)→ab l (p++r) i=ab l r (i+p.length)
 |[],r,i,_=>rfl
 |b::p,r,i,h=>by
  show(if rE b=true then ab l (p++r) (i+1)else _)=_
  rw [if_pos (h b (List.mem_cons_self ..)),Bd l p r (i+1) (fun c hc=>h c (List.mem_cons_of_mem _ hc))]
  congr 1
  simp;omega
theorem mn {p r:Bs}(hp:p≠[])(h:∀b∈p,rE b=true):ab (p++58::r) (p++58::r) 0=(bX p,r,true):=by
 rw [Bd _ p (58::r) 0 h]
 have h0:¬(0+p.length=0):=by simpa using hp
 show(if rE 58=true then _ else if 0+p.length=0 then _ else if(58:UInt8).toNat=58 then _ else _)=_
 rw [if_neg (by decide),if_neg h0]
 show(bX ((p++58::r).take (0+p.length)),(p++58::r).drop (0+p.length+1),true)=_
 rw [Nat.zero_add,List.take_left,←List.drop_drop,List.drop_left]
 rfl
theorem Be {sp:Bool}{n:Int}(b:UInt8)(l:Bs)(hb:b=47∨(sp=true∧b=92))(hn:sp=true∨n<2):aB (b::l).length sp n (b::l)=aB l.length sp (n+1) l:=by
 have:az sp (b::l) 0=true:=by
  unfold az
  rw [decide_eq_true (show(0:Int)<ak (b::l) by unfold ak;rw [List.length_cons];omega)]
  rcases hb with rfl|⟨h1,rfl⟩
  ·rfl
  ·rw [h1];rfl
 rw [xj ⟨this,hn⟩]
 rfl
theorem CY {sp:Bool}{n:Int}{l:Bs}(h:az sp l 0=false):aB l.length sp n l=l:=Bc (by rw [h];simp)
def zB(b:UInt8):Bool:=decide (b.toNat≤32)
def jM(b:UInt8):Bool:=decide (b=9∨b=10∨b=13)
def cZ(l:Bs):Bs:=l.dropWhile zB
def eK(l:Bs):Bs:=(l.reverse.dropWhile zB).reverse
def an(l:Bs):Bs:=(eK (cZ (bW l))).filter (fun b=>!jM b)
theorem xl {l:Bs}(h:∀b∈l,32<b.toNat):cZ l=l:=by
 unfold cZ
 cases l with
 |nil=>rfl
 |cons b l=>
  have:=h b (List.mem_cons_self ..)
  rw [List.dropWhile_cons_of_neg]
  unfold zB
  rw [decide_eq_true_iff];omega
theorem Fv {l:Bs}(h:∀b∈l,32<b.toNat):eK l=l:=by
 have:=xl (l:=l.reverse) (fun b hb=>h b (List.mem_reverse.1 hb))
 unfold cZ at this
 unfold eK
 rw [this,List.reverse_reverse]
theorem Fw {l:Bs}(hv:fk l=true)(h:∀b∈l,32<b.toNat):an l=l:=by
 unfold an
 rw [mb hv,xl h,Fv h,List.filter_eq_self]
 intro b hb
 have:=h b hb
 unfold jM
 rw [Bool.not_eq_true',decide_eq_false_iff_not]
 rintro (rfl|rfl|rfl)<;>revert this<;>decide
def RS.init(l:Bs):RS:=⟨[],[],[],0,[],0,z8,-1,false,true,[],false,[],false,[],false,false,l⟩
def KL:RS:={RS.init []with port:=0}
def KS(p:RS×Int):RS×Int:=if p.2=0 then p else(KL,p.2)
def aS(l:Bs):RS×Int:=KS (RS.init (an l)).ao
theorem rI {l p r:Bs}(hl:l=p++58::r)(hp:p≠[])(h:∀b∈p,rE b=true)(hf:bX p≠fL)(hs:aw (bX p)=true):
 (RS.init l).ao=({RS.init r with sc:=bX p,sp:=true,bare:=false}:RS).skip.b9:=by
 subst hl
 unfold RS.ao
 have e:(RS.init (p++58::r)).gh=({RS.init r with sc:=bX p,sp:=true,bare:=false},0):=by
  unfold RS.gh
  show(if(ab (p++58::r) (p++58::r) 0).2.2=true then _ else _)=_
  rw [show ab (RS.init (p++58::r)).rst (RS.init (p++58::r)).rst 0=(bX p,r,true)from mn hp h,mn hp h,if_pos rfl,hs]
  rfl
 rw [e,if_pos rfl]
 dsimp only
 rw [if_neg hf,if_pos rfl]
theorem xm {l p r:Bs}(hl:l=p++58::47::47::r)(hp:p≠[])(h:∀b∈p,rE b=true)(hs:aw (bX p)=false):
 (RS.init l).ao=({RS.init r with sc:=bX p,sp:=false,bare:=false}:RS).b9:=by
 subst hl
 unfold RS.ao
 have e:(RS.init (p++58::47::47::r)).gh=({RS.init (47::47::r)with sc:=bX p,sp:=false,bare:=false},0):=by
  unfold RS.gh
  show(if(ab (p++58::47::47::r) (p++58::47::47::r) 0).2.2=true then _ else _)=_
  rw [show ab (RS.init (p++58::47::47::r)).rst (RS.init (p++58::47::47::r)).rst 0=(bX p,47::47::r,true)from mn hp h,mn hp h,if_pos rfl,hs]
  rfl
 have hf:bX p≠fL:=fun e=>by rw [e]at hs;revert hs;decide
 rw [e,if_pos rfl]
 dsimp only
 rw [if_neg hf,if_neg (by decide),if_pos (by rfl)]
 rfl
section
theorem qq(l:Bs):(bW l).length≤4*l.length:=by
 have a:=(lW (gC l)).2
 have b:=lV _ l (Nat.le_refl _)
 unfold bW;omega
theorem qu {b:UInt8}{r:Bs}(h:b.toNat≤32):cZ (b::r)=cZ r:=by
 unfold cZ
 rw [List.dropWhile_cons_of_pos]
 unfold zB;exact decide_eq_true h
theorem qv {b:UInt8}{r:Bs}(h:¬b.toNat≤32):cZ (b::r)=b::r:=by
 unfold cZ
 rw [List.dropWhile_cons_of_neg]
 unfold zB;rw [decide_eq_true_iff];exact h
theorem zC {b:UInt8}{r:Bs}(h:b.toNat≤32):eK (r++[b])=eK r:=by
 have:=qu (r:=r.reverse) h
 unfold cZ at this
 unfold eK
 rw [List.reverse_append]
 show(List.dropWhile zB (b::r.reverse)).reverse=_
 rw [this]
theorem zD {b:UInt8}{r:Bs}(h:¬b.toNat≤32):eK (r++[b])=r++[b]:=by
 have:=qv (r:=r.reverse) h
 unfold cZ at this
 unfold eK
 rw [List.reverse_append]
 show(List.dropWhile zB (b::r.reverse)).reverse=_
 rw [this];simp
theorem Fx {y m:Bs}(h:jc y m=false):∀b∈y,m.contains b=false:=by
 have h1:¬0≤Lib.indexAny y m:=of_decide_eq_false h
 have h2:=((zq m y).2 h1).2
 unfold bg at h2
 exact List.findIdx_eq_length.1 h2
theorem J5(c:UInt8):(bif bif !decide ((c.toNat:Int)=9)then !decide ((c.toNat:Int)=10)else false then !decide ((c.toNat:Int)=13)else false)=!jM c:=by
 have e:∀(d:UInt8),decide ((c.toNat:Int)=(d.toNat:Int))=decide (c=d):=fun d=>by
  rw [decide_eq_decide]
  exact ⟨fun h=>UInt8.toNat_inj.1 (by omega),fun h=>by rw [h]⟩
 have e9:=e 9
 have e10:=e 10
 have e13:=e 13
 rw [show(((9:UInt8).toNat:Nat):Int)=9 from rfl]at e9
 rw [show(((10:UInt8).toNat:Nat):Int)=10 from rfl]at e10
 rw [show(((13:UInt8).toNat:Nat):Int)=13 from rfl]at e13
 rw [e9,e10,e13]
 unfold jM
 by_cases h9:c=9<;>by_cases h10:c=10<;>by_cases h13:c=13<;>simp [h9,h10,h13]
theorem xn(y:Bs)(i:Int)(h0:0≤i)(h1:i<y.length):(y.take (i+1).toNat).filter (fun c=>!jM c)=(y.take i.toNat).filter (fun c=>!jM c)++(if jM (y.getD i.toNat 0)=true then []else [y.getD i.toNat 0]):=by
 have hs:(i+1).toNat=i.toNat+1:=by omega
 rw [hs,List.take_add_one,List.getElem?_eq_getElem (by omega),List.filter_append,List.getD_eq_getElem?_getD,List.getElem?_eq_getElem (by omega)]
 congr 1
 show List.filter _ [y[i.toNat]'(by omega)]=_
 rw [List.filter_cons,List.filter_nil]
 show(if(!jM (y[i.toNat]'(by omega)))=true then _ else _)=(if jM (y[i.toNat]'(by omega))=true then _ else _)
 cases jM (y[i.toNat]'(by omega))<;>rfl
def Bf:cr:=bP [(41,nv),(74,mg)]
def Bg(l:Bs):aY:=fun i=>bif Nat.beq i 2 then some ⟨(Bs),(fun s x=>((s.put 0 (.str x)).put 14 .undef)),(fun s=>s.str 0),(fun s x=>let y:=x;y.length≤300000∧cZ y=cZ (bW l)),(fun s x=>let y:=x;y.length),[14]⟩else bif Nat.beq i 4 then some ⟨(Bs),(fun s x=>((s.put 0 (.str x)).put 26 .undef)),(fun s=>s.str 0),(fun s x=>let y:=x;y.length≤300000∧eK y=eK (cZ (bW l))),(fun s x=>let y:=x;y.length),[26]⟩else bif Nat.beq i 10 then some ⟨(Int)×(Bool×Bs),(fun s x=>((((((s.put 41 (.int .i64 x.1)).row s 3 x.2.1 (.bytes x.2.2)).put 4 .undef).put 5 .undef).put 42 .undef).put 56 .undef)),(fun s=>(s.int 41,(s.nil 3,s.bytes 3))),(fun s x=>let i:=x.1;let b:=x.2;0≤i∧i≤(s.str 0).length∧b.1=false∧b.2=((s.str 0).take i.toNat).filter (fun c=>!jM c)),(fun s x=>let i:=x.1;let b:=x.2;(((s.str 0).length:Int)-i).toNat),[4,5,42,56]⟩else none
theorem zE:cS Tryz.prog ay Bf:=ai uJ (ai kW (ax))
theorem Fy(l:Bs)(k:PV→Prop):cD Tryz.prog Bf ay (Bg l) 1000 Tryz.f46 [.str l] k=(
 (List.length l).le (1000000:Nat)∧
 VS.mk []
 [(0,PV.str (bW l)),(2,PV.str (ByteArray.mk #[]).data.toList),
 (3,PV.undef),(4,PV.undef),(5,PV.undef),((14:Nat),PV.undef),(26,PV.undef),
 (34,PV.undef),(40,PV.undef),(41,PV.undef),(42,PV.undef),(56,PV.undef)]
 []=
 VS.mk []
 [((0:Nat),PV.str (bW l)),(2,PV.str (ByteArray.mk #[]).data.toList),
 (3,PV.undef),(4,PV.undef),(5,PV.undef),((14:Nat),PV.undef),(26,PV.undef),
 (34,PV.undef),(40,PV.undef),(41,PV.undef),(42,PV.undef),(56,PV.undef)]
 []∧
 ((bW l).length≤(300000:Nat)∧
 cZ (bW l)=
 cZ (bW l))∧
 ∀(x:List UInt8),
 x.length≤(300000:Nat)∧
 cZ x=cZ (bW l)→
 ((!decide (x=(ByteArray.mk #[]).data.toList))=true→within (0:Int) (ak x))∧
 ((bif !decide (x=(ByteArray.mk #[]).data.toList)then decide (al x (0:Int)≤(32:Int))else false)=true→
 upto (1:Int) (ak x) (ak x)∧
 vD (VS.mk []
 [((0:Nat),PV.str (aa x (1:Int))),(2,PV.str (ByteArray.mk #[]).data.toList),
 (3,PV.undef),(4,PV.undef),(5,PV.undef),((14:Nat),PV.undef),
 (26,PV.undef),(34,PV.undef),(40,PV.undef),(41,PV.undef),
 (42,PV.undef),(56,PV.undef)]
 [])∧
 ((aa x (1:Int)).length≤(300000:Nat)∧
 cZ (aa x (1:Int))=
 cZ (bW l))∧
 (aa x (1:Int)).length<x.length)∧
 ((bif !decide (x=(ByteArray.mk #[]).data.toList)then decide (al x (0:Int)≤(32:Int))else false)=false→
 vD (VS.mk []
 [((0:Nat),PV.str x),(2,PV.str (ByteArray.mk #[]).data.toList),(3,PV.undef),
 (4,PV.undef),(5,PV.undef),
 ((14:Nat),
 PV.bool (bif !decide (x=(ByteArray.mk #[]).data.toList)then decide (al x (0:Int)≤(32:Int))else false)),
 ((26:Nat),PV.undef),(34,PV.undef),(40,PV.undef),(41,PV.undef),
 (42,PV.undef),(56,PV.undef)]
 [])∧
 (x.length≤(300000:Nat)∧
 eK x=
 eK (cZ (bW l)))∧
 ∀(x_1:List UInt8),
 x_1.length≤(300000:Nat)∧
 eK x_1=
 eK
 (cZ (bW l))→
 ((!decide (x_1=(ByteArray.mk #[]).data.toList))=true→aK (ak x_1-(1:Int)))∧
 ((!decide (x_1=(ByteArray.mk #[]).data.toList))=true→within (ak x_1-(1:Int)) (ak x_1))∧
 ((bif !decide (x_1=(ByteArray.mk #[]).data.toList)then decide (al x_1 (ak x_1-(1:Int))≤(32:Int))
 else false)=
 true→
 aK (ak x_1-(1:Int))∧
 upto (0:Int) (ak x_1-(1:Int)) (ak x_1)∧
 vD (VS.mk []
 [((0:Nat),PV.str (ae x_1 (ak x_1-(1:Int)))),
 (2,PV.str (ByteArray.mk #[]).data.toList),(3,PV.undef),(4,PV.undef),
 (5,PV.undef),
 ((14:Nat),
 PV.bool
 (bif !decide (x=(ByteArray.mk #[]).data.toList)then decide (al x (0:Int)≤(32:Int))
 else false)),
 ((26:Nat),PV.undef),(34,PV.undef),(40,PV.undef),
 (41,PV.undef),(42,PV.undef),(56,PV.undef)]
 [])∧
 ((ae x_1 (ak x_1-(1:Int))).length≤(300000:Nat)∧
 eK (ae x_1 (ak x_1-(1:Int)))=
 eK
 (cZ (bW l)))∧
 (ae x_1 (ak x_1-(1:Int))).length<x_1.length)∧
 ((bif !decide (x_1=(ByteArray.mk #[]).data.toList)then decide (al x_1 (ak x_1-(1:Int))≤(32:Int))
 else false)=
 false→
 (x_1.length≤(1000000:Nat)∧
 (ByteArray.mk #[9,10,13]).data.toList.length≤(1000000:Nat)∧
 ∀(b:UInt8),b∈(ByteArray.mk #[9,10,13]).data.toList→b.toNat<(128:Nat))∧
 ((!jc x_1 (ByteArray.mk #[9,10,13]).data.toList)=
 true→
 k (PV.str x_1))∧
 ((!jc x_1 (ByteArray.mk #[9,10,13]).data.toList)=
 false→
 ((0:Int)≤(0:Int)∧(0:Int)≤ak x_1∧ak x_1≤dc)∧
 VS.mk []
 [((0:Nat),PV.str x_1),(2,PV.str (ByteArray.mk #[]).data.toList),
 (3,
 PV.row false (aq.bytes (List.replicate (Int.toNat (0:Int)) (0:UInt8)))
 ((38:Nat)+(32:Nat))),
 ((4:Nat),PV.undef),((5:Nat),PV.undef),
 ((14:Nat),
 PV.bool
 (bif !decide (x=(ByteArray.mk #[]).data.toList)then decide (al x (0:Int)≤(32:Int))
 else false)),
 ((26:Nat),
 PV.bool
 (bif !decide (x_1=(ByteArray.mk #[]).data.toList)then
 decide (al x_1 (ak x_1-(1:Int))≤(32:Int))
 else false)),
 (34,
 PV.bool
 !jc x_1
 (ByteArray.mk #[9,10,13]).data.toList),
 (40,PV.int .i64 (ak x_1)),(41,PV.int .i64 (0:Int)),
 ((42:Nat),PV.undef),((56:Nat),PV.undef)]
 []=
 VS.mk []
 [((0:Nat),PV.str x_1),(2,PV.str (ByteArray.mk #[]).data.toList),
 ((3:Nat),
 PV.row false (aq.bytes (List.replicate (Int.toNat (0:Int)) (0:UInt8)))
 ((38:Nat)+(32:Nat))),
 ((4:Nat),PV.undef),((5:Nat),PV.undef),
 ((14:Nat),
 PV.bool
 (bif !decide (x=(ByteArray.mk #[]).data.toList)then decide (al x (0:Int)≤(32:Int))
 else false)),
 ((26:Nat),
 PV.bool
 (bif !decide (x_1=(ByteArray.mk #[]).data.toList)then
 decide (al x_1 (ak x_1-(1:Int))≤(32:Int))
 else false)),
 (34,
 PV.bool
 !jc x_1
 (ByteArray.mk #[9,10,13]).data.toList),
 (40,PV.int .i64 (ak x_1)),((41:Nat),PV.int .i64 (0:Int)),
 ((42:Nat),PV.undef),((56:Nat),PV.undef)]
 []∧
 ((0:Int)≤(0:Int)∧
 (0:Int)≤↑x_1.length∧
 false=false∧
 List.replicate (Int.toNat (0:Int)) (0:UInt8)=
 List.filter (fun(c:UInt8)↦!jM c)
 (List.take (Int.toNat (0:Int)) x_1))∧
 ∀(x_2:Int×Bool×Bs),
 (0:Int)≤x_2.1∧
 x_2.1≤↑x_1.length∧
 x_2.2.1=false∧
 x_2.2.2=
 List.filter (fun(c:UInt8)↦!jM c)
 (List.take x_2.1.toNat x_1)→
 (decide (x_2.1<ak x_1)=true→
 within x_2.1 (ak x_1)∧
 ((bif
 bif !decide (al x_1 x_2.1=(9:Int))then
 !decide (al x_1 x_2.1=(10:Int))
 else false then
 !decide (al x_1 x_2.1=(13:Int))
 else false)=
 true→
 lC [PV.int .u8 (al x_1 x_2.1)]∧
 Int.ofNat (List.length (x_2.2.2++[bQ (al x_1 x_2.1)]))≤dc∧
 aK (x_2.1+(1:Int))∧
 VS.mk []
 [((0:Nat),PV.str x_1),(2,PV.str (ByteArray.mk #[]).data.toList),
 ((3:Nat),
 PV.row false
 (aq.bytes (x_2.2.2++[bQ (al x_1 x_2.1)]))
 (nat_lit 69+(1:Nat))),
 ((4:Nat),PV.undef),((5:Nat),PV.undef),
 ((14:Nat),
 PV.bool
 (bif !decide (x=(ByteArray.mk #[]).data.toList)then
 decide (al x (0:Int)≤(32:Int))
 else false)),
 ((26:Nat),
 PV.bool
 (bif !decide (x_1=(ByteArray.mk #[]).data.toList)then
 decide (al x_1 (ak x_1-(1:Int))≤(32:Int))
 else false)),
 (34,
 PV.bool
 !jc x_1
 (ByteArray.mk #[9,10,13]).data.toList),
 (40,PV.int .i64 (ak x_1)),
 ((41:Nat),PV.int .i64 (x_2.1+(1:Int))),
 ((42:Nat),PV.undef),((56:Nat),PV.undef)]
 []=
 VS.mk []
 [((0:Nat),PV.str x_1),(2,PV.str (ByteArray.mk #[]).data.toList),
 ((3:Nat),
 PV.row false
 (aq.bytes (x_2.2.2++[bQ (al x_1 x_2.1)]))
 ((38:Nat)+(32:Nat))),
 ((4:Nat),PV.undef),((5:Nat),PV.undef),
 ((14:Nat),
 PV.bool
 (bif !decide (x=(ByteArray.mk #[]).data.toList)then
 decide (al x (0:Int)≤(32:Int))
 else false)),
 ((26:Nat),
 PV.bool
 (bif !decide (x_1=(ByteArray.mk #[]).data.toList)then
 decide (al x_1 (ak x_1-(1:Int))≤(32:Int))
 else false)),
 (34,
 PV.bool
 !jc x_1
 (ByteArray.mk #[9,10,13]).data.toList),
 (40,PV.int .i64 (ak x_1)),
 ((41:Nat),PV.int .i64 (x_2.1+(1:Int))),
 ((42:Nat),PV.undef),((56:Nat),PV.undef)]
 []∧
 ((0:Int)≤x_2.1+(1:Int)∧
 x_2.1+(1:Int)≤↑x_1.length∧
 false=false∧
 x_2.2.2++[bQ (al x_1 x_2.1)]=
 List.filter (fun(c:UInt8)↦!jM c)
 (List.take (x_2.1+(1:Int)).toNat x_1))∧
 (↑x_1.length-(x_2.1+(1:Int))).toNat<(↑x_1.length-x_2.1).toNat)∧
 ((bif
 bif !decide (al x_1 x_2.1=(9:Int))then
 !decide (al x_1 x_2.1=(10:Int))
 else false then
 !decide (al x_1 x_2.1=(13:Int))
 else false)=
 false→
 aK (x_2.1+(1:Int))∧
 vD (VS.mk []
 [((0:Nat),PV.str x_1),(2,PV.str (ByteArray.mk #[]).data.toList),
 ((3:Nat),
 PV.row x_2.2.1 (aq.bytes x_2.2.2) ((38:Nat)+(32:Nat))),
 ((4:Nat),PV.undef),((5:Nat),PV.undef),
 ((14:Nat),
 PV.bool
 (bif !decide (x=(ByteArray.mk #[]).data.toList)then
 decide (al x (0:Int)≤(32:Int))
 else false)),
 ((26:Nat),
 PV.bool
 (bif !decide (x_1=(ByteArray.mk #[]).data.toList)then
 decide (al x_1 (ak x_1-(1:Int))≤(32:Int))
 else false)),
 (34,
 PV.bool
 !jc x_1
 (ByteArray.mk #[9,10,13]).data.toList),
 (40,PV.int .i64 (ak x_1)),
 ((41:Nat),PV.int .i64 (x_2.1+(1:Int))),
 ((42:Nat),PV.undef),((56:Nat),PV.undef)]
 [])∧
 ((0:Int)≤x_2.1+(1:Int)∧
 x_2.1+(1:Int)≤↑x_1.length∧
 x_2.2.1=false∧
 x_2.2.2=
 List.filter (fun(c:UInt8)↦!jM c)
 (List.take (x_2.1+(1:Int)).toNat x_1))∧
 (↑x_1.length-(x_2.1+(1:Int))).toNat<(↑x_1.length-x_2.1).toNat))∧
 (decide (x_2.1<ak x_1)=false→k (PV.str x_2.2.2)))))):=by kernel_rfl
attribute [local irreducible] Go.Vc.cD
theorem Fz(l:Bs):ag Tryz.prog ay 46 [.str l] ⟨l.length≤60000,.str (an l)⟩:=cl (by kernel_rfl) zE (H:=Bg l) (fuel:=1000) Tryz.func46 (by kernel_rfl) fun hpre=>(Fy l _).mpr (by
 have hp:=qq l
 have e0:(ByteArray.mk #[]).data.toList=([]:Bs):=rfl
 have h9:∀b:UInt8,b∈(ByteArray.mk #[9,10,13]).data.toList→b.toNat<128:=by rw [show(ByteArray.mk #[9,10,13]).data.toList=([9,10,13]:Bs)from rfl];decide
 have ne:∀x:Bs,(!decide (x=(ByteArray.mk #[]).data.toList))=true→0<x.length:=fun x h=>by
  have h':decide (x=(ByteArray.mk #[]).data.toList)=false:=by simpa using h
  exact List.length_pos_iff.2 (of_decide_eq_false h')
 have d1:∀x:Bs,(bif !decide (x=(ByteArray.mk #[]).data.toList)then decide (al x (0:Int)≤(32:Int))else false)=true→∃b r,x=b::r∧b.toNat≤32:=fun x h=>by
  cases x with
  |nil=>cases h
  |cons b r=>
   refine ⟨b,r,rfl,?_⟩
   have:decide (al (b::r) (0:Int)≤(32:Int))=true:=h
   have:=of_decide_eq_true this
   have e:al (b::r) 0=(b.toNat:Int):=rfl
   omega
 have d0:∀x:Bs,(bif !decide (x=(ByteArray.mk #[]).data.toList)then decide (al x (0:Int)≤(32:Int))else false)=false→cZ x=x:=fun x h=>by
  cases x with
  |nil=>rfl
  |cons b r=>
   have:decide (al (b::r) (0:Int)≤(32:Int))=false:=h
   have:=of_decide_eq_false this
   have e:al (b::r) 0=(b.toNat:Int):=rfl
   exact qv (by omega)
 have lastb:∀(r:Bs) (b:UInt8),al (r++[b]) (ak (r++[b])-1)=(b.toNat:Int):=fun r b=>by
  unfold al ak
  have:(((r++[b]).length:Int)-1).toNat=r.length:=by simp
  rw [this];simp
 have g1:∀x:Bs,(bif !decide (x=(ByteArray.mk #[]).data.toList)then decide (al x (ak x-(1:Int))≤(32:Int))else false)=true→∃b r,x=r++[b]∧b.toNat≤32:=fun x h=>by
  rcases List.eq_nil_or_concat x with rfl|⟨r,b,rfl⟩
  ·cases h
  ·refine ⟨b,r,by simp,?_⟩
   rw [List.concat_eq_append]at h
   cases e:(!decide (r++[b]=(ByteArray.mk #[]).data.toList))with
   |false=>rw [e]at h;cases h
   |true=>
    rw [e]at h
    have:=of_decide_eq_true (show decide _=true from h)
    rw [lastb]at this
    omega
 have g0:∀x:Bs,(bif !decide (x=(ByteArray.mk #[]).data.toList)then decide (al x (ak x-(1:Int))≤(32:Int))else false)=false→eK x=x:=fun x h=>by
  rcases List.eq_nil_or_concat x with rfl|⟨r,b,rfl⟩
  ·rfl
  ·rw [List.concat_eq_append]at h⊢
   cases e:(!decide (r++[b]=(ByteArray.mk #[]).data.toList))with
   |false=>
    have:decide (r++[b]=(ByteArray.mk #[]).data.toList)=true:=by rw [←Bool.not_eq_false'];exact e
    have:=of_decide_eq_true this
    exact absurd this (by rw [e0];simp)
   |true=>
    rw [e]at h
    have:=of_decide_eq_false (show decide _=false from h)
    rw [lastb]at this
    exact zD (by omega)
 refine ⟨show l.length≤1000000 by omega,rfl,⟨by omega,rfl⟩,fun x ⟨h1,h2⟩=>⟨fun h=>?_,fun h=>?_,fun h=>⟨rfl,⟨h1,by rw [←h2,d0 x h]⟩,fun y ⟨h3,h4⟩=>⟨fun g=>?_,fun g=>?_,fun g=>?_,fun g=>⟨⟨by omega,by decide,h9⟩,fun c=>?_,fun c=>⟨⟨Int.le_refl _,by unfold ak;omega,by unfold ak dc;omega⟩,rfl,⟨Int.le_refl _,by omega,rfl,rfl⟩,fun z ⟨z0,z1,z2,z3⟩=>⟨fun d=>?_,fun d=>?_⟩⟩⟩⟩⟩⟩⟩
 ·have:=ne x h;unfold within ak;omega
 ·obtain ⟨b,r,rfl,hb⟩:=d1 x h
  rw [qu hb]at h2
  rw [List.length_cons]at h1
  refine ⟨by unfold upto ak;rw [List.length_cons];omega,rfl,⟨?_,h2⟩,?_⟩
  ·show r.length≤_;omega
  ·show r.length<(b::r).length;rw [List.length_cons];omega
 ·have:=ne y g;unfold aK ak;omega
 ·have:=ne y g;unfold within ak;omega
 ·obtain ⟨b,r,rfl,hb⟩:=g1 y g
  rw [zC hb]at h4
  rw [List.length_append]at h3
  have hl:(r++[b]).length=r.length+1:=by simp
  have e:ae (r++[b]) (ak (r++[b])-1)=r:=by
   unfold ae ak
   have:(((r++[b]).length:Int)-1).toNat=r.length:=by simp
   rw [this,List.take_left]
  rw [e]
  exact ⟨by unfold aK ak;omega,by unfold upto ak;omega,rfl,⟨by omega,h4⟩,by omega⟩
 ·have hc:jc y [9,10,13]=false:=by simpa using c
  have h5:=Fx hc
  have h6:y.filter (fun c=>!jM c)=y:=by
   rw [List.filter_eq_self]
   intro b hb
   have:=h5 b hb
   unfold jM
   rw [Bool.not_eq_true',decide_eq_false_iff_not]
   rintro (rfl|rfl|rfl)<;>revert this<;>decide
  show PV.str y=PV.str (an l)
  unfold an
  rw [←h4,g0 y g,h6]
 ·have hlt:z.1<y.length:=of_decide_eq_true d
  have hst:=xn y z.1 z0 hlt
  have hby:al y z.1=((y.getD z.1.toNat 0).toNat:Int):=rfl
  have hcr:=(y.getD z.1.toNat 0).toNat_lt
  have hzl:z.2.2.length≤y.length:=by rw [z3];exact Nat.le_trans (List.length_filter_le _ _) (by rw [List.length_take];exact Nat.min_le_right _ _)
  have hzb:bQ (al y z.1)=y.getD z.1.toNat 0:=jF y z.1
  rw [hzb,hby,J5]
  refine ⟨⟨z0,hlt⟩,fun e=>⟨?_,?_,by unfold aK;omega,rfl,⟨by omega,by omega,rfl,?_⟩,by omega⟩,fun e=>⟨by unfold aK;omega,rfl,⟨by omega,by omega,z2,?_⟩,by omega⟩⟩
  ·show o9 (((y.getD z.1.toNat 0).toNat:Nat):Int);unfold o9;omega
  ·rw [List.length_append]
   show((z.2.2.length+1:Nat):Int)≤16777216
   omega
  ·rw [hst,if_neg (by simpa using e),z3]
  ·rw [hst,if_pos (by simpa using e),z3,List.append_nil]
 ·have hge:¬z.1<y.length:=of_decide_eq_false d
  show PV.str z.2.2=PV.str (an l)
  unfold an
  rw [z3,←h4,g0 y g,List.take_of_length_le (by omega)])
def kj:List PV→Option aF:=fun xs=>match xs with
 |[.str l]=>some ⟨l.length≤60000,.str (an l)⟩
 |_=>none
theorem mo:∀xs c,kj xs=some c→ag Tryz.prog ay 46 xs c:=fun xs c h=>by
 unfold kj at h
 split at h
 ·injection h with h;subst h;exact Fz _
 ·cases h
end
def bS(b:PV)(m:Nat)(sc us pw:Bs)(hk:Int)(hs:Bs)(hn:Int)(hp:List Int)(port:Int)(opq pn:Bool)(pl:List Bs)(hq:Bool)(q:Bs)(hf:Bool)(fg:Bs)(bare sp:Bool)(rst:Bs):PV:=(aC m b sc us pw hk hs hn hp port opq pn pl hq q hf fg bare sp rst)
theorem zF(l:Bs)(sp:Bool):ag Tryz.prog ay 136 [.str l,.bool sp] ⟨l.length≤300000,.tup [.agg [.int .i64 (aO sp l).1,.str (aO sp l).2.1,.int .u32 (aO sp l).2.2.1,.arr 8 (.ints .u16 (aO sp l).2.2.2.1)],.int .i64 (aO sp l).2.2.2.2]⟩:=by
 cases sp with
 |true=>exact (s4 l).to (fun h=>by show l.length≤1000000;omega) (fun _=>rfl)
 |false=>exact (zy l).to (fun h=>h) (fun _=>rfl)
def jN:List PV→Option aF:=fun xs=>match xs with |[.str l,.bool sp]=>some ⟨l.length≤300000,.tup [.agg [.int .i64 (aO sp l).1,.str (aO sp l).2.1,.int .u32 (aO sp l).2.2.1,.arr 8 (.ints .u16 (aO sp l).2.2.2.1)],.int .i64 (aO sp l).2.2.2.2]⟩|_=>none
theorem qw:∀xs c,jN xs=some c→ag Tryz.prog ay 136 xs c:=fun xs c h=>by
 unfold jN at h
 split at h
 ·injection h with h;subst h;exact zF _ _
 ·cases h
theorem Ia(l:Bs):ag Tryz.prog ay 119 [.str l] ⟨l.length≤300000∧(ab l l 0).2.2=true,.tup [.str (ab l l 0).1,.str (ab l l 0).2.1,.bool true]⟩:=(sZ l).to (fun h=>h.1) (fun h=>by rw [h.2])
theorem Ib(l:Bs):ag Tryz.prog ay 119 [.str l] ⟨l.length≤300000∧(ab l l 0).2.2=false,.tup [.str (ab l l 0).1,.str (ab l l 0).2.1,.bool false]⟩:=(sZ l).to (fun h=>h.1) (fun h=>by rw [h.2])
def qx:List PV→Option aF:=fun xs=>match xs with |[.str l]=>some ⟨l.length≤300000∧(ab l l 0).2.2=true,.tup [.str (ab l l 0).1,.str (ab l l 0).2.1,.bool true]⟩|_=>none
theorem xo:∀xs c,qx xs=some c→ag Tryz.prog ay 119 xs c:=fun xs c h=>by
 unfold qx at h
 split at h
 ·injection h with h;subst h;exact Ia _
 ·cases h
def mq:List PV→Option aF:=fun xs=>match xs with |[.str l]=>some ⟨l.length≤300000∧(ab l l 0).2.2=false,.tup [.str (ab l l 0).1,.str (ab l l 0).2.1,.bool false]⟩|_=>none
theorem ou:∀xs c,mq xs=some c→ag Tryz.prog ay 119 xs c:=fun xs c h=>by
 unfold mq at h
 split at h
 ·injection h with h;subst h;exact Ib _
 ·cases h
section
def ta:cr:=bP [(119,qx),(27,dM)]
def tb(sc us pw:Bs)(hk:Int)(hs:Bs)(hn:Int)(hp:List Int)(port:Int)(opq pn:Bool)(pl:List Bs)(hq:Bool)(q:Bs)(hf:Bool)(fg:Bs)(bare sp:Bool)(rst:Bs):aY:=fun i=>none
theorem uP:cS Tryz.prog ay ta:=ai xo (ai dN (ax))
theorem zG(sc us pw:Bs)(hk:Int)(hs:Bs)(hn:Int)(hp:List Int)(port:Int)(opq pn:Bool)(pl:List Bs)(hq:Bool)(q:Bs)(hf:Bool)(fg:Bs)(bare sp:Bool)(rst:Bs)(k:PV→List PV→Prop):bL Tryz.prog ta ay (tb sc us pw hk hs hn hp port opq pn pl hq q hf fg bare sp rst) 1000 Tryz.f75 [.ptr 0 0] [aC 1 (.raw (.pointer none)) sc us pw hk hs hn hp port opq pn pl hq q hf fg bare sp rst] k=(
 (List.length rst≤(300000:Nat)∧
 (ab rst rst (0:Nat)).2.2=true)∧
 (true=true→
 True∧
 ((!true)=true→
 False)∧
 ((!true)=true→
 False)∧
 ((!true)=true→
 False)∧
 (false=true→
 False)∧
 (false=false→
 k (PV.int .i64 (0:Int)) [bS (PV.raw (Go.Value.pointer none)) 1 ((ab rst rst (0:Nat)).1) us pw hk hs hn hp port opq pn pl hq q hf fg (!true) (aw (ab rst rst (0:Nat)).1) ((ab rst rst (0:Nat)).2.1)]))∧
 (true=false→
 (true=true→
 (true=true→
 k (PV.int .i64 (8:Int)) [bS (PV.raw (Go.Value.pointer none)) 1 sc us pw hk hs hn hp port opq pn pl hq q hf fg bare sp rst])∧
 (true=false→
 False))∧
 (true=false→
 False))):=by kernel_rfl
attribute [local irreducible] Go.Vc.cD Go.Vc.bL
theorem uQ(sc us pw:Bs)(hk:Int)(hs:Bs)(hn:Int)(hp:List Int)(port:Int)(opq pn:Bool)(pl:List Bs)(hq:Bool)(q:Bs)(hf:Bool)(fg:Bs)(bare sp:Bool)(rst:Bs):bm Tryz.prog ay 75 [.ptr 0 0] [aC 1 (.raw (.pointer none)) sc us pw hk hs hn hp port opq pn pl hq q hf fg bare sp rst] (rst.length≤300000∧(ab rst rst 0).2.2=true) (.int .i64 0) [aC 1 (.raw (.pointer none)) ((ab rst rst 0).1) us pw hk hs hn hp port opq pn pl hq q hf fg false (aw (ab rst rst 0).1) ((ab rst rst 0).2.1)]:=bz (by kernel_rfl) uP (H:=tb sc us pw hk hs hn hp port opq pn pl hq q hf fg bare sp rst) (fuel:=1000) Tryz.func75 (by kernel_rfl) (Nat.le_of_ble_eq_true rfl) fun hpre=>(zG sc us pw hk hs hn hp port opq pn pl hq q hf fg bare sp rst _).mpr (by
 exact ⟨hpre,fun _=>⟨trivial,fun h=>(by cases h),fun h=>(by cases h),fun h=>(by cases h),fun h=>(by cases h),fun _=>⟨rfl,rfl⟩⟩,fun h=>(by cases h)⟩)
theorem zH(sc us pw:Bs)(hk:Int)(hs:Bs)(hn:Int)(hp:List Int)(port:Int)(opq pn:Bool)(pl:List Bs)(hq:Bool)(q:Bs)(hf:Bool)(fg:Bs)(bare sp:Bool)(rst:Bs):ag Tryz.prog ay 75 [.ptr 0 0,aC 1 (.raw (.pointer none)) sc us pw hk hs hn hp port opq pn pl hq q hf fg bare sp rst] ⟨rst.length≤300000∧(ab rst rst 0).2.2=true,.tup [.int .i64 0,aC 1 (.raw (.pointer none)) ((ab rst rst 0).1) us pw hk hs hn hp port opq pn pl hq q hf fg false (aw (ab rst rst 0).1) ((ab rst rst 0).2.1)]⟩:=ag.aZ (fun h=>by have e:List.isEmpty (PV.aA PV.bw [.ptr 0 0,aC 1 (.raw (.pointer none)) sc us pw hk hs hn hp port opq pn pl hq q hf fg bare sp rst])=false:=(by kernel_rfl);exact Bool.noConfusion (e.symm.trans (congrArg List.isEmpty h))) (uQ sc us pw hk hs hn hp port opq pn pl hq q hf fg bare sp rst)
def jO:List PV→Option aF:=fun xs=>match xs with
 |[.ptr 0 0,aC 1 (.raw (.pointer none)) sc us pw hk hs hn hp port opq pn pl hq q hf fg bare sp rst]=>some ⟨rst.length≤300000∧(ab rst rst 0).2.2=true,.tup [.int .i64 0,aC 1 (.raw (.pointer none)) ((ab rst rst 0).1) us pw hk hs hn hp port opq pn pl hq q hf fg false (aw (ab rst rst 0).1) ((ab rst rst 0).2.1)]⟩
 |_=>none
theorem qy:∀xs c,jO xs=some c→ag Tryz.prog ay 75 xs c:=fun xs c h=>by
 unfold jO at h
 split at h
 ·injection h with h;subst h;exact zH _ _ _ _ _ _ _ _ _ _ _ _ _ _ _ _ _ _
 ·cases h
end
section
def Bh:cr:=bP []
def Bi(bp:Option Addr)(sc us pw:Bs)(hk:Int)(hs:Bs)(hn:Int)(hp:List Int)(port:Int)(opq pn:Bool)(pl:List Bs)(hq:Bool)(q:Bs)(hf:Bool)(fg:Bs)(bare sp:Bool)(rst:Bs)(at_:Int):aY:=fun i=>none
theorem zI:cS Tryz.prog ay Bh:=ax
theorem FA(bp:Option Addr)(sc us pw:Bs)(hk:Int)(hs:Bs)(hn:Int)(hp:List Int)(port:Int)(opq pn:Bool)(pl:List Bs)(hq:Bool)(q:Bs)(hf:Bool)(fg:Bs)(bare sp:Bool)(rst:Bs)(at_:Int)(k:PV→List PV→Prop):bL Tryz.prog Bh ay (Bi bp sc us pw hk hs hn hp port opq pn pl hq q hf fg bare sp rst at_) 1000 Tryz.f82 [.ptr 0 0,.int .i64 at_] [aC 1 (.raw (.pointer bp)) sc us pw hk hs hn hp port opq pn pl hq q hf fg bare sp rst] k=(
 (decide (at_<ak rst)=true→
 within at_ (ak rst))∧
 (decide (at_<ak rst)=true→
 decide (al rst at_=(47:Int))=false→
 sp=true→
 within at_ (ak rst))∧
 k (PV.bool (bif decide (at_<ak rst)then bif decide (al rst at_=(47:Int))then true else bif sp then decide (al rst at_=(92:Int))else false else false)) [bS (PV.raw (Go.Value.pointer bp)) 1 sc us pw hk hs hn hp port opq pn pl hq q hf fg bare sp rst]):=by kernel_rfl
attribute [local irreducible] Go.Vc.cD Go.Vc.bL
theorem qA(bp:Option Addr)(sc us pw:Bs)(hk:Int)(hs:Bs)(hn:Int)(hp:List Int)(port:Int)(opq pn:Bool)(pl:List Bs)(hq:Bool)(q:Bs)(hf:Bool)(fg:Bs)(bare sp:Bool)(rst:Bs)(at_:Int):bm Tryz.prog ay 82 [.ptr 0 0,.int .i64 at_] [aC 1 (.raw (.pointer bp)) sc us pw hk hs hn hp port opq pn pl hq q hf fg bare sp rst] (0≤at_∧at_<1000) (.bool (az sp rst at_)) [aC 1 (.raw (.pointer bp)) sc us pw hk hs hn hp port opq pn pl hq q hf fg bare sp rst]:=bz (by kernel_rfl) zI (H:=Bi bp sc us pw hk hs hn hp port opq pn pl hq q hf fg bare sp rst at_) (fuel:=1000) Tryz.func82 (by kernel_rfl) (Nat.le_of_ble_eq_true rfl) fun hpre=>(FA bp sc us pw hk hs hn hp port opq pn pl hq q hf fg bare sp rst at_ _).mpr (by
 refine ⟨fun h=>?_,fun h _ _=>?_,?_,rfl⟩
 ·unfold within;simp at h;omega
 ·unfold within;simp at h;omega
 ·congr 1
  by_cases h1:at_<ak rst<;>by_cases h2:al rst at_=47<;>cases sp<;>simp [az,h1,h2])
theorem FB(bp:Option Addr)(sc us pw:Bs)(hk:Int)(hs:Bs)(hn:Int)(hp:List Int)(port:Int)(opq pn:Bool)(pl:List Bs)(hq:Bool)(q:Bs)(hf:Bool)(fg:Bs)(bare sp:Bool)(rst:Bs)(at_:Int):ag Tryz.prog ay 82 [.ptr 0 0,.int .i64 at_,aC 1 (.raw (.pointer bp)) sc us pw hk hs hn hp port opq pn pl hq q hf fg bare sp rst] ⟨0≤at_∧at_<1000,.tup [.bool (az sp rst at_),aC 1 (.raw (.pointer bp)) sc us pw hk hs hn hp port opq pn pl hq q hf fg bare sp rst]⟩:=ag.aZ (fun h=>by have e:List.isEmpty (PV.aA PV.bw [.ptr 0 0,.int .i64 at_,aC 1 (.raw (.pointer bp)) sc us pw hk hs hn hp port opq pn pl hq q hf fg bare sp rst])=false:=(by kernel_rfl);exact Bool.noConfusion (e.symm.trans (congrArg List.isEmpty h))) (qA bp sc us pw hk hs hn hp port opq pn pl hq q hf fg bare sp rst at_)
def gu:List PV→Option aF:=fun xs=>match xs with
 |[.ptr 0 0,.int .i64 at_,aC 1 (.raw (.pointer bp)) sc us pw hk hs hn hp port opq pn pl hq q hf fg bare sp rst]=>some ⟨0≤at_∧at_<1000,.tup [.bool (az sp rst at_),aC 1 (.raw (.pointer bp)) sc us pw hk hs hn hp port opq pn pl hq q hf fg bare sp rst]⟩
 |_=>none
theorem gi:∀xs c,gu xs=some c→ag Tryz.prog ay 82 xs c:=fun xs c h=>by
 unfold gu at h
 split at h
 ·injection h with h;subst h;exact FB _ _ _ _ _ _ _ _ _ _ _ _ _ _ _ _ _ _ _ _
 ·cases h
end
section
def ov:cr:=bP [(82,gu)]
def ow(bp:Option Addr)(sc us pw:Bs)(hk:Int)(hs:Bs)(hn:Int)(hp:List Int)(port:Int)(opq pn:Bool)(pl:List Bs)(hq:Bool)(q:Bs)(hf:Bool)(fg:Bs)(bare sp:Bool)(rst:Bs):aY:=fun i=>none
theorem qB:cS Tryz.prog ay ov:=ai gi (ax)
theorem uR(bp:Option Addr)(sc us pw:Bs)(hk:Int)(hs:Bs)(hn:Int)(hp:List Int)(port:Int)(opq pn:Bool)(pl:List Bs)(hq:Bool)(q:Bs)(hf:Bool)(fg:Bs)(bare sp:Bool)(rst:Bs)(k:PV→List PV→Prop):bL Tryz.prog ov ay (ow bp sc us pw hk hs hn hp port opq pn pl hq q hf fg bare sp rst) 1000 Tryz.f84 [.ptr 0 0] [aC 1 (.raw (.pointer bp)) sc us pw hk hs hn hp port opq pn pl hq q hf fg bare sp rst] k=(
 ((0:Int)≤(0:Int)∧
 (0:Int)<(1000:Int))∧
 ((!az sp rst (0:Int))=true→
 k (PV.bool false) [bS (PV.raw (Go.Value.pointer bp)) 1 sc us pw hk hs hn hp port opq pn pl hq q hf fg bare sp rst])∧
 ((!az sp rst (0:Int))=false→
 upto (1:Int) (ak rst) (ak rst)∧
 k (PV.bool true) [bS (PV.raw (Go.Value.pointer bp)) 1 sc us pw hk hs hn hp port opq pn pl hq q hf fg bare sp (aa rst (1:Int))])):=by kernel_rfl
attribute [local irreducible] Go.Vc.cD Go.Vc.bL
theorem jP(bp:Option Addr)(sc us pw:Bs)(hk:Int)(hs:Bs)(hn:Int)(hp:List Int)(port:Int)(opq pn:Bool)(pl:List Bs)(hq:Bool)(q:Bs)(hf:Bool)(fg:Bs)(bare sp:Bool)(rst:Bs):bm Tryz.prog ay 84 [.ptr 0 0] [aC 1 (.raw (.pointer bp)) sc us pw hk hs hn hp port opq pn pl hq q hf fg bare sp rst] (True) (.bool (az sp rst 0)) [aC 1 (.raw (.pointer bp)) sc us pw hk hs hn hp port opq pn pl hq q hf fg bare sp (if az sp rst 0=true then aa rst 1 else rst)]:=bz (by kernel_rfl) qB (H:=ow bp sc us pw hk hs hn hp port opq pn pl hq q hf fg bare sp rst) (fuel:=1000) Tryz.func84 (by kernel_rfl) (Nat.le_of_ble_eq_true rfl) fun hpre=>(uR bp sc us pw hk hs hn hp port opq pn pl hq q hf fg bare sp rst _).mpr (by
 refine ⟨by omega,fun h=>?_,fun h=>⟨?_,?_⟩⟩
 ·rw [show az sp rst 0=false by simpa using h];exact ⟨rfl,rfl⟩
 ·have:=uO (show az sp rst 0=true by simpa using h)
  unfold upto;omega
 ·rw [show az sp rst 0=true by simpa using h];exact ⟨rfl,rfl⟩)
theorem uS(bp:Option Addr)(sc us pw:Bs)(hk:Int)(hs:Bs)(hn:Int)(hp:List Int)(port:Int)(opq pn:Bool)(pl:List Bs)(hq:Bool)(q:Bs)(hf:Bool)(fg:Bs)(bare sp:Bool)(rst:Bs):ag Tryz.prog ay 84 [.ptr 0 0,aC 1 (.raw (.pointer bp)) sc us pw hk hs hn hp port opq pn pl hq q hf fg bare sp rst] ⟨True,.tup [.bool (az sp rst 0),aC 1 (.raw (.pointer bp)) sc us pw hk hs hn hp port opq pn pl hq q hf fg bare sp (if az sp rst 0=true then aa rst 1 else rst)]⟩:=ag.aZ (fun h=>by have e:List.isEmpty (PV.aA PV.bw [.ptr 0 0,aC 1 (.raw (.pointer bp)) sc us pw hk hs hn hp port opq pn pl hq q hf fg bare sp rst])=false:=(by kernel_rfl);exact Bool.noConfusion (e.symm.trans (congrArg List.isEmpty h))) (jP bp sc us pw hk hs hn hp port opq pn pl hq q hf fg bare sp rst)
def fu:List PV→Option aF:=fun xs=>match xs with
 |[.ptr 0 0,aC 1 (.raw (.pointer bp)) sc us pw hk hs hn hp port opq pn pl hq q hf fg bare sp rst]=>some ⟨True,.tup [.bool (az sp rst 0),aC 1 (.raw (.pointer bp)) sc us pw hk hs hn hp port opq pn pl hq q hf fg bare sp (if az sp rst 0=true then aa rst 1 else rst)]⟩
 |_=>none
theorem iL:∀xs c,fu xs=some c→ag Tryz.prog ay 84 xs c:=fun xs c h=>by
 unfold fu at h
 split at h
 ·injection h with h;subst h;exact uS _ _ _ _ _ _ _ _ _ _ _ _ _ _ _ _ _ _ _
 ·cases h
end
section
def Bj:cr:=bP []
def Bk(sc us pw:Bs)(hk:Int)(hs:Bs)(hn:Int)(hp:List Int)(port:Int)(opq pn:Bool)(pl:List Bs)(hq:Bool)(q:Bs)(hf:Bool)(fg:Bs)(bare sp:Bool)(rst:Bs):aY:=fun i=>none
theorem zJ:cS Tryz.prog ay Bj:=ax
theorem FC(sc us pw:Bs)(hk:Int)(hs:Bs)(hn:Int)(hp:List Int)(port:Int)(opq pn:Bool)(pl:List Bs)(hq:Bool)(q:Bs)(hf:Bool)(fg:Bs)(bare sp:Bool)(rst:Bs)(k:PV→List PV→Prop):bL Tryz.prog Bj ay (Bk sc us pw hk hs hn hp port opq pn pl hq q hf fg bare sp rst) 1000 Tryz.f77 [.ptr 0 0] [aC 1 (.raw (.pointer none)) sc us pw hk hs hn hp port opq pn pl hq q hf fg bare sp rst] k=(
 (false=true→
 False)∧
 (false=true→
 False)∧
 (false=true→
 False)∧
 (false=true→
 False)∧
 k (PV.bool false) [bS (PV.raw (Go.Value.pointer none)) 1 sc us pw hk hs hn hp port opq pn pl hq q hf fg bare sp rst]):=by kernel_rfl
attribute [local irreducible] Go.Vc.cD Go.Vc.bL
theorem zK(sc us pw:Bs)(hk:Int)(hs:Bs)(hn:Int)(hp:List Int)(port:Int)(opq pn:Bool)(pl:List Bs)(hq:Bool)(q:Bs)(hf:Bool)(fg:Bs)(bare sp:Bool)(rst:Bs):bm Tryz.prog ay 77 [.ptr 0 0] [aC 1 (.raw (.pointer none)) sc us pw hk hs hn hp port opq pn pl hq q hf fg bare sp rst] (True) (.bool false) [aC 1 (.raw (.pointer none)) sc us pw hk hs hn hp port opq pn pl hq q hf fg bare sp rst]:=bz (by kernel_rfl) zJ (H:=Bk sc us pw hk hs hn hp port opq pn pl hq q hf fg bare sp rst) (fuel:=1000) Tryz.func77 (by kernel_rfl) (Nat.le_of_ble_eq_true rfl) fun hpre=>(FC sc us pw hk hs hn hp port opq pn pl hq q hf fg bare sp rst _).mpr (by
 exact ⟨nofun,nofun,nofun,nofun,rfl,rfl⟩)
theorem FD(sc us pw:Bs)(hk:Int)(hs:Bs)(hn:Int)(hp:List Int)(port:Int)(opq pn:Bool)(pl:List Bs)(hq:Bool)(q:Bs)(hf:Bool)(fg:Bs)(bare sp:Bool)(rst:Bs):ag Tryz.prog ay 77 [.ptr 0 0,aC 1 (.raw (.pointer none)) sc us pw hk hs hn hp port opq pn pl hq q hf fg bare sp rst] ⟨True,.tup [.bool false,aC 1 (.raw (.pointer none)) sc us pw hk hs hn hp port opq pn pl hq q hf fg bare sp rst]⟩:=ag.aZ (fun h=>by have e:List.isEmpty (PV.aA PV.bw [.ptr 0 0,aC 1 (.raw (.pointer none)) sc us pw hk hs hn hp port opq pn pl hq q hf fg bare sp rst])=false:=(by kernel_rfl);exact Bool.noConfusion (e.symm.trans (congrArg List.isEmpty h))) (zK sc us pw hk hs hn hp port opq pn pl hq q hf fg bare sp rst)
def gv:List PV→Option aF:=fun xs=>match xs with
 |[.ptr 0 0,aC 1 (.raw (.pointer none)) sc us pw hk hs hn hp port opq pn pl hq q hf fg bare sp rst]=>some ⟨True,.tup [.bool false,aC 1 (.raw (.pointer none)) sc us pw hk hs hn hp port opq pn pl hq q hf fg bare sp rst]⟩
 |_=>none
theorem gj:∀xs c,gv xs=some c→ag Tryz.prog ay 77 xs c:=fun xs c h=>by
 unfold gv at h
 split at h
 ·injection h with h;subst h;exact FD _ _ _ _ _ _ _ _ _ _ _ _ _ _ _ _ _ _
 ·cases h
end
section
def mr:cr:=bP [(77,gv)]
def mv(sc us pw:Bs)(hk:Int)(hs:Bs)(hn:Int)(hp:List Int)(port:Int)(opq pn:Bool)(pl:List Bs)(hq:Bool)(q:Bs)(hf:Bool)(fg:Bs)(bare sp:Bool)(rst:Bs):aY:=fun i=>none
theorem oM:cS Tryz.prog ay mr:=ai gj (ax)
theorem rJ(sc us pw:Bs)(hk:Int)(hs:Bs)(hn:Int)(hp:List Int)(port:Int)(opq pn:Bool)(pl:List Bs)(hq:Bool)(q:Bs)(hf:Bool)(fg:Bs)(bare sp:Bool)(rst:Bs)(k:PV→List PV→Prop):bL Tryz.prog mr ay (mv sc us pw hk hs hn hp port opq pn pl hq q hf fg bare sp rst) 1000 Tryz.f121 [.ptr 0 0] [aC 1 (.raw (.pointer none)) sc us pw hk hs hn hp port opq pn pl hq q hf fg bare sp rst] k=(
 True∧
 ((!false)=true→
 k (PV.tup []) [bS (PV.raw (Go.Value.pointer none)) 1 sc us pw hk hs hn hp port opq pn pl hq q hf fg bare sp rst])∧
 ((!false)=false→
 False)):=by kernel_rfl
attribute [local irreducible] Go.Vc.cD Go.Vc.bL
theorem oN(sc us pw:Bs)(hk:Int)(hs:Bs)(hn:Int)(hp:List Int)(port:Int)(opq pn:Bool)(pl:List Bs)(hq:Bool)(q:Bs)(hf:Bool)(fg:Bs)(bare sp:Bool)(rst:Bs):bm Tryz.prog ay 121 [.ptr 0 0] [aC 1 (.raw (.pointer none)) sc us pw hk hs hn hp port opq pn pl hq q hf fg bare sp rst] (True) (.tup []) [aC 1 (.raw (.pointer none)) sc us pw hk hs hn hp port opq pn pl hq q hf fg bare sp rst]:=bz (by kernel_rfl) oM (H:=mv sc us pw hk hs hn hp port opq pn pl hq q hf fg bare sp rst) (fuel:=1000) Tryz.func121 (by kernel_rfl) (Nat.le_of_ble_eq_true rfl) fun hpre=>(rJ sc us pw hk hs hn hp port opq pn pl hq q hf fg bare sp rst _).mpr (by
 exact ⟨trivial,fun _=>⟨rfl,rfl⟩,fun h=>(by cases h)⟩)
theorem rK(sc us pw:Bs)(hk:Int)(hs:Bs)(hn:Int)(hp:List Int)(port:Int)(opq pn:Bool)(pl:List Bs)(hq:Bool)(q:Bs)(hf:Bool)(fg:Bs)(bare sp:Bool)(rst:Bs):ag Tryz.prog ay 121 [.ptr 0 0,aC 1 (.raw (.pointer none)) sc us pw hk hs hn hp port opq pn pl hq q hf fg bare sp rst] ⟨True,.tup [.tup [],aC 1 (.raw (.pointer none)) sc us pw hk hs hn hp port opq pn pl hq q hf fg bare sp rst]⟩:=ag.aZ (fun h=>by have e:List.isEmpty (PV.aA PV.bw [.ptr 0 0,aC 1 (.raw (.pointer none)) sc us pw hk hs hn hp port opq pn pl hq q hf fg bare sp rst])=false:=(by kernel_rfl);exact Bool.noConfusion (e.symm.trans (congrArg List.isEmpty h))) (oN sc us pw hk hs hn hp port opq pn pl hq q hf fg bare sp rst)
def gF:List PV→Option aF:=fun xs=>match xs with
 |[.ptr 0 0,aC 1 (.raw (.pointer none)) sc us pw hk hs hn hp port opq pn pl hq q hf fg bare sp rst]=>some ⟨True,.tup [.tup [],aC 1 (.raw (.pointer none)) sc us pw hk hs hn hp port opq pn pl hq q hf fg bare sp rst]⟩
 |_=>none
theorem mw:∀xs c,gF xs=some c→ag Tryz.prog ay 121 xs c:=fun xs c h=>by
 unfold gF at h
 split at h
 ·injection h with h;subst h;exact rK _ _ _ _ _ _ _ _ _ _ _ _ _ _ _ _ _ _
 ·cases h
end
section
def td:cr:=bP []
def te(bp:Option Addr)(sc us pw:Bs)(hk:Int)(hs:Bs)(hn:Int)(hp:List Int)(port:Int)(opq pn:Bool)(pl:List Bs)(hq:Bool)(q:Bs)(hf:Bool)(fg:Bs)(bare sp:Bool)(rst:Bs):aY:=fun i=>none
theorem uT:cS Tryz.prog ay td:=ax
theorem zL(bp:Option Addr)(sc us pw:Bs)(hk:Int)(hs:Bs)(hn:Int)(hp:List Int)(port:Int)(opq pn:Bool)(pl:List Bs)(hq:Bool)(q:Bs)(hf:Bool)(fg:Bs)(bare sp:Bool)(rst:Bs)(k:PV→List PV→Prop):bL Tryz.prog td ay (te bp sc us pw hk hs hn hp port opq pn pl hq q hf fg bare sp rst) 1000 Tryz.f138 [.ptr 0 0] [aC 1 (.raw (.pointer bp)) sc us pw hk hs hn hp port opq pn pl hq q hf fg bare sp rst] k=(
 (sp=true→
 k (PV.str (ByteArray.mk #[47,92]).data.toList) [bS (PV.raw (Go.Value.pointer bp)) 1 sc us pw hk hs hn hp port opq pn pl hq q hf fg bare sp rst])∧
 (sp=false→
 k (PV.str (ByteArray.mk #[47]).data.toList) [bS (PV.raw (Go.Value.pointer bp)) 1 sc us pw hk hs hn hp port opq pn pl hq q hf fg bare sp rst])):=by kernel_rfl
attribute [local irreducible] Go.Vc.cD Go.Vc.bL
theorem uU(bp:Option Addr)(sc us pw:Bs)(hk:Int)(hs:Bs)(hn:Int)(hp:List Int)(port:Int)(opq pn:Bool)(pl:List Bs)(hq:Bool)(q:Bs)(hf:Bool)(fg:Bs)(bare sp:Bool)(rst:Bs):bm Tryz.prog ay 138 [.ptr 0 0] [aC 1 (.raw (.pointer bp)) sc us pw hk hs hn hp port opq pn pl hq q hf fg bare sp rst] (True) (.str (ey sp)) [aC 1 (.raw (.pointer bp)) sc us pw hk hs hn hp port opq pn pl hq q hf fg bare sp rst]:=bz (by kernel_rfl) uT (H:=te bp sc us pw hk hs hn hp port opq pn pl hq q hf fg bare sp rst) (fuel:=1000) Tryz.func138 (by kernel_rfl) (Nat.le_of_ble_eq_true rfl) fun hpre=>(zL bp sc us pw hk hs hn hp port opq pn pl hq q hf fg bare sp rst _).mpr (by
 exact ⟨fun h=>by subst h;exact ⟨rfl,rfl⟩,fun h=>by subst h;exact ⟨rfl,rfl⟩⟩)
theorem zM(bp:Option Addr)(sc us pw:Bs)(hk:Int)(hs:Bs)(hn:Int)(hp:List Int)(port:Int)(opq pn:Bool)(pl:List Bs)(hq:Bool)(q:Bs)(hf:Bool)(fg:Bs)(bare sp:Bool)(rst:Bs):ag Tryz.prog ay 138 [.ptr 0 0,aC 1 (.raw (.pointer bp)) sc us pw hk hs hn hp port opq pn pl hq q hf fg bare sp rst] ⟨True,.tup [.str (ey sp),aC 1 (.raw (.pointer bp)) sc us pw hk hs hn hp port opq pn pl hq q hf fg bare sp rst]⟩:=ag.aZ (fun h=>by have e:List.isEmpty (PV.aA PV.bw [.ptr 0 0,aC 1 (.raw (.pointer bp)) sc us pw hk hs hn hp port opq pn pl hq q hf fg bare sp rst])=false:=(by kernel_rfl);exact Bool.noConfusion (e.symm.trans (congrArg List.isEmpty h))) (uU bp sc us pw hk hs hn hp port opq pn pl hq q hf fg bare sp rst)
def gT:List PV→Option aF:=fun xs=>match xs with
 |[.ptr 0 0,aC 1 (.raw (.pointer bp)) sc us pw hk hs hn hp port opq pn pl hq q hf fg bare sp rst]=>some ⟨True,.tup [.str (ey sp),aC 1 (.raw (.pointer bp)) sc us pw hk hs hn hp port opq pn pl hq q hf fg bare sp rst]⟩
 |_=>none
theorem jQ:∀xs c,gT xs=some c→ag Tryz.prog ay 138 xs c:=fun xs c h=>by
 unfold gT at h
 split at h
 ·injection h with h;subst h;exact zM _ _ _ _ _ _ _ _ _ _ _ _ _ _ _ _ _ _ _
 ·cases h
end
section
def FE:cr:=bP [(118,uH)]
def FF(l m:Bs):aY:=fun i=>none
theorem CZ:cS Tryz.prog ay FE:=ai zr (ax)
theorem Ic(l m:Bs)(k:PV→Prop):cD Tryz.prog FE ay (FF l m) 1000 Tryz.f129 [.str l,.str m] k=(
 (List.length l≤(1000000:Nat)∧List.length m≤(1000000:Nat)∧∀(b:UInt8),b∈m→b.toNat<(128:Nat))∧
 (decide ((0:Int)≤JY l m)=true→k (PV.int .i64 (JY l m)))∧
 (decide ((0:Int)≤JY l m)=false→k (PV.int .i64 (ak l)))):=by kernel_rfl
attribute [local irreducible] Go.Vc.cD
theorem Ie(l m:Bs):ag Tryz.prog ay 129 [.str l,.str m] ⟨l.length≤1000000∧m.length≤1000000∧(∀b∈m,b.toNat<128),.int .i64 (bg l m)⟩:=cl (by kernel_rfl) CZ (H:=FF l m) (fuel:=1000) Tryz.func129 (by kernel_rfl) fun hpre=>(Ic l m _).mpr (by
 have hh:=zq m l
 rw [←E9]at hh
 refine ⟨hpre,fun h=>?_,fun h=>?_⟩
 ·exact congrArg (PV.int .i64) (hh.1 (of_decide_eq_true h)).1
 ·show PV.int .i64 (ak l)=_
  rw [(hh.2 (of_decide_eq_false h)).2];rfl)
def gG:List PV→Option aF:=fun xs=>match xs with
 |[.str l,.str m]=>some ⟨l.length≤1000000∧m.length≤1000000∧(∀b∈m,b.toNat<128),.int .i64 (bg l m)⟩
 |_=>none
theorem fK:∀xs c,gG xs=some c→ag Tryz.prog ay 129 xs c:=fun xs c h=>by
 unfold gG at h
 split at h
 ·injection h with h;subst h;exact Ie _ _
 ·cases h
end
section
def tf:cr:=bP [(138,gT),(129,gG)]
def tg(bp:Option Addr)(sc us pw:Bs)(hk:Int)(hs:Bs)(hn:Int)(hp:List Int)(port:Int)(opq pn:Bool)(pl:List Bs)(hq:Bool)(q:Bs)(hf:Bool)(fg:Bs)(bare sp:Bool)(rst:Bs):aY:=fun i=>none
theorem uV:cS Tryz.prog ay tf:=ai jQ (ai fK (ax))
theorem zN(bp:Option Addr)(sc us pw:Bs)(hk:Int)(hs:Bs)(hn:Int)(hp:List Int)(port:Int)(opq pn:Bool)(pl:List Bs)(hq:Bool)(q:Bs)(hf:Bool)(fg:Bs)(bare sp:Bool)(rst:Bs)(k:PV→List PV→Prop):bL Tryz.prog tf ay (tg bp sc us pw hk hs hn hp port opq pn pl hq q hf fg bare sp rst) 1000 Tryz.f124 [.ptr 0 0] [aC 1 (.raw (.pointer bp)) sc us pw hk hs hn hp port opq pn pl hq q hf fg bare sp rst] k=(
 (True∧
 List.length (ey sp)+(ByteArray.mk #[63,35]).data.toList.length≤Go.Vc.maxLen∧
 (List.length rst≤(1000000:Nat)∧
 List.length (ey sp++(ByteArray.mk #[63,35]).data.toList)≤(1000000:Nat)∧
 ∀(b:UInt8),b∈ey sp++(ByteArray.mk #[63,35]).data.toList→
 b.toNat<(128:Nat))∧
 k (PV.int .i64 ↑(bg rst (ey sp++(ByteArray.mk #[63,35]).data.toList))) [bS (PV.raw (Go.Value.pointer bp)) 1 sc us pw hk hs hn hp port opq pn pl hq q hf fg bare sp rst])∧
 True∧
 List.length (ey sp)+(ByteArray.mk #[63,35]).data.toList.length≤Go.Vc.maxLen∧
 (List.length rst≤(1000000:Nat)∧
 List.length (ey sp++(ByteArray.mk #[63,35]).data.toList)≤(1000000:Nat)∧
 ∀(b:UInt8),b∈ey sp++(ByteArray.mk #[63,35]).data.toList→
 b.toNat<(128:Nat))∧
 k (PV.int .i64 ↑(bg rst (ey sp++(ByteArray.mk #[63,35]).data.toList))) [bS (PV.raw (Go.Value.pointer bp)) 1 sc us pw hk hs hn hp port opq pn pl hq q hf fg bare sp rst]):=by kernel_rfl
attribute [local irreducible] Go.Vc.cD Go.Vc.bL
theorem uW(bp:Option Addr)(sc us pw:Bs)(hk:Int)(hs:Bs)(hn:Int)(hp:List Int)(port:Int)(opq pn:Bool)(pl:List Bs)(hq:Bool)(q:Bs)(hf:Bool)(fg:Bs)(bare sp:Bool)(rst:Bs):bm Tryz.prog ay 124 [.ptr 0 0] [aC 1 (.raw (.pointer bp)) sc us pw hk hs hn hp port opq pn pl hq q hf fg bare sp rst] (rst.length≤300000) (.int .i64 (ah sp rst)) [aC 1 (.raw (.pointer bp)) sc us pw hk hs hn hp port opq pn pl hq q hf fg bare sp rst]:=bz (by kernel_rfl) uV (H:=tg bp sc us pw hk hs hn hp port opq pn pl hq q hf fg bare sp rst) (fuel:=1000) Tryz.func124 (by kernel_rfl) (Nat.le_of_ble_eq_true rfl) fun hpre=>(zN bp sc us pw hk hs hn hp port opq pn pl hq q hf fg bare sp rst _).mpr (by
 have e2:(ByteArray.mk #[63,35]).data.toList=[63,35]:=rfl
 have hs:(ey sp).length≤2:=by unfold ey;split<;>decide
 have h1:List.length (ey sp)+(ByteArray.mk #[63,35]).data.toList.length≤Go.Vc.maxLen:=Nat.le_trans (show _ ≤100 by rw [e2];simp;omega) (by decide)
 have h2:List.length (ey sp++(ByteArray.mk #[63,35]).data.toList)≤1000000:=by rw [e2];simp;omega
 have h3:∀b:UInt8,b∈ey sp++(ByteArray.mk #[63,35]).data.toList→b.toNat<128:=by rw [e2];unfold ey;split<;>decide
 exact ⟨⟨trivial,h1,⟨by omega,h2,h3⟩,rfl,rfl⟩,trivial,h1,⟨by omega,h2,h3⟩,rfl,rfl⟩)
theorem zO(bp:Option Addr)(sc us pw:Bs)(hk:Int)(hs:Bs)(hn:Int)(hp:List Int)(port:Int)(opq pn:Bool)(pl:List Bs)(hq:Bool)(q:Bs)(hf:Bool)(fg:Bs)(bare sp:Bool)(rst:Bs):ag Tryz.prog ay 124 [.ptr 0 0,aC 1 (.raw (.pointer bp)) sc us pw hk hs hn hp port opq pn pl hq q hf fg bare sp rst] ⟨rst.length≤300000,.tup [.int .i64 (ah sp rst),aC 1 (.raw (.pointer bp)) sc us pw hk hs hn hp port opq pn pl hq q hf fg bare sp rst]⟩:=ag.aZ (fun h=>by have e:List.isEmpty (PV.aA PV.bw [.ptr 0 0,aC 1 (.raw (.pointer bp)) sc us pw hk hs hn hp port opq pn pl hq q hf fg bare sp rst])=false:=(by kernel_rfl);exact Bool.noConfusion (e.symm.trans (congrArg List.isEmpty h))) (uW bp sc us pw hk hs hn hp port opq pn pl hq q hf fg bare sp rst)
def fM:List PV→Option aF:=fun xs=>match xs with
 |[.ptr 0 0,aC 1 (.raw (.pointer bp)) sc us pw hk hs hn hp port opq pn pl hq q hf fg bare sp rst]=>some ⟨rst.length≤300000,.tup [.int .i64 (ah sp rst),aC 1 (.raw (.pointer bp)) sc us pw hk hs hn hp port opq pn pl hq q hf fg bare sp rst]⟩
 |_=>none
theorem gH:∀xs c,fM xs=some c→ag Tryz.prog ay 124 xs c:=fun xs c h=>by
 unfold fM at h
 split at h
 ·injection h with h;subst h;exact zO _ _ _ _ _ _ _ _ _ _ _ _ _ _ _ _ _ _ _
 ·cases h
end
section
def I4:cr:=bP [(153,je)]
def I5(l:Bs):aY:=fun i=>none
theorem FG:cS Tryz.prog ay I4:=ai kz (ax)
theorem J6(l:Bs)(k:PV→Prop):cD Tryz.prog I4 ay (I5 l) 1000 Tryz.f123 [.str l] k=(
 (decide (ak l=(2:Int))=true→within (0:Int) (ak l))∧
 (decide (ak l=(2:Int))=true→(0:Int)≤al l (0:Int)∧al l (0:Int)≤(255:Int))∧
 ((bif decide (ak l=(2:Int))then
 decide
 ((97:Int)≤al l (0:Int)∧al l (0:Int)≤(122:Int)∨
 (65:Int)≤al l (0:Int)∧al l (0:Int)≤(90:Int))
 else false)=
 true→
 within (1:Int) (ak l))∧
 ((bif decide (ak l=(2:Int))then
 decide
 ((97:Int)≤al l (0:Int)∧al l (0:Int)≤(122:Int)∨
 (65:Int)≤al l (0:Int)∧al l (0:Int)≤(90:Int))
 else false)=
 true→
 decide (al l (1:Int)=(58:Int))=false→within (1:Int) (ak l))∧
 k
 (PV.bool
 (bif
 bif decide (ak l=(2:Int))then
 decide
 ((97:Int)≤al l (0:Int)∧al l (0:Int)≤(122:Int)∨
 (65:Int)≤al l (0:Int)∧al l (0:Int)≤(90:Int))
 else false then
 bif decide (al l (1:Int)=(58:Int))then true else decide (al l (1:Int)=(124:Int))
 else false))):=by kernel_rfl
attribute [local irreducible] Go.Vc.cD
theorem J7(l:Bs):ag Tryz.prog ay 123 [.str l] ⟨True,.bool (bM l)⟩:=cl (by kernel_rfl) FG (H:=I5 l) (fuel:=1000) Tryz.func123 (by kernel_rfl) fun hpre=>(J6 l _).mpr (by
 have hr:=gP l 0
 have b0:al l 0=aN l 0:=iJ l 0
 have b1:al l 1=aN l 1:=iJ l 1
 have w2:∀z:Int,0≤z→z<2→∀b:Bool,(bif decide (ak l=2)then b else false)=true→within z (ak l):=fun z h0 h1 b h=>by
  cases e:decide (ak l=2)with
  |false=>rw [e]at h;cases h
  |true=>have:=of_decide_eq_true e;unfold within;omega
 refine ⟨fun h=>?_,fun _=>by omega,fun h=>w2 1 (by omega) (by omega) _ h,fun h _=>w2 1 (by omega) (by omega) _ h,?_⟩
 ·have:=of_decide_eq_true h;unfold within;omega
 ·congr 1
  unfold bM Ck
  rw [b0,b1,Bool.eq_iff_iff]
  simp only [Hq,Le,Bool.and_eq_true,Bool.or_eq_true,decide_eq_true_eq]
  unfold ak
  omega)
def my:List PV→Option aF:=fun xs=>match xs with
 |[.str l]=>some ⟨True,.bool (bM l)⟩
 |_=>none
theorem la:∀xs c,my xs=some c→ag Tryz.prog ay 123 xs c:=fun xs c h=>by
 unfold my at h
 split at h
 ·injection h with h;subst h;exact J7 _
 ·cases h
end
section
def FH:cr:=bP []
def FI(bp:Option Addr)(sc us pw:Bs)(hk:Int)(hs:Bs)(hn:Int)(hp:List Int)(port:Int)(opq pn:Bool)(pl:List Bs)(hq:Bool)(q:Bs)(hf:Bool)(fg:Bs)(bare sp:Bool)(rst:Bs)(z:Int):aY:=fun i=>none
theorem C0:cS Tryz.prog ay FH:=ax
theorem Ig(bp:Option Addr)(sc us pw:Bs)(hk:Int)(hs:Bs)(hn:Int)(hp:List Int)(port:Int)(opq pn:Bool)(pl:List Bs)(hq:Bool)(q:Bs)(hf:Bool)(fg:Bs)(bare sp:Bool)(rst:Bs)(z:Int)(k:PV→List PV→Prop):bL Tryz.prog FH ay (FI bp sc us pw hk hs hn hp port opq pn pl hq q hf fg bare sp rst z) 1000 Tryz.f128 [.ptr 0 0,.int .i64 z] [aC 1 (.raw (.pointer bp)) sc us pw hk hs hn hp port opq pn pl hq q hf fg bare sp rst] k=(
 upto (0:Int) z (ak rst)∧
 upto z (ak rst) (ak rst)∧
 k (PV.str (ae rst z)) [bS (PV.raw (Go.Value.pointer bp)) 1 sc us pw hk hs hn hp port opq pn pl hq q hf fg bare sp (aa rst z)]):=by kernel_rfl
attribute [local irreducible] Go.Vc.cD Go.Vc.bL
theorem C3(bp:Option Addr)(sc us pw:Bs)(hk:Int)(hs:Bs)(hn:Int)(hp:List Int)(port:Int)(opq pn:Bool)(pl:List Bs)(hq:Bool)(q:Bs)(hf:Bool)(fg:Bs)(bare sp:Bool)(rst:Bs)(z:Int):bm Tryz.prog ay 128 [.ptr 0 0,.int .i64 z] [aC 1 (.raw (.pointer bp)) sc us pw hk hs hn hp port opq pn pl hq q hf fg bare sp rst] (0≤z∧z≤ak rst) (.str (ae rst z)) [aC 1 (.raw (.pointer bp)) sc us pw hk hs hn hp port opq pn pl hq q hf fg bare sp (aa rst z)]:=bz (by kernel_rfl) C0 (H:=FI bp sc us pw hk hs hn hp port opq pn pl hq q hf fg bare sp rst z) (fuel:=1000) Tryz.func128 (by kernel_rfl) (Nat.le_of_ble_eq_true rfl) fun hpre=>(Ig bp sc us pw hk hs hn hp port opq pn pl hq q hf fg bare sp rst z _).mpr (by
 obtain ⟨h0,h1⟩:=hpre
 exact ⟨⟨by omega,h0,h1⟩,⟨h0,h1,Int.le_refl _⟩,rfl,rfl⟩)
theorem Ih(bp:Option Addr)(sc us pw:Bs)(hk:Int)(hs:Bs)(hn:Int)(hp:List Int)(port:Int)(opq pn:Bool)(pl:List Bs)(hq:Bool)(q:Bs)(hf:Bool)(fg:Bs)(bare sp:Bool)(rst:Bs)(z:Int):ag Tryz.prog ay 128 [.ptr 0 0,.int .i64 z,aC 1 (.raw (.pointer bp)) sc us pw hk hs hn hp port opq pn pl hq q hf fg bare sp rst] ⟨0≤z∧z≤ak rst,.tup [.str (ae rst z),aC 1 (.raw (.pointer bp)) sc us pw hk hs hn hp port opq pn pl hq q hf fg bare sp (aa rst z)]⟩:=ag.aZ (fun h=>by have e:List.isEmpty (PV.aA PV.bw [.ptr 0 0,.int .i64 z,aC 1 (.raw (.pointer bp)) sc us pw hk hs hn hp port opq pn pl hq q hf fg bare sp rst])=false:=(by kernel_rfl);exact Bool.noConfusion (e.symm.trans (congrArg List.isEmpty h))) (C3 bp sc us pw hk hs hn hp port opq pn pl hq q hf fg bare sp rst z)
def gI:List PV→Option aF:=fun xs=>match xs with
 |[.ptr 0 0,.int .i64 z,aC 1 (.raw (.pointer bp)) sc us pw hk hs hn hp port opq pn pl hq q hf fg bare sp rst]=>some ⟨0≤z∧z≤ak rst,.tup [.str (ae rst z),aC 1 (.raw (.pointer bp)) sc us pw hk hs hn hp port opq pn pl hq q hf fg bare sp (aa rst z)]⟩
 |_=>none
theorem fN:∀xs c,gI xs=some c→ag Tryz.prog ay 128 xs c:=fun xs c h=>by
 unfold gI at h
 split at h
 ·injection h with h;subst h;exact Ih _ _ _ _ _ _ _ _ _ _ _ _ _ _ _ _ _ _ _ _
 ·cases h
end
section
def qC:cr:=bP [(124,fM),(128,gI),(136,kZ)]
def qD(bp:Option Addr)(sc us pw:Bs)(hk:Int)(hs:Bs)(hn:Int)(hp:List Int)(port:Int)(opq pn:Bool)(pl:List Bs)(hq:Bool)(q:Bs)(hf:Bool)(fg:Bs)(bare sp:Bool)(rst:Bs):aY:=fun i=>none
theorem rL:cS Tryz.prog ay qC:=ai gH (ai fN (ai rH (ax)))
theorem xp(bp:Option Addr)(sc us pw:Bs)(hk:Int)(hs:Bs)(hn:Int)(hp:List Int)(port:Int)(opq pn:Bool)(pl:List Bs)(hq:Bool)(q:Bs)(hf:Bool)(fg:Bs)(bare sp:Bool)(rst:Bs)(k:PV→List PV→Prop):bL Tryz.prog qC ay (qD bp sc us pw hk hs hn hp port opq pn pl hq q hf fg bare sp rst) 1000 Tryz.f125 [.ptr 0 0] [aC 1 (.raw (.pointer bp)) sc us pw hk hs hn hp port opq pn pl hq q hf fg bare sp rst] k=(
 (List.length rst).le (300000:Nat)∧
 ((0:Int)≤↑(ah sp rst)∧
 ↑(ah sp rst)≤ak rst)∧
 (decide (ae rst ↑(ah sp rst)=(ByteArray.mk #[]).data.toList)=true→
 k (PV.int .i64 (0:Int)) [bS (PV.raw (Go.Value.pointer bp)) 1 sc us pw hk hs hn hp port opq pn pl hq q hf fg bare sp (aa rst ↑(ah sp rst))])∧
 (decide (ae rst ↑(ah sp rst)=(ByteArray.mk #[]).data.toList)=false→
 (ae rst ↑(ah sp rst)).length.le (1000000:Nat)∧
 ((bif !decide ((cv (ae rst ↑(ah sp rst))).1=(2:Int))then true else !decide ((cv (ae rst ↑(ah sp rst))).2.1=(ByteArray.mk #[108,111,99,97,108,104,111,115,116]).data.toList))=true→
 k (PV.int .i64 (cv (ae rst ↑(ah sp rst))).2.2.2.2) [bS (PV.raw (Go.Value.pointer bp)) 1 sc us pw ((cv (ae rst ↑(ah sp rst))).1) ((cv (ae rst ↑(ah sp rst))).2.1) ((cv (ae rst ↑(ah sp rst))).2.2.1) ((cv (ae rst ↑(ah sp rst))).2.2.2.1) port opq pn pl hq q hf fg bare sp (aa rst ↑(ah sp rst))])∧
 ((bif !decide ((cv (ae rst ↑(ah sp rst))).1=(2:Int))then true else !decide ((cv (ae rst ↑(ah sp rst))).2.1=(ByteArray.mk #[108,111,99,97,108,104,111,115,116]).data.toList))=false→
 k (PV.int .i64 (cv (ae rst ↑(ah sp rst))).2.2.2.2) [bS (PV.raw (Go.Value.pointer bp)) 1 sc us pw hk hs hn hp port opq pn pl hq q hf fg bare sp (aa rst ↑(ah sp rst))]))):=by kernel_rfl
attribute [local irreducible] Go.Vc.cD Go.Vc.bL
theorem rM(bp:Option Addr)(sc us pw:Bs)(hk:Int)(hs:Bs)(hn:Int)(hp:List Int)(port:Int)(opq pn:Bool)(pl:List Bs)(hq:Bool)(q:Bs)(hf:Bool)(fg:Bs)(bare sp:Bool)(rst:Bs):bm Tryz.prog ay 125 [.ptr 0 0] [aC 1 (.raw (.pointer bp)) sc us pw hk hs hn hp port opq pn pl hq q hf fg bare sp rst] (rst.length≤300000) (.int .i64 (RS.mk sc us pw hk hs hn hp port opq pn pl hq q hf fg bare sp rst).av.2) [aC 1 (.raw (.pointer bp)) sc us pw ((RS.mk sc us pw hk hs hn hp port opq pn pl hq q hf fg bare sp rst).av.1.hk) ((RS.mk sc us pw hk hs hn hp port opq pn pl hq q hf fg bare sp rst).av.1.hs) ((RS.mk sc us pw hk hs hn hp port opq pn pl hq q hf fg bare sp rst).av.1.hn) ((RS.mk sc us pw hk hs hn hp port opq pn pl hq q hf fg bare sp rst).av.1.hp) port opq pn pl hq q hf fg bare sp (aa rst (ah sp rst))]:=bz (by kernel_rfl) rL (H:=qD bp sc us pw hk hs hn hp port opq pn pl hq q hf fg bare sp rst) (fuel:=1000) Tryz.func125 (by kernel_rfl) (Nat.le_of_ble_eq_true rfl) fun hpre=>(xp bp sc us pw hk hs hn hp port opq pn pl hq q hf fg bare sp rst _).mpr (by
 have e3:ah sp rst≤rst.length:=fr _ _
 obtain ⟨S,e4⟩:∃S,S=ae rst (ah sp rst:Int):=⟨_,rfl⟩
 rw [←e4]
 have e6:S.length≤300000:=by rw [e4];unfold ae;rw [List.length_take];omega
 have ef:(RS.mk sc us pw hk hs hn hp port opq pn pl hq q hf fg bare sp rst).av=if S=[]then((RS.mk sc us pw hk hs hn hp port opq pn pl hq q hf fg bare sp rst).cut (ah sp rst),0)else if(cv S).1=2∧(cv S).2.1=KK then((RS.mk sc us pw hk hs hn hp port opq pn pl hq q hf fg bare sp rst).cut (ah sp rst),(cv S).2.2.2.2)else({(RS.mk sc us pw hk hs hn hp port opq pn pl hq q hf fg bare sp rst).cut (ah sp rst)with hk:=(cv S).1,hs:=(cv S).2.1,hn:=(cv S).2.2.1,hp:=(cv S).2.2.2.1},(cv S).2.2.2.2):=by rw [e4];rfl
 rw [ef]
 refine ⟨show rst.length≤300000 from hpre,⟨by omega,by unfold ak;exact Int.ofNat_le.2 e3⟩,fun h=>?_,fun h=>⟨show S.length≤1000000 by omega,fun h2=>?_,fun h2=>?_⟩⟩
 ·rw [if_pos (show S=[]from of_decide_eq_true h)];exact ⟨rfl,rfl⟩
 ·rw [if_neg (show ¬S=[]from of_decide_eq_false h),if_neg]
  ·exact ⟨rfl,rfl⟩
  ·rintro ⟨a,b⟩
   rw [decide_eq_true a,show decide ((cv S).2.1=(ByteArray.mk #[108,111,99,97,108,104,111,115,116]).data.toList)=true from decide_eq_true b]at h2
   cases h2
 ·rw [if_neg (show ¬S=[]from of_decide_eq_false h),if_pos]
  ·exact ⟨rfl,rfl⟩
  ·cases ha:decide ((cv S).1=2)with
   |false=>rw [ha]at h2;cases h2
   |true=>
    rw [ha]at h2
    cases hb:decide ((cv S).2.1=(ByteArray.mk #[108,111,99,97,108,104,111,115,116]).data.toList)with
    |false=>rw [hb]at h2;cases h2
    |true=>exact ⟨of_decide_eq_true ha,of_decide_eq_true hb⟩)
theorem xq(bp:Option Addr)(sc us pw:Bs)(hk:Int)(hs:Bs)(hn:Int)(hp:List Int)(port:Int)(opq pn:Bool)(pl:List Bs)(hq:Bool)(q:Bs)(hf:Bool)(fg:Bs)(bare sp:Bool)(rst:Bs):ag Tryz.prog ay 125 [.ptr 0 0,aC 1 (.raw (.pointer bp)) sc us pw hk hs hn hp port opq pn pl hq q hf fg bare sp rst] ⟨rst.length≤300000,.tup [.int .i64 (RS.mk sc us pw hk hs hn hp port opq pn pl hq q hf fg bare sp rst).av.2,aC 1 (.raw (.pointer bp)) sc us pw ((RS.mk sc us pw hk hs hn hp port opq pn pl hq q hf fg bare sp rst).av.1.hk) ((RS.mk sc us pw hk hs hn hp port opq pn pl hq q hf fg bare sp rst).av.1.hs) ((RS.mk sc us pw hk hs hn hp port opq pn pl hq q hf fg bare sp rst).av.1.hn) ((RS.mk sc us pw hk hs hn hp port opq pn pl hq q hf fg bare sp rst).av.1.hp) port opq pn pl hq q hf fg bare sp (aa rst (ah sp rst))]⟩:=ag.aZ (fun h=>by have e:List.isEmpty (PV.aA PV.bw [.ptr 0 0,aC 1 (.raw (.pointer bp)) sc us pw hk hs hn hp port opq pn pl hq q hf fg bare sp rst])=false:=(by kernel_rfl);exact Bool.noConfusion (e.symm.trans (congrArg List.isEmpty h))) (rM bp sc us pw hk hs hn hp port opq pn pl hq q hf fg bare sp rst)
def jf:List PV→Option aF:=fun xs=>match xs with
 |[.ptr 0 0,aC 1 (.raw (.pointer bp)) sc us pw hk hs hn hp port opq pn pl hq q hf fg bare sp rst]=>some ⟨rst.length≤300000,.tup [.int .i64 (RS.mk sc us pw hk hs hn hp port opq pn pl hq q hf fg bare sp rst).av.2,aC 1 (.raw (.pointer bp)) sc us pw ((RS.mk sc us pw hk hs hn hp port opq pn pl hq q hf fg bare sp rst).av.1.hk) ((RS.mk sc us pw hk hs hn hp port opq pn pl hq q hf fg bare sp rst).av.1.hs) ((RS.mk sc us pw hk hs hn hp port opq pn pl hq q hf fg bare sp rst).av.1.hn) ((RS.mk sc us pw hk hs hn hp port opq pn pl hq q hf fg bare sp rst).av.1.hp) port opq pn pl hq q hf fg bare sp (aa rst (ah sp rst))]⟩
 |_=>none
theorem oO:∀xs c,jf xs=some c→ag Tryz.prog ay 125 xs c:=fun xs c h=>by
 unfold jf at h
 split at h
 ·injection h with h;subst h;exact xq _ _ _ _ _ _ _ _ _ _ _ _ _ _ _ _ _ _ _
 ·cases h
end
section
def I6:cr:=bP [(123,my)]
def I7(l:Bs):aY:=fun i=>none
theorem FJ:cS Tryz.prog ay I6:=ai la (ax)
theorem J8(l:Bs)(k:PV→Prop):cD Tryz.prog I6 ay (I7 l) 1000 Tryz.f132 [.str l] k=(
 True∧
 (bM l=true→within (1:Int) (ak l))∧
 k (PV.bool (bif bM l then decide (al l (1:Int)=(58:Int))else false))):=by kernel_rfl
attribute [local irreducible] Go.Vc.cD
theorem J9(l:Bs):ag Tryz.prog ay 132 [.str l] ⟨True,.bool (nj l)⟩:=cl (by kernel_rfl) FJ (H:=I7 l) (fuel:=1000) Tryz.func132 (by kernel_rfl) fun hpre=>(J8 l _).mpr (by
 have b1:al l 1=aN l 1:=iJ l 1
 refine ⟨trivial,fun h=>?_,?_⟩
 ·unfold bM at h
  simp only [Bool.and_eq_true,decide_eq_true_eq]at h
  unfold within ak;omega
 ·show PV.bool _=PV.bool (bM l&&decide (aN l 1=58))
  rw [←b1]
  cases bM l<;>rfl)
def uX:List PV→Option aF:=fun xs=>match xs with
 |[.str l]=>some ⟨True,.bool (nj l)⟩
 |_=>none
theorem zP:∀xs c,uX xs=some c→ag Tryz.prog ay 132 xs c:=fun xs c h=>by
 unfold uX at h
 split at h
 ·injection h with h;subst h;exact J9 _
 ·cases h
end
section
def tj:cr:=bP [(132,uX)]
def tm(bp:Option Addr)(sc us pw:Bs)(hk:Int)(hs:Bs)(hn:Int)(hp:List Int)(port:Int)(opq pn:Bool)(pl:List Bs)(hq:Bool)(q:Bs)(hf:Bool)(fg:Bs)(bare sp:Bool)(rst:Bs):aY:=fun i=>none
theorem uY:cS Tryz.prog ay tj:=ai zP (ax)
theorem zQ(bp:Option Addr)(sc us pw:Bs)(hk:Int)(hs:Bs)(hn:Int)(hp:List Int)(port:Int)(opq pn:Bool)(pl:List Bs)(hq:Bool)(q:Bs)(hf:Bool)(fg:Bs)(bare sp:Bool)(rst:Bs)(k:PV→List PV→Prop):bL Tryz.prog tj ay (tm bp sc us pw hk hs hn hp port opq pn pl hq q hf fg bare sp rst) 1000 Tryz.f87 [.ptr 0 0] [aC 1 (.raw (.pointer bp)) sc us pw hk hs hn hp port opq pn pl hq q hf fg bare sp rst] k=(
 (decide (Int.ofNat pl.length=(0:Int))=false→
 (bif decide (Int.ofNat pl.length=(1:Int))then decide (sc=(ByteArray.mk #[102,105,108,101]).data.toList)else false)=true→
 within (0:Int) (Int.ofNat pl.length))∧
 (decide (Int.ofNat pl.length=(0:Int))=false→
 (bif decide (Int.ofNat pl.length=(1:Int))then decide (sc=(ByteArray.mk #[102,105,108,101]).data.toList)else false)=true→
 True)∧
 ((bif decide (Int.ofNat pl.length=(0:Int))then true else bif bif decide (Int.ofNat pl.length=(1:Int))then decide (sc=(ByteArray.mk #[102,105,108,101]).data.toList)else false then nj (cd pl (0:Int))else false)=true→
 k (PV.tup []) [bS (PV.raw (Go.Value.pointer bp)) 1 sc us pw hk hs hn hp port opq pn pl hq q hf fg bare sp rst])∧
 ((bif decide (Int.ofNat pl.length=(0:Int))then true else bif bif decide (Int.ofNat pl.length=(1:Int))then decide (sc=(ByteArray.mk #[102,105,108,101]).data.toList)else false then nj (cd pl (0:Int))else false)=false→
 aK (Int.ofNat pl.length-(1:Int))∧
 upto (0:Int) (Int.ofNat pl.length-(1:Int)) (Int.ofNat pl.length)∧
 k (PV.tup []) [bS (PV.raw (Go.Value.pointer bp)) 1 sc us pw hk hs hn hp port opq pn (ae pl (Int.ofNat pl.length-(1:Int))) hq q hf fg bare sp rst])):=by kernel_rfl
attribute [local irreducible] Go.Vc.cD Go.Vc.bL
theorem mz(bp:Option Addr)(sc us pw:Bs)(hk:Int)(hs:Bs)(hn:Int)(hp:List Int)(port:Int)(opq pn:Bool)(pl:List Bs)(hq:Bool)(q:Bs)(hf:Bool)(fg:Bs)(bare sp:Bool)(rst:Bs):bm Tryz.prog ay 87 [.ptr 0 0] [aC 1 (.raw (.pointer bp)) sc us pw hk hs hn hp port opq pn pl hq q hf fg bare sp rst] (pl.length≤1000000) (.tup []) [aC 1 (.raw (.pointer bp)) sc us pw hk hs hn hp port opq ((b5 sc (pn,pl)).1) ((b5 sc (pn,pl)).2) hq q hf fg bare sp rst]:=bz (by kernel_rfl) uY (H:=tm bp sc us pw hk hs hn hp port opq pn pl hq q hf fg bare sp rst) (fuel:=1000) Tryz.func87 (by kernel_rfl) (Nat.le_of_ble_eq_true rfl) fun hpre=>(zQ bp sc us pw hk hs hn hp port opq pn pl hq q hf fg bare sp rst _).mpr (by
 have ef:(ByteArray.mk #[102,105,108,101]).data.toList=fL:=rfl
 rcases pl with _ |⟨x,_ |⟨y,t⟩⟩
 ·refine ⟨fun h=>(by cases h),fun h=>(by cases h),fun _=>⟨rfl,rfl⟩,fun h=>(by cases h)⟩
 ·refine ⟨fun _ _=>⟨Int.le_refl _,show(0:Int)<1 by decide⟩,fun _ _=>trivial,fun h=>?_,fun h=>?_⟩
  ·have:b5 sc (pn,[x])=(pn,[x]):=by
    unfold b5
    rw [if_pos]
    refine .inr ⟨rfl,?_,?_⟩
    ·by_cases e:sc=fL
     ·exact e
     ·rw [show decide (sc=(ByteArray.mk #[102,105,108,101]).data.toList)=false from decide_eq_false e]at h;cases h
    ·by_cases e:sc=fL
     ·rw [show decide (sc=(ByteArray.mk #[102,105,108,101]).data.toList)=true from decide_eq_true e]at h;exact h
     ·rw [show decide (sc=(ByteArray.mk #[102,105,108,101]).data.toList)=false from decide_eq_false e]at h;cases h
   rw [this];exact ⟨rfl,rfl⟩
  ·have:b5 sc (pn,[x])=(pn,[]):=by
    unfold b5
    rw [if_neg]
    ·rfl
    ·rintro (e|⟨-,e,e2⟩)
     ·cases e
     ·rw [show decide (sc=(ByteArray.mk #[102,105,108,101]).data.toList)=true from decide_eq_true e]at h
      have e3:nj (cd [x] 0)=true:=e2
      rw [e3]at h;cases h
   rw [this]
   exact ⟨show aK (1-1) by unfold aK;omega,show upto 0 (1-1) 1 by unfold upto;omega,rfl,rfl⟩
 ·have hn:¬Int.ofNat (x::y::t).length=(0:Int):=by simp [Int.ofNat];omega
  have hn1:¬Int.ofNat (x::y::t).length=(1:Int):=by simp [Int.ofNat];omega
  rw [decide_eq_false hn,decide_eq_false hn1]
  refine ⟨fun _ h=>(by cases h),fun _ h=>(by cases h),fun h=>(by cases h),fun _=>?_⟩
  have:b5 sc (pn,x::y::t)=(pn,ae (x::y::t) (Int.ofNat (x::y::t).length-1)):=by
   unfold b5
   rw [if_neg]
   ·unfold ae
    show(pn,(x::y::t).take ((x::y::t).length-1))=_
    congr 2
    simp
   ·rintro (e|⟨e,-⟩)
    ·cases e
    ·simp at e
  rw [this]
  have hl:t.length+1+1≤1000000:=hpre
  have e9:Int.ofNat (x::y::t).length=(t.length:Int)+2:=by show((t.length+1+1:Nat):Int)=_;omega
  exact ⟨by rw [e9];unfold aK;omega,by rw [e9];unfold upto;omega,rfl,rfl⟩)
theorem zR(bp:Option Addr)(sc us pw:Bs)(hk:Int)(hs:Bs)(hn:Int)(hp:List Int)(port:Int)(opq pn:Bool)(pl:List Bs)(hq:Bool)(q:Bs)(hf:Bool)(fg:Bs)(bare sp:Bool)(rst:Bs):ag Tryz.prog ay 87 [.ptr 0 0,aC 1 (.raw (.pointer bp)) sc us pw hk hs hn hp port opq pn pl hq q hf fg bare sp rst] ⟨pl.length≤1000000,.tup [.tup [],aC 1 (.raw (.pointer bp)) sc us pw hk hs hn hp port opq ((b5 sc (pn,pl)).1) ((b5 sc (pn,pl)).2) hq q hf fg bare sp rst]⟩:=ag.aZ (fun h=>by have e:List.isEmpty (PV.aA PV.bw [.ptr 0 0,aC 1 (.raw (.pointer bp)) sc us pw hk hs hn hp port opq pn pl hq q hf fg bare sp rst])=false:=(by kernel_rfl);exact Bool.noConfusion (e.symm.trans (congrArg List.isEmpty h))) (mz bp sc us pw hk hs hn hp port opq pn pl hq q hf fg bare sp rst)
def jR:List PV→Option aF:=fun xs=>match xs with
 |[.ptr 0 0,aC 1 (.raw (.pointer bp)) sc us pw hk hs hn hp port opq pn pl hq q hf fg bare sp rst]=>some ⟨pl.length≤1000000,.tup [.tup [],aC 1 (.raw (.pointer bp)) sc us pw hk hs hn hp port opq ((b5 sc (pn,pl)).1) ((b5 sc (pn,pl)).2) hq q hf fg bare sp rst]⟩
 |_=>none
theorem qE:∀xs c,jR xs=some c→ag Tryz.prog ay 87 xs c:=fun xs c h=>by
 unfold jR at h
 split at h
 ·injection h with h;subst h;exact zR _ _ _ _ _ _ _ _ _ _ _ _ _ _ _ _ _ _ _
 ·cases h
end
section
theorem qF(sc:Bs)(p:Pa):(b5 sc p).2.length≤p.2.length:=by
 unfold b5
 split
 ·exact Nat.le_refl _
 ·show(p.2.take _).length≤_
  rw [List.length_take];omega
def FK:cr:=bP [(163,qm),(164,uK),(123,my),(87,jR),(26,eW)]
def FL(bp:Option Addr)(sc us pw:Bs)(hk:Int)(hs:Bs)(hn:Int)(hp:List Int)(port:Int)(opq pn:Bool)(pl:List Bs)(hq:Bool)(q:Bs)(hf:Bool)(fg:Bs)(bare sp:Bool)(rst:Bs)(t:Bs)(last:Bool):aY:=fun i=>none
theorem C4:cS Tryz.prog ay FK:=ai w7 (ai zu (ai la (ai qE (ai dO (ax)))))
theorem Ii(bp:Option Addr)(sc us pw:Bs)(hk:Int)(hs:Bs)(hn:Int)(hp:List Int)(port:Int)(opq pn:Bool)(pl:List Bs)(hq:Bool)(q:Bs)(hf:Bool)(fg:Bs)(bare sp:Bool)(rst:Bs)(t:Bs)(last:Bool)(k:PV→List PV→Prop):bL Tryz.prog FK ay (FL bp sc us pw hk hs hn hp port opq pn pl hq q hf fg bare sp rst t last) 1000 Tryz.f139 [.ptr 0 0,.str t,.bool last] [aC 1 (.raw (.pointer bp)) sc us pw hk hs hn hp port opq pn pl hq q hf fg bare sp rst] k=(
 (List.length t).le (1000000:Nat)∧
 (l9 t=true→
 pl.length.le (1000000:Nat)∧
 (last=true→
 Int.ofNat ((b5 sc (pn,pl)).2++[(ByteArray.mk #[]).data.toList]).length≤dc∧
 k (PV.tup []) [bS (PV.raw (Go.Value.pointer bp)) 1 sc us pw hk hs hn hp port opq false ((b5 sc (pn,pl)).2++[(ByteArray.mk #[]).data.toList]) hq q hf fg bare sp rst])∧
 (last=false→
 k (PV.tup []) [bS (PV.raw (Go.Value.pointer bp)) 1 sc us pw hk hs hn hp port opq ((b5 sc (pn,pl)).1) ((b5 sc (pn,pl)).2) hq q hf fg bare sp rst]))∧
 (l9 t=false→
 (List.length t).le (1000000:Nat)∧
 (l8 t=true→
 (last=true→
 Int.ofNat (pl++[(ByteArray.mk #[]).data.toList]).length≤dc∧
 k (PV.tup []) [bS (PV.raw (Go.Value.pointer bp)) 1 sc us pw hk hs hn hp port opq false (pl++[(ByteArray.mk #[]).data.toList]) hq q hf fg bare sp rst])∧
 (last=false→
 k (PV.tup []) [bS (PV.raw (Go.Value.pointer bp)) 1 sc us pw hk hs hn hp port opq pn pl hq q hf fg bare sp rst]))∧
 (l8 t=false→
 ((bif decide (sc=(ByteArray.mk #[102,105,108,101]).data.toList)then decide (Int.ofNat pl.length=(0:Int))else false)=true→
 True)∧
 ((bif bif decide (sc=(ByteArray.mk #[102,105,108,101]).data.toList)then decide (Int.ofNat pl.length=(0:Int))else false then bM t else false)=true→
 upto (0:Int) (1:Int) (ak t)∧
 (ae t (1:Int)).length+(ByteArray.mk #[58]).data.toList.length≤Go.Vc.maxLen∧
 (Int.ofNat (pl++[ae t (1:Int)++(ByteArray.mk #[58]).data.toList]).length≤dc∧
 k (PV.tup []) [bS (PV.raw (Go.Value.pointer bp)) 1 sc us pw hk hs hn hp port opq false (pl++[ae t (1:Int)++(ByteArray.mk #[58]).data.toList]) hq q hf fg bare sp rst])∧
 Int.ofNat (pl++[ae t (1:Int)++(ByteArray.mk #[58]).data.toList]).length≤dc∧
 k (PV.tup []) [bS (PV.raw (Go.Value.pointer bp)) 1 sc us pw hk hs hn hp port opq false (pl++[ae t (1:Int)++(ByteArray.mk #[58]).data.toList]) hq q hf fg bare sp rst])∧
 ((bif bif decide (sc=(ByteArray.mk #[102,105,108,101]).data.toList)then decide (Int.ofNat pl.length=(0:Int))else false then bM t else false)=false→
 ((List.length t≤(300000:Nat)∧
 (0:Int)≤(4:Int)∧
 (4:Int)≤(6:Int))∧
 Int.ofNat (pl++[bt (4:Int) t]).length≤dc∧
 k (PV.tup []) [bS (PV.raw (Go.Value.pointer bp)) 1 sc us pw hk hs hn hp port opq false (pl++[bt (4:Int) t]) hq q hf fg bare sp rst])∧
 (List.length t≤(300000:Nat)∧
 (0:Int)≤(4:Int)∧
 (4:Int)≤(6:Int))∧
 (Int.ofNat (pl++[bt (4:Int) t]).length≤dc∧
 k (PV.tup []) [bS (PV.raw (Go.Value.pointer bp)) 1 sc us pw hk hs hn hp port opq false (pl++[bt (4:Int) t]) hq q hf fg bare sp rst])∧
 Int.ofNat (pl++[bt (4:Int) t]).length≤dc∧
 k (PV.tup []) [bS (PV.raw (Go.Value.pointer bp)) 1 sc us pw hk hs hn hp port opq false (pl++[bt (4:Int) t]) hq q hf fg bare sp rst])))):=by kernel_rfl
attribute [local irreducible] Go.Vc.cD Go.Vc.bL
theorem C5(bp:Option Addr)(sc us pw:Bs)(hk:Int)(hs:Bs)(hn:Int)(hp:List Int)(port:Int)(opq pn:Bool)(pl:List Bs)(hq:Bool)(q:Bs)(hf:Bool)(fg:Bs)(bare sp:Bool)(rst:Bs)(t:Bs)(last:Bool):bm Tryz.prog ay 139 [.ptr 0 0,.str t,.bool last] [aC 1 (.raw (.pointer bp)) sc us pw hk hs hn hp port opq pn pl hq q hf fg bare sp rst] (pl.length≤1000000∧t.length≤300000) (.tup []) [aC 1 (.raw (.pointer bp)) sc us pw hk hs hn hp port opq ((cI sc (pn,pl) t last).1) ((cI sc (pn,pl) t last).2) hq q hf fg bare sp rst]:=bz (by kernel_rfl) C4 (H:=FL bp sc us pw hk hs hn hp port opq pn pl hq q hf fg bare sp rst t last) (fuel:=1000) Tryz.func139 (by kernel_rfl) (Nat.le_of_ble_eq_true rfl) fun hpre=>(Ii bp sc us pw hk hs hn hp port opq pn pl hq q hf fg bare sp rst t last _).mpr (by
 obtain ⟨hp1,hp2⟩:=hpre
 have hm:∀(p:List Bs) (x:Bs),p.length≤1000000→Int.ofNat (p++[x]).length≤dc:=fun p x h=>by
  rw [List.length_append]
  show((p.length+1:Nat):Int)≤16777216
  omega
 have hsl:=qF sc (pn,pl)
 have ht:(List.length t).le 1000000:=show t.length≤1000000 by omega
 have hcond:(bif bif decide (sc=(ByteArray.mk #[102,105,108,101]).data.toList)then decide (Int.ofNat pl.length=(0:Int))else false then bM t else false)=decide (sc=fL∧pl=[]∧bM t=true):=by
  rw [Bool.eq_iff_iff]
  simp only [Hq,Bool.and_eq_true,decide_eq_true_eq]
  constructor
  ·rintro ⟨⟨a,b⟩,c⟩
   exact ⟨a,List.eq_nil_of_length_eq_zero (Int.ofNat.inj b),c⟩
  ·rintro ⟨a,b,c⟩
   exact ⟨⟨a,by rw [b];rfl⟩,c⟩
 rw [hcond]
 refine ⟨ht,fun h=>⟨hp1,fun hl=>⟨hm _ _ (Nat.le_trans hsl hp1),?_⟩,fun hl=>?_⟩,fun h=>⟨ht,fun h2=>⟨fun hl=>⟨hm _ _ hp1,?_⟩,fun hl=>?_⟩,fun h2=>⟨fun _=>trivial,fun h3=>?_,fun h3=>?_⟩⟩⟩
 ·have e:cI sc (pn,pl) t last=(false,(b5 sc (pn,pl)).2++[[]]):=by unfold cI;rw [if_pos h,hl];rfl
  rw [e];exact ⟨rfl,rfl⟩
 ·have e:cI sc (pn,pl) t last=b5 sc (pn,pl):=by unfold cI;rw [if_pos h,hl];rfl
  rw [e];exact ⟨rfl,rfl⟩
 ·have e:cI sc (pn,pl) t last=(false,pl++[[]]):=by unfold cI;rw [if_neg (by rw [h];decide),if_pos h2,hl];rfl
  rw [e];exact ⟨rfl,rfl⟩
 ·have e:cI sc (pn,pl) t last=(pn,pl):=by unfold cI;rw [if_neg (by rw [h];decide),if_pos h2,hl];rfl
  rw [e];exact ⟨rfl,rfl⟩
 ·have hc:=of_decide_eq_true h3
  have e:cI sc (pn,pl) t last=(false,pl++[ae t 1++[58]]):=by unfold cI;rw [if_neg (by rw [h];decide),if_neg (by rw [h2];decide),if_pos hc]
  have h2l:t.length=2:=by
   have:=hc.2.2
   unfold bM at this
   simp only [Bool.and_eq_true,decide_eq_true_eq]at this
   exact this.1.1
  rw [e]
  have hk:(ae t 1).length≤1:=by unfold ae;rw [List.length_take];exact Nat.min_le_left _ _
  exact ⟨⟨Int.le_refl _,by omega,by unfold ak;omega⟩,Nat.le_trans (Nat.add_le_add_right hk _) (by decide),⟨hm _ _ hp1,rfl,rfl⟩,hm _ _ hp1,rfl,rfl⟩
 ·have hc:=of_decide_eq_false h3
  have e:cI sc (pn,pl) t last=(false,pl++[bt 4 t]):=by unfold cI;rw [if_neg (by rw [h];decide),if_neg (by rw [h2];decide),if_neg hc]
  rw [e]
  exact ⟨⟨⟨hp2,by omega,by omega⟩,hm _ _ hp1,rfl,rfl⟩,⟨hp2,by omega,by omega⟩,⟨hm _ _ hp1,rfl,rfl⟩,hm _ _ hp1,rfl,rfl⟩)
theorem Ij(bp:Option Addr)(sc us pw:Bs)(hk:Int)(hs:Bs)(hn:Int)(hp:List Int)(port:Int)(opq pn:Bool)(pl:List Bs)(hq:Bool)(q:Bs)(hf:Bool)(fg:Bs)(bare sp:Bool)(rst:Bs)(t:Bs)(last:Bool):ag Tryz.prog ay 139 [.ptr 0 0,.str t,.bool last,aC 1 (.raw (.pointer bp)) sc us pw hk hs hn hp port opq pn pl hq q hf fg bare sp rst] ⟨pl.length≤1000000∧t.length≤300000,.tup [.tup [],aC 1 (.raw (.pointer bp)) sc us pw hk hs hn hp port opq ((cI sc (pn,pl) t last).1) ((cI sc (pn,pl) t last).2) hq q hf fg bare sp rst]⟩:=ag.aZ (fun h=>by have e:List.isEmpty (PV.aA PV.bw [.ptr 0 0,.str t,.bool last,aC 1 (.raw (.pointer bp)) sc us pw hk hs hn hp port opq pn pl hq q hf fg bare sp rst])=false:=(by kernel_rfl);exact Bool.noConfusion (e.symm.trans (congrArg List.isEmpty h))) (C5 bp sc us pw hk hs hn hp port opq pn pl hq q hf fg bare sp rst t last)
def qG:List PV→Option aF:=fun xs=>match xs with
 |[.ptr 0 0,.str t,.bool last,aC 1 (.raw (.pointer bp)) sc us pw hk hs hn hp port opq pn pl hq q hf fg bare sp rst]=>some ⟨pl.length≤1000000∧t.length≤300000,.tup [.tup [],aC 1 (.raw (.pointer bp)) sc us pw hk hs hn hp port opq ((cI sc (pn,pl) t last).1) ((cI sc (pn,pl) t last).2) hq q hf fg bare sp rst]⟩
 |_=>none
theorem xr:∀xs c,qG xs=some c→ag Tryz.prog ay 139 xs c:=fun xs c h=>by
 unfold qG at h
 split at h
 ·injection h with h;subst h;exact Ij _ _ _ _ _ _ _ _ _ _ _ _ _ _ _ _ _ _ _ _ _
 ·cases h
end
section
theorem C6(sc:Bs)(p:Pa)(t:Bs)(last:Bool):(cI sc p t last).2.length≤p.2.length+1:=by
 have h1:=qF sc p
 unfold cI zz
 (repeat' split)<;>simp<;>omega
def FM:cr:=bP [(128,gI),(129,gG),(138,gT),(139,qG)]
def FN(bp:Option Addr)(sc us pw:Bs)(hk:Int)(hs:Bs)(hn:Int)(hp:List Int)(port:Int)(opq pn:Bool)(pl:List Bs)(hq:Bool)(q:Bs)(hf:Bool)(fg:Bs)(bare sp:Bool)(rst:Bs):aY:=fun i=>bif Nat.beq i 2 then some ⟨(Bs)×(Bool×List Bs),(fun s x=>(VS.mk s.loc (((s.put 2 (.str x.1)).put 4 .undef).put 29 .undef).env [(0,aC 1 (.raw (.pointer bp)) sc us pw hk hs hn hp port opq (x.2.1) (x.2.2) hq q hf fg bare sp (aa rst (aE rst)))])),(fun s=>(s.str 2,((s.bx 0 [0,6]).lA,(s.bx 0 [0,6]).kE))),(fun s x=>let t:=x.1;let p:=x.2;t.length≤300000∧p.2.length+t.length≤pl.length+rst.length∧ot sc (ey sp) t p=bu sp sc (ae rst (aE rst)) (pn,pl)),(fun s x=>let t:=x.1;let p:=x.2;t.length),[4,29]⟩else none
theorem C7:cS Tryz.prog ay FM:=ai fN (ai fK (ai jQ (ai xr (ax))))
theorem Ik(bp:Option Addr)(sc us pw:Bs)(hk:Int)(hs:Bs)(hn:Int)(hp:List Int)(port:Int)(opq pn:Bool)(pl:List Bs)(hq:Bool)(q:Bs)(hf:Bool)(fg:Bs)(bare sp:Bool)(rst:Bs)(k:PV→List PV→Prop):bL Tryz.prog FM ay (FN bp sc us pw hk hs hn hp port opq pn pl hq q hf fg bare sp rst) 1000 Tryz.f90 [.ptr 0 0] [aC 1 (.raw (.pointer bp)) sc us pw hk hs hn hp port opq pn pl hq q hf fg bare sp rst] k=(
 (List.length rst≤(1000000:Nat)∧
 (ByteArray.mk #[63,35]).data.toList.length≤(1000000:Nat)∧
 ∀(b:UInt8),b∈(ByteArray.mk #[63,35]).data.toList→
 b.toNat<(128:Nat))∧
 ((0:Int)≤↑(bg rst (ByteArray.mk #[63,35]).data.toList)∧
 ↑(bg rst (ByteArray.mk #[63,35]).data.toList)≤ak rst)∧
 True∧
 VS.mk [] [(0,PV.ptr (0:Nat) (0:Nat)),(2,PV.str (ae rst ↑(bg rst (ByteArray.mk #[63,35]).data.toList))),(3,PV.str (ey sp)),((4:Nat),PV.undef),((29:Nat),PV.undef)] [((0:Nat),bS (PV.raw (Go.Value.pointer bp)) 1 sc us pw hk hs hn hp port opq pn pl hq q hf fg bare sp (aa rst ↑(bg rst (ByteArray.mk #[63,35]).data.toList)))]=VS.mk [] [(0,PV.ptr (0:Nat) (0:Nat)),((2:Nat),PV.str (ae rst ↑(bg rst (ByteArray.mk #[63,35]).data.toList))),(3,PV.str (ey sp)),((4:Nat),PV.undef),((29:Nat),PV.undef)] [((0:Nat),bS (PV.raw (Go.Value.pointer bp)) 1 sc us pw hk hs hn hp port opq pn pl hq q hf fg bare sp (aa rst ↑(aE rst)))]∧
 ((ae rst ↑(bg rst (ByteArray.mk #[63,35]).data.toList)).length≤(300000:Nat)∧
 pl.length+(ae rst ↑(bg rst (ByteArray.mk #[63,35]).data.toList)).length≤pl.length+List.length rst∧
 ot sc (ey sp) (ae rst ↑(bg rst (ByteArray.mk #[63,35]).data.toList)) (pn,pl)=bu sp sc (ae rst ↑(aE rst)) (pn,pl))∧
 ∀(x:Bs×Bool×List Bs),List.length x.1≤(300000:Nat)∧
 x.2.2.length+List.length x.1≤pl.length+List.length rst∧
 ot sc (ey sp) x.1 x.2=bu sp sc (ae rst ↑(aE rst)) (pn,pl)→
 (List.length x.1≤(1000000:Nat)∧
 List.length (ey sp)≤(1000000:Nat)∧
 ∀(b:UInt8),b∈ey sp→
 b.toNat<(128:Nat))∧
 upto (0:Int) (↑(bg x.1 (ey sp))) (ak x.1)∧
 (x.2.2.length≤(1000000:Nat)∧
 (ae x.1 ↑(bg x.1 (ey sp))).length≤(300000:Nat))∧
 (decide (↑(bg x.1 (ey sp))=ak x.1)=true→
 k (PV.tup []) [bS (PV.raw (Go.Value.pointer bp)) 1 sc us pw hk hs hn hp port opq ((cI sc (x.2.1,x.2.2) (ae x.1 ↑(bg x.1 (ey sp))) (decide (↑(bg x.1 (ey sp))=ak x.1))).1) ((cI sc (x.2.1,x.2.2) (ae x.1 ↑(bg x.1 (ey sp))) (decide (↑(bg x.1 (ey sp))=ak x.1))).2) hq q hf fg bare sp (aa rst ↑(aE rst))])∧
 (decide (↑(bg x.1 (ey sp))=ak x.1)=false→
 aK (↑(bg x.1 (ey sp))+(1:Int))∧
 upto (↑(bg x.1 (ey sp))+(1:Int)) (ak x.1) (ak x.1)∧
 vD (VS.mk [] [(0,PV.ptr (0:Nat) (0:Nat)),((2:Nat),PV.str (aa x.1 (↑(bg x.1 (ey sp))+(1:Int)))),(3,PV.str (ey sp)),((4:Nat),PV.undef),((29:Nat),PV.undef)] [((0:Nat),bS (PV.raw (Go.Value.pointer bp)) 1 sc us pw hk hs hn hp port opq ((cI sc (x.2.1,x.2.2) (ae x.1 ↑(bg x.1 (ey sp))) (decide (↑(bg x.1 (ey sp))=ak x.1))).1) ((cI sc (x.2.1,x.2.2) (ae x.1 ↑(bg x.1 (ey sp))) (decide (↑(bg x.1 (ey sp))=ak x.1))).2) hq q hf fg bare sp (aa rst ↑(aE rst)))])∧
 ((aa x.1 (↑(bg x.1 (ey sp))+(1:Int))).length≤(300000:Nat)∧
 (cI sc (x.2.1,x.2.2) (ae x.1 ↑(bg x.1 (ey sp))) (decide (↑(bg x.1 (ey sp))=ak x.1))).2.length+(aa x.1 (↑(bg x.1 (ey sp))+(1:Int))).length≤pl.length+List.length rst∧
 ot sc (ey sp) (aa x.1 (↑(bg x.1 (ey sp))+(1:Int))) ((cI sc (x.2.1,x.2.2) (ae x.1 ↑(bg x.1 (ey sp))) (decide (↑(bg x.1 (ey sp))=ak x.1))).1,(cI sc (x.2.1,x.2.2) (ae x.1 ↑(bg x.1 (ey sp))) (decide (↑(bg x.1 (ey sp))=ak x.1))).2)=bu sp sc (ae rst ↑(aE rst)) (pn,pl))∧
 (aa x.1 (↑(bg x.1 (ey sp))+(1:Int))).length<List.length x.1)):=by kernel_rfl
attribute [local irreducible] Go.Vc.cD Go.Vc.bL
theorem tp(bp:Option Addr)(sc us pw:Bs)(hk:Int)(hs:Bs)(hn:Int)(hp:List Int)(port:Int)(opq pn:Bool)(pl:List Bs)(hq:Bool)(q:Bs)(hf:Bool)(fg:Bs)(bare sp:Bool)(rst:Bs):bm Tryz.prog ay 90 [.ptr 0 0] [aC 1 (.raw (.pointer bp)) sc us pw hk hs hn hp port opq pn pl hq q hf fg bare sp rst] (rst.length≤300000∧pl.length≤100000) (.tup []) [aC 1 (.raw (.pointer bp)) sc us pw hk hs hn hp port opq ((bu sp sc (ae rst (aE rst)) (pn,pl)).1) ((bu sp sc (ae rst (aE rst)) (pn,pl)).2) hq q hf fg bare sp (aa rst (aE rst))]:=bz (by kernel_rfl) C7 (H:=FN bp sc us pw hk hs hn hp port opq pn pl hq q hf fg bare sp rst) (fuel:=1000) Tryz.func90 (by kernel_rfl) (Nat.le_of_ble_eq_true rfl) fun hpre=>(Ik bp sc us pw hk hs hn hp port opq pn pl hq q hf fg bare sp rst _).mpr (by
 obtain ⟨hp1,hp2⟩:=hpre
 have h63:∀b:UInt8,b∈(ByteArray.mk #[63,35]).data.toList→b.toNat<128:=by rw [show(ByteArray.mk #[63,35]).data.toList=([63,35]:Bs)from rfl];decide
 have hs3:∀b:UInt8,b∈ey sp→b.toNat<128:=by unfold ey;split<;>decide
 have hs2:(ey sp).length≤1000000:=by unfold ey;split<;>decide
 have e3:=fr rst (ByteArray.mk #[63,35]).data.toList
 have e4:(ae rst (bg rst (ByteArray.mk #[63,35]).data.toList:Int)).length≤rst.length:=by unfold ae;rw [List.length_take];exact Nat.min_le_right _ _
 refine ⟨⟨by omega,by decide,h63⟩,⟨by omega,by unfold ak;exact Int.ofNat_le.2 e3⟩,trivial,rfl,⟨by omega,by omega,rfl⟩,fun x ⟨h1,h2,h3⟩=>?_⟩
 have e5:=fr x.1 (ey sp)
 rw [zA]at h3
 generalize bg x.1 (ey sp)=n at *
 have e6:ae x.1 (n:Int)=x.1.take n:=by unfold ae;rw [Int.toNat_natCast]
 have e7:aa x.1 ((n:Int)+1)=x.1.drop (n+1):=by unfold aa;congr 1
 have e8:(x.1.take n).length≤300000:=by rw [List.length_take];omega
 rw [e6,e7]
 refine ⟨⟨by omega,hs2,hs3⟩,⟨Int.le_refl _,by omega,by unfold ak;omega⟩,⟨by omega,e8⟩,fun h=>?_,fun h=>?_⟩
 ·have hl:n=x.1.length:=by have:=of_decide_eq_true h;unfold ak at this;omega
  rw [if_pos hl]at h3
  have e9:x.1.take n=x.1:=by rw [hl,List.take_length]
  rw [h,e9,←h3]
  exact ⟨rfl,rfl⟩
 ·have hl:¬n=x.1.length:=by have:=of_decide_eq_false h;unfold ak at this;omega
  rw [if_neg hl]at h3
  have e10:(x.1.drop (n+1)).length=x.1.length-(n+1):=List.length_drop
  have e11:=C6 sc x.2 (x.1.take n) false
  rw [h]
  refine ⟨by unfold aK;omega,⟨by omega,by unfold ak;omega,Int.le_refl _⟩,rfl,⟨by omega,?_,h3⟩,by omega⟩
  show(cI sc x.2 (x.1.take n) false).2.length+_ ≤_
  omega)
theorem Il(bp:Option Addr)(sc us pw:Bs)(hk:Int)(hs:Bs)(hn:Int)(hp:List Int)(port:Int)(opq pn:Bool)(pl:List Bs)(hq:Bool)(q:Bs)(hf:Bool)(fg:Bs)(bare sp:Bool)(rst:Bs):ag Tryz.prog ay 90 [.ptr 0 0,aC 1 (.raw (.pointer bp)) sc us pw hk hs hn hp port opq pn pl hq q hf fg bare sp rst] ⟨rst.length≤300000∧pl.length≤100000,.tup [.tup [],aC 1 (.raw (.pointer bp)) sc us pw hk hs hn hp port opq ((bu sp sc (ae rst (aE rst)) (pn,pl)).1) ((bu sp sc (ae rst (aE rst)) (pn,pl)).2) hq q hf fg bare sp (aa rst (aE rst))]⟩:=ag.aZ (fun h=>by have e:List.isEmpty (PV.aA PV.bw [.ptr 0 0,aC 1 (.raw (.pointer bp)) sc us pw hk hs hn hp port opq pn pl hq q hf fg bare sp rst])=false:=(by kernel_rfl);exact Bool.noConfusion (e.symm.trans (congrArg List.isEmpty h))) (tp bp sc us pw hk hs hn hp port opq pn pl hq q hf fg bare sp rst)
def mA:List PV→Option aF:=fun xs=>match xs with
 |[.ptr 0 0,aC 1 (.raw (.pointer bp)) sc us pw hk hs hn hp port opq pn pl hq q hf fg bare sp rst]=>some ⟨rst.length≤300000∧pl.length≤100000,.tup [.tup [],aC 1 (.raw (.pointer bp)) sc us pw hk hs hn hp port opq ((bu sp sc (ae rst (aE rst)) (pn,pl)).1) ((bu sp sc (ae rst (aE rst)) (pn,pl)).2) hq q hf fg bare sp (aa rst (aE rst))]⟩
 |_=>none
theorem ox:∀xs c,mA xs=some c→ag Tryz.prog ay 90 xs c:=fun xs c h=>by
 unfold mA at h
 split at h
 ·injection h with h;subst h;exact Il _ _ _ _ _ _ _ _ _ _ _ _ _ _ _ _ _ _ _
 ·cases h
end
section
def Bl:cr:=bP []
def Bm(l:Bs):aY:=fun i=>bif Nat.beq i 3 then some ⟨(Int)×(Bool),(fun s x=>((((((((((((((((((s.put 7 (.int .i64 x.1)).put 3 (.bool x.2)).put 4 .undef).put 8 .undef).put 9 .undef).put 10 .undef).put 11 .undef).put 12 .undef).put 13 .undef).put 14 .undef).put 15 .undef).put 16 .undef).put 17 .undef).put 18 .undef).put 19 .undef).put 20 .undef).put 21 .undef).put 22 .undef)),(fun s=>(s.int 7,s.bool 3)),(fun s x=>let i:=x.1;let wn:=x.2;0≤i∧i≤l.length∧kq wn i (l.drop i.toNat)=bd l),(fun s x=>let i:=x.1;let wn:=x.2;((l.length:Int)-i).toNat),[4,8,9,10,11,12,13,14,15,16,17,18,19,20,21,22]⟩else none
theorem zS:cS Tryz.prog ay Bl:=ax
theorem FO(l:Bs)(k:PV→Prop):cD Tryz.prog Bl ay (Bm l) 1000 Tryz.f135 [.str l] k=(
 VS.mk []
 [(0,PV.str l),(2,PV.int .i64 (0:Int)),(3,PV.bool false),((4:Nat),PV.undef),
 (6,PV.int .i64 (ak l)),(7,PV.int .i64 (0:Int)),((8:Nat),PV.undef),
 ((12:Nat),PV.undef),((13:Nat),PV.undef),((15:Nat),PV.undef),((17:Nat),PV.undef),((20:Nat),PV.undef)]
 []=
 VS.mk []
 [(0,PV.str l),(2,PV.int .i64 (0:Int)),((3:Nat),PV.bool false),((4:Nat),PV.undef),
 (6,PV.int .i64 (ak l)),((7:Nat),PV.int .i64 (0:Int)),((8:Nat),PV.undef),
 ((12:Nat),PV.undef),((13:Nat),PV.undef),((15:Nat),PV.undef),((17:Nat),PV.undef),((20:Nat),PV.undef)]
 []∧
 ((0:Int)≤(0:Int)∧
 (0:Int)≤↑(List.length l)∧
 kq false (0:Int) (List.drop (Int.toNat (0:Int)) l)=bd l)∧
 ∀(x:Int×Bool),
 (0:Int)≤x.1∧
 x.1≤↑(List.length l)∧
 kq x.2 x.1 (List.drop x.1.toNat l)=bd l→
 (decide (x.1<ak l)=true→
 within x.1 (ak l)∧
 (decide (al l x.1=(91:Int))=true→
 aK (x.1+(1:Int))∧
 vD (VS.mk []
 [(0,PV.str l),(2,PV.int .i64 (0:Int)),((3:Nat),PV.bool true),
 ((4:Nat),PV.undef),(6,PV.int .i64 (ak l)),
 ((7:Nat),PV.int .i64 (x.1+(1:Int))),((8:Nat),PV.undef),((12:Nat),PV.undef),
 ((13:Nat),PV.undef),((15:Nat),PV.undef),((17:Nat),PV.undef),((20:Nat),PV.undef)]
 [])∧
 ((0:Int)≤x.1+(1:Int)∧
 x.1+(1:Int)≤↑(List.length l)∧
 kq true (x.1+(1:Int)) (List.drop (x.1+(1:Int)).toNat l)=
 bd l)∧
 (↑(List.length l)-(x.1+(1:Int))).toNat<(↑(List.length l)-x.1).toNat)∧
 (decide (al l x.1=(91:Int))=false→
 (decide (al l x.1=(93:Int))=true→
 aK (x.1+(1:Int))∧
 vD (VS.mk []
 [(0,PV.str l),(2,PV.int .i64 (0:Int)),((3:Nat),PV.bool false),
 ((4:Nat),PV.undef),(6,PV.int .i64 (ak l)),
 ((7:Nat),PV.int .i64 (x.1+(1:Int))),((8:Nat),PV.undef),((12:Nat),PV.undef),
 ((13:Nat),PV.undef),((15:Nat),PV.undef),((17:Nat),PV.undef),((20:Nat),PV.undef)]
 [])∧
 ((0:Int)≤x.1+(1:Int)∧
 x.1+(1:Int)≤↑(List.length l)∧
 kq false (x.1+(1:Int)) (List.drop (x.1+(1:Int)).toNat l)=
 bd l)∧
 (↑(List.length l)-(x.1+(1:Int))).toNat<(↑(List.length l)-x.1).toNat)∧
 (decide (al l x.1=(93:Int))=false→
 (decide (al l x.1=(58:Int))=true→
 ((!x.2)=true→k (PV.int .i64 x.1))∧
 ((!x.2)=false→
 aK (x.1+(1:Int))∧
 vD (VS.mk []
 [(0,PV.str l),(2,PV.int .i64 (0:Int)),((3:Nat),PV.bool x.2),
 ((4:Nat),PV.undef),(6,PV.int .i64 (ak l)),
 ((7:Nat),PV.int .i64 (x.1+(1:Int))),((8:Nat),PV.undef),((12:Nat),PV.undef),
 ((13:Nat),PV.undef),((15:Nat),PV.undef),((17:Nat),PV.undef),((20:Nat),PV.undef)]
 [])∧
 ((0:Int)≤x.1+(1:Int)∧
 x.1+(1:Int)≤↑(List.length l)∧
 kq x.2 (x.1+(1:Int)) (List.drop (x.1+(1:Int)).toNat l)=
 bd l)∧
 (↑(List.length l)-(x.1+(1:Int))).toNat<(↑(List.length l)-x.1).toNat))∧
 (decide (al l x.1=(58:Int))=false→
 aK (x.1+(1:Int))∧
 vD (VS.mk []
 [(0,PV.str l),(2,PV.int .i64 (0:Int)),((3:Nat),PV.bool x.2),
 ((4:Nat),PV.undef),(6,PV.int .i64 (ak l)),
 ((7:Nat),PV.int .i64 (x.1+(1:Int))),((8:Nat),PV.undef),((12:Nat),PV.undef),
 ((13:Nat),PV.undef),((15:Nat),PV.undef),((17:Nat),PV.undef),((20:Nat),PV.undef)]
 [])∧
 ((0:Int)≤x.1+(1:Int)∧
 x.1+(1:Int)≤↑(List.length l)∧
 kq x.2 (x.1+(1:Int)) (List.drop (x.1+(1:Int)).toNat l)=
 bd l)∧
 (↑(List.length l)-(x.1+(1:Int))).toNat<(↑(List.length l)-x.1).toNat))))∧
 (decide (x.1<ak l)=false→k (PV.int .i64 (-1:Int)))):=by kernel_rfl
attribute [local irreducible] Go.Vc.cD
theorem FP(l:Bs):ag Tryz.prog ay 135 [.str l] ⟨l.length≤1000000,.int .i64 (bd l)⟩:=cl (by kernel_rfl) zS (H:=Bm l) (fuel:=1000) Tryz.func135 (by kernel_rfl) fun hpre=>(FO l _).mpr (by
 refine ⟨rfl,⟨by omega,by omega,rfl⟩,fun x ⟨h0,h1,h2⟩=>⟨fun h=>?_,fun h=>?_⟩⟩
 ·have hlt:x.1<l.length:=of_decide_eq_true h
  rw [xh h0 hlt]at h2
  obtain ⟨c,hc⟩:∃c,c=l.getD x.1.toNat 0:=⟨_,rfl⟩
  have hby:al l x.1=c.toNat:=by rw [hc];rfl
  rw [←hc,kq]at h2
  rw [hby]
  refine ⟨⟨h0,hlt⟩,fun g=>⟨by unfold aK;omega,rfl,⟨by omega,by omega,?_⟩,by omega⟩,fun g=>⟨fun g2=>⟨by unfold aK;omega,rfl,⟨by omega,by omega,?_⟩,by omega⟩,fun g2=>⟨fun g3=>⟨fun g4=>?_,fun g4=>⟨by unfold aK;omega,rfl,⟨by omega,by omega,?_⟩,by omega⟩⟩,fun g3=>⟨by unfold aK;omega,rfl,⟨by omega,by omega,?_⟩,by omega⟩⟩⟩⟩
  ·have:=of_decide_eq_true g
   rw [if_pos (by omega)]at h2;exact h2
  ·have:=of_decide_eq_false g
   have:=of_decide_eq_true g2
   rw [if_neg (by omega),if_pos (by omega)]at h2;exact h2
  ·have:=of_decide_eq_false g
   have:=of_decide_eq_false g2
   have:=of_decide_eq_true g3
   have hw:x.2=false:=by simpa using g4
   rw [if_neg (by omega),if_neg (by omega),if_pos ⟨by omega,hw⟩]at h2
   rw [h2]
  ·have:=of_decide_eq_false g
   have:=of_decide_eq_false g2
   have hw:¬x.2=false:=by simpa using g4
   rw [if_neg (by omega),if_neg (by omega),if_neg (fun e=>hw e.2)]at h2;exact h2
  ·have:=of_decide_eq_false g
   have:=of_decide_eq_false g2
   have:=of_decide_eq_false g3
   rw [if_neg (by omega),if_neg (by omega),if_neg (by omega)]at h2;exact h2
 ·have hge:¬x.1<l.length:=of_decide_eq_false h
  rw [s7 hge]at h2
  show PV.int _ _=PV.int _ _
  rw [←h2];rfl)
def nA:List PV→Option aF:=fun xs=>match xs with
 |[.str l]=>some ⟨l.length≤1000000,.int .i64 (bd l)⟩
 |_=>none
theorem uZ:∀xs c,nA xs=some c→ag Tryz.prog ay 135 xs c:=fun xs c h=>by
 unfold nA at h
 split at h
 ·injection h with h;subst h;exact FP _
 ·cases h
end
section
theorem mB {sc:Bs}{port:Int}{t:Bs}(h:t≠[]):cA sc port t=match fU 0 t with
 |none=>(port,8)
 |some n=>if 65535<n then(port,8)else if aw sc=true∧wR sc=n then(port,0)else(n,0):=by
 cases t with
 |nil=>exact absurd rfl h
 |cons b t=>rfl
def FQ:cr:=bP [(155,iK),(27,dM)]
def FR(bp:Option Addr)(sc us pw:Bs)(hk:Int)(hs:Bs)(hn:Int)(hp:List Int)(port:Int)(opq pn:Bool)(pl:List Bs)(hq:Bool)(q:Bs)(hf:Bool)(fg:Bs)(bare sp:Bool)(rst:Bs)(t:Bs):aY:=fun i=>bif Nat.beq i 5 then some ⟨(Int)×(Int),(fun s x=>((((((((((((((((((((s.put 5 (.int .i64 x.1)).put 13 (.int .i64 x.2)).put 6 .undef).put 14 .undef).put 15 .undef).put 16 .undef).put 17 .undef).put 18 .undef).put 19 .undef).put 20 .undef).put 21 .undef).put 22 .undef).put 23 .undef).put 24 .undef).put 25 .undef).put 26 .undef).put 27 .undef).put 28 .undef).put 29 .undef).put 30 .undef)),(fun s=>(s.int 5,s.int 13)),(fun s x=>let n:=x.1;let i:=x.2;0≤i∧i≤t.length∧0≤n∧n≤65536∧fU n (t.drop i.toNat)=fU 0 t),(fun s x=>let n:=x.1;let i:=x.2;((t.length:Int)-i).toNat),[6,14,15,16,17,18,19,20,21,22,23,24,25,26,27,28,29,30]⟩else none
theorem C8:cS Tryz.prog ay FQ:=ai jd (ai dN (ax))
theorem Im(bp:Option Addr)(sc us pw:Bs)(hk:Int)(hs:Bs)(hn:Int)(hp:List Int)(port:Int)(opq pn:Bool)(pl:List Bs)(hq:Bool)(q:Bs)(hf:Bool)(fg:Bs)(bare sp:Bool)(rst:Bs)(t:Bs)(k:PV→List PV→Prop):bL Tryz.prog FQ ay (FR bp sc us pw hk hs hn hp port opq pn pl hq q hf fg bare sp rst t) 1000 Tryz.f137 [.ptr 0 0,.str t] [aC 1 (.raw (.pointer bp)) sc us pw hk hs hn hp port opq pn pl hq q hf fg bare sp rst] k=(
 (decide (t=(ByteArray.mk #[]).data.toList)=true→
 k (PV.int .i64 (0:Int)) [bS (PV.raw (Go.Value.pointer bp)) 1 sc us pw hk hs hn hp port opq pn pl hq q hf fg bare sp rst])∧
 (decide (t=(ByteArray.mk #[]).data.toList)=false→
 VS.mk [] [(0,PV.ptr (0:Nat) (0:Nat)),(1,PV.str t),(4,PV.int .i64 (0:Int)),(5,PV.int .i64 (0:Int)),((6:Nat),PV.undef),(7,PV.undef),(8,PV.undef),(10,PV.bool (decide (t=(ByteArray.mk #[]).data.toList))),(12,PV.int .i64 (ak t)),(13,PV.int .i64 (0:Int)),((14:Nat),PV.undef),((20:Nat),PV.undef),(32,PV.undef),(48,PV.undef)] [((0:Nat),bS (PV.raw (Go.Value.pointer bp)) 1 sc us pw hk hs hn hp port opq pn pl hq q hf fg bare sp rst)]=VS.mk [] [(0,PV.ptr (0:Nat) (0:Nat)),(1,PV.str t),(4,PV.int .i64 (0:Int)),((5:Nat),PV.int .i64 (0:Int)),((6:Nat),PV.undef),(7,PV.undef),(8,PV.undef),(10,PV.bool (decide (t=(ByteArray.mk #[]).data.toList))),(12,PV.int .i64 (ak t)),((13:Nat),PV.int .i64 (0:Int)),((14:Nat),PV.undef),((20:Nat),PV.undef),(32,PV.undef),(48,PV.undef)] [((0:Nat),bS (PV.raw (Go.Value.pointer bp)) 1 sc us pw hk hs hn hp port opq pn pl hq q hf fg bare sp rst)]∧
 ((0:Int)≤(0:Int)∧
 (0:Int)≤↑(List.length t)∧
 (0:Int)≤(0:Int)∧
 (0:Int)≤(65536:Int)∧
 fU (0:Int) (List.drop (Int.toNat (0:Int)) t)=fU (0:Int) t)∧
 ∀(x:Int×Int),(0:Int)≤x.2∧
 x.2≤↑(List.length t)∧
 (0:Int)≤x.1∧
 x.1≤(65536:Int)∧
 fU x.1 (List.drop x.2.toNat t)=fU (0:Int) t→
 (decide (x.2<ak t)=true→
 within x.2 (ak t)∧
 True∧
 ((!decide ((48:Int)≤al t x.2∧
 al t x.2≤(57:Int)))=true→
 k (PV.int .i64 (8:Int)) [bS (PV.raw (Go.Value.pointer bp)) 1 sc us pw hk hs hn hp port opq pn pl hq q hf fg bare sp rst])∧
 ((!decide ((48:Int)≤al t x.2∧
 al t x.2≤(57:Int)))=false→
 aK (x.1*(10:Int))∧
 within x.2 (ak t)∧
 aK (x.1*(10:Int)+Go.IntKind.i64.wrap (Go.IntKind.u8.wrap (al t x.2-(48:Int))))∧
 aK (x.2+(1:Int))∧
 vD (VS.mk [] [(0,PV.ptr (0:Nat) (0:Nat)),(1,PV.str t),(4,PV.int .i64 (0:Int)),((5:Nat),PV.int .i64 (min (x.1*(10:Int)+Go.IntKind.i64.wrap (Go.IntKind.u8.wrap (al t x.2-(48:Int)))) (65536:Int))),((6:Nat),PV.undef),(7,PV.undef),(8,PV.undef),(10,PV.bool (decide (t=(ByteArray.mk #[]).data.toList))),(12,PV.int .i64 (ak t)),((13:Nat),PV.int .i64 (x.2+(1:Int))),((14:Nat),PV.undef),((20:Nat),PV.undef),(32,PV.undef),(48,PV.undef)] [((0:Nat),bS (PV.raw (Go.Value.pointer bp)) 1 sc us pw hk hs hn hp port opq pn pl hq q hf fg bare sp rst)])∧
 ((0:Int)≤x.2+(1:Int)∧
 x.2+(1:Int)≤↑(List.length t)∧
 (0:Int)≤min (x.1*(10:Int)+Go.IntKind.i64.wrap (Go.IntKind.u8.wrap (al t x.2-(48:Int)))) (65536:Int)∧
 min (x.1*(10:Int)+Go.IntKind.i64.wrap (Go.IntKind.u8.wrap (al t x.2-(48:Int)))) (65536:Int)≤(65536:Int)∧
 fU (min (x.1*(10:Int)+Go.IntKind.i64.wrap (Go.IntKind.u8.wrap (al t x.2-(48:Int)))) (65536:Int)) (List.drop (x.2+(1:Int)).toNat t)=fU (0:Int) t)∧
 (↑(List.length t)-(x.2+(1:Int))).toNat<(↑(List.length t)-x.2).toNat))∧
 (decide (x.2<ak t)=false→
 (decide ((65535:Int)<x.1)=true→
 k (PV.int .i64 (8:Int)) [bS (PV.raw (Go.Value.pointer bp)) 1 sc us pw hk hs hn hp port opq pn pl hq q hf fg bare sp rst])∧
 (decide ((65535:Int)<x.1)=false→
 True∧
 ((bif !aw sc then true else !decide (wR sc=x.1))=true→
 k (PV.int .i64 (0:Int)) [bS (PV.raw (Go.Value.pointer bp)) 1 sc us pw hk hs hn hp x.1 opq pn pl hq q hf fg bare sp rst])∧
 ((bif !aw sc then true else !decide (wR sc=x.1))=false→
 k (PV.int .i64 (0:Int)) [bS (PV.raw (Go.Value.pointer bp)) 1 sc us pw hk hs hn hp port opq pn pl hq q hf fg bare sp rst]))))):=by kernel_rfl
attribute [local irreducible] Go.Vc.cD Go.Vc.bL
theorem C9(bp:Option Addr)(sc us pw:Bs)(hk:Int)(hs:Bs)(hn:Int)(hp:List Int)(port:Int)(opq pn:Bool)(pl:List Bs)(hq:Bool)(q:Bs)(hf:Bool)(fg:Bs)(bare sp:Bool)(rst:Bs)(t:Bs):bm Tryz.prog ay 137 [.ptr 0 0,.str t] [aC 1 (.raw (.pointer bp)) sc us pw hk hs hn hp port opq pn pl hq q hf fg bare sp rst] (t.length≤300000) (.int .i64 (cA sc port t).2) [aC 1 (.raw (.pointer bp)) sc us pw hk hs hn hp ((cA sc port t).1) opq pn pl hq q hf fg bare sp rst]:=bz (by kernel_rfl) C8 (H:=FR bp sc us pw hk hs hn hp port opq pn pl hq q hf fg bare sp rst t) (fuel:=1000) Tryz.func137 (by kernel_rfl) (Nat.le_of_ble_eq_true rfl) fun hpre=>(Im bp sc us pw hk hs hn hp port opq pn pl hq q hf fg bare sp rst t _).mpr (by
 refine ⟨fun h=>?_,fun h=>⟨rfl,⟨by omega,by omega,by omega,by omega,rfl⟩,fun x ⟨h0,h1,h2,h3,h4⟩=>⟨fun g=>?_,fun g=>?_⟩⟩⟩
 ·have e:t=[]:=of_decide_eq_true h
  subst e;exact ⟨rfl,rfl⟩
 ·have hne:t≠[]:=of_decide_eq_false h
  have hlt:x.2<t.length:=of_decide_eq_true g
  rw [xh h0 hlt]at h4
  obtain ⟨c,hc⟩:∃c,c=t.getD x.2.toNat 0:=⟨_,rfl⟩
  have hby:al t x.2=c.toNat:=by rw [hc];rfl
  rw [←hc,fU]at h4
  rw [hby]
  refine ⟨⟨h0,hlt⟩,trivial,fun g2=>?_,fun g2=>?_⟩
  ·have g3:¬(48≤c.toNat∧c.toNat≤57):=by
    intro e
    rw [decide_eq_true (show(48:Int)≤c.toNat∧(c.toNat:Int)≤57 by omega)]at g2;cases g2
   rw [if_neg g3]at h4
   have e:cA sc port t=(port,8):=by rw [mB hne,←h4]
   rw [e];exact ⟨rfl,rfl⟩
  ·have g3:48≤c.toNat∧c.toNat≤57:=by
    have:=of_decide_eq_true (show decide ((48:Int)≤c.toNat∧(c.toNat:Int)≤57)=true by simpa using g2)
    omega
   rw [if_pos g3]at h4
   have w1:IntKind.u8.wrap ((c.toNat:Int)-48)=(c.toNat:Int)-48:=IntWalk.u8_in _ (by omega)
   have w2:IntKind.i64.wrap ((c.toNat:Int)-48)=(c.toNat:Int)-48:=IntWalk.i64_in _ (by omega)
   rw [w1,w2]
   exact ⟨by unfold aK;omega,⟨h0,hlt⟩,by unfold aK;omega,by unfold aK;omega,rfl,⟨by omega,by omega,by omega,by omega,h4⟩,by omega⟩
 ·have hne:t≠[]:=of_decide_eq_false h
  have hge:¬x.2<t.length:=of_decide_eq_false g
  rw [s7 hge]at h4
  have h5:fU 0 t=some x.1:=h4.symm
  refine ⟨fun g2=>?_,fun g2=>⟨trivial,fun g3=>?_,fun g3=>?_⟩⟩
  ·have e:cA sc port t=(port,8):=by rw [mB hne,h5];exact if_pos (of_decide_eq_true g2)
   rw [e];exact ⟨rfl,rfl⟩
  ·have e:cA sc port t=(x.1,0):=by
    rw [mB hne,h5]
    show(if _ then _ else if _ then _ else _)=_
    rw [if_neg (of_decide_eq_false g2),if_neg]
    rintro ⟨e1,e2⟩
    rw [e1,decide_eq_true e2]at g3;cases g3
   rw [e];exact ⟨rfl,rfl⟩
  ·have e:cA sc port t=(port,0):=by
    rw [mB hne,h5]
    show(if _ then _ else if _ then _ else _)=_
    rw [if_neg (of_decide_eq_false g2),if_pos]
    cases e1:aw sc with
    |false=>rw [e1]at g3;cases g3
    |true=>
     refine ⟨rfl,?_⟩
     rw [e1]at g3
     exact of_decide_eq_true (show decide (wR sc=x.1)=true by simpa using g3)
   rw [e];exact ⟨rfl,rfl⟩)
theorem Io(bp:Option Addr)(sc us pw:Bs)(hk:Int)(hs:Bs)(hn:Int)(hp:List Int)(port:Int)(opq pn:Bool)(pl:List Bs)(hq:Bool)(q:Bs)(hf:Bool)(fg:Bs)(bare sp:Bool)(rst:Bs)(t:Bs):ag Tryz.prog ay 137 [.ptr 0 0,.str t,aC 1 (.raw (.pointer bp)) sc us pw hk hs hn hp port opq pn pl hq q hf fg bare sp rst] ⟨t.length≤300000,.tup [.int .i64 (cA sc port t).2,aC 1 (.raw (.pointer bp)) sc us pw hk hs hn hp ((cA sc port t).1) opq pn pl hq q hf fg bare sp rst]⟩:=ag.aZ (fun h=>by have e:List.isEmpty (PV.aA PV.bw [.ptr 0 0,.str t,aC 1 (.raw (.pointer bp)) sc us pw hk hs hn hp port opq pn pl hq q hf fg bare sp rst])=false:=(by kernel_rfl);exact Bool.noConfusion (e.symm.trans (congrArg List.isEmpty h))) (C9 bp sc us pw hk hs hn hp port opq pn pl hq q hf fg bare sp rst t)
def qH:List PV→Option aF:=fun xs=>match xs with
 |[.ptr 0 0,.str t,aC 1 (.raw (.pointer bp)) sc us pw hk hs hn hp port opq pn pl hq q hf fg bare sp rst]=>some ⟨t.length≤300000,.tup [.int .i64 (cA sc port t).2,aC 1 (.raw (.pointer bp)) sc us pw hk hs hn hp ((cA sc port t).1) opq pn pl hq q hf fg bare sp rst]⟩
 |_=>none
theorem xt:∀xs c,qH xs=some c→ag Tryz.prog ay 137 xs c:=fun xs c h=>by
 unfold qH at h
 split at h
 ·injection h with h;subst h;exact Io _ _ _ _ _ _ _ _ _ _ _ _ _ _ _ _ _ _ _ _
 ·cases h
end
section
theorem o7:∀(l:Bs) (w:Bool) (i:Int),kq w i l=-1∨(i≤kq w i l∧kq w i l<i+l.length)
 |[],w,i=>.inl rfl
 |b::l,w,i=>by
  have h1:=o7 l true (i+1)
  have h2:=o7 l false (i+1)
  have h3:=o7 l w (i+1)
  unfold kq
  rw [List.length_cons]
  split
  ·omega
  ·split
   ·omega
   ·split
    ·omega
    ·omega
theorem Bn(l:Bs):-1≤bd l∧bd l<max l.length 1:=by
 have:=o7 l false 0
 unfold bd
 cases l with
 |nil=>exact ⟨by decide,by decide⟩
 |cons b l=>rw [List.length_cons]at this⊢;omega
theorem Ip {l:Bs}(h:0<bd l):bd l<l.length:=by
 have:=Bn l
 cases l with
 |nil=>revert h;decide
 |cons b l=>rw [List.length_cons]at this⊢;omega
theorem FT(l:Bs)(c:Int):aI l c<l.length:=by
 rw [qk]
 rcases Lib.lastIndexByte_spec ⟨l.toArray⟩ c with⟨h1,-⟩|⟨i,h1,h2,-,-⟩
 ·rw [h1];omega
 ·rw [h2]
  have:i<l.length:=by simpa [ByteArray.size]using h1
  omega
theorem qI(l:Bs)(z:Int):(ae l z).length≤l.length:=by unfold ae;rw [List.length_take];exact Nat.min_le_right _ _
theorem cO(l:Bs)(z:Int):(aa l z).length≤l.length:=by unfold aa;rw [List.length_drop];omega
theorem Iq(l:Bs)(c:UInt8):(dj l c).length≤l.length:=by
 unfold dj;split
 ·rw [List.length_take];exact Nat.min_le_right _ _
 ·exact Nat.le_refl _
theorem Ir(l:Bs)(c:UInt8):(dG l c).length≤l.length:=by
 unfold dG;split
 ·rw [List.length_drop];omega
 ·exact Nat.zero_le _
def KM(k:PV→List PV→Prop)(bp:Option Addr)(sc us pw:Bs)(hk:Int)(hs:Bs)(hn:Int)(hp:List Int)(port:Int)(opq pn:Bool)(pl:List Bs)(hq:Bool)(q:Bs)(hf:Bool)(fg:Bs)(bare sp:Bool)(t D:Bs):Prop:=t.length.le (1000000:Nat)∧
 ((bif decide (bd t=(0:Int))then true else bif decide (t=(ByteArray.mk #[]).data.toList)then sp else false)=true→
 k (PV.int .i64 (8:Int)) [bS (PV.raw (Go.Value.pointer bp)) 1 sc us pw hk hs hn hp port opq pn pl hq q hf fg bare sp D])∧
 ((bif decide (bd t=(0:Int))then true else bif decide (t=(ByteArray.mk #[]).data.toList)then sp else false)=false→
 (decide ((0:Int)<bd t)=true→
 upto (0:Int) (bd t) (ak t)∧
 aK (bd t+(1:Int))∧
 upto (bd t+(1:Int)) (ak t) (ak t)∧
 (ae t (bd t)).length.le (300000:Nat)∧
 ((!decide ((aO sp (ae t (bd t))).2.2.2.2=(0:Int)))=true→
 k (PV.int .i64 (aO sp (ae t (bd t))).2.2.2.2) [bS (PV.raw (Go.Value.pointer bp)) 1 sc us pw ((aO sp (ae t (bd t))).1) ((aO sp (ae t (bd t))).2.1) ((aO sp (ae t (bd t))).2.2.1) ((aO sp (ae t (bd t))).2.2.2.1) port opq pn pl hq q hf fg bare sp D])∧
 ((!decide ((aO sp (ae t (bd t))).2.2.2.2=(0:Int)))=false→
 (aa t (bd t+(1:Int))).length.le (300000:Nat)∧
 k (PV.int .i64 (cA sc port (aa t (bd t+(1:Int)))).2) [bS (PV.raw (Go.Value.pointer bp)) 1 sc us pw ((aO sp (ae t (bd t))).1) ((aO sp (ae t (bd t))).2.1) ((aO sp (ae t (bd t))).2.2.1) ((aO sp (ae t (bd t))).2.2.2.1) ((cA sc port (aa t (bd t+(1:Int)))).1) opq pn pl hq q hf fg bare sp D]))∧
 (decide ((0:Int)<bd t)=false→
 t.length.le (300000:Nat)∧
 ((!decide ((aO sp t).2.2.2.2=(0:Int)))=true→
 k (PV.int .i64 (aO sp t).2.2.2.2) [bS (PV.raw (Go.Value.pointer bp)) 1 sc us pw ((aO sp t).1) ((aO sp t).2.1) ((aO sp t).2.2.1) ((aO sp t).2.2.2.1) port opq pn pl hq q hf fg bare sp D])∧
 ((!decide ((aO sp t).2.2.2.2=(0:Int)))=false→
 (ByteArray.mk #[]).data.toList.length.le (300000:Nat)∧
 k (PV.int .i64 (0:Int)) [bS (PV.raw (Go.Value.pointer bp)) 1 sc us pw ((aO sp t).1) ((aO sp t).2.1) ((aO sp t).2.2.1) ((aO sp t).2.2.2.1) port opq pn pl hq q hf fg bare sp D])))
set_option maxHeartbeats 2000000 in
theorem Bo(bp:Option Addr)(sc us pw:Bs)(hk:Int)(hs:Bs)(hn:Int)(hp:List Int)(port:Int)(opq pn:Bool)(pl:List Bs)(hq:Bool)(q:Bs)(hf:Bool)(fg:Bs)(bare sp:Bool)(t D:Bs)(hl:t.length≤300000):
 KM (fun v os=>v=.int .i64 ((RS.mk sc us pw hk hs hn hp port opq pn pl hq q hf fg bare sp D).bO t).2∧os=[aC 1 (.raw (.pointer bp)) sc (((RS.mk sc us pw hk hs hn hp port opq pn pl hq q hf fg bare sp D).bO t).1.us) (((RS.mk sc us pw hk hs hn hp port opq pn pl hq q hf fg bare sp D).bO t).1.pw) (((RS.mk sc us pw hk hs hn hp port opq pn pl hq q hf fg bare sp D).bO t).1.hk) (((RS.mk sc us pw hk hs hn hp port opq pn pl hq q hf fg bare sp D).bO t).1.hs) (((RS.mk sc us pw hk hs hn hp port opq pn pl hq q hf fg bare sp D).bO t).1.hn) (((RS.mk sc us pw hk hs hn hp port opq pn pl hq q hf fg bare sp D).bO t).1.hp) (((RS.mk sc us pw hk hs hn hp port opq pn pl hq q hf fg bare sp D).bO t).1.port) opq pn pl hq q hf fg bare sp D]) bp sc us pw hk hs hn hp port opq pn pl hq q hf fg bare sp t D:=by
 have hb:=Bn t
 have hcond:(bif decide (bd t=(0:Int))then true else bif decide (t=(ByteArray.mk #[]).data.toList)then sp else false)=decide (bd t=0∨(t=[]∧sp=true)):=by
  rw [Bool.eq_iff_iff]
  simp only [Hq,Le,Bool.and_eq_true,Bool.or_eq_true,decide_eq_true_eq]
  try exact Iff.rfl
 unfold KM
 rw [hcond]
 refine ⟨show t.length≤1000000 by omega,fun h=>?_,fun h=>⟨fun h2=>?_,fun h2=>?_⟩⟩
 ·have e:(RS.mk sc us pw hk hs hn hp port opq pn pl hq q hf fg bare sp D).bO t=((RS.mk sc us pw hk hs hn hp port opq pn pl hq q hf fg bare sp D),8):=if_pos (of_decide_eq_true h)
  rw [e];exact ⟨rfl,rfl⟩
 ·have hc:=of_decide_eq_false h
  have h3:0<bd t:=of_decide_eq_true h2
  have h4:=Ip h3
  have ht:=qI t (bd t)
  have hd:=cO t (bd t+1)
  have e:(RS.mk sc us pw hk hs hn hp port opq pn pl hq q hf fg bare sp D).bO t=if(aO sp (ae t (bd t))).2.2.2.2=0 then({(RS.mk sc us pw hk hs hn hp port opq pn pl hq q hf fg bare sp D)with hk:=(aO sp (ae t (bd t))).1,hs:=(aO sp (ae t (bd t))).2.1,hn:=(aO sp (ae t (bd t))).2.2.1,hp:=(aO sp (ae t (bd t))).2.2.2.1,port:=(cA sc port (aa t (bd t+1))).1},(cA sc port (aa t (bd t+1))).2)else({(RS.mk sc us pw hk hs hn hp port opq pn pl hq q hf fg bare sp D)with hk:=(aO sp (ae t (bd t))).1,hs:=(aO sp (ae t (bd t))).2.1,hn:=(aO sp (ae t (bd t))).2.2.1,hp:=(aO sp (ae t (bd t))).2.2.2.1},(aO sp (ae t (bd t))).2.2.2.2):=by
   unfold RS.bO
   rw [if_neg hc]
   dsimp only
   rw [if_pos h3,if_pos h3]
  rw [e]
  refine ⟨⟨by omega,by omega,by unfold ak;omega⟩,by unfold aK;omega,⟨by omega,by unfold ak;omega,Int.le_refl _⟩,show(ae t (bd t)).length≤300000 by omega,fun h5=>?_,fun h5=>⟨show(aa t (bd t+1)).length≤300000 by omega,?_⟩⟩
  ·rw [if_neg (by simpa using h5)];exact ⟨rfl,rfl⟩
  ·rw [if_pos (by simpa using h5)];exact ⟨rfl,rfl⟩
 ·have hc:=of_decide_eq_false h
  have h3:¬0<bd t:=of_decide_eq_false h2
  have e:(RS.mk sc us pw hk hs hn hp port opq pn pl hq q hf fg bare sp D).bO t=if(aO sp t).2.2.2.2=0 then({(RS.mk sc us pw hk hs hn hp port opq pn pl hq q hf fg bare sp D)with hk:=(aO sp t).1,hs:=(aO sp t).2.1,hn:=(aO sp t).2.2.1,hp:=(aO sp t).2.2.2.1,port:=(cA sc port []).1},(cA sc port []).2)else({(RS.mk sc us pw hk hs hn hp port opq pn pl hq q hf fg bare sp D)with hk:=(aO sp t).1,hs:=(aO sp t).2.1,hn:=(aO sp t).2.2.1,hp:=(aO sp t).2.2.2.1},(aO sp t).2.2.2.2):=by
   unfold RS.bO
   rw [if_neg hc]
   dsimp only
   rw [if_neg h3,if_neg h3]
  rw [e]
  refine ⟨show t.length≤300000 from hl,fun h5=>?_,fun h5=>⟨Nat.zero_le _,?_⟩⟩
  ·rw [if_neg (by simpa using h5)];exact ⟨rfl,rfl⟩
  ·rw [if_pos (by simpa using h5)];exact ⟨rfl,rfl⟩
def oy:cr:=bP [(124,fM),(128,gI),(133,ql),(134,uI),(26,eW),(135,nA),(136,jN),(137,qH)]
def oz(bp:Option Addr)(sc us pw:Bs)(hk:Int)(hs:Bs)(hn:Int)(hp:List Int)(port:Int)(opq pn:Bool)(pl:List Bs)(hq:Bool)(q:Bs)(hf:Bool)(fg:Bs)(bare sp:Bool)(rst:Bs):aY:=fun i=>none
theorem qJ:cS Tryz.prog ay oy:=ai gH (ai fN (ai w6 (ai zt (ai dO (ai uZ (ai qw (ai xt (ax))))))))
theorem u3(bp:Option Addr)(sc us pw:Bs)(hk:Int)(hs:Bs)(hn:Int)(hp:List Int)(port:Int)(opq pn:Bool)(pl:List Bs)(hq:Bool)(q:Bs)(hf:Bool)(fg:Bs)(bare sp:Bool)(rst:Bs)(k:PV→List PV→Prop):bL Tryz.prog oy ay (oz bp sc us pw hk hs hn hp port opq pn pl hq q hf fg bare sp rst) 1000 Tryz.f88 [.ptr 0 0] [aC 1 (.raw (.pointer bp)) sc us pw hk hs hn hp port opq pn pl hq q hf fg bare sp rst] k=(
 (List.length rst).le (300000:Nat)∧
 ((0:Int)≤↑(ah sp rst)∧
 ↑(ah sp rst)≤ak rst)∧
 ((ae rst ↑(ah sp rst)).length≤(1000000:Nat)∧
 (0:Int)≤(64:Int)∧
 (64:Int)≤(255:Int))∧
 (decide ((0:Int)≤aI (ae rst ↑(ah sp rst)) (64:Int))=true→
 upto (0:Int) (aI (ae rst ↑(ah sp rst)) (64:Int)) (ak (ae rst ↑(ah sp rst)))∧
 ((ae (ae rst ↑(ah sp rst)) (aI (ae rst ↑(ah sp rst)) (64:Int))).length≤(1000000:Nat)∧
 (ByteArray.mk #[58]).data.toList=[(58:UInt8)])∧
 ((dj (ae (ae rst ↑(ah sp rst)) (aI (ae rst ↑(ah sp rst)) (64:Int))) (58:UInt8)).length≤(300000:Nat)∧
 (0:Int)≤(5:Int)∧
 (5:Int)≤(6:Int))∧
 ((dG (ae (ae rst ↑(ah sp rst)) (aI (ae rst ↑(ah sp rst)) (64:Int))) (58:UInt8)).length≤(300000:Nat)∧
 (0:Int)≤(5:Int)∧
 (5:Int)≤(6:Int))∧
 aK (aI (ae rst ↑(ah sp rst)) (64:Int)+(1:Int))∧
 upto (aI (ae rst ↑(ah sp rst)) (64:Int)+(1:Int)) (ak (ae rst ↑(ah sp rst))) (ak (ae rst ↑(ah sp rst)))∧
 (decide (aa (ae rst ↑(ah sp rst)) (aI (ae rst ↑(ah sp rst)) (64:Int)+(1:Int))=(ByteArray.mk #[]).data.toList)=true→
 k (PV.int .i64 (8:Int)) [bS (PV.raw (Go.Value.pointer bp)) 1 sc (bt (5:Int) (dj (ae (ae rst ↑(ah sp rst)) (aI (ae rst ↑(ah sp rst)) (64:Int))) (58:UInt8))) (bt (5:Int) (dG (ae (ae rst ↑(ah sp rst)) (aI (ae rst ↑(ah sp rst)) (64:Int))) (58:UInt8))) hk hs hn hp port opq pn pl hq q hf fg bare sp (aa rst ↑(ah sp rst))])∧
 (decide (aa (ae rst ↑(ah sp rst)) (aI (ae rst ↑(ah sp rst)) (64:Int)+(1:Int))=(ByteArray.mk #[]).data.toList)=false→
 (aa (ae rst ↑(ah sp rst)) (aI (ae rst ↑(ah sp rst)) (64:Int)+(1:Int))).length.le (1000000:Nat)∧
 ((bif decide (bd (aa (ae rst ↑(ah sp rst)) (aI (ae rst ↑(ah sp rst)) (64:Int)+(1:Int)))=(0:Int))then true else bif decide (aa (ae rst ↑(ah sp rst)) (aI (ae rst ↑(ah sp rst)) (64:Int)+(1:Int))=(ByteArray.mk #[]).data.toList)then sp else false)=true→
 k (PV.int .i64 (8:Int)) [bS (PV.raw (Go.Value.pointer bp)) 1 sc (bt (5:Int) (dj (ae (ae rst ↑(ah sp rst)) (aI (ae rst ↑(ah sp rst)) (64:Int))) (58:UInt8))) (bt (5:Int) (dG (ae (ae rst ↑(ah sp rst)) (aI (ae rst ↑(ah sp rst)) (64:Int))) (58:UInt8))) hk hs hn hp port opq pn pl hq q hf fg bare sp (aa rst ↑(ah sp rst))])∧
 ((bif decide (bd (aa (ae rst ↑(ah sp rst)) (aI (ae rst ↑(ah sp rst)) (64:Int)+(1:Int)))=(0:Int))then true else bif decide (aa (ae rst ↑(ah sp rst)) (aI (ae rst ↑(ah sp rst)) (64:Int)+(1:Int))=(ByteArray.mk #[]).data.toList)then sp else false)=false→
 (decide ((0:Int)<bd (aa (ae rst ↑(ah sp rst)) (aI (ae rst ↑(ah sp rst)) (64:Int)+(1:Int))))=true→
 upto (0:Int) (bd (aa (ae rst ↑(ah sp rst)) (aI (ae rst ↑(ah sp rst)) (64:Int)+(1:Int)))) (ak (aa (ae rst ↑(ah sp rst)) (aI (ae rst ↑(ah sp rst)) (64:Int)+(1:Int))))∧
 aK (bd (aa (ae rst ↑(ah sp rst)) (aI (ae rst ↑(ah sp rst)) (64:Int)+(1:Int)))+(1:Int))∧
 upto (bd (aa (ae rst ↑(ah sp rst)) (aI (ae rst ↑(ah sp rst)) (64:Int)+(1:Int)))+(1:Int)) (ak (aa (ae rst ↑(ah sp rst)) (aI (ae rst ↑(ah sp rst)) (64:Int)+(1:Int)))) (ak (aa (ae rst ↑(ah sp rst)) (aI (ae rst ↑(ah sp rst)) (64:Int)+(1:Int))))∧
 (ae (aa (ae rst ↑(ah sp rst)) (aI (ae rst ↑(ah sp rst)) (64:Int)+(1:Int))) (bd (aa (ae rst ↑(ah sp rst)) (aI (ae rst ↑(ah sp rst)) (64:Int)+(1:Int))))).length.le (300000:Nat)∧
 ((!decide ((aO sp (ae (aa (ae rst ↑(ah sp rst)) (aI (ae rst ↑(ah sp rst)) (64:Int)+(1:Int))) (bd (aa (ae rst ↑(ah sp rst)) (aI (ae rst ↑(ah sp rst)) (64:Int)+(1:Int)))))).2.2.2.2=(0:Int)))=true→
 k (PV.int .i64 (aO sp (ae (aa (ae rst ↑(ah sp rst)) (aI (ae rst ↑(ah sp rst)) (64:Int)+(1:Int))) (bd (aa (ae rst ↑(ah sp rst)) (aI (ae rst ↑(ah sp rst)) (64:Int)+(1:Int)))))).2.2.2.2) [bS (PV.raw (Go.Value.pointer bp)) 1 sc (bt (5:Int) (dj (ae (ae rst ↑(ah sp rst)) (aI (ae rst ↑(ah sp rst)) (64:Int))) (58:UInt8))) (bt (5:Int) (dG (ae (ae rst ↑(ah sp rst)) (aI (ae rst ↑(ah sp rst)) (64:Int))) (58:UInt8))) ((aO sp (ae (aa (ae rst ↑(ah sp rst)) (aI (ae rst ↑(ah sp rst)) (64:Int)+(1:Int))) (bd (aa (ae rst ↑(ah sp rst)) (aI (ae rst ↑(ah sp rst)) (64:Int)+(1:Int)))))).1) ((aO sp (ae (aa (ae rst ↑(ah sp rst)) (aI (ae rst ↑(ah sp rst)) (64:Int)+(1:Int))) (bd (aa (ae rst ↑(ah sp rst)) (aI (ae rst ↑(ah sp rst)) (64:Int)+(1:Int)))))).2.1) ((aO sp (ae (aa (ae rst ↑(ah sp rst)) (aI (ae rst ↑(ah sp rst)) (64:Int)+(1:Int))) (bd (aa (ae rst ↑(ah sp rst)) (aI (ae rst ↑(ah sp rst)) (64:Int)+(1:Int)))))).2.2.1) ((aO sp (ae (aa (ae rst ↑(ah sp rst)) (aI (ae rst ↑(ah sp rst)) (64:Int)+(1:Int))) (bd (aa (ae rst ↑(ah sp rst)) (aI (ae rst ↑(ah sp rst)) (64:Int)+(1:Int)))))).2.2.2.1) port opq pn pl hq q hf fg bare sp (aa rst ↑(ah sp rst))])∧
 ((!decide ((aO sp (ae (aa (ae rst ↑(ah sp rst)) (aI (ae rst ↑(ah sp rst)) (64:Int)+(1:Int))) (bd (aa (ae rst ↑(ah sp rst)) (aI (ae rst ↑(ah sp rst)) (64:Int)+(1:Int)))))).2.2.2.2=(0:Int)))=false→
 (aa (aa (ae rst ↑(ah sp rst)) (aI (ae rst ↑(ah sp rst)) (64:Int)+(1:Int))) (bd (aa (ae rst ↑(ah sp rst)) (aI (ae rst ↑(ah sp rst)) (64:Int)+(1:Int)))+(1:Int))).length.le (300000:Nat)∧
 k (PV.int .i64 (cA sc port (aa (aa (ae rst ↑(ah sp rst)) (aI (ae rst ↑(ah sp rst)) (64:Int)+(1:Int))) (bd (aa (ae rst ↑(ah sp rst)) (aI (ae rst ↑(ah sp rst)) (64:Int)+(1:Int)))+(1:Int)))).2) [bS (PV.raw (Go.Value.pointer bp)) 1 sc (bt (5:Int) (dj (ae (ae rst ↑(ah sp rst)) (aI (ae rst ↑(ah sp rst)) (64:Int))) (58:UInt8))) (bt (5:Int) (dG (ae (ae rst ↑(ah sp rst)) (aI (ae rst ↑(ah sp rst)) (64:Int))) (58:UInt8))) ((aO sp (ae (aa (ae rst ↑(ah sp rst)) (aI (ae rst ↑(ah sp rst)) (64:Int)+(1:Int))) (bd (aa (ae rst ↑(ah sp rst)) (aI (ae rst ↑(ah sp rst)) (64:Int)+(1:Int)))))).1) ((aO sp (ae (aa (ae rst ↑(ah sp rst)) (aI (ae rst ↑(ah sp rst)) (64:Int)+(1:Int))) (bd (aa (ae rst ↑(ah sp rst)) (aI (ae rst ↑(ah sp rst)) (64:Int)+(1:Int)))))).2.1) ((aO sp (ae (aa (ae rst ↑(ah sp rst)) (aI (ae rst ↑(ah sp rst)) (64:Int)+(1:Int))) (bd (aa (ae rst ↑(ah sp rst)) (aI (ae rst ↑(ah sp rst)) (64:Int)+(1:Int)))))).2.2.1) ((aO sp (ae (aa (ae rst ↑(ah sp rst)) (aI (ae rst ↑(ah sp rst)) (64:Int)+(1:Int))) (bd (aa (ae rst ↑(ah sp rst)) (aI (ae rst ↑(ah sp rst)) (64:Int)+(1:Int)))))).2.2.2.1) ((cA sc port (aa (aa (ae rst ↑(ah sp rst)) (aI (ae rst ↑(ah sp rst)) (64:Int)+(1:Int))) (bd (aa (ae rst ↑(ah sp rst)) (aI (ae rst ↑(ah sp rst)) (64:Int)+(1:Int)))+(1:Int)))).1) opq pn pl hq q hf fg bare sp (aa rst ↑(ah sp rst))]))∧
 (decide ((0:Int)<bd (aa (ae rst ↑(ah sp rst)) (aI (ae rst ↑(ah sp rst)) (64:Int)+(1:Int))))=false→
 (aa (ae rst ↑(ah sp rst)) (aI (ae rst ↑(ah sp rst)) (64:Int)+(1:Int))).length.le (300000:Nat)∧
 ((!decide ((aO sp (aa (ae rst ↑(ah sp rst)) (aI (ae rst ↑(ah sp rst)) (64:Int)+(1:Int)))).2.2.2.2=(0:Int)))=true→
 k (PV.int .i64 (aO sp (aa (ae rst ↑(ah sp rst)) (aI (ae rst ↑(ah sp rst)) (64:Int)+(1:Int)))).2.2.2.2) [bS (PV.raw (Go.Value.pointer bp)) 1 sc (bt (5:Int) (dj (ae (ae rst ↑(ah sp rst)) (aI (ae rst ↑(ah sp rst)) (64:Int))) (58:UInt8))) (bt (5:Int) (dG (ae (ae rst ↑(ah sp rst)) (aI (ae rst ↑(ah sp rst)) (64:Int))) (58:UInt8))) ((aO sp (aa (ae rst ↑(ah sp rst)) (aI (ae rst ↑(ah sp rst)) (64:Int)+(1:Int)))).1) ((aO sp (aa (ae rst ↑(ah sp rst)) (aI (ae rst ↑(ah sp rst)) (64:Int)+(1:Int)))).2.1) ((aO sp (aa (ae rst ↑(ah sp rst)) (aI (ae rst ↑(ah sp rst)) (64:Int)+(1:Int)))).2.2.1) ((aO sp (aa (ae rst ↑(ah sp rst)) (aI (ae rst ↑(ah sp rst)) (64:Int)+(1:Int)))).2.2.2.1) port opq pn pl hq q hf fg bare sp (aa rst ↑(ah sp rst))])∧
 ((!decide ((aO sp (aa (ae rst ↑(ah sp rst)) (aI (ae rst ↑(ah sp rst)) (64:Int)+(1:Int)))).2.2.2.2=(0:Int)))=false→
 (ByteArray.mk #[]).data.toList.length.le (300000:Nat)∧
 k (PV.int .i64 (0:Int)) [bS (PV.raw (Go.Value.pointer bp)) 1 sc (bt (5:Int) (dj (ae (ae rst ↑(ah sp rst)) (aI (ae rst ↑(ah sp rst)) (64:Int))) (58:UInt8))) (bt (5:Int) (dG (ae (ae rst ↑(ah sp rst)) (aI (ae rst ↑(ah sp rst)) (64:Int))) (58:UInt8))) ((aO sp (aa (ae rst ↑(ah sp rst)) (aI (ae rst ↑(ah sp rst)) (64:Int)+(1:Int)))).1) ((aO sp (aa (ae rst ↑(ah sp rst)) (aI (ae rst ↑(ah sp rst)) (64:Int)+(1:Int)))).2.1) ((aO sp (aa (ae rst ↑(ah sp rst)) (aI (ae rst ↑(ah sp rst)) (64:Int)+(1:Int)))).2.2.1) ((aO sp (aa (ae rst ↑(ah sp rst)) (aI (ae rst ↑(ah sp rst)) (64:Int)+(1:Int)))).2.2.2.1) port opq pn pl hq q hf fg bare sp (aa rst ↑(ah sp rst))])))))∧
 (decide ((0:Int)≤aI (ae rst ↑(ah sp rst)) (64:Int))=false→
 (ae rst ↑(ah sp rst)).length.le (1000000:Nat)∧
 ((bif decide (bd (ae rst ↑(ah sp rst))=(0:Int))then true else bif decide (ae rst ↑(ah sp rst)=(ByteArray.mk #[]).data.toList)then sp else false)=true→
 k (PV.int .i64 (8:Int)) [bS (PV.raw (Go.Value.pointer bp)) 1 sc us pw hk hs hn hp port opq pn pl hq q hf fg bare sp (aa rst ↑(ah sp rst))])∧
 ((bif decide (bd (ae rst ↑(ah sp rst))=(0:Int))then true else bif decide (ae rst ↑(ah sp rst)=(ByteArray.mk #[]).data.toList)then sp else false)=false→
 (decide ((0:Int)<bd (ae rst ↑(ah sp rst)))=true→
 upto (0:Int) (bd (ae rst ↑(ah sp rst))) (ak (ae rst ↑(ah sp rst)))∧
 aK (bd (ae rst ↑(ah sp rst))+(1:Int))∧
 upto (bd (ae rst ↑(ah sp rst))+(1:Int)) (ak (ae rst ↑(ah sp rst))) (ak (ae rst ↑(ah sp rst)))∧
 (ae (ae rst ↑(ah sp rst)) (bd (ae rst ↑(ah sp rst)))).length.le (300000:Nat)∧
 ((!decide ((aO sp (ae (ae rst ↑(ah sp rst)) (bd (ae rst ↑(ah sp rst))))).2.2.2.2=(0:Int)))=true→
 k (PV.int .i64 (aO sp (ae (ae rst ↑(ah sp rst)) (bd (ae rst ↑(ah sp rst))))).2.2.2.2) [bS (PV.raw (Go.Value.pointer bp)) 1 sc us pw ((aO sp (ae (ae rst ↑(ah sp rst)) (bd (ae rst ↑(ah sp rst))))).1) ((aO sp (ae (ae rst ↑(ah sp rst)) (bd (ae rst ↑(ah sp rst))))).2.1) ((aO sp (ae (ae rst ↑(ah sp rst)) (bd (ae rst ↑(ah sp rst))))).2.2.1) ((aO sp (ae (ae rst ↑(ah sp rst)) (bd (ae rst ↑(ah sp rst))))).2.2.2.1) port opq pn pl hq q hf fg bare sp (aa rst ↑(ah sp rst))])∧
 ((!decide ((aO sp (ae (ae rst ↑(ah sp rst)) (bd (ae rst ↑(ah sp rst))))).2.2.2.2=(0:Int)))=false→
 (aa (ae rst ↑(ah sp rst)) (bd (ae rst ↑(ah sp rst))+(1:Int))).length.le (300000:Nat)∧
 k (PV.int .i64 (cA sc port (aa (ae rst ↑(ah sp rst)) (bd (ae rst ↑(ah sp rst))+(1:Int)))).2) [bS (PV.raw (Go.Value.pointer bp)) 1 sc us pw ((aO sp (ae (ae rst ↑(ah sp rst)) (bd (ae rst ↑(ah sp rst))))).1) ((aO sp (ae (ae rst ↑(ah sp rst)) (bd (ae rst ↑(ah sp rst))))).2.1) ((aO sp (ae (ae rst ↑(ah sp rst)) (bd (ae rst ↑(ah sp rst))))).2.2.1) ((aO sp (ae (ae rst ↑(ah sp rst)) (bd (ae rst ↑(ah sp rst))))).2.2.2.1) ((cA sc port (aa (ae rst ↑(ah sp rst)) (bd (ae rst ↑(ah sp rst))+(1:Int)))).1) opq pn pl hq q hf fg bare sp (aa rst ↑(ah sp rst))]))∧
 (decide ((0:Int)<bd (ae rst ↑(ah sp rst)))=false→
 (ae rst ↑(ah sp rst)).length.le (300000:Nat)∧
 ((!decide ((aO sp (ae rst ↑(ah sp rst))).2.2.2.2=(0:Int)))=true→
 k (PV.int .i64 (aO sp (ae rst ↑(ah sp rst))).2.2.2.2) [bS (PV.raw (Go.Value.pointer bp)) 1 sc us pw ((aO sp (ae rst ↑(ah sp rst))).1) ((aO sp (ae rst ↑(ah sp rst))).2.1) ((aO sp (ae rst ↑(ah sp rst))).2.2.1) ((aO sp (ae rst ↑(ah sp rst))).2.2.2.1) port opq pn pl hq q hf fg bare sp (aa rst ↑(ah sp rst))])∧
 ((!decide ((aO sp (ae rst ↑(ah sp rst))).2.2.2.2=(0:Int)))=false→
 (ByteArray.mk #[]).data.toList.length.le (300000:Nat)∧
 k (PV.int .i64 (0:Int)) [bS (PV.raw (Go.Value.pointer bp)) 1 sc us pw ((aO sp (ae rst ↑(ah sp rst))).1) ((aO sp (ae rst ↑(ah sp rst))).2.1) ((aO sp (ae rst ↑(ah sp rst))).2.2.1) ((aO sp (ae rst ↑(ah sp rst))).2.2.2.1) port opq pn pl hq q hf fg bare sp (aa rst ↑(ah sp rst))]))))):=by kernel_rfl
attribute [local irreducible] Go.Vc.cD Go.Vc.bL
theorem qK(bp:Option Addr)(sc us pw:Bs)(hk:Int)(hs:Bs)(hn:Int)(hp:List Int)(port:Int)(opq pn:Bool)(pl:List Bs)(hq:Bool)(q:Bs)(hf:Bool)(fg:Bs)(bare sp:Bool)(rst:Bs):bm Tryz.prog ay 88 [.ptr 0 0] [aC 1 (.raw (.pointer bp)) sc us pw hk hs hn hp port opq pn pl hq q hf fg bare sp rst] (rst.length≤300000) (.int .i64 (RS.mk sc us pw hk hs hn hp port opq pn pl hq q hf fg bare sp rst).ba.2) [aC 1 (.raw (.pointer bp)) sc ((RS.mk sc us pw hk hs hn hp port opq pn pl hq q hf fg bare sp rst).ba.1.us) ((RS.mk sc us pw hk hs hn hp port opq pn pl hq q hf fg bare sp rst).ba.1.pw) ((RS.mk sc us pw hk hs hn hp port opq pn pl hq q hf fg bare sp rst).ba.1.hk) ((RS.mk sc us pw hk hs hn hp port opq pn pl hq q hf fg bare sp rst).ba.1.hs) ((RS.mk sc us pw hk hs hn hp port opq pn pl hq q hf fg bare sp rst).ba.1.hn) ((RS.mk sc us pw hk hs hn hp port opq pn pl hq q hf fg bare sp rst).ba.1.hp) ((RS.mk sc us pw hk hs hn hp port opq pn pl hq q hf fg bare sp rst).ba.1.port) opq pn pl hq q hf fg bare sp (aa rst (ah sp rst))]:=bz (by kernel_rfl) qJ (H:=oz bp sc us pw hk hs hn hp port opq pn pl hq q hf fg bare sp rst) (fuel:=1000) Tryz.func88 (by kernel_rfl) (Nat.le_of_ble_eq_true rfl) fun hpre=>(u3 bp sc us pw hk hs hn hp port opq pn pl hq q hf fg bare sp rst _).mpr (by
 have e3:ah sp rst≤rst.length:=fr _ _
 obtain ⟨S,e4⟩:∃S,S=ae rst (ah sp rst:Int):=⟨_,rfl⟩
 obtain ⟨D,e5⟩:∃D,D=aa rst (ah sp rst:Int):=⟨_,rfl⟩
 have ha:(RS.mk sc us pw hk hs hn hp port opq pn pl hq q hf fg bare sp rst).ba=if 0≤aI S 64 then(if aa S (aI S 64+1)=[]then(RS.mk sc (bt 5 (dj (ae S (aI S 64)) 58)) (bt 5 (dG (ae S (aI S 64)) 58)) hk hs hn hp port opq pn pl hq q hf fg bare sp D,8)else(RS.mk sc (bt 5 (dj (ae S (aI S 64)) 58)) (bt 5 (dG (ae S (aI S 64)) 58)) hk hs hn hp port opq pn pl hq q hf fg bare sp D).bO (aa S (aI S 64+1)))else(RS.mk sc us pw hk hs hn hp port opq pn pl hq q hf fg bare sp D).bO S:=by rw [e4,e5];rfl
 rw [←e4,←e5]
 have e6:S.length≤300000:=by rw [e4];have:=qI rst (ah sp rst:Int);omega
 have hl:=FT S 64
 have ht:=qI S (aI S 64)
 have hd:=cO S (aI S 64+1)
 have hca:=Iq (ae S (aI S 64)) 58
 have hcb:=Ir (ae S (aI S 64)) 58
 refine ⟨show rst.length≤300000 from hpre,⟨by omega,by unfold ak;exact Int.ofNat_le.2 e3⟩,⟨by omega,by omega,by omega⟩,fun h=>⟨⟨by omega,of_decide_eq_true h,by unfold ak;omega⟩,⟨by omega,rfl⟩,⟨by omega,by omega,by omega⟩,⟨by omega,by omega,by omega⟩,by have:=of_decide_eq_true h;unfold aK;omega,⟨by have:=of_decide_eq_true h;omega,by unfold ak;omega,Int.le_refl _⟩,fun h2=>?_,fun h2=>?_⟩,fun h=>?_⟩
 ·rw [ha,if_pos (of_decide_eq_true h),if_pos (show aa S (aI S 64+1)=[]from of_decide_eq_true h2)]
  exact ⟨rfl,rfl⟩
 ·rw [ha,if_pos (of_decide_eq_true h),if_neg (show ¬aa S (aI S 64+1)=[]from of_decide_eq_false h2)]
  exact Bo bp sc (bt 5 (dj (ae S (aI S 64)) 58)) (bt 5 (dG (ae S (aI S 64)) 58)) hk hs hn hp port opq pn pl hq q hf fg bare sp (aa S (aI S 64+1)) D (by omega)
 ·rw [ha,if_neg (of_decide_eq_false h)]
  exact Bo bp sc us pw hk hs hn hp port opq pn pl hq q hf fg bare sp S D e6)
theorem u4(bp:Option Addr)(sc us pw:Bs)(hk:Int)(hs:Bs)(hn:Int)(hp:List Int)(port:Int)(opq pn:Bool)(pl:List Bs)(hq:Bool)(q:Bs)(hf:Bool)(fg:Bs)(bare sp:Bool)(rst:Bs):ag Tryz.prog ay 88 [.ptr 0 0,aC 1 (.raw (.pointer bp)) sc us pw hk hs hn hp port opq pn pl hq q hf fg bare sp rst] ⟨rst.length≤300000,.tup [.int .i64 (RS.mk sc us pw hk hs hn hp port opq pn pl hq q hf fg bare sp rst).ba.2,aC 1 (.raw (.pointer bp)) sc ((RS.mk sc us pw hk hs hn hp port opq pn pl hq q hf fg bare sp rst).ba.1.us) ((RS.mk sc us pw hk hs hn hp port opq pn pl hq q hf fg bare sp rst).ba.1.pw) ((RS.mk sc us pw hk hs hn hp port opq pn pl hq q hf fg bare sp rst).ba.1.hk) ((RS.mk sc us pw hk hs hn hp port opq pn pl hq q hf fg bare sp rst).ba.1.hs) ((RS.mk sc us pw hk hs hn hp port opq pn pl hq q hf fg bare sp rst).ba.1.hn) ((RS.mk sc us pw hk hs hn hp port opq pn pl hq q hf fg bare sp rst).ba.1.hp) ((RS.mk sc us pw hk hs hn hp port opq pn pl hq q hf fg bare sp rst).ba.1.port) opq pn pl hq q hf fg bare sp (aa rst (ah sp rst))]⟩:=ag.aZ (fun h=>by have e:List.isEmpty (PV.aA PV.bw [.ptr 0 0,aC 1 (.raw (.pointer bp)) sc us pw hk hs hn hp port opq pn pl hq q hf fg bare sp rst])=false:=(by kernel_rfl);exact Bool.noConfusion (e.symm.trans (congrArg List.isEmpty h))) (qK bp sc us pw hk hs hn hp port opq pn pl hq q hf fg bare sp rst)
def hY:List PV→Option aF:=fun xs=>match xs with
 |[.ptr 0 0,aC 1 (.raw (.pointer bp)) sc us pw hk hs hn hp port opq pn pl hq q hf fg bare sp rst]=>some ⟨rst.length≤300000,.tup [.int .i64 (RS.mk sc us pw hk hs hn hp port opq pn pl hq q hf fg bare sp rst).ba.2,aC 1 (.raw (.pointer bp)) sc ((RS.mk sc us pw hk hs hn hp port opq pn pl hq q hf fg bare sp rst).ba.1.us) ((RS.mk sc us pw hk hs hn hp port opq pn pl hq q hf fg bare sp rst).ba.1.pw) ((RS.mk sc us pw hk hs hn hp port opq pn pl hq q hf fg bare sp rst).ba.1.hk) ((RS.mk sc us pw hk hs hn hp port opq pn pl hq q hf fg bare sp rst).ba.1.hs) ((RS.mk sc us pw hk hs hn hp port opq pn pl hq q hf fg bare sp rst).ba.1.hn) ((RS.mk sc us pw hk hs hn hp port opq pn pl hq q hf fg bare sp rst).ba.1.hp) ((RS.mk sc us pw hk hs hn hp port opq pn pl hq q hf fg bare sp rst).ba.1.port) opq pn pl hq q hf fg bare sp (aa rst (ah sp rst))]⟩
 |_=>none
theorem nB:∀xs c,hY xs=some c→ag Tryz.prog ay 88 xs c:=fun xs c h=>by
 unfold hY at h
 split at h
 ·injection h with h;subst h;exact u4 _ _ _ _ _ _ _ _ _ _ _ _ _ _ _ _ _ _ _
 ·cases h
end
section
theorem eo(r:RS):r.av.1={r with hk:=r.av.1.hk,hs:=r.av.1.hs,hn:=r.av.1.hn,hp:=r.av.1.hp,rst:=aa r.rst (ah r.sp r.rst)}:=by
 unfold RS.av
 dsimp only
 split
 ·rfl
 ·split<;>rfl
theorem mC(sp:Bool)(l:Bs):List.length (if az sp l (0:Int)=true then aa l (1:Int)else l)≤l.length:=by
 split
 ·exact cO l 1
 ·exact Nat.le_refl _
def Bp:cr:=bP [(82,gu),(84,fu),(121,gF),(77,gv),(124,fM),(123,my),(125,jf),(90,mA)]
def Bq(sc us pw:Bs)(hk:Int)(hs:Bs)(hn:Int)(hp:List Int)(port:Int)(opq pn:Bool)(pl:List Bs)(hq:Bool)(q:Bs)(hf:Bool)(fg:Bs)(bare sp:Bool)(rst:Bs):aY:=fun i=>none
theorem zT:cS Tryz.prog ay Bp:=ai gi (ai iL (ai mw (ai gj (ai gH (ai la (ai oO (ai ox (ax))))))))
theorem FU(sc us pw:Bs)(hk:Int)(hs:Bs)(hn:Int)(hp:List Int)(port:Int)(opq pn:Bool)(pl:List Bs)(hq:Bool)(q:Bs)(hf:Bool)(fg:Bs)(bare sp:Bool)(rst:Bs)(k:PV→List PV→Prop):bL Tryz.prog Bp ay (Bq sc us pw hk hs hn hp port opq pn pl hq q hf fg bare sp rst) 1000 Tryz.f76 [.ptr 0 0] [aC 1 (.raw (.pointer none)) sc us pw hk hs hn hp port opq pn pl hq q hf fg bare sp rst] k=(
 ((0:Int)≤(0:Int)∧
 (0:Int)<(1000:Int))∧
 (az sp rst (0:Int)=true→
 ((0:Int)≤(1:Int)∧
 (1:Int)<(1000:Int))∧
 (az sp rst (1:Int)=true→
 upto (2:Int) (ak rst) (ak rst)∧
 ((aa rst (2:Int)).length.le (300000:Nat)∧
 upto (0:Int) (↑(ah sp (aa rst (2:Int)))) (ak (aa rst (2:Int)))∧
 True∧
 (bM (ae (aa rst (2:Int)) ↑(ah sp (aa rst (2:Int))))=true→
 ((aa rst (2:Int)).length≤(300000:Nat)∧
 pl.length≤(100000:Nat))∧
 k (PV.int .i64 (0:Int)) [bS (PV.raw (Go.Value.pointer none)) 1 sc us pw (1:Int) hs hn hp port opq ((bu sp sc (ae (aa rst (2:Int)) ↑(aE (aa rst (2:Int)))) (pn,pl)).1) ((bu sp sc (ae (aa rst (2:Int)) ↑(aE (aa rst (2:Int)))) (pn,pl)).2) hq q hf fg bare sp (aa (aa rst (2:Int)) ↑(aE (aa rst (2:Int))))])∧
 (bM (ae (aa rst (2:Int)) ↑(ah sp (aa rst (2:Int))))=false→
 (aa rst (2:Int)).length.le (300000:Nat)∧
 ((!decide ((RS.mk sc us pw (1:Int) hs hn hp port opq pn pl hq q hf fg bare sp (aa rst (2:Int))).av.2=(0:Int)))=true→
 k (PV.int .i64 (RS.mk sc us pw (1:Int) hs hn hp port opq pn pl hq q hf fg bare sp (aa rst (2:Int))).av.2) [bS (PV.raw (Go.Value.pointer none)) 1 sc us pw ((RS.mk sc us pw (1:Int) hs hn hp port opq pn pl hq q hf fg bare sp (aa rst (2:Int))).av.1.hk) ((RS.mk sc us pw (1:Int) hs hn hp port opq pn pl hq q hf fg bare sp (aa rst (2:Int))).av.1.hs) ((RS.mk sc us pw (1:Int) hs hn hp port opq pn pl hq q hf fg bare sp (aa rst (2:Int))).av.1.hn) ((RS.mk sc us pw (1:Int) hs hn hp port opq pn pl hq q hf fg bare sp (aa rst (2:Int))).av.1.hp) port opq pn pl hq q hf fg bare sp (aa (aa rst (2:Int)) ↑(ah sp (aa rst (2:Int))))])∧
 ((!decide ((RS.mk sc us pw (1:Int) hs hn hp port opq pn pl hq q hf fg bare sp (aa rst (2:Int))).av.2=(0:Int)))=false→
 True∧
 (List.length (if az sp (aa (aa rst (2:Int)) ↑(ah sp (aa rst (2:Int)))) (0:Int)=true then aa (aa (aa rst (2:Int)) ↑(ah sp (aa rst (2:Int)))) (1:Int)else aa (aa rst (2:Int)) ↑(ah sp (aa rst (2:Int))))≤(300000:Nat)∧
 pl.length≤(100000:Nat))∧
 k (PV.int .i64 (0:Int)) [bS (PV.raw (Go.Value.pointer none)) 1 sc us pw ((RS.mk sc us pw (1:Int) hs hn hp port opq pn pl hq q hf fg bare sp (aa rst (2:Int))).av.1.hk) ((RS.mk sc us pw (1:Int) hs hn hp port opq pn pl hq q hf fg bare sp (aa rst (2:Int))).av.1.hs) ((RS.mk sc us pw (1:Int) hs hn hp port opq pn pl hq q hf fg bare sp (aa rst (2:Int))).av.1.hn) ((RS.mk sc us pw (1:Int) hs hn hp port opq pn pl hq q hf fg bare sp (aa rst (2:Int))).av.1.hp) port opq ((bu sp sc (ae (if az sp (aa (aa rst (2:Int)) ↑(ah sp (aa rst (2:Int)))) (0:Int)=true then aa (aa (aa rst (2:Int)) ↑(ah sp (aa rst (2:Int)))) (1:Int)else aa (aa rst (2:Int)) ↑(ah sp (aa rst (2:Int)))) ↑(aE (if az sp (aa (aa rst (2:Int)) ↑(ah sp (aa rst (2:Int)))) (0:Int)=true then aa (aa (aa rst (2:Int)) ↑(ah sp (aa rst (2:Int)))) (1:Int)else aa (aa rst (2:Int)) ↑(ah sp (aa rst (2:Int)))))) (pn,pl)).1) ((bu sp sc (ae (if az sp (aa (aa rst (2:Int)) ↑(ah sp (aa rst (2:Int)))) (0:Int)=true then aa (aa (aa rst (2:Int)) ↑(ah sp (aa rst (2:Int)))) (1:Int)else aa (aa rst (2:Int)) ↑(ah sp (aa rst (2:Int)))) ↑(aE (if az sp (aa (aa rst (2:Int)) ↑(ah sp (aa rst (2:Int)))) (0:Int)=true then aa (aa (aa rst (2:Int)) ↑(ah sp (aa rst (2:Int)))) (1:Int)else aa (aa rst (2:Int)) ↑(ah sp (aa rst (2:Int)))))) (pn,pl)).2) hq q hf fg bare sp (aa (if az sp (aa (aa rst (2:Int)) ↑(ah sp (aa rst (2:Int)))) (0:Int)=true then aa (aa (aa rst (2:Int)) ↑(ah sp (aa rst (2:Int)))) (1:Int)else aa (aa rst (2:Int)) ↑(ah sp (aa rst (2:Int)))) ↑(aE (if az sp (aa (aa rst (2:Int)) ↑(ah sp (aa rst (2:Int)))) (0:Int)=true then aa (aa (aa rst (2:Int)) ↑(ah sp (aa rst (2:Int)))) (1:Int)else aa (aa rst (2:Int)) ↑(ah sp (aa rst (2:Int))))))])))∧
 (aa rst (2:Int)).length.le (300000:Nat)∧
 upto (0:Int) (↑(ah sp (aa rst (2:Int)))) (ak (aa rst (2:Int)))∧
 True∧
 (bM (ae (aa rst (2:Int)) ↑(ah sp (aa rst (2:Int))))=true→
 ((aa rst (2:Int)).length≤(300000:Nat)∧
 pl.length≤(100000:Nat))∧
 k (PV.int .i64 (0:Int)) [bS (PV.raw (Go.Value.pointer none)) 1 sc us pw (1:Int) hs hn hp port opq ((bu sp sc (ae (aa rst (2:Int)) ↑(aE (aa rst (2:Int)))) (pn,pl)).1) ((bu sp sc (ae (aa rst (2:Int)) ↑(aE (aa rst (2:Int)))) (pn,pl)).2) hq q hf fg bare sp (aa (aa rst (2:Int)) ↑(aE (aa rst (2:Int))))])∧
 (bM (ae (aa rst (2:Int)) ↑(ah sp (aa rst (2:Int))))=false→
 (aa rst (2:Int)).length.le (300000:Nat)∧
 ((!decide ((RS.mk sc us pw (1:Int) hs hn hp port opq pn pl hq q hf fg bare sp (aa rst (2:Int))).av.2=(0:Int)))=true→
 k (PV.int .i64 (RS.mk sc us pw (1:Int) hs hn hp port opq pn pl hq q hf fg bare sp (aa rst (2:Int))).av.2) [bS (PV.raw (Go.Value.pointer none)) 1 sc us pw ((RS.mk sc us pw (1:Int) hs hn hp port opq pn pl hq q hf fg bare sp (aa rst (2:Int))).av.1.hk) ((RS.mk sc us pw (1:Int) hs hn hp port opq pn pl hq q hf fg bare sp (aa rst (2:Int))).av.1.hs) ((RS.mk sc us pw (1:Int) hs hn hp port opq pn pl hq q hf fg bare sp (aa rst (2:Int))).av.1.hn) ((RS.mk sc us pw (1:Int) hs hn hp port opq pn pl hq q hf fg bare sp (aa rst (2:Int))).av.1.hp) port opq pn pl hq q hf fg bare sp (aa (aa rst (2:Int)) ↑(ah sp (aa rst (2:Int))))])∧
 ((!decide ((RS.mk sc us pw (1:Int) hs hn hp port opq pn pl hq q hf fg bare sp (aa rst (2:Int))).av.2=(0:Int)))=false→
 True∧
 (List.length (if az sp (aa (aa rst (2:Int)) ↑(ah sp (aa rst (2:Int)))) (0:Int)=true then aa (aa (aa rst (2:Int)) ↑(ah sp (aa rst (2:Int)))) (1:Int)else aa (aa rst (2:Int)) ↑(ah sp (aa rst (2:Int))))≤(300000:Nat)∧
 pl.length≤(100000:Nat))∧
 k (PV.int .i64 (0:Int)) [bS (PV.raw (Go.Value.pointer none)) 1 sc us pw ((RS.mk sc us pw (1:Int) hs hn hp port opq pn pl hq q hf fg bare sp (aa rst (2:Int))).av.1.hk) ((RS.mk sc us pw (1:Int) hs hn hp port opq pn pl hq q hf fg bare sp (aa rst (2:Int))).av.1.hs) ((RS.mk sc us pw (1:Int) hs hn hp port opq pn pl hq q hf fg bare sp (aa rst (2:Int))).av.1.hn) ((RS.mk sc us pw (1:Int) hs hn hp port opq pn pl hq q hf fg bare sp (aa rst (2:Int))).av.1.hp) port opq ((bu sp sc (ae (if az sp (aa (aa rst (2:Int)) ↑(ah sp (aa rst (2:Int)))) (0:Int)=true then aa (aa (aa rst (2:Int)) ↑(ah sp (aa rst (2:Int)))) (1:Int)else aa (aa rst (2:Int)) ↑(ah sp (aa rst (2:Int)))) ↑(aE (if az sp (aa (aa rst (2:Int)) ↑(ah sp (aa rst (2:Int)))) (0:Int)=true then aa (aa (aa rst (2:Int)) ↑(ah sp (aa rst (2:Int)))) (1:Int)else aa (aa rst (2:Int)) ↑(ah sp (aa rst (2:Int)))))) (pn,pl)).1) ((bu sp sc (ae (if az sp (aa (aa rst (2:Int)) ↑(ah sp (aa rst (2:Int)))) (0:Int)=true then aa (aa (aa rst (2:Int)) ↑(ah sp (aa rst (2:Int)))) (1:Int)else aa (aa rst (2:Int)) ↑(ah sp (aa rst (2:Int)))) ↑(aE (if az sp (aa (aa rst (2:Int)) ↑(ah sp (aa rst (2:Int)))) (0:Int)=true then aa (aa (aa rst (2:Int)) ↑(ah sp (aa rst (2:Int)))) (1:Int)else aa (aa rst (2:Int)) ↑(ah sp (aa rst (2:Int)))))) (pn,pl)).2) hq q hf fg bare sp (aa (if az sp (aa (aa rst (2:Int)) ↑(ah sp (aa rst (2:Int)))) (0:Int)=true then aa (aa (aa rst (2:Int)) ↑(ah sp (aa rst (2:Int)))) (1:Int)else aa (aa rst (2:Int)) ↑(ah sp (aa rst (2:Int)))) ↑(aE (if az sp (aa (aa rst (2:Int)) ↑(ah sp (aa rst (2:Int)))) (0:Int)=true then aa (aa (aa rst (2:Int)) ↑(ah sp (aa rst (2:Int)))) (1:Int)else aa (aa rst (2:Int)) ↑(ah sp (aa rst (2:Int))))))])))∧
 (az sp rst (1:Int)=false→
 True∧
 (az sp rst (0:Int)=true→
 True∧
 (List.length (if az sp rst (0:Int)=true then aa rst (1:Int)else rst)≤(300000:Nat)∧
 pl.length≤(100000:Nat))∧
 k (PV.int .i64 (0:Int)) [bS (PV.raw (Go.Value.pointer none)) 1 sc us pw (1:Int) hs hn hp port opq ((bu sp sc (ae (if az sp rst (0:Int)=true then aa rst (1:Int)else rst) ↑(aE (if az sp rst (0:Int)=true then aa rst (1:Int)else rst))) (pn,pl)).1) ((bu sp sc (ae (if az sp rst (0:Int)=true then aa rst (1:Int)else rst) ↑(aE (if az sp rst (0:Int)=true then aa rst (1:Int)else rst))) (pn,pl)).2) hq q hf fg bare sp (aa (if az sp rst (0:Int)=true then aa rst (1:Int)else rst) ↑(aE (if az sp rst (0:Int)=true then aa rst (1:Int)else rst)))])∧
 (az sp rst (0:Int)=false→
 True∧
 ((!false)=true→
 (List.length (if az sp rst (0:Int)=true then aa rst (1:Int)else rst)≤(300000:Nat)∧
 pl.length≤(100000:Nat))∧
 k (PV.int .i64 (0:Int)) [bS (PV.raw (Go.Value.pointer none)) 1 sc us pw (1:Int) hs hn hp port opq ((bu sp sc (ae (if az sp rst (0:Int)=true then aa rst (1:Int)else rst) ↑(aE (if az sp rst (0:Int)=true then aa rst (1:Int)else rst))) (pn,pl)).1) ((bu sp sc (ae (if az sp rst (0:Int)=true then aa rst (1:Int)else rst) ↑(aE (if az sp rst (0:Int)=true then aa rst (1:Int)else rst))) (pn,pl)).2) hq q hf fg bare sp (aa (if az sp rst (0:Int)=true then aa rst (1:Int)else rst) ↑(aE (if az sp rst (0:Int)=true then aa rst (1:Int)else rst)))])∧
 ((!false)=false→
 False))))∧
 (az sp rst (0:Int)=!true→
 (false=true→
 upto (2:Int) (ak rst) (ak rst)∧
 ((aa rst (2:Int)).length.le (300000:Nat)∧
 upto (0:Int) (↑(ah sp (aa rst (2:Int)))) (ak (aa rst (2:Int)))∧
 True∧
 (bM (ae (aa rst (2:Int)) ↑(ah sp (aa rst (2:Int))))=true→
 ((aa rst (2:Int)).length≤(300000:Nat)∧
 pl.length≤(100000:Nat))∧
 k (PV.int .i64 (0:Int)) [bS (PV.raw (Go.Value.pointer none)) 1 sc us pw (1:Int) hs hn hp port opq ((bu sp sc (ae (aa rst (2:Int)) ↑(aE (aa rst (2:Int)))) (pn,pl)).1) ((bu sp sc (ae (aa rst (2:Int)) ↑(aE (aa rst (2:Int)))) (pn,pl)).2) hq q hf fg bare sp (aa (aa rst (2:Int)) ↑(aE (aa rst (2:Int))))])∧
 (bM (ae (aa rst (2:Int)) ↑(ah sp (aa rst (2:Int))))=false→
 (aa rst (2:Int)).length.le (300000:Nat)∧
 ((!decide ((RS.mk sc us pw (1:Int) hs hn hp port opq pn pl hq q hf fg bare sp (aa rst (2:Int))).av.2=(0:Int)))=true→
 k (PV.int .i64 (RS.mk sc us pw (1:Int) hs hn hp port opq pn pl hq q hf fg bare sp (aa rst (2:Int))).av.2) [bS (PV.raw (Go.Value.pointer none)) 1 sc us pw ((RS.mk sc us pw (1:Int) hs hn hp port opq pn pl hq q hf fg bare sp (aa rst (2:Int))).av.1.hk) ((RS.mk sc us pw (1:Int) hs hn hp port opq pn pl hq q hf fg bare sp (aa rst (2:Int))).av.1.hs) ((RS.mk sc us pw (1:Int) hs hn hp port opq pn pl hq q hf fg bare sp (aa rst (2:Int))).av.1.hn) ((RS.mk sc us pw (1:Int) hs hn hp port opq pn pl hq q hf fg bare sp (aa rst (2:Int))).av.1.hp) port opq pn pl hq q hf fg bare sp (aa (aa rst (2:Int)) ↑(ah sp (aa rst (2:Int))))])∧
 ((!decide ((RS.mk sc us pw (1:Int) hs hn hp port opq pn pl hq q hf fg bare sp (aa rst (2:Int))).av.2=(0:Int)))=false→
 True∧
 (List.length (if az sp (aa (aa rst (2:Int)) ↑(ah sp (aa rst (2:Int)))) (0:Int)=true then aa (aa (aa rst (2:Int)) ↑(ah sp (aa rst (2:Int)))) (1:Int)else aa (aa rst (2:Int)) ↑(ah sp (aa rst (2:Int))))≤(300000:Nat)∧
 pl.length≤(100000:Nat))∧
 k (PV.int .i64 (0:Int)) [bS (PV.raw (Go.Value.pointer none)) 1 sc us pw ((RS.mk sc us pw (1:Int) hs hn hp port opq pn pl hq q hf fg bare sp (aa rst (2:Int))).av.1.hk) ((RS.mk sc us pw (1:Int) hs hn hp port opq pn pl hq q hf fg bare sp (aa rst (2:Int))).av.1.hs) ((RS.mk sc us pw (1:Int) hs hn hp port opq pn pl hq q hf fg bare sp (aa rst (2:Int))).av.1.hn) ((RS.mk sc us pw (1:Int) hs hn hp port opq pn pl hq q hf fg bare sp (aa rst (2:Int))).av.1.hp) port opq ((bu sp sc (ae (if az sp (aa (aa rst (2:Int)) ↑(ah sp (aa rst (2:Int)))) (0:Int)=true then aa (aa (aa rst (2:Int)) ↑(ah sp (aa rst (2:Int)))) (1:Int)else aa (aa rst (2:Int)) ↑(ah sp (aa rst (2:Int)))) ↑(aE (if az sp (aa (aa rst (2:Int)) ↑(ah sp (aa rst (2:Int)))) (0:Int)=true then aa (aa (aa rst (2:Int)) ↑(ah sp (aa rst (2:Int)))) (1:Int)else aa (aa rst (2:Int)) ↑(ah sp (aa rst (2:Int)))))) (pn,pl)).1) ((bu sp sc (ae (if az sp (aa (aa rst (2:Int)) ↑(ah sp (aa rst (2:Int)))) (0:Int)=true then aa (aa (aa rst (2:Int)) ↑(ah sp (aa rst (2:Int)))) (1:Int)else aa (aa rst (2:Int)) ↑(ah sp (aa rst (2:Int)))) ↑(aE (if az sp (aa (aa rst (2:Int)) ↑(ah sp (aa rst (2:Int)))) (0:Int)=true then aa (aa (aa rst (2:Int)) ↑(ah sp (aa rst (2:Int)))) (1:Int)else aa (aa rst (2:Int)) ↑(ah sp (aa rst (2:Int)))))) (pn,pl)).2) hq q hf fg bare sp (aa (if az sp (aa (aa rst (2:Int)) ↑(ah sp (aa rst (2:Int)))) (0:Int)=true then aa (aa (aa rst (2:Int)) ↑(ah sp (aa rst (2:Int)))) (1:Int)else aa (aa rst (2:Int)) ↑(ah sp (aa rst (2:Int)))) ↑(aE (if az sp (aa (aa rst (2:Int)) ↑(ah sp (aa rst (2:Int)))) (0:Int)=true then aa (aa (aa rst (2:Int)) ↑(ah sp (aa rst (2:Int)))) (1:Int)else aa (aa rst (2:Int)) ↑(ah sp (aa rst (2:Int))))))])))∧
 (aa rst (2:Int)).length.le (300000:Nat)∧
 upto (0:Int) (↑(ah sp (aa rst (2:Int)))) (ak (aa rst (2:Int)))∧
 True∧
 (bM (ae (aa rst (2:Int)) ↑(ah sp (aa rst (2:Int))))=true→
 ((aa rst (2:Int)).length≤(300000:Nat)∧
 pl.length≤(100000:Nat))∧
 k (PV.int .i64 (0:Int)) [bS (PV.raw (Go.Value.pointer none)) 1 sc us pw (1:Int) hs hn hp port opq ((bu sp sc (ae (aa rst (2:Int)) ↑(aE (aa rst (2:Int)))) (pn,pl)).1) ((bu sp sc (ae (aa rst (2:Int)) ↑(aE (aa rst (2:Int)))) (pn,pl)).2) hq q hf fg bare sp (aa (aa rst (2:Int)) ↑(aE (aa rst (2:Int))))])∧
 (bM (ae (aa rst (2:Int)) ↑(ah sp (aa rst (2:Int))))=false→
 (aa rst (2:Int)).length.le (300000:Nat)∧
 ((!decide ((RS.mk sc us pw (1:Int) hs hn hp port opq pn pl hq q hf fg bare sp (aa rst (2:Int))).av.2=(0:Int)))=true→
 k (PV.int .i64 (RS.mk sc us pw (1:Int) hs hn hp port opq pn pl hq q hf fg bare sp (aa rst (2:Int))).av.2) [bS (PV.raw (Go.Value.pointer none)) 1 sc us pw ((RS.mk sc us pw (1:Int) hs hn hp port opq pn pl hq q hf fg bare sp (aa rst (2:Int))).av.1.hk) ((RS.mk sc us pw (1:Int) hs hn hp port opq pn pl hq q hf fg bare sp (aa rst (2:Int))).av.1.hs) ((RS.mk sc us pw (1:Int) hs hn hp port opq pn pl hq q hf fg bare sp (aa rst (2:Int))).av.1.hn) ((RS.mk sc us pw (1:Int) hs hn hp port opq pn pl hq q hf fg bare sp (aa rst (2:Int))).av.1.hp) port opq pn pl hq q hf fg bare sp (aa (aa rst (2:Int)) ↑(ah sp (aa rst (2:Int))))])∧
 ((!decide ((RS.mk sc us pw (1:Int) hs hn hp port opq pn pl hq q hf fg bare sp (aa rst (2:Int))).av.2=(0:Int)))=false→
 True∧
 (List.length (if az sp (aa (aa rst (2:Int)) ↑(ah sp (aa rst (2:Int)))) (0:Int)=true then aa (aa (aa rst (2:Int)) ↑(ah sp (aa rst (2:Int)))) (1:Int)else aa (aa rst (2:Int)) ↑(ah sp (aa rst (2:Int))))≤(300000:Nat)∧
 pl.length≤(100000:Nat))∧
 k (PV.int .i64 (0:Int)) [bS (PV.raw (Go.Value.pointer none)) 1 sc us pw ((RS.mk sc us pw (1:Int) hs hn hp port opq pn pl hq q hf fg bare sp (aa rst (2:Int))).av.1.hk) ((RS.mk sc us pw (1:Int) hs hn hp port opq pn pl hq q hf fg bare sp (aa rst (2:Int))).av.1.hs) ((RS.mk sc us pw (1:Int) hs hn hp port opq pn pl hq q hf fg bare sp (aa rst (2:Int))).av.1.hn) ((RS.mk sc us pw (1:Int) hs hn hp port opq pn pl hq q hf fg bare sp (aa rst (2:Int))).av.1.hp) port opq ((bu sp sc (ae (if az sp (aa (aa rst (2:Int)) ↑(ah sp (aa rst (2:Int)))) (0:Int)=true then aa (aa (aa rst (2:Int)) ↑(ah sp (aa rst (2:Int)))) (1:Int)else aa (aa rst (2:Int)) ↑(ah sp (aa rst (2:Int)))) ↑(aE (if az sp (aa (aa rst (2:Int)) ↑(ah sp (aa rst (2:Int)))) (0:Int)=true then aa (aa (aa rst (2:Int)) ↑(ah sp (aa rst (2:Int)))) (1:Int)else aa (aa rst (2:Int)) ↑(ah sp (aa rst (2:Int)))))) (pn,pl)).1) ((bu sp sc (ae (if az sp (aa (aa rst (2:Int)) ↑(ah sp (aa rst (2:Int)))) (0:Int)=true then aa (aa (aa rst (2:Int)) ↑(ah sp (aa rst (2:Int)))) (1:Int)else aa (aa rst (2:Int)) ↑(ah sp (aa rst (2:Int)))) ↑(aE (if az sp (aa (aa rst (2:Int)) ↑(ah sp (aa rst (2:Int)))) (0:Int)=true then aa (aa (aa rst (2:Int)) ↑(ah sp (aa rst (2:Int)))) (1:Int)else aa (aa rst (2:Int)) ↑(ah sp (aa rst (2:Int)))))) (pn,pl)).2) hq q hf fg bare sp (aa (if az sp (aa (aa rst (2:Int)) ↑(ah sp (aa rst (2:Int)))) (0:Int)=true then aa (aa (aa rst (2:Int)) ↑(ah sp (aa rst (2:Int)))) (1:Int)else aa (aa rst (2:Int)) ↑(ah sp (aa rst (2:Int)))) ↑(aE (if az sp (aa (aa rst (2:Int)) ↑(ah sp (aa rst (2:Int)))) (0:Int)=true then aa (aa (aa rst (2:Int)) ↑(ah sp (aa rst (2:Int)))) (1:Int)else aa (aa rst (2:Int)) ↑(ah sp (aa rst (2:Int))))))])))∧
 (false=false→
 True∧
 (az sp rst (0:Int)=true→
 True∧
 (List.length (if az sp rst (0:Int)=true then aa rst (1:Int)else rst)≤(300000:Nat)∧
 pl.length≤(100000:Nat))∧
 k (PV.int .i64 (0:Int)) [bS (PV.raw (Go.Value.pointer none)) 1 sc us pw (1:Int) hs hn hp port opq ((bu sp sc (ae (if az sp rst (0:Int)=true then aa rst (1:Int)else rst) ↑(aE (if az sp rst (0:Int)=true then aa rst (1:Int)else rst))) (pn,pl)).1) ((bu sp sc (ae (if az sp rst (0:Int)=true then aa rst (1:Int)else rst) ↑(aE (if az sp rst (0:Int)=true then aa rst (1:Int)else rst))) (pn,pl)).2) hq q hf fg bare sp (aa (if az sp rst (0:Int)=true then aa rst (1:Int)else rst) ↑(aE (if az sp rst (0:Int)=true then aa rst (1:Int)else rst)))])∧
 (az sp rst (0:Int)=false→
 True∧
 ((!false)=true→
 (List.length (if az sp rst (0:Int)=true then aa rst (1:Int)else rst)≤(300000:Nat)∧
 pl.length≤(100000:Nat))∧
 k (PV.int .i64 (0:Int)) [bS (PV.raw (Go.Value.pointer none)) 1 sc us pw (1:Int) hs hn hp port opq ((bu sp sc (ae (if az sp rst (0:Int)=true then aa rst (1:Int)else rst) ↑(aE (if az sp rst (0:Int)=true then aa rst (1:Int)else rst))) (pn,pl)).1) ((bu sp sc (ae (if az sp rst (0:Int)=true then aa rst (1:Int)else rst) ↑(aE (if az sp rst (0:Int)=true then aa rst (1:Int)else rst))) (pn,pl)).2) hq q hf fg bare sp (aa (if az sp rst (0:Int)=true then aa rst (1:Int)else rst) ↑(aE (if az sp rst (0:Int)=true then aa rst (1:Int)else rst)))])∧
 ((!false)=false→
 False))))):=by kernel_rfl
attribute [local irreducible] Go.Vc.cD Go.Vc.bL
theorem zU(sc us pw:Bs)(hk:Int)(hs:Bs)(hn:Int)(hp:List Int)(port:Int)(opq pn:Bool)(pl:List Bs)(hq:Bool)(q:Bs)(hf:Bool)(fg:Bs)(bare sp:Bool)(rst:Bs):bm Tryz.prog ay 76 [.ptr 0 0] [aC 1 (.raw (.pointer none)) sc us pw hk hs hn hp port opq pn pl hq q hf fg bare sp rst] (rst.length≤300000∧pl.length≤100000) (.int .i64 (RS.mk sc us pw hk hs hn hp port opq pn pl hq q hf fg bare sp rst).bc.2) [aC 1 (.raw (.pointer none)) sc us pw ((RS.mk sc us pw hk hs hn hp port opq pn pl hq q hf fg bare sp rst).bc.1.hk) ((RS.mk sc us pw hk hs hn hp port opq pn pl hq q hf fg bare sp rst).bc.1.hs) ((RS.mk sc us pw hk hs hn hp port opq pn pl hq q hf fg bare sp rst).bc.1.hn) ((RS.mk sc us pw hk hs hn hp port opq pn pl hq q hf fg bare sp rst).bc.1.hp) port opq ((RS.mk sc us pw hk hs hn hp port opq pn pl hq q hf fg bare sp rst).bc.1.pn) ((RS.mk sc us pw hk hs hn hp port opq pn pl hq q hf fg bare sp rst).bc.1.pl) hq q hf fg bare sp ((RS.mk sc us pw hk hs hn hp port opq pn pl hq q hf fg bare sp rst).bc.1.rst)]:=bz (by kernel_rfl) zT (H:=Bq sc us pw hk hs hn hp port opq pn pl hq q hf fg bare sp rst) (fuel:=1000) Tryz.func76 (by kernel_rfl) (Nat.le_of_ble_eq_true rfl) fun hpre=>(FU sc us pw hk hs hn hp port opq pn pl hq q hf fg bare sp rst _).mpr (by
 obtain ⟨hp1,hp2⟩:=hpre
 have hl2:=cO rst 2
 have hs1:=mC sp rst
 have hB:∀k:PV→List PV→Prop,¬(az sp rst 0=true∧az sp rst 1=true)→(RS.mk sc us pw hk hs hn hp port opq pn pl hq q hf fg bare sp rst).bc=(({(RS.mk sc us pw hk hs hn hp port opq pn pl hq q hf fg bare sp rst)with hk:=1}:RS).shl.path,0):=fun _ h=>by
  unfold RS.bc
  dsimp only
  rw [if_neg h]
 refine ⟨⟨by omega,by omega⟩,fun h0=>⟨⟨by omega,by omega⟩,fun h1=>?_,fun h1=>?_⟩,fun h0=>⟨fun h=>(by cases h),fun _=>?_⟩⟩
 ·have hsl:=uO h1
  refine ⟨⟨by omega,by unfold ak at *;omega,Int.le_refl _⟩,(fun a=>⟨a,a⟩) ?_⟩
  have he:=fr (aa rst 2) (ey sp++[63,35])
  have he2:ah sp (aa rst 2)≤(aa rst 2).length:=he
  have e0:(RS.mk sc us pw hk hs hn hp port opq pn pl hq q hf fg bare sp rst).bc=(if bM (ae (aa rst 2) (ah sp (aa rst 2)))=true then((RS.mk sc us pw 1 hs hn hp port opq pn pl hq q hf fg bare sp (aa rst 2)).path,0)else if(RS.mk sc us pw 1 hs hn hp port opq pn pl hq q hf fg bare sp (aa rst 2)).av.2=0 then((RS.mk sc us pw 1 hs hn hp port opq pn pl hq q hf fg bare sp (aa rst 2)).av.1.shl.path,0)else(RS.mk sc us pw 1 hs hn hp port opq pn pl hq q hf fg bare sp (aa rst 2)).av):=by
   unfold RS.bc
   dsimp only
   rw [if_pos ⟨h0,h1⟩]
   rfl
  refine ⟨show(aa rst 2).length≤300000 by omega,⟨Int.le_refl _,by omega,by unfold ak;omega⟩,trivial,fun h2=>⟨⟨by omega,hp2⟩,?_⟩,fun h2=>⟨show(aa rst 2).length≤300000 by omega,fun h3=>?_,fun h3=>⟨trivial,⟨Nat.le_trans (mC sp _) (Nat.le_trans (cO _ _) (by omega)),hp2⟩,?_⟩⟩⟩
  ·rw [e0,if_pos h2];exact ⟨rfl,rfl⟩
  ·have h4:¬(RS.mk sc us pw 1 hs hn hp port opq pn pl hq q hf fg bare sp (aa rst 2)).av.2=0:=by simpa using h3
   have er:=eo (RS.mk sc us pw 1 hs hn hp port opq pn pl hq q hf fg bare sp (aa rst 2))
   rw [e0,if_neg (by rw [h2];decide),if_neg h4]
   have e1:(RS.mk sc us pw 1 hs hn hp port opq pn pl hq q hf fg bare sp (aa rst 2)).av.1.pn=pn:=by rw [er]
   have e2:(RS.mk sc us pw 1 hs hn hp port opq pn pl hq q hf fg bare sp (aa rst 2)).av.1.pl=pl:=by rw [er]
   have e3:(RS.mk sc us pw 1 hs hn hp port opq pn pl hq q hf fg bare sp (aa rst 2)).av.1.rst=aa (aa rst 2) (ah sp (aa rst 2)):=by rw [er]
   rw [e1,e2,e3];exact ⟨rfl,rfl⟩
  ·have h4:(RS.mk sc us pw 1 hs hn hp port opq pn pl hq q hf fg bare sp (aa rst 2)).av.2=0:=by simpa using h3
   have er:=eo (RS.mk sc us pw 1 hs hn hp port opq pn pl hq q hf fg bare sp (aa rst 2))
   have gen:∀G:RS,G={(RS.mk sc us pw 1 hs hn hp port opq pn pl hq q hf fg bare sp (aa rst 2))with hk:=G.hk,hs:=G.hs,hn:=G.hn,hp:=G.hp,rst:=aa (aa rst 2) (ah sp (aa rst 2))}→G.shl=RS.mk sc us pw G.hk G.hs G.hn G.hp port opq pn pl hq q hf fg bare sp (if az sp (aa (aa rst 2) (ah sp (aa rst 2))) 0=true then aa (aa (aa rst 2) (ah sp (aa rst 2))) 1 else aa (aa rst 2) (ah sp (aa rst 2))):=fun G e=>by rw [e];rfl
   rw [e0,if_neg (by rw [h2];decide),if_pos h4,gen _ er]
   exact ⟨rfl,rfl⟩
 ·rw [hB (fun _ _=>True) (by rw [h1];simp)]
  exact ⟨trivial,fun _=>⟨trivial,⟨by omega,hp2⟩,rfl,rfl⟩,fun _=>⟨trivial,fun _=>⟨⟨by omega,hp2⟩,rfl,rfl⟩,fun h=>(by cases h)⟩⟩
 ·rw [hB (fun _ _=>True) (by rw [show az sp rst 0=false from h0];simp)]
  exact ⟨trivial,fun _=>⟨trivial,⟨by omega,hp2⟩,rfl,rfl⟩,fun _=>⟨trivial,fun _=>⟨⟨by omega,hp2⟩,rfl,rfl⟩,fun h=>(by cases h)⟩⟩)
theorem FV(sc us pw:Bs)(hk:Int)(hs:Bs)(hn:Int)(hp:List Int)(port:Int)(opq pn:Bool)(pl:List Bs)(hq:Bool)(q:Bs)(hf:Bool)(fg:Bs)(bare sp:Bool)(rst:Bs):ag Tryz.prog ay 76 [.ptr 0 0,aC 1 (.raw (.pointer none)) sc us pw hk hs hn hp port opq pn pl hq q hf fg bare sp rst] ⟨rst.length≤300000∧pl.length≤100000,.tup [.int .i64 (RS.mk sc us pw hk hs hn hp port opq pn pl hq q hf fg bare sp rst).bc.2,aC 1 (.raw (.pointer none)) sc us pw ((RS.mk sc us pw hk hs hn hp port opq pn pl hq q hf fg bare sp rst).bc.1.hk) ((RS.mk sc us pw hk hs hn hp port opq pn pl hq q hf fg bare sp rst).bc.1.hs) ((RS.mk sc us pw hk hs hn hp port opq pn pl hq q hf fg bare sp rst).bc.1.hn) ((RS.mk sc us pw hk hs hn hp port opq pn pl hq q hf fg bare sp rst).bc.1.hp) port opq ((RS.mk sc us pw hk hs hn hp port opq pn pl hq q hf fg bare sp rst).bc.1.pn) ((RS.mk sc us pw hk hs hn hp port opq pn pl hq q hf fg bare sp rst).bc.1.pl) hq q hf fg bare sp ((RS.mk sc us pw hk hs hn hp port opq pn pl hq q hf fg bare sp rst).bc.1.rst)]⟩:=ag.aZ (fun h=>by have e:List.isEmpty (PV.aA PV.bw [.ptr 0 0,aC 1 (.raw (.pointer none)) sc us pw hk hs hn hp port opq pn pl hq q hf fg bare sp rst])=false:=(by kernel_rfl);exact Bool.noConfusion (e.symm.trans (congrArg List.isEmpty h))) (zU sc us pw hk hs hn hp port opq pn pl hq q hf fg bare sp rst)
def nC:List PV→Option aF:=fun xs=>match xs with
 |[.ptr 0 0,aC 1 (.raw (.pointer none)) sc us pw hk hs hn hp port opq pn pl hq q hf fg bare sp rst]=>some ⟨rst.length≤300000∧pl.length≤100000,.tup [.int .i64 (RS.mk sc us pw hk hs hn hp port opq pn pl hq q hf fg bare sp rst).bc.2,aC 1 (.raw (.pointer none)) sc us pw ((RS.mk sc us pw hk hs hn hp port opq pn pl hq q hf fg bare sp rst).bc.1.hk) ((RS.mk sc us pw hk hs hn hp port opq pn pl hq q hf fg bare sp rst).bc.1.hs) ((RS.mk sc us pw hk hs hn hp port opq pn pl hq q hf fg bare sp rst).bc.1.hn) ((RS.mk sc us pw hk hs hn hp port opq pn pl hq q hf fg bare sp rst).bc.1.hp) port opq ((RS.mk sc us pw hk hs hn hp port opq pn pl hq q hf fg bare sp rst).bc.1.pn) ((RS.mk sc us pw hk hs hn hp port opq pn pl hq q hf fg bare sp rst).bc.1.pl) hq q hf fg bare sp ((RS.mk sc us pw hk hs hn hp port opq pn pl hq q hf fg bare sp rst).bc.1.rst)]⟩
 |_=>none
theorem u5:∀xs c,nC xs=some c→ag Tryz.prog ay 76 xs c:=fun xs c h=>by
 unfold nC at h
 split at h
 ·injection h with h;subst h;exact FV _ _ _ _ _ _ _ _ _ _ _ _ _ _ _ _ _ _
 ·cases h
end
section
def kA:cr:=bP [(82,gu)]
def kB(bp:Option Addr)(sc us pw:Bs)(hk:Int)(hs:Bs)(hn:Int)(hp:List Int)(port:Int)(opq pn:Bool)(pl:List Bs)(hq:Bool)(q:Bs)(hf:Bool)(fg:Bs)(bare sp:Bool)(rst:Bs):aY:=fun i=>bif Nat.beq i 1 then some ⟨(Int)×(Bs),(fun s x=>((((((((((((((s.put 2 (.int .i64 x.1)).KA 0 [4] (.str x.2)).put 3 .undef).put 4 .undef).put 5 .undef).put 6 .undef).put 7 .undef).put 8 .undef).put 9 .undef).put 10 .undef).put 11 .undef).put 12 .undef).put 13 .undef).put 14 .undef)),(fun s=>(s.int 2,(s.bx 0 [4]).db)),(fun s x=>let n:=x.1;let x:=x.2;0≤n∧n+x.length=rst.length∧aB x.length sp n x=aB rst.length sp 0 rst),(fun s x=>let n:=x.1;let x:=x.2;x.length),[3,4,5,6,7,8,9,10,11,12,13,14]⟩else none
theorem nD:cS Tryz.prog ay kA:=ai gi (ax)
theorem qL(bp:Option Addr)(sc us pw:Bs)(hk:Int)(hs:Bs)(hn:Int)(hp:List Int)(port:Int)(opq pn:Bool)(pl:List Bs)(hq:Bool)(q:Bs)(hf:Bool)(fg:Bs)(bare sp:Bool)(rst:Bs)(k:PV→List PV→Prop):bL Tryz.prog kA ay (kB bp sc us pw hk hs hn hp port opq pn pl hq q hf fg bare sp rst) 1000 Tryz.f79 [.ptr 0 0] [aC 1 (.raw (.pointer bp)) sc us pw hk hs hn hp port opq pn pl hq q hf fg bare sp rst] k=(
 VS.mk [] [(0,PV.ptr (0:Nat) (0:Nat)),(2,PV.int .i64 (0:Int)),((14:Nat),PV.undef)] [((0:Nat),bS (PV.raw (Go.Value.pointer bp)) 1 sc us pw hk hs hn hp port opq pn pl hq q hf fg bare sp rst)]=VS.mk [] [(0,PV.ptr (0:Nat) (0:Nat)),((2:Nat),PV.int .i64 (0:Int)),((14:Nat),PV.undef)] [((0:Nat),bS (PV.raw (Go.Value.pointer bp)) 1 sc us pw hk hs hn hp port opq pn pl hq q hf fg bare sp rst)]∧
 ((0:Int)≤(0:Int)∧
 (0:Int)+↑(List.length rst)=↑(List.length rst)∧
 aB (List.length rst) sp (0:Int) rst=aB (List.length rst) sp (0:Int) rst)∧
 ∀(x:Int×Bs),(0:Int)≤x.1∧
 x.1+↑(List.length x.2)=↑(List.length rst)∧
 aB (List.length x.2) sp x.1 x.2=aB (List.length rst) sp (0:Int) rst→
 ((0:Int)≤(0:Int)∧
 (0:Int)<(1000:Int))∧
 ((bif az sp x.2 (0:Int)then bif sp then true else decide (x.1<(2:Int))else false)=true→
 upto (1:Int) (ak x.2) (ak x.2)∧
 aK (x.1+(1:Int))∧
 vD (VS.mk [] [(0,PV.ptr (0:Nat) (0:Nat)),((2:Nat),PV.int .i64 (x.1+(1:Int))),((14:Nat),PV.undef)] [((0:Nat),bS (PV.raw (Go.Value.pointer bp)) 1 sc us pw hk hs hn hp port opq pn pl hq q hf fg bare sp (aa x.2 (1:Int)))])∧
 ((0:Int)≤x.1+(1:Int)∧
 x.1+(1:Int)+↑(aa x.2 (1:Int)).length=↑(List.length rst)∧
 aB (aa x.2 (1:Int)).length sp (x.1+(1:Int)) (aa x.2 (1:Int))=aB (List.length rst) sp (0:Int) rst)∧
 (aa x.2 (1:Int)).length<List.length x.2)∧
 ((bif az sp x.2 (0:Int)then bif sp then true else decide (x.1<(2:Int))else false)=false→
 k (PV.tup []) [bS (PV.raw (Go.Value.pointer bp)) 1 sc us pw hk hs hn hp port opq pn pl hq q hf fg bare sp x.2])):=by kernel_rfl
attribute [local irreducible] Go.Vc.cD Go.Vc.bL
theorem nE(bp:Option Addr)(sc us pw:Bs)(hk:Int)(hs:Bs)(hn:Int)(hp:List Int)(port:Int)(opq pn:Bool)(pl:List Bs)(hq:Bool)(q:Bs)(hf:Bool)(fg:Bs)(bare sp:Bool)(rst:Bs):bm Tryz.prog ay 79 [.ptr 0 0] [aC 1 (.raw (.pointer bp)) sc us pw hk hs hn hp port opq pn pl hq q hf fg bare sp rst] (rst.length≤300000) (.tup []) [aC 1 (.raw (.pointer bp)) sc us pw hk hs hn hp port opq pn pl hq q hf fg bare sp (aB rst.length sp 0 rst)]:=bz (by kernel_rfl) nD (H:=kB bp sc us pw hk hs hn hp port opq pn pl hq q hf fg bare sp rst) (fuel:=1000) Tryz.func79 (by kernel_rfl) (Nat.le_of_ble_eq_true rfl) fun hpre=>(qL bp sc us pw hk hs hn hp port opq pn pl hq q hf fg bare sp rst _).mpr (by
 refine ⟨rfl,⟨by omega,by omega,rfl⟩,fun x ⟨h0,h1,h2⟩=>⟨by omega,fun hc=>?_,fun hc=>?_⟩⟩
 ·have hc:az sp x.2 0=true∧(sp=true∨x.1<2):=by
   cases h:az sp x.2 0<;>cases hs:sp<;>simp_all
  have hp:=xi hc.1
  have hl:=s8 hp
  refine ⟨?_,?_,rfl,⟨by omega,by omega,?_⟩,by omega⟩
  ·unfold upto ak;omega
  ·unfold aK;omega
  ·rw [←xj hc];exact h2
 ·have hc:¬(az sp x.2 0=true∧(sp=true∨x.1<2)):=by
   cases h:az sp x.2 0<;>cases hs:sp<;>simp_all
  rw [←h2,Bc hc];exact ⟨rfl,rfl⟩)
theorem qM(bp:Option Addr)(sc us pw:Bs)(hk:Int)(hs:Bs)(hn:Int)(hp:List Int)(port:Int)(opq pn:Bool)(pl:List Bs)(hq:Bool)(q:Bs)(hf:Bool)(fg:Bs)(bare sp:Bool)(rst:Bs):ag Tryz.prog ay 79 [.ptr 0 0,aC 1 (.raw (.pointer bp)) sc us pw hk hs hn hp port opq pn pl hq q hf fg bare sp rst] ⟨rst.length≤300000,.tup [.tup [],aC 1 (.raw (.pointer bp)) sc us pw hk hs hn hp port opq pn pl hq q hf fg bare sp (aB rst.length sp 0 rst)]⟩:=ag.aZ (fun h=>by have e:List.isEmpty (PV.aA PV.bw [.ptr 0 0,aC 1 (.raw (.pointer bp)) sc us pw hk hs hn hp port opq pn pl hq q hf fg bare sp rst])=false:=(by kernel_rfl);exact Bool.noConfusion (e.symm.trans (congrArg List.isEmpty h))) (nE bp sc us pw hk hs hn hp port opq pn pl hq q hf fg bare sp rst)
def fR:List PV→Option aF:=fun xs=>match xs with
 |[.ptr 0 0,aC 1 (.raw (.pointer bp)) sc us pw hk hs hn hp port opq pn pl hq q hf fg bare sp rst]=>some ⟨rst.length≤300000,.tup [.tup [],aC 1 (.raw (.pointer bp)) sc us pw hk hs hn hp port opq pn pl hq q hf fg bare sp (aB rst.length sp 0 rst)]⟩
 |_=>none
theorem lf:∀xs c,fR xs=some c→ag Tryz.prog ay 79 xs c:=fun xs c h=>by
 unfold fR at h
 split at h
 ·injection h with h;subst h;exact qM _ _ _ _ _ _ _ _ _ _ _ _ _ _ _ _ _ _ _
 ·cases h
end
section
theorem FW(l m:Bs):(bif decide (ak m≤ak l)then decide (ae l (ak m)=m)else false)=preB l m:=by
 unfold preB
 rw [←Lib.hasPrefix_of_take]
 unfold ak ae
 rw [Int.toNat_natCast]
 have:decide ((m.length:Int)≤l.length)=decide (m.length≤l.length):=by rw [decide_eq_decide];omega
 rw [this,Bool.eq_iff_iff]
 cases decide (m.length≤l.length)<;>simp
theorem It {l m:Bs}(h:preB l m=true):m.length≤l.length:=by
 rw [←FW]at h
 cases e:decide (ak m≤ak l)with
 |false=>rw [e]at h;cases h
 |true=>have:=of_decide_eq_true e;unfold ak at this;omega
def FX:cr:=bP []
def FY(l m:Bs):aY:=fun i=>none
theorem Da:cS Tryz.prog ay FX:=ax
theorem Iu(l m:Bs)(k:PV→Prop):cD Tryz.prog FX ay (FY l m) 1000 Tryz.f126 [.str l,.str m] k=(
 (decide (ak m≤ak l)=true→upto (0:Int) (ak m) (ak l))∧
 k (PV.bool (bif decide (ak m≤ak l)then decide (ae l (ak m)=m)else false))):=by kernel_rfl
attribute [local irreducible] Go.Vc.cD
theorem Iv(l m:Bs):ag Tryz.prog ay 126 [.str l,.str m] ⟨True,.bool (preB l m)⟩:=cl (by kernel_rfl) Da (H:=FY l m) (fuel:=1000) Tryz.func126 (by kernel_rfl) fun hpre=>(Iu l m _).mpr (by
 refine ⟨fun h=>⟨by omega,by unfold ak;omega,of_decide_eq_true h⟩,?_⟩
 rw [FW])
def qN:List PV→Option aF:=fun xs=>match xs with
 |[.str l,.str m]=>some ⟨True,.bool (preB l m)⟩
 |_=>none
theorem xu:∀xs c,qN xs=some c→ag Tryz.prog ay 126 xs c:=fun xs c h=>by
 unfold qN at h
 split at h
 ·injection h with h;subst h;exact Iv _ _
 ·cases h
end
section
def aj(l m:Bs):Bs×Bool:=if preB l m=true then(aa l (ak m),true)else(l,false)
def Br:cr:=bP [(126,qN)]
def Bt(l m:Bs):aY:=fun i=>none
theorem zV:cS Tryz.prog ay Br:=ai xu (ax)
theorem FZ(l m:Bs)(k:PV→Prop):cD Tryz.prog Br ay (Bt l m) 1000 Tryz.f157 [.str l,.str m] k=(
 True∧
 ((!preB l m)=true→k (PV.tup [PV.str l,PV.bool false]))∧
 ((!preB l m)=false→
 upto (ak m) (ak l) (ak l)∧k (PV.tup [PV.str (aa l (ak m)),PV.bool true]))):=by kernel_rfl
attribute [local irreducible] Go.Vc.cD
theorem F1(l m:Bs):ag Tryz.prog ay 157 [.str l,.str m] ⟨True,.tup [.str (aj l m).1,.bool (aj l m).2]⟩:=cl (by kernel_rfl) zV (H:=Bt l m) (fuel:=1000) Tryz.func157 (by kernel_rfl) fun hpre=>(FZ l m _).mpr (by
 refine ⟨trivial,fun h=>?_,fun h=>⟨?_,?_⟩⟩
 ·unfold aj;rw [if_neg (by intro e;rw [e]at h;cases h)]
 ·have:=It (show preB l m=true by simpa using h)
  unfold upto ak;omega
 ·unfold aj;rw [if_pos (by simpa using h)])
def nG:List PV→Option aF:=fun xs=>match xs with
 |[.str l,.str m]=>some ⟨True,.tup [.str (aj l m).1,.bool (aj l m).2]⟩
 |_=>none
theorem u6:∀xs c,nG xs=some c→ag Tryz.prog ay 157 xs c:=fun xs c h=>by
 unfold nG at h
 split at h
 ·injection h with h;subst h;exact F1 _ _
 ·cases h
end
section
def F2:cr:=bP [(157,nG)]
def F3(l m:Bs):aY:=fun i=>none
theorem Db:cS Tryz.prog ay F2:=ai u6 (ax)
theorem Iw(l m:Bs)(k:PV→Prop):cD Tryz.prog F2 ay (F3 l m) 1000 Tryz.f127 [.str l,.str m] k=(
 True∧k (PV.tup [PV.str (aj l m).1,PV.bool (aj l m).2])):=by kernel_rfl
attribute [local irreducible] Go.Vc.cD
theorem Ix(l m:Bs):ag Tryz.prog ay 127 [.str l,.str m] ⟨True,.tup [.str (aj l m).1,.bool (aj l m).2]⟩:=cl (by kernel_rfl) Db (H:=F3 l m) (fuel:=1000) Tryz.func127 (by kernel_rfl) fun hpre=>(Iw l m _).mpr (by
 exact ⟨trivial,rfl⟩)
def mD:List PV→Option aF:=fun xs=>match xs with
 |[.str l,.str m]=>some ⟨True,.tup [.str (aj l m).1,.bool (aj l m).2]⟩
 |_=>none
theorem oA:∀xs c,mD xs=some c→ag Tryz.prog ay 127 xs c:=fun xs c h=>by
 unfold mD at h
 split at h
 ·injection h with h;subst h;exact Ix _ _
 ·cases h
end
section
def F4:cr:=bP [(127,mD)]
def F5(bp:Option Addr)(sc us pw:Bs)(hk:Int)(hs:Bs)(hn:Int)(hp:List Int)(port:Int)(opq pn:Bool)(pl:List Bs)(hq:Bool)(q:Bs)(hf:Bool)(fg:Bs)(bare sp:Bool)(rst:Bs)(p:Bs):aY:=fun i=>none
theorem Dc:cS Tryz.prog ay F4:=ai oA (ax)
theorem Iy(bp:Option Addr)(sc us pw:Bs)(hk:Int)(hs:Bs)(hn:Int)(hp:List Int)(port:Int)(opq pn:Bool)(pl:List Bs)(hq:Bool)(q:Bs)(hf:Bool)(fg:Bs)(bare sp:Bool)(rst:Bs)(p:Bs)(k:PV→List PV→Prop):bL Tryz.prog F4 ay (F5 bp sc us pw hk hs hn hp port opq pn pl hq q hf fg bare sp rst p) 1000 Tryz.f80 [.ptr 0 0,.str p] [aC 1 (.raw (.pointer bp)) sc us pw hk hs hn hp port opq pn pl hq q hf fg bare sp rst] k=(
 True∧
 k (PV.bool (aj rst p).2) [bS (PV.raw (Go.Value.pointer bp)) 1 sc us pw hk hs hn hp port opq pn pl hq q hf fg bare sp ((aj rst p).1)]):=by kernel_rfl
attribute [local irreducible] Go.Vc.cD Go.Vc.bL
theorem Dd(bp:Option Addr)(sc us pw:Bs)(hk:Int)(hs:Bs)(hn:Int)(hp:List Int)(port:Int)(opq pn:Bool)(pl:List Bs)(hq:Bool)(q:Bs)(hf:Bool)(fg:Bs)(bare sp:Bool)(rst:Bs)(p:Bs):bm Tryz.prog ay 80 [.ptr 0 0,.str p] [aC 1 (.raw (.pointer bp)) sc us pw hk hs hn hp port opq pn pl hq q hf fg bare sp rst] (True) (.bool (aj rst p).2) [aC 1 (.raw (.pointer bp)) sc us pw hk hs hn hp port opq pn pl hq q hf fg bare sp ((aj rst p).1)]:=bz (by kernel_rfl) Dc (H:=F5 bp sc us pw hk hs hn hp port opq pn pl hq q hf fg bare sp rst p) (fuel:=1000) Tryz.func80 (by kernel_rfl) (Nat.le_of_ble_eq_true rfl) fun hpre=>(Iy bp sc us pw hk hs hn hp port opq pn pl hq q hf fg bare sp rst p _).mpr (by
 exact ⟨trivial,rfl,rfl⟩)
theorem Iz(bp:Option Addr)(sc us pw:Bs)(hk:Int)(hs:Bs)(hn:Int)(hp:List Int)(port:Int)(opq pn:Bool)(pl:List Bs)(hq:Bool)(q:Bs)(hf:Bool)(fg:Bs)(bare sp:Bool)(rst:Bs)(p:Bs):ag Tryz.prog ay 80 [.ptr 0 0,.str p,aC 1 (.raw (.pointer bp)) sc us pw hk hs hn hp port opq pn pl hq q hf fg bare sp rst] ⟨True,.tup [.bool (aj rst p).2,aC 1 (.raw (.pointer bp)) sc us pw hk hs hn hp port opq pn pl hq q hf fg bare sp ((aj rst p).1)]⟩:=ag.aZ (fun h=>by have e:List.isEmpty (PV.aA PV.bw [.ptr 0 0,.str p,aC 1 (.raw (.pointer bp)) sc us pw hk hs hn hp port opq pn pl hq q hf fg bare sp rst])=false:=(by kernel_rfl);exact Bool.noConfusion (e.symm.trans (congrArg List.isEmpty h))) (Dd bp sc us pw hk hs hn hp port opq pn pl hq q hf fg bare sp rst p)
def jS:List PV→Option aF:=fun xs=>match xs with
 |[.ptr 0 0,.str p,aC 1 (.raw (.pointer bp)) sc us pw hk hs hn hp port opq pn pl hq q hf fg bare sp rst]=>some ⟨True,.tup [.bool (aj rst p).2,aC 1 (.raw (.pointer bp)) sc us pw hk hs hn hp port opq pn pl hq q hf fg bare sp ((aj rst p).1)]⟩
 |_=>none
theorem jT:∀xs c,jS xs=some c→ag Tryz.prog ay 80 xs c:=fun xs c h=>by
 unfold jS at h
 split at h
 ·injection h with h;subst h;exact Iz _ _ _ _ _ _ _ _ _ _ _ _ _ _ _ _ _ _ _ _
 ·cases h
end
section
def I8:cr:=bP [(158,mj)]
def I9(l m:Bs):aY:=fun i=>none
theorem F6:cS Tryz.prog ay I8:=ai om (ax)
theorem Ka(l m:Bs)(k:PV→Prop):cD Tryz.prog I8 ay (I9 l m) 1000 Tryz.f130 [.str l,.str m] k=(
 (List.length l≤(1000000:Nat)∧List.length m≤(1000000:Nat))∧k (PV.bool (hM l m))):=by kernel_rfl
attribute [local irreducible] Go.Vc.cD
theorem Kb(l m:Bs):ag Tryz.prog ay 130 [.str l,.str m] ⟨l.length≤1000000∧m.length≤1000000,.bool (hM l m)⟩:=cl (by kernel_rfl) F6 (H:=I9 l m) (fuel:=1000) Tryz.func130 (by kernel_rfl) fun hpre=>(Ka l m _).mpr (by
 exact ⟨hpre,rfl⟩)
def u7:List PV→Option aF:=fun xs=>match xs with
 |[.str l,.str m]=>some ⟨l.length≤1000000∧m.length≤1000000,.bool (hM l m)⟩
 |_=>none
theorem zW:∀xs c,u7 xs=some c→ag Tryz.prog ay 130 xs c:=fun xs c h=>by
 unfold u7 at h
 split at h
 ·injection h with h;subst h;exact Kb _ _
 ·cases h
end
section
theorem tq(k:Int)(l:Bs):(bt k l).length≤12*l.length:=by
 have hpl:(bW l).length≤4*l.length:=by
  have a:=(lW (gC l)).2
  have b:=lV _ l (Nat.le_refl _)
  unfold bW;omega
 unfold bt
 split
 ·have:=wa (sH k) (bW l);omega
 ·omega
theorem KN(l:Bs):hM l [32]=decide (0<l.length∧al l (l.length-1)=32):=by
 unfold hM ak aa
 rcases List.eq_nil_or_concat l with rfl|⟨L,b,rfl⟩
 ·rfl
 ·have h1:(((L.concat b).length:Int)-(([32]:Bs).length:Int)).toNat=L.length:=by simp
  have h2:al (L.concat b) ((L.concat b).length-1)=b.toNat:=by
   unfold al
   have:(((L.concat b).length:Int)-1).toNat=L.length:=by simp
   rw [this];simp
  rw [h1,h2]
  have h3:decide ((([32]:Bs).length:Int)≤((L.concat b).length:Int))=true:=decide_eq_true (by simp;omega)
  have h4:(0:Nat)<(L.concat b).length:=by simp
  rw [h3,cond_true,decide_eq_decide]
  have h5:(L.concat b).drop L.length=[b]:=by simp
  rw [h5]
  simp only [h4,true_and,List.cons.injEq,and_true]
  constructor
  ·rintro rfl;rfl
  ·intro h;exact UInt8.toNat_inj.1 (by have:(32:UInt8).toNat=32:=rfl;omega)
def xv:cr:=bP [(128,gI),(129,gG),(130,u7),(26,eW)]
def xw(bp:Option Addr)(sc us pw:Bs)(hk:Int)(hs:Bs)(hn:Int)(hp:List Int)(port:Int)(opq pn:Bool)(pl:List Bs)(hq:Bool)(q:Bs)(hf:Bool)(fg:Bs)(bare sp:Bool)(rst:Bs):aY:=fun i=>none
theorem xx:cS Tryz.prog ay xv:=ai fN (ai fK (ai zW (ai dO (ax))))
theorem De(bp:Option Addr)(sc us pw:Bs)(hk:Int)(hs:Bs)(hn:Int)(hp:List Int)(port:Int)(opq pn:Bool)(pl:List Bs)(hq:Bool)(q:Bs)(hf:Bool)(fg:Bs)(bare sp:Bool)(rst:Bs)(k:PV→List PV→Prop):bL Tryz.prog xv ay (xw bp sc us pw hk hs hn hp port opq pn pl hq q hf fg bare sp rst) 1000 Tryz.f81 [.ptr 0 0] [aC 1 (.raw (.pointer bp)) sc us pw hk hs hn hp port opq pn pl hq q hf fg bare sp rst] k=(
 (List.length rst≤(1000000:Nat)∧
 (ByteArray.mk #[63,35]).data.toList.length≤(1000000:Nat)∧
 ∀(b:UInt8),b∈(ByteArray.mk #[63,35]).data.toList→
 b.toNat<(128:Nat))∧
 ((0:Int)≤↑(bg rst (ByteArray.mk #[63,35]).data.toList)∧
 ↑(bg rst (ByteArray.mk #[63,35]).data.toList)≤ak rst)∧
 ((!decide (aa rst ↑(bg rst (ByteArray.mk #[63,35]).data.toList)=(ByteArray.mk #[]).data.toList))=true→
 (ae rst ↑(bg rst (ByteArray.mk #[63,35]).data.toList)).length≤(1000000:Nat)∧
 (ByteArray.mk #[32]).data.toList.length≤(1000000:Nat))∧
 ((bif !decide (aa rst ↑(bg rst (ByteArray.mk #[63,35]).data.toList)=(ByteArray.mk #[]).data.toList)then hM (ae rst ↑(bg rst (ByteArray.mk #[63,35]).data.toList)) (ByteArray.mk #[32]).data.toList else false)=true→
 aK (ak (ae rst ↑(bg rst (ByteArray.mk #[63,35]).data.toList))-(1:Int))∧
 upto (0:Int) (ak (ae rst ↑(bg rst (ByteArray.mk #[63,35]).data.toList))-(1:Int)) (ak (ae rst ↑(bg rst (ByteArray.mk #[63,35]).data.toList)))∧
 ((ae (ae rst ↑(bg rst (ByteArray.mk #[63,35]).data.toList)) (ak (ae rst ↑(bg rst (ByteArray.mk #[63,35]).data.toList))-(1:Int))).length≤(300000:Nat)∧
 (0:Int)≤(0:Int)∧
 (0:Int)≤(6:Int))∧
 (bt (0:Int) (ae (ae rst ↑(bg rst (ByteArray.mk #[63,35]).data.toList)) (ak (ae rst ↑(bg rst (ByteArray.mk #[63,35]).data.toList))-(1:Int)))).length+(ByteArray.mk #[37,50,48]).data.toList.length≤Go.Vc.maxLen∧
 k (PV.tup []) [bS (PV.raw (Go.Value.pointer bp)) 0 sc us pw hk hs hn hp port true false ([bt (0:Int) (ae (ae rst ↑(bg rst (ByteArray.mk #[63,35]).data.toList)) (ak (ae rst ↑(bg rst (ByteArray.mk #[63,35]).data.toList))-(1:Int)))++(ByteArray.mk #[37,50,48]).data.toList]) hq q hf fg bare sp (aa rst ↑(bg rst (ByteArray.mk #[63,35]).data.toList))])∧
 ((bif !decide (aa rst ↑(bg rst (ByteArray.mk #[63,35]).data.toList)=(ByteArray.mk #[]).data.toList)then hM (ae rst ↑(bg rst (ByteArray.mk #[63,35]).data.toList)) (ByteArray.mk #[32]).data.toList else false)=false→
 ((ae rst ↑(bg rst (ByteArray.mk #[63,35]).data.toList)).length≤(300000:Nat)∧
 (0:Int)≤(0:Int)∧
 (0:Int)≤(6:Int))∧
 (bt (0:Int) (ae rst ↑(bg rst (ByteArray.mk #[63,35]).data.toList))).length+(ByteArray.mk #[]).data.toList.length≤Go.Vc.maxLen∧
 k (PV.tup []) [bS (PV.raw (Go.Value.pointer bp)) 0 sc us pw hk hs hn hp port true false ([bt (0:Int) (ae rst ↑(bg rst (ByteArray.mk #[63,35]).data.toList))++(ByteArray.mk #[]).data.toList]) hq q hf fg bare sp (aa rst ↑(bg rst (ByteArray.mk #[63,35]).data.toList))])):=by kernel_rfl
attribute [local irreducible] Go.Vc.cD Go.Vc.bL
theorem xy(bp:Option Addr)(sc us pw:Bs)(hk:Int)(hs:Bs)(hn:Int)(hp:List Int)(port:Int)(opq pn:Bool)(pl:List Bs)(hq:Bool)(q:Bs)(hf:Bool)(fg:Bs)(bare sp:Bool)(rst:Bs):bm Tryz.prog ay 81 [.ptr 0 0] [aC 1 (.raw (.pointer bp)) sc us pw hk hs hn hp port opq pn pl hq q hf fg bare sp rst] (rst.length≤300000) (.tup []) [aC 0 (.raw (.pointer bp)) sc us pw hk hs hn hp port true false ([nz (ae rst (aE rst)) (aa rst (aE rst))]) hq q hf fg bare sp (aa rst (aE rst))]:=bz (by kernel_rfl) xx (H:=xw bp sc us pw hk hs hn hp port opq pn pl hq q hf fg bare sp rst) (fuel:=1000) Tryz.func81 (by kernel_rfl) (Nat.le_of_ble_eq_true rfl) fun hpre=>(De bp sc us pw hk hs hn hp port opq pn pl hq q hf fg bare sp rst _).mpr (by
 obtain ⟨n,e1⟩:∃n,n=bg rst (ByteArray.mk #[63,35]).data.toList:=⟨_,rfl⟩
 have e2:aE rst=n:=e1.symm
 have h63:∀b:UInt8,b∈(ByteArray.mk #[63,35]).data.toList→b.toNat<128:=by rw [show(ByteArray.mk #[63,35]).data.toList=([63,35]:Bs)from rfl];decide
 rw [←e1]
 have e3:n≤rst.length:=by rw [e1];exact fr _ _
 obtain ⟨S,e4⟩:∃S,S=ae rst (n:Int):=⟨_,rfl⟩
 obtain ⟨D,e5⟩:∃D,D=aa rst (n:Int):=⟨_,rfl⟩
 rw [←e4,←e5]
 have e6:S.length≤300000:=by rw [e4];unfold ae;rw [List.length_take];omega
 have e7:nz (ae rst (aE rst)) (aa rst (aE rst))=nz S D:=by rw [e2,←e4,←e5]
 have e8:aa rst (aE rst:Int)=D:=by rw [e2,←e5]
 have e9:(ae S (ak S-1)).length≤300000:=by unfold ae;rw [List.length_take];omega
 have hcond:(bif !decide (D=(ByteArray.mk #[]).data.toList)then hM S (ByteArray.mk #[32]).data.toList else false)=decide (D≠[]∧0<S.length∧al S (S.length-1)=32):=by
  rw [show hM S (ByteArray.mk #[32]).data.toList=hM S [32]from rfl,KN,Bool.eq_iff_iff]
  simp only [Hq,Bool.and_eq_true,decide_eq_true_eq,Bool.not_eq_true',decide_eq_false_iff_not]
  try exact Iff.rfl
 rw [hcond,e7]
 rw [e8]
 refine ⟨⟨by omega,by decide,h63⟩,⟨by omega,by unfold ak;exact Int.ofNat_le.2 e3⟩,fun _=>⟨by omega,by decide⟩,fun h=>?_,fun h=>?_⟩
 ·have hc:=of_decide_eq_true h
  have ex:nz S D=bt 0 (ae S (ak S-1))++Lf:=by unfold nz;rw [if_pos hc];rfl
  rw [ex]
  exact ⟨by unfold aK ak;omega,by unfold upto ak;omega,⟨e9,by omega,by omega⟩,Nat.le_trans (Nat.add_le_add_right (tq 0 _) _) (Nat.le_trans (show _ ≤12*300000+3 from Nat.add_le_add (Nat.mul_le_mul_left 12 e9) (by decide)) (by decide)),rfl,rfl⟩
 ·have hc:=of_decide_eq_false h
  have ex:nz S D=bt 0 S:=by unfold nz;rw [if_neg hc]
  rw [ex,show(ByteArray.mk #[]).data.toList=([]:Bs)from rfl,List.append_nil]
  exact ⟨⟨e6,by omega,by omega⟩,Nat.le_trans (Nat.add_le_add_right (tq 0 _) _) (Nat.le_trans (show _ ≤12*300000+0 from Nat.add_le_add (Nat.mul_le_mul_left 12 e6) (by decide)) (by decide)),rfl,rfl⟩)
theorem Df(bp:Option Addr)(sc us pw:Bs)(hk:Int)(hs:Bs)(hn:Int)(hp:List Int)(port:Int)(opq pn:Bool)(pl:List Bs)(hq:Bool)(q:Bs)(hf:Bool)(fg:Bs)(bare sp:Bool)(rst:Bs):ag Tryz.prog ay 81 [.ptr 0 0,aC 1 (.raw (.pointer bp)) sc us pw hk hs hn hp port opq pn pl hq q hf fg bare sp rst] ⟨rst.length≤300000,.tup [.tup [],aC 0 (.raw (.pointer bp)) sc us pw hk hs hn hp port true false ([nz (ae rst (aE rst)) (aa rst (aE rst))]) hq q hf fg bare sp (aa rst (aE rst))]⟩:=ag.aZ (fun h=>by have e:List.isEmpty (PV.aA PV.bw [.ptr 0 0,aC 1 (.raw (.pointer bp)) sc us pw hk hs hn hp port opq pn pl hq q hf fg bare sp rst])=false:=(by kernel_rfl);exact Bool.noConfusion (e.symm.trans (congrArg List.isEmpty h))) (xy bp sc us pw hk hs hn hp port opq pn pl hq q hf fg bare sp rst)
def lg:List PV→Option aF:=fun xs=>match xs with
 |[.ptr 0 0,aC 1 (.raw (.pointer bp)) sc us pw hk hs hn hp port opq pn pl hq q hf fg bare sp rst]=>some ⟨rst.length≤300000,.tup [.tup [],aC 0 (.raw (.pointer bp)) sc us pw hk hs hn hp port true false ([nz (ae rst (aE rst)) (aa rst (aE rst))]) hq q hf fg bare sp (aa rst (aE rst))]⟩
 |_=>none
theorem rN:∀xs c,lg xs=some c→ag Tryz.prog ay 81 xs c:=fun xs c h=>by
 unfold lg at h
 split at h
 ·injection h with h;subst h;exact Df _ _ _ _ _ _ _ _ _ _ _ _ _ _ _ _ _ _ _
 ·cases h
end
section
def xz:cr:=bP []
def xA(bp:Option Addr)(sc us pw:Bs)(hk:Int)(hs:Bs)(hn:Int)(hp:List Int)(port:Int)(opq pn:Bool)(pl:List Bs)(hq:Bool)(q:Bs)(hf:Bool)(fg:Bs)(bare sp:Bool)(rst:Bs):aY:=fun i=>none
theorem xB:cS Tryz.prog ay xz:=ax
theorem Dg(bp:Option Addr)(sc us pw:Bs)(hk:Int)(hs:Bs)(hn:Int)(hp:List Int)(port:Int)(opq pn:Bool)(pl:List Bs)(hq:Bool)(q:Bs)(hf:Bool)(fg:Bs)(bare sp:Bool)(rst:Bs)(k:PV→List PV→Prop):bL Tryz.prog xz ay (xA bp sc us pw hk hs hn hp port opq pn pl hq q hf fg bare sp rst) 1000 Tryz.f89 [.ptr 0 0] [aC 1 (.raw (.pointer bp)) sc us pw hk hs hn hp port opq pn pl hq q hf fg bare sp rst] k=(
 (decide (rst=(ByteArray.mk #[]).data.toList)=false→
 within (0:Int) (ak rst))∧
 ((bif decide (rst=(ByteArray.mk #[]).data.toList)then true else decide (al rst (0:Int)=(63:Int)))=false→
 within (0:Int) (ak rst))∧
 k (PV.bool (bif bif decide (rst=(ByteArray.mk #[]).data.toList)then true else decide (al rst (0:Int)=(63:Int))then true else decide (al rst (0:Int)=(35:Int)))) [bS (PV.raw (Go.Value.pointer bp)) 1 sc us pw hk hs hn hp port opq pn pl hq q hf fg bare sp rst]):=by kernel_rfl
attribute [local irreducible] Go.Vc.cD Go.Vc.bL
theorem oB(bp:Option Addr)(sc us pw:Bs)(hk:Int)(hs:Bs)(hn:Int)(hp:List Int)(port:Int)(opq pn:Bool)(pl:List Bs)(hq:Bool)(q:Bs)(hf:Bool)(fg:Bs)(bare sp:Bool)(rst:Bs):bm Tryz.prog ay 89 [.ptr 0 0] [aC 1 (.raw (.pointer bp)) sc us pw hk hs hn hp port opq pn pl hq q hf fg bare sp rst] (True) (.bool (bN rst)) [aC 1 (.raw (.pointer bp)) sc us pw hk hs hn hp port opq pn pl hq q hf fg bare sp rst]:=bz (by kernel_rfl) xB (H:=xA bp sc us pw hk hs hn hp port opq pn pl hq q hf fg bare sp rst) (fuel:=1000) Tryz.func89 (by kernel_rfl) (Nat.le_of_ble_eq_true rfl) fun hpre=>(Dg bp sc us pw hk hs hn hp port opq pn pl hq q hf fg bare sp rst _).mpr (by
 have h0:decide (rst=(ByteArray.mk #[]).data.toList)=false→within 0 (ak rst):=fun h=>by
  have:=of_decide_eq_false h
  have:0<rst.length:=List.length_pos_iff.2 this
  unfold within ak;omega
 refine ⟨h0,fun h=>h0 ?_,?_,rfl⟩
 ·cases hd:decide (rst=(ByteArray.mk #[]).data.toList)with
  |false=>rfl
  |true=>rw [hd]at h;cases h
 ·congr 1
  have e:bN rst=(decide (rst=(ByteArray.mk #[]).data.toList)||(decide (al rst 0=63)||decide (al rst 0=35))):=rfl
  rw [e]
  cases decide (rst=(ByteArray.mk #[]).data.toList)<;>cases decide (al rst 0=63)<;>cases decide (al rst 0=35)<;>rfl)
theorem Dh(bp:Option Addr)(sc us pw:Bs)(hk:Int)(hs:Bs)(hn:Int)(hp:List Int)(port:Int)(opq pn:Bool)(pl:List Bs)(hq:Bool)(q:Bs)(hf:Bool)(fg:Bs)(bare sp:Bool)(rst:Bs):ag Tryz.prog ay 89 [.ptr 0 0,aC 1 (.raw (.pointer bp)) sc us pw hk hs hn hp port opq pn pl hq q hf fg bare sp rst] ⟨True,.tup [.bool (bN rst),aC 1 (.raw (.pointer bp)) sc us pw hk hs hn hp port opq pn pl hq q hf fg bare sp rst]⟩:=ag.aZ (fun h=>by have e:List.isEmpty (PV.aA PV.bw [.ptr 0 0,aC 1 (.raw (.pointer bp)) sc us pw hk hs hn hp port opq pn pl hq q hf fg bare sp rst])=false:=(by kernel_rfl);exact Bool.noConfusion (e.symm.trans (congrArg List.isEmpty h))) (oB bp sc us pw hk hs hn hp port opq pn pl hq q hf fg bare sp rst)
def lj:List PV→Option aF:=fun xs=>match xs with
 |[.ptr 0 0,aC 1 (.raw (.pointer bp)) sc us pw hk hs hn hp port opq pn pl hq q hf fg bare sp rst]=>some ⟨True,.tup [.bool (bN rst),aC 1 (.raw (.pointer bp)) sc us pw hk hs hn hp port opq pn pl hq q hf fg bare sp rst]⟩
 |_=>none
theorem rO:∀xs c,lj xs=some c→ag Tryz.prog ay 89 xs c:=fun xs c h=>by
 unfold lj at h
 split at h
 ·injection h with h;subst h;exact Dh _ _ _ _ _ _ _ _ _ _ _ _ _ _ _ _ _ _ _
 ·cases h
end
section
def dU(rst:Bs)(hq:Bool):Bool:=if preB rst [63]=true then true else hq
def dV(sp:Bool)(rst q:Bs):Bs:=if preB rst [63]=true then bt (if sp=true then 3 else 2) (ae (aa rst 1) (xk (aa rst 1)))else q
def bH(rst:Bs):Bs:=if preB rst [63]=true then aa (aa rst 1) (xk (aa rst 1))else rst
theorem F7(r:RS):r.query={r with hq:=dU r.rst r.hq,q:=dV r.sp r.rst r.q,rst:=bH r.rst}:=by
 unfold RS.query dU dV bH
 split<;>rfl
def Bu:cr:=bP [(80,jS),(128,gI),(129,gG),(26,eW)]
def Bv(bp:Option Addr)(sc us pw:Bs)(hk:Int)(hs:Bs)(hn:Int)(hp:List Int)(port:Int)(opq pn:Bool)(pl:List Bs)(hq:Bool)(q:Bs)(hf:Bool)(fg:Bs)(bare sp:Bool)(rst:Bs):aY:=fun i=>none
theorem zX:cS Tryz.prog ay Bu:=ai jT (ai fN (ai fK (ai dO (ax))))
theorem F8(bp:Option Addr)(sc us pw:Bs)(hk:Int)(hs:Bs)(hn:Int)(hp:List Int)(port:Int)(opq pn:Bool)(pl:List Bs)(hq:Bool)(q:Bs)(hf:Bool)(fg:Bs)(bare sp:Bool)(rst:Bs)(k:PV→List PV→Prop):bL Tryz.prog Bu ay (Bv bp sc us pw hk hs hn hp port opq pn pl hq q hf fg bare sp rst) 1000 Tryz.f91 [.ptr 0 0] [aC 1 (.raw (.pointer bp)) sc us pw hk hs hn hp port opq pn pl hq q hf fg bare sp rst] k=(
 True∧
 ((!(aj rst (ByteArray.mk #[63]).data.toList).2)=true→
 k (PV.tup []) [bS (PV.raw (Go.Value.pointer bp)) 1 sc us pw hk hs hn hp port opq pn pl hq q hf fg bare sp ((aj rst (ByteArray.mk #[63]).data.toList).1)])∧
 ((!(aj rst (ByteArray.mk #[63]).data.toList).2)=false→
 (sp=true→
 (List.length (aj rst (ByteArray.mk #[63]).data.toList).1≤(1000000:Nat)∧
 (ByteArray.mk #[35]).data.toList.length≤(1000000:Nat)∧
 ∀(b:UInt8),b∈(ByteArray.mk #[35]).data.toList→
 b.toNat<(128:Nat))∧
 ((0:Int)≤↑(bg (aj rst (ByteArray.mk #[63]).data.toList).1 (ByteArray.mk #[35]).data.toList)∧
 ↑(bg (aj rst (ByteArray.mk #[63]).data.toList).1 (ByteArray.mk #[35]).data.toList)≤ak (aj rst (ByteArray.mk #[63]).data.toList).1)∧
 ((ae (aj rst (ByteArray.mk #[63]).data.toList).1 ↑(bg (aj rst (ByteArray.mk #[63]).data.toList).1 (ByteArray.mk #[35]).data.toList)).length≤(300000:Nat)∧
 (0:Int)≤(3:Int)∧
 (3:Int)≤(6:Int))∧
 k (PV.tup []) [bS (PV.raw (Go.Value.pointer bp)) 1 sc us pw hk hs hn hp port opq pn pl true (bt (3:Int) (ae (aj rst (ByteArray.mk #[63]).data.toList).1 ↑(bg (aj rst (ByteArray.mk #[63]).data.toList).1 (ByteArray.mk #[35]).data.toList))) hf fg bare sp (aa (aj rst (ByteArray.mk #[63]).data.toList).1 ↑(bg (aj rst (ByteArray.mk #[63]).data.toList).1 (ByteArray.mk #[35]).data.toList))])∧
 (sp=false→
 (List.length (aj rst (ByteArray.mk #[63]).data.toList).1≤(1000000:Nat)∧
 (ByteArray.mk #[35]).data.toList.length≤(1000000:Nat)∧
 ∀(b:UInt8),b∈(ByteArray.mk #[35]).data.toList→
 b.toNat<(128:Nat))∧
 ((0:Int)≤↑(bg (aj rst (ByteArray.mk #[63]).data.toList).1 (ByteArray.mk #[35]).data.toList)∧
 ↑(bg (aj rst (ByteArray.mk #[63]).data.toList).1 (ByteArray.mk #[35]).data.toList)≤ak (aj rst (ByteArray.mk #[63]).data.toList).1)∧
 ((ae (aj rst (ByteArray.mk #[63]).data.toList).1 ↑(bg (aj rst (ByteArray.mk #[63]).data.toList).1 (ByteArray.mk #[35]).data.toList)).length≤(300000:Nat)∧
 (0:Int)≤(2:Int)∧
 (2:Int)≤(6:Int))∧
 k (PV.tup []) [bS (PV.raw (Go.Value.pointer bp)) 1 sc us pw hk hs hn hp port opq pn pl true (bt (2:Int) (ae (aj rst (ByteArray.mk #[63]).data.toList).1 ↑(bg (aj rst (ByteArray.mk #[63]).data.toList).1 (ByteArray.mk #[35]).data.toList))) hf fg bare sp (aa (aj rst (ByteArray.mk #[63]).data.toList).1 ↑(bg (aj rst (ByteArray.mk #[63]).data.toList).1 (ByteArray.mk #[35]).data.toList))]))):=by kernel_rfl
attribute [local irreducible] Go.Vc.cD Go.Vc.bL
theorem qO(bp:Option Addr)(sc us pw:Bs)(hk:Int)(hs:Bs)(hn:Int)(hp:List Int)(port:Int)(opq pn:Bool)(pl:List Bs)(hq:Bool)(q:Bs)(hf:Bool)(fg:Bs)(bare sp:Bool)(rst:Bs):bm Tryz.prog ay 91 [.ptr 0 0] [aC 1 (.raw (.pointer bp)) sc us pw hk hs hn hp port opq pn pl hq q hf fg bare sp rst] (rst.length≤300000) (.tup []) [aC 1 (.raw (.pointer bp)) sc us pw hk hs hn hp port opq pn pl (dU rst hq) (dV sp rst q) hf fg bare sp (bH rst)]:=bz (by kernel_rfl) zX (H:=Bv bp sc us pw hk hs hn hp port opq pn pl hq q hf fg bare sp rst) (fuel:=1000) Tryz.func91 (by kernel_rfl) (Nat.le_of_ble_eq_true rfl) fun hpre=>(F8 bp sc us pw hk hs hn hp port opq pn pl hq q hf fg bare sp rst _).mpr (by
 have ec:(ByteArray.mk #[63]).data.toList=([63]:Bs):=rfl
 have ed:(ByteArray.mk #[35]).data.toList=([35]:Bs):=rfl
 have h35:∀b:UInt8,b∈(ByteArray.mk #[35]).data.toList→b.toNat<128:=by rw [ed];decide
 cases hc:preB rst [63]with
 |false=>
  have e1:aj rst (ByteArray.mk #[63]).data.toList=(rst,false):=by unfold aj;rw [ec,hc];rfl
  have e2:dU rst hq=hq∧dV sp rst q=q∧bH rst=rst:=by unfold dU dV bH;rw [hc];exact ⟨rfl,rfl,rfl⟩
  rw [e1,e2.1,e2.2.1,e2.2.2]
  exact ⟨trivial,fun _=>⟨rfl,rfl⟩,fun h=>by cases h⟩
 |true=>
  have e1:aj rst (ByteArray.mk #[63]).data.toList=(aa rst 1,true):=by unfold aj;rw [ec,hc];rfl
  have e2:dU rst hq=true∧dV sp rst q=bt (if sp=true then 3 else 2) (ae (aa rst 1) (xk (aa rst 1)))∧bH rst=aa (aa rst 1) (xk (aa rst 1)):=⟨if_pos hc,if_pos hc,if_pos hc⟩
  have hl:(aa rst 1).length≤300000:=by unfold aa;rw [List.length_drop];omega
  have hi:=fr (aa rst 1) (ByteArray.mk #[35]).data.toList
  have ht:(ae (aa rst 1) (bg (aa rst 1) (ByteArray.mk #[35]).data.toList:Int)).length≤300000:=by unfold ae;rw [List.length_take];omega
  rw [e1,e2.1,e2.2.1,e2.2.2]
  refine ⟨trivial,fun h=>(by cases h),fun _=>⟨fun hsp=>?_,fun hsp=>?_⟩⟩
  ·subst hsp
   exact ⟨⟨Nat.le_trans hl (by decide),by decide,h35⟩,⟨by omega,by unfold ak;exact Int.ofNat_le.2 hi⟩,⟨ht,by omega,by omega⟩,rfl,rfl⟩
  ·subst hsp
   exact ⟨⟨Nat.le_trans hl (by decide),by decide,h35⟩,⟨by omega,by unfold ak;exact Int.ofNat_le.2 hi⟩,⟨ht,by omega,by omega⟩,rfl,rfl⟩)
theorem F9(bp:Option Addr)(sc us pw:Bs)(hk:Int)(hs:Bs)(hn:Int)(hp:List Int)(port:Int)(opq pn:Bool)(pl:List Bs)(hq:Bool)(q:Bs)(hf:Bool)(fg:Bs)(bare sp:Bool)(rst:Bs):ag Tryz.prog ay 91 [.ptr 0 0,aC 1 (.raw (.pointer bp)) sc us pw hk hs hn hp port opq pn pl hq q hf fg bare sp rst] ⟨rst.length≤300000,.tup [.tup [],aC 1 (.raw (.pointer bp)) sc us pw hk hs hn hp port opq pn pl (dU rst hq) (dV sp rst q) hf fg bare sp (bH rst)]⟩:=ag.aZ (fun h=>by have e:List.isEmpty (PV.aA PV.bw [.ptr 0 0,aC 1 (.raw (.pointer bp)) sc us pw hk hs hn hp port opq pn pl hq q hf fg bare sp rst])=false:=(by kernel_rfl);exact Bool.noConfusion (e.symm.trans (congrArg List.isEmpty h))) (qO bp sc us pw hk hs hn hp port opq pn pl hq q hf fg bare sp rst)
def nH:List PV→Option aF:=fun xs=>match xs with
 |[.ptr 0 0,aC 1 (.raw (.pointer bp)) sc us pw hk hs hn hp port opq pn pl hq q hf fg bare sp rst]=>some ⟨rst.length≤300000,.tup [.tup [],aC 1 (.raw (.pointer bp)) sc us pw hk hs hn hp port opq pn pl (dU rst hq) (dV sp rst q) hf fg bare sp (bH rst)]⟩
 |_=>none
theorem u9:∀xs c,nH xs=some c→ag Tryz.prog ay 91 xs c:=fun xs c h=>by
 unfold nH at h
 split at h
 ·injection h with h;subst h;exact F9 _ _ _ _ _ _ _ _ _ _ _ _ _ _ _ _ _ _ _
 ·cases h
end
section
def dW(rst:Bs)(hf:Bool):Bool:=if preB rst [35]=true then true else hf
def dX(rst fg:Bs):Bs:=if preB rst [35]=true then bt 1 (aa rst 1)else fg
def dY(rst:Bs):Bs:=if preB rst [35]=true then aa rst 1 else rst
theorem IA(r:RS):r.J4={r with hf:=dW r.rst r.hf,fg:=dX r.rst r.fg,rst:=dY r.rst}:=by
 unfold RS.J4 dW dX dY
 split<;>rfl
def qP:cr:=bP [(80,jS),(26,eW)]
def qQ(bp:Option Addr)(sc us pw:Bs)(hk:Int)(hs:Bs)(hn:Int)(hp:List Int)(port:Int)(opq pn:Bool)(pl:List Bs)(hq:Bool)(q:Bs)(hf:Bool)(fg:Bs)(bare sp:Bool)(rst:Bs):aY:=fun i=>none
theorem rP:cS Tryz.prog ay qP:=ai jT (ai dO (ax))
theorem xC(bp:Option Addr)(sc us pw:Bs)(hk:Int)(hs:Bs)(hn:Int)(hp:List Int)(port:Int)(opq pn:Bool)(pl:List Bs)(hq:Bool)(q:Bs)(hf:Bool)(fg:Bs)(bare sp:Bool)(rst:Bs)(k:PV→List PV→Prop):bL Tryz.prog qP ay (qQ bp sc us pw hk hs hn hp port opq pn pl hq q hf fg bare sp rst) 1000 Tryz.f92 [.ptr 0 0] [aC 1 (.raw (.pointer bp)) sc us pw hk hs hn hp port opq pn pl hq q hf fg bare sp rst] k=(
 True∧
 ((aj rst (ByteArray.mk #[35]).data.toList).2=true→
 (List.length (aj rst (ByteArray.mk #[35]).data.toList).1≤(300000:Nat)∧
 (0:Int)≤(1:Int)∧
 (1:Int)≤(6:Int))∧
 k (PV.tup []) [bS (PV.raw (Go.Value.pointer bp)) 1 sc us pw hk hs hn hp port opq pn pl hq q true (bt (1:Int) (aj rst (ByteArray.mk #[35]).data.toList).1) bare sp ((aj rst (ByteArray.mk #[35]).data.toList).1)])∧
 ((aj rst (ByteArray.mk #[35]).data.toList).2=false→
 k (PV.tup []) [bS (PV.raw (Go.Value.pointer bp)) 1 sc us pw hk hs hn hp port opq pn pl hq q hf fg bare sp ((aj rst (ByteArray.mk #[35]).data.toList).1)])):=by kernel_rfl
attribute [local irreducible] Go.Vc.cD Go.Vc.bL
theorem kC(bp:Option Addr)(sc us pw:Bs)(hk:Int)(hs:Bs)(hn:Int)(hp:List Int)(port:Int)(opq pn:Bool)(pl:List Bs)(hq:Bool)(q:Bs)(hf:Bool)(fg:Bs)(bare sp:Bool)(rst:Bs):bm Tryz.prog ay 92 [.ptr 0 0] [aC 1 (.raw (.pointer bp)) sc us pw hk hs hn hp port opq pn pl hq q hf fg bare sp rst] (rst.length≤300000) (.tup []) [aC 1 (.raw (.pointer bp)) sc us pw hk hs hn hp port opq pn pl hq q (dW rst hf) (dX rst fg) bare sp (dY rst)]:=bz (by kernel_rfl) rP (H:=qQ bp sc us pw hk hs hn hp port opq pn pl hq q hf fg bare sp rst) (fuel:=1000) Tryz.func92 (by kernel_rfl) (Nat.le_of_ble_eq_true rfl) fun hpre=>(xC bp sc us pw hk hs hn hp port opq pn pl hq q hf fg bare sp rst _).mpr (by
 have ed:(ByteArray.mk #[35]).data.toList=([35]:Bs):=rfl
 cases hc:preB rst [35]with
 |false=>
  have e1:aj rst (ByteArray.mk #[35]).data.toList=(rst,false):=by unfold aj;rw [ed,hc];rfl
  have e2:dW rst hf=hf∧dX rst fg=fg∧dY rst=rst:=by unfold dW dX dY;rw [hc];exact ⟨rfl,rfl,rfl⟩
  rw [e1,e2.1,e2.2.1,e2.2.2]
  exact ⟨trivial,fun h=>(by cases h),fun _=>⟨rfl,rfl⟩⟩
 |true=>
  have e1:aj rst (ByteArray.mk #[35]).data.toList=(aa rst 1,true):=by unfold aj;rw [ed,hc];rfl
  have e2:dW rst hf=true∧dX rst fg=bt 1 (aa rst 1)∧dY rst=aa rst 1:=⟨if_pos hc,if_pos hc,if_pos hc⟩
  have hl:(aa rst 1).length≤300000:=by unfold aa;rw [List.length_drop];omega
  rw [e1,e2.1,e2.2.1,e2.2.2]
  exact ⟨trivial,fun _=>⟨⟨hl,by omega,by omega⟩,rfl,rfl⟩,fun h=>(by cases h)⟩)
theorem xD(bp:Option Addr)(sc us pw:Bs)(hk:Int)(hs:Bs)(hn:Int)(hp:List Int)(port:Int)(opq pn:Bool)(pl:List Bs)(hq:Bool)(q:Bs)(hf:Bool)(fg:Bs)(bare sp:Bool)(rst:Bs):ag Tryz.prog ay 92 [.ptr 0 0,aC 1 (.raw (.pointer bp)) sc us pw hk hs hn hp port opq pn pl hq q hf fg bare sp rst] ⟨rst.length≤300000,.tup [.tup [],aC 1 (.raw (.pointer bp)) sc us pw hk hs hn hp port opq pn pl hq q (dW rst hf) (dX rst fg) bare sp (dY rst)]⟩:=ag.aZ (fun h=>by have e:List.isEmpty (PV.aA PV.bw [.ptr 0 0,aC 1 (.raw (.pointer bp)) sc us pw hk hs hn hp port opq pn pl hq q hf fg bare sp rst])=false:=(by kernel_rfl);exact Bool.noConfusion (e.symm.trans (congrArg List.isEmpty h))) (kC bp sc us pw hk hs hn hp port opq pn pl hq q hf fg bare sp rst)
def jg:List PV→Option aF:=fun xs=>match xs with
 |[.ptr 0 0,aC 1 (.raw (.pointer bp)) sc us pw hk hs hn hp port opq pn pl hq q hf fg bare sp rst]=>some ⟨rst.length≤300000,.tup [.tup [],aC 1 (.raw (.pointer bp)) sc us pw hk hs hn hp port opq pn pl hq q (dW rst hf) (dX rst fg) bare sp (dY rst)]⟩
 |_=>none
theorem oP:∀xs c,jg xs=some c→ag Tryz.prog ay 92 xs c:=fun xs c h=>by
 unfold jg at h
 split at h
 ·injection h with h;subst h;exact xD _ _ _ _ _ _ _ _ _ _ _ _ _ _ _ _ _ _ _
 ·cases h
end
section
def Bw:cr:=bP [(127,mD)]
def Bx(bp:Option Addr)(sc us pw:Bs)(hk:Int)(hs:Bs)(hn:Int)(hp:List Int)(port:Int)(opq pn:Bool)(pl:List Bs)(hq:Bool)(q:Bs)(hf:Bool)(fg:Bs)(bare sp:Bool)(rst:Bs)(p:Bs):aY:=fun i=>none
theorem zY:cS Tryz.prog ay Bw:=ai oA (ax)
theorem Ga(bp:Option Addr)(sc us pw:Bs)(hk:Int)(hs:Bs)(hn:Int)(hp:List Int)(port:Int)(opq pn:Bool)(pl:List Bs)(hq:Bool)(q:Bs)(hf:Bool)(fg:Bs)(bare sp:Bool)(rst:Bs)(p:Bs)(k:PV→List PV→Prop):bL Tryz.prog Bw ay (Bx bp sc us pw hk hs hn hp port opq pn pl hq q hf fg bare sp rst p) 1000 Tryz.f80 [.ptr 0 0,.str p] [aC 0 (.raw (.pointer bp)) sc us pw hk hs hn hp port opq pn pl hq q hf fg bare sp rst] k=(
 True∧
 k (PV.bool (aj rst p).2) [bS (PV.raw (Go.Value.pointer bp)) 0 sc us pw hk hs hn hp port opq pn pl hq q hf fg bare sp ((aj rst p).1)]):=by kernel_rfl
attribute [local irreducible] Go.Vc.cD Go.Vc.bL
theorem zZ(bp:Option Addr)(sc us pw:Bs)(hk:Int)(hs:Bs)(hn:Int)(hp:List Int)(port:Int)(opq pn:Bool)(pl:List Bs)(hq:Bool)(q:Bs)(hf:Bool)(fg:Bs)(bare sp:Bool)(rst:Bs)(p:Bs):bm Tryz.prog ay 80 [.ptr 0 0,.str p] [aC 0 (.raw (.pointer bp)) sc us pw hk hs hn hp port opq pn pl hq q hf fg bare sp rst] (True) (.bool (aj rst p).2) [aC 0 (.raw (.pointer bp)) sc us pw hk hs hn hp port opq pn pl hq q hf fg bare sp ((aj rst p).1)]:=bz (by kernel_rfl) zY (H:=Bx bp sc us pw hk hs hn hp port opq pn pl hq q hf fg bare sp rst p) (fuel:=1000) Tryz.func80 (by kernel_rfl) (Nat.le_of_ble_eq_true rfl) fun hpre=>(Ga bp sc us pw hk hs hn hp port opq pn pl hq q hf fg bare sp rst p _).mpr (by
 exact ⟨trivial,rfl,rfl⟩)
theorem Gb(bp:Option Addr)(sc us pw:Bs)(hk:Int)(hs:Bs)(hn:Int)(hp:List Int)(port:Int)(opq pn:Bool)(pl:List Bs)(hq:Bool)(q:Bs)(hf:Bool)(fg:Bs)(bare sp:Bool)(rst:Bs)(p:Bs):ag Tryz.prog ay 80 [.ptr 0 0,.str p,aC 0 (.raw (.pointer bp)) sc us pw hk hs hn hp port opq pn pl hq q hf fg bare sp rst] ⟨True,.tup [.bool (aj rst p).2,aC 0 (.raw (.pointer bp)) sc us pw hk hs hn hp port opq pn pl hq q hf fg bare sp ((aj rst p).1)]⟩:=ag.aZ (fun h=>by have e:List.isEmpty (PV.aA PV.bw [.ptr 0 0,.str p,aC 0 (.raw (.pointer bp)) sc us pw hk hs hn hp port opq pn pl hq q hf fg bare sp rst])=false:=(by kernel_rfl);exact Bool.noConfusion (e.symm.trans (congrArg List.isEmpty h))) (zZ bp sc us pw hk hs hn hp port opq pn pl hq q hf fg bare sp rst p)
def kk:List PV→Option aF:=fun xs=>match xs with
 |[.ptr 0 0,.str p,aC 0 (.raw (.pointer bp)) sc us pw hk hs hn hp port opq pn pl hq q hf fg bare sp rst]=>some ⟨True,.tup [.bool (aj rst p).2,aC 0 (.raw (.pointer bp)) sc us pw hk hs hn hp port opq pn pl hq q hf fg bare sp ((aj rst p).1)]⟩
 |_=>none
theorem mE:∀xs c,kk xs=some c→ag Tryz.prog ay 80 xs c:=fun xs c h=>by
 unfold kk at h
 split at h
 ·injection h with h;subst h;exact Gb _ _ _ _ _ _ _ _ _ _ _ _ _ _ _ _ _ _ _ _
 ·cases h
end
section
def By:cr:=bP []
def Bz(bp:Option Addr)(sc us pw:Bs)(hk:Int)(hs:Bs)(hn:Int)(hp:List Int)(port:Int)(opq pn:Bool)(pl:List Bs)(hq:Bool)(q:Bs)(hf:Bool)(fg:Bs)(bare sp:Bool)(rst:Bs)(z:Int):aY:=fun i=>none
theorem z6:cS Tryz.prog ay By:=ax
theorem Gc(bp:Option Addr)(sc us pw:Bs)(hk:Int)(hs:Bs)(hn:Int)(hp:List Int)(port:Int)(opq pn:Bool)(pl:List Bs)(hq:Bool)(q:Bs)(hf:Bool)(fg:Bs)(bare sp:Bool)(rst:Bs)(z:Int)(k:PV→List PV→Prop):bL Tryz.prog By ay (Bz bp sc us pw hk hs hn hp port opq pn pl hq q hf fg bare sp rst z) 1000 Tryz.f128 [.ptr 0 0,.int .i64 z] [aC 0 (.raw (.pointer bp)) sc us pw hk hs hn hp port opq pn pl hq q hf fg bare sp rst] k=(
 upto (0:Int) z (ak rst)∧
 upto z (ak rst) (ak rst)∧
 k (PV.str (ae rst z)) [bS (PV.raw (Go.Value.pointer bp)) 0 sc us pw hk hs hn hp port opq pn pl hq q hf fg bare sp (aa rst z)]):=by kernel_rfl
attribute [local irreducible] Go.Vc.cD Go.Vc.bL
theorem z7(bp:Option Addr)(sc us pw:Bs)(hk:Int)(hs:Bs)(hn:Int)(hp:List Int)(port:Int)(opq pn:Bool)(pl:List Bs)(hq:Bool)(q:Bs)(hf:Bool)(fg:Bs)(bare sp:Bool)(rst:Bs)(z:Int):bm Tryz.prog ay 128 [.ptr 0 0,.int .i64 z] [aC 0 (.raw (.pointer bp)) sc us pw hk hs hn hp port opq pn pl hq q hf fg bare sp rst] (0≤z∧z≤ak rst) (.str (ae rst z)) [aC 0 (.raw (.pointer bp)) sc us pw hk hs hn hp port opq pn pl hq q hf fg bare sp (aa rst z)]:=bz (by kernel_rfl) z6 (H:=Bz bp sc us pw hk hs hn hp port opq pn pl hq q hf fg bare sp rst z) (fuel:=1000) Tryz.func128 (by kernel_rfl) (Nat.le_of_ble_eq_true rfl) fun hpre=>(Gc bp sc us pw hk hs hn hp port opq pn pl hq q hf fg bare sp rst z _).mpr (by
 obtain ⟨h0,h1⟩:=hpre
 exact ⟨⟨by omega,h0,h1⟩,⟨h0,h1,Int.le_refl _⟩,rfl,rfl⟩)
theorem Gd(bp:Option Addr)(sc us pw:Bs)(hk:Int)(hs:Bs)(hn:Int)(hp:List Int)(port:Int)(opq pn:Bool)(pl:List Bs)(hq:Bool)(q:Bs)(hf:Bool)(fg:Bs)(bare sp:Bool)(rst:Bs)(z:Int):ag Tryz.prog ay 128 [.ptr 0 0,.int .i64 z,aC 0 (.raw (.pointer bp)) sc us pw hk hs hn hp port opq pn pl hq q hf fg bare sp rst] ⟨0≤z∧z≤ak rst,.tup [.str (ae rst z),aC 0 (.raw (.pointer bp)) sc us pw hk hs hn hp port opq pn pl hq q hf fg bare sp (aa rst z)]⟩:=ag.aZ (fun h=>by have e:List.isEmpty (PV.aA PV.bw [.ptr 0 0,.int .i64 z,aC 0 (.raw (.pointer bp)) sc us pw hk hs hn hp port opq pn pl hq q hf fg bare sp rst])=false:=(by kernel_rfl);exact Bool.noConfusion (e.symm.trans (congrArg List.isEmpty h))) (z7 bp sc us pw hk hs hn hp port opq pn pl hq q hf fg bare sp rst z)
def nI:List PV→Option aF:=fun xs=>match xs with
 |[.ptr 0 0,.int .i64 z,aC 0 (.raw (.pointer bp)) sc us pw hk hs hn hp port opq pn pl hq q hf fg bare sp rst]=>some ⟨0≤z∧z≤ak rst,.tup [.str (ae rst z),aC 0 (.raw (.pointer bp)) sc us pw hk hs hn hp port opq pn pl hq q hf fg bare sp (aa rst z)]⟩
 |_=>none
theorem va:∀xs c,nI xs=some c→ag Tryz.prog ay 128 xs c:=fun xs c h=>by
 unfold nI at h
 split at h
 ·injection h with h;subst h;exact Gd _ _ _ _ _ _ _ _ _ _ _ _ _ _ _ _ _ _ _ _
 ·cases h
end
section
def xE:cr:=bP [(80,kk),(128,nI),(129,gG),(26,eW)]
def xF(bp:Option Addr)(sc us pw:Bs)(hk:Int)(hs:Bs)(hn:Int)(hp:List Int)(port:Int)(opq pn:Bool)(pl:List Bs)(hq:Bool)(q:Bs)(hf:Bool)(fg:Bs)(bare sp:Bool)(rst:Bs):aY:=fun i=>none
theorem xG:cS Tryz.prog ay xE:=ai mE (ai va (ai fK (ai dO (ax))))
theorem Di(bp:Option Addr)(sc us pw:Bs)(hk:Int)(hs:Bs)(hn:Int)(hp:List Int)(port:Int)(opq pn:Bool)(pl:List Bs)(hq:Bool)(q:Bs)(hf:Bool)(fg:Bs)(bare sp:Bool)(rst:Bs)(k:PV→List PV→Prop):bL Tryz.prog xE ay (xF bp sc us pw hk hs hn hp port opq pn pl hq q hf fg bare sp rst) 1000 Tryz.f91 [.ptr 0 0] [aC 0 (.raw (.pointer bp)) sc us pw hk hs hn hp port opq pn pl hq q hf fg bare sp rst] k=(
 True∧
 ((!(aj rst (ByteArray.mk #[63]).data.toList).2)=true→
 k (PV.tup []) [bS (PV.raw (Go.Value.pointer bp)) 0 sc us pw hk hs hn hp port opq pn pl hq q hf fg bare sp ((aj rst (ByteArray.mk #[63]).data.toList).1)])∧
 ((!(aj rst (ByteArray.mk #[63]).data.toList).2)=false→
 (sp=true→
 (List.length (aj rst (ByteArray.mk #[63]).data.toList).1≤(1000000:Nat)∧
 (ByteArray.mk #[35]).data.toList.length≤(1000000:Nat)∧
 ∀(b:UInt8),b∈(ByteArray.mk #[35]).data.toList→
 b.toNat<(128:Nat))∧
 ((0:Int)≤↑(bg (aj rst (ByteArray.mk #[63]).data.toList).1 (ByteArray.mk #[35]).data.toList)∧
 ↑(bg (aj rst (ByteArray.mk #[63]).data.toList).1 (ByteArray.mk #[35]).data.toList)≤ak (aj rst (ByteArray.mk #[63]).data.toList).1)∧
 ((ae (aj rst (ByteArray.mk #[63]).data.toList).1 ↑(bg (aj rst (ByteArray.mk #[63]).data.toList).1 (ByteArray.mk #[35]).data.toList)).length≤(300000:Nat)∧
 (0:Int)≤(3:Int)∧
 (3:Int)≤(6:Int))∧
 k (PV.tup []) [bS (PV.raw (Go.Value.pointer bp)) 0 sc us pw hk hs hn hp port opq pn pl true (bt (3:Int) (ae (aj rst (ByteArray.mk #[63]).data.toList).1 ↑(bg (aj rst (ByteArray.mk #[63]).data.toList).1 (ByteArray.mk #[35]).data.toList))) hf fg bare sp (aa (aj rst (ByteArray.mk #[63]).data.toList).1 ↑(bg (aj rst (ByteArray.mk #[63]).data.toList).1 (ByteArray.mk #[35]).data.toList))])∧
 (sp=false→
 (List.length (aj rst (ByteArray.mk #[63]).data.toList).1≤(1000000:Nat)∧
 (ByteArray.mk #[35]).data.toList.length≤(1000000:Nat)∧
 ∀(b:UInt8),b∈(ByteArray.mk #[35]).data.toList→
 b.toNat<(128:Nat))∧
 ((0:Int)≤↑(bg (aj rst (ByteArray.mk #[63]).data.toList).1 (ByteArray.mk #[35]).data.toList)∧
 ↑(bg (aj rst (ByteArray.mk #[63]).data.toList).1 (ByteArray.mk #[35]).data.toList)≤ak (aj rst (ByteArray.mk #[63]).data.toList).1)∧
 ((ae (aj rst (ByteArray.mk #[63]).data.toList).1 ↑(bg (aj rst (ByteArray.mk #[63]).data.toList).1 (ByteArray.mk #[35]).data.toList)).length≤(300000:Nat)∧
 (0:Int)≤(2:Int)∧
 (2:Int)≤(6:Int))∧
 k (PV.tup []) [bS (PV.raw (Go.Value.pointer bp)) 0 sc us pw hk hs hn hp port opq pn pl true (bt (2:Int) (ae (aj rst (ByteArray.mk #[63]).data.toList).1 ↑(bg (aj rst (ByteArray.mk #[63]).data.toList).1 (ByteArray.mk #[35]).data.toList))) hf fg bare sp (aa (aj rst (ByteArray.mk #[63]).data.toList).1 ↑(bg (aj rst (ByteArray.mk #[63]).data.toList).1 (ByteArray.mk #[35]).data.toList))]))):=by kernel_rfl
attribute [local irreducible] Go.Vc.cD Go.Vc.bL
theorem xH(bp:Option Addr)(sc us pw:Bs)(hk:Int)(hs:Bs)(hn:Int)(hp:List Int)(port:Int)(opq pn:Bool)(pl:List Bs)(hq:Bool)(q:Bs)(hf:Bool)(fg:Bs)(bare sp:Bool)(rst:Bs):bm Tryz.prog ay 91 [.ptr 0 0] [aC 0 (.raw (.pointer bp)) sc us pw hk hs hn hp port opq pn pl hq q hf fg bare sp rst] (rst.length≤300000) (.tup []) [aC 0 (.raw (.pointer bp)) sc us pw hk hs hn hp port opq pn pl (dU rst hq) (dV sp rst q) hf fg bare sp (bH rst)]:=bz (by kernel_rfl) xG (H:=xF bp sc us pw hk hs hn hp port opq pn pl hq q hf fg bare sp rst) (fuel:=1000) Tryz.func91 (by kernel_rfl) (Nat.le_of_ble_eq_true rfl) fun hpre=>(Di bp sc us pw hk hs hn hp port opq pn pl hq q hf fg bare sp rst _).mpr (by
 have ec:(ByteArray.mk #[63]).data.toList=([63]:Bs):=rfl
 have ed:(ByteArray.mk #[35]).data.toList=([35]:Bs):=rfl
 have h35:∀b:UInt8,b∈(ByteArray.mk #[35]).data.toList→b.toNat<128:=by rw [ed];decide
 cases hc:preB rst [63]with
 |false=>
  have e1:aj rst (ByteArray.mk #[63]).data.toList=(rst,false):=by unfold aj;rw [ec,hc];rfl
  have e2:dU rst hq=hq∧dV sp rst q=q∧bH rst=rst:=by unfold dU dV bH;rw [hc];exact ⟨rfl,rfl,rfl⟩
  rw [e1,e2.1,e2.2.1,e2.2.2]
  exact ⟨trivial,fun _=>⟨rfl,rfl⟩,fun h=>by cases h⟩
 |true=>
  have e1:aj rst (ByteArray.mk #[63]).data.toList=(aa rst 1,true):=by unfold aj;rw [ec,hc];rfl
  have e2:dU rst hq=true∧dV sp rst q=bt (if sp=true then 3 else 2) (ae (aa rst 1) (xk (aa rst 1)))∧bH rst=aa (aa rst 1) (xk (aa rst 1)):=⟨if_pos hc,if_pos hc,if_pos hc⟩
  have hl:(aa rst 1).length≤300000:=by unfold aa;rw [List.length_drop];omega
  have hi:=fr (aa rst 1) (ByteArray.mk #[35]).data.toList
  have ht:(ae (aa rst 1) (bg (aa rst 1) (ByteArray.mk #[35]).data.toList:Int)).length≤300000:=by unfold ae;rw [List.length_take];omega
  rw [e1,e2.1,e2.2.1,e2.2.2]
  refine ⟨trivial,fun h=>(by cases h),fun _=>⟨fun hsp=>?_,fun hsp=>?_⟩⟩
  ·subst hsp
   exact ⟨⟨Nat.le_trans hl (by decide),by decide,h35⟩,⟨by omega,by unfold ak;exact Int.ofNat_le.2 hi⟩,⟨ht,by omega,by omega⟩,rfl,rfl⟩
  ·subst hsp
   exact ⟨⟨Nat.le_trans hl (by decide),by decide,h35⟩,⟨by omega,by unfold ak;exact Int.ofNat_le.2 hi⟩,⟨ht,by omega,by omega⟩,rfl,rfl⟩)
theorem Dj(bp:Option Addr)(sc us pw:Bs)(hk:Int)(hs:Bs)(hn:Int)(hp:List Int)(port:Int)(opq pn:Bool)(pl:List Bs)(hq:Bool)(q:Bs)(hf:Bool)(fg:Bs)(bare sp:Bool)(rst:Bs):ag Tryz.prog ay 91 [.ptr 0 0,aC 0 (.raw (.pointer bp)) sc us pw hk hs hn hp port opq pn pl hq q hf fg bare sp rst] ⟨rst.length≤300000,.tup [.tup [],aC 0 (.raw (.pointer bp)) sc us pw hk hs hn hp port opq pn pl (dU rst hq) (dV sp rst q) hf fg bare sp (bH rst)]⟩:=ag.aZ (fun h=>by have e:List.isEmpty (PV.aA PV.bw [.ptr 0 0,aC 0 (.raw (.pointer bp)) sc us pw hk hs hn hp port opq pn pl hq q hf fg bare sp rst])=false:=(by kernel_rfl);exact Bool.noConfusion (e.symm.trans (congrArg List.isEmpty h))) (xH bp sc us pw hk hs hn hp port opq pn pl hq q hf fg bare sp rst)
def lk:List PV→Option aF:=fun xs=>match xs with
 |[.ptr 0 0,aC 0 (.raw (.pointer bp)) sc us pw hk hs hn hp port opq pn pl hq q hf fg bare sp rst]=>some ⟨rst.length≤300000,.tup [.tup [],aC 0 (.raw (.pointer bp)) sc us pw hk hs hn hp port opq pn pl (dU rst hq) (dV sp rst q) hf fg bare sp (bH rst)]⟩
 |_=>none
theorem rQ:∀xs c,lk xs=some c→ag Tryz.prog ay 91 xs c:=fun xs c h=>by
 unfold lk at h
 split at h
 ·injection h with h;subst h;exact Dj _ _ _ _ _ _ _ _ _ _ _ _ _ _ _ _ _ _ _
 ·cases h
end
section
def oC:cr:=bP [(80,kk),(26,eW)]
def oD(bp:Option Addr)(sc us pw:Bs)(hk:Int)(hs:Bs)(hn:Int)(hp:List Int)(port:Int)(opq pn:Bool)(pl:List Bs)(hq:Bool)(q:Bs)(hf:Bool)(fg:Bs)(bare sp:Bool)(rst:Bs):aY:=fun i=>none
theorem qR:cS Tryz.prog ay oC:=ai mE (ai dO (ax))
theorem vc(bp:Option Addr)(sc us pw:Bs)(hk:Int)(hs:Bs)(hn:Int)(hp:List Int)(port:Int)(opq pn:Bool)(pl:List Bs)(hq:Bool)(q:Bs)(hf:Bool)(fg:Bs)(bare sp:Bool)(rst:Bs)(k:PV→List PV→Prop):bL Tryz.prog oC ay (oD bp sc us pw hk hs hn hp port opq pn pl hq q hf fg bare sp rst) 1000 Tryz.f92 [.ptr 0 0] [aC 0 (.raw (.pointer bp)) sc us pw hk hs hn hp port opq pn pl hq q hf fg bare sp rst] k=(
 True∧
 ((aj rst (ByteArray.mk #[35]).data.toList).2=true→
 (List.length (aj rst (ByteArray.mk #[35]).data.toList).1≤(300000:Nat)∧
 (0:Int)≤(1:Int)∧
 (1:Int)≤(6:Int))∧
 k (PV.tup []) [bS (PV.raw (Go.Value.pointer bp)) 0 sc us pw hk hs hn hp port opq pn pl hq q true (bt (1:Int) (aj rst (ByteArray.mk #[35]).data.toList).1) bare sp ((aj rst (ByteArray.mk #[35]).data.toList).1)])∧
 ((aj rst (ByteArray.mk #[35]).data.toList).2=false→
 k (PV.tup []) [bS (PV.raw (Go.Value.pointer bp)) 0 sc us pw hk hs hn hp port opq pn pl hq q hf fg bare sp ((aj rst (ByteArray.mk #[35]).data.toList).1)])):=by kernel_rfl
attribute [local irreducible] Go.Vc.cD Go.Vc.bL
theorem qS(bp:Option Addr)(sc us pw:Bs)(hk:Int)(hs:Bs)(hn:Int)(hp:List Int)(port:Int)(opq pn:Bool)(pl:List Bs)(hq:Bool)(q:Bs)(hf:Bool)(fg:Bs)(bare sp:Bool)(rst:Bs):bm Tryz.prog ay 92 [.ptr 0 0] [aC 0 (.raw (.pointer bp)) sc us pw hk hs hn hp port opq pn pl hq q hf fg bare sp rst] (rst.length≤300000) (.tup []) [aC 0 (.raw (.pointer bp)) sc us pw hk hs hn hp port opq pn pl hq q (dW rst hf) (dX rst fg) bare sp (dY rst)]:=bz (by kernel_rfl) qR (H:=oD bp sc us pw hk hs hn hp port opq pn pl hq q hf fg bare sp rst) (fuel:=1000) Tryz.func92 (by kernel_rfl) (Nat.le_of_ble_eq_true rfl) fun hpre=>(vc bp sc us pw hk hs hn hp port opq pn pl hq q hf fg bare sp rst _).mpr (by
 have ed:(ByteArray.mk #[35]).data.toList=([35]:Bs):=rfl
 cases hc:preB rst [35]with
 |false=>
  have e1:aj rst (ByteArray.mk #[35]).data.toList=(rst,false):=by unfold aj;rw [ed,hc];rfl
  have e2:dW rst hf=hf∧dX rst fg=fg∧dY rst=rst:=by unfold dW dX dY;rw [hc];exact ⟨rfl,rfl,rfl⟩
  rw [e1,e2.1,e2.2.1,e2.2.2]
  exact ⟨trivial,fun h=>(by cases h),fun _=>⟨rfl,rfl⟩⟩
 |true=>
  have e1:aj rst (ByteArray.mk #[35]).data.toList=(aa rst 1,true):=by unfold aj;rw [ed,hc];rfl
  have e2:dW rst hf=true∧dX rst fg=bt 1 (aa rst 1)∧dY rst=aa rst 1:=⟨if_pos hc,if_pos hc,if_pos hc⟩
  have hl:(aa rst 1).length≤300000:=by unfold aa;rw [List.length_drop];omega
  rw [e1,e2.1,e2.2.1,e2.2.2]
  exact ⟨trivial,fun _=>⟨⟨hl,by omega,by omega⟩,rfl,rfl⟩,fun h=>(by cases h)⟩)
theorem vd(bp:Option Addr)(sc us pw:Bs)(hk:Int)(hs:Bs)(hn:Int)(hp:List Int)(port:Int)(opq pn:Bool)(pl:List Bs)(hq:Bool)(q:Bs)(hf:Bool)(fg:Bs)(bare sp:Bool)(rst:Bs):ag Tryz.prog ay 92 [.ptr 0 0,aC 0 (.raw (.pointer bp)) sc us pw hk hs hn hp port opq pn pl hq q hf fg bare sp rst] ⟨rst.length≤300000,.tup [.tup [],aC 0 (.raw (.pointer bp)) sc us pw hk hs hn hp port opq pn pl hq q (dW rst hf) (dX rst fg) bare sp (dY rst)]⟩:=ag.aZ (fun h=>by have e:List.isEmpty (PV.aA PV.bw [.ptr 0 0,aC 0 (.raw (.pointer bp)) sc us pw hk hs hn hp port opq pn pl hq q hf fg bare sp rst])=false:=(by kernel_rfl);exact Bool.noConfusion (e.symm.trans (congrArg List.isEmpty h))) (qS bp sc us pw hk hs hn hp port opq pn pl hq q hf fg bare sp rst)
def ia:List PV→Option aF:=fun xs=>match xs with
 |[.ptr 0 0,aC 0 (.raw (.pointer bp)) sc us pw hk hs hn hp port opq pn pl hq q hf fg bare sp rst]=>some ⟨rst.length≤300000,.tup [.tup [],aC 0 (.raw (.pointer bp)) sc us pw hk hs hn hp port opq pn pl hq q (dW rst hf) (dX rst fg) bare sp (dY rst)]⟩
 |_=>none
theorem nJ:∀xs c,ia xs=some c→ag Tryz.prog ay 92 xs c:=fun xs c h=>by
 unfold ia at h
 split at h
 ·injection h with h;subst h;exact vd _ _ _ _ _ _ _ _ _ _ _ _ _ _ _ _ _ _ _
 ·cases h
end
section
def tt:cr:=bP [(119,mq),(27,dM)]
def tu(sc us pw:Bs)(hk:Int)(hs:Bs)(hn:Int)(hp:List Int)(port:Int)(opq pn:Bool)(pl:List Bs)(hq:Bool)(q:Bs)(hf:Bool)(fg:Bs)(bare sp:Bool)(rst:Bs):aY:=fun i=>none
theorem ve:cS Tryz.prog ay tt:=ai ou (ai dN (ax))
theorem Aa(sc us pw:Bs)(hk:Int)(hs:Bs)(hn:Int)(hp:List Int)(port:Int)(opq pn:Bool)(pl:List Bs)(hq:Bool)(q:Bs)(hf:Bool)(fg:Bs)(bare sp:Bool)(rst:Bs)(k:PV→List PV→Prop):bL Tryz.prog tt ay (tu sc us pw hk hs hn hp port opq pn pl hq q hf fg bare sp rst) 1000 Tryz.f75 [.ptr 0 0] [aC 1 (.raw (.pointer none)) sc us pw hk hs hn hp port opq pn pl hq q hf fg bare sp rst] k=(
 (List.length rst≤(300000:Nat)∧
 (ab rst rst (0:Nat)).2.2=false)∧
 (false=true→
 True∧
 ((!false)=true→
 False)∧
 ((!false)=true→
 False)∧
 ((!false)=true→
 False)∧
 False)∧
 (false=false→
 (true=true→
 (true=true→
 k (PV.int .i64 (8:Int)) [bS (PV.raw (Go.Value.pointer none)) 1 sc us pw hk hs hn hp port opq pn pl hq q hf fg bare sp rst])∧
 (true=false→
 False))∧
 (true=false→
 False))):=by kernel_rfl
attribute [local irreducible] Go.Vc.cD Go.Vc.bL
theorem vf(sc us pw:Bs)(hk:Int)(hs:Bs)(hn:Int)(hp:List Int)(port:Int)(opq pn:Bool)(pl:List Bs)(hq:Bool)(q:Bs)(hf:Bool)(fg:Bs)(bare sp:Bool)(rst:Bs):bm Tryz.prog ay 75 [.ptr 0 0] [aC 1 (.raw (.pointer none)) sc us pw hk hs hn hp port opq pn pl hq q hf fg bare sp rst] (rst.length≤300000∧(ab rst rst 0).2.2=false) (.int .i64 8) [aC 1 (.raw (.pointer none)) sc us pw hk hs hn hp port opq pn pl hq q hf fg bare sp rst]:=bz (by kernel_rfl) ve (H:=tu sc us pw hk hs hn hp port opq pn pl hq q hf fg bare sp rst) (fuel:=1000) Tryz.func75 (by kernel_rfl) (Nat.le_of_ble_eq_true rfl) fun hpre=>(Aa sc us pw hk hs hn hp port opq pn pl hq q hf fg bare sp rst _).mpr (by
 exact ⟨hpre,fun h=>(by cases h),fun _=>⟨fun _=>⟨fun _=>⟨rfl,rfl⟩,fun h=>(by cases h)⟩,fun h=>(by cases h)⟩⟩)
theorem Ab(sc us pw:Bs)(hk:Int)(hs:Bs)(hn:Int)(hp:List Int)(port:Int)(opq pn:Bool)(pl:List Bs)(hq:Bool)(q:Bs)(hf:Bool)(fg:Bs)(bare sp:Bool)(rst:Bs):ag Tryz.prog ay 75 [.ptr 0 0,aC 1 (.raw (.pointer none)) sc us pw hk hs hn hp port opq pn pl hq q hf fg bare sp rst] ⟨rst.length≤300000∧(ab rst rst 0).2.2=false,.tup [.int .i64 8,aC 1 (.raw (.pointer none)) sc us pw hk hs hn hp port opq pn pl hq q hf fg bare sp rst]⟩:=ag.aZ (fun h=>by have e:List.isEmpty (PV.aA PV.bw [.ptr 0 0,aC 1 (.raw (.pointer none)) sc us pw hk hs hn hp port opq pn pl hq q hf fg bare sp rst])=false:=(by kernel_rfl);exact Bool.noConfusion (e.symm.trans (congrArg List.isEmpty h))) (vf sc us pw hk hs hn hp port opq pn pl hq q hf fg bare sp rst)
def jU:List PV→Option aF:=fun xs=>match xs with
 |[.ptr 0 0,aC 1 (.raw (.pointer none)) sc us pw hk hs hn hp port opq pn pl hq q hf fg bare sp rst]=>some ⟨rst.length≤300000∧(ab rst rst 0).2.2=false,.tup [.int .i64 8,aC 1 (.raw (.pointer none)) sc us pw hk hs hn hp port opq pn pl hq q hf fg bare sp rst]⟩
 |_=>none
theorem qT:∀xs c,jU xs=some c→ag Tryz.prog ay 75 xs c:=fun xs c h=>by
 unfold jU at h
 split at h
 ·injection h with h;subst h;exact Ab _ _ _ _ _ _ _ _ _ _ _ _ _ _ _ _ _ _
 ·cases h
end
section
def xI:cr:=bP [(75,jU),(77,gv),(78,cX)]
def xJ(sc us pw:Bs)(hk:Int)(hs:Bs)(hn:Int)(hp:List Int)(port:Int)(pn:Bool)(pl:List Bs)(hq:Bool)(q:Bs)(hf:Bool)(fg:Bs)(bare sp:Bool)(rst:Bs):aY:=fun i=>none
theorem xK:cS Tryz.prog ay xI:=ai qT (ai gj (ai cH (ax)))
theorem Dk(sc us pw:Bs)(hk:Int)(hs:Bs)(hn:Int)(hp:List Int)(port:Int)(pn:Bool)(pl:List Bs)(hq:Bool)(q:Bs)(hf:Bool)(fg:Bs)(bare sp:Bool)(rst:Bs)(k:PV→List PV→Prop):bL Tryz.prog xI ay (xJ sc us pw hk hs hn hp port pn pl hq q hf fg bare sp rst) 1000 Tryz.f47 [.ptr 0 0] [aC 1 (.raw (.pointer none)) sc us pw hk hs hn hp port false pn pl hq q hf fg bare sp rst] k=(
 (List.length rst≤(300000:Nat)∧
 (ab rst rst (0:Nat)).2.2=false)∧
 ((!decide ((8:Int)=(0:Int)))=true→
 k (PV.int .i64 (8:Int)) [bS (PV.raw (Go.Value.pointer none)) 1 sc us pw hk hs hn hp port false pn pl hq q hf fg bare sp rst])∧
 ((!decide ((8:Int)=(0:Int)))=false→
 (false=true→
 False)∧
 (false=false→
 (decide (sc=(ByteArray.mk #[102,105,108,101]).data.toList)=true→
 False)∧
 (decide (sc=(ByteArray.mk #[102,105,108,101]).data.toList)=false→
 (bare=false→
 (sp=true→
 True∧
 (false=false→
 false=true→
 True)∧
 (false=true→
 False)∧
 (false=false→
 (sp=true→
 False)∧
 (sp=false→
 False)))∧
 (sp=!true→
 (false=false→
 false=true→
 True)∧
 (false=true→
 False)∧
 (false=false→
 (sp=true→
 False)∧
 (sp=false→
 False))))∧
 (bare=!false→
 ((!false)=false→
 false=true→
 True)∧
 (true=true→
 False)∧
 (true=false→
 (sp=true→
 False)∧
 (sp=false→
 False))))))):=by kernel_rfl
attribute [local irreducible] Go.Vc.cD Go.Vc.bL
theorem xL(sc us pw:Bs)(hk:Int)(hs:Bs)(hn:Int)(hp:List Int)(port:Int)(pn:Bool)(pl:List Bs)(hq:Bool)(q:Bs)(hf:Bool)(fg:Bs)(bare sp:Bool)(rst:Bs):bm Tryz.prog ay 47 [.ptr 0 0] [aC 1 (.raw (.pointer none)) sc us pw hk hs hn hp port false pn pl hq q hf fg bare sp rst] (rst.length≤300000∧(ab rst rst 0).2.2=false) (.int .i64 (RS.mk sc us pw hk hs hn hp port false pn pl hq q hf fg bare sp rst).ao.2) [aC 0 (.raw (.pointer none)) ((RS.mk sc us pw hk hs hn hp port false pn pl hq q hf fg bare sp rst).ao.1.sc) ((RS.mk sc us pw hk hs hn hp port false pn pl hq q hf fg bare sp rst).ao.1.us) ((RS.mk sc us pw hk hs hn hp port false pn pl hq q hf fg bare sp rst).ao.1.pw) ((RS.mk sc us pw hk hs hn hp port false pn pl hq q hf fg bare sp rst).ao.1.hk) ((RS.mk sc us pw hk hs hn hp port false pn pl hq q hf fg bare sp rst).ao.1.hs) ((RS.mk sc us pw hk hs hn hp port false pn pl hq q hf fg bare sp rst).ao.1.hn) ((RS.mk sc us pw hk hs hn hp port false pn pl hq q hf fg bare sp rst).ao.1.hp) ((RS.mk sc us pw hk hs hn hp port false pn pl hq q hf fg bare sp rst).ao.1.port) ((RS.mk sc us pw hk hs hn hp port false pn pl hq q hf fg bare sp rst).ao.1.opq) ((RS.mk sc us pw hk hs hn hp port false pn pl hq q hf fg bare sp rst).ao.1.pn) ((RS.mk sc us pw hk hs hn hp port false pn pl hq q hf fg bare sp rst).ao.1.pl) ((RS.mk sc us pw hk hs hn hp port false pn pl hq q hf fg bare sp rst).ao.1.hq) ((RS.mk sc us pw hk hs hn hp port false pn pl hq q hf fg bare sp rst).ao.1.q) ((RS.mk sc us pw hk hs hn hp port false pn pl hq q hf fg bare sp rst).ao.1.hf) ((RS.mk sc us pw hk hs hn hp port false pn pl hq q hf fg bare sp rst).ao.1.fg) ((RS.mk sc us pw hk hs hn hp port false pn pl hq q hf fg bare sp rst).ao.1.bare) ((RS.mk sc us pw hk hs hn hp port false pn pl hq q hf fg bare sp rst).ao.1.sp) ((RS.mk sc us pw hk hs hn hp port false pn pl hq q hf fg bare sp rst).ao.1.rst)]:=ui (by kernel_rfl) xK (H:=xJ sc us pw hk hs hn hp port pn pl hq q hf fg bare sp rst) (fuel:=1000) Tryz.func47 (by kernel_rfl) (Nat.le_of_ble_eq_true rfl) fun hpre=>(Dk sc us pw hk hs hn hp port pn pl hq q hf fg bare sp rst _).mpr (by
 have e:(RS.mk sc us pw hk hs hn hp port false pn pl hq q hf fg bare sp rst).ao=((RS.mk sc us pw hk hs hn hp port false pn pl hq q hf fg bare sp rst),8):=by
  unfold RS.ao
  rw [show(RS.mk sc us pw hk hs hn hp port false pn pl hq q hf fg bare sp rst).gh=((RS.mk sc us pw hk hs hn hp port false pn pl hq q hf fg bare sp rst),8)from if_neg (by show ¬(ab rst rst 0).2.2=true;rw [hpre.2];decide)]
  rfl
 rw [e]
 exact ⟨hpre,fun _=>⟨rfl,rfl⟩,fun h=>absurd h (by decide)⟩)
end
def tw(l:Bs):Bool:=decide (l=[])||decide (al l 0=35)
def RS.KO(x b:RS):RS:={x with hk:=b.hk,hs:=b.hs,hn:=b.hn,hp:=b.hp}
def RS.KP(x b:RS):RS:={x with pn:=b.pn,pl:=b.pl}
def RS.Ge(x b:RS):RS:={x with hq:=b.hq,q:=b.q}
def RS.qU(x b:RS):RS:=if tw x.rst=true then x.Ge b else x
def RS.short(x:RS):RS:={x with pn:=(b5 x.sc (x.pn,x.pl)).1,pl:=(b5 x.sc (x.pn,x.pl)).2}
def RS.cc(x b:RS):RS:=(((RS.KO {x with hk:=1} b).KP b).short).path
def RS.au(x b:RS):RS:=(RS.cc {x with sc:=b.sc,bare:=true,sp:=aw b.sc} b).tail
theorem Kc(l:Bs):ag Tryz.prog ay 156 [.str l] ⟨l.length≤1000000,.bool (br l)⟩:=
 ag.b4 Tryz.func156 (by kernel_rfl) rfl fun h0 F w vs _ _ hw hx=>by
  obtain ⟨_,_,rfl,r1,rfl⟩:=hx
  obtain rfl:=r1
  exact ⟨.bool (br l),(y5 l w h0).mono fun e w' ⟨h1,h2⟩=>⟨h1,h2▸Below.refl _ _⟩,fun G w=>rfl⟩
def vg:List PV→Option aF:=fun xs=>match xs with
 |[.str l]=>some ⟨l.length≤1000000,.bool (br l)⟩
 |_=>none
theorem Ac:∀xs c,vg xs=some c→ag Tryz.prog ay 156 xs c:=fun xs c h=>by
 unfold vg at h
 split at h
 ·injection h with h;subst h;exact Kc _
 ·cases h
section
def tz:cr:=bP [(119,mq),(27,dM),(78,cX)]
def tC(sc us pw:Bs)(hk:Int)(hs:Bs)(hn:Int)(hp:List Int)(port:Int)(opq pn:Bool)(pl:List Bs)(hq:Bool)(q:Bs)(hf:Bool)(fg:Bs)(bare sp:Bool)(rst:Bs)(bsc bus bpw:Bs)(bhk:Int)(bhs:Bs)(bhn:Int)(bhp:List Int)(bport:Int)(bopq bpn:Bool)(bpl:List Bs)(bhq:Bool)(bq:Bs)(bhf:Bool)(bfg:Bs):aY:=fun i=>none
theorem vh:cS Tryz.prog ay tz:=ai ou (ai dN (ai cH (ax)))
theorem Ad(sc us pw:Bs)(hk:Int)(hs:Bs)(hn:Int)(hp:List Int)(port:Int)(opq pn:Bool)(pl:List Bs)(hq:Bool)(q:Bs)(hf:Bool)(fg:Bs)(bare sp:Bool)(rst:Bs)(bsc bus bpw:Bs)(bhk:Int)(bhs:Bs)(bhn:Int)(bhp:List Int)(bport:Int)(bopq bpn:Bool)(bpl:List Bs)(bhq:Bool)(bq:Bs)(bhf:Bool)(bfg:Bs)(k:PV→List PV→Prop):bL Tryz.prog tz ay (tC sc us pw hk hs hn hp port opq pn pl hq q hf fg bare sp rst bsc bus bpw bhk bhs bhn bhp bport bopq bpn bpl bhq bq bhf bfg) 1000 Tryz.f75 [.ptr 0 0] [aC 1 (.ptr 1 0) sc us pw hk hs hn hp port opq pn pl hq q hf fg bare sp rst,bD 0 bsc bus bpw bhk bhs bhn bhp bport bopq bpn bpl bhq bq bhf bfg] k=(
 (List.length rst≤(300000:Nat)∧
 (ab rst rst (0:Nat)).2.2=false)∧
 (false=true→
 True∧
 (bopq=true→
 False)∧
 (bopq=false→
 k (PV.int .i64 (0:Int)) [bS (PV.ptr (1:Nat) (0:Nat)) 1 ((ab rst rst (0:Nat)).1) us pw hk hs hn hp port opq pn pl hq q hf fg (!false) (aw (ab rst rst (0:Nat)).1) ((ab rst rst (0:Nat)).2.1),bD (0:Nat) bsc bus bpw bhk bhs bhn bhp bport bopq bpn bpl bhq bq bhf bfg]))∧
 (false=false→
 (false=true→
 (false=true→
 k (PV.int .i64 (8:Int)) [bS (PV.ptr (1:Nat) (0:Nat)) 1 sc us pw hk hs hn hp port opq pn pl hq q hf fg bare sp rst,bD (0:Nat) bsc bus bpw bhk bhs bhn bhp bport bopq bpn bpl bhq bq bhf bfg])∧
 (false=false→
 True∧
 (bopq=true→
 False)∧
 (bopq=false→
 k (PV.int .i64 (0:Int)) [bS (PV.ptr (1:Nat) (0:Nat)) 1 bsc us pw hk hs hn hp port opq pn pl hq q hf fg (!false) (aw bsc) rst,bD (0:Nat) bsc bus bpw bhk bhs bhn bhp bport bopq bpn bpl bhq bq bhf bfg])))∧
 (false=false→
 (bopq=true→
 True)∧
 ((bif bopq then !preB rst (ByteArray.mk #[35]).data.toList else false)=true→
 k (PV.int .i64 (8:Int)) [bS (PV.ptr (1:Nat) (0:Nat)) 1 sc us pw hk hs hn hp port opq pn pl hq q hf fg bare sp rst,bD (0:Nat) bsc bus bpw bhk bhs bhn bhp bport bopq bpn bpl bhq bq bhf bfg])∧
 ((bif bopq then !preB rst (ByteArray.mk #[35]).data.toList else false)=false→
 True∧
 (bopq=true→
 False)∧
 (bopq=false→
 k (PV.int .i64 (0:Int)) [bS (PV.ptr (1:Nat) (0:Nat)) 1 bsc us pw hk hs hn hp port opq pn pl hq q hf fg (!false) (aw bsc) rst,bD (0:Nat) bsc bus bpw bhk bhs bhn bhp bport bopq bpn bpl bhq bq bhf bfg]))))):=by kernel_rfl
attribute [local irreducible] Go.Vc.cD Go.Vc.bL
theorem vi(sc us pw:Bs)(hk:Int)(hs:Bs)(hn:Int)(hp:List Int)(port:Int)(opq pn:Bool)(pl:List Bs)(hq:Bool)(q:Bs)(hf:Bool)(fg:Bs)(bare sp:Bool)(rst:Bs)(bsc bus bpw:Bs)(bhk:Int)(bhs:Bs)(bhn:Int)(bhp:List Int)(bport:Int)(bopq bpn:Bool)(bpl:List Bs)(bhq:Bool)(bq:Bs)(bhf:Bool)(bfg:Bs):bm Tryz.prog ay 75 [.ptr 0 0] [aC 1 (.ptr 1 0) sc us pw hk hs hn hp port opq pn pl hq q hf fg bare sp rst,bD 0 bsc bus bpw bhk bhs bhn bhp bport bopq bpn bpl bhq bq bhf bfg] (rst.length≤300000∧(ab rst rst 0).2.2=false∧bopq=false) (.int .i64 0) [aC 1 (.ptr 1 0) bsc us pw hk hs hn hp port opq pn pl hq q hf fg true (aw bsc) rst,bD 0 bsc bus bpw bhk bhs bhn bhp bport bopq bpn bpl bhq bq bhf bfg]:=bz (by kernel_rfl) vh (H:=tC sc us pw hk hs hn hp port opq pn pl hq q hf fg bare sp rst bsc bus bpw bhk bhs bhn bhp bport bopq bpn bpl bhq bq bhf bfg) (fuel:=1000) Tryz.func75 (by kernel_rfl) (Nat.le_of_ble_eq_true rfl) fun hpre=>(Ad sc us pw hk hs hn hp port opq pn pl hq q hf fg bare sp rst bsc bus bpw bhk bhs bhn bhp bport bopq bpn bpl bhq bq bhf bfg _).mpr (by
 obtain ⟨h1,h2,rfl⟩:=hpre
 exact ⟨⟨h1,h2⟩,nofun,fun _=>⟨nofun,fun _=>⟨nofun,nofun,fun _=>⟨trivial,nofun,fun _=>⟨rfl,rfl⟩⟩⟩⟩⟩)
theorem Ae(sc us pw:Bs)(hk:Int)(hs:Bs)(hn:Int)(hp:List Int)(port:Int)(opq pn:Bool)(pl:List Bs)(hq:Bool)(q:Bs)(hf:Bool)(fg:Bs)(bare sp:Bool)(rst:Bs)(bsc bus bpw:Bs)(bhk:Int)(bhs:Bs)(bhn:Int)(bhp:List Int)(bport:Int)(bopq bpn:Bool)(bpl:List Bs)(bhq:Bool)(bq:Bs)(bhf:Bool)(bfg:Bs):ag Tryz.prog ay 75 [.ptr 0 0,aC 1 (.ptr 1 0) sc us pw hk hs hn hp port opq pn pl hq q hf fg bare sp rst,bD 0 bsc bus bpw bhk bhs bhn bhp bport bopq bpn bpl bhq bq bhf bfg] ⟨rst.length≤300000∧(ab rst rst 0).2.2=false∧bopq=false,.tup [.int .i64 0,aC 1 (.ptr 1 0) bsc us pw hk hs hn hp port opq pn pl hq q hf fg true (aw bsc) rst,bD 0 bsc bus bpw bhk bhs bhn bhp bport bopq bpn bpl bhq bq bhf bfg]⟩:=ag.aZ (fun h=>by have e:List.isEmpty (PV.aA PV.bw [.ptr 0 0,aC 1 (.ptr 1 0) sc us pw hk hs hn hp port opq pn pl hq q hf fg bare sp rst,bD 0 bsc bus bpw bhk bhs bhn bhp bport bopq bpn bpl bhq bq bhf bfg])=false:=(by kernel_rfl);exact Bool.noConfusion (e.symm.trans (congrArg List.isEmpty h))) (vi sc us pw hk hs hn hp port opq pn pl hq q hf fg bare sp rst bsc bus bpw bhk bhs bhn bhp bport bopq bpn bpl bhq bq bhf bfg)
def jV:List PV→Option aF:=fun xs=>match xs with
 |[.ptr 0 0,aC 1 (.ptr 1 0) sc us pw hk hs hn hp port opq pn pl hq q hf fg bare sp rst,bD 0 bsc bus bpw bhk bhs bhn bhp bport bopq bpn bpl bhq bq bhf bfg]=>some ⟨rst.length≤300000∧(ab rst rst 0).2.2=false∧bopq=false,.tup [.int .i64 0,aC 1 (.ptr 1 0) bsc us pw hk hs hn hp port opq pn pl hq q hf fg true (aw bsc) rst,bD 0 bsc bus bpw bhk bhs bhn bhp bport bopq bpn bpl bhq bq bhf bfg]⟩
 |_=>none
theorem qV:∀xs c,jV xs=some c→ag Tryz.prog ay 75 xs c:=fun xs c h=>by
 unfold jV at h
 split at h
 ·injection h with h;subst h;exact Ae _ _ _ _ _ _ _ _ _ _ _ _ _ _ _ _ _ _ _ _ _ _ _ _ _ _ _ _ _ _ _ _ _
 ·cases h
end
section
attribute [local instance] Kj
theorem eE(bp:Option Addr):ofRaw bp (.raw (.pointer bp))=.ptr 1 0:=by unfold ofRaw;exact if_pos rfl
theorem Dl(sc us pw:Bs)(hk:Int)(hs:Bs)(hn:Int)(hp:List Int)(port:Int)(opq pn:Bool)(pl:List Bs)(hq:Bool)(q:Bs)(hf:Bool)(fg:Bs)(bare sp:Bool)(rst:Bs)(at_:Int)(bsc bus bpw:Bs)(bhk:Int)(bhs:Bs)(bhn:Int)(bhp:List Int)(bport:Int)(bopq bpn:Bool)(bpl:List Bs)(bhq:Bool)(bq:Bs)(bhf:Bool)(bfg:Bs):ag Tryz.prog ay 82 [.ptr 0 0,.int .i64 at_,aC 1 (.ptr 1 0) sc us pw hk hs hn hp port opq pn pl hq q hf fg bare sp rst,bD 0 bsc bus bpw bhk bhs bhn bhp bport bopq bpn bpl bhq bq bhf bfg] ⟨0≤at_∧at_<1000,.tup [.bool (az sp rst at_),aC 1 (.ptr 1 0) sc us pw hk hs hn hp port opq pn pl hq q hf fg bare sp rst,bD 0 bsc bus bpw bhk bhs bhn bhp bport bopq bpn bpl bhq bq bhf bfg]⟩:=
 ag.aZ (fun h=>by have e:List.isEmpty (PV.aA PV.bw [.ptr 0 0,.int .i64 at_,aC 1 (.ptr 1 0) sc us pw hk hs hn hp port opq pn pl hq q hf fg bare sp rst,bD 0 bsc bus bpw bhk bhs bhn bhp bport bopq bpn bpl bhq bq bhf bfg])=false:=(by kernel_rfl);exact Bool.noConfusion (e.symm.trans (congrArg List.isEmpty h)))
  (eC (fun bp=>(aC 1 (.raw (.pointer bp)) sc us pw hk hs hn hp port opq pn pl hq q hf fg bare sp rst)) (fun bp=>(aC 1 (.raw (.pointer bp)) sc us pw hk hs hn hp port opq pn pl hq q hf fg bare sp rst)) (fun bp=>qA bp sc us pw hk hs hn hp port opq pn pl hq q hf fg bare sp rst at_) (fun bp=>rfl) (fun bp=>by
    show PV.agg [_,ofRaw bp (.raw (.pointer bp)),_,_,_]=_
    rw [eE];rfl) (fun bp=>rfl) rfl)
theorem rR(sc us pw:Bs)(hk:Int)(hs:Bs)(hn:Int)(hp:List Int)(port:Int)(opq pn:Bool)(pl:List Bs)(hq:Bool)(q:Bs)(hf:Bool)(fg:Bs)(bare sp:Bool)(rst:Bs)(bsc bus bpw:Bs)(bhk:Int)(bhs:Bs)(bhn:Int)(bhp:List Int)(bport:Int)(bopq bpn:Bool)(bpl:List Bs)(bhq:Bool)(bq:Bs)(bhf:Bool)(bfg:Bs):ag Tryz.prog ay 84 [.ptr 0 0,aC 1 (.ptr 1 0) sc us pw hk hs hn hp port opq pn pl hq q hf fg bare sp rst,bD 0 bsc bus bpw bhk bhs bhn bhp bport bopq bpn bpl bhq bq bhf bfg] ⟨True,.tup [.bool (az sp rst 0),aC 1 (.ptr 1 0) sc us pw hk hs hn hp port opq pn pl hq q hf fg bare sp (if az sp rst 0=true then aa rst 1 else rst),bD 0 bsc bus bpw bhk bhs bhn bhp bport bopq bpn bpl bhq bq bhf bfg]⟩:=
 ag.aZ (fun h=>by have e:List.isEmpty (PV.aA PV.bw [.ptr 0 0,aC 1 (.ptr 1 0) sc us pw hk hs hn hp port opq pn pl hq q hf fg bare sp rst,bD 0 bsc bus bpw bhk bhs bhn bhp bport bopq bpn bpl bhq bq bhf bfg])=false:=(by kernel_rfl);exact Bool.noConfusion (e.symm.trans (congrArg List.isEmpty h)))
  (eC (fun bp=>(aC 1 (.raw (.pointer bp)) sc us pw hk hs hn hp port opq pn pl hq q hf fg bare sp rst)) (fun bp=>(aC 1 (.raw (.pointer bp)) sc us pw hk hs hn hp port opq pn pl hq q hf fg bare sp (if az sp rst 0=true then aa rst 1 else rst))) (fun bp=>jP bp sc us pw hk hs hn hp port opq pn pl hq q hf fg bare sp rst) (fun bp=>rfl) (fun bp=>by
    show PV.agg [_,ofRaw bp (.raw (.pointer bp)),_,_,_]=_
    rw [eE];rfl) (fun bp=>rfl) rfl)
theorem Af(sc us pw:Bs)(hk:Int)(hs:Bs)(hn:Int)(hp:List Int)(port:Int)(opq pn:Bool)(pl:List Bs)(hq:Bool)(q:Bs)(hf:Bool)(fg:Bs)(bare sp:Bool)(rst:Bs)(bsc bus bpw:Bs)(bhk:Int)(bhs:Bs)(bhn:Int)(bhp:List Int)(bport:Int)(bopq bpn:Bool)(bpl:List Bs)(bhq:Bool)(bq:Bs)(bhf:Bool)(bfg:Bs):ag Tryz.prog ay 89 [.ptr 0 0,aC 1 (.ptr 1 0) sc us pw hk hs hn hp port opq pn pl hq q hf fg bare sp rst,bD 0 bsc bus bpw bhk bhs bhn bhp bport bopq bpn bpl bhq bq bhf bfg] ⟨True,.tup [.bool (bN rst),aC 1 (.ptr 1 0) sc us pw hk hs hn hp port opq pn pl hq q hf fg bare sp rst,bD 0 bsc bus bpw bhk bhs bhn bhp bport bopq bpn bpl bhq bq bhf bfg]⟩:=
 ag.aZ (fun h=>by have e:List.isEmpty (PV.aA PV.bw [.ptr 0 0,aC 1 (.ptr 1 0) sc us pw hk hs hn hp port opq pn pl hq q hf fg bare sp rst,bD 0 bsc bus bpw bhk bhs bhn bhp bport bopq bpn bpl bhq bq bhf bfg])=false:=(by kernel_rfl);exact Bool.noConfusion (e.symm.trans (congrArg List.isEmpty h)))
  (eC (fun bp=>(aC 1 (.raw (.pointer bp)) sc us pw hk hs hn hp port opq pn pl hq q hf fg bare sp rst)) (fun bp=>(aC 1 (.raw (.pointer bp)) sc us pw hk hs hn hp port opq pn pl hq q hf fg bare sp rst)) (fun bp=>oB bp sc us pw hk hs hn hp port opq pn pl hq q hf fg bare sp rst) (fun bp=>rfl) (fun bp=>by
    show PV.agg [_,ofRaw bp (.raw (.pointer bp)),_,_,_]=_
    rw [eE];rfl) (fun bp=>rfl) rfl)
def jW:List PV→Option aF:=fun xs=>match xs with
 |[.ptr 0 0,aC 1 (.ptr 1 0) sc us pw hk hs hn hp port opq pn pl hq q hf fg bare sp rst,bD 0 bsc bus bpw bhk bhs bhn bhp bport bopq bpn bpl bhq bq bhf bfg]=>some ⟨True,.tup [.bool (bN rst),aC 1 (.ptr 1 0) sc us pw hk hs hn hp port opq pn pl hq q hf fg bare sp rst,bD 0 bsc bus bpw bhk bhs bhn bhp bport bopq bpn bpl bhq bq bhf bfg]⟩
 |_=>none
theorem qW:∀xs c,jW xs=some c→ag Tryz.prog ay 89 xs c:=fun xs c h=>by
 unfold jW at h
 split at h
 ·injection h with h;subst h;exact Af _ _ _ _ _ _ _ _ _ _ _ _ _ _ _ _ _ _ _ _ _ _ _ _ _ _ _ _ _ _ _ _ _
 ·cases h
theorem xM(sc us pw:Bs)(hk:Int)(hs:Bs)(hn:Int)(hp:List Int)(port:Int)(opq pn:Bool)(pl:List Bs)(hq:Bool)(q:Bs)(hf:Bool)(fg:Bs)(bare sp:Bool)(rst:Bs)(bsc bus bpw:Bs)(bhk:Int)(bhs:Bs)(bhn:Int)(bhp:List Int)(bport:Int)(bopq bpn:Bool)(bpl:List Bs)(bhq:Bool)(bq:Bs)(bhf:Bool)(bfg:Bs):ag Tryz.prog ay 87 [.ptr 0 0,aC 1 (.ptr 1 0) sc us pw hk hs hn hp port opq pn pl hq q hf fg bare sp rst,bD 0 bsc bus bpw bhk bhs bhn bhp bport bopq bpn bpl bhq bq bhf bfg] ⟨pl.length≤1000000,.tup [.tup [],aC 1 (.ptr 1 0) sc us pw hk hs hn hp port opq ((b5 sc (pn,pl)).1) ((b5 sc (pn,pl)).2) hq q hf fg bare sp rst,bD 0 bsc bus bpw bhk bhs bhn bhp bport bopq bpn bpl bhq bq bhf bfg]⟩:=
 ag.aZ (fun h=>by have e:List.isEmpty (PV.aA PV.bw [.ptr 0 0,aC 1 (.ptr 1 0) sc us pw hk hs hn hp port opq pn pl hq q hf fg bare sp rst,bD 0 bsc bus bpw bhk bhs bhn bhp bport bopq bpn bpl bhq bq bhf bfg])=false:=(by kernel_rfl);exact Bool.noConfusion (e.symm.trans (congrArg List.isEmpty h)))
  (eC (fun bp=>(aC 1 (.raw (.pointer bp)) sc us pw hk hs hn hp port opq pn pl hq q hf fg bare sp rst)) (fun bp=>(aC 1 (.raw (.pointer bp)) sc us pw hk hs hn hp port opq ((b5 sc (pn,pl)).1) ((b5 sc (pn,pl)).2) hq q hf fg bare sp rst)) (fun bp=>mz bp sc us pw hk hs hn hp port opq pn pl hq q hf fg bare sp rst) (fun bp=>rfl) (fun bp=>by
    show PV.agg [_,ofRaw bp (.raw (.pointer bp)),_,_,_]=_
    rw [eE];rfl) (fun bp=>rfl) rfl)
def jh:List PV→Option aF:=fun xs=>match xs with
 |[.ptr 0 0,aC 1 (.ptr 1 0) sc us pw hk hs hn hp port opq pn pl hq q hf fg bare sp rst,bD 0 bsc bus bpw bhk bhs bhn bhp bport bopq bpn bpl bhq bq bhf bfg]=>some ⟨pl.length≤1000000,.tup [.tup [],aC 1 (.ptr 1 0) sc us pw hk hs hn hp port opq ((b5 sc (pn,pl)).1) ((b5 sc (pn,pl)).2) hq q hf fg bare sp rst,bD 0 bsc bus bpw bhk bhs bhn bhp bport bopq bpn bpl bhq bq bhf bfg]⟩
 |_=>none
theorem oQ:∀xs c,jh xs=some c→ag Tryz.prog ay 87 xs c:=fun xs c h=>by
 unfold jh at h
 split at h
 ·injection h with h;subst h;exact xM _ _ _ _ _ _ _ _ _ _ _ _ _ _ _ _ _ _ _ _ _ _ _ _ _ _ _ _ _ _ _ _ _
 ·cases h
theorem Gf(sc us pw:Bs)(hk:Int)(hs:Bs)(hn:Int)(hp:List Int)(port:Int)(opq pn:Bool)(pl:List Bs)(hq:Bool)(q:Bs)(hf:Bool)(fg:Bs)(bare sp:Bool)(rst:Bs)(bsc bus bpw:Bs)(bhk:Int)(bhs:Bs)(bhn:Int)(bhp:List Int)(bport:Int)(bopq bpn:Bool)(bpl:List Bs)(bhq:Bool)(bq:Bs)(bhf:Bool)(bfg:Bs):ag Tryz.prog ay 90 [.ptr 0 0,aC 1 (.ptr 1 0) sc us pw hk hs hn hp port opq pn pl hq q hf fg bare sp rst,bD 0 bsc bus bpw bhk bhs bhn bhp bport bopq bpn bpl bhq bq bhf bfg] ⟨rst.length≤300000∧pl.length≤100000,.tup [.tup [],aC 1 (.ptr 1 0) sc us pw hk hs hn hp port opq ((bu sp sc (ae rst (aE rst)) (pn,pl)).1) ((bu sp sc (ae rst (aE rst)) (pn,pl)).2) hq q hf fg bare sp (aa rst (aE rst)),bD 0 bsc bus bpw bhk bhs bhn bhp bport bopq bpn bpl bhq bq bhf bfg]⟩:=
 ag.aZ (fun h=>by have e:List.isEmpty (PV.aA PV.bw [.ptr 0 0,aC 1 (.ptr 1 0) sc us pw hk hs hn hp port opq pn pl hq q hf fg bare sp rst,bD 0 bsc bus bpw bhk bhs bhn bhp bport bopq bpn bpl bhq bq bhf bfg])=false:=(by kernel_rfl);exact Bool.noConfusion (e.symm.trans (congrArg List.isEmpty h)))
  (eC (fun bp=>(aC 1 (.raw (.pointer bp)) sc us pw hk hs hn hp port opq pn pl hq q hf fg bare sp rst)) (fun bp=>(aC 1 (.raw (.pointer bp)) sc us pw hk hs hn hp port opq ((bu sp sc (ae rst (aE rst)) (pn,pl)).1) ((bu sp sc (ae rst (aE rst)) (pn,pl)).2) hq q hf fg bare sp (aa rst (aE rst)))) (fun bp=>tp bp sc us pw hk hs hn hp port opq pn pl hq q hf fg bare sp rst) (fun bp=>rfl) (fun bp=>by
    show PV.agg [_,ofRaw bp (.raw (.pointer bp)),_,_,_]=_
    rw [eE];rfl) (fun bp=>rfl) rfl)
def nK:List PV→Option aF:=fun xs=>match xs with
 |[.ptr 0 0,aC 1 (.ptr 1 0) sc us pw hk hs hn hp port opq pn pl hq q hf fg bare sp rst,bD 0 bsc bus bpw bhk bhs bhn bhp bport bopq bpn bpl bhq bq bhf bfg]=>some ⟨rst.length≤300000∧pl.length≤100000,.tup [.tup [],aC 1 (.ptr 1 0) sc us pw hk hs hn hp port opq ((bu sp sc (ae rst (aE rst)) (pn,pl)).1) ((bu sp sc (ae rst (aE rst)) (pn,pl)).2) hq q hf fg bare sp (aa rst (aE rst)),bD 0 bsc bus bpw bhk bhs bhn bhp bport bopq bpn bpl bhq bq bhf bfg]⟩
 |_=>none
theorem vj:∀xs c,nK xs=some c→ag Tryz.prog ay 90 xs c:=fun xs c h=>by
 unfold nK at h
 split at h
 ·injection h with h;subst h;exact Gf _ _ _ _ _ _ _ _ _ _ _ _ _ _ _ _ _ _ _ _ _ _ _ _ _ _ _ _ _ _ _ _ _
 ·cases h
theorem Dm(sc us pw:Bs)(hk:Int)(hs:Bs)(hn:Int)(hp:List Int)(port:Int)(opq pn:Bool)(pl:List Bs)(hq:Bool)(q:Bs)(hf:Bool)(fg:Bs)(bare sp:Bool)(rst:Bs)(bsc bus bpw:Bs)(bhk:Int)(bhs:Bs)(bhn:Int)(bhp:List Int)(bport:Int)(bopq bpn:Bool)(bpl:List Bs)(bhq:Bool)(bq:Bs)(bhf:Bool)(bfg:Bs):ag Tryz.prog ay 91 [.ptr 0 0,aC 1 (.ptr 1 0) sc us pw hk hs hn hp port opq pn pl hq q hf fg bare sp rst,bD 0 bsc bus bpw bhk bhs bhn bhp bport bopq bpn bpl bhq bq bhf bfg] ⟨rst.length≤300000,.tup [.tup [],aC 1 (.ptr 1 0) sc us pw hk hs hn hp port opq pn pl (dU rst hq) (dV sp rst q) hf fg bare sp (bH rst),bD 0 bsc bus bpw bhk bhs bhn bhp bport bopq bpn bpl bhq bq bhf bfg]⟩:=
 ag.aZ (fun h=>by have e:List.isEmpty (PV.aA PV.bw [.ptr 0 0,aC 1 (.ptr 1 0) sc us pw hk hs hn hp port opq pn pl hq q hf fg bare sp rst,bD 0 bsc bus bpw bhk bhs bhn bhp bport bopq bpn bpl bhq bq bhf bfg])=false:=(by kernel_rfl);exact Bool.noConfusion (e.symm.trans (congrArg List.isEmpty h)))
  (eC (fun bp=>(aC 1 (.raw (.pointer bp)) sc us pw hk hs hn hp port opq pn pl hq q hf fg bare sp rst)) (fun bp=>(aC 1 (.raw (.pointer bp)) sc us pw hk hs hn hp port opq pn pl (dU rst hq) (dV sp rst q) hf fg bare sp (bH rst))) (fun bp=>qO bp sc us pw hk hs hn hp port opq pn pl hq q hf fg bare sp rst) (fun bp=>rfl) (fun bp=>by
    show PV.agg [_,ofRaw bp (.raw (.pointer bp)),_,_,_]=_
    rw [eE];rfl) (fun bp=>rfl) rfl)
def ll:List PV→Option aF:=fun xs=>match xs with
 |[.ptr 0 0,aC 1 (.ptr 1 0) sc us pw hk hs hn hp port opq pn pl hq q hf fg bare sp rst,bD 0 bsc bus bpw bhk bhs bhn bhp bport bopq bpn bpl bhq bq bhf bfg]=>some ⟨rst.length≤300000,.tup [.tup [],aC 1 (.ptr 1 0) sc us pw hk hs hn hp port opq pn pl (dU rst hq) (dV sp rst q) hf fg bare sp (bH rst),bD 0 bsc bus bpw bhk bhs bhn bhp bport bopq bpn bpl bhq bq bhf bfg]⟩
 |_=>none
theorem rS:∀xs c,ll xs=some c→ag Tryz.prog ay 91 xs c:=fun xs c h=>by
 unfold ll at h
 split at h
 ·injection h with h;subst h;exact Dm _ _ _ _ _ _ _ _ _ _ _ _ _ _ _ _ _ _ _ _ _ _ _ _ _ _ _ _ _ _ _ _ _
 ·cases h
theorem vk(sc us pw:Bs)(hk:Int)(hs:Bs)(hn:Int)(hp:List Int)(port:Int)(opq pn:Bool)(pl:List Bs)(hq:Bool)(q:Bs)(hf:Bool)(fg:Bs)(bare sp:Bool)(rst:Bs)(bsc bus bpw:Bs)(bhk:Int)(bhs:Bs)(bhn:Int)(bhp:List Int)(bport:Int)(bopq bpn:Bool)(bpl:List Bs)(bhq:Bool)(bq:Bs)(bhf:Bool)(bfg:Bs):ag Tryz.prog ay 92 [.ptr 0 0,aC 1 (.ptr 1 0) sc us pw hk hs hn hp port opq pn pl hq q hf fg bare sp rst,bD 0 bsc bus bpw bhk bhs bhn bhp bport bopq bpn bpl bhq bq bhf bfg] ⟨rst.length≤300000,.tup [.tup [],aC 1 (.ptr 1 0) sc us pw hk hs hn hp port opq pn pl hq q (dW rst hf) (dX rst fg) bare sp (dY rst),bD 0 bsc bus bpw bhk bhs bhn bhp bport bopq bpn bpl bhq bq bhf bfg]⟩:=
 ag.aZ (fun h=>by have e:List.isEmpty (PV.aA PV.bw [.ptr 0 0,aC 1 (.ptr 1 0) sc us pw hk hs hn hp port opq pn pl hq q hf fg bare sp rst,bD 0 bsc bus bpw bhk bhs bhn bhp bport bopq bpn bpl bhq bq bhf bfg])=false:=(by kernel_rfl);exact Bool.noConfusion (e.symm.trans (congrArg List.isEmpty h)))
  (eC (fun bp=>(aC 1 (.raw (.pointer bp)) sc us pw hk hs hn hp port opq pn pl hq q hf fg bare sp rst)) (fun bp=>(aC 1 (.raw (.pointer bp)) sc us pw hk hs hn hp port opq pn pl hq q (dW rst hf) (dX rst fg) bare sp (dY rst))) (fun bp=>kC bp sc us pw hk hs hn hp port opq pn pl hq q hf fg bare sp rst) (fun bp=>rfl) (fun bp=>by
    show PV.agg [_,ofRaw bp (.raw (.pointer bp)),_,_,_]=_
    rw [eE];rfl) (fun bp=>rfl) rfl)
def ib:List PV→Option aF:=fun xs=>match xs with
 |[.ptr 0 0,aC 1 (.ptr 1 0) sc us pw hk hs hn hp port opq pn pl hq q hf fg bare sp rst,bD 0 bsc bus bpw bhk bhs bhn bhp bport bopq bpn bpl bhq bq bhf bfg]=>some ⟨rst.length≤300000,.tup [.tup [],aC 1 (.ptr 1 0) sc us pw hk hs hn hp port opq pn pl hq q (dW rst hf) (dX rst fg) bare sp (dY rst),bD 0 bsc bus bpw bhk bhs bhn bhp bport bopq bpn bpl bhq bq bhf bfg]⟩
 |_=>none
theorem nL:∀xs c,ib xs=some c→ag Tryz.prog ay 92 xs c:=fun xs c h=>by
 unfold ib at h
 split at h
 ·injection h with h;subst h;exact vk _ _ _ _ _ _ _ _ _ _ _ _ _ _ _ _ _ _ _ _ _ _ _ _ _ _ _ _ _ _ _ _ _
 ·cases h
end
section
def xN:cr:=bP []
def xO(sc us pw:Bs)(hk:Int)(hs:Bs)(hn:Int)(hp:List Int)(port:Int)(opq pn:Bool)(pl:List Bs)(hq:Bool)(q:Bs)(hf:Bool)(fg:Bs)(bare sp:Bool)(rst:Bs)(bsc bus bpw:Bs)(bhk:Int)(bhs:Bs)(bhn:Int)(bhp:List Int)(bport:Int)(bopq bpn:Bool)(bpl:List Bs)(bhq:Bool)(bq:Bs)(bhf:Bool)(bfg:Bs):aY:=fun i=>none
theorem xP:cS Tryz.prog ay xN:=ax
theorem Dn(sc us pw:Bs)(hk:Int)(hs:Bs)(hn:Int)(hp:List Int)(port:Int)(opq pn:Bool)(pl:List Bs)(hq:Bool)(q:Bs)(hf:Bool)(fg:Bs)(bare sp:Bool)(rst:Bs)(bsc bus bpw:Bs)(bhk:Int)(bhs:Bs)(bhn:Int)(bhp:List Int)(bport:Int)(bopq bpn:Bool)(bpl:List Bs)(bhq:Bool)(bq:Bs)(bhf:Bool)(bfg:Bs)(k:PV→List PV→Prop):bL Tryz.prog xN ay (xO sc us pw hk hs hn hp port opq pn pl hq q hf fg bare sp rst bsc bus bpw bhk bhs bhn bhp bport bopq bpn bpl bhq bq bhf bfg) 1000 Tryz.f77 [.ptr 0 0] [aC 1 (.ptr 1 0) sc us pw hk hs hn hp port opq pn pl hq q hf fg bare sp rst,bD 0 bsc bus bpw bhk bhs bhn bhp bport bopq bpn bpl bhq bq bhf bfg] k=(
 k (PV.bool (decide (bsc=sc))) [bS (PV.ptr (1:Nat) (0:Nat)) 1 sc us pw hk hs hn hp port opq pn pl hq q hf fg bare sp rst,bD (0:Nat) bsc bus bpw bhk bhs bhn bhp bport bopq bpn bpl bhq bq bhf bfg]):=by kernel_rfl
attribute [local irreducible] Go.Vc.cD Go.Vc.bL
theorem xQ(sc us pw:Bs)(hk:Int)(hs:Bs)(hn:Int)(hp:List Int)(port:Int)(opq pn:Bool)(pl:List Bs)(hq:Bool)(q:Bs)(hf:Bool)(fg:Bs)(bare sp:Bool)(rst:Bs)(bsc bus bpw:Bs)(bhk:Int)(bhs:Bs)(bhn:Int)(bhp:List Int)(bport:Int)(bopq bpn:Bool)(bpl:List Bs)(bhq:Bool)(bq:Bs)(bhf:Bool)(bfg:Bs):bm Tryz.prog ay 77 [.ptr 0 0] [aC 1 (.ptr 1 0) sc us pw hk hs hn hp port opq pn pl hq q hf fg bare sp rst,bD 0 bsc bus bpw bhk bhs bhn bhp bport bopq bpn bpl bhq bq bhf bfg] (True) (.bool (decide (bsc=sc))) [aC 1 (.ptr 1 0) sc us pw hk hs hn hp port opq pn pl hq q hf fg bare sp rst,bD 0 bsc bus bpw bhk bhs bhn bhp bport bopq bpn bpl bhq bq bhf bfg]:=bz (by kernel_rfl) xP (H:=xO sc us pw hk hs hn hp port opq pn pl hq q hf fg bare sp rst bsc bus bpw bhk bhs bhn bhp bport bopq bpn bpl bhq bq bhf bfg) (fuel:=1000) Tryz.func77 (by kernel_rfl) (Nat.le_of_ble_eq_true rfl) fun hpre=>(Dn sc us pw hk hs hn hp port opq pn pl hq q hf fg bare sp rst bsc bus bpw bhk bhs bhn bhp bport bopq bpn bpl bhq bq bhf bfg _).mpr (by
 exact ⟨rfl,rfl⟩)
theorem Dp(sc us pw:Bs)(hk:Int)(hs:Bs)(hn:Int)(hp:List Int)(port:Int)(opq pn:Bool)(pl:List Bs)(hq:Bool)(q:Bs)(hf:Bool)(fg:Bs)(bare sp:Bool)(rst:Bs)(bsc bus bpw:Bs)(bhk:Int)(bhs:Bs)(bhn:Int)(bhp:List Int)(bport:Int)(bopq bpn:Bool)(bpl:List Bs)(bhq:Bool)(bq:Bs)(bhf:Bool)(bfg:Bs):ag Tryz.prog ay 77 [.ptr 0 0,aC 1 (.ptr 1 0) sc us pw hk hs hn hp port opq pn pl hq q hf fg bare sp rst,bD 0 bsc bus bpw bhk bhs bhn bhp bport bopq bpn bpl bhq bq bhf bfg] ⟨True,.tup [.bool (decide (bsc=sc)),aC 1 (.ptr 1 0) sc us pw hk hs hn hp port opq pn pl hq q hf fg bare sp rst,bD 0 bsc bus bpw bhk bhs bhn bhp bport bopq bpn bpl bhq bq bhf bfg]⟩:=ag.aZ (fun h=>by have e:List.isEmpty (PV.aA PV.bw [.ptr 0 0,aC 1 (.ptr 1 0) sc us pw hk hs hn hp port opq pn pl hq q hf fg bare sp rst,bD 0 bsc bus bpw bhk bhs bhn bhp bport bopq bpn bpl bhq bq bhf bfg])=false:=(by kernel_rfl);exact Bool.noConfusion (e.symm.trans (congrArg List.isEmpty h))) (xQ sc us pw hk hs hn hp port opq pn pl hq q hf fg bare sp rst bsc bus bpw bhk bhs bhn bhp bport bopq bpn bpl bhq bq bhf bfg)
end
section
def mF:cr:=bP []
def mG(sc us pw:Bs)(hk:Int)(hs:Bs)(hn:Int)(hp:List Int)(port:Int)(opq pn:Bool)(pl:List Bs)(hq:Bool)(q:Bs)(hf:Bool)(fg:Bs)(bare sp:Bool)(rst:Bs)(bsc bus bpw:Bs)(bhk:Int)(bhs:Bs)(bhn:Int)(bhp:List Int)(bport:Int)(bopq bpn:Bool)(bpl:List Bs)(bhq:Bool)(bq:Bs)(bhf:Bool)(bfg:Bs):aY:=fun i=>none
theorem oR:cS Tryz.prog ay mF:=ax
theorem rT(sc us pw:Bs)(hk:Int)(hs:Bs)(hn:Int)(hp:List Int)(port:Int)(opq pn:Bool)(pl:List Bs)(hq:Bool)(q:Bs)(hf:Bool)(fg:Bs)(bare sp:Bool)(rst:Bs)(bsc bus bpw:Bs)(bhk:Int)(bhs:Bs)(bhn:Int)(bhp:List Int)(bport:Int)(bopq bpn:Bool)(bpl:List Bs)(bhq:Bool)(bq:Bs)(bhf:Bool)(bfg:Bs)(k:PV→List PV→Prop):bL Tryz.prog mF ay (mG sc us pw hk hs hn hp port opq pn pl hq q hf fg bare sp rst bsc bus bpw bhk bhs bhn bhp bport bopq bpn bpl bhq bq bhf bfg) 1000 Tryz.f120 [.ptr 0 0] [aC 1 (.ptr 1 0) sc us pw hk hs hn hp port opq pn pl hq q hf fg bare sp rst,bD 0 bsc bus bpw bhk bhs bhn bhp bport bopq bpn bpl bhq bq bhf bfg] k=(
 k (PV.tup []) [bS (PV.ptr (1:Nat) (0:Nat)) 1 sc us pw hk hs hn hp port opq pn pl bhq bq hf fg bare sp rst,bD (0:Nat) bsc bus bpw bhk bhs bhn bhp bport bopq bpn bpl bhq bq bhf bfg]):=by kernel_rfl
attribute [local irreducible] Go.Vc.cD Go.Vc.bL
theorem oS(sc us pw:Bs)(hk:Int)(hs:Bs)(hn:Int)(hp:List Int)(port:Int)(opq pn:Bool)(pl:List Bs)(hq:Bool)(q:Bs)(hf:Bool)(fg:Bs)(bare sp:Bool)(rst:Bs)(bsc bus bpw:Bs)(bhk:Int)(bhs:Bs)(bhn:Int)(bhp:List Int)(bport:Int)(bopq bpn:Bool)(bpl:List Bs)(bhq:Bool)(bq:Bs)(bhf:Bool)(bfg:Bs):bm Tryz.prog ay 120 [.ptr 0 0] [aC 1 (.ptr 1 0) sc us pw hk hs hn hp port opq pn pl hq q hf fg bare sp rst,bD 0 bsc bus bpw bhk bhs bhn bhp bport bopq bpn bpl bhq bq bhf bfg] (True) (.tup []) [aC 1 (.ptr 1 0) sc us pw hk hs hn hp port opq pn pl bhq bq hf fg bare sp rst,bD 0 bsc bus bpw bhk bhs bhn bhp bport bopq bpn bpl bhq bq bhf bfg]:=bz (by kernel_rfl) oR (H:=mG sc us pw hk hs hn hp port opq pn pl hq q hf fg bare sp rst bsc bus bpw bhk bhs bhn bhp bport bopq bpn bpl bhq bq bhf bfg) (fuel:=1000) Tryz.func120 (by kernel_rfl) (Nat.le_of_ble_eq_true rfl) fun hpre=>(rT sc us pw hk hs hn hp port opq pn pl hq q hf fg bare sp rst bsc bus bpw bhk bhs bhn bhp bport bopq bpn bpl bhq bq bhf bfg _).mpr (by
 exact ⟨rfl,rfl⟩)
theorem rU(sc us pw:Bs)(hk:Int)(hs:Bs)(hn:Int)(hp:List Int)(port:Int)(opq pn:Bool)(pl:List Bs)(hq:Bool)(q:Bs)(hf:Bool)(fg:Bs)(bare sp:Bool)(rst:Bs)(bsc bus bpw:Bs)(bhk:Int)(bhs:Bs)(bhn:Int)(bhp:List Int)(bport:Int)(bopq bpn:Bool)(bpl:List Bs)(bhq:Bool)(bq:Bs)(bhf:Bool)(bfg:Bs):ag Tryz.prog ay 120 [.ptr 0 0,aC 1 (.ptr 1 0) sc us pw hk hs hn hp port opq pn pl hq q hf fg bare sp rst,bD 0 bsc bus bpw bhk bhs bhn bhp bport bopq bpn bpl bhq bq bhf bfg] ⟨True,.tup [.tup [],aC 1 (.ptr 1 0) sc us pw hk hs hn hp port opq pn pl bhq bq hf fg bare sp rst,bD 0 bsc bus bpw bhk bhs bhn bhp bport bopq bpn bpl bhq bq bhf bfg]⟩:=ag.aZ (fun h=>by have e:List.isEmpty (PV.aA PV.bw [.ptr 0 0,aC 1 (.ptr 1 0) sc us pw hk hs hn hp port opq pn pl hq q hf fg bare sp rst,bD 0 bsc bus bpw bhk bhs bhn bhp bport bopq bpn bpl bhq bq bhf bfg])=false:=(by kernel_rfl);exact Bool.noConfusion (e.symm.trans (congrArg List.isEmpty h))) (oS sc us pw hk hs hn hp port opq pn pl hq q hf fg bare sp rst bsc bus bpw bhk bhs bhn bhp bport bopq bpn bpl bhq bq bhf bfg)
def gJ:List PV→Option aF:=fun xs=>match xs with
 |[.ptr 0 0,aC 1 (.ptr 1 0) sc us pw hk hs hn hp port opq pn pl hq q hf fg bare sp rst,bD 0 bsc bus bpw bhk bhs bhn bhp bport bopq bpn bpl bhq bq bhf bfg]=>some ⟨True,.tup [.tup [],aC 1 (.ptr 1 0) sc us pw hk hs hn hp port opq pn pl bhq bq hf fg bare sp rst,bD 0 bsc bus bpw bhk bhs bhn bhp bport bopq bpn bpl bhq bq bhf bfg]⟩
 |_=>none
theorem mH:∀xs c,gJ xs=some c→ag Tryz.prog ay 120 xs c:=fun xs c h=>by
 unfold gJ at h
 split at h
 ·injection h with h;subst h;exact rU _ _ _ _ _ _ _ _ _ _ _ _ _ _ _ _ _ _ _ _ _ _ _ _ _ _ _ _ _ _ _ _ _
 ·cases h
end
section
def xR:cr:=bP [(120,gJ),(89,jW)]
def xS(sc us pw:Bs)(hk:Int)(hs:Bs)(hn:Int)(hp:List Int)(port:Int)(opq pn:Bool)(pl:List Bs)(hq:Bool)(q:Bs)(hf:Bool)(fg:Bs)(bare sp:Bool)(rst:Bs)(bsc bus bpw:Bs)(bhk:Int)(bhs:Bs)(bhn:Int)(bhp:List Int)(bport:Int)(bopq bpn:Bool)(bpl:List Bs)(bhq:Bool)(bq:Bs)(bhf:Bool)(bfg:Bs):aY:=fun i=>none
theorem xT:cS Tryz.prog ay xR:=ai mH (ai qW (ax))
theorem Dq(sc us pw:Bs)(hk:Int)(hs:Bs)(hn:Int)(hp:List Int)(port:Int)(opq pn:Bool)(pl:List Bs)(hq:Bool)(q:Bs)(hf:Bool)(fg:Bs)(bare sp:Bool)(rst:Bs)(bsc bus bpw:Bs)(bhk:Int)(bhs:Bs)(bhn:Int)(bhp:List Int)(bport:Int)(bopq bpn:Bool)(bpl:List Bs)(bhq:Bool)(bq:Bs)(bhf:Bool)(bfg:Bs)(k:PV→List PV→Prop):bL Tryz.prog xR ay (xS sc us pw hk hs hn hp port opq pn pl hq q hf fg bare sp rst bsc bus bpw bhk bhs bhn bhp bport bopq bpn bpl bhq bq bhf bfg) 1000 Tryz.f86 [.ptr 0 0] [aC 1 (.ptr 1 0) sc us pw hk hs hn hp port opq pn pl hq q hf fg bare sp rst,bD 0 bsc bus bpw bhk bhs bhn bhp bport bopq bpn bpl bhq bq bhf bfg] k=(
 (decide (rst=(ByteArray.mk #[]).data.toList)=false→
 within (0:Int) (ak rst))∧
 ((bif decide (rst=(ByteArray.mk #[]).data.toList)then true else decide (al rst (0:Int)=(35:Int)))=true→
 True∧
 True∧
 k (PV.bool (bN rst)) [bS (PV.ptr (1:Nat) (0:Nat)) 1 sc us pw hk hs hn hp port opq pn pl bhq bq hf fg bare sp rst,bD (0:Nat) bsc bus bpw bhk bhs bhn bhp bport bopq bpn bpl bhq bq bhf bfg])∧
 ((bif decide (rst=(ByteArray.mk #[]).data.toList)then true else decide (al rst (0:Int)=(35:Int)))=false→
 True∧
 k (PV.bool (bN rst)) [bS (PV.ptr (1:Nat) (0:Nat)) 1 sc us pw hk hs hn hp port opq pn pl hq q hf fg bare sp rst,bD (0:Nat) bsc bus bpw bhk bhs bhn bhp bport bopq bpn bpl bhq bq bhf bfg])):=by kernel_rfl
attribute [local irreducible] Go.Vc.cD Go.Vc.bL
theorem xU(sc us pw:Bs)(hk:Int)(hs:Bs)(hn:Int)(hp:List Int)(port:Int)(opq pn:Bool)(pl:List Bs)(hq:Bool)(q:Bs)(hf:Bool)(fg:Bs)(bare sp:Bool)(rst:Bs)(bsc bus bpw:Bs)(bhk:Int)(bhs:Bs)(bhn:Int)(bhp:List Int)(bport:Int)(bopq bpn:Bool)(bpl:List Bs)(bhq:Bool)(bq:Bs)(bhf:Bool)(bfg:Bs):bm Tryz.prog ay 86 [.ptr 0 0] [aC 1 (.ptr 1 0) sc us pw hk hs hn hp port opq pn pl hq q hf fg bare sp rst,bD 0 bsc bus bpw bhk bhs bhn bhp bport bopq bpn bpl bhq bq bhf bfg] (True) (.bool (bN rst)) [aC 1 (.ptr 1 0) sc us pw hk hs hn hp port opq pn pl (((RS.mk sc us pw hk hs hn hp port opq pn pl hq q hf fg bare sp rst).qU (RS.mk bsc bus bpw bhk bhs bhn bhp bport bopq bpn bpl bhq bq bhf bfg false false [])).hq) (((RS.mk sc us pw hk hs hn hp port opq pn pl hq q hf fg bare sp rst).qU (RS.mk bsc bus bpw bhk bhs bhn bhp bport bopq bpn bpl bhq bq bhf bfg false false [])).q) hf fg bare sp rst,bD 0 bsc bus bpw bhk bhs bhn bhp bport bopq bpn bpl bhq bq bhf bfg]:=bz (by kernel_rfl) xT (H:=xS sc us pw hk hs hn hp port opq pn pl hq q hf fg bare sp rst bsc bus bpw bhk bhs bhn bhp bport bopq bpn bpl bhq bq bhf bfg) (fuel:=1000) Tryz.func86 (by kernel_rfl) (Nat.le_of_ble_eq_true rfl) fun hpre=>(Dq sc us pw hk hs hn hp port opq pn pl hq q hf fg bare sp rst bsc bus bpw bhk bhs bhn bhp bport bopq bpn bpl bhq bq bhf bfg _).mpr (by
 refine ⟨fun h=>?_,fun h=>⟨trivial,trivial,?_⟩,fun h=>⟨trivial,?_⟩⟩
 ·have:¬rst=[]:=of_decide_eq_false h
  have:0<rst.length:=List.length_pos_iff.2 this
  unfold within ak;omega
 ·have h2:tw rst=true:=by
   unfold tw
   cases e:decide (rst=(ByteArray.mk #[]).data.toList)with
   |true=>rfl
   |false=>rw [e]at h;exact h
  have e:(RS.mk sc us pw hk hs hn hp port opq pn pl hq q hf fg bare sp rst).qU (RS.mk bsc bus bpw bhk bhs bhn bhp bport bopq bpn bpl bhq bq bhf bfg false false [])=(RS.mk sc us pw hk hs hn hp port opq pn pl hq q hf fg bare sp rst).Ge (RS.mk bsc bus bpw bhk bhs bhn bhp bport bopq bpn bpl bhq bq bhf bfg false false []):=if_pos h2
  rw [e];exact ⟨rfl,rfl⟩
 ·have h2:¬tw rst=true:=by
   unfold tw
   cases e:decide (rst=(ByteArray.mk #[]).data.toList)with
   |true=>rw [e]at h;cases h
   |false=>
    rw [e]at h
    intro g;exact Bool.noConfusion (g.symm.trans h)
  have e:(RS.mk sc us pw hk hs hn hp port opq pn pl hq q hf fg bare sp rst).qU (RS.mk bsc bus bpw bhk bhs bhn bhp bport bopq bpn bpl bhq bq bhf bfg false false [])=(RS.mk sc us pw hk hs hn hp port opq pn pl hq q hf fg bare sp rst):=if_neg h2
  rw [e];exact ⟨rfl,rfl⟩)
theorem Dr(sc us pw:Bs)(hk:Int)(hs:Bs)(hn:Int)(hp:List Int)(port:Int)(opq pn:Bool)(pl:List Bs)(hq:Bool)(q:Bs)(hf:Bool)(fg:Bs)(bare sp:Bool)(rst:Bs)(bsc bus bpw:Bs)(bhk:Int)(bhs:Bs)(bhn:Int)(bhp:List Int)(bport:Int)(bopq bpn:Bool)(bpl:List Bs)(bhq:Bool)(bq:Bs)(bhf:Bool)(bfg:Bs):ag Tryz.prog ay 86 [.ptr 0 0,aC 1 (.ptr 1 0) sc us pw hk hs hn hp port opq pn pl hq q hf fg bare sp rst,bD 0 bsc bus bpw bhk bhs bhn bhp bport bopq bpn bpl bhq bq bhf bfg] ⟨True,.tup [.bool (bN rst),aC 1 (.ptr 1 0) sc us pw hk hs hn hp port opq pn pl (((RS.mk sc us pw hk hs hn hp port opq pn pl hq q hf fg bare sp rst).qU (RS.mk bsc bus bpw bhk bhs bhn bhp bport bopq bpn bpl bhq bq bhf bfg false false [])).hq) (((RS.mk sc us pw hk hs hn hp port opq pn pl hq q hf fg bare sp rst).qU (RS.mk bsc bus bpw bhk bhs bhn bhp bport bopq bpn bpl bhq bq bhf bfg false false [])).q) hf fg bare sp rst,bD 0 bsc bus bpw bhk bhs bhn bhp bport bopq bpn bpl bhq bq bhf bfg]⟩:=ag.aZ (fun h=>by have e:List.isEmpty (PV.aA PV.bw [.ptr 0 0,aC 1 (.ptr 1 0) sc us pw hk hs hn hp port opq pn pl hq q hf fg bare sp rst,bD 0 bsc bus bpw bhk bhs bhn bhp bport bopq bpn bpl bhq bq bhf bfg])=false:=(by kernel_rfl);exact Bool.noConfusion (e.symm.trans (congrArg List.isEmpty h))) (xU sc us pw hk hs hn hp port opq pn pl hq q hf fg bare sp rst bsc bus bpw bhk bhs bhn bhp bport bopq bpn bpl bhq bq bhf bfg)
end
section
attribute [local instance] Kj
theorem Ds {x:RS}(b:RS)(h:bN x.rst=false):x.qU b=x:=by
 refine if_neg fun g=>?_
 unfold bN at h
 unfold tw at g
 rw [Bool.or_eq_false_iff,Bool.or_eq_false_iff]at h
 rw [h.1,h.2.2]at g;cases g
theorem Ag(sc us pw:Bs)(hk:Int)(hs:Bs)(hn:Int)(hp:List Int)(port:Int)(opq pn:Bool)(pl:List Bs)(hq:Bool)(q:Bs)(hf:Bool)(fg:Bs)(bare sp:Bool)(rst:Bs)(at_:Int)(bsc bus bpw:Bs)(bhk:Int)(bhs:Bs)(bhn:Int)(bhp:List Int)(bport:Int)(bopq bpn:Bool)(bpl:List Bs)(bhq:Bool)(bq:Bs)(bhf:Bool)(bfg:Bs):ag Tryz.prog ay 82 [.ptr 0 0,.int .i64 at_,aC 1 (.ptr 1 0) sc us pw hk hs hn hp port opq pn pl hq q hf fg bare sp rst,bD 0 bsc bus bpw bhk bhs bhn bhp bport bopq bpn bpl bhq bq bhf bfg] ⟨(0≤at_∧at_<1000)∧az sp rst at_=false,.tup [.bool false,aC 1 (.ptr 1 0) sc us pw hk hs hn hp port opq pn pl hq q hf fg bare sp rst,bD 0 bsc bus bpw bhk bhs bhn bhp bport bopq bpn bpl bhq bq bhf bfg]⟩:=
 ag.KR (Dl sc us pw hk hs hn hp port opq pn pl hq q hf fg bare sp rst at_ bsc bus bpw bhk bhs bhn bhp bport bopq bpn bpl bhq bq bhf bfg) (fun h=>by have e:List.isEmpty (PV.aA PV.bw [.ptr 0 0,.int .i64 at_,aC 1 (.ptr 1 0) sc us pw hk hs hn hp port opq pn pl hq q hf fg bare sp rst,bD 0 bsc bus bpw bhk bhs bhn bhp bport bopq bpn bpl bhq bq bhf bfg])=false:=(by kernel_rfl);exact Bool.noConfusion (e.symm.trans (congrArg List.isEmpty h))) (fun h=>h.1) (fun h=>by rw [h.2])
def jX:List PV→Option aF:=fun xs=>match xs with
 |[.ptr 0 0,.int .i64 at_,aC 1 (.ptr 1 0) sc us pw hk hs hn hp port opq pn pl hq q hf fg bare sp rst,bD 0 bsc bus bpw bhk bhs bhn bhp bport bopq bpn bpl bhq bq bhf bfg]=>some ⟨(0≤at_∧at_<1000)∧az sp rst at_=false,.tup [.bool false,aC 1 (.ptr 1 0) sc us pw hk hs hn hp port opq pn pl hq q hf fg bare sp rst,bD 0 bsc bus bpw bhk bhs bhn bhp bport bopq bpn bpl bhq bq bhf bfg]⟩
 |_=>none
theorem qX:∀xs c,jX xs=some c→ag Tryz.prog ay 82 xs c:=fun xs c h=>by
 unfold jX at h
 split at h
 ·injection h with h;subst h;exact Ag _ _ _ _ _ _ _ _ _ _ _ _ _ _ _ _ _ _ _ _ _ _ _ _ _ _ _ _ _ _ _ _ _ _
 ·cases h
theorem qY(sc us pw:Bs)(hk:Int)(hs:Bs)(hn:Int)(hp:List Int)(port:Int)(opq pn:Bool)(pl:List Bs)(hq:Bool)(q:Bs)(hf:Bool)(fg:Bs)(bare sp:Bool)(rst:Bs)(bsc bus bpw:Bs)(bhk:Int)(bhs:Bs)(bhn:Int)(bhp:List Int)(bport:Int)(bopq bpn:Bool)(bpl:List Bs)(bhq:Bool)(bq:Bs)(bhf:Bool)(bfg:Bs):ag Tryz.prog ay 84 [.ptr 0 0,aC 1 (.ptr 1 0) sc us pw hk hs hn hp port opq pn pl hq q hf fg bare sp rst,bD 0 bsc bus bpw bhk bhs bhn bhp bport bopq bpn bpl bhq bq bhf bfg] ⟨az sp rst 0=false,.tup [.bool false,aC 1 (.ptr 1 0) sc us pw hk hs hn hp port opq pn pl hq q hf fg bare sp rst,bD 0 bsc bus bpw bhk bhs bhn bhp bport bopq bpn bpl bhq bq bhf bfg]⟩:=
 ag.KR (rR sc us pw hk hs hn hp port opq pn pl hq q hf fg bare sp rst bsc bus bpw bhk bhs bhn bhp bport bopq bpn bpl bhq bq bhf bfg) (fun h=>by have e:List.isEmpty (PV.aA PV.bw [.ptr 0 0,aC 1 (.ptr 1 0) sc us pw hk hs hn hp port opq pn pl hq q hf fg bare sp rst,bD 0 bsc bus bpw bhk bhs bhn bhp bport bopq bpn bpl bhq bq bhf bfg])=false:=(by kernel_rfl);exact Bool.noConfusion (e.symm.trans (congrArg List.isEmpty h))) (fun h=>trivial) (fun h=>by rw [h];rfl)
def fT:List PV→Option aF:=fun xs=>match xs with
 |[.ptr 0 0,aC 1 (.ptr 1 0) sc us pw hk hs hn hp port opq pn pl hq q hf fg bare sp rst,bD 0 bsc bus bpw bhk bhs bhn bhp bport bopq bpn bpl bhq bq bhf bfg]=>some ⟨az sp rst 0=false,.tup [.bool false,aC 1 (.ptr 1 0) sc us pw hk hs hn hp port opq pn pl hq q hf fg bare sp rst,bD 0 bsc bus bpw bhk bhs bhn bhp bport bopq bpn bpl bhq bq bhf bfg]⟩
 |_=>none
theorem ln:∀xs c,fT xs=some c→ag Tryz.prog ay 84 xs c:=fun xs c h=>by
 unfold fT at h
 split at h
 ·injection h with h;subst h;exact qY _ _ _ _ _ _ _ _ _ _ _ _ _ _ _ _ _ _ _ _ _ _ _ _ _ _ _ _ _ _ _ _ _
 ·cases h
theorem Ah(sc us pw:Bs)(hk:Int)(hs:Bs)(hn:Int)(hp:List Int)(port:Int)(opq pn:Bool)(pl:List Bs)(hq:Bool)(q:Bs)(hf:Bool)(fg:Bs)(bare sp:Bool)(rst:Bs)(bsc bus bpw:Bs)(bhk:Int)(bhs:Bs)(bhn:Int)(bhp:List Int)(bport:Int)(bopq bpn:Bool)(bpl:List Bs)(bhq:Bool)(bq:Bs)(bhf:Bool)(bfg:Bs):ag Tryz.prog ay 77 [.ptr 0 0,aC 1 (.ptr 1 0) sc us pw hk hs hn hp port opq pn pl hq q hf fg bare sp rst,bD 0 bsc bus bpw bhk bhs bhn bhp bport bopq bpn bpl bhq bq bhf bfg] ⟨bsc=sc,.tup [.bool true,aC 1 (.ptr 1 0) sc us pw hk hs hn hp port opq pn pl hq q hf fg bare sp rst,bD 0 bsc bus bpw bhk bhs bhn bhp bport bopq bpn bpl bhq bq bhf bfg]⟩:=
 ag.KR (Dp sc us pw hk hs hn hp port opq pn pl hq q hf fg bare sp rst bsc bus bpw bhk bhs bhn bhp bport bopq bpn bpl bhq bq bhf bfg) (fun h=>by have e:List.isEmpty (PV.aA PV.bw [.ptr 0 0,aC 1 (.ptr 1 0) sc us pw hk hs hn hp port opq pn pl hq q hf fg bare sp rst,bD 0 bsc bus bpw bhk bhs bhn bhp bport bopq bpn bpl bhq bq bhf bfg])=false:=(by kernel_rfl);exact Bool.noConfusion (e.symm.trans (congrArg List.isEmpty h))) (fun h=>trivial) (fun h=>by rw [decide_eq_true h])
def gU:List PV→Option aF:=fun xs=>match xs with
 |[.ptr 0 0,aC 1 (.ptr 1 0) sc us pw hk hs hn hp port opq pn pl hq q hf fg bare sp rst,bD 0 bsc bus bpw bhk bhs bhn bhp bport bopq bpn bpl bhq bq bhf bfg]=>some ⟨bsc=sc,.tup [.bool true,aC 1 (.ptr 1 0) sc us pw hk hs hn hp port opq pn pl hq q hf fg bare sp rst,bD 0 bsc bus bpw bhk bhs bhn bhp bport bopq bpn bpl bhq bq bhf bfg]⟩
 |_=>none
theorem jY:∀xs c,gU xs=some c→ag Tryz.prog ay 77 xs c:=fun xs c h=>by
 unfold gU at h
 split at h
 ·injection h with h;subst h;exact Ah _ _ _ _ _ _ _ _ _ _ _ _ _ _ _ _ _ _ _ _ _ _ _ _ _ _ _ _ _ _ _ _ _
 ·cases h
theorem Dt(sc us pw:Bs)(hk:Int)(hs:Bs)(hn:Int)(hp:List Int)(port:Int)(opq pn:Bool)(pl:List Bs)(hq:Bool)(q:Bs)(hf:Bool)(fg:Bs)(bare sp:Bool)(rst:Bs)(bsc bus bpw:Bs)(bhk:Int)(bhs:Bs)(bhn:Int)(bhp:List Int)(bport:Int)(bopq bpn:Bool)(bpl:List Bs)(bhq:Bool)(bq:Bs)(bhf:Bool)(bfg:Bs):ag Tryz.prog ay 86 [.ptr 0 0,aC 1 (.ptr 1 0) sc us pw hk hs hn hp port opq pn pl hq q hf fg bare sp rst,bD 0 bsc bus bpw bhk bhs bhn bhp bport bopq bpn bpl bhq bq bhf bfg] ⟨bN rst=false,.tup [.bool false,aC 1 (.ptr 1 0) sc us pw hk hs hn hp port opq pn pl hq q hf fg bare sp rst,bD 0 bsc bus bpw bhk bhs bhn bhp bport bopq bpn bpl bhq bq bhf bfg]⟩:=
 ag.KR (Dr sc us pw hk hs hn hp port opq pn pl hq q hf fg bare sp rst bsc bus bpw bhk bhs bhn bhp bport bopq bpn bpl bhq bq bhf bfg) (fun h=>by have e:List.isEmpty (PV.aA PV.bw [.ptr 0 0,aC 1 (.ptr 1 0) sc us pw hk hs hn hp port opq pn pl hq q hf fg bare sp rst,bD 0 bsc bus bpw bhk bhs bhn bhp bport bopq bpn bpl bhq bq bhf bfg])=false:=(by kernel_rfl);exact Bool.noConfusion (e.symm.trans (congrArg List.isEmpty h))) (fun h=>trivial) (fun h=>by rw [Ds (x:=(RS.mk sc us pw hk hs hn hp port opq pn pl hq q hf fg bare sp rst)) (RS.mk bsc bus bpw bhk bhs bhn bhp bport bopq bpn bpl bhq bq bhf bfg false false []) h,h])
def lp:List PV→Option aF:=fun xs=>match xs with
 |[.ptr 0 0,aC 1 (.ptr 1 0) sc us pw hk hs hn hp port opq pn pl hq q hf fg bare sp rst,bD 0 bsc bus bpw bhk bhs bhn bhp bport bopq bpn bpl bhq bq bhf bfg]=>some ⟨bN rst=false,.tup [.bool false,aC 1 (.ptr 1 0) sc us pw hk hs hn hp port opq pn pl hq q hf fg bare sp rst,bD 0 bsc bus bpw bhk bhs bhn bhp bport bopq bpn bpl bhq bq bhf bfg]⟩
 |_=>none
theorem rV:∀xs c,lp xs=some c→ag Tryz.prog ay 86 xs c:=fun xs c h=>by
 unfold lp at h
 split at h
 ·injection h with h;subst h;exact Dt _ _ _ _ _ _ _ _ _ _ _ _ _ _ _ _ _ _ _ _ _ _ _ _ _ _ _ _ _ _ _ _ _
 ·cases h
end
end Go.Proofs.YtmfapopclbnlpaaGreatDoor
