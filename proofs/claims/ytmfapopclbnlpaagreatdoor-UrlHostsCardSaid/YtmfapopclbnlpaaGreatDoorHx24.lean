import Derived.Shelf.Strings.FuncGrows
import Derived.Lib.TrimAscii
import Derived.Test.YtmfapopclbnlpaaGreatDoorProg
import Derived.ProofKit
import Derived.Test.YtmfapopclbnlpaaGreatDoorHx5
import Derived.Test.YtmfapopclbnlpaaGreatDoorHx17
set_option linter.unusedVariables false
set_option linter.unusedSimpArgs false
set_option maxRecDepth 100000
set_option maxHeartbeats 4000000
namespace Go.Proofs.YtmfapopclbnlpaaGreatDoor
open Go Go.Proofs Go.RowKit Go.Vc
theorem qX.below {w w':World}(h:qX w)(hb:Below w.heap.size w w'):qX w':=
 Wd.mono (self:=PW) w w' hb.os hb.tape hb.output hb.size (fun k hk=>hb.block k (Nat.lt_of_lt_of_le hk (Wd.within (self:=PW) w h))) h
theorem AU(w:World)(hw:qX w):PredGrows Tryz.prog 174 #[] (fun x=>Kk x) w:=fun W x hx hb=>
 ((Km (x:Int)).walk Tryz.func174 (by kernel_rfl) rfl ⟨by omega,by omega⟩ (GI W) (JD _) (hw.below hb) (vs:=[.int .i32 x]) ⟨_,_,rfl,rfl,rfl⟩).mono fun e w' ⟨u,he,F',_,hb,_,_,_,_,hr⟩=>⟨by rw [he];exact congrArg _ hr,hb⟩
def Mf(l:Bs):Bool:=decide (0<=Lib.idxFunc (fun x=>Kk x) true ⟨l.toArray⟩)
theorem KQ(l:Bs):ae Tryz.prog az 173 [.str l,.fn (.func 174) [] []] ⟨True,.bool (Mf l)⟩:=
 ae.cm Tryz.func173 (by kernel_rfl) rfl fun _ F w vs _ _ hw hx=>by
  obtain ⟨_,_,rfl,r1,_,_,rfl,r2,rfl⟩:=hx;obtain rfl:=r1;obtain ⟨us,vs,rfl,rfl,rfl⟩:=r2;exact ⟨_,Any.strings_ContainsFunc_grows Tryz.O7 174 #[] (enters_of Tryz.func174 (by kernel_rfl) rfl) _ ⟨l.toArray⟩ w (AU w hw),fun G w=>rfl⟩
def pE:List PV->Option aD:=fun xs=>match xs with |[.str l,.fn (.func 174) [] []]=>some ⟨True,.bool (Mf l)⟩|_=>none
theorem yp:∀xs c,pE xs=some c->ae Tryz.prog az 173 xs c:=fun xs c h=>by
 unfold pE at h;split at h
 ·injection h with h;subst h;exact KQ _
 ·cases h
section
def iU(l m:Bs):Bool:=bif decide (ai m<=ai l)then decide (aa l (ai l-ai m)=m)else false
def KR:cM:=bS []
def KS(l m:Bs):aP:=fun i=>none
theorem Hw:df Tryz.prog az KR:=ax
theorem Ni(l m:Bs)(k:PV->Prop):cD Tryz.prog KR az (KS l m) 1000 Tryz.f158 [.str l,.str m] k=(
 (decide (ai m<=ai l)=true->av (ai l-ai m))/\
 (decide (ai m<=ai l)=true->upto (ai l-ai m) (ai l) (ai l))/\
 k (PV.bool (bif decide (ai m<=ai l)then decide (aa l (ai l-ai m)=m)else false))):=by kernel_rfl
attribute [local irreducible] Go.Vc.cD
theorem Nj(l m:Bs):ae Tryz.prog az 158 [.str l,.str m] ⟨l.length<=1000000/\m.length<=1000000,.bool (iU l m)⟩:=bR (by kernel_rfl) Hw (H:=KS l m) (fuel:=1000) Tryz.func158 (by kernel_rfl) fun hpre=>(Ni l m _).mpr (by
 exact ⟨fun h=>⟨by unfold ai;omega,by unfold ai;omega⟩,fun h=>⟨by have:=of_decide_eq_true h;omega,by unfold ai;omega,Int.le_refl _⟩,rfl⟩)
def oa:List PV->Option aD:=fun xs=>match xs with
 |[.str l,.str m]=>some ⟨l.length<=1000000/\m.length<=1000000,.bool (iU l m)⟩
 |_=>none
theorem qE:∀xs c,oa xs=some c->ae Tryz.prog az 158 xs c:=fun xs c h=>by
 unfold oa at h;split at h
 ·injection h with h;subst h;exact Nj _ _
 ·cases h
end
section
def gi(l m:Bs):Bs×Bool:=if iU l m=true then(ab l (ai l-ai m),true)else(l,false)
def FD:cM:=bS [(158,oa)]
def FE(l m:Bs):aP:=fun i=>none
theorem DG:df Tryz.prog az FD:=ah qE (ax)
theorem KU(l m:Bs)(k:PV->Prop):cD Tryz.prog FD az (FE l m) 1000 Tryz.f179 [.str l,.str m] k=(
 (List.length l<=1000000/\List.length m<=1000000)/\
 ((!iU l m)=true->k (PV.tup [PV.str l,PV.bool false]))/\
 ((!iU l m)=false->
 av (ai l-ai m)/\
 upto 0 (ai l-ai m) (ai l)/\
 k (PV.tup [PV.str (ab l (ai l-ai m)),PV.bool true]))):=by kernel_rfl
attribute [local irreducible] Go.Vc.cD
theorem KV(l m:Bs):ae Tryz.prog az 179 [.str l,.str m] ⟨l.length<=1000000/\m.length<=1000000,.tup [.str (gi l m).1,.bool (gi l m).2]⟩:=bR (by kernel_rfl) DG (H:=FE l m) (fuel:=1000) Tryz.func179 (by kernel_rfl) fun hpre=>(KU l m _).mpr (by
 obtain ⟨h1,h2⟩:=hpre;refine ⟨⟨h1,h2⟩,fun h=>?_,fun h=>⟨by unfold av ai;omega,?_,?_⟩⟩
 ·have e:¬iU l m=true:=by intro e;rw [e]at h;cases h
  have:gi l m=(l,false):=by unfold gi;rw [if_neg e]
  rw [this]
 ·have e:iU l m=true:=by cases e:iU l m with |true=>rfl|false=>rw [e]at h;cases h
  unfold iU at e;cases e2:decide (ai m<=ai l)with
  |false=>rw [e2]at e;cases e
  |true=>have:=of_decide_eq_true e2;unfold upto;unfold ai at this⊢;omega
 ·have e:iU l m=true:=by cases e:iU l m with |true=>rfl|false=>rw [e]at h;cases h
  have:gi l m=(ab l (ai l-ai m),true):=by unfold gi;rw [if_pos e]
  rw [this])
def pF:List PV->Option aD:=fun xs=>match xs with
 |[.str l,.str m]=>some ⟨l.length<=1000000/\m.length<=1000000,.tup [.str (gi l m).1,.bool (gi l m).2]⟩
 |_=>none
theorem yq:∀xs c,pF xs=some c->ae Tryz.prog az 179 xs c:=fun xs c h=>by
 unfold pF at h;split at h
 ·injection h with h;subst h;exact KV _ _
 ·cases h
end
section
def KW:cM:=bS [(179,pF)]
def KX(l m:Bs):aP:=fun i=>none
theorem Hy:df Tryz.prog az KW:=ah yq (ax)
theorem Nk(l m:Bs)(k:PV->Prop):cD Tryz.prog KW az (KX l m) 1000 Tryz.f169 [.str l,.str m] k=(
 (List.length l<=1000000/\List.length m<=1000000)/\
 k (PV.tup [PV.str (gi l m).1,PV.bool (gi l m).2])):=by kernel_rfl
attribute [local irreducible] Go.Vc.cD
theorem Nl(l m:Bs):ae Tryz.prog az 169 [.str l,.str m] ⟨l.length<=1000000/\m.length<=1000000,.tup [.str (gi l m).1,.bool (gi l m).2]⟩:=bR (by kernel_rfl) Hy (H:=KX l m) (fuel:=1000) Tryz.func169 (by kernel_rfl) fun hpre=>(Nk l m _).mpr (by
 exact ⟨hpre,rfl⟩)
def sZ:List PV->Option aD:=fun xs=>match xs with
 |[.str l,.str m]=>some ⟨l.length<=1000000/\m.length<=1000000,.tup [.str (gi l m).1,.bool (gi l m).2]⟩
 |_=>none
theorem AV:∀xs c,sZ xs=some c->ae Tryz.prog az 169 xs c:=fun xs c h=>by
 unfold sZ at h;split at h
 ·injection h with h;subst h;exact Nl _ _
 ·cases h
end
section
def s3:Bs:=[120,110,45,45]
def Px:Bs:=[46,120,110,45,45]
def lf(b:UInt8):Bool:=decide (b.toNat<=127)
def mM(l:Bs):Bool:=!l.all lf||preB l s3||hasB l Px
theorem AW(p:UInt8->Bool)(l:Bs)(j:Nat)(h:j<l.length):(l.take (j+1)).all p=((l.take j).all p&&p (l.getD j 0)):=by
 rw [List.take_add_one,List.getElem?_eq_getElem h,List.all_append,List.getD_eq_getElem?_getD,List.getElem?_eq_getElem h];simp
theorem rG(l:Bs)(j:Nat)(h:j<l.length):l.getD j 0∈l:=by
 rw [List.getD_eq_getElem?_getD,List.getElem?_eq_getElem h];exact List.getElem_mem h
def AX(l:Bs)(i:Int):Prop:=∃j:Nat,i=j/\j<=l.length/\(l.take j).all lf=true
def AY:cM:=bS [(78,dP),(185,xU)]
def AZ(l:Bs):aP:=fun i=>bif Nat.beq i 2 then some ⟨(Int),(fun s x=>((((s.put 6 (.int .i64 x)).put 3 .undef).put 7 .undef).put 12 .undef)),(fun s=>s.int 6),(fun s x=>let i:=x;AX l i),(fun s x=>let i:=x;((l.length:Int)-i).toNat),[3,7,12]⟩else none
theorem A0:df Tryz.prog az AY:=ah dq (ah Df (ax))
theorem Hz(l:Bs)(k:PV->Prop):cD Tryz.prog AY az (AZ l) 1000 Tryz.f172 [.str l] k=(
 eK (VS.mk []
 [(0,PV.str l),(2,PV.bool false),uZ 3,(5,PV.int .i64 (ai l)),
 (6,PV.int .i64 0),uZ 7,uZ 12]
 [])/\
 AX l 0/\
 ∀(x:Int),
 AX l x->
 (decide (x<ai l)=true->
 within x (ai l)/\
 (decide ((127:Int)<ag l x)=true->k (PV.bool true))/\
 (decide ((127:Int)<ag l x)=false->
 av (x+1)/\
 eK (VS.mk []
 [(0,PV.str l),(2,PV.bool false),uZ 3,
 (5,PV.int .i64 (ai l)),(6,PV.int .i64 (x+1)),
 uZ 7,uZ 12]
 [])/\
 AX l (x+1)/\(↑(List.length l)-(x+(1:Int))).toNat<(↑(List.length l)-x).toNat))/\
 (decide (x<ai l)=false->
 True/\
 (preB l (bL #[120,110,45,45])=false->
 (List.length l).le 1000000)/\
 k
 (PV.bool
 (bif preB l (bL #[120,110,45,45])then
 true
 else
 hasB l
 (bL #[46,120,110,45,45]))))):=by kernel_rfl
attribute [local irreducible] Go.Vc.cD
theorem HU(l:Bs):ae Tryz.prog az 172 [.str l] ⟨l.length<=1000000,.bool (mM l)⟩:=bR (by kernel_rfl) A0 (H:=AZ l) (fuel:=1000) Tryz.func172 (by kernel_rfl) fun hpre=>(Hz l _).mpr (by
 refine ⟨rfl,⟨0,rfl,by omega,rfl⟩,fun x hx=>?_⟩;obtain ⟨j,rfl,hj,ha⟩:=hx;have e1:(j:Int)+1=((j+1:Nat):Int):=by push_cast;rfl
 have hb:ag l (j:Int)=((l.getD j 0).toNat:Int):=rfl;rw [e1,hb];refine ⟨fun h=>?_,fun h=>?_⟩
 ·have hjl:j<l.length:=by have:=of_decide_eq_true h;unfold ai at this;omega
  refine ⟨by unfold within ai;omega,fun h2=>?_,fun h2=>⟨by unfold av;omega,rfl,⟨j+1,rfl,by omega,?_⟩,by omega⟩⟩
  ·have hf:l.all lf=false:=by
    rw [Bool.eq_false_iff];intro g;have g1:=List.all_eq_true.1 g _ (rG l j hjl);unfold lf at g1;have g2:=of_decide_eq_true g1;have g3:=of_decide_eq_true h2;omega
   show PV.bool true=PV.bool (mM l);unfold mM;rw [hf];rfl
  ·have g3:=of_decide_eq_false h2
   rw [AW lf l j hjl,ha,Bool.true_and];unfold lf;exact decide_eq_true (by omega)
 ·have hjl:j=l.length:=by have:=of_decide_eq_false h;unfold ai at this;omega
  rw [hjl,List.take_length]at ha;refine ⟨trivial,fun _=>hpre,?_⟩;show PV.bool (bif preB l s3 then true else hasB l Px)=PV.bool (mM l)
  unfold mM;rw [ha];cases preB l s3<;>rfl)
def mN:List PV->Option aD:=fun xs=>match xs with
 |[.str l]=>some ⟨l.length<=1000000,.bool (mM l)⟩
 |_=>none
theorem uC:∀xs c,mN xs=some c->ae Tryz.prog az 172 xs c:=fun xs c h=>by
 unfold mN at h;split at h
 ·injection h with h;subst h;exact HU _
 ·cases h
end
section
abbrev H5:=Int×Bs×Int×List Int×Int
def z8:List Int:=List.replicate 8 0
def ob(e:Int):H5:=(0,[],0,z8,e)
def eF(d:Bs):H5:=if mM d=true then ob 9 else if d=[]\/Mf d=true then ob 8 else if qY d=false then(2,d,0,z8,0)else if jP d=true then(3,[],cj d,z8,0)else ob 8
theorem A1(l:Bs):(br l).length=l.length:=by unfold br;rw [List.length_map]
theorem od:∀l:Bs,(bI l).length<=l.length
 |[]=>Nat.le_refl _
 |[b]=>Nat.le_refl _
 |[b,h]=>Nat.le_refl _
 |b::h::g::t=>by
  have h1:=od t;have h2:=od (h::g::t);show(if b.toNat=37/\0<=gV h.toNat/\0<=gV g.toNat then b4 (gV h.toNat*16+gV g.toNat)::bI t else b::bI (h::g::t)).length<=_
  split
  ·rw [List.length_cons];simp only [List.length_cons];omega
  ·rw [List.length_cons];simp only [List.length_cons]at h2⊢;omega
def KY:cM:=bS [(171,sI),(154,lK),(172,mN),(173,pE),(175,sH),(176,po)]
def KZ(l:Bs):aP:=fun i=>none
theorem HW:df Tryz.prog az KY:=ah Ai (ah nY (ah uC (ah yp (ah Ae (ah xV (ax))))))
theorem Nn(l:Bs)(k:PV->Prop):cD Tryz.prog KY az (KZ l) 1000 Tryz.f162 [.str l] k=(
 (List.length l).le 1000000/\
 (List.length (bI l)).le 1000000/\
 (List.length (br (bI l))).le 1000000/\
 (mM (br (bI l))=true->
 k
 (PV.tup
 [PV.agg
 [PV.int .i64 0,PV.str [],PV.int .u32 0,
 PV.arr 8 (al.ints .u16 (List.replicate (8:Nat) 0))],
 PV.int .i64 9]))/\
 (mM (br (bI l))=false->
 (decide (br (bI l)=(bL #[]))=false->True)/\
 ((bif decide (br (bI l)=(bL #[]))then true
 else Mf (br (bI l)))=
 true->
 k
 (PV.tup
 [PV.agg
 [PV.int .i64 0,PV.str [],PV.int .u32 0,
 PV.arr 8 (al.ints .u16 (List.replicate (8:Nat) 0))],
 PV.int .i64 8]))/\
 ((bif decide (br (bI l)=(bL #[]))then true
 else Mf (br (bI l)))=
 false->
 (List.length (br (bI l))).le 1000000/\
 ((!qY (br (bI l)))=true->
 k
 (PV.tup
 [PV.agg
 [PV.int .i64 2,
 PV.str (br (bI l)),
 PV.int .u32 0,
 PV.arr 8 (al.ints .u16 (List.replicate (8:Nat) 0))],
 PV.int .i64 0]))/\
 ((!qY (br (bI l)))=
 false->
 (List.length (br (bI l))).le 1000000/\
 ((!jP (br (bI l)))=
 true->
 k
 (PV.tup
 [PV.agg
 [PV.int .i64 0,PV.str [],PV.int .u32 0,
 PV.arr 8 (al.ints .u16 (List.replicate (8:Nat) 0))],
 PV.int .i64 8]))/\
 ((!jP
 (br (bI l)))=
 false->
 k
 (PV.tup
 [PV.agg
 [PV.int .i64 3,PV.str [],
 PV.int .u32
 (cj
 (br (bI l))),
 PV.arr 8 (al.ints .u16 (List.replicate (8:Nat) 0))],
 PV.int .i64 0])))))):=by kernel_rfl
attribute [local irreducible] Go.Vc.cD
theorem No(l:Bs):ae Tryz.prog az 162 [.str l] ⟨l.length<=1000000,.tup [.agg [.int .i64 (eF (br (bI l))).1,.str (eF (br (bI l))).2.1,.int .u32 (eF (br (bI l))).2.2.1,.arr 8 (.ints .u16 (eF (br (bI l))).2.2.2.1)],.int .i64 (eF (br (bI l))).2.2.2.2]⟩:=bR (by kernel_rfl) HW (H:=KZ l) (fuel:=1000) Tryz.func162 (by kernel_rfl) fun hpre=>(Nn l _).mpr (by
 have hd1:=od l;have hd2:=A1 (bI l);have hd:(br (bI l)).length<=1000000:=by omega
 obtain ⟨d,hdd⟩:∃d,br (bI l)=d:=⟨_,rfl⟩;rw [hdd]at hd⊢;refine ⟨hpre,Nat.le_trans hd1 hpre,hd,fun h=>?_,fun h=>⟨fun _=>trivial,fun h2=>?_,fun h2=>?_⟩⟩
 ·have:eF d=ob 9:=by unfold eF;rw [if_pos h]
  rw [this];rfl
 ·have h3:d=[]\/Mf d=true:=by
   cases e:decide (d=(bL #[]))with
   |true=>exact .inl (of_decide_eq_true e)
   |false=>rw [e]at h2;exact .inr h2
  have:eF d=ob 8:=by unfold eF;rw [if_neg (by rw [h];decide),if_pos h3]
  rw [this];rfl
 ·have h3:¬(d=[]\/Mf d=true):=by
   cases e:decide (d=(bL #[]))with
   |true=>rw [e]at h2;cases h2
   |false=>
    rw [e]at h2;have e2:¬d=[]:=of_decide_eq_false e;have h4:Mf d=false:=h2
    rintro (g|g)
    ·exact e2 g
    ·rw [h4]at g;cases g
  have hu:¬mM d=true:=by rw [h];decide
  refine ⟨hd,fun h4=>?_,fun h4=>⟨hd,fun h5=>?_,fun h5=>?_⟩⟩
  ·have e4:qY d=false:=by cases e:qY d with |false=>rfl|true=>rw [e]at h4;cases h4
   have:eF d=(2,d,0,z8,0):=by unfold eF;rw [if_neg hu,if_neg h3,if_pos e4]
   rw [this];rfl
  ·have e4:¬qY d=false:=by intro e;rw [e]at h4;cases h4
   have e5:¬jP d=true:=by intro e;rw [e]at h5;cases h5
   have:eF d=ob 8:=by unfold eF;rw [if_neg hu,if_neg h3,if_neg e4,if_neg e5]
   rw [this];rfl
  ·have e4:¬qY d=false:=by intro e;rw [e]at h4;cases h4
   have e5:jP d=true:=by cases e:jP d with |true=>rfl|false=>rw [e]at h5;cases h5
   have:eF d=(3,[],cj d,z8,0):=by unfold eF;rw [if_neg hu,if_neg h3,if_neg e4,if_pos e5]
   rw [this];rfl)
def oe:List PV->Option aD:=fun xs=>match xs with
 |[.str l]=>some ⟨l.length<=1000000,.tup [.agg [.int .i64 (eF (br (bI l))).1,.str (eF (br (bI l))).2.1,.int .u32 (eF (br (bI l))).2.2.1,.arr 8 (.ints .u16 (eF (br (bI l))).2.2.2.1)],.int .i64 (eF (br (bI l))).2.2.2.2]⟩
 |_=>none
theorem qF:∀xs c,oe xs=some c->ae Tryz.prog az 162 xs c:=fun xs c h=>by
 unfold oe at h;split at h
 ·injection h with h;subst h;exact No _
 ·cases h
end
section
def eL(t:Bs):H5:=if(gi t [93]).2=true/\(gq (gi t [93]).1).2=true then(4,[],0,(gq (gi t [93]).1).1,0)else ob 8
theorem K0(l m:Bs):(gi l m).1.length<=l.length:=by
 unfold gi;split
 ·show(l.take _).length<=_
  rw [List.length_take];omega
 ·exact Nat.le_refl _
def K1:cM:=bS [(169,sZ),(170,mG)]
def K2(l:Bs):aP:=fun i=>none
theorem HY:df Tryz.prog az K1:=ah AV (ah uy (ax))
theorem Np(l:Bs)(k:PV->Prop):cD Tryz.prog K1 az (K2 l) 1000 Tryz.f161 [.str l] k=(
 upto 1 (ai l) (ai l)/\
 ((aa l 1).length<=1000000/\(bL #[93]).length<=1000000)/\
 ((gi (aa l 1) (bL #[93])).2=true->
 (List.length (gi (aa l 1) (bL #[93])).1).le 1000000/\
 ((gq
 (gi (aa l 1) (bL #[93])).1).2=
 true->
 k
 (PV.tup
 [PV.agg
 [PV.int .i64 4,PV.str [],PV.int .u32 0,
 PV.arr 8
 (al.ints .u16
 (gq
 (gi (aa l 1) (bL #[93])).1).1)],
 PV.int .i64 0]))/\
 ((gq
 (gi (aa l 1) (bL #[93])).1).2=
 false->
 k
 (PV.tup
 [PV.agg
 [PV.int .i64 0,PV.str [],PV.int .u32 0,
 PV.arr 8 (al.ints .u16 (List.replicate (8:Nat) 0))],
 PV.int .i64 8])))/\
 ((gi (aa l 1) (bL #[93])).2=false->
 k
 (PV.tup
 [PV.agg
 [PV.int .i64 0,PV.str [],PV.int .u32 0,
 PV.arr 8 (al.ints .u16 (List.replicate (8:Nat) 0))],
 PV.int .i64 8]))):=by kernel_rfl
attribute [local irreducible] Go.Vc.cD
theorem Nq(l:Bs):ae Tryz.prog az 161 [.str l] ⟨1<=l.length/\l.length<=1000000,.tup [.agg [.int .i64 (eL (l.drop 1)).1,.str (eL (l.drop 1)).2.1,.int .u32 (eL (l.drop 1)).2.2.1,.arr 8 (.ints .u16 (eL (l.drop 1)).2.2.2.1)],.int .i64 (eL (l.drop 1)).2.2.2.2]⟩:=bR (by kernel_rfl) HY (H:=K2 l) (fuel:=1000) Tryz.func161 (by kernel_rfl) fun hpre=>(Np l _).mpr (by
 obtain ⟨h1,h2⟩:=hpre;have hd:aa l 1=l.drop 1:=rfl;have hl:(l.drop 1).length<=1000000:=by rw [List.length_drop];omega
 have hc:=K0 (l.drop 1) [93];rw [hd];refine ⟨⟨by omega,by unfold ai;omega,Int.le_refl _⟩,⟨hl,by decide⟩,fun h=>⟨Nat.le_trans hc hl,fun h3=>?_,fun h3=>?_⟩,fun h=>?_⟩
 ·have:eL (l.drop 1)=(4,[],0,(gq (gi (l.drop 1) [93]).1).1,0):=by unfold eL;rw [if_pos ⟨h,h3⟩]
  rw [this]
 ·have:eL (l.drop 1)=ob 8:=by unfold eL;rw [if_neg (fun g=>by have g2:(gq (gi (l.drop 1) [93]).1).2=false:=h3;rw [g.2]at g2;cases g2)]
  rw [this];rfl
 ·have:eL (l.drop 1)=ob 8:=by unfold eL;rw [if_neg (fun g=>by have g2:(gi (l.drop 1) [93]).2=false:=h;rw [g.1]at g2;cases g2)]
  rw [this];rfl)
def og:List PV->Option aD:=fun xs=>match xs with
 |[.str l]=>some ⟨1<=l.length/\l.length<=1000000,.tup [.agg [.int .i64 (eL (l.drop 1)).1,.str (eL (l.drop 1)).2.1,.int .u32 (eL (l.drop 1)).2.2.1,.arr 8 (.ints .u16 (eL (l.drop 1)).2.2.2.1)],.int .i64 (eL (l.drop 1)).2.2.2.2]⟩
 |_=>none
theorem qG:∀xs c,og xs=some c->ae Tryz.prog az 161 xs c:=fun xs c h=>by
 unfold og at h;split at h
 ·injection h with h;subst h;exact Nq _
 ·cases h
end
section
def b5(l:Bs):H5:=if preB l [91]=true then eL (l.drop 1)else eF (br (bI l))
def A2:cM:=bS [(78,dP),(161,og),(162,oe),(74,nW)]
def A3(l:Bs):aP:=fun i=>none
theorem A4:df Tryz.prog az A2:=ah dq (ah qG (ah qF (ah mF (ax))))
theorem HZ(l:Bs)(k:PV->Prop):cD Tryz.prog A2 az (A3 l) 1000 Tryz.f136 [.str l,.bool true] k=(
 True/\
 (preB l (bL #[91])=true->
 ((1:Nat)<=List.length l/\List.length l<=1000000)/\
 k
 (PV.tup
 [PV.agg
 [PV.int .i64 (eL (List.drop 1 l)).1,
 PV.str (eL (List.drop 1 l)).2.1,
 PV.int .u32 (eL (List.drop 1 l)).2.2.1,
 PV.arr 8 (al.ints .u16 (eL (List.drop 1 l)).2.2.2.1)],
 PV.int .i64 (eL (List.drop 1 l)).2.2.2.2]))/\
 (preB l (bL #[91])=false->
 (true=true->
 (List.length l).le 1000000/\
 k
 (PV.tup
 [PV.agg
 [PV.int .i64
 (eF (br (bI l))).1,
 PV.str
 (eF
 (br (bI l))).2.1,
 PV.int .u32
 (eF
 (br (bI l))).2.2.1,
 PV.arr 8
 (al.ints .u16
 (eF
 (br (bI l))).2.2.2.1)],
 PV.int .i64
 (eF
 (br (bI l))).2.2.2.2]))/\
 (true=false->
 (List.length l<=1000000/\
 (bL #[0,9,10,13,32,35,47,58,60,62,63,64,91,92,93,94,124]).length<=
 (1000000:Nat)/\
 ∀(b:UInt8),
 b∈
 (bL #[0,9,10,13,32,35,47,58,60,62,63,64,91,92,93,94,124])->
 b.toNat<128)/\
 (jc l
 (bL #[0,9,10,13,32,35,47,58,60,62,63,64,91,92,93,94,124])=
 true->
 k
 (PV.tup
 [PV.agg
 [PV.int .i64 0,PV.str [],PV.int .u32 0,
 PV.arr 8 (al.ints .u16 (List.replicate (8:Nat) 0))],
 PV.int .i64 8]))/\
 (jc l
 (bL #[0,9,10,13,32,35,47,58,60,62,63,64,91,92,93,94,124])=
 false->
 (decide (l=(bL #[]))=true->
 k
 (PV.tup
 [PV.agg
 [PV.int .i64 1,PV.str [],PV.int .u32 0,
 PV.arr 8 (al.ints .u16 (List.replicate (8:Nat) 0))],
 PV.int .i64 0]))/\
 (decide (l=(bL #[]))=false->False))))):=by kernel_rfl
attribute [local irreducible] Go.Vc.cD
theorem wy(l:Bs):ae Tryz.prog az 136 [.str l,.bool true] ⟨l.length<=1000000,.tup [.agg [.int .i64 (b5 l).1,.str (b5 l).2.1,.int .u32 (b5 l).2.2.1,.arr 8 (.ints .u16 (b5 l).2.2.2.1)],.int .i64 (b5 l).2.2.2.2]⟩:=bR (by kernel_rfl) A4 (H:=A3 l) (fuel:=1000) Tryz.func136 (by kernel_rfl) fun hpre=>(HZ l _).mpr (by
 have e91:(bL #[91])=([91]:Bs):=rfl;rw [e91];refine ⟨trivial,fun h=>⟨⟨?_,hpre⟩,?_⟩,fun h=>?_⟩
 ·cases l with
  |nil=>cases h
  |cons b r=>rw [List.length_cons];omega
 ·have:b5 l=eL (l.drop 1):=by unfold b5;rw [if_pos h]
  rw [this]
 ·have:b5 l=eF (br (bI l)):=by unfold b5;rw [if_neg (by rw [h];decide)]
  rw [this];exact ⟨fun _=>⟨hpre,rfl⟩,fun h=>by cases h⟩)
def mO:List PV->Option aD:=fun xs=>match xs with
 |[.str l,.bool true]=>some ⟨l.length<=1000000,.tup [.agg [.int .i64 (b5 l).1,.str (b5 l).2.1,.int .u32 (b5 l).2.2.1,.arr 8 (.ints .u16 (b5 l).2.2.2.1)],.int .i64 (b5 l).2.2.2.2]⟩
 |_=>none
theorem uD:∀xs c,mO xs=some c->ae Tryz.prog az 136 xs c:=fun xs c h=>by
 unfold mO at h;split at h
 ·injection h with h;subst h;exact wy _
 ·cases h
end
section
theorem wz(p:UInt8->Bool)(l:Bs)(j:Nat)(h:j<l.length):(l.take (j+1)).any p=((l.take j).any p||p (l.getD j 0)):=by
 rw [List.take_add_one,List.getElem?_eq_getElem h,List.any_append,List.getD_eq_getElem?_getD,List.getElem?_eq_getElem h];simp
def lW(c:Int)(dm:Bool):Bool:=cL.any (fun b=>decide ((b.toNat:Int)=c))||(dm&&(decide (c<32)||decide (c=37)||decide (c=127)))
def Nr(c i:Int):Prop:=∃j:Nat,i=j/\j<=17/\(cL.take j).any (fun b=>decide ((b.toNat:Int)=c))=false
def K3:cM:=bS []
def K4(c:Int)(dm:Bool):aP:=fun i=>bif Nat.beq i 3 then some ⟨(Int),(fun s x=>(((s.put 6 (.int .i64 x)).put 10 .undef).put 17 .undef)),(fun s=>s.int 6),(fun s x=>let i:=x;Nr c i),(fun s x=>let i:=x;(17-i).toNat),[10,17]⟩else none
theorem H0:df Tryz.prog az K3:=ax
theorem Ns(c:Int)(dm:Bool)(k:PV->Prop):cD Tryz.prog K3 az (K4 c dm) 1000 Tryz.f51 [.int .u8 c,.bool dm] k=(
 eK (VS.mk []
 [(0,PV.int .u8 c),(1,PV.bool dm),(4,PV.bool false),
 (5,
 PV.str
 (bL #[0,9,10,13,32,35,47,58,60,62,63,64,91,92,93,94,124])),
 (6,PV.int .i64 0),uZ 10,uZ 17]
 [])/\
 Nr c 0/\
 ∀(x:Int),
 Nr c x->
 (decide
 (x<
 ai
 (bL #[0,9,10,13,32,35,47,58,60,62,63,64,91,92,93,94,124]))=
 true->
 within x
 (ai
 (bL #[0,9,10,13,32,35,47,58,60,62,63,64,91,92,93,94,124]))/\
 (decide
 (ag
 (bL #[0,9,10,13,32,35,47,58,60,62,63,64,91,92,93,94,124])
 x=
 c)=
 true->
 k (PV.bool true))/\
 (decide
 (ag
 (bL #[0,9,10,13,32,35,47,58,60,62,63,64,91,92,93,94,124])
 x=
 c)=
 false->
 av (x+1)/\
 eK (VS.mk []
 [(0,PV.int .u8 c),(1,PV.bool dm),(4,PV.bool false),
 (5,
 PV.str
 (bL #[0,9,10,13,32,35,47,58,60,62,63,64,91,92,93,94,124])),
 (6,PV.int .i64 (x+1)),uZ 10,uZ 17]
 [])/\
 Nr c (x+1)/\((17:Int)-(x+1)).toNat<((17:Int)-x).toNat))/\
 (decide
 (x<
 ai
 (bL #[0,9,10,13,32,35,47,58,60,62,63,64,91,92,93,94,124]))=
 false->
 k
 (PV.bool
 (bif dm then bif bif decide (c<32)then true else decide (c=37)then true else decide (c=127)else false)))):=by kernel_rfl
attribute [local irreducible] Go.Vc.cD
theorem Nt(c:Int)(dm:Bool):ae Tryz.prog az 51 [.int .u8 c,.bool dm] ⟨0<=c/\c<=255,.bool (lW c dm)⟩:=bR (by kernel_rfl) H0 (H:=K4 c dm) (fuel:=1000) Tryz.func51 (by kernel_rfl) fun hpre=>(Ns c dm _).mpr (by
 have hL:(bL #[0,9,10,13,32,35,47,58,60,62,63,64,91,92,93,94,124])=cL:=rfl;have hn:ai cL=17:=rfl;have hn2:cL.length=17:=rfl;rw [hL,hn];refine ⟨rfl,⟨0,rfl,by omega,rfl⟩,fun x hx=>?_⟩;obtain ⟨j,rfl,hj,ha⟩:=hx;have e1:(j:Int)+1=((j+1:Nat):Int):=by push_cast;rfl
 have hb:ag cL (j:Int)=((cL.getD j 0).toNat:Int):=rfl;rw [hb];refine ⟨fun h=>?_,fun h=>?_⟩
 ·have hjl:j<17:=by have:=of_decide_eq_true h;omega
  refine ⟨by unfold within;omega,fun h2=>?_,fun h2=>⟨by unfold av;omega,rfl,⟨j+1,e1,by omega,?_⟩,by omega⟩⟩
  ·have:cL.any (fun b=>decide ((b.toNat:Int)=c))=true:=List.any_eq_true.2 ⟨_,rG cL j (by omega),h2⟩
   show PV.bool true=PV.bool (lW c dm);unfold lW;rw [this];rfl
  ·rw [wz _ cL j (by omega),ha,h2];rfl
 ·have hjl:j=17:=by have:=of_decide_eq_false h;omega
  subst hjl;have ha2:cL.any (fun b=>decide ((b.toNat:Int)=c))=false:=ha;show PV.bool _=PV.bool (lW c dm);unfold lW;rw [ha2];cases dm<;>cases decide (c<32)<;>cases decide (c=37)<;>cases decide (c=127)<;>rfl)
def s4:List PV->Option aD:=fun xs=>match xs with
 |[.int .u8 c,.bool dm]=>some ⟨0<=c/\c<=255,.bool (lW c dm)⟩
 |_=>none
theorem A5:∀xs c,s4 xs=some c->ae Tryz.prog az 51 xs c:=fun xs c h=>by
 unfold s4 at h;split at h
 ·injection h with h;subst h;exact Nt _ _
 ·cases h
end
section
def iy(l:Bs)(dm:Bool):Bool:=l.any (fun b=>lW b.toNat dm)
def Nu(l:Bs)(dm:Bool)(i:Int):Prop:=∃j:Nat,i=j/\j<=l.length/\(l.take j).any (fun b=>lW b.toNat dm)=false
def wA:cM:=bS [(51,s4)]
def wB(l:Bs)(dm:Bool):aP:=fun i=>bif Nat.beq i 2 then some ⟨(Int),(fun s x=>(((s.put 5 (.int .i64 x)).put 9 .undef).put 16 .undef)),(fun s=>s.int 5),(fun s x=>let i:=x;Nu l dm i),(fun s x=>let i:=x;((l.length:Int)-i).toNat),[9,16]⟩else none
theorem yr:df Tryz.prog az wA:=ah A5 (ax)
theorem DH(l:Bs)(dm:Bool)(k:PV->Prop):cD Tryz.prog wA az (wB l dm) 1000 Tryz.f34 [.str l,.bool dm] k=(
 eK (VS.mk []
 [(0,PV.str l),(1,PV.bool dm),(4,PV.bool false),(5,PV.int .i64 0),
 uZ 9,uZ 16]
 [])/\
 Nu l dm 0/\
 ∀(x:Int),
 Nu l dm x->
 (decide (x<ai l)=true->
 within x (ai l)/\
 ((0:Int)<=ag l x/\ag l x<=255)/\
 (lW (ag l x) dm=true->k (PV.bool true))/\
 (lW (ag l x) dm=false->
 av (x+1)/\
 eK (VS.mk []
 [(0,PV.str l),(1,PV.bool dm),(4,PV.bool false),
 (5,PV.int .i64 (x+1)),uZ 9,uZ 16]
 [])/\
 Nu l dm (x+1)/\
 (↑(List.length l)-(x+(1:Int))).toNat<(↑(List.length l)-x).toNat))/\
 (decide (x<ai l)=false->k (PV.bool false))):=by kernel_rfl
attribute [local irreducible] Go.Vc.cD
theorem DI(l:Bs)(dm:Bool):ae Tryz.prog az 34 [.str l,.bool dm] ⟨l.length<=1000000,.bool (iy l dm)⟩:=bR (by kernel_rfl) yr (H:=wB l dm) (fuel:=1000) Tryz.func34 (by kernel_rfl) fun hpre=>(DH l dm _).mpr (by
 refine ⟨rfl,⟨0,rfl,by omega,rfl⟩,fun x hx=>?_⟩;obtain ⟨j,rfl,hj,ha⟩:=hx;have e1:(j:Int)+1=((j+1:Nat):Int):=by push_cast;rfl
 have hb:ag l (j:Int)=((l.getD j 0).toNat:Int):=rfl;have hr:=en l (j:Int);rw [hb]at hr⊢;refine ⟨fun h=>?_,fun h=>?_⟩
 ·have hjl:j<l.length:=by have:=of_decide_eq_true h;unfold ai at this;omega
  refine ⟨by unfold within ai;omega,hr,fun h2=>?_,fun h2=>⟨by unfold av;omega,rfl,⟨j+1,e1,by omega,?_⟩,by omega⟩⟩
  ·have:iy l dm=true:=List.any_eq_true.2 ⟨_,rG l j hjl,h2⟩
   show PV.bool true=PV.bool (iy l dm);rw [this]
  ·rw [wz _ l j hjl,ha,h2];rfl
 ·have hjl:j=l.length:=by have:=of_decide_eq_false h;unfold ai at this;omega
  rw [hjl,List.take_length]at ha;show PV.bool false=PV.bool (iy l dm);rw [show iy l dm=false from ha])
def lg:List PV->Option aD:=fun xs=>match xs with
 |[.str l,.bool dm]=>some ⟨l.length<=1000000,.bool (iy l dm)⟩
 |_=>none
theorem s5:∀xs c,lg xs=some c->ae Tryz.prog az 34 xs c:=fun xs c h=>by
 unfold lg at h;split at h
 ·injection h with h;subst h;exact DI _ _
 ·cases h
end
section
theorem H6(p:Bs->Bool)(l:List Bs)(j:Nat)(h:j<l.length):(l.take (j+1)).any p=((l.take j).any p||p (l.getD j [])):=by
 rw [List.take_add_one,List.getElem?_eq_getElem h,List.any_append,List.getD_eq_getElem?_getD,List.getElem?_eq_getElem h];simp
theorem K5(p:Bs):(bif decide ((4:Int)<=ai p)then decide (ab p 4=s3)else false)=List.isPrefixOf s3 p:=by
 unfold ai ab
 match p with
 |[]=>rfl
 |[a]=>simp [s3,List.isPrefixOf]
 |[a,b]=>simp [s3,List.isPrefixOf]
 |[a,b,c]=>simp [s3,List.isPrefixOf]
 |a::b::c::d::r=>
  rw [decide_eq_true (show(4:Int)<=((a::b::c::d::r).length:Int) by simp only [List.length_cons];omega),cond_true];show decide ([a,b,c,d]=s3)=(((120:UInt8)==a)&&(((110:UInt8)==b)&&(((45:UInt8)==c)&&(((45:UInt8)==d)&&true))));rw [Bool.eq_iff_iff,decide_eq_true_iff];simp only [s3,List.cons.injEq,and_true,Bool.and_eq_true,beq_iff_eq];constructor
  ·rintro ⟨rfl,rfl,rfl,rfl⟩;exact ⟨rfl,rfl,rfl,rfl⟩
  ·rintro ⟨rfl,rfl,rfl,rfl⟩;exact ⟨rfl,rfl,rfl,rfl⟩
def pG(l:Bs):Bool:=!l.all lf||(splitB 46 l).any (fun p=>List.isPrefixOf s3 p)
def Nv(l:Bs)(i:Int):Prop:=∃j:Nat,i=j/\j<=(splitB 46 l).length/\((splitB 46 l).take j).any (fun p=>List.isPrefixOf s3 p)=false
def s6:cM:=bS [(57,jS)]
def s7(l:Bs):aP:=fun i=>bif Nat.beq i 2 then some ⟨(Int),(fun s x=>(((s.put 3 (.int .i64 x)).put 9 .undef).put 15 .undef)),(fun s=>s.int 3),(fun s x=>let i:=x;AX l i),(fun s x=>let i:=x;((l.length:Int)-i).toNat),[9,15]⟩else bif Nat.beq i 8 then some ⟨(Int),(fun s x=>(((s.put 5 (.int .i64 x)).put 21 .undef).put 37 .undef)),(fun s=>s.int 5),(fun s x=>let i:=x;Nv l i),(fun s x=>let i:=x;(((splitB 46 l).length:Int)-i).toNat),[21,37]⟩else none
theorem uE:df Tryz.prog az s6:=ah ki (ax)
theorem A6(l:Bs)(k:PV->Prop):cD Tryz.prog s6 az (s7 l) 1000 Tryz.f38 [.str l] k=(
 eK (VS.mk []
 [(0,PV.str l),(2,PV.bool false),(3,PV.int .i64 0),uZ 4,
 uZ 5,uZ 9,uZ 15,uZ 21,uZ 37]
 [])/\
 AX l 0/\
 ∀(x:Int),
 AX l x->
 (decide (x<ai l)=true->
 within x (ai l)/\
 (decide ((127:Int)<ag l x)=true->k (PV.bool true))/\
 (decide ((127:Int)<ag l x)=false->
 av (x+1)/\
 eK (VS.mk []
 [(0,PV.str l),(2,PV.bool false),(3,PV.int .i64 (x+1)),
 uZ 4,uZ 5,uZ 9,uZ 15,
 uZ 21,uZ 37]
 [])/\
 AX l (x+1)/\(↑(List.length l)-(x+(1:Int))).toNat<(↑(List.length l)-x).toNat))/\
 (decide (x<ai l)=false->
 (List.length l<=1000/\(0:Int)<=46/\(46:Int)<=255)/\
 eK (VS.mk []
 [(0,PV.str l),(2,PV.bool false),(3,PV.int .i64 x),
 (4,PV.row false (al.strs (splitB 46 l)) 0),
 (5,PV.int .i64 0),(9,PV.bool (decide (x<ai l))),uZ 15,
 uZ 21,uZ 37]
 [])/\
 Nv l 0/\
 ∀(x_1:Int),
 Nv l x_1->
 (decide (x_1<Int.ofNat (splitB 46 l).length)=true->
 within x_1 (Int.ofNat (splitB 46 l).length)/\
 (decide ((4:Int)<=ai (bt (splitB 46 l) x_1))=true->
 within x_1 (Int.ofNat (splitB 46 l).length))/\
 (decide ((4:Int)<=ai (bt (splitB 46 l) x_1))=true->
 upto 0 4 (ai (bt (splitB 46 l) x_1)))/\
 ((bif decide ((4:Int)<=ai (bt (splitB 46 l) x_1))then
 decide
 (ab (bt (splitB 46 l) x_1) 4=
 (bL #[120,110,45,45]))
 else false)=
 true->
 k (PV.bool true))/\
 ((bif decide ((4:Int)<=ai (bt (splitB 46 l) x_1))then
 decide
 (ab (bt (splitB 46 l) x_1) 4=
 (bL #[120,110,45,45]))
 else false)=
 false->
 av (x_1+1)/\
 eK (VS.mk []
 [(0,PV.str l),(2,PV.bool false),(3,PV.int .i64 x),
 (4,
 PV.row false (al.strs (splitB 46 l)) 0),
 (5,PV.int .i64 (x_1+1)),
 (9,PV.bool (decide (x<ai l))),uZ 15,
 uZ 21,uZ 37]
 [])/\
 Nv l (x_1+1)/\
 (↑(splitB 46 l).length-(x_1+(1:Int))).toNat<
 (↑(splitB 46 l).length-x_1).toNat))/\
 (decide (x_1<Int.ofNat (splitB 46 l).length)=false->k (PV.bool false)))):=by kernel_rfl
attribute [local irreducible] Go.Vc.cD
theorem A7(l:Bs):ae Tryz.prog az 38 [.str l] ⟨l.length<=1000,.bool (pG l)⟩:=bR (by kernel_rfl) uE (H:=s7 l) (fuel:=1000) Tryz.func38 (by kernel_rfl) fun hpre=>(A6 l _).mpr (by
 have hof:Int.ofNat (splitB 46 l).length=((splitB 46 l).length:Int):=rfl;rw [hof];refine ⟨rfl,⟨0,rfl,by omega,rfl⟩,fun x hx=>?_⟩;obtain ⟨j,rfl,hj,ha⟩:=hx;have e1:(j:Int)+1=((j+1:Nat):Int):=by push_cast;rfl
 have hb:ag l (j:Int)=((l.getD j 0).toNat:Int):=rfl;rw [e1,hb];refine ⟨fun h=>?_,fun h=>?_⟩
 ·have hjl:j<l.length:=by have:=of_decide_eq_true h;unfold ai at this;omega
  refine ⟨by unfold within ai;omega,fun h2=>?_,fun h2=>⟨by unfold av;omega,rfl,⟨j+1,rfl,by omega,?_⟩,by omega⟩⟩
  ·have hf:l.all lf=false:=by
    rw [Bool.eq_false_iff];intro g;have g1:=List.all_eq_true.1 g _ (rG l j hjl);unfold lf at g1;have g2:=of_decide_eq_true g1;have g3:=of_decide_eq_true h2;omega
   show PV.bool true=PV.bool (pG l);unfold pG;rw [hf];rfl
  ·have g3:=of_decide_eq_false h2
   rw [AW lf l j hjl,ha,Bool.true_and];unfold lf;exact decide_eq_true (by omega)
 ·have hjl:j=l.length:=by have:=of_decide_eq_false h;unfold ai at this;omega
  rw [hjl,List.take_length]at ha;refine ⟨⟨hpre,by decide,by decide⟩,rfl,⟨0,rfl,by omega,rfl⟩,fun y hy=>?_⟩;obtain ⟨i,rfl,hi,hb2⟩:=hy;have e2:(i:Int)+1=((i+1:Nat):Int):=by push_cast;rfl
  have hp:=K5 (bt (splitB 46 l) (i:Int));have hs:bt (splitB 46 l) (i:Int)=(splitB 46 l).getD i []:=rfl;refine ⟨fun h=>?_,fun h=>?_⟩
  ·have hil:i<(splitB 46 l).length:=by have:=of_decide_eq_true h;omega
   refine ⟨by unfold within;omega,fun _=>by unfold within;omega,fun h3=>⟨by omega,by omega,of_decide_eq_true h3⟩,fun h3=>?_,fun h3=>⟨by unfold av;have:=(et 46 l).1;omega,rfl,⟨i+1,e2,by omega,?_⟩,by omega⟩⟩
   ·have h4:List.isPrefixOf s3 (bt (splitB 46 l) (i:Int))=true:=by rw [<-hp];exact h3
    have h5:(splitB 46 l).any (fun p=>List.isPrefixOf s3 p)=true:=by
     refine List.any_eq_true.2 ⟨bt (splitB 46 l) (i:Int),?_,h4⟩;rw [hs,List.getD_eq_getElem?_getD,List.getElem?_eq_getElem hil];exact List.getElem_mem hil
    show PV.bool true=PV.bool (pG l);unfold pG;rw [h5,Bool.or_true]
   ·have h4:List.isPrefixOf s3 (bt (splitB 46 l) (i:Int))=false:=by rw [<-hp];exact h3
    rw [H6 _ _ i hil,hb2,<-hs,h4];rfl
  ·have hil:i=(splitB 46 l).length:=by have:=of_decide_eq_false h;omega
   rw [hil,List.take_length]at hb2;show PV.bool false=PV.bool (pG l);unfold pG;rw [ha,hb2];rfl)
def km:List PV->Option aD:=fun xs=>match xs with
 |[.str l]=>some ⟨l.length<=1000,.bool (pG l)⟩
 |_=>none
theorem ra:∀xs c,km xs=some c->ae Tryz.prog az 38 xs c:=fun xs c h=>by
 unfold km at h;split at h
 ·injection h with h;subst h;exact A7 _
 ·cases h
end
end Go.Proofs.YtmfapopclbnlpaaGreatDoor
