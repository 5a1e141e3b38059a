import Derived.Shelf.Strings.FuncGrows
import Derived.Lib.TrimAscii
import Derived.Test.YtmfapopclbnlpaaGreatDoorProg
import Derived.ProofKit
import Derived.Test.YtmfapopclbnlpaaGreatDoorSt6
import Derived.Test.YtmfapopclbnlpaaGreatDoorSt18
set_option linter.unusedVariables false
set_option linter.unusedSimpArgs false
set_option maxRecDepth 100000
set_option maxHeartbeats 4000000
namespace Go.Proofs.YtmfapopclbnlpaaGreatDoor
open Go Go.Proofs Go.RowKit Go.Vc
theorem o5.below {w w':World}(h:o5 w)(hb:Below w.heap.size w w'):o5 w':=
 Wd.mono (self:=K7) w w' hb.os hb.tape hb.output hb.size (fun k hk=>hb.block k (Nat.lt_of_lt_of_le hk (Wd.within (self:=K7) w h))) h
theorem xB(w:World)(hw:o5 w):PredGrows Tryz.prog 174 #[] (fun x=>IA x) w:=fun W x hx hb=>
 ((FN (x:Int)).walk Tryz.func174 (by kernel_rfl) rfl ⟨by omega,by omega⟩ (s6 W) (zl _) (hw.below hb) (vs:=[.int .i32 x]) ⟨_,_,rfl,rfl,rfl⟩).mono fun e w' ⟨u,he,F',_,hb,_,_,_,_,hr⟩=>⟨by rw [he];exact congrArg _ hr,hb⟩
def JJ(l:Bs):Bool:=decide (0≤Lib.idxFunc (fun x=>IA x) true ⟨l.toArray⟩)
theorem FV(l:Bs):ag Tryz.prog aA 173 [.str l,.fn (.func 174) [] []] ⟨True,.bool (JJ l)⟩:=
 ag.b9 Tryz.func173 (by kernel_rfl) rfl fun _ F w vs _ _ hw hx=>by
  obtain ⟨_,_,rfl,r1,_,_,rfl,r2,rfl⟩:=hx
  obtain rfl:=r1
  obtain ⟨us,vs,rfl,rfl,rfl⟩:=r2
  exact ⟨_,Any.strings_ContainsFunc_grows Tryz.Kv 174 #[] (enters_of Tryz.func174 (by kernel_rfl) rfl) _ ⟨l.toArray⟩ w (xB w hw),fun G w=>rfl⟩
def nN:List PV→Option aI:=fun xs=>match xs with |[.str l,.fn (.func 174) [] []]=>some ⟨True,.bool (JJ l)⟩|_=>none
theorem vh:∀xs c,nN xs=some c→ag Tryz.prog aA 173 xs c:=fun xs c h=>by
 unfold nN at h
 split at h
 ·injection h with h;subst h;exact FV _
 ·cases h
section
def ic(l m:Bs):Bool:=bif decide (al m≤al l)then decide (aa l (al l-al m)=m)else false
def FW:cq:=bR []
def FX(l m:Bs):ba:=fun i=>none
theorem Du:cS Tryz.prog aA FW:=ax
theorem IH(l m:Bs)(k:PV→Prop):cD Tryz.prog FW aA (FX l m) 1000 Tryz.f158 [.str l,.str m] k=(
 (decide (al m≤al l)=true→aG (al l-al m))∧
 (decide (al m≤al l)=true→upto (al l-al m) (al l) (al l))∧
 k (PV.bool (bif decide (al m≤al l)then decide (aa l (al l-al m)=m)else false))):=by kernel_rfl
attribute [local irreducible] Go.Vc.cD
theorem II(l m:Bs):ag Tryz.prog aA 158 [.str l,.str m] ⟨l.length≤1000000∧m.length≤1000000,.bool (ic l m)⟩:=b5 (by kernel_rfl) Du (H:=FX l m) (fuel:=1000) Tryz.func158 (by kernel_rfl) fun hpre=>(IH l m _).mpr (by
 exact ⟨fun h=>⟨by unfold al;omega,by unfold al;omega⟩,fun h=>⟨by have:=of_decide_eq_true h;omega,by unfold al;omega,Int.le_refl _⟩,rfl⟩)
def mz:List PV→Option aI:=fun xs=>match xs with
 |[.str l,.str m]=>some ⟨l.length≤1000000∧m.length≤1000000,.bool (ic l m)⟩
 |_=>none
theorem oL:∀xs c,mz xs=some c→ag Tryz.prog aA 158 xs c:=fun xs c h=>by
 unfold mz at h
 split at h
 ·injection h with h;subst h;exact II _ _
 ·cases h
end
section
def fj(l m:Bs):Bs×Bool:=if ic l m=true then(ae l (al l-al m),true)else(l,false)
def BL:cq:=bR [(158,mz)]
def BM(l m:Bs):ba:=fun i=>none
theorem z7:cS Tryz.prog aA BL:=ai oL (ax)
theorem FY(l m:Bs)(k:PV→Prop):cD Tryz.prog BL aA (BM l m) 1000 Tryz.f179 [.str l,.str m] k=(
 (List.length l≤(1000000:Nat)∧List.length m≤(1000000:Nat))∧
 ((!ic l m)=true→k (PV.tup [PV.str l,PV.bool false]))∧
 ((!ic l m)=false→
 aG (al l-al m)∧
 upto (0:Int) (al l-al m) (al l)∧
 k (PV.tup [PV.str (ae l (al l-al m)),PV.bool true]))):=by kernel_rfl
attribute [local irreducible] Go.Vc.cD
theorem FZ(l m:Bs):ag Tryz.prog aA 179 [.str l,.str m] ⟨l.length≤1000000∧m.length≤1000000,.tup [.str (fj l m).1,.bool (fj l m).2]⟩:=b5 (by kernel_rfl) z7 (H:=BM l m) (fuel:=1000) Tryz.func179 (by kernel_rfl) fun hpre=>(FY l m _).mpr (by
 obtain ⟨h1,h2⟩:=hpre
 refine ⟨⟨h1,h2⟩,fun h=>?_,fun h=>⟨by unfold aG al;omega,?_,?_⟩⟩
 ·have e:¬ic l m=true:=by intro e;rw [e]at h;cases h
  have:fj l m=(l,false):=by unfold fj;rw [if_neg e]
  rw [this]
 ·have e:ic l m=true:=by cases e:ic l m with |true=>rfl|false=>rw [e]at h;cases h
  unfold ic at e
  cases e2:decide (al m≤al l)with
  |false=>rw [e2]at e;cases e
  |true=>have:=of_decide_eq_true e2;unfold upto;unfold al at this⊢;omega
 ·have e:ic l m=true:=by cases e:ic l m with |true=>rfl|false=>rw [e]at h;cases h
  have:fj l m=(ae l (al l-al m),true):=by unfold fj;rw [if_pos e]
  rw [this])
def nO:List PV→Option aI:=fun xs=>match xs with
 |[.str l,.str m]=>some ⟨l.length≤1000000∧m.length≤1000000,.tup [.str (fj l m).1,.bool (fj l m).2]⟩
 |_=>none
theorem vi:∀xs c,nO xs=some c→ag Tryz.prog aA 179 xs c:=fun xs c h=>by
 unfold nO at h
 split at h
 ·injection h with h;subst h;exact FZ _ _
 ·cases h
end
section
def F1:cq:=bR [(179,nO)]
def F2(l m:Bs):ba:=fun i=>none
theorem Dv:cS Tryz.prog aA F1:=ai vi (ax)
theorem IJ(l m:Bs)(k:PV→Prop):cD Tryz.prog F1 aA (F2 l m) 1000 Tryz.f169 [.str l,.str m] k=(
 (List.length l≤(1000000:Nat)∧List.length m≤(1000000:Nat))∧
 k (PV.tup [PV.str (fj l m).1,PV.bool (fj l m).2])):=by kernel_rfl
attribute [local irreducible] Go.Vc.cD
theorem IK(l m:Bs):ag Tryz.prog aA 169 [.str l,.str m] ⟨l.length≤1000000∧m.length≤1000000,.tup [.str (fj l m).1,.bool (fj l m).2]⟩:=b5 (by kernel_rfl) Dv (H:=F2 l m) (fuel:=1000) Tryz.func169 (by kernel_rfl) fun hpre=>(IJ l m _).mpr (by
 exact ⟨hpre,rfl⟩)
def qL:List PV→Option aI:=fun xs=>match xs with
 |[.str l,.str m]=>some ⟨l.length≤1000000∧m.length≤1000000,.tup [.str (fj l m).1,.bool (fj l m).2]⟩
 |_=>none
theorem xC:∀xs c,qL xs=some c→ag Tryz.prog aA 169 xs c:=fun xs c h=>by
 unfold qL at h
 split at h
 ·injection h with h;subst h;exact IK _ _
 ·cases h
end
section
def L2:Bs:=[120,110,45,45]
def Lz:Bs:=[46,120,110,45,45]
def Dw(b:UInt8):Bool:=decide (b.toNat≤127)
def se(l:Bs):Bool:=!l.all Dw||preB l L2||hasB l Lz
theorem F3(p:UInt8→Bool)(l:Bs)(j:Nat)(h:j<l.length):(l.take (j+1)).all p=((l.take j).all p&&p (l.getD j 0)):=by
 rw [List.take_add_one,List.getElem?_eq_getElem h,List.all_append,List.getD_eq_getElem?_getD,List.getElem?_eq_getElem h]
 simp
theorem IL(l:Bs)(j:Nat)(h:j<l.length):l.getD j 0∈l:=by
 rw [List.getD_eq_getElem?_getD,List.getElem?_eq_getElem h]
 exact List.getElem_mem h
def IM(l:Bs)(i:Int):Prop:=∃j:Nat,i=j∧j≤l.length∧(l.take j).all Dw=true
def xD:cq:=bR [(78,da),(185,u3)]
def xE(l:Bs):ba:=fun i=>bif Nat.beq i 2 then some ⟨(Int),(fun s x=>((((s.put 6 (.int .i64 x)).put 3 .undef).put 7 .undef).put 12 .undef)),(fun s=>s.int 6),(fun s x=>let i:=x;IM l i),(fun s x=>let i:=x;((l.length:Int)-i).toNat),[3,7,12]⟩else none
theorem xF:cS Tryz.prog aA xD:=ai cK (ai zN (ax))
theorem Dx(l:Bs)(k:PV→Prop):cD Tryz.prog xD aA (xE l) 1000 Tryz.f172 [.str l] k=(
 VS.mk []
 [(0,PV.str l),(2,PV.bool false),((3:Nat),PV.undef),(5,PV.int .i64 (al l)),
 (6,PV.int .i64 (0:Int)),((7:Nat),PV.undef),((12:Nat),PV.undef)]
 []=
 VS.mk []
 [(0,PV.str l),(2,PV.bool false),((3:Nat),PV.undef),(5,PV.int .i64 (al l)),
 ((6:Nat),PV.int .i64 (0:Int)),((7:Nat),PV.undef),((12:Nat),PV.undef)]
 []∧
 IM l (0:Int)∧
 ∀(x:Int),
 IM l x→
 (decide (x<al l)=true→
 within x (al l)∧
 (decide ((127:Int)<ak l x)=true→k (PV.bool true))∧
 (decide ((127:Int)<ak l x)=false→
 aG (x+(1:Int))∧
 VS.mk []
 [(0,PV.str l),(2,PV.bool false),((3:Nat),PV.undef),
 (5,PV.int .i64 (al l)),((6:Nat),PV.int .i64 (x+(1:Int))),
 ((7:Nat),PV.undef),((12:Nat),PV.undef)]
 []=
 VS.mk []
 [(0,PV.str l),(2,PV.bool false),((3:Nat),PV.undef),
 (5,PV.int .i64 (al l)),((6:Nat),PV.int .i64 (x+(1:Int))),
 ((7:Nat),PV.undef),((12:Nat),PV.undef)]
 []∧
 IM l (x+(1:Int))∧(↑(List.length l)-(x+(1:Int))).toNat<(↑(List.length l)-x).toNat))∧
 (decide (x<al l)=false→
 True∧
 (preB l (ByteArray.mk #[120,110,45,45]).data.toList=false→
 (List.length l).le (1000000:Nat))∧
 k
 (PV.bool
 (bif preB l (ByteArray.mk #[120,110,45,45]).data.toList then
 true
 else
 hasB l
 (ByteArray.mk #[46,120,110,45,45]).data.toList)))):=by kernel_rfl
attribute [local irreducible] Go.Vc.cD
theorem Dy(l:Bs):ag Tryz.prog aA 172 [.str l] ⟨l.length≤1000000,.bool (se l)⟩:=b5 (by kernel_rfl) xF (H:=xE l) (fuel:=1000) Tryz.func172 (by kernel_rfl) fun hpre=>(Dx l _).mpr (by
 refine ⟨rfl,⟨0,rfl,by omega,rfl⟩,fun x hx=>?_⟩
 obtain ⟨j,rfl,hj,ha⟩:=hx
 have e1:(j:Int)+1=((j+1:Nat):Int):=by push_cast;rfl
 have hb:ak l (j:Int)=((l.getD j 0).toNat:Int):=rfl
 rw [e1,hb]
 refine ⟨fun h=>?_,fun h=>?_⟩
 ·have hjl:j<l.length:=by have:=of_decide_eq_true h;unfold al at this;omega
  refine ⟨by unfold within al;omega,fun h2=>?_,fun h2=>⟨by unfold aG;omega,rfl,⟨j+1,rfl,by omega,?_⟩,by omega⟩⟩
  ·have hf:l.all Dw=false:=by
    rw [Bool.eq_false_iff]
    intro g
    have g1:=List.all_eq_true.1 g _ (IL l j hjl)
    unfold Dw at g1
    have g2:=of_decide_eq_true g1
    have g3:=of_decide_eq_true h2
    omega
   show PV.bool true=PV.bool (se l)
   unfold se
   rw [hf];rfl
  ·have g3:=of_decide_eq_false h2
   rw [F3 Dw l j hjl,ha,Bool.true_and]
   unfold Dw
   exact decide_eq_true (by omega)
 ·have hjl:j=l.length:=by have:=of_decide_eq_false h;unfold al at this;omega
  rw [hjl,List.take_length]at ha
  refine ⟨trivial,fun _=>hpre,?_⟩
  show PV.bool (bif preB l L2 then true else hasB l Lz)=PV.bool (se l)
  unfold se
  rw [ha]
  cases preB l L2<;>rfl)
def lv:List PV→Option aI:=fun xs=>match xs with
 |[.str l]=>some ⟨l.length≤1000000,.bool (se l)⟩
 |_=>none
theorem sf:∀xs c,lv xs=some c→ag Tryz.prog aA 172 xs c:=fun xs c h=>by
 unfold lv at h
 split at h
 ·injection h with h;subst h;exact Dy _
 ·cases h
end
section
abbrev H5:=Int×Bs×Int×List Int×Int
def z8:List Int:=List.replicate 8 0
def F4(e:Int):H5:=(0,[],0,z8,e)
def eB(d:Bs):H5:=if se d=true then F4 9 else if d=[]∨JJ d=true then F4 8 else if uZ d=false then(2,d,0,z8,0)else if oJ d=true then(3,[],cu d,z8,0)else F4 8
theorem F5(l:Bs):(bE l).length=l.length:=by unfold bE;rw [List.length_map]
theorem qM:∀l:Bs,(cl l).length≤l.length
 |[]=>Nat.le_refl _
 |[b]=>Nat.le_refl _
 |[b,h]=>Nat.le_refl _
 |b::h::g::t=>by
  have h1:=qM t
  have h2:=qM (h::g::t)
  show(if b.toNat=37∧0≤ga h.toNat∧0≤ga g.toNat then bo (ga h.toNat*16+ga g.toNat)::cl t else b::cl (h::g::t)).length≤_
  split
  ·rw [List.length_cons];simp only [List.length_cons];omega
  ·rw [List.length_cons];simp only [List.length_cons]at h2⊢;omega
def F6:cq:=bR [(171,qG),(154,kr),(172,lv),(173,nN),(175,qF),(176,nJ)]
def F7(l:Bs):ba:=fun i=>none
theorem Dz:cS Tryz.prog aA F6:=ai xm (ai my (ai sf (ai vh (ai xi (ai u4 (ax))))))
theorem IN(l:Bs)(k:PV→Prop):cD Tryz.prog F6 aA (F7 l) 1000 Tryz.f162 [.str l] k=(
 (List.length l).le (1000000:Nat)∧
 (List.length (cl l)).le (1000000:Nat)∧
 (List.length (bE (cl l))).le (1000000:Nat)∧
 (se (bE (cl l))=true→
 k
 (PV.tup
 [PV.agg
 [PV.int .i64 (0:Int),PV.str [],PV.int .u32 (0:Int),
 PV.arr (8:Nat) (ar.ints .u16 (List.replicate (8:Nat) (0:Int)))],
 PV.int .i64 (9:Int)]))∧
 (se (bE (cl l))=false→
 (decide (bE (cl l)=(ByteArray.mk #[]).data.toList)=false→True)∧
 ((bif decide (bE (cl l)=(ByteArray.mk #[]).data.toList)then true
 else JJ (bE (cl l)))=
 true→
 k
 (PV.tup
 [PV.agg
 [PV.int .i64 (0:Int),PV.str [],PV.int .u32 (0:Int),
 PV.arr (8:Nat) (ar.ints .u16 (List.replicate (8:Nat) (0:Int)))],
 PV.int .i64 (8:Int)]))∧
 ((bif decide (bE (cl l)=(ByteArray.mk #[]).data.toList)then true
 else JJ (bE (cl l)))=
 false→
 (List.length (bE (cl l))).le (1000000:Nat)∧
 ((!uZ (bE (cl l)))=true→
 k
 (PV.tup
 [PV.agg
 [PV.int .i64 (2:Int),
 PV.str (bE (cl l)),
 PV.int .u32 (0:Int),
 PV.arr (8:Nat) (ar.ints .u16 (List.replicate (8:Nat) (0:Int)))],
 PV.int .i64 (0:Int)]))∧
 ((!uZ (bE (cl l)))=
 false→
 (List.length (bE (cl l))).le (1000000:Nat)∧
 ((!oJ (bE (cl l)))=
 true→
 k
 (PV.tup
 [PV.agg
 [PV.int .i64 (0:Int),PV.str [],PV.int .u32 (0:Int),
 PV.arr (8:Nat) (ar.ints .u16 (List.replicate (8:Nat) (0:Int)))],
 PV.int .i64 (8:Int)]))∧
 ((!oJ
 (bE (cl l)))=
 false→
 k
 (PV.tup
 [PV.agg
 [PV.int .i64 (3:Int),PV.str [],
 PV.int .u32
 (cu
 (bE (cl l))),
 PV.arr (8:Nat) (ar.ints .u16 (List.replicate (8:Nat) (0:Int)))],
 PV.int .i64 (0:Int)])))))):=by kernel_rfl
attribute [local irreducible] Go.Vc.cD
theorem IP(l:Bs):ag Tryz.prog aA 162 [.str l] ⟨l.length≤1000000,.tup [.agg [.int .i64 (eB (bE (cl l))).1,.str (eB (bE (cl l))).2.1,.int .u32 (eB (bE (cl l))).2.2.1,.arr 8 (.ints .u16 (eB (bE (cl l))).2.2.2.1)],.int .i64 (eB (bE (cl l))).2.2.2.2]⟩:=b5 (by kernel_rfl) Dz (H:=F7 l) (fuel:=1000) Tryz.func162 (by kernel_rfl) fun hpre=>(IN l _).mpr (by
 have hd1:=qM l
 have hd2:=F5 (cl l)
 have hd:(bE (cl l)).length≤1000000:=by omega
 obtain ⟨d,hdd⟩:∃d,bE (cl l)=d:=⟨_,rfl⟩
 rw [hdd]at hd⊢
 refine ⟨hpre,Nat.le_trans hd1 hpre,hd,fun h=>?_,fun h=>⟨fun _=>trivial,fun h2=>?_,fun h2=>?_⟩⟩
 ·have:eB d=F4 9:=by unfold eB;rw [if_pos h]
  rw [this];rfl
 ·have h3:d=[]∨JJ d=true:=by
   cases e:decide (d=(ByteArray.mk #[]).data.toList)with
   |true=>exact .inl (of_decide_eq_true e)
   |false=>rw [e]at h2;exact .inr h2
  have:eB d=F4 8:=by unfold eB;rw [if_neg (by rw [h];decide),if_pos h3]
  rw [this];rfl
 ·have h3:¬(d=[]∨JJ d=true):=by
   cases e:decide (d=(ByteArray.mk #[]).data.toList)with
   |true=>rw [e]at h2;cases h2
   |false=>
    rw [e]at h2
    have e2:¬d=[]:=of_decide_eq_false e
    have h4:JJ d=false:=h2
    rintro (g|g)
    ·exact e2 g
    ·rw [h4]at g;cases g
  have hu:¬se d=true:=by rw [h];decide
  refine ⟨hd,fun h4=>?_,fun h4=>⟨hd,fun h5=>?_,fun h5=>?_⟩⟩
  ·have e4:uZ d=false:=by cases e:uZ d with |false=>rfl|true=>rw [e]at h4;cases h4
   have:eB d=(2,d,0,z8,0):=by unfold eB;rw [if_neg hu,if_neg h3,if_pos e4]
   rw [this];rfl
  ·have e4:¬uZ d=false:=by intro e;rw [e]at h4;cases h4
   have e5:¬oJ d=true:=by intro e;rw [e]at h5;cases h5
   have:eB d=F4 8:=by unfold eB;rw [if_neg hu,if_neg h3,if_neg e4,if_neg e5]
   rw [this];rfl
  ·have e4:¬uZ d=false:=by intro e;rw [e]at h4;cases h4
   have e5:oJ d=true:=by cases e:oJ d with |true=>rfl|false=>rw [e]at h5;cases h5
   have:eB d=(3,[],cu d,z8,0):=by unfold eB;rw [if_neg hu,if_neg h3,if_neg e4,if_pos e5]
   rw [this];rfl)
def mA:List PV→Option aI:=fun xs=>match xs with
 |[.str l]=>some ⟨l.length≤1000000,.tup [.agg [.int .i64 (eB (bE (cl l))).1,.str (eB (bE (cl l))).2.1,.int .u32 (eB (bE (cl l))).2.2.1,.arr 8 (.ints .u16 (eB (bE (cl l))).2.2.2.1)],.int .i64 (eB (bE (cl l))).2.2.2.2]⟩
 |_=>none
theorem oM:∀xs c,mA xs=some c→ag Tryz.prog aA 162 xs c:=fun xs c h=>by
 unfold mA at h
 split at h
 ·injection h with h;subst h;exact IP _
 ·cases h
end
section
def eR(t:Bs):H5:=if(fj t [93]).2=true∧(il (fj t [93]).1).2=true then(4,[],0,(il (fj t [93]).1).1,0)else F4 8
theorem F8(l m:Bs):(fj l m).1.length≤l.length:=by
 unfold fj
 split
 ·show(l.take _).length≤_
  rw [List.length_take];omega
 ·exact Nat.le_refl _
def F9:cq:=bR [(169,qL),(170,lu)]
def Ga(l:Bs):ba:=fun i=>none
theorem DA:cS Tryz.prog aA F9:=ai xC (ai r8 (ax))
theorem IQ(l:Bs)(k:PV→Prop):cD Tryz.prog F9 aA (Ga l) 1000 Tryz.f161 [.str l] k=(
 upto (1:Int) (al l) (al l)∧
 ((aa l (1:Int)).length≤(1000000:Nat)∧(ByteArray.mk #[93]).data.toList.length≤(1000000:Nat))∧
 ((fj (aa l (1:Int)) (ByteArray.mk #[93]).data.toList).2=true→
 (List.length (fj (aa l (1:Int)) (ByteArray.mk #[93]).data.toList).1).le (1000000:Nat)∧
 ((il
 (fj (aa l (1:Int)) (ByteArray.mk #[93]).data.toList).1).2=
 true→
 k
 (PV.tup
 [PV.agg
 [PV.int .i64 (4:Int),PV.str [],PV.int .u32 (0:Int),
 PV.arr (8:Nat)
 (ar.ints .u16
 (il
 (fj (aa l (1:Int)) (ByteArray.mk #[93]).data.toList).1).1)],
 PV.int .i64 (0:Int)]))∧
 ((il
 (fj (aa l (1:Int)) (ByteArray.mk #[93]).data.toList).1).2=
 false→
 k
 (PV.tup
 [PV.agg
 [PV.int .i64 (0:Int),PV.str [],PV.int .u32 (0:Int),
 PV.arr (8:Nat) (ar.ints .u16 (List.replicate (8:Nat) (0:Int)))],
 PV.int .i64 (8:Int)])))∧
 ((fj (aa l (1:Int)) (ByteArray.mk #[93]).data.toList).2=false→
 k
 (PV.tup
 [PV.agg
 [PV.int .i64 (0:Int),PV.str [],PV.int .u32 (0:Int),
 PV.arr (8:Nat) (ar.ints .u16 (List.replicate (8:Nat) (0:Int)))],
 PV.int .i64 (8:Int)]))):=by kernel_rfl
attribute [local irreducible] Go.Vc.cD
theorem IS(l:Bs):ag Tryz.prog aA 161 [.str l] ⟨1≤l.length∧l.length≤1000000,.tup [.agg [.int .i64 (eR (l.drop 1)).1,.str (eR (l.drop 1)).2.1,.int .u32 (eR (l.drop 1)).2.2.1,.arr 8 (.ints .u16 (eR (l.drop 1)).2.2.2.1)],.int .i64 (eR (l.drop 1)).2.2.2.2]⟩:=b5 (by kernel_rfl) DA (H:=Ga l) (fuel:=1000) Tryz.func161 (by kernel_rfl) fun hpre=>(IQ l _).mpr (by
 obtain ⟨h1,h2⟩:=hpre
 have hd:aa l 1=l.drop 1:=rfl
 have hl:(l.drop 1).length≤1000000:=by rw [List.length_drop];omega
 have hc:=F8 (l.drop 1) [93]
 rw [hd]
 refine ⟨⟨by omega,by unfold al;omega,Int.le_refl _⟩,⟨hl,by decide⟩,fun h=>⟨Nat.le_trans hc hl,fun h3=>?_,fun h3=>?_⟩,fun h=>?_⟩
 ·have:eR (l.drop 1)=(4,[],0,(il (fj (l.drop 1) [93]).1).1,0):=by unfold eR;rw [if_pos ⟨h,h3⟩]
  rw [this]
 ·have:eR (l.drop 1)=F4 8:=by unfold eR;rw [if_neg (fun g=>by have g2:(il (fj (l.drop 1) [93]).1).2=false:=h3;rw [g.2]at g2;cases g2)]
  rw [this];rfl
 ·have:eR (l.drop 1)=F4 8:=by unfold eR;rw [if_neg (fun g=>by have g2:(fj (l.drop 1) [93]).2=false:=h;rw [g.1]at g2;cases g2)]
  rw [this];rfl)
def mB:List PV→Option aI:=fun xs=>match xs with
 |[.str l]=>some ⟨1≤l.length∧l.length≤1000000,.tup [.agg [.int .i64 (eR (l.drop 1)).1,.str (eR (l.drop 1)).2.1,.int .u32 (eR (l.drop 1)).2.2.1,.arr 8 (.ints .u16 (eR (l.drop 1)).2.2.2.1)],.int .i64 (eR (l.drop 1)).2.2.2.2]⟩
 |_=>none
theorem oN:∀xs c,mB xs=some c→ag Tryz.prog aA 161 xs c:=fun xs c h=>by
 unfold mB at h
 split at h
 ·injection h with h;subst h;exact IS _
 ·cases h
end
section
def cv(l:Bs):H5:=if preB l [91]=true then eR (l.drop 1)else eB (bE (cl l))
def xG:cq:=bR [(78,da),(161,mB),(162,mA),(74,mv)]
def xH(l:Bs):ba:=fun i=>none
theorem xI:cS Tryz.prog aA xG:=ai cK (ai oN (ai oM (ai lr (ax))))
theorem DC(l:Bs)(k:PV→Prop):cD Tryz.prog xG aA (xH l) 1000 Tryz.f136 [.str l,.bool true] k=(
 True∧
 (preB l (ByteArray.mk #[91]).data.toList=true→
 ((1:Nat)≤List.length l∧List.length l≤(1000000:Nat))∧
 k
 (PV.tup
 [PV.agg
 [PV.int .i64 (eR (List.drop (1:Nat) l)).1,
 PV.str (eR (List.drop (1:Nat) l)).2.1,
 PV.int .u32 (eR (List.drop (1:Nat) l)).2.2.1,
 PV.arr (8:Nat) (ar.ints .u16 (eR (List.drop (1:Nat) l)).2.2.2.1)],
 PV.int .i64 (eR (List.drop (1:Nat) l)).2.2.2.2]))∧
 (preB l (ByteArray.mk #[91]).data.toList=false→
 (true=true→
 (List.length l).le (1000000:Nat)∧
 k
 (PV.tup
 [PV.agg
 [PV.int .i64
 (eB (bE (cl l))).1,
 PV.str
 (eB
 (bE (cl l))).2.1,
 PV.int .u32
 (eB
 (bE (cl l))).2.2.1,
 PV.arr (8:Nat)
 (ar.ints .u16
 (eB
 (bE (cl l))).2.2.2.1)],
 PV.int .i64
 (eB
 (bE (cl l))).2.2.2.2]))∧
 (true=false→
 (List.length l≤(1000000:Nat)∧
 (ByteArray.mk
 #[0,9,10,13,32,35,47,58,60,62,63,64,91,92,93,94,124]).data.toList.length≤
 (1000000:Nat)∧
 ∀(b:UInt8),
 b∈
 (ByteArray.mk
 #[0,9,10,13,32,35,47,58,60,62,63,64,91,92,93,94,124]).data.toList→
 b.toNat<(128:Nat))∧
 (ji l
 (ByteArray.mk
 #[0,9,10,13,32,35,47,58,60,62,63,64,91,92,93,94,124]).data.toList=
 true→
 k
 (PV.tup
 [PV.agg
 [PV.int .i64 (0:Int),PV.str [],PV.int .u32 (0:Int),
 PV.arr (8:Nat) (ar.ints .u16 (List.replicate (8:Nat) (0:Int)))],
 PV.int .i64 (8:Int)]))∧
 (ji l
 (ByteArray.mk
 #[0,9,10,13,32,35,47,58,60,62,63,64,91,92,93,94,124]).data.toList=
 false→
 (decide (l=(ByteArray.mk #[]).data.toList)=true→
 k
 (PV.tup
 [PV.agg
 [PV.int .i64 (1:Int),PV.str [],PV.int .u32 (0:Int),
 PV.arr (8:Nat) (ar.ints .u16 (List.replicate (8:Nat) (0:Int)))],
 PV.int .i64 (0:Int)]))∧
 (decide (l=(ByteArray.mk #[]).data.toList)=false→False))))):=by kernel_rfl
attribute [local irreducible] Go.Vc.cD
theorem tJ(l:Bs):ag Tryz.prog aA 136 [.str l,.bool true] ⟨l.length≤1000000,.tup [.agg [.int .i64 (cv l).1,.str (cv l).2.1,.int .u32 (cv l).2.2.1,.arr 8 (.ints .u16 (cv l).2.2.2.1)],.int .i64 (cv l).2.2.2.2]⟩:=b5 (by kernel_rfl) xI (H:=xH l) (fuel:=1000) Tryz.func136 (by kernel_rfl) fun hpre=>(DC l _).mpr (by
 have e91:(ByteArray.mk #[91]).data.toList=([91]:Bs):=rfl
 rw [e91]
 refine ⟨trivial,fun h=>⟨⟨?_,hpre⟩,?_⟩,fun h=>?_⟩
 ·cases l with
  |nil=>cases h
  |cons b r=>rw [List.length_cons];omega
 ·have:cv l=eR (l.drop 1):=by unfold cv;rw [if_pos h]
  rw [this]
 ·have:cv l=eB (bE (cl l)):=by unfold cv;rw [if_neg (by rw [h];decide)]
  rw [this]
  exact ⟨fun _=>⟨hpre,rfl⟩,fun h=>by cases h⟩)
def lx:List PV→Option aI:=fun xs=>match xs with
 |[.str l,.bool true]=>some ⟨l.length≤1000000,.tup [.agg [.int .i64 (cv l).1,.str (cv l).2.1,.int .u32 (cv l).2.2.1,.arr 8 (.ints .u16 (cv l).2.2.2.1)],.int .i64 (cv l).2.2.2.2]⟩
 |_=>none
theorem sg:∀xs c,lx xs=some c→ag Tryz.prog aA 136 xs c:=fun xs c h=>by
 unfold lx at h
 split at h
 ·injection h with h;subst h;exact tJ _
 ·cases h
end
end Go.Proofs.YtmfapopclbnlpaaGreatDoor
