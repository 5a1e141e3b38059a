import Derived.Shelf.Strings.FuncGrows
import Derived.Lib.TrimAscii
import Derived.Test.YtmfapopclbnlpaaGreatDoorProg
import Derived.ProofKit
import Derived.Test.YtmfapopclbnlpaaGreatDoorPt6
import Derived.Test.YtmfapopclbnlpaaGreatDoorPt18
set_option linter.unusedVariables false
set_option linter.unusedSimpArgs false
set_option maxRecDepth 100000
set_option maxHeartbeats 4000000
namespace Go.Proofs.YtmfapopclbnlpaaGreatDoor
open Go Go.Proofs Go.RowKit Go.Vc
theorem oL.below {w w':World}(h:oL w)(hb:Below w.heap.size w w'):oL w':=
 Wd.mono (self:=Kj) w w' hb.os hb.tape hb.output hb.size (fun k hk=>hb.block k (Nat.lt_of_lt_of_le hk (Wd.within (self:=Kj) w h))) h
theorem w9(w:World)(hw:oL w):PredGrows Tryz.prog 174 #[] (fun x=>Hp x) w:=fun W x hx hb=>
 ((E4 (x:Int)).walk Tryz.func174 (by kernel_rfl) rfl ⟨by omega,by omega⟩ (sD W) (yP _) (hw.below hb) (vs:=[.int .i32 x]) ⟨_,_,rfl,rfl,rfl⟩).mono fun e w' ⟨u,he,F',_,hb,_,_,_,_,hr⟩=>⟨by rw [he];exact congrArg _ hr,hb⟩
def I3(l:Bs):Bool:=decide (0≤Lib.idxFunc (fun x=>Hp x) true ⟨l.toArray⟩)
theorem Fb(l:Bs):ag Tryz.prog ay 173 [.str l,.fn (.func 174) [] []] ⟨True,.bool (I3 l)⟩:=
 ag.b4 Tryz.func173 (by kernel_rfl) rfl fun _ F w vs _ _ hw hx=>by
  obtain ⟨_,_,rfl,r1,_,_,rfl,r2,rfl⟩:=hx
  obtain rfl:=r1
  obtain ⟨us,vs,rfl,rfl,rfl⟩:=r2
  exact ⟨_,Any.strings_ContainsFunc_grows Tryz.JI 174 #[] (enters_of Tryz.func174 (by kernel_rfl) rfl) _ ⟨l.toArray⟩ w (w9 w hw),fun G w=>rfl⟩
def nw:List PV→Option aF:=fun xs=>match xs with |[.str l,.fn (.func 174) [] []]=>some ⟨True,.bool (I3 l)⟩|_=>none
theorem uL:∀xs c,nw xs=some c→ag Tryz.prog ay 173 xs c:=fun xs c h=>by
 unfold nw at h
 split at h
 ·injection h with h;subst h;exact Fb _
 ·cases h
section
def hM(l m:Bs):Bool:=bif decide (ak m≤ak l)then decide (aa l (ak l-ak m)=m)else false
def Fc:cr:=bP []
def Fe(l m:Bs):aY:=fun i=>none
theorem CM:cS Tryz.prog ay Fc:=ax
theorem Hy(l m:Bs)(k:PV→Prop):cD Tryz.prog Fc ay (Fe l m) 1000 Tryz.f158 [.str l,.str m] k=(
 (decide (ak m≤ak l)=true→aK (ak l-ak m))∧
 (decide (ak m≤ak l)=true→upto (ak l-ak m) (ak l) (ak l))∧
 k (PV.bool (bif decide (ak m≤ak l)then decide (aa l (ak l-ak m)=m)else false))):=by kernel_rfl
attribute [local irreducible] Go.Vc.cD
theorem Hz(l m:Bs):ag Tryz.prog ay 158 [.str l,.str m] ⟨l.length≤1000000∧m.length≤1000000,.bool (hM l m)⟩:=cl (by kernel_rfl) CM (H:=Fe l m) (fuel:=1000) Tryz.func158 (by kernel_rfl) fun hpre=>(Hy l m _).mpr (by
 exact ⟨fun h=>⟨by unfold ak;omega,by unfold ak;omega⟩,fun h=>⟨by have:=of_decide_eq_true h;omega,by unfold ak;omega,Int.le_refl _⟩,rfl⟩)
def mj:List PV→Option aF:=fun xs=>match xs with
 |[.str l,.str m]=>some ⟨l.length≤1000000∧m.length≤1000000,.bool (hM l m)⟩
 |_=>none
theorem om:∀xs c,mj xs=some c→ag Tryz.prog ay 158 xs c:=fun xs c h=>by
 unfold mj at h
 split at h
 ·injection h with h;subst h;exact Hz _ _
 ·cases h
end
section
def eZ(l m:Bs):Bs×Bool:=if hM l m=true then(ae l (ak l-ak m),true)else(l,false)
def Ba:cr:=bP [(158,mj)]
def Bb(l m:Bs):aY:=fun i=>none
theorem zw:cS Tryz.prog ay Ba:=ai om (ax)
theorem Ff(l m:Bs)(k:PV→Prop):cD Tryz.prog Ba ay (Bb l m) 1000 Tryz.f179 [.str l,.str m] k=(
 (List.length l≤(1000000:Nat)∧List.length m≤(1000000:Nat))∧
 ((!hM l m)=true→k (PV.tup [PV.str l,PV.bool false]))∧
 ((!hM l m)=false→
 aK (ak l-ak m)∧
 upto (0:Int) (ak l-ak m) (ak l)∧
 k (PV.tup [PV.str (ae l (ak l-ak m)),PV.bool true]))):=by kernel_rfl
attribute [local irreducible] Go.Vc.cD
theorem Fg(l m:Bs):ag Tryz.prog ay 179 [.str l,.str m] ⟨l.length≤1000000∧m.length≤1000000,.tup [.str (eZ l m).1,.bool (eZ l m).2]⟩:=cl (by kernel_rfl) zw (H:=Bb l m) (fuel:=1000) Tryz.func179 (by kernel_rfl) fun hpre=>(Ff l m _).mpr (by
 obtain ⟨h1,h2⟩:=hpre
 refine ⟨⟨h1,h2⟩,fun h=>?_,fun h=>⟨by unfold aK ak;omega,?_,?_⟩⟩
 ·have e:¬hM l m=true:=by intro e;rw [e]at h;cases h
  have:eZ l m=(l,false):=by unfold eZ;rw [if_neg e]
  rw [this]
 ·have e:hM l m=true:=by cases e:hM l m with |true=>rfl|false=>rw [e]at h;cases h
  unfold hM at e
  cases e2:decide (ak m≤ak l)with
  |false=>rw [e2]at e;cases e
  |true=>have:=of_decide_eq_true e2;unfold upto;unfold ak at this⊢;omega
 ·have e:hM l m=true:=by cases e:hM l m with |true=>rfl|false=>rw [e]at h;cases h
  have:eZ l m=(ae l (ak l-ak m),true):=by unfold eZ;rw [if_pos e]
  rw [this])
def ny:List PV→Option aF:=fun xs=>match xs with
 |[.str l,.str m]=>some ⟨l.length≤1000000∧m.length≤1000000,.tup [.str (eZ l m).1,.bool (eZ l m).2]⟩
 |_=>none
theorem uM:∀xs c,ny xs=some c→ag Tryz.prog ay 179 xs c:=fun xs c h=>by
 unfold ny at h
 split at h
 ·injection h with h;subst h;exact Fg _ _
 ·cases h
end
section
def Fh:cr:=bP [(179,ny)]
def Fi(l m:Bs):aY:=fun i=>none
theorem CO:cS Tryz.prog ay Fh:=ai uM (ax)
theorem HU(l m:Bs)(k:PV→Prop):cD Tryz.prog Fh ay (Fi l m) 1000 Tryz.f169 [.str l,.str m] k=(
 (List.length l≤(1000000:Nat)∧List.length m≤(1000000:Nat))∧
 k (PV.tup [PV.str (eZ l m).1,PV.bool (eZ l m).2])):=by kernel_rfl
attribute [local irreducible] Go.Vc.cD
theorem HW(l m:Bs):ag Tryz.prog ay 169 [.str l,.str m] ⟨l.length≤1000000∧m.length≤1000000,.tup [.str (eZ l m).1,.bool (eZ l m).2]⟩:=cl (by kernel_rfl) CO (H:=Fi l m) (fuel:=1000) Tryz.func169 (by kernel_rfl) fun hpre=>(HU l m _).mpr (by
 exact ⟨hpre,rfl⟩)
def qn:List PV→Option aF:=fun xs=>match xs with
 |[.str l,.str m]=>some ⟨l.length≤1000000∧m.length≤1000000,.tup [.str (eZ l m).1,.bool (eZ l m).2]⟩
 |_=>none
theorem xa:∀xs c,qn xs=some c→ag Tryz.prog ay 169 xs c:=fun xs c h=>by
 unfold qn at h
 split at h
 ·injection h with h;subst h;exact HW _ _
 ·cases h
end
section
def La:Bs:=[120,110,45,45]
def KJ:Bs:=[46,120,110,45,45]
def CP(b:UInt8):Bool:=decide (b.toNat≤127)
def rF(l:Bs):Bool:=!l.all CP||preB l La||hasB l KJ
theorem Fj(p:UInt8→Bool)(l:Bs)(j:Nat)(h:j<l.length):(l.take (j+1)).all p=((l.take j).all p&&p (l.getD j 0)):=by
 rw [List.take_add_one,List.getElem?_eq_getElem h,List.all_append,List.getD_eq_getElem?_getD,List.getElem?_eq_getElem h]
 simp
theorem HY(l:Bs)(j:Nat)(h:j<l.length):l.getD j 0∈l:=by
 rw [List.getD_eq_getElem?_getD,List.getElem?_eq_getElem h]
 exact List.getElem_mem h
def HZ(l:Bs)(i:Int):Prop:=∃j:Nat,i=j∧j≤l.length∧(l.take j).all CP=true
def xb:cr:=bP [(78,cX),(185,uA)]
def xc(l:Bs):aY:=fun i=>bif Nat.beq i 2 then some ⟨(Int),(fun s x=>((((s.put 6 (.int .i64 x)).put 3 .undef).put 7 .undef).put 12 .undef)),(fun s=>s.int 6),(fun s x=>let i:=x;HZ l i),(fun s x=>let i:=x;((l.length:Int)-i).toNat),[3,7,12]⟩else none
theorem xd:cS Tryz.prog ay xb:=ai cH (ai zf (ax))
theorem CQ(l:Bs)(k:PV→Prop):cD Tryz.prog xb ay (xc l) 1000 Tryz.f172 [.str l] k=(
 VS.mk []
 [(0,PV.str l),(2,PV.bool false),((3:Nat),PV.undef),(5,PV.int .i64 (ak l)),
 (6,PV.int .i64 (0:Int)),((7:Nat),PV.undef),((12:Nat),PV.undef)]
 []=
 VS.mk []
 [(0,PV.str l),(2,PV.bool false),((3:Nat),PV.undef),(5,PV.int .i64 (ak l)),
 ((6:Nat),PV.int .i64 (0:Int)),((7:Nat),PV.undef),((12:Nat),PV.undef)]
 []∧
 HZ l (0:Int)∧
 ∀(x:Int),
 HZ l x→
 (decide (x<ak l)=true→
 within x (ak l)∧
 (decide ((127:Int)<al l x)=true→k (PV.bool true))∧
 (decide ((127:Int)<al l x)=false→
 aK (x+(1:Int))∧
 VS.mk []
 [(0,PV.str l),(2,PV.bool false),((3:Nat),PV.undef),
 (5,PV.int .i64 (ak l)),((6:Nat),PV.int .i64 (x+(1:Int))),
 ((7:Nat),PV.undef),((12:Nat),PV.undef)]
 []=
 VS.mk []
 [(0,PV.str l),(2,PV.bool false),((3:Nat),PV.undef),
 (5,PV.int .i64 (ak l)),((6:Nat),PV.int .i64 (x+(1:Int))),
 ((7:Nat),PV.undef),((12:Nat),PV.undef)]
 []∧
 HZ l (x+(1:Int))∧(↑(List.length l)-(x+(1:Int))).toNat<(↑(List.length l)-x).toNat))∧
 (decide (x<ak l)=false→
 True∧
 (preB l (ByteArray.mk #[120,110,45,45]).data.toList=false→
 (List.length l).le (1000000:Nat))∧
 k
 (PV.bool
 (bif preB l (ByteArray.mk #[120,110,45,45]).data.toList then
 true
 else
 hasB l
 (ByteArray.mk #[46,120,110,45,45]).data.toList)))):=by kernel_rfl
attribute [local irreducible] Go.Vc.cD
theorem CR(l:Bs):ag Tryz.prog ay 172 [.str l] ⟨l.length≤1000000,.bool (rF l)⟩:=cl (by kernel_rfl) xd (H:=xc l) (fuel:=1000) Tryz.func172 (by kernel_rfl) fun hpre=>(CQ l _).mpr (by
 refine ⟨rfl,⟨0,rfl,by omega,rfl⟩,fun x hx=>?_⟩
 obtain ⟨j,rfl,hj,ha⟩:=hx
 have e1:(j:Int)+1=((j+1:Nat):Int):=by push_cast;rfl
 have hb:al l (j:Int)=((l.getD j 0).toNat:Int):=rfl
 rw [e1,hb]
 refine ⟨fun h=>?_,fun h=>?_⟩
 ·have hjl:j<l.length:=by have:=of_decide_eq_true h;unfold ak at this;omega
  refine ⟨by unfold within ak;omega,fun h2=>?_,fun h2=>⟨by unfold aK;omega,rfl,⟨j+1,rfl,by omega,?_⟩,by omega⟩⟩
  ·have hf:l.all CP=false:=by
    rw [Bool.eq_false_iff]
    intro g
    have g1:=List.all_eq_true.1 g _ (HY l j hjl)
    unfold CP at g1
    have g2:=of_decide_eq_true g1
    have g3:=of_decide_eq_true h2
    omega
   show PV.bool true=PV.bool (rF l)
   unfold rF
   rw [hf];rfl
  ·have g3:=of_decide_eq_false h2
   rw [Fj CP l j hjl,ha,Bool.true_and]
   unfold CP
   exact decide_eq_true (by omega)
 ·have hjl:j=l.length:=by have:=of_decide_eq_false h;unfold ak at this;omega
  rw [hjl,List.take_length]at ha
  refine ⟨trivial,fun _=>hpre,?_⟩
  show PV.bool (bif preB l La then true else hasB l KJ)=PV.bool (rF l)
  unfold rF
  rw [ha]
  cases preB l La<;>rfl)
def kY:List PV→Option aF:=fun xs=>match xs with
 |[.str l]=>some ⟨l.length≤1000000,.bool (rF l)⟩
 |_=>none
theorem rG:∀xs c,kY xs=some c→ag Tryz.prog ay 172 xs c:=fun xs c h=>by
 unfold kY at h
 split at h
 ·injection h with h;subst h;exact CR _
 ·cases h
end
section
abbrev H5:=Int×Bs×Int×List Int×Int
def z8:List Int:=List.replicate 8 0
def Fk(e:Int):H5:=(0,[],0,z8,e)
def en(d:Bs):H5:=if rF d=true then Fk 9 else if d=[]∨I3 d=true then Fk 8 else if uz d=false then(2,d,0,z8,0)else if og d=true then(3,[],cu d,z8,0)else Fk 8
theorem Fl(l:Bs):(bX l).length=l.length:=by unfold bX;rw [List.length_map]
theorem qo:∀l:Bs,(cn l).length≤l.length
 |[]=>Nat.le_refl _
 |[b]=>Nat.le_refl _
 |[b,h]=>Nat.le_refl _
 |b::h::g::t=>by
  have h1:=qo t
  have h2:=qo (h::g::t)
  show(if b.toNat=37∧0≤fQ h.toNat∧0≤fQ g.toNat then bQ (fQ h.toNat*16+fQ g.toNat)::cn t else b::cn (h::g::t)).length≤_
  split
  ·rw [List.length_cons];simp only [List.length_cons];omega
  ·rw [List.length_cons];simp only [List.length_cons]at h2⊢;omega
def Fm:cr:=bP [(171,qg),(154,ki),(172,kY),(173,nw),(175,qf),(176,np)]
def Fo(l:Bs):aY:=fun i=>none
theorem CT:cS Tryz.prog ay Fm:=ai wN (ai mi (ai rG (ai uL (ai wI (ai uB (ax))))))
theorem H0(l:Bs)(k:PV→Prop):cD Tryz.prog Fm ay (Fo l) 1000 Tryz.f162 [.str l] k=(
 (List.length l).le (1000000:Nat)∧
 (List.length (cn l)).le (1000000:Nat)∧
 (List.length (bX (cn l))).le (1000000:Nat)∧
 (rF (bX (cn l))=true→
 k
 (PV.tup
 [PV.agg
 [PV.int .i64 (0:Int),PV.str [],PV.int .u32 (0:Int),
 PV.arr (8:Nat) (aq.ints .u16 (List.replicate (8:Nat) (0:Int)))],
 PV.int .i64 (9:Int)]))∧
 (rF (bX (cn l))=false→
 (decide (bX (cn l)=(ByteArray.mk #[]).data.toList)=false→True)∧
 ((bif decide (bX (cn l)=(ByteArray.mk #[]).data.toList)then true
 else I3 (bX (cn l)))=
 true→
 k
 (PV.tup
 [PV.agg
 [PV.int .i64 (0:Int),PV.str [],PV.int .u32 (0:Int),
 PV.arr (8:Nat) (aq.ints .u16 (List.replicate (8:Nat) (0:Int)))],
 PV.int .i64 (8:Int)]))∧
 ((bif decide (bX (cn l)=(ByteArray.mk #[]).data.toList)then true
 else I3 (bX (cn l)))=
 false→
 (List.length (bX (cn l))).le (1000000:Nat)∧
 ((!uz (bX (cn l)))=true→
 k
 (PV.tup
 [PV.agg
 [PV.int .i64 (2:Int),
 PV.str (bX (cn l)),
 PV.int .u32 (0:Int),
 PV.arr (8:Nat) (aq.ints .u16 (List.replicate (8:Nat) (0:Int)))],
 PV.int .i64 (0:Int)]))∧
 ((!uz (bX (cn l)))=
 false→
 (List.length (bX (cn l))).le (1000000:Nat)∧
 ((!og (bX (cn l)))=
 true→
 k
 (PV.tup
 [PV.agg
 [PV.int .i64 (0:Int),PV.str [],PV.int .u32 (0:Int),
 PV.arr (8:Nat) (aq.ints .u16 (List.replicate (8:Nat) (0:Int)))],
 PV.int .i64 (8:Int)]))∧
 ((!og
 (bX (cn l)))=
 false→
 k
 (PV.tup
 [PV.agg
 [PV.int .i64 (3:Int),PV.str [],
 PV.int .u32
 (cu
 (bX (cn l))),
 PV.arr (8:Nat) (aq.ints .u16 (List.replicate (8:Nat) (0:Int)))],
 PV.int .i64 (0:Int)])))))):=by kernel_rfl
attribute [local irreducible] Go.Vc.cD
theorem H6(l:Bs):ag Tryz.prog ay 162 [.str l] ⟨l.length≤1000000,.tup [.agg [.int .i64 (en (bX (cn l))).1,.str (en (bX (cn l))).2.1,.int .u32 (en (bX (cn l))).2.2.1,.arr 8 (.ints .u16 (en (bX (cn l))).2.2.2.1)],.int .i64 (en (bX (cn l))).2.2.2.2]⟩:=cl (by kernel_rfl) CT (H:=Fo l) (fuel:=1000) Tryz.func162 (by kernel_rfl) fun hpre=>(H0 l _).mpr (by
 have hd1:=qo l
 have hd2:=Fl (cn l)
 have hd:(bX (cn l)).length≤1000000:=by omega
 obtain ⟨d,hdd⟩:∃d,bX (cn l)=d:=⟨_,rfl⟩
 rw [hdd]at hd⊢
 refine ⟨hpre,Nat.le_trans hd1 hpre,hd,fun h=>?_,fun h=>⟨fun _=>trivial,fun h2=>?_,fun h2=>?_⟩⟩
 ·have:en d=Fk 9:=by unfold en;rw [if_pos h]
  rw [this];rfl
 ·have h3:d=[]∨I3 d=true:=by
   cases e:decide (d=(ByteArray.mk #[]).data.toList)with
   |true=>exact .inl (of_decide_eq_true e)
   |false=>rw [e]at h2;exact .inr h2
  have:en d=Fk 8:=by unfold en;rw [if_neg (by rw [h];decide),if_pos h3]
  rw [this];rfl
 ·have h3:¬(d=[]∨I3 d=true):=by
   cases e:decide (d=(ByteArray.mk #[]).data.toList)with
   |true=>rw [e]at h2;cases h2
   |false=>
    rw [e]at h2
    have e2:¬d=[]:=of_decide_eq_false e
    have h4:I3 d=false:=h2
    rintro (g|g)
    ·exact e2 g
    ·rw [h4]at g;cases g
  have hu:¬rF d=true:=by rw [h];decide
  refine ⟨hd,fun h4=>?_,fun h4=>⟨hd,fun h5=>?_,fun h5=>?_⟩⟩
  ·have e4:uz d=false:=by cases e:uz d with |false=>rfl|true=>rw [e]at h4;cases h4
   have:en d=(2,d,0,z8,0):=by unfold en;rw [if_neg hu,if_neg h3,if_pos e4]
   rw [this];rfl
  ·have e4:¬uz d=false:=by intro e;rw [e]at h4;cases h4
   have e5:¬og d=true:=by intro e;rw [e]at h5;cases h5
   have:en d=Fk 8:=by unfold en;rw [if_neg hu,if_neg h3,if_neg e4,if_neg e5]
   rw [this];rfl
  ·have e4:¬uz d=false:=by intro e;rw [e]at h4;cases h4
   have e5:og d=true:=by cases e:og d with |true=>rfl|false=>rw [e]at h5;cases h5
   have:en d=(3,[],cu d,z8,0):=by unfold en;rw [if_neg hu,if_neg h3,if_neg e4,if_pos e5]
   rw [this];rfl)
def ml:List PV→Option aF:=fun xs=>match xs with
 |[.str l]=>some ⟨l.length≤1000000,.tup [.agg [.int .i64 (en (bX (cn l))).1,.str (en (bX (cn l))).2.1,.int .u32 (en (bX (cn l))).2.2.1,.arr 8 (.ints .u16 (en (bX (cn l))).2.2.2.1)],.int .i64 (en (bX (cn l))).2.2.2.2]⟩
 |_=>none
theorem oo:∀xs c,ml xs=some c→ag Tryz.prog ay 162 xs c:=fun xs c h=>by
 unfold ml at h
 split at h
 ·injection h with h;subst h;exact H6 _
 ·cases h
end
section
def eP(t:Bs):H5:=if(eZ t [93]).2=true∧(ie (eZ t [93]).1).2=true then(4,[],0,(ie (eZ t [93]).1).1,0)else Fk 8
theorem Fp(l m:Bs):(eZ l m).1.length≤l.length:=by
 unfold eZ
 split
 ·show(l.take _).length≤_
  rw [List.length_take];omega
 ·exact Nat.le_refl _
def Fq:cr:=bP [(169,qn),(170,kX)]
def Fs(l:Bs):aY:=fun i=>none
theorem CU:cS Tryz.prog ay Fq:=ai xa (ai rD (ax))
theorem H7(l:Bs)(k:PV→Prop):cD Tryz.prog Fq ay (Fs l) 1000 Tryz.f161 [.str l] k=(
 upto (1:Int) (ak l) (ak l)∧
 ((aa l (1:Int)).length≤(1000000:Nat)∧(ByteArray.mk #[93]).data.toList.length≤(1000000:Nat))∧
 ((eZ (aa l (1:Int)) (ByteArray.mk #[93]).data.toList).2=true→
 (List.length (eZ (aa l (1:Int)) (ByteArray.mk #[93]).data.toList).1).le (1000000:Nat)∧
 ((ie
 (eZ (aa l (1:Int)) (ByteArray.mk #[93]).data.toList).1).2=
 true→
 k
 (PV.tup
 [PV.agg
 [PV.int .i64 (4:Int),PV.str [],PV.int .u32 (0:Int),
 PV.arr (8:Nat)
 (aq.ints .u16
 (ie
 (eZ (aa l (1:Int)) (ByteArray.mk #[93]).data.toList).1).1)],
 PV.int .i64 (0:Int)]))∧
 ((ie
 (eZ (aa l (1:Int)) (ByteArray.mk #[93]).data.toList).1).2=
 false→
 k
 (PV.tup
 [PV.agg
 [PV.int .i64 (0:Int),PV.str [],PV.int .u32 (0:Int),
 PV.arr (8:Nat) (aq.ints .u16 (List.replicate (8:Nat) (0:Int)))],
 PV.int .i64 (8:Int)])))∧
 ((eZ (aa l (1:Int)) (ByteArray.mk #[93]).data.toList).2=false→
 k
 (PV.tup
 [PV.agg
 [PV.int .i64 (0:Int),PV.str [],PV.int .u32 (0:Int),
 PV.arr (8:Nat) (aq.ints .u16 (List.replicate (8:Nat) (0:Int)))],
 PV.int .i64 (8:Int)]))):=by kernel_rfl
attribute [local irreducible] Go.Vc.cD
theorem H9(l:Bs):ag Tryz.prog ay 161 [.str l] ⟨1≤l.length∧l.length≤1000000,.tup [.agg [.int .i64 (eP (l.drop 1)).1,.str (eP (l.drop 1)).2.1,.int .u32 (eP (l.drop 1)).2.2.1,.arr 8 (.ints .u16 (eP (l.drop 1)).2.2.2.1)],.int .i64 (eP (l.drop 1)).2.2.2.2]⟩:=cl (by kernel_rfl) CU (H:=Fs l) (fuel:=1000) Tryz.func161 (by kernel_rfl) fun hpre=>(H7 l _).mpr (by
 obtain ⟨h1,h2⟩:=hpre
 have hd:aa l 1=l.drop 1:=rfl
 have hl:(l.drop 1).length≤1000000:=by rw [List.length_drop];omega
 have hc:=Fp (l.drop 1) [93]
 rw [hd]
 refine ⟨⟨by omega,by unfold ak;omega,Int.le_refl _⟩,⟨hl,by decide⟩,fun h=>⟨Nat.le_trans hc hl,fun h3=>?_,fun h3=>?_⟩,fun h=>?_⟩
 ·have:eP (l.drop 1)=(4,[],0,(ie (eZ (l.drop 1) [93]).1).1,0):=by unfold eP;rw [if_pos ⟨h,h3⟩]
  rw [this]
 ·have:eP (l.drop 1)=Fk 8:=by unfold eP;rw [if_neg (fun g=>by have g2:(ie (eZ (l.drop 1) [93]).1).2=false:=h3;rw [g.2]at g2;cases g2)]
  rw [this];rfl
 ·have:eP (l.drop 1)=Fk 8:=by unfold eP;rw [if_neg (fun g=>by have g2:(eZ (l.drop 1) [93]).2=false:=h;rw [g.1]at g2;cases g2)]
  rw [this];rfl)
def mm:List PV→Option aF:=fun xs=>match xs with
 |[.str l]=>some ⟨1≤l.length∧l.length≤1000000,.tup [.agg [.int .i64 (eP (l.drop 1)).1,.str (eP (l.drop 1)).2.1,.int .u32 (eP (l.drop 1)).2.2.1,.arr 8 (.ints .u16 (eP (l.drop 1)).2.2.2.1)],.int .i64 (eP (l.drop 1)).2.2.2.2]⟩
 |_=>none
theorem oq:∀xs c,mm xs=some c→ag Tryz.prog ay 161 xs c:=fun xs c h=>by
 unfold mm at h
 split at h
 ·injection h with h;subst h;exact H9 _
 ·cases h
end
section
def cv(l:Bs):H5:=if preB l [91]=true then eP (l.drop 1)else en (bX (cn l))
def xe:cr:=bP [(78,cX),(161,mm),(162,ml),(74,mg)]
def xf(l:Bs):aY:=fun i=>none
theorem xg:cS Tryz.prog ay xe:=ai cH (ai oq (ai oo (ai kW (ax))))
theorem CV(l:Bs)(k:PV→Prop):cD Tryz.prog xe ay (xf l) 1000 Tryz.f136 [.str l,.bool true] k=(
 True∧
 (preB l (ByteArray.mk #[91]).data.toList=true→
 ((1:Nat)≤List.length l∧List.length l≤(1000000:Nat))∧
 k
 (PV.tup
 [PV.agg
 [PV.int .i64 (eP (List.drop (1:Nat) l)).1,
 PV.str (eP (List.drop (1:Nat) l)).2.1,
 PV.int .u32 (eP (List.drop (1:Nat) l)).2.2.1,
 PV.arr (8:Nat) (aq.ints .u16 (eP (List.drop (1:Nat) l)).2.2.2.1)],
 PV.int .i64 (eP (List.drop (1:Nat) l)).2.2.2.2]))∧
 (preB l (ByteArray.mk #[91]).data.toList=false→
 (true=true→
 (List.length l).le (1000000:Nat)∧
 k
 (PV.tup
 [PV.agg
 [PV.int .i64
 (en (bX (cn l))).1,
 PV.str
 (en
 (bX (cn l))).2.1,
 PV.int .u32
 (en
 (bX (cn l))).2.2.1,
 PV.arr (8:Nat)
 (aq.ints .u16
 (en
 (bX (cn l))).2.2.2.1)],
 PV.int .i64
 (en
 (bX (cn l))).2.2.2.2]))∧
 (true=false→
 (List.length l≤(1000000:Nat)∧
 (ByteArray.mk
 #[0,9,10,13,32,35,47,58,60,62,63,64,91,92,93,94,124]).data.toList.length≤
 (1000000:Nat)∧
 ∀(b:UInt8),
 b∈
 (ByteArray.mk
 #[0,9,10,13,32,35,47,58,60,62,63,64,91,92,93,94,124]).data.toList→
 b.toNat<(128:Nat))∧
 (jc l
 (ByteArray.mk
 #[0,9,10,13,32,35,47,58,60,62,63,64,91,92,93,94,124]).data.toList=
 true→
 k
 (PV.tup
 [PV.agg
 [PV.int .i64 (0:Int),PV.str [],PV.int .u32 (0:Int),
 PV.arr (8:Nat) (aq.ints .u16 (List.replicate (8:Nat) (0:Int)))],
 PV.int .i64 (8:Int)]))∧
 (jc l
 (ByteArray.mk
 #[0,9,10,13,32,35,47,58,60,62,63,64,91,92,93,94,124]).data.toList=
 false→
 (decide (l=(ByteArray.mk #[]).data.toList)=true→
 k
 (PV.tup
 [PV.agg
 [PV.int .i64 (1:Int),PV.str [],PV.int .u32 (0:Int),
 PV.arr (8:Nat) (aq.ints .u16 (List.replicate (8:Nat) (0:Int)))],
 PV.int .i64 (0:Int)]))∧
 (decide (l=(ByteArray.mk #[]).data.toList)=false→False))))):=by kernel_rfl
attribute [local irreducible] Go.Vc.cD
theorem s4(l:Bs):ag Tryz.prog ay 136 [.str l,.bool true] ⟨l.length≤1000000,.tup [.agg [.int .i64 (cv l).1,.str (cv l).2.1,.int .u32 (cv l).2.2.1,.arr 8 (.ints .u16 (cv l).2.2.2.1)],.int .i64 (cv l).2.2.2.2]⟩:=cl (by kernel_rfl) xg (H:=xf l) (fuel:=1000) Tryz.func136 (by kernel_rfl) fun hpre=>(CV l _).mpr (by
 have e91:(ByteArray.mk #[91]).data.toList=([91]:Bs):=rfl
 rw [e91]
 refine ⟨trivial,fun h=>⟨⟨?_,hpre⟩,?_⟩,fun h=>?_⟩
 ·cases l with
  |nil=>cases h
  |cons b r=>rw [List.length_cons];omega
 ·have:cv l=eP (l.drop 1):=by unfold cv;rw [if_pos h]
  rw [this]
 ·have:cv l=en (bX (cn l)):=by unfold cv;rw [if_neg (by rw [h];decide)]
  rw [this]
  exact ⟨fun _=>⟨hpre,rfl⟩,fun h=>by cases h⟩)
def kZ:List PV→Option aF:=fun xs=>match xs with
 |[.str l,.bool true]=>some ⟨l.length≤1000000,.tup [.agg [.int .i64 (cv l).1,.str (cv l).2.1,.int .u32 (cv l).2.2.1,.arr 8 (.ints .u16 (cv l).2.2.2.1)],.int .i64 (cv l).2.2.2.2]⟩
 |_=>none
theorem rH:∀xs c,kZ xs=some c→ag Tryz.prog ay 136 xs c:=fun xs c h=>by
 unfold kZ at h
 split at h
 ·injection h with h;subst h;exact s4 _
 ·cases h
end
end Go.Proofs.YtmfapopclbnlpaaGreatDoor
