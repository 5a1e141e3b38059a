import Derived.Shelf.Strings.FuncGrows
import Derived.Lib.TrimAscii
import Derived.Test.YtmfapopclbnlpaaGreatDoorProg
import Derived.ProofKit
import Derived.Test.YtmfapopclbnlpaaGreatDoorHs6
import Derived.Test.YtmfapopclbnlpaaGreatDoorHs18
set_option linter.unusedVariables false
set_option linter.unusedSimpArgs false
set_option maxRecDepth 100000
set_option maxHeartbeats 4000000
namespace Go.Proofs.YtmfapopclbnlpaaGreatDoor
open Go Go.Proofs Go.RowKit Go.Vc
theorem pk.below {w w':World}(h:pk w)(hb:Below w.heap.size w w'):pk w':=
 Wd.mono (self:=Lc) w w' hb.os hb.tape hb.output hb.size (fun k hk=>hb.block k (Nat.lt_of_lt_of_le hk (Wd.within (self:=Lc) w h))) h
theorem xI(w:World)(hw:pk w):PredGrows Tryz.prog 174 #[] (fun x=>IT x) w:=fun W x hx hb=>
 ((FY (x:Int)).walk Tryz.func174 (by kernel_rfl) rfl ⟨by omega,by omega⟩ (ta W) (zx _) (hw.below hb) (vs:=[.int .i32 x]) ⟨_,_,rfl,rfl,rfl⟩).mono fun e w' ⟨u,he,F',_,hb,_,_,_,_,hr⟩=>⟨by rw [he];exact congrArg _ hr,hb⟩
def JX(l:Bs):Bool:=decide (0≤Lib.idxFunc (fun x=>IT x) true ⟨l.toArray⟩)
theorem F6(l:Bs):ag Tryz.prog aA 173 [.str l,.fn (.func 174) [] []] ⟨True,.bool (JX l)⟩:=
 ag.ck Tryz.func173 (by kernel_rfl) rfl fun _ F w vs _ _ hw hx=>by
  obtain ⟨_,_,rfl,r1,_,_,rfl,r2,rfl⟩:=hx
  obtain rfl:=r1
  obtain ⟨us,vs,rfl,rfl,rfl⟩:=r2
  exact ⟨_,Any.strings_ContainsFunc_grows Tryz.KE 174 #[] (enters_of Tryz.func174 (by kernel_rfl) rfl) _ ⟨l.toArray⟩ w (xI w hw),fun G w=>rfl⟩
def nU:List PV→Option aG:=fun xs=>match xs with |[.str l,.fn (.func 174) [] []]=>some ⟨True,.bool (JX l)⟩|_=>none
theorem vj:∀xs c,nU xs=some c→ag Tryz.prog aA 173 xs c:=fun xs c h=>by
 unfold nU at h
 split at h
 ·injection h with h;subst h;exact F6 _
 ·cases h
section
def ie(l m:Bs):Bool:=bif decide (ak m≤ak l)then decide (aa l (ak l-ak m)=m)else false
def F7:cp:=bP []
def F8(l m:Bs):ba:=fun i=>none
theorem DD:cR Tryz.prog aA F7:=ax
theorem I0(l m:Bs)(k:PV→Prop):cB Tryz.prog F7 aA (F8 l m) 1000 Tryz.f158 [.str l,.str m] k=(
 (decide (ak m≤ak l)=true→aD (ak l-ak m))∧
 (decide (ak m≤ak l)=true→upto (ak l-ak m) (ak l) (ak l))∧
 k (PV.bool (bif decide (ak m≤ak l)then decide (aa l (ak l-ak m)=m)else false))):=by kernel_rfl
attribute [local irreducible] Go.Vc.cB
theorem I1(l m:Bs):ag Tryz.prog aA 158 [.str l,.str m] ⟨l.length≤1000000∧m.length≤1000000,.bool (ie l m)⟩:=bY (by kernel_rfl) DD (H:=F8 l m) (fuel:=1000) Tryz.func158 (by kernel_rfl) fun hpre=>(I0 l m _).mpr (by
 exact ⟨fun h=>⟨by unfold ak;omega,by unfold ak;omega⟩,fun h=>⟨by have:=of_decide_eq_true h;omega,by unfold ak;omega,Int.le_refl _⟩,rfl⟩)
def mE:List PV→Option aG:=fun xs=>match xs with
 |[.str l,.str m]=>some ⟨l.length≤1000000∧m.length≤1000000,.bool (ie l m)⟩
 |_=>none
theorem oT:∀xs c,mE xs=some c→ag Tryz.prog aA 158 xs c:=fun xs c h=>by
 unfold mE at h
 split at h
 ·injection h with h;subst h;exact I1 _ _
 ·cases h
end
section
def fp(l m:Bs):Bs×Bool:=if ie l m=true then(ae l (ak l-ak m),true)else(l,false)
def BV:cp:=bP [(158,mE)]
def BW(l m:Bs):ba:=fun i=>none
theorem Ag:cR Tryz.prog aA BV:=ai oT (ax)
theorem F9(l m:Bs)(k:PV→Prop):cB Tryz.prog BV aA (BW l m) 1000 Tryz.f179 [.str l,.str m] k=(
 (List.length l≤(1000000:Nat)∧List.length m≤(1000000:Nat))∧
 ((!ie l m)=true→k (PV.tup [PV.str l,PV.bool false]))∧
 ((!ie l m)=false→
 aD (ak l-ak m)∧
 upto (0:Int) (ak l-ak m) (ak l)∧
 k (PV.tup [PV.str (ae l (ak l-ak m)),PV.bool true]))):=by kernel_rfl
attribute [local irreducible] Go.Vc.cB
theorem Ga(l m:Bs):ag Tryz.prog aA 179 [.str l,.str m] ⟨l.length≤1000000∧m.length≤1000000,.tup [.str (fp l m).1,.bool (fp l m).2]⟩:=bY (by kernel_rfl) Ag (H:=BW l m) (fuel:=1000) Tryz.func179 (by kernel_rfl) fun hpre=>(F9 l m _).mpr (by
 obtain ⟨h1,h2⟩:=hpre
 refine ⟨⟨h1,h2⟩,fun h=>?_,fun h=>⟨by unfold aD ak;omega,?_,?_⟩⟩
 ·have e:¬ie l m=true:=by intro e;rw [e]at h;cases h
  have:fp l m=(l,false):=by unfold fp;rw [if_neg e]
  rw [this]
 ·have e:ie l m=true:=by cases e:ie l m with |true=>rfl|false=>rw [e]at h;cases h
  unfold ie at e
  cases e2:decide (ak m≤ak l)with
  |false=>rw [e2]at e;cases e
  |true=>have:=of_decide_eq_true e2;unfold upto;unfold ak at this⊢;omega
 ·have e:ie l m=true:=by cases e:ie l m with |true=>rfl|false=>rw [e]at h;cases h
  have:fp l m=(ae l (ak l-ak m),true):=by unfold fp;rw [if_pos e]
  rw [this])
def nV:List PV→Option aG:=fun xs=>match xs with
 |[.str l,.str m]=>some ⟨l.length≤1000000∧m.length≤1000000,.tup [.str (fp l m).1,.bool (fp l m).2]⟩
 |_=>none
theorem vk:∀xs c,nV xs=some c→ag Tryz.prog aA 179 xs c:=fun xs c h=>by
 unfold nV at h
 split at h
 ·injection h with h;subst h;exact Ga _ _
 ·cases h
end
section
def Gb:cp:=bP [(179,nV)]
def Gc(l m:Bs):ba:=fun i=>none
theorem DE:cR Tryz.prog aA Gb:=ai vk (ax)
theorem I2(l m:Bs)(k:PV→Prop):cB Tryz.prog Gb aA (Gc l m) 1000 Tryz.f169 [.str l,.str m] k=(
 (List.length l≤(1000000:Nat)∧List.length m≤(1000000:Nat))∧
 k (PV.tup [PV.str (fp l m).1,PV.bool (fp l m).2])):=by kernel_rfl
attribute [local irreducible] Go.Vc.cB
theorem I3(l m:Bs):ag Tryz.prog aA 169 [.str l,.str m] ⟨l.length≤1000000∧m.length≤1000000,.tup [.str (fp l m).1,.bool (fp l m).2]⟩:=bY (by kernel_rfl) DE (H:=Gc l m) (fuel:=1000) Tryz.func169 (by kernel_rfl) fun hpre=>(I2 l m _).mpr (by
 exact ⟨hpre,rfl⟩)
def qP:List PV→Option aG:=fun xs=>match xs with
 |[.str l,.str m]=>some ⟨l.length≤1000000∧m.length≤1000000,.tup [.str (fp l m).1,.bool (fp l m).2]⟩
 |_=>none
theorem xJ:∀xs c,qP xs=some c→ag Tryz.prog aA 169 xs c:=fun xs c h=>by
 unfold qP at h
 split at h
 ·injection h with h;subst h;exact I3 _ _
 ·cases h
end
section
def L6:Bs:=[120,110,45,45]
def LG:Bs:=[46,120,110,45,45]
def DF(b:UInt8):Bool:=decide (b.toNat≤127)
def sg(l:Bs):Bool:=!l.all DF||preB l L6||hasB l LG
theorem Gd(p:UInt8→Bool)(l:Bs)(j:Nat)(h:j<l.length):(l.take (j+1)).all p=((l.take j).all p&&p (l.getD j 0)):=by
 rw [List.take_add_one,List.getElem?_eq_getElem h,List.all_append,List.getD_eq_getElem?_getD,List.getElem?_eq_getElem h]
 simp
theorem I4(l:Bs)(j:Nat)(h:j<l.length):l.getD j 0∈l:=by
 rw [List.getD_eq_getElem?_getD,List.getElem?_eq_getElem h]
 exact List.getElem_mem h
def I5(l:Bs)(i:Int):Prop:=∃j:Nat,i=j∧j≤l.length∧(l.take j).all DF=true
def xK:cp:=bP [(78,cY),(185,u7)]
def xL(l:Bs):ba:=fun i=>bif Nat.beq i 2 then some ⟨(Int),(fun s x=>((((s.put 6 (.int .i64 x)).put 3 .undef).put 7 .undef).put 12 .undef)),(fun s=>s.int 6),(fun s x=>let i:=x;I5 l i),(fun s x=>let i:=x;((l.length:Int)-i).toNat),[3,7,12]⟩else none
theorem xM:cR Tryz.prog aA xK:=ai cI (ai zV (ax))
theorem DG(l:Bs)(k:PV→Prop):cB Tryz.prog xK aA (xL l) 1000 Tryz.f172 [.str l] k=(
 VS.mk []
 [(0,PV.str l),(2,PV.bool false),((3:Nat),PV.undef),(5,PV.int .i64 (ak l)),
 (6,PV.int .i64 (0:Int)),((7:Nat),PV.undef),((12:Nat),PV.undef)]
 []=
 VS.mk []
 [(0,PV.str l),(2,PV.bool false),((3:Nat),PV.undef),(5,PV.int .i64 (ak l)),
 ((6:Nat),PV.int .i64 (0:Int)),((7:Nat),PV.undef),((12:Nat),PV.undef)]
 []∧
 I5 l (0:Int)∧
 ∀(x:Int),
 I5 l x→
 (decide (x<ak l)=true→
 within x (ak l)∧
 (decide ((127:Int)<al l x)=true→k (PV.bool true))∧
 (decide ((127:Int)<al l x)=false→
 aD (x+(1:Int))∧
 VS.mk []
 [(0,PV.str l),(2,PV.bool false),((3:Nat),PV.undef),
 (5,PV.int .i64 (ak l)),((6:Nat),PV.int .i64 (x+(1:Int))),
 ((7:Nat),PV.undef),((12:Nat),PV.undef)]
 []=
 VS.mk []
 [(0,PV.str l),(2,PV.bool false),((3:Nat),PV.undef),
 (5,PV.int .i64 (ak l)),((6:Nat),PV.int .i64 (x+(1:Int))),
 ((7:Nat),PV.undef),((12:Nat),PV.undef)]
 []∧
 I5 l (x+(1:Int))∧(↑(List.length l)-(x+(1:Int))).toNat<(↑(List.length l)-x).toNat))∧
 (decide (x<ak l)=false→
 True∧
 (preB l (ByteArray.mk #[120,110,45,45]).data.toList=false→
 (List.length l).le (1000000:Nat))∧
 k
 (PV.bool
 (bif preB l (ByteArray.mk #[120,110,45,45]).data.toList then
 true
 else
 hasB l
 (ByteArray.mk #[46,120,110,45,45]).data.toList)))):=by kernel_rfl
attribute [local irreducible] Go.Vc.cB
theorem DH(l:Bs):ag Tryz.prog aA 172 [.str l] ⟨l.length≤1000000,.bool (sg l)⟩:=bY (by kernel_rfl) xM (H:=xL l) (fuel:=1000) Tryz.func172 (by kernel_rfl) fun hpre=>(DG l _).mpr (by
 refine ⟨rfl,⟨0,rfl,by omega,rfl⟩,fun x hx=>?_⟩
 obtain ⟨j,rfl,hj,ha⟩:=hx
 have e1:(j:Int)+1=((j+1:Nat):Int):=by push_cast;rfl
 have hb:al l (j:Int)=((l.getD j 0).toNat:Int):=rfl
 rw [e1,hb]
 refine ⟨fun h=>?_,fun h=>?_⟩
 ·have hjl:j<l.length:=by have:=of_decide_eq_true h;unfold ak at this;omega
  refine ⟨by unfold within ak;omega,fun h2=>?_,fun h2=>⟨by unfold aD;omega,rfl,⟨j+1,rfl,by omega,?_⟩,by omega⟩⟩
  ·have hf:l.all DF=false:=by
    rw [Bool.eq_false_iff]
    intro g
    have g1:=List.all_eq_true.1 g _ (I4 l j hjl)
    unfold DF at g1
    have g2:=of_decide_eq_true g1
    have g3:=of_decide_eq_true h2
    omega
   show PV.bool true=PV.bool (sg l)
   unfold sg
   rw [hf];rfl
  ·have g3:=of_decide_eq_false h2
   rw [Gd DF l j hjl,ha,Bool.true_and]
   unfold DF
   exact decide_eq_true (by omega)
 ·have hjl:j=l.length:=by have:=of_decide_eq_false h;unfold ak at this;omega
  rw [hjl,List.take_length]at ha
  refine ⟨trivial,fun _=>hpre,?_⟩
  show PV.bool (bif preB l L6 then true else hasB l LG)=PV.bool (sg l)
  unfold sg
  rw [ha]
  cases preB l L6<;>rfl)
def lz:List PV→Option aG:=fun xs=>match xs with
 |[.str l]=>some ⟨l.length≤1000000,.bool (sg l)⟩
 |_=>none
theorem sh:∀xs c,lz xs=some c→ag Tryz.prog aA 172 xs c:=fun xs c h=>by
 unfold lz at h
 split at h
 ·injection h with h;subst h;exact DH _
 ·cases h
end
section
abbrev H5:=Int×Bs×Int×List Int×Int
def z8:List Int:=List.replicate 8 0
def Ge(e:Int):H5:=(0,[],0,z8,e)
def eC(d:Bs):H5:=if sg d=true then Ge 9 else if d=[]∨JX d=true then Ge 8 else if u6 d=false then(2,d,0,z8,0)else if oR d=true then(3,[],cu d,z8,0)else Ge 8
theorem Gf(l:Bs):(cv l).length=l.length:=by unfold cv;rw [List.length_map]
theorem qQ:∀l:Bs,(cm l).length≤l.length
 |[]=>Nat.le_refl _
 |[b]=>Nat.le_refl _
 |[b,h]=>Nat.le_refl _
 |b::h::g::t=>by
  have h1:=qQ t
  have h2:=qQ (h::g::t)
  show(if b.toNat=37∧0≤gf h.toNat∧0≤gf g.toNat then bR (gf h.toNat*16+gf g.toNat)::cm t else b::cm (h::g::t)).length≤_
  split
  ·rw [List.length_cons];simp only [List.length_cons];omega
  ·rw [List.length_cons];simp only [List.length_cons]at h2⊢;omega
def Gg:cp:=bP [(171,qK),(154,ku),(172,lz),(173,nU),(175,qJ),(176,nQ)]
def Gi(l:Bs):ba:=fun i=>none
theorem DI:cR Tryz.prog aA Gg:=ai xu (ai mD (ai sh (ai vj (ai xp (ai u9 (ax))))))
theorem I6(l:Bs)(k:PV→Prop):cB Tryz.prog Gg aA (Gi l) 1000 Tryz.f162 [.str l] k=(
 (List.length l).le (1000000:Nat)∧
 (List.length (cm l)).le (1000000:Nat)∧
 (List.length (cv (cm l))).le (1000000:Nat)∧
 (sg (cv (cm l))=true→
 k
 (PV.tup
 [PV.agg
 [PV.int .i64 (0:Int),PV.str [],PV.int .u32 (0:Int),
 PV.arr (8:Nat) (ar.ints .u16 (List.replicate (8:Nat) (0:Int)))],
 PV.int .i64 (9:Int)]))∧
 (sg (cv (cm l))=false→
 (decide (cv (cm l)=(ByteArray.mk #[]).data.toList)=false→True)∧
 ((bif decide (cv (cm l)=(ByteArray.mk #[]).data.toList)then true
 else JX (cv (cm l)))=
 true→
 k
 (PV.tup
 [PV.agg
 [PV.int .i64 (0:Int),PV.str [],PV.int .u32 (0:Int),
 PV.arr (8:Nat) (ar.ints .u16 (List.replicate (8:Nat) (0:Int)))],
 PV.int .i64 (8:Int)]))∧
 ((bif decide (cv (cm l)=(ByteArray.mk #[]).data.toList)then true
 else JX (cv (cm l)))=
 false→
 (List.length (cv (cm l))).le (1000000:Nat)∧
 ((!u6 (cv (cm l)))=true→
 k
 (PV.tup
 [PV.agg
 [PV.int .i64 (2:Int),
 PV.str (cv (cm l)),
 PV.int .u32 (0:Int),
 PV.arr (8:Nat) (ar.ints .u16 (List.replicate (8:Nat) (0:Int)))],
 PV.int .i64 (0:Int)]))∧
 ((!u6 (cv (cm l)))=
 false→
 (List.length (cv (cm l))).le (1000000:Nat)∧
 ((!oR (cv (cm l)))=
 true→
 k
 (PV.tup
 [PV.agg
 [PV.int .i64 (0:Int),PV.str [],PV.int .u32 (0:Int),
 PV.arr (8:Nat) (ar.ints .u16 (List.replicate (8:Nat) (0:Int)))],
 PV.int .i64 (8:Int)]))∧
 ((!oR
 (cv (cm l)))=
 false→
 k
 (PV.tup
 [PV.agg
 [PV.int .i64 (3:Int),PV.str [],
 PV.int .u32
 (cu
 (cv (cm l))),
 PV.arr (8:Nat) (ar.ints .u16 (List.replicate (8:Nat) (0:Int)))],
 PV.int .i64 (0:Int)])))))):=by kernel_rfl
attribute [local irreducible] Go.Vc.cB
theorem I7(l:Bs):ag Tryz.prog aA 162 [.str l] ⟨l.length≤1000000,.tup [.agg [.int .i64 (eC (cv (cm l))).1,.str (eC (cv (cm l))).2.1,.int .u32 (eC (cv (cm l))).2.2.1,.arr 8 (.ints .u16 (eC (cv (cm l))).2.2.2.1)],.int .i64 (eC (cv (cm l))).2.2.2.2]⟩:=bY (by kernel_rfl) DI (H:=Gi l) (fuel:=1000) Tryz.func162 (by kernel_rfl) fun hpre=>(I6 l _).mpr (by
 have hd1:=qQ l
 have hd2:=Gf (cm l)
 have hd:(cv (cm l)).length≤1000000:=by omega
 obtain ⟨d,hdd⟩:∃d,cv (cm l)=d:=⟨_,rfl⟩
 rw [hdd]at hd⊢
 refine ⟨hpre,Nat.le_trans hd1 hpre,hd,fun h=>?_,fun h=>⟨fun _=>trivial,fun h2=>?_,fun h2=>?_⟩⟩
 ·have:eC d=Ge 9:=by unfold eC;rw [if_pos h]
  rw [this];rfl
 ·have h3:d=[]∨JX d=true:=by
   cases e:decide (d=(ByteArray.mk #[]).data.toList)with
   |true=>exact .inl (of_decide_eq_true e)
   |false=>rw [e]at h2;exact .inr h2
  have:eC d=Ge 8:=by unfold eC;rw [if_neg (by rw [h];decide),if_pos h3]
  rw [this];rfl
 ·have h3:¬(d=[]∨JX d=true):=by
   cases e:decide (d=(ByteArray.mk #[]).data.toList)with
   |true=>rw [e]at h2;cases h2
   |false=>
    rw [e]at h2
    have e2:¬d=[]:=of_decide_eq_false e
    have h4:JX d=false:=h2
    rintro (g|g)
    ·exact e2 g
    ·rw [h4]at g;cases g
  have hu:¬sg d=true:=by rw [h];decide
  refine ⟨hd,fun h4=>?_,fun h4=>⟨hd,fun h5=>?_,fun h5=>?_⟩⟩
  ·have e4:u6 d=false:=by cases e:u6 d with |false=>rfl|true=>rw [e]at h4;cases h4
   have:eC d=(2,d,0,z8,0):=by unfold eC;rw [if_neg hu,if_neg h3,if_pos e4]
   rw [this];rfl
  ·have e4:¬u6 d=false:=by intro e;rw [e]at h4;cases h4
   have e5:¬oR d=true:=by intro e;rw [e]at h5;cases h5
   have:eC d=Ge 8:=by unfold eC;rw [if_neg hu,if_neg h3,if_neg e4,if_neg e5]
   rw [this];rfl
  ·have e4:¬u6 d=false:=by intro e;rw [e]at h4;cases h4
   have e5:oR d=true:=by cases e:oR d with |true=>rfl|false=>rw [e]at h5;cases h5
   have:eC d=(3,[],cu d,z8,0):=by unfold eC;rw [if_neg hu,if_neg h3,if_neg e4,if_pos e5]
   rw [this];rfl)
def mF:List PV→Option aG:=fun xs=>match xs with
 |[.str l]=>some ⟨l.length≤1000000,.tup [.agg [.int .i64 (eC (cv (cm l))).1,.str (eC (cv (cm l))).2.1,.int .u32 (eC (cv (cm l))).2.2.1,.arr 8 (.ints .u16 (eC (cv (cm l))).2.2.2.1)],.int .i64 (eC (cv (cm l))).2.2.2.2]⟩
 |_=>none
theorem oU:∀xs c,mF xs=some c→ag Tryz.prog aA 162 xs c:=fun xs c h=>by
 unfold mF at h
 split at h
 ·injection h with h;subst h;exact I7 _
 ·cases h
end
section
def eX(t:Bs):H5:=if(fp t [93]).2=true∧(iq (fp t [93]).1).2=true then(4,[],0,(iq (fp t [93]).1).1,0)else Ge 8
theorem Gj(l m:Bs):(fp l m).1.length≤l.length:=by
 unfold fp
 split
 ·show(l.take _).length≤_
  rw [List.length_take];omega
 ·exact Nat.le_refl _
def Gk:cp:=bP [(169,qP),(170,ly)]
def Gl(l:Bs):ba:=fun i=>none
theorem DJ:cR Tryz.prog aA Gk:=ai xJ (ai se (ax))
theorem I8(l:Bs)(k:PV→Prop):cB Tryz.prog Gk aA (Gl l) 1000 Tryz.f161 [.str l] k=(
 upto (1:Int) (ak l) (ak l)∧
 ((aa l (1:Int)).length≤(1000000:Nat)∧(ByteArray.mk #[93]).data.toList.length≤(1000000:Nat))∧
 ((fp (aa l (1:Int)) (ByteArray.mk #[93]).data.toList).2=true→
 (List.length (fp (aa l (1:Int)) (ByteArray.mk #[93]).data.toList).1).le (1000000:Nat)∧
 ((iq
 (fp (aa l (1:Int)) (ByteArray.mk #[93]).data.toList).1).2=
 true→
 k
 (PV.tup
 [PV.agg
 [PV.int .i64 (4:Int),PV.str [],PV.int .u32 (0:Int),
 PV.arr (8:Nat)
 (ar.ints .u16
 (iq
 (fp (aa l (1:Int)) (ByteArray.mk #[93]).data.toList).1).1)],
 PV.int .i64 (0:Int)]))∧
 ((iq
 (fp (aa l (1:Int)) (ByteArray.mk #[93]).data.toList).1).2=
 false→
 k
 (PV.tup
 [PV.agg
 [PV.int .i64 (0:Int),PV.str [],PV.int .u32 (0:Int),
 PV.arr (8:Nat) (ar.ints .u16 (List.replicate (8:Nat) (0:Int)))],
 PV.int .i64 (8:Int)])))∧
 ((fp (aa l (1:Int)) (ByteArray.mk #[93]).data.toList).2=false→
 k
 (PV.tup
 [PV.agg
 [PV.int .i64 (0:Int),PV.str [],PV.int .u32 (0:Int),
 PV.arr (8:Nat) (ar.ints .u16 (List.replicate (8:Nat) (0:Int)))],
 PV.int .i64 (8:Int)]))):=by kernel_rfl
attribute [local irreducible] Go.Vc.cB
theorem I9(l:Bs):ag Tryz.prog aA 161 [.str l] ⟨1≤l.length∧l.length≤1000000,.tup [.agg [.int .i64 (eX (l.drop 1)).1,.str (eX (l.drop 1)).2.1,.int .u32 (eX (l.drop 1)).2.2.1,.arr 8 (.ints .u16 (eX (l.drop 1)).2.2.2.1)],.int .i64 (eX (l.drop 1)).2.2.2.2]⟩:=bY (by kernel_rfl) DJ (H:=Gl l) (fuel:=1000) Tryz.func161 (by kernel_rfl) fun hpre=>(I8 l _).mpr (by
 obtain ⟨h1,h2⟩:=hpre
 have hd:aa l 1=l.drop 1:=rfl
 have hl:(l.drop 1).length≤1000000:=by rw [List.length_drop];omega
 have hc:=Gj (l.drop 1) [93]
 rw [hd]
 refine ⟨⟨by omega,by unfold ak;omega,Int.le_refl _⟩,⟨hl,by decide⟩,fun h=>⟨Nat.le_trans hc hl,fun h3=>?_,fun h3=>?_⟩,fun h=>?_⟩
 ·have:eX (l.drop 1)=(4,[],0,(iq (fp (l.drop 1) [93]).1).1,0):=by unfold eX;rw [if_pos ⟨h,h3⟩]
  rw [this]
 ·have:eX (l.drop 1)=Ge 8:=by unfold eX;rw [if_neg (fun g=>by have g2:(iq (fp (l.drop 1) [93]).1).2=false:=h3;rw [g.2]at g2;cases g2)]
  rw [this];rfl
 ·have:eX (l.drop 1)=Ge 8:=by unfold eX;rw [if_neg (fun g=>by have g2:(fp (l.drop 1) [93]).2=false:=h;rw [g.1]at g2;cases g2)]
  rw [this];rfl)
def mG:List PV→Option aG:=fun xs=>match xs with
 |[.str l]=>some ⟨1≤l.length∧l.length≤1000000,.tup [.agg [.int .i64 (eX (l.drop 1)).1,.str (eX (l.drop 1)).2.1,.int .u32 (eX (l.drop 1)).2.2.1,.arr 8 (.ints .u16 (eX (l.drop 1)).2.2.2.1)],.int .i64 (eX (l.drop 1)).2.2.2.2]⟩
 |_=>none
theorem oV:∀xs c,mG xs=some c→ag Tryz.prog aA 161 xs c:=fun xs c h=>by
 unfold mG at h
 split at h
 ·injection h with h;subst h;exact I9 _
 ·cases h
end
section
def cw(l:Bs):H5:=if preB l [91]=true then eX (l.drop 1)else eC (cv (cm l))
def xN:cp:=bP [(78,cY),(161,mG),(162,mF),(74,mB)]
def xO(l:Bs):ba:=fun i=>none
theorem xP:cR Tryz.prog aA xN:=ai cI (ai oV (ai oU (ai lx (ax))))
theorem DK(l:Bs)(k:PV→Prop):cB Tryz.prog xN aA (xO l) 1000 Tryz.f136 [.str l,.bool true] k=(
 True∧
 (preB l (ByteArray.mk #[91]).data.toList=true→
 ((1:Nat)≤List.length l∧List.length l≤(1000000:Nat))∧
 k
 (PV.tup
 [PV.agg
 [PV.int .i64 (eX (List.drop (1:Nat) l)).1,
 PV.str (eX (List.drop (1:Nat) l)).2.1,
 PV.int .u32 (eX (List.drop (1:Nat) l)).2.2.1,
 PV.arr (8:Nat) (ar.ints .u16 (eX (List.drop (1:Nat) l)).2.2.2.1)],
 PV.int .i64 (eX (List.drop (1:Nat) l)).2.2.2.2]))∧
 (preB l (ByteArray.mk #[91]).data.toList=false→
 (true=true→
 (List.length l).le (1000000:Nat)∧
 k
 (PV.tup
 [PV.agg
 [PV.int .i64
 (eC (cv (cm l))).1,
 PV.str
 (eC
 (cv (cm l))).2.1,
 PV.int .u32
 (eC
 (cv (cm l))).2.2.1,
 PV.arr (8:Nat)
 (ar.ints .u16
 (eC
 (cv (cm l))).2.2.2.1)],
 PV.int .i64
 (eC
 (cv (cm l))).2.2.2.2]))∧
 (true=false→
 (List.length l≤(1000000:Nat)∧
 (ByteArray.mk
 #[0,9,10,13,32,35,47,58,60,62,63,64,91,92,93,94,124]).data.toList.length≤
 (1000000:Nat)∧
 ∀(b:UInt8),
 b∈
 (ByteArray.mk
 #[0,9,10,13,32,35,47,58,60,62,63,64,91,92,93,94,124]).data.toList→
 b.toNat<(128:Nat))∧
 (jm l
 (ByteArray.mk
 #[0,9,10,13,32,35,47,58,60,62,63,64,91,92,93,94,124]).data.toList=
 true→
 k
 (PV.tup
 [PV.agg
 [PV.int .i64 (0:Int),PV.str [],PV.int .u32 (0:Int),
 PV.arr (8:Nat) (ar.ints .u16 (List.replicate (8:Nat) (0:Int)))],
 PV.int .i64 (8:Int)]))∧
 (jm l
 (ByteArray.mk
 #[0,9,10,13,32,35,47,58,60,62,63,64,91,92,93,94,124]).data.toList=
 false→
 (decide (l=(ByteArray.mk #[]).data.toList)=true→
 k
 (PV.tup
 [PV.agg
 [PV.int .i64 (1:Int),PV.str [],PV.int .u32 (0:Int),
 PV.arr (8:Nat) (ar.ints .u16 (List.replicate (8:Nat) (0:Int)))],
 PV.int .i64 (0:Int)]))∧
 (decide (l=(ByteArray.mk #[]).data.toList)=false→False))))):=by kernel_rfl
attribute [local irreducible] Go.Vc.cB
theorem tM(l:Bs):ag Tryz.prog aA 136 [.str l,.bool true] ⟨l.length≤1000000,.tup [.agg [.int .i64 (cw l).1,.str (cw l).2.1,.int .u32 (cw l).2.2.1,.arr 8 (.ints .u16 (cw l).2.2.2.1)],.int .i64 (cw l).2.2.2.2]⟩:=bY (by kernel_rfl) xP (H:=xO l) (fuel:=1000) Tryz.func136 (by kernel_rfl) fun hpre=>(DK l _).mpr (by
 have e91:(ByteArray.mk #[91]).data.toList=([91]:Bs):=rfl
 rw [e91]
 refine ⟨trivial,fun h=>⟨⟨?_,hpre⟩,?_⟩,fun h=>?_⟩
 ·cases l with
  |nil=>cases h
  |cons b r=>rw [List.length_cons];omega
 ·have:cw l=eX (l.drop 1):=by unfold cw;rw [if_pos h]
  rw [this]
 ·have:cw l=eC (cv (cm l)):=by unfold cw;rw [if_neg (by rw [h];decide)]
  rw [this]
  exact ⟨fun _=>⟨hpre,rfl⟩,fun h=>by cases h⟩)
def lA:List PV→Option aG:=fun xs=>match xs with
 |[.str l,.bool true]=>some ⟨l.length≤1000000,.tup [.agg [.int .i64 (cw l).1,.str (cw l).2.1,.int .u32 (cw l).2.2.1,.arr 8 (.ints .u16 (cw l).2.2.2.1)],.int .i64 (cw l).2.2.2.2]⟩
 |_=>none
theorem si:∀xs c,lA xs=some c→ag Tryz.prog aA 136 xs c:=fun xs c h=>by
 unfold lA at h
 split at h
 ·injection h with h;subst h;exact tM _
 ·cases h
end
end Go.Proofs.YtmfapopclbnlpaaGreatDoor
