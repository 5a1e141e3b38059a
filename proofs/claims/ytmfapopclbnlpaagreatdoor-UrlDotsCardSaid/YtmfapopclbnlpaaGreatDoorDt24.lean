import Derived.Shelf.Strings.FuncGrows
import Derived.Lib.TrimAscii
import Derived.Test.YtmfapopclbnlpaaGreatDoorProg
import Derived.ProofKit
import Derived.Test.YtmfapopclbnlpaaGreatDoorDt6
import Derived.Test.YtmfapopclbnlpaaGreatDoorDt18
set_option linter.unusedVariables false
set_option linter.unusedSimpArgs false
set_option maxRecDepth 100000
set_option maxHeartbeats 4000000
namespace Go.Proofs.YtmfapopclbnlpaaGreatDoor
open Go Go.Proofs Go.RowKit Go.Vc
theorem oW.below {w w':World}(h:oW w)(hb:Below w.heap.size w w'):oW w':=
 Wd.mono (self:=KL) w w' hb.os hb.tape hb.output hb.size (fun k hk=>hb.block k (Nat.lt_of_lt_of_le hk (Wd.within (self:=KL) w h))) h
theorem xn(w:World)(hw:oW w):PredGrows Tryz.prog 174 #[] (fun x=>Ic x) w:=fun W x hx hb=>
 ((Fp (x:Int)).walk Tryz.func174 (by kernel_rfl) rfl ⟨by omega,by omega⟩ (sQ W) (y9 _) (hw.below hb) (vs:=[.int .i32 x]) ⟨_,_,rfl,rfl,rfl⟩).mono fun e w' ⟨u,he,F',_,hb,_,_,_,_,hr⟩=>⟨by rw [he];exact congrArg _ hr,hb⟩
def Ju(l:Bs):Bool:=decide (0≤Lib.idxFunc (fun x=>Ic x) true ⟨l.toArray⟩)
theorem Fx(l:Bs):ag Tryz.prog az 173 [.str l,.fn (.func 174) [] []] ⟨True,.bool (Ju l)⟩:=
 ag.b8 Tryz.func173 (by kernel_rfl) rfl fun _ F w vs _ _ hw hx=>by
  obtain ⟨_,_,rfl,r1,_,_,rfl,r2,rfl⟩:=hx
  obtain rfl:=r1
  obtain ⟨us,vs,rfl,rfl,rfl⟩:=r2
  exact ⟨_,Any.strings_ContainsFunc_grows Tryz.Kd 174 #[] (enters_of Tryz.func174 (by kernel_rfl) rfl) _ ⟨l.toArray⟩ w (xn w hw),fun G w=>rfl⟩
def nE:List PV→Option aF:=fun xs=>match xs with |[.str l,.fn (.func 174) [] []]=>some ⟨True,.bool (Ju l)⟩|_=>none
theorem uX:∀xs c,nE xs=some c→ag Tryz.prog az 173 xs c:=fun xs c h=>by
 unfold nE at h
 split at h
 ·injection h with h;subst h;exact Fx _
 ·cases h
section
def hY(l m:Bs):Bool:=bif decide (ak m≤ak l)then decide (aa l (ak l-ak m)=m)else false
def Fy:cw:=bO []
def Fz(l m:Bs):aX:=fun i=>none
theorem Dc:cW Tryz.prog az Fy:=ax
theorem Im(l m:Bs)(k:PV→Prop):cG Tryz.prog Fy az (Fz l m) 1000 Tryz.f158 [.str l,.str m] k=(
 (decide (ak m≤ak l)=true→ay (ak l-ak m))∧
 (decide (ak m≤ak l)=true→upto (ak l-ak m) (ak l) (ak l))∧
 k (PV.bool (bif decide (ak m≤ak l)then decide (aa l (ak l-ak m)=m)else false))):=by kernel_rfl
attribute [local irreducible] Go.Vc.cG
theorem Io(l m:Bs):ag Tryz.prog az 158 [.str l,.str m] ⟨l.length≤1000000∧m.length≤1000000,.bool (hY l m)⟩:=b7 (by kernel_rfl) Dc (H:=Fz l m) (fuel:=1000) Tryz.func158 (by kernel_rfl) fun hpre=>(Im l m _).mpr (by
 exact ⟨fun h=>⟨by unfold ak;omega,by unfold ak;omega⟩,fun h=>⟨by have:=of_decide_eq_true h;omega,by unfold ak;omega,Int.le_refl _⟩,rfl⟩)
def mo:List PV→Option aF:=fun xs=>match xs with
 |[.str l,.str m]=>some ⟨l.length≤1000000∧m.length≤1000000,.bool (hY l m)⟩
 |_=>none
theorem oC:∀xs c,mo xs=some c→ag Tryz.prog az 158 xs c:=fun xs c h=>by
 unfold mo at h
 split at h
 ·injection h with h;subst h;exact Io _ _
 ·cases h
end
section
def fc(l m:Bs):Bs×Bool:=if hY l m=true then(ae l (ak l-ak m),true)else(l,false)
def Br:cw:=bO [(158,mo)]
def Bt(l m:Bs):aX:=fun i=>none
theorem zP:cW Tryz.prog az Br:=ai oC (ax)
theorem FA(l m:Bs)(k:PV→Prop):cG Tryz.prog Br az (Bt l m) 1000 Tryz.f179 [.str l,.str m] k=(
 (List.length l≤(1000000:Nat)∧List.length m≤(1000000:Nat))∧
 ((!hY l m)=true→k (PV.tup [PV.str l,PV.bool false]))∧
 ((!hY l m)=false→
 ay (ak l-ak m)∧
 upto (0:Int) (ak l-ak m) (ak l)∧
 k (PV.tup [PV.str (ae l (ak l-ak m)),PV.bool true]))):=by kernel_rfl
attribute [local irreducible] Go.Vc.cG
theorem FB(l m:Bs):ag Tryz.prog az 179 [.str l,.str m] ⟨l.length≤1000000∧m.length≤1000000,.tup [.str (fc l m).1,.bool (fc l m).2]⟩:=b7 (by kernel_rfl) zP (H:=Bt l m) (fuel:=1000) Tryz.func179 (by kernel_rfl) fun hpre=>(FA l m _).mpr (by
 obtain ⟨h1,h2⟩:=hpre
 refine ⟨⟨h1,h2⟩,fun h=>?_,fun h=>⟨by unfold ay ak;omega,?_,?_⟩⟩
 ·have e:¬hY l m=true:=by intro e;rw [e]at h;cases h
  have:fc l m=(l,false):=by unfold fc;rw [if_neg e]
  rw [this]
 ·have e:hY l m=true:=by cases e:hY l m with |true=>rfl|false=>rw [e]at h;cases h
  unfold hY at e
  cases e2:decide (ak m≤ak l)with
  |false=>rw [e2]at e;cases e
  |true=>have:=of_decide_eq_true e2;unfold upto;unfold ak at this⊢;omega
 ·have e:hY l m=true:=by cases e:hY l m with |true=>rfl|false=>rw [e]at h;cases h
  have:fc l m=(ae l (ak l-ak m),true):=by unfold fc;rw [if_pos e]
  rw [this])
def nG:List PV→Option aF:=fun xs=>match xs with
 |[.str l,.str m]=>some ⟨l.length≤1000000∧m.length≤1000000,.tup [.str (fc l m).1,.bool (fc l m).2]⟩
 |_=>none
theorem uY:∀xs c,nG xs=some c→ag Tryz.prog az 179 xs c:=fun xs c h=>by
 unfold nG at h
 split at h
 ·injection h with h;subst h;exact FB _ _
 ·cases h
end
section
def FC:cw:=bO [(179,nG)]
def FD(l m:Bs):aX:=fun i=>none
theorem Dd:cW Tryz.prog az FC:=ai uY (ax)
theorem Ip(l m:Bs)(k:PV→Prop):cG Tryz.prog FC az (FD l m) 1000 Tryz.f169 [.str l,.str m] k=(
 (List.length l≤(1000000:Nat)∧List.length m≤(1000000:Nat))∧
 k (PV.tup [PV.str (fc l m).1,PV.bool (fc l m).2])):=by kernel_rfl
attribute [local irreducible] Go.Vc.cG
theorem Iq(l m:Bs):ag Tryz.prog az 169 [.str l,.str m] ⟨l.length≤1000000∧m.length≤1000000,.tup [.str (fc l m).1,.bool (fc l m).2]⟩:=b7 (by kernel_rfl) Dd (H:=FD l m) (fuel:=1000) Tryz.func169 (by kernel_rfl) fun hpre=>(Ip l m _).mpr (by
 exact ⟨hpre,rfl⟩)
def qC:List PV→Option aF:=fun xs=>match xs with
 |[.str l,.str m]=>some ⟨l.length≤1000000∧m.length≤1000000,.tup [.str (fc l m).1,.bool (fc l m).2]⟩
 |_=>none
theorem xo:∀xs c,qC xs=some c→ag Tryz.prog az 169 xs c:=fun xs c h=>by
 unfold qC at h
 split at h
 ·injection h with h;subst h;exact Iq _ _
 ·cases h
end
section
def LD:Bs:=[120,110,45,45]
def Ld:Bs:=[46,120,110,45,45]
def De(b:UInt8):Bool:=decide (b.toNat≤127)
def rT(l:Bs):Bool:=!l.all De||preB l LD||hasB l Ld
theorem FE(p:UInt8→Bool)(l:Bs)(j:Nat)(h:j<l.length):(l.take (j+1)).all p=((l.take j).all p&&p (l.getD j 0)):=by
 rw [List.take_add_one,List.getElem?_eq_getElem h,List.all_append,List.getD_eq_getElem?_getD,List.getElem?_eq_getElem h]
 simp
theorem Ir(l:Bs)(j:Nat)(h:j<l.length):l.getD j 0∈l:=by
 rw [List.getD_eq_getElem?_getD,List.getElem?_eq_getElem h]
 exact List.getElem_mem h
def It(l:Bs)(i:Int):Prop:=∃j:Nat,i=j∧j≤l.length∧(l.take j).all De=true
def xp:cw:=bO [(78,db),(185,uL)]
def xq(l:Bs):aX:=fun i=>bif Nat.beq i 2 then some ⟨(Int),(fun s x=>((((s.put 6 (.int .i64 x)).put 3 .undef).put 7 .undef).put 12 .undef)),(fun s=>s.int 6),(fun s x=>let i:=x;It l i),(fun s x=>let i:=x;((l.length:Int)-i).toNat),[3,7,12]⟩else none
theorem xr:cW Tryz.prog az xp:=ai cK (ai zB (ax))
theorem Df(l:Bs)(k:PV→Prop):cG Tryz.prog xp az (xq l) 1000 Tryz.f172 [.str l] k=(
 VS.mk []
 [(0,PV.str l),(2,PV.bool false),((3:Nat),PV.undef),(5,PV.int .i64 (ak l)),
 (6,PV.int .i64 (0:Int)),((7:Nat),PV.undef),((12:Nat),PV.undef)]
 []=
 VS.mk []
 [(0,PV.str l),(2,PV.bool false),((3:Nat),PV.undef),(5,PV.int .i64 (ak l)),
 ((6:Nat),PV.int .i64 (0:Int)),((7:Nat),PV.undef),((12:Nat),PV.undef)]
 []∧
 It l (0:Int)∧
 ∀(x:Int),
 It l x→
 (decide (x<ak l)=true→
 within x (ak l)∧
 (decide ((127:Int)<al l x)=true→k (PV.bool true))∧
 (decide ((127:Int)<al l x)=false→
 ay (x+(1:Int))∧
 VS.mk []
 [(0,PV.str l),(2,PV.bool false),((3:Nat),PV.undef),
 (5,PV.int .i64 (ak l)),((6:Nat),PV.int .i64 (x+(1:Int))),
 ((7:Nat),PV.undef),((12:Nat),PV.undef)]
 []=
 VS.mk []
 [(0,PV.str l),(2,PV.bool false),((3:Nat),PV.undef),
 (5,PV.int .i64 (ak l)),((6:Nat),PV.int .i64 (x+(1:Int))),
 ((7:Nat),PV.undef),((12:Nat),PV.undef)]
 []∧
 It l (x+(1:Int))∧(↑(List.length l)-(x+(1:Int))).toNat<(↑(List.length l)-x).toNat))∧
 (decide (x<ak l)=false→
 True∧
 (preB l (ByteArray.mk #[120,110,45,45]).data.toList=false→
 (List.length l).le (1000000:Nat))∧
 k
 (PV.bool
 (bif preB l (ByteArray.mk #[120,110,45,45]).data.toList then
 true
 else
 hasB l
 (ByteArray.mk #[46,120,110,45,45]).data.toList)))):=by kernel_rfl
attribute [local irreducible] Go.Vc.cG
theorem Dg(l:Bs):ag Tryz.prog az 172 [.str l] ⟨l.length≤1000000,.bool (rT l)⟩:=b7 (by kernel_rfl) xr (H:=xq l) (fuel:=1000) Tryz.func172 (by kernel_rfl) fun hpre=>(Df l _).mpr (by
 refine ⟨rfl,⟨0,rfl,by omega,rfl⟩,fun x hx=>?_⟩
 obtain ⟨j,rfl,hj,ha⟩:=hx
 have e1:(j:Int)+1=((j+1:Nat):Int):=by push_cast;rfl
 have hb:al l (j:Int)=((l.getD j 0).toNat:Int):=rfl
 rw [e1,hb]
 refine ⟨fun h=>?_,fun h=>?_⟩
 ·have hjl:j<l.length:=by have:=of_decide_eq_true h;unfold ak at this;omega
  refine ⟨by unfold within ak;omega,fun h2=>?_,fun h2=>⟨by unfold ay;omega,rfl,⟨j+1,rfl,by omega,?_⟩,by omega⟩⟩
  ·have hf:l.all De=false:=by
    rw [Bool.eq_false_iff]
    intro g
    have g1:=List.all_eq_true.1 g _ (Ir l j hjl)
    unfold De at g1
    have g2:=of_decide_eq_true g1
    have g3:=of_decide_eq_true h2
    omega
   show PV.bool true=PV.bool (rT l)
   unfold rT
   rw [hf];rfl
  ·have g3:=of_decide_eq_false h2
   rw [FE De l j hjl,ha,Bool.true_and]
   unfold De
   exact decide_eq_true (by omega)
 ·have hjl:j=l.length:=by have:=of_decide_eq_false h;unfold ak at this;omega
  rw [hjl,List.take_length]at ha
  refine ⟨trivial,fun _=>hpre,?_⟩
  show PV.bool (bif preB l LD then true else hasB l Ld)=PV.bool (rT l)
  unfold rT
  rw [ha]
  cases preB l LD<;>rfl)
def lp:List PV→Option aF:=fun xs=>match xs with
 |[.str l]=>some ⟨l.length≤1000000,.bool (rT l)⟩
 |_=>none
theorem rU:∀xs c,lp xs=some c→ag Tryz.prog az 172 xs c:=fun xs c h=>by
 unfold lp at h
 split at h
 ·injection h with h;subst h;exact Dg _
 ·cases h
end
section
abbrev H5:=Int×Bs×Int×List Int×Int
def z8:List Int:=List.replicate 8 0
def FF(e:Int):H5:=(0,[],0,z8,e)
def ew(d:Bs):H5:=if rT d=true then FF 9 else if d=[]∨Ju d=true then FF 8 else if uK d=false then(2,d,0,z8,0)else if oA d=true then(3,[],cz d,z8,0)else FF 8
theorem FG(l:Bs):(ck l).length=l.length:=by unfold ck;rw [List.length_map]
theorem qD:∀l:Bs,(cr l).length≤l.length
 |[]=>Nat.le_refl _
 |[b]=>Nat.le_refl _
 |[b,h]=>Nat.le_refl _
 |b::h::g::t=>by
  have h1:=qD t
  have h2:=qD (h::g::t)
  show(if b.toNat=37∧0≤fT h.toNat∧0≤fT g.toNat then bR (fT h.toNat*16+fT g.toNat)::cr t else b::cr (h::g::t)).length≤_
  split
  ·rw [List.length_cons];simp only [List.length_cons];omega
  ·rw [List.length_cons];simp only [List.length_cons]at h2⊢;omega
def FH:cw:=bO [(171,qv),(154,ko),(172,lp),(173,nE),(175,qu),(176,nA)]
def FI(l:Bs):aX:=fun i=>none
theorem Dh:cW Tryz.prog az FH:=ai w9 (ai mn (ai rU (ai uX (ai wY (ai uM (ax))))))
theorem Iu(l:Bs)(k:PV→Prop):cG Tryz.prog FH az (FI l) 1000 Tryz.f162 [.str l] k=(
 (List.length l).le (1000000:Nat)∧
 (List.length (cr l)).le (1000000:Nat)∧
 (List.length (ck (cr l))).le (1000000:Nat)∧
 (rT (ck (cr l))=true→
 k
 (PV.tup
 [PV.agg
 [PV.int .i64 (0:Int),PV.str [],PV.int .u32 (0:Int),
 PV.arr (8:Nat) (an.ints .u16 (List.replicate (8:Nat) (0:Int)))],
 PV.int .i64 (9:Int)]))∧
 (rT (ck (cr l))=false→
 (decide (ck (cr l)=(ByteArray.mk #[]).data.toList)=false→True)∧
 ((bif decide (ck (cr l)=(ByteArray.mk #[]).data.toList)then true
 else Ju (ck (cr l)))=
 true→
 k
 (PV.tup
 [PV.agg
 [PV.int .i64 (0:Int),PV.str [],PV.int .u32 (0:Int),
 PV.arr (8:Nat) (an.ints .u16 (List.replicate (8:Nat) (0:Int)))],
 PV.int .i64 (8:Int)]))∧
 ((bif decide (ck (cr l)=(ByteArray.mk #[]).data.toList)then true
 else Ju (ck (cr l)))=
 false→
 (List.length (ck (cr l))).le (1000000:Nat)∧
 ((!uK (ck (cr l)))=true→
 k
 (PV.tup
 [PV.agg
 [PV.int .i64 (2:Int),
 PV.str (ck (cr l)),
 PV.int .u32 (0:Int),
 PV.arr (8:Nat) (an.ints .u16 (List.replicate (8:Nat) (0:Int)))],
 PV.int .i64 (0:Int)]))∧
 ((!uK (ck (cr l)))=
 false→
 (List.length (ck (cr l))).le (1000000:Nat)∧
 ((!oA (ck (cr l)))=
 true→
 k
 (PV.tup
 [PV.agg
 [PV.int .i64 (0:Int),PV.str [],PV.int .u32 (0:Int),
 PV.arr (8:Nat) (an.ints .u16 (List.replicate (8:Nat) (0:Int)))],
 PV.int .i64 (8:Int)]))∧
 ((!oA
 (ck (cr l)))=
 false→
 k
 (PV.tup
 [PV.agg
 [PV.int .i64 (3:Int),PV.str [],
 PV.int .u32
 (cz
 (ck (cr l))),
 PV.arr (8:Nat) (an.ints .u16 (List.replicate (8:Nat) (0:Int)))],
 PV.int .i64 (0:Int)])))))):=by kernel_rfl
attribute [local irreducible] Go.Vc.cG
theorem Iv(l:Bs):ag Tryz.prog az 162 [.str l] ⟨l.length≤1000000,.tup [.agg [.int .i64 (ew (ck (cr l))).1,.str (ew (ck (cr l))).2.1,.int .u32 (ew (ck (cr l))).2.2.1,.arr 8 (.ints .u16 (ew (ck (cr l))).2.2.2.1)],.int .i64 (ew (ck (cr l))).2.2.2.2]⟩:=b7 (by kernel_rfl) Dh (H:=FI l) (fuel:=1000) Tryz.func162 (by kernel_rfl) fun hpre=>(Iu l _).mpr (by
 have hd1:=qD l
 have hd2:=FG (cr l)
 have hd:(ck (cr l)).length≤1000000:=by omega
 obtain ⟨d,hdd⟩:∃d,ck (cr l)=d:=⟨_,rfl⟩
 rw [hdd]at hd⊢
 refine ⟨hpre,Nat.le_trans hd1 hpre,hd,fun h=>?_,fun h=>⟨fun _=>trivial,fun h2=>?_,fun h2=>?_⟩⟩
 ·have:ew d=FF 9:=by unfold ew;rw [if_pos h]
  rw [this];rfl
 ·have h3:d=[]∨Ju d=true:=by
   cases e:decide (d=(ByteArray.mk #[]).data.toList)with
   |true=>exact .inl (of_decide_eq_true e)
   |false=>rw [e]at h2;exact .inr h2
  have:ew d=FF 8:=by unfold ew;rw [if_neg (by rw [h];decide),if_pos h3]
  rw [this];rfl
 ·have h3:¬(d=[]∨Ju d=true):=by
   cases e:decide (d=(ByteArray.mk #[]).data.toList)with
   |true=>rw [e]at h2;cases h2
   |false=>
    rw [e]at h2
    have e2:¬d=[]:=of_decide_eq_false e
    have h4:Ju d=false:=h2
    rintro (g|g)
    ·exact e2 g
    ·rw [h4]at g;cases g
  have hu:¬rT d=true:=by rw [h];decide
  refine ⟨hd,fun h4=>?_,fun h4=>⟨hd,fun h5=>?_,fun h5=>?_⟩⟩
  ·have e4:uK d=false:=by cases e:uK d with |false=>rfl|true=>rw [e]at h4;cases h4
   have:ew d=(2,d,0,z8,0):=by unfold ew;rw [if_neg hu,if_neg h3,if_pos e4]
   rw [this];rfl
  ·have e4:¬uK d=false:=by intro e;rw [e]at h4;cases h4
   have e5:¬oA d=true:=by intro e;rw [e]at h5;cases h5
   have:ew d=FF 8:=by unfold ew;rw [if_neg hu,if_neg h3,if_neg e4,if_neg e5]
   rw [this];rfl
  ·have e4:¬uK d=false:=by intro e;rw [e]at h4;cases h4
   have e5:oA d=true:=by cases e:oA d with |true=>rfl|false=>rw [e]at h5;cases h5
   have:ew d=(3,[],cz d,z8,0):=by unfold ew;rw [if_neg hu,if_neg h3,if_neg e4,if_pos e5]
   rw [this];rfl)
def mq:List PV→Option aF:=fun xs=>match xs with
 |[.str l]=>some ⟨l.length≤1000000,.tup [.agg [.int .i64 (ew (ck (cr l))).1,.str (ew (ck (cr l))).2.1,.int .u32 (ew (ck (cr l))).2.2.1,.arr 8 (.ints .u16 (ew (ck (cr l))).2.2.2.1)],.int .i64 (ew (ck (cr l))).2.2.2.2]⟩
 |_=>none
theorem oD:∀xs c,mq xs=some c→ag Tryz.prog az 162 xs c:=fun xs c h=>by
 unfold mq at h
 split at h
 ·injection h with h;subst h;exact Iv _
 ·cases h
end
section
def eO(t:Bs):H5:=if(fc t [93]).2=true∧(ie (fc t [93]).1).2=true then(4,[],0,(ie (fc t [93]).1).1,0)else FF 8
theorem FJ(l m:Bs):(fc l m).1.length≤l.length:=by
 unfold fc
 split
 ·show(l.take _).length≤_
  rw [List.length_take];omega
 ·exact Nat.le_refl _
def FK:cw:=bO [(169,qC),(170,ln)]
def FL(l:Bs):aX:=fun i=>none
theorem Di:cW Tryz.prog az FK:=ai xo (ai rS (ax))
theorem Iw(l:Bs)(k:PV→Prop):cG Tryz.prog FK az (FL l) 1000 Tryz.f161 [.str l] k=(
 upto (1:Int) (ak l) (ak l)∧
 ((aa l (1:Int)).length≤(1000000:Nat)∧(ByteArray.mk #[93]).data.toList.length≤(1000000:Nat))∧
 ((fc (aa l (1:Int)) (ByteArray.mk #[93]).data.toList).2=true→
 (List.length (fc (aa l (1:Int)) (ByteArray.mk #[93]).data.toList).1).le (1000000:Nat)∧
 ((ie
 (fc (aa l (1:Int)) (ByteArray.mk #[93]).data.toList).1).2=
 true→
 k
 (PV.tup
 [PV.agg
 [PV.int .i64 (4:Int),PV.str [],PV.int .u32 (0:Int),
 PV.arr (8:Nat)
 (an.ints .u16
 (ie
 (fc (aa l (1:Int)) (ByteArray.mk #[93]).data.toList).1).1)],
 PV.int .i64 (0:Int)]))∧
 ((ie
 (fc (aa l (1:Int)) (ByteArray.mk #[93]).data.toList).1).2=
 false→
 k
 (PV.tup
 [PV.agg
 [PV.int .i64 (0:Int),PV.str [],PV.int .u32 (0:Int),
 PV.arr (8:Nat) (an.ints .u16 (List.replicate (8:Nat) (0:Int)))],
 PV.int .i64 (8:Int)])))∧
 ((fc (aa l (1:Int)) (ByteArray.mk #[93]).data.toList).2=false→
 k
 (PV.tup
 [PV.agg
 [PV.int .i64 (0:Int),PV.str [],PV.int .u32 (0:Int),
 PV.arr (8:Nat) (an.ints .u16 (List.replicate (8:Nat) (0:Int)))],
 PV.int .i64 (8:Int)]))):=by kernel_rfl
attribute [local irreducible] Go.Vc.cG
theorem Ix(l:Bs):ag Tryz.prog az 161 [.str l] ⟨1≤l.length∧l.length≤1000000,.tup [.agg [.int .i64 (eO (l.drop 1)).1,.str (eO (l.drop 1)).2.1,.int .u32 (eO (l.drop 1)).2.2.1,.arr 8 (.ints .u16 (eO (l.drop 1)).2.2.2.1)],.int .i64 (eO (l.drop 1)).2.2.2.2]⟩:=b7 (by kernel_rfl) Di (H:=FL l) (fuel:=1000) Tryz.func161 (by kernel_rfl) fun hpre=>(Iw l _).mpr (by
 obtain ⟨h1,h2⟩:=hpre
 have hd:aa l 1=l.drop 1:=rfl
 have hl:(l.drop 1).length≤1000000:=by rw [List.length_drop];omega
 have hc:=FJ (l.drop 1) [93]
 rw [hd]
 refine ⟨⟨by omega,by unfold ak;omega,Int.le_refl _⟩,⟨hl,by decide⟩,fun h=>⟨Nat.le_trans hc hl,fun h3=>?_,fun h3=>?_⟩,fun h=>?_⟩
 ·have:eO (l.drop 1)=(4,[],0,(ie (fc (l.drop 1) [93]).1).1,0):=by unfold eO;rw [if_pos ⟨h,h3⟩]
  rw [this]
 ·have:eO (l.drop 1)=FF 8:=by unfold eO;rw [if_neg (fun g=>by have g2:(ie (fc (l.drop 1) [93]).1).2=false:=h3;rw [g.2]at g2;cases g2)]
  rw [this];rfl
 ·have:eO (l.drop 1)=FF 8:=by unfold eO;rw [if_neg (fun g=>by have g2:(fc (l.drop 1) [93]).2=false:=h;rw [g.1]at g2;cases g2)]
  rw [this];rfl)
def mr:List PV→Option aF:=fun xs=>match xs with
 |[.str l]=>some ⟨1≤l.length∧l.length≤1000000,.tup [.agg [.int .i64 (eO (l.drop 1)).1,.str (eO (l.drop 1)).2.1,.int .u32 (eO (l.drop 1)).2.2.1,.arr 8 (.ints .u16 (eO (l.drop 1)).2.2.2.1)],.int .i64 (eO (l.drop 1)).2.2.2.2]⟩
 |_=>none
theorem oE:∀xs c,mr xs=some c→ag Tryz.prog az 161 xs c:=fun xs c h=>by
 unfold mr at h
 split at h
 ·injection h with h;subst h;exact Ix _
 ·cases h
end
section
def cA(l:Bs):H5:=if preB l [91]=true then eO (l.drop 1)else ew (ck (cr l))
def xt:cw:=bO [(78,db),(161,mr),(162,mq),(74,ml)]
def xu(l:Bs):aX:=fun i=>none
theorem xv:cW Tryz.prog az xt:=ai cK (ai oE (ai oD (ai ll (ax))))
theorem Dj(l:Bs)(k:PV→Prop):cG Tryz.prog xt az (xu l) 1000 Tryz.f136 [.str l,.bool true] k=(
 True∧
 (preB l (ByteArray.mk #[91]).data.toList=true→
 ((1:Nat)≤List.length l∧List.length l≤(1000000:Nat))∧
 k
 (PV.tup
 [PV.agg
 [PV.int .i64 (eO (List.drop (1:Nat) l)).1,
 PV.str (eO (List.drop (1:Nat) l)).2.1,
 PV.int .u32 (eO (List.drop (1:Nat) l)).2.2.1,
 PV.arr (8:Nat) (an.ints .u16 (eO (List.drop (1:Nat) l)).2.2.2.1)],
 PV.int .i64 (eO (List.drop (1:Nat) l)).2.2.2.2]))∧
 (preB l (ByteArray.mk #[91]).data.toList=false→
 (true=true→
 (List.length l).le (1000000:Nat)∧
 k
 (PV.tup
 [PV.agg
 [PV.int .i64
 (ew (ck (cr l))).1,
 PV.str
 (ew
 (ck (cr l))).2.1,
 PV.int .u32
 (ew
 (ck (cr l))).2.2.1,
 PV.arr (8:Nat)
 (an.ints .u16
 (ew
 (ck (cr l))).2.2.2.1)],
 PV.int .i64
 (ew
 (ck (cr l))).2.2.2.2]))∧
 (true=false→
 (List.length l≤(1000000:Nat)∧
 (ByteArray.mk
 #[0,9,10,13,32,35,47,58,60,62,63,64,91,92,93,94,124]).data.toList.length≤
 (1000000:Nat)∧
 ∀(b:UInt8),
 b∈
 (ByteArray.mk
 #[0,9,10,13,32,35,47,58,60,62,63,64,91,92,93,94,124]).data.toList→
 b.toNat<(128:Nat))∧
 (je l
 (ByteArray.mk
 #[0,9,10,13,32,35,47,58,60,62,63,64,91,92,93,94,124]).data.toList=
 true→
 k
 (PV.tup
 [PV.agg
 [PV.int .i64 (0:Int),PV.str [],PV.int .u32 (0:Int),
 PV.arr (8:Nat) (an.ints .u16 (List.replicate (8:Nat) (0:Int)))],
 PV.int .i64 (8:Int)]))∧
 (je l
 (ByteArray.mk
 #[0,9,10,13,32,35,47,58,60,62,63,64,91,92,93,94,124]).data.toList=
 false→
 (decide (l=(ByteArray.mk #[]).data.toList)=true→
 k
 (PV.tup
 [PV.agg
 [PV.int .i64 (1:Int),PV.str [],PV.int .u32 (0:Int),
 PV.arr (8:Nat) (an.ints .u16 (List.replicate (8:Nat) (0:Int)))],
 PV.int .i64 (0:Int)]))∧
 (decide (l=(ByteArray.mk #[]).data.toList)=false→False))))):=by kernel_rfl
attribute [local irreducible] Go.Vc.cG
theorem tm(l:Bs):ag Tryz.prog az 136 [.str l,.bool true] ⟨l.length≤1000000,.tup [.agg [.int .i64 (cA l).1,.str (cA l).2.1,.int .u32 (cA l).2.2.1,.arr 8 (.ints .u16 (cA l).2.2.2.1)],.int .i64 (cA l).2.2.2.2]⟩:=b7 (by kernel_rfl) xv (H:=xu l) (fuel:=1000) Tryz.func136 (by kernel_rfl) fun hpre=>(Dj l _).mpr (by
 have e91:(ByteArray.mk #[91]).data.toList=([91]:Bs):=rfl
 rw [e91]
 refine ⟨trivial,fun h=>⟨⟨?_,hpre⟩,?_⟩,fun h=>?_⟩
 ·cases l with
  |nil=>cases h
  |cons b r=>rw [List.length_cons];omega
 ·have:cA l=eO (l.drop 1):=by unfold cA;rw [if_pos h]
  rw [this]
 ·have:cA l=ew (ck (cr l)):=by unfold cA;rw [if_neg (by rw [h];decide)]
  rw [this]
  exact ⟨fun _=>⟨hpre,rfl⟩,fun h=>by cases h⟩)
def lq:List PV→Option aF:=fun xs=>match xs with
 |[.str l,.bool true]=>some ⟨l.length≤1000000,.tup [.agg [.int .i64 (cA l).1,.str (cA l).2.1,.int .u32 (cA l).2.2.1,.arr 8 (.ints .u16 (cA l).2.2.2.1)],.int .i64 (cA l).2.2.2.2]⟩
 |_=>none
theorem rV:∀xs c,lq xs=some c→ag Tryz.prog az 136 xs c:=fun xs c h=>by
 unfold lq at h
 split at h
 ·injection h with h;subst h;exact tm _
 ·cases h
end
end Go.Proofs.YtmfapopclbnlpaaGreatDoor
