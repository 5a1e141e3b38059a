import Derived.Shelf.Strings.FuncGrows
import Derived.Lib.TrimAscii
import Derived.Test.YtmfapopclbnlpaaGreatDoorProg
import Derived.ProofKit
import Derived.Test.YtmfapopclbnlpaaGreatDoorUt6
import Derived.Test.YtmfapopclbnlpaaGreatDoorUt18
set_option linter.unusedVariables false
set_option linter.unusedSimpArgs false
set_option maxRecDepth 100000
set_option maxHeartbeats 4000000
namespace Go.Proofs.YtmfapopclbnlpaaGreatDoor
open Go Go.Proofs Go.RowKit Go.Vc
theorem oO.below {w w':World}(h:oO w)(hb:Below w.heap.size w w'):oO w':=
 Wd.mono (self:=Kn) w w' hb.os hb.tape hb.output hb.size (fun k hk=>hb.block k (Nat.lt_of_lt_of_le hk (Wd.within (self:=Kn) w h))) h
theorem xb(w:World)(hw:oO w):PredGrows Tryz.prog 174 #[] (fun x=>Hs x) w:=fun W x hx hb=>
 ((Fg (x:Int)).walk Tryz.func174 (by kernel_rfl) rfl ⟨by omega,by omega⟩ (sD W) (yU _) (hw.below hb) (vs:=[.int .i32 x]) ⟨_,_,rfl,rfl,rfl⟩).mono fun e w' ⟨u,he,F',_,hb,_,_,_,_,hr⟩=>⟨by rw [he];exact congrArg _ hr,hb⟩
def I6(l:Bs):Bool:=decide (0≤Lib.idxFunc (fun x=>Hs x) true ⟨l.toArray⟩)
theorem Fp(l:Bs):ag Tryz.prog ay 173 [.str l,.fn (.func 174) [] []] ⟨True,.bool (I6 l)⟩:=
 ag.b6 Tryz.func173 (by kernel_rfl) rfl fun _ F w vs _ _ hw hx=>by
  obtain ⟨_,_,rfl,r1,_,_,rfl,r2,rfl⟩:=hx
  obtain rfl:=r1
  obtain ⟨us,vs,rfl,rfl,rfl⟩:=r2
  exact ⟨_,Any.strings_ContainsFunc_grows Tryz.JL 174 #[] (enters_of Tryz.func174 (by kernel_rfl) rfl) _ ⟨l.toArray⟩ w (xb w hw),fun G w=>rfl⟩
def nw:List PV→Option aI:=fun xs=>match xs with |[.str l,.fn (.func 174) [] []]=>some ⟨True,.bool (I6 l)⟩|_=>none
theorem uK:∀xs c,nw xs=some c→ag Tryz.prog ay 173 xs c:=fun xs c h=>by
 unfold nw at h
 split at h
 ·injection h with h;subst h;exact Fp _
 ·cases h
section
def hH(l m:Bs):Bool:=bif decide (ak m≤ak l)then decide (aa l (ak l-ak m)=m)else false
def Fq:cq:=bN []
def Fs(l m:Bs):aY:=fun i=>none
theorem CZ:cS Tryz.prog ay Fq:=ax
theorem HU(l m:Bs)(k:PV→Prop):cC Tryz.prog Fq ay (Fs l m) 1000 Tryz.f158 [.str l,.str m] k=(
 (decide (ak m≤ak l)=true→aD (ak l-ak m))∧
 (decide (ak m≤ak l)=true→upto (ak l-ak m) (ak l) (ak l))∧
 k (PV.bool (bif decide (ak m≤ak l)then decide (aa l (ak l-ak m)=m)else false))):=by kernel_rfl
attribute [local irreducible] Go.Vc.cC
theorem HW(l m:Bs):ag Tryz.prog ay 158 [.str l,.str m] ⟨l.length≤1000000∧m.length≤1000000,.bool (hH l m)⟩:=cj (by kernel_rfl) CZ (H:=Fs l m) (fuel:=1000) Tryz.func158 (by kernel_rfl) fun hpre=>(HU l m _).mpr (by
 exact ⟨fun h=>⟨by unfold ak;omega,by unfold ak;omega⟩,fun h=>⟨by have:=of_decide_eq_true h;omega,by unfold ak;omega,Int.le_refl _⟩,rfl⟩)
def mj:List PV→Option aI:=fun xs=>match xs with
 |[.str l,.str m]=>some ⟨l.length≤1000000∧m.length≤1000000,.bool (hH l m)⟩
 |_=>none
theorem oq:∀xs c,mj xs=some c→ag Tryz.prog ay 158 xs c:=fun xs c h=>by
 unfold mj at h
 split at h
 ·injection h with h;subst h;exact HW _ _
 ·cases h
end
section
def fc(l m:Bs):Bs×Bool:=if hH l m=true then(ae l (ak l-ak m),true)else(l,false)
def Bl:cq:=bN [(158,mj)]
def Bm(l m:Bs):aY:=fun i=>none
theorem zB:cS Tryz.prog ay Bl:=ai oq (ax)
theorem Ft(l m:Bs)(k:PV→Prop):cC Tryz.prog Bl ay (Bm l m) 1000 Tryz.f179 [.str l,.str m] k=(
 (List.length l≤(1000000:Nat)∧List.length m≤(1000000:Nat))∧
 ((!hH l m)=true→k (PV.tup [PV.str l,PV.bool false]))∧
 ((!hH l m)=false→
 aD (ak l-ak m)∧
 upto (0:Int) (ak l-ak m) (ak l)∧
 k (PV.tup [PV.str (ae l (ak l-ak m)),PV.bool true]))):=by kernel_rfl
attribute [local irreducible] Go.Vc.cC
theorem Fu(l m:Bs):ag Tryz.prog ay 179 [.str l,.str m] ⟨l.length≤1000000∧m.length≤1000000,.tup [.str (fc l m).1,.bool (fc l m).2]⟩:=cj (by kernel_rfl) zB (H:=Bm l m) (fuel:=1000) Tryz.func179 (by kernel_rfl) fun hpre=>(Ft l m _).mpr (by
 obtain ⟨h1,h2⟩:=hpre
 refine ⟨⟨h1,h2⟩,fun h=>?_,fun h=>⟨by unfold aD ak;omega,?_,?_⟩⟩
 ·have e:¬hH l m=true:=by intro e;rw [e]at h;cases h
  have:fc l m=(l,false):=by unfold fc;rw [if_neg e]
  rw [this]
 ·have e:hH l m=true:=by cases e:hH l m with |true=>rfl|false=>rw [e]at h;cases h
  unfold hH at e
  cases e2:decide (ak m≤ak l)with
  |false=>rw [e2]at e;cases e
  |true=>have:=of_decide_eq_true e2;unfold upto;unfold ak at this⊢;omega
 ·have e:hH l m=true:=by cases e:hH l m with |true=>rfl|false=>rw [e]at h;cases h
  have:fc l m=(ae l (ak l-ak m),true):=by unfold fc;rw [if_pos e]
  rw [this])
def ny:List PV→Option aI:=fun xs=>match xs with
 |[.str l,.str m]=>some ⟨l.length≤1000000∧m.length≤1000000,.tup [.str (fc l m).1,.bool (fc l m).2]⟩
 |_=>none
theorem uL:∀xs c,ny xs=some c→ag Tryz.prog ay 179 xs c:=fun xs c h=>by
 unfold ny at h
 split at h
 ·injection h with h;subst h;exact Fu _ _
 ·cases h
end
section
def Fv:cq:=bN [(179,ny)]
def Fw(l m:Bs):aY:=fun i=>none
theorem C0:cS Tryz.prog ay Fv:=ai uL (ax)
theorem HY(l m:Bs)(k:PV→Prop):cC Tryz.prog Fv ay (Fw l m) 1000 Tryz.f169 [.str l,.str m] k=(
 (List.length l≤(1000000:Nat)∧List.length m≤(1000000:Nat))∧
 k (PV.tup [PV.str (fc l m).1,PV.bool (fc l m).2])):=by kernel_rfl
attribute [local irreducible] Go.Vc.cC
theorem HZ(l m:Bs):ag Tryz.prog ay 169 [.str l,.str m] ⟨l.length≤1000000∧m.length≤1000000,.tup [.str (fc l m).1,.bool (fc l m).2]⟩:=cj (by kernel_rfl) C0 (H:=Fw l m) (fuel:=1000) Tryz.func169 (by kernel_rfl) fun hpre=>(HY l m _).mpr (by
 exact ⟨hpre,rfl⟩)
def qp:List PV→Option aI:=fun xs=>match xs with
 |[.str l,.str m]=>some ⟨l.length≤1000000∧m.length≤1000000,.tup [.str (fc l m).1,.bool (fc l m).2]⟩
 |_=>none
theorem xc:∀xs c,qp xs=some c→ag Tryz.prog ay 169 xs c:=fun xs c h=>by
 unfold qp at h
 split at h
 ·injection h with h;subst h;exact HZ _ _
 ·cases h
end
section
def Lc:Bs:=[120,110,45,45]
def KN:Bs:=[46,120,110,45,45]
def C3(b:UInt8):Bool:=decide (b.toNat≤127)
def rE(l:Bs):Bool:=!l.all C3||preB l Lc||hasB l KN
theorem Fx(p:UInt8→Bool)(l:Bs)(j:Nat)(h:j<l.length):(l.take (j+1)).all p=((l.take j).all p&&p (l.getD j 0)):=by
 rw [List.take_add_one,List.getElem?_eq_getElem h,List.all_append,List.getD_eq_getElem?_getD,List.getElem?_eq_getElem h]
 simp
theorem H0(l:Bs)(j:Nat)(h:j<l.length):l.getD j 0∈l:=by
 rw [List.getD_eq_getElem?_getD,List.getElem?_eq_getElem h]
 exact List.getElem_mem h
def H6(l:Bs)(i:Int):Prop:=∃j:Nat,i=j∧j≤l.length∧(l.take j).all C3=true
def xd:cq:=bN [(78,cY),(185,uz)]
def xe(l:Bs):aY:=fun i=>bif Nat.beq i 2 then some ⟨(Int),(fun s x=>((((s.put 6 (.int .i64 x)).put 3 .undef).put 7 .undef).put 12 .undef)),(fun s=>s.int 6),(fun s x=>let i:=x;H6 l i),(fun s x=>let i:=x;((l.length:Int)-i).toNat),[3,7,12]⟩else none
theorem xf:cS Tryz.prog ay xd:=ai cG (ai zl (ax))
theorem C4(l:Bs)(k:PV→Prop):cC Tryz.prog xd ay (xe l) 1000 Tryz.f172 [.str l] k=(
 VS.mk []
 [(0,PV.str l),(2,PV.bool false),((3:Nat),PV.undef),(5,PV.int .i64 (ak l)),
 (6,PV.int .i64 (0:Int)),((7:Nat),PV.undef),((12:Nat),PV.undef)]
 []=
 VS.mk []
 [(0,PV.str l),(2,PV.bool false),((3:Nat),PV.undef),(5,PV.int .i64 (ak l)),
 ((6:Nat),PV.int .i64 (0:Int)),((7:Nat),PV.undef),((12:Nat),PV.undef)]
 []∧
 H6 l (0:Int)∧
 ∀(x:Int),
 H6 l x→
 (decide (x<ak l)=true→
 within x (ak l)∧
 (decide ((127:Int)<al l x)=true→k (PV.bool true))∧
 (decide ((127:Int)<al l x)=false→
 aD (x+(1:Int))∧
 VS.mk []
 [(0,PV.str l),(2,PV.bool false),((3:Nat),PV.undef),
 (5,PV.int .i64 (ak l)),((6:Nat),PV.int .i64 (x+(1:Int))),
 ((7:Nat),PV.undef),((12:Nat),PV.undef)]
 []=
 VS.mk []
 [(0,PV.str l),(2,PV.bool false),((3:Nat),PV.undef),
 (5,PV.int .i64 (ak l)),((6:Nat),PV.int .i64 (x+(1:Int))),
 ((7:Nat),PV.undef),((12:Nat),PV.undef)]
 []∧
 H6 l (x+(1:Int))∧(↑(List.length l)-(x+(1:Int))).toNat<(↑(List.length l)-x).toNat))∧
 (decide (x<ak l)=false→
 True∧
 (preB l (ByteArray.mk #[120,110,45,45]).data.toList=false→
 (List.length l).le (1000000:Nat))∧
 k
 (PV.bool
 (bif preB l (ByteArray.mk #[120,110,45,45]).data.toList then
 true
 else
 hasB l
 (ByteArray.mk #[46,120,110,45,45]).data.toList)))):=by kernel_rfl
attribute [local irreducible] Go.Vc.cC
theorem C5(l:Bs):ag Tryz.prog ay 172 [.str l] ⟨l.length≤1000000,.bool (rE l)⟩:=cj (by kernel_rfl) xf (H:=xe l) (fuel:=1000) Tryz.func172 (by kernel_rfl) fun hpre=>(C4 l _).mpr (by
 refine ⟨rfl,⟨0,rfl,by omega,rfl⟩,fun x hx=>?_⟩
 obtain ⟨j,rfl,hj,ha⟩:=hx
 have e1:(j:Int)+1=((j+1:Nat):Int):=by push_cast;rfl
 have hb:al l (j:Int)=((l.getD j 0).toNat:Int):=rfl
 rw [e1,hb]
 refine ⟨fun h=>?_,fun h=>?_⟩
 ·have hjl:j<l.length:=by have:=of_decide_eq_true h;unfold ak at this;omega
  refine ⟨by unfold within ak;omega,fun h2=>?_,fun h2=>⟨by unfold aD;omega,rfl,⟨j+1,rfl,by omega,?_⟩,by omega⟩⟩
  ·have hf:l.all C3=false:=by
    rw [Bool.eq_false_iff]
    intro g
    have g1:=List.all_eq_true.1 g _ (H0 l j hjl)
    unfold C3 at g1
    have g2:=of_decide_eq_true g1
    have g3:=of_decide_eq_true h2
    omega
   show PV.bool true=PV.bool (rE l)
   unfold rE
   rw [hf];rfl
  ·have g3:=of_decide_eq_false h2
   rw [Fx C3 l j hjl,ha,Bool.true_and]
   unfold C3
   exact decide_eq_true (by omega)
 ·have hjl:j=l.length:=by have:=of_decide_eq_false h;unfold ak at this;omega
  rw [hjl,List.take_length]at ha
  refine ⟨trivial,fun _=>hpre,?_⟩
  show PV.bool (bif preB l Lc then true else hasB l KN)=PV.bool (rE l)
  unfold rE
  rw [ha]
  cases preB l Lc<;>rfl)
def lj:List PV→Option aI:=fun xs=>match xs with
 |[.str l]=>some ⟨l.length≤1000000,.bool (rE l)⟩
 |_=>none
theorem rF:∀xs c,lj xs=some c→ag Tryz.prog ay 172 xs c:=fun xs c h=>by
 unfold lj at h
 split at h
 ·injection h with h;subst h;exact C5 _
 ·cases h
end
section
abbrev H5:=Int×Bs×Int×List Int×Int
def z8:List Int:=List.replicate 8 0
def Fy(e:Int):H5:=(0,[],0,z8,e)
def et(d:Bs):H5:=if rE d=true then Fy 9 else if d=[]∨I6 d=true then Fy 8 else if uy d=false then(2,d,0,z8,0)else if om d=true then(3,[],ct d,z8,0)else Fy 8
theorem Fz(l:Bs):(cc l).length=l.length:=by unfold cc;rw [List.length_map]
theorem qq:∀l:Bs,(cl l).length≤l.length
 |[]=>Nat.le_refl _
 |[b]=>Nat.le_refl _
 |[b,h]=>Nat.le_refl _
 |b::h::g::t=>by
  have h1:=qq t
  have h2:=qq (h::g::t)
  show(if b.toNat=37∧0≤fU h.toNat∧0≤fU g.toNat then bR (fU h.toNat*16+fU g.toNat)::cl t else b::cl (h::g::t)).length≤_
  split
  ·rw [List.length_cons];simp only [List.length_cons];omega
  ·rw [List.length_cons];simp only [List.length_cons]at h2⊢;omega
def FA:cq:=bN [(171,qj),(154,kk),(172,lj),(173,nw),(175,qi),(176,np)]
def FB(l:Bs):aY:=fun i=>none
theorem C6:cS Tryz.prog ay FA:=ai wQ (ai mi (ai rF (ai uK (ai wM (ai uA (ax))))))
theorem H7(l:Bs)(k:PV→Prop):cC Tryz.prog FA ay (FB l) 1000 Tryz.f162 [.str l] k=(
 (List.length l).le (1000000:Nat)∧
 (List.length (cl l)).le (1000000:Nat)∧
 (List.length (cc (cl l))).le (1000000:Nat)∧
 (rE (cc (cl l))=true→
 k
 (PV.tup
 [PV.agg
 [PV.int .i64 (0:Int),PV.str [],PV.int .u32 (0:Int),
 PV.arr (8:Nat) (aq.ints .u16 (List.replicate (8:Nat) (0:Int)))],
 PV.int .i64 (9:Int)]))∧
 (rE (cc (cl l))=false→
 (decide (cc (cl l)=(ByteArray.mk #[]).data.toList)=false→True)∧
 ((bif decide (cc (cl l)=(ByteArray.mk #[]).data.toList)then true
 else I6 (cc (cl l)))=
 true→
 k
 (PV.tup
 [PV.agg
 [PV.int .i64 (0:Int),PV.str [],PV.int .u32 (0:Int),
 PV.arr (8:Nat) (aq.ints .u16 (List.replicate (8:Nat) (0:Int)))],
 PV.int .i64 (8:Int)]))∧
 ((bif decide (cc (cl l)=(ByteArray.mk #[]).data.toList)then true
 else I6 (cc (cl l)))=
 false→
 (List.length (cc (cl l))).le (1000000:Nat)∧
 ((!uy (cc (cl l)))=true→
 k
 (PV.tup
 [PV.agg
 [PV.int .i64 (2:Int),
 PV.str (cc (cl l)),
 PV.int .u32 (0:Int),
 PV.arr (8:Nat) (aq.ints .u16 (List.replicate (8:Nat) (0:Int)))],
 PV.int .i64 (0:Int)]))∧
 ((!uy (cc (cl l)))=
 false→
 (List.length (cc (cl l))).le (1000000:Nat)∧
 ((!om (cc (cl l)))=
 true→
 k
 (PV.tup
 [PV.agg
 [PV.int .i64 (0:Int),PV.str [],PV.int .u32 (0:Int),
 PV.arr (8:Nat) (aq.ints .u16 (List.replicate (8:Nat) (0:Int)))],
 PV.int .i64 (8:Int)]))∧
 ((!om
 (cc (cl l)))=
 false→
 k
 (PV.tup
 [PV.agg
 [PV.int .i64 (3:Int),PV.str [],
 PV.int .u32
 (ct
 (cc (cl l))),
 PV.arr (8:Nat) (aq.ints .u16 (List.replicate (8:Nat) (0:Int)))],
 PV.int .i64 (0:Int)])))))):=by kernel_rfl
attribute [local irreducible] Go.Vc.cC
theorem H9(l:Bs):ag Tryz.prog ay 162 [.str l] ⟨l.length≤1000000,.tup [.agg [.int .i64 (et (cc (cl l))).1,.str (et (cc (cl l))).2.1,.int .u32 (et (cc (cl l))).2.2.1,.arr 8 (.ints .u16 (et (cc (cl l))).2.2.2.1)],.int .i64 (et (cc (cl l))).2.2.2.2]⟩:=cj (by kernel_rfl) C6 (H:=FB l) (fuel:=1000) Tryz.func162 (by kernel_rfl) fun hpre=>(H7 l _).mpr (by
 have hd1:=qq l
 have hd2:=Fz (cl l)
 have hd:(cc (cl l)).length≤1000000:=by omega
 obtain ⟨d,hdd⟩:∃d,cc (cl l)=d:=⟨_,rfl⟩
 rw [hdd]at hd⊢
 refine ⟨hpre,Nat.le_trans hd1 hpre,hd,fun h=>?_,fun h=>⟨fun _=>trivial,fun h2=>?_,fun h2=>?_⟩⟩
 ·have:et d=Fy 9:=by unfold et;rw [if_pos h]
  rw [this];rfl
 ·have h3:d=[]∨I6 d=true:=by
   cases e:decide (d=(ByteArray.mk #[]).data.toList)with
   |true=>exact .inl (of_decide_eq_true e)
   |false=>rw [e]at h2;exact .inr h2
  have:et d=Fy 8:=by unfold et;rw [if_neg (by rw [h];decide),if_pos h3]
  rw [this];rfl
 ·have h3:¬(d=[]∨I6 d=true):=by
   cases e:decide (d=(ByteArray.mk #[]).data.toList)with
   |true=>rw [e]at h2;cases h2
   |false=>
    rw [e]at h2
    have e2:¬d=[]:=of_decide_eq_false e
    have h4:I6 d=false:=h2
    rintro (g|g)
    ·exact e2 g
    ·rw [h4]at g;cases g
  have hu:¬rE d=true:=by rw [h];decide
  refine ⟨hd,fun h4=>?_,fun h4=>⟨hd,fun h5=>?_,fun h5=>?_⟩⟩
  ·have e4:uy d=false:=by cases e:uy d with |false=>rfl|true=>rw [e]at h4;cases h4
   have:et d=(2,d,0,z8,0):=by unfold et;rw [if_neg hu,if_neg h3,if_pos e4]
   rw [this];rfl
  ·have e4:¬uy d=false:=by intro e;rw [e]at h4;cases h4
   have e5:¬om d=true:=by intro e;rw [e]at h5;cases h5
   have:et d=Fy 8:=by unfold et;rw [if_neg hu,if_neg h3,if_neg e4,if_neg e5]
   rw [this];rfl
  ·have e4:¬uy d=false:=by intro e;rw [e]at h4;cases h4
   have e5:om d=true:=by cases e:om d with |true=>rfl|false=>rw [e]at h5;cases h5
   have:et d=(3,[],ct d,z8,0):=by unfold et;rw [if_neg hu,if_neg h3,if_neg e4,if_pos e5]
   rw [this];rfl)
def ml:List PV→Option aI:=fun xs=>match xs with
 |[.str l]=>some ⟨l.length≤1000000,.tup [.agg [.int .i64 (et (cc (cl l))).1,.str (et (cc (cl l))).2.1,.int .u32 (et (cc (cl l))).2.2.1,.arr 8 (.ints .u16 (et (cc (cl l))).2.2.2.1)],.int .i64 (et (cc (cl l))).2.2.2.2]⟩
 |_=>none
theorem ot:∀xs c,ml xs=some c→ag Tryz.prog ay 162 xs c:=fun xs c h=>by
 unfold ml at h
 split at h
 ·injection h with h;subst h;exact H9 _
 ·cases h
end
section
def eN(t:Bs):H5:=if(fc t [93]).2=true∧(ia (fc t [93]).1).2=true then(4,[],0,(ia (fc t [93]).1).1,0)else Fy 8
theorem FC(l m:Bs):(fc l m).1.length≤l.length:=by
 unfold fc
 split
 ·show(l.take _).length≤_
  rw [List.length_take];omega
 ·exact Nat.le_refl _
def FD:cq:=bN [(169,qp),(170,lg)]
def FE(l:Bs):aY:=fun i=>none
theorem C7:cS Tryz.prog ay FD:=ai xc (ai rD (ax))
theorem Ia(l:Bs)(k:PV→Prop):cC Tryz.prog FD ay (FE l) 1000 Tryz.f161 [.str l] k=(
 upto (1:Int) (ak l) (ak l)∧
 ((aa l (1:Int)).length≤(1000000:Nat)∧(ByteArray.mk #[93]).data.toList.length≤(1000000:Nat))∧
 ((fc (aa l (1:Int)) (ByteArray.mk #[93]).data.toList).2=true→
 (List.length (fc (aa l (1:Int)) (ByteArray.mk #[93]).data.toList).1).le (1000000:Nat)∧
 ((ia
 (fc (aa l (1:Int)) (ByteArray.mk #[93]).data.toList).1).2=
 true→
 k
 (PV.tup
 [PV.agg
 [PV.int .i64 (4:Int),PV.str [],PV.int .u32 (0:Int),
 PV.arr (8:Nat)
 (aq.ints .u16
 (ia
 (fc (aa l (1:Int)) (ByteArray.mk #[93]).data.toList).1).1)],
 PV.int .i64 (0:Int)]))∧
 ((ia
 (fc (aa l (1:Int)) (ByteArray.mk #[93]).data.toList).1).2=
 false→
 k
 (PV.tup
 [PV.agg
 [PV.int .i64 (0:Int),PV.str [],PV.int .u32 (0:Int),
 PV.arr (8:Nat) (aq.ints .u16 (List.replicate (8:Nat) (0:Int)))],
 PV.int .i64 (8:Int)])))∧
 ((fc (aa l (1:Int)) (ByteArray.mk #[93]).data.toList).2=false→
 k
 (PV.tup
 [PV.agg
 [PV.int .i64 (0:Int),PV.str [],PV.int .u32 (0:Int),
 PV.arr (8:Nat) (aq.ints .u16 (List.replicate (8:Nat) (0:Int)))],
 PV.int .i64 (8:Int)]))):=by kernel_rfl
attribute [local irreducible] Go.Vc.cC
theorem Ib(l:Bs):ag Tryz.prog ay 161 [.str l] ⟨1≤l.length∧l.length≤1000000,.tup [.agg [.int .i64 (eN (l.drop 1)).1,.str (eN (l.drop 1)).2.1,.int .u32 (eN (l.drop 1)).2.2.1,.arr 8 (.ints .u16 (eN (l.drop 1)).2.2.2.1)],.int .i64 (eN (l.drop 1)).2.2.2.2]⟩:=cj (by kernel_rfl) C7 (H:=FE l) (fuel:=1000) Tryz.func161 (by kernel_rfl) fun hpre=>(Ia l _).mpr (by
 obtain ⟨h1,h2⟩:=hpre
 have hd:aa l 1=l.drop 1:=rfl
 have hl:(l.drop 1).length≤1000000:=by rw [List.length_drop];omega
 have hc:=FC (l.drop 1) [93]
 rw [hd]
 refine ⟨⟨by omega,by unfold ak;omega,Int.le_refl _⟩,⟨hl,by decide⟩,fun h=>⟨Nat.le_trans hc hl,fun h3=>?_,fun h3=>?_⟩,fun h=>?_⟩
 ·have:eN (l.drop 1)=(4,[],0,(ia (fc (l.drop 1) [93]).1).1,0):=by unfold eN;rw [if_pos ⟨h,h3⟩]
  rw [this]
 ·have:eN (l.drop 1)=Fy 8:=by unfold eN;rw [if_neg (fun g=>by have g2:(ia (fc (l.drop 1) [93]).1).2=false:=h3;rw [g.2]at g2;cases g2)]
  rw [this];rfl
 ·have:eN (l.drop 1)=Fy 8:=by unfold eN;rw [if_neg (fun g=>by have g2:(fc (l.drop 1) [93]).2=false:=h;rw [g.1]at g2;cases g2)]
  rw [this];rfl)
def mm:List PV→Option aI:=fun xs=>match xs with
 |[.str l]=>some ⟨1≤l.length∧l.length≤1000000,.tup [.agg [.int .i64 (eN (l.drop 1)).1,.str (eN (l.drop 1)).2.1,.int .u32 (eN (l.drop 1)).2.2.1,.arr 8 (.ints .u16 (eN (l.drop 1)).2.2.2.1)],.int .i64 (eN (l.drop 1)).2.2.2.2]⟩
 |_=>none
theorem ou:∀xs c,mm xs=some c→ag Tryz.prog ay 161 xs c:=fun xs c h=>by
 unfold mm at h
 split at h
 ·injection h with h;subst h;exact Ib _
 ·cases h
end
section
def cu(l:Bs):H5:=if preB l [91]=true then eN (l.drop 1)else et (cc (cl l))
def xg:cq:=bN [(78,cY),(161,mm),(162,ml),(74,mg)]
def xh(l:Bs):aY:=fun i=>none
theorem xi:cS Tryz.prog ay xg:=ai cG (ai ou (ai ot (ai lf (ax))))
theorem C8(l:Bs)(k:PV→Prop):cC Tryz.prog xg ay (xh l) 1000 Tryz.f136 [.str l,.bool true] k=(
 True∧
 (preB l (ByteArray.mk #[91]).data.toList=true→
 ((1:Nat)≤List.length l∧List.length l≤(1000000:Nat))∧
 k
 (PV.tup
 [PV.agg
 [PV.int .i64 (eN (List.drop (1:Nat) l)).1,
 PV.str (eN (List.drop (1:Nat) l)).2.1,
 PV.int .u32 (eN (List.drop (1:Nat) l)).2.2.1,
 PV.arr (8:Nat) (aq.ints .u16 (eN (List.drop (1:Nat) l)).2.2.2.1)],
 PV.int .i64 (eN (List.drop (1:Nat) l)).2.2.2.2]))∧
 (preB l (ByteArray.mk #[91]).data.toList=false→
 (true=true→
 (List.length l).le (1000000:Nat)∧
 k
 (PV.tup
 [PV.agg
 [PV.int .i64
 (et (cc (cl l))).1,
 PV.str
 (et
 (cc (cl l))).2.1,
 PV.int .u32
 (et
 (cc (cl l))).2.2.1,
 PV.arr (8:Nat)
 (aq.ints .u16
 (et
 (cc (cl l))).2.2.2.1)],
 PV.int .i64
 (et
 (cc (cl l))).2.2.2.2]))∧
 (true=false→
 (List.length l≤(1000000:Nat)∧
 (ByteArray.mk
 #[0,9,10,13,32,35,47,58,60,62,63,64,91,92,93,94,124]).data.toList.length≤
 (1000000:Nat)∧
 ∀(b:UInt8),
 b∈
 (ByteArray.mk
 #[0,9,10,13,32,35,47,58,60,62,63,64,91,92,93,94,124]).data.toList→
 b.toNat<(128:Nat))∧
 (jc l
 (ByteArray.mk
 #[0,9,10,13,32,35,47,58,60,62,63,64,91,92,93,94,124]).data.toList=
 true→
 k
 (PV.tup
 [PV.agg
 [PV.int .i64 (0:Int),PV.str [],PV.int .u32 (0:Int),
 PV.arr (8:Nat) (aq.ints .u16 (List.replicate (8:Nat) (0:Int)))],
 PV.int .i64 (8:Int)]))∧
 (jc l
 (ByteArray.mk
 #[0,9,10,13,32,35,47,58,60,62,63,64,91,92,93,94,124]).data.toList=
 false→
 (decide (l=(ByteArray.mk #[]).data.toList)=true→
 k
 (PV.tup
 [PV.agg
 [PV.int .i64 (1:Int),PV.str [],PV.int .u32 (0:Int),
 PV.arr (8:Nat) (aq.ints .u16 (List.replicate (8:Nat) (0:Int)))],
 PV.int .i64 (0:Int)]))∧
 (decide (l=(ByteArray.mk #[]).data.toList)=false→False))))):=by kernel_rfl
attribute [local irreducible] Go.Vc.cC
theorem s5(l:Bs):ag Tryz.prog ay 136 [.str l,.bool true] ⟨l.length≤1000000,.tup [.agg [.int .i64 (cu l).1,.str (cu l).2.1,.int .u32 (cu l).2.2.1,.arr 8 (.ints .u16 (cu l).2.2.2.1)],.int .i64 (cu l).2.2.2.2]⟩:=cj (by kernel_rfl) xi (H:=xh l) (fuel:=1000) Tryz.func136 (by kernel_rfl) fun hpre=>(C8 l _).mpr (by
 have e91:(ByteArray.mk #[91]).data.toList=([91]:Bs):=rfl
 rw [e91]
 refine ⟨trivial,fun h=>⟨⟨?_,hpre⟩,?_⟩,fun h=>?_⟩
 ·cases l with
  |nil=>cases h
  |cons b r=>rw [List.length_cons];omega
 ·have:cu l=eN (l.drop 1):=by unfold cu;rw [if_pos h]
  rw [this]
 ·have:cu l=et (cc (cl l)):=by unfold cu;rw [if_neg (by rw [h];decide)]
  rw [this]
  exact ⟨fun _=>⟨hpre,rfl⟩,fun h=>by cases h⟩)
def lk:List PV→Option aI:=fun xs=>match xs with
 |[.str l,.bool true]=>some ⟨l.length≤1000000,.tup [.agg [.int .i64 (cu l).1,.str (cu l).2.1,.int .u32 (cu l).2.2.1,.arr 8 (.ints .u16 (cu l).2.2.2.1)],.int .i64 (cu l).2.2.2.2]⟩
 |_=>none
theorem rG:∀xs c,lk xs=some c→ag Tryz.prog ay 136 xs c:=fun xs c h=>by
 unfold lk at h
 split at h
 ·injection h with h;subst h;exact s5 _
 ·cases h
end
end Go.Proofs.YtmfapopclbnlpaaGreatDoor
