import Derived.IntWalk
import Derived.Deep.DeepCutAuto
import Derived.Test.YtmfapopclbnlpaaGreatDoorPt7
import Derived.Test.YtmfapopclbnlpaaGreatDoorPt8
import Derived.Test.YtmfapopclbnlpaaGreatDoorPt10
import Derived.Test.YtmfapopclbnlpaaGreatDoorPt11
import Derived.Test.YtmfapopclbnlpaaGreatDoorPt13
import Derived.Test.YtmfapopclbnlpaaGreatDoorPt14
import Derived.Test.YtmfapopclbnlpaaGreatDoorPt18
import Derived.Test.YtmfapopclbnlpaaGreatDoorPt22
set_option linter.unusedVariables false
set_option linter.unusedSimpArgs false
namespace Go.Proofs.YtmfapopclbnlpaaGreatDoor
open Go Go.Proofs Go.RowKit Go.Vc
def wY(l:Bs):Bs:=bt 0 l
theorem Ht(l:Bs):ag Tryz.prog ay 26 [.str l,.int .i64 0] ⟨l.length≤300000,.str (wY l)⟩:=
 ag.b4 Tryz.func26 (by kernel_rfl) rfl fun h F w vs _ _ hw hx=>by
  obtain ⟨_,_,rfl,r1,_,_,rfl,r2,rfl⟩:=hx
  obtain rfl:=r1
  obtain rfl:=r2
  exact ⟨_,oh l 0 w h (by decide) (by decide),fun G w=>rfl⟩
def qj:List PV→Option aF:=fun xs=>match xs with |[.str l,.int .i64 0]=>some ⟨l.length≤300000,.str (wY l)⟩|_=>none
theorem wZ:∀xs c,qj xs=some c→ag Tryz.prog ay 26 xs c:=fun xs c h=>by
 unfold qj at h
 split at h
 ·injection h with h;subst h;exact Ht _
 ·cases h
def bg(l m:Bs):Nat:=l.findIdx (fun b=>m.contains b)
theorem zq(m:Bs):∀l:Bs,(0≤Lib.indexAny l m→Lib.indexAny l m=(bg l m:Int)∧bg l m<l.length)∧(¬0≤Lib.indexAny l m→Lib.indexAny l m=-1∧bg l m=l.length)
 |[]=>⟨fun h=>absurd h (show ¬(0:Int)≤-1 by decide),fun _=>⟨rfl,rfl⟩⟩
 |b::l=>by
  have ih:=zq m l
  have hge:=Lib.indexAny_ge m l
  unfold Lib.indexAny bg
  rw [List.findIdx_cons]
  cases hb:m.contains b with
  |true=>simp
  |false=>
   simp only [Bool.false_eq_true,if_false,cond_false]
   by_cases h:0≤Lib.indexAny l m
   ·obtain ⟨h1,h2⟩:=ih.1 h
    unfold bg at h1 h2
    rw [if_neg (by rw [beq_iff_eq];omega)]
    refine ⟨fun _=>⟨by rw [h1];push_cast;rfl,by simpa using h2⟩,fun hh=>absurd (show(0:Int)≤Lib.indexAny l m+1 by omega) hh⟩
   ·obtain ⟨h1,h2⟩:=ih.2 h
    unfold bg at h2
    rw [if_pos (by rw [beq_iff_eq];exact h1)]
    exact ⟨fun hh=>absurd hh (show ¬(0:Int)≤-1 by decide),fun _=>⟨rfl,by rw [h2];rfl⟩⟩
theorem fr(l m:Bs):bg l m≤l.length:=List.findIdx_le_length
@[irreducible] def aI (l:Bs) (c:Int):Int:=Lib.lastIndexByte ⟨l.toArray⟩ c
theorem qk(l:Bs)(c:Int):aI l c=Lib.lastIndexByte ⟨l.toArray⟩ c:=by unfold aI;rfl
@[irreducible] def JY (l m:Bs):Int:=Lib.indexAny l m
theorem E9(l m:Bs):JY l m=Lib.indexAny l m:=by unfold JY;rfl
theorem JZ(l m:Bs):ag Tryz.prog ay 118 [.str l,.str m] ⟨l.length≤1000000∧m.length≤1000000∧(∀b∈m,b.toNat<128),.int .i64 (JY l m)⟩:=
 ag.b4 Tryz.func118 (by kernel_rfl) rfl fun⟨h0,h1,h2⟩ F w vs _ _ hw hx=>by
  obtain ⟨_,_,rfl,r1,_,_,rfl,r2,rfl⟩:=hx
  obtain rfl:=r1
  obtain rfl:=r2
  rw [E9]
  exact ⟨_,En Tryz.o3 (by kernel_rfl) ⟨l.toArray⟩ ⟨m.toArray⟩ w (by show l.length<4294967281;omega) (by show m.length<4294967281;omega) (fun j b hj=>h2 b (List.mem_of_getElem? hj)),fun G w=>rfl⟩
def uH:List PV→Option aF:=fun xs=>match xs with |[.str l,.str m]=>some ⟨l.length≤1000000∧m.length≤1000000∧(∀b∈m,b.toNat<128),.int .i64 (JY l m)⟩|_=>none
theorem zr:∀xs c,uH xs=some c→ag Tryz.prog ay 118 xs c:=fun xs c h=>by
 unfold uH at h
 split at h
 ·injection h with h;subst h;exact JZ _ _
 ·cases h
theorem Hu(l:Bs)(c:Int):ag Tryz.prog ay 133 [.str l,.int .u8 c] ⟨l.length≤1000000∧0≤c∧c≤255,.int .i64 (aI l c)⟩:=
 ag.b4 Tryz.func133 (by kernel_rfl) rfl fun⟨h0,h1,h2⟩ F w vs _ _ hw hx=>by
  obtain ⟨_,_,rfl,r1,_,_,rfl,r2,rfl⟩:=hx
  obtain rfl:=r1
  obtain rfl:=r2
  rw [qk]
  exact ⟨_,(Tryz.strings_LastIndexByte ⟨l.toArray⟩ c (by rw [eV];omega) w).mono fun e w' ⟨he,hw'⟩=>⟨he,hw'▸Below.refl _ _⟩,fun G w=>rfl⟩
def ql:List PV→Option aF:=fun xs=>match xs with |[.str l,.int .u8 c]=>some ⟨l.length≤1000000∧0≤c∧c≤255,.int .i64 (aI l c)⟩|_=>none
theorem w6:∀xs c,ql xs=some c→ag Tryz.prog ay 133 xs c:=fun xs c h=>by
 unfold ql at h
 split at h
 ·injection h with h;subst h;exact Hu _ _
 ·cases h
theorem J0(l m:Bs):ag Tryz.prog ay 134 [.str l,.str m] ⟨l.length≤1000000∧m=[58],.tup [.str (dj l 58),.str (dG l 58),.bool (wC l 58)]⟩:=
 ag.b4 Tryz.func134 (by kernel_rfl) rfl fun⟨h0,h1⟩ F w vs _ _ hw hx=>by
  obtain ⟨_,_,rfl,r1,_,_,rfl,r2,rfl⟩:=hx
  obtain rfl:=r1
  obtain rfl:=r2
  subst h1
  exact ⟨_,(AU l 58 w h0).mono fun e w' ⟨he,n,hw'⟩=>⟨he,hw'▸fI (Below.refl _ _) n⟩,fun G w=>⟨_,⟨_,_,rfl,rfl,_,_,rfl,rfl,_,_,rfl,rfl,rfl⟩,rfl⟩⟩
def uI:List PV→Option aF:=fun xs=>match xs with |[.str l,.str m]=>some ⟨l.length≤1000000∧m=[58],.tup [.str (dj l 58),.str (dG l 58),.bool (wC l 58)]⟩|_=>none
theorem zt:∀xs c,uI xs=some c→ag Tryz.prog ay 134 xs c:=fun xs c h=>by
 unfold uI at h
 split at h
 ·injection h with h;subst h;exact J0 _ _
 ·cases h
theorem Hv(l:Bs)(k:Int):ag Tryz.prog ay 26 [.str l,.int .i64 k] ⟨l.length≤300000∧0≤k∧k≤6,.str (bt k l)⟩:=
 ag.b4 Tryz.func26 (by kernel_rfl) rfl fun⟨h,h0,h1⟩ F w vs _ _ hw hx=>by
  obtain ⟨_,_,rfl,r1,_,_,rfl,r2,rfl⟩:=hx
  obtain rfl:=r1
  obtain rfl:=r2
  exact ⟨_,oh l k w h (by omega) (by omega),fun G w=>rfl⟩
def eW:List PV→Option aF:=fun xs=>match xs with |[.str l,.int .i64 k]=>some ⟨l.length≤300000∧0≤k∧k≤6,.str (bt k l)⟩|_=>none
theorem dO:∀xs c,eW xs=some c→ag Tryz.prog ay 26 xs c:=fun xs c h=>by
 unfold eW at h
 split at h
 ·injection h with h;subst h;exact Hv _ _
 ·cases h
theorem Fa(l:Bs):ag Tryz.prog ay 41 [.str l] ⟨l.length≤1000000,.str (bW l)⟩:=
 ag.b4 Tryz.func41 (by kernel_rfl) rfl fun h F w vs _ _ hw hx=>by
  obtain ⟨_,_,rfl,r1,rfl⟩:=hx
  obtain rfl:=r1
  exact ⟨_,nm l w h,fun G w=>rfl⟩
def nv:List PV→Option aF:=fun xs=>match xs with |[.str l]=>some ⟨l.length≤1000000,.str (bW l)⟩|_=>none
theorem uJ:∀xs c,nv xs=some c→ag Tryz.prog ay 41 xs c:=fun xs c h=>by
 unfold nv at h
 split at h
 ·injection h with h;subst h;exact Fa _
 ·cases h
theorem Hw(l:Bs):ag Tryz.prog ay 163 [.str l] ⟨l.length≤1000000,.bool (l9 l)⟩:=
 ag.b4 Tryz.func163 (by kernel_rfl) rfl fun h F w vs _ _ hw hx=>by
  obtain ⟨_,_,rfl,r1,rfl⟩:=hx
  obtain rfl:=r1
  exact ⟨_,(EJ l w h).mono fun e w' ⟨he,hw'⟩=>⟨he,hw'▸Below.refl _ _⟩,fun G w=>rfl⟩
def qm:List PV→Option aF:=fun xs=>match xs with |[.str l]=>some ⟨l.length≤1000000,.bool (l9 l)⟩|_=>none
theorem w7:∀xs c,qm xs=some c→ag Tryz.prog ay 163 xs c:=fun xs c h=>by
 unfold qm at h
 split at h
 ·injection h with h;subst h;exact Hw _
 ·cases h
theorem J3(l:Bs):ag Tryz.prog ay 164 [.str l] ⟨l.length≤1000000,.bool (l8 l)⟩:=
 ag.b4 Tryz.func164 (by kernel_rfl) rfl fun h F w vs _ _ hw hx=>by
  obtain ⟨_,_,rfl,r1,rfl⟩:=hx
  obtain rfl:=r1
  exact ⟨_,(AT l w h).mono fun e w' ⟨he,hw'⟩=>⟨he,hw'▸Below.refl _ _⟩,fun G w=>rfl⟩
def uK:List PV→Option aF:=fun xs=>match xs with |[.str l]=>some ⟨l.length≤1000000,.bool (l8 l)⟩|_=>none
theorem zu:∀xs c,uK xs=some c→ag Tryz.prog ay 164 xs c:=fun xs c h=>by
 unfold uK at h
 split at h
 ·injection h with h;subst h;exact J3 _
 ·cases h
end Go.Proofs.YtmfapopclbnlpaaGreatDoor
