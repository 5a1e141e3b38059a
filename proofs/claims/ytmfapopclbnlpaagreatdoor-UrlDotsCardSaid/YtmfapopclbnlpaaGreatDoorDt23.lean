import Derived.IntWalk
import Derived.Deep.DeepCutAuto
import Derived.Test.YtmfapopclbnlpaaGreatDoorDt7
import Derived.Test.YtmfapopclbnlpaaGreatDoorDt8
import Derived.Test.YtmfapopclbnlpaaGreatDoorDt10
import Derived.Test.YtmfapopclbnlpaaGreatDoorDt11
import Derived.Test.YtmfapopclbnlpaaGreatDoorDt13
import Derived.Test.YtmfapopclbnlpaaGreatDoorDt14
import Derived.Test.YtmfapopclbnlpaaGreatDoorDt18
import Derived.Test.YtmfapopclbnlpaaGreatDoorDt22
set_option linter.unusedVariables false
set_option linter.unusedSimpArgs false
namespace Go.Proofs.YtmfapopclbnlpaaGreatDoor
open Go Go.Proofs Go.RowKit Go.Vc
def xj(l:Bs):Bs:=bl 0 l
theorem Ii(l:Bs):ag Tryz.prog az 26 [.str l,.int .i64 0] ⟨l.length≤300000,.str (xj l)⟩:=
 ag.b8 Tryz.func26 (by kernel_rfl) rfl fun h F w vs _ _ hw hx=>by
  obtain ⟨_,_,rfl,r1,_,_,rfl,r2,rfl⟩:=hx
  obtain rfl:=r1
  obtain rfl:=r2
  exact ⟨_,oB l 0 w h (by decide) (by decide),fun G w=>rfl⟩
def qx:List PV→Option aF:=fun xs=>match xs with |[.str l,.int .i64 0]=>some ⟨l.length≤300000,.str (xj l)⟩|_=>none
theorem xk:∀xs c,qx xs=some c→ag Tryz.prog az 26 xs c:=fun xs c h=>by
 unfold qx at h
 split at h
 ·injection h with h;subst h;exact Ii _
 ·cases h
def aY(l m:Bs):Nat:=l.findIdx (fun b=>m.contains b)
theorem zL(m:Bs):∀l:Bs,(0≤Lib.indexAny l m→Lib.indexAny l m=(aY l m:Int)∧aY l m<l.length)∧(¬0≤Lib.indexAny l m→Lib.indexAny l m=-1∧aY l m=l.length)
 |[]=>⟨fun h=>absurd h (show ¬(0:Int)≤-1 by decide),fun _=>⟨rfl,rfl⟩⟩
 |b::l=>by
  have ih:=zL m l
  have hge:=Lib.indexAny_ge m l
  unfold Lib.indexAny aY
  rw [List.findIdx_cons]
  cases hb:m.contains b with
  |true=>simp
  |false=>
   simp only [Bool.false_eq_true,if_false,cond_false]
   by_cases h:0≤Lib.indexAny l m
   ·obtain ⟨h1,h2⟩:=ih.1 h
    unfold aY at h1 h2
    rw [if_neg (by rw [beq_iff_eq];omega)]
    refine ⟨fun _=>⟨by rw [h1];push_cast;rfl,by simpa using h2⟩,fun hh=>absurd (show(0:Int)≤Lib.indexAny l m+1 by omega) hh⟩
   ·obtain ⟨h1,h2⟩:=ih.2 h
    unfold aY at h2
    rw [if_pos (by rw [beq_iff_eq];exact h1)]
    exact ⟨fun hh=>absurd hh (show ¬(0:Int)≤-1 by decide),fun _=>⟨rfl,by rw [h2];rfl⟩⟩
theorem eY(l m:Bs):aY l m≤l.length:=List.findIdx_le_length
@[irreducible] def aI (l:Bs) (c:Int):Int:=Lib.lastIndexByte ⟨l.toArray⟩ c
theorem qy(l:Bs)(c:Int):aI l c=Lib.lastIndexByte ⟨l.toArray⟩ c:=by unfold aI;rfl
@[irreducible] def Kt (l m:Bs):Int:=Lib.indexAny l m
theorem Fv(l m:Bs):Kt l m=Lib.indexAny l m:=by unfold Kt;rfl
theorem Ku(l m:Bs):ag Tryz.prog az 118 [.str l,.str m] ⟨l.length≤1000000∧m.length≤1000000∧(∀b∈m,b.toNat<128),.int .i64 (Kt l m)⟩:=
 ag.b8 Tryz.func118 (by kernel_rfl) rfl fun⟨h0,h1,h2⟩ F w vs _ _ hw hx=>by
  obtain ⟨_,_,rfl,r1,_,_,rfl,r2,rfl⟩:=hx
  obtain rfl:=r1
  obtain rfl:=r2
  rw [Fv]
  exact ⟨_,EJ Tryz.pk (by kernel_rfl) ⟨l.toArray⟩ ⟨m.toArray⟩ w (by show l.length<4294967281;omega) (by show m.length<4294967281;omega) (fun j b hj=>h2 b (List.mem_of_getElem? hj)),fun G w=>rfl⟩
def uT:List PV→Option aF:=fun xs=>match xs with |[.str l,.str m]=>some ⟨l.length≤1000000∧m.length≤1000000∧(∀b∈m,b.toNat<128),.int .i64 (Kt l m)⟩|_=>none
theorem zM:∀xs c,uT xs=some c→ag Tryz.prog az 118 xs c:=fun xs c h=>by
 unfold uT at h
 split at h
 ·injection h with h;subst h;exact Ku _ _
 ·cases h
theorem Ij(l:Bs)(c:Int):ag Tryz.prog az 133 [.str l,.int .u8 c] ⟨l.length≤1000000∧0≤c∧c≤255,.int .i64 (aI l c)⟩:=
 ag.b8 Tryz.func133 (by kernel_rfl) rfl fun⟨h0,h1,h2⟩ F w vs _ _ hw hx=>by
  obtain ⟨_,_,rfl,r1,_,_,rfl,r2,rfl⟩:=hx
  obtain rfl:=r1
  obtain rfl:=r2
  rw [qy]
  exact ⟨_,(Tryz.strings_LastIndexByte ⟨l.toArray⟩ c (by rw [eX];omega) w).mono fun e w' ⟨he,hw'⟩=>⟨he,hw'▸Below.refl _ _⟩,fun G w=>rfl⟩
def qA:List PV→Option aF:=fun xs=>match xs with |[.str l,.int .u8 c]=>some ⟨l.length≤1000000∧0≤c∧c≤255,.int .i64 (aI l c)⟩|_=>none
theorem xl:∀xs c,qA xs=some c→ag Tryz.prog az 133 xs c:=fun xs c h=>by
 unfold qA at h
 split at h
 ·injection h with h;subst h;exact Ij _ _
 ·cases h
theorem Kv(l m:Bs):ag Tryz.prog az 134 [.str l,.str m] ⟨l.length≤1000000∧m=[58],.tup [.str (dq l 58),.str (dJ l 58),.bool (wU l 58)]⟩:=
 ag.b8 Tryz.func134 (by kernel_rfl) rfl fun⟨h0,h1⟩ F w vs _ _ hw hx=>by
  obtain ⟨_,_,rfl,r1,_,_,rfl,r2,rfl⟩:=hx
  obtain rfl:=r1
  obtain rfl:=r2
  subst h1
  exact ⟨_,(Bc l 58 w h0).mono fun e w' ⟨he,n,hw'⟩=>⟨he,hw'▸fK (Below.refl _ _) n⟩,fun G w=>⟨_,⟨_,_,rfl,rfl,_,_,rfl,rfl,_,_,rfl,rfl,rfl⟩,rfl⟩⟩
def uU:List PV→Option aF:=fun xs=>match xs with |[.str l,.str m]=>some ⟨l.length≤1000000∧m=[58],.tup [.str (dq l 58),.str (dJ l 58),.bool (wU l 58)]⟩|_=>none
theorem zN:∀xs c,uU xs=some c→ag Tryz.prog az 134 xs c:=fun xs c h=>by
 unfold uU at h
 split at h
 ·injection h with h;subst h;exact Kv _ _
 ·cases h
theorem Ik(l:Bs)(k:Int):ag Tryz.prog az 26 [.str l,.int .i64 k] ⟨l.length≤300000∧0≤k∧k≤6,.str (bl k l)⟩:=
 ag.b8 Tryz.func26 (by kernel_rfl) rfl fun⟨h,h0,h1⟩ F w vs _ _ hw hx=>by
  obtain ⟨_,_,rfl,r1,_,_,rfl,r2,rfl⟩:=hx
  obtain rfl:=r1
  obtain rfl:=r2
  exact ⟨_,oB l k w h (by omega) (by omega),fun G w=>rfl⟩
def eZ:List PV→Option aF:=fun xs=>match xs with |[.str l,.int .i64 k]=>some ⟨l.length≤300000∧0≤k∧k≤6,.str (bl k l)⟩|_=>none
theorem dR:∀xs c,eZ xs=some c→ag Tryz.prog az 26 xs c:=fun xs c h=>by
 unfold eZ at h
 split at h
 ·injection h with h;subst h;exact Ik _ _
 ·cases h
theorem Fw(l:Bs):ag Tryz.prog az 41 [.str l] ⟨l.length≤1000000,.str (bY l)⟩:=
 ag.b8 Tryz.func41 (by kernel_rfl) rfl fun h F w vs _ _ hw hx=>by
  obtain ⟨_,_,rfl,r1,rfl⟩:=hx
  obtain rfl:=r1
  exact ⟨_,nz l w h,fun G w=>rfl⟩
def nD:List PV→Option aF:=fun xs=>match xs with |[.str l]=>some ⟨l.length≤1000000,.str (bY l)⟩|_=>none
theorem uV:∀xs c,nD xs=some c→ag Tryz.prog az 41 xs c:=fun xs c h=>by
 unfold nD at h
 split at h
 ·injection h with h;subst h;exact Fw _
 ·cases h
theorem Il(l:Bs):ag Tryz.prog az 163 [.str l] ⟨l.length≤1000000,.bool (jq l)⟩:=
 ag.b8 Tryz.func163 (by kernel_rfl) rfl fun h F w vs _ _ hw hx=>by
  obtain ⟨_,_,rfl,r1,rfl⟩:=hx
  obtain rfl:=r1
  exact ⟨_,(E5 l w h).mono fun e w' ⟨he,hw'⟩=>⟨he,hw'▸Below.refl _ _⟩,fun G w=>rfl⟩
def qB:List PV→Option aF:=fun xs=>match xs with |[.str l]=>some ⟨l.length≤1000000,.bool (jq l)⟩|_=>none
theorem xm:∀xs c,qB xs=some c→ag Tryz.prog az 163 xs c:=fun xs c h=>by
 unfold qB at h
 split at h
 ·injection h with h;subst h;exact Il _
 ·cases h
theorem Kw(l:Bs):ag Tryz.prog az 164 [.str l] ⟨l.length≤1000000,.bool (ku l)⟩:=
 ag.b8 Tryz.func164 (by kernel_rfl) rfl fun h F w vs _ _ hw hx=>by
  obtain ⟨_,_,rfl,r1,rfl⟩:=hx
  obtain rfl:=r1
  exact ⟨_,(Bb l w h).mono fun e w' ⟨he,hw'⟩=>⟨he,hw'▸Below.refl _ _⟩,fun G w=>rfl⟩
def uW:List PV→Option aF:=fun xs=>match xs with |[.str l]=>some ⟨l.length≤1000000,.bool (ku l)⟩|_=>none
theorem zO:∀xs c,uW xs=some c→ag Tryz.prog az 164 xs c:=fun xs c h=>by
 unfold uW at h
 split at h
 ·injection h with h;subst h;exact Kw _
 ·cases h
end Go.Proofs.YtmfapopclbnlpaaGreatDoor
