import Derived.Test.YtmfapopclbnlpaaGreatDoorPt15
import Derived.Test.YtmfapopclbnlpaaGreatDoorPt18
import Derived.Test.YtmfapopclbnlpaaGreatDoorPt19
set_option linter.unusedVariables false
namespace Go.Proofs.YtmfapopclbnlpaaGreatDoor
open Go Go.Proofs Go.RowKit Go.Vc
theorem JW(z m:Int):ag Tryz.prog ay 17 [.int .i64 z,.int .i64 m] ⟨-9223372036854775808≤z∧z≤9223372036854775807∧1≤m∧m≤4611686018427387904,.int .i64 (aD z m)⟩:=
 ag.b4 Tryz.func17 (by kernel_rfl) rfl fun⟨h0,h1,h2,h3⟩ F w vs _ _ hw hx=>by
  obtain ⟨_,_,rfl,r1,_,_,rfl,r2,rfl⟩:=hx
  obtain rfl:=r1
  obtain rfl:=r2
  exact ⟨_,(Hr z m w h0 h1 h2 h3).mono fun e w' ⟨he,hw'⟩=>⟨he,hw'▸Below.refl _ _⟩,fun G w=>rfl⟩
def uF:List PV→Option aF:=fun xs=>match xs with |[.int .i64 z,.int .i64 m]=>some ⟨-9223372036854775808≤z∧z≤9223372036854775807∧1≤m∧m≤4611686018427387904,.int .i64 (aD z m)⟩|_=>none
theorem zp:∀xs c,uF xs=some c→ag Tryz.prog ay 17 xs c:=fun xs c h=>by
 unfold uF at h
 split at h
 ·injection h with h;subst h;exact JW _ _
 ·cases h
@[irreducible] def dB (z:Int):Bs:=Lib.decDigits z.toNat
theorem A8(z:Int):dB z=Lib.decDigits z.toNat:=by unfold dB;rfl
theorem Hs(z:Int):ag Tryz.prog ay 24 [.int .i64 z] ⟨0≤z∧z≤1000000000,.str (dB z)⟩:=
 ag.b4 Tryz.func24 (by kernel_rfl) rfl fun⟨h0,h1⟩ F w vs _ _ hw hx=>by
  obtain ⟨_,_,rfl,r1,rfl⟩:=hx
  obtain rfl:=r1
  rw [A8]
  obtain ⟨n,rfl⟩:=Int.eq_ofNat_of_zero_le h0
  exact ⟨_,wG (n+1) n w (by omega) (by omega),fun G w=>rfl⟩
def qi:List PV→Option aF:=fun xs=>match xs with |[.int .i64 z]=>some ⟨0≤z∧z≤1000000000,.str (dB z)⟩|_=>none
theorem wV:∀xs c,qi xs=some c→ag Tryz.prog ay 24 xs c:=fun xs c h=>by
 unfold qi at h
 split at h
 ·injection h with h;subst h;exact Hs _
 ·cases h
end Go.Proofs.YtmfapopclbnlpaaGreatDoor
