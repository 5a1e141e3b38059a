import Derived.Test.YtmfapopclbnlpaaGreatDoorSt15
import Derived.Test.YtmfapopclbnlpaaGreatDoorSt18
import Derived.Test.YtmfapopclbnlpaaGreatDoorSt19
set_option linter.unusedVariables false
namespace Go.Proofs.YtmfapopclbnlpaaGreatDoor
open Go Go.Proofs Go.RowKit Go.Vc
theorem KJ(z m:Int):ag Tryz.prog aA 17 [.int .i64 z,.int .i64 m] ⟨-9223372036854775808≤z∧z≤9223372036854775807∧1≤m∧m≤4611686018427387904,.int .i64 (sd z m)⟩:=
 ag.b9 Tryz.func17 (by kernel_rfl) rfl fun⟨h0,h1,h2,h3⟩ F w vs _ _ hw hx=>by
  obtain ⟨_,_,rfl,r1,_,_,rfl,r2,rfl⟩:=hx
  obtain rfl:=r1
  obtain rfl:=r2
  exact ⟨_,(IC z m w h0 h1 h2 h3).mono fun e w' ⟨he,hw'⟩=>⟨he,hw'▸Below.refl _ _⟩,fun G w=>rfl⟩
def va:List PV→Option aI:=fun xs=>match xs with |[.int .i64 z,.int .i64 m]=>some ⟨-9223372036854775808≤z∧z≤9223372036854775807∧1≤m∧m≤4611686018427387904,.int .i64 (sd z m)⟩|_=>none
theorem zW:∀xs c,va xs=some c→ag Tryz.prog aA 17 xs c:=fun xs c h=>by
 unfold va at h
 split at h
 ·injection h with h;subst h;exact KJ _ _
 ·cases h
end Go.Proofs.YtmfapopclbnlpaaGreatDoor
