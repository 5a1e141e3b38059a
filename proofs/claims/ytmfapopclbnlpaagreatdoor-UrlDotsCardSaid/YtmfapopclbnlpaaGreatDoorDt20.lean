import Derived.Test.YtmfapopclbnlpaaGreatDoorDt15
import Derived.Test.YtmfapopclbnlpaaGreatDoorDt18
import Derived.Test.YtmfapopclbnlpaaGreatDoorDt19
set_option linter.unusedVariables false
namespace Go.Proofs.YtmfapopclbnlpaaGreatDoor
open Go Go.Proofs Go.RowKit Go.Vc
theorem Kr(z m:Int):ag Tryz.prog az 17 [.int .i64 z,.int .i64 m] ⟨-9223372036854775808≤z∧z≤9223372036854775807∧1≤m∧m≤4611686018427387904,.int .i64 (bX z m)⟩:=
 ag.b8 Tryz.func17 (by kernel_rfl) rfl fun⟨h0,h1,h2,h3⟩ F w vs _ _ hw hx=>by
  obtain ⟨_,_,rfl,r1,_,_,rfl,r2,rfl⟩:=hx
  obtain rfl:=r1
  obtain rfl:=r2
  exact ⟨_,(Ih z m w h0 h1 h2 h3).mono fun e w' ⟨he,hw'⟩=>⟨he,hw'▸Below.refl _ _⟩,fun G w=>rfl⟩
def uR:List PV→Option aF:=fun xs=>match xs with |[.int .i64 z,.int .i64 m]=>some ⟨-9223372036854775808≤z∧z≤9223372036854775807∧1≤m∧m≤4611686018427387904,.int .i64 (bX z m)⟩|_=>none
theorem zK:∀xs c,uR xs=some c→ag Tryz.prog az 17 xs c:=fun xs c h=>by
 unfold uR at h
 split at h
 ·injection h with h;subst h;exact Kr _ _
 ·cases h
end Go.Proofs.YtmfapopclbnlpaaGreatDoor
