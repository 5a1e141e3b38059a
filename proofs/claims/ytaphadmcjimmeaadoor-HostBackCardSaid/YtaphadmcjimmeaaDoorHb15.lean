import Derived.Lib.ItoaNum
import Derived.Deep.RegionWith
import Derived.IntWalk
import Derived.Test.YtaphadmcjimmeaaDoorHb10
set_option linter.unusedVariables false
set_option linter.unusedSimpArgs false
set_option maxRecDepth 100000
namespace Go.Proofs.YtaphadmcjimmeaaDoor
open Go.RowKit
theorem mkB_dig (u : Nat) : mkB (48 + (u : Int)) = UInt8.ofNat (48 + u) := by unfold mkB; congr 1
theorem dec_small {u : Nat} (h : u < 10) : Lib.decDigits u = [mkB (48 + (u : Int))] := by rw [Lib.decDigits_one h, mkB_dig]
theorem dec_great {u : Nat} (h : ¬ u < 10) : Lib.decDigits u = Lib.decDigits (u / 10) ++ [mkB (48 + ((u % 10 : Nat) : Int))] := by
  rw [Lib.decDigits, dif_neg h, mkB_dig]
theorem dec_len20 (u : Nat) (h : u < 18446744073709551616) : (Lib.decDigits u).length ≤ 100 := by
  have : ∀ (k u : Nat), u < 10 ^ (k + 1) → (Lib.decDigits u).length ≤ k + 1 := by
    intro k
    induction k with
    | zero => intro u h; rw [dec_small (by simpa using h)]; simp
    | succ k ih =>
      intro u h
      by_cases h2 : u < 10
      · rw [dec_small h2]; simp
      · have := ih (u / 10) (by rw [Nat.div_lt_iff_lt_mul (by decide), ← Nat.pow_succ]; exact h)
        rw [dec_great h2]; simp; omega
  have := this 99 u (by omega)
  omega
end Go.Proofs.YtaphadmcjimmeaaDoor
