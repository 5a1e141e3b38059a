/- Low: a number below n. -/
import Derived.Test.YtedfgikikjggaaaDoorOwn
import Derived.IntWalk
set_option linter.unusedVariables false
set_option linter.unusedSimpArgs false
namespace Go.Proofs.YtedfgikikjggaaaDoor
open Go.RowKit

def lowN (x n : Int) : Int := (x % 18446744073709551616) % n
theorem lowN_bd (x n : Int) (hn : 0 < n) : 0 ≤ lowN x n ∧ lowN x n < n := ⟨Int.emod_nonneg _ (by omega), Int.emod_lt_of_pos _ hn⟩
set_option maxHeartbeats 400000 in
theorem low_any (x n : Int) (w : World) (h0 : -9223372036854775808 ≤ x) (h1 : x ≤ 9223372036854775807) (h2 : 1 ≤ n) (h3 : n ≤ 4611686018427387904) :
    Calls Tryd.prog 16 #[.int .i64 x, .int .i64 n] w fun e w' => e = .returned (.int .i64 (lowN x n)) ∧ w = w' := by
  go_enter Tryd.func16, Tryd.ntmps16
  go_wp2
  go_ret
  refine ⟨?_, by trivial⟩
  have e1 : IntKind.u64.wrap x = x % 18446744073709551616 := by simp [IntKind.wrap, IntKind.bits, IntKind.signed]
  have h5 : 0 ≤ x % 18446744073709551616 := Int.emod_nonneg _ (by decide)
  have h6 := lowN_bd x n (by omega)
  have e2 : wrap64 ((IntKind.u64.wrap x).tmod n) = lowN x n := by
    rw [e1, IntWalk.rem_in _ _ h5]
    exact IntWalk.wrap64_in _ (by unfold lowN at h6; omega)
  show Ending.returned (Value.int .i64 (wrap64 ((IntKind.u64.wrap x).tmod n))) = _
  rw [e2]

theorem wf64 {x : Int} (h : (Lit.int .i64 x).wf = true) : -9223372036854775808 ≤ x ∧ x ≤ 9223372036854775807 := by
  simp [Lit.wf, IntKind.min, IntKind.max, IntKind.signed, IntKind.bits] at h; omega
theorem wf8 {x : Int} (h : (Lit.int .u8 x).wf = true) : 0 ≤ x ∧ x ≤ 255 := by
  simp [Lit.wf, IntKind.min, IntKind.max, IntKind.signed, IntKind.bits] at h; omega
end Go.Proofs.YtedfgikikjggaaaDoor
