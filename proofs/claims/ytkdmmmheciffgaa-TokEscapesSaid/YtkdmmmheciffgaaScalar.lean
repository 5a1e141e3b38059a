/- The contract of law0.Scalar. -/
import Derived.Test.YtkdmmmheciffgaaLow
import Derived.Test.YtkdmmmheciffgaaUtfM
set_option linter.unusedVariables false
set_option linter.unusedSimpArgs false
namespace Go.Proofs.Ytkdmmmheciffgaa
open Go.RowKit

def scalarN (n : Int) : Int := if 55296 ≤ lowN n 1114112 ∧ lowN n 1114112 ≤ 57343 then lowN n 1114112 - 55296 else lowN n 1114112
theorem scalarN_ok (n : Int) : okR (scalarN n) := by
  have := lowN_bd n 1114112 (by decide)
  unfold scalarN okR; split <;> omega
set_option maxHeartbeats 400000 in
theorem scalar_any (n : Int) (w : World) (h0 : -9223372036854775808 ≤ n) (h1 : n ≤ 9223372036854775807) :
    Calls Try.prog 18 #[.int .i64 n] w fun e w' => e = .returned (.int .i32 (scalarN n)) ∧ w = w' := by
  have hb := lowN_bd n 1114112 (by decide)
  have HS : Hid (scalarN n = if 55296 ≤ lowN n 1114112 ∧ lowN n 1114112 ≤ 57343 then lowN n 1114112 - 55296 else lowN n 1114112) := Lib.hid rfl
  obtain ⟨hb0, hb1⟩ := hb
  by_cases c1 : 55296 ≤ lowN n 1114112
  · by_cases c2 : lowN n 1114112 ≤ 57343
    · go_enter Try.func18, Try.ntmps18
      go_wp2_with fail
      refine (low_any _ _ _ h0 h1 (by decide) (by decide)).mono ?_
      rintro e w1 ⟨rfl, rfl⟩
      go_wp2
      go_ret
      exact ⟨by rw [HS.out, if_pos ⟨c1, c2⟩]; rfl, by trivial⟩
    · go_enter Try.func18, Try.ntmps18
      go_wp2_with fail
      refine (low_any _ _ _ h0 h1 (by decide) (by decide)).mono ?_
      rintro e w1 ⟨rfl, rfl⟩
      go_wp2
      go_ret
      exact ⟨by rw [HS.out, if_neg (by omega)]; rfl, by trivial⟩
  · go_enter Try.func18, Try.ntmps18
    go_wp2_with fail
    refine (low_any _ _ _ h0 h1 (by decide) (by decide)).mono ?_
    rintro e w1 ⟨rfl, rfl⟩
    go_wp2
    go_ret
    exact ⟨by rw [HS.out, if_neg (by omega)]; rfl, by trivial⟩

end Go.Proofs.Ytkdmmmheciffgaa
