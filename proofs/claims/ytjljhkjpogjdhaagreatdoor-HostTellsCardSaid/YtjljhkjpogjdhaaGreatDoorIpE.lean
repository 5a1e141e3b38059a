/- Contracts of ref8.digit and number. -/
import Derived.Test.YtjljhkjpogjdhaaGreatDoorIpB
set_option linter.unusedVariables false
set_option linter.unusedSimpArgs false
namespace Go.Proofs.YtjljhkjpogjdhaaGreatDoor
open Go.RowKit

def digN (c n : Int) : Int := if n ≤ hexN c then -1 else hexN c
theorem hexN_class (c : Int) : (48 ≤ c ∧ c ≤ 57 ∧ hexN c = c - 48) ∨ (97 ≤ c ∧ c ≤ 102 ∧ hexN c = c - 87) ∨ (65 ≤ c ∧ c ≤ 70 ∧ hexN c = c - 55) ∨ (c < 48 ∧ hexN c = -1) ∨ (57 < c ∧ c < 65 ∧ hexN c = -1) ∨ (70 < c ∧ c < 97 ∧ hexN c = -1) ∨ (102 < c ∧ hexN c = -1) := by
  unfold hexN; (repeat' split) <;> omega
set_option maxHeartbeats 2000000 in
theorem rdigit_any (c n : Int) (w : World) (h0 : 0 ≤ c) (h1 : c ≤ 255) (hn : 1 ≤ n) (hn2 : n ≤ 100) :
    Calls Tryz.prog 85 #[.int .u8 c, .int .i64 n] w fun e w' => e = .returned (.int .i64 (digN c n)) ∧ w = w' := by
  have HD : Hid (digN c n = if n ≤ hexN c then -1 else hexN c) := Lib.hid rfl
  rcases hexN_class c with ⟨a1, a2, hx⟩ | ⟨a1, a2, hx⟩ | ⟨a1, a2, hx⟩ | ⟨a1, hx⟩ | ⟨a1, a2, hx⟩ | ⟨a1, a2, hx⟩ | ⟨a1, hx⟩
  all_goals
    rw [hx] at HD
    clear hx
    go_enter Tryz.func85, Tryz.ntmps85
    go_wp2_with fail
    all_goals
      go_ret
      refine ⟨ret_n ?_, by trivial⟩
      rw [HD.out]
      first | rfl | (rw [if_pos (by omega)]; done) | (rw [if_neg (by omega)]; omega) | (rw [if_neg (by omega)])
end Go.Proofs.YtjljhkjpogjdhaaGreatDoor
