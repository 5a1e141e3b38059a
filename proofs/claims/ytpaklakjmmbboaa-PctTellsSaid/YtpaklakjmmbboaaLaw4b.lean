/- The walks of PctIn, PctTells, PctBack. -/
import Derived.Test.YtpaklakjmmbboaaLaw4a
import Derived.Deep.RegionWith
set_option linter.unusedVariables false
set_option linter.unusedSimpArgs false
namespace Go.Proofs.Ytpaklakjmmbboaa
open Go.RowKit

theorem wf32 {x : Int} (h : (Lit.int .i32 x).wf = true) : -2147483648 ≤ x ∧ x ≤ 2147483647 := by
  simp [Lit.wf, IntKind.min, IntKind.max, IntKind.signed, IntKind.bits] at h; omega
theorem str_is (s : ByteArray) : s = ⟨s.data.toList.toArray⟩ := by
  apply ByteArray.ext; simp

set_option maxHeartbeats 1000000 in
theorem PctIn_walk (a0 a1 a2 : Int) (w : World) (w0 : (Lit.int .i64 a0).wf = true) (w1 : (Lit.int .i64 a1).wf = true) (w2 : (Lit.int .i32 a2).wf = true) :
    Calls Try.prog 3 #[.int .i64 a0, .int .i64 a1, .int .i32 a2] w fun e w' => e = .returned (.bool true) ∧ Below w.heap.size w w' := by
  obtain ⟨n00, n01⟩ := wf64 w0
  obtain ⟨n10, n11⟩ := wf64 w1
  obtain ⟨n20, n21⟩ := wf32 w2
  clear w0 w1 w2
  go_enter Try.func3, Try.ntmps3
  go_wp2_with fail
  refine (low_any a0 9 _ n00 n01 (by decide) (by decide)).mono ?_
  rintro e w' ⟨rfl, rfl⟩
  obtain ⟨l1, l2⟩ := lowN_bd a0 9 (by decide)
  generalize lowN a0 9 = k at *
  go_wp2_with fail
  refine (low_any a1 140 _ n10 n11 (by decide) (by decide)).mono ?_
  rintro e w' ⟨rfl, rfl⟩
  obtain ⟨l3, l4⟩ := lowN_bd a1 140 (by decide)
  generalize lowN a1 140 = x at *
  go_wp2_with fail
  refine (In_any (k - 1) x _ (by omega) (by omega) (by omega) (by omega)).mono ?_
  rintro e w' ⟨rfl, rfl⟩
  go_wp2_with fail
  refine (rIn_any (k - 1) x _ (by omega) (by omega) (by omega) (by omega)).mono ?_
  rintro e w' ⟨rfl, rfl⟩
  generalize pinB (k - 1) x = p1 at *
  go_wp2_with fail
  refine (In_any (k - 1) a2 _ (by omega) (by omega) (by omega) (by omega)).mono ?_
  rintro e w' ⟨rfl, rfl⟩
  go_wp2_with fail
  refine (rIn_any (k - 1) a2 _ (by omega) (by omega) (by omega) (by omega)).mono ?_
  rintro e w' ⟨rfl, rfl⟩
  generalize pinB (k - 1) a2 = p2 at *
  go_wp2_with fail
  refine (In_any a0 a2 _ (by omega) (by omega) (by omega) (by omega)).mono ?_
  rintro e w' ⟨rfl, rfl⟩
  go_wp2_with fail
  refine (rIn_any a0 a2 _ (by omega) (by omega) (by omega) (by omega)).mono ?_
  rintro e w' ⟨rfl, rfl⟩
  generalize pinB a0 a2 = p3 at *
  go_wp2_with fail
  refine (awake4_any _).mono ?_
  rintro e w1 ⟨rfl, hb⟩
  go_wp2
  go_ret
  exact ⟨rfl, hb⟩

set_option maxHeartbeats 2000000 in
theorem PctTells_walk (s0 : ByteArray) (a1 : Int) (w : World) (w0 : s0.size ≤ maxLen) (w1 : (Lit.int .i64 a1).wf = true) :
    Calls Try.prog 4 #[.string s0, .int .i64 a1] w fun e w' => e = .returned (.bool true) ∧ Below w.heap.size w w' := by
  obtain ⟨n10, n11⟩ := wf64 w1
  rw [str_is s0]
  have hm9 : s0.data.toList.length ≤ 9223372036854775807 := by unfold maxLen at w0; rw [Array.length_toList]; exact w0
  generalize s0.data.toList = l at *
  clear w0 w1
  by_cases hlen : 300 < l.length
  · go_enter Try.func4, Try.ntmps4
    go_wp2_with fail
    refine (awake4_any _).mono ?_
    rintro e w1 ⟨rfl, hb⟩
    go_wp2
    go_ret
    exact ⟨rfl, hb⟩
  · go_enter Try.func4, Try.ntmps4
    go_wp2_with fail
    refine (low_any a1 8 _ n10 n11 (by decide) (by decide)).mono ?_
    rintro e w' ⟨rfl, rfl⟩
    obtain ⟨l1, l2⟩ := lowN_bd a1 8 (by decide)
    generalize lowN a1 8 = k at *
    have HE := Lib.hid (renc_eq k l)
    have C1 : Hid (∀ w, Calls Try.prog 14 #[.string ⟨l.toArray⟩, .int .i64 k] w fun e w' => e = .returned (.string ⟨(pencL k l).toArray⟩) ∧ Below w.heap.size w w') := Lib.hid (fun w => pencode_any l k w (by omega) (by omega) (by omega))
    have C2 : Hid (∀ w, Calls Try.prog 15 #[.string ⟨l.toArray⟩, .int .i64 k] w fun e w' => e = .returned (.string ⟨(pencL k l).toArray⟩) ∧ Below w.heap.size w w') := Lib.hid (fun w => by rw [← HE.out]; exact rencodeS_any l k w (by omega) (by omega) (by omega))
    generalize pencL k l = E at *
    clear HE
    go_wp2_with fail
    go_region_with (first
      | (go_at_call 14; (with_reducible refine (C1.out _).mono ?_); rintro e w1 ⟨rfl, hb1⟩; have HB1 := Lib.hid hb1; clear hb1)
      | (go_at_call 15; (with_reducible refine (C2.out _).mono ?_); rintro e w2 ⟨rfl, hb2⟩; have HB2 := Lib.hid hb2; clear hb2)
      | (go_at_call 16; (with_reducible refine (decodeP_any l _ (by omega)).mono ?_); rintro e w3 ⟨v3, rfl, hown3, hb3⟩; have HB3 := Lib.hid hb3; have hc3 := run_toStr (P := Try.prog) w3 27 9 5 Try.underlying27 Try.underlying5 Try.underlying9 v3 (pdec l) hown3.is8; have H3 := Lib.hid hown3.is8; clear hown3 hb3)
      | (go_at_call 17; (with_reducible refine (rdecodeP_any l _ (by omega)).mono ?_); rintro e w4 ⟨v4, rfl, hown4, hb4⟩; have HB4 := Lib.hid hb4; have hc4 := run_toStr (P := Try.prog) w4 27 9 5 Try.underlying27 Try.underlying5 Try.underlying9 v4 (pdec l) hown4.is8; have hc3b := run_toStr (P := Try.prog) w4 27 9 5 Try.underlying27 Try.underlying5 Try.underlying9 v3 (pdec l) (H3.out.below hb4); clear hown4 hb4)
      | (go_at_call 13; (with_reducible refine (awake4_any _).mono ?_); rintro e w5 ⟨rfl, hb5⟩; have HB5 := Lib.hid hb5; clear hb5))
    all_goals
      go_wp2
      go_ret
      exact ⟨rfl, ext_trans (ext_drew _ 1) (ext_trans HB1.out (ext_trans HB2.out (ext_trans HB3.out (ext_trans HB4.out HB5.out))))⟩
end Go.Proofs.Ytpaklakjmmbboaa
