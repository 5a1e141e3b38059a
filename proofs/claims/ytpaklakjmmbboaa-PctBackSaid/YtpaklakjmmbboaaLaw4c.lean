/- The walks of PctBack, PctHalf, PctOnce. -/
import Derived.Test.YtpaklakjmmbboaaLaw4b
import Derived.Test.YtpaklakjmmbboaaPctF
set_option linter.unusedVariables false
set_option linter.unusedSimpArgs false
namespace Go.Proofs.Ytpaklakjmmbboaa
open Go.RowKit

theorem back_walk (l : List UInt8) (w : World) (hm9 : l.length ≤ 9223372036854775807) :
    Calls Try.prog 5 #[.string ⟨l.toArray⟩] w fun e w' => e = .returned (.bool true) ∧ Below w.heap.size w w' := by
  by_cases hlen : 200 < l.length
  · go_enter Try.func5, Try.ntmps5
    go_wp2_with fail
    refine (awake4_any _).mono ?_
    rintro e w1 ⟨rfl, hb⟩
    go_wp2
    go_ret
    exact ⟨rfl, hb⟩
  · have hd : decide ((200 : Int) < (l.length : Int)) = false := by simp; omega
    cases hv : validL l with
    | false =>
      have HV := Lib.hid hv
      clear hv
      go_enter Try.func5, Try.ntmps5
      go_wp2_with (refine wpList_toBytes _ (by rfl) 9 27 _ rfl 5 Try.underlying9 Try.underlying27 Try.underlying5 l rfl (by omega) ?_)
      intro b cap w1 h8 hb1 hbe
      have H8 := Lib.hid h8
      have HB1 := Lib.hid hb1
      clear h8 hb1 hbe
      go_wp2_with fail
      refine (rvalid_any _ l _ H8.out (by omega)).mono ?_
      rintro e w2 ⟨rfl, k, rfl⟩
      rw [HV.out]
      go_wp2_with fail
      refine (awake4_any _).mono ?_
      rintro e w3 ⟨rfl, hb⟩
      go_wp2
      go_ret
      exact ⟨rfl, ext_trans HB1.out (ext_trans (ext_drew _ k) hb)⟩
    | true =>
      have HV := Lib.hid hv
      have HE := Lib.hid (back_eq l hv)
      have hpl : (pencL 6 l).length ≤ 3 * l.length := by
        unfold pencL; rw [if_pos (by decide), plainL_valid hv]; exact penc_len _ _
      clear hv
      go_enter Try.func5, Try.ntmps5
      go_wp2_with (refine wpList_toBytes _ (by rfl) 9 27 _ rfl 5 Try.underlying9 Try.underlying27 Try.underlying5 l rfl (by omega) ?_)
      intro b cap w1 h8 hb1 hbe
      have H8 := Lib.hid h8
      have HB1 := Lib.hid hb1
      clear h8 hb1 hbe
      go_wp2_with fail
      refine (rvalid_any _ l _ H8.out (by omega)).mono ?_
      rintro e w2 ⟨rfl, k, rfl⟩
      rw [HV.out]
      go_wp2_with fail
      refine (pencode_any l 6 _ (by omega) (by decide) (by decide)).mono ?_
      rintro e w3 ⟨rfl, hb3⟩
      have HB3 := Lib.hid hb3
      clear hb3
      generalize pencL 6 l = t at *
      go_wp2_with fail
      refine (decodeP_any t _ (by omega)).mono ?_
      rintro e w4 ⟨v4, rfl, hown4, hb4⟩
      rw [HE.out] at hown4
      have H4 := Lib.hid hown4.is8
      have HB4 := Lib.hid hb4
      clear hown4 hb4
      go_wp2_with (refine wpList_toStr _ (by rfl) _ _ _ rfl 5 Try.underlying27 Try.underlying5 Try.underlying9 _ rfl l H4.out ?_)
      refine (awake4_any _).mono ?_
      rintro e w5 ⟨rfl, hb⟩
      go_wp2
      go_ret
      exact ⟨rfl, ext_trans HB1.out (ext_trans (ext_drew _ k) (ext_trans HB3.out (ext_trans HB4.out hb)))⟩
theorem PctBack_walk (s0 : ByteArray) (w : World) (w0 : s0.size ≤ maxLen) :
    Calls Try.prog 5 #[.string s0] w fun e w' => e = .returned (.bool true) ∧ Below w.heap.size w w' := by
  rw [str_is s0]
  exact back_walk _ w (by unfold maxLen at w0; rw [Array.length_toList]; exact w0)

set_option maxRecDepth 100000 in
set_option maxHeartbeats 2000000 in
theorem PctHalf_walk (a0 a1 a2 : Int) (w : World) (w0 : (Lit.int .u8 a0).wf = true) (w1 : (Lit.int .u8 a1).wf = true) (w2 : (Lit.int .u8 a2).wf = true) :
    Calls Try.prog 8 #[.int .u8 a0, .int .u8 a1, .int .u8 a2] w fun e w' => e = .returned (.bool true) ∧ Below w.heap.size w w' := by
  obtain ⟨n00, n01⟩ := wf8 w0
  obtain ⟨n10, n11⟩ := wf8 w1
  obtain ⟨n20, n21⟩ := wf8 w2
  clear w0 w1 w2
  obtain ⟨x, hx⟩ : ∃ x, hexN a0 = x := ⟨_, rfl⟩
  obtain ⟨y, hy⟩ : ∃ y, hexN a1 = y := ⟨_, rfl⟩
  have bx := hexN_bd a0
  have bY := hexN_bd a1
  rw [hx] at bx
  rw [hy] at bY
  obtain ⟨bx0, bx1⟩ := bx
  obtain ⟨by0, by1⟩ := bY
  have HX := Lib.hid hx
  have HY := Lib.hid hy
  clear hx hy
  have Q1 : Hid (∀ w, Calls Try.prog 20 #[.int .u8 a0] w fun e w' => e = .returned (.int .i64 x) ∧ w = w') := Lib.hid (fun w => by rw [← HX.out]; exact digit_any a0 w n00 n01)
  have Q2 : Hid (∀ w, Calls Try.prog 20 #[.int .u8 a1] w fun e w' => e = .returned (.int .i64 y) ∧ w = w') := Lib.hid (fun w => by rw [← HY.out]; exact digit_any a1 w n10 n11)
  by_cases c : (0 ≤ x ∧ 0 ≤ y) ∨ a0 = 37 ∨ a1 = 37 ∨ a2 = 37
  · by_cases c1 : 0 ≤ x
    · by_cases c2 : 0 ≤ y
      · clear c
        go_enter Try.func8, Try.ntmps8
        go_wp2_with fail
        refine (Q1.out _).mono ?_
        rintro e w' ⟨rfl, rfl⟩
        go_wp2_with fail
        refine (Q2.out _).mono ?_
        rintro e w' ⟨rfl, rfl⟩
        go_wp2_with fail
        refine (awake4_any _).mono ?_
        rintro e w1 ⟨rfl, hb⟩
        go_wp2
        go_ret
        exact ⟨rfl, hb⟩
      · by_cases d0 : a0 = 37
        · have e0 : (a0 == 37) = true := by rw [beq_iff_eq]; exact d0
          clear c d0
          go_enter Try.func8, Try.ntmps8
          go_wp2_with fail
          refine (Q1.out _).mono ?_
          rintro e w' ⟨rfl, rfl⟩
          go_wp2_with fail
          refine (Q2.out _).mono ?_
          rintro e w' ⟨rfl, rfl⟩
          go_wp2_with fail
          refine (awake4_any _).mono ?_
          rintro e w1 ⟨rfl, hb⟩
          go_wp2
          go_ret
          exact ⟨rfl, hb⟩
        · have e0 : (a0 == 37) = false := by rw [beq_eq_false_iff_ne]; exact d0
          by_cases d1 : a1 = 37
          · have e1 : (a1 == 37) = true := by rw [beq_iff_eq]; exact d1
            clear c d0 d1
            go_enter Try.func8, Try.ntmps8
            go_wp2_with fail
            refine (Q1.out _).mono ?_
            rintro e w' ⟨rfl, rfl⟩
            go_wp2_with fail
            refine (Q2.out _).mono ?_
            rintro e w' ⟨rfl, rfl⟩
            go_wp2_with fail
            refine (awake4_any _).mono ?_
            rintro e w1 ⟨rfl, hb⟩
            go_wp2
            go_ret
            exact ⟨rfl, hb⟩
          · have e1 : (a1 == 37) = false := by rw [beq_eq_false_iff_ne]; exact d1
            have e2 : (a2 == 37) = true := by rw [beq_iff_eq]; omega
            clear c d0 d1
            go_enter Try.func8, Try.ntmps8
            go_wp2_with fail
            refine (Q1.out _).mono ?_
            rintro e w' ⟨rfl, rfl⟩
            go_wp2_with fail
            refine (Q2.out _).mono ?_
            rintro e w' ⟨rfl, rfl⟩
            go_wp2_with fail
            refine (awake4_any _).mono ?_
            rintro e w1 ⟨rfl, hb⟩
            go_wp2
            go_ret
            exact ⟨rfl, hb⟩
    · by_cases d0 : a0 = 37
      · have e0 : (a0 == 37) = true := by rw [beq_iff_eq]; exact d0
        clear c d0
        go_enter Try.func8, Try.ntmps8
        go_wp2_with fail
        refine (Q1.out _).mono ?_
        rintro e w' ⟨rfl, rfl⟩
        go_wp2_with fail
        refine (awake4_any _).mono ?_
        rintro e w1 ⟨rfl, hb⟩
        go_wp2
        go_ret
        exact ⟨rfl, hb⟩
      · have e0 : (a0 == 37) = false := by rw [beq_eq_false_iff_ne]; exact d0
        by_cases d1 : a1 = 37
        · have e1 : (a1 == 37) = true := by rw [beq_iff_eq]; exact d1
          clear c d0 d1
          go_enter Try.func8, Try.ntmps8
          go_wp2_with fail
          refine (Q1.out _).mono ?_
          rintro e w' ⟨rfl, rfl⟩
          go_wp2_with fail
          refine (awake4_any _).mono ?_
          rintro e w1 ⟨rfl, hb⟩
          go_wp2
          go_ret
          exact ⟨rfl, hb⟩
        · have e1 : (a1 == 37) = false := by rw [beq_eq_false_iff_ne]; exact d1
          have e2 : (a2 == 37) = true := by rw [beq_iff_eq]; omega
          clear c d0 d1
          go_enter Try.func8, Try.ntmps8
          go_wp2_with fail
          refine (Q1.out _).mono ?_
          rintro e w' ⟨rfl, rfl⟩
          go_wp2_with fail
          refine (awake4_any _).mono ?_
          rintro e w1 ⟨rfl, hb⟩
          go_wp2
          go_ret
          exact ⟨rfl, hb⟩
  · have e0 : (a0 == 37) = false := by rw [beq_eq_false_iff_ne]; omega
    have e1 : (a1 == 37) = false := by rw [beq_eq_false_iff_ne]; omega
    have e2 : (a2 == 37) = false := by rw [beq_eq_false_iff_ne]; omega
    have HE := Lib.hid (half_eq a0 a1 a2 n00 n01 n10 n11 n20 n21 (by rw [HX.out, HY.out]; omega) (by omega) (by omega) (by omega))
    have N1 : Hid (pdec [120, 37] = [120, 37]) := Lib.hid (by decide)
    have N2 : Hid (pdec [37, 52] = [37, 52]) := Lib.hid (by decide)
    have hcx : x < 0 ∨ (0 ≤ x ∧ y < 0) := by omega
    have HL : Hid (∀ (W : World) (b : Nat) (m : Nat × Nat), W.heap[b]? = some (.cells #[.int .u8 37, .int .u8 a0, .int .u8 a1, .int .u8 a2] 5 m) → Is8 W (.slice (some ⟨b, 0, none⟩) 4 4) [37, mkB a0, mkB a1, mkB a2]) := Lib.hid (fun W b m h => lit8 W b [37, mkB a0, mkB a1, mkB a2] 4 5 m (by rw [h]; simp [u8V_mk n00 n01, u8V_mk n10 n11, u8V_mk n20 n21]; rfl) rfl (by decide))
    clear c
    generalize mkB a0 = b0 at *
    generalize mkB a1 = b1 at *
    generalize mkB a2 = b2 at *
    rcases hcx with c1 | ⟨c1, c2⟩
    all_goals
      go_enter Try.func8, Try.ntmps8
      go_wp2_with fail
      refine (Q1.out _).mono ?_
      rintro e w' ⟨rfl, rfl⟩
      try (go_wp2_with fail; refine (Q2.out _).mono ?_; rintro e w' ⟨rfl, rfl⟩)
      go_wp2_with (refine wpList_toStr _ (by rfl) _ _ _ rfl 5 Try.underlying27 Try.underlying5 Try.underlying9 _ rfl [37, b0, b1, b2] (HL.out _ _ _ (by rw [heap_alloc_at, if_pos (by simp)])) ?_)
      refine (decodeP_any [37, b0, b1, b2] _ (by simp)).mono ?_
      rintro e w2 ⟨v2, rfl, hown2, hb2⟩
      rw [HE.out] at hown2
      have H2 := Lib.hid hown2.is8
      have HB2 := Lib.hid hb2
      clear hown2 hb2
      go_wp2_with (refine wpList_toStr _ (by rfl) _ _ _ rfl 5 Try.underlying27 Try.underlying5 Try.underlying9 _ rfl [37, b0, b1, b2] H2.out ?_)
      refine (decodeP_any [120, 37] _ (by simp)).mono ?_
      rintro e w3 ⟨v3, rfl, hown3, hb3⟩
      rw [N1.out] at hown3
      have H3 := Lib.hid hown3.is8
      have HB3 := Lib.hid hb3
      clear hown3 hb3
      go_wp2_with (refine wpList_toStr _ (by rfl) _ _ _ rfl 5 Try.underlying27 Try.underlying5 Try.underlying9 v3 rfl [120, 37] H3.out ?_)
      refine (decodeP_any [37, 52] _ (by simp)).mono ?_
      rintro e w4 ⟨v4, rfl, hown4, hb4⟩
      rw [N2.out] at hown4
      have H4 := Lib.hid hown4.is8
      have HB4 := Lib.hid hb4
      clear hown4 hb4
      go_wp2_with (refine wpList_toStr _ (by rfl) _ _ _ rfl 5 Try.underlying27 Try.underlying5 Try.underlying9 v4 rfl [37, 52] H4.out ?_)
      refine (awake4_any _).mono ?_
      rintro e w5 ⟨rfl, hb⟩
      go_wp2
      go_ret
      exact ⟨rfl, ext_trans (ext_alloc _ _) (ext_trans HB2.out (ext_trans HB3.out (ext_trans HB4.out hb)))⟩
end Go.Proofs.Ytpaklakjmmbboaa
