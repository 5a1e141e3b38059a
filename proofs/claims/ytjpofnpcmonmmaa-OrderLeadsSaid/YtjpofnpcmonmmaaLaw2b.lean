/- The walks of OrderSigns, OrderLeads. -/
import Derived.Test.YtjpofnpcmonmmaaLaw2a
set_option linter.unusedVariables false
set_option linter.unusedSimpArgs false
namespace Go.Proofs.Ytjpofnpcmonmmaa
open Go.RowKit

theorem zero_iff (a b : List UInt8) : cmpS a b = 0 ↔ ptsS a b = 0 := by
  rw [← cmpS_eq, ← ptsS_eq]
  unfold cmpD ptsD
  by_cases h : (difS a b).1 = (difS a b).2.1
  · rw [if_pos h, if_pos h]
  · rw [if_neg h, if_neg h]
    have h1 := cmpI_ne h
    by_cases h2 : cmpI (leadN (difS a b).1) (leadN (difS a b).2.1) ≠ 0
    · rw [if_pos h2]; exact ⟨fun e => absurd e h2, fun e => absurd e h1⟩
    · rw [if_neg h2]
theorem cmpS_bd (a b : List UInt8) : -1 ≤ cmpS a b ∧ cmpS a b ≤ 1 := cmpL_bd _ _
theorem ptsS_bd (a b : List UInt8) : -1 ≤ ptsS a b ∧ ptsS a b ≤ 1 := cmpL_bd _ _

set_option maxRecDepth 100000 in
set_option maxHeartbeats 4000000 in
theorem signs_walk (a b c : List UInt8) (w : World) (ha : a.length ≤ 9223372036854775807) (hb : b.length ≤ 9223372036854775807) (hc : c.length ≤ 9223372036854775807) :
    Calls Try.prog 6 #[.string ⟨a.toArray⟩, .string ⟨b.toArray⟩, .string ⟨c.toArray⟩] w fun e w' => e = .returned (.bool true) ∧ Below w.heap.size w w' := by
  cases hl : longB 200 [a, b, c] with
  | true =>
    have HL := Lib.hid hl
    clear hl
    go_enter Try.func6, Try.ntmps6
    go_wp2_with fail
    refine (long_any 200 _ [a, b, c] _ (litS _ _ [a, b, c] 3 9 _ (by rw [heap_alloc_at, if_pos (by simp)]; rfl) rfl (by decide)) (by decide) (by decide) (by simp) (by intro s hs; simp at hs; rcases hs with rfl | rfl | rfl <;> omega)).mono ?_
    rintro e w1 ⟨rfl, k, rfl⟩
    rw [HL.out]
    go_wp2_with fail
    refine (awake2_any _).mono ?_
    rintro e w1 ⟨rfl, hb⟩
    go_wp2
    go_ret
    exact ⟨rfl, ext_trans (below_drewN (ext_alloc _ _) k) hb⟩
  | false =>
    have hT := longB_tot [a, b, c] 200 hl (by simp)
    have hT2 : a.length + b.length + c.length ≤ 200 := by simp [totL] at hT; omega
    have HL := Lib.hid hl
    clear hl hT
    have X := Lib.hid (Compare_any a b · (by omega) (by omega))
    have Y := Lib.hid (Compare_any b c · (by omega) (by omega))
    have Z := Lib.hid (Compare_any a c · (by omega) (by omega))
    have P := Lib.hid (Points_any a b · (by omega) (by omega))
    have Q := Lib.hid (Points_any b c · (by omega) (by omega))
    have R := Lib.hid (Points_any a c · (by omega) (by omega))
    have X2 := Lib.hid (Compare_any b a · (by omega) (by omega))
    have P2 := Lib.hid (Points_any b a · (by omega) (by omega))
    have AA := Lib.hid (Compare_any a a · (by omega) (by omega))
    have BB := Lib.hid (Points_any b b · (by omega) (by omega))
    rw [show cmpS a a = 0 from cmpL_self _] at AA
    rw [show ptsS b b = 0 from cmpL_self _] at BB
    have hx2 := cmpS_swap a b
    have hp2 : ptsS a b = -ptsS b a := cmpL_swap _ _
    have hz := zero_iff a b
    have ht := cmpS_trans a b c
    have hs : ptsS a b ≤ 0 → ptsS b c ≤ 0 → ptsS a c ≤ 0 := cmpL_trans _ _ _
    have bx := cmpS_bd a b
    have bp := ptsS_bd a b
    generalize cmpS b a = x2 at *
    generalize ptsS b a = p2 at *
    generalize cmpS a b = x at *
    generalize cmpS b c = y at *
    generalize cmpS a c = z at *
    generalize ptsS a b = p at *
    generalize ptsS b c = q at *
    generalize ptsS a c = r at *
    obtain rfl : x2 = -x := by omega
    obtain rfl : p2 = -p := by omega
    obtain ⟨bx1, bx2⟩ := bx
    obtain ⟨bp1, bp2⟩ := bp
    have nx1 : -1 ≤ -x := by omega
    have nx2 : -x ≤ 1 := by omega
    have np1 : -1 ≤ -p := by omega
    have np2 : -p ≤ 1 := by omega
    obtain ⟨zb, hzb⟩ : ∃ zb, (x == 0) = zb := ⟨_, rfl⟩
    have hzp : (p == 0) = zb := by
      rw [← hzb]
      by_cases h : x = 0
      · rw [show (x == 0) = true from by rw [beq_iff_eq]; exact h, show (p == 0) = true from by rw [beq_iff_eq]; exact hz.1 h]
      · rw [show (x == 0) = false from by rw [beq_eq_false_iff_ne]; exact h, show (p == 0) = false from by rw [beq_eq_false_iff_ne]; exact fun e => h (hz.2 e)]
    have hX : 0 < x ∨ (x ≤ 0 ∧ 0 < y) ∨ (x ≤ 0 ∧ y ≤ 0 ∧ z ≤ 0) := by omega
    have hP : 0 < p ∨ (p ≤ 0 ∧ 0 < q) ∨ (p ≤ 0 ∧ q ≤ 0 ∧ r ≤ 0) := by omega
    clear hz ht hs hx2 hp2
    rcases hX with hx | ⟨hx, hy⟩ | ⟨hx, hy, hz⟩ <;> rcases hP with hp | ⟨hp, hq⟩ | ⟨hp, hq, hr⟩
    all_goals
      go_enter Try.func6, Try.ntmps6
      go_wp2_with fail
      refine (long_any 200 _ [a, b, c] _ (litS _ _ [a, b, c] 3 9 _ (by rw [heap_alloc_at, if_pos (by simp)]; rfl) rfl (by decide)) (by decide) (by decide) (by simp) (by intro s hs; simp at hs; rcases hs with rfl | rfl | rfl <;> omega)).mono ?_
      rintro e w1 ⟨rfl, k, rfl⟩
      rw [HL.out]
      go_wp2_with fail
      refine (X.out _).mono ?_
      rintro e w2 ⟨rfl, l2⟩
      go_wp2_with fail
      refine (Y.out _).mono ?_
      rintro e w3 ⟨rfl, l3⟩
      go_wp2_with fail
      refine (Z.out _).mono ?_
      rintro e w4 ⟨rfl, l4⟩
      go_wp2_with fail
      refine (P.out _).mono ?_
      rintro e w5 ⟨rfl, l5⟩
      go_wp2_with fail
      refine (Q.out _).mono ?_
      rintro e w6 ⟨rfl, l6⟩
      go_wp2_with fail
      refine (R.out _).mono ?_
      rintro e w7 ⟨rfl, l7⟩
      have L7 := Lib.hid (((((l2.trans l3).trans l4).trans l5).trans l6).trans l7)
      clear l2 l3 l4 l5 l6 l7
      go_wp2_with fail
      refine (X2.out _).mono ?_
      rintro e w8 ⟨rfl, l8⟩
      go_wp2_with fail
      refine (P2.out _).mono ?_
      rintro e w9 ⟨rfl, l9⟩
      go_wp2_with fail
      refine (AA.out _).mono ?_
      rintro e w10 ⟨rfl, l10⟩
      go_wp2_with fail
      refine (BB.out _).mono ?_
      rintro e w11 ⟨rfl, l11⟩
      have L11 := Lib.hid (((L7.out.trans l8).trans l9).trans (l10.trans l11)).1
      clear l8 l9 l10 l11
      go_wp2_with fail
      refine (awake2_any _).mono ?_
      rintro e w12 ⟨rfl, hb⟩
      go_wp2
      go_ret
      exact ⟨by first | rfl | (simp; done) | (simp; omega), ext_trans (below_drewN (ext_alloc _ _) k) (ext_trans L11.out hb)⟩
theorem OrderSigns_walk (s0 s1 s2 : ByteArray) (w : World) (w0 : s0.size ≤ maxLen) (w1 : s1.size ≤ maxLen) (w2 : s2.size ≤ maxLen) :
    Calls Try.prog 6 #[.string s0, .string s1, .string s2] w fun e w' => e = .returned (.bool true) ∧ Below w.heap.size w w' := by
  rw [str_is s0, str_is s1, str_is s2]
  exact signs_walk _ _ _ w (str_len w0) (str_len w1) (str_len w2)

theorem lead_cmp (a b : List UInt8) (h : validL a = true) (hb : b ≠ []) : cmpS a (a ++ b) = -1 ∧ ptsS (a ++ b) a = 1 := by
  unfold cmpS ptsS
  rw [(dec_append _ a b (Nat.le_refl _) h).1]
  have hl : 0 < b.length := List.length_pos_iff.2 hb
  have e : unitsL (decL a ++ decL b) = unitsL (decL a) ++ unitsL (decL b) := by unfold unitsL; rw [List.flatMap_append]
  rw [e]
  have e1 : cmpL (unitsL (decL a)) (unitsL (decL a) ++ unitsL (decL b)) = cmpL [] (unitsL (decL b)) := by
    have := cmpL_app (unitsL (decL a)) [] (unitsL (decL b))
    rwa [List.append_nil] at this
  have e2 : cmpL (decL a ++ decL b) (decL a) = cmpL (decL b) [] := by
    have := cmpL_app (decL a) (decL b) []
    rwa [List.append_nil] at this
  rw [e1, e2, decL_cons hl, unitsL_cons]
  obtain ⟨x, t, hu⟩ := unitsR_ne (nextL b).1
  rw [hu]
  exact ⟨cmpL_nil_l _ _, cmpL_nil_r _ _⟩
set_option maxRecDepth 100000 in
set_option maxHeartbeats 4000000 in
theorem leads_walk (l m : List UInt8) (w : World) (hm9 : l.length ≤ 9223372036854775807) (hm8 : m.length ≤ 9223372036854775807) :
    Calls Try.prog 8 #[.string ⟨l.toArray⟩, .string ⟨m.toArray⟩] w fun e w' => e = .returned (.bool true) ∧ Below w.heap.size w w' := by
  cases hl : longB 120 [l, m] with
  | true =>
    have HL := Lib.hid hl
    clear hl
    go_enter Try.func8, Try.ntmps8
    go_wp2_with fail
    refine (long_any 120 _ [l, m] _ (litS _ _ [l, m] 2 9 _ (by rw [heap_alloc_at, if_pos (by simp)]; rfl) rfl (by decide)) (by decide) (by decide) (by simp) (by intro s hs; simp at hs; rcases hs with rfl | rfl <;> omega)).mono ?_
    rintro e w1 ⟨rfl, k, rfl⟩
    rw [HL.out]
    go_wp2_with fail
    refine (awake2_any _).mono ?_
    rintro e w1 ⟨rfl, hb⟩
    go_wp2
    go_ret
    exact ⟨rfl, ext_trans (below_drewN (ext_alloc _ _) k) hb⟩
  | false =>
    have hT := longB_tot [l, m] 120 hl (by simp)
    have hT2 : l.length + m.length ≤ 120 := by simp [totL] at hT; omega
    have HL := Lib.hid hl
    clear hl hT
    cases hv : validL l with
    | false =>
      have HV := Lib.hid hv
      clear hv
      go_enter Try.func8, Try.ntmps8
      go_wp2_with fail
      refine (long_any 120 _ [l, m] _ (litS _ _ [l, m] 2 9 _ (by rw [heap_alloc_at, if_pos (by simp)]; rfl) rfl (by decide)) (by decide) (by decide) (by simp) (by intro s hs; simp at hs; rcases hs with rfl | rfl <;> omega)).mono ?_
      rintro e w1 ⟨rfl, k, rfl⟩
      rw [HL.out]
      go_wp2_with (refine wpList_toBytes _ (by rfl) 9 37 _ rfl 5 Try.underlying9 Try.underlying37 Try.underlying5 l rfl (by omega) ?_)
      intro b cap w1 h8 hb1 hbe
      have H8 := Lib.hid h8
      have HB1 := Lib.hid hb1
      clear h8 hb1 hbe
      go_wp2_with fail
      refine (rvalid_any _ l _ H8.out (by omega)).mono ?_
      rintro e w2 ⟨rfl, k2, rfl⟩
      rw [HV.out]
      go_wp2_with fail
      refine (awake2_any _).mono ?_
      rintro e w3 ⟨rfl, hb⟩
      go_wp2
      go_ret
      exact ⟨rfl, ext_trans ((below_drewN (ext_alloc _ _) k).trans (HB1.out.mono (Nat.le_succ _))) (ext_trans (ext_drew _ k2) hb)⟩
    | true =>
      have HV := Lib.hid hv
      by_cases hm0 : m = []
      · subst hm0
        clear hv
        go_enter Try.func8, Try.ntmps8
        go_wp2_with fail
        refine (long_any 120 _ [l, []] _ (litS _ _ [l, []] 2 9 _ (by rw [heap_alloc_at, if_pos (by simp)]; rfl) rfl (by decide)) (by decide) (by decide) (by simp) (by intro s hs; simp at hs; rcases hs with rfl | rfl <;> first | omega | simp)).mono ?_
        rintro e w1 ⟨rfl, k, rfl⟩
        rw [HL.out]
        go_wp2_with (refine wpList_toBytes _ (by rfl) 9 37 _ rfl 5 Try.underlying9 Try.underlying37 Try.underlying5 l rfl (by omega) ?_)
        intro b cap w1 h8 hb1 hbe
        have H8 := Lib.hid h8
        have HB1 := Lib.hid hb1
        clear h8 hb1 hbe
        go_wp2_with fail
        refine (rvalid_any _ l _ H8.out (by omega)).mono ?_
        rintro e w2 ⟨rfl, k2, rfl⟩
        rw [HV.out]
        go_wp2_with fail
        refine (awake2_any _).mono ?_
        rintro e w3 ⟨rfl, hb⟩
        go_wp2
        go_ret
        exact ⟨rfl, ext_trans ((below_drewN (ext_alloc _ _) k).trans (HB1.out.mono (Nat.le_succ _))) (ext_trans (ext_drew _ k2) hb)⟩
      · obtain ⟨e1, e2⟩ := lead_cmp l m hv hm0
        have C1 := Lib.hid (Compare_any l (l ++ m) · (by omega) (by simp; omega))
        have C2 := Lib.hid (Points_any (l ++ m) l · (by simp; omega) (by omega))
        rw [e1] at C1
        rw [e2] at C2
        have hcat : l.length + m.length ≤ 9223372036854775807 := by omega
        have g1 : (m == []) = false := by rw [beq_eq_false_iff_ne]; exact hm0
        have g2 : m.isEmpty = false := by rw [List.isEmpty_eq_false_iff]; exact hm0
        clear hv e1 e2
        go_enter Try.func8, Try.ntmps8
        go_wp2_with fail
        refine (long_any 120 _ [l, m] _ (litS _ _ [l, m] 2 9 _ (by rw [heap_alloc_at, if_pos (by simp)]; rfl) rfl (by decide)) (by decide) (by decide) (by simp) (by intro s hs; simp at hs; rcases hs with rfl | rfl <;> omega)).mono ?_
        rintro e w1 ⟨rfl, k, rfl⟩
        rw [HL.out]
        go_wp2_with (refine wpList_toBytes _ (by rfl) 9 37 _ rfl 5 Try.underlying9 Try.underlying37 Try.underlying5 l rfl (by omega) ?_)
        intro b cap w1 h8 hb1 hbe
        have H8 := Lib.hid h8
        have HB1 := Lib.hid hb1
        clear h8 hb1 hbe
        go_wp2_with fail
        refine (rvalid_any _ l _ H8.out (by omega)).mono ?_
        rintro e w2 ⟨rfl, k2, rfl⟩
        rw [HV.out]
        go_wp2_with fail
        refine (C1.out _).mono ?_
        rintro e w3 ⟨rfl, l3⟩
        have L3 := Lib.hid l3
        clear l3
        go_wp2_with fail
        refine (C2.out _).mono ?_
        rintro e w4 ⟨rfl, l4⟩
        have L4 := Lib.hid (L3.out.trans l4).1
        clear l4
        go_wp2_with fail
        refine (awake2_any _).mono ?_
        rintro e w5 ⟨rfl, hb⟩
        go_wp2
        go_ret
        exact ⟨rfl, ext_trans ((below_drewN (ext_alloc _ _) k).trans (HB1.out.mono (Nat.le_succ _))) (ext_trans (ext_drew _ k2) (ext_trans L4.out hb))⟩
theorem OrderLeads_walk (s0 s1 : ByteArray) (w : World) (w0 : s0.size ≤ maxLen) (w1 : s1.size ≤ maxLen) :
    Calls Try.prog 8 #[.string s0, .string s1] w fun e w' => e = .returned (.bool true) ∧ Below w.heap.size w w' := by
  rw [str_is s0, str_is s1]
  exact leads_walk _ _ w (str_len w0) (str_len w1)
end Go.Proofs.Ytjpofnpcmonmmaa
