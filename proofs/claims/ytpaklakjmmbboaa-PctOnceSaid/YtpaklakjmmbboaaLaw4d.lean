/- The walks of PctOnce, PctJoins. -/
import Derived.Test.YtpaklakjmmbboaaLaw4b
import Derived.Test.YtpaklakjmmbboaaPctF
import Derived.Test.YtpaklakjmmbboaaLong
set_option linter.unusedVariables false
set_option linter.unusedSimpArgs false
namespace Go.Proofs.Ytpaklakjmmbboaa
open Go.RowKit

theorem pencL_len (k : Int) (l : List UInt8) : (pencL k l).length ≤ 12 * l.length := by
  have h1 := decL_len _ l (Nat.le_refl _)
  have h2 : (plainL l).length ≤ 4 * (decL l).length := (encL_len (decL l)).2
  have h3 := penc_len (moreS k) (plainL l)
  unfold pencL
  split <;> omega

set_option maxRecDepth 100000 in
set_option maxHeartbeats 1000000 in
theorem once_walk (l : List UInt8) (a1 : Int) (w : World) (hm9 : l.length ≤ 9223372036854775807) (n10 : -9223372036854775808 ≤ a1) (n11 : a1 ≤ 9223372036854775807) :
    Calls Try.prog 6 #[.string ⟨l.toArray⟩, .int .i64 a1] w fun e w' => e = .returned (.bool true) ∧ Below w.heap.size w w' := by
  by_cases hlen : 200 < l.length
  · go_enter Try.func6, Try.ntmps6
    go_wp2_with fail
    refine (awake4_any _).mono ?_
    rintro e w1 ⟨rfl, hb⟩
    go_wp2
    go_ret
    exact ⟨rfl, hb⟩
  · go_enter Try.func6, Try.ntmps6
    go_wp2_with fail
    refine (low_any a1 6 _ n10 n11 (by decide) (by decide)).mono ?_
    rintro e w' ⟨rfl, rfl⟩
    obtain ⟨l1, l2⟩ := lowN_bd a1 6 (by decide)
    generalize lowN a1 6 = k at *
    obtain ⟨m1, m2, m3⟩ := once_eq k l (by omega)
    have hpl := pencL_len k l
    go_wp2_with fail
    refine (pencode_any l k _ (by omega) (by omega) (by omega)).mono ?_
    rintro e w1 ⟨rfl, hb1⟩
    have HB1 := Lib.hid hb1
    generalize pencL k l = t at *
    have M1 := Lib.hid m1
    have M2 := Lib.hid m2
    have hm3 : ((decL l).length : Int) ≤ (t.length : Int) := by omega
    clear hb1 m1 m2 m3
    go_wp2_with fail
    go_loop [7] (fun ti => ∃ i : Nat, i ≤ t.length ∧ ti = .int .i64 i) (fun ti => t.length - (intOf ti).toNat)
    case atStart => exact ⟨0, by omega, rfl⟩
    case round =>
      obtain ⟨i, hi, rfl⟩ := hrel
      by_cases hlt : i < t.length
      · have HN := Lib.hid (M1.out i hlt)
        have b0 := byt_lo t i
        have b1 := byt_hi t i
        go_wp2_with (go_at_call 11; (with_reducible refine (In_any k (byt t i) _ (by omega) (by omega) (by omega) (by omega)).mono ?_); rintro e w' ⟨rfl, rfl⟩; rw [HN.out])
        go_round
        case rel => exact ⟨i + 1, by omega, by go_num⟩
        case measure => simp [intOf]; omega
      · obtain rfl : i = t.length := by omega
        go_wp2_with fail
        refine (pencode_any t k _ (by omega) (by omega) (by omega)).mono ?_
        rintro e w2 ⟨rfl, hb2⟩
        rw [M2.out]
        have HB2 := Lib.hid hb2
        clear hb2
        go_wp2_with (refine wpList_toBytes _ (by rfl) 9 27 _ rfl 5 Try.underlying9 Try.underlying27 Try.underlying5 l rfl (by omega) ?_)
        intro b cap w3 h8 hb3 hbe
        have H8 := Lib.hid h8
        have HB3 := Lib.hid hb3
        clear h8 hb3 hbe
        go_wp2_with fail
        refine (rdecode_any _ l _ H8.out (by omega)).mono ?_
        rintro e w4 ⟨v4, rfl, hown4, hb4⟩
        obtain ⟨a4, c4, hv4, -⟩ := hown4.is32
        have HB4 := Lib.hid hb4
        clear hown4 hb4
        subst hv4
        go_wp2_with fail
        refine (awake4_any _).mono ?_
        rintro e w5 ⟨rfl, hb⟩
        go_wp2
        go_ret
        exact ⟨rfl, ext_trans HB1.out (ext_trans HB2.out (ext_trans HB3.out (ext_trans HB4.out hb)))⟩
theorem PctOnce_walk (s0 : ByteArray) (a1 : Int) (w : World) (w0 : s0.size ≤ maxLen) (w1 : (Lit.int .i64 a1).wf = true) :
    Calls Try.prog 6 #[.string s0, .int .i64 a1] w fun e w' => e = .returned (.bool true) ∧ Below w.heap.size w w' := by
  obtain ⟨n10, n11⟩ := wf64 w1
  rw [str_is s0]
  exact once_walk _ a1 w (by unfold maxLen at w0; rw [Array.length_toList]; exact w0) n10 n11

theorem pdec_len : ∀ (n : Nat) (l : List UInt8), l.length ≤ n → (pdec l).length ≤ l.length := by
  intro n
  induction n with
  | zero => intro l h; rw [pdec_nil (by omega)]; simp
  | succ n ih =>
    intro l h
    by_cases h0 : l.length = 0
    · rw [pdec_nil h0]; simp
    · rw [pdec_unf (by omega)]
      have h1 := ih (l.drop 3) (by simp; omega)
      have h2 := ih (l.drop 1) (by simp; omega)
      simp only [List.length_drop] at h1 h2
      split
      · rename_i hp
        have := hp.2.1
        rw [List.length_cons]; omega
      · rw [List.length_cons]; omega

set_option maxRecDepth 100000 in
set_option maxHeartbeats 4000000 in
theorem joins_walk (l m : List UInt8) (a2 : Int) (w : World) (hm9 : l.length ≤ 9223372036854775807) (hm8 : m.length ≤ 9223372036854775807) (n10 : -9223372036854775808 ≤ a2) (n11 : a2 ≤ 9223372036854775807) :
    Calls Try.prog 9 #[.string ⟨l.toArray⟩, .string ⟨m.toArray⟩, .int .i64 a2] w fun e w' => e = .returned (.bool true) ∧ Below w.heap.size w w' := by
  cases hl : longB 200 [l, m] with
  | true =>
    have HL := Lib.hid hl
    clear hl
    go_enter Try.func9, Try.ntmps9
    go_wp2_with fail
    refine (long_any 200 _ [l, m] _ (litS _ _ [l, m] 2 9 _ (by rw [heap_alloc_at, if_pos (by simp)]; rfl) rfl (by decide)) (by decide) (by decide) (by simp) (by intro s hs; simp at hs; rcases hs with rfl | rfl <;> omega)).mono ?_
    rintro e w1 ⟨rfl, k, rfl⟩
    rw [HL.out]
    go_wp2_with fail
    refine (awake4_any _).mono ?_
    rintro e w1 ⟨rfl, hb⟩
    go_wp2
    go_ret
    exact ⟨rfl, ext_trans (ext_alloc _ _) (ext_trans (ext_drew _ k) hb)⟩
  | false =>
    have hT := longB_tot [l, m] 200 hl (by simp)
    have hT2 : l.length + m.length ≤ 200 := by simp [totL] at hT; omega
    have HL := Lib.hid hl
    clear hl hT
    cases hv : validL l with
    | false =>
      have HV := Lib.hid hv
      clear hv
      go_enter Try.func9, Try.ntmps9
      go_wp2_with fail
      refine (long_any 200 _ [l, m] _ (litS _ _ [l, m] 2 9 _ (by rw [heap_alloc_at, if_pos (by simp)]; rfl) rfl (by decide)) (by decide) (by decide) (by simp) (by intro s hs; simp at hs; rcases hs with rfl | rfl <;> omega)).mono ?_
      rintro e w1 ⟨rfl, k, rfl⟩
      rw [HL.out]
      go_wp2_with (refine wpList_toBytes _ (by rfl) 9 27 _ rfl 5 Try.underlying9 Try.underlying27 Try.underlying5 l rfl (by omega) ?_)
      intro b cap w1 h8 hb1 hbe
      have H8 := Lib.hid h8
      have HB1 := Lib.hid hb1
      clear h8 hb1 hbe
      go_wp2_with fail
      refine (rvalid_any _ l _ H8.out (by omega)).mono ?_
      rintro e w2 ⟨rfl, k2, rfl⟩
      rw [HV.out]
      go_wp2_with fail
      refine (awake4_any _).mono ?_
      rintro e w3 ⟨rfl, hb⟩
      go_wp2
      go_ret
      exact ⟨rfl, ext_trans ((below_drewN (ext_alloc _ _) k).trans (HB1.out.mono (Nat.le_succ _))) (ext_trans (ext_drew _ k2) hb)⟩
    | true =>
      have HV := Lib.hid hv
      have HJ : Hid (∀ k, pencL k (l ++ m) = pencL k l ++ pencL k m) := Lib.hid (fun k => penc_joins k l m hv)
      have hdl := pdec_len _ l (Nat.le_refl _)
      have hdm := pdec_len _ m (Nat.le_refl _)
      clear hv
      go_enter Try.func9, Try.ntmps9
      go_wp2_with fail
      refine (long_any 200 _ [l, m] _ (litS _ _ [l, m] 2 9 _ (by rw [heap_alloc_at, if_pos (by simp)]; rfl) rfl (by decide)) (by decide) (by decide) (by simp) (by intro s hs; simp at hs; rcases hs with rfl | rfl <;> omega)).mono ?_
      rintro e w1 ⟨rfl, k1, rfl⟩
      rw [HL.out]
      go_wp2_with (refine wpList_toBytes _ (by rfl) 9 27 _ rfl 5 Try.underlying9 Try.underlying27 Try.underlying5 l rfl (by omega) ?_)
      intro b cap w1 h8 hb1 hbe
      have H8 := Lib.hid h8
      have HB1 := Lib.hid hb1
      clear h8 hb1 hbe
      go_wp2_with fail
      refine (rvalid_any _ l _ H8.out (by omega)).mono ?_
      rintro e w2 ⟨rfl, k2, rfl⟩
      rw [HV.out]
      go_wp2_with fail
      refine (low_any a2 7 _ n10 n11 (by decide) (by decide)).mono ?_
      rintro e w' ⟨rfl, rfl⟩
      obtain ⟨l1, l2⟩ := lowN_bd a2 7 (by decide)
      generalize lowN a2 7 = k at *
      have hlm : l.length + m.length ≤ 9223372036854775807 := by omega
      have hpl := pencL_len k l
      have hpm := pencL_len k m
      go_wp2_with fail
      refine (pencode_any (l ++ m) k _ (by simp; omega) (by omega) (by omega)).mono ?_
      rintro e w3 ⟨rfl, hb3⟩
      rw [HJ.out]
      have HB3 := Lib.hid hb3
      clear hb3
      go_wp2_with fail
      refine (pencode_any l k _ (by omega) (by omega) (by omega)).mono ?_
      rintro e w4 ⟨rfl, hb4⟩
      have HB4 := Lib.hid hb4
      clear hb4
      go_wp2_with fail
      refine (pencode_any m k _ (by omega) (by omega) (by omega)).mono ?_
      rintro e w5 ⟨rfl, hb5⟩
      have HB5 := Lib.hid hb5
      clear hb5
      generalize pencL k l = pl at *
      generalize pencL k m = pm at *
      have hpp : pl.length + pm.length ≤ 9223372036854775807 := by omega
      have HBB : Hid (Below w.heap.size w w5) := Lib.hid (ext_trans ((below_drewN (ext_alloc _ _) k1).trans (HB1.out.mono (Nat.le_succ _))) (ext_trans (ext_drew _ k2) (ext_trans HB3.out (ext_trans HB4.out HB5.out))))
      clear HB3 HB4 HB5 HB1 H8
      go_wp2_with fail
      go_loop [8] (fun ti => ∃ i : Nat, l.length - 2 ≤ i ∧ i ≤ l.length ∧ ti = .int .i64 i ∧ Hid (∀ q, q < i → l.length - 2 ≤ q → byt l q ≠ 37)) (fun ti => l.length - (intOf ti).toNat)
      case atStart => exact ⟨l.length - 2, Nat.le_refl _, by omega, by rw [show max (0 : Int) ((l.length : Int) - 2) = ((l.length - 2 : Nat) : Int) by omega], Lib.hid (fun q h1 h2 => by omega)⟩
      case round =>
        obtain ⟨i, hi0, hi, rfl, HN⟩ := hrel
        have b0 := byt_lo l i
        have b1 := byt_hi l i
        by_cases hlt : i < l.length
        · by_cases h37 : byt l i = 37
          · have h2 : (byt l i == 37) = true := by rw [beq_iff_eq]; exact h37
            clear h37
            go_wp2_with fail
            refine (awake4_any _).mono ?_
            rintro e w6 ⟨rfl, hb⟩
            go_wp2
            go_ret
            exact ⟨rfl, ext_trans HBB.out hb⟩
          · have h2 : (byt l i == 37) = false := by rw [beq_eq_false_iff_ne]; exact h37
            have HE := Lib.hid h37
            clear h37
            go_wp2
            go_round
            case rel => exact ⟨i + 1, by omega, by omega, by go_num, Lib.hid (fun q h3 h4 => by
              by_cases hq : q = i
              · subst hq; exact HE.out
              · exact HN.out q (by omega) h4)⟩
            case measure => simp [intOf]; omega
        · obtain rfl : i = l.length := by omega
          have HD : Hid (pdec (l ++ m) = pdec l ++ pdec m) := Lib.hid (pdec_joins _ l m (Nat.le_refl _) HN.out)
          clear hi0 hlt
          have hdd : (pdec l).length + (pdec m).length ≤ 9223372036854775807 := by omega
          have hsz : l.length + m.length ≤ 1000000 := by omega
          have hl6 : l.length ≤ 1000000 := by omega
          have hm6 : m.length ≤ 1000000 := by omega
          have C1 : Hid (∀ w, Calls Try.prog 16 #[.string ⟨(l ++ m).toArray⟩] w fun e w' => ∃ v', e = .returned v' ∧ Own w' w.heap.size 5 v' ((pdec l ++ pdec m).map u8V) ∧ Below w.heap.size w w') := Lib.hid (fun w => by rw [← HD.out]; exact decodeP_any (l ++ m) w (by simp; omega))
          have C2 : Hid (∀ w, Calls Try.prog 16 #[.string ⟨l.toArray⟩] w fun e w' => ∃ v', e = .returned v' ∧ Own w' w.heap.size 5 v' ((pdec l).map u8V) ∧ Below w.heap.size w w') := Lib.hid (fun w => decodeP_any l w hl6)
          have C3 : Hid (∀ w, Calls Try.prog 16 #[.string ⟨m.toArray⟩] w fun e w' => ∃ v', e = .returned v' ∧ Own w' w.heap.size 5 v' ((pdec m).map u8V) ∧ Below w.heap.size w w') := Lib.hid (fun w => decodeP_any m w hm6)
          clear HD hdl hdm hpl hpm hpp
          generalize pdec l = dl at *
          generalize pdec m = dm at *
          have HS := fun (w' : World) (v : Value) (d : List UInt8) (h : Is8 w' v d) => run_toStr (P := Try.prog) w' 27 9 5 Try.underlying27 Try.underlying5 Try.underlying9 v d h
          have HSH := Lib.hid HS
          clear HS
          go_wp2_with fail
          go_region_with (first
            | (go_at_call 16; (with_reducible refine (C1.out _).mono ?_); rintro e x1 ⟨v1, rfl, hown1, hc1⟩; have HX1 := Lib.hid hc1; have G1 := Lib.hid hown1.is8; have g11 := HSH.out x1 v1 _ G1.out; clear hown1 hc1)
            | (go_at_call 16; (with_reducible refine (C2.out _).mono ?_); rintro e x2 ⟨v2, rfl, hown2, hc2⟩; have HX2 := Lib.hid hc2; have G2 := Lib.hid hown2.is8; have g22 := HSH.out x2 v2 _ G2.out; have g12 := HSH.out x2 v1 _ (G1.out.below HX2.out); clear hown2 hc2)
            | (go_at_call 16; (with_reducible refine (C3.out _).mono ?_); rintro e x3 ⟨v3, rfl, hown3, hc3⟩; have HX3 := Lib.hid hc3; have G3 := Lib.hid hown3.is8; have g33 := HSH.out x3 v3 _ G3.out; have g23 := HSH.out x3 v2 _ (G2.out.below HX3.out); have g13 := HSH.out x3 v1 _ ((G1.out.below HX2.out).below HX3.out); clear hown3 hc3)
            | (go_at_call 13; (with_reducible refine (awake4_any _).mono ?_); rintro e x5 ⟨rfl, hb5⟩; have HX5 := Lib.hid hb5; clear hb5))
          all_goals
            go_wp2
            go_ret
            exact ⟨rfl, ext_trans HBB.out (ext_trans (ext_drew _ 1) (ext_trans HX1.out (ext_trans HX2.out (ext_trans HX3.out HX5.out))))⟩
theorem PctJoins_walk (s0 s1 : ByteArray) (a2 : Int) (w : World) (w0 : s0.size ≤ maxLen) (w1 : s1.size ≤ maxLen) (w2 : (Lit.int .i64 a2).wf = true) :
    Calls Try.prog 9 #[.string s0, .string s1, .int .i64 a2] w fun e w' => e = .returned (.bool true) ∧ Below w.heap.size w w' := by
  obtain ⟨n10, n11⟩ := wf64 w2
  rw [str_is s0, str_is s1]
  exact joins_walk _ _ a2 w (by unfold maxLen at w0; rw [Array.length_toList]; exact w0) (by unfold maxLen at w1; rw [Array.length_toList]; exact w1) n10 n11
end Go.Proofs.Ytpaklakjmmbboaa
