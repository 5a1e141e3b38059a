/- The walks of SpotGoes, SpotSums, SpotWidths. -/
import Derived.Test.YtecfchmocfammaaLaw3a
set_option linter.unusedVariables false
set_option linter.unusedSimpArgs false
namespace Go.Proofs.Ytecfchmocfammaa
open Go.RowKit

theorem posL_joins (p : Int × Int) (a b : List UInt8) (h : validL a = true) : posL p (decL (a ++ b)) = posL (posL p (decL a)) (decL b) := by
  rw [(dec_append _ a b (Nat.le_refl _) h).1, posL_append]

set_option maxRecDepth 100000 in
set_option maxHeartbeats 4000000 in
theorem goes_walk (x0 y0 : Int) (l m : List UInt8) (w : World) (hm9 : l.length ≤ 9223372036854775807) (hm8 : m.length ≤ 9223372036854775807) (n00 : -9223372036854775808 ≤ x0) (n01 : x0 ≤ 9223372036854775807) (n10 : -9223372036854775808 ≤ y0) (n11 : y0 ≤ 9223372036854775807) :
    Calls Try.prog 5 #[.int .i64 x0, .int .i64 y0, .string ⟨l.toArray⟩, .string ⟨m.toArray⟩] w fun e w' => e = .returned (.bool true) ∧ Below w.heap.size w w' := by
  cases hl : longB 200 [l, m] with
  | true =>
    have HL := Lib.hid hl
    clear hl
    go_enter Try.func5, Try.ntmps5
    go_wp2_with fail
    refine (long_any 200 _ [l, m] _ (litS _ _ [l, m] 2 9 _ (by rw [heap_alloc_at, if_pos (by simp)]; rfl) rfl (by decide)) (by decide) (by decide) (by simp) (by intro s hs; simp at hs; rcases hs with rfl | rfl <;> omega)).mono ?_
    rintro e w1 ⟨rfl, k, rfl⟩
    rw [HL.out]
    go_wp2_with fail
    refine (awake3_any _).mono ?_
    rintro e w1 ⟨rfl, hb⟩
    go_wp2
    go_ret
    exact ⟨rfl, ext_trans (below_drewN (ext_alloc _ _) k) hb⟩
  | false =>
    have hT := longB_tot [l, m] 200 hl (by simp)
    have hT2 : l.length + m.length ≤ 200 := by simp [totL] at hT; omega
    have HL := Lib.hid hl
    clear hl hT
    cases hv : validL l with
    | false =>
      have HV := Lib.hid hv
      clear hv
      go_enter Try.func5, Try.ntmps5
      go_wp2_with fail
      refine (long_any 200 _ [l, m] _ (litS _ _ [l, m] 2 9 _ (by rw [heap_alloc_at, if_pos (by simp)]; rfl) rfl (by decide)) (by decide) (by decide) (by simp) (by intro s hs; simp at hs; rcases hs with rfl | rfl <;> omega)).mono ?_
      rintro e w1 ⟨rfl, k, rfl⟩
      rw [HL.out]
      go_wp2_with (refine wpList_toBytes _ (by rfl) 9 37 _ rfl 5 Try.underlying9 Try.underlying37 Try.underlying5 l rfl (by omega) ?_)
      intro b cap w1 h8 hb1 hbe
      have H8 := Lib.hid h8
      have HB1 := Lib.hid hb1
      clear h8 hb1 hbe
      go_wp2_with fail
      refine (rvalid_any _ l _ H8.out (by omega)).mono ?_
      rintro e w2 ⟨rfl, k2, rfl⟩
      rw [HV.out]
      go_wp2_with fail
      refine (awake3_any _).mono ?_
      rintro e w3 ⟨rfl, hb⟩
      go_wp2
      go_ret
      exact ⟨rfl, ext_trans ((below_drewN (ext_alloc _ _) k).trans (HB1.out.mono (Nat.le_succ _))) (ext_trans (ext_drew _ k2) hb)⟩
    | true =>
      have HV := Lib.hid hv
      have HJ := Lib.hid (posL_joins · l m hv)
      clear hv
      have hlm : l.length + m.length ≤ 9223372036854775807 := by omega
      obtain ⟨c1, c2⟩ := lowN_bd x0 549755813888 (by decide)
      obtain ⟨c3, c4⟩ := lowN_bd y0 549755813888 (by decide)
      have LX := Lib.hid (low_any x0 549755813888 · n00 n01 (by decide) (by decide))
      have LY := Lib.hid (low_any y0 549755813888 · n10 n11 (by decide) (by decide))
      generalize lowN x0 549755813888 = a at *
      generalize lowN y0 549755813888 = b at *
      have a2 : a ≤ 549755813887 := by omega
      have b2 : b ≤ 549755813887 := by omega
      clear c2 c4
      obtain ⟨a', ha'⟩ : ∃ a' : Int, 1 + a = a' := ⟨_, rfl⟩
      obtain ⟨b', hb'⟩ : ∃ b' : Int, 1 + b = b' := ⟨_, rfl⟩
      have A1 : 1 ≤ a' := by omega
      have A2 : a' ≤ 549755813888 := by omega
      have B1 : 1 ≤ b' := by omega
      have B2 : b' ≤ 549755813888 := by omega
      have hdl := decL_len _ l (Nat.le_refl _)
      have hdm := decL_len _ m (Nat.le_refl _)
      have P1 := posL_bd (decL l) (a', b') A1 B1
      have P2 := posL_bd (decL m) (posL (a', b') (decL l)) (by omega) (by omega)
      have CN := Lib.hid (lnumber_any a' b' · (by omega) (by omega) (by omega) (by omega))
      have CR : Hid (∀ w, Calls Try.prog 19 #[.int .i64 a', .int .i64 b', .string ⟨(l ++ m).toArray⟩] w fun e w' => e = .returned (.tuple #[.int .i64 (posL (posL (a', b') (decL l)) (decL m)).1, .int .i64 (posL (posL (a', b') (decL l)) (decL m)).2]) ∧ Below w.heap.size w w') := Lib.hid (fun w => by
        rw [← HJ.out]; exact rBehind_any a' b' (l ++ m) w (by simp; omega) A1 B1 (by omega) (by omega))
      have CB : Hid (∀ w, Calls Try.prog 20 #[.complex .f64 (F a') (F b'), .string ⟨(l ++ m).toArray⟩] w fun e w' => e = .returned (.complex .f64 (F (posL (posL (a', b') (decL l)) (decL m)).1) (F (posL (posL (a', b') (decL l)) (decL m)).2)) ∧ Below w.heap.size w w') := Lib.hid (fun w => by
        rw [← HJ.out]; exact Behind_any a' b' (l ++ m) w (by simp; omega) A1 B1 (by omega) (by omega))
      have CL := Lib.hid (Behind_any a' b' l · (by omega) A1 B1 (by omega) (by omega))
      have CM := Lib.hid (Behind_any (posL (a', b') (decL l)).1 (posL (a', b') (decL l)).2 m · (by omega) (by omega) (by omega) (by simp only at P1; omega) (by simp only at P1; omega))
      have CE : Hid (∀ w, Calls Try.prog 20 #[.complex .f64 (F a') (F b'), .string ⟨#[]⟩] w fun e w' => e = .returned (.complex .f64 (F a') (F b')) ∧ Below w.heap.size w w') := Lib.hid (fun w => by
        have := Behind_any a' b' [] w (by decide) A1 B1 (by omega) (by omega)
        rw [show posL (a', b') (decL []) = (a', b') from rfl] at this; exact this)
      obtain ⟨x, hx⟩ : ∃ x, (posL (posL (a', b') (decL l)) (decL m)).1 = x := ⟨_, rfl⟩
      obtain ⟨y, hy⟩ : ∃ y, (posL (posL (a', b') (decL l)) (decL m)).2 = y := ⟨_, rfl⟩
      rw [hx, hy] at CR CB P2
      have hx0 : 0 ≤ x := by omega
      have hy0 : 0 ≤ y := by omega
      have hx1 : x ≤ 549755814888 := by simp only at P1; omega
      have hy1 : y ≤ 549755814888 := by simp only at P1; omega
      have CM2 : Hid (∀ w, Calls Try.prog 20 #[.complex .f64 (F (posL (a', b') (decL l)).1) (F (posL (a', b') (decL l)).2), .string ⟨m.toArray⟩] w fun e w' => e = .returned (.complex .f64 (F x) (F y)) ∧ Below w.heap.size w w') := Lib.hid (fun w => by rw [← hx, ← hy]; exact CM.out w)
      have CN2 := Lib.hid (lnumber_any x y · (by omega) (by omega) (by omega) (by omega))
      have ox := F_self x hx0 (by omega)
      have oy := F_self y hy0 (by omega)
      have oa := F_self a' (by omega) (by omega)
      have ob := F_self b' (by omega) (by omega)
      have HA := Lib.hid ha'
      have HB := Lib.hid hb'
      clear hx hy CM P1 P2 HJ ha' hb' hdl hdm
      generalize F (posL (a', b') (decL l)).1 = f1 at *
      generalize F (posL (a', b') (decL l)).2 = f2 at *
      generalize F x = fx at *
      generalize F y = fy at *
      generalize F a' = fa at *
      generalize F b' = fb at *
      go_enter Try.func5, Try.ntmps5
      go_wp2_with fail
      refine (long_any 200 _ [l, m] _ (litS _ _ [l, m] 2 9 _ (by rw [heap_alloc_at, if_pos (by simp)]; rfl) rfl (by decide)) (by decide) (by decide) (by simp) (by intro s hs; simp at hs; rcases hs with rfl | rfl <;> omega)).mono ?_
      rintro e w1 ⟨rfl, k1, rfl⟩
      rw [HL.out]
      go_wp2_with (refine wpList_toBytes _ (by rfl) 9 37 _ rfl 5 Try.underlying9 Try.underlying37 Try.underlying5 l rfl (by omega) ?_)
      intro b cap w1 h8 hb1 hbe
      have H8 := Lib.hid h8
      have HBB1 := Lib.hid hb1
      clear h8 hb1 hbe
      go_wp2_with fail
      refine (rvalid_any _ l _ H8.out (by omega)).mono ?_
      rintro e w2 ⟨rfl, k2, rfl⟩
      rw [HV.out]
      go_wp2_with fail
      refine (LX.out _).mono ?_
      rintro e w' ⟨rfl, rfl⟩
      go_wp2_with fail
      refine (LY.out _).mono ?_
      rintro e w' ⟨rfl, rfl⟩
      go_wp2_with fail
      rw [HA.out, HB.out]
      refine (CN.out _).mono ?_
      rintro e w' ⟨rfl, rfl⟩
      go_wp2_with fail
      refine (LX.out _).mono ?_
      rintro e w' ⟨rfl, rfl⟩
      go_wp2_with fail
      refine (LY.out _).mono ?_
      rintro e w' ⟨rfl, rfl⟩
      go_wp2_with fail
      rw [HA.out, HB.out]
      refine (CR.out _).mono ?_
      rintro e w3 ⟨rfl, hb3⟩
      have HB3 := Lib.hid hb3
      clear hb3
      go_wp2_with fail
      refine (CB.out _).mono ?_
      rintro e w4 ⟨rfl, hb4⟩
      have HB4 := Lib.hid hb4
      clear hb4
      go_wp2_with fail
      refine (CN2.out _).mono ?_
      rintro e w' ⟨rfl, rfl⟩
      go_wp2_with fail
      refine (CL.out _).mono ?_
      rintro e w5 ⟨rfl, hb5⟩
      have HB5 := Lib.hid hb5
      clear hb5
      go_wp2_with fail
      refine (CM2.out _).mono ?_
      rintro e w6 ⟨rfl, hb6⟩
      have HB6 := Lib.hid hb6
      clear hb6
      go_wp2_with fail
      refine (CE.out _).mono ?_
      rintro e w7 ⟨rfl, hb7⟩
      have HB7 := Lib.hid hb7
      clear hb7
      go_wp2_with fail
      refine (awake3_any _).mono ?_
      rintro e w8 ⟨rfl, hb⟩
      go_wp2
      go_ret
      exact ⟨rfl, ext_trans ((below_drewN (ext_alloc _ _) k1).trans (HBB1.out.mono (Nat.le_succ _))) (ext_trans (ext_drew _ k2) (ext_trans HB3.out (ext_trans HB4.out (ext_trans HB5.out (ext_trans HB6.out (ext_trans HB7.out hb))))))⟩
theorem SpotGoes_walk (a0 a1 : Int) (s0 s1 : ByteArray) (w : World) (w0 : (Lit.int .i64 a0).wf = true) (w1 : (Lit.int .i64 a1).wf = true) (w2 : s0.size ≤ maxLen) (w3 : s1.size ≤ maxLen) :
    Calls Try.prog 5 #[.int .i64 a0, .int .i64 a1, .string s0, .string s1] w fun e w' => e = .returned (.bool true) ∧ Below w.heap.size w w' := by
  obtain ⟨n00, n01⟩ := wf64 w0
  obtain ⟨n10, n11⟩ := wf64 w1
  rw [str_is s0, str_is s1]
  exact goes_walk a0 a1 _ _ w (str_len w2) (str_len w3) n00 n01 n10 n11
end Go.Proofs.Ytecfchmocfammaa
