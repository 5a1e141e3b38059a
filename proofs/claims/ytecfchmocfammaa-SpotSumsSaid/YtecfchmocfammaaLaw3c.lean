/- The walks of SpotSums, SpotWidths. -/
import Derived.Test.YtecfchmocfammaaLaw3a
set_option linter.unusedVariables false
set_option linter.unusedSimpArgs false
namespace Go.Proofs.Ytecfchmocfammaa
open Go.RowKit

theorem rep_product {d e : Ieee.Datum} {m n : Nat} (hd : Rep d m) (he : Rep e n) (hm : m ≠ 0) (h : m * n < 2 ^ 53) : (d.product e).map Ieee.double.write = some (rungN (m * n)) := by
  obtain ⟨t, ht, ht2, rfl⟩ := hd
  obtain ⟨u, hu, hu2, rfl⟩ := he
  have ht3 := ht2 hm
  show some (Ieee.double.nearest (false ^^ false) (m * 2 ^ t * (n * 2 ^ u)) (-(t : Int) + -(u : Int))) = _
  congr 1
  by_cases hn : n = 0
  · subst hn
    rw [Nat.zero_mul, Nat.mul_zero]
    unfold Ieee.Format.nearest rungN
    rw [if_pos rfl, Nat.mul_zero, if_pos rfl]; rfl
  · have hu3 := hu2 hn
    have e1 : m * 2 ^ t * (n * 2 ^ u) = m * n * 2 ^ (t + u) := by rw [Nat.pow_add]; simp only [Nat.mul_assoc, Nat.mul_left_comm]
    have e2 : -(t : Int) + -(u : Int) = -((t + u : Nat) : Int) := by push_cast; omega
    rw [e1, e2]
    exact nearest_eq (m * n) (t + u) h (by omega)
theorem F_two (n : Int) (h0 : 0 ≤ n) (h1 : n < 4503599627370496) : FloatKind.f64.format.mul (F 2) (F n) = some (F (2 * n)) := by
  obtain ⟨b, rfl⟩ := Int.eq_ofNat_of_zero_le h0
  have := rep_product (F_rep 2 (by decide)) (F_rep b (by omega)) (by decide) (by omega)
  rw [← F_rung (2 * b) (by omega)] at this
  exact this
theorem leq_F (m n : Int) (h0 : 0 ≤ m) (h1 : m ≤ n) (h2 : n < 9007199254740992) : FloatKind.f64.format.order (F m) (F n) = some .lt ∨ FloatKind.f64.format.order (F m) (F n) = some .eq := by
  rw [F_order m n h0 (by omega) (by omega) h2, Int.compare_eq_ite_lt]
  rcases Int.lt_or_le m n with h | h
  · left; rw [if_pos h]
  · right; rw [if_neg (by omega), if_neg (by omega)]
theorem cp_le_uu (ls : List (List UInt8)) : cpL ls ≤ uuL ls ∧ uuL ls ≤ 2 * cpL ls := by
  induction ls with
  | nil => simp [cpL, uuL]
  | cons l t ih =>
    have h2 := unL_bd (decL l)
    have e1 : cpL (l :: t) = (decL l).length + cpL t := by simp [cpL]
    have e2 : uuL (l :: t) = unL (decL l) + uuL t := by simp [uuL]
    omega
theorem long_len {n : Nat} {ls : List (List UInt8)} (h : longB n ls = false) : lenL ls ≤ n := by
  by_cases hne : ls = []
  · subst hne; simp [lenL]
  · have h1 := longB_tot ls n h hne
    have h2 : ∀ ls : List (List UInt8), lenL ls ≤ totL ls := by
      intro ls
      induction ls with
      | nil => simp [lenL]
      | cons x t ih =>
        have e1 : lenL (x :: t) = x.length + lenL t := by simp [lenL]
        have e2 : totL (x :: t) = x.length + 1 + totL t := by simp [totL]
        omega
    have := h2 ls
    omega

set_option maxRecDepth 100000 in
set_option maxHeartbeats 4000000 in
theorem sums_walk (a0 : Option Addr) (cap0 : Nat) (ks : List (List UInt8)) (w : World) (hv : IsStr w (.slice a0 ks.length cap0) ks) (hks : ∀ k ∈ ks, k.length ≤ 9223372036854775807) :
    Calls Try.prog 4 #[.slice a0 ks.length cap0] w fun e w' => e = .returned (.bool true) ∧ Below w.heap.size w w' := by
  have HV := Lib.hid hv
  have HMS := Lib.hid hks
  obtain ⟨a', c', hv', q1, q2, q3, q4⟩ := hv
  injection hv' with e1 e2 e3
  subst e1; subst e3
  unfold maxLen at q2
  have HC : Hid (0 < ks.length → ∃ b off, a0 = some ⟨b, off, none⟩ ∧ Cells w b off ks.length (strAt ks)) := Lib.hid q4
  clear hks q3 q4 e2
  by_cases h20 : 20 < ks.length
  · go_enter Try.func4, Try.ntmps4
    go_wp2_with fail
    refine (awake3_any _).mono ?_
    rintro e w1 ⟨rfl, hb⟩
    go_wp2
    go_ret
    exact ⟨rfl, hb⟩
  · have hd0 : decide ((20 : Int) < (ks.length : Int)) = false := by simp; omega
    cases hl : longB 300 ks with
    | true =>
      have HL := Lib.hid hl
      clear hl
      go_enter Try.func4, Try.ntmps4
      go_wp2_with fail
      refine (long_any 300 _ ks _ HV.out (by decide) (by decide) (by omega) (fun s h => by have := HMS.out s h; omega)).mono ?_
      rintro e w1 ⟨rfl, k, rfl⟩
      rw [HL.out]
      go_wp2_with fail
      refine (awake3_any _).mono ?_
      rintro e w1 ⟨rfl, hb⟩
      go_wp2
      go_ret
      exact ⟨rfl, ext_trans (ext_drew _ k) hb⟩
    | false =>
      have hlen := long_len (n := 300) hl
      have HL := Lib.hid hl
      clear hl
      have hwb := wide_bd ks
      have hcu := cp_le_uu ks
      have HWB := Lib.hid (fun i => wide_bd (ks.take i))
      have HLT := Lib.hid (lenL_take ks)
      have o0 := o0_eq
      go_enter Try.func4, Try.ntmps4
      go_wp2_with fail
      refine (long_any 300 _ ks _ HV.out (by decide) (by decide) (by omega) (fun s h => by have := HMS.out s h; omega)).mono ?_
      rintro e w1 ⟨rfl, k, rfl⟩
      rw [HL.out]
      go_wp2_with fail
      go_loopw [3, 4] (fun ts ti wr => ∃ (i : Nat), i ≤ ks.length ∧ ti = .int .i64 i ∧ ts = .complex .f64 (F (cpL (ks.take i))) (F (uuL (ks.take i))) ∧ Below w.heap.size w wr) (fun _ ti _ => ks.length - (intOf ti).toNat)
      case atStart => exact ⟨0, by omega, rfl, cpx_eq F0_eq.symm F0_eq.symm, ext_drew w k⟩
      case round =>
        obtain ⟨i, hi, rfl, rfl, hbel⟩ := hrel
        by_cases hlt : i < ks.length
        · obtain ⟨b, off, rfl, hc⟩ := HC.out (by omega)
          have hcell : wr.cell? ⟨b, off + i, none⟩ = some (.string ⟨(ks.getD i []).toArray⟩) := (hc.below hbel (hc.lt (by omega))).at i hlt
          have HT1 := Lib.hid (cpL_take ks i hlt)
          have HT2 := Lib.hid (uuL_take ks i hlt)
          obtain ⟨hw1, hw2⟩ := HWB.out i
          have hll := HLT.out i hlt
          clear hc HC
          obtain ⟨s, hs⟩ : ∃ s, ks.getD i [] = s := ⟨_, rfl⟩
          rw [hs] at hcell HT1 HT2 hll
          clear hs
          have hds := decL_len _ s (Nat.le_refl _)
          have hus := (unL_bd (decL s)).2
          have C4 : Hid (∀ v w, IsStr w v [s] → Calls Try.prog 12 #[v] w fun e w' => e = .returned (.complex .f64 (F (decL s).length) (F (unL (decL s)))) ∧ Below w.heap.size w w') := Lib.hid (fun v w hv => by
            have := Wide_any v [s] w hv (by simp) (by rw [lenL_one]; omega)
            rw [cpL_one, uuL_one] at this; exact this)
          have e1 : ∀ w, (binOp .add 26 (.complex .f64 (F (cpL (ks.take i))) (F (uuL (ks.take i)))) (.complex .f64 (F (decL s).length) (F (unL (decL s))))).run Try.prog w = .ok (.complex .f64 (F ((cpL (ks.take i) : Int) + (decL s).length)) (F ((uuL (ks.take i) : Int) + unL (decL s)))) w := fun w =>
            run_cadd Try.prog 26 _ _ _ _ (by omega) (by omega) (by omega) w
          go_wp2_with fail
          refine (C4.out _ _ (litS _ _ [s] 1 9 (0, 0) (by rw [heap_alloc_at, if_pos (by simp)]; rfl) rfl (by decide))).mono ?_
          rintro e w4 ⟨rfl, hb4⟩
          have HB4 := Lib.hid hb4
          clear hb4
          go_wp2_with fail
          exact ⟨⟨i + 1, by omega, by go_num, cpx_eq (by rw [HT1.out]; push_cast; rfl) (by rw [HT2.out]; push_cast; rfl), ext_trans (ext_trans hbel (ext_alloc _ _)) HB4.out⟩, by simp [intOf]; omega⟩
        · obtain rfl : i = ks.length := by omega
          rw [List.take_length]
          have HV1 := Lib.hid (HV.out.below hbel)
          have CW : Hid (∀ v w, IsStr w v ks → Calls Try.prog 12 #[v] w fun e w' => e = .returned (.complex .f64 (F (cpL ks)) (F (uuL ks))) ∧ Below w.heap.size w w') := Lib.hid (fun v w hv => Wide_any v ks w hv (by omega) (by omega))
          obtain ⟨p, hp⟩ : ∃ p : Int, (cpL ks : Int) = p := ⟨_, rfl⟩
          obtain ⟨q, hq⟩ : ∃ q : Int, (uuL ks : Int) = q := ⟨_, rfl⟩
          have p0 : 0 ≤ p := by omega
          have p1 : p ≤ 1000 := by omega
          have q0 : p ≤ q := by omega
          have q1 : q ≤ 2 * p := by omega
          rw [hp, hq] at CW
          rw [hp, hq]
          have op := F_self p (by omega) (by omega)
          have oq := F_self q (by omega) (by omega)
          have l1 := leq_F p q p0 q0 (by omega)
          have l2 := leq_F q (2 * p) (by omega) q1 (by omega)
          have em : ∀ w, (binOp .mul 34 (.float .f64 4611686018427387904) (.float .f64 (F p))).run Try.prog w = .ok (.float .f64 (F (2 * p))) w := fun w => by
            rw [← F2_eq]; exact run_float_arith w .mul _ .f64 _ _ _ (F_two p p0 (by omega))
          have CE : Hid (∀ w, Calls Try.prog 12 #[.slice none 0 0] w fun e w' => e = .returned (.complex .f64 0 0) ∧ Below w.heap.size w w') := Lib.hid (fun w => by
            have := Wide_any (.slice none 0 0) [] w ⟨none, 0, rfl, Nat.le_refl _, by unfold maxLen; omega, fun _ => rfl, fun h => by simp at h⟩ (by decide) (by decide)
            rw [show F (cpL []) = 0 from F0_eq, show F (uuL []) = 0 from F0_eq] at this; exact this)
          clear hp hq hwb hcu
          generalize F (2 * p) = f2 at *
          generalize F p = fp at *
          generalize F q = fq at *
          rcases l1 with l1 | l1 <;> rcases l2 with l2 | l2
          all_goals
            go_wp2_with fail
            refine (CW.out _ _ HV1.out).mono ?_
            rintro e w4 ⟨rfl, hb4⟩
            have HB4 := Lib.hid hb4
            clear hb4
            go_wp2_with fail
            refine (CE.out _).mono ?_
            rintro e w5 ⟨rfl, hb5⟩
            have HB5 := Lib.hid hb5
            clear hb5
            go_wp2_with fail
            refine (awake3_any _).mono ?_
            rintro e w8 ⟨rfl, hb⟩
            go_wp2
            go_ret
            exact ⟨rfl, ext_trans (ext_trans (ext_trans hbel HB4.out) HB5.out) hb⟩
theorem SpotSums_walk (a0 : Option Addr) (len0 cap0 : Nat) (z0 : List (List UInt8)) (w : World) (w0 : IsRowS w a0 len0 cap0 z0) :
    Calls Try.prog 4 #[.slice a0 len0 cap0] w fun e w' => e = .returned (.bool true) ∧ Below w.heap.size w w' := by
  obtain ⟨rfl, h2, h3⟩ := w0
  exact sums_walk a0 cap0 z0 w h2 (fun k hk => by have := h3 k hk; unfold maxLen at this; omega)
end Go.Proofs.Ytecfchmocfammaa
