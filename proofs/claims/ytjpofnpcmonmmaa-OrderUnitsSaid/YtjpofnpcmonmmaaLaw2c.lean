/- The walk of OrderUnits. -/
import Derived.Test.YtjpofnpcmonmmaaLaw2a
set_option linter.unusedVariables false
set_option linter.unusedSimpArgs false
namespace Go.Proofs.Ytjpofnpcmonmmaa
open Go.RowKit

def Stp (A B : List Int) (i : Nat) (wt : Int) : Prop := (wt = 0 ∧ i ≤ A.length ∧ i ≤ B.length ∧ cmpL A B = cmpL (A.drop i) (B.drop i)) ∨ (wt ≠ 0 ∧ wt = cmpL A B)
theorem stp_lt {A B : List Int} {i : Nat} (ha : i < A.length) (hb : i < B.length) (h : cmpL A B = cmpL (A.drop i) (B.drop i)) (hl : A.getD i 0 < B.getD i 0) : Stp A B (i + 1) (-1) :=
  .inr ⟨by decide, by rw [h, cmpL_step A B i ha hb, if_neg (by omega)]; unfold cmpI; rw [if_pos hl]⟩
theorem stp_gt {A B : List Int} {i : Nat} (ha : i < A.length) (hb : i < B.length) (h : cmpL A B = cmpL (A.drop i) (B.drop i)) (hl : B.getD i 0 < A.getD i 0) : Stp A B (i + 1) 1 :=
  .inr ⟨by decide, by rw [h, cmpL_step A B i ha hb, if_neg (by omega)]; unfold cmpI; rw [if_neg (by omega), if_pos hl]⟩
theorem stp_eq {A B : List Int} {i : Nat} (ha : i < A.length) (hb : i < B.length) (h : cmpL A B = cmpL (A.drop i) (B.drop i)) (hl : A.getD i 0 = B.getD i 0) : Stp A B (i + 1) 0 :=
  .inl ⟨rfl, by omega, by omega, by rw [h, cmpL_step A B i ha hb, if_pos hl]⟩
theorem stp_a {A B : List Int} {i : Nat} (ha : i = A.length) (hb : i < B.length) (h : cmpL A B = cmpL (A.drop i) (B.drop i)) : Stp A B (i + 1) (-1) :=
  .inr ⟨by decide, by rw [h, cmpL_end A B i (by omega) (by omega) (.inl ha)]; unfold cmpI; rw [if_pos (by omega)]⟩
theorem stp_b {A B : List Int} {i : Nat} (ha : i < A.length) (hb : i = B.length) (h : cmpL A B = cmpL (A.drop i) (B.drop i)) : Stp A B (i + 1) 1 :=
  .inr ⟨by decide, by rw [h, cmpL_end A B i (by omega) (by omega) (.inr hb)]; unfold cmpI; rw [if_neg (by omega), if_pos (by omega)]⟩
theorem stp_end {A B : List Int} {i : Nat} (ha : i = A.length) (hb : i = B.length) (h : cmpL A B = cmpL (A.drop i) (B.drop i)) : cmpL A B = 0 := by
  rw [h, cmpL_end A B i (by omega) (by omega) (.inl ha), show (A.length : Int) = B.length from by omega, cmpI_self]

set_option maxRecDepth 100000 in
set_option maxHeartbeats 4000000 in
theorem units_walk (a b : List UInt8) (w : World) (ha : a.length ≤ 9223372036854775807) (hb : b.length ≤ 9223372036854775807) :
    Calls Try.prog 9 #[.string ⟨a.toArray⟩, .string ⟨b.toArray⟩] w fun e w' => e = .returned (.bool true) ∧ Below w.heap.size w w' := by
  cases hl : longB 200 [a, b] with
  | true =>
    have HL := Lib.hid hl
    clear hl
    go_enter Try.func9, Try.ntmps9
    go_wp2_with fail
    refine (long_any 200 _ [a, b] _ (litS _ _ [a, b] 2 9 _ (by rw [heap_alloc_at, if_pos (by simp)]; rfl) rfl (by decide)) (by decide) (by decide) (by simp) (by intro s hs; simp at hs; rcases hs with rfl | rfl <;> omega)).mono ?_
    rintro e w1 ⟨rfl, k, rfl⟩
    rw [HL.out]
    go_wp2_with fail
    refine (awake2_any _).mono ?_
    rintro e w1 ⟨rfl, hb⟩
    go_wp2
    go_ret
    exact ⟨rfl, ext_trans (below_drewN (ext_alloc _ _) k) hb⟩
  | false =>
    have hT := longB_tot [a, b] 200 hl (by simp)
    have hT2 : a.length + b.length ≤ 200 := by simp [totL] at hT; omega
    have HL := Lib.hid hl
    clear hl hT
    have hlA := unitsS_len a
    have hlB := unitsS_len b
    have C1 := Lib.hid (oUnits_any a · (by omega))
    have C2 := Lib.hid (oUnits_any b · (by omega))
    have C3 : Hid (∀ w, Calls Try.prog 15 #[.string ⟨a.toArray⟩, .string ⟨b.toArray⟩] w fun e w' => e = .returned (.int .i64 (cmpL (unitsL (decL a)) (unitsL (decL b)))) ∧ Laid w w') := Lib.hid (fun w => Compare_any a b w (by omega) (by omega))
    generalize unitsL (decL a) = A at *
    generalize unitsL (decL b) = B at *
    go_enter Try.func9, Try.ntmps9
    go_wp2_with fail
    refine (long_any 200 _ [a, b] _ (litS _ _ [a, b] 2 9 _ (by rw [heap_alloc_at, if_pos (by simp)]; rfl) rfl (by decide)) (by decide) (by decide) (by simp) (by intro s hs; simp at hs; rcases hs with rfl | rfl <;> omega)).mono ?_
    rintro e w1 ⟨rfl, k, rfl⟩
    rw [HL.out]
    go_wp2_with fail
    refine (C1.out _).mono ?_
    rintro e w2 ⟨v2, rfl, ho2, hb2⟩
    have HB2 := Lib.hid hb2
    go_wp2_with fail
    refine (C2.out _).mono ?_
    rintro e w4 ⟨v3, rfl, ho3, hb3⟩
    have HB4 := Lib.hid (ext_trans (below_drewN (ext_alloc _ _) k) (ext_trans HB2.out hb3))
    have hsa := ho2.is16.below hb3
    have hsb := ho3.is16
    clear ho2 ho3 hb2 hb3 HB2
    obtain ⟨pa, ca, rfl, qa1, qa2, -, qa3⟩ := hsa
    obtain ⟨pb, cb, rfl, qb1, qb2, -, qb3⟩ := hsb
    unfold maxLen at qa2 qb2
    have HCA : Hid (0 < A.length → ∃ b off, pa = some ⟨b, off, none⟩ ∧ Cells w4 b off A.length (u16At A)) := Lib.hid qa3
    have HCB : Hid (0 < B.length → ∃ b off, pb = some ⟨b, off, none⟩ ∧ Cells w4 b off B.length (u16At B)) := Lib.hid qb3
    clear qa3 qb3
    go_wp2_with fail
    go_loopw [7, 8, 34, 39, 44, 54] (fun tw ti t1 t2 t3 t4 wr => ∃ (i : Nat) (wt : Int), i ≤ A.length + 1 ∧ ti = .int .i64 i ∧ tw = .int .i64 wt ∧ Hid (Stp A B i wt) ∧ ∃ n, wr = w4.drewN n) (fun _ ti _ _ _ _ _ => A.length + 2 - (intOf ti).toNat)
    case atStart => exact ⟨0, 0, by omega, rfl, rfl, Lib.hid (.inl ⟨rfl, by omega, by omega, rfl⟩), 0, rfl⟩
    case round =>
      obtain ⟨i, wt, hi, rfl, rfl, HS, n, rfl⟩ := hrel
      rcases HS.out with ⟨rfl, hia, hib, hE⟩ | ⟨hw, hwt⟩
      · have HE := Lib.hid hE
        clear hE HS
        by_cases hx : i < A.length
        · have hxI : (i : Int) < (A.length : Int) := by omega
          by_cases hy : i < B.length
          · have hyI : (i : Int) < (B.length : Int) := by omega
            obtain ⟨b, off, rfl, hc⟩ := HCA.out (by omega)
            obtain ⟨b', off', rfl, hc'⟩ := HCB.out (by omega)
            have h1 : w4.cell? ⟨b, off + i, none⟩ = some (.int .u16 (A.getD i 0)) := hc.at i hx
            have h2 : w4.cell? ⟨b', off' + i, none⟩ = some (.int .u16 (B.getD i 0)) := hc'.at i hy
            have LT := Lib.hid (stp_lt hx hy HE.out)
            have GT := Lib.hid (stp_gt hx hy HE.out)
            have EQ := Lib.hid (stp_eq hx hy HE.out)
            clear hc hc' HCA HCB
            obtain ⟨x, hx'⟩ : ∃ x, A.getD i 0 = x := ⟨_, rfl⟩
            obtain ⟨y, hy'⟩ : ∃ y, B.getD i 0 = y := ⟨_, rfl⟩
            rw [hx'] at h1 LT GT EQ
            rw [hy'] at h2 LT GT EQ
            clear hx' hy'
            rcases Int.lt_trichotomy x y with hxy | hxy | hxy
            · have H1 := Lib.hid (LT.out hxy)
              go_wp2_with fail
              go_quiet (fail)
              go_wp2_with fail
              exact ⟨⟨i + 1, _, by omega, by go_num, rfl, H1, _, by first | rfl | exact drewN2 _ _ _⟩, by simp [intOf]; omega⟩
            · have H1 := Lib.hid (EQ.out hxy)
              have g1 : ¬ x < y := by omega
              have g2 : ¬ y < x := by omega
              clear hxy
              go_wp2_with fail
              go_quiet (fail)
              go_wp2_with fail
              go_quiet (fail)
              go_wp2_with fail
              exact ⟨⟨i + 1, _, by omega, by go_num, rfl, H1, _, by first | rfl | exact drewN2 _ _ _ | (rw [drewN2]; first | rfl | exact drewN2 _ _ _)⟩, by simp [intOf]; omega⟩
            · have H1 := Lib.hid (GT.out hxy)
              have g1 : ¬ x < y := by omega
              go_wp2_with fail
              go_quiet (fail)
              go_wp2_with fail
              go_quiet (fail)
              go_wp2_with fail
              exact ⟨⟨i + 1, _, by omega, by go_num, rfl, H1, _, by first | rfl | exact drewN2 _ _ _ | (rw [drewN2]; first | rfl | exact drewN2 _ _ _)⟩, by simp [intOf]; omega⟩
          · have hyI : ¬ (i : Int) < (B.length : Int) := by omega
            have H1 := Lib.hid (stp_b hx (by omega) HE.out)
            go_wp2_with fail
            exact ⟨⟨i + 1, _, by omega, by go_num, rfl, H1, _, rfl⟩, by simp [intOf]; omega⟩
        · have hxI : ¬ (i : Int) < (A.length : Int) := by omega
          by_cases hy : i < B.length
          · have hyI : (i : Int) < (B.length : Int) := by omega
            have H1 := Lib.hid (stp_a (by omega) hy HE.out)
            go_wp2_with fail
            exact ⟨⟨i + 1, _, by omega, by go_num, rfl, H1, _, rfl⟩, by simp [intOf]; omega⟩
          · have hyI : ¬ (i : Int) < (B.length : Int) := by omega
            have hz := stp_end (by omega) (by omega) HE.out
            rw [hz] at C3
            clear hz
            go_wp2_with fail
            refine (C3.out _).mono ?_
            rintro e w5 ⟨rfl, hl5⟩
            have HB5 := Lib.hid hl5.1
            clear hl5
            go_wp2_with fail
            refine (awake2_any _).mono ?_
            rintro e w6 ⟨rfl, hb⟩
            go_wp2
            go_ret
            exact ⟨rfl, ext_trans HB4.out (ext_trans (ext_drew _ n) (ext_trans HB5.out hb))⟩
      · rw [← hwt] at C3
        have e0 : (wt == 0) = false := by rw [beq_eq_false_iff_ne]; exact hw
        clear hwt hw HS
        go_wp2_with fail
        refine (C3.out _).mono ?_
        rintro e w5 ⟨rfl, hl5⟩
        have HB5 := Lib.hid hl5.1
        clear hl5
        go_wp2_with fail
        refine (awake2_any _).mono ?_
        rintro e w6 ⟨rfl, hb⟩
        go_wp2
        go_ret
        exact ⟨rfl, ext_trans HB4.out (ext_trans (ext_drew _ n) (ext_trans HB5.out hb))⟩
theorem OrderUnits_walk (s0 s1 : ByteArray) (w : World) (w0 : s0.size ≤ maxLen) (w1 : s1.size ≤ maxLen) :
    Calls Try.prog 9 #[.string s0, .string s1] w fun e w' => e = .returned (.bool true) ∧ Below w.heap.size w w' := by
  rw [str_is s0, str_is s1]
  exact units_walk _ _ w (str_len w0) (str_len w1)
end Go.Proofs.Ytjpofnpcmonmmaa
