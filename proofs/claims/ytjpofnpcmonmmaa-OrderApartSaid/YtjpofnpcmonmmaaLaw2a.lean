/- awake of layer 2; the walk of OrderTells. -/
import Derived.Test.YtjpofnpcmonmmaaOrdE
import Derived.Test.YtjpofnpcmonmmaaOrdF
import Derived.Test.YtjpofnpcmonmmaaLow
import Derived.Test.YtjpofnpcmonmmaaLong
import Derived.Test.YtjpofnpcmonmmaaRowS
import Derived.Test.YtjpofnpcmonmmaaRefV
set_option linter.unusedVariables false
set_option linter.unusedSimpArgs false
namespace Go.Proofs.Ytjpofnpcmonmmaa
open Go.RowKit

theorem str_is (s : ByteArray) : s = ⟨s.data.toList.toArray⟩ := by
  apply ByteArray.ext; simp
theorem str_len {s : ByteArray} (h : s.size ≤ maxLen) : s.data.toList.length ≤ 9223372036854775807 := by unfold maxLen at h; rw [Array.length_toList]; exact h
theorem units_smile : unitsL (decL [240, 159, 152, 128]) = [55357, 56832] := by decide +kernel
theorem cmp_smile : cmpS [239, 188, 161] [240, 159, 152, 128] = 1 := by decide +kernel
theorem pts_smile : ptsS [239, 188, 161] [240, 159, 152, 128] = -1 := by decide +kernel
theorem fall_ab : fallL [[97], [98]] = [[98], [97]] := by
  have h1 : ltOf cfS [98] [97] = true := by decide +kernel
  unfold fallL Go.Sort.insertionSort
  unfold Go.Sort.insOuter
  rw [if_pos (by decide)]
  unfold Go.Sort.insOuter
  rw [if_neg (by decide)]
  show (Go.Sort.insInner (ltOf cfS) 0 1 #[[97], [98]]).toList = _
  unfold Go.Sort.insInner
  rw [if_pos (by show (decide (0 + 1 > 0) && ltOf cfS [98] [97]) = true; rw [h1]; rfl)]
  show (Go.Sort.insInner (ltOf cfS) 0 0 _).toList = _
  unfold Go.Sort.insInner
  decide +kernel

set_option maxRecDepth 100000 in
set_option maxHeartbeats 2000000 in
theorem awake2_any (w : World) :
    Calls Try.prog 11 #[] w fun e w' => e = .returned (.bool true) ∧ Below w.heap.size w w' := by
  have HC : Hid (∀ w, Calls Try.prog 15 #[.string ⟨#[239, 188, 161]⟩, .string ⟨#[240, 159, 152, 128]⟩] w fun e w' => e = .returned (.int .i64 1) ∧ Laid w w') := Lib.hid (fun w => by
    have := Compare_any [239, 188, 161] [240, 159, 152, 128] w (by decide) (by decide)
    rw [cmp_smile] at this; exact this)
  have HP : Hid (∀ w, Calls Try.prog 17 #[.string ⟨#[239, 188, 161]⟩, .string ⟨#[240, 159, 152, 128]⟩] w fun e w' => e = .returned (.int .i64 (-1)) ∧ Laid w w') := Lib.hid (fun w => by
    have := Points_any [239, 188, 161] [240, 159, 152, 128] w (by decide) (by decide)
    rw [pts_smile] at this; exact this)
  have HU : Hid (∀ w, Calls Try.prog 13 #[.string ⟨#[240, 159, 152, 128]⟩] w fun e w' => ∃ v', e = .returned v' ∧ IsSl w' v' 2 (u16At [55357, 56832]) ∧ Below w.heap.size w w') := Lib.hid (fun w => by
    refine (oUnits_any [240, 159, 152, 128] w (by decide)).mono ?_
    rintro e w' ⟨v', he, ho, hb⟩
    rw [units_smile] at ho
    exact ⟨v', he, ho.is16, hb⟩)
  have HF : Hid (∀ v w, IsStr w v [[97], [98]] → Calls Try.prog 20 #[v] w fun e w' => ∃ v', e = .returned v' ∧ IsStr w' v' [[98], [97]] ∧ Below w.heap.size w w') := Lib.hid (fun v w hv => by
    have := falling_any v [[97], [98]] w hv (by decide) (by decide) (by decide)
    rw [fall_ab] at this; exact this)
  go_enter Try.func11, Try.ntmps11
  go_wp2_with fail
  refine (HU.out _).mono ?_
  rintro e w1 ⟨v1, rfl, hv1, hb1⟩
  have HV1 := Lib.hid hv1
  have HB1 := Lib.hid hb1
  clear hv1 hb1
  go_wp2_with fail
  refine (HF.out _ _ (litS _ _ [[97], [98]] 2 9 _ (by rw [heap_alloc_at, if_pos (by simp)]; rfl) rfl (by decide))).mono ?_
  rintro e w2 ⟨v2, rfl, hv2, hb2⟩
  have hB12 := ext_trans (ext_alloc w1 _) hb2
  have hv1 := HV1.out.below hB12
  have HB2 := Lib.hid hB12
  clear HV1 hb2 hB12
  obtain ⟨a1, c1, rfl, q1, q2, -, q3⟩ := hv1
  obtain ⟨b1, o1, rfl, hc1⟩ := q3 (by decide)
  obtain ⟨a2, c2, rfl, r1, r2, -, r3⟩ := hv2
  obtain ⟨b2, o2, rfl, hc2⟩ := r3 (by decide)
  have k1 : w2.cell? ⟨b1, o1 + 0, none⟩ = some (.int .u16 55357) := hc1.at 0 (by decide)
  have k2 : w2.cell? ⟨b2, o2 + 0, none⟩ = some (.string ⟨#[98]⟩) := hc2.at 0 (by decide)
  rw [Nat.add_zero] at k1 k2
  have k2' := fun w' (h : Below w2.heap.size w2 w') => (h.cell (p := ⟨b2, o2, none⟩) (World.block_lt_of_cell? w2 _ k2)).trans k2
  have K2 := Lib.hid k2'
  clear hc1 hc2 q3 r3 k2 k2'
  unfold maxLen at q2 r2
  simp only [List.length_cons, List.length_nil] at r1
  go_wp2_with fail
  refine (HC.out _).mono ?_
  rintro e w3 ⟨rfl, hl3⟩
  go_wp2_with fail
  refine (HP.out _).mono ?_
  rintro e w4 ⟨rfl, hl4⟩
  have k4 := K2.out w4 (hl3.trans hl4).1
  have HB4 := Lib.hid (hl3.trans hl4).1
  clear hl3 hl4
  go_wp2_with fail
  go_ret
  exact ⟨rfl, ext_trans (ext_trans HB1.out HB2.out) HB4.out⟩

set_option maxHeartbeats 2000000 in
theorem tells_walk (a b : List UInt8) (w : World) (ha : a.length ≤ 9223372036854775807) (hb : b.length ≤ 9223372036854775807) :
    Calls Try.prog 3 #[.string ⟨a.toArray⟩, .string ⟨b.toArray⟩] w fun e w' => e = .returned (.bool true) ∧ Below w.heap.size w w' := by
  cases hl : longB 400 [a, b] with
  | true =>
    have HL := Lib.hid hl
    clear hl
    go_enter Try.func3, Try.ntmps3
    go_wp2_with fail
    refine (long_any 400 _ [a, b] _ (litS _ _ [a, b] 2 9 _ (by rw [heap_alloc_at, if_pos (by simp)]; rfl) rfl (by decide)) (by decide) (by decide) (by simp) (by intro s hs; simp at hs; rcases hs with rfl | rfl <;> omega)).mono ?_
    rintro e w1 ⟨rfl, k, rfl⟩
    rw [HL.out]
    go_wp2_with fail
    refine (awake2_any _).mono ?_
    rintro e w1 ⟨rfl, hb⟩
    go_wp2
    go_ret
    exact ⟨rfl, ext_trans (below_drewN (ext_alloc _ _) k) hb⟩
  | false =>
    have hT := longB_tot [a, b] 400 hl (by simp)
    have hT2 : a.length + b.length ≤ 400 := by simp [totL] at hT; omega
    have HL := Lib.hid hl
    clear hl hT
    have hul := unitsS_len a
    have C1 := Lib.hid (oUnits_any a · (by omega))
    have C2 := Lib.hid (rUnits_any a · (by omega))
    have C3 := Lib.hid (Compare_any a b · (by omega) (by omega))
    have C4 := Lib.hid (rCompare_any a b · (by omega) (by omega))
    have C5 := Lib.hid (Points_any a b · (by omega) (by omega))
    have C6 := Lib.hid (rPoints_any a b · (by omega) (by omega))
    generalize cmpS a b = c at *
    generalize ptsS a b = p at *
    go_enter Try.func3, Try.ntmps3
    go_wp2_with fail
    refine (long_any 400 _ [a, b] _ (litS _ _ [a, b] 2 9 _ (by rw [heap_alloc_at, if_pos (by simp)]; rfl) rfl (by decide)) (by decide) (by decide) (by simp) (by intro s hs; simp at hs; rcases hs with rfl | rfl <;> omega)).mono ?_
    rintro e w1 ⟨rfl, k, rfl⟩
    rw [HL.out]
    go_wp2_with fail
    refine (C1.out _).mono ?_
    rintro e w2 ⟨v2, rfl, ho2, hb2⟩
    have HO2 := Lib.hid ho2.is16
    have HB2 := Lib.hid hb2
    clear ho2 hb2
    go_wp2_with fail
    refine (C2.out _).mono ?_
    rintro e w3 ⟨v3, rfl, ho3, hb3⟩
    have HO3 := Lib.hid ho3.is16
    have HO2' := Lib.hid (HO2.out.below hb3)
    have HB3 := Lib.hid hb3
    clear ho3 hb3
    go_wp2_with fail
    refine (lUnits_eq _ _ (unitsL (decL a)) _ HO2'.out HO3.out (by omega)).mono ?_
    rintro e w4 ⟨rfl, k4, rfl⟩
    go_wp2_with fail
    refine (C3.out _).mono ?_
    rintro e w5 ⟨rfl, hl5⟩
    have HB5 := Lib.hid hl5.1
    clear hl5
    go_wp2_with fail
    refine (C4.out _).mono ?_
    rintro e w6 ⟨rfl, hb6⟩
    have HB6 := Lib.hid hb6
    clear hb6
    go_wp2_with fail
    refine (C5.out _).mono ?_
    rintro e w7 ⟨rfl, hl7⟩
    have HB7 := Lib.hid hl7.1
    clear hl7
    go_wp2_with fail
    refine (C6.out _).mono ?_
    rintro e w8 ⟨rfl, hb8⟩
    have HB8 := Lib.hid hb8
    clear hb8
    go_wp2_with fail
    refine (awake2_any _).mono ?_
    rintro e w9 ⟨rfl, hb⟩
    go_wp2
    go_ret
    exact ⟨rfl, ext_trans (below_drewN (ext_alloc _ _) k) (ext_trans HB2.out (ext_trans HB3.out (ext_trans (ext_drew _ k4) (ext_trans HB5.out (ext_trans HB6.out (ext_trans HB7.out (ext_trans HB8.out hb)))))))⟩
theorem OrderTells_walk (s0 s1 : ByteArray) (w : World) (w0 : s0.size ≤ maxLen) (w1 : s1.size ≤ maxLen) :
    Calls Try.prog 3 #[.string s0, .string s1] w fun e w' => e = .returned (.bool true) ∧ Below w.heap.size w w' := by
  rw [str_is s0, str_is s1]
  exact tells_walk _ _ w (str_len w0) (str_len w1)
end Go.Proofs.Ytjpofnpcmonmmaa
