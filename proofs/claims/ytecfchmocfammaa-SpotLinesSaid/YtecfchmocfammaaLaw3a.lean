/- awake of layer 3; the walks of SpotTells, SpotGoes, SpotSums. -/
import Derived.Test.YtecfchmocfammaaSpotB
import Derived.Test.YtecfchmocfammaaLow
import Derived.Test.YtecfchmocfammaaLong
import Derived.Test.YtecfchmocfammaaRowS
import Derived.Test.YtecfchmocfammaaRefV
set_option linter.unusedVariables false
set_option linter.unusedSimpArgs false
namespace Go.Proofs.Ytecfchmocfammaa
open Go.RowKit

theorem F3_eq : F 3 = 4613937818241073152 := by decide +kernel
theorem F7_eq : F 7 = 4619567317775286272 := by decide +kernel
theorem F9_eq : F 9 = 4621256167635550208 := by decide +kernel
theorem o1_eq : FloatKind.f64.format.order 4607182418800017408 4607182418800017408 = some .eq := by rw [← F1_eq]; exact F_self 1 (by decide) (by decide)
theorem o2_eq : FloatKind.f64.format.order 4611686018427387904 4611686018427387904 = some .eq := by rw [← F2_eq]; exact F_self 2 (by decide) (by decide)
theorem o3_eq : FloatKind.f64.format.order 4613937818241073152 4613937818241073152 = some .eq := by rw [← F3_eq]; exact F_self 3 (by decide) (by decide)
theorem o0_eq : FloatKind.f64.format.order 0 0 = some .eq := by rw [← F0_eq]; exact F_self 0 (by decide) (by decide)
theorem str_is (s : ByteArray) : s = ⟨s.data.toList.toArray⟩ := by
  apply ByteArray.ext; simp
theorem str_len {s : ByteArray} (h : s.size ≤ maxLen) : s.data.toList.length ≤ 9223372036854775807 := by unfold maxLen at h; rw [Array.length_toList]; exact h
theorem cpL_one (s : List UInt8) : cpL [s] = (decL s).length := by simp [cpL]
theorem uuL_one (s : List UInt8) : uuL [s] = unL (decL s) := by simp [uuL]
theorem lenL_one (s : List UInt8) : lenL [s] = s.length := by simp [lenL]

set_option maxRecDepth 100000 in
set_option maxHeartbeats 2000000 in
theorem awake3_any (w : World) :
    Calls Try.prog 8 #[] w fun e w' => e = .returned (.bool true) ∧ Below w.heap.size w w' := by
  have o1 := o1_eq
  have o2 := o2_eq
  have o3 := o3_eq
  have N1 : Hid (F (cpL [[97], [240, 159, 152, 128]]) = 4611686018427387904) := Lib.hid (by rw [← F2_eq]; congr 1)
  have N2 : Hid (F (uuL [[97], [240, 159, 152, 128]]) = 4613937818241073152) := Lib.hid (by rw [← F3_eq]; congr 1)
  have N3 : Hid (F (plcL [97, 98, 10, 99] 4).1 = 4611686018427387904 ∧ F (plcL [97, 98, 10, 99] 4).2 = 4611686018427387904) := Lib.hid (by rw [← F2_eq]; exact ⟨by congr 1, by congr 1⟩)
  have C4 : Hid (∀ w, Calls Try.prog 14 #[.complex .f64 4619567317775286272 4621256167635550208] w fun e w' => e = .returned (.int .i64 7) ∧ w = w') := Lib.hid (fun w => by rw [← F7_eq, ← F9_eq]; exact Line_any 7 9 w (by decide) (by decide))
  have C5 : Hid (∀ w, Calls Try.prog 15 #[.complex .f64 4619567317775286272 4621256167635550208] w fun e w' => e = .returned (.int .i64 9) ∧ w = w') := Lib.hid (fun w => by rw [← F7_eq, ← F9_eq]; exact Column_any 7 9 w (by decide) (by decide))
  have C6 : Hid (∀ w, Calls Try.prog 20 #[.complex .f64 4607182418800017408 4607182418800017408, .string ⟨#[120]⟩] w fun e w' => e = .returned (.complex .f64 4607182418800017408 4611686018427387904) ∧ Below w.heap.size w w') := Lib.hid (fun w => by
    have := Behind_any 1 1 [120] w (by decide) (by decide) (by decide) (by decide) (by decide)
    rw [show posL (1, 1) (decL [120]) = (1, 2) from by decide, F1_eq] at this
    rw [← F2_eq]; exact this)
  go_enter Try.func8, Try.ntmps8
  go_wp2_with fail
  refine (Wide_any _ [[97], [240, 159, 152, 128]] _ (litS _ _ _ 2 9 _ (by rw [heap_alloc_at, if_pos (by simp)]; rfl) rfl (by decide)) (by decide) (by decide)).mono ?_
  rintro e w1 ⟨rfl, hb1⟩
  rw [N1.out, N2.out]
  have HB1 := Lib.hid hb1
  clear hb1
  go_wp2_with fail
  refine (At_any [97, 98, 10, 99] 4 _ (by decide) (by decide) (by decide)).mono ?_
  rintro e w2 ⟨rfl, hb2⟩
  rw [N3.out.1, N3.out.2]
  have HB2 := Lib.hid hb2
  clear hb2
  go_wp2_with fail
  refine (C4.out _).mono ?_
  rintro e w' ⟨rfl, rfl⟩
  go_wp2_with fail
  refine (C5.out _).mono ?_
  rintro e w' ⟨rfl, rfl⟩
  go_wp2_with fail
  refine (C6.out _).mono ?_
  rintro e w3 ⟨rfl, hb3⟩
  go_wp2_with fail
  go_ret
  exact ⟨rfl, ext_trans (ext_trans (ext_trans (ext_alloc w _) HB1.out) HB2.out) hb3⟩

theorem plcL_bd (l : List UInt8) (k : Int) (hm : l.length ≤ 1000) : 1 ≤ (plcL l k).1 ∧ (plcL l k).1 ≤ 2000 ∧ 1 ≤ (plcL l k).2 ∧ (plcL l k).2 ≤ 2000 := by
  have h1 := posL_bd (decL (l.take (cutK l k))) (1, 1) (by decide) (by decide)
  have h2 := decL_len _ (l.take (cutK l k)) (Nat.le_refl _)
  have h3 : (l.take (cutK l k)).length ≤ l.length := by rw [List.length_take]; omega
  unfold plcL
  simp only at h1
  omega
set_option maxHeartbeats 2000000 in
theorem tells_walk (s : List UInt8) (k : Int) (w : World) (hs : s.length ≤ 9223372036854775807) (n10 : -9223372036854775808 ≤ k) (n11 : k ≤ 9223372036854775807) :
    Calls Try.prog 3 #[.string ⟨s.toArray⟩, .int .i64 k] w fun e w' => e = .returned (.bool true) ∧ Below w.heap.size w w' := by
  by_cases hlen : 300 < s.length
  · go_enter Try.func3, Try.ntmps3
    go_wp2_with fail
    refine (awake3_any _).mono ?_
    rintro e w1 ⟨rfl, hb⟩
    go_wp2
    go_ret
    exact ⟨rfl, hb⟩
  · have hpl := plcL_bd s k (by omega)
    have hd := decL_len _ s (Nat.le_refl _)
    have hu := (unL_bd (decL s)).2
    have C1 : Hid (∀ w, Calls Try.prog 9 #[.string ⟨s.toArray⟩] w fun e w' => e = .returned (.tuple #[.int .i64 (decL s).length, .int .i64 (unL (decL s))]) ∧ Below w.heap.size w w') := Lib.hid (fun w => rWide_any s w (by omega))
    have C2 : Hid (∀ w, Calls Try.prog 10 #[.string ⟨s.toArray⟩, .int .i64 k] w fun e w' => e = .returned (.tuple #[.int .i64 (plcL s k).1, .int .i64 (plcL s k).2]) ∧ Below w.heap.size w w') := Lib.hid (fun w => rAt_any s k w (by omega) n10 n11)
    have C3 : Hid (∀ w, Calls Try.prog 11 #[.string ⟨s.toArray⟩, .int .i64 k] w fun e w' => e = .returned (.complex .f64 (F (plcL s k).1) (F (plcL s k).2)) ∧ Below w.heap.size w w') := Lib.hid (fun w => At_any s k w (by omega) n10 n11)
    have C4 : Hid (∀ v w, IsStr w v [s] → Calls Try.prog 12 #[v] w fun e w' => e = .returned (.complex .f64 (F (decL s).length) (F (unL (decL s)))) ∧ Below w.heap.size w w') := Lib.hid (fun v w hv => by
      have := Wide_any v [s] w hv (by simp) (by rw [lenL_one]; omega)
      rw [cpL_one, uuL_one] at this; exact this)
    obtain ⟨p, hp⟩ : ∃ p, (plcL s k).1 = p := ⟨_, rfl⟩
    obtain ⟨q, hq⟩ : ∃ q, (plcL s k).2 = q := ⟨_, rfl⟩
    obtain ⟨m, hm⟩ : ∃ m : Int, ((decL s).length : Int) = m := ⟨_, rfl⟩
    obtain ⟨u, hu'⟩ : ∃ u : Int, (unL (decL s) : Int) = u := ⟨_, rfl⟩
    rw [hp, hq] at C2 C3 hpl
    rw [hm, hu'] at C1 C4
    obtain ⟨p1, p2, q1, q2⟩ := hpl
    have m0 : 0 ≤ m := by omega
    have m1 : m ≤ 1000 := by omega
    have u0 : 0 ≤ u := by omega
    have u1 : u ≤ 1000 := by omega
    clear hp hq hm hu' hd hu
    have om := F_self m (by omega) (by omega)
    have ou := F_self u (by omega) (by omega)
    have op := F_self p (by omega) (by omega)
    have oq := F_self q (by omega) (by omega)
    have N1 := Lib.hid (lnumber_any m u · (by omega) (by omega) (by omega) (by omega))
    have N2 := Lib.hid (lnumber_any p q · (by omega) (by omega) (by omega) (by omega))
    have L1 := Lib.hid (Line_any p q · (by omega) (by omega))
    have L2 := Lib.hid (Column_any p q · (by omega) (by omega))
    generalize F m = fm at *
    generalize F u = fu at *
    generalize F p = fp at *
    generalize F q = fq at *
    go_enter Try.func3, Try.ntmps3
    go_wp2_with fail
    refine (C1.out _).mono ?_
    rintro e w1 ⟨rfl, hb1⟩
    have HB1 := Lib.hid hb1
    clear hb1
    go_wp2_with fail
    refine (C2.out _).mono ?_
    rintro e w2 ⟨rfl, hb2⟩
    have HB2 := Lib.hid hb2
    clear hb2
    go_wp2_with fail
    refine (C3.out _).mono ?_
    rintro e w3 ⟨rfl, hb3⟩
    have HB3 := Lib.hid hb3
    clear hb3
    go_wp2_with fail
    refine (C4.out _ _ (litS _ _ [s] 1 9 (0, 0) (by rw [heap_alloc_at, if_pos (by simp)]; rfl) rfl (by decide))).mono ?_
    rintro e w4 ⟨rfl, hb4⟩
    have HB4 := Lib.hid hb4
    clear hb4
    go_wp2_with fail
    refine (N1.out _).mono ?_
    rintro e w' ⟨rfl, rfl⟩
    go_wp2_with fail
    refine (N2.out _).mono ?_
    rintro e w' ⟨rfl, rfl⟩
    go_wp2_with fail
    refine (L1.out _).mono ?_
    rintro e w' ⟨rfl, rfl⟩
    go_wp2_with fail
    refine (L2.out _).mono ?_
    rintro e w' ⟨rfl, rfl⟩
    go_wp2_with fail
    refine (awake3_any _).mono ?_
    rintro e w5 ⟨rfl, hb⟩
    go_wp2
    go_ret
    exact ⟨rfl, ext_trans (ext_trans (ext_trans (ext_trans (ext_trans HB1.out HB2.out) HB3.out) (ext_alloc _ _)) HB4.out) hb⟩
theorem SpotTells_walk (s0 : ByteArray) (a1 : Int) (w : World) (w0 : s0.size ≤ maxLen) (w1 : (Lit.int .i64 a1).wf = true) :
    Calls Try.prog 3 #[.string s0, .int .i64 a1] w fun e w' => e = .returned (.bool true) ∧ Below w.heap.size w w' := by
  obtain ⟨n10, n11⟩ := wf64 w1
  rw [str_is s0]
  exact tells_walk _ a1 w (str_len w0) n10 n11
end Go.Proofs.Ytecfchmocfammaa
