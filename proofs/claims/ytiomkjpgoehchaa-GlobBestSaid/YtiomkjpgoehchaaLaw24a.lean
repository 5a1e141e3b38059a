/- awake of layer 24; the walks of GlobTells, GlobBest, GlobOrders. -/
import Derived.Test.YtiomkjpgoehchaaGlobC
import Derived.Test.YtiomkjpgoehchaaLong
import Derived.Test.YtiomkjpgoehchaaRowS
set_option linter.unusedVariables false
set_option linter.unusedSimpArgs false
namespace Go.Proofs.Ytiomkjpgoehchaa
open Go.RowKit

theorem F2_eq : F 2 = 4611686018427387904 := by decide +kernel
theorem F3_eq : F 3 = 4613937818241073152 := by decide +kernel
set_option maxRecDepth 100000 in
set_option maxHeartbeats 2000000 in
theorem awake24_any (w : World) :
    Calls Try.prog 9 #[] w fun e w' => e = .returned (.bool true) ∧ Below w.heap.size w w' := by
  have N1 : Hid (bestO [46, 47, 97, 47, 98] [[46, 47, 42], [46, 47, 97, 47, 42]] = some [46, 47, 97, 47, 42]) := Lib.hid (by decide +kernel)
  have N2 : Hid (mtchL [46, 47, 97, 47, 42, 46, 106, 115] [46, 47, 97, 47, 98, 46, 106, 115] = [98] ∧ fitsL [46, 47, 97, 47, 42, 46, 106, 115] [46, 47, 97, 47, 98, 46, 106, 115] = true) := Lib.hid (by decide +kernel)
  have N3 : Hid (mtchL [46, 47, 97, 47, 42, 46, 106, 115] [46, 47, 97, 47, 46, 106, 115] = [] ∧ fitsL [46, 47, 97, 47, 42, 46, 106, 115] [46, 47, 97, 47, 46, 106, 115] = false) := Lib.hid (by decide +kernel)
  have N4 : Hid (gcmp [97, 42] [42] = -1) := Lib.hid (by decide +kernel)
  have N5 : Hid (aheadL [97, 42, 99] = 2) := Lib.hid (by decide +kernel)
  have o2 : FloatKind.f64.format.order 4611686018427387904 4611686018427387904 = some .eq := by have := order_F 2 2 (by decide) (by decide) (by decide) (by decide); rw [F2_eq] at this; exact this
  have o3 : FloatKind.f64.format.order 4613937818241073152 4613937818241073152 = some .eq := by have := order_F 3 3 (by decide) (by decide) (by decide) (by decide); rw [F3_eq] at this; exact this
  go_enter Try.func9, Try.ntmps9
  go_wp2_with fail
  refine (Best_any _ [[46, 47, 42], [46, 47, 97, 47, 42]] [46, 47, 97, 47, 98] _ (litS _ _ _ 2 9 _ (by rw [heap_alloc_at, if_pos (by simp)]; rfl) rfl (by decide)) (by decide) (by intro k hk; simp at hk; rcases hk with rfl | rfl <;> decide) (by decide)).mono ?_
  rintro e w1 ⟨rfl, hb1⟩
  rw [N1.out]
  have HB1 := Lib.hid hb1
  clear hb1
  go_wp2_with fail
  refine (Match_any [46, 47, 97, 47, 42, 46, 106, 115] [46, 47, 97, 47, 98, 46, 106, 115] _ (by decide) (by decide)).mono ?_
  rintro e w2 ⟨rfl, n2, rfl⟩
  rw [N2.out.1, N2.out.2]
  go_wp2_with fail
  refine (Match_any [46, 47, 97, 47, 42, 46, 106, 115] [46, 47, 97, 47, 46, 106, 115] _ (by decide) (by decide)).mono ?_
  rintro e w2 ⟨rfl, n3, rfl⟩
  rw [N3.out.1, N3.out.2]
  go_wp2_with fail
  refine (Weight_any [97, 42, 99] _ (by decide)).mono ?_
  rintro e w2 ⟨rfl, rfl⟩
  rw [N5.out, F2_eq, show F (([97, 42, 99] : List UInt8).length : Int) = 4613937818241073152 from F3_eq]
  go_wp2_with fail
  refine (Compare_any [97, 42] [42] _ (by decide) (by decide)).mono ?_
  rintro e w3 ⟨rfl, hb3⟩
  rw [N4.out]
  have HB3 := Lib.hid hb3
  clear hb3
  go_wp2_with fail
  go_ret
  have A : Below w.heap.size w w1 := ext_trans (ext_alloc w _) HB1.out
  exact ⟨rfl, (below_drewN A (n2 + n3)).trans (HB3.out.mono A.size)⟩

theorem str_is (s : ByteArray) : s = ⟨s.data.toList.toArray⟩ := by
  apply ByteArray.ext; simp
theorem str_len {s : ByteArray} (h : s.size ≤ maxLen) : s.data.toList.length ≤ 9223372036854775807 := by unfold maxLen at h; rw [Array.length_toList]; exact h
theorem order_self (n : Int) (h0 : 0 ≤ n) (h1 : n < 1024) : FloatKind.f64.format.order (floatOfInt .f64 n) (floatOfInt .f64 n) = some .eq := by
  have := order_F n n h0 h1 h0 h1
  rw [Int.compare_eq_ite_lt, if_neg (by omega), if_neg (by omega)] at this
  exact this

set_option maxHeartbeats 2000000 in
theorem tells_walk (a b s : List UInt8) (w : World) (ha : a.length ≤ 9223372036854775807) (hb : b.length ≤ 9223372036854775807) (hs : s.length ≤ 9223372036854775807) :
    Calls Try.prog 3 #[.string ⟨a.toArray⟩, .string ⟨b.toArray⟩, .string ⟨s.toArray⟩] w fun e w' => e = .returned (.bool true) ∧ Below w.heap.size w w' := by
  cases hl : longB 200 [a, b, s] with
  | true =>
    have HL := Lib.hid hl
    clear hl
    go_enter Try.func3, Try.ntmps3
    go_wp2_with fail
    refine (long_any 200 _ [a, b, s] _ (litS _ _ [a, b, s] 3 9 _ (by rw [heap_alloc_at, if_pos (by simp)]; rfl) rfl (by decide)) (by decide) (by decide) (by simp) (by intro x hx; simp at hx; rcases hx with rfl | rfl | rfl <;> omega)).mono ?_
    rintro e w1 ⟨rfl, k, rfl⟩
    rw [HL.out]
    go_wp2_with fail
    refine (awake24_any _).mono ?_
    rintro e w1 ⟨rfl, hb⟩
    go_wp2
    go_ret
    exact ⟨rfl, ext_trans (below_drewN (ext_alloc _ _) k) hb⟩
  | false =>
    have hT := longB_tot [a, b, s] 200 hl (by simp)
    have hT2 : a.length + b.length + s.length ≤ 200 := by simp [totL] at hT; omega
    have HL := Lib.hid hl
    clear hl hT
    have hah := aheadL_bd a
    have o1 := order_self (aheadL a) (by omega) (by omega)
    have o2 := order_self (a.length : Int) (by omega) (by omega)
    obtain ⟨hah1, hah2⟩ := hah
    have CW : Hid (∀ w, Calls Try.prog 13 #[.string ⟨a.toArray⟩] w fun e w' => e = .returned (.complex .f64 (floatOfInt .f64 (aheadL a)) (floatOfInt .f64 a.length)) ∧ w = w') := Lib.hid (fun w => Weight_any a w (by omega))
    have CX : Hid (∀ w, Calls Try.prog 10 #[.string ⟨a.toArray⟩] w fun e w' => e = .returned (.tuple #[.int .i64 (aheadL a), .int .i64 a.length]) ∧ w = w') := Lib.hid (fun w => rWeight_any a w (by omega))
    generalize aheadL a = x at *
    go_enter Try.func3, Try.ntmps3
    go_wp2_with fail
    refine (long_any 200 _ [a, b, s] _ (litS _ _ [a, b, s] 3 9 _ (by rw [heap_alloc_at, if_pos (by simp)]; rfl) rfl (by decide)) (by decide) (by decide) (by simp) (by intro x hx; simp at hx; rcases hx with rfl | rfl | rfl <;> omega)).mono ?_
    rintro e w1 ⟨rfl, k, rfl⟩
    rw [HL.out]
    go_wp2_with fail
    refine (CX.out _).mono ?_
    rintro e w' ⟨rfl, rfl⟩
    go_wp2_with fail
    refine (Match_any a s _ (by omega) (by omega)).mono ?_
    rintro e w1 ⟨rfl, n1, rfl⟩
    go_wp2_with fail
    refine (rMatch_any a s _ (by omega) (by omega)).mono ?_
    rintro e w1 ⟨rfl, n2, rfl⟩
    generalize mtchL a s = m1 at *
    generalize fitsL a s = m2 at *
    go_wp2_with fail
    refine (CW.out _).mono ?_
    rintro e w' ⟨rfl, rfl⟩
    go_wp2_with fail
    refine (Compare_any a b _ (by omega) (by omega)).mono ?_
    rintro e w2 ⟨rfl, hb2⟩
    have HB2 := Lib.hid hb2
    clear hb2
    go_wp2_with fail
    refine (rCompare_any a b _ (by omega) (by omega)).mono ?_
    rintro e w' ⟨rfl, rfl⟩
    generalize gcmp a b = g at *
    go_wp2_with fail
    refine (awake24_any _).mono ?_
    rintro e w3 ⟨rfl, hb⟩
    go_wp2
    go_ret
    exact ⟨rfl, ext_trans (ext_trans (below_drewN (ext_alloc w _) _) HB2.out) hb⟩
theorem GlobTells_walk (s0 s1 s2 : ByteArray) (w : World) (w0 : s0.size ≤ maxLen) (w1 : s1.size ≤ maxLen) (w2 : s2.size ≤ maxLen) :
    Calls Try.prog 3 #[.string s0, .string s1, .string s2] w fun e w' => e = .returned (.bool true) ∧ Below w.heap.size w w' := by
  rw [str_is s0, str_is s1, str_is s2]
  exact tells_walk _ _ _ w (str_len w0) (str_len w1) (str_len w2)

theorem long_mem {n : Nat} {ls : List (List UInt8)} (h : longB n ls = false) : ∀ s ∈ ls, s.length < n := by
  intro s hs
  have hne : ls ≠ [] := by intro e; rw [e] at hs; cases hs
  have h1 := longB_tot ls n h hne
  have h2 : ∀ (ls : List (List UInt8)), s ∈ ls → s.length + 1 ≤ totL ls := by
    intro ls
    induction ls with
    | nil => intro h; cases h
    | cons x t ih =>
      intro h
      have e : totL (x :: t) = x.length + 1 + totL t := by simp [totL]
      rw [e]
      rcases List.mem_cons.1 h with rfl | h
      · omega
      · have := ih h; omega
  have := h2 ls hs
  omega

set_option maxHeartbeats 2000000 in
theorem best_walk (a0 : Option Addr) (cap0 : Nat) (ks : List (List UInt8)) (s : List UInt8) (w : World) (hv : IsStr w (.slice a0 ks.length cap0) ks) (hks : ∀ k ∈ ks, k.length ≤ 9223372036854775807) (hs : s.length ≤ 9223372036854775807) :
    Calls Try.prog 4 #[.slice a0 ks.length cap0, .string ⟨s.toArray⟩] w fun e w' => e = .returned (.bool true) ∧ Below w.heap.size w w' := by
  have HV := Lib.hid hv
  have HMS := Lib.hid hks
  clear hv hks
  by_cases h20 : 20 < ks.length
  · go_enter Try.func4, Try.ntmps4
    go_wp2_with fail
    refine (awake24_any _).mono ?_
    rintro e w1 ⟨rfl, hb⟩
    go_wp2
    go_ret
    exact ⟨rfl, hb⟩
  · have hd0 : decide ((20 : Int) < (ks.length : Int)) = false := by simp; omega
    cases hl : longB 300 ks with
    | true =>
      have HL := Lib.hid hl
      clear hl
      go_enter Try.func4, Try.ntmps4
      go_wp2_with fail
      refine (long_any 300 _ ks _ HV.out (by decide) (by decide) (by omega) (fun s h => by have := HMS.out s h; omega)).mono ?_
      rintro e w1 ⟨rfl, k, rfl⟩
      rw [HL.out]
      go_wp2_with fail
      refine (awake24_any _).mono ?_
      rintro e w1 ⟨rfl, hb⟩
      go_wp2
      go_ret
      exact ⟨rfl, ext_trans (ext_drew _ k) hb⟩
    | false =>
      have HKS := Lib.hid (long_mem (n := 300) hl)
      have HL := Lib.hid hl
      clear hl
      by_cases h60 : 60 < s.length
      · go_enter Try.func4, Try.ntmps4
        go_wp2_with fail
        refine (long_any 300 _ ks _ HV.out (by decide) (by decide) (by omega) (fun s h => by have := HMS.out s h; omega)).mono ?_
        rintro e w1 ⟨rfl, k, rfl⟩
        rw [HL.out]
        go_wp2_with fail
        refine (awake24_any _).mono ?_
        rintro e w1 ⟨rfl, hb⟩
        go_wp2
        go_ret
        exact ⟨rfl, ext_trans (ext_drew _ k) hb⟩
      · go_enter Try.func4, Try.ntmps4
        go_wp2_with fail
        refine (long_any 300 _ ks _ HV.out (by decide) (by decide) (by omega) (fun s h => by have := HMS.out s h; omega)).mono ?_
        rintro e w1 ⟨rfl, k, rfl⟩
        rw [HL.out]
        go_wp2_with fail
        refine (Best_any _ ks s _ (HV.out.drew k) (by omega) (fun k h => by have := HKS.out k h; omega) (by omega)).mono ?_
        rintro e w1 ⟨rfl, hb1⟩
        have HB1 := Lib.hid hb1
        have HV1 := Lib.hid ((HV.out.drew k).below hb1)
        clear hb1
        go_wp2_with fail
        refine (rBest_any _ ks s _ HV1.out (by omega) (fun k h => by have := HKS.out k h; omega) (by omega)).mono ?_
        rintro e w2 ⟨rfl, k2, rfl⟩
        generalize bestO s ks = st at *
        go_wp2_with fail
        refine (awake24_any _).mono ?_
        rintro e w3 ⟨rfl, hb⟩
        go_wp2
        go_ret
        exact ⟨rfl, ext_trans (ext_trans (ext_drew _ k) HB1.out) (ext_trans (ext_drew _ k2) hb)⟩
theorem GlobBest_walk (a0 : Option Addr) (len0 cap0 : Nat) (z0 : List (List UInt8)) (a1 : ByteArray) (w : World) (w0 : IsRowS w a0 len0 cap0 z0) (w1 : a1.size ≤ maxLen) :
    Calls Try.prog 4 #[.slice a0 len0 cap0, .string a1] w fun e w' => e = .returned (.bool true) ∧ Below w.heap.size w w' := by
  obtain ⟨rfl, h2, h3⟩ := w0
  rw [str_is a1]
  exact best_walk a0 cap0 z0 _ w h2 (fun k hk => by have := h3 k hk; unfold maxLen at this; omega) (str_len w1)

theorem compare_ne {m n : Int} (h : m ≠ n) : (some (compare m n) == some Ordering.eq) = false := by
  rw [Int.compare_eq_ite_lt]
  rcases Int.lt_trichotomy m n with c | c | c
  · rw [if_pos c]; rfl
  · exact absurd c h
  · rw [if_neg (by omega), if_pos c]; rfl

set_option maxHeartbeats 4000000 in
theorem orders_walk (a b c : List UInt8) (w : World) (ha : a.length ≤ 9223372036854775807) (hb : b.length ≤ 9223372036854775807) (hs : c.length ≤ 9223372036854775807) :
    Calls Try.prog 6 #[.string ⟨a.toArray⟩, .string ⟨b.toArray⟩, .string ⟨c.toArray⟩] w fun e w' => e = .returned (.bool true) ∧ Below w.heap.size w w' := by
  cases hl : longB 120 [a, b, c] with
  | true =>
    have HL := Lib.hid hl
    clear hl
    go_enter Try.func6, Try.ntmps6
    go_wp2_with fail
    refine (long_any 120 _ [a, b, c] _ (litS _ _ [a, b, c] 3 9 _ (by rw [heap_alloc_at, if_pos (by simp)]; rfl) rfl (by decide)) (by decide) (by decide) (by simp) (by intro x hx; simp at hx; rcases hx with rfl | rfl | rfl <;> omega)).mono ?_
    rintro e w1 ⟨rfl, k, rfl⟩
    rw [HL.out]
    go_wp2_with fail
    refine (awake24_any _).mono ?_
    rintro e w1 ⟨rfl, hb⟩
    go_wp2
    go_ret
    exact ⟨rfl, ext_trans (below_drewN (ext_alloc _ _) k) hb⟩
  | false =>
    have hT := longB_tot [a, b, c] 120 hl (by simp)
    have hT2 : a.length + b.length + c.length ≤ 120 := by simp [totL] at hT; omega
    have HL := Lib.hid hl
    have hab := aheadL_bd a
    have hbb := aheadL_bd b
    clear hl hT
    have z := gcmp_zero a b
    have ng := gcmp_neg a b
    have tr := gcmp_trans a b c
    have sf := Lib.hid (gcmp_self a)
    have bd1 := gcmp_bd a b
    have bd2 := gcmp_bd b a
    have bd3 := gcmp_bd b c
    have bd4 := gcmp_bd a c
    obtain ⟨fa, hfa⟩ : ∃ x, F (aheadL a) = x := ⟨_, rfl⟩
    obtain ⟨fb, hfb⟩ : ∃ x, F (aheadL b) = x := ⟨_, rfl⟩
    obtain ⟨ga, hga⟩ : ∃ x, F a.length = x := ⟨_, rfl⟩
    obtain ⟨gb, hgb⟩ : ∃ x, F b.length = x := ⟨_, rfl⟩
    have o1 := order_F (aheadL a) (aheadL b) (by omega) (by omega) (by omega) (by omega)
    have o2 := order_F (a.length : Int) (b.length : Int) (by omega) (by omega) (by omega) (by omega)
    rw [hfa, hfb] at o1
    rw [hga, hgb] at o2
    have CA : Hid (∀ w, Calls Try.prog 13 #[.string ⟨a.toArray⟩] w fun e w' => e = .returned (.complex .f64 fa ga) ∧ w = w') := Lib.hid (fun w => by rw [← hfa, ← hga]; exact Weight_any a w (by omega))
    have CB : Hid (∀ w, Calls Try.prog 13 #[.string ⟨b.toArray⟩] w fun e w' => e = .returned (.complex .f64 fb gb) ∧ w = w') := Lib.hid (fun w => by rw [← hfb, ← hgb]; exact Weight_any b w (by omega))
    clear hfa hfb hga hgb
    obtain ⟨x, hx⟩ : ∃ x, gcmp a b = x := ⟨_, rfl⟩
    obtain ⟨x', hx'⟩ : ∃ x, gcmp b a = x := ⟨_, rfl⟩
    obtain ⟨y, hy⟩ : ∃ x, gcmp b c = x := ⟨_, rfl⟩
    obtain ⟨v, hv⟩ : ∃ x, gcmp a c = x := ⟨_, rfl⟩
    have C1 : Hid (∀ w, Calls Try.prog 14 #[.string ⟨a.toArray⟩, .string ⟨b.toArray⟩] w fun e w' => e = .returned (.int .i64 x) ∧ Below w.heap.size w w') := Lib.hid (fun w => by rw [← hx]; exact Compare_any a b w (by omega) (by omega))
    have C2 : Hid (∀ w, Calls Try.prog 14 #[.string ⟨b.toArray⟩, .string ⟨c.toArray⟩] w fun e w' => e = .returned (.int .i64 y) ∧ Below w.heap.size w w') := Lib.hid (fun w => by rw [← hy]; exact Compare_any b c w (by omega) (by omega))
    have C3 : Hid (∀ w, Calls Try.prog 14 #[.string ⟨a.toArray⟩, .string ⟨c.toArray⟩] w fun e w' => e = .returned (.int .i64 v) ∧ Below w.heap.size w w') := Lib.hid (fun w => by rw [← hv]; exact Compare_any a c w (by omega) (by omega))
    have C4 : Hid (∀ w, Calls Try.prog 14 #[.string ⟨b.toArray⟩, .string ⟨a.toArray⟩] w fun e w' => e = .returned (.int .i64 x') ∧ Below w.heap.size w w') := Lib.hid (fun w => by rw [← hx']; exact Compare_any b a w (by omega) (by omega))
    have C5 : Hid (∀ w, Calls Try.prog 14 #[.string ⟨a.toArray⟩, .string ⟨a.toArray⟩] w fun e w' => e = .returned (.int .i64 0) ∧ Below w.heap.size w w') := Lib.hid (fun w => by rw [← sf.out]; exact Compare_any a a w (by omega) (by omega))
    rw [hx] at z ng tr bd1
    rw [hx'] at ng bd2
    rw [hy] at tr bd3
    rw [hv] at tr bd4
    clear hx hx' hy hv sf
    have hwq : (x = 0 ∧ FloatKind.f64.format.order fa fb = some .eq ∧ FloatKind.f64.format.order ga gb = some .eq) ∨ (x ≠ 0 ∧ ((FloatKind.f64.format.order fa fb == some .eq) = false ∨ (FloatKind.f64.format.order ga gb == some .eq) = false)) := by
      by_cases hx0 : x = 0
      · left
        obtain ⟨e1, e2⟩ := z.1 hx0
        refine ⟨hx0, ?_, ?_⟩
        · rw [o1, e1, Int.compare_eq_ite_lt, if_neg (by omega), if_neg (by omega)]
        · rw [o2, e2, Int.compare_eq_ite_lt, if_neg (by omega), if_neg (by omega)]
      · right
        refine ⟨hx0, ?_⟩
        by_cases e1 : aheadL a = aheadL b
        · right; rw [o2]; exact compare_ne (fun e2 => hx0 (z.2 ⟨e1, by omega⟩))
        · left; rw [o1]; exact compare_ne e1
    clear o1 o2 z hab hbb
    have NG := Lib.hid ng
    have hxx : (x == -x') = true := by rw [beq_iff_eq]; exact ng
    have htr : 0 < x ∨ (x ≤ 0 ∧ 0 < y) ∨ (x ≤ 0 ∧ y ≤ 0 ∧ v ≤ 0) := by omega
    obtain ⟨q1, q2⟩ := bd1
    obtain ⟨q3, q4⟩ := bd2
    obtain ⟨q5, q6⟩ := bd3
    obtain ⟨q7, q8⟩ := bd4
    clear ng tr
    rcases hwq with ⟨rfl, e1, e2⟩ | ⟨hx0, e1 | e1⟩
    · have htr : 0 < y ∨ (y ≤ 0 ∧ v ≤ 0) := by omega
      rcases htr with t1 | ⟨t1, t2⟩
      all_goals
        go_enter Try.func6, Try.ntmps6
        go_wp2_with fail
        refine (long_any 120 _ [a, b, c] _ (litS _ _ [a, b, c] 3 9 _ (by rw [heap_alloc_at, if_pos (by simp)]; rfl) rfl (by decide)) (by decide) (by decide) (by simp) (by intro x hx; simp at hx; rcases hx with rfl | rfl | rfl <;> omega)).mono ?_
        rintro e w1 ⟨rfl, k, rfl⟩
        rw [HL.out]
        go_wp2_with fail
        refine (C1.out _).mono ?_
        rintro e x1 ⟨rfl, hb1⟩
        have HB1 := Lib.hid hb1
        clear hb1
        go_wp2_with fail
        refine (C2.out _).mono ?_
        rintro e x2 ⟨rfl, hb2⟩
        have HB2 := Lib.hid hb2
        clear hb2
        go_wp2_with fail
        refine (C3.out _).mono ?_
        rintro e x3 ⟨rfl, hb3⟩
        have HB3 := Lib.hid hb3
        clear hb3
        go_wp2_with fail
        refine (C4.out _).mono ?_
        rintro e x4 ⟨rfl, hb4⟩
        have HB4 := Lib.hid hb4
        clear hb4
        go_wp2_with fail
        refine (C5.out _).mono ?_
        rintro e x5 ⟨rfl, hb5⟩
        have HB5 := Lib.hid hb5
        clear hb5
        go_wp2_with fail
        refine (CA.out _).mono ?_
        rintro e w' ⟨rfl, rfl⟩
        go_wp2_with fail
        refine (CB.out _).mono ?_
        rintro e w' ⟨rfl, rfl⟩
        go_wp2_with fail
        refine (awake24_any _).mono ?_
        rintro e x6 ⟨rfl, hb⟩
        go_wp2
        go_ret
        exact ⟨by first | (simp; done) | (simp; omega), ext_trans (ext_trans (ext_trans (ext_trans (ext_trans (ext_trans (below_drewN (ext_alloc w _) _) HB1.out) HB2.out) HB3.out) HB4.out) HB5.out) hb⟩
    · have hx1 : (x == 0) = false := by rw [beq_eq_false_iff_ne]; exact hx0
      clear hx0
      rcases htr with t1 | ⟨t1, t2⟩ | ⟨t1, t2, t3⟩
      all_goals
        go_enter Try.func6, Try.ntmps6
        go_wp2_with fail
        refine (long_any 120 _ [a, b, c] _ (litS _ _ [a, b, c] 3 9 _ (by rw [heap_alloc_at, if_pos (by simp)]; rfl) rfl (by decide)) (by decide) (by decide) (by simp) (by intro x hx; simp at hx; rcases hx with rfl | rfl | rfl <;> omega)).mono ?_
        rintro e w1 ⟨rfl, k, rfl⟩
        rw [HL.out]
        go_wp2_with fail
        refine (C1.out _).mono ?_
        rintro e x1 ⟨rfl, hb1⟩
        have HB1 := Lib.hid hb1
        clear hb1
        go_wp2_with fail
        refine (C2.out _).mono ?_
        rintro e x2 ⟨rfl, hb2⟩
        have HB2 := Lib.hid hb2
        clear hb2
        go_wp2_with fail
        refine (C3.out _).mono ?_
        rintro e x3 ⟨rfl, hb3⟩
        have HB3 := Lib.hid hb3
        clear hb3
        go_wp2_with fail
        refine (C4.out _).mono ?_
        rintro e x4 ⟨rfl, hb4⟩
        have HB4 := Lib.hid hb4
        clear hb4
        go_wp2_with fail
        refine (C5.out _).mono ?_
        rintro e x5 ⟨rfl, hb5⟩
        have HB5 := Lib.hid hb5
        clear hb5
        go_wp2_with fail
        refine (CA.out _).mono ?_
        rintro e w' ⟨rfl, rfl⟩
        go_wp2_with fail
        refine (CB.out _).mono ?_
        rintro e w' ⟨rfl, rfl⟩
        go_wp2_with fail
        refine (awake24_any _).mono ?_
        rintro e x6 ⟨rfl, hb⟩
        go_wp2
        go_ret
        exact ⟨by first | (simp; done) | (simp; omega), ext_trans (ext_trans (ext_trans (ext_trans (ext_trans (ext_trans (below_drewN (ext_alloc w _) _) HB1.out) HB2.out) HB3.out) HB4.out) HB5.out) hb⟩
    · have hx1 : (x == 0) = false := by rw [beq_eq_false_iff_ne]; exact hx0
      clear hx0
      rcases htr with t1 | ⟨t1, t2⟩ | ⟨t1, t2, t3⟩
      all_goals
        go_enter Try.func6, Try.ntmps6
        go_wp2_with fail
        refine (long_any 120 _ [a, b, c] _ (litS _ _ [a, b, c] 3 9 _ (by rw [heap_alloc_at, if_pos (by simp)]; rfl) rfl (by decide)) (by decide) (by decide) (by simp) (by intro x hx; simp at hx; rcases hx with rfl | rfl | rfl <;> omega)).mono ?_
        rintro e w1 ⟨rfl, k, rfl⟩
        rw [HL.out]
        go_wp2_with fail
        refine (C1.out _).mono ?_
        rintro e x1 ⟨rfl, hb1⟩
        have HB1 := Lib.hid hb1
        clear hb1
        go_wp2_with fail
        refine (C2.out _).mono ?_
        rintro e x2 ⟨rfl, hb2⟩
        have HB2 := Lib.hid hb2
        clear hb2
        go_wp2_with fail
        refine (C3.out _).mono ?_
        rintro e x3 ⟨rfl, hb3⟩
        have HB3 := Lib.hid hb3
        clear hb3
        go_wp2_with fail
        refine (C4.out _).mono ?_
        rintro e x4 ⟨rfl, hb4⟩
        have HB4 := Lib.hid hb4
        clear hb4
        go_wp2_with fail
        refine (C5.out _).mono ?_
        rintro e x5 ⟨rfl, hb5⟩
        have HB5 := Lib.hid hb5
        clear hb5
        go_wp2_with fail
        refine (CA.out _).mono ?_
        rintro e w' ⟨rfl, rfl⟩
        go_wp2_with fail
        refine (CB.out _).mono ?_
        rintro e w' ⟨rfl, rfl⟩
        go_wp2_with fail
        refine (awake24_any _).mono ?_
        rintro e x6 ⟨rfl, hb⟩
        go_wp2
        go_ret
        exact ⟨by first | (simp; done) | (simp; omega), ext_trans (ext_trans (ext_trans (ext_trans (ext_trans (ext_trans (below_drewN (ext_alloc w _) _) HB1.out) HB2.out) HB3.out) HB4.out) HB5.out) hb⟩
theorem GlobOrders_walk (s0 s1 s2 : ByteArray) (w : World) (w0 : s0.size ≤ maxLen) (w1 : s1.size ≤ maxLen) (w2 : s2.size ≤ maxLen) :
    Calls Try.prog 6 #[.string s0, .string s1, .string s2] w fun e w' => e = .returned (.bool true) ∧ Below w.heap.size w w' := by
  rw [str_is s0, str_is s1, str_is s2]
  exact orders_walk _ _ _ w (str_len w0) (str_len w1) (str_len w2)
end Go.Proofs.Ytiomkjpgoehchaa
