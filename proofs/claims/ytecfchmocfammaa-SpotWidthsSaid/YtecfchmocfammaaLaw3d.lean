/- The walk of SpotWidths. -/
import Derived.Test.YtecfchmocfammaaLaw3a
set_option linter.unusedVariables false
set_option linter.unusedSimpArgs false
namespace Go.Proofs.Ytecfchmocfammaa
open Go.RowKit

theorem F4_eq : F 4 = 4616189618054758400 := by decide +kernel
theorem nl_r {l : List UInt8} : ∀ (k i : Nat) (r lo hi : Int), (nl l k i r lo hi).2.2 = false → (nl l k i r lo hi).1 = 65533
  | 0, i, r, lo, hi, h => by simp [nl] at h
  | k + 1, i, r, lo, hi, h => by
    unfold nl at h ⊢
    split
    · rename_i c; rw [if_pos c] at h; exact nl_r k _ _ _ _ h
    · rfl
theorem next_none {l : List UInt8} (hl : 0 < l.length) (h : (nextL l).2.2 = false) : (nextL l).1 = 65533 := by
  unfold nextL at h ⊢
  rw [if_neg (by omega)] at h ⊢
  split
  · rename_i c; rw [if_pos c] at h; simp at h
  · rename_i c
    rw [if_neg c] at h
    split
    · rfl
    · rename_i c2; rw [if_neg c2] at h; exact nl_r _ _ _ _ _ h
theorem next_ten {l : List UInt8} (hl : 0 < l.length) (h : (nextL l).1 = 10) : (10 : UInt8) ∈ l := by
  obtain ⟨r, n, b, e⟩ : ∃ r n b, nextL l = (r, n, b) := ⟨_, _, _, rfl⟩
  cases b with
  | false => have := next_none hl (by rw [e]); omega
  | true =>
    obtain ⟨-, h2, -⟩ := next_valid e
    rw [e] at h
    simp only at h
    subst h
    have h3 : (10 : UInt8) ∈ l.take n := by rw [← h2]; decide
    exact List.mem_of_mem_take h3
theorem dec_ten : ∀ (n : Nat) (l : List UInt8), l.length ≤ n → (10 : UInt8) ∉ l → (10 : Int) ∉ decL l := by
  intro n
  induction n with
  | zero => intro l h _; rw [decL_nil (by omega)]; simp
  | succ n ih =>
    intro l h hm
    by_cases h0 : l.length = 0
    · rw [decL_nil h0]; simp
    · have hn := nextL_n l (by omega)
      rw [decL_cons (by omega)]
      intro hc
      rcases List.mem_cons.1 hc with hc | hc
      · exact hm (next_ten (by omega) hc.symm)
      · exact ih _ (by simp; omega) (fun h => hm (List.mem_of_mem_drop h)) hc
theorem posL_plain (rs : List Int) (h : (10 : Int) ∉ rs) : ∀ p : Int × Int, posL p rs = (p.1, p.2 + rs.length) := by
  induction rs with
  | nil => intro p; simp [posL]
  | cons r t ih =>
    intro p
    rw [posL_cons, ih (fun hc => h (List.mem_cons_of_mem _ hc))]
    have : r ≠ 10 := fun hc => h (by rw [hc]; exact List.mem_cons_self)
    unfold posS
    rw [if_neg this]
    simp only [List.length_cons]
    congr 1
    push_cast; omega
/-- What is left without line feeds. -/
def noN (l : List UInt8) : List UInt8 := l.filter fun b => decide ((b.toNat : Int) ≠ 10)
theorem noN_ten (l : List UInt8) : (10 : UInt8) ∉ noN l := by
  unfold noN
  intro h
  have := (List.mem_filter.1 h).2
  simp at this
theorem noN_take (l : List UInt8) (i : Nat) (h : i < l.length) : noN (l.take (i + 1)) = noN (l.take i) ++ (if byt l i = 10 then [] else ((l.take (i + 1)).drop i)) := by
  rw [List.take_succ_eq_append_getElem h]
  unfold noN
  rw [List.filter_append]
  congr 1
  have e : byt l i = ((l[i]).toNat : Int) := by unfold byt; simp [List.getD, h]
  rw [e, List.drop_append_of_le_length (by simp; omega), List.drop_eq_nil_of_le (by simp; omega), List.nil_append]
  by_cases c : ((l[i]).toNat : Int) = 10
  · rw [if_pos c]; simp [c]
  · rw [if_neg c]; simp; omega
theorem noN_len (l : List UInt8) : (noN l).length ≤ l.length := List.length_filter_le _ _

set_option maxRecDepth 100000 in
set_option maxHeartbeats 4000000 in
theorem widths_walk (l : List UInt8) (y0 : Int) (w : World) (hs : l.length ≤ 9223372036854775807) (n10 : -9223372036854775808 ≤ y0) (n11 : y0 ≤ 9223372036854775807) :
    Calls Try.prog 7 #[.string ⟨l.toArray⟩, .int .i64 y0] w fun e w' => e = .returned (.bool true) ∧ Below w.heap.size w w' := by
  by_cases hlen : 200 < l.length
  · go_enter Try.func7, Try.ntmps7
    go_wp2_with fail
    refine (awake3_any _).mono ?_
    rintro e w1 ⟨rfl, hb⟩
    go_wp2
    go_ret
    exact ⟨rfl, hb⟩
  · have HT := Lib.hid (noN_take l)
    have HTL := Lib.hid (fun i => noN_len (l.take i))
    go_enter Try.func7, Try.ntmps7
    go_wp2_with fail
    go_loopw [5, 6] (fun ts ti wr => ∃ (i : Nat) (t : List UInt8), i ≤ l.length ∧ ti = .int .i64 i ∧ ts = .string ⟨t.toArray⟩ ∧ Hid (noN (l.take i) = t) ∧ wr = w) (fun _ ti _ => l.length - (intOf ti).toNat)
    case atStart => exact ⟨0, [], by omega, rfl, rfl, Lib.hid rfl, rfl⟩
    case round =>
      obtain ⟨i, t, hi, rfl, rfl, HTI, rfl⟩ := hrel
      by_cases hlt : i < l.length
      · have h1 := HT.out i hlt
        have htl := HTL.out i
        rw [HTI.out, List.length_take] at htl
        rw [HTI.out] at h1
        by_cases h10 : byt l i = 10
        · rw [if_pos h10, List.append_nil] at h1
          have H1 := Lib.hid h1
          clear h1
          have e0 : (byt l i == 10) = true := by rw [beq_iff_eq]; exact h10
          have e1 : (byt l i != 10) = false := by rw [bne, e0]; rfl
          go_wp2_with fail
          exact ⟨⟨i + 1, t, by omega, by go_num, rfl, H1, by trivial⟩, by simp [intOf]; omega⟩
        · rw [if_neg h10] at h1
          have H1 := Lib.hid h1
          have hl1 : ((l.take (i + 1)).drop i).length ≤ 1 := by simp; omega
          have hadd : t.length + ((l.take (i + 1)).drop i).length ≤ 9223372036854775807 := by omega
          clear h1
          have e0 : (byt l i == 10) = false := by rw [beq_eq_false_iff_ne]; exact h10
          have e1 : (byt l i != 10) = true := by rw [bne, e0]; rfl
          go_wp2_with fail
          exact ⟨⟨i + 1, _, by omega, by go_num, rfl, H1, by trivial⟩, by simp [intOf]; omega⟩
      · obtain rfl : i = l.length := by omega
        rw [List.take_length] at HTI
        have htl := HTL.out l.length
        rw [List.take_length, HTI.out] at htl
        have hno := noN_ten l
        rw [HTI.out] at hno
        have hnd := dec_ten _ t (Nat.le_refl _) hno
        have hdl := decL_len _ t (Nat.le_refl _)
        have hpl := posL_plain _ hnd
        obtain ⟨c1, c2⟩ := lowN_bd y0 1000 (by decide)
        have LY := Lib.hid (low_any y0 1000 · n10 n11 (by decide) (by decide))
        generalize lowN y0 1000 = b at *
        have b2 : b ≤ 999 := by omega
        clear c2 HT HTL HTI hno hnd
        obtain ⟨b', hb'⟩ : ∃ b' : Int, 1 + b = b' := ⟨_, rfl⟩
        have B1 : 1 ≤ b' := by omega
        have B2 : b' ≤ 1000 := by omega
        have HB' := Lib.hid hb'
        clear hb'
        have hd10 : decL (10 :: t) = 10 :: decL t := (dec_enc 10 (by unfold okR; omega) t).1
        obtain ⟨m, hm⟩ : ∃ m : Int, ((decL t).length : Int) = m := ⟨_, rfl⟩
        have m0 : 0 ≤ m := by omega
        have m1 : m ≤ 200 := by omega
        have C4 : Hid (∀ v w, IsStr w v [t] → Calls Try.prog 12 #[v] w fun e w' => e = .returned (.complex .f64 (F m) (F (unL (decL t)))) ∧ Below w.heap.size w w') := Lib.hid (fun v w hv => by
          have := Wide_any v [t] w hv (by simp) (by rw [lenL_one]; omega)
          rw [cpL_one, uuL_one, hm] at this; exact this)
        have C3 : Hid (∀ w, Calls Try.prog 11 #[.string ⟨t.toArray⟩, .int .i64 t.length] w fun e w' => e = .returned (.complex .f64 4607182418800017408 (F (1 + m))) ∧ Below w.heap.size w w') := Lib.hid (fun w => by
          have := At_any t t.length w (by omega) (by omega) (by omega)
          rw [show plcL t t.length = (1, 1 + m) from by unfold plcL; rw [show cutK t (t.length : Int) = t.length from by unfold cutK; omega, List.take_length, hpl, hm]] at this
          rw [← F1_eq]; exact this)
        have CB : Hid (∀ w, Calls Try.prog 20 #[.complex .f64 4613937818241073152 (F b'), .string ⟨t.toArray⟩] w fun e w' => e = .returned (.complex .f64 4613937818241073152 (F (b' + m))) ∧ Below w.heap.size w w') := Lib.hid (fun w => by
          have := Behind_any 3 b' t w (by omega) (by decide) (by omega) (by decide) (by omega)
          rw [hpl, hm] at this
          rw [← F3_eq]; exact this)
        have CN : Hid (∀ w, Calls Try.prog 20 #[.complex .f64 4613937818241073152 (F b'), .string ⟨(10 :: t).toArray⟩] w fun e w' => e = .returned (.complex .f64 4616189618054758400 (F (1 + m))) ∧ Below w.heap.size w w') := Lib.hid (fun w => by
          have := Behind_any 3 b' (10 :: t) w (by simp; omega) (by decide) (by omega) (by decide) (by omega)
          rw [hd10, posL_cons, hpl, hm] at this
          rw [← F3_eq, ← F4_eq]; exact this)
        have e1 : ∀ w, (binOp .add 34 (.float .f64 4607182418800017408) (.float .f64 (F m))).run Try.prog w = .ok (.float .f64 (F (1 + m))) w := fun w => by rw [← F1_eq]; exact run_fadd _ _ 1 m (by omega) (by omega) w
        have e2 : ∀ w, (binOp .add 34 (.float .f64 (F b')) (.float .f64 (F m))).run Try.prog w = .ok (.float .f64 (F (b' + m))) w := fun w => run_fadd _ _ b' m (by omega) (by omega) w
        have o1 := F_self (1 + m) (by omega) (by omega)
        have o2 := F_self (b' + m) (by omega) (by omega)
        have hcat : [(10 : UInt8)].length + t.length ≤ 9223372036854775807 := by simp; omega
        clear hm hpl hd10 hdl
        go_wp2_with fail
        refine (C4.out _ _ (litS _ _ [t] 1 9 (0, 0) (by rw [heap_alloc_at, if_pos (by simp)]; rfl) rfl (by decide))).mono ?_
        rintro e w4 ⟨rfl, hb4⟩
        have HB4 := Lib.hid hb4
        clear hb4
        go_wp2_with fail
        refine (LY.out _).mono ?_
        rintro e w' ⟨rfl, rfl⟩
        go_wp2_with fail
        rw [show floatOfInt .f64 (1 + b) = F b' from by rw [HB'.out]; rfl]
        generalize F m = fm at *
        generalize F b' = fb at *
        generalize F (1 + m) = f1m at *
        generalize F (b' + m) = fbm at *
        refine (C3.out _).mono ?_
        rintro e w5 ⟨rfl, hb5⟩
        have HB5 := Lib.hid hb5
        clear hb5
        go_wp2_with fail
        refine (CB.out _).mono ?_
        rintro e w6 ⟨rfl, hb6⟩
        have HB6 := Lib.hid hb6
        clear hb6
        go_wp2_with fail
        refine (CN.out _).mono ?_
        rintro e w7 ⟨rfl, hb7⟩
        have HB7 := Lib.hid hb7
        clear hb7
        go_wp2_with fail
        refine (awake3_any _).mono ?_
        rintro e w8 ⟨rfl, hb⟩
        go_wp2
        go_ret
        exact ⟨rfl, ext_trans (ext_trans (ext_trans (ext_trans (ext_trans (ext_alloc _ _) HB4.out) HB5.out) HB6.out) HB7.out) hb⟩
theorem SpotWidths_walk (s0 : ByteArray) (a1 : Int) (w : World) (w0 : s0.size ≤ maxLen) (w1 : (Lit.int .i64 a1).wf = true) :
    Calls Try.prog 7 #[.string s0, .int .i64 a1] w fun e w' => e = .returned (.bool true) ∧ Below w.heap.size w w' := by
  obtain ⟨n10, n11⟩ := wf64 w1
  rw [str_is s0]
  exact widths_walk _ a1 w (str_len w0) n10 n11
end Go.Proofs.Ytecfchmocfammaa
