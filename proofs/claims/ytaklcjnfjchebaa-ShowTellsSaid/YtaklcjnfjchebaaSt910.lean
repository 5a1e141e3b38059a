import Derived.Laws.AppendOwnNone
import Derived.Laws.BytesArg
import Derived.Lib.SlBytesConst
import Derived.IntWalk
import Derived.Outline
import Derived.Test.YtaklcjnfjchebaaSt98
import Derived.Test.YtaklcjnfjchebaaSt99
set_option linter.unusedVariables false
set_option linter.unusedSimpArgs false
namespace Go.Proofs.Ytaklcjnfjchebaa
open Go.RowKit
section
def Own (w : World) (B : Nat) (e : TypeId) (v : Value) (xs : List Value) : Prop := w.ownsRow B e 1 v xs.length xs
theorem Own.nil (w : World) (B : Nat) (e : TypeId) : Own w B e (.slice none 0 0) [] := World.ownsRow_nil w B e 1
theorem Own.kept {w w' : World} {B : Nat} {e : TypeId} {v : Value} {xs : List Value} {row : Option Nat} (h : Own w B e v xs) (hg : w.grownBy w' row) (hne : v.ownBlock = none ∨ v.ownBlock ≠ row) : Own w' B e v xs := World.ownsRow.kept h hg hne
theorem grownBy_trans {a b c : World} {row : Option Nat} (h : a.grownBy b row) (k : b.grownBy c row) : a.grownBy c row :=
  ⟨k.os.trans h.os, k.tape.trans h.tape, k.output.trans h.output, Nat.le_trans h.size k.size, fun i hi hr => (k.block i (Nat.lt_of_lt_of_le hi h.size) hr).trans (h.block i hi hr)⟩
theorem grownBy_drew (a : World) (n : Nat) (row : Option Nat) : a.grownBy (a.drewN n) row := ⟨rfl, rfl, rfl, Nat.le_refl _, fun _ _ _ => rfl⟩
theorem Own.base {w : World} {B B' : Nat} {e : TypeId} {v : Value} {xs : List Value} (h : Own w B e v xs) (hB : B' ≤ B) : Own w B' e v xs := by
  refine ⟨h.1, ?_⟩
  rcases h.2 with hn | ⟨g, cap, cur, hv, hg, r⟩
  · exact .inl hn
  · exact .inr ⟨g, cap, cur, hv, Nat.le_trans hB hg, r⟩
theorem Own.row {w : World} {B : Nat} {e : TypeId} {v : Value} {xs : List Value} (h : Own w B e v xs) : ∀ k, v.ownBlock = some k → B ≤ k ∧ k < w.heap.size := World.ownsRow.lt h
theorem Own.below {w w' : World} {B : Nat} {e : TypeId} {v : Value} {xs : List Value} (h : Own w B e v xs) (hw : Below w.heap.size w w') : Own w' B e v xs := by
  refine ⟨h.1, ?_⟩
  rcases h.2 with hn | ⟨g, cap, cur, hv, hg, hh, r⟩
  · exact .inl hn
  · exact .inr ⟨g, cap, cur, hv, hg, by rw [hw.block g (Array.getElem?_eq_some_iff.1 hh).1]; exact hh, r⟩
theorem Own.drew {w : World} {B : Nat} {e : TypeId} {v : Value} {xs : List Value} (h : Own w B e v xs) (n : Nat) : Own (w.drewN n) B e v xs := h
section
variable {P : Program} {ops : Array Oper} {rest : List Oper} {o : Oper} {a : Act} {Q : Exit → Act → World → Prop}
theorem wpList_met {w : World} (hw : Region.wanted o (yielded ops a.tmps) = true)
    (h : ∀ K : Act → World → Prop, (∀ a w, wpList P ops Q rest a w → K a w) → o.wp P a w K Q) : wpList P ops Q (o :: rest) a w :=
  wpList_step fun K hK => by simp only [hw, if_true]; exact h K hK
theorem Own.lit (w : World) (B : Nat) (e : TypeId) (cs : Array Value) (n : Nat) (hn : cs.toList.length = n) (hB : B ≤ w.heap.size) (hm : n ≤ 9223372036854775807) :
    Own (w.alloc (.cells cs e)) B e (.slice (some ⟨w.heap.size, 0, none⟩) n n) cs.toList := by
  subst hn
  exact ⟨by simp, .inr ⟨w.heap.size, _, cs, rfl, hB, heap_alloc_new w _, Nat.le_refl _, by unfold maxLen; omega, by simp, by simp; exact List.take_of_length_le (by simp)⟩⟩
end
end
set_option maxHeartbeats 1000000 in
theorem rvalid_any (v : Value) (l : List UInt8) (w : World) (hv : Is8 w v l) (hm : l.length ≤ 1000000) :
    Calls Try.prog 33 #[v] w fun e w' => e = .returned (.bool (validL l)) ∧ ∃ n, w' = w.drewN n := by
  obtain ⟨a, cap, rfl, hc1, hc2, -, hs⟩ := hv
  unfold maxLen at hc2
  by_cases hn : l.length = 0
  · have hN := validL_nil hn
    rw [hN, hn]
    clear hs hN
    go_enter Try.func33, Try.ntmps33
    go_wp2
    go_loopw [3] (fun ti wr => ti = .int .i64 0 ∧ wr = w) (fun _ _ => 0)
    case atStart => exact ⟨rfl, rfl⟩
    case round =>
      obtain ⟨rfl, rfl⟩ := hrel
      go_wp2
      go_ret
      exact ⟨rfl, 0, rfl⟩
  obtain ⟨b, off, rfl, hc⟩ := hs (by omega)
  have HC := Lib.hid hc
  clear hs hc
  go_enter Try.func33, Try.ntmps33
  go_wp2
  go_loopw [3] (fun ti wr => ∃ k : Nat, k ≤ l.length ∧ ti = .int .i64 k ∧ (∃ n, wr = w.drewN n) ∧ Hid (validL l = validL (l.drop k))) (fun ti _ => l.length - (intOf ti).toNat)
  case atStart => exact ⟨0, by omega, rfl, ⟨0, rfl⟩, Lib.hid (by simp)⟩
  case round =>
    obtain ⟨k, hk, rfl, ⟨n, rfl⟩, HR⟩ := hrel
    by_cases hlt : k < l.length
    · have hkc : ¬ k = cap := by omega
      have hkc' : k < cap := by omega
      have HI : Hid (Is8 w (.slice (some ⟨b, off + k, none⟩) (l.length - k) (cap - k)) (l.drop k)) := Lib.hid (Is8.dropAt HC.out k hlt hc1 (by unfold maxLen; omega))
      have hnn := nextL_n (l.drop k) (by simp; omega)
      have HV := Lib.hid (validL_cons (l := l.drop k) (by simp; omega))
      simp only [List.length_drop] at hnn
      obtain ⟨hn1, hn2, -⟩ := hnn
      go_wp2_with fail
      refine (rnext_any _ (l.drop k) _ (IsSl.drew HI.out) (by simp; omega)).mono ?_
      rintro e w' ⟨rfl, n2, rfl⟩
      rw [List.drop_drop] at HV
      generalize nextL (l.drop k) = t at *
      obtain ⟨r, nn, ok⟩ := t
      cases ok
      · go_wp2
        go_ret
        exact ⟨by rw [HR.out, HV.out]; rfl, _, rfl⟩
      · go_wp2
        go_roundw
        case rel => exact ⟨k + nn, by omega, by go_num, ⟨_, rfl⟩, Lib.hid (by rw [HR.out, HV.out]; simp)⟩
        case measure => simp [intOf]; omega
    · obtain rfl : k = l.length := by omega
      go_wp2
      go_ret
      exact ⟨by rw [HR.out, validL_nil (l := l.drop l.length) (by simp)]; rfl, _, rfl⟩
set_option maxHeartbeats 1000000 in
theorem valid_any (v : Value) (l : List UInt8) (w : World) (hv : Is8 w v l) (hm : l.length ≤ 1000000) :
    Calls Try.prog 29 #[v] w fun e w' => e = .returned (.bool (validL l)) ∧ ∃ n, w' = w.drewN n := by
  obtain ⟨a, cap, rfl, hc1, hc2, -, hs⟩ := hv
  unfold maxLen at hc2
  by_cases hn : l.length = 0
  · have hN := validL_nil hn
    rw [hN, hn]
    clear hs hN
    go_enter Try.func29, Try.ntmps29
    go_wp2
    go_loopw [3] (fun ti wr => ti = .int .i64 0 ∧ wr = w) (fun _ _ => 0)
    case atStart => exact ⟨rfl, rfl⟩
    case round =>
      obtain ⟨rfl, rfl⟩ := hrel
      go_wp2
      go_ret
      exact ⟨rfl, 0, rfl⟩
  obtain ⟨b, off, rfl, hc⟩ := hs (by omega)
  have HC := Lib.hid hc
  clear hs hc
  go_enter Try.func29, Try.ntmps29
  go_wp2
  go_loopw [3] (fun ti wr => ∃ k : Nat, k ≤ l.length ∧ ti = .int .i64 k ∧ (∃ n, wr = w.drewN n) ∧ Hid (validL l = validL (l.drop k))) (fun ti _ => l.length - (intOf ti).toNat)
  case atStart => exact ⟨0, by omega, rfl, ⟨0, rfl⟩, Lib.hid (by simp)⟩
  case round =>
    obtain ⟨k, hk, rfl, ⟨n, rfl⟩, HR⟩ := hrel
    by_cases hlt : k < l.length
    · have hkc : ¬ k = cap := by omega
      have hkc' : k < cap := by omega
      have HI : Hid (Is8 w (.slice (some ⟨b, off + k, none⟩) (l.length - k) (cap - k)) (l.drop k)) := Lib.hid (Is8.dropAt HC.out k hlt hc1 (by unfold maxLen; omega))
      have hnn := nextL_n (l.drop k) (by simp; omega)
      have HV := Lib.hid (validL_cons (l := l.drop k) (by simp; omega))
      simp only [List.length_drop] at hnn
      obtain ⟨hn1, hn2, -⟩ := hnn
      go_wp2_with fail
      refine (next_any _ (l.drop k) _ (IsSl.drew HI.out) (by simp; omega)).mono ?_
      rintro e w' ⟨rfl, n2, rfl⟩
      rw [List.drop_drop] at HV
      generalize nextL (l.drop k) = t at *
      obtain ⟨r, nn, ok⟩ := t
      cases ok
      · go_wp2
        go_ret
        exact ⟨by rw [HR.out, HV.out]; rfl, _, rfl⟩
      · go_wp2
        go_roundw
        case rel => exact ⟨k + nn, by omega, by go_num, ⟨_, rfl⟩, Lib.hid (by rw [HR.out, HV.out]; simp)⟩
        case measure => simp [intOf]; omega
    · obtain rfl : k = l.length := by omega
      go_wp2
      go_ret
      exact ⟨by rw [HR.out, validL_nil (l := l.drop l.length) (by simp)]; rfl, _, rfl⟩
theorem str_at (l : List UInt8) (i : Nat) (h : i < (⟨l.toArray⟩ : ByteArray).size) : (((⟨l.toArray⟩ : ByteArray)[i]'h).toNat : Int) = byt l i := by
  have hi : i < l.length := by simpa [ByteArray.size] using h
  unfold byt
  have e : (⟨l.toArray⟩ : ByteArray)[i]'h = l[i] := by
    show (l.toArray)[i]'_ = _
    simp
  rw [e]; simp [List.getD, hi]
theorem str_extract (l : List UInt8) (a b : Nat) : (⟨l.toArray⟩ : ByteArray).extract a b = ⟨((l.take b).drop a).toArray⟩ := by
  apply ByteArray.ext
  simp [ByteArray.data_extract, List.extract_eq_take_drop, List.drop_take]
theorem str_loop (l : List UInt8) : ∀ (n i : Nat) (r : List UInt8), l.length - i = n → i ≤ l.length → ByteArray.toList.loop ⟨l.toArray⟩ i r = r.reverse ++ l.drop i := by
  intro n
  induction n with
  | zero =>
    intro i r h1 h2
    rw [ByteArray.toList.loop, if_neg (by simp [ByteArray.size]; omega), List.drop_of_length_le (by omega), List.append_nil]
  | succ n ih =>
    intro i r h1 h2
    have hi : i < l.length := by omega
    rw [ByteArray.toList.loop, if_pos (by simp [ByteArray.size]; omega), ih (i + 1) _ (by omega) (by omega), List.drop_eq_getElem_cons hi]
    have e : (⟨l.toArray⟩ : ByteArray).get! i = l[i] := by
      show (l.toArray)[i]! = _
      simp [hi]
    rw [e]; simp
theorem str_toList (l : List UInt8) : (⟨l.toArray⟩ : ByteArray).toList = l := by
  unfold ByteArray.toList
  rw [str_loop l l.length 0 [] (by omega) (by omega)]; rfl
theorem str_size (l : List UInt8) : (⟨l.toArray⟩ : ByteArray).size = l.length := by simp [ByteArray.size]
theorem str_append (a b : List UInt8) : (⟨a.toArray⟩ : ByteArray) ++ ⟨b.toArray⟩ = ⟨(a ++ b).toArray⟩ := by
  apply ByteArray.ext; simp
attribute [simp, go_sem] str_at str_extract str_toList str_size str_append
def strV (l : List UInt8) : Value := .string ⟨l.toArray⟩
def strAt (ls : List (List UInt8)) (i : Nat) : Value := strV (ls.getD i [])
def IsStr (w : World) (v : Value) (ls : List (List UInt8)) : Prop := IsSl w v ls.length (strAt ls)
theorem IsStr.drew {w : World} {v : Value} {ls : List (List UInt8)} (h : IsStr w v ls) (k : Nat) : IsStr (w.drewN k) v ls := h
theorem IsStr.below {w w' : World} {v : Value} {ls : List (List UInt8)} (h : IsStr w v ls) (hw : Below w.heap.size w w') : IsStr w' v ls := IsSl.below h hw
theorem ret_b {a b : Bool} (h : a = b) : Ending.returned (.bool a) = .returned (.bool b) := by rw [h]
theorem ret_n {a b : Int} (h : a = b) : Ending.returned (.int .i64 a) = .returned (.int .i64 b) := by rw [h]
theorem tupIB {a a' : Int} {c c' : Bool} (h1 : a = a') (h3 : c = c') : Ending.returned (.tuple #[.int .i64 a, .bool c]) = .returned (.tuple #[.int .i64 a', .bool c']) := by rw [h1, h3]
set_option maxHeartbeats 1000000 in
theorem digit_any (c : Int) (w : World) :
    Calls Try.prog 56 #[.int .u8 c] w fun e w' => e = .returned (.bool (digC c)) ∧ w = w' := by
  by_cases h1 : 48 ≤ c
  · by_cases h2 : c ≤ 57
    · have HD := Lib.hid (digC_t ⟨h1, h2⟩)
      go_enter Try.func56, Try.ntmps56
      go_wp2_with fail
      go_ret
      exact ⟨ret_b HD.out.symm, by trivial⟩
    · have HD := Lib.hid (digC_f (c := c) (by omega))
      have h3 : 57 < c := by omega
      go_enter Try.func56, Try.ntmps56
      go_wp2_with fail
      go_ret
      exact ⟨ret_b HD.out.symm, by trivial⟩
  · have HD := Lib.hid (digC_f (c := c) (by omega))
    have h3 : c < 48 := by omega
    go_enter Try.func56, Try.ntmps56
    go_wp2_with fail
    go_ret
    exact ⟨ret_b HD.out.symm, by trivial⟩
set_option maxHeartbeats 1000000 in
theorem here_any (vb : Value) (b : List UInt8) (i : Nat) (w : World) (hv : Is8 w vb b) (hm : b.length ≤ 1000000) (hi : i ≤ 2000000) :
    Calls Try.prog 55 #[vb, .int .i64 i] w fun e w' => e = .returned (.int .u8 (byt b i)) ∧ w = w' := by
  obtain ⟨a, cap, rfl, hc1, hc2, -, hs⟩ := hv
  unfold maxLen at hc2
  by_cases h : i < b.length
  · obtain ⟨bb, off, rfl, hc⟩ := hs (by omega)
    have hcell : w.cell? ⟨bb, off + i, none⟩ = some (.int .u8 (byt b i)) := hc.at i h
    have hI : (i : Int) < (b.length : Int) := by omega
    obtain ⟨c, hcc⟩ : ∃ c, byt b i = c := ⟨_, rfl⟩
    rw [hcc] at hcell ⊢
    clear hcc hc hs
    go_enter Try.func55, Try.ntmps55
    go_wp2_with fail
    go_ret
    exact ⟨rfl, by trivial⟩
  · have HO := Lib.hid (byt_over (b := b) (i := i) (by omega))
    have hI : (b.length : Int) ≤ (i : Int) := by omega
    clear hs
    go_enter Try.func55, Try.ntmps55
    go_wp2_with fail
    go_ret
    exact ⟨by rw [HO.out]; rfl, by trivial⟩
set_option maxHeartbeats 1000000 in
theorem behind_any (vb : Value) (b : List UInt8) (i : Nat) (w : World) (hv : Is8 w vb b) (hm : b.length ≤ 1000000) (hi : i ≤ b.length) :
    Calls Try.prog 57 #[vb, .int .i64 i] w fun e w' => e = .returned (.int .i64 (digE b i)) ∧ w = w' := by
  have HH := Lib.hid (fun j (hj : j ≤ b.length) => here_any vb b j w hv hm (by omega))
  go_enter Try.func57, Try.ntmps57
  go_wp2_with fail
  go_loopw [1] (fun ti wr => ∃ j : Nat, j ≤ b.length ∧ ti = .int .i64 j ∧ Hid (digE b i = digE b j) ∧ wr = w) (fun ti _ => b.length - (intOf ti).toNat)
  case atStart => exact ⟨i, hi, rfl, Lib.hid rfl, rfl⟩
  case round =>
    obtain ⟨j, hj, rfl, HE, rfl⟩ := hrel
    have H1 := Lib.hid (HH.out j hj)
    have HD := Lib.hid (digit_any (byt b j))
    cases hd : digC (byt b j) with
    | true =>
      have hl := digC_lt hd
      have H2 := Lib.hid (HE.out.trans (digE_on hd))
      rw [hd] at HD
      clear hd
      go_wp2_with fail
      refine H1.out.mono ?_
      rintro e w' ⟨rfl, rfl⟩
      go_wp2_with fail
      refine (HD.out _).mono ?_
      rintro e w' ⟨rfl, rfl⟩
      go_wp2_with fail
      exact ⟨⟨j + 1, by omega, by go_num, H2, by trivial⟩, by simp [intOf]; omega⟩
    | false =>
      have H2 := Lib.hid (HE.out.trans (digE_off hd))
      rw [hd] at HD
      clear hd
      go_wp2_with fail
      refine H1.out.mono ?_
      rintro e w' ⟨rfl, rfl⟩
      go_wp2_with fail
      refine (HD.out _).mono ?_
      rintro e w' ⟨rfl, rfl⟩
      go_wp2_with fail
      go_ret
      exact ⟨ret_n (by rw [H2.out]), by trivial⟩
theorem numM_y {b : List UInt8} {i : Nat} (h : byt b i = 45) : numM b i = intM b (i + 1) := by unfold numM; rw [if_pos h]
theorem numM_n {b : List UInt8} {i : Nat} (h : byt b i ≠ 45) : numM b i = intM b i := by unfold numM; rw [if_neg h]
theorem intM_0 {b : List UInt8} {i : Nat} (h : byt b i = 48) : intM b i = fracM b (i + 1) := by unfold intM; rw [if_pos h]
theorem intM_d {b : List UInt8} {i : Nat} (h : byt b i ≠ 48) (hd : digC (byt b i) = true) : intM b i = fracM b (digE b i) := by unfold intM; rw [if_neg h, if_pos hd]
theorem intM_n {b : List UInt8} {i : Nat} (hd : digC (byt b i) = false) : intM b i = (i, false) := by
  have h : byt b i ≠ 48 := by intro h; rw [h] at hd; cases hd
  unfold intM; rw [if_neg h, if_neg (by rw [hd]; simp)]
theorem fracM_n {b : List UInt8} {i : Nat} (h : byt b i ≠ 46) : fracM b i = expM b i := by unfold fracM; rw [if_neg h]
theorem fracM_d {b : List UInt8} {i : Nat} (h : byt b i = 46) (hd : digC (byt b (i + 1)) = true) : fracM b i = expM b (digE b (i + 1)) := by unfold fracM; rw [if_pos h, if_pos hd]
theorem fracM_l {b : List UInt8} {i : Nat} (h : byt b i = 46) (hd : digC (byt b (i + 1)) = false) : fracM b i = (i + 1, false) := by unfold fracM; rw [if_pos h, if_neg (by rw [hd]; simp)]
theorem expM_n {b : List UInt8} {i : Nat} (h1 : byt b i ≠ 101) (h2 : byt b i ≠ 69) : expM b i = (i, true) := by unfold expM; rw [if_neg (by rintro (h | h); exact h1 h; exact h2 h)]
theorem expM_s {b : List UInt8} {i : Nat} (h : byt b i = 101 ∨ byt b i = 69) (hs : byt b (i + 1) = 43 ∨ byt b (i + 1) = 45) (d : Bool) (hd : digC (byt b (i + 2)) = d) : expM b i = if d = true then (digE b (i + 2), true) else (i + 2, false) := by
  unfold expM; rw [if_pos h]; simp only [if_pos hs]; rw [hd]
theorem expM_u {b : List UInt8} {i : Nat} (h : byt b i = 101 ∨ byt b i = 69) (h1 : byt b (i + 1) ≠ 43) (h2 : byt b (i + 1) ≠ 45) (d : Bool) (hd : digC (byt b (i + 1)) = d) : expM b i = if d = true then (digE b (i + 1), true) else (i + 1, false) := by
  have hs : ¬ (byt b (i + 1) = 43 ∨ byt b (i + 1) = 45) := by rintro (h | h); exact h1 h; exact h2 h
  unfold expM; rw [if_pos h]; simp only [if_neg hs]; rw [hd]
def NFr (vb : Value) (x : Int) (a : Act) : Prop := ∃ (u6 u7 u8 u9 u10 u11 u12 u13 u14 u15 u16 u17 u18 u19 u20 u21 u22 u23 u24 u25 u26 u27 u28 u29 u30 u31 u32 u33 u34 u35 u36 u37 u38 u39 u40 u41 u42 u43 u44 u45 u46 u47 u48 u49 u50 u51 u52 u53 u54 u55 u56 u57 u58 u59 u60 u61 u62 u63 u64 u65 u66 u67 u68 u69 u70 u71 u72 u73 : Value), a = { tmps := #[vb, .int .i64 x, undef, undef, .int .i64 0, .bool false, u6, u7, u8, u9, u10, u11, u12, u13, u14, u15, u16, u17, u18, u19, u20, u21, u22, u23, u24, u25, u26, u27, u28, u29, u30, u31, u32, u33, u34, u35, u36, u37, u38, u39, u40, u41, u42, u43, u44, u45, u46, u47, u48, u49, u50, u51, u52, u53, u54, u55, u56, u57, u58, u59, u60, u61, u62, u63, u64, u65, u66, u67, u68, u69, u70, u71, u72, u73], defers := [] }
def NumJ (vb : Value) (b : List UInt8) (i : Nat) (W : World) (l : Nat) (a : Act) (w : World) : Prop :=
  ∃ (j : Nat) (x : Int), x = (j : Int) ∧ j ≤ b.length ∧ w = W ∧ NFr vb x a ∧ ((l = 0 ∧ numM b i = fracM b j) ∨ (l = 2 ∧ numM b i = expM b j) ∨ (l = 1 ∧ numM b i = (j, false)))
def numμ (l : Nat) (a : Act) (w : World) : Nat := if l = 0 then 2 else if l = 2 then 1 else 0
theorem here_x (vb : Value) (b : List UInt8) (w : World) (hv : Is8 w vb b) (hm : b.length ≤ 1000000) (x : Int) (h0 : 0 ≤ x) (h1 : x ≤ 2000000) :
    Calls Try.prog 55 #[vb, .int .i64 x] w fun e w' => e = .returned (.int .u8 (byt b x.toNat)) ∧ w = w' := by
  obtain ⟨i, rfl⟩ := Int.eq_ofNat_of_zero_le h0
  exact here_any vb b i w hv hm (by omega)
theorem behind_x (vb : Value) (b : List UInt8) (w : World) (hv : Is8 w vb b) (hm : b.length ≤ 1000000) (x : Int) (h0 : 0 ≤ x) (h1 : x ≤ b.length) :
    Calls Try.prog 57 #[vb, .int .i64 x] w fun e w' => e = .returned (.int .i64 (digE b x.toNat)) ∧ w = w' := by
  obtain ⟨i, rfl⟩ := Int.eq_ofNat_of_zero_le h0
  exact behind_any vb b i w hv hm (by omega)
set_option maxRecDepth 100000 in
set_option maxHeartbeats 16000000 in
theorem number_any (vb : Value) (b : List UInt8) (i : Nat) (w : World) (hv : Is8 w vb b) (hm : b.length ≤ 1000000) (hi : i ≤ b.length) :
    Calls Try.prog 45 #[vb, .int .i64 i] w fun e w' => e = .returned (.tuple #[.int .i64 (numM b i).1, .bool (numM b i).2]) ∧ w = w' := by
  have HX := Lib.hid (fun x (h0 : 0 ≤ x) (h1 : x ≤ 2000000) => here_x vb b w hv hm x h0 h1)
  have BX := Lib.hid (fun x (h0 : 0 ≤ x) (h1 : x ≤ (b.length : Int)) => behind_x vb b w hv hm x h0 h1)
  go_enter Try.func45, Try.ntmps45
  go_wp2_with fail
  refine wp_scope_labels (NumJ vb b i w) numμ ?_ ?_
  · clear hv
    by_cases hmin : byt b i = 45
    · have hli : i < b.length := byt_lt hmin (by decide)
      have m0 : (byt b i == 45) = true := by rw [hmin]; rfl
      have HI0 := Lib.hid (numM_y hmin)
      have j1 : ((i : Int) + 1).toNat = i + 1 := by omega
      obtain ⟨p, hp⟩ : ∃ p, i + 1 = p := ⟨_, rfl⟩
      have hpI : (i : Int) + 1 = (p : Int) := by omega
      rw [hp] at HI0 j1
      have hpl : p ≤ b.length := by omega
      clear hmin hp
      have i1 : (((p : Nat) : Int) + 1).toNat = p + 1 := by omega
      by_cases h0 : byt b p = 48
      · have hlp : p < b.length := byt_lt h0 (by decide)
        have k0 : (byt b p == 48) = true := by rw [h0]; rfl
        have HF := Lib.hid (HI0.out.trans (intM_0 h0))
        clear h0
        go_wp2_with (first
          | (go_at_call 55; (with_reducible refine (HX.out _ (by omega) (by omega)).mono ?_); rintro e w' ⟨rfl, rfl⟩)
          | (go_at_call 56; (with_reducible refine (digit_any _ _).mono ?_); rintro e w' ⟨rfl, rfl⟩)
          | (go_at_call 57; (with_reducible refine (BX.out _ (by omega) (by omega)).mono ?_); rintro e w' ⟨rfl, rfl⟩))
        repeat (go_step3; try go_wp2_with (first
            | (go_at_call 55; (with_reducible refine (HX.out _ (by omega) (by omega)).mono ?_); rintro e w' ⟨rfl, rfl⟩)
            | (go_at_call 56; (with_reducible refine (digit_any _ _).mono ?_); rintro e w' ⟨rfl, rfl⟩)
            | (go_at_call 57; (with_reducible refine (BX.out _ (by omega) (by omega)).mono ?_); rintro e w' ⟨rfl, rfl⟩)))
        exact ⟨p + 1, _, by omega, by omega, rfl, ⟨_, _, _, _, _, _, _, _, _, _, _, _, _, _, _, _, _, _, _, _, _, _, _, _, _, _, _, _, _, _, _, _, _, _, _, _, _, _, _, _, _, _, _, _, _, _, _, _, _, _, _, _, _, _, _, _, _, _, _, _, _, _, _, _, _, _, _, _, rfl⟩, .inl ⟨rfl, HF.out⟩⟩
      · have k0 : (byt b p == 48) = false := by simpa using h0
        cases hid : digC (byt b p) with
        | true =>
          have hlp := digC_lt hid
          have HF0 := Lib.hid (HI0.out.trans (intM_d h0 hid))
          have hqb := digE_bd b p (by omega)
          obtain ⟨q, hq⟩ : ∃ q, digE b p = q := ⟨_, rfl⟩
          rw [hq] at HF0 hqb
          obtain ⟨hqb1, hqb2⟩ := hqb
          clear h0
          have f1 : (((q : Nat) : Int) + 1).toNat = q + 1 := by omega
          by_cases hdot : byt b q = 46
          · have hlq : q < b.length := byt_lt hdot (by decide)
            have g0 : (byt b q != 46) = false := by rw [hdot]; rfl
            cases hfd : digC (byt b (q + 1)) with
            | true =>
              have hlq2 := digC_lt hfd
              have HE0 := Lib.hid (HF0.out.trans (fracM_d hdot hfd))
              have hrb := digE_bd b (q + 1) (by omega)
              obtain ⟨r, hr⟩ : ∃ r, digE b (q + 1) = r := ⟨_, rfl⟩
              rw [hr] at HE0 hrb
              obtain ⟨hrb1, hrb2⟩ := hrb
              clear hdot
              have t1 : (((r : Nat) : Int) + 1).toNat = r + 1 := by omega
              have t2 : (((r : Nat) : Int) + 1 + 1).toNat = r + 2 := by omega
              have t3 : (((r : Nat) : Int) + 2).toNat = r + 2 := by omega
              have hcE : (byt b r = 101) ∨ (byt b r ≠ 101 ∧ byt b r = 69) ∨ (byt b r ≠ 101 ∧ byt b r ≠ 69) := by omega
              rcases hcE with hE | ⟨hE1, hE⟩ | ⟨hE1, hE2⟩
              · have g1 : (byt b r != 101) = false := by rw [hE]; rfl
                have hlr : r < b.length := byt_lt hE (by decide)
                have hEE : byt b r = 101 ∨ byt b r = 69 := .inl hE
                clear hE
                rcases (by omega : byt b (r + 1) = 43 ∨ (byt b (r + 1) ≠ 43 ∧ byt b (r + 1) = 45) ∨ (byt b (r + 1) ≠ 43 ∧ byt b (r + 1) ≠ 45)) with hS | ⟨hS1, hS⟩ | ⟨hS1, hS2⟩
                · have g3 : (byt b (r + 1) == 43) = true := by rw [hS]; rfl
                  have hlr2 : r + 1 < b.length := byt_lt hS (by decide)
                  have hSS : byt b (r + 1) = 43 ∨ byt b (r + 1) = 45 := .inl hS
                  clear hS
                  cases hD : digC (byt b (r + 2)) with
                  | true =>
                    have HF := Lib.hid (HE0.out.trans (expM_s hEE hSS true hD))
                    rw [if_pos rfl] at HF
                    have hld := digC_lt hD
                    have Hd := Lib.hid hD
                    clear hEE hSS
                    go_wp2_with (first
                      | (go_at_call 55; (with_reducible refine (HX.out _ (by omega) (by omega)).mono ?_); rintro e w' ⟨rfl, rfl⟩)
                      | (go_at_call 56; (with_reducible refine (digit_any _ _).mono ?_); rintro e w' ⟨rfl, rfl⟩)
                      | (go_at_call 57; (with_reducible refine (BX.out _ (by omega) (by omega)).mono ?_); rintro e w' ⟨rfl, rfl⟩))
                    repeat (go_step3; try go_wp2_with (first
                        | (go_at_call 55; (with_reducible refine (HX.out _ (by omega) (by omega)).mono ?_); rintro e w' ⟨rfl, rfl⟩)
                        | (go_at_call 56; (with_reducible refine (digit_any _ _).mono ?_); rintro e w' ⟨rfl, rfl⟩)
                        | (go_at_call 57; (with_reducible refine (BX.out _ (by omega) (by omega)).mono ?_); rintro e w' ⟨rfl, rfl⟩)))
                    try rw [toJ_ret]
                    go_ret2
                    exact ⟨tupIB (by rw [HF.out]) (by rw [HF.out]), by trivial⟩
                  | false =>
                    have HF := Lib.hid (HE0.out.trans (expM_s hEE hSS false hD))
                    rw [if_neg (by decide)] at HF
                    clear hEE hSS
                    go_wp2_with (first
                      | (go_at_call 55; (with_reducible refine (HX.out _ (by omega) (by omega)).mono ?_); rintro e w' ⟨rfl, rfl⟩)
                      | (go_at_call 56; (with_reducible refine (digit_any _ _).mono ?_); rintro e w' ⟨rfl, rfl⟩)
                      | (go_at_call 57; (with_reducible refine (BX.out _ (by omega) (by omega)).mono ?_); rintro e w' ⟨rfl, rfl⟩))
                    repeat (go_step3; try go_wp2_with (first
                        | (go_at_call 55; (with_reducible refine (HX.out _ (by omega) (by omega)).mono ?_); rintro e w' ⟨rfl, rfl⟩)
                        | (go_at_call 56; (with_reducible refine (digit_any _ _).mono ?_); rintro e w' ⟨rfl, rfl⟩)
                        | (go_at_call 57; (with_reducible refine (BX.out _ (by omega) (by omega)).mono ?_); rintro e w' ⟨rfl, rfl⟩)))
                    exact ⟨r + 2, _, by omega, by omega, rfl, ⟨_, _, _, _, _, _, _, _, _, _, _, _, _, _, _, _, _, _, _, _, _, _, _, _, _, _, _, _, _, _, _, _, _, _, _, _, _, _, _, _, _, _, _, _, _, _, _, _, _, _, _, _, _, _, _, _, _, _, _, _, _, _, _, _, _, _, _, _, rfl⟩, .inr (.inr ⟨rfl, HF.out⟩)⟩
                · have g3 : (byt b (r + 1) == 43) = false := by simpa using hS1
                  have g4 : (byt b (r + 1) == 45) = true := by rw [hS]; rfl
                  have hlr2 : r + 1 < b.length := byt_lt hS (by decide)
                  have hSS : byt b (r + 1) = 43 ∨ byt b (r + 1) = 45 := .inr hS
                  clear hS hS1
                  cases hD : digC (byt b (r + 2)) with
                  | true =>
                    have HF := Lib.hid (HE0.out.trans (expM_s hEE hSS true hD))
                    rw [if_pos rfl] at HF
                    have hld := digC_lt hD
                    have Hd := Lib.hid hD
                    clear hEE hSS
                    go_wp2_with (first
                      | (go_at_call 55; (with_reducible refine (HX.out _ (by omega) (by omega)).mono ?_); rintro e w' ⟨rfl, rfl⟩)
                      | (go_at_call 56; (with_reducible refine (digit_any _ _).mono ?_); rintro e w' ⟨rfl, rfl⟩)
                      | (go_at_call 57; (with_reducible refine (BX.out _ (by omega) (by omega)).mono ?_); rintro e w' ⟨rfl, rfl⟩))
                    repeat (go_step3; try go_wp2_with (first
                        | (go_at_call 55; (with_reducible refine (HX.out _ (by omega) (by omega)).mono ?_); rintro e w' ⟨rfl, rfl⟩)
                        | (go_at_call 56; (with_reducible refine (digit_any _ _).mono ?_); rintro e w' ⟨rfl, rfl⟩)
                        | (go_at_call 57; (with_reducible refine (BX.out _ (by omega) (by omega)).mono ?_); rintro e w' ⟨rfl, rfl⟩)))
                    try rw [toJ_ret]
                    go_ret2
                    exact ⟨tupIB (by rw [HF.out]) (by rw [HF.out]), by trivial⟩
                  | false =>
                    have HF := Lib.hid (HE0.out.trans (expM_s hEE hSS false hD))
                    rw [if_neg (by decide)] at HF
                    clear hEE hSS
                    go_wp2_with (first
                      | (go_at_call 55; (with_reducible refine (HX.out _ (by omega) (by omega)).mono ?_); rintro e w' ⟨rfl, rfl⟩)
                      | (go_at_call 56; (with_reducible refine (digit_any _ _).mono ?_); rintro e w' ⟨rfl, rfl⟩)
                      | (go_at_call 57; (with_reducible refine (BX.out _ (by omega) (by omega)).mono ?_); rintro e w' ⟨rfl, rfl⟩))
                    repeat (go_step3; try go_wp2_with (first
                        | (go_at_call 55; (with_reducible refine (HX.out _ (by omega) (by omega)).mono ?_); rintro e w' ⟨rfl, rfl⟩)
                        | (go_at_call 56; (with_reducible refine (digit_any _ _).mono ?_); rintro e w' ⟨rfl, rfl⟩)
                        | (go_at_call 57; (with_reducible refine (BX.out _ (by omega) (by omega)).mono ?_); rintro e w' ⟨rfl, rfl⟩)))
                    exact ⟨r + 2, _, by omega, by omega, rfl, ⟨_, _, _, _, _, _, _, _, _, _, _, _, _, _, _, _, _, _, _, _, _, _, _, _, _, _, _, _, _, _, _, _, _, _, _, _, _, _, _, _, _, _, _, _, _, _, _, _, _, _, _, _, _, _, _, _, _, _, _, _, _, _, _, _, _, _, _, _, rfl⟩, .inr (.inr ⟨rfl, HF.out⟩)⟩
                · have g3 : (byt b (r + 1) == 43) = false := by simpa using hS1
                  have g4 : (byt b (r + 1) == 45) = false := by simpa using hS2
                  cases hD : digC (byt b (r + 1)) with
                  | true =>
                    have HF := Lib.hid (HE0.out.trans (expM_u hEE hS1 hS2 true hD))
                    rw [if_pos rfl] at HF
                    have hld := digC_lt hD
                    have Hd := Lib.hid hD
                    clear hEE hS1 hS2
                    go_wp2_with (first
                      | (go_at_call 55; (with_reducible refine (HX.out _ (by omega) (by omega)).mono ?_); rintro e w' ⟨rfl, rfl⟩)
                      | (go_at_call 56; (with_reducible refine (digit_any _ _).mono ?_); rintro e w' ⟨rfl, rfl⟩)
                      | (go_at_call 57; (with_reducible refine (BX.out _ (by omega) (by omega)).mono ?_); rintro e w' ⟨rfl, rfl⟩))
                    repeat (go_step3; try go_wp2_with (first
                        | (go_at_call 55; (with_reducible refine (HX.out _ (by omega) (by omega)).mono ?_); rintro e w' ⟨rfl, rfl⟩)
                        | (go_at_call 56; (with_reducible refine (digit_any _ _).mono ?_); rintro e w' ⟨rfl, rfl⟩)
                        | (go_at_call 57; (with_reducible refine (BX.out _ (by omega) (by omega)).mono ?_); rintro e w' ⟨rfl, rfl⟩)))
                    try rw [toJ_ret]
                    go_ret2
                    exact ⟨tupIB (by rw [HF.out]) (by rw [HF.out]), by trivial⟩
                  | false =>
                    have HF := Lib.hid (HE0.out.trans (expM_u hEE hS1 hS2 false hD))
                    rw [if_neg (by decide)] at HF
                    clear hEE hS1 hS2
                    go_wp2_with (first
                      | (go_at_call 55; (with_reducible refine (HX.out _ (by omega) (by omega)).mono ?_); rintro e w' ⟨rfl, rfl⟩)
                      | (go_at_call 56; (with_reducible refine (digit_any _ _).mono ?_); rintro e w' ⟨rfl, rfl⟩)
                      | (go_at_call 57; (with_reducible refine (BX.out _ (by omega) (by omega)).mono ?_); rintro e w' ⟨rfl, rfl⟩))
                    repeat (go_step3; try go_wp2_with (first
                        | (go_at_call 55; (with_reducible refine (HX.out _ (by omega) (by omega)).mono ?_); rintro e w' ⟨rfl, rfl⟩)
                        | (go_at_call 56; (with_reducible refine (digit_any _ _).mono ?_); rintro e w' ⟨rfl, rfl⟩)
                        | (go_at_call 57; (with_reducible refine (BX.out _ (by omega) (by omega)).mono ?_); rintro e w' ⟨rfl, rfl⟩)))
                    exact ⟨r + 1, _, by omega, by omega, rfl, ⟨_, _, _, _, _, _, _, _, _, _, _, _, _, _, _, _, _, _, _, _, _, _, _, _, _, _, _, _, _, _, _, _, _, _, _, _, _, _, _, _, _, _, _, _, _, _, _, _, _, _, _, _, _, _, _, _, _, _, _, _, _, _, _, _, _, _, _, _, rfl⟩, .inr (.inr ⟨rfl, HF.out⟩)⟩
              · have g1 : (byt b r != 101) = true := by simpa using hE1
                have g2 : (byt b r != 69) = false := by rw [hE]; rfl
                have hlr : r < b.length := byt_lt hE (by decide)
                have hEE : byt b r = 101 ∨ byt b r = 69 := .inr hE
                clear hE hE1
                rcases (by omega : byt b (r + 1) = 43 ∨ (byt b (r + 1) ≠ 43 ∧ byt b (r + 1) = 45) ∨ (byt b (r + 1) ≠ 43 ∧ byt b (r + 1) ≠ 45)) with hS | ⟨hS1, hS⟩ | ⟨hS1, hS2⟩
                · have g3 : (byt b (r + 1) == 43) = true := by rw [hS]; rfl
                  have hlr2 : r + 1 < b.length := byt_lt hS (by decide)
                  have hSS : byt b (r + 1) = 43 ∨ byt b (r + 1) = 45 := .inl hS
                  clear hS
                  cases hD : digC (byt b (r + 2)) with
                  | true =>
                    have HF := Lib.hid (HE0.out.trans (expM_s hEE hSS true hD))
                    rw [if_pos rfl] at HF
                    have hld := digC_lt hD
                    have Hd := Lib.hid hD
                    clear hEE hSS
                    go_wp2_with (first
                      | (go_at_call 55; (with_reducible refine (HX.out _ (by omega) (by omega)).mono ?_); rintro e w' ⟨rfl, rfl⟩)
                      | (go_at_call 56; (with_reducible refine (digit_any _ _).mono ?_); rintro e w' ⟨rfl, rfl⟩)
                      | (go_at_call 57; (with_reducible refine (BX.out _ (by omega) (by omega)).mono ?_); rintro e w' ⟨rfl, rfl⟩))
                    repeat (go_step3; try go_wp2_with (first
                        | (go_at_call 55; (with_reducible refine (HX.out _ (by omega) (by omega)).mono ?_); rintro e w' ⟨rfl, rfl⟩)
                        | (go_at_call 56; (with_reducible refine (digit_any _ _).mono ?_); rintro e w' ⟨rfl, rfl⟩)
                        | (go_at_call 57; (with_reducible refine (BX.out _ (by omega) (by omega)).mono ?_); rintro e w' ⟨rfl, rfl⟩)))
                    try rw [toJ_ret]
                    go_ret2
                    exact ⟨tupIB (by rw [HF.out]) (by rw [HF.out]), by trivial⟩
                  | false =>
                    have HF := Lib.hid (HE0.out.trans (expM_s hEE hSS false hD))
                    rw [if_neg (by decide)] at HF
                    clear hEE hSS
                    go_wp2_with (first
                      | (go_at_call 55; (with_reducible refine (HX.out _ (by omega) (by omega)).mono ?_); rintro e w' ⟨rfl, rfl⟩)
                      | (go_at_call 56; (with_reducible refine (digit_any _ _).mono ?_); rintro e w' ⟨rfl, rfl⟩)
                      | (go_at_call 57; (with_reducible refine (BX.out _ (by omega) (by omega)).mono ?_); rintro e w' ⟨rfl, rfl⟩))
                    repeat (go_step3; try go_wp2_with (first
                        | (go_at_call 55; (with_reducible refine (HX.out _ (by omega) (by omega)).mono ?_); rintro e w' ⟨rfl, rfl⟩)
                        | (go_at_call 56; (with_reducible refine (digit_any _ _).mono ?_); rintro e w' ⟨rfl, rfl⟩)
                        | (go_at_call 57; (with_reducible refine (BX.out _ (by omega) (by omega)).mono ?_); rintro e w' ⟨rfl, rfl⟩)))
                    exact ⟨r + 2, _, by omega, by omega, rfl, ⟨_, _, _, _, _, _, _, _, _, _, _, _, _, _, _, _, _, _, _, _, _, _, _, _, _, _, _, _, _, _, _, _, _, _, _, _, _, _, _, _, _, _, _, _, _, _, _, _, _, _, _, _, _, _, _, _, _, _, _, _, _, _, _, _, _, _, _, _, rfl⟩, .inr (.inr ⟨rfl, HF.out⟩)⟩
                · have g3 : (byt b (r + 1) == 43) = false := by simpa using hS1
                  have g4 : (byt b (r + 1) == 45) = true := by rw [hS]; rfl
                  have hlr2 : r + 1 < b.length := byt_lt hS (by decide)
                  have hSS : byt b (r + 1) = 43 ∨ byt b (r + 1) = 45 := .inr hS
                  clear hS hS1
                  cases hD : digC (byt b (r + 2)) with
                  | true =>
                    have HF := Lib.hid (HE0.out.trans (expM_s hEE hSS true hD))
                    rw [if_pos rfl] at HF
                    have hld := digC_lt hD
                    have Hd := Lib.hid hD
                    clear hEE hSS
                    go_wp2_with (first
                      | (go_at_call 55; (with_reducible refine (HX.out _ (by omega) (by omega)).mono ?_); rintro e w' ⟨rfl, rfl⟩)
                      | (go_at_call 56; (with_reducible refine (digit_any _ _).mono ?_); rintro e w' ⟨rfl, rfl⟩)
                      | (go_at_call 57; (with_reducible refine (BX.out _ (by omega) (by omega)).mono ?_); rintro e w' ⟨rfl, rfl⟩))
                    repeat (go_step3; try go_wp2_with (first
                        | (go_at_call 55; (with_reducible refine (HX.out _ (by omega) (by omega)).mono ?_); rintro e w' ⟨rfl, rfl⟩)
                        | (go_at_call 56; (with_reducible refine (digit_any _ _).mono ?_); rintro e w' ⟨rfl, rfl⟩)
                        | (go_at_call 57; (with_reducible refine (BX.out _ (by omega) (by omega)).mono ?_); rintro e w' ⟨rfl, rfl⟩)))
                    try rw [toJ_ret]
                    go_ret2
                    exact ⟨tupIB (by rw [HF.out]) (by rw [HF.out]), by trivial⟩
                  | false =>
                    have HF := Lib.hid (HE0.out.trans (expM_s hEE hSS false hD))
                    rw [if_neg (by decide)] at HF
                    clear hEE hSS
                    go_wp2_with (first
                      | (go_at_call 55; (with_reducible refine (HX.out _ (by omega) (by omega)).mono ?_); rintro e w' ⟨rfl, rfl⟩)
                      | (go_at_call 56; (with_reducible refine (digit_any _ _).mono ?_); rintro e w' ⟨rfl, rfl⟩)
                      | (go_at_call 57; (with_reducible refine (BX.out _ (by omega) (by omega)).mono ?_); rintro e w' ⟨rfl, rfl⟩))
                    repeat (go_step3; try go_wp2_with (first
                        | (go_at_call 55; (with_reducible refine (HX.out _ (by omega) (by omega)).mono ?_); rintro e w' ⟨rfl, rfl⟩)
                        | (go_at_call 56; (with_reducible refine (digit_any _ _).mono ?_); rintro e w' ⟨rfl, rfl⟩)
                        | (go_at_call 57; (with_reducible refine (BX.out _ (by omega) (by omega)).mono ?_); rintro e w' ⟨rfl, rfl⟩)))
                    exact ⟨r + 2, _, by omega, by omega, rfl, ⟨_, _, _, _, _, _, _, _, _, _, _, _, _, _, _, _, _, _, _, _, _, _, _, _, _, _, _, _, _, _, _, _, _, _, _, _, _, _, _, _, _, _, _, _, _, _, _, _, _, _, _, _, _, _, _, _, _, _, _, _, _, _, _, _, _, _, _, _, rfl⟩, .inr (.inr ⟨rfl, HF.out⟩)⟩
                · have g3 : (byt b (r + 1) == 43) = false := by simpa using hS1
                  have g4 : (byt b (r + 1) == 45) = false := by simpa using hS2
                  cases hD : digC (byt b (r + 1)) with
                  | true =>
                    have HF := Lib.hid (HE0.out.trans (expM_u hEE hS1 hS2 true hD))
                    rw [if_pos rfl] at HF
                    have hld := digC_lt hD
                    have Hd := Lib.hid hD
                    clear hEE hS1 hS2
                    go_wp2_with (first
                      | (go_at_call 55; (with_reducible refine (HX.out _ (by omega) (by omega)).mono ?_); rintro e w' ⟨rfl, rfl⟩)
                      | (go_at_call 56; (with_reducible refine (digit_any _ _).mono ?_); rintro e w' ⟨rfl, rfl⟩)
                      | (go_at_call 57; (with_reducible refine (BX.out _ (by omega) (by omega)).mono ?_); rintro e w' ⟨rfl, rfl⟩))
                    repeat (go_step3; try go_wp2_with (first
                        | (go_at_call 55; (with_reducible refine (HX.out _ (by omega) (by omega)).mono ?_); rintro e w' ⟨rfl, rfl⟩)
                        | (go_at_call 56; (with_reducible refine (digit_any _ _).mono ?_); rintro e w' ⟨rfl, rfl⟩)
                        | (go_at_call 57; (with_reducible refine (BX.out _ (by omega) (by omega)).mono ?_); rintro e w' ⟨rfl, rfl⟩)))
                    try rw [toJ_ret]
                    go_ret2
                    exact ⟨tupIB (by rw [HF.out]) (by rw [HF.out]), by trivial⟩
                  | false =>
                    have HF := Lib.hid (HE0.out.trans (expM_u hEE hS1 hS2 false hD))
                    rw [if_neg (by decide)] at HF
                    clear hEE hS1 hS2
                    go_wp2_with (first
                      | (go_at_call 55; (with_reducible refine (HX.out _ (by omega) (by omega)).mono ?_); rintro e w' ⟨rfl, rfl⟩)
                      | (go_at_call 56; (with_reducible refine (digit_any _ _).mono ?_); rintro e w' ⟨rfl, rfl⟩)
                      | (go_at_call 57; (with_reducible refine (BX.out _ (by omega) (by omega)).mono ?_); rintro e w' ⟨rfl, rfl⟩))
                    repeat (go_step3; try go_wp2_with (first
                        | (go_at_call 55; (with_reducible refine (HX.out _ (by omega) (by omega)).mono ?_); rintro e w' ⟨rfl, rfl⟩)
                        | (go_at_call 56; (with_reducible refine (digit_any _ _).mono ?_); rintro e w' ⟨rfl, rfl⟩)
                        | (go_at_call 57; (with_reducible refine (BX.out _ (by omega) (by omega)).mono ?_); rintro e w' ⟨rfl, rfl⟩)))
                    exact ⟨r + 1, _, by omega, by omega, rfl, ⟨_, _, _, _, _, _, _, _, _, _, _, _, _, _, _, _, _, _, _, _, _, _, _, _, _, _, _, _, _, _, _, _, _, _, _, _, _, _, _, _, _, _, _, _, _, _, _, _, _, _, _, _, _, _, _, _, _, _, _, _, _, _, _, _, _, _, _, _, rfl⟩, .inr (.inr ⟨rfl, HF.out⟩)⟩
              · have g1 : (byt b r != 101) = true := by simpa using hE1
                have g2 : (byt b r != 69) = true := by simpa using hE2
                have HF := Lib.hid (HE0.out.trans (expM_n hE1 hE2))
                clear hE1 hE2
                go_wp2_with (first
                  | (go_at_call 55; (with_reducible refine (HX.out _ (by omega) (by omega)).mono ?_); rintro e w' ⟨rfl, rfl⟩)
                  | (go_at_call 56; (with_reducible refine (digit_any _ _).mono ?_); rintro e w' ⟨rfl, rfl⟩)
                  | (go_at_call 57; (with_reducible refine (BX.out _ (by omega) (by omega)).mono ?_); rintro e w' ⟨rfl, rfl⟩))
                repeat (go_step3; try go_wp2_with (first
                    | (go_at_call 55; (with_reducible refine (HX.out _ (by omega) (by omega)).mono ?_); rintro e w' ⟨rfl, rfl⟩)
                    | (go_at_call 56; (with_reducible refine (digit_any _ _).mono ?_); rintro e w' ⟨rfl, rfl⟩)
                    | (go_at_call 57; (with_reducible refine (BX.out _ (by omega) (by omega)).mono ?_); rintro e w' ⟨rfl, rfl⟩)))
                try rw [toJ_ret]
                go_ret2
                exact ⟨tupIB (by rw [HF.out]) (by rw [HF.out]), by trivial⟩
            | false =>
              have HF := Lib.hid (HF0.out.trans (fracM_l hdot hfd))
              clear hdot
              go_wp2_with (first
                | (go_at_call 55; (with_reducible refine (HX.out _ (by omega) (by omega)).mono ?_); rintro e w' ⟨rfl, rfl⟩)
                | (go_at_call 56; (with_reducible refine (digit_any _ _).mono ?_); rintro e w' ⟨rfl, rfl⟩)
                | (go_at_call 57; (with_reducible refine (BX.out _ (by omega) (by omega)).mono ?_); rintro e w' ⟨rfl, rfl⟩))
              repeat (go_step3; try go_wp2_with (first
                  | (go_at_call 55; (with_reducible refine (HX.out _ (by omega) (by omega)).mono ?_); rintro e w' ⟨rfl, rfl⟩)
                  | (go_at_call 56; (with_reducible refine (digit_any _ _).mono ?_); rintro e w' ⟨rfl, rfl⟩)
                  | (go_at_call 57; (with_reducible refine (BX.out _ (by omega) (by omega)).mono ?_); rintro e w' ⟨rfl, rfl⟩)))
              exact ⟨q + 1, _, by omega, by omega, rfl, ⟨_, _, _, _, _, _, _, _, _, _, _, _, _, _, _, _, _, _, _, _, _, _, _, _, _, _, _, _, _, _, _, _, _, _, _, _, _, _, _, _, _, _, _, _, _, _, _, _, _, _, _, _, _, _, _, _, _, _, _, _, _, _, _, _, _, _, _, _, rfl⟩, .inr (.inr ⟨rfl, HF.out⟩)⟩
          · have g0 : (byt b q != 46) = true := by simpa using hdot
            have HF := Lib.hid (HF0.out.trans (fracM_n hdot))
            clear hdot
            go_wp2_with (first
              | (go_at_call 55; (with_reducible refine (HX.out _ (by omega) (by omega)).mono ?_); rintro e w' ⟨rfl, rfl⟩)
              | (go_at_call 56; (with_reducible refine (digit_any _ _).mono ?_); rintro e w' ⟨rfl, rfl⟩)
              | (go_at_call 57; (with_reducible refine (BX.out _ (by omega) (by omega)).mono ?_); rintro e w' ⟨rfl, rfl⟩))
            repeat (go_step3; try go_wp2_with (first
                | (go_at_call 55; (with_reducible refine (HX.out _ (by omega) (by omega)).mono ?_); rintro e w' ⟨rfl, rfl⟩)
                | (go_at_call 56; (with_reducible refine (digit_any _ _).mono ?_); rintro e w' ⟨rfl, rfl⟩)
                | (go_at_call 57; (with_reducible refine (BX.out _ (by omega) (by omega)).mono ?_); rintro e w' ⟨rfl, rfl⟩)))
            exact ⟨q, _, by omega, by omega, rfl, ⟨_, _, _, _, _, _, _, _, _, _, _, _, _, _, _, _, _, _, _, _, _, _, _, _, _, _, _, _, _, _, _, _, _, _, _, _, _, _, _, _, _, _, _, _, _, _, _, _, _, _, _, _, _, _, _, _, _, _, _, _, _, _, _, _, _, _, _, _, rfl⟩, .inr (.inl ⟨rfl, HF.out⟩)⟩
        | false =>
          have HF := Lib.hid (HI0.out.trans (intM_n hid))
          clear h0
          go_wp2_with (first
            | (go_at_call 55; (with_reducible refine (HX.out _ (by omega) (by omega)).mono ?_); rintro e w' ⟨rfl, rfl⟩)
            | (go_at_call 56; (with_reducible refine (digit_any _ _).mono ?_); rintro e w' ⟨rfl, rfl⟩)
            | (go_at_call 57; (with_reducible refine (BX.out _ (by omega) (by omega)).mono ?_); rintro e w' ⟨rfl, rfl⟩))
          repeat (go_step3; try go_wp2_with (first
              | (go_at_call 55; (with_reducible refine (HX.out _ (by omega) (by omega)).mono ?_); rintro e w' ⟨rfl, rfl⟩)
              | (go_at_call 56; (with_reducible refine (digit_any _ _).mono ?_); rintro e w' ⟨rfl, rfl⟩)
              | (go_at_call 57; (with_reducible refine (BX.out _ (by omega) (by omega)).mono ?_); rintro e w' ⟨rfl, rfl⟩)))
          exact ⟨p, _, by omega, by omega, rfl, ⟨_, _, _, _, _, _, _, _, _, _, _, _, _, _, _, _, _, _, _, _, _, _, _, _, _, _, _, _, _, _, _, _, _, _, _, _, _, _, _, _, _, _, _, _, _, _, _, _, _, _, _, _, _, _, _, _, _, _, _, _, _, _, _, _, _, _, _, _, rfl⟩, .inr (.inr ⟨rfl, HF.out⟩)⟩
    · have m0 : (byt b i == 45) = false := by simpa using hmin
      have HI0 := Lib.hid (numM_n hmin)
      clear hmin
      have i1 : (((i : Nat) : Int) + 1).toNat = i + 1 := by omega
      by_cases h0 : byt b i = 48
      · have hlp : i < b.length := byt_lt h0 (by decide)
        have k0 : (byt b i == 48) = true := by rw [h0]; rfl
        have HF := Lib.hid (HI0.out.trans (intM_0 h0))
        clear h0
        go_wp2_with (first
          | (go_at_call 55; (with_reducible refine (HX.out _ (by omega) (by omega)).mono ?_); rintro e w' ⟨rfl, rfl⟩)
          | (go_at_call 56; (with_reducible refine (digit_any _ _).mono ?_); rintro e w' ⟨rfl, rfl⟩)
          | (go_at_call 57; (with_reducible refine (BX.out _ (by omega) (by omega)).mono ?_); rintro e w' ⟨rfl, rfl⟩))
        repeat (go_step3; try go_wp2_with (first
            | (go_at_call 55; (with_reducible refine (HX.out _ (by omega) (by omega)).mono ?_); rintro e w' ⟨rfl, rfl⟩)
            | (go_at_call 56; (with_reducible refine (digit_any _ _).mono ?_); rintro e w' ⟨rfl, rfl⟩)
            | (go_at_call 57; (with_reducible refine (BX.out _ (by omega) (by omega)).mono ?_); rintro e w' ⟨rfl, rfl⟩)))
        exact ⟨i + 1, _, by omega, by omega, rfl, ⟨_, _, _, _, _, _, _, _, _, _, _, _, _, _, _, _, _, _, _, _, _, _, _, _, _, _, _, _, _, _, _, _, _, _, _, _, _, _, _, _, _, _, _, _, _, _, _, _, _, _, _, _, _, _, _, _, _, _, _, _, _, _, _, _, _, _, _, _, rfl⟩, .inl ⟨rfl, HF.out⟩⟩
      · have k0 : (byt b i == 48) = false := by simpa using h0
        cases hid : digC (byt b i) with
        | true =>
          have hlp := digC_lt hid
          have HF0 := Lib.hid (HI0.out.trans (intM_d h0 hid))
          have hqb := digE_bd b i (by omega)
          obtain ⟨q, hq⟩ : ∃ q, digE b i = q := ⟨_, rfl⟩
          rw [hq] at HF0 hqb
          obtain ⟨hqb1, hqb2⟩ := hqb
          clear h0
          have f1 : (((q : Nat) : Int) + 1).toNat = q + 1 := by omega
          by_cases hdot : byt b q = 46
          · have hlq : q < b.length := byt_lt hdot (by decide)
            have g0 : (byt b q != 46) = false := by rw [hdot]; rfl
            cases hfd : digC (byt b (q + 1)) with
            | true =>
              have hlq2 := digC_lt hfd
              have HE0 := Lib.hid (HF0.out.trans (fracM_d hdot hfd))
              have hrb := digE_bd b (q + 1) (by omega)
              obtain ⟨r, hr⟩ : ∃ r, digE b (q + 1) = r := ⟨_, rfl⟩
              rw [hr] at HE0 hrb
              obtain ⟨hrb1, hrb2⟩ := hrb
              clear hdot
              have t1 : (((r : Nat) : Int) + 1).toNat = r + 1 := by omega
              have t2 : (((r : Nat) : Int) + 1 + 1).toNat = r + 2 := by omega
              have t3 : (((r : Nat) : Int) + 2).toNat = r + 2 := by omega
              have hcE : (byt b r = 101) ∨ (byt b r ≠ 101 ∧ byt b r = 69) ∨ (byt b r ≠ 101 ∧ byt b r ≠ 69) := by omega
              rcases hcE with hE | ⟨hE1, hE⟩ | ⟨hE1, hE2⟩
              · have g1 : (byt b r != 101) = false := by rw [hE]; rfl
                have hlr : r < b.length := byt_lt hE (by decide)
                have hEE : byt b r = 101 ∨ byt b r = 69 := .inl hE
                clear hE
                rcases (by omega : byt b (r + 1) = 43 ∨ (byt b (r + 1) ≠ 43 ∧ byt b (r + 1) = 45) ∨ (byt b (r + 1) ≠ 43 ∧ byt b (r + 1) ≠ 45)) with hS | ⟨hS1, hS⟩ | ⟨hS1, hS2⟩
                · have g3 : (byt b (r + 1) == 43) = true := by rw [hS]; rfl
                  have hlr2 : r + 1 < b.length := byt_lt hS (by decide)
                  have hSS : byt b (r + 1) = 43 ∨ byt b (r + 1) = 45 := .inl hS
                  clear hS
                  cases hD : digC (byt b (r + 2)) with
                  | true =>
                    have HF := Lib.hid (HE0.out.trans (expM_s hEE hSS true hD))
                    rw [if_pos rfl] at HF
                    have hld := digC_lt hD
                    have Hd := Lib.hid hD
                    clear hEE hSS
                    go_wp2_with (first
                      | (go_at_call 55; (with_reducible refine (HX.out _ (by omega) (by omega)).mono ?_); rintro e w' ⟨rfl, rfl⟩)
                      | (go_at_call 56; (with_reducible refine (digit_any _ _).mono ?_); rintro e w' ⟨rfl, rfl⟩)
                      | (go_at_call 57; (with_reducible refine (BX.out _ (by omega) (by omega)).mono ?_); rintro e w' ⟨rfl, rfl⟩))
                    repeat (go_step3; try go_wp2_with (first
                        | (go_at_call 55; (with_reducible refine (HX.out _ (by omega) (by omega)).mono ?_); rintro e w' ⟨rfl, rfl⟩)
                        | (go_at_call 56; (with_reducible refine (digit_any _ _).mono ?_); rintro e w' ⟨rfl, rfl⟩)
                        | (go_at_call 57; (with_reducible refine (BX.out _ (by omega) (by omega)).mono ?_); rintro e w' ⟨rfl, rfl⟩)))
                    try rw [toJ_ret]
                    go_ret2
                    exact ⟨tupIB (by rw [HF.out]) (by rw [HF.out]), by trivial⟩
                  | false =>
                    have HF := Lib.hid (HE0.out.trans (expM_s hEE hSS false hD))
                    rw [if_neg (by decide)] at HF
                    clear hEE hSS
                    go_wp2_with (first
                      | (go_at_call 55; (with_reducible refine (HX.out _ (by omega) (by omega)).mono ?_); rintro e w' ⟨rfl, rfl⟩)
                      | (go_at_call 56; (with_reducible refine (digit_any _ _).mono ?_); rintro e w' ⟨rfl, rfl⟩)
                      | (go_at_call 57; (with_reducible refine (BX.out _ (by omega) (by omega)).mono ?_); rintro e w' ⟨rfl, rfl⟩))
                    repeat (go_step3; try go_wp2_with (first
                        | (go_at_call 55; (with_reducible refine (HX.out _ (by omega) (by omega)).mono ?_); rintro e w' ⟨rfl, rfl⟩)
                        | (go_at_call 56; (with_reducible refine (digit_any _ _).mono ?_); rintro e w' ⟨rfl, rfl⟩)
                        | (go_at_call 57; (with_reducible refine (BX.out _ (by omega) (by omega)).mono ?_); rintro e w' ⟨rfl, rfl⟩)))
                    exact ⟨r + 2, _, by omega, by omega, rfl, ⟨_, _, _, _, _, _, _, _, _, _, _, _, _, _, _, _, _, _, _, _, _, _, _, _, _, _, _, _, _, _, _, _, _, _, _, _, _, _, _, _, _, _, _, _, _, _, _, _, _, _, _, _, _, _, _, _, _, _, _, _, _, _, _, _, _, _, _, _, rfl⟩, .inr (.inr ⟨rfl, HF.out⟩)⟩
                · have g3 : (byt b (r + 1) == 43) = false := by simpa using hS1
                  have g4 : (byt b (r + 1) == 45) = true := by rw [hS]; rfl
                  have hlr2 : r + 1 < b.length := byt_lt hS (by decide)
                  have hSS : byt b (r + 1) = 43 ∨ byt b (r + 1) = 45 := .inr hS
                  clear hS hS1
                  cases hD : digC (byt b (r + 2)) with
                  | true =>
                    have HF := Lib.hid (HE0.out.trans (expM_s hEE hSS true hD))
                    rw [if_pos rfl] at HF
                    have hld := digC_lt hD
                    have Hd := Lib.hid hD
                    clear hEE hSS
                    go_wp2_with (first
                      | (go_at_call 55; (with_reducible refine (HX.out _ (by omega) (by omega)).mono ?_); rintro e w' ⟨rfl, rfl⟩)
                      | (go_at_call 56; (with_reducible refine (digit_any _ _).mono ?_); rintro e w' ⟨rfl, rfl⟩)
                      | (go_at_call 57; (with_reducible refine (BX.out _ (by omega) (by omega)).mono ?_); rintro e w' ⟨rfl, rfl⟩))
                    repeat (go_step3; try go_wp2_with (first
                        | (go_at_call 55; (with_reducible refine (HX.out _ (by omega) (by omega)).mono ?_); rintro e w' ⟨rfl, rfl⟩)
                        | (go_at_call 56; (with_reducible refine (digit_any _ _).mono ?_); rintro e w' ⟨rfl, rfl⟩)
                        | (go_at_call 57; (with_reducible refine (BX.out _ (by omega) (by omega)).mono ?_); rintro e w' ⟨rfl, rfl⟩)))
                    try rw [toJ_ret]
                    go_ret2
                    exact ⟨tupIB (by rw [HF.out]) (by rw [HF.out]), by trivial⟩
                  | false =>
                    have HF := Lib.hid (HE0.out.trans (expM_s hEE hSS false hD))
                    rw [if_neg (by decide)] at HF
                    clear hEE hSS
                    go_wp2_with (first
                      | (go_at_call 55; (with_reducible refine (HX.out _ (by omega) (by omega)).mono ?_); rintro e w' ⟨rfl, rfl⟩)
                      | (go_at_call 56; (with_reducible refine (digit_any _ _).mono ?_); rintro e w' ⟨rfl, rfl⟩)
                      | (go_at_call 57; (with_reducible refine (BX.out _ (by omega) (by omega)).mono ?_); rintro e w' ⟨rfl, rfl⟩))
                    repeat (go_step3; try go_wp2_with (first
                        | (go_at_call 55; (with_reducible refine (HX.out _ (by omega) (by omega)).mono ?_); rintro e w' ⟨rfl, rfl⟩)
                        | (go_at_call 56; (with_reducible refine (digit_any _ _).mono ?_); rintro e w' ⟨rfl, rfl⟩)
                        | (go_at_call 57; (with_reducible refine (BX.out _ (by omega) (by omega)).mono ?_); rintro e w' ⟨rfl, rfl⟩)))
                    exact ⟨r + 2, _, by omega, by omega, rfl, ⟨_, _, _, _, _, _, _, _, _, _, _, _, _, _, _, _, _, _, _, _, _, _, _, _, _, _, _, _, _, _, _, _, _, _, _, _, _, _, _, _, _, _, _, _, _, _, _, _, _, _, _, _, _, _, _, _, _, _, _, _, _, _, _, _, _, _, _, _, rfl⟩, .inr (.inr ⟨rfl, HF.out⟩)⟩
                · have g3 : (byt b (r + 1) == 43) = false := by simpa using hS1
                  have g4 : (byt b (r + 1) == 45) = false := by simpa using hS2
                  cases hD : digC (byt b (r + 1)) with
                  | true =>
                    have HF := Lib.hid (HE0.out.trans (expM_u hEE hS1 hS2 true hD))
                    rw [if_pos rfl] at HF
                    have hld := digC_lt hD
                    have Hd := Lib.hid hD
                    clear hEE hS1 hS2
                    go_wp2_with (first
                      | (go_at_call 55; (with_reducible refine (HX.out _ (by omega) (by omega)).mono ?_); rintro e w' ⟨rfl, rfl⟩)
                      | (go_at_call 56; (with_reducible refine (digit_any _ _).mono ?_); rintro e w' ⟨rfl, rfl⟩)
                      | (go_at_call 57; (with_reducible refine (BX.out _ (by omega) (by omega)).mono ?_); rintro e w' ⟨rfl, rfl⟩))
                    repeat (go_step3; try go_wp2_with (first
                        | (go_at_call 55; (with_reducible refine (HX.out _ (by omega) (by omega)).mono ?_); rintro e w' ⟨rfl, rfl⟩)
                        | (go_at_call 56; (with_reducible refine (digit_any _ _).mono ?_); rintro e w' ⟨rfl, rfl⟩)
                        | (go_at_call 57; (with_reducible refine (BX.out _ (by omega) (by omega)).mono ?_); rintro e w' ⟨rfl, rfl⟩)))
                    try rw [toJ_ret]
                    go_ret2
                    exact ⟨tupIB (by rw [HF.out]) (by rw [HF.out]), by trivial⟩
                  | false =>
                    have HF := Lib.hid (HE0.out.trans (expM_u hEE hS1 hS2 false hD))
                    rw [if_neg (by decide)] at HF
                    clear hEE hS1 hS2
                    go_wp2_with (first
                      | (go_at_call 55; (with_reducible refine (HX.out _ (by omega) (by omega)).mono ?_); rintro e w' ⟨rfl, rfl⟩)
                      | (go_at_call 56; (with_reducible refine (digit_any _ _).mono ?_); rintro e w' ⟨rfl, rfl⟩)
                      | (go_at_call 57; (with_reducible refine (BX.out _ (by omega) (by omega)).mono ?_); rintro e w' ⟨rfl, rfl⟩))
                    repeat (go_step3; try go_wp2_with (first
                        | (go_at_call 55; (with_reducible refine (HX.out _ (by omega) (by omega)).mono ?_); rintro e w' ⟨rfl, rfl⟩)
                        | (go_at_call 56; (with_reducible refine (digit_any _ _).mono ?_); rintro e w' ⟨rfl, rfl⟩)
                        | (go_at_call 57; (with_reducible refine (BX.out _ (by omega) (by omega)).mono ?_); rintro e w' ⟨rfl, rfl⟩)))
                    exact ⟨r + 1, _, by omega, by omega, rfl, ⟨_, _, _, _, _, _, _, _, _, _, _, _, _, _, _, _, _, _, _, _, _, _, _, _, _, _, _, _, _, _, _, _, _, _, _, _, _, _, _, _, _, _, _, _, _, _, _, _, _, _, _, _, _, _, _, _, _, _, _, _, _, _, _, _, _, _, _, _, rfl⟩, .inr (.inr ⟨rfl, HF.out⟩)⟩
              · have g1 : (byt b r != 101) = true := by simpa using hE1
                have g2 : (byt b r != 69) = false := by rw [hE]; rfl
                have hlr : r < b.length := byt_lt hE (by decide)
                have hEE : byt b r = 101 ∨ byt b r = 69 := .inr hE
                clear hE hE1
                rcases (by omega : byt b (r + 1) = 43 ∨ (byt b (r + 1) ≠ 43 ∧ byt b (r + 1) = 45) ∨ (byt b (r + 1) ≠ 43 ∧ byt b (r + 1) ≠ 45)) with hS | ⟨hS1, hS⟩ | ⟨hS1, hS2⟩
                · have g3 : (byt b (r + 1) == 43) = true := by rw [hS]; rfl
                  have hlr2 : r + 1 < b.length := byt_lt hS (by decide)
                  have hSS : byt b (r + 1) = 43 ∨ byt b (r + 1) = 45 := .inl hS
                  clear hS
                  cases hD : digC (byt b (r + 2)) with
                  | true =>
                    have HF := Lib.hid (HE0.out.trans (expM_s hEE hSS true hD))
                    rw [if_pos rfl] at HF
                    have hld := digC_lt hD
                    have Hd := Lib.hid hD
                    clear hEE hSS
                    go_wp2_with (first
                      | (go_at_call 55; (with_reducible refine (HX.out _ (by omega) (by omega)).mono ?_); rintro e w' ⟨rfl, rfl⟩)
                      | (go_at_call 56; (with_reducible refine (digit_any _ _).mono ?_); rintro e w' ⟨rfl, rfl⟩)
                      | (go_at_call 57; (with_reducible refine (BX.out _ (by omega) (by omega)).mono ?_); rintro e w' ⟨rfl, rfl⟩))
                    repeat (go_step3; try go_wp2_with (first
                        | (go_at_call 55; (with_reducible refine (HX.out _ (by omega) (by omega)).mono ?_); rintro e w' ⟨rfl, rfl⟩)
                        | (go_at_call 56; (with_reducible refine (digit_any _ _).mono ?_); rintro e w' ⟨rfl, rfl⟩)
                        | (go_at_call 57; (with_reducible refine (BX.out _ (by omega) (by omega)).mono ?_); rintro e w' ⟨rfl, rfl⟩)))
                    try rw [toJ_ret]
                    go_ret2
                    exact ⟨tupIB (by rw [HF.out]) (by rw [HF.out]), by trivial⟩
                  | false =>
                    have HF := Lib.hid (HE0.out.trans (expM_s hEE hSS false hD))
                    rw [if_neg (by decide)] at HF
                    clear hEE hSS
                    go_wp2_with (first
                      | (go_at_call 55; (with_reducible refine (HX.out _ (by omega) (by omega)).mono ?_); rintro e w' ⟨rfl, rfl⟩)
                      | (go_at_call 56; (with_reducible refine (digit_any _ _).mono ?_); rintro e w' ⟨rfl, rfl⟩)
                      | (go_at_call 57; (with_reducible refine (BX.out _ (by omega) (by omega)).mono ?_); rintro e w' ⟨rfl, rfl⟩))
                    repeat (go_step3; try go_wp2_with (first
                        | (go_at_call 55; (with_reducible refine (HX.out _ (by omega) (by omega)).mono ?_); rintro e w' ⟨rfl, rfl⟩)
                        | (go_at_call 56; (with_reducible refine (digit_any _ _).mono ?_); rintro e w' ⟨rfl, rfl⟩)
                        | (go_at_call 57; (with_reducible refine (BX.out _ (by omega) (by omega)).mono ?_); rintro e w' ⟨rfl, rfl⟩)))
                    exact ⟨r + 2, _, by omega, by omega, rfl, ⟨_, _, _, _, _, _, _, _, _, _, _, _, _, _, _, _, _, _, _, _, _, _, _, _, _, _, _, _, _, _, _, _, _, _, _, _, _, _, _, _, _, _, _, _, _, _, _, _, _, _, _, _, _, _, _, _, _, _, _, _, _, _, _, _, _, _, _, _, rfl⟩, .inr (.inr ⟨rfl, HF.out⟩)⟩
                · have g3 : (byt b (r + 1) == 43) = false := by simpa using hS1
                  have g4 : (byt b (r + 1) == 45) = true := by rw [hS]; rfl
                  have hlr2 : r + 1 < b.length := byt_lt hS (by decide)
                  have hSS : byt b (r + 1) = 43 ∨ byt b (r + 1) = 45 := .inr hS
                  clear hS hS1
                  cases hD : digC (byt b (r + 2)) with
                  | true =>
                    have HF := Lib.hid (HE0.out.trans (expM_s hEE hSS true hD))
                    rw [if_pos rfl] at HF
                    have hld := digC_lt hD
                    have Hd := Lib.hid hD
                    clear hEE hSS
                    go_wp2_with (first
                      | (go_at_call 55; (with_reducible refine (HX.out _ (by omega) (by omega)).mono ?_); rintro e w' ⟨rfl, rfl⟩)
                      | (go_at_call 56; (with_reducible refine (digit_any _ _).mono ?_); rintro e w' ⟨rfl, rfl⟩)
                      | (go_at_call 57; (with_reducible refine (BX.out _ (by omega) (by omega)).mono ?_); rintro e w' ⟨rfl, rfl⟩))
                    repeat (go_step3; try go_wp2_with (first
                        | (go_at_call 55; (with_reducible refine (HX.out _ (by omega) (by omega)).mono ?_); rintro e w' ⟨rfl, rfl⟩)
                        | (go_at_call 56; (with_reducible refine (digit_any _ _).mono ?_); rintro e w' ⟨rfl, rfl⟩)
                        | (go_at_call 57; (with_reducible refine (BX.out _ (by omega) (by omega)).mono ?_); rintro e w' ⟨rfl, rfl⟩)))
                    try rw [toJ_ret]
                    go_ret2
                    exact ⟨tupIB (by rw [HF.out]) (by rw [HF.out]), by trivial⟩
                  | false =>
                    have HF := Lib.hid (HE0.out.trans (expM_s hEE hSS false hD))
                    rw [if_neg (by decide)] at HF
                    clear hEE hSS
                    go_wp2_with (first
                      | (go_at_call 55; (with_reducible refine (HX.out _ (by omega) (by omega)).mono ?_); rintro e w' ⟨rfl, rfl⟩)
                      | (go_at_call 56; (with_reducible refine (digit_any _ _).mono ?_); rintro e w' ⟨rfl, rfl⟩)
                      | (go_at_call 57; (with_reducible refine (BX.out _ (by omega) (by omega)).mono ?_); rintro e w' ⟨rfl, rfl⟩))
                    repeat (go_step3; try go_wp2_with (first
                        | (go_at_call 55; (with_reducible refine (HX.out _ (by omega) (by omega)).mono ?_); rintro e w' ⟨rfl, rfl⟩)
                        | (go_at_call 56; (with_reducible refine (digit_any _ _).mono ?_); rintro e w' ⟨rfl, rfl⟩)
                        | (go_at_call 57; (with_reducible refine (BX.out _ (by omega) (by omega)).mono ?_); rintro e w' ⟨rfl, rfl⟩)))
                    exact ⟨r + 2, _, by omega, by omega, rfl, ⟨_, _, _, _, _, _, _, _, _, _, _, _, _, _, _, _, _, _, _, _, _, _, _, _, _, _, _, _, _, _, _, _, _, _, _, _, _, _, _, _, _, _, _, _, _, _, _, _, _, _, _, _, _, _, _, _, _, _, _, _, _, _, _, _, _, _, _, _, rfl⟩, .inr (.inr ⟨rfl, HF.out⟩)⟩
                · have g3 : (byt b (r + 1) == 43) = false := by simpa using hS1
                  have g4 : (byt b (r + 1) == 45) = false := by simpa using hS2
                  cases hD : digC (byt b (r + 1)) with
                  | true =>
                    have HF := Lib.hid (HE0.out.trans (expM_u hEE hS1 hS2 true hD))
                    rw [if_pos rfl] at HF
                    have hld := digC_lt hD
                    have Hd := Lib.hid hD
                    clear hEE hS1 hS2
                    go_wp2_with (first
                      | (go_at_call 55; (with_reducible refine (HX.out _ (by omega) (by omega)).mono ?_); rintro e w' ⟨rfl, rfl⟩)
                      | (go_at_call 56; (with_reducible refine (digit_any _ _).mono ?_); rintro e w' ⟨rfl, rfl⟩)
                      | (go_at_call 57; (with_reducible refine (BX.out _ (by omega) (by omega)).mono ?_); rintro e w' ⟨rfl, rfl⟩))
                    repeat (go_step3; try go_wp2_with (first
                        | (go_at_call 55; (with_reducible refine (HX.out _ (by omega) (by omega)).mono ?_); rintro e w' ⟨rfl, rfl⟩)
                        | (go_at_call 56; (with_reducible refine (digit_any _ _).mono ?_); rintro e w' ⟨rfl, rfl⟩)
                        | (go_at_call 57; (with_reducible refine (BX.out _ (by omega) (by omega)).mono ?_); rintro e w' ⟨rfl, rfl⟩)))
                    try rw [toJ_ret]
                    go_ret2
                    exact ⟨tupIB (by rw [HF.out]) (by rw [HF.out]), by trivial⟩
                  | false =>
                    have HF := Lib.hid (HE0.out.trans (expM_u hEE hS1 hS2 false hD))
                    rw [if_neg (by decide)] at HF
                    clear hEE hS1 hS2
                    go_wp2_with (first
                      | (go_at_call 55; (with_reducible refine (HX.out _ (by omega) (by omega)).mono ?_); rintro e w' ⟨rfl, rfl⟩)
                      | (go_at_call 56; (with_reducible refine (digit_any _ _).mono ?_); rintro e w' ⟨rfl, rfl⟩)
                      | (go_at_call 57; (with_reducible refine (BX.out _ (by omega) (by omega)).mono ?_); rintro e w' ⟨rfl, rfl⟩))
                    repeat (go_step3; try go_wp2_with (first
                        | (go_at_call 55; (with_reducible refine (HX.out _ (by omega) (by omega)).mono ?_); rintro e w' ⟨rfl, rfl⟩)
                        | (go_at_call 56; (with_reducible refine (digit_any _ _).mono ?_); rintro e w' ⟨rfl, rfl⟩)
                        | (go_at_call 57; (with_reducible refine (BX.out _ (by omega) (by omega)).mono ?_); rintro e w' ⟨rfl, rfl⟩)))
                    exact ⟨r + 1, _, by omega, by omega, rfl, ⟨_, _, _, _, _, _, _, _, _, _, _, _, _, _, _, _, _, _, _, _, _, _, _, _, _, _, _, _, _, _, _, _, _, _, _, _, _, _, _, _, _, _, _, _, _, _, _, _, _, _, _, _, _, _, _, _, _, _, _, _, _, _, _, _, _, _, _, _, rfl⟩, .inr (.inr ⟨rfl, HF.out⟩)⟩
              · have g1 : (byt b r != 101) = true := by simpa using hE1
                have g2 : (byt b r != 69) = true := by simpa using hE2
                have HF := Lib.hid (HE0.out.trans (expM_n hE1 hE2))
                clear hE1 hE2
                go_wp2_with (first
                  | (go_at_call 55; (with_reducible refine (HX.out _ (by omega) (by omega)).mono ?_); rintro e w' ⟨rfl, rfl⟩)
                  | (go_at_call 56; (with_reducible refine (digit_any _ _).mono ?_); rintro e w' ⟨rfl, rfl⟩)
                  | (go_at_call 57; (with_reducible refine (BX.out _ (by omega) (by omega)).mono ?_); rintro e w' ⟨rfl, rfl⟩))
                repeat (go_step3; try go_wp2_with (first
                    | (go_at_call 55; (with_reducible refine (HX.out _ (by omega) (by omega)).mono ?_); rintro e w' ⟨rfl, rfl⟩)
                    | (go_at_call 56; (with_reducible refine (digit_any _ _).mono ?_); rintro e w' ⟨rfl, rfl⟩)
                    | (go_at_call 57; (with_reducible refine (BX.out _ (by omega) (by omega)).mono ?_); rintro e w' ⟨rfl, rfl⟩)))
                try rw [toJ_ret]
                go_ret2
                exact ⟨tupIB (by rw [HF.out]) (by rw [HF.out]), by trivial⟩
            | false =>
              have HF := Lib.hid (HF0.out.trans (fracM_l hdot hfd))
              clear hdot
              go_wp2_with (first
                | (go_at_call 55; (with_reducible refine (HX.out _ (by omega) (by omega)).mono ?_); rintro e w' ⟨rfl, rfl⟩)
                | (go_at_call 56; (with_reducible refine (digit_any _ _).mono ?_); rintro e w' ⟨rfl, rfl⟩)
                | (go_at_call 57; (with_reducible refine (BX.out _ (by omega) (by omega)).mono ?_); rintro e w' ⟨rfl, rfl⟩))
              repeat (go_step3; try go_wp2_with (first
                  | (go_at_call 55; (with_reducible refine (HX.out _ (by omega) (by omega)).mono ?_); rintro e w' ⟨rfl, rfl⟩)
                  | (go_at_call 56; (with_reducible refine (digit_any _ _).mono ?_); rintro e w' ⟨rfl, rfl⟩)
                  | (go_at_call 57; (with_reducible refine (BX.out _ (by omega) (by omega)).mono ?_); rintro e w' ⟨rfl, rfl⟩)))
              exact ⟨q + 1, _, by omega, by omega, rfl, ⟨_, _, _, _, _, _, _, _, _, _, _, _, _, _, _, _, _, _, _, _, _, _, _, _, _, _, _, _, _, _, _, _, _, _, _, _, _, _, _, _, _, _, _, _, _, _, _, _, _, _, _, _, _, _, _, _, _, _, _, _, _, _, _, _, _, _, _, _, rfl⟩, .inr (.inr ⟨rfl, HF.out⟩)⟩
          · have g0 : (byt b q != 46) = true := by simpa using hdot
            have HF := Lib.hid (HF0.out.trans (fracM_n hdot))
            clear hdot
            go_wp2_with (first
              | (go_at_call 55; (with_reducible refine (HX.out _ (by omega) (by omega)).mono ?_); rintro e w' ⟨rfl, rfl⟩)
              | (go_at_call 56; (with_reducible refine (digit_any _ _).mono ?_); rintro e w' ⟨rfl, rfl⟩)
              | (go_at_call 57; (with_reducible refine (BX.out _ (by omega) (by omega)).mono ?_); rintro e w' ⟨rfl, rfl⟩))
            repeat (go_step3; try go_wp2_with (first
                | (go_at_call 55; (with_reducible refine (HX.out _ (by omega) (by omega)).mono ?_); rintro e w' ⟨rfl, rfl⟩)
                | (go_at_call 56; (with_reducible refine (digit_any _ _).mono ?_); rintro e w' ⟨rfl, rfl⟩)
                | (go_at_call 57; (with_reducible refine (BX.out _ (by omega) (by omega)).mono ?_); rintro e w' ⟨rfl, rfl⟩)))
            exact ⟨q, _, by omega, by omega, rfl, ⟨_, _, _, _, _, _, _, _, _, _, _, _, _, _, _, _, _, _, _, _, _, _, _, _, _, _, _, _, _, _, _, _, _, _, _, _, _, _, _, _, _, _, _, _, _, _, _, _, _, _, _, _, _, _, _, _, _, _, _, _, _, _, _, _, _, _, _, _, rfl⟩, .inr (.inl ⟨rfl, HF.out⟩)⟩
        | false =>
          have HF := Lib.hid (HI0.out.trans (intM_n hid))
          clear h0
          go_wp2_with (first
            | (go_at_call 55; (with_reducible refine (HX.out _ (by omega) (by omega)).mono ?_); rintro e w' ⟨rfl, rfl⟩)
            | (go_at_call 56; (with_reducible refine (digit_any _ _).mono ?_); rintro e w' ⟨rfl, rfl⟩)
            | (go_at_call 57; (with_reducible refine (BX.out _ (by omega) (by omega)).mono ?_); rintro e w' ⟨rfl, rfl⟩))
          repeat (go_step3; try go_wp2_with (first
              | (go_at_call 55; (with_reducible refine (HX.out _ (by omega) (by omega)).mono ?_); rintro e w' ⟨rfl, rfl⟩)
              | (go_at_call 56; (with_reducible refine (digit_any _ _).mono ?_); rintro e w' ⟨rfl, rfl⟩)
              | (go_at_call 57; (with_reducible refine (BX.out _ (by omega) (by omega)).mono ?_); rintro e w' ⟨rfl, rfl⟩)))
          exact ⟨i, _, by omega, by omega, rfl, ⟨_, _, _, _, _, _, _, _, _, _, _, _, _, _, _, _, _, _, _, _, _, _, _, _, _, _, _, _, _, _, _, _, _, _, _, _, _, _, _, _, _, _, _, _, _, _, _, _, _, _, _, _, _, _, _, _, _, _, _, _, _, _, _, _, _, _, _, _, rfl⟩, .inr (.inr ⟨rfl, HF.out⟩)⟩
  · clear hv
    intro l a w2 hJ
    obtain ⟨j, x, rfl, hj, rfl, ⟨u6, u7, u8, u9, u10, u11, u12, u13, u14, u15, u16, u17, u18, u19, u20, u21, u22, u23, u24, u25, u26, u27, u28, u29, u30, u31, u32, u33, u34, u35, u36, u37, u38, u39, u40, u41, u42, u43, u44, u45, u46, u47, u48, u49, u50, u51, u52, u53, u54, u55, u56, u57, u58, u59, u60, u61, u62, u63, u64, u65, u66, u67, u68, u69, u70, u71, u72, u73, rfl⟩, hl⟩ := hJ
    rcases hl with ⟨rfl, hn⟩ | ⟨rfl, hn⟩ | ⟨rfl, hn⟩
    · refine ⟨_, rfl, ?_⟩
      have HN := Lib.hid hn
      clear hn
      have f1 : (((j : Nat) : Int) + 1).toNat = j + 1 := by omega
      by_cases hdot : byt b j = 46
      · have hlq : j < b.length := byt_lt hdot (by decide)
        have g0 : (byt b j != 46) = false := by rw [hdot]; rfl
        cases hfd : digC (byt b (j + 1)) with
        | true =>
          have hlq2 := digC_lt hfd
          have HE0 := Lib.hid (HN.out.trans (fracM_d hdot hfd))
          have hrb := digE_bd b (j + 1) (by omega)
          obtain ⟨r, hr⟩ : ∃ r, digE b (j + 1) = r := ⟨_, rfl⟩
          rw [hr] at HE0 hrb
          obtain ⟨hrb1, hrb2⟩ := hrb
          clear hdot
          have t1 : (((r : Nat) : Int) + 1).toNat = r + 1 := by omega
          have t2 : (((r : Nat) : Int) + 1 + 1).toNat = r + 2 := by omega
          have t3 : (((r : Nat) : Int) + 2).toNat = r + 2 := by omega
          have hcE : (byt b r = 101) ∨ (byt b r ≠ 101 ∧ byt b r = 69) ∨ (byt b r ≠ 101 ∧ byt b r ≠ 69) := by omega
          rcases hcE with hE | ⟨hE1, hE⟩ | ⟨hE1, hE2⟩
          · have g1 : (byt b r != 101) = false := by rw [hE]; rfl
            have hlr : r < b.length := byt_lt hE (by decide)
            have hEE : byt b r = 101 ∨ byt b r = 69 := .inl hE
            clear hE
            rcases (by omega : byt b (r + 1) = 43 ∨ (byt b (r + 1) ≠ 43 ∧ byt b (r + 1) = 45) ∨ (byt b (r + 1) ≠ 43 ∧ byt b (r + 1) ≠ 45)) with hS | ⟨hS1, hS⟩ | ⟨hS1, hS2⟩
            · have g3 : (byt b (r + 1) == 43) = true := by rw [hS]; rfl
              have hlr2 : r + 1 < b.length := byt_lt hS (by decide)
              have hSS : byt b (r + 1) = 43 ∨ byt b (r + 1) = 45 := .inl hS
              clear hS
              cases hD : digC (byt b (r + 2)) with
              | true =>
                have HF := Lib.hid (HE0.out.trans (expM_s hEE hSS true hD))
                rw [if_pos rfl] at HF
                have hld := digC_lt hD
                have Hd := Lib.hid hD
                clear hEE hSS
                go_wp2_with (first
                  | (go_at_call 55; (with_reducible refine (HX.out _ (by omega) (by omega)).mono ?_); rintro e w' ⟨rfl, rfl⟩)
                  | (go_at_call 56; (with_reducible refine (digit_any _ _).mono ?_); rintro e w' ⟨rfl, rfl⟩)
                  | (go_at_call 57; (with_reducible refine (BX.out _ (by omega) (by omega)).mono ?_); rintro e w' ⟨rfl, rfl⟩))
                repeat (go_step3; try go_wp2_with (first
                    | (go_at_call 55; (with_reducible refine (HX.out _ (by omega) (by omega)).mono ?_); rintro e w' ⟨rfl, rfl⟩)
                    | (go_at_call 56; (with_reducible refine (digit_any _ _).mono ?_); rintro e w' ⟨rfl, rfl⟩)
                    | (go_at_call 57; (with_reducible refine (BX.out _ (by omega) (by omega)).mono ?_); rintro e w' ⟨rfl, rfl⟩)))
                try rw [toJ_ret]
                go_ret2
                exact ⟨tupIB (by rw [HF.out]) (by rw [HF.out]), by trivial⟩
              | false =>
                have HF := Lib.hid (HE0.out.trans (expM_s hEE hSS false hD))
                rw [if_neg (by decide)] at HF
                clear hEE hSS
                go_wp2_with (first
                  | (go_at_call 55; (with_reducible refine (HX.out _ (by omega) (by omega)).mono ?_); rintro e w' ⟨rfl, rfl⟩)
                  | (go_at_call 56; (with_reducible refine (digit_any _ _).mono ?_); rintro e w' ⟨rfl, rfl⟩)
                  | (go_at_call 57; (with_reducible refine (BX.out _ (by omega) (by omega)).mono ?_); rintro e w' ⟨rfl, rfl⟩))
                repeat (go_step3; try go_wp2_with (first
                    | (go_at_call 55; (with_reducible refine (HX.out _ (by omega) (by omega)).mono ?_); rintro e w' ⟨rfl, rfl⟩)
                    | (go_at_call 56; (with_reducible refine (digit_any _ _).mono ?_); rintro e w' ⟨rfl, rfl⟩)
                    | (go_at_call 57; (with_reducible refine (BX.out _ (by omega) (by omega)).mono ?_); rintro e w' ⟨rfl, rfl⟩)))
                exact ⟨⟨r + 2, _, by omega, by omega, rfl, ⟨_, _, _, _, _, _, _, _, _, _, _, _, _, _, _, _, _, _, _, _, _, _, _, _, _, _, _, _, _, _, _, _, _, _, _, _, _, _, _, _, _, _, _, _, _, _, _, _, _, _, _, _, _, _, _, _, _, _, _, _, _, _, _, _, _, _, _, _, rfl⟩, .inr (.inr ⟨rfl, HF.out⟩)⟩, by simp [numμ]⟩
            · have g3 : (byt b (r + 1) == 43) = false := by simpa using hS1
              have g4 : (byt b (r + 1) == 45) = true := by rw [hS]; rfl
              have hlr2 : r + 1 < b.length := byt_lt hS (by decide)
              have hSS : byt b (r + 1) = 43 ∨ byt b (r + 1) = 45 := .inr hS
              clear hS hS1
              cases hD : digC (byt b (r + 2)) with
              | true =>
                have HF := Lib.hid (HE0.out.trans (expM_s hEE hSS true hD))
                rw [if_pos rfl] at HF
                have hld := digC_lt hD
                have Hd := Lib.hid hD
                clear hEE hSS
                go_wp2_with (first
                  | (go_at_call 55; (with_reducible refine (HX.out _ (by omega) (by omega)).mono ?_); rintro e w' ⟨rfl, rfl⟩)
                  | (go_at_call 56; (with_reducible refine (digit_any _ _).mono ?_); rintro e w' ⟨rfl, rfl⟩)
                  | (go_at_call 57; (with_reducible refine (BX.out _ (by omega) (by omega)).mono ?_); rintro e w' ⟨rfl, rfl⟩))
                repeat (go_step3; try go_wp2_with (first
                    | (go_at_call 55; (with_reducible refine (HX.out _ (by omega) (by omega)).mono ?_); rintro e w' ⟨rfl, rfl⟩)
                    | (go_at_call 56; (with_reducible refine (digit_any _ _).mono ?_); rintro e w' ⟨rfl, rfl⟩)
                    | (go_at_call 57; (with_reducible refine (BX.out _ (by omega) (by omega)).mono ?_); rintro e w' ⟨rfl, rfl⟩)))
                try rw [toJ_ret]
                go_ret2
                exact ⟨tupIB (by rw [HF.out]) (by rw [HF.out]), by trivial⟩
              | false =>
                have HF := Lib.hid (HE0.out.trans (expM_s hEE hSS false hD))
                rw [if_neg (by decide)] at HF
                clear hEE hSS
                go_wp2_with (first
                  | (go_at_call 55; (with_reducible refine (HX.out _ (by omega) (by omega)).mono ?_); rintro e w' ⟨rfl, rfl⟩)
                  | (go_at_call 56; (with_reducible refine (digit_any _ _).mono ?_); rintro e w' ⟨rfl, rfl⟩)
                  | (go_at_call 57; (with_reducible refine (BX.out _ (by omega) (by omega)).mono ?_); rintro e w' ⟨rfl, rfl⟩))
                repeat (go_step3; try go_wp2_with (first
                    | (go_at_call 55; (with_reducible refine (HX.out _ (by omega) (by omega)).mono ?_); rintro e w' ⟨rfl, rfl⟩)
                    | (go_at_call 56; (with_reducible refine (digit_any _ _).mono ?_); rintro e w' ⟨rfl, rfl⟩)
                    | (go_at_call 57; (with_reducible refine (BX.out _ (by omega) (by omega)).mono ?_); rintro e w' ⟨rfl, rfl⟩)))
                exact ⟨⟨r + 2, _, by omega, by omega, rfl, ⟨_, _, _, _, _, _, _, _, _, _, _, _, _, _, _, _, _, _, _, _, _, _, _, _, _, _, _, _, _, _, _, _, _, _, _, _, _, _, _, _, _, _, _, _, _, _, _, _, _, _, _, _, _, _, _, _, _, _, _, _, _, _, _, _, _, _, _, _, rfl⟩, .inr (.inr ⟨rfl, HF.out⟩)⟩, by simp [numμ]⟩
            · have g3 : (byt b (r + 1) == 43) = false := by simpa using hS1
              have g4 : (byt b (r + 1) == 45) = false := by simpa using hS2
              cases hD : digC (byt b (r + 1)) with
              | true =>
                have HF := Lib.hid (HE0.out.trans (expM_u hEE hS1 hS2 true hD))
                rw [if_pos rfl] at HF
                have hld := digC_lt hD
                have Hd := Lib.hid hD
                clear hEE hS1 hS2
                go_wp2_with (first
                  | (go_at_call 55; (with_reducible refine (HX.out _ (by omega) (by omega)).mono ?_); rintro e w' ⟨rfl, rfl⟩)
                  | (go_at_call 56; (with_reducible refine (digit_any _ _).mono ?_); rintro e w' ⟨rfl, rfl⟩)
                  | (go_at_call 57; (with_reducible refine (BX.out _ (by omega) (by omega)).mono ?_); rintro e w' ⟨rfl, rfl⟩))
                repeat (go_step3; try go_wp2_with (first
                    | (go_at_call 55; (with_reducible refine (HX.out _ (by omega) (by omega)).mono ?_); rintro e w' ⟨rfl, rfl⟩)
                    | (go_at_call 56; (with_reducible refine (digit_any _ _).mono ?_); rintro e w' ⟨rfl, rfl⟩)
                    | (go_at_call 57; (with_reducible refine (BX.out _ (by omega) (by omega)).mono ?_); rintro e w' ⟨rfl, rfl⟩)))
                try rw [toJ_ret]
                go_ret2
                exact ⟨tupIB (by rw [HF.out]) (by rw [HF.out]), by trivial⟩
              | false =>
                have HF := Lib.hid (HE0.out.trans (expM_u hEE hS1 hS2 false hD))
                rw [if_neg (by decide)] at HF
                clear hEE hS1 hS2
                go_wp2_with (first
                  | (go_at_call 55; (with_reducible refine (HX.out _ (by omega) (by omega)).mono ?_); rintro e w' ⟨rfl, rfl⟩)
                  | (go_at_call 56; (with_reducible refine (digit_any _ _).mono ?_); rintro e w' ⟨rfl, rfl⟩)
                  | (go_at_call 57; (with_reducible refine (BX.out _ (by omega) (by omega)).mono ?_); rintro e w' ⟨rfl, rfl⟩))
                repeat (go_step3; try go_wp2_with (first
                    | (go_at_call 55; (with_reducible refine (HX.out _ (by omega) (by omega)).mono ?_); rintro e w' ⟨rfl, rfl⟩)
                    | (go_at_call 56; (with_reducible refine (digit_any _ _).mono ?_); rintro e w' ⟨rfl, rfl⟩)
                    | (go_at_call 57; (with_reducible refine (BX.out _ (by omega) (by omega)).mono ?_); rintro e w' ⟨rfl, rfl⟩)))
                exact ⟨⟨r + 1, _, by omega, by omega, rfl, ⟨_, _, _, _, _, _, _, _, _, _, _, _, _, _, _, _, _, _, _, _, _, _, _, _, _, _, _, _, _, _, _, _, _, _, _, _, _, _, _, _, _, _, _, _, _, _, _, _, _, _, _, _, _, _, _, _, _, _, _, _, _, _, _, _, _, _, _, _, rfl⟩, .inr (.inr ⟨rfl, HF.out⟩)⟩, by simp [numμ]⟩
          · have g1 : (byt b r != 101) = true := by simpa using hE1
            have g2 : (byt b r != 69) = false := by rw [hE]; rfl
            have hlr : r < b.length := byt_lt hE (by decide)
            have hEE : byt b r = 101 ∨ byt b r = 69 := .inr hE
            clear hE hE1
            rcases (by omega : byt b (r + 1) = 43 ∨ (byt b (r + 1) ≠ 43 ∧ byt b (r + 1) = 45) ∨ (byt b (r + 1) ≠ 43 ∧ byt b (r + 1) ≠ 45)) with hS | ⟨hS1, hS⟩ | ⟨hS1, hS2⟩
            · have g3 : (byt b (r + 1) == 43) = true := by rw [hS]; rfl
              have hlr2 : r + 1 < b.length := byt_lt hS (by decide)
              have hSS : byt b (r + 1) = 43 ∨ byt b (r + 1) = 45 := .inl hS
              clear hS
              cases hD : digC (byt b (r + 2)) with
              | true =>
                have HF := Lib.hid (HE0.out.trans (expM_s hEE hSS true hD))
                rw [if_pos rfl] at HF
                have hld := digC_lt hD
                have Hd := Lib.hid hD
                clear hEE hSS
                go_wp2_with (first
                  | (go_at_call 55; (with_reducible refine (HX.out _ (by omega) (by omega)).mono ?_); rintro e w' ⟨rfl, rfl⟩)
                  | (go_at_call 56; (with_reducible refine (digit_any _ _).mono ?_); rintro e w' ⟨rfl, rfl⟩)
                  | (go_at_call 57; (with_reducible refine (BX.out _ (by omega) (by omega)).mono ?_); rintro e w' ⟨rfl, rfl⟩))
                repeat (go_step3; try go_wp2_with (first
                    | (go_at_call 55; (with_reducible refine (HX.out _ (by omega) (by omega)).mono ?_); rintro e w' ⟨rfl, rfl⟩)
                    | (go_at_call 56; (with_reducible refine (digit_any _ _).mono ?_); rintro e w' ⟨rfl, rfl⟩)
                    | (go_at_call 57; (with_reducible refine (BX.out _ (by omega) (by omega)).mono ?_); rintro e w' ⟨rfl, rfl⟩)))
                try rw [toJ_ret]
                go_ret2
                exact ⟨tupIB (by rw [HF.out]) (by rw [HF.out]), by trivial⟩
              | false =>
                have HF := Lib.hid (HE0.out.trans (expM_s hEE hSS false hD))
                rw [if_neg (by decide)] at HF
                clear hEE hSS
                go_wp2_with (first
                  | (go_at_call 55; (with_reducible refine (HX.out _ (by omega) (by omega)).mono ?_); rintro e w' ⟨rfl, rfl⟩)
                  | (go_at_call 56; (with_reducible refine (digit_any _ _).mono ?_); rintro e w' ⟨rfl, rfl⟩)
                  | (go_at_call 57; (with_reducible refine (BX.out _ (by omega) (by omega)).mono ?_); rintro e w' ⟨rfl, rfl⟩))
                repeat (go_step3; try go_wp2_with (first
                    | (go_at_call 55; (with_reducible refine (HX.out _ (by omega) (by omega)).mono ?_); rintro e w' ⟨rfl, rfl⟩)
                    | (go_at_call 56; (with_reducible refine (digit_any _ _).mono ?_); rintro e w' ⟨rfl, rfl⟩)
                    | (go_at_call 57; (with_reducible refine (BX.out _ (by omega) (by omega)).mono ?_); rintro e w' ⟨rfl, rfl⟩)))
                exact ⟨⟨r + 2, _, by omega, by omega, rfl, ⟨_, _, _, _, _, _, _, _, _, _, _, _, _, _, _, _, _, _, _, _, _, _, _, _, _, _, _, _, _, _, _, _, _, _, _, _, _, _, _, _, _, _, _, _, _, _, _, _, _, _, _, _, _, _, _, _, _, _, _, _, _, _, _, _, _, _, _, _, rfl⟩, .inr (.inr ⟨rfl, HF.out⟩)⟩, by simp [numμ]⟩
            · have g3 : (byt b (r + 1) == 43) = false := by simpa using hS1
              have g4 : (byt b (r + 1) == 45) = true := by rw [hS]; rfl
              have hlr2 : r + 1 < b.length := byt_lt hS (by decide)
              have hSS : byt b (r + 1) = 43 ∨ byt b (r + 1) = 45 := .inr hS
              clear hS hS1
              cases hD : digC (byt b (r + 2)) with
              | true =>
                have HF := Lib.hid (HE0.out.trans (expM_s hEE hSS true hD))
                rw [if_pos rfl] at HF
                have hld := digC_lt hD
                have Hd := Lib.hid hD
                clear hEE hSS
                go_wp2_with (first
                  | (go_at_call 55; (with_reducible refine (HX.out _ (by omega) (by omega)).mono ?_); rintro e w' ⟨rfl, rfl⟩)
                  | (go_at_call 56; (with_reducible refine (digit_any _ _).mono ?_); rintro e w' ⟨rfl, rfl⟩)
                  | (go_at_call 57; (with_reducible refine (BX.out _ (by omega) (by omega)).mono ?_); rintro e w' ⟨rfl, rfl⟩))
                repeat (go_step3; try go_wp2_with (first
                    | (go_at_call 55; (with_reducible refine (HX.out _ (by omega) (by omega)).mono ?_); rintro e w' ⟨rfl, rfl⟩)
                    | (go_at_call 56; (with_reducible refine (digit_any _ _).mono ?_); rintro e w' ⟨rfl, rfl⟩)
                    | (go_at_call 57; (with_reducible refine (BX.out _ (by omega) (by omega)).mono ?_); rintro e w' ⟨rfl, rfl⟩)))
                try rw [toJ_ret]
                go_ret2
                exact ⟨tupIB (by rw [HF.out]) (by rw [HF.out]), by trivial⟩
              | false =>
                have HF := Lib.hid (HE0.out.trans (expM_s hEE hSS false hD))
                rw [if_neg (by decide)] at HF
                clear hEE hSS
                go_wp2_with (first
                  | (go_at_call 55; (with_reducible refine (HX.out _ (by omega) (by omega)).mono ?_); rintro e w' ⟨rfl, rfl⟩)
                  | (go_at_call 56; (with_reducible refine (digit_any _ _).mono ?_); rintro e w' ⟨rfl, rfl⟩)
                  | (go_at_call 57; (with_reducible refine (BX.out _ (by omega) (by omega)).mono ?_); rintro e w' ⟨rfl, rfl⟩))
                repeat (go_step3; try go_wp2_with (first
                    | (go_at_call 55; (with_reducible refine (HX.out _ (by omega) (by omega)).mono ?_); rintro e w' ⟨rfl, rfl⟩)
                    | (go_at_call 56; (with_reducible refine (digit_any _ _).mono ?_); rintro e w' ⟨rfl, rfl⟩)
                    | (go_at_call 57; (with_reducible refine (BX.out _ (by omega) (by omega)).mono ?_); rintro e w' ⟨rfl, rfl⟩)))
                exact ⟨⟨r + 2, _, by omega, by omega, rfl, ⟨_, _, _, _, _, _, _, _, _, _, _, _, _, _, _, _, _, _, _, _, _, _, _, _, _, _, _, _, _, _, _, _, _, _, _, _, _, _, _, _, _, _, _, _, _, _, _, _, _, _, _, _, _, _, _, _, _, _, _, _, _, _, _, _, _, _, _, _, rfl⟩, .inr (.inr ⟨rfl, HF.out⟩)⟩, by simp [numμ]⟩
            · have g3 : (byt b (r + 1) == 43) = false := by simpa using hS1
              have g4 : (byt b (r + 1) == 45) = false := by simpa using hS2
              cases hD : digC (byt b (r + 1)) with
              | true =>
                have HF := Lib.hid (HE0.out.trans (expM_u hEE hS1 hS2 true hD))
                rw [if_pos rfl] at HF
                have hld := digC_lt hD
                have Hd := Lib.hid hD
                clear hEE hS1 hS2
                go_wp2_with (first
                  | (go_at_call 55; (with_reducible refine (HX.out _ (by omega) (by omega)).mono ?_); rintro e w' ⟨rfl, rfl⟩)
                  | (go_at_call 56; (with_reducible refine (digit_any _ _).mono ?_); rintro e w' ⟨rfl, rfl⟩)
                  | (go_at_call 57; (with_reducible refine (BX.out _ (by omega) (by omega)).mono ?_); rintro e w' ⟨rfl, rfl⟩))
                repeat (go_step3; try go_wp2_with (first
                    | (go_at_call 55; (with_reducible refine (HX.out _ (by omega) (by omega)).mono ?_); rintro e w' ⟨rfl, rfl⟩)
                    | (go_at_call 56; (with_reducible refine (digit_any _ _).mono ?_); rintro e w' ⟨rfl, rfl⟩)
                    | (go_at_call 57; (with_reducible refine (BX.out _ (by omega) (by omega)).mono ?_); rintro e w' ⟨rfl, rfl⟩)))
                try rw [toJ_ret]
                go_ret2
                exact ⟨tupIB (by rw [HF.out]) (by rw [HF.out]), by trivial⟩
              | false =>
                have HF := Lib.hid (HE0.out.trans (expM_u hEE hS1 hS2 false hD))
                rw [if_neg (by decide)] at HF
                clear hEE hS1 hS2
                go_wp2_with (first
                  | (go_at_call 55; (with_reducible refine (HX.out _ (by omega) (by omega)).mono ?_); rintro e w' ⟨rfl, rfl⟩)
                  | (go_at_call 56; (with_reducible refine (digit_any _ _).mono ?_); rintro e w' ⟨rfl, rfl⟩)
                  | (go_at_call 57; (with_reducible refine (BX.out _ (by omega) (by omega)).mono ?_); rintro e w' ⟨rfl, rfl⟩))
                repeat (go_step3; try go_wp2_with (first
                    | (go_at_call 55; (with_reducible refine (HX.out _ (by omega) (by omega)).mono ?_); rintro e w' ⟨rfl, rfl⟩)
                    | (go_at_call 56; (with_reducible refine (digit_any _ _).mono ?_); rintro e w' ⟨rfl, rfl⟩)
                    | (go_at_call 57; (with_reducible refine (BX.out _ (by omega) (by omega)).mono ?_); rintro e w' ⟨rfl, rfl⟩)))
                exact ⟨⟨r + 1, _, by omega, by omega, rfl, ⟨_, _, _, _, _, _, _, _, _, _, _, _, _, _, _, _, _, _, _, _, _, _, _, _, _, _, _, _, _, _, _, _, _, _, _, _, _, _, _, _, _, _, _, _, _, _, _, _, _, _, _, _, _, _, _, _, _, _, _, _, _, _, _, _, _, _, _, _, rfl⟩, .inr (.inr ⟨rfl, HF.out⟩)⟩, by simp [numμ]⟩
          · have g1 : (byt b r != 101) = true := by simpa using hE1
            have g2 : (byt b r != 69) = true := by simpa using hE2
            have HF := Lib.hid (HE0.out.trans (expM_n hE1 hE2))
            clear hE1 hE2
            go_wp2_with (first
              | (go_at_call 55; (with_reducible refine (HX.out _ (by omega) (by omega)).mono ?_); rintro e w' ⟨rfl, rfl⟩)
              | (go_at_call 56; (with_reducible refine (digit_any _ _).mono ?_); rintro e w' ⟨rfl, rfl⟩)
              | (go_at_call 57; (with_reducible refine (BX.out _ (by omega) (by omega)).mono ?_); rintro e w' ⟨rfl, rfl⟩))
            repeat (go_step3; try go_wp2_with (first
                | (go_at_call 55; (with_reducible refine (HX.out _ (by omega) (by omega)).mono ?_); rintro e w' ⟨rfl, rfl⟩)
                | (go_at_call 56; (with_reducible refine (digit_any _ _).mono ?_); rintro e w' ⟨rfl, rfl⟩)
                | (go_at_call 57; (with_reducible refine (BX.out _ (by omega) (by omega)).mono ?_); rintro e w' ⟨rfl, rfl⟩)))
            try rw [toJ_ret]
            go_ret2
            exact ⟨tupIB (by rw [HF.out]) (by rw [HF.out]), by trivial⟩
        | false =>
          have HF := Lib.hid (HN.out.trans (fracM_l hdot hfd))
          clear hdot
          go_wp2_with (first
            | (go_at_call 55; (with_reducible refine (HX.out _ (by omega) (by omega)).mono ?_); rintro e w' ⟨rfl, rfl⟩)
            | (go_at_call 56; (with_reducible refine (digit_any _ _).mono ?_); rintro e w' ⟨rfl, rfl⟩)
            | (go_at_call 57; (with_reducible refine (BX.out _ (by omega) (by omega)).mono ?_); rintro e w' ⟨rfl, rfl⟩))
          repeat (go_step3; try go_wp2_with (first
              | (go_at_call 55; (with_reducible refine (HX.out _ (by omega) (by omega)).mono ?_); rintro e w' ⟨rfl, rfl⟩)
              | (go_at_call 56; (with_reducible refine (digit_any _ _).mono ?_); rintro e w' ⟨rfl, rfl⟩)
              | (go_at_call 57; (with_reducible refine (BX.out _ (by omega) (by omega)).mono ?_); rintro e w' ⟨rfl, rfl⟩)))
          exact ⟨⟨j + 1, _, by omega, by omega, rfl, ⟨_, _, _, _, _, _, _, _, _, _, _, _, _, _, _, _, _, _, _, _, _, _, _, _, _, _, _, _, _, _, _, _, _, _, _, _, _, _, _, _, _, _, _, _, _, _, _, _, _, _, _, _, _, _, _, _, _, _, _, _, _, _, _, _, _, _, _, _, rfl⟩, .inr (.inr ⟨rfl, HF.out⟩)⟩, by simp [numμ]⟩
      · have g0 : (byt b j != 46) = true := by simpa using hdot
        have HF := Lib.hid (HN.out.trans (fracM_n hdot))
        clear hdot
        go_wp2_with (first
          | (go_at_call 55; (with_reducible refine (HX.out _ (by omega) (by omega)).mono ?_); rintro e w' ⟨rfl, rfl⟩)
          | (go_at_call 56; (with_reducible refine (digit_any _ _).mono ?_); rintro e w' ⟨rfl, rfl⟩)
          | (go_at_call 57; (with_reducible refine (BX.out _ (by omega) (by omega)).mono ?_); rintro e w' ⟨rfl, rfl⟩))
        repeat (go_step3; try go_wp2_with (first
            | (go_at_call 55; (with_reducible refine (HX.out _ (by omega) (by omega)).mono ?_); rintro e w' ⟨rfl, rfl⟩)
            | (go_at_call 56; (with_reducible refine (digit_any _ _).mono ?_); rintro e w' ⟨rfl, rfl⟩)
            | (go_at_call 57; (with_reducible refine (BX.out _ (by omega) (by omega)).mono ?_); rintro e w' ⟨rfl, rfl⟩)))
        exact ⟨⟨j, _, by omega, by omega, rfl, ⟨_, _, _, _, _, _, _, _, _, _, _, _, _, _, _, _, _, _, _, _, _, _, _, _, _, _, _, _, _, _, _, _, _, _, _, _, _, _, _, _, _, _, _, _, _, _, _, _, _, _, _, _, _, _, _, _, _, _, _, _, _, _, _, _, _, _, _, _, rfl⟩, .inr (.inl ⟨rfl, HF.out⟩)⟩, by simp [numμ]⟩
    · refine ⟨_, rfl, ?_⟩
      have HN := Lib.hid hn
      clear hn
      have t1 : (((j : Nat) : Int) + 1).toNat = j + 1 := by omega
      have t2 : (((j : Nat) : Int) + 1 + 1).toNat = j + 2 := by omega
      have t3 : (((j : Nat) : Int) + 2).toNat = j + 2 := by omega
      have hcE : (byt b j = 101) ∨ (byt b j ≠ 101 ∧ byt b j = 69) ∨ (byt b j ≠ 101 ∧ byt b j ≠ 69) := by omega
      rcases hcE with hE | ⟨hE1, hE⟩ | ⟨hE1, hE2⟩
      · have g1 : (byt b j != 101) = false := by rw [hE]; rfl
        have hlr : j < b.length := byt_lt hE (by decide)
        have hEE : byt b j = 101 ∨ byt b j = 69 := .inl hE
        clear hE
        rcases (by omega : byt b (j + 1) = 43 ∨ (byt b (j + 1) ≠ 43 ∧ byt b (j + 1) = 45) ∨ (byt b (j + 1) ≠ 43 ∧ byt b (j + 1) ≠ 45)) with hS | ⟨hS1, hS⟩ | ⟨hS1, hS2⟩
        · have g3 : (byt b (j + 1) == 43) = true := by rw [hS]; rfl
          have hlr2 : j + 1 < b.length := byt_lt hS (by decide)
          have hSS : byt b (j + 1) = 43 ∨ byt b (j + 1) = 45 := .inl hS
          clear hS
          cases hD : digC (byt b (j + 2)) with
          | true =>
            have HF := Lib.hid (HN.out.trans (expM_s hEE hSS true hD))
            rw [if_pos rfl] at HF
            have hld := digC_lt hD
            have Hd := Lib.hid hD
            clear hEE hSS
            go_wp2_with (first
              | (go_at_call 55; (with_reducible refine (HX.out _ (by omega) (by omega)).mono ?_); rintro e w' ⟨rfl, rfl⟩)
              | (go_at_call 56; (with_reducible refine (digit_any _ _).mono ?_); rintro e w' ⟨rfl, rfl⟩)
              | (go_at_call 57; (with_reducible refine (BX.out _ (by omega) (by omega)).mono ?_); rintro e w' ⟨rfl, rfl⟩))
            repeat (go_step3; try go_wp2_with (first
                | (go_at_call 55; (with_reducible refine (HX.out _ (by omega) (by omega)).mono ?_); rintro e w' ⟨rfl, rfl⟩)
                | (go_at_call 56; (with_reducible refine (digit_any _ _).mono ?_); rintro e w' ⟨rfl, rfl⟩)
                | (go_at_call 57; (with_reducible refine (BX.out _ (by omega) (by omega)).mono ?_); rintro e w' ⟨rfl, rfl⟩)))
            try rw [toJ_ret]
            go_ret2
            exact ⟨tupIB (by rw [HF.out]) (by rw [HF.out]), by trivial⟩
          | false =>
            have HF := Lib.hid (HN.out.trans (expM_s hEE hSS false hD))
            rw [if_neg (by decide)] at HF
            clear hEE hSS
            go_wp2_with (first
              | (go_at_call 55; (with_reducible refine (HX.out _ (by omega) (by omega)).mono ?_); rintro e w' ⟨rfl, rfl⟩)
              | (go_at_call 56; (with_reducible refine (digit_any _ _).mono ?_); rintro e w' ⟨rfl, rfl⟩)
              | (go_at_call 57; (with_reducible refine (BX.out _ (by omega) (by omega)).mono ?_); rintro e w' ⟨rfl, rfl⟩))
            repeat (go_step3; try go_wp2_with (first
                | (go_at_call 55; (with_reducible refine (HX.out _ (by omega) (by omega)).mono ?_); rintro e w' ⟨rfl, rfl⟩)
                | (go_at_call 56; (with_reducible refine (digit_any _ _).mono ?_); rintro e w' ⟨rfl, rfl⟩)
                | (go_at_call 57; (with_reducible refine (BX.out _ (by omega) (by omega)).mono ?_); rintro e w' ⟨rfl, rfl⟩)))
            exact ⟨⟨j + 2, _, by omega, by omega, rfl, ⟨_, _, _, _, _, _, _, _, _, _, _, _, _, _, _, _, _, _, _, _, _, _, _, _, _, _, _, _, _, _, _, _, _, _, _, _, _, _, _, _, _, _, _, _, _, _, _, _, _, _, _, _, _, _, _, _, _, _, _, _, _, _, _, _, _, _, _, _, rfl⟩, .inr (.inr ⟨rfl, HF.out⟩)⟩, by simp [numμ]⟩
        · have g3 : (byt b (j + 1) == 43) = false := by simpa using hS1
          have g4 : (byt b (j + 1) == 45) = true := by rw [hS]; rfl
          have hlr2 : j + 1 < b.length := byt_lt hS (by decide)
          have hSS : byt b (j + 1) = 43 ∨ byt b (j + 1) = 45 := .inr hS
          clear hS hS1
          cases hD : digC (byt b (j + 2)) with
          | true =>
            have HF := Lib.hid (HN.out.trans (expM_s hEE hSS true hD))
            rw [if_pos rfl] at HF
            have hld := digC_lt hD
            have Hd := Lib.hid hD
            clear hEE hSS
            go_wp2_with (first
              | (go_at_call 55; (with_reducible refine (HX.out _ (by omega) (by omega)).mono ?_); rintro e w' ⟨rfl, rfl⟩)
              | (go_at_call 56; (with_reducible refine (digit_any _ _).mono ?_); rintro e w' ⟨rfl, rfl⟩)
              | (go_at_call 57; (with_reducible refine (BX.out _ (by omega) (by omega)).mono ?_); rintro e w' ⟨rfl, rfl⟩))
            repeat (go_step3; try go_wp2_with (first
                | (go_at_call 55; (with_reducible refine (HX.out _ (by omega) (by omega)).mono ?_); rintro e w' ⟨rfl, rfl⟩)
                | (go_at_call 56; (with_reducible refine (digit_any _ _).mono ?_); rintro e w' ⟨rfl, rfl⟩)
                | (go_at_call 57; (with_reducible refine (BX.out _ (by omega) (by omega)).mono ?_); rintro e w' ⟨rfl, rfl⟩)))
            try rw [toJ_ret]
            go_ret2
            exact ⟨tupIB (by rw [HF.out]) (by rw [HF.out]), by trivial⟩
          | false =>
            have HF := Lib.hid (HN.out.trans (expM_s hEE hSS false hD))
            rw [if_neg (by decide)] at HF
            clear hEE hSS
            go_wp2_with (first
              | (go_at_call 55; (with_reducible refine (HX.out _ (by omega) (by omega)).mono ?_); rintro e w' ⟨rfl, rfl⟩)
              | (go_at_call 56; (with_reducible refine (digit_any _ _).mono ?_); rintro e w' ⟨rfl, rfl⟩)
              | (go_at_call 57; (with_reducible refine (BX.out _ (by omega) (by omega)).mono ?_); rintro e w' ⟨rfl, rfl⟩))
            repeat (go_step3; try go_wp2_with (first
                | (go_at_call 55; (with_reducible refine (HX.out _ (by omega) (by omega)).mono ?_); rintro e w' ⟨rfl, rfl⟩)
                | (go_at_call 56; (with_reducible refine (digit_any _ _).mono ?_); rintro e w' ⟨rfl, rfl⟩)
                | (go_at_call 57; (with_reducible refine (BX.out _ (by omega) (by omega)).mono ?_); rintro e w' ⟨rfl, rfl⟩)))
            exact ⟨⟨j + 2, _, by omega, by omega, rfl, ⟨_, _, _, _, _, _, _, _, _, _, _, _, _, _, _, _, _, _, _, _, _, _, _, _, _, _, _, _, _, _, _, _, _, _, _, _, _, _, _, _, _, _, _, _, _, _, _, _, _, _, _, _, _, _, _, _, _, _, _, _, _, _, _, _, _, _, _, _, rfl⟩, .inr (.inr ⟨rfl, HF.out⟩)⟩, by simp [numμ]⟩
        · have g3 : (byt b (j + 1) == 43) = false := by simpa using hS1
          have g4 : (byt b (j + 1) == 45) = false := by simpa using hS2
          cases hD : digC (byt b (j + 1)) with
          | true =>
            have HF := Lib.hid (HN.out.trans (expM_u hEE hS1 hS2 true hD))
            rw [if_pos rfl] at HF
            have hld := digC_lt hD
            have Hd := Lib.hid hD
            clear hEE hS1 hS2
            go_wp2_with (first
              | (go_at_call 55; (with_reducible refine (HX.out _ (by omega) (by omega)).mono ?_); rintro e w' ⟨rfl, rfl⟩)
              | (go_at_call 56; (with_reducible refine (digit_any _ _).mono ?_); rintro e w' ⟨rfl, rfl⟩)
              | (go_at_call 57; (with_reducible refine (BX.out _ (by omega) (by omega)).mono ?_); rintro e w' ⟨rfl, rfl⟩))
            repeat (go_step3; try go_wp2_with (first
                | (go_at_call 55; (with_reducible refine (HX.out _ (by omega) (by omega)).mono ?_); rintro e w' ⟨rfl, rfl⟩)
                | (go_at_call 56; (with_reducible refine (digit_any _ _).mono ?_); rintro e w' ⟨rfl, rfl⟩)
                | (go_at_call 57; (with_reducible refine (BX.out _ (by omega) (by omega)).mono ?_); rintro e w' ⟨rfl, rfl⟩)))
            try rw [toJ_ret]
            go_ret2
            exact ⟨tupIB (by rw [HF.out]) (by rw [HF.out]), by trivial⟩
          | false =>
            have HF := Lib.hid (HN.out.trans (expM_u hEE hS1 hS2 false hD))
            rw [if_neg (by decide)] at HF
            clear hEE hS1 hS2
            go_wp2_with (first
              | (go_at_call 55; (with_reducible refine (HX.out _ (by omega) (by omega)).mono ?_); rintro e w' ⟨rfl, rfl⟩)
              | (go_at_call 56; (with_reducible refine (digit_any _ _).mono ?_); rintro e w' ⟨rfl, rfl⟩)
              | (go_at_call 57; (with_reducible refine (BX.out _ (by omega) (by omega)).mono ?_); rintro e w' ⟨rfl, rfl⟩))
            repeat (go_step3; try go_wp2_with (first
                | (go_at_call 55; (with_reducible refine (HX.out _ (by omega) (by omega)).mono ?_); rintro e w' ⟨rfl, rfl⟩)
                | (go_at_call 56; (with_reducible refine (digit_any _ _).mono ?_); rintro e w' ⟨rfl, rfl⟩)
                | (go_at_call 57; (with_reducible refine (BX.out _ (by omega) (by omega)).mono ?_); rintro e w' ⟨rfl, rfl⟩)))
            exact ⟨⟨j + 1, _, by omega, by omega, rfl, ⟨_, _, _, _, _, _, _, _, _, _, _, _, _, _, _, _, _, _, _, _, _, _, _, _, _, _, _, _, _, _, _, _, _, _, _, _, _, _, _, _, _, _, _, _, _, _, _, _, _, _, _, _, _, _, _, _, _, _, _, _, _, _, _, _, _, _, _, _, rfl⟩, .inr (.inr ⟨rfl, HF.out⟩)⟩, by simp [numμ]⟩
      · have g1 : (byt b j != 101) = true := by simpa using hE1
        have g2 : (byt b j != 69) = false := by rw [hE]; rfl
        have hlr : j < b.length := byt_lt hE (by decide)
        have hEE : byt b j = 101 ∨ byt b j = 69 := .inr hE
        clear hE hE1
        rcases (by omega : byt b (j + 1) = 43 ∨ (byt b (j + 1) ≠ 43 ∧ byt b (j + 1) = 45) ∨ (byt b (j + 1) ≠ 43 ∧ byt b (j + 1) ≠ 45)) with hS | ⟨hS1, hS⟩ | ⟨hS1, hS2⟩
        · have g3 : (byt b (j + 1) == 43) = true := by rw [hS]; rfl
          have hlr2 : j + 1 < b.length := byt_lt hS (by decide)
          have hSS : byt b (j + 1) = 43 ∨ byt b (j + 1) = 45 := .inl hS
          clear hS
          cases hD : digC (byt b (j + 2)) with
          | true =>
            have HF := Lib.hid (HN.out.trans (expM_s hEE hSS true hD))
            rw [if_pos rfl] at HF
            have hld := digC_lt hD
            have Hd := Lib.hid hD
            clear hEE hSS
            go_wp2_with (first
              | (go_at_call 55; (with_reducible refine (HX.out _ (by omega) (by omega)).mono ?_); rintro e w' ⟨rfl, rfl⟩)
              | (go_at_call 56; (with_reducible refine (digit_any _ _).mono ?_); rintro e w' ⟨rfl, rfl⟩)
              | (go_at_call 57; (with_reducible refine (BX.out _ (by omega) (by omega)).mono ?_); rintro e w' ⟨rfl, rfl⟩))
            repeat (go_step3; try go_wp2_with (first
                | (go_at_call 55; (with_reducible refine (HX.out _ (by omega) (by omega)).mono ?_); rintro e w' ⟨rfl, rfl⟩)
                | (go_at_call 56; (with_reducible refine (digit_any _ _).mono ?_); rintro e w' ⟨rfl, rfl⟩)
                | (go_at_call 57; (with_reducible refine (BX.out _ (by omega) (by omega)).mono ?_); rintro e w' ⟨rfl, rfl⟩)))
            try rw [toJ_ret]
            go_ret2
            exact ⟨tupIB (by rw [HF.out]) (by rw [HF.out]), by trivial⟩
          | false =>
            have HF := Lib.hid (HN.out.trans (expM_s hEE hSS false hD))
            rw [if_neg (by decide)] at HF
            clear hEE hSS
            go_wp2_with (first
              | (go_at_call 55; (with_reducible refine (HX.out _ (by omega) (by omega)).mono ?_); rintro e w' ⟨rfl, rfl⟩)
              | (go_at_call 56; (with_reducible refine (digit_any _ _).mono ?_); rintro e w' ⟨rfl, rfl⟩)
              | (go_at_call 57; (with_reducible refine (BX.out _ (by omega) (by omega)).mono ?_); rintro e w' ⟨rfl, rfl⟩))
            repeat (go_step3; try go_wp2_with (first
                | (go_at_call 55; (with_reducible refine (HX.out _ (by omega) (by omega)).mono ?_); rintro e w' ⟨rfl, rfl⟩)
                | (go_at_call 56; (with_reducible refine (digit_any _ _).mono ?_); rintro e w' ⟨rfl, rfl⟩)
                | (go_at_call 57; (with_reducible refine (BX.out _ (by omega) (by omega)).mono ?_); rintro e w' ⟨rfl, rfl⟩)))
            exact ⟨⟨j + 2, _, by omega, by omega, rfl, ⟨_, _, _, _, _, _, _, _, _, _, _, _, _, _, _, _, _, _, _, _, _, _, _, _, _, _, _, _, _, _, _, _, _, _, _, _, _, _, _, _, _, _, _, _, _, _, _, _, _, _, _, _, _, _, _, _, _, _, _, _, _, _, _, _, _, _, _, _, rfl⟩, .inr (.inr ⟨rfl, HF.out⟩)⟩, by simp [numμ]⟩
        · have g3 : (byt b (j + 1) == 43) = false := by simpa using hS1
          have g4 : (byt b (j + 1) == 45) = true := by rw [hS]; rfl
          have hlr2 : j + 1 < b.length := byt_lt hS (by decide)
          have hSS : byt b (j + 1) = 43 ∨ byt b (j + 1) = 45 := .inr hS
          clear hS hS1
          cases hD : digC (byt b (j + 2)) with
          | true =>
            have HF := Lib.hid (HN.out.trans (expM_s hEE hSS true hD))
            rw [if_pos rfl] at HF
            have hld := digC_lt hD
            have Hd := Lib.hid hD
            clear hEE hSS
            go_wp2_with (first
              | (go_at_call 55; (with_reducible refine (HX.out _ (by omega) (by omega)).mono ?_); rintro e w' ⟨rfl, rfl⟩)
              | (go_at_call 56; (with_reducible refine (digit_any _ _).mono ?_); rintro e w' ⟨rfl, rfl⟩)
              | (go_at_call 57; (with_reducible refine (BX.out _ (by omega) (by omega)).mono ?_); rintro e w' ⟨rfl, rfl⟩))
            repeat (go_step3; try go_wp2_with (first
                | (go_at_call 55; (with_reducible refine (HX.out _ (by omega) (by omega)).mono ?_); rintro e w' ⟨rfl, rfl⟩)
                | (go_at_call 56; (with_reducible refine (digit_any _ _).mono ?_); rintro e w' ⟨rfl, rfl⟩)
                | (go_at_call 57; (with_reducible refine (BX.out _ (by omega) (by omega)).mono ?_); rintro e w' ⟨rfl, rfl⟩)))
            try rw [toJ_ret]
            go_ret2
            exact ⟨tupIB (by rw [HF.out]) (by rw [HF.out]), by trivial⟩
          | false =>
            have HF := Lib.hid (HN.out.trans (expM_s hEE hSS false hD))
            rw [if_neg (by decide)] at HF
            clear hEE hSS
            go_wp2_with (first
              | (go_at_call 55; (with_reducible refine (HX.out _ (by omega) (by omega)).mono ?_); rintro e w' ⟨rfl, rfl⟩)
              | (go_at_call 56; (with_reducible refine (digit_any _ _).mono ?_); rintro e w' ⟨rfl, rfl⟩)
              | (go_at_call 57; (with_reducible refine (BX.out _ (by omega) (by omega)).mono ?_); rintro e w' ⟨rfl, rfl⟩))
            repeat (go_step3; try go_wp2_with (first
                | (go_at_call 55; (with_reducible refine (HX.out _ (by omega) (by omega)).mono ?_); rintro e w' ⟨rfl, rfl⟩)
                | (go_at_call 56; (with_reducible refine (digit_any _ _).mono ?_); rintro e w' ⟨rfl, rfl⟩)
                | (go_at_call 57; (with_reducible refine (BX.out _ (by omega) (by omega)).mono ?_); rintro e w' ⟨rfl, rfl⟩)))
            exact ⟨⟨j + 2, _, by omega, by omega, rfl, ⟨_, _, _, _, _, _, _, _, _, _, _, _, _, _, _, _, _, _, _, _, _, _, _, _, _, _, _, _, _, _, _, _, _, _, _, _, _, _, _, _, _, _, _, _, _, _, _, _, _, _, _, _, _, _, _, _, _, _, _, _, _, _, _, _, _, _, _, _, rfl⟩, .inr (.inr ⟨rfl, HF.out⟩)⟩, by simp [numμ]⟩
        · have g3 : (byt b (j + 1) == 43) = false := by simpa using hS1
          have g4 : (byt b (j + 1) == 45) = false := by simpa using hS2
          cases hD : digC (byt b (j + 1)) with
          | true =>
            have HF := Lib.hid (HN.out.trans (expM_u hEE hS1 hS2 true hD))
            rw [if_pos rfl] at HF
            have hld := digC_lt hD
            have Hd := Lib.hid hD
            clear hEE hS1 hS2
            go_wp2_with (first
              | (go_at_call 55; (with_reducible refine (HX.out _ (by omega) (by omega)).mono ?_); rintro e w' ⟨rfl, rfl⟩)
              | (go_at_call 56; (with_reducible refine (digit_any _ _).mono ?_); rintro e w' ⟨rfl, rfl⟩)
              | (go_at_call 57; (with_reducible refine (BX.out _ (by omega) (by omega)).mono ?_); rintro e w' ⟨rfl, rfl⟩))
            repeat (go_step3; try go_wp2_with (first
                | (go_at_call 55; (with_reducible refine (HX.out _ (by omega) (by omega)).mono ?_); rintro e w' ⟨rfl, rfl⟩)
                | (go_at_call 56; (with_reducible refine (digit_any _ _).mono ?_); rintro e w' ⟨rfl, rfl⟩)
                | (go_at_call 57; (with_reducible refine (BX.out _ (by omega) (by omega)).mono ?_); rintro e w' ⟨rfl, rfl⟩)))
            try rw [toJ_ret]
            go_ret2
            exact ⟨tupIB (by rw [HF.out]) (by rw [HF.out]), by trivial⟩
          | false =>
            have HF := Lib.hid (HN.out.trans (expM_u hEE hS1 hS2 false hD))
            rw [if_neg (by decide)] at HF
            clear hEE hS1 hS2
            go_wp2_with (first
              | (go_at_call 55; (with_reducible refine (HX.out _ (by omega) (by omega)).mono ?_); rintro e w' ⟨rfl, rfl⟩)
              | (go_at_call 56; (with_reducible refine (digit_any _ _).mono ?_); rintro e w' ⟨rfl, rfl⟩)
              | (go_at_call 57; (with_reducible refine (BX.out _ (by omega) (by omega)).mono ?_); rintro e w' ⟨rfl, rfl⟩))
            repeat (go_step3; try go_wp2_with (first
                | (go_at_call 55; (with_reducible refine (HX.out _ (by omega) (by omega)).mono ?_); rintro e w' ⟨rfl, rfl⟩)
                | (go_at_call 56; (with_reducible refine (digit_any _ _).mono ?_); rintro e w' ⟨rfl, rfl⟩)
                | (go_at_call 57; (with_reducible refine (BX.out _ (by omega) (by omega)).mono ?_); rintro e w' ⟨rfl, rfl⟩)))
            exact ⟨⟨j + 1, _, by omega, by omega, rfl, ⟨_, _, _, _, _, _, _, _, _, _, _, _, _, _, _, _, _, _, _, _, _, _, _, _, _, _, _, _, _, _, _, _, _, _, _, _, _, _, _, _, _, _, _, _, _, _, _, _, _, _, _, _, _, _, _, _, _, _, _, _, _, _, _, _, _, _, _, _, rfl⟩, .inr (.inr ⟨rfl, HF.out⟩)⟩, by simp [numμ]⟩
      · have g1 : (byt b j != 101) = true := by simpa using hE1
        have g2 : (byt b j != 69) = true := by simpa using hE2
        have HF := Lib.hid (HN.out.trans (expM_n hE1 hE2))
        clear hE1 hE2
        go_wp2_with (first
          | (go_at_call 55; (with_reducible refine (HX.out _ (by omega) (by omega)).mono ?_); rintro e w' ⟨rfl, rfl⟩)
          | (go_at_call 56; (with_reducible refine (digit_any _ _).mono ?_); rintro e w' ⟨rfl, rfl⟩)
          | (go_at_call 57; (with_reducible refine (BX.out _ (by omega) (by omega)).mono ?_); rintro e w' ⟨rfl, rfl⟩))
        repeat (go_step3; try go_wp2_with (first
            | (go_at_call 55; (with_reducible refine (HX.out _ (by omega) (by omega)).mono ?_); rintro e w' ⟨rfl, rfl⟩)
            | (go_at_call 56; (with_reducible refine (digit_any _ _).mono ?_); rintro e w' ⟨rfl, rfl⟩)
            | (go_at_call 57; (with_reducible refine (BX.out _ (by omega) (by omega)).mono ?_); rintro e w' ⟨rfl, rfl⟩)))
        try rw [toJ_ret]
        go_ret2
        exact ⟨tupIB (by rw [HF.out]) (by rw [HF.out]), by trivial⟩
    · refine ⟨_, rfl, ?_⟩
      have HN := Lib.hid hn
      clear hn
      go_wp2_with (first
        | (go_at_call 55; (with_reducible refine (HX.out _ (by omega) (by omega)).mono ?_); rintro e w' ⟨rfl, rfl⟩)
        | (go_at_call 56; (with_reducible refine (digit_any _ _).mono ?_); rintro e w' ⟨rfl, rfl⟩)
        | (go_at_call 57; (with_reducible refine (BX.out _ (by omega) (by omega)).mono ?_); rintro e w' ⟨rfl, rfl⟩))
      repeat (go_step3; try go_wp2_with (first
          | (go_at_call 55; (with_reducible refine (HX.out _ (by omega) (by omega)).mono ?_); rintro e w' ⟨rfl, rfl⟩)
          | (go_at_call 56; (with_reducible refine (digit_any _ _).mono ?_); rintro e w' ⟨rfl, rfl⟩)
          | (go_at_call 57; (with_reducible refine (BX.out _ (by omega) (by omega)).mono ?_); rintro e w' ⟨rfl, rfl⟩)))
      try rw [toJ_ret]
      go_ret2
      exact ⟨tupIB (by rw [HN.out]) (by rw [HN.out]), by trivial⟩
section
def Box (w : World) (g : Nat) (t : TypeId) (cs : List Value) : Prop := w.heap[g]? = some (.cells cs.toArray t (0, 0))
section
variable {w w' : World} {g : Nat} {t : TypeId} {cs : List Value}
theorem Box.lt (h : Box w g t cs) : g < w.heap.size := (Array.getElem?_eq_some_iff.1 h).1
theorem Box.cell (h : Box w g t cs) (i : Nat) : w.cell? ⟨g, i, none⟩ = cs[i]? := by
  rw [cell_of_row w g i cs.toArray t (0, 0) h]; simp
theorem Box.drew (h : Box w g t cs) (n : Nat) : Box (w.drewN n) g t cs := h
theorem Box.grown {row : Option Nat} (h : Box w g t cs) (hg : w.grownBy w' row) (hr : row ≠ some g) : Box w' g t cs := by
  unfold Box; rw [hg.block g h.lt (fun e => hr e.symm)]; exact h
theorem Box.below {B : Nat} (h : Box w g t cs) (hb : Below B w w') (hB : g < B) : Box w' g t cs := by
  unfold Box; rw [hb.block g hB]; exact h
theorem Box.new (w : World) (t : TypeId) (cs : List Value) : Box (w.alloc (.cells cs.toArray t)) w.heap.size t cs := heap_alloc_new w _
theorem Box.alloc (h : Box w g t cs) (o : Obj) : Box (w.alloc o) g t cs := h.grown (World.grownBy_alloc w o none) (by simp)
theorem Box.frozen (h : Box w g t cs) (i : Nat) : w.frozen? ⟨g, i, none⟩ = false := by
  have h2 : w.heap[g]? = some (.cells cs.toArray t (0, 0)) := h
  simp [World.frozen?, h2]
theorem Box.set (h : Box w g t cs) (i : Nat) (hi : i < cs.length) (v : Value) : Box (w.setCell ⟨g, i, none⟩ v) g t (cs.set i v) := by
  have h2 : w.heap[g]? = some (.cells cs.toArray t (0, 0)) := h
  unfold Box
  rw [heap_setCell_same w g i cs.toArray t v h2]
  simp
end
theorem grownBy_set (w : World) (g i : Nat) (v : Value) : w.grownBy (w.setCell ⟨g, i, none⟩ v) (some g) := by
  have h := Below.setCell (B := 0) (Below.refl 0 w) (p := ⟨g, i, none⟩) (Nat.zero_le _) v
  exact ⟨h.os, h.tape, h.output, h.size, fun k hk hr => Below.heap_setCell w ⟨g, i, none⟩ v k (fun e => hr (by rw [show k = g from e]))⟩
end
end Go.Proofs.Ytaklcjnfjchebaa
