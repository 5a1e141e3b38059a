/- Contracts of ref24.star, ref24.Weight, glob.Weight, cmp.Compare of floats, cmp.Or. -/
import Derived.Test.YtiomkjpgoehchaaStrs
import Derived.Test.YtiomkjpgoehchaaGlobM
import Derived.Test.YtiomkjpgoehchaaFloatM
import Derived.Test.YtiomkjpgoehchaaShelf
import Derived.Lib.IndexLaws
set_option linter.unusedVariables false
set_option linter.unusedSimpArgs false
namespace Go.Proofs.Ytiomkjpgoehchaa
open Go.RowKit

theorem starN_none (l : List UInt8) (h : ∀ q, q < l.length → byt l q ≠ 42) : starN l = -1 := by
  have : fstar l = l.length := fstar_eq l l.length (Nat.le_refl _) h (fun h => by omega)
  unfold starN oneStar; rw [this]; simp
theorem starN_one (l : List UInt8) (p : Nat) (hp : p < l.length) (h1 : byt l p = 42) (h : ∀ q, q < l.length → q ≠ p → byt l q ≠ 42) : starN l = p := by
  have e : fstar l = p := fstar_eq l p (by omega) (fun q hq => h q (by omega) (by omega)) (fun _ => h1)
  have e2 : fstar (l.drop (p + 1)) = (l.drop (p + 1)).length := fstar_eq _ _ (Nat.le_refl _) (fun q hq => by rw [byt_drop]; rw [List.length_drop] at hq; exact h _ (by omega) (by omega)) (fun h => by omega)
  unfold starN oneStar
  rw [e, e2, if_pos]
  simp; omega
theorem starN_two (l : List UInt8) (p q : Nat) (hp : p < q) (hq : q < l.length) (h1 : byt l p = 42) (h2 : byt l q = 42) : starN l = -1 := by
  have a : fstar l ≤ p := by
    rcases Nat.lt_or_ge p (fstar l) with h | h
    · exact absurd h1 (fstar_before l p h)
    · exact h
  have b : fstar (l.drop (fstar l + 1)) < (l.drop (fstar l + 1)).length := by
    have c := fstar_le (l.drop (fstar l + 1))
    rcases Nat.lt_or_ge (fstar (l.drop (fstar l + 1))) (l.drop (fstar l + 1)).length with h | h
    · exact h
    · have := fstar_before (l.drop (fstar l + 1)) (q - (fstar l + 1)) (by rw [List.length_drop] at h c; omega)
      rw [byt_drop, show fstar l + 1 + (q - (fstar l + 1)) = q from by omega] at this
      exact absurd h2 this
  unfold starN oneStar
  rw [if_neg]
  simp only [decide_eq_true_eq, not_and]
  intro _ hn
  exact hn b

set_option maxHeartbeats 1000000 in
theorem star_any (l : List UInt8) (w : World) (hm : l.length ≤ 1000000) :
    Calls Try.prog 22 #[.string ⟨l.toArray⟩] w fun e w' => e = .returned (.int .i64 (starN l)) ∧ w = w' := by
  go_enter Try.func22, Try.ntmps22
  go_wp2
  go_loop [3, 4, 5] (fun ta tn ti => ∃ (i : Nat) (n at_ : Int), i ≤ l.length ∧ ti = .int .i64 i ∧ tn = .int .i64 n ∧ ta = .int .i64 at_ ∧ 0 ≤ n ∧ n ≤ i ∧ Hid ((n = 0 ∧ at_ = -1 ∧ ∀ q, q < i → byt l q ≠ 42) ∨ (n = 1 ∧ ∃ p : Nat, p < i ∧ at_ = p ∧ byt l p = 42 ∧ ∀ q, q < i → q ≠ p → byt l q ≠ 42) ∨ (2 ≤ n ∧ ∃ p q : Nat, p < q ∧ q < i ∧ byt l p = 42 ∧ byt l q = 42))) (fun _ _ ti => l.length - (intOf ti).toNat)
  case atStart => exact ⟨0, 0, -1, by omega, rfl, rfl, rfl, by omega, by omega, Lib.hid (.inl ⟨rfl, rfl, fun q h => by omega⟩)⟩
  case round =>
    obtain ⟨i, n, at_, hi, rfl, rfl, rfl, hn0, hn1, HH⟩ := hrel
    have b0 := byt_lo l i
    have b1 := byt_hi l i
    by_cases hlt : i < l.length
    · by_cases h42 : byt l i = 42
      · have h2 : (byt l i == 42) = true := by rw [beq_iff_eq]; exact h42
        have HE := Lib.hid h42
        clear h42
        go_wp2
        go_round
        case rel =>
          refine ⟨i + 1, n + 1, i, by omega, by go_num, by go_num, rfl, by omega, by omega, Lib.hid ?_⟩
          rcases HH.out with ⟨e1, e2, h⟩ | ⟨e1, p, hp, e2, e3, h⟩ | ⟨e1, p, q, hp, hq, e2, e3⟩
          · exact .inr (.inl ⟨by omega, i, by omega, rfl, HE.out, fun q hq hne => h q (by omega)⟩)
          · exact .inr (.inr ⟨by omega, p, i, hp, by omega, e3, HE.out⟩)
          · exact .inr (.inr ⟨by omega, p, q, hp, by omega, e2, e3⟩)
        case measure => simp [intOf]; omega
      · have h2 : (byt l i == 42) = false := by rw [beq_eq_false_iff_ne]; exact h42
        have HE := Lib.hid h42
        clear h42
        go_wp2
        go_round
        case rel =>
          refine ⟨i + 1, n, at_, by omega, by go_num, rfl, rfl, by omega, by omega, Lib.hid ?_⟩
          rcases HH.out with ⟨e1, e2, h⟩ | ⟨e1, p, hp, e2, e3, h⟩ | ⟨e1, p, q, hp, hq, e2, e3⟩
          · exact .inl ⟨e1, e2, fun q hq => by
              by_cases hqi : q = i
              · subst hqi; exact HE.out
              · exact h q (by omega)⟩
          · exact .inr (.inl ⟨e1, p, by omega, e2, e3, fun q hq hne => by
              by_cases hqi : q = i
              · subst hqi; exact HE.out
              · exact h q (by omega) hne⟩)
          · exact .inr (.inr ⟨e1, p, q, hp, by omega, e2, e3⟩)
        case measure => simp [intOf]; omega
    · obtain rfl : i = l.length := by omega
      by_cases hn : n = 1
      · have hn2 : (n == 1) = true := by rw [beq_iff_eq]; exact hn
        have hn3 : (n != 1) = false := by rw [hn]; rfl
        have HF : Hid (starN l = at_) := Lib.hid (by
          rcases HH.out with ⟨e1, e2, h⟩ | ⟨e1, p, hp, e2, e3, h⟩ | ⟨e1, p, q, hp, hq, e2, e3⟩
          · omega
          · rw [e2]; exact starN_one l p hp e3 h
          · omega)
        clear hn
        go_wp2
        go_ret
        exact ⟨ret_n HF.out.symm, by trivial⟩
      · have hn3 : (n != 1) = true := by rw [bne_iff_ne]; exact hn
        have HF : Hid (starN l = -1) := Lib.hid (by
          rcases HH.out with ⟨e1, e2, h⟩ | ⟨e1, p, hp, e2, e3, h⟩ | ⟨e1, p, q, hp, hq, e2, e3⟩
          · exact starN_none l h
          · omega
          · exact starN_two l p q hp hq e2 e3)
        clear hn
        go_wp2
        go_ret
        exact ⟨ret_n HF.out.symm, by trivial⟩

theorem tupNN {a b a' b' : Int} (h1 : a = a') (h2 : b = b') : Ending.returned (.tuple #[.int .i64 a, .int .i64 b]) = .returned (.tuple #[.int .i64 a', .int .i64 b']) := by rw [h1, h2]
set_option maxHeartbeats 1000000 in
theorem rWeight_any (l : List UInt8) (w : World) (hm : l.length ≤ 1000000) :
    Calls Try.prog 10 #[.string ⟨l.toArray⟩] w fun e w' => e = .returned (.tuple #[.int .i64 (aheadL l), .int .i64 l.length]) ∧ w = w' := by
  go_enter Try.func10, Try.ntmps10
  go_wp2
  go_loop [4] (fun ti => ∃ (i : Nat), i ≤ l.length ∧ ti = .int .i64 i ∧ Hid (∀ q, q < i → byt l q ≠ 42)) (fun ti => l.length - (intOf ti).toNat)
  case atStart => exact ⟨0, by omega, rfl, Lib.hid (fun q h => by omega)⟩
  case round =>
    obtain ⟨i, hi, rfl, HH⟩ := hrel
    have b0 := byt_lo l i
    have b1 := byt_hi l i
    by_cases hlt : i < l.length
    · by_cases h42 : byt l i = 42
      · have h2 : (byt l i == 42) = true := by rw [beq_iff_eq]; exact h42
        have HF : Hid (aheadL l = i + 1) := Lib.hid (by
          have := fstar_eq l i (by omega) HH.out (fun _ => h42)
          unfold aheadL; rw [this, if_pos hlt])
        clear h42
        go_wp2
        go_ret2
        exact ⟨tupNN HF.out.symm rfl, by trivial⟩
      · have h2 : (byt l i == 42) = false := by rw [beq_eq_false_iff_ne]; exact h42
        have HE := Lib.hid h42
        clear h42
        go_wp2
        go_round
        case rel => exact ⟨i + 1, by omega, by go_num, Lib.hid (fun q hq => by
          by_cases hqi : q = i
          · subst hqi; exact HE.out
          · exact HH.out q (by omega))⟩
        case measure => simp [intOf]; omega
    · obtain rfl : i = l.length := by omega
      have HF : Hid (aheadL l = 0) := Lib.hid (by
        have := fstar_eq l l.length (by omega) HH.out (fun h => by omega)
        unfold aheadL; rw [this, if_neg (by omega)])
      go_wp2
      go_ret2
      exact ⟨tupNN HF.out.symm rfl, by trivial⟩

theorem index_ahead (l : List UInt8) : Lib.indexByte l 42 + 1 = aheadL l ∧ -1 ≤ Lib.indexByte l 42 ∧ Lib.indexByte l 42 < l.length := by
  have key : ∀ l : List UInt8, Lib.indexByte l 42 = if fstar l < l.length then (fstar l : Int) else -1 := by
    intro l
    induction l with
    | nil => rfl
    | cons b t ih =>
      unfold Lib.indexByte fstar
      by_cases hb : (b.toNat : Int) = 42
      · have e : (b == 42) = true := by rw [beq_iff_eq]; apply UInt8.toNat_inj.1; show b.toNat = 42; omega
        rw [e, if_pos rfl, if_pos hb]; simp
      · have e : (b == 42) = false := by
          rw [beq_eq_false_iff_ne]; rintro rfl; exact hb rfl
        rw [e, if_neg (by decide), if_neg hb, ih]
        have := fstar_le t
        by_cases c : fstar t < t.length
        · rw [if_pos c]
          have e2 : ((fstar t : Int) == -1) = false := by rw [beq_eq_false_iff_ne]; omega
          rw [e2, if_neg (by decide), if_pos (by simp; omega)]; push_cast; rfl
        · rw [if_neg c, if_pos (show ((-1 : Int) == -1) = true from rfl), if_neg (by simp; omega)]
  have h := fstar_le l
  rw [key l]
  unfold aheadL
  split <;> omega

theorem ret_c {a b c d : Nat} (h1 : a = c) (h2 : b = d) : Ending.returned (.complex .f64 a b) = .returned (.complex .f64 c d) := by rw [h1, h2]
set_option maxHeartbeats 1000000 in
theorem Weight_any (l : List UInt8) (w : World) (hm : l.length ≤ 1000000) :
    Calls Try.prog 13 #[.string ⟨l.toArray⟩] w fun e w' => e = .returned (.complex .f64 (F (aheadL l)) (F l.length)) ∧ w = w' := by
  obtain ⟨e1, e2, e3⟩ := index_ahead l
  have HA := Lib.hid e1
  clear e1
  go_enter Try.func13, Try.ntmps13
  go_wp2_with (go_at_call 23; refine (Try.strings_IndexByte ⟨l.toArray⟩ 42 _).mono ?_; rintro e w' ⟨rfl, rfl⟩)
  go_ret
  exact ⟨ret_c (by rw [← HA.out]; rfl) rfl, by trivial⟩

set_option maxHeartbeats 1000000 in
theorem isNaN_any (n : Int) (w : World) (h0 : 0 ≤ n) (h1 : n < 1024) :
    Calls Try.prog 31 #[.float .f64 (F n)] w fun e w' => e = .returned (.bool false) ∧ w = w' := by
  have ho := order_F n n h0 h1 h0 h1
  have hc : compare n n = .eq := by rw [Int.compare_eq_ite_lt]; simp
  rw [hc] at ho
  clear hc
  generalize F n = f at *
  go_enter Try.func31, Try.ntmps31
  go_wp2
  go_ret
  exact ⟨rfl, by trivial⟩
def cmpI (m n : Int) : Int := if m < n then -1 else if n < m then 1 else 0
set_option maxHeartbeats 1000000 in
theorem cmpF_any (m n : Int) (w : World) (h0 : 0 ≤ m) (h1 : m < 1024) (h2 : 0 ≤ n) (h3 : n < 1024) :
    Calls Try.prog 25 #[.float .f64 (F m), .float .f64 (F n)] w fun e w' => e = .returned (.int .i64 (cmpI m n)) ∧ w = w' := by
  have HX := Lib.hid (order_F m n h0 h1 h2 h3)
  have C1 : Hid (∀ w, Calls Try.prog 31 #[.float .f64 (F m)] w fun e w' => e = .returned (.bool false) ∧ w = w') := Lib.hid (fun w => isNaN_any m w h0 h1)
  have C2 : Hid (∀ w, Calls Try.prog 31 #[.float .f64 (F n)] w fun e w' => e = .returned (.bool false) ∧ w = w') := Lib.hid (fun w => isNaN_any n w h2 h3)
  generalize F m = f at *
  generalize F n = g at *
  have hc : (m < n ∧ compare m n = .lt ∧ cmpI m n = -1) ∨ (n < m ∧ compare m n = .gt ∧ cmpI m n = 1) ∨ (m = n ∧ compare m n = .eq ∧ cmpI m n = 0) := by
    rw [Int.compare_eq_ite_lt]; unfold cmpI
    rcases Int.lt_trichotomy m n with h | h | h
    · left; rw [if_pos h, if_pos h]; exact ⟨h, rfl, rfl⟩
    · right; right; rw [if_neg (by omega), if_neg (by omega), if_neg (by omega), if_neg (by omega)]; exact ⟨h, rfl, rfl⟩
    · right; left; rw [if_neg (by omega), if_pos h, if_neg (by omega), if_pos h]; exact ⟨h, rfl, rfl⟩
  rcases hc with ⟨_, hc, hr⟩ | ⟨_, hc, hr⟩ | ⟨_, hc, hr⟩
  all_goals
    have ho := HX.out
    rw [hc] at ho
    have HR := Lib.hid hr
    clear hc HX hr
    go_enter Try.func25, Try.ntmps25
    go_wp2_with fail
    refine (C1.out _).mono ?_
    rintro e w' ⟨rfl, rfl⟩
    go_wp2_with fail
    refine (C2.out _).mono ?_
    rintro e w' ⟨rfl, rfl⟩
    go_wp2_with fail
    go_ret
    exact ⟨ret_n HR.out.symm, by trivial⟩

theorem IsSl.lit2 (W : World) (b : Nat) (x y : Int) (e : TypeId) (m : Nat × Nat) (hb : W.heap[b]? = some (.cells #[.int .i64 x, .int .i64 y] e m)) :
    W.cell? ⟨b, 0, none⟩ = some (.int .i64 x) ∧ W.cell? ⟨b, 1, none⟩ = some (.int .i64 y) := by
  rw [cell_of_row W b 0 _ e m hb, cell_of_row W b 1 _ e m hb]; exact ⟨rfl, rfl⟩
def orI (x y : Int) : Int := if x = 0 then y else x
set_option maxHeartbeats 1000000 in
theorem or_any (b : Nat) (x y : Int) (w : World) (h1 : w.cell? ⟨b, 0, none⟩ = some (.int .i64 x)) (h2 : w.cell? ⟨b, 1, none⟩ = some (.int .i64 y)) :
    Calls Try.prog 24 #[.slice (some ⟨b, 0, none⟩) 2 2] w fun e w' => e = .returned (.int .i64 (orI x y)) ∧ w = w' := by
  go_enter Try.func24, Try.ntmps24
  go_wp2
  go_loop [8] (fun ti => ∃ i : Int, ((i = 0 ∧ True) ∨ (i = 1 ∧ Hid (x = 0)) ∨ (i = 2 ∧ Hid (x = 0 ∧ y = 0))) ∧ ti = .int .i64 i) (fun ti => (2 - intOf ti).toNat)
  case atStart => exact ⟨0, .inl ⟨rfl, trivial⟩, rfl⟩
  case round =>
    obtain ⟨i, hi, rfl⟩ := hrel
    rcases hi with ⟨rfl, _⟩ | ⟨rfl, HX⟩ | ⟨rfl, HX⟩
    · by_cases hx : x = 0
      · have hx2 : (x != 0) = false := by rw [hx]; rfl
        have HX := Lib.hid hx
        clear hx
        go_wp2
        exact ⟨⟨1, .inr (.inl ⟨rfl, HX⟩), rfl⟩, by simp [intOf]⟩
      · have hx2 : (x != 0) = true := by rw [bne_iff_ne]; exact hx
        have HR : Hid (orI x y = x) := Lib.hid (by unfold orI; rw [if_neg hx])
        clear hx
        go_wp2
        go_ret
        exact ⟨ret_n HR.out.symm, by trivial⟩
    · by_cases hy : y = 0
      · have hy2 : (y != 0) = false := by rw [hy]; rfl
        have HY := Lib.hid hy
        clear hy
        go_wp2
        exact ⟨⟨2, .inr (.inr ⟨rfl, Lib.hid ⟨HX.out, HY.out⟩⟩), rfl⟩, by simp [intOf]⟩
      · have hy2 : (y != 0) = true := by rw [bne_iff_ne]; exact hy
        have HR : Hid (orI x y = y) := Lib.hid (by unfold orI; rw [if_pos HX.out])
        clear hy
        go_wp2
        go_ret
        exact ⟨ret_n HR.out.symm, by trivial⟩
    · have HR : Hid (orI x y = 0) := Lib.hid (by unfold orI; rw [if_pos HX.out.1, HX.out.2])
      go_wp2
      go_ret
      exact ⟨ret_n HR.out.symm, by trivial⟩
end Go.Proofs.Ytiomkjpgoehchaa
