/- The plain mathematics of glob. No program. -/
import Derived.Test.YtiomkjpgoehchaaPure
set_option linter.unusedVariables false
set_option linter.unusedSimpArgs false
namespace Go.Proofs.Ytiomkjpgoehchaa

/-- Where the first star stands; its length if there is none. -/
def fstar : List UInt8 → Nat
  | [] => 0
  | b :: t => if (b.toNat : Int) = 42 then 0 else fstar t + 1
def hasStar (l : List UInt8) : Bool := decide (fstar l < l.length)
theorem gbyt0 (b : UInt8) (t : List UInt8) : byt (b :: t) 0 = (b.toNat : Int) := rfl
theorem gbytS (b : UInt8) (t : List UInt8) (i : Nat) : byt (b :: t) (i + 1) = byt t i := by unfold byt; simp [List.getD]
theorem fstar_le (l : List UInt8) : fstar l ≤ l.length := by
  induction l with
  | nil => simp [fstar]
  | cons b t ih => unfold fstar; split <;> simp; omega
theorem fstar_before : ∀ (l : List UInt8) (q : Nat), q < fstar l → byt l q ≠ 42 := by
  intro l
  induction l with
  | nil => intro q h; simp [fstar] at h
  | cons b t ih =>
    intro q h
    unfold fstar at h
    split at h
    · omega
    · rename_i hb
      cases q with
      | zero => rw [gbyt0]; exact hb
      | succ q => rw [gbytS]; exact ih q (by omega)
theorem fstar_at : ∀ (l : List UInt8), fstar l < l.length → byt l (fstar l) = 42 := by
  intro l
  induction l with
  | nil => intro h; simp at h
  | cons b t ih =>
    intro h
    unfold fstar at h ⊢
    split
    · rename_i hb; rw [gbyt0]; exact hb
    · rename_i hb
      rw [if_neg hb] at h
      rw [gbytS]; exact ih (by simpa using h)
theorem fstar_eq (l : List UInt8) (n : Nat) (h : n ≤ l.length) (hb : ∀ q, q < n → byt l q ≠ 42) (ha : n < l.length → byt l n = 42) : fstar l = n := by
  have h1 := fstar_le l
  rcases Nat.lt_trichotomy (fstar l) n with h2 | h2 | h2
  · exact absurd (fstar_at l (by omega)) (hb _ h2)
  · exact h2
  · exact absurd (ha (by omega)) (fstar_before l n h2)
/-- How much stands ahead of the star, it too. -/
def aheadL (l : List UInt8) : Int := if fstar l < l.length then (fstar l : Int) + 1 else 0
def gcmp (a b : List UInt8) : Int :=
  if aheadL b < aheadL a then -1 else if aheadL a < aheadL b then 1 else if b.length < a.length then -1 else if a.length < b.length then 1 else 0
/-- A pattern of one star: does it fit, and what stands for the star. -/
def oneStar (key : List UInt8) : Bool := decide (fstar key < key.length ∧ ¬ fstar (key.drop (fstar key + 1)) < (key.drop (fstar key + 1)).length)
def fitsL (key s : List UInt8) : Bool :=
  oneStar key && decide (key.length ≤ s.length ∧ s.take (fstar key) = key.take (fstar key) ∧ s.drop (s.length - (key.length - fstar key - 1)) = key.drop (fstar key + 1))
def midL (key s : List UInt8) : List UInt8 := (s.take (s.length - (key.length - fstar key - 1))).drop (fstar key)
def mtchL (key s : List UInt8) : List UInt8 := if fitsL key s then midL key s else []
/-- The best one so far. -/
def stepB (s : List UInt8) (st : Option (List UInt8)) (key : List UInt8) : Option (List UInt8) :=
  match st with
  | none => if fitsL key s then some key else none
  | some b => if fitsL key s ∧ gcmp key b < 0 then some key else some b
def bestO (s : List UInt8) (ks : List (List UInt8)) : Option (List UInt8) := ks.foldl (stepB s) none
def bestK (s : List UInt8) (ks : List (List UInt8)) : List UInt8 := (bestO s ks).getD []
def bestM (s : List UInt8) (ks : List (List UInt8)) : List UInt8 := match bestO s ks with | none => [] | some k => midL k s
def bestF (s : List UInt8) (ks : List (List UInt8)) : Bool := (bestO s ks).isSome
theorem bestO_take (s : List UInt8) (ks : List (List UInt8)) (i : Nat) (h : i < ks.length) : bestO s (ks.take (i + 1)) = stepB s (bestO s (ks.take i)) (ks.getD i []) := by
  unfold bestO
  rw [List.take_succ_eq_append_getElem h, List.foldl_append]
  simp [List.getD, h]
theorem bestO_fits (s : List UInt8) : ∀ (ks : List (List UInt8)) (st : Option (List UInt8)), (∀ k, st = some k → fitsL k s = true) → ∀ k, ks.foldl (stepB s) st = some k → fitsL k s = true := by
  intro ks
  induction ks with
  | nil => intro st h k hk; exact h k hk
  | cons x t ih =>
    intro st h k hk
    refine ih (stepB s st x) ?_ k hk
    intro k' hk'
    unfold stepB at hk'
    cases st with
    | none =>
      simp only at hk'
      split at hk'
      · rename_i hf; injection hk' with e; rw [← e]; exact hf
      · cases hk'
    | some b =>
      simp only at hk'
      split at hk'
      · rename_i hf; injection hk' with e; rw [← e]; exact hf.1
      · injection hk' with e; rw [← e]; exact h b rfl
/-- The star's place as the document's own answer tells it: -1 unless there is just one. -/
def starN (l : List UInt8) : Int := if oneStar l then (fstar l : Int) else -1

theorem gcmp_self (a : List UInt8) : gcmp a a = 0 := by unfold gcmp; rw [if_neg (by omega), if_neg (by omega), if_neg (by omega), if_neg (by omega)]
theorem gcmp_neg (a b : List UInt8) : gcmp a b = - gcmp b a := by
  unfold gcmp
  (repeat' split) <;> omega
theorem gcmp_zero (a b : List UInt8) : gcmp a b = 0 ↔ aheadL a = aheadL b ∧ a.length = b.length := by
  unfold gcmp
  (repeat' split) <;> omega
theorem gcmp_lt (a b : List UInt8) : gcmp a b < 0 ↔ aheadL b < aheadL a ∨ (aheadL b = aheadL a ∧ b.length < a.length) := by
  unfold gcmp
  (repeat' split) <;> omega
theorem gcmp_bd (a b : List UInt8) : -1 ≤ gcmp a b ∧ gcmp a b ≤ 1 := by unfold gcmp; (repeat' split) <;> omega
theorem gcmp_trans (a b c : List UInt8) : ¬ (gcmp a b ≤ 0 ∧ gcmp b c ≤ 0 ∧ 0 < gcmp a c) := by
  have h1 := gcmp_lt a b
  have h2 := gcmp_lt b c
  have h3 := gcmp_lt a c
  have z1 := gcmp_zero a b
  have z2 := gcmp_zero b c
  have z3 := gcmp_zero a c
  omega
/-- Two keys that fit one text and weigh the same are one. -/
theorem fits_same (a b s : List UInt8) (ha : fitsL a s = true) (hb : fitsL b s = true) (h : gcmp a b = 0) : a = b := by
  obtain ⟨h1, h2⟩ := (gcmp_zero a b).1 h
  unfold fitsL oneStar at ha hb
  simp only [Bool.and_eq_true, decide_eq_true_eq] at ha hb
  obtain ⟨⟨ha1, _⟩, ha2, ha3, ha4⟩ := ha
  obtain ⟨⟨hb1, _⟩, hb2, hb3, hb4⟩ := hb
  unfold aheadL at h1
  rw [if_pos ha1, if_pos hb1] at h1
  have hf : fstar a = fstar b := by omega
  have sa := fstar_at a ha1
  have sb := fstar_at b hb1
  have key : ∀ (x : List UInt8) (n : Nat) (hn : n < x.length), byt x n = 42 → x = x.take n ++ 42 :: x.drop (n + 1) := by
    intro x n hn hx
    have e : x[n] = 42 := by
      unfold byt at hx
      rw [List.getD_eq_getElem?_getD, List.getElem?_eq_getElem hn] at hx
      apply UInt8.toNat_inj.1
      have hx : ((x[n]).toNat : Int) = 42 := hx
      show (x[n]).toNat = 42
      omega
    conv => lhs; rw [← List.take_append_drop n x, List.drop_eq_getElem_cons hn, e]
  rw [key a _ ha1 sa, key b _ hb1 sb, ← ha3, ← hb3, ← ha4, ← hb4, hf, h2]
end Go.Proofs.Ytiomkjpgoehchaa
