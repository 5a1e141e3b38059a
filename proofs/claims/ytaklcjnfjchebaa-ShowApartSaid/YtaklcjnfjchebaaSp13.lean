import Derived.Test.YtaklcjnfjchebaaSp6
import Derived.Test.YtaklcjnfjchebaaSp11
set_option linter.unusedVariables false
set_option linter.unusedSimpArgs false
namespace Go.Proofs.Ytaklcjnfjchebaa
open Go Go.Proofs Go.Proofs.Jv
def numZ (c : Int) : Prop := (48 ≤ c ∧ c ≤ 57) ∨ c = 43 ∨ c = 45 ∨ c = 46 ∨ c = 101 ∨ c = 69
theorem digF_all (b : List UInt8) : ∀ n i j, i ≤ j → j < digF b n i → numZ (byt b j) := by
  intro n
  induction n with
  | zero => intro i j h1 h2; exact absurd h2 (by show ¬ j < i; omega)
  | succ n ih =>
    intro i j h1 h2
    have h2 : j < if digC (byt b i) = true then digF b n (i + 1) else i := h2
    split at h2
    · rename_i h
      by_cases e : i = j
      · subst e; exact .inl (of_decide_eq_true h)
      · exact ih (i + 1) j (by omega) h2
    · omega
theorem digE_all {b : List UInt8} {i j : Nat} (h1 : i ≤ j) (h2 : j < digE b i) : numZ (byt b j) := digF_all b _ i j h1 h2
theorem expM_all {b : List UInt8} {i j : Nat} (h : (expM b i).2 = true) (h1 : i ≤ j) (h2 : j < (expM b i).1) : numZ (byt b j) := by
  unfold expM at h h2
  split at h
  · rename_i hc
    rw [if_pos hc] at h2
    by_cases hs : byt b (i + 1) = 43 ∨ byt b (i + 1) = 45
    · simp only [if_pos hs] at h h2
      split at h
      · rename_i hd
        rw [if_pos hd] at h2
        by_cases e : i = j
        · subst e; rcases hc with hc | hc
          · exact .inr (.inr (.inr (.inr (.inl hc))))
          · exact .inr (.inr (.inr (.inr (.inr hc))))
        by_cases e : i + 1 = j
        · subst e; rcases hs with hs | hs
          · exact .inr (.inl hs)
          · exact .inr (.inr (.inl hs))
        exact digE_all (by omega) h2
      · cases h
    · simp only [if_neg hs] at h h2
      split at h
      · rename_i hd
        rw [if_pos hd] at h2
        by_cases e : i = j
        · subst e; rcases hc with hc | hc
          · exact .inr (.inr (.inr (.inr (.inl hc))))
          · exact .inr (.inr (.inr (.inr (.inr hc))))
        exact digE_all (by omega) h2
      · cases h
  · rename_i hc
    rw [if_neg hc] at h2
    exact absurd h2 (by show ¬ j < i; omega)
theorem fracM_all {b : List UInt8} {i j : Nat} (h : (fracM b i).2 = true) (h1 : i ≤ j) (h2 : j < (fracM b i).1) : numZ (byt b j) := by
  unfold fracM at h h2
  split at h
  · rename_i hc
    rw [if_pos hc] at h2
    split at h
    · rename_i hd
      rw [if_pos hd] at h2
      by_cases e : i = j
      · subst e; exact .inr (.inr (.inr (.inl hc)))
      by_cases e : j < digE b (i + 1)
      · exact digE_all (by omega) e
      · exact expM_all h (by omega) h2
    · cases h
  · rename_i hc
    rw [if_neg hc] at h2
    exact expM_all h h1 h2
theorem intM_all {b : List UInt8} {i j : Nat} (h : (intM b i).2 = true) (h1 : i ≤ j) (h2 : j < (intM b i).1) : numZ (byt b j) := by
  unfold intM at h h2
  split at h
  · rename_i hc
    rw [if_pos hc] at h2
    by_cases e : i = j
    · subst e; exact .inl ⟨by omega, by omega⟩
    exact fracM_all h (by omega) h2
  · rename_i hc
    rw [if_neg hc] at h2
    split at h
    · rename_i hd
      rw [if_pos hd] at h2
      by_cases e : j < digE b i
      · exact digE_all h1 e
      · exact fracM_all h (by omega) h2
    · cases h
theorem numM_all {b : List UInt8} {i j : Nat} (h : (numM b i).2 = true) (h1 : i ≤ j) (h2 : j < (numM b i).1) : numZ (byt b j) := by
  unfold numM at h h2
  split at h
  · rename_i hc
    rw [if_pos hc] at h2
    by_cases e : i = j
    · subst e; exact .inr (.inr (.inl hc))
    exact intM_all h (by omega) h2
  · rename_i hc
    rw [if_neg hc] at h2
    exact intM_all h h1 h2
theorem numOk_num {s : List UInt8} (h : isNumM s = true) : numOk s := by
  unfold isNumM at h
  rw [Bool.and_eq_true, beq_iff_eq] at h
  refine ⟨?_, fun c hc => ?_⟩
  · rintro rfl
    have := h.1
    revert this; decide
  · obtain ⟨j, hj, rfl⟩ := List.getElem_of_mem hc
    have := numM_all h.1 (Nat.zero_le j) (by omega)
    have e : byt s j = (s[j].toNat : Int) := by unfold byt; rw [List.getD_eq_getElem?_getD, List.getElem?_eq_getElem hj]; rfl
    rw [e] at this
    unfold numZ at this
    unfold numC
    rw [Bool.or_eq_true, decide_eq_true_eq, decide_eq_true_eq]
    omega
end Go.Proofs.Ytaklcjnfjchebaa
