/- A text that is a number is one token, and back. No program. -/
import Derived.Test.YtkdmmmheciffgaaTokX
set_option linter.unusedVariables false
set_option linter.unusedSimpArgs false
namespace Go.Proofs.Ytkdmmmheciffgaa

/-- Is a text, whole, a number? -/
def isNumM (s : List UInt8) : Bool := (numM s 0).2 && ((numM s 0).1 == s.length)
theorem numM_no {b : List UInt8} {i : Nat} (h : ¬ (byt b i = 45 ∨ digC (byt b i) = true)) : (numM b i).2 = false := by
  have h1 : byt b i ≠ 45 := fun e => h (.inl e)
  have h2 : digC (byt b i) = false := by rw [Bool.eq_false_iff]; exact fun e => h (.inr e)
  have h3 : byt b i ≠ 48 := fun e => by rw [e] at h2; exact absurd h2 (by decide)
  unfold numM
  rw [if_neg h1]
  unfold intM
  rw [if_neg h3, if_neg (by rw [h2]; simp)]
theorem allF_pre (b : List UInt8) : ∀ (n i : Nat) (acc : List Tk), ∃ l, (allF b n i acc).1 = acc ++ l := by
  intro n
  induction n with
  | zero => intro i acc; exact ⟨[], by simp [allF]⟩
  | succ n ih =>
    intro i acc
    unfold allF
    split
    · exact ⟨[], by simp⟩
    · split
      · obtain ⟨l, hl⟩ := ih (skipE b (tokM b i).2.1) (acc ++ [(tokM b i).1])
        exact ⟨(tokM b i).1 :: l, by rw [hl]; simp⟩
      · exact ⟨[], by simp⟩
theorem num_first {c : Int} (h : c = 45 ∨ digC c = true) : blkC c = false ∧ sigB c = false ∧ c ≠ 116 ∧ c ≠ 102 ∧ c ≠ 110 ∧ c ≠ 34 := by
  have h2 : c = 45 ∨ (48 ≤ c ∧ c ≤ 57) := by
    rcases h with h | h
    · exact .inl h
    · exact .inr (of_decide_eq_true h)
  refine ⟨decide_eq_false (by omega), decide_eq_false (by omega), by omega, by omega, by omega, by omega⟩
theorem tokM_num {b : List UInt8} {i : Nat} (h : byt b i = 45 ∨ digC (byt b i) = true) : tokM b i = ((8, i, sub8 b i (numM b i).1), (numM b i).1, (numM b i).2) := by
  obtain ⟨h1, h2, h3, h4, h5, h6⟩ := num_first h
  unfold tokM
  rw [if_neg (by rw [h2]; simp), if_neg h3, if_neg h4, if_neg h5, if_neg h6, if_pos h]
theorem tokM_kind {b : List UInt8} {i : Nat} (h : (tokM b i).1.1 = 8) : byt b i = 45 ∨ digC (byt b i) = true := by
  unfold tokM at h
  split at h
  · exfalso
    have : signN (byt b i) = 8 := h
    unfold signN at this
    (repeat' split at this) <;> omega
  split at h
  · exact absurd (show (9 : Int) = 8 from h) (by decide)
  split at h
  · exact absurd (show (10 : Int) = 8 from h) (by decide)
  split at h
  · exact absurd (show (11 : Int) = 8 from h) (by decide)
  split at h
  · exact absurd (show (7 : Int) = 8 from h) (by decide)
  split at h
  · assumption
  · exact absurd (show (0 : Int) = 8 from h) (by decide)
theorem tokM_at (b : List UInt8) (i : Nat) : (tokM b i).1.2.1 = i := by
  unfold tokM
  (repeat' split) <;> rfl
theorem isNum_toks {s : List UInt8} (h : isNumM s = true) : toksM s = ([(8, 0, s)], s.length, 0) := by
  unfold isNumM at h
  simp at h
  obtain ⟨h1, h2⟩ := h
  have hd : byt s 0 = 45 ∨ digC (byt s 0) = true := by
    rcases Decidable.em (byt s 0 = 45 ∨ digC (byt s 0) = true) with h3 | h3
    · exact h3
    · rw [numM_no h3] at h1; cases h1
  have hp := numM_pos h1
  have hl : 0 < s.length := by omega
  have hs : skipE s 0 = 0 := skipE_off (num_first hd).1
  have ht := tokM_num hd
  rw [h1, h2] at ht
  have hsub : sub8 s 0 s.length = s := by unfold sub8; simp
  rw [hsub] at ht
  have ha : allM s 0 [] = ([(8, 0, s)], s.length, true) := by
    rw [allM_step hl, ht, if_pos rfl, skipE_end (Nat.le_refl _), allM_end rfl]
    rfl
  unfold toksM
  rw [hs, ha, if_pos rfl]
theorem faultN_ne (b : List UInt8) (p : Nat) : faultN b p ≠ 0 := by
  unfold faultN
  split <;> decide
theorem toks_isNum {s : List UInt8} (h1 : (toksM s).2.2 = 0) (h2 : (toksM s).1 = [(8, 0, s)]) : isNumM s = true := by
  unfold toksM at h1 h2
  split at h1
  · rename_i hok
    rw [if_pos hok] at h2
    have h2 : (allM s (skipE s 0) []).1 = [(8, 0, s)] := h2
    have hsb := skipE_bd s 0 (by omega)
    obtain ⟨i, hi⟩ : ∃ i, skipE s 0 = i := ⟨_, rfl⟩
    rw [hi] at h2 hok hsb
    rcases Nat.lt_or_ge i s.length with hlt | hge
    · rw [allM_step hlt] at h2 hok
      by_cases c2 : (tokM s i).2.2 = true
      · rw [if_pos c2] at h2 hok
        obtain ⟨l, hl⟩ := allF_pre s (s.length + 1 - skipE s (tokM s i).2.1) (skipE s (tokM s i).2.1) ([] ++ [(tokM s i).1])
        have hl2 : (allM s (skipE s (tokM s i).2.1) ([] ++ [(tokM s i).1])).1 = [] ++ [(tokM s i).1] ++ l := hl
        rw [hl2] at h2
        simp at h2
        obtain ⟨ht, -⟩ := h2
        have hi0 : i = 0 := by have := tokM_at s i; rw [ht] at this; exact this.symm
        subst hi0
        have hk := tokM_kind (b := s) (i := 0) (by rw [ht])
        have hn := tokM_num hk
        rw [hn] at ht c2
        have c2 : (numM s 0).2 = true := c2
        have hnb := numM_bd s 0 (by omega)
        have hsub : sub8 s 0 (numM s 0).1 = s := by
          injection ht with _ h5
          injection h5
        have hlen := sub8_len (b := s) (f := 0) (t := (numM s 0).1) (by omega) hnb.2
        rw [hsub] at hlen
        unfold isNumM
        rw [c2]
        simp
        omega
      · rw [if_neg c2] at hok; cases hok
    · rw [allM_end (by omega)] at h2
      cases h2
  · exact absurd h1 (faultN_ne _ _)
end Go.Proofs.Ytkdmmmheciffgaa
