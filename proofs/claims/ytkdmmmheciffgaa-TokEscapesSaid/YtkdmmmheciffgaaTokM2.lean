/- More of the plain mathematics of JSON's tokens. No program. -/
import Derived.Test.YtkdmmmheciffgaaTokM
set_option linter.unusedVariables false
set_option linter.unusedSimpArgs false
namespace Go.Proofs.Ytkdmmmheciffgaa

theorem strF_bd (b : List UInt8) : ∀ (n i : Nat) (acc : List UInt8), i ≤ b.length → i ≤ (strF b n i acc).2.1 ∧ (strF b n i acc).2.1 ≤ b.length := by
  intro n
  induction n with
  | zero => intro i acc h; exact ⟨Nat.le_refl _, h⟩
  | succ n ih =>
    intro i acc h
    unfold strF
    split
    · exact ⟨Nat.le_refl _, h⟩
    rename_i c1
    split
    · show i ≤ i + 1 ∧ i + 1 ≤ _; omega
    split
    · have he := escM_bd b i (by omega)
      split
      · have := ih (escM b i).2.1 (acc ++ (escM b i).1) he.2; omega
      · show i ≤ (escM b i).2.1 ∧ (escM b i).2.1 ≤ _; omega
    split
    · exact ⟨Nat.le_refl _, h⟩
    split
    · have hn := nextL_n (b.drop i) (by simp; omega)
      have hl : (b.drop i).length = b.length - i := by simp
      have := ih (i + (nextL (b.drop i)).2.1) (acc ++ sub8 b i (i + (nextL (b.drop i)).2.1)) (by omega); omega
    · exact ⟨Nat.le_refl _, h⟩
theorem strM_bd (b : List UInt8) (i : Nat) (acc : List UInt8) (h : i ≤ b.length) : i ≤ (strM b i acc).2.1 ∧ (strM b i acc).2.1 ≤ b.length := strF_bd b _ i acc h
/-- A number that is one takes a byte. -/
theorem numM_pos {b : List UInt8} {i : Nat} (h : (numM b i).2 = true) : i < (numM b i).1 := by
  have hi : ∀ j, (intM b j).2 = true → j < (intM b j).1 := by
    intro j hj
    unfold intM at hj ⊢
    split at hj
    · rename_i h1
      rw [if_pos h1]
      have hl := byt_lt h1 (by decide)
      have := fracM_bd b (j + 1) (by omega); omega
    · rename_i h1
      rw [if_neg h1]
      split at hj
      · rename_i h2
        rw [if_pos h2]
        have hl := digC_lt h2
        have h3 := digE_bd b (j + 1) (by omega)
        rw [digE_on h2]
        have := fracM_bd b (digE b (j + 1)) h3.2; omega
      · cases hj
  unfold numM at h ⊢
  split
  · rename_i h1
    rw [if_pos h1] at h
    have := hi _ h; omega
  · rename_i h1
    rw [if_neg h1] at h
    exact hi _ h
end Go.Proofs.Ytkdmmmheciffgaa
