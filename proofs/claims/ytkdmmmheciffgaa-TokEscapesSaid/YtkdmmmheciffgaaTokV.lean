/- Contracts of jtok's all, fault. -/
import Derived.Test.YtkdmmmheciffgaaTokU
import Derived.Test.YtkdmmmheciffgaaTokM2
set_option linter.unusedVariables false
set_option linter.unusedSimpArgs false
namespace Go.Proofs.Ytkdmmmheciffgaa
open Go.RowKit

theorem tokM_bd {b : List UInt8} {i : Nat} (h : i < b.length) : (tokM b i).2.1 ≤ b.length ∧ ((tokM b i).2.2 = true → i < (tokM b i).2.1) := by
  unfold tokM
  have wd : ∀ l : List UInt8, (∀ c ∈ l, c ≠ 0) → ∀ x t, l = x :: t → byt b i = (x.toNat : Int) → (wordM b l i).1 ≤ b.length ∧ i < (wordM b l i).1 := by
    intro l hl x t e hx
    subst e
    have h2 := wordM_bd b t (i + 1) (fun c hc => hl c (List.mem_cons_of_mem _ hc)) (by omega)
    unfold wordM
    rw [if_pos hx]
    omega
  split
  · exact ⟨by show i + 1 ≤ _; omega, fun _ => by show i < i + 1; omega⟩
  split
  · rename_i h1
    have := wd [116, 114, 117, 101] (by decide) 116 _ rfl h1
    exact ⟨this.1, fun _ => this.2⟩
  split
  · rename_i h1
    have := wd [102, 97, 108, 115, 101] (by decide) 102 _ rfl h1
    exact ⟨this.1, fun _ => this.2⟩
  split
  · rename_i h1
    have := wd [110, 117, 108, 108] (by decide) 110 _ rfl h1
    exact ⟨this.1, fun _ => this.2⟩
  split
  · have := strM_bd b (i + 1) [] (by omega)
    show (strM b (i + 1) []).2.1 ≤ _ ∧ (_ → i < (strM b (i + 1) []).2.1)
    omega
  split
  · rename_i h1
    have h2 := numM_bd b i (by omega)
    refine ⟨h2.2, fun hok => ?_⟩
    exact numM_pos hok
  · exact ⟨by show i ≤ _; omega, fun h => by cases h⟩
/-- All tokens from a place on. -/
def allF (b : List UInt8) : Nat → Nat → List Tk → List Tk × Nat × Bool
  | 0, i, acc => (acc, i, false)
  | f + 1, i, acc => if b.length ≤ i then (acc, i, true) else if (tokM b i).2.2 = true then allF b f (skipE b (tokM b i).2.1) (acc ++ [(tokM b i).1]) else (acc, (tokM b i).2.1, false)
def allM (b : List UInt8) (i : Nat) (acc : List Tk) : List Tk × Nat × Bool := allF b (b.length + 1 - i) i acc
end Go.Proofs.Ytkdmmmheciffgaa
