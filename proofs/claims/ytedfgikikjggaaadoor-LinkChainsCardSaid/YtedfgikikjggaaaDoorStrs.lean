/- Slices of strings; over any program. -/
import Derived.Test.YtedfgikikjggaaaDoorStr
import Derived.Test.YtedfgikikjggaaaDoorMb1
set_option linter.unusedVariables false
set_option linter.unusedSimpArgs false
namespace Go.Proofs.YtedfgikikjggaaaDoor
open Go.RowKit

def strV (l : List UInt8) : Value := .string ⟨l.toArray⟩
def strAt (ls : List (List UInt8)) (i : Nat) : Value := strV (ls.getD i [])
def IsStr (w : World) (v : Value) (ls : List (List UInt8)) : Prop := IsSl w v ls.length (strAt ls)
theorem strAt_eq (ls : List (List UInt8)) (i : Nat) : strAt ls i = .string ⟨(ls.getD i []).toArray⟩ := rfl
theorem strAt_range (ls : List (List UInt8)) : (List.range ls.length).map (strAt ls) = ls.map strV := by
  apply List.ext_getElem
  · simp
  · intro i h1 h2; simp at h1; simp [strAt, List.getD, h1]
theorem IsStr.drew {w : World} {v : Value} {ls : List (List UInt8)} (h : IsStr w v ls) (k : Nat) : IsStr (w.drewN k) v ls := h
theorem IsStr.below {w w' : World} {v : Value} {ls : List (List UInt8)} (h : IsStr w v ls) (hw : Below w.heap.size w w') : IsStr w' v ls := IsSl.below h hw
theorem Own.isStr {w : World} {B : Nat} {v : Value} {ls : List (List UInt8)} {e : TypeId} (h : Own w B e v (ls.map strV)) : IsStr w v ls := by
  have := h.isSl (f := strAt ls) (by intro i hi; simp at hi; simp [strAt, hi, List.getD])
  exact (by simpa using this : IsSl w v ls.length (strAt ls))
/-- v[:m]. -/
theorem IsStr.takeAt {w : World} {b off cap : Nat} {ls : List (List UInt8)} (h : Cells w b off ls.length (strAt ls)) (m : Nat) (hm : m ≤ ls.length) (hc : ls.length ≤ cap) (hx : cap ≤ maxLen) :
    IsStr w (.slice (some ⟨b, off, none⟩) m cap) (ls.take m) := by
  have hl : (ls.take m).length = m := by simp; omega
  refine ⟨_, _, by rw [hl], by omega, hx, (fun h => by cases h), fun _ => ⟨b, off, rfl, ?_⟩⟩
  intro i hi
  rw [hl] at hi
  rw [h i (by omega)]
  simp [strAt, List.getD, List.getElem?_take, hi]
theorem litS (W : World) (b : Nat) (ls : List (List UInt8)) (n : Nat) (e : TypeId) (m : Nat × Nat) (hb : W.heap[b]? = some (.cells (ls.map strV).toArray e m)) (hn : ls.length = n) (h4 : n ≤ 1000) :
    IsStr W (.slice (some ⟨b, 0, none⟩) n n) ls := by
  subst hn
  refine ⟨_, _, rfl, Nat.le_refl _, by unfold maxLen; omega, (fun h => by cases h), fun _ => ⟨b, 0, rfl, fun i hi => ?_⟩⟩
  rw [Nat.zero_add, cell_of_row W b i _ e m hb]
  simp [strAt, List.getD, hi]
theorem ret_b {a b : Bool} (h : a = b) : Ending.returned (.bool a) = .returned (.bool b) := by rw [h]
theorem ret_n {a b : Int} (h : a = b) : Ending.returned (.int .i64 a) = .returned (.int .i64 b) := by rw [h]
/-- All the bytes of texts, and one each: what Long counts. -/
def longB : Int → List (List UInt8) → Bool
  | _, [] => false
  | n, s :: t => if n ≤ s.length then true else longB (n - s.length - 1) t
def totL (ls : List (List UInt8)) : Nat := (ls.map fun s => s.length + 1).sum
theorem longB_tot : ∀ (ls : List (List UInt8)) (n : Int), longB n ls = false → ls ≠ [] → (totL ls : Int) ≤ n := by
  intro ls
  induction ls with
  | nil => intro n _ h; exact absurd rfl h
  | cons s t ih =>
    intro n h _
    unfold longB at h
    by_cases c : n ≤ s.length
    · rw [if_pos c] at h; cases h
    · rw [if_neg c] at h
      by_cases ht : t = []
      · subst ht; simp [totL]; omega
      · have := ih _ h ht
        simp [totL] at this ⊢; omega
end Go.Proofs.YtedfgikikjggaaaDoor
