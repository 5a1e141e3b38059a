/- A struct behind a pointer: a block that is known whole. Over any program. -/
import Derived.Test.YtedfgikikjggaaaDoorOwn
set_option linter.unusedVariables false
set_option linter.unusedSimpArgs false
namespace Go.Proofs.YtedfgikikjggaaaDoor
open Go.RowKit

/-- Block g holds just these cells. -/
def Box (w : World) (g : Nat) (t : TypeId) (cs : List Value) : Prop := w.heap[g]? = some (.cells cs.toArray t (0, 0))
section
variable {w w' : World} {g : Nat} {t : TypeId} {cs : List Value}
theorem Box.lt (h : Box w g t cs) : g < w.heap.size := (Array.getElem?_eq_some_iff.1 h).1
theorem Box.cell (h : Box w g t cs) (i : Nat) : w.cell? ⟨g, i, none⟩ = cs[i]? := by
  rw [cell_of_row w g i cs.toArray t (0, 0) h]; simp
theorem Box.drew (h : Box w g t cs) (n : Nat) : Box (w.drewN n) g t cs := h
theorem Box.grown {row : Option Nat} (h : Box w g t cs) (hg : w.grownBy w' row) (hr : row ≠ some g) : Box w' g t cs := by
  unfold Box; rw [hg.block g h.lt (fun e => hr e.symm)]; exact h
theorem Box.below {B : Nat} (h : Box w g t cs) (hb : Below B w w') (hB : g < B) : Box w' g t cs := by
  unfold Box; rw [hb.block g hB]; exact h
theorem Box.new (w : World) (t : TypeId) (cs : List Value) : Box (w.alloc (.cells cs.toArray t)) w.heap.size t cs := heap_alloc_new w _
theorem Box.alloc (h : Box w g t cs) (o : Obj) : Box (w.alloc o) g t cs := h.grown (World.grownBy_alloc w o none) (by simp)
theorem Box.frozen (h : Box w g t cs) (i : Nat) : w.frozen? ⟨g, i, none⟩ = false := by
  have h2 : w.heap[g]? = some (.cells cs.toArray t (0, 0)) := h
  simp [World.frozen?, h2]
theorem Box.set (h : Box w g t cs) (i : Nat) (hi : i < cs.length) (v : Value) : Box (w.setCell ⟨g, i, none⟩ v) g t (cs.set i v) := by
  have h2 : w.heap[g]? = some (.cells cs.toArray t (0, 0)) := h
  unfold Box
  rw [heap_setCell_same w g i cs.toArray t v h2]
  simp
end
theorem grownBy_set (w : World) (g i : Nat) (v : Value) : w.grownBy (w.setCell ⟨g, i, none⟩ v) (some g) := by
  have h := Below.setCell (B := 0) (Below.refl 0 w) (p := ⟨g, i, none⟩) (Nat.zero_le _) v
  exact ⟨h.os, h.tape, h.output, h.size, fun k hk hr => Below.heap_setCell w ⟨g, i, none⟩ v k (fun e => hr (by rw [show k = g from e]))⟩
end Go.Proofs.YtedfgikikjggaaaDoor
