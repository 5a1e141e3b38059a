/- What the proof needs, part 1. -/
import Derived.Test.YtedfgikikjggaaaDoorOwn
/- The element types of this seat's slices. -/
section
set_option linter.unusedVariables false
set_option linter.unusedSimpArgs false
namespace Go.Proofs.YtedfgikikjggaaaDoor
open Go.RowKit

theorem ok8 : ElemOk Tryd.prog 79 5 (.int .u8 0) 1 := by
  obtain ⟨i, h1, h2, h3, h4⟩ := info_parts (P := Tryd.prog) (e := 5) (z := .int .u8 0) (size := 1) (bytes := 1) (by kernel_rfl)
  exact ⟨Tryd.underlying79, i, h1, h2, h3, h4, rfl⟩
theorem ok16 : ElemOk Tryd.prog 67 9 (.string .empty) 16 := by
  obtain ⟨i, h1, h2, h3, h4⟩ := info_parts (P := Tryd.prog) (e := 9) (z := .string .empty) (size := 1) (bytes := 16) (by kernel_rfl)
  exact ⟨Tryd.underlying67, i, h1, h2, h3, h4, rfl⟩
end Go.Proofs.YtedfgikikjggaaaDoor
end
/- Literals of bytes and code points in new blocks; over any program. -/
section
set_option linter.unusedVariables false
set_option linter.unusedSimpArgs false
namespace Go.Proofs.YtedfgikikjggaaaDoor
open Go.RowKit

theorem heap_alloc_at (w : World) (o : Obj) (n : Nat) : (w.alloc o).heap[n]? = if n = w.heap.size then some o else w.heap[n]? := by
  show (w.heap.push o)[n]? = _
  rw [Array.getElem?_push]
theorem lit8 (W : World) (b : Nat) (l : List UInt8) (n : Nat) (e : TypeId) (m : Nat × Nat) (hb : W.heap[b]? = some (.cells (l.map u8V).toArray e m)) (hn : l.length = n) (h4 : n ≤ 1000) :
    Is8 W (.slice (some ⟨b, 0, none⟩) n n) l := by
  subst hn
  refine ⟨_, _, rfl, Nat.le_refl _, by unfold maxLen; omega, (fun h => by cases h), fun _ => ⟨b, 0, rfl, fun i hi => ?_⟩⟩
  rw [Nat.zero_add, cell_of_row W b i _ e m hb]
  simp [u8At, byt, u8V, List.getD, hi]
theorem lit32 (W : World) (b : Nat) (l : List Int) (n : Nat) (e : TypeId) (hb : W.heap[b]? = some (.cells (l.map (Value.int .i32)).toArray e (0, 0))) (hn : l.length = n) (h4 : n ≤ 1000) :
    Is32 W (.slice (some ⟨b, 0, none⟩) n n) l := by
  subst hn
  refine ⟨_, _, rfl, Nat.le_refl _, by unfold maxLen; omega, (fun h => by cases h), fun _ => ⟨b, 0, rfl, fun i hi => ?_⟩⟩
  rw [Nat.zero_add, cell_of_row W b i _ e (0, 0) hb]
  simp [i32At, List.getD, hi]

end Go.Proofs.YtedfgikikjggaaaDoor
end
