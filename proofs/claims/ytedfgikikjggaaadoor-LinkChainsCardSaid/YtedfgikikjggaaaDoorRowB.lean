/- A []bool that came in. -/
import Derived.Test.YtedfgikikjggaaaDoorBase
import Derived.Deep.Grids
set_option linter.unusedVariables false
set_option linter.unusedSimpArgs false
namespace Go.Proofs.YtedfgikikjggaaaDoor
open Go.RowKit

def boolAt (zs : List Bool) (i : Nat) : Value := .bool (zs.getD i false)
/-- What a law is told of a []bool that came in: it reads as zs. -/
def IsRowB (w : World) (a : Option Addr) (len cap : Nat) (zs : List Bool) : Prop :=
  len = zs.length ∧ IsSl w (.slice a len cap) zs.length (boolAt zs)
theorem isRowB_nil (w : World) : IsRowB w none 0 0 [] := ⟨rfl, ⟨none, 0, rfl, Nat.le_refl _, by unfold maxLen; omega, fun _ => rfl, fun h => by simp at h⟩⟩
theorem isRowB_some {w : World} {a : Addr} {len cap : Nat} {B : Nat → Bool} (hl : len ≤ cap) (hm : cap ≤ maxLen)
    (hcell : ∀ i, i < cap → w.cell? (a.add i) = some (.bool (B i))) : IsRowB w (some a) len cap ((List.range len).map B) := by
  have hlen : ((List.range len).map B).length = len := by simp
  refine ⟨hlen.symm, ⟨some a, cap, by rw [hlen], by rw [hlen]; exact hl, hm, (fun h => by cases h), fun hn => ?_⟩⟩
  rw [hlen] at hn ⊢
  have h0 := addr_spot a w (hcell 0 (by omega))
  refine ⟨a.block, a.off, by rw [← h0], fun i hi => ?_⟩
  rw [addr_add_any a i w h0 (hcell i (by omega))]
  unfold boolAt
  simp [List.getD, hi]
end Go.Proofs.YtedfgikikjggaaaDoor
