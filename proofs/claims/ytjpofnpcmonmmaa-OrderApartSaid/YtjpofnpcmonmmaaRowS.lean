/- A []string that came in. -/
import Derived.Test.YtjpofnpcmonmmaaStrs
import Derived.SliceStrings
set_option linter.unusedVariables false
set_option linter.unusedSimpArgs false
namespace Go.Proofs.Ytjpofnpcmonmmaa
open Go.RowKit

/-- What a law is told of a []string that came in: it reads as zs. -/
def IsRowS (w : World) (a : Option Addr) (len cap : Nat) (zs : List (List UInt8)) : Prop :=
  len = zs.length ∧ IsStr w (.slice a len cap) zs ∧ ∀ s ∈ zs, s.length ≤ maxLen
theorem isRowS_nil (w : World) : IsRowS w none 0 0 [] := ⟨rfl, ⟨none, 0, rfl, Nat.le_refl _, by unfold maxLen; omega, fun _ => rfl, fun h => by simp at h⟩, by simp⟩
theorem isRowS_some {w : World} {a : Addr} {len cap : Nat} {ss : List ByteArray} (hl : len ≤ cap) (hm : cap ≤ maxLen) (hz : ss.length = cap)
    (hcell : ∀ i, i < ss.length → w.cell? (a.add i) = some (.string (ss.getD i ByteArray.empty))) (hws : ∀ s ∈ ss, s.size ≤ maxLen) :
    IsRowS w (some a) len cap ((ss.take len).map fun s => s.data.toList) := by
  have hlen : ((ss.take len).map fun s => s.data.toList).length = len := by simp; omega
  refine ⟨hlen.symm, ⟨some a, cap, by rw [hlen], by rw [hlen]; exact hl, hm, (fun h => by cases h), fun hn => ?_⟩, ?_⟩
  · rw [hlen] at hn ⊢
    have h0 := addr_spot a w (hcell 0 (by omega))
    refine ⟨a.block, a.off, by rw [← h0], fun i hi => ?_⟩
    rw [addr_add_any a i w h0 (hcell i (by omega))]
    have hi2 : i < ss.length := by omega
    have e : ((ss.take len).map (fun s => s.data.toList)).getD i [] = (ss.getD i ByteArray.empty).data.toList := by
      rw [List.getD_eq_getElem?_getD, List.getElem?_map, List.getElem?_take, if_pos hi, List.getElem?_eq_getElem hi2, List.getD_eq_getElem?_getD, List.getElem?_eq_getElem hi2]
      rfl
    show _ = some (Value.string ⟨(((ss.take len).map (fun s => s.data.toList)).getD i []).toArray⟩)
    rw [e, Array.toArray_toList]
  · intro s hs
    obtain ⟨b, hb, rfl⟩ := List.mem_map.1 hs
    have := hws b (List.mem_of_mem_take hb)
    rw [Array.length_toList]
    exact this
end Go.Proofs.Ytjpofnpcmonmmaa
