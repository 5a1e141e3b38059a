/- LinkTells, as its shell asks for it. -/
import Derived.Test.YtedfgikikjggaaaDoorLaw16c
import Derived.Test.YtedfgikikjggaaaDoorArgN
set_option linter.unusedVariables false
namespace Go.Proofs.YtedfgikikjggaaaDoor
open Go.RowKit
theorem strE_is (s : ByteArray) : s = ⟨s.data.toList.toArray⟩ := by
  apply ByteArray.ext; simp
theorem strE_len {s : ByteArray} (h : s.size ≤ maxLen) : s.data.toList.length ≤ 9223372036854775807 := by unfold maxLen at h; rw [Array.length_toList]; exact h
theorem LinkTells_walk (a0 : Option Addr) (len0 cap0 : Nat) (z0 : List Nd) (a1 : ByteArray) (w : World) (w0 : len0 = z0.length ∧ IsNds w (.slice a0 len0 cap0) z0) (w1 : a1.size ≤ maxLen) (htab : MaxAt w) :
    Calls Tryd.prog 3 #[.slice a0 len0 cap0, .string a1] w fun e w' => e = .returned (.bool true) ∧ Below w.heap.size w w' := by
  have := tells_walk _ z0 a1.data.toList w w0.2 (strE_len w1) htab
  rwa [← strE_is] at this
end Go.Proofs.YtedfgikikjggaaaDoor
