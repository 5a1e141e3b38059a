/- TreeTurned, as its shell asks for it. -/
import Derived.Test.YtcdkojdjcifkpaaDoorLaw15d
import Derived.Test.YtcdkojdjcifkpaaDoorArgN
set_option linter.unusedVariables false
namespace Go.Proofs.YtcdkojdjcifkpaaDoor
open Go.RowKit
theorem str_is (s : ByteArray) : s = ⟨s.data.toList.toArray⟩ := by
  apply ByteArray.ext; simp
theorem str_len {s : ByteArray} (h : s.size ≤ maxLen) : s.data.toList.length ≤ 9223372036854775807 := by unfold maxLen at h; rw [Array.length_toList]; exact h
theorem TreeTurned_walk (a0 : Option Addr) (len0 cap0 : Nat) (z0 : List Nd) (a1 a2 : Int) (a3 : ByteArray) (w : World) (w0 : len0 = z0.length ∧ IsNds w (.slice a0 len0 cap0) z0) (w1 : (Lit.int .i64 a1).wf = true) (w2 : (Lit.int .i64 a2).wf = true) (w3 : a3.size ≤ maxLen) (htab : MaxAt w) :
    Calls Tryd.prog 4 #[.slice a0 len0 cap0, .int .i64 a1, .int .i64 a2, .string a3] w fun e w' => e = .returned (.bool true) ∧ Below w.heap.size w w' := by
  have := turned_walk _ z0 a1 a2 a3.data.toList w w0.2 (wf64 w1).1 (wf64 w1).2 (wf64 w2).1 (wf64 w2).2 (str_len w3) htab
  rwa [← str_is] at this
end Go.Proofs.YtcdkojdjcifkpaaDoor
