/- TreeAsks, as its shell asks for it. -/
import Derived.Test.YtcdkojdjcifkpaaDoorLaw15a
set_option linter.unusedVariables false
namespace Go.Proofs.YtcdkojdjcifkpaaDoor
open Go.RowKit
theorem str_is (s : ByteArray) : s = ⟨s.data.toList.toArray⟩ := by
  apply ByteArray.ext; simp
theorem str_len {s : ByteArray} (h : s.size ≤ maxLen) : s.data.toList.length ≤ 9223372036854775807 := by unfold maxLen at h; rw [Array.length_toList]; exact h
theorem TreeAsks_walk (a0 : Int) (a1 : ByteArray) (w : World) (w0 : (Lit.int .i64 a0).wf = true) (w1 : a1.size ≤ maxLen) (htab : MaxAt w) :
    Calls Tryd.prog 6 #[.int .i64 a0, .string a1] w fun e w' => e = .returned (.bool true) ∧ Below w.heap.size w w' := by
  have h := wf64 w0
  have := asks_walk a0 a1.data.toList w h.1 h.2 (str_len w1) htab
  rwa [← str_is] at this
end Go.Proofs.YtcdkojdjcifkpaaDoor
