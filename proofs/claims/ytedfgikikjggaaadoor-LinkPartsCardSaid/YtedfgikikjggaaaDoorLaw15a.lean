/- The walk of TreeAsks. -/
import Derived.Test.YtedfgikikjggaaaDoorTreeW
import Derived.Test.YtedfgikikjggaaaDoorLow
import Derived.Test.YtedfgikikjggaaaDoorQuiet
set_option linter.unusedVariables false
set_option linter.unusedSimpArgs false
namespace Go.Proofs.YtedfgikikjggaaaDoor
open Go.RowKit

theorem goodNil : Good [] := And.intro (fun n hn => (by cases hn)) (And.intro List.nodup_nil (fun n hn => (by cases hn)))
theorem wholeNil : Whole [] [rootN] := by
  refine ⟨?_, fun n => ?_⟩
  · unfold Rising; exact List.pairwise_singleton _ _
  · simp
theorem isNds_nil (w : World) : IsNds w (.slice none 0 0) [] := ⟨none, 0, rfl, Nat.le_refl _, by unfold maxLen; omega, fun _ => rfl, fun h => by simp at h⟩
end Go.Proofs.YtedfgikikjggaaaDoor
