/- The element types of this seat's slices. -/
import Derived.Test.YtcdkojdjcifkpaaDoorOwn
set_option linter.unusedVariables false
set_option linter.unusedSimpArgs false
namespace Go.Proofs.YtcdkojdjcifkpaaDoor
open Go.RowKit

theorem ok16 : ElemOk Tryd.prog 40 9 (.string .empty) 16 := by
  obtain ⟨i, h1, h2, h3, h4⟩ := info_parts (P := Tryd.prog) (e := 9) (z := .string .empty) (size := 1) (bytes := 16) (by kernel_rfl)
  exact ⟨Tryd.underlying40, i, h1, h2, h3, h4, rfl⟩
end Go.Proofs.YtcdkojdjcifkpaaDoor
