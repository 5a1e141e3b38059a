/- The element types of this seat's slices. -/
import Derived.Test.YtiomkjpgoehchaaOwn
set_option linter.unusedVariables false
set_option linter.unusedSimpArgs false
namespace Go.Proofs.Ytiomkjpgoehchaa
open Go.RowKit

theorem ok16 : ElemOk Try.prog 33 9 (.string .empty) 16 := by
  obtain ⟨i, h1, h2, h3, h4⟩ := info_parts (P := Try.prog) (e := 9) (z := .string .empty) (size := 1) (bytes := 16) (by kernel_rfl)
  exact ⟨Try.underlying33, i, h1, h2, h3, h4, rfl⟩
end Go.Proofs.Ytiomkjpgoehchaa
