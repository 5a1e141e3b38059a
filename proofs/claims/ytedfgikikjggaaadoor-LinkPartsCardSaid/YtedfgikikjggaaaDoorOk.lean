/- The element types of this seat's slices. -/
import Derived.Test.YtedfgikikjggaaaDoorOwn
set_option linter.unusedVariables false
set_option linter.unusedSimpArgs false
namespace Go.Proofs.YtedfgikikjggaaaDoor
open Go.RowKit

theorem ok8 : ElemOk Tryd.prog 79 5 (.int .u8 0) 1 := by
  obtain ⟨i, h1, h2, h3, h4⟩ := info_parts (P := Tryd.prog) (e := 5) (z := .int .u8 0) (size := 1) (bytes := 1) (by kernel_rfl)
  exact ⟨Tryd.underlying79, i, h1, h2, h3, h4, rfl⟩
theorem ok16 : ElemOk Tryd.prog 67 9 (.string .empty) 16 := by
  obtain ⟨i, h1, h2, h3, h4⟩ := info_parts (P := Tryd.prog) (e := 9) (z := .string .empty) (size := 1) (bytes := 16) (by kernel_rfl)
  exact ⟨Tryd.underlying67, i, h1, h2, h3, h4, rfl⟩
end Go.Proofs.YtedfgikikjggaaaDoor
