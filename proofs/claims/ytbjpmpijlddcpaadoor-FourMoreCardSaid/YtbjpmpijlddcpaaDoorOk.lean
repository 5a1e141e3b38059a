/- The element types of this seat's slices. -/
import Derived.Test.YtbjpmpijlddcpaaDoorOwn
set_option linter.unusedVariables false
set_option linter.unusedSimpArgs false
namespace Go.Proofs.YtbjpmpijlddcpaaDoor
open Go.RowKit

theorem ok8 : ElemOk Tryd.prog 51 5 (.int .u8 0) 1 := by
  obtain ⟨i, h1, h2, h3, h4⟩ := info_parts (P := Tryd.prog) (e := 5) (z := .int .u8 0) (size := 1) (bytes := 1) (by kernel_rfl)
  exact ⟨Tryd.underlying51, i, h1, h2, h3, h4, rfl⟩
theorem ok16 : ElemOk Tryd.prog 43 9 (.string .empty) 16 := by
  obtain ⟨i, h1, h2, h3, h4⟩ := info_parts (P := Tryd.prog) (e := 9) (z := .string .empty) (size := 1) (bytes := 16) (by kernel_rfl)
  exact ⟨Tryd.underlying43, i, h1, h2, h3, h4, rfl⟩
end Go.Proofs.YtbjpmpijlddcpaaDoor
