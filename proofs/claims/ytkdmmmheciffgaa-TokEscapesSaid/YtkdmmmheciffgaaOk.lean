/- The element types of this seat's slices. -/
import Derived.Test.YtkdmmmheciffgaaOwn
set_option linter.unusedVariables false
set_option linter.unusedSimpArgs false
namespace Go.Proofs.Ytkdmmmheciffgaa
open Go.RowKit

theorem ok8 : ElemOk Try.prog 22 5 (.int .u8 0) 1 := by
  obtain ⟨i, h1, h2, h3, h4⟩ := info_parts (P := Try.prog) (e := 5) (z := .int .u8 0) (size := 1) (bytes := 1) (by kernel_rfl)
  exact ⟨Try.underlying22, i, h1, h2, h3, h4, rfl⟩
theorem ok32 : ElemOk Try.prog 87 21 (.int .i32 0) 4 := by
  obtain ⟨i, h1, h2, h3, h4⟩ := info_parts (P := Try.prog) (e := 21) (z := .int .i32 0) (size := 1) (bytes := 4) (by kernel_rfl)
  exact ⟨Try.underlying87, i, h1, h2, h3, h4, rfl⟩
theorem ok16 : ElemOk Try.prog 25 9 (.string .empty) 16 := by
  obtain ⟨i, h1, h2, h3, h4⟩ := info_parts (P := Try.prog) (e := 9) (z := .string .empty) (size := 1) (bytes := 16) (by kernel_rfl)
  exact ⟨Try.underlying25, i, h1, h2, h3, h4, rfl⟩
end Go.Proofs.Ytkdmmmheciffgaa
