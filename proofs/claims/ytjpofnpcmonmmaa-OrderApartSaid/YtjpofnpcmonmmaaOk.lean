/- The element types of this seat's slices. -/
import Derived.Test.YtjpofnpcmonmmaaOwn
set_option linter.unusedVariables false
set_option linter.unusedSimpArgs false
namespace Go.Proofs.Ytjpofnpcmonmmaa
open Go.RowKit

theorem ok8 : ElemOk Try.prog 37 5 (.int .u8 0) 1 := by
  obtain ⟨i, h1, h2, h3, h4⟩ := info_parts (P := Try.prog) (e := 5) (z := .int .u8 0) (size := 1) (bytes := 1) (by kernel_rfl)
  exact ⟨Try.underlying37, i, h1, h2, h3, h4, rfl⟩
theorem ok32 : ElemOk Try.prog 46 21 (.int .i32 0) 4 := by
  obtain ⟨i, h1, h2, h3, h4⟩ := info_parts (P := Try.prog) (e := 21) (z := .int .i32 0) (size := 1) (bytes := 4) (by kernel_rfl)
  exact ⟨Try.underlying46, i, h1, h2, h3, h4, rfl⟩
theorem ok16u : ElemOk Try.prog 25 41 (.int .u16 0) 2 := by
  obtain ⟨i, h1, h2, h3, h4⟩ := info_parts (P := Try.prog) (e := 41) (z := .int .u16 0) (size := 1) (bytes := 2) (by kernel_rfl)
  exact ⟨Try.underlying25, i, h1, h2, h3, h4, rfl⟩
theorem ok16 : ElemOk Try.prog 29 9 (.string .empty) 16 := by
  obtain ⟨i, h1, h2, h3, h4⟩ := info_parts (P := Try.prog) (e := 9) (z := .string .empty) (size := 1) (bytes := 16) (by kernel_rfl)
  exact ⟨Try.underlying29, i, h1, h2, h3, h4, rfl⟩
end Go.Proofs.Ytjpofnpcmonmmaa
