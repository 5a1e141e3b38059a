/- The element types of this seat's slices. -/
import Derived.Test.YtklgahppjdgkmaaDoorOwn
set_option linter.unusedVariables false
set_option linter.unusedSimpArgs false
namespace Go.Proofs.YtklgahppjdgkmaaDoor
open Go.RowKit

theorem ok8 : ElemOk Tryd.prog 50 5 (.int .u8 0) 1 := by
  obtain ⟨i, h1, h2, h3, h4⟩ := info_parts (P := Tryd.prog) (e := 5) (z := .int .u8 0) (size := 1) (bytes := 1) (by kernel_rfl)
  exact ⟨Tryd.underlying50, i, h1, h2, h3, h4, rfl⟩
theorem ok16u : ElemOk Tryd.prog 56 23 (.int .u16 0) 2 := by
  obtain ⟨i, h1, h2, h3, h4⟩ := info_parts (P := Tryd.prog) (e := 23) (z := .int .u16 0) (size := 1) (bytes := 2) (by kernel_rfl)
  exact ⟨Tryd.underlying56, i, h1, h2, h3, h4, rfl⟩
theorem ok16 : ElemOk Tryd.prog 37 9 (.string .empty) 16 := by
  obtain ⟨i, h1, h2, h3, h4⟩ := info_parts (P := Tryd.prog) (e := 9) (z := .string .empty) (size := 1) (bytes := 16) (by kernel_rfl)
  exact ⟨Tryd.underlying37, i, h1, h2, h3, h4, rfl⟩
end Go.Proofs.YtklgahppjdgkmaaDoor
