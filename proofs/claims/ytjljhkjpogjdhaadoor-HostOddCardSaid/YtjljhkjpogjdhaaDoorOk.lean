/- The element types of this seat's slices. -/
import Derived.Test.YtjljhkjpogjdhaaDoorOwn
set_option linter.unusedVariables false
set_option linter.unusedSimpArgs false
namespace Go.Proofs.YtjljhkjpogjdhaaDoor
open Go.RowKit

theorem ok8 : ElemOk Tryd.prog 39 5 (.int .u8 0) 1 := by
  obtain ⟨i, h1, h2, h3, h4⟩ := info_parts (P := Tryd.prog) (e := 5) (z := .int .u8 0) (size := 1) (bytes := 1) (by kernel_rfl)
  exact ⟨Tryd.underlying39, i, h1, h2, h3, h4, rfl⟩
theorem ok32 : ElemOk Tryd.prog 89 21 (.int .i32 0) 4 := by
  obtain ⟨i, h1, h2, h3, h4⟩ := info_parts (P := Tryd.prog) (e := 21) (z := .int .i32 0) (size := 1) (bytes := 4) (by kernel_rfl)
  exact ⟨Tryd.underlying89, i, h1, h2, h3, h4, rfl⟩
theorem ok16u : ElemOk Tryd.prog 91 24 (.int .u16 0) 2 := by
  obtain ⟨i, h1, h2, h3, h4⟩ := info_parts (P := Tryd.prog) (e := 24) (z := .int .u16 0) (size := 1) (bytes := 2) (by kernel_rfl)
  exact ⟨Tryd.underlying91, i, h1, h2, h3, h4, rfl⟩
theorem ok16 : ElemOk Tryd.prog 36 9 (.string .empty) 16 := by
  obtain ⟨i, h1, h2, h3, h4⟩ := info_parts (P := Tryd.prog) (e := 9) (z := .string .empty) (size := 1) (bytes := 16) (by kernel_rfl)
  exact ⟨Tryd.underlying36, i, h1, h2, h3, h4, rfl⟩
end Go.Proofs.YtjljhkjpogjdhaaDoor
