import Derived.Test.YtkglgkpegledoaaGreatDoorEsmFormatsLift
set_option linter.unusedVariables false
namespace Go.Proofs.YtkglgkpegledoaaGreatDoor.esmFormats
open Go.ChangeShapes Go.WideShapes Go.ChangeAt Go.RowKit
theorem p1 : Tryz.pinned.checked.prog.mainIs = some (true, "d7fcace526827f4b0159d30618d33a9ff336e7b093f52d1e02bd8b16857a3dc1".toList) := by kernel_rfl
theorem p2 : false = Tryz.pinned.checked.prog.looks [] := by kernel_rfl
end Go.Proofs.YtkglgkpegledoaaGreatDoor.esmFormats
