import Derived.Test.YtkglgkpegledoaaGreatDoorEsmFormatsLift
set_option linter.unusedVariables false
namespace Go.Proofs.YtkglgkpegledoaaGreatDoor.esmFormats
open Go.ChangeShapes Go.WideShapes Go.ChangeAt Go.RowKit
theorem p3 : false = Rows.esmFormatsRow.goesBy Tryz.pinned.checked.prog := by kernel_rfl
end Go.Proofs.YtkglgkpegledoaaGreatDoor.esmFormats
