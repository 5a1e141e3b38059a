import Derived.Test.YtbeoeghcmabemaaGreatDoorDoorSubsLift
set_option linter.unusedVariables false
namespace Go.Proofs.YtbeoeghcmabemaaGreatDoor.doorSubs
open Go.ChangeShapes Go.WideShapes Go.ChangeAt Go.RowKit
theorem p1 : Tryz.pinned.checked.prog.mainIs = some (true, "af225610fd4621086784a11333f80804ee2d1fccef38e557c2d8d1467d800b9c".toList) := by kernel_rfl
theorem p2 : false = Tryz.pinned.checked.prog.looks [] := by kernel_rfl
end Go.Proofs.YtbeoeghcmabemaaGreatDoor.doorSubs
