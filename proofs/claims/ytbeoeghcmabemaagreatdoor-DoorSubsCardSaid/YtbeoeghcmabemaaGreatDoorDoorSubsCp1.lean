import Derived.Test.YtbeoeghcmabemaaGreatDoorDoorSubsLift
set_option linter.unusedVariables false
namespace Go.Proofs.YtbeoeghcmabemaaGreatDoor.doorSubs
open Go.ChangeShapes Go.WideShapes Go.ChangeAt Go.RowKit
theorem p3 : false = Rows.doorSubsRow.goesBy Tryz.pinned.checked.prog := by kernel_rfl
end Go.Proofs.YtbeoeghcmabemaaGreatDoor.doorSubs
