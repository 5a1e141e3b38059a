import Derived.Test.YtbeoeghcmabemaaGreatDoorDoorSubsCd
import Derived.Test.YtbeoeghcmabemaaGreatDoorDoorSubsLift
set_option linter.unusedVariables false
namespace Go.Proofs.YtbeoeghcmabemaaGreatDoor.doorSubs
open Go.ChangeShapes Go.WideShapes Go.ChangeAt Go.RowKit
theorem k11 : ((c.recurses == P.recurses f)) = true := by kernel_rfl
end Go.Proofs.YtbeoeghcmabemaaGreatDoor.doorSubs
