import Derived.Test.YtonakocdlldceaaGreatDoorShedUpsCd
import Derived.Test.YtonakocdlldceaaGreatDoorShedUpsLift
set_option linter.unusedVariables false
namespace Go.Proofs.YtonakocdlldceaaGreatDoor.shedUps
open Go.ChangeShapes Go.WideShapes Go.ChangeAt Go.RowKit
theorem k10 : ((c.unfollowed == P.unfollowed f)) = true := by kernel_rfl
end Go.Proofs.YtonakocdlldceaaGreatDoor.shedUps
