import Derived.Test.YtonakocdlldceaaGreatDoorShedScopesCd
import Derived.Test.YtonakocdlldceaaGreatDoorShedScopesLift
set_option linter.unusedVariables false
namespace Go.Proofs.YtonakocdlldceaaGreatDoor.shedScopes
open Go.ChangeShapes Go.WideShapes Go.ChangeAt Go.RowKit
theorem k10 : ((c.unfollowed == P.unfollowed f)) = true := by kernel_rfl
end Go.Proofs.YtonakocdlldceaaGreatDoor.shedScopes
