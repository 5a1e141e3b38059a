import Derived.Test.YtonakocdlldceaaGreatDoorShedScopesLift
set_option linter.unusedVariables false
namespace Go.Proofs.YtonakocdlldceaaGreatDoor.shedScopes
open Go.ChangeShapes Go.WideShapes Go.ChangeAt Go.RowKit
theorem p3 : false = Rows.shedScopesRow.goesBy Tryz.pinned.checked.prog := by kernel_rfl
end Go.Proofs.YtonakocdlldceaaGreatDoor.shedScopes
