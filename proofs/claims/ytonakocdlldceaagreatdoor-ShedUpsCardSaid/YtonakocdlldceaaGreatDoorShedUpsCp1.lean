import Derived.Test.YtonakocdlldceaaGreatDoorShedUpsLift
set_option linter.unusedVariables false
namespace Go.Proofs.YtonakocdlldceaaGreatDoor.shedUps
open Go.ChangeShapes Go.WideShapes Go.ChangeAt Go.RowKit
theorem p3 : false = Rows.shedUpsRow.goesBy Tryz.pinned.checked.prog := by kernel_rfl
end Go.Proofs.YtonakocdlldceaaGreatDoor.shedUps
