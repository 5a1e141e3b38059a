import Derived.Test.YtonakocdlldceaaGreatDoorShedUpsLift
set_option linter.unusedVariables false
namespace Go.Proofs.YtonakocdlldceaaGreatDoor.shedUps
open Go.ChangeShapes Go.WideShapes Go.ChangeAt Go.RowKit
theorem p1 : Tryz.pinned.checked.prog.mainIs = some (true, "36f0bbc25aecbbb6f7572d2c1ab07def99d6f799443ded139e690377191644fd".toList) := by kernel_rfl
theorem p2 : false = Tryz.pinned.checked.prog.looks [] := by kernel_rfl
end Go.Proofs.YtonakocdlldceaaGreatDoor.shedUps
