import Derived.Test.YtonakocdlldceaaGreatDoorShedUpsLift
set_option linter.unusedVariables false
namespace Go.Proofs.YtonakocdlldceaaGreatDoor.shedUps
open Go.ChangeShapes Go.WideShapes Go.ChangeAt Go.RowKit
noncomputable abbrev P := Tryz.pinned.checked.prog
noncomputable abbrev fn := Tryz.f3
noncomputable abbrev f : FuncId := 3
noncomputable abbrev s := Rows.shedUpsSpec
noncomputable abbrev c := Rows.shedUpsRow
end Go.Proofs.YtonakocdlldceaaGreatDoor.shedUps
