import Derived.Test.YtonakocdlldceaaGreatDoorShedScopesLift
set_option linter.unusedVariables false
namespace Go.Proofs.YtonakocdlldceaaGreatDoor.shedScopes
open Go.ChangeShapes Go.WideShapes Go.ChangeAt Go.RowKit
noncomputable abbrev P := Tryz.pinned.checked.prog
noncomputable abbrev fn := Tryz.f4
noncomputable abbrev f : FuncId := 4
noncomputable abbrev s := Rows.shedScopesSpec
noncomputable abbrev c := Rows.shedScopesRow
end Go.Proofs.YtonakocdlldceaaGreatDoor.shedScopes
