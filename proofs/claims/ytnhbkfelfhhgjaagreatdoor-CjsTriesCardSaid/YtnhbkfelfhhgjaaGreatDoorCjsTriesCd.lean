import Derived.Test.YtnhbkfelfhhgjaaGreatDoorCjsTriesLift
set_option linter.unusedVariables false
namespace Go.Proofs.YtnhbkfelfhhgjaaGreatDoor.cjsTries
open Go.ChangeShapes Go.WideShapes Go.ChangeAt Go.RowKit
noncomputable abbrev P := Tryz.pinned.checked.prog
noncomputable abbrev fn := Tryz.f3
noncomputable abbrev f : FuncId := 3
noncomputable abbrev s := Rows.cjsTriesSpec
noncomputable abbrev c := Rows.cjsTriesRow
end Go.Proofs.YtnhbkfelfhhgjaaGreatDoor.cjsTries
