import Derived.Test.YtnhbkfelfhhgjaaGreatDoorCjsMainsLift
set_option linter.unusedVariables false
namespace Go.Proofs.YtnhbkfelfhhgjaaGreatDoor.cjsMains
open Go.ChangeShapes Go.WideShapes Go.ChangeAt Go.RowKit
noncomputable abbrev P := Tryz.pinned.checked.prog
noncomputable abbrev fn := Tryz.f4
noncomputable abbrev f : FuncId := 4
noncomputable abbrev s := Rows.cjsMainsSpec
noncomputable abbrev c := Rows.cjsMainsRow
end Go.Proofs.YtnhbkfelfhhgjaaGreatDoor.cjsMains
