import Derived.Test.YtnhbkfelfhhgjaaGreatDoorCjsUpsLift
set_option linter.unusedVariables false
namespace Go.Proofs.YtnhbkfelfhhgjaaGreatDoor.cjsUps
open Go.ChangeShapes Go.WideShapes Go.ChangeAt Go.RowKit
noncomputable abbrev P := Tryz.pinned.checked.prog
noncomputable abbrev fn := Tryz.f5
noncomputable abbrev f : FuncId := 5
noncomputable abbrev s := Rows.cjsUpsSpec
noncomputable abbrev c := Rows.cjsUpsRow
end Go.Proofs.YtnhbkfelfhhgjaaGreatDoor.cjsUps
