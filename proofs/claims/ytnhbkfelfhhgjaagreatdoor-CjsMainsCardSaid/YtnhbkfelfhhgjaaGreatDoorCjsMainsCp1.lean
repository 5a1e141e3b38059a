import Derived.Test.YtnhbkfelfhhgjaaGreatDoorCjsMainsLift
set_option linter.unusedVariables false
namespace Go.Proofs.YtnhbkfelfhhgjaaGreatDoor.cjsMains
open Go.ChangeShapes Go.WideShapes Go.ChangeAt Go.RowKit
theorem p3 : false = Rows.cjsMainsRow.goesBy Tryz.pinned.checked.prog := by kernel_rfl
end Go.Proofs.YtnhbkfelfhhgjaaGreatDoor.cjsMains
