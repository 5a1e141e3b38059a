import Derived.Test.YtnhbkfelfhhgjaaGreatDoorCjsUpsLift
set_option linter.unusedVariables false
namespace Go.Proofs.YtnhbkfelfhhgjaaGreatDoor.cjsUps
open Go.ChangeShapes Go.WideShapes Go.ChangeAt Go.RowKit
theorem p3 : false = Rows.cjsUpsRow.goesBy Tryz.pinned.checked.prog := by kernel_rfl
end Go.Proofs.YtnhbkfelfhhgjaaGreatDoor.cjsUps
