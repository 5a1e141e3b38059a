import Derived.Test.YtnhbkfelfhhgjaaGreatDoorCjsTriesLift
set_option linter.unusedVariables false
namespace Go.Proofs.YtnhbkfelfhhgjaaGreatDoor.cjsTries
open Go.ChangeShapes Go.WideShapes Go.ChangeAt Go.RowKit
theorem p3 : false = Rows.cjsTriesRow.goesBy Tryz.pinned.checked.prog := by kernel_rfl
end Go.Proofs.YtnhbkfelfhhgjaaGreatDoor.cjsTries
