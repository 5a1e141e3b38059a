import Derived.Test.YtnhbkfelfhhgjaaGreatDoorCjsMainsLift
set_option linter.unusedVariables false
namespace Go.Proofs.YtnhbkfelfhhgjaaGreatDoor.cjsMains
open Go.ChangeShapes Go.WideShapes Go.ChangeAt Go.RowKit
theorem p1 : Tryz.pinned.checked.prog.mainIs = some (true, "f0fc6ea792310cec045a6b067fc0b91ce9db8bcf8feaec7399e169588e95afe8".toList) := by kernel_rfl
theorem p2 : false = Tryz.pinned.checked.prog.looks [] := by kernel_rfl
end Go.Proofs.YtnhbkfelfhhgjaaGreatDoor.cjsMains
