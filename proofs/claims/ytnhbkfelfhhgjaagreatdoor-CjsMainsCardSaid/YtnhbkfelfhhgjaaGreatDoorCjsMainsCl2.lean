import Derived.Test.YtnhbkfelfhhgjaaGreatDoorCjsMainsCd
import Derived.Test.YtnhbkfelfhhgjaaGreatDoorCjsMainsLift
set_option linter.unusedVariables false
namespace Go.Proofs.YtnhbkfelfhhgjaaGreatDoor.cjsMains
open Go.ChangeShapes Go.WideShapes Go.ChangeAt Go.RowKit
theorem k10 : ((c.unfollowed == P.unfollowed f)) = true := by kernel_rfl
end Go.Proofs.YtnhbkfelfhhgjaaGreatDoor.cjsMains
