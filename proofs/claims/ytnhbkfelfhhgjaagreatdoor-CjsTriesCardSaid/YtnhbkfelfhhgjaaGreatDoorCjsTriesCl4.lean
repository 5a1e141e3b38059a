import Derived.Test.YtnhbkfelfhhgjaaGreatDoorCjsTriesCd
import Derived.Test.YtnhbkfelfhhgjaaGreatDoorCjsTriesLift
set_option linter.unusedVariables false
namespace Go.Proofs.YtnhbkfelfhhgjaaGreatDoor.cjsTries
open Go.ChangeShapes Go.WideShapes Go.ChangeAt Go.RowKit
theorem k12 : ((c.named == P.varsNamed f)) = true := by kernel_rfl
end Go.Proofs.YtnhbkfelfhhgjaaGreatDoor.cjsTries
