import Derived.Test.YtjljhkjpogjdhaaGreatDoorHostTellsCd
import Derived.Test.YtjljhkjpogjdhaaGreatDoorHostTellsLift
set_option linter.unusedVariables false
namespace Go.Proofs.YtjljhkjpogjdhaaGreatDoor.hostTells
open Go.ChangeShapes Go.WideShapes Go.ChangeAt Go.RowKit
theorem k12 : ((c.named == P.varsNamed f)) = true := by kernel_rfl
end Go.Proofs.YtjljhkjpogjdhaaGreatDoor.hostTells
