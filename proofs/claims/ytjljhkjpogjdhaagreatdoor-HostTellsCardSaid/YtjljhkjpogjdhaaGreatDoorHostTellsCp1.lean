import Derived.Test.YtjljhkjpogjdhaaGreatDoorHostTellsLift
set_option linter.unusedVariables false
namespace Go.Proofs.YtjljhkjpogjdhaaGreatDoor.hostTells
open Go.ChangeShapes Go.WideShapes Go.ChangeAt Go.RowKit
theorem p3 : false = Rows.hostTellsRow.goesBy Tryz.pinned.checked.prog := by kernel_rfl
end Go.Proofs.YtjljhkjpogjdhaaGreatDoor.hostTells
