import Derived.Test.YtjljhkjpogjdhaaGreatDoorHostTellsLift
set_option linter.unusedVariables false
namespace Go.Proofs.YtjljhkjpogjdhaaGreatDoor.hostTells
open Go.ChangeShapes Go.WideShapes Go.ChangeAt Go.RowKit
theorem p1 : Tryz.pinned.checked.prog.mainIs = some (true, "0dcd6c3e61d554fa9bdbf555ef8fcb5dc44e58f09f629b756c4fa1b321f2a8e0".toList) := by kernel_rfl
theorem p2 : false = Tryz.pinned.checked.prog.looks [] := by kernel_rfl
end Go.Proofs.YtjljhkjpogjdhaaGreatDoor.hostTells
