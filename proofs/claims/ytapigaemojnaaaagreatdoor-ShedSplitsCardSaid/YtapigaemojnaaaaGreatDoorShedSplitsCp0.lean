import Derived.Test.YtapigaemojnaaaaGreatDoorShedSplitsLift
set_option linter.unusedVariables false
namespace Go.Proofs.YtapigaemojnaaaaGreatDoor.shedSplits
open Go.ChangeShapes Go.WideShapes Go.ChangeAt Go.RowKit
theorem p1 : Tryz.pinned.checked.prog.mainIs = some (true, "af67459b227dc9db5d11f1053c7ad8eb84bf83b07b80828fca285eb31eb37c51".toList) := by kernel_rfl
theorem p2 : false = Tryz.pinned.checked.prog.looks [] := by kernel_rfl
end Go.Proofs.YtapigaemojnaaaaGreatDoor.shedSplits
