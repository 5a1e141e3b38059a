import Derived.Test.YtikdngmpnpkdnaaGreatDoorEsmBarsLift
set_option linter.unusedVariables false
namespace Go.Proofs.YtikdngmpnpkdnaaGreatDoor.esmBars
open Go.ChangeShapes Go.WideShapes Go.ChangeAt Go.RowKit
theorem p1 : Tryz.pinned.checked.prog.mainIs = some (true, "02fa90e29d69a738b00592e89a85f9963999a3745127a8994240b0df3b611f15".toList) := by kernel_rfl
theorem p2 : false = Tryz.pinned.checked.prog.looks [] := by kernel_rfl
end Go.Proofs.YtikdngmpnpkdnaaGreatDoor.esmBars
