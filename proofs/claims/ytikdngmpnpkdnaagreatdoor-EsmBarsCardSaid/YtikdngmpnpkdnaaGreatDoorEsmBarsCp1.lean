import Derived.Test.YtikdngmpnpkdnaaGreatDoorEsmBarsLift
set_option linter.unusedVariables false
namespace Go.Proofs.YtikdngmpnpkdnaaGreatDoor.esmBars
open Go.ChangeShapes Go.WideShapes Go.ChangeAt Go.RowKit
theorem p3 : false = Rows.esmBarsRow.goesBy Tryz.pinned.checked.prog := by kernel_rfl
end Go.Proofs.YtikdngmpnpkdnaaGreatDoor.esmBars
