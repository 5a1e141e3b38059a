import Derived.Test.YtikdngmpnpkdnaaGreatDoorEsmLinksLift
set_option linter.unusedVariables false
namespace Go.Proofs.YtikdngmpnpkdnaaGreatDoor.esmLinks
open Go.ChangeShapes Go.WideShapes Go.ChangeAt Go.RowKit
theorem p3 : false = Rows.esmLinksRow.goesBy Tryz.pinned.checked.prog := by kernel_rfl
end Go.Proofs.YtikdngmpnpkdnaaGreatDoor.esmLinks
