import Derived.Test.YtikdngmpnpkdnaaGreatDoorEsmLinksCd
import Derived.Test.YtikdngmpnpkdnaaGreatDoorEsmLinksLift
set_option linter.unusedVariables false
namespace Go.Proofs.YtikdngmpnpkdnaaGreatDoor.esmLinks
open Go.ChangeShapes Go.WideShapes Go.ChangeAt Go.RowKit
theorem k9 : ((c.inPlace == P.inPlace f)) = true := by kernel_rfl
end Go.Proofs.YtikdngmpnpkdnaaGreatDoor.esmLinks
