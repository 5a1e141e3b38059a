import Derived.Test.YtikdngmpnpkdnaaGreatDoorEsmBarsCd
import Derived.Test.YtikdngmpnpkdnaaGreatDoorEsmBarsLift
set_option linter.unusedVariables false
namespace Go.Proofs.YtikdngmpnpkdnaaGreatDoor.esmBars
open Go.ChangeShapes Go.WideShapes Go.ChangeAt Go.RowKit
theorem k11 : ((c.recurses == P.recurses f)) = true := by kernel_rfl
end Go.Proofs.YtikdngmpnpkdnaaGreatDoor.esmBars
