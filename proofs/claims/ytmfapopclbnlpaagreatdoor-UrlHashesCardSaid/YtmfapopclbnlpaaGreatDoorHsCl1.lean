import Derived.Test.YtmfapopclbnlpaaGreatDoorHsLift
import Derived.Test.YtmfapopclbnlpaaGreatDoorHsCd
set_option linter.unusedVariables false
namespace Go.Proofs.YtmfapopclbnlpaaGreatDoor.urlHashes
open Go.ChangeShapes Go.WideShapes Go.ChangeAt Go.RowKit
theorem k9:((c.inPlace==P.inPlace f))=true:=by kernel_rfl
end Go.Proofs.YtmfapopclbnlpaaGreatDoor.urlHashes
