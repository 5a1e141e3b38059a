import Derived.Test.YtmfapopclbnlpaaGreatDoorHxLift
import Derived.Test.YtmfapopclbnlpaaGreatDoorHxCd
set_option linter.unusedVariables false
namespace Go.Proofs.YtmfapopclbnlpaaGreatDoor.urlHosts
open Go.ChangeShapes Go.WideShapes Go.ChangeAt Go.RowKit
theorem k9:(c.inPlace==P.inPlace f)=true:=by kernel_rfl
end Go.Proofs.YtmfapopclbnlpaaGreatDoor.urlHosts
