import Derived.Test.YtmfapopclbnlpaaGreatDoorDtLift
import Derived.Test.YtmfapopclbnlpaaGreatDoorDtCd
set_option linter.unusedVariables false
namespace Go.Proofs.YtmfapopclbnlpaaGreatDoor.urlDots
open Go.ChangeShapes Go.WideShapes Go.ChangeAt Go.RowKit
theorem Me:((c.named==P.varsNamed f))=true:=by kernel_rfl
end Go.Proofs.YtmfapopclbnlpaaGreatDoor.urlDots
