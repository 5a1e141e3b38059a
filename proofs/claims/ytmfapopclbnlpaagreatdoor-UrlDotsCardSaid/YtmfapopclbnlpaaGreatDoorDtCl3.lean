import Derived.Test.YtmfapopclbnlpaaGreatDoorDtLift
import Derived.Test.YtmfapopclbnlpaaGreatDoorDtCd
set_option linter.unusedVariables false
namespace Go.Proofs.YtmfapopclbnlpaaGreatDoor.urlDots
open Go.ChangeShapes Go.WideShapes Go.ChangeAt Go.RowKit
theorem Md:((c.recurses==P.recurses f))=true:=by kernel_rfl
end Go.Proofs.YtmfapopclbnlpaaGreatDoor.urlDots
