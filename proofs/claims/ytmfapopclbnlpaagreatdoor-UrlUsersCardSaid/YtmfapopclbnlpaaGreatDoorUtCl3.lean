import Derived.Test.YtmfapopclbnlpaaGreatDoorUtLift
import Derived.Test.YtmfapopclbnlpaaGreatDoorUtCd
set_option linter.unusedVariables false
namespace Go.Proofs.YtmfapopclbnlpaaGreatDoor.urlUsers
open Go.ChangeShapes Go.WideShapes Go.ChangeAt Go.RowKit
theorem LM:((c.recurses==P.recurses f))=true:=by kernel_rfl
end Go.Proofs.YtmfapopclbnlpaaGreatDoor.urlUsers
