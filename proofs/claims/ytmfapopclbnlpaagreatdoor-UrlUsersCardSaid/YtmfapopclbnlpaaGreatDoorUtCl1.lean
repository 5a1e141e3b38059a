import Derived.Test.YtmfapopclbnlpaaGreatDoorUtLift
import Derived.Test.YtmfapopclbnlpaaGreatDoorUtCd
set_option linter.unusedVariables false
namespace Go.Proofs.YtmfapopclbnlpaaGreatDoor.urlUsers
open Go.ChangeShapes Go.WideShapes Go.ChangeAt Go.RowKit
theorem k9:((c.inPlace==P.inPlace f))=true:=by kernel_rfl
end Go.Proofs.YtmfapopclbnlpaaGreatDoor.urlUsers
