import Derived.Test.YtmfapopclbnlpaaGreatDoorStLift
import Derived.Test.YtmfapopclbnlpaaGreatDoorStCd
set_option linter.unusedVariables false
namespace Go.Proofs.YtmfapopclbnlpaaGreatDoor.urlSlashes
open Go.ChangeShapes Go.WideShapes Go.ChangeAt Go.RowKit
theorem MC:((c.unfollowed==P.unfollowed f))=true:=by kernel_rfl
end Go.Proofs.YtmfapopclbnlpaaGreatDoor.urlSlashes
