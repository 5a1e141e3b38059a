import Derived.Test.YtmfapopclbnlpaaGreatDoorStLift
import Derived.Test.YtmfapopclbnlpaaGreatDoorStCd
set_option linter.unusedVariables false
namespace Go.Proofs.YtmfapopclbnlpaaGreatDoor.urlSlashes
open Go.ChangeShapes Go.WideShapes Go.ChangeAt Go.RowKit
theorem ME:((c.named==P.varsNamed f))=true:=by kernel_rfl
end Go.Proofs.YtmfapopclbnlpaaGreatDoor.urlSlashes
