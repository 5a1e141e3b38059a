import Derived.Test.YtmfapopclbnlpaaGreatDoorHsLift
set_option linter.unusedVariables false
namespace Go.Proofs.YtmfapopclbnlpaaGreatDoor.urlHashes
open Go.ChangeShapes Go.WideShapes Go.ChangeAt Go.RowKit
theorem p3:false=Rows.urlHashesRow.goesBy Tryz.pinned.checked.prog:=by kernel_rfl
end Go.Proofs.YtmfapopclbnlpaaGreatDoor.urlHashes
