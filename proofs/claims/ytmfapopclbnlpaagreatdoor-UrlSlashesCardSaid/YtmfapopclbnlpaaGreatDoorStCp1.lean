import Derived.Test.YtmfapopclbnlpaaGreatDoorStLift
set_option linter.unusedVariables false
namespace Go.Proofs.YtmfapopclbnlpaaGreatDoor.urlSlashes
open Go.ChangeShapes Go.WideShapes Go.ChangeAt Go.RowKit
theorem p3:false=Rows.urlSlashesRow.goesBy Tryz.pinned.checked.prog:=by kernel_rfl
end Go.Proofs.YtmfapopclbnlpaaGreatDoor.urlSlashes
