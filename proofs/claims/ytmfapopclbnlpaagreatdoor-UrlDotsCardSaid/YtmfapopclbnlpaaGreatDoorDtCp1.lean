import Derived.Test.YtmfapopclbnlpaaGreatDoorDtLift
set_option linter.unusedVariables false
namespace Go.Proofs.YtmfapopclbnlpaaGreatDoor.urlDots
open Go.ChangeShapes Go.WideShapes Go.ChangeAt Go.RowKit
theorem p3:false=Rows.urlDotsRow.goesBy Tryz.pinned.checked.prog:=by kernel_rfl
end Go.Proofs.YtmfapopclbnlpaaGreatDoor.urlDots
