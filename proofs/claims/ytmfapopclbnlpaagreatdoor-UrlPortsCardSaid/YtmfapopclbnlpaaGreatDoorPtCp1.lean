import Derived.Test.YtmfapopclbnlpaaGreatDoorPtLift
set_option linter.unusedVariables false
namespace Go.Proofs.YtmfapopclbnlpaaGreatDoor.urlPorts
open Go.ChangeShapes Go.WideShapes Go.ChangeAt Go.RowKit
theorem p3:false=Rows.urlPortsRow.goesBy Tryz.pinned.checked.prog:=by kernel_rfl
end Go.Proofs.YtmfapopclbnlpaaGreatDoor.urlPorts
