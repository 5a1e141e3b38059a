import Derived.Test.YtmfapopclbnlpaaGreatDoorHxLift
set_option linter.unusedVariables false
namespace Go.Proofs.YtmfapopclbnlpaaGreatDoor.urlHosts
open Go.ChangeShapes Go.WideShapes Go.ChangeAt Go.RowKit
theorem p3:false=Rows.urlHostsRow.goesBy Tryz.pinned.checked.prog:=by kernel_rfl
end Go.Proofs.YtmfapopclbnlpaaGreatDoor.urlHosts
