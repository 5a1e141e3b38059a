import Derived.Test.YtmfapopclbnlpaaGreatDoorHxLift
set_option linter.unusedVariables false
namespace Go.Proofs.YtmfapopclbnlpaaGreatDoor.urlHosts
open Go.ChangeShapes Go.WideShapes Go.ChangeAt Go.RowKit
theorem p1:Tryz.pinned.checked.prog.mainIs=some (true, "ac028c42f48d78bd2afabe420b7733aa8e908b599fc4e97ab2e0f6710d2be292".toList):=by kernel_rfl
theorem p2:false=Tryz.pinned.checked.prog.looks []:=by kernel_rfl
end Go.Proofs.YtmfapopclbnlpaaGreatDoor.urlHosts
