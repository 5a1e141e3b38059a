import Derived.Test.YtapigaemojnaaaaGreatDoorShedSplitsCd
import Derived.Test.YtapigaemojnaaaaGreatDoorShedSplitsLift
set_option linter.unusedVariables false
namespace Go.Proofs.YtapigaemojnaaaaGreatDoor.shedSplits
open Go.ChangeShapes Go.WideShapes Go.ChangeAt Go.RowKit
theorem k11 : ((c.recurses == P.recurses f)) = true := by kernel_rfl
end Go.Proofs.YtapigaemojnaaaaGreatDoor.shedSplits
