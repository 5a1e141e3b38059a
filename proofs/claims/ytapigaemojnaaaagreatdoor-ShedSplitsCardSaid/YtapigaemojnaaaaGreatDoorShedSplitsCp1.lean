import Derived.Test.YtapigaemojnaaaaGreatDoorShedSplitsLift
set_option linter.unusedVariables false
namespace Go.Proofs.YtapigaemojnaaaaGreatDoor.shedSplits
open Go.ChangeShapes Go.WideShapes Go.ChangeAt Go.RowKit
theorem p3 : false = Rows.shedSplitsRow.goesBy Tryz.pinned.checked.prog := by kernel_rfl
end Go.Proofs.YtapigaemojnaaaaGreatDoor.shedSplits
