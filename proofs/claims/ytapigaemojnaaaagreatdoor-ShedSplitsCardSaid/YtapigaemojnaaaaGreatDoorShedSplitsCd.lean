import Derived.Test.YtapigaemojnaaaaGreatDoorShedSplitsLift
set_option linter.unusedVariables false
namespace Go.Proofs.YtapigaemojnaaaaGreatDoor.shedSplits
open Go.ChangeShapes Go.WideShapes Go.ChangeAt Go.RowKit
noncomputable abbrev P := Tryz.pinned.checked.prog
noncomputable abbrev fn := Tryz.f3
noncomputable abbrev f : FuncId := 3
noncomputable abbrev s := Rows.shedSplitsSpec
noncomputable abbrev c := Rows.shedSplitsRow
end Go.Proofs.YtapigaemojnaaaaGreatDoor.shedSplits
