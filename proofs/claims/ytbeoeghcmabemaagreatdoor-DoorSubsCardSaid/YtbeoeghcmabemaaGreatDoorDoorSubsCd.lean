import Derived.Test.YtbeoeghcmabemaaGreatDoorDoorSubsLift
set_option linter.unusedVariables false
namespace Go.Proofs.YtbeoeghcmabemaaGreatDoor.doorSubs
open Go.ChangeShapes Go.WideShapes Go.ChangeAt Go.RowKit
noncomputable abbrev P := Tryz.pinned.checked.prog
noncomputable abbrev fn := Tryz.f3
noncomputable abbrev f : FuncId := 3
noncomputable abbrev s := Rows.doorSubsSpec
noncomputable abbrev c := Rows.doorSubsRow
end Go.Proofs.YtbeoeghcmabemaaGreatDoor.doorSubs
