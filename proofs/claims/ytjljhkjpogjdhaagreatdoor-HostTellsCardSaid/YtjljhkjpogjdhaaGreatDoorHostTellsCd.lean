import Derived.Test.YtjljhkjpogjdhaaGreatDoorHostTellsLift
set_option linter.unusedVariables false
namespace Go.Proofs.YtjljhkjpogjdhaaGreatDoor.hostTells
open Go.ChangeShapes Go.WideShapes Go.ChangeAt Go.RowKit
noncomputable abbrev P := Tryz.pinned.checked.prog
noncomputable abbrev fn := Tryz.f3
noncomputable abbrev f : FuncId := 3
noncomputable abbrev s := Rows.hostTellsSpec
noncomputable abbrev c := Rows.hostTellsRow
end Go.Proofs.YtjljhkjpogjdhaaGreatDoor.hostTells
