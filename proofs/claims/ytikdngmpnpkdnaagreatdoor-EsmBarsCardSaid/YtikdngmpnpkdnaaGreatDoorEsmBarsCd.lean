import Derived.Test.YtikdngmpnpkdnaaGreatDoorEsmBarsLift
set_option linter.unusedVariables false
namespace Go.Proofs.YtikdngmpnpkdnaaGreatDoor.esmBars
open Go.ChangeShapes Go.WideShapes Go.ChangeAt Go.RowKit
noncomputable abbrev P := Tryz.pinned.checked.prog
noncomputable abbrev fn := Tryz.f5
noncomputable abbrev f : FuncId := 5
noncomputable abbrev s := Rows.esmBarsSpec
noncomputable abbrev c := Rows.esmBarsRow
end Go.Proofs.YtikdngmpnpkdnaaGreatDoor.esmBars
