import Derived.Test.YtkglgkpegledoaaGreatDoorEsmFormatsLift
set_option linter.unusedVariables false
namespace Go.Proofs.YtkglgkpegledoaaGreatDoor.esmFormats
open Go.ChangeShapes Go.WideShapes Go.ChangeAt Go.RowKit
noncomputable abbrev P := Tryz.pinned.checked.prog
noncomputable abbrev fn := Tryz.f3
noncomputable abbrev f : FuncId := 3
noncomputable abbrev s := Rows.esmFormatsSpec
noncomputable abbrev c := Rows.esmFormatsRow
end Go.Proofs.YtkglgkpegledoaaGreatDoor.esmFormats
