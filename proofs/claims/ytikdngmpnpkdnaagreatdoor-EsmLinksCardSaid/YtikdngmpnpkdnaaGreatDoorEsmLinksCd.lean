import Derived.Test.YtikdngmpnpkdnaaGreatDoorEsmLinksLift
set_option linter.unusedVariables false
namespace Go.Proofs.YtikdngmpnpkdnaaGreatDoor.esmLinks
open Go.ChangeShapes Go.WideShapes Go.ChangeAt Go.RowKit
noncomputable abbrev P := Tryz.pinned.checked.prog
noncomputable abbrev fn := Tryz.f4
noncomputable abbrev f : FuncId := 4
noncomputable abbrev s := Rows.esmLinksSpec
noncomputable abbrev c := Rows.esmLinksRow
end Go.Proofs.YtikdngmpnpkdnaaGreatDoor.esmLinks
