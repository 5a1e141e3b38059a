import Derived.Test.YtmfapopclbnlpaaGreatDoorStLift
set_option linter.unusedVariables false
namespace Go.Proofs.YtmfapopclbnlpaaGreatDoor.urlSlashes
open Go.ChangeShapes Go.WideShapes Go.ChangeAt Go.RowKit
noncomputable abbrev P:=Tryz.pinned.checked.prog
noncomputable abbrev fn:=Tryz.f11
noncomputable abbrev f:FuncId:=11
noncomputable abbrev s:=Rows.urlSlashesSpec
noncomputable abbrev c:=Rows.urlSlashesRow
end Go.Proofs.YtmfapopclbnlpaaGreatDoor.urlSlashes
