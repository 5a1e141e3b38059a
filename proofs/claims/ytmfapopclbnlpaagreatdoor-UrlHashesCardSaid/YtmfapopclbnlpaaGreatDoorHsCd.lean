import Derived.Test.YtmfapopclbnlpaaGreatDoorHsLift
set_option linter.unusedVariables false
namespace Go.Proofs.YtmfapopclbnlpaaGreatDoor.urlHashes
open Go.ChangeShapes Go.WideShapes Go.ChangeAt Go.RowKit
noncomputable abbrev P:=Tryz.pinned.checked.prog
noncomputable abbrev fn:=Tryz.f12
noncomputable abbrev f:FuncId:=12
noncomputable abbrev s:=Rows.urlHashesSpec
noncomputable abbrev c:=Rows.urlHashesRow
end Go.Proofs.YtmfapopclbnlpaaGreatDoor.urlHashes
