import Derived.Test.YtmfapopclbnlpaaGreatDoorDtLift
set_option linter.unusedVariables false
namespace Go.Proofs.YtmfapopclbnlpaaGreatDoor.urlDots
open Go.ChangeShapes Go.WideShapes Go.ChangeAt Go.RowKit
noncomputable abbrev P:=Tryz.pinned.checked.prog
noncomputable abbrev fn:=Tryz.f6
noncomputable abbrev f:FuncId:=6
noncomputable abbrev s:=Rows.urlDotsSpec
noncomputable abbrev c:=Rows.urlDotsRow
end Go.Proofs.YtmfapopclbnlpaaGreatDoor.urlDots
