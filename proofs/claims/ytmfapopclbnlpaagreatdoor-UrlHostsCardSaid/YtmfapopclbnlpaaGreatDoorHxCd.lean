import Derived.Test.YtmfapopclbnlpaaGreatDoorHxLift
set_option linter.unusedVariables false
namespace Go.Proofs.YtmfapopclbnlpaaGreatDoor.urlHosts
open Go.ChangeShapes Go.WideShapes Go.ChangeAt Go.RowKit
noncomputable abbrev P:=Tryz.pinned.checked.prog
noncomputable abbrev fn:=Tryz.f10
noncomputable abbrev f:FuncId:=10
noncomputable abbrev s:=Rows.urlHostsSpec
noncomputable abbrev c:=Rows.urlHostsRow
end Go.Proofs.YtmfapopclbnlpaaGreatDoor.urlHosts
