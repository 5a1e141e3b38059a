import Derived.Test.YtmfapopclbnlpaaGreatDoorPtLift
set_option linter.unusedVariables false
namespace Go.Proofs.YtmfapopclbnlpaaGreatDoor.urlPorts
open Go.ChangeShapes Go.WideShapes Go.ChangeAt Go.RowKit
noncomputable abbrev P:=Tryz.pinned.checked.prog
noncomputable abbrev fn:=Tryz.f7
noncomputable abbrev f:FuncId:=7
noncomputable abbrev s:=Rows.urlPortsSpec
noncomputable abbrev c:=Rows.urlPortsRow
end Go.Proofs.YtmfapopclbnlpaaGreatDoor.urlPorts
