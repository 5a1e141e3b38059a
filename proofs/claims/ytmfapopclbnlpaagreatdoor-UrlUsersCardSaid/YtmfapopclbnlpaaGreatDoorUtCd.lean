import Derived.Test.YtmfapopclbnlpaaGreatDoorUtLift
set_option linter.unusedVariables false
namespace Go.Proofs.YtmfapopclbnlpaaGreatDoor.urlUsers
open Go.ChangeShapes Go.WideShapes Go.ChangeAt Go.RowKit
noncomputable abbrev P:=Tryz.pinned.checked.prog
noncomputable abbrev fn:=Tryz.f8
noncomputable abbrev f:FuncId:=8
noncomputable abbrev s:=Rows.urlUsersSpec
noncomputable abbrev c:=Rows.urlUsersRow
end Go.Proofs.YtmfapopclbnlpaaGreatDoor.urlUsers
