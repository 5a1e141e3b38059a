import Derived.Test.YtmfapopclbnlpaaGreatDoorHxLift
import Derived.Test.YtmfapopclbnlpaaGreatDoorHxCd
set_option linter.unusedVariables false
namespace Go.Proofs.YtmfapopclbnlpaaGreatDoor.urlHosts
open Go.ChangeShapes Go.WideShapes Go.ChangeAt Go.RowKit
theorem k0:(c.wf (OpenSpec.ofChange s))=true:=by kernel_rfl
theorem k1:(laidOutB P)=true:=by kernel_rfl
theorem k2:(mapsRowed P)=true:=by kernel_rfl
theorem k3:(fn.params.all (P.readableRec ·))=true:=by kernel_rfl
theorem k4:(namedTie P c.named s.vars)=true:=by kernel_rfl
theorem k5:(c.stops==[])=true:=by kernel_rfl
theorem k6:(P.stops==[])=true:=by kernel_rfl
theorem k7:(c.knobs==[])=true:=by kernel_rfl
theorem k8:(P.stopKnobs==[])=true:=by kernel_rfl
theorem QX:(c.maps==(fn.params.toList++s.plain.varTypes P).any (P.mapsRec ·))=true:=by kernel_rfl
theorem QY:(c.ifaces==(fn.params.toList++s.plain.varTypes P).any (P.ifacesRec ·))=true:=by kernel_rfl
theorem QZ:(c.mapsOut==P.mapsAmong fn.resultTypes.toList)=true:=by kernel_rfl
theorem Q0:(c.loops==(fn.params.toList++s.plain.varTypes P).any (P.loopsFrom ·))=true:=by kernel_rfl
theorem Q1:(c.wideKeys==(fn.params.toList++s.plain.varTypes P++fn.resultTypes.toList).any (P.wideKeysFrom ·))=true:=by kernel_rfl
theorem Q2:(s.vars.all (P.varReadable ·))=true:=by kernel_rfl
theorem Q3:(fn.resultTypes.all (fun t=>P.readableRec t&&decide (t<P.types.size)))=true:=by kernel_rfl
theorem Q4:(c.ifacesOut==fn.resultTypes.toList.any (P.ifacesRec ·))=true:=by kernel_rfl
theorem Q5:(c.loopsOut==fn.resultTypes.toList.any (P.loopsFrom ·))=true:=by kernel_rfl
theorem Q6:(c.plainKeys==P.plainKeys)=true:=by kernel_rfl
theorem Q7:(c.shortTexts.isNone)=true:=by kernel_rfl
theorem Q8:(P.stopsHeard)=true:=by kernel_rfl
theorem Q9:(P.mayEnter)=true:=by kernel_rfl
theorem Ra:(c.lifted==P.liftsFinal)=true:=by kernel_rfl
theorem Rb:(P.make==some c.make)=true:=by kernel_rfl
theorem Rc:(c.kinds==(if c.domain.isEmpty then []else fn.params.toList.map fun t=>match P.underlying t with |some (.int k)=>some k|_=>none))=true:=by kernel_rfl
theorem Rd:(c.pinned==c.pinnedBy)=true:=by kernel_rfl
theorem Re:(c.veiled==(fn.params.toList++s.plain.varTypes P++fn.resultTypes.toList).any (P.veiledRec ·))=true:=by kernel_rfl
theorem Rf:(c.veiledFits P fn.params.toList (fn.params.toList++s.plain.varTypes P++fn.resultTypes.toList))=true:=by kernel_rfl
end Go.Proofs.YtmfapopclbnlpaaGreatDoor.urlHosts
