import Derived.Test.YtmfapopclbnlpaaGreatDoorDtLift
import Derived.Test.YtmfapopclbnlpaaGreatDoorDtCd
set_option linter.unusedVariables false
namespace Go.Proofs.YtmfapopclbnlpaaGreatDoor.urlDots
open Go.ChangeShapes Go.WideShapes Go.ChangeAt Go.RowKit
theorem k0:(c.wf (OpenSpec.ofChange s))=true:=by kernel_rfl
theorem k1:(laidOutB P)=true:=by kernel_rfl
theorem k2:(mapsRowed P)=true:=by kernel_rfl
theorem k3:(fn.params.all (P.readableRec ·))=true:=by kernel_rfl
theorem k4:(namedTie P c.named s.vars)=true:=by kernel_rfl
theorem k5:((c.stops==[]))=true:=by kernel_rfl
theorem k6:((P.stops==[]))=true:=by kernel_rfl
theorem k7:((c.knobs==[]))=true:=by kernel_rfl
theorem k8:((P.stopKnobs==[]))=true:=by kernel_rfl
theorem LS:((c.maps==(fn.params.toList++s.plain.varTypes P).any (P.mapsRec ·)))=true:=by kernel_rfl
theorem LU:((c.ifaces==(fn.params.toList++s.plain.varTypes P).any (P.ifacesRec ·)))=true:=by kernel_rfl
theorem LV:((c.mapsOut==P.mapsAmong fn.resultTypes.toList))=true:=by kernel_rfl
theorem LW:((c.loops==(fn.params.toList++s.plain.varTypes P).any (P.loopsFrom ·)))=true:=by kernel_rfl
theorem LX:((c.wideKeys==(fn.params.toList++s.plain.varTypes P++fn.resultTypes.toList).any (P.wideKeysFrom ·)))=true:=by kernel_rfl
theorem LY:(s.vars.all (P.varReadable ·))=true:=by kernel_rfl
theorem LZ:(fn.resultTypes.all (fun t=>P.readableRec t&&decide (t<P.types.size)))=true:=by kernel_rfl
theorem L0:((c.ifacesOut==fn.resultTypes.toList.any (P.ifacesRec ·)))=true:=by kernel_rfl
theorem L1:((c.loopsOut==fn.resultTypes.toList.any (P.loopsFrom ·)))=true:=by kernel_rfl
theorem L2:((c.plainKeys==P.plainKeys))=true:=by kernel_rfl
theorem L3:(c.shortTexts.isNone)=true:=by kernel_rfl
theorem L4:(P.stopsHeard)=true:=by kernel_rfl
theorem L5:(P.mayEnter)=true:=by kernel_rfl
theorem L6:((c.lifted==P.liftsFinal))=true:=by kernel_rfl
theorem L7:((P.make==some c.make))=true:=by kernel_rfl
theorem L8:((c.kinds==(if c.domain.isEmpty then []else fn.params.toList.map fun t=>match P.underlying t with |some (.int k)=>some k|_=>none)))=true:=by kernel_rfl
theorem L9:((c.pinned==c.pinnedBy))=true:=by kernel_rfl
theorem Ma:((c.veiled==(fn.params.toList++s.plain.varTypes P++fn.resultTypes.toList).any (P.veiledRec ·)))=true:=by kernel_rfl
theorem Mb:(c.veiledFits P fn.params.toList (fn.params.toList++s.plain.varTypes P++fn.resultTypes.toList))=true:=by kernel_rfl
end Go.Proofs.YtmfapopclbnlpaaGreatDoor.urlDots
