import Derived.OpenShut
import Derived.RowKit
import Derived.ChangeSame
set_option linter.unusedVariables false
set_option linter.unusedSectionVars false
namespace Go.RowKit
open Go.ChangeShapes Go.WideShapes
section
variable {H:Type} {enc:TypeId×Value→H} {P:Program} {w:World} {base:Nat} {spare:Nat→Bool} {held:Bool} {q:IntKind}
theorem Js {r:Reach}{b0:Nat}{t e:TypeId}{a:Option Addr}{n c:Nat}(ht:P.underlying t=some (.slice e))(h:Value.okWide P w r b0 t (.slice a n c)):∀x,a=some x→x.spot=none:=fun x hx=>by
 subst hx
 simp only [Value.okWide,ht,Cell.okWide,Cell.ok]at h
 exact h.2.2.2.1
end
end Go.RowKit
