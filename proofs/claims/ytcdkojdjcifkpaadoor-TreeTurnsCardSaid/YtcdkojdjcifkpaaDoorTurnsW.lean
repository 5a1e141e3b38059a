/- TreeTurns, as its shell asks for it. -/
import Derived.Test.YtcdkojdjcifkpaaDoorLaw15b
import Derived.Test.YtcdkojdjcifkpaaDoorArgN
set_option linter.unusedVariables false
namespace Go.Proofs.YtcdkojdjcifkpaaDoor
open Go.RowKit
theorem TreeTurns_walk (a0 : Option Addr) (len0 cap0 : Nat) (z0 : List Nd) (a1 : Int) (a2 : Bool) (w : World) (w0 : len0 = z0.length ∧ IsNds w (.slice a0 len0 cap0) z0) (w1 : (Lit.int .i64 a1).wf = true) (htab : MaxAt w) :
    Calls Tryd.prog 7 #[.slice a0 len0 cap0, .int .i64 a1, .bool a2] w fun e w' => e = .returned (.bool true) ∧ Below w.heap.size w w' :=
  turns_walk _ z0 a1 a2 w w0.2 (wf64 w1).1 (wf64 w1).2 htab
end Go.Proofs.YtcdkojdjcifkpaaDoor
