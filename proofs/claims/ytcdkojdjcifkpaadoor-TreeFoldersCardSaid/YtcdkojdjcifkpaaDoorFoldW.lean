/- TreeFolders, as its shell asks for it. -/
import Derived.Test.YtcdkojdjcifkpaaDoorLaw15c
import Derived.Test.YtcdkojdjcifkpaaDoorArgN
set_option linter.unusedVariables false
namespace Go.Proofs.YtcdkojdjcifkpaaDoor
open Go.RowKit
theorem TreeFolders_walk (a0 : Option Addr) (len0 cap0 : Nat) (z0 : List Nd) (w : World) (w0 : len0 = z0.length ∧ IsNds w (.slice a0 len0 cap0) z0) (htab : MaxAt w) :
    Calls Tryd.prog 5 #[.slice a0 len0 cap0] w fun e w' => e = .returned (.bool true) ∧ Below w.heap.size w w' :=
  folders_walk _ z0 w w0.2 htab
end Go.Proofs.YtcdkojdjcifkpaaDoor
