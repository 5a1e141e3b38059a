/- LinkChains, as its shell asks for it. -/
import Derived.Test.YtedfgikikjggaaaDoorLaw16e
import Derived.Test.YtedfgikikjggaaaDoorArgN
set_option linter.unusedVariables false
namespace Go.Proofs.YtedfgikikjggaaaDoor
open Go.RowKit
/-- A []bool that came in: with its place. -/
def IsRowS2 (w : World) (a : Option Addr) (len cap : Nat) (zs : List Bool) : Prop := IsRowB w a len cap zs ∧ ∀ x, a = some x → x.spot = none
theorem LinkChains_walk (a0 : Int) (a1 : Option Addr) (len1 cap1 : Nat) (z1 : List Bool) (w : World) (w0 : (Lit.int .i64 a0).wf = true) (w1 : IsRowS2 w a1 len1 cap1 z1) (htab : MaxAt w) :
    Calls Tryd.prog 5 #[.int .i64 a0, .slice a1 len1 cap1] w fun e w' => e = .returned (.bool true) ∧ Below w.heap.size w w' :=
  chains_walk a0 a1 len1 cap1 z1 w (wf64 w0).1 (wf64 w0).2 w1.1 htab
end Go.Proofs.YtedfgikikjggaaaDoor
