/- The law's walk. -/
import Derived.Test.YtapigaemojnaaaaGreatDoorShedSplitsV
set_option linter.unusedVariables false
set_option linter.unusedSimpArgs false
set_option maxRecDepth 100000
set_option maxHeartbeats 4000000
namespace Go.Proofs.YtapigaemojnaaaaGreatDoor
open Go Go.Proofs Go.RowKit
attribute [local instance] Go.Vc.noW
theorem ShedSplits_walk (a0 : ByteArray) (w : World) (w0 : a0.size ≤ maxLen) (htab : Tab w) :
    Calls Tryz.prog 3 #[.string a0] w fun e w' => e = .returned (.bool true) ∧ Below w.heap.size w w' :=
  Go.Vc.FuncOk.yes (fn := Tryz.f3) Tryz.func3 (by kernel_rfl) rfl (ok_law a0.data.toList) trivial (vs := [.string a0]) ⟨_, _, rfl, rfl, rfl⟩
end Go.Proofs.YtapigaemojnaaaaGreatDoor
