/- The walk of HostTells. -/
import Derived.Test.YtjljhkjpogjdhaaGreatDoorVtells10
set_option linter.unusedVariables false
namespace Go.Proofs.YtjljhkjpogjdhaaGreatDoor
open Go Go.Proofs Go.RowKit Go.Vc
theorem HostTells_walk (a0 : ByteArray) (w : World) (w0 : a0.size ≤ maxLen) (htab : TabH w) :
    Calls Tryz.prog 3 #[.string a0] w fun e w' => e = .returned (.bool true) ∧ Below w.heap.size w w' :=
  FuncOk.yes (fn := Tryz.f3) Tryz.func3 (by kernel_rfl) rfl (ok_tells10 a0.data.toList) htab (vs := [.string a0]) ⟨_, _, rfl, rfl, rfl⟩
end Go.Proofs.YtjljhkjpogjdhaaGreatDoor
