/- The law's walk. -/
import Derived.Test.YtklgahppjdgkmaaDoorVtells
set_option linter.unusedVariables false
namespace Go.Proofs.YtklgahppjdgkmaaDoor
open Go Go.Proofs Go.RowKit Go.Vc
theorem SixTells_walk (a0 : ByteArray) (w : World) (w0 : a0.size ≤ Go.maxLen) (htab : Tab9 w) :
    Calls Tryd.prog 3 #[.string a0] w fun e w' => e = .returned (.bool true) ∧ Below w.heap.size w w' :=
  FuncOk.yes (fn := Tryd.f3) Tryd.func3 (by kernel_rfl) rfl (ok_tells a0.data.toList) (vs := [.string a0]) htab ⟨_, _, rfl, rfl, rfl⟩
end Go.Proofs.YtklgahppjdgkmaaDoor
