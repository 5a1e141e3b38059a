import Derived.Test.YtaklcjnfjchebaaSt914
import Derived.Test.YtaklcjnfjchebaaSt915
set_option linter.unusedVariables false
namespace Go.Proofs.Ytaklcjnfjchebaa
open Go Go.Proofs Go.RowKit Go.Vc Go.Proofs.Jv
theorem ShowTells_walk (c0 : Array Value) (y0 : JV) (w : World) (w0 : (∃ n, okJ n y0) ∧ Rep y0.pv (bareG (allF w)) w (.agg c0)) (_ : True) :
    Calls Try.prog 3 #[.agg c0] w fun e w' => e = .returned (.bool true) ∧ Below w.heap.size w w' := by
  obtain ⟨k, b, s, nk, ks, nl, ls⟩ := y0
  obtain ⟨o0, r0⟩ := w0
  unfold JV.pv at r0
  refine (FuncOk.walk (fn := Try.f3) Try.func3 (by kernel_rfl) rfl (ok_showtells k b s nk ks nl (JV.pvs ls)) ⟨isJs_of _, by rw [jdecs_pvs]; exact o0⟩ (fits_all w) (noT_ok _) trivial (vs := [.agg c0]) ⟨_, _, rfl, r0, rfl⟩).mono fun e w' ⟨u, he, F', _, hb, _, _, _, _, hu⟩ => ⟨by rw [he]; exact congrArg _ hu, hb⟩
end Go.Proofs.Ytaklcjnfjchebaa
