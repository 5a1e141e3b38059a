import Derived.Test.YtaklcjnfjchebaaSp14
import Derived.Test.YtaklcjnfjchebaaSp15
set_option linter.unusedVariables false
namespace Go.Proofs.Ytaklcjnfjchebaa
open Go Go.Proofs Go.RowKit Go.Vc Go.Proofs.Jv
theorem ShowApart_walk (c0 : Array Value) (y0 : JV) (c1 : Array Value) (y1 : JV) (w : World) (w0 : (∃ n, okJ n y0) ∧ Rep y0.pv (bareG (allF w)) w (.agg c0)) (w1 : (∃ n, okJ n y1) ∧ Rep y1.pv (bareG (allF w)) w (.agg c1)) (_ : True) :
    Calls Try.prog 6 #[.agg c0, .agg c1] w fun e w' => e = .returned (.bool true) ∧ Below w.heap.size w w' := by
  obtain ⟨k, b, s, nk, ks, nl, ls⟩ := y0
  obtain ⟨k2, b2, s2, nk2, ks2, nl2, ls2⟩ := y1
  obtain ⟨o0, r0⟩ := w0
  obtain ⟨o1, r1⟩ := w1
  unfold JV.pv at r0 r1
  refine (FuncOk.walk (fn := Try.f6) Try.func6 (by kernel_rfl) rfl (ok_showapart k b s nk ks nl (JV.pvs ls) k2 b2 s2 nk2 ks2 nl2 (JV.pvs ls2)) ⟨isJs_of _, by rw [jdecs_pvs]; exact o0, isJs_of _, by rw [jdecs_pvs]; exact o1⟩ (fits_all w) (noT_ok _) trivial (vs := [.agg c0, .agg c1]) ⟨_, _, rfl, r0, _, _, rfl, r1, rfl⟩).mono fun e w' ⟨u, he, F', _, hb, _, _, _, _, hu⟩ => ⟨by rw [he]; exact congrArg _ hu, hb⟩
end Go.Proofs.Ytaklcjnfjchebaa
