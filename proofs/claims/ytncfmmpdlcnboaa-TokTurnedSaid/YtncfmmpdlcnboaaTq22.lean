import Derived.Test.YtncfmmpdlcnboaaTq20
import Derived.Test.YtncfmmpdlcnboaaTq21
set_option linter.unusedVariables false
namespace Go.Proofs.Ytncfmmpdlcnboaa
open Go Go.Proofs Go.RowKit Go.Vc Go.Proofs.Jv
theorem wfI64t {x : Int} (h : (Lit.int .i64 x).wf = true) : -9223372036854775808 ≤ x ∧ x ≤ 9223372036854775807 := by
  simp [Lit.wf, IntKind.min, IntKind.max, IntKind.signed, IntKind.bits] at h; omega
theorem wfU8t {x : Int} (h : (Lit.int .u8 x).wf = true) : 0 ≤ x ∧ x ≤ 255 := by
  simp [Lit.wf, IntKind.min, IntKind.max, IntKind.signed, IntKind.bits] at h; omega
theorem TokTurned_walk (c0 : Array Value) (y0 : JV) (a1 a2 a3 : Int) (w : World) (w0 : (∃ n, okJ n y0) ∧ Rep y0.pv (bareG (allW w)) w (.agg c0)) (w1 : (Lit.int .i64 a1).wf = true) (w2 : (Lit.int .u8 a2).wf = true) (w3 : (Lit.int .i64 a3).wf = true) (_ : True) :
    Calls Try.prog 3 #[.agg c0, .int .i64 a1, .int .u8 a2, .int .i64 a3] w fun e w' => e = .returned (.bool true) ∧ Below w.heap.size w w' := by
  obtain ⟨k, b, s, nk, ks, nl, ls⟩ := y0
  obtain ⟨o0, r0⟩ := w0
  unfold JV.pv at r0
  have h1 := wfI64t w1
  have h2 := wfU8t w2
  have h3 := wfI64t w3
  refine (FuncOk.walk (fn := Try.f3) Try.func3 (by kernel_rfl) rfl (ok_tokturned k b s nk ks nl (JV.pvs ls) a1 a2 a3) ⟨isJs_of _, by rw [jdecs_pvs]; exact o0, h1.1, h1.2, h2.1, h2.2, h3.1, h3.2⟩ (fits_all w) (noT_ok _) trivial (vs := [.agg c0, .int .i64 a1, .int .u8 a2, .int .i64 a3]) ⟨_, _, rfl, r0, _, _, rfl, rfl, _, _, rfl, rfl, _, _, rfl, rfl, rfl⟩).mono fun e w' ⟨u, he, F', _, hb, _, _, _, _, hu⟩ => ⟨by rw [he]; exact congrArg _ hu, hb⟩
end Go.Proofs.Ytncfmmpdlcnboaa
