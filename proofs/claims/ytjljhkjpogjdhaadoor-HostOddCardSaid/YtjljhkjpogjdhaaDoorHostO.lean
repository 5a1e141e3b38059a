/- The walk of HostOdd. -/
import Derived.Test.YtjljhkjpogjdhaaDoorQ1
set_option linter.unusedVariables false
namespace Go.Proofs.YtjljhkjpogjdhaaDoor
open Go Go.Proofs Go.RowKit Go.Vc
theorem odd_bd {a : Int} (h : (Lit.int .i64 a).wf = true) : -9223372036854775808 ≤ a ∧ a ≤ 9223372036854775807 := by
  simp [Lit.wf, IntKind.min, IntKind.max, IntKind.signed, IntKind.bits] at h; omega
theorem HostOdd_walk (a0 : Int) (a1 : Int) (a2 : Bool) (w : World) (w0 : (Lit.int .i64 a0).wf = true) (w1 : (Lit.int .i64 a1).wf = true) (htab : TabH w) :
    Calls Tryd.prog 5 #[.int .i64 a0, .int .i64 a1, .bool a2] w fun e w' => e = .returned (.bool true) ∧ Below w.heap.size w w' := by
  have hx : RepL' [.int .i64 a0, .int .i64 a1, .bool a2] (bareG (fun _ _ => none)) w [.int .i64 a0, .int .i64 a1, .bool a2] :=
    ⟨_, _, rfl, rfl, _, _, rfl, rfl, _, _, rfl, rfl, rfl⟩
  refine (FuncOk.walk (fn := Tryd.f5) Tryd.func5 (by kernel_rfl) rfl (ok_odd a0 a1 a2) ⟨(odd_bd w0).1, (odd_bd w0).2, (odd_bd w1).1, (odd_bd w1).2⟩ (fun b o u h => by cases h) (noT_ok _) htab hx).mono fun e w' ⟨u, he, F', _, hb, _, _, _, _, hu⟩ => ⟨by rw [he]; exact congrArg _ hu, hb⟩
end Go.Proofs.YtjljhkjpogjdhaaDoor
