/- The law's walk. -/
import Derived.Test.YtklgahppjdgkmaaDoorVmore
set_option linter.unusedVariables false
namespace Go.Proofs.YtklgahppjdgkmaaDoor
open Go Go.Proofs Go.RowKit Go.Vc
theorem wfU16 {x : Int} (h : (Lit.int .u16 x).wf = true) : 0 ≤ x ∧ x ≤ 65535 := by
  simp [Lit.wf, IntKind.min, IntKind.max, IntKind.signed, IntKind.bits] at h; omega
theorem SixMore_ok (z0 : List Int) (a1 : Int) (w0 : z0.length = 8 ∧ ∀ z ∈ z0, (Lit.int .u16 z).wf = true) (w1 : (Lit.int .i64 a1).wf = true) : FuncOk Tryd.prog noT 6 [.arr 8 (.ints .u16 z0), .int .i64 a1] ⟨True, .bool true⟩ :=
  fun _ => ok_more z0 a1 ⟨w0.1, fun x hx => wfU16 (w0.2 x hx), (wf64 w1).1, (wf64 w1).2⟩
theorem vals_len (z0 : List Int) (h : z0.length = 8) : (BRow.vals (.ints .u16 z0)).length = 8 := by unfold BRow.vals; rw [List.length_map]; exact h
theorem SixMore_walk (z0 : List Int) (a1 : Int) (w : World) (w0 : z0.length = 8 ∧ ∀ z ∈ z0, (Lit.int .u16 z).wf = true) (w1 : (Lit.int .i64 a1).wf = true) (htab : Tab9 w) :
    Calls Tryd.prog 6 #[.agg (z0.map fun z => .int .u16 z).toArray, .int .i64 a1] w fun e w' => e = .returned (.bool true) ∧ Below w.heap.size w w' := by
  have hx : RepL' [.arr 8 (.ints .u16 z0), .int .i64 a1] (bareG fun _ _ => none) w [.agg (z0.map fun z => .int .u16 z).toArray, .int .i64 a1] :=
    ⟨_, _, rfl, ⟨vals_len z0 w0.1, rfl⟩, _, _, rfl, rfl, rfl⟩
  exact FuncOk.yes (fn := Tryd.f6) Tryd.func6 (by kernel_rfl) rfl (SixMore_ok z0 a1 w0 w1) htab hx
end Go.Proofs.YtklgahppjdgkmaaDoor
