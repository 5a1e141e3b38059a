/- Law gossamerlaw16.LinkUps: its cases, all of them. -/
import Derived.Test.YtniednnklbdciaaDoorFin
import Derived.Test.YtniednnklbdciaaDoorLinkUpsC0
set_option linter.unusedVariables false
set_option maxRecDepth 100000
namespace Go.Proofs.YtniednnklbdciaaDoor
open Go Go.Proofs Go.RowKit Go.Ev
theorem LinkUps_walk (a0 : Int) (w : World) (w0 : (Lit.int .i64 a0).wf = true) (htab : Tab w) :
    Calls Tryd.prog 3 #[.int .i64 a0] w fun e w' => e = .returned (.bool true) ∧ Below w.heap.size w w' := by
  have b0 := wf64 w0
  obtain ⟨r0_5, e0_5, l0_5⟩ : ∃ r : Nat, lowN a0 5 = r ∧ r < 5 := by
    have := lowN_bd a0 5 (by omega)
    exact ⟨(lowN a0 5).toNat, by omega, by omega⟩
  rcases (show r0_5 = 0 ∨ r0_5 = 1 ∨ r0_5 = 2 ∨ r0_5 = 3 ∨ r0_5 = 4 by omega) with rfl | rfl | rfl | rfl | rfl
  · exact one [a0] [(0, 5, 0)] (fun e he => by
      simp only [List.mem_cons, List.not_mem_nil, or_false] at he
      subst he; exact ⟨b0, ⟨by decide, by decide⟩, e0_5⟩) (vs := [.int .i64 a0]) Tryd.func3 rfl rfl linkUps_c0 w
  · exact one [a0] [(0, 5, 1)] (fun e he => by
      simp only [List.mem_cons, List.not_mem_nil, or_false] at he
      subst he; exact ⟨b0, ⟨by decide, by decide⟩, e0_5⟩) (vs := [.int .i64 a0]) Tryd.func3 rfl rfl linkUps_c1 w
  · exact one [a0] [(0, 5, 2)] (fun e he => by
      simp only [List.mem_cons, List.not_mem_nil, or_false] at he
      subst he; exact ⟨b0, ⟨by decide, by decide⟩, e0_5⟩) (vs := [.int .i64 a0]) Tryd.func3 rfl rfl linkUps_c2 w
  · exact one [a0] [(0, 5, 3)] (fun e he => by
      simp only [List.mem_cons, List.not_mem_nil, or_false] at he
      subst he; exact ⟨b0, ⟨by decide, by decide⟩, e0_5⟩) (vs := [.int .i64 a0]) Tryd.func3 rfl rfl linkUps_c3 w
  · exact one [a0] [(0, 5, 4)] (fun e he => by
      simp only [List.mem_cons, List.not_mem_nil, or_false] at he
      subst he; exact ⟨b0, ⟨by decide, by decide⟩, e0_5⟩) (vs := [.int .i64 a0]) Tryd.func3 rfl rfl linkUps_c4 w
end Go.Proofs.YtniednnklbdciaaDoor
