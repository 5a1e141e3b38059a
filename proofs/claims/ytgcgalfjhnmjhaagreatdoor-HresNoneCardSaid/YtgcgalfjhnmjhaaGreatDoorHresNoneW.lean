/- Law gossamerlaw20.HresNone: its cases, all of them. -/
import Derived.Test.YtgcgalfjhnmjhaaGreatDoorFin
import Derived.Test.YtgcgalfjhnmjhaaGreatDoorHresNoneC0
set_option linter.unusedVariables false
set_option maxRecDepth 100000
namespace Go.Proofs.YtgcgalfjhnmjhaaGreatDoor
open Go Go.Proofs Go.RowKit Go.Ev
theorem HresNone_walk (a0 : Int) (w : World) (w0 : (Lit.int .i64 a0).wf = true) (htab : Tab w) :
    Calls Tryz.prog 4 #[.int .i64 a0] w fun e w' => e = .returned (.bool true) ∧ Below w.heap.size w w' := by
  have b0 := wf64 w0
  obtain ⟨r0_6, e0_6, l0_6⟩ : ∃ r : Nat, lowN a0 6 = r ∧ r < 6 := by
    have := lowN_bd a0 6 (by omega)
    exact ⟨(lowN a0 6).toNat, by omega, by omega⟩
  rcases (show r0_6 = 0 ∨ r0_6 = 1 ∨ r0_6 = 2 ∨ r0_6 = 3 ∨ r0_6 = 4 ∨ r0_6 = 5 by omega) with rfl | rfl | rfl | rfl | rfl | rfl
  · exact one [a0] [(0, 6, 0)] (fun e he => by
      simp only [List.mem_cons, List.not_mem_nil, or_false] at he
      subst he; exact ⟨b0, ⟨by decide, by decide⟩, e0_6⟩) (vs := [.int .i64 a0]) Tryz.func4 rfl rfl hresNone_c0 w
  · exact one [a0] [(0, 6, 1)] (fun e he => by
      simp only [List.mem_cons, List.not_mem_nil, or_false] at he
      subst he; exact ⟨b0, ⟨by decide, by decide⟩, e0_6⟩) (vs := [.int .i64 a0]) Tryz.func4 rfl rfl hresNone_c1 w
  · exact one [a0] [(0, 6, 2)] (fun e he => by
      simp only [List.mem_cons, List.not_mem_nil, or_false] at he
      subst he; exact ⟨b0, ⟨by decide, by decide⟩, e0_6⟩) (vs := [.int .i64 a0]) Tryz.func4 rfl rfl hresNone_c2 w
  · exact one [a0] [(0, 6, 3)] (fun e he => by
      simp only [List.mem_cons, List.not_mem_nil, or_false] at he
      subst he; exact ⟨b0, ⟨by decide, by decide⟩, e0_6⟩) (vs := [.int .i64 a0]) Tryz.func4 rfl rfl hresNone_c3 w
  · exact one [a0] [(0, 6, 4)] (fun e he => by
      simp only [List.mem_cons, List.not_mem_nil, or_false] at he
      subst he; exact ⟨b0, ⟨by decide, by decide⟩, e0_6⟩) (vs := [.int .i64 a0]) Tryz.func4 rfl rfl hresNone_c4 w
  · exact one [a0] [(0, 6, 5)] (fun e he => by
      simp only [List.mem_cons, List.not_mem_nil, or_false] at he
      subst he; exact ⟨b0, ⟨by decide, by decide⟩, e0_6⟩) (vs := [.int .i64 a0]) Tryz.func4 rfl rfl hresNone_c5 w
end Go.Proofs.YtgcgalfjhnmjhaaGreatDoor
