/- Law gossamerlaw14.FileOthers: its cases, all of them. -/
import Derived.Test.YteiejlolgehgkaaGreatDoorFin
import Derived.Test.YteiejlolgehgkaaGreatDoorFileOthersC0
set_option linter.unusedVariables false
set_option maxRecDepth 100000
namespace Go.Proofs.YteiejlolgehgkaaGreatDoor
open Go Go.Proofs Go.RowKit Go.Ev
theorem FileOthers_walk (a0 : Int) (a1 : Int) (w : World) (w0 : (Lit.int .i64 a0).wf = true) (w1 : (Lit.int .i64 a1).wf = true) (htab : Tab w) :
    Calls Tryz.prog 3 #[.int .i64 a0, .int .i64 a1] w fun e w' => e = .returned (.bool true) ∧ Below w.heap.size w w' := by
  have b0 := wf64 w0
  have b1 := wf64 w1
  obtain ⟨r0_4, e0_4, l0_4⟩ : ∃ r : Nat, lowN a0 4 = r ∧ r < 4 := by
    have := lowN_bd a0 4 (by omega)
    exact ⟨(lowN a0 4).toNat, by omega, by omega⟩
  obtain ⟨r1_3, e1_3, l1_3⟩ : ∃ r : Nat, lowN a1 3 = r ∧ r < 3 := by
    have := lowN_bd a1 3 (by omega)
    exact ⟨(lowN a1 3).toNat, by omega, by omega⟩
  rcases (show r0_4 = 0 ∨ r0_4 = 1 ∨ r0_4 = 2 ∨ r0_4 = 3 by omega) with rfl | rfl | rfl | rfl
  · rcases (show r1_3 = 0 ∨ r1_3 = 1 ∨ r1_3 = 2 by omega) with rfl | rfl | rfl
    · exact one [a0, a1] [(0, 4, 0), (1, 3, 0)] (fun e he => by
        simp only [List.mem_cons, List.not_mem_nil, or_false] at he
        rcases he with rfl | rfl
        · exact ⟨b0, ⟨by decide, by decide⟩, e0_4⟩
        · exact ⟨b1, ⟨by decide, by decide⟩, e1_3⟩) (vs := [.int .i64 a0, .int .i64 a1]) Tryz.func3 rfl rfl fileOthers_c0 w
    · exact one [a0, a1] [(0, 4, 0), (1, 3, 1)] (fun e he => by
        simp only [List.mem_cons, List.not_mem_nil, or_false] at he
        rcases he with rfl | rfl
        · exact ⟨b0, ⟨by decide, by decide⟩, e0_4⟩
        · exact ⟨b1, ⟨by decide, by decide⟩, e1_3⟩) (vs := [.int .i64 a0, .int .i64 a1]) Tryz.func3 rfl rfl fileOthers_c1 w
    · exact one [a0, a1] [(0, 4, 0), (1, 3, 2)] (fun e he => by
        simp only [List.mem_cons, List.not_mem_nil, or_false] at he
        rcases he with rfl | rfl
        · exact ⟨b0, ⟨by decide, by decide⟩, e0_4⟩
        · exact ⟨b1, ⟨by decide, by decide⟩, e1_3⟩) (vs := [.int .i64 a0, .int .i64 a1]) Tryz.func3 rfl rfl fileOthers_c2 w
  · rcases (show r1_3 = 0 ∨ r1_3 = 1 ∨ r1_3 = 2 by omega) with rfl | rfl | rfl
    · exact one [a0, a1] [(0, 4, 1), (1, 3, 0)] (fun e he => by
        simp only [List.mem_cons, List.not_mem_nil, or_false] at he
        rcases he with rfl | rfl
        · exact ⟨b0, ⟨by decide, by decide⟩, e0_4⟩
        · exact ⟨b1, ⟨by decide, by decide⟩, e1_3⟩) (vs := [.int .i64 a0, .int .i64 a1]) Tryz.func3 rfl rfl fileOthers_c3 w
    · exact one [a0, a1] [(0, 4, 1), (1, 3, 1)] (fun e he => by
        simp only [List.mem_cons, List.not_mem_nil, or_false] at he
        rcases he with rfl | rfl
        · exact ⟨b0, ⟨by decide, by decide⟩, e0_4⟩
        · exact ⟨b1, ⟨by decide, by decide⟩, e1_3⟩) (vs := [.int .i64 a0, .int .i64 a1]) Tryz.func3 rfl rfl fileOthers_c4 w
    · exact one [a0, a1] [(0, 4, 1), (1, 3, 2)] (fun e he => by
        simp only [List.mem_cons, List.not_mem_nil, or_false] at he
        rcases he with rfl | rfl
        · exact ⟨b0, ⟨by decide, by decide⟩, e0_4⟩
        · exact ⟨b1, ⟨by decide, by decide⟩, e1_3⟩) (vs := [.int .i64 a0, .int .i64 a1]) Tryz.func3 rfl rfl fileOthers_c5 w
  · rcases (show r1_3 = 0 ∨ r1_3 = 1 ∨ r1_3 = 2 by omega) with rfl | rfl | rfl
    · exact one [a0, a1] [(0, 4, 2), (1, 3, 0)] (fun e he => by
        simp only [List.mem_cons, List.not_mem_nil, or_false] at he
        rcases he with rfl | rfl
        · exact ⟨b0, ⟨by decide, by decide⟩, e0_4⟩
        · exact ⟨b1, ⟨by decide, by decide⟩, e1_3⟩) (vs := [.int .i64 a0, .int .i64 a1]) Tryz.func3 rfl rfl fileOthers_c6 w
    · exact one [a0, a1] [(0, 4, 2), (1, 3, 1)] (fun e he => by
        simp only [List.mem_cons, List.not_mem_nil, or_false] at he
        rcases he with rfl | rfl
        · exact ⟨b0, ⟨by decide, by decide⟩, e0_4⟩
        · exact ⟨b1, ⟨by decide, by decide⟩, e1_3⟩) (vs := [.int .i64 a0, .int .i64 a1]) Tryz.func3 rfl rfl fileOthers_c7 w
    · exact one [a0, a1] [(0, 4, 2), (1, 3, 2)] (fun e he => by
        simp only [List.mem_cons, List.not_mem_nil, or_false] at he
        rcases he with rfl | rfl
        · exact ⟨b0, ⟨by decide, by decide⟩, e0_4⟩
        · exact ⟨b1, ⟨by decide, by decide⟩, e1_3⟩) (vs := [.int .i64 a0, .int .i64 a1]) Tryz.func3 rfl rfl fileOthers_c8 w
  · rcases (show r1_3 = 0 ∨ r1_3 = 1 ∨ r1_3 = 2 by omega) with rfl | rfl | rfl
    · exact one [a0, a1] [(0, 4, 3), (1, 3, 0)] (fun e he => by
        simp only [List.mem_cons, List.not_mem_nil, or_false] at he
        rcases he with rfl | rfl
        · exact ⟨b0, ⟨by decide, by decide⟩, e0_4⟩
        · exact ⟨b1, ⟨by decide, by decide⟩, e1_3⟩) (vs := [.int .i64 a0, .int .i64 a1]) Tryz.func3 rfl rfl fileOthers_c9 w
    · exact one [a0, a1] [(0, 4, 3), (1, 3, 1)] (fun e he => by
        simp only [List.mem_cons, List.not_mem_nil, or_false] at he
        rcases he with rfl | rfl
        · exact ⟨b0, ⟨by decide, by decide⟩, e0_4⟩
        · exact ⟨b1, ⟨by decide, by decide⟩, e1_3⟩) (vs := [.int .i64 a0, .int .i64 a1]) Tryz.func3 rfl rfl fileOthers_c10 w
    · exact one [a0, a1] [(0, 4, 3), (1, 3, 2)] (fun e he => by
        simp only [List.mem_cons, List.not_mem_nil, or_false] at he
        rcases he with rfl | rfl
        · exact ⟨b0, ⟨by decide, by decide⟩, e0_4⟩
        · exact ⟨b1, ⟨by decide, by decide⟩, e1_3⟩) (vs := [.int .i64 a0, .int .i64 a1]) Tryz.func3 rfl rfl fileOthers_c11 w
end Go.Proofs.YteiejlolgehgkaaGreatDoor
