/- Law gossamerlaw21.MergeUsed: its cases, all of them. -/
import Derived.Test.YtimjohipkefnbaaGreatFin
import Derived.Test.YtimjohipkefnbaaGreatMergeUsedC0
import Derived.Test.YtimjohipkefnbaaGreatMergeUsedC1
import Derived.Test.YtimjohipkefnbaaGreatMergeUsedC2
import Derived.Test.YtimjohipkefnbaaGreatMergeUsedC3
set_option linter.unusedVariables false
set_option maxRecDepth 100000
namespace Go.Proofs.YtimjohipkefnbaaGreat
open Go Go.Proofs Go.RowKit Go.Ev
theorem MergeUsed_walk (a0 : Int) (a1 : Int) (w : World) (w0 : (Lit.int .i64 a0).wf = true) (w1 : (Lit.int .i64 a1).wf = true) (htab : Tab w) :
    Calls Tryz.prog 3 #[.int .i64 a0, .int .i64 a1] w fun e w' => e = .returned (.bool true) ∧ Below w.heap.size w w' := by
  have b0 := wf64 w0
  have b1 := wf64 w1
  obtain ⟨r0_3, e0_3, l0_3⟩ : ∃ r : Nat, lowN a0 3 = r ∧ r < 3 := by
    have := lowN_bd a0 3 (by omega)
    exact ⟨(lowN a0 3).toNat, by omega, by omega⟩
  obtain ⟨r1_11, e1_11, l1_11⟩ : ∃ r : Nat, lowN a1 11 = r ∧ r < 11 := by
    have := lowN_bd a1 11 (by omega)
    exact ⟨(lowN a1 11).toNat, by omega, by omega⟩
  rcases (show r0_3 = 0 ∨ r0_3 = 1 ∨ r0_3 = 2 by omega) with rfl | rfl | rfl
  · rcases (show r1_11 = 0 ∨ r1_11 = 1 ∨ r1_11 = 2 ∨ r1_11 = 3 ∨ r1_11 = 4 ∨ r1_11 = 5 ∨ r1_11 = 6 ∨ r1_11 = 7 ∨ r1_11 = 8 ∨ r1_11 = 9 ∨ r1_11 = 10 by omega) with rfl | rfl | rfl | rfl | rfl | rfl | rfl | rfl | rfl | rfl | rfl
    · exact one [a0, a1] [(0, 3, 0), (1, 11, 0)] (fun e he => by
        simp only [List.mem_cons, List.not_mem_nil, or_false] at he
        rcases he with rfl | rfl
        · exact ⟨b0, ⟨by decide, by decide⟩, e0_3⟩
        · exact ⟨b1, ⟨by decide, by decide⟩, e1_11⟩) (vs := [.int .i64 a0, .int .i64 a1]) Tryz.func3 rfl rfl mergeUsed_c0 w
    · exact one [a0, a1] [(0, 3, 0), (1, 11, 1)] (fun e he => by
        simp only [List.mem_cons, List.not_mem_nil, or_false] at he
        rcases he with rfl | rfl
        · exact ⟨b0, ⟨by decide, by decide⟩, e0_3⟩
        · exact ⟨b1, ⟨by decide, by decide⟩, e1_11⟩) (vs := [.int .i64 a0, .int .i64 a1]) Tryz.func3 rfl rfl mergeUsed_c1 w
    · exact one [a0, a1] [(0, 3, 0), (1, 11, 2)] (fun e he => by
        simp only [List.mem_cons, List.not_mem_nil, or_false] at he
        rcases he with rfl | rfl
        · exact ⟨b0, ⟨by decide, by decide⟩, e0_3⟩
        · exact ⟨b1, ⟨by decide, by decide⟩, e1_11⟩) (vs := [.int .i64 a0, .int .i64 a1]) Tryz.func3 rfl rfl mergeUsed_c2 w
    · exact one [a0, a1] [(0, 3, 0), (1, 11, 3)] (fun e he => by
        simp only [List.mem_cons, List.not_mem_nil, or_false] at he
        rcases he with rfl | rfl
        · exact ⟨b0, ⟨by decide, by decide⟩, e0_3⟩
        · exact ⟨b1, ⟨by decide, by decide⟩, e1_11⟩) (vs := [.int .i64 a0, .int .i64 a1]) Tryz.func3 rfl rfl mergeUsed_c3 w
    · exact one [a0, a1] [(0, 3, 0), (1, 11, 4)] (fun e he => by
        simp only [List.mem_cons, List.not_mem_nil, or_false] at he
        rcases he with rfl | rfl
        · exact ⟨b0, ⟨by decide, by decide⟩, e0_3⟩
        · exact ⟨b1, ⟨by decide, by decide⟩, e1_11⟩) (vs := [.int .i64 a0, .int .i64 a1]) Tryz.func3 rfl rfl mergeUsed_c4 w
    · exact one [a0, a1] [(0, 3, 0), (1, 11, 5)] (fun e he => by
        simp only [List.mem_cons, List.not_mem_nil, or_false] at he
        rcases he with rfl | rfl
        · exact ⟨b0, ⟨by decide, by decide⟩, e0_3⟩
        · exact ⟨b1, ⟨by decide, by decide⟩, e1_11⟩) (vs := [.int .i64 a0, .int .i64 a1]) Tryz.func3 rfl rfl mergeUsed_c5 w
    · exact one [a0, a1] [(0, 3, 0), (1, 11, 6)] (fun e he => by
        simp only [List.mem_cons, List.not_mem_nil, or_false] at he
        rcases he with rfl | rfl
        · exact ⟨b0, ⟨by decide, by decide⟩, e0_3⟩
        · exact ⟨b1, ⟨by decide, by decide⟩, e1_11⟩) (vs := [.int .i64 a0, .int .i64 a1]) Tryz.func3 rfl rfl mergeUsed_c6 w
    · exact one [a0, a1] [(0, 3, 0), (1, 11, 7)] (fun e he => by
        simp only [List.mem_cons, List.not_mem_nil, or_false] at he
        rcases he with rfl | rfl
        · exact ⟨b0, ⟨by decide, by decide⟩, e0_3⟩
        · exact ⟨b1, ⟨by decide, by decide⟩, e1_11⟩) (vs := [.int .i64 a0, .int .i64 a1]) Tryz.func3 rfl rfl mergeUsed_c7 w
    · exact one [a0, a1] [(0, 3, 0), (1, 11, 8)] (fun e he => by
        simp only [List.mem_cons, List.not_mem_nil, or_false] at he
        rcases he with rfl | rfl
        · exact ⟨b0, ⟨by decide, by decide⟩, e0_3⟩
        · exact ⟨b1, ⟨by decide, by decide⟩, e1_11⟩) (vs := [.int .i64 a0, .int .i64 a1]) Tryz.func3 rfl rfl mergeUsed_c8 w
    · exact one [a0, a1] [(0, 3, 0), (1, 11, 9)] (fun e he => by
        simp only [List.mem_cons, List.not_mem_nil, or_false] at he
        rcases he with rfl | rfl
        · exact ⟨b0, ⟨by decide, by decide⟩, e0_3⟩
        · exact ⟨b1, ⟨by decide, by decide⟩, e1_11⟩) (vs := [.int .i64 a0, .int .i64 a1]) Tryz.func3 rfl rfl mergeUsed_c9 w
    · exact one [a0, a1] [(0, 3, 0), (1, 11, 10)] (fun e he => by
        simp only [List.mem_cons, List.not_mem_nil, or_false] at he
        rcases he with rfl | rfl
        · exact ⟨b0, ⟨by decide, by decide⟩, e0_3⟩
        · exact ⟨b1, ⟨by decide, by decide⟩, e1_11⟩) (vs := [.int .i64 a0, .int .i64 a1]) Tryz.func3 rfl rfl mergeUsed_c10 w
  · rcases (show r1_11 = 0 ∨ r1_11 = 1 ∨ r1_11 = 2 ∨ r1_11 = 3 ∨ r1_11 = 4 ∨ r1_11 = 5 ∨ r1_11 = 6 ∨ r1_11 = 7 ∨ r1_11 = 8 ∨ r1_11 = 9 ∨ r1_11 = 10 by omega) with rfl | rfl | rfl | rfl | rfl | rfl | rfl | rfl | rfl | rfl | rfl
    · exact one [a0, a1] [(0, 3, 1), (1, 11, 0)] (fun e he => by
        simp only [List.mem_cons, List.not_mem_nil, or_false] at he
        rcases he with rfl | rfl
        · exact ⟨b0, ⟨by decide, by decide⟩, e0_3⟩
        · exact ⟨b1, ⟨by decide, by decide⟩, e1_11⟩) (vs := [.int .i64 a0, .int .i64 a1]) Tryz.func3 rfl rfl mergeUsed_c11 w
    · exact one [a0, a1] [(0, 3, 1), (1, 11, 1)] (fun e he => by
        simp only [List.mem_cons, List.not_mem_nil, or_false] at he
        rcases he with rfl | rfl
        · exact ⟨b0, ⟨by decide, by decide⟩, e0_3⟩
        · exact ⟨b1, ⟨by decide, by decide⟩, e1_11⟩) (vs := [.int .i64 a0, .int .i64 a1]) Tryz.func3 rfl rfl mergeUsed_c12 w
    · exact one [a0, a1] [(0, 3, 1), (1, 11, 2)] (fun e he => by
        simp only [List.mem_cons, List.not_mem_nil, or_false] at he
        rcases he with rfl | rfl
        · exact ⟨b0, ⟨by decide, by decide⟩, e0_3⟩
        · exact ⟨b1, ⟨by decide, by decide⟩, e1_11⟩) (vs := [.int .i64 a0, .int .i64 a1]) Tryz.func3 rfl rfl mergeUsed_c13 w
    · exact one [a0, a1] [(0, 3, 1), (1, 11, 3)] (fun e he => by
        simp only [List.mem_cons, List.not_mem_nil, or_false] at he
        rcases he with rfl | rfl
        · exact ⟨b0, ⟨by decide, by decide⟩, e0_3⟩
        · exact ⟨b1, ⟨by decide, by decide⟩, e1_11⟩) (vs := [.int .i64 a0, .int .i64 a1]) Tryz.func3 rfl rfl mergeUsed_c14 w
    · exact one [a0, a1] [(0, 3, 1), (1, 11, 4)] (fun e he => by
        simp only [List.mem_cons, List.not_mem_nil, or_false] at he
        rcases he with rfl | rfl
        · exact ⟨b0, ⟨by decide, by decide⟩, e0_3⟩
        · exact ⟨b1, ⟨by decide, by decide⟩, e1_11⟩) (vs := [.int .i64 a0, .int .i64 a1]) Tryz.func3 rfl rfl mergeUsed_c15 w
    · exact one [a0, a1] [(0, 3, 1), (1, 11, 5)] (fun e he => by
        simp only [List.mem_cons, List.not_mem_nil, or_false] at he
        rcases he with rfl | rfl
        · exact ⟨b0, ⟨by decide, by decide⟩, e0_3⟩
        · exact ⟨b1, ⟨by decide, by decide⟩, e1_11⟩) (vs := [.int .i64 a0, .int .i64 a1]) Tryz.func3 rfl rfl mergeUsed_c16 w
    · exact one [a0, a1] [(0, 3, 1), (1, 11, 6)] (fun e he => by
        simp only [List.mem_cons, List.not_mem_nil, or_false] at he
        rcases he with rfl | rfl
        · exact ⟨b0, ⟨by decide, by decide⟩, e0_3⟩
        · exact ⟨b1, ⟨by decide, by decide⟩, e1_11⟩) (vs := [.int .i64 a0, .int .i64 a1]) Tryz.func3 rfl rfl mergeUsed_c17 w
    · exact one [a0, a1] [(0, 3, 1), (1, 11, 7)] (fun e he => by
        simp only [List.mem_cons, List.not_mem_nil, or_false] at he
        rcases he with rfl | rfl
        · exact ⟨b0, ⟨by decide, by decide⟩, e0_3⟩
        · exact ⟨b1, ⟨by decide, by decide⟩, e1_11⟩) (vs := [.int .i64 a0, .int .i64 a1]) Tryz.func3 rfl rfl mergeUsed_c18 w
    · exact one [a0, a1] [(0, 3, 1), (1, 11, 8)] (fun e he => by
        simp only [List.mem_cons, List.not_mem_nil, or_false] at he
        rcases he with rfl | rfl
        · exact ⟨b0, ⟨by decide, by decide⟩, e0_3⟩
        · exact ⟨b1, ⟨by decide, by decide⟩, e1_11⟩) (vs := [.int .i64 a0, .int .i64 a1]) Tryz.func3 rfl rfl mergeUsed_c19 w
    · exact one [a0, a1] [(0, 3, 1), (1, 11, 9)] (fun e he => by
        simp only [List.mem_cons, List.not_mem_nil, or_false] at he
        rcases he with rfl | rfl
        · exact ⟨b0, ⟨by decide, by decide⟩, e0_3⟩
        · exact ⟨b1, ⟨by decide, by decide⟩, e1_11⟩) (vs := [.int .i64 a0, .int .i64 a1]) Tryz.func3 rfl rfl mergeUsed_c20 w
    · exact one [a0, a1] [(0, 3, 1), (1, 11, 10)] (fun e he => by
        simp only [List.mem_cons, List.not_mem_nil, or_false] at he
        rcases he with rfl | rfl
        · exact ⟨b0, ⟨by decide, by decide⟩, e0_3⟩
        · exact ⟨b1, ⟨by decide, by decide⟩, e1_11⟩) (vs := [.int .i64 a0, .int .i64 a1]) Tryz.func3 rfl rfl mergeUsed_c21 w
  · rcases (show r1_11 = 0 ∨ r1_11 = 1 ∨ r1_11 = 2 ∨ r1_11 = 3 ∨ r1_11 = 4 ∨ r1_11 = 5 ∨ r1_11 = 6 ∨ r1_11 = 7 ∨ r1_11 = 8 ∨ r1_11 = 9 ∨ r1_11 = 10 by omega) with rfl | rfl | rfl | rfl | rfl | rfl | rfl | rfl | rfl | rfl | rfl
    · exact one [a0, a1] [(0, 3, 2), (1, 11, 0)] (fun e he => by
        simp only [List.mem_cons, List.not_mem_nil, or_false] at he
        rcases he with rfl | rfl
        · exact ⟨b0, ⟨by decide, by decide⟩, e0_3⟩
        · exact ⟨b1, ⟨by decide, by decide⟩, e1_11⟩) (vs := [.int .i64 a0, .int .i64 a1]) Tryz.func3 rfl rfl mergeUsed_c22 w
    · exact one [a0, a1] [(0, 3, 2), (1, 11, 1)] (fun e he => by
        simp only [List.mem_cons, List.not_mem_nil, or_false] at he
        rcases he with rfl | rfl
        · exact ⟨b0, ⟨by decide, by decide⟩, e0_3⟩
        · exact ⟨b1, ⟨by decide, by decide⟩, e1_11⟩) (vs := [.int .i64 a0, .int .i64 a1]) Tryz.func3 rfl rfl mergeUsed_c23 w
    · exact one [a0, a1] [(0, 3, 2), (1, 11, 2)] (fun e he => by
        simp only [List.mem_cons, List.not_mem_nil, or_false] at he
        rcases he with rfl | rfl
        · exact ⟨b0, ⟨by decide, by decide⟩, e0_3⟩
        · exact ⟨b1, ⟨by decide, by decide⟩, e1_11⟩) (vs := [.int .i64 a0, .int .i64 a1]) Tryz.func3 rfl rfl mergeUsed_c24 w
    · exact one [a0, a1] [(0, 3, 2), (1, 11, 3)] (fun e he => by
        simp only [List.mem_cons, List.not_mem_nil, or_false] at he
        rcases he with rfl | rfl
        · exact ⟨b0, ⟨by decide, by decide⟩, e0_3⟩
        · exact ⟨b1, ⟨by decide, by decide⟩, e1_11⟩) (vs := [.int .i64 a0, .int .i64 a1]) Tryz.func3 rfl rfl mergeUsed_c25 w
    · exact one [a0, a1] [(0, 3, 2), (1, 11, 4)] (fun e he => by
        simp only [List.mem_cons, List.not_mem_nil, or_false] at he
        rcases he with rfl | rfl
        · exact ⟨b0, ⟨by decide, by decide⟩, e0_3⟩
        · exact ⟨b1, ⟨by decide, by decide⟩, e1_11⟩) (vs := [.int .i64 a0, .int .i64 a1]) Tryz.func3 rfl rfl mergeUsed_c26 w
    · exact one [a0, a1] [(0, 3, 2), (1, 11, 5)] (fun e he => by
        simp only [List.mem_cons, List.not_mem_nil, or_false] at he
        rcases he with rfl | rfl
        · exact ⟨b0, ⟨by decide, by decide⟩, e0_3⟩
        · exact ⟨b1, ⟨by decide, by decide⟩, e1_11⟩) (vs := [.int .i64 a0, .int .i64 a1]) Tryz.func3 rfl rfl mergeUsed_c27 w
    · exact one [a0, a1] [(0, 3, 2), (1, 11, 6)] (fun e he => by
        simp only [List.mem_cons, List.not_mem_nil, or_false] at he
        rcases he with rfl | rfl
        · exact ⟨b0, ⟨by decide, by decide⟩, e0_3⟩
        · exact ⟨b1, ⟨by decide, by decide⟩, e1_11⟩) (vs := [.int .i64 a0, .int .i64 a1]) Tryz.func3 rfl rfl mergeUsed_c28 w
    · exact one [a0, a1] [(0, 3, 2), (1, 11, 7)] (fun e he => by
        simp only [List.mem_cons, List.not_mem_nil, or_false] at he
        rcases he with rfl | rfl
        · exact ⟨b0, ⟨by decide, by decide⟩, e0_3⟩
        · exact ⟨b1, ⟨by decide, by decide⟩, e1_11⟩) (vs := [.int .i64 a0, .int .i64 a1]) Tryz.func3 rfl rfl mergeUsed_c29 w
    · exact one [a0, a1] [(0, 3, 2), (1, 11, 8)] (fun e he => by
        simp only [List.mem_cons, List.not_mem_nil, or_false] at he
        rcases he with rfl | rfl
        · exact ⟨b0, ⟨by decide, by decide⟩, e0_3⟩
        · exact ⟨b1, ⟨by decide, by decide⟩, e1_11⟩) (vs := [.int .i64 a0, .int .i64 a1]) Tryz.func3 rfl rfl mergeUsed_c30 w
    · exact one [a0, a1] [(0, 3, 2), (1, 11, 9)] (fun e he => by
        simp only [List.mem_cons, List.not_mem_nil, or_false] at he
        rcases he with rfl | rfl
        · exact ⟨b0, ⟨by decide, by decide⟩, e0_3⟩
        · exact ⟨b1, ⟨by decide, by decide⟩, e1_11⟩) (vs := [.int .i64 a0, .int .i64 a1]) Tryz.func3 rfl rfl mergeUsed_c31 w
    · exact one [a0, a1] [(0, 3, 2), (1, 11, 10)] (fun e he => by
        simp only [List.mem_cons, List.not_mem_nil, or_false] at he
        rcases he with rfl | rfl
        · exact ⟨b0, ⟨by decide, by decide⟩, e0_3⟩
        · exact ⟨b1, ⟨by decide, by decide⟩, e1_11⟩) (vs := [.int .i64 a0, .int .i64 a1]) Tryz.func3 rfl rfl mergeUsed_c32 w
end Go.Proofs.YtimjohipkefnbaaGreat
