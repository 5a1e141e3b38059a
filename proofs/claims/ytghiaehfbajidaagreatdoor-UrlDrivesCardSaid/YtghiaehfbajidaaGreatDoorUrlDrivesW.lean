/- Law gossamerlaw12.UrlDrives: its cases, all of them. -/
import Derived.Test.YtghiaehfbajidaaGreatDoorFin
import Derived.Test.YtghiaehfbajidaaGreatDoorUrlDrivesC0
import Derived.Test.YtghiaehfbajidaaGreatDoorUrlDrivesC1
import Derived.Test.YtghiaehfbajidaaGreatDoorUrlDrivesC2
set_option linter.unusedVariables false
set_option maxRecDepth 100000
namespace Go.Proofs.YtghiaehfbajidaaGreatDoor
open Go Go.Proofs Go.RowKit Go.Ev
theorem UrlDrives_walk (a0 : Int) (a1 : Bool) (a2 : Int) (a3 : Int) (w : World) (w0 : (Lit.int .i64 a0).wf = true) (w2 : (Lit.int .i64 a2).wf = true) (w3 : (Lit.int .i64 a3).wf = true) (htab : Tab w) :
    Calls Tryz.prog 3 #[.int .i64 a0, .bool a1, .int .i64 a2, .int .i64 a3] w fun e w' => e = .returned (.bool true) ∧ Below w.heap.size w w' := by
  have b0 := wf64 w0
  have b2 := wf64 w2
  have b3 := wf64 w3
  obtain ⟨r0_5, e0_5, l0_5⟩ : ∃ r : Nat, lowN a0 5 = r ∧ r < 5 := by
    have := lowN_bd a0 5 (by omega)
    exact ⟨(lowN a0 5).toNat, by omega, by omega⟩
  obtain ⟨r2_4, e2_4, l2_4⟩ : ∃ r : Nat, lowN a2 4 = r ∧ r < 4 := by
    have := lowN_bd a2 4 (by omega)
    exact ⟨(lowN a2 4).toNat, by omega, by omega⟩
  obtain ⟨r3_5, e3_5, l3_5⟩ : ∃ r : Nat, lowN a3 5 = r ∧ r < 5 := by
    have := lowN_bd a3 5 (by omega)
    exact ⟨(lowN a3 5).toNat, by omega, by omega⟩
  rcases (show r0_5 = 0 ∨ r0_5 = 1 ∨ r0_5 = 2 ∨ r0_5 = 3 ∨ r0_5 = 4 by omega) with rfl | rfl | rfl | rfl | rfl
  · cases a1
    · rcases (show r2_4 = 0 ∨ r2_4 = 1 ∨ r2_4 = 2 ∨ r2_4 = 3 by omega) with rfl | rfl | rfl | rfl
      · rcases (show r3_5 = 0 ∨ r3_5 = 1 ∨ r3_5 = 2 ∨ r3_5 = 3 ∨ r3_5 = 4 by omega) with rfl | rfl | rfl | rfl | rfl
        · exact one [a0, a2, a3] [(0, 5, 0), (1, 4, 0), (2, 5, 0)] (fun e he => by
            simp only [List.mem_cons, List.not_mem_nil, or_false] at he
            rcases he with rfl | rfl | rfl
            · exact ⟨b0, ⟨by decide, by decide⟩, e0_5⟩
            · exact ⟨b2, ⟨by decide, by decide⟩, e2_4⟩
            · exact ⟨b3, ⟨by decide, by decide⟩, e3_5⟩) (vs := [.int .i64 a0, .bool false, .int .i64 a2, .int .i64 a3]) Tryz.func3 rfl rfl urlDrives_c0 w
        · exact one [a0, a2, a3] [(0, 5, 0), (1, 4, 0), (2, 5, 1)] (fun e he => by
            simp only [List.mem_cons, List.not_mem_nil, or_false] at he
            rcases he with rfl | rfl | rfl
            · exact ⟨b0, ⟨by decide, by decide⟩, e0_5⟩
            · exact ⟨b2, ⟨by decide, by decide⟩, e2_4⟩
            · exact ⟨b3, ⟨by decide, by decide⟩, e3_5⟩) (vs := [.int .i64 a0, .bool false, .int .i64 a2, .int .i64 a3]) Tryz.func3 rfl rfl urlDrives_c1 w
        · exact one [a0, a2, a3] [(0, 5, 0), (1, 4, 0), (2, 5, 2)] (fun e he => by
            simp only [List.mem_cons, List.not_mem_nil, or_false] at he
            rcases he with rfl | rfl | rfl
            · exact ⟨b0, ⟨by decide, by decide⟩, e0_5⟩
            · exact ⟨b2, ⟨by decide, by decide⟩, e2_4⟩
            · exact ⟨b3, ⟨by decide, by decide⟩, e3_5⟩) (vs := [.int .i64 a0, .bool false, .int .i64 a2, .int .i64 a3]) Tryz.func3 rfl rfl urlDrives_c2 w
        · exact one [a0, a2, a3] [(0, 5, 0), (1, 4, 0), (2, 5, 3)] (fun e he => by
            simp only [List.mem_cons, List.not_mem_nil, or_false] at he
            rcases he with rfl | rfl | rfl
            · exact ⟨b0, ⟨by decide, by decide⟩, e0_5⟩
            · exact ⟨b2, ⟨by decide, by decide⟩, e2_4⟩
            · exact ⟨b3, ⟨by decide, by decide⟩, e3_5⟩) (vs := [.int .i64 a0, .bool false, .int .i64 a2, .int .i64 a3]) Tryz.func3 rfl rfl urlDrives_c3 w
        · exact one [a0, a2, a3] [(0, 5, 0), (1, 4, 0), (2, 5, 4)] (fun e he => by
            simp only [List.mem_cons, List.not_mem_nil, or_false] at he
            rcases he with rfl | rfl | rfl
            · exact ⟨b0, ⟨by decide, by decide⟩, e0_5⟩
            · exact ⟨b2, ⟨by decide, by decide⟩, e2_4⟩
            · exact ⟨b3, ⟨by decide, by decide⟩, e3_5⟩) (vs := [.int .i64 a0, .bool false, .int .i64 a2, .int .i64 a3]) Tryz.func3 rfl rfl urlDrives_c4 w
      · rcases (show r3_5 = 0 ∨ r3_5 = 1 ∨ r3_5 = 2 ∨ r3_5 = 3 ∨ r3_5 = 4 by omega) with rfl | rfl | rfl | rfl | rfl
        · exact one [a0, a2, a3] [(0, 5, 0), (1, 4, 1), (2, 5, 0)] (fun e he => by
            simp only [List.mem_cons, List.not_mem_nil, or_false] at he
            rcases he with rfl | rfl | rfl
            · exact ⟨b0, ⟨by decide, by decide⟩, e0_5⟩
            · exact ⟨b2, ⟨by decide, by decide⟩, e2_4⟩
            · exact ⟨b3, ⟨by decide, by decide⟩, e3_5⟩) (vs := [.int .i64 a0, .bool false, .int .i64 a2, .int .i64 a3]) Tryz.func3 rfl rfl urlDrives_c5 w
        · exact one [a0, a2, a3] [(0, 5, 0), (1, 4, 1), (2, 5, 1)] (fun e he => by
            simp only [List.mem_cons, List.not_mem_nil, or_false] at he
            rcases he with rfl | rfl | rfl
            · exact ⟨b0, ⟨by decide, by decide⟩, e0_5⟩
            · exact ⟨b2, ⟨by decide, by decide⟩, e2_4⟩
            · exact ⟨b3, ⟨by decide, by decide⟩, e3_5⟩) (vs := [.int .i64 a0, .bool false, .int .i64 a2, .int .i64 a3]) Tryz.func3 rfl rfl urlDrives_c6 w
        · exact one [a0, a2, a3] [(0, 5, 0), (1, 4, 1), (2, 5, 2)] (fun e he => by
            simp only [List.mem_cons, List.not_mem_nil, or_false] at he
            rcases he with rfl | rfl | rfl
            · exact ⟨b0, ⟨by decide, by decide⟩, e0_5⟩
            · exact ⟨b2, ⟨by decide, by decide⟩, e2_4⟩
            · exact ⟨b3, ⟨by decide, by decide⟩, e3_5⟩) (vs := [.int .i64 a0, .bool false, .int .i64 a2, .int .i64 a3]) Tryz.func3 rfl rfl urlDrives_c7 w
        · exact one [a0, a2, a3] [(0, 5, 0), (1, 4, 1), (2, 5, 3)] (fun e he => by
            simp only [List.mem_cons, List.not_mem_nil, or_false] at he
            rcases he with rfl | rfl | rfl
            · exact ⟨b0, ⟨by decide, by decide⟩, e0_5⟩
            · exact ⟨b2, ⟨by decide, by decide⟩, e2_4⟩
            · exact ⟨b3, ⟨by decide, by decide⟩, e3_5⟩) (vs := [.int .i64 a0, .bool false, .int .i64 a2, .int .i64 a3]) Tryz.func3 rfl rfl urlDrives_c8 w
        · exact one [a0, a2, a3] [(0, 5, 0), (1, 4, 1), (2, 5, 4)] (fun e he => by
            simp only [List.mem_cons, List.not_mem_nil, or_false] at he
            rcases he with rfl | rfl | rfl
            · exact ⟨b0, ⟨by decide, by decide⟩, e0_5⟩
            · exact ⟨b2, ⟨by decide, by decide⟩, e2_4⟩
            · exact ⟨b3, ⟨by decide, by decide⟩, e3_5⟩) (vs := [.int .i64 a0, .bool false, .int .i64 a2, .int .i64 a3]) Tryz.func3 rfl rfl urlDrives_c9 w
      · rcases (show r3_5 = 0 ∨ r3_5 = 1 ∨ r3_5 = 2 ∨ r3_5 = 3 ∨ r3_5 = 4 by omega) with rfl | rfl | rfl | rfl | rfl
        · exact one [a0, a2, a3] [(0, 5, 0), (1, 4, 2), (2, 5, 0)] (fun e he => by
            simp only [List.mem_cons, List.not_mem_nil, or_false] at he
            rcases he with rfl | rfl | rfl
            · exact ⟨b0, ⟨by decide, by decide⟩, e0_5⟩
            · exact ⟨b2, ⟨by decide, by decide⟩, e2_4⟩
            · exact ⟨b3, ⟨by decide, by decide⟩, e3_5⟩) (vs := [.int .i64 a0, .bool false, .int .i64 a2, .int .i64 a3]) Tryz.func3 rfl rfl urlDrives_c10 w
        · exact one [a0, a2, a3] [(0, 5, 0), (1, 4, 2), (2, 5, 1)] (fun e he => by
            simp only [List.mem_cons, List.not_mem_nil, or_false] at he
            rcases he with rfl | rfl | rfl
            · exact ⟨b0, ⟨by decide, by decide⟩, e0_5⟩
            · exact ⟨b2, ⟨by decide, by decide⟩, e2_4⟩
            · exact ⟨b3, ⟨by decide, by decide⟩, e3_5⟩) (vs := [.int .i64 a0, .bool false, .int .i64 a2, .int .i64 a3]) Tryz.func3 rfl rfl urlDrives_c11 w
        · exact one [a0, a2, a3] [(0, 5, 0), (1, 4, 2), (2, 5, 2)] (fun e he => by
            simp only [List.mem_cons, List.not_mem_nil, or_false] at he
            rcases he with rfl | rfl | rfl
            · exact ⟨b0, ⟨by decide, by decide⟩, e0_5⟩
            · exact ⟨b2, ⟨by decide, by decide⟩, e2_4⟩
            · exact ⟨b3, ⟨by decide, by decide⟩, e3_5⟩) (vs := [.int .i64 a0, .bool false, .int .i64 a2, .int .i64 a3]) Tryz.func3 rfl rfl urlDrives_c12 w
        · exact one [a0, a2, a3] [(0, 5, 0), (1, 4, 2), (2, 5, 3)] (fun e he => by
            simp only [List.mem_cons, List.not_mem_nil, or_false] at he
            rcases he with rfl | rfl | rfl
            · exact ⟨b0, ⟨by decide, by decide⟩, e0_5⟩
            · exact ⟨b2, ⟨by decide, by decide⟩, e2_4⟩
            · exact ⟨b3, ⟨by decide, by decide⟩, e3_5⟩) (vs := [.int .i64 a0, .bool false, .int .i64 a2, .int .i64 a3]) Tryz.func3 rfl rfl urlDrives_c13 w
        · exact one [a0, a2, a3] [(0, 5, 0), (1, 4, 2), (2, 5, 4)] (fun e he => by
            simp only [List.mem_cons, List.not_mem_nil, or_false] at he
            rcases he with rfl | rfl | rfl
            · exact ⟨b0, ⟨by decide, by decide⟩, e0_5⟩
            · exact ⟨b2, ⟨by decide, by decide⟩, e2_4⟩
            · exact ⟨b3, ⟨by decide, by decide⟩, e3_5⟩) (vs := [.int .i64 a0, .bool false, .int .i64 a2, .int .i64 a3]) Tryz.func3 rfl rfl urlDrives_c14 w
      · rcases (show r3_5 = 0 ∨ r3_5 = 1 ∨ r3_5 = 2 ∨ r3_5 = 3 ∨ r3_5 = 4 by omega) with rfl | rfl | rfl | rfl | rfl
        · exact one [a0, a2, a3] [(0, 5, 0), (1, 4, 3), (2, 5, 0)] (fun e he => by
            simp only [List.mem_cons, List.not_mem_nil, or_false] at he
            rcases he with rfl | rfl | rfl
            · exact ⟨b0, ⟨by decide, by decide⟩, e0_5⟩
            · exact ⟨b2, ⟨by decide, by decide⟩, e2_4⟩
            · exact ⟨b3, ⟨by decide, by decide⟩, e3_5⟩) (vs := [.int .i64 a0, .bool false, .int .i64 a2, .int .i64 a3]) Tryz.func3 rfl rfl urlDrives_c15 w
        · exact one [a0, a2, a3] [(0, 5, 0), (1, 4, 3), (2, 5, 1)] (fun e he => by
            simp only [List.mem_cons, List.not_mem_nil, or_false] at he
            rcases he with rfl | rfl | rfl
            · exact ⟨b0, ⟨by decide, by decide⟩, e0_5⟩
            · exact ⟨b2, ⟨by decide, by decide⟩, e2_4⟩
            · exact ⟨b3, ⟨by decide, by decide⟩, e3_5⟩) (vs := [.int .i64 a0, .bool false, .int .i64 a2, .int .i64 a3]) Tryz.func3 rfl rfl urlDrives_c16 w
        · exact one [a0, a2, a3] [(0, 5, 0), (1, 4, 3), (2, 5, 2)] (fun e he => by
            simp only [List.mem_cons, List.not_mem_nil, or_false] at he
            rcases he with rfl | rfl | rfl
            · exact ⟨b0, ⟨by decide, by decide⟩, e0_5⟩
            · exact ⟨b2, ⟨by decide, by decide⟩, e2_4⟩
            · exact ⟨b3, ⟨by decide, by decide⟩, e3_5⟩) (vs := [.int .i64 a0, .bool false, .int .i64 a2, .int .i64 a3]) Tryz.func3 rfl rfl urlDrives_c17 w
        · exact one [a0, a2, a3] [(0, 5, 0), (1, 4, 3), (2, 5, 3)] (fun e he => by
            simp only [List.mem_cons, List.not_mem_nil, or_false] at he
            rcases he with rfl | rfl | rfl
            · exact ⟨b0, ⟨by decide, by decide⟩, e0_5⟩
            · exact ⟨b2, ⟨by decide, by decide⟩, e2_4⟩
            · exact ⟨b3, ⟨by decide, by decide⟩, e3_5⟩) (vs := [.int .i64 a0, .bool false, .int .i64 a2, .int .i64 a3]) Tryz.func3 rfl rfl urlDrives_c18 w
        · exact one [a0, a2, a3] [(0, 5, 0), (1, 4, 3), (2, 5, 4)] (fun e he => by
            simp only [List.mem_cons, List.not_mem_nil, or_false] at he
            rcases he with rfl | rfl | rfl
            · exact ⟨b0, ⟨by decide, by decide⟩, e0_5⟩
            · exact ⟨b2, ⟨by decide, by decide⟩, e2_4⟩
            · exact ⟨b3, ⟨by decide, by decide⟩, e3_5⟩) (vs := [.int .i64 a0, .bool false, .int .i64 a2, .int .i64 a3]) Tryz.func3 rfl rfl urlDrives_c19 w
    · rcases (show r2_4 = 0 ∨ r2_4 = 1 ∨ r2_4 = 2 ∨ r2_4 = 3 by omega) with rfl | rfl | rfl | rfl
      · rcases (show r3_5 = 0 ∨ r3_5 = 1 ∨ r3_5 = 2 ∨ r3_5 = 3 ∨ r3_5 = 4 by omega) with rfl | rfl | rfl | rfl | rfl
        · exact one [a0, a2, a3] [(0, 5, 0), (1, 4, 0), (2, 5, 0)] (fun e he => by
            simp only [List.mem_cons, List.not_mem_nil, or_false] at he
            rcases he with rfl | rfl | rfl
            · exact ⟨b0, ⟨by decide, by decide⟩, e0_5⟩
            · exact ⟨b2, ⟨by decide, by decide⟩, e2_4⟩
            · exact ⟨b3, ⟨by decide, by decide⟩, e3_5⟩) (vs := [.int .i64 a0, .bool true, .int .i64 a2, .int .i64 a3]) Tryz.func3 rfl rfl urlDrives_c20 w
        · exact one [a0, a2, a3] [(0, 5, 0), (1, 4, 0), (2, 5, 1)] (fun e he => by
            simp only [List.mem_cons, List.not_mem_nil, or_false] at he
            rcases he with rfl | rfl | rfl
            · exact ⟨b0, ⟨by decide, by decide⟩, e0_5⟩
            · exact ⟨b2, ⟨by decide, by decide⟩, e2_4⟩
            · exact ⟨b3, ⟨by decide, by decide⟩, e3_5⟩) (vs := [.int .i64 a0, .bool true, .int .i64 a2, .int .i64 a3]) Tryz.func3 rfl rfl urlDrives_c21 w
        · exact one [a0, a2, a3] [(0, 5, 0), (1, 4, 0), (2, 5, 2)] (fun e he => by
            simp only [List.mem_cons, List.not_mem_nil, or_false] at he
            rcases he with rfl | rfl | rfl
            · exact ⟨b0, ⟨by decide, by decide⟩, e0_5⟩
            · exact ⟨b2, ⟨by decide, by decide⟩, e2_4⟩
            · exact ⟨b3, ⟨by decide, by decide⟩, e3_5⟩) (vs := [.int .i64 a0, .bool true, .int .i64 a2, .int .i64 a3]) Tryz.func3 rfl rfl urlDrives_c22 w
        · exact one [a0, a2, a3] [(0, 5, 0), (1, 4, 0), (2, 5, 3)] (fun e he => by
            simp only [List.mem_cons, List.not_mem_nil, or_false] at he
            rcases he with rfl | rfl | rfl
            · exact ⟨b0, ⟨by decide, by decide⟩, e0_5⟩
            · exact ⟨b2, ⟨by decide, by decide⟩, e2_4⟩
            · exact ⟨b3, ⟨by decide, by decide⟩, e3_5⟩) (vs := [.int .i64 a0, .bool true, .int .i64 a2, .int .i64 a3]) Tryz.func3 rfl rfl urlDrives_c23 w
        · exact one [a0, a2, a3] [(0, 5, 0), (1, 4, 0), (2, 5, 4)] (fun e he => by
            simp only [List.mem_cons, List.not_mem_nil, or_false] at he
            rcases he with rfl | rfl | rfl
            · exact ⟨b0, ⟨by decide, by decide⟩, e0_5⟩
            · exact ⟨b2, ⟨by decide, by decide⟩, e2_4⟩
            · exact ⟨b3, ⟨by decide, by decide⟩, e3_5⟩) (vs := [.int .i64 a0, .bool true, .int .i64 a2, .int .i64 a3]) Tryz.func3 rfl rfl urlDrives_c24 w
      · rcases (show r3_5 = 0 ∨ r3_5 = 1 ∨ r3_5 = 2 ∨ r3_5 = 3 ∨ r3_5 = 4 by omega) with rfl | rfl | rfl | rfl | rfl
        · exact one [a0, a2, a3] [(0, 5, 0), (1, 4, 1), (2, 5, 0)] (fun e he => by
            simp only [List.mem_cons, List.not_mem_nil, or_false] at he
            rcases he with rfl | rfl | rfl
            · exact ⟨b0, ⟨by decide, by decide⟩, e0_5⟩
            · exact ⟨b2, ⟨by decide, by decide⟩, e2_4⟩
            · exact ⟨b3, ⟨by decide, by decide⟩, e3_5⟩) (vs := [.int .i64 a0, .bool true, .int .i64 a2, .int .i64 a3]) Tryz.func3 rfl rfl urlDrives_c25 w
        · exact one [a0, a2, a3] [(0, 5, 0), (1, 4, 1), (2, 5, 1)] (fun e he => by
            simp only [List.mem_cons, List.not_mem_nil, or_false] at he
            rcases he with rfl | rfl | rfl
            · exact ⟨b0, ⟨by decide, by decide⟩, e0_5⟩
            · exact ⟨b2, ⟨by decide, by decide⟩, e2_4⟩
            · exact ⟨b3, ⟨by decide, by decide⟩, e3_5⟩) (vs := [.int .i64 a0, .bool true, .int .i64 a2, .int .i64 a3]) Tryz.func3 rfl rfl urlDrives_c26 w
        · exact one [a0, a2, a3] [(0, 5, 0), (1, 4, 1), (2, 5, 2)] (fun e he => by
            simp only [List.mem_cons, List.not_mem_nil, or_false] at he
            rcases he with rfl | rfl | rfl
            · exact ⟨b0, ⟨by decide, by decide⟩, e0_5⟩
            · exact ⟨b2, ⟨by decide, by decide⟩, e2_4⟩
            · exact ⟨b3, ⟨by decide, by decide⟩, e3_5⟩) (vs := [.int .i64 a0, .bool true, .int .i64 a2, .int .i64 a3]) Tryz.func3 rfl rfl urlDrives_c27 w
        · exact one [a0, a2, a3] [(0, 5, 0), (1, 4, 1), (2, 5, 3)] (fun e he => by
            simp only [List.mem_cons, List.not_mem_nil, or_false] at he
            rcases he with rfl | rfl | rfl
            · exact ⟨b0, ⟨by decide, by decide⟩, e0_5⟩
            · exact ⟨b2, ⟨by decide, by decide⟩, e2_4⟩
            · exact ⟨b3, ⟨by decide, by decide⟩, e3_5⟩) (vs := [.int .i64 a0, .bool true, .int .i64 a2, .int .i64 a3]) Tryz.func3 rfl rfl urlDrives_c28 w
        · exact one [a0, a2, a3] [(0, 5, 0), (1, 4, 1), (2, 5, 4)] (fun e he => by
            simp only [List.mem_cons, List.not_mem_nil, or_false] at he
            rcases he with rfl | rfl | rfl
            · exact ⟨b0, ⟨by decide, by decide⟩, e0_5⟩
            · exact ⟨b2, ⟨by decide, by decide⟩, e2_4⟩
            · exact ⟨b3, ⟨by decide, by decide⟩, e3_5⟩) (vs := [.int .i64 a0, .bool true, .int .i64 a2, .int .i64 a3]) Tryz.func3 rfl rfl urlDrives_c29 w
      · rcases (show r3_5 = 0 ∨ r3_5 = 1 ∨ r3_5 = 2 ∨ r3_5 = 3 ∨ r3_5 = 4 by omega) with rfl | rfl | rfl | rfl | rfl
        · exact one [a0, a2, a3] [(0, 5, 0), (1, 4, 2), (2, 5, 0)] (fun e he => by
            simp only [List.mem_cons, List.not_mem_nil, or_false] at he
            rcases he with rfl | rfl | rfl
            · exact ⟨b0, ⟨by decide, by decide⟩, e0_5⟩
            · exact ⟨b2, ⟨by decide, by decide⟩, e2_4⟩
            · exact ⟨b3, ⟨by decide, by decide⟩, e3_5⟩) (vs := [.int .i64 a0, .bool true, .int .i64 a2, .int .i64 a3]) Tryz.func3 rfl rfl urlDrives_c30 w
        · exact one [a0, a2, a3] [(0, 5, 0), (1, 4, 2), (2, 5, 1)] (fun e he => by
            simp only [List.mem_cons, List.not_mem_nil, or_false] at he
            rcases he with rfl | rfl | rfl
            · exact ⟨b0, ⟨by decide, by decide⟩, e0_5⟩
            · exact ⟨b2, ⟨by decide, by decide⟩, e2_4⟩
            · exact ⟨b3, ⟨by decide, by decide⟩, e3_5⟩) (vs := [.int .i64 a0, .bool true, .int .i64 a2, .int .i64 a3]) Tryz.func3 rfl rfl urlDrives_c31 w
        · exact one [a0, a2, a3] [(0, 5, 0), (1, 4, 2), (2, 5, 2)] (fun e he => by
            simp only [List.mem_cons, List.not_mem_nil, or_false] at he
            rcases he with rfl | rfl | rfl
            · exact ⟨b0, ⟨by decide, by decide⟩, e0_5⟩
            · exact ⟨b2, ⟨by decide, by decide⟩, e2_4⟩
            · exact ⟨b3, ⟨by decide, by decide⟩, e3_5⟩) (vs := [.int .i64 a0, .bool true, .int .i64 a2, .int .i64 a3]) Tryz.func3 rfl rfl urlDrives_c32 w
        · exact one [a0, a2, a3] [(0, 5, 0), (1, 4, 2), (2, 5, 3)] (fun e he => by
            simp only [List.mem_cons, List.not_mem_nil, or_false] at he
            rcases he with rfl | rfl | rfl
            · exact ⟨b0, ⟨by decide, by decide⟩, e0_5⟩
            · exact ⟨b2, ⟨by decide, by decide⟩, e2_4⟩
            · exact ⟨b3, ⟨by decide, by decide⟩, e3_5⟩) (vs := [.int .i64 a0, .bool true, .int .i64 a2, .int .i64 a3]) Tryz.func3 rfl rfl urlDrives_c33 w
        · exact one [a0, a2, a3] [(0, 5, 0), (1, 4, 2), (2, 5, 4)] (fun e he => by
            simp only [List.mem_cons, List.not_mem_nil, or_false] at he
            rcases he with rfl | rfl | rfl
            · exact ⟨b0, ⟨by decide, by decide⟩, e0_5⟩
            · exact ⟨b2, ⟨by decide, by decide⟩, e2_4⟩
            · exact ⟨b3, ⟨by decide, by decide⟩, e3_5⟩) (vs := [.int .i64 a0, .bool true, .int .i64 a2, .int .i64 a3]) Tryz.func3 rfl rfl urlDrives_c34 w
      · rcases (show r3_5 = 0 ∨ r3_5 = 1 ∨ r3_5 = 2 ∨ r3_5 = 3 ∨ r3_5 = 4 by omega) with rfl | rfl | rfl | rfl | rfl
        · exact one [a0, a2, a3] [(0, 5, 0), (1, 4, 3), (2, 5, 0)] (fun e he => by
            simp only [List.mem_cons, List.not_mem_nil, or_false] at he
            rcases he with rfl | rfl | rfl
            · exact ⟨b0, ⟨by decide, by decide⟩, e0_5⟩
            · exact ⟨b2, ⟨by decide, by decide⟩, e2_4⟩
            · exact ⟨b3, ⟨by decide, by decide⟩, e3_5⟩) (vs := [.int .i64 a0, .bool true, .int .i64 a2, .int .i64 a3]) Tryz.func3 rfl rfl urlDrives_c35 w
        · exact one [a0, a2, a3] [(0, 5, 0), (1, 4, 3), (2, 5, 1)] (fun e he => by
            simp only [List.mem_cons, List.not_mem_nil, or_false] at he
            rcases he with rfl | rfl | rfl
            · exact ⟨b0, ⟨by decide, by decide⟩, e0_5⟩
            · exact ⟨b2, ⟨by decide, by decide⟩, e2_4⟩
            · exact ⟨b3, ⟨by decide, by decide⟩, e3_5⟩) (vs := [.int .i64 a0, .bool true, .int .i64 a2, .int .i64 a3]) Tryz.func3 rfl rfl urlDrives_c36 w
        · exact one [a0, a2, a3] [(0, 5, 0), (1, 4, 3), (2, 5, 2)] (fun e he => by
            simp only [List.mem_cons, List.not_mem_nil, or_false] at he
            rcases he with rfl | rfl | rfl
            · exact ⟨b0, ⟨by decide, by decide⟩, e0_5⟩
            · exact ⟨b2, ⟨by decide, by decide⟩, e2_4⟩
            · exact ⟨b3, ⟨by decide, by decide⟩, e3_5⟩) (vs := [.int .i64 a0, .bool true, .int .i64 a2, .int .i64 a3]) Tryz.func3 rfl rfl urlDrives_c37 w
        · exact one [a0, a2, a3] [(0, 5, 0), (1, 4, 3), (2, 5, 3)] (fun e he => by
            simp only [List.mem_cons, List.not_mem_nil, or_false] at he
            rcases he with rfl | rfl | rfl
            · exact ⟨b0, ⟨by decide, by decide⟩, e0_5⟩
            · exact ⟨b2, ⟨by decide, by decide⟩, e2_4⟩
            · exact ⟨b3, ⟨by decide, by decide⟩, e3_5⟩) (vs := [.int .i64 a0, .bool true, .int .i64 a2, .int .i64 a3]) Tryz.func3 rfl rfl urlDrives_c38 w
        · exact one [a0, a2, a3] [(0, 5, 0), (1, 4, 3), (2, 5, 4)] (fun e he => by
            simp only [List.mem_cons, List.not_mem_nil, or_false] at he
            rcases he with rfl | rfl | rfl
            · exact ⟨b0, ⟨by decide, by decide⟩, e0_5⟩
            · exact ⟨b2, ⟨by decide, by decide⟩, e2_4⟩
            · exact ⟨b3, ⟨by decide, by decide⟩, e3_5⟩) (vs := [.int .i64 a0, .bool true, .int .i64 a2, .int .i64 a3]) Tryz.func3 rfl rfl urlDrives_c39 w
  · cases a1
    · rcases (show r2_4 = 0 ∨ r2_4 = 1 ∨ r2_4 = 2 ∨ r2_4 = 3 by omega) with rfl | rfl | rfl | rfl
      · rcases (show r3_5 = 0 ∨ r3_5 = 1 ∨ r3_5 = 2 ∨ r3_5 = 3 ∨ r3_5 = 4 by omega) with rfl | rfl | rfl | rfl | rfl
        · exact one [a0, a2, a3] [(0, 5, 1), (1, 4, 0), (2, 5, 0)] (fun e he => by
            simp only [List.mem_cons, List.not_mem_nil, or_false] at he
            rcases he with rfl | rfl | rfl
            · exact ⟨b0, ⟨by decide, by decide⟩, e0_5⟩
            · exact ⟨b2, ⟨by decide, by decide⟩, e2_4⟩
            · exact ⟨b3, ⟨by decide, by decide⟩, e3_5⟩) (vs := [.int .i64 a0, .bool false, .int .i64 a2, .int .i64 a3]) Tryz.func3 rfl rfl urlDrives_c40 w
        · exact one [a0, a2, a3] [(0, 5, 1), (1, 4, 0), (2, 5, 1)] (fun e he => by
            simp only [List.mem_cons, List.not_mem_nil, or_false] at he
            rcases he with rfl | rfl | rfl
            · exact ⟨b0, ⟨by decide, by decide⟩, e0_5⟩
            · exact ⟨b2, ⟨by decide, by decide⟩, e2_4⟩
            · exact ⟨b3, ⟨by decide, by decide⟩, e3_5⟩) (vs := [.int .i64 a0, .bool false, .int .i64 a2, .int .i64 a3]) Tryz.func3 rfl rfl urlDrives_c41 w
        · exact one [a0, a2, a3] [(0, 5, 1), (1, 4, 0), (2, 5, 2)] (fun e he => by
            simp only [List.mem_cons, List.not_mem_nil, or_false] at he
            rcases he with rfl | rfl | rfl
            · exact ⟨b0, ⟨by decide, by decide⟩, e0_5⟩
            · exact ⟨b2, ⟨by decide, by decide⟩, e2_4⟩
            · exact ⟨b3, ⟨by decide, by decide⟩, e3_5⟩) (vs := [.int .i64 a0, .bool false, .int .i64 a2, .int .i64 a3]) Tryz.func3 rfl rfl urlDrives_c42 w
        · exact one [a0, a2, a3] [(0, 5, 1), (1, 4, 0), (2, 5, 3)] (fun e he => by
            simp only [List.mem_cons, List.not_mem_nil, or_false] at he
            rcases he with rfl | rfl | rfl
            · exact ⟨b0, ⟨by decide, by decide⟩, e0_5⟩
            · exact ⟨b2, ⟨by decide, by decide⟩, e2_4⟩
            · exact ⟨b3, ⟨by decide, by decide⟩, e3_5⟩) (vs := [.int .i64 a0, .bool false, .int .i64 a2, .int .i64 a3]) Tryz.func3 rfl rfl urlDrives_c43 w
        · exact one [a0, a2, a3] [(0, 5, 1), (1, 4, 0), (2, 5, 4)] (fun e he => by
            simp only [List.mem_cons, List.not_mem_nil, or_false] at he
            rcases he with rfl | rfl | rfl
            · exact ⟨b0, ⟨by decide, by decide⟩, e0_5⟩
            · exact ⟨b2, ⟨by decide, by decide⟩, e2_4⟩
            · exact ⟨b3, ⟨by decide, by decide⟩, e3_5⟩) (vs := [.int .i64 a0, .bool false, .int .i64 a2, .int .i64 a3]) Tryz.func3 rfl rfl urlDrives_c44 w
      · rcases (show r3_5 = 0 ∨ r3_5 = 1 ∨ r3_5 = 2 ∨ r3_5 = 3 ∨ r3_5 = 4 by omega) with rfl | rfl | rfl | rfl | rfl
        · exact one [a0, a2, a3] [(0, 5, 1), (1, 4, 1), (2, 5, 0)] (fun e he => by
            simp only [List.mem_cons, List.not_mem_nil, or_false] at he
            rcases he with rfl | rfl | rfl
            · exact ⟨b0, ⟨by decide, by decide⟩, e0_5⟩
            · exact ⟨b2, ⟨by decide, by decide⟩, e2_4⟩
            · exact ⟨b3, ⟨by decide, by decide⟩, e3_5⟩) (vs := [.int .i64 a0, .bool false, .int .i64 a2, .int .i64 a3]) Tryz.func3 rfl rfl urlDrives_c45 w
        · exact one [a0, a2, a3] [(0, 5, 1), (1, 4, 1), (2, 5, 1)] (fun e he => by
            simp only [List.mem_cons, List.not_mem_nil, or_false] at he
            rcases he with rfl | rfl | rfl
            · exact ⟨b0, ⟨by decide, by decide⟩, e0_5⟩
            · exact ⟨b2, ⟨by decide, by decide⟩, e2_4⟩
            · exact ⟨b3, ⟨by decide, by decide⟩, e3_5⟩) (vs := [.int .i64 a0, .bool false, .int .i64 a2, .int .i64 a3]) Tryz.func3 rfl rfl urlDrives_c46 w
        · exact one [a0, a2, a3] [(0, 5, 1), (1, 4, 1), (2, 5, 2)] (fun e he => by
            simp only [List.mem_cons, List.not_mem_nil, or_false] at he
            rcases he with rfl | rfl | rfl
            · exact ⟨b0, ⟨by decide, by decide⟩, e0_5⟩
            · exact ⟨b2, ⟨by decide, by decide⟩, e2_4⟩
            · exact ⟨b3, ⟨by decide, by decide⟩, e3_5⟩) (vs := [.int .i64 a0, .bool false, .int .i64 a2, .int .i64 a3]) Tryz.func3 rfl rfl urlDrives_c47 w
        · exact one [a0, a2, a3] [(0, 5, 1), (1, 4, 1), (2, 5, 3)] (fun e he => by
            simp only [List.mem_cons, List.not_mem_nil, or_false] at he
            rcases he with rfl | rfl | rfl
            · exact ⟨b0, ⟨by decide, by decide⟩, e0_5⟩
            · exact ⟨b2, ⟨by decide, by decide⟩, e2_4⟩
            · exact ⟨b3, ⟨by decide, by decide⟩, e3_5⟩) (vs := [.int .i64 a0, .bool false, .int .i64 a2, .int .i64 a3]) Tryz.func3 rfl rfl urlDrives_c48 w
        · exact one [a0, a2, a3] [(0, 5, 1), (1, 4, 1), (2, 5, 4)] (fun e he => by
            simp only [List.mem_cons, List.not_mem_nil, or_false] at he
            rcases he with rfl | rfl | rfl
            · exact ⟨b0, ⟨by decide, by decide⟩, e0_5⟩
            · exact ⟨b2, ⟨by decide, by decide⟩, e2_4⟩
            · exact ⟨b3, ⟨by decide, by decide⟩, e3_5⟩) (vs := [.int .i64 a0, .bool false, .int .i64 a2, .int .i64 a3]) Tryz.func3 rfl rfl urlDrives_c49 w
      · rcases (show r3_5 = 0 ∨ r3_5 = 1 ∨ r3_5 = 2 ∨ r3_5 = 3 ∨ r3_5 = 4 by omega) with rfl | rfl | rfl | rfl | rfl
        · exact one [a0, a2, a3] [(0, 5, 1), (1, 4, 2), (2, 5, 0)] (fun e he => by
            simp only [List.mem_cons, List.not_mem_nil, or_false] at he
            rcases he with rfl | rfl | rfl
            · exact ⟨b0, ⟨by decide, by decide⟩, e0_5⟩
            · exact ⟨b2, ⟨by decide, by decide⟩, e2_4⟩
            · exact ⟨b3, ⟨by decide, by decide⟩, e3_5⟩) (vs := [.int .i64 a0, .bool false, .int .i64 a2, .int .i64 a3]) Tryz.func3 rfl rfl urlDrives_c50 w
        · exact one [a0, a2, a3] [(0, 5, 1), (1, 4, 2), (2, 5, 1)] (fun e he => by
            simp only [List.mem_cons, List.not_mem_nil, or_false] at he
            rcases he with rfl | rfl | rfl
            · exact ⟨b0, ⟨by decide, by decide⟩, e0_5⟩
            · exact ⟨b2, ⟨by decide, by decide⟩, e2_4⟩
            · exact ⟨b3, ⟨by decide, by decide⟩, e3_5⟩) (vs := [.int .i64 a0, .bool false, .int .i64 a2, .int .i64 a3]) Tryz.func3 rfl rfl urlDrives_c51 w
        · exact one [a0, a2, a3] [(0, 5, 1), (1, 4, 2), (2, 5, 2)] (fun e he => by
            simp only [List.mem_cons, List.not_mem_nil, or_false] at he
            rcases he with rfl | rfl | rfl
            · exact ⟨b0, ⟨by decide, by decide⟩, e0_5⟩
            · exact ⟨b2, ⟨by decide, by decide⟩, e2_4⟩
            · exact ⟨b3, ⟨by decide, by decide⟩, e3_5⟩) (vs := [.int .i64 a0, .bool false, .int .i64 a2, .int .i64 a3]) Tryz.func3 rfl rfl urlDrives_c52 w
        · exact one [a0, a2, a3] [(0, 5, 1), (1, 4, 2), (2, 5, 3)] (fun e he => by
            simp only [List.mem_cons, List.not_mem_nil, or_false] at he
            rcases he with rfl | rfl | rfl
            · exact ⟨b0, ⟨by decide, by decide⟩, e0_5⟩
            · exact ⟨b2, ⟨by decide, by decide⟩, e2_4⟩
            · exact ⟨b3, ⟨by decide, by decide⟩, e3_5⟩) (vs := [.int .i64 a0, .bool false, .int .i64 a2, .int .i64 a3]) Tryz.func3 rfl rfl urlDrives_c53 w
        · exact one [a0, a2, a3] [(0, 5, 1), (1, 4, 2), (2, 5, 4)] (fun e he => by
            simp only [List.mem_cons, List.not_mem_nil, or_false] at he
            rcases he with rfl | rfl | rfl
            · exact ⟨b0, ⟨by decide, by decide⟩, e0_5⟩
            · exact ⟨b2, ⟨by decide, by decide⟩, e2_4⟩
            · exact ⟨b3, ⟨by decide, by decide⟩, e3_5⟩) (vs := [.int .i64 a0, .bool false, .int .i64 a2, .int .i64 a3]) Tryz.func3 rfl rfl urlDrives_c54 w
      · rcases (show r3_5 = 0 ∨ r3_5 = 1 ∨ r3_5 = 2 ∨ r3_5 = 3 ∨ r3_5 = 4 by omega) with rfl | rfl | rfl | rfl | rfl
        · exact one [a0, a2, a3] [(0, 5, 1), (1, 4, 3), (2, 5, 0)] (fun e he => by
            simp only [List.mem_cons, List.not_mem_nil, or_false] at he
            rcases he with rfl | rfl | rfl
            · exact ⟨b0, ⟨by decide, by decide⟩, e0_5⟩
            · exact ⟨b2, ⟨by decide, by decide⟩, e2_4⟩
            · exact ⟨b3, ⟨by decide, by decide⟩, e3_5⟩) (vs := [.int .i64 a0, .bool false, .int .i64 a2, .int .i64 a3]) Tryz.func3 rfl rfl urlDrives_c55 w
        · exact one [a0, a2, a3] [(0, 5, 1), (1, 4, 3), (2, 5, 1)] (fun e he => by
            simp only [List.mem_cons, List.not_mem_nil, or_false] at he
            rcases he with rfl | rfl | rfl
            · exact ⟨b0, ⟨by decide, by decide⟩, e0_5⟩
            · exact ⟨b2, ⟨by decide, by decide⟩, e2_4⟩
            · exact ⟨b3, ⟨by decide, by decide⟩, e3_5⟩) (vs := [.int .i64 a0, .bool false, .int .i64 a2, .int .i64 a3]) Tryz.func3 rfl rfl urlDrives_c56 w
        · exact one [a0, a2, a3] [(0, 5, 1), (1, 4, 3), (2, 5, 2)] (fun e he => by
            simp only [List.mem_cons, List.not_mem_nil, or_false] at he
            rcases he with rfl | rfl | rfl
            · exact ⟨b0, ⟨by decide, by decide⟩, e0_5⟩
            · exact ⟨b2, ⟨by decide, by decide⟩, e2_4⟩
            · exact ⟨b3, ⟨by decide, by decide⟩, e3_5⟩) (vs := [.int .i64 a0, .bool false, .int .i64 a2, .int .i64 a3]) Tryz.func3 rfl rfl urlDrives_c57 w
        · exact one [a0, a2, a3] [(0, 5, 1), (1, 4, 3), (2, 5, 3)] (fun e he => by
            simp only [List.mem_cons, List.not_mem_nil, or_false] at he
            rcases he with rfl | rfl | rfl
            · exact ⟨b0, ⟨by decide, by decide⟩, e0_5⟩
            · exact ⟨b2, ⟨by decide, by decide⟩, e2_4⟩
            · exact ⟨b3, ⟨by decide, by decide⟩, e3_5⟩) (vs := [.int .i64 a0, .bool false, .int .i64 a2, .int .i64 a3]) Tryz.func3 rfl rfl urlDrives_c58 w
        · exact one [a0, a2, a3] [(0, 5, 1), (1, 4, 3), (2, 5, 4)] (fun e he => by
            simp only [List.mem_cons, List.not_mem_nil, or_false] at he
            rcases he with rfl | rfl | rfl
            · exact ⟨b0, ⟨by decide, by decide⟩, e0_5⟩
            · exact ⟨b2, ⟨by decide, by decide⟩, e2_4⟩
            · exact ⟨b3, ⟨by decide, by decide⟩, e3_5⟩) (vs := [.int .i64 a0, .bool false, .int .i64 a2, .int .i64 a3]) Tryz.func3 rfl rfl urlDrives_c59 w
    · rcases (show r2_4 = 0 ∨ r2_4 = 1 ∨ r2_4 = 2 ∨ r2_4 = 3 by omega) with rfl | rfl | rfl | rfl
      · rcases (show r3_5 = 0 ∨ r3_5 = 1 ∨ r3_5 = 2 ∨ r3_5 = 3 ∨ r3_5 = 4 by omega) with rfl | rfl | rfl | rfl | rfl
        · exact one [a0, a2, a3] [(0, 5, 1), (1, 4, 0), (2, 5, 0)] (fun e he => by
            simp only [List.mem_cons, List.not_mem_nil, or_false] at he
            rcases he with rfl | rfl | rfl
            · exact ⟨b0, ⟨by decide, by decide⟩, e0_5⟩
            · exact ⟨b2, ⟨by decide, by decide⟩, e2_4⟩
            · exact ⟨b3, ⟨by decide, by decide⟩, e3_5⟩) (vs := [.int .i64 a0, .bool true, .int .i64 a2, .int .i64 a3]) Tryz.func3 rfl rfl urlDrives_c60 w
        · exact one [a0, a2, a3] [(0, 5, 1), (1, 4, 0), (2, 5, 1)] (fun e he => by
            simp only [List.mem_cons, List.not_mem_nil, or_false] at he
            rcases he with rfl | rfl | rfl
            · exact ⟨b0, ⟨by decide, by decide⟩, e0_5⟩
            · exact ⟨b2, ⟨by decide, by decide⟩, e2_4⟩
            · exact ⟨b3, ⟨by decide, by decide⟩, e3_5⟩) (vs := [.int .i64 a0, .bool true, .int .i64 a2, .int .i64 a3]) Tryz.func3 rfl rfl urlDrives_c61 w
        · exact one [a0, a2, a3] [(0, 5, 1), (1, 4, 0), (2, 5, 2)] (fun e he => by
            simp only [List.mem_cons, List.not_mem_nil, or_false] at he
            rcases he with rfl | rfl | rfl
            · exact ⟨b0, ⟨by decide, by decide⟩, e0_5⟩
            · exact ⟨b2, ⟨by decide, by decide⟩, e2_4⟩
            · exact ⟨b3, ⟨by decide, by decide⟩, e3_5⟩) (vs := [.int .i64 a0, .bool true, .int .i64 a2, .int .i64 a3]) Tryz.func3 rfl rfl urlDrives_c62 w
        · exact one [a0, a2, a3] [(0, 5, 1), (1, 4, 0), (2, 5, 3)] (fun e he => by
            simp only [List.mem_cons, List.not_mem_nil, or_false] at he
            rcases he with rfl | rfl | rfl
            · exact ⟨b0, ⟨by decide, by decide⟩, e0_5⟩
            · exact ⟨b2, ⟨by decide, by decide⟩, e2_4⟩
            · exact ⟨b3, ⟨by decide, by decide⟩, e3_5⟩) (vs := [.int .i64 a0, .bool true, .int .i64 a2, .int .i64 a3]) Tryz.func3 rfl rfl urlDrives_c63 w
        · exact one [a0, a2, a3] [(0, 5, 1), (1, 4, 0), (2, 5, 4)] (fun e he => by
            simp only [List.mem_cons, List.not_mem_nil, or_false] at he
            rcases he with rfl | rfl | rfl
            · exact ⟨b0, ⟨by decide, by decide⟩, e0_5⟩
            · exact ⟨b2, ⟨by decide, by decide⟩, e2_4⟩
            · exact ⟨b3, ⟨by decide, by decide⟩, e3_5⟩) (vs := [.int .i64 a0, .bool true, .int .i64 a2, .int .i64 a3]) Tryz.func3 rfl rfl urlDrives_c64 w
      · rcases (show r3_5 = 0 ∨ r3_5 = 1 ∨ r3_5 = 2 ∨ r3_5 = 3 ∨ r3_5 = 4 by omega) with rfl | rfl | rfl | rfl | rfl
        · exact one [a0, a2, a3] [(0, 5, 1), (1, 4, 1), (2, 5, 0)] (fun e he => by
            simp only [List.mem_cons, List.not_mem_nil, or_false] at he
            rcases he with rfl | rfl | rfl
            · exact ⟨b0, ⟨by decide, by decide⟩, e0_5⟩
            · exact ⟨b2, ⟨by decide, by decide⟩, e2_4⟩
            · exact ⟨b3, ⟨by decide, by decide⟩, e3_5⟩) (vs := [.int .i64 a0, .bool true, .int .i64 a2, .int .i64 a3]) Tryz.func3 rfl rfl urlDrives_c65 w
        · exact one [a0, a2, a3] [(0, 5, 1), (1, 4, 1), (2, 5, 1)] (fun e he => by
            simp only [List.mem_cons, List.not_mem_nil, or_false] at he
            rcases he with rfl | rfl | rfl
            · exact ⟨b0, ⟨by decide, by decide⟩, e0_5⟩
            · exact ⟨b2, ⟨by decide, by decide⟩, e2_4⟩
            · exact ⟨b3, ⟨by decide, by decide⟩, e3_5⟩) (vs := [.int .i64 a0, .bool true, .int .i64 a2, .int .i64 a3]) Tryz.func3 rfl rfl urlDrives_c66 w
        · exact one [a0, a2, a3] [(0, 5, 1), (1, 4, 1), (2, 5, 2)] (fun e he => by
            simp only [List.mem_cons, List.not_mem_nil, or_false] at he
            rcases he with rfl | rfl | rfl
            · exact ⟨b0, ⟨by decide, by decide⟩, e0_5⟩
            · exact ⟨b2, ⟨by decide, by decide⟩, e2_4⟩
            · exact ⟨b3, ⟨by decide, by decide⟩, e3_5⟩) (vs := [.int .i64 a0, .bool true, .int .i64 a2, .int .i64 a3]) Tryz.func3 rfl rfl urlDrives_c67 w
        · exact one [a0, a2, a3] [(0, 5, 1), (1, 4, 1), (2, 5, 3)] (fun e he => by
            simp only [List.mem_cons, List.not_mem_nil, or_false] at he
            rcases he with rfl | rfl | rfl
            · exact ⟨b0, ⟨by decide, by decide⟩, e0_5⟩
            · exact ⟨b2, ⟨by decide, by decide⟩, e2_4⟩
            · exact ⟨b3, ⟨by decide, by decide⟩, e3_5⟩) (vs := [.int .i64 a0, .bool true, .int .i64 a2, .int .i64 a3]) Tryz.func3 rfl rfl urlDrives_c68 w
        · exact one [a0, a2, a3] [(0, 5, 1), (1, 4, 1), (2, 5, 4)] (fun e he => by
            simp only [List.mem_cons, List.not_mem_nil, or_false] at he
            rcases he with rfl | rfl | rfl
            · exact ⟨b0, ⟨by decide, by decide⟩, e0_5⟩
            · exact ⟨b2, ⟨by decide, by decide⟩, e2_4⟩
            · exact ⟨b3, ⟨by decide, by decide⟩, e3_5⟩) (vs := [.int .i64 a0, .bool true, .int .i64 a2, .int .i64 a3]) Tryz.func3 rfl rfl urlDrives_c69 w
      · rcases (show r3_5 = 0 ∨ r3_5 = 1 ∨ r3_5 = 2 ∨ r3_5 = 3 ∨ r3_5 = 4 by omega) with rfl | rfl | rfl | rfl | rfl
        · exact one [a0, a2, a3] [(0, 5, 1), (1, 4, 2), (2, 5, 0)] (fun e he => by
            simp only [List.mem_cons, List.not_mem_nil, or_false] at he
            rcases he with rfl | rfl | rfl
            · exact ⟨b0, ⟨by decide, by decide⟩, e0_5⟩
            · exact ⟨b2, ⟨by decide, by decide⟩, e2_4⟩
            · exact ⟨b3, ⟨by decide, by decide⟩, e3_5⟩) (vs := [.int .i64 a0, .bool true, .int .i64 a2, .int .i64 a3]) Tryz.func3 rfl rfl urlDrives_c70 w
        · exact one [a0, a2, a3] [(0, 5, 1), (1, 4, 2), (2, 5, 1)] (fun e he => by
            simp only [List.mem_cons, List.not_mem_nil, or_false] at he
            rcases he with rfl | rfl | rfl
            · exact ⟨b0, ⟨by decide, by decide⟩, e0_5⟩
            · exact ⟨b2, ⟨by decide, by decide⟩, e2_4⟩
            · exact ⟨b3, ⟨by decide, by decide⟩, e3_5⟩) (vs := [.int .i64 a0, .bool true, .int .i64 a2, .int .i64 a3]) Tryz.func3 rfl rfl urlDrives_c71 w
        · exact one [a0, a2, a3] [(0, 5, 1), (1, 4, 2), (2, 5, 2)] (fun e he => by
            simp only [List.mem_cons, List.not_mem_nil, or_false] at he
            rcases he with rfl | rfl | rfl
            · exact ⟨b0, ⟨by decide, by decide⟩, e0_5⟩
            · exact ⟨b2, ⟨by decide, by decide⟩, e2_4⟩
            · exact ⟨b3, ⟨by decide, by decide⟩, e3_5⟩) (vs := [.int .i64 a0, .bool true, .int .i64 a2, .int .i64 a3]) Tryz.func3 rfl rfl urlDrives_c72 w
        · exact one [a0, a2, a3] [(0, 5, 1), (1, 4, 2), (2, 5, 3)] (fun e he => by
            simp only [List.mem_cons, List.not_mem_nil, or_false] at he
            rcases he with rfl | rfl | rfl
            · exact ⟨b0, ⟨by decide, by decide⟩, e0_5⟩
            · exact ⟨b2, ⟨by decide, by decide⟩, e2_4⟩
            · exact ⟨b3, ⟨by decide, by decide⟩, e3_5⟩) (vs := [.int .i64 a0, .bool true, .int .i64 a2, .int .i64 a3]) Tryz.func3 rfl rfl urlDrives_c73 w
        · exact one [a0, a2, a3] [(0, 5, 1), (1, 4, 2), (2, 5, 4)] (fun e he => by
            simp only [List.mem_cons, List.not_mem_nil, or_false] at he
            rcases he with rfl | rfl | rfl
            · exact ⟨b0, ⟨by decide, by decide⟩, e0_5⟩
            · exact ⟨b2, ⟨by decide, by decide⟩, e2_4⟩
            · exact ⟨b3, ⟨by decide, by decide⟩, e3_5⟩) (vs := [.int .i64 a0, .bool true, .int .i64 a2, .int .i64 a3]) Tryz.func3 rfl rfl urlDrives_c74 w
      · rcases (show r3_5 = 0 ∨ r3_5 = 1 ∨ r3_5 = 2 ∨ r3_5 = 3 ∨ r3_5 = 4 by omega) with rfl | rfl | rfl | rfl | rfl
        · exact one [a0, a2, a3] [(0, 5, 1), (1, 4, 3), (2, 5, 0)] (fun e he => by
            simp only [List.mem_cons, List.not_mem_nil, or_false] at he
            rcases he with rfl | rfl | rfl
            · exact ⟨b0, ⟨by decide, by decide⟩, e0_5⟩
            · exact ⟨b2, ⟨by decide, by decide⟩, e2_4⟩
            · exact ⟨b3, ⟨by decide, by decide⟩, e3_5⟩) (vs := [.int .i64 a0, .bool true, .int .i64 a2, .int .i64 a3]) Tryz.func3 rfl rfl urlDrives_c75 w
        · exact one [a0, a2, a3] [(0, 5, 1), (1, 4, 3), (2, 5, 1)] (fun e he => by
            simp only [List.mem_cons, List.not_mem_nil, or_false] at he
            rcases he with rfl | rfl | rfl
            · exact ⟨b0, ⟨by decide, by decide⟩, e0_5⟩
            · exact ⟨b2, ⟨by decide, by decide⟩, e2_4⟩
            · exact ⟨b3, ⟨by decide, by decide⟩, e3_5⟩) (vs := [.int .i64 a0, .bool true, .int .i64 a2, .int .i64 a3]) Tryz.func3 rfl rfl urlDrives_c76 w
        · exact one [a0, a2, a3] [(0, 5, 1), (1, 4, 3), (2, 5, 2)] (fun e he => by
            simp only [List.mem_cons, List.not_mem_nil, or_false] at he
            rcases he with rfl | rfl | rfl
            · exact ⟨b0, ⟨by decide, by decide⟩, e0_5⟩
            · exact ⟨b2, ⟨by decide, by decide⟩, e2_4⟩
            · exact ⟨b3, ⟨by decide, by decide⟩, e3_5⟩) (vs := [.int .i64 a0, .bool true, .int .i64 a2, .int .i64 a3]) Tryz.func3 rfl rfl urlDrives_c77 w
        · exact one [a0, a2, a3] [(0, 5, 1), (1, 4, 3), (2, 5, 3)] (fun e he => by
            simp only [List.mem_cons, List.not_mem_nil, or_false] at he
            rcases he with rfl | rfl | rfl
            · exact ⟨b0, ⟨by decide, by decide⟩, e0_5⟩
            · exact ⟨b2, ⟨by decide, by decide⟩, e2_4⟩
            · exact ⟨b3, ⟨by decide, by decide⟩, e3_5⟩) (vs := [.int .i64 a0, .bool true, .int .i64 a2, .int .i64 a3]) Tryz.func3 rfl rfl urlDrives_c78 w
        · exact one [a0, a2, a3] [(0, 5, 1), (1, 4, 3), (2, 5, 4)] (fun e he => by
            simp only [List.mem_cons, List.not_mem_nil, or_false] at he
            rcases he with rfl | rfl | rfl
            · exact ⟨b0, ⟨by decide, by decide⟩, e0_5⟩
            · exact ⟨b2, ⟨by decide, by decide⟩, e2_4⟩
            · exact ⟨b3, ⟨by decide, by decide⟩, e3_5⟩) (vs := [.int .i64 a0, .bool true, .int .i64 a2, .int .i64 a3]) Tryz.func3 rfl rfl urlDrives_c79 w
  · cases a1
    · rcases (show r2_4 = 0 ∨ r2_4 = 1 ∨ r2_4 = 2 ∨ r2_4 = 3 by omega) with rfl | rfl | rfl | rfl
      · rcases (show r3_5 = 0 ∨ r3_5 = 1 ∨ r3_5 = 2 ∨ r3_5 = 3 ∨ r3_5 = 4 by omega) with rfl | rfl | rfl | rfl | rfl
        · exact one [a0, a2, a3] [(0, 5, 2), (1, 4, 0), (2, 5, 0)] (fun e he => by
            simp only [List.mem_cons, List.not_mem_nil, or_false] at he
            rcases he with rfl | rfl | rfl
            · exact ⟨b0, ⟨by decide, by decide⟩, e0_5⟩
            · exact ⟨b2, ⟨by decide, by decide⟩, e2_4⟩
            · exact ⟨b3, ⟨by decide, by decide⟩, e3_5⟩) (vs := [.int .i64 a0, .bool false, .int .i64 a2, .int .i64 a3]) Tryz.func3 rfl rfl urlDrives_c80 w
        · exact one [a0, a2, a3] [(0, 5, 2), (1, 4, 0), (2, 5, 1)] (fun e he => by
            simp only [List.mem_cons, List.not_mem_nil, or_false] at he
            rcases he with rfl | rfl | rfl
            · exact ⟨b0, ⟨by decide, by decide⟩, e0_5⟩
            · exact ⟨b2, ⟨by decide, by decide⟩, e2_4⟩
            · exact ⟨b3, ⟨by decide, by decide⟩, e3_5⟩) (vs := [.int .i64 a0, .bool false, .int .i64 a2, .int .i64 a3]) Tryz.func3 rfl rfl urlDrives_c81 w
        · exact one [a0, a2, a3] [(0, 5, 2), (1, 4, 0), (2, 5, 2)] (fun e he => by
            simp only [List.mem_cons, List.not_mem_nil, or_false] at he
            rcases he with rfl | rfl | rfl
            · exact ⟨b0, ⟨by decide, by decide⟩, e0_5⟩
            · exact ⟨b2, ⟨by decide, by decide⟩, e2_4⟩
            · exact ⟨b3, ⟨by decide, by decide⟩, e3_5⟩) (vs := [.int .i64 a0, .bool false, .int .i64 a2, .int .i64 a3]) Tryz.func3 rfl rfl urlDrives_c82 w
        · exact one [a0, a2, a3] [(0, 5, 2), (1, 4, 0), (2, 5, 3)] (fun e he => by
            simp only [List.mem_cons, List.not_mem_nil, or_false] at he
            rcases he with rfl | rfl | rfl
            · exact ⟨b0, ⟨by decide, by decide⟩, e0_5⟩
            · exact ⟨b2, ⟨by decide, by decide⟩, e2_4⟩
            · exact ⟨b3, ⟨by decide, by decide⟩, e3_5⟩) (vs := [.int .i64 a0, .bool false, .int .i64 a2, .int .i64 a3]) Tryz.func3 rfl rfl urlDrives_c83 w
        · exact one [a0, a2, a3] [(0, 5, 2), (1, 4, 0), (2, 5, 4)] (fun e he => by
            simp only [List.mem_cons, List.not_mem_nil, or_false] at he
            rcases he with rfl | rfl | rfl
            · exact ⟨b0, ⟨by decide, by decide⟩, e0_5⟩
            · exact ⟨b2, ⟨by decide, by decide⟩, e2_4⟩
            · exact ⟨b3, ⟨by decide, by decide⟩, e3_5⟩) (vs := [.int .i64 a0, .bool false, .int .i64 a2, .int .i64 a3]) Tryz.func3 rfl rfl urlDrives_c84 w
      · rcases (show r3_5 = 0 ∨ r3_5 = 1 ∨ r3_5 = 2 ∨ r3_5 = 3 ∨ r3_5 = 4 by omega) with rfl | rfl | rfl | rfl | rfl
        · exact one [a0, a2, a3] [(0, 5, 2), (1, 4, 1), (2, 5, 0)] (fun e he => by
            simp only [List.mem_cons, List.not_mem_nil, or_false] at he
            rcases he with rfl | rfl | rfl
            · exact ⟨b0, ⟨by decide, by decide⟩, e0_5⟩
            · exact ⟨b2, ⟨by decide, by decide⟩, e2_4⟩
            · exact ⟨b3, ⟨by decide, by decide⟩, e3_5⟩) (vs := [.int .i64 a0, .bool false, .int .i64 a2, .int .i64 a3]) Tryz.func3 rfl rfl urlDrives_c85 w
        · exact one [a0, a2, a3] [(0, 5, 2), (1, 4, 1), (2, 5, 1)] (fun e he => by
            simp only [List.mem_cons, List.not_mem_nil, or_false] at he
            rcases he with rfl | rfl | rfl
            · exact ⟨b0, ⟨by decide, by decide⟩, e0_5⟩
            · exact ⟨b2, ⟨by decide, by decide⟩, e2_4⟩
            · exact ⟨b3, ⟨by decide, by decide⟩, e3_5⟩) (vs := [.int .i64 a0, .bool false, .int .i64 a2, .int .i64 a3]) Tryz.func3 rfl rfl urlDrives_c86 w
        · exact one [a0, a2, a3] [(0, 5, 2), (1, 4, 1), (2, 5, 2)] (fun e he => by
            simp only [List.mem_cons, List.not_mem_nil, or_false] at he
            rcases he with rfl | rfl | rfl
            · exact ⟨b0, ⟨by decide, by decide⟩, e0_5⟩
            · exact ⟨b2, ⟨by decide, by decide⟩, e2_4⟩
            · exact ⟨b3, ⟨by decide, by decide⟩, e3_5⟩) (vs := [.int .i64 a0, .bool false, .int .i64 a2, .int .i64 a3]) Tryz.func3 rfl rfl urlDrives_c87 w
        · exact one [a0, a2, a3] [(0, 5, 2), (1, 4, 1), (2, 5, 3)] (fun e he => by
            simp only [List.mem_cons, List.not_mem_nil, or_false] at he
            rcases he with rfl | rfl | rfl
            · exact ⟨b0, ⟨by decide, by decide⟩, e0_5⟩
            · exact ⟨b2, ⟨by decide, by decide⟩, e2_4⟩
            · exact ⟨b3, ⟨by decide, by decide⟩, e3_5⟩) (vs := [.int .i64 a0, .bool false, .int .i64 a2, .int .i64 a3]) Tryz.func3 rfl rfl urlDrives_c88 w
        · exact one [a0, a2, a3] [(0, 5, 2), (1, 4, 1), (2, 5, 4)] (fun e he => by
            simp only [List.mem_cons, List.not_mem_nil, or_false] at he
            rcases he with rfl | rfl | rfl
            · exact ⟨b0, ⟨by decide, by decide⟩, e0_5⟩
            · exact ⟨b2, ⟨by decide, by decide⟩, e2_4⟩
            · exact ⟨b3, ⟨by decide, by decide⟩, e3_5⟩) (vs := [.int .i64 a0, .bool false, .int .i64 a2, .int .i64 a3]) Tryz.func3 rfl rfl urlDrives_c89 w
      · rcases (show r3_5 = 0 ∨ r3_5 = 1 ∨ r3_5 = 2 ∨ r3_5 = 3 ∨ r3_5 = 4 by omega) with rfl | rfl | rfl | rfl | rfl
        · exact one [a0, a2, a3] [(0, 5, 2), (1, 4, 2), (2, 5, 0)] (fun e he => by
            simp only [List.mem_cons, List.not_mem_nil, or_false] at he
            rcases he with rfl | rfl | rfl
            · exact ⟨b0, ⟨by decide, by decide⟩, e0_5⟩
            · exact ⟨b2, ⟨by decide, by decide⟩, e2_4⟩
            · exact ⟨b3, ⟨by decide, by decide⟩, e3_5⟩) (vs := [.int .i64 a0, .bool false, .int .i64 a2, .int .i64 a3]) Tryz.func3 rfl rfl urlDrives_c90 w
        · exact one [a0, a2, a3] [(0, 5, 2), (1, 4, 2), (2, 5, 1)] (fun e he => by
            simp only [List.mem_cons, List.not_mem_nil, or_false] at he
            rcases he with rfl | rfl | rfl
            · exact ⟨b0, ⟨by decide, by decide⟩, e0_5⟩
            · exact ⟨b2, ⟨by decide, by decide⟩, e2_4⟩
            · exact ⟨b3, ⟨by decide, by decide⟩, e3_5⟩) (vs := [.int .i64 a0, .bool false, .int .i64 a2, .int .i64 a3]) Tryz.func3 rfl rfl urlDrives_c91 w
        · exact one [a0, a2, a3] [(0, 5, 2), (1, 4, 2), (2, 5, 2)] (fun e he => by
            simp only [List.mem_cons, List.not_mem_nil, or_false] at he
            rcases he with rfl | rfl | rfl
            · exact ⟨b0, ⟨by decide, by decide⟩, e0_5⟩
            · exact ⟨b2, ⟨by decide, by decide⟩, e2_4⟩
            · exact ⟨b3, ⟨by decide, by decide⟩, e3_5⟩) (vs := [.int .i64 a0, .bool false, .int .i64 a2, .int .i64 a3]) Tryz.func3 rfl rfl urlDrives_c92 w
        · exact one [a0, a2, a3] [(0, 5, 2), (1, 4, 2), (2, 5, 3)] (fun e he => by
            simp only [List.mem_cons, List.not_mem_nil, or_false] at he
            rcases he with rfl | rfl | rfl
            · exact ⟨b0, ⟨by decide, by decide⟩, e0_5⟩
            · exact ⟨b2, ⟨by decide, by decide⟩, e2_4⟩
            · exact ⟨b3, ⟨by decide, by decide⟩, e3_5⟩) (vs := [.int .i64 a0, .bool false, .int .i64 a2, .int .i64 a3]) Tryz.func3 rfl rfl urlDrives_c93 w
        · exact one [a0, a2, a3] [(0, 5, 2), (1, 4, 2), (2, 5, 4)] (fun e he => by
            simp only [List.mem_cons, List.not_mem_nil, or_false] at he
            rcases he with rfl | rfl | rfl
            · exact ⟨b0, ⟨by decide, by decide⟩, e0_5⟩
            · exact ⟨b2, ⟨by decide, by decide⟩, e2_4⟩
            · exact ⟨b3, ⟨by decide, by decide⟩, e3_5⟩) (vs := [.int .i64 a0, .bool false, .int .i64 a2, .int .i64 a3]) Tryz.func3 rfl rfl urlDrives_c94 w
      · rcases (show r3_5 = 0 ∨ r3_5 = 1 ∨ r3_5 = 2 ∨ r3_5 = 3 ∨ r3_5 = 4 by omega) with rfl | rfl | rfl | rfl | rfl
        · exact one [a0, a2, a3] [(0, 5, 2), (1, 4, 3), (2, 5, 0)] (fun e he => by
            simp only [List.mem_cons, List.not_mem_nil, or_false] at he
            rcases he with rfl | rfl | rfl
            · exact ⟨b0, ⟨by decide, by decide⟩, e0_5⟩
            · exact ⟨b2, ⟨by decide, by decide⟩, e2_4⟩
            · exact ⟨b3, ⟨by decide, by decide⟩, e3_5⟩) (vs := [.int .i64 a0, .bool false, .int .i64 a2, .int .i64 a3]) Tryz.func3 rfl rfl urlDrives_c95 w
        · exact one [a0, a2, a3] [(0, 5, 2), (1, 4, 3), (2, 5, 1)] (fun e he => by
            simp only [List.mem_cons, List.not_mem_nil, or_false] at he
            rcases he with rfl | rfl | rfl
            · exact ⟨b0, ⟨by decide, by decide⟩, e0_5⟩
            · exact ⟨b2, ⟨by decide, by decide⟩, e2_4⟩
            · exact ⟨b3, ⟨by decide, by decide⟩, e3_5⟩) (vs := [.int .i64 a0, .bool false, .int .i64 a2, .int .i64 a3]) Tryz.func3 rfl rfl urlDrives_c96 w
        · exact one [a0, a2, a3] [(0, 5, 2), (1, 4, 3), (2, 5, 2)] (fun e he => by
            simp only [List.mem_cons, List.not_mem_nil, or_false] at he
            rcases he with rfl | rfl | rfl
            · exact ⟨b0, ⟨by decide, by decide⟩, e0_5⟩
            · exact ⟨b2, ⟨by decide, by decide⟩, e2_4⟩
            · exact ⟨b3, ⟨by decide, by decide⟩, e3_5⟩) (vs := [.int .i64 a0, .bool false, .int .i64 a2, .int .i64 a3]) Tryz.func3 rfl rfl urlDrives_c97 w
        · exact one [a0, a2, a3] [(0, 5, 2), (1, 4, 3), (2, 5, 3)] (fun e he => by
            simp only [List.mem_cons, List.not_mem_nil, or_false] at he
            rcases he with rfl | rfl | rfl
            · exact ⟨b0, ⟨by decide, by decide⟩, e0_5⟩
            · exact ⟨b2, ⟨by decide, by decide⟩, e2_4⟩
            · exact ⟨b3, ⟨by decide, by decide⟩, e3_5⟩) (vs := [.int .i64 a0, .bool false, .int .i64 a2, .int .i64 a3]) Tryz.func3 rfl rfl urlDrives_c98 w
        · exact one [a0, a2, a3] [(0, 5, 2), (1, 4, 3), (2, 5, 4)] (fun e he => by
            simp only [List.mem_cons, List.not_mem_nil, or_false] at he
            rcases he with rfl | rfl | rfl
            · exact ⟨b0, ⟨by decide, by decide⟩, e0_5⟩
            · exact ⟨b2, ⟨by decide, by decide⟩, e2_4⟩
            · exact ⟨b3, ⟨by decide, by decide⟩, e3_5⟩) (vs := [.int .i64 a0, .bool false, .int .i64 a2, .int .i64 a3]) Tryz.func3 rfl rfl urlDrives_c99 w
    · rcases (show r2_4 = 0 ∨ r2_4 = 1 ∨ r2_4 = 2 ∨ r2_4 = 3 by omega) with rfl | rfl | rfl | rfl
      · rcases (show r3_5 = 0 ∨ r3_5 = 1 ∨ r3_5 = 2 ∨ r3_5 = 3 ∨ r3_5 = 4 by omega) with rfl | rfl | rfl | rfl | rfl
        · exact one [a0, a2, a3] [(0, 5, 2), (1, 4, 0), (2, 5, 0)] (fun e he => by
            simp only [List.mem_cons, List.not_mem_nil, or_false] at he
            rcases he with rfl | rfl | rfl
            · exact ⟨b0, ⟨by decide, by decide⟩, e0_5⟩
            · exact ⟨b2, ⟨by decide, by decide⟩, e2_4⟩
            · exact ⟨b3, ⟨by decide, by decide⟩, e3_5⟩) (vs := [.int .i64 a0, .bool true, .int .i64 a2, .int .i64 a3]) Tryz.func3 rfl rfl urlDrives_c100 w
        · exact one [a0, a2, a3] [(0, 5, 2), (1, 4, 0), (2, 5, 1)] (fun e he => by
            simp only [List.mem_cons, List.not_mem_nil, or_false] at he
            rcases he with rfl | rfl | rfl
            · exact ⟨b0, ⟨by decide, by decide⟩, e0_5⟩
            · exact ⟨b2, ⟨by decide, by decide⟩, e2_4⟩
            · exact ⟨b3, ⟨by decide, by decide⟩, e3_5⟩) (vs := [.int .i64 a0, .bool true, .int .i64 a2, .int .i64 a3]) Tryz.func3 rfl rfl urlDrives_c101 w
        · exact one [a0, a2, a3] [(0, 5, 2), (1, 4, 0), (2, 5, 2)] (fun e he => by
            simp only [List.mem_cons, List.not_mem_nil, or_false] at he
            rcases he with rfl | rfl | rfl
            · exact ⟨b0, ⟨by decide, by decide⟩, e0_5⟩
            · exact ⟨b2, ⟨by decide, by decide⟩, e2_4⟩
            · exact ⟨b3, ⟨by decide, by decide⟩, e3_5⟩) (vs := [.int .i64 a0, .bool true, .int .i64 a2, .int .i64 a3]) Tryz.func3 rfl rfl urlDrives_c102 w
        · exact one [a0, a2, a3] [(0, 5, 2), (1, 4, 0), (2, 5, 3)] (fun e he => by
            simp only [List.mem_cons, List.not_mem_nil, or_false] at he
            rcases he with rfl | rfl | rfl
            · exact ⟨b0, ⟨by decide, by decide⟩, e0_5⟩
            · exact ⟨b2, ⟨by decide, by decide⟩, e2_4⟩
            · exact ⟨b3, ⟨by decide, by decide⟩, e3_5⟩) (vs := [.int .i64 a0, .bool true, .int .i64 a2, .int .i64 a3]) Tryz.func3 rfl rfl urlDrives_c103 w
        · exact one [a0, a2, a3] [(0, 5, 2), (1, 4, 0), (2, 5, 4)] (fun e he => by
            simp only [List.mem_cons, List.not_mem_nil, or_false] at he
            rcases he with rfl | rfl | rfl
            · exact ⟨b0, ⟨by decide, by decide⟩, e0_5⟩
            · exact ⟨b2, ⟨by decide, by decide⟩, e2_4⟩
            · exact ⟨b3, ⟨by decide, by decide⟩, e3_5⟩) (vs := [.int .i64 a0, .bool true, .int .i64 a2, .int .i64 a3]) Tryz.func3 rfl rfl urlDrives_c104 w
      · rcases (show r3_5 = 0 ∨ r3_5 = 1 ∨ r3_5 = 2 ∨ r3_5 = 3 ∨ r3_5 = 4 by omega) with rfl | rfl | rfl | rfl | rfl
        · exact one [a0, a2, a3] [(0, 5, 2), (1, 4, 1), (2, 5, 0)] (fun e he => by
            simp only [List.mem_cons, List.not_mem_nil, or_false] at he
            rcases he with rfl | rfl | rfl
            · exact ⟨b0, ⟨by decide, by decide⟩, e0_5⟩
            · exact ⟨b2, ⟨by decide, by decide⟩, e2_4⟩
            · exact ⟨b3, ⟨by decide, by decide⟩, e3_5⟩) (vs := [.int .i64 a0, .bool true, .int .i64 a2, .int .i64 a3]) Tryz.func3 rfl rfl urlDrives_c105 w
        · exact one [a0, a2, a3] [(0, 5, 2), (1, 4, 1), (2, 5, 1)] (fun e he => by
            simp only [List.mem_cons, List.not_mem_nil, or_false] at he
            rcases he with rfl | rfl | rfl
            · exact ⟨b0, ⟨by decide, by decide⟩, e0_5⟩
            · exact ⟨b2, ⟨by decide, by decide⟩, e2_4⟩
            · exact ⟨b3, ⟨by decide, by decide⟩, e3_5⟩) (vs := [.int .i64 a0, .bool true, .int .i64 a2, .int .i64 a3]) Tryz.func3 rfl rfl urlDrives_c106 w
        · exact one [a0, a2, a3] [(0, 5, 2), (1, 4, 1), (2, 5, 2)] (fun e he => by
            simp only [List.mem_cons, List.not_mem_nil, or_false] at he
            rcases he with rfl | rfl | rfl
            · exact ⟨b0, ⟨by decide, by decide⟩, e0_5⟩
            · exact ⟨b2, ⟨by decide, by decide⟩, e2_4⟩
            · exact ⟨b3, ⟨by decide, by decide⟩, e3_5⟩) (vs := [.int .i64 a0, .bool true, .int .i64 a2, .int .i64 a3]) Tryz.func3 rfl rfl urlDrives_c107 w
        · exact one [a0, a2, a3] [(0, 5, 2), (1, 4, 1), (2, 5, 3)] (fun e he => by
            simp only [List.mem_cons, List.not_mem_nil, or_false] at he
            rcases he with rfl | rfl | rfl
            · exact ⟨b0, ⟨by decide, by decide⟩, e0_5⟩
            · exact ⟨b2, ⟨by decide, by decide⟩, e2_4⟩
            · exact ⟨b3, ⟨by decide, by decide⟩, e3_5⟩) (vs := [.int .i64 a0, .bool true, .int .i64 a2, .int .i64 a3]) Tryz.func3 rfl rfl urlDrives_c108 w
        · exact one [a0, a2, a3] [(0, 5, 2), (1, 4, 1), (2, 5, 4)] (fun e he => by
            simp only [List.mem_cons, List.not_mem_nil, or_false] at he
            rcases he with rfl | rfl | rfl
            · exact ⟨b0, ⟨by decide, by decide⟩, e0_5⟩
            · exact ⟨b2, ⟨by decide, by decide⟩, e2_4⟩
            · exact ⟨b3, ⟨by decide, by decide⟩, e3_5⟩) (vs := [.int .i64 a0, .bool true, .int .i64 a2, .int .i64 a3]) Tryz.func3 rfl rfl urlDrives_c109 w
      · rcases (show r3_5 = 0 ∨ r3_5 = 1 ∨ r3_5 = 2 ∨ r3_5 = 3 ∨ r3_5 = 4 by omega) with rfl | rfl | rfl | rfl | rfl
        · exact one [a0, a2, a3] [(0, 5, 2), (1, 4, 2), (2, 5, 0)] (fun e he => by
            simp only [List.mem_cons, List.not_mem_nil, or_false] at he
            rcases he with rfl | rfl | rfl
            · exact ⟨b0, ⟨by decide, by decide⟩, e0_5⟩
            · exact ⟨b2, ⟨by decide, by decide⟩, e2_4⟩
            · exact ⟨b3, ⟨by decide, by decide⟩, e3_5⟩) (vs := [.int .i64 a0, .bool true, .int .i64 a2, .int .i64 a3]) Tryz.func3 rfl rfl urlDrives_c110 w
        · exact one [a0, a2, a3] [(0, 5, 2), (1, 4, 2), (2, 5, 1)] (fun e he => by
            simp only [List.mem_cons, List.not_mem_nil, or_false] at he
            rcases he with rfl | rfl | rfl
            · exact ⟨b0, ⟨by decide, by decide⟩, e0_5⟩
            · exact ⟨b2, ⟨by decide, by decide⟩, e2_4⟩
            · exact ⟨b3, ⟨by decide, by decide⟩, e3_5⟩) (vs := [.int .i64 a0, .bool true, .int .i64 a2, .int .i64 a3]) Tryz.func3 rfl rfl urlDrives_c111 w
        · exact one [a0, a2, a3] [(0, 5, 2), (1, 4, 2), (2, 5, 2)] (fun e he => by
            simp only [List.mem_cons, List.not_mem_nil, or_false] at he
            rcases he with rfl | rfl | rfl
            · exact ⟨b0, ⟨by decide, by decide⟩, e0_5⟩
            · exact ⟨b2, ⟨by decide, by decide⟩, e2_4⟩
            · exact ⟨b3, ⟨by decide, by decide⟩, e3_5⟩) (vs := [.int .i64 a0, .bool true, .int .i64 a2, .int .i64 a3]) Tryz.func3 rfl rfl urlDrives_c112 w
        · exact one [a0, a2, a3] [(0, 5, 2), (1, 4, 2), (2, 5, 3)] (fun e he => by
            simp only [List.mem_cons, List.not_mem_nil, or_false] at he
            rcases he with rfl | rfl | rfl
            · exact ⟨b0, ⟨by decide, by decide⟩, e0_5⟩
            · exact ⟨b2, ⟨by decide, by decide⟩, e2_4⟩
            · exact ⟨b3, ⟨by decide, by decide⟩, e3_5⟩) (vs := [.int .i64 a0, .bool true, .int .i64 a2, .int .i64 a3]) Tryz.func3 rfl rfl urlDrives_c113 w
        · exact one [a0, a2, a3] [(0, 5, 2), (1, 4, 2), (2, 5, 4)] (fun e he => by
            simp only [List.mem_cons, List.not_mem_nil, or_false] at he
            rcases he with rfl | rfl | rfl
            · exact ⟨b0, ⟨by decide, by decide⟩, e0_5⟩
            · exact ⟨b2, ⟨by decide, by decide⟩, e2_4⟩
            · exact ⟨b3, ⟨by decide, by decide⟩, e3_5⟩) (vs := [.int .i64 a0, .bool true, .int .i64 a2, .int .i64 a3]) Tryz.func3 rfl rfl urlDrives_c114 w
      · rcases (show r3_5 = 0 ∨ r3_5 = 1 ∨ r3_5 = 2 ∨ r3_5 = 3 ∨ r3_5 = 4 by omega) with rfl | rfl | rfl | rfl | rfl
        · exact one [a0, a2, a3] [(0, 5, 2), (1, 4, 3), (2, 5, 0)] (fun e he => by
            simp only [List.mem_cons, List.not_mem_nil, or_false] at he
            rcases he with rfl | rfl | rfl
            · exact ⟨b0, ⟨by decide, by decide⟩, e0_5⟩
            · exact ⟨b2, ⟨by decide, by decide⟩, e2_4⟩
            · exact ⟨b3, ⟨by decide, by decide⟩, e3_5⟩) (vs := [.int .i64 a0, .bool true, .int .i64 a2, .int .i64 a3]) Tryz.func3 rfl rfl urlDrives_c115 w
        · exact one [a0, a2, a3] [(0, 5, 2), (1, 4, 3), (2, 5, 1)] (fun e he => by
            simp only [List.mem_cons, List.not_mem_nil, or_false] at he
            rcases he with rfl | rfl | rfl
            · exact ⟨b0, ⟨by decide, by decide⟩, e0_5⟩
            · exact ⟨b2, ⟨by decide, by decide⟩, e2_4⟩
            · exact ⟨b3, ⟨by decide, by decide⟩, e3_5⟩) (vs := [.int .i64 a0, .bool true, .int .i64 a2, .int .i64 a3]) Tryz.func3 rfl rfl urlDrives_c116 w
        · exact one [a0, a2, a3] [(0, 5, 2), (1, 4, 3), (2, 5, 2)] (fun e he => by
            simp only [List.mem_cons, List.not_mem_nil, or_false] at he
            rcases he with rfl | rfl | rfl
            · exact ⟨b0, ⟨by decide, by decide⟩, e0_5⟩
            · exact ⟨b2, ⟨by decide, by decide⟩, e2_4⟩
            · exact ⟨b3, ⟨by decide, by decide⟩, e3_5⟩) (vs := [.int .i64 a0, .bool true, .int .i64 a2, .int .i64 a3]) Tryz.func3 rfl rfl urlDrives_c117 w
        · exact one [a0, a2, a3] [(0, 5, 2), (1, 4, 3), (2, 5, 3)] (fun e he => by
            simp only [List.mem_cons, List.not_mem_nil, or_false] at he
            rcases he with rfl | rfl | rfl
            · exact ⟨b0, ⟨by decide, by decide⟩, e0_5⟩
            · exact ⟨b2, ⟨by decide, by decide⟩, e2_4⟩
            · exact ⟨b3, ⟨by decide, by decide⟩, e3_5⟩) (vs := [.int .i64 a0, .bool true, .int .i64 a2, .int .i64 a3]) Tryz.func3 rfl rfl urlDrives_c118 w
        · exact one [a0, a2, a3] [(0, 5, 2), (1, 4, 3), (2, 5, 4)] (fun e he => by
            simp only [List.mem_cons, List.not_mem_nil, or_false] at he
            rcases he with rfl | rfl | rfl
            · exact ⟨b0, ⟨by decide, by decide⟩, e0_5⟩
            · exact ⟨b2, ⟨by decide, by decide⟩, e2_4⟩
            · exact ⟨b3, ⟨by decide, by decide⟩, e3_5⟩) (vs := [.int .i64 a0, .bool true, .int .i64 a2, .int .i64 a3]) Tryz.func3 rfl rfl urlDrives_c119 w
  · cases a1
    · rcases (show r2_4 = 0 ∨ r2_4 = 1 ∨ r2_4 = 2 ∨ r2_4 = 3 by omega) with rfl | rfl | rfl | rfl
      · rcases (show r3_5 = 0 ∨ r3_5 = 1 ∨ r3_5 = 2 ∨ r3_5 = 3 ∨ r3_5 = 4 by omega) with rfl | rfl | rfl | rfl | rfl
        · exact one [a0, a2, a3] [(0, 5, 3), (1, 4, 0), (2, 5, 0)] (fun e he => by
            simp only [List.mem_cons, List.not_mem_nil, or_false] at he
            rcases he with rfl | rfl | rfl
            · exact ⟨b0, ⟨by decide, by decide⟩, e0_5⟩
            · exact ⟨b2, ⟨by decide, by decide⟩, e2_4⟩
            · exact ⟨b3, ⟨by decide, by decide⟩, e3_5⟩) (vs := [.int .i64 a0, .bool false, .int .i64 a2, .int .i64 a3]) Tryz.func3 rfl rfl urlDrives_c120 w
        · exact one [a0, a2, a3] [(0, 5, 3), (1, 4, 0), (2, 5, 1)] (fun e he => by
            simp only [List.mem_cons, List.not_mem_nil, or_false] at he
            rcases he with rfl | rfl | rfl
            · exact ⟨b0, ⟨by decide, by decide⟩, e0_5⟩
            · exact ⟨b2, ⟨by decide, by decide⟩, e2_4⟩
            · exact ⟨b3, ⟨by decide, by decide⟩, e3_5⟩) (vs := [.int .i64 a0, .bool false, .int .i64 a2, .int .i64 a3]) Tryz.func3 rfl rfl urlDrives_c121 w
        · exact one [a0, a2, a3] [(0, 5, 3), (1, 4, 0), (2, 5, 2)] (fun e he => by
            simp only [List.mem_cons, List.not_mem_nil, or_false] at he
            rcases he with rfl | rfl | rfl
            · exact ⟨b0, ⟨by decide, by decide⟩, e0_5⟩
            · exact ⟨b2, ⟨by decide, by decide⟩, e2_4⟩
            · exact ⟨b3, ⟨by decide, by decide⟩, e3_5⟩) (vs := [.int .i64 a0, .bool false, .int .i64 a2, .int .i64 a3]) Tryz.func3 rfl rfl urlDrives_c122 w
        · exact one [a0, a2, a3] [(0, 5, 3), (1, 4, 0), (2, 5, 3)] (fun e he => by
            simp only [List.mem_cons, List.not_mem_nil, or_false] at he
            rcases he with rfl | rfl | rfl
            · exact ⟨b0, ⟨by decide, by decide⟩, e0_5⟩
            · exact ⟨b2, ⟨by decide, by decide⟩, e2_4⟩
            · exact ⟨b3, ⟨by decide, by decide⟩, e3_5⟩) (vs := [.int .i64 a0, .bool false, .int .i64 a2, .int .i64 a3]) Tryz.func3 rfl rfl urlDrives_c123 w
        · exact one [a0, a2, a3] [(0, 5, 3), (1, 4, 0), (2, 5, 4)] (fun e he => by
            simp only [List.mem_cons, List.not_mem_nil, or_false] at he
            rcases he with rfl | rfl | rfl
            · exact ⟨b0, ⟨by decide, by decide⟩, e0_5⟩
            · exact ⟨b2, ⟨by decide, by decide⟩, e2_4⟩
            · exact ⟨b3, ⟨by decide, by decide⟩, e3_5⟩) (vs := [.int .i64 a0, .bool false, .int .i64 a2, .int .i64 a3]) Tryz.func3 rfl rfl urlDrives_c124 w
      · rcases (show r3_5 = 0 ∨ r3_5 = 1 ∨ r3_5 = 2 ∨ r3_5 = 3 ∨ r3_5 = 4 by omega) with rfl | rfl | rfl | rfl | rfl
        · exact one [a0, a2, a3] [(0, 5, 3), (1, 4, 1), (2, 5, 0)] (fun e he => by
            simp only [List.mem_cons, List.not_mem_nil, or_false] at he
            rcases he with rfl | rfl | rfl
            · exact ⟨b0, ⟨by decide, by decide⟩, e0_5⟩
            · exact ⟨b2, ⟨by decide, by decide⟩, e2_4⟩
            · exact ⟨b3, ⟨by decide, by decide⟩, e3_5⟩) (vs := [.int .i64 a0, .bool false, .int .i64 a2, .int .i64 a3]) Tryz.func3 rfl rfl urlDrives_c125 w
        · exact one [a0, a2, a3] [(0, 5, 3), (1, 4, 1), (2, 5, 1)] (fun e he => by
            simp only [List.mem_cons, List.not_mem_nil, or_false] at he
            rcases he with rfl | rfl | rfl
            · exact ⟨b0, ⟨by decide, by decide⟩, e0_5⟩
            · exact ⟨b2, ⟨by decide, by decide⟩, e2_4⟩
            · exact ⟨b3, ⟨by decide, by decide⟩, e3_5⟩) (vs := [.int .i64 a0, .bool false, .int .i64 a2, .int .i64 a3]) Tryz.func3 rfl rfl urlDrives_c126 w
        · exact one [a0, a2, a3] [(0, 5, 3), (1, 4, 1), (2, 5, 2)] (fun e he => by
            simp only [List.mem_cons, List.not_mem_nil, or_false] at he
            rcases he with rfl | rfl | rfl
            · exact ⟨b0, ⟨by decide, by decide⟩, e0_5⟩
            · exact ⟨b2, ⟨by decide, by decide⟩, e2_4⟩
            · exact ⟨b3, ⟨by decide, by decide⟩, e3_5⟩) (vs := [.int .i64 a0, .bool false, .int .i64 a2, .int .i64 a3]) Tryz.func3 rfl rfl urlDrives_c127 w
        · exact one [a0, a2, a3] [(0, 5, 3), (1, 4, 1), (2, 5, 3)] (fun e he => by
            simp only [List.mem_cons, List.not_mem_nil, or_false] at he
            rcases he with rfl | rfl | rfl
            · exact ⟨b0, ⟨by decide, by decide⟩, e0_5⟩
            · exact ⟨b2, ⟨by decide, by decide⟩, e2_4⟩
            · exact ⟨b3, ⟨by decide, by decide⟩, e3_5⟩) (vs := [.int .i64 a0, .bool false, .int .i64 a2, .int .i64 a3]) Tryz.func3 rfl rfl urlDrives_c128 w
        · exact one [a0, a2, a3] [(0, 5, 3), (1, 4, 1), (2, 5, 4)] (fun e he => by
            simp only [List.mem_cons, List.not_mem_nil, or_false] at he
            rcases he with rfl | rfl | rfl
            · exact ⟨b0, ⟨by decide, by decide⟩, e0_5⟩
            · exact ⟨b2, ⟨by decide, by decide⟩, e2_4⟩
            · exact ⟨b3, ⟨by decide, by decide⟩, e3_5⟩) (vs := [.int .i64 a0, .bool false, .int .i64 a2, .int .i64 a3]) Tryz.func3 rfl rfl urlDrives_c129 w
      · rcases (show r3_5 = 0 ∨ r3_5 = 1 ∨ r3_5 = 2 ∨ r3_5 = 3 ∨ r3_5 = 4 by omega) with rfl | rfl | rfl | rfl | rfl
        · exact one [a0, a2, a3] [(0, 5, 3), (1, 4, 2), (2, 5, 0)] (fun e he => by
            simp only [List.mem_cons, List.not_mem_nil, or_false] at he
            rcases he with rfl | rfl | rfl
            · exact ⟨b0, ⟨by decide, by decide⟩, e0_5⟩
            · exact ⟨b2, ⟨by decide, by decide⟩, e2_4⟩
            · exact ⟨b3, ⟨by decide, by decide⟩, e3_5⟩) (vs := [.int .i64 a0, .bool false, .int .i64 a2, .int .i64 a3]) Tryz.func3 rfl rfl urlDrives_c130 w
        · exact one [a0, a2, a3] [(0, 5, 3), (1, 4, 2), (2, 5, 1)] (fun e he => by
            simp only [List.mem_cons, List.not_mem_nil, or_false] at he
            rcases he with rfl | rfl | rfl
            · exact ⟨b0, ⟨by decide, by decide⟩, e0_5⟩
            · exact ⟨b2, ⟨by decide, by decide⟩, e2_4⟩
            · exact ⟨b3, ⟨by decide, by decide⟩, e3_5⟩) (vs := [.int .i64 a0, .bool false, .int .i64 a2, .int .i64 a3]) Tryz.func3 rfl rfl urlDrives_c131 w
        · exact one [a0, a2, a3] [(0, 5, 3), (1, 4, 2), (2, 5, 2)] (fun e he => by
            simp only [List.mem_cons, List.not_mem_nil, or_false] at he
            rcases he with rfl | rfl | rfl
            · exact ⟨b0, ⟨by decide, by decide⟩, e0_5⟩
            · exact ⟨b2, ⟨by decide, by decide⟩, e2_4⟩
            · exact ⟨b3, ⟨by decide, by decide⟩, e3_5⟩) (vs := [.int .i64 a0, .bool false, .int .i64 a2, .int .i64 a3]) Tryz.func3 rfl rfl urlDrives_c132 w
        · exact one [a0, a2, a3] [(0, 5, 3), (1, 4, 2), (2, 5, 3)] (fun e he => by
            simp only [List.mem_cons, List.not_mem_nil, or_false] at he
            rcases he with rfl | rfl | rfl
            · exact ⟨b0, ⟨by decide, by decide⟩, e0_5⟩
            · exact ⟨b2, ⟨by decide, by decide⟩, e2_4⟩
            · exact ⟨b3, ⟨by decide, by decide⟩, e3_5⟩) (vs := [.int .i64 a0, .bool false, .int .i64 a2, .int .i64 a3]) Tryz.func3 rfl rfl urlDrives_c133 w
        · exact one [a0, a2, a3] [(0, 5, 3), (1, 4, 2), (2, 5, 4)] (fun e he => by
            simp only [List.mem_cons, List.not_mem_nil, or_false] at he
            rcases he with rfl | rfl | rfl
            · exact ⟨b0, ⟨by decide, by decide⟩, e0_5⟩
            · exact ⟨b2, ⟨by decide, by decide⟩, e2_4⟩
            · exact ⟨b3, ⟨by decide, by decide⟩, e3_5⟩) (vs := [.int .i64 a0, .bool false, .int .i64 a2, .int .i64 a3]) Tryz.func3 rfl rfl urlDrives_c134 w
      · rcases (show r3_5 = 0 ∨ r3_5 = 1 ∨ r3_5 = 2 ∨ r3_5 = 3 ∨ r3_5 = 4 by omega) with rfl | rfl | rfl | rfl | rfl
        · exact one [a0, a2, a3] [(0, 5, 3), (1, 4, 3), (2, 5, 0)] (fun e he => by
            simp only [List.mem_cons, List.not_mem_nil, or_false] at he
            rcases he with rfl | rfl | rfl
            · exact ⟨b0, ⟨by decide, by decide⟩, e0_5⟩
            · exact ⟨b2, ⟨by decide, by decide⟩, e2_4⟩
            · exact ⟨b3, ⟨by decide, by decide⟩, e3_5⟩) (vs := [.int .i64 a0, .bool false, .int .i64 a2, .int .i64 a3]) Tryz.func3 rfl rfl urlDrives_c135 w
        · exact one [a0, a2, a3] [(0, 5, 3), (1, 4, 3), (2, 5, 1)] (fun e he => by
            simp only [List.mem_cons, List.not_mem_nil, or_false] at he
            rcases he with rfl | rfl | rfl
            · exact ⟨b0, ⟨by decide, by decide⟩, e0_5⟩
            · exact ⟨b2, ⟨by decide, by decide⟩, e2_4⟩
            · exact ⟨b3, ⟨by decide, by decide⟩, e3_5⟩) (vs := [.int .i64 a0, .bool false, .int .i64 a2, .int .i64 a3]) Tryz.func3 rfl rfl urlDrives_c136 w
        · exact one [a0, a2, a3] [(0, 5, 3), (1, 4, 3), (2, 5, 2)] (fun e he => by
            simp only [List.mem_cons, List.not_mem_nil, or_false] at he
            rcases he with rfl | rfl | rfl
            · exact ⟨b0, ⟨by decide, by decide⟩, e0_5⟩
            · exact ⟨b2, ⟨by decide, by decide⟩, e2_4⟩
            · exact ⟨b3, ⟨by decide, by decide⟩, e3_5⟩) (vs := [.int .i64 a0, .bool false, .int .i64 a2, .int .i64 a3]) Tryz.func3 rfl rfl urlDrives_c137 w
        · exact one [a0, a2, a3] [(0, 5, 3), (1, 4, 3), (2, 5, 3)] (fun e he => by
            simp only [List.mem_cons, List.not_mem_nil, or_false] at he
            rcases he with rfl | rfl | rfl
            · exact ⟨b0, ⟨by decide, by decide⟩, e0_5⟩
            · exact ⟨b2, ⟨by decide, by decide⟩, e2_4⟩
            · exact ⟨b3, ⟨by decide, by decide⟩, e3_5⟩) (vs := [.int .i64 a0, .bool false, .int .i64 a2, .int .i64 a3]) Tryz.func3 rfl rfl urlDrives_c138 w
        · exact one [a0, a2, a3] [(0, 5, 3), (1, 4, 3), (2, 5, 4)] (fun e he => by
            simp only [List.mem_cons, List.not_mem_nil, or_false] at he
            rcases he with rfl | rfl | rfl
            · exact ⟨b0, ⟨by decide, by decide⟩, e0_5⟩
            · exact ⟨b2, ⟨by decide, by decide⟩, e2_4⟩
            · exact ⟨b3, ⟨by decide, by decide⟩, e3_5⟩) (vs := [.int .i64 a0, .bool false, .int .i64 a2, .int .i64 a3]) Tryz.func3 rfl rfl urlDrives_c139 w
    · rcases (show r2_4 = 0 ∨ r2_4 = 1 ∨ r2_4 = 2 ∨ r2_4 = 3 by omega) with rfl | rfl | rfl | rfl
      · rcases (show r3_5 = 0 ∨ r3_5 = 1 ∨ r3_5 = 2 ∨ r3_5 = 3 ∨ r3_5 = 4 by omega) with rfl | rfl | rfl | rfl | rfl
        · exact one [a0, a2, a3] [(0, 5, 3), (1, 4, 0), (2, 5, 0)] (fun e he => by
            simp only [List.mem_cons, List.not_mem_nil, or_false] at he
            rcases he with rfl | rfl | rfl
            · exact ⟨b0, ⟨by decide, by decide⟩, e0_5⟩
            · exact ⟨b2, ⟨by decide, by decide⟩, e2_4⟩
            · exact ⟨b3, ⟨by decide, by decide⟩, e3_5⟩) (vs := [.int .i64 a0, .bool true, .int .i64 a2, .int .i64 a3]) Tryz.func3 rfl rfl urlDrives_c140 w
        · exact one [a0, a2, a3] [(0, 5, 3), (1, 4, 0), (2, 5, 1)] (fun e he => by
            simp only [List.mem_cons, List.not_mem_nil, or_false] at he
            rcases he with rfl | rfl | rfl
            · exact ⟨b0, ⟨by decide, by decide⟩, e0_5⟩
            · exact ⟨b2, ⟨by decide, by decide⟩, e2_4⟩
            · exact ⟨b3, ⟨by decide, by decide⟩, e3_5⟩) (vs := [.int .i64 a0, .bool true, .int .i64 a2, .int .i64 a3]) Tryz.func3 rfl rfl urlDrives_c141 w
        · exact one [a0, a2, a3] [(0, 5, 3), (1, 4, 0), (2, 5, 2)] (fun e he => by
            simp only [List.mem_cons, List.not_mem_nil, or_false] at he
            rcases he with rfl | rfl | rfl
            · exact ⟨b0, ⟨by decide, by decide⟩, e0_5⟩
            · exact ⟨b2, ⟨by decide, by decide⟩, e2_4⟩
            · exact ⟨b3, ⟨by decide, by decide⟩, e3_5⟩) (vs := [.int .i64 a0, .bool true, .int .i64 a2, .int .i64 a3]) Tryz.func3 rfl rfl urlDrives_c142 w
        · exact one [a0, a2, a3] [(0, 5, 3), (1, 4, 0), (2, 5, 3)] (fun e he => by
            simp only [List.mem_cons, List.not_mem_nil, or_false] at he
            rcases he with rfl | rfl | rfl
            · exact ⟨b0, ⟨by decide, by decide⟩, e0_5⟩
            · exact ⟨b2, ⟨by decide, by decide⟩, e2_4⟩
            · exact ⟨b3, ⟨by decide, by decide⟩, e3_5⟩) (vs := [.int .i64 a0, .bool true, .int .i64 a2, .int .i64 a3]) Tryz.func3 rfl rfl urlDrives_c143 w
        · exact one [a0, a2, a3] [(0, 5, 3), (1, 4, 0), (2, 5, 4)] (fun e he => by
            simp only [List.mem_cons, List.not_mem_nil, or_false] at he
            rcases he with rfl | rfl | rfl
            · exact ⟨b0, ⟨by decide, by decide⟩, e0_5⟩
            · exact ⟨b2, ⟨by decide, by decide⟩, e2_4⟩
            · exact ⟨b3, ⟨by decide, by decide⟩, e3_5⟩) (vs := [.int .i64 a0, .bool true, .int .i64 a2, .int .i64 a3]) Tryz.func3 rfl rfl urlDrives_c144 w
      · rcases (show r3_5 = 0 ∨ r3_5 = 1 ∨ r3_5 = 2 ∨ r3_5 = 3 ∨ r3_5 = 4 by omega) with rfl | rfl | rfl | rfl | rfl
        · exact one [a0, a2, a3] [(0, 5, 3), (1, 4, 1), (2, 5, 0)] (fun e he => by
            simp only [List.mem_cons, List.not_mem_nil, or_false] at he
            rcases he with rfl | rfl | rfl
            · exact ⟨b0, ⟨by decide, by decide⟩, e0_5⟩
            · exact ⟨b2, ⟨by decide, by decide⟩, e2_4⟩
            · exact ⟨b3, ⟨by decide, by decide⟩, e3_5⟩) (vs := [.int .i64 a0, .bool true, .int .i64 a2, .int .i64 a3]) Tryz.func3 rfl rfl urlDrives_c145 w
        · exact one [a0, a2, a3] [(0, 5, 3), (1, 4, 1), (2, 5, 1)] (fun e he => by
            simp only [List.mem_cons, List.not_mem_nil, or_false] at he
            rcases he with rfl | rfl | rfl
            · exact ⟨b0, ⟨by decide, by decide⟩, e0_5⟩
            · exact ⟨b2, ⟨by decide, by decide⟩, e2_4⟩
            · exact ⟨b3, ⟨by decide, by decide⟩, e3_5⟩) (vs := [.int .i64 a0, .bool true, .int .i64 a2, .int .i64 a3]) Tryz.func3 rfl rfl urlDrives_c146 w
        · exact one [a0, a2, a3] [(0, 5, 3), (1, 4, 1), (2, 5, 2)] (fun e he => by
            simp only [List.mem_cons, List.not_mem_nil, or_false] at he
            rcases he with rfl | rfl | rfl
            · exact ⟨b0, ⟨by decide, by decide⟩, e0_5⟩
            · exact ⟨b2, ⟨by decide, by decide⟩, e2_4⟩
            · exact ⟨b3, ⟨by decide, by decide⟩, e3_5⟩) (vs := [.int .i64 a0, .bool true, .int .i64 a2, .int .i64 a3]) Tryz.func3 rfl rfl urlDrives_c147 w
        · exact one [a0, a2, a3] [(0, 5, 3), (1, 4, 1), (2, 5, 3)] (fun e he => by
            simp only [List.mem_cons, List.not_mem_nil, or_false] at he
            rcases he with rfl | rfl | rfl
            · exact ⟨b0, ⟨by decide, by decide⟩, e0_5⟩
            · exact ⟨b2, ⟨by decide, by decide⟩, e2_4⟩
            · exact ⟨b3, ⟨by decide, by decide⟩, e3_5⟩) (vs := [.int .i64 a0, .bool true, .int .i64 a2, .int .i64 a3]) Tryz.func3 rfl rfl urlDrives_c148 w
        · exact one [a0, a2, a3] [(0, 5, 3), (1, 4, 1), (2, 5, 4)] (fun e he => by
            simp only [List.mem_cons, List.not_mem_nil, or_false] at he
            rcases he with rfl | rfl | rfl
            · exact ⟨b0, ⟨by decide, by decide⟩, e0_5⟩
            · exact ⟨b2, ⟨by decide, by decide⟩, e2_4⟩
            · exact ⟨b3, ⟨by decide, by decide⟩, e3_5⟩) (vs := [.int .i64 a0, .bool true, .int .i64 a2, .int .i64 a3]) Tryz.func3 rfl rfl urlDrives_c149 w
      · rcases (show r3_5 = 0 ∨ r3_5 = 1 ∨ r3_5 = 2 ∨ r3_5 = 3 ∨ r3_5 = 4 by omega) with rfl | rfl | rfl | rfl | rfl
        · exact one [a0, a2, a3] [(0, 5, 3), (1, 4, 2), (2, 5, 0)] (fun e he => by
            simp only [List.mem_cons, List.not_mem_nil, or_false] at he
            rcases he with rfl | rfl | rfl
            · exact ⟨b0, ⟨by decide, by decide⟩, e0_5⟩
            · exact ⟨b2, ⟨by decide, by decide⟩, e2_4⟩
            · exact ⟨b3, ⟨by decide, by decide⟩, e3_5⟩) (vs := [.int .i64 a0, .bool true, .int .i64 a2, .int .i64 a3]) Tryz.func3 rfl rfl urlDrives_c150 w
        · exact one [a0, a2, a3] [(0, 5, 3), (1, 4, 2), (2, 5, 1)] (fun e he => by
            simp only [List.mem_cons, List.not_mem_nil, or_false] at he
            rcases he with rfl | rfl | rfl
            · exact ⟨b0, ⟨by decide, by decide⟩, e0_5⟩
            · exact ⟨b2, ⟨by decide, by decide⟩, e2_4⟩
            · exact ⟨b3, ⟨by decide, by decide⟩, e3_5⟩) (vs := [.int .i64 a0, .bool true, .int .i64 a2, .int .i64 a3]) Tryz.func3 rfl rfl urlDrives_c151 w
        · exact one [a0, a2, a3] [(0, 5, 3), (1, 4, 2), (2, 5, 2)] (fun e he => by
            simp only [List.mem_cons, List.not_mem_nil, or_false] at he
            rcases he with rfl | rfl | rfl
            · exact ⟨b0, ⟨by decide, by decide⟩, e0_5⟩
            · exact ⟨b2, ⟨by decide, by decide⟩, e2_4⟩
            · exact ⟨b3, ⟨by decide, by decide⟩, e3_5⟩) (vs := [.int .i64 a0, .bool true, .int .i64 a2, .int .i64 a3]) Tryz.func3 rfl rfl urlDrives_c152 w
        · exact one [a0, a2, a3] [(0, 5, 3), (1, 4, 2), (2, 5, 3)] (fun e he => by
            simp only [List.mem_cons, List.not_mem_nil, or_false] at he
            rcases he with rfl | rfl | rfl
            · exact ⟨b0, ⟨by decide, by decide⟩, e0_5⟩
            · exact ⟨b2, ⟨by decide, by decide⟩, e2_4⟩
            · exact ⟨b3, ⟨by decide, by decide⟩, e3_5⟩) (vs := [.int .i64 a0, .bool true, .int .i64 a2, .int .i64 a3]) Tryz.func3 rfl rfl urlDrives_c153 w
        · exact one [a0, a2, a3] [(0, 5, 3), (1, 4, 2), (2, 5, 4)] (fun e he => by
            simp only [List.mem_cons, List.not_mem_nil, or_false] at he
            rcases he with rfl | rfl | rfl
            · exact ⟨b0, ⟨by decide, by decide⟩, e0_5⟩
            · exact ⟨b2, ⟨by decide, by decide⟩, e2_4⟩
            · exact ⟨b3, ⟨by decide, by decide⟩, e3_5⟩) (vs := [.int .i64 a0, .bool true, .int .i64 a2, .int .i64 a3]) Tryz.func3 rfl rfl urlDrives_c154 w
      · rcases (show r3_5 = 0 ∨ r3_5 = 1 ∨ r3_5 = 2 ∨ r3_5 = 3 ∨ r3_5 = 4 by omega) with rfl | rfl | rfl | rfl | rfl
        · exact one [a0, a2, a3] [(0, 5, 3), (1, 4, 3), (2, 5, 0)] (fun e he => by
            simp only [List.mem_cons, List.not_mem_nil, or_false] at he
            rcases he with rfl | rfl | rfl
            · exact ⟨b0, ⟨by decide, by decide⟩, e0_5⟩
            · exact ⟨b2, ⟨by decide, by decide⟩, e2_4⟩
            · exact ⟨b3, ⟨by decide, by decide⟩, e3_5⟩) (vs := [.int .i64 a0, .bool true, .int .i64 a2, .int .i64 a3]) Tryz.func3 rfl rfl urlDrives_c155 w
        · exact one [a0, a2, a3] [(0, 5, 3), (1, 4, 3), (2, 5, 1)] (fun e he => by
            simp only [List.mem_cons, List.not_mem_nil, or_false] at he
            rcases he with rfl | rfl | rfl
            · exact ⟨b0, ⟨by decide, by decide⟩, e0_5⟩
            · exact ⟨b2, ⟨by decide, by decide⟩, e2_4⟩
            · exact ⟨b3, ⟨by decide, by decide⟩, e3_5⟩) (vs := [.int .i64 a0, .bool true, .int .i64 a2, .int .i64 a3]) Tryz.func3 rfl rfl urlDrives_c156 w
        · exact one [a0, a2, a3] [(0, 5, 3), (1, 4, 3), (2, 5, 2)] (fun e he => by
            simp only [List.mem_cons, List.not_mem_nil, or_false] at he
            rcases he with rfl | rfl | rfl
            · exact ⟨b0, ⟨by decide, by decide⟩, e0_5⟩
            · exact ⟨b2, ⟨by decide, by decide⟩, e2_4⟩
            · exact ⟨b3, ⟨by decide, by decide⟩, e3_5⟩) (vs := [.int .i64 a0, .bool true, .int .i64 a2, .int .i64 a3]) Tryz.func3 rfl rfl urlDrives_c157 w
        · exact one [a0, a2, a3] [(0, 5, 3), (1, 4, 3), (2, 5, 3)] (fun e he => by
            simp only [List.mem_cons, List.not_mem_nil, or_false] at he
            rcases he with rfl | rfl | rfl
            · exact ⟨b0, ⟨by decide, by decide⟩, e0_5⟩
            · exact ⟨b2, ⟨by decide, by decide⟩, e2_4⟩
            · exact ⟨b3, ⟨by decide, by decide⟩, e3_5⟩) (vs := [.int .i64 a0, .bool true, .int .i64 a2, .int .i64 a3]) Tryz.func3 rfl rfl urlDrives_c158 w
        · exact one [a0, a2, a3] [(0, 5, 3), (1, 4, 3), (2, 5, 4)] (fun e he => by
            simp only [List.mem_cons, List.not_mem_nil, or_false] at he
            rcases he with rfl | rfl | rfl
            · exact ⟨b0, ⟨by decide, by decide⟩, e0_5⟩
            · exact ⟨b2, ⟨by decide, by decide⟩, e2_4⟩
            · exact ⟨b3, ⟨by decide, by decide⟩, e3_5⟩) (vs := [.int .i64 a0, .bool true, .int .i64 a2, .int .i64 a3]) Tryz.func3 rfl rfl urlDrives_c159 w
  · cases a1
    · rcases (show r2_4 = 0 ∨ r2_4 = 1 ∨ r2_4 = 2 ∨ r2_4 = 3 by omega) with rfl | rfl | rfl | rfl
      · rcases (show r3_5 = 0 ∨ r3_5 = 1 ∨ r3_5 = 2 ∨ r3_5 = 3 ∨ r3_5 = 4 by omega) with rfl | rfl | rfl | rfl | rfl
        · exact one [a0, a2, a3] [(0, 5, 4), (1, 4, 0), (2, 5, 0)] (fun e he => by
            simp only [List.mem_cons, List.not_mem_nil, or_false] at he
            rcases he with rfl | rfl | rfl
            · exact ⟨b0, ⟨by decide, by decide⟩, e0_5⟩
            · exact ⟨b2, ⟨by decide, by decide⟩, e2_4⟩
            · exact ⟨b3, ⟨by decide, by decide⟩, e3_5⟩) (vs := [.int .i64 a0, .bool false, .int .i64 a2, .int .i64 a3]) Tryz.func3 rfl rfl urlDrives_c160 w
        · exact one [a0, a2, a3] [(0, 5, 4), (1, 4, 0), (2, 5, 1)] (fun e he => by
            simp only [List.mem_cons, List.not_mem_nil, or_false] at he
            rcases he with rfl | rfl | rfl
            · exact ⟨b0, ⟨by decide, by decide⟩, e0_5⟩
            · exact ⟨b2, ⟨by decide, by decide⟩, e2_4⟩
            · exact ⟨b3, ⟨by decide, by decide⟩, e3_5⟩) (vs := [.int .i64 a0, .bool false, .int .i64 a2, .int .i64 a3]) Tryz.func3 rfl rfl urlDrives_c161 w
        · exact one [a0, a2, a3] [(0, 5, 4), (1, 4, 0), (2, 5, 2)] (fun e he => by
            simp only [List.mem_cons, List.not_mem_nil, or_false] at he
            rcases he with rfl | rfl | rfl
            · exact ⟨b0, ⟨by decide, by decide⟩, e0_5⟩
            · exact ⟨b2, ⟨by decide, by decide⟩, e2_4⟩
            · exact ⟨b3, ⟨by decide, by decide⟩, e3_5⟩) (vs := [.int .i64 a0, .bool false, .int .i64 a2, .int .i64 a3]) Tryz.func3 rfl rfl urlDrives_c162 w
        · exact one [a0, a2, a3] [(0, 5, 4), (1, 4, 0), (2, 5, 3)] (fun e he => by
            simp only [List.mem_cons, List.not_mem_nil, or_false] at he
            rcases he with rfl | rfl | rfl
            · exact ⟨b0, ⟨by decide, by decide⟩, e0_5⟩
            · exact ⟨b2, ⟨by decide, by decide⟩, e2_4⟩
            · exact ⟨b3, ⟨by decide, by decide⟩, e3_5⟩) (vs := [.int .i64 a0, .bool false, .int .i64 a2, .int .i64 a3]) Tryz.func3 rfl rfl urlDrives_c163 w
        · exact one [a0, a2, a3] [(0, 5, 4), (1, 4, 0), (2, 5, 4)] (fun e he => by
            simp only [List.mem_cons, List.not_mem_nil, or_false] at he
            rcases he with rfl | rfl | rfl
            · exact ⟨b0, ⟨by decide, by decide⟩, e0_5⟩
            · exact ⟨b2, ⟨by decide, by decide⟩, e2_4⟩
            · exact ⟨b3, ⟨by decide, by decide⟩, e3_5⟩) (vs := [.int .i64 a0, .bool false, .int .i64 a2, .int .i64 a3]) Tryz.func3 rfl rfl urlDrives_c164 w
      · rcases (show r3_5 = 0 ∨ r3_5 = 1 ∨ r3_5 = 2 ∨ r3_5 = 3 ∨ r3_5 = 4 by omega) with rfl | rfl | rfl | rfl | rfl
        · exact one [a0, a2, a3] [(0, 5, 4), (1, 4, 1), (2, 5, 0)] (fun e he => by
            simp only [List.mem_cons, List.not_mem_nil, or_false] at he
            rcases he with rfl | rfl | rfl
            · exact ⟨b0, ⟨by decide, by decide⟩, e0_5⟩
            · exact ⟨b2, ⟨by decide, by decide⟩, e2_4⟩
            · exact ⟨b3, ⟨by decide, by decide⟩, e3_5⟩) (vs := [.int .i64 a0, .bool false, .int .i64 a2, .int .i64 a3]) Tryz.func3 rfl rfl urlDrives_c165 w
        · exact one [a0, a2, a3] [(0, 5, 4), (1, 4, 1), (2, 5, 1)] (fun e he => by
            simp only [List.mem_cons, List.not_mem_nil, or_false] at he
            rcases he with rfl | rfl | rfl
            · exact ⟨b0, ⟨by decide, by decide⟩, e0_5⟩
            · exact ⟨b2, ⟨by decide, by decide⟩, e2_4⟩
            · exact ⟨b3, ⟨by decide, by decide⟩, e3_5⟩) (vs := [.int .i64 a0, .bool false, .int .i64 a2, .int .i64 a3]) Tryz.func3 rfl rfl urlDrives_c166 w
        · exact one [a0, a2, a3] [(0, 5, 4), (1, 4, 1), (2, 5, 2)] (fun e he => by
            simp only [List.mem_cons, List.not_mem_nil, or_false] at he
            rcases he with rfl | rfl | rfl
            · exact ⟨b0, ⟨by decide, by decide⟩, e0_5⟩
            · exact ⟨b2, ⟨by decide, by decide⟩, e2_4⟩
            · exact ⟨b3, ⟨by decide, by decide⟩, e3_5⟩) (vs := [.int .i64 a0, .bool false, .int .i64 a2, .int .i64 a3]) Tryz.func3 rfl rfl urlDrives_c167 w
        · exact one [a0, a2, a3] [(0, 5, 4), (1, 4, 1), (2, 5, 3)] (fun e he => by
            simp only [List.mem_cons, List.not_mem_nil, or_false] at he
            rcases he with rfl | rfl | rfl
            · exact ⟨b0, ⟨by decide, by decide⟩, e0_5⟩
            · exact ⟨b2, ⟨by decide, by decide⟩, e2_4⟩
            · exact ⟨b3, ⟨by decide, by decide⟩, e3_5⟩) (vs := [.int .i64 a0, .bool false, .int .i64 a2, .int .i64 a3]) Tryz.func3 rfl rfl urlDrives_c168 w
        · exact one [a0, a2, a3] [(0, 5, 4), (1, 4, 1), (2, 5, 4)] (fun e he => by
            simp only [List.mem_cons, List.not_mem_nil, or_false] at he
            rcases he with rfl | rfl | rfl
            · exact ⟨b0, ⟨by decide, by decide⟩, e0_5⟩
            · exact ⟨b2, ⟨by decide, by decide⟩, e2_4⟩
            · exact ⟨b3, ⟨by decide, by decide⟩, e3_5⟩) (vs := [.int .i64 a0, .bool false, .int .i64 a2, .int .i64 a3]) Tryz.func3 rfl rfl urlDrives_c169 w
      · rcases (show r3_5 = 0 ∨ r3_5 = 1 ∨ r3_5 = 2 ∨ r3_5 = 3 ∨ r3_5 = 4 by omega) with rfl | rfl | rfl | rfl | rfl
        · exact one [a0, a2, a3] [(0, 5, 4), (1, 4, 2), (2, 5, 0)] (fun e he => by
            simp only [List.mem_cons, List.not_mem_nil, or_false] at he
            rcases he with rfl | rfl | rfl
            · exact ⟨b0, ⟨by decide, by decide⟩, e0_5⟩
            · exact ⟨b2, ⟨by decide, by decide⟩, e2_4⟩
            · exact ⟨b3, ⟨by decide, by decide⟩, e3_5⟩) (vs := [.int .i64 a0, .bool false, .int .i64 a2, .int .i64 a3]) Tryz.func3 rfl rfl urlDrives_c170 w
        · exact one [a0, a2, a3] [(0, 5, 4), (1, 4, 2), (2, 5, 1)] (fun e he => by
            simp only [List.mem_cons, List.not_mem_nil, or_false] at he
            rcases he with rfl | rfl | rfl
            · exact ⟨b0, ⟨by decide, by decide⟩, e0_5⟩
            · exact ⟨b2, ⟨by decide, by decide⟩, e2_4⟩
            · exact ⟨b3, ⟨by decide, by decide⟩, e3_5⟩) (vs := [.int .i64 a0, .bool false, .int .i64 a2, .int .i64 a3]) Tryz.func3 rfl rfl urlDrives_c171 w
        · exact one [a0, a2, a3] [(0, 5, 4), (1, 4, 2), (2, 5, 2)] (fun e he => by
            simp only [List.mem_cons, List.not_mem_nil, or_false] at he
            rcases he with rfl | rfl | rfl
            · exact ⟨b0, ⟨by decide, by decide⟩, e0_5⟩
            · exact ⟨b2, ⟨by decide, by decide⟩, e2_4⟩
            · exact ⟨b3, ⟨by decide, by decide⟩, e3_5⟩) (vs := [.int .i64 a0, .bool false, .int .i64 a2, .int .i64 a3]) Tryz.func3 rfl rfl urlDrives_c172 w
        · exact one [a0, a2, a3] [(0, 5, 4), (1, 4, 2), (2, 5, 3)] (fun e he => by
            simp only [List.mem_cons, List.not_mem_nil, or_false] at he
            rcases he with rfl | rfl | rfl
            · exact ⟨b0, ⟨by decide, by decide⟩, e0_5⟩
            · exact ⟨b2, ⟨by decide, by decide⟩, e2_4⟩
            · exact ⟨b3, ⟨by decide, by decide⟩, e3_5⟩) (vs := [.int .i64 a0, .bool false, .int .i64 a2, .int .i64 a3]) Tryz.func3 rfl rfl urlDrives_c173 w
        · exact one [a0, a2, a3] [(0, 5, 4), (1, 4, 2), (2, 5, 4)] (fun e he => by
            simp only [List.mem_cons, List.not_mem_nil, or_false] at he
            rcases he with rfl | rfl | rfl
            · exact ⟨b0, ⟨by decide, by decide⟩, e0_5⟩
            · exact ⟨b2, ⟨by decide, by decide⟩, e2_4⟩
            · exact ⟨b3, ⟨by decide, by decide⟩, e3_5⟩) (vs := [.int .i64 a0, .bool false, .int .i64 a2, .int .i64 a3]) Tryz.func3 rfl rfl urlDrives_c174 w
      · rcases (show r3_5 = 0 ∨ r3_5 = 1 ∨ r3_5 = 2 ∨ r3_5 = 3 ∨ r3_5 = 4 by omega) with rfl | rfl | rfl | rfl | rfl
        · exact one [a0, a2, a3] [(0, 5, 4), (1, 4, 3), (2, 5, 0)] (fun e he => by
            simp only [List.mem_cons, List.not_mem_nil, or_false] at he
            rcases he with rfl | rfl | rfl
            · exact ⟨b0, ⟨by decide, by decide⟩, e0_5⟩
            · exact ⟨b2, ⟨by decide, by decide⟩, e2_4⟩
            · exact ⟨b3, ⟨by decide, by decide⟩, e3_5⟩) (vs := [.int .i64 a0, .bool false, .int .i64 a2, .int .i64 a3]) Tryz.func3 rfl rfl urlDrives_c175 w
        · exact one [a0, a2, a3] [(0, 5, 4), (1, 4, 3), (2, 5, 1)] (fun e he => by
            simp only [List.mem_cons, List.not_mem_nil, or_false] at he
            rcases he with rfl | rfl | rfl
            · exact ⟨b0, ⟨by decide, by decide⟩, e0_5⟩
            · exact ⟨b2, ⟨by decide, by decide⟩, e2_4⟩
            · exact ⟨b3, ⟨by decide, by decide⟩, e3_5⟩) (vs := [.int .i64 a0, .bool false, .int .i64 a2, .int .i64 a3]) Tryz.func3 rfl rfl urlDrives_c176 w
        · exact one [a0, a2, a3] [(0, 5, 4), (1, 4, 3), (2, 5, 2)] (fun e he => by
            simp only [List.mem_cons, List.not_mem_nil, or_false] at he
            rcases he with rfl | rfl | rfl
            · exact ⟨b0, ⟨by decide, by decide⟩, e0_5⟩
            · exact ⟨b2, ⟨by decide, by decide⟩, e2_4⟩
            · exact ⟨b3, ⟨by decide, by decide⟩, e3_5⟩) (vs := [.int .i64 a0, .bool false, .int .i64 a2, .int .i64 a3]) Tryz.func3 rfl rfl urlDrives_c177 w
        · exact one [a0, a2, a3] [(0, 5, 4), (1, 4, 3), (2, 5, 3)] (fun e he => by
            simp only [List.mem_cons, List.not_mem_nil, or_false] at he
            rcases he with rfl | rfl | rfl
            · exact ⟨b0, ⟨by decide, by decide⟩, e0_5⟩
            · exact ⟨b2, ⟨by decide, by decide⟩, e2_4⟩
            · exact ⟨b3, ⟨by decide, by decide⟩, e3_5⟩) (vs := [.int .i64 a0, .bool false, .int .i64 a2, .int .i64 a3]) Tryz.func3 rfl rfl urlDrives_c178 w
        · exact one [a0, a2, a3] [(0, 5, 4), (1, 4, 3), (2, 5, 4)] (fun e he => by
            simp only [List.mem_cons, List.not_mem_nil, or_false] at he
            rcases he with rfl | rfl | rfl
            · exact ⟨b0, ⟨by decide, by decide⟩, e0_5⟩
            · exact ⟨b2, ⟨by decide, by decide⟩, e2_4⟩
            · exact ⟨b3, ⟨by decide, by decide⟩, e3_5⟩) (vs := [.int .i64 a0, .bool false, .int .i64 a2, .int .i64 a3]) Tryz.func3 rfl rfl urlDrives_c179 w
    · rcases (show r2_4 = 0 ∨ r2_4 = 1 ∨ r2_4 = 2 ∨ r2_4 = 3 by omega) with rfl | rfl | rfl | rfl
      · rcases (show r3_5 = 0 ∨ r3_5 = 1 ∨ r3_5 = 2 ∨ r3_5 = 3 ∨ r3_5 = 4 by omega) with rfl | rfl | rfl | rfl | rfl
        · exact one [a0, a2, a3] [(0, 5, 4), (1, 4, 0), (2, 5, 0)] (fun e he => by
            simp only [List.mem_cons, List.not_mem_nil, or_false] at he
            rcases he with rfl | rfl | rfl
            · exact ⟨b0, ⟨by decide, by decide⟩, e0_5⟩
            · exact ⟨b2, ⟨by decide, by decide⟩, e2_4⟩
            · exact ⟨b3, ⟨by decide, by decide⟩, e3_5⟩) (vs := [.int .i64 a0, .bool true, .int .i64 a2, .int .i64 a3]) Tryz.func3 rfl rfl urlDrives_c180 w
        · exact one [a0, a2, a3] [(0, 5, 4), (1, 4, 0), (2, 5, 1)] (fun e he => by
            simp only [List.mem_cons, List.not_mem_nil, or_false] at he
            rcases he with rfl | rfl | rfl
            · exact ⟨b0, ⟨by decide, by decide⟩, e0_5⟩
            · exact ⟨b2, ⟨by decide, by decide⟩, e2_4⟩
            · exact ⟨b3, ⟨by decide, by decide⟩, e3_5⟩) (vs := [.int .i64 a0, .bool true, .int .i64 a2, .int .i64 a3]) Tryz.func3 rfl rfl urlDrives_c181 w
        · exact one [a0, a2, a3] [(0, 5, 4), (1, 4, 0), (2, 5, 2)] (fun e he => by
            simp only [List.mem_cons, List.not_mem_nil, or_false] at he
            rcases he with rfl | rfl | rfl
            · exact ⟨b0, ⟨by decide, by decide⟩, e0_5⟩
            · exact ⟨b2, ⟨by decide, by decide⟩, e2_4⟩
            · exact ⟨b3, ⟨by decide, by decide⟩, e3_5⟩) (vs := [.int .i64 a0, .bool true, .int .i64 a2, .int .i64 a3]) Tryz.func3 rfl rfl urlDrives_c182 w
        · exact one [a0, a2, a3] [(0, 5, 4), (1, 4, 0), (2, 5, 3)] (fun e he => by
            simp only [List.mem_cons, List.not_mem_nil, or_false] at he
            rcases he with rfl | rfl | rfl
            · exact ⟨b0, ⟨by decide, by decide⟩, e0_5⟩
            · exact ⟨b2, ⟨by decide, by decide⟩, e2_4⟩
            · exact ⟨b3, ⟨by decide, by decide⟩, e3_5⟩) (vs := [.int .i64 a0, .bool true, .int .i64 a2, .int .i64 a3]) Tryz.func3 rfl rfl urlDrives_c183 w
        · exact one [a0, a2, a3] [(0, 5, 4), (1, 4, 0), (2, 5, 4)] (fun e he => by
            simp only [List.mem_cons, List.not_mem_nil, or_false] at he
            rcases he with rfl | rfl | rfl
            · exact ⟨b0, ⟨by decide, by decide⟩, e0_5⟩
            · exact ⟨b2, ⟨by decide, by decide⟩, e2_4⟩
            · exact ⟨b3, ⟨by decide, by decide⟩, e3_5⟩) (vs := [.int .i64 a0, .bool true, .int .i64 a2, .int .i64 a3]) Tryz.func3 rfl rfl urlDrives_c184 w
      · rcases (show r3_5 = 0 ∨ r3_5 = 1 ∨ r3_5 = 2 ∨ r3_5 = 3 ∨ r3_5 = 4 by omega) with rfl | rfl | rfl | rfl | rfl
        · exact one [a0, a2, a3] [(0, 5, 4), (1, 4, 1), (2, 5, 0)] (fun e he => by
            simp only [List.mem_cons, List.not_mem_nil, or_false] at he
            rcases he with rfl | rfl | rfl
            · exact ⟨b0, ⟨by decide, by decide⟩, e0_5⟩
            · exact ⟨b2, ⟨by decide, by decide⟩, e2_4⟩
            · exact ⟨b3, ⟨by decide, by decide⟩, e3_5⟩) (vs := [.int .i64 a0, .bool true, .int .i64 a2, .int .i64 a3]) Tryz.func3 rfl rfl urlDrives_c185 w
        · exact one [a0, a2, a3] [(0, 5, 4), (1, 4, 1), (2, 5, 1)] (fun e he => by
            simp only [List.mem_cons, List.not_mem_nil, or_false] at he
            rcases he with rfl | rfl | rfl
            · exact ⟨b0, ⟨by decide, by decide⟩, e0_5⟩
            · exact ⟨b2, ⟨by decide, by decide⟩, e2_4⟩
            · exact ⟨b3, ⟨by decide, by decide⟩, e3_5⟩) (vs := [.int .i64 a0, .bool true, .int .i64 a2, .int .i64 a3]) Tryz.func3 rfl rfl urlDrives_c186 w
        · exact one [a0, a2, a3] [(0, 5, 4), (1, 4, 1), (2, 5, 2)] (fun e he => by
            simp only [List.mem_cons, List.not_mem_nil, or_false] at he
            rcases he with rfl | rfl | rfl
            · exact ⟨b0, ⟨by decide, by decide⟩, e0_5⟩
            · exact ⟨b2, ⟨by decide, by decide⟩, e2_4⟩
            · exact ⟨b3, ⟨by decide, by decide⟩, e3_5⟩) (vs := [.int .i64 a0, .bool true, .int .i64 a2, .int .i64 a3]) Tryz.func3 rfl rfl urlDrives_c187 w
        · exact one [a0, a2, a3] [(0, 5, 4), (1, 4, 1), (2, 5, 3)] (fun e he => by
            simp only [List.mem_cons, List.not_mem_nil, or_false] at he
            rcases he with rfl | rfl | rfl
            · exact ⟨b0, ⟨by decide, by decide⟩, e0_5⟩
            · exact ⟨b2, ⟨by decide, by decide⟩, e2_4⟩
            · exact ⟨b3, ⟨by decide, by decide⟩, e3_5⟩) (vs := [.int .i64 a0, .bool true, .int .i64 a2, .int .i64 a3]) Tryz.func3 rfl rfl urlDrives_c188 w
        · exact one [a0, a2, a3] [(0, 5, 4), (1, 4, 1), (2, 5, 4)] (fun e he => by
            simp only [List.mem_cons, List.not_mem_nil, or_false] at he
            rcases he with rfl | rfl | rfl
            · exact ⟨b0, ⟨by decide, by decide⟩, e0_5⟩
            · exact ⟨b2, ⟨by decide, by decide⟩, e2_4⟩
            · exact ⟨b3, ⟨by decide, by decide⟩, e3_5⟩) (vs := [.int .i64 a0, .bool true, .int .i64 a2, .int .i64 a3]) Tryz.func3 rfl rfl urlDrives_c189 w
      · rcases (show r3_5 = 0 ∨ r3_5 = 1 ∨ r3_5 = 2 ∨ r3_5 = 3 ∨ r3_5 = 4 by omega) with rfl | rfl | rfl | rfl | rfl
        · exact one [a0, a2, a3] [(0, 5, 4), (1, 4, 2), (2, 5, 0)] (fun e he => by
            simp only [List.mem_cons, List.not_mem_nil, or_false] at he
            rcases he with rfl | rfl | rfl
            · exact ⟨b0, ⟨by decide, by decide⟩, e0_5⟩
            · exact ⟨b2, ⟨by decide, by decide⟩, e2_4⟩
            · exact ⟨b3, ⟨by decide, by decide⟩, e3_5⟩) (vs := [.int .i64 a0, .bool true, .int .i64 a2, .int .i64 a3]) Tryz.func3 rfl rfl urlDrives_c190 w
        · exact one [a0, a2, a3] [(0, 5, 4), (1, 4, 2), (2, 5, 1)] (fun e he => by
            simp only [List.mem_cons, List.not_mem_nil, or_false] at he
            rcases he with rfl | rfl | rfl
            · exact ⟨b0, ⟨by decide, by decide⟩, e0_5⟩
            · exact ⟨b2, ⟨by decide, by decide⟩, e2_4⟩
            · exact ⟨b3, ⟨by decide, by decide⟩, e3_5⟩) (vs := [.int .i64 a0, .bool true, .int .i64 a2, .int .i64 a3]) Tryz.func3 rfl rfl urlDrives_c191 w
        · exact one [a0, a2, a3] [(0, 5, 4), (1, 4, 2), (2, 5, 2)] (fun e he => by
            simp only [List.mem_cons, List.not_mem_nil, or_false] at he
            rcases he with rfl | rfl | rfl
            · exact ⟨b0, ⟨by decide, by decide⟩, e0_5⟩
            · exact ⟨b2, ⟨by decide, by decide⟩, e2_4⟩
            · exact ⟨b3, ⟨by decide, by decide⟩, e3_5⟩) (vs := [.int .i64 a0, .bool true, .int .i64 a2, .int .i64 a3]) Tryz.func3 rfl rfl urlDrives_c192 w
        · exact one [a0, a2, a3] [(0, 5, 4), (1, 4, 2), (2, 5, 3)] (fun e he => by
            simp only [List.mem_cons, List.not_mem_nil, or_false] at he
            rcases he with rfl | rfl | rfl
            · exact ⟨b0, ⟨by decide, by decide⟩, e0_5⟩
            · exact ⟨b2, ⟨by decide, by decide⟩, e2_4⟩
            · exact ⟨b3, ⟨by decide, by decide⟩, e3_5⟩) (vs := [.int .i64 a0, .bool true, .int .i64 a2, .int .i64 a3]) Tryz.func3 rfl rfl urlDrives_c193 w
        · exact one [a0, a2, a3] [(0, 5, 4), (1, 4, 2), (2, 5, 4)] (fun e he => by
            simp only [List.mem_cons, List.not_mem_nil, or_false] at he
            rcases he with rfl | rfl | rfl
            · exact ⟨b0, ⟨by decide, by decide⟩, e0_5⟩
            · exact ⟨b2, ⟨by decide, by decide⟩, e2_4⟩
            · exact ⟨b3, ⟨by decide, by decide⟩, e3_5⟩) (vs := [.int .i64 a0, .bool true, .int .i64 a2, .int .i64 a3]) Tryz.func3 rfl rfl urlDrives_c194 w
      · rcases (show r3_5 = 0 ∨ r3_5 = 1 ∨ r3_5 = 2 ∨ r3_5 = 3 ∨ r3_5 = 4 by omega) with rfl | rfl | rfl | rfl | rfl
        · exact one [a0, a2, a3] [(0, 5, 4), (1, 4, 3), (2, 5, 0)] (fun e he => by
            simp only [List.mem_cons, List.not_mem_nil, or_false] at he
            rcases he with rfl | rfl | rfl
            · exact ⟨b0, ⟨by decide, by decide⟩, e0_5⟩
            · exact ⟨b2, ⟨by decide, by decide⟩, e2_4⟩
            · exact ⟨b3, ⟨by decide, by decide⟩, e3_5⟩) (vs := [.int .i64 a0, .bool true, .int .i64 a2, .int .i64 a3]) Tryz.func3 rfl rfl urlDrives_c195 w
        · exact one [a0, a2, a3] [(0, 5, 4), (1, 4, 3), (2, 5, 1)] (fun e he => by
            simp only [List.mem_cons, List.not_mem_nil, or_false] at he
            rcases he with rfl | rfl | rfl
            · exact ⟨b0, ⟨by decide, by decide⟩, e0_5⟩
            · exact ⟨b2, ⟨by decide, by decide⟩, e2_4⟩
            · exact ⟨b3, ⟨by decide, by decide⟩, e3_5⟩) (vs := [.int .i64 a0, .bool true, .int .i64 a2, .int .i64 a3]) Tryz.func3 rfl rfl urlDrives_c196 w
        · exact one [a0, a2, a3] [(0, 5, 4), (1, 4, 3), (2, 5, 2)] (fun e he => by
            simp only [List.mem_cons, List.not_mem_nil, or_false] at he
            rcases he with rfl | rfl | rfl
            · exact ⟨b0, ⟨by decide, by decide⟩, e0_5⟩
            · exact ⟨b2, ⟨by decide, by decide⟩, e2_4⟩
            · exact ⟨b3, ⟨by decide, by decide⟩, e3_5⟩) (vs := [.int .i64 a0, .bool true, .int .i64 a2, .int .i64 a3]) Tryz.func3 rfl rfl urlDrives_c197 w
        · exact one [a0, a2, a3] [(0, 5, 4), (1, 4, 3), (2, 5, 3)] (fun e he => by
            simp only [List.mem_cons, List.not_mem_nil, or_false] at he
            rcases he with rfl | rfl | rfl
            · exact ⟨b0, ⟨by decide, by decide⟩, e0_5⟩
            · exact ⟨b2, ⟨by decide, by decide⟩, e2_4⟩
            · exact ⟨b3, ⟨by decide, by decide⟩, e3_5⟩) (vs := [.int .i64 a0, .bool true, .int .i64 a2, .int .i64 a3]) Tryz.func3 rfl rfl urlDrives_c198 w
        · exact one [a0, a2, a3] [(0, 5, 4), (1, 4, 3), (2, 5, 4)] (fun e he => by
            simp only [List.mem_cons, List.not_mem_nil, or_false] at he
            rcases he with rfl | rfl | rfl
            · exact ⟨b0, ⟨by decide, by decide⟩, e0_5⟩
            · exact ⟨b2, ⟨by decide, by decide⟩, e2_4⟩
            · exact ⟨b3, ⟨by decide, by decide⟩, e3_5⟩) (vs := [.int .i64 a0, .bool true, .int .i64 a2, .int .i64 a3]) Tryz.func3 rfl rfl urlDrives_c199 w
end Go.Proofs.YtghiaehfbajidaaGreatDoor
