/- Law gossamerlaw28.EsmFormats: its cases, all of them. -/
import Derived.Test.YtkglgkpegledoaaGreatDoorFin
import Derived.Test.YtkglgkpegledoaaGreatDoorEsmFormatsC0
import Derived.Test.YtkglgkpegledoaaGreatDoorEsmFormatsC1
import Derived.Test.YtkglgkpegledoaaGreatDoorEsmFormatsC2
import Derived.Test.YtkglgkpegledoaaGreatDoorEsmFormatsC3
import Derived.Test.YtkglgkpegledoaaGreatDoorEsmFormatsC4
import Derived.Test.YtkglgkpegledoaaGreatDoorEsmFormatsC5
import Derived.Test.YtkglgkpegledoaaGreatDoorEsmFormatsC6
import Derived.Test.YtkglgkpegledoaaGreatDoorEsmFormatsC7
set_option linter.unusedVariables false
set_option maxRecDepth 100000
namespace Go.Proofs.YtkglgkpegledoaaGreatDoor
open Go Go.Proofs Go.RowKit Go.Ev
theorem EsmFormats_walk (a0 : Int) (a1 : Int) (a2 : Bool) (w : World) (w0 : (Lit.int .i64 a0).wf = true) (w1 : (Lit.int .i64 a1).wf = true) (htab : Tab w) :
    Calls Tryz.prog 3 #[.int .i64 a0, .int .i64 a1, .bool a2] w fun e w' => e = .returned (.bool true) ∧ Below w.heap.size w w' := by
  have b0 := wf64 w0
  have b1 := wf64 w1
  obtain ⟨r0_8, e0_8, l0_8⟩ : ∃ r : Nat, lowN a0 8 = r ∧ r < 8 := by
    have := lowN_bd a0 8 (by omega)
    exact ⟨(lowN a0 8).toNat, by omega, by omega⟩
  obtain ⟨r1_4, e1_4, l1_4⟩ : ∃ r : Nat, lowN a1 4 = r ∧ r < 4 := by
    have := lowN_bd a1 4 (by omega)
    exact ⟨(lowN a1 4).toNat, by omega, by omega⟩
  rcases (show r0_8 = 0 ∨ r0_8 = 1 ∨ r0_8 = 2 ∨ r0_8 = 3 ∨ r0_8 = 4 ∨ r0_8 = 5 ∨ r0_8 = 6 ∨ r0_8 = 7 by omega) with rfl | rfl | rfl | rfl | rfl | rfl | rfl | rfl
  · rcases (show r1_4 = 0 ∨ r1_4 = 1 ∨ r1_4 = 2 ∨ r1_4 = 3 by omega) with rfl | rfl | rfl | rfl
    · cases a2
      · exact one [a0, a1] [(0, 8, 0), (1, 4, 0)] (fun e he => by
          simp only [List.mem_cons, List.not_mem_nil, or_false] at he
          rcases he with rfl | rfl
          · exact ⟨b0, ⟨by decide, by decide⟩, e0_8⟩
          · exact ⟨b1, ⟨by decide, by decide⟩, e1_4⟩) (vs := [.int .i64 a0, .int .i64 a1, .bool false]) Tryz.func3 rfl rfl esmFormats_c0 w
      · exact one [a0, a1] [(0, 8, 0), (1, 4, 0)] (fun e he => by
          simp only [List.mem_cons, List.not_mem_nil, or_false] at he
          rcases he with rfl | rfl
          · exact ⟨b0, ⟨by decide, by decide⟩, e0_8⟩
          · exact ⟨b1, ⟨by decide, by decide⟩, e1_4⟩) (vs := [.int .i64 a0, .int .i64 a1, .bool true]) Tryz.func3 rfl rfl esmFormats_c1 w
    · cases a2
      · exact one [a0, a1] [(0, 8, 0), (1, 4, 1)] (fun e he => by
          simp only [List.mem_cons, List.not_mem_nil, or_false] at he
          rcases he with rfl | rfl
          · exact ⟨b0, ⟨by decide, by decide⟩, e0_8⟩
          · exact ⟨b1, ⟨by decide, by decide⟩, e1_4⟩) (vs := [.int .i64 a0, .int .i64 a1, .bool false]) Tryz.func3 rfl rfl esmFormats_c2 w
      · exact one [a0, a1] [(0, 8, 0), (1, 4, 1)] (fun e he => by
          simp only [List.mem_cons, List.not_mem_nil, or_false] at he
          rcases he with rfl | rfl
          · exact ⟨b0, ⟨by decide, by decide⟩, e0_8⟩
          · exact ⟨b1, ⟨by decide, by decide⟩, e1_4⟩) (vs := [.int .i64 a0, .int .i64 a1, .bool true]) Tryz.func3 rfl rfl esmFormats_c3 w
    · cases a2
      · exact one [a0, a1] [(0, 8, 0), (1, 4, 2)] (fun e he => by
          simp only [List.mem_cons, List.not_mem_nil, or_false] at he
          rcases he with rfl | rfl
          · exact ⟨b0, ⟨by decide, by decide⟩, e0_8⟩
          · exact ⟨b1, ⟨by decide, by decide⟩, e1_4⟩) (vs := [.int .i64 a0, .int .i64 a1, .bool false]) Tryz.func3 rfl rfl esmFormats_c4 w
      · exact one [a0, a1] [(0, 8, 0), (1, 4, 2)] (fun e he => by
          simp only [List.mem_cons, List.not_mem_nil, or_false] at he
          rcases he with rfl | rfl
          · exact ⟨b0, ⟨by decide, by decide⟩, e0_8⟩
          · exact ⟨b1, ⟨by decide, by decide⟩, e1_4⟩) (vs := [.int .i64 a0, .int .i64 a1, .bool true]) Tryz.func3 rfl rfl esmFormats_c5 w
    · cases a2
      · exact one [a0, a1] [(0, 8, 0), (1, 4, 3)] (fun e he => by
          simp only [List.mem_cons, List.not_mem_nil, or_false] at he
          rcases he with rfl | rfl
          · exact ⟨b0, ⟨by decide, by decide⟩, e0_8⟩
          · exact ⟨b1, ⟨by decide, by decide⟩, e1_4⟩) (vs := [.int .i64 a0, .int .i64 a1, .bool false]) Tryz.func3 rfl rfl esmFormats_c6 w
      · exact one [a0, a1] [(0, 8, 0), (1, 4, 3)] (fun e he => by
          simp only [List.mem_cons, List.not_mem_nil, or_false] at he
          rcases he with rfl | rfl
          · exact ⟨b0, ⟨by decide, by decide⟩, e0_8⟩
          · exact ⟨b1, ⟨by decide, by decide⟩, e1_4⟩) (vs := [.int .i64 a0, .int .i64 a1, .bool true]) Tryz.func3 rfl rfl esmFormats_c7 w
  · rcases (show r1_4 = 0 ∨ r1_4 = 1 ∨ r1_4 = 2 ∨ r1_4 = 3 by omega) with rfl | rfl | rfl | rfl
    · cases a2
      · exact one [a0, a1] [(0, 8, 1), (1, 4, 0)] (fun e he => by
          simp only [List.mem_cons, List.not_mem_nil, or_false] at he
          rcases he with rfl | rfl
          · exact ⟨b0, ⟨by decide, by decide⟩, e0_8⟩
          · exact ⟨b1, ⟨by decide, by decide⟩, e1_4⟩) (vs := [.int .i64 a0, .int .i64 a1, .bool false]) Tryz.func3 rfl rfl esmFormats_c8 w
      · exact one [a0, a1] [(0, 8, 1), (1, 4, 0)] (fun e he => by
          simp only [List.mem_cons, List.not_mem_nil, or_false] at he
          rcases he with rfl | rfl
          · exact ⟨b0, ⟨by decide, by decide⟩, e0_8⟩
          · exact ⟨b1, ⟨by decide, by decide⟩, e1_4⟩) (vs := [.int .i64 a0, .int .i64 a1, .bool true]) Tryz.func3 rfl rfl esmFormats_c9 w
    · cases a2
      · exact one [a0, a1] [(0, 8, 1), (1, 4, 1)] (fun e he => by
          simp only [List.mem_cons, List.not_mem_nil, or_false] at he
          rcases he with rfl | rfl
          · exact ⟨b0, ⟨by decide, by decide⟩, e0_8⟩
          · exact ⟨b1, ⟨by decide, by decide⟩, e1_4⟩) (vs := [.int .i64 a0, .int .i64 a1, .bool false]) Tryz.func3 rfl rfl esmFormats_c10 w
      · exact one [a0, a1] [(0, 8, 1), (1, 4, 1)] (fun e he => by
          simp only [List.mem_cons, List.not_mem_nil, or_false] at he
          rcases he with rfl | rfl
          · exact ⟨b0, ⟨by decide, by decide⟩, e0_8⟩
          · exact ⟨b1, ⟨by decide, by decide⟩, e1_4⟩) (vs := [.int .i64 a0, .int .i64 a1, .bool true]) Tryz.func3 rfl rfl esmFormats_c11 w
    · cases a2
      · exact one [a0, a1] [(0, 8, 1), (1, 4, 2)] (fun e he => by
          simp only [List.mem_cons, List.not_mem_nil, or_false] at he
          rcases he with rfl | rfl
          · exact ⟨b0, ⟨by decide, by decide⟩, e0_8⟩
          · exact ⟨b1, ⟨by decide, by decide⟩, e1_4⟩) (vs := [.int .i64 a0, .int .i64 a1, .bool false]) Tryz.func3 rfl rfl esmFormats_c12 w
      · exact one [a0, a1] [(0, 8, 1), (1, 4, 2)] (fun e he => by
          simp only [List.mem_cons, List.not_mem_nil, or_false] at he
          rcases he with rfl | rfl
          · exact ⟨b0, ⟨by decide, by decide⟩, e0_8⟩
          · exact ⟨b1, ⟨by decide, by decide⟩, e1_4⟩) (vs := [.int .i64 a0, .int .i64 a1, .bool true]) Tryz.func3 rfl rfl esmFormats_c13 w
    · cases a2
      · exact one [a0, a1] [(0, 8, 1), (1, 4, 3)] (fun e he => by
          simp only [List.mem_cons, List.not_mem_nil, or_false] at he
          rcases he with rfl | rfl
          · exact ⟨b0, ⟨by decide, by decide⟩, e0_8⟩
          · exact ⟨b1, ⟨by decide, by decide⟩, e1_4⟩) (vs := [.int .i64 a0, .int .i64 a1, .bool false]) Tryz.func3 rfl rfl esmFormats_c14 w
      · exact one [a0, a1] [(0, 8, 1), (1, 4, 3)] (fun e he => by
          simp only [List.mem_cons, List.not_mem_nil, or_false] at he
          rcases he with rfl | rfl
          · exact ⟨b0, ⟨by decide, by decide⟩, e0_8⟩
          · exact ⟨b1, ⟨by decide, by decide⟩, e1_4⟩) (vs := [.int .i64 a0, .int .i64 a1, .bool true]) Tryz.func3 rfl rfl esmFormats_c15 w
  · rcases (show r1_4 = 0 ∨ r1_4 = 1 ∨ r1_4 = 2 ∨ r1_4 = 3 by omega) with rfl | rfl | rfl | rfl
    · cases a2
      · exact one [a0, a1] [(0, 8, 2), (1, 4, 0)] (fun e he => by
          simp only [List.mem_cons, List.not_mem_nil, or_false] at he
          rcases he with rfl | rfl
          · exact ⟨b0, ⟨by decide, by decide⟩, e0_8⟩
          · exact ⟨b1, ⟨by decide, by decide⟩, e1_4⟩) (vs := [.int .i64 a0, .int .i64 a1, .bool false]) Tryz.func3 rfl rfl esmFormats_c16 w
      · exact one [a0, a1] [(0, 8, 2), (1, 4, 0)] (fun e he => by
          simp only [List.mem_cons, List.not_mem_nil, or_false] at he
          rcases he with rfl | rfl
          · exact ⟨b0, ⟨by decide, by decide⟩, e0_8⟩
          · exact ⟨b1, ⟨by decide, by decide⟩, e1_4⟩) (vs := [.int .i64 a0, .int .i64 a1, .bool true]) Tryz.func3 rfl rfl esmFormats_c17 w
    · cases a2
      · exact one [a0, a1] [(0, 8, 2), (1, 4, 1)] (fun e he => by
          simp only [List.mem_cons, List.not_mem_nil, or_false] at he
          rcases he with rfl | rfl
          · exact ⟨b0, ⟨by decide, by decide⟩, e0_8⟩
          · exact ⟨b1, ⟨by decide, by decide⟩, e1_4⟩) (vs := [.int .i64 a0, .int .i64 a1, .bool false]) Tryz.func3 rfl rfl esmFormats_c18 w
      · exact one [a0, a1] [(0, 8, 2), (1, 4, 1)] (fun e he => by
          simp only [List.mem_cons, List.not_mem_nil, or_false] at he
          rcases he with rfl | rfl
          · exact ⟨b0, ⟨by decide, by decide⟩, e0_8⟩
          · exact ⟨b1, ⟨by decide, by decide⟩, e1_4⟩) (vs := [.int .i64 a0, .int .i64 a1, .bool true]) Tryz.func3 rfl rfl esmFormats_c19 w
    · cases a2
      · exact one [a0, a1] [(0, 8, 2), (1, 4, 2)] (fun e he => by
          simp only [List.mem_cons, List.not_mem_nil, or_false] at he
          rcases he with rfl | rfl
          · exact ⟨b0, ⟨by decide, by decide⟩, e0_8⟩
          · exact ⟨b1, ⟨by decide, by decide⟩, e1_4⟩) (vs := [.int .i64 a0, .int .i64 a1, .bool false]) Tryz.func3 rfl rfl esmFormats_c20 w
      · exact one [a0, a1] [(0, 8, 2), (1, 4, 2)] (fun e he => by
          simp only [List.mem_cons, List.not_mem_nil, or_false] at he
          rcases he with rfl | rfl
          · exact ⟨b0, ⟨by decide, by decide⟩, e0_8⟩
          · exact ⟨b1, ⟨by decide, by decide⟩, e1_4⟩) (vs := [.int .i64 a0, .int .i64 a1, .bool true]) Tryz.func3 rfl rfl esmFormats_c21 w
    · cases a2
      · exact one [a0, a1] [(0, 8, 2), (1, 4, 3)] (fun e he => by
          simp only [List.mem_cons, List.not_mem_nil, or_false] at he
          rcases he with rfl | rfl
          · exact ⟨b0, ⟨by decide, by decide⟩, e0_8⟩
          · exact ⟨b1, ⟨by decide, by decide⟩, e1_4⟩) (vs := [.int .i64 a0, .int .i64 a1, .bool false]) Tryz.func3 rfl rfl esmFormats_c22 w
      · exact one [a0, a1] [(0, 8, 2), (1, 4, 3)] (fun e he => by
          simp only [List.mem_cons, List.not_mem_nil, or_false] at he
          rcases he with rfl | rfl
          · exact ⟨b0, ⟨by decide, by decide⟩, e0_8⟩
          · exact ⟨b1, ⟨by decide, by decide⟩, e1_4⟩) (vs := [.int .i64 a0, .int .i64 a1, .bool true]) Tryz.func3 rfl rfl esmFormats_c23 w
  · rcases (show r1_4 = 0 ∨ r1_4 = 1 ∨ r1_4 = 2 ∨ r1_4 = 3 by omega) with rfl | rfl | rfl | rfl
    · cases a2
      · exact one [a0, a1] [(0, 8, 3), (1, 4, 0)] (fun e he => by
          simp only [List.mem_cons, List.not_mem_nil, or_false] at he
          rcases he with rfl | rfl
          · exact ⟨b0, ⟨by decide, by decide⟩, e0_8⟩
          · exact ⟨b1, ⟨by decide, by decide⟩, e1_4⟩) (vs := [.int .i64 a0, .int .i64 a1, .bool false]) Tryz.func3 rfl rfl esmFormats_c24 w
      · exact one [a0, a1] [(0, 8, 3), (1, 4, 0)] (fun e he => by
          simp only [List.mem_cons, List.not_mem_nil, or_false] at he
          rcases he with rfl | rfl
          · exact ⟨b0, ⟨by decide, by decide⟩, e0_8⟩
          · exact ⟨b1, ⟨by decide, by decide⟩, e1_4⟩) (vs := [.int .i64 a0, .int .i64 a1, .bool true]) Tryz.func3 rfl rfl esmFormats_c25 w
    · cases a2
      · exact one [a0, a1] [(0, 8, 3), (1, 4, 1)] (fun e he => by
          simp only [List.mem_cons, List.not_mem_nil, or_false] at he
          rcases he with rfl | rfl
          · exact ⟨b0, ⟨by decide, by decide⟩, e0_8⟩
          · exact ⟨b1, ⟨by decide, by decide⟩, e1_4⟩) (vs := [.int .i64 a0, .int .i64 a1, .bool false]) Tryz.func3 rfl rfl esmFormats_c26 w
      · exact one [a0, a1] [(0, 8, 3), (1, 4, 1)] (fun e he => by
          simp only [List.mem_cons, List.not_mem_nil, or_false] at he
          rcases he with rfl | rfl
          · exact ⟨b0, ⟨by decide, by decide⟩, e0_8⟩
          · exact ⟨b1, ⟨by decide, by decide⟩, e1_4⟩) (vs := [.int .i64 a0, .int .i64 a1, .bool true]) Tryz.func3 rfl rfl esmFormats_c27 w
    · cases a2
      · exact one [a0, a1] [(0, 8, 3), (1, 4, 2)] (fun e he => by
          simp only [List.mem_cons, List.not_mem_nil, or_false] at he
          rcases he with rfl | rfl
          · exact ⟨b0, ⟨by decide, by decide⟩, e0_8⟩
          · exact ⟨b1, ⟨by decide, by decide⟩, e1_4⟩) (vs := [.int .i64 a0, .int .i64 a1, .bool false]) Tryz.func3 rfl rfl esmFormats_c28 w
      · exact one [a0, a1] [(0, 8, 3), (1, 4, 2)] (fun e he => by
          simp only [List.mem_cons, List.not_mem_nil, or_false] at he
          rcases he with rfl | rfl
          · exact ⟨b0, ⟨by decide, by decide⟩, e0_8⟩
          · exact ⟨b1, ⟨by decide, by decide⟩, e1_4⟩) (vs := [.int .i64 a0, .int .i64 a1, .bool true]) Tryz.func3 rfl rfl esmFormats_c29 w
    · cases a2
      · exact one [a0, a1] [(0, 8, 3), (1, 4, 3)] (fun e he => by
          simp only [List.mem_cons, List.not_mem_nil, or_false] at he
          rcases he with rfl | rfl
          · exact ⟨b0, ⟨by decide, by decide⟩, e0_8⟩
          · exact ⟨b1, ⟨by decide, by decide⟩, e1_4⟩) (vs := [.int .i64 a0, .int .i64 a1, .bool false]) Tryz.func3 rfl rfl esmFormats_c30 w
      · exact one [a0, a1] [(0, 8, 3), (1, 4, 3)] (fun e he => by
          simp only [List.mem_cons, List.not_mem_nil, or_false] at he
          rcases he with rfl | rfl
          · exact ⟨b0, ⟨by decide, by decide⟩, e0_8⟩
          · exact ⟨b1, ⟨by decide, by decide⟩, e1_4⟩) (vs := [.int .i64 a0, .int .i64 a1, .bool true]) Tryz.func3 rfl rfl esmFormats_c31 w
  · rcases (show r1_4 = 0 ∨ r1_4 = 1 ∨ r1_4 = 2 ∨ r1_4 = 3 by omega) with rfl | rfl | rfl | rfl
    · cases a2
      · exact one [a0, a1] [(0, 8, 4), (1, 4, 0)] (fun e he => by
          simp only [List.mem_cons, List.not_mem_nil, or_false] at he
          rcases he with rfl | rfl
          · exact ⟨b0, ⟨by decide, by decide⟩, e0_8⟩
          · exact ⟨b1, ⟨by decide, by decide⟩, e1_4⟩) (vs := [.int .i64 a0, .int .i64 a1, .bool false]) Tryz.func3 rfl rfl esmFormats_c32 w
      · exact one [a0, a1] [(0, 8, 4), (1, 4, 0)] (fun e he => by
          simp only [List.mem_cons, List.not_mem_nil, or_false] at he
          rcases he with rfl | rfl
          · exact ⟨b0, ⟨by decide, by decide⟩, e0_8⟩
          · exact ⟨b1, ⟨by decide, by decide⟩, e1_4⟩) (vs := [.int .i64 a0, .int .i64 a1, .bool true]) Tryz.func3 rfl rfl esmFormats_c33 w
    · cases a2
      · exact one [a0, a1] [(0, 8, 4), (1, 4, 1)] (fun e he => by
          simp only [List.mem_cons, List.not_mem_nil, or_false] at he
          rcases he with rfl | rfl
          · exact ⟨b0, ⟨by decide, by decide⟩, e0_8⟩
          · exact ⟨b1, ⟨by decide, by decide⟩, e1_4⟩) (vs := [.int .i64 a0, .int .i64 a1, .bool false]) Tryz.func3 rfl rfl esmFormats_c34 w
      · exact one [a0, a1] [(0, 8, 4), (1, 4, 1)] (fun e he => by
          simp only [List.mem_cons, List.not_mem_nil, or_false] at he
          rcases he with rfl | rfl
          · exact ⟨b0, ⟨by decide, by decide⟩, e0_8⟩
          · exact ⟨b1, ⟨by decide, by decide⟩, e1_4⟩) (vs := [.int .i64 a0, .int .i64 a1, .bool true]) Tryz.func3 rfl rfl esmFormats_c35 w
    · cases a2
      · exact one [a0, a1] [(0, 8, 4), (1, 4, 2)] (fun e he => by
          simp only [List.mem_cons, List.not_mem_nil, or_false] at he
          rcases he with rfl | rfl
          · exact ⟨b0, ⟨by decide, by decide⟩, e0_8⟩
          · exact ⟨b1, ⟨by decide, by decide⟩, e1_4⟩) (vs := [.int .i64 a0, .int .i64 a1, .bool false]) Tryz.func3 rfl rfl esmFormats_c36 w
      · exact one [a0, a1] [(0, 8, 4), (1, 4, 2)] (fun e he => by
          simp only [List.mem_cons, List.not_mem_nil, or_false] at he
          rcases he with rfl | rfl
          · exact ⟨b0, ⟨by decide, by decide⟩, e0_8⟩
          · exact ⟨b1, ⟨by decide, by decide⟩, e1_4⟩) (vs := [.int .i64 a0, .int .i64 a1, .bool true]) Tryz.func3 rfl rfl esmFormats_c37 w
    · cases a2
      · exact one [a0, a1] [(0, 8, 4), (1, 4, 3)] (fun e he => by
          simp only [List.mem_cons, List.not_mem_nil, or_false] at he
          rcases he with rfl | rfl
          · exact ⟨b0, ⟨by decide, by decide⟩, e0_8⟩
          · exact ⟨b1, ⟨by decide, by decide⟩, e1_4⟩) (vs := [.int .i64 a0, .int .i64 a1, .bool false]) Tryz.func3 rfl rfl esmFormats_c38 w
      · exact one [a0, a1] [(0, 8, 4), (1, 4, 3)] (fun e he => by
          simp only [List.mem_cons, List.not_mem_nil, or_false] at he
          rcases he with rfl | rfl
          · exact ⟨b0, ⟨by decide, by decide⟩, e0_8⟩
          · exact ⟨b1, ⟨by decide, by decide⟩, e1_4⟩) (vs := [.int .i64 a0, .int .i64 a1, .bool true]) Tryz.func3 rfl rfl esmFormats_c39 w
  · rcases (show r1_4 = 0 ∨ r1_4 = 1 ∨ r1_4 = 2 ∨ r1_4 = 3 by omega) with rfl | rfl | rfl | rfl
    · cases a2
      · exact one [a0, a1] [(0, 8, 5), (1, 4, 0)] (fun e he => by
          simp only [List.mem_cons, List.not_mem_nil, or_false] at he
          rcases he with rfl | rfl
          · exact ⟨b0, ⟨by decide, by decide⟩, e0_8⟩
          · exact ⟨b1, ⟨by decide, by decide⟩, e1_4⟩) (vs := [.int .i64 a0, .int .i64 a1, .bool false]) Tryz.func3 rfl rfl esmFormats_c40 w
      · exact one [a0, a1] [(0, 8, 5), (1, 4, 0)] (fun e he => by
          simp only [List.mem_cons, List.not_mem_nil, or_false] at he
          rcases he with rfl | rfl
          · exact ⟨b0, ⟨by decide, by decide⟩, e0_8⟩
          · exact ⟨b1, ⟨by decide, by decide⟩, e1_4⟩) (vs := [.int .i64 a0, .int .i64 a1, .bool true]) Tryz.func3 rfl rfl esmFormats_c41 w
    · cases a2
      · exact one [a0, a1] [(0, 8, 5), (1, 4, 1)] (fun e he => by
          simp only [List.mem_cons, List.not_mem_nil, or_false] at he
          rcases he with rfl | rfl
          · exact ⟨b0, ⟨by decide, by decide⟩, e0_8⟩
          · exact ⟨b1, ⟨by decide, by decide⟩, e1_4⟩) (vs := [.int .i64 a0, .int .i64 a1, .bool false]) Tryz.func3 rfl rfl esmFormats_c42 w
      · exact one [a0, a1] [(0, 8, 5), (1, 4, 1)] (fun e he => by
          simp only [List.mem_cons, List.not_mem_nil, or_false] at he
          rcases he with rfl | rfl
          · exact ⟨b0, ⟨by decide, by decide⟩, e0_8⟩
          · exact ⟨b1, ⟨by decide, by decide⟩, e1_4⟩) (vs := [.int .i64 a0, .int .i64 a1, .bool true]) Tryz.func3 rfl rfl esmFormats_c43 w
    · cases a2
      · exact one [a0, a1] [(0, 8, 5), (1, 4, 2)] (fun e he => by
          simp only [List.mem_cons, List.not_mem_nil, or_false] at he
          rcases he with rfl | rfl
          · exact ⟨b0, ⟨by decide, by decide⟩, e0_8⟩
          · exact ⟨b1, ⟨by decide, by decide⟩, e1_4⟩) (vs := [.int .i64 a0, .int .i64 a1, .bool false]) Tryz.func3 rfl rfl esmFormats_c44 w
      · exact one [a0, a1] [(0, 8, 5), (1, 4, 2)] (fun e he => by
          simp only [List.mem_cons, List.not_mem_nil, or_false] at he
          rcases he with rfl | rfl
          · exact ⟨b0, ⟨by decide, by decide⟩, e0_8⟩
          · exact ⟨b1, ⟨by decide, by decide⟩, e1_4⟩) (vs := [.int .i64 a0, .int .i64 a1, .bool true]) Tryz.func3 rfl rfl esmFormats_c45 w
    · cases a2
      · exact one [a0, a1] [(0, 8, 5), (1, 4, 3)] (fun e he => by
          simp only [List.mem_cons, List.not_mem_nil, or_false] at he
          rcases he with rfl | rfl
          · exact ⟨b0, ⟨by decide, by decide⟩, e0_8⟩
          · exact ⟨b1, ⟨by decide, by decide⟩, e1_4⟩) (vs := [.int .i64 a0, .int .i64 a1, .bool false]) Tryz.func3 rfl rfl esmFormats_c46 w
      · exact one [a0, a1] [(0, 8, 5), (1, 4, 3)] (fun e he => by
          simp only [List.mem_cons, List.not_mem_nil, or_false] at he
          rcases he with rfl | rfl
          · exact ⟨b0, ⟨by decide, by decide⟩, e0_8⟩
          · exact ⟨b1, ⟨by decide, by decide⟩, e1_4⟩) (vs := [.int .i64 a0, .int .i64 a1, .bool true]) Tryz.func3 rfl rfl esmFormats_c47 w
  · rcases (show r1_4 = 0 ∨ r1_4 = 1 ∨ r1_4 = 2 ∨ r1_4 = 3 by omega) with rfl | rfl | rfl | rfl
    · cases a2
      · exact one [a0, a1] [(0, 8, 6), (1, 4, 0)] (fun e he => by
          simp only [List.mem_cons, List.not_mem_nil, or_false] at he
          rcases he with rfl | rfl
          · exact ⟨b0, ⟨by decide, by decide⟩, e0_8⟩
          · exact ⟨b1, ⟨by decide, by decide⟩, e1_4⟩) (vs := [.int .i64 a0, .int .i64 a1, .bool false]) Tryz.func3 rfl rfl esmFormats_c48 w
      · exact one [a0, a1] [(0, 8, 6), (1, 4, 0)] (fun e he => by
          simp only [List.mem_cons, List.not_mem_nil, or_false] at he
          rcases he with rfl | rfl
          · exact ⟨b0, ⟨by decide, by decide⟩, e0_8⟩
          · exact ⟨b1, ⟨by decide, by decide⟩, e1_4⟩) (vs := [.int .i64 a0, .int .i64 a1, .bool true]) Tryz.func3 rfl rfl esmFormats_c49 w
    · cases a2
      · exact one [a0, a1] [(0, 8, 6), (1, 4, 1)] (fun e he => by
          simp only [List.mem_cons, List.not_mem_nil, or_false] at he
          rcases he with rfl | rfl
          · exact ⟨b0, ⟨by decide, by decide⟩, e0_8⟩
          · exact ⟨b1, ⟨by decide, by decide⟩, e1_4⟩) (vs := [.int .i64 a0, .int .i64 a1, .bool false]) Tryz.func3 rfl rfl esmFormats_c50 w
      · exact one [a0, a1] [(0, 8, 6), (1, 4, 1)] (fun e he => by
          simp only [List.mem_cons, List.not_mem_nil, or_false] at he
          rcases he with rfl | rfl
          · exact ⟨b0, ⟨by decide, by decide⟩, e0_8⟩
          · exact ⟨b1, ⟨by decide, by decide⟩, e1_4⟩) (vs := [.int .i64 a0, .int .i64 a1, .bool true]) Tryz.func3 rfl rfl esmFormats_c51 w
    · cases a2
      · exact one [a0, a1] [(0, 8, 6), (1, 4, 2)] (fun e he => by
          simp only [List.mem_cons, List.not_mem_nil, or_false] at he
          rcases he with rfl | rfl
          · exact ⟨b0, ⟨by decide, by decide⟩, e0_8⟩
          · exact ⟨b1, ⟨by decide, by decide⟩, e1_4⟩) (vs := [.int .i64 a0, .int .i64 a1, .bool false]) Tryz.func3 rfl rfl esmFormats_c52 w
      · exact one [a0, a1] [(0, 8, 6), (1, 4, 2)] (fun e he => by
          simp only [List.mem_cons, List.not_mem_nil, or_false] at he
          rcases he with rfl | rfl
          · exact ⟨b0, ⟨by decide, by decide⟩, e0_8⟩
          · exact ⟨b1, ⟨by decide, by decide⟩, e1_4⟩) (vs := [.int .i64 a0, .int .i64 a1, .bool true]) Tryz.func3 rfl rfl esmFormats_c53 w
    · cases a2
      · exact one [a0, a1] [(0, 8, 6), (1, 4, 3)] (fun e he => by
          simp only [List.mem_cons, List.not_mem_nil, or_false] at he
          rcases he with rfl | rfl
          · exact ⟨b0, ⟨by decide, by decide⟩, e0_8⟩
          · exact ⟨b1, ⟨by decide, by decide⟩, e1_4⟩) (vs := [.int .i64 a0, .int .i64 a1, .bool false]) Tryz.func3 rfl rfl esmFormats_c54 w
      · exact one [a0, a1] [(0, 8, 6), (1, 4, 3)] (fun e he => by
          simp only [List.mem_cons, List.not_mem_nil, or_false] at he
          rcases he with rfl | rfl
          · exact ⟨b0, ⟨by decide, by decide⟩, e0_8⟩
          · exact ⟨b1, ⟨by decide, by decide⟩, e1_4⟩) (vs := [.int .i64 a0, .int .i64 a1, .bool true]) Tryz.func3 rfl rfl esmFormats_c55 w
  · rcases (show r1_4 = 0 ∨ r1_4 = 1 ∨ r1_4 = 2 ∨ r1_4 = 3 by omega) with rfl | rfl | rfl | rfl
    · cases a2
      · exact one [a0, a1] [(0, 8, 7), (1, 4, 0)] (fun e he => by
          simp only [List.mem_cons, List.not_mem_nil, or_false] at he
          rcases he with rfl | rfl
          · exact ⟨b0, ⟨by decide, by decide⟩, e0_8⟩
          · exact ⟨b1, ⟨by decide, by decide⟩, e1_4⟩) (vs := [.int .i64 a0, .int .i64 a1, .bool false]) Tryz.func3 rfl rfl esmFormats_c56 w
      · exact one [a0, a1] [(0, 8, 7), (1, 4, 0)] (fun e he => by
          simp only [List.mem_cons, List.not_mem_nil, or_false] at he
          rcases he with rfl | rfl
          · exact ⟨b0, ⟨by decide, by decide⟩, e0_8⟩
          · exact ⟨b1, ⟨by decide, by decide⟩, e1_4⟩) (vs := [.int .i64 a0, .int .i64 a1, .bool true]) Tryz.func3 rfl rfl esmFormats_c57 w
    · cases a2
      · exact one [a0, a1] [(0, 8, 7), (1, 4, 1)] (fun e he => by
          simp only [List.mem_cons, List.not_mem_nil, or_false] at he
          rcases he with rfl | rfl
          · exact ⟨b0, ⟨by decide, by decide⟩, e0_8⟩
          · exact ⟨b1, ⟨by decide, by decide⟩, e1_4⟩) (vs := [.int .i64 a0, .int .i64 a1, .bool false]) Tryz.func3 rfl rfl esmFormats_c58 w
      · exact one [a0, a1] [(0, 8, 7), (1, 4, 1)] (fun e he => by
          simp only [List.mem_cons, List.not_mem_nil, or_false] at he
          rcases he with rfl | rfl
          · exact ⟨b0, ⟨by decide, by decide⟩, e0_8⟩
          · exact ⟨b1, ⟨by decide, by decide⟩, e1_4⟩) (vs := [.int .i64 a0, .int .i64 a1, .bool true]) Tryz.func3 rfl rfl esmFormats_c59 w
    · cases a2
      · exact one [a0, a1] [(0, 8, 7), (1, 4, 2)] (fun e he => by
          simp only [List.mem_cons, List.not_mem_nil, or_false] at he
          rcases he with rfl | rfl
          · exact ⟨b0, ⟨by decide, by decide⟩, e0_8⟩
          · exact ⟨b1, ⟨by decide, by decide⟩, e1_4⟩) (vs := [.int .i64 a0, .int .i64 a1, .bool false]) Tryz.func3 rfl rfl esmFormats_c60 w
      · exact one [a0, a1] [(0, 8, 7), (1, 4, 2)] (fun e he => by
          simp only [List.mem_cons, List.not_mem_nil, or_false] at he
          rcases he with rfl | rfl
          · exact ⟨b0, ⟨by decide, by decide⟩, e0_8⟩
          · exact ⟨b1, ⟨by decide, by decide⟩, e1_4⟩) (vs := [.int .i64 a0, .int .i64 a1, .bool true]) Tryz.func3 rfl rfl esmFormats_c61 w
    · cases a2
      · exact one [a0, a1] [(0, 8, 7), (1, 4, 3)] (fun e he => by
          simp only [List.mem_cons, List.not_mem_nil, or_false] at he
          rcases he with rfl | rfl
          · exact ⟨b0, ⟨by decide, by decide⟩, e0_8⟩
          · exact ⟨b1, ⟨by decide, by decide⟩, e1_4⟩) (vs := [.int .i64 a0, .int .i64 a1, .bool false]) Tryz.func3 rfl rfl esmFormats_c62 w
      · exact one [a0, a1] [(0, 8, 7), (1, 4, 3)] (fun e he => by
          simp only [List.mem_cons, List.not_mem_nil, or_false] at he
          rcases he with rfl | rfl
          · exact ⟨b0, ⟨by decide, by decide⟩, e0_8⟩
          · exact ⟨b1, ⟨by decide, by decide⟩, e1_4⟩) (vs := [.int .i64 a0, .int .i64 a1, .bool true]) Tryz.func3 rfl rfl esmFormats_c63 w
end Go.Proofs.YtkglgkpegledoaaGreatDoor
