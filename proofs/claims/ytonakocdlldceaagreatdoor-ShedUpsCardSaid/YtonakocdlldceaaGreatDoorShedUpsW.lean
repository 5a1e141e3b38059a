/- Law gossamerlaw27.ShedUps: its cases, all of them. -/
import Derived.Test.YtonakocdlldceaaGreatDoorFin
import Derived.Test.YtonakocdlldceaaGreatDoorShedUpsC0
import Derived.Test.YtonakocdlldceaaGreatDoorShedUpsC1
import Derived.Test.YtonakocdlldceaaGreatDoorShedUpsC2
import Derived.Test.YtonakocdlldceaaGreatDoorShedUpsC3
import Derived.Test.YtonakocdlldceaaGreatDoorShedUpsC4
import Derived.Test.YtonakocdlldceaaGreatDoorShedUpsC5
import Derived.Test.YtonakocdlldceaaGreatDoorShedUpsC6
import Derived.Test.YtonakocdlldceaaGreatDoorShedUpsC7
set_option linter.unusedVariables false
set_option maxRecDepth 100000
namespace Go.Proofs.YtonakocdlldceaaGreatDoor
open Go Go.Proofs Go.RowKit Go.Ev
theorem ShedUps_walk (a0_0 : Bool) (a0_1 : Bool) (a0_2 : Bool) (a0_3 : Bool) (a1 : Int) (w : World) (w1 : (Lit.int .i64 a1).wf = true) (htab : Tab w) :
    Calls Tryz.prog 3 #[.agg #[.bool a0_0, .bool a0_1, .bool a0_2, .bool a0_3], .int .i64 a1] w fun e w' => e = .returned (.bool true) ∧ Below w.heap.size w w' := by
  have b1 := wf64 w1
  obtain ⟨r1_5, e1_5, l1_5⟩ : ∃ r : Nat, lowN a1 5 = r ∧ r < 5 := by
    have := lowN_bd a1 5 (by omega)
    exact ⟨(lowN a1 5).toNat, by omega, by omega⟩
  cases a0_0 <;> cases a0_1 <;> cases a0_2 <;> cases a0_3
  · rcases (show r1_5 = 0 ∨ r1_5 = 1 ∨ r1_5 = 2 ∨ r1_5 = 3 ∨ r1_5 = 4 by omega) with rfl | rfl | rfl | rfl | rfl
    · exact one [a1] [(0, 5, 0)] (fun e he => by
        simp only [List.mem_cons, List.not_mem_nil, or_false] at he
        subst he; exact ⟨b1, ⟨by decide, by decide⟩, e1_5⟩) (vs := [.agg #[.bool false, .bool false, .bool false, .bool false], .int .i64 a1]) Tryz.func3 rfl rfl shedUps_c0 w
    · exact one [a1] [(0, 5, 1)] (fun e he => by
        simp only [List.mem_cons, List.not_mem_nil, or_false] at he
        subst he; exact ⟨b1, ⟨by decide, by decide⟩, e1_5⟩) (vs := [.agg #[.bool false, .bool false, .bool false, .bool false], .int .i64 a1]) Tryz.func3 rfl rfl shedUps_c1 w
    · exact one [a1] [(0, 5, 2)] (fun e he => by
        simp only [List.mem_cons, List.not_mem_nil, or_false] at he
        subst he; exact ⟨b1, ⟨by decide, by decide⟩, e1_5⟩) (vs := [.agg #[.bool false, .bool false, .bool false, .bool false], .int .i64 a1]) Tryz.func3 rfl rfl shedUps_c2 w
    · exact one [a1] [(0, 5, 3)] (fun e he => by
        simp only [List.mem_cons, List.not_mem_nil, or_false] at he
        subst he; exact ⟨b1, ⟨by decide, by decide⟩, e1_5⟩) (vs := [.agg #[.bool false, .bool false, .bool false, .bool false], .int .i64 a1]) Tryz.func3 rfl rfl shedUps_c3 w
    · exact one [a1] [(0, 5, 4)] (fun e he => by
        simp only [List.mem_cons, List.not_mem_nil, or_false] at he
        subst he; exact ⟨b1, ⟨by decide, by decide⟩, e1_5⟩) (vs := [.agg #[.bool false, .bool false, .bool false, .bool false], .int .i64 a1]) Tryz.func3 rfl rfl shedUps_c4 w
  · rcases (show r1_5 = 0 ∨ r1_5 = 1 ∨ r1_5 = 2 ∨ r1_5 = 3 ∨ r1_5 = 4 by omega) with rfl | rfl | rfl | rfl | rfl
    · exact one [a1] [(0, 5, 0)] (fun e he => by
        simp only [List.mem_cons, List.not_mem_nil, or_false] at he
        subst he; exact ⟨b1, ⟨by decide, by decide⟩, e1_5⟩) (vs := [.agg #[.bool false, .bool false, .bool false, .bool true], .int .i64 a1]) Tryz.func3 rfl rfl shedUps_c5 w
    · exact one [a1] [(0, 5, 1)] (fun e he => by
        simp only [List.mem_cons, List.not_mem_nil, or_false] at he
        subst he; exact ⟨b1, ⟨by decide, by decide⟩, e1_5⟩) (vs := [.agg #[.bool false, .bool false, .bool false, .bool true], .int .i64 a1]) Tryz.func3 rfl rfl shedUps_c6 w
    · exact one [a1] [(0, 5, 2)] (fun e he => by
        simp only [List.mem_cons, List.not_mem_nil, or_false] at he
        subst he; exact ⟨b1, ⟨by decide, by decide⟩, e1_5⟩) (vs := [.agg #[.bool false, .bool false, .bool false, .bool true], .int .i64 a1]) Tryz.func3 rfl rfl shedUps_c7 w
    · exact one [a1] [(0, 5, 3)] (fun e he => by
        simp only [List.mem_cons, List.not_mem_nil, or_false] at he
        subst he; exact ⟨b1, ⟨by decide, by decide⟩, e1_5⟩) (vs := [.agg #[.bool false, .bool false, .bool false, .bool true], .int .i64 a1]) Tryz.func3 rfl rfl shedUps_c8 w
    · exact one [a1] [(0, 5, 4)] (fun e he => by
        simp only [List.mem_cons, List.not_mem_nil, or_false] at he
        subst he; exact ⟨b1, ⟨by decide, by decide⟩, e1_5⟩) (vs := [.agg #[.bool false, .bool false, .bool false, .bool true], .int .i64 a1]) Tryz.func3 rfl rfl shedUps_c9 w
  · rcases (show r1_5 = 0 ∨ r1_5 = 1 ∨ r1_5 = 2 ∨ r1_5 = 3 ∨ r1_5 = 4 by omega) with rfl | rfl | rfl | rfl | rfl
    · exact one [a1] [(0, 5, 0)] (fun e he => by
        simp only [List.mem_cons, List.not_mem_nil, or_false] at he
        subst he; exact ⟨b1, ⟨by decide, by decide⟩, e1_5⟩) (vs := [.agg #[.bool false, .bool false, .bool true, .bool false], .int .i64 a1]) Tryz.func3 rfl rfl shedUps_c10 w
    · exact one [a1] [(0, 5, 1)] (fun e he => by
        simp only [List.mem_cons, List.not_mem_nil, or_false] at he
        subst he; exact ⟨b1, ⟨by decide, by decide⟩, e1_5⟩) (vs := [.agg #[.bool false, .bool false, .bool true, .bool false], .int .i64 a1]) Tryz.func3 rfl rfl shedUps_c11 w
    · exact one [a1] [(0, 5, 2)] (fun e he => by
        simp only [List.mem_cons, List.not_mem_nil, or_false] at he
        subst he; exact ⟨b1, ⟨by decide, by decide⟩, e1_5⟩) (vs := [.agg #[.bool false, .bool false, .bool true, .bool false], .int .i64 a1]) Tryz.func3 rfl rfl shedUps_c12 w
    · exact one [a1] [(0, 5, 3)] (fun e he => by
        simp only [List.mem_cons, List.not_mem_nil, or_false] at he
        subst he; exact ⟨b1, ⟨by decide, by decide⟩, e1_5⟩) (vs := [.agg #[.bool false, .bool false, .bool true, .bool false], .int .i64 a1]) Tryz.func3 rfl rfl shedUps_c13 w
    · exact one [a1] [(0, 5, 4)] (fun e he => by
        simp only [List.mem_cons, List.not_mem_nil, or_false] at he
        subst he; exact ⟨b1, ⟨by decide, by decide⟩, e1_5⟩) (vs := [.agg #[.bool false, .bool false, .bool true, .bool false], .int .i64 a1]) Tryz.func3 rfl rfl shedUps_c14 w
  · rcases (show r1_5 = 0 ∨ r1_5 = 1 ∨ r1_5 = 2 ∨ r1_5 = 3 ∨ r1_5 = 4 by omega) with rfl | rfl | rfl | rfl | rfl
    · exact one [a1] [(0, 5, 0)] (fun e he => by
        simp only [List.mem_cons, List.not_mem_nil, or_false] at he
        subst he; exact ⟨b1, ⟨by decide, by decide⟩, e1_5⟩) (vs := [.agg #[.bool false, .bool false, .bool true, .bool true], .int .i64 a1]) Tryz.func3 rfl rfl shedUps_c15 w
    · exact one [a1] [(0, 5, 1)] (fun e he => by
        simp only [List.mem_cons, List.not_mem_nil, or_false] at he
        subst he; exact ⟨b1, ⟨by decide, by decide⟩, e1_5⟩) (vs := [.agg #[.bool false, .bool false, .bool true, .bool true], .int .i64 a1]) Tryz.func3 rfl rfl shedUps_c16 w
    · exact one [a1] [(0, 5, 2)] (fun e he => by
        simp only [List.mem_cons, List.not_mem_nil, or_false] at he
        subst he; exact ⟨b1, ⟨by decide, by decide⟩, e1_5⟩) (vs := [.agg #[.bool false, .bool false, .bool true, .bool true], .int .i64 a1]) Tryz.func3 rfl rfl shedUps_c17 w
    · exact one [a1] [(0, 5, 3)] (fun e he => by
        simp only [List.mem_cons, List.not_mem_nil, or_false] at he
        subst he; exact ⟨b1, ⟨by decide, by decide⟩, e1_5⟩) (vs := [.agg #[.bool false, .bool false, .bool true, .bool true], .int .i64 a1]) Tryz.func3 rfl rfl shedUps_c18 w
    · exact one [a1] [(0, 5, 4)] (fun e he => by
        simp only [List.mem_cons, List.not_mem_nil, or_false] at he
        subst he; exact ⟨b1, ⟨by decide, by decide⟩, e1_5⟩) (vs := [.agg #[.bool false, .bool false, .bool true, .bool true], .int .i64 a1]) Tryz.func3 rfl rfl shedUps_c19 w
  · rcases (show r1_5 = 0 ∨ r1_5 = 1 ∨ r1_5 = 2 ∨ r1_5 = 3 ∨ r1_5 = 4 by omega) with rfl | rfl | rfl | rfl | rfl
    · exact one [a1] [(0, 5, 0)] (fun e he => by
        simp only [List.mem_cons, List.not_mem_nil, or_false] at he
        subst he; exact ⟨b1, ⟨by decide, by decide⟩, e1_5⟩) (vs := [.agg #[.bool false, .bool true, .bool false, .bool false], .int .i64 a1]) Tryz.func3 rfl rfl shedUps_c20 w
    · exact one [a1] [(0, 5, 1)] (fun e he => by
        simp only [List.mem_cons, List.not_mem_nil, or_false] at he
        subst he; exact ⟨b1, ⟨by decide, by decide⟩, e1_5⟩) (vs := [.agg #[.bool false, .bool true, .bool false, .bool false], .int .i64 a1]) Tryz.func3 rfl rfl shedUps_c21 w
    · exact one [a1] [(0, 5, 2)] (fun e he => by
        simp only [List.mem_cons, List.not_mem_nil, or_false] at he
        subst he; exact ⟨b1, ⟨by decide, by decide⟩, e1_5⟩) (vs := [.agg #[.bool false, .bool true, .bool false, .bool false], .int .i64 a1]) Tryz.func3 rfl rfl shedUps_c22 w
    · exact one [a1] [(0, 5, 3)] (fun e he => by
        simp only [List.mem_cons, List.not_mem_nil, or_false] at he
        subst he; exact ⟨b1, ⟨by decide, by decide⟩, e1_5⟩) (vs := [.agg #[.bool false, .bool true, .bool false, .bool false], .int .i64 a1]) Tryz.func3 rfl rfl shedUps_c23 w
    · exact one [a1] [(0, 5, 4)] (fun e he => by
        simp only [List.mem_cons, List.not_mem_nil, or_false] at he
        subst he; exact ⟨b1, ⟨by decide, by decide⟩, e1_5⟩) (vs := [.agg #[.bool false, .bool true, .bool false, .bool false], .int .i64 a1]) Tryz.func3 rfl rfl shedUps_c24 w
  · rcases (show r1_5 = 0 ∨ r1_5 = 1 ∨ r1_5 = 2 ∨ r1_5 = 3 ∨ r1_5 = 4 by omega) with rfl | rfl | rfl | rfl | rfl
    · exact one [a1] [(0, 5, 0)] (fun e he => by
        simp only [List.mem_cons, List.not_mem_nil, or_false] at he
        subst he; exact ⟨b1, ⟨by decide, by decide⟩, e1_5⟩) (vs := [.agg #[.bool false, .bool true, .bool false, .bool true], .int .i64 a1]) Tryz.func3 rfl rfl shedUps_c25 w
    · exact one [a1] [(0, 5, 1)] (fun e he => by
        simp only [List.mem_cons, List.not_mem_nil, or_false] at he
        subst he; exact ⟨b1, ⟨by decide, by decide⟩, e1_5⟩) (vs := [.agg #[.bool false, .bool true, .bool false, .bool true], .int .i64 a1]) Tryz.func3 rfl rfl shedUps_c26 w
    · exact one [a1] [(0, 5, 2)] (fun e he => by
        simp only [List.mem_cons, List.not_mem_nil, or_false] at he
        subst he; exact ⟨b1, ⟨by decide, by decide⟩, e1_5⟩) (vs := [.agg #[.bool false, .bool true, .bool false, .bool true], .int .i64 a1]) Tryz.func3 rfl rfl shedUps_c27 w
    · exact one [a1] [(0, 5, 3)] (fun e he => by
        simp only [List.mem_cons, List.not_mem_nil, or_false] at he
        subst he; exact ⟨b1, ⟨by decide, by decide⟩, e1_5⟩) (vs := [.agg #[.bool false, .bool true, .bool false, .bool true], .int .i64 a1]) Tryz.func3 rfl rfl shedUps_c28 w
    · exact one [a1] [(0, 5, 4)] (fun e he => by
        simp only [List.mem_cons, List.not_mem_nil, or_false] at he
        subst he; exact ⟨b1, ⟨by decide, by decide⟩, e1_5⟩) (vs := [.agg #[.bool false, .bool true, .bool false, .bool true], .int .i64 a1]) Tryz.func3 rfl rfl shedUps_c29 w
  · rcases (show r1_5 = 0 ∨ r1_5 = 1 ∨ r1_5 = 2 ∨ r1_5 = 3 ∨ r1_5 = 4 by omega) with rfl | rfl | rfl | rfl | rfl
    · exact one [a1] [(0, 5, 0)] (fun e he => by
        simp only [List.mem_cons, List.not_mem_nil, or_false] at he
        subst he; exact ⟨b1, ⟨by decide, by decide⟩, e1_5⟩) (vs := [.agg #[.bool false, .bool true, .bool true, .bool false], .int .i64 a1]) Tryz.func3 rfl rfl shedUps_c30 w
    · exact one [a1] [(0, 5, 1)] (fun e he => by
        simp only [List.mem_cons, List.not_mem_nil, or_false] at he
        subst he; exact ⟨b1, ⟨by decide, by decide⟩, e1_5⟩) (vs := [.agg #[.bool false, .bool true, .bool true, .bool false], .int .i64 a1]) Tryz.func3 rfl rfl shedUps_c31 w
    · exact one [a1] [(0, 5, 2)] (fun e he => by
        simp only [List.mem_cons, List.not_mem_nil, or_false] at he
        subst he; exact ⟨b1, ⟨by decide, by decide⟩, e1_5⟩) (vs := [.agg #[.bool false, .bool true, .bool true, .bool false], .int .i64 a1]) Tryz.func3 rfl rfl shedUps_c32 w
    · exact one [a1] [(0, 5, 3)] (fun e he => by
        simp only [List.mem_cons, List.not_mem_nil, or_false] at he
        subst he; exact ⟨b1, ⟨by decide, by decide⟩, e1_5⟩) (vs := [.agg #[.bool false, .bool true, .bool true, .bool false], .int .i64 a1]) Tryz.func3 rfl rfl shedUps_c33 w
    · exact one [a1] [(0, 5, 4)] (fun e he => by
        simp only [List.mem_cons, List.not_mem_nil, or_false] at he
        subst he; exact ⟨b1, ⟨by decide, by decide⟩, e1_5⟩) (vs := [.agg #[.bool false, .bool true, .bool true, .bool false], .int .i64 a1]) Tryz.func3 rfl rfl shedUps_c34 w
  · rcases (show r1_5 = 0 ∨ r1_5 = 1 ∨ r1_5 = 2 ∨ r1_5 = 3 ∨ r1_5 = 4 by omega) with rfl | rfl | rfl | rfl | rfl
    · exact one [a1] [(0, 5, 0)] (fun e he => by
        simp only [List.mem_cons, List.not_mem_nil, or_false] at he
        subst he; exact ⟨b1, ⟨by decide, by decide⟩, e1_5⟩) (vs := [.agg #[.bool false, .bool true, .bool true, .bool true], .int .i64 a1]) Tryz.func3 rfl rfl shedUps_c35 w
    · exact one [a1] [(0, 5, 1)] (fun e he => by
        simp only [List.mem_cons, List.not_mem_nil, or_false] at he
        subst he; exact ⟨b1, ⟨by decide, by decide⟩, e1_5⟩) (vs := [.agg #[.bool false, .bool true, .bool true, .bool true], .int .i64 a1]) Tryz.func3 rfl rfl shedUps_c36 w
    · exact one [a1] [(0, 5, 2)] (fun e he => by
        simp only [List.mem_cons, List.not_mem_nil, or_false] at he
        subst he; exact ⟨b1, ⟨by decide, by decide⟩, e1_5⟩) (vs := [.agg #[.bool false, .bool true, .bool true, .bool true], .int .i64 a1]) Tryz.func3 rfl rfl shedUps_c37 w
    · exact one [a1] [(0, 5, 3)] (fun e he => by
        simp only [List.mem_cons, List.not_mem_nil, or_false] at he
        subst he; exact ⟨b1, ⟨by decide, by decide⟩, e1_5⟩) (vs := [.agg #[.bool false, .bool true, .bool true, .bool true], .int .i64 a1]) Tryz.func3 rfl rfl shedUps_c38 w
    · exact one [a1] [(0, 5, 4)] (fun e he => by
        simp only [List.mem_cons, List.not_mem_nil, or_false] at he
        subst he; exact ⟨b1, ⟨by decide, by decide⟩, e1_5⟩) (vs := [.agg #[.bool false, .bool true, .bool true, .bool true], .int .i64 a1]) Tryz.func3 rfl rfl shedUps_c39 w
  · rcases (show r1_5 = 0 ∨ r1_5 = 1 ∨ r1_5 = 2 ∨ r1_5 = 3 ∨ r1_5 = 4 by omega) with rfl | rfl | rfl | rfl | rfl
    · exact one [a1] [(0, 5, 0)] (fun e he => by
        simp only [List.mem_cons, List.not_mem_nil, or_false] at he
        subst he; exact ⟨b1, ⟨by decide, by decide⟩, e1_5⟩) (vs := [.agg #[.bool true, .bool false, .bool false, .bool false], .int .i64 a1]) Tryz.func3 rfl rfl shedUps_c40 w
    · exact one [a1] [(0, 5, 1)] (fun e he => by
        simp only [List.mem_cons, List.not_mem_nil, or_false] at he
        subst he; exact ⟨b1, ⟨by decide, by decide⟩, e1_5⟩) (vs := [.agg #[.bool true, .bool false, .bool false, .bool false], .int .i64 a1]) Tryz.func3 rfl rfl shedUps_c41 w
    · exact one [a1] [(0, 5, 2)] (fun e he => by
        simp only [List.mem_cons, List.not_mem_nil, or_false] at he
        subst he; exact ⟨b1, ⟨by decide, by decide⟩, e1_5⟩) (vs := [.agg #[.bool true, .bool false, .bool false, .bool false], .int .i64 a1]) Tryz.func3 rfl rfl shedUps_c42 w
    · exact one [a1] [(0, 5, 3)] (fun e he => by
        simp only [List.mem_cons, List.not_mem_nil, or_false] at he
        subst he; exact ⟨b1, ⟨by decide, by decide⟩, e1_5⟩) (vs := [.agg #[.bool true, .bool false, .bool false, .bool false], .int .i64 a1]) Tryz.func3 rfl rfl shedUps_c43 w
    · exact one [a1] [(0, 5, 4)] (fun e he => by
        simp only [List.mem_cons, List.not_mem_nil, or_false] at he
        subst he; exact ⟨b1, ⟨by decide, by decide⟩, e1_5⟩) (vs := [.agg #[.bool true, .bool false, .bool false, .bool false], .int .i64 a1]) Tryz.func3 rfl rfl shedUps_c44 w
  · rcases (show r1_5 = 0 ∨ r1_5 = 1 ∨ r1_5 = 2 ∨ r1_5 = 3 ∨ r1_5 = 4 by omega) with rfl | rfl | rfl | rfl | rfl
    · exact one [a1] [(0, 5, 0)] (fun e he => by
        simp only [List.mem_cons, List.not_mem_nil, or_false] at he
        subst he; exact ⟨b1, ⟨by decide, by decide⟩, e1_5⟩) (vs := [.agg #[.bool true, .bool false, .bool false, .bool true], .int .i64 a1]) Tryz.func3 rfl rfl shedUps_c45 w
    · exact one [a1] [(0, 5, 1)] (fun e he => by
        simp only [List.mem_cons, List.not_mem_nil, or_false] at he
        subst he; exact ⟨b1, ⟨by decide, by decide⟩, e1_5⟩) (vs := [.agg #[.bool true, .bool false, .bool false, .bool true], .int .i64 a1]) Tryz.func3 rfl rfl shedUps_c46 w
    · exact one [a1] [(0, 5, 2)] (fun e he => by
        simp only [List.mem_cons, List.not_mem_nil, or_false] at he
        subst he; exact ⟨b1, ⟨by decide, by decide⟩, e1_5⟩) (vs := [.agg #[.bool true, .bool false, .bool false, .bool true], .int .i64 a1]) Tryz.func3 rfl rfl shedUps_c47 w
    · exact one [a1] [(0, 5, 3)] (fun e he => by
        simp only [List.mem_cons, List.not_mem_nil, or_false] at he
        subst he; exact ⟨b1, ⟨by decide, by decide⟩, e1_5⟩) (vs := [.agg #[.bool true, .bool false, .bool false, .bool true], .int .i64 a1]) Tryz.func3 rfl rfl shedUps_c48 w
    · exact one [a1] [(0, 5, 4)] (fun e he => by
        simp only [List.mem_cons, List.not_mem_nil, or_false] at he
        subst he; exact ⟨b1, ⟨by decide, by decide⟩, e1_5⟩) (vs := [.agg #[.bool true, .bool false, .bool false, .bool true], .int .i64 a1]) Tryz.func3 rfl rfl shedUps_c49 w
  · rcases (show r1_5 = 0 ∨ r1_5 = 1 ∨ r1_5 = 2 ∨ r1_5 = 3 ∨ r1_5 = 4 by omega) with rfl | rfl | rfl | rfl | rfl
    · exact one [a1] [(0, 5, 0)] (fun e he => by
        simp only [List.mem_cons, List.not_mem_nil, or_false] at he
        subst he; exact ⟨b1, ⟨by decide, by decide⟩, e1_5⟩) (vs := [.agg #[.bool true, .bool false, .bool true, .bool false], .int .i64 a1]) Tryz.func3 rfl rfl shedUps_c50 w
    · exact one [a1] [(0, 5, 1)] (fun e he => by
        simp only [List.mem_cons, List.not_mem_nil, or_false] at he
        subst he; exact ⟨b1, ⟨by decide, by decide⟩, e1_5⟩) (vs := [.agg #[.bool true, .bool false, .bool true, .bool false], .int .i64 a1]) Tryz.func3 rfl rfl shedUps_c51 w
    · exact one [a1] [(0, 5, 2)] (fun e he => by
        simp only [List.mem_cons, List.not_mem_nil, or_false] at he
        subst he; exact ⟨b1, ⟨by decide, by decide⟩, e1_5⟩) (vs := [.agg #[.bool true, .bool false, .bool true, .bool false], .int .i64 a1]) Tryz.func3 rfl rfl shedUps_c52 w
    · exact one [a1] [(0, 5, 3)] (fun e he => by
        simp only [List.mem_cons, List.not_mem_nil, or_false] at he
        subst he; exact ⟨b1, ⟨by decide, by decide⟩, e1_5⟩) (vs := [.agg #[.bool true, .bool false, .bool true, .bool false], .int .i64 a1]) Tryz.func3 rfl rfl shedUps_c53 w
    · exact one [a1] [(0, 5, 4)] (fun e he => by
        simp only [List.mem_cons, List.not_mem_nil, or_false] at he
        subst he; exact ⟨b1, ⟨by decide, by decide⟩, e1_5⟩) (vs := [.agg #[.bool true, .bool false, .bool true, .bool false], .int .i64 a1]) Tryz.func3 rfl rfl shedUps_c54 w
  · rcases (show r1_5 = 0 ∨ r1_5 = 1 ∨ r1_5 = 2 ∨ r1_5 = 3 ∨ r1_5 = 4 by omega) with rfl | rfl | rfl | rfl | rfl
    · exact one [a1] [(0, 5, 0)] (fun e he => by
        simp only [List.mem_cons, List.not_mem_nil, or_false] at he
        subst he; exact ⟨b1, ⟨by decide, by decide⟩, e1_5⟩) (vs := [.agg #[.bool true, .bool false, .bool true, .bool true], .int .i64 a1]) Tryz.func3 rfl rfl shedUps_c55 w
    · exact one [a1] [(0, 5, 1)] (fun e he => by
        simp only [List.mem_cons, List.not_mem_nil, or_false] at he
        subst he; exact ⟨b1, ⟨by decide, by decide⟩, e1_5⟩) (vs := [.agg #[.bool true, .bool false, .bool true, .bool true], .int .i64 a1]) Tryz.func3 rfl rfl shedUps_c56 w
    · exact one [a1] [(0, 5, 2)] (fun e he => by
        simp only [List.mem_cons, List.not_mem_nil, or_false] at he
        subst he; exact ⟨b1, ⟨by decide, by decide⟩, e1_5⟩) (vs := [.agg #[.bool true, .bool false, .bool true, .bool true], .int .i64 a1]) Tryz.func3 rfl rfl shedUps_c57 w
    · exact one [a1] [(0, 5, 3)] (fun e he => by
        simp only [List.mem_cons, List.not_mem_nil, or_false] at he
        subst he; exact ⟨b1, ⟨by decide, by decide⟩, e1_5⟩) (vs := [.agg #[.bool true, .bool false, .bool true, .bool true], .int .i64 a1]) Tryz.func3 rfl rfl shedUps_c58 w
    · exact one [a1] [(0, 5, 4)] (fun e he => by
        simp only [List.mem_cons, List.not_mem_nil, or_false] at he
        subst he; exact ⟨b1, ⟨by decide, by decide⟩, e1_5⟩) (vs := [.agg #[.bool true, .bool false, .bool true, .bool true], .int .i64 a1]) Tryz.func3 rfl rfl shedUps_c59 w
  · rcases (show r1_5 = 0 ∨ r1_5 = 1 ∨ r1_5 = 2 ∨ r1_5 = 3 ∨ r1_5 = 4 by omega) with rfl | rfl | rfl | rfl | rfl
    · exact one [a1] [(0, 5, 0)] (fun e he => by
        simp only [List.mem_cons, List.not_mem_nil, or_false] at he
        subst he; exact ⟨b1, ⟨by decide, by decide⟩, e1_5⟩) (vs := [.agg #[.bool true, .bool true, .bool false, .bool false], .int .i64 a1]) Tryz.func3 rfl rfl shedUps_c60 w
    · exact one [a1] [(0, 5, 1)] (fun e he => by
        simp only [List.mem_cons, List.not_mem_nil, or_false] at he
        subst he; exact ⟨b1, ⟨by decide, by decide⟩, e1_5⟩) (vs := [.agg #[.bool true, .bool true, .bool false, .bool false], .int .i64 a1]) Tryz.func3 rfl rfl shedUps_c61 w
    · exact one [a1] [(0, 5, 2)] (fun e he => by
        simp only [List.mem_cons, List.not_mem_nil, or_false] at he
        subst he; exact ⟨b1, ⟨by decide, by decide⟩, e1_5⟩) (vs := [.agg #[.bool true, .bool true, .bool false, .bool false], .int .i64 a1]) Tryz.func3 rfl rfl shedUps_c62 w
    · exact one [a1] [(0, 5, 3)] (fun e he => by
        simp only [List.mem_cons, List.not_mem_nil, or_false] at he
        subst he; exact ⟨b1, ⟨by decide, by decide⟩, e1_5⟩) (vs := [.agg #[.bool true, .bool true, .bool false, .bool false], .int .i64 a1]) Tryz.func3 rfl rfl shedUps_c63 w
    · exact one [a1] [(0, 5, 4)] (fun e he => by
        simp only [List.mem_cons, List.not_mem_nil, or_false] at he
        subst he; exact ⟨b1, ⟨by decide, by decide⟩, e1_5⟩) (vs := [.agg #[.bool true, .bool true, .bool false, .bool false], .int .i64 a1]) Tryz.func3 rfl rfl shedUps_c64 w
  · rcases (show r1_5 = 0 ∨ r1_5 = 1 ∨ r1_5 = 2 ∨ r1_5 = 3 ∨ r1_5 = 4 by omega) with rfl | rfl | rfl | rfl | rfl
    · exact one [a1] [(0, 5, 0)] (fun e he => by
        simp only [List.mem_cons, List.not_mem_nil, or_false] at he
        subst he; exact ⟨b1, ⟨by decide, by decide⟩, e1_5⟩) (vs := [.agg #[.bool true, .bool true, .bool false, .bool true], .int .i64 a1]) Tryz.func3 rfl rfl shedUps_c65 w
    · exact one [a1] [(0, 5, 1)] (fun e he => by
        simp only [List.mem_cons, List.not_mem_nil, or_false] at he
        subst he; exact ⟨b1, ⟨by decide, by decide⟩, e1_5⟩) (vs := [.agg #[.bool true, .bool true, .bool false, .bool true], .int .i64 a1]) Tryz.func3 rfl rfl shedUps_c66 w
    · exact one [a1] [(0, 5, 2)] (fun e he => by
        simp only [List.mem_cons, List.not_mem_nil, or_false] at he
        subst he; exact ⟨b1, ⟨by decide, by decide⟩, e1_5⟩) (vs := [.agg #[.bool true, .bool true, .bool false, .bool true], .int .i64 a1]) Tryz.func3 rfl rfl shedUps_c67 w
    · exact one [a1] [(0, 5, 3)] (fun e he => by
        simp only [List.mem_cons, List.not_mem_nil, or_false] at he
        subst he; exact ⟨b1, ⟨by decide, by decide⟩, e1_5⟩) (vs := [.agg #[.bool true, .bool true, .bool false, .bool true], .int .i64 a1]) Tryz.func3 rfl rfl shedUps_c68 w
    · exact one [a1] [(0, 5, 4)] (fun e he => by
        simp only [List.mem_cons, List.not_mem_nil, or_false] at he
        subst he; exact ⟨b1, ⟨by decide, by decide⟩, e1_5⟩) (vs := [.agg #[.bool true, .bool true, .bool false, .bool true], .int .i64 a1]) Tryz.func3 rfl rfl shedUps_c69 w
  · rcases (show r1_5 = 0 ∨ r1_5 = 1 ∨ r1_5 = 2 ∨ r1_5 = 3 ∨ r1_5 = 4 by omega) with rfl | rfl | rfl | rfl | rfl
    · exact one [a1] [(0, 5, 0)] (fun e he => by
        simp only [List.mem_cons, List.not_mem_nil, or_false] at he
        subst he; exact ⟨b1, ⟨by decide, by decide⟩, e1_5⟩) (vs := [.agg #[.bool true, .bool true, .bool true, .bool false], .int .i64 a1]) Tryz.func3 rfl rfl shedUps_c70 w
    · exact one [a1] [(0, 5, 1)] (fun e he => by
        simp only [List.mem_cons, List.not_mem_nil, or_false] at he
        subst he; exact ⟨b1, ⟨by decide, by decide⟩, e1_5⟩) (vs := [.agg #[.bool true, .bool true, .bool true, .bool false], .int .i64 a1]) Tryz.func3 rfl rfl shedUps_c71 w
    · exact one [a1] [(0, 5, 2)] (fun e he => by
        simp only [List.mem_cons, List.not_mem_nil, or_false] at he
        subst he; exact ⟨b1, ⟨by decide, by decide⟩, e1_5⟩) (vs := [.agg #[.bool true, .bool true, .bool true, .bool false], .int .i64 a1]) Tryz.func3 rfl rfl shedUps_c72 w
    · exact one [a1] [(0, 5, 3)] (fun e he => by
        simp only [List.mem_cons, List.not_mem_nil, or_false] at he
        subst he; exact ⟨b1, ⟨by decide, by decide⟩, e1_5⟩) (vs := [.agg #[.bool true, .bool true, .bool true, .bool false], .int .i64 a1]) Tryz.func3 rfl rfl shedUps_c73 w
    · exact one [a1] [(0, 5, 4)] (fun e he => by
        simp only [List.mem_cons, List.not_mem_nil, or_false] at he
        subst he; exact ⟨b1, ⟨by decide, by decide⟩, e1_5⟩) (vs := [.agg #[.bool true, .bool true, .bool true, .bool false], .int .i64 a1]) Tryz.func3 rfl rfl shedUps_c74 w
  · rcases (show r1_5 = 0 ∨ r1_5 = 1 ∨ r1_5 = 2 ∨ r1_5 = 3 ∨ r1_5 = 4 by omega) with rfl | rfl | rfl | rfl | rfl
    · exact one [a1] [(0, 5, 0)] (fun e he => by
        simp only [List.mem_cons, List.not_mem_nil, or_false] at he
        subst he; exact ⟨b1, ⟨by decide, by decide⟩, e1_5⟩) (vs := [.agg #[.bool true, .bool true, .bool true, .bool true], .int .i64 a1]) Tryz.func3 rfl rfl shedUps_c75 w
    · exact one [a1] [(0, 5, 1)] (fun e he => by
        simp only [List.mem_cons, List.not_mem_nil, or_false] at he
        subst he; exact ⟨b1, ⟨by decide, by decide⟩, e1_5⟩) (vs := [.agg #[.bool true, .bool true, .bool true, .bool true], .int .i64 a1]) Tryz.func3 rfl rfl shedUps_c76 w
    · exact one [a1] [(0, 5, 2)] (fun e he => by
        simp only [List.mem_cons, List.not_mem_nil, or_false] at he
        subst he; exact ⟨b1, ⟨by decide, by decide⟩, e1_5⟩) (vs := [.agg #[.bool true, .bool true, .bool true, .bool true], .int .i64 a1]) Tryz.func3 rfl rfl shedUps_c77 w
    · exact one [a1] [(0, 5, 3)] (fun e he => by
        simp only [List.mem_cons, List.not_mem_nil, or_false] at he
        subst he; exact ⟨b1, ⟨by decide, by decide⟩, e1_5⟩) (vs := [.agg #[.bool true, .bool true, .bool true, .bool true], .int .i64 a1]) Tryz.func3 rfl rfl shedUps_c78 w
    · exact one [a1] [(0, 5, 4)] (fun e he => by
        simp only [List.mem_cons, List.not_mem_nil, or_false] at he
        subst he; exact ⟨b1, ⟨by decide, by decide⟩, e1_5⟩) (vs := [.agg #[.bool true, .bool true, .bool true, .bool true], .int .i64 a1]) Tryz.func3 rfl rfl shedUps_c79 w
end Go.Proofs.YtonakocdlldceaaGreatDoor
