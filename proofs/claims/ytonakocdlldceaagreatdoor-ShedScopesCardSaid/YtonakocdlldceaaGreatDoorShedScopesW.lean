/- Law gossamerlaw27.ShedScopes: its cases, all of them. -/
import Derived.Test.YtonakocdlldceaaGreatDoorFin
import Derived.Test.YtonakocdlldceaaGreatDoorShedScopesC0
import Derived.Test.YtonakocdlldceaaGreatDoorShedScopesC1
import Derived.Test.YtonakocdlldceaaGreatDoorShedScopesC2
import Derived.Test.YtonakocdlldceaaGreatDoorShedScopesC3
import Derived.Test.YtonakocdlldceaaGreatDoorShedScopesC4
import Derived.Test.YtonakocdlldceaaGreatDoorShedScopesC5
import Derived.Test.YtonakocdlldceaaGreatDoorShedScopesC6
import Derived.Test.YtonakocdlldceaaGreatDoorShedScopesC7
set_option linter.unusedVariables false
set_option maxRecDepth 100000
namespace Go.Proofs.YtonakocdlldceaaGreatDoor
open Go Go.Proofs Go.RowKit Go.Ev
theorem ShedScopes_walk (a0_0 : Bool) (a0_1 : Bool) (a0_2 : Bool) (a0_3 : Bool) (a1 : Int) (w : World) (w1 : (Lit.int .i64 a1).wf = true) (htab : Tab w) :
    Calls Tryz.prog 4 #[.agg #[.bool a0_0, .bool a0_1, .bool a0_2, .bool a0_3], .int .i64 a1] w fun e w' => e = .returned (.bool true) ∧ Below w.heap.size w w' := by
  have b1 := wf64 w1
  obtain ⟨r1_5, e1_5, l1_5⟩ : ∃ r : Nat, lowN a1 5 = r ∧ r < 5 := by
    have := lowN_bd a1 5 (by omega)
    exact ⟨(lowN a1 5).toNat, by omega, by omega⟩
  cases a0_0 <;> cases a0_1 <;> cases a0_2 <;> cases a0_3
  · rcases (show r1_5 = 0 ∨ r1_5 = 1 ∨ r1_5 = 2 ∨ r1_5 = 3 ∨ r1_5 = 4 by omega) with rfl | rfl | rfl | rfl | rfl
    · exact one [a1] [(0, 5, 0)] (fun e he => by
        simp only [List.mem_cons, List.not_mem_nil, or_false] at he
        subst he; exact ⟨b1, ⟨by decide, by decide⟩, e1_5⟩) (vs := [.agg #[.bool false, .bool false, .bool false, .bool false], .int .i64 a1]) Tryz.func4 rfl rfl shedScopes_c0 w
    · exact one [a1] [(0, 5, 1)] (fun e he => by
        simp only [List.mem_cons, List.not_mem_nil, or_false] at he
        subst he; exact ⟨b1, ⟨by decide, by decide⟩, e1_5⟩) (vs := [.agg #[.bool false, .bool false, .bool false, .bool false], .int .i64 a1]) Tryz.func4 rfl rfl shedScopes_c1 w
    · exact one [a1] [(0, 5, 2)] (fun e he => by
        simp only [List.mem_cons, List.not_mem_nil, or_false] at he
        subst he; exact ⟨b1, ⟨by decide, by decide⟩, e1_5⟩) (vs := [.agg #[.bool false, .bool false, .bool false, .bool false], .int .i64 a1]) Tryz.func4 rfl rfl shedScopes_c2 w
    · exact one [a1] [(0, 5, 3)] (fun e he => by
        simp only [List.mem_cons, List.not_mem_nil, or_false] at he
        subst he; exact ⟨b1, ⟨by decide, by decide⟩, e1_5⟩) (vs := [.agg #[.bool false, .bool false, .bool false, .bool false], .int .i64 a1]) Tryz.func4 rfl rfl shedScopes_c3 w
    · exact one [a1] [(0, 5, 4)] (fun e he => by
        simp only [List.mem_cons, List.not_mem_nil, or_false] at he
        subst he; exact ⟨b1, ⟨by decide, by decide⟩, e1_5⟩) (vs := [.agg #[.bool false, .bool false, .bool false, .bool false], .int .i64 a1]) Tryz.func4 rfl rfl shedScopes_c4 w
  · rcases (show r1_5 = 0 ∨ r1_5 = 1 ∨ r1_5 = 2 ∨ r1_5 = 3 ∨ r1_5 = 4 by omega) with rfl | rfl | rfl | rfl | rfl
    · exact one [a1] [(0, 5, 0)] (fun e he => by
        simp only [List.mem_cons, List.not_mem_nil, or_false] at he
        subst he; exact ⟨b1, ⟨by decide, by decide⟩, e1_5⟩) (vs := [.agg #[.bool false, .bool false, .bool false, .bool true], .int .i64 a1]) Tryz.func4 rfl rfl shedScopes_c5 w
    · exact one [a1] [(0, 5, 1)] (fun e he => by
        simp only [List.mem_cons, List.not_mem_nil, or_false] at he
        subst he; exact ⟨b1, ⟨by decide, by decide⟩, e1_5⟩) (vs := [.agg #[.bool false, .bool false, .bool false, .bool true], .int .i64 a1]) Tryz.func4 rfl rfl shedScopes_c6 w
    · exact one [a1] [(0, 5, 2)] (fun e he => by
        simp only [List.mem_cons, List.not_mem_nil, or_false] at he
        subst he; exact ⟨b1, ⟨by decide, by decide⟩, e1_5⟩) (vs := [.agg #[.bool false, .bool false, .bool false, .bool true], .int .i64 a1]) Tryz.func4 rfl rfl shedScopes_c7 w
    · exact one [a1] [(0, 5, 3)] (fun e he => by
        simp only [List.mem_cons, List.not_mem_nil, or_false] at he
        subst he; exact ⟨b1, ⟨by decide, by decide⟩, e1_5⟩) (vs := [.agg #[.bool false, .bool false, .bool false, .bool true], .int .i64 a1]) Tryz.func4 rfl rfl shedScopes_c8 w
    · exact one [a1] [(0, 5, 4)] (fun e he => by
        simp only [List.mem_cons, List.not_mem_nil, or_false] at he
        subst he; exact ⟨b1, ⟨by decide, by decide⟩, e1_5⟩) (vs := [.agg #[.bool false, .bool false, .bool false, .bool true], .int .i64 a1]) Tryz.func4 rfl rfl shedScopes_c9 w
  · rcases (show r1_5 = 0 ∨ r1_5 = 1 ∨ r1_5 = 2 ∨ r1_5 = 3 ∨ r1_5 = 4 by omega) with rfl | rfl | rfl | rfl | rfl
    · exact one [a1] [(0, 5, 0)] (fun e he => by
        simp only [List.mem_cons, List.not_mem_nil, or_false] at he
        subst he; exact ⟨b1, ⟨by decide, by decide⟩, e1_5⟩) (vs := [.agg #[.bool false, .bool false, .bool true, .bool false], .int .i64 a1]) Tryz.func4 rfl rfl shedScopes_c10 w
    · exact one [a1] [(0, 5, 1)] (fun e he => by
        simp only [List.mem_cons, List.not_mem_nil, or_false] at he
        subst he; exact ⟨b1, ⟨by decide, by decide⟩, e1_5⟩) (vs := [.agg #[.bool false, .bool false, .bool true, .bool false], .int .i64 a1]) Tryz.func4 rfl rfl shedScopes_c11 w
    · exact one [a1] [(0, 5, 2)] (fun e he => by
        simp only [List.mem_cons, List.not_mem_nil, or_false] at he
        subst he; exact ⟨b1, ⟨by decide, by decide⟩, e1_5⟩) (vs := [.agg #[.bool false, .bool false, .bool true, .bool false], .int .i64 a1]) Tryz.func4 rfl rfl shedScopes_c12 w
    · exact one [a1] [(0, 5, 3)] (fun e he => by
        simp only [List.mem_cons, List.not_mem_nil, or_false] at he
        subst he; exact ⟨b1, ⟨by decide, by decide⟩, e1_5⟩) (vs := [.agg #[.bool false, .bool false, .bool true, .bool false], .int .i64 a1]) Tryz.func4 rfl rfl shedScopes_c13 w
    · exact one [a1] [(0, 5, 4)] (fun e he => by
        simp only [List.mem_cons, List.not_mem_nil, or_false] at he
        subst he; exact ⟨b1, ⟨by decide, by decide⟩, e1_5⟩) (vs := [.agg #[.bool false, .bool false, .bool true, .bool false], .int .i64 a1]) Tryz.func4 rfl rfl shedScopes_c14 w
  · rcases (show r1_5 = 0 ∨ r1_5 = 1 ∨ r1_5 = 2 ∨ r1_5 = 3 ∨ r1_5 = 4 by omega) with rfl | rfl | rfl | rfl | rfl
    · exact one [a1] [(0, 5, 0)] (fun e he => by
        simp only [List.mem_cons, List.not_mem_nil, or_false] at he
        subst he; exact ⟨b1, ⟨by decide, by decide⟩, e1_5⟩) (vs := [.agg #[.bool false, .bool false, .bool true, .bool true], .int .i64 a1]) Tryz.func4 rfl rfl shedScopes_c15 w
    · exact one [a1] [(0, 5, 1)] (fun e he => by
        simp only [List.mem_cons, List.not_mem_nil, or_false] at he
        subst he; exact ⟨b1, ⟨by decide, by decide⟩, e1_5⟩) (vs := [.agg #[.bool false, .bool false, .bool true, .bool true], .int .i64 a1]) Tryz.func4 rfl rfl shedScopes_c16 w
    · exact one [a1] [(0, 5, 2)] (fun e he => by
        simp only [List.mem_cons, List.not_mem_nil, or_false] at he
        subst he; exact ⟨b1, ⟨by decide, by decide⟩, e1_5⟩) (vs := [.agg #[.bool false, .bool false, .bool true, .bool true], .int .i64 a1]) Tryz.func4 rfl rfl shedScopes_c17 w
    · exact one [a1] [(0, 5, 3)] (fun e he => by
        simp only [List.mem_cons, List.not_mem_nil, or_false] at he
        subst he; exact ⟨b1, ⟨by decide, by decide⟩, e1_5⟩) (vs := [.agg #[.bool false, .bool false, .bool true, .bool true], .int .i64 a1]) Tryz.func4 rfl rfl shedScopes_c18 w
    · exact one [a1] [(0, 5, 4)] (fun e he => by
        simp only [List.mem_cons, List.not_mem_nil, or_false] at he
        subst he; exact ⟨b1, ⟨by decide, by decide⟩, e1_5⟩) (vs := [.agg #[.bool false, .bool false, .bool true, .bool true], .int .i64 a1]) Tryz.func4 rfl rfl shedScopes_c19 w
  · rcases (show r1_5 = 0 ∨ r1_5 = 1 ∨ r1_5 = 2 ∨ r1_5 = 3 ∨ r1_5 = 4 by omega) with rfl | rfl | rfl | rfl | rfl
    · exact one [a1] [(0, 5, 0)] (fun e he => by
        simp only [List.mem_cons, List.not_mem_nil, or_false] at he
        subst he; exact ⟨b1, ⟨by decide, by decide⟩, e1_5⟩) (vs := [.agg #[.bool false, .bool true, .bool false, .bool false], .int .i64 a1]) Tryz.func4 rfl rfl shedScopes_c20 w
    · exact one [a1] [(0, 5, 1)] (fun e he => by
        simp only [List.mem_cons, List.not_mem_nil, or_false] at he
        subst he; exact ⟨b1, ⟨by decide, by decide⟩, e1_5⟩) (vs := [.agg #[.bool false, .bool true, .bool false, .bool false], .int .i64 a1]) Tryz.func4 rfl rfl shedScopes_c21 w
    · exact one [a1] [(0, 5, 2)] (fun e he => by
        simp only [List.mem_cons, List.not_mem_nil, or_false] at he
        subst he; exact ⟨b1, ⟨by decide, by decide⟩, e1_5⟩) (vs := [.agg #[.bool false, .bool true, .bool false, .bool false], .int .i64 a1]) Tryz.func4 rfl rfl shedScopes_c22 w
    · exact one [a1] [(0, 5, 3)] (fun e he => by
        simp only [List.mem_cons, List.not_mem_nil, or_false] at he
        subst he; exact ⟨b1, ⟨by decide, by decide⟩, e1_5⟩) (vs := [.agg #[.bool false, .bool true, .bool false, .bool false], .int .i64 a1]) Tryz.func4 rfl rfl shedScopes_c23 w
    · exact one [a1] [(0, 5, 4)] (fun e he => by
        simp only [List.mem_cons, List.not_mem_nil, or_false] at he
        subst he; exact ⟨b1, ⟨by decide, by decide⟩, e1_5⟩) (vs := [.agg #[.bool false, .bool true, .bool false, .bool false], .int .i64 a1]) Tryz.func4 rfl rfl shedScopes_c24 w
  · rcases (show r1_5 = 0 ∨ r1_5 = 1 ∨ r1_5 = 2 ∨ r1_5 = 3 ∨ r1_5 = 4 by omega) with rfl | rfl | rfl | rfl | rfl
    · exact one [a1] [(0, 5, 0)] (fun e he => by
        simp only [List.mem_cons, List.not_mem_nil, or_false] at he
        subst he; exact ⟨b1, ⟨by decide, by decide⟩, e1_5⟩) (vs := [.agg #[.bool false, .bool true, .bool false, .bool true], .int .i64 a1]) Tryz.func4 rfl rfl shedScopes_c25 w
    · exact one [a1] [(0, 5, 1)] (fun e he => by
        simp only [List.mem_cons, List.not_mem_nil, or_false] at he
        subst he; exact ⟨b1, ⟨by decide, by decide⟩, e1_5⟩) (vs := [.agg #[.bool false, .bool true, .bool false, .bool true], .int .i64 a1]) Tryz.func4 rfl rfl shedScopes_c26 w
    · exact one [a1] [(0, 5, 2)] (fun e he => by
        simp only [List.mem_cons, List.not_mem_nil, or_false] at he
        subst he; exact ⟨b1, ⟨by decide, by decide⟩, e1_5⟩) (vs := [.agg #[.bool false, .bool true, .bool false, .bool true], .int .i64 a1]) Tryz.func4 rfl rfl shedScopes_c27 w
    · exact one [a1] [(0, 5, 3)] (fun e he => by
        simp only [List.mem_cons, List.not_mem_nil, or_false] at he
        subst he; exact ⟨b1, ⟨by decide, by decide⟩, e1_5⟩) (vs := [.agg #[.bool false, .bool true, .bool false, .bool true], .int .i64 a1]) Tryz.func4 rfl rfl shedScopes_c28 w
    · exact one [a1] [(0, 5, 4)] (fun e he => by
        simp only [List.mem_cons, List.not_mem_nil, or_false] at he
        subst he; exact ⟨b1, ⟨by decide, by decide⟩, e1_5⟩) (vs := [.agg #[.bool false, .bool true, .bool false, .bool true], .int .i64 a1]) Tryz.func4 rfl rfl shedScopes_c29 w
  · rcases (show r1_5 = 0 ∨ r1_5 = 1 ∨ r1_5 = 2 ∨ r1_5 = 3 ∨ r1_5 = 4 by omega) with rfl | rfl | rfl | rfl | rfl
    · exact one [a1] [(0, 5, 0)] (fun e he => by
        simp only [List.mem_cons, List.not_mem_nil, or_false] at he
        subst he; exact ⟨b1, ⟨by decide, by decide⟩, e1_5⟩) (vs := [.agg #[.bool false, .bool true, .bool true, .bool false], .int .i64 a1]) Tryz.func4 rfl rfl shedScopes_c30 w
    · exact one [a1] [(0, 5, 1)] (fun e he => by
        simp only [List.mem_cons, List.not_mem_nil, or_false] at he
        subst he; exact ⟨b1, ⟨by decide, by decide⟩, e1_5⟩) (vs := [.agg #[.bool false, .bool true, .bool true, .bool false], .int .i64 a1]) Tryz.func4 rfl rfl shedScopes_c31 w
    · exact one [a1] [(0, 5, 2)] (fun e he => by
        simp only [List.mem_cons, List.not_mem_nil, or_false] at he
        subst he; exact ⟨b1, ⟨by decide, by decide⟩, e1_5⟩) (vs := [.agg #[.bool false, .bool true, .bool true, .bool false], .int .i64 a1]) Tryz.func4 rfl rfl shedScopes_c32 w
    · exact one [a1] [(0, 5, 3)] (fun e he => by
        simp only [List.mem_cons, List.not_mem_nil, or_false] at he
        subst he; exact ⟨b1, ⟨by decide, by decide⟩, e1_5⟩) (vs := [.agg #[.bool false, .bool true, .bool true, .bool false], .int .i64 a1]) Tryz.func4 rfl rfl shedScopes_c33 w
    · exact one [a1] [(0, 5, 4)] (fun e he => by
        simp only [List.mem_cons, List.not_mem_nil, or_false] at he
        subst he; exact ⟨b1, ⟨by decide, by decide⟩, e1_5⟩) (vs := [.agg #[.bool false, .bool true, .bool true, .bool false], .int .i64 a1]) Tryz.func4 rfl rfl shedScopes_c34 w
  · rcases (show r1_5 = 0 ∨ r1_5 = 1 ∨ r1_5 = 2 ∨ r1_5 = 3 ∨ r1_5 = 4 by omega) with rfl | rfl | rfl | rfl | rfl
    · exact one [a1] [(0, 5, 0)] (fun e he => by
        simp only [List.mem_cons, List.not_mem_nil, or_false] at he
        subst he; exact ⟨b1, ⟨by decide, by decide⟩, e1_5⟩) (vs := [.agg #[.bool false, .bool true, .bool true, .bool true], .int .i64 a1]) Tryz.func4 rfl rfl shedScopes_c35 w
    · exact one [a1] [(0, 5, 1)] (fun e he => by
        simp only [List.mem_cons, List.not_mem_nil, or_false] at he
        subst he; exact ⟨b1, ⟨by decide, by decide⟩, e1_5⟩) (vs := [.agg #[.bool false, .bool true, .bool true, .bool true], .int .i64 a1]) Tryz.func4 rfl rfl shedScopes_c36 w
    · exact one [a1] [(0, 5, 2)] (fun e he => by
        simp only [List.mem_cons, List.not_mem_nil, or_false] at he
        subst he; exact ⟨b1, ⟨by decide, by decide⟩, e1_5⟩) (vs := [.agg #[.bool false, .bool true, .bool true, .bool true], .int .i64 a1]) Tryz.func4 rfl rfl shedScopes_c37 w
    · exact one [a1] [(0, 5, 3)] (fun e he => by
        simp only [List.mem_cons, List.not_mem_nil, or_false] at he
        subst he; exact ⟨b1, ⟨by decide, by decide⟩, e1_5⟩) (vs := [.agg #[.bool false, .bool true, .bool true, .bool true], .int .i64 a1]) Tryz.func4 rfl rfl shedScopes_c38 w
    · exact one [a1] [(0, 5, 4)] (fun e he => by
        simp only [List.mem_cons, List.not_mem_nil, or_false] at he
        subst he; exact ⟨b1, ⟨by decide, by decide⟩, e1_5⟩) (vs := [.agg #[.bool false, .bool true, .bool true, .bool true], .int .i64 a1]) Tryz.func4 rfl rfl shedScopes_c39 w
  · rcases (show r1_5 = 0 ∨ r1_5 = 1 ∨ r1_5 = 2 ∨ r1_5 = 3 ∨ r1_5 = 4 by omega) with rfl | rfl | rfl | rfl | rfl
    · exact one [a1] [(0, 5, 0)] (fun e he => by
        simp only [List.mem_cons, List.not_mem_nil, or_false] at he
        subst he; exact ⟨b1, ⟨by decide, by decide⟩, e1_5⟩) (vs := [.agg #[.bool true, .bool false, .bool false, .bool false], .int .i64 a1]) Tryz.func4 rfl rfl shedScopes_c40 w
    · exact one [a1] [(0, 5, 1)] (fun e he => by
        simp only [List.mem_cons, List.not_mem_nil, or_false] at he
        subst he; exact ⟨b1, ⟨by decide, by decide⟩, e1_5⟩) (vs := [.agg #[.bool true, .bool false, .bool false, .bool false], .int .i64 a1]) Tryz.func4 rfl rfl shedScopes_c41 w
    · exact one [a1] [(0, 5, 2)] (fun e he => by
        simp only [List.mem_cons, List.not_mem_nil, or_false] at he
        subst he; exact ⟨b1, ⟨by decide, by decide⟩, e1_5⟩) (vs := [.agg #[.bool true, .bool false, .bool false, .bool false], .int .i64 a1]) Tryz.func4 rfl rfl shedScopes_c42 w
    · exact one [a1] [(0, 5, 3)] (fun e he => by
        simp only [List.mem_cons, List.not_mem_nil, or_false] at he
        subst he; exact ⟨b1, ⟨by decide, by decide⟩, e1_5⟩) (vs := [.agg #[.bool true, .bool false, .bool false, .bool false], .int .i64 a1]) Tryz.func4 rfl rfl shedScopes_c43 w
    · exact one [a1] [(0, 5, 4)] (fun e he => by
        simp only [List.mem_cons, List.not_mem_nil, or_false] at he
        subst he; exact ⟨b1, ⟨by decide, by decide⟩, e1_5⟩) (vs := [.agg #[.bool true, .bool false, .bool false, .bool false], .int .i64 a1]) Tryz.func4 rfl rfl shedScopes_c44 w
  · rcases (show r1_5 = 0 ∨ r1_5 = 1 ∨ r1_5 = 2 ∨ r1_5 = 3 ∨ r1_5 = 4 by omega) with rfl | rfl | rfl | rfl | rfl
    · exact one [a1] [(0, 5, 0)] (fun e he => by
        simp only [List.mem_cons, List.not_mem_nil, or_false] at he
        subst he; exact ⟨b1, ⟨by decide, by decide⟩, e1_5⟩) (vs := [.agg #[.bool true, .bool false, .bool false, .bool true], .int .i64 a1]) Tryz.func4 rfl rfl shedScopes_c45 w
    · exact one [a1] [(0, 5, 1)] (fun e he => by
        simp only [List.mem_cons, List.not_mem_nil, or_false] at he
        subst he; exact ⟨b1, ⟨by decide, by decide⟩, e1_5⟩) (vs := [.agg #[.bool true, .bool false, .bool false, .bool true], .int .i64 a1]) Tryz.func4 rfl rfl shedScopes_c46 w
    · exact one [a1] [(0, 5, 2)] (fun e he => by
        simp only [List.mem_cons, List.not_mem_nil, or_false] at he
        subst he; exact ⟨b1, ⟨by decide, by decide⟩, e1_5⟩) (vs := [.agg #[.bool true, .bool false, .bool false, .bool true], .int .i64 a1]) Tryz.func4 rfl rfl shedScopes_c47 w
    · exact one [a1] [(0, 5, 3)] (fun e he => by
        simp only [List.mem_cons, List.not_mem_nil, or_false] at he
        subst he; exact ⟨b1, ⟨by decide, by decide⟩, e1_5⟩) (vs := [.agg #[.bool true, .bool false, .bool false, .bool true], .int .i64 a1]) Tryz.func4 rfl rfl shedScopes_c48 w
    · exact one [a1] [(0, 5, 4)] (fun e he => by
        simp only [List.mem_cons, List.not_mem_nil, or_false] at he
        subst he; exact ⟨b1, ⟨by decide, by decide⟩, e1_5⟩) (vs := [.agg #[.bool true, .bool false, .bool false, .bool true], .int .i64 a1]) Tryz.func4 rfl rfl shedScopes_c49 w
  · rcases (show r1_5 = 0 ∨ r1_5 = 1 ∨ r1_5 = 2 ∨ r1_5 = 3 ∨ r1_5 = 4 by omega) with rfl | rfl | rfl | rfl | rfl
    · exact one [a1] [(0, 5, 0)] (fun e he => by
        simp only [List.mem_cons, List.not_mem_nil, or_false] at he
        subst he; exact ⟨b1, ⟨by decide, by decide⟩, e1_5⟩) (vs := [.agg #[.bool true, .bool false, .bool true, .bool false], .int .i64 a1]) Tryz.func4 rfl rfl shedScopes_c50 w
    · exact one [a1] [(0, 5, 1)] (fun e he => by
        simp only [List.mem_cons, List.not_mem_nil, or_false] at he
        subst he; exact ⟨b1, ⟨by decide, by decide⟩, e1_5⟩) (vs := [.agg #[.bool true, .bool false, .bool true, .bool false], .int .i64 a1]) Tryz.func4 rfl rfl shedScopes_c51 w
    · exact one [a1] [(0, 5, 2)] (fun e he => by
        simp only [List.mem_cons, List.not_mem_nil, or_false] at he
        subst he; exact ⟨b1, ⟨by decide, by decide⟩, e1_5⟩) (vs := [.agg #[.bool true, .bool false, .bool true, .bool false], .int .i64 a1]) Tryz.func4 rfl rfl shedScopes_c52 w
    · exact one [a1] [(0, 5, 3)] (fun e he => by
        simp only [List.mem_cons, List.not_mem_nil, or_false] at he
        subst he; exact ⟨b1, ⟨by decide, by decide⟩, e1_5⟩) (vs := [.agg #[.bool true, .bool false, .bool true, .bool false], .int .i64 a1]) Tryz.func4 rfl rfl shedScopes_c53 w
    · exact one [a1] [(0, 5, 4)] (fun e he => by
        simp only [List.mem_cons, List.not_mem_nil, or_false] at he
        subst he; exact ⟨b1, ⟨by decide, by decide⟩, e1_5⟩) (vs := [.agg #[.bool true, .bool false, .bool true, .bool false], .int .i64 a1]) Tryz.func4 rfl rfl shedScopes_c54 w
  · rcases (show r1_5 = 0 ∨ r1_5 = 1 ∨ r1_5 = 2 ∨ r1_5 = 3 ∨ r1_5 = 4 by omega) with rfl | rfl | rfl | rfl | rfl
    · exact one [a1] [(0, 5, 0)] (fun e he => by
        simp only [List.mem_cons, List.not_mem_nil, or_false] at he
        subst he; exact ⟨b1, ⟨by decide, by decide⟩, e1_5⟩) (vs := [.agg #[.bool true, .bool false, .bool true, .bool true], .int .i64 a1]) Tryz.func4 rfl rfl shedScopes_c55 w
    · exact one [a1] [(0, 5, 1)] (fun e he => by
        simp only [List.mem_cons, List.not_mem_nil, or_false] at he
        subst he; exact ⟨b1, ⟨by decide, by decide⟩, e1_5⟩) (vs := [.agg #[.bool true, .bool false, .bool true, .bool true], .int .i64 a1]) Tryz.func4 rfl rfl shedScopes_c56 w
    · exact one [a1] [(0, 5, 2)] (fun e he => by
        simp only [List.mem_cons, List.not_mem_nil, or_false] at he
        subst he; exact ⟨b1, ⟨by decide, by decide⟩, e1_5⟩) (vs := [.agg #[.bool true, .bool false, .bool true, .bool true], .int .i64 a1]) Tryz.func4 rfl rfl shedScopes_c57 w
    · exact one [a1] [(0, 5, 3)] (fun e he => by
        simp only [List.mem_cons, List.not_mem_nil, or_false] at he
        subst he; exact ⟨b1, ⟨by decide, by decide⟩, e1_5⟩) (vs := [.agg #[.bool true, .bool false, .bool true, .bool true], .int .i64 a1]) Tryz.func4 rfl rfl shedScopes_c58 w
    · exact one [a1] [(0, 5, 4)] (fun e he => by
        simp only [List.mem_cons, List.not_mem_nil, or_false] at he
        subst he; exact ⟨b1, ⟨by decide, by decide⟩, e1_5⟩) (vs := [.agg #[.bool true, .bool false, .bool true, .bool true], .int .i64 a1]) Tryz.func4 rfl rfl shedScopes_c59 w
  · rcases (show r1_5 = 0 ∨ r1_5 = 1 ∨ r1_5 = 2 ∨ r1_5 = 3 ∨ r1_5 = 4 by omega) with rfl | rfl | rfl | rfl | rfl
    · exact one [a1] [(0, 5, 0)] (fun e he => by
        simp only [List.mem_cons, List.not_mem_nil, or_false] at he
        subst he; exact ⟨b1, ⟨by decide, by decide⟩, e1_5⟩) (vs := [.agg #[.bool true, .bool true, .bool false, .bool false], .int .i64 a1]) Tryz.func4 rfl rfl shedScopes_c60 w
    · exact one [a1] [(0, 5, 1)] (fun e he => by
        simp only [List.mem_cons, List.not_mem_nil, or_false] at he
        subst he; exact ⟨b1, ⟨by decide, by decide⟩, e1_5⟩) (vs := [.agg #[.bool true, .bool true, .bool false, .bool false], .int .i64 a1]) Tryz.func4 rfl rfl shedScopes_c61 w
    · exact one [a1] [(0, 5, 2)] (fun e he => by
        simp only [List.mem_cons, List.not_mem_nil, or_false] at he
        subst he; exact ⟨b1, ⟨by decide, by decide⟩, e1_5⟩) (vs := [.agg #[.bool true, .bool true, .bool false, .bool false], .int .i64 a1]) Tryz.func4 rfl rfl shedScopes_c62 w
    · exact one [a1] [(0, 5, 3)] (fun e he => by
        simp only [List.mem_cons, List.not_mem_nil, or_false] at he
        subst he; exact ⟨b1, ⟨by decide, by decide⟩, e1_5⟩) (vs := [.agg #[.bool true, .bool true, .bool false, .bool false], .int .i64 a1]) Tryz.func4 rfl rfl shedScopes_c63 w
    · exact one [a1] [(0, 5, 4)] (fun e he => by
        simp only [List.mem_cons, List.not_mem_nil, or_false] at he
        subst he; exact ⟨b1, ⟨by decide, by decide⟩, e1_5⟩) (vs := [.agg #[.bool true, .bool true, .bool false, .bool false], .int .i64 a1]) Tryz.func4 rfl rfl shedScopes_c64 w
  · rcases (show r1_5 = 0 ∨ r1_5 = 1 ∨ r1_5 = 2 ∨ r1_5 = 3 ∨ r1_5 = 4 by omega) with rfl | rfl | rfl | rfl | rfl
    · exact one [a1] [(0, 5, 0)] (fun e he => by
        simp only [List.mem_cons, List.not_mem_nil, or_false] at he
        subst he; exact ⟨b1, ⟨by decide, by decide⟩, e1_5⟩) (vs := [.agg #[.bool true, .bool true, .bool false, .bool true], .int .i64 a1]) Tryz.func4 rfl rfl shedScopes_c65 w
    · exact one [a1] [(0, 5, 1)] (fun e he => by
        simp only [List.mem_cons, List.not_mem_nil, or_false] at he
        subst he; exact ⟨b1, ⟨by decide, by decide⟩, e1_5⟩) (vs := [.agg #[.bool true, .bool true, .bool false, .bool true], .int .i64 a1]) Tryz.func4 rfl rfl shedScopes_c66 w
    · exact one [a1] [(0, 5, 2)] (fun e he => by
        simp only [List.mem_cons, List.not_mem_nil, or_false] at he
        subst he; exact ⟨b1, ⟨by decide, by decide⟩, e1_5⟩) (vs := [.agg #[.bool true, .bool true, .bool false, .bool true], .int .i64 a1]) Tryz.func4 rfl rfl shedScopes_c67 w
    · exact one [a1] [(0, 5, 3)] (fun e he => by
        simp only [List.mem_cons, List.not_mem_nil, or_false] at he
        subst he; exact ⟨b1, ⟨by decide, by decide⟩, e1_5⟩) (vs := [.agg #[.bool true, .bool true, .bool false, .bool true], .int .i64 a1]) Tryz.func4 rfl rfl shedScopes_c68 w
    · exact one [a1] [(0, 5, 4)] (fun e he => by
        simp only [List.mem_cons, List.not_mem_nil, or_false] at he
        subst he; exact ⟨b1, ⟨by decide, by decide⟩, e1_5⟩) (vs := [.agg #[.bool true, .bool true, .bool false, .bool true], .int .i64 a1]) Tryz.func4 rfl rfl shedScopes_c69 w
  · rcases (show r1_5 = 0 ∨ r1_5 = 1 ∨ r1_5 = 2 ∨ r1_5 = 3 ∨ r1_5 = 4 by omega) with rfl | rfl | rfl | rfl | rfl
    · exact one [a1] [(0, 5, 0)] (fun e he => by
        simp only [List.mem_cons, List.not_mem_nil, or_false] at he
        subst he; exact ⟨b1, ⟨by decide, by decide⟩, e1_5⟩) (vs := [.agg #[.bool true, .bool true, .bool true, .bool false], .int .i64 a1]) Tryz.func4 rfl rfl shedScopes_c70 w
    · exact one [a1] [(0, 5, 1)] (fun e he => by
        simp only [List.mem_cons, List.not_mem_nil, or_false] at he
        subst he; exact ⟨b1, ⟨by decide, by decide⟩, e1_5⟩) (vs := [.agg #[.bool true, .bool true, .bool true, .bool false], .int .i64 a1]) Tryz.func4 rfl rfl shedScopes_c71 w
    · exact one [a1] [(0, 5, 2)] (fun e he => by
        simp only [List.mem_cons, List.not_mem_nil, or_false] at he
        subst he; exact ⟨b1, ⟨by decide, by decide⟩, e1_5⟩) (vs := [.agg #[.bool true, .bool true, .bool true, .bool false], .int .i64 a1]) Tryz.func4 rfl rfl shedScopes_c72 w
    · exact one [a1] [(0, 5, 3)] (fun e he => by
        simp only [List.mem_cons, List.not_mem_nil, or_false] at he
        subst he; exact ⟨b1, ⟨by decide, by decide⟩, e1_5⟩) (vs := [.agg #[.bool true, .bool true, .bool true, .bool false], .int .i64 a1]) Tryz.func4 rfl rfl shedScopes_c73 w
    · exact one [a1] [(0, 5, 4)] (fun e he => by
        simp only [List.mem_cons, List.not_mem_nil, or_false] at he
        subst he; exact ⟨b1, ⟨by decide, by decide⟩, e1_5⟩) (vs := [.agg #[.bool true, .bool true, .bool true, .bool false], .int .i64 a1]) Tryz.func4 rfl rfl shedScopes_c74 w
  · rcases (show r1_5 = 0 ∨ r1_5 = 1 ∨ r1_5 = 2 ∨ r1_5 = 3 ∨ r1_5 = 4 by omega) with rfl | rfl | rfl | rfl | rfl
    · exact one [a1] [(0, 5, 0)] (fun e he => by
        simp only [List.mem_cons, List.not_mem_nil, or_false] at he
        subst he; exact ⟨b1, ⟨by decide, by decide⟩, e1_5⟩) (vs := [.agg #[.bool true, .bool true, .bool true, .bool true], .int .i64 a1]) Tryz.func4 rfl rfl shedScopes_c75 w
    · exact one [a1] [(0, 5, 1)] (fun e he => by
        simp only [List.mem_cons, List.not_mem_nil, or_false] at he
        subst he; exact ⟨b1, ⟨by decide, by decide⟩, e1_5⟩) (vs := [.agg #[.bool true, .bool true, .bool true, .bool true], .int .i64 a1]) Tryz.func4 rfl rfl shedScopes_c76 w
    · exact one [a1] [(0, 5, 2)] (fun e he => by
        simp only [List.mem_cons, List.not_mem_nil, or_false] at he
        subst he; exact ⟨b1, ⟨by decide, by decide⟩, e1_5⟩) (vs := [.agg #[.bool true, .bool true, .bool true, .bool true], .int .i64 a1]) Tryz.func4 rfl rfl shedScopes_c77 w
    · exact one [a1] [(0, 5, 3)] (fun e he => by
        simp only [List.mem_cons, List.not_mem_nil, or_false] at he
        subst he; exact ⟨b1, ⟨by decide, by decide⟩, e1_5⟩) (vs := [.agg #[.bool true, .bool true, .bool true, .bool true], .int .i64 a1]) Tryz.func4 rfl rfl shedScopes_c78 w
    · exact one [a1] [(0, 5, 4)] (fun e he => by
        simp only [List.mem_cons, List.not_mem_nil, or_false] at he
        subst he; exact ⟨b1, ⟨by decide, by decide⟩, e1_5⟩) (vs := [.agg #[.bool true, .bool true, .bool true, .bool true], .int .i64 a1]) Tryz.func4 rfl rfl shedScopes_c79 w
end Go.Proofs.YtonakocdlldceaaGreatDoor
