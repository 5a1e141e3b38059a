/- Law gossamerlaw29.CjsMains: its cases, all of them. -/
import Derived.Test.YtnhbkfelfhhgjaaGreatDoorFin
import Derived.Test.YtnhbkfelfhhgjaaGreatDoorCjsMainsC0
import Derived.Test.YtnhbkfelfhhgjaaGreatDoorCjsMainsC1
import Derived.Test.YtnhbkfelfhhgjaaGreatDoorCjsMainsC2
import Derived.Test.YtnhbkfelfhhgjaaGreatDoorCjsMainsC3
import Derived.Test.YtnhbkfelfhhgjaaGreatDoorCjsMainsC4
import Derived.Test.YtnhbkfelfhhgjaaGreatDoorCjsMainsC5
import Derived.Test.YtnhbkfelfhhgjaaGreatDoorCjsMainsC6
import Derived.Test.YtnhbkfelfhhgjaaGreatDoorCjsMainsC7
set_option linter.unusedVariables false
set_option maxRecDepth 100000
namespace Go.Proofs.YtnhbkfelfhhgjaaGreatDoor
open Go Go.Proofs Go.RowKit Go.Ev
theorem CjsMains_walk (a0 : Int) (a1_0 : Bool) (a1_1 : Bool) (a1_2 : Bool) (a1_3 : Bool) (w : World) (w0 : (Lit.int .i64 a0).wf = true) (htab : Tab w) :
    Calls Tryz.prog 4 #[.int .i64 a0, .agg #[.bool a1_0, .bool a1_1, .bool a1_2, .bool a1_3]] w fun e w' => e = .returned (.bool true) ∧ Below w.heap.size w w' := by
  have b0 := wf64 w0
  obtain ⟨r0_5, e0_5, l0_5⟩ : ∃ r : Nat, lowN a0 5 = r ∧ r < 5 := by
    have := lowN_bd a0 5 (by omega)
    exact ⟨(lowN a0 5).toNat, by omega, by omega⟩
  rcases (show r0_5 = 0 ∨ r0_5 = 1 ∨ r0_5 = 2 ∨ r0_5 = 3 ∨ r0_5 = 4 by omega) with rfl | rfl | rfl | rfl | rfl
  · cases a1_0 <;> cases a1_1 <;> cases a1_2 <;> cases a1_3
    · exact one [a0] [(0, 5, 0)] (fun e he => by
        simp only [List.mem_cons, List.not_mem_nil, or_false] at he
        subst he; exact ⟨b0, ⟨by decide, by decide⟩, e0_5⟩) (vs := [.int .i64 a0, .agg #[.bool false, .bool false, .bool false, .bool false]]) Tryz.func4 rfl rfl cjsMains_c0 w
    · exact one [a0] [(0, 5, 0)] (fun e he => by
        simp only [List.mem_cons, List.not_mem_nil, or_false] at he
        subst he; exact ⟨b0, ⟨by decide, by decide⟩, e0_5⟩) (vs := [.int .i64 a0, .agg #[.bool false, .bool false, .bool false, .bool true]]) Tryz.func4 rfl rfl cjsMains_c1 w
    · exact one [a0] [(0, 5, 0)] (fun e he => by
        simp only [List.mem_cons, List.not_mem_nil, or_false] at he
        subst he; exact ⟨b0, ⟨by decide, by decide⟩, e0_5⟩) (vs := [.int .i64 a0, .agg #[.bool false, .bool false, .bool true, .bool false]]) Tryz.func4 rfl rfl cjsMains_c2 w
    · exact one [a0] [(0, 5, 0)] (fun e he => by
        simp only [List.mem_cons, List.not_mem_nil, or_false] at he
        subst he; exact ⟨b0, ⟨by decide, by decide⟩, e0_5⟩) (vs := [.int .i64 a0, .agg #[.bool false, .bool false, .bool true, .bool true]]) Tryz.func4 rfl rfl cjsMains_c3 w
    · exact one [a0] [(0, 5, 0)] (fun e he => by
        simp only [List.mem_cons, List.not_mem_nil, or_false] at he
        subst he; exact ⟨b0, ⟨by decide, by decide⟩, e0_5⟩) (vs := [.int .i64 a0, .agg #[.bool false, .bool true, .bool false, .bool false]]) Tryz.func4 rfl rfl cjsMains_c4 w
    · exact one [a0] [(0, 5, 0)] (fun e he => by
        simp only [List.mem_cons, List.not_mem_nil, or_false] at he
        subst he; exact ⟨b0, ⟨by decide, by decide⟩, e0_5⟩) (vs := [.int .i64 a0, .agg #[.bool false, .bool true, .bool false, .bool true]]) Tryz.func4 rfl rfl cjsMains_c5 w
    · exact one [a0] [(0, 5, 0)] (fun e he => by
        simp only [List.mem_cons, List.not_mem_nil, or_false] at he
        subst he; exact ⟨b0, ⟨by decide, by decide⟩, e0_5⟩) (vs := [.int .i64 a0, .agg #[.bool false, .bool true, .bool true, .bool false]]) Tryz.func4 rfl rfl cjsMains_c6 w
    · exact one [a0] [(0, 5, 0)] (fun e he => by
        simp only [List.mem_cons, List.not_mem_nil, or_false] at he
        subst he; exact ⟨b0, ⟨by decide, by decide⟩, e0_5⟩) (vs := [.int .i64 a0, .agg #[.bool false, .bool true, .bool true, .bool true]]) Tryz.func4 rfl rfl cjsMains_c7 w
    · exact one [a0] [(0, 5, 0)] (fun e he => by
        simp only [List.mem_cons, List.not_mem_nil, or_false] at he
        subst he; exact ⟨b0, ⟨by decide, by decide⟩, e0_5⟩) (vs := [.int .i64 a0, .agg #[.bool true, .bool false, .bool false, .bool false]]) Tryz.func4 rfl rfl cjsMains_c8 w
    · exact one [a0] [(0, 5, 0)] (fun e he => by
        simp only [List.mem_cons, List.not_mem_nil, or_false] at he
        subst he; exact ⟨b0, ⟨by decide, by decide⟩, e0_5⟩) (vs := [.int .i64 a0, .agg #[.bool true, .bool false, .bool false, .bool true]]) Tryz.func4 rfl rfl cjsMains_c9 w
    · exact one [a0] [(0, 5, 0)] (fun e he => by
        simp only [List.mem_cons, List.not_mem_nil, or_false] at he
        subst he; exact ⟨b0, ⟨by decide, by decide⟩, e0_5⟩) (vs := [.int .i64 a0, .agg #[.bool true, .bool false, .bool true, .bool false]]) Tryz.func4 rfl rfl cjsMains_c10 w
    · exact one [a0] [(0, 5, 0)] (fun e he => by
        simp only [List.mem_cons, List.not_mem_nil, or_false] at he
        subst he; exact ⟨b0, ⟨by decide, by decide⟩, e0_5⟩) (vs := [.int .i64 a0, .agg #[.bool true, .bool false, .bool true, .bool true]]) Tryz.func4 rfl rfl cjsMains_c11 w
    · exact one [a0] [(0, 5, 0)] (fun e he => by
        simp only [List.mem_cons, List.not_mem_nil, or_false] at he
        subst he; exact ⟨b0, ⟨by decide, by decide⟩, e0_5⟩) (vs := [.int .i64 a0, .agg #[.bool true, .bool true, .bool false, .bool false]]) Tryz.func4 rfl rfl cjsMains_c12 w
    · exact one [a0] [(0, 5, 0)] (fun e he => by
        simp only [List.mem_cons, List.not_mem_nil, or_false] at he
        subst he; exact ⟨b0, ⟨by decide, by decide⟩, e0_5⟩) (vs := [.int .i64 a0, .agg #[.bool true, .bool true, .bool false, .bool true]]) Tryz.func4 rfl rfl cjsMains_c13 w
    · exact one [a0] [(0, 5, 0)] (fun e he => by
        simp only [List.mem_cons, List.not_mem_nil, or_false] at he
        subst he; exact ⟨b0, ⟨by decide, by decide⟩, e0_5⟩) (vs := [.int .i64 a0, .agg #[.bool true, .bool true, .bool true, .bool false]]) Tryz.func4 rfl rfl cjsMains_c14 w
    · exact one [a0] [(0, 5, 0)] (fun e he => by
        simp only [List.mem_cons, List.not_mem_nil, or_false] at he
        subst he; exact ⟨b0, ⟨by decide, by decide⟩, e0_5⟩) (vs := [.int .i64 a0, .agg #[.bool true, .bool true, .bool true, .bool true]]) Tryz.func4 rfl rfl cjsMains_c15 w
  · cases a1_0 <;> cases a1_1 <;> cases a1_2 <;> cases a1_3
    · exact one [a0] [(0, 5, 1)] (fun e he => by
        simp only [List.mem_cons, List.not_mem_nil, or_false] at he
        subst he; exact ⟨b0, ⟨by decide, by decide⟩, e0_5⟩) (vs := [.int .i64 a0, .agg #[.bool false, .bool false, .bool false, .bool false]]) Tryz.func4 rfl rfl cjsMains_c16 w
    · exact one [a0] [(0, 5, 1)] (fun e he => by
        simp only [List.mem_cons, List.not_mem_nil, or_false] at he
        subst he; exact ⟨b0, ⟨by decide, by decide⟩, e0_5⟩) (vs := [.int .i64 a0, .agg #[.bool false, .bool false, .bool false, .bool true]]) Tryz.func4 rfl rfl cjsMains_c17 w
    · exact one [a0] [(0, 5, 1)] (fun e he => by
        simp only [List.mem_cons, List.not_mem_nil, or_false] at he
        subst he; exact ⟨b0, ⟨by decide, by decide⟩, e0_5⟩) (vs := [.int .i64 a0, .agg #[.bool false, .bool false, .bool true, .bool false]]) Tryz.func4 rfl rfl cjsMains_c18 w
    · exact one [a0] [(0, 5, 1)] (fun e he => by
        simp only [List.mem_cons, List.not_mem_nil, or_false] at he
        subst he; exact ⟨b0, ⟨by decide, by decide⟩, e0_5⟩) (vs := [.int .i64 a0, .agg #[.bool false, .bool false, .bool true, .bool true]]) Tryz.func4 rfl rfl cjsMains_c19 w
    · exact one [a0] [(0, 5, 1)] (fun e he => by
        simp only [List.mem_cons, List.not_mem_nil, or_false] at he
        subst he; exact ⟨b0, ⟨by decide, by decide⟩, e0_5⟩) (vs := [.int .i64 a0, .agg #[.bool false, .bool true, .bool false, .bool false]]) Tryz.func4 rfl rfl cjsMains_c20 w
    · exact one [a0] [(0, 5, 1)] (fun e he => by
        simp only [List.mem_cons, List.not_mem_nil, or_false] at he
        subst he; exact ⟨b0, ⟨by decide, by decide⟩, e0_5⟩) (vs := [.int .i64 a0, .agg #[.bool false, .bool true, .bool false, .bool true]]) Tryz.func4 rfl rfl cjsMains_c21 w
    · exact one [a0] [(0, 5, 1)] (fun e he => by
        simp only [List.mem_cons, List.not_mem_nil, or_false] at he
        subst he; exact ⟨b0, ⟨by decide, by decide⟩, e0_5⟩) (vs := [.int .i64 a0, .agg #[.bool false, .bool true, .bool true, .bool false]]) Tryz.func4 rfl rfl cjsMains_c22 w
    · exact one [a0] [(0, 5, 1)] (fun e he => by
        simp only [List.mem_cons, List.not_mem_nil, or_false] at he
        subst he; exact ⟨b0, ⟨by decide, by decide⟩, e0_5⟩) (vs := [.int .i64 a0, .agg #[.bool false, .bool true, .bool true, .bool true]]) Tryz.func4 rfl rfl cjsMains_c23 w
    · exact one [a0] [(0, 5, 1)] (fun e he => by
        simp only [List.mem_cons, List.not_mem_nil, or_false] at he
        subst he; exact ⟨b0, ⟨by decide, by decide⟩, e0_5⟩) (vs := [.int .i64 a0, .agg #[.bool true, .bool false, .bool false, .bool false]]) Tryz.func4 rfl rfl cjsMains_c24 w
    · exact one [a0] [(0, 5, 1)] (fun e he => by
        simp only [List.mem_cons, List.not_mem_nil, or_false] at he
        subst he; exact ⟨b0, ⟨by decide, by decide⟩, e0_5⟩) (vs := [.int .i64 a0, .agg #[.bool true, .bool false, .bool false, .bool true]]) Tryz.func4 rfl rfl cjsMains_c25 w
    · exact one [a0] [(0, 5, 1)] (fun e he => by
        simp only [List.mem_cons, List.not_mem_nil, or_false] at he
        subst he; exact ⟨b0, ⟨by decide, by decide⟩, e0_5⟩) (vs := [.int .i64 a0, .agg #[.bool true, .bool false, .bool true, .bool false]]) Tryz.func4 rfl rfl cjsMains_c26 w
    · exact one [a0] [(0, 5, 1)] (fun e he => by
        simp only [List.mem_cons, List.not_mem_nil, or_false] at he
        subst he; exact ⟨b0, ⟨by decide, by decide⟩, e0_5⟩) (vs := [.int .i64 a0, .agg #[.bool true, .bool false, .bool true, .bool true]]) Tryz.func4 rfl rfl cjsMains_c27 w
    · exact one [a0] [(0, 5, 1)] (fun e he => by
        simp only [List.mem_cons, List.not_mem_nil, or_false] at he
        subst he; exact ⟨b0, ⟨by decide, by decide⟩, e0_5⟩) (vs := [.int .i64 a0, .agg #[.bool true, .bool true, .bool false, .bool false]]) Tryz.func4 rfl rfl cjsMains_c28 w
    · exact one [a0] [(0, 5, 1)] (fun e he => by
        simp only [List.mem_cons, List.not_mem_nil, or_false] at he
        subst he; exact ⟨b0, ⟨by decide, by decide⟩, e0_5⟩) (vs := [.int .i64 a0, .agg #[.bool true, .bool true, .bool false, .bool true]]) Tryz.func4 rfl rfl cjsMains_c29 w
    · exact one [a0] [(0, 5, 1)] (fun e he => by
        simp only [List.mem_cons, List.not_mem_nil, or_false] at he
        subst he; exact ⟨b0, ⟨by decide, by decide⟩, e0_5⟩) (vs := [.int .i64 a0, .agg #[.bool true, .bool true, .bool true, .bool false]]) Tryz.func4 rfl rfl cjsMains_c30 w
    · exact one [a0] [(0, 5, 1)] (fun e he => by
        simp only [List.mem_cons, List.not_mem_nil, or_false] at he
        subst he; exact ⟨b0, ⟨by decide, by decide⟩, e0_5⟩) (vs := [.int .i64 a0, .agg #[.bool true, .bool true, .bool true, .bool true]]) Tryz.func4 rfl rfl cjsMains_c31 w
  · cases a1_0 <;> cases a1_1 <;> cases a1_2 <;> cases a1_3
    · exact one [a0] [(0, 5, 2)] (fun e he => by
        simp only [List.mem_cons, List.not_mem_nil, or_false] at he
        subst he; exact ⟨b0, ⟨by decide, by decide⟩, e0_5⟩) (vs := [.int .i64 a0, .agg #[.bool false, .bool false, .bool false, .bool false]]) Tryz.func4 rfl rfl cjsMains_c32 w
    · exact one [a0] [(0, 5, 2)] (fun e he => by
        simp only [List.mem_cons, List.not_mem_nil, or_false] at he
        subst he; exact ⟨b0, ⟨by decide, by decide⟩, e0_5⟩) (vs := [.int .i64 a0, .agg #[.bool false, .bool false, .bool false, .bool true]]) Tryz.func4 rfl rfl cjsMains_c33 w
    · exact one [a0] [(0, 5, 2)] (fun e he => by
        simp only [List.mem_cons, List.not_mem_nil, or_false] at he
        subst he; exact ⟨b0, ⟨by decide, by decide⟩, e0_5⟩) (vs := [.int .i64 a0, .agg #[.bool false, .bool false, .bool true, .bool false]]) Tryz.func4 rfl rfl cjsMains_c34 w
    · exact one [a0] [(0, 5, 2)] (fun e he => by
        simp only [List.mem_cons, List.not_mem_nil, or_false] at he
        subst he; exact ⟨b0, ⟨by decide, by decide⟩, e0_5⟩) (vs := [.int .i64 a0, .agg #[.bool false, .bool false, .bool true, .bool true]]) Tryz.func4 rfl rfl cjsMains_c35 w
    · exact one [a0] [(0, 5, 2)] (fun e he => by
        simp only [List.mem_cons, List.not_mem_nil, or_false] at he
        subst he; exact ⟨b0, ⟨by decide, by decide⟩, e0_5⟩) (vs := [.int .i64 a0, .agg #[.bool false, .bool true, .bool false, .bool false]]) Tryz.func4 rfl rfl cjsMains_c36 w
    · exact one [a0] [(0, 5, 2)] (fun e he => by
        simp only [List.mem_cons, List.not_mem_nil, or_false] at he
        subst he; exact ⟨b0, ⟨by decide, by decide⟩, e0_5⟩) (vs := [.int .i64 a0, .agg #[.bool false, .bool true, .bool false, .bool true]]) Tryz.func4 rfl rfl cjsMains_c37 w
    · exact one [a0] [(0, 5, 2)] (fun e he => by
        simp only [List.mem_cons, List.not_mem_nil, or_false] at he
        subst he; exact ⟨b0, ⟨by decide, by decide⟩, e0_5⟩) (vs := [.int .i64 a0, .agg #[.bool false, .bool true, .bool true, .bool false]]) Tryz.func4 rfl rfl cjsMains_c38 w
    · exact one [a0] [(0, 5, 2)] (fun e he => by
        simp only [List.mem_cons, List.not_mem_nil, or_false] at he
        subst he; exact ⟨b0, ⟨by decide, by decide⟩, e0_5⟩) (vs := [.int .i64 a0, .agg #[.bool false, .bool true, .bool true, .bool true]]) Tryz.func4 rfl rfl cjsMains_c39 w
    · exact one [a0] [(0, 5, 2)] (fun e he => by
        simp only [List.mem_cons, List.not_mem_nil, or_false] at he
        subst he; exact ⟨b0, ⟨by decide, by decide⟩, e0_5⟩) (vs := [.int .i64 a0, .agg #[.bool true, .bool false, .bool false, .bool false]]) Tryz.func4 rfl rfl cjsMains_c40 w
    · exact one [a0] [(0, 5, 2)] (fun e he => by
        simp only [List.mem_cons, List.not_mem_nil, or_false] at he
        subst he; exact ⟨b0, ⟨by decide, by decide⟩, e0_5⟩) (vs := [.int .i64 a0, .agg #[.bool true, .bool false, .bool false, .bool true]]) Tryz.func4 rfl rfl cjsMains_c41 w
    · exact one [a0] [(0, 5, 2)] (fun e he => by
        simp only [List.mem_cons, List.not_mem_nil, or_false] at he
        subst he; exact ⟨b0, ⟨by decide, by decide⟩, e0_5⟩) (vs := [.int .i64 a0, .agg #[.bool true, .bool false, .bool true, .bool false]]) Tryz.func4 rfl rfl cjsMains_c42 w
    · exact one [a0] [(0, 5, 2)] (fun e he => by
        simp only [List.mem_cons, List.not_mem_nil, or_false] at he
        subst he; exact ⟨b0, ⟨by decide, by decide⟩, e0_5⟩) (vs := [.int .i64 a0, .agg #[.bool true, .bool false, .bool true, .bool true]]) Tryz.func4 rfl rfl cjsMains_c43 w
    · exact one [a0] [(0, 5, 2)] (fun e he => by
        simp only [List.mem_cons, List.not_mem_nil, or_false] at he
        subst he; exact ⟨b0, ⟨by decide, by decide⟩, e0_5⟩) (vs := [.int .i64 a0, .agg #[.bool true, .bool true, .bool false, .bool false]]) Tryz.func4 rfl rfl cjsMains_c44 w
    · exact one [a0] [(0, 5, 2)] (fun e he => by
        simp only [List.mem_cons, List.not_mem_nil, or_false] at he
        subst he; exact ⟨b0, ⟨by decide, by decide⟩, e0_5⟩) (vs := [.int .i64 a0, .agg #[.bool true, .bool true, .bool false, .bool true]]) Tryz.func4 rfl rfl cjsMains_c45 w
    · exact one [a0] [(0, 5, 2)] (fun e he => by
        simp only [List.mem_cons, List.not_mem_nil, or_false] at he
        subst he; exact ⟨b0, ⟨by decide, by decide⟩, e0_5⟩) (vs := [.int .i64 a0, .agg #[.bool true, .bool true, .bool true, .bool false]]) Tryz.func4 rfl rfl cjsMains_c46 w
    · exact one [a0] [(0, 5, 2)] (fun e he => by
        simp only [List.mem_cons, List.not_mem_nil, or_false] at he
        subst he; exact ⟨b0, ⟨by decide, by decide⟩, e0_5⟩) (vs := [.int .i64 a0, .agg #[.bool true, .bool true, .bool true, .bool true]]) Tryz.func4 rfl rfl cjsMains_c47 w
  · cases a1_0 <;> cases a1_1 <;> cases a1_2 <;> cases a1_3
    · exact one [a0] [(0, 5, 3)] (fun e he => by
        simp only [List.mem_cons, List.not_mem_nil, or_false] at he
        subst he; exact ⟨b0, ⟨by decide, by decide⟩, e0_5⟩) (vs := [.int .i64 a0, .agg #[.bool false, .bool false, .bool false, .bool false]]) Tryz.func4 rfl rfl cjsMains_c48 w
    · exact one [a0] [(0, 5, 3)] (fun e he => by
        simp only [List.mem_cons, List.not_mem_nil, or_false] at he
        subst he; exact ⟨b0, ⟨by decide, by decide⟩, e0_5⟩) (vs := [.int .i64 a0, .agg #[.bool false, .bool false, .bool false, .bool true]]) Tryz.func4 rfl rfl cjsMains_c49 w
    · exact one [a0] [(0, 5, 3)] (fun e he => by
        simp only [List.mem_cons, List.not_mem_nil, or_false] at he
        subst he; exact ⟨b0, ⟨by decide, by decide⟩, e0_5⟩) (vs := [.int .i64 a0, .agg #[.bool false, .bool false, .bool true, .bool false]]) Tryz.func4 rfl rfl cjsMains_c50 w
    · exact one [a0] [(0, 5, 3)] (fun e he => by
        simp only [List.mem_cons, List.not_mem_nil, or_false] at he
        subst he; exact ⟨b0, ⟨by decide, by decide⟩, e0_5⟩) (vs := [.int .i64 a0, .agg #[.bool false, .bool false, .bool true, .bool true]]) Tryz.func4 rfl rfl cjsMains_c51 w
    · exact one [a0] [(0, 5, 3)] (fun e he => by
        simp only [List.mem_cons, List.not_mem_nil, or_false] at he
        subst he; exact ⟨b0, ⟨by decide, by decide⟩, e0_5⟩) (vs := [.int .i64 a0, .agg #[.bool false, .bool true, .bool false, .bool false]]) Tryz.func4 rfl rfl cjsMains_c52 w
    · exact one [a0] [(0, 5, 3)] (fun e he => by
        simp only [List.mem_cons, List.not_mem_nil, or_false] at he
        subst he; exact ⟨b0, ⟨by decide, by decide⟩, e0_5⟩) (vs := [.int .i64 a0, .agg #[.bool false, .bool true, .bool false, .bool true]]) Tryz.func4 rfl rfl cjsMains_c53 w
    · exact one [a0] [(0, 5, 3)] (fun e he => by
        simp only [List.mem_cons, List.not_mem_nil, or_false] at he
        subst he; exact ⟨b0, ⟨by decide, by decide⟩, e0_5⟩) (vs := [.int .i64 a0, .agg #[.bool false, .bool true, .bool true, .bool false]]) Tryz.func4 rfl rfl cjsMains_c54 w
    · exact one [a0] [(0, 5, 3)] (fun e he => by
        simp only [List.mem_cons, List.not_mem_nil, or_false] at he
        subst he; exact ⟨b0, ⟨by decide, by decide⟩, e0_5⟩) (vs := [.int .i64 a0, .agg #[.bool false, .bool true, .bool true, .bool true]]) Tryz.func4 rfl rfl cjsMains_c55 w
    · exact one [a0] [(0, 5, 3)] (fun e he => by
        simp only [List.mem_cons, List.not_mem_nil, or_false] at he
        subst he; exact ⟨b0, ⟨by decide, by decide⟩, e0_5⟩) (vs := [.int .i64 a0, .agg #[.bool true, .bool false, .bool false, .bool false]]) Tryz.func4 rfl rfl cjsMains_c56 w
    · exact one [a0] [(0, 5, 3)] (fun e he => by
        simp only [List.mem_cons, List.not_mem_nil, or_false] at he
        subst he; exact ⟨b0, ⟨by decide, by decide⟩, e0_5⟩) (vs := [.int .i64 a0, .agg #[.bool true, .bool false, .bool false, .bool true]]) Tryz.func4 rfl rfl cjsMains_c57 w
    · exact one [a0] [(0, 5, 3)] (fun e he => by
        simp only [List.mem_cons, List.not_mem_nil, or_false] at he
        subst he; exact ⟨b0, ⟨by decide, by decide⟩, e0_5⟩) (vs := [.int .i64 a0, .agg #[.bool true, .bool false, .bool true, .bool false]]) Tryz.func4 rfl rfl cjsMains_c58 w
    · exact one [a0] [(0, 5, 3)] (fun e he => by
        simp only [List.mem_cons, List.not_mem_nil, or_false] at he
        subst he; exact ⟨b0, ⟨by decide, by decide⟩, e0_5⟩) (vs := [.int .i64 a0, .agg #[.bool true, .bool false, .bool true, .bool true]]) Tryz.func4 rfl rfl cjsMains_c59 w
    · exact one [a0] [(0, 5, 3)] (fun e he => by
        simp only [List.mem_cons, List.not_mem_nil, or_false] at he
        subst he; exact ⟨b0, ⟨by decide, by decide⟩, e0_5⟩) (vs := [.int .i64 a0, .agg #[.bool true, .bool true, .bool false, .bool false]]) Tryz.func4 rfl rfl cjsMains_c60 w
    · exact one [a0] [(0, 5, 3)] (fun e he => by
        simp only [List.mem_cons, List.not_mem_nil, or_false] at he
        subst he; exact ⟨b0, ⟨by decide, by decide⟩, e0_5⟩) (vs := [.int .i64 a0, .agg #[.bool true, .bool true, .bool false, .bool true]]) Tryz.func4 rfl rfl cjsMains_c61 w
    · exact one [a0] [(0, 5, 3)] (fun e he => by
        simp only [List.mem_cons, List.not_mem_nil, or_false] at he
        subst he; exact ⟨b0, ⟨by decide, by decide⟩, e0_5⟩) (vs := [.int .i64 a0, .agg #[.bool true, .bool true, .bool true, .bool false]]) Tryz.func4 rfl rfl cjsMains_c62 w
    · exact one [a0] [(0, 5, 3)] (fun e he => by
        simp only [List.mem_cons, List.not_mem_nil, or_false] at he
        subst he; exact ⟨b0, ⟨by decide, by decide⟩, e0_5⟩) (vs := [.int .i64 a0, .agg #[.bool true, .bool true, .bool true, .bool true]]) Tryz.func4 rfl rfl cjsMains_c63 w
  · cases a1_0 <;> cases a1_1 <;> cases a1_2 <;> cases a1_3
    · exact one [a0] [(0, 5, 4)] (fun e he => by
        simp only [List.mem_cons, List.not_mem_nil, or_false] at he
        subst he; exact ⟨b0, ⟨by decide, by decide⟩, e0_5⟩) (vs := [.int .i64 a0, .agg #[.bool false, .bool false, .bool false, .bool false]]) Tryz.func4 rfl rfl cjsMains_c64 w
    · exact one [a0] [(0, 5, 4)] (fun e he => by
        simp only [List.mem_cons, List.not_mem_nil, or_false] at he
        subst he; exact ⟨b0, ⟨by decide, by decide⟩, e0_5⟩) (vs := [.int .i64 a0, .agg #[.bool false, .bool false, .bool false, .bool true]]) Tryz.func4 rfl rfl cjsMains_c65 w
    · exact one [a0] [(0, 5, 4)] (fun e he => by
        simp only [List.mem_cons, List.not_mem_nil, or_false] at he
        subst he; exact ⟨b0, ⟨by decide, by decide⟩, e0_5⟩) (vs := [.int .i64 a0, .agg #[.bool false, .bool false, .bool true, .bool false]]) Tryz.func4 rfl rfl cjsMains_c66 w
    · exact one [a0] [(0, 5, 4)] (fun e he => by
        simp only [List.mem_cons, List.not_mem_nil, or_false] at he
        subst he; exact ⟨b0, ⟨by decide, by decide⟩, e0_5⟩) (vs := [.int .i64 a0, .agg #[.bool false, .bool false, .bool true, .bool true]]) Tryz.func4 rfl rfl cjsMains_c67 w
    · exact one [a0] [(0, 5, 4)] (fun e he => by
        simp only [List.mem_cons, List.not_mem_nil, or_false] at he
        subst he; exact ⟨b0, ⟨by decide, by decide⟩, e0_5⟩) (vs := [.int .i64 a0, .agg #[.bool false, .bool true, .bool false, .bool false]]) Tryz.func4 rfl rfl cjsMains_c68 w
    · exact one [a0] [(0, 5, 4)] (fun e he => by
        simp only [List.mem_cons, List.not_mem_nil, or_false] at he
        subst he; exact ⟨b0, ⟨by decide, by decide⟩, e0_5⟩) (vs := [.int .i64 a0, .agg #[.bool false, .bool true, .bool false, .bool true]]) Tryz.func4 rfl rfl cjsMains_c69 w
    · exact one [a0] [(0, 5, 4)] (fun e he => by
        simp only [List.mem_cons, List.not_mem_nil, or_false] at he
        subst he; exact ⟨b0, ⟨by decide, by decide⟩, e0_5⟩) (vs := [.int .i64 a0, .agg #[.bool false, .bool true, .bool true, .bool false]]) Tryz.func4 rfl rfl cjsMains_c70 w
    · exact one [a0] [(0, 5, 4)] (fun e he => by
        simp only [List.mem_cons, List.not_mem_nil, or_false] at he
        subst he; exact ⟨b0, ⟨by decide, by decide⟩, e0_5⟩) (vs := [.int .i64 a0, .agg #[.bool false, .bool true, .bool true, .bool true]]) Tryz.func4 rfl rfl cjsMains_c71 w
    · exact one [a0] [(0, 5, 4)] (fun e he => by
        simp only [List.mem_cons, List.not_mem_nil, or_false] at he
        subst he; exact ⟨b0, ⟨by decide, by decide⟩, e0_5⟩) (vs := [.int .i64 a0, .agg #[.bool true, .bool false, .bool false, .bool false]]) Tryz.func4 rfl rfl cjsMains_c72 w
    · exact one [a0] [(0, 5, 4)] (fun e he => by
        simp only [List.mem_cons, List.not_mem_nil, or_false] at he
        subst he; exact ⟨b0, ⟨by decide, by decide⟩, e0_5⟩) (vs := [.int .i64 a0, .agg #[.bool true, .bool false, .bool false, .bool true]]) Tryz.func4 rfl rfl cjsMains_c73 w
    · exact one [a0] [(0, 5, 4)] (fun e he => by
        simp only [List.mem_cons, List.not_mem_nil, or_false] at he
        subst he; exact ⟨b0, ⟨by decide, by decide⟩, e0_5⟩) (vs := [.int .i64 a0, .agg #[.bool true, .bool false, .bool true, .bool false]]) Tryz.func4 rfl rfl cjsMains_c74 w
    · exact one [a0] [(0, 5, 4)] (fun e he => by
        simp only [List.mem_cons, List.not_mem_nil, or_false] at he
        subst he; exact ⟨b0, ⟨by decide, by decide⟩, e0_5⟩) (vs := [.int .i64 a0, .agg #[.bool true, .bool false, .bool true, .bool true]]) Tryz.func4 rfl rfl cjsMains_c75 w
    · exact one [a0] [(0, 5, 4)] (fun e he => by
        simp only [List.mem_cons, List.not_mem_nil, or_false] at he
        subst he; exact ⟨b0, ⟨by decide, by decide⟩, e0_5⟩) (vs := [.int .i64 a0, .agg #[.bool true, .bool true, .bool false, .bool false]]) Tryz.func4 rfl rfl cjsMains_c76 w
    · exact one [a0] [(0, 5, 4)] (fun e he => by
        simp only [List.mem_cons, List.not_mem_nil, or_false] at he
        subst he; exact ⟨b0, ⟨by decide, by decide⟩, e0_5⟩) (vs := [.int .i64 a0, .agg #[.bool true, .bool true, .bool false, .bool true]]) Tryz.func4 rfl rfl cjsMains_c77 w
    · exact one [a0] [(0, 5, 4)] (fun e he => by
        simp only [List.mem_cons, List.not_mem_nil, or_false] at he
        subst he; exact ⟨b0, ⟨by decide, by decide⟩, e0_5⟩) (vs := [.int .i64 a0, .agg #[.bool true, .bool true, .bool true, .bool false]]) Tryz.func4 rfl rfl cjsMains_c78 w
    · exact one [a0] [(0, 5, 4)] (fun e he => by
        simp only [List.mem_cons, List.not_mem_nil, or_false] at he
        subst he; exact ⟨b0, ⟨by decide, by decide⟩, e0_5⟩) (vs := [.int .i64 a0, .agg #[.bool true, .bool true, .bool true, .bool true]]) Tryz.func4 rfl rfl cjsMains_c79 w
end Go.Proofs.YtnhbkfelfhhgjaaGreatDoor
