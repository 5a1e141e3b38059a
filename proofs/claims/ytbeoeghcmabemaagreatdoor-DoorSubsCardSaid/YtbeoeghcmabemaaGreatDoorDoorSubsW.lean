/- Law gossamerlaw26.DoorSubs: its cases, all of them. -/
import Derived.Test.YtbeoeghcmabemaaGreatDoorFin
import Derived.Test.YtbeoeghcmabemaaGreatDoorDoorSubsC0
import Derived.Test.YtbeoeghcmabemaaGreatDoorDoorSubsC1
import Derived.Test.YtbeoeghcmabemaaGreatDoorDoorSubsC2
import Derived.Test.YtbeoeghcmabemaaGreatDoorDoorSubsC3
import Derived.Test.YtbeoeghcmabemaaGreatDoorDoorSubsC4
import Derived.Test.YtbeoeghcmabemaaGreatDoorDoorSubsC5
import Derived.Test.YtbeoeghcmabemaaGreatDoorDoorSubsC6
import Derived.Test.YtbeoeghcmabemaaGreatDoorDoorSubsC7
set_option linter.unusedVariables false
set_option maxRecDepth 100000
namespace Go.Proofs.YtbeoeghcmabemaaGreatDoor
open Go Go.Proofs Go.RowKit Go.Ev
theorem DoorSubs_walk (a0_0 : Bool) (a0_1 : Bool) (a0_2 : Bool) (a0_3 : Bool) (a0_4 : Bool) (a0_5 : Bool) (a1 : Int) (w : World) (w1 : (Lit.int .i64 a1).wf = true) (htab : Tab w) :
    Calls Tryz.prog 3 #[.agg #[.bool a0_0, .bool a0_1, .bool a0_2, .bool a0_3, .bool a0_4, .bool a0_5], .int .i64 a1] w fun e w' => e = .returned (.bool true) ∧ Below w.heap.size w w' := by
  have b1 := wf64 w1
  obtain ⟨r1_7, e1_7, l1_7⟩ : ∃ r : Nat, lowN a1 7 = r ∧ r < 7 := by
    have := lowN_bd a1 7 (by omega)
    exact ⟨(lowN a1 7).toNat, by omega, by omega⟩
  cases a0_0 <;> cases a0_1 <;> cases a0_2 <;> cases a0_3 <;> cases a0_4 <;> cases a0_5
  · rcases (show r1_7 = 0 ∨ r1_7 = 1 ∨ r1_7 = 2 ∨ r1_7 = 3 ∨ r1_7 = 4 ∨ r1_7 = 5 ∨ r1_7 = 6 by omega) with rfl | rfl | rfl | rfl | rfl | rfl | rfl
    · exact one [a1] [(0, 7, 0)] (fun e he => by
        simp only [List.mem_cons, List.not_mem_nil, or_false] at he
        subst he; exact ⟨b1, ⟨by decide, by decide⟩, e1_7⟩) (vs := [.agg #[.bool false, .bool false, .bool false, .bool false, .bool false, .bool false], .int .i64 a1]) Tryz.func3 rfl rfl doorSubs_c0 w
    · exact one [a1] [(0, 7, 1)] (fun e he => by
        simp only [List.mem_cons, List.not_mem_nil, or_false] at he
        subst he; exact ⟨b1, ⟨by decide, by decide⟩, e1_7⟩) (vs := [.agg #[.bool false, .bool false, .bool false, .bool false, .bool false, .bool false], .int .i64 a1]) Tryz.func3 rfl rfl doorSubs_c1 w
    · exact one [a1] [(0, 7, 2)] (fun e he => by
        simp only [List.mem_cons, List.not_mem_nil, or_false] at he
        subst he; exact ⟨b1, ⟨by decide, by decide⟩, e1_7⟩) (vs := [.agg #[.bool false, .bool false, .bool false, .bool false, .bool false, .bool false], .int .i64 a1]) Tryz.func3 rfl rfl doorSubs_c2 w
    · exact one [a1] [(0, 7, 3)] (fun e he => by
        simp only [List.mem_cons, List.not_mem_nil, or_false] at he
        subst he; exact ⟨b1, ⟨by decide, by decide⟩, e1_7⟩) (vs := [.agg #[.bool false, .bool false, .bool false, .bool false, .bool false, .bool false], .int .i64 a1]) Tryz.func3 rfl rfl doorSubs_c3 w
    · exact one [a1] [(0, 7, 4)] (fun e he => by
        simp only [List.mem_cons, List.not_mem_nil, or_false] at he
        subst he; exact ⟨b1, ⟨by decide, by decide⟩, e1_7⟩) (vs := [.agg #[.bool false, .bool false, .bool false, .bool false, .bool false, .bool false], .int .i64 a1]) Tryz.func3 rfl rfl doorSubs_c4 w
    · exact one [a1] [(0, 7, 5)] (fun e he => by
        simp only [List.mem_cons, List.not_mem_nil, or_false] at he
        subst he; exact ⟨b1, ⟨by decide, by decide⟩, e1_7⟩) (vs := [.agg #[.bool false, .bool false, .bool false, .bool false, .bool false, .bool false], .int .i64 a1]) Tryz.func3 rfl rfl doorSubs_c5 w
    · exact one [a1] [(0, 7, 6)] (fun e he => by
        simp only [List.mem_cons, List.not_mem_nil, or_false] at he
        subst he; exact ⟨b1, ⟨by decide, by decide⟩, e1_7⟩) (vs := [.agg #[.bool false, .bool false, .bool false, .bool false, .bool false, .bool false], .int .i64 a1]) Tryz.func3 rfl rfl doorSubs_c6 w
  · rcases (show r1_7 = 0 ∨ r1_7 = 1 ∨ r1_7 = 2 ∨ r1_7 = 3 ∨ r1_7 = 4 ∨ r1_7 = 5 ∨ r1_7 = 6 by omega) with rfl | rfl | rfl | rfl | rfl | rfl | rfl
    · exact one [a1] [(0, 7, 0)] (fun e he => by
        simp only [List.mem_cons, List.not_mem_nil, or_false] at he
        subst he; exact ⟨b1, ⟨by decide, by decide⟩, e1_7⟩) (vs := [.agg #[.bool false, .bool false, .bool false, .bool false, .bool false, .bool true], .int .i64 a1]) Tryz.func3 rfl rfl doorSubs_c7 w
    · exact one [a1] [(0, 7, 1)] (fun e he => by
        simp only [List.mem_cons, List.not_mem_nil, or_false] at he
        subst he; exact ⟨b1, ⟨by decide, by decide⟩, e1_7⟩) (vs := [.agg #[.bool false, .bool false, .bool false, .bool false, .bool false, .bool true], .int .i64 a1]) Tryz.func3 rfl rfl doorSubs_c8 w
    · exact one [a1] [(0, 7, 2)] (fun e he => by
        simp only [List.mem_cons, List.not_mem_nil, or_false] at he
        subst he; exact ⟨b1, ⟨by decide, by decide⟩, e1_7⟩) (vs := [.agg #[.bool false, .bool false, .bool false, .bool false, .bool false, .bool true], .int .i64 a1]) Tryz.func3 rfl rfl doorSubs_c9 w
    · exact one [a1] [(0, 7, 3)] (fun e he => by
        simp only [List.mem_cons, List.not_mem_nil, or_false] at he
        subst he; exact ⟨b1, ⟨by decide, by decide⟩, e1_7⟩) (vs := [.agg #[.bool false, .bool false, .bool false, .bool false, .bool false, .bool true], .int .i64 a1]) Tryz.func3 rfl rfl doorSubs_c10 w
    · exact one [a1] [(0, 7, 4)] (fun e he => by
        simp only [List.mem_cons, List.not_mem_nil, or_false] at he
        subst he; exact ⟨b1, ⟨by decide, by decide⟩, e1_7⟩) (vs := [.agg #[.bool false, .bool false, .bool false, .bool false, .bool false, .bool true], .int .i64 a1]) Tryz.func3 rfl rfl doorSubs_c11 w
    · exact one [a1] [(0, 7, 5)] (fun e he => by
        simp only [List.mem_cons, List.not_mem_nil, or_false] at he
        subst he; exact ⟨b1, ⟨by decide, by decide⟩, e1_7⟩) (vs := [.agg #[.bool false, .bool false, .bool false, .bool false, .bool false, .bool true], .int .i64 a1]) Tryz.func3 rfl rfl doorSubs_c12 w
    · exact one [a1] [(0, 7, 6)] (fun e he => by
        simp only [List.mem_cons, List.not_mem_nil, or_false] at he
        subst he; exact ⟨b1, ⟨by decide, by decide⟩, e1_7⟩) (vs := [.agg #[.bool false, .bool false, .bool false, .bool false, .bool false, .bool true], .int .i64 a1]) Tryz.func3 rfl rfl doorSubs_c13 w
  · rcases (show r1_7 = 0 ∨ r1_7 = 1 ∨ r1_7 = 2 ∨ r1_7 = 3 ∨ r1_7 = 4 ∨ r1_7 = 5 ∨ r1_7 = 6 by omega) with rfl | rfl | rfl | rfl | rfl | rfl | rfl
    · exact one [a1] [(0, 7, 0)] (fun e he => by
        simp only [List.mem_cons, List.not_mem_nil, or_false] at he
        subst he; exact ⟨b1, ⟨by decide, by decide⟩, e1_7⟩) (vs := [.agg #[.bool false, .bool false, .bool false, .bool false, .bool true, .bool false], .int .i64 a1]) Tryz.func3 rfl rfl doorSubs_c14 w
    · exact one [a1] [(0, 7, 1)] (fun e he => by
        simp only [List.mem_cons, List.not_mem_nil, or_false] at he
        subst he; exact ⟨b1, ⟨by decide, by decide⟩, e1_7⟩) (vs := [.agg #[.bool false, .bool false, .bool false, .bool false, .bool true, .bool false], .int .i64 a1]) Tryz.func3 rfl rfl doorSubs_c15 w
    · exact one [a1] [(0, 7, 2)] (fun e he => by
        simp only [List.mem_cons, List.not_mem_nil, or_false] at he
        subst he; exact ⟨b1, ⟨by decide, by decide⟩, e1_7⟩) (vs := [.agg #[.bool false, .bool false, .bool false, .bool false, .bool true, .bool false], .int .i64 a1]) Tryz.func3 rfl rfl doorSubs_c16 w
    · exact one [a1] [(0, 7, 3)] (fun e he => by
        simp only [List.mem_cons, List.not_mem_nil, or_false] at he
        subst he; exact ⟨b1, ⟨by decide, by decide⟩, e1_7⟩) (vs := [.agg #[.bool false, .bool false, .bool false, .bool false, .bool true, .bool false], .int .i64 a1]) Tryz.func3 rfl rfl doorSubs_c17 w
    · exact one [a1] [(0, 7, 4)] (fun e he => by
        simp only [List.mem_cons, List.not_mem_nil, or_false] at he
        subst he; exact ⟨b1, ⟨by decide, by decide⟩, e1_7⟩) (vs := [.agg #[.bool false, .bool false, .bool false, .bool false, .bool true, .bool false], .int .i64 a1]) Tryz.func3 rfl rfl doorSubs_c18 w
    · exact one [a1] [(0, 7, 5)] (fun e he => by
        simp only [List.mem_cons, List.not_mem_nil, or_false] at he
        subst he; exact ⟨b1, ⟨by decide, by decide⟩, e1_7⟩) (vs := [.agg #[.bool false, .bool false, .bool false, .bool false, .bool true, .bool false], .int .i64 a1]) Tryz.func3 rfl rfl doorSubs_c19 w
    · exact one [a1] [(0, 7, 6)] (fun e he => by
        simp only [List.mem_cons, List.not_mem_nil, or_false] at he
        subst he; exact ⟨b1, ⟨by decide, by decide⟩, e1_7⟩) (vs := [.agg #[.bool false, .bool false, .bool false, .bool false, .bool true, .bool false], .int .i64 a1]) Tryz.func3 rfl rfl doorSubs_c20 w
  · rcases (show r1_7 = 0 ∨ r1_7 = 1 ∨ r1_7 = 2 ∨ r1_7 = 3 ∨ r1_7 = 4 ∨ r1_7 = 5 ∨ r1_7 = 6 by omega) with rfl | rfl | rfl | rfl | rfl | rfl | rfl
    · exact one [a1] [(0, 7, 0)] (fun e he => by
        simp only [List.mem_cons, List.not_mem_nil, or_false] at he
        subst he; exact ⟨b1, ⟨by decide, by decide⟩, e1_7⟩) (vs := [.agg #[.bool false, .bool false, .bool false, .bool false, .bool true, .bool true], .int .i64 a1]) Tryz.func3 rfl rfl doorSubs_c21 w
    · exact one [a1] [(0, 7, 1)] (fun e he => by
        simp only [List.mem_cons, List.not_mem_nil, or_false] at he
        subst he; exact ⟨b1, ⟨by decide, by decide⟩, e1_7⟩) (vs := [.agg #[.bool false, .bool false, .bool false, .bool false, .bool true, .bool true], .int .i64 a1]) Tryz.func3 rfl rfl doorSubs_c22 w
    · exact one [a1] [(0, 7, 2)] (fun e he => by
        simp only [List.mem_cons, List.not_mem_nil, or_false] at he
        subst he; exact ⟨b1, ⟨by decide, by decide⟩, e1_7⟩) (vs := [.agg #[.bool false, .bool false, .bool false, .bool false, .bool true, .bool true], .int .i64 a1]) Tryz.func3 rfl rfl doorSubs_c23 w
    · exact one [a1] [(0, 7, 3)] (fun e he => by
        simp only [List.mem_cons, List.not_mem_nil, or_false] at he
        subst he; exact ⟨b1, ⟨by decide, by decide⟩, e1_7⟩) (vs := [.agg #[.bool false, .bool false, .bool false, .bool false, .bool true, .bool true], .int .i64 a1]) Tryz.func3 rfl rfl doorSubs_c24 w
    · exact one [a1] [(0, 7, 4)] (fun e he => by
        simp only [List.mem_cons, List.not_mem_nil, or_false] at he
        subst he; exact ⟨b1, ⟨by decide, by decide⟩, e1_7⟩) (vs := [.agg #[.bool false, .bool false, .bool false, .bool false, .bool true, .bool true], .int .i64 a1]) Tryz.func3 rfl rfl doorSubs_c25 w
    · exact one [a1] [(0, 7, 5)] (fun e he => by
        simp only [List.mem_cons, List.not_mem_nil, or_false] at he
        subst he; exact ⟨b1, ⟨by decide, by decide⟩, e1_7⟩) (vs := [.agg #[.bool false, .bool false, .bool false, .bool false, .bool true, .bool true], .int .i64 a1]) Tryz.func3 rfl rfl doorSubs_c26 w
    · exact one [a1] [(0, 7, 6)] (fun e he => by
        simp only [List.mem_cons, List.not_mem_nil, or_false] at he
        subst he; exact ⟨b1, ⟨by decide, by decide⟩, e1_7⟩) (vs := [.agg #[.bool false, .bool false, .bool false, .bool false, .bool true, .bool true], .int .i64 a1]) Tryz.func3 rfl rfl doorSubs_c27 w
  · rcases (show r1_7 = 0 ∨ r1_7 = 1 ∨ r1_7 = 2 ∨ r1_7 = 3 ∨ r1_7 = 4 ∨ r1_7 = 5 ∨ r1_7 = 6 by omega) with rfl | rfl | rfl | rfl | rfl | rfl | rfl
    · exact one [a1] [(0, 7, 0)] (fun e he => by
        simp only [List.mem_cons, List.not_mem_nil, or_false] at he
        subst he; exact ⟨b1, ⟨by decide, by decide⟩, e1_7⟩) (vs := [.agg #[.bool false, .bool false, .bool false, .bool true, .bool false, .bool false], .int .i64 a1]) Tryz.func3 rfl rfl doorSubs_c28 w
    · exact one [a1] [(0, 7, 1)] (fun e he => by
        simp only [List.mem_cons, List.not_mem_nil, or_false] at he
        subst he; exact ⟨b1, ⟨by decide, by decide⟩, e1_7⟩) (vs := [.agg #[.bool false, .bool false, .bool false, .bool true, .bool false, .bool false], .int .i64 a1]) Tryz.func3 rfl rfl doorSubs_c29 w
    · exact one [a1] [(0, 7, 2)] (fun e he => by
        simp only [List.mem_cons, List.not_mem_nil, or_false] at he
        subst he; exact ⟨b1, ⟨by decide, by decide⟩, e1_7⟩) (vs := [.agg #[.bool false, .bool false, .bool false, .bool true, .bool false, .bool false], .int .i64 a1]) Tryz.func3 rfl rfl doorSubs_c30 w
    · exact one [a1] [(0, 7, 3)] (fun e he => by
        simp only [List.mem_cons, List.not_mem_nil, or_false] at he
        subst he; exact ⟨b1, ⟨by decide, by decide⟩, e1_7⟩) (vs := [.agg #[.bool false, .bool false, .bool false, .bool true, .bool false, .bool false], .int .i64 a1]) Tryz.func3 rfl rfl doorSubs_c31 w
    · exact one [a1] [(0, 7, 4)] (fun e he => by
        simp only [List.mem_cons, List.not_mem_nil, or_false] at he
        subst he; exact ⟨b1, ⟨by decide, by decide⟩, e1_7⟩) (vs := [.agg #[.bool false, .bool false, .bool false, .bool true, .bool false, .bool false], .int .i64 a1]) Tryz.func3 rfl rfl doorSubs_c32 w
    · exact one [a1] [(0, 7, 5)] (fun e he => by
        simp only [List.mem_cons, List.not_mem_nil, or_false] at he
        subst he; exact ⟨b1, ⟨by decide, by decide⟩, e1_7⟩) (vs := [.agg #[.bool false, .bool false, .bool false, .bool true, .bool false, .bool false], .int .i64 a1]) Tryz.func3 rfl rfl doorSubs_c33 w
    · exact one [a1] [(0, 7, 6)] (fun e he => by
        simp only [List.mem_cons, List.not_mem_nil, or_false] at he
        subst he; exact ⟨b1, ⟨by decide, by decide⟩, e1_7⟩) (vs := [.agg #[.bool false, .bool false, .bool false, .bool true, .bool false, .bool false], .int .i64 a1]) Tryz.func3 rfl rfl doorSubs_c34 w
  · rcases (show r1_7 = 0 ∨ r1_7 = 1 ∨ r1_7 = 2 ∨ r1_7 = 3 ∨ r1_7 = 4 ∨ r1_7 = 5 ∨ r1_7 = 6 by omega) with rfl | rfl | rfl | rfl | rfl | rfl | rfl
    · exact one [a1] [(0, 7, 0)] (fun e he => by
        simp only [List.mem_cons, List.not_mem_nil, or_false] at he
        subst he; exact ⟨b1, ⟨by decide, by decide⟩, e1_7⟩) (vs := [.agg #[.bool false, .bool false, .bool false, .bool true, .bool false, .bool true], .int .i64 a1]) Tryz.func3 rfl rfl doorSubs_c35 w
    · exact one [a1] [(0, 7, 1)] (fun e he => by
        simp only [List.mem_cons, List.not_mem_nil, or_false] at he
        subst he; exact ⟨b1, ⟨by decide, by decide⟩, e1_7⟩) (vs := [.agg #[.bool false, .bool false, .bool false, .bool true, .bool false, .bool true], .int .i64 a1]) Tryz.func3 rfl rfl doorSubs_c36 w
    · exact one [a1] [(0, 7, 2)] (fun e he => by
        simp only [List.mem_cons, List.not_mem_nil, or_false] at he
        subst he; exact ⟨b1, ⟨by decide, by decide⟩, e1_7⟩) (vs := [.agg #[.bool false, .bool false, .bool false, .bool true, .bool false, .bool true], .int .i64 a1]) Tryz.func3 rfl rfl doorSubs_c37 w
    · exact one [a1] [(0, 7, 3)] (fun e he => by
        simp only [List.mem_cons, List.not_mem_nil, or_false] at he
        subst he; exact ⟨b1, ⟨by decide, by decide⟩, e1_7⟩) (vs := [.agg #[.bool false, .bool false, .bool false, .bool true, .bool false, .bool true], .int .i64 a1]) Tryz.func3 rfl rfl doorSubs_c38 w
    · exact one [a1] [(0, 7, 4)] (fun e he => by
        simp only [List.mem_cons, List.not_mem_nil, or_false] at he
        subst he; exact ⟨b1, ⟨by decide, by decide⟩, e1_7⟩) (vs := [.agg #[.bool false, .bool false, .bool false, .bool true, .bool false, .bool true], .int .i64 a1]) Tryz.func3 rfl rfl doorSubs_c39 w
    · exact one [a1] [(0, 7, 5)] (fun e he => by
        simp only [List.mem_cons, List.not_mem_nil, or_false] at he
        subst he; exact ⟨b1, ⟨by decide, by decide⟩, e1_7⟩) (vs := [.agg #[.bool false, .bool false, .bool false, .bool true, .bool false, .bool true], .int .i64 a1]) Tryz.func3 rfl rfl doorSubs_c40 w
    · exact one [a1] [(0, 7, 6)] (fun e he => by
        simp only [List.mem_cons, List.not_mem_nil, or_false] at he
        subst he; exact ⟨b1, ⟨by decide, by decide⟩, e1_7⟩) (vs := [.agg #[.bool false, .bool false, .bool false, .bool true, .bool false, .bool true], .int .i64 a1]) Tryz.func3 rfl rfl doorSubs_c41 w
  · rcases (show r1_7 = 0 ∨ r1_7 = 1 ∨ r1_7 = 2 ∨ r1_7 = 3 ∨ r1_7 = 4 ∨ r1_7 = 5 ∨ r1_7 = 6 by omega) with rfl | rfl | rfl | rfl | rfl | rfl | rfl
    · exact one [a1] [(0, 7, 0)] (fun e he => by
        simp only [List.mem_cons, List.not_mem_nil, or_false] at he
        subst he; exact ⟨b1, ⟨by decide, by decide⟩, e1_7⟩) (vs := [.agg #[.bool false, .bool false, .bool false, .bool true, .bool true, .bool false], .int .i64 a1]) Tryz.func3 rfl rfl doorSubs_c42 w
    · exact one [a1] [(0, 7, 1)] (fun e he => by
        simp only [List.mem_cons, List.not_mem_nil, or_false] at he
        subst he; exact ⟨b1, ⟨by decide, by decide⟩, e1_7⟩) (vs := [.agg #[.bool false, .bool false, .bool false, .bool true, .bool true, .bool false], .int .i64 a1]) Tryz.func3 rfl rfl doorSubs_c43 w
    · exact one [a1] [(0, 7, 2)] (fun e he => by
        simp only [List.mem_cons, List.not_mem_nil, or_false] at he
        subst he; exact ⟨b1, ⟨by decide, by decide⟩, e1_7⟩) (vs := [.agg #[.bool false, .bool false, .bool false, .bool true, .bool true, .bool false], .int .i64 a1]) Tryz.func3 rfl rfl doorSubs_c44 w
    · exact one [a1] [(0, 7, 3)] (fun e he => by
        simp only [List.mem_cons, List.not_mem_nil, or_false] at he
        subst he; exact ⟨b1, ⟨by decide, by decide⟩, e1_7⟩) (vs := [.agg #[.bool false, .bool false, .bool false, .bool true, .bool true, .bool false], .int .i64 a1]) Tryz.func3 rfl rfl doorSubs_c45 w
    · exact one [a1] [(0, 7, 4)] (fun e he => by
        simp only [List.mem_cons, List.not_mem_nil, or_false] at he
        subst he; exact ⟨b1, ⟨by decide, by decide⟩, e1_7⟩) (vs := [.agg #[.bool false, .bool false, .bool false, .bool true, .bool true, .bool false], .int .i64 a1]) Tryz.func3 rfl rfl doorSubs_c46 w
    · exact one [a1] [(0, 7, 5)] (fun e he => by
        simp only [List.mem_cons, List.not_mem_nil, or_false] at he
        subst he; exact ⟨b1, ⟨by decide, by decide⟩, e1_7⟩) (vs := [.agg #[.bool false, .bool false, .bool false, .bool true, .bool true, .bool false], .int .i64 a1]) Tryz.func3 rfl rfl doorSubs_c47 w
    · exact one [a1] [(0, 7, 6)] (fun e he => by
        simp only [List.mem_cons, List.not_mem_nil, or_false] at he
        subst he; exact ⟨b1, ⟨by decide, by decide⟩, e1_7⟩) (vs := [.agg #[.bool false, .bool false, .bool false, .bool true, .bool true, .bool false], .int .i64 a1]) Tryz.func3 rfl rfl doorSubs_c48 w
  · rcases (show r1_7 = 0 ∨ r1_7 = 1 ∨ r1_7 = 2 ∨ r1_7 = 3 ∨ r1_7 = 4 ∨ r1_7 = 5 ∨ r1_7 = 6 by omega) with rfl | rfl | rfl | rfl | rfl | rfl | rfl
    · exact one [a1] [(0, 7, 0)] (fun e he => by
        simp only [List.mem_cons, List.not_mem_nil, or_false] at he
        subst he; exact ⟨b1, ⟨by decide, by decide⟩, e1_7⟩) (vs := [.agg #[.bool false, .bool false, .bool false, .bool true, .bool true, .bool true], .int .i64 a1]) Tryz.func3 rfl rfl doorSubs_c49 w
    · exact one [a1] [(0, 7, 1)] (fun e he => by
        simp only [List.mem_cons, List.not_mem_nil, or_false] at he
        subst he; exact ⟨b1, ⟨by decide, by decide⟩, e1_7⟩) (vs := [.agg #[.bool false, .bool false, .bool false, .bool true, .bool true, .bool true], .int .i64 a1]) Tryz.func3 rfl rfl doorSubs_c50 w
    · exact one [a1] [(0, 7, 2)] (fun e he => by
        simp only [List.mem_cons, List.not_mem_nil, or_false] at he
        subst he; exact ⟨b1, ⟨by decide, by decide⟩, e1_7⟩) (vs := [.agg #[.bool false, .bool false, .bool false, .bool true, .bool true, .bool true], .int .i64 a1]) Tryz.func3 rfl rfl doorSubs_c51 w
    · exact one [a1] [(0, 7, 3)] (fun e he => by
        simp only [List.mem_cons, List.not_mem_nil, or_false] at he
        subst he; exact ⟨b1, ⟨by decide, by decide⟩, e1_7⟩) (vs := [.agg #[.bool false, .bool false, .bool false, .bool true, .bool true, .bool true], .int .i64 a1]) Tryz.func3 rfl rfl doorSubs_c52 w
    · exact one [a1] [(0, 7, 4)] (fun e he => by
        simp only [List.mem_cons, List.not_mem_nil, or_false] at he
        subst he; exact ⟨b1, ⟨by decide, by decide⟩, e1_7⟩) (vs := [.agg #[.bool false, .bool false, .bool false, .bool true, .bool true, .bool true], .int .i64 a1]) Tryz.func3 rfl rfl doorSubs_c53 w
    · exact one [a1] [(0, 7, 5)] (fun e he => by
        simp only [List.mem_cons, List.not_mem_nil, or_false] at he
        subst he; exact ⟨b1, ⟨by decide, by decide⟩, e1_7⟩) (vs := [.agg #[.bool false, .bool false, .bool false, .bool true, .bool true, .bool true], .int .i64 a1]) Tryz.func3 rfl rfl doorSubs_c54 w
    · exact one [a1] [(0, 7, 6)] (fun e he => by
        simp only [List.mem_cons, List.not_mem_nil, or_false] at he
        subst he; exact ⟨b1, ⟨by decide, by decide⟩, e1_7⟩) (vs := [.agg #[.bool false, .bool false, .bool false, .bool true, .bool true, .bool true], .int .i64 a1]) Tryz.func3 rfl rfl doorSubs_c55 w
  · rcases (show r1_7 = 0 ∨ r1_7 = 1 ∨ r1_7 = 2 ∨ r1_7 = 3 ∨ r1_7 = 4 ∨ r1_7 = 5 ∨ r1_7 = 6 by omega) with rfl | rfl | rfl | rfl | rfl | rfl | rfl
    · exact one [a1] [(0, 7, 0)] (fun e he => by
        simp only [List.mem_cons, List.not_mem_nil, or_false] at he
        subst he; exact ⟨b1, ⟨by decide, by decide⟩, e1_7⟩) (vs := [.agg #[.bool false, .bool false, .bool true, .bool false, .bool false, .bool false], .int .i64 a1]) Tryz.func3 rfl rfl doorSubs_c56 w
    · exact one [a1] [(0, 7, 1)] (fun e he => by
        simp only [List.mem_cons, List.not_mem_nil, or_false] at he
        subst he; exact ⟨b1, ⟨by decide, by decide⟩, e1_7⟩) (vs := [.agg #[.bool false, .bool false, .bool true, .bool false, .bool false, .bool false], .int .i64 a1]) Tryz.func3 rfl rfl doorSubs_c57 w
    · exact one [a1] [(0, 7, 2)] (fun e he => by
        simp only [List.mem_cons, List.not_mem_nil, or_false] at he
        subst he; exact ⟨b1, ⟨by decide, by decide⟩, e1_7⟩) (vs := [.agg #[.bool false, .bool false, .bool true, .bool false, .bool false, .bool false], .int .i64 a1]) Tryz.func3 rfl rfl doorSubs_c58 w
    · exact one [a1] [(0, 7, 3)] (fun e he => by
        simp only [List.mem_cons, List.not_mem_nil, or_false] at he
        subst he; exact ⟨b1, ⟨by decide, by decide⟩, e1_7⟩) (vs := [.agg #[.bool false, .bool false, .bool true, .bool false, .bool false, .bool false], .int .i64 a1]) Tryz.func3 rfl rfl doorSubs_c59 w
    · exact one [a1] [(0, 7, 4)] (fun e he => by
        simp only [List.mem_cons, List.not_mem_nil, or_false] at he
        subst he; exact ⟨b1, ⟨by decide, by decide⟩, e1_7⟩) (vs := [.agg #[.bool false, .bool false, .bool true, .bool false, .bool false, .bool false], .int .i64 a1]) Tryz.func3 rfl rfl doorSubs_c60 w
    · exact one [a1] [(0, 7, 5)] (fun e he => by
        simp only [List.mem_cons, List.not_mem_nil, or_false] at he
        subst he; exact ⟨b1, ⟨by decide, by decide⟩, e1_7⟩) (vs := [.agg #[.bool false, .bool false, .bool true, .bool false, .bool false, .bool false], .int .i64 a1]) Tryz.func3 rfl rfl doorSubs_c61 w
    · exact one [a1] [(0, 7, 6)] (fun e he => by
        simp only [List.mem_cons, List.not_mem_nil, or_false] at he
        subst he; exact ⟨b1, ⟨by decide, by decide⟩, e1_7⟩) (vs := [.agg #[.bool false, .bool false, .bool true, .bool false, .bool false, .bool false], .int .i64 a1]) Tryz.func3 rfl rfl doorSubs_c62 w
  · rcases (show r1_7 = 0 ∨ r1_7 = 1 ∨ r1_7 = 2 ∨ r1_7 = 3 ∨ r1_7 = 4 ∨ r1_7 = 5 ∨ r1_7 = 6 by omega) with rfl | rfl | rfl | rfl | rfl | rfl | rfl
    · exact one [a1] [(0, 7, 0)] (fun e he => by
        simp only [List.mem_cons, List.not_mem_nil, or_false] at he
        subst he; exact ⟨b1, ⟨by decide, by decide⟩, e1_7⟩) (vs := [.agg #[.bool false, .bool false, .bool true, .bool false, .bool false, .bool true], .int .i64 a1]) Tryz.func3 rfl rfl doorSubs_c63 w
    · exact one [a1] [(0, 7, 1)] (fun e he => by
        simp only [List.mem_cons, List.not_mem_nil, or_false] at he
        subst he; exact ⟨b1, ⟨by decide, by decide⟩, e1_7⟩) (vs := [.agg #[.bool false, .bool false, .bool true, .bool false, .bool false, .bool true], .int .i64 a1]) Tryz.func3 rfl rfl doorSubs_c64 w
    · exact one [a1] [(0, 7, 2)] (fun e he => by
        simp only [List.mem_cons, List.not_mem_nil, or_false] at he
        subst he; exact ⟨b1, ⟨by decide, by decide⟩, e1_7⟩) (vs := [.agg #[.bool false, .bool false, .bool true, .bool false, .bool false, .bool true], .int .i64 a1]) Tryz.func3 rfl rfl doorSubs_c65 w
    · exact one [a1] [(0, 7, 3)] (fun e he => by
        simp only [List.mem_cons, List.not_mem_nil, or_false] at he
        subst he; exact ⟨b1, ⟨by decide, by decide⟩, e1_7⟩) (vs := [.agg #[.bool false, .bool false, .bool true, .bool false, .bool false, .bool true], .int .i64 a1]) Tryz.func3 rfl rfl doorSubs_c66 w
    · exact one [a1] [(0, 7, 4)] (fun e he => by
        simp only [List.mem_cons, List.not_mem_nil, or_false] at he
        subst he; exact ⟨b1, ⟨by decide, by decide⟩, e1_7⟩) (vs := [.agg #[.bool false, .bool false, .bool true, .bool false, .bool false, .bool true], .int .i64 a1]) Tryz.func3 rfl rfl doorSubs_c67 w
    · exact one [a1] [(0, 7, 5)] (fun e he => by
        simp only [List.mem_cons, List.not_mem_nil, or_false] at he
        subst he; exact ⟨b1, ⟨by decide, by decide⟩, e1_7⟩) (vs := [.agg #[.bool false, .bool false, .bool true, .bool false, .bool false, .bool true], .int .i64 a1]) Tryz.func3 rfl rfl doorSubs_c68 w
    · exact one [a1] [(0, 7, 6)] (fun e he => by
        simp only [List.mem_cons, List.not_mem_nil, or_false] at he
        subst he; exact ⟨b1, ⟨by decide, by decide⟩, e1_7⟩) (vs := [.agg #[.bool false, .bool false, .bool true, .bool false, .bool false, .bool true], .int .i64 a1]) Tryz.func3 rfl rfl doorSubs_c69 w
  · rcases (show r1_7 = 0 ∨ r1_7 = 1 ∨ r1_7 = 2 ∨ r1_7 = 3 ∨ r1_7 = 4 ∨ r1_7 = 5 ∨ r1_7 = 6 by omega) with rfl | rfl | rfl | rfl | rfl | rfl | rfl
    · exact one [a1] [(0, 7, 0)] (fun e he => by
        simp only [List.mem_cons, List.not_mem_nil, or_false] at he
        subst he; exact ⟨b1, ⟨by decide, by decide⟩, e1_7⟩) (vs := [.agg #[.bool false, .bool false, .bool true, .bool false, .bool true, .bool false], .int .i64 a1]) Tryz.func3 rfl rfl doorSubs_c70 w
    · exact one [a1] [(0, 7, 1)] (fun e he => by
        simp only [List.mem_cons, List.not_mem_nil, or_false] at he
        subst he; exact ⟨b1, ⟨by decide, by decide⟩, e1_7⟩) (vs := [.agg #[.bool false, .bool false, .bool true, .bool false, .bool true, .bool false], .int .i64 a1]) Tryz.func3 rfl rfl doorSubs_c71 w
    · exact one [a1] [(0, 7, 2)] (fun e he => by
        simp only [List.mem_cons, List.not_mem_nil, or_false] at he
        subst he; exact ⟨b1, ⟨by decide, by decide⟩, e1_7⟩) (vs := [.agg #[.bool false, .bool false, .bool true, .bool false, .bool true, .bool false], .int .i64 a1]) Tryz.func3 rfl rfl doorSubs_c72 w
    · exact one [a1] [(0, 7, 3)] (fun e he => by
        simp only [List.mem_cons, List.not_mem_nil, or_false] at he
        subst he; exact ⟨b1, ⟨by decide, by decide⟩, e1_7⟩) (vs := [.agg #[.bool false, .bool false, .bool true, .bool false, .bool true, .bool false], .int .i64 a1]) Tryz.func3 rfl rfl doorSubs_c73 w
    · exact one [a1] [(0, 7, 4)] (fun e he => by
        simp only [List.mem_cons, List.not_mem_nil, or_false] at he
        subst he; exact ⟨b1, ⟨by decide, by decide⟩, e1_7⟩) (vs := [.agg #[.bool false, .bool false, .bool true, .bool false, .bool true, .bool false], .int .i64 a1]) Tryz.func3 rfl rfl doorSubs_c74 w
    · exact one [a1] [(0, 7, 5)] (fun e he => by
        simp only [List.mem_cons, List.not_mem_nil, or_false] at he
        subst he; exact ⟨b1, ⟨by decide, by decide⟩, e1_7⟩) (vs := [.agg #[.bool false, .bool false, .bool true, .bool false, .bool true, .bool false], .int .i64 a1]) Tryz.func3 rfl rfl doorSubs_c75 w
    · exact one [a1] [(0, 7, 6)] (fun e he => by
        simp only [List.mem_cons, List.not_mem_nil, or_false] at he
        subst he; exact ⟨b1, ⟨by decide, by decide⟩, e1_7⟩) (vs := [.agg #[.bool false, .bool false, .bool true, .bool false, .bool true, .bool false], .int .i64 a1]) Tryz.func3 rfl rfl doorSubs_c76 w
  · rcases (show r1_7 = 0 ∨ r1_7 = 1 ∨ r1_7 = 2 ∨ r1_7 = 3 ∨ r1_7 = 4 ∨ r1_7 = 5 ∨ r1_7 = 6 by omega) with rfl | rfl | rfl | rfl | rfl | rfl | rfl
    · exact one [a1] [(0, 7, 0)] (fun e he => by
        simp only [List.mem_cons, List.not_mem_nil, or_false] at he
        subst he; exact ⟨b1, ⟨by decide, by decide⟩, e1_7⟩) (vs := [.agg #[.bool false, .bool false, .bool true, .bool false, .bool true, .bool true], .int .i64 a1]) Tryz.func3 rfl rfl doorSubs_c77 w
    · exact one [a1] [(0, 7, 1)] (fun e he => by
        simp only [List.mem_cons, List.not_mem_nil, or_false] at he
        subst he; exact ⟨b1, ⟨by decide, by decide⟩, e1_7⟩) (vs := [.agg #[.bool false, .bool false, .bool true, .bool false, .bool true, .bool true], .int .i64 a1]) Tryz.func3 rfl rfl doorSubs_c78 w
    · exact one [a1] [(0, 7, 2)] (fun e he => by
        simp only [List.mem_cons, List.not_mem_nil, or_false] at he
        subst he; exact ⟨b1, ⟨by decide, by decide⟩, e1_7⟩) (vs := [.agg #[.bool false, .bool false, .bool true, .bool false, .bool true, .bool true], .int .i64 a1]) Tryz.func3 rfl rfl doorSubs_c79 w
    · exact one [a1] [(0, 7, 3)] (fun e he => by
        simp only [List.mem_cons, List.not_mem_nil, or_false] at he
        subst he; exact ⟨b1, ⟨by decide, by decide⟩, e1_7⟩) (vs := [.agg #[.bool false, .bool false, .bool true, .bool false, .bool true, .bool true], .int .i64 a1]) Tryz.func3 rfl rfl doorSubs_c80 w
    · exact one [a1] [(0, 7, 4)] (fun e he => by
        simp only [List.mem_cons, List.not_mem_nil, or_false] at he
        subst he; exact ⟨b1, ⟨by decide, by decide⟩, e1_7⟩) (vs := [.agg #[.bool false, .bool false, .bool true, .bool false, .bool true, .bool true], .int .i64 a1]) Tryz.func3 rfl rfl doorSubs_c81 w
    · exact one [a1] [(0, 7, 5)] (fun e he => by
        simp only [List.mem_cons, List.not_mem_nil, or_false] at he
        subst he; exact ⟨b1, ⟨by decide, by decide⟩, e1_7⟩) (vs := [.agg #[.bool false, .bool false, .bool true, .bool false, .bool true, .bool true], .int .i64 a1]) Tryz.func3 rfl rfl doorSubs_c82 w
    · exact one [a1] [(0, 7, 6)] (fun e he => by
        simp only [List.mem_cons, List.not_mem_nil, or_false] at he
        subst he; exact ⟨b1, ⟨by decide, by decide⟩, e1_7⟩) (vs := [.agg #[.bool false, .bool false, .bool true, .bool false, .bool true, .bool true], .int .i64 a1]) Tryz.func3 rfl rfl doorSubs_c83 w
  · rcases (show r1_7 = 0 ∨ r1_7 = 1 ∨ r1_7 = 2 ∨ r1_7 = 3 ∨ r1_7 = 4 ∨ r1_7 = 5 ∨ r1_7 = 6 by omega) with rfl | rfl | rfl | rfl | rfl | rfl | rfl
    · exact one [a1] [(0, 7, 0)] (fun e he => by
        simp only [List.mem_cons, List.not_mem_nil, or_false] at he
        subst he; exact ⟨b1, ⟨by decide, by decide⟩, e1_7⟩) (vs := [.agg #[.bool false, .bool false, .bool true, .bool true, .bool false, .bool false], .int .i64 a1]) Tryz.func3 rfl rfl doorSubs_c84 w
    · exact one [a1] [(0, 7, 1)] (fun e he => by
        simp only [List.mem_cons, List.not_mem_nil, or_false] at he
        subst he; exact ⟨b1, ⟨by decide, by decide⟩, e1_7⟩) (vs := [.agg #[.bool false, .bool false, .bool true, .bool true, .bool false, .bool false], .int .i64 a1]) Tryz.func3 rfl rfl doorSubs_c85 w
    · exact one [a1] [(0, 7, 2)] (fun e he => by
        simp only [List.mem_cons, List.not_mem_nil, or_false] at he
        subst he; exact ⟨b1, ⟨by decide, by decide⟩, e1_7⟩) (vs := [.agg #[.bool false, .bool false, .bool true, .bool true, .bool false, .bool false], .int .i64 a1]) Tryz.func3 rfl rfl doorSubs_c86 w
    · exact one [a1] [(0, 7, 3)] (fun e he => by
        simp only [List.mem_cons, List.not_mem_nil, or_false] at he
        subst he; exact ⟨b1, ⟨by decide, by decide⟩, e1_7⟩) (vs := [.agg #[.bool false, .bool false, .bool true, .bool true, .bool false, .bool false], .int .i64 a1]) Tryz.func3 rfl rfl doorSubs_c87 w
    · exact one [a1] [(0, 7, 4)] (fun e he => by
        simp only [List.mem_cons, List.not_mem_nil, or_false] at he
        subst he; exact ⟨b1, ⟨by decide, by decide⟩, e1_7⟩) (vs := [.agg #[.bool false, .bool false, .bool true, .bool true, .bool false, .bool false], .int .i64 a1]) Tryz.func3 rfl rfl doorSubs_c88 w
    · exact one [a1] [(0, 7, 5)] (fun e he => by
        simp only [List.mem_cons, List.not_mem_nil, or_false] at he
        subst he; exact ⟨b1, ⟨by decide, by decide⟩, e1_7⟩) (vs := [.agg #[.bool false, .bool false, .bool true, .bool true, .bool false, .bool false], .int .i64 a1]) Tryz.func3 rfl rfl doorSubs_c89 w
    · exact one [a1] [(0, 7, 6)] (fun e he => by
        simp only [List.mem_cons, List.not_mem_nil, or_false] at he
        subst he; exact ⟨b1, ⟨by decide, by decide⟩, e1_7⟩) (vs := [.agg #[.bool false, .bool false, .bool true, .bool true, .bool false, .bool false], .int .i64 a1]) Tryz.func3 rfl rfl doorSubs_c90 w
  · rcases (show r1_7 = 0 ∨ r1_7 = 1 ∨ r1_7 = 2 ∨ r1_7 = 3 ∨ r1_7 = 4 ∨ r1_7 = 5 ∨ r1_7 = 6 by omega) with rfl | rfl | rfl | rfl | rfl | rfl | rfl
    · exact one [a1] [(0, 7, 0)] (fun e he => by
        simp only [List.mem_cons, List.not_mem_nil, or_false] at he
        subst he; exact ⟨b1, ⟨by decide, by decide⟩, e1_7⟩) (vs := [.agg #[.bool false, .bool false, .bool true, .bool true, .bool false, .bool true], .int .i64 a1]) Tryz.func3 rfl rfl doorSubs_c91 w
    · exact one [a1] [(0, 7, 1)] (fun e he => by
        simp only [List.mem_cons, List.not_mem_nil, or_false] at he
        subst he; exact ⟨b1, ⟨by decide, by decide⟩, e1_7⟩) (vs := [.agg #[.bool false, .bool false, .bool true, .bool true, .bool false, .bool true], .int .i64 a1]) Tryz.func3 rfl rfl doorSubs_c92 w
    · exact one [a1] [(0, 7, 2)] (fun e he => by
        simp only [List.mem_cons, List.not_mem_nil, or_false] at he
        subst he; exact ⟨b1, ⟨by decide, by decide⟩, e1_7⟩) (vs := [.agg #[.bool false, .bool false, .bool true, .bool true, .bool false, .bool true], .int .i64 a1]) Tryz.func3 rfl rfl doorSubs_c93 w
    · exact one [a1] [(0, 7, 3)] (fun e he => by
        simp only [List.mem_cons, List.not_mem_nil, or_false] at he
        subst he; exact ⟨b1, ⟨by decide, by decide⟩, e1_7⟩) (vs := [.agg #[.bool false, .bool false, .bool true, .bool true, .bool false, .bool true], .int .i64 a1]) Tryz.func3 rfl rfl doorSubs_c94 w
    · exact one [a1] [(0, 7, 4)] (fun e he => by
        simp only [List.mem_cons, List.not_mem_nil, or_false] at he
        subst he; exact ⟨b1, ⟨by decide, by decide⟩, e1_7⟩) (vs := [.agg #[.bool false, .bool false, .bool true, .bool true, .bool false, .bool true], .int .i64 a1]) Tryz.func3 rfl rfl doorSubs_c95 w
    · exact one [a1] [(0, 7, 5)] (fun e he => by
        simp only [List.mem_cons, List.not_mem_nil, or_false] at he
        subst he; exact ⟨b1, ⟨by decide, by decide⟩, e1_7⟩) (vs := [.agg #[.bool false, .bool false, .bool true, .bool true, .bool false, .bool true], .int .i64 a1]) Tryz.func3 rfl rfl doorSubs_c96 w
    · exact one [a1] [(0, 7, 6)] (fun e he => by
        simp only [List.mem_cons, List.not_mem_nil, or_false] at he
        subst he; exact ⟨b1, ⟨by decide, by decide⟩, e1_7⟩) (vs := [.agg #[.bool false, .bool false, .bool true, .bool true, .bool false, .bool true], .int .i64 a1]) Tryz.func3 rfl rfl doorSubs_c97 w
  · rcases (show r1_7 = 0 ∨ r1_7 = 1 ∨ r1_7 = 2 ∨ r1_7 = 3 ∨ r1_7 = 4 ∨ r1_7 = 5 ∨ r1_7 = 6 by omega) with rfl | rfl | rfl | rfl | rfl | rfl | rfl
    · exact one [a1] [(0, 7, 0)] (fun e he => by
        simp only [List.mem_cons, List.not_mem_nil, or_false] at he
        subst he; exact ⟨b1, ⟨by decide, by decide⟩, e1_7⟩) (vs := [.agg #[.bool false, .bool false, .bool true, .bool true, .bool true, .bool false], .int .i64 a1]) Tryz.func3 rfl rfl doorSubs_c98 w
    · exact one [a1] [(0, 7, 1)] (fun e he => by
        simp only [List.mem_cons, List.not_mem_nil, or_false] at he
        subst he; exact ⟨b1, ⟨by decide, by decide⟩, e1_7⟩) (vs := [.agg #[.bool false, .bool false, .bool true, .bool true, .bool true, .bool false], .int .i64 a1]) Tryz.func3 rfl rfl doorSubs_c99 w
    · exact one [a1] [(0, 7, 2)] (fun e he => by
        simp only [List.mem_cons, List.not_mem_nil, or_false] at he
        subst he; exact ⟨b1, ⟨by decide, by decide⟩, e1_7⟩) (vs := [.agg #[.bool false, .bool false, .bool true, .bool true, .bool true, .bool false], .int .i64 a1]) Tryz.func3 rfl rfl doorSubs_c100 w
    · exact one [a1] [(0, 7, 3)] (fun e he => by
        simp only [List.mem_cons, List.not_mem_nil, or_false] at he
        subst he; exact ⟨b1, ⟨by decide, by decide⟩, e1_7⟩) (vs := [.agg #[.bool false, .bool false, .bool true, .bool true, .bool true, .bool false], .int .i64 a1]) Tryz.func3 rfl rfl doorSubs_c101 w
    · exact one [a1] [(0, 7, 4)] (fun e he => by
        simp only [List.mem_cons, List.not_mem_nil, or_false] at he
        subst he; exact ⟨b1, ⟨by decide, by decide⟩, e1_7⟩) (vs := [.agg #[.bool false, .bool false, .bool true, .bool true, .bool true, .bool false], .int .i64 a1]) Tryz.func3 rfl rfl doorSubs_c102 w
    · exact one [a1] [(0, 7, 5)] (fun e he => by
        simp only [List.mem_cons, List.not_mem_nil, or_false] at he
        subst he; exact ⟨b1, ⟨by decide, by decide⟩, e1_7⟩) (vs := [.agg #[.bool false, .bool false, .bool true, .bool true, .bool true, .bool false], .int .i64 a1]) Tryz.func3 rfl rfl doorSubs_c103 w
    · exact one [a1] [(0, 7, 6)] (fun e he => by
        simp only [List.mem_cons, List.not_mem_nil, or_false] at he
        subst he; exact ⟨b1, ⟨by decide, by decide⟩, e1_7⟩) (vs := [.agg #[.bool false, .bool false, .bool true, .bool true, .bool true, .bool false], .int .i64 a1]) Tryz.func3 rfl rfl doorSubs_c104 w
  · rcases (show r1_7 = 0 ∨ r1_7 = 1 ∨ r1_7 = 2 ∨ r1_7 = 3 ∨ r1_7 = 4 ∨ r1_7 = 5 ∨ r1_7 = 6 by omega) with rfl | rfl | rfl | rfl | rfl | rfl | rfl
    · exact one [a1] [(0, 7, 0)] (fun e he => by
        simp only [List.mem_cons, List.not_mem_nil, or_false] at he
        subst he; exact ⟨b1, ⟨by decide, by decide⟩, e1_7⟩) (vs := [.agg #[.bool false, .bool false, .bool true, .bool true, .bool true, .bool true], .int .i64 a1]) Tryz.func3 rfl rfl doorSubs_c105 w
    · exact one [a1] [(0, 7, 1)] (fun e he => by
        simp only [List.mem_cons, List.not_mem_nil, or_false] at he
        subst he; exact ⟨b1, ⟨by decide, by decide⟩, e1_7⟩) (vs := [.agg #[.bool false, .bool false, .bool true, .bool true, .bool true, .bool true], .int .i64 a1]) Tryz.func3 rfl rfl doorSubs_c106 w
    · exact one [a1] [(0, 7, 2)] (fun e he => by
        simp only [List.mem_cons, List.not_mem_nil, or_false] at he
        subst he; exact ⟨b1, ⟨by decide, by decide⟩, e1_7⟩) (vs := [.agg #[.bool false, .bool false, .bool true, .bool true, .bool true, .bool true], .int .i64 a1]) Tryz.func3 rfl rfl doorSubs_c107 w
    · exact one [a1] [(0, 7, 3)] (fun e he => by
        simp only [List.mem_cons, List.not_mem_nil, or_false] at he
        subst he; exact ⟨b1, ⟨by decide, by decide⟩, e1_7⟩) (vs := [.agg #[.bool false, .bool false, .bool true, .bool true, .bool true, .bool true], .int .i64 a1]) Tryz.func3 rfl rfl doorSubs_c108 w
    · exact one [a1] [(0, 7, 4)] (fun e he => by
        simp only [List.mem_cons, List.not_mem_nil, or_false] at he
        subst he; exact ⟨b1, ⟨by decide, by decide⟩, e1_7⟩) (vs := [.agg #[.bool false, .bool false, .bool true, .bool true, .bool true, .bool true], .int .i64 a1]) Tryz.func3 rfl rfl doorSubs_c109 w
    · exact one [a1] [(0, 7, 5)] (fun e he => by
        simp only [List.mem_cons, List.not_mem_nil, or_false] at he
        subst he; exact ⟨b1, ⟨by decide, by decide⟩, e1_7⟩) (vs := [.agg #[.bool false, .bool false, .bool true, .bool true, .bool true, .bool true], .int .i64 a1]) Tryz.func3 rfl rfl doorSubs_c110 w
    · exact one [a1] [(0, 7, 6)] (fun e he => by
        simp only [List.mem_cons, List.not_mem_nil, or_false] at he
        subst he; exact ⟨b1, ⟨by decide, by decide⟩, e1_7⟩) (vs := [.agg #[.bool false, .bool false, .bool true, .bool true, .bool true, .bool true], .int .i64 a1]) Tryz.func3 rfl rfl doorSubs_c111 w
  · rcases (show r1_7 = 0 ∨ r1_7 = 1 ∨ r1_7 = 2 ∨ r1_7 = 3 ∨ r1_7 = 4 ∨ r1_7 = 5 ∨ r1_7 = 6 by omega) with rfl | rfl | rfl | rfl | rfl | rfl | rfl
    · exact one [a1] [(0, 7, 0)] (fun e he => by
        simp only [List.mem_cons, List.not_mem_nil, or_false] at he
        subst he; exact ⟨b1, ⟨by decide, by decide⟩, e1_7⟩) (vs := [.agg #[.bool false, .bool true, .bool false, .bool false, .bool false, .bool false], .int .i64 a1]) Tryz.func3 rfl rfl doorSubs_c112 w
    · exact one [a1] [(0, 7, 1)] (fun e he => by
        simp only [List.mem_cons, List.not_mem_nil, or_false] at he
        subst he; exact ⟨b1, ⟨by decide, by decide⟩, e1_7⟩) (vs := [.agg #[.bool false, .bool true, .bool false, .bool false, .bool false, .bool false], .int .i64 a1]) Tryz.func3 rfl rfl doorSubs_c113 w
    · exact one [a1] [(0, 7, 2)] (fun e he => by
        simp only [List.mem_cons, List.not_mem_nil, or_false] at he
        subst he; exact ⟨b1, ⟨by decide, by decide⟩, e1_7⟩) (vs := [.agg #[.bool false, .bool true, .bool false, .bool false, .bool false, .bool false], .int .i64 a1]) Tryz.func3 rfl rfl doorSubs_c114 w
    · exact one [a1] [(0, 7, 3)] (fun e he => by
        simp only [List.mem_cons, List.not_mem_nil, or_false] at he
        subst he; exact ⟨b1, ⟨by decide, by decide⟩, e1_7⟩) (vs := [.agg #[.bool false, .bool true, .bool false, .bool false, .bool false, .bool false], .int .i64 a1]) Tryz.func3 rfl rfl doorSubs_c115 w
    · exact one [a1] [(0, 7, 4)] (fun e he => by
        simp only [List.mem_cons, List.not_mem_nil, or_false] at he
        subst he; exact ⟨b1, ⟨by decide, by decide⟩, e1_7⟩) (vs := [.agg #[.bool false, .bool true, .bool false, .bool false, .bool false, .bool false], .int .i64 a1]) Tryz.func3 rfl rfl doorSubs_c116 w
    · exact one [a1] [(0, 7, 5)] (fun e he => by
        simp only [List.mem_cons, List.not_mem_nil, or_false] at he
        subst he; exact ⟨b1, ⟨by decide, by decide⟩, e1_7⟩) (vs := [.agg #[.bool false, .bool true, .bool false, .bool false, .bool false, .bool false], .int .i64 a1]) Tryz.func3 rfl rfl doorSubs_c117 w
    · exact one [a1] [(0, 7, 6)] (fun e he => by
        simp only [List.mem_cons, List.not_mem_nil, or_false] at he
        subst he; exact ⟨b1, ⟨by decide, by decide⟩, e1_7⟩) (vs := [.agg #[.bool false, .bool true, .bool false, .bool false, .bool false, .bool false], .int .i64 a1]) Tryz.func3 rfl rfl doorSubs_c118 w
  · rcases (show r1_7 = 0 ∨ r1_7 = 1 ∨ r1_7 = 2 ∨ r1_7 = 3 ∨ r1_7 = 4 ∨ r1_7 = 5 ∨ r1_7 = 6 by omega) with rfl | rfl | rfl | rfl | rfl | rfl | rfl
    · exact one [a1] [(0, 7, 0)] (fun e he => by
        simp only [List.mem_cons, List.not_mem_nil, or_false] at he
        subst he; exact ⟨b1, ⟨by decide, by decide⟩, e1_7⟩) (vs := [.agg #[.bool false, .bool true, .bool false, .bool false, .bool false, .bool true], .int .i64 a1]) Tryz.func3 rfl rfl doorSubs_c119 w
    · exact one [a1] [(0, 7, 1)] (fun e he => by
        simp only [List.mem_cons, List.not_mem_nil, or_false] at he
        subst he; exact ⟨b1, ⟨by decide, by decide⟩, e1_7⟩) (vs := [.agg #[.bool false, .bool true, .bool false, .bool false, .bool false, .bool true], .int .i64 a1]) Tryz.func3 rfl rfl doorSubs_c120 w
    · exact one [a1] [(0, 7, 2)] (fun e he => by
        simp only [List.mem_cons, List.not_mem_nil, or_false] at he
        subst he; exact ⟨b1, ⟨by decide, by decide⟩, e1_7⟩) (vs := [.agg #[.bool false, .bool true, .bool false, .bool false, .bool false, .bool true], .int .i64 a1]) Tryz.func3 rfl rfl doorSubs_c121 w
    · exact one [a1] [(0, 7, 3)] (fun e he => by
        simp only [List.mem_cons, List.not_mem_nil, or_false] at he
        subst he; exact ⟨b1, ⟨by decide, by decide⟩, e1_7⟩) (vs := [.agg #[.bool false, .bool true, .bool false, .bool false, .bool false, .bool true], .int .i64 a1]) Tryz.func3 rfl rfl doorSubs_c122 w
    · exact one [a1] [(0, 7, 4)] (fun e he => by
        simp only [List.mem_cons, List.not_mem_nil, or_false] at he
        subst he; exact ⟨b1, ⟨by decide, by decide⟩, e1_7⟩) (vs := [.agg #[.bool false, .bool true, .bool false, .bool false, .bool false, .bool true], .int .i64 a1]) Tryz.func3 rfl rfl doorSubs_c123 w
    · exact one [a1] [(0, 7, 5)] (fun e he => by
        simp only [List.mem_cons, List.not_mem_nil, or_false] at he
        subst he; exact ⟨b1, ⟨by decide, by decide⟩, e1_7⟩) (vs := [.agg #[.bool false, .bool true, .bool false, .bool false, .bool false, .bool true], .int .i64 a1]) Tryz.func3 rfl rfl doorSubs_c124 w
    · exact one [a1] [(0, 7, 6)] (fun e he => by
        simp only [List.mem_cons, List.not_mem_nil, or_false] at he
        subst he; exact ⟨b1, ⟨by decide, by decide⟩, e1_7⟩) (vs := [.agg #[.bool false, .bool true, .bool false, .bool false, .bool false, .bool true], .int .i64 a1]) Tryz.func3 rfl rfl doorSubs_c125 w
  · rcases (show r1_7 = 0 ∨ r1_7 = 1 ∨ r1_7 = 2 ∨ r1_7 = 3 ∨ r1_7 = 4 ∨ r1_7 = 5 ∨ r1_7 = 6 by omega) with rfl | rfl | rfl | rfl | rfl | rfl | rfl
    · exact one [a1] [(0, 7, 0)] (fun e he => by
        simp only [List.mem_cons, List.not_mem_nil, or_false] at he
        subst he; exact ⟨b1, ⟨by decide, by decide⟩, e1_7⟩) (vs := [.agg #[.bool false, .bool true, .bool false, .bool false, .bool true, .bool false], .int .i64 a1]) Tryz.func3 rfl rfl doorSubs_c126 w
    · exact one [a1] [(0, 7, 1)] (fun e he => by
        simp only [List.mem_cons, List.not_mem_nil, or_false] at he
        subst he; exact ⟨b1, ⟨by decide, by decide⟩, e1_7⟩) (vs := [.agg #[.bool false, .bool true, .bool false, .bool false, .bool true, .bool false], .int .i64 a1]) Tryz.func3 rfl rfl doorSubs_c127 w
    · exact one [a1] [(0, 7, 2)] (fun e he => by
        simp only [List.mem_cons, List.not_mem_nil, or_false] at he
        subst he; exact ⟨b1, ⟨by decide, by decide⟩, e1_7⟩) (vs := [.agg #[.bool false, .bool true, .bool false, .bool false, .bool true, .bool false], .int .i64 a1]) Tryz.func3 rfl rfl doorSubs_c128 w
    · exact one [a1] [(0, 7, 3)] (fun e he => by
        simp only [List.mem_cons, List.not_mem_nil, or_false] at he
        subst he; exact ⟨b1, ⟨by decide, by decide⟩, e1_7⟩) (vs := [.agg #[.bool false, .bool true, .bool false, .bool false, .bool true, .bool false], .int .i64 a1]) Tryz.func3 rfl rfl doorSubs_c129 w
    · exact one [a1] [(0, 7, 4)] (fun e he => by
        simp only [List.mem_cons, List.not_mem_nil, or_false] at he
        subst he; exact ⟨b1, ⟨by decide, by decide⟩, e1_7⟩) (vs := [.agg #[.bool false, .bool true, .bool false, .bool false, .bool true, .bool false], .int .i64 a1]) Tryz.func3 rfl rfl doorSubs_c130 w
    · exact one [a1] [(0, 7, 5)] (fun e he => by
        simp only [List.mem_cons, List.not_mem_nil, or_false] at he
        subst he; exact ⟨b1, ⟨by decide, by decide⟩, e1_7⟩) (vs := [.agg #[.bool false, .bool true, .bool false, .bool false, .bool true, .bool false], .int .i64 a1]) Tryz.func3 rfl rfl doorSubs_c131 w
    · exact one [a1] [(0, 7, 6)] (fun e he => by
        simp only [List.mem_cons, List.not_mem_nil, or_false] at he
        subst he; exact ⟨b1, ⟨by decide, by decide⟩, e1_7⟩) (vs := [.agg #[.bool false, .bool true, .bool false, .bool false, .bool true, .bool false], .int .i64 a1]) Tryz.func3 rfl rfl doorSubs_c132 w
  · rcases (show r1_7 = 0 ∨ r1_7 = 1 ∨ r1_7 = 2 ∨ r1_7 = 3 ∨ r1_7 = 4 ∨ r1_7 = 5 ∨ r1_7 = 6 by omega) with rfl | rfl | rfl | rfl | rfl | rfl | rfl
    · exact one [a1] [(0, 7, 0)] (fun e he => by
        simp only [List.mem_cons, List.not_mem_nil, or_false] at he
        subst he; exact ⟨b1, ⟨by decide, by decide⟩, e1_7⟩) (vs := [.agg #[.bool false, .bool true, .bool false, .bool false, .bool true, .bool true], .int .i64 a1]) Tryz.func3 rfl rfl doorSubs_c133 w
    · exact one [a1] [(0, 7, 1)] (fun e he => by
        simp only [List.mem_cons, List.not_mem_nil, or_false] at he
        subst he; exact ⟨b1, ⟨by decide, by decide⟩, e1_7⟩) (vs := [.agg #[.bool false, .bool true, .bool false, .bool false, .bool true, .bool true], .int .i64 a1]) Tryz.func3 rfl rfl doorSubs_c134 w
    · exact one [a1] [(0, 7, 2)] (fun e he => by
        simp only [List.mem_cons, List.not_mem_nil, or_false] at he
        subst he; exact ⟨b1, ⟨by decide, by decide⟩, e1_7⟩) (vs := [.agg #[.bool false, .bool true, .bool false, .bool false, .bool true, .bool true], .int .i64 a1]) Tryz.func3 rfl rfl doorSubs_c135 w
    · exact one [a1] [(0, 7, 3)] (fun e he => by
        simp only [List.mem_cons, List.not_mem_nil, or_false] at he
        subst he; exact ⟨b1, ⟨by decide, by decide⟩, e1_7⟩) (vs := [.agg #[.bool false, .bool true, .bool false, .bool false, .bool true, .bool true], .int .i64 a1]) Tryz.func3 rfl rfl doorSubs_c136 w
    · exact one [a1] [(0, 7, 4)] (fun e he => by
        simp only [List.mem_cons, List.not_mem_nil, or_false] at he
        subst he; exact ⟨b1, ⟨by decide, by decide⟩, e1_7⟩) (vs := [.agg #[.bool false, .bool true, .bool false, .bool false, .bool true, .bool true], .int .i64 a1]) Tryz.func3 rfl rfl doorSubs_c137 w
    · exact one [a1] [(0, 7, 5)] (fun e he => by
        simp only [List.mem_cons, List.not_mem_nil, or_false] at he
        subst he; exact ⟨b1, ⟨by decide, by decide⟩, e1_7⟩) (vs := [.agg #[.bool false, .bool true, .bool false, .bool false, .bool true, .bool true], .int .i64 a1]) Tryz.func3 rfl rfl doorSubs_c138 w
    · exact one [a1] [(0, 7, 6)] (fun e he => by
        simp only [List.mem_cons, List.not_mem_nil, or_false] at he
        subst he; exact ⟨b1, ⟨by decide, by decide⟩, e1_7⟩) (vs := [.agg #[.bool false, .bool true, .bool false, .bool false, .bool true, .bool true], .int .i64 a1]) Tryz.func3 rfl rfl doorSubs_c139 w
  · rcases (show r1_7 = 0 ∨ r1_7 = 1 ∨ r1_7 = 2 ∨ r1_7 = 3 ∨ r1_7 = 4 ∨ r1_7 = 5 ∨ r1_7 = 6 by omega) with rfl | rfl | rfl | rfl | rfl | rfl | rfl
    · exact one [a1] [(0, 7, 0)] (fun e he => by
        simp only [List.mem_cons, List.not_mem_nil, or_false] at he
        subst he; exact ⟨b1, ⟨by decide, by decide⟩, e1_7⟩) (vs := [.agg #[.bool false, .bool true, .bool false, .bool true, .bool false, .bool false], .int .i64 a1]) Tryz.func3 rfl rfl doorSubs_c140 w
    · exact one [a1] [(0, 7, 1)] (fun e he => by
        simp only [List.mem_cons, List.not_mem_nil, or_false] at he
        subst he; exact ⟨b1, ⟨by decide, by decide⟩, e1_7⟩) (vs := [.agg #[.bool false, .bool true, .bool false, .bool true, .bool false, .bool false], .int .i64 a1]) Tryz.func3 rfl rfl doorSubs_c141 w
    · exact one [a1] [(0, 7, 2)] (fun e he => by
        simp only [List.mem_cons, List.not_mem_nil, or_false] at he
        subst he; exact ⟨b1, ⟨by decide, by decide⟩, e1_7⟩) (vs := [.agg #[.bool false, .bool true, .bool false, .bool true, .bool false, .bool false], .int .i64 a1]) Tryz.func3 rfl rfl doorSubs_c142 w
    · exact one [a1] [(0, 7, 3)] (fun e he => by
        simp only [List.mem_cons, List.not_mem_nil, or_false] at he
        subst he; exact ⟨b1, ⟨by decide, by decide⟩, e1_7⟩) (vs := [.agg #[.bool false, .bool true, .bool false, .bool true, .bool false, .bool false], .int .i64 a1]) Tryz.func3 rfl rfl doorSubs_c143 w
    · exact one [a1] [(0, 7, 4)] (fun e he => by
        simp only [List.mem_cons, List.not_mem_nil, or_false] at he
        subst he; exact ⟨b1, ⟨by decide, by decide⟩, e1_7⟩) (vs := [.agg #[.bool false, .bool true, .bool false, .bool true, .bool false, .bool false], .int .i64 a1]) Tryz.func3 rfl rfl doorSubs_c144 w
    · exact one [a1] [(0, 7, 5)] (fun e he => by
        simp only [List.mem_cons, List.not_mem_nil, or_false] at he
        subst he; exact ⟨b1, ⟨by decide, by decide⟩, e1_7⟩) (vs := [.agg #[.bool false, .bool true, .bool false, .bool true, .bool false, .bool false], .int .i64 a1]) Tryz.func3 rfl rfl doorSubs_c145 w
    · exact one [a1] [(0, 7, 6)] (fun e he => by
        simp only [List.mem_cons, List.not_mem_nil, or_false] at he
        subst he; exact ⟨b1, ⟨by decide, by decide⟩, e1_7⟩) (vs := [.agg #[.bool false, .bool true, .bool false, .bool true, .bool false, .bool false], .int .i64 a1]) Tryz.func3 rfl rfl doorSubs_c146 w
  · rcases (show r1_7 = 0 ∨ r1_7 = 1 ∨ r1_7 = 2 ∨ r1_7 = 3 ∨ r1_7 = 4 ∨ r1_7 = 5 ∨ r1_7 = 6 by omega) with rfl | rfl | rfl | rfl | rfl | rfl | rfl
    · exact one [a1] [(0, 7, 0)] (fun e he => by
        simp only [List.mem_cons, List.not_mem_nil, or_false] at he
        subst he; exact ⟨b1, ⟨by decide, by decide⟩, e1_7⟩) (vs := [.agg #[.bool false, .bool true, .bool false, .bool true, .bool false, .bool true], .int .i64 a1]) Tryz.func3 rfl rfl doorSubs_c147 w
    · exact one [a1] [(0, 7, 1)] (fun e he => by
        simp only [List.mem_cons, List.not_mem_nil, or_false] at he
        subst he; exact ⟨b1, ⟨by decide, by decide⟩, e1_7⟩) (vs := [.agg #[.bool false, .bool true, .bool false, .bool true, .bool false, .bool true], .int .i64 a1]) Tryz.func3 rfl rfl doorSubs_c148 w
    · exact one [a1] [(0, 7, 2)] (fun e he => by
        simp only [List.mem_cons, List.not_mem_nil, or_false] at he
        subst he; exact ⟨b1, ⟨by decide, by decide⟩, e1_7⟩) (vs := [.agg #[.bool false, .bool true, .bool false, .bool true, .bool false, .bool true], .int .i64 a1]) Tryz.func3 rfl rfl doorSubs_c149 w
    · exact one [a1] [(0, 7, 3)] (fun e he => by
        simp only [List.mem_cons, List.not_mem_nil, or_false] at he
        subst he; exact ⟨b1, ⟨by decide, by decide⟩, e1_7⟩) (vs := [.agg #[.bool false, .bool true, .bool false, .bool true, .bool false, .bool true], .int .i64 a1]) Tryz.func3 rfl rfl doorSubs_c150 w
    · exact one [a1] [(0, 7, 4)] (fun e he => by
        simp only [List.mem_cons, List.not_mem_nil, or_false] at he
        subst he; exact ⟨b1, ⟨by decide, by decide⟩, e1_7⟩) (vs := [.agg #[.bool false, .bool true, .bool false, .bool true, .bool false, .bool true], .int .i64 a1]) Tryz.func3 rfl rfl doorSubs_c151 w
    · exact one [a1] [(0, 7, 5)] (fun e he => by
        simp only [List.mem_cons, List.not_mem_nil, or_false] at he
        subst he; exact ⟨b1, ⟨by decide, by decide⟩, e1_7⟩) (vs := [.agg #[.bool false, .bool true, .bool false, .bool true, .bool false, .bool true], .int .i64 a1]) Tryz.func3 rfl rfl doorSubs_c152 w
    · exact one [a1] [(0, 7, 6)] (fun e he => by
        simp only [List.mem_cons, List.not_mem_nil, or_false] at he
        subst he; exact ⟨b1, ⟨by decide, by decide⟩, e1_7⟩) (vs := [.agg #[.bool false, .bool true, .bool false, .bool true, .bool false, .bool true], .int .i64 a1]) Tryz.func3 rfl rfl doorSubs_c153 w
  · rcases (show r1_7 = 0 ∨ r1_7 = 1 ∨ r1_7 = 2 ∨ r1_7 = 3 ∨ r1_7 = 4 ∨ r1_7 = 5 ∨ r1_7 = 6 by omega) with rfl | rfl | rfl | rfl | rfl | rfl | rfl
    · exact one [a1] [(0, 7, 0)] (fun e he => by
        simp only [List.mem_cons, List.not_mem_nil, or_false] at he
        subst he; exact ⟨b1, ⟨by decide, by decide⟩, e1_7⟩) (vs := [.agg #[.bool false, .bool true, .bool false, .bool true, .bool true, .bool false], .int .i64 a1]) Tryz.func3 rfl rfl doorSubs_c154 w
    · exact one [a1] [(0, 7, 1)] (fun e he => by
        simp only [List.mem_cons, List.not_mem_nil, or_false] at he
        subst he; exact ⟨b1, ⟨by decide, by decide⟩, e1_7⟩) (vs := [.agg #[.bool false, .bool true, .bool false, .bool true, .bool true, .bool false], .int .i64 a1]) Tryz.func3 rfl rfl doorSubs_c155 w
    · exact one [a1] [(0, 7, 2)] (fun e he => by
        simp only [List.mem_cons, List.not_mem_nil, or_false] at he
        subst he; exact ⟨b1, ⟨by decide, by decide⟩, e1_7⟩) (vs := [.agg #[.bool false, .bool true, .bool false, .bool true, .bool true, .bool false], .int .i64 a1]) Tryz.func3 rfl rfl doorSubs_c156 w
    · exact one [a1] [(0, 7, 3)] (fun e he => by
        simp only [List.mem_cons, List.not_mem_nil, or_false] at he
        subst he; exact ⟨b1, ⟨by decide, by decide⟩, e1_7⟩) (vs := [.agg #[.bool false, .bool true, .bool false, .bool true, .bool true, .bool false], .int .i64 a1]) Tryz.func3 rfl rfl doorSubs_c157 w
    · exact one [a1] [(0, 7, 4)] (fun e he => by
        simp only [List.mem_cons, List.not_mem_nil, or_false] at he
        subst he; exact ⟨b1, ⟨by decide, by decide⟩, e1_7⟩) (vs := [.agg #[.bool false, .bool true, .bool false, .bool true, .bool true, .bool false], .int .i64 a1]) Tryz.func3 rfl rfl doorSubs_c158 w
    · exact one [a1] [(0, 7, 5)] (fun e he => by
        simp only [List.mem_cons, List.not_mem_nil, or_false] at he
        subst he; exact ⟨b1, ⟨by decide, by decide⟩, e1_7⟩) (vs := [.agg #[.bool false, .bool true, .bool false, .bool true, .bool true, .bool false], .int .i64 a1]) Tryz.func3 rfl rfl doorSubs_c159 w
    · exact one [a1] [(0, 7, 6)] (fun e he => by
        simp only [List.mem_cons, List.not_mem_nil, or_false] at he
        subst he; exact ⟨b1, ⟨by decide, by decide⟩, e1_7⟩) (vs := [.agg #[.bool false, .bool true, .bool false, .bool true, .bool true, .bool false], .int .i64 a1]) Tryz.func3 rfl rfl doorSubs_c160 w
  · rcases (show r1_7 = 0 ∨ r1_7 = 1 ∨ r1_7 = 2 ∨ r1_7 = 3 ∨ r1_7 = 4 ∨ r1_7 = 5 ∨ r1_7 = 6 by omega) with rfl | rfl | rfl | rfl | rfl | rfl | rfl
    · exact one [a1] [(0, 7, 0)] (fun e he => by
        simp only [List.mem_cons, List.not_mem_nil, or_false] at he
        subst he; exact ⟨b1, ⟨by decide, by decide⟩, e1_7⟩) (vs := [.agg #[.bool false, .bool true, .bool false, .bool true, .bool true, .bool true], .int .i64 a1]) Tryz.func3 rfl rfl doorSubs_c161 w
    · exact one [a1] [(0, 7, 1)] (fun e he => by
        simp only [List.mem_cons, List.not_mem_nil, or_false] at he
        subst he; exact ⟨b1, ⟨by decide, by decide⟩, e1_7⟩) (vs := [.agg #[.bool false, .bool true, .bool false, .bool true, .bool true, .bool true], .int .i64 a1]) Tryz.func3 rfl rfl doorSubs_c162 w
    · exact one [a1] [(0, 7, 2)] (fun e he => by
        simp only [List.mem_cons, List.not_mem_nil, or_false] at he
        subst he; exact ⟨b1, ⟨by decide, by decide⟩, e1_7⟩) (vs := [.agg #[.bool false, .bool true, .bool false, .bool true, .bool true, .bool true], .int .i64 a1]) Tryz.func3 rfl rfl doorSubs_c163 w
    · exact one [a1] [(0, 7, 3)] (fun e he => by
        simp only [List.mem_cons, List.not_mem_nil, or_false] at he
        subst he; exact ⟨b1, ⟨by decide, by decide⟩, e1_7⟩) (vs := [.agg #[.bool false, .bool true, .bool false, .bool true, .bool true, .bool true], .int .i64 a1]) Tryz.func3 rfl rfl doorSubs_c164 w
    · exact one [a1] [(0, 7, 4)] (fun e he => by
        simp only [List.mem_cons, List.not_mem_nil, or_false] at he
        subst he; exact ⟨b1, ⟨by decide, by decide⟩, e1_7⟩) (vs := [.agg #[.bool false, .bool true, .bool false, .bool true, .bool true, .bool true], .int .i64 a1]) Tryz.func3 rfl rfl doorSubs_c165 w
    · exact one [a1] [(0, 7, 5)] (fun e he => by
        simp only [List.mem_cons, List.not_mem_nil, or_false] at he
        subst he; exact ⟨b1, ⟨by decide, by decide⟩, e1_7⟩) (vs := [.agg #[.bool false, .bool true, .bool false, .bool true, .bool true, .bool true], .int .i64 a1]) Tryz.func3 rfl rfl doorSubs_c166 w
    · exact one [a1] [(0, 7, 6)] (fun e he => by
        simp only [List.mem_cons, List.not_mem_nil, or_false] at he
        subst he; exact ⟨b1, ⟨by decide, by decide⟩, e1_7⟩) (vs := [.agg #[.bool false, .bool true, .bool false, .bool true, .bool true, .bool true], .int .i64 a1]) Tryz.func3 rfl rfl doorSubs_c167 w
  · rcases (show r1_7 = 0 ∨ r1_7 = 1 ∨ r1_7 = 2 ∨ r1_7 = 3 ∨ r1_7 = 4 ∨ r1_7 = 5 ∨ r1_7 = 6 by omega) with rfl | rfl | rfl | rfl | rfl | rfl | rfl
    · exact one [a1] [(0, 7, 0)] (fun e he => by
        simp only [List.mem_cons, List.not_mem_nil, or_false] at he
        subst he; exact ⟨b1, ⟨by decide, by decide⟩, e1_7⟩) (vs := [.agg #[.bool false, .bool true, .bool true, .bool false, .bool false, .bool false], .int .i64 a1]) Tryz.func3 rfl rfl doorSubs_c168 w
    · exact one [a1] [(0, 7, 1)] (fun e he => by
        simp only [List.mem_cons, List.not_mem_nil, or_false] at he
        subst he; exact ⟨b1, ⟨by decide, by decide⟩, e1_7⟩) (vs := [.agg #[.bool false, .bool true, .bool true, .bool false, .bool false, .bool false], .int .i64 a1]) Tryz.func3 rfl rfl doorSubs_c169 w
    · exact one [a1] [(0, 7, 2)] (fun e he => by
        simp only [List.mem_cons, List.not_mem_nil, or_false] at he
        subst he; exact ⟨b1, ⟨by decide, by decide⟩, e1_7⟩) (vs := [.agg #[.bool false, .bool true, .bool true, .bool false, .bool false, .bool false], .int .i64 a1]) Tryz.func3 rfl rfl doorSubs_c170 w
    · exact one [a1] [(0, 7, 3)] (fun e he => by
        simp only [List.mem_cons, List.not_mem_nil, or_false] at he
        subst he; exact ⟨b1, ⟨by decide, by decide⟩, e1_7⟩) (vs := [.agg #[.bool false, .bool true, .bool true, .bool false, .bool false, .bool false], .int .i64 a1]) Tryz.func3 rfl rfl doorSubs_c171 w
    · exact one [a1] [(0, 7, 4)] (fun e he => by
        simp only [List.mem_cons, List.not_mem_nil, or_false] at he
        subst he; exact ⟨b1, ⟨by decide, by decide⟩, e1_7⟩) (vs := [.agg #[.bool false, .bool true, .bool true, .bool false, .bool false, .bool false], .int .i64 a1]) Tryz.func3 rfl rfl doorSubs_c172 w
    · exact one [a1] [(0, 7, 5)] (fun e he => by
        simp only [List.mem_cons, List.not_mem_nil, or_false] at he
        subst he; exact ⟨b1, ⟨by decide, by decide⟩, e1_7⟩) (vs := [.agg #[.bool false, .bool true, .bool true, .bool false, .bool false, .bool false], .int .i64 a1]) Tryz.func3 rfl rfl doorSubs_c173 w
    · exact one [a1] [(0, 7, 6)] (fun e he => by
        simp only [List.mem_cons, List.not_mem_nil, or_false] at he
        subst he; exact ⟨b1, ⟨by decide, by decide⟩, e1_7⟩) (vs := [.agg #[.bool false, .bool true, .bool true, .bool false, .bool false, .bool false], .int .i64 a1]) Tryz.func3 rfl rfl doorSubs_c174 w
  · rcases (show r1_7 = 0 ∨ r1_7 = 1 ∨ r1_7 = 2 ∨ r1_7 = 3 ∨ r1_7 = 4 ∨ r1_7 = 5 ∨ r1_7 = 6 by omega) with rfl | rfl | rfl | rfl | rfl | rfl | rfl
    · exact one [a1] [(0, 7, 0)] (fun e he => by
        simp only [List.mem_cons, List.not_mem_nil, or_false] at he
        subst he; exact ⟨b1, ⟨by decide, by decide⟩, e1_7⟩) (vs := [.agg #[.bool false, .bool true, .bool true, .bool false, .bool false, .bool true], .int .i64 a1]) Tryz.func3 rfl rfl doorSubs_c175 w
    · exact one [a1] [(0, 7, 1)] (fun e he => by
        simp only [List.mem_cons, List.not_mem_nil, or_false] at he
        subst he; exact ⟨b1, ⟨by decide, by decide⟩, e1_7⟩) (vs := [.agg #[.bool false, .bool true, .bool true, .bool false, .bool false, .bool true], .int .i64 a1]) Tryz.func3 rfl rfl doorSubs_c176 w
    · exact one [a1] [(0, 7, 2)] (fun e he => by
        simp only [List.mem_cons, List.not_mem_nil, or_false] at he
        subst he; exact ⟨b1, ⟨by decide, by decide⟩, e1_7⟩) (vs := [.agg #[.bool false, .bool true, .bool true, .bool false, .bool false, .bool true], .int .i64 a1]) Tryz.func3 rfl rfl doorSubs_c177 w
    · exact one [a1] [(0, 7, 3)] (fun e he => by
        simp only [List.mem_cons, List.not_mem_nil, or_false] at he
        subst he; exact ⟨b1, ⟨by decide, by decide⟩, e1_7⟩) (vs := [.agg #[.bool false, .bool true, .bool true, .bool false, .bool false, .bool true], .int .i64 a1]) Tryz.func3 rfl rfl doorSubs_c178 w
    · exact one [a1] [(0, 7, 4)] (fun e he => by
        simp only [List.mem_cons, List.not_mem_nil, or_false] at he
        subst he; exact ⟨b1, ⟨by decide, by decide⟩, e1_7⟩) (vs := [.agg #[.bool false, .bool true, .bool true, .bool false, .bool false, .bool true], .int .i64 a1]) Tryz.func3 rfl rfl doorSubs_c179 w
    · exact one [a1] [(0, 7, 5)] (fun e he => by
        simp only [List.mem_cons, List.not_mem_nil, or_false] at he
        subst he; exact ⟨b1, ⟨by decide, by decide⟩, e1_7⟩) (vs := [.agg #[.bool false, .bool true, .bool true, .bool false, .bool false, .bool true], .int .i64 a1]) Tryz.func3 rfl rfl doorSubs_c180 w
    · exact one [a1] [(0, 7, 6)] (fun e he => by
        simp only [List.mem_cons, List.not_mem_nil, or_false] at he
        subst he; exact ⟨b1, ⟨by decide, by decide⟩, e1_7⟩) (vs := [.agg #[.bool false, .bool true, .bool true, .bool false, .bool false, .bool true], .int .i64 a1]) Tryz.func3 rfl rfl doorSubs_c181 w
  · rcases (show r1_7 = 0 ∨ r1_7 = 1 ∨ r1_7 = 2 ∨ r1_7 = 3 ∨ r1_7 = 4 ∨ r1_7 = 5 ∨ r1_7 = 6 by omega) with rfl | rfl | rfl | rfl | rfl | rfl | rfl
    · exact one [a1] [(0, 7, 0)] (fun e he => by
        simp only [List.mem_cons, List.not_mem_nil, or_false] at he
        subst he; exact ⟨b1, ⟨by decide, by decide⟩, e1_7⟩) (vs := [.agg #[.bool false, .bool true, .bool true, .bool false, .bool true, .bool false], .int .i64 a1]) Tryz.func3 rfl rfl doorSubs_c182 w
    · exact one [a1] [(0, 7, 1)] (fun e he => by
        simp only [List.mem_cons, List.not_mem_nil, or_false] at he
        subst he; exact ⟨b1, ⟨by decide, by decide⟩, e1_7⟩) (vs := [.agg #[.bool false, .bool true, .bool true, .bool false, .bool true, .bool false], .int .i64 a1]) Tryz.func3 rfl rfl doorSubs_c183 w
    · exact one [a1] [(0, 7, 2)] (fun e he => by
        simp only [List.mem_cons, List.not_mem_nil, or_false] at he
        subst he; exact ⟨b1, ⟨by decide, by decide⟩, e1_7⟩) (vs := [.agg #[.bool false, .bool true, .bool true, .bool false, .bool true, .bool false], .int .i64 a1]) Tryz.func3 rfl rfl doorSubs_c184 w
    · exact one [a1] [(0, 7, 3)] (fun e he => by
        simp only [List.mem_cons, List.not_mem_nil, or_false] at he
        subst he; exact ⟨b1, ⟨by decide, by decide⟩, e1_7⟩) (vs := [.agg #[.bool false, .bool true, .bool true, .bool false, .bool true, .bool false], .int .i64 a1]) Tryz.func3 rfl rfl doorSubs_c185 w
    · exact one [a1] [(0, 7, 4)] (fun e he => by
        simp only [List.mem_cons, List.not_mem_nil, or_false] at he
        subst he; exact ⟨b1, ⟨by decide, by decide⟩, e1_7⟩) (vs := [.agg #[.bool false, .bool true, .bool true, .bool false, .bool true, .bool false], .int .i64 a1]) Tryz.func3 rfl rfl doorSubs_c186 w
    · exact one [a1] [(0, 7, 5)] (fun e he => by
        simp only [List.mem_cons, List.not_mem_nil, or_false] at he
        subst he; exact ⟨b1, ⟨by decide, by decide⟩, e1_7⟩) (vs := [.agg #[.bool false, .bool true, .bool true, .bool false, .bool true, .bool false], .int .i64 a1]) Tryz.func3 rfl rfl doorSubs_c187 w
    · exact one [a1] [(0, 7, 6)] (fun e he => by
        simp only [List.mem_cons, List.not_mem_nil, or_false] at he
        subst he; exact ⟨b1, ⟨by decide, by decide⟩, e1_7⟩) (vs := [.agg #[.bool false, .bool true, .bool true, .bool false, .bool true, .bool false], .int .i64 a1]) Tryz.func3 rfl rfl doorSubs_c188 w
  · rcases (show r1_7 = 0 ∨ r1_7 = 1 ∨ r1_7 = 2 ∨ r1_7 = 3 ∨ r1_7 = 4 ∨ r1_7 = 5 ∨ r1_7 = 6 by omega) with rfl | rfl | rfl | rfl | rfl | rfl | rfl
    · exact one [a1] [(0, 7, 0)] (fun e he => by
        simp only [List.mem_cons, List.not_mem_nil, or_false] at he
        subst he; exact ⟨b1, ⟨by decide, by decide⟩, e1_7⟩) (vs := [.agg #[.bool false, .bool true, .bool true, .bool false, .bool true, .bool true], .int .i64 a1]) Tryz.func3 rfl rfl doorSubs_c189 w
    · exact one [a1] [(0, 7, 1)] (fun e he => by
        simp only [List.mem_cons, List.not_mem_nil, or_false] at he
        subst he; exact ⟨b1, ⟨by decide, by decide⟩, e1_7⟩) (vs := [.agg #[.bool false, .bool true, .bool true, .bool false, .bool true, .bool true], .int .i64 a1]) Tryz.func3 rfl rfl doorSubs_c190 w
    · exact one [a1] [(0, 7, 2)] (fun e he => by
        simp only [List.mem_cons, List.not_mem_nil, or_false] at he
        subst he; exact ⟨b1, ⟨by decide, by decide⟩, e1_7⟩) (vs := [.agg #[.bool false, .bool true, .bool true, .bool false, .bool true, .bool true], .int .i64 a1]) Tryz.func3 rfl rfl doorSubs_c191 w
    · exact one [a1] [(0, 7, 3)] (fun e he => by
        simp only [List.mem_cons, List.not_mem_nil, or_false] at he
        subst he; exact ⟨b1, ⟨by decide, by decide⟩, e1_7⟩) (vs := [.agg #[.bool false, .bool true, .bool true, .bool false, .bool true, .bool true], .int .i64 a1]) Tryz.func3 rfl rfl doorSubs_c192 w
    · exact one [a1] [(0, 7, 4)] (fun e he => by
        simp only [List.mem_cons, List.not_mem_nil, or_false] at he
        subst he; exact ⟨b1, ⟨by decide, by decide⟩, e1_7⟩) (vs := [.agg #[.bool false, .bool true, .bool true, .bool false, .bool true, .bool true], .int .i64 a1]) Tryz.func3 rfl rfl doorSubs_c193 w
    · exact one [a1] [(0, 7, 5)] (fun e he => by
        simp only [List.mem_cons, List.not_mem_nil, or_false] at he
        subst he; exact ⟨b1, ⟨by decide, by decide⟩, e1_7⟩) (vs := [.agg #[.bool false, .bool true, .bool true, .bool false, .bool true, .bool true], .int .i64 a1]) Tryz.func3 rfl rfl doorSubs_c194 w
    · exact one [a1] [(0, 7, 6)] (fun e he => by
        simp only [List.mem_cons, List.not_mem_nil, or_false] at he
        subst he; exact ⟨b1, ⟨by decide, by decide⟩, e1_7⟩) (vs := [.agg #[.bool false, .bool true, .bool true, .bool false, .bool true, .bool true], .int .i64 a1]) Tryz.func3 rfl rfl doorSubs_c195 w
  · rcases (show r1_7 = 0 ∨ r1_7 = 1 ∨ r1_7 = 2 ∨ r1_7 = 3 ∨ r1_7 = 4 ∨ r1_7 = 5 ∨ r1_7 = 6 by omega) with rfl | rfl | rfl | rfl | rfl | rfl | rfl
    · exact one [a1] [(0, 7, 0)] (fun e he => by
        simp only [List.mem_cons, List.not_mem_nil, or_false] at he
        subst he; exact ⟨b1, ⟨by decide, by decide⟩, e1_7⟩) (vs := [.agg #[.bool false, .bool true, .bool true, .bool true, .bool false, .bool false], .int .i64 a1]) Tryz.func3 rfl rfl doorSubs_c196 w
    · exact one [a1] [(0, 7, 1)] (fun e he => by
        simp only [List.mem_cons, List.not_mem_nil, or_false] at he
        subst he; exact ⟨b1, ⟨by decide, by decide⟩, e1_7⟩) (vs := [.agg #[.bool false, .bool true, .bool true, .bool true, .bool false, .bool false], .int .i64 a1]) Tryz.func3 rfl rfl doorSubs_c197 w
    · exact one [a1] [(0, 7, 2)] (fun e he => by
        simp only [List.mem_cons, List.not_mem_nil, or_false] at he
        subst he; exact ⟨b1, ⟨by decide, by decide⟩, e1_7⟩) (vs := [.agg #[.bool false, .bool true, .bool true, .bool true, .bool false, .bool false], .int .i64 a1]) Tryz.func3 rfl rfl doorSubs_c198 w
    · exact one [a1] [(0, 7, 3)] (fun e he => by
        simp only [List.mem_cons, List.not_mem_nil, or_false] at he
        subst he; exact ⟨b1, ⟨by decide, by decide⟩, e1_7⟩) (vs := [.agg #[.bool false, .bool true, .bool true, .bool true, .bool false, .bool false], .int .i64 a1]) Tryz.func3 rfl rfl doorSubs_c199 w
    · exact one [a1] [(0, 7, 4)] (fun e he => by
        simp only [List.mem_cons, List.not_mem_nil, or_false] at he
        subst he; exact ⟨b1, ⟨by decide, by decide⟩, e1_7⟩) (vs := [.agg #[.bool false, .bool true, .bool true, .bool true, .bool false, .bool false], .int .i64 a1]) Tryz.func3 rfl rfl doorSubs_c200 w
    · exact one [a1] [(0, 7, 5)] (fun e he => by
        simp only [List.mem_cons, List.not_mem_nil, or_false] at he
        subst he; exact ⟨b1, ⟨by decide, by decide⟩, e1_7⟩) (vs := [.agg #[.bool false, .bool true, .bool true, .bool true, .bool false, .bool false], .int .i64 a1]) Tryz.func3 rfl rfl doorSubs_c201 w
    · exact one [a1] [(0, 7, 6)] (fun e he => by
        simp only [List.mem_cons, List.not_mem_nil, or_false] at he
        subst he; exact ⟨b1, ⟨by decide, by decide⟩, e1_7⟩) (vs := [.agg #[.bool false, .bool true, .bool true, .bool true, .bool false, .bool false], .int .i64 a1]) Tryz.func3 rfl rfl doorSubs_c202 w
  · rcases (show r1_7 = 0 ∨ r1_7 = 1 ∨ r1_7 = 2 ∨ r1_7 = 3 ∨ r1_7 = 4 ∨ r1_7 = 5 ∨ r1_7 = 6 by omega) with rfl | rfl | rfl | rfl | rfl | rfl | rfl
    · exact one [a1] [(0, 7, 0)] (fun e he => by
        simp only [List.mem_cons, List.not_mem_nil, or_false] at he
        subst he; exact ⟨b1, ⟨by decide, by decide⟩, e1_7⟩) (vs := [.agg #[.bool false, .bool true, .bool true, .bool true, .bool false, .bool true], .int .i64 a1]) Tryz.func3 rfl rfl doorSubs_c203 w
    · exact one [a1] [(0, 7, 1)] (fun e he => by
        simp only [List.mem_cons, List.not_mem_nil, or_false] at he
        subst he; exact ⟨b1, ⟨by decide, by decide⟩, e1_7⟩) (vs := [.agg #[.bool false, .bool true, .bool true, .bool true, .bool false, .bool true], .int .i64 a1]) Tryz.func3 rfl rfl doorSubs_c204 w
    · exact one [a1] [(0, 7, 2)] (fun e he => by
        simp only [List.mem_cons, List.not_mem_nil, or_false] at he
        subst he; exact ⟨b1, ⟨by decide, by decide⟩, e1_7⟩) (vs := [.agg #[.bool false, .bool true, .bool true, .bool true, .bool false, .bool true], .int .i64 a1]) Tryz.func3 rfl rfl doorSubs_c205 w
    · exact one [a1] [(0, 7, 3)] (fun e he => by
        simp only [List.mem_cons, List.not_mem_nil, or_false] at he
        subst he; exact ⟨b1, ⟨by decide, by decide⟩, e1_7⟩) (vs := [.agg #[.bool false, .bool true, .bool true, .bool true, .bool false, .bool true], .int .i64 a1]) Tryz.func3 rfl rfl doorSubs_c206 w
    · exact one [a1] [(0, 7, 4)] (fun e he => by
        simp only [List.mem_cons, List.not_mem_nil, or_false] at he
        subst he; exact ⟨b1, ⟨by decide, by decide⟩, e1_7⟩) (vs := [.agg #[.bool false, .bool true, .bool true, .bool true, .bool false, .bool true], .int .i64 a1]) Tryz.func3 rfl rfl doorSubs_c207 w
    · exact one [a1] [(0, 7, 5)] (fun e he => by
        simp only [List.mem_cons, List.not_mem_nil, or_false] at he
        subst he; exact ⟨b1, ⟨by decide, by decide⟩, e1_7⟩) (vs := [.agg #[.bool false, .bool true, .bool true, .bool true, .bool false, .bool true], .int .i64 a1]) Tryz.func3 rfl rfl doorSubs_c208 w
    · exact one [a1] [(0, 7, 6)] (fun e he => by
        simp only [List.mem_cons, List.not_mem_nil, or_false] at he
        subst he; exact ⟨b1, ⟨by decide, by decide⟩, e1_7⟩) (vs := [.agg #[.bool false, .bool true, .bool true, .bool true, .bool false, .bool true], .int .i64 a1]) Tryz.func3 rfl rfl doorSubs_c209 w
  · rcases (show r1_7 = 0 ∨ r1_7 = 1 ∨ r1_7 = 2 ∨ r1_7 = 3 ∨ r1_7 = 4 ∨ r1_7 = 5 ∨ r1_7 = 6 by omega) with rfl | rfl | rfl | rfl | rfl | rfl | rfl
    · exact one [a1] [(0, 7, 0)] (fun e he => by
        simp only [List.mem_cons, List.not_mem_nil, or_false] at he
        subst he; exact ⟨b1, ⟨by decide, by decide⟩, e1_7⟩) (vs := [.agg #[.bool false, .bool true, .bool true, .bool true, .bool true, .bool false], .int .i64 a1]) Tryz.func3 rfl rfl doorSubs_c210 w
    · exact one [a1] [(0, 7, 1)] (fun e he => by
        simp only [List.mem_cons, List.not_mem_nil, or_false] at he
        subst he; exact ⟨b1, ⟨by decide, by decide⟩, e1_7⟩) (vs := [.agg #[.bool false, .bool true, .bool true, .bool true, .bool true, .bool false], .int .i64 a1]) Tryz.func3 rfl rfl doorSubs_c211 w
    · exact one [a1] [(0, 7, 2)] (fun e he => by
        simp only [List.mem_cons, List.not_mem_nil, or_false] at he
        subst he; exact ⟨b1, ⟨by decide, by decide⟩, e1_7⟩) (vs := [.agg #[.bool false, .bool true, .bool true, .bool true, .bool true, .bool false], .int .i64 a1]) Tryz.func3 rfl rfl doorSubs_c212 w
    · exact one [a1] [(0, 7, 3)] (fun e he => by
        simp only [List.mem_cons, List.not_mem_nil, or_false] at he
        subst he; exact ⟨b1, ⟨by decide, by decide⟩, e1_7⟩) (vs := [.agg #[.bool false, .bool true, .bool true, .bool true, .bool true, .bool false], .int .i64 a1]) Tryz.func3 rfl rfl doorSubs_c213 w
    · exact one [a1] [(0, 7, 4)] (fun e he => by
        simp only [List.mem_cons, List.not_mem_nil, or_false] at he
        subst he; exact ⟨b1, ⟨by decide, by decide⟩, e1_7⟩) (vs := [.agg #[.bool false, .bool true, .bool true, .bool true, .bool true, .bool false], .int .i64 a1]) Tryz.func3 rfl rfl doorSubs_c214 w
    · exact one [a1] [(0, 7, 5)] (fun e he => by
        simp only [List.mem_cons, List.not_mem_nil, or_false] at he
        subst he; exact ⟨b1, ⟨by decide, by decide⟩, e1_7⟩) (vs := [.agg #[.bool false, .bool true, .bool true, .bool true, .bool true, .bool false], .int .i64 a1]) Tryz.func3 rfl rfl doorSubs_c215 w
    · exact one [a1] [(0, 7, 6)] (fun e he => by
        simp only [List.mem_cons, List.not_mem_nil, or_false] at he
        subst he; exact ⟨b1, ⟨by decide, by decide⟩, e1_7⟩) (vs := [.agg #[.bool false, .bool true, .bool true, .bool true, .bool true, .bool false], .int .i64 a1]) Tryz.func3 rfl rfl doorSubs_c216 w
  · rcases (show r1_7 = 0 ∨ r1_7 = 1 ∨ r1_7 = 2 ∨ r1_7 = 3 ∨ r1_7 = 4 ∨ r1_7 = 5 ∨ r1_7 = 6 by omega) with rfl | rfl | rfl | rfl | rfl | rfl | rfl
    · exact one [a1] [(0, 7, 0)] (fun e he => by
        simp only [List.mem_cons, List.not_mem_nil, or_false] at he
        subst he; exact ⟨b1, ⟨by decide, by decide⟩, e1_7⟩) (vs := [.agg #[.bool false, .bool true, .bool true, .bool true, .bool true, .bool true], .int .i64 a1]) Tryz.func3 rfl rfl doorSubs_c217 w
    · exact one [a1] [(0, 7, 1)] (fun e he => by
        simp only [List.mem_cons, List.not_mem_nil, or_false] at he
        subst he; exact ⟨b1, ⟨by decide, by decide⟩, e1_7⟩) (vs := [.agg #[.bool false, .bool true, .bool true, .bool true, .bool true, .bool true], .int .i64 a1]) Tryz.func3 rfl rfl doorSubs_c218 w
    · exact one [a1] [(0, 7, 2)] (fun e he => by
        simp only [List.mem_cons, List.not_mem_nil, or_false] at he
        subst he; exact ⟨b1, ⟨by decide, by decide⟩, e1_7⟩) (vs := [.agg #[.bool false, .bool true, .bool true, .bool true, .bool true, .bool true], .int .i64 a1]) Tryz.func3 rfl rfl doorSubs_c219 w
    · exact one [a1] [(0, 7, 3)] (fun e he => by
        simp only [List.mem_cons, List.not_mem_nil, or_false] at he
        subst he; exact ⟨b1, ⟨by decide, by decide⟩, e1_7⟩) (vs := [.agg #[.bool false, .bool true, .bool true, .bool true, .bool true, .bool true], .int .i64 a1]) Tryz.func3 rfl rfl doorSubs_c220 w
    · exact one [a1] [(0, 7, 4)] (fun e he => by
        simp only [List.mem_cons, List.not_mem_nil, or_false] at he
        subst he; exact ⟨b1, ⟨by decide, by decide⟩, e1_7⟩) (vs := [.agg #[.bool false, .bool true, .bool true, .bool true, .bool true, .bool true], .int .i64 a1]) Tryz.func3 rfl rfl doorSubs_c221 w
    · exact one [a1] [(0, 7, 5)] (fun e he => by
        simp only [List.mem_cons, List.not_mem_nil, or_false] at he
        subst he; exact ⟨b1, ⟨by decide, by decide⟩, e1_7⟩) (vs := [.agg #[.bool false, .bool true, .bool true, .bool true, .bool true, .bool true], .int .i64 a1]) Tryz.func3 rfl rfl doorSubs_c222 w
    · exact one [a1] [(0, 7, 6)] (fun e he => by
        simp only [List.mem_cons, List.not_mem_nil, or_false] at he
        subst he; exact ⟨b1, ⟨by decide, by decide⟩, e1_7⟩) (vs := [.agg #[.bool false, .bool true, .bool true, .bool true, .bool true, .bool true], .int .i64 a1]) Tryz.func3 rfl rfl doorSubs_c223 w
  · rcases (show r1_7 = 0 ∨ r1_7 = 1 ∨ r1_7 = 2 ∨ r1_7 = 3 ∨ r1_7 = 4 ∨ r1_7 = 5 ∨ r1_7 = 6 by omega) with rfl | rfl | rfl | rfl | rfl | rfl | rfl
    · exact one [a1] [(0, 7, 0)] (fun e he => by
        simp only [List.mem_cons, List.not_mem_nil, or_false] at he
        subst he; exact ⟨b1, ⟨by decide, by decide⟩, e1_7⟩) (vs := [.agg #[.bool true, .bool false, .bool false, .bool false, .bool false, .bool false], .int .i64 a1]) Tryz.func3 rfl rfl doorSubs_c224 w
    · exact one [a1] [(0, 7, 1)] (fun e he => by
        simp only [List.mem_cons, List.not_mem_nil, or_false] at he
        subst he; exact ⟨b1, ⟨by decide, by decide⟩, e1_7⟩) (vs := [.agg #[.bool true, .bool false, .bool false, .bool false, .bool false, .bool false], .int .i64 a1]) Tryz.func3 rfl rfl doorSubs_c225 w
    · exact one [a1] [(0, 7, 2)] (fun e he => by
        simp only [List.mem_cons, List.not_mem_nil, or_false] at he
        subst he; exact ⟨b1, ⟨by decide, by decide⟩, e1_7⟩) (vs := [.agg #[.bool true, .bool false, .bool false, .bool false, .bool false, .bool false], .int .i64 a1]) Tryz.func3 rfl rfl doorSubs_c226 w
    · exact one [a1] [(0, 7, 3)] (fun e he => by
        simp only [List.mem_cons, List.not_mem_nil, or_false] at he
        subst he; exact ⟨b1, ⟨by decide, by decide⟩, e1_7⟩) (vs := [.agg #[.bool true, .bool false, .bool false, .bool false, .bool false, .bool false], .int .i64 a1]) Tryz.func3 rfl rfl doorSubs_c227 w
    · exact one [a1] [(0, 7, 4)] (fun e he => by
        simp only [List.mem_cons, List.not_mem_nil, or_false] at he
        subst he; exact ⟨b1, ⟨by decide, by decide⟩, e1_7⟩) (vs := [.agg #[.bool true, .bool false, .bool false, .bool false, .bool false, .bool false], .int .i64 a1]) Tryz.func3 rfl rfl doorSubs_c228 w
    · exact one [a1] [(0, 7, 5)] (fun e he => by
        simp only [List.mem_cons, List.not_mem_nil, or_false] at he
        subst he; exact ⟨b1, ⟨by decide, by decide⟩, e1_7⟩) (vs := [.agg #[.bool true, .bool false, .bool false, .bool false, .bool false, .bool false], .int .i64 a1]) Tryz.func3 rfl rfl doorSubs_c229 w
    · exact one [a1] [(0, 7, 6)] (fun e he => by
        simp only [List.mem_cons, List.not_mem_nil, or_false] at he
        subst he; exact ⟨b1, ⟨by decide, by decide⟩, e1_7⟩) (vs := [.agg #[.bool true, .bool false, .bool false, .bool false, .bool false, .bool false], .int .i64 a1]) Tryz.func3 rfl rfl doorSubs_c230 w
  · rcases (show r1_7 = 0 ∨ r1_7 = 1 ∨ r1_7 = 2 ∨ r1_7 = 3 ∨ r1_7 = 4 ∨ r1_7 = 5 ∨ r1_7 = 6 by omega) with rfl | rfl | rfl | rfl | rfl | rfl | rfl
    · exact one [a1] [(0, 7, 0)] (fun e he => by
        simp only [List.mem_cons, List.not_mem_nil, or_false] at he
        subst he; exact ⟨b1, ⟨by decide, by decide⟩, e1_7⟩) (vs := [.agg #[.bool true, .bool false, .bool false, .bool false, .bool false, .bool true], .int .i64 a1]) Tryz.func3 rfl rfl doorSubs_c231 w
    · exact one [a1] [(0, 7, 1)] (fun e he => by
        simp only [List.mem_cons, List.not_mem_nil, or_false] at he
        subst he; exact ⟨b1, ⟨by decide, by decide⟩, e1_7⟩) (vs := [.agg #[.bool true, .bool false, .bool false, .bool false, .bool false, .bool true], .int .i64 a1]) Tryz.func3 rfl rfl doorSubs_c232 w
    · exact one [a1] [(0, 7, 2)] (fun e he => by
        simp only [List.mem_cons, List.not_mem_nil, or_false] at he
        subst he; exact ⟨b1, ⟨by decide, by decide⟩, e1_7⟩) (vs := [.agg #[.bool true, .bool false, .bool false, .bool false, .bool false, .bool true], .int .i64 a1]) Tryz.func3 rfl rfl doorSubs_c233 w
    · exact one [a1] [(0, 7, 3)] (fun e he => by
        simp only [List.mem_cons, List.not_mem_nil, or_false] at he
        subst he; exact ⟨b1, ⟨by decide, by decide⟩, e1_7⟩) (vs := [.agg #[.bool true, .bool false, .bool false, .bool false, .bool false, .bool true], .int .i64 a1]) Tryz.func3 rfl rfl doorSubs_c234 w
    · exact one [a1] [(0, 7, 4)] (fun e he => by
        simp only [List.mem_cons, List.not_mem_nil, or_false] at he
        subst he; exact ⟨b1, ⟨by decide, by decide⟩, e1_7⟩) (vs := [.agg #[.bool true, .bool false, .bool false, .bool false, .bool false, .bool true], .int .i64 a1]) Tryz.func3 rfl rfl doorSubs_c235 w
    · exact one [a1] [(0, 7, 5)] (fun e he => by
        simp only [List.mem_cons, List.not_mem_nil, or_false] at he
        subst he; exact ⟨b1, ⟨by decide, by decide⟩, e1_7⟩) (vs := [.agg #[.bool true, .bool false, .bool false, .bool false, .bool false, .bool true], .int .i64 a1]) Tryz.func3 rfl rfl doorSubs_c236 w
    · exact one [a1] [(0, 7, 6)] (fun e he => by
        simp only [List.mem_cons, List.not_mem_nil, or_false] at he
        subst he; exact ⟨b1, ⟨by decide, by decide⟩, e1_7⟩) (vs := [.agg #[.bool true, .bool false, .bool false, .bool false, .bool false, .bool true], .int .i64 a1]) Tryz.func3 rfl rfl doorSubs_c237 w
  · rcases (show r1_7 = 0 ∨ r1_7 = 1 ∨ r1_7 = 2 ∨ r1_7 = 3 ∨ r1_7 = 4 ∨ r1_7 = 5 ∨ r1_7 = 6 by omega) with rfl | rfl | rfl | rfl | rfl | rfl | rfl
    · exact one [a1] [(0, 7, 0)] (fun e he => by
        simp only [List.mem_cons, List.not_mem_nil, or_false] at he
        subst he; exact ⟨b1, ⟨by decide, by decide⟩, e1_7⟩) (vs := [.agg #[.bool true, .bool false, .bool false, .bool false, .bool true, .bool false], .int .i64 a1]) Tryz.func3 rfl rfl doorSubs_c238 w
    · exact one [a1] [(0, 7, 1)] (fun e he => by
        simp only [List.mem_cons, List.not_mem_nil, or_false] at he
        subst he; exact ⟨b1, ⟨by decide, by decide⟩, e1_7⟩) (vs := [.agg #[.bool true, .bool false, .bool false, .bool false, .bool true, .bool false], .int .i64 a1]) Tryz.func3 rfl rfl doorSubs_c239 w
    · exact one [a1] [(0, 7, 2)] (fun e he => by
        simp only [List.mem_cons, List.not_mem_nil, or_false] at he
        subst he; exact ⟨b1, ⟨by decide, by decide⟩, e1_7⟩) (vs := [.agg #[.bool true, .bool false, .bool false, .bool false, .bool true, .bool false], .int .i64 a1]) Tryz.func3 rfl rfl doorSubs_c240 w
    · exact one [a1] [(0, 7, 3)] (fun e he => by
        simp only [List.mem_cons, List.not_mem_nil, or_false] at he
        subst he; exact ⟨b1, ⟨by decide, by decide⟩, e1_7⟩) (vs := [.agg #[.bool true, .bool false, .bool false, .bool false, .bool true, .bool false], .int .i64 a1]) Tryz.func3 rfl rfl doorSubs_c241 w
    · exact one [a1] [(0, 7, 4)] (fun e he => by
        simp only [List.mem_cons, List.not_mem_nil, or_false] at he
        subst he; exact ⟨b1, ⟨by decide, by decide⟩, e1_7⟩) (vs := [.agg #[.bool true, .bool false, .bool false, .bool false, .bool true, .bool false], .int .i64 a1]) Tryz.func3 rfl rfl doorSubs_c242 w
    · exact one [a1] [(0, 7, 5)] (fun e he => by
        simp only [List.mem_cons, List.not_mem_nil, or_false] at he
        subst he; exact ⟨b1, ⟨by decide, by decide⟩, e1_7⟩) (vs := [.agg #[.bool true, .bool false, .bool false, .bool false, .bool true, .bool false], .int .i64 a1]) Tryz.func3 rfl rfl doorSubs_c243 w
    · exact one [a1] [(0, 7, 6)] (fun e he => by
        simp only [List.mem_cons, List.not_mem_nil, or_false] at he
        subst he; exact ⟨b1, ⟨by decide, by decide⟩, e1_7⟩) (vs := [.agg #[.bool true, .bool false, .bool false, .bool false, .bool true, .bool false], .int .i64 a1]) Tryz.func3 rfl rfl doorSubs_c244 w
  · rcases (show r1_7 = 0 ∨ r1_7 = 1 ∨ r1_7 = 2 ∨ r1_7 = 3 ∨ r1_7 = 4 ∨ r1_7 = 5 ∨ r1_7 = 6 by omega) with rfl | rfl | rfl | rfl | rfl | rfl | rfl
    · exact one [a1] [(0, 7, 0)] (fun e he => by
        simp only [List.mem_cons, List.not_mem_nil, or_false] at he
        subst he; exact ⟨b1, ⟨by decide, by decide⟩, e1_7⟩) (vs := [.agg #[.bool true, .bool false, .bool false, .bool false, .bool true, .bool true], .int .i64 a1]) Tryz.func3 rfl rfl doorSubs_c245 w
    · exact one [a1] [(0, 7, 1)] (fun e he => by
        simp only [List.mem_cons, List.not_mem_nil, or_false] at he
        subst he; exact ⟨b1, ⟨by decide, by decide⟩, e1_7⟩) (vs := [.agg #[.bool true, .bool false, .bool false, .bool false, .bool true, .bool true], .int .i64 a1]) Tryz.func3 rfl rfl doorSubs_c246 w
    · exact one [a1] [(0, 7, 2)] (fun e he => by
        simp only [List.mem_cons, List.not_mem_nil, or_false] at he
        subst he; exact ⟨b1, ⟨by decide, by decide⟩, e1_7⟩) (vs := [.agg #[.bool true, .bool false, .bool false, .bool false, .bool true, .bool true], .int .i64 a1]) Tryz.func3 rfl rfl doorSubs_c247 w
    · exact one [a1] [(0, 7, 3)] (fun e he => by
        simp only [List.mem_cons, List.not_mem_nil, or_false] at he
        subst he; exact ⟨b1, ⟨by decide, by decide⟩, e1_7⟩) (vs := [.agg #[.bool true, .bool false, .bool false, .bool false, .bool true, .bool true], .int .i64 a1]) Tryz.func3 rfl rfl doorSubs_c248 w
    · exact one [a1] [(0, 7, 4)] (fun e he => by
        simp only [List.mem_cons, List.not_mem_nil, or_false] at he
        subst he; exact ⟨b1, ⟨by decide, by decide⟩, e1_7⟩) (vs := [.agg #[.bool true, .bool false, .bool false, .bool false, .bool true, .bool true], .int .i64 a1]) Tryz.func3 rfl rfl doorSubs_c249 w
    · exact one [a1] [(0, 7, 5)] (fun e he => by
        simp only [List.mem_cons, List.not_mem_nil, or_false] at he
        subst he; exact ⟨b1, ⟨by decide, by decide⟩, e1_7⟩) (vs := [.agg #[.bool true, .bool false, .bool false, .bool false, .bool true, .bool true], .int .i64 a1]) Tryz.func3 rfl rfl doorSubs_c250 w
    · exact one [a1] [(0, 7, 6)] (fun e he => by
        simp only [List.mem_cons, List.not_mem_nil, or_false] at he
        subst he; exact ⟨b1, ⟨by decide, by decide⟩, e1_7⟩) (vs := [.agg #[.bool true, .bool false, .bool false, .bool false, .bool true, .bool true], .int .i64 a1]) Tryz.func3 rfl rfl doorSubs_c251 w
  · rcases (show r1_7 = 0 ∨ r1_7 = 1 ∨ r1_7 = 2 ∨ r1_7 = 3 ∨ r1_7 = 4 ∨ r1_7 = 5 ∨ r1_7 = 6 by omega) with rfl | rfl | rfl | rfl | rfl | rfl | rfl
    · exact one [a1] [(0, 7, 0)] (fun e he => by
        simp only [List.mem_cons, List.not_mem_nil, or_false] at he
        subst he; exact ⟨b1, ⟨by decide, by decide⟩, e1_7⟩) (vs := [.agg #[.bool true, .bool false, .bool false, .bool true, .bool false, .bool false], .int .i64 a1]) Tryz.func3 rfl rfl doorSubs_c252 w
    · exact one [a1] [(0, 7, 1)] (fun e he => by
        simp only [List.mem_cons, List.not_mem_nil, or_false] at he
        subst he; exact ⟨b1, ⟨by decide, by decide⟩, e1_7⟩) (vs := [.agg #[.bool true, .bool false, .bool false, .bool true, .bool false, .bool false], .int .i64 a1]) Tryz.func3 rfl rfl doorSubs_c253 w
    · exact one [a1] [(0, 7, 2)] (fun e he => by
        simp only [List.mem_cons, List.not_mem_nil, or_false] at he
        subst he; exact ⟨b1, ⟨by decide, by decide⟩, e1_7⟩) (vs := [.agg #[.bool true, .bool false, .bool false, .bool true, .bool false, .bool false], .int .i64 a1]) Tryz.func3 rfl rfl doorSubs_c254 w
    · exact one [a1] [(0, 7, 3)] (fun e he => by
        simp only [List.mem_cons, List.not_mem_nil, or_false] at he
        subst he; exact ⟨b1, ⟨by decide, by decide⟩, e1_7⟩) (vs := [.agg #[.bool true, .bool false, .bool false, .bool true, .bool false, .bool false], .int .i64 a1]) Tryz.func3 rfl rfl doorSubs_c255 w
    · exact one [a1] [(0, 7, 4)] (fun e he => by
        simp only [List.mem_cons, List.not_mem_nil, or_false] at he
        subst he; exact ⟨b1, ⟨by decide, by decide⟩, e1_7⟩) (vs := [.agg #[.bool true, .bool false, .bool false, .bool true, .bool false, .bool false], .int .i64 a1]) Tryz.func3 rfl rfl doorSubs_c256 w
    · exact one [a1] [(0, 7, 5)] (fun e he => by
        simp only [List.mem_cons, List.not_mem_nil, or_false] at he
        subst he; exact ⟨b1, ⟨by decide, by decide⟩, e1_7⟩) (vs := [.agg #[.bool true, .bool false, .bool false, .bool true, .bool false, .bool false], .int .i64 a1]) Tryz.func3 rfl rfl doorSubs_c257 w
    · exact one [a1] [(0, 7, 6)] (fun e he => by
        simp only [List.mem_cons, List.not_mem_nil, or_false] at he
        subst he; exact ⟨b1, ⟨by decide, by decide⟩, e1_7⟩) (vs := [.agg #[.bool true, .bool false, .bool false, .bool true, .bool false, .bool false], .int .i64 a1]) Tryz.func3 rfl rfl doorSubs_c258 w
  · rcases (show r1_7 = 0 ∨ r1_7 = 1 ∨ r1_7 = 2 ∨ r1_7 = 3 ∨ r1_7 = 4 ∨ r1_7 = 5 ∨ r1_7 = 6 by omega) with rfl | rfl | rfl | rfl | rfl | rfl | rfl
    · exact one [a1] [(0, 7, 0)] (fun e he => by
        simp only [List.mem_cons, List.not_mem_nil, or_false] at he
        subst he; exact ⟨b1, ⟨by decide, by decide⟩, e1_7⟩) (vs := [.agg #[.bool true, .bool false, .bool false, .bool true, .bool false, .bool true], .int .i64 a1]) Tryz.func3 rfl rfl doorSubs_c259 w
    · exact one [a1] [(0, 7, 1)] (fun e he => by
        simp only [List.mem_cons, List.not_mem_nil, or_false] at he
        subst he; exact ⟨b1, ⟨by decide, by decide⟩, e1_7⟩) (vs := [.agg #[.bool true, .bool false, .bool false, .bool true, .bool false, .bool true], .int .i64 a1]) Tryz.func3 rfl rfl doorSubs_c260 w
    · exact one [a1] [(0, 7, 2)] (fun e he => by
        simp only [List.mem_cons, List.not_mem_nil, or_false] at he
        subst he; exact ⟨b1, ⟨by decide, by decide⟩, e1_7⟩) (vs := [.agg #[.bool true, .bool false, .bool false, .bool true, .bool false, .bool true], .int .i64 a1]) Tryz.func3 rfl rfl doorSubs_c261 w
    · exact one [a1] [(0, 7, 3)] (fun e he => by
        simp only [List.mem_cons, List.not_mem_nil, or_false] at he
        subst he; exact ⟨b1, ⟨by decide, by decide⟩, e1_7⟩) (vs := [.agg #[.bool true, .bool false, .bool false, .bool true, .bool false, .bool true], .int .i64 a1]) Tryz.func3 rfl rfl doorSubs_c262 w
    · exact one [a1] [(0, 7, 4)] (fun e he => by
        simp only [List.mem_cons, List.not_mem_nil, or_false] at he
        subst he; exact ⟨b1, ⟨by decide, by decide⟩, e1_7⟩) (vs := [.agg #[.bool true, .bool false, .bool false, .bool true, .bool false, .bool true], .int .i64 a1]) Tryz.func3 rfl rfl doorSubs_c263 w
    · exact one [a1] [(0, 7, 5)] (fun e he => by
        simp only [List.mem_cons, List.not_mem_nil, or_false] at he
        subst he; exact ⟨b1, ⟨by decide, by decide⟩, e1_7⟩) (vs := [.agg #[.bool true, .bool false, .bool false, .bool true, .bool false, .bool true], .int .i64 a1]) Tryz.func3 rfl rfl doorSubs_c264 w
    · exact one [a1] [(0, 7, 6)] (fun e he => by
        simp only [List.mem_cons, List.not_mem_nil, or_false] at he
        subst he; exact ⟨b1, ⟨by decide, by decide⟩, e1_7⟩) (vs := [.agg #[.bool true, .bool false, .bool false, .bool true, .bool false, .bool true], .int .i64 a1]) Tryz.func3 rfl rfl doorSubs_c265 w
  · rcases (show r1_7 = 0 ∨ r1_7 = 1 ∨ r1_7 = 2 ∨ r1_7 = 3 ∨ r1_7 = 4 ∨ r1_7 = 5 ∨ r1_7 = 6 by omega) with rfl | rfl | rfl | rfl | rfl | rfl | rfl
    · exact one [a1] [(0, 7, 0)] (fun e he => by
        simp only [List.mem_cons, List.not_mem_nil, or_false] at he
        subst he; exact ⟨b1, ⟨by decide, by decide⟩, e1_7⟩) (vs := [.agg #[.bool true, .bool false, .bool false, .bool true, .bool true, .bool false], .int .i64 a1]) Tryz.func3 rfl rfl doorSubs_c266 w
    · exact one [a1] [(0, 7, 1)] (fun e he => by
        simp only [List.mem_cons, List.not_mem_nil, or_false] at he
        subst he; exact ⟨b1, ⟨by decide, by decide⟩, e1_7⟩) (vs := [.agg #[.bool true, .bool false, .bool false, .bool true, .bool true, .bool false], .int .i64 a1]) Tryz.func3 rfl rfl doorSubs_c267 w
    · exact one [a1] [(0, 7, 2)] (fun e he => by
        simp only [List.mem_cons, List.not_mem_nil, or_false] at he
        subst he; exact ⟨b1, ⟨by decide, by decide⟩, e1_7⟩) (vs := [.agg #[.bool true, .bool false, .bool false, .bool true, .bool true, .bool false], .int .i64 a1]) Tryz.func3 rfl rfl doorSubs_c268 w
    · exact one [a1] [(0, 7, 3)] (fun e he => by
        simp only [List.mem_cons, List.not_mem_nil, or_false] at he
        subst he; exact ⟨b1, ⟨by decide, by decide⟩, e1_7⟩) (vs := [.agg #[.bool true, .bool false, .bool false, .bool true, .bool true, .bool false], .int .i64 a1]) Tryz.func3 rfl rfl doorSubs_c269 w
    · exact one [a1] [(0, 7, 4)] (fun e he => by
        simp only [List.mem_cons, List.not_mem_nil, or_false] at he
        subst he; exact ⟨b1, ⟨by decide, by decide⟩, e1_7⟩) (vs := [.agg #[.bool true, .bool false, .bool false, .bool true, .bool true, .bool false], .int .i64 a1]) Tryz.func3 rfl rfl doorSubs_c270 w
    · exact one [a1] [(0, 7, 5)] (fun e he => by
        simp only [List.mem_cons, List.not_mem_nil, or_false] at he
        subst he; exact ⟨b1, ⟨by decide, by decide⟩, e1_7⟩) (vs := [.agg #[.bool true, .bool false, .bool false, .bool true, .bool true, .bool false], .int .i64 a1]) Tryz.func3 rfl rfl doorSubs_c271 w
    · exact one [a1] [(0, 7, 6)] (fun e he => by
        simp only [List.mem_cons, List.not_mem_nil, or_false] at he
        subst he; exact ⟨b1, ⟨by decide, by decide⟩, e1_7⟩) (vs := [.agg #[.bool true, .bool false, .bool false, .bool true, .bool true, .bool false], .int .i64 a1]) Tryz.func3 rfl rfl doorSubs_c272 w
  · rcases (show r1_7 = 0 ∨ r1_7 = 1 ∨ r1_7 = 2 ∨ r1_7 = 3 ∨ r1_7 = 4 ∨ r1_7 = 5 ∨ r1_7 = 6 by omega) with rfl | rfl | rfl | rfl | rfl | rfl | rfl
    · exact one [a1] [(0, 7, 0)] (fun e he => by
        simp only [List.mem_cons, List.not_mem_nil, or_false] at he
        subst he; exact ⟨b1, ⟨by decide, by decide⟩, e1_7⟩) (vs := [.agg #[.bool true, .bool false, .bool false, .bool true, .bool true, .bool true], .int .i64 a1]) Tryz.func3 rfl rfl doorSubs_c273 w
    · exact one [a1] [(0, 7, 1)] (fun e he => by
        simp only [List.mem_cons, List.not_mem_nil, or_false] at he
        subst he; exact ⟨b1, ⟨by decide, by decide⟩, e1_7⟩) (vs := [.agg #[.bool true, .bool false, .bool false, .bool true, .bool true, .bool true], .int .i64 a1]) Tryz.func3 rfl rfl doorSubs_c274 w
    · exact one [a1] [(0, 7, 2)] (fun e he => by
        simp only [List.mem_cons, List.not_mem_nil, or_false] at he
        subst he; exact ⟨b1, ⟨by decide, by decide⟩, e1_7⟩) (vs := [.agg #[.bool true, .bool false, .bool false, .bool true, .bool true, .bool true], .int .i64 a1]) Tryz.func3 rfl rfl doorSubs_c275 w
    · exact one [a1] [(0, 7, 3)] (fun e he => by
        simp only [List.mem_cons, List.not_mem_nil, or_false] at he
        subst he; exact ⟨b1, ⟨by decide, by decide⟩, e1_7⟩) (vs := [.agg #[.bool true, .bool false, .bool false, .bool true, .bool true, .bool true], .int .i64 a1]) Tryz.func3 rfl rfl doorSubs_c276 w
    · exact one [a1] [(0, 7, 4)] (fun e he => by
        simp only [List.mem_cons, List.not_mem_nil, or_false] at he
        subst he; exact ⟨b1, ⟨by decide, by decide⟩, e1_7⟩) (vs := [.agg #[.bool true, .bool false, .bool false, .bool true, .bool true, .bool true], .int .i64 a1]) Tryz.func3 rfl rfl doorSubs_c277 w
    · exact one [a1] [(0, 7, 5)] (fun e he => by
        simp only [List.mem_cons, List.not_mem_nil, or_false] at he
        subst he; exact ⟨b1, ⟨by decide, by decide⟩, e1_7⟩) (vs := [.agg #[.bool true, .bool false, .bool false, .bool true, .bool true, .bool true], .int .i64 a1]) Tryz.func3 rfl rfl doorSubs_c278 w
    · exact one [a1] [(0, 7, 6)] (fun e he => by
        simp only [List.mem_cons, List.not_mem_nil, or_false] at he
        subst he; exact ⟨b1, ⟨by decide, by decide⟩, e1_7⟩) (vs := [.agg #[.bool true, .bool false, .bool false, .bool true, .bool true, .bool true], .int .i64 a1]) Tryz.func3 rfl rfl doorSubs_c279 w
  · rcases (show r1_7 = 0 ∨ r1_7 = 1 ∨ r1_7 = 2 ∨ r1_7 = 3 ∨ r1_7 = 4 ∨ r1_7 = 5 ∨ r1_7 = 6 by omega) with rfl | rfl | rfl | rfl | rfl | rfl | rfl
    · exact one [a1] [(0, 7, 0)] (fun e he => by
        simp only [List.mem_cons, List.not_mem_nil, or_false] at he
        subst he; exact ⟨b1, ⟨by decide, by decide⟩, e1_7⟩) (vs := [.agg #[.bool true, .bool false, .bool true, .bool false, .bool false, .bool false], .int .i64 a1]) Tryz.func3 rfl rfl doorSubs_c280 w
    · exact one [a1] [(0, 7, 1)] (fun e he => by
        simp only [List.mem_cons, List.not_mem_nil, or_false] at he
        subst he; exact ⟨b1, ⟨by decide, by decide⟩, e1_7⟩) (vs := [.agg #[.bool true, .bool false, .bool true, .bool false, .bool false, .bool false], .int .i64 a1]) Tryz.func3 rfl rfl doorSubs_c281 w
    · exact one [a1] [(0, 7, 2)] (fun e he => by
        simp only [List.mem_cons, List.not_mem_nil, or_false] at he
        subst he; exact ⟨b1, ⟨by decide, by decide⟩, e1_7⟩) (vs := [.agg #[.bool true, .bool false, .bool true, .bool false, .bool false, .bool false], .int .i64 a1]) Tryz.func3 rfl rfl doorSubs_c282 w
    · exact one [a1] [(0, 7, 3)] (fun e he => by
        simp only [List.mem_cons, List.not_mem_nil, or_false] at he
        subst he; exact ⟨b1, ⟨by decide, by decide⟩, e1_7⟩) (vs := [.agg #[.bool true, .bool false, .bool true, .bool false, .bool false, .bool false], .int .i64 a1]) Tryz.func3 rfl rfl doorSubs_c283 w
    · exact one [a1] [(0, 7, 4)] (fun e he => by
        simp only [List.mem_cons, List.not_mem_nil, or_false] at he
        subst he; exact ⟨b1, ⟨by decide, by decide⟩, e1_7⟩) (vs := [.agg #[.bool true, .bool false, .bool true, .bool false, .bool false, .bool false], .int .i64 a1]) Tryz.func3 rfl rfl doorSubs_c284 w
    · exact one [a1] [(0, 7, 5)] (fun e he => by
        simp only [List.mem_cons, List.not_mem_nil, or_false] at he
        subst he; exact ⟨b1, ⟨by decide, by decide⟩, e1_7⟩) (vs := [.agg #[.bool true, .bool false, .bool true, .bool false, .bool false, .bool false], .int .i64 a1]) Tryz.func3 rfl rfl doorSubs_c285 w
    · exact one [a1] [(0, 7, 6)] (fun e he => by
        simp only [List.mem_cons, List.not_mem_nil, or_false] at he
        subst he; exact ⟨b1, ⟨by decide, by decide⟩, e1_7⟩) (vs := [.agg #[.bool true, .bool false, .bool true, .bool false, .bool false, .bool false], .int .i64 a1]) Tryz.func3 rfl rfl doorSubs_c286 w
  · rcases (show r1_7 = 0 ∨ r1_7 = 1 ∨ r1_7 = 2 ∨ r1_7 = 3 ∨ r1_7 = 4 ∨ r1_7 = 5 ∨ r1_7 = 6 by omega) with rfl | rfl | rfl | rfl | rfl | rfl | rfl
    · exact one [a1] [(0, 7, 0)] (fun e he => by
        simp only [List.mem_cons, List.not_mem_nil, or_false] at he
        subst he; exact ⟨b1, ⟨by decide, by decide⟩, e1_7⟩) (vs := [.agg #[.bool true, .bool false, .bool true, .bool false, .bool false, .bool true], .int .i64 a1]) Tryz.func3 rfl rfl doorSubs_c287 w
    · exact one [a1] [(0, 7, 1)] (fun e he => by
        simp only [List.mem_cons, List.not_mem_nil, or_false] at he
        subst he; exact ⟨b1, ⟨by decide, by decide⟩, e1_7⟩) (vs := [.agg #[.bool true, .bool false, .bool true, .bool false, .bool false, .bool true], .int .i64 a1]) Tryz.func3 rfl rfl doorSubs_c288 w
    · exact one [a1] [(0, 7, 2)] (fun e he => by
        simp only [List.mem_cons, List.not_mem_nil, or_false] at he
        subst he; exact ⟨b1, ⟨by decide, by decide⟩, e1_7⟩) (vs := [.agg #[.bool true, .bool false, .bool true, .bool false, .bool false, .bool true], .int .i64 a1]) Tryz.func3 rfl rfl doorSubs_c289 w
    · exact one [a1] [(0, 7, 3)] (fun e he => by
        simp only [List.mem_cons, List.not_mem_nil, or_false] at he
        subst he; exact ⟨b1, ⟨by decide, by decide⟩, e1_7⟩) (vs := [.agg #[.bool true, .bool false, .bool true, .bool false, .bool false, .bool true], .int .i64 a1]) Tryz.func3 rfl rfl doorSubs_c290 w
    · exact one [a1] [(0, 7, 4)] (fun e he => by
        simp only [List.mem_cons, List.not_mem_nil, or_false] at he
        subst he; exact ⟨b1, ⟨by decide, by decide⟩, e1_7⟩) (vs := [.agg #[.bool true, .bool false, .bool true, .bool false, .bool false, .bool true], .int .i64 a1]) Tryz.func3 rfl rfl doorSubs_c291 w
    · exact one [a1] [(0, 7, 5)] (fun e he => by
        simp only [List.mem_cons, List.not_mem_nil, or_false] at he
        subst he; exact ⟨b1, ⟨by decide, by decide⟩, e1_7⟩) (vs := [.agg #[.bool true, .bool false, .bool true, .bool false, .bool false, .bool true], .int .i64 a1]) Tryz.func3 rfl rfl doorSubs_c292 w
    · exact one [a1] [(0, 7, 6)] (fun e he => by
        simp only [List.mem_cons, List.not_mem_nil, or_false] at he
        subst he; exact ⟨b1, ⟨by decide, by decide⟩, e1_7⟩) (vs := [.agg #[.bool true, .bool false, .bool true, .bool false, .bool false, .bool true], .int .i64 a1]) Tryz.func3 rfl rfl doorSubs_c293 w
  · rcases (show r1_7 = 0 ∨ r1_7 = 1 ∨ r1_7 = 2 ∨ r1_7 = 3 ∨ r1_7 = 4 ∨ r1_7 = 5 ∨ r1_7 = 6 by omega) with rfl | rfl | rfl | rfl | rfl | rfl | rfl
    · exact one [a1] [(0, 7, 0)] (fun e he => by
        simp only [List.mem_cons, List.not_mem_nil, or_false] at he
        subst he; exact ⟨b1, ⟨by decide, by decide⟩, e1_7⟩) (vs := [.agg #[.bool true, .bool false, .bool true, .bool false, .bool true, .bool false], .int .i64 a1]) Tryz.func3 rfl rfl doorSubs_c294 w
    · exact one [a1] [(0, 7, 1)] (fun e he => by
        simp only [List.mem_cons, List.not_mem_nil, or_false] at he
        subst he; exact ⟨b1, ⟨by decide, by decide⟩, e1_7⟩) (vs := [.agg #[.bool true, .bool false, .bool true, .bool false, .bool true, .bool false], .int .i64 a1]) Tryz.func3 rfl rfl doorSubs_c295 w
    · exact one [a1] [(0, 7, 2)] (fun e he => by
        simp only [List.mem_cons, List.not_mem_nil, or_false] at he
        subst he; exact ⟨b1, ⟨by decide, by decide⟩, e1_7⟩) (vs := [.agg #[.bool true, .bool false, .bool true, .bool false, .bool true, .bool false], .int .i64 a1]) Tryz.func3 rfl rfl doorSubs_c296 w
    · exact one [a1] [(0, 7, 3)] (fun e he => by
        simp only [List.mem_cons, List.not_mem_nil, or_false] at he
        subst he; exact ⟨b1, ⟨by decide, by decide⟩, e1_7⟩) (vs := [.agg #[.bool true, .bool false, .bool true, .bool false, .bool true, .bool false], .int .i64 a1]) Tryz.func3 rfl rfl doorSubs_c297 w
    · exact one [a1] [(0, 7, 4)] (fun e he => by
        simp only [List.mem_cons, List.not_mem_nil, or_false] at he
        subst he; exact ⟨b1, ⟨by decide, by decide⟩, e1_7⟩) (vs := [.agg #[.bool true, .bool false, .bool true, .bool false, .bool true, .bool false], .int .i64 a1]) Tryz.func3 rfl rfl doorSubs_c298 w
    · exact one [a1] [(0, 7, 5)] (fun e he => by
        simp only [List.mem_cons, List.not_mem_nil, or_false] at he
        subst he; exact ⟨b1, ⟨by decide, by decide⟩, e1_7⟩) (vs := [.agg #[.bool true, .bool false, .bool true, .bool false, .bool true, .bool false], .int .i64 a1]) Tryz.func3 rfl rfl doorSubs_c299 w
    · exact one [a1] [(0, 7, 6)] (fun e he => by
        simp only [List.mem_cons, List.not_mem_nil, or_false] at he
        subst he; exact ⟨b1, ⟨by decide, by decide⟩, e1_7⟩) (vs := [.agg #[.bool true, .bool false, .bool true, .bool false, .bool true, .bool false], .int .i64 a1]) Tryz.func3 rfl rfl doorSubs_c300 w
  · rcases (show r1_7 = 0 ∨ r1_7 = 1 ∨ r1_7 = 2 ∨ r1_7 = 3 ∨ r1_7 = 4 ∨ r1_7 = 5 ∨ r1_7 = 6 by omega) with rfl | rfl | rfl | rfl | rfl | rfl | rfl
    · exact one [a1] [(0, 7, 0)] (fun e he => by
        simp only [List.mem_cons, List.not_mem_nil, or_false] at he
        subst he; exact ⟨b1, ⟨by decide, by decide⟩, e1_7⟩) (vs := [.agg #[.bool true, .bool false, .bool true, .bool false, .bool true, .bool true], .int .i64 a1]) Tryz.func3 rfl rfl doorSubs_c301 w
    · exact one [a1] [(0, 7, 1)] (fun e he => by
        simp only [List.mem_cons, List.not_mem_nil, or_false] at he
        subst he; exact ⟨b1, ⟨by decide, by decide⟩, e1_7⟩) (vs := [.agg #[.bool true, .bool false, .bool true, .bool false, .bool true, .bool true], .int .i64 a1]) Tryz.func3 rfl rfl doorSubs_c302 w
    · exact one [a1] [(0, 7, 2)] (fun e he => by
        simp only [List.mem_cons, List.not_mem_nil, or_false] at he
        subst he; exact ⟨b1, ⟨by decide, by decide⟩, e1_7⟩) (vs := [.agg #[.bool true, .bool false, .bool true, .bool false, .bool true, .bool true], .int .i64 a1]) Tryz.func3 rfl rfl doorSubs_c303 w
    · exact one [a1] [(0, 7, 3)] (fun e he => by
        simp only [List.mem_cons, List.not_mem_nil, or_false] at he
        subst he; exact ⟨b1, ⟨by decide, by decide⟩, e1_7⟩) (vs := [.agg #[.bool true, .bool false, .bool true, .bool false, .bool true, .bool true], .int .i64 a1]) Tryz.func3 rfl rfl doorSubs_c304 w
    · exact one [a1] [(0, 7, 4)] (fun e he => by
        simp only [List.mem_cons, List.not_mem_nil, or_false] at he
        subst he; exact ⟨b1, ⟨by decide, by decide⟩, e1_7⟩) (vs := [.agg #[.bool true, .bool false, .bool true, .bool false, .bool true, .bool true], .int .i64 a1]) Tryz.func3 rfl rfl doorSubs_c305 w
    · exact one [a1] [(0, 7, 5)] (fun e he => by
        simp only [List.mem_cons, List.not_mem_nil, or_false] at he
        subst he; exact ⟨b1, ⟨by decide, by decide⟩, e1_7⟩) (vs := [.agg #[.bool true, .bool false, .bool true, .bool false, .bool true, .bool true], .int .i64 a1]) Tryz.func3 rfl rfl doorSubs_c306 w
    · exact one [a1] [(0, 7, 6)] (fun e he => by
        simp only [List.mem_cons, List.not_mem_nil, or_false] at he
        subst he; exact ⟨b1, ⟨by decide, by decide⟩, e1_7⟩) (vs := [.agg #[.bool true, .bool false, .bool true, .bool false, .bool true, .bool true], .int .i64 a1]) Tryz.func3 rfl rfl doorSubs_c307 w
  · rcases (show r1_7 = 0 ∨ r1_7 = 1 ∨ r1_7 = 2 ∨ r1_7 = 3 ∨ r1_7 = 4 ∨ r1_7 = 5 ∨ r1_7 = 6 by omega) with rfl | rfl | rfl | rfl | rfl | rfl | rfl
    · exact one [a1] [(0, 7, 0)] (fun e he => by
        simp only [List.mem_cons, List.not_mem_nil, or_false] at he
        subst he; exact ⟨b1, ⟨by decide, by decide⟩, e1_7⟩) (vs := [.agg #[.bool true, .bool false, .bool true, .bool true, .bool false, .bool false], .int .i64 a1]) Tryz.func3 rfl rfl doorSubs_c308 w
    · exact one [a1] [(0, 7, 1)] (fun e he => by
        simp only [List.mem_cons, List.not_mem_nil, or_false] at he
        subst he; exact ⟨b1, ⟨by decide, by decide⟩, e1_7⟩) (vs := [.agg #[.bool true, .bool false, .bool true, .bool true, .bool false, .bool false], .int .i64 a1]) Tryz.func3 rfl rfl doorSubs_c309 w
    · exact one [a1] [(0, 7, 2)] (fun e he => by
        simp only [List.mem_cons, List.not_mem_nil, or_false] at he
        subst he; exact ⟨b1, ⟨by decide, by decide⟩, e1_7⟩) (vs := [.agg #[.bool true, .bool false, .bool true, .bool true, .bool false, .bool false], .int .i64 a1]) Tryz.func3 rfl rfl doorSubs_c310 w
    · exact one [a1] [(0, 7, 3)] (fun e he => by
        simp only [List.mem_cons, List.not_mem_nil, or_false] at he
        subst he; exact ⟨b1, ⟨by decide, by decide⟩, e1_7⟩) (vs := [.agg #[.bool true, .bool false, .bool true, .bool true, .bool false, .bool false], .int .i64 a1]) Tryz.func3 rfl rfl doorSubs_c311 w
    · exact one [a1] [(0, 7, 4)] (fun e he => by
        simp only [List.mem_cons, List.not_mem_nil, or_false] at he
        subst he; exact ⟨b1, ⟨by decide, by decide⟩, e1_7⟩) (vs := [.agg #[.bool true, .bool false, .bool true, .bool true, .bool false, .bool false], .int .i64 a1]) Tryz.func3 rfl rfl doorSubs_c312 w
    · exact one [a1] [(0, 7, 5)] (fun e he => by
        simp only [List.mem_cons, List.not_mem_nil, or_false] at he
        subst he; exact ⟨b1, ⟨by decide, by decide⟩, e1_7⟩) (vs := [.agg #[.bool true, .bool false, .bool true, .bool true, .bool false, .bool false], .int .i64 a1]) Tryz.func3 rfl rfl doorSubs_c313 w
    · exact one [a1] [(0, 7, 6)] (fun e he => by
        simp only [List.mem_cons, List.not_mem_nil, or_false] at he
        subst he; exact ⟨b1, ⟨by decide, by decide⟩, e1_7⟩) (vs := [.agg #[.bool true, .bool false, .bool true, .bool true, .bool false, .bool false], .int .i64 a1]) Tryz.func3 rfl rfl doorSubs_c314 w
  · rcases (show r1_7 = 0 ∨ r1_7 = 1 ∨ r1_7 = 2 ∨ r1_7 = 3 ∨ r1_7 = 4 ∨ r1_7 = 5 ∨ r1_7 = 6 by omega) with rfl | rfl | rfl | rfl | rfl | rfl | rfl
    · exact one [a1] [(0, 7, 0)] (fun e he => by
        simp only [List.mem_cons, List.not_mem_nil, or_false] at he
        subst he; exact ⟨b1, ⟨by decide, by decide⟩, e1_7⟩) (vs := [.agg #[.bool true, .bool false, .bool true, .bool true, .bool false, .bool true], .int .i64 a1]) Tryz.func3 rfl rfl doorSubs_c315 w
    · exact one [a1] [(0, 7, 1)] (fun e he => by
        simp only [List.mem_cons, List.not_mem_nil, or_false] at he
        subst he; exact ⟨b1, ⟨by decide, by decide⟩, e1_7⟩) (vs := [.agg #[.bool true, .bool false, .bool true, .bool true, .bool false, .bool true], .int .i64 a1]) Tryz.func3 rfl rfl doorSubs_c316 w
    · exact one [a1] [(0, 7, 2)] (fun e he => by
        simp only [List.mem_cons, List.not_mem_nil, or_false] at he
        subst he; exact ⟨b1, ⟨by decide, by decide⟩, e1_7⟩) (vs := [.agg #[.bool true, .bool false, .bool true, .bool true, .bool false, .bool true], .int .i64 a1]) Tryz.func3 rfl rfl doorSubs_c317 w
    · exact one [a1] [(0, 7, 3)] (fun e he => by
        simp only [List.mem_cons, List.not_mem_nil, or_false] at he
        subst he; exact ⟨b1, ⟨by decide, by decide⟩, e1_7⟩) (vs := [.agg #[.bool true, .bool false, .bool true, .bool true, .bool false, .bool true], .int .i64 a1]) Tryz.func3 rfl rfl doorSubs_c318 w
    · exact one [a1] [(0, 7, 4)] (fun e he => by
        simp only [List.mem_cons, List.not_mem_nil, or_false] at he
        subst he; exact ⟨b1, ⟨by decide, by decide⟩, e1_7⟩) (vs := [.agg #[.bool true, .bool false, .bool true, .bool true, .bool false, .bool true], .int .i64 a1]) Tryz.func3 rfl rfl doorSubs_c319 w
    · exact one [a1] [(0, 7, 5)] (fun e he => by
        simp only [List.mem_cons, List.not_mem_nil, or_false] at he
        subst he; exact ⟨b1, ⟨by decide, by decide⟩, e1_7⟩) (vs := [.agg #[.bool true, .bool false, .bool true, .bool true, .bool false, .bool true], .int .i64 a1]) Tryz.func3 rfl rfl doorSubs_c320 w
    · exact one [a1] [(0, 7, 6)] (fun e he => by
        simp only [List.mem_cons, List.not_mem_nil, or_false] at he
        subst he; exact ⟨b1, ⟨by decide, by decide⟩, e1_7⟩) (vs := [.agg #[.bool true, .bool false, .bool true, .bool true, .bool false, .bool true], .int .i64 a1]) Tryz.func3 rfl rfl doorSubs_c321 w
  · rcases (show r1_7 = 0 ∨ r1_7 = 1 ∨ r1_7 = 2 ∨ r1_7 = 3 ∨ r1_7 = 4 ∨ r1_7 = 5 ∨ r1_7 = 6 by omega) with rfl | rfl | rfl | rfl | rfl | rfl | rfl
    · exact one [a1] [(0, 7, 0)] (fun e he => by
        simp only [List.mem_cons, List.not_mem_nil, or_false] at he
        subst he; exact ⟨b1, ⟨by decide, by decide⟩, e1_7⟩) (vs := [.agg #[.bool true, .bool false, .bool true, .bool true, .bool true, .bool false], .int .i64 a1]) Tryz.func3 rfl rfl doorSubs_c322 w
    · exact one [a1] [(0, 7, 1)] (fun e he => by
        simp only [List.mem_cons, List.not_mem_nil, or_false] at he
        subst he; exact ⟨b1, ⟨by decide, by decide⟩, e1_7⟩) (vs := [.agg #[.bool true, .bool false, .bool true, .bool true, .bool true, .bool false], .int .i64 a1]) Tryz.func3 rfl rfl doorSubs_c323 w
    · exact one [a1] [(0, 7, 2)] (fun e he => by
        simp only [List.mem_cons, List.not_mem_nil, or_false] at he
        subst he; exact ⟨b1, ⟨by decide, by decide⟩, e1_7⟩) (vs := [.agg #[.bool true, .bool false, .bool true, .bool true, .bool true, .bool false], .int .i64 a1]) Tryz.func3 rfl rfl doorSubs_c324 w
    · exact one [a1] [(0, 7, 3)] (fun e he => by
        simp only [List.mem_cons, List.not_mem_nil, or_false] at he
        subst he; exact ⟨b1, ⟨by decide, by decide⟩, e1_7⟩) (vs := [.agg #[.bool true, .bool false, .bool true, .bool true, .bool true, .bool false], .int .i64 a1]) Tryz.func3 rfl rfl doorSubs_c325 w
    · exact one [a1] [(0, 7, 4)] (fun e he => by
        simp only [List.mem_cons, List.not_mem_nil, or_false] at he
        subst he; exact ⟨b1, ⟨by decide, by decide⟩, e1_7⟩) (vs := [.agg #[.bool true, .bool false, .bool true, .bool true, .bool true, .bool false], .int .i64 a1]) Tryz.func3 rfl rfl doorSubs_c326 w
    · exact one [a1] [(0, 7, 5)] (fun e he => by
        simp only [List.mem_cons, List.not_mem_nil, or_false] at he
        subst he; exact ⟨b1, ⟨by decide, by decide⟩, e1_7⟩) (vs := [.agg #[.bool true, .bool false, .bool true, .bool true, .bool true, .bool false], .int .i64 a1]) Tryz.func3 rfl rfl doorSubs_c327 w
    · exact one [a1] [(0, 7, 6)] (fun e he => by
        simp only [List.mem_cons, List.not_mem_nil, or_false] at he
        subst he; exact ⟨b1, ⟨by decide, by decide⟩, e1_7⟩) (vs := [.agg #[.bool true, .bool false, .bool true, .bool true, .bool true, .bool false], .int .i64 a1]) Tryz.func3 rfl rfl doorSubs_c328 w
  · rcases (show r1_7 = 0 ∨ r1_7 = 1 ∨ r1_7 = 2 ∨ r1_7 = 3 ∨ r1_7 = 4 ∨ r1_7 = 5 ∨ r1_7 = 6 by omega) with rfl | rfl | rfl | rfl | rfl | rfl | rfl
    · exact one [a1] [(0, 7, 0)] (fun e he => by
        simp only [List.mem_cons, List.not_mem_nil, or_false] at he
        subst he; exact ⟨b1, ⟨by decide, by decide⟩, e1_7⟩) (vs := [.agg #[.bool true, .bool false, .bool true, .bool true, .bool true, .bool true], .int .i64 a1]) Tryz.func3 rfl rfl doorSubs_c329 w
    · exact one [a1] [(0, 7, 1)] (fun e he => by
        simp only [List.mem_cons, List.not_mem_nil, or_false] at he
        subst he; exact ⟨b1, ⟨by decide, by decide⟩, e1_7⟩) (vs := [.agg #[.bool true, .bool false, .bool true, .bool true, .bool true, .bool true], .int .i64 a1]) Tryz.func3 rfl rfl doorSubs_c330 w
    · exact one [a1] [(0, 7, 2)] (fun e he => by
        simp only [List.mem_cons, List.not_mem_nil, or_false] at he
        subst he; exact ⟨b1, ⟨by decide, by decide⟩, e1_7⟩) (vs := [.agg #[.bool true, .bool false, .bool true, .bool true, .bool true, .bool true], .int .i64 a1]) Tryz.func3 rfl rfl doorSubs_c331 w
    · exact one [a1] [(0, 7, 3)] (fun e he => by
        simp only [List.mem_cons, List.not_mem_nil, or_false] at he
        subst he; exact ⟨b1, ⟨by decide, by decide⟩, e1_7⟩) (vs := [.agg #[.bool true, .bool false, .bool true, .bool true, .bool true, .bool true], .int .i64 a1]) Tryz.func3 rfl rfl doorSubs_c332 w
    · exact one [a1] [(0, 7, 4)] (fun e he => by
        simp only [List.mem_cons, List.not_mem_nil, or_false] at he
        subst he; exact ⟨b1, ⟨by decide, by decide⟩, e1_7⟩) (vs := [.agg #[.bool true, .bool false, .bool true, .bool true, .bool true, .bool true], .int .i64 a1]) Tryz.func3 rfl rfl doorSubs_c333 w
    · exact one [a1] [(0, 7, 5)] (fun e he => by
        simp only [List.mem_cons, List.not_mem_nil, or_false] at he
        subst he; exact ⟨b1, ⟨by decide, by decide⟩, e1_7⟩) (vs := [.agg #[.bool true, .bool false, .bool true, .bool true, .bool true, .bool true], .int .i64 a1]) Tryz.func3 rfl rfl doorSubs_c334 w
    · exact one [a1] [(0, 7, 6)] (fun e he => by
        simp only [List.mem_cons, List.not_mem_nil, or_false] at he
        subst he; exact ⟨b1, ⟨by decide, by decide⟩, e1_7⟩) (vs := [.agg #[.bool true, .bool false, .bool true, .bool true, .bool true, .bool true], .int .i64 a1]) Tryz.func3 rfl rfl doorSubs_c335 w
  · rcases (show r1_7 = 0 ∨ r1_7 = 1 ∨ r1_7 = 2 ∨ r1_7 = 3 ∨ r1_7 = 4 ∨ r1_7 = 5 ∨ r1_7 = 6 by omega) with rfl | rfl | rfl | rfl | rfl | rfl | rfl
    · exact one [a1] [(0, 7, 0)] (fun e he => by
        simp only [List.mem_cons, List.not_mem_nil, or_false] at he
        subst he; exact ⟨b1, ⟨by decide, by decide⟩, e1_7⟩) (vs := [.agg #[.bool true, .bool true, .bool false, .bool false, .bool false, .bool false], .int .i64 a1]) Tryz.func3 rfl rfl doorSubs_c336 w
    · exact one [a1] [(0, 7, 1)] (fun e he => by
        simp only [List.mem_cons, List.not_mem_nil, or_false] at he
        subst he; exact ⟨b1, ⟨by decide, by decide⟩, e1_7⟩) (vs := [.agg #[.bool true, .bool true, .bool false, .bool false, .bool false, .bool false], .int .i64 a1]) Tryz.func3 rfl rfl doorSubs_c337 w
    · exact one [a1] [(0, 7, 2)] (fun e he => by
        simp only [List.mem_cons, List.not_mem_nil, or_false] at he
        subst he; exact ⟨b1, ⟨by decide, by decide⟩, e1_7⟩) (vs := [.agg #[.bool true, .bool true, .bool false, .bool false, .bool false, .bool false], .int .i64 a1]) Tryz.func3 rfl rfl doorSubs_c338 w
    · exact one [a1] [(0, 7, 3)] (fun e he => by
        simp only [List.mem_cons, List.not_mem_nil, or_false] at he
        subst he; exact ⟨b1, ⟨by decide, by decide⟩, e1_7⟩) (vs := [.agg #[.bool true, .bool true, .bool false, .bool false, .bool false, .bool false], .int .i64 a1]) Tryz.func3 rfl rfl doorSubs_c339 w
    · exact one [a1] [(0, 7, 4)] (fun e he => by
        simp only [List.mem_cons, List.not_mem_nil, or_false] at he
        subst he; exact ⟨b1, ⟨by decide, by decide⟩, e1_7⟩) (vs := [.agg #[.bool true, .bool true, .bool false, .bool false, .bool false, .bool false], .int .i64 a1]) Tryz.func3 rfl rfl doorSubs_c340 w
    · exact one [a1] [(0, 7, 5)] (fun e he => by
        simp only [List.mem_cons, List.not_mem_nil, or_false] at he
        subst he; exact ⟨b1, ⟨by decide, by decide⟩, e1_7⟩) (vs := [.agg #[.bool true, .bool true, .bool false, .bool false, .bool false, .bool false], .int .i64 a1]) Tryz.func3 rfl rfl doorSubs_c341 w
    · exact one [a1] [(0, 7, 6)] (fun e he => by
        simp only [List.mem_cons, List.not_mem_nil, or_false] at he
        subst he; exact ⟨b1, ⟨by decide, by decide⟩, e1_7⟩) (vs := [.agg #[.bool true, .bool true, .bool false, .bool false, .bool false, .bool false], .int .i64 a1]) Tryz.func3 rfl rfl doorSubs_c342 w
  · rcases (show r1_7 = 0 ∨ r1_7 = 1 ∨ r1_7 = 2 ∨ r1_7 = 3 ∨ r1_7 = 4 ∨ r1_7 = 5 ∨ r1_7 = 6 by omega) with rfl | rfl | rfl | rfl | rfl | rfl | rfl
    · exact one [a1] [(0, 7, 0)] (fun e he => by
        simp only [List.mem_cons, List.not_mem_nil, or_false] at he
        subst he; exact ⟨b1, ⟨by decide, by decide⟩, e1_7⟩) (vs := [.agg #[.bool true, .bool true, .bool false, .bool false, .bool false, .bool true], .int .i64 a1]) Tryz.func3 rfl rfl doorSubs_c343 w
    · exact one [a1] [(0, 7, 1)] (fun e he => by
        simp only [List.mem_cons, List.not_mem_nil, or_false] at he
        subst he; exact ⟨b1, ⟨by decide, by decide⟩, e1_7⟩) (vs := [.agg #[.bool true, .bool true, .bool false, .bool false, .bool false, .bool true], .int .i64 a1]) Tryz.func3 rfl rfl doorSubs_c344 w
    · exact one [a1] [(0, 7, 2)] (fun e he => by
        simp only [List.mem_cons, List.not_mem_nil, or_false] at he
        subst he; exact ⟨b1, ⟨by decide, by decide⟩, e1_7⟩) (vs := [.agg #[.bool true, .bool true, .bool false, .bool false, .bool false, .bool true], .int .i64 a1]) Tryz.func3 rfl rfl doorSubs_c345 w
    · exact one [a1] [(0, 7, 3)] (fun e he => by
        simp only [List.mem_cons, List.not_mem_nil, or_false] at he
        subst he; exact ⟨b1, ⟨by decide, by decide⟩, e1_7⟩) (vs := [.agg #[.bool true, .bool true, .bool false, .bool false, .bool false, .bool true], .int .i64 a1]) Tryz.func3 rfl rfl doorSubs_c346 w
    · exact one [a1] [(0, 7, 4)] (fun e he => by
        simp only [List.mem_cons, List.not_mem_nil, or_false] at he
        subst he; exact ⟨b1, ⟨by decide, by decide⟩, e1_7⟩) (vs := [.agg #[.bool true, .bool true, .bool false, .bool false, .bool false, .bool true], .int .i64 a1]) Tryz.func3 rfl rfl doorSubs_c347 w
    · exact one [a1] [(0, 7, 5)] (fun e he => by
        simp only [List.mem_cons, List.not_mem_nil, or_false] at he
        subst he; exact ⟨b1, ⟨by decide, by decide⟩, e1_7⟩) (vs := [.agg #[.bool true, .bool true, .bool false, .bool false, .bool false, .bool true], .int .i64 a1]) Tryz.func3 rfl rfl doorSubs_c348 w
    · exact one [a1] [(0, 7, 6)] (fun e he => by
        simp only [List.mem_cons, List.not_mem_nil, or_false] at he
        subst he; exact ⟨b1, ⟨by decide, by decide⟩, e1_7⟩) (vs := [.agg #[.bool true, .bool true, .bool false, .bool false, .bool false, .bool true], .int .i64 a1]) Tryz.func3 rfl rfl doorSubs_c349 w
  · rcases (show r1_7 = 0 ∨ r1_7 = 1 ∨ r1_7 = 2 ∨ r1_7 = 3 ∨ r1_7 = 4 ∨ r1_7 = 5 ∨ r1_7 = 6 by omega) with rfl | rfl | rfl | rfl | rfl | rfl | rfl
    · exact one [a1] [(0, 7, 0)] (fun e he => by
        simp only [List.mem_cons, List.not_mem_nil, or_false] at he
        subst he; exact ⟨b1, ⟨by decide, by decide⟩, e1_7⟩) (vs := [.agg #[.bool true, .bool true, .bool false, .bool false, .bool true, .bool false], .int .i64 a1]) Tryz.func3 rfl rfl doorSubs_c350 w
    · exact one [a1] [(0, 7, 1)] (fun e he => by
        simp only [List.mem_cons, List.not_mem_nil, or_false] at he
        subst he; exact ⟨b1, ⟨by decide, by decide⟩, e1_7⟩) (vs := [.agg #[.bool true, .bool true, .bool false, .bool false, .bool true, .bool false], .int .i64 a1]) Tryz.func3 rfl rfl doorSubs_c351 w
    · exact one [a1] [(0, 7, 2)] (fun e he => by
        simp only [List.mem_cons, List.not_mem_nil, or_false] at he
        subst he; exact ⟨b1, ⟨by decide, by decide⟩, e1_7⟩) (vs := [.agg #[.bool true, .bool true, .bool false, .bool false, .bool true, .bool false], .int .i64 a1]) Tryz.func3 rfl rfl doorSubs_c352 w
    · exact one [a1] [(0, 7, 3)] (fun e he => by
        simp only [List.mem_cons, List.not_mem_nil, or_false] at he
        subst he; exact ⟨b1, ⟨by decide, by decide⟩, e1_7⟩) (vs := [.agg #[.bool true, .bool true, .bool false, .bool false, .bool true, .bool false], .int .i64 a1]) Tryz.func3 rfl rfl doorSubs_c353 w
    · exact one [a1] [(0, 7, 4)] (fun e he => by
        simp only [List.mem_cons, List.not_mem_nil, or_false] at he
        subst he; exact ⟨b1, ⟨by decide, by decide⟩, e1_7⟩) (vs := [.agg #[.bool true, .bool true, .bool false, .bool false, .bool true, .bool false], .int .i64 a1]) Tryz.func3 rfl rfl doorSubs_c354 w
    · exact one [a1] [(0, 7, 5)] (fun e he => by
        simp only [List.mem_cons, List.not_mem_nil, or_false] at he
        subst he; exact ⟨b1, ⟨by decide, by decide⟩, e1_7⟩) (vs := [.agg #[.bool true, .bool true, .bool false, .bool false, .bool true, .bool false], .int .i64 a1]) Tryz.func3 rfl rfl doorSubs_c355 w
    · exact one [a1] [(0, 7, 6)] (fun e he => by
        simp only [List.mem_cons, List.not_mem_nil, or_false] at he
        subst he; exact ⟨b1, ⟨by decide, by decide⟩, e1_7⟩) (vs := [.agg #[.bool true, .bool true, .bool false, .bool false, .bool true, .bool false], .int .i64 a1]) Tryz.func3 rfl rfl doorSubs_c356 w
  · rcases (show r1_7 = 0 ∨ r1_7 = 1 ∨ r1_7 = 2 ∨ r1_7 = 3 ∨ r1_7 = 4 ∨ r1_7 = 5 ∨ r1_7 = 6 by omega) with rfl | rfl | rfl | rfl | rfl | rfl | rfl
    · exact one [a1] [(0, 7, 0)] (fun e he => by
        simp only [List.mem_cons, List.not_mem_nil, or_false] at he
        subst he; exact ⟨b1, ⟨by decide, by decide⟩, e1_7⟩) (vs := [.agg #[.bool true, .bool true, .bool false, .bool false, .bool true, .bool true], .int .i64 a1]) Tryz.func3 rfl rfl doorSubs_c357 w
    · exact one [a1] [(0, 7, 1)] (fun e he => by
        simp only [List.mem_cons, List.not_mem_nil, or_false] at he
        subst he; exact ⟨b1, ⟨by decide, by decide⟩, e1_7⟩) (vs := [.agg #[.bool true, .bool true, .bool false, .bool false, .bool true, .bool true], .int .i64 a1]) Tryz.func3 rfl rfl doorSubs_c358 w
    · exact one [a1] [(0, 7, 2)] (fun e he => by
        simp only [List.mem_cons, List.not_mem_nil, or_false] at he
        subst he; exact ⟨b1, ⟨by decide, by decide⟩, e1_7⟩) (vs := [.agg #[.bool true, .bool true, .bool false, .bool false, .bool true, .bool true], .int .i64 a1]) Tryz.func3 rfl rfl doorSubs_c359 w
    · exact one [a1] [(0, 7, 3)] (fun e he => by
        simp only [List.mem_cons, List.not_mem_nil, or_false] at he
        subst he; exact ⟨b1, ⟨by decide, by decide⟩, e1_7⟩) (vs := [.agg #[.bool true, .bool true, .bool false, .bool false, .bool true, .bool true], .int .i64 a1]) Tryz.func3 rfl rfl doorSubs_c360 w
    · exact one [a1] [(0, 7, 4)] (fun e he => by
        simp only [List.mem_cons, List.not_mem_nil, or_false] at he
        subst he; exact ⟨b1, ⟨by decide, by decide⟩, e1_7⟩) (vs := [.agg #[.bool true, .bool true, .bool false, .bool false, .bool true, .bool true], .int .i64 a1]) Tryz.func3 rfl rfl doorSubs_c361 w
    · exact one [a1] [(0, 7, 5)] (fun e he => by
        simp only [List.mem_cons, List.not_mem_nil, or_false] at he
        subst he; exact ⟨b1, ⟨by decide, by decide⟩, e1_7⟩) (vs := [.agg #[.bool true, .bool true, .bool false, .bool false, .bool true, .bool true], .int .i64 a1]) Tryz.func3 rfl rfl doorSubs_c362 w
    · exact one [a1] [(0, 7, 6)] (fun e he => by
        simp only [List.mem_cons, List.not_mem_nil, or_false] at he
        subst he; exact ⟨b1, ⟨by decide, by decide⟩, e1_7⟩) (vs := [.agg #[.bool true, .bool true, .bool false, .bool false, .bool true, .bool true], .int .i64 a1]) Tryz.func3 rfl rfl doorSubs_c363 w
  · rcases (show r1_7 = 0 ∨ r1_7 = 1 ∨ r1_7 = 2 ∨ r1_7 = 3 ∨ r1_7 = 4 ∨ r1_7 = 5 ∨ r1_7 = 6 by omega) with rfl | rfl | rfl | rfl | rfl | rfl | rfl
    · exact one [a1] [(0, 7, 0)] (fun e he => by
        simp only [List.mem_cons, List.not_mem_nil, or_false] at he
        subst he; exact ⟨b1, ⟨by decide, by decide⟩, e1_7⟩) (vs := [.agg #[.bool true, .bool true, .bool false, .bool true, .bool false, .bool false], .int .i64 a1]) Tryz.func3 rfl rfl doorSubs_c364 w
    · exact one [a1] [(0, 7, 1)] (fun e he => by
        simp only [List.mem_cons, List.not_mem_nil, or_false] at he
        subst he; exact ⟨b1, ⟨by decide, by decide⟩, e1_7⟩) (vs := [.agg #[.bool true, .bool true, .bool false, .bool true, .bool false, .bool false], .int .i64 a1]) Tryz.func3 rfl rfl doorSubs_c365 w
    · exact one [a1] [(0, 7, 2)] (fun e he => by
        simp only [List.mem_cons, List.not_mem_nil, or_false] at he
        subst he; exact ⟨b1, ⟨by decide, by decide⟩, e1_7⟩) (vs := [.agg #[.bool true, .bool true, .bool false, .bool true, .bool false, .bool false], .int .i64 a1]) Tryz.func3 rfl rfl doorSubs_c366 w
    · exact one [a1] [(0, 7, 3)] (fun e he => by
        simp only [List.mem_cons, List.not_mem_nil, or_false] at he
        subst he; exact ⟨b1, ⟨by decide, by decide⟩, e1_7⟩) (vs := [.agg #[.bool true, .bool true, .bool false, .bool true, .bool false, .bool false], .int .i64 a1]) Tryz.func3 rfl rfl doorSubs_c367 w
    · exact one [a1] [(0, 7, 4)] (fun e he => by
        simp only [List.mem_cons, List.not_mem_nil, or_false] at he
        subst he; exact ⟨b1, ⟨by decide, by decide⟩, e1_7⟩) (vs := [.agg #[.bool true, .bool true, .bool false, .bool true, .bool false, .bool false], .int .i64 a1]) Tryz.func3 rfl rfl doorSubs_c368 w
    · exact one [a1] [(0, 7, 5)] (fun e he => by
        simp only [List.mem_cons, List.not_mem_nil, or_false] at he
        subst he; exact ⟨b1, ⟨by decide, by decide⟩, e1_7⟩) (vs := [.agg #[.bool true, .bool true, .bool false, .bool true, .bool false, .bool false], .int .i64 a1]) Tryz.func3 rfl rfl doorSubs_c369 w
    · exact one [a1] [(0, 7, 6)] (fun e he => by
        simp only [List.mem_cons, List.not_mem_nil, or_false] at he
        subst he; exact ⟨b1, ⟨by decide, by decide⟩, e1_7⟩) (vs := [.agg #[.bool true, .bool true, .bool false, .bool true, .bool false, .bool false], .int .i64 a1]) Tryz.func3 rfl rfl doorSubs_c370 w
  · rcases (show r1_7 = 0 ∨ r1_7 = 1 ∨ r1_7 = 2 ∨ r1_7 = 3 ∨ r1_7 = 4 ∨ r1_7 = 5 ∨ r1_7 = 6 by omega) with rfl | rfl | rfl | rfl | rfl | rfl | rfl
    · exact one [a1] [(0, 7, 0)] (fun e he => by
        simp only [List.mem_cons, List.not_mem_nil, or_false] at he
        subst he; exact ⟨b1, ⟨by decide, by decide⟩, e1_7⟩) (vs := [.agg #[.bool true, .bool true, .bool false, .bool true, .bool false, .bool true], .int .i64 a1]) Tryz.func3 rfl rfl doorSubs_c371 w
    · exact one [a1] [(0, 7, 1)] (fun e he => by
        simp only [List.mem_cons, List.not_mem_nil, or_false] at he
        subst he; exact ⟨b1, ⟨by decide, by decide⟩, e1_7⟩) (vs := [.agg #[.bool true, .bool true, .bool false, .bool true, .bool false, .bool true], .int .i64 a1]) Tryz.func3 rfl rfl doorSubs_c372 w
    · exact one [a1] [(0, 7, 2)] (fun e he => by
        simp only [List.mem_cons, List.not_mem_nil, or_false] at he
        subst he; exact ⟨b1, ⟨by decide, by decide⟩, e1_7⟩) (vs := [.agg #[.bool true, .bool true, .bool false, .bool true, .bool false, .bool true], .int .i64 a1]) Tryz.func3 rfl rfl doorSubs_c373 w
    · exact one [a1] [(0, 7, 3)] (fun e he => by
        simp only [List.mem_cons, List.not_mem_nil, or_false] at he
        subst he; exact ⟨b1, ⟨by decide, by decide⟩, e1_7⟩) (vs := [.agg #[.bool true, .bool true, .bool false, .bool true, .bool false, .bool true], .int .i64 a1]) Tryz.func3 rfl rfl doorSubs_c374 w
    · exact one [a1] [(0, 7, 4)] (fun e he => by
        simp only [List.mem_cons, List.not_mem_nil, or_false] at he
        subst he; exact ⟨b1, ⟨by decide, by decide⟩, e1_7⟩) (vs := [.agg #[.bool true, .bool true, .bool false, .bool true, .bool false, .bool true], .int .i64 a1]) Tryz.func3 rfl rfl doorSubs_c375 w
    · exact one [a1] [(0, 7, 5)] (fun e he => by
        simp only [List.mem_cons, List.not_mem_nil, or_false] at he
        subst he; exact ⟨b1, ⟨by decide, by decide⟩, e1_7⟩) (vs := [.agg #[.bool true, .bool true, .bool false, .bool true, .bool false, .bool true], .int .i64 a1]) Tryz.func3 rfl rfl doorSubs_c376 w
    · exact one [a1] [(0, 7, 6)] (fun e he => by
        simp only [List.mem_cons, List.not_mem_nil, or_false] at he
        subst he; exact ⟨b1, ⟨by decide, by decide⟩, e1_7⟩) (vs := [.agg #[.bool true, .bool true, .bool false, .bool true, .bool false, .bool true], .int .i64 a1]) Tryz.func3 rfl rfl doorSubs_c377 w
  · rcases (show r1_7 = 0 ∨ r1_7 = 1 ∨ r1_7 = 2 ∨ r1_7 = 3 ∨ r1_7 = 4 ∨ r1_7 = 5 ∨ r1_7 = 6 by omega) with rfl | rfl | rfl | rfl | rfl | rfl | rfl
    · exact one [a1] [(0, 7, 0)] (fun e he => by
        simp only [List.mem_cons, List.not_mem_nil, or_false] at he
        subst he; exact ⟨b1, ⟨by decide, by decide⟩, e1_7⟩) (vs := [.agg #[.bool true, .bool true, .bool false, .bool true, .bool true, .bool false], .int .i64 a1]) Tryz.func3 rfl rfl doorSubs_c378 w
    · exact one [a1] [(0, 7, 1)] (fun e he => by
        simp only [List.mem_cons, List.not_mem_nil, or_false] at he
        subst he; exact ⟨b1, ⟨by decide, by decide⟩, e1_7⟩) (vs := [.agg #[.bool true, .bool true, .bool false, .bool true, .bool true, .bool false], .int .i64 a1]) Tryz.func3 rfl rfl doorSubs_c379 w
    · exact one [a1] [(0, 7, 2)] (fun e he => by
        simp only [List.mem_cons, List.not_mem_nil, or_false] at he
        subst he; exact ⟨b1, ⟨by decide, by decide⟩, e1_7⟩) (vs := [.agg #[.bool true, .bool true, .bool false, .bool true, .bool true, .bool false], .int .i64 a1]) Tryz.func3 rfl rfl doorSubs_c380 w
    · exact one [a1] [(0, 7, 3)] (fun e he => by
        simp only [List.mem_cons, List.not_mem_nil, or_false] at he
        subst he; exact ⟨b1, ⟨by decide, by decide⟩, e1_7⟩) (vs := [.agg #[.bool true, .bool true, .bool false, .bool true, .bool true, .bool false], .int .i64 a1]) Tryz.func3 rfl rfl doorSubs_c381 w
    · exact one [a1] [(0, 7, 4)] (fun e he => by
        simp only [List.mem_cons, List.not_mem_nil, or_false] at he
        subst he; exact ⟨b1, ⟨by decide, by decide⟩, e1_7⟩) (vs := [.agg #[.bool true, .bool true, .bool false, .bool true, .bool true, .bool false], .int .i64 a1]) Tryz.func3 rfl rfl doorSubs_c382 w
    · exact one [a1] [(0, 7, 5)] (fun e he => by
        simp only [List.mem_cons, List.not_mem_nil, or_false] at he
        subst he; exact ⟨b1, ⟨by decide, by decide⟩, e1_7⟩) (vs := [.agg #[.bool true, .bool true, .bool false, .bool true, .bool true, .bool false], .int .i64 a1]) Tryz.func3 rfl rfl doorSubs_c383 w
    · exact one [a1] [(0, 7, 6)] (fun e he => by
        simp only [List.mem_cons, List.not_mem_nil, or_false] at he
        subst he; exact ⟨b1, ⟨by decide, by decide⟩, e1_7⟩) (vs := [.agg #[.bool true, .bool true, .bool false, .bool true, .bool true, .bool false], .int .i64 a1]) Tryz.func3 rfl rfl doorSubs_c384 w
  · rcases (show r1_7 = 0 ∨ r1_7 = 1 ∨ r1_7 = 2 ∨ r1_7 = 3 ∨ r1_7 = 4 ∨ r1_7 = 5 ∨ r1_7 = 6 by omega) with rfl | rfl | rfl | rfl | rfl | rfl | rfl
    · exact one [a1] [(0, 7, 0)] (fun e he => by
        simp only [List.mem_cons, List.not_mem_nil, or_false] at he
        subst he; exact ⟨b1, ⟨by decide, by decide⟩, e1_7⟩) (vs := [.agg #[.bool true, .bool true, .bool false, .bool true, .bool true, .bool true], .int .i64 a1]) Tryz.func3 rfl rfl doorSubs_c385 w
    · exact one [a1] [(0, 7, 1)] (fun e he => by
        simp only [List.mem_cons, List.not_mem_nil, or_false] at he
        subst he; exact ⟨b1, ⟨by decide, by decide⟩, e1_7⟩) (vs := [.agg #[.bool true, .bool true, .bool false, .bool true, .bool true, .bool true], .int .i64 a1]) Tryz.func3 rfl rfl doorSubs_c386 w
    · exact one [a1] [(0, 7, 2)] (fun e he => by
        simp only [List.mem_cons, List.not_mem_nil, or_false] at he
        subst he; exact ⟨b1, ⟨by decide, by decide⟩, e1_7⟩) (vs := [.agg #[.bool true, .bool true, .bool false, .bool true, .bool true, .bool true], .int .i64 a1]) Tryz.func3 rfl rfl doorSubs_c387 w
    · exact one [a1] [(0, 7, 3)] (fun e he => by
        simp only [List.mem_cons, List.not_mem_nil, or_false] at he
        subst he; exact ⟨b1, ⟨by decide, by decide⟩, e1_7⟩) (vs := [.agg #[.bool true, .bool true, .bool false, .bool true, .bool true, .bool true], .int .i64 a1]) Tryz.func3 rfl rfl doorSubs_c388 w
    · exact one [a1] [(0, 7, 4)] (fun e he => by
        simp only [List.mem_cons, List.not_mem_nil, or_false] at he
        subst he; exact ⟨b1, ⟨by decide, by decide⟩, e1_7⟩) (vs := [.agg #[.bool true, .bool true, .bool false, .bool true, .bool true, .bool true], .int .i64 a1]) Tryz.func3 rfl rfl doorSubs_c389 w
    · exact one [a1] [(0, 7, 5)] (fun e he => by
        simp only [List.mem_cons, List.not_mem_nil, or_false] at he
        subst he; exact ⟨b1, ⟨by decide, by decide⟩, e1_7⟩) (vs := [.agg #[.bool true, .bool true, .bool false, .bool true, .bool true, .bool true], .int .i64 a1]) Tryz.func3 rfl rfl doorSubs_c390 w
    · exact one [a1] [(0, 7, 6)] (fun e he => by
        simp only [List.mem_cons, List.not_mem_nil, or_false] at he
        subst he; exact ⟨b1, ⟨by decide, by decide⟩, e1_7⟩) (vs := [.agg #[.bool true, .bool true, .bool false, .bool true, .bool true, .bool true], .int .i64 a1]) Tryz.func3 rfl rfl doorSubs_c391 w
  · rcases (show r1_7 = 0 ∨ r1_7 = 1 ∨ r1_7 = 2 ∨ r1_7 = 3 ∨ r1_7 = 4 ∨ r1_7 = 5 ∨ r1_7 = 6 by omega) with rfl | rfl | rfl | rfl | rfl | rfl | rfl
    · exact one [a1] [(0, 7, 0)] (fun e he => by
        simp only [List.mem_cons, List.not_mem_nil, or_false] at he
        subst he; exact ⟨b1, ⟨by decide, by decide⟩, e1_7⟩) (vs := [.agg #[.bool true, .bool true, .bool true, .bool false, .bool false, .bool false], .int .i64 a1]) Tryz.func3 rfl rfl doorSubs_c392 w
    · exact one [a1] [(0, 7, 1)] (fun e he => by
        simp only [List.mem_cons, List.not_mem_nil, or_false] at he
        subst he; exact ⟨b1, ⟨by decide, by decide⟩, e1_7⟩) (vs := [.agg #[.bool true, .bool true, .bool true, .bool false, .bool false, .bool false], .int .i64 a1]) Tryz.func3 rfl rfl doorSubs_c393 w
    · exact one [a1] [(0, 7, 2)] (fun e he => by
        simp only [List.mem_cons, List.not_mem_nil, or_false] at he
        subst he; exact ⟨b1, ⟨by decide, by decide⟩, e1_7⟩) (vs := [.agg #[.bool true, .bool true, .bool true, .bool false, .bool false, .bool false], .int .i64 a1]) Tryz.func3 rfl rfl doorSubs_c394 w
    · exact one [a1] [(0, 7, 3)] (fun e he => by
        simp only [List.mem_cons, List.not_mem_nil, or_false] at he
        subst he; exact ⟨b1, ⟨by decide, by decide⟩, e1_7⟩) (vs := [.agg #[.bool true, .bool true, .bool true, .bool false, .bool false, .bool false], .int .i64 a1]) Tryz.func3 rfl rfl doorSubs_c395 w
    · exact one [a1] [(0, 7, 4)] (fun e he => by
        simp only [List.mem_cons, List.not_mem_nil, or_false] at he
        subst he; exact ⟨b1, ⟨by decide, by decide⟩, e1_7⟩) (vs := [.agg #[.bool true, .bool true, .bool true, .bool false, .bool false, .bool false], .int .i64 a1]) Tryz.func3 rfl rfl doorSubs_c396 w
    · exact one [a1] [(0, 7, 5)] (fun e he => by
        simp only [List.mem_cons, List.not_mem_nil, or_false] at he
        subst he; exact ⟨b1, ⟨by decide, by decide⟩, e1_7⟩) (vs := [.agg #[.bool true, .bool true, .bool true, .bool false, .bool false, .bool false], .int .i64 a1]) Tryz.func3 rfl rfl doorSubs_c397 w
    · exact one [a1] [(0, 7, 6)] (fun e he => by
        simp only [List.mem_cons, List.not_mem_nil, or_false] at he
        subst he; exact ⟨b1, ⟨by decide, by decide⟩, e1_7⟩) (vs := [.agg #[.bool true, .bool true, .bool true, .bool false, .bool false, .bool false], .int .i64 a1]) Tryz.func3 rfl rfl doorSubs_c398 w
  · rcases (show r1_7 = 0 ∨ r1_7 = 1 ∨ r1_7 = 2 ∨ r1_7 = 3 ∨ r1_7 = 4 ∨ r1_7 = 5 ∨ r1_7 = 6 by omega) with rfl | rfl | rfl | rfl | rfl | rfl | rfl
    · exact one [a1] [(0, 7, 0)] (fun e he => by
        simp only [List.mem_cons, List.not_mem_nil, or_false] at he
        subst he; exact ⟨b1, ⟨by decide, by decide⟩, e1_7⟩) (vs := [.agg #[.bool true, .bool true, .bool true, .bool false, .bool false, .bool true], .int .i64 a1]) Tryz.func3 rfl rfl doorSubs_c399 w
    · exact one [a1] [(0, 7, 1)] (fun e he => by
        simp only [List.mem_cons, List.not_mem_nil, or_false] at he
        subst he; exact ⟨b1, ⟨by decide, by decide⟩, e1_7⟩) (vs := [.agg #[.bool true, .bool true, .bool true, .bool false, .bool false, .bool true], .int .i64 a1]) Tryz.func3 rfl rfl doorSubs_c400 w
    · exact one [a1] [(0, 7, 2)] (fun e he => by
        simp only [List.mem_cons, List.not_mem_nil, or_false] at he
        subst he; exact ⟨b1, ⟨by decide, by decide⟩, e1_7⟩) (vs := [.agg #[.bool true, .bool true, .bool true, .bool false, .bool false, .bool true], .int .i64 a1]) Tryz.func3 rfl rfl doorSubs_c401 w
    · exact one [a1] [(0, 7, 3)] (fun e he => by
        simp only [List.mem_cons, List.not_mem_nil, or_false] at he
        subst he; exact ⟨b1, ⟨by decide, by decide⟩, e1_7⟩) (vs := [.agg #[.bool true, .bool true, .bool true, .bool false, .bool false, .bool true], .int .i64 a1]) Tryz.func3 rfl rfl doorSubs_c402 w
    · exact one [a1] [(0, 7, 4)] (fun e he => by
        simp only [List.mem_cons, List.not_mem_nil, or_false] at he
        subst he; exact ⟨b1, ⟨by decide, by decide⟩, e1_7⟩) (vs := [.agg #[.bool true, .bool true, .bool true, .bool false, .bool false, .bool true], .int .i64 a1]) Tryz.func3 rfl rfl doorSubs_c403 w
    · exact one [a1] [(0, 7, 5)] (fun e he => by
        simp only [List.mem_cons, List.not_mem_nil, or_false] at he
        subst he; exact ⟨b1, ⟨by decide, by decide⟩, e1_7⟩) (vs := [.agg #[.bool true, .bool true, .bool true, .bool false, .bool false, .bool true], .int .i64 a1]) Tryz.func3 rfl rfl doorSubs_c404 w
    · exact one [a1] [(0, 7, 6)] (fun e he => by
        simp only [List.mem_cons, List.not_mem_nil, or_false] at he
        subst he; exact ⟨b1, ⟨by decide, by decide⟩, e1_7⟩) (vs := [.agg #[.bool true, .bool true, .bool true, .bool false, .bool false, .bool true], .int .i64 a1]) Tryz.func3 rfl rfl doorSubs_c405 w
  · rcases (show r1_7 = 0 ∨ r1_7 = 1 ∨ r1_7 = 2 ∨ r1_7 = 3 ∨ r1_7 = 4 ∨ r1_7 = 5 ∨ r1_7 = 6 by omega) with rfl | rfl | rfl | rfl | rfl | rfl | rfl
    · exact one [a1] [(0, 7, 0)] (fun e he => by
        simp only [List.mem_cons, List.not_mem_nil, or_false] at he
        subst he; exact ⟨b1, ⟨by decide, by decide⟩, e1_7⟩) (vs := [.agg #[.bool true, .bool true, .bool true, .bool false, .bool true, .bool false], .int .i64 a1]) Tryz.func3 rfl rfl doorSubs_c406 w
    · exact one [a1] [(0, 7, 1)] (fun e he => by
        simp only [List.mem_cons, List.not_mem_nil, or_false] at he
        subst he; exact ⟨b1, ⟨by decide, by decide⟩, e1_7⟩) (vs := [.agg #[.bool true, .bool true, .bool true, .bool false, .bool true, .bool false], .int .i64 a1]) Tryz.func3 rfl rfl doorSubs_c407 w
    · exact one [a1] [(0, 7, 2)] (fun e he => by
        simp only [List.mem_cons, List.not_mem_nil, or_false] at he
        subst he; exact ⟨b1, ⟨by decide, by decide⟩, e1_7⟩) (vs := [.agg #[.bool true, .bool true, .bool true, .bool false, .bool true, .bool false], .int .i64 a1]) Tryz.func3 rfl rfl doorSubs_c408 w
    · exact one [a1] [(0, 7, 3)] (fun e he => by
        simp only [List.mem_cons, List.not_mem_nil, or_false] at he
        subst he; exact ⟨b1, ⟨by decide, by decide⟩, e1_7⟩) (vs := [.agg #[.bool true, .bool true, .bool true, .bool false, .bool true, .bool false], .int .i64 a1]) Tryz.func3 rfl rfl doorSubs_c409 w
    · exact one [a1] [(0, 7, 4)] (fun e he => by
        simp only [List.mem_cons, List.not_mem_nil, or_false] at he
        subst he; exact ⟨b1, ⟨by decide, by decide⟩, e1_7⟩) (vs := [.agg #[.bool true, .bool true, .bool true, .bool false, .bool true, .bool false], .int .i64 a1]) Tryz.func3 rfl rfl doorSubs_c410 w
    · exact one [a1] [(0, 7, 5)] (fun e he => by
        simp only [List.mem_cons, List.not_mem_nil, or_false] at he
        subst he; exact ⟨b1, ⟨by decide, by decide⟩, e1_7⟩) (vs := [.agg #[.bool true, .bool true, .bool true, .bool false, .bool true, .bool false], .int .i64 a1]) Tryz.func3 rfl rfl doorSubs_c411 w
    · exact one [a1] [(0, 7, 6)] (fun e he => by
        simp only [List.mem_cons, List.not_mem_nil, or_false] at he
        subst he; exact ⟨b1, ⟨by decide, by decide⟩, e1_7⟩) (vs := [.agg #[.bool true, .bool true, .bool true, .bool false, .bool true, .bool false], .int .i64 a1]) Tryz.func3 rfl rfl doorSubs_c412 w
  · rcases (show r1_7 = 0 ∨ r1_7 = 1 ∨ r1_7 = 2 ∨ r1_7 = 3 ∨ r1_7 = 4 ∨ r1_7 = 5 ∨ r1_7 = 6 by omega) with rfl | rfl | rfl | rfl | rfl | rfl | rfl
    · exact one [a1] [(0, 7, 0)] (fun e he => by
        simp only [List.mem_cons, List.not_mem_nil, or_false] at he
        subst he; exact ⟨b1, ⟨by decide, by decide⟩, e1_7⟩) (vs := [.agg #[.bool true, .bool true, .bool true, .bool false, .bool true, .bool true], .int .i64 a1]) Tryz.func3 rfl rfl doorSubs_c413 w
    · exact one [a1] [(0, 7, 1)] (fun e he => by
        simp only [List.mem_cons, List.not_mem_nil, or_false] at he
        subst he; exact ⟨b1, ⟨by decide, by decide⟩, e1_7⟩) (vs := [.agg #[.bool true, .bool true, .bool true, .bool false, .bool true, .bool true], .int .i64 a1]) Tryz.func3 rfl rfl doorSubs_c414 w
    · exact one [a1] [(0, 7, 2)] (fun e he => by
        simp only [List.mem_cons, List.not_mem_nil, or_false] at he
        subst he; exact ⟨b1, ⟨by decide, by decide⟩, e1_7⟩) (vs := [.agg #[.bool true, .bool true, .bool true, .bool false, .bool true, .bool true], .int .i64 a1]) Tryz.func3 rfl rfl doorSubs_c415 w
    · exact one [a1] [(0, 7, 3)] (fun e he => by
        simp only [List.mem_cons, List.not_mem_nil, or_false] at he
        subst he; exact ⟨b1, ⟨by decide, by decide⟩, e1_7⟩) (vs := [.agg #[.bool true, .bool true, .bool true, .bool false, .bool true, .bool true], .int .i64 a1]) Tryz.func3 rfl rfl doorSubs_c416 w
    · exact one [a1] [(0, 7, 4)] (fun e he => by
        simp only [List.mem_cons, List.not_mem_nil, or_false] at he
        subst he; exact ⟨b1, ⟨by decide, by decide⟩, e1_7⟩) (vs := [.agg #[.bool true, .bool true, .bool true, .bool false, .bool true, .bool true], .int .i64 a1]) Tryz.func3 rfl rfl doorSubs_c417 w
    · exact one [a1] [(0, 7, 5)] (fun e he => by
        simp only [List.mem_cons, List.not_mem_nil, or_false] at he
        subst he; exact ⟨b1, ⟨by decide, by decide⟩, e1_7⟩) (vs := [.agg #[.bool true, .bool true, .bool true, .bool false, .bool true, .bool true], .int .i64 a1]) Tryz.func3 rfl rfl doorSubs_c418 w
    · exact one [a1] [(0, 7, 6)] (fun e he => by
        simp only [List.mem_cons, List.not_mem_nil, or_false] at he
        subst he; exact ⟨b1, ⟨by decide, by decide⟩, e1_7⟩) (vs := [.agg #[.bool true, .bool true, .bool true, .bool false, .bool true, .bool true], .int .i64 a1]) Tryz.func3 rfl rfl doorSubs_c419 w
  · rcases (show r1_7 = 0 ∨ r1_7 = 1 ∨ r1_7 = 2 ∨ r1_7 = 3 ∨ r1_7 = 4 ∨ r1_7 = 5 ∨ r1_7 = 6 by omega) with rfl | rfl | rfl | rfl | rfl | rfl | rfl
    · exact one [a1] [(0, 7, 0)] (fun e he => by
        simp only [List.mem_cons, List.not_mem_nil, or_false] at he
        subst he; exact ⟨b1, ⟨by decide, by decide⟩, e1_7⟩) (vs := [.agg #[.bool true, .bool true, .bool true, .bool true, .bool false, .bool false], .int .i64 a1]) Tryz.func3 rfl rfl doorSubs_c420 w
    · exact one [a1] [(0, 7, 1)] (fun e he => by
        simp only [List.mem_cons, List.not_mem_nil, or_false] at he
        subst he; exact ⟨b1, ⟨by decide, by decide⟩, e1_7⟩) (vs := [.agg #[.bool true, .bool true, .bool true, .bool true, .bool false, .bool false], .int .i64 a1]) Tryz.func3 rfl rfl doorSubs_c421 w
    · exact one [a1] [(0, 7, 2)] (fun e he => by
        simp only [List.mem_cons, List.not_mem_nil, or_false] at he
        subst he; exact ⟨b1, ⟨by decide, by decide⟩, e1_7⟩) (vs := [.agg #[.bool true, .bool true, .bool true, .bool true, .bool false, .bool false], .int .i64 a1]) Tryz.func3 rfl rfl doorSubs_c422 w
    · exact one [a1] [(0, 7, 3)] (fun e he => by
        simp only [List.mem_cons, List.not_mem_nil, or_false] at he
        subst he; exact ⟨b1, ⟨by decide, by decide⟩, e1_7⟩) (vs := [.agg #[.bool true, .bool true, .bool true, .bool true, .bool false, .bool false], .int .i64 a1]) Tryz.func3 rfl rfl doorSubs_c423 w
    · exact one [a1] [(0, 7, 4)] (fun e he => by
        simp only [List.mem_cons, List.not_mem_nil, or_false] at he
        subst he; exact ⟨b1, ⟨by decide, by decide⟩, e1_7⟩) (vs := [.agg #[.bool true, .bool true, .bool true, .bool true, .bool false, .bool false], .int .i64 a1]) Tryz.func3 rfl rfl doorSubs_c424 w
    · exact one [a1] [(0, 7, 5)] (fun e he => by
        simp only [List.mem_cons, List.not_mem_nil, or_false] at he
        subst he; exact ⟨b1, ⟨by decide, by decide⟩, e1_7⟩) (vs := [.agg #[.bool true, .bool true, .bool true, .bool true, .bool false, .bool false], .int .i64 a1]) Tryz.func3 rfl rfl doorSubs_c425 w
    · exact one [a1] [(0, 7, 6)] (fun e he => by
        simp only [List.mem_cons, List.not_mem_nil, or_false] at he
        subst he; exact ⟨b1, ⟨by decide, by decide⟩, e1_7⟩) (vs := [.agg #[.bool true, .bool true, .bool true, .bool true, .bool false, .bool false], .int .i64 a1]) Tryz.func3 rfl rfl doorSubs_c426 w
  · rcases (show r1_7 = 0 ∨ r1_7 = 1 ∨ r1_7 = 2 ∨ r1_7 = 3 ∨ r1_7 = 4 ∨ r1_7 = 5 ∨ r1_7 = 6 by omega) with rfl | rfl | rfl | rfl | rfl | rfl | rfl
    · exact one [a1] [(0, 7, 0)] (fun e he => by
        simp only [List.mem_cons, List.not_mem_nil, or_false] at he
        subst he; exact ⟨b1, ⟨by decide, by decide⟩, e1_7⟩) (vs := [.agg #[.bool true, .bool true, .bool true, .bool true, .bool false, .bool true], .int .i64 a1]) Tryz.func3 rfl rfl doorSubs_c427 w
    · exact one [a1] [(0, 7, 1)] (fun e he => by
        simp only [List.mem_cons, List.not_mem_nil, or_false] at he
        subst he; exact ⟨b1, ⟨by decide, by decide⟩, e1_7⟩) (vs := [.agg #[.bool true, .bool true, .bool true, .bool true, .bool false, .bool true], .int .i64 a1]) Tryz.func3 rfl rfl doorSubs_c428 w
    · exact one [a1] [(0, 7, 2)] (fun e he => by
        simp only [List.mem_cons, List.not_mem_nil, or_false] at he
        subst he; exact ⟨b1, ⟨by decide, by decide⟩, e1_7⟩) (vs := [.agg #[.bool true, .bool true, .bool true, .bool true, .bool false, .bool true], .int .i64 a1]) Tryz.func3 rfl rfl doorSubs_c429 w
    · exact one [a1] [(0, 7, 3)] (fun e he => by
        simp only [List.mem_cons, List.not_mem_nil, or_false] at he
        subst he; exact ⟨b1, ⟨by decide, by decide⟩, e1_7⟩) (vs := [.agg #[.bool true, .bool true, .bool true, .bool true, .bool false, .bool true], .int .i64 a1]) Tryz.func3 rfl rfl doorSubs_c430 w
    · exact one [a1] [(0, 7, 4)] (fun e he => by
        simp only [List.mem_cons, List.not_mem_nil, or_false] at he
        subst he; exact ⟨b1, ⟨by decide, by decide⟩, e1_7⟩) (vs := [.agg #[.bool true, .bool true, .bool true, .bool true, .bool false, .bool true], .int .i64 a1]) Tryz.func3 rfl rfl doorSubs_c431 w
    · exact one [a1] [(0, 7, 5)] (fun e he => by
        simp only [List.mem_cons, List.not_mem_nil, or_false] at he
        subst he; exact ⟨b1, ⟨by decide, by decide⟩, e1_7⟩) (vs := [.agg #[.bool true, .bool true, .bool true, .bool true, .bool false, .bool true], .int .i64 a1]) Tryz.func3 rfl rfl doorSubs_c432 w
    · exact one [a1] [(0, 7, 6)] (fun e he => by
        simp only [List.mem_cons, List.not_mem_nil, or_false] at he
        subst he; exact ⟨b1, ⟨by decide, by decide⟩, e1_7⟩) (vs := [.agg #[.bool true, .bool true, .bool true, .bool true, .bool false, .bool true], .int .i64 a1]) Tryz.func3 rfl rfl doorSubs_c433 w
  · rcases (show r1_7 = 0 ∨ r1_7 = 1 ∨ r1_7 = 2 ∨ r1_7 = 3 ∨ r1_7 = 4 ∨ r1_7 = 5 ∨ r1_7 = 6 by omega) with rfl | rfl | rfl | rfl | rfl | rfl | rfl
    · exact one [a1] [(0, 7, 0)] (fun e he => by
        simp only [List.mem_cons, List.not_mem_nil, or_false] at he
        subst he; exact ⟨b1, ⟨by decide, by decide⟩, e1_7⟩) (vs := [.agg #[.bool true, .bool true, .bool true, .bool true, .bool true, .bool false], .int .i64 a1]) Tryz.func3 rfl rfl doorSubs_c434 w
    · exact one [a1] [(0, 7, 1)] (fun e he => by
        simp only [List.mem_cons, List.not_mem_nil, or_false] at he
        subst he; exact ⟨b1, ⟨by decide, by decide⟩, e1_7⟩) (vs := [.agg #[.bool true, .bool true, .bool true, .bool true, .bool true, .bool false], .int .i64 a1]) Tryz.func3 rfl rfl doorSubs_c435 w
    · exact one [a1] [(0, 7, 2)] (fun e he => by
        simp only [List.mem_cons, List.not_mem_nil, or_false] at he
        subst he; exact ⟨b1, ⟨by decide, by decide⟩, e1_7⟩) (vs := [.agg #[.bool true, .bool true, .bool true, .bool true, .bool true, .bool false], .int .i64 a1]) Tryz.func3 rfl rfl doorSubs_c436 w
    · exact one [a1] [(0, 7, 3)] (fun e he => by
        simp only [List.mem_cons, List.not_mem_nil, or_false] at he
        subst he; exact ⟨b1, ⟨by decide, by decide⟩, e1_7⟩) (vs := [.agg #[.bool true, .bool true, .bool true, .bool true, .bool true, .bool false], .int .i64 a1]) Tryz.func3 rfl rfl doorSubs_c437 w
    · exact one [a1] [(0, 7, 4)] (fun e he => by
        simp only [List.mem_cons, List.not_mem_nil, or_false] at he
        subst he; exact ⟨b1, ⟨by decide, by decide⟩, e1_7⟩) (vs := [.agg #[.bool true, .bool true, .bool true, .bool true, .bool true, .bool false], .int .i64 a1]) Tryz.func3 rfl rfl doorSubs_c438 w
    · exact one [a1] [(0, 7, 5)] (fun e he => by
        simp only [List.mem_cons, List.not_mem_nil, or_false] at he
        subst he; exact ⟨b1, ⟨by decide, by decide⟩, e1_7⟩) (vs := [.agg #[.bool true, .bool true, .bool true, .bool true, .bool true, .bool false], .int .i64 a1]) Tryz.func3 rfl rfl doorSubs_c439 w
    · exact one [a1] [(0, 7, 6)] (fun e he => by
        simp only [List.mem_cons, List.not_mem_nil, or_false] at he
        subst he; exact ⟨b1, ⟨by decide, by decide⟩, e1_7⟩) (vs := [.agg #[.bool true, .bool true, .bool true, .bool true, .bool true, .bool false], .int .i64 a1]) Tryz.func3 rfl rfl doorSubs_c440 w
  · rcases (show r1_7 = 0 ∨ r1_7 = 1 ∨ r1_7 = 2 ∨ r1_7 = 3 ∨ r1_7 = 4 ∨ r1_7 = 5 ∨ r1_7 = 6 by omega) with rfl | rfl | rfl | rfl | rfl | rfl | rfl
    · exact one [a1] [(0, 7, 0)] (fun e he => by
        simp only [List.mem_cons, List.not_mem_nil, or_false] at he
        subst he; exact ⟨b1, ⟨by decide, by decide⟩, e1_7⟩) (vs := [.agg #[.bool true, .bool true, .bool true, .bool true, .bool true, .bool true], .int .i64 a1]) Tryz.func3 rfl rfl doorSubs_c441 w
    · exact one [a1] [(0, 7, 1)] (fun e he => by
        simp only [List.mem_cons, List.not_mem_nil, or_false] at he
        subst he; exact ⟨b1, ⟨by decide, by decide⟩, e1_7⟩) (vs := [.agg #[.bool true, .bool true, .bool true, .bool true, .bool true, .bool true], .int .i64 a1]) Tryz.func3 rfl rfl doorSubs_c442 w
    · exact one [a1] [(0, 7, 2)] (fun e he => by
        simp only [List.mem_cons, List.not_mem_nil, or_false] at he
        subst he; exact ⟨b1, ⟨by decide, by decide⟩, e1_7⟩) (vs := [.agg #[.bool true, .bool true, .bool true, .bool true, .bool true, .bool true], .int .i64 a1]) Tryz.func3 rfl rfl doorSubs_c443 w
    · exact one [a1] [(0, 7, 3)] (fun e he => by
        simp only [List.mem_cons, List.not_mem_nil, or_false] at he
        subst he; exact ⟨b1, ⟨by decide, by decide⟩, e1_7⟩) (vs := [.agg #[.bool true, .bool true, .bool true, .bool true, .bool true, .bool true], .int .i64 a1]) Tryz.func3 rfl rfl doorSubs_c444 w
    · exact one [a1] [(0, 7, 4)] (fun e he => by
        simp only [List.mem_cons, List.not_mem_nil, or_false] at he
        subst he; exact ⟨b1, ⟨by decide, by decide⟩, e1_7⟩) (vs := [.agg #[.bool true, .bool true, .bool true, .bool true, .bool true, .bool true], .int .i64 a1]) Tryz.func3 rfl rfl doorSubs_c445 w
    · exact one [a1] [(0, 7, 5)] (fun e he => by
        simp only [List.mem_cons, List.not_mem_nil, or_false] at he
        subst he; exact ⟨b1, ⟨by decide, by decide⟩, e1_7⟩) (vs := [.agg #[.bool true, .bool true, .bool true, .bool true, .bool true, .bool true], .int .i64 a1]) Tryz.func3 rfl rfl doorSubs_c446 w
    · exact one [a1] [(0, 7, 6)] (fun e he => by
        simp only [List.mem_cons, List.not_mem_nil, or_false] at he
        subst he; exact ⟨b1, ⟨by decide, by decide⟩, e1_7⟩) (vs := [.agg #[.bool true, .bool true, .bool true, .bool true, .bool true, .bool true], .int .i64 a1]) Tryz.func3 rfl rfl doorSubs_c447 w
end Go.Proofs.YtbeoeghcmabemaaGreatDoor
