/- Law gossamerlaw29.CjsUps: its cases, all of them. -/
import Derived.Test.YtnhbkfelfhhgjaaGreatDoorFin
import Derived.Test.YtnhbkfelfhhgjaaGreatDoorCjsUpsC0
import Derived.Test.YtnhbkfelfhhgjaaGreatDoorCjsUpsC1
set_option linter.unusedVariables false
set_option maxRecDepth 100000
namespace Go.Proofs.YtnhbkfelfhhgjaaGreatDoor
open Go Go.Proofs Go.RowKit Go.Ev
theorem CjsUps_walk (a0_0 : Bool) (a0_1 : Bool) (a0_2 : Bool) (w : World)  (htab : Tab w) :
    Calls Tryz.prog 5 #[.agg #[.bool a0_0, .bool a0_1, .bool a0_2]] w fun e w' => e = .returned (.bool true) ∧ Below w.heap.size w w' := by
  cases a0_0 <;> cases a0_1 <;> cases a0_2
  · exact one [] [] (fun e he => by cases he) (vs := [.agg #[.bool false, .bool false, .bool false]]) Tryz.func5 rfl rfl cjsUps_c0 w
  · exact one [] [] (fun e he => by cases he) (vs := [.agg #[.bool false, .bool false, .bool true]]) Tryz.func5 rfl rfl cjsUps_c1 w
  · exact one [] [] (fun e he => by cases he) (vs := [.agg #[.bool false, .bool true, .bool false]]) Tryz.func5 rfl rfl cjsUps_c2 w
  · exact one [] [] (fun e he => by cases he) (vs := [.agg #[.bool false, .bool true, .bool true]]) Tryz.func5 rfl rfl cjsUps_c3 w
  · exact one [] [] (fun e he => by cases he) (vs := [.agg #[.bool true, .bool false, .bool false]]) Tryz.func5 rfl rfl cjsUps_c4 w
  · exact one [] [] (fun e he => by cases he) (vs := [.agg #[.bool true, .bool false, .bool true]]) Tryz.func5 rfl rfl cjsUps_c5 w
  · exact one [] [] (fun e he => by cases he) (vs := [.agg #[.bool true, .bool true, .bool false]]) Tryz.func5 rfl rfl cjsUps_c6 w
  · exact one [] [] (fun e he => by cases he) (vs := [.agg #[.bool true, .bool true, .bool true]]) Tryz.func5 rfl rfl cjsUps_c7 w
end Go.Proofs.YtnhbkfelfhhgjaaGreatDoor
