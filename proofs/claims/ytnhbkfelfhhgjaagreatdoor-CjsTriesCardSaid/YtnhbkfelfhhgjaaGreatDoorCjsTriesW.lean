/- Law gossamerlaw29.CjsTries: its cases, all of them. -/
import Derived.Test.YtnhbkfelfhhgjaaGreatDoorFin
import Derived.Test.YtnhbkfelfhhgjaaGreatDoorCjsTriesC0
import Derived.Test.YtnhbkfelfhhgjaaGreatDoorCjsTriesC1
import Derived.Test.YtnhbkfelfhhgjaaGreatDoorCjsTriesC2
import Derived.Test.YtnhbkfelfhhgjaaGreatDoorCjsTriesC3
import Derived.Test.YtnhbkfelfhhgjaaGreatDoorCjsTriesC4
import Derived.Test.YtnhbkfelfhhgjaaGreatDoorCjsTriesC5
import Derived.Test.YtnhbkfelfhhgjaaGreatDoorCjsTriesC6
import Derived.Test.YtnhbkfelfhhgjaaGreatDoorCjsTriesC7
set_option linter.unusedVariables false
set_option maxRecDepth 100000
namespace Go.Proofs.YtnhbkfelfhhgjaaGreatDoor
open Go Go.Proofs Go.RowKit Go.Ev
theorem CjsTries_walk (a0_0 : Bool) (a0_1 : Bool) (a0_2 : Bool) (a0_3 : Bool) (a0_4 : Bool) (a0_5 : Bool) (a0_6 : Bool) (w : World)  (htab : Tab w) :
    Calls Tryz.prog 3 #[.agg #[.bool a0_0, .bool a0_1, .bool a0_2, .bool a0_3, .bool a0_4, .bool a0_5, .bool a0_6]] w fun e w' => e = .returned (.bool true) ∧ Below w.heap.size w w' := by
  cases a0_0 <;> cases a0_1 <;> cases a0_2 <;> cases a0_3 <;> cases a0_4 <;> cases a0_5 <;> cases a0_6
  · exact one [] [] (fun e he => by cases he) (vs := [.agg #[.bool false, .bool false, .bool false, .bool false, .bool false, .bool false, .bool false]]) Tryz.func3 rfl rfl cjsTries_c0 w
  · exact one [] [] (fun e he => by cases he) (vs := [.agg #[.bool false, .bool false, .bool false, .bool false, .bool false, .bool false, .bool true]]) Tryz.func3 rfl rfl cjsTries_c1 w
  · exact one [] [] (fun e he => by cases he) (vs := [.agg #[.bool false, .bool false, .bool false, .bool false, .bool false, .bool true, .bool false]]) Tryz.func3 rfl rfl cjsTries_c2 w
  · exact one [] [] (fun e he => by cases he) (vs := [.agg #[.bool false, .bool false, .bool false, .bool false, .bool false, .bool true, .bool true]]) Tryz.func3 rfl rfl cjsTries_c3 w
  · exact one [] [] (fun e he => by cases he) (vs := [.agg #[.bool false, .bool false, .bool false, .bool false, .bool true, .bool false, .bool false]]) Tryz.func3 rfl rfl cjsTries_c4 w
  · exact one [] [] (fun e he => by cases he) (vs := [.agg #[.bool false, .bool false, .bool false, .bool false, .bool true, .bool false, .bool true]]) Tryz.func3 rfl rfl cjsTries_c5 w
  · exact one [] [] (fun e he => by cases he) (vs := [.agg #[.bool false, .bool false, .bool false, .bool false, .bool true, .bool true, .bool false]]) Tryz.func3 rfl rfl cjsTries_c6 w
  · exact one [] [] (fun e he => by cases he) (vs := [.agg #[.bool false, .bool false, .bool false, .bool false, .bool true, .bool true, .bool true]]) Tryz.func3 rfl rfl cjsTries_c7 w
  · exact one [] [] (fun e he => by cases he) (vs := [.agg #[.bool false, .bool false, .bool false, .bool true, .bool false, .bool false, .bool false]]) Tryz.func3 rfl rfl cjsTries_c8 w
  · exact one [] [] (fun e he => by cases he) (vs := [.agg #[.bool false, .bool false, .bool false, .bool true, .bool false, .bool false, .bool true]]) Tryz.func3 rfl rfl cjsTries_c9 w
  · exact one [] [] (fun e he => by cases he) (vs := [.agg #[.bool false, .bool false, .bool false, .bool true, .bool false, .bool true, .bool false]]) Tryz.func3 rfl rfl cjsTries_c10 w
  · exact one [] [] (fun e he => by cases he) (vs := [.agg #[.bool false, .bool false, .bool false, .bool true, .bool false, .bool true, .bool true]]) Tryz.func3 rfl rfl cjsTries_c11 w
  · exact one [] [] (fun e he => by cases he) (vs := [.agg #[.bool false, .bool false, .bool false, .bool true, .bool true, .bool false, .bool false]]) Tryz.func3 rfl rfl cjsTries_c12 w
  · exact one [] [] (fun e he => by cases he) (vs := [.agg #[.bool false, .bool false, .bool false, .bool true, .bool true, .bool false, .bool true]]) Tryz.func3 rfl rfl cjsTries_c13 w
  · exact one [] [] (fun e he => by cases he) (vs := [.agg #[.bool false, .bool false, .bool false, .bool true, .bool true, .bool true, .bool false]]) Tryz.func3 rfl rfl cjsTries_c14 w
  · exact one [] [] (fun e he => by cases he) (vs := [.agg #[.bool false, .bool false, .bool false, .bool true, .bool true, .bool true, .bool true]]) Tryz.func3 rfl rfl cjsTries_c15 w
  · exact one [] [] (fun e he => by cases he) (vs := [.agg #[.bool false, .bool false, .bool true, .bool false, .bool false, .bool false, .bool false]]) Tryz.func3 rfl rfl cjsTries_c16 w
  · exact one [] [] (fun e he => by cases he) (vs := [.agg #[.bool false, .bool false, .bool true, .bool false, .bool false, .bool false, .bool true]]) Tryz.func3 rfl rfl cjsTries_c17 w
  · exact one [] [] (fun e he => by cases he) (vs := [.agg #[.bool false, .bool false, .bool true, .bool false, .bool false, .bool true, .bool false]]) Tryz.func3 rfl rfl cjsTries_c18 w
  · exact one [] [] (fun e he => by cases he) (vs := [.agg #[.bool false, .bool false, .bool true, .bool false, .bool false, .bool true, .bool true]]) Tryz.func3 rfl rfl cjsTries_c19 w
  · exact one [] [] (fun e he => by cases he) (vs := [.agg #[.bool false, .bool false, .bool true, .bool false, .bool true, .bool false, .bool false]]) Tryz.func3 rfl rfl cjsTries_c20 w
  · exact one [] [] (fun e he => by cases he) (vs := [.agg #[.bool false, .bool false, .bool true, .bool false, .bool true, .bool false, .bool true]]) Tryz.func3 rfl rfl cjsTries_c21 w
  · exact one [] [] (fun e he => by cases he) (vs := [.agg #[.bool false, .bool false, .bool true, .bool false, .bool true, .bool true, .bool false]]) Tryz.func3 rfl rfl cjsTries_c22 w
  · exact one [] [] (fun e he => by cases he) (vs := [.agg #[.bool false, .bool false, .bool true, .bool false, .bool true, .bool true, .bool true]]) Tryz.func3 rfl rfl cjsTries_c23 w
  · exact one [] [] (fun e he => by cases he) (vs := [.agg #[.bool false, .bool false, .bool true, .bool true, .bool false, .bool false, .bool false]]) Tryz.func3 rfl rfl cjsTries_c24 w
  · exact one [] [] (fun e he => by cases he) (vs := [.agg #[.bool false, .bool false, .bool true, .bool true, .bool false, .bool false, .bool true]]) Tryz.func3 rfl rfl cjsTries_c25 w
  · exact one [] [] (fun e he => by cases he) (vs := [.agg #[.bool false, .bool false, .bool true, .bool true, .bool false, .bool true, .bool false]]) Tryz.func3 rfl rfl cjsTries_c26 w
  · exact one [] [] (fun e he => by cases he) (vs := [.agg #[.bool false, .bool false, .bool true, .bool true, .bool false, .bool true, .bool true]]) Tryz.func3 rfl rfl cjsTries_c27 w
  · exact one [] [] (fun e he => by cases he) (vs := [.agg #[.bool false, .bool false, .bool true, .bool true, .bool true, .bool false, .bool false]]) Tryz.func3 rfl rfl cjsTries_c28 w
  · exact one [] [] (fun e he => by cases he) (vs := [.agg #[.bool false, .bool false, .bool true, .bool true, .bool true, .bool false, .bool true]]) Tryz.func3 rfl rfl cjsTries_c29 w
  · exact one [] [] (fun e he => by cases he) (vs := [.agg #[.bool false, .bool false, .bool true, .bool true, .bool true, .bool true, .bool false]]) Tryz.func3 rfl rfl cjsTries_c30 w
  · exact one [] [] (fun e he => by cases he) (vs := [.agg #[.bool false, .bool false, .bool true, .bool true, .bool true, .bool true, .bool true]]) Tryz.func3 rfl rfl cjsTries_c31 w
  · exact one [] [] (fun e he => by cases he) (vs := [.agg #[.bool false, .bool true, .bool false, .bool false, .bool false, .bool false, .bool false]]) Tryz.func3 rfl rfl cjsTries_c32 w
  · exact one [] [] (fun e he => by cases he) (vs := [.agg #[.bool false, .bool true, .bool false, .bool false, .bool false, .bool false, .bool true]]) Tryz.func3 rfl rfl cjsTries_c33 w
  · exact one [] [] (fun e he => by cases he) (vs := [.agg #[.bool false, .bool true, .bool false, .bool false, .bool false, .bool true, .bool false]]) Tryz.func3 rfl rfl cjsTries_c34 w
  · exact one [] [] (fun e he => by cases he) (vs := [.agg #[.bool false, .bool true, .bool false, .bool false, .bool false, .bool true, .bool true]]) Tryz.func3 rfl rfl cjsTries_c35 w
  · exact one [] [] (fun e he => by cases he) (vs := [.agg #[.bool false, .bool true, .bool false, .bool false, .bool true, .bool false, .bool false]]) Tryz.func3 rfl rfl cjsTries_c36 w
  · exact one [] [] (fun e he => by cases he) (vs := [.agg #[.bool false, .bool true, .bool false, .bool false, .bool true, .bool false, .bool true]]) Tryz.func3 rfl rfl cjsTries_c37 w
  · exact one [] [] (fun e he => by cases he) (vs := [.agg #[.bool false, .bool true, .bool false, .bool false, .bool true, .bool true, .bool false]]) Tryz.func3 rfl rfl cjsTries_c38 w
  · exact one [] [] (fun e he => by cases he) (vs := [.agg #[.bool false, .bool true, .bool false, .bool false, .bool true, .bool true, .bool true]]) Tryz.func3 rfl rfl cjsTries_c39 w
  · exact one [] [] (fun e he => by cases he) (vs := [.agg #[.bool false, .bool true, .bool false, .bool true, .bool false, .bool false, .bool false]]) Tryz.func3 rfl rfl cjsTries_c40 w
  · exact one [] [] (fun e he => by cases he) (vs := [.agg #[.bool false, .bool true, .bool false, .bool true, .bool false, .bool false, .bool true]]) Tryz.func3 rfl rfl cjsTries_c41 w
  · exact one [] [] (fun e he => by cases he) (vs := [.agg #[.bool false, .bool true, .bool false, .bool true, .bool false, .bool true, .bool false]]) Tryz.func3 rfl rfl cjsTries_c42 w
  · exact one [] [] (fun e he => by cases he) (vs := [.agg #[.bool false, .bool true, .bool false, .bool true, .bool false, .bool true, .bool true]]) Tryz.func3 rfl rfl cjsTries_c43 w
  · exact one [] [] (fun e he => by cases he) (vs := [.agg #[.bool false, .bool true, .bool false, .bool true, .bool true, .bool false, .bool false]]) Tryz.func3 rfl rfl cjsTries_c44 w
  · exact one [] [] (fun e he => by cases he) (vs := [.agg #[.bool false, .bool true, .bool false, .bool true, .bool true, .bool false, .bool true]]) Tryz.func3 rfl rfl cjsTries_c45 w
  · exact one [] [] (fun e he => by cases he) (vs := [.agg #[.bool false, .bool true, .bool false, .bool true, .bool true, .bool true, .bool false]]) Tryz.func3 rfl rfl cjsTries_c46 w
  · exact one [] [] (fun e he => by cases he) (vs := [.agg #[.bool false, .bool true, .bool false, .bool true, .bool true, .bool true, .bool true]]) Tryz.func3 rfl rfl cjsTries_c47 w
  · exact one [] [] (fun e he => by cases he) (vs := [.agg #[.bool false, .bool true, .bool true, .bool false, .bool false, .bool false, .bool false]]) Tryz.func3 rfl rfl cjsTries_c48 w
  · exact one [] [] (fun e he => by cases he) (vs := [.agg #[.bool false, .bool true, .bool true, .bool false, .bool false, .bool false, .bool true]]) Tryz.func3 rfl rfl cjsTries_c49 w
  · exact one [] [] (fun e he => by cases he) (vs := [.agg #[.bool false, .bool true, .bool true, .bool false, .bool false, .bool true, .bool false]]) Tryz.func3 rfl rfl cjsTries_c50 w
  · exact one [] [] (fun e he => by cases he) (vs := [.agg #[.bool false, .bool true, .bool true, .bool false, .bool false, .bool true, .bool true]]) Tryz.func3 rfl rfl cjsTries_c51 w
  · exact one [] [] (fun e he => by cases he) (vs := [.agg #[.bool false, .bool true, .bool true, .bool false, .bool true, .bool false, .bool false]]) Tryz.func3 rfl rfl cjsTries_c52 w
  · exact one [] [] (fun e he => by cases he) (vs := [.agg #[.bool false, .bool true, .bool true, .bool false, .bool true, .bool false, .bool true]]) Tryz.func3 rfl rfl cjsTries_c53 w
  · exact one [] [] (fun e he => by cases he) (vs := [.agg #[.bool false, .bool true, .bool true, .bool false, .bool true, .bool true, .bool false]]) Tryz.func3 rfl rfl cjsTries_c54 w
  · exact one [] [] (fun e he => by cases he) (vs := [.agg #[.bool false, .bool true, .bool true, .bool false, .bool true, .bool true, .bool true]]) Tryz.func3 rfl rfl cjsTries_c55 w
  · exact one [] [] (fun e he => by cases he) (vs := [.agg #[.bool false, .bool true, .bool true, .bool true, .bool false, .bool false, .bool false]]) Tryz.func3 rfl rfl cjsTries_c56 w
  · exact one [] [] (fun e he => by cases he) (vs := [.agg #[.bool false, .bool true, .bool true, .bool true, .bool false, .bool false, .bool true]]) Tryz.func3 rfl rfl cjsTries_c57 w
  · exact one [] [] (fun e he => by cases he) (vs := [.agg #[.bool false, .bool true, .bool true, .bool true, .bool false, .bool true, .bool false]]) Tryz.func3 rfl rfl cjsTries_c58 w
  · exact one [] [] (fun e he => by cases he) (vs := [.agg #[.bool false, .bool true, .bool true, .bool true, .bool false, .bool true, .bool true]]) Tryz.func3 rfl rfl cjsTries_c59 w
  · exact one [] [] (fun e he => by cases he) (vs := [.agg #[.bool false, .bool true, .bool true, .bool true, .bool true, .bool false, .bool false]]) Tryz.func3 rfl rfl cjsTries_c60 w
  · exact one [] [] (fun e he => by cases he) (vs := [.agg #[.bool false, .bool true, .bool true, .bool true, .bool true, .bool false, .bool true]]) Tryz.func3 rfl rfl cjsTries_c61 w
  · exact one [] [] (fun e he => by cases he) (vs := [.agg #[.bool false, .bool true, .bool true, .bool true, .bool true, .bool true, .bool false]]) Tryz.func3 rfl rfl cjsTries_c62 w
  · exact one [] [] (fun e he => by cases he) (vs := [.agg #[.bool false, .bool true, .bool true, .bool true, .bool true, .bool true, .bool true]]) Tryz.func3 rfl rfl cjsTries_c63 w
  · exact one [] [] (fun e he => by cases he) (vs := [.agg #[.bool true, .bool false, .bool false, .bool false, .bool false, .bool false, .bool false]]) Tryz.func3 rfl rfl cjsTries_c64 w
  · exact one [] [] (fun e he => by cases he) (vs := [.agg #[.bool true, .bool false, .bool false, .bool false, .bool false, .bool false, .bool true]]) Tryz.func3 rfl rfl cjsTries_c65 w
  · exact one [] [] (fun e he => by cases he) (vs := [.agg #[.bool true, .bool false, .bool false, .bool false, .bool false, .bool true, .bool false]]) Tryz.func3 rfl rfl cjsTries_c66 w
  · exact one [] [] (fun e he => by cases he) (vs := [.agg #[.bool true, .bool false, .bool false, .bool false, .bool false, .bool true, .bool true]]) Tryz.func3 rfl rfl cjsTries_c67 w
  · exact one [] [] (fun e he => by cases he) (vs := [.agg #[.bool true, .bool false, .bool false, .bool false, .bool true, .bool false, .bool false]]) Tryz.func3 rfl rfl cjsTries_c68 w
  · exact one [] [] (fun e he => by cases he) (vs := [.agg #[.bool true, .bool false, .bool false, .bool false, .bool true, .bool false, .bool true]]) Tryz.func3 rfl rfl cjsTries_c69 w
  · exact one [] [] (fun e he => by cases he) (vs := [.agg #[.bool true, .bool false, .bool false, .bool false, .bool true, .bool true, .bool false]]) Tryz.func3 rfl rfl cjsTries_c70 w
  · exact one [] [] (fun e he => by cases he) (vs := [.agg #[.bool true, .bool false, .bool false, .bool false, .bool true, .bool true, .bool true]]) Tryz.func3 rfl rfl cjsTries_c71 w
  · exact one [] [] (fun e he => by cases he) (vs := [.agg #[.bool true, .bool false, .bool false, .bool true, .bool false, .bool false, .bool false]]) Tryz.func3 rfl rfl cjsTries_c72 w
  · exact one [] [] (fun e he => by cases he) (vs := [.agg #[.bool true, .bool false, .bool false, .bool true, .bool false, .bool false, .bool true]]) Tryz.func3 rfl rfl cjsTries_c73 w
  · exact one [] [] (fun e he => by cases he) (vs := [.agg #[.bool true, .bool false, .bool false, .bool true, .bool false, .bool true, .bool false]]) Tryz.func3 rfl rfl cjsTries_c74 w
  · exact one [] [] (fun e he => by cases he) (vs := [.agg #[.bool true, .bool false, .bool false, .bool true, .bool false, .bool true, .bool true]]) Tryz.func3 rfl rfl cjsTries_c75 w
  · exact one [] [] (fun e he => by cases he) (vs := [.agg #[.bool true, .bool false, .bool false, .bool true, .bool true, .bool false, .bool false]]) Tryz.func3 rfl rfl cjsTries_c76 w
  · exact one [] [] (fun e he => by cases he) (vs := [.agg #[.bool true, .bool false, .bool false, .bool true, .bool true, .bool false, .bool true]]) Tryz.func3 rfl rfl cjsTries_c77 w
  · exact one [] [] (fun e he => by cases he) (vs := [.agg #[.bool true, .bool false, .bool false, .bool true, .bool true, .bool true, .bool false]]) Tryz.func3 rfl rfl cjsTries_c78 w
  · exact one [] [] (fun e he => by cases he) (vs := [.agg #[.bool true, .bool false, .bool false, .bool true, .bool true, .bool true, .bool true]]) Tryz.func3 rfl rfl cjsTries_c79 w
  · exact one [] [] (fun e he => by cases he) (vs := [.agg #[.bool true, .bool false, .bool true, .bool false, .bool false, .bool false, .bool false]]) Tryz.func3 rfl rfl cjsTries_c80 w
  · exact one [] [] (fun e he => by cases he) (vs := [.agg #[.bool true, .bool false, .bool true, .bool false, .bool false, .bool false, .bool true]]) Tryz.func3 rfl rfl cjsTries_c81 w
  · exact one [] [] (fun e he => by cases he) (vs := [.agg #[.bool true, .bool false, .bool true, .bool false, .bool false, .bool true, .bool false]]) Tryz.func3 rfl rfl cjsTries_c82 w
  · exact one [] [] (fun e he => by cases he) (vs := [.agg #[.bool true, .bool false, .bool true, .bool false, .bool false, .bool true, .bool true]]) Tryz.func3 rfl rfl cjsTries_c83 w
  · exact one [] [] (fun e he => by cases he) (vs := [.agg #[.bool true, .bool false, .bool true, .bool false, .bool true, .bool false, .bool false]]) Tryz.func3 rfl rfl cjsTries_c84 w
  · exact one [] [] (fun e he => by cases he) (vs := [.agg #[.bool true, .bool false, .bool true, .bool false, .bool true, .bool false, .bool true]]) Tryz.func3 rfl rfl cjsTries_c85 w
  · exact one [] [] (fun e he => by cases he) (vs := [.agg #[.bool true, .bool false, .bool true, .bool false, .bool true, .bool true, .bool false]]) Tryz.func3 rfl rfl cjsTries_c86 w
  · exact one [] [] (fun e he => by cases he) (vs := [.agg #[.bool true, .bool false, .bool true, .bool false, .bool true, .bool true, .bool true]]) Tryz.func3 rfl rfl cjsTries_c87 w
  · exact one [] [] (fun e he => by cases he) (vs := [.agg #[.bool true, .bool false, .bool true, .bool true, .bool false, .bool false, .bool false]]) Tryz.func3 rfl rfl cjsTries_c88 w
  · exact one [] [] (fun e he => by cases he) (vs := [.agg #[.bool true, .bool false, .bool true, .bool true, .bool false, .bool false, .bool true]]) Tryz.func3 rfl rfl cjsTries_c89 w
  · exact one [] [] (fun e he => by cases he) (vs := [.agg #[.bool true, .bool false, .bool true, .bool true, .bool false, .bool true, .bool false]]) Tryz.func3 rfl rfl cjsTries_c90 w
  · exact one [] [] (fun e he => by cases he) (vs := [.agg #[.bool true, .bool false, .bool true, .bool true, .bool false, .bool true, .bool true]]) Tryz.func3 rfl rfl cjsTries_c91 w
  · exact one [] [] (fun e he => by cases he) (vs := [.agg #[.bool true, .bool false, .bool true, .bool true, .bool true, .bool false, .bool false]]) Tryz.func3 rfl rfl cjsTries_c92 w
  · exact one [] [] (fun e he => by cases he) (vs := [.agg #[.bool true, .bool false, .bool true, .bool true, .bool true, .bool false, .bool true]]) Tryz.func3 rfl rfl cjsTries_c93 w
  · exact one [] [] (fun e he => by cases he) (vs := [.agg #[.bool true, .bool false, .bool true, .bool true, .bool true, .bool true, .bool false]]) Tryz.func3 rfl rfl cjsTries_c94 w
  · exact one [] [] (fun e he => by cases he) (vs := [.agg #[.bool true, .bool false, .bool true, .bool true, .bool true, .bool true, .bool true]]) Tryz.func3 rfl rfl cjsTries_c95 w
  · exact one [] [] (fun e he => by cases he) (vs := [.agg #[.bool true, .bool true, .bool false, .bool false, .bool false, .bool false, .bool false]]) Tryz.func3 rfl rfl cjsTries_c96 w
  · exact one [] [] (fun e he => by cases he) (vs := [.agg #[.bool true, .bool true, .bool false, .bool false, .bool false, .bool false, .bool true]]) Tryz.func3 rfl rfl cjsTries_c97 w
  · exact one [] [] (fun e he => by cases he) (vs := [.agg #[.bool true, .bool true, .bool false, .bool false, .bool false, .bool true, .bool false]]) Tryz.func3 rfl rfl cjsTries_c98 w
  · exact one [] [] (fun e he => by cases he) (vs := [.agg #[.bool true, .bool true, .bool false, .bool false, .bool false, .bool true, .bool true]]) Tryz.func3 rfl rfl cjsTries_c99 w
  · exact one [] [] (fun e he => by cases he) (vs := [.agg #[.bool true, .bool true, .bool false, .bool false, .bool true, .bool false, .bool false]]) Tryz.func3 rfl rfl cjsTries_c100 w
  · exact one [] [] (fun e he => by cases he) (vs := [.agg #[.bool true, .bool true, .bool false, .bool false, .bool true, .bool false, .bool true]]) Tryz.func3 rfl rfl cjsTries_c101 w
  · exact one [] [] (fun e he => by cases he) (vs := [.agg #[.bool true, .bool true, .bool false, .bool false, .bool true, .bool true, .bool false]]) Tryz.func3 rfl rfl cjsTries_c102 w
  · exact one [] [] (fun e he => by cases he) (vs := [.agg #[.bool true, .bool true, .bool false, .bool false, .bool true, .bool true, .bool true]]) Tryz.func3 rfl rfl cjsTries_c103 w
  · exact one [] [] (fun e he => by cases he) (vs := [.agg #[.bool true, .bool true, .bool false, .bool true, .bool false, .bool false, .bool false]]) Tryz.func3 rfl rfl cjsTries_c104 w
  · exact one [] [] (fun e he => by cases he) (vs := [.agg #[.bool true, .bool true, .bool false, .bool true, .bool false, .bool false, .bool true]]) Tryz.func3 rfl rfl cjsTries_c105 w
  · exact one [] [] (fun e he => by cases he) (vs := [.agg #[.bool true, .bool true, .bool false, .bool true, .bool false, .bool true, .bool false]]) Tryz.func3 rfl rfl cjsTries_c106 w
  · exact one [] [] (fun e he => by cases he) (vs := [.agg #[.bool true, .bool true, .bool false, .bool true, .bool false, .bool true, .bool true]]) Tryz.func3 rfl rfl cjsTries_c107 w
  · exact one [] [] (fun e he => by cases he) (vs := [.agg #[.bool true, .bool true, .bool false, .bool true, .bool true, .bool false, .bool false]]) Tryz.func3 rfl rfl cjsTries_c108 w
  · exact one [] [] (fun e he => by cases he) (vs := [.agg #[.bool true, .bool true, .bool false, .bool true, .bool true, .bool false, .bool true]]) Tryz.func3 rfl rfl cjsTries_c109 w
  · exact one [] [] (fun e he => by cases he) (vs := [.agg #[.bool true, .bool true, .bool false, .bool true, .bool true, .bool true, .bool false]]) Tryz.func3 rfl rfl cjsTries_c110 w
  · exact one [] [] (fun e he => by cases he) (vs := [.agg #[.bool true, .bool true, .bool false, .bool true, .bool true, .bool true, .bool true]]) Tryz.func3 rfl rfl cjsTries_c111 w
  · exact one [] [] (fun e he => by cases he) (vs := [.agg #[.bool true, .bool true, .bool true, .bool false, .bool false, .bool false, .bool false]]) Tryz.func3 rfl rfl cjsTries_c112 w
  · exact one [] [] (fun e he => by cases he) (vs := [.agg #[.bool true, .bool true, .bool true, .bool false, .bool false, .bool false, .bool true]]) Tryz.func3 rfl rfl cjsTries_c113 w
  · exact one [] [] (fun e he => by cases he) (vs := [.agg #[.bool true, .bool true, .bool true, .bool false, .bool false, .bool true, .bool false]]) Tryz.func3 rfl rfl cjsTries_c114 w
  · exact one [] [] (fun e he => by cases he) (vs := [.agg #[.bool true, .bool true, .bool true, .bool false, .bool false, .bool true, .bool true]]) Tryz.func3 rfl rfl cjsTries_c115 w
  · exact one [] [] (fun e he => by cases he) (vs := [.agg #[.bool true, .bool true, .bool true, .bool false, .bool true, .bool false, .bool false]]) Tryz.func3 rfl rfl cjsTries_c116 w
  · exact one [] [] (fun e he => by cases he) (vs := [.agg #[.bool true, .bool true, .bool true, .bool false, .bool true, .bool false, .bool true]]) Tryz.func3 rfl rfl cjsTries_c117 w
  · exact one [] [] (fun e he => by cases he) (vs := [.agg #[.bool true, .bool true, .bool true, .bool false, .bool true, .bool true, .bool false]]) Tryz.func3 rfl rfl cjsTries_c118 w
  · exact one [] [] (fun e he => by cases he) (vs := [.agg #[.bool true, .bool true, .bool true, .bool false, .bool true, .bool true, .bool true]]) Tryz.func3 rfl rfl cjsTries_c119 w
  · exact one [] [] (fun e he => by cases he) (vs := [.agg #[.bool true, .bool true, .bool true, .bool true, .bool false, .bool false, .bool false]]) Tryz.func3 rfl rfl cjsTries_c120 w
  · exact one [] [] (fun e he => by cases he) (vs := [.agg #[.bool true, .bool true, .bool true, .bool true, .bool false, .bool false, .bool true]]) Tryz.func3 rfl rfl cjsTries_c121 w
  · exact one [] [] (fun e he => by cases he) (vs := [.agg #[.bool true, .bool true, .bool true, .bool true, .bool false, .bool true, .bool false]]) Tryz.func3 rfl rfl cjsTries_c122 w
  · exact one [] [] (fun e he => by cases he) (vs := [.agg #[.bool true, .bool true, .bool true, .bool true, .bool false, .bool true, .bool true]]) Tryz.func3 rfl rfl cjsTries_c123 w
  · exact one [] [] (fun e he => by cases he) (vs := [.agg #[.bool true, .bool true, .bool true, .bool true, .bool true, .bool false, .bool false]]) Tryz.func3 rfl rfl cjsTries_c124 w
  · exact one [] [] (fun e he => by cases he) (vs := [.agg #[.bool true, .bool true, .bool true, .bool true, .bool true, .bool false, .bool true]]) Tryz.func3 rfl rfl cjsTries_c125 w
  · exact one [] [] (fun e he => by cases he) (vs := [.agg #[.bool true, .bool true, .bool true, .bool true, .bool true, .bool true, .bool false]]) Tryz.func3 rfl rfl cjsTries_c126 w
  · exact one [] [] (fun e he => by cases he) (vs := [.agg #[.bool true, .bool true, .bool true, .bool true, .bool true, .bool true, .bool true]]) Tryz.func3 rfl rfl cjsTries_c127 w
end Go.Proofs.YtnhbkfelfhhgjaaGreatDoor
