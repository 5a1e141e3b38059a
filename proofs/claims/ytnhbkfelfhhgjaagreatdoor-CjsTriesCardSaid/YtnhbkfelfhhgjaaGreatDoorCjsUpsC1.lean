/- Law gossamerlaw29.CjsUps: its cases, part 2. -/
import Derived.Test.YtnhbkfelfhhgjaaGreatDoorFin
set_option linter.unusedVariables false
set_option maxRecDepth 100000
namespace Go.Proofs.YtnhbkfelfhhgjaaGreatDoor
open Go Go.Proofs Go.RowKit Go.Ev
theorem cjsUps_c4 : @callK (slI []) Tryz.prog X1 100000 60 5 [.agg [.bool true, .bool false, .bool false]] (.mk .leaf 6 6) (fin 6) = .yes := by kernel_rfl
theorem cjsUps_c5 : @callK (slI []) Tryz.prog X1 100000 60 5 [.agg [.bool true, .bool false, .bool true]] (.mk .leaf 6 6) (fin 6) = .yes := by kernel_rfl
theorem cjsUps_c6 : @callK (slI []) Tryz.prog X1 100000 60 5 [.agg [.bool true, .bool true, .bool false]] (.mk .leaf 6 6) (fin 6) = .yes := by kernel_rfl
theorem cjsUps_c7 : @callK (slI []) Tryz.prog X1 100000 60 5 [.agg [.bool true, .bool true, .bool true]] (.mk .leaf 6 6) (fin 6) = .yes := by kernel_rfl
end Go.Proofs.YtnhbkfelfhhgjaaGreatDoor
