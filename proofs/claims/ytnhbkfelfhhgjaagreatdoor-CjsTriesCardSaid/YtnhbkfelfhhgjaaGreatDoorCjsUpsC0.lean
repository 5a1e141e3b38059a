/- Law gossamerlaw29.CjsUps: its cases, part 1. -/
import Derived.Test.YtnhbkfelfhhgjaaGreatDoorFin
set_option linter.unusedVariables false
set_option maxRecDepth 100000
namespace Go.Proofs.YtnhbkfelfhhgjaaGreatDoor
open Go Go.Proofs Go.RowKit Go.Ev
theorem cjsUps_c0 : @callK (slI []) Tryz.prog X1 100000 60 5 [.agg [.bool false, .bool false, .bool false]] (.mk .leaf 6 6) (fin 6) = .yes := by kernel_rfl
theorem cjsUps_c1 : @callK (slI []) Tryz.prog X1 100000 60 5 [.agg [.bool false, .bool false, .bool true]] (.mk .leaf 6 6) (fin 6) = .yes := by kernel_rfl
theorem cjsUps_c2 : @callK (slI []) Tryz.prog X1 100000 60 5 [.agg [.bool false, .bool true, .bool false]] (.mk .leaf 6 6) (fin 6) = .yes := by kernel_rfl
theorem cjsUps_c3 : @callK (slI []) Tryz.prog X1 100000 60 5 [.agg [.bool false, .bool true, .bool true]] (.mk .leaf 6 6) (fin 6) = .yes := by kernel_rfl
end Go.Proofs.YtnhbkfelfhhgjaaGreatDoor
