/- Law gossamerlaw29.CjsMains: its cases, part 1. -/
import Derived.Test.YtnhbkfelfhhgjaaGreatDoorFin
set_option linter.unusedVariables false
set_option maxRecDepth 100000
namespace Go.Proofs.YtnhbkfelfhhgjaaGreatDoor
open Go Go.Proofs Go.RowKit Go.Ev
theorem cjsMains_c0 : @callK (slI [(0, 5, 0)]) Tryz.prog X1 100000 60 4 [.sym 0, .agg [.bool false, .bool false, .bool false, .bool false]] (.mk .leaf 6 6) (fin 6) = .yes := by kernel_rfl
theorem cjsMains_c1 : @callK (slI [(0, 5, 0)]) Tryz.prog X1 100000 60 4 [.sym 0, .agg [.bool false, .bool false, .bool false, .bool true]] (.mk .leaf 6 6) (fin 6) = .yes := by kernel_rfl
theorem cjsMains_c2 : @callK (slI [(0, 5, 0)]) Tryz.prog X1 100000 60 4 [.sym 0, .agg [.bool false, .bool false, .bool true, .bool false]] (.mk .leaf 6 6) (fin 6) = .yes := by kernel_rfl
theorem cjsMains_c3 : @callK (slI [(0, 5, 0)]) Tryz.prog X1 100000 60 4 [.sym 0, .agg [.bool false, .bool false, .bool true, .bool true]] (.mk .leaf 6 6) (fin 6) = .yes := by kernel_rfl
theorem cjsMains_c4 : @callK (slI [(0, 5, 0)]) Tryz.prog X1 100000 60 4 [.sym 0, .agg [.bool false, .bool true, .bool false, .bool false]] (.mk .leaf 6 6) (fin 6) = .yes := by kernel_rfl
theorem cjsMains_c5 : @callK (slI [(0, 5, 0)]) Tryz.prog X1 100000 60 4 [.sym 0, .agg [.bool false, .bool true, .bool false, .bool true]] (.mk .leaf 6 6) (fin 6) = .yes := by kernel_rfl
theorem cjsMains_c6 : @callK (slI [(0, 5, 0)]) Tryz.prog X1 100000 60 4 [.sym 0, .agg [.bool false, .bool true, .bool true, .bool false]] (.mk .leaf 6 6) (fin 6) = .yes := by kernel_rfl
theorem cjsMains_c7 : @callK (slI [(0, 5, 0)]) Tryz.prog X1 100000 60 4 [.sym 0, .agg [.bool false, .bool true, .bool true, .bool true]] (.mk .leaf 6 6) (fin 6) = .yes := by kernel_rfl
theorem cjsMains_c8 : @callK (slI [(0, 5, 0)]) Tryz.prog X1 100000 60 4 [.sym 0, .agg [.bool true, .bool false, .bool false, .bool false]] (.mk .leaf 6 6) (fin 6) = .yes := by kernel_rfl
theorem cjsMains_c9 : @callK (slI [(0, 5, 0)]) Tryz.prog X1 100000 60 4 [.sym 0, .agg [.bool true, .bool false, .bool false, .bool true]] (.mk .leaf 6 6) (fin 6) = .yes := by kernel_rfl
end Go.Proofs.YtnhbkfelfhhgjaaGreatDoor
