/- Law gossamerlaw29.CjsMains: its cases, part 3. -/
import Derived.Test.YtnhbkfelfhhgjaaGreatDoorFin
set_option linter.unusedVariables false
set_option maxRecDepth 100000
namespace Go.Proofs.YtnhbkfelfhhgjaaGreatDoor
open Go Go.Proofs Go.RowKit Go.Ev
theorem cjsMains_c20 : @callK (slI [(0, 5, 1)]) Tryz.prog X1 100000 60 4 [.sym 0, .agg [.bool false, .bool true, .bool false, .bool false]] (.mk .leaf 6 6) (fin 6) = .yes := by kernel_rfl
theorem cjsMains_c21 : @callK (slI [(0, 5, 1)]) Tryz.prog X1 100000 60 4 [.sym 0, .agg [.bool false, .bool true, .bool false, .bool true]] (.mk .leaf 6 6) (fin 6) = .yes := by kernel_rfl
theorem cjsMains_c22 : @callK (slI [(0, 5, 1)]) Tryz.prog X1 100000 60 4 [.sym 0, .agg [.bool false, .bool true, .bool true, .bool false]] (.mk .leaf 6 6) (fin 6) = .yes := by kernel_rfl
theorem cjsMains_c23 : @callK (slI [(0, 5, 1)]) Tryz.prog X1 100000 60 4 [.sym 0, .agg [.bool false, .bool true, .bool true, .bool true]] (.mk .leaf 6 6) (fin 6) = .yes := by kernel_rfl
theorem cjsMains_c24 : @callK (slI [(0, 5, 1)]) Tryz.prog X1 100000 60 4 [.sym 0, .agg [.bool true, .bool false, .bool false, .bool false]] (.mk .leaf 6 6) (fin 6) = .yes := by kernel_rfl
theorem cjsMains_c25 : @callK (slI [(0, 5, 1)]) Tryz.prog X1 100000 60 4 [.sym 0, .agg [.bool true, .bool false, .bool false, .bool true]] (.mk .leaf 6 6) (fin 6) = .yes := by kernel_rfl
theorem cjsMains_c26 : @callK (slI [(0, 5, 1)]) Tryz.prog X1 100000 60 4 [.sym 0, .agg [.bool true, .bool false, .bool true, .bool false]] (.mk .leaf 6 6) (fin 6) = .yes := by kernel_rfl
theorem cjsMains_c27 : @callK (slI [(0, 5, 1)]) Tryz.prog X1 100000 60 4 [.sym 0, .agg [.bool true, .bool false, .bool true, .bool true]] (.mk .leaf 6 6) (fin 6) = .yes := by kernel_rfl
theorem cjsMains_c28 : @callK (slI [(0, 5, 1)]) Tryz.prog X1 100000 60 4 [.sym 0, .agg [.bool true, .bool true, .bool false, .bool false]] (.mk .leaf 6 6) (fin 6) = .yes := by kernel_rfl
theorem cjsMains_c29 : @callK (slI [(0, 5, 1)]) Tryz.prog X1 100000 60 4 [.sym 0, .agg [.bool true, .bool true, .bool false, .bool true]] (.mk .leaf 6 6) (fin 6) = .yes := by kernel_rfl
end Go.Proofs.YtnhbkfelfhhgjaaGreatDoor
