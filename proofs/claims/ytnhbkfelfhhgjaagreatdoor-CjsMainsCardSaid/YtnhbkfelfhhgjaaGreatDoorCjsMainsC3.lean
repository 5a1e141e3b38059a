/- Law gossamerlaw29.CjsMains: its cases, part 4. -/
import Derived.Test.YtnhbkfelfhhgjaaGreatDoorFin
set_option linter.unusedVariables false
set_option maxRecDepth 100000
namespace Go.Proofs.YtnhbkfelfhhgjaaGreatDoor
open Go Go.Proofs Go.RowKit Go.Ev
theorem cjsMains_c30 : @callK (slI [(0, 5, 1)]) Tryz.prog X1 100000 60 4 [.sym 0, .agg [.bool true, .bool true, .bool true, .bool false]] (.mk .leaf 6 6) (fin 6) = .yes := by kernel_rfl
theorem cjsMains_c31 : @callK (slI [(0, 5, 1)]) Tryz.prog X1 100000 60 4 [.sym 0, .agg [.bool true, .bool true, .bool true, .bool true]] (.mk .leaf 6 6) (fin 6) = .yes := by kernel_rfl
theorem cjsMains_c32 : @callK (slI [(0, 5, 2)]) Tryz.prog X1 100000 60 4 [.sym 0, .agg [.bool false, .bool false, .bool false, .bool false]] (.mk .leaf 6 6) (fin 6) = .yes := by kernel_rfl
theorem cjsMains_c33 : @callK (slI [(0, 5, 2)]) Tryz.prog X1 100000 60 4 [.sym 0, .agg [.bool false, .bool false, .bool false, .bool true]] (.mk .leaf 6 6) (fin 6) = .yes := by kernel_rfl
theorem cjsMains_c34 : @callK (slI [(0, 5, 2)]) Tryz.prog X1 100000 60 4 [.sym 0, .agg [.bool false, .bool false, .bool true, .bool false]] (.mk .leaf 6 6) (fin 6) = .yes := by kernel_rfl
theorem cjsMains_c35 : @callK (slI [(0, 5, 2)]) Tryz.prog X1 100000 60 4 [.sym 0, .agg [.bool false, .bool false, .bool true, .bool true]] (.mk .leaf 6 6) (fin 6) = .yes := by kernel_rfl
theorem cjsMains_c36 : @callK (slI [(0, 5, 2)]) Tryz.prog X1 100000 60 4 [.sym 0, .agg [.bool false, .bool true, .bool false, .bool false]] (.mk .leaf 6 6) (fin 6) = .yes := by kernel_rfl
theorem cjsMains_c37 : @callK (slI [(0, 5, 2)]) Tryz.prog X1 100000 60 4 [.sym 0, .agg [.bool false, .bool true, .bool false, .bool true]] (.mk .leaf 6 6) (fin 6) = .yes := by kernel_rfl
theorem cjsMains_c38 : @callK (slI [(0, 5, 2)]) Tryz.prog X1 100000 60 4 [.sym 0, .agg [.bool false, .bool true, .bool true, .bool false]] (.mk .leaf 6 6) (fin 6) = .yes := by kernel_rfl
theorem cjsMains_c39 : @callK (slI [(0, 5, 2)]) Tryz.prog X1 100000 60 4 [.sym 0, .agg [.bool false, .bool true, .bool true, .bool true]] (.mk .leaf 6 6) (fin 6) = .yes := by kernel_rfl
end Go.Proofs.YtnhbkfelfhhgjaaGreatDoor
