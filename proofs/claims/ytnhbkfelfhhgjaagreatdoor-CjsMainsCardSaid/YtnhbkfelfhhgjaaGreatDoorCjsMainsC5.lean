/- Law gossamerlaw29.CjsMains: its cases, part 6. -/
import Derived.Test.YtnhbkfelfhhgjaaGreatDoorFin
set_option linter.unusedVariables false
set_option maxRecDepth 100000
namespace Go.Proofs.YtnhbkfelfhhgjaaGreatDoor
open Go Go.Proofs Go.RowKit Go.Ev
theorem cjsMains_c50 : @callK (slI [(0, 5, 3)]) Tryz.prog X1 100000 60 4 [.sym 0, .agg [.bool false, .bool false, .bool true, .bool false]] (.mk .leaf 6 6) (fin 6) = .yes := by kernel_rfl
theorem cjsMains_c51 : @callK (slI [(0, 5, 3)]) Tryz.prog X1 100000 60 4 [.sym 0, .agg [.bool false, .bool false, .bool true, .bool true]] (.mk .leaf 6 6) (fin 6) = .yes := by kernel_rfl
theorem cjsMains_c52 : @callK (slI [(0, 5, 3)]) Tryz.prog X1 100000 60 4 [.sym 0, .agg [.bool false, .bool true, .bool false, .bool false]] (.mk .leaf 6 6) (fin 6) = .yes := by kernel_rfl
theorem cjsMains_c53 : @callK (slI [(0, 5, 3)]) Tryz.prog X1 100000 60 4 [.sym 0, .agg [.bool false, .bool true, .bool false, .bool true]] (.mk .leaf 6 6) (fin 6) = .yes := by kernel_rfl
theorem cjsMains_c54 : @callK (slI [(0, 5, 3)]) Tryz.prog X1 100000 60 4 [.sym 0, .agg [.bool false, .bool true, .bool true, .bool false]] (.mk .leaf 6 6) (fin 6) = .yes := by kernel_rfl
theorem cjsMains_c55 : @callK (slI [(0, 5, 3)]) Tryz.prog X1 100000 60 4 [.sym 0, .agg [.bool false, .bool true, .bool true, .bool true]] (.mk .leaf 6 6) (fin 6) = .yes := by kernel_rfl
theorem cjsMains_c56 : @callK (slI [(0, 5, 3)]) Tryz.prog X1 100000 60 4 [.sym 0, .agg [.bool true, .bool false, .bool false, .bool false]] (.mk .leaf 6 6) (fin 6) = .yes := by kernel_rfl
theorem cjsMains_c57 : @callK (slI [(0, 5, 3)]) Tryz.prog X1 100000 60 4 [.sym 0, .agg [.bool true, .bool false, .bool false, .bool true]] (.mk .leaf 6 6) (fin 6) = .yes := by kernel_rfl
theorem cjsMains_c58 : @callK (slI [(0, 5, 3)]) Tryz.prog X1 100000 60 4 [.sym 0, .agg [.bool true, .bool false, .bool true, .bool false]] (.mk .leaf 6 6) (fin 6) = .yes := by kernel_rfl
theorem cjsMains_c59 : @callK (slI [(0, 5, 3)]) Tryz.prog X1 100000 60 4 [.sym 0, .agg [.bool true, .bool false, .bool true, .bool true]] (.mk .leaf 6 6) (fin 6) = .yes := by kernel_rfl
end Go.Proofs.YtnhbkfelfhhgjaaGreatDoor
