/- Law gossamerlaw29.CjsMains: its cases, part 5. -/
import Derived.Test.YtnhbkfelfhhgjaaGreatDoorFin
set_option linter.unusedVariables false
set_option maxRecDepth 100000
namespace Go.Proofs.YtnhbkfelfhhgjaaGreatDoor
open Go Go.Proofs Go.RowKit Go.Ev
theorem cjsMains_c40 : @callK (slI [(0, 5, 2)]) Tryz.prog X1 100000 60 4 [.sym 0, .agg [.bool true, .bool false, .bool false, .bool false]] (.mk .leaf 6 6) (fin 6) = .yes := by kernel_rfl
theorem cjsMains_c41 : @callK (slI [(0, 5, 2)]) Tryz.prog X1 100000 60 4 [.sym 0, .agg [.bool true, .bool false, .bool false, .bool true]] (.mk .leaf 6 6) (fin 6) = .yes := by kernel_rfl
theorem cjsMains_c42 : @callK (slI [(0, 5, 2)]) Tryz.prog X1 100000 60 4 [.sym 0, .agg [.bool true, .bool false, .bool true, .bool false]] (.mk .leaf 6 6) (fin 6) = .yes := by kernel_rfl
theorem cjsMains_c43 : @callK (slI [(0, 5, 2)]) Tryz.prog X1 100000 60 4 [.sym 0, .agg [.bool true, .bool false, .bool true, .bool true]] (.mk .leaf 6 6) (fin 6) = .yes := by kernel_rfl
theorem cjsMains_c44 : @callK (slI [(0, 5, 2)]) Tryz.prog X1 100000 60 4 [.sym 0, .agg [.bool true, .bool true, .bool false, .bool false]] (.mk .leaf 6 6) (fin 6) = .yes := by kernel_rfl
theorem cjsMains_c45 : @callK (slI [(0, 5, 2)]) Tryz.prog X1 100000 60 4 [.sym 0, .agg [.bool true, .bool true, .bool false, .bool true]] (.mk .leaf 6 6) (fin 6) = .yes := by kernel_rfl
theorem cjsMains_c46 : @callK (slI [(0, 5, 2)]) Tryz.prog X1 100000 60 4 [.sym 0, .agg [.bool true, .bool true, .bool true, .bool false]] (.mk .leaf 6 6) (fin 6) = .yes := by kernel_rfl
theorem cjsMains_c47 : @callK (slI [(0, 5, 2)]) Tryz.prog X1 100000 60 4 [.sym 0, .agg [.bool true, .bool true, .bool true, .bool true]] (.mk .leaf 6 6) (fin 6) = .yes := by kernel_rfl
theorem cjsMains_c48 : @callK (slI [(0, 5, 3)]) Tryz.prog X1 100000 60 4 [.sym 0, .agg [.bool false, .bool false, .bool false, .bool false]] (.mk .leaf 6 6) (fin 6) = .yes := by kernel_rfl
theorem cjsMains_c49 : @callK (slI [(0, 5, 3)]) Tryz.prog X1 100000 60 4 [.sym 0, .agg [.bool false, .bool false, .bool false, .bool true]] (.mk .leaf 6 6) (fin 6) = .yes := by kernel_rfl
end Go.Proofs.YtnhbkfelfhhgjaaGreatDoor
