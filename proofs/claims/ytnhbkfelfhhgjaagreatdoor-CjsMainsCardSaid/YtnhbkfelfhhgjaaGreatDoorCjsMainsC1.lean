/- Law gossamerlaw29.CjsMains: its cases, part 2. -/
import Derived.Test.YtnhbkfelfhhgjaaGreatDoorFin
set_option linter.unusedVariables false
set_option maxRecDepth 100000
namespace Go.Proofs.YtnhbkfelfhhgjaaGreatDoor
open Go Go.Proofs Go.RowKit Go.Ev
theorem cjsMains_c10 : @callK (slI [(0, 5, 0)]) Tryz.prog X1 100000 60 4 [.sym 0, .agg [.bool true, .bool false, .bool true, .bool false]] (.mk .leaf 6 6) (fin 6) = .yes := by kernel_rfl
theorem cjsMains_c11 : @callK (slI [(0, 5, 0)]) Tryz.prog X1 100000 60 4 [.sym 0, .agg [.bool true, .bool false, .bool true, .bool true]] (.mk .leaf 6 6) (fin 6) = .yes := by kernel_rfl
theorem cjsMains_c12 : @callK (slI [(0, 5, 0)]) Tryz.prog X1 100000 60 4 [.sym 0, .agg [.bool true, .bool true, .bool false, .bool false]] (.mk .leaf 6 6) (fin 6) = .yes := by kernel_rfl
theorem cjsMains_c13 : @callK (slI [(0, 5, 0)]) Tryz.prog X1 100000 60 4 [.sym 0, .agg [.bool true, .bool true, .bool false, .bool true]] (.mk .leaf 6 6) (fin 6) = .yes := by kernel_rfl
theorem cjsMains_c14 : @callK (slI [(0, 5, 0)]) Tryz.prog X1 100000 60 4 [.sym 0, .agg [.bool true, .bool true, .bool true, .bool false]] (.mk .leaf 6 6) (fin 6) = .yes := by kernel_rfl
theorem cjsMains_c15 : @callK (slI [(0, 5, 0)]) Tryz.prog X1 100000 60 4 [.sym 0, .agg [.bool true, .bool true, .bool true, .bool true]] (.mk .leaf 6 6) (fin 6) = .yes := by kernel_rfl
theorem cjsMains_c16 : @callK (slI [(0, 5, 1)]) Tryz.prog X1 100000 60 4 [.sym 0, .agg [.bool false, .bool false, .bool false, .bool false]] (.mk .leaf 6 6) (fin 6) = .yes := by kernel_rfl
theorem cjsMains_c17 : @callK (slI [(0, 5, 1)]) Tryz.prog X1 100000 60 4 [.sym 0, .agg [.bool false, .bool false, .bool false, .bool true]] (.mk .leaf 6 6) (fin 6) = .yes := by kernel_rfl
theorem cjsMains_c18 : @callK (slI [(0, 5, 1)]) Tryz.prog X1 100000 60 4 [.sym 0, .agg [.bool false, .bool false, .bool true, .bool false]] (.mk .leaf 6 6) (fin 6) = .yes := by kernel_rfl
theorem cjsMains_c19 : @callK (slI [(0, 5, 1)]) Tryz.prog X1 100000 60 4 [.sym 0, .agg [.bool false, .bool false, .bool true, .bool true]] (.mk .leaf 6 6) (fin 6) = .yes := by kernel_rfl
end Go.Proofs.YtnhbkfelfhhgjaaGreatDoor
