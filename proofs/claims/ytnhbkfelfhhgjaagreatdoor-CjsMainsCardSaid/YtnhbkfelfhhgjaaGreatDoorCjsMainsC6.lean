/- Law gossamerlaw29.CjsMains: its cases, part 7. -/
import Derived.Test.YtnhbkfelfhhgjaaGreatDoorFin
set_option linter.unusedVariables false
set_option maxRecDepth 100000
namespace Go.Proofs.YtnhbkfelfhhgjaaGreatDoor
open Go Go.Proofs Go.RowKit Go.Ev
theorem cjsMains_c60 : @callK (slI [(0, 5, 3)]) Tryz.prog X1 100000 60 4 [.sym 0, .agg [.bool true, .bool true, .bool false, .bool false]] (.mk .leaf 6 6) (fin 6) = .yes := by kernel_rfl
theorem cjsMains_c61 : @callK (slI [(0, 5, 3)]) Tryz.prog X1 100000 60 4 [.sym 0, .agg [.bool true, .bool true, .bool false, .bool true]] (.mk .leaf 6 6) (fin 6) = .yes := by kernel_rfl
theorem cjsMains_c62 : @callK (slI [(0, 5, 3)]) Tryz.prog X1 100000 60 4 [.sym 0, .agg [.bool true, .bool true, .bool true, .bool false]] (.mk .leaf 6 6) (fin 6) = .yes := by kernel_rfl
theorem cjsMains_c63 : @callK (slI [(0, 5, 3)]) Tryz.prog X1 100000 60 4 [.sym 0, .agg [.bool true, .bool true, .bool true, .bool true]] (.mk .leaf 6 6) (fin 6) = .yes := by kernel_rfl
theorem cjsMains_c64 : @callK (slI [(0, 5, 4)]) Tryz.prog X1 100000 60 4 [.sym 0, .agg [.bool false, .bool false, .bool false, .bool false]] (.mk .leaf 6 6) (fin 6) = .yes := by kernel_rfl
theorem cjsMains_c65 : @callK (slI [(0, 5, 4)]) Tryz.prog X1 100000 60 4 [.sym 0, .agg [.bool false, .bool false, .bool false, .bool true]] (.mk .leaf 6 6) (fin 6) = .yes := by kernel_rfl
theorem cjsMains_c66 : @callK (slI [(0, 5, 4)]) Tryz.prog X1 100000 60 4 [.sym 0, .agg [.bool false, .bool false, .bool true, .bool false]] (.mk .leaf 6 6) (fin 6) = .yes := by kernel_rfl
theorem cjsMains_c67 : @callK (slI [(0, 5, 4)]) Tryz.prog X1 100000 60 4 [.sym 0, .agg [.bool false, .bool false, .bool true, .bool true]] (.mk .leaf 6 6) (fin 6) = .yes := by kernel_rfl
theorem cjsMains_c68 : @callK (slI [(0, 5, 4)]) Tryz.prog X1 100000 60 4 [.sym 0, .agg [.bool false, .bool true, .bool false, .bool false]] (.mk .leaf 6 6) (fin 6) = .yes := by kernel_rfl
theorem cjsMains_c69 : @callK (slI [(0, 5, 4)]) Tryz.prog X1 100000 60 4 [.sym 0, .agg [.bool false, .bool true, .bool false, .bool true]] (.mk .leaf 6 6) (fin 6) = .yes := by kernel_rfl
end Go.Proofs.YtnhbkfelfhhgjaaGreatDoor
