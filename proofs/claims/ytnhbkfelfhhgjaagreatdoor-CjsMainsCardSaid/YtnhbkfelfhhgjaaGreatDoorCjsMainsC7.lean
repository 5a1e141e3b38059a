/- Law gossamerlaw29.CjsMains: its cases, part 8. -/
import Derived.Test.YtnhbkfelfhhgjaaGreatDoorFin
set_option linter.unusedVariables false
set_option maxRecDepth 100000
namespace Go.Proofs.YtnhbkfelfhhgjaaGreatDoor
open Go Go.Proofs Go.RowKit Go.Ev
theorem cjsMains_c70 : @callK (slI [(0, 5, 4)]) Tryz.prog X1 100000 60 4 [.sym 0, .agg [.bool false, .bool true, .bool true, .bool false]] (.mk .leaf 6 6) (fin 6) = .yes := by kernel_rfl
theorem cjsMains_c71 : @callK (slI [(0, 5, 4)]) Tryz.prog X1 100000 60 4 [.sym 0, .agg [.bool false, .bool true, .bool true, .bool true]] (.mk .leaf 6 6) (fin 6) = .yes := by kernel_rfl
theorem cjsMains_c72 : @callK (slI [(0, 5, 4)]) Tryz.prog X1 100000 60 4 [.sym 0, .agg [.bool true, .bool false, .bool false, .bool false]] (.mk .leaf 6 6) (fin 6) = .yes := by kernel_rfl
theorem cjsMains_c73 : @callK (slI [(0, 5, 4)]) Tryz.prog X1 100000 60 4 [.sym 0, .agg [.bool true, .bool false, .bool false, .bool true]] (.mk .leaf 6 6) (fin 6) = .yes := by kernel_rfl
theorem cjsMains_c74 : @callK (slI [(0, 5, 4)]) Tryz.prog X1 100000 60 4 [.sym 0, .agg [.bool true, .bool false, .bool true, .bool false]] (.mk .leaf 6 6) (fin 6) = .yes := by kernel_rfl
theorem cjsMains_c75 : @callK (slI [(0, 5, 4)]) Tryz.prog X1 100000 60 4 [.sym 0, .agg [.bool true, .bool false, .bool true, .bool true]] (.mk .leaf 6 6) (fin 6) = .yes := by kernel_rfl
theorem cjsMains_c76 : @callK (slI [(0, 5, 4)]) Tryz.prog X1 100000 60 4 [.sym 0, .agg [.bool true, .bool true, .bool false, .bool false]] (.mk .leaf 6 6) (fin 6) = .yes := by kernel_rfl
theorem cjsMains_c77 : @callK (slI [(0, 5, 4)]) Tryz.prog X1 100000 60 4 [.sym 0, .agg [.bool true, .bool true, .bool false, .bool true]] (.mk .leaf 6 6) (fin 6) = .yes := by kernel_rfl
theorem cjsMains_c78 : @callK (slI [(0, 5, 4)]) Tryz.prog X1 100000 60 4 [.sym 0, .agg [.bool true, .bool true, .bool true, .bool false]] (.mk .leaf 6 6) (fin 6) = .yes := by kernel_rfl
theorem cjsMains_c79 : @callK (slI [(0, 5, 4)]) Tryz.prog X1 100000 60 4 [.sym 0, .agg [.bool true, .bool true, .bool true, .bool true]] (.mk .leaf 6 6) (fin 6) = .yes := by kernel_rfl
end Go.Proofs.YtnhbkfelfhhgjaaGreatDoor
