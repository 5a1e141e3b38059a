/- Law gossamerlaw29.CjsTries: its cases, part 8. -/
import Derived.Test.YtnhbkfelfhhgjaaGreatDoorFin
set_option linter.unusedVariables false
set_option maxRecDepth 100000
namespace Go.Proofs.YtnhbkfelfhhgjaaGreatDoor
open Go Go.Proofs Go.RowKit Go.Ev
theorem cjsTries_c112 : @callK (slI []) Tryz.prog X1 100000 60 3 [.agg [.bool true, .bool true, .bool true, .bool false, .bool false, .bool false, .bool false]] (.mk .leaf 6 6) (fin 6) = .yes := by kernel_rfl
theorem cjsTries_c113 : @callK (slI []) Tryz.prog X1 100000 60 3 [.agg [.bool true, .bool true, .bool true, .bool false, .bool false, .bool false, .bool true]] (.mk .leaf 6 6) (fin 6) = .yes := by kernel_rfl
theorem cjsTries_c114 : @callK (slI []) Tryz.prog X1 100000 60 3 [.agg [.bool true, .bool true, .bool true, .bool false, .bool false, .bool true, .bool false]] (.mk .leaf 6 6) (fin 6) = .yes := by kernel_rfl
theorem cjsTries_c115 : @callK (slI []) Tryz.prog X1 100000 60 3 [.agg [.bool true, .bool true, .bool true, .bool false, .bool false, .bool true, .bool true]] (.mk .leaf 6 6) (fin 6) = .yes := by kernel_rfl
theorem cjsTries_c116 : @callK (slI []) Tryz.prog X1 100000 60 3 [.agg [.bool true, .bool true, .bool true, .bool false, .bool true, .bool false, .bool false]] (.mk .leaf 6 6) (fin 6) = .yes := by kernel_rfl
theorem cjsTries_c117 : @callK (slI []) Tryz.prog X1 100000 60 3 [.agg [.bool true, .bool true, .bool true, .bool false, .bool true, .bool false, .bool true]] (.mk .leaf 6 6) (fin 6) = .yes := by kernel_rfl
theorem cjsTries_c118 : @callK (slI []) Tryz.prog X1 100000 60 3 [.agg [.bool true, .bool true, .bool true, .bool false, .bool true, .bool true, .bool false]] (.mk .leaf 6 6) (fin 6) = .yes := by kernel_rfl
theorem cjsTries_c119 : @callK (slI []) Tryz.prog X1 100000 60 3 [.agg [.bool true, .bool true, .bool true, .bool false, .bool true, .bool true, .bool true]] (.mk .leaf 6 6) (fin 6) = .yes := by kernel_rfl
theorem cjsTries_c120 : @callK (slI []) Tryz.prog X1 100000 60 3 [.agg [.bool true, .bool true, .bool true, .bool true, .bool false, .bool false, .bool false]] (.mk .leaf 6 6) (fin 6) = .yes := by kernel_rfl
theorem cjsTries_c121 : @callK (slI []) Tryz.prog X1 100000 60 3 [.agg [.bool true, .bool true, .bool true, .bool true, .bool false, .bool false, .bool true]] (.mk .leaf 6 6) (fin 6) = .yes := by kernel_rfl
theorem cjsTries_c122 : @callK (slI []) Tryz.prog X1 100000 60 3 [.agg [.bool true, .bool true, .bool true, .bool true, .bool false, .bool true, .bool false]] (.mk .leaf 6 6) (fin 6) = .yes := by kernel_rfl
theorem cjsTries_c123 : @callK (slI []) Tryz.prog X1 100000 60 3 [.agg [.bool true, .bool true, .bool true, .bool true, .bool false, .bool true, .bool true]] (.mk .leaf 6 6) (fin 6) = .yes := by kernel_rfl
theorem cjsTries_c124 : @callK (slI []) Tryz.prog X1 100000 60 3 [.agg [.bool true, .bool true, .bool true, .bool true, .bool true, .bool false, .bool false]] (.mk .leaf 6 6) (fin 6) = .yes := by kernel_rfl
theorem cjsTries_c125 : @callK (slI []) Tryz.prog X1 100000 60 3 [.agg [.bool true, .bool true, .bool true, .bool true, .bool true, .bool false, .bool true]] (.mk .leaf 6 6) (fin 6) = .yes := by kernel_rfl
theorem cjsTries_c126 : @callK (slI []) Tryz.prog X1 100000 60 3 [.agg [.bool true, .bool true, .bool true, .bool true, .bool true, .bool true, .bool false]] (.mk .leaf 6 6) (fin 6) = .yes := by kernel_rfl
theorem cjsTries_c127 : @callK (slI []) Tryz.prog X1 100000 60 3 [.agg [.bool true, .bool true, .bool true, .bool true, .bool true, .bool true, .bool true]] (.mk .leaf 6 6) (fin 6) = .yes := by kernel_rfl
end Go.Proofs.YtnhbkfelfhhgjaaGreatDoor
