/- Law gossamerlaw29.CjsTries: its cases, part 7. -/
import Derived.Test.YtnhbkfelfhhgjaaGreatDoorFin
set_option linter.unusedVariables false
set_option maxRecDepth 100000
namespace Go.Proofs.YtnhbkfelfhhgjaaGreatDoor
open Go Go.Proofs Go.RowKit Go.Ev
theorem cjsTries_c96 : @callK (slI []) Tryz.prog X1 100000 60 3 [.agg [.bool true, .bool true, .bool false, .bool false, .bool false, .bool false, .bool false]] (.mk .leaf 6 6) (fin 6) = .yes := by kernel_rfl
theorem cjsTries_c97 : @callK (slI []) Tryz.prog X1 100000 60 3 [.agg [.bool true, .bool true, .bool false, .bool false, .bool false, .bool false, .bool true]] (.mk .leaf 6 6) (fin 6) = .yes := by kernel_rfl
theorem cjsTries_c98 : @callK (slI []) Tryz.prog X1 100000 60 3 [.agg [.bool true, .bool true, .bool false, .bool false, .bool false, .bool true, .bool false]] (.mk .leaf 6 6) (fin 6) = .yes := by kernel_rfl
theorem cjsTries_c99 : @callK (slI []) Tryz.prog X1 100000 60 3 [.agg [.bool true, .bool true, .bool false, .bool false, .bool false, .bool true, .bool true]] (.mk .leaf 6 6) (fin 6) = .yes := by kernel_rfl
theorem cjsTries_c100 : @callK (slI []) Tryz.prog X1 100000 60 3 [.agg [.bool true, .bool true, .bool false, .bool false, .bool true, .bool false, .bool false]] (.mk .leaf 6 6) (fin 6) = .yes := by kernel_rfl
theorem cjsTries_c101 : @callK (slI []) Tryz.prog X1 100000 60 3 [.agg [.bool true, .bool true, .bool false, .bool false, .bool true, .bool false, .bool true]] (.mk .leaf 6 6) (fin 6) = .yes := by kernel_rfl
theorem cjsTries_c102 : @callK (slI []) Tryz.prog X1 100000 60 3 [.agg [.bool true, .bool true, .bool false, .bool false, .bool true, .bool true, .bool false]] (.mk .leaf 6 6) (fin 6) = .yes := by kernel_rfl
theorem cjsTries_c103 : @callK (slI []) Tryz.prog X1 100000 60 3 [.agg [.bool true, .bool true, .bool false, .bool false, .bool true, .bool true, .bool true]] (.mk .leaf 6 6) (fin 6) = .yes := by kernel_rfl
theorem cjsTries_c104 : @callK (slI []) Tryz.prog X1 100000 60 3 [.agg [.bool true, .bool true, .bool false, .bool true, .bool false, .bool false, .bool false]] (.mk .leaf 6 6) (fin 6) = .yes := by kernel_rfl
theorem cjsTries_c105 : @callK (slI []) Tryz.prog X1 100000 60 3 [.agg [.bool true, .bool true, .bool false, .bool true, .bool false, .bool false, .bool true]] (.mk .leaf 6 6) (fin 6) = .yes := by kernel_rfl
theorem cjsTries_c106 : @callK (slI []) Tryz.prog X1 100000 60 3 [.agg [.bool true, .bool true, .bool false, .bool true, .bool false, .bool true, .bool false]] (.mk .leaf 6 6) (fin 6) = .yes := by kernel_rfl
theorem cjsTries_c107 : @callK (slI []) Tryz.prog X1 100000 60 3 [.agg [.bool true, .bool true, .bool false, .bool true, .bool false, .bool true, .bool true]] (.mk .leaf 6 6) (fin 6) = .yes := by kernel_rfl
theorem cjsTries_c108 : @callK (slI []) Tryz.prog X1 100000 60 3 [.agg [.bool true, .bool true, .bool false, .bool true, .bool true, .bool false, .bool false]] (.mk .leaf 6 6) (fin 6) = .yes := by kernel_rfl
theorem cjsTries_c109 : @callK (slI []) Tryz.prog X1 100000 60 3 [.agg [.bool true, .bool true, .bool false, .bool true, .bool true, .bool false, .bool true]] (.mk .leaf 6 6) (fin 6) = .yes := by kernel_rfl
theorem cjsTries_c110 : @callK (slI []) Tryz.prog X1 100000 60 3 [.agg [.bool true, .bool true, .bool false, .bool true, .bool true, .bool true, .bool false]] (.mk .leaf 6 6) (fin 6) = .yes := by kernel_rfl
theorem cjsTries_c111 : @callK (slI []) Tryz.prog X1 100000 60 3 [.agg [.bool true, .bool true, .bool false, .bool true, .bool true, .bool true, .bool true]] (.mk .leaf 6 6) (fin 6) = .yes := by kernel_rfl
end Go.Proofs.YtnhbkfelfhhgjaaGreatDoor
