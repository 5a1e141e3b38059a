/- Law gossamerlaw29.CjsTries: its cases, part 1. -/
import Derived.Test.YtnhbkfelfhhgjaaGreatDoorFin
set_option linter.unusedVariables false
set_option maxRecDepth 100000
namespace Go.Proofs.YtnhbkfelfhhgjaaGreatDoor
open Go Go.Proofs Go.RowKit Go.Ev
theorem cjsTries_c0 : @callK (slI []) Tryz.prog X1 100000 60 3 [.agg [.bool false, .bool false, .bool false, .bool false, .bool false, .bool false, .bool false]] (.mk .leaf 6 6) (fin 6) = .yes := by kernel_rfl
theorem cjsTries_c1 : @callK (slI []) Tryz.prog X1 100000 60 3 [.agg [.bool false, .bool false, .bool false, .bool false, .bool false, .bool false, .bool true]] (.mk .leaf 6 6) (fin 6) = .yes := by kernel_rfl
theorem cjsTries_c2 : @callK (slI []) Tryz.prog X1 100000 60 3 [.agg [.bool false, .bool false, .bool false, .bool false, .bool false, .bool true, .bool false]] (.mk .leaf 6 6) (fin 6) = .yes := by kernel_rfl
theorem cjsTries_c3 : @callK (slI []) Tryz.prog X1 100000 60 3 [.agg [.bool false, .bool false, .bool false, .bool false, .bool false, .bool true, .bool true]] (.mk .leaf 6 6) (fin 6) = .yes := by kernel_rfl
theorem cjsTries_c4 : @callK (slI []) Tryz.prog X1 100000 60 3 [.agg [.bool false, .bool false, .bool false, .bool false, .bool true, .bool false, .bool false]] (.mk .leaf 6 6) (fin 6) = .yes := by kernel_rfl
theorem cjsTries_c5 : @callK (slI []) Tryz.prog X1 100000 60 3 [.agg [.bool false, .bool false, .bool false, .bool false, .bool true, .bool false, .bool true]] (.mk .leaf 6 6) (fin 6) = .yes := by kernel_rfl
theorem cjsTries_c6 : @callK (slI []) Tryz.prog X1 100000 60 3 [.agg [.bool false, .bool false, .bool false, .bool false, .bool true, .bool true, .bool false]] (.mk .leaf 6 6) (fin 6) = .yes := by kernel_rfl
theorem cjsTries_c7 : @callK (slI []) Tryz.prog X1 100000 60 3 [.agg [.bool false, .bool false, .bool false, .bool false, .bool true, .bool true, .bool true]] (.mk .leaf 6 6) (fin 6) = .yes := by kernel_rfl
theorem cjsTries_c8 : @callK (slI []) Tryz.prog X1 100000 60 3 [.agg [.bool false, .bool false, .bool false, .bool true, .bool false, .bool false, .bool false]] (.mk .leaf 6 6) (fin 6) = .yes := by kernel_rfl
theorem cjsTries_c9 : @callK (slI []) Tryz.prog X1 100000 60 3 [.agg [.bool false, .bool false, .bool false, .bool true, .bool false, .bool false, .bool true]] (.mk .leaf 6 6) (fin 6) = .yes := by kernel_rfl
theorem cjsTries_c10 : @callK (slI []) Tryz.prog X1 100000 60 3 [.agg [.bool false, .bool false, .bool false, .bool true, .bool false, .bool true, .bool false]] (.mk .leaf 6 6) (fin 6) = .yes := by kernel_rfl
theorem cjsTries_c11 : @callK (slI []) Tryz.prog X1 100000 60 3 [.agg [.bool false, .bool false, .bool false, .bool true, .bool false, .bool true, .bool true]] (.mk .leaf 6 6) (fin 6) = .yes := by kernel_rfl
theorem cjsTries_c12 : @callK (slI []) Tryz.prog X1 100000 60 3 [.agg [.bool false, .bool false, .bool false, .bool true, .bool true, .bool false, .bool false]] (.mk .leaf 6 6) (fin 6) = .yes := by kernel_rfl
theorem cjsTries_c13 : @callK (slI []) Tryz.prog X1 100000 60 3 [.agg [.bool false, .bool false, .bool false, .bool true, .bool true, .bool false, .bool true]] (.mk .leaf 6 6) (fin 6) = .yes := by kernel_rfl
theorem cjsTries_c14 : @callK (slI []) Tryz.prog X1 100000 60 3 [.agg [.bool false, .bool false, .bool false, .bool true, .bool true, .bool true, .bool false]] (.mk .leaf 6 6) (fin 6) = .yes := by kernel_rfl
theorem cjsTries_c15 : @callK (slI []) Tryz.prog X1 100000 60 3 [.agg [.bool false, .bool false, .bool false, .bool true, .bool true, .bool true, .bool true]] (.mk .leaf 6 6) (fin 6) = .yes := by kernel_rfl
end Go.Proofs.YtnhbkfelfhhgjaaGreatDoor
