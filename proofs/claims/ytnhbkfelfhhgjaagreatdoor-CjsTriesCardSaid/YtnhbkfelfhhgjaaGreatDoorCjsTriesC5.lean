/- Law gossamerlaw29.CjsTries: its cases, part 6. -/
import Derived.Test.YtnhbkfelfhhgjaaGreatDoorFin
set_option linter.unusedVariables false
set_option maxRecDepth 100000
namespace Go.Proofs.YtnhbkfelfhhgjaaGreatDoor
open Go Go.Proofs Go.RowKit Go.Ev
theorem cjsTries_c80 : @callK (slI []) Tryz.prog X1 100000 60 3 [.agg [.bool true, .bool false, .bool true, .bool false, .bool false, .bool false, .bool false]] (.mk .leaf 6 6) (fin 6) = .yes := by kernel_rfl
theorem cjsTries_c81 : @callK (slI []) Tryz.prog X1 100000 60 3 [.agg [.bool true, .bool false, .bool true, .bool false, .bool false, .bool false, .bool true]] (.mk .leaf 6 6) (fin 6) = .yes := by kernel_rfl
theorem cjsTries_c82 : @callK (slI []) Tryz.prog X1 100000 60 3 [.agg [.bool true, .bool false, .bool true, .bool false, .bool false, .bool true, .bool false]] (.mk .leaf 6 6) (fin 6) = .yes := by kernel_rfl
theorem cjsTries_c83 : @callK (slI []) Tryz.prog X1 100000 60 3 [.agg [.bool true, .bool false, .bool true, .bool false, .bool false, .bool true, .bool true]] (.mk .leaf 6 6) (fin 6) = .yes := by kernel_rfl
theorem cjsTries_c84 : @callK (slI []) Tryz.prog X1 100000 60 3 [.agg [.bool true, .bool false, .bool true, .bool false, .bool true, .bool false, .bool false]] (.mk .leaf 6 6) (fin 6) = .yes := by kernel_rfl
theorem cjsTries_c85 : @callK (slI []) Tryz.prog X1 100000 60 3 [.agg [.bool true, .bool false, .bool true, .bool false, .bool true, .bool false, .bool true]] (.mk .leaf 6 6) (fin 6) = .yes := by kernel_rfl
theorem cjsTries_c86 : @callK (slI []) Tryz.prog X1 100000 60 3 [.agg [.bool true, .bool false, .bool true, .bool false, .bool true, .bool true, .bool false]] (.mk .leaf 6 6) (fin 6) = .yes := by kernel_rfl
theorem cjsTries_c87 : @callK (slI []) Tryz.prog X1 100000 60 3 [.agg [.bool true, .bool false, .bool true, .bool false, .bool true, .bool true, .bool true]] (.mk .leaf 6 6) (fin 6) = .yes := by kernel_rfl
theorem cjsTries_c88 : @callK (slI []) Tryz.prog X1 100000 60 3 [.agg [.bool true, .bool false, .bool true, .bool true, .bool false, .bool false, .bool false]] (.mk .leaf 6 6) (fin 6) = .yes := by kernel_rfl
theorem cjsTries_c89 : @callK (slI []) Tryz.prog X1 100000 60 3 [.agg [.bool true, .bool false, .bool true, .bool true, .bool false, .bool false, .bool true]] (.mk .leaf 6 6) (fin 6) = .yes := by kernel_rfl
theorem cjsTries_c90 : @callK (slI []) Tryz.prog X1 100000 60 3 [.agg [.bool true, .bool false, .bool true, .bool true, .bool false, .bool true, .bool false]] (.mk .leaf 6 6) (fin 6) = .yes := by kernel_rfl
theorem cjsTries_c91 : @callK (slI []) Tryz.prog X1 100000 60 3 [.agg [.bool true, .bool false, .bool true, .bool true, .bool false, .bool true, .bool true]] (.mk .leaf 6 6) (fin 6) = .yes := by kernel_rfl
theorem cjsTries_c92 : @callK (slI []) Tryz.prog X1 100000 60 3 [.agg [.bool true, .bool false, .bool true, .bool true, .bool true, .bool false, .bool false]] (.mk .leaf 6 6) (fin 6) = .yes := by kernel_rfl
theorem cjsTries_c93 : @callK (slI []) Tryz.prog X1 100000 60 3 [.agg [.bool true, .bool false, .bool true, .bool true, .bool true, .bool false, .bool true]] (.mk .leaf 6 6) (fin 6) = .yes := by kernel_rfl
theorem cjsTries_c94 : @callK (slI []) Tryz.prog X1 100000 60 3 [.agg [.bool true, .bool false, .bool true, .bool true, .bool true, .bool true, .bool false]] (.mk .leaf 6 6) (fin 6) = .yes := by kernel_rfl
theorem cjsTries_c95 : @callK (slI []) Tryz.prog X1 100000 60 3 [.agg [.bool true, .bool false, .bool true, .bool true, .bool true, .bool true, .bool true]] (.mk .leaf 6 6) (fin 6) = .yes := by kernel_rfl
end Go.Proofs.YtnhbkfelfhhgjaaGreatDoor
