/- Law gossamerlaw29.CjsTries: its cases, part 2. -/
import Derived.Test.YtnhbkfelfhhgjaaGreatDoorFin
set_option linter.unusedVariables false
set_option maxRecDepth 100000
namespace Go.Proofs.YtnhbkfelfhhgjaaGreatDoor
open Go Go.Proofs Go.RowKit Go.Ev
theorem cjsTries_c16 : @callK (slI []) Tryz.prog X1 100000 60 3 [.agg [.bool false, .bool false, .bool true, .bool false, .bool false, .bool false, .bool false]] (.mk .leaf 6 6) (fin 6) = .yes := by kernel_rfl
theorem cjsTries_c17 : @callK (slI []) Tryz.prog X1 100000 60 3 [.agg [.bool false, .bool false, .bool true, .bool false, .bool false, .bool false, .bool true]] (.mk .leaf 6 6) (fin 6) = .yes := by kernel_rfl
theorem cjsTries_c18 : @callK (slI []) Tryz.prog X1 100000 60 3 [.agg [.bool false, .bool false, .bool true, .bool false, .bool false, .bool true, .bool false]] (.mk .leaf 6 6) (fin 6) = .yes := by kernel_rfl
theorem cjsTries_c19 : @callK (slI []) Tryz.prog X1 100000 60 3 [.agg [.bool false, .bool false, .bool true, .bool false, .bool false, .bool true, .bool true]] (.mk .leaf 6 6) (fin 6) = .yes := by kernel_rfl
theorem cjsTries_c20 : @callK (slI []) Tryz.prog X1 100000 60 3 [.agg [.bool false, .bool false, .bool true, .bool false, .bool true, .bool false, .bool false]] (.mk .leaf 6 6) (fin 6) = .yes := by kernel_rfl
theorem cjsTries_c21 : @callK (slI []) Tryz.prog X1 100000 60 3 [.agg [.bool false, .bool false, .bool true, .bool false, .bool true, .bool false, .bool true]] (.mk .leaf 6 6) (fin 6) = .yes := by kernel_rfl
theorem cjsTries_c22 : @callK (slI []) Tryz.prog X1 100000 60 3 [.agg [.bool false, .bool false, .bool true, .bool false, .bool true, .bool true, .bool false]] (.mk .leaf 6 6) (fin 6) = .yes := by kernel_rfl
theorem cjsTries_c23 : @callK (slI []) Tryz.prog X1 100000 60 3 [.agg [.bool false, .bool false, .bool true, .bool false, .bool true, .bool true, .bool true]] (.mk .leaf 6 6) (fin 6) = .yes := by kernel_rfl
theorem cjsTries_c24 : @callK (slI []) Tryz.prog X1 100000 60 3 [.agg [.bool false, .bool false, .bool true, .bool true, .bool false, .bool false, .bool false]] (.mk .leaf 6 6) (fin 6) = .yes := by kernel_rfl
theorem cjsTries_c25 : @callK (slI []) Tryz.prog X1 100000 60 3 [.agg [.bool false, .bool false, .bool true, .bool true, .bool false, .bool false, .bool true]] (.mk .leaf 6 6) (fin 6) = .yes := by kernel_rfl
theorem cjsTries_c26 : @callK (slI []) Tryz.prog X1 100000 60 3 [.agg [.bool false, .bool false, .bool true, .bool true, .bool false, .bool true, .bool false]] (.mk .leaf 6 6) (fin 6) = .yes := by kernel_rfl
theorem cjsTries_c27 : @callK (slI []) Tryz.prog X1 100000 60 3 [.agg [.bool false, .bool false, .bool true, .bool true, .bool false, .bool true, .bool true]] (.mk .leaf 6 6) (fin 6) = .yes := by kernel_rfl
theorem cjsTries_c28 : @callK (slI []) Tryz.prog X1 100000 60 3 [.agg [.bool false, .bool false, .bool true, .bool true, .bool true, .bool false, .bool false]] (.mk .leaf 6 6) (fin 6) = .yes := by kernel_rfl
theorem cjsTries_c29 : @callK (slI []) Tryz.prog X1 100000 60 3 [.agg [.bool false, .bool false, .bool true, .bool true, .bool true, .bool false, .bool true]] (.mk .leaf 6 6) (fin 6) = .yes := by kernel_rfl
theorem cjsTries_c30 : @callK (slI []) Tryz.prog X1 100000 60 3 [.agg [.bool false, .bool false, .bool true, .bool true, .bool true, .bool true, .bool false]] (.mk .leaf 6 6) (fin 6) = .yes := by kernel_rfl
theorem cjsTries_c31 : @callK (slI []) Tryz.prog X1 100000 60 3 [.agg [.bool false, .bool false, .bool true, .bool true, .bool true, .bool true, .bool true]] (.mk .leaf 6 6) (fin 6) = .yes := by kernel_rfl
end Go.Proofs.YtnhbkfelfhhgjaaGreatDoor
