/- Law gossamerlaw29.CjsTries: its cases, part 4. -/
import Derived.Test.YtnhbkfelfhhgjaaGreatDoorFin
set_option linter.unusedVariables false
set_option maxRecDepth 100000
namespace Go.Proofs.YtnhbkfelfhhgjaaGreatDoor
open Go Go.Proofs Go.RowKit Go.Ev
theorem cjsTries_c48 : @callK (slI []) Tryz.prog X1 100000 60 3 [.agg [.bool false, .bool true, .bool true, .bool false, .bool false, .bool false, .bool false]] (.mk .leaf 6 6) (fin 6) = .yes := by kernel_rfl
theorem cjsTries_c49 : @callK (slI []) Tryz.prog X1 100000 60 3 [.agg [.bool false, .bool true, .bool true, .bool false, .bool false, .bool false, .bool true]] (.mk .leaf 6 6) (fin 6) = .yes := by kernel_rfl
theorem cjsTries_c50 : @callK (slI []) Tryz.prog X1 100000 60 3 [.agg [.bool false, .bool true, .bool true, .bool false, .bool false, .bool true, .bool false]] (.mk .leaf 6 6) (fin 6) = .yes := by kernel_rfl
theorem cjsTries_c51 : @callK (slI []) Tryz.prog X1 100000 60 3 [.agg [.bool false, .bool true, .bool true, .bool false, .bool false, .bool true, .bool true]] (.mk .leaf 6 6) (fin 6) = .yes := by kernel_rfl
theorem cjsTries_c52 : @callK (slI []) Tryz.prog X1 100000 60 3 [.agg [.bool false, .bool true, .bool true, .bool false, .bool true, .bool false, .bool false]] (.mk .leaf 6 6) (fin 6) = .yes := by kernel_rfl
theorem cjsTries_c53 : @callK (slI []) Tryz.prog X1 100000 60 3 [.agg [.bool false, .bool true, .bool true, .bool false, .bool true, .bool false, .bool true]] (.mk .leaf 6 6) (fin 6) = .yes := by kernel_rfl
theorem cjsTries_c54 : @callK (slI []) Tryz.prog X1 100000 60 3 [.agg [.bool false, .bool true, .bool true, .bool false, .bool true, .bool true, .bool false]] (.mk .leaf 6 6) (fin 6) = .yes := by kernel_rfl
theorem cjsTries_c55 : @callK (slI []) Tryz.prog X1 100000 60 3 [.agg [.bool false, .bool true, .bool true, .bool false, .bool true, .bool true, .bool true]] (.mk .leaf 6 6) (fin 6) = .yes := by kernel_rfl
theorem cjsTries_c56 : @callK (slI []) Tryz.prog X1 100000 60 3 [.agg [.bool false, .bool true, .bool true, .bool true, .bool false, .bool false, .bool false]] (.mk .leaf 6 6) (fin 6) = .yes := by kernel_rfl
theorem cjsTries_c57 : @callK (slI []) Tryz.prog X1 100000 60 3 [.agg [.bool false, .bool true, .bool true, .bool true, .bool false, .bool false, .bool true]] (.mk .leaf 6 6) (fin 6) = .yes := by kernel_rfl
theorem cjsTries_c58 : @callK (slI []) Tryz.prog X1 100000 60 3 [.agg [.bool false, .bool true, .bool true, .bool true, .bool false, .bool true, .bool false]] (.mk .leaf 6 6) (fin 6) = .yes := by kernel_rfl
theorem cjsTries_c59 : @callK (slI []) Tryz.prog X1 100000 60 3 [.agg [.bool false, .bool true, .bool true, .bool true, .bool false, .bool true, .bool true]] (.mk .leaf 6 6) (fin 6) = .yes := by kernel_rfl
theorem cjsTries_c60 : @callK (slI []) Tryz.prog X1 100000 60 3 [.agg [.bool false, .bool true, .bool true, .bool true, .bool true, .bool false, .bool false]] (.mk .leaf 6 6) (fin 6) = .yes := by kernel_rfl
theorem cjsTries_c61 : @callK (slI []) Tryz.prog X1 100000 60 3 [.agg [.bool false, .bool true, .bool true, .bool true, .bool true, .bool false, .bool true]] (.mk .leaf 6 6) (fin 6) = .yes := by kernel_rfl
theorem cjsTries_c62 : @callK (slI []) Tryz.prog X1 100000 60 3 [.agg [.bool false, .bool true, .bool true, .bool true, .bool true, .bool true, .bool false]] (.mk .leaf 6 6) (fin 6) = .yes := by kernel_rfl
theorem cjsTries_c63 : @callK (slI []) Tryz.prog X1 100000 60 3 [.agg [.bool false, .bool true, .bool true, .bool true, .bool true, .bool true, .bool true]] (.mk .leaf 6 6) (fin 6) = .yes := by kernel_rfl
end Go.Proofs.YtnhbkfelfhhgjaaGreatDoor
