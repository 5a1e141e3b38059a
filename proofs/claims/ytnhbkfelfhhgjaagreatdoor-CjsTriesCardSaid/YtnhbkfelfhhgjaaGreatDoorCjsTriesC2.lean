/- Law gossamerlaw29.CjsTries: its cases, part 3. -/
import Derived.Test.YtnhbkfelfhhgjaaGreatDoorFin
set_option linter.unusedVariables false
set_option maxRecDepth 100000
namespace Go.Proofs.YtnhbkfelfhhgjaaGreatDoor
open Go Go.Proofs Go.RowKit Go.Ev
theorem cjsTries_c32 : @callK (slI []) Tryz.prog X1 100000 60 3 [.agg [.bool false, .bool true, .bool false, .bool false, .bool false, .bool false, .bool false]] (.mk .leaf 6 6) (fin 6) = .yes := by kernel_rfl
theorem cjsTries_c33 : @callK (slI []) Tryz.prog X1 100000 60 3 [.agg [.bool false, .bool true, .bool false, .bool false, .bool false, .bool false, .bool true]] (.mk .leaf 6 6) (fin 6) = .yes := by kernel_rfl
theorem cjsTries_c34 : @callK (slI []) Tryz.prog X1 100000 60 3 [.agg [.bool false, .bool true, .bool false, .bool false, .bool false, .bool true, .bool false]] (.mk .leaf 6 6) (fin 6) = .yes := by kernel_rfl
theorem cjsTries_c35 : @callK (slI []) Tryz.prog X1 100000 60 3 [.agg [.bool false, .bool true, .bool false, .bool false, .bool false, .bool true, .bool true]] (.mk .leaf 6 6) (fin 6) = .yes := by kernel_rfl
theorem cjsTries_c36 : @callK (slI []) Tryz.prog X1 100000 60 3 [.agg [.bool false, .bool true, .bool false, .bool false, .bool true, .bool false, .bool false]] (.mk .leaf 6 6) (fin 6) = .yes := by kernel_rfl
theorem cjsTries_c37 : @callK (slI []) Tryz.prog X1 100000 60 3 [.agg [.bool false, .bool true, .bool false, .bool false, .bool true, .bool false, .bool true]] (.mk .leaf 6 6) (fin 6) = .yes := by kernel_rfl
theorem cjsTries_c38 : @callK (slI []) Tryz.prog X1 100000 60 3 [.agg [.bool false, .bool true, .bool false, .bool false, .bool true, .bool true, .bool false]] (.mk .leaf 6 6) (fin 6) = .yes := by kernel_rfl
theorem cjsTries_c39 : @callK (slI []) Tryz.prog X1 100000 60 3 [.agg [.bool false, .bool true, .bool false, .bool false, .bool true, .bool true, .bool true]] (.mk .leaf 6 6) (fin 6) = .yes := by kernel_rfl
theorem cjsTries_c40 : @callK (slI []) Tryz.prog X1 100000 60 3 [.agg [.bool false, .bool true, .bool false, .bool true, .bool false, .bool false, .bool false]] (.mk .leaf 6 6) (fin 6) = .yes := by kernel_rfl
theorem cjsTries_c41 : @callK (slI []) Tryz.prog X1 100000 60 3 [.agg [.bool false, .bool true, .bool false, .bool true, .bool false, .bool false, .bool true]] (.mk .leaf 6 6) (fin 6) = .yes := by kernel_rfl
theorem cjsTries_c42 : @callK (slI []) Tryz.prog X1 100000 60 3 [.agg [.bool false, .bool true, .bool false, .bool true, .bool false, .bool true, .bool false]] (.mk .leaf 6 6) (fin 6) = .yes := by kernel_rfl
theorem cjsTries_c43 : @callK (slI []) Tryz.prog X1 100000 60 3 [.agg [.bool false, .bool true, .bool false, .bool true, .bool false, .bool true, .bool true]] (.mk .leaf 6 6) (fin 6) = .yes := by kernel_rfl
theorem cjsTries_c44 : @callK (slI []) Tryz.prog X1 100000 60 3 [.agg [.bool false, .bool true, .bool false, .bool true, .bool true, .bool false, .bool false]] (.mk .leaf 6 6) (fin 6) = .yes := by kernel_rfl
theorem cjsTries_c45 : @callK (slI []) Tryz.prog X1 100000 60 3 [.agg [.bool false, .bool true, .bool false, .bool true, .bool true, .bool false, .bool true]] (.mk .leaf 6 6) (fin 6) = .yes := by kernel_rfl
theorem cjsTries_c46 : @callK (slI []) Tryz.prog X1 100000 60 3 [.agg [.bool false, .bool true, .bool false, .bool true, .bool true, .bool true, .bool false]] (.mk .leaf 6 6) (fin 6) = .yes := by kernel_rfl
theorem cjsTries_c47 : @callK (slI []) Tryz.prog X1 100000 60 3 [.agg [.bool false, .bool true, .bool false, .bool true, .bool true, .bool true, .bool true]] (.mk .leaf 6 6) (fin 6) = .yes := by kernel_rfl
end Go.Proofs.YtnhbkfelfhhgjaaGreatDoor
