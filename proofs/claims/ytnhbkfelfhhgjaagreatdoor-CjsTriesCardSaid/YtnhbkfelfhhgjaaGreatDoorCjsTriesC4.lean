/- Law gossamerlaw29.CjsTries: its cases, part 5. -/
import Derived.Test.YtnhbkfelfhhgjaaGreatDoorFin
set_option linter.unusedVariables false
set_option maxRecDepth 100000
namespace Go.Proofs.YtnhbkfelfhhgjaaGreatDoor
open Go Go.Proofs Go.RowKit Go.Ev
theorem cjsTries_c64 : @callK (slI []) Tryz.prog X1 100000 60 3 [.agg [.bool true, .bool false, .bool false, .bool false, .bool false, .bool false, .bool false]] (.mk .leaf 6 6) (fin 6) = .yes := by kernel_rfl
theorem cjsTries_c65 : @callK (slI []) Tryz.prog X1 100000 60 3 [.agg [.bool true, .bool false, .bool false, .bool false, .bool false, .bool false, .bool true]] (.mk .leaf 6 6) (fin 6) = .yes := by kernel_rfl
theorem cjsTries_c66 : @callK (slI []) Tryz.prog X1 100000 60 3 [.agg [.bool true, .bool false, .bool false, .bool false, .bool false, .bool true, .bool false]] (.mk .leaf 6 6) (fin 6) = .yes := by kernel_rfl
theorem cjsTries_c67 : @callK (slI []) Tryz.prog X1 100000 60 3 [.agg [.bool true, .bool false, .bool false, .bool false, .bool false, .bool true, .bool true]] (.mk .leaf 6 6) (fin 6) = .yes := by kernel_rfl
theorem cjsTries_c68 : @callK (slI []) Tryz.prog X1 100000 60 3 [.agg [.bool true, .bool false, .bool false, .bool false, .bool true, .bool false, .bool false]] (.mk .leaf 6 6) (fin 6) = .yes := by kernel_rfl
theorem cjsTries_c69 : @callK (slI []) Tryz.prog X1 100000 60 3 [.agg [.bool true, .bool false, .bool false, .bool false, .bool true, .bool false, .bool true]] (.mk .leaf 6 6) (fin 6) = .yes := by kernel_rfl
theorem cjsTries_c70 : @callK (slI []) Tryz.prog X1 100000 60 3 [.agg [.bool true, .bool false, .bool false, .bool false, .bool true, .bool true, .bool false]] (.mk .leaf 6 6) (fin 6) = .yes := by kernel_rfl
theorem cjsTries_c71 : @callK (slI []) Tryz.prog X1 100000 60 3 [.agg [.bool true, .bool false, .bool false, .bool false, .bool true, .bool true, .bool true]] (.mk .leaf 6 6) (fin 6) = .yes := by kernel_rfl
theorem cjsTries_c72 : @callK (slI []) Tryz.prog X1 100000 60 3 [.agg [.bool true, .bool false, .bool false, .bool true, .bool false, .bool false, .bool false]] (.mk .leaf 6 6) (fin 6) = .yes := by kernel_rfl
theorem cjsTries_c73 : @callK (slI []) Tryz.prog X1 100000 60 3 [.agg [.bool true, .bool false, .bool false, .bool true, .bool false, .bool false, .bool true]] (.mk .leaf 6 6) (fin 6) = .yes := by kernel_rfl
theorem cjsTries_c74 : @callK (slI []) Tryz.prog X1 100000 60 3 [.agg [.bool true, .bool false, .bool false, .bool true, .bool false, .bool true, .bool false]] (.mk .leaf 6 6) (fin 6) = .yes := by kernel_rfl
theorem cjsTries_c75 : @callK (slI []) Tryz.prog X1 100000 60 3 [.agg [.bool true, .bool false, .bool false, .bool true, .bool false, .bool true, .bool true]] (.mk .leaf 6 6) (fin 6) = .yes := by kernel_rfl
theorem cjsTries_c76 : @callK (slI []) Tryz.prog X1 100000 60 3 [.agg [.bool true, .bool false, .bool false, .bool true, .bool true, .bool false, .bool false]] (.mk .leaf 6 6) (fin 6) = .yes := by kernel_rfl
theorem cjsTries_c77 : @callK (slI []) Tryz.prog X1 100000 60 3 [.agg [.bool true, .bool false, .bool false, .bool true, .bool true, .bool false, .bool true]] (.mk .leaf 6 6) (fin 6) = .yes := by kernel_rfl
theorem cjsTries_c78 : @callK (slI []) Tryz.prog X1 100000 60 3 [.agg [.bool true, .bool false, .bool false, .bool true, .bool true, .bool true, .bool false]] (.mk .leaf 6 6) (fin 6) = .yes := by kernel_rfl
theorem cjsTries_c79 : @callK (slI []) Tryz.prog X1 100000 60 3 [.agg [.bool true, .bool false, .bool false, .bool true, .bool true, .bool true, .bool true]] (.mk .leaf 6 6) (fin 6) = .yes := by kernel_rfl
end Go.Proofs.YtnhbkfelfhhgjaaGreatDoor
