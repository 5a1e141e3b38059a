/- Law gossamerlaw14.FileOthers: its cases, part 1. -/
import Derived.Test.YteiejlolgehgkaaGreatDoorFin
set_option linter.unusedVariables false
set_option maxRecDepth 100000
namespace Go.Proofs.YteiejlolgehgkaaGreatDoor
open Go Go.Proofs Go.RowKit Go.Ev
theorem fileOthers_c0 : @callK (slI [(0, 4, 0), (1, 3, 0)]) Tryz.prog X1 100000 60 3 [.sym 0, .sym 1] (.mk .leaf 3 3) (fin 3) = .yes := by kernel_rfl
theorem fileOthers_c1 : @callK (slI [(0, 4, 0), (1, 3, 1)]) Tryz.prog X1 100000 60 3 [.sym 0, .sym 1] (.mk .leaf 3 3) (fin 3) = .yes := by kernel_rfl
theorem fileOthers_c2 : @callK (slI [(0, 4, 0), (1, 3, 2)]) Tryz.prog X1 100000 60 3 [.sym 0, .sym 1] (.mk .leaf 3 3) (fin 3) = .yes := by kernel_rfl
theorem fileOthers_c3 : @callK (slI [(0, 4, 1), (1, 3, 0)]) Tryz.prog X1 100000 60 3 [.sym 0, .sym 1] (.mk .leaf 3 3) (fin 3) = .yes := by kernel_rfl
theorem fileOthers_c4 : @callK (slI [(0, 4, 1), (1, 3, 1)]) Tryz.prog X1 100000 60 3 [.sym 0, .sym 1] (.mk .leaf 3 3) (fin 3) = .yes := by kernel_rfl
theorem fileOthers_c5 : @callK (slI [(0, 4, 1), (1, 3, 2)]) Tryz.prog X1 100000 60 3 [.sym 0, .sym 1] (.mk .leaf 3 3) (fin 3) = .yes := by kernel_rfl
theorem fileOthers_c6 : @callK (slI [(0, 4, 2), (1, 3, 0)]) Tryz.prog X1 100000 60 3 [.sym 0, .sym 1] (.mk .leaf 3 3) (fin 3) = .yes := by kernel_rfl
theorem fileOthers_c7 : @callK (slI [(0, 4, 2), (1, 3, 1)]) Tryz.prog X1 100000 60 3 [.sym 0, .sym 1] (.mk .leaf 3 3) (fin 3) = .yes := by kernel_rfl
theorem fileOthers_c8 : @callK (slI [(0, 4, 2), (1, 3, 2)]) Tryz.prog X1 100000 60 3 [.sym 0, .sym 1] (.mk .leaf 3 3) (fin 3) = .yes := by kernel_rfl
theorem fileOthers_c9 : @callK (slI [(0, 4, 3), (1, 3, 0)]) Tryz.prog X1 100000 60 3 [.sym 0, .sym 1] (.mk .leaf 3 3) (fin 3) = .yes := by kernel_rfl
theorem fileOthers_c10 : @callK (slI [(0, 4, 3), (1, 3, 1)]) Tryz.prog X1 100000 60 3 [.sym 0, .sym 1] (.mk .leaf 3 3) (fin 3) = .yes := by kernel_rfl
theorem fileOthers_c11 : @callK (slI [(0, 4, 3), (1, 3, 2)]) Tryz.prog X1 100000 60 3 [.sym 0, .sym 1] (.mk .leaf 3 3) (fin 3) = .yes := by kernel_rfl
end Go.Proofs.YteiejlolgehgkaaGreatDoor
