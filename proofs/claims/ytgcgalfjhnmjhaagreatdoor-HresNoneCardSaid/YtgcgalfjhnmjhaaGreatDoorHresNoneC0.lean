/- Law gossamerlaw20.HresNone: its cases, part 1. -/
import Derived.Test.YtgcgalfjhnmjhaaGreatDoorFin
set_option linter.unusedVariables false
set_option maxRecDepth 100000
namespace Go.Proofs.YtgcgalfjhnmjhaaGreatDoor
open Go Go.Proofs Go.RowKit Go.Ev
theorem hresNone_c0 : @callK (slI [(0, 6, 0)]) Tryz.prog X1 100000 60 4 [.sym 0] (.mk .leaf 4 4) (fin 4) = .yes := by kernel_rfl
theorem hresNone_c1 : @callK (slI [(0, 6, 1)]) Tryz.prog X1 100000 60 4 [.sym 0] (.mk .leaf 4 4) (fin 4) = .yes := by kernel_rfl
theorem hresNone_c2 : @callK (slI [(0, 6, 2)]) Tryz.prog X1 100000 60 4 [.sym 0] (.mk .leaf 4 4) (fin 4) = .yes := by kernel_rfl
theorem hresNone_c3 : @callK (slI [(0, 6, 3)]) Tryz.prog X1 100000 60 4 [.sym 0] (.mk .leaf 4 4) (fin 4) = .yes := by kernel_rfl
theorem hresNone_c4 : @callK (slI [(0, 6, 4)]) Tryz.prog X1 100000 60 4 [.sym 0] (.mk .leaf 4 4) (fin 4) = .yes := by kernel_rfl
theorem hresNone_c5 : @callK (slI [(0, 6, 5)]) Tryz.prog X1 100000 60 4 [.sym 0] (.mk .leaf 4 4) (fin 4) = .yes := by kernel_rfl
end Go.Proofs.YtgcgalfjhnmjhaaGreatDoor
