/- Law gossamerlaw16.LinkUps: its cases, part 1. -/
import Derived.Test.YtniednnklbdciaaDoorFin
set_option linter.unusedVariables false
set_option maxRecDepth 100000
namespace Go.Proofs.YtniednnklbdciaaDoor
open Go Go.Proofs Go.RowKit Go.Ev
theorem linkUps_c0 : @callK (slI [(0, 5, 0)]) Tryd.prog X1 100000 60 3 [.sym 0] (.mk .leaf 3 3) (fin 3) = .yes := by kernel_rfl
theorem linkUps_c1 : @callK (slI [(0, 5, 1)]) Tryd.prog X1 100000 60 3 [.sym 0] (.mk .leaf 3 3) (fin 3) = .yes := by kernel_rfl
theorem linkUps_c2 : @callK (slI [(0, 5, 2)]) Tryd.prog X1 100000 60 3 [.sym 0] (.mk .leaf 3 3) (fin 3) = .yes := by kernel_rfl
theorem linkUps_c3 : @callK (slI [(0, 5, 3)]) Tryd.prog X1 100000 60 3 [.sym 0] (.mk .leaf 3 3) (fin 3) = .yes := by kernel_rfl
theorem linkUps_c4 : @callK (slI [(0, 5, 4)]) Tryd.prog X1 100000 60 3 [.sym 0] (.mk .leaf 3 3) (fin 3) = .yes := by kernel_rfl
end Go.Proofs.YtniednnklbdciaaDoor
