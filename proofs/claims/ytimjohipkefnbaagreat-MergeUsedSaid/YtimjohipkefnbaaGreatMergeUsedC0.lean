/- Law gossamerlaw21.MergeUsed: its cases, part 1. -/
import Derived.Test.YtimjohipkefnbaaGreatFin
set_option linter.unusedVariables false
set_option maxRecDepth 100000
namespace Go.Proofs.YtimjohipkefnbaaGreat
open Go Go.Proofs Go.RowKit Go.Ev
theorem mergeUsed_c0 : @callK (slI [(0, 3, 0), (1, 11, 0)]) Tryz.prog X1 100000 60 3 [.sym 0, .sym 1] (.mk .leaf 1 1) (fin 1) = .yes := by kernel_rfl
theorem mergeUsed_c1 : @callK (slI [(0, 3, 0), (1, 11, 1)]) Tryz.prog X1 100000 60 3 [.sym 0, .sym 1] (.mk .leaf 1 1) (fin 1) = .yes := by kernel_rfl
theorem mergeUsed_c2 : @callK (slI [(0, 3, 0), (1, 11, 2)]) Tryz.prog X1 100000 60 3 [.sym 0, .sym 1] (.mk .leaf 1 1) (fin 1) = .yes := by kernel_rfl
theorem mergeUsed_c3 : @callK (slI [(0, 3, 0), (1, 11, 3)]) Tryz.prog X1 100000 60 3 [.sym 0, .sym 1] (.mk .leaf 1 1) (fin 1) = .yes := by kernel_rfl
theorem mergeUsed_c4 : @callK (slI [(0, 3, 0), (1, 11, 4)]) Tryz.prog X1 100000 60 3 [.sym 0, .sym 1] (.mk .leaf 1 1) (fin 1) = .yes := by kernel_rfl
theorem mergeUsed_c5 : @callK (slI [(0, 3, 0), (1, 11, 5)]) Tryz.prog X1 100000 60 3 [.sym 0, .sym 1] (.mk .leaf 1 1) (fin 1) = .yes := by kernel_rfl
theorem mergeUsed_c6 : @callK (slI [(0, 3, 0), (1, 11, 6)]) Tryz.prog X1 100000 60 3 [.sym 0, .sym 1] (.mk .leaf 1 1) (fin 1) = .yes := by kernel_rfl
theorem mergeUsed_c7 : @callK (slI [(0, 3, 0), (1, 11, 7)]) Tryz.prog X1 100000 60 3 [.sym 0, .sym 1] (.mk .leaf 1 1) (fin 1) = .yes := by kernel_rfl
theorem mergeUsed_c8 : @callK (slI [(0, 3, 0), (1, 11, 8)]) Tryz.prog X1 100000 60 3 [.sym 0, .sym 1] (.mk .leaf 1 1) (fin 1) = .yes := by kernel_rfl
end Go.Proofs.YtimjohipkefnbaaGreat
