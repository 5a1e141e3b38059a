/- Law gossamerlaw21.MergeUsed: its cases, part 4. -/
import Derived.Test.YtimjohipkefnbaaGreatFin
set_option linter.unusedVariables false
set_option maxRecDepth 100000
namespace Go.Proofs.YtimjohipkefnbaaGreat
open Go Go.Proofs Go.RowKit Go.Ev
theorem mergeUsed_c27 : @callK (slI [(0, 3, 2), (1, 11, 5)]) Tryz.prog X1 100000 60 3 [.sym 0, .sym 1] (.mk .leaf 1 1) (fin 1) = .yes := by kernel_rfl
theorem mergeUsed_c28 : @callK (slI [(0, 3, 2), (1, 11, 6)]) Tryz.prog X1 100000 60 3 [.sym 0, .sym 1] (.mk .leaf 1 1) (fin 1) = .yes := by kernel_rfl
theorem mergeUsed_c29 : @callK (slI [(0, 3, 2), (1, 11, 7)]) Tryz.prog X1 100000 60 3 [.sym 0, .sym 1] (.mk .leaf 1 1) (fin 1) = .yes := by kernel_rfl
theorem mergeUsed_c30 : @callK (slI [(0, 3, 2), (1, 11, 8)]) Tryz.prog X1 100000 60 3 [.sym 0, .sym 1] (.mk .leaf 1 1) (fin 1) = .yes := by kernel_rfl
theorem mergeUsed_c31 : @callK (slI [(0, 3, 2), (1, 11, 9)]) Tryz.prog X1 100000 60 3 [.sym 0, .sym 1] (.mk .leaf 1 1) (fin 1) = .yes := by kernel_rfl
theorem mergeUsed_c32 : @callK (slI [(0, 3, 2), (1, 11, 10)]) Tryz.prog X1 100000 60 3 [.sym 0, .sym 1] (.mk .leaf 1 1) (fin 1) = .yes := by kernel_rfl
end Go.Proofs.YtimjohipkefnbaaGreat
