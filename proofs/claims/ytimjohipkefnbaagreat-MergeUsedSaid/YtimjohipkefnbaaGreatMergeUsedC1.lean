/- Law gossamerlaw21.MergeUsed: its cases, part 2. -/
import Derived.Test.YtimjohipkefnbaaGreatFin
set_option linter.unusedVariables false
set_option maxRecDepth 100000
namespace Go.Proofs.YtimjohipkefnbaaGreat
open Go Go.Proofs Go.RowKit Go.Ev
theorem mergeUsed_c9 : @callK (slI [(0, 3, 0), (1, 11, 9)]) Tryz.prog X1 100000 60 3 [.sym 0, .sym 1] (.mk .leaf 1 1) (fin 1) = .yes := by kernel_rfl
theorem mergeUsed_c10 : @callK (slI [(0, 3, 0), (1, 11, 10)]) Tryz.prog X1 100000 60 3 [.sym 0, .sym 1] (.mk .leaf 1 1) (fin 1) = .yes := by kernel_rfl
theorem mergeUsed_c11 : @callK (slI [(0, 3, 1), (1, 11, 0)]) Tryz.prog X1 100000 60 3 [.sym 0, .sym 1] (.mk .leaf 1 1) (fin 1) = .yes := by kernel_rfl
theorem mergeUsed_c12 : @callK (slI [(0, 3, 1), (1, 11, 1)]) Tryz.prog X1 100000 60 3 [.sym 0, .sym 1] (.mk .leaf 1 1) (fin 1) = .yes := by kernel_rfl
theorem mergeUsed_c13 : @callK (slI [(0, 3, 1), (1, 11, 2)]) Tryz.prog X1 100000 60 3 [.sym 0, .sym 1] (.mk .leaf 1 1) (fin 1) = .yes := by kernel_rfl
theorem mergeUsed_c14 : @callK (slI [(0, 3, 1), (1, 11, 3)]) Tryz.prog X1 100000 60 3 [.sym 0, .sym 1] (.mk .leaf 1 1) (fin 1) = .yes := by kernel_rfl
theorem mergeUsed_c15 : @callK (slI [(0, 3, 1), (1, 11, 4)]) Tryz.prog X1 100000 60 3 [.sym 0, .sym 1] (.mk .leaf 1 1) (fin 1) = .yes := by kernel_rfl
theorem mergeUsed_c16 : @callK (slI [(0, 3, 1), (1, 11, 5)]) Tryz.prog X1 100000 60 3 [.sym 0, .sym 1] (.mk .leaf 1 1) (fin 1) = .yes := by kernel_rfl
theorem mergeUsed_c17 : @callK (slI [(0, 3, 1), (1, 11, 6)]) Tryz.prog X1 100000 60 3 [.sym 0, .sym 1] (.mk .leaf 1 1) (fin 1) = .yes := by kernel_rfl
end Go.Proofs.YtimjohipkefnbaaGreat
