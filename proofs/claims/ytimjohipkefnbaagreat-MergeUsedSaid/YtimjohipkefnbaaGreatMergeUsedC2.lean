/- Law gossamerlaw21.MergeUsed: its cases, part 3. -/
import Derived.Test.YtimjohipkefnbaaGreatFin
set_option linter.unusedVariables false
set_option maxRecDepth 100000
namespace Go.Proofs.YtimjohipkefnbaaGreat
open Go Go.Proofs Go.RowKit Go.Ev
theorem mergeUsed_c18 : @callK (slI [(0, 3, 1), (1, 11, 7)]) Tryz.prog X1 100000 60 3 [.sym 0, .sym 1] (.mk .leaf 1 1) (fin 1) = .yes := by kernel_rfl
theorem mergeUsed_c19 : @callK (slI [(0, 3, 1), (1, 11, 8)]) Tryz.prog X1 100000 60 3 [.sym 0, .sym 1] (.mk .leaf 1 1) (fin 1) = .yes := by kernel_rfl
theorem mergeUsed_c20 : @callK (slI [(0, 3, 1), (1, 11, 9)]) Tryz.prog X1 100000 60 3 [.sym 0, .sym 1] (.mk .leaf 1 1) (fin 1) = .yes := by kernel_rfl
theorem mergeUsed_c21 : @callK (slI [(0, 3, 1), (1, 11, 10)]) Tryz.prog X1 100000 60 3 [.sym 0, .sym 1] (.mk .leaf 1 1) (fin 1) = .yes := by kernel_rfl
theorem mergeUsed_c22 : @callK (slI [(0, 3, 2), (1, 11, 0)]) Tryz.prog X1 100000 60 3 [.sym 0, .sym 1] (.mk .leaf 1 1) (fin 1) = .yes := by kernel_rfl
theorem mergeUsed_c23 : @callK (slI [(0, 3, 2), (1, 11, 1)]) Tryz.prog X1 100000 60 3 [.sym 0, .sym 1] (.mk .leaf 1 1) (fin 1) = .yes := by kernel_rfl
theorem mergeUsed_c24 : @callK (slI [(0, 3, 2), (1, 11, 2)]) Tryz.prog X1 100000 60 3 [.sym 0, .sym 1] (.mk .leaf 1 1) (fin 1) = .yes := by kernel_rfl
theorem mergeUsed_c25 : @callK (slI [(0, 3, 2), (1, 11, 3)]) Tryz.prog X1 100000 60 3 [.sym 0, .sym 1] (.mk .leaf 1 1) (fin 1) = .yes := by kernel_rfl
theorem mergeUsed_c26 : @callK (slI [(0, 3, 2), (1, 11, 4)]) Tryz.prog X1 100000 60 3 [.sym 0, .sym 1] (.mk .leaf 1 1) (fin 1) = .yes := by kernel_rfl
end Go.Proofs.YtimjohipkefnbaaGreat
