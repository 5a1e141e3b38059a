/- Law gossamerlaw28.EsmFormats: its cases, part 7. -/
import Derived.Test.YtkglgkpegledoaaGreatDoorFin
set_option linter.unusedVariables false
set_option maxRecDepth 100000
namespace Go.Proofs.YtkglgkpegledoaaGreatDoor
open Go Go.Proofs Go.RowKit Go.Ev
theorem esmFormats_c48 : @callK (slI [(0, 8, 6), (1, 4, 0)]) Tryz.prog X1 100000 60 3 [.sym 0, .sym 1, .bool false] (.mk .leaf 6 6) (fin 6) = .yes := by kernel_rfl
theorem esmFormats_c49 : @callK (slI [(0, 8, 6), (1, 4, 0)]) Tryz.prog X1 100000 60 3 [.sym 0, .sym 1, .bool true] (.mk .leaf 6 6) (fin 6) = .yes := by kernel_rfl
theorem esmFormats_c50 : @callK (slI [(0, 8, 6), (1, 4, 1)]) Tryz.prog X1 100000 60 3 [.sym 0, .sym 1, .bool false] (.mk .leaf 6 6) (fin 6) = .yes := by kernel_rfl
theorem esmFormats_c51 : @callK (slI [(0, 8, 6), (1, 4, 1)]) Tryz.prog X1 100000 60 3 [.sym 0, .sym 1, .bool true] (.mk .leaf 6 6) (fin 6) = .yes := by kernel_rfl
theorem esmFormats_c52 : @callK (slI [(0, 8, 6), (1, 4, 2)]) Tryz.prog X1 100000 60 3 [.sym 0, .sym 1, .bool false] (.mk .leaf 6 6) (fin 6) = .yes := by kernel_rfl
theorem esmFormats_c53 : @callK (slI [(0, 8, 6), (1, 4, 2)]) Tryz.prog X1 100000 60 3 [.sym 0, .sym 1, .bool true] (.mk .leaf 6 6) (fin 6) = .yes := by kernel_rfl
theorem esmFormats_c54 : @callK (slI [(0, 8, 6), (1, 4, 3)]) Tryz.prog X1 100000 60 3 [.sym 0, .sym 1, .bool false] (.mk .leaf 6 6) (fin 6) = .yes := by kernel_rfl
theorem esmFormats_c55 : @callK (slI [(0, 8, 6), (1, 4, 3)]) Tryz.prog X1 100000 60 3 [.sym 0, .sym 1, .bool true] (.mk .leaf 6 6) (fin 6) = .yes := by kernel_rfl
end Go.Proofs.YtkglgkpegledoaaGreatDoor
