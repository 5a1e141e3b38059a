/- Law gossamerlaw28.EsmFormats: its cases, part 4. -/
import Derived.Test.YtkglgkpegledoaaGreatDoorFin
set_option linter.unusedVariables false
set_option maxRecDepth 100000
namespace Go.Proofs.YtkglgkpegledoaaGreatDoor
open Go Go.Proofs Go.RowKit Go.Ev
theorem esmFormats_c24 : @callK (slI [(0, 8, 3), (1, 4, 0)]) Tryz.prog X1 100000 60 3 [.sym 0, .sym 1, .bool false] (.mk .leaf 6 6) (fin 6) = .yes := by kernel_rfl
theorem esmFormats_c25 : @callK (slI [(0, 8, 3), (1, 4, 0)]) Tryz.prog X1 100000 60 3 [.sym 0, .sym 1, .bool true] (.mk .leaf 6 6) (fin 6) = .yes := by kernel_rfl
theorem esmFormats_c26 : @callK (slI [(0, 8, 3), (1, 4, 1)]) Tryz.prog X1 100000 60 3 [.sym 0, .sym 1, .bool false] (.mk .leaf 6 6) (fin 6) = .yes := by kernel_rfl
theorem esmFormats_c27 : @callK (slI [(0, 8, 3), (1, 4, 1)]) Tryz.prog X1 100000 60 3 [.sym 0, .sym 1, .bool true] (.mk .leaf 6 6) (fin 6) = .yes := by kernel_rfl
theorem esmFormats_c28 : @callK (slI [(0, 8, 3), (1, 4, 2)]) Tryz.prog X1 100000 60 3 [.sym 0, .sym 1, .bool false] (.mk .leaf 6 6) (fin 6) = .yes := by kernel_rfl
theorem esmFormats_c29 : @callK (slI [(0, 8, 3), (1, 4, 2)]) Tryz.prog X1 100000 60 3 [.sym 0, .sym 1, .bool true] (.mk .leaf 6 6) (fin 6) = .yes := by kernel_rfl
theorem esmFormats_c30 : @callK (slI [(0, 8, 3), (1, 4, 3)]) Tryz.prog X1 100000 60 3 [.sym 0, .sym 1, .bool false] (.mk .leaf 6 6) (fin 6) = .yes := by kernel_rfl
theorem esmFormats_c31 : @callK (slI [(0, 8, 3), (1, 4, 3)]) Tryz.prog X1 100000 60 3 [.sym 0, .sym 1, .bool true] (.mk .leaf 6 6) (fin 6) = .yes := by kernel_rfl
end Go.Proofs.YtkglgkpegledoaaGreatDoor
