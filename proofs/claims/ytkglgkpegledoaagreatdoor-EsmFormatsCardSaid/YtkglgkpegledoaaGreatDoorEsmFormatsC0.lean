/- Law gossamerlaw28.EsmFormats: its cases, part 1. -/
import Derived.Test.YtkglgkpegledoaaGreatDoorFin
set_option linter.unusedVariables false
set_option maxRecDepth 100000
namespace Go.Proofs.YtkglgkpegledoaaGreatDoor
open Go Go.Proofs Go.RowKit Go.Ev
theorem esmFormats_c0 : @callK (slI [(0, 8, 0), (1, 4, 0)]) Tryz.prog X1 100000 60 3 [.sym 0, .sym 1, .bool false] (.mk .leaf 6 6) (fin 6) = .yes := by kernel_rfl
theorem esmFormats_c1 : @callK (slI [(0, 8, 0), (1, 4, 0)]) Tryz.prog X1 100000 60 3 [.sym 0, .sym 1, .bool true] (.mk .leaf 6 6) (fin 6) = .yes := by kernel_rfl
theorem esmFormats_c2 : @callK (slI [(0, 8, 0), (1, 4, 1)]) Tryz.prog X1 100000 60 3 [.sym 0, .sym 1, .bool false] (.mk .leaf 6 6) (fin 6) = .yes := by kernel_rfl
theorem esmFormats_c3 : @callK (slI [(0, 8, 0), (1, 4, 1)]) Tryz.prog X1 100000 60 3 [.sym 0, .sym 1, .bool true] (.mk .leaf 6 6) (fin 6) = .yes := by kernel_rfl
theorem esmFormats_c4 : @callK (slI [(0, 8, 0), (1, 4, 2)]) Tryz.prog X1 100000 60 3 [.sym 0, .sym 1, .bool false] (.mk .leaf 6 6) (fin 6) = .yes := by kernel_rfl
theorem esmFormats_c5 : @callK (slI [(0, 8, 0), (1, 4, 2)]) Tryz.prog X1 100000 60 3 [.sym 0, .sym 1, .bool true] (.mk .leaf 6 6) (fin 6) = .yes := by kernel_rfl
theorem esmFormats_c6 : @callK (slI [(0, 8, 0), (1, 4, 3)]) Tryz.prog X1 100000 60 3 [.sym 0, .sym 1, .bool false] (.mk .leaf 6 6) (fin 6) = .yes := by kernel_rfl
theorem esmFormats_c7 : @callK (slI [(0, 8, 0), (1, 4, 3)]) Tryz.prog X1 100000 60 3 [.sym 0, .sym 1, .bool true] (.mk .leaf 6 6) (fin 6) = .yes := by kernel_rfl
end Go.Proofs.YtkglgkpegledoaaGreatDoor
