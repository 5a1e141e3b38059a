/- Law gossamerlaw12.UrlDrives: its cases, part 1. -/
import Derived.Test.YtghiaehfbajidaaGreatDoorFin
set_option linter.unusedVariables false
set_option maxRecDepth 100000
namespace Go.Proofs.YtghiaehfbajidaaGreatDoor
open Go Go.Proofs Go.RowKit Go.Ev
theorem urlDrives_c0 : @callK (slI [(0, 5, 0), (1, 4, 0), (2, 5, 0)]) Tryz.prog X1 100000 60 3 [.sym 0, .bool false, .sym 1, .sym 2] (.mk .leaf 4 4) (fin 4) = .yes := by kernel_rfl
theorem urlDrives_c1 : @callK (slI [(0, 5, 0), (1, 4, 0), (2, 5, 1)]) Tryz.prog X1 100000 60 3 [.sym 0, .bool false, .sym 1, .sym 2] (.mk .leaf 4 4) (fin 4) = .yes := by kernel_rfl
theorem urlDrives_c2 : @callK (slI [(0, 5, 0), (1, 4, 0), (2, 5, 2)]) Tryz.prog X1 100000 60 3 [.sym 0, .bool false, .sym 1, .sym 2] (.mk .leaf 4 4) (fin 4) = .yes := by kernel_rfl
theorem urlDrives_c3 : @callK (slI [(0, 5, 0), (1, 4, 0), (2, 5, 3)]) Tryz.prog X1 100000 60 3 [.sym 0, .bool false, .sym 1, .sym 2] (.mk .leaf 4 4) (fin 4) = .yes := by kernel_rfl
theorem urlDrives_c4 : @callK (slI [(0, 5, 0), (1, 4, 0), (2, 5, 4)]) Tryz.prog X1 100000 60 3 [.sym 0, .bool false, .sym 1, .sym 2] (.mk .leaf 4 4) (fin 4) = .yes := by kernel_rfl
theorem urlDrives_c5 : @callK (slI [(0, 5, 0), (1, 4, 1), (2, 5, 0)]) Tryz.prog X1 100000 60 3 [.sym 0, .bool false, .sym 1, .sym 2] (.mk .leaf 4 4) (fin 4) = .yes := by kernel_rfl
theorem urlDrives_c6 : @callK (slI [(0, 5, 0), (1, 4, 1), (2, 5, 1)]) Tryz.prog X1 100000 60 3 [.sym 0, .bool false, .sym 1, .sym 2] (.mk .leaf 4 4) (fin 4) = .yes := by kernel_rfl
theorem urlDrives_c7 : @callK (slI [(0, 5, 0), (1, 4, 1), (2, 5, 2)]) Tryz.prog X1 100000 60 3 [.sym 0, .bool false, .sym 1, .sym 2] (.mk .leaf 4 4) (fin 4) = .yes := by kernel_rfl
theorem urlDrives_c8 : @callK (slI [(0, 5, 0), (1, 4, 1), (2, 5, 3)]) Tryz.prog X1 100000 60 3 [.sym 0, .bool false, .sym 1, .sym 2] (.mk .leaf 4 4) (fin 4) = .yes := by kernel_rfl
theorem urlDrives_c9 : @callK (slI [(0, 5, 0), (1, 4, 1), (2, 5, 4)]) Tryz.prog X1 100000 60 3 [.sym 0, .bool false, .sym 1, .sym 2] (.mk .leaf 4 4) (fin 4) = .yes := by kernel_rfl
theorem urlDrives_c10 : @callK (slI [(0, 5, 0), (1, 4, 2), (2, 5, 0)]) Tryz.prog X1 100000 60 3 [.sym 0, .bool false, .sym 1, .sym 2] (.mk .leaf 4 4) (fin 4) = .yes := by kernel_rfl
theorem urlDrives_c11 : @callK (slI [(0, 5, 0), (1, 4, 2), (2, 5, 1)]) Tryz.prog X1 100000 60 3 [.sym 0, .bool false, .sym 1, .sym 2] (.mk .leaf 4 4) (fin 4) = .yes := by kernel_rfl
theorem urlDrives_c12 : @callK (slI [(0, 5, 0), (1, 4, 2), (2, 5, 2)]) Tryz.prog X1 100000 60 3 [.sym 0, .bool false, .sym 1, .sym 2] (.mk .leaf 4 4) (fin 4) = .yes := by kernel_rfl
theorem urlDrives_c13 : @callK (slI [(0, 5, 0), (1, 4, 2), (2, 5, 3)]) Tryz.prog X1 100000 60 3 [.sym 0, .bool false, .sym 1, .sym 2] (.mk .leaf 4 4) (fin 4) = .yes := by kernel_rfl
theorem urlDrives_c14 : @callK (slI [(0, 5, 0), (1, 4, 2), (2, 5, 4)]) Tryz.prog X1 100000 60 3 [.sym 0, .bool false, .sym 1, .sym 2] (.mk .leaf 4 4) (fin 4) = .yes := by kernel_rfl
theorem urlDrives_c15 : @callK (slI [(0, 5, 0), (1, 4, 3), (2, 5, 0)]) Tryz.prog X1 100000 60 3 [.sym 0, .bool false, .sym 1, .sym 2] (.mk .leaf 4 4) (fin 4) = .yes := by kernel_rfl
theorem urlDrives_c16 : @callK (slI [(0, 5, 0), (1, 4, 3), (2, 5, 1)]) Tryz.prog X1 100000 60 3 [.sym 0, .bool false, .sym 1, .sym 2] (.mk .leaf 4 4) (fin 4) = .yes := by kernel_rfl
theorem urlDrives_c17 : @callK (slI [(0, 5, 0), (1, 4, 3), (2, 5, 2)]) Tryz.prog X1 100000 60 3 [.sym 0, .bool false, .sym 1, .sym 2] (.mk .leaf 4 4) (fin 4) = .yes := by kernel_rfl
theorem urlDrives_c18 : @callK (slI [(0, 5, 0), (1, 4, 3), (2, 5, 3)]) Tryz.prog X1 100000 60 3 [.sym 0, .bool false, .sym 1, .sym 2] (.mk .leaf 4 4) (fin 4) = .yes := by kernel_rfl
theorem urlDrives_c19 : @callK (slI [(0, 5, 0), (1, 4, 3), (2, 5, 4)]) Tryz.prog X1 100000 60 3 [.sym 0, .bool false, .sym 1, .sym 2] (.mk .leaf 4 4) (fin 4) = .yes := by kernel_rfl
theorem urlDrives_c20 : @callK (slI [(0, 5, 0), (1, 4, 0), (2, 5, 0)]) Tryz.prog X1 100000 60 3 [.sym 0, .bool true, .sym 1, .sym 2] (.mk .leaf 4 4) (fin 4) = .yes := by kernel_rfl
theorem urlDrives_c21 : @callK (slI [(0, 5, 0), (1, 4, 0), (2, 5, 1)]) Tryz.prog X1 100000 60 3 [.sym 0, .bool true, .sym 1, .sym 2] (.mk .leaf 4 4) (fin 4) = .yes := by kernel_rfl
theorem urlDrives_c22 : @callK (slI [(0, 5, 0), (1, 4, 0), (2, 5, 2)]) Tryz.prog X1 100000 60 3 [.sym 0, .bool true, .sym 1, .sym 2] (.mk .leaf 4 4) (fin 4) = .yes := by kernel_rfl
theorem urlDrives_c23 : @callK (slI [(0, 5, 0), (1, 4, 0), (2, 5, 3)]) Tryz.prog X1 100000 60 3 [.sym 0, .bool true, .sym 1, .sym 2] (.mk .leaf 4 4) (fin 4) = .yes := by kernel_rfl
theorem urlDrives_c24 : @callK (slI [(0, 5, 0), (1, 4, 0), (2, 5, 4)]) Tryz.prog X1 100000 60 3 [.sym 0, .bool true, .sym 1, .sym 2] (.mk .leaf 4 4) (fin 4) = .yes := by kernel_rfl
theorem urlDrives_c25 : @callK (slI [(0, 5, 0), (1, 4, 1), (2, 5, 0)]) Tryz.prog X1 100000 60 3 [.sym 0, .bool true, .sym 1, .sym 2] (.mk .leaf 4 4) (fin 4) = .yes := by kernel_rfl
theorem urlDrives_c26 : @callK (slI [(0, 5, 0), (1, 4, 1), (2, 5, 1)]) Tryz.prog X1 100000 60 3 [.sym 0, .bool true, .sym 1, .sym 2] (.mk .leaf 4 4) (fin 4) = .yes := by kernel_rfl
theorem urlDrives_c27 : @callK (slI [(0, 5, 0), (1, 4, 1), (2, 5, 2)]) Tryz.prog X1 100000 60 3 [.sym 0, .bool true, .sym 1, .sym 2] (.mk .leaf 4 4) (fin 4) = .yes := by kernel_rfl
theorem urlDrives_c28 : @callK (slI [(0, 5, 0), (1, 4, 1), (2, 5, 3)]) Tryz.prog X1 100000 60 3 [.sym 0, .bool true, .sym 1, .sym 2] (.mk .leaf 4 4) (fin 4) = .yes := by kernel_rfl
theorem urlDrives_c29 : @callK (slI [(0, 5, 0), (1, 4, 1), (2, 5, 4)]) Tryz.prog X1 100000 60 3 [.sym 0, .bool true, .sym 1, .sym 2] (.mk .leaf 4 4) (fin 4) = .yes := by kernel_rfl
theorem urlDrives_c30 : @callK (slI [(0, 5, 0), (1, 4, 2), (2, 5, 0)]) Tryz.prog X1 100000 60 3 [.sym 0, .bool true, .sym 1, .sym 2] (.mk .leaf 4 4) (fin 4) = .yes := by kernel_rfl
theorem urlDrives_c31 : @callK (slI [(0, 5, 0), (1, 4, 2), (2, 5, 1)]) Tryz.prog X1 100000 60 3 [.sym 0, .bool true, .sym 1, .sym 2] (.mk .leaf 4 4) (fin 4) = .yes := by kernel_rfl
theorem urlDrives_c32 : @callK (slI [(0, 5, 0), (1, 4, 2), (2, 5, 2)]) Tryz.prog X1 100000 60 3 [.sym 0, .bool true, .sym 1, .sym 2] (.mk .leaf 4 4) (fin 4) = .yes := by kernel_rfl
theorem urlDrives_c33 : @callK (slI [(0, 5, 0), (1, 4, 2), (2, 5, 3)]) Tryz.prog X1 100000 60 3 [.sym 0, .bool true, .sym 1, .sym 2] (.mk .leaf 4 4) (fin 4) = .yes := by kernel_rfl
theorem urlDrives_c34 : @callK (slI [(0, 5, 0), (1, 4, 2), (2, 5, 4)]) Tryz.prog X1 100000 60 3 [.sym 0, .bool true, .sym 1, .sym 2] (.mk .leaf 4 4) (fin 4) = .yes := by kernel_rfl
theorem urlDrives_c35 : @callK (slI [(0, 5, 0), (1, 4, 3), (2, 5, 0)]) Tryz.prog X1 100000 60 3 [.sym 0, .bool true, .sym 1, .sym 2] (.mk .leaf 4 4) (fin 4) = .yes := by kernel_rfl
theorem urlDrives_c36 : @callK (slI [(0, 5, 0), (1, 4, 3), (2, 5, 1)]) Tryz.prog X1 100000 60 3 [.sym 0, .bool true, .sym 1, .sym 2] (.mk .leaf 4 4) (fin 4) = .yes := by kernel_rfl
theorem urlDrives_c37 : @callK (slI [(0, 5, 0), (1, 4, 3), (2, 5, 2)]) Tryz.prog X1 100000 60 3 [.sym 0, .bool true, .sym 1, .sym 2] (.mk .leaf 4 4) (fin 4) = .yes := by kernel_rfl
theorem urlDrives_c38 : @callK (slI [(0, 5, 0), (1, 4, 3), (2, 5, 3)]) Tryz.prog X1 100000 60 3 [.sym 0, .bool true, .sym 1, .sym 2] (.mk .leaf 4 4) (fin 4) = .yes := by kernel_rfl
theorem urlDrives_c39 : @callK (slI [(0, 5, 0), (1, 4, 3), (2, 5, 4)]) Tryz.prog X1 100000 60 3 [.sym 0, .bool true, .sym 1, .sym 2] (.mk .leaf 4 4) (fin 4) = .yes := by kernel_rfl
theorem urlDrives_c40 : @callK (slI [(0, 5, 1), (1, 4, 0), (2, 5, 0)]) Tryz.prog X1 100000 60 3 [.sym 0, .bool false, .sym 1, .sym 2] (.mk .leaf 4 4) (fin 4) = .yes := by kernel_rfl
theorem urlDrives_c41 : @callK (slI [(0, 5, 1), (1, 4, 0), (2, 5, 1)]) Tryz.prog X1 100000 60 3 [.sym 0, .bool false, .sym 1, .sym 2] (.mk .leaf 4 4) (fin 4) = .yes := by kernel_rfl
theorem urlDrives_c42 : @callK (slI [(0, 5, 1), (1, 4, 0), (2, 5, 2)]) Tryz.prog X1 100000 60 3 [.sym 0, .bool false, .sym 1, .sym 2] (.mk .leaf 4 4) (fin 4) = .yes := by kernel_rfl
theorem urlDrives_c43 : @callK (slI [(0, 5, 1), (1, 4, 0), (2, 5, 3)]) Tryz.prog X1 100000 60 3 [.sym 0, .bool false, .sym 1, .sym 2] (.mk .leaf 4 4) (fin 4) = .yes := by kernel_rfl
theorem urlDrives_c44 : @callK (slI [(0, 5, 1), (1, 4, 0), (2, 5, 4)]) Tryz.prog X1 100000 60 3 [.sym 0, .bool false, .sym 1, .sym 2] (.mk .leaf 4 4) (fin 4) = .yes := by kernel_rfl
theorem urlDrives_c45 : @callK (slI [(0, 5, 1), (1, 4, 1), (2, 5, 0)]) Tryz.prog X1 100000 60 3 [.sym 0, .bool false, .sym 1, .sym 2] (.mk .leaf 4 4) (fin 4) = .yes := by kernel_rfl
theorem urlDrives_c46 : @callK (slI [(0, 5, 1), (1, 4, 1), (2, 5, 1)]) Tryz.prog X1 100000 60 3 [.sym 0, .bool false, .sym 1, .sym 2] (.mk .leaf 4 4) (fin 4) = .yes := by kernel_rfl
theorem urlDrives_c47 : @callK (slI [(0, 5, 1), (1, 4, 1), (2, 5, 2)]) Tryz.prog X1 100000 60 3 [.sym 0, .bool false, .sym 1, .sym 2] (.mk .leaf 4 4) (fin 4) = .yes := by kernel_rfl
theorem urlDrives_c48 : @callK (slI [(0, 5, 1), (1, 4, 1), (2, 5, 3)]) Tryz.prog X1 100000 60 3 [.sym 0, .bool false, .sym 1, .sym 2] (.mk .leaf 4 4) (fin 4) = .yes := by kernel_rfl
theorem urlDrives_c49 : @callK (slI [(0, 5, 1), (1, 4, 1), (2, 5, 4)]) Tryz.prog X1 100000 60 3 [.sym 0, .bool false, .sym 1, .sym 2] (.mk .leaf 4 4) (fin 4) = .yes := by kernel_rfl
theorem urlDrives_c50 : @callK (slI [(0, 5, 1), (1, 4, 2), (2, 5, 0)]) Tryz.prog X1 100000 60 3 [.sym 0, .bool false, .sym 1, .sym 2] (.mk .leaf 4 4) (fin 4) = .yes := by kernel_rfl
theorem urlDrives_c51 : @callK (slI [(0, 5, 1), (1, 4, 2), (2, 5, 1)]) Tryz.prog X1 100000 60 3 [.sym 0, .bool false, .sym 1, .sym 2] (.mk .leaf 4 4) (fin 4) = .yes := by kernel_rfl
theorem urlDrives_c52 : @callK (slI [(0, 5, 1), (1, 4, 2), (2, 5, 2)]) Tryz.prog X1 100000 60 3 [.sym 0, .bool false, .sym 1, .sym 2] (.mk .leaf 4 4) (fin 4) = .yes := by kernel_rfl
theorem urlDrives_c53 : @callK (slI [(0, 5, 1), (1, 4, 2), (2, 5, 3)]) Tryz.prog X1 100000 60 3 [.sym 0, .bool false, .sym 1, .sym 2] (.mk .leaf 4 4) (fin 4) = .yes := by kernel_rfl
theorem urlDrives_c54 : @callK (slI [(0, 5, 1), (1, 4, 2), (2, 5, 4)]) Tryz.prog X1 100000 60 3 [.sym 0, .bool false, .sym 1, .sym 2] (.mk .leaf 4 4) (fin 4) = .yes := by kernel_rfl
theorem urlDrives_c55 : @callK (slI [(0, 5, 1), (1, 4, 3), (2, 5, 0)]) Tryz.prog X1 100000 60 3 [.sym 0, .bool false, .sym 1, .sym 2] (.mk .leaf 4 4) (fin 4) = .yes := by kernel_rfl
theorem urlDrives_c56 : @callK (slI [(0, 5, 1), (1, 4, 3), (2, 5, 1)]) Tryz.prog X1 100000 60 3 [.sym 0, .bool false, .sym 1, .sym 2] (.mk .leaf 4 4) (fin 4) = .yes := by kernel_rfl
theorem urlDrives_c57 : @callK (slI [(0, 5, 1), (1, 4, 3), (2, 5, 2)]) Tryz.prog X1 100000 60 3 [.sym 0, .bool false, .sym 1, .sym 2] (.mk .leaf 4 4) (fin 4) = .yes := by kernel_rfl
theorem urlDrives_c58 : @callK (slI [(0, 5, 1), (1, 4, 3), (2, 5, 3)]) Tryz.prog X1 100000 60 3 [.sym 0, .bool false, .sym 1, .sym 2] (.mk .leaf 4 4) (fin 4) = .yes := by kernel_rfl
theorem urlDrives_c59 : @callK (slI [(0, 5, 1), (1, 4, 3), (2, 5, 4)]) Tryz.prog X1 100000 60 3 [.sym 0, .bool false, .sym 1, .sym 2] (.mk .leaf 4 4) (fin 4) = .yes := by kernel_rfl
theorem urlDrives_c60 : @callK (slI [(0, 5, 1), (1, 4, 0), (2, 5, 0)]) Tryz.prog X1 100000 60 3 [.sym 0, .bool true, .sym 1, .sym 2] (.mk .leaf 4 4) (fin 4) = .yes := by kernel_rfl
theorem urlDrives_c61 : @callK (slI [(0, 5, 1), (1, 4, 0), (2, 5, 1)]) Tryz.prog X1 100000 60 3 [.sym 0, .bool true, .sym 1, .sym 2] (.mk .leaf 4 4) (fin 4) = .yes := by kernel_rfl
theorem urlDrives_c62 : @callK (slI [(0, 5, 1), (1, 4, 0), (2, 5, 2)]) Tryz.prog X1 100000 60 3 [.sym 0, .bool true, .sym 1, .sym 2] (.mk .leaf 4 4) (fin 4) = .yes := by kernel_rfl
theorem urlDrives_c63 : @callK (slI [(0, 5, 1), (1, 4, 0), (2, 5, 3)]) Tryz.prog X1 100000 60 3 [.sym 0, .bool true, .sym 1, .sym 2] (.mk .leaf 4 4) (fin 4) = .yes := by kernel_rfl
theorem urlDrives_c64 : @callK (slI [(0, 5, 1), (1, 4, 0), (2, 5, 4)]) Tryz.prog X1 100000 60 3 [.sym 0, .bool true, .sym 1, .sym 2] (.mk .leaf 4 4) (fin 4) = .yes := by kernel_rfl
theorem urlDrives_c65 : @callK (slI [(0, 5, 1), (1, 4, 1), (2, 5, 0)]) Tryz.prog X1 100000 60 3 [.sym 0, .bool true, .sym 1, .sym 2] (.mk .leaf 4 4) (fin 4) = .yes := by kernel_rfl
theorem urlDrives_c66 : @callK (slI [(0, 5, 1), (1, 4, 1), (2, 5, 1)]) Tryz.prog X1 100000 60 3 [.sym 0, .bool true, .sym 1, .sym 2] (.mk .leaf 4 4) (fin 4) = .yes := by kernel_rfl
end Go.Proofs.YtghiaehfbajidaaGreatDoor
