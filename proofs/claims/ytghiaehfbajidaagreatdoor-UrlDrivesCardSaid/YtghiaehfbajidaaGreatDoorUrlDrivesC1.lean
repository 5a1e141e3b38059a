/- Law gossamerlaw12.UrlDrives: its cases, part 2. -/
import Derived.Test.YtghiaehfbajidaaGreatDoorFin
set_option linter.unusedVariables false
set_option maxRecDepth 100000
namespace Go.Proofs.YtghiaehfbajidaaGreatDoor
open Go Go.Proofs Go.RowKit Go.Ev
theorem urlDrives_c67 : @callK (slI [(0, 5, 1), (1, 4, 1), (2, 5, 2)]) Tryz.prog X1 100000 60 3 [.sym 0, .bool true, .sym 1, .sym 2] (.mk .leaf 4 4) (fin 4) = .yes := by kernel_rfl
theorem urlDrives_c68 : @callK (slI [(0, 5, 1), (1, 4, 1), (2, 5, 3)]) Tryz.prog X1 100000 60 3 [.sym 0, .bool true, .sym 1, .sym 2] (.mk .leaf 4 4) (fin 4) = .yes := by kernel_rfl
theorem urlDrives_c69 : @callK (slI [(0, 5, 1), (1, 4, 1), (2, 5, 4)]) Tryz.prog X1 100000 60 3 [.sym 0, .bool true, .sym 1, .sym 2] (.mk .leaf 4 4) (fin 4) = .yes := by kernel_rfl
theorem urlDrives_c70 : @callK (slI [(0, 5, 1), (1, 4, 2), (2, 5, 0)]) Tryz.prog X1 100000 60 3 [.sym 0, .bool true, .sym 1, .sym 2] (.mk .leaf 4 4) (fin 4) = .yes := by kernel_rfl
theorem urlDrives_c71 : @callK (slI [(0, 5, 1), (1, 4, 2), (2, 5, 1)]) Tryz.prog X1 100000 60 3 [.sym 0, .bool true, .sym 1, .sym 2] (.mk .leaf 4 4) (fin 4) = .yes := by kernel_rfl
theorem urlDrives_c72 : @callK (slI [(0, 5, 1), (1, 4, 2), (2, 5, 2)]) Tryz.prog X1 100000 60 3 [.sym 0, .bool true, .sym 1, .sym 2] (.mk .leaf 4 4) (fin 4) = .yes := by kernel_rfl
theorem urlDrives_c73 : @callK (slI [(0, 5, 1), (1, 4, 2), (2, 5, 3)]) Tryz.prog X1 100000 60 3 [.sym 0, .bool true, .sym 1, .sym 2] (.mk .leaf 4 4) (fin 4) = .yes := by kernel_rfl
theorem urlDrives_c74 : @callK (slI [(0, 5, 1), (1, 4, 2), (2, 5, 4)]) Tryz.prog X1 100000 60 3 [.sym 0, .bool true, .sym 1, .sym 2] (.mk .leaf 4 4) (fin 4) = .yes := by kernel_rfl
theorem urlDrives_c75 : @callK (slI [(0, 5, 1), (1, 4, 3), (2, 5, 0)]) Tryz.prog X1 100000 60 3 [.sym 0, .bool true, .sym 1, .sym 2] (.mk .leaf 4 4) (fin 4) = .yes := by kernel_rfl
theorem urlDrives_c76 : @callK (slI [(0, 5, 1), (1, 4, 3), (2, 5, 1)]) Tryz.prog X1 100000 60 3 [.sym 0, .bool true, .sym 1, .sym 2] (.mk .leaf 4 4) (fin 4) = .yes := by kernel_rfl
theorem urlDrives_c77 : @callK (slI [(0, 5, 1), (1, 4, 3), (2, 5, 2)]) Tryz.prog X1 100000 60 3 [.sym 0, .bool true, .sym 1, .sym 2] (.mk .leaf 4 4) (fin 4) = .yes := by kernel_rfl
theorem urlDrives_c78 : @callK (slI [(0, 5, 1), (1, 4, 3), (2, 5, 3)]) Tryz.prog X1 100000 60 3 [.sym 0, .bool true, .sym 1, .sym 2] (.mk .leaf 4 4) (fin 4) = .yes := by kernel_rfl
theorem urlDrives_c79 : @callK (slI [(0, 5, 1), (1, 4, 3), (2, 5, 4)]) Tryz.prog X1 100000 60 3 [.sym 0, .bool true, .sym 1, .sym 2] (.mk .leaf 4 4) (fin 4) = .yes := by kernel_rfl
theorem urlDrives_c80 : @callK (slI [(0, 5, 2), (1, 4, 0), (2, 5, 0)]) Tryz.prog X1 100000 60 3 [.sym 0, .bool false, .sym 1, .sym 2] (.mk .leaf 4 4) (fin 4) = .yes := by kernel_rfl
theorem urlDrives_c81 : @callK (slI [(0, 5, 2), (1, 4, 0), (2, 5, 1)]) Tryz.prog X1 100000 60 3 [.sym 0, .bool false, .sym 1, .sym 2] (.mk .leaf 4 4) (fin 4) = .yes := by kernel_rfl
theorem urlDrives_c82 : @callK (slI [(0, 5, 2), (1, 4, 0), (2, 5, 2)]) Tryz.prog X1 100000 60 3 [.sym 0, .bool false, .sym 1, .sym 2] (.mk .leaf 4 4) (fin 4) = .yes := by kernel_rfl
theorem urlDrives_c83 : @callK (slI [(0, 5, 2), (1, 4, 0), (2, 5, 3)]) Tryz.prog X1 100000 60 3 [.sym 0, .bool false, .sym 1, .sym 2] (.mk .leaf 4 4) (fin 4) = .yes := by kernel_rfl
theorem urlDrives_c84 : @callK (slI [(0, 5, 2), (1, 4, 0), (2, 5, 4)]) Tryz.prog X1 100000 60 3 [.sym 0, .bool false, .sym 1, .sym 2] (.mk .leaf 4 4) (fin 4) = .yes := by kernel_rfl
theorem urlDrives_c85 : @callK (slI [(0, 5, 2), (1, 4, 1), (2, 5, 0)]) Tryz.prog X1 100000 60 3 [.sym 0, .bool false, .sym 1, .sym 2] (.mk .leaf 4 4) (fin 4) = .yes := by kernel_rfl
theorem urlDrives_c86 : @callK (slI [(0, 5, 2), (1, 4, 1), (2, 5, 1)]) Tryz.prog X1 100000 60 3 [.sym 0, .bool false, .sym 1, .sym 2] (.mk .leaf 4 4) (fin 4) = .yes := by kernel_rfl
theorem urlDrives_c87 : @callK (slI [(0, 5, 2), (1, 4, 1), (2, 5, 2)]) Tryz.prog X1 100000 60 3 [.sym 0, .bool false, .sym 1, .sym 2] (.mk .leaf 4 4) (fin 4) = .yes := by kernel_rfl
theorem urlDrives_c88 : @callK (slI [(0, 5, 2), (1, 4, 1), (2, 5, 3)]) Tryz.prog X1 100000 60 3 [.sym 0, .bool false, .sym 1, .sym 2] (.mk .leaf 4 4) (fin 4) = .yes := by kernel_rfl
theorem urlDrives_c89 : @callK (slI [(0, 5, 2), (1, 4, 1), (2, 5, 4)]) Tryz.prog X1 100000 60 3 [.sym 0, .bool false, .sym 1, .sym 2] (.mk .leaf 4 4) (fin 4) = .yes := by kernel_rfl
theorem urlDrives_c90 : @callK (slI [(0, 5, 2), (1, 4, 2), (2, 5, 0)]) Tryz.prog X1 100000 60 3 [.sym 0, .bool false, .sym 1, .sym 2] (.mk .leaf 4 4) (fin 4) = .yes := by kernel_rfl
theorem urlDrives_c91 : @callK (slI [(0, 5, 2), (1, 4, 2), (2, 5, 1)]) Tryz.prog X1 100000 60 3 [.sym 0, .bool false, .sym 1, .sym 2] (.mk .leaf 4 4) (fin 4) = .yes := by kernel_rfl
theorem urlDrives_c92 : @callK (slI [(0, 5, 2), (1, 4, 2), (2, 5, 2)]) Tryz.prog X1 100000 60 3 [.sym 0, .bool false, .sym 1, .sym 2] (.mk .leaf 4 4) (fin 4) = .yes := by kernel_rfl
theorem urlDrives_c93 : @callK (slI [(0, 5, 2), (1, 4, 2), (2, 5, 3)]) Tryz.prog X1 100000 60 3 [.sym 0, .bool false, .sym 1, .sym 2] (.mk .leaf 4 4) (fin 4) = .yes := by kernel_rfl
theorem urlDrives_c94 : @callK (slI [(0, 5, 2), (1, 4, 2), (2, 5, 4)]) Tryz.prog X1 100000 60 3 [.sym 0, .bool false, .sym 1, .sym 2] (.mk .leaf 4 4) (fin 4) = .yes := by kernel_rfl
theorem urlDrives_c95 : @callK (slI [(0, 5, 2), (1, 4, 3), (2, 5, 0)]) Tryz.prog X1 100000 60 3 [.sym 0, .bool false, .sym 1, .sym 2] (.mk .leaf 4 4) (fin 4) = .yes := by kernel_rfl
theorem urlDrives_c96 : @callK (slI [(0, 5, 2), (1, 4, 3), (2, 5, 1)]) Tryz.prog X1 100000 60 3 [.sym 0, .bool false, .sym 1, .sym 2] (.mk .leaf 4 4) (fin 4) = .yes := by kernel_rfl
theorem urlDrives_c97 : @callK (slI [(0, 5, 2), (1, 4, 3), (2, 5, 2)]) Tryz.prog X1 100000 60 3 [.sym 0, .bool false, .sym 1, .sym 2] (.mk .leaf 4 4) (fin 4) = .yes := by kernel_rfl
theorem urlDrives_c98 : @callK (slI [(0, 5, 2), (1, 4, 3), (2, 5, 3)]) Tryz.prog X1 100000 60 3 [.sym 0, .bool false, .sym 1, .sym 2] (.mk .leaf 4 4) (fin 4) = .yes := by kernel_rfl
theorem urlDrives_c99 : @callK (slI [(0, 5, 2), (1, 4, 3), (2, 5, 4)]) Tryz.prog X1 100000 60 3 [.sym 0, .bool false, .sym 1, .sym 2] (.mk .leaf 4 4) (fin 4) = .yes := by kernel_rfl
theorem urlDrives_c100 : @callK (slI [(0, 5, 2), (1, 4, 0), (2, 5, 0)]) Tryz.prog X1 100000 60 3 [.sym 0, .bool true, .sym 1, .sym 2] (.mk .leaf 4 4) (fin 4) = .yes := by kernel_rfl
theorem urlDrives_c101 : @callK (slI [(0, 5, 2), (1, 4, 0), (2, 5, 1)]) Tryz.prog X1 100000 60 3 [.sym 0, .bool true, .sym 1, .sym 2] (.mk .leaf 4 4) (fin 4) = .yes := by kernel_rfl
theorem urlDrives_c102 : @callK (slI [(0, 5, 2), (1, 4, 0), (2, 5, 2)]) Tryz.prog X1 100000 60 3 [.sym 0, .bool true, .sym 1, .sym 2] (.mk .leaf 4 4) (fin 4) = .yes := by kernel_rfl
theorem urlDrives_c103 : @callK (slI [(0, 5, 2), (1, 4, 0), (2, 5, 3)]) Tryz.prog X1 100000 60 3 [.sym 0, .bool true, .sym 1, .sym 2] (.mk .leaf 4 4) (fin 4) = .yes := by kernel_rfl
theorem urlDrives_c104 : @callK (slI [(0, 5, 2), (1, 4, 0), (2, 5, 4)]) Tryz.prog X1 100000 60 3 [.sym 0, .bool true, .sym 1, .sym 2] (.mk .leaf 4 4) (fin 4) = .yes := by kernel_rfl
theorem urlDrives_c105 : @callK (slI [(0, 5, 2), (1, 4, 1), (2, 5, 0)]) Tryz.prog X1 100000 60 3 [.sym 0, .bool true, .sym 1, .sym 2] (.mk .leaf 4 4) (fin 4) = .yes := by kernel_rfl
theorem urlDrives_c106 : @callK (slI [(0, 5, 2), (1, 4, 1), (2, 5, 1)]) Tryz.prog X1 100000 60 3 [.sym 0, .bool true, .sym 1, .sym 2] (.mk .leaf 4 4) (fin 4) = .yes := by kernel_rfl
theorem urlDrives_c107 : @callK (slI [(0, 5, 2), (1, 4, 1), (2, 5, 2)]) Tryz.prog X1 100000 60 3 [.sym 0, .bool true, .sym 1, .sym 2] (.mk .leaf 4 4) (fin 4) = .yes := by kernel_rfl
theorem urlDrives_c108 : @callK (slI [(0, 5, 2), (1, 4, 1), (2, 5, 3)]) Tryz.prog X1 100000 60 3 [.sym 0, .bool true, .sym 1, .sym 2] (.mk .leaf 4 4) (fin 4) = .yes := by kernel_rfl
theorem urlDrives_c109 : @callK (slI [(0, 5, 2), (1, 4, 1), (2, 5, 4)]) Tryz.prog X1 100000 60 3 [.sym 0, .bool true, .sym 1, .sym 2] (.mk .leaf 4 4) (fin 4) = .yes := by kernel_rfl
theorem urlDrives_c110 : @callK (slI [(0, 5, 2), (1, 4, 2), (2, 5, 0)]) Tryz.prog X1 100000 60 3 [.sym 0, .bool true, .sym 1, .sym 2] (.mk .leaf 4 4) (fin 4) = .yes := by kernel_rfl
theorem urlDrives_c111 : @callK (slI [(0, 5, 2), (1, 4, 2), (2, 5, 1)]) Tryz.prog X1 100000 60 3 [.sym 0, .bool true, .sym 1, .sym 2] (.mk .leaf 4 4) (fin 4) = .yes := by kernel_rfl
theorem urlDrives_c112 : @callK (slI [(0, 5, 2), (1, 4, 2), (2, 5, 2)]) Tryz.prog X1 100000 60 3 [.sym 0, .bool true, .sym 1, .sym 2] (.mk .leaf 4 4) (fin 4) = .yes := by kernel_rfl
theorem urlDrives_c113 : @callK (slI [(0, 5, 2), (1, 4, 2), (2, 5, 3)]) Tryz.prog X1 100000 60 3 [.sym 0, .bool true, .sym 1, .sym 2] (.mk .leaf 4 4) (fin 4) = .yes := by kernel_rfl
theorem urlDrives_c114 : @callK (slI [(0, 5, 2), (1, 4, 2), (2, 5, 4)]) Tryz.prog X1 100000 60 3 [.sym 0, .bool true, .sym 1, .sym 2] (.mk .leaf 4 4) (fin 4) = .yes := by kernel_rfl
theorem urlDrives_c115 : @callK (slI [(0, 5, 2), (1, 4, 3), (2, 5, 0)]) Tryz.prog X1 100000 60 3 [.sym 0, .bool true, .sym 1, .sym 2] (.mk .leaf 4 4) (fin 4) = .yes := by kernel_rfl
theorem urlDrives_c116 : @callK (slI [(0, 5, 2), (1, 4, 3), (2, 5, 1)]) Tryz.prog X1 100000 60 3 [.sym 0, .bool true, .sym 1, .sym 2] (.mk .leaf 4 4) (fin 4) = .yes := by kernel_rfl
theorem urlDrives_c117 : @callK (slI [(0, 5, 2), (1, 4, 3), (2, 5, 2)]) Tryz.prog X1 100000 60 3 [.sym 0, .bool true, .sym 1, .sym 2] (.mk .leaf 4 4) (fin 4) = .yes := by kernel_rfl
theorem urlDrives_c118 : @callK (slI [(0, 5, 2), (1, 4, 3), (2, 5, 3)]) Tryz.prog X1 100000 60 3 [.sym 0, .bool true, .sym 1, .sym 2] (.mk .leaf 4 4) (fin 4) = .yes := by kernel_rfl
theorem urlDrives_c119 : @callK (slI [(0, 5, 2), (1, 4, 3), (2, 5, 4)]) Tryz.prog X1 100000 60 3 [.sym 0, .bool true, .sym 1, .sym 2] (.mk .leaf 4 4) (fin 4) = .yes := by kernel_rfl
theorem urlDrives_c120 : @callK (slI [(0, 5, 3), (1, 4, 0), (2, 5, 0)]) Tryz.prog X1 100000 60 3 [.sym 0, .bool false, .sym 1, .sym 2] (.mk .leaf 4 4) (fin 4) = .yes := by kernel_rfl
theorem urlDrives_c121 : @callK (slI [(0, 5, 3), (1, 4, 0), (2, 5, 1)]) Tryz.prog X1 100000 60 3 [.sym 0, .bool false, .sym 1, .sym 2] (.mk .leaf 4 4) (fin 4) = .yes := by kernel_rfl
theorem urlDrives_c122 : @callK (slI [(0, 5, 3), (1, 4, 0), (2, 5, 2)]) Tryz.prog X1 100000 60 3 [.sym 0, .bool false, .sym 1, .sym 2] (.mk .leaf 4 4) (fin 4) = .yes := by kernel_rfl
theorem urlDrives_c123 : @callK (slI [(0, 5, 3), (1, 4, 0), (2, 5, 3)]) Tryz.prog X1 100000 60 3 [.sym 0, .bool false, .sym 1, .sym 2] (.mk .leaf 4 4) (fin 4) = .yes := by kernel_rfl
theorem urlDrives_c124 : @callK (slI [(0, 5, 3), (1, 4, 0), (2, 5, 4)]) Tryz.prog X1 100000 60 3 [.sym 0, .bool false, .sym 1, .sym 2] (.mk .leaf 4 4) (fin 4) = .yes := by kernel_rfl
theorem urlDrives_c125 : @callK (slI [(0, 5, 3), (1, 4, 1), (2, 5, 0)]) Tryz.prog X1 100000 60 3 [.sym 0, .bool false, .sym 1, .sym 2] (.mk .leaf 4 4) (fin 4) = .yes := by kernel_rfl
theorem urlDrives_c126 : @callK (slI [(0, 5, 3), (1, 4, 1), (2, 5, 1)]) Tryz.prog X1 100000 60 3 [.sym 0, .bool false, .sym 1, .sym 2] (.mk .leaf 4 4) (fin 4) = .yes := by kernel_rfl
theorem urlDrives_c127 : @callK (slI [(0, 5, 3), (1, 4, 1), (2, 5, 2)]) Tryz.prog X1 100000 60 3 [.sym 0, .bool false, .sym 1, .sym 2] (.mk .leaf 4 4) (fin 4) = .yes := by kernel_rfl
theorem urlDrives_c128 : @callK (slI [(0, 5, 3), (1, 4, 1), (2, 5, 3)]) Tryz.prog X1 100000 60 3 [.sym 0, .bool false, .sym 1, .sym 2] (.mk .leaf 4 4) (fin 4) = .yes := by kernel_rfl
theorem urlDrives_c129 : @callK (slI [(0, 5, 3), (1, 4, 1), (2, 5, 4)]) Tryz.prog X1 100000 60 3 [.sym 0, .bool false, .sym 1, .sym 2] (.mk .leaf 4 4) (fin 4) = .yes := by kernel_rfl
theorem urlDrives_c130 : @callK (slI [(0, 5, 3), (1, 4, 2), (2, 5, 0)]) Tryz.prog X1 100000 60 3 [.sym 0, .bool false, .sym 1, .sym 2] (.mk .leaf 4 4) (fin 4) = .yes := by kernel_rfl
theorem urlDrives_c131 : @callK (slI [(0, 5, 3), (1, 4, 2), (2, 5, 1)]) Tryz.prog X1 100000 60 3 [.sym 0, .bool false, .sym 1, .sym 2] (.mk .leaf 4 4) (fin 4) = .yes := by kernel_rfl
theorem urlDrives_c132 : @callK (slI [(0, 5, 3), (1, 4, 2), (2, 5, 2)]) Tryz.prog X1 100000 60 3 [.sym 0, .bool false, .sym 1, .sym 2] (.mk .leaf 4 4) (fin 4) = .yes := by kernel_rfl
theorem urlDrives_c133 : @callK (slI [(0, 5, 3), (1, 4, 2), (2, 5, 3)]) Tryz.prog X1 100000 60 3 [.sym 0, .bool false, .sym 1, .sym 2] (.mk .leaf 4 4) (fin 4) = .yes := by kernel_rfl
end Go.Proofs.YtghiaehfbajidaaGreatDoor
