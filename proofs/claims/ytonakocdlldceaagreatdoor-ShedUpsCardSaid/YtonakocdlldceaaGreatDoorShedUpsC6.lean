/- Law gossamerlaw27.ShedUps: its cases, part 7. -/
import Derived.Test.YtonakocdlldceaaGreatDoorFin
set_option linter.unusedVariables false
set_option maxRecDepth 100000
namespace Go.Proofs.YtonakocdlldceaaGreatDoor
open Go Go.Proofs Go.RowKit Go.Ev
theorem shedUps_c60 : @callK (slI [(0, 5, 0)]) Tryz.prog X1 100000 60 3 [.agg [.bool true, .bool true, .bool false, .bool false], .sym 0] (.mk .leaf 6 6) (fin 6) = .yes := by kernel_rfl
theorem shedUps_c61 : @callK (slI [(0, 5, 1)]) Tryz.prog X1 100000 60 3 [.agg [.bool true, .bool true, .bool false, .bool false], .sym 0] (.mk .leaf 6 6) (fin 6) = .yes := by kernel_rfl
theorem shedUps_c62 : @callK (slI [(0, 5, 2)]) Tryz.prog X1 100000 60 3 [.agg [.bool true, .bool true, .bool false, .bool false], .sym 0] (.mk .leaf 6 6) (fin 6) = .yes := by kernel_rfl
theorem shedUps_c63 : @callK (slI [(0, 5, 3)]) Tryz.prog X1 100000 60 3 [.agg [.bool true, .bool true, .bool false, .bool false], .sym 0] (.mk .leaf 6 6) (fin 6) = .yes := by kernel_rfl
theorem shedUps_c64 : @callK (slI [(0, 5, 4)]) Tryz.prog X1 100000 60 3 [.agg [.bool true, .bool true, .bool false, .bool false], .sym 0] (.mk .leaf 6 6) (fin 6) = .yes := by kernel_rfl
theorem shedUps_c65 : @callK (slI [(0, 5, 0)]) Tryz.prog X1 100000 60 3 [.agg [.bool true, .bool true, .bool false, .bool true], .sym 0] (.mk .leaf 6 6) (fin 6) = .yes := by kernel_rfl
theorem shedUps_c66 : @callK (slI [(0, 5, 1)]) Tryz.prog X1 100000 60 3 [.agg [.bool true, .bool true, .bool false, .bool true], .sym 0] (.mk .leaf 6 6) (fin 6) = .yes := by kernel_rfl
theorem shedUps_c67 : @callK (slI [(0, 5, 2)]) Tryz.prog X1 100000 60 3 [.agg [.bool true, .bool true, .bool false, .bool true], .sym 0] (.mk .leaf 6 6) (fin 6) = .yes := by kernel_rfl
theorem shedUps_c68 : @callK (slI [(0, 5, 3)]) Tryz.prog X1 100000 60 3 [.agg [.bool true, .bool true, .bool false, .bool true], .sym 0] (.mk .leaf 6 6) (fin 6) = .yes := by kernel_rfl
theorem shedUps_c69 : @callK (slI [(0, 5, 4)]) Tryz.prog X1 100000 60 3 [.agg [.bool true, .bool true, .bool false, .bool true], .sym 0] (.mk .leaf 6 6) (fin 6) = .yes := by kernel_rfl
end Go.Proofs.YtonakocdlldceaaGreatDoor
