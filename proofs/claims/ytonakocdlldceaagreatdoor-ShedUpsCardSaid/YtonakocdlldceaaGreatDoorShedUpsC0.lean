/- Law gossamerlaw27.ShedUps: its cases, part 1. -/
import Derived.Test.YtonakocdlldceaaGreatDoorFin
set_option linter.unusedVariables false
set_option maxRecDepth 100000
namespace Go.Proofs.YtonakocdlldceaaGreatDoor
open Go Go.Proofs Go.RowKit Go.Ev
theorem shedUps_c0 : @callK (slI [(0, 5, 0)]) Tryz.prog X1 100000 60 3 [.agg [.bool false, .bool false, .bool false, .bool false], .sym 0] (.mk .leaf 6 6) (fin 6) = .yes := by kernel_rfl
theorem shedUps_c1 : @callK (slI [(0, 5, 1)]) Tryz.prog X1 100000 60 3 [.agg [.bool false, .bool false, .bool false, .bool false], .sym 0] (.mk .leaf 6 6) (fin 6) = .yes := by kernel_rfl
theorem shedUps_c2 : @callK (slI [(0, 5, 2)]) Tryz.prog X1 100000 60 3 [.agg [.bool false, .bool false, .bool false, .bool false], .sym 0] (.mk .leaf 6 6) (fin 6) = .yes := by kernel_rfl
theorem shedUps_c3 : @callK (slI [(0, 5, 3)]) Tryz.prog X1 100000 60 3 [.agg [.bool false, .bool false, .bool false, .bool false], .sym 0] (.mk .leaf 6 6) (fin 6) = .yes := by kernel_rfl
theorem shedUps_c4 : @callK (slI [(0, 5, 4)]) Tryz.prog X1 100000 60 3 [.agg [.bool false, .bool false, .bool false, .bool false], .sym 0] (.mk .leaf 6 6) (fin 6) = .yes := by kernel_rfl
theorem shedUps_c5 : @callK (slI [(0, 5, 0)]) Tryz.prog X1 100000 60 3 [.agg [.bool false, .bool false, .bool false, .bool true], .sym 0] (.mk .leaf 6 6) (fin 6) = .yes := by kernel_rfl
theorem shedUps_c6 : @callK (slI [(0, 5, 1)]) Tryz.prog X1 100000 60 3 [.agg [.bool false, .bool false, .bool false, .bool true], .sym 0] (.mk .leaf 6 6) (fin 6) = .yes := by kernel_rfl
theorem shedUps_c7 : @callK (slI [(0, 5, 2)]) Tryz.prog X1 100000 60 3 [.agg [.bool false, .bool false, .bool false, .bool true], .sym 0] (.mk .leaf 6 6) (fin 6) = .yes := by kernel_rfl
theorem shedUps_c8 : @callK (slI [(0, 5, 3)]) Tryz.prog X1 100000 60 3 [.agg [.bool false, .bool false, .bool false, .bool true], .sym 0] (.mk .leaf 6 6) (fin 6) = .yes := by kernel_rfl
theorem shedUps_c9 : @callK (slI [(0, 5, 4)]) Tryz.prog X1 100000 60 3 [.agg [.bool false, .bool false, .bool false, .bool true], .sym 0] (.mk .leaf 6 6) (fin 6) = .yes := by kernel_rfl
end Go.Proofs.YtonakocdlldceaaGreatDoor
