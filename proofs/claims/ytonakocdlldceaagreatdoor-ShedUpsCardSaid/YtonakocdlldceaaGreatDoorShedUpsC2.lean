/- Law gossamerlaw27.ShedUps: its cases, part 3. -/
import Derived.Test.YtonakocdlldceaaGreatDoorFin
set_option linter.unusedVariables false
set_option maxRecDepth 100000
namespace Go.Proofs.YtonakocdlldceaaGreatDoor
open Go Go.Proofs Go.RowKit Go.Ev
theorem shedUps_c20 : @callK (slI [(0, 5, 0)]) Tryz.prog X1 100000 60 3 [.agg [.bool false, .bool true, .bool false, .bool false], .sym 0] (.mk .leaf 6 6) (fin 6) = .yes := by kernel_rfl
theorem shedUps_c21 : @callK (slI [(0, 5, 1)]) Tryz.prog X1 100000 60 3 [.agg [.bool false, .bool true, .bool false, .bool false], .sym 0] (.mk .leaf 6 6) (fin 6) = .yes := by kernel_rfl
theorem shedUps_c22 : @callK (slI [(0, 5, 2)]) Tryz.prog X1 100000 60 3 [.agg [.bool false, .bool true, .bool false, .bool false], .sym 0] (.mk .leaf 6 6) (fin 6) = .yes := by kernel_rfl
theorem shedUps_c23 : @callK (slI [(0, 5, 3)]) Tryz.prog X1 100000 60 3 [.agg [.bool false, .bool true, .bool false, .bool false], .sym 0] (.mk .leaf 6 6) (fin 6) = .yes := by kernel_rfl
theorem shedUps_c24 : @callK (slI [(0, 5, 4)]) Tryz.prog X1 100000 60 3 [.agg [.bool false, .bool true, .bool false, .bool false], .sym 0] (.mk .leaf 6 6) (fin 6) = .yes := by kernel_rfl
theorem shedUps_c25 : @callK (slI [(0, 5, 0)]) Tryz.prog X1 100000 60 3 [.agg [.bool false, .bool true, .bool false, .bool true], .sym 0] (.mk .leaf 6 6) (fin 6) = .yes := by kernel_rfl
theorem shedUps_c26 : @callK (slI [(0, 5, 1)]) Tryz.prog X1 100000 60 3 [.agg [.bool false, .bool true, .bool false, .bool true], .sym 0] (.mk .leaf 6 6) (fin 6) = .yes := by kernel_rfl
theorem shedUps_c27 : @callK (slI [(0, 5, 2)]) Tryz.prog X1 100000 60 3 [.agg [.bool false, .bool true, .bool false, .bool true], .sym 0] (.mk .leaf 6 6) (fin 6) = .yes := by kernel_rfl
theorem shedUps_c28 : @callK (slI [(0, 5, 3)]) Tryz.prog X1 100000 60 3 [.agg [.bool false, .bool true, .bool false, .bool true], .sym 0] (.mk .leaf 6 6) (fin 6) = .yes := by kernel_rfl
theorem shedUps_c29 : @callK (slI [(0, 5, 4)]) Tryz.prog X1 100000 60 3 [.agg [.bool false, .bool true, .bool false, .bool true], .sym 0] (.mk .leaf 6 6) (fin 6) = .yes := by kernel_rfl
end Go.Proofs.YtonakocdlldceaaGreatDoor
