/- Law gossamerlaw27.ShedUps: its cases, part 4. -/
import Derived.Test.YtonakocdlldceaaGreatDoorFin
set_option linter.unusedVariables false
set_option maxRecDepth 100000
namespace Go.Proofs.YtonakocdlldceaaGreatDoor
open Go Go.Proofs Go.RowKit Go.Ev
theorem shedUps_c30 : @callK (slI [(0, 5, 0)]) Tryz.prog X1 100000 60 3 [.agg [.bool false, .bool true, .bool true, .bool false], .sym 0] (.mk .leaf 6 6) (fin 6) = .yes := by kernel_rfl
theorem shedUps_c31 : @callK (slI [(0, 5, 1)]) Tryz.prog X1 100000 60 3 [.agg [.bool false, .bool true, .bool true, .bool false], .sym 0] (.mk .leaf 6 6) (fin 6) = .yes := by kernel_rfl
theorem shedUps_c32 : @callK (slI [(0, 5, 2)]) Tryz.prog X1 100000 60 3 [.agg [.bool false, .bool true, .bool true, .bool false], .sym 0] (.mk .leaf 6 6) (fin 6) = .yes := by kernel_rfl
theorem shedUps_c33 : @callK (slI [(0, 5, 3)]) Tryz.prog X1 100000 60 3 [.agg [.bool false, .bool true, .bool true, .bool false], .sym 0] (.mk .leaf 6 6) (fin 6) = .yes := by kernel_rfl
theorem shedUps_c34 : @callK (slI [(0, 5, 4)]) Tryz.prog X1 100000 60 3 [.agg [.bool false, .bool true, .bool true, .bool false], .sym 0] (.mk .leaf 6 6) (fin 6) = .yes := by kernel_rfl
theorem shedUps_c35 : @callK (slI [(0, 5, 0)]) Tryz.prog X1 100000 60 3 [.agg [.bool false, .bool true, .bool true, .bool true], .sym 0] (.mk .leaf 6 6) (fin 6) = .yes := by kernel_rfl
theorem shedUps_c36 : @callK (slI [(0, 5, 1)]) Tryz.prog X1 100000 60 3 [.agg [.bool false, .bool true, .bool true, .bool true], .sym 0] (.mk .leaf 6 6) (fin 6) = .yes := by kernel_rfl
theorem shedUps_c37 : @callK (slI [(0, 5, 2)]) Tryz.prog X1 100000 60 3 [.agg [.bool false, .bool true, .bool true, .bool true], .sym 0] (.mk .leaf 6 6) (fin 6) = .yes := by kernel_rfl
theorem shedUps_c38 : @callK (slI [(0, 5, 3)]) Tryz.prog X1 100000 60 3 [.agg [.bool false, .bool true, .bool true, .bool true], .sym 0] (.mk .leaf 6 6) (fin 6) = .yes := by kernel_rfl
theorem shedUps_c39 : @callK (slI [(0, 5, 4)]) Tryz.prog X1 100000 60 3 [.agg [.bool false, .bool true, .bool true, .bool true], .sym 0] (.mk .leaf 6 6) (fin 6) = .yes := by kernel_rfl
end Go.Proofs.YtonakocdlldceaaGreatDoor
