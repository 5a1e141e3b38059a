/- Law gossamerlaw27.ShedUps: its cases, part 8. -/
import Derived.Test.YtonakocdlldceaaGreatDoorFin
set_option linter.unusedVariables false
set_option maxRecDepth 100000
namespace Go.Proofs.YtonakocdlldceaaGreatDoor
open Go Go.Proofs Go.RowKit Go.Ev
theorem shedUps_c70 : @callK (slI [(0, 5, 0)]) Tryz.prog X1 100000 60 3 [.agg [.bool true, .bool true, .bool true, .bool false], .sym 0] (.mk .leaf 6 6) (fin 6) = .yes := by kernel_rfl
theorem shedUps_c71 : @callK (slI [(0, 5, 1)]) Tryz.prog X1 100000 60 3 [.agg [.bool true, .bool true, .bool true, .bool false], .sym 0] (.mk .leaf 6 6) (fin 6) = .yes := by kernel_rfl
theorem shedUps_c72 : @callK (slI [(0, 5, 2)]) Tryz.prog X1 100000 60 3 [.agg [.bool true, .bool true, .bool true, .bool false], .sym 0] (.mk .leaf 6 6) (fin 6) = .yes := by kernel_rfl
theorem shedUps_c73 : @callK (slI [(0, 5, 3)]) Tryz.prog X1 100000 60 3 [.agg [.bool true, .bool true, .bool true, .bool false], .sym 0] (.mk .leaf 6 6) (fin 6) = .yes := by kernel_rfl
theorem shedUps_c74 : @callK (slI [(0, 5, 4)]) Tryz.prog X1 100000 60 3 [.agg [.bool true, .bool true, .bool true, .bool false], .sym 0] (.mk .leaf 6 6) (fin 6) = .yes := by kernel_rfl
theorem shedUps_c75 : @callK (slI [(0, 5, 0)]) Tryz.prog X1 100000 60 3 [.agg [.bool true, .bool true, .bool true, .bool true], .sym 0] (.mk .leaf 6 6) (fin 6) = .yes := by kernel_rfl
theorem shedUps_c76 : @callK (slI [(0, 5, 1)]) Tryz.prog X1 100000 60 3 [.agg [.bool true, .bool true, .bool true, .bool true], .sym 0] (.mk .leaf 6 6) (fin 6) = .yes := by kernel_rfl
theorem shedUps_c77 : @callK (slI [(0, 5, 2)]) Tryz.prog X1 100000 60 3 [.agg [.bool true, .bool true, .bool true, .bool true], .sym 0] (.mk .leaf 6 6) (fin 6) = .yes := by kernel_rfl
theorem shedUps_c78 : @callK (slI [(0, 5, 3)]) Tryz.prog X1 100000 60 3 [.agg [.bool true, .bool true, .bool true, .bool true], .sym 0] (.mk .leaf 6 6) (fin 6) = .yes := by kernel_rfl
theorem shedUps_c79 : @callK (slI [(0, 5, 4)]) Tryz.prog X1 100000 60 3 [.agg [.bool true, .bool true, .bool true, .bool true], .sym 0] (.mk .leaf 6 6) (fin 6) = .yes := by kernel_rfl
end Go.Proofs.YtonakocdlldceaaGreatDoor
