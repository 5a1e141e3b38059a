/- Law gossamerlaw26.DoorSubs: its cases, part 3. -/
import Derived.Test.YtbeoeghcmabemaaGreatDoorFin
set_option linter.unusedVariables false
set_option maxRecDepth 100000
namespace Go.Proofs.YtbeoeghcmabemaaGreatDoor
open Go Go.Proofs Go.RowKit Go.Ev
theorem doorSubs_c112 : @callK (slI [(0, 7, 0)]) Tryz.prog X1 100000 60 3 [.agg [.bool false, .bool true, .bool false, .bool false, .bool false, .bool false], .sym 0] (.mk .leaf 6 6) (fin 6) = .yes := by kernel_rfl
theorem doorSubs_c113 : @callK (slI [(0, 7, 1)]) Tryz.prog X1 100000 60 3 [.agg [.bool false, .bool true, .bool false, .bool false, .bool false, .bool false], .sym 0] (.mk .leaf 6 6) (fin 6) = .yes := by kernel_rfl
theorem doorSubs_c114 : @callK (slI [(0, 7, 2)]) Tryz.prog X1 100000 60 3 [.agg [.bool false, .bool true, .bool false, .bool false, .bool false, .bool false], .sym 0] (.mk .leaf 6 6) (fin 6) = .yes := by kernel_rfl
theorem doorSubs_c115 : @callK (slI [(0, 7, 3)]) Tryz.prog X1 100000 60 3 [.agg [.bool false, .bool true, .bool false, .bool false, .bool false, .bool false], .sym 0] (.mk .leaf 6 6) (fin 6) = .yes := by kernel_rfl
theorem doorSubs_c116 : @callK (slI [(0, 7, 4)]) Tryz.prog X1 100000 60 3 [.agg [.bool false, .bool true, .bool false, .bool false, .bool false, .bool false], .sym 0] (.mk .leaf 6 6) (fin 6) = .yes := by kernel_rfl
theorem doorSubs_c117 : @callK (slI [(0, 7, 5)]) Tryz.prog X1 100000 60 3 [.agg [.bool false, .bool true, .bool false, .bool false, .bool false, .bool false], .sym 0] (.mk .leaf 6 6) (fin 6) = .yes := by kernel_rfl
theorem doorSubs_c118 : @callK (slI [(0, 7, 6)]) Tryz.prog X1 100000 60 3 [.agg [.bool false, .bool true, .bool false, .bool false, .bool false, .bool false], .sym 0] (.mk .leaf 6 6) (fin 6) = .yes := by kernel_rfl
theorem doorSubs_c119 : @callK (slI [(0, 7, 0)]) Tryz.prog X1 100000 60 3 [.agg [.bool false, .bool true, .bool false, .bool false, .bool false, .bool true], .sym 0] (.mk .leaf 6 6) (fin 6) = .yes := by kernel_rfl
theorem doorSubs_c120 : @callK (slI [(0, 7, 1)]) Tryz.prog X1 100000 60 3 [.agg [.bool false, .bool true, .bool false, .bool false, .bool false, .bool true], .sym 0] (.mk .leaf 6 6) (fin 6) = .yes := by kernel_rfl
theorem doorSubs_c121 : @callK (slI [(0, 7, 2)]) Tryz.prog X1 100000 60 3 [.agg [.bool false, .bool true, .bool false, .bool false, .bool false, .bool true], .sym 0] (.mk .leaf 6 6) (fin 6) = .yes := by kernel_rfl
theorem doorSubs_c122 : @callK (slI [(0, 7, 3)]) Tryz.prog X1 100000 60 3 [.agg [.bool false, .bool true, .bool false, .bool false, .bool false, .bool true], .sym 0] (.mk .leaf 6 6) (fin 6) = .yes := by kernel_rfl
theorem doorSubs_c123 : @callK (slI [(0, 7, 4)]) Tryz.prog X1 100000 60 3 [.agg [.bool false, .bool true, .bool false, .bool false, .bool false, .bool true], .sym 0] (.mk .leaf 6 6) (fin 6) = .yes := by kernel_rfl
theorem doorSubs_c124 : @callK (slI [(0, 7, 5)]) Tryz.prog X1 100000 60 3 [.agg [.bool false, .bool true, .bool false, .bool false, .bool false, .bool true], .sym 0] (.mk .leaf 6 6) (fin 6) = .yes := by kernel_rfl
theorem doorSubs_c125 : @callK (slI [(0, 7, 6)]) Tryz.prog X1 100000 60 3 [.agg [.bool false, .bool true, .bool false, .bool false, .bool false, .bool true], .sym 0] (.mk .leaf 6 6) (fin 6) = .yes := by kernel_rfl
theorem doorSubs_c126 : @callK (slI [(0, 7, 0)]) Tryz.prog X1 100000 60 3 [.agg [.bool false, .bool true, .bool false, .bool false, .bool true, .bool false], .sym 0] (.mk .leaf 6 6) (fin 6) = .yes := by kernel_rfl
theorem doorSubs_c127 : @callK (slI [(0, 7, 1)]) Tryz.prog X1 100000 60 3 [.agg [.bool false, .bool true, .bool false, .bool false, .bool true, .bool false], .sym 0] (.mk .leaf 6 6) (fin 6) = .yes := by kernel_rfl
theorem doorSubs_c128 : @callK (slI [(0, 7, 2)]) Tryz.prog X1 100000 60 3 [.agg [.bool false, .bool true, .bool false, .bool false, .bool true, .bool false], .sym 0] (.mk .leaf 6 6) (fin 6) = .yes := by kernel_rfl
theorem doorSubs_c129 : @callK (slI [(0, 7, 3)]) Tryz.prog X1 100000 60 3 [.agg [.bool false, .bool true, .bool false, .bool false, .bool true, .bool false], .sym 0] (.mk .leaf 6 6) (fin 6) = .yes := by kernel_rfl
theorem doorSubs_c130 : @callK (slI [(0, 7, 4)]) Tryz.prog X1 100000 60 3 [.agg [.bool false, .bool true, .bool false, .bool false, .bool true, .bool false], .sym 0] (.mk .leaf 6 6) (fin 6) = .yes := by kernel_rfl
theorem doorSubs_c131 : @callK (slI [(0, 7, 5)]) Tryz.prog X1 100000 60 3 [.agg [.bool false, .bool true, .bool false, .bool false, .bool true, .bool false], .sym 0] (.mk .leaf 6 6) (fin 6) = .yes := by kernel_rfl
theorem doorSubs_c132 : @callK (slI [(0, 7, 6)]) Tryz.prog X1 100000 60 3 [.agg [.bool false, .bool true, .bool false, .bool false, .bool true, .bool false], .sym 0] (.mk .leaf 6 6) (fin 6) = .yes := by kernel_rfl
theorem doorSubs_c133 : @callK (slI [(0, 7, 0)]) Tryz.prog X1 100000 60 3 [.agg [.bool false, .bool true, .bool false, .bool false, .bool true, .bool true], .sym 0] (.mk .leaf 6 6) (fin 6) = .yes := by kernel_rfl
theorem doorSubs_c134 : @callK (slI [(0, 7, 1)]) Tryz.prog X1 100000 60 3 [.agg [.bool false, .bool true, .bool false, .bool false, .bool true, .bool true], .sym 0] (.mk .leaf 6 6) (fin 6) = .yes := by kernel_rfl
theorem doorSubs_c135 : @callK (slI [(0, 7, 2)]) Tryz.prog X1 100000 60 3 [.agg [.bool false, .bool true, .bool false, .bool false, .bool true, .bool true], .sym 0] (.mk .leaf 6 6) (fin 6) = .yes := by kernel_rfl
theorem doorSubs_c136 : @callK (slI [(0, 7, 3)]) Tryz.prog X1 100000 60 3 [.agg [.bool false, .bool true, .bool false, .bool false, .bool true, .bool true], .sym 0] (.mk .leaf 6 6) (fin 6) = .yes := by kernel_rfl
theorem doorSubs_c137 : @callK (slI [(0, 7, 4)]) Tryz.prog X1 100000 60 3 [.agg [.bool false, .bool true, .bool false, .bool false, .bool true, .bool true], .sym 0] (.mk .leaf 6 6) (fin 6) = .yes := by kernel_rfl
theorem doorSubs_c138 : @callK (slI [(0, 7, 5)]) Tryz.prog X1 100000 60 3 [.agg [.bool false, .bool true, .bool false, .bool false, .bool true, .bool true], .sym 0] (.mk .leaf 6 6) (fin 6) = .yes := by kernel_rfl
theorem doorSubs_c139 : @callK (slI [(0, 7, 6)]) Tryz.prog X1 100000 60 3 [.agg [.bool false, .bool true, .bool false, .bool false, .bool true, .bool true], .sym 0] (.mk .leaf 6 6) (fin 6) = .yes := by kernel_rfl
theorem doorSubs_c140 : @callK (slI [(0, 7, 0)]) Tryz.prog X1 100000 60 3 [.agg [.bool false, .bool true, .bool false, .bool true, .bool false, .bool false], .sym 0] (.mk .leaf 6 6) (fin 6) = .yes := by kernel_rfl
theorem doorSubs_c141 : @callK (slI [(0, 7, 1)]) Tryz.prog X1 100000 60 3 [.agg [.bool false, .bool true, .bool false, .bool true, .bool false, .bool false], .sym 0] (.mk .leaf 6 6) (fin 6) = .yes := by kernel_rfl
theorem doorSubs_c142 : @callK (slI [(0, 7, 2)]) Tryz.prog X1 100000 60 3 [.agg [.bool false, .bool true, .bool false, .bool true, .bool false, .bool false], .sym 0] (.mk .leaf 6 6) (fin 6) = .yes := by kernel_rfl
theorem doorSubs_c143 : @callK (slI [(0, 7, 3)]) Tryz.prog X1 100000 60 3 [.agg [.bool false, .bool true, .bool false, .bool true, .bool false, .bool false], .sym 0] (.mk .leaf 6 6) (fin 6) = .yes := by kernel_rfl
theorem doorSubs_c144 : @callK (slI [(0, 7, 4)]) Tryz.prog X1 100000 60 3 [.agg [.bool false, .bool true, .bool false, .bool true, .bool false, .bool false], .sym 0] (.mk .leaf 6 6) (fin 6) = .yes := by kernel_rfl
theorem doorSubs_c145 : @callK (slI [(0, 7, 5)]) Tryz.prog X1 100000 60 3 [.agg [.bool false, .bool true, .bool false, .bool true, .bool false, .bool false], .sym 0] (.mk .leaf 6 6) (fin 6) = .yes := by kernel_rfl
theorem doorSubs_c146 : @callK (slI [(0, 7, 6)]) Tryz.prog X1 100000 60 3 [.agg [.bool false, .bool true, .bool false, .bool true, .bool false, .bool false], .sym 0] (.mk .leaf 6 6) (fin 6) = .yes := by kernel_rfl
theorem doorSubs_c147 : @callK (slI [(0, 7, 0)]) Tryz.prog X1 100000 60 3 [.agg [.bool false, .bool true, .bool false, .bool true, .bool false, .bool true], .sym 0] (.mk .leaf 6 6) (fin 6) = .yes := by kernel_rfl
theorem doorSubs_c148 : @callK (slI [(0, 7, 1)]) Tryz.prog X1 100000 60 3 [.agg [.bool false, .bool true, .bool false, .bool true, .bool false, .bool true], .sym 0] (.mk .leaf 6 6) (fin 6) = .yes := by kernel_rfl
theorem doorSubs_c149 : @callK (slI [(0, 7, 2)]) Tryz.prog X1 100000 60 3 [.agg [.bool false, .bool true, .bool false, .bool true, .bool false, .bool true], .sym 0] (.mk .leaf 6 6) (fin 6) = .yes := by kernel_rfl
theorem doorSubs_c150 : @callK (slI [(0, 7, 3)]) Tryz.prog X1 100000 60 3 [.agg [.bool false, .bool true, .bool false, .bool true, .bool false, .bool true], .sym 0] (.mk .leaf 6 6) (fin 6) = .yes := by kernel_rfl
theorem doorSubs_c151 : @callK (slI [(0, 7, 4)]) Tryz.prog X1 100000 60 3 [.agg [.bool false, .bool true, .bool false, .bool true, .bool false, .bool true], .sym 0] (.mk .leaf 6 6) (fin 6) = .yes := by kernel_rfl
theorem doorSubs_c152 : @callK (slI [(0, 7, 5)]) Tryz.prog X1 100000 60 3 [.agg [.bool false, .bool true, .bool false, .bool true, .bool false, .bool true], .sym 0] (.mk .leaf 6 6) (fin 6) = .yes := by kernel_rfl
theorem doorSubs_c153 : @callK (slI [(0, 7, 6)]) Tryz.prog X1 100000 60 3 [.agg [.bool false, .bool true, .bool false, .bool true, .bool false, .bool true], .sym 0] (.mk .leaf 6 6) (fin 6) = .yes := by kernel_rfl
theorem doorSubs_c154 : @callK (slI [(0, 7, 0)]) Tryz.prog X1 100000 60 3 [.agg [.bool false, .bool true, .bool false, .bool true, .bool true, .bool false], .sym 0] (.mk .leaf 6 6) (fin 6) = .yes := by kernel_rfl
theorem doorSubs_c155 : @callK (slI [(0, 7, 1)]) Tryz.prog X1 100000 60 3 [.agg [.bool false, .bool true, .bool false, .bool true, .bool true, .bool false], .sym 0] (.mk .leaf 6 6) (fin 6) = .yes := by kernel_rfl
theorem doorSubs_c156 : @callK (slI [(0, 7, 2)]) Tryz.prog X1 100000 60 3 [.agg [.bool false, .bool true, .bool false, .bool true, .bool true, .bool false], .sym 0] (.mk .leaf 6 6) (fin 6) = .yes := by kernel_rfl
theorem doorSubs_c157 : @callK (slI [(0, 7, 3)]) Tryz.prog X1 100000 60 3 [.agg [.bool false, .bool true, .bool false, .bool true, .bool true, .bool false], .sym 0] (.mk .leaf 6 6) (fin 6) = .yes := by kernel_rfl
theorem doorSubs_c158 : @callK (slI [(0, 7, 4)]) Tryz.prog X1 100000 60 3 [.agg [.bool false, .bool true, .bool false, .bool true, .bool true, .bool false], .sym 0] (.mk .leaf 6 6) (fin 6) = .yes := by kernel_rfl
theorem doorSubs_c159 : @callK (slI [(0, 7, 5)]) Tryz.prog X1 100000 60 3 [.agg [.bool false, .bool true, .bool false, .bool true, .bool true, .bool false], .sym 0] (.mk .leaf 6 6) (fin 6) = .yes := by kernel_rfl
theorem doorSubs_c160 : @callK (slI [(0, 7, 6)]) Tryz.prog X1 100000 60 3 [.agg [.bool false, .bool true, .bool false, .bool true, .bool true, .bool false], .sym 0] (.mk .leaf 6 6) (fin 6) = .yes := by kernel_rfl
theorem doorSubs_c161 : @callK (slI [(0, 7, 0)]) Tryz.prog X1 100000 60 3 [.agg [.bool false, .bool true, .bool false, .bool true, .bool true, .bool true], .sym 0] (.mk .leaf 6 6) (fin 6) = .yes := by kernel_rfl
theorem doorSubs_c162 : @callK (slI [(0, 7, 1)]) Tryz.prog X1 100000 60 3 [.agg [.bool false, .bool true, .bool false, .bool true, .bool true, .bool true], .sym 0] (.mk .leaf 6 6) (fin 6) = .yes := by kernel_rfl
theorem doorSubs_c163 : @callK (slI [(0, 7, 2)]) Tryz.prog X1 100000 60 3 [.agg [.bool false, .bool true, .bool false, .bool true, .bool true, .bool true], .sym 0] (.mk .leaf 6 6) (fin 6) = .yes := by kernel_rfl
theorem doorSubs_c164 : @callK (slI [(0, 7, 3)]) Tryz.prog X1 100000 60 3 [.agg [.bool false, .bool true, .bool false, .bool true, .bool true, .bool true], .sym 0] (.mk .leaf 6 6) (fin 6) = .yes := by kernel_rfl
theorem doorSubs_c165 : @callK (slI [(0, 7, 4)]) Tryz.prog X1 100000 60 3 [.agg [.bool false, .bool true, .bool false, .bool true, .bool true, .bool true], .sym 0] (.mk .leaf 6 6) (fin 6) = .yes := by kernel_rfl
theorem doorSubs_c166 : @callK (slI [(0, 7, 5)]) Tryz.prog X1 100000 60 3 [.agg [.bool false, .bool true, .bool false, .bool true, .bool true, .bool true], .sym 0] (.mk .leaf 6 6) (fin 6) = .yes := by kernel_rfl
theorem doorSubs_c167 : @callK (slI [(0, 7, 6)]) Tryz.prog X1 100000 60 3 [.agg [.bool false, .bool true, .bool false, .bool true, .bool true, .bool true], .sym 0] (.mk .leaf 6 6) (fin 6) = .yes := by kernel_rfl
end Go.Proofs.YtbeoeghcmabemaaGreatDoor
