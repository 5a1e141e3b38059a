/- Law gossamerlaw26.DoorSubs: its cases, part 4. -/
import Derived.Test.YtbeoeghcmabemaaGreatDoorFin
set_option linter.unusedVariables false
set_option maxRecDepth 100000
namespace Go.Proofs.YtbeoeghcmabemaaGreatDoor
open Go Go.Proofs Go.RowKit Go.Ev
theorem doorSubs_c168 : @callK (slI [(0, 7, 0)]) Tryz.prog X1 100000 60 3 [.agg [.bool false, .bool true, .bool true, .bool false, .bool false, .bool false], .sym 0] (.mk .leaf 6 6) (fin 6) = .yes := by kernel_rfl
theorem doorSubs_c169 : @callK (slI [(0, 7, 1)]) Tryz.prog X1 100000 60 3 [.agg [.bool false, .bool true, .bool true, .bool false, .bool false, .bool false], .sym 0] (.mk .leaf 6 6) (fin 6) = .yes := by kernel_rfl
theorem doorSubs_c170 : @callK (slI [(0, 7, 2)]) Tryz.prog X1 100000 60 3 [.agg [.bool false, .bool true, .bool true, .bool false, .bool false, .bool false], .sym 0] (.mk .leaf 6 6) (fin 6) = .yes := by kernel_rfl
theorem doorSubs_c171 : @callK (slI [(0, 7, 3)]) Tryz.prog X1 100000 60 3 [.agg [.bool false, .bool true, .bool true, .bool false, .bool false, .bool false], .sym 0] (.mk .leaf 6 6) (fin 6) = .yes := by kernel_rfl
theorem doorSubs_c172 : @callK (slI [(0, 7, 4)]) Tryz.prog X1 100000 60 3 [.agg [.bool false, .bool true, .bool true, .bool false, .bool false, .bool false], .sym 0] (.mk .leaf 6 6) (fin 6) = .yes := by kernel_rfl
theorem doorSubs_c173 : @callK (slI [(0, 7, 5)]) Tryz.prog X1 100000 60 3 [.agg [.bool false, .bool true, .bool true, .bool false, .bool false, .bool false], .sym 0] (.mk .leaf 6 6) (fin 6) = .yes := by kernel_rfl
theorem doorSubs_c174 : @callK (slI [(0, 7, 6)]) Tryz.prog X1 100000 60 3 [.agg [.bool false, .bool true, .bool true, .bool false, .bool false, .bool false], .sym 0] (.mk .leaf 6 6) (fin 6) = .yes := by kernel_rfl
theorem doorSubs_c175 : @callK (slI [(0, 7, 0)]) Tryz.prog X1 100000 60 3 [.agg [.bool false, .bool true, .bool true, .bool false, .bool false, .bool true], .sym 0] (.mk .leaf 6 6) (fin 6) = .yes := by kernel_rfl
theorem doorSubs_c176 : @callK (slI [(0, 7, 1)]) Tryz.prog X1 100000 60 3 [.agg [.bool false, .bool true, .bool true, .bool false, .bool false, .bool true], .sym 0] (.mk .leaf 6 6) (fin 6) = .yes := by kernel_rfl
theorem doorSubs_c177 : @callK (slI [(0, 7, 2)]) Tryz.prog X1 100000 60 3 [.agg [.bool false, .bool true, .bool true, .bool false, .bool false, .bool true], .sym 0] (.mk .leaf 6 6) (fin 6) = .yes := by kernel_rfl
theorem doorSubs_c178 : @callK (slI [(0, 7, 3)]) Tryz.prog X1 100000 60 3 [.agg [.bool false, .bool true, .bool true, .bool false, .bool false, .bool true], .sym 0] (.mk .leaf 6 6) (fin 6) = .yes := by kernel_rfl
theorem doorSubs_c179 : @callK (slI [(0, 7, 4)]) Tryz.prog X1 100000 60 3 [.agg [.bool false, .bool true, .bool true, .bool false, .bool false, .bool true], .sym 0] (.mk .leaf 6 6) (fin 6) = .yes := by kernel_rfl
theorem doorSubs_c180 : @callK (slI [(0, 7, 5)]) Tryz.prog X1 100000 60 3 [.agg [.bool false, .bool true, .bool true, .bool false, .bool false, .bool true], .sym 0] (.mk .leaf 6 6) (fin 6) = .yes := by kernel_rfl
theorem doorSubs_c181 : @callK (slI [(0, 7, 6)]) Tryz.prog X1 100000 60 3 [.agg [.bool false, .bool true, .bool true, .bool false, .bool false, .bool true], .sym 0] (.mk .leaf 6 6) (fin 6) = .yes := by kernel_rfl
theorem doorSubs_c182 : @callK (slI [(0, 7, 0)]) Tryz.prog X1 100000 60 3 [.agg [.bool false, .bool true, .bool true, .bool false, .bool true, .bool false], .sym 0] (.mk .leaf 6 6) (fin 6) = .yes := by kernel_rfl
theorem doorSubs_c183 : @callK (slI [(0, 7, 1)]) Tryz.prog X1 100000 60 3 [.agg [.bool false, .bool true, .bool true, .bool false, .bool true, .bool false], .sym 0] (.mk .leaf 6 6) (fin 6) = .yes := by kernel_rfl
theorem doorSubs_c184 : @callK (slI [(0, 7, 2)]) Tryz.prog X1 100000 60 3 [.agg [.bool false, .bool true, .bool true, .bool false, .bool true, .bool false], .sym 0] (.mk .leaf 6 6) (fin 6) = .yes := by kernel_rfl
theorem doorSubs_c185 : @callK (slI [(0, 7, 3)]) Tryz.prog X1 100000 60 3 [.agg [.bool false, .bool true, .bool true, .bool false, .bool true, .bool false], .sym 0] (.mk .leaf 6 6) (fin 6) = .yes := by kernel_rfl
theorem doorSubs_c186 : @callK (slI [(0, 7, 4)]) Tryz.prog X1 100000 60 3 [.agg [.bool false, .bool true, .bool true, .bool false, .bool true, .bool false], .sym 0] (.mk .leaf 6 6) (fin 6) = .yes := by kernel_rfl
theorem doorSubs_c187 : @callK (slI [(0, 7, 5)]) Tryz.prog X1 100000 60 3 [.agg [.bool false, .bool true, .bool true, .bool false, .bool true, .bool false], .sym 0] (.mk .leaf 6 6) (fin 6) = .yes := by kernel_rfl
theorem doorSubs_c188 : @callK (slI [(0, 7, 6)]) Tryz.prog X1 100000 60 3 [.agg [.bool false, .bool true, .bool true, .bool false, .bool true, .bool false], .sym 0] (.mk .leaf 6 6) (fin 6) = .yes := by kernel_rfl
theorem doorSubs_c189 : @callK (slI [(0, 7, 0)]) Tryz.prog X1 100000 60 3 [.agg [.bool false, .bool true, .bool true, .bool false, .bool true, .bool true], .sym 0] (.mk .leaf 6 6) (fin 6) = .yes := by kernel_rfl
theorem doorSubs_c190 : @callK (slI [(0, 7, 1)]) Tryz.prog X1 100000 60 3 [.agg [.bool false, .bool true, .bool true, .bool false, .bool true, .bool true], .sym 0] (.mk .leaf 6 6) (fin 6) = .yes := by kernel_rfl
theorem doorSubs_c191 : @callK (slI [(0, 7, 2)]) Tryz.prog X1 100000 60 3 [.agg [.bool false, .bool true, .bool true, .bool false, .bool true, .bool true], .sym 0] (.mk .leaf 6 6) (fin 6) = .yes := by kernel_rfl
theorem doorSubs_c192 : @callK (slI [(0, 7, 3)]) Tryz.prog X1 100000 60 3 [.agg [.bool false, .bool true, .bool true, .bool false, .bool true, .bool true], .sym 0] (.mk .leaf 6 6) (fin 6) = .yes := by kernel_rfl
theorem doorSubs_c193 : @callK (slI [(0, 7, 4)]) Tryz.prog X1 100000 60 3 [.agg [.bool false, .bool true, .bool true, .bool false, .bool true, .bool true], .sym 0] (.mk .leaf 6 6) (fin 6) = .yes := by kernel_rfl
theorem doorSubs_c194 : @callK (slI [(0, 7, 5)]) Tryz.prog X1 100000 60 3 [.agg [.bool false, .bool true, .bool true, .bool false, .bool true, .bool true], .sym 0] (.mk .leaf 6 6) (fin 6) = .yes := by kernel_rfl
theorem doorSubs_c195 : @callK (slI [(0, 7, 6)]) Tryz.prog X1 100000 60 3 [.agg [.bool false, .bool true, .bool true, .bool false, .bool true, .bool true], .sym 0] (.mk .leaf 6 6) (fin 6) = .yes := by kernel_rfl
theorem doorSubs_c196 : @callK (slI [(0, 7, 0)]) Tryz.prog X1 100000 60 3 [.agg [.bool false, .bool true, .bool true, .bool true, .bool false, .bool false], .sym 0] (.mk .leaf 6 6) (fin 6) = .yes := by kernel_rfl
theorem doorSubs_c197 : @callK (slI [(0, 7, 1)]) Tryz.prog X1 100000 60 3 [.agg [.bool false, .bool true, .bool true, .bool true, .bool false, .bool false], .sym 0] (.mk .leaf 6 6) (fin 6) = .yes := by kernel_rfl
theorem doorSubs_c198 : @callK (slI [(0, 7, 2)]) Tryz.prog X1 100000 60 3 [.agg [.bool false, .bool true, .bool true, .bool true, .bool false, .bool false], .sym 0] (.mk .leaf 6 6) (fin 6) = .yes := by kernel_rfl
theorem doorSubs_c199 : @callK (slI [(0, 7, 3)]) Tryz.prog X1 100000 60 3 [.agg [.bool false, .bool true, .bool true, .bool true, .bool false, .bool false], .sym 0] (.mk .leaf 6 6) (fin 6) = .yes := by kernel_rfl
theorem doorSubs_c200 : @callK (slI [(0, 7, 4)]) Tryz.prog X1 100000 60 3 [.agg [.bool false, .bool true, .bool true, .bool true, .bool false, .bool false], .sym 0] (.mk .leaf 6 6) (fin 6) = .yes := by kernel_rfl
theorem doorSubs_c201 : @callK (slI [(0, 7, 5)]) Tryz.prog X1 100000 60 3 [.agg [.bool false, .bool true, .bool true, .bool true, .bool false, .bool false], .sym 0] (.mk .leaf 6 6) (fin 6) = .yes := by kernel_rfl
theorem doorSubs_c202 : @callK (slI [(0, 7, 6)]) Tryz.prog X1 100000 60 3 [.agg [.bool false, .bool true, .bool true, .bool true, .bool false, .bool false], .sym 0] (.mk .leaf 6 6) (fin 6) = .yes := by kernel_rfl
theorem doorSubs_c203 : @callK (slI [(0, 7, 0)]) Tryz.prog X1 100000 60 3 [.agg [.bool false, .bool true, .bool true, .bool true, .bool false, .bool true], .sym 0] (.mk .leaf 6 6) (fin 6) = .yes := by kernel_rfl
theorem doorSubs_c204 : @callK (slI [(0, 7, 1)]) Tryz.prog X1 100000 60 3 [.agg [.bool false, .bool true, .bool true, .bool true, .bool false, .bool true], .sym 0] (.mk .leaf 6 6) (fin 6) = .yes := by kernel_rfl
theorem doorSubs_c205 : @callK (slI [(0, 7, 2)]) Tryz.prog X1 100000 60 3 [.agg [.bool false, .bool true, .bool true, .bool true, .bool false, .bool true], .sym 0] (.mk .leaf 6 6) (fin 6) = .yes := by kernel_rfl
theorem doorSubs_c206 : @callK (slI [(0, 7, 3)]) Tryz.prog X1 100000 60 3 [.agg [.bool false, .bool true, .bool true, .bool true, .bool false, .bool true], .sym 0] (.mk .leaf 6 6) (fin 6) = .yes := by kernel_rfl
theorem doorSubs_c207 : @callK (slI [(0, 7, 4)]) Tryz.prog X1 100000 60 3 [.agg [.bool false, .bool true, .bool true, .bool true, .bool false, .bool true], .sym 0] (.mk .leaf 6 6) (fin 6) = .yes := by kernel_rfl
theorem doorSubs_c208 : @callK (slI [(0, 7, 5)]) Tryz.prog X1 100000 60 3 [.agg [.bool false, .bool true, .bool true, .bool true, .bool false, .bool true], .sym 0] (.mk .leaf 6 6) (fin 6) = .yes := by kernel_rfl
theorem doorSubs_c209 : @callK (slI [(0, 7, 6)]) Tryz.prog X1 100000 60 3 [.agg [.bool false, .bool true, .bool true, .bool true, .bool false, .bool true], .sym 0] (.mk .leaf 6 6) (fin 6) = .yes := by kernel_rfl
theorem doorSubs_c210 : @callK (slI [(0, 7, 0)]) Tryz.prog X1 100000 60 3 [.agg [.bool false, .bool true, .bool true, .bool true, .bool true, .bool false], .sym 0] (.mk .leaf 6 6) (fin 6) = .yes := by kernel_rfl
theorem doorSubs_c211 : @callK (slI [(0, 7, 1)]) Tryz.prog X1 100000 60 3 [.agg [.bool false, .bool true, .bool true, .bool true, .bool true, .bool false], .sym 0] (.mk .leaf 6 6) (fin 6) = .yes := by kernel_rfl
theorem doorSubs_c212 : @callK (slI [(0, 7, 2)]) Tryz.prog X1 100000 60 3 [.agg [.bool false, .bool true, .bool true, .bool true, .bool true, .bool false], .sym 0] (.mk .leaf 6 6) (fin 6) = .yes := by kernel_rfl
theorem doorSubs_c213 : @callK (slI [(0, 7, 3)]) Tryz.prog X1 100000 60 3 [.agg [.bool false, .bool true, .bool true, .bool true, .bool true, .bool false], .sym 0] (.mk .leaf 6 6) (fin 6) = .yes := by kernel_rfl
theorem doorSubs_c214 : @callK (slI [(0, 7, 4)]) Tryz.prog X1 100000 60 3 [.agg [.bool false, .bool true, .bool true, .bool true, .bool true, .bool false], .sym 0] (.mk .leaf 6 6) (fin 6) = .yes := by kernel_rfl
theorem doorSubs_c215 : @callK (slI [(0, 7, 5)]) Tryz.prog X1 100000 60 3 [.agg [.bool false, .bool true, .bool true, .bool true, .bool true, .bool false], .sym 0] (.mk .leaf 6 6) (fin 6) = .yes := by kernel_rfl
theorem doorSubs_c216 : @callK (slI [(0, 7, 6)]) Tryz.prog X1 100000 60 3 [.agg [.bool false, .bool true, .bool true, .bool true, .bool true, .bool false], .sym 0] (.mk .leaf 6 6) (fin 6) = .yes := by kernel_rfl
theorem doorSubs_c217 : @callK (slI [(0, 7, 0)]) Tryz.prog X1 100000 60 3 [.agg [.bool false, .bool true, .bool true, .bool true, .bool true, .bool true], .sym 0] (.mk .leaf 6 6) (fin 6) = .yes := by kernel_rfl
theorem doorSubs_c218 : @callK (slI [(0, 7, 1)]) Tryz.prog X1 100000 60 3 [.agg [.bool false, .bool true, .bool true, .bool true, .bool true, .bool true], .sym 0] (.mk .leaf 6 6) (fin 6) = .yes := by kernel_rfl
theorem doorSubs_c219 : @callK (slI [(0, 7, 2)]) Tryz.prog X1 100000 60 3 [.agg [.bool false, .bool true, .bool true, .bool true, .bool true, .bool true], .sym 0] (.mk .leaf 6 6) (fin 6) = .yes := by kernel_rfl
theorem doorSubs_c220 : @callK (slI [(0, 7, 3)]) Tryz.prog X1 100000 60 3 [.agg [.bool false, .bool true, .bool true, .bool true, .bool true, .bool true], .sym 0] (.mk .leaf 6 6) (fin 6) = .yes := by kernel_rfl
theorem doorSubs_c221 : @callK (slI [(0, 7, 4)]) Tryz.prog X1 100000 60 3 [.agg [.bool false, .bool true, .bool true, .bool true, .bool true, .bool true], .sym 0] (.mk .leaf 6 6) (fin 6) = .yes := by kernel_rfl
theorem doorSubs_c222 : @callK (slI [(0, 7, 5)]) Tryz.prog X1 100000 60 3 [.agg [.bool false, .bool true, .bool true, .bool true, .bool true, .bool true], .sym 0] (.mk .leaf 6 6) (fin 6) = .yes := by kernel_rfl
theorem doorSubs_c223 : @callK (slI [(0, 7, 6)]) Tryz.prog X1 100000 60 3 [.agg [.bool false, .bool true, .bool true, .bool true, .bool true, .bool true], .sym 0] (.mk .leaf 6 6) (fin 6) = .yes := by kernel_rfl
end Go.Proofs.YtbeoeghcmabemaaGreatDoor
