/- Law gossamerlaw26.DoorSubs: its cases, part 5. -/
import Derived.Test.YtbeoeghcmabemaaGreatDoorFin
set_option linter.unusedVariables false
set_option maxRecDepth 100000
namespace Go.Proofs.YtbeoeghcmabemaaGreatDoor
open Go Go.Proofs Go.RowKit Go.Ev
theorem doorSubs_c224 : @callK (slI [(0, 7, 0)]) Tryz.prog X1 100000 60 3 [.agg [.bool true, .bool false, .bool false, .bool false, .bool false, .bool false], .sym 0] (.mk .leaf 6 6) (fin 6) = .yes := by kernel_rfl
theorem doorSubs_c225 : @callK (slI [(0, 7, 1)]) Tryz.prog X1 100000 60 3 [.agg [.bool true, .bool false, .bool false, .bool false, .bool false, .bool false], .sym 0] (.mk .leaf 6 6) (fin 6) = .yes := by kernel_rfl
theorem doorSubs_c226 : @callK (slI [(0, 7, 2)]) Tryz.prog X1 100000 60 3 [.agg [.bool true, .bool false, .bool false, .bool false, .bool false, .bool false], .sym 0] (.mk .leaf 6 6) (fin 6) = .yes := by kernel_rfl
theorem doorSubs_c227 : @callK (slI [(0, 7, 3)]) Tryz.prog X1 100000 60 3 [.agg [.bool true, .bool false, .bool false, .bool false, .bool false, .bool false], .sym 0] (.mk .leaf 6 6) (fin 6) = .yes := by kernel_rfl
theorem doorSubs_c228 : @callK (slI [(0, 7, 4)]) Tryz.prog X1 100000 60 3 [.agg [.bool true, .bool false, .bool false, .bool false, .bool false, .bool false], .sym 0] (.mk .leaf 6 6) (fin 6) = .yes := by kernel_rfl
theorem doorSubs_c229 : @callK (slI [(0, 7, 5)]) Tryz.prog X1 100000 60 3 [.agg [.bool true, .bool false, .bool false, .bool false, .bool false, .bool false], .sym 0] (.mk .leaf 6 6) (fin 6) = .yes := by kernel_rfl
theorem doorSubs_c230 : @callK (slI [(0, 7, 6)]) Tryz.prog X1 100000 60 3 [.agg [.bool true, .bool false, .bool false, .bool false, .bool false, .bool false], .sym 0] (.mk .leaf 6 6) (fin 6) = .yes := by kernel_rfl
theorem doorSubs_c231 : @callK (slI [(0, 7, 0)]) Tryz.prog X1 100000 60 3 [.agg [.bool true, .bool false, .bool false, .bool false, .bool false, .bool true], .sym 0] (.mk .leaf 6 6) (fin 6) = .yes := by kernel_rfl
theorem doorSubs_c232 : @callK (slI [(0, 7, 1)]) Tryz.prog X1 100000 60 3 [.agg [.bool true, .bool false, .bool false, .bool false, .bool false, .bool true], .sym 0] (.mk .leaf 6 6) (fin 6) = .yes := by kernel_rfl
theorem doorSubs_c233 : @callK (slI [(0, 7, 2)]) Tryz.prog X1 100000 60 3 [.agg [.bool true, .bool false, .bool false, .bool false, .bool false, .bool true], .sym 0] (.mk .leaf 6 6) (fin 6) = .yes := by kernel_rfl
theorem doorSubs_c234 : @callK (slI [(0, 7, 3)]) Tryz.prog X1 100000 60 3 [.agg [.bool true, .bool false, .bool false, .bool false, .bool false, .bool true], .sym 0] (.mk .leaf 6 6) (fin 6) = .yes := by kernel_rfl
theorem doorSubs_c235 : @callK (slI [(0, 7, 4)]) Tryz.prog X1 100000 60 3 [.agg [.bool true, .bool false, .bool false, .bool false, .bool false, .bool true], .sym 0] (.mk .leaf 6 6) (fin 6) = .yes := by kernel_rfl
theorem doorSubs_c236 : @callK (slI [(0, 7, 5)]) Tryz.prog X1 100000 60 3 [.agg [.bool true, .bool false, .bool false, .bool false, .bool false, .bool true], .sym 0] (.mk .leaf 6 6) (fin 6) = .yes := by kernel_rfl
theorem doorSubs_c237 : @callK (slI [(0, 7, 6)]) Tryz.prog X1 100000 60 3 [.agg [.bool true, .bool false, .bool false, .bool false, .bool false, .bool true], .sym 0] (.mk .leaf 6 6) (fin 6) = .yes := by kernel_rfl
theorem doorSubs_c238 : @callK (slI [(0, 7, 0)]) Tryz.prog X1 100000 60 3 [.agg [.bool true, .bool false, .bool false, .bool false, .bool true, .bool false], .sym 0] (.mk .leaf 6 6) (fin 6) = .yes := by kernel_rfl
theorem doorSubs_c239 : @callK (slI [(0, 7, 1)]) Tryz.prog X1 100000 60 3 [.agg [.bool true, .bool false, .bool false, .bool false, .bool true, .bool false], .sym 0] (.mk .leaf 6 6) (fin 6) = .yes := by kernel_rfl
theorem doorSubs_c240 : @callK (slI [(0, 7, 2)]) Tryz.prog X1 100000 60 3 [.agg [.bool true, .bool false, .bool false, .bool false, .bool true, .bool false], .sym 0] (.mk .leaf 6 6) (fin 6) = .yes := by kernel_rfl
theorem doorSubs_c241 : @callK (slI [(0, 7, 3)]) Tryz.prog X1 100000 60 3 [.agg [.bool true, .bool false, .bool false, .bool false, .bool true, .bool false], .sym 0] (.mk .leaf 6 6) (fin 6) = .yes := by kernel_rfl
theorem doorSubs_c242 : @callK (slI [(0, 7, 4)]) Tryz.prog X1 100000 60 3 [.agg [.bool true, .bool false, .bool false, .bool false, .bool true, .bool false], .sym 0] (.mk .leaf 6 6) (fin 6) = .yes := by kernel_rfl
theorem doorSubs_c243 : @callK (slI [(0, 7, 5)]) Tryz.prog X1 100000 60 3 [.agg [.bool true, .bool false, .bool false, .bool false, .bool true, .bool false], .sym 0] (.mk .leaf 6 6) (fin 6) = .yes := by kernel_rfl
theorem doorSubs_c244 : @callK (slI [(0, 7, 6)]) Tryz.prog X1 100000 60 3 [.agg [.bool true, .bool false, .bool false, .bool false, .bool true, .bool false], .sym 0] (.mk .leaf 6 6) (fin 6) = .yes := by kernel_rfl
theorem doorSubs_c245 : @callK (slI [(0, 7, 0)]) Tryz.prog X1 100000 60 3 [.agg [.bool true, .bool false, .bool false, .bool false, .bool true, .bool true], .sym 0] (.mk .leaf 6 6) (fin 6) = .yes := by kernel_rfl
theorem doorSubs_c246 : @callK (slI [(0, 7, 1)]) Tryz.prog X1 100000 60 3 [.agg [.bool true, .bool false, .bool false, .bool false, .bool true, .bool true], .sym 0] (.mk .leaf 6 6) (fin 6) = .yes := by kernel_rfl
theorem doorSubs_c247 : @callK (slI [(0, 7, 2)]) Tryz.prog X1 100000 60 3 [.agg [.bool true, .bool false, .bool false, .bool false, .bool true, .bool true], .sym 0] (.mk .leaf 6 6) (fin 6) = .yes := by kernel_rfl
theorem doorSubs_c248 : @callK (slI [(0, 7, 3)]) Tryz.prog X1 100000 60 3 [.agg [.bool true, .bool false, .bool false, .bool false, .bool true, .bool true], .sym 0] (.mk .leaf 6 6) (fin 6) = .yes := by kernel_rfl
theorem doorSubs_c249 : @callK (slI [(0, 7, 4)]) Tryz.prog X1 100000 60 3 [.agg [.bool true, .bool false, .bool false, .bool false, .bool true, .bool true], .sym 0] (.mk .leaf 6 6) (fin 6) = .yes := by kernel_rfl
theorem doorSubs_c250 : @callK (slI [(0, 7, 5)]) Tryz.prog X1 100000 60 3 [.agg [.bool true, .bool false, .bool false, .bool false, .bool true, .bool true], .sym 0] (.mk .leaf 6 6) (fin 6) = .yes := by kernel_rfl
theorem doorSubs_c251 : @callK (slI [(0, 7, 6)]) Tryz.prog X1 100000 60 3 [.agg [.bool true, .bool false, .bool false, .bool false, .bool true, .bool true], .sym 0] (.mk .leaf 6 6) (fin 6) = .yes := by kernel_rfl
theorem doorSubs_c252 : @callK (slI [(0, 7, 0)]) Tryz.prog X1 100000 60 3 [.agg [.bool true, .bool false, .bool false, .bool true, .bool false, .bool false], .sym 0] (.mk .leaf 6 6) (fin 6) = .yes := by kernel_rfl
theorem doorSubs_c253 : @callK (slI [(0, 7, 1)]) Tryz.prog X1 100000 60 3 [.agg [.bool true, .bool false, .bool false, .bool true, .bool false, .bool false], .sym 0] (.mk .leaf 6 6) (fin 6) = .yes := by kernel_rfl
theorem doorSubs_c254 : @callK (slI [(0, 7, 2)]) Tryz.prog X1 100000 60 3 [.agg [.bool true, .bool false, .bool false, .bool true, .bool false, .bool false], .sym 0] (.mk .leaf 6 6) (fin 6) = .yes := by kernel_rfl
theorem doorSubs_c255 : @callK (slI [(0, 7, 3)]) Tryz.prog X1 100000 60 3 [.agg [.bool true, .bool false, .bool false, .bool true, .bool false, .bool false], .sym 0] (.mk .leaf 6 6) (fin 6) = .yes := by kernel_rfl
theorem doorSubs_c256 : @callK (slI [(0, 7, 4)]) Tryz.prog X1 100000 60 3 [.agg [.bool true, .bool false, .bool false, .bool true, .bool false, .bool false], .sym 0] (.mk .leaf 6 6) (fin 6) = .yes := by kernel_rfl
theorem doorSubs_c257 : @callK (slI [(0, 7, 5)]) Tryz.prog X1 100000 60 3 [.agg [.bool true, .bool false, .bool false, .bool true, .bool false, .bool false], .sym 0] (.mk .leaf 6 6) (fin 6) = .yes := by kernel_rfl
theorem doorSubs_c258 : @callK (slI [(0, 7, 6)]) Tryz.prog X1 100000 60 3 [.agg [.bool true, .bool false, .bool false, .bool true, .bool false, .bool false], .sym 0] (.mk .leaf 6 6) (fin 6) = .yes := by kernel_rfl
theorem doorSubs_c259 : @callK (slI [(0, 7, 0)]) Tryz.prog X1 100000 60 3 [.agg [.bool true, .bool false, .bool false, .bool true, .bool false, .bool true], .sym 0] (.mk .leaf 6 6) (fin 6) = .yes := by kernel_rfl
theorem doorSubs_c260 : @callK (slI [(0, 7, 1)]) Tryz.prog X1 100000 60 3 [.agg [.bool true, .bool false, .bool false, .bool true, .bool false, .bool true], .sym 0] (.mk .leaf 6 6) (fin 6) = .yes := by kernel_rfl
theorem doorSubs_c261 : @callK (slI [(0, 7, 2)]) Tryz.prog X1 100000 60 3 [.agg [.bool true, .bool false, .bool false, .bool true, .bool false, .bool true], .sym 0] (.mk .leaf 6 6) (fin 6) = .yes := by kernel_rfl
theorem doorSubs_c262 : @callK (slI [(0, 7, 3)]) Tryz.prog X1 100000 60 3 [.agg [.bool true, .bool false, .bool false, .bool true, .bool false, .bool true], .sym 0] (.mk .leaf 6 6) (fin 6) = .yes := by kernel_rfl
theorem doorSubs_c263 : @callK (slI [(0, 7, 4)]) Tryz.prog X1 100000 60 3 [.agg [.bool true, .bool false, .bool false, .bool true, .bool false, .bool true], .sym 0] (.mk .leaf 6 6) (fin 6) = .yes := by kernel_rfl
theorem doorSubs_c264 : @callK (slI [(0, 7, 5)]) Tryz.prog X1 100000 60 3 [.agg [.bool true, .bool false, .bool false, .bool true, .bool false, .bool true], .sym 0] (.mk .leaf 6 6) (fin 6) = .yes := by kernel_rfl
theorem doorSubs_c265 : @callK (slI [(0, 7, 6)]) Tryz.prog X1 100000 60 3 [.agg [.bool true, .bool false, .bool false, .bool true, .bool false, .bool true], .sym 0] (.mk .leaf 6 6) (fin 6) = .yes := by kernel_rfl
theorem doorSubs_c266 : @callK (slI [(0, 7, 0)]) Tryz.prog X1 100000 60 3 [.agg [.bool true, .bool false, .bool false, .bool true, .bool true, .bool false], .sym 0] (.mk .leaf 6 6) (fin 6) = .yes := by kernel_rfl
theorem doorSubs_c267 : @callK (slI [(0, 7, 1)]) Tryz.prog X1 100000 60 3 [.agg [.bool true, .bool false, .bool false, .bool true, .bool true, .bool false], .sym 0] (.mk .leaf 6 6) (fin 6) = .yes := by kernel_rfl
theorem doorSubs_c268 : @callK (slI [(0, 7, 2)]) Tryz.prog X1 100000 60 3 [.agg [.bool true, .bool false, .bool false, .bool true, .bool true, .bool false], .sym 0] (.mk .leaf 6 6) (fin 6) = .yes := by kernel_rfl
theorem doorSubs_c269 : @callK (slI [(0, 7, 3)]) Tryz.prog X1 100000 60 3 [.agg [.bool true, .bool false, .bool false, .bool true, .bool true, .bool false], .sym 0] (.mk .leaf 6 6) (fin 6) = .yes := by kernel_rfl
theorem doorSubs_c270 : @callK (slI [(0, 7, 4)]) Tryz.prog X1 100000 60 3 [.agg [.bool true, .bool false, .bool false, .bool true, .bool true, .bool false], .sym 0] (.mk .leaf 6 6) (fin 6) = .yes := by kernel_rfl
theorem doorSubs_c271 : @callK (slI [(0, 7, 5)]) Tryz.prog X1 100000 60 3 [.agg [.bool true, .bool false, .bool false, .bool true, .bool true, .bool false], .sym 0] (.mk .leaf 6 6) (fin 6) = .yes := by kernel_rfl
theorem doorSubs_c272 : @callK (slI [(0, 7, 6)]) Tryz.prog X1 100000 60 3 [.agg [.bool true, .bool false, .bool false, .bool true, .bool true, .bool false], .sym 0] (.mk .leaf 6 6) (fin 6) = .yes := by kernel_rfl
theorem doorSubs_c273 : @callK (slI [(0, 7, 0)]) Tryz.prog X1 100000 60 3 [.agg [.bool true, .bool false, .bool false, .bool true, .bool true, .bool true], .sym 0] (.mk .leaf 6 6) (fin 6) = .yes := by kernel_rfl
theorem doorSubs_c274 : @callK (slI [(0, 7, 1)]) Tryz.prog X1 100000 60 3 [.agg [.bool true, .bool false, .bool false, .bool true, .bool true, .bool true], .sym 0] (.mk .leaf 6 6) (fin 6) = .yes := by kernel_rfl
theorem doorSubs_c275 : @callK (slI [(0, 7, 2)]) Tryz.prog X1 100000 60 3 [.agg [.bool true, .bool false, .bool false, .bool true, .bool true, .bool true], .sym 0] (.mk .leaf 6 6) (fin 6) = .yes := by kernel_rfl
theorem doorSubs_c276 : @callK (slI [(0, 7, 3)]) Tryz.prog X1 100000 60 3 [.agg [.bool true, .bool false, .bool false, .bool true, .bool true, .bool true], .sym 0] (.mk .leaf 6 6) (fin 6) = .yes := by kernel_rfl
theorem doorSubs_c277 : @callK (slI [(0, 7, 4)]) Tryz.prog X1 100000 60 3 [.agg [.bool true, .bool false, .bool false, .bool true, .bool true, .bool true], .sym 0] (.mk .leaf 6 6) (fin 6) = .yes := by kernel_rfl
theorem doorSubs_c278 : @callK (slI [(0, 7, 5)]) Tryz.prog X1 100000 60 3 [.agg [.bool true, .bool false, .bool false, .bool true, .bool true, .bool true], .sym 0] (.mk .leaf 6 6) (fin 6) = .yes := by kernel_rfl
theorem doorSubs_c279 : @callK (slI [(0, 7, 6)]) Tryz.prog X1 100000 60 3 [.agg [.bool true, .bool false, .bool false, .bool true, .bool true, .bool true], .sym 0] (.mk .leaf 6 6) (fin 6) = .yes := by kernel_rfl
end Go.Proofs.YtbeoeghcmabemaaGreatDoor
