/- Law gossamerlaw26.DoorSubs: its cases, part 7. -/
import Derived.Test.YtbeoeghcmabemaaGreatDoorFin
set_option linter.unusedVariables false
set_option maxRecDepth 100000
namespace Go.Proofs.YtbeoeghcmabemaaGreatDoor
open Go Go.Proofs Go.RowKit Go.Ev
theorem doorSubs_c336 : @callK (slI [(0, 7, 0)]) Tryz.prog X1 100000 60 3 [.agg [.bool true, .bool true, .bool false, .bool false, .bool false, .bool false], .sym 0] (.mk .leaf 6 6) (fin 6) = .yes := by kernel_rfl
theorem doorSubs_c337 : @callK (slI [(0, 7, 1)]) Tryz.prog X1 100000 60 3 [.agg [.bool true, .bool true, .bool false, .bool false, .bool false, .bool false], .sym 0] (.mk .leaf 6 6) (fin 6) = .yes := by kernel_rfl
theorem doorSubs_c338 : @callK (slI [(0, 7, 2)]) Tryz.prog X1 100000 60 3 [.agg [.bool true, .bool true, .bool false, .bool false, .bool false, .bool false], .sym 0] (.mk .leaf 6 6) (fin 6) = .yes := by kernel_rfl
theorem doorSubs_c339 : @callK (slI [(0, 7, 3)]) Tryz.prog X1 100000 60 3 [.agg [.bool true, .bool true, .bool false, .bool false, .bool false, .bool false], .sym 0] (.mk .leaf 6 6) (fin 6) = .yes := by kernel_rfl
theorem doorSubs_c340 : @callK (slI [(0, 7, 4)]) Tryz.prog X1 100000 60 3 [.agg [.bool true, .bool true, .bool false, .bool false, .bool false, .bool false], .sym 0] (.mk .leaf 6 6) (fin 6) = .yes := by kernel_rfl
theorem doorSubs_c341 : @callK (slI [(0, 7, 5)]) Tryz.prog X1 100000 60 3 [.agg [.bool true, .bool true, .bool false, .bool false, .bool false, .bool false], .sym 0] (.mk .leaf 6 6) (fin 6) = .yes := by kernel_rfl
theorem doorSubs_c342 : @callK (slI [(0, 7, 6)]) Tryz.prog X1 100000 60 3 [.agg [.bool true, .bool true, .bool false, .bool false, .bool false, .bool false], .sym 0] (.mk .leaf 6 6) (fin 6) = .yes := by kernel_rfl
theorem doorSubs_c343 : @callK (slI [(0, 7, 0)]) Tryz.prog X1 100000 60 3 [.agg [.bool true, .bool true, .bool false, .bool false, .bool false, .bool true], .sym 0] (.mk .leaf 6 6) (fin 6) = .yes := by kernel_rfl
theorem doorSubs_c344 : @callK (slI [(0, 7, 1)]) Tryz.prog X1 100000 60 3 [.agg [.bool true, .bool true, .bool false, .bool false, .bool false, .bool true], .sym 0] (.mk .leaf 6 6) (fin 6) = .yes := by kernel_rfl
theorem doorSubs_c345 : @callK (slI [(0, 7, 2)]) Tryz.prog X1 100000 60 3 [.agg [.bool true, .bool true, .bool false, .bool false, .bool false, .bool true], .sym 0] (.mk .leaf 6 6) (fin 6) = .yes := by kernel_rfl
theorem doorSubs_c346 : @callK (slI [(0, 7, 3)]) Tryz.prog X1 100000 60 3 [.agg [.bool true, .bool true, .bool false, .bool false, .bool false, .bool true], .sym 0] (.mk .leaf 6 6) (fin 6) = .yes := by kernel_rfl
theorem doorSubs_c347 : @callK (slI [(0, 7, 4)]) Tryz.prog X1 100000 60 3 [.agg [.bool true, .bool true, .bool false, .bool false, .bool false, .bool true], .sym 0] (.mk .leaf 6 6) (fin 6) = .yes := by kernel_rfl
theorem doorSubs_c348 : @callK (slI [(0, 7, 5)]) Tryz.prog X1 100000 60 3 [.agg [.bool true, .bool true, .bool false, .bool false, .bool false, .bool true], .sym 0] (.mk .leaf 6 6) (fin 6) = .yes := by kernel_rfl
theorem doorSubs_c349 : @callK (slI [(0, 7, 6)]) Tryz.prog X1 100000 60 3 [.agg [.bool true, .bool true, .bool false, .bool false, .bool false, .bool true], .sym 0] (.mk .leaf 6 6) (fin 6) = .yes := by kernel_rfl
theorem doorSubs_c350 : @callK (slI [(0, 7, 0)]) Tryz.prog X1 100000 60 3 [.agg [.bool true, .bool true, .bool false, .bool false, .bool true, .bool false], .sym 0] (.mk .leaf 6 6) (fin 6) = .yes := by kernel_rfl
theorem doorSubs_c351 : @callK (slI [(0, 7, 1)]) Tryz.prog X1 100000 60 3 [.agg [.bool true, .bool true, .bool false, .bool false, .bool true, .bool false], .sym 0] (.mk .leaf 6 6) (fin 6) = .yes := by kernel_rfl
theorem doorSubs_c352 : @callK (slI [(0, 7, 2)]) Tryz.prog X1 100000 60 3 [.agg [.bool true, .bool true, .bool false, .bool false, .bool true, .bool false], .sym 0] (.mk .leaf 6 6) (fin 6) = .yes := by kernel_rfl
theorem doorSubs_c353 : @callK (slI [(0, 7, 3)]) Tryz.prog X1 100000 60 3 [.agg [.bool true, .bool true, .bool false, .bool false, .bool true, .bool false], .sym 0] (.mk .leaf 6 6) (fin 6) = .yes := by kernel_rfl
theorem doorSubs_c354 : @callK (slI [(0, 7, 4)]) Tryz.prog X1 100000 60 3 [.agg [.bool true, .bool true, .bool false, .bool false, .bool true, .bool false], .sym 0] (.mk .leaf 6 6) (fin 6) = .yes := by kernel_rfl
theorem doorSubs_c355 : @callK (slI [(0, 7, 5)]) Tryz.prog X1 100000 60 3 [.agg [.bool true, .bool true, .bool false, .bool false, .bool true, .bool false], .sym 0] (.mk .leaf 6 6) (fin 6) = .yes := by kernel_rfl
theorem doorSubs_c356 : @callK (slI [(0, 7, 6)]) Tryz.prog X1 100000 60 3 [.agg [.bool true, .bool true, .bool false, .bool false, .bool true, .bool false], .sym 0] (.mk .leaf 6 6) (fin 6) = .yes := by kernel_rfl
theorem doorSubs_c357 : @callK (slI [(0, 7, 0)]) Tryz.prog X1 100000 60 3 [.agg [.bool true, .bool true, .bool false, .bool false, .bool true, .bool true], .sym 0] (.mk .leaf 6 6) (fin 6) = .yes := by kernel_rfl
theorem doorSubs_c358 : @callK (slI [(0, 7, 1)]) Tryz.prog X1 100000 60 3 [.agg [.bool true, .bool true, .bool false, .bool false, .bool true, .bool true], .sym 0] (.mk .leaf 6 6) (fin 6) = .yes := by kernel_rfl
theorem doorSubs_c359 : @callK (slI [(0, 7, 2)]) Tryz.prog X1 100000 60 3 [.agg [.bool true, .bool true, .bool false, .bool false, .bool true, .bool true], .sym 0] (.mk .leaf 6 6) (fin 6) = .yes := by kernel_rfl
theorem doorSubs_c360 : @callK (slI [(0, 7, 3)]) Tryz.prog X1 100000 60 3 [.agg [.bool true, .bool true, .bool false, .bool false, .bool true, .bool true], .sym 0] (.mk .leaf 6 6) (fin 6) = .yes := by kernel_rfl
theorem doorSubs_c361 : @callK (slI [(0, 7, 4)]) Tryz.prog X1 100000 60 3 [.agg [.bool true, .bool true, .bool false, .bool false, .bool true, .bool true], .sym 0] (.mk .leaf 6 6) (fin 6) = .yes := by kernel_rfl
theorem doorSubs_c362 : @callK (slI [(0, 7, 5)]) Tryz.prog X1 100000 60 3 [.agg [.bool true, .bool true, .bool false, .bool false, .bool true, .bool true], .sym 0] (.mk .leaf 6 6) (fin 6) = .yes := by kernel_rfl
theorem doorSubs_c363 : @callK (slI [(0, 7, 6)]) Tryz.prog X1 100000 60 3 [.agg [.bool true, .bool true, .bool false, .bool false, .bool true, .bool true], .sym 0] (.mk .leaf 6 6) (fin 6) = .yes := by kernel_rfl
theorem doorSubs_c364 : @callK (slI [(0, 7, 0)]) Tryz.prog X1 100000 60 3 [.agg [.bool true, .bool true, .bool false, .bool true, .bool false, .bool false], .sym 0] (.mk .leaf 6 6) (fin 6) = .yes := by kernel_rfl
theorem doorSubs_c365 : @callK (slI [(0, 7, 1)]) Tryz.prog X1 100000 60 3 [.agg [.bool true, .bool true, .bool false, .bool true, .bool false, .bool false], .sym 0] (.mk .leaf 6 6) (fin 6) = .yes := by kernel_rfl
theorem doorSubs_c366 : @callK (slI [(0, 7, 2)]) Tryz.prog X1 100000 60 3 [.agg [.bool true, .bool true, .bool false, .bool true, .bool false, .bool false], .sym 0] (.mk .leaf 6 6) (fin 6) = .yes := by kernel_rfl
theorem doorSubs_c367 : @callK (slI [(0, 7, 3)]) Tryz.prog X1 100000 60 3 [.agg [.bool true, .bool true, .bool false, .bool true, .bool false, .bool false], .sym 0] (.mk .leaf 6 6) (fin 6) = .yes := by kernel_rfl
theorem doorSubs_c368 : @callK (slI [(0, 7, 4)]) Tryz.prog X1 100000 60 3 [.agg [.bool true, .bool true, .bool false, .bool true, .bool false, .bool false], .sym 0] (.mk .leaf 6 6) (fin 6) = .yes := by kernel_rfl
theorem doorSubs_c369 : @callK (slI [(0, 7, 5)]) Tryz.prog X1 100000 60 3 [.agg [.bool true, .bool true, .bool false, .bool true, .bool false, .bool false], .sym 0] (.mk .leaf 6 6) (fin 6) = .yes := by kernel_rfl
theorem doorSubs_c370 : @callK (slI [(0, 7, 6)]) Tryz.prog X1 100000 60 3 [.agg [.bool true, .bool true, .bool false, .bool true, .bool false, .bool false], .sym 0] (.mk .leaf 6 6) (fin 6) = .yes := by kernel_rfl
theorem doorSubs_c371 : @callK (slI [(0, 7, 0)]) Tryz.prog X1 100000 60 3 [.agg [.bool true, .bool true, .bool false, .bool true, .bool false, .bool true], .sym 0] (.mk .leaf 6 6) (fin 6) = .yes := by kernel_rfl
theorem doorSubs_c372 : @callK (slI [(0, 7, 1)]) Tryz.prog X1 100000 60 3 [.agg [.bool true, .bool true, .bool false, .bool true, .bool false, .bool true], .sym 0] (.mk .leaf 6 6) (fin 6) = .yes := by kernel_rfl
theorem doorSubs_c373 : @callK (slI [(0, 7, 2)]) Tryz.prog X1 100000 60 3 [.agg [.bool true, .bool true, .bool false, .bool true, .bool false, .bool true], .sym 0] (.mk .leaf 6 6) (fin 6) = .yes := by kernel_rfl
theorem doorSubs_c374 : @callK (slI [(0, 7, 3)]) Tryz.prog X1 100000 60 3 [.agg [.bool true, .bool true, .bool false, .bool true, .bool false, .bool true], .sym 0] (.mk .leaf 6 6) (fin 6) = .yes := by kernel_rfl
theorem doorSubs_c375 : @callK (slI [(0, 7, 4)]) Tryz.prog X1 100000 60 3 [.agg [.bool true, .bool true, .bool false, .bool true, .bool false, .bool true], .sym 0] (.mk .leaf 6 6) (fin 6) = .yes := by kernel_rfl
theorem doorSubs_c376 : @callK (slI [(0, 7, 5)]) Tryz.prog X1 100000 60 3 [.agg [.bool true, .bool true, .bool false, .bool true, .bool false, .bool true], .sym 0] (.mk .leaf 6 6) (fin 6) = .yes := by kernel_rfl
theorem doorSubs_c377 : @callK (slI [(0, 7, 6)]) Tryz.prog X1 100000 60 3 [.agg [.bool true, .bool true, .bool false, .bool true, .bool false, .bool true], .sym 0] (.mk .leaf 6 6) (fin 6) = .yes := by kernel_rfl
theorem doorSubs_c378 : @callK (slI [(0, 7, 0)]) Tryz.prog X1 100000 60 3 [.agg [.bool true, .bool true, .bool false, .bool true, .bool true, .bool false], .sym 0] (.mk .leaf 6 6) (fin 6) = .yes := by kernel_rfl
theorem doorSubs_c379 : @callK (slI [(0, 7, 1)]) Tryz.prog X1 100000 60 3 [.agg [.bool true, .bool true, .bool false, .bool true, .bool true, .bool false], .sym 0] (.mk .leaf 6 6) (fin 6) = .yes := by kernel_rfl
theorem doorSubs_c380 : @callK (slI [(0, 7, 2)]) Tryz.prog X1 100000 60 3 [.agg [.bool true, .bool true, .bool false, .bool true, .bool true, .bool false], .sym 0] (.mk .leaf 6 6) (fin 6) = .yes := by kernel_rfl
theorem doorSubs_c381 : @callK (slI [(0, 7, 3)]) Tryz.prog X1 100000 60 3 [.agg [.bool true, .bool true, .bool false, .bool true, .bool true, .bool false], .sym 0] (.mk .leaf 6 6) (fin 6) = .yes := by kernel_rfl
theorem doorSubs_c382 : @callK (slI [(0, 7, 4)]) Tryz.prog X1 100000 60 3 [.agg [.bool true, .bool true, .bool false, .bool true, .bool true, .bool false], .sym 0] (.mk .leaf 6 6) (fin 6) = .yes := by kernel_rfl
theorem doorSubs_c383 : @callK (slI [(0, 7, 5)]) Tryz.prog X1 100000 60 3 [.agg [.bool true, .bool true, .bool false, .bool true, .bool true, .bool false], .sym 0] (.mk .leaf 6 6) (fin 6) = .yes := by kernel_rfl
theorem doorSubs_c384 : @callK (slI [(0, 7, 6)]) Tryz.prog X1 100000 60 3 [.agg [.bool true, .bool true, .bool false, .bool true, .bool true, .bool false], .sym 0] (.mk .leaf 6 6) (fin 6) = .yes := by kernel_rfl
theorem doorSubs_c385 : @callK (slI [(0, 7, 0)]) Tryz.prog X1 100000 60 3 [.agg [.bool true, .bool true, .bool false, .bool true, .bool true, .bool true], .sym 0] (.mk .leaf 6 6) (fin 6) = .yes := by kernel_rfl
theorem doorSubs_c386 : @callK (slI [(0, 7, 1)]) Tryz.prog X1 100000 60 3 [.agg [.bool true, .bool true, .bool false, .bool true, .bool true, .bool true], .sym 0] (.mk .leaf 6 6) (fin 6) = .yes := by kernel_rfl
theorem doorSubs_c387 : @callK (slI [(0, 7, 2)]) Tryz.prog X1 100000 60 3 [.agg [.bool true, .bool true, .bool false, .bool true, .bool true, .bool true], .sym 0] (.mk .leaf 6 6) (fin 6) = .yes := by kernel_rfl
theorem doorSubs_c388 : @callK (slI [(0, 7, 3)]) Tryz.prog X1 100000 60 3 [.agg [.bool true, .bool true, .bool false, .bool true, .bool true, .bool true], .sym 0] (.mk .leaf 6 6) (fin 6) = .yes := by kernel_rfl
theorem doorSubs_c389 : @callK (slI [(0, 7, 4)]) Tryz.prog X1 100000 60 3 [.agg [.bool true, .bool true, .bool false, .bool true, .bool true, .bool true], .sym 0] (.mk .leaf 6 6) (fin 6) = .yes := by kernel_rfl
theorem doorSubs_c390 : @callK (slI [(0, 7, 5)]) Tryz.prog X1 100000 60 3 [.agg [.bool true, .bool true, .bool false, .bool true, .bool true, .bool true], .sym 0] (.mk .leaf 6 6) (fin 6) = .yes := by kernel_rfl
theorem doorSubs_c391 : @callK (slI [(0, 7, 6)]) Tryz.prog X1 100000 60 3 [.agg [.bool true, .bool true, .bool false, .bool true, .bool true, .bool true], .sym 0] (.mk .leaf 6 6) (fin 6) = .yes := by kernel_rfl
end Go.Proofs.YtbeoeghcmabemaaGreatDoor
