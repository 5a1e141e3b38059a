/- Law gossamerlaw26.DoorSubs: its cases, part 8. -/
import Derived.Test.YtbeoeghcmabemaaGreatDoorFin
set_option linter.unusedVariables false
set_option maxRecDepth 100000
namespace Go.Proofs.YtbeoeghcmabemaaGreatDoor
open Go Go.Proofs Go.RowKit Go.Ev
theorem doorSubs_c392 : @callK (slI [(0, 7, 0)]) Tryz.prog X1 100000 60 3 [.agg [.bool true, .bool true, .bool true, .bool false, .bool false, .bool false], .sym 0] (.mk .leaf 6 6) (fin 6) = .yes := by kernel_rfl
theorem doorSubs_c393 : @callK (slI [(0, 7, 1)]) Tryz.prog X1 100000 60 3 [.agg [.bool true, .bool true, .bool true, .bool false, .bool false, .bool false], .sym 0] (.mk .leaf 6 6) (fin 6) = .yes := by kernel_rfl
theorem doorSubs_c394 : @callK (slI [(0, 7, 2)]) Tryz.prog X1 100000 60 3 [.agg [.bool true, .bool true, .bool true, .bool false, .bool false, .bool false], .sym 0] (.mk .leaf 6 6) (fin 6) = .yes := by kernel_rfl
theorem doorSubs_c395 : @callK (slI [(0, 7, 3)]) Tryz.prog X1 100000 60 3 [.agg [.bool true, .bool true, .bool true, .bool false, .bool false, .bool false], .sym 0] (.mk .leaf 6 6) (fin 6) = .yes := by kernel_rfl
theorem doorSubs_c396 : @callK (slI [(0, 7, 4)]) Tryz.prog X1 100000 60 3 [.agg [.bool true, .bool true, .bool true, .bool false, .bool false, .bool false], .sym 0] (.mk .leaf 6 6) (fin 6) = .yes := by kernel_rfl
theorem doorSubs_c397 : @callK (slI [(0, 7, 5)]) Tryz.prog X1 100000 60 3 [.agg [.bool true, .bool true, .bool true, .bool false, .bool false, .bool false], .sym 0] (.mk .leaf 6 6) (fin 6) = .yes := by kernel_rfl
theorem doorSubs_c398 : @callK (slI [(0, 7, 6)]) Tryz.prog X1 100000 60 3 [.agg [.bool true, .bool true, .bool true, .bool false, .bool false, .bool false], .sym 0] (.mk .leaf 6 6) (fin 6) = .yes := by kernel_rfl
theorem doorSubs_c399 : @callK (slI [(0, 7, 0)]) Tryz.prog X1 100000 60 3 [.agg [.bool true, .bool true, .bool true, .bool false, .bool false, .bool true], .sym 0] (.mk .leaf 6 6) (fin 6) = .yes := by kernel_rfl
theorem doorSubs_c400 : @callK (slI [(0, 7, 1)]) Tryz.prog X1 100000 60 3 [.agg [.bool true, .bool true, .bool true, .bool false, .bool false, .bool true], .sym 0] (.mk .leaf 6 6) (fin 6) = .yes := by kernel_rfl
theorem doorSubs_c401 : @callK (slI [(0, 7, 2)]) Tryz.prog X1 100000 60 3 [.agg [.bool true, .bool true, .bool true, .bool false, .bool false, .bool true], .sym 0] (.mk .leaf 6 6) (fin 6) = .yes := by kernel_rfl
theorem doorSubs_c402 : @callK (slI [(0, 7, 3)]) Tryz.prog X1 100000 60 3 [.agg [.bool true, .bool true, .bool true, .bool false, .bool false, .bool true], .sym 0] (.mk .leaf 6 6) (fin 6) = .yes := by kernel_rfl
theorem doorSubs_c403 : @callK (slI [(0, 7, 4)]) Tryz.prog X1 100000 60 3 [.agg [.bool true, .bool true, .bool true, .bool false, .bool false, .bool true], .sym 0] (.mk .leaf 6 6) (fin 6) = .yes := by kernel_rfl
theorem doorSubs_c404 : @callK (slI [(0, 7, 5)]) Tryz.prog X1 100000 60 3 [.agg [.bool true, .bool true, .bool true, .bool false, .bool false, .bool true], .sym 0] (.mk .leaf 6 6) (fin 6) = .yes := by kernel_rfl
theorem doorSubs_c405 : @callK (slI [(0, 7, 6)]) Tryz.prog X1 100000 60 3 [.agg [.bool true, .bool true, .bool true, .bool false, .bool false, .bool true], .sym 0] (.mk .leaf 6 6) (fin 6) = .yes := by kernel_rfl
theorem doorSubs_c406 : @callK (slI [(0, 7, 0)]) Tryz.prog X1 100000 60 3 [.agg [.bool true, .bool true, .bool true, .bool false, .bool true, .bool false], .sym 0] (.mk .leaf 6 6) (fin 6) = .yes := by kernel_rfl
theorem doorSubs_c407 : @callK (slI [(0, 7, 1)]) Tryz.prog X1 100000 60 3 [.agg [.bool true, .bool true, .bool true, .bool false, .bool true, .bool false], .sym 0] (.mk .leaf 6 6) (fin 6) = .yes := by kernel_rfl
theorem doorSubs_c408 : @callK (slI [(0, 7, 2)]) Tryz.prog X1 100000 60 3 [.agg [.bool true, .bool true, .bool true, .bool false, .bool true, .bool false], .sym 0] (.mk .leaf 6 6) (fin 6) = .yes := by kernel_rfl
theorem doorSubs_c409 : @callK (slI [(0, 7, 3)]) Tryz.prog X1 100000 60 3 [.agg [.bool true, .bool true, .bool true, .bool false, .bool true, .bool false], .sym 0] (.mk .leaf 6 6) (fin 6) = .yes := by kernel_rfl
theorem doorSubs_c410 : @callK (slI [(0, 7, 4)]) Tryz.prog X1 100000 60 3 [.agg [.bool true, .bool true, .bool true, .bool false, .bool true, .bool false], .sym 0] (.mk .leaf 6 6) (fin 6) = .yes := by kernel_rfl
theorem doorSubs_c411 : @callK (slI [(0, 7, 5)]) Tryz.prog X1 100000 60 3 [.agg [.bool true, .bool true, .bool true, .bool false, .bool true, .bool false], .sym 0] (.mk .leaf 6 6) (fin 6) = .yes := by kernel_rfl
theorem doorSubs_c412 : @callK (slI [(0, 7, 6)]) Tryz.prog X1 100000 60 3 [.agg [.bool true, .bool true, .bool true, .bool false, .bool true, .bool false], .sym 0] (.mk .leaf 6 6) (fin 6) = .yes := by kernel_rfl
theorem doorSubs_c413 : @callK (slI [(0, 7, 0)]) Tryz.prog X1 100000 60 3 [.agg [.bool true, .bool true, .bool true, .bool false, .bool true, .bool true], .sym 0] (.mk .leaf 6 6) (fin 6) = .yes := by kernel_rfl
theorem doorSubs_c414 : @callK (slI [(0, 7, 1)]) Tryz.prog X1 100000 60 3 [.agg [.bool true, .bool true, .bool true, .bool false, .bool true, .bool true], .sym 0] (.mk .leaf 6 6) (fin 6) = .yes := by kernel_rfl
theorem doorSubs_c415 : @callK (slI [(0, 7, 2)]) Tryz.prog X1 100000 60 3 [.agg [.bool true, .bool true, .bool true, .bool false, .bool true, .bool true], .sym 0] (.mk .leaf 6 6) (fin 6) = .yes := by kernel_rfl
theorem doorSubs_c416 : @callK (slI [(0, 7, 3)]) Tryz.prog X1 100000 60 3 [.agg [.bool true, .bool true, .bool true, .bool false, .bool true, .bool true], .sym 0] (.mk .leaf 6 6) (fin 6) = .yes := by kernel_rfl
theorem doorSubs_c417 : @callK (slI [(0, 7, 4)]) Tryz.prog X1 100000 60 3 [.agg [.bool true, .bool true, .bool true, .bool false, .bool true, .bool true], .sym 0] (.mk .leaf 6 6) (fin 6) = .yes := by kernel_rfl
theorem doorSubs_c418 : @callK (slI [(0, 7, 5)]) Tryz.prog X1 100000 60 3 [.agg [.bool true, .bool true, .bool true, .bool false, .bool true, .bool true], .sym 0] (.mk .leaf 6 6) (fin 6) = .yes := by kernel_rfl
theorem doorSubs_c419 : @callK (slI [(0, 7, 6)]) Tryz.prog X1 100000 60 3 [.agg [.bool true, .bool true, .bool true, .bool false, .bool true, .bool true], .sym 0] (.mk .leaf 6 6) (fin 6) = .yes := by kernel_rfl
theorem doorSubs_c420 : @callK (slI [(0, 7, 0)]) Tryz.prog X1 100000 60 3 [.agg [.bool true, .bool true, .bool true, .bool true, .bool false, .bool false], .sym 0] (.mk .leaf 6 6) (fin 6) = .yes := by kernel_rfl
theorem doorSubs_c421 : @callK (slI [(0, 7, 1)]) Tryz.prog X1 100000 60 3 [.agg [.bool true, .bool true, .bool true, .bool true, .bool false, .bool false], .sym 0] (.mk .leaf 6 6) (fin 6) = .yes := by kernel_rfl
theorem doorSubs_c422 : @callK (slI [(0, 7, 2)]) Tryz.prog X1 100000 60 3 [.agg [.bool true, .bool true, .bool true, .bool true, .bool false, .bool false], .sym 0] (.mk .leaf 6 6) (fin 6) = .yes := by kernel_rfl
theorem doorSubs_c423 : @callK (slI [(0, 7, 3)]) Tryz.prog X1 100000 60 3 [.agg [.bool true, .bool true, .bool true, .bool true, .bool false, .bool false], .sym 0] (.mk .leaf 6 6) (fin 6) = .yes := by kernel_rfl
theorem doorSubs_c424 : @callK (slI [(0, 7, 4)]) Tryz.prog X1 100000 60 3 [.agg [.bool true, .bool true, .bool true, .bool true, .bool false, .bool false], .sym 0] (.mk .leaf 6 6) (fin 6) = .yes := by kernel_rfl
theorem doorSubs_c425 : @callK (slI [(0, 7, 5)]) Tryz.prog X1 100000 60 3 [.agg [.bool true, .bool true, .bool true, .bool true, .bool false, .bool false], .sym 0] (.mk .leaf 6 6) (fin 6) = .yes := by kernel_rfl
theorem doorSubs_c426 : @callK (slI [(0, 7, 6)]) Tryz.prog X1 100000 60 3 [.agg [.bool true, .bool true, .bool true, .bool true, .bool false, .bool false], .sym 0] (.mk .leaf 6 6) (fin 6) = .yes := by kernel_rfl
theorem doorSubs_c427 : @callK (slI [(0, 7, 0)]) Tryz.prog X1 100000 60 3 [.agg [.bool true, .bool true, .bool true, .bool true, .bool false, .bool true], .sym 0] (.mk .leaf 6 6) (fin 6) = .yes := by kernel_rfl
theorem doorSubs_c428 : @callK (slI [(0, 7, 1)]) Tryz.prog X1 100000 60 3 [.agg [.bool true, .bool true, .bool true, .bool true, .bool false, .bool true], .sym 0] (.mk .leaf 6 6) (fin 6) = .yes := by kernel_rfl
theorem doorSubs_c429 : @callK (slI [(0, 7, 2)]) Tryz.prog X1 100000 60 3 [.agg [.bool true, .bool true, .bool true, .bool true, .bool false, .bool true], .sym 0] (.mk .leaf 6 6) (fin 6) = .yes := by kernel_rfl
theorem doorSubs_c430 : @callK (slI [(0, 7, 3)]) Tryz.prog X1 100000 60 3 [.agg [.bool true, .bool true, .bool true, .bool true, .bool false, .bool true], .sym 0] (.mk .leaf 6 6) (fin 6) = .yes := by kernel_rfl
theorem doorSubs_c431 : @callK (slI [(0, 7, 4)]) Tryz.prog X1 100000 60 3 [.agg [.bool true, .bool true, .bool true, .bool true, .bool false, .bool true], .sym 0] (.mk .leaf 6 6) (fin 6) = .yes := by kernel_rfl
theorem doorSubs_c432 : @callK (slI [(0, 7, 5)]) Tryz.prog X1 100000 60 3 [.agg [.bool true, .bool true, .bool true, .bool true, .bool false, .bool true], .sym 0] (.mk .leaf 6 6) (fin 6) = .yes := by kernel_rfl
theorem doorSubs_c433 : @callK (slI [(0, 7, 6)]) Tryz.prog X1 100000 60 3 [.agg [.bool true, .bool true, .bool true, .bool true, .bool false, .bool true], .sym 0] (.mk .leaf 6 6) (fin 6) = .yes := by kernel_rfl
theorem doorSubs_c434 : @callK (slI [(0, 7, 0)]) Tryz.prog X1 100000 60 3 [.agg [.bool true, .bool true, .bool true, .bool true, .bool true, .bool false], .sym 0] (.mk .leaf 6 6) (fin 6) = .yes := by kernel_rfl
theorem doorSubs_c435 : @callK (slI [(0, 7, 1)]) Tryz.prog X1 100000 60 3 [.agg [.bool true, .bool true, .bool true, .bool true, .bool true, .bool false], .sym 0] (.mk .leaf 6 6) (fin 6) = .yes := by kernel_rfl
theorem doorSubs_c436 : @callK (slI [(0, 7, 2)]) Tryz.prog X1 100000 60 3 [.agg [.bool true, .bool true, .bool true, .bool true, .bool true, .bool false], .sym 0] (.mk .leaf 6 6) (fin 6) = .yes := by kernel_rfl
theorem doorSubs_c437 : @callK (slI [(0, 7, 3)]) Tryz.prog X1 100000 60 3 [.agg [.bool true, .bool true, .bool true, .bool true, .bool true, .bool false], .sym 0] (.mk .leaf 6 6) (fin 6) = .yes := by kernel_rfl
theorem doorSubs_c438 : @callK (slI [(0, 7, 4)]) Tryz.prog X1 100000 60 3 [.agg [.bool true, .bool true, .bool true, .bool true, .bool true, .bool false], .sym 0] (.mk .leaf 6 6) (fin 6) = .yes := by kernel_rfl
theorem doorSubs_c439 : @callK (slI [(0, 7, 5)]) Tryz.prog X1 100000 60 3 [.agg [.bool true, .bool true, .bool true, .bool true, .bool true, .bool false], .sym 0] (.mk .leaf 6 6) (fin 6) = .yes := by kernel_rfl
theorem doorSubs_c440 : @callK (slI [(0, 7, 6)]) Tryz.prog X1 100000 60 3 [.agg [.bool true, .bool true, .bool true, .bool true, .bool true, .bool false], .sym 0] (.mk .leaf 6 6) (fin 6) = .yes := by kernel_rfl
theorem doorSubs_c441 : @callK (slI [(0, 7, 0)]) Tryz.prog X1 100000 60 3 [.agg [.bool true, .bool true, .bool true, .bool true, .bool true, .bool true], .sym 0] (.mk .leaf 6 6) (fin 6) = .yes := by kernel_rfl
theorem doorSubs_c442 : @callK (slI [(0, 7, 1)]) Tryz.prog X1 100000 60 3 [.agg [.bool true, .bool true, .bool true, .bool true, .bool true, .bool true], .sym 0] (.mk .leaf 6 6) (fin 6) = .yes := by kernel_rfl
theorem doorSubs_c443 : @callK (slI [(0, 7, 2)]) Tryz.prog X1 100000 60 3 [.agg [.bool true, .bool true, .bool true, .bool true, .bool true, .bool true], .sym 0] (.mk .leaf 6 6) (fin 6) = .yes := by kernel_rfl
theorem doorSubs_c444 : @callK (slI [(0, 7, 3)]) Tryz.prog X1 100000 60 3 [.agg [.bool true, .bool true, .bool true, .bool true, .bool true, .bool true], .sym 0] (.mk .leaf 6 6) (fin 6) = .yes := by kernel_rfl
theorem doorSubs_c445 : @callK (slI [(0, 7, 4)]) Tryz.prog X1 100000 60 3 [.agg [.bool true, .bool true, .bool true, .bool true, .bool true, .bool true], .sym 0] (.mk .leaf 6 6) (fin 6) = .yes := by kernel_rfl
theorem doorSubs_c446 : @callK (slI [(0, 7, 5)]) Tryz.prog X1 100000 60 3 [.agg [.bool true, .bool true, .bool true, .bool true, .bool true, .bool true], .sym 0] (.mk .leaf 6 6) (fin 6) = .yes := by kernel_rfl
theorem doorSubs_c447 : @callK (slI [(0, 7, 6)]) Tryz.prog X1 100000 60 3 [.agg [.bool true, .bool true, .bool true, .bool true, .bool true, .bool true], .sym 0] (.mk .leaf 6 6) (fin 6) = .yes := by kernel_rfl
end Go.Proofs.YtbeoeghcmabemaaGreatDoor
