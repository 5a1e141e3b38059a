/- Law gossamerlaw28.EsmBars: its cases, part 1. -/
import Derived.Test.YtikdngmpnpkdnaaGreatDoorFin
set_option linter.unusedVariables false
set_option maxRecDepth 100000
namespace Go.Proofs.YtikdngmpnpkdnaaGreatDoor
open Go Go.Proofs Go.RowKit Go.Ev
theorem esmBars_c0 : @callK (slI [(0, 4, 0)]) Tryz.prog X1 100000 60 5 [.sym 0, .bool false] (.mk .leaf 6 6) (fin 6) = .yes := by kernel_rfl
theorem esmBars_c1 : @callK (slI [(0, 4, 0)]) Tryz.prog X1 100000 60 5 [.sym 0, .bool true] (.mk .leaf 6 6) (fin 6) = .yes := by kernel_rfl
end Go.Proofs.YtikdngmpnpkdnaaGreatDoor
