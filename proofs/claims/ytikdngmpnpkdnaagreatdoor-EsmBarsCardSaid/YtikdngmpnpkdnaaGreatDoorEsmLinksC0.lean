/- Law gossamerlaw28.EsmLinks: its cases, part 1. -/
import Derived.Test.YtikdngmpnpkdnaaGreatDoorFin
set_option linter.unusedVariables false
set_option maxRecDepth 100000
namespace Go.Proofs.YtikdngmpnpkdnaaGreatDoor
open Go Go.Proofs Go.RowKit Go.Ev
theorem esmLinks_c0 : @callK (slI []) Tryz.prog X1 100000 60 4 [.bool false, .bool false, .bool false] (.mk .leaf 6 6) (fin 6) = .yes := by kernel_rfl
theorem esmLinks_c1 : @callK (slI []) Tryz.prog X1 100000 60 4 [.bool false, .bool false, .bool true] (.mk .leaf 6 6) (fin 6) = .yes := by kernel_rfl
end Go.Proofs.YtikdngmpnpkdnaaGreatDoor
