/- Law gossamerlaw28.EsmLinks: its cases, part 3. -/
import Derived.Test.YtikdngmpnpkdnaaGreatDoorFin
set_option linter.unusedVariables false
set_option maxRecDepth 100000
namespace Go.Proofs.YtikdngmpnpkdnaaGreatDoor
open Go Go.Proofs Go.RowKit Go.Ev
theorem esmLinks_c4 : @callK (slI []) Tryz.prog X1 100000 60 4 [.bool true, .bool false, .bool false] (.mk .leaf 6 6) (fin 6) = .yes := by kernel_rfl
theorem esmLinks_c5 : @callK (slI []) Tryz.prog X1 100000 60 4 [.bool true, .bool false, .bool true] (.mk .leaf 6 6) (fin 6) = .yes := by kernel_rfl
end Go.Proofs.YtikdngmpnpkdnaaGreatDoor
