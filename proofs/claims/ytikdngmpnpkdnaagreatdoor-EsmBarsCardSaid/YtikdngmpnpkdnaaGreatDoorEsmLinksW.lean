/- Law gossamerlaw28.EsmLinks: its cases, all of them. -/
import Derived.Test.YtikdngmpnpkdnaaGreatDoorFin
import Derived.Test.YtikdngmpnpkdnaaGreatDoorEsmLinksC0
import Derived.Test.YtikdngmpnpkdnaaGreatDoorEsmLinksC1
import Derived.Test.YtikdngmpnpkdnaaGreatDoorEsmLinksC2
import Derived.Test.YtikdngmpnpkdnaaGreatDoorEsmLinksC3
set_option linter.unusedVariables false
set_option maxRecDepth 100000
namespace Go.Proofs.YtikdngmpnpkdnaaGreatDoor
open Go Go.Proofs Go.RowKit Go.Ev
theorem EsmLinks_walk (a0 : Bool) (a1 : Bool) (a2 : Bool) (w : World)  (htab : Tab w) :
    Calls Tryz.prog 4 #[.bool a0, .bool a1, .bool a2] w fun e w' => e = .returned (.bool true) ∧ Below w.heap.size w w' := by
  cases a0
  · cases a1
    · cases a2
      · exact one [] [] (fun e he => by cases he) (vs := [.bool false, .bool false, .bool false]) Tryz.func4 rfl rfl esmLinks_c0 w
      · exact one [] [] (fun e he => by cases he) (vs := [.bool false, .bool false, .bool true]) Tryz.func4 rfl rfl esmLinks_c1 w
    · cases a2
      · exact one [] [] (fun e he => by cases he) (vs := [.bool false, .bool true, .bool false]) Tryz.func4 rfl rfl esmLinks_c2 w
      · exact one [] [] (fun e he => by cases he) (vs := [.bool false, .bool true, .bool true]) Tryz.func4 rfl rfl esmLinks_c3 w
  · cases a1
    · cases a2
      · exact one [] [] (fun e he => by cases he) (vs := [.bool true, .bool false, .bool false]) Tryz.func4 rfl rfl esmLinks_c4 w
      · exact one [] [] (fun e he => by cases he) (vs := [.bool true, .bool false, .bool true]) Tryz.func4 rfl rfl esmLinks_c5 w
    · cases a2
      · exact one [] [] (fun e he => by cases he) (vs := [.bool true, .bool true, .bool false]) Tryz.func4 rfl rfl esmLinks_c6 w
      · exact one [] [] (fun e he => by cases he) (vs := [.bool true, .bool true, .bool true]) Tryz.func4 rfl rfl esmLinks_c7 w
end Go.Proofs.YtikdngmpnpkdnaaGreatDoor
