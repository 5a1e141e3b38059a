/-
  The law 'gossamerlaw27.ShedScopes' returns true for every input, and each argument reads behind the call as it read before. No conditions.
-/
import Derived.Test.YtonakocdlldceaaGreatDoorShedScopesCl0
import Derived.Test.YtonakocdlldceaaGreatDoorShedScopesCl1
import Derived.Test.YtonakocdlldceaaGreatDoorShedScopesCl2
import Derived.Test.YtonakocdlldceaaGreatDoorShedScopesCl3
import Derived.Test.YtonakocdlldceaaGreatDoorShedScopesCl4
import Derived.Test.YtonakocdlldceaaGreatDoorShedScopesCp0
import Derived.Test.YtonakocdlldceaaGreatDoorShedScopesCp1
import Derived.Test.YtonakocdlldceaaGreatDoorShedScopesLift
import Derived.Test.YtonakocdlldceaaGreatDoorRows
import Derived.Test.YtonakocdlldceaaGreatDoorCards
import Derived.Test.YtonakocdlldceaaGreatDoorTie
import Derived.Test.YtonakocdlldceaaGreatDoorShedScopesW
import Derived.Test.YtonakocdlldceaaGreatDoorLaidT
import Derived.LaidMore
import Derived.Lay
import Derived.MakeChecks
import Derived.SevenTiedAt
import Derived.WalkKit
import Derived.ProofKit
import Derived.OpenShut
import Derived.ShutString
import Derived.ChangeOld
import Derived.Below
import Derived.SliceStrings
import Derived.Test.YtonakocdlldceaaGreatDoorBarr
namespace Go.Proofs.YtonakocdlldceaaGreatDoor.shedScopes
open Go.ChangeShapes Go.WideShapes Go.ChangeAt Go.RowKit
open Go.ChangeMaps (open_string shut_string)
set_option linter.unusedVariables false

theorem andT {a b : Bool} (h : a = true) (g : b = true) : (a && b) = true := by rw [h, g]; rfl
set_option maxRecDepth 1000000 in
theorem closed : joinedFacts Tryz.pinned.checked.prog 4 Tryz.f4 Rows.shedScopesSpec Rows.shedScopesRow = true := andT (andT (andT (andT (andT (andT (andT (andT (andT (andT (andT (andT (andT (andT (andT (andT (andT (andT (andT (andT (andT (andT (andT (andT (andT (andT (andT (andT (andT (andT (andT k0 k1) k2) k3) k4) k5) k6) k7) k8) k9) k10) k11) k12) k13) k14) k15) k16) k17) k18) k19) k20) k21) k22) k23) k24) k25) k26) k27) k28) k29) k30) k31
theorem over : Rows.shedScopesRow.holds Tryz.pinned (OpenSpec.ofChange Rows.shedScopesSpec) :=
  OpenClaim.holds_of_wide 4 Tryz.f4 rfl rfl rfl rfl rfl rfl rfl ⟨rfl, rfl, rfl, rfl, rfl⟩ rfl rfl rfl rfl rfl (by kernel_rfl) Tryz.func4 closed
    (of_decide_eq_true (by kernel_rfl)) (by unfold Func.isWrapper; first | (rw [if_pos (by decide +kernel)]; kernel_rfl) | (rw [if_neg (by decide +kernel)]; exact ⟨rfl, rfl⟩))
    (fun os started H enc _ => lifted os started H enc)

/-- The row's tie. -/
theorem tied : Rows.shedScopesRow.laidByTextAt .later Tryz.pinned [.data, .data, .data, .data, .pinned] true := shedScopes_row_tie
/-- The given statement. -/
theorem proved : Rows.ShedScopesCardSaid :=
  Claim7.holds_tied_plain_at .later [] [.data, .data, .data, .data, .pinned] true (true, "36f0bbc25aecbbb6f7572d2c1ab07def99d6f799443ded139e690377191644fd") false
    over (fun _ h => by cases h) (by kernel_rfl) (fun _ h => by cases h) tied rfl ⟨rfl, rfl⟩ p1 rfl
    (fun f fn hf hfn => by
      obtain rfl : f = 4 := Option.some.inj ((show Tryz.prog.funcNamed "gossamer/gossamerlaw27.ShedScopes" = some 4 by kernel_rfl).symm.trans hf) |>.symm
      obtain rfl : fn = Tryz.f4 := (Option.some.inj (Tryz.func4.symm.trans hfn)).symm
      exact ⟨p2, fun j t ht => by
        rw [Tryz.params4] at ht
        have hm : t ∈ [22, 3] := by simpa using Array.mem_of_getElem? ht
        have hall : ([22, 3].all fun u => !Tryz.prog.wantsStandIn u) = true := by kernel_rfl
        exact (show Tryz.prog.wantsStandIn t = false by simpa using List.all_eq_true.1 hall t hm)⟩)
    p3
end Go.Proofs.YtonakocdlldceaaGreatDoor.shedScopes
