/-
  The law 'gossamerlaw26.DoorSubs' returns true for every input, and each argument reads behind the call as it read before. No conditions.
-/
import Derived.Test.YtbeoeghcmabemaaGreatDoorDoorSubsCl0
import Derived.Test.YtbeoeghcmabemaaGreatDoorDoorSubsCl1
import Derived.Test.YtbeoeghcmabemaaGreatDoorDoorSubsCl2
import Derived.Test.YtbeoeghcmabemaaGreatDoorDoorSubsCl3
import Derived.Test.YtbeoeghcmabemaaGreatDoorDoorSubsCl4
import Derived.Test.YtbeoeghcmabemaaGreatDoorDoorSubsCp0
import Derived.Test.YtbeoeghcmabemaaGreatDoorDoorSubsCp1
import Derived.Test.YtbeoeghcmabemaaGreatDoorDoorSubsLift
import Derived.Test.YtbeoeghcmabemaaGreatDoorRows
import Derived.Test.YtbeoeghcmabemaaGreatDoorCards
import Derived.Test.YtbeoeghcmabemaaGreatDoorTie
import Derived.Test.YtbeoeghcmabemaaGreatDoorDoorSubsW
import Derived.Test.YtbeoeghcmabemaaGreatDoorLaidT
import Derived.LaidMore
import Derived.Lay
import Derived.MakeChecks
import Derived.SevenTiedAt
import Derived.WalkKit
import Derived.ProofKit
import Derived.OpenShut
import Derived.ShutString
import Derived.ChangeOld
import Derived.Below
import Derived.SliceStrings
import Derived.Test.YtbeoeghcmabemaaGreatDoorBarr
namespace Go.Proofs.YtbeoeghcmabemaaGreatDoor.doorSubs
open Go.ChangeShapes Go.WideShapes Go.ChangeAt Go.RowKit
open Go.ChangeMaps (open_string shut_string)
set_option linter.unusedVariables false

theorem andT {a b : Bool} (h : a = true) (g : b = true) : (a && b) = true := by rw [h, g]; rfl
set_option maxRecDepth 1000000 in
theorem closed : joinedFacts Tryz.pinned.checked.prog 3 Tryz.f3 Rows.doorSubsSpec Rows.doorSubsRow = true := andT (andT (andT (andT (andT (andT (andT (andT (andT (andT (andT (andT (andT (andT (andT (andT (andT (andT (andT (andT (andT (andT (andT (andT (andT (andT (andT (andT (andT (andT (andT k0 k1) k2) k3) k4) k5) k6) k7) k8) k9) k10) k11) k12) k13) k14) k15) k16) k17) k18) k19) k20) k21) k22) k23) k24) k25) k26) k27) k28) k29) k30) k31
theorem over : Rows.doorSubsRow.holds Tryz.pinned (OpenSpec.ofChange Rows.doorSubsSpec) :=
  OpenClaim.holds_of_wide 3 Tryz.f3 rfl rfl rfl rfl rfl rfl rfl ⟨rfl, rfl, rfl, rfl, rfl⟩ rfl rfl rfl rfl rfl (by kernel_rfl) Tryz.func3 closed
    (of_decide_eq_true (by kernel_rfl)) (by unfold Func.isWrapper; first | (rw [if_pos (by decide +kernel)]; kernel_rfl) | (rw [if_neg (by decide +kernel)]; exact ⟨rfl, rfl⟩))
    (fun os started H enc _ => lifted os started H enc)

/-- The row's tie. -/
theorem tied : Rows.doorSubsRow.laidByTextAt .later Tryz.pinned [.data, .data, .data, .data, .pinned] true := doorSubs_row_tie
/-- The given statement. -/
theorem proved : Rows.DoorSubsCardSaid :=
  Claim7.holds_tied_plain_at .later [] [.data, .data, .data, .data, .pinned] true (true, "af225610fd4621086784a11333f80804ee2d1fccef38e557c2d8d1467d800b9c") false
    over (fun _ h => by cases h) (by kernel_rfl) (fun _ h => by cases h) tied rfl ⟨rfl, rfl⟩ p1 rfl
    (fun f fn hf hfn => by
      obtain rfl : f = 3 := Option.some.inj ((show Tryz.prog.funcNamed "gossamer/gossamerlaw26.DoorSubs" = some 3 by kernel_rfl).symm.trans hf) |>.symm
      obtain rfl : fn = Tryz.f3 := (Option.some.inj (Tryz.func3.symm.trans hfn)).symm
      exact ⟨p2, fun j t ht => by
        rw [Tryz.params3] at ht
        have hm : t ∈ [22, 3] := by simpa using Array.mem_of_getElem? ht
        have hall : ([22, 3].all fun u => !Tryz.prog.wantsStandIn u) = true := by kernel_rfl
        exact (show Tryz.prog.wantsStandIn t = false by simpa using List.all_eq_true.1 hall t hm)⟩)
    p3
end Go.Proofs.YtbeoeghcmabemaaGreatDoor.doorSubs
