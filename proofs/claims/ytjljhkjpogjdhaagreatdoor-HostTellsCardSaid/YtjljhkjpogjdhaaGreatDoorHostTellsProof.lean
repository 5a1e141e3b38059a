/-
  The law 'gossamerlaw10.HostTells' returns true for every input, and each argument reads behind the call as it read before. No conditions.
-/
import Derived.Test.YtjljhkjpogjdhaaGreatDoorHostTellsCl0
import Derived.Test.YtjljhkjpogjdhaaGreatDoorHostTellsCl1
import Derived.Test.YtjljhkjpogjdhaaGreatDoorHostTellsCl2
import Derived.Test.YtjljhkjpogjdhaaGreatDoorHostTellsCl3
import Derived.Test.YtjljhkjpogjdhaaGreatDoorHostTellsCl4
import Derived.Test.YtjljhkjpogjdhaaGreatDoorHostTellsCp0
import Derived.Test.YtjljhkjpogjdhaaGreatDoorHostTellsCp1
import Derived.Test.YtjljhkjpogjdhaaGreatDoorHostTellsLift
import Derived.Test.YtjljhkjpogjdhaaGreatDoorRows
import Derived.Test.YtjljhkjpogjdhaaGreatDoorCards
import Derived.Test.YtjljhkjpogjdhaaGreatDoorTie
import Derived.Test.YtjljhkjpogjdhaaGreatDoorHostT
import Derived.Test.YtjljhkjpogjdhaaGreatDoorLaidT
import Derived.LaidMore
import Derived.Lay
import Derived.MakeChecks
import Derived.SevenTiedAt
import Derived.WalkKit
import Derived.ProofKit
import Derived.OpenShut
import Derived.ShutString
import Derived.ChangeOld
import Derived.Below
import Derived.SliceStrings

namespace Go.Proofs.YtjljhkjpogjdhaaGreatDoor.hostTells
open Go.ChangeShapes Go.WideShapes Go.ChangeAt Go.RowKit
open Go.ChangeMaps (open_string shut_string)
set_option linter.unusedVariables false

theorem andT {a b : Bool} (h : a = true) (g : b = true) : (a && b) = true := by rw [h, g]; rfl
set_option maxRecDepth 1000000 in
theorem closed : joinedFacts Tryz.pinned.checked.prog 3 Tryz.f3 Rows.hostTellsSpec Rows.hostTellsRow = true := andT (andT (andT (andT (andT (andT (andT (andT (andT (andT (andT (andT (andT (andT (andT (andT (andT (andT (andT (andT (andT (andT (andT (andT (andT (andT (andT (andT (andT (andT (andT k0 k1) k2) k3) k4) k5) k6) k7) k8) k9) k10) k11) k12) k13) k14) k15) k16) k17) k18) k19) k20) k21) k22) k23) k24) k25) k26) k27) k28) k29) k30) k31
theorem over : Rows.hostTellsRow.holds Tryz.pinned (OpenSpec.ofChange Rows.hostTellsSpec) :=
  OpenClaim.holds_of_wide 3 Tryz.f3 rfl rfl rfl rfl rfl rfl rfl ⟨rfl, rfl, rfl, rfl, rfl⟩ rfl rfl rfl rfl rfl (by kernel_rfl) Tryz.func3 closed
    (of_decide_eq_true (by kernel_rfl)) (by unfold Func.isWrapper; first | (rw [if_pos (by decide +kernel)]; kernel_rfl) | (rw [if_neg (by decide +kernel)]; exact ⟨rfl, rfl⟩))
    (fun os started H enc _ => lifted os started H enc)

/-- The row's tie. -/
theorem tied : Rows.hostTellsRow.laidByTextAt .later Tryz.pinned [.data, .data, .data] true := hostTells_row_tie
/-- The given statement. -/
theorem proved : Rows.HostTellsCardSaid :=
  Claim7.holds_tied_plain_at .later [] [.data, .data, .data] true (true, "0dcd6c3e61d554fa9bdbf555ef8fcb5dc44e58f09f629b756c4fa1b321f2a8e0") false
    over (fun _ h => by cases h) (by kernel_rfl) (fun _ h => by cases h) tied rfl ⟨rfl, rfl⟩ p1 rfl
    (fun f fn hf hfn => by
      obtain rfl : f = 3 := Option.some.inj ((show Tryz.prog.funcNamed "gossamer/gossamerlaw10.HostTells" = some 3 by kernel_rfl).symm.trans hf) |>.symm
      obtain rfl : fn = Tryz.f3 := (Option.some.inj (Tryz.func3.symm.trans hfn)).symm
      exact ⟨p2, fun j t ht => by
        rw [Tryz.params3] at ht
        have hm : t ∈ [9] := by simpa using Array.mem_of_getElem? ht
        have hall : ([9].all fun u => !Tryz.prog.wantsStandIn u) = true := by kernel_rfl
        exact (show Tryz.prog.wantsStandIn t = false by simpa using List.all_eq_true.1 hall t hm)⟩)
    p3
end Go.Proofs.YtjljhkjpogjdhaaGreatDoor.hostTells
