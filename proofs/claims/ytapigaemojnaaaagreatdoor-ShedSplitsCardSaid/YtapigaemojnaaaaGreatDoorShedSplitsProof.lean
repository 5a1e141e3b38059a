/-
  The law 'gossamerlaw27.ShedSplits' returns true for every input, and each argument reads behind the call as it read before. No conditions.
-/
import Derived.Test.YtapigaemojnaaaaGreatDoorShedSplitsCl0
import Derived.Test.YtapigaemojnaaaaGreatDoorShedSplitsCl1
import Derived.Test.YtapigaemojnaaaaGreatDoorShedSplitsCl2
import Derived.Test.YtapigaemojnaaaaGreatDoorShedSplitsCl3
import Derived.Test.YtapigaemojnaaaaGreatDoorShedSplitsCl4
import Derived.Test.YtapigaemojnaaaaGreatDoorShedSplitsCp0
import Derived.Test.YtapigaemojnaaaaGreatDoorShedSplitsCp1
import Derived.Test.YtapigaemojnaaaaGreatDoorShedSplitsLift
import Derived.Test.YtapigaemojnaaaaGreatDoorRows
import Derived.Test.YtapigaemojnaaaaGreatDoorCards
import Derived.Test.YtapigaemojnaaaaGreatDoorTie
import Derived.Test.YtapigaemojnaaaaGreatDoorShedSplitsW
import Derived.Test.YtapigaemojnaaaaGreatDoorLaidT
import Derived.LaidMore
import Derived.Lay
import Derived.MakeChecks
import Derived.SevenTiedAt
import Derived.WalkKit
import Derived.ProofKit
import Derived.OpenShut
import Derived.ShutString
import Derived.ChangeOld
import Derived.Below
import Derived.SliceStrings
namespace Go.Proofs.YtapigaemojnaaaaGreatDoor.shedSplits
open Go.ChangeShapes Go.WideShapes Go.ChangeAt Go.RowKit
open Go.ChangeMaps (open_string shut_string)
set_option linter.unusedVariables false

theorem andT {a b : Bool} (h : a = true) (g : b = true) : (a && b) = true := by rw [h, g]; rfl
set_option maxRecDepth 1000000 in
theorem closed : joinedFacts Tryz.pinned.checked.prog 3 Tryz.f3 Rows.shedSplitsSpec Rows.shedSplitsRow = true := andT (andT (andT (andT (andT (andT (andT (andT (andT (andT (andT (andT (andT (andT (andT (andT (andT (andT (andT (andT (andT (andT (andT (andT (andT (andT (andT (andT (andT (andT (andT k0 k1) k2) k3) k4) k5) k6) k7) k8) k9) k10) k11) k12) k13) k14) k15) k16) k17) k18) k19) k20) k21) k22) k23) k24) k25) k26) k27) k28) k29) k30) k31
theorem over : Rows.shedSplitsRow.holds Tryz.pinned (OpenSpec.ofChange Rows.shedSplitsSpec) :=
  OpenClaim.holds_of_wide 3 Tryz.f3 rfl rfl rfl rfl rfl rfl rfl ⟨rfl, rfl, rfl, rfl, rfl⟩ rfl rfl rfl rfl rfl (by kernel_rfl) Tryz.func3 closed
    (of_decide_eq_true (by kernel_rfl)) (by unfold Func.isWrapper; first | (rw [if_pos (by decide +kernel)]; kernel_rfl) | (rw [if_neg (by decide +kernel)]; exact ⟨rfl, rfl⟩))
    (fun os started H enc _ => lifted os started H enc)

/-- The row's tie. -/
theorem tied : Rows.shedSplitsRow.laidByTextAt .later Tryz.pinned [.data, .data, .data, .data, .pinned] true := shedSplits_row_tie
/-- The given statement. -/
theorem proved : Rows.ShedSplitsCardSaid :=
  Claim7.holds_tied_plain_at .later [] [.data, .data, .data, .data, .pinned] true (true, "af67459b227dc9db5d11f1053c7ad8eb84bf83b07b80828fca285eb31eb37c51") false
    over (fun _ h => by cases h) (by kernel_rfl) (fun _ h => by cases h) tied rfl ⟨rfl, rfl⟩ p1 rfl
    (fun f fn hf hfn => by
      obtain rfl : f = 3 := Option.some.inj ((show Tryz.prog.funcNamed "gossamer/gossamerlaw27.ShedSplits" = some 3 by kernel_rfl).symm.trans hf) |>.symm
      obtain rfl : fn = Tryz.f3 := (Option.some.inj (Tryz.func3.symm.trans hfn)).symm
      exact ⟨p2, fun j t ht => by
        rw [Tryz.params3] at ht
        have hm : t ∈ [9] := by simpa using Array.mem_of_getElem? ht
        have hall : ([9].all fun u => !Tryz.prog.wantsStandIn u) = true := by kernel_rfl
        exact (show Tryz.prog.wantsStandIn t = false by simpa using List.all_eq_true.1 hall t hm)⟩)
    p3
end Go.Proofs.YtapigaemojnaaaaGreatDoor.shedSplits
