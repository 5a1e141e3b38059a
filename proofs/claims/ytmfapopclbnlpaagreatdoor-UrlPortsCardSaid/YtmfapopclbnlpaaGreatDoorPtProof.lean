/-
  The law 'gossamerlaw12.UrlPorts' returns true for every input, and each argument reads behind the call as it read before. No conditions.
-/
import Derived.Test.YtmfapopclbnlpaaGreatDoorRows
import Derived.Test.YtmfapopclbnlpaaGreatDoorCards
import Derived.Test.YtmfapopclbnlpaaGreatDoorTie
import Derived.LaidMore
import Derived.Lay
import Derived.MakeChecks
import Derived.SevenTiedAt
import Derived.WalkKit
import Derived.ProofKit
import Derived.OpenShut
import Derived.ShutString
import Derived.ChangeOld
import Derived.Below
import Derived.SliceStrings
import Derived.Test.YtmfapopclbnlpaaGreatDoorPt29
import Derived.Test.YtmfapopclbnlpaaGreatDoorPt32
import Derived.Test.YtmfapopclbnlpaaGreatDoorPtLift
import Derived.Test.YtmfapopclbnlpaaGreatDoorPtCl0
import Derived.Test.YtmfapopclbnlpaaGreatDoorPtCl1
import Derived.Test.YtmfapopclbnlpaaGreatDoorPtCl2
import Derived.Test.YtmfapopclbnlpaaGreatDoorPtCl3
import Derived.Test.YtmfapopclbnlpaaGreatDoorPtCl4
import Derived.Test.YtmfapopclbnlpaaGreatDoorPtCp0
import Derived.Test.YtmfapopclbnlpaaGreatDoorPtCp1
namespace Go.Proofs.YtmfapopclbnlpaaGreatDoor.urlPorts
open Go.ChangeShapes Go.WideShapes Go.ChangeAt Go.RowKit
open Go.ChangeMaps (open_string shut_string)
set_option linter.unusedVariables false
theorem eF {a b:Bool}(h:a=true)(g:b=true):(a&&b)=true:=by rw [h,g];rfl
set_option maxRecDepth 1000000 in
theorem closed:joinedFacts Tryz.pinned.checked.prog 7 Tryz.f7 Rows.urlPortsSpec Rows.urlPortsRow=true:=eF (eF (eF (eF (eF (eF (eF (eF (eF (eF (eF (eF (eF (eF (eF (eF (eF (eF (eF (eF (eF (eF (eF (eF (eF (eF (eF (eF (eF (eF (eF k0 k1) k2) k3) k4) k5) k6) k7) k8) k9) LJ) LK) LL) Lo) Lq) Lr) Ls) Lt) Lu) Lv) Lw) Lx) Ly) Lz) LA) LB) LC) LD) LF) LG) LH) LI
theorem over:Rows.urlPortsRow.holds Tryz.pinned (OpenSpec.ofChange Rows.urlPortsSpec):=
 OpenClaim.holds_of_wide 7 Tryz.f7 rfl rfl rfl rfl rfl rfl rfl ⟨rfl,rfl,rfl,rfl,rfl⟩ rfl rfl rfl rfl rfl (by kernel_rfl) Tryz.func7 closed
  (of_decide_eq_true (by kernel_rfl)) (by unfold Func.isWrapper;first|(rw [if_pos (by decide+kernel)];kernel_rfl)|(rw [if_neg (by decide+kernel)];exact ⟨rfl,rfl⟩))
  (fun os started H enc _=>lifted os started H enc)
theorem tied:Rows.urlPortsRow.laidByTextAt .later Tryz.pinned [.data,.data,.data] true:=urlPorts_row_tie
theorem proved:Rows.UrlPortsCardSaid:=
 Claim7.holds_tied_plain_at .later [] [.data,.data,.data] true (true, "ac028c42f48d78bd2afabe420b7733aa8e908b599fc4e97ab2e0f6710d2be292") false
  over (fun _ h=>by cases h) (by kernel_rfl) (fun _ h=>by cases h) tied rfl ⟨rfl,rfl⟩ p1 rfl
  (fun f fn hf hfn=>by
    obtain rfl:f=7:=Option.some.inj ((show Tryz.prog.funcNamed "gossamer/gossamerlaw12.UrlPorts" =some 7 by kernel_rfl).symm.trans hf)|>.symm
    obtain rfl:fn=Tryz.f7:=(Option.some.inj (Tryz.func7.symm.trans hfn)).symm
    exact ⟨p2,fun j t ht=>by
     rw [Tryz.params7]at ht
     have hm:t∈[3,3,3]:=by simpa using Array.mem_of_getElem? ht
     have hall:([3,3,3].all fun u=>!Tryz.prog.wantsStandIn u)=true:=by kernel_rfl
     exact (show Tryz.prog.wantsStandIn t=false by simpa using List.all_eq_true.1 hall t hm)⟩)
  p3
end Go.Proofs.YtmfapopclbnlpaaGreatDoor.urlPorts
