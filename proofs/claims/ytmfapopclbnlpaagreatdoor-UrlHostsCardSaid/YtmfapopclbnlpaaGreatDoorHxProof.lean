/-
  The law 'gossamerlaw12.UrlHosts' returns true for every input, and each argument reads behind the call as it read before. No conditions.
-/
import Derived.Test.YtmfapopclbnlpaaGreatDoorRows
import Derived.Test.YtmfapopclbnlpaaGreatDoorCards
import Derived.Test.YtmfapopclbnlpaaGreatDoorTie
import Derived.LaidMore
import Derived.Lay
import Derived.MakeChecks
import Derived.SevenTiedAt
import Derived.WalkKit
import Derived.ProofKit
import Derived.OpenShut
import Derived.ShutString
import Derived.ChangeOld
import Derived.Below
import Derived.SliceStrings
import Derived.Test.YtmfapopclbnlpaaGreatDoorHx30
import Derived.Test.YtmfapopclbnlpaaGreatDoorHx33
import Derived.Test.YtmfapopclbnlpaaGreatDoorHxLift
import Derived.Test.YtmfapopclbnlpaaGreatDoorHxCl0
import Derived.Test.YtmfapopclbnlpaaGreatDoorHxCl1
import Derived.Test.YtmfapopclbnlpaaGreatDoorHxCl2
import Derived.Test.YtmfapopclbnlpaaGreatDoorHxCl3
import Derived.Test.YtmfapopclbnlpaaGreatDoorHxCl4
import Derived.Test.YtmfapopclbnlpaaGreatDoorHxCp0
import Derived.Test.YtmfapopclbnlpaaGreatDoorHxCp1
namespace Go.Proofs.YtmfapopclbnlpaaGreatDoor.urlHosts
open Go.ChangeShapes Go.WideShapes Go.ChangeAt Go.RowKit
open Go.ChangeMaps (open_string shut_string)
set_option linter.unusedVariables false
theorem fI {a b:Bool}(h:a=true)(g:b=true):(a&&b)=true:=by rw [h,g];rfl
set_option maxRecDepth 1000000 in
theorem closed:joinedFacts Tryz.pinned.checked.prog 10 Tryz.f10 Rows.urlHostsSpec Rows.urlHostsRow=true:=fI (fI (fI (fI (fI (fI (fI (fI (fI (fI (fI (fI (fI (fI (fI (fI (fI (fI (fI (fI (fI (fI (fI (fI (fI (fI (fI (fI (fI (fI (fI k0 k1) k2) k3) k4) k5) k6) k7) k8) k9) Rg) Rh) Ri) QX) QY) QZ) Q0) Q1) Q2) Q3) Q4) Q5) Q6) Q7) Q8) Q9) Ra) Rb) Rc) Rd) Re) Rf
theorem over:Rows.urlHostsRow.holds Tryz.pinned (OpenSpec.ofChange Rows.urlHostsSpec):=
 OpenClaim.holds_of_wide 10 Tryz.f10 rfl rfl rfl rfl rfl rfl rfl ⟨rfl,rfl,rfl,rfl,rfl⟩ rfl rfl rfl rfl rfl (by kernel_rfl) Tryz.func10 closed
  (of_decide_eq_true (by kernel_rfl)) (by unfold Func.isWrapper;first|(rw [if_pos (by decide+kernel)];kernel_rfl)|(rw [if_neg (by decide+kernel)];exact ⟨rfl,rfl⟩))
  (fun os started H enc _=>lifted os started H enc)
theorem tied:Rows.urlHostsRow.laidByTextAt .later Tryz.pinned [.data,.data,.data] true:=urlHosts_row_tie
theorem proved:Rows.UrlHostsCardSaid:=
 Claim7.holds_tied_plain_at .later [] [.data,.data,.data] true (true, "ac028c42f48d78bd2afabe420b7733aa8e908b599fc4e97ab2e0f6710d2be292") false
  over (fun _ h=>by cases h) (by kernel_rfl) (fun _ h=>by cases h) tied rfl ⟨rfl,rfl⟩ p1 rfl
  (fun f fn hf hfn=>by
    obtain rfl:f=10:=Option.some.inj ((show Tryz.prog.funcNamed "gossamer/gossamerlaw12.UrlHosts" =some 10 by kernel_rfl).symm.trans hf)|>.symm;obtain rfl:fn=Tryz.f10:=(Option.some.inj (Tryz.func10.symm.trans hfn)).symm;exact ⟨p2,fun j t ht=>by
     rw [Tryz.params10]at ht;have hm:t∈[9]:=by simpa using Array.mem_of_getElem? ht
     have hall:([9].all fun u=>!Tryz.prog.wantsStandIn u)=true:=by kernel_rfl
     exact (show Tryz.prog.wantsStandIn t=false by simpa using List.all_eq_true.1 hall t hm)⟩)
  p3
end Go.Proofs.YtmfapopclbnlpaaGreatDoor.urlHosts
