/-
  The law 'gossamerlaw12.UrlSlashes' returns true for every input, and each argument reads behind the call as it read before. No conditions.
-/
import Derived.Test.YtmfapopclbnlpaaGreatDoorRows
import Derived.Test.YtmfapopclbnlpaaGreatDoorCards
import Derived.Test.YtmfapopclbnlpaaGreatDoorTie
import Derived.LaidMore
import Derived.Lay
import Derived.MakeChecks
import Derived.SevenTiedAt
import Derived.WalkKit
import Derived.ProofKit
import Derived.OpenShut
import Derived.ShutString
import Derived.ChangeOld
import Derived.Below
import Derived.SliceStrings
import Derived.Test.YtmfapopclbnlpaaGreatDoorSt33
import Derived.Test.YtmfapopclbnlpaaGreatDoorSt36
import Derived.Test.YtmfapopclbnlpaaGreatDoorSt37
import Derived.Test.YtmfapopclbnlpaaGreatDoorStLift
import Derived.Test.YtmfapopclbnlpaaGreatDoorStCl0
import Derived.Test.YtmfapopclbnlpaaGreatDoorStCl1
import Derived.Test.YtmfapopclbnlpaaGreatDoorStCl2
import Derived.Test.YtmfapopclbnlpaaGreatDoorStCl3
import Derived.Test.YtmfapopclbnlpaaGreatDoorStCl4
import Derived.Test.YtmfapopclbnlpaaGreatDoorStCp0
import Derived.Test.YtmfapopclbnlpaaGreatDoorStCp1
namespace Go.Proofs.YtmfapopclbnlpaaGreatDoor.urlSlashes
open Go.ChangeShapes Go.WideShapes Go.ChangeAt Go.RowKit
open Go.ChangeMaps (open_string shut_string)
set_option linter.unusedVariables false
theorem eK {a b:Bool}(h:a=true)(g:b=true):(a&&b)=true:=by rw [h,g];rfl
set_option maxRecDepth 1000000 in
theorem closed:joinedFacts Tryz.pinned.checked.prog 11 Tryz.f11 Rows.urlSlashesSpec Rows.urlSlashesRow=true:=eK (eK (eK (eK (eK (eK (eK (eK (eK (eK (eK (eK (eK (eK (eK (eK (eK (eK (eK (eK (eK (eK (eK (eK (eK (eK (eK (eK (eK (eK (eK k0 k1) k2) k3) k4) k5) k6) k7) k8) k9) MC) MD) ME) Mj) Mk) Ml) Mm) Mn) Mo) Mp) Mq) Mr) Ms) Mt) Mu) Mv) Mw) Mx) My) Mz) MA) MB
theorem over:Rows.urlSlashesRow.holds Tryz.pinned (OpenSpec.ofChange Rows.urlSlashesSpec):=
 OpenClaim.holds_of_wide 11 Tryz.f11 rfl rfl rfl rfl rfl rfl rfl ⟨rfl,rfl,rfl,rfl,rfl⟩ rfl rfl rfl rfl rfl (by kernel_rfl) Tryz.func11 closed
  (of_decide_eq_true (by kernel_rfl)) (by unfold Func.isWrapper;first|(rw [if_pos (by decide+kernel)];kernel_rfl)|(rw [if_neg (by decide+kernel)];exact ⟨rfl,rfl⟩))
  (fun os started H enc _=>lifted os started H enc)
theorem tied:Rows.urlSlashesRow.laidByTextAt .later Tryz.pinned [.data,.data,.data] true:=urlSlashes_row_tie
theorem proved:Rows.UrlSlashesCardSaid:=
 Claim7.holds_tied_plain_at .later [] [.data,.data,.data] true (true, "ac028c42f48d78bd2afabe420b7733aa8e908b599fc4e97ab2e0f6710d2be292") false
  over (fun _ h=>by cases h) (by kernel_rfl) (fun _ h=>by cases h) tied rfl ⟨rfl,rfl⟩ p1 rfl
  (fun f fn hf hfn=>by
    obtain rfl:f=11:=Option.some.inj ((show Tryz.prog.funcNamed "gossamer/gossamerlaw12.UrlSlashes" =some 11 by kernel_rfl).symm.trans hf)|>.symm
    obtain rfl:fn=Tryz.f11:=(Option.some.inj (Tryz.func11.symm.trans hfn)).symm
    exact ⟨p2,fun j t ht=>by
     rw [Tryz.params11]at ht
     have hm:t∈[3,9,48]:=by simpa using Array.mem_of_getElem? ht
     have hall:([3,9,48].all fun u=>!Tryz.prog.wantsStandIn u)=true:=by kernel_rfl
     exact (show Tryz.prog.wantsStandIn t=false by simpa using List.all_eq_true.1 hall t hm)⟩)
  p3
end Go.Proofs.YtmfapopclbnlpaaGreatDoor.urlSlashes
