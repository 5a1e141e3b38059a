/-
  The law 'gossamerlaw12.UrlUsers' returns true for every input, and each argument reads behind the call as it read before. No conditions.
-/
import Derived.Test.YtmfapopclbnlpaaGreatDoorRows
import Derived.Test.YtmfapopclbnlpaaGreatDoorCards
import Derived.Test.YtmfapopclbnlpaaGreatDoorTie
import Derived.LaidMore
import Derived.Lay
import Derived.MakeChecks
import Derived.SevenTiedAt
import Derived.WalkKit
import Derived.ProofKit
import Derived.OpenShut
import Derived.ShutString
import Derived.ChangeOld
import Derived.Below
import Derived.SliceStrings
import Derived.Test.YtmfapopclbnlpaaGreatDoorUt32
import Derived.Test.YtmfapopclbnlpaaGreatDoorUt35
import Derived.Test.YtmfapopclbnlpaaGreatDoorUt36
import Derived.Test.YtmfapopclbnlpaaGreatDoorUtLift
import Derived.Test.YtmfapopclbnlpaaGreatDoorUtCl0
import Derived.Test.YtmfapopclbnlpaaGreatDoorUtCl1
import Derived.Test.YtmfapopclbnlpaaGreatDoorUtCl2
import Derived.Test.YtmfapopclbnlpaaGreatDoorUtCl3
import Derived.Test.YtmfapopclbnlpaaGreatDoorUtCl4
import Derived.Test.YtmfapopclbnlpaaGreatDoorUtCp0
import Derived.Test.YtmfapopclbnlpaaGreatDoorUtCp1
namespace Go.Proofs.YtmfapopclbnlpaaGreatDoor.urlUsers
open Go.ChangeShapes Go.WideShapes Go.ChangeAt Go.RowKit
open Go.ChangeMaps (open_string shut_string)
set_option linter.unusedVariables false
theorem eE {a b:Bool}(h:a=true)(g:b=true):(a&&b)=true:=by rw [h,g];rfl
set_option maxRecDepth 1000000 in
theorem closed:joinedFacts Tryz.pinned.checked.prog 8 Tryz.f8 Rows.urlUsersSpec Rows.urlUsersRow=true:=eE (eE (eE (eE (eE (eE (eE (eE (eE (eE (eE (eE (eE (eE (eE (eE (eE (eE (eE (eE (eE (eE (eE (eE (eE (eE (eE (eE (eE (eE (eE k0 k1) k2) k3) k4) k5) k6) k7) k8) k9) LL) LM) LN) Lr) Ls) Lt) Lu) Lv) Lw) Lx) Ly) Lz) LA) LB) LC) LD) LF) LG) LH) LI) LJ) LK
theorem over:Rows.urlUsersRow.holds Tryz.pinned (OpenSpec.ofChange Rows.urlUsersSpec):=
 OpenClaim.holds_of_wide 8 Tryz.f8 rfl rfl rfl rfl rfl rfl rfl ⟨rfl,rfl,rfl,rfl,rfl⟩ rfl rfl rfl rfl rfl (by kernel_rfl) Tryz.func8 closed
  (of_decide_eq_true (by kernel_rfl)) (by unfold Func.isWrapper;first|(rw [if_pos (by decide+kernel)];kernel_rfl)|(rw [if_neg (by decide+kernel)];exact ⟨rfl,rfl⟩))
  (fun os started H enc _=>lifted os started H enc)
theorem tied:Rows.urlUsersRow.laidByTextAt .later Tryz.pinned [.data,.data,.data] true:=urlUsers_row_tie
theorem proved:Rows.UrlUsersCardSaid:=
 Claim7.holds_tied_plain_at .later [] [.data,.data,.data] true (true, "ac028c42f48d78bd2afabe420b7733aa8e908b599fc4e97ab2e0f6710d2be292") false
  over (fun _ h=>by cases h) (by kernel_rfl) (fun _ h=>by cases h) tied rfl ⟨rfl,rfl⟩ p1 rfl
  (fun f fn hf hfn=>by
    obtain rfl:f=8:=Option.some.inj ((show Tryz.prog.funcNamed "gossamer/gossamerlaw12.UrlUsers" =some 8 by kernel_rfl).symm.trans hf)|>.symm
    obtain rfl:fn=Tryz.f8:=(Option.some.inj (Tryz.func8.symm.trans hfn)).symm
    exact ⟨p2,fun j t ht=>by
     rw [Tryz.params8]at ht
     have hm:t∈[47]:=by simpa using Array.mem_of_getElem? ht
     have hall:([47].all fun u=>!Tryz.prog.wantsStandIn u)=true:=by kernel_rfl
     exact (show Tryz.prog.wantsStandIn t=false by simpa using List.all_eq_true.1 hall t hm)⟩)
  p3
end Go.Proofs.YtmfapopclbnlpaaGreatDoor.urlUsers
