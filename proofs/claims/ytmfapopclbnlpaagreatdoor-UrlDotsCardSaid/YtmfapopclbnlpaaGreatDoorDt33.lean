import Derived.Test.YtmfapopclbnlpaaGreatDoorDt30
import Derived.Test.YtmfapopclbnlpaaGreatDoorDt32
set_option linter.unusedVariables false
namespace Go.Proofs.YtmfapopclbnlpaaGreatDoor
open Go Go.Proofs Go.RowKit Go.Vc
theorem vQ(a0:Option Addr)(len0 cap0:Nat)(z0:List Int)(a1:Option Addr)(len1 cap1:Nat)(z1:List Bool)(w:World)(w0:mN w a0 len0 cap0 z0)(w1:pv w a1 len1 cap1 z1)(htab:oW w):
 Calls Tryz.prog 6 #[.slice a0 len0 cap0,.slice a1 len1 cap1] w fun e w'=>e=.returned (.bool true)∧Below w.heap.size w w':=by
 obtain ⟨nl0,hr0⟩:=GQ w0
 have h0:=I9 w0
 obtain ⟨nl1,hr1⟩:=GP w1
 have hx:ar [.row nl0 (.ints .i64 (z0.take len0)) 0,.vec nl1 1 (z1.map fun b=>PV.bool b) 0] (gA (I8 w)) w [.slice a0 len0 cap0,.slice a1 len1 cap1]:=
  ⟨_,_,rfl,hr0,⟨_,_,rfl,hr1,rfl⟩⟩
 refine (ag.walk (fn:=Tryz.f6) Tryz.func6 (by kernel_rfl) rfl (GN nl0 (z0.take len0) nl1 _ z1) (⟨rfl,h0⟩) (GO w) (y9 _) htab hx).mono fun e w' ⟨u,he,F',_,hb,_,_,_,_,hu⟩=>⟨by rw [he];exact congrArg _ hu,hb⟩
end Go.Proofs.YtmfapopclbnlpaaGreatDoor
