import Derived.Test.YtmfapopclbnlpaaGreatDoorSt30
import Derived.Test.YtmfapopclbnlpaaGreatDoorSt32
set_option linter.unusedVariables false
namespace Go.Proofs.YtmfapopclbnlpaaGreatDoor
open Go Go.Proofs Go.RowKit Go.Vc
theorem ph(a0:Int)(a1:ByteArray)(a2:Option Addr)(len2 cap2:Nat)(z2:List Bool)(w:World)(w0:(Lit.int .i64 a0).wf=true)(w1:a1.size≤maxLen)(w2:pH w a2 len2 cap2 z2)(htab:o5 w):
 Calls Tryz.prog 11 #[.int .i64 a0,.string a1,.slice a2 len2 cap2] w fun e w'=>e=.returned (.bool true)∧Below w.heap.size w w':=by
 have h0:=Mi w0
 obtain ⟨nl2,hr2⟩:=Hj w2
 have hx:au [.int .i64 a0,.str a1.data.toList,.vec nl2 1 (z2.map fun b=>PV.bool b) 0] (gO (K1 w)) w [.int .i64 a0,.string a1,.slice a2 len2 cap2]:=
  ⟨_,_,rfl,rfl,⟨_,_,rfl,rfl,⟨_,_,rfl,hr2,rfl⟩⟩⟩
 refine (ag.walk (fn:=Tryz.f11) Tryz.func11 (by kernel_rfl) rfl (Ew a0 a1.data.toList nl2 _ z2) (⟨rfl,h0⟩) (Hi w) (zl _) htab hx).mono fun e w' ⟨u,he,F',_,hb,_,_,_,_,hu⟩=>⟨by rw [he];exact congrArg _ hu,hb⟩
end Go.Proofs.YtmfapopclbnlpaaGreatDoor
