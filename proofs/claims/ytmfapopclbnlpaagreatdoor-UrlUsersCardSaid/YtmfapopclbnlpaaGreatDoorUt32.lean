import Derived.Test.YtmfapopclbnlpaaGreatDoorUt30
import Derived.Test.YtmfapopclbnlpaaGreatDoorUt31
set_option linter.unusedVariables false
namespace Go.Proofs.YtmfapopclbnlpaaGreatDoor
open Go Go.Proofs Go.RowKit Go.Vc
theorem rY(a0:Option Addr)(len0 cap0:Nat)(z0:List Int)(w:World)(w0:mH w a0 len0 cap0 z0)(htab:oO w):
 Calls Tryz.prog 8 #[.slice a0 len0 cap0] w fun e w'=>e=.returned (.bool true)∧Below w.heap.size w w':=by
 obtain ⟨nl0,hr0⟩:=GD w0
 have h0:=IJ w0
 have hx:ar [.row nl0 (.ints .i64 (z0.take len0)) 0] (gJ (Kh w)) w [.slice a0 len0 cap0]:=
  ⟨_,_,rfl,hr0,rfl⟩
 refine (ag.walk (fn:=Tryz.f8) Tryz.func8 (by kernel_rfl) rfl (DX nl0 (z0.take len0)) (h0) (GC w) (yU _) htab hx).mono fun e w' ⟨u,he,F',_,hb,_,_,_,_,hu⟩=>⟨by rw [he];exact congrArg _ hu,hb⟩
end Go.Proofs.YtmfapopclbnlpaaGreatDoor
