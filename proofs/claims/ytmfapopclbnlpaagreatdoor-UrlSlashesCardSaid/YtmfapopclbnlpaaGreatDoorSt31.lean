import Derived.Deep.Grids
import Derived.Test.YtmfapopclbnlpaaGreatDoorSt9
set_option linter.unusedVariables false
set_option linter.unusedSimpArgs false
namespace Go.Proofs.YtmfapopclbnlpaaGreatDoor
open Go.RowKit
def A1(zs:List Bool)(i:Nat):Value:=.bool (zs.getD i false)
def wa(w:World)(a:Option Addr)(len cap:Nat)(zs:List Bool):Prop:=
 len=zs.length∧je w (.slice a len cap) zs.length (A1 zs)
theorem A2(w:World):wa w none 0 0 []:=⟨rfl,⟨none,0,rfl,Nat.le_refl _,by unfold maxLen;omega,fun _=>rfl,fun h=>by simp at h⟩⟩
theorem yT {w:World}{a:Addr}{len cap:Nat}{B:Nat→Bool}(hl:len≤cap)(hm:cap≤maxLen)
 (hcell:∀i,i<cap→w.cell? (a.add i)=some (.bool (B i))):wa w (some a) len cap ((List.range len).map B):=by
 have hlen:((List.range len).map B).length=len:=by simp
 refine ⟨hlen.symm,⟨some a,cap,by rw [hlen],by rw [hlen];exact hl,hm,(fun h=>by cases h),fun hn=>?_⟩⟩
 rw [hlen]at hn⊢
 have h0:=CY a w (hcell 0 (by omega))
 refine ⟨a.block,a.off,by rw [←h0],fun i hi=>?_⟩
 rw [uS a i w h0 (hcell i (by omega))]
 unfold A1
 simp [List.getD,hi]
end Go.Proofs.YtmfapopclbnlpaaGreatDoor
