import Derived.Deep.Grids
import Derived.Test.YtmfapopclbnlpaaGreatDoorDt9
set_option linter.unusedVariables false
set_option linter.unusedSimpArgs false
namespace Go.Proofs.YtmfapopclbnlpaaGreatDoor
open Go.RowKit
def AL(zs:List Bool)(i:Nat):Value:=.bool (zs.getD i false)
def vP(w:World)(a:Option Addr)(len cap:Nat)(zs:List Bool):Prop:=
 len=zs.length∧iZ w (.slice a len cap) zs.length (AL zs)
theorem AM(w:World):vP w none 0 0 []:=⟨rfl,⟨none,0,rfl,Nat.le_refl _,by unfold maxLen;omega,fun _=>rfl,fun h=>by simp at h⟩⟩
theorem yI {w:World}{a:Addr}{len cap:Nat}{B:Nat→Bool}(hl:len≤cap)(hm:cap≤maxLen)
 (hcell:∀i,i<cap→w.cell? (a.add i)=some (.bool (B i))):vP w (some a) len cap ((List.range len).map B):=by
 have hlen:((List.range len).map B).length=len:=by simp
 refine ⟨hlen.symm,⟨some a,cap,by rw [hlen],by rw [hlen];exact hl,hm,(fun h=>by cases h),fun hn=>?_⟩⟩
 rw [hlen]at hn⊢
 have h0:=CF a w (hcell 0 (by omega))
 refine ⟨a.block,a.off,by rw [←h0],fun i hi=>?_⟩
 rw [uD a i w h0 (hcell i (by omega))]
 unfold AL
 simp [List.getD,hi]
end Go.Proofs.YtmfapopclbnlpaaGreatDoor
