import Derived.Test.YtmfapopclbnlpaaGreatDoorHx5
import Derived.Test.YtmfapopclbnlpaaGreatDoorHx17
import Derived.Test.YtmfapopclbnlpaaGreatDoorHx26
set_option linter.unusedVariables false
set_option linter.unusedSimpArgs false
namespace Go.Proofs.YtmfapopclbnlpaaGreatDoor
open Go Go.Proofs Go.RowKit Go.Vc
theorem pX:∀l:List Bs,((al.strs l).aM.flatMap fun u=>u.cells.toList)=(al.strs l).aM
 |[]=>rfl
 |x::l=>by
  show(Value.string ⟨x.toArray⟩).cells.toList++((al.strs l).aM.flatMap fun u=>u.cells.toList)=_::(al.strs l).aM;rw [pX l];rfl
theorem LY(nl:Bool)(l:List Bs):ae Tryz.prog az 131 [.row nl (.strs l) 0] ⟨l.length<=1000000,.row nl (.strs l) 1⟩:=by
 refine .nB rfl ?_;intro hpre F w vs hF hT hwd hx;obtain ⟨v,vs',rfl,hv,hn⟩:=hx;obtain rfl:vs'=[]:=hn;refine .inl ⟨o6 (fn:=Tryz.f131) Tryz.func131 (by kernel_rfl) rfl _ w,?_⟩;rcases hv with⟨rfl,hu,rfl⟩|⟨rfl,b,o,cap,rfl,hcap,hat⟩
 ·refine (Any.slices_Clone_string_nil Tryz.wZ 0 0 w).mono fun e w' he=>?_
  obtain ⟨rfl,rfl⟩:=he;exact ⟨_,rfl,F,fun _=>none,Below.refl _ _,gm.refl _,hF,fun b o q hq=>.inl hq,(fun t b e=>by cases e),.inl ⟨rfl,hu,rfl⟩⟩
 ·have hlen:(al.strs l).aM.length=l.length:=by
   show(l.map _).length=_;rw [List.length_map]
  have hc:∀j,j<(l.map fun x=>(⟨x.toArray⟩:ByteArray)).length->w.cell? ⟨b,o+j,none⟩=some (.string ((l.map fun x=>(⟨x.toArray⟩:ByteArray)).getD j ByteArray.empty)):=fun j hj=>by
   rw [List.length_map]at hj;rcases hat with⟨-,h2⟩|⟨h1,-⟩
   ·refine hF _ _ _ (h2 j _ ?_)
    rw [pX];show(l.map fun x=>Value.string ⟨x.toArray⟩)[j]?=_;rw [List.getElem?_map,List.getElem?_eq_getElem hj,List.getD_eq_getElem?_getD,List.getElem?_map,List.getElem?_eq_getElem hj];rfl
   ·exact absurd rfl h1
  have hcl:=Any.slices_Clone_string Tryz.wZ b o (al.strs l).aM.length cap (l.map fun x=>(⟨x.toArray⟩:ByteArray)) w (by rw [hlen,List.length_map];exact Nat.le_refl _) (by rw [hlen];show l.length*16<=_;have:l.length<=1000000:=hpre;omega) hc;refine hcl.mono fun e w' he=>?_;obtain ⟨v',rfl,hown,hne,hb⟩:=he;obtain ⟨hxl,hown⟩:=hown;rcases hown with⟨h0,-⟩|⟨g,cap',cur,rfl,hg,hheap,hn,hmax,hsz,htake⟩
  ·exact absurd h0 hne
  have hFg:∀o,F g o=none:=fun o=>by
   cases e:F g o with
   |none=>rfl
   |some q=>have:=gF (hF _ _ _ e);omega
  have hglt:g<w'.heap.size:=by
   rcases Nat.lt_or_ge g w'.heap.size with h|h
   ·exact h
   ·rw [Array.getElem?_eq_none h]at hheap;cases hheap
  refine ⟨_,rfl,F,fun t=>if t=1 then some g else none,hb,gm.refl _,fun b o q hq=>by
   have:=hF b o q hq;rw [hb.cell (p:=⟨b,o,none⟩) (gF this)];exact this,fun b o q hq=>.inl hq,fun t b2 e=>?_,?_⟩
  ·dsimp only at e
   split at e
   ·injection e with e;subst e;exact ⟨hg,hglt,hFg⟩
   ·cases e
  ·refine .inr ⟨rfl,g,0,cap',rfl,hn,.inr ⟨by decide,rfl,fun i c hi=>?_,cur,_,(0,0),hheap,⟨rfl,by rw [hsz];omega⟩,fun i hi=>by omega⟩⟩
   rw [pX]at hi;have hxs:((l.map fun x=>(⟨x.toArray⟩:ByteArray)).take (al.strs l).aM.length).map Value.string=(al.strs l).aM:=by
    rw [hlen,List.take_of_length_le (by rw [List.length_map];exact Nat.le_refl _),List.map_map];rfl
   rw [hxs]at htake;rw [<-htake,Nat.mul_one]at hi;unfold World.cell?;rw [hheap];show cur[0+i]?=some c;rw [Nat.zero_add,<-Array.getElem?_toList];rw [List.getElem?_take]at hi;split at hi
   ·exact hi
   ·cases hi
def pY:List PV->Option aD:=fun xs=>match xs with
 |[.row nl (.strs l) 0]=>some ⟨l.length<=1000000,.row nl (.strs l) 1⟩
 |_=>none
theorem y1:∀xs c,pY xs=some c->ae Tryz.prog az 131 xs c:=fun xs c h=>by
 unfold pY at h;split at h
 ·injection h with h;subst h;exact LY _ _
 ·cases h
end Go.Proofs.YtmfapopclbnlpaaGreatDoor
