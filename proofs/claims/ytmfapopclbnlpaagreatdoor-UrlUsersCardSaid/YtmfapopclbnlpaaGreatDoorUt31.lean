import Derived.Deep.Grids
import Derived.Test.YtmfapopclbnlpaaGreatDoorUt9
import Derived.Test.YtmfapopclbnlpaaGreatDoorUt18
set_option linter.unusedVariables false
namespace Go.Proofs.YtmfapopclbnlpaaGreatDoor
open Go Go.Proofs Go.RowKit Go.Vc
def mH(w:World)(a:Option Addr)(len cap:Nat)(zs:List Int):Prop:=IZ .i64 w a len cap zs∧∀x,a=some x→x.spot=none
def Kh(w:World):Nat→Nat→Option Value:=fun b o=>w.cell? ⟨b,o,none⟩
theorem GC(w:World):Fits (Kh w) w:=fun b o u h=>h
theorem GD {w:World}{a:Option Addr}{len cap:Nat}{zs:List Int}(h:mH w a len cap zs):∃nl:Bool,aP (.row nl (.ints .i64 (zs.take len)) 0) (gJ (Kh w)) w (.slice a len cap):=by
 obtain ⟨h,hspot⟩:=h
 rcases h with⟨rfl,rfl,rfl,rfl⟩|⟨x,rfl,hl,hm,hz,hcell,hwf⟩
 ·exact ⟨true,.inl ⟨rfl,rfl,rfl⟩⟩
 ·obtain ⟨blk,off,sp⟩:=x
  obtain rfl:sp=none:=hspot _ rfl
  have hlen:((zs.take len).map fun z=>Value.int .i64 z).length=len:=by rw [List.length_map,List.length_take];omega
  refine ⟨false,.inr ⟨rfl,blk,off,cap,?_,?_,.inl ⟨rfl,fun i c hc=>?_⟩⟩⟩
  ·show Value.slice _ len cap=Value.slice _ ((zs.take len).map fun z=>Value.int .i64 z).length cap
   rw [hlen]
  ·show((zs.take len).map fun z=>Value.int .i64 z).length≤cap
   rw [hlen];exact hl
  ·have hc2:((zs.take len).map fun z=>Value.int .i64 z)[i]?=some c:=by
    have:(((zs.take len).map fun z=>Value.int .i64 z).flatMap fun u=>u.cells.toList)=(zs.take len).map fun z=>Value.int .i64 z:=by
     have key:∀l:List Int,((l.map fun z=>Value.int .i64 z).flatMap fun u=>u.cells.toList)=l.map fun z=>Value.int .i64 z:=fun l=>by
      induction l with
      |nil=>rfl
      |cons z l ih=>rw [List.map_cons,List.flatMap_cons,ih];rfl
     exact key _
    rw [←this];exact hc
   rw [List.getElem?_map]at hc2
   by_cases hi:i<len
   ·rw [List.getElem?_take_of_lt hi,List.getElem?_eq_getElem (by omega)]at hc2
    injection hc2 with hc2
    show w.cell? ⟨blk,off+i,none⟩=some c
    have:=hcell i (by omega)
    rw [l7]at this
    rw [this,←hc2,List.getD_eq_getElem?_getD,List.getElem?_eq_getElem (by omega)]
    rfl
   ·rw [List.getElem?_eq_none (by rw [List.length_take];omega)]at hc2;cases hc2
theorem IJ {w:World}{a:Option Addr}{len cap:Nat}{zs:List Int}(h:mH w a len cap zs):∀z∈zs.take len,-9223372036854775808≤z∧z≤9223372036854775807:=fun z hz=>by
 rcases h.1 with⟨rfl,rfl,rfl,rfl⟩|⟨x,rfl,hl,hm,hz2,hcell,hwf⟩
 ·cases hz
 ·have:=hwf z (List.mem_of_mem_take hz)
  simp [Lit.wf,IntKind.min,IntKind.max,IntKind.signed,IntKind.bits]at this;omega
end Go.Proofs.YtmfapopclbnlpaaGreatDoor
