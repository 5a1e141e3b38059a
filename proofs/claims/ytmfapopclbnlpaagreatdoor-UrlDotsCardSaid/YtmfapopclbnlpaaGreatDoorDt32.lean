import Derived.Test.YtmfapopclbnlpaaGreatDoorDt18
import Derived.Test.YtmfapopclbnlpaaGreatDoorDt31
set_option linter.unusedVariables false
namespace Go.Proofs.YtmfapopclbnlpaaGreatDoor
open Go Go.Proofs Go.RowKit Go.Vc
def pv(w:World)(a:Option Addr)(len cap:Nat)(zs:List Bool):Prop:=vP w a len cap zs∧∀x,a=some x→x.spot=none
def mN(w:World)(a:Option Addr)(len cap:Nat)(zs:List Int):Prop:=Jn .i64 w a len cap zs∧∀x,a=some x→x.spot=none
theorem KF:∀(zs:List Bool) (G:Gh) (w:World),ar (zs.map fun b=>PV.bool b) G w (zs.map fun b=>Value.bool b)
 |[],_,_=>rfl
 |b::zs,G,w=>⟨_,_,rfl,rfl,KF zs G w⟩
theorem JC:∀zs:List Bool,((zs.map fun b=>Value.bool b).flatMap fun u=>u.cells.toList)=zs.map fun b=>Value.bool b
 |[]=>rfl
 |b::zs=>by
  rw [List.map_cons,List.flatMap_cons,JC zs]
  rfl
def I8(w:World):Nat→Nat→Option Value:=fun b o=>w.cell? ⟨b,o,none⟩
theorem GO(w:World):Fits (I8 w) w:=fun b o u h=>h
theorem GP {w:World}{a:Option Addr}{len cap:Nat}{zs:List Bool}(h:pv w a len cap zs):∃nl:Bool,aP (.vec nl 1 (zs.map fun b=>PV.bool b) 0) (gA (I8 w)) w (.slice a len cap):=by
 obtain ⟨⟨rfl,a',cap',hv,hle,hmax,hnone,hsome⟩,hspot⟩:=h
 injection hv with e1 e2 e3
 subst e1 e3
 have hw:pH 1 (zs.map fun b=>Value.bool b):=fun u hu=>by
  obtain ⟨b,-,rfl⟩:=List.mem_map.1 hu
  exact ⟨rfl,fun c hc=>by
   have:c=.bool b:=by simpa [Value.cells]using hc
   rw [this];rfl⟩
 cases a with
 |none=>
  have hc:=hnone rfl
  have hz:zs=[]:=List.length_eq_zero_iff.1 (by omega)
  subst hz hc
  exact ⟨true,_,KF [] _ _,hw,.inl ⟨rfl,rfl,rfl⟩⟩
 |some x=>
  obtain ⟨blk,off,sp⟩:=x
  obtain rfl:sp=none:=hspot _ rfl
  refine ⟨false,_,KF zs _ _,hw,.inr ⟨rfl,blk,off,cap,?_,?_,.inl ⟨rfl,fun i c hc=>?_⟩⟩⟩
  ·rw [List.length_map]
  ·rw [List.length_map];exact hle
  ·rw [JC,List.getElem?_map]at hc
   by_cases hi:i<zs.length
   ·obtain ⟨b2,off2,e,hcells⟩:=hsome (by omega)
    injection e with e
    injection e with e1 e2
    subst e1 e2
    rw [List.getElem?_eq_getElem hi]at hc
    show w.cell? ⟨blk,off+i,none⟩=some c
    rw [hcells i hi,←hc]
    unfold AL
    rw [List.getD_eq_getElem?_getD,List.getElem?_eq_getElem hi]
    rfl
   ·rw [List.getElem?_eq_none (by omega)]at hc;cases hc
theorem GQ {w:World}{a:Option Addr}{len cap:Nat}{zs:List Int}(h:mN w a len cap zs):∃nl:Bool,aP (.row nl (.ints .i64 (zs.take len)) 0) (gA (I8 w)) w (.slice a len cap):=by
 obtain ⟨h,hspot⟩:=h
 rcases h with⟨rfl,rfl,rfl,rfl⟩|⟨x,rfl,hl,hm,hz,hcell,hwf⟩
 ·exact ⟨true,.inl ⟨rfl,rfl,rfl⟩⟩
 ·obtain ⟨blk,off,sp⟩:=x
  obtain rfl:sp=none:=hspot _ rfl
  have hlen:((zs.take len).map fun z=>Value.int .i64 z).length=len:=by rw [List.length_map,List.length_take];omega
  refine ⟨false,.inr ⟨rfl,blk,off,cap,?_,?_,.inl ⟨rfl,fun i c hc=>?_⟩⟩⟩
  ·show Value.slice _ len cap=Value.slice _ ((zs.take len).map fun z=>Value.int .i64 z).length cap
   rw [hlen]
  ·show((zs.take len).map fun z=>Value.int .i64 z).length≤cap
   rw [hlen];exact hl
  ·have hc2:((zs.take len).map fun z=>Value.int .i64 z)[i]?=some c:=by
    have:(((zs.take len).map fun z=>Value.int .i64 z).flatMap fun u=>u.cells.toList)=(zs.take len).map fun z=>Value.int .i64 z:=by
     have key:∀l:List Int,((l.map fun z=>Value.int .i64 z).flatMap fun u=>u.cells.toList)=l.map fun z=>Value.int .i64 z:=fun l=>by
      induction l with
      |nil=>rfl
      |cons z l ih=>rw [List.map_cons,List.flatMap_cons,ih];rfl
     exact key _
    rw [←this];exact hc
   rw [List.getElem?_map]at hc2
   by_cases hi:i<len
   ·rw [List.getElem?_take_of_lt hi,List.getElem?_eq_getElem (by omega)]at hc2
    injection hc2 with hc2
    show w.cell? ⟨blk,off+i,none⟩=some c
    have:=hcell i (by omega)
    rw [ja]at this
    rw [this,←hc2,List.getD_eq_getElem?_getD,List.getElem?_eq_getElem (by omega)]
    rfl
   ·rw [List.getElem?_eq_none (by rw [List.length_take];omega)]at hc2;cases hc2
theorem I9 {w:World}{a:Option Addr}{len cap:Nat}{zs:List Int}(h:mN w a len cap zs):∀z∈zs.take len,-9223372036854775808≤z∧z≤9223372036854775807:=fun z hz=>by
 rcases h.1 with⟨rfl,rfl,rfl,rfl⟩|⟨x,rfl,hl,hm,hz2,hcell,hwf⟩
 ·cases hz
 ·have:=hwf z (List.mem_of_mem_take hz)
  simp [Lit.wf,IntKind.min,IntKind.max,IntKind.signed,IntKind.bits]at this;omega
end Go.Proofs.YtmfapopclbnlpaaGreatDoor
