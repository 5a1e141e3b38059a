import Derived.Test.YtmfapopclbnlpaaGreatDoorSt18
import Derived.Test.YtmfapopclbnlpaaGreatDoorSt31
set_option linter.unusedVariables false
namespace Go.Proofs.YtmfapopclbnlpaaGreatDoor
open Go Go.Proofs Go.RowKit Go.Vc
def pH(w:World)(a:Option Addr)(len cap:Nat)(zs:List Bool):Prop:=wa w a len cap zs∧∀x,a=some x→x.spot=none
theorem K0:∀(zs:List Bool) (G:Gh) (w:World),au (zs.map fun b=>PV.bool b) G w (zs.map fun b=>Value.bool b)
 |[],_,_=>rfl
 |b::zs,G,w=>⟨_,_,rfl,rfl,K0 zs G w⟩
theorem JU:∀zs:List Bool,((zs.map fun b=>Value.bool b).flatMap fun u=>u.cells.toList)=zs.map fun b=>Value.bool b
 |[]=>rfl
 |b::zs=>by
  rw [List.map_cons,List.flatMap_cons,JU zs]
  rfl
def K1(w:World):Nat→Nat→Option Value:=fun b o=>w.cell? ⟨b,o,none⟩
theorem Hi(w:World):Fits (K1 w) w:=fun b o u h=>h
theorem Hj {w:World}{a:Option Addr}{len cap:Nat}{zs:List Bool}(h:pH w a len cap zs):∃nl:Bool,aQ (.vec nl 1 (zs.map fun b=>PV.bool b) 0) (gO (K1 w)) w (.slice a len cap):=by
 obtain ⟨⟨rfl,a',cap',hv,hle,hmax,hnone,hsome⟩,hspot⟩:=h
 injection hv with e1 e2 e3
 subst e1 e3
 have hw:pR 1 (zs.map fun b=>Value.bool b):=fun u hu=>by
  obtain ⟨b,-,rfl⟩:=List.mem_map.1 hu
  exact ⟨rfl,fun c hc=>by
   have:c=.bool b:=by simpa [Value.cells]using hc
   rw [this];rfl⟩
 cases a with
 |none=>
  have hc:=hnone rfl
  have hz:zs=[]:=List.length_eq_zero_iff.1 (by omega)
  subst hz hc
  exact ⟨true,_,K0 [] _ _,hw,.inl ⟨rfl,rfl,rfl⟩⟩
 |some x=>
  obtain ⟨blk,off,sp⟩:=x
  obtain rfl:sp=none:=hspot _ rfl
  refine ⟨false,_,K0 zs _ _,hw,.inr ⟨rfl,blk,off,cap,?_,?_,.inl ⟨rfl,fun i c hc=>?_⟩⟩⟩
  ·rw [List.length_map]
  ·rw [List.length_map];exact hle
  ·rw [JU,List.getElem?_map]at hc
   by_cases hi:i<zs.length
   ·obtain ⟨b2,off2,e,hcells⟩:=hsome (by omega)
    injection e with e
    injection e with e1 e2
    subst e1 e2
    rw [List.getElem?_eq_getElem hi]at hc
    show w.cell? ⟨blk,off+i,none⟩=some c
    rw [hcells i hi,←hc]
    unfold A1
    rw [List.getD_eq_getElem?_getD,List.getElem?_eq_getElem hi]
    rfl
   ·rw [List.getElem?_eq_none (by omega)]at hc;cases hc
theorem Mi {a:Int}(h:(Lit.int .i64 a).wf=true):-9223372036854775808≤a∧a≤9223372036854775807:=by
 simp [Lit.wf,IntKind.min,IntKind.max,IntKind.signed,IntKind.bits]at h;omega
end Go.Proofs.YtmfapopclbnlpaaGreatDoor
