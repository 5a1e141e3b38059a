/- The law's walk. -/
import Derived.Test.YtklgahppjdgkmaaDoorVforms
import Derived.Test.YtklgahppjdgkmaaDoorRowB
set_option linter.unusedVariables false
namespace Go.Proofs.YtklgahppjdgkmaaDoor
open Go Go.Proofs Go.RowKit Go.Vc
theorem wfU16f {x : Int} (h : (Lit.int .u16 x).wf = true) : 0 ≤ x ∧ x ≤ 65535 := by
  simp [Lit.wf, IntKind.min, IntKind.max, IntKind.signed, IntKind.bits] at h; omega
theorem vals_lenf (z0 : List Int) (h : z0.length = 8) : (BRow.vals (.ints .u16 z0)).length = 8 := by unfold BRow.vals; rw [List.length_map]; exact h
/-- A []bool that came in: with its place. -/
def IsRowS2 (w : World) (a : Option Addr) (len cap : Nat) (zs : List Bool) : Prop := IsRowB w a len cap zs ∧ ∀ x, a = some x → x.spot = none
theorem repB : ∀ (zs : List Bool) (G : Gh) (w : World), RepL' (zs.map fun b => PV.bool b) G w (zs.map fun b => Value.bool b)
  | [], _, _ => rfl
  | b :: zs, G, w => ⟨_, _, rfl, rfl, repB zs G w⟩
theorem flatB : ∀ zs : List Bool, ((zs.map fun b => Value.bool b).flatMap fun u => u.cells.toList) = zs.map fun b => Value.bool b
  | [] => rfl
  | b :: zs => by
    rw [List.map_cons, List.flatMap_cons, flatB zs]
    rfl
theorem rowB_rep {w : World} {a : Option Addr} {len cap : Nat} {zs : List Bool} (h : IsRowS2 w a len cap zs) : ∃ (nl : Bool) (F : Nat → Nat → Option Value), Fits F w ∧ Rep (.vec nl 1 (zs.map fun b => PV.bool b) 0) (bareG F) w (.slice a len cap) := by
  obtain ⟨⟨rfl, a', cap', hv, hle, hmax, hnone, hsome⟩, hspot⟩ := h
  injection hv with e1 e2 e3
  subst e1 e3
  have hw : wideL 1 (zs.map fun b => Value.bool b) := fun u hu => by
    obtain ⟨b, -, rfl⟩ := List.mem_map.1 hu
    exact ⟨rfl, fun c hc => by
      have : c = .bool b := by simpa [Value.cells] using hc
      rw [this]; rfl⟩
  cases a with
  | none =>
    have hc := hnone rfl
    have hz : zs = [] := List.length_eq_zero_iff.1 (by omega)
    subst hz hc
    exact ⟨true, fun _ _ => none, (fun b o u h => by cases h), _, repB [] _ _, hw, .inl ⟨rfl, rfl, rfl⟩⟩
  | some x =>
    obtain ⟨blk, off, sp⟩ := x
    obtain rfl : sp = none := hspot _ rfl
    refine ⟨false, fun b o => if b = blk ∧ off ≤ o ∧ o < off + zs.length then w.cell? ⟨b, o, none⟩ else none, fun b o u h => ?_, _, repB zs _ _, hw, .inr ⟨rfl, blk, off, cap, ?_, ?_, .inl ⟨rfl, fun i c hc => ?_⟩⟩⟩
    · dsimp only at h
      split at h
      · exact h
      · cases h
    · rw [List.length_map]
    · rw [List.length_map]; exact hle
    · rw [flatB, List.getElem?_map] at hc
      by_cases hi : i < zs.length
      · obtain ⟨b2, off2, e, hcells⟩ := hsome (by omega)
        injection e with e
        injection e with e1 e2
        subst e1 e2
        rw [List.getElem?_eq_getElem hi] at hc
        show (if blk = blk ∧ off ≤ off + i ∧ off + i < off + zs.length then w.cell? ⟨blk, off + i, none⟩ else none) = some c
        rw [if_pos ⟨rfl, by omega, by omega⟩, hcells i hi, ← hc]
        unfold boolAt
        rw [List.getD_eq_getElem?_getD, List.getElem?_eq_getElem hi]
        rfl
      · rw [List.getElem?_eq_none (by omega)] at hc; cases hc
theorem SixForms_walk (z0 : List Int) (a1 a2 : Int) (a3 : Bool) (a4 : Option Addr) (len4 cap4 : Nat) (z4 : List Bool) (w : World) (w0 : z0.length = 8 ∧ ∀ z ∈ z0, (Lit.int .u16 z).wf = true) (w1 : (Lit.int .i64 a1).wf = true) (w2 : (Lit.int .i64 a2).wf = true) (w4 : IsRowS2 w a4 len4 cap4 z4) (htab : Tab9 w) :
    Calls Tryd.prog 5 #[.agg (z0.map fun z => .int .u16 z).toArray, .int .i64 a1, .int .i64 a2, .bool a3, .slice a4 len4 cap4] w fun e w' => e = .returned (.bool true) ∧ Below w.heap.size w w' := by
  obtain ⟨nl, F, hF, hr⟩ := rowB_rep w4
  have hx : RepL' [.arr 8 (.ints .u16 z0), .int .i64 a1, .int .i64 a2, .bool a3, .vec nl 1 (z4.map fun b => PV.bool b) 0] (bareG F) w [.agg (z0.map fun z => .int .u16 z).toArray, .int .i64 a1, .int .i64 a2, .bool a3, .slice a4 len4 cap4] :=
    ⟨_, _, rfl, ⟨vals_lenf z0 w0.1, rfl⟩, _, _, rfl, rfl, _, _, rfl, rfl, _, _, rfl, rfl, _, _, rfl, hr, rfl⟩
  refine (FuncOk.walk (fn := Tryd.f5) Tryd.func5 (by kernel_rfl) rfl (ok_forms z0 a1 a2 a3 nl _ z4) ⟨rfl, w0.1, fun x hx => wfU16f (w0.2 x hx), wf64 w1, wf64 w2⟩ hF (noT_ok _) htab hx).mono fun e w' ⟨u, he, F', hb, _, _, _, hu⟩ => ⟨by rw [he]; exact congrArg _ hu, hb⟩
end Go.Proofs.YtklgahppjdgkmaaDoor
