/- The walk of HostCases. -/
import Derived.Test.YtjljhkjpogjdhaaDoorQ1
import Derived.Test.YtjljhkjpogjdhaaDoorRowB
set_option linter.unusedVariables false
namespace Go.Proofs.YtjljhkjpogjdhaaDoor
open Go Go.Proofs Go.RowKit Go.Vc
/-- A []bool that came in: with its place. -/
def IsRowS2 (w : World) (a : Option Addr) (len cap : Nat) (zs : List Bool) : Prop := IsRowB w a len cap zs ∧ ∀ x, a = some x → x.spot = none
theorem repB : ∀ (zs : List Bool) (G : Gh) (w : World), RepL' (zs.map fun b => PV.bool b) G w (zs.map fun b => Value.bool b)
  | [], _, _ => rfl
  | b :: zs, G, w => ⟨_, _, rfl, rfl, repB zs G w⟩
theorem flatB : ∀ zs : List Bool, ((zs.map fun b => Value.bool b).flatMap fun u => u.cells.toList) = zs.map fun b => Value.bool b
  | [] => rfl
  | b :: zs => by
    rw [List.map_cons, List.flatMap_cons, flatB zs]
    rfl
theorem rowB_rep {w : World} {a : Option Addr} {len cap : Nat} {zs : List Bool} (h : IsRowS2 w a len cap zs) : ∃ (nl : Bool) (F : Nat → Nat → Option Value), Fits F w ∧ Rep (.vec nl 1 (zs.map fun b => PV.bool b) 0) (bareG F) w (.slice a len cap) := by
  obtain ⟨⟨rfl, a', cap', hv, hle, hmax, hnone, hsome⟩, hspot⟩ := h
  injection hv with e1 e2 e3
  subst e1 e3
  have hw : wideL 1 (zs.map fun b => Value.bool b) := fun u hu => by
    obtain ⟨b, -, rfl⟩ := List.mem_map.1 hu
    exact ⟨rfl, fun c hc => by
      have : c = .bool b := by simpa [Value.cells] using hc
      rw [this]; rfl⟩
  cases a with
  | none =>
    have hc := hnone rfl
    have hz : zs = [] := List.length_eq_zero_iff.1 (by omega)
    subst hz hc
    exact ⟨true, fun _ _ => none, (fun b o u h => by cases h), _, repB [] _ _, hw, .inl ⟨rfl, rfl, rfl⟩⟩
  | some x =>
    obtain ⟨blk, off, sp⟩ := x
    obtain rfl : sp = none := hspot _ rfl
    refine ⟨false, fun b o => if b = blk ∧ off ≤ o ∧ o < off + zs.length then w.cell? ⟨b, o, none⟩ else none, fun b o u h => ?_, _, repB zs _ _, hw, .inr ⟨rfl, blk, off, cap, ?_, ?_, .inl ⟨rfl, fun i c hc => ?_⟩⟩⟩
    · dsimp only at h
      split at h
      · exact h
      · cases h
    · rw [List.length_map]
    · rw [List.length_map]; exact hle
    · rw [flatB, List.getElem?_map] at hc
      by_cases hi : i < zs.length
      · obtain ⟨b2, off2, e, hcells⟩ := hsome (by omega)
        injection e with e
        injection e with e1 e2
        subst e1 e2
        rw [List.getElem?_eq_getElem hi] at hc
        show (if blk = blk ∧ off ≤ off + i ∧ off + i < off + zs.length then w.cell? ⟨blk, off + i, none⟩ else none) = some c
        rw [if_pos ⟨rfl, by omega, by omega⟩, hcells i hi, ← hc]
        unfold boolAt
        rw [List.getD_eq_getElem?_getD, List.getElem?_eq_getElem hi]
        rfl
      · rw [List.getElem?_eq_none (by omega)] at hc; cases hc
theorem HostCases_walk (a0 : ByteArray) (a1 : Option Addr) (len1 cap1 : Nat) (z1 : List Bool) (w : World) (w0 : a0.size ≤ maxLen) (w1 : IsRowS2 w a1 len1 cap1 z1) (htab : TabH w) :
    Calls Tryd.prog 6 #[.string a0, .slice a1 len1 cap1] w fun e w' => e = .returned (.bool true) ∧ Below w.heap.size w w' := by
  obtain ⟨nl, F, hF, hr⟩ := rowB_rep w1
  have hx : RepL' [.str a0.data.toList, .vec nl 1 (z1.map fun b => PV.bool b) 0] (bareG F) w [.string a0, .slice a1 len1 cap1] :=
    ⟨_, _, rfl, rfl, _, _, rfl, hr, rfl⟩
  refine (FuncOk.walk (fn := Tryd.f6) Tryd.func6 (by kernel_rfl) rfl (ok_cases a0.data.toList nl _ z1) rfl hF (noT_ok _) htab hx).mono fun e w' ⟨u, he, F', hb, _, _, _, hu⟩ => ⟨by rw [he]; exact congrArg _ hu, hb⟩
end Go.Proofs.YtjljhkjpogjdhaaDoor
