/- The function gossamer/gossamerref4.Digit does what is told of it. -/
import Derived.Test.YtklgahppjdgkmaaDoorR4
import Derived.Test.YtklgahppjdgkmaaDoorProg
import Derived.ProofKit
import Derived.Test.YtklgahppjdgkmaaDoorVsix1
set_option linter.unusedVariables false
set_option linter.unusedSimpArgs false
set_option maxRecDepth 100000
set_option maxHeartbeats 4000000
namespace Go.Proofs.YtklgahppjdgkmaaDoor
open Go Go.Proofs Go.RowKit Go.Vc

def X_rdig : Tbl := tblX []
def H_rdig (z : Int) : Loops := fun i => none
theorem X_rdig_ok : XOk Tryd.prog noT X_rdig := tblX_nil
theorem vc_rdig (z : Int) (k : PV → Prop) : evF Tryd.prog X_rdig noT (H_rdig z) 1000 Tryd.f38 [.int .u8 z] k = (
  ((bif decide ((48 : Int) ≤ z) then decide (z ≤ (57 : Int)) else false) = true →
 k (PV.int Go.IntKind.i64 (Go.IntKind.i64.wrap (Go.IntKind.u8.wrap (z - (48 : Int)))))) ∧
 ((bif decide ((48 : Int) ≤ z) then decide (z ≤ (57 : Int)) else false) = false →
 ((bif decide ((97 : Int) ≤ z) then decide (z ≤ (102 : Int)) else false) = true →
 inI64 (Go.IntKind.i64.wrap (Go.IntKind.u8.wrap (z - (97 : Int))) + (10 : Int)) ∧
 k (PV.int Go.IntKind.i64 (Go.IntKind.i64.wrap (Go.IntKind.u8.wrap (z - (97 : Int))) + (10 : Int)))) ∧
 ((bif decide ((97 : Int) ≤ z) then decide (z ≤ (102 : Int)) else false) = false →
 ((bif decide ((65 : Int) ≤ z) then decide (z ≤ (70 : Int)) else false) = true →
 inI64 (Go.IntKind.i64.wrap (Go.IntKind.u8.wrap (z - (65 : Int))) + (10 : Int)) ∧
 k (PV.int Go.IntKind.i64 (Go.IntKind.i64.wrap (Go.IntKind.u8.wrap (z - (65 : Int))) + (10 : Int)))) ∧
 ((bif decide ((65 : Int) ≤ z) then decide (z ≤ (70 : Int)) else false) = false → k (PV.int Go.IntKind.i64 (-1 : Int)))))) := by kernel_rfl
attribute [local irreducible] Go.Vc.evF
theorem ok_rdig (z : Int) : FuncOk Tryd.prog noT 38 [.int .u8 z] ⟨0 ≤ z ∧ z ≤ 255, .int .i64 (hexN z)⟩ := evF_ok (by kernel_rfl) X_rdig_ok (H := H_rdig z) (fuel := 1000) Tryd.func38 (by kernel_rfl) fun hpre => (vc_rdig z _).mpr (by
  have w8 : ∀ x : Int, 0 ≤ x ∧ x ≤ 255 → IntKind.u8.wrap x = x := fun x h => IntWalk.u8_in x h
  have w64 : ∀ x : Int, -9223372036854775808 ≤ x ∧ x ≤ 9223372036854775807 → IntKind.i64.wrap x = x := fun x h => IntWalk.i64_in x h
  have leaf : ∀ a b : Int, a = b → PV.int .i64 a = PV.int .i64 b := fun a b h => by rw [h]
  simp only [andB6, falB6, Bool.and_eq_true, decide_eq_true_eq]
  refine ⟨fun h => leaf _ _ ?_, fun h => ⟨fun h2 => ?_, fun h2 => ⟨fun h3 => ?_, fun h3 => leaf _ _ ?_⟩⟩⟩
  · rw [w8 _ (by omega), w64 _ (by omega)]; unfold hexN; rw [if_pos h]
  · rw [w8 _ (by omega), w64 _ (by omega)]
    refine ⟨⟨by omega, by omega⟩, leaf _ _ ?_⟩
    unfold hexN; rw [if_neg h, if_pos h2]; omega
  · rw [w8 _ (by omega), w64 _ (by omega)]
    refine ⟨⟨by omega, by omega⟩, leaf _ _ ?_⟩
    unfold hexN; rw [if_neg h, if_neg h2, if_pos h3]; omega
  · unfold hexN; rw [if_neg h, if_neg h2, if_neg h3])
def ent_rdig : List PV → Option CallR := fun xs => match xs with
  | [.int .u8 z] => some ⟨0 ≤ z ∧ z ≤ 255, .int .i64 (hexN z)⟩
  | _ => none
theorem ent_rdig_ok : ∀ xs c, ent_rdig xs = some c → FuncOk Tryd.prog noT 38 xs c := fun xs c h => by
  unfold ent_rdig at h
  split at h
  · injection h with h; subst h; exact ok_rdig _
  · cases h
end Go.Proofs.YtklgahppjdgkmaaDoor
