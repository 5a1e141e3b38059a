/-
  The law 'gossamerlaw7.ShowApart' returns true for every input, and each argument reads behind the call as it read before. No conditions.
-/
import Derived.Test.YtaklcjnfjchebaaRows
import Derived.WalkKit
import Derived.ProofKit
import Derived.OpenShut
import Derived.ShutString
import Derived.ChangeOld
import Derived.Below
import Derived.SliceStrings
import Derived.SizedLaws
import Derived.Test.YtaklcjnfjchebaaSp16
namespace Go.Proofs.Ytaklcjnfjchebaa.showApart
open Go.Vc Go.Proofs.Jv Go.ChangeShapes Go.WideShapes Go.ChangeAt Go.RowKit
open Go.ChangeMaps (open_string shut_string)
set_option linter.unusedVariables false
theorem own : ownKnob Try.prog.godebug = none := by kernel_rfl
theorem laidOut : laidOutB Try.prog = true := by kernel_rfl
theorem walk (c0 : Array Value) (y0 : JV) (c1 : Array Value) (y1 : JV) (w : World) (w0 : (∃ n, okJ n y0) ∧ Rep y0.pv (bareG (allF w)) w (.agg c0)) (w1 : (∃ n, okJ n y1) ∧ Rep y1.pv (bareG (allF w)) w (.agg c1)) :
    Calls Try.prog 6 #[.agg c0, .agg c1] w fun e w' => e = .returned (.bool true) ∧ Below w.heap.size w w' := by
  exact ShowApart_walk c0 y0 c1 y1 w w0 w1 trivial
set_option maxRecDepth 100000 in
theorem lifted (os : Os) (started : os.Started) (H : Type) (enc : TypeId × Value → H) :
    ReturnsInHanded {} Try.checked os 6 .any (Rows.showApartSpec.pre6 enc Try.prog Try.f6 Rows.showApartRow.domain false) (Rows.showApartSpec.post enc Try.prog Try.f6 false true false false) := by
  refine returnsInHanded_of_change_sized (C := Try.checked) own started (by kernel_rfl) Try.func6
    (ChangeSpec.witness6 (enc := enc) (C := Try.checked) false ⟨#[], #[.agg #[.int .i64 0, .bool false, .string .empty, .slice none 0 0, .slice none 0 0], .agg #[.int .i64 0, .bool false, .string .empty, .slice none 0 0, .slice none 0 0]], []⟩ 8 (by kernel_rfl) (by kernel_rfl) (by kernel_rfl) (by kernel_rfl)) ?_
  intro W base args ds gs before hval0 hW hcnd hsz _
  have hval : ∀ (j : Nat) t v, Try.f6.params[j]? = some t → args[j]? = some v → Value.okWide Try.prog W .any base t v := hval0
  have hW' := hW
  obtain ⟨p, q, hA0, hV, rfl, hfz, hnd⟩ := hW
  have hA : DataW.TrodAll enc Try.prog W 0 (fun _ => true) true Try.f6.params.toList args.toList ds p := hA0
  rw [Try.params6] at hA hval
  obtain ⟨v0, vs0, d0, ds0, p0, q0, hargs, rfl, rfl, h0, r0⟩ := trodAll_cons hA
  obtain ⟨v1, vs1, d1, ds1, p1, q1, rfl, rfl, rfl, h1, r1⟩ := trodAll_cons r0
  obtain ⟨rfl, rfl, rfl⟩ := trodAll_nil r1
  obtain rfl : args = #[v0, v1] := by cases args; simp_all
  obtain ⟨rfl, rfl⟩ := trodVars_none hV
  have hwt : ∀ q ∈ DataW.weightsEach Try.prog [25, 25] [d0, d1], q ≤ reachBytes := fun q hq => by
    rw [Try.params6] at hsz
    have hsz2 := List.all_eq_true.1 hsz q (by first | exact hq | (rw [List.append_nil]; exact hq))
    exact of_decide_eq_true hsz2
  obtain ⟨c0, rfl⟩ := okWide_struct Try.underlying25 (hval 0 25 v0 rfl rfl)
  have k0 := h0
  have lt0 : ∀ x ∈ p0, x.block < W.heap.size := by obtain ⟨m, hm⟩ := k0; exact DataW.trod_lt m _ _ _ hm
  obtain ⟨y0, w0⟩ : ∃ y : JV, (∃ n, okJ n y) ∧ Rep y.pv (bareG (allF W)) W (.agg c0) := by
    obtain ⟨fuel, hf⟩ := h0
    obtain ⟨y, h1, h2, -, -⟩ := jv_open fuel _ _ hf (fun q hq => hwt q (by simp [DataW.weightsEach, hq]))
    exact ⟨y, ⟨_, h1⟩, h2⟩
  obtain ⟨c1, rfl⟩ := okWide_struct Try.underlying25 (hval 1 25 v1 rfl rfl)
  have k1 := h1
  have lt1 : ∀ x ∈ p1, x.block < W.heap.size := by obtain ⟨m, hm⟩ := k1; exact DataW.trod_lt m _ _ _ hm
  obtain ⟨y1, w1⟩ : ∃ y : JV, (∃ n, okJ n y) ∧ Rep y.pv (bareG (allF W)) W (.agg c1) := by
    obtain ⟨fuel, hf⟩ := h1
    obtain ⟨y, h1, h2, -, -⟩ := jv_open fuel _ _ hf (fun q hq => hwt q (by simp [DataW.weightsEach, hq]))
    exact ⟨y, ⟨_, h1⟩, h2⟩
  clear hA0 hval0
  refine (walk c0 y0 c1 y1 W w0 w1).mono fun e W' ⟨he, bel⟩ => ?_
  subst he
  exact ⟨_, rfl, _, _, _, [], _, [], hW', trodAll_mk1 (shut_bool Try.underlying4 _), (trodAll_cons_mk (Below.trod laidOut (by kernel_rfl) (of_decide_eq_true (by kernel_rfl)) k0 bel lt0) (trodAll_cons_mk (Below.trod laidOut (by kernel_rfl) (of_decide_eq_true (by kernel_rfl)) k1 bel lt1) trodAll_mk0)), rfl, bel.frame _, fun h => by cases h⟩
theorem over : Rows.showApartRow.holds Try.pinned (OpenSpec.ofChange Rows.showApartSpec) :=
  OpenClaim.holds_of_wide 6 Try.f6 rfl rfl rfl rfl rfl rfl rfl ⟨rfl, rfl, rfl, rfl, rfl⟩ rfl rfl rfl rfl rfl (by kernel_rfl) Try.func6 (by kernel_rfl)
    (of_decide_eq_true (by kernel_rfl)) (by unfold Func.isWrapper; first | (rw [if_pos (by decide +kernel)]; kernel_rfl) | (rw [if_neg (by decide +kernel)]; exact ⟨rfl, rfl⟩))
    (fun os started H enc _ => lifted os started H enc)
theorem proved : Rows.ShowApartSaid := over
end Go.Proofs.Ytaklcjnfjchebaa.showApart
