/- Law gossamerlaw27: what the evaluator needs of this program. -/
import Derived.Test.YtapigaemojnaaaaGreatDoorEvZD

import Derived.Test.YtapigaemojnaaaaGreatDoorTre
import Derived.Test.YtapigaemojnaaaaGreatDoorProg
import Derived.ProofKit
set_option linter.unusedVariables false
set_option linter.unusedSectionVars false
set_option maxRecDepth 100000
namespace Go.Proofs.YtapigaemojnaaaaGreatDoor
open Go Go.Proofs Go.RowKit Go.Ev
theorem names_of {P : Program} (h : P.funcs.toList.all (fun fn => fn.name != "runtime.NumGoroutine") = true) : ∀ (f : Nat) fn, P.funcs[f]? = some fn → fn.name ≠ "runtime.NumGoroutine" := fun f fn hf => by
  have := List.all_eq_true.1 h fn (by
    rw [← Array.getElem?_toList] at hf
    exact List.mem_of_getElem? hf)
  simpa using this
theorem enters_at {P : Program} {f : Nat} {fn : Func} {c : Code} (hf : P.funcs[f]? = some fn) (hb : fn.body = some c) (hn : (fn.name == "runtime.NumGoroutine") = false) (args : Array Value) (w : World) : (callFunc f args).run P w = .ok (.enter f args) w := by
  unfold callFunc
  simp only [Sem.run_bind, run_program, Result.andThen_ok, hf]
  rw [hn]
  simp [hb]
/-- Nothing is asked of tables. -/
def Tab (_w : World) : Prop := True
def X0 : Nat → Nat := fun f => cond (Nat.beq f 70) 1 (cond (Nat.beq f 235) 2 (cond (Nat.beq f 174) 4 (cond (Nat.beq f 215) 6 (cond (Nat.beq f 363) 9 (cond (Nat.beq f 19) 8 (0))))))
def X1 : Nat → Nat := fun f => cond (Nat.beq f 70) 1 (cond (Nat.beq f 235) 2 (cond (Nat.beq f 174) 4 (cond (Nat.beq f 215) 6 (cond (Nat.beq f 363) 9 (cond (Nat.beq f 19) 8 (cond (Nat.beq f 4) 7 (0)))))))
theorem runs0 [Sg] [Sl] : Runs Tryz.prog X0 := by
  refine ⟨by kernel_rfl, names_of (by kernel_rfl), extOK fun f c h => ?_⟩
  have h2 : (X0 f : Nat) = c + 1 := h
  unfold X0 at h2
  cases hb70 : Nat.beq f 70 with
  | true =>
    rw [hb70] at h2
    have h3 : 1 = c + 1 := h2
    obtain rfl := Nat.eq_of_beq_eq_true hb70
    exact .inl ⟨by omega, ⟨Tryz.f70, Tryz.func70, by kernel_rfl, by kernel_rfl, by kernel_rfl, by kernel_rfl⟩⟩
  | false =>
  rw [hb70] at h2
  replace h2 : _ = c + 1 := h2
  cases hb235 : Nat.beq f 235 with
  | true =>
    rw [hb235] at h2
    have h3 : 2 = c + 1 := h2
    obtain rfl := Nat.eq_of_beq_eq_true hb235
    exact .inr (.inl ⟨by omega, ⟨Tryz.f235, Tryz.func235, by kernel_rfl, by kernel_rfl, by kernel_rfl, by kernel_rfl⟩⟩)
  | false =>
  rw [hb235] at h2
  replace h2 : _ = c + 1 := h2
  cases hb174 : Nat.beq f 174 with
  | true =>
    rw [hb174] at h2
    have h3 : 4 = c + 1 := h2
    obtain rfl := Nat.eq_of_beq_eq_true hb174
    exact .inr (.inr (.inr (.inl ⟨by omega, ⟨Tryz.f174, Tryz.func174, by kernel_rfl, by kernel_rfl, by kernel_rfl, by kernel_rfl⟩⟩)))
  | false =>
  rw [hb174] at h2
  replace h2 : _ = c + 1 := h2
  cases hb215 : Nat.beq f 215 with
  | true =>
    rw [hb215] at h2
    have h3 : 6 = c + 1 := h2
    obtain rfl := Nat.eq_of_beq_eq_true hb215
    exact .inr (.inr (.inr (.inr (.inr (.inl ⟨by omega, ⟨Tryz.f215, Tryz.func215, by kernel_rfl, by kernel_rfl, by kernel_rfl, by kernel_rfl⟩⟩)))))
  | false =>
  rw [hb215] at h2
  replace h2 : _ = c + 1 := h2
  cases hb363 : Nat.beq f 363 with
  | true =>
    rw [hb363] at h2
    have h3 : 9 = c + 1 := h2
    obtain rfl := Nat.eq_of_beq_eq_true hb363
    exact .inr (.inr (.inr (.inr (.inr (.inr (.inr (.inr (⟨by omega, ⟨Tryz.f363.params, (Tryz.f363.resultTypes[0]?).getD 0, (mnzE Tryz.prog 363).getD 0, ⟨Tryz.f363, Tryz.func363, by kernel_rfl, by kernel_rfl, by kernel_rfl, by kernel_rfl⟩, by kernel_rfl, by kernel_rfl⟩⟩))))))))
  | false =>
  rw [hb363] at h2
  replace h2 : _ = c + 1 := h2
  cases hb19 : Nat.beq f 19 with
  | true =>
    rw [hb19] at h2
    have h3 : 8 = c + 1 := h2
    obtain rfl := Nat.eq_of_beq_eq_true hb19
    exact .inr (.inr (.inr (.inr (.inr (.inr (.inr (.inl ⟨by omega, ⟨tree_at, by kernel_rfl⟩⟩)))))))
  | false =>
  rw [hb19] at h2
  replace h2 : _ = c + 1 := h2
  cases h2

theorem runs1 [Sg] [Sl] (ha : AwakeAt Tryz.prog 4) : Runs Tryz.prog X1 := by
  refine ⟨by kernel_rfl, names_of (by kernel_rfl), extOK fun f c h => ?_⟩
  have h2 : (X1 f : Nat) = c + 1 := h
  unfold X1 at h2
  cases hb70 : Nat.beq f 70 with
  | true =>
    rw [hb70] at h2
    have h3 : 1 = c + 1 := h2
    obtain rfl := Nat.eq_of_beq_eq_true hb70
    exact .inl ⟨by omega, ⟨Tryz.f70, Tryz.func70, by kernel_rfl, by kernel_rfl, by kernel_rfl, by kernel_rfl⟩⟩
  | false =>
  rw [hb70] at h2
  replace h2 : _ = c + 1 := h2
  cases hb235 : Nat.beq f 235 with
  | true =>
    rw [hb235] at h2
    have h3 : 2 = c + 1 := h2
    obtain rfl := Nat.eq_of_beq_eq_true hb235
    exact .inr (.inl ⟨by omega, ⟨Tryz.f235, Tryz.func235, by kernel_rfl, by kernel_rfl, by kernel_rfl, by kernel_rfl⟩⟩)
  | false =>
  rw [hb235] at h2
  replace h2 : _ = c + 1 := h2
  cases hb174 : Nat.beq f 174 with
  | true =>
    rw [hb174] at h2
    have h3 : 4 = c + 1 := h2
    obtain rfl := Nat.eq_of_beq_eq_true hb174
    exact .inr (.inr (.inr (.inl ⟨by omega, ⟨Tryz.f174, Tryz.func174, by kernel_rfl, by kernel_rfl, by kernel_rfl, by kernel_rfl⟩⟩)))
  | false =>
  rw [hb174] at h2
  replace h2 : _ = c + 1 := h2
  cases hb215 : Nat.beq f 215 with
  | true =>
    rw [hb215] at h2
    have h3 : 6 = c + 1 := h2
    obtain rfl := Nat.eq_of_beq_eq_true hb215
    exact .inr (.inr (.inr (.inr (.inr (.inl ⟨by omega, ⟨Tryz.f215, Tryz.func215, by kernel_rfl, by kernel_rfl, by kernel_rfl, by kernel_rfl⟩⟩)))))
  | false =>
  rw [hb215] at h2
  replace h2 : _ = c + 1 := h2
  cases hb363 : Nat.beq f 363 with
  | true =>
    rw [hb363] at h2
    have h3 : 9 = c + 1 := h2
    obtain rfl := Nat.eq_of_beq_eq_true hb363
    exact .inr (.inr (.inr (.inr (.inr (.inr (.inr (.inr (⟨by omega, ⟨Tryz.f363.params, (Tryz.f363.resultTypes[0]?).getD 0, (mnzE Tryz.prog 363).getD 0, ⟨Tryz.f363, Tryz.func363, by kernel_rfl, by kernel_rfl, by kernel_rfl, by kernel_rfl⟩, by kernel_rfl, by kernel_rfl⟩⟩))))))))
  | false =>
  rw [hb363] at h2
  replace h2 : _ = c + 1 := h2
  cases hb19 : Nat.beq f 19 with
  | true =>
    rw [hb19] at h2
    have h3 : 8 = c + 1 := h2
    obtain rfl := Nat.eq_of_beq_eq_true hb19
    exact .inr (.inr (.inr (.inr (.inr (.inr (.inr (.inl ⟨by omega, ⟨tree_at, by kernel_rfl⟩⟩)))))))
  | false =>
  rw [hb19] at h2
  replace h2 : _ = c + 1 := h2
  cases hb4 : Nat.beq f 4 with
  | true =>
    rw [hb4] at h2
    have h3 : 7 = c + 1 := h2
    obtain rfl := Nat.eq_of_beq_eq_true hb4
    exact .inr (.inr (.inr (.inr (.inr (.inr (.inl ⟨by omega, ha⟩))))))
  | false =>
  rw [hb4] at h2
  replace h2 : _ = c + 1 := h2
  cases h2

theorem awake_eval (i : Sl) : @callK i Tryz.prog X0 100000 60 4 [] (.mk .leaf 6 6) (fin 6) = .yes := by kernel_rfl
theorem awake_at (sg : Sg) (sl : Sl) (ht : sl.tabs = []) : @AwakeAt sg sl Tryz.prog 4 :=
  awakeAt_of (n := 6) (runs0) Tryz.func4 rfl (by decide +kernel) (fun e he => by rw [ht] at he; cases he) (fun tys => by rw [ht]; exact awake_eval sl)
instance sg0 : Sg := ⟨fun _ => .int .i64 0⟩
instance sl0 : Sl := ⟨fun _ _ => none, []⟩
theorem one {f : Nat} {fn : Func} {c : Code} (hf : Tryz.prog.funcs[f]? = some fn) (hb : fn.body = some c) {as_ : List AV} {vs : List Value} (hx : conL (globB 6) as_ = some vs) (H : callK Tryz.prog X1 100000 60 f as_ (.mk .leaf 6 6) (fin 6) = .yes) (w : World) :
    Calls Tryz.prog f vs.toArray w fun e w' => e = .returned (.bool true) ∧ Below w.heap.size w w' :=
  (runs1 (awake_at _ _ rfl)).plain (n := 6) hf hb (by decide +kernel) hx H w
end Go.Proofs.YtapigaemojnaaaaGreatDoor
