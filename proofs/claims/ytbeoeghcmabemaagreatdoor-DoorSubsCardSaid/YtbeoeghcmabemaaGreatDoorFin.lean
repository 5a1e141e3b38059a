/- Law gossamerlaw26: what the evaluator needs of this program. -/
import Derived.Test.YtbeoeghcmabemaaGreatDoorEvZD
import Derived.Test.YtbeoeghcmabemaaGreatDoorEvLow

import Derived.Test.YtbeoeghcmabemaaGreatDoorProg
import Derived.ProofKit
set_option linter.unusedVariables false
set_option linter.unusedSectionVars false
set_option maxRecDepth 100000
namespace Go.Proofs.YtbeoeghcmabemaaGreatDoor
open Go Go.Proofs Go.RowKit Go.Ev
theorem names_of {P : Program} (h : P.funcs.toList.all (fun fn => fn.name != "runtime.NumGoroutine") = true) : ∀ (f : Nat) fn, P.funcs[f]? = some fn → fn.name ≠ "runtime.NumGoroutine" := fun f fn hf => by
  have := List.all_eq_true.1 h fn (by
    rw [← Array.getElem?_toList] at hf
    exact List.mem_of_getElem? hf)
  simpa using this
theorem enters_at {P : Program} {f : Nat} {fn : Func} {c : Code} (hf : P.funcs[f]? = some fn) (hb : fn.body = some c) (hn : (fn.name == "runtime.NumGoroutine") = false) (args : Array Value) (w : World) : (callFunc f args).run P w = .ok (.enter f args) w := by
  unfold callFunc
  simp only [Sem.run_bind, run_program, Result.andThen_ok, hf]
  rw [hn]
  simp [hb]
/-- Nothing is asked of tables. -/
def Tab (_w : World) : Prop := True
def X0 : Nat → Nat := fun f => cond (Nat.beq f 112) 1 (cond (Nat.beq f 128) 2 (cond (Nat.beq f 4) 3 (cond (Nat.beq f 162) 4 (cond (Nat.beq f 193) 9 (0)))))
def X1 : Nat → Nat := fun f => cond (Nat.beq f 112) 1 (cond (Nat.beq f 128) 2 (cond (Nat.beq f 4) 3 (cond (Nat.beq f 162) 4 (cond (Nat.beq f 193) 9 (cond (Nat.beq f 8) 7 (0))))))
theorem runs0 [Sg] [Sl] (hl : LowAt Tryz.prog 4) : Runs Tryz.prog X0 := by
  refine ⟨by kernel_rfl, names_of (by kernel_rfl), extOK fun f c h => ?_⟩
  have h2 : (X0 f : Nat) = c + 1 := h
  unfold X0 at h2
  cases hb112 : Nat.beq f 112 with
  | true =>
    rw [hb112] at h2
    have h3 : 1 = c + 1 := h2
    obtain rfl := Nat.eq_of_beq_eq_true hb112
    exact .inl ⟨by omega, ⟨Tryz.f112, Tryz.func112, by kernel_rfl, by kernel_rfl, by kernel_rfl, by kernel_rfl⟩⟩
  | false =>
  rw [hb112] at h2
  replace h2 : _ = c + 1 := h2
  cases hb128 : Nat.beq f 128 with
  | true =>
    rw [hb128] at h2
    have h3 : 2 = c + 1 := h2
    obtain rfl := Nat.eq_of_beq_eq_true hb128
    exact .inr (.inl ⟨by omega, ⟨Tryz.f128, Tryz.func128, by kernel_rfl, by kernel_rfl, by kernel_rfl, by kernel_rfl⟩⟩)
  | false =>
  rw [hb128] at h2
  replace h2 : _ = c + 1 := h2
  cases hb4 : Nat.beq f 4 with
  | true =>
    rw [hb4] at h2
    have h3 : 3 = c + 1 := h2
    obtain rfl := Nat.eq_of_beq_eq_true hb4
    exact .inr (.inr (.inl ⟨by omega, hl⟩))
  | false =>
  rw [hb4] at h2
  replace h2 : _ = c + 1 := h2
  cases hb162 : Nat.beq f 162 with
  | true =>
    rw [hb162] at h2
    have h3 : 4 = c + 1 := h2
    obtain rfl := Nat.eq_of_beq_eq_true hb162
    exact .inr (.inr (.inr (.inl ⟨by omega, ⟨Tryz.f162, Tryz.func162, by kernel_rfl, by kernel_rfl, by kernel_rfl, by kernel_rfl⟩⟩)))
  | false =>
  rw [hb162] at h2
  replace h2 : _ = c + 1 := h2
  cases hb193 : Nat.beq f 193 with
  | true =>
    rw [hb193] at h2
    have h3 : 9 = c + 1 := h2
    obtain rfl := Nat.eq_of_beq_eq_true hb193
    exact .inr (.inr (.inr (.inr (.inr (.inr (.inr (.inr (⟨by omega, ⟨Tryz.f193.params, (Tryz.f193.resultTypes[0]?).getD 0, (mnzE Tryz.prog 193).getD 0, ⟨Tryz.f193, Tryz.func193, by kernel_rfl, by kernel_rfl, by kernel_rfl, by kernel_rfl⟩, by kernel_rfl, by kernel_rfl⟩⟩))))))))
  | false =>
  rw [hb193] at h2
  replace h2 : _ = c + 1 := h2
  cases h2

theorem runs1 [Sg] [Sl] (hl : LowAt Tryz.prog 4) (ha : AwakeAt Tryz.prog 8) : Runs Tryz.prog X1 := by
  refine ⟨by kernel_rfl, names_of (by kernel_rfl), extOK fun f c h => ?_⟩
  have h2 : (X1 f : Nat) = c + 1 := h
  unfold X1 at h2
  cases hb112 : Nat.beq f 112 with
  | true =>
    rw [hb112] at h2
    have h3 : 1 = c + 1 := h2
    obtain rfl := Nat.eq_of_beq_eq_true hb112
    exact .inl ⟨by omega, ⟨Tryz.f112, Tryz.func112, by kernel_rfl, by kernel_rfl, by kernel_rfl, by kernel_rfl⟩⟩
  | false =>
  rw [hb112] at h2
  replace h2 : _ = c + 1 := h2
  cases hb128 : Nat.beq f 128 with
  | true =>
    rw [hb128] at h2
    have h3 : 2 = c + 1 := h2
    obtain rfl := Nat.eq_of_beq_eq_true hb128
    exact .inr (.inl ⟨by omega, ⟨Tryz.f128, Tryz.func128, by kernel_rfl, by kernel_rfl, by kernel_rfl, by kernel_rfl⟩⟩)
  | false =>
  rw [hb128] at h2
  replace h2 : _ = c + 1 := h2
  cases hb4 : Nat.beq f 4 with
  | true =>
    rw [hb4] at h2
    have h3 : 3 = c + 1 := h2
    obtain rfl := Nat.eq_of_beq_eq_true hb4
    exact .inr (.inr (.inl ⟨by omega, hl⟩))
  | false =>
  rw [hb4] at h2
  replace h2 : _ = c + 1 := h2
  cases hb162 : Nat.beq f 162 with
  | true =>
    rw [hb162] at h2
    have h3 : 4 = c + 1 := h2
    obtain rfl := Nat.eq_of_beq_eq_true hb162
    exact .inr (.inr (.inr (.inl ⟨by omega, ⟨Tryz.f162, Tryz.func162, by kernel_rfl, by kernel_rfl, by kernel_rfl, by kernel_rfl⟩⟩)))
  | false =>
  rw [hb162] at h2
  replace h2 : _ = c + 1 := h2
  cases hb193 : Nat.beq f 193 with
  | true =>
    rw [hb193] at h2
    have h3 : 9 = c + 1 := h2
    obtain rfl := Nat.eq_of_beq_eq_true hb193
    exact .inr (.inr (.inr (.inr (.inr (.inr (.inr (.inr (⟨by omega, ⟨Tryz.f193.params, (Tryz.f193.resultTypes[0]?).getD 0, (mnzE Tryz.prog 193).getD 0, ⟨Tryz.f193, Tryz.func193, by kernel_rfl, by kernel_rfl, by kernel_rfl, by kernel_rfl⟩, by kernel_rfl, by kernel_rfl⟩⟩))))))))
  | false =>
  rw [hb193] at h2
  replace h2 : _ = c + 1 := h2
  cases hb8 : Nat.beq f 8 with
  | true =>
    rw [hb8] at h2
    have h3 : 7 = c + 1 := h2
    obtain rfl := Nat.eq_of_beq_eq_true hb8
    exact .inr (.inr (.inr (.inr (.inr (.inr (.inl ⟨by omega, ha⟩))))))
  | false =>
  rw [hb8] at h2
  replace h2 : _ = c + 1 := h2
  cases h2

theorem awake_eval (i : Sl) : @callK i Tryz.prog X0 100000 60 8 [] (.mk .leaf 6 6) (fin 6) = .yes := by kernel_rfl
theorem awake_at (sg : Sg) (sl : Sl) (ht : sl.tabs = []) (hl : @LowAt sg sl Tryz.prog 4) : @AwakeAt sg sl Tryz.prog 8 :=
  awakeAt_of (n := 6) (runs0 hl) Tryz.func8 rfl (by decide +kernel) (fun e he => by rw [ht] at he; cases he) (fun tys => by rw [ht]; exact awake_eval sl)
/-- What is asked of a number, listed. -/
def lowL : List (Nat × Nat × Nat) → Nat → Nat → Option Nat
  | [], _, _ => none
  | e :: l, i, m => cond (Nat.beq i e.1 && Nat.beq m e.2.1) (some e.2.2) (lowL l i m)
theorem lowL_mem : ∀ {l : List (Nat × Nat × Nat)} {i m j : Nat}, lowL l i m = some j → (i, m, j) ∈ l
  | [], i, m, j, h => by cases h
  | e :: l, i, m, j, h => by
    unfold lowL at h
    cases hb : (Nat.beq i e.1 && Nat.beq m e.2.1) with
    | true =>
      rw [hb] at h
      replace h : some e.2.2 = some j := h
      injection h with h
      rw [Bool.and_eq_true] at hb
      rw [Nat.eq_of_beq_eq_true hb.1, Nat.eq_of_beq_eq_true hb.2, ← h]
      exact List.mem_cons_self ..
    | false =>
      rw [hb] at h
      exact List.mem_cons_of_mem _ (lowL_mem h)
abbrev sgI (xs : List Int) : Sg := ⟨fun i => .int .i64 (xs.getD i 0)⟩
abbrev slI (l : List (Nat × Nat × Nat)) : Sl := ⟨lowL l, []⟩
theorem low_at {xs : List Int} {l : List (Nat × Nat × Nat)} (h : ∀ e ∈ l, (-9223372036854775808 ≤ xs.getD e.1 0 ∧ xs.getD e.1 0 ≤ 9223372036854775807) ∧ (1 ≤ e.2.1 ∧ e.2.1 ≤ 4611686018427387904) ∧ lowN (xs.getD e.1 0) e.2.1 = e.2.2) : @LowAt (sgI xs) (slI l) Tryz.prog 4 := by
  intro i m j hm w
  obtain ⟨h1, h2, h3⟩ := h _ (lowL_mem hm)
  dsimp only at h1 h2 h3
  refine ⟨enters_at Tryz.func4 rfl (by kernel_rfl) _ _, (low_any (xs.getD i 0) m w h1.1 h1.2 (by omega) (by omega)).mono fun e w' he => ?_⟩
  obtain ⟨rfl, rfl⟩ := he
  exact ⟨by rw [h3], Below.refl _ _⟩
/-- One case. -/
theorem one (xs : List Int) (l : List (Nat × Nat × Nat)) (h : ∀ e ∈ l, (-9223372036854775808 ≤ xs.getD e.1 0 ∧ xs.getD e.1 0 ≤ 9223372036854775807) ∧ (1 ≤ e.2.1 ∧ e.2.1 ≤ 4611686018427387904) ∧ lowN (xs.getD e.1 0) e.2.1 = e.2.2)
    {f : Nat} {fn : Func} {c : Code} (hf : Tryz.prog.funcs[f]? = some fn) (hb : fn.body = some c) {as_ : List AV} {vs : List Value} (hx : @conL (sgI xs) (globB 6) as_ = some vs) (H : @callK (slI l) Tryz.prog X1 100000 60 f as_ (.mk .leaf 6 6) (fin 6) = .yes) (w : World) :
    Calls Tryz.prog f vs.toArray w fun e w' => e = .returned (.bool true) ∧ Below w.heap.size w w' :=
  letI i1 := sgI xs
  letI i2 := slI l
  (runs1 (low_at h) (awake_at _ _ rfl (low_at h))).plain (n := 6) hf hb (by decide +kernel) hx H w
end Go.Proofs.YtbeoeghcmabemaaGreatDoor
