/- The evaluator: what its 'yes' says of a call. -/
import Derived.Test.YtniednnklbdciaaDoorEvZB
import Derived.Below
set_option linter.unusedVariables false
set_option linter.unusedSectionVars false
set_option linter.unusedSimpArgs false
namespace Go.Ev
variable [Sg] [Sl]
open Go.RowKit
variable {P : Program}

/-- True, and no block that was there is written. -/
noncomputable def fin (n : Nat) (v : AV) (h : Hp) : Ans := match v, h with
  | .bool true, .mk _ _ low => cnd (Nat.beq low n) .yes (.no 996)
  | .bool false, _ => .no 998
  | _, _ => .no 999
theorem fin_yes {n : Nat} {v : AV} {h : Hp} (H : fin n v h = .yes) : v = .bool true ∧ h.lo = n := by
  unfold fin at H
  split at H
  · obtain ⟨h1, -⟩ := cnd_yes H
    exact ⟨rfl, Nat.eq_of_beq_eq_true h1⟩
  · cases H
  · cases H
/-- A program that the evaluator may run. -/
structure Runs (P : Program) (X : Nat → Nat) : Prop where
  mixed : P.follows .mixedOrders = true
  names : ∀ (f : Nat) fn, P.funcs[f]? = some fn → fn.name ≠ "runtime.NumGoroutine"
  ext : ExtOK P X
theorem Runs.sound {X : Nat → Nat} (r : Runs P X) (fuel d : Nat) : CallSound P (callK P X fuel d) :=
  callK_sound r.ext r.names (fun c hc N keep => regOK r.mixed c hc N keep) fuel d
theorem Ext.below {w w' : World} (h : Ext w w') : Below w.heap.size w w' := ⟨h.os, h.tape, h.output, h.size, h.block⟩
/-- YES: THE CALL RETURNS TRUE, AND WHAT WAS THERE STAYS. -/
theorem Runs.top {X : Nat → Nat} (r : Runs P X) {fuel d f : Nat} {fn : Func} {c : Code} (hf : P.funcs[f]? = some fn) (hb : fn.body = some c) {xs : List AV} {vs : List Value} {h0 : Hp} {β : Bt} {w : World}
    (hr : HR β h0 w) (hg : GlobK P β) (hx : conL β xs = some vs) (H : callK P X fuel d f xs h0 (fin h0.nx) = .yes) : Calls P f vs.toArray w fun e w' => e = .returned (.bool true) ∧ Below w.heap.size w w' := by
  obtain ⟨v, h', h1, h2⟩ := r.sound fuel d f xs h0 _ H
  obtain ⟨rfl, hlo⟩ := fin_yes h1
  rcases h2 β w vs hr hg hx with ⟨-, hc⟩ | ⟨u, w', hc, -⟩
  · refine hc.mono fun e w' he => ?_
    obtain ⟨β', u, rfl, s, hu⟩ := he
    rw [con_bool hu]
    exact ⟨rfl, (s.kept.ext fun b hb => hr.fresh b (by omega)).below⟩
  · exfalso
    unfold callFunc at hc
    simp only [Sem.run_bind, run_program, Result.andThen_ok, hf] at hc
    have hn : (fn.name == "runtime.NumGoroutine") = false := by simpa using r.names f fn hf
    rw [hn] at hc
    simp [hb] at hc
/-- Globals of which nothing is known. -/
def globB (n : Nat) : Bt := fun b => if b < n then some (b, 0) else none
theorem glob0 (w : World) (n : Nat) : HR (globB n) (.mk .leaf n n) w := by
  have hb : ∀ b x, (Hp.mk .leaf n n).tr.get (path b) = some x → False := fun b x hb => by
    rw [show (Hp.mk .leaf n n).tr = .leaf from rfl, get_leaf] at hb
    cases hb
  exact ⟨fun b x h => (hb b x h).elim, fun b b' x x' cb κ κ' h => (hb b x h).elim, fun b hb => if_neg (by have : n ≤ b := hb; omega), Nat.le_refl _⟩
theorem globK (P : Program) {n : Nat} (h : P.globals.size ≤ n) : GlobK P (globB n) := fun g hg => ⟨0, if_pos (by omega)⟩
/-- Where no table is asked. -/
theorem Runs.plain {X : Nat → Nat} (r : Runs P X) {fuel d f n : Nat} {fn : Func} {c : Code} (hf : P.funcs[f]? = some fn) (hb : fn.body = some c) (hn : P.globals.size ≤ n) {xs : List AV} {vs : List Value} (hx : conL (globB n) xs = some vs)
    (H : callK P X fuel d f xs (.mk .leaf n n) (fin n) = .yes) (w : World) : Calls P f vs.toArray w fun e w' => e = .returned (.bool true) ∧ Below w.heap.size w w' :=
  r.top hf hb (glob0 w n) (globK P hn) hx H
end Go.Ev
