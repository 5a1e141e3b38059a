/- What the proof needs, part 1. -/
import Derived.Deep.RegionHeld3
import Derived.Lib.Hide
import Derived.Test.YtedfgikikjggaaaDoorBase
import Derived.WalkMore
import Derived.ScopeJumps
/- Operations of a drawn region taken first, their temporaries named. Over any program. -/
section
set_option linter.unusedVariables false
namespace Go.Proofs.YtedfgikikjggaaaDoor
section
variable {P : Program} {ops : Array Oper} {Q : Exit → Act → World → Prop} {md : Region.Mode} {S : World → Prop}
/-- An operation whose guard is off. -/
theorem takeH_off (i : Nat) (d : Option Tmp) {oi : Oper} {fuel : Nat} {listed : Array Bool} {a : Act} {w : World} (hi : ops[i]? = some oi) (hd : oi.dst = d)
    (hs : Region.noSelect ops = true) (hf : Region.free md ops listed i = true) (hr : (Region.ready md ops listed).contains i = true)
    (hQ : ∀ c a w, Q (.panic c) (a.put d undef) w → Q (.panic c) a w) (hw : Region.wanted oi (yielded ops a.tmps) = false) (hS : S w)
    (h : wpAnyH P md ops Q S fuel (listed.setIfInBounds i true) (a.put d undef) w) : wpAnyH P md ops Q S (fuel + 1) listed a w := by
  subst hd
  exact wpAnyH_take hi hs hf hr hQ (.inr ⟨hw, rfl⟩) hS h
/-- An operation that yields. -/
theorem takeH_on (i : Nat) (d : Option Tmp) (v : Value) {oi : Oper} {fuel : Nat} {listed : Array Bool} {a : Act} {w : World} (hi : ops[i]? = some oi) (hd : oi.dst = d)
    (hs : Region.noSelect ops = true) (hf : Region.free md ops listed i = true) (hr : (Region.ready md ops listed).contains i = true)
    (hQ : ∀ c a w, Q (.panic c) (a.put d v) w → Q (.panic c) a w) (hw : Region.wanted oi (yielded ops a.tmps) = true) (hy : ∀ w, S w → (execOp a.eval oi).run P w = .ok (.value v) w) (hS : S w)
    (h : wpAnyH P md ops Q S fuel (listed.setIfInBounds i true) (a.put d v) w) : wpAnyH P md ops Q S (fuel + 1) listed a w := by
  subst hd
  exact wpAnyH_take hi hs hf hr hQ (.inl ⟨hw, hy⟩) hS h
end
end Go.Proofs.YtedfgikikjggaaaDoor
end
/- A scope with labels, the measure told by what holds. Over any program. -/
section
set_option linter.unusedVariables false
set_option linter.unusedSimpArgs false
namespace Go.Proofs.YtedfgikikjggaaaDoor
open Go.RowKit

def toM (J : Nat → Act → World → Prop) (Q : Exit → Act → World → Prop) (e : Exit) (a : Act) (w : World) : Prop :=
  match e with
  | .goto l => J l a w
  | e => Q e a w
section
variable {P : Program} {J : Nat → Act → World → Prop} {Q : Exit → Act → World → Prop} {a : Act} {w : World}
@[go_sem] theorem toM_normal : toM J Q .normal a w = Q .normal a w := rfl
@[go_sem] theorem toM_exit (id : Nat) : toM J Q (.exit id) a w = Q (.exit id) a w := rfl
@[go_sem] theorem toM_ret : toM J Q .ret a w = Q .ret a w := rfl
@[go_sem] theorem toM_panic (ch : List PanicEntry) : toM J Q (.panic ch) a w = Q (.panic ch) a w := rfl
theorem toM_goto (l : Nat) : toM J Q (.goto l) a w = J l a w := rfl
theorem toM_mono {y : Code} {J1 J2 : Nat → Act → World → Prop} {a : Act} {w : World} (hJ : ∀ l a w, J1 l a w → J2 l a w) (h : y.wp P (toM J1 Q) a w) : y.wp P (toM J2 Q) a w := by
  intro b k cs
  obtain ⟨e, a1, w1, hq, har⟩ := h b k cs
  refine ⟨e, a1, w1, ?_, har⟩
  cases e with
  | goto l3 => exact hJ _ _ _ hq
  | normal => exact hq
  | exit id => exact hq
  | ret => exact hq
  | panic ch => exact hq
  | outgrown => exact hq
theorem wp_scope_m {c : Code} (J : Nat → Nat → Act → World → Prop) (first : c.wp P (toM (fun l a w => ∃ m, J m l a w) Q) a w)
    (pass : ∀ m l a w, J m l a w → ∃ rest, findLabel c l = some rest ∧ rest.wp P (toM (fun l' a' w' => ∃ m', m' < m ∧ J m' l' a' w') Q) a w) : (Code.scope c).wp P Q a w := by
  intro b k cs
  have jump : ∀ m l a w rest, J m l a w → findLabel c l = some rest → ∃ e a' w', Q e a' w' ∧ Arrives P (lone (b.at a (.code rest :: .inScope c :: k)) cs w) b k cs e a' w' := by
    intro m
    induction m using Nat.strongRecOn with
    | _ m ih =>
      intro l a w rest hJ hf
      obtain ⟨rest', hf', hp⟩ := pass m l a w hJ
      obtain rfl : rest = rest' := Option.some.inj (hf.symm.trans hf')
      obtain ⟨e, a1, w1, hq, har⟩ := hp b (.inScope c :: k) cs
      cases e with
      | normal => exact ⟨.normal, a1, w1, hq, Steps.trans har (.one step_inScope)⟩
      | exit id => exact ⟨.exit id, a1, w1, hq, fun k' hk => har k' (by simp [exitTo, hk])⟩
      | goto l2 =>
        obtain ⟨m2, hlt, hJ2⟩ := hq
        obtain ⟨rest2, hf2, _⟩ := pass m2 l2 a1 w1 hJ2
        obtain ⟨e2, a2, w2, hq2, har2⟩ := ih m2 hlt l2 a1 w1 rest2 hJ2 hf2
        exact ⟨e2, a2, w2, hq2, .of_steps (har _ (by simp [gotoIn, hf2])) har2⟩
      | ret => exact ⟨_, a1, w1, hq, har⟩
      | panic ch => exact ⟨_, a1, w1, hq, har⟩
      | outgrown => exact ⟨_, a1, w1, hq, har⟩
  obtain ⟨e, a1, w1, hq, har⟩ := first b (.inScope c :: k) cs
  cases e with
  | normal => exact ⟨.normal, a1, w1, hq, .head step_scope (Steps.trans har (.one step_inScope))⟩
  | exit id => exact ⟨.exit id, a1, w1, hq, fun k' hk => .head step_scope (har k' (by simp [exitTo, hk]))⟩
  | goto l2 =>
    obtain ⟨m2, hJ2⟩ := hq
    obtain ⟨rest2, hf2, _⟩ := pass m2 l2 a1 w1 hJ2
    obtain ⟨e2, a2, w2, hq2, har2⟩ := jump _ l2 a1 w1 rest2 hJ2 hf2
    exact ⟨e2, a2, w2, hq2, .of_steps (.head step_scope (har _ (by simp [gotoIn, hf2]))) har2⟩
  | ret => exact ⟨_, a1, w1, hq, .of_steps (.one step_scope) har⟩
  | panic ch => exact ⟨_, a1, w1, hq, .of_steps (.one step_scope) har⟩
  | outgrown => exact ⟨_, a1, w1, hq, .of_steps (.one step_scope) har⟩
/-- The same, where the way falls into a label: its place is told as '.seq .skip y'. -/
theorem wp_scope_mf {c : Code} (J : Nat → Nat → Act → World → Prop)
    (first : (∀ m l a w y, J m l a w → findLabel c l = some (.seq .skip y) → y.wp P (toM (fun l a w => ∃ m, J m l a w) Q) a w) → c.wp P (toM (fun l a w => ∃ m, J m l a w) Q) a w)
    (pass : ∀ m l a w, J m l a w → ∃ y, findLabel c l = some (.seq .skip y) ∧ y.wp P (toM (fun l' a' w' => ∃ m', m' < m ∧ J m' l' a' w') Q) a w) : (Code.scope c).wp P Q a w :=
  wp_scope_m J (first fun m l a w y hJ hf => by
    obtain ⟨y2, hf2, hp2⟩ := pass m l a w hJ
    obtain rfl : y = y2 := by have := hf.symm.trans hf2; injection this with this; injection this
    exact toM_mono (fun l a w ⟨m', _, h⟩ => ⟨m', h⟩) hp2)
    (fun m l a w hJ => by
      obtain ⟨y2, hf2, hp2⟩ := pass m l a w hJ
      exact ⟨_, hf2, wp_seq_k fun K hK => wp_skip (hK _ _ hp2)⟩)
end
end Go.Proofs.YtedfgikikjggaaaDoor
end
