/- A scope with several labels: what holds at each jump, and a measure that falls. Over any program. -/
import Derived.Test.YtkdmmmheciffgaaBase
import Derived.WalkMore
import Derived.ScopeJumps
set_option linter.unusedVariables false
set_option linter.unusedSimpArgs false
namespace Go.Proofs.Ytkdmmmheciffgaa
open Go.RowKit

/-- By a goto to l: J l; else as Q. -/
def toJ (J : Nat → Act → World → Prop) (Q : Exit → Act → World → Prop) (e : Exit) (a : Act) (w : World) : Prop :=
  match e with
  | .goto l => J l a w
  | e => Q e a w
section
variable {P : Program} {J : Nat → Act → World → Prop} {Q : Exit → Act → World → Prop} {a : Act} {w : World}
@[go_sem] theorem toJ_normal : toJ J Q .normal a w = Q .normal a w := rfl
@[go_sem] theorem toJ_exit (id : Nat) : toJ J Q (.exit id) a w = Q (.exit id) a w := rfl
@[go_sem] theorem toJ_ret : toJ J Q .ret a w = Q .ret a w := rfl
@[go_sem] theorem toJ_panic (ch : List PanicEntry) : toJ J Q (.panic ch) a w = Q (.panic ch) a w := rfl
theorem toJ_goto (l : Nat) : toJ J Q (.goto l) a w = J l a w := rfl
theorem wp_scope_labels {c : Code} (J : Nat → Act → World → Prop) (μ : Nat → Act → World → Nat) (first : c.wp P (toJ J Q) a w)
    (pass : ∀ l a w, J l a w → ∃ rest, findLabel c l = some rest ∧ rest.wp P (toJ (fun l' a' w' => J l' a' w' ∧ μ l' a' w' < μ l a w) Q) a w) : (Code.scope c).wp P Q a w := by
  intro b k cs
  have jump : ∀ n l a w rest, μ l a w = n → J l a w → findLabel c l = some rest → ∃ e a' w', Q e a' w' ∧ Arrives P (lone (b.at a (.code rest :: .inScope c :: k)) cs w) b k cs e a' w' := by
    intro n
    induction n using Nat.strongRecOn with
    | _ n ih =>
      intro l a w rest hn hJ hf
      obtain ⟨rest', hf', hp⟩ := pass l a w hJ
      obtain rfl : rest = rest' := Option.some.inj (hf.symm.trans hf')
      obtain ⟨e, a1, w1, hq, har⟩ := hp b (.inScope c :: k) cs
      cases e with
      | normal => exact ⟨.normal, a1, w1, hq, Steps.trans har (.one step_inScope)⟩
      | exit id => exact ⟨.exit id, a1, w1, hq, fun k' hk => har k' (by simp [exitTo, hk])⟩
      | goto l2 =>
        obtain ⟨hJ2, hlt⟩ := hq
        obtain ⟨rest2, hf2, _⟩ := pass l2 a1 w1 hJ2
        obtain ⟨e2, a2, w2, hq2, har2⟩ := ih _ (by omega) l2 a1 w1 rest2 rfl hJ2 hf2
        exact ⟨e2, a2, w2, hq2, .of_steps (har _ (by simp [gotoIn, hf2])) har2⟩
      | ret => exact ⟨_, a1, w1, hq, har⟩
      | panic ch => exact ⟨_, a1, w1, hq, har⟩
      | outgrown => exact ⟨_, a1, w1, hq, har⟩
  obtain ⟨e, a1, w1, hq, har⟩ := first b (.inScope c :: k) cs
  cases e with
  | normal => exact ⟨.normal, a1, w1, hq, .head step_scope (Steps.trans har (.one step_inScope))⟩
  | exit id => exact ⟨.exit id, a1, w1, hq, fun k' hk => .head step_scope (har k' (by simp [exitTo, hk]))⟩
  | goto l2 =>
    have hJ2 : J l2 a1 w1 := hq
    obtain ⟨rest2, hf2, _⟩ := pass l2 a1 w1 hJ2
    obtain ⟨e2, a2, w2, hq2, har2⟩ := jump _ l2 a1 w1 rest2 rfl hJ2 hf2
    exact ⟨e2, a2, w2, hq2, .of_steps (.head step_scope (har _ (by simp [gotoIn, hf2]))) har2⟩
  | ret => exact ⟨_, a1, w1, hq, .of_steps (.one step_scope) har⟩
  | panic ch => exact ⟨_, a1, w1, hq, .of_steps (.one step_scope) har⟩
  | outgrown => exact ⟨_, a1, w1, hq, .of_steps (.one step_scope) har⟩
end
end Go.Proofs.Ytkdmmmheciffgaa
