import Derived.Deep.RegionLaw
import Derived.Test.YtncfmmpdlcnboaaTq10
set_option linter.unusedVariables false
set_option linter.unusedSimpArgs false
namespace Go.Proofs.Ytncfmmpdlcnboaa
open Go.RowKit
theorem wp_appS {P : Program} {o : Oper} {a : Act} {K : Act → World → Prop} {Q : Exit → Act → World → Prop} (w : World) (s x : Operand) (t : TypeId) (ho : o.op = .call { callee := .builtin .append, args := #[s, x], argTypes := #[t, t] })
    (B : Nat) (e : TypeId) (z : Value) (bytes : Nat) (he : ElemOk P t e z bytes) (v : Value) (xs : List Value) (hs : a.eval s = v) (hown : Own w B e v xs)
    (v2 : Value) (n : Nat) (f : Nat → Value) (hx : a.eval x = v2) (hr : IsSl w v2 n f) (h1 : ∀ i, i < n → (f i).oneCell' = true)
    (hlen : (xs.length + n) * bytes ≤ 140737488355328) (hb : xs.length + n ≤ 9223372036854775807) (hB : B ≤ w.heap.size)
    (h : ∀ v' w', Own w' B e v' (xs ++ (List.range n).map f) → w.grownBy w' v.ownBlock → K (a.put o.dst v') w') : o.wp P a w K Q := by
  obtain ⟨ht, i, hi, hz, hs1, hby, hzc⟩ := he
  obtain ⟨ad, cap, rfl, hc1, hc2, hc0, hc3⟩ := hr
  have hlr : ((List.range n).map f).length = n := by simp
  cases ad with
  | none =>
    have hcap := hc0 rfl
    subst hcap
    obtain rfl : n = 0 := by omega
    have hrun := run_append_owned_none (P := P) (w := w) B t o.type e i 1 ht hi v xs.length xs hown
    unfold Oper.wp
    simp [execOp, ho, resolve, invoke, builtin, hs, hx, hrun, Result.andThen]
    exact h v w (by simpa using hown) ⟨rfl, rfl, rfl, Nat.le_refl _, fun _ _ _ => rfl⟩
  | some ad =>
    have hcells : ∀ (j : Nat) u, ((List.range n).map f)[j]? = some u → w.cell? (ad.add j) = some u := by
      intro j u hj
      have hjn : j < n := by
        have := (List.getElem?_eq_some_iff.1 hj).1
        simpa using this
      obtain ⟨b, off, hab, hc⟩ := hc3 (by omega)
      cases hab
      rw [addr_add_off, hc j hjn]
      simpa [hjn] using hj
    refine wp_append_own _ s x t ho B e i z 1 bytes ht hi hz hs1 hby hzc (by decide) v xs.length xs hs hown ad n cap ((List.range n).map f) hx (by simp) hcells ?_ ?_ hlen hB ?_
    · intro u hu
      obtain ⟨j, hj, rfl⟩ := List.mem_map.1 hu
      exact h1 j (by simpa using hj)
    · unfold maxLen; omega
    · intro v' w' h2 h3 _
      refine h v' w' ?_ h3
      unfold Own
      rw [List.length_append, hlr]
      exact h2
theorem step_appS {P : Program} {ops : Array Oper} {o : Oper} {a : Act} {K : Act → World → Prop} {Q : Exit → Act → World → Prop} {E : Prop} (w : World)
    (hg : o.guard = none) (s x : Operand) (t : TypeId) (ho : o.op = .call { callee := .builtin .append, args := #[s, x], argTypes := #[t, t] })
    (B : Nat) (e : TypeId) (z : Value) (bytes : Nat) (he : ElemOk P t e z bytes) (v : Value) (xs : List Value) (hs : a.eval s = v) (hown : Own w B e v xs)
    (v2 : Value) (n : Nat) (f : Nat → Value) (hx : a.eval x = v2) (hr : IsSl w v2 n f) (h1 : ∀ i, i < n → (f i).oneCell' = true)
    (hlen : (xs.length + n) * bytes ≤ 140737488355328) (hb : xs.length + n ≤ 9223372036854775807) (hB : B ≤ w.heap.size)
    (h : ∀ v' w', Own w' B e v' (xs ++ (List.range n).map f) → w.grownBy w' v.ownBlock → K (a.put o.dst v') w') :
    if Region.wanted o (yielded ops a.tmps) = true then Oper.wp P o a w K Q else E := by
  have hw : Region.wanted o (yielded ops a.tmps) = true := by simp [Region.wanted, hg]
  rw [if_pos hw]
  exact wp_appS w s x t ho B e z bytes he v xs hs hown v2 n f hx hr h1 hlen hb hB h
end Go.Proofs.Ytncfmmpdlcnboaa
