/- A node stored into a row of one's own. -/
import Derived.Test.YtcdkojdjcifkpaaDoorNdsS
import Derived.Deep.MidRow
set_option linter.unusedVariables false
set_option linter.unusedSimpArgs false
namespace Go.Proofs.YtcdkojdjcifkpaaDoor
open Go.RowKit

theorem flat_set : ∀ (ns : List Nd) (i : Nat) (n : Nd), i < ns.length → (ns.set i n).flatMap ndC = (((ns.flatMap ndC).set (i * 3) (.string ⟨n.p.toArray⟩)).set (i * 3 + 1) (.int .i64 n.k)).set (i * 3 + 2) (.string ⟨n.d.toArray⟩)
  | [], i, n, h => by simp at h
  | m :: ns, 0, n, h => rfl
  | m :: ns, i + 1, n, h => by
    have ih := flat_set ns i n (by simpa using h)
    rw [List.set_cons_succ, List.flatMap_cons, ih, List.flatMap_cons]
    have e : ∀ (l : List Value) (j : Nat) (v : Value), (ndC m ++ l).set (j + 3) v = ndC m ++ l.set j v := fun l j v => rfl
    rw [show (i + 1) * 3 = i * 3 + 3 by omega, show i * 3 + 3 + 1 = (i * 3 + 1) + 3 by omega, show i * 3 + 3 + 2 = (i * 3 + 2) + 3 by omega, e, e, e]
theorem OwnN.there {w : World} {B g cap : Nat} {len : Nat} {ns : List Nd} (h : OwnN w B (.slice (some ⟨g, 0, none⟩) len cap) ns) {i : Nat} (hi : i < ns.length) : w.there g (i * 3) 3 := by
  have hh := h
  rcases h.2 with ⟨hv, hn⟩ | ⟨g2, cap2, cur, hv, hg, hb, hnc, hcm, hcs, ht⟩
  · cases hv
  · injection hv with h1 h2 h3
    injection h1 with h1
    injection h1 with h1 _ _
    subst h1
    intro j hj
    have hk : i * 3 + j < (ns.flatMap ndC).length := by rw [ndsflat_len]; omega
    have := World.ownsRow.cells hh (g := g) rfl (i * 3 + j) _ (List.getElem?_eq_getElem hk)
    rw [addr_add] at this
    refine ⟨by rw [this]; rfl, ?_⟩
    simp [World.frozen?, hb]
theorem OwnN.store {w : World} {B g cap : Nat} {len : Nat} {ns : List Nd} (h : OwnN w B (.slice (some ⟨g, 0, none⟩) len cap) ns) {i : Nat} (hi : i < ns.length) (n : Nd) :
    OwnN (w.setCells g (i * 3) (ndC n)) B (.slice (some ⟨g, 0, none⟩) len cap) (ns.set i n) ∧ w.grownBy (w.setCells g (i * 3) (ndC n)) (some g) := by
  rcases h.2 with ⟨hv, hn⟩ | ⟨g2, cap2, cur, hv, hg, hb, hnc, hcm, hcs, ht⟩
  · cases hv
  · have hv' := hv
    injection hv with h1 h2 h3
    injection h1 with h1
    injection h1 with h1 _ _
    subst h1
    have b1 := heap_setCell_same w g (i * 3) cur 37 (.string ⟨n.p.toArray⟩) hb
    have b2 := heap_setCell_same _ g (i * 3 + 1) _ 37 (.int .i64 n.k) b1
    have b3 := heap_setCell_same _ g (i * 3 + 1 + 1) _ 37 (.string ⟨n.d.toArray⟩) b2
    refine ⟨⟨ndsflat_len _, .inr ⟨g, cap2, _, by rw [List.length_set]; exact hv', hg, b3, by rw [List.length_set]; exact hnc, hcm, by simpa using hcs, ?_⟩⟩, ?_⟩
    · rw [flat_set ns i n hi, ← ht, List.length_set]
      simp only [Array.toList_setIfInBounds]
      rw [List.take_set, List.take_set, List.take_set]
    · exact grownBy_trans (grownBy_set w g (i * 3) _) (grownBy_trans (grownBy_set _ g (i * 3 + 1) _) (grownBy_set _ g (i * 3 + 1 + 1) _))
section
variable {ops : Array Oper} {rest : List Oper} {o : Oper} {a : Act} {Q : Exit → Act → World → Prop}
/-- s[i] = n. -/
theorem wpList_storeN (w : World) (hgd : o.guard = none) (x y : Operand) (ho : o.op = .store 37 x y) (B g cap len : Nat) (ns : List Nd) (i : Nat) (n : Nd) (hown : OwnN w B (.slice (some ⟨g, 0, none⟩) len cap) ns) (hi : i < ns.length)
    (hx : a.eval x = .pointer (some ⟨g, i * 3, none⟩)) (hy : a.eval y = .agg #[.string ⟨n.p.toArray⟩, .int .i64 n.k, .string ⟨n.d.toArray⟩])
    (h : ∀ w', OwnN w' B (.slice (some ⟨g, 0, none⟩) len cap) (ns.set i n) → w.grownBy w' (some g) → wpList Tryd.prog ops Q rest (a.put o.dst undef) w') : wpList Tryd.prog ops Q (o :: rest) a w := by
  obtain ⟨h1, h2⟩ := hown.store hi n
  refine wpList_store_mid hgd 37 x y ho g (i * 3) _ hx hy (hown.there hi) (by kernel_rfl) (by simp [Value.oneCell']) ?_
  exact h _ h1 h2
end
end Go.Proofs.YtcdkojdjcifkpaaDoor
