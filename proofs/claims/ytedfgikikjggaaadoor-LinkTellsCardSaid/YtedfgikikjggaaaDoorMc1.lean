/- What the proof needs, part 1. -/
import Derived.Test.YtedfgikikjggaaaDoorNdsS
import Derived.Deep.MidRow
import Derived.Test.YtedfgikikjggaaaDoorRfC
/- A node stored into a row of one's own. -/
section
set_option linter.unusedVariables false
set_option linter.unusedSimpArgs false
namespace Go.Proofs.YtedfgikikjggaaaDoor
open Go.RowKit

theorem flat_set : ∀ (ns : List Nd) (i : Nat) (n : Nd), i < ns.length → (ns.set i n).flatMap ndC = (((ns.flatMap ndC).set (i * 3) (.string ⟨n.p.toArray⟩)).set (i * 3 + 1) (.int .i64 n.k)).set (i * 3 + 2) (.string ⟨n.d.toArray⟩)
  | [], i, n, h => by simp at h
  | m :: ns, 0, n, h => rfl
  | m :: ns, i + 1, n, h => by
    have ih := flat_set ns i n (by simpa using h)
    rw [List.set_cons_succ, List.flatMap_cons, ih, List.flatMap_cons]
    have e : ∀ (l : List Value) (j : Nat) (v : Value), (ndC m ++ l).set (j + 3) v = ndC m ++ l.set j v := fun l j v => rfl
    rw [show (i + 1) * 3 = i * 3 + 3 by omega, show i * 3 + 3 + 1 = (i * 3 + 1) + 3 by omega, show i * 3 + 3 + 2 = (i * 3 + 2) + 3 by omega, e, e, e]
theorem OwnN.there {w : World} {B g cap : Nat} {len : Nat} {ns : List Nd} (h : OwnN w B (.slice (some ⟨g, 0, none⟩) len cap) ns) {i : Nat} (hi : i < ns.length) : w.there g (i * 3) 3 := by
  have hh := h
  rcases h.2 with ⟨hv, hn⟩ | ⟨g2, cap2, cur, hv, hg, hb, hnc, hcm, hcs, ht⟩
  · cases hv
  · injection hv with h1 h2 h3
    injection h1 with h1
    injection h1 with h1 _ _
    subst h1
    intro j hj
    have hk : i * 3 + j < (ns.flatMap ndC).length := by rw [ndsflat_len]; omega
    have := World.ownsRow.cells hh (g := g) rfl (i * 3 + j) _ (List.getElem?_eq_getElem hk)
    rw [addr_add] at this
    refine ⟨by rw [this]; rfl, ?_⟩
    simp [World.frozen?, hb]
theorem OwnN.store {w : World} {B g cap : Nat} {len : Nat} {ns : List Nd} (h : OwnN w B (.slice (some ⟨g, 0, none⟩) len cap) ns) {i : Nat} (hi : i < ns.length) (n : Nd) :
    OwnN (w.setCells g (i * 3) (ndC n)) B (.slice (some ⟨g, 0, none⟩) len cap) (ns.set i n) ∧ w.grownBy (w.setCells g (i * 3) (ndC n)) (some g) := by
  rcases h.2 with ⟨hv, hn⟩ | ⟨g2, cap2, cur, hv, hg, hb, hnc, hcm, hcs, ht⟩
  · cases hv
  · have hv' := hv
    injection hv with h1 h2 h3
    injection h1 with h1
    injection h1 with h1 _ _
    subst h1
    have b1 := heap_setCell_same w g (i * 3) cur 35 (.string ⟨n.p.toArray⟩) hb
    have b2 := heap_setCell_same _ g (i * 3 + 1) _ 35 (.int .i64 n.k) b1
    have b3 := heap_setCell_same _ g (i * 3 + 1 + 1) _ 35 (.string ⟨n.d.toArray⟩) b2
    refine ⟨⟨ndsflat_len _, .inr ⟨g, cap2, _, by rw [List.length_set]; exact hv', hg, b3, by rw [List.length_set]; exact hnc, hcm, by simpa using hcs, ?_⟩⟩, ?_⟩
    · rw [flat_set ns i n hi, ← ht, List.length_set]
      simp only [Array.toList_setIfInBounds]
      rw [List.take_set, List.take_set, List.take_set]
    · exact grownBy_trans (grownBy_set w g (i * 3) _) (grownBy_trans (grownBy_set _ g (i * 3 + 1) _) (grownBy_set _ g (i * 3 + 1 + 1) _))
section
variable {ops : Array Oper} {rest : List Oper} {o : Oper} {a : Act} {Q : Exit → Act → World → Prop}
/-- s[i] = n. -/
theorem wpList_storeN (w : World) (hgd : o.guard = none) (x y : Operand) (ho : o.op = .store 35 x y) (B g cap len : Nat) (ns : List Nd) (i : Nat) (n : Nd) (hown : OwnN w B (.slice (some ⟨g, 0, none⟩) len cap) ns) (hi : i < ns.length)
    (hx : a.eval x = .pointer (some ⟨g, i * 3, none⟩)) (hy : a.eval y = .agg #[.string ⟨n.p.toArray⟩, .int .i64 n.k, .string ⟨n.d.toArray⟩])
    (h : ∀ w', OwnN w' B (.slice (some ⟨g, 0, none⟩) len cap) (ns.set i n) → w.grownBy w' (some g) → wpList Tryd.prog ops Q rest (a.put o.dst undef) w') : wpList Tryd.prog ops Q (o :: rest) a w := by
  obtain ⟨h1, h2⟩ := hown.store hi n
  refine wpList_store_mid hgd 35 x y ho g (i * 3) _ hx hy (hown.there hi) (by kernel_rfl) (by simp [Value.oneCell']) ?_
  exact h _ h1 h2
end
end Go.Proofs.YtedfgikikjggaaaDoor
end
/- Rows of nodes with a gap: what (*ref15.Tree).lay does to them. -/
section
set_option linter.unusedVariables false
set_option linter.unusedSimpArgs false
namespace Go.Proofs.YtedfgikikjggaaaDoor
open Go.RowKit

def gapN (ns : List Nd) (k : Nat) (x : Nd) : List Nd := ns.take k ++ x :: ns.drop k
theorem gap_len {ns : List Nd} {k : Nat} (x : Nd) (h : k ≤ ns.length) : (gapN ns k x).length = ns.length + 1 := by
  unfold gapN; simp; omega
theorem gap_end (ns : List Nd) (x : Nd) : gapN ns ns.length x = ns ++ [x] := by unfold gapN; simp
theorem gap_set {ns : List Nd} {k : Nat} (x y : Nd) (h : k ≤ ns.length) : (gapN ns k x).set k y = gapN ns k y := by
  unfold gapN
  rw [List.set_append_right _ _ (by simp; omega), show k - (ns.take k).length = 0 by simp; omega]; rfl
theorem gap_step {ns : List Nd} {k : Nat} (x : Nd) (h : k < ns.length) : (gapN ns (k + 1) x).set (k + 1) (ndAt ns k) = gapN ns k (ndAt ns k) := by
  rw [gap_set _ _ (by omega)]
  unfold gapN
  rw [List.take_add_one, List.getElem?_eq_getElem h, at_get h, List.append_assoc]
  congr 1
  rw [List.drop_eq_getElem_cons h]; rfl
theorem gap_at {ns : List Nd} {k : Nat} (x : Nd) (h : k < ns.length) : ndAt (gapN ns (k + 1) x) k = ndAt ns k := by
  unfold ndAt gapN
  rw [List.getD_eq_getElem?_getD, List.getD_eq_getElem?_getD, List.getElem?_append_left (by simp; omega), List.getElem?_take_of_lt (by omega)]
theorem gap_mem (ns : List Nd) (k : Nat) (x m : Nd) : m ∈ gapN ns k x ↔ m ∈ ns ∨ m = x := by
  unfold gapN
  rw [List.mem_append, List.mem_cons]
  constructor
  · rintro (h | h | h)
    · exact .inl (List.mem_of_mem_take h)
    · exact .inr h
    · exact .inl (List.mem_of_mem_drop h)
  · rintro (h | h)
    · rw [← List.take_append_drop k ns, List.mem_append] at h
      exact h.elim .inl fun h => .inr (.inr h)
    · exact .inr (.inl h)
theorem gap_rising {ns : List Nd} {k : Nat} {n : Nd} (hr : Rising ns) (h1 : ∀ j, j < k → j < ns.length → ltS (ndAt ns j).p n.p = true) (h2 : ∀ j, k ≤ j → j < ns.length → ltS n.p (ndAt ns j).p = true) : Rising (gapN ns k n) := by
  unfold gapN Rising
  have hlow : ∀ a ∈ ns.take k, ltS a.p n.p = true := fun a ha => by
    obtain ⟨j, hj, rfl⟩ := List.getElem_of_mem ha
    have hj' : j < k ∧ j < ns.length := by simp at hj; omega
    have := h1 j hj'.1 hj'.2
    rw [at_get hj'.2] at this
    rwa [List.getElem_take]
  have hup : ∀ b ∈ ns.drop k, ltS n.p b.p = true := fun b hb => by
    obtain ⟨j, hj, rfl⟩ := List.getElem_of_mem hb
    have hj' : k + j < ns.length := by simp at hj; omega
    have := h2 (k + j) (by omega) hj'
    rw [at_get hj'] at this
    rwa [List.getElem_drop]
  have hr2 : (ns.take k ++ ns.drop k).Pairwise (fun a b => ltS a.p b.p = true) := by rw [List.take_append_drop]; exact hr
  rw [List.pairwise_append] at hr2
  rw [List.pairwise_append, List.pairwise_cons]
  refine ⟨hr2.1, ⟨fun b hb => hup b hb, hr2.2.1⟩, fun a ha b hb => ?_⟩
  rcases List.mem_cons.1 hb with rfl | hb
  · exact hlow a ha
  · exact hr2.2.2 a ha b hb
/-- Where n belongs: what is above it, what lies at it. -/
theorem gap_hit {ns : List Nd} {i : Nat} {n : Nd} (hr : Rising ns) (hi : i < ns.length) (he : (ndAt ns i).p = n.p) : (lookN ns n.p).isNone = false := by
  rw [look_found hr hi he]; rfl
theorem gap_miss {ns : List Nd} {k : Nat} {n : Nd} (h1 : ∀ j, j < k → j < ns.length → ltS (ndAt ns j).p n.p = true) (h2 : ∀ j, k ≤ j → j < ns.length → ltS n.p (ndAt ns j).p = true) : (lookN ns n.p).isNone = true := by
  cases h : lookN ns n.p with
  | none => rfl
  | some m =>
    obtain ⟨hm, hp⟩ := lookN_some h
    obtain ⟨j, hj, rfl⟩ := mem_at hm
    rcases Nat.lt_or_ge j k with h3 | h3
    · have := h1 j h3 hj; rw [hp, ltS_irrefl] at this; cases this
    · have := h2 j h3 hj; rw [hp, ltS_irrefl] at this; cases this
theorem gap_below {ns : List Nd} {i : Nat} {n : Nd} (hr : Rising ns) (hi : i < ns.length) (hii : ltS (ndAt ns i).p n.p = true) : ∀ j, j < i + 1 → j < ns.length → ltS (ndAt ns j).p n.p = true := fun j hj hjl => by
  rcases Nat.lt_or_ge j i with h | h
  · exact ltS_trans (rising_lt hr h hi) hii
  · obtain rfl : j = i := by omega
    exact hii
theorem OwnN.head {w : World} {B : Nat} {v : Value} {ns : List Nd} (h : OwnN w B v ns) (h0 : 0 < ns.length) : ∃ g cap, v = .slice (some ⟨g, 0, none⟩) ns.length cap ∧ B ≤ g := by
  rcases h.2 with ⟨rfl, hn⟩ | ⟨g, cap, cur, rfl, hg, _⟩
  · omega
  · exact ⟨g, cap, rfl, hg⟩
theorem OwnN.at {w : World} {B g cap : Nat} {len : Nat} {ns : List Nd} (h : OwnN w B (.slice (some ⟨g, 0, none⟩) len cap) ns) {i : Nat} (hi : i < ns.length) :
    w.cell? ⟨g, i * 3, none⟩ = some (.string ⟨(ndAt ns i).p.toArray⟩) ∧ w.cell? ⟨g, i * 3 + 1, none⟩ = some (.int .i64 (ndAt ns i).k) ∧ w.cell? ⟨g, i * 3 + 2, none⟩ = some (.string ⟨(ndAt ns i).d.toArray⟩) := by
  obtain ⟨a, cap', e, -, -, -, h3⟩ := h.isNds
  injection e with e1
  obtain ⟨g', off, e2, hc⟩ := h3 (by omega)
  rw [e2] at e1
  injection e1 with e1
  injection e1 with e1 e3
  subst e1; subst e3
  obtain ⟨c0, c1, c2⟩ := hc i hi
  rw [Nat.zero_add] at c0 c1 c2
  exact ⟨c0, c1, c2⟩
/-- A row that ends with an empty node is no node's own box. -/
theorem OwnN.ne_box {w : World} {B g cap len : Nat} {ns : List Nd} (h : OwnN w B (.slice (some ⟨g, 0, none⟩) len cap) (ns ++ [nd0])) {b : Nat} {n : Nd} (hb : Box w b 35 (ndC n)) (hn : n.p ≠ []) : g ≠ b := by
  rintro rfl
  obtain ⟨c0, -, -⟩ := h.at (i := ns.length) (by simp)
  rw [hb.cell] at c0
  have e : ndAt (ns ++ [nd0]) ns.length = nd0 := by unfold ndAt; simp
  rw [e] at c0
  cases hl : ns.length with
  | zero =>
    rw [hl] at c0
    simp [ndC, nd0] at c0
    exact hn (by simpa using c0)
  | succ m =>
    rw [hl] at c0
    rw [List.getElem?_eq_none (by simp [ndC]; omega)] at c0
    cases c0
theorem OwnN.ne15 {w : World} {B : Nat} {v : Value} {ns : List Nd} (h : OwnN w B v ns) {g : Nat} {cs : List Value} (hb : Box w g 33 cs) : v.ownBlock ≠ some g := by
  rcases h.2 with ⟨rfl, _⟩ | ⟨g2, cap, cur, rfl, _, hh, _⟩
  · simp [Value.ownBlock]
  · intro e
    have e : g2 = g := by simpa [Value.ownBlock] using e
    subst e
    have hb2 : w.heap[g2]? = some (.cells cs.toArray 33 (0, 0)) := hb
    rw [hh] at hb2
    injection hb2 with hb3
    injection hb3 with _ h4 _
    exact absurd h4 (by decide)
end Go.Proofs.YtedfgikikjggaaaDoor
end
