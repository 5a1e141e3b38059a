/- Rows of nodes with a gap: what (*ref15.Tree).lay does to them. -/
import Derived.Test.YtcdkojdjcifkpaaDoorRfC
import Derived.Test.YtcdkojdjcifkpaaDoorRfD
set_option linter.unusedVariables false
set_option linter.unusedSimpArgs false
namespace Go.Proofs.YtcdkojdjcifkpaaDoor
open Go.RowKit

def gapN (ns : List Nd) (k : Nat) (x : Nd) : List Nd := ns.take k ++ x :: ns.drop k
theorem gap_len {ns : List Nd} {k : Nat} (x : Nd) (h : k ≤ ns.length) : (gapN ns k x).length = ns.length + 1 := by
  unfold gapN; simp; omega
theorem gap_end (ns : List Nd) (x : Nd) : gapN ns ns.length x = ns ++ [x] := by unfold gapN; simp
theorem gap_set {ns : List Nd} {k : Nat} (x y : Nd) (h : k ≤ ns.length) : (gapN ns k x).set k y = gapN ns k y := by
  unfold gapN
  rw [List.set_append_right _ _ (by simp; omega), show k - (ns.take k).length = 0 by simp; omega]; rfl
theorem gap_step {ns : List Nd} {k : Nat} (x : Nd) (h : k < ns.length) : (gapN ns (k + 1) x).set (k + 1) (ndAt ns k) = gapN ns k (ndAt ns k) := by
  rw [gap_set _ _ (by omega)]
  unfold gapN
  rw [List.take_add_one, List.getElem?_eq_getElem h, at_get h, List.append_assoc]
  congr 1
  rw [List.drop_eq_getElem_cons h]; rfl
theorem gap_at {ns : List Nd} {k : Nat} (x : Nd) (h : k < ns.length) : ndAt (gapN ns (k + 1) x) k = ndAt ns k := by
  unfold ndAt gapN
  rw [List.getD_eq_getElem?_getD, List.getD_eq_getElem?_getD, List.getElem?_append_left (by simp; omega), List.getElem?_take_of_lt (by omega)]
theorem gap_mem (ns : List Nd) (k : Nat) (x m : Nd) : m ∈ gapN ns k x ↔ m ∈ ns ∨ m = x := by
  unfold gapN
  rw [List.mem_append, List.mem_cons]
  constructor
  · rintro (h | h | h)
    · exact .inl (List.mem_of_mem_take h)
    · exact .inr h
    · exact .inl (List.mem_of_mem_drop h)
  · rintro (h | h)
    · rw [← List.take_append_drop k ns, List.mem_append] at h
      exact h.elim .inl fun h => .inr (.inr h)
    · exact .inr (.inl h)
theorem gap_rising {ns : List Nd} {k : Nat} {n : Nd} (hr : Rising ns) (h1 : ∀ j, j < k → j < ns.length → ltS (ndAt ns j).p n.p = true) (h2 : ∀ j, k ≤ j → j < ns.length → ltS n.p (ndAt ns j).p = true) : Rising (gapN ns k n) := by
  unfold gapN Rising
  have hlow : ∀ a ∈ ns.take k, ltS a.p n.p = true := fun a ha => by
    obtain ⟨j, hj, rfl⟩ := List.getElem_of_mem ha
    have hj' : j < k ∧ j < ns.length := by simp at hj; omega
    have := h1 j hj'.1 hj'.2
    rw [at_get hj'.2] at this
    rwa [List.getElem_take]
  have hup : ∀ b ∈ ns.drop k, ltS n.p b.p = true := fun b hb => by
    obtain ⟨j, hj, rfl⟩ := List.getElem_of_mem hb
    have hj' : k + j < ns.length := by simp at hj; omega
    have := h2 (k + j) (by omega) hj'
    rw [at_get hj'] at this
    rwa [List.getElem_drop]
  have hr2 : (ns.take k ++ ns.drop k).Pairwise (fun a b => ltS a.p b.p = true) := by rw [List.take_append_drop]; exact hr
  rw [List.pairwise_append] at hr2
  rw [List.pairwise_append, List.pairwise_cons]
  refine ⟨hr2.1, ⟨fun b hb => hup b hb, hr2.2.1⟩, fun a ha b hb => ?_⟩
  rcases List.mem_cons.1 hb with rfl | hb
  · exact hlow a ha
  · exact hr2.2.2 a ha b hb
/-- Where n belongs: what is above it, what lies at it. -/
theorem gap_hit {ns : List Nd} {i : Nat} {n : Nd} (hr : Rising ns) (hi : i < ns.length) (he : (ndAt ns i).p = n.p) : (lookN ns n.p).isNone = false := by
  rw [look_found hr hi he]; rfl
theorem gap_miss {ns : List Nd} {k : Nat} {n : Nd} (h1 : ∀ j, j < k → j < ns.length → ltS (ndAt ns j).p n.p = true) (h2 : ∀ j, k ≤ j → j < ns.length → ltS n.p (ndAt ns j).p = true) : (lookN ns n.p).isNone = true := by
  cases h : lookN ns n.p with
  | none => rfl
  | some m =>
    obtain ⟨hm, hp⟩ := lookN_some h
    obtain ⟨j, hj, rfl⟩ := mem_at hm
    rcases Nat.lt_or_ge j k with h3 | h3
    · have := h1 j h3 hj; rw [hp, ltS_irrefl] at this; cases this
    · have := h2 j h3 hj; rw [hp, ltS_irrefl] at this; cases this
theorem gap_below {ns : List Nd} {i : Nat} {n : Nd} (hr : Rising ns) (hi : i < ns.length) (hii : ltS (ndAt ns i).p n.p = true) : ∀ j, j < i + 1 → j < ns.length → ltS (ndAt ns j).p n.p = true := fun j hj hjl => by
  rcases Nat.lt_or_ge j i with h | h
  · exact ltS_trans (rising_lt hr h hi) hii
  · obtain rfl : j = i := by omega
    exact hii
theorem OwnN.head {w : World} {B : Nat} {v : Value} {ns : List Nd} (h : OwnN w B v ns) (h0 : 0 < ns.length) : ∃ g cap, v = .slice (some ⟨g, 0, none⟩) ns.length cap ∧ B ≤ g := by
  rcases h.2 with ⟨rfl, hn⟩ | ⟨g, cap, cur, rfl, hg, _⟩
  · omega
  · exact ⟨g, cap, rfl, hg⟩
theorem OwnN.at {w : World} {B g cap : Nat} {len : Nat} {ns : List Nd} (h : OwnN w B (.slice (some ⟨g, 0, none⟩) len cap) ns) {i : Nat} (hi : i < ns.length) :
    w.cell? ⟨g, i * 3, none⟩ = some (.string ⟨(ndAt ns i).p.toArray⟩) ∧ w.cell? ⟨g, i * 3 + 1, none⟩ = some (.int .i64 (ndAt ns i).k) ∧ w.cell? ⟨g, i * 3 + 2, none⟩ = some (.string ⟨(ndAt ns i).d.toArray⟩) := by
  obtain ⟨a, cap', e, -, -, -, h3⟩ := h.isNds
  injection e with e1
  obtain ⟨g', off, e2, hc⟩ := h3 (by omega)
  rw [e2] at e1
  injection e1 with e1
  injection e1 with e1 e3
  subst e1; subst e3
  obtain ⟨c0, c1, c2⟩ := hc i hi
  rw [Nat.zero_add] at c0 c1 c2
  exact ⟨c0, c1, c2⟩
/-- A row that ends with an empty node is no node's own box. -/
theorem OwnN.ne_box {w : World} {B g cap len : Nat} {ns : List Nd} (h : OwnN w B (.slice (some ⟨g, 0, none⟩) len cap) (ns ++ [nd0])) {b : Nat} {n : Nd} (hb : Box w b 37 (ndC n)) (hn : n.p ≠ []) : g ≠ b := by
  rintro rfl
  obtain ⟨c0, -, -⟩ := h.at (i := ns.length) (by simp)
  rw [hb.cell] at c0
  have e : ndAt (ns ++ [nd0]) ns.length = nd0 := by unfold ndAt; simp
  rw [e] at c0
  cases hl : ns.length with
  | zero =>
    rw [hl] at c0
    simp [ndC, nd0] at c0
    exact hn (by simpa using c0)
  | succ m =>
    rw [hl] at c0
    rw [List.getElem?_eq_none (by simp [ndC]; omega)] at c0
    cases c0
theorem OwnN.ne15 {w : World} {B : Nat} {v : Value} {ns : List Nd} (h : OwnN w B v ns) {g : Nat} {cs : List Value} (hb : Box w g 35 cs) : v.ownBlock ≠ some g := by
  rcases h.2 with ⟨rfl, _⟩ | ⟨g2, cap, cur, rfl, _, hh, _⟩
  · simp [Value.ownBlock]
  · intro e
    have e : g2 = g := by simpa [Value.ownBlock] using e
    subst e
    have hb2 : w.heap[g2]? = some (.cells cs.toArray 35 (0, 0)) := hb
    rw [hh] at hb2
    injection hb2 with hb3
    injection hb3 with _ h4 _
    exact absurd h4 (by decide)
end Go.Proofs.YtcdkojdjcifkpaaDoor
