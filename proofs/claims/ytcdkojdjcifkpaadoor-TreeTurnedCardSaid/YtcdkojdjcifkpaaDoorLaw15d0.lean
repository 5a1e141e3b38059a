/- One cell of a node stored; nodes of which one was turned. -/
import Derived.Test.YtcdkojdjcifkpaaDoorRfF
import Derived.Test.YtcdkojdjcifkpaaDoorLaw15b
set_option linter.unusedVariables false
set_option linter.unusedSimpArgs false
namespace Go.Proofs.YtcdkojdjcifkpaaDoor
open Go.RowKit

theorem set_same {α : Type} {l : List α} {i : Nat} {v : α} (h : l[i]? = some v) : l.set i v = l := by
  apply List.ext_getElem?
  intro j
  rw [List.getElem?_set]
  by_cases hj : i = j
  · subst hj
    rw [if_pos rfl, h]
    have := (List.getElem?_eq_some_iff.1 h).1
    simp [this]
  · rw [if_neg hj]
theorem set_far {α : Type} {l : List α} {i j : Nat} {u v : α} (h : l[i]? = some v) (hne : j ≠ i) : (l.set j u)[i]? = some v := by
  rw [List.getElem?_set, if_neg hne, h]
theorem flat_p {ns : List Nd} {i : Nat} (hi : i < ns.length) (s : Bts) : (ns.set i ⟨s, (ndAt ns i).k, (ndAt ns i).d⟩).flatMap ndC = (ns.flatMap ndC).set (i * 3) (.string ⟨s.toArray⟩) := by
  obtain ⟨f0, f1, f2⟩ := ndsflat_at ns i hi
  rw [flat_set ns i _ hi]
  generalize ns.flatMap ndC = L at *
  apply List.ext_getElem?
  intro j
  simp only [List.getElem?_set, List.length_set]
  have hlen := (List.getElem?_eq_some_iff.1 f2).1
  by_cases h2 : i * 3 + 2 = j
  · subst h2; first | (simp [f2, hlen]; done) | (rw [f2]; simp [hlen])
  · by_cases h1 : i * 3 + 1 = j
    · subst h1; simp [f1] <;> omega
    · by_cases h0 : i * 3 = j
      · subst h0; simp [f0] <;> omega
      · simp [h0, h1, h2]
theorem flat_k {ns : List Nd} {i : Nat} (hi : i < ns.length) (s : Int) : (ns.set i ⟨(ndAt ns i).p, s, (ndAt ns i).d⟩).flatMap ndC = (ns.flatMap ndC).set (i * 3 + 1) (.int .i64 s) := by
  obtain ⟨f0, f1, f2⟩ := ndsflat_at ns i hi
  rw [flat_set ns i _ hi]
  generalize ns.flatMap ndC = L at *
  apply List.ext_getElem?
  intro j
  simp only [List.getElem?_set, List.length_set]
  have hlen := (List.getElem?_eq_some_iff.1 f2).1
  by_cases h2 : i * 3 + 2 = j
  · subst h2; first | (simp [f2, hlen]; done) | (rw [f2]; simp [hlen])
  · by_cases h1 : i * 3 + 1 = j
    · subst h1; simp [f1] <;> omega
    · by_cases h0 : i * 3 = j
      · subst h0; simp [f0] <;> omega
      · simp [h0, h1, h2]
theorem flat_d {ns : List Nd} {i : Nat} (hi : i < ns.length) (s : Bts) : (ns.set i ⟨(ndAt ns i).p, (ndAt ns i).k, s⟩).flatMap ndC = (ns.flatMap ndC).set (i * 3 + 2) (.string ⟨s.toArray⟩) := by
  obtain ⟨f0, f1, f2⟩ := ndsflat_at ns i hi
  rw [flat_set ns i _ hi]
  generalize ns.flatMap ndC = L at *
  apply List.ext_getElem?
  intro j
  simp only [List.getElem?_set, List.length_set]
  have hlen := (List.getElem?_eq_some_iff.1 f2).1
  by_cases h2 : i * 3 + 2 = j
  · subst h2; first | (simp [f2, hlen]; done) | (rw [f2]; simp [hlen])
  · by_cases h1 : i * 3 + 1 = j
    · subst h1; simp [f1] <;> omega
    · by_cases h0 : i * 3 = j
      · subst h0; simp [f0] <;> omega
      · simp [h0, h1, h2]
theorem OwnN.cellset {w : World} {B g cap len : Nat} {ns ns' : List Nd} (h : OwnN w B (.slice (some ⟨g, 0, none⟩) len cap) ns) (j : Nat) (v : Value) (hl : ns'.length = ns.length) (hf : ns'.flatMap ndC = (ns.flatMap ndC).set j v) : OwnN (w.setCell ⟨g, j, none⟩ v) B (.slice (some ⟨g, 0, none⟩) len cap) ns' := by
  rcases h.2 with ⟨hv, hn⟩ | ⟨g2, cap2, cur, hv, hg, hb, hnc, hcm, hcs, ht⟩
  · cases hv
  · have hv' := hv
    injection hv with h1 h2 h3
    injection h1 with h1
    injection h1 with h1 _ _
    subst h1
    have b1 := heap_setCell_same w g j cur 37 v hb
    refine ⟨ndsflat_len _, .inr ⟨g, cap2, _, by rw [hl]; exact hv', hg, b1, by rw [hl]; exact hnc, hcm, by simpa using hcs, ?_⟩⟩
    rw [hf, ← ht, hl]
    simp only [Array.toList_setIfInBounds]
    rw [List.take_set]
end Go.Proofs.YtcdkojdjcifkpaaDoor
