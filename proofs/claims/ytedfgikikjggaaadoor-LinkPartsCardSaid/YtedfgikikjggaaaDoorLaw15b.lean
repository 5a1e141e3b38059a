/- The walk of TreeTurns. -/
import Derived.Test.YtedfgikikjggaaaDoorLaw15a
import Derived.Test.YtedfgikikjggaaaDoorNdA
set_option linter.unusedVariables false
set_option linter.unusedSimpArgs false
namespace Go.Proofs.YtedfgikikjggaaaDoor
open Go.RowKit

theorem bigZ_le : ∀ (ns : List Nd) (z : Int), bigZ z ns ≤ z ∧ (0 ≤ bigZ z ns → ∀ n ∈ ns, min (n.p.length : Int) 10000 ≤ z ∧ min (n.d.length : Int) 10000 ≤ z) := by
  intro ns
  induction ns with
  | nil => intro z; exact ⟨Int.le_refl _, fun _ n hn => by cases hn⟩
  | cons n l ih =>
    intro z
    unfold bigZ
    by_cases hz : z < 0
    · rw [if_pos hz]
      exact ⟨Int.le_refl _, fun h => by omega⟩
    · rw [if_neg hz]
      obtain ⟨h1, h2⟩ := ih (z - min (n.p.length : Int) 10000 - min (n.d.length : Int) 10000)
      refine ⟨by omega, fun h m hm => ?_⟩
      rcases List.mem_cons.1 hm with rfl | hm
      · omega
      · have := h2 h m hm; omega
theorem bigN_f {ns : List Nd} (h : bigN 3000 ns = false) : ns.length ≤ 40 ∧ ∀ n ∈ ns, n.p.length ≤ 3000 ∧ n.d.length ≤ 3000 := by
  unfold bigN at h
  rw [Bool.or_eq_false_iff, decide_eq_false_iff_not, decide_eq_false_iff_not] at h
  refine ⟨by omega, fun n hn => ?_⟩
  have := (bigZ_le ns 3000).2 (by omega) n hn
  omega
theorem nodup_len : ∀ (l m : List Bts), l.Nodup → (∀ x ∈ l, x ∈ m) → l.length ≤ m.length
  | [], m, _, _ => Nat.zero_le _
  | a :: l, m, h, hs => by
    rw [List.nodup_cons] at h
    have ha := hs a (List.mem_cons_self ..)
    have h1 := nodup_len l (m.erase a) h.2 (fun x hx => (List.mem_erase_of_ne (by intro e; subst e; exact h.1 hx)).2 (hs x (List.mem_cons_of_mem _ hx)))
    rw [List.length_erase_of_mem ha] at h1
    have := List.length_pos_of_mem ha
    rw [List.length_cons]; omega
theorem whole_len {ns all : List Nd} (h : Whole ns all) : all.length ≤ ns.length + 1 := by
  have h1 : (all.map (·.p)).Nodup := by
    rw [List.nodup_iff_pairwise_ne, List.pairwise_map]
    exact h.1.imp fun {a b} hl e => by rw [e, ltS_irrefl] at hl; cases hl
  have h2 := nodup_len (all.map (·.p)) ((ns ++ [rootN]).map (·.p)) h1 (fun x hx => by
    obtain ⟨n, hn, rfl⟩ := List.mem_map.1 hx
    refine List.mem_map_of_mem (List.mem_append.2 ?_)
    rcases (h.2 n).1 hn with h3 | h3
    · exact .inl h3
    · exact .inr (List.mem_singleton.2 h3))
  simpa using h2
/-- Turned: from a place on, then from the beginning. -/
def turnL (L : Nat) (xs : List Nd) : List Nd := xs.drop L ++ xs.take L
theorem turnL_perm (L : Nat) (xs : List Nd) : (turnL L xs).Perm xs := by
  unfold turnL
  refine List.perm_append_comm.trans ?_
  rw [List.take_append_drop]
theorem turnL_len (L : Nat) (xs : List Nd) : (turnL L xs).length = xs.length := (turnL_perm L xs).length_eq
theorem turnL_at {L i : Nat} {xs : List Nd} (hL : L < xs.length) (hi : i < xs.length) : ndAt (turnL L xs) i = ndAt xs ((i + L) % xs.length) := by
  unfold turnL ndAt
  rw [List.getD_eq_getElem?_getD, List.getD_eq_getElem?_getD]
  congr 1
  by_cases h : i < xs.length - L
  · rw [List.getElem?_append_left (by rw [List.length_drop]; exact h), List.getElem?_drop, Nat.mod_eq_of_lt (by omega), Nat.add_comm]
  · rw [List.getElem?_append_right (by rw [List.length_drop]; omega), List.length_drop, List.getElem?_take, if_pos (by omega)]
    congr 1
    rw [Nat.mod_eq_sub_mod (by omega), Nat.mod_eq_of_lt (by omega)]
    omega
theorem rev_at {xs : List Nd} {k : Nat} (hk : k < xs.length) : ndAt xs.reverse k = ndAt xs (xs.length - 1 - k) := by
  unfold ndAt
  rw [List.getD_eq_getElem?_getD, List.getD_eq_getElem?_getD, List.getElem?_reverse hk]
def turnB (back : Bool) (xs : List Nd) : List Nd := if back = true then xs.reverse else xs
end Go.Proofs.YtedfgikikjggaaaDoor
