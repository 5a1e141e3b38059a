/- awake of layer 15. -/
import Derived.Test.YtedfgikikjggaaaDoorTreeN
import Derived.Test.YtedfgikikjggaaaDoorMb1
set_option linter.unusedVariables false
set_option linter.unusedSimpArgs false
namespace Go.Proofs.YtedfgikikjggaaaDoor
open Go.RowKit

theorem litN (W : World) (b : Nat) (ns : List Nd) (n : Nat) (e : TypeId) (m : Nat × Nat) (hb : W.heap[b]? = some (.cells (ns.flatMap ndC).toArray e m)) (hn : ns.length = n) (h4 : n ≤ 1000) : IsNds W (.slice (some ⟨b, 0, none⟩) n n) ns := by
  subst hn
  refine ⟨_, _, rfl, Nat.le_refl _, by unfold maxLen; omega, (fun h => by cases h), fun h0 => ⟨b, 0, rfl, fun i hi => ?_⟩⟩
  obtain ⟨f0, f1, f2⟩ := ndsflat_at ns i hi
  have c : ∀ k u, (ns.flatMap ndC)[k]? = some u → W.cell? ⟨b, k, none⟩ = some u := fun k u hk => by
    rw [cell_of_row W b k _ _ _ hb]; simpa using hk
  rw [Nat.zero_add]
  exact ⟨c _ _ f0, c _ _ f1, c _ _ f2⟩
theorem MaxAt.drew {w : World} (h : MaxAt w) (n : Nat) : MaxAt (w.drewN n) := h
def nsA : List Nd := [⟨[47, 97], 2, []⟩, ⟨[47, 97, 47, 98], 1, [120]⟩]
def nsB : List Nd := [⟨[47, 97, 47, 98], 1, []⟩]
def allA : List Nd := [rootN, ⟨[47, 97], 2, []⟩, ⟨[47, 97, 47, 98], 1, [120]⟩]
theorem wholeA : Whole nsA allA := by
  refine ⟨?_, fun n => ?_⟩
  · unfold Rising; decide +kernel
  · unfold allA nsA
    simp only [List.mem_cons, List.not_mem_nil, or_false]
    constructor
    · rintro (h | h | h)
      · exact .inr h
      · exact .inl (.inl h)
      · exact .inl (.inr h)
    · rintro ((h | h) | h)
      · exact .inr (.inl h)
      · exact .inr (.inr h)
      · exact .inl h
theorem goodA : Good nsA := by
  refine ⟨fun n hn => ?_, by decide +kernel, fun n hn hp => ?_⟩
  · unfold nsA at hn
    simp only [List.mem_cons, List.not_mem_nil, or_false] at hn
    rcases hn with rfl | rfl <;> decide +kernel
  · unfold nsA at hn
    simp only [List.mem_cons, List.not_mem_nil, or_false] at hn
    rcases hn with rfl | rfl
    · exact ⟨rootN, .inr rfl, by decide +kernel, rfl⟩
    · exact ⟨⟨[47, 97], 2, []⟩, .inl (by unfold nsA; simp), by decide +kernel, rfl⟩
theorem not_goodB : ¬ Good nsB := fun h => by
  obtain ⟨m, hm, h1, h2⟩ := h.2.2 ⟨[47, 97, 47, 98], 1, []⟩ (by unfold nsB; simp) (by decide)
  have e : partF [47, 97, 47, 98] = [47, 97] := by decide +kernel
  rw [show partF (⟨[47, 97, 47, 98], 1, []⟩ : Nd).p = [47, 97] from e] at h1
  rcases hm with hm | hm
  · unfold nsB at hm
    simp only [List.mem_cons, List.not_mem_nil, or_false] at hm
    rw [hm] at h1; exact absurd h1 (by decide)
  · rw [hm] at h1; exact absurd h1 (by decide)
end Go.Proofs.YtedfgikikjggaaaDoor
