/- FourForms: the plain mathematics. -/
import Derived.Test.YtbjpmpijlddcpaaDoorLaw8a
import Derived.Test.YtbjpmpijlddcpaaDoorLow
set_option linter.unusedVariables false
set_option linter.unusedSimpArgs false
namespace Go.Proofs.YtbjpmpijlddcpaaDoor
open Go.RowKit

/-- A number's text, by how it is told. -/
def formT (h x : Nat) : List UInt8 := if h = 0 then digB 10 x else if h = 1 then 48 :: digB 8 x else if h = 2 then 48 :: 120 :: digB 16 x else 48 :: 88 :: 48 :: 48 :: 48 :: digB 16 x
theorem numT_form (h x : Nat) (hx : x < 4294967296) : NumT (formT h x) x := by
  have e : min (x : Int) 4294967296 = x := by omega
  unfold formT
  split
  · have := numT_dec x (by omega); rwa [e] at this
  · split
    · have := numT_oct x (by omega); rwa [e] at this
    · split
      · have := numT_hex 120 [] (.inl rfl) (.inl rfl) x (by omega); rwa [e] at this
      · have := numT_hex 88 [48, 48, 48] (.inr rfl) (.inr rfl) x (by omega); rwa [e] at this
/-- The i-th number of k. -/
def xi (n k i : Nat) : Nat := if i + 1 = k then n % 2 ^ (8 * (4 - i)) else n / 2 ^ (8 * (3 - i)) % 256
def FormsAt (n k i : Nat) (s : List UInt8) : Prop := ∃ ps : List (List UInt8), ps.length = i ∧ s = joinD ps ∧ ∀ j, j < i → NumT (ps.getD j []) (xi n k j)
theorem forms_start (n k : Nat) : FormsAt n k 0 [] := ⟨[], rfl, rfl, fun j h => by omega⟩
theorem forms_step {n k i : Nat} {s t : List UInt8} (h : FormsAt n k i s) (ht : NumT t (xi n k i)) : FormsAt n k (i + 1) (if i = 0 then t else s ++ 46 :: t) := by
  obtain ⟨ps, h1, h2, h3⟩ := h
  refine ⟨ps ++ [t], by simp [h1], ?_, fun j hj => ?_⟩
  · by_cases hi : i = 0
    · rw [if_pos hi]
      have : ps = [] := List.eq_nil_of_length_eq_zero (by omega)
      subst this; rfl
    · rw [if_neg hi, joinD_snoc ps t (by intro e; subst e; simp at h1; omega), ← h2]
  · by_cases hj2 : j < i
    · have e : (ps ++ [t]).getD j [] = ps.getD j [] := by
        rw [List.getD_eq_getElem?_getD, List.getD_eq_getElem?_getD, List.getElem?_append_left (by omega)]
      rw [e]; exact h3 j hj2
    · obtain rfl : j = i := by omega
      have e : (ps ++ [t]).getD j [] = t := by
        rw [List.getD_eq_getElem?_getD, List.getElem?_append_right (by omega), h1, Nat.sub_self]; rfl
      rw [e]; exact ht
theorem joinD_len : ∀ (ps : List (List UInt8)), (∀ p ∈ ps, p.length ≤ 60) → (joinD ps).length ≤ 61 * ps.length := by
  intro ps
  induction ps with
  | nil => intro _; simp [joinD]
  | cons p ps ih =>
    intro h
    have hp := h p List.mem_cons_self
    by_cases he : ps = []
    · subst he; simp [joinD]; omega
    · have := ih (fun q hq => h q (List.mem_cons_of_mem _ hq))
      rw [joinD_cons p he]; simp; omega
theorem forms_len {n k i : Nat} {s : List UInt8} (h : FormsAt n k i s) : s.length ≤ 61 * i := by
  obtain ⟨ps, h1, h2, h3⟩ := h
  rw [h2, ← h1]
  refine joinD_len ps fun p hp => ?_
  obtain ⟨j, hj, rfl⟩ := List.getElem_of_mem hp
  have := (h3 j (by omega)).m
  rwa [List.getD_eq_getElem?_getD, List.getElem?_eq_getElem hj] at this
theorem forms_nil {n k : Nat} {s : List UInt8} (h : FormsAt n k 0 s) : s = [] := by
  obtain ⟨ps, h1, h2, h3⟩ := h
  have : ps = [] := List.eq_nil_of_length_eq_zero h1
  subst this; exact h2
theorem forms_end {n k : Nat} {s : List UInt8} (h : FormsAt n k k s) (h1 : 1 ≤ k) (h4 : k ≤ 4) (hn : n < 4294967296) (dot : Bool) :
    parseL (splitB 46 (trimL (s ++ if dot then [46] else []))) 4 0 = ((n : Int), true) ∧ endsB (lastP (s ++ if dot then [46] else [])) = true := by
  obtain ⟨ps, e1, e2, e3⟩ := h
  have hex : ∃ qs p, ps = qs ++ [p] := by
    have hne : ps ≠ [] := by intro e; subst e; simp at e1; omega
    exact ⟨ps.dropLast, ps.getLast hne, (List.dropLast_concat_getLast hne).symm⟩
  obtain ⟨qs, p, hq⟩ := hex
  have hall : ∀ r ∈ ps, ∃ j, j < k ∧ NumT r (xi n k j) := by
    intro r hr
    obtain ⟨j, hj, rfl⟩ := List.getElem_of_mem hr
    have := e3 j (by omega)
    rw [List.getD_eq_getElem?_getD, List.getElem?_eq_getElem hj] at this
    exact ⟨j, by omega, this⟩
  have hs : splitB 46 (trimL (s ++ if dot then [46] else [])) = ps := by
    rw [e2, hq]
    obtain ⟨j, _, hj⟩ := hall p (by rw [hq]; simp)
    refine parts_of qs p dot (fun r hr => ?_) hj.l
    obtain ⟨j2, _, hj2⟩ := hall r (by rw [hq]; exact hr)
    exact hj2.d
  constructor
  · rw [hs]
    rcases (by omega : k = 1 ∨ k = 2 ∨ k = 3 ∨ k = 4) with rfl | rfl | rfl | rfl
    · match ps, e1 with
      | [a0], _ =>
        have a := e3 0 (by omega)
        have a : NumT a0 (xi n 1 0) := a
        rw [parse_end a.o, a.v]
        have : ((xi n 1 0 : Nat) : Int) = n := by unfold xi; simp; omega
        rw [this, if_neg (by simp; omega)]; simp
    · match ps, e1 with
      | [a0, a1], _ =>
        have a : NumT a0 (xi n 2 0) := e3 0 (by omega)
        have b : NumT a1 (xi n 2 1) := e3 1 (by omega)
        have q0 : ((xi n 2 0 : Nat) : Int) = n / 16777216 := by unfold xi; simp; omega
        have q1 : ((xi n 2 1 : Nat) : Int) = n % 16777216 := by unfold xi; simp
        rw [parse_on a.o (by simp), a.v, q0, if_neg (by omega), parse_end b.o, b.v, q1, if_neg (by simp; omega)]
        congr 1; simp; omega
    · match ps, e1 with
      | [a0, a1, a2], _ =>
        have a : NumT a0 (xi n 3 0) := e3 0 (by omega)
        have b : NumT a1 (xi n 3 1) := e3 1 (by omega)
        have c : NumT a2 (xi n 3 2) := e3 2 (by omega)
        have q0 : ((xi n 3 0 : Nat) : Int) = n / 16777216 := by unfold xi; simp; omega
        have q1 : ((xi n 3 1 : Nat) : Int) = n / 65536 % 256 := by unfold xi; simp
        have q2 : ((xi n 3 2 : Nat) : Int) = n % 65536 := by unfold xi; simp
        rw [parse_on a.o (by simp), a.v, q0, if_neg (by omega), parse_on b.o (by simp), b.v, q1, if_neg (by omega), parse_end c.o, c.v, q2, if_neg (by simp; omega)]
        congr 1; simp; omega
    · match ps, e1 with
      | [a0, a1, a2, a3], _ =>
        have a : NumT a0 (xi n 4 0) := e3 0 (by omega)
        have b : NumT a1 (xi n 4 1) := e3 1 (by omega)
        have c : NumT a2 (xi n 4 2) := e3 2 (by omega)
        have d : NumT a3 (xi n 4 3) := e3 3 (by omega)
        have q0 : ((xi n 4 0 : Nat) : Int) = n / 16777216 := by unfold xi; simp; omega
        have q1 : ((xi n 4 1 : Nat) : Int) = n / 65536 % 256 := by unfold xi; simp
        have q2 : ((xi n 4 2 : Nat) : Int) = n / 256 % 256 := by unfold xi; simp
        have q3 : ((xi n 4 3 : Nat) : Int) = n % 256 := by unfold xi; simp
        rw [parse_on a.o (by simp), a.v, q0, if_neg (by omega), parse_on b.o (by simp), b.v, q1, if_neg (by omega), parse_on c.o (by simp), c.v, q2, if_neg (by omega), parse_end d.o, d.v, q3, if_neg (by simp; omega)]
        congr 1; simp; omega
  · unfold lastP
    rw [hs, hq]
    obtain ⟨j, _, hj⟩ := hall p (by rw [hq]; simp)
    simp [hj.e]
end Go.Proofs.YtbjpmpijlddcpaaDoor
