/- A text in parts, by a sign. No program. -/
import Derived.Test.YtcdkojdjcifkpaaDoorPure
set_option linter.unusedVariables false
set_option linter.unusedSimpArgs false
namespace Go.Proofs.YtcdkojdjcifkpaaDoor

def splitB (c : Int) : List UInt8 → List (List UInt8)
  | [] => [[]]
  | b :: t => if (b.toNat : Int) = c then [] :: splitB c t else match splitB c t with
    | p :: ps => (b :: p) :: ps
    | [] => [[b]]
theorem splitB_ne (c : Int) (l : List UInt8) : splitB c l ≠ [] := by
  cases l with
  | nil => simp [splitB]
  | cons b t =>
    unfold splitB
    split
    · simp
    · split <;> simp
theorem byt0 (b : UInt8) (t : List UInt8) : byt (b :: t) 0 = (b.toNat : Int) := rfl
theorem bytS (b : UInt8) (t : List UInt8) (i : Nat) : byt (b :: t) (i + 1) = byt t i := by unfold byt; simp [List.getD]
theorem splitB_hit (c : Int) : ∀ (n : Nat) (l : List UInt8), n < l.length → (∀ q, q < n → byt l q ≠ c) → byt l n = c → splitB c l = l.take n :: splitB c (l.drop (n + 1)) := by
  intro n
  induction n with
  | zero =>
    intro l hl _ h
    match l, hl with
    | b :: t, _ =>
      rw [byt0] at h
      conv => lhs; unfold splitB
      rw [if_pos h]; rfl
  | succ n ih =>
    intro l hl hn h
    match l, hl with
    | b :: t, hl =>
      have h0 := hn 0 (by omega)
      rw [byt0] at h0
      rw [bytS] at h
      have := ih t (by simpa using hl) (fun q hq => by have := hn (q + 1) (by omega); rwa [bytS] at this) h
      conv => lhs; unfold splitB
      rw [if_neg h0, this]; rfl
theorem splitB_end (c : Int) : ∀ (l : List UInt8), (∀ q, q < l.length → byt l q ≠ c) → splitB c l = [l] := by
  intro l
  induction l with
  | nil => intro _; rfl
  | cons b t ih =>
    intro h
    have h0 := h 0 (by simp)
    rw [byt0] at h0
    have := ih fun q hq => by have := h (q + 1) (by simp; omega); rwa [bytS] at this
    conv => lhs; unfold splitB
    rw [if_neg h0, this]
theorem splitB_snoc (c : Int) (b : UInt8) (hb : (b.toNat : Int) = c) : ∀ (l : List UInt8), splitB c (l ++ [b]) = splitB c l ++ [[]] := by
  intro l
  induction l with
  | nil => show splitB c [b] = _; unfold splitB; rw [if_pos hb]; rfl
  | cons x t ih =>
    show splitB c (x :: (t ++ [b])) = _
    unfold splitB
    rw [ih]
    split
    · rfl
    · have hne := splitB_ne c t
      match splitB c t, hne with
      | p :: ps, _ => rfl
theorem splitB_len (c : Int) (l : List UInt8) : (splitB c l).length ≤ l.length + 1 ∧ 1 ≤ (splitB c l).length := by
  induction l with
  | nil => simp [splitB]
  | cons b t ih =>
    unfold splitB
    split
    · simp; omega
    · have hne := splitB_ne c t
      match h : splitB c t, hne with
      | p :: ps, _ => rw [h] at ih; simp at ih ⊢; omega
theorem splitB_mem (c : Int) : ∀ (l p : List UInt8), p ∈ splitB c l → p.length ≤ l.length := by
  intro l
  induction l with
  | nil => intro p hp; simp [splitB] at hp; simp [hp]
  | cons b t ih =>
    intro p hp
    unfold splitB at hp
    split at hp
    · rcases List.mem_cons.1 hp with rfl | hp
      · simp
      · have := ih p hp; simp; omega
    · have hne := splitB_ne c t
      match h : splitB c t, hne with
      | q :: qs, _ =>
        rw [h] at hp ih
        rcases List.mem_cons.1 hp with rfl | hp
        · have := ih q List.mem_cons_self; simp; omega
        · have := ih p (List.mem_cons_of_mem _ hp); simp; omega
/-- The last part is empty just if the text is, or ends with the sign. -/
theorem splitB_last (c : Int) : ∀ (l : List UInt8), (splitB c l).getLast (splitB_ne c l) = [] ↔ l = [] ∨ byt l (l.length - 1) = c ∧ l ≠ [] := by
  intro l
  induction l with
  | nil => simp [splitB]
  | cons b t ih =>
    by_cases hb : (b.toNat : Int) = c
    · have e : splitB c (b :: t) = [] :: splitB c t := by conv => lhs; unfold splitB; rw [if_pos hb]
      have : (splitB c (b :: t)).getLast (splitB_ne c (b :: t)) = (splitB c t).getLast (splitB_ne c t) := by
        simp only [e]; exact List.getLast_cons _
      rw [this, ih]
      cases t with
      | nil => simp [byt, hb]
      | cons y u =>
        simp only [List.length_cons, Nat.add_sub_cancel]
        rw [bytS]; simp
    · have hne := splitB_ne c t
      match h : splitB c t, hne with
      | q :: qs, _ =>
        have e : splitB c (b :: t) = (b :: q) :: qs := by conv => lhs; unfold splitB; rw [if_neg hb, h]
        cases qs with
        | nil =>
          have e1 : (splitB c (b :: t)).getLast (splitB_ne c (b :: t)) = b :: q := by simp only [e]; rfl
          have e2 : (splitB c t).getLast (splitB_ne c t) = q := by simp only [h]; rfl
          rw [e1]
          rw [e2] at ih
          constructor
          · intro h; cases h
          · rintro (h2 | ⟨h2, _⟩)
            · cases h2
            · cases t with
              | nil => simp [byt] at h2; exact absurd h2 hb
              | cons y u =>
                simp only [List.length_cons, Nat.add_sub_cancel] at h2 ih
                rw [bytS] at h2
                have hq : q = [] := ih.2 (.inr ⟨h2, by simp⟩)
                exfalso
                subst hq
                unfold splitB at h
                split at h
                · injection h with _ h3; exact splitB_ne c u h3
                · split at h <;> simp at h
        | cons r rs =>
          have e1 : (splitB c (b :: t)).getLast (splitB_ne c (b :: t)) = (splitB c t).getLast (splitB_ne c t) := by
            simp only [e, h, List.getLast_cons_cons]
          rw [e1, ih]
          cases t with
          | nil => simp [splitB] at h
          | cons y u =>
            simp only [List.length_cons, Nat.add_sub_cancel]
            rw [bytS]; simp
end Go.Proofs.YtcdkojdjcifkpaaDoor
