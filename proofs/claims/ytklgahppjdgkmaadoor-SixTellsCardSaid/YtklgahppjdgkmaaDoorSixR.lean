/- ip6: texts of pieces, and what is read of them. -/
import Derived.Test.YtklgahppjdgkmaaDoorSixM
set_option linter.unusedVariables false
set_option linter.unusedSimpArgs false
namespace Go.Proofs.YtklgahppjdgkmaaDoor
open Go.RowKit

/-- Hex digits alone. -/
def HexB (P : List UInt8) : Prop := ∀ b ∈ P, 0 ≤ hexN (b.toNat : Int)
/-- A piece. -/
structure Piece (P : List UInt8) : Prop where
  hex : HexB P
  lo : 1 ≤ P.length
  hi : P.length ≤ 4
/-- What comes behind a piece is no digit. -/
def Off (r : List UInt8) : Prop := r = [] ∨ hexN (byt r 0) < 0
theorem hexLen_piece : ∀ {P r : List UInt8}, HexB P → Off r → hexLen (P ++ r) = P.length
  | [], r, _, ho => by
    rcases ho with rfl | ho
    · rfl
    · cases r with
      | nil => rfl
      | cons b t => rw [byt0] at ho; rw [List.nil_append, hexLen, if_neg (by omega)]; rfl
  | b :: P, r, hp, ho => by
    rw [List.cons_append, hexLen, if_pos (hp b (List.mem_cons_self ..)), hexLen_piece (fun c hc => hp c (List.mem_cons_of_mem _ hc)) ho, List.length_cons]
theorem byt_l {a b : List UInt8} {i : Nat} (h : i < a.length) : byt (a ++ b) i = byt a i := by
  unfold byt; rw [List.getD_eq_getElem?_getD, List.getD_eq_getElem?_getD, List.getElem?_append_left h]
theorem byt_r (a b : List UInt8) (i : Nat) : byt (a ++ b) (a.length + i) = byt b i := by
  unfold byt; rw [List.getD_eq_getElem?_getD, List.getD_eq_getElem?_getD, List.getElem?_append_right (by omega)]; congr 4; omega
theorem piece_first {P r : List UInt8} (hp : Piece P) : 0 ≤ hexN (byt (P ++ r) 0) := by
  have h := hp.lo
  match P, hp, h with
  | b :: t, hp, _ => exact hp.hex b (List.mem_cons_self ..)
theorem hex58 : hexN 58 = -1 := by decide
theorem hex46 : hexN 46 = -1 := by decide
section
variable {l A P Q : List UInt8} {acc : List Int} {gap : Int}
/-- A piece, and what may come behind it. -/
theorem six_at (hl : l = A ++ (P ++ Q)) (hp : HexB P) (ho : Off Q) (hc : acc.length ≤ 8) :
    A.length + hexLen (l.drop A.length) = A.length + P.length ∧ (l.take (A.length + P.length)).drop A.length = P ∧ (∀ i, byt l (A.length + P.length + i) = byt Q i) ∧ l.length = A.length + P.length + Q.length := by
  subst hl
  refine ⟨by rw [List.drop_left, hexLen_piece hp ho], ?_, fun i => ?_, by simp; omega⟩
  · rw [List.take_append, List.take_of_length_le (by omega), Nat.add_sub_cancel_left, List.drop_left, List.take_left]
  · rw [Nat.add_assoc, byt_r, byt_r]
theorem six_on (hl : l = A ++ (P ++ 58 :: Q)) (hp : Piece P) (hq : Q ≠ []) (hq2 : byt Q 0 ≠ 58) (hc : acc.length < 8) :
    six1 l (9 - acc.length) acc gap A.length = six1 l (9 - (acc ++ [hexW P]).length) (acc ++ [hexW P]) gap (A ++ (P ++ [58])).length := by
  obtain ⟨h1, h2, h3, h4⟩ := six_at (acc := acc) hl hp.hex (.inr (by rw [byt0]; decide)) (by omega)
  have hb : byt l (A.length + P.length) = 58 := by have := h3 0; rw [byt0] at this; exact this
  have hb1 : byt l (A.length + P.length + 1) = byt Q 0 := by have := h3 1; rw [bytS] at this; exact this
  have := hp.lo
  have := hp.hi
  have hql : 1 ≤ Q.length := List.length_pos_iff.2 hq
  rw [List.length_cons] at h4
  rw [six1_step l acc gap A.length (A.length + P.length) (by omega) h1, if_neg (by rw [hb]; omega), if_neg (by omega), if_neg (by omega), if_neg (by rw [hb]; omega), if_pos (by rw [hb1]; exact hq2), h2]
  rw [List.length_append, List.length_append, List.length_append, List.length_singleton, List.length_singleton, Nat.add_assoc A.length]
/-- A gap behind a piece. -/
theorem six_gap (hl : l = A ++ (P ++ 58 :: 58 :: Q)) (hp : Piece P) (hc : acc.length < 8) (hg : gap < 0) :
    six1 l (9 - acc.length) acc gap A.length = if Q = [] then fin6 (acc ++ [hexW P]) (acc.length + 1 : Nat) else six1 l (9 - (acc ++ [hexW P]).length) (acc ++ [hexW P]) (acc.length + 1 : Nat) (A ++ (P ++ [58, 58])).length := by
  obtain ⟨h1, h2, h3, h4⟩ := six_at (acc := acc) hl hp.hex (.inr (by rw [byt0]; decide)) (by omega)
  have hb : byt l (A.length + P.length) = 58 := by have := h3 0; rw [byt0] at this; exact this
  have hb1 : byt l (A.length + P.length + 1) = 58 := by have := h3 1; rw [bytS, byt0] at this; exact this
  have := hp.lo
  have := hp.hi
  rw [List.length_cons, List.length_cons] at h4
  rw [six1_step l acc gap A.length (A.length + P.length) (by omega) h1, if_neg (by rw [hb]; omega), if_neg (by omega), if_neg (by omega), if_neg (by rw [hb]; omega), if_neg (by rw [hb1]; omega), if_neg (by omega), h2]
  by_cases hq : Q = []
  · rw [if_pos hq, if_neg (by rw [hq] at h4; simp at h4; omega)]
  · have hql : 1 ≤ Q.length := List.length_pos_iff.2 hq
    rw [if_neg hq, if_pos (by omega)]
    rw [List.length_append, List.length_append, List.length_append, List.length_singleton, Nat.add_assoc A.length]
    simp [Nat.add_assoc]
/-- The last piece. -/
theorem six_end (hl : l = A ++ P) (hp : Piece P) (hc : acc.length < 8) : six1 l (9 - acc.length) acc gap A.length = fin6 (acc ++ [hexW P]) gap := by
  obtain ⟨h1, h2, h3, h4⟩ := six_at (l := l) (A := A) (P := P) (acc := acc) (Q := []) (by rw [hl, List.append_nil]) hp.hex (.inl rfl) (by omega)
  have := hp.lo
  have := hp.hi
  simp at h4
  rw [six1_step l acc gap A.length (A.length + P.length) (by omega) h1, if_neg (by omega), if_neg (by omega), if_pos (by omega), h2]
/-- A : at the end. -/
theorem six_colon (hl : l = A ++ (P ++ [58])) (hp : Piece P) (hc : acc.length < 8) : six1 l (9 - acc.length) acc gap A.length = wrong6 := by
  obtain ⟨h1, h2, h3, h4⟩ := six_at (acc := acc) hl hp.hex (.inr (by rw [byt0]; decide)) (by omega)
  have hb : byt l (A.length + P.length) = 58 := by have := h3 0; rw [byt0] at this; exact this
  have := hp.lo
  have := hp.hi
  simp at h4
  rw [six1_step l acc gap A.length (A.length + P.length) (by omega) h1, if_neg (by rw [hb]; omega), if_neg (by omega), if_neg (by omega), if_pos (.inr (by omega))]
/-- A ninth piece. -/
theorem six_nine (hl : l = A ++ P) (hp : Piece P) (hc : acc.length = 8) : six1 l (9 - acc.length) acc gap A.length = wrong6 := by
  obtain ⟨h1, h2, h3, h4⟩ := six_at (l := l) (A := A) (P := P) (acc := acc) (Q := []) (by rw [hl, List.append_nil]) hp.hex (.inl rfl) (by omega)
  simp at h4
  rw [six1_step l acc gap A.length (A.length + P.length) (by omega) h1, if_neg (by omega), if_pos (.inl hc)]
/-- Pieces, each with : behind. -/
def colons (ps : List (List UInt8)) : List UInt8 := ps.flatMap fun p => p ++ [58]
theorem colons_cons (p : List UInt8) (ps : List (List UInt8)) : colons (p :: ps) = p ++ [58] ++ colons ps := rfl
end
theorem six_run : ∀ (ps : List (List UInt8)) (l A Q : List UInt8) (acc : List Int) (gap : Int), l = A ++ (colons ps ++ Q) → (∀ p ∈ ps, Piece p) → Q ≠ [] → byt Q 0 ≠ 58 → acc.length + ps.length ≤ 8 →
    six1 l (9 - acc.length) acc gap A.length = six1 l (9 - (acc ++ ps.map hexW).length) (acc ++ ps.map hexW) gap (A ++ colons ps).length
  | [], l, A, Q, acc, gap, hl, hp, hq, hq2, hc => by simp [colons]
  | p :: ps, l, A, Q, acc, gap, hl, hp, hq, hq2, hc => by
    have hpp := hp p (List.mem_cons_self ..)
    have hps : ∀ q ∈ ps, Piece q := fun q hq => hp q (List.mem_cons_of_mem _ hq)
    rw [List.length_cons] at hc
    have e1 : l = A ++ (p ++ 58 :: (colons ps ++ Q)) := by rw [hl, colons_cons]; simp
    have e2 : colons ps ++ Q ≠ [] := by intro h; exact hq (List.append_eq_nil_iff.1 h).2
    have e3 : byt (colons ps ++ Q) 0 ≠ 58 := by
      cases ps with
      | nil => exact hq2
      | cons r rs =>
        have := piece_first (r := [58] ++ colons rs ++ Q) (hps r (List.mem_cons_self ..))
        rw [colons_cons]
        intro h
        rw [show r ++ [58] ++ colons rs ++ Q = r ++ ([58] ++ colons rs ++ Q) by simp, ] at h
        rw [h] at this
        exact absurd this (by decide)
    rw [six_on e1 hpp e2 e3 (by omega)]
    rw [six_run ps l (A ++ (p ++ [58])) Q (acc ++ [hexW p]) gap (by rw [hl, colons_cons]; simp) hps hq hq2 (by simp; omega)]
    rw [colons_cons]
    simp
theorem prefix_no {l : List UInt8} (h : byt l 0 ≠ 58 ∨ byt l 1 ≠ 58) : ¬ Lib.hasPrefix l [58, 58] = true := by
  intro hp
  unfold Lib.hasPrefix at hp
  match l, h, hp with
  | [], h, hp => cases hp
  | [a], h, hp => simp [List.isPrefixOf] at hp
  | a :: b :: t, h, hp =>
    simp only [List.isPrefixOf, Bool.and_eq_true, beq_iff_eq] at hp
    obtain ⟨rfl, rfl, -⟩ := hp
    rcases h with h | h <;> exact h rfl
/-- Eight pieces. -/
theorem six_eight (ps : List (List UInt8)) (p : List UInt8) (hp : ∀ q ∈ ps, Piece q) (hq : Piece p) (hn : ps.length = 7) : six (colons ps ++ p) = (ps.map hexW ++ [hexW p], true) := by
  have hf : byt (colons ps ++ p) 0 ≠ 58 := by
    match ps, hp, hn with
    | r :: rs, hp, _ =>
      have := piece_first (r := [58] ++ colons rs ++ p) (hp r (List.mem_cons_self ..))
      rw [colons_cons]
      intro h
      rw [show r ++ [58] ++ colons rs ++ p = r ++ ([58] ++ colons rs ++ p) by simp] at h
      rw [h] at this
      exact absurd this (by decide)
  have hpn : p ≠ [] := by intro h; have := hq.lo; rw [h] at this; simp at this
  have hp0 : byt p 0 ≠ 58 := by
    intro h
    have := piece_first (r := []) hq
    rw [List.append_nil, h] at this
    exact absurd this (by decide)
  unfold six
  rw [if_neg (prefix_no (.inl hf))]
  have := six_run ps (colons ps ++ p) [] p [] (-1) rfl hp hpn hp0 (by simp; omega)
  rw [show (9 : Nat) - ([] : List Int).length = 9 from rfl, show ([] : List UInt8).length = 0 from rfl] at this
  rw [this, List.nil_append, List.nil_append, six_end rfl hq (by simp; omega)]
  unfold fin6
  rw [if_pos ⟨by decide, by simp; omega⟩]
theorem six_seven (ps : List (List UInt8)) (p : List UInt8) (hp : ∀ q ∈ ps, Piece q) (hq : Piece p) (hn : ps.length = 6) : six (colons ps ++ p) = wrong6 := by
  have hf : byt (colons ps ++ p) 0 ≠ 58 := by
    match ps, hp, hn with
    | r :: rs, hp, _ =>
      have := piece_first (r := [58] ++ colons rs ++ p) (hp r (List.mem_cons_self ..))
      rw [colons_cons]
      intro h
      rw [show r ++ [58] ++ colons rs ++ p = r ++ ([58] ++ colons rs ++ p) by simp] at h
      rw [h] at this
      exact absurd this (by decide)
  have hpn : p ≠ [] := by intro h; have := hq.lo; rw [h] at this; simp at this
  have hp0 : byt p 0 ≠ 58 := by
    intro h
    have := piece_first (r := []) hq
    rw [List.append_nil, h] at this
    exact absurd this (by decide)
  unfold six
  rw [if_neg (prefix_no (.inl hf))]
  have := six_run ps (colons ps ++ p) [] p [] (-1) rfl hp hpn hp0 (by simp; omega)
  rw [show (9 : Nat) - ([] : List Int).length = 9 from rfl, show ([] : List UInt8).length = 0 from rfl] at this
  rw [this, List.nil_append, List.nil_append, six_end rfl hq (by simp; omega)]
  unfold fin6
  rw [if_neg (by simp; omega), if_neg (by omega)]
/-- Nine pieces. -/
theorem six_ninth (ps : List (List UInt8)) (p : List UInt8) (hp : ∀ q ∈ ps, Piece q) (hq : Piece p) (hn : ps.length = 8) : six (colons ps ++ p) = wrong6 := by
  have hf : byt (colons ps ++ p) 0 ≠ 58 := by
    match ps, hp, hn with
    | r :: rs, hp, _ =>
      have := piece_first (r := [58] ++ colons rs ++ p) (hp r (List.mem_cons_self ..))
      rw [colons_cons]
      intro h
      rw [show r ++ [58] ++ colons rs ++ p = r ++ ([58] ++ colons rs ++ p) by simp] at h
      rw [h] at this
      exact absurd this (by decide)
  have hpn : p ≠ [] := by intro h; have := hq.lo; rw [h] at this; simp at this
  have hp0 : byt p 0 ≠ 58 := by
    intro h
    have := piece_first (r := []) hq
    rw [List.append_nil, h] at this
    exact absurd this (by decide)
  unfold six
  rw [if_neg (prefix_no (.inl hf))]
  have := six_run ps (colons ps ++ p) [] p [] (-1) rfl hp hpn hp0 (by simp; omega)
  rw [show (9 : Nat) - ([] : List Int).length = 9 from rfl, show ([] : List UInt8).length = 0 from rfl] at this
  rw [this, List.nil_append, List.nil_append, six_nine rfl hq (by simp; omega)]
/-- Eight pieces, and a : . -/
theorem six_behind (ps : List (List UInt8)) (p : List UInt8) (hp : ∀ q ∈ ps, Piece q) (hq : Piece p) (hn : ps.length = 7) : six (colons ps ++ (p ++ [58])) = wrong6 := by
  have hf : byt (colons ps ++ (p ++ [58])) 0 ≠ 58 := by
    match ps, hp, hn with
    | r :: rs, hp, _ =>
      have := piece_first (r := [58] ++ colons rs ++ (p ++ [58])) (hp r (List.mem_cons_self ..))
      rw [colons_cons]
      intro h
      rw [show r ++ [58] ++ colons rs ++ (p ++ [58]) = r ++ ([58] ++ colons rs ++ (p ++ [58])) by simp] at h
      rw [h] at this
      exact absurd this (by decide)
  have hp0 : byt (p ++ [58]) 0 ≠ 58 := by
    intro h
    have := piece_first (r := [58]) hq
    rw [h] at this
    exact absurd this (by decide)
  unfold six
  rw [if_neg (prefix_no (.inl hf))]
  have := six_run ps (colons ps ++ (p ++ [58])) [] (p ++ [58]) [] (-1) rfl hp (by simp) hp0 (by simp; omega)
  rw [show (9 : Nat) - ([] : List Int).length = 9 from rfl, show ([] : List UInt8).length = 0 from rfl] at this
  rw [this, List.nil_append, List.nil_append, six_colon rfl hq (by simp; omega)]
/-- A : ahead of a piece. -/
theorem six_ahead (Q : List UInt8) (h : byt Q 0 ≠ 58) : six (58 :: Q) = wrong6 := by
  unfold six
  rw [if_neg (prefix_no (.inr (by rw [bytS]; exact h)))]
  have h0 : 0 + hexLen ((58 :: Q).drop 0) = 0 := by rw [List.drop_zero, hexLen, if_neg (by decide)]
  have := six1_step (58 :: Q) [] (-1) 0 0 (by decide) h0
  rw [show (9 : Nat) - ([] : List Int).length = 9 from rfl] at this
  rw [this, if_neg (by rw [byt0]; intro h; exact absurd h.2 (by decide)), if_pos (.inr (.inl rfl))]
end Go.Proofs.YtklgahppjdgkmaaDoor
