/- ip6: texts with a gap, and with four numbers behind; what is read of them. -/
import Derived.Test.YtklgahppjdgkmaaDoorSixR
import Derived.Test.YtklgahppjdgkmaaDoorShowP
set_option linter.unusedVariables false
set_option linter.unusedSimpArgs false
namespace Go.Proofs.YtklgahppjdgkmaaDoor
open Go.RowKit

/-- Pieces with : between. -/
def jn : List (List UInt8) → List UInt8
  | [] => []
  | p :: ps => if ps = [] then p else p ++ 58 :: jn ps
theorem jn_snoc : ∀ (ps : List (List UInt8)) (p : List UInt8), jn (ps ++ [p]) = colons ps ++ p
  | [], p => by simp [jn, colons]
  | q :: ps, p => by
    rw [List.cons_append, jn, if_neg (by simp), jn_snoc ps p, colons_cons]
    simp
theorem jn_step (ps : List (List UInt8)) (p : List UInt8) (h : ps ≠ []) : jn (ps ++ [p]) = jn ps ++ 58 :: p := by
  rcases List.eq_nil_or_concat ps with rfl | ⟨qs, q, rfl⟩
  · exact absurd rfl h
  · rw [List.concat_eq_append, jn_snoc, jn_snoc]
    unfold colons
    rw [List.flatMap_append]
    simp
/-- Four numbers with dots between are what they tell. -/
theorem dot_show (n : Nat) (hn : n < 4294967296) : dotO (showL n) = true ∧ dotV (showL n) = (n : Int) := by
  have h := show_reads n hn
  have hv : dotV (showL n) = (n : Int) := by unfold dotV; rw [h]
  refine ⟨?_, hv⟩
  unfold dotO
  rw [hv, h, Int.toNat_natCast]
  simp
/-- Its first number: digits, and a dot. -/
theorem show_first (n : Nat) : ∃ P Q, showL n = P ++ 46 :: Q ∧ HexB P ∧ 1 ≤ P.length := by
  refine ⟨digB 10 (q0 n), joinD [digB 10 (q1 n), digB 10 (q2 n), digB 10 (q3 n)], ?_, ?_, digB_len (b := 10) (.inr (.inl rfl)) _⟩
  · rw [show_join]
    show joinD (digB 10 (q0 n) :: [digB 10 (q1 n), digB 10 (q2 n), digB 10 (q3 n)]) = _
    rw [joinD_cons _ (by simp)]
  · intro b hb
    have ho := digB_only (b := 10) (.inr (.inl rfl)) (q0 n)
    obtain ⟨i, hi, rfl⟩ := List.getElem_of_mem hb
    have := (onlyB_at 10 _ ho i hi).1
    unfold byt at this
    rw [List.getD_eq_getElem?_getD, List.getElem?_eq_getElem hi] at this
    exact this
section
variable {l A : List UInt8} {acc : List Int} {gap : Int}
theorem six_dot (n : Nat) (hn : n < 4294967296) (hl : l = A ++ showL n) (hc : acc.length ≤ 6) : six1 l (9 - acc.length) acc gap A.length = fin6 (acc ++ [((n / 65536 : Nat) : Int)] ++ [((n % 65536 : Nat) : Int)]) gap := by
  obtain ⟨P, Q, hs, hp, hp1⟩ := show_first n
  obtain ⟨h1, h2, h3, h4⟩ := six_at (l := l) (A := A) (P := P) (Q := 46 :: Q) (acc := acc) (by rw [hl, hs]) hp (.inr (by rw [byt0]; decide)) (by omega)
  have hb : byt l (A.length + P.length) = 46 := by have := h3 0; rw [byt0] at this; exact this
  rw [List.length_cons] at h4
  obtain ⟨d1, d2⟩ := dot_show n hn
  rw [six1_step l acc gap A.length (A.length + P.length) (by omega) h1, if_pos ⟨by omega, hb⟩]
  unfold bytes6
  rw [show l.drop A.length = showL n by rw [hl, List.drop_left], d1, d2, if_neg (by intro h; rcases h with h | h; cases h; omega)]
  congr 1
end
theorem colons_ne {ps : List (List UInt8)} {Q : List UInt8} (hp : ∀ p ∈ ps, Piece p) (hq : byt Q 0 ≠ 58) : byt (colons ps ++ Q) 0 ≠ 58 := by
  cases ps with
  | nil => exact hq
  | cons r rs =>
    have := piece_first (r := [58] ++ colons rs ++ Q) (hp r (List.mem_cons_self ..))
    rw [colons_cons]
    intro h
    rw [show r ++ [58] ++ colons rs ++ Q = r ++ ([58] ++ colons rs ++ Q) by simp] at h
    rw [h] at this
    exact absurd this (by decide)
theorem piece_ne {p : List UInt8} (hp : Piece p) : p ≠ [] ∧ byt p 0 ≠ 58 := by
  refine ⟨fun h => by have := hp.lo; rw [h] at this; simp at this, fun h => ?_⟩
  have := piece_first (r := []) hp
  rw [List.append_nil, h] at this
  exact absurd this (by decide)
/-- Up to a gap. -/
theorem six_head (ps : List (List UInt8)) (R : List UInt8) (hp : ∀ p ∈ ps, Piece p) (hn : ps.length ≤ 7) :
    six (jn ps ++ 58 :: 58 :: R) = if R = [] then fin6 (ps.map hexW) ps.length else six1 (jn ps ++ 58 :: 58 :: R) (9 - (ps.map hexW).length) (ps.map hexW) ps.length (jn ps ++ [58, 58]).length := by
  rcases List.eq_nil_or_concat ps with rfl | ⟨qs, q, rfl⟩
  · unfold six
    rw [if_pos (by unfold Lib.hasPrefix; simp [jn, List.isPrefixOf])]
    by_cases hR : R = []
    · rw [if_pos hR, if_pos (by rw [hR]; rfl)]; rfl
    · have := List.length_pos_iff.2 hR
      rw [if_neg hR, if_neg (by show (R.length + 1 + 1) ≠ 2; omega)]; rfl
  · rw [List.concat_eq_append] at hp hn ⊢
    have hq := hp q (by simp)
    have hqs : ∀ p ∈ qs, Piece p := fun p h => hp p (by simp [h])
    rw [List.length_append, List.length_singleton] at hn
    rw [jn_snoc]
    have hq2 : byt (q ++ 58 :: 58 :: R) 0 ≠ 58 := by
      intro h
      have := piece_first (r := 58 :: 58 :: R) hq
      rw [h] at this
      exact absurd this (by decide)
    have e : colons qs ++ q ++ 58 :: 58 :: R = colons qs ++ (q ++ 58 :: 58 :: R) := by simp
    rw [e]
    unfold six
    rw [if_neg (prefix_no (.inl (colons_ne hqs hq2)))]
    have := six_run qs (colons qs ++ (q ++ 58 :: 58 :: R)) [] (q ++ 58 :: 58 :: R) [] (-1) rfl hqs (by simp) hq2 (by simp; omega)
    rw [show (9 : Nat) - ([] : List Int).length = 9 from rfl, show ([] : List UInt8).length = 0 from rfl] at this
    rw [this, List.nil_append, List.nil_append, six_gap rfl hq (by simp; omega) (by decide)]
    have e1 : List.map hexW (qs ++ [q]) = List.map hexW qs ++ [hexW q] := by simp
    have e2 : (List.map hexW qs).length + 1 = (qs ++ [q]).length := by simp
    rw [e1, e2]
    rw [show colons qs ++ (q ++ [58, 58]) = colons qs ++ q ++ [58, 58] by simp]
/-- Pieces up to the end. -/
theorem six_tail {l A : List UInt8} {acc : List Int} {gap : Int} (ps : List (List UInt8)) (hl : l = A ++ jn ps) (hne : ps ≠ []) (hp : ∀ p ∈ ps, Piece p) (hc : acc.length + ps.length ≤ 8) :
    six1 l (9 - acc.length) acc gap A.length = fin6 (acc ++ ps.map hexW) gap := by
  rcases List.eq_nil_or_concat ps with rfl | ⟨qs, q, rfl⟩
  · exact absurd rfl hne
  · rw [List.concat_eq_append] at hl hp hc ⊢
    rw [jn_snoc] at hl
    have hq := hp q (by simp)
    rw [List.length_append, List.length_singleton] at hc
    obtain ⟨n1, n2⟩ := piece_ne hq
    rw [six_run qs l A q acc gap hl (fun p h => hp p (by simp [h])) n1 n2 (by omega), six_end (by rw [hl]; simp) hq (by simp; omega)]
    simp
/-- Pieces up to four numbers. -/
theorem six_tailD {l A : List UInt8} {acc : List Int} {gap : Int} (ps : List (List UInt8)) (n : Nat) (hn : n < 4294967296) (hl : l = A ++ (colons ps ++ showL n)) (hp : ∀ p ∈ ps, Piece p) (hc : acc.length + ps.length ≤ 6) :
    six1 l (9 - acc.length) acc gap A.length = fin6 (acc ++ ps.map hexW ++ [((n / 65536 : Nat) : Int)] ++ [((n % 65536 : Nat) : Int)]) gap := by
  obtain ⟨P, Q, hs, hP, hp1⟩ := show_first n
  have n1 : showL n ≠ [] := by rw [hs]; simp
  have n2 : byt (showL n) 0 ≠ 58 := by
    intro h
    rw [hs] at h
    match P, hP, hp1, h with
    | b :: t, hP, _, h =>
      have := hP b (List.mem_cons_self ..)
      rw [List.cons_append, byt0] at h
      rw [h] at this
      exact absurd this (by decide)
  rw [six_run ps l A (showL n) acc gap hl hp n1 n2 (by omega), six_dot n hn (by rw [hl]; simp) (by simp; omega)]
/-- Six pieces and four numbers. -/
theorem six_full (ps : List (List UInt8)) (n : Nat) (hn : n < 4294967296) (hp : ∀ p ∈ ps, Piece p) (h6 : ps.length = 6) : six (colons ps ++ showL n) = (ps.map hexW ++ [((n / 65536 : Nat) : Int)] ++ [((n % 65536 : Nat) : Int)], true) := by
  have hf : byt (colons ps ++ showL n) 0 ≠ 58 := by
    match ps, hp, h6 with
    | r :: rs, hp, _ =>
      have := piece_first (r := [58] ++ colons rs ++ showL n) (hp r (List.mem_cons_self ..))
      rw [colons_cons]
      intro h
      rw [show r ++ [58] ++ colons rs ++ showL n = r ++ ([58] ++ colons rs ++ showL n) by simp] at h
      rw [h] at this
      exact absurd this (by decide)
  unfold six
  rw [if_neg (prefix_no (.inl hf))]
  have := six_tailD (l := colons ps ++ showL n) (A := []) (acc := []) (gap := -1) ps n hn rfl hp (by simp; omega)
  rw [show (9 : Nat) - ([] : List Int).length = 9 from rfl, show ([] : List UInt8).length = 0 from rfl] at this
  rw [this]
  unfold fin6
  rw [if_pos ⟨by decide, by simp; omega⟩]
  simp
/-- With a gap: what is read. -/
theorem fin_gap (xs ys : List Int) (h : xs.length + ys.length < 8) : fin6 (xs ++ ys) xs.length = (xs ++ List.replicate (8 - (xs.length + ys.length)) 0 ++ ys, true) := by
  unfold fin6
  rw [if_neg (by omega), if_pos ⟨by omega, by simp; omega⟩]
  congr 1
  unfold spreadM pad
  have e1 : (xs ++ ys ++ List.replicate (8 - (xs ++ ys).length) 0).take xs.length = xs := by rw [List.append_assoc, List.take_left]
  have e2 : (xs ++ ys ++ List.replicate (8 - (xs ++ ys).length) 0).take (xs ++ ys).length = xs ++ ys := List.take_left
  rw [Int.toNat_natCast, e1, e2, List.drop_left, List.length_append]
theorem gap_pieces (ps qs : List (List UInt8)) (hp : ∀ p ∈ ps, Piece p) (hq : ∀ p ∈ qs, Piece p) (hn : ps.length + qs.length ≤ 7) :
    six (jn ps ++ 58 :: 58 :: jn qs) = (ps.map hexW ++ List.replicate (8 - (ps.length + qs.length)) 0 ++ qs.map hexW, true) := by
  rw [six_head ps (jn qs) hp (by omega)]
  have hf := fin_gap (ps.map hexW) (qs.map hexW) (by simp; omega)
  rw [List.length_map, List.length_map] at hf
  by_cases h : qs = []
  · subst h
    rw [if_pos (show jn [] = [] from rfl), ← hf]
    simp
  · rw [if_neg, six_tail (A := jn ps ++ [58, 58]) qs (by simp) h hq (by simp; omega), hf]
    intro hj
    rcases List.eq_nil_or_concat qs with rfl | ⟨rs, r, rfl⟩
    · exact h rfl
    · rw [List.concat_eq_append, jn_snoc] at hj
      exact (piece_ne (hq r (by simp))).1 (List.append_eq_nil_iff.1 hj).2
theorem gap_dots (ps qs : List (List UInt8)) (n : Nat) (h32 : n < 4294967296) (hp : ∀ p ∈ ps, Piece p) (hq : ∀ p ∈ qs, Piece p) (hn : ps.length + qs.length ≤ 5) :
    six (jn ps ++ 58 :: 58 :: (colons qs ++ showL n)) = (ps.map hexW ++ List.replicate (6 - (ps.length + qs.length)) 0 ++ (qs.map hexW ++ [((n / 65536 : Nat) : Int)] ++ [((n % 65536 : Nat) : Int)]), true) := by
  rw [six_head ps (colons qs ++ showL n) hp (by omega), if_neg]
  · rw [six_tailD (A := jn ps ++ [58, 58]) qs n h32 (by simp) hq (by simp; omega)]
    have hf := fin_gap (ps.map hexW) (qs.map hexW ++ [((n / 65536 : Nat) : Int)] ++ [((n % 65536 : Nat) : Int)]) (by simp; omega)
    rw [List.length_map] at hf
    rw [show List.map hexW ps ++ List.map hexW qs ++ [((n / 65536 : Nat) : Int)] ++ [((n % 65536 : Nat) : Int)] = List.map hexW ps ++ (List.map hexW qs ++ [((n / 65536 : Nat) : Int)] ++ [((n % 65536 : Nat) : Int)]) by simp, hf]
    rw [show 8 - (ps.length + (List.map hexW qs ++ [((n / 65536 : Nat) : Int)] ++ [((n % 65536 : Nat) : Int)]).length) = 6 - (ps.length + qs.length) by rw [List.length_append, List.length_append, List.length_map, List.length_singleton, List.length_singleton]; omega]
  · intro h
    obtain ⟨P, Q, hs, -⟩ := show_first n
    rw [hs] at h
    have := (List.append_eq_nil_iff.1 h).2
    simp at this
end Go.Proofs.YtklgahppjdgkmaaDoor
