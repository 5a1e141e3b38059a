/- ip6: texts that SixForms tells, and what is read of them. -/
import Derived.Test.YtklgahppjdgkmaaDoorVsix3
set_option linter.unusedVariables false
set_option linter.unusedSimpArgs false
namespace Go.Proofs.YtklgahppjdgkmaaDoor
open Go Go.Proofs Go.RowKit Go.Vc
def hx (q : List Int) (sh : List Bool) (j : Nat) : Bs := hexS (q.getD j 0) (sh.getD j false)
def hlN (q : List Int) (sh : List Bool) (a b : Nat) : List Bs := (List.range' a (b - a)).map (hx q sh)
def textN (q : List Int) (sh : List Bool) (f m n : Nat) : Bs := if m = 0 ∨ n ≤ f then jn (hlN q sh 0 n) else jn (hlN q sh 0 f) ++ 58 :: 58 :: jn (hlN q sh (f + m) n)
theorem textAt_N (q : List Int) (sh : List Bool) (f m n : Nat) : textAt q sh f m n = textN q sh f m n := by
  unfold textAt textN hexL
  have e1 : ((m : Int) ≤ 0 ∨ (n : Int) ≤ f) = (m = 0 ∨ n ≤ f) := by apply propext; constructor <;> intro h <;> omega
  simp only [e1]
  rw [show ((f : Int) + (m : Int)).toNat = f + m by omega, Int.toNat_natCast, Int.toNat_natCast, show Int.toNat 0 = 0 from rfl]
  rfl
section
variable {q : List Int} {sh : List Bool} (hq8 : q.length = 8) (hqb : ∀ x ∈ q, 0 ≤ x ∧ x ≤ 65535)
include hq8 hqb
theorem qb (j : Nat) : 0 ≤ q.getD j 0 ∧ q.getD j 0 ≤ 65535 := by
  by_cases h : j < q.length
  · rw [List.getD_eq_getElem?_getD, List.getElem?_eq_getElem h]
    exact hqb _ (List.getElem_mem _)
  · rw [List.getD_eq_getElem?_getD, List.getElem?_eq_none (by omega)]
    exact ⟨by decide, by decide⟩
theorem hx_piece (j : Nat) : Piece (hx q sh j) := hexS_piece (qb hq8 hqb j).1 (qb hq8 hqb j).2 _
theorem hx_val (j : Nat) : hexW (hx q sh j) = q.getD j 0 := hexS_val (qb hq8 hqb j).1 (qb hq8 hqb j).2 _
theorem hl_piece (a b : Nat) : ∀ p ∈ hlN q sh a b, Piece p := fun p hp => by
  obtain ⟨j, -, rfl⟩ := List.mem_map.1 hp
  exact hx_piece hq8 hqb j
theorem hl_val (a b : Nat) (hb : b ≤ 8) : (hlN q sh a b).map hexW = (q.take b).drop a := by
  refine List.ext_getElem ?_ fun i h1 h2 => ?_
  · unfold hlN; simp; omega
  · unfold hlN at h1 ⊢
    simp at h1 h2 ⊢
    rw [hx_val hq8 hqb, List.getD_eq_getElem?_getD, List.getElem?_eq_getElem (by omega)]
    rfl
end
theorem hl_len (q : List Int) (sh : List Bool) (a b : Nat) : (hlN q sh a b).length = b - a := by unfold hlN; simp
theorem hl_step (q : List Int) (sh : List Bool) (a b : Nat) (h : a ≤ b) : hlN q sh a (b + 1) = hlN q sh a b ++ [hx q sh b] := by
  unfold hlN
  rw [show b + 1 - a = (b - a) + 1 by omega, List.range'_concat, List.map_append]
  congr 1
  simp; congr 1; omega
theorem hl_nil (q : List Int) (sh : List Bool) (a b : Nat) : hlN q sh a b = [] ↔ b ≤ a := by
  rw [← List.length_eq_zero_iff, hl_len]; omega
theorem jn_colons {ps : List Bs} (h : ps ≠ []) (D : Bs) : jn ps ++ 58 :: D = colons ps ++ D := by
  rcases List.eq_nil_or_concat ps with rfl | ⟨qs, q, rfl⟩
  · exact absurd rfl h
  · rw [List.concat_eq_append, jn_snoc, colons_snoc]; simp
/-- The last byte. -/
def lastZ (t : Bs) : Int := byteZ t (lenZ t - 1)
theorem lastZ_app (t : Bs) (b : UInt8) : lastZ (t ++ [b]) = (b.toNat : Int) := by
  unfold lastZ lenZ byteZ
  rw [List.length_append, List.length_singleton, show (((t.length + 1 : Nat) : Int) - 1).toNat = t.length by omega, List.getD_eq_getElem?_getD, List.getElem?_append_right (Nat.le_refl _)]
  simp
theorem piece_last {P : Bs} (hp : Piece P) (t : Bs) : t ++ P ≠ [] ∧ lastZ (t ++ P) ≠ 58 := by
  rcases List.eq_nil_or_concat P with rfl | ⟨Q, b, rfl⟩
  · have := hp.lo; simp at this
  · rw [List.concat_eq_append] at hp ⊢
    refine ⟨by simp, ?_⟩
    rw [← List.append_assoc, lastZ_app]
    intro h
    have := hp.hex b (by simp)
    rw [h] at this
    exact absurd this (by decide)
theorem jn_last {ps : List Bs} (h : ps ≠ []) (hp : ∀ p ∈ ps, Piece p) (A : Bs) : A ++ jn ps ≠ [] ∧ lastZ (A ++ jn ps) ≠ 58 := by
  rcases List.eq_nil_or_concat ps with rfl | ⟨qs, q, rfl⟩
  · exact absurd rfl h
  · rw [List.concat_eq_append] at hp ⊢
    rw [jn_snoc, ← List.append_assoc]
    exact piece_last (hp q (by simp)) _
/-- What goes on at a place: alone, or behind a : . -/
theorem text_on {q : List Int} {sh : List Bool} (hq8 : q.length = 8) (hqb : ∀ x ∈ q, 0 ≤ x ∧ x ≤ 65535) (f m n : Nat) (h1 : n ≤ f ∨ f + m ≤ n) (h2 : ¬ (n = f ∧ 0 < m)) :
    ((textN q sh f m n = [] ∨ lastZ (textN q sh f m n) = 58) ∧ (n = 0 ∧ (m = 0 ∨ 0 < f) ∨ 0 < m ∧ n = f + m) ∧ textN q sh f m (n + 1) = textN q sh f m n ++ hx q sh n) ∨
    ((textN q sh f m n ≠ [] ∧ lastZ (textN q sh f m n) ≠ 58) ∧ (0 < n ∧ (m = 0 ∨ n < f) ∨ 0 < m ∧ f + m < n) ∧ textN q sh f m (n + 1) = textN q sh f m n ++ [58] ++ hx q sh n) := by
  by_cases hm : m = 0 ∨ n < f
  · have e0 : textN q sh f m n = jn (hlN q sh 0 n) := by unfold textN; rw [if_pos (by omega)]
    have e1 : textN q sh f m (n + 1) = jn (hlN q sh 0 n ++ [hx q sh n]) := by unfold textN; rw [if_pos (by omega), hl_step _ _ _ _ (by omega)]
    rw [e0, e1]
    by_cases hn : n = 0
    · subst hn
      refine .inl ⟨.inl rfl, .inl ⟨rfl, by omega⟩, ?_⟩
      simp [hlN, jn]
    · have hne : hlN q sh 0 n ≠ [] := by rw [Ne, hl_nil]; omega
      have := jn_last hne (hl_piece hq8 hqb 0 n) []
      rw [List.nil_append] at this
      refine .inr ⟨this, .inl ⟨by omega, by omega⟩, ?_⟩
      rw [jn_step _ _ hne]
      simp
  · have hm1 : 0 < m := by omega
    have hn : f + m ≤ n := by omega
    have e0 : textN q sh f m n = jn (hlN q sh 0 f) ++ 58 :: 58 :: jn (hlN q sh (f + m) n) := by unfold textN; rw [if_neg (by omega)]
    have e1 : textN q sh f m (n + 1) = jn (hlN q sh 0 f) ++ 58 :: 58 :: jn (hlN q sh (f + m) n ++ [hx q sh n]) := by unfold textN; rw [if_neg (by omega), hl_step _ _ _ _ (by omega)]
    rw [e0, e1]
    by_cases he : n = f + m
    · have hnil : hlN q sh (f + m) n = [] := by rw [hl_nil]; omega
      rw [hnil]
      refine .inl ⟨.inr ?_, .inr ⟨hm1, he⟩, ?_⟩
      · rw [show jn (hlN q sh 0 f) ++ 58 :: 58 :: jn [] = jn (hlN q sh 0 f) ++ [58] ++ [58] by simp [jn], lastZ_app]; rfl
      · simp [jn]
    · have hne : hlN q sh (f + m) n ≠ [] := by rw [Ne, hl_nil]; omega
      have := jn_last hne (hl_piece hq8 hqb (f + m) n) (jn (hlN q sh 0 f) ++ [58, 58])
      rw [show jn (hlN q sh 0 f) ++ [58, 58] ++ jn (hlN q sh (f + m) n) = jn (hlN q sh 0 f) ++ 58 :: 58 :: jn (hlN q sh (f + m) n) by simp] at this
      refine .inr ⟨this, .inr ⟨hm1, by omega⟩, ?_⟩
      rw [jn_step _ _ hne]
      simp
theorem text_zero (q : List Int) (sh : List Bool) (f m : Nat) : textN q sh f m 0 = [] := by
  unfold textN; rw [if_pos (by omega)]; rfl
theorem text_gap (q : List Int) (sh : List Bool) (f m : Nat) (hm : 0 < m) : textN q sh f m f ++ [58, 58] = textN q sh f m (f + m) := by
  unfold textN
  rw [if_pos (by omega), if_neg (by omega), (hl_nil q sh (f + m) (f + m)).2 (Nat.le_refl _)]
  rfl
theorem text_len {q : List Int} {sh : List Bool} (hq8 : q.length = 8) (hqb : ∀ x ∈ q, 0 ≤ x ∧ x ≤ 65535) (f m n : Nat) (hf : f ≤ 8) (hn : n ≤ 8) : (textN q sh f m n).length ≤ 200 := by
  have key : ∀ ps : List Bs, (∀ p ∈ ps, Piece p) → (jn ps).length ≤ 5 * ps.length := fun ps hp => by
    rcases List.eq_nil_or_concat ps with rfl | ⟨qs, q, rfl⟩
    · simp [jn]
    · rw [List.concat_eq_append] at hp ⊢
      have h1 := colons_len qs (fun p h => hp p (by simp [h]))
      have h2 := (hp q (by simp)).hi
      rw [jn_snoc, List.length_append, List.length_append, List.length_singleton]
      omega
  have k1 := key _ (hl_piece hq8 hqb (sh := sh) 0 n)
  have k2 := key _ (hl_piece hq8 hqb (sh := sh) 0 f)
  have k3 := key _ (hl_piece hq8 hqb (sh := sh) (f + m) n)
  rw [hl_len] at k1 k2 k3
  unfold textN
  split
  · omega
  · rw [List.length_append, List.length_cons, List.length_cons]; omega
/-- Eight pieces with a gap are read as they were. -/
theorem text_reads {q : List Int} {sh : List Bool} (hq8 : q.length = 8) (hqb : ∀ x ∈ q, 0 ≤ x ∧ x ≤ 65535) (f m : Nat) (hm : 0 < m) (hfm : f + m ≤ 8) (hz : q = q.take f ++ List.replicate m 0 ++ q.drop (f + m)) : six (textN q sh f m 8) = (q, true) := by
  unfold textN
  rw [if_neg (by omega), gap_pieces _ _ (hl_piece hq8 hqb 0 f) (hl_piece hq8 hqb (f + m) 8) (by rw [hl_len, hl_len]; omega), hl_len, hl_len, hl_val hq8 hqb 0 f (by omega), hl_val hq8 hqb (f + m) 8 (by omega)]
  congr 1
  rw [show 8 - (f - 0 + (8 - (f + m))) = m by omega, List.drop_zero, show q.take 8 = q by rw [← hq8, List.take_length]]
  exact hz.symm
/-- So they are with four numbers behind. -/
theorem dots_read {q : List Int} {sh : List Bool} (hq8 : q.length = 8) (hqb : ∀ x ∈ q, 0 ≤ x ∧ x ≤ 65535) (f m v : Nat) (hfm : m = 0 ∨ f + m ≤ 6) (hz : q = q.take f ++ List.replicate m 0 ++ q.drop (f + m)) (hv : v < 4294967296) (h6 : q.getD 6 0 = ((v / 65536 : Nat) : Int)) (h7 : q.getD 7 0 = ((v % 65536 : Nat) : Int)) :
    (0 < m → f + m = 6 → six (textN q sh f m 6 ++ showL v) = (q, true)) ∧ ((m = 0 ∨ f + m < 6) → six (textN q sh f m 6 ++ [58] ++ showL v) = (q, true)) := by
  have tl : q.drop 6 = [q.getD 6 0, q.getD 7 0] := by
    rcases q with _ | ⟨a, _ | ⟨b, _ | ⟨c, _ | ⟨d, _ | ⟨e, _ | ⟨g, _ | ⟨x, _ | ⟨y, _ | ⟨z, r⟩⟩⟩⟩⟩⟩⟩⟩⟩ <;> simp at hq8
    rfl
  have gap : ∀ qs, qs = hlN q sh (f + m) 6 → 0 < m → f + m ≤ 6 → six (jn (hlN q sh 0 f) ++ 58 :: 58 :: (colons qs ++ showL v)) = (q, true) := fun qs hqs hm hle => by
    subst hqs
    rw [gap_dots _ _ v hv (hl_piece hq8 hqb 0 f) (hl_piece hq8 hqb (f + m) 6) (by rw [hl_len, hl_len]; omega), hl_len, hl_len, hl_val hq8 hqb 0 f (by omega), hl_val hq8 hqb (f + m) 6 (by omega), ← h6, ← h7]
    congr 1
    rw [show 6 - (f - 0 + (6 - (f + m))) = m by omega, List.drop_zero]
    have e : (q.take 6).drop (f + m) ++ [q.getD 6 0] ++ [q.getD 7 0] = q.drop (f + m) := by
      rw [List.append_assoc, show [q.getD 6 0] ++ [q.getD 7 0] = q.drop 6 by rw [tl]; rfl]
      rw [List.drop_take]
      have := List.take_append_drop (6 - (f + m)) (q.drop (f + m))
      rw [List.drop_drop, show f + m + (6 - (f + m)) = 6 by omega] at this
      exact this
    rw [e]
    exact hz.symm
  constructor
  · intro hm he
    unfold textN
    rw [if_neg (by omega), (hl_nil q sh (f + m) 6).2 (by omega)]
    have := gap _ rfl hm (by omega)
    rw [(hl_nil q sh (f + m) 6).2 (by omega)] at this
    rw [← this]
    simp [jn, colons]
  · intro h
    by_cases hm : m = 0
    · unfold textN
      rw [if_pos (by omega)]
      have hne : hlN q sh 0 6 ≠ [] := by rw [Ne, hl_nil]; omega
      rw [show jn (hlN q sh 0 6) ++ [58] ++ showL v = jn (hlN q sh 0 6) ++ 58 :: showL v by simp, jn_colons hne, six_full _ v hv (hl_piece hq8 hqb 0 6) (by rw [hl_len]), hl_val hq8 hqb 0 6 (by omega), ← h6, ← h7]
      congr 1
      rw [List.drop_zero, List.append_assoc, show [q.getD 6 0] ++ [q.getD 7 0] = q.drop 6 by rw [tl]; rfl, List.take_append_drop]
    · have hne : hlN q sh (f + m) 6 ≠ [] := by rw [Ne, hl_nil]; omega
      unfold textN
      rw [if_neg (by omega), ← gap _ rfl (by omega) (by omega), ← jn_colons hne]
      simp
end Go.Proofs.YtklgahppjdgkmaaDoor
