/- ip6: the document's own answer is the program's. -/
import Derived.Test.YtklgahppjdgkmaaDoorSixT3
set_option linter.unusedVariables false
set_option linter.unusedSimpArgs false
namespace Go.Proofs.YtklgahppjdgkmaaDoor
open Go Go.Proofs Go.RowKit Go.Vc
/-- Nowhere stand two : . -/
def noAdj : Bs → Prop
  | c :: d :: r => ¬ (c = 58 ∧ d = 58) ∧ noAdj (d :: r)
  | _ => True
theorem gap_none : ∀ (l : Bs) (i : Int), 0 ≤ i → gapF l i < 0 → noAdj l
  | [], _, _, _ => trivial
  | [_], _, _, _ => trivial
  | c :: d :: r, i, hi, h => by
    rw [gapF] at h
    by_cases hc : c = 58 ∧ d = 58
    · rw [if_pos hc] at h; omega
    · rw [if_neg hc] at h
      exact ⟨hc, gap_none (d :: r) (i + 1) (by omega) h⟩
theorem gap_some : ∀ (l : Bs) (i : Int), 0 ≤ i → 0 ≤ gapF l i → ∃ (k : Nat) (M : Bs), gapF l i = i + k ∧ l = l.take k ++ 58 :: 58 :: M ∧ l.drop (k + 2) = M ∧ k + 2 ≤ l.length ∧ noAdj (l.take k ++ [58])
  | [], _, _, h => by have h' : (0 : Int) ≤ -1 := h; omega
  | [_], _, _, h => by have h' : (0 : Int) ≤ -1 := h; omega
  | c :: d :: r, i, hi, h => by
    rw [gapF] at h ⊢
    by_cases hc : c = 58 ∧ d = 58
    · rw [if_pos hc]
      obtain ⟨rfl, rfl⟩ := hc
      exact ⟨0, r, by simp, rfl, rfl, by simp, trivial⟩
    · rw [if_neg hc] at h ⊢
      obtain ⟨k, M, h1, h2, h3, h4, h5⟩ := gap_some (d :: r) (i + 1) (by omega) h
      refine ⟨k + 1, M, by rw [h1]; push_cast; omega, ?_, ?_, by rw [List.length_cons]; omega, ?_⟩
      · rw [List.take_succ_cons, List.cons_append, ← h2]
      · rw [show k + 1 + 2 = (k + 2) + 1 by omega, List.drop_succ_cons]; exact h3
      · rw [List.take_succ_cons, List.cons_append]
        cases k with
        | zero =>
          refine ⟨fun hh => ?_, trivial⟩
          have : d = 58 := by
            rw [List.take_zero, List.nil_append] at h2
            injection h2
          exact hc ⟨hh.1, this⟩
        | succ k =>
          rw [List.take_succ_cons, List.cons_append] at h5 ⊢
          exact ⟨fun hh => hc hh, h5⟩
theorem noGap_first (p q : Bs) : ∀ ps : List Bs, NoGap (p :: ps) → NoGap (q :: ps)
  | [], _ => trivial
  | [_], _ => trivial
  | _ :: _ :: _, h => h
theorem noGap_split : ∀ l : Bs, noAdj l → NoGap (splitB 58 l)
  | [], _ => trivial
  | b :: t, h => by
    have ht : noAdj t := by
      cases t with
      | nil => trivial
      | cons d r => exact h.2
    obtain ⟨x, y, e⟩ := splitB_some 58 t
    have ih := noGap_split t ht
    by_cases hb : (b.toNat : Int) = 58
    · rw [splitB_yes hb, e]
      rw [e] at ih
      cases y with
      | nil => trivial
      | cons z zs =>
        refine ⟨fun hx => ?_, ih⟩
        subst hx
        have hb8 : b = 58 := by apply UInt8.toNat_inj.1; show b.toNat = 58; omega
        cases t with
        | nil => rw [show splitB 58 [] = [[]] from rfl] at e; cases e
        | cons d r =>
          refine h.1 ⟨hb8, ?_⟩
          by_cases hd : (d.toNat : Int) = 58
          · apply UInt8.toNat_inj.1; show d.toNat = 58; omega
          · obtain ⟨x2, y2, e2⟩ := splitB_some 58 r
            rw [splitB_no hd e2] at e
            cases e
    · rw [splitB_no hb e]
      rw [e] at ih
      exact noGap_first _ _ _ ih
theorem noGap_tail : ∀ ps : List Bs, NoGap (ps ++ [[]]) → ∀ q ∈ ps.tail, q ≠ []
  | [], _, q, hq => by cases hq
  | [_], _, q, hq => by cases hq
  | p :: r :: rs, h, q, hq => by
    have h2 : r ≠ [] ∧ NoGap (r :: rs ++ [[]]) := by
      cases rs with
      | nil => exact h
      | cons s ss => exact h
    rcases List.mem_cons.1 hq with rfl | hq
    · exact h2.1
    · exact noGap_tail (r :: rs) h2.2 q hq
theorem rowGo_long (last : Bool) : ∀ (ps : List Bs) (o : List Int), (rowGo last ps o).2 = true → o.length + ps.length ≤ (rowGo last ps o).1.length
  | [], o, _ => by unfold rowGo; simp
  | p :: ps, o, h => by
    unfold rowGo at h ⊢
    split
    · rename_i hc
      rw [hc.2]
      simp
    · rename_i hc
      rw [if_neg hc] at h
      split
      · rename_i hp
        rw [if_pos hp] at h
        have := rowGo_long last ps _ h
        rw [List.length_append, List.length_singleton] at this
        rw [List.length_cons]; omega
      · rename_i hp
        rw [if_neg hp] at h; cases h
theorem hexW_range {p : Bs} (hp : Piece p) : 0 ≤ hexW p ∧ hexW p ≤ 65535 := by
  have h := hexW_bd p (fun i hi => by
    unfold byt
    rw [List.getD_eq_getElem?_getD, List.getElem?_eq_getElem hi]
    exact hp.hex _ (List.getElem_mem _)) p.length (Nat.le_refl _)
  rw [List.take_length] at h
  have : p.length = 1 ∨ p.length = 2 ∨ p.length = 3 ∨ p.length = 4 := by have := hp.lo; have := hp.hi; omega
  refine ⟨h.1, ?_⟩
  rcases this with e | e | e | e <;> rw [e] at h <;> have h2 := h.2 <;> simp only [Nat.reduceAdd, Int.reducePow] at h2 <;> omega
theorem rowGo_range (last : Bool) : ∀ (ps : List Bs) (o : List Int), (∀ x ∈ o, 0 ≤ x ∧ x ≤ 65535) → ∀ x ∈ (rowGo last ps o).1, 0 ≤ x ∧ x ≤ 65535
  | [], o, h, x, hx => h x (by unfold rowGo at hx; exact hx)
  | p :: ps, o, h, x, hx => by
    unfold rowGo at hx
    split at hx
    · rename_i hc
      have d := (dot_four p).2 hc.1.1
      rw [List.mem_append] at hx
      rcases hx with hx | hx
      · exact h x hx
      · simp only [List.mem_cons, List.not_mem_nil, or_false] at hx
        rcases hx with rfl | rfl <;> omega
    · split at hx
      · rename_i hp
        have hP : Piece p := Classical.byContradiction fun hn => by rw [pieceR_no hn] at hp; cases hp
        refine rowGo_range last ps _ (fun y hy => ?_) x hx
        rw [List.mem_append, List.mem_singleton] at hy
        rcases hy with hy | rfl
        · exact h y hy
        · rw [pieceR_yes hP]; exact hexW_range hP
      · exact h x hx
theorem w16_id {o : List Int} (h : ∀ x ∈ o, 0 ≤ x ∧ x ≤ 65535) : w16 o = o := by
  unfold w16
  conv => rhs; rw [← List.map_id o]
  exact List.map_congr_left fun x hx => IntWalk.u16_in x (by have := h x hx; omega)
theorem row_go (l : Bs) (last : Bool) (hl : l ≠ []) : rowR l last = if 8 < (splitB 58 l).length then ([], false) else rowGo last (splitB 58 l) [] := by unfold rowR; rw [if_neg hl]
theorem rowR_range (l : Bs) (last : Bool) : w16 (rowR l last).1 = (rowR l last).1 := by
  refine w16_id fun x hx => ?_
  unfold rowR at hx
  split at hx
  · cases hx
  · split at hx
    · cases hx
    · exact rowGo_range last _ [] (fun y hy => by cases hy) x hx
theorem fin_neg (o : List Int) : fin6 o (-1) = if o.length = 8 then (o, true) else wrong6 := by
  unfold fin6
  by_cases h : o.length = 8
  · rw [if_pos ⟨by decide, h⟩, if_pos h]
  · rw [if_neg (fun e => h e.2), if_neg (by omega), if_neg h]
theorem six_ref_none (l : Bs) (hg : gapAt l < 0) : six l = refSix l := by
  have hna := gap_none l 0 (by omega) hg
  have hpre : ¬ Lib.hasPrefix l [58, 58] = true := by
    refine prefix_no ?_
    match l, hna with
    | [], _ => exact .inl (by decide)
    | [c], _ => exact .inr (by show (0 : Int) ≠ 58; decide)
    | c :: d :: r, h =>
      by_cases hc : c = 58
      · right
        intro hd
        exact h.1 ⟨hc, by apply UInt8.toNat_inj.1; have hd' : (d.toNat : Int) = 58 := hd; show d.toNat = 58; omega⟩
      · left
        intro hd
        exact hc (by apply UInt8.toNat_inj.1; have hd' : (c.toNat : Int) = 58 := hd; show c.toNat = 58; omega)
  have hw := walk_end (splitB 58 l) l [] [] (-1) (splitB_ne 58 l) (by rw [jn_split]; rfl) (split_no58 l) (by decide) (fun _ => noGap_split l hna)
  rw [show (9 : Nat) - ([] : List Int).length = 9 from rfl, show ([] : Bs).length = 0 from rfl] at hw
  unfold six
  rw [if_neg hpre, hw]
  unfold refSix
  rw [if_pos hg, rowR_range]
  by_cases hl : l = []
  · subst hl
    have e1 : (rowGo true (splitB 58 []) []).2 = false := by decide +kernel
    rw [endR_no _ _ e1, if_neg (by decide +kernel)]
    rfl
  · rw [row_go l true hl]
    have hlong := rowGo_long true (splitB 58 l) []
    by_cases h8 : 8 < (splitB 58 l).length
    · rw [if_pos h8, if_neg (fun h => by cases h.1)]
      unfold endR
      rw [if_neg]
      · rfl
      · rintro ⟨h1, h2⟩
        have := hlong h1
        rw [List.length_nil] at this h2
        omega
    · rw [if_neg h8]
      unfold endR
      by_cases ho : (rowGo true (splitB 58 l) []).2 = true ∧ (rowGo true (splitB 58 l) []).1.length = 8
      · rw [if_pos ⟨ho.1, by rw [List.length_nil]; omega⟩, if_pos ho, List.nil_append, fin_neg, if_pos ho.2]
      · rw [if_neg ho]
        by_cases h1 : (rowGo true (splitB 58 l) []).2 = true ∧ ([] : List Int).length + (rowGo true (splitB 58 l) []).1.length ≤ 8
        · rw [if_pos h1, List.nil_append, fin_neg, if_neg (fun h => ho ⟨h1.1, h⟩)]
          rfl
        · rw [if_neg h1]; rfl
theorem fin_at (o r : List Int) : fin6 (o ++ r) o.length = if o.length + r.length ≤ 7 then (o ++ List.replicate (8 - (o.length + r.length)) 0 ++ r, true) else wrong6 := by
  by_cases h : o.length + r.length ≤ 7
  · rw [if_pos h, fin_gap o r (by omega)]
  · rw [if_neg h]
    unfold fin6
    rw [if_neg (by omega), if_neg (by rw [List.length_append]; omega)]
theorem endG_eq {l L M : Bs} (hl : l = L ++ 58 :: 58 :: M) (o : List Int) (ho : o.length ≤ 8) : endG l M o (L ++ [58, 58]).length = if (rowR M true).2 = true ∧ o.length + (rowR M true).1.length ≤ 7 then (o ++ List.replicate (8 - (o.length + (rowR M true).1.length)) 0 ++ (rowR M true).1, true) else wrong6 := by
  unfold endG
  by_cases hM : M = []
  · subst hM
    rw [if_pos rfl, show rowR [] true = ([], true) from rfl]
    have := fin_at o []
    rw [List.append_nil] at this
    rw [this]
    by_cases h : o.length + ([] : List Int).length ≤ 7
    · rw [if_pos h, if_pos ⟨rfl, h⟩]
    · rw [if_neg h, if_neg (fun e => h e.2)]
  · rw [if_neg hM, row_go M true hM]
    have hw := walk_end (splitB 58 M) l (L ++ [58, 58]) o o.length (splitB_ne 58 M) (by rw [jn_split, hl]; simp) (split_no58 M) ho (fun h => by omega)
    rw [hw]
    have hlong := rowGo_long true (splitB 58 M) []
    rw [List.length_nil] at hlong
    unfold endR
    by_cases h8 : 8 < (splitB 58 M).length
    · rw [if_pos h8, if_neg, if_neg (fun h => by cases h.1)]
      rintro ⟨h1, h2⟩
      have := hlong h1
      omega
    · rw [if_neg h8]
      by_cases h1 : (rowGo true (splitB 58 M) []).2 = true ∧ o.length + (rowGo true (splitB 58 M) []).1.length ≤ 8
      · rw [if_pos h1, fin_at]
        by_cases h7 : o.length + (rowGo true (splitB 58 M) []).1.length ≤ 7
        · rw [if_pos h7, if_pos ⟨h1.1, h7⟩]
        · rw [if_neg h7, if_neg (fun h => h7 h.2)]
      · rw [if_neg h1, if_neg (fun h => h1 ⟨h.1, by omega⟩)]
theorem six_ref_some (l : Bs) (hg : ¬ gapAt l < 0) : six l = refSix l := by
  obtain ⟨k, M, h1, h2, h3, h4, h5⟩ := gap_some l 0 (by omega) (by show 0 ≤ gapAt l; omega)
  have hk : gapAt l = (k : Int) := by show gapF l 0 = _; rw [h1]; omega
  have hA : takeZ l (gapAt l) = l.take k := by unfold takeZ; rw [hk, Int.toNat_natCast]
  have hB : dropZ l (gapAt l + 2) = M := by unfold dropZ; rw [hk, show ((k : Int) + 2).toNat = k + 2 by omega]; exact h3
  have hR : refSix l = if ((rowR (l.take k) false).2 = true ∧ (rowR M true).2 = true) ∧ (rowR (l.take k) false).1.length + (rowR M true).1.length ≤ 7 then
      ((rowR (l.take k) false).1 ++ List.replicate (8 - ((rowR (l.take k) false).1.length + (rowR M true).1.length)) 0 ++ (rowR M true).1, true) else wrong6 := by
    unfold refSix
    rw [if_neg hg, hA, hB, rowR_range, rowR_range]
    rfl
  rw [hR]
  clear hR
  generalize hL : l.take k = L at *
  by_cases hLe : L = []
  · subst hLe
    rw [List.nil_append] at h2
    have e : six l = endG l M [] ([] ++ [58, 58] : Bs).length := by
      unfold six endG
      rw [if_pos (by rw [h2]; unfold Lib.hasPrefix; simp [List.isPrefixOf])]
      by_cases hM : M = []
      · rw [if_pos (by rw [h2, hM]; rfl), if_pos hM]; rfl
      · have := List.length_pos_iff.2 hM
        rw [if_neg (by rw [h2]; show ¬ (M.length + 1 + 1 = 2); omega), if_neg hM]; rfl
    rw [e, endG_eq (L := []) h2 [] (by decide), show rowR [] false = ([], true) from rfl]
    by_cases hc : (rowR M true).2 = true ∧ ([] : List Int).length + (rowR M true).1.length ≤ 7
    · rw [if_pos hc, if_pos ⟨⟨rfl, hc.1⟩, hc.2⟩]
    · rw [if_neg hc, if_neg (fun h => hc ⟨h.1.2, h.2⟩)]
  · have hpre : ¬ Lib.hasPrefix l [58, 58] = true := by
      refine prefix_no ?_
      rw [h2]
      match L, hLe, h5 with
      | [c], _, h5 =>
        left; intro hd
        exact h5.1 ⟨by apply UInt8.toNat_inj.1; have hd' : (c.toNat : Int) = 58 := hd; show c.toNat = 58; omega, rfl⟩
      | c :: d :: r, _, h5 =>
        by_cases hc : c = 58
        · right; intro hd
          exact h5.1 ⟨hc, by apply UInt8.toNat_inj.1; have hd' : (d.toNat : Int) = 58 := hd; show d.toNat = 58; omega⟩
        · left; intro hd
          exact hc (by apply UInt8.toNat_inj.1; have hd' : (c.toNat : Int) = 58 := hd; show c.toNat = 58; omega)
    have htl : ∀ q ∈ (splitB 58 L).tail, q ≠ [] := by
      refine noGap_tail _ ?_
      have := noGap_split _ h5
      rw [splitB_joins 58 58 rfl [] L] at this
      exact this
    have hw := walk_gap M (splitB 58 L) l [] [] (-1) (splitB_ne 58 L) (by rw [jn_split]; exact h2) (split_no58 L) (by decide) (by decide) htl
    rw [show (9 : Nat) - ([] : List Int).length = 9 from rfl, show ([] : Bs).length = 0 from rfl, jn_split, List.nil_append, List.nil_append] at hw
    unfold six
    rw [if_neg hpre, hw, row_go L false hLe]
    have hlong := rowGo_long false (splitB 58 L) []
    rw [List.length_nil] at hlong
    have e0 : ([] : List Int).length = 0 := rfl
    by_cases h8 : 8 < (splitB 58 L).length
    · rw [if_pos h8, if_neg, if_neg (fun h => by cases h.1.1)]
      rintro ⟨g1, g2⟩
      have := hlong g1
      omega
    · rw [if_neg h8]
      by_cases hc : (rowGo false (splitB 58 L) []).2 = true ∧ ([] : List Int).length + (rowGo false (splitB 58 L) []).1.length ≤ 8
      · rw [if_pos hc, endG_eq h2 _ (by omega)]
        by_cases hd : (rowR M true).2 = true ∧ (rowGo false (splitB 58 L) []).1.length + (rowR M true).1.length ≤ 7
        · rw [if_pos hd, if_pos ⟨⟨hc.1, hd.1⟩, hd.2⟩]
        · rw [if_neg hd, if_neg (fun h => hd ⟨h.1.2, h.2⟩)]
      · rw [if_neg hc, if_neg (fun h => hc ⟨h.1.1, by omega⟩)]
theorem six_ref (l : Bs) : six l = refSix l := by
  by_cases h : gapAt l < 0
  · exact six_ref_none l h
  · exact six_ref_some l h
end Go.Proofs.YtklgahppjdgkmaaDoor
