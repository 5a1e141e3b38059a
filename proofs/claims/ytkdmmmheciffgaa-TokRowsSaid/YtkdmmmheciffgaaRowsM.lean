/- Tokens told one behind the other with blanks between: the plain mathematics of TokRows. -/
import Derived.Test.YtkdmmmheciffgaaTokX
import Derived.Test.YtkdmmmheciffgaaUtfM
set_option linter.unusedVariables false
set_option linter.unusedSimpArgs false
namespace Go.Proofs.Ytkdmmmheciffgaa

/-- The texts of the eleven tokens. -/
def rowWords : List (List UInt8) := [[123], [125], [91], [93], [58], [44], [34, 97, 34], [49, 55], [116, 114, 117, 101], [102, 97, 108, 115, 101], [110, 117, 108, 108]]
def rowW (k : Nat) : List UInt8 := rowWords.getD k []
def rowT (k : Nat) : List UInt8 := if k = 6 then [97] else if k = 7 then [49, 55] else []
abbrev Row := List UInt8 × Nat
def rowsText (L : List Row) : List UInt8 := L.flatMap fun x => x.1 ++ rowW x.2
def rowsTok : List Row → Nat → List Tk
  | [], _ => []
  | x :: t, p => (((x.2 : Nat) : Int) + 1, p + x.1.length, rowT x.2) :: rowsTok t (p + x.1.length + (rowW x.2).length)
/-- Blanks, and words; a number behind something stands behind a blank. -/
structure RowsOk (L : List Row) : Prop where
  blk : ∀ x ∈ L, ∀ c ∈ x.1, blkC (c.toNat : Int) = true
  lt : ∀ x ∈ L, x.2 < 11
  num : ∀ x ∈ L.tail, x.2 = 7 → x.1 ≠ []
theorem rowsText_snoc (L : List Row) (x : Row) : rowsText (L ++ [x]) = rowsText L ++ x.1 ++ rowW x.2 := by
  unfold rowsText; rw [List.flatMap_append]; simp
theorem rowsTok_snoc : ∀ (L : List Row) (x : Row) (p : Nat), rowsTok (L ++ [x]) p = rowsTok L p ++ [(((x.2 : Nat) : Int) + 1, p + (rowsText L).length + x.1.length, rowT x.2)] := by
  intro L
  induction L with
  | nil => intro x p; simp [rowsTok, rowsText]
  | cons y L ih =>
    intro x p
    show _ :: rowsTok (L ++ [x]) _ = _ :: _
    rw [ih]
    have e : (rowsText (y :: L)).length = y.1.length + (rowW y.2).length + (rowsText L).length := by
      unfold rowsText; rw [List.flatMap_cons]; simp; omega
    rw [e]
    simp
    omega
theorem RowsOk.nil : RowsOk [] := ⟨(fun x h => by cases h), (fun x h => by cases h), (fun x h => by cases h)⟩
theorem RowsOk.snoc {L : List Row} (h : RowsOk L) (g : List UInt8) (k : Nat) (hg : ∀ c ∈ g, blkC (c.toNat : Int) = true) (hk : k < 11) (h7 : k = 7 → L ≠ [] → g ≠ []) : RowsOk (L ++ [(g, k)]) := by
  refine ⟨fun x hx => ?_, fun x hx => ?_, fun x hx => ?_⟩
  · rcases List.mem_append.1 hx with h1 | h1
    · exact h.blk x h1
    · simp at h1; subst h1; exact hg
  · rcases List.mem_append.1 hx with h1 | h1
    · exact h.lt x h1
    · simp at h1; subst h1; exact hk
  · cases L with
    | nil => simp at hx
    | cons y L =>
      rcases List.mem_append.1 (show x ∈ L ++ [(g, k)] from hx) with h1 | h1
      · exact h.num x h1
      · simp at h1; subst h1; exact fun e => h7 e (by simp)
theorem RowsOk.tail {x : Row} {L : List Row} (h : RowsOk (x :: L)) : RowsOk L :=
  ⟨fun y hy => h.blk y (List.mem_cons_of_mem _ hy), fun y hy => h.lt y (List.mem_cons_of_mem _ hy), fun y hy => h.num y (List.mem_of_mem_tail hy)⟩
theorem byt_at {b x : List UInt8} {p : Nat} (h : b.drop p = x) (i : Nat) : byt b (p + i) = byt x i := by rw [← h, byt_drop]
theorem byt_at0 {b x : List UInt8} {p : Nat} (h : b.drop p = x) : byt b p = byt x 0 := by have := byt_at h 0; simpa using this
theorem len_at {b x : List UInt8} {p : Nat} (h : b.drop p = x) (hp : p ≤ b.length) : b.length = p + x.length := by rw [← h]; simp; omega
theorem skip_blanks : ∀ (g : List UInt8) (b rest : List UInt8) (p : Nat), b.drop p = g ++ rest → p ≤ b.length → (∀ c ∈ g, blkC (c.toNat : Int) = true) → blkC (byt rest 0) = false ∨ rest = [] → skipE b p = p + g.length := by
  intro g
  induction g with
  | nil =>
    intro b rest p h hp hg hr
    rw [List.nil_append] at h
    rcases hr with hr | hr
    · rw [skipE_off (by rw [byt_at0 h]; exact hr)]; rfl
    · subst hr
      rw [skipE_end (by have := len_at h hp; simp at this; omega)]; rfl
  | cons c g ih =>
    intro b rest p h hp hg hr
    have hl := len_at h hp
    have h0 : byt b p = (c.toNat : Int) := by rw [byt_at0 h]; rfl
    have hd : b.drop (p + 1) = g ++ rest := by rw [← List.drop_drop, h]; rfl
    rw [skipE_on (by simp at hl; omega) (by rw [h0]; exact hg c List.mem_cons_self)]
    rw [ih b rest (p + 1) hd (by simp at hl; omega) (fun x hx => hg x (List.mem_cons_of_mem _ hx)) hr]
    simp; omega
theorem word_at : ∀ (l : List UInt8) (b rest : List UInt8) (p : Nat), b.drop p = l ++ rest → wordM b l p = (p + l.length, true) := by
  intro l
  induction l with
  | nil => intro b rest p h; rfl
  | cons c l ih =>
    intro b rest p h
    have h0 : byt b p = (c.toNat : Int) := by rw [byt_at0 h]; rfl
    have hd : b.drop (p + 1) = l ++ rest := by rw [← List.drop_drop, h]; rfl
    unfold wordM
    rw [if_pos h0, ih b rest (p + 1) hd]
    simp; omega
theorem sub_at {b x rest : List UInt8} {p : Nat} (h : b.drop p = x ++ rest) : sub8 b p (p + x.length) = x := by
  unfold sub8
  rw [List.drop_take, h]
  simp
/-- What no number goes on by. -/
def stopC (c : Int) : Prop := digC c = false ∧ c ≠ 46 ∧ c ≠ 101 ∧ c ≠ 69
theorem row_tok {b rest : List UInt8} {p k : Nat} (hk : k < 11) (h : b.drop p = rowW k ++ rest) (hp : p ≤ b.length) (hs : k = 7 → stopC (byt rest 0)) :
    tokM b p = ((((k : Nat) : Int) + 1, p, rowT k), p + (rowW k).length, true) := by
  have hl := len_at h hp
  have hsig : ∀ c : UInt8, rowW k = [c] → sigB (c.toNat : Int) = true → tokM b p = ((signN (c.toNat : Int), p, []), p + 1, true) := by
    intro c hc h1
    have h0 : byt b p = (c.toNat : Int) := by rw [byt_at0 h, hc]; rfl
    unfold tokM
    rw [h0, if_pos h1]
  have hwd : ∀ (c : UInt8) (l : List UInt8), rowW k = c :: l → byt b p = (c.toNat : Int) := by
    intro c l hc; rw [byt_at0 h, hc]; rfl
  rcases (by omega : k = 0 ∨ k = 1 ∨ k = 2 ∨ k = 3 ∨ k = 4 ∨ k = 5 ∨ k = 6 ∨ k = 7 ∨ k = 8 ∨ k = 9 ∨ k = 10) with rfl | rfl | rfl | rfl | rfl | rfl | rfl | rfl | rfl | rfl | rfl
  · exact hsig 123 rfl (by decide)
  · exact hsig 125 rfl (by decide)
  · exact hsig 91 rfl (by decide)
  · exact hsig 93 rfl (by decide)
  · exact hsig 58 rfl (by decide)
  · exact hsig 44 rfl (by decide)
  · have hd : b.drop p = 34 :: 97 :: 34 :: rest := h
    have h0 : byt b p = 34 := by rw [byt_at0 hd]; rfl
    have h1 : byt b (p + 1) = 97 := by rw [byt_at hd]; rfl
    have h2 : byt b (p + 2) = 34 := by rw [byt_at hd]; rfl
    have hd1 : b.drop (p + 1) = [97] ++ (34 :: rest) := by rw [← List.drop_drop, hd]; rfl
    have hl2 : b.length = p + (rest.length + 3) := by rw [len_at hd hp]; simp
    have hn : nextL (b.drop (p + 1)) = (97, 1, true) := by
      rw [hd1]
      exact nextL_1 (by simp) (show (97 : Int) ≤ 127 by decide)
    have hsb : sub8 b (p + 1) (p + 1 + 1) = [97] := sub_at hd1
    have hstr : strM b (p + 1) [] = ([97], p + 3, true) := by
      rw [strM_step b (p + 1) [] (by omega), h1, hn, if_neg (by decide), if_neg (by decide), if_neg (by decide), if_pos rfl]
      show strM b (p + 1 + 1) ([] ++ sub8 b (p + 1) (p + 1 + 1)) = _
      rw [hsb, strM_step b (p + 1 + 1) _ (by omega), if_pos (show byt b (p + 1 + 1) = 34 from h2)]
      rfl
    unfold tokM
    rw [h0, hstr, if_neg (by decide), if_neg (by decide), if_neg (by decide), if_neg (by decide), if_pos rfl]
    rfl
  · have hd : b.drop p = 49 :: 55 :: rest := h
    have hs := hs rfl
    have h0 : byt b p = 49 := by rw [byt_at0 hd]; rfl
    have h1 : byt b (p + 1) = 55 := by rw [byt_at hd]; rfl
    have h2 : byt b (p + 2) = byt rest 0 := by rw [byt_at hd]; rfl
    have hdg : digE b p = p + 2 := by
      rw [digE_on (by rw [h0]; decide), digE_on (by rw [h1]; decide), digE_off (by rw [h2]; exact hs.1)]
    have he : expM b (p + 2) = (p + 2, true) := by
      unfold expM
      rw [h2, if_neg (by rintro (h | h); exact hs.2.2.1 h; exact hs.2.2.2 h)]
    have hf : fracM b (p + 2) = (p + 2, true) := by
      unfold fracM
      rw [h2, if_neg hs.2.1, he]
    have hi : intM b p = (p + 2, true) := by
      unfold intM
      rw [h0, if_neg (by decide), if_pos (by decide), hdg, hf]
    have hnm : numM b p = (p + 2, true) := by
      unfold numM
      rw [h0, if_neg (by decide), hi]
    have hsb : sub8 b p (p + 2) = [49, 55] := sub_at (x := [49, 55]) h
    unfold tokM
    rw [hnm, h0, if_neg (by decide), if_neg (by decide), if_neg (by decide), if_neg (by decide), if_neg (by decide), if_pos (by decide), hsb]
    rfl
  · have h0 := hwd 116 [114, 117, 101] rfl
    have hw : wordM b [116, 114, 117, 101] p = (p + 4, true) := word_at [116, 114, 117, 101] b rest p h
    unfold tokM
    rw [h0, if_neg (by decide), if_pos (by decide), hw]
    rfl
  · have h0 := hwd 102 [97, 108, 115, 101] rfl
    have hw : wordM b [102, 97, 108, 115, 101] p = (p + 5, true) := word_at [102, 97, 108, 115, 101] b rest p h
    unfold tokM
    rw [h0, if_neg (by decide), if_neg (by decide), if_pos (by decide), hw]
    rfl
  · have h0 := hwd 110 [117, 108, 108] rfl
    have hw : wordM b [110, 117, 108, 108] p = (p + 4, true) := word_at [110, 117, 108, 108] b rest p h
    unfold tokM
    rw [h0, if_neg (by decide), if_neg (by decide), if_neg (by decide), if_pos (by decide), hw]
    rfl
def rowF (k : Nat) : Int := ([123, 125, 91, 93, 58, 44, 34, 49, 116, 102, 110] : List Int).getD k 0
theorem row_byt {k : Nat} (hk : k < 11) (r : List UInt8) : byt (rowW k ++ r) 0 = rowF k ∧ 0 < (rowW k).length := by
  rcases (by omega : k = 0 ∨ k = 1 ∨ k = 2 ∨ k = 3 ∨ k = 4 ∨ k = 5 ∨ k = 6 ∨ k = 7 ∨ k = 8 ∨ k = 9 ∨ k = 10) with rfl | rfl | rfl | rfl | rfl | rfl | rfl | rfl | rfl | rfl | rfl
  all_goals exact ⟨rfl, by decide⟩
theorem row_first {k : Nat} (hk : k < 11) (r : List UInt8) : blkC (byt (rowW k ++ r) 0) = false ∧ 0 < (rowW k).length ∧ (k ≠ 7 → stopC (byt (rowW k ++ r) 0)) := by
  obtain ⟨h1, h2⟩ := row_byt hk r
  rw [h1]
  refine ⟨?_, h2, ?_⟩
  · have : ∀ k, k < 11 → blkC (rowF k) = false := by decide
    exact this k hk
  · have : ∀ k, k < 11 → k ≠ 7 → digC (rowF k) = false ∧ rowF k ≠ 46 ∧ rowF k ≠ 101 ∧ rowF k ≠ 69 := by decide
    exact this k hk
theorem rows_stop {L : List Row} (h : RowsOk L) (h7 : ∀ x ∈ L, x.2 = 7 → x.1 ≠ []) : stopC (byt (rowsText L) 0) := by
  cases L with
  | nil => exact ⟨by decide, by decide, by decide, by decide⟩
  | cons x L =>
    obtain ⟨g, k⟩ := x
    have hk := h.lt (g, k) List.mem_cons_self
    have hb := h.blk (g, k) List.mem_cons_self
    have h8 := h7 (g, k) List.mem_cons_self
    show stopC (byt ((g ++ rowW k) ++ rowsText L) 0)
    cases g with
    | nil => exact (row_first hk _).2.2 (fun e => h8 e rfl)
    | cons c g =>
      have hc := of_decide_eq_true (hb c List.mem_cons_self)
      show stopC ((c.toNat : Nat) : Int)
      refine ⟨decide_eq_false ?_, ?_, ?_, ?_⟩ <;> omega
theorem rows_all : ∀ (L : List Row) (b : List UInt8) (p : Nat) (acc : List Tk), RowsOk L → b.drop p = rowsText L → p ≤ b.length → allM b (skipE b p) acc = (acc ++ rowsTok L p, b.length, true) := by
  intro L
  induction L with
  | nil =>
    intro b p acc hk h hp
    have hl := len_at h hp
    have hl : b.length = p := by simpa [rowsText] using hl
    rw [skipE_end (by omega), allM_end hl.symm]
    simp [rowsTok, hl]
  | cons x L ih =>
    intro b p acc hk h hp
    obtain ⟨g, k⟩ := x
    have hk11 := hk.lt (g, k) List.mem_cons_self
    have hb := hk.blk (g, k) List.mem_cons_self
    have h1 : b.drop p = g ++ (rowW k ++ rowsText L) := by rw [h]; unfold rowsText; rw [List.flatMap_cons, List.append_assoc]
    have hl := len_at h1 hp
    obtain ⟨f1, f2, f3⟩ := row_first hk11 (rowsText L)
    have f2 : 0 < (rowW k).length := f2
    rw [skip_blanks g b _ p h1 hp hb (.inl f1)]
    have h2 : b.drop (p + g.length) = rowW k ++ rowsText L := by rw [← List.drop_drop, h1, List.drop_left]
    simp at hl
    have ht := row_tok hk11 h2 (by omega) (fun _ => rows_stop hk.tail (fun y hy => hk.num y hy))
    have h3 : b.drop (p + g.length + (rowW k).length) = rowsText L := by rw [← List.drop_drop, h2, List.drop_left]
    rw [allM_step (by omega), ht, if_pos rfl]
    show allM b (skipE b (p + g.length + (rowW k).length)) (acc ++ [_]) = _
    rw [ih b _ _ hk.tail h3 (by omega)]
    simp [rowsTok]
theorem rows_toks {L : List Row} (h : RowsOk L) : toksM (rowsText L) = (rowsTok L 0, (rowsText L).length, 0) := by
  have := rows_all L (rowsText L) 0 [] h rfl (Nat.zero_le _)
  unfold toksM
  rw [this, if_pos rfl]
  rfl
theorem rowsText_len {L : List Row} (h : ∀ x ∈ L, x.1.length ≤ 10) : (rowsText L).length ≤ 15 * L.length := by
  induction L with
  | nil => simp [rowsText]
  | cons x L ih =>
    have h1 := ih (fun y hy => h y (List.mem_cons_of_mem _ hy))
    have h2 := h x List.mem_cons_self
    have h3 : (rowW x.2).length ≤ 5 := by
      unfold rowW
      rcases Nat.lt_or_ge x.2 11 with h4 | h4
      · have hall : ∀ k, k < 11 → (rowWords.getD k []).length ≤ 5 := by decide
        exact hall _ h4
      · rw [List.getD_eq_getElem?_getD, List.getElem?_eq_none (by simpa [rowWords] using h4)]; simp
    unfold rowsText at h1 ⊢
    rw [List.flatMap_cons, List.length_append, List.length_append, List.length_cons]
    omega
theorem rowsTok_len : ∀ (L : List Row) (p : Nat), (rowsTok L p).length = L.length := by
  intro L
  induction L with
  | nil => intro p; rfl
  | cons x L ih => intro p; simp [rowsTok, ih]
end Go.Proofs.Ytkdmmmheciffgaa
