/- ip6: the document's own answer is the program's: the walk over the parts. -/
import Derived.Test.YtklgahppjdgkmaaDoorSixT1
set_option linter.unusedVariables false
set_option linter.unusedSimpArgs false
namespace Go.Proofs.YtklgahppjdgkmaaDoor
open Go Go.Proofs Go.RowKit Go.Vc
/-- Parts between the first and the last are not empty. -/
def NoGap : List Bs → Prop
  | _ :: q :: r :: rest => q ≠ [] ∧ NoGap (q :: r :: rest)
  | _ => True
/-- What is told at the end of a row. -/
def endR (o : List Int × Bool) (acc : List Int) (gap : Int) : List Int × Bool := if o.2 = true ∧ acc.length + o.1.length ≤ 8 then fin6 (acc ++ o.1) gap else wrong6
theorem endR_no {o : List Int × Bool} (acc : List Int) (gap : Int) (h : o.2 = false) : endR o acc gap = wrong6 := by unfold endR; rw [if_neg (by rw [h]; simp)]
theorem rowGo_no {last : Bool} {p : Bs} {ps : List Bs} {o : List Int} (h1 : ¬ (((fourR p).2.2 = true ∧ last = true) ∧ ps = [])) (h2 : (pieceR p).2 = false) : (rowGo last (p :: ps) o).2 = false := by
  rw [rowGo, if_neg h1, if_neg (by rw [h2]; simp)]
theorem rowGo_yes {last : Bool} {p : Bs} {ps : List Bs} {o : List Int} (h1 : ¬ (((fourR p).2.2 = true ∧ last = true) ∧ ps = [])) (h2 : Piece p) : rowGo last (p :: ps) o = rowGo last ps (o ++ [hexW p]) := by
  rw [rowGo, if_neg h1, if_pos (by rw [pieceR_yes h2]), pieceR_yes h2]
theorem not_piece {H R : Bs} (hR : R ≠ []) (ho : Off R) : ¬ Piece (H ++ R) := fun h => by
  match R, hR, ho with
  | c :: t, _, ho =>
    rcases ho with ho | ho
    · cases ho
    · rw [byt0] at ho
      have := h.hex c (by simp)
      omega
theorem piece_four {p : Bs} (h : Piece p) : (fourR p).2.2 = false := by
  cases hf : (fourR p).2.2 with
  | false => rfl
  | true =>
    have := four_first (H := p) (R := []) h.hex (.inl rfl) (by rw [List.append_nil]; exact hf)
    exact absurd this.2.1 (by simp)
theorem dotO_58 {l : Bs} (h : (58 : UInt8) ∈ l) : dotO l = false := by
  cases hd : dotO l with
  | false => rfl
  | true =>
    obtain ⟨H, R, e, hH, hR⟩ := hex_split l
    rw [(dot_four l).1] at hd
    subst e
    exact absurd h (four_first hH hR hd).2.2
/-- One part that is no piece: wrong, or four numbers at the end. -/
theorem part_off {l A H R T : Bs} {acc : List Int} {gap : Int} (hl : l = A ++ (H ++ (R ++ T))) (hH : HexB H) (hR : Off R) (hne : R ≠ []) (h58 : ∀ c ∈ R, c ≠ 58) (hT : T ≠ [] → (58 : UInt8) ∈ T) (hc : acc.length ≤ 8) :
    six1 l (9 - acc.length) acc gap A.length = if T = [] ∧ (fourR (H ++ R)).2.2 = true then endR ([(fourR (H ++ R)).1, (fourR (H ++ R)).2.1], true) acc gap else wrong6 := by
  have hRT : Off (R ++ T) := by
    match R, hne, hR with
    | c :: t, _, hR =>
      rcases hR with hR | hR
      · cases hR
      · exact .inr hR
  obtain ⟨h1, h2, h3, h4⟩ := six_at (l := l) (A := A) (P := H) (Q := R ++ T) (acc := acc) hl hH hRT hc
  have hb : byt l (A.length + H.length) = byt R 0 := by
    have := h3 0
    rw [Nat.add_zero] at this
    rw [this, byt_l (List.length_pos_iff.2 hne)]
  have hR1 := List.length_pos_iff.2 hne
  rw [List.length_append] at h4
  rw [six1_step l acc gap A.length (A.length + H.length) hc h1, hb]
  have hdrop : l.drop A.length = H ++ (R ++ T) := by rw [hl, List.drop_left]
  by_cases h46 : byt R 0 = 46
  · rw [if_pos ⟨by omega, h46⟩]
    unfold bytes6
    rw [hdrop]
    by_cases hTe : T = []
    · subst hTe
      rw [List.append_nil]
      obtain ⟨d1, d2⟩ := dot_four (H ++ R)
      rw [d1]
      cases hf : (fourR (H ++ R)).2.2 with
      | false => rw [if_pos (.inl rfl), if_neg (by simp)]
      | true =>
        obtain ⟨e1, a0, a1, b0, b1⟩ := d2 hf
        rw [if_pos (show ([] : Bs) = [] ∧ true = true from ⟨rfl, rfl⟩)]
        unfold endR
        by_cases h6 : 6 < acc.length
        · rw [if_pos (show true = false ∨ 6 < acc.length from .inr h6), if_neg (by rintro ⟨-, h⟩; have h' : acc.length + 2 ≤ 8 := h; omega)]
        · rw [if_neg (show ¬ (true = false ∨ 6 < acc.length) from fun h => by rcases h with h | h; cases h; exact h6 h)]
          refine Eq.trans ?_ (if_pos ⟨rfl, by show acc.length + 2 ≤ 8; omega⟩).symm
          rw [show dotV (H ++ R) / 65536 = (fourR (H ++ R)).1 by omega, show dotV (H ++ R) % 65536 = (fourR (H ++ R)).2.1 by omega]
          simp
    · rw [dotO_58 (by simp [hT hTe]), if_pos (.inl rfl), if_neg (fun h => hTe h.1)]
  · have hw : wrong6 = if T = [] ∧ (fourR (H ++ R)).2.2 = true then endR ([(fourR (H ++ R)).1, (fourR (H ++ R)).2.1], true) acc gap else wrong6 := by
      rw [if_neg]
      rintro ⟨-, hf⟩
      exact h46 (four_first hH hR hf).1
    rw [if_neg (fun h => h46 h.2), ← hw]
    by_cases hq : acc.length = 8 ∨ A.length + H.length = A.length ∨ A.length + 4 < A.length + H.length
    · rw [if_pos hq]
    · rw [if_neg hq, if_neg (by omega), if_pos]
      left
      match R, hne, h58 with
      | c :: t, _, h58 =>
        have := h58 c (by simp)
        rw [byt0]
        intro e
        exact this (by apply UInt8.toNat_inj.1; show c.toNat = 58; omega)
/-- A part of digits alone that is no piece. -/
theorem part_digits {l A H T : Bs} {acc : List Int} {gap : Int} (hl : l = A ++ (H ++ T)) (hH : HexB H) (hT : T = [] ∨ byt T 0 = 58) (hp : ¬ Piece H) (hc : acc.length ≤ 8) : six1 l (9 - acc.length) acc gap A.length = wrong6 := by
  have hO : Off T := by rcases hT with h | h; exact .inl h; exact .inr (by rw [h]; decide)
  obtain ⟨h1, h2, h3, h4⟩ := six_at (l := l) (A := A) (P := H) (Q := T) (acc := acc) hl hH hO hc
  have hb : byt l (A.length + H.length) = byt T 0 := by have := h3 0; rw [Nat.add_zero] at this; exact this
  have hq : A.length + H.length = A.length ∨ A.length + 4 < A.length + H.length := by
    refine Classical.byContradiction fun h => hp ⟨hH, by omega, by omega⟩
  rw [six1_step l acc gap A.length (A.length + H.length) hc h1, hb, if_neg, if_pos (.inr hq)]
  rintro ⟨h5, h6⟩
  rcases hT with h | h
  · rw [h] at h4; simp at h4; omega
  · rw [h] at h6; exact absurd h6 (by decide)
/-- Parts up to the end of the text, or up to a gap. -/
theorem walk_end : ∀ (ps : List Bs) (l A : Bs) (acc : List Int) (gap : Int), ps ≠ [] → l = A ++ jn ps → (∀ p ∈ ps, ∀ c ∈ p, c ≠ 58) → acc.length ≤ 8 → (gap < 0 → NoGap ps) →
    six1 l (9 - acc.length) acc gap A.length = endR (rowGo true ps []) acc gap
  | [], _, _, _, _, h, _, _, _, _ => absurd rfl h
  | p :: ps, l, A, acc, gap, _, hl, h58, hc, hg => by
    obtain ⟨H, R, rfl, hH, hR⟩ := hex_split p
    have hp58 := h58 (H ++ R) (List.mem_cons_self ..)
    obtain ⟨T, hT, hl2⟩ : ∃ T : Bs, (ps = [] ∧ T = [] ∨ ps ≠ [] ∧ T = 58 :: jn ps) ∧ l = A ++ (H ++ (R ++ T)) := by
      by_cases h : ps = []
      · exact ⟨[], .inl ⟨h, rfl⟩, by rw [hl, h]; simp [jn]⟩
      · exact ⟨58 :: jn ps, .inr ⟨h, rfl⟩, by rw [hl, jn_cons _ _ h]; simp⟩
    have hTe : T = [] ↔ ps = [] := by
      rcases hT with ⟨a, b⟩ | ⟨a, b⟩
      · simp [a, b]
      · simp [a, b]
    by_cases hRe : R = []
    · subst hRe
      rw [List.nil_append] at hl2
      rw [List.append_nil] at h58 hp58 ⊢
      have hT2 : T = [] ∨ byt T 0 = 58 := by
        rcases hT with ⟨_, h⟩ | ⟨_, h⟩
        · exact .inl h
        · right; rw [h]; rfl
      by_cases hp : Piece H
      · have hf := piece_four hp
        have hn : ¬ (((fourR H).2.2 = true ∧ true = true) ∧ ps = []) := by rw [hf]; simp
        rw [rowGo_yes hn hp, List.nil_append, rowGo_app]
        by_cases h8 : acc.length = 8
        · rw [show endR ([hexW H] ++ (rowGo true ps []).1, (rowGo true ps []).2) acc gap = wrong6 by unfold endR; rw [if_neg (by rintro ⟨-, h⟩; rw [List.length_append, List.length_singleton] at h; omega)]]
          have hO : Off T := by rcases hT2 with h | h; exact .inl h; exact .inr (by rw [h]; decide)
          obtain ⟨e1, e2, e3, e4⟩ := six_at (l := l) (A := A) (P := H) (Q := T) (acc := acc) hl2 hH hO hc
          have hb : byt l (A.length + H.length) = byt T 0 := by have := e3 0; rw [Nat.add_zero] at this; exact this
          rw [six1_step l acc gap A.length (A.length + H.length) hc e1, hb, if_neg, if_pos (.inl h8)]
          rintro ⟨h5, h6⟩
          rcases hT2 with h | h
          · rw [h] at e4; simp at e4; omega
          · rw [h] at h6; exact absurd h6 (by decide)
        · rcases hT with ⟨hps, hTn⟩ | ⟨hps, hTn⟩
          · subst hps hTn
            rw [List.append_nil] at hl2
            rw [six_end hl2 hp (by omega)]
            unfold endR
            rw [if_pos (by exact ⟨rfl, by show acc.length + 1 ≤ 8; omega⟩)]
            rfl
          · subst hTn
            by_cases hj : jn ps = []
            · have hrow : (rowGo true ps []).2 = false := by
                match ps, hps, hj with
                | q :: qs, _, hj =>
                  have hq : q = [] ∧ qs = [] := by
                    by_cases hqs : qs = []
                    · subst hqs; exact ⟨hj, rfl⟩
                    · rw [jn_cons _ _ hqs] at hj; simp at hj
                  obtain ⟨rfl, rfl⟩ := hq
                  decide +kernel
              rw [hj] at hl2
              rw [six_colon hl2 hp (by omega), endR_no (o := ([hexW H] ++ (rowGo true ps []).1, (rowGo true ps []).2)) _ _ hrow]
            · by_cases h1 : byt (jn ps) 0 = 58
              · obtain ⟨q, qs, rfl⟩ : ∃ q qs, ps = q :: qs := by
                  match ps, hps with
                  | q :: qs, _ => exact ⟨q, qs, rfl⟩
                have hq : q = [] := by
                  match q, h58 q (by simp) with
                  | [], _ => rfl
                  | c :: r, h =>
                    exfalso
                    have hc58 := h c (by simp)
                    apply hc58
                    have h1' : (c.toNat : Int) = 58 := by
                      by_cases hqs : qs = []
                      · subst hqs; exact h1
                      · rw [jn_cons _ _ hqs] at h1; exact h1
                    apply UInt8.toNat_inj.1; show c.toNat = 58; omega
                subst hq
                have hrow : (rowGo true ([] :: qs) []).2 = false := rowGo_no (fun hh => by rw [show (fourR []).2.2 = false by decide +kernel] at hh; cases hh.1.1) (by decide +kernel)
                rw [endR_no (o := ([hexW H] ++ (rowGo true ([] :: qs) []).1, (rowGo true ([] :: qs) []).2)) _ _ hrow]
                have hqs : qs ≠ [] := by intro h; subst h; exact hj rfl
                have hgn : ¬ gap < 0 := fun hgl => by
                  have := hg hgl
                  match qs, hqs, this with
                  | r :: rs, _, this => exact this.1 rfl
                rw [jn_cons _ _ hqs] at hl2
                obtain ⟨e1, e2, e3, e4⟩ := six_at (l := l) (A := A) (P := H) (Q := 58 :: ([] ++ 58 :: jn qs)) (acc := acc) hl2 hH (.inr (by rw [byt0]; decide)) hc
                have hb : byt l (A.length + H.length) = 58 := by have := e3 0; exact this
                have hb1 : byt l (A.length + H.length + 1) = 58 := by have := e3 1; exact this
                have := hp.lo
                have := hp.hi
                simp at e4
                rw [six1_step l acc gap A.length (A.length + H.length) hc e1, if_neg (by rw [hb]; omega), if_neg (by omega), if_neg (by omega), if_neg (by rw [hb]; omega), if_neg (by rw [hb1]; omega), if_pos (by omega)]
              · rw [six_on hl2 hp hj h1 (by omega)]
                rw [walk_end ps l (A ++ (H ++ [58])) (acc ++ [hexW H]) gap hps (by rw [hl2]; simp) (fun q hq => h58 q (by simp [hq])) (by simp; omega) (fun hgl => by
                  have := hg hgl
                  match ps, hps, this with
                  | [_], _, _ => trivial
                  | q :: r :: rs, _, this => exact this.2)]
                unfold endR
                dsimp only
                simp only [List.length_append, List.length_singleton, List.append_assoc, Nat.add_assoc]
      · have hrow : (rowGo true (H :: ps) []).2 = false := by
          refine rowGo_no ?_ (pieceR_no hp)
          rintro ⟨⟨hh, -⟩, -⟩
          have := four_first (H := H) (R := []) hH (.inl rfl) (by rw [List.append_nil]; exact hh)
          exact absurd this.2.1 (by simp)
        rw [part_digits hl2 hH hT2 hp hc, endR_no _ _ hrow]
    · rw [part_off hl2 hH hR hRe (fun c hcm => hp58 c (by simp [hcm])) (fun h => by
        rcases hT with ⟨_, h2⟩ | ⟨_, h2⟩
        · exact absurd h2 h
        · rw [h2]; simp) hc]
      have hnp : ¬ Piece (H ++ R) := not_piece hRe hR
      by_cases hf : T = [] ∧ (fourR (H ++ R)).2.2 = true
      · rw [if_pos hf, rowGo, if_pos ⟨⟨hf.2, rfl⟩, hTe.1 hf.1⟩]
        rfl
      · rw [if_neg hf, endR_no _ _ (rowGo_no (fun hh => hf ⟨hTe.2 hh.2, hh.1.1⟩) (pieceR_no hnp))]
end Go.Proofs.YtklgahppjdgkmaaDoor
