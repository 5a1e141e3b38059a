/- ip6: the document's own answer is the program's: the walk up to a gap. -/
import Derived.Test.YtklgahppjdgkmaaDoorSixT2
set_option linter.unusedVariables false
set_option linter.unusedSimpArgs false
namespace Go.Proofs.YtklgahppjdgkmaaDoor
open Go Go.Proofs Go.RowKit Go.Vc
/-- What is told behind a gap. -/
def endG (l : Bs) (M : Bs) (xs : List Int) (at' : Nat) : List Int × Bool := if M = [] then fin6 xs xs.length else six1 l (9 - xs.length) xs xs.length at'
theorem walk_gap (M : Bs) : ∀ (ps : List Bs) (l A : Bs) (acc : List Int) (gap : Int), ps ≠ [] → l = A ++ (jn ps ++ 58 :: 58 :: M) → (∀ p ∈ ps, ∀ c ∈ p, c ≠ 58) → acc.length ≤ 8 → gap < 0 → (∀ q ∈ ps.tail, q ≠ []) →
    six1 l (9 - acc.length) acc gap A.length = if (rowGo false ps []).2 = true ∧ acc.length + (rowGo false ps []).1.length ≤ 8 then endG l M (acc ++ (rowGo false ps []).1) (A ++ (jn ps ++ [58, 58])).length else wrong6
  | [], _, _, _, _, h, _, _, _, _, _ => absurd rfl h
  | p :: ps, l, A, acc, gap, _, hl, h58, hc, hg, hne => by
    obtain ⟨H, R, rfl, hH, hR⟩ := hex_split p
    have hp58 := h58 (H ++ R) (List.mem_cons_self ..)
    obtain ⟨T, hT, hl2⟩ : ∃ T : Bs, (ps = [] ∧ T = 58 :: 58 :: M ∨ ps ≠ [] ∧ T = 58 :: (jn ps ++ 58 :: 58 :: M)) ∧ l = A ++ (H ++ (R ++ T)) := by
      by_cases h : ps = []
      · exact ⟨58 :: 58 :: M, .inl ⟨h, rfl⟩, by rw [hl, h]; simp [jn]⟩
      · exact ⟨58 :: (jn ps ++ 58 :: 58 :: M), .inr ⟨h, rfl⟩, by rw [hl, jn_cons _ _ h]; simp⟩
    have hTb : byt T 0 = 58 ∧ T ≠ [] := by
      rcases hT with ⟨_, h⟩ | ⟨_, h⟩ <;> rw [h] <;> exact ⟨rfl, by simp⟩
    have hfal : ∀ (q : Bs) (qs : List Bs), ¬ (((fourR q).2.2 = true ∧ false = true) ∧ qs = []) := fun q qs h => by cases h.1.2
    have wrongs : (rowGo false ((H ++ R) :: ps) []).2 = false → wrong6 = if (rowGo false ((H ++ R) :: ps) []).2 = true ∧ acc.length + (rowGo false ((H ++ R) :: ps) []).1.length ≤ 8 then endG l M (acc ++ (rowGo false ((H ++ R) :: ps) []).1) (A ++ (jn ((H ++ R) :: ps) ++ [58, 58])).length else wrong6 := fun h => by
      rw [if_neg (by rw [h]; simp)]
    by_cases hRe : R = []
    · subst hRe
      rw [List.nil_append] at hl2
      rw [List.append_nil] at h58 hp58 wrongs ⊢
      by_cases hp : Piece H
      · rw [rowGo_yes (hfal _ _) hp, List.nil_append, rowGo_app]
        by_cases h8 : acc.length = 8
        · rw [if_neg (by rintro ⟨-, h⟩; dsimp only at h; rw [List.length_append, List.length_singleton] at h; omega)]
          have hO : Off T := .inr (by rw [hTb.1]; decide)
          obtain ⟨e1, e2, e3, e4⟩ := six_at (l := l) (A := A) (P := H) (Q := T) (acc := acc) hl2 hH hO hc
          have hb : byt l (A.length + H.length) = byt T 0 := by have := e3 0; rw [Nat.add_zero] at this; exact this
          rw [six1_step l acc gap A.length (A.length + H.length) hc e1, hb, hTb.1, if_neg (fun h => absurd h.2 (by decide)), if_pos (.inl h8)]
        · rcases hT with ⟨hps, hTn⟩ | ⟨hps, hTn⟩
          · subst hps hTn
            rw [six_gap hl2 hp (by omega) hg]
            have e : rowGo false [] [] = ([], true) := rfl
            rw [e]
            dsimp only
            rw [List.append_nil]
            refine Eq.trans ?_ (if_pos (show true = true ∧ acc.length + [hexW H].length ≤ 8 from ⟨rfl, by show acc.length + 1 ≤ 8; omega⟩)).symm
            unfold endG
            have e2 : (acc ++ [hexW H]).length = acc.length + 1 := by simp
            rw [e2]
            rfl
          · subst hTn
            obtain ⟨q, qs, rfl⟩ : ∃ q qs, ps = q :: qs := by
              match ps, hps with
              | q :: qs, _ => exact ⟨q, qs, rfl⟩
            have hq : q ≠ [] := hne q (by simp)
            have h1 : byt (jn (q :: qs) ++ 58 :: 58 :: M) 0 ≠ 58 := by
              match q, hq, h58 q (by simp) with
              | c :: r, _, h =>
                have hc58 := h c (by simp)
                have e : byt (jn ((c :: r) :: qs) ++ 58 :: 58 :: M) 0 = (c.toNat : Int) := by
                  by_cases hqs : qs = []
                  · subst hqs; rfl
                  · rw [jn_cons _ _ hqs]; rfl
                rw [e]
                intro hh
                apply hc58
                apply UInt8.toNat_inj.1; show c.toNat = 58; omega
            rw [six_on hl2 hp (by simp) h1 (by omega)]
            rw [walk_gap M (q :: qs) l (A ++ (H ++ [58])) (acc ++ [hexW H]) gap (by simp) (by rw [hl2]; simp) (fun r hr => h58 r (List.mem_cons_of_mem _ hr)) (by simp; omega) hg (fun r hr => hne r (List.mem_cons_of_mem _ hr))]
            rw [jn_cons H (q :: qs) (by simp)]
            have e3 : (A ++ (H ++ [58]) ++ (jn (q :: qs) ++ [58, 58])).length = (A ++ (H ++ 58 :: jn (q :: qs) ++ [58, 58])).length := by
              congr 1; simp
            have e4 : (acc ++ [hexW H]).length + (rowGo false (q :: qs) []).1.length = acc.length + ([hexW H] ++ (rowGo false (q :: qs) []).1).length := by
              rw [List.length_append, List.length_append]; omega
            rw [e3, e4, List.append_assoc acc [hexW H]]
      · have hrow : (rowGo false (H :: ps) []).2 = false := rowGo_no (hfal _ _) (pieceR_no hp)
        rw [part_digits hl2 hH (.inr hTb.1) hp hc]
        exact wrongs hrow
    · rw [part_off hl2 hH hR hRe (fun c hcm => hp58 c (by simp [hcm])) (fun h => by
        rcases hT with ⟨_, h2⟩ | ⟨_, h2⟩ <;> rw [h2] <;> simp) hc, if_neg (fun h => hTb.2 h.1)]
      exact wrongs (rowGo_no (hfal _ _) (pieceR_no (not_piece hRe hR)))
end Go.Proofs.YtklgahppjdgkmaaDoor
