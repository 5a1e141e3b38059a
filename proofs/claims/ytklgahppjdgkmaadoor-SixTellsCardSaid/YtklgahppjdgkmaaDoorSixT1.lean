/- ip6: the document's own answer is the program's: parts between : . -/
import Derived.Test.YtklgahppjdgkmaaDoorSixE
set_option linter.unusedVariables false
set_option linter.unusedSimpArgs false
namespace Go.Proofs.YtklgahppjdgkmaaDoor
open Go Go.Proofs Go.RowKit Go.Vc
theorem rowGo_app (last : Bool) : ∀ (ps : List Bs) (o : List Int), rowGo last ps o = (o ++ (rowGo last ps []).1, (rowGo last ps []).2)
  | [], o => by simp [rowGo]
  | p :: ps, o => by
    unfold rowGo
    split
    · simp
    · split
      · rw [rowGo_app last ps (o ++ [(pieceR p).1]), rowGo_app last ps ([] ++ [(pieceR p).1])]
        simp
      · simp
theorem jn_cons (p : Bs) (ps : List Bs) (h : ps ≠ []) : jn (p :: ps) = p ++ 58 :: jn ps := by rw [jn, if_neg h]
theorem jn_split : ∀ l : Bs, jn (splitB 58 l) = l
  | [] => rfl
  | b :: t => by
    obtain ⟨h, r, e⟩ := splitB_some 58 t
    have ih := jn_split t
    by_cases hb : (b.toNat : Int) = 58
    · have : b = 58 := by apply UInt8.toNat_inj.1; show b.toNat = 58; omega
      rw [splitB_yes hb, jn_cons _ _ (by rw [e]; simp), ih, this]; rfl
    · rw [splitB_no hb e]
      rw [e] at ih
      cases r with
      | nil =>
        have h1 : jn [h] = h := rfl
        have h2 : jn [b :: h] = b :: h := rfl
        rw [h1] at ih; rw [h2, ih]
      | cons q qs =>
        rw [jn_cons _ _ (by simp)] at ih ⊢
        rw [List.cons_append, ih]
theorem split_no58 (l : Bs) : ∀ p ∈ splitB 58 l, ∀ c ∈ p, c ≠ 58 := by
  induction l with
  | nil => intro p hp c hc; have : p = [] := by simpa [splitB] using hp
           rw [this] at hc; cases hc
  | cons b t ih =>
    intro p hp c hc
    obtain ⟨h, r, e⟩ := splitB_some 58 t
    by_cases hb : (b.toNat : Int) = 58
    · rw [splitB_yes hb, List.mem_cons] at hp
      rcases hp with rfl | hp
      · cases hc
      · exact ih p hp c hc
    · rw [splitB_no hb e, List.mem_cons] at hp
      rw [e] at ih
      rcases hp with rfl | hp
      · rcases List.mem_cons.1 hc with rfl | hc
        · intro h58; exact hb (by rw [h58]; rfl)
        · exact ih h (by simp) c hc
      · exact ih p (by simp [hp]) c hc
/-- The hex digits ahead, and what comes then. -/
theorem hex_split : ∀ p : Bs, ∃ H R, p = H ++ R ∧ HexB H ∧ Off R
  | [] => ⟨[], [], rfl, (fun c hc => by cases hc), .inl rfl⟩
  | b :: t => by
    by_cases hb : 0 ≤ hexN (b.toNat : Int)
    · obtain ⟨H, R, e, hH, hR⟩ := hex_split t
      exact ⟨b :: H, R, by rw [e]; rfl, (fun c hc => by rcases List.mem_cons.1 hc with rfl | hc; exact hb; exact hH c hc), hR⟩
    · exact ⟨[], b :: t, rfl, (fun c hc => by cases hc), .inr (by rw [byt0]; omega)⟩
theorem pieceV_yes : ∀ (H : Bs) (k : Nat) (n : Int), HexB H → H.length ≤ k → pieceV k n H = (H.foldl (fun v b => v * 16 + hexN (b.toNat : Int)) n, true)
  | [], 0, n, _, _ => rfl
  | [], k + 1, n, _, _ => rfl
  | c :: r, 0, n, _, h => by simp at h
  | c :: r, k + 1, n, hh, h => by
    have := hh c (List.mem_cons_self ..)
    rw [pieceV, if_neg (by omega), pieceV_yes r k _ (fun d hd => hh d (List.mem_cons_of_mem _ hd)) (by simpa using h)]
    rfl
theorem pieceV_no : ∀ (p : Bs) (k : Nat) (n : Int), ¬ HexB p → p.length ≤ k → (pieceV k n p).2 = false
  | [], k, n, h, _ => absurd (fun c hc => by cases hc) h
  | c :: r, 0, n, _, h => by simp at h
  | c :: r, k + 1, n, hh, h => by
    rw [pieceV]
    by_cases hc : hexN (c.toNat : Int) < 0
    · rw [if_pos hc]
    · rw [if_neg hc]
      refine pieceV_no r k _ (fun hr => hh fun d hd => ?_) (by simpa using h)
      rcases List.mem_cons.1 hd with rfl | hd
      · omega
      · exact hr d hd
/-- What the document says of a piece. -/
theorem pieceR_yes {p : Bs} (hp : Piece p) : pieceR p = (hexW p, true) := by
  have := hp.lo
  have := hp.hi
  unfold pieceR
  rw [pieceV_yes p 5 0 hp.hex (by omega), decide_eq_true ⟨hp.lo, hp.hi⟩]
  rfl
theorem pieceR_no {p : Bs} (hp : ¬ Piece p) : (pieceR p).2 = false := by
  unfold pieceR
  dsimp only
  by_cases hl : 1 ≤ p.length ∧ p.length ≤ 4
  · rw [pieceV_no p 5 0 (fun hh => hp ⟨hh, hl.1, hl.2⟩) (by omega)]; rfl
  · rw [decide_eq_false hl, Bool.and_false]
/-- Four numbers: behind the first digits stands a dot. -/
theorem four_first {H R : Bs} (hH : HexB H) (hR : Off R) (h : (fourR (H ++ R)).2.2 = true) : byt R 0 = 46 ∧ 1 ≤ R.length ∧ ¬ (58 : UInt8) ∈ H ++ R := by
  have hd : dotO (H ++ R) = true := by rw [(dot_four _).1]; exact h
  unfold dotO at hd
  rw [Bool.and_eq_true] at hd
  have hl : showL (dotV (H ++ R)).toNat = H ++ R := by simpa using hd.2
  obtain ⟨P, Q, hs, hP, hP1⟩ := show_first (dotV (H ++ R)).toNat
  rw [hl] at hs
  have e1 := hexLen_piece hH hR
  have e2 := hexLen_piece hP (r := 46 :: Q) (.inr (by rw [byt0]; decide))
  rw [hs, e2] at e1
  have e3 : R = 46 :: Q := by
    have := congrArg (List.drop P.length) hs
    rw [List.drop_left, e1, List.drop_left] at this
    exact this
  refine ⟨by rw [e3]; rfl, by rw [e3]; simp, ?_⟩
  rw [← hl, show_join]
  have dig : ∀ x, ¬ (58 : UInt8) ∈ digB 10 x := fun x hx => by
    have ho := digB_only (b := 10) (.inr (.inl rfl)) x
    obtain ⟨i, hi, e⟩ := List.getElem_of_mem hx
    have := (onlyB_at 10 _ ho i hi).1
    unfold byt at this
    rw [List.getD_eq_getElem?_getD, List.getElem?_eq_getElem hi] at this
    have e' : (some (digB 10 x)[i]).getD 0 = 58 := by rw [e]; rfl
    rw [e'] at this
    exact absurd this (by decide)
  intro hm
  have hm2 : (58 : UInt8) ∈ digB 10 (q0 (dotV (H ++ R)).toNat) ++ 46 :: (digB 10 (q1 (dotV (H ++ R)).toNat) ++ 46 :: (digB 10 (q2 (dotV (H ++ R)).toNat) ++ 46 :: digB 10 (q3 (dotV (H ++ R)).toNat))) := hm
  simp only [List.mem_append, List.mem_cons] at hm2
  rcases hm2 with h | h | h | h | h | h | h
  · exact dig _ h
  · exact absurd h (by decide)
  · exact dig _ h
  · exact absurd h (by decide)
  · exact dig _ h
  · exact absurd h (by decide)
  · exact dig _ h
end Go.Proofs.YtklgahppjdgkmaaDoor
