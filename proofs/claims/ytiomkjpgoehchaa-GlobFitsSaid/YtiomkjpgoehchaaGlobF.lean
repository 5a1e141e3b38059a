/- The plain mathematics of GlobFits, GlobTurns. No program. -/
import Derived.Test.YtiomkjpgoehchaaGlobM
set_option linter.unusedVariables false
set_option linter.unusedSimpArgs false
namespace Go.Proofs.Ytiomkjpgoehchaa

theorem byt_app_lt (a b : List UInt8) (i : Nat) (h : i < a.length) : byt (a ++ b) i = byt a i := by
  unfold byt; simp [List.getD, List.getElem?_append_left h]
theorem byt_app_ge (a b : List UInt8) (i : Nat) (h : a.length ≤ i) : byt (a ++ b) i = byt b (i - a.length) := by
  unfold byt; simp [List.getD, List.getElem?_append_right h]
theorem no_app {a b : List UInt8} (h : ∀ q, q < (a ++ b).length → byt (a ++ b) q ≠ 42) : (∀ q, q < a.length → byt a q ≠ 42) ∧ (∀ q, q < b.length → byt b q ≠ 42) := by
  constructor
  · intro q hq
    have := h q (by rw [List.length_append]; omega)
    rwa [byt_app_lt a b q hq] at this
  · intro q hq
    have := h (a.length + q) (by rw [List.length_append]; omega)
    rwa [byt_app_ge a b _ (by omega), Nat.add_sub_cancel_left] at this
theorem fstar_none {l : List UInt8} (h : ∀ q, q < l.length → byt l q ≠ 42) : fstar l = l.length := fstar_eq l l.length (Nat.le_refl _) h (fun h => by omega)
theorem fstar_app {a b : List UInt8} (h : ∀ q, q < a.length → byt a q ≠ 42) : fstar (a ++ 42 :: b) = a.length :=
  fstar_eq _ _ (by simp) (fun q hq => by rw [byt_app_lt a _ q hq]; exact h q hq) (fun _ => by rw [byt_app_ge a _ _ (Nat.le_refl _), Nat.sub_self]; rfl)
theorem fits_one {a t b : List UInt8} (h : ∀ q, q < (a ++ b).length → byt (a ++ b) q ≠ 42) : fitsL (a ++ 42 :: b) (a ++ (t ++ b)) = decide (0 < t.length) ∧ mtchL (a ++ 42 :: b) (a ++ (t ++ b)) = t := by
  obtain ⟨ha, hb⟩ := no_app h
  have e1 : fstar (a ++ 42 :: b) = a.length := fstar_app ha
  have e2 : (a ++ 42 :: b).drop (a.length + 1) = b := by rw [List.drop_append]; simp
  have e3 : (a ++ 42 :: b).length = a.length + 1 + b.length := by simp; omega
  have e4 : (a ++ (t ++ b)).length = a.length + t.length + b.length := by simp; omega
  have e5 : oneStar (a ++ 42 :: b) = true := by
    unfold oneStar
    rw [e1, e2, fstar_none hb]
    apply decide_eq_true
    rw [e3]; omega
  have e6 : (a ++ (t ++ b)).take a.length = a := by simp
  have e7 : (a ++ 42 :: b).take a.length = a := by simp
  have e8 : (a ++ (t ++ b)).drop ((a ++ (t ++ b)).length - ((a ++ 42 :: b).length - a.length - 1)) = b := by
    rw [e3, e4, show a.length + t.length + b.length - (a.length + 1 + b.length - a.length - 1) = a.length + t.length from by omega, ← List.append_assoc, ← List.length_append]
    simp
  have hf : fitsL (a ++ 42 :: b) (a ++ (t ++ b)) = decide (0 < t.length) := by
    unfold fitsL
    rw [e1, e2, e5, e6, e7, e8, Bool.true_and]
    congr 1
    rw [e3, e4]
    apply propext
    constructor
    · rintro ⟨h, _⟩; omega
    · intro h; exact ⟨by omega, rfl, rfl⟩
  refine ⟨hf, ?_⟩
  unfold mtchL
  rw [hf]
  by_cases ht : 0 < t.length
  · rw [decide_eq_true ht, if_pos rfl]
    unfold midL
    rw [e1, e3, e4, show a.length + t.length + b.length - (a.length + 1 + b.length - a.length - 1) = a.length + t.length from by omega, ← List.append_assoc, ← List.length_append, List.take_left]
    simp
  · rw [decide_eq_false ht]
    have : t = [] := List.eq_nil_of_length_eq_zero (by omega)
    rw [this]; rfl
theorem fits_two {a b : List UInt8} (s : List UInt8) (h : ∀ q, q < (a ++ b).length → byt (a ++ b) q ≠ 42) : fitsL (a ++ 42 :: 42 :: b) s = false := by
  obtain ⟨ha, hb⟩ := no_app h
  have e1 : fstar (a ++ 42 :: 42 :: b) = a.length := fstar_app ha
  have e2 : (a ++ 42 :: 42 :: b).drop (a.length + 1) = 42 :: b := by rw [List.drop_append]; simp
  have e5 : oneStar (a ++ 42 :: 42 :: b) = false := by
    unfold oneStar
    rw [e1, e2]
    apply decide_eq_false
    rintro ⟨_, h2⟩
    apply h2
    have : fstar (42 :: b) = 0 := by unfold fstar; exact if_pos (show ((UInt8.toNat 42 : Nat) : Int) = 42 from rfl)
    rw [this]; simp
  unfold fitsL
  rw [e5]; rfl
theorem fits_none {l : List UInt8} (s : List UInt8) (h : ∀ q, q < l.length → byt l q ≠ 42) : fitsL l s = false := by
  have e5 : oneStar l = false := by
    unfold oneStar
    rw [fstar_none h]
    apply decide_eq_false
    omega
  unfold fitsL
  rw [e5]; rfl
theorem mtch_no {l s : List UInt8} (h : fitsL l s = false) : mtchL l s = [] := by unfold mtchL; rw [h]; rfl

/-- The best of some keys. -/
def IsBest (s : List UInt8) (S : List (List UInt8)) (r : Option (List UInt8)) : Prop :=
  (r = none ∧ ∀ k ∈ S, fitsL k s = false) ∨ ∃ b, r = some b ∧ b ∈ S ∧ fitsL b s = true ∧ ∀ k ∈ S, fitsL k s = true → ¬ gcmp k b < 0
theorem isBest_nil (s : List UInt8) : IsBest s [] none := .inl ⟨rfl, by simp⟩
theorem isBest_snoc {s : List UInt8} {S : List (List UInt8)} {r : Option (List UInt8)} (x : List UInt8) (h : IsBest s S r) : IsBest s (S ++ [x]) (stepB s r x) := by
  rcases h with ⟨rfl, h⟩ | ⟨b, rfl, hb, hf, h⟩
  · unfold stepB
    cases hx : fitsL x s with
    | false => exact .inl ⟨by simp, fun k hk => by
        rcases List.mem_append.1 hk with hk | hk
        · exact h k hk
        · simp at hk; rw [hk]; exact hx⟩
    | true => exact .inr ⟨x, by simp, by simp, hx, fun k hk hkf => by
        rcases List.mem_append.1 hk with hk | hk
        · rw [h k hk] at hkf; cases hkf
        · simp at hk; rw [hk, gcmp_self]; decide⟩
  · by_cases hc : fitsL x s = true ∧ gcmp x b < 0
    · have e : stepB s (some b) x = some x := by unfold stepB; exact if_pos hc
      rw [e]
      refine .inr ⟨x, rfl, by simp, hc.1, fun k hk hkf => ?_⟩
      rcases List.mem_append.1 hk with hk | hk
      · have h1 := h k hk hkf
        have h2 := hc.2
        rw [gcmp_lt] at h1 h2 ⊢
        omega
      · simp at hk; rw [hk, gcmp_self]; decide
    · have e : stepB s (some b) x = some b := by unfold stepB; exact if_neg hc
      rw [e]
      refine .inr ⟨b, rfl, by simp [hb], hf, fun k hk hkf => ?_⟩
      rcases List.mem_append.1 hk with hk | hk
      · exact h k hk hkf
      · simp at hk
        subst hk
        exact fun h => hc ⟨hkf, h⟩
theorem isBest_all (s : List UInt8) : ∀ (t S : List (List UInt8)) (r : Option (List UInt8)), IsBest s S r → IsBest s (S ++ t) (t.foldl (stepB s) r) := by
  intro t
  induction t with
  | nil => intro S r h; simpa using h
  | cons x t ih =>
    intro S r h
    have := ih (S ++ [x]) (stepB s r x) (isBest_snoc x h)
    simpa using this
theorem isBest_best (s : List UInt8) (ks : List (List UInt8)) : IsBest s ks (bestO s ks) := by
  have := isBest_all s ks [] none (isBest_nil s)
  rw [List.nil_append] at this
  exact this
theorem isBest_uniq {s : List UInt8} {S T : List (List UInt8)} {r q : Option (List UInt8)} (hST : ∀ k, k ∈ S ↔ k ∈ T) (h1 : IsBest s S r) (h2 : IsBest s T q) : r = q := by
  rcases h1 with ⟨rfl, h⟩ | ⟨b, rfl, hb, hf, h⟩
  · rcases h2 with ⟨rfl, _⟩ | ⟨c, rfl, hc, hcf, _⟩
    · rfl
    · rw [h c ((hST c).2 hc)] at hcf; cases hcf
  · rcases h2 with ⟨rfl, h'⟩ | ⟨c, rfl, hc, hcf, h'⟩
    · rw [h' b ((hST b).1 hb)] at hf; cases hf
    · have a1 := h c ((hST c).2 hc) hcf
      have a2 := h' b ((hST b).1 hb) hf
      have a3 := gcmp_neg b c
      rw [fits_same b c s hf hcf (by omega)]
theorem best_rev (s : List UInt8) (ks : List (List UInt8)) : bestO s ks.reverse = bestO s ks :=
  isBest_uniq (fun k => by simp) (isBest_best s ks.reverse) (isBest_best s ks)
theorem best_of {s : List UInt8} {ks : List (List UInt8)} {k : List UInt8} (hk : k ∈ ks) (hf : fitsL k s = true) : ∃ b, bestO s ks = some b ∧ fitsL b s = true ∧ ¬ gcmp k b < 0 := by
  rcases isBest_best s ks with ⟨_, h⟩ | ⟨b, hb, _, hbf, h⟩
  · rw [h k hk] at hf; cases hf
  · exact ⟨b, hb, hbf, h k hk hf⟩
end Go.Proofs.Ytiomkjpgoehchaa
