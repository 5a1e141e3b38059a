/- The plain mathematics of layer 4's laws. No program. -/
import Derived.Test.YtpaklakjmmbboaaPctE
set_option linter.unusedVariables false
set_option linter.unusedSimpArgs false
namespace Go.Proofs.Ytpaklakjmmbboaa
open Go.RowKit

theorem up_hex (n : Int) (h0 : 0 ≤ n) (h1 : n < 16) : hexN ((up n).toNat : Int) = n ∧ (up n).toNat ≠ 37 := by
  obtain ⟨m, rfl⟩ := Int.eq_ofNat_of_zero_le h0
  have key : ∀ m : Fin 16, hexN ((up (m.val : Int)).toNat : Int) = (m.val : Int) ∧ (up (m.val : Int)).toNat ≠ 37 := by decide +kernel
  exact key ⟨m, by omega⟩
theorem byt_cons3 (x y z : UInt8) (t : List UInt8) : byt (x :: y :: z :: t) 0 = x.toNat ∧ byt (x :: y :: z :: t) 1 = y.toNat ∧ byt (x :: y :: z :: t) 2 = z.toNat := ⟨rfl, rfl, rfl⟩
theorem pdec_hex (b : UInt8) (t : List UInt8) : pdec (37 :: up ((b.toNat : Int) / 16) :: up ((b.toNat : Int) % 16) :: t) = b :: pdec t := by
  have hb := b.toNat_lt
  obtain ⟨e1, _⟩ := up_hex ((b.toNat : Int) / 16) (by omega) (by omega)
  obtain ⟨e2, _⟩ := up_hex ((b.toNat : Int) % 16) (by omega) (by omega)
  have hp : isPair (37 :: up ((b.toNat : Int) / 16) :: up ((b.toNat : Int) % 16) :: t) 0 := by
    refine ⟨rfl, by simp, ?_, ?_⟩
    · show 0 ≤ hexN ((up ((b.toNat : Int) / 16)).toNat : Int); rw [e1]; omega
    · show 0 ≤ hexN ((up ((b.toNat : Int) % 16)).toNat : Int); rw [e2]; omega
  have := pdec_pair hp
  rw [List.drop_zero] at this
  rw [this]
  show mkB (hexN ((up ((b.toNat : Int) / 16)).toNat : Int) * 16 + hexN ((up ((b.toNat : Int) % 16)).toNat : Int)) :: pdec t = _
  rw [e1, e2, show (b.toNat : Int) / 16 * 16 + (b.toNat : Int) % 16 = (b.toNat : Int) from by omega, mkB_toNat]
theorem pdec_cons (b : UInt8) (t : List UInt8) (h : ¬ isPair (b :: t) 0) : pdec (b :: t) = b :: pdec t := by
  have := pdec_one (l := b :: t) (k := 0) (by simp) h
  rw [List.drop_zero] at this
  rw [this]
  show mkB (b.toNat : Int) :: pdec t = _
  rw [mkB_toNat]
theorem pdec_cons_ne (b : UInt8) (t : List UInt8) (h : (b.toNat : Int) ≠ 37) : pdec (b :: t) = b :: pdec t := pdec_cons b t fun hp => h hp.1
theorem pdec_penc (has l : List UInt8) (h : inB has 37 = true) : pdec (penc has l) = l := by
  induction l with
  | nil => rfl
  | cons b t ih =>
    show pdec (pe has b ++ penc has t) = _
    unfold pe
    split
    · show pdec (37 :: up _ :: up _ :: penc has t) = _
      rw [pdec_hex, ih]
    · rename_i hb
      show pdec (b :: penc has t) = _
      rw [pdec_cons_ne, ih]
      intro e
      rw [e, h] at hb
      exact hb rfl
theorem back_eq (l : List UInt8) (h : validL l = true) : pdec (pencL 6 l) = l := by
  unfold pencL
  rw [if_pos (by decide), plainL_valid h]
  exact pdec_penc _ _ (by decide)

/-- What a set without % makes of a text: nothing of the set. -/
theorem penc_all (has l : List UInt8) (h37 : inB has 37 = false) (hup : ∀ m : Fin 16, inB has ((up (m.val : Int)).toNat : Int) = false) : ∀ b ∈ penc has l, inB has (b.toNat : Int) = false := by
  induction l with
  | nil => intro b hb; cases hb
  | cons c t ih =>
    intro b hb
    have hb : b ∈ pe has c ++ penc has t := hb
    rcases List.mem_append.1 hb with hb | hb
    · unfold pe at hb
      have hc := c.toNat_lt
      split at hb
      · simp only [List.mem_cons, List.not_mem_nil, or_false] at hb
        rcases hb with rfl | rfl | rfl
        · exact h37
        · have := hup ⟨c.toNat / 16, by omega⟩
          simpa using this
        · have := hup ⟨c.toNat % 16, by omega⟩
          simpa using this
      · rename_i hcc
        simp only [List.mem_cons, List.not_mem_nil, or_false] at hb
        rw [hb]; simpa using hcc
    · exact ih b hb
theorem set_free (k : Int) (h : 0 ≤ k ∧ k ≤ 5) : inB (moreS k) 37 = false ∧ ∀ m : Fin 16, inB (moreS k) ((up (m.val : Int)).toNat : Int) = false := by
  obtain ⟨n, rfl⟩ := Int.eq_ofNat_of_zero_le h.1
  have key : ∀ n : Fin 6, inB (moreS (n.val : Int)) 37 = false ∧ ∀ m : Fin 16, inB (moreS (n.val : Int)) ((up (m.val : Int)).toNat : Int) = false := by decide +kernel
  exact key ⟨n, by omega⟩
theorem valid_ascii : ∀ (l : List UInt8), (∀ b ∈ l, (b.toNat : Int) ≤ 127) → validL l = true := by
  intro l
  induction l with
  | nil => intro _; rfl
  | cons b t ih =>
    intro h
    rw [validL_cons (by simp), nextL_1 (l := b :: t) (by simp) (h b List.mem_cons_self)]
    exact ih fun c hc => h c (List.mem_cons_of_mem _ hc)
theorem inB_false_lo {has : List UInt8} {c : Int} (h0 : 0 ≤ c) (h1 : c ≤ 255) (h : inB has c = false) : c ≤ 126 := by
  rcases Int.lt_or_le 126 c with h2 | h2
  · rw [inB_high h0 (by omega) (.inr h2)] at h; cases h
  · exact h2
theorem mem_byt_i {l : List UInt8} {i : Nat} (hi : i < l.length) : l.getD i 0 ∈ l := by
  rw [List.getD_eq_getElem?_getD, List.getElem?_eq_getElem hi]
  exact List.getElem_mem _
theorem once_eq (k : Int) (l : List UInt8) (hk : 0 ≤ k ∧ k ≤ 5) :
    (∀ i, i < (pencL k l).length → pinB k (byt (pencL k l) i) = false) ∧ pencL k (pencL k l) = pencL k l ∧ (decL l).length ≤ (pencL k l).length := by
  have hok : moreOk k = true := moreOk_t ⟨hk.1, by omega⟩
  have hs := set_free k hk
  have hall := penc_all (moreS k) (plainL l) hs.1 hs.2
  have e : pencL k l = penc (moreS k) (plainL l) := by unfold pencL; rw [if_pos hok]
  have hpl : (plainL l).length ≤ (penc (moreS k) (plainL l)).length := by
    generalize plainL l = p
    unfold penc
    induction p with
    | nil => simp
    | cons b t ih =>
      have : 1 ≤ (pe (moreS k) b).length := by unfold pe; split <;> simp
      rw [List.flatMap_cons, List.length_append, List.length_cons]; omega
  rw [e]
  generalize hp : penc (moreS k) (plainL l) = p at *
  have hin : ∀ i, i < p.length → inB (moreS k) (byt p i) = false := fun i hi => hall _ (mem_byt_i hi)
  refine ⟨fun i hi => by unfold pinB; rw [hin i hi, hok]; rfl, ?_, ?_⟩
  · unfold pencL
    rw [if_pos hok, plainL_valid (valid_ascii p fun b hb => ?_), penc_none _ _ hin]
    have := b.toNat_lt
    have := inB_false_lo (by omega) (by omega) (hall b hb)
    omega
  · have := (encL_len (decL l)).1
    have h2 : (encL (decL l)).length = (plainL l).length := rfl
    omega

theorem half_eq (a b c : Int) (ha0 : 0 ≤ a) (ha : a ≤ 255) (hb0 : 0 ≤ b) (hb : b ≤ 255) (hc0 : 0 ≤ c) (hc : c ≤ 255) (h : ¬ (0 ≤ hexN a ∧ 0 ≤ hexN b)) (h1 : a ≠ 37) (h2 : b ≠ 37) (h3 : c ≠ 37) :
    pdec [37, mkB a, mkB b, mkB c] = [37, mkB a, mkB b, mkB c] := by
  rw [pdec_cons, pdec_cons_ne, pdec_cons_ne, pdec_cons_ne]
  · rfl
  · rw [mkB_val hc0 hc]; exact h3
  · rw [mkB_val hb0 hb]; exact h2
  · rw [mkB_val ha0 ha]; exact h1
  · rintro ⟨_, _, p, q⟩
    apply h
    have p : 0 ≤ hexN ((mkB a).toNat : Int) := p
    have q : 0 ≤ hexN ((mkB b).toNat : Int) := q
    rw [mkB_val ha0 ha] at p
    rw [mkB_val hb0 hb] at q
    exact ⟨p, q⟩

theorem plain_append (a b : List UInt8) (h : validL a = true) : plainL (a ++ b) = plainL a ++ plainL b := by
  unfold plainL
  rw [(dec_append _ a b (Nat.le_refl _) h).1, encL_append]
theorem penc_joins (k : Int) (a b : List UInt8) (h : validL a = true) : pencL k (a ++ b) = pencL k a ++ pencL k b := by
  unfold pencL
  rw [plain_append a b h]
  split
  · exact penc_append _ _ _
  · rfl
/-- A text is read as its parts are, if the first one's last two bytes are no %. -/
theorem pdec_joins : ∀ (n : Nat) (a b : List UInt8), a.length ≤ n → (∀ i, i < a.length → a.length - 2 ≤ i → byt a i ≠ 37) → pdec (a ++ b) = pdec a ++ pdec b := by
  intro n
  induction n with
  | zero =>
    intro a b h _
    obtain rfl : a = [] := List.eq_nil_of_length_eq_zero (by omega)
    rw [pdec_nil (l := []) rfl]; rfl
  | succ n ih =>
    intro a b h hl
    match a, h, hl with
    | [], _, _ => rw [pdec_nil (l := []) rfl]; rfl
    | x :: t, h, hl =>
      have ht : ∀ i, i < t.length → t.length - 2 ≤ i → byt t i ≠ 37 := fun i hi hi2 => by
        have := hl (i + 1) (by simp; omega) (by simp; omega)
        rwa [byt_succ] at this
      by_cases hx : (x.toNat : Int) = 37
      · match t, h, hl, ht with
        | [], h, hl, ht => exact absurd hx (hl 0 (by simp) (by simp))
        | [y], h, hl, ht => exact absurd hx (hl 0 (by simp) (by simp))
        | y :: z :: u, h, hl, ht =>
          by_cases hp : isPair (x :: y :: z :: u) 0
          · have hp2 : isPair (x :: y :: z :: (u ++ b)) 0 := ⟨hp.1, by simp, hp.2.2.1, hp.2.2.2⟩
            have e1 := pdec_pair hp
            have e2 := pdec_pair hp2
            rw [List.drop_zero] at e1 e2
            have e3 : pdec (x :: y :: z :: u) = mkB (hexN (byt (x :: y :: z :: u) (0 + 1)) * 16 + hexN (byt (x :: y :: z :: u) (0 + 2))) :: pdec u := e1
            have e4 : pdec (x :: y :: z :: (u ++ b)) = mkB (hexN (byt (x :: y :: z :: u) (0 + 1)) * 16 + hexN (byt (x :: y :: z :: u) (0 + 2))) :: pdec (u ++ b) := e2
            show pdec (x :: y :: z :: (u ++ b)) = _
            rw [e3, e4, ih u b (by simp at h; omega) fun i hi hi2 => by
              have := ht (i + 2) (by simp; omega) (by simp; omega)
              rwa [byt_succ, byt_succ] at this]
            rfl
          · have hp2 : ¬ isPair (x :: (y :: z :: u ++ b)) 0 := fun c => hp ⟨c.1, by simp, c.2.2.1, c.2.2.2⟩
            show pdec (x :: (y :: z :: u ++ b)) = _
            rw [pdec_cons x _ hp, pdec_cons x _ hp2, ih (y :: z :: u) b (by simp at h ⊢; omega) ht]
            rfl
      · show pdec (x :: (t ++ b)) = _
        rw [pdec_cons_ne x _ hx, pdec_cons_ne x _ hx, ih t b (by simp at h; omega) ht]
        rfl
end Go.Proofs.Ytpaklakjmmbboaa
