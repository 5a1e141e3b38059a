/- The plain mathematics of utf: there and back. No program. -/
import Derived.Test.YtkdmmmheciffgaaPure
set_option linter.unusedVariables false
set_option linter.unusedSimpArgs false
namespace Go.Proofs.Ytkdmmmheciffgaa

theorem mkB_toNat (b : UInt8) : mkB (b.toNat : Int) = b := by unfold mkB; simp
theorem byt_zero (b : UInt8) (t : List UInt8) : byt (b :: t) 0 = (b.toNat : Int) := rfl
theorem byt_succ (b : UInt8) (t : List UInt8) (i : Nat) : byt (b :: t) (i + 1) = byt t i := by unfold byt; simp [List.getD]
theorem shp1 {c : Int} (h0 : 194 ≤ c) (h1 : c ≤ 223) : shp c = (1, 128, 191) := by unfold shp; rw [if_neg (by omega), if_pos (by omega)]
theorem shp2 {c : Int} (h0 : 224 ≤ c) (h1 : c ≤ 239) : shp c = (2, if c = 224 then 160 else 128, if c = 237 then 159 else 191) := by
  unfold shp; rw [if_neg (by omega), if_neg (by omega)]; (repeat' split) <;> first | rfl | (exfalso; omega)
theorem shp3 {c : Int} (h0 : 240 ≤ c) (h1 : c ≤ 244) : shp c = (3, if c = 240 then 144 else 128, if c = 244 then 143 else 191) := by
  unfold shp; rw [if_neg (by omega), if_neg (by omega), if_neg (by omega), if_neg (by omega), if_neg (by omega)]; (repeat' split) <;> first | rfl | (exfalso; omega)
theorem shp0 {c : Int} (h : c < 194 ∨ 244 < c) : shp c = (0, 0, 0) := by unfold shp; rw [if_pos h]

theorem nextL_1 {l : List UInt8} (hl : 0 < l.length) (h : byt l 0 ≤ 127) : nextL l = (byt l 0, 1, true) := by unfold nextL; rw [if_neg (by omega), if_pos h]
theorem nextL_0 {l : List UInt8} (hl : 0 < l.length) (h : 127 < byt l 0) (h2 : byt l 0 < 194 ∨ 244 < byt l 0) : nextL l = (65533, 1, false) := by
  unfold nextL; rw [if_neg (by omega), if_neg (by omega), shp0 h2, if_pos rfl]
theorem nextL_2 {l : List UInt8} (hl : 0 < l.length) (h0 : 194 ≤ byt l 0) (h1 : byt l 0 ≤ 223) : nextL l = nl l 1 1 (byt l 0 % 32) 128 191 := by
  unfold nextL; rw [if_neg (by omega), if_neg (by omega), shp1 h0 h1, if_neg (by decide)]; rfl
theorem nextL_3 {l : List UInt8} (hl : 0 < l.length) (h0 : 224 ≤ byt l 0) (h1 : byt l 0 ≤ 239) : nextL l = nl l 2 1 (byt l 0 % 16) (if byt l 0 = 224 then 160 else 128) (if byt l 0 = 237 then 159 else 191) := by
  unfold nextL; rw [if_neg (by omega), if_neg (by omega), shp2 h0 h1, if_neg (by decide : ¬ (2 : Int) = 0)]; rfl
theorem nextL_4 {l : List UInt8} (hl : 0 < l.length) (h0 : 240 ≤ byt l 0) (h1 : byt l 0 ≤ 244) : nextL l = nl l 3 1 (byt l 0 % 8) (if byt l 0 = 240 then 144 else 128) (if byt l 0 = 244 then 143 else 191) := by
  unfold nextL; rw [if_neg (by omega), if_neg (by omega), shp3 h0 h1, if_neg (by decide : ¬ (3 : Int) = 0)]; rfl

def okR (r : Int) : Prop := 0 ≤ r ∧ r ≤ 1114111 ∧ ¬ (55296 ≤ r ∧ r ≤ 57343)
theorem fixR_ok (r : Int) : okR (fixR r) := by unfold fixR okR; split <;> omega
theorem fixR_of {r : Int} (h : okR r) : fixR r = r := by unfold okR at h; unfold fixR; rw [if_neg (by omega)]

theorem next_enc (r : Int) (h : okR r) (t : List UInt8) : nextL (encR r ++ t) = (r, (encR r).length, true) := by
  unfold okR at h
  obtain ⟨h0, h1, h2⟩ := h
  unfold encR
  by_cases c1 : r < 128
  · rw [if_pos c1]
    have b0 : byt ([mkB r] ++ t) 0 = r := by rw [List.singleton_append, byt_zero, mkB_val h0 (by omega)]
    rw [nextL_1 (by simp) (by omega), b0]; rfl
  rw [if_neg c1]
  by_cases c2 : r < 2048
  · rw [if_pos c2]
    simp only [List.cons_append, List.nil_append]
    generalize hL : mkB (192 + r / 64) :: mkB (128 + r % 64) :: t = L
    have hlen : 2 ≤ L.length := by rw [← hL]; simp
    have b0 : byt L 0 = 192 + r / 64 := by rw [← hL, byt_zero, mkB_val (by omega) (by omega)]
    have b1 : byt L 1 = 128 + r % 64 := by rw [← hL, byt_succ, byt_zero, mkB_val (by omega) (by omega)]
    rw [nextL_2 (by omega) (by omega) (by omega), nl_yes ⟨by omega, by omega, by omega⟩, nl_zero, b0, b1]
    have : (192 + r / 64) % 32 * 64 + (128 + r % 64) % 64 = r := by omega
    rw [this]; rfl
  rw [if_neg c2]
  by_cases c3 : r < 65536
  · rw [if_pos c3]
    simp only [List.cons_append, List.nil_append]
    generalize hL : mkB (224 + r / 4096) :: mkB (128 + r / 64 % 64) :: mkB (128 + r % 64) :: t = L
    have hlen : 3 ≤ L.length := by rw [← hL]; simp
    have b0 : byt L 0 = 224 + r / 4096 := by rw [← hL, byt_zero, mkB_val (by omega) (by omega)]
    have b1 : byt L 1 = 128 + r / 64 % 64 := by rw [← hL, byt_succ, byt_zero, mkB_val (by omega) (by omega)]
    have b2 : byt L (1 + 1) = 128 + r % 64 := by rw [← hL, byt_succ, byt_succ, byt_zero, mkB_val (by omega) (by omega)]
    rw [nextL_3 (by omega) (by omega) (by omega), nl_yes ⟨by omega, by split <;> omega, by split <;> omega⟩, nl_yes ⟨by omega, by omega, by omega⟩, nl_zero, b0, b1, b2]
    have : ((224 + r / 4096) % 16 * 64 + (128 + r / 64 % 64) % 64) * 64 + (128 + r % 64) % 64 = r := by omega
    rw [this]; rfl
  · rw [if_neg c3]
    simp only [List.cons_append, List.nil_append]
    generalize hL : mkB (240 + r / 262144) :: mkB (128 + r / 4096 % 64) :: mkB (128 + r / 64 % 64) :: mkB (128 + r % 64) :: t = L
    have hlen : 4 ≤ L.length := by rw [← hL]; simp
    have b0 : byt L 0 = 240 + r / 262144 := by rw [← hL, byt_zero, mkB_val (by omega) (by omega)]
    have b1 : byt L 1 = 128 + r / 4096 % 64 := by rw [← hL, byt_succ, byt_zero, mkB_val (by omega) (by omega)]
    have b2 : byt L (1 + 1) = 128 + r / 64 % 64 := by rw [← hL, byt_succ, byt_succ, byt_zero, mkB_val (by omega) (by omega)]
    have b3 : byt L (1 + 1 + 1) = 128 + r % 64 := by rw [← hL, byt_succ, byt_succ, byt_succ, byt_zero, mkB_val (by omega) (by omega)]
    rw [nextL_4 (by omega) (by omega) (by omega), nl_yes ⟨by omega, by split <;> omega, by split <;> omega⟩, nl_yes ⟨by omega, by omega, by omega⟩, nl_yes ⟨by omega, by omega, by omega⟩, nl_zero, b0, b1, b2, b3]
    have : (((240 + r / 262144) % 8 * 64 + (128 + r / 4096 % 64) % 64) * 64 + (128 + r / 64 % 64) % 64) * 64 + (128 + r % 64) % 64 = r := by omega
    rw [this]; rfl

theorem nl_inv {l : List UInt8} {j k n : Nat} {R L H r : Int} (h : nl l (j + 1) k R L H = (r, n, true)) :
    (k < l.length ∧ L ≤ byt l k ∧ byt l k ≤ H) ∧ nl l j (k + 1) (R * 64 + byt l k % 64) 128 191 = (r, n, true) := by
  by_cases c : k < l.length ∧ L ≤ byt l k ∧ byt l k ≤ H
  · exact ⟨c, by rw [← nl_yes c]; exact h⟩
  · rw [nl_no c] at h; simp at h
theorem mkB_byt (l : List UInt8) (i : Nat) : mkB (byt l i) = l.getD i 0 := by unfold byt; exact mkB_toNat _
theorem take_byt : ∀ (n : Nat) (l : List UInt8), n ≤ l.length → l.take n = (List.range n).map fun i => mkB (byt l i) := by
  intro n l h
  apply List.ext_getElem
  · simp; omega
  · intro i h1 h2
    simp at h1
    simp [mkB_byt, List.getD, show i < l.length by omega]

/-- What is told as a code point is its bytes. -/
theorem next_valid {l : List UInt8} {r : Int} {n : Nat} (h : nextL l = (r, n, true)) : okR r ∧ encR r = l.take n ∧ n ≤ l.length := by
  by_cases hl : l.length = 0
  · unfold nextL at h; rw [if_pos hl] at h; simp at h
  have hp : 0 < l.length := by omega
  have d0 := byt_lo l 0
  have d0' := byt_hi l 0
  by_cases c1 : byt l 0 ≤ 127
  · rw [nextL_1 hp c1] at h
    simp only [Prod.mk.injEq] at h
    obtain ⟨rfl, rfl, -⟩ := h
    refine ⟨by unfold okR; omega, ?_, by omega⟩
    rw [take_byt 1 l (by omega)]
    unfold encR
    rw [if_pos (by omega)]; rfl
  by_cases c2 : byt l 0 < 194 ∨ 244 < byt l 0
  · rw [nextL_0 hp (by omega) c2] at h; simp at h
  by_cases c3 : byt l 0 ≤ 223
  · rw [nextL_2 hp (by omega) c3] at h
    obtain ⟨⟨q1, q2, q3⟩, h⟩ := nl_inv h
    rw [nl_zero] at h
    simp only [Prod.mk.injEq] at h
    obtain ⟨hr, rfl, -⟩ := h
    refine ⟨by unfold okR; omega, ?_, by omega⟩
    rw [take_byt 2 l (by omega)]
    unfold encR
    rw [if_neg (by omega), if_pos (by omega), show 192 + r / 64 = byt l 0 by omega, show 128 + r % 64 = byt l 1 by omega]; rfl
  by_cases c4 : byt l 0 ≤ 239
  · rw [nextL_3 hp (by omega) c4] at h
    obtain ⟨⟨q1, q2, q3⟩, h⟩ := nl_inv h
    obtain ⟨⟨q4, q5, q6⟩, h⟩ := nl_inv h
    rw [nl_zero] at h
    simp only [Prod.mk.injEq] at h
    obtain ⟨hr, rfl, -⟩ := h
    have q5' : 128 ≤ byt l 2 := q5
    have q6' : byt l 2 ≤ 191 := q6
    have hr' : (byt l 0 % 16 * 64 + byt l 1 % 64) * 64 + byt l 2 % 64 = r := hr
    have q7 : 128 ≤ byt l 1 ∧ byt l 1 ≤ 191 ∧ (byt l 0 = 224 → 160 ≤ byt l 1) ∧ (byt l 0 = 237 → byt l 1 ≤ 159) := by split at q2 <;> split at q3 <;> omega
    clear q2 q3 hr q5 q6
    refine ⟨by unfold okR; omega, ?_, by omega⟩
    rw [take_byt 3 l (by omega)]
    unfold encR
    rw [if_neg (by omega), if_neg (by omega), if_pos (by omega), show 224 + r / 4096 = byt l 0 by omega, show 128 + r / 64 % 64 = byt l 1 by omega, show 128 + r % 64 = byt l 2 by omega]; rfl
  · rw [nextL_4 hp (by omega) (by omega)] at h
    obtain ⟨⟨q1, q2, q3⟩, h⟩ := nl_inv h
    obtain ⟨⟨q4, q5, q6⟩, h⟩ := nl_inv h
    obtain ⟨⟨q8, q9, q10⟩, h⟩ := nl_inv h
    rw [nl_zero] at h
    simp only [Prod.mk.injEq] at h
    obtain ⟨hr, rfl, -⟩ := h
    have q5' : 128 ≤ byt l 2 := q5
    have q6' : byt l 2 ≤ 191 := q6
    have q9' : 128 ≤ byt l 3 := q9
    have q10' : byt l 3 ≤ 191 := q10
    have hr' : ((byt l 0 % 8 * 64 + byt l 1 % 64) * 64 + byt l 2 % 64) * 64 + byt l 3 % 64 = r := hr
    have q7 : 128 ≤ byt l 1 ∧ byt l 1 ≤ 191 ∧ (byt l 0 = 240 → 144 ≤ byt l 1) ∧ (byt l 0 = 244 → byt l 1 ≤ 143) := by split at q2 <;> split at q3 <;> omega
    clear q2 q3 hr q5 q6 q9 q10
    refine ⟨by unfold okR; omega, ?_, by omega⟩
    rw [take_byt 4 l (by omega)]
    unfold encR
    rw [if_neg (by omega), if_neg (by omega), if_neg (by omega), show 240 + r / 262144 = byt l 0 by omega, show 128 + r / 4096 % 64 = byt l 1 by omega, show 128 + r / 64 % 64 = byt l 2 by omega, show 128 + r % 64 = byt l 3 by omega]; rfl

theorem encR_pos (r : Int) : 0 < (encR r).length := (encR_len r).1
theorem dec_enc (r : Int) (h : okR r) (t : List UInt8) : decL (encR r ++ t) = r :: decL t ∧ validL (encR r ++ t) = validL t := by
  have hp : 0 < (encR r ++ t).length := by have := encR_pos r; simp; omega
  rw [decL_cons hp, validL_cons hp, next_enc r h t]
  simp
theorem decL_encL (rs : List Int) : decL (encL rs) = rs.map fixR ∧ validL (encL rs) = true := by
  induction rs with
  | nil => exact ⟨decL_nil rfl, validL_nil rfl⟩
  | cons r rs ih =>
    have := dec_enc (fixR r) (fixR_ok r) (encL rs)
    simp only [encL, List.map_cons]
    rw [this.1, this.2, ih.1, ih.2]
    exact ⟨rfl, rfl⟩
/-- By the length, what is valid is what is told of its code points; and those are such. -/
theorem encL_decL : ∀ (n : Nat) (l : List UInt8), l.length ≤ n → validL l = true → encL (decL l) = l := by
  intro n
  induction n with
  | zero => intro l h _; have : l = [] := List.eq_nil_of_length_eq_zero (by omega); subst this; rw [decL_nil rfl]; rfl
  | succ n ih =>
    intro l h hv
    by_cases h0 : l.length = 0
    · have : l = [] := List.eq_nil_of_length_eq_zero h0
      subst this; rw [decL_nil rfl]; rfl
    · rw [validL_cons (by omega)] at hv
      have hn := nextL_n l (by omega)
      rw [decL_cons (by omega)]
      obtain ⟨⟨r, k, ok⟩, hnx⟩ : ∃ t, nextL l = t := ⟨_, rfl⟩
      simp only [hnx] at hv hn ⊢
      simp only [Bool.and_eq_true] at hv
      obtain ⟨rfl, hv2⟩ := hv
      have hval := next_valid hnx
      simp only [encL]
      rw [fixR_of hval.1, hval.2.1, ih (l.drop k) (by simp; omega) hv2, List.take_append_drop]
theorem whole_iff (l : List UInt8) : (decide (encL (decL l) = l)) = validL l := by
  by_cases h : validL l = true
  · rw [h, encL_decL _ l (Nat.le_refl _) h]; simp
  · have hf : validL l = false := by simpa using h
    rw [hf, decide_eq_false_iff_not]
    intro he
    have := (decL_encL (decL l)).2
    rw [he, hf] at this; cases this
theorem dec_append : ∀ (n : Nat) (a b : List UInt8), a.length ≤ n → validL a = true → decL (a ++ b) = decL a ++ decL b ∧ validL (a ++ b) = validL b := by
  intro n a b hn hv
  have hr : ∀ rs : List Int, (∀ r ∈ rs, okR r) → decL (encL rs ++ b) = rs ++ decL b ∧ validL (encL rs ++ b) = validL b := by
    intro rs
    induction rs with
    | nil => intro _; exact ⟨rfl, rfl⟩
    | cons r rs ih =>
      intro h
      have h1 := ih fun x hx => h x (List.mem_cons_of_mem _ hx)
      have h2 := h r (List.mem_cons_self ..)
      simp only [encL]
      rw [List.append_assoc, fixR_of h2, (dec_enc r h2 _).1, (dec_enc r h2 _).2, h1.1, h1.2]
      exact ⟨rfl, rfl⟩
  have he := encL_decL _ a (Nat.le_refl _) hv
  have hok : ∀ r ∈ (decL a).map fixR, okR r := by
    intro r hr
    obtain ⟨x, _, rfl⟩ := List.mem_map.1 hr
    exact fixR_ok x
  have hd := (decL_encL (decL a)).1
  rw [he] at hd
  rw [← hd] at hok
  have := hr (decL a) hok
  rwa [he] at this
theorem nextL_r (l : List UInt8) : 0 ≤ (nextL l).1 ∧ (nextL l).1 ≤ 1114111 := by
  obtain ⟨⟨r, k, ok⟩, hnx⟩ : ∃ t, nextL l = t := ⟨_, rfl⟩
  rw [hnx]
  cases ok
  · by_cases hl : l.length = 0
    · unfold nextL at hnx; rw [if_pos hl] at hnx; simp at hnx; show 0 ≤ r ∧ _; omega
    · have := (nextL_n l (by omega)).2.2.2
      rw [hnx] at this
      have := (this rfl).1
      simp at this
      show 0 ≤ r ∧ r ≤ 1114111
      omega
  · have := (next_valid hnx).1
    unfold okR at this
    exact ⟨this.1, this.2.1⟩
end Go.Proofs.Ytkdmmmheciffgaa
