/- Tokens of a text that is a part of another one: the plain mathematics of TokJoins. -/
import Derived.Test.YtkdmmmheciffgaaTokX
import Derived.Test.YtkdmmmheciffgaaUtfM
set_option linter.unusedVariables false
set_option linter.unusedSimpArgs false
namespace Go.Proofs.Ytkdmmmheciffgaa

/-- Where every token ends. -/
def stopB (x : Int) : Prop := x = 0 ∨ x = 32 ∨ x = 9 ∨ x = 10 ∨ x = 13
/-- c has a from n on, and behind it an end or a blank. -/
structure Agree (n : Nat) (a c : List UInt8) : Prop where
  eq : ∀ i, i < a.length → byt c (n + i) = byt a i
  stop : stopB (byt c (n + a.length))
  le : n + a.length ≤ c.length
  next : ∀ i, i < a.length → (nextL (a.drop i)).2.2 = true → nextL (c.drop (n + i)) = nextL (a.drop i)
  sub : ∀ f t, t ≤ a.length → sub8 c (n + f) (n + t) = sub8 a f t
/-- a is all that there is behind. -/
structure Ends (n : Nat) (a c : List UInt8) : Prop where
  len : c.length = n + a.length
  drop : ∀ i, c.drop (n + i) = a.drop i
section
variable {n : Nat} {a c : List UInt8}
theorem Agree.at (h : Agree n a c) {i : Nat} (hi : i ≤ a.length) : byt c (n + i) = byt a i ∨ (i = a.length ∧ byt a i = 0 ∧ stopB (byt c (n + i))) := by
  rcases Nat.lt_or_ge i a.length with h1 | h1
  · exact .inl (h.eq i h1)
  · obtain rfl : i = a.length := by omega
    exact .inr ⟨rfl, byt_over (Nat.le_refl _), h.stop⟩
/-- A test that no end meets. -/
theorem Agree.test (h : Agree n a c) {i : Nat} (hi : i ≤ a.length) (P : Int → Prop) (h0 : ∀ x, stopB x → ¬ P x) : P (byt c (n + i)) ↔ P (byt a i) := by
  rcases h.at hi with h1 | ⟨-, h2, h3⟩
  · rw [h1]
  · rw [h2]
    exact ⟨fun h => absurd h (h0 _ h3), fun h => absurd h (h0 0 (.inl rfl))⟩
theorem stop_dig (x : Int) (h : stopB x) : ¬ digC x = true := by
  unfold digC; rw [decide_eq_true_iff]; unfold stopB at h; omega
theorem Agree.dig (h : Agree n a c) {i : Nat} (hi : i ≤ a.length) : digC (byt c (n + i)) = digC (byt a i) := by
  have := h.test hi (fun x => digC x = true) stop_dig
  rw [Bool.eq_iff_iff]; exact this
theorem Agree.is (h : Agree n a c) {i : Nat} (hi : i ≤ a.length) (x : Int) (hx : ¬ stopB x) : byt c (n + i) = x ↔ byt a i = x :=
  h.test hi (fun y => y = x) (fun y hy e => hx (e ▸ hy))
theorem digE_ag (h : Agree n a c) : ∀ (m i : Nat), a.length - i = m → i ≤ a.length → digE c (n + i) = n + digE a i := by
  intro m
  induction m with
  | zero =>
    intro i hm hi
    have h1 : digC (byt a i) = false := by rw [byt_over (by omega)]; decide
    rw [digE_off h1, digE_off (by rw [h.dig hi]; exact h1)]
  | succ m ih =>
    intro i hm hi
    by_cases h1 : digC (byt a i) = true
    · rw [digE_on h1, digE_on (by rw [h.dig hi]; exact h1), Nat.add_assoc, ih (i + 1) (by omega) (by omega)]
    · have h1 : digC (byt a i) = false := by simpa using h1
      rw [digE_off h1, digE_off (by rw [h.dig hi]; exact h1)]
theorem Agree.digE (h : Agree n a c) {i : Nat} (hi : i ≤ a.length) : Go.Proofs.Ytkdmmmheciffgaa.digE c (n + i) = n + Go.Proofs.Ytkdmmmheciffgaa.digE a i := digE_ag h _ i rfl hi
def sh2 (n : Nat) (r : Nat × Bool) : Nat × Bool := (n + r.1, r.2)
theorem exp_ag (h : Agree n a c) {i : Nat} (hi : i ≤ a.length) : expM c (n + i) = sh2 n (expM a i) := by
  have t := h.test hi (fun x => x = 101 ∨ x = 69) (fun x hx => by unfold stopB at hx; omega)
  unfold expM
  by_cases c1 : byt a i = 101 ∨ byt a i = 69
  · have hl : i < a.length := by
      rcases c1 with c1 | c1
      · exact byt_lt c1 (by decide)
      · exact byt_lt c1 (by decide)
    rw [if_pos c1, if_pos (t.2 c1)]
    have t2 := h.test (i := i + 1) (by omega) (fun x => x = 43 ∨ x = 45) (fun x hx => by unfold stopB at hx; omega)
    rw [← Nat.add_assoc] at t2
    by_cases c2 : byt a (i + 1) = 43 ∨ byt a (i + 1) = 45
    · have hl2 : i + 1 < a.length := by
        rcases c2 with c2 | c2
        · exact byt_lt c2 (by decide)
        · exact byt_lt c2 (by decide)
      have d := h.dig (i := i + 2) (by omega)
      have e := h.digE (i := i + 2) (by omega)
      rw [← Nat.add_assoc] at d e
      rw [if_pos c2, if_pos (t2.2 c2), d, e]
      split
      · rfl
      · show (n + i + 2, false) = (n + (i + 2), false); rw [Nat.add_assoc]
    · have d := h.dig (i := i + 1) (by omega)
      have e := h.digE (i := i + 1) (by omega)
      rw [← Nat.add_assoc] at d e
      rw [if_neg c2, if_neg (fun x => c2 (t2.1 x)), d, e]
      split
      · rfl
      · show (n + i + 1, false) = (n + (i + 1), false); rw [Nat.add_assoc]
  · rw [if_neg c1, if_neg (fun x => c1 (t.1 x))]; rfl
theorem frac_ag (h : Agree n a c) {i : Nat} (hi : i ≤ a.length) : fracM c (n + i) = sh2 n (fracM a i) := by
  have t := h.is hi 46 (by unfold stopB; omega)
  unfold fracM
  by_cases c1 : byt a i = 46
  · have hl := byt_lt c1 (by decide)
    have d := h.dig (i := i + 1) (by omega)
    have e := h.digE (i := i + 1) (by omega)
    rw [← Nat.add_assoc] at d e
    rw [if_pos c1, if_pos (t.2 c1), d, e]
    split
    · exact exp_ag h (digE_bd a (i + 1) (by omega)).2
    · show (n + i + 1, false) = (n + (i + 1), false); rw [Nat.add_assoc]
  · rw [if_neg c1, if_neg (fun x => c1 (t.1 x))]
    exact exp_ag h hi
theorem int_ag (h : Agree n a c) {i : Nat} (hi : i ≤ a.length) : intM c (n + i) = sh2 n (intM a i) := by
  have t := h.is hi 48 (by unfold stopB; omega)
  unfold intM
  by_cases c1 : byt a i = 48
  · have hl := byt_lt c1 (by decide)
    rw [if_pos c1, if_pos (t.2 c1), Nat.add_assoc]
    exact frac_ag h (by omega)
  · rw [if_neg c1, if_neg (fun x => c1 (t.1 x)), h.dig hi, h.digE hi]
    split
    · exact frac_ag h (digE_bd a i hi).2
    · rfl
theorem num_ag (h : Agree n a c) {i : Nat} (hi : i ≤ a.length) : numM c (n + i) = sh2 n (numM a i) := by
  have t := h.is hi 45 (by unfold stopB; omega)
  unfold numM
  by_cases c1 : byt a i = 45
  · have hl := byt_lt c1 (by decide)
    rw [if_pos c1, if_pos (t.2 c1), Nat.add_assoc]
    exact int_ag h (by omega)
  · rw [if_neg c1, if_neg (fun x => c1 (t.1 x))]
    exact int_ag h hi
def sh3 {α : Type} (n : Nat) (r : α × Nat × Bool) : α × Nat × Bool := (r.1, n + r.2.1, r.2.2)
theorem stop_hex (x : Int) (h : stopB x) : hexN x < 0 := by
  unfold stopB at h
  rcases h with rfl | rfl | rfl | rfl | rfl <;> decide
theorem hex_ag (h : Agree n a c) : ∀ (k i : Nat) (u : Int), i ≤ a.length → hexM c k (n + i) u = sh3 n (hexM a k i u) := by
  intro k
  induction k with
  | zero => intro i u hi; rfl
  | succ k ih =>
    intro i u hi
    have t := h.test hi (fun x => ¬ hexN x < 0) (fun x hx h2 => h2 (stop_hex x hx))
    by_cases c1 : hexN (byt a i) < 0
    · rw [hexM_no c1, hexM_no (by
        rcases Decidable.em (hexN (byt c (n + i)) < 0) with h3 | h3
        · exact h3
        · exact absurd c1 (t.1 h3))]
      rfl
    · have hl := hexN_lt c1
      rw [hexM_yes c1, hexM_yes (t.2 c1)]
      have e : byt c (n + i) = byt a i := h.eq i hl
      rw [e, Nat.add_assoc]
      exact ih (i + 1) _ (by omega)
theorem low_ag (h : Agree n a c) {p : Nat} (hp : p ≤ a.length) : lowB c (n + p) = lowB a p := by
  have t := h.is hp 92 (by unfold stopB; omega)
  by_cases c1 : byt a p = 92
  · have hl := byt_lt c1 (by decide)
    have t2 := h.is (i := p + 1) (by omega) 117 (by unfold stopB; omega)
    by_cases c2 : byt a (p + 1) = 117
    · have hl2 := byt_lt c2 (by decide)
      have hx := hex_ag h 4 (p + 2) 0 (by omega)
      rw [← Nat.add_assoc] at t2 hx
      unfold lowB
      rw [hx, Bool.eq_iff_iff, decide_eq_true_iff, decide_eq_true_iff, t, t2]
      exact Iff.rfl
    · rw [← Nat.add_assoc] at t2
      have e1 : lowB a p = false := by unfold lowB; rw [decide_eq_false_iff_not]; exact fun x => c2 x.2.1
      have e2 : lowB c (n + p) = false := by unfold lowB; rw [decide_eq_false_iff_not]; exact fun x => c2 (t2.1 x.2.1)
      rw [e1, e2]
  · have e1 : lowB a p = false := by unfold lowB; rw [decide_eq_false_iff_not]; exact fun x => c1 x.1
    have e2 : lowB c (n + p) = false := by unfold lowB; rw [decide_eq_false_iff_not]; exact fun x => c1 (t.1 x.1)
    rw [e1, e2]
theorem point_ag (h : Agree n a c) (u : Int) {p : Nat} (hp : p ≤ a.length) : pointM c u (n + p) = ((pointM a u p).1, n + (pointM a u p).2) := by
  have hl := low_ag h hp
  by_cases c1 : 55296 ≤ u ∧ u < 56320 ∧ lowB a p = true
  · obtain ⟨q1, q2, q3⟩ := c1
    have q4 := of_decide_eq_true q3
    have hb : p + 1 < a.length := byt_lt q4.2.1 (by decide)
    have hx := hex_ag h 4 (p + 2) 0 (by omega)
    rw [← Nat.add_assoc] at hx
    rw [pointM_yes q1 q2 q3, pointM_yes q1 q2 (by rw [hl]; exact q3), hx]
    rfl
  · have e1 : pointM a u p = (u, p) := by unfold pointM; rw [if_neg c1]
    have e2 : pointM c u (n + p) = (u, n + p) := by unfold pointM; rw [if_neg (by rw [hl]; exact c1)]
    rw [e1, e2]
theorem esc_ag (h : Agree n a c) {i : Nat} (hi : i < a.length) : escM c (n + i) = sh3 n (escM a i) := by
  have t := h.is (i := i + 1) (by omega) 117 (by unfold stopB; omega)
  rw [← Nat.add_assoc] at t
  unfold escM
  by_cases c1 : byt a (i + 1) = 117
  · have hl := byt_lt c1 (by decide)
    have hx := hex_ag h 4 (i + 2) 0 (by omega)
    have hb := hexM_bd a 4 (i + 2) 0 (by omega)
    rw [← Nat.add_assoc] at hx
    rw [if_pos c1, if_pos (t.2 c1), hx]
    have hp := point_ag h (hexM a 4 (i + 2) 0).1 hb.2
    show (if (hexM a 4 (i + 2) 0).2.2 = true then (encR (fixR (pointM c (hexM a 4 (i + 2) 0).1 (n + (hexM a 4 (i + 2) 0).2.1)).1), (pointM c (hexM a 4 (i + 2) 0).1 (n + (hexM a 4 (i + 2) 0).2.1)).2, true) else ([], n + (hexM a 4 (i + 2) 0).2.1, false)) = _
    rw [hp]
    split <;> rfl
  · rw [if_neg c1, if_neg (fun x => c1 (t.1 x))]
    have hs : shortN (byt c (n + i + 1)) = 0 ↔ shortN (byt a (i + 1)) = 0 := by
      have t2 := h.test (i := i + 1) (by omega) (fun x => ¬ shortN x = 0) (fun x hx h2 => by
        unfold stopB at hx
        rcases hx with rfl | rfl | rfl | rfl | rfl <;> exact h2 (by decide))
      rw [← Nat.add_assoc] at t2
      exact Decidable.not_iff_not.1 t2
    by_cases c2 : shortN (byt a (i + 1)) = 0
    · rw [if_pos c2, if_pos (hs.2 c2)]
      show ([], n + i + 1, false) = ([], n + (i + 1), false)
      rw [Nat.add_assoc]
    · rw [if_neg c2, if_neg (fun x => c2 (hs.1 x))]
      have hl : i + 1 < a.length := by
        rcases Nat.lt_or_ge (i + 1) a.length with h4 | h4
        · exact h4
        · rw [byt_over h4] at c2; exact absurd (by decide) c2
      have e := h.eq (i + 1) hl
      rw [← Nat.add_assoc] at e
      rw [e]
      show (_, n + i + 2, true) = (_, n + (i + 2), true)
      rw [Nat.add_assoc]
theorem word_ag (h : Agree n a c) : ∀ (l : List UInt8) (i : Nat), (∀ x ∈ l, ¬ stopB (x.toNat : Int)) → i ≤ a.length → wordM c l (n + i) = sh2 n (wordM a l i) := by
  intro l
  induction l with
  | nil => intro i _ hi; rfl
  | cons x l ih =>
    intro i hl hi
    have hx := hl x List.mem_cons_self
    have t := h.is hi (x.toNat : Int) hx
    unfold wordM
    by_cases c1 : byt a i = (x.toNat : Int)
    · have hlt := byt_lt c1 (fun e => hx (.inl e))
      rw [if_pos c1, if_pos (t.2 c1), Nat.add_assoc]
      exact ih (i + 1) (fun y hy => hl y (List.mem_cons_of_mem _ hy)) (by omega)
    · rw [if_neg c1, if_neg (fun e => c1 (t.1 e))]; rfl
theorem str_ag (h : Agree n a c) : ∀ (m i : Nat) (acc : List UInt8), a.length - i = m → i ≤ a.length → ((strM a i acc).2.2 = true ∨ Ends n a c) → strM c (n + i) acc = sh3 n (strM a i acc) := by
  intro m
  induction m using Nat.strongRecOn with
  | _ m ih =>
    intro i acc hm hi hor
    rcases Nat.lt_or_ge i a.length with hlt | hge
    · have hle := h.le
      have e := h.eq i hlt
      have hesc := esc_ag h hlt
      have hbd := escM_bd a i hlt
      have hnb := nextL_n (a.drop i) (by simp; omega)
      have hdl : (a.drop i).length = a.length - i := by simp
      have s1 := strM_step a i acc hlt
      have s2 := strM_step c (n + i) acc (by omega)
      rw [e, hesc] at s2
      rw [s2, s1]
      rw [s1] at hor
      by_cases k1 : byt a i = 34
      · rw [if_pos k1, if_pos k1]
        show (acc, n + i + 1, true) = (acc, n + (i + 1), true)
        rw [Nat.add_assoc]
      rw [if_neg k1, if_neg k1]
      rw [if_neg k1] at hor
      by_cases k2 : byt a i = 92
      · rw [if_pos k2, if_pos k2]
        rw [if_pos k2] at hor
        by_cases k3 : (escM a i).2.2 = true
        · rw [if_pos k3] at hor
          rw [if_pos k3, if_pos (show (sh3 n (escM a i)).2.2 = true from k3)]
          exact ih (a.length - (escM a i).2.1) (by omega) (escM a i).2.1 _ rfl hbd.2 hor
        · rw [if_neg k3, if_neg (show ¬ (sh3 n (escM a i)).2.2 = true from k3)]
          rfl
      rw [if_neg k2, if_neg k2]
      rw [if_neg k2] at hor
      by_cases k4 : byt a i < 32
      · rw [if_pos k4, if_pos k4]; rfl
      rw [if_neg k4, if_neg k4]
      rw [if_neg k4] at hor
      by_cases k5 : (nextL (a.drop i)).2.2 = true
      · have hn := h.next i hlt k5
        rw [hn]
        rw [if_pos k5] at hor
        rw [if_pos k5, if_pos k5]
        have hsb := h.sub i (i + (nextL (a.drop i)).2.1) (by omega)
        rw [Nat.add_assoc, hsb]
        exact ih (a.length - (i + (nextL (a.drop i)).2.1)) (by omega) _ _ rfl (by omega) hor
      · rw [if_neg k5] at hor
        rcases hor with h9 | h9
        · cases h9
        · have hn : nextL (c.drop (n + i)) = nextL (a.drop i) := by rw [h9.drop i]
          rw [hn, if_neg k5, if_neg k5]
          rfl
    · have s1 := strM_end a i acc hge
      rw [s1] at hor ⊢
      rcases hor with h9 | h9
      · cases h9
      · rw [strM_end c (n + i) acc (by have := h9.len; omega)]; rfl
def shT (n : Nat) (t : Tk) : Tk := (t.1, n + t.2.1, t.2.2)
theorem stop_word : (∀ x ∈ ([116, 114, 117, 101] : List UInt8), ¬ stopB (x.toNat : Int)) ∧ (∀ x ∈ ([102, 97, 108, 115, 101] : List UInt8), ¬ stopB (x.toNat : Int)) ∧ (∀ x ∈ ([110, 117, 108, 108] : List UInt8), ¬ stopB (x.toNat : Int)) := by
  unfold stopB; decide
theorem tok_ag (h : Agree n a c) {i : Nat} (hi : i < a.length) (hor : (tokM a i).2.2 = true ∨ Ends n a c) : tokM c (n + i) = (shT n (tokM a i).1, n + (tokM a i).2.1, (tokM a i).2.2) := by
  have e := h.eq i hi
  unfold tokM at hor ⊢
  rw [e]
  by_cases k0 : sigB (byt a i) = true
  · rw [if_pos k0, if_pos k0]
    show (_, n + i + 1, true) = (_, n + (i + 1), true)
    rw [Nat.add_assoc]; rfl
  rw [if_neg k0, if_neg k0]
  rw [if_neg k0] at hor
  by_cases k1 : byt a i = 116
  · rw [if_pos k1, if_pos k1, word_ag h _ i stop_word.1 (by omega)]; rfl
  rw [if_neg k1, if_neg k1]
  rw [if_neg k1] at hor
  by_cases k2 : byt a i = 102
  · rw [if_pos k2, if_pos k2, word_ag h _ i stop_word.2.1 (by omega)]; rfl
  rw [if_neg k2, if_neg k2]
  rw [if_neg k2] at hor
  by_cases k3 : byt a i = 110
  · rw [if_pos k3, if_pos k3, word_ag h _ i stop_word.2.2 (by omega)]; rfl
  rw [if_neg k3, if_neg k3]
  rw [if_neg k3] at hor
  by_cases k4 : byt a i = 34
  · rw [if_pos k4] at hor
    rw [if_pos k4, if_pos k4, Nat.add_assoc, str_ag h _ (i + 1) [] rfl (by omega) hor]; rfl
  rw [if_neg k4, if_neg k4]
  by_cases k5 : byt a i = 45 ∨ digC (byt a i) = true
  · have hb := numM_bd a i (by omega)
    rw [if_pos k5, if_pos k5, num_ag h (by omega)]
    show ((8, n + i, sub8 c (n + i) (n + (numM a i).1)), n + (numM a i).1, (numM a i).2) = _
    rw [h.sub i _ hb.2]
    rfl
  · rw [if_neg k5, if_neg k5]; rfl
end
end Go.Proofs.Ytkdmmmheciffgaa
