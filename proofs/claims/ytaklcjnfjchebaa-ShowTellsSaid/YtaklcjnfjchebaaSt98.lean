import Derived.Lib.Hide
set_option linter.unusedVariables false
set_option linter.unusedSimpArgs false
namespace Go.Proofs.Ytaklcjnfjchebaa
def byt (l : List UInt8) (i : Nat) : Int := ((l.getD i 0).toNat : Int)
theorem byt_lo (l : List UInt8) (i : Nat) : 0 ≤ byt l i := by unfold byt; omega
theorem byt_hi (l : List UInt8) (i : Nat) : byt l i ≤ 255 := by unfold byt; have := (l.getD i 0).toNat_lt; omega
theorem byt_drop (l : List UInt8) (k i : Nat) : byt (l.drop k) i = byt l (k + i) := by
  unfold byt; simp [List.getD, List.getElem?_drop]
def shp (c : Int) : Int × Int × Int :=
  if c < 194 ∨ 244 < c then (0, 0, 0)
  else if c ≤ 223 then (1, 128, 191)
  else if c = 224 then (2, 160, 191)
  else if c = 237 then (2, 128, 159)
  else if c ≤ 239 then (2, 128, 191)
  else if c = 240 then (3, 144, 191)
  else if c = 244 then (3, 128, 143)
  else (3, 128, 191)
def sqp (c : Int) : Int × Int × Int :=
  if c ≤ 127 then (1, 0, 0) else ((if (shp c).1 = 0 then 0 else (shp c).1 + 1), (shp c).2.1, (shp c).2.2)
theorem shp_cases (c : Int) : shp c = (0, 0, 0) ∨ ∃ m lo hi, shp c = (m, lo, hi) ∧ 1 ≤ m ∧ m ≤ 3 ∧ 128 ≤ lo ∧ lo ≤ 191 ∧ 128 ≤ hi ∧ hi ≤ 191 := by
  unfold shp
  (repeat' split) <;> first | (left; rfl) | (right; exact ⟨_, _, _, rfl, by decide, by decide, by decide, by decide, by decide, by decide⟩)
def nl (l : List UInt8) : Nat → Nat → Int → Int → Int → Int × Nat × Bool
  | 0, i, r, _, _ => (r, i, true)
  | k + 1, i, r, lo, hi => if i < l.length ∧ lo ≤ byt l i ∧ byt l i ≤ hi then nl l k (i + 1) (r * 64 + byt l i % 64) 128 191 else (65533, i, false)
def nextL (l : List UInt8) : Int × Nat × Bool :=
  if l.length = 0 then (0, 0, false)
  else if byt l 0 ≤ 127 then (byt l 0, 1, true)
  else if (shp (byt l 0)).1 = 0 then (65533, 1, false)
  else nl l (shp (byt l 0)).1.toNat 1 (byt l 0 % 2 ^ (6 - (shp (byt l 0)).1.toNat)) (shp (byt l 0)).2.1 (shp (byt l 0)).2.2
def rbd (k : Nat) : Int := if k ≤ 1 then 32 else if k = 2 then 2048 else if k = 3 then 131072 else 8388608
theorem rbd_le {k : Nat} (h : k ≤ 3) : rbd k ≤ 131072 := by unfold rbd; (repeat' split) <;> omega
theorem rbd_step {k : Nat} {R x : Int} (h1 : 1 ≤ k) (h : k ≤ 3) (hr : R < rbd k) : R * 64 + x % 64 < rbd (k + 1) := by
  unfold rbd at *; (repeat' split) <;> (repeat' split at hr) <;> omega
theorem nl_zero {l : List UInt8} {k : Nat} {R L H : Int} : nl l 0 k R L H = (R, k, true) := rfl
theorem nl_no {l : List UInt8} {j k : Nat} {R L H : Int} (h : ¬ (k < l.length ∧ L ≤ byt l k ∧ byt l k ≤ H)) : nl l (j + 1) k R L H = (65533, k, false) := by
  unfold nl; rw [if_neg h]
theorem nl_yes {l : List UInt8} {j k : Nat} {R L H : Int} (h : k < l.length ∧ L ≤ byt l k ∧ byt l k ≤ H) : nl l (j + 1) k R L H = nl l j (k + 1) (R * 64 + byt l k % 64) 128 191 := by
  rw [nl, if_pos h]
theorem nl_n (l : List UInt8) : ∀ (j i : Nat) (r lo hi : Int), 1 ≤ i → i ≤ l.length →
    1 ≤ (nl l j i r lo hi).2.1 ∧ (nl l j i r lo hi).2.1 ≤ l.length ∧ (nl l j i r lo hi).2.1 ≤ i + j ∧ ((nl l j i r lo hi).2.2 = false → (nl l j i r lo hi).1 = 65533 ∧ (nl l j i r lo hi).2.1 < i + j) := by
  intro j
  induction j with
  | zero => intro i r lo hi h1 h2; refine ⟨h1, h2, Nat.le_refl _, fun h => by cases h⟩
  | succ j ih =>
    intro i r lo hi h1 h2
    by_cases h : i < l.length ∧ lo ≤ byt l i ∧ byt l i ≤ hi
    · rw [nl_yes h]
      obtain ⟨a, b, c, d⟩ := ih (i + 1) (r * 64 + byt l i % 64) 128 191 (by omega) (by omega)
      exact ⟨a, b, by omega, fun e => ⟨(d e).1, by have := (d e).2; omega⟩⟩
    · rw [nl_no h]; exact ⟨h1, h2, by show i ≤ _; omega, fun _ => ⟨rfl, by show i < _; omega⟩⟩
theorem nextL_n (l : List UInt8) (h : 0 < l.length) : 1 ≤ (nextL l).2.1 ∧ (nextL l).2.1 ≤ l.length ∧ (nextL l).2.1 ≤ 4 ∧ ((nextL l).2.2 = false → (nextL l).1 = 65533 ∧ (nextL l).2.1 ≤ 3) := by
  unfold nextL
  rw [if_neg (by omega)]
  split
  · exact ⟨Nat.le_refl _, h, by show 1 ≤ 4; omega, fun e => by cases e⟩
  · split
    · exact ⟨Nat.le_refl _, h, by show 1 ≤ 4; omega, fun e => ⟨rfl, by show 1 ≤ 3; omega⟩⟩
    · obtain ⟨a, b, c, d⟩ := nl_n l (shp (byt l 0)).1.toNat 1 (byt l 0 % 2 ^ (6 - (shp (byt l 0)).1.toNat)) (shp (byt l 0)).2.1 (shp (byt l 0)).2.2 (Nat.le_refl _) h
      have hm : (shp (byt l 0)).1.toNat ≤ 3 := by
        rcases shp_cases (byt l 0) with h | ⟨m, lo, hi, h, h1, h2, _⟩ <;> rw [h]
        · decide
        · show m.toNat ≤ 3; omega
      exact ⟨a, b, by omega, fun e => ⟨(d e).1, by have := (d e).2; omega⟩⟩
def dec : Nat → List UInt8 → List (Int × Nat × Bool)
  | 0, _ => []
  | f + 1, l => if l.length = 0 then [] else nextL l :: dec f (l.drop (nextL l).2.1)
def toks (l : List UInt8) : List (Int × Nat × Bool) := dec l.length l
theorem dec_fuel : ∀ (f g : Nat) (l : List UInt8), l.length ≤ f → l.length ≤ g → dec f l = dec g l := by
  intro f
  induction f with
  | zero => intro g l hf _; cases g with
    | zero => rfl
    | succ g => have : l.length = 0 := by omega
                simp [dec, this]
  | succ f ih => intro g l hf hg; cases g with
    | zero => have : l.length = 0 := by omega
              simp [dec, this]
    | succ g =>
      unfold dec
      by_cases h : l.length = 0
      · rw [if_pos h, if_pos h]
      · have hn := nextL_n l (by omega)
        rw [if_neg h, if_neg h, ih g (l.drop (nextL l).2.1) (by simp; omega) (by simp; omega)]
theorem dec_succ (f : Nat) (l : List UInt8) : dec (f + 1) l = if l.length = 0 then [] else nextL l :: dec f (l.drop (nextL l).2.1) := rfl
theorem toks_nil {l : List UInt8} (h : l.length = 0) : toks l = [] := by unfold toks; rw [h]; rfl
theorem toks_cons {l : List UInt8} (h : 0 < l.length) : toks l = nextL l :: toks (l.drop (nextL l).2.1) := by
  have hn := nextL_n l h
  unfold toks
  conv => lhs; rw [show l.length = (l.length - 1) + 1 from by omega]
  rw [dec_succ, if_neg (by omega), dec_fuel (l.length - 1) (l.drop (nextL l).2.1).length _ (by simp; omega) (Nat.le_refl _)]
def validL (l : List UInt8) : Bool := (toks l).all (·.2.2)
theorem validL_nil {l : List UInt8} (h : l.length = 0) : validL l = true := by unfold validL; rw [toks_nil h]; rfl
theorem validL_cons {l : List UInt8} (h : 0 < l.length) : validL l = ((nextL l).2.2 && validL (l.drop (nextL l).2.1)) := by unfold validL; rw [toks_cons h]; rfl
theorem byt_over {b : List UInt8} {i : Nat} (h : b.length ≤ i) : byt b i = 0 := by
  unfold byt; rw [List.getD_eq_getElem?_getD, List.getElem?_eq_none h]; rfl
def digC (c : Int) : Bool := decide (48 ≤ c ∧ c ≤ 57)
theorem digC_t {c : Int} (h : 48 ≤ c ∧ c ≤ 57) : digC c = true := decide_eq_true h
theorem digC_f {c : Int} (h : ¬ (48 ≤ c ∧ c ≤ 57)) : digC c = false := decide_eq_false h
theorem digC_lt {b : List UInt8} {i : Nat} (h : digC (byt b i) = true) : i < b.length := by
  rcases Nat.lt_or_ge i b.length with h1 | h1
  · exact h1
  · rw [byt_over h1] at h; simp [digC] at h
def digF (b : List UInt8) : Nat → Nat → Nat
  | 0, i => i
  | n + 1, i => if digC (byt b i) = true then digF b n (i + 1) else i
def digE (b : List UInt8) (i : Nat) : Nat := digF b (b.length - i) i
theorem digE_on {b : List UInt8} {i : Nat} (h : digC (byt b i) = true) : digE b i = digE b (i + 1) := by
  have hl := digC_lt h
  unfold digE
  rw [show b.length - i = (b.length - (i + 1)) + 1 by omega]
  show (if digC (byt b i) = true then digF b (b.length - (i + 1)) (i + 1) else i) = _
  rw [if_pos h]
theorem digE_off {b : List UInt8} {i : Nat} (h : digC (byt b i) = false) : digE b i = i := by
  unfold digE
  cases b.length - i with
  | zero => rfl
  | succ n => show (if digC (byt b i) = true then digF b n (i + 1) else i) = _; rw [if_neg (by rw [h]; simp)]
theorem digF_bd (b : List UInt8) : ∀ n i, i ≤ digF b n i ∧ digF b n i ≤ i + n := by
  intro n
  induction n with
  | zero => intro i; exact ⟨Nat.le_refl _, Nat.le_refl _⟩
  | succ n ih =>
    intro i
    show i ≤ (if _ then _ else _) ∧ (if _ then _ else _) ≤ _
    split
    · have := ih (i + 1); omega
    · omega
theorem digE_bd (b : List UInt8) (i : Nat) (h : i ≤ b.length) : i ≤ digE b i ∧ digE b i ≤ b.length := by
  have := digF_bd b (b.length - i) i
  unfold digE; omega
def expM (b : List UInt8) (i : Nat) : Nat × Bool :=
  if byt b i = 101 ∨ byt b i = 69 then
    if digC (byt b (if byt b (i + 1) = 43 ∨ byt b (i + 1) = 45 then i + 2 else i + 1)) = true then (digE b (if byt b (i + 1) = 43 ∨ byt b (i + 1) = 45 then i + 2 else i + 1), true)
    else (if byt b (i + 1) = 43 ∨ byt b (i + 1) = 45 then i + 2 else i + 1, false)
  else (i, true)
def fracM (b : List UInt8) (i : Nat) : Nat × Bool :=
  if byt b i = 46 then if digC (byt b (i + 1)) = true then expM b (digE b (i + 1)) else (i + 1, false)
  else expM b i
def intM (b : List UInt8) (i : Nat) : Nat × Bool :=
  if byt b i = 48 then fracM b (i + 1) else if digC (byt b i) = true then fracM b (digE b i) else (i, false)
def numM (b : List UInt8) (i : Nat) : Nat × Bool := intM b (if byt b i = 45 then i + 1 else i)
theorem byt_lt {b : List UInt8} {i : Nat} {c : Int} (h : byt b i = c) (hc : c ≠ 0) : i < b.length := by
  rcases Nat.lt_or_ge i b.length with h1 | h1
  · exact h1
  · rw [byt_over h1] at h; exact absurd h.symm hc
theorem expM_bd (b : List UInt8) (i : Nat) (h : i ≤ b.length) : i ≤ (expM b i).1 ∧ (expM b i).1 ≤ b.length := by
  unfold expM
  split
  · rename_i h1
    have hi : i < b.length := by rcases h1 with h1 | h1 <;> exact byt_lt h1 (by decide)
    have hj : i < (if byt b (i + 1) = 43 ∨ byt b (i + 1) = 45 then i + 2 else i + 1) ∧ (if byt b (i + 1) = 43 ∨ byt b (i + 1) = 45 then i + 2 else i + 1) ≤ b.length := by
      split
      · rename_i h2
        have : i + 1 < b.length := by rcases h2 with h2 | h2 <;> exact byt_lt h2 (by decide)
        omega
      · omega
    generalize (if byt b (i + 1) = 43 ∨ byt b (i + 1) = 45 then i + 2 else i + 1) = j at *
    split
    · have := digE_bd b j hj.2; show i ≤ digE b j ∧ digE b j ≤ _; omega
    · show i ≤ j ∧ j ≤ _; omega
  · exact ⟨Nat.le_refl _, h⟩
theorem fracM_bd (b : List UInt8) (i : Nat) (h : i ≤ b.length) : i ≤ (fracM b i).1 ∧ (fracM b i).1 ≤ b.length := by
  unfold fracM
  split
  · rename_i h1
    have hi : i < b.length := byt_lt h1 (by decide)
    split
    · have h2 := digE_bd b (i + 1) (by omega)
      have := expM_bd b (digE b (i + 1)) h2.2; omega
    · show i ≤ i + 1 ∧ i + 1 ≤ _; omega
  · exact expM_bd b i h
theorem intM_bd (b : List UInt8) (i : Nat) (h : i ≤ b.length) : i ≤ (intM b i).1 ∧ (intM b i).1 ≤ b.length := by
  unfold intM
  split
  · rename_i h1
    have hi : i < b.length := byt_lt h1 (by decide)
    have := fracM_bd b (i + 1) (by omega); omega
  · split
    · have h2 := digE_bd b i h
      have := fracM_bd b (digE b i) h2.2; omega
    · exact ⟨Nat.le_refl _, h⟩
theorem numM_bd (b : List UInt8) (i : Nat) (h : i ≤ b.length) : i ≤ (numM b i).1 ∧ (numM b i).1 ≤ b.length := by
  unfold numM
  split
  · rename_i h1
    have hi : i < b.length := byt_lt h1 (by decide)
    have := intM_bd b (i + 1) (by omega); omega
  · exact intM_bd b i h
end Go.Proofs.Ytaklcjnfjchebaa
