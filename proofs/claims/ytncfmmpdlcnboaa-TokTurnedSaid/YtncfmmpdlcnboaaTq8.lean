import Derived.Lib.Hide
set_option linter.unusedVariables false
set_option linter.unusedSimpArgs false
namespace Go.Proofs.Ytncfmmpdlcnboaa
def byt (l : List UInt8) (i : Nat) : Int := ((l.getD i 0).toNat : Int)
theorem byt_lo (l : List UInt8) (i : Nat) : 0 ≤ byt l i := by unfold byt; omega
theorem byt_hi (l : List UInt8) (i : Nat) : byt l i ≤ 255 := by unfold byt; have := (l.getD i 0).toNat_lt; omega
theorem byt_drop (l : List UInt8) (k i : Nat) : byt (l.drop k) i = byt l (k + i) := by
  unfold byt; simp [List.getD, List.getElem?_drop]
def shp (c : Int) : Int × Int × Int :=
  if c < 194 ∨ 244 < c then (0, 0, 0)
  else if c ≤ 223 then (1, 128, 191)
  else if c = 224 then (2, 160, 191)
  else if c = 237 then (2, 128, 159)
  else if c ≤ 239 then (2, 128, 191)
  else if c = 240 then (3, 144, 191)
  else if c = 244 then (3, 128, 143)
  else (3, 128, 191)
def sqp (c : Int) : Int × Int × Int :=
  if c ≤ 127 then (1, 0, 0) else ((if (shp c).1 = 0 then 0 else (shp c).1 + 1), (shp c).2.1, (shp c).2.2)
theorem shp_cases (c : Int) : shp c = (0, 0, 0) ∨ ∃ m lo hi, shp c = (m, lo, hi) ∧ 1 ≤ m ∧ m ≤ 3 ∧ 128 ≤ lo ∧ lo ≤ 191 ∧ 128 ≤ hi ∧ hi ≤ 191 := by
  unfold shp
  (repeat' split) <;> first | (left; rfl) | (right; exact ⟨_, _, _, rfl, by decide, by decide, by decide, by decide, by decide, by decide⟩)
def nl (l : List UInt8) : Nat → Nat → Int → Int → Int → Int × Nat × Bool
  | 0, i, r, _, _ => (r, i, true)
  | k + 1, i, r, lo, hi => if i < l.length ∧ lo ≤ byt l i ∧ byt l i ≤ hi then nl l k (i + 1) (r * 64 + byt l i % 64) 128 191 else (65533, i, false)
def nextL (l : List UInt8) : Int × Nat × Bool :=
  if l.length = 0 then (0, 0, false)
  else if byt l 0 ≤ 127 then (byt l 0, 1, true)
  else if (shp (byt l 0)).1 = 0 then (65533, 1, false)
  else nl l (shp (byt l 0)).1.toNat 1 (byt l 0 % 2 ^ (6 - (shp (byt l 0)).1.toNat)) (shp (byt l 0)).2.1 (shp (byt l 0)).2.2
def rbd (k : Nat) : Int := if k ≤ 1 then 32 else if k = 2 then 2048 else if k = 3 then 131072 else 8388608
theorem rbd_le {k : Nat} (h : k ≤ 3) : rbd k ≤ 131072 := by unfold rbd; (repeat' split) <;> omega
theorem rbd_step {k : Nat} {R x : Int} (h1 : 1 ≤ k) (h : k ≤ 3) (hr : R < rbd k) : R * 64 + x % 64 < rbd (k + 1) := by
  unfold rbd at *; (repeat' split) <;> (repeat' split at hr) <;> omega
theorem nl_zero {l : List UInt8} {k : Nat} {R L H : Int} : nl l 0 k R L H = (R, k, true) := rfl
theorem nl_no {l : List UInt8} {j k : Nat} {R L H : Int} (h : ¬ (k < l.length ∧ L ≤ byt l k ∧ byt l k ≤ H)) : nl l (j + 1) k R L H = (65533, k, false) := by
  unfold nl; rw [if_neg h]
theorem nl_yes {l : List UInt8} {j k : Nat} {R L H : Int} (h : k < l.length ∧ L ≤ byt l k ∧ byt l k ≤ H) : nl l (j + 1) k R L H = nl l j (k + 1) (R * 64 + byt l k % 64) 128 191 := by
  rw [nl, if_pos h]
theorem nl_n (l : List UInt8) : ∀ (j i : Nat) (r lo hi : Int), 1 ≤ i → i ≤ l.length →
    1 ≤ (nl l j i r lo hi).2.1 ∧ (nl l j i r lo hi).2.1 ≤ l.length ∧ (nl l j i r lo hi).2.1 ≤ i + j ∧ ((nl l j i r lo hi).2.2 = false → (nl l j i r lo hi).1 = 65533 ∧ (nl l j i r lo hi).2.1 < i + j) := by
  intro j
  induction j with
  | zero => intro i r lo hi h1 h2; refine ⟨h1, h2, Nat.le_refl _, fun h => by cases h⟩
  | succ j ih =>
    intro i r lo hi h1 h2
    by_cases h : i < l.length ∧ lo ≤ byt l i ∧ byt l i ≤ hi
    · rw [nl_yes h]
      obtain ⟨a, b, c, d⟩ := ih (i + 1) (r * 64 + byt l i % 64) 128 191 (by omega) (by omega)
      exact ⟨a, b, by omega, fun e => ⟨(d e).1, by have := (d e).2; omega⟩⟩
    · rw [nl_no h]; exact ⟨h1, h2, by show i ≤ _; omega, fun _ => ⟨rfl, by show i < _; omega⟩⟩
theorem nextL_n (l : List UInt8) (h : 0 < l.length) : 1 ≤ (nextL l).2.1 ∧ (nextL l).2.1 ≤ l.length ∧ (nextL l).2.1 ≤ 4 ∧ ((nextL l).2.2 = false → (nextL l).1 = 65533 ∧ (nextL l).2.1 ≤ 3) := by
  unfold nextL
  rw [if_neg (by omega)]
  split
  · exact ⟨Nat.le_refl _, h, by show 1 ≤ 4; omega, fun e => by cases e⟩
  · split
    · exact ⟨Nat.le_refl _, h, by show 1 ≤ 4; omega, fun e => ⟨rfl, by show 1 ≤ 3; omega⟩⟩
    · obtain ⟨a, b, c, d⟩ := nl_n l (shp (byt l 0)).1.toNat 1 (byt l 0 % 2 ^ (6 - (shp (byt l 0)).1.toNat)) (shp (byt l 0)).2.1 (shp (byt l 0)).2.2 (Nat.le_refl _) h
      have hm : (shp (byt l 0)).1.toNat ≤ 3 := by
        rcases shp_cases (byt l 0) with h | ⟨m, lo, hi, h, h1, h2, _⟩ <;> rw [h]
        · decide
        · show m.toNat ≤ 3; omega
      exact ⟨a, b, by omega, fun e => ⟨(d e).1, by have := (d e).2; omega⟩⟩
def dec : Nat → List UInt8 → List (Int × Nat × Bool)
  | 0, _ => []
  | f + 1, l => if l.length = 0 then [] else nextL l :: dec f (l.drop (nextL l).2.1)
def toks (l : List UInt8) : List (Int × Nat × Bool) := dec l.length l
theorem dec_fuel : ∀ (f g : Nat) (l : List UInt8), l.length ≤ f → l.length ≤ g → dec f l = dec g l := by
  intro f
  induction f with
  | zero => intro g l hf _; cases g with
    | zero => rfl
    | succ g => have : l.length = 0 := by omega
                simp [dec, this]
  | succ f ih => intro g l hf hg; cases g with
    | zero => have : l.length = 0 := by omega
              simp [dec, this]
    | succ g =>
      unfold dec
      by_cases h : l.length = 0
      · rw [if_pos h, if_pos h]
      · have hn := nextL_n l (by omega)
        rw [if_neg h, if_neg h, ih g (l.drop (nextL l).2.1) (by simp; omega) (by simp; omega)]
theorem dec_succ (f : Nat) (l : List UInt8) : dec (f + 1) l = if l.length = 0 then [] else nextL l :: dec f (l.drop (nextL l).2.1) := rfl
theorem toks_nil {l : List UInt8} (h : l.length = 0) : toks l = [] := by unfold toks; rw [h]; rfl
theorem toks_cons {l : List UInt8} (h : 0 < l.length) : toks l = nextL l :: toks (l.drop (nextL l).2.1) := by
  have hn := nextL_n l h
  unfold toks
  conv => lhs; rw [show l.length = (l.length - 1) + 1 from by omega]
  rw [dec_succ, if_neg (by omega), dec_fuel (l.length - 1) (l.drop (nextL l).2.1).length _ (by simp; omega) (Nat.le_refl _)]
def validL (l : List UInt8) : Bool := (toks l).all (·.2.2)
theorem validL_nil {l : List UInt8} (h : l.length = 0) : validL l = true := by unfold validL; rw [toks_nil h]; rfl
theorem validL_cons {l : List UInt8} (h : 0 < l.length) : validL l = ((nextL l).2.2 && validL (l.drop (nextL l).2.1)) := by unfold validL; rw [toks_cons h]; rfl
def mkB (n : Int) : UInt8 := UInt8.ofNat n.toNat
theorem mkB_val {n : Int} (h0 : 0 ≤ n) (h1 : n ≤ 255) : ((mkB n).toNat : Int) = n := by
  unfold mkB
  rw [UInt8.toNat_ofNat', Nat.mod_eq_of_lt (by omega)]; omega
def fixR (r : Int) : Int := if r < 0 ∨ 1114111 < r ∨ (55296 ≤ r ∧ r ≤ 57343) then 65533 else r
theorem fixR_bd (r : Int) : 0 ≤ fixR r ∧ fixR r ≤ 1114111 := by unfold fixR; split <;> omega
def encR (r : Int) : List UInt8 :=
  if r < 128 then [mkB r]
  else if r < 2048 then [mkB (192 + r / 64), mkB (128 + r % 64)]
  else if r < 65536 then [mkB (224 + r / 4096), mkB (128 + r / 64 % 64), mkB (128 + r % 64)]
  else [mkB (240 + r / 262144), mkB (128 + r / 4096 % 64), mkB (128 + r / 64 % 64), mkB (128 + r % 64)]
theorem encR_len (r : Int) : 1 ≤ (encR r).length ∧ (encR r).length ≤ 4 := by unfold encR; (repeat' split) <;> simp
def encL : List Int → List UInt8
  | [] => []
  | r :: rs => encR (fixR r) ++ encL rs
theorem encL_append (a b : List Int) : encL (a ++ b) = encL a ++ encL b := by
  induction a with
  | nil => rfl
  | cons x a ih => simp [encL, ih]
theorem encL_len (a : List Int) : a.length ≤ (encL a).length ∧ (encL a).length ≤ 4 * a.length := by
  induction a with
  | nil => simp [encL]
  | cons x a ih => have := encR_len (fixR x); simp [encL]; omega
theorem encL_take (a : List Int) (k : Nat) (hk : k < a.length) : encL (a.take (k + 1)) = encL (a.take k) ++ encR (fixR (a.getD k 0)) := by
  rw [List.take_succ_eq_append_getElem hk, encL_append]
  simp [encL, List.getD, hk]
def hexN (c : Int) : Int := if 48 ≤ c ∧ c ≤ 57 then c - 48 else if 97 ≤ c ∧ c ≤ 102 then c - 87 else if 65 ≤ c ∧ c ≤ 70 then c - 55 else -1
theorem hexN_bd (c : Int) : -1 ≤ hexN c ∧ hexN c ≤ 15 := by unfold hexN; (repeat' split) <;> omega
theorem byt_over {b : List UInt8} {i : Nat} (h : b.length ≤ i) : byt b i = 0 := by
  unfold byt; rw [List.getD_eq_getElem?_getD, List.getElem?_eq_none h]; rfl
def digC (c : Int) : Bool := decide (48 ≤ c ∧ c ≤ 57)
theorem digC_t {c : Int} (h : 48 ≤ c ∧ c ≤ 57) : digC c = true := decide_eq_true h
theorem digC_f {c : Int} (h : ¬ (48 ≤ c ∧ c ≤ 57)) : digC c = false := decide_eq_false h
theorem digC_lt {b : List UInt8} {i : Nat} (h : digC (byt b i) = true) : i < b.length := by
  rcases Nat.lt_or_ge i b.length with h1 | h1
  · exact h1
  · rw [byt_over h1] at h; simp [digC] at h
def digF (b : List UInt8) : Nat → Nat → Nat
  | 0, i => i
  | n + 1, i => if digC (byt b i) = true then digF b n (i + 1) else i
def digE (b : List UInt8) (i : Nat) : Nat := digF b (b.length - i) i
theorem digE_on {b : List UInt8} {i : Nat} (h : digC (byt b i) = true) : digE b i = digE b (i + 1) := by
  have hl := digC_lt h
  unfold digE
  rw [show b.length - i = (b.length - (i + 1)) + 1 by omega]
  show (if digC (byt b i) = true then digF b (b.length - (i + 1)) (i + 1) else i) = _
  rw [if_pos h]
theorem digE_off {b : List UInt8} {i : Nat} (h : digC (byt b i) = false) : digE b i = i := by
  unfold digE
  cases b.length - i with
  | zero => rfl
  | succ n => show (if digC (byt b i) = true then digF b n (i + 1) else i) = _; rw [if_neg (by rw [h]; simp)]
theorem digF_bd (b : List UInt8) : ∀ n i, i ≤ digF b n i ∧ digF b n i ≤ i + n := by
  intro n
  induction n with
  | zero => intro i; exact ⟨Nat.le_refl _, Nat.le_refl _⟩
  | succ n ih =>
    intro i
    show i ≤ (if _ then _ else _) ∧ (if _ then _ else _) ≤ _
    split
    · have := ih (i + 1); omega
    · omega
theorem digE_bd (b : List UInt8) (i : Nat) (h : i ≤ b.length) : i ≤ digE b i ∧ digE b i ≤ b.length := by
  have := digF_bd b (b.length - i) i
  unfold digE; omega
def expM (b : List UInt8) (i : Nat) : Nat × Bool :=
  if byt b i = 101 ∨ byt b i = 69 then
    if digC (byt b (if byt b (i + 1) = 43 ∨ byt b (i + 1) = 45 then i + 2 else i + 1)) = true then (digE b (if byt b (i + 1) = 43 ∨ byt b (i + 1) = 45 then i + 2 else i + 1), true)
    else (if byt b (i + 1) = 43 ∨ byt b (i + 1) = 45 then i + 2 else i + 1, false)
  else (i, true)
def fracM (b : List UInt8) (i : Nat) : Nat × Bool :=
  if byt b i = 46 then if digC (byt b (i + 1)) = true then expM b (digE b (i + 1)) else (i + 1, false)
  else expM b i
def intM (b : List UInt8) (i : Nat) : Nat × Bool :=
  if byt b i = 48 then fracM b (i + 1) else if digC (byt b i) = true then fracM b (digE b i) else (i, false)
def numM (b : List UInt8) (i : Nat) : Nat × Bool := intM b (if byt b i = 45 then i + 1 else i)
theorem byt_lt {b : List UInt8} {i : Nat} {c : Int} (h : byt b i = c) (hc : c ≠ 0) : i < b.length := by
  rcases Nat.lt_or_ge i b.length with h1 | h1
  · exact h1
  · rw [byt_over h1] at h; exact absurd h.symm hc
theorem expM_bd (b : List UInt8) (i : Nat) (h : i ≤ b.length) : i ≤ (expM b i).1 ∧ (expM b i).1 ≤ b.length := by
  unfold expM
  split
  · rename_i h1
    have hi : i < b.length := by rcases h1 with h1 | h1 <;> exact byt_lt h1 (by decide)
    have hj : i < (if byt b (i + 1) = 43 ∨ byt b (i + 1) = 45 then i + 2 else i + 1) ∧ (if byt b (i + 1) = 43 ∨ byt b (i + 1) = 45 then i + 2 else i + 1) ≤ b.length := by
      split
      · rename_i h2
        have : i + 1 < b.length := by rcases h2 with h2 | h2 <;> exact byt_lt h2 (by decide)
        omega
      · omega
    generalize (if byt b (i + 1) = 43 ∨ byt b (i + 1) = 45 then i + 2 else i + 1) = j at *
    split
    · have := digE_bd b j hj.2; show i ≤ digE b j ∧ digE b j ≤ _; omega
    · show i ≤ j ∧ j ≤ _; omega
  · exact ⟨Nat.le_refl _, h⟩
theorem fracM_bd (b : List UInt8) (i : Nat) (h : i ≤ b.length) : i ≤ (fracM b i).1 ∧ (fracM b i).1 ≤ b.length := by
  unfold fracM
  split
  · rename_i h1
    have hi : i < b.length := byt_lt h1 (by decide)
    split
    · have h2 := digE_bd b (i + 1) (by omega)
      have := expM_bd b (digE b (i + 1)) h2.2; omega
    · show i ≤ i + 1 ∧ i + 1 ≤ _; omega
  · exact expM_bd b i h
theorem intM_bd (b : List UInt8) (i : Nat) (h : i ≤ b.length) : i ≤ (intM b i).1 ∧ (intM b i).1 ≤ b.length := by
  unfold intM
  split
  · rename_i h1
    have hi : i < b.length := byt_lt h1 (by decide)
    have := fracM_bd b (i + 1) (by omega); omega
  · split
    · have h2 := digE_bd b i h
      have := fracM_bd b (digE b i) h2.2; omega
    · exact ⟨Nat.le_refl _, h⟩
theorem numM_bd (b : List UInt8) (i : Nat) (h : i ≤ b.length) : i ≤ (numM b i).1 ∧ (numM b i).1 ≤ b.length := by
  unfold numM
  split
  · rename_i h1
    have hi : i < b.length := byt_lt h1 (by decide)
    have := intM_bd b (i + 1) (by omega); omega
  · exact intM_bd b i h
def blkC (c : Int) : Bool := decide (c = 32 ∨ c = 9 ∨ c = 10 ∨ c = 13)
theorem blkC_t {c : Int} (h : c = 32 ∨ c = 9 ∨ c = 10 ∨ c = 13) : blkC c = true := decide_eq_true h
theorem blkC_f {c : Int} (h : ¬ (c = 32 ∨ c = 9 ∨ c = 10 ∨ c = 13)) : blkC c = false := decide_eq_false h
def skipF (b : List UInt8) : Nat → Nat → Nat
  | 0, i => i
  | n + 1, i => if blkC (byt b i) = true then skipF b n (i + 1) else i
def skipE (b : List UInt8) (i : Nat) : Nat := skipF b (b.length - i) i
theorem skipE_on {b : List UInt8} {i : Nat} (hl : i < b.length) (h : blkC (byt b i) = true) : skipE b i = skipE b (i + 1) := by
  unfold skipE
  rw [show b.length - i = (b.length - (i + 1)) + 1 by omega]
  show (if blkC (byt b i) = true then skipF b (b.length - (i + 1)) (i + 1) else i) = _
  rw [if_pos h]
theorem skipE_off {b : List UInt8} {i : Nat} (h : blkC (byt b i) = false) : skipE b i = i := by
  unfold skipE
  cases b.length - i with
  | zero => rfl
  | succ n => show (if blkC (byt b i) = true then skipF b n (i + 1) else i) = _; rw [if_neg (by rw [h]; simp)]
theorem skipE_end {b : List UInt8} {i : Nat} (h : b.length ≤ i) : skipE b i = i := by
  unfold skipE; rw [show b.length - i = 0 by omega]; rfl
theorem skipF_bd (b : List UInt8) : ∀ n i, i ≤ skipF b n i ∧ skipF b n i ≤ i + n := by
  intro n
  induction n with
  | zero => intro i; exact ⟨Nat.le_refl _, Nat.le_refl _⟩
  | succ n ih =>
    intro i
    show i ≤ (if _ then _ else _) ∧ (if _ then _ else _) ≤ _
    split
    · have := ih (i + 1); omega
    · omega
theorem skipE_bd (b : List UInt8) (i : Nat) (h : i ≤ b.length) : i ≤ skipE b i ∧ skipE b i ≤ b.length := by
  have := skipF_bd b (b.length - i) i
  unfold skipE; omega
def hexM (b : List UInt8) : Nat → Nat → Int → Int × Nat × Bool
  | 0, i, n => (n, i, true)
  | k + 1, i, n => if hexN (byt b i) < 0 then (0, i, false) else hexM b k (i + 1) (n * 16 + hexN (byt b i))
theorem hexM_no {b : List UInt8} {k i : Nat} {n : Int} (h : hexN (byt b i) < 0) : hexM b (k + 1) i n = (0, i, false) := by unfold hexM; rw [if_pos h]
theorem hexM_yes {b : List UInt8} {k i : Nat} {n : Int} (h : ¬ hexN (byt b i) < 0) : hexM b (k + 1) i n = hexM b k (i + 1) (n * 16 + hexN (byt b i)) := by
  conv => lhs; unfold hexM
  rw [if_neg h]
theorem hexN_lt {b : List UInt8} {i : Nat} (h : ¬ hexN (byt b i) < 0) : i < b.length := by
  rcases Nat.lt_or_ge i b.length with h1 | h1
  · exact h1
  · rw [byt_over h1] at h; exact absurd (by decide) h
theorem hexM_bd (b : List UInt8) : ∀ (k i : Nat) (n : Int), i ≤ b.length → i ≤ (hexM b k i n).2.1 ∧ (hexM b k i n).2.1 ≤ b.length := by
  intro k
  induction k with
  | zero => intro i n h; exact ⟨Nat.le_refl _, h⟩
  | succ k ih =>
    intro i n h
    by_cases hx : hexN (byt b i) < 0
    · rw [hexM_no hx]; exact ⟨Nat.le_refl _, h⟩
    · rw [hexM_yes hx]
      have := hexN_lt hx
      have := ih (i + 1) (n * 16 + hexN (byt b i)) (by omega)
      omega
theorem hexM_val (b : List UInt8) : ∀ (k i : Nat) (n : Int), 0 ≤ n → 0 ≤ (hexM b k i n).1 ∧ (hexM b k i n).1 < (n + 1) * 16 ^ k := by
  intro k
  induction k with
  | zero => intro i n h; show 0 ≤ n ∧ n < (n + 1) * 16 ^ 0; omega
  | succ k ih =>
    intro i n h
    by_cases hx : hexN (byt b i) < 0
    · rw [hexM_no hx]
      refine ⟨Int.le_refl 0, ?_⟩
      have : (0 : Int) < 16 ^ (k + 1) := Int.pow_pos (by decide)
      exact Int.mul_pos (by omega) this
    · rw [hexM_yes hx]
      have hb := hexN_bd (byt b i)
      have h2 := ih (i + 1) (n * 16 + hexN (byt b i)) (by omega)
      refine ⟨h2.1, Int.lt_of_lt_of_le h2.2 ?_⟩
      rw [Int.pow_succ, show (n + 1) * (16 ^ k * 16) = ((n + 1) * 16) * 16 ^ k by rw [Int.mul_comm (16 ^ k) 16, Int.mul_assoc]]
      have : (0 : Int) ≤ 16 ^ k := Int.le_of_lt (Int.pow_pos (by decide))
      exact Int.mul_le_mul_of_nonneg_right (by omega) this
theorem hexM_zero (b : List UInt8) : ∀ (k i : Nat) (n : Int), (hexM b k i n).2.2 = false → (hexM b k i n).1 = 0 := by
  intro k
  induction k with
  | zero => intro i n h; cases h
  | succ k ih =>
    intro i n h
    by_cases hx : hexN (byt b i) < 0
    · rw [hexM_no hx]
    · rw [hexM_yes hx] at h ⊢; exact ih _ _ h
def lowB (b : List UInt8) (p : Nat) : Bool := decide (byt b p = 92 ∧ byt b (p + 1) = 117 ∧ (hexM b 4 (p + 2) 0).2.2 = true ∧ 56320 ≤ (hexM b 4 (p + 2) 0).1 ∧ (hexM b 4 (p + 2) 0).1 < 57344)
def pointM (b : List UInt8) (u : Int) (p : Nat) : Int × Nat :=
  if 55296 ≤ u ∧ u < 56320 ∧ lowB b p = true then (65536 + (u - 55296) * 1024 + ((hexM b 4 (p + 2) 0).1 - 56320), (hexM b 4 (p + 2) 0).2.1) else (u, p)
theorem pointM_no {b : List UInt8} {u : Int} {p : Nat} (h : u < 55296 ∨ 56320 ≤ u ∨ lowB b p = false) : pointM b u p = (u, p) := by
  unfold pointM; rw [if_neg]; rintro ⟨h1, h2, h3⟩
  rcases h with h | h | h
  · omega
  · omega
  · rw [h] at h3; cases h3
theorem pointM_yes {b : List UInt8} {u : Int} {p : Nat} (h1 : 55296 ≤ u) (h2 : u < 56320) (h : lowB b p = true) : pointM b u p = (65536 + (u - 55296) * 1024 + ((hexM b 4 (p + 2) 0).1 - 56320), (hexM b 4 (p + 2) 0).2.1) := by
  unfold pointM; rw [if_pos ⟨h1, h2, h⟩]
def shortN (c : Int) : Int := if c = 34 ∨ c = 92 ∨ c = 47 then c else if c = 98 then 8 else if c = 102 then 12 else if c = 110 then 10 else if c = 114 then 13 else if c = 116 then 9 else 0
theorem shortN_bd (c : Int) : 0 ≤ shortN c ∧ shortN c ≤ 255 := by unfold shortN; (repeat' split) <;> omega
def escM (b : List UInt8) (i : Nat) : List UInt8 × Nat × Bool :=
  if byt b (i + 1) = 117 then
    if (hexM b 4 (i + 2) 0).2.2 = true then (encR (fixR (pointM b (hexM b 4 (i + 2) 0).1 (hexM b 4 (i + 2) 0).2.1).1), (pointM b (hexM b 4 (i + 2) 0).1 (hexM b 4 (i + 2) 0).2.1).2, true)
    else ([], (hexM b 4 (i + 2) 0).2.1, false)
  else if shortN (byt b (i + 1)) = 0 then ([], i + 1, false) else ([mkB (shortN (byt b (i + 1)))], i + 2, true)
theorem pointM_bd (b : List UInt8) (u : Int) (p : Nat) (h : p ≤ b.length) : p ≤ (pointM b u p).2 ∧ (pointM b u p).2 ≤ b.length := by
  unfold pointM
  split
  · rename_i hc
    have h2 := of_decide_eq_true hc.2.2
    have hl : p + 1 < b.length := byt_lt h2.2.1 (by decide)
    have := hexM_bd b 4 (p + 2) 0 (by omega)
    show p ≤ (hexM b 4 (p + 2) 0).2.1 ∧ _ ≤ _
    omega
  · exact ⟨Nat.le_refl _, h⟩
theorem escM_bd (b : List UInt8) (i : Nat) (h : i < b.length) : i < (escM b i).2.1 ∧ (escM b i).2.1 ≤ b.length := by
  unfold escM
  split
  · rename_i h1
    have hl : i + 1 < b.length := byt_lt h1 (by decide)
    have h2 := hexM_bd b 4 (i + 2) 0 (by omega)
    split
    · have := pointM_bd b (hexM b 4 (i + 2) 0).1 (hexM b 4 (i + 2) 0).2.1 h2.2
      show i < (pointM b _ _).2 ∧ (pointM b _ _).2 ≤ _
      omega
    · show i < (hexM b 4 (i + 2) 0).2.1 ∧ (hexM b 4 (i + 2) 0).2.1 ≤ _; omega
  · split
    · show i < i + 1 ∧ i + 1 ≤ _; omega
    · rename_i h3
      have hl : i + 1 < b.length := by
        rcases Nat.lt_or_ge (i + 1) b.length with h4 | h4
        · exact h4
        · rw [byt_over h4] at h3; exact absurd (by decide) h3
      show i < i + 2 ∧ i + 2 ≤ _; omega
def signN (c : Int) : Int := if c = 123 then 1 else if c = 125 then 2 else if c = 91 then 3 else if c = 93 then 4 else if c = 58 then 5 else 6
def wordM (b : List UInt8) : List UInt8 → Nat → Nat × Bool
  | [], i => (i, true)
  | c :: t, i => if byt b i = (c.toNat : Int) then wordM b t (i + 1) else (i, false)
theorem wordM_bd (b : List UInt8) : ∀ (l : List UInt8) (i : Nat), (∀ c ∈ l, c ≠ 0) → i ≤ b.length → i ≤ (wordM b l i).1 ∧ (wordM b l i).1 ≤ b.length := by
  intro l
  induction l with
  | nil => intro i _ h; exact ⟨Nat.le_refl _, h⟩
  | cons c t ih =>
    intro i hc h
    unfold wordM
    split
    · rename_i he
      have hz : (c.toNat : Int) ≠ 0 := by
        have := hc c List.mem_cons_self
        intro h0
        apply this
        apply UInt8.toNat_inj.1
        show c.toNat = 0
        omega
      have hl := byt_lt he hz
      have := ih (i + 1) (fun x hx => hc x (List.mem_cons_of_mem _ hx)) (by omega)
      omega
    · exact ⟨Nat.le_refl _, h⟩
def sub8 (b : List UInt8) (f t : Nat) : List UInt8 := (b.take t).drop f
theorem sub8_len {b : List UInt8} {f t : Nat} (h1 : f ≤ t) (h2 : t ≤ b.length) : (sub8 b f t).length = t - f := by unfold sub8; simp; omega
theorem sub8_self (b : List UInt8) (f : Nat) : sub8 b f f = [] := by unfold sub8; simp
theorem sub8_join {b : List UInt8} {f p q : Nat} (h1 : f ≤ p) (h2 : p ≤ q) (h3 : q ≤ b.length) : sub8 b f p ++ sub8 b p q = sub8 b f q := by
  unfold sub8
  have e : b.take q = b.take p ++ (b.take q).drop p := by
    conv => lhs; rw [← List.take_append_drop p (b.take q)]
    rw [List.take_take, Nat.min_eq_left h2]
  have hl : (b.take p).length = p := by simp; omega
  conv => rhs; rw [e]
  rw [List.drop_append]
  rw [show f - (b.take p).length = 0 by omega]
  simp
def strF (b : List UInt8) : Nat → Nat → List UInt8 → List UInt8 × Nat × Bool
  | 0, i, _ => ([], i, false)
  | f + 1, i, acc =>
    if b.length ≤ i then ([], i, false)
    else if byt b i = 34 then (acc, i + 1, true)
    else if byt b i = 92 then (if (escM b i).2.2 = true then strF b f (escM b i).2.1 (acc ++ (escM b i).1) else ([], (escM b i).2.1, false))
    else if byt b i < 32 then ([], i, false)
    else if (nextL (b.drop i)).2.2 = true then strF b f (i + (nextL (b.drop i)).2.1) (acc ++ sub8 b i (i + (nextL (b.drop i)).2.1))
    else ([], i, false)
def strM (b : List UInt8) (i : Nat) (acc : List UInt8) : List UInt8 × Nat × Bool := strF b (b.length + 1 - i) i acc
theorem strF_fuel (b : List UInt8) : ∀ (n m i : Nat) (acc : List UInt8), b.length < n + i → b.length < m + i → strF b n i acc = strF b m i acc := by
  intro n
  induction n with
  | zero =>
    intro m i acc h1 h2
    cases m with
    | zero => rfl
    | succ m => unfold strF; rw [if_pos (by omega)]
  | succ n ih =>
    intro m i acc h1 h2
    cases m with
    | zero => conv => lhs; unfold strF
              rw [if_pos (by omega)]; rfl
    | succ m =>
      unfold strF
      by_cases c1 : b.length ≤ i
      · rw [if_pos c1, if_pos c1]
      rw [if_neg c1, if_neg c1]
      by_cases c2 : byt b i = 34
      · rw [if_pos c2, if_pos c2]
      rw [if_neg c2, if_neg c2]
      by_cases c3 : byt b i = 92
      · rw [if_pos c3, if_pos c3]
        by_cases c4 : (escM b i).2.2 = true
        · rw [if_pos c4, if_pos c4]
          have := escM_bd b i (by omega)
          exact ih m _ _ (by omega) (by omega)
        · rw [if_neg c4, if_neg c4]
      rw [if_neg c3, if_neg c3]
      by_cases c5 : byt b i < 32
      · rw [if_pos c5, if_pos c5]
      rw [if_neg c5, if_neg c5]
      by_cases c6 : (nextL (b.drop i)).2.2 = true
      · rw [if_pos c6, if_pos c6]
        have := nextL_n (b.drop i) (by simp; omega)
        exact ih m _ _ (by omega) (by omega)
      · rw [if_neg c6, if_neg c6]
theorem strM_step (b : List UInt8) (i : Nat) (acc : List UInt8) (h : i < b.length) : strM b i acc =
    if byt b i = 34 then (acc, i + 1, true)
    else if byt b i = 92 then (if (escM b i).2.2 = true then strM b (escM b i).2.1 (acc ++ (escM b i).1) else ([], (escM b i).2.1, false))
    else if byt b i < 32 then ([], i, false)
    else if (nextL (b.drop i)).2.2 = true then strM b (i + (nextL (b.drop i)).2.1) (acc ++ sub8 b i (i + (nextL (b.drop i)).2.1))
    else ([], i, false) := by
  have he := escM_bd b i h
  have hn := nextL_n (b.drop i) (by simp; omega)
  have hln : (b.drop i).length = b.length - i := by simp
  unfold strM
  rw [show b.length + 1 - i = (b.length - i) + 1 by omega]
  conv => lhs; unfold strF
  rw [if_neg (by omega)]
  rw [strF_fuel b (b.length - i) (b.length + 1 - (escM b i).2.1) (escM b i).2.1 _ (by omega) (by omega)]
  rw [strF_fuel b (b.length - i) (b.length + 1 - (i + (nextL (b.drop i)).2.1)) (i + (nextL (b.drop i)).2.1) _ (by omega) (by omega)]
theorem strM_end (b : List UInt8) (i : Nat) (acc : List UInt8) (h : b.length ≤ i) : strM b i acc = ([], i, false) := by
  unfold strM
  cases hf : b.length + 1 - i with
  | zero => rfl
  | succ f => unfold strF; rw [if_pos h]
theorem strF_bd (b : List UInt8) : ∀ (n i : Nat) (acc : List UInt8), i ≤ b.length → i ≤ (strF b n i acc).2.1 ∧ (strF b n i acc).2.1 ≤ b.length := by
  intro n
  induction n with
  | zero => intro i acc h; exact ⟨Nat.le_refl _, h⟩
  | succ n ih =>
    intro i acc h
    unfold strF
    split
    · exact ⟨Nat.le_refl _, h⟩
    rename_i c1
    split
    · show i ≤ i + 1 ∧ i + 1 ≤ _; omega
    split
    · have he := escM_bd b i (by omega)
      split
      · have := ih (escM b i).2.1 (acc ++ (escM b i).1) he.2; omega
      · show i ≤ (escM b i).2.1 ∧ (escM b i).2.1 ≤ _; omega
    split
    · exact ⟨Nat.le_refl _, h⟩
    split
    · have hn := nextL_n (b.drop i) (by simp; omega)
      have hl : (b.drop i).length = b.length - i := by simp
      have := ih (i + (nextL (b.drop i)).2.1) (acc ++ sub8 b i (i + (nextL (b.drop i)).2.1)) (by omega); omega
    · exact ⟨Nat.le_refl _, h⟩
theorem strM_bd (b : List UInt8) (i : Nat) (acc : List UInt8) (h : i ≤ b.length) : i ≤ (strM b i acc).2.1 ∧ (strM b i acc).2.1 ≤ b.length := strF_bd b _ i acc h
theorem numM_pos {b : List UInt8} {i : Nat} (h : (numM b i).2 = true) : i < (numM b i).1 := by
  have hi : ∀ j, (intM b j).2 = true → j < (intM b j).1 := by
    intro j hj
    unfold intM at hj ⊢
    split at hj
    · rename_i h1
      rw [if_pos h1]
      have hl := byt_lt h1 (by decide)
      have := fracM_bd b (j + 1) (by omega); omega
    · rename_i h1
      rw [if_neg h1]
      split at hj
      · rename_i h2
        rw [if_pos h2]
        have hl := digC_lt h2
        have h3 := digE_bd b (j + 1) (by omega)
        rw [digE_on h2]
        have := fracM_bd b (digE b (j + 1)) h3.2; omega
      · cases hj
  unfold numM at h ⊢
  split
  · rename_i h1
    rw [if_pos h1] at h
    have := hi _ h; omega
  · rename_i h1
    rw [if_neg h1] at h
    exact hi _ h
end Go.Proofs.Ytncfmmpdlcnboaa
