/- The plain mathematics of JSON's tokens. No program. -/
import Derived.Test.YtkdmmmheciffgaaPure
import Derived.Test.YtkdmmmheciffgaaHexM
set_option linter.unusedVariables false
set_option linter.unusedSimpArgs false
namespace Go.Proofs.Ytkdmmmheciffgaa

theorem byt_over {b : List UInt8} {i : Nat} (h : b.length ≤ i) : byt b i = 0 := by
  unfold byt; rw [List.getD_eq_getElem?_getD, List.getElem?_eq_none h]; rfl
def digC (c : Int) : Bool := decide (48 ≤ c ∧ c ≤ 57)
theorem digC_t {c : Int} (h : 48 ≤ c ∧ c ≤ 57) : digC c = true := decide_eq_true h
theorem digC_f {c : Int} (h : ¬ (48 ≤ c ∧ c ≤ 57)) : digC c = false := decide_eq_false h
theorem digC_lt {b : List UInt8} {i : Nat} (h : digC (byt b i) = true) : i < b.length := by
  rcases Nat.lt_or_ge i b.length with h1 | h1
  · exact h1
  · rw [byt_over h1] at h; simp [digC] at h
/-- Behind the digits that stand there. -/
def digF (b : List UInt8) : Nat → Nat → Nat
  | 0, i => i
  | n + 1, i => if digC (byt b i) = true then digF b n (i + 1) else i
def digE (b : List UInt8) (i : Nat) : Nat := digF b (b.length - i) i
theorem digE_on {b : List UInt8} {i : Nat} (h : digC (byt b i) = true) : digE b i = digE b (i + 1) := by
  have hl := digC_lt h
  unfold digE
  rw [show b.length - i = (b.length - (i + 1)) + 1 by omega]
  show (if digC (byt b i) = true then digF b (b.length - (i + 1)) (i + 1) else i) = _
  rw [if_pos h]
theorem digE_off {b : List UInt8} {i : Nat} (h : digC (byt b i) = false) : digE b i = i := by
  unfold digE
  cases b.length - i with
  | zero => rfl
  | succ n => show (if digC (byt b i) = true then digF b n (i + 1) else i) = _; rw [if_neg (by rw [h]; simp)]
theorem digF_bd (b : List UInt8) : ∀ n i, i ≤ digF b n i ∧ digF b n i ≤ i + n := by
  intro n
  induction n with
  | zero => intro i; exact ⟨Nat.le_refl _, Nat.le_refl _⟩
  | succ n ih =>
    intro i
    show i ≤ (if _ then _ else _) ∧ (if _ then _ else _) ≤ _
    split
    · have := ih (i + 1); omega
    · omega
theorem digE_bd (b : List UInt8) (i : Nat) (h : i ≤ b.length) : i ≤ digE b i ∧ digE b i ≤ b.length := by
  have := digF_bd b (b.length - i) i
  unfold digE; omega
/-- A number's exponent, its fraction, all of it: where it ends, and whether it is one. -/
def expM (b : List UInt8) (i : Nat) : Nat × Bool :=
  if byt b i = 101 ∨ byt b i = 69 then
    if digC (byt b (if byt b (i + 1) = 43 ∨ byt b (i + 1) = 45 then i + 2 else i + 1)) = true then (digE b (if byt b (i + 1) = 43 ∨ byt b (i + 1) = 45 then i + 2 else i + 1), true)
    else (if byt b (i + 1) = 43 ∨ byt b (i + 1) = 45 then i + 2 else i + 1, false)
  else (i, true)
def fracM (b : List UInt8) (i : Nat) : Nat × Bool :=
  if byt b i = 46 then if digC (byt b (i + 1)) = true then expM b (digE b (i + 1)) else (i + 1, false)
  else expM b i
def intM (b : List UInt8) (i : Nat) : Nat × Bool :=
  if byt b i = 48 then fracM b (i + 1) else if digC (byt b i) = true then fracM b (digE b i) else (i, false)
def numM (b : List UInt8) (i : Nat) : Nat × Bool := intM b (if byt b i = 45 then i + 1 else i)
theorem byt_lt {b : List UInt8} {i : Nat} {c : Int} (h : byt b i = c) (hc : c ≠ 0) : i < b.length := by
  rcases Nat.lt_or_ge i b.length with h1 | h1
  · exact h1
  · rw [byt_over h1] at h; exact absurd h.symm hc
theorem expM_bd (b : List UInt8) (i : Nat) (h : i ≤ b.length) : i ≤ (expM b i).1 ∧ (expM b i).1 ≤ b.length := by
  unfold expM
  split
  · rename_i h1
    have hi : i < b.length := by rcases h1 with h1 | h1 <;> exact byt_lt h1 (by decide)
    have hj : i < (if byt b (i + 1) = 43 ∨ byt b (i + 1) = 45 then i + 2 else i + 1) ∧ (if byt b (i + 1) = 43 ∨ byt b (i + 1) = 45 then i + 2 else i + 1) ≤ b.length := by
      split
      · rename_i h2
        have : i + 1 < b.length := by rcases h2 with h2 | h2 <;> exact byt_lt h2 (by decide)
        omega
      · omega
    generalize (if byt b (i + 1) = 43 ∨ byt b (i + 1) = 45 then i + 2 else i + 1) = j at *
    split
    · have := digE_bd b j hj.2; show i ≤ digE b j ∧ digE b j ≤ _; omega
    · show i ≤ j ∧ j ≤ _; omega
  · exact ⟨Nat.le_refl _, h⟩
theorem fracM_bd (b : List UInt8) (i : Nat) (h : i ≤ b.length) : i ≤ (fracM b i).1 ∧ (fracM b i).1 ≤ b.length := by
  unfold fracM
  split
  · rename_i h1
    have hi : i < b.length := byt_lt h1 (by decide)
    split
    · have h2 := digE_bd b (i + 1) (by omega)
      have := expM_bd b (digE b (i + 1)) h2.2; omega
    · show i ≤ i + 1 ∧ i + 1 ≤ _; omega
  · exact expM_bd b i h
theorem intM_bd (b : List UInt8) (i : Nat) (h : i ≤ b.length) : i ≤ (intM b i).1 ∧ (intM b i).1 ≤ b.length := by
  unfold intM
  split
  · rename_i h1
    have hi : i < b.length := byt_lt h1 (by decide)
    have := fracM_bd b (i + 1) (by omega); omega
  · split
    · have h2 := digE_bd b i h
      have := fracM_bd b (digE b i) h2.2; omega
    · exact ⟨Nat.le_refl _, h⟩
theorem numM_bd (b : List UInt8) (i : Nat) (h : i ≤ b.length) : i ≤ (numM b i).1 ∧ (numM b i).1 ≤ b.length := by
  unfold numM
  split
  · rename_i h1
    have hi : i < b.length := byt_lt h1 (by decide)
    have := intM_bd b (i + 1) (by omega); omega
  · exact intM_bd b i h
/-- A blank. -/
def blkC (c : Int) : Bool := decide (c = 32 ∨ c = 9 ∨ c = 10 ∨ c = 13)
theorem blkC_t {c : Int} (h : c = 32 ∨ c = 9 ∨ c = 10 ∨ c = 13) : blkC c = true := decide_eq_true h
theorem blkC_f {c : Int} (h : ¬ (c = 32 ∨ c = 9 ∨ c = 10 ∨ c = 13)) : blkC c = false := decide_eq_false h
def skipF (b : List UInt8) : Nat → Nat → Nat
  | 0, i => i
  | n + 1, i => if blkC (byt b i) = true then skipF b n (i + 1) else i
/-- Behind the blanks that stand there. -/
def skipE (b : List UInt8) (i : Nat) : Nat := skipF b (b.length - i) i
theorem skipE_on {b : List UInt8} {i : Nat} (hl : i < b.length) (h : blkC (byt b i) = true) : skipE b i = skipE b (i + 1) := by
  unfold skipE
  rw [show b.length - i = (b.length - (i + 1)) + 1 by omega]
  show (if blkC (byt b i) = true then skipF b (b.length - (i + 1)) (i + 1) else i) = _
  rw [if_pos h]
theorem skipE_off {b : List UInt8} {i : Nat} (h : blkC (byt b i) = false) : skipE b i = i := by
  unfold skipE
  cases b.length - i with
  | zero => rfl
  | succ n => show (if blkC (byt b i) = true then skipF b n (i + 1) else i) = _; rw [if_neg (by rw [h]; simp)]
theorem skipE_end {b : List UInt8} {i : Nat} (h : b.length ≤ i) : skipE b i = i := by
  unfold skipE; rw [show b.length - i = 0 by omega]; rfl
theorem skipF_bd (b : List UInt8) : ∀ n i, i ≤ skipF b n i ∧ skipF b n i ≤ i + n := by
  intro n
  induction n with
  | zero => intro i; exact ⟨Nat.le_refl _, Nat.le_refl _⟩
  | succ n ih =>
    intro i
    show i ≤ (if _ then _ else _) ∧ (if _ then _ else _) ≤ _
    split
    · have := ih (i + 1); omega
    · omega
theorem skipE_bd (b : List UInt8) (i : Nat) (h : i ≤ b.length) : i ≤ skipE b i ∧ skipE b i ≤ b.length := by
  have := skipF_bd b (b.length - i) i
  unfold skipE; omega
/-- So many hex digits. -/
def hexM (b : List UInt8) : Nat → Nat → Int → Int × Nat × Bool
  | 0, i, n => (n, i, true)
  | k + 1, i, n => if hexN (byt b i) < 0 then (0, i, false) else hexM b k (i + 1) (n * 16 + hexN (byt b i))
theorem hexM_no {b : List UInt8} {k i : Nat} {n : Int} (h : hexN (byt b i) < 0) : hexM b (k + 1) i n = (0, i, false) := by unfold hexM; rw [if_pos h]
theorem hexM_yes {b : List UInt8} {k i : Nat} {n : Int} (h : ¬ hexN (byt b i) < 0) : hexM b (k + 1) i n = hexM b k (i + 1) (n * 16 + hexN (byt b i)) := by
  conv => lhs; unfold hexM
  rw [if_neg h]
theorem hexN_lt {b : List UInt8} {i : Nat} (h : ¬ hexN (byt b i) < 0) : i < b.length := by
  rcases Nat.lt_or_ge i b.length with h1 | h1
  · exact h1
  · rw [byt_over h1] at h; exact absurd (by decide) h
theorem hexM_bd (b : List UInt8) : ∀ (k i : Nat) (n : Int), i ≤ b.length → i ≤ (hexM b k i n).2.1 ∧ (hexM b k i n).2.1 ≤ b.length := by
  intro k
  induction k with
  | zero => intro i n h; exact ⟨Nat.le_refl _, h⟩
  | succ k ih =>
    intro i n h
    by_cases hx : hexN (byt b i) < 0
    · rw [hexM_no hx]; exact ⟨Nat.le_refl _, h⟩
    · rw [hexM_yes hx]
      have := hexN_lt hx
      have := ih (i + 1) (n * 16 + hexN (byt b i)) (by omega)
      omega
theorem hexM_val (b : List UInt8) : ∀ (k i : Nat) (n : Int), 0 ≤ n → 0 ≤ (hexM b k i n).1 ∧ (hexM b k i n).1 < (n + 1) * 16 ^ k := by
  intro k
  induction k with
  | zero => intro i n h; show 0 ≤ n ∧ n < (n + 1) * 16 ^ 0; omega
  | succ k ih =>
    intro i n h
    by_cases hx : hexN (byt b i) < 0
    · rw [hexM_no hx]
      refine ⟨Int.le_refl 0, ?_⟩
      have : (0 : Int) < 16 ^ (k + 1) := Int.pow_pos (by decide)
      exact Int.mul_pos (by omega) this
    · rw [hexM_yes hx]
      have hb := hexN_bd (byt b i)
      have h2 := ih (i + 1) (n * 16 + hexN (byt b i)) (by omega)
      refine ⟨h2.1, Int.lt_of_lt_of_le h2.2 ?_⟩
      rw [Int.pow_succ, show (n + 1) * (16 ^ k * 16) = ((n + 1) * 16) * 16 ^ k by rw [Int.mul_comm (16 ^ k) 16, Int.mul_assoc]]
      have : (0 : Int) ≤ 16 ^ k := Int.le_of_lt (Int.pow_pos (by decide))
      exact Int.mul_le_mul_of_nonneg_right (by omega) this
theorem hexM_zero (b : List UInt8) : ∀ (k i : Nat) (n : Int), (hexM b k i n).2.2 = false → (hexM b k i n).1 = 0 := by
  intro k
  induction k with
  | zero => intro i n h; cases h
  | succ k ih =>
    intro i n h
    by_cases hx : hexN (byt b i) < 0
    · rw [hexM_no hx]
    · rw [hexM_yes hx] at h ⊢; exact ih _ _ h
/-- A unit's code point: with a low one behind a high one. -/
def lowB (b : List UInt8) (p : Nat) : Bool := decide (byt b p = 92 ∧ byt b (p + 1) = 117 ∧ (hexM b 4 (p + 2) 0).2.2 = true ∧ 56320 ≤ (hexM b 4 (p + 2) 0).1 ∧ (hexM b 4 (p + 2) 0).1 < 57344)
def pointM (b : List UInt8) (u : Int) (p : Nat) : Int × Nat :=
  if 55296 ≤ u ∧ u < 56320 ∧ lowB b p = true then (65536 + (u - 55296) * 1024 + ((hexM b 4 (p + 2) 0).1 - 56320), (hexM b 4 (p + 2) 0).2.1) else (u, p)
theorem pointM_no {b : List UInt8} {u : Int} {p : Nat} (h : u < 55296 ∨ 56320 ≤ u ∨ lowB b p = false) : pointM b u p = (u, p) := by
  unfold pointM; rw [if_neg]; rintro ⟨h1, h2, h3⟩
  rcases h with h | h | h
  · omega
  · omega
  · rw [h] at h3; cases h3
theorem pointM_yes {b : List UInt8} {u : Int} {p : Nat} (h1 : 55296 ≤ u) (h2 : u < 56320) (h : lowB b p = true) : pointM b u p = (65536 + (u - 55296) * 1024 + ((hexM b 4 (p + 2) 0).1 - 56320), (hexM b 4 (p + 2) 0).2.1) := by
  unfold pointM; rw [if_pos ⟨h1, h2, h⟩]
/-- What one byte behind a backslash tells; 0 of what is none. -/
def shortN (c : Int) : Int := if c = 34 ∨ c = 92 ∨ c = 47 then c else if c = 98 then 8 else if c = 102 then 12 else if c = 110 then 10 else if c = 114 then 13 else if c = 116 then 9 else 0
theorem shortN_bd (c : Int) : 0 ≤ shortN c ∧ shortN c ≤ 255 := by unfold shortN; (repeat' split) <;> omega
/-- An escape, from its backslash on: what it tells, where it ends, whether it is one. -/
def escM (b : List UInt8) (i : Nat) : List UInt8 × Nat × Bool :=
  if byt b (i + 1) = 117 then
    if (hexM b 4 (i + 2) 0).2.2 = true then (encR (fixR (pointM b (hexM b 4 (i + 2) 0).1 (hexM b 4 (i + 2) 0).2.1).1), (pointM b (hexM b 4 (i + 2) 0).1 (hexM b 4 (i + 2) 0).2.1).2, true)
    else ([], (hexM b 4 (i + 2) 0).2.1, false)
  else if shortN (byt b (i + 1)) = 0 then ([], i + 1, false) else ([mkB (shortN (byt b (i + 1)))], i + 2, true)
theorem pointM_bd (b : List UInt8) (u : Int) (p : Nat) (h : p ≤ b.length) : p ≤ (pointM b u p).2 ∧ (pointM b u p).2 ≤ b.length := by
  unfold pointM
  split
  · rename_i hc
    have h2 := of_decide_eq_true hc.2.2
    have hl : p + 1 < b.length := byt_lt h2.2.1 (by decide)
    have := hexM_bd b 4 (p + 2) 0 (by omega)
    show p ≤ (hexM b 4 (p + 2) 0).2.1 ∧ _ ≤ _
    omega
  · exact ⟨Nat.le_refl _, h⟩
theorem escM_bd (b : List UInt8) (i : Nat) (h : i < b.length) : i < (escM b i).2.1 ∧ (escM b i).2.1 ≤ b.length := by
  unfold escM
  split
  · rename_i h1
    have hl : i + 1 < b.length := byt_lt h1 (by decide)
    have h2 := hexM_bd b 4 (i + 2) 0 (by omega)
    split
    · have := pointM_bd b (hexM b 4 (i + 2) 0).1 (hexM b 4 (i + 2) 0).2.1 h2.2
      show i < (pointM b _ _).2 ∧ (pointM b _ _).2 ≤ _
      omega
    · show i < (hexM b 4 (i + 2) 0).2.1 ∧ (hexM b 4 (i + 2) 0).2.1 ≤ _; omega
  · split
    · show i < i + 1 ∧ i + 1 ≤ _; omega
    · rename_i h3
      have hl : i + 1 < b.length := by
        rcases Nat.lt_or_ge (i + 1) b.length with h4 | h4
        · exact h4
        · rw [byt_over h4] at h3; exact absurd (by decide) h3
      show i < i + 2 ∧ i + 2 ≤ _; omega
/-- The kind of a token that is one byte. -/
def signN (c : Int) : Int := if c = 123 then 1 else if c = 125 then 2 else if c = 91 then 3 else if c = 93 then 4 else if c = 58 then 5 else 6
/-- A word that stands there: where it ends, or parts. -/
def wordM (b : List UInt8) : List UInt8 → Nat → Nat × Bool
  | [], i => (i, true)
  | c :: t, i => if byt b i = (c.toNat : Int) then wordM b t (i + 1) else (i, false)
theorem wordM_bd (b : List UInt8) : ∀ (l : List UInt8) (i : Nat), (∀ c ∈ l, c ≠ 0) → i ≤ b.length → i ≤ (wordM b l i).1 ∧ (wordM b l i).1 ≤ b.length := by
  intro l
  induction l with
  | nil => intro i _ h; exact ⟨Nat.le_refl _, h⟩
  | cons c t ih =>
    intro i hc h
    unfold wordM
    split
    · rename_i he
      have hz : (c.toNat : Int) ≠ 0 := by
        have := hc c List.mem_cons_self
        intro h0
        apply this
        apply UInt8.toNat_inj.1
        show c.toNat = 0
        omega
      have hl := byt_lt he hz
      have := ih (i + 1) (fun x hx => hc x (List.mem_cons_of_mem _ hx)) (by omega)
      omega
    · exact ⟨Nat.le_refl _, h⟩
/-- The bytes from one place to another. -/
def sub8 (b : List UInt8) (f t : Nat) : List UInt8 := (b.take t).drop f
theorem sub8_len {b : List UInt8} {f t : Nat} (h1 : f ≤ t) (h2 : t ≤ b.length) : (sub8 b f t).length = t - f := by unfold sub8; simp; omega
theorem sub8_self (b : List UInt8) (f : Nat) : sub8 b f f = [] := by unfold sub8; simp
theorem sub8_join {b : List UInt8} {f p q : Nat} (h1 : f ≤ p) (h2 : p ≤ q) (h3 : q ≤ b.length) : sub8 b f p ++ sub8 b p q = sub8 b f q := by
  unfold sub8
  have e : b.take q = b.take p ++ (b.take q).drop p := by
    conv => lhs; rw [← List.take_append_drop p (b.take q)]
    rw [List.take_take, Nat.min_eq_left h2]
  have hl : (b.take p).length = p := by simp; omega
  conv => rhs; rw [e]
  rw [List.drop_append]
  rw [show f - (b.take p).length = 0 by omega]
  simp
/-- A string behind its first quote: its text, where it ends, whether it is one. -/
def strF (b : List UInt8) : Nat → Nat → List UInt8 → List UInt8 × Nat × Bool
  | 0, i, _ => ([], i, false)
  | f + 1, i, acc =>
    if b.length ≤ i then ([], i, false)
    else if byt b i = 34 then (acc, i + 1, true)
    else if byt b i = 92 then (if (escM b i).2.2 = true then strF b f (escM b i).2.1 (acc ++ (escM b i).1) else ([], (escM b i).2.1, false))
    else if byt b i < 32 then ([], i, false)
    else if (nextL (b.drop i)).2.2 = true then strF b f (i + (nextL (b.drop i)).2.1) (acc ++ sub8 b i (i + (nextL (b.drop i)).2.1))
    else ([], i, false)
def strM (b : List UInt8) (i : Nat) (acc : List UInt8) : List UInt8 × Nat × Bool := strF b (b.length + 1 - i) i acc
theorem strF_fuel (b : List UInt8) : ∀ (n m i : Nat) (acc : List UInt8), b.length < n + i → b.length < m + i → strF b n i acc = strF b m i acc := by
  intro n
  induction n with
  | zero =>
    intro m i acc h1 h2
    cases m with
    | zero => rfl
    | succ m => unfold strF; rw [if_pos (by omega)]
  | succ n ih =>
    intro m i acc h1 h2
    cases m with
    | zero => conv => lhs; unfold strF
              rw [if_pos (by omega)]; rfl
    | succ m =>
      unfold strF
      by_cases c1 : b.length ≤ i
      · rw [if_pos c1, if_pos c1]
      rw [if_neg c1, if_neg c1]
      by_cases c2 : byt b i = 34
      · rw [if_pos c2, if_pos c2]
      rw [if_neg c2, if_neg c2]
      by_cases c3 : byt b i = 92
      · rw [if_pos c3, if_pos c3]
        by_cases c4 : (escM b i).2.2 = true
        · rw [if_pos c4, if_pos c4]
          have := escM_bd b i (by omega)
          exact ih m _ _ (by omega) (by omega)
        · rw [if_neg c4, if_neg c4]
      rw [if_neg c3, if_neg c3]
      by_cases c5 : byt b i < 32
      · rw [if_pos c5, if_pos c5]
      rw [if_neg c5, if_neg c5]
      by_cases c6 : (nextL (b.drop i)).2.2 = true
      · rw [if_pos c6, if_pos c6]
        have := nextL_n (b.drop i) (by simp; omega)
        exact ih m _ _ (by omega) (by omega)
      · rw [if_neg c6, if_neg c6]
theorem strM_step (b : List UInt8) (i : Nat) (acc : List UInt8) (h : i < b.length) : strM b i acc =
    if byt b i = 34 then (acc, i + 1, true)
    else if byt b i = 92 then (if (escM b i).2.2 = true then strM b (escM b i).2.1 (acc ++ (escM b i).1) else ([], (escM b i).2.1, false))
    else if byt b i < 32 then ([], i, false)
    else if (nextL (b.drop i)).2.2 = true then strM b (i + (nextL (b.drop i)).2.1) (acc ++ sub8 b i (i + (nextL (b.drop i)).2.1))
    else ([], i, false) := by
  have he := escM_bd b i h
  have hn := nextL_n (b.drop i) (by simp; omega)
  have hln : (b.drop i).length = b.length - i := by simp
  unfold strM
  rw [show b.length + 1 - i = (b.length - i) + 1 by omega]
  conv => lhs; unfold strF
  rw [if_neg (by omega)]
  rw [strF_fuel b (b.length - i) (b.length + 1 - (escM b i).2.1) (escM b i).2.1 _ (by omega) (by omega)]
  rw [strF_fuel b (b.length - i) (b.length + 1 - (i + (nextL (b.drop i)).2.1)) (i + (nextL (b.drop i)).2.1) _ (by omega) (by omega)]
theorem strM_end (b : List UInt8) (i : Nat) (acc : List UInt8) (h : b.length ≤ i) : strM b i acc = ([], i, false) := by
  unfold strM
  cases hf : b.length + 1 - i with
  | zero => rfl
  | succ f => unfold strF; rw [if_pos h]
end Go.Proofs.Ytkdmmmheciffgaa
