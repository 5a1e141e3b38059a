/- The plain mathematics of utf: no program. -/
import Derived.Lib.Hide
set_option linter.unusedVariables false
set_option linter.unusedSimpArgs false
namespace Go.Proofs.YtedfgikikjggaaaDoor

/-- The i-th byte of a list, as a number. -/
def byt (l : List UInt8) (i : Nat) : Int := ((l.getD i 0).toNat : Int)
theorem byt_lo (l : List UInt8) (i : Nat) : 0 ≤ byt l i := by unfold byt; omega
theorem byt_hi (l : List UInt8) (i : Nat) : byt l i ≤ 255 := by unfold byt; have := (l.getD i 0).toNat_lt; omega
theorem byt_drop (l : List UInt8) (k i : Nat) : byt (l.drop k) i = byt l (k + i) := by
  unfold byt; simp [List.getD, List.getElem?_drop]

def shp (c : Int) : Int × Int × Int :=
  if c < 194 ∨ 244 < c then (0, 0, 0)
  else if c ≤ 223 then (1, 128, 191)
  else if c = 224 then (2, 160, 191)
  else if c = 237 then (2, 128, 159)
  else if c ≤ 239 then (2, 128, 191)
  else if c = 240 then (3, 144, 191)
  else if c = 244 then (3, 128, 143)
  else (3, 128, 191)

def sqp (c : Int) : Int × Int × Int :=
  if c ≤ 127 then (1, 0, 0) else ((if (shp c).1 = 0 then 0 else (shp c).1 + 1), (shp c).2.1, (shp c).2.2)

theorem shp_cases (c : Int) : shp c = (0, 0, 0) ∨ ∃ m lo hi, shp c = (m, lo, hi) ∧ 1 ≤ m ∧ m ≤ 3 ∧ 128 ≤ lo ∧ lo ≤ 191 ∧ 128 ≤ hi ∧ hi ≤ 191 := by
  unfold shp
  (repeat' split) <;> first | (left; rfl) | (right; exact ⟨_, _, _, rfl, by decide, by decide, by decide, by decide, by decide, by decide⟩)


/-- The rounds of Next: k bytes are still to come, from i on. -/
def nl (l : List UInt8) : Nat → Nat → Int → Int → Int → Int × Nat × Bool
  | 0, i, r, _, _ => (r, i, true)
  | k + 1, i, r, lo, hi => if i < l.length ∧ lo ≤ byt l i ∧ byt l i ≤ hi then nl l k (i + 1) (r * 64 + byt l i % 64) 128 191 else (65533, i, false)
def nextL (l : List UInt8) : Int × Nat × Bool :=
  if l.length = 0 then (0, 0, false)
  else if byt l 0 ≤ 127 then (byt l 0, 1, true)
  else if (shp (byt l 0)).1 = 0 then (65533, 1, false)
  else nl l (shp (byt l 0)).1.toNat 1 (byt l 0 % 2 ^ (6 - (shp (byt l 0)).1.toNat)) (shp (byt l 0)).2.1 (shp (byt l 0)).2.2


def rbd (k : Nat) : Int := if k ≤ 1 then 32 else if k = 2 then 2048 else if k = 3 then 131072 else 8388608
theorem rbd_le {k : Nat} (h : k ≤ 3) : rbd k ≤ 131072 := by unfold rbd; (repeat' split) <;> omega
theorem rbd_step {k : Nat} {R x : Int} (h1 : 1 ≤ k) (h : k ≤ 3) (hr : R < rbd k) : R * 64 + x % 64 < rbd (k + 1) := by
  unfold rbd at *; (repeat' split) <;> (repeat' split at hr) <;> omega
theorem nl_zero {l : List UInt8} {k : Nat} {R L H : Int} : nl l 0 k R L H = (R, k, true) := rfl
theorem nl_no {l : List UInt8} {j k : Nat} {R L H : Int} (h : ¬ (k < l.length ∧ L ≤ byt l k ∧ byt l k ≤ H)) : nl l (j + 1) k R L H = (65533, k, false) := by
  unfold nl; rw [if_neg h]
theorem nl_yes {l : List UInt8} {j k : Nat} {R L H : Int} (h : k < l.length ∧ L ≤ byt l k ∧ byt l k ≤ H) : nl l (j + 1) k R L H = nl l j (k + 1) (R * 64 + byt l k % 64) 128 191 := by
  rw [nl, if_pos h]

theorem nl_n (l : List UInt8) : ∀ (j i : Nat) (r lo hi : Int), 1 ≤ i → i ≤ l.length →
    1 ≤ (nl l j i r lo hi).2.1 ∧ (nl l j i r lo hi).2.1 ≤ l.length ∧ (nl l j i r lo hi).2.1 ≤ i + j ∧ ((nl l j i r lo hi).2.2 = false → (nl l j i r lo hi).1 = 65533 ∧ (nl l j i r lo hi).2.1 < i + j) := by
  intro j
  induction j with
  | zero => intro i r lo hi h1 h2; refine ⟨h1, h2, Nat.le_refl _, fun h => by cases h⟩
  | succ j ih =>
    intro i r lo hi h1 h2
    by_cases h : i < l.length ∧ lo ≤ byt l i ∧ byt l i ≤ hi
    · rw [nl_yes h]
      obtain ⟨a, b, c, d⟩ := ih (i + 1) (r * 64 + byt l i % 64) 128 191 (by omega) (by omega)
      exact ⟨a, b, by omega, fun e => ⟨(d e).1, by have := (d e).2; omega⟩⟩
    · rw [nl_no h]; exact ⟨h1, h2, by show i ≤ _; omega, fun _ => ⟨rfl, by show i < _; omega⟩⟩
theorem nextL_n (l : List UInt8) (h : 0 < l.length) : 1 ≤ (nextL l).2.1 ∧ (nextL l).2.1 ≤ l.length ∧ (nextL l).2.1 ≤ 4 ∧ ((nextL l).2.2 = false → (nextL l).1 = 65533 ∧ (nextL l).2.1 ≤ 3) := by
  unfold nextL
  rw [if_neg (by omega)]
  split
  · exact ⟨Nat.le_refl _, h, by show 1 ≤ 4; omega, fun e => by cases e⟩
  · split
    · exact ⟨Nat.le_refl _, h, by show 1 ≤ 4; omega, fun e => ⟨rfl, by show 1 ≤ 3; omega⟩⟩
    · obtain ⟨a, b, c, d⟩ := nl_n l (shp (byt l 0)).1.toNat 1 (byt l 0 % 2 ^ (6 - (shp (byt l 0)).1.toNat)) (shp (byt l 0)).2.1 (shp (byt l 0)).2.2 (Nat.le_refl _) h
      have hm : (shp (byt l 0)).1.toNat ≤ 3 := by
        rcases shp_cases (byt l 0) with h | ⟨m, lo, hi, h, h1, h2, _⟩ <;> rw [h]
        · decide
        · show m.toNat ≤ 3; omega
      exact ⟨a, b, by omega, fun e => ⟨(d e).1, by have := (d e).2; omega⟩⟩

/-- All Nexts, one behind the other. -/
def dec : Nat → List UInt8 → List (Int × Nat × Bool)
  | 0, _ => []
  | f + 1, l => if l.length = 0 then [] else nextL l :: dec f (l.drop (nextL l).2.1)
def toks (l : List UInt8) : List (Int × Nat × Bool) := dec l.length l
theorem dec_fuel : ∀ (f g : Nat) (l : List UInt8), l.length ≤ f → l.length ≤ g → dec f l = dec g l := by
  intro f
  induction f with
  | zero => intro g l hf _; cases g with
    | zero => rfl
    | succ g => have : l.length = 0 := by omega
                simp [dec, this]
  | succ f ih => intro g l hf hg; cases g with
    | zero => have : l.length = 0 := by omega
              simp [dec, this]
    | succ g =>
      unfold dec
      by_cases h : l.length = 0
      · rw [if_pos h, if_pos h]
      · have hn := nextL_n l (by omega)
        rw [if_neg h, if_neg h, ih g (l.drop (nextL l).2.1) (by simp; omega) (by simp; omega)]
theorem dec_succ (f : Nat) (l : List UInt8) : dec (f + 1) l = if l.length = 0 then [] else nextL l :: dec f (l.drop (nextL l).2.1) := rfl
theorem toks_nil {l : List UInt8} (h : l.length = 0) : toks l = [] := by unfold toks; rw [h]; rfl
theorem toks_cons {l : List UInt8} (h : 0 < l.length) : toks l = nextL l :: toks (l.drop (nextL l).2.1) := by
  have hn := nextL_n l h
  unfold toks
  conv => lhs; rw [show l.length = (l.length - 1) + 1 from by omega]
  rw [dec_succ, if_neg (by omega), dec_fuel (l.length - 1) (l.drop (nextL l).2.1).length _ (by simp; omega) (Nat.le_refl _)]
def decL (l : List UInt8) : List Int := (toks l).map (·.1)
def validL (l : List UInt8) : Bool := (toks l).all (·.2.2)
theorem decL_nil {l : List UInt8} (h : l.length = 0) : decL l = [] := by unfold decL; rw [toks_nil h]; rfl
theorem decL_cons {l : List UInt8} (h : 0 < l.length) : decL l = (nextL l).1 :: decL (l.drop (nextL l).2.1) := by unfold decL; rw [toks_cons h]; rfl
theorem validL_nil {l : List UInt8} (h : l.length = 0) : validL l = true := by unfold validL; rw [toks_nil h]; rfl
theorem validL_cons {l : List UInt8} (h : 0 < l.length) : validL l = ((nextL l).2.2 && validL (l.drop (nextL l).2.1)) := by unfold validL; rw [toks_cons h]; rfl
theorem decL_len : ∀ (n : Nat) (l : List UInt8), l.length ≤ n → (decL l).length ≤ l.length := by
  intro n
  induction n with
  | zero => intro l h; rw [decL_nil (by omega)]; simp
  | succ n ih =>
    intro l h
    by_cases h0 : l.length = 0
    · rw [decL_nil h0]; simp
    · have hn := nextL_n l (by omega)
      have := ih (l.drop (nextL l).2.1) (by simp; omega)
      rw [decL_cons (by omega)]
      simp at this ⊢
      omega

/-- A byte of a number. -/
def mkB (n : Int) : UInt8 := UInt8.ofNat n.toNat
theorem mkB_val {n : Int} (h0 : 0 ≤ n) (h1 : n ≤ 255) : ((mkB n).toNat : Int) = n := by
  unfold mkB
  rw [UInt8.toNat_ofNat', Nat.mod_eq_of_lt (by omega)]; omega
def fixR (r : Int) : Int := if r < 0 ∨ 1114111 < r ∨ (55296 ≤ r ∧ r ≤ 57343) then 65533 else r
theorem fixR_bd (r : Int) : 0 ≤ fixR r ∧ fixR r ≤ 1114111 := by unfold fixR; split <;> omega
def encR (r : Int) : List UInt8 :=
  if r < 128 then [mkB r]
  else if r < 2048 then [mkB (192 + r / 64), mkB (128 + r % 64)]
  else if r < 65536 then [mkB (224 + r / 4096), mkB (128 + r / 64 % 64), mkB (128 + r % 64)]
  else [mkB (240 + r / 262144), mkB (128 + r / 4096 % 64), mkB (128 + r / 64 % 64), mkB (128 + r % 64)]
theorem encR_len (r : Int) : 1 ≤ (encR r).length ∧ (encR r).length ≤ 4 := by unfold encR; (repeat' split) <;> simp
def encL : List Int → List UInt8
  | [] => []
  | r :: rs => encR (fixR r) ++ encL rs
theorem encL_append (a b : List Int) : encL (a ++ b) = encL a ++ encL b := by
  induction a with
  | nil => rfl
  | cons x a ih => simp [encL, ih]
theorem encL_len (a : List Int) : a.length ≤ (encL a).length ∧ (encL a).length ≤ 4 * a.length := by
  induction a with
  | nil => simp [encL]
  | cons x a ih => have := encR_len (fixR x); simp [encL]; omega
theorem encL_take (a : List Int) (k : Nat) (hk : k < a.length) : encL (a.take (k + 1)) = encL (a.take k) ++ encR (fixR (a.getD k 0)) := by
  rw [List.take_succ_eq_append_getElem hk, encL_append]
  simp [encL, List.getD, hk]
end Go.Proofs.YtedfgikikjggaaaDoor
