import Derived.Lib.Hide
set_option linter.unusedVariables false
set_option linter.unusedSimpArgs false
namespace Go.Proofs.YtaphadmcjimmeaaDoor
def hexN (c : Int) : Int := if 48 ≤ c ∧ c ≤ 57 then c - 48 else if 97 ≤ c ∧ c ≤ 102 then c - 87 else if 65 ≤ c ∧ c ≤ 70 then c - 55 else -1
theorem hexN_bd (c : Int) : -1 ≤ hexN c ∧ hexN c ≤ 15 := by unfold hexN; (repeat' split) <;> omega
def byt (l : List UInt8) (i : Nat) : Int := ((l.getD i 0).toNat : Int)
theorem byt_lo (l : List UInt8) (i : Nat) : 0 ≤ byt l i := by unfold byt; omega
theorem byt_hi (l : List UInt8) (i : Nat) : byt l i ≤ 255 := by unfold byt; have := (l.getD i 0).toNat_lt; omega
theorem byt_drop (l : List UInt8) (k i : Nat) : byt (l.drop k) i = byt l (k + i) := by
  unfold byt; simp [List.getD, List.getElem?_drop]
def shp (c : Int) : Int × Int × Int :=
  if c < 194 ∨ 244 < c then (0, 0, 0)
  else if c ≤ 223 then (1, 128, 191)
  else if c = 224 then (2, 160, 191)
  else if c = 237 then (2, 128, 159)
  else if c ≤ 239 then (2, 128, 191)
  else if c = 240 then (3, 144, 191)
  else if c = 244 then (3, 128, 143)
  else (3, 128, 191)
theorem shp_cases (c : Int) : shp c = (0, 0, 0) ∨ ∃ m lo hi, shp c = (m, lo, hi) ∧ 1 ≤ m ∧ m ≤ 3 ∧ 128 ≤ lo ∧ lo ≤ 191 ∧ 128 ≤ hi ∧ hi ≤ 191 := by
  unfold shp
  (repeat' split) <;> first | (left; rfl) | (right; exact ⟨_, _, _, rfl, by decide, by decide, by decide, by decide, by decide, by decide⟩)
def nl (l : List UInt8) : Nat → Nat → Int → Int → Int → Int × Nat × Bool
  | 0, i, r, _, _ => (r, i, true)
  | k + 1, i, r, lo, hi => if i < l.length ∧ lo ≤ byt l i ∧ byt l i ≤ hi then nl l k (i + 1) (r * 64 + byt l i % 64) 128 191 else (65533, i, false)
def nextL (l : List UInt8) : Int × Nat × Bool :=
  if l.length = 0 then (0, 0, false)
  else if byt l 0 ≤ 127 then (byt l 0, 1, true)
  else if (shp (byt l 0)).1 = 0 then (65533, 1, false)
  else nl l (shp (byt l 0)).1.toNat 1 (byt l 0 % 2 ^ (6 - (shp (byt l 0)).1.toNat)) (shp (byt l 0)).2.1 (shp (byt l 0)).2.2
def rbd (k : Nat) : Int := if k ≤ 1 then 32 else if k = 2 then 2048 else if k = 3 then 131072 else 8388608
theorem rbd_le {k : Nat} (h : k ≤ 3) : rbd k ≤ 131072 := by unfold rbd; (repeat' split) <;> omega
theorem rbd_step {k : Nat} {R x : Int} (h1 : 1 ≤ k) (h : k ≤ 3) (hr : R < rbd k) : R * 64 + x % 64 < rbd (k + 1) := by
  unfold rbd at *; (repeat' split) <;> (repeat' split at hr) <;> omega
theorem nl_zero {l : List UInt8} {k : Nat} {R L H : Int} : nl l 0 k R L H = (R, k, true) := rfl
theorem nl_no {l : List UInt8} {j k : Nat} {R L H : Int} (h : ¬ (k < l.length ∧ L ≤ byt l k ∧ byt l k ≤ H)) : nl l (j + 1) k R L H = (65533, k, false) := by
  unfold nl; rw [if_neg h]
theorem nl_yes {l : List UInt8} {j k : Nat} {R L H : Int} (h : k < l.length ∧ L ≤ byt l k ∧ byt l k ≤ H) : nl l (j + 1) k R L H = nl l j (k + 1) (R * 64 + byt l k % 64) 128 191 := by
  rw [nl, if_pos h]
theorem nl_n (l : List UInt8) : ∀ (j i : Nat) (r lo hi : Int), 1 ≤ i → i ≤ l.length →
    1 ≤ (nl l j i r lo hi).2.1 ∧ (nl l j i r lo hi).2.1 ≤ l.length ∧ (nl l j i r lo hi).2.1 ≤ i + j ∧ ((nl l j i r lo hi).2.2 = false → (nl l j i r lo hi).1 = 65533 ∧ (nl l j i r lo hi).2.1 < i + j) := by
  intro j
  induction j with
  | zero => intro i r lo hi h1 h2; refine ⟨h1, h2, Nat.le_refl _, fun h => by cases h⟩
  | succ j ih =>
    intro i r lo hi h1 h2
    by_cases h : i < l.length ∧ lo ≤ byt l i ∧ byt l i ≤ hi
    · rw [nl_yes h]
      obtain ⟨a, b, c, d⟩ := ih (i + 1) (r * 64 + byt l i % 64) 128 191 (by omega) (by omega)
      exact ⟨a, b, by omega, fun e => ⟨(d e).1, by have := (d e).2; omega⟩⟩
    · rw [nl_no h]; exact ⟨h1, h2, by show i ≤ _; omega, fun _ => ⟨rfl, by show i < _; omega⟩⟩
theorem nextL_n (l : List UInt8) (h : 0 < l.length) : 1 ≤ (nextL l).2.1 ∧ (nextL l).2.1 ≤ l.length ∧ (nextL l).2.1 ≤ 4 ∧ ((nextL l).2.2 = false → (nextL l).1 = 65533 ∧ (nextL l).2.1 ≤ 3) := by
  unfold nextL
  rw [if_neg (by omega)]
  split
  · exact ⟨Nat.le_refl _, h, by show 1 ≤ 4; omega, fun e => by cases e⟩
  · split
    · exact ⟨Nat.le_refl _, h, by show 1 ≤ 4; omega, fun e => ⟨rfl, by show 1 ≤ 3; omega⟩⟩
    · obtain ⟨a, b, c, d⟩ := nl_n l (shp (byt l 0)).1.toNat 1 (byt l 0 % 2 ^ (6 - (shp (byt l 0)).1.toNat)) (shp (byt l 0)).2.1 (shp (byt l 0)).2.2 (Nat.le_refl _) h
      have hm : (shp (byt l 0)).1.toNat ≤ 3 := by
        rcases shp_cases (byt l 0) with h | ⟨m, lo, hi, h, h1, h2, _⟩ <;> rw [h]
        · decide
        · show m.toNat ≤ 3; omega
      exact ⟨a, b, by omega, fun e => ⟨(d e).1, by have := (d e).2; omega⟩⟩
def dec : Nat → List UInt8 → List (Int × Nat × Bool)
  | 0, _ => []
  | f + 1, l => if l.length = 0 then [] else nextL l :: dec f (l.drop (nextL l).2.1)
def toks (l : List UInt8) : List (Int × Nat × Bool) := dec l.length l
theorem dec_fuel : ∀ (f g : Nat) (l : List UInt8), l.length ≤ f → l.length ≤ g → dec f l = dec g l := by
  intro f
  induction f with
  | zero => intro g l hf _; cases g with
    | zero => rfl
    | succ g => have : l.length = 0 := by omega
                simp [dec, this]
  | succ f ih => intro g l hf hg; cases g with
    | zero => have : l.length = 0 := by omega
              simp [dec, this]
    | succ g =>
      unfold dec
      by_cases h : l.length = 0
      · rw [if_pos h, if_pos h]
      · have hn := nextL_n l (by omega)
        rw [if_neg h, if_neg h, ih g (l.drop (nextL l).2.1) (by simp; omega) (by simp; omega)]
theorem dec_succ (f : Nat) (l : List UInt8) : dec (f + 1) l = if l.length = 0 then [] else nextL l :: dec f (l.drop (nextL l).2.1) := rfl
theorem toks_nil {l : List UInt8} (h : l.length = 0) : toks l = [] := by unfold toks; rw [h]; rfl
theorem toks_cons {l : List UInt8} (h : 0 < l.length) : toks l = nextL l :: toks (l.drop (nextL l).2.1) := by
  have hn := nextL_n l h
  unfold toks
  conv => lhs; rw [show l.length = (l.length - 1) + 1 from by omega]
  rw [dec_succ, if_neg (by omega), dec_fuel (l.length - 1) (l.drop (nextL l).2.1).length _ (by simp; omega) (Nat.le_refl _)]
def decL (l : List UInt8) : List Int := (toks l).map (·.1)
def validL (l : List UInt8) : Bool := (toks l).all (·.2.2)
theorem decL_nil {l : List UInt8} (h : l.length = 0) : decL l = [] := by unfold decL; rw [toks_nil h]; rfl
theorem decL_cons {l : List UInt8} (h : 0 < l.length) : decL l = (nextL l).1 :: decL (l.drop (nextL l).2.1) := by unfold decL; rw [toks_cons h]; rfl
theorem validL_nil {l : List UInt8} (h : l.length = 0) : validL l = true := by unfold validL; rw [toks_nil h]; rfl
theorem validL_cons {l : List UInt8} (h : 0 < l.length) : validL l = ((nextL l).2.2 && validL (l.drop (nextL l).2.1)) := by unfold validL; rw [toks_cons h]; rfl
theorem decL_len : ∀ (n : Nat) (l : List UInt8), l.length ≤ n → (decL l).length ≤ l.length := by
  intro n
  induction n with
  | zero => intro l h; rw [decL_nil (by omega)]; simp
  | succ n ih =>
    intro l h
    by_cases h0 : l.length = 0
    · rw [decL_nil h0]; simp
    · have hn := nextL_n l (by omega)
      have := ih (l.drop (nextL l).2.1) (by simp; omega)
      rw [decL_cons (by omega)]
      simp at this ⊢
      omega
def mkB (n : Int) : UInt8 := UInt8.ofNat n.toNat
theorem mkB_val {n : Int} (h0 : 0 ≤ n) (h1 : n ≤ 255) : ((mkB n).toNat : Int) = n := by
  unfold mkB
  rw [UInt8.toNat_ofNat', Nat.mod_eq_of_lt (by omega)]; omega
def fixR (r : Int) : Int := if r < 0 ∨ 1114111 < r ∨ (55296 ≤ r ∧ r ≤ 57343) then 65533 else r
theorem fixR_bd (r : Int) : 0 ≤ fixR r ∧ fixR r ≤ 1114111 := by unfold fixR; split <;> omega
def encR (r : Int) : List UInt8 :=
  if r < 128 then [mkB r]
  else if r < 2048 then [mkB (192 + r / 64), mkB (128 + r % 64)]
  else if r < 65536 then [mkB (224 + r / 4096), mkB (128 + r / 64 % 64), mkB (128 + r % 64)]
  else [mkB (240 + r / 262144), mkB (128 + r / 4096 % 64), mkB (128 + r / 64 % 64), mkB (128 + r % 64)]
theorem encR_len (r : Int) : 1 ≤ (encR r).length ∧ (encR r).length ≤ 4 := by unfold encR; (repeat' split) <;> simp
def encL : List Int → List UInt8
  | [] => []
  | r :: rs => encR (fixR r) ++ encL rs
theorem encL_append (a b : List Int) : encL (a ++ b) = encL a ++ encL b := by
  induction a with
  | nil => rfl
  | cons x a ih => simp [encL, ih]
theorem encL_len (a : List Int) : a.length ≤ (encL a).length ∧ (encL a).length ≤ 4 * a.length := by
  induction a with
  | nil => simp [encL]
  | cons x a ih => have := encR_len (fixR x); simp [encL]; omega
theorem encL_take (a : List Int) (k : Nat) (hk : k < a.length) : encL (a.take (k + 1)) = encL (a.take k) ++ encR (fixR (a.getD k 0)) := by
  rw [List.take_succ_eq_append_getElem hk, encL_append]
  simp [encL, List.getD, hk]
def splitB (c : Int) : List UInt8 → List (List UInt8)
  | [] => [[]]
  | b :: t => if (b.toNat : Int) = c then [] :: splitB c t else match splitB c t with
    | p :: ps => (b :: p) :: ps
    | [] => [[b]]
theorem splitB_ne (c : Int) (l : List UInt8) : splitB c l ≠ [] := by
  cases l with
  | nil => simp [splitB]
  | cons b t =>
    unfold splitB
    split
    · simp
    · split <;> simp
theorem byt0 (b : UInt8) (t : List UInt8) : byt (b :: t) 0 = (b.toNat : Int) := rfl
theorem bytS (b : UInt8) (t : List UInt8) (i : Nat) : byt (b :: t) (i + 1) = byt t i := by unfold byt; simp [List.getD]
theorem splitB_hit (c : Int) : ∀ (n : Nat) (l : List UInt8), n < l.length → (∀ q, q < n → byt l q ≠ c) → byt l n = c → splitB c l = l.take n :: splitB c (l.drop (n + 1)) := by
  intro n
  induction n with
  | zero =>
    intro l hl _ h
    match l, hl with
    | b :: t, _ =>
      rw [byt0] at h
      conv => lhs; unfold splitB
      rw [if_pos h]; rfl
  | succ n ih =>
    intro l hl hn h
    match l, hl with
    | b :: t, hl =>
      have h0 := hn 0 (by omega)
      rw [byt0] at h0
      rw [bytS] at h
      have := ih t (by simpa using hl) (fun q hq => by have := hn (q + 1) (by omega); rwa [bytS] at this) h
      conv => lhs; unfold splitB
      rw [if_neg h0, this]; rfl
theorem splitB_end (c : Int) : ∀ (l : List UInt8), (∀ q, q < l.length → byt l q ≠ c) → splitB c l = [l] := by
  intro l
  induction l with
  | nil => intro _; rfl
  | cons b t ih =>
    intro h
    have h0 := h 0 (by simp)
    rw [byt0] at h0
    have := ih fun q hq => by have := h (q + 1) (by simp; omega); rwa [bytS] at this
    conv => lhs; unfold splitB
    rw [if_neg h0, this]
def trimL (l : List UInt8) : List UInt8 := if 0 < l.length ∧ byt l (l.length - 1) = 46 then l.take (l.length - 1) else l
def hexP (l : List UInt8) : Bool := decide (2 ≤ l.length ∧ byt l 0 = 48 ∧ (byt l 1 = 120 ∨ byt l 1 = 88))
def hexR (l : List UInt8) : List UInt8 := if hexP l = true then l.drop 2 else []
def onlyB (n : Int) : List UInt8 → Bool
  | [] => true
  | b :: t => decide (0 ≤ hexN (b.toNat : Int) ∧ hexN (b.toNat : Int) < n) && onlyB n t
def stepV (n v : Int) (c : Int) : Int := min (v * n + hexN c) 4294967296
def valV (n : Int) (v : Int) (l : List UInt8) : Int := l.foldl (fun v b => stepV n v (b.toNat : Int)) v
def baseN (l : List UInt8) : Int := if hexP l = true then 16 else if 1 < l.length ∧ byt l 0 = 48 then 8 else 10
def bodyL (l : List UInt8) : List UInt8 := if hexP l = true then l.drop 2 else l
def numO (l : List UInt8) : Bool := (hexP l || decide (0 < l.length)) && onlyB (baseN l) (bodyL l)
def numV (l : List UInt8) : Int := if numO l = true then valV (baseN l) 0 (bodyL l) else 0
theorem onlyB_step (n : Int) : ∀ (l : List UInt8) (i : Nat), i < l.length → onlyB n (l.drop i) = (decide (0 ≤ hexN (byt l i) ∧ hexN (byt l i) < n) && onlyB n (l.drop (i + 1))) := by
  intro l i hi
  rw [List.drop_eq_getElem_cons hi]
  show (decide _ && _) = _
  have e : byt l i = ((l[i]).toNat : Int) := by unfold byt; simp [List.getD, hi]
  rw [e]
theorem valV_take (n : Int) (l : List UInt8) (i : Nat) (h : i < l.length) : valV n 0 (l.take (i + 1)) = stepV n (valV n 0 (l.take i)) (byt l i) := by
  unfold valV
  rw [List.take_succ_eq_append_getElem h, List.foldl_append]
  have e : byt l i = ((l[i]).toNat : Int) := by unfold byt; simp [List.getD, h]
  rw [e]; rfl
theorem onlyB_at (n : Int) : ∀ (l : List UInt8), onlyB n l = true → ∀ i, i < l.length → 0 ≤ hexN (byt l i) ∧ hexN (byt l i) < n := by
  intro l
  induction l with
  | nil => intro _ i hi; simp at hi
  | cons b t ih =>
    intro h i hi
    have h2 : decide (0 ≤ hexN (b.toNat : Int) ∧ hexN (b.toNat : Int) < n) = true ∧ onlyB n t = true := by
      have h' : (decide (0 ≤ hexN (b.toNat : Int) ∧ hexN (b.toNat : Int) < n) && onlyB n t) = true := h
      rwa [Bool.and_eq_true] at h'
    cases i with
    | zero => rw [byt0]; exact of_decide_eq_true h2.1
    | succ i => rw [bytS]; exact ih h2.2 i (by simpa using hi)
theorem valV_bd (n : Int) (hn : 0 ≤ n) (l : List UInt8) (h : ∀ i, i < l.length → 0 ≤ hexN (byt l i)) : ∀ i, i ≤ l.length → 0 ≤ valV n 0 (l.take i) ∧ valV n 0 (l.take i) ≤ 4294967296 := by
  intro i
  induction i with
  | zero => intro _; simp [valV]
  | succ i ih =>
    intro hi
    obtain ⟨h1, h2⟩ := ih (by omega)
    rw [valV_take n l i (by omega)]
    have h3 := h i (by omega)
    have h4 : 0 ≤ valV n 0 (l.take i) * n := Int.mul_nonneg h1 hn
    unfold stepV
    omega
theorem mkB_toNat (b : UInt8) : mkB (b.toNat : Int) = b := by unfold mkB; simp
theorem byt_zero (b : UInt8) (t : List UInt8) : byt (b :: t) 0 = (b.toNat : Int) := rfl
theorem byt_succ (b : UInt8) (t : List UInt8) (i : Nat) : byt (b :: t) (i + 1) = byt t i := by unfold byt; simp [List.getD]
theorem shp1 {c : Int} (h0 : 194 ≤ c) (h1 : c ≤ 223) : shp c = (1, 128, 191) := by unfold shp; rw [if_neg (by omega), if_pos (by omega)]
theorem shp2 {c : Int} (h0 : 224 ≤ c) (h1 : c ≤ 239) : shp c = (2, if c = 224 then 160 else 128, if c = 237 then 159 else 191) := by
  unfold shp; rw [if_neg (by omega), if_neg (by omega)]; (repeat' split) <;> first | rfl | (exfalso; omega)
theorem shp3 {c : Int} (h0 : 240 ≤ c) (h1 : c ≤ 244) : shp c = (3, if c = 240 then 144 else 128, if c = 244 then 143 else 191) := by
  unfold shp; rw [if_neg (by omega), if_neg (by omega), if_neg (by omega), if_neg (by omega), if_neg (by omega)]; (repeat' split) <;> first | rfl | (exfalso; omega)
theorem shp0 {c : Int} (h : c < 194 ∨ 244 < c) : shp c = (0, 0, 0) := by unfold shp; rw [if_pos h]
theorem nextL_1 {l : List UInt8} (hl : 0 < l.length) (h : byt l 0 ≤ 127) : nextL l = (byt l 0, 1, true) := by unfold nextL; rw [if_neg (by omega), if_pos h]
theorem nextL_0 {l : List UInt8} (hl : 0 < l.length) (h : 127 < byt l 0) (h2 : byt l 0 < 194 ∨ 244 < byt l 0) : nextL l = (65533, 1, false) := by
  unfold nextL; rw [if_neg (by omega), if_neg (by omega), shp0 h2, if_pos rfl]
theorem nextL_2 {l : List UInt8} (hl : 0 < l.length) (h0 : 194 ≤ byt l 0) (h1 : byt l 0 ≤ 223) : nextL l = nl l 1 1 (byt l 0 % 32) 128 191 := by
  unfold nextL; rw [if_neg (by omega), if_neg (by omega), shp1 h0 h1, if_neg (by decide)]; rfl
theorem nextL_3 {l : List UInt8} (hl : 0 < l.length) (h0 : 224 ≤ byt l 0) (h1 : byt l 0 ≤ 239) : nextL l = nl l 2 1 (byt l 0 % 16) (if byt l 0 = 224 then 160 else 128) (if byt l 0 = 237 then 159 else 191) := by
  unfold nextL; rw [if_neg (by omega), if_neg (by omega), shp2 h0 h1, if_neg (by decide : ¬ (2 : Int) = 0)]; rfl
theorem nextL_4 {l : List UInt8} (hl : 0 < l.length) (h0 : 240 ≤ byt l 0) (h1 : byt l 0 ≤ 244) : nextL l = nl l 3 1 (byt l 0 % 8) (if byt l 0 = 240 then 144 else 128) (if byt l 0 = 244 then 143 else 191) := by
  unfold nextL; rw [if_neg (by omega), if_neg (by omega), shp3 h0 h1, if_neg (by decide : ¬ (3 : Int) = 0)]; rfl
def okR (r : Int) : Prop := 0 ≤ r ∧ r ≤ 1114111 ∧ ¬ (55296 ≤ r ∧ r ≤ 57343)
theorem fixR_of {r : Int} (h : okR r) : fixR r = r := by unfold okR at h; unfold fixR; rw [if_neg (by omega)]
theorem nl_inv {l : List UInt8} {j k n : Nat} {R L H r : Int} (h : nl l (j + 1) k R L H = (r, n, true)) :
    (k < l.length ∧ L ≤ byt l k ∧ byt l k ≤ H) ∧ nl l j (k + 1) (R * 64 + byt l k % 64) 128 191 = (r, n, true) := by
  by_cases c : k < l.length ∧ L ≤ byt l k ∧ byt l k ≤ H
  · exact ⟨c, by rw [← nl_yes c]; exact h⟩
  · rw [nl_no c] at h; simp at h
theorem mkB_byt (l : List UInt8) (i : Nat) : mkB (byt l i) = l.getD i 0 := by unfold byt; exact mkB_toNat _
theorem take_byt : ∀ (n : Nat) (l : List UInt8), n ≤ l.length → l.take n = (List.range n).map fun i => mkB (byt l i) := by
  intro n l h
  apply List.ext_getElem
  · simp; omega
  · intro i h1 h2
    simp at h1
    simp [mkB_byt, List.getD, show i < l.length by omega]
theorem next_valid {l : List UInt8} {r : Int} {n : Nat} (h : nextL l = (r, n, true)) : okR r ∧ encR r = l.take n ∧ n ≤ l.length := by
  by_cases hl : l.length = 0
  · unfold nextL at h; rw [if_pos hl] at h; simp at h
  have hp : 0 < l.length := by omega
  have d0 := byt_lo l 0
  have d0' := byt_hi l 0
  by_cases c1 : byt l 0 ≤ 127
  · rw [nextL_1 hp c1] at h
    simp only [Prod.mk.injEq] at h
    obtain ⟨rfl, rfl, -⟩ := h
    refine ⟨by unfold okR; omega, ?_, by omega⟩
    rw [take_byt 1 l (by omega)]
    unfold encR
    rw [if_pos (by omega)]; rfl
  by_cases c2 : byt l 0 < 194 ∨ 244 < byt l 0
  · rw [nextL_0 hp (by omega) c2] at h; simp at h
  by_cases c3 : byt l 0 ≤ 223
  · rw [nextL_2 hp (by omega) c3] at h
    obtain ⟨⟨q1, q2, q3⟩, h⟩ := nl_inv h
    rw [nl_zero] at h
    simp only [Prod.mk.injEq] at h
    obtain ⟨hr, rfl, -⟩ := h
    refine ⟨by unfold okR; omega, ?_, by omega⟩
    rw [take_byt 2 l (by omega)]
    unfold encR
    rw [if_neg (by omega), if_pos (by omega), show 192 + r / 64 = byt l 0 by omega, show 128 + r % 64 = byt l 1 by omega]; rfl
  by_cases c4 : byt l 0 ≤ 239
  · rw [nextL_3 hp (by omega) c4] at h
    obtain ⟨⟨q1, q2, q3⟩, h⟩ := nl_inv h
    obtain ⟨⟨q4, q5, q6⟩, h⟩ := nl_inv h
    rw [nl_zero] at h
    simp only [Prod.mk.injEq] at h
    obtain ⟨hr, rfl, -⟩ := h
    have q5' : 128 ≤ byt l 2 := q5
    have q6' : byt l 2 ≤ 191 := q6
    have hr' : (byt l 0 % 16 * 64 + byt l 1 % 64) * 64 + byt l 2 % 64 = r := hr
    have q7 : 128 ≤ byt l 1 ∧ byt l 1 ≤ 191 ∧ (byt l 0 = 224 → 160 ≤ byt l 1) ∧ (byt l 0 = 237 → byt l 1 ≤ 159) := by split at q2 <;> split at q3 <;> omega
    clear q2 q3 hr q5 q6
    refine ⟨by unfold okR; omega, ?_, by omega⟩
    rw [take_byt 3 l (by omega)]
    unfold encR
    rw [if_neg (by omega), if_neg (by omega), if_pos (by omega), show 224 + r / 4096 = byt l 0 by omega, show 128 + r / 64 % 64 = byt l 1 by omega, show 128 + r % 64 = byt l 2 by omega]; rfl
  · rw [nextL_4 hp (by omega) (by omega)] at h
    obtain ⟨⟨q1, q2, q3⟩, h⟩ := nl_inv h
    obtain ⟨⟨q4, q5, q6⟩, h⟩ := nl_inv h
    obtain ⟨⟨q8, q9, q10⟩, h⟩ := nl_inv h
    rw [nl_zero] at h
    simp only [Prod.mk.injEq] at h
    obtain ⟨hr, rfl, -⟩ := h
    have q5' : 128 ≤ byt l 2 := q5
    have q6' : byt l 2 ≤ 191 := q6
    have q9' : 128 ≤ byt l 3 := q9
    have q10' : byt l 3 ≤ 191 := q10
    have hr' : ((byt l 0 % 8 * 64 + byt l 1 % 64) * 64 + byt l 2 % 64) * 64 + byt l 3 % 64 = r := hr
    have q7 : 128 ≤ byt l 1 ∧ byt l 1 ≤ 191 ∧ (byt l 0 = 240 → 144 ≤ byt l 1) ∧ (byt l 0 = 244 → byt l 1 ≤ 143) := by split at q2 <;> split at q3 <;> omega
    clear q2 q3 hr q5 q6 q9 q10
    refine ⟨by unfold okR; omega, ?_, by omega⟩
    rw [take_byt 4 l (by omega)]
    unfold encR
    rw [if_neg (by omega), if_neg (by omega), if_neg (by omega), show 240 + r / 262144 = byt l 0 by omega, show 128 + r / 4096 % 64 = byt l 1 by omega, show 128 + r / 64 % 64 = byt l 2 by omega, show 128 + r % 64 = byt l 3 by omega]; rfl
theorem encR_pos (r : Int) : 0 < (encR r).length := (encR_len r).1
theorem encL_decL : ∀ (n : Nat) (l : List UInt8), l.length ≤ n → validL l = true → encL (decL l) = l := by
  intro n
  induction n with
  | zero => intro l h _; have : l = [] := List.eq_nil_of_length_eq_zero (by omega); subst this; rw [decL_nil rfl]; rfl
  | succ n ih =>
    intro l h hv
    by_cases h0 : l.length = 0
    · have : l = [] := List.eq_nil_of_length_eq_zero h0
      subst this; rw [decL_nil rfl]; rfl
    · rw [validL_cons (by omega)] at hv
      have hn := nextL_n l (by omega)
      rw [decL_cons (by omega)]
      obtain ⟨⟨r, k, ok⟩, hnx⟩ : ∃ t, nextL l = t := ⟨_, rfl⟩
      simp only [hnx] at hv hn ⊢
      simp only [Bool.and_eq_true] at hv
      obtain ⟨rfl, hv2⟩ := hv
      have hval := next_valid hnx
      simp only [encL]
      rw [fixR_of hval.1, hval.2.1, ih (l.drop k) (by simp; omega) hv2, List.take_append_drop]
theorem nextL_r (l : List UInt8) : 0 ≤ (nextL l).1 ∧ (nextL l).1 ≤ 1114111 := by
  obtain ⟨⟨r, k, ok⟩, hnx⟩ : ∃ t, nextL l = t := ⟨_, rfl⟩
  rw [hnx]
  cases ok
  · by_cases hl : l.length = 0
    · unfold nextL at hnx; rw [if_pos hl] at hnx; simp at hnx; show 0 ≤ r ∧ _; omega
    · have := (nextL_n l (by omega)).2.2.2
      rw [hnx] at this
      have := (this rfl).1
      simp at this
      show 0 ≤ r ∧ r ≤ 1114111
      omega
  · have := (next_valid hnx).1
    unfold okR at this
    exact ⟨this.1, this.2.1⟩
def mFrag : List UInt8 := [32, 34, 60, 62, 96]
def mQuery : List UInt8 := [32, 34, 35, 60, 62]
def mSpec : List UInt8 := [32, 34, 35, 60, 62, 39]
def mPath : List UInt8 := [32, 34, 35, 60, 62, 63, 94, 96, 123, 125]
def mUser2 : List UInt8 := [47, 58, 59, 61, 64, 91, 92, 93, 124]
def mComp2 : List UInt8 := [36, 37, 38, 43, 44]
def moreS (k : Int) : List UInt8 := if k = 1 then mFrag else if k = 2 then mQuery else if k = 3 then mSpec else if k = 4 then mPath else if k = 5 then mPath ++ mUser2 else if k = 6 then mPath ++ mUser2 ++ mComp2 else []
def moreOk (k : Int) : Bool := decide (0 ≤ k ∧ k ≤ 6)
def inB (has : List UInt8) (r : Int) : Bool := if r < 0 ∨ 1114111 < r then false else if r < 32 ∨ 126 < r then true else decide (mkB r ∈ has)
theorem moreOk_t {k : Int} (h : 0 ≤ k ∧ k ≤ 6) : moreOk k = true := decide_eq_true h
theorem moreOk_f {k : Int} (h : ¬ (0 ≤ k ∧ k ≤ 6)) : moreOk k = false := decide_eq_false h
theorem inB_out {has : List UInt8} {r : Int} (h : r < 0 ∨ 1114111 < r) : inB has r = false := by unfold inB; rw [if_pos h]
theorem inB_high {has : List UInt8} {r : Int} (h0 : 0 ≤ r) (h1 : r ≤ 1114111) (h : r < 32 ∨ 126 < r) : inB has r = true := by unfold inB; rw [if_neg (by omega), if_pos h]
theorem inB_mid {has : List UInt8} {r : Int} (h0 : 32 ≤ r) (h1 : r ≤ 126) : inB has r = decide (mkB r ∈ has) := by unfold inB; rw [if_neg (by omega), if_neg (by omega)]
def isPair (l : List UInt8) (k : Nat) : Prop := byt l k = 37 ∧ k + 2 < l.length ∧ 0 ≤ hexN (byt l (k + 1)) ∧ 0 ≤ hexN (byt l (k + 2))
instance (l : List UInt8) (k : Nat) : Decidable (isPair l k) := by unfold isPair; infer_instance
def upS : List UInt8 := [48, 49, 50, 51, 52, 53, 54, 55, 56, 57, 65, 66, 67, 68, 69, 70]
def up (n : Int) : UInt8 := upS.getD n.toNat 0
def pe (has : List UInt8) (c : UInt8) : List UInt8 := if inB has c.toNat then [37, up ((c.toNat : Int) / 16), up ((c.toNat : Int) % 16)] else [c]
def penc (has : List UInt8) (l : List UInt8) : List UInt8 := l.flatMap (pe has)
theorem penc_append (has a b : List UInt8) : penc has (a ++ b) = penc has a ++ penc has b := by unfold penc; simp
theorem penc_none (has l : List UInt8) (h : ∀ i, i < l.length → inB has (byt l i) = false) : penc has l = l := by
  induction l with
  | nil => rfl
  | cons b t ih =>
    have h0 := h 0 (by simp)
    rw [byt_zero] at h0
    have ht := ih fun i hi => by have := h (i + 1) (by simp; omega); rwa [byt_succ] at this
    show pe has b ++ penc has t = b :: t
    rw [ht]; unfold pe; rw [h0]; rfl
theorem penc_len (has l : List UInt8) : (penc has l).length ≤ 3 * l.length := by
  induction l with
  | nil => simp [penc]
  | cons b t ih =>
    have : (pe has b).length ≤ 3 := by unfold pe; split <;> simp
    show (pe has b ++ penc has t).length ≤ _
    simp; omega
theorem penc_take (has l : List UInt8) (k : Nat) (hk : k < l.length) : penc has (l.take (k + 1)) = penc has (l.take k) ++ pe has (l.getD k 0) := by
  rw [List.take_succ_eq_append_getElem hk, penc_append]
  simp [penc, List.getD, hk]
end Go.Proofs.YtaphadmcjimmeaaDoor
