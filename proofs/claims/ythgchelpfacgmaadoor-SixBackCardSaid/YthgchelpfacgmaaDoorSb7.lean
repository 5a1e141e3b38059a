import Derived.Lib.Hide
set_option linter.unusedVariables false
set_option linter.unusedSimpArgs false
namespace Go.Proofs.YthgchelpfacgmaaDoor
def hexN (c : Int) : Int := if 48 ≤ c ∧ c ≤ 57 then c - 48 else if 97 ≤ c ∧ c ≤ 102 then c - 87 else if 65 ≤ c ∧ c ≤ 70 then c - 55 else -1
theorem hexN_bd (c : Int) : -1 ≤ hexN c ∧ hexN c ≤ 15 := by unfold hexN; (repeat' split) <;> omega
def byt (l : List UInt8) (i : Nat) : Int := ((l.getD i 0).toNat : Int)
theorem byt_lo (l : List UInt8) (i : Nat) : 0 ≤ byt l i := by unfold byt; omega
theorem byt_hi (l : List UInt8) (i : Nat) : byt l i ≤ 255 := by unfold byt; have := (l.getD i 0).toNat_lt; omega
def nl (l : List UInt8) : Nat → Nat → Int → Int → Int → Int × Nat × Bool
  | 0, i, r, _, _ => (r, i, true)
  | k + 1, i, r, lo, hi => if i < l.length ∧ lo ≤ byt l i ∧ byt l i ≤ hi then nl l k (i + 1) (r * 64 + byt l i % 64) 128 191 else (65533, i, false)
def mkB (n : Int) : UInt8 := UInt8.ofNat n.toNat
def splitB (c : Int) : List UInt8 → List (List UInt8)
  | [] => [[]]
  | b :: t => if (b.toNat : Int) = c then [] :: splitB c t else match splitB c t with
    | p :: ps => (b :: p) :: ps
    | [] => [[b]]
theorem splitB_ne (c : Int) (l : List UInt8) : splitB c l ≠ [] := by
  cases l with
  | nil => simp [splitB]
  | cons b t =>
    unfold splitB
    split
    · simp
    · split <;> simp
theorem byt0 (b : UInt8) (t : List UInt8) : byt (b :: t) 0 = (b.toNat : Int) := rfl
theorem bytS (b : UInt8) (t : List UInt8) (i : Nat) : byt (b :: t) (i + 1) = byt t i := by unfold byt; simp [List.getD]
theorem splitB_hit (c : Int) : ∀ (n : Nat) (l : List UInt8), n < l.length → (∀ q, q < n → byt l q ≠ c) → byt l n = c → splitB c l = l.take n :: splitB c (l.drop (n + 1)) := by
  intro n
  induction n with
  | zero =>
    intro l hl _ h
    match l, hl with
    | b :: t, _ =>
      rw [byt0] at h
      conv => lhs; unfold splitB
      rw [if_pos h]; rfl
  | succ n ih =>
    intro l hl hn h
    match l, hl with
    | b :: t, hl =>
      have h0 := hn 0 (by omega)
      rw [byt0] at h0
      rw [bytS] at h
      have := ih t (by simpa using hl) (fun q hq => by have := hn (q + 1) (by omega); rwa [bytS] at this) h
      conv => lhs; unfold splitB
      rw [if_neg h0, this]; rfl
theorem splitB_end (c : Int) : ∀ (l : List UInt8), (∀ q, q < l.length → byt l q ≠ c) → splitB c l = [l] := by
  intro l
  induction l with
  | nil => intro _; rfl
  | cons b t ih =>
    intro h
    have h0 := h 0 (by simp)
    rw [byt0] at h0
    have := ih fun q hq => by have := h (q + 1) (by simp; omega); rwa [bytS] at this
    conv => lhs; unfold splitB
    rw [if_neg h0, this]
def trimL (l : List UInt8) : List UInt8 := if 0 < l.length ∧ byt l (l.length - 1) = 46 then l.take (l.length - 1) else l
def hexP (l : List UInt8) : Bool := decide (2 ≤ l.length ∧ byt l 0 = 48 ∧ (byt l 1 = 120 ∨ byt l 1 = 88))
def hexR (l : List UInt8) : List UInt8 := if hexP l = true then l.drop 2 else []
def onlyB (n : Int) : List UInt8 → Bool
  | [] => true
  | b :: t => decide (0 ≤ hexN (b.toNat : Int) ∧ hexN (b.toNat : Int) < n) && onlyB n t
def stepV (n v : Int) (c : Int) : Int := min (v * n + hexN c) 4294967296
def valV (n : Int) (v : Int) (l : List UInt8) : Int := l.foldl (fun v b => stepV n v (b.toNat : Int)) v
def baseN (l : List UInt8) : Int := if hexP l = true then 16 else if 1 < l.length ∧ byt l 0 = 48 then 8 else 10
def bodyL (l : List UInt8) : List UInt8 := if hexP l = true then l.drop 2 else l
def numO (l : List UInt8) : Bool := (hexP l || decide (0 < l.length)) && onlyB (baseN l) (bodyL l)
def numV (l : List UInt8) : Int := if numO l = true then valV (baseN l) 0 (bodyL l) else 0
theorem onlyB_step (n : Int) : ∀ (l : List UInt8) (i : Nat), i < l.length → onlyB n (l.drop i) = (decide (0 ≤ hexN (byt l i) ∧ hexN (byt l i) < n) && onlyB n (l.drop (i + 1))) := by
  intro l i hi
  rw [List.drop_eq_getElem_cons hi]
  show (decide _ && _) = _
  have e : byt l i = ((l[i]).toNat : Int) := by unfold byt; simp [List.getD, hi]
  rw [e]
theorem valV_take (n : Int) (l : List UInt8) (i : Nat) (h : i < l.length) : valV n 0 (l.take (i + 1)) = stepV n (valV n 0 (l.take i)) (byt l i) := by
  unfold valV
  rw [List.take_succ_eq_append_getElem h, List.foldl_append]
  have e : byt l i = ((l[i]).toNat : Int) := by unfold byt; simp [List.getD, h]
  rw [e]; rfl
theorem onlyB_at (n : Int) : ∀ (l : List UInt8), onlyB n l = true → ∀ i, i < l.length → 0 ≤ hexN (byt l i) ∧ hexN (byt l i) < n := by
  intro l
  induction l with
  | nil => intro _ i hi; simp at hi
  | cons b t ih =>
    intro h i hi
    have h2 : decide (0 ≤ hexN (b.toNat : Int) ∧ hexN (b.toNat : Int) < n) = true ∧ onlyB n t = true := by
      have h' : (decide (0 ≤ hexN (b.toNat : Int) ∧ hexN (b.toNat : Int) < n) && onlyB n t) = true := h
      rwa [Bool.and_eq_true] at h'
    cases i with
    | zero => rw [byt0]; exact of_decide_eq_true h2.1
    | succ i => rw [bytS]; exact ih h2.2 i (by simpa using hi)
theorem valV_bd (n : Int) (hn : 0 ≤ n) (l : List UInt8) (h : ∀ i, i < l.length → 0 ≤ hexN (byt l i)) : ∀ i, i ≤ l.length → 0 ≤ valV n 0 (l.take i) ∧ valV n 0 (l.take i) ≤ 4294967296 := by
  intro i
  induction i with
  | zero => intro _; simp [valV]
  | succ i ih =>
    intro hi
    obtain ⟨h1, h2⟩ := ih (by omega)
    rw [valV_take n l i (by omega)]
    have h3 := h i (by omega)
    have h4 : 0 ≤ valV n 0 (l.take i) * n := Int.mul_nonneg h1 hn
    unfold stepV
    omega
end Go.Proofs.YthgchelpfacgmaaDoor
