/- The evaluator's means, told plainly. -/
import Derived.Test.YtniednnklbdciaaDoorEvC
set_option linter.unusedVariables false
set_option linter.unusedSectionVars false
set_option linter.unusedSimpArgs false
namespace Go.Ev

theorem fNat_eq (n : Nat) (k : Nat → Ans) : fNat n k = k n := by cases n <;> rfl
theorem fInt_eq (z : Int) (k : Int → Ans) : fInt z k = k z := by
  cases z <;> simp [fInt, fNat_eq]
theorem fBool_eq (b : Bool) (k : Bool → Ans) : fBool b k = k b := by cases b <;> rfl
theorem cnd_eq (b : Bool) (x y : Ans) : cnd b x y = if b = true then x else y := by cases b <;> rfl
theorem cnd_yes {b : Bool} {x : Ans} {n : Nat} (h : cnd b x (.no n) = .yes) : b = true ∧ x = .yes := by
  cases b
  · simp [cnd] at h
  · exact ⟨rfl, h⟩
theorem natMin_eq (a b : Nat) (k : Nat → Ans) : natMin a b k = k (min a b) := by
  unfold natMin; rw [cnd_eq]
  by_cases h : a ≤ b
  · rw [if_pos (by simpa using h), Nat.min_eq_left h]
  · rw [if_neg (by simpa using h), Nat.min_eq_right (by omega)]

def Tr.get {α : Type} : Pa → Tr α → Option α
  | _, .leaf => none
  | .e, .node v _ _ => v
  | .o p, .node _ l _ => Tr.get p l
  | .z p, .node _ _ r => Tr.get p r
def Tr.set {α : Type} : Pa → Option α → Tr α → Tr α
  | .e, x, .leaf => .node x .leaf .leaf
  | .e, x, .node _ l r => .node x l r
  | .o p, x, .leaf => .node none (Tr.set p x .leaf) .leaf
  | .o p, x, .node v l r => .node v (Tr.set p x l) r
  | .z p, x, .leaf => .node none .leaf (Tr.set p x .leaf)
  | .z p, x, .node v l r => .node v l (Tr.set p x r)
theorem getP_eq {α : Type} (p : Pa) (t : Tr α) (no : Ans) (k : α → Ans) : t.getP p no k = match t.get p with | none => no | some v => k v := by
  induction p generalizing t with
  | e => cases t with
    | leaf => rfl
    | node v l r => cases v <;> rfl
  | o p ih => cases t with
    | leaf => rfl
    | node v l r => exact ih l
  | z p ih => cases t with
    | leaf => rfl
    | node v l r => exact ih r
theorem getP_yes {α : Type} {p : Pa} {t : Tr α} {n : Nat} {k : α → Ans} (h : t.getP p (.no n) k = .yes) : ∃ v, t.get p = some v ∧ k v = .yes := by
  rw [getP_eq] at h
  cases hg : t.get p with
  | none => rw [hg] at h; cases h
  | some v => rw [hg] at h; exact ⟨v, rfl, h⟩
theorem setP_eq {α : Type} (p : Pa) (x : Option α) (t : Tr α) (k : Tr α → Ans) : t.setP p x k = k (t.set p x) := by
  induction p generalizing t k with
  | e => cases t <;> rfl
  | o p ih => cases t with
    | leaf => exact ih .leaf _
    | node v l r => exact ih l _
  | z p ih => cases t with
    | leaf => exact ih .leaf _
    | node v l r => exact ih r _
theorem get_leaf {α : Type} (p : Pa) : Tr.get p (.leaf : Tr α) = none := by cases p <;> rfl
theorem get_set {α : Type} (p q : Pa) (x : Option α) (t : Tr α) : (t.set p x).get q = if q = p then x else t.get q := by
  induction p generalizing t q with
  | e => cases t <;> cases q <;> simp [Tr.set, Tr.get, get_leaf]
  | o p ih => cases t <;> cases q <;> simp [Tr.set, Tr.get, get_leaf, ih]
  | z p ih => cases t <;> cases q <;> simp [Tr.set, Tr.get, get_leaf, ih]

theorem pathF_zero (n : Nat) : pathF 0 n = .e := rfl
theorem pathF_succ (f n : Nat) : pathF (f + 1) n = match n with | 0 => .e | m + 1 => if m % 2 = 0 then .o (pathF f (m / 2)) else .z (pathF f (m / 2)) := by
  cases n with
  | zero => rfl
  | succ m =>
    show Bool.rec (motive := fun _ => Pa) (.z (pathF f (m / 2))) (.o (pathF f (m / 2))) (Nat.beq (m % 2) 0) = if m % 2 = 0 then .o (pathF f (m / 2)) else .z (pathF f (m / 2))
    by_cases h : m % 2 = 0
    · rw [if_pos h, show Nat.beq (m % 2) 0 = true by rw [h]; rfl]
    · rw [if_neg h, show Nat.beq (m % 2) 0 = false by
        cases hb : Nat.beq (m % 2) 0
        · rfl
        · exact absurd (Nat.eq_of_beq_eq_true hb) h]
theorem pathF_inj : ∀ (f g n m : Nat), n < f → m < g → pathF f n = pathF g m → n = m := by
  intro f
  induction f with
  | zero => intro g n m h; omega
  | succ f ih =>
    intro g n m hn hm h
    cases g with
    | zero => omega
    | succ g =>
      rw [pathF_succ, pathF_succ] at h
      cases n with
      | zero =>
        cases m with
        | zero => rfl
        | succ m => simp only at h; split at h <;> cases h
      | succ n =>
        cases m with
        | zero => simp only at h; split at h <;> cases h
        | succ m =>
          simp only at h
          split at h
          · split at h
            · injection h with h
              have := ih g (n / 2) (m / 2) (by omega) (by omega) h
              omega
            · cases h
          · split at h
            · cases h
            · injection h with h
              have := ih g (n / 2) (m / 2) (by omega) (by omega) h
              omega
theorem path_inj {n m : Nat} (h : path n = path m) : n = m := pathF_inj (n + 1) (m + 1) n m (by omega) (by omega) h
theorem path_ne {n m : Nat} (h : n ≠ m) : path n ≠ path m := fun e => h (path_inj e)

theorem lenK_eq (l : List AV) (k : Nat → Ans) : lenK l k = k l.length := by
  induction l generalizing k with
  | nil => rfl
  | cons x l ih => exact (ih _).trans (fNat_eq _ _)
theorem catK_eq (l m : List AV) (k : List AV → Ans) : catK l m k = k (l ++ m) := by
  induction l generalizing k with
  | nil => rfl
  | cons x l ih => exact ih _
theorem catN_eq (l m : List Nat) (k : List Nat → Ans) : catN l m k = k (l ++ m) := by
  induction l generalizing k with
  | nil => rfl
  | cons x l ih => exact ih _
theorem catE_eq (l m : List (AV × AV × Nat)) (k : List (AV × AV × Nat) → Ans) : catE l m k = k (l ++ m) := by
  induction l generalizing k with
  | nil => rfl
  | cons x l ih => exact ih _
theorem takeK_eq {α : Type} (n : Nat) (l : List α) (k : List α → Ans) : takeK n l k = k (l.take n) := by
  induction n generalizing l k with
  | zero => rfl
  | succ n ih => cases l with
    | nil => rfl
    | cons x l => exact ih l _
theorem dropK_eq {α : Type} (n : Nat) (l : List α) (k : List α → Ans) : dropK n l k = k (l.drop n) := by
  induction n generalizing l with
  | zero => rfl
  | succ n ih => cases l with
    | nil => rfl
    | cons x l => exact ih l
theorem nthK_eq {α : Type} (n : Nat) (l : List α) (no : Ans) (k : α → Ans) : nthK n l no k = match l[n]? with | none => no | some v => k v := by
  induction n generalizing l with
  | zero => cases l <;> rfl
  | succ n ih => cases l with
    | nil => rfl
    | cons x l =>
      rw [show (x :: l)[n + 1]? = l[n]? by simp]
      exact ih l
theorem nthK_yes {α : Type} {n c : Nat} {l : List α} {k : α → Ans} (h : nthK n l (.no c) k = .yes) : ∃ v, l[n]? = some v ∧ k v = .yes := by
  rw [nthK_eq] at h
  cases hg : l[n]? with
  | none => rw [hg] at h; cases h
  | some v => rw [hg] at h; exact ⟨v, rfl, h⟩
noncomputable def putL : List AV → Nat → Tr AV → Tr AV
  | [], _, t => t
  | v :: l, off, t => putL l (off + 1) (t.set (path off) (some v))
theorem writeL_eq (l : List AV) (off : Nat) (t : Tr AV) (k : Tr AV → Ans) : writeL l off t k = k (putL l off t) := by
  induction l generalizing off t k with
  | nil => rfl
  | cons v l ih =>
    show Tr.setP (path off) (some v) t _ = _
    rw [setP_eq, fNat_eq]
    exact ih _ _ _
theorem get_putL : ∀ (l : List AV) (off : Nat) (t : Tr AV) (i : Nat), (putL l off t).get (path i) = if off ≤ i ∧ i < off + l.length then l[i - off]? else t.get (path i)
  | [], off, t, i => by simp [putL]; omega
  | v :: l, off, t, i => by
    rw [putL, get_putL l (off + 1), get_set]
    by_cases h0 : i = off
    · subst h0
      rw [if_neg (by omega), if_pos rfl, if_pos (by simp)]
      simp
    · by_cases h1 : off + 1 ≤ i ∧ i < off + 1 + l.length
      · rw [if_pos h1, if_pos (by simp; omega), show i - off = (i - (off + 1)) + 1 by omega]
        simp
      · rw [if_neg h1, if_neg (path_ne h0), if_neg (by simp; omega)]
noncomputable def readL (t : Tr AV) : Nat → Nat → Option (List AV)
  | 0, _ => some []
  | n + 1, off => match t.get (path off) with
    | none => none
    | some v => (readL t n (off + 1)).map (v :: ·)
theorem readN_eq (t : Tr AV) (n off : Nat) (k : List AV → Ans) : readN t n off k = match readL t n off with | none => .no 10 | some l => k l := by
  induction n generalizing off k with
  | zero => rfl
  | succ n ih =>
    show Tr.getP (path off) t (.no 10) _ = _
    rw [getP_eq, readL]
    cases t.get (path off) with
    | none => rfl
    | some v =>
      simp only [fNat_eq]
      refine (ih _ _).trans ?_
      cases readL t n (Nat.succ off) <;> rfl
theorem readL_some {t : Tr AV} : ∀ {n off : Nat} {l : List AV}, readL t n off = some l → l.length = n ∧ ∀ i, i < n → t.get (path (off + i)) = l[i]?
  | 0, off, l, h => by
    injection h with h; subst h
    exact ⟨rfl, fun i hi => by omega⟩
  | n + 1, off, l, h => by
    rw [readL] at h
    cases hg : t.get (path off) with
    | none => rw [hg] at h; cases h
    | some v =>
      rw [hg] at h
      cases hr : readL t n (off + 1) with
      | none => rw [hr] at h; cases h
      | some r =>
        rw [hr] at h
        injection h with h; subst h
        obtain ⟨h1, h2⟩ := readL_some hr
        refine ⟨by simp [h1], fun i hi => ?_⟩
        cases i with
        | zero => simpa using hg
        | succ i =>
          have := h2 i (by omega)
          rw [show off + (i + 1) = off + 1 + i by omega, this]; simp
theorem readN_yes {t : Tr AV} {n off : Nat} {k : List AV → Ans} (h : readN t n off k = .yes) : ∃ l, l.length = n ∧ (∀ i, i < n → t.get (path (off + i)) = l[i]?) ∧ k l = .yes := by
  rw [readN_eq] at h
  cases hr : readL t n off with
  | none => rw [hr] at h; cases h
  | some l =>
    rw [hr] at h
    obtain ⟨h1, h2⟩ := readL_some hr
    exact ⟨l, h1, h2, h⟩
theorem readL_of {t : Tr AV} : ∀ {n off : Nat} {l : List AV}, l.length = n → (∀ i, i < n → t.get (path (off + i)) = l[i]?) → readL t n off = some l
  | 0, off, l, h, _ => by cases l; rfl; cases h
  | n + 1, off, [], h, _ => by cases h
  | n + 1, off, v :: l, h, h2 => by
    have h0 := h2 0 (by omega)
    rw [readL, show t.get (path off) = some v by simpa using h0, readL_of (l := l) (by simpa using h) (fun i hi => by
      have := h2 (i + 1) (by omega)
      rw [show off + 1 + i = off + (i + 1) by omega, this]; simp)]
    rfl
theorem fList_eq (l : List Nat) (k : List Nat → Ans) : fList l k = k l := by
  induction l generalizing k with
  | nil => rfl
  | cons x l ih =>
    show fNat x (fun y => fList l fun ys => k (y :: ys)) = _
    rw [fNat_eq]; exact ih _
theorem fBytes_eq (l : List UInt8) (k : Nat → List Nat → Ans) : fBytes l k = k l.length (l.map (·.toNat)) := by
  induction l generalizing k with
  | nil => rfl
  | cons x l ih =>
    show fNat x.toNat (fun y => fBytes l fun n ys => fNat (Nat.succ n) fun n => k n (y :: ys)) = _
    rw [fNat_eq, ih, fNat_eq]; rfl
theorem eqNat_eq (l m : List Nat) (k : Bool → Ans) : eqNat l m k = k (l == m) := by
  induction l generalizing m with
  | nil => cases m <;> rfl
  | cons x l ih => cases m with
    | nil => rfl
    | cons y m =>
      show cnd (Nat.beq x y) (eqNat l m k) (k false) = _
      rw [cnd_eq, ih]
      by_cases h : x = y
      · subst h; rw [if_pos (Nat.beq_refl x)]; simp
      · rw [if_neg (fun e => h (Nat.eq_of_beq_eq_true e))]
        have : (x :: l == y :: m) = false := by simp [h]
        rw [this]
def ltL : List Nat → List Nat → Bool
  | _, [] => false
  | [], _ :: _ => true
  | a :: x, b :: y => decide (a < b) || (a == b && ltL x y)
theorem ltNat_eq (l m : List Nat) (k : Bool → Ans) : ltNat l m k = k (ltL l m) := by
  induction l generalizing m with
  | nil => cases m <;> rfl
  | cons x l ih => cases m with
    | nil => rfl
    | cons y m =>
      show cnd (Nat.blt x y) (k true) (cnd (Nat.beq x y) (ltNat l m k) (k false)) = _
      rw [cnd_eq, cnd_eq, ih, ltL]
      by_cases h : x < y
      · rw [if_pos (by simpa using h)]; simp [h]
      · rw [if_neg (by simpa using h)]
        by_cases h2 : x = y
        · subst h2; rw [if_pos (Nat.beq_refl x)]; simp
        · rw [if_neg (fun e => h2 (Nat.eq_of_beq_eq_true e))]
          have : (x == y) = false := by simp [h2]
          simp [h, this]
end Go.Ev
