/- What the proof needs, part 3. -/
import Derived.Below
import Derived.Deep.AppendSrc
import Derived.Deep.Upon
import Derived.WalkKit
import Derived.IntWalk
import Derived.Lib.Builder
import Derived.Lib.ConvBytes
import Derived.Laws.BytesString
import Derived.Lib.UnsafeStr
import Derived.Laws.IdiomRangeMap
import Derived.Test.YtklgahppjdgkmaaDoorR2
/- The evaluator's means, told plainly. -/
section
set_option linter.unusedVariables false
set_option linter.unusedSectionVars false
set_option linter.unusedSimpArgs false
namespace Go.Ev

theorem fNat_eq (n : Nat) (k : Nat → Ans) : fNat n k = k n := by cases n <;> rfl
theorem fInt_eq (z : Int) (k : Int → Ans) : fInt z k = k z := by
  cases z <;> simp [fInt, fNat_eq]
theorem fBool_eq (b : Bool) (k : Bool → Ans) : fBool b k = k b := by cases b <;> rfl
theorem cnd_eq (b : Bool) (x y : Ans) : cnd b x y = if b = true then x else y := by cases b <;> rfl
theorem cnd_yes {b : Bool} {x : Ans} {n : Nat} (h : cnd b x (.no n) = .yes) : b = true ∧ x = .yes := by
  cases b
  · simp [cnd] at h
  · exact ⟨rfl, h⟩
theorem natMin_eq (a b : Nat) (k : Nat → Ans) : natMin a b k = k (min a b) := by
  unfold natMin; rw [cnd_eq]
  by_cases h : a ≤ b
  · rw [if_pos (by simpa using h), Nat.min_eq_left h]
  · rw [if_neg (by simpa using h), Nat.min_eq_right (by omega)]

def Tr.get {α : Type} : Pa → Tr α → Option α
  | _, .leaf => none
  | .e, .node v _ _ => v
  | .o p, .node _ l _ => Tr.get p l
  | .z p, .node _ _ r => Tr.get p r
def Tr.set {α : Type} : Pa → Option α → Tr α → Tr α
  | .e, x, .leaf => .node x .leaf .leaf
  | .e, x, .node _ l r => .node x l r
  | .o p, x, .leaf => .node none (Tr.set p x .leaf) .leaf
  | .o p, x, .node v l r => .node v (Tr.set p x l) r
  | .z p, x, .leaf => .node none .leaf (Tr.set p x .leaf)
  | .z p, x, .node v l r => .node v l (Tr.set p x r)
theorem getP_eq {α : Type} (p : Pa) (t : Tr α) (no : Ans) (k : α → Ans) : t.getP p no k = match t.get p with | none => no | some v => k v := by
  induction p generalizing t with
  | e => cases t with
    | leaf => rfl
    | node v l r => cases v <;> rfl
  | o p ih => cases t with
    | leaf => rfl
    | node v l r => exact ih l
  | z p ih => cases t with
    | leaf => rfl
    | node v l r => exact ih r
theorem getP_yes {α : Type} {p : Pa} {t : Tr α} {n : Nat} {k : α → Ans} (h : t.getP p (.no n) k = .yes) : ∃ v, t.get p = some v ∧ k v = .yes := by
  rw [getP_eq] at h
  cases hg : t.get p with
  | none => rw [hg] at h; cases h
  | some v => rw [hg] at h; exact ⟨v, rfl, h⟩
theorem setP_eq {α : Type} (p : Pa) (x : Option α) (t : Tr α) (k : Tr α → Ans) : t.setP p x k = k (t.set p x) := by
  induction p generalizing t k with
  | e => cases t <;> rfl
  | o p ih => cases t with
    | leaf => exact ih .leaf _
    | node v l r => exact ih l _
  | z p ih => cases t with
    | leaf => exact ih .leaf _
    | node v l r => exact ih r _
theorem get_leaf {α : Type} (p : Pa) : Tr.get p (.leaf : Tr α) = none := by cases p <;> rfl
theorem get_set {α : Type} (p q : Pa) (x : Option α) (t : Tr α) : (t.set p x).get q = if q = p then x else t.get q := by
  induction p generalizing t q with
  | e => cases t <;> cases q <;> simp [Tr.set, Tr.get, get_leaf]
  | o p ih => cases t <;> cases q <;> simp [Tr.set, Tr.get, get_leaf, ih]
  | z p ih => cases t <;> cases q <;> simp [Tr.set, Tr.get, get_leaf, ih]

theorem pathF_zero (n : Nat) : pathF 0 n = .e := rfl
theorem pathF_succ (f n : Nat) : pathF (f + 1) n = match n with | 0 => .e | m + 1 => if m % 2 = 0 then .o (pathF f (m / 2)) else .z (pathF f (m / 2)) := by
  cases n with
  | zero => rfl
  | succ m =>
    show Bool.rec (motive := fun _ => Pa) (.z (pathF f (m / 2))) (.o (pathF f (m / 2))) (Nat.beq (m % 2) 0) = if m % 2 = 0 then .o (pathF f (m / 2)) else .z (pathF f (m / 2))
    by_cases h : m % 2 = 0
    · rw [if_pos h, show Nat.beq (m % 2) 0 = true by rw [h]; rfl]
    · rw [if_neg h, show Nat.beq (m % 2) 0 = false by
        cases hb : Nat.beq (m % 2) 0
        · rfl
        · exact absurd (Nat.eq_of_beq_eq_true hb) h]
theorem pathF_inj : ∀ (f g n m : Nat), n < f → m < g → pathF f n = pathF g m → n = m := by
  intro f
  induction f with
  | zero => intro g n m h; omega
  | succ f ih =>
    intro g n m hn hm h
    cases g with
    | zero => omega
    | succ g =>
      rw [pathF_succ, pathF_succ] at h
      cases n with
      | zero =>
        cases m with
        | zero => rfl
        | succ m => simp only at h; split at h <;> cases h
      | succ n =>
        cases m with
        | zero => simp only at h; split at h <;> cases h
        | succ m =>
          simp only at h
          split at h
          · split at h
            · injection h with h
              have := ih g (n / 2) (m / 2) (by omega) (by omega) h
              omega
            · cases h
          · split at h
            · cases h
            · injection h with h
              have := ih g (n / 2) (m / 2) (by omega) (by omega) h
              omega
theorem path_inj {n m : Nat} (h : path n = path m) : n = m := pathF_inj (n + 1) (m + 1) n m (by omega) (by omega) h
theorem path_ne {n m : Nat} (h : n ≠ m) : path n ≠ path m := fun e => h (path_inj e)

theorem lenK_eq (l : List AV) (k : Nat → Ans) : lenK l k = k l.length := by
  induction l generalizing k with
  | nil => rfl
  | cons x l ih => exact (ih _).trans (fNat_eq _ _)
theorem catK_eq (l m : List AV) (k : List AV → Ans) : catK l m k = k (l ++ m) := by
  induction l generalizing k with
  | nil => rfl
  | cons x l ih => exact ih _
theorem catN_eq (l m : List Nat) (k : List Nat → Ans) : catN l m k = k (l ++ m) := by
  induction l generalizing k with
  | nil => rfl
  | cons x l ih => exact ih _
theorem catE_eq (l m : List (AV × AV × Nat)) (k : List (AV × AV × Nat) → Ans) : catE l m k = k (l ++ m) := by
  induction l generalizing k with
  | nil => rfl
  | cons x l ih => exact ih _
theorem takeK_eq {α : Type} (n : Nat) (l : List α) (k : List α → Ans) : takeK n l k = k (l.take n) := by
  induction n generalizing l k with
  | zero => rfl
  | succ n ih => cases l with
    | nil => rfl
    | cons x l => exact ih l _
theorem dropK_eq {α : Type} (n : Nat) (l : List α) (k : List α → Ans) : dropK n l k = k (l.drop n) := by
  induction n generalizing l with
  | zero => rfl
  | succ n ih => cases l with
    | nil => rfl
    | cons x l => exact ih l
theorem nthK_eq {α : Type} (n : Nat) (l : List α) (no : Ans) (k : α → Ans) : nthK n l no k = match l[n]? with | none => no | some v => k v := by
  induction n generalizing l with
  | zero => cases l <;> rfl
  | succ n ih => cases l with
    | nil => rfl
    | cons x l =>
      rw [show (x :: l)[n + 1]? = l[n]? by simp]
      exact ih l
theorem nthK_yes {α : Type} {n c : Nat} {l : List α} {k : α → Ans} (h : nthK n l (.no c) k = .yes) : ∃ v, l[n]? = some v ∧ k v = .yes := by
  rw [nthK_eq] at h
  cases hg : l[n]? with
  | none => rw [hg] at h; cases h
  | some v => rw [hg] at h; exact ⟨v, rfl, h⟩
noncomputable def putL : List AV → Nat → Tr AV → Tr AV
  | [], _, t => t
  | v :: l, off, t => putL l (off + 1) (t.set (path off) (some v))
theorem writeL_eq (l : List AV) (off : Nat) (t : Tr AV) (k : Tr AV → Ans) : writeL l off t k = k (putL l off t) := by
  induction l generalizing off t k with
  | nil => rfl
  | cons v l ih =>
    show Tr.setP (path off) (some v) t _ = _
    rw [setP_eq, fNat_eq]
    exact ih _ _ _
theorem get_putL : ∀ (l : List AV) (off : Nat) (t : Tr AV) (i : Nat), (putL l off t).get (path i) = if off ≤ i ∧ i < off + l.length then l[i - off]? else t.get (path i)
  | [], off, t, i => by simp [putL]; omega
  | v :: l, off, t, i => by
    rw [putL, get_putL l (off + 1), get_set]
    by_cases h0 : i = off
    · subst h0
      rw [if_neg (by omega), if_pos rfl, if_pos (by simp)]
      simp
    · by_cases h1 : off + 1 ≤ i ∧ i < off + 1 + l.length
      · rw [if_pos h1, if_pos (by simp; omega), show i - off = (i - (off + 1)) + 1 by omega]
        simp
      · rw [if_neg h1, if_neg (path_ne h0), if_neg (by simp; omega)]
noncomputable def readL (t : Tr AV) : Nat → Nat → Option (List AV)
  | 0, _ => some []
  | n + 1, off => match t.get (path off) with
    | none => none
    | some v => (readL t n (off + 1)).map (v :: ·)
theorem readN_eq (t : Tr AV) (n off : Nat) (k : List AV → Ans) : readN t n off k = match readL t n off with | none => .no 10 | some l => k l := by
  induction n generalizing off k with
  | zero => rfl
  | succ n ih =>
    show Tr.getP (path off) t (.no 10) _ = _
    rw [getP_eq, readL]
    cases t.get (path off) with
    | none => rfl
    | some v =>
      simp only [fNat_eq]
      refine (ih _ _).trans ?_
      cases readL t n (Nat.succ off) <;> rfl
theorem readL_some {t : Tr AV} : ∀ {n off : Nat} {l : List AV}, readL t n off = some l → l.length = n ∧ ∀ i, i < n → t.get (path (off + i)) = l[i]?
  | 0, off, l, h => by
    injection h with h; subst h
    exact ⟨rfl, fun i hi => by omega⟩
  | n + 1, off, l, h => by
    rw [readL] at h
    cases hg : t.get (path off) with
    | none => rw [hg] at h; cases h
    | some v =>
      rw [hg] at h
      cases hr : readL t n (off + 1) with
      | none => rw [hr] at h; cases h
      | some r =>
        rw [hr] at h
        injection h with h; subst h
        obtain ⟨h1, h2⟩ := readL_some hr
        refine ⟨by simp [h1], fun i hi => ?_⟩
        cases i with
        | zero => simpa using hg
        | succ i =>
          have := h2 i (by omega)
          rw [show off + (i + 1) = off + 1 + i by omega, this]; simp
theorem readN_yes {t : Tr AV} {n off : Nat} {k : List AV → Ans} (h : readN t n off k = .yes) : ∃ l, l.length = n ∧ (∀ i, i < n → t.get (path (off + i)) = l[i]?) ∧ k l = .yes := by
  rw [readN_eq] at h
  cases hr : readL t n off with
  | none => rw [hr] at h; cases h
  | some l =>
    rw [hr] at h
    obtain ⟨h1, h2⟩ := readL_some hr
    exact ⟨l, h1, h2, h⟩
theorem readL_of {t : Tr AV} : ∀ {n off : Nat} {l : List AV}, l.length = n → (∀ i, i < n → t.get (path (off + i)) = l[i]?) → readL t n off = some l
  | 0, off, l, h, _ => by cases l; rfl; cases h
  | n + 1, off, [], h, _ => by cases h
  | n + 1, off, v :: l, h, h2 => by
    have h0 := h2 0 (by omega)
    rw [readL, show t.get (path off) = some v by simpa using h0, readL_of (l := l) (by simpa using h) (fun i hi => by
      have := h2 (i + 1) (by omega)
      rw [show off + 1 + i = off + (i + 1) by omega, this]; simp)]
    rfl
theorem fList_eq (l : List Nat) (k : List Nat → Ans) : fList l k = k l := by
  induction l generalizing k with
  | nil => rfl
  | cons x l ih =>
    show fNat x (fun y => fList l fun ys => k (y :: ys)) = _
    rw [fNat_eq]; exact ih _
theorem fBytes_eq (l : List UInt8) (k : Nat → List Nat → Ans) : fBytes l k = k l.length (l.map (·.toNat)) := by
  induction l generalizing k with
  | nil => rfl
  | cons x l ih =>
    show fNat x.toNat (fun y => fBytes l fun n ys => fNat (Nat.succ n) fun n => k n (y :: ys)) = _
    rw [fNat_eq, ih, fNat_eq]; rfl
theorem eqNat_eq (l m : List Nat) (k : Bool → Ans) : eqNat l m k = k (l == m) := by
  induction l generalizing m with
  | nil => cases m <;> rfl
  | cons x l ih => cases m with
    | nil => rfl
    | cons y m =>
      show cnd (Nat.beq x y) (eqNat l m k) (k false) = _
      rw [cnd_eq, ih]
      by_cases h : x = y
      · subst h; rw [if_pos (Nat.beq_refl x)]; simp
      · rw [if_neg (fun e => h (Nat.eq_of_beq_eq_true e))]
        have : (x :: l == y :: m) = false := by simp [h]
        rw [this]
def ltL : List Nat → List Nat → Bool
  | _, [] => false
  | [], _ :: _ => true
  | a :: x, b :: y => decide (a < b) || (a == b && ltL x y)
theorem ltNat_eq (l m : List Nat) (k : Bool → Ans) : ltNat l m k = k (ltL l m) := by
  induction l generalizing m with
  | nil => cases m <;> rfl
  | cons x l ih => cases m with
    | nil => rfl
    | cons y m =>
      show cnd (Nat.blt x y) (k true) (cnd (Nat.beq x y) (ltNat l m k) (k false)) = _
      rw [cnd_eq, cnd_eq, ih, ltL]
      by_cases h : x < y
      · rw [if_pos (by simpa using h)]; simp [h]
      · rw [if_neg (by simpa using h)]
        by_cases h2 : x = y
        · subst h2; rw [if_pos (Nat.beq_refl x)]; simp
        · rw [if_neg (fun e => h2 (Nat.eq_of_beq_eq_true e))]
          have : (x == y) = false := by simp [h2]
          simp [h, this]
end Go.Ev
namespace Go.Ev
variable [Sg]

abbrev Bt := Nat → Option (Nat × Nat)
abbrev flatV (v : Value) : Bool := v.oneCell'
mutual
def con (β : Bt) : AV → Option Value
  | .nat n => some (.int .i64 n)
  | .u8 n => some (.int .u8 n)
  | .int k z => some (.int k z)
  | .bool b => some (.bool b)
  | .str n l => if n = l.length ∧ l.all (· < 256) = true then some (.string (bytesOf l)) else none
  | .raw v => if flatV v = true then some v else none
  | .ptr b off => (β b).map fun c => .pointer (some ⟨c.1, off, none⟩)
  | .slice b off len ex d => (β b).bind fun c => if ex = true ∨ d + len ≤ c.2 then some (.slice (some ⟨c.1, off, none⟩) len (if ex = true then d else c.2 - d)) else none
  | .map b => (β b).map fun c => .map (some c.1)
  | .iface t v => (con β v).map fun v => .iface t v
  | .agg l => (conL β l).bind fun vs => if vs.all flatV = true then some (.agg vs.toArray) else none
  | .tup l => (conL β l).map fun vs => .tuple vs.toArray
  | .fn f a b => (conL β a).bind fun x => (conL β b).map fun y => .func f x.toArray y.toArray
  | .sym i => if flatV (Sg.val i) = true then some (Sg.val i) else none
def conL (β : Bt) : List AV → Option (List Value)
  | [] => some []
  | x :: xs => (con β x).bind fun v => (conL β xs).map fun vs => v :: vs
end
def Le (β β' : Bt) : Prop := ∀ b x, β b = some x → β' b = some x
theorem Le.refl (β : Bt) : Le β β := fun _ _ h => h
theorem Le.trans {β β' β'' : Bt} (h : Le β β') (h' : Le β' β'') : Le β β'' := fun b x e => h' b x (h b x e)
mutual
theorem con_mono {β β' : Bt} (hl : Le β β') : ∀ {x : AV} {v : Value}, con β x = some v → con β' x = some v
  | .nat n, v, h => h
  | .u8 n, v, h => h
  | .int k z, v, h => h
  | .bool b, v, h => h
  | .str n l, v, h => by simpa [con] using h
  | .raw u, v, h => by simpa [con] using h
  | .ptr b off, v, h => by
    simp only [con, Option.map_eq_some_iff] at h ⊢
    obtain ⟨c, hc, rfl⟩ := h
    exact ⟨c, hl _ _ hc, rfl⟩
  | .slice b off len ex d, v, h => by
    simp only [con, Option.bind_eq_some_iff] at h ⊢
    obtain ⟨c, hc, hv⟩ := h
    exact ⟨c, hl _ _ hc, hv⟩
  | .map b, v, h => by
    simp only [con, Option.map_eq_some_iff] at h ⊢
    obtain ⟨c, hc, rfl⟩ := h
    exact ⟨c, hl _ _ hc, rfl⟩
  | .iface t x, v, h => by
    simp only [con, Option.map_eq_some_iff] at h ⊢
    obtain ⟨c, hc, rfl⟩ := h
    exact ⟨c, con_mono hl hc, rfl⟩
  | .agg l, v, h => by
    simp only [con, Option.bind_eq_some_iff] at h ⊢
    obtain ⟨c, hc, hv⟩ := h
    exact ⟨c, conL_mono hl hc, hv⟩
  | .tup l, v, h => by
    simp only [con, Option.map_eq_some_iff] at h ⊢
    obtain ⟨c, hc, hv⟩ := h
    exact ⟨c, conL_mono hl hc, hv⟩
  | .fn f a b, v, h => by
    simp only [con, Option.bind_eq_some_iff, Option.map_eq_some_iff] at h ⊢
    obtain ⟨x, hx, y, hy, hv⟩ := h
    exact ⟨x, conL_mono hl hx, y, conL_mono hl hy, hv⟩
  | .sym i, v, h => by simpa [con] using h
theorem conL_mono {β β' : Bt} (hl : Le β β') : ∀ {l : List AV} {vs : List Value}, conL β l = some vs → conL β' l = some vs
  | [], vs, h => h
  | x :: xs, vs, h => by
    simp only [conL, Option.bind_eq_some_iff, Option.map_eq_some_iff] at h ⊢
    obtain ⟨v, hv, us, hu, rfl⟩ := h
    exact ⟨v, con_mono hl hv, us, conL_mono hl hu, rfl⟩
end
theorem conL_cons {β : Bt} {x : AV} {xs : List AV} {vs : List Value} (h : conL β (x :: xs) = some vs) : ∃ v us, con β x = some v ∧ conL β xs = some us ∧ vs = v :: us := by
  simp only [conL, Option.bind_eq_some_iff, Option.map_eq_some_iff] at h
  obtain ⟨v, hv, us, hu, rfl⟩ := h
  exact ⟨v, us, hv, hu, rfl⟩
theorem conL_mk {β : Bt} {x : AV} {xs : List AV} {v : Value} {us : List Value} (h : con β x = some v) (h' : conL β xs = some us) : conL β (x :: xs) = some (v :: us) := by
  simp only [conL, h, h']; rfl
theorem conL_nil {β : Bt} {vs : List Value} (h : conL β [] = some vs) : vs = [] := by
  simp only [conL] at h; injection h with h; exact h.symm
theorem conL_len {β : Bt} : ∀ {l : List AV} {vs : List Value}, conL β l = some vs → l.length = vs.length
  | [], vs, h => by rw [conL_nil h]; rfl
  | x :: xs, vs, h => by
    obtain ⟨v, us, -, h2, rfl⟩ := conL_cons h
    simp [conL_len h2]
theorem conL_get {β : Bt} : ∀ {l : List AV} {vs : List Value} {i : Nat} {x : AV}, conL β l = some vs → l[i]? = some x → ∃ v, vs[i]? = some v ∧ con β x = some v
  | [], vs, i, x, h, hx => by simp at hx
  | y :: ys, vs, 0, x, h, hx => by
    obtain ⟨v, us, h1, h2, rfl⟩ := conL_cons h
    simp at hx; subst hx
    exact ⟨v, by simp, h1⟩
  | y :: ys, vs, i + 1, x, h, hx => by
    obtain ⟨v, us, h1, h2, rfl⟩ := conL_cons h
    obtain ⟨u, h3, h4⟩ := conL_get (i := i) h2 (by simpa using hx)
    exact ⟨u, by simpa using h3, h4⟩
theorem conL_of {β : Bt} : ∀ {l : List AV} {vs : List Value}, l.length = vs.length → (∀ (i : Nat) (x : AV) (v : Value), l[i]? = some x → vs[i]? = some v → con β x = some v) → conL β l = some vs
  | [], [], _, _ => rfl
  | [], _ :: _, h, _ => by simp at h
  | _ :: _, [], h, _ => by simp at h
  | x :: xs, v :: vs, h, h2 => conL_mk (h2 0 x v (by simp) (by simp)) (conL_of (by simpa using h) (fun i y u hy hu => h2 (i + 1) y u (by simpa using hy) (by simpa using hu)))
theorem conL_append {β : Bt} : ∀ {l m : List AV} {us vs : List Value}, conL β l = some us → conL β m = some vs → conL β (l ++ m) = some (us ++ vs)
  | [], m, us, vs, h, h' => by rw [conL_nil h]; exact h'
  | x :: xs, m, us, vs, h, h' => by
    obtain ⟨v, ws, h1, h2, rfl⟩ := conL_cons h
    exact conL_mk h1 (conL_append h2 h')
theorem conL_take {β : Bt} {l : List AV} {vs : List Value} (n : Nat) (h : conL β l = some vs) : conL β (l.take n) = some (vs.take n) := by
  have hl := conL_len h
  refine conL_of (by simp [hl]) (fun i x v hx hv => ?_)
  rw [List.getElem?_take] at hx hv
  split at hx
  · rename_i hi
    rw [if_pos hi] at hv
    obtain ⟨u, h1, h2⟩ := conL_get h hx
    rw [h1] at hv; injection hv with hv; subst hv; exact h2
  · cases hx
theorem conL_drop {β : Bt} {l : List AV} {vs : List Value} (n : Nat) (h : conL β l = some vs) : conL β (l.drop n) = some (vs.drop n) := by
  have hl := conL_len h
  refine conL_of (by simp [hl]) (fun i x v hx hv => ?_)
  rw [List.getElem?_drop] at hx hv
  obtain ⟨u, h1, h2⟩ := conL_get h hx
  rw [h1] at hv; injection hv with hv; subst hv; exact h2

def EntR (β : Bt) : List (AV × AV × Nat) → List MapEntry → Prop
  | [], [] => True
  | e :: es, m :: ms => con β e.1 = some m.key ∧ con β e.2.1 = some m.val ∧ m.born = e.2.2 ∧ EntR β es ms
  | _, _ => False
theorem EntR.mono {β β' : Bt} (hl : Le β β') : ∀ {es : List (AV × AV × Nat)} {ms : List MapEntry}, EntR β es ms → EntR β' es ms
  | [], [], _ => trivial
  | [], _ :: _, h => h
  | _ :: _, [], h => h
  | e :: es, m :: ms, ⟨h1, h2, h3, h4⟩ => ⟨con_mono hl h1, con_mono hl h2, h3, EntR.mono hl h4⟩
def BlkR (β : Bt) (κ : Nat) (o : Option Obj) : Blk → Prop
  | .cells e len c ex esz => ∃ cs fz, o = some (.cells cs e fz) ∧ (∀ i, i < cs.size → ¬ (fz.1 ≤ i ∧ i < fz.2)) ∧
      (∀ i, i < len → ∃ av u, c.get (path i) = some av ∧ cs[i]? = some u ∧ con β av = some u ∧ flatV u = true) ∧ len ≤ cs.size ∧ (ex = true → cs.size = len) ∧ (ex = false → cs.size = κ * esz)
  | .map es clock => ∃ ms, o = some (.map ms clock) ∧ EntR β es ms.toList
  | .miter b since => ∃ cb κ', β b = some (cb, κ') ∧ o = some (.mapIter (some cb) since #[] since)
  | .iter l pos => o = some (.stringIter (bytesOf l) pos) ∧ l.all (· < 256) = true
theorem BlkR.mono {β β' : Bt} (hl : Le β β') {κ : Nat} {o : Option Obj} {b : Blk} (h : BlkR β κ o b) : BlkR β' κ o b := by
  cases b with
  | cells e len c ex esz =>
    obtain ⟨cs, fz, h1, h2, h3, h4⟩ := h
    refine ⟨cs, fz, h1, h2, fun i hi => ?_, h4⟩
    obtain ⟨av, u, a, b, c, d⟩ := h3 i hi
    exact ⟨av, u, a, b, con_mono hl c, d⟩
  | map es clock =>
    obtain ⟨ms, h1, h2⟩ := h
    exact ⟨ms, h1, h2.mono hl⟩
  | iter l pos => exact h
  | miter b since =>
    obtain ⟨cb, κ', h1, h2⟩ := h
    exact ⟨cb, κ', hl _ _ h1, h2⟩
def Hp.tr : Hp → Tr Blk | .mk t _ _ => t
def Hp.nx : Hp → Nat | .mk _ n _ => n
def Hp.lo : Hp → Nat | .mk _ _ l => l
structure HR (β : Bt) (h : Hp) (w : World) : Prop where
  blk : ∀ b x, h.tr.get (path b) = some x → b < h.nx ∧ ∃ cb κ, β b = some (cb, κ) ∧ BlkR β κ w.heap[cb]? x
  inj : ∀ b b' x x' c κ κ', h.tr.get (path b) = some x → h.tr.get (path b') = some x' → β b = some (c, κ) → β b' = some (c, κ') → b = b'
  fresh : ∀ i, h.nx ≤ i → β i = none
  low : h.lo ≤ h.nx
structure Kept (β : Bt) (lo : Nat) (w w' : World) : Prop where
  os : w'.os = w.os
  tape : w'.tape = w.tape
  output : w'.output = w.output
  size : w.heap.size ≤ w'.heap.size
  block : ∀ c, c < w.heap.size → (∀ b κ, lo ≤ b → β b ≠ some (c, κ)) → w'.heap[c]? = w.heap[c]?
structure Stp (β : Bt) (h : Hp) (w : World) (β' : Bt) (h' : Hp) (w' : World) : Prop where
  hr : HR β' h' w'
  nx : h.nx ≤ h'.nx
  lo : h'.lo ≤ h.lo
  old : ∀ b, b < h.nx → β' b = β b
  new : ∀ b c κ, h.nx ≤ b → β' b = some (c, κ) → w.heap.size ≤ c ∨ ∃ x κ', h'.lo ≤ x ∧ x < h.nx ∧ β x = some (c, κ')
  kept : Kept β h'.lo w w'
theorem Kept.refl (β : Bt) (lo : Nat) (w : World) : Kept β lo w w := ⟨rfl, rfl, rfl, Nat.le_refl _, fun _ _ _ => rfl⟩
theorem Stp.refl {β : Bt} {h : Hp} {w : World} (hr : HR β h w) : Stp β h w β h w :=
  ⟨hr, Nat.le_refl _, Nat.le_refl _, fun _ _ => rfl, (fun b c κ hb e => by rw [hr.fresh b hb] at e; cases e), Kept.refl _ _ _⟩
theorem Stp.le {β β' : Bt} {h h' : Hp} {w w' : World} (hr : HR β h w) (s : Stp β h w β' h' w') : Le β β' := by
  intro b x e
  by_cases hb : b < h.nx
  · rw [s.old b hb]; exact e
  · rw [hr.fresh b (by omega)] at e; cases e
theorem Stp.trans {β β' β'' : Bt} {h h' h'' : Hp} {w w' w'' : World} (hr : HR β h w) (s : Stp β h w β' h' w') (s' : Stp β' h' w' β'' h'' w'') : Stp β h w β'' h'' w'' := by
  refine ⟨s'.hr, Nat.le_trans s.nx s'.nx, Nat.le_trans s'.lo s.lo, fun b hb => ?_, fun b c κ hb e => ?_, ?_⟩
  · rw [s'.old b (Nat.lt_of_lt_of_le hb s.nx), s.old b hb]
  · by_cases h2 : b < h'.nx
    · rw [s'.old b h2] at e
      rcases s.new b c κ hb e with h3 | ⟨x, κ', a1, a2, a3⟩
      · exact .inl h3
      · exact .inr ⟨x, κ', Nat.le_trans s'.lo a1, a2, a3⟩
    · rcases s'.new b c κ (by omega) e with h3 | ⟨x, κ', a1, a2, a3⟩
      · exact .inl (Nat.le_trans s.kept.size h3)
      · by_cases h4 : x < h.nx
        · rw [s.old x h4] at a3; exact .inr ⟨x, κ', a1, h4, a3⟩
        · rcases s.new x c κ' (by omega) a3 with h5 | ⟨y, κ2, b1, b2, b3⟩
          · exact .inl h5
          · exact .inr ⟨y, κ2, Nat.le_trans s'.lo b1, b2, b3⟩
  · refine ⟨s'.kept.os.trans s.kept.os, s'.kept.tape.trans s.kept.tape, s'.kept.output.trans s.kept.output, Nat.le_trans s.kept.size s'.kept.size, fun c hc hn => ?_⟩
    rw [s'.kept.block c (Nat.lt_of_lt_of_le hc s.kept.size) ?_, s.kept.block c hc (fun b κ hb => hn b κ (Nat.le_trans s'.lo hb))]
    intro b κ hb e
    by_cases h2 : b < h.nx
    · rw [s.old b h2] at e; exact hn b κ hb e
    · rcases s.new b c κ (by omega) e with h3 | ⟨x, κ', a1, a2, a3⟩
      · omega
      · exact hn x κ' (Nat.le_trans s'.lo a1) a3
theorem HR.drawn {β : Bt} {h : Hp} {w w' : World} (hr : HR β h w) (hh : w'.heap = w.heap) : HR β h w' :=
  ⟨fun b x e => by rw [hh]; exact hr.blk b x e, hr.inj, hr.fresh, hr.low⟩
end Go.Ev
end
/- Memory: blocks are made, read and written. -/
section
set_option linter.unusedVariables false
set_option linter.unusedSectionVars false
set_option linter.unusedSimpArgs false
namespace Go.Ev
variable [Sg]

def upd (β : Bt) (n c κ : Nat) : Bt := fun b => if b = n then some (c, κ) else β b
theorem upd_same (β : Bt) (n c κ : Nat) : upd β n c κ n = some (c, κ) := by simp [upd]
theorem upd_ne {β : Bt} {n c κ b : Nat} (h : b ≠ n) : upd β n c κ b = β b := by simp [upd, h]
theorem upd_le {β : Bt} {n c κ : Nat} (h : β n = none) : Le β (upd β n c κ) := by
  intro b x e
  by_cases hb : b = n
  · subst hb; rw [h] at e; cases e
  · rw [upd_ne hb]; exact e
theorem Stp.new_block {β : Bt} {t : Tr Blk} {n low : Nat} {w w' : World} (hr : HR β (.mk t n low) w) (o : Obj) (κ : Nat) (blk : Blk) (hh : w'.heap = w.heap.push o) (h1 : w'.os = w.os) (h2 : w'.tape = w.tape) (h3 : w'.output = w.output)
    (hb : BlkR (upd β n w.heap.size κ) κ (some o) blk) : Stp β (.mk t n low) w (upd β n w.heap.size κ) (.mk (t.set (path n) (some blk)) (n + 1) low) w' := by
  have hn : β n = none := hr.fresh n (Nat.le_refl _)
  have hlow : low ≤ n := hr.low
  have hlt : ∀ b x, t.get (path b) = some x → ∃ cb κ', β b = some (cb, κ') ∧ cb < w.heap.size := by
    intro b x hx
    obtain ⟨_, cb, κ', e, hB⟩ := hr.blk b x hx
    refine ⟨cb, κ', e, ?_⟩
    cases x with
    | cells e' len c ex esz => obtain ⟨cs, fz, e2, -⟩ := hB; exact (Array.getElem?_eq_some_iff.1 e2).1
    | map es clock => obtain ⟨ms, e2, -⟩ := hB; exact (Array.getElem?_eq_some_iff.1 e2).1
    | iter l p => exact (Array.getElem?_eq_some_iff.1 hB.1).1
    | miter b s => obtain ⟨_, _, _, e2⟩ := hB; exact (Array.getElem?_eq_some_iff.1 e2).1
  refine ⟨⟨fun b x hx => ?_, fun b b' x x' c κ1 κ2 hx hx' e e' => ?_, fun i hi => ?_, ?_⟩, by show n ≤ n + 1; omega, Nat.le_refl _, fun b hb => upd_ne (by intro e; subst e; exact Nat.lt_irrefl _ hb), fun b c κ' hb e => ?_, ⟨h1, h2, h3, by rw [hh]; simp, fun c hc _ => by rw [hh, Array.getElem?_push, if_neg (by omega)]⟩⟩
  · replace hx : (t.set (path n) (some blk)).get (path b) = some x := hx
    rw [get_set] at hx
    by_cases hbn : b = n
    · subst hbn
      rw [if_pos rfl] at hx; injection hx with hx; subst hx
      exact ⟨by show b < b + 1; omega, _, κ, upd_same .., by rw [hh]; simpa using hb⟩
    · rw [if_neg (path_ne hbn)] at hx
      obtain ⟨h4, cb, κ', e, hB⟩ := hr.blk b x hx
      obtain ⟨cb2, κ2, e2, hcb⟩ := hlt b x hx
      rw [e] at e2; injection e2 with e2; injection e2 with e2 e3; subst e2
      have h4' : b < n := h4
      exact ⟨by show b < n + 1; omega, cb, κ', by rw [upd_ne hbn]; exact e, by rw [hh, Array.getElem?_push, if_neg (by omega)]; exact hB.mono (upd_le hn)⟩
  · replace hx : (t.set (path n) (some blk)).get (path b) = some x := hx
    replace hx' : (t.set (path n) (some blk)).get (path b') = some x' := hx'
    rw [get_set] at hx hx'
    by_cases hbn : b = n
    · by_cases hbn' : b' = n
      · rw [hbn, hbn']
      · subst hbn
        rw [upd_same] at e; injection e with e; injection e with e _
        rw [if_neg (path_ne hbn')] at hx'
        obtain ⟨cb, κ', e2, hcb⟩ := hlt b' x' hx'
        rw [upd_ne hbn'] at e'
        rw [e2] at e'; injection e' with e'; injection e' with e' _
        omega
    · rw [if_neg (path_ne hbn)] at hx
      rw [upd_ne hbn] at e
      by_cases hbn' : b' = n
      · subst hbn'
        rw [upd_same] at e'; injection e' with e'; injection e' with e' _
        obtain ⟨cb, κ', e2, hcb⟩ := hlt b x hx
        rw [e2] at e; injection e with e; injection e with e _
        omega
      · rw [if_neg (path_ne hbn')] at hx'
        rw [upd_ne hbn'] at e'
        exact hr.inj b b' x x' c κ1 κ2 hx hx' e e'
  · have hi' : n + 1 ≤ i := hi
    rw [upd_ne (by omega)]; exact hr.fresh i (show n ≤ i by omega)
  · show low ≤ n + 1; omega
  · left
    have hb' : n ≤ b := hb
    by_cases hbn : b = n
    · subst hbn; rw [upd_same] at e; injection e with e; injection e with e _; omega
    · rw [upd_ne hbn, hr.fresh b hb'] at e; cases e
theorem Stp.set_block {β : Bt} {t : Tr Blk} {n low b cb κ : Nat} {w w' : World} {old blk : Blk} (hr : HR β (.mk t n low) w) (hold : t.get (path b) = some old) (hβ : β b = some (cb, κ)) (hsz : w'.heap.size = w.heap.size)
    (hoth : ∀ i, i < w.heap.size → i ≠ cb → w'.heap[i]? = w.heap[i]?) (h1 : w'.os = w.os) (h2 : w'.tape = w.tape) (h3 : w'.output = w.output) (hb : BlkR β κ w'.heap[cb]? blk) :
    Stp β (.mk t n low) w β (.mk (t.set (path b) (some blk)) n (min low b)) w' := by
  have hlow : low ≤ n := hr.low
  have hlt : ∀ b x, t.get (path b) = some x → ∃ cb κ', β b = some (cb, κ') ∧ cb < w.heap.size := by
    intro b x hx
    obtain ⟨_, cb, κ', e, hB⟩ := hr.blk b x hx
    refine ⟨cb, κ', e, ?_⟩
    cases x with
    | cells e' len c ex esz => obtain ⟨cs, fz, e2, -⟩ := hB; exact (Array.getElem?_eq_some_iff.1 e2).1
    | map es clock => obtain ⟨ms, e2, -⟩ := hB; exact (Array.getElem?_eq_some_iff.1 e2).1
    | iter l p => exact (Array.getElem?_eq_some_iff.1 hB.1).1
    | miter b s => obtain ⟨_, _, _, e2⟩ := hB; exact (Array.getElem?_eq_some_iff.1 e2).1
  refine ⟨⟨fun b' x hx => ?_, fun b1 b2 x x' c κ1 κ2 hx hx' e e' => ?_, hr.fresh, ?_⟩, Nat.le_refl _, Nat.min_le_left _ _, fun _ _ => rfl, (fun b' c κ' hb' e => by rw [hr.fresh b' hb'] at e; cases e), ⟨h1, h2, h3, by omega, fun c hc hn => ?_⟩⟩
  · replace hx : (t.set (path b) (some blk)).get (path b') = some x := hx
    rw [get_set] at hx
    by_cases hbb : b' = b
    · subst hbb
      rw [if_pos rfl] at hx; injection hx with hx; subst hx
      exact ⟨(hr.blk b' old hold).1, cb, κ, hβ, hb⟩
    · rw [if_neg (path_ne hbb)] at hx
      obtain ⟨h4, cb', κ', e, hB⟩ := hr.blk b' x hx
      obtain ⟨cb2, κ2, e2, hcb⟩ := hlt b' x hx
      rw [e] at e2; injection e2 with e2; injection e2 with e2 e3; subst e2
      refine ⟨h4, cb', κ', e, ?_⟩
      rw [hoth cb' hcb (fun ec => hbb (hr.inj b' b x old cb' κ' κ hx hold e (by rw [ec]; exact hβ)))]
      exact hB
  · replace hx : (t.set (path b) (some blk)).get (path b1) = some x := hx
    replace hx' : (t.set (path b) (some blk)).get (path b2) = some x' := hx'
    have go : ∀ b1 x, (t.set (path b) (some blk)).get (path b1) = some x → ∃ y, t.get (path b1) = some y := by
      intro b1 x hx
      rw [get_set] at hx
      by_cases h : b1 = b
      · subst h; exact ⟨old, hold⟩
      · rw [if_neg (path_ne h)] at hx; exact ⟨x, hx⟩
    obtain ⟨y, hy⟩ := go b1 x hx
    obtain ⟨y', hy'⟩ := go b2 x' hx'
    exact hr.inj b1 b2 y y' c κ1 κ2 hy hy' e e'
  · show min low b ≤ n; omega
  · refine hoth c hc fun e => ?_
    subst e
    exact hn b κ (Nat.min_le_right low b) hβ
theorem drewHR {β : Bt} {h : Hp} {w : World} (hr : HR β h w) : Stp β h w β h w.drew :=
  ⟨hr.drawn rfl, Nat.le_refl _, Nat.le_refl _, fun _ _ => rfl, (fun b c κ hb e => by rw [hr.fresh b hb] at e; cases e), ⟨rfl, rfl, rfl, Nat.le_refl _, fun _ _ _ => rfl⟩⟩

def setA (cs : Array Value) : Nat → List Value → Array Value
  | _, [] => cs
  | o, v :: r => setA (cs.setIfInBounds o v) (o + 1) r
theorem setA_size : ∀ (vs : List Value) (cs : Array Value) (o : Nat), (setA cs o vs).size = cs.size
  | [], cs, o => rfl
  | v :: r, cs, o => by rw [setA, setA_size r]; simp
theorem setA_get : ∀ (vs : List Value) (cs : Array Value) (o i : Nat), o + vs.length ≤ cs.size → (setA cs o vs)[i]? = if o ≤ i ∧ i < o + vs.length then vs[i - o]? else cs[i]?
  | [], cs, o, i, h => by rw [setA, if_neg (by simp only [List.length_nil]; omega)]
  | v :: r, cs, o, i, h => by
    simp at h
    rw [setA, setA_get r _ _ _ (by simp; omega)]
    by_cases h0 : i = o
    · subst h0
      rw [if_neg (by omega), if_pos (by simp)]
      simp [Array.getElem?_setIfInBounds]; omega
    · by_cases h1 : o + 1 ≤ i ∧ i < o + 1 + r.length
      · rw [if_pos h1, if_pos (by simp; omega), show i - o = (i - (o + 1)) + 1 by omega]; simp
      · rw [if_neg h1, if_neg (by simp; omega), Array.getElem?_setIfInBounds, if_neg (by omega)]
theorem setCells_heap : ∀ (vs : List Value) (o : Nat) (w : World) (b : Nat) (cs : Array Value) (e : TypeId) (fz : Nat × Nat), w.heap[b]? = some (.cells cs e fz) → (w.setCells b o vs).heap[b]? = some (.cells (setA cs o vs) e fz)
  | [], o, w, b, cs, e, fz, h => h
  | v :: r, o, w, b, cs, e, fz, h => by
    rw [World.setCells, setA]
    refine setCells_heap r _ _ _ _ _ _ ?_
    show (w.heap.modify b _)[b]? = _
    rw [Array.getElem?_modify, if_pos rfl, h]
    rfl
theorem setCells_size : ∀ (vs : List Value) (o : Nat) (w : World) (b : Nat), (w.setCells b o vs).heap.size = w.heap.size
  | [], _, _, _ => rfl
  | v :: r, o, w, b => by rw [World.setCells, setCells_size r]; simp
theorem setCells_tape : ∀ (vs : List Value) (o : Nat) (w : World) (b : Nat), (w.setCells b o vs).tape = w.tape
  | [], _, _, _ => rfl
  | v :: r, o, w, b => by rw [World.setCells, setCells_tape r]; rfl
theorem getK_yes {b off n : Nat} {h : Hp} {k : List AV → Ans} (hk : getK b off n h k = .yes) :
    ∃ l e m c ex sz, h.tr.get (path b) = some (.cells e m c ex sz) ∧ off + n ≤ m ∧ l.length = n ∧ (∀ i, i < n → c.get (path (off + i)) = l[i]?) ∧ k l = .yes := by
  cases h with
  | mk t nx low =>
    unfold getK at hk
    obtain ⟨bl, hb, hk⟩ := getP_yes hk
    cases bl with
    | map es cl => cases hk
    | iter l p => cases hk
    | miter b s => cases hk
    | cells e m c ex sz =>
      obtain ⟨h1, hk⟩ := cnd_yes hk
      obtain ⟨l, h2, h3, h4⟩ := readN_yes hk
      exact ⟨l, e, m, c, ex, sz, hb, by simpa using h1, h2, h3, h4⟩
theorem cells_of {β : Bt} {h : Hp} {w : World} (hr : HR β h w) {b off n e m : Nat} {c : Tr AV} {ex : Bool} {sz : Nat} {l : List AV} (hb : h.tr.get (path b) = some (.cells e m c ex sz)) (hm : off + n ≤ m) (hl : l.length = n) (hc : ∀ i, i < n → c.get (path (off + i)) = l[i]?) :
    ∃ cb κ vs, β b = some (cb, κ) ∧ conL β l = some vs ∧ (∀ u ∈ vs, u.oneCell' = true) ∧ vs.length = n ∧ ∀ i u, vs[i]? = some u → w.cell? ⟨cb, off + i, none⟩ = some u := by
  obtain ⟨-, cb, κ, hβ, cs, fz, h1, h2, h3, h4, -, -⟩ := hr.blk b _ hb
  have hex : ∀ i, i < n → ∃ av u, l[i]? = some av ∧ cs[off + i]? = some u ∧ con β av = some u ∧ flatV u = true := by
    intro i hi
    obtain ⟨av, u, a1, a2, a3, a4⟩ := h3 (off + i) (by omega)
    rw [hc i hi] at a1
    exact ⟨av, u, a1, a2, a3, a4⟩
  have hco : ∃ vs, conL β l = some vs ∧ vs.length = n ∧ ∀ i u, vs[i]? = some u → cs[off + i]? = some u ∧ u.oneCell' = true := by
    clear hc hm
    induction l generalizing off n with
    | nil => exact ⟨[], rfl, hl, fun i u hu => by simp at hu⟩
    | cons x xs ih =>
      obtain ⟨n', rfl⟩ : ∃ n', n = n' + 1 := ⟨xs.length, by simpa using hl.symm⟩
      obtain ⟨av, u, a1, a2, a3, a4⟩ := hex 0 (by omega)
      simp at a1; subst a1
      obtain ⟨vs, b1, b2, b3⟩ := ih (off := off + 1) (n := n') (by simpa using hl) (fun i hi => by
        obtain ⟨av, u, c1, c2⟩ := hex (i + 1) (by omega)
        exact ⟨av, u, by simpa using c1, by rw [show off + 1 + i = off + (i + 1) by omega]; exact c2⟩)
      refine ⟨u :: vs, conL_mk a3 b1, by simp [b2], fun i w hw => ?_⟩
      cases i with
      | zero => simp at hw; subst hw; exact ⟨a2, a4⟩
      | succ i =>
        have := b3 i w (by simpa using hw)
        rw [show off + (i + 1) = off + 1 + i by omega]; exact this
  obtain ⟨vs, d1, d2, d3⟩ := hco
  refine ⟨cb, κ, vs, hβ, d1, fun u hu => ?_, d2, fun i u hu => ?_⟩
  · obtain ⟨i, hi⟩ := List.mem_iff_getElem?.1 hu
    exact (d3 i u hi).2
  · unfold World.cell?
    rw [h1]
    exact (d3 i u hu).1
theorem putK_yes {b off : Nat} {l : List AV} {h : Hp} {k : Hp → Ans} (hk : putK b off l h k = .yes) :
    ∃ t n low e m c ex sz, h = .mk t n low ∧ t.get (path b) = some (.cells e m c ex sz) ∧ off + l.length ≤ m ∧ k (.mk (t.set (path b) (some (.cells e m (putL l off c) ex sz))) n (min low b)) = .yes := by
  cases h with
  | mk t nx low =>
    unfold putK at hk
    obtain ⟨bl, hb, hk⟩ := getP_yes hk
    cases bl with
    | map es cl => cases hk
    | iter l p => cases hk
    | miter b s => cases hk
    | cells e m c ex sz =>
      simp only [lenK_eq] at hk
      obtain ⟨h1, hk⟩ := cnd_yes hk
      rw [writeL_eq, setP_eq, natMin_eq] at hk
      exact ⟨t, nx, low, e, m, c, ex, sz, rfl, hb, by simpa using h1, hk⟩
theorem put_stp {β : Bt} {t : Tr Blk} {n low b off e m sz : Nat} {c : Tr AV} {ex : Bool} {w : World} {l : List AV} {vs : List Value} (hr : HR β (.mk t n low) w) (hb : t.get (path b) = some (.cells e m c ex sz)) (hm : off + l.length ≤ m) (hl : conL β l = some vs) (h1 : ∀ u ∈ vs, u.oneCell' = true) :
    ∃ cb κ, β b = some (cb, κ) ∧ (∀ j, j < vs.length → (w.cell? ⟨cb, off + j, none⟩).isSome = true) ∧ (∀ j, j < vs.length → w.frozen? ⟨cb, off + j, none⟩ = false) ∧
      Stp β (.mk t n low) w β (.mk (t.set (path b) (some (.cells e m (putL l off c) ex sz))) n (min low b)) (w.setCells cb off vs) := by
  obtain ⟨-, cb, κ, hβ, cs, fz, e1, e2, e3, e4, e5, e6⟩ := hr.blk b _ hb
  have hlen := conL_len hl
  refine ⟨cb, κ, hβ, fun j hj => ?_, fun j hj => ?_, ?_⟩
  · unfold World.cell?; rw [e1]
    show (cs[off + j]?).isSome = true
    rw [Array.getElem?_eq_getElem (by omega)]; rfl
  · unfold World.frozen?; rw [e1]
    have := e2 (off + j) (by omega)
    simp only [Bool.and_eq_false_iff, decide_eq_false_iff_not]
    omega
  · refine Stp.set_block hr hb hβ (setCells_size ..) (fun i hi hne => World.heap_setCells_other w cb off vs hi hne) (World.os_setCells ..) (setCells_tape ..) (World.output_setCells ..) ?_
    rw [setCells_heap vs off w cb cs e fz e1]
    refine ⟨_, fz, rfl, fun i hi => e2 i (by rwa [setA_size] at hi), fun i hi => ?_, by rw [setA_size]; exact e4, fun h => by rw [setA_size]; exact e5 h, fun h => by rw [setA_size]; exact e6 h⟩
    rw [get_putL, setA_get vs cs off i (by omega), hlen]
    by_cases h : off ≤ i ∧ i < off + vs.length
    · rw [if_pos h, if_pos h]
      have hi2 : i - off < l.length := by omega
      obtain ⟨u, u1, u2⟩ := conL_get hl (List.getElem?_eq_getElem hi2)
      exact ⟨_, u, List.getElem?_eq_getElem hi2, u1, u2, h1 u (List.mem_iff_getElem?.2 ⟨_, u1⟩)⟩
    · rw [if_neg h, if_neg h]; exact e3 i hi
theorem newK_eq (e : TypeId) (l : List AV) (ex : Bool) (sz : Nat) (t : Tr Blk) (n low : Nat) (k : Nat → Hp → Ans) : newK e l ex sz (.mk t n low) k = k n (.mk (t.set (path n) (some (.cells e l.length (putL l 0 .leaf) ex sz))) (n + 1) low) := by
  unfold newK
  simp only [lenK_eq, writeL_eq, setP_eq, fNat_eq]
theorem new_stp {β : Bt} {t : Tr Blk} {n low : Nat} {w w' : World} {e : TypeId} {l : List AV} {vs : List Value} (rest : List Value) {ex : Bool} {sz κ : Nat} {fz : Nat × Nat} (hr : HR β (.mk t n low) w) (hl : conL β l = some vs) (h1 : ∀ u ∈ vs, u.oneCell' = true)
    (hh : w'.heap = w.heap.push (.cells (vs ++ rest).toArray e fz)) (g1 : w'.os = w.os) (g2 : w'.tape = w.tape) (g3 : w'.output = w.output) (hf : ∀ i, i < (vs ++ rest).length → ¬ (fz.1 ≤ i ∧ i < fz.2)) (hex : ex = true → rest = []) (hne : ex = false → (vs ++ rest).length = κ * sz) :
    Stp β (.mk t n low) w (upd β n w.heap.size κ) (.mk (t.set (path n) (some (.cells e l.length (putL l 0 .leaf) ex sz))) (n + 1) low) w' := by
  have hlen := conL_len hl
  refine Stp.new_block hr _ κ _ hh g1 g2 g3 ⟨_, fz, rfl, fun i hi => hf i (by simpa using hi), fun i hi => ?_, by simp; omega, fun h => by simp [hex h, hlen], fun h => by simpa using hne h⟩
  rw [get_putL, if_pos ⟨Nat.zero_le _, by omega⟩, Nat.sub_zero]
  obtain ⟨u, u1, u2⟩ := conL_get hl (List.getElem?_eq_getElem hi)
  refine ⟨_, u, List.getElem?_eq_getElem hi, ?_, con_mono (upd_le (hr.fresh n (Nat.le_refl _))) u2, h1 u (List.mem_iff_getElem?.2 ⟨_, u1⟩)⟩
  have : i < vs.length := by omega
  simp only [List.getElem?_toArray]
  rw [List.getElem?_append_left this]; exact u1
end Go.Ev
namespace Go.Ev
variable [Sg]
open Go.RowKit

variable {P : Program}
def OpHolds (P : Program) (o : Oper) (xs : List AV) (h : Hp) (v : AV) (h' : Hp) : Prop :=
  ∀ (β : Bt) (w : World) (a : Act), HR β h w → conL β xs = some (o.op.operands.toList.map a.eval) → ∀ (K : Act → World → Prop) (Q : Exit → Act → World → Prop),
    (∀ β' w' u, Stp β h w β' h' w' → con β' v = some u → K (a.put o.dst u) w') → o.wp P a w K Q
def Quiet (P : Program) (o : Oper) (xs : List AV) (h : Hp) (v : AV) (h' : Hp) : Prop := quietOp P o.op = true → h' = h ∧ ∀ h2, OpHolds P o xs h2 v h2
theorem Quiet.no {o : Oper} {xs : List AV} {h h' : Hp} {v : AV} (hq : quietOp P o.op = false) : Quiet P o xs h v h' := fun h => by rw [hq] at h; cases h
theorem OpHolds.val {o : Oper} {xs : List AV} {h : Hp} {v : AV} {h' : Hp}
    (H : ∀ (β : Bt) (w : World) (a : Act), HR β h w → conL β xs = some (o.op.operands.toList.map a.eval) → ∃ β' w' u, (execOp a.eval o).run P w = .ok (.value u) w' ∧ Stp β h w β' h' w' ∧ con β' v = some u) : OpHolds P o xs h v h' := by
  intro β w a hr hx K Q hK
  obtain ⟨β', w', u, h1, h2, h3⟩ := H β w a hr hx
  unfold Oper.wp
  rw [h1]
  exact hK β' w' u h2 h3
theorem OpHolds.skip {o : Oper} {xs : List AV} {h : Hp} {h' : Hp}
    (H : ∀ (β : Bt) (w : World) (a : Act), HR β h w → conL β xs = some (o.op.operands.toList.map a.eval) → ∃ β' w', (execOp a.eval o).run P w = .ok .skip w' ∧ Stp β h w β' h' w') : OpHolds P o xs h (.tup []) h' := by
  intro β w a hr hx K Q hK
  obtain ⟨β', w', h1, h2⟩ := H β w a hr hx
  unfold Oper.wp
  rw [h1]
  exact hK β' w' undef h2 rfl
theorem OpHolds.pure {o : Oper} {xs : List AV} {h : Hp} {v : AV}
    (H : ∀ (β : Bt) (w : World) (a : Act), conL β xs = some (o.op.operands.toList.map a.eval) → ∃ u, (execOp a.eval o).run P w = .ok (.value u) w ∧ con β v = some u) : OpHolds P o xs h v h :=
  .val fun β w a hr hx => let ⟨u, h1, h2⟩ := H β w a hx; ⟨β, w, u, h1, .refl hr, h2⟩
theorem conL1 {β : Bt} {x : AV} {v : Value} (h : conL β [x] = some [v]) : con β x = some v := by
  obtain ⟨u, us, h1, h2, h3⟩ := conL_cons h
  injection h3 with h3 h4; subst h3; exact h1
theorem conL2 {β : Bt} {x y : AV} {v u : Value} (h : conL β [x, y] = some [v, u]) : con β x = some v ∧ con β y = some u := by
  obtain ⟨a, us, h1, h2, h3⟩ := conL_cons h
  injection h3 with h3 h4; subst h3; subst h4
  exact ⟨h1, conL1 h2⟩

theorem semPure_bind {α γ : Type} (s : Sem α) (f : α → Sem γ) : semPure P (s >>= f) = (semPure P s).bind fun a => semPure P (f a) := by
  show semPure P (s.bind f) = _
  induction s with
  | pure a => rfl
  | program k ih => exact ih P
  | mark m k ih => exact ih
  | _ => rfl
theorem semPure_run {α : Type} {s : Sem α} {v : α} (h : semPure P s = some v) (w : World) : s.run P w = .ok v w := by
  induction s with
  | pure a => injection h with h; subst h; rfl
  | program k ih => exact ih P h
  | mark m k ih => exact ih h
  | _ => cases h
theorem intAV_yes {q : IntKind} {z : Int} {k : AV → Ans} (h : intAV q z k = .yes) : ∃ av, (∀ β, con β av = some (.int q z)) ∧ k av = .yes := by
  unfold intAV at h
  split at h
  · rw [fNat_eq] at h; exact ⟨_, fun β => rfl, h⟩
  · rw [fNat_eq] at h; exact ⟨_, fun β => rfl, h⟩
  · rw [fInt_eq] at h; exact ⟨_, fun β => rfl, h⟩
theorem bytesOf_toNat (l : List UInt8) : (l.map (·.toNat)).map UInt8.ofNat = l := by
  rw [List.map_map]
  conv => rhs; rw [← List.map_id l]
  exact List.map_congr_left fun x _ => by simp
theorem con_str (β : Bt) (s : ByteArray) : con β (.str s.data.toList.length (s.data.toList.map (·.toNat))) = some (.string s) := by
  unfold con
  rw [if_pos ⟨by simp, by rw [List.all_eq_true]; intro x hx; obtain ⟨y, _, rfl⟩ := List.mem_map.1 hx; exact decide_eq_true (UInt8.toNat_lt y)⟩]
  unfold bytesOf
  rw [bytesOf_toNat]
theorem fVal1_yes {v : Value} {k : AV → Ans} (h : fVal1 v k = .yes) : ∃ av, (∀ β, con β av = some v) ∧ k av = .yes ∧ v.oneCell' = true := by
  unfold fVal1 at h
  split at h
  · obtain ⟨av, h1, h2⟩ := intAV_yes h; exact ⟨av, h1, h2, rfl⟩
  · rw [fBool_eq] at h; exact ⟨_, fun β => rfl, h, rfl⟩
  · rw [fBytes_eq] at h; exact ⟨_, fun β => con_str β _, h, rfl⟩
  · simp only [fNat_eq] at h; exact ⟨_, fun β => rfl, h, rfl⟩
  · simp only [fNat_eq] at h; exact ⟨_, fun β => rfl, h, rfl⟩
  · cases h
  · cases h
  · rename_i u _ _ _ _ _ h6 h7
    refine ⟨.raw v, fun β => ?_, h, ?_⟩
    · have : v.oneCell' = true := by cases v <;> first | rfl | (exact absurd rfl (h6 _)) | (exact absurd rfl (h7 _))
      unfold con; rw [if_pos this]
    · cases v <;> first | rfl | (exact absurd rfl (h6 _)) | (exact absurd rfl (h7 _))
theorem fVals_yes {l : List Value} {k : List AV → Ans} (h : fVals l k = .yes) : ∃ as, (∀ β, conL β as = some l) ∧ k as = .yes ∧ ∀ u ∈ l, u.oneCell' = true := by
  induction l generalizing k with
  | nil => exact ⟨[], fun β => rfl, h, fun u hu => by cases hu⟩
  | cons v l ih =>
    obtain ⟨av, h1, h2, h3⟩ := fVal1_yes (k := fun a => fVals l fun as => k (a :: as)) h
    obtain ⟨as, h4, h5, h6⟩ := ih h2
    exact ⟨av :: as, fun β => conL_mk (h1 β) (h4 β), h5, fun u hu => by
      cases hu with
      | head => exact h3
      | tail _ hu => exact h6 u hu⟩
theorem fVal_yes {v : Value} {k : AV → Ans} (h : fVal v k = .yes) : ∃ av, (∀ β, con β av = some v) ∧ k av = .yes := by
  unfold fVal at h
  split at h
  · rename_i cs
    obtain ⟨as, h1, h2, h3⟩ := fVals_yes h
    refine ⟨_, fun β => ?_, h2⟩
    simp only [con, h1, Option.bind_some]
    rw [if_pos (List.all_eq_true.2 h3)]
  · rename_i cs
    obtain ⟨as, h1, h2, h3⟩ := fVals_yes h
    exact ⟨_, fun β => by simp [con, h1], h2⟩
  · obtain ⟨av, h1, h2, h3⟩ := fVal1_yes h; exact ⟨av, h1, h2⟩
theorem modelK_yes {s : Sem Value} {k : AV → Ans} (h : modelK P s k = .yes) : ∃ v av, semPure P s = some v ∧ (∀ β, con β av = some v) ∧ k av = .yes := by
  unfold modelK at h
  cases hs : semPure P s with
  | none => rw [hs] at h; cases h
  | some v =>
    rw [hs] at h
    obtain ⟨av, h1, h2⟩ := fVal_yes h
    exact ⟨v, av, rfl, h1, h2⟩
theorem plain1_con {x : AV} {v : Value} (β : Bt) (h : x.plain1 = some v) {u : Value} (hu : con β x = some u) : u = v := by
  cases x <;> simp [AV.plain1] at h <;> subst h <;> simp [con] at hu
  · exact hu.symm
  · exact hu.symm
  · exact hu.symm
  · exact hu.symm
  · exact hu.2.symm
  · exact hu.2.symm
theorem plainL_con {l : List AV} {vs : List Value} (β : Bt) (h : plainL l = some vs) {us : List Value} (hu : conL β l = some us) : us = vs := by
  induction l generalizing vs us with
  | nil => injection h with h; subst h; exact conL_nil hu
  | cons x l ih =>
    obtain ⟨u, us', h1, h2, rfl⟩ := conL_cons hu
    unfold plainL at h
    cases h3 : x.plain1 with
    | none => rw [h3] at h; cases h
    | some v =>
      cases h4 : plainL l with
      | none => rw [h3, h4] at h; cases h
      | some vs' =>
        rw [h3, h4] at h; injection h with h; subst h
        rw [plain1_con β h3 h1, ih h4 h2]
theorem plain_con {x : AV} {v : Value} (β : Bt) (h : x.plain = some v) {u : Value} (hu : con β x = some u) : u = v := by
  unfold AV.plain at h
  split at h
  · rename_i l
    rw [Option.map_eq_some_iff] at h
    obtain ⟨vs, h1, rfl⟩ := h
    simp only [con, Option.bind_eq_some_iff] at hu
    obtain ⟨us, h2, h3⟩ := hu
    rw [plainL_con β h1 h2] at h3
    split at h3
    · injection h3 with h3; exact h3.symm
    · cases h3
  · exact plain1_con β h hu
theorem plainK_yes {x : AV} {k : Value → Ans} (h : plainK x k = .yes) : ∃ v, x.plain = some v ∧ k v = .yes := by
  unfold plainK at h
  cases hs : x.plain with
  | none => rw [hs] at h; cases h
  | some v => rw [hs] at h; exact ⟨v, rfl, h⟩

def binSem (op : BinOp) (t : TypeId) (X Y : Operand) (a b : Value) : Sem Value := do eqGuard op t X Y a b; Go.binOp op t a b
theorem exec_bin (op : BinOp) (t : TypeId) (X Y : Operand) (yt : TypeId) (o : Oper) (ho : o.op = .binOp op t X Y yt) (a : Act) (w : World) {u : Value} {w' : World} (h : (binSem op t X Y (a.eval X) (a.eval Y)).run P w = .ok u w') :
    (execOp a.eval o).run P w = .ok (.value u) w' := by
  unfold binSem at h
  simp only [Sem.run_bind] at h
  simp only [execOp, ho, Sem.run_bind, h, Result.andThen_ok, Sem.run_pure]
theorem eqGuard_of {op : BinOp} {t : TypeId} {a b : Value} (X Y : Operand) (h : semPure P (eqGuard op t (.tmp 0) (.tmp 0) a b) = some ()) : semPure P (eqGuard op t X Y a b) = some () := by
  unfold eqGuard at h ⊢
  cases op
  case eql | neq =>
    simp only [Bool.not_true, Bool.false_eq_true, ↓reduceIte] at h ⊢
    split
    · simp only [Bool.or_self, Bool.false_eq_true, ↓reduceIte] at h
      cases X <;> cases Y <;> first | exact h | rfl
    · exact h
    · rfl
  all_goals rfl
theorem genK_yes {op : BinOp} {t : TypeId} {x y : AV} {k : AV → Ans} (h : genK P op t x y k = .yes) :
    ∃ v, k v = .yes ∧ ∀ β X Y a b w, con β x = some a → con β y = some b → ∃ u, (binSem op t X Y a b).run P w = .ok u w ∧ con β v = some u := by
  unfold genK at h
  obtain ⟨p, hp, h⟩ := plainK_yes h
  obtain ⟨q, hq, h⟩ := plainK_yes h
  obtain ⟨v, av, h1, h2, h3⟩ := modelK_yes h
  refine ⟨av, h3, fun β X Y a b w ha hb => ⟨v, ?_, h2 β⟩⟩
  obtain rfl := plain_con β hp ha
  obtain rfl := plain_con β hq hb
  refine semPure_run ?_ w
  rw [semPure_bind] at h1
  unfold binSem
  rw [semPure_bind]
  cases hg : semPure P (eqGuard op t (.tmp 0) (.tmp 0) a b) with
  | none => rw [hg] at h1; cases h1
  | some z => cases z; rw [hg] at h1; rw [eqGuard_of X Y hg]; exact h1
theorem genB_yes {op : BinOp} {t : TypeId} {x y : AV} {k : Bool → Ans} (h : genB P op t x y k = .yes) :
    ∃ r, k r = .yes ∧ ∀ β X Y a b w, con β x = some a → con β y = some b → (binSem op t X Y a b).run P w = .ok (.bool r) w := by
  unfold genB at h
  obtain ⟨v, h1, h2⟩ := genK_yes h
  split at h1
  · rename_i r
    refine ⟨r, h1, fun β X Y a b w ha hb => ?_⟩
    obtain ⟨u, h3, h4⟩ := h2 β X Y a b w ha hb
    simp only [con] at h4; injection h4 with h4; subst h4; exact h3
  · cases h1
theorem cas_yes {x : AV} {a b : Nat → Ans} {c : Nat → List Nat → Ans} {o : Ans} (h : x.cas a b c o = .yes) :
    (∃ n, x = .nat n ∧ a n = .yes) ∨ (∃ n, x = .u8 n ∧ b n = .yes) ∨ (∃ n l, x = .str n l ∧ c n l = .yes) ∨ o = .yes := by
  cases x <;> first | exact .inl ⟨_, rfl, h⟩ | exact .inr (.inl ⟨_, rfl, h⟩) | exact .inr (.inr (.inl ⟨_, _, rfl, h⟩)) | exact .inr (.inr (.inr h))
theorem i64_lit {n : Nat} (h : n < 9223372036854775808) : IntKind.i64.wrap (n : Int) = n := by
  simp [IntKind.wrap, IntKind.bits, IntKind.signed]; omega
theorem con_str_inv {β : Bt} {n : Nat} {l : List Nat} {v : Value} (h : con β (.str n l) = some v) : v = .string (bytesOf l) ∧ n = l.length ∧ l.all (· < 256) = true := by
  unfold con at h
  split at h
  · rename_i hc; injection h with h; exact ⟨h.symm, hc.1, hc.2⟩
  · cases h
theorem con_str_mk {β : Bt} {n : Nat} {l : List Nat} (h1 : n = l.length) (h2 : l.all (· < 256) = true) : con β (.str n l) = some (.string (bytesOf l)) := by
  unfold con; rw [if_pos ⟨h1, h2⟩]
theorem bytesOf_append (l m : List Nat) : bytesOf l ++ bytesOf m = bytesOf (l ++ m) := by
  unfold bytesOf
  apply ByteArray.ext
  simp
theorem bytesOf_size (l : List Nat) : (bytesOf l).size = l.length := by simp [bytesOf, ByteArray.size]
theorem bytesOf_toList (l : List Nat) : (bytesOf l).toList = l.map UInt8.ofNat := by
  unfold bytesOf; simp
theorem ofNat_inj {a b : Nat} (ha : a < 256) (hb : b < 256) (h : UInt8.ofNat a = UInt8.ofNat b) : a = b := by
  have := congrArg UInt8.toNat h
  simp at this; omega
theorem map_ofNat_eq : ∀ {l m : List Nat}, l.all (· < 256) = true → m.all (· < 256) = true → (l.map UInt8.ofNat == m.map UInt8.ofNat) = (l == m)
  | [], [], _, _ => rfl
  | [], _ :: _, _, _ => rfl
  | _ :: _, [], _, _ => rfl
  | a :: l, b :: m, h, h' => by
    simp only [List.all_cons, Bool.and_eq_true, decide_eq_true_eq] at h h'
    have ih := map_ofNat_eq h.2 h'.2
    have e : (UInt8.ofNat a == UInt8.ofNat b) = (a == b) :=
      Bool.eq_iff_iff.2 (by rw [beq_iff_eq, beq_iff_eq]; exact ⟨fun e => ofNat_inj h.1 h'.1 e, fun e => by rw [e]⟩)
    simp only [List.map_cons, List.cons_beq_cons, e, ih]
theorem bytesLess_map : ∀ {l m : List Nat}, l.all (· < 256) = true → m.all (· < 256) = true → Op.bytesLess (l.map UInt8.ofNat) (m.map UInt8.ofNat) = ltL l m
  | l, [], _, _ => by cases l <;> rfl
  | [], _ :: _, _, _ => rfl
  | a :: l, b :: m, h, h' => by
    simp only [List.all_cons, Bool.and_eq_true, decide_eq_true_eq] at h h'
    have ih := bytesLess_map h.2 h'.2
    have e : (UInt8.ofNat a == UInt8.ofNat b) = (a == b) :=
      Bool.eq_iff_iff.2 (by rw [beq_iff_eq, beq_iff_eq]; exact ⟨fun e => ofNat_inj h.1 h'.1 e, fun e => by rw [e]⟩)
    have e2 : decide (UInt8.ofNat a < UInt8.ofNat b) = decide (a < b) := by
      rw [decide_eq_decide, UInt8.lt_iff_toNat_lt]
      simp; omega
    rw [List.map_cons, List.map_cons, Op.bytesLess, ltL, ih, e, e2]
end Go.Ev
end
/- The evaluator's operations are the model's: two operands. -/
section
set_option linter.unusedVariables false
set_option linter.unusedSectionVars false
set_option linter.unusedSimpArgs false
namespace Go.Ev
variable [Sg]
open Go.RowKit
variable {P : Program}

def BinHolds (P : Program) (op : BinOp) (t : TypeId) (x y : AV) (v : AV) : Prop :=
  ∀ β X Y a b w, con β x = some a → con β y = some b → ∃ u, (binSem op t X Y a b).run P w = .ok u w ∧ con β v = some u
theorem BinHolds.op {op : BinOp} {t : TypeId} {x y v : AV} (H : BinHolds P op t x y v) {X Y : Operand} {yt : TypeId} {o : Oper} (ho : o.op = .binOp op t X Y yt) (h : Hp) : OpHolds P o [x, y] h v h := by
  refine .pure fun β w a hx => ?_
  rw [ho] at hx
  obtain ⟨hx, hy⟩ := conL2 hx
  obtain ⟨u, h1, h2⟩ := H β X Y _ _ w hx hy
  exact ⟨u, exec_bin op t X Y yt o ho a w h1, h2⟩
theorem bin_int (op : BinOp) (t : TypeId) (X Y : Operand) (k : IntKind) (a b : Int) (w : World) (h1 : op ≠ .shl) (h2 : op ≠ .shr) : (binSem op t X Y (.int k a) (.int k b)).run P w =
    (match op with
    | .add | .sub | .mul => Op.intArith op k a b
    | .quo | .rem => Op.intDiv op k a b
    | .and | .or | .xor | .andNot => Op.intBits op k a b
    | _ => Op.intCmp op a b).run P w := by
  cases op <;> first | exact absurd rfl h1 | exact absurd rfl h2 | (simp [binSem, eqGuard, Go.binOp])
theorem bin_str (op : BinOp) (t : TypeId) (X Y : Operand) (a b : ByteArray) (w : World) : (binSem op t X Y (.string a) (.string b)).run P w = (Op.stringOp op a b).run P w := by
  cases op <;> simp [binSem, eqGuard, Go.binOp]
theorem bool_eq_nat (a b : Nat) : (((a : Int) == (b : Int))) = Nat.beq a b := by
  rw [Bool.eq_iff_iff, beq_iff_eq, Nat.beq_eq]; omega
theorem strK_add {n : Nat} {l : List Nat} {m : Nat} {r : List Nat} {k : AV → Ans} (t : TypeId) (h : strK .add n l m r k = .yes) : ∃ v, k v = .yes ∧ BinHolds P .add t (.str n l) (.str m r) v := by
  unfold strK at h
  rw [fNat_eq] at h
  obtain ⟨h1, h⟩ := cnd_yes h
  rw [catN_eq] at h
  refine ⟨_, h, fun β X Y a b w ha hb => ?_⟩
  obtain ⟨rfl, h2, h3⟩ := con_str_inv ha
  obtain ⟨rfl, h4, h5⟩ := con_str_inv hb
  have h1' : n + m < 9223372036854775808 := by simpa using h1
  refine ⟨.string (bytesOf l ++ bytesOf r), ?_, ?_⟩
  · rw [bin_str]
    unfold Op.stringOp
    simp only [bytesOf_size]
    rw [if_neg (by simp [IntKind.max, IntKind.bits, IntKind.signed]; omega)]
    rfl
  · rw [bytesOf_append]
    exact con_str_mk (by simp; omega) (by rw [List.all_append, h3, h5]; rfl)
theorem gen2_yes {op : BinOp} {t : TypeId} {x y : AV} {h : Hp} {k : AK} (H : gen2 P op t x y h k = .yes) : ∃ v, k v h = .yes ∧ BinHolds P op t x y v := by
  obtain ⟨v, h1, h2⟩ := genK_yes H
  exact ⟨v, h1, fun β X Y a b w ha hb => h2 β X Y a b w ha hb⟩
theorem con_nat {β : Bt} {n : Nat} {v : Value} (h : con β (.nat n) = some v) : v = .int .i64 n := by simp only [con] at h; injection h with h; exact h.symm
theorem con_u8 {β : Bt} {n : Nat} {v : Value} (h : con β (.u8 n) = some v) : v = .int .u8 n := by simp only [con] at h; injection h with h; exact h.symm
theorem addK_yes {t : TypeId} {x y : AV} {h : Hp} {k : AK} (H : addK P t x y h k = .yes) : ∃ v, k v h = .yes ∧ BinHolds P .add t x y v := by
  unfold addK at H
  rcases cas_yes H with ⟨a, rfl, G⟩ | ⟨a, rfl, G⟩ | ⟨n, l, rfl, G⟩ | G
  · skip
    rcases cas_yes G with ⟨b, rfl, H⟩ | ⟨b, rfl, H⟩ | ⟨n, l, rfl, H⟩ | H
    · simp only [fNat_eq] at H
      obtain ⟨h1, H⟩ := cnd_yes H
      have h1' : a + b < 9223372036854775808 := by simpa [two63] using h1
      refine ⟨_, H, fun β X Y u v w hu hv => ?_⟩
      rw [con_nat hu, con_nat hv, bin_int _ _ _ _ _ _ _ _ (by decide) (by decide)]
      refine ⟨.int .i64 ((a + b : Nat) : Int), ?_, rfl⟩
      simp only [Op.intArith, Sem.run_pure]
      rw [show ((a : Int) + (b : Int)) = ((a + b : Nat) : Int) by omega, i64_lit h1']
    · cases H
    · cases H
    · exact gen2_yes H
  · exact gen2_yes G
  · skip
    rcases cas_yes G with ⟨b, rfl, H⟩ | ⟨b, rfl, H⟩ | ⟨m, r, rfl, H⟩ | H
    · cases H
    · cases H
    · exact strK_add (k := fun v => k v h) t H
    · cases H
  · exact gen2_yes G
theorem subK_yes {t : TypeId} {x y : AV} {h : Hp} {k : AK} (H : subK P t x y h k = .yes) : ∃ v, k v h = .yes ∧ BinHolds P .sub t x y v := by
  unfold subK at H
  rcases cas_yes H with ⟨a, rfl, G⟩ | ⟨a, rfl, G⟩ | ⟨n, l, rfl, G⟩ | G
  · skip
    rcases cas_yes G with ⟨b, rfl, H⟩ | ⟨b, rfl, H⟩ | ⟨n, l, rfl, H⟩ | H
    · simp only [cnd_eq (Nat.ble b a)] at H
      split at H
      · rename_i hb
        have hb' : b ≤ a := by simpa using hb
        simp only [fNat_eq] at H
        obtain ⟨h1, H⟩ := cnd_yes H
        have hs : a - b < 9223372036854775808 := by simpa [two63] using h1
        refine ⟨_, H, fun β X Y u v w hu hv => ?_⟩
        rw [con_nat hu, con_nat hv, bin_int _ _ _ _ _ _ _ _ (by decide) (by decide)]
        refine ⟨.int .i64 ((a - b : Nat) : Int), ?_, rfl⟩
        simp only [Op.intArith, Sem.run_pure]
        rw [show ((a : Int) - (b : Int)) = ((a - b : Nat) : Int) by omega, i64_lit hs]
      · exact gen2_yes H
    · cases H
    · cases H
    · exact gen2_yes H
  · exact gen2_yes G
  · cases G
  · exact gen2_yes G
theorem mulK_yes {t : TypeId} {x y : AV} {h : Hp} {k : AK} (H : mulK P t x y h k = .yes) : ∃ v, k v h = .yes ∧ BinHolds P .mul t x y v := by
  unfold mulK at H
  rcases cas_yes H with ⟨a, rfl, G⟩ | ⟨a, rfl, G⟩ | ⟨n, l, rfl, G⟩ | G
  · skip
    rcases cas_yes G with ⟨b, rfl, H⟩ | ⟨b, rfl, H⟩ | ⟨n, l, rfl, H⟩ | H
    · simp only [fNat_eq] at H
      obtain ⟨h1, H⟩ := cnd_yes H
      have h1' : a * b < 9223372036854775808 := by simpa [two63] using h1
      refine ⟨_, H, fun β X Y u v w hu hv => ?_⟩
      rw [con_nat hu, con_nat hv, bin_int _ _ _ _ _ _ _ _ (by decide) (by decide)]
      refine ⟨.int .i64 ((a * b : Nat) : Int), ?_, rfl⟩
      simp only [Op.intArith, Sem.run_pure]
      rw [show ((a : Int) * (b : Int)) = ((a * b : Nat) : Int) by simp, i64_lit h1']
    · cases H
    · cases H
    · exact gen2_yes H
  · exact gen2_yes G
  · cases G
  · exact gen2_yes G
def CmpHolds (P : Program) (op : BinOp) (t : TypeId) (x y : AV) (r : Bool) : Prop :=
  ∀ β X Y a b w, con β x = some a → con β y = some b → (binSem op t X Y a b).run P w = .ok (.bool r) w
theorem CmpHolds.bin {op : BinOp} {t : TypeId} {x y : AV} {r : Bool} (H : CmpHolds P op t x y r) : BinHolds P op t x y (.bool r) :=
  fun β X Y a b w ha hb => ⟨_, H β X Y a b w ha hb, rfl⟩
theorem cmpK_yes {num : Nat → Nat → Bool} {str : List Nat → List Nat → (Bool → Ans) → Ans} {strB : List Nat → List Nat → Bool} (hs : ∀ l m k, str l m k = k (strB l m)) {other : (Bool → Ans) → Ans} {x y : AV} {k : Bool → Ans} (H : cmpK num str other x y k = .yes) :
    (∃ a b, x = .nat a ∧ y = .nat b ∧ k (num a b) = .yes) ∨ (∃ a b, x = .u8 a ∧ y = .u8 b ∧ k (num a b) = .yes) ∨ (∃ n l m r, x = .str n l ∧ y = .str m r ∧ k (strB l r) = .yes) ∨ other k = .yes := by
  unfold cmpK at H
  rcases cas_yes H with ⟨a, rfl, G⟩ | ⟨a, rfl, G⟩ | ⟨n, l, rfl, G⟩ | G
  · skip
    rcases cas_yes G with ⟨b, rfl, H⟩ | ⟨b, rfl, H⟩ | ⟨n, l, rfl, H⟩ | H
    · exact .inl ⟨a, b, rfl, rfl, H⟩
    · cases H
    · cases H
    · exact .inr (.inr (.inr H))
  · skip
    rcases cas_yes G with ⟨b, rfl, H⟩ | ⟨b, rfl, H⟩ | ⟨n, l, rfl, H⟩ | H
    · cases H
    · exact .inr (.inl ⟨a, b, rfl, rfl, H⟩)
    · cases H
    · exact .inr (.inr (.inr H))
  · skip
    rcases cas_yes G with ⟨b, rfl, H⟩ | ⟨b, rfl, H⟩ | ⟨m, r, rfl, H⟩ | H
    · cases H
    · cases H
    · simp only [hs] at H; exact .inr (.inr (.inl ⟨n, l, m, r, rfl, rfl, H⟩))
    · cases H
  · exact .inr (.inr (.inr G))
theorem boolTo_eq (h : Hp) (k : AK) (b : Bool) : boolTo h k b = k (.bool b) h := by cases b <;> rfl
theorem notTo_eq (h : Hp) (k : AK) (b : Bool) : notTo h k b = k (.bool !b) h := by cases b <;> rfl
theorem cmp_nat {op : BinOp} {t : TypeId} {a b : Nat} {q : IntKind} {r : Bool} (h1 : op ≠ .shl) (h2 : op ≠ .shr) (h : ∀ w, (match op with
    | .add | .sub | .mul => Op.intArith op q a b
    | .quo | .rem => Op.intDiv op q a b
    | .and | .or | .xor | .andNot => Op.intBits op q a b
    | _ => Op.intCmp op a b).run P w = .ok (.bool r) w) {x y : AV} (hx : ∀ β v, con β x = some v → v = .int q a) (hy : ∀ β v, con β y = some v → v = .int q b) : CmpHolds P op t x y r := by
  intro β X Y u v w hu hv
  rw [hx β u hu, hy β v hv, bin_int _ _ _ _ _ _ _ _ h1 h2]
  exact h w
theorem cmp_str {op : BinOp} {t : TypeId} {n m : Nat} {l r : List Nat} {b : Bool} (h : l.all (· < 256) = true → r.all (· < 256) = true → ∀ w, (Op.stringOp op (bytesOf l) (bytesOf r)).run P w = .ok (.bool b) w) : CmpHolds P op t (.str n l) (.str m r) b := by
  intro β X Y u v w hu hv
  obtain ⟨rfl, -, h3⟩ := con_str_inv hu
  obtain ⟨rfl, -, h5⟩ := con_str_inv hv
  rw [bin_str]
  exact h h3 h5 w
theorem genB_cmp {op : BinOp} {t : TypeId} {x y : AV} {k : Bool → Ans} (h : genB P op t x y k = .yes) : ∃ r, k r = .yes ∧ CmpHolds P op t x y r := by
  obtain ⟨r, h1, h2⟩ := genB_yes h
  exact ⟨r, h1, fun β X Y a b w ha hb => h2 β X Y a b w ha hb⟩
theorem lss_nat (a b : Nat) : decide ((a : Int) < (b : Int)) = Nat.blt a b := by
  rw [Bool.eq_iff_iff, decide_eq_true_eq, Nat.blt_eq]; omega
theorem con_raw {β : Bt} {u v : Value} (h : con β (.raw u) = some v) : v = u ∧ u.oneCell' = true := by
  unfold con at h
  split at h
  · rename_i hc; injection h with h; exact ⟨h.symm, hc⟩
  · cases h
theorem con_ptr {β : Bt} {b off : Nat} {v : Value} (h : con β (.ptr b off) = some v) : ∃ c κ, β b = some (c, κ) ∧ v = .pointer (some ⟨c, off, none⟩) := by
  simp only [con, Option.map_eq_some_iff] at h
  obtain ⟨⟨c, κ⟩, h1, h2⟩ := h
  exact ⟨c, κ, h1, h2.symm⟩
theorem con_slice' {β : Bt} {b off n d : Nat} {ex : Bool} {v : Value} (h : con β (.slice b off n ex d) = some v) : ∃ c κ, β b = some (c, κ) ∧ v = .slice (some ⟨c, off, none⟩) n (if ex = true then d else κ - d) ∧ (ex = true ∨ d + n ≤ κ) := by
  simp only [con, Option.bind_eq_some_iff] at h
  obtain ⟨⟨c, κ⟩, h1, h2⟩ := h
  split at h2
  · rename_i hc; injection h2 with h2; exact ⟨c, κ, h1, h2.symm, hc⟩
  · cases h2
theorem con_slice {β : Bt} {b off n d : Nat} {ex : Bool} {v : Value} (h : con β (.slice b off n ex d) = some v) : ∃ c κ, β b = some (c, κ) ∧ v = .slice (some ⟨c, off, none⟩) n (if ex = true then d else κ - d) := by
  obtain ⟨c, κ, h1, h2, -⟩ := con_slice' h
  exact ⟨c, κ, h1, h2⟩
theorem con_slice_mk {β : Bt} {b off n d c κ : Nat} {ex : Bool} (h : β b = some (c, κ)) (h2 : ex = true ∨ d + n ≤ κ) : con β (.slice b off n ex d) = some (.slice (some ⟨c, off, none⟩) n (if ex = true then d else κ - d)) := by
  simp only [con, h, Option.bind_some]; rw [if_pos h2]
theorem con_map {β : Bt} {b : Nat} {v : Value} (h : con β (.map b) = some v) : ∃ c κ, β b = some (c, κ) ∧ v = .map (some c) := by
  simp only [con, Option.map_eq_some_iff] at h
  obtain ⟨⟨c, κ⟩, h1, h2⟩ := h
  exact ⟨c, κ, h1, h2.symm⟩
theorem con_agg {β : Bt} {l : List AV} {v : Value} (h : con β (.agg l) = some v) : ∃ vs, conL β l = some vs ∧ v = .agg vs.toArray ∧ ∀ u ∈ vs, u.oneCell' = true := by
  simp only [con, Option.bind_eq_some_iff] at h
  obtain ⟨vs, h1, h2⟩ := h
  split at h2
  · rename_i hc; injection h2 with h2; exact ⟨vs, h1, h2.symm, List.all_eq_true.1 hc⟩
  · cases h2
theorem con_agg_mk {β : Bt} {l : List AV} {vs : List Value} (h : conL β l = some vs) (h1 : ∀ u ∈ vs, u.oneCell' = true) : con β (.agg l) = some (.agg vs.toArray) := by
  simp only [con, h, Option.bind_some]; rw [if_pos (List.all_eq_true.2 h1)]
theorem con_tup {β : Bt} {l : List AV} {v : Value} (h : con β (.tup l) = some v) : ∃ vs, conL β l = some vs ∧ v = .tuple vs.toArray := by
  simp only [con, Option.map_eq_some_iff] at h
  obtain ⟨vs, h1, h2⟩ := h
  exact ⟨vs, h1, h2.symm⟩
theorem con_fn {β : Bt} {f : Fn} {a b : List AV} {v : Value} (h : con β (.fn f a b) = some v) : ∃ x y, conL β a = some x ∧ conL β b = some y ∧ v = .func f x.toArray y.toArray := by
  simp only [con, Option.bind_eq_some_iff, Option.map_eq_some_iff] at h
  obtain ⟨x, hx, y, hy, hv⟩ := h
  exact ⟨x, y, hx, hy, hv.symm⟩
theorem con_iface {β : Bt} {t : TypeId} {x : AV} {v : Value} (h : con β (.iface t x) = some v) : ∃ u, con β x = some u ∧ v = .iface t u := by
  simp only [con, Option.map_eq_some_iff] at h
  obtain ⟨u, hu, hv⟩ := h
  exact ⟨u, hu, hv.symm⟩
theorem con_bool {β : Bt} {b : Bool} {v : Value} (h : con β (.bool b) = some v) : v = .bool b := by simp only [con] at h; injection h with h; exact h.symm
theorem con_int {β : Bt} {q : IntKind} {z : Int} {v : Value} (h : con β (.int q z) = some v) : v = .int q z := by simp only [con] at h; injection h with h; exact h.symm
def NilV (q : Nat) (r : Bool) (v : Value) : Prop :=
  (q = 0 ∧ r = true ∧ v = .pointer none) ∨ (q = 1 ∧ r = true ∧ ∃ n c, v = .slice none n c) ∨ (q = 2 ∧ r = true ∧ v = .map none) ∨ (q = 3 ∧ r = true ∧ v = .nilFunc) ∨
  (q = 0 ∧ r = false ∧ ∃ a, v = .pointer (some a)) ∨ (q = 1 ∧ r = false ∧ ∃ a n c, v = .slice (some a) n c) ∨ (q = 2 ∧ r = false ∧ ∃ m, v = .map (some m)) ∨ (q = 3 ∧ r = false ∧ ∃ f x y, v = .func f x y)
theorem isNil_yes {x : AV} {k : Nat → Bool → Ans} (h : isNil x k = .yes) : ∃ q r, k q r = .yes ∧ ∀ β v, con β x = some v → NilV q r v := by
  unfold isNil at h
  split at h
  all_goals (first | cases h | skip)
  all_goals (refine ⟨_, _, h, fun β v hv => ?_⟩)
  · rw [(con_raw hv).1]; simp [NilV]
  · rw [(con_raw hv).1]; simp [NilV]
  · rw [(con_raw hv).1]; simp [NilV]
  · rw [(con_raw hv).1]; simp [NilV]
  · obtain ⟨c, κ, _, rfl⟩ := con_ptr hv; simp [NilV]
  · obtain ⟨c, κ, _, rfl⟩ := con_slice hv; simp [NilV]
  · obtain ⟨c, κ, _, rfl⟩ := con_map hv; simp [NilV]
  · obtain ⟨a, b, _, _, rfl⟩ := con_fn hv; simp [NilV]
theorem nilOf_yes {q : Nat} {x y : AV} {k : Bool → Ans} (h : nilOf q x y k = .yes) : ∃ r, k r = .yes ∧ ∀ β a b, con β x = some a → con β y = some b → ∃ r1 r2, NilV q r1 a ∧ NilV q r2 b ∧ (r1 = true ∨ r2 = true) ∧ r = (r1 && r2) := by
  unfold nilOf at h
  obtain ⟨i, r1, g1, h1⟩ := isNil_yes h
  obtain ⟨j, r2, g2, h2⟩ := isNil_yes g1
  obtain ⟨h3, g3⟩ := cnd_yes g2
  obtain ⟨h4, g4⟩ := cnd_yes g3
  have e3 := Nat.eq_of_beq_eq_true h3
  have e4 := Nat.eq_of_beq_eq_true h4
  rw [e3] at h1
  rw [e4] at h2
  cases r1 with
  | true => exact ⟨r2, g4, fun β a b ha hb => ⟨true, r2, h1 β a ha, h2 β b hb, .inl rfl, by simp⟩⟩
  | false =>
    cases r2 with
    | false => cases g4
    | true => exact ⟨false, g4, fun β a b ha hb => ⟨false, true, h1 β a ha, h2 β b hb, .inr rfl, rfl⟩⟩
theorem run_eql {t : TypeId} {X Y : Operand} {a b : Value} {w : World} {r : Bool} (h1 : ∀ u, eqGuard .eql t X Y a b = u → u = Pure.pure ()) (h2 : Go.binOp .eql t a b = (do pure (.bool (← Op.equal t a b)))) (h : (Op.equalIn (9999 + 1) t a b).run P w = .ok r w) :
    (binSem .eql t X Y a b).run P w = .ok (.bool r) w := by
  have e : (Op.equal t a b).run P w = .ok r w := h
  unfold binSem
  rw [h1 _ rfl, h2]
  simp only [Sem.run_bind, Sem.run_pure, Result.andThen_ok, e]
theorem run_neq {t : TypeId} {X Y : Operand} {a b : Value} {w : World} {r : Bool} (h1 : ∀ u, eqGuard .neq t X Y a b = u → u = Pure.pure ()) (h2 : Go.binOp .neq t a b = (do pure (.bool (!(← Op.equal t a b))))) (h : (Op.equalIn (9999 + 1) t a b).run P w = .ok r w) :
    (binSem .neq t X Y a b).run P w = .ok (.bool (!r)) w := by
  have e : (Op.equal t a b).run P w = .ok r w := h
  unfold binSem
  rw [h1 _ rfl, h2]
  simp only [Sem.run_bind, Sem.run_pure, Result.andThen_ok, e]
theorem nilEq_yes {t : TypeId} {x y : AV} {k : Bool → Ans} (h : nilEq P t x y k = .yes) : ∃ r, k r = .yes ∧ CmpHolds P .eql t x y r ∧ CmpHolds P .neq t x y (!r) := by
  have key : ∀ q (d : TypeDesc), P.underlying t = some d → (q = 0 ∧ (∃ e, d = .pointer e) ∨ q = 1 ∧ (∃ e, d = .slice e) ∨ q = 2 ∧ (∃ e f, d = .map e f) ∨ q = 3 ∧ (∃ a b c, d = .func a b c)) → nilOf q x y k = .yes →
      ∃ r, k r = .yes ∧ CmpHolds P .eql t x y r ∧ CmpHolds P .neq t x y (!r) := by
    intro q d hd hq h
    obtain ⟨r, h1, h2⟩ := nilOf_yes h
    have go : ∀ β X Y a b w, con β x = some a → con β y = some b → (binSem .eql t X Y a b).run P w = .ok (.bool r) w ∧ (binSem .neq t X Y a b).run P w = .ok (.bool (!r)) w := by
      intro β X Y a b w ha hb
      obtain ⟨r1, r2, n1, n2, hor, rfl⟩ := h2 β a b ha hb
      have hu := run_underlying hd w
      rcases hq with ⟨rfl, e, rfl⟩ | ⟨rfl, e, rfl⟩ | ⟨rfl, e, f, rfl⟩ | ⟨rfl, e, f, g, rfl⟩
      · rcases n1 with ⟨-, rfl, rfl⟩ | ⟨h, -⟩ | ⟨h, -⟩ | ⟨h, -⟩ | ⟨-, rfl, z, rfl⟩ | ⟨h, -⟩ | ⟨h, -⟩ | ⟨h, -⟩ <;> first | omega | skip
        all_goals (rcases n2 with ⟨-, rfl, rfl⟩ | ⟨h, -⟩ | ⟨h, -⟩ | ⟨h, -⟩ | ⟨-, rfl, z2, rfl⟩ | ⟨h, -⟩ | ⟨h, -⟩ | ⟨h, -⟩ <;> first | omega | skip)
        all_goals (first | (simp at hor; done) | (refine ⟨run_eql (fun u h => h.symm) rfl ?_, run_neq (fun u h => h.symm) rfl ?_⟩ <;> (rw [Op.equalIn]; simp only [Sem.run_bind, hu, Result.andThen_ok]; rfl)))
      · rcases n1 with ⟨h, -⟩ | ⟨-, rfl, m, c, rfl⟩ | ⟨h, -⟩ | ⟨h, -⟩ | ⟨h, -⟩ | ⟨-, rfl, z, m, c, rfl⟩ | ⟨h, -⟩ | ⟨h, -⟩ <;> first | omega | skip
        all_goals (rcases n2 with ⟨h, -⟩ | ⟨-, rfl, m2, c2, rfl⟩ | ⟨h, -⟩ | ⟨h, -⟩ | ⟨h, -⟩ | ⟨-, rfl, z2, m2, c2, rfl⟩ | ⟨h, -⟩ | ⟨h, -⟩ <;> first | omega | skip)
        all_goals (first | (simp at hor; done) | (refine ⟨run_eql (fun u h => h.symm) rfl ?_, run_neq (fun u h => h.symm) rfl ?_⟩ <;> (rw [Op.equalIn]; simp only [Sem.run_bind, hu, Result.andThen_ok]; rfl)))
      · rcases n1 with ⟨h, -⟩ | ⟨h, -⟩ | ⟨-, rfl, rfl⟩ | ⟨h, -⟩ | ⟨h, -⟩ | ⟨h, -⟩ | ⟨-, rfl, z, rfl⟩ | ⟨h, -⟩ <;> first | omega | skip
        all_goals (rcases n2 with ⟨h, -⟩ | ⟨h, -⟩ | ⟨-, rfl, rfl⟩ | ⟨h, -⟩ | ⟨h, -⟩ | ⟨h, -⟩ | ⟨-, rfl, z2, rfl⟩ | ⟨h, -⟩ <;> first | omega | skip)
        all_goals (first | (simp at hor; done) | (refine ⟨run_eql (fun u h => h.symm) rfl ?_, run_neq (fun u h => h.symm) rfl ?_⟩ <;> (rw [Op.equalIn]; simp only [Sem.run_bind, hu, Result.andThen_ok]; rfl)))
      · rcases n1 with ⟨h, -⟩ | ⟨h, -⟩ | ⟨h, -⟩ | ⟨-, rfl, rfl⟩ | ⟨h, -⟩ | ⟨h, -⟩ | ⟨h, -⟩ | ⟨-, rfl, z, m, c, rfl⟩ <;> first | omega | skip
        all_goals (rcases n2 with ⟨h, -⟩ | ⟨h, -⟩ | ⟨h, -⟩ | ⟨-, rfl, rfl⟩ | ⟨h, -⟩ | ⟨h, -⟩ | ⟨h, -⟩ | ⟨-, rfl, z2, m2, c2, rfl⟩ <;> first | omega | skip)
        all_goals (first | (simp at hor; done) | (refine ⟨run_eql (fun u h => h.symm) rfl ?_, run_neq (fun u h => h.symm) rfl ?_⟩ <;> (rw [Op.equalIn]; simp only [Sem.run_bind, hu, Result.andThen_ok]; rfl)))
    exact ⟨r, h1, fun β X Y a b w ha hb => (go β X Y a b w ha hb).1, fun β X Y a b w ha hb => (go β X Y a b w ha hb).2⟩
  unfold nilEq at h
  split at h
  · rename_i e hd; exact key 0 _ hd (.inl ⟨rfl, e, rfl⟩) h
  · rename_i e hd; exact key 1 _ hd (.inr (.inl ⟨rfl, e, rfl⟩)) h
  · rename_i e f hd; exact key 2 _ hd (.inr (.inr (.inl ⟨rfl, e, f, rfl⟩))) h
  · rename_i e f g hd; exact key 3 _ hd (.inr (.inr (.inr ⟨rfl, e, f, g, rfl⟩))) h
  · cases h
theorem eqAll_yes {t : TypeId} {x y : AV} {k : Bool → Ans} {gen : Ans} (h : eqAll P t x y k gen = .yes) : (∃ r, k r = .yes ∧ CmpHolds P .eql t x y r ∧ CmpHolds P .neq t x y (!r)) ∨ gen = .yes := by
  unfold eqAll at h
  split at h
  · rename_i a b
    obtain ⟨h1, h⟩ := cnd_yes h
    rw [fBool_eq] at h
    unfold eqAll.knownBool at h1
    split at h1
    · rename_i hd
      left
      refine ⟨_, h, fun β X Y u v w hu hv => ?_, fun β X Y u v w hu hv => ?_⟩
      · rw [con_bool hu, con_bool hv]; exact run_eql (fun u h => h.symm) rfl (by rw [Op.equalIn]; simp only [Sem.run_bind, run_underlying hd, Result.andThen_ok]; rfl)
      · rw [con_bool hu, con_bool hv]; exact run_neq (fun u h => h.symm) rfl (by rw [Op.equalIn]; simp only [Sem.run_bind, run_underlying hd, Result.andThen_ok]; rfl)
    · cases h1
  · exact .inr h
  · exact .inr h
  · exact .inr h
  · exact .inr h
  · exact .inr h
  · rename_i b o b' o'
    obtain ⟨h1, g1⟩ := cnd_yes h
    obtain ⟨h2, g2⟩ := cnd_yes g1
    obtain ⟨h3, g3⟩ := cnd_yes g2
    clear h g1 g2
    obtain rfl := Nat.eq_of_beq_eq_true h1
    obtain rfl := Nat.eq_of_beq_eq_true h2
    unfold ptrB at h3
    split at h3
    · rename_i e hd
      obtain ⟨j, hj⟩ := Option.isSome_iff_exists.1 h3
      have key : ∀ (d : Nat) (a : Addr) (w : World), (Op.equalIn (d + 1) t (.pointer (some a)) (.pointer (some a))).run P w = .ok true w := fun d a w => by
        simp [Op.equalIn, run_underlying hd, sizeOf, typeInfo, hj, run_sameAddr_same]
      left
      refine ⟨_, g3, fun β X Y u v w hu hv => ?_, fun β X Y u v w hu hv => ?_⟩
      · rw [hu] at hv; injection hv with hv; subst hv
        obtain ⟨c, κ, -, rfl⟩ := con_ptr hu
        exact run_eql (fun u h => h.symm) rfl (key 9999 _ w)
      · rw [hu] at hv; injection hv with hv; subst hv
        obtain ⟨c, κ, -, rfl⟩ := con_ptr hu
        exact run_neq (fun u h => h.symm) rfl (key 9999 _ w)
    · cases h3
  · exact .inl (nilEq_yes h)
theorem ltL_tri : ∀ (l m : List Nat), ltL m l = !(ltL l m || l == m)
  | [], [] => rfl
  | [], _ :: _ => rfl
  | _ :: _, [] => rfl
  | a :: l, b :: m => by
    rw [ltL, ltL, ltL_tri l m, List.cons_beq_cons]
    by_cases h1 : a < b
    · have h2 : ¬ b < a := by omega
      have h3 : (b == a) = false := by simp; omega
      simp [h1, h2, h3]
    · by_cases h2 : b < a
      · have h3 : (a == b) = false := by simp; omega
        simp [h1, h2, h3]
      · obtain rfl : a = b := by omega
        simp
theorem binC_sound (op : BinOp) (t : TypeId) {o : Oper} {X Y : Operand} {yt : TypeId} (ho : o.op = .binOp op t X Y yt) :
    ∃ f, binC P op t = .c2 f ∧ ∀ x y h k, f x y h k = .yes → ∃ v h', k v h' = .yes ∧ OpHolds P o [x, y] h v h' ∧ Quiet P o [x, y] h v h' := by
  have bh : ∀ {x y : AV} {h : Hp} {k : AK}, (∃ v, k v h = .yes ∧ BinHolds P op t x y v) → ∃ v h', k v h' = .yes ∧ OpHolds P o [x, y] h v h' ∧ Quiet P o [x, y] h v h' :=
    fun ⟨v, h1, h2⟩ => ⟨v, _, h1, h2.op ho _, fun _ => ⟨rfl, fun h3 => h2.op ho h3⟩⟩
  have lt63 : ∀ (a b : Nat), ((a : Int) < (b : Int)) = (a < b) := fun a b => propext (by omega)
  cases op
  case add => exact ⟨_, rfl, fun x y h k H => bh (addK_yes H)⟩
  case sub => exact ⟨_, rfl, fun x y h k H => bh (subK_yes H)⟩
  case mul => exact ⟨_, rfl, fun x y h k H => bh (mulK_yes H)⟩
  case eql =>
    refine ⟨_, rfl, fun x y h k H => bh ?_⟩
    rcases cmpK_yes eqNat_eq H with ⟨a, b, rfl, rfl, G⟩ | ⟨a, b, rfl, rfl, G⟩ | ⟨n, l, m, r, rfl, rfl, G⟩ | G
    · rw [boolTo_eq] at G
      exact ⟨_, G, (cmp_nat (q := .i64) (by decide) (by decide) (fun w => by simp only [Op.intCmp, bool_eq_nat]; rfl) (fun β v e => con_nat e) (fun β v e => con_nat e)).bin⟩
    · rw [boolTo_eq] at G
      exact ⟨_, G, (cmp_nat (q := .u8) (by decide) (by decide) (fun w => by simp only [Op.intCmp, bool_eq_nat]; rfl) (fun β v e => con_u8 e) (fun β v e => con_u8 e)).bin⟩
    · rw [boolTo_eq] at G
      exact ⟨_, G, (cmp_str (fun a b w => by simp only [Op.stringOp, bytesOf_toList, map_ofNat_eq a b]; rfl)).bin⟩
    · rcases eqAll_yes G with ⟨r, G, c1, c2⟩ | G
      · rw [boolTo_eq] at G; exact ⟨_, G, c1.bin⟩
      · obtain ⟨r, G, c1⟩ := genB_cmp G
        rw [boolTo_eq] at G; exact ⟨_, G, c1.bin⟩
  case neq =>
    refine ⟨_, rfl, fun x y h k H => bh ?_⟩
    rcases cmpK_yes eqNat_eq H with ⟨a, b, rfl, rfl, G⟩ | ⟨a, b, rfl, rfl, G⟩ | ⟨n, l, m, r, rfl, rfl, G⟩ | G
    · rw [notTo_eq] at G
      exact ⟨_, G, (cmp_nat (q := .i64) (by decide) (by decide) (fun w => by simp only [Op.intCmp, bne, bool_eq_nat]; rfl) (fun β v e => con_nat e) (fun β v e => con_nat e)).bin⟩
    · rw [notTo_eq] at G
      exact ⟨_, G, (cmp_nat (q := .u8) (by decide) (by decide) (fun w => by simp only [Op.intCmp, bne, bool_eq_nat]; rfl) (fun β v e => con_u8 e) (fun β v e => con_u8 e)).bin⟩
    · rw [notTo_eq] at G
      exact ⟨_, G, (cmp_str (fun a b w => by simp only [Op.stringOp, bytesOf_toList, map_ofNat_eq a b]; rfl)).bin⟩
    · rcases eqAll_yes G with ⟨r, G, c1, c2⟩ | G
      · rw [notTo_eq] at G; exact ⟨_, G, c2.bin⟩
      · obtain ⟨r, G, c1⟩ := genB_cmp G
        rw [fBool_eq, notTo_eq, Bool.not_not] at G; exact ⟨_, G, c1.bin⟩
  case lss =>
    refine ⟨_, rfl, fun x y h k H => bh ?_⟩
    rcases cmpK_yes ltNat_eq H with ⟨a, b, rfl, rfl, G⟩ | ⟨a, b, rfl, rfl, G⟩ | ⟨n, l, m, r, rfl, rfl, G⟩ | G
    · rw [boolTo_eq] at G
      exact ⟨_, G, (cmp_nat (q := .i64) (by decide) (by decide) (fun w => by simp only [Op.intCmp, lss_nat]; rfl) (fun β v e => con_nat e) (fun β v e => con_nat e)).bin⟩
    · rw [boolTo_eq] at G
      exact ⟨_, G, (cmp_nat (q := .u8) (by decide) (by decide) (fun w => by simp only [Op.intCmp, lss_nat]; rfl) (fun β v e => con_u8 e) (fun β v e => con_u8 e)).bin⟩
    · rw [boolTo_eq] at G
      exact ⟨_, G, (cmp_str (fun a b w => by simp only [Op.stringOp, bytesOf_toList, bytesLess_map a b]; rfl)).bin⟩
    · obtain ⟨r, G, c1⟩ := genB_cmp G
      rw [boolTo_eq] at G; exact ⟨_, G, c1.bin⟩
  case geq =>
    refine ⟨_, rfl, fun x y h k H => bh ?_⟩
    have ge : ∀ a b : Nat, decide ((a : Int) ≥ (b : Int)) = !Nat.blt a b := fun a b => by rw [← lss_nat, ← decide_not, decide_eq_decide]; omega
    rcases cmpK_yes ltNat_eq H with ⟨a, b, rfl, rfl, G⟩ | ⟨a, b, rfl, rfl, G⟩ | ⟨n, l, m, r, rfl, rfl, G⟩ | G
    · rw [notTo_eq] at G
      exact ⟨_, G, (cmp_nat (q := .i64) (by decide) (by decide) (fun w => by simp only [Op.intCmp, ge]; rfl) (fun β v e => con_nat e) (fun β v e => con_nat e)).bin⟩
    · rw [notTo_eq] at G
      exact ⟨_, G, (cmp_nat (q := .u8) (by decide) (by decide) (fun w => by simp only [Op.intCmp, ge]; rfl) (fun β v e => con_u8 e) (fun β v e => con_u8 e)).bin⟩
    · rw [notTo_eq] at G
      exact ⟨_, G, (cmp_str (fun a b w => by simp only [Op.stringOp, bytesOf_toList, bytesLess_map a b]; rfl)).bin⟩
    · obtain ⟨r, G, c1⟩ := genB_cmp G
      rw [fBool_eq, notTo_eq, Bool.not_not] at G; exact ⟨_, G, c1.bin⟩
  case gtr =>
    refine ⟨_, rfl, fun x y h k H => bh ?_⟩
    have gt : ∀ a b : Nat, decide ((b : Int) > (a : Int)) = Nat.blt a b := fun a b => by rw [← lss_nat]
    rcases cmpK_yes ltNat_eq H with ⟨a, b, rfl, rfl, G⟩ | ⟨a, b, rfl, rfl, G⟩ | ⟨n, l, m, r, rfl, rfl, G⟩ | G
    · rw [boolTo_eq] at G
      exact ⟨_, G, (cmp_nat (q := .i64) (by decide) (by decide) (fun w => by simp only [Op.intCmp, gt]; rfl) (fun β v e => con_nat e) (fun β v e => con_nat e)).bin⟩
    · rw [boolTo_eq] at G
      exact ⟨_, G, (cmp_nat (q := .u8) (by decide) (by decide) (fun w => by simp only [Op.intCmp, gt]; rfl) (fun β v e => con_u8 e) (fun β v e => con_u8 e)).bin⟩
    · rw [boolTo_eq] at G
      exact ⟨_, G, (cmp_str (fun a b w => by simp only [Op.stringOp, bytesOf_toList, bytesLess_map a b, map_ofNat_eq a b, ltL_tri r l, Bool.not_not]; rfl)).bin⟩
    · obtain ⟨r, G, c1⟩ := genB_cmp G
      rw [boolTo_eq] at G; exact ⟨_, G, c1.bin⟩
  case leq =>
    refine ⟨_, rfl, fun x y h k H => bh ?_⟩
    have le : ∀ a b : Nat, decide ((b : Int) ≤ (a : Int)) = !Nat.blt a b := fun a b => by rw [← lss_nat, ← decide_not, decide_eq_decide]; omega
    rcases cmpK_yes ltNat_eq H with ⟨a, b, rfl, rfl, G⟩ | ⟨a, b, rfl, rfl, G⟩ | ⟨n, l, m, r, rfl, rfl, G⟩ | G
    · rw [notTo_eq] at G
      exact ⟨_, G, (cmp_nat (q := .i64) (by decide) (by decide) (fun w => by simp only [Op.intCmp, le]; rfl) (fun β v e => con_nat e) (fun β v e => con_nat e)).bin⟩
    · rw [notTo_eq] at G
      exact ⟨_, G, (cmp_nat (q := .u8) (by decide) (by decide) (fun w => by simp only [Op.intCmp, le]; rfl) (fun β v e => con_u8 e) (fun β v e => con_u8 e)).bin⟩
    · rw [notTo_eq] at G
      exact ⟨_, G, (cmp_str (fun a b w => by simp only [Op.stringOp, bytesOf_toList, bytesLess_map a b, map_ofNat_eq a b, ltL_tri r l, Bool.not_not]; rfl)).bin⟩
    · obtain ⟨r, G, c1⟩ := genB_cmp G
      rw [fBool_eq, notTo_eq, Bool.not_not] at G; exact ⟨_, G, c1.bin⟩
  all_goals exact ⟨_, rfl, fun x y h k H => bh (gen2_yes H)⟩
end Go.Ev
end
/- The evaluator's operations are the model's: parts of values, conversions. -/
section
set_option linter.unusedVariables false
set_option linter.unusedSectionVars false
set_option linter.unusedSimpArgs false
namespace Go.Ev
variable [Sg]
open Go.RowKit
variable {P : Program}

theorem sizeK_yes {t : TypeId} {k : Nat → Ans} (h : sizeK P t k = .yes) : ∃ i, P.info? t = some i ∧ k i.size = .yes := by
  unfold sizeK at h
  cases hi : P.info? t with
  | none => rw [hi] at h; cases h
  | some i => rw [hi] at h; simp only [fNat_eq] at h; exact ⟨i, rfl, h⟩
theorem zeroK_yes {t : TypeId} {k : AV → Ans} (h : zeroK P t k = .yes) : ∃ i z av, P.info? t = some i ∧ i.zero = some z ∧ (∀ β, con β av = some z) ∧ k av = .yes := by
  unfold zeroK at h
  cases hi : P.info? t with
  | none => rw [hi] at h; cases h
  | some i =>
    rw [hi] at h
    cases hz : i.zero with
    | none => simp only [hz] at h; cases h
    | some z =>
      simp only [hz] at h
      obtain ⟨av, h1, h2⟩ := fVal_yes h
      exact ⟨i, z, av, rfl, hz, h1, h2⟩
theorem natOf_yes {x : AV} {k : Nat → Ans} (h : natOf x k = .yes) : ∃ n : Nat, (∀ β v, con β x = some v → ∃ q, v = .int q n) ∧ k n = .yes := by
  unfold natOf at h
  split at h
  · exact ⟨_, fun β v hv => ⟨_, con_nat hv⟩, h⟩
  · exact ⟨_, fun β v hv => ⟨_, con_u8 hv⟩, h⟩
  · exact ⟨_, fun β v hv => ⟨_, con_int hv⟩, h⟩
  · cases h
theorem optOf_yes {x : Option AV} {d : Nat} {k : Nat → Ans} (h : optOf x d k = .yes) : ∃ n : Nat, k n = .yes ∧ ((x = none ∧ n = d) ∨ ∃ y, x = some y ∧ ∀ β v, con β y = some v → ∃ q, v = .int q n) := by
  unfold optOf at h
  split at h
  · exact ⟨d, h, .inl ⟨rfl, rfl⟩⟩
  · obtain ⟨n, h1, h2⟩ := natOf_yes h; exact ⟨n, h2, .inr ⟨_, rfl, h1⟩⟩
theorem con_one {β : Bt} {x : AV} {v : Value} (h : con β x = some v) (h1 : ∀ l, x ≠ .agg l) (h2 : ∀ l, x ≠ .tup l) : v.oneCell' = true ∧ v.cells = #[v] := by
  cases x with
  | nat n => rw [con_nat h]; exact ⟨rfl, rfl⟩
  | u8 n => rw [con_u8 h]; exact ⟨rfl, rfl⟩
  | int q z => rw [con_int h]; exact ⟨rfl, rfl⟩
  | bool b => rw [con_bool h]; exact ⟨rfl, rfl⟩
  | str n l => rw [(con_str_inv h).1]; exact ⟨rfl, rfl⟩
  | raw u => obtain ⟨rfl, h3⟩ := con_raw h; exact ⟨h3, by cases v <;> first | rfl | cases h3⟩
  | ptr b off => obtain ⟨c, κ, _, rfl⟩ := con_ptr h; exact ⟨rfl, rfl⟩
  | slice b off n ex d => obtain ⟨c, κ, _, rfl⟩ := con_slice h; exact ⟨rfl, rfl⟩
  | map b => obtain ⟨c, κ, _, rfl⟩ := con_map h; exact ⟨rfl, rfl⟩
  | iface t x => obtain ⟨c, _, rfl⟩ := con_iface h; exact ⟨rfl, rfl⟩
  | agg l => exact absurd rfl (h1 l)
  | tup l => exact absurd rfl (h2 l)
  | fn f a b => obtain ⟨c, d, _, _, rfl⟩ := con_fn h; exact ⟨rfl, rfl⟩
  | sym i =>
    simp only [con] at h
    split at h
    · rename_i h3
      injection h with h; subst h
      revert h3
      cases Sg.val i <;> intro h3 <;> first | exact ⟨rfl, rfl⟩ | cases h3
    · cases h
theorem cells_yes {x : AV} {k : List AV → Ans} (h : x.cells k = .yes) : ∃ l, k l = .yes ∧ ∀ β v, con β x = some v → ∃ vs, conL β l = some vs ∧ v.cells = vs.toArray ∧ ∀ u ∈ vs, u.oneCell' = true := by
  unfold AV.cells at h
  split at h
  · rename_i l
    refine ⟨l, h, fun β v hv => ?_⟩
    obtain ⟨vs, h1, rfl, h2⟩ := con_agg hv
    exact ⟨vs, h1, rfl, h2⟩
  · cases h
  · rename_i h1 h2
    refine ⟨[x], h, fun β v hv => ?_⟩
    obtain ⟨h3, h4⟩ := con_one hv h1 h2
    exact ⟨[v], conL_mk hv rfl, h4, fun u hu => by cases hu with | head => exact h3 | tail _ hu => cases hu⟩

theorem unK_yes {op : UnOp} {x : AV} {k : AV → Ans} (h : unK P op x k = .yes) : ∃ v, k v = .yes ∧ ∀ β a w, con β x = some a → ∃ u, (Op.unary op a).run P w = .ok u w ∧ con β v = some u := by
  unfold unK at h
  split at h
  · rename_i b
    rw [fBool_eq] at h
    exact ⟨_, h, fun β a w ha => by rw [con_bool ha]; exact ⟨_, rfl, rfl⟩⟩
  · obtain ⟨p, hp, h⟩ := plainK_yes h
    obtain ⟨v, av, h1, h2, h3⟩ := modelK_yes h
    exact ⟨av, h3, fun β a w ha => ⟨v, by rw [plain_con β hp ha]; exact semPure_run h1 w, h2 β⟩⟩
theorem wrapK_yes {q : IntKind} {z : Int} {k : AV → Ans} (h : wrapK q z k = .yes) : ∃ v, k v = .yes ∧ ∀ β, con β v = some (.int q (q.wrap z)) := by
  unfold wrapK at h
  rw [fInt_eq] at h
  obtain ⟨av, h1, h2⟩ := intAV_yes h
  exact ⟨av, h2, h1⟩
theorem knownB_some {t : TypeId} (h : knownB P t = true) : ∃ d, P.underlying t = some d := Option.isSome_iff_exists.1 h
theorem aggB_run {t : TypeId} {d : TypeDesc} (hd : P.underlying t = some d) (w : World) : (isAgg t).run P w = .ok (aggB P t) w := by
  unfold isAgg aggB
  simp only [Sem.run_bind, run_underlying hd, Result.andThen_ok, hd]
  cases d <;> rfl
theorem partK_yes {t : TypeId} {l : List AV} {off : Nat} {k : AV → Ans} (h : partK P t l off k = .yes) : ∃ v, k v = .yes ∧ ∀ β vs w, conL β l = some vs → (∀ u ∈ vs, u.oneCell' = true) → ∃ u, (part t vs.toArray off).run P w = .ok u w ∧ con β v = some u := by
  unfold partK at h
  obtain ⟨h1, h⟩ := cnd_yes h
  obtain ⟨d, hd⟩ := knownB_some h1
  rw [cnd_eq] at h
  split at h
  · rename_i ha
    obtain ⟨i, hi, h⟩ := sizeK_yes h
    rw [dropK_eq, takeK_eq] at h
    refine ⟨_, h, fun β vs w hl h1 => ?_⟩
    refine ⟨.agg ((vs.drop off).take i.size).toArray, ?_, con_agg_mk (conL_take _ (conL_drop _ hl)) (fun u hu => h1 u (List.mem_of_mem_drop (List.mem_of_mem_take hu)))⟩
    unfold part
    simp only [Sem.run_bind, aggB_run hd, Result.andThen_ok, ha, if_true, sizeOf, typeInfo, run_program, hi, Sem.run_pure]
    congr 2
    apply Array.ext'
    simp [List.extract_eq_take_drop]
  · rename_i ha
    obtain ⟨v, hv, h⟩ := nthK_yes h
    refine ⟨v, h, fun β vs w hl h1 => ?_⟩
    obtain ⟨u, h2, h3⟩ := conL_get hl hv
    refine ⟨u, ?_, h3⟩
    unfold part
    simp [Sem.run_bind, aggB_run hd, Result.andThen_ok, ha, h2]
theorem fieldK_yes {s : TypeId} {x : AV} {f : Nat} {k : AV → Ans} (h : fieldK P s x f k = .yes) : ∃ v, k v = .yes ∧ ∀ β a w, con β x = some a → ∃ u, (Instr.field s a f).run P w = .ok u w ∧ con β v = some u := by
  unfold fieldK at h
  split at h
  · rename_i fs l hd
    cases hf : fs[f]? with
    | none => rw [hf] at h; cases h
    | some g =>
      rw [hf] at h
      obtain ⟨v, h1, h2⟩ := partK_yes h
      refine ⟨v, h1, fun β a w ha => ?_⟩
      obtain ⟨vs, h3, rfl, h4⟩ := con_agg ha
      obtain ⟨u, h5, h6⟩ := h2 β vs w h3 h4
      refine ⟨u, ?_, h6⟩
      unfold Instr.field
      simp only [Sem.run_bind, run_underlying hd, Result.andThen_ok, hf, asAgg, Sem.run_pure, h5]
  · cases h
theorem fieldAddrK_yes {s : TypeId} {x : AV} {f : Nat} {k : AV → Ans} (h : fieldAddrK P s x f k = .yes) : ∃ v, k v = .yes ∧ ∀ β a w, con β x = some a → ∃ u, (Instr.fieldAt s a f).run P w = .ok u w ∧ con β v = some u := by
  unfold fieldAddrK at h
  split at h
  · rename_i fs b off hd
    cases hf : fs[f]? with
    | none => rw [hf] at h; cases h
    | some g =>
      rw [hf] at h
      obtain ⟨i, hi, h⟩ := sizeK_yes h
      rw [cnd_eq] at h
      split at h
      · cases h
      · rename_i hz
        rw [fNat_eq] at h
        refine ⟨_, h, fun β a w ha => ?_⟩
        obtain ⟨c, κ, hc, rfl⟩ := con_ptr ha
        refine ⟨.pointer (some ⟨c, off + g.offset, none⟩), ?_, by simp [con, hc]⟩
        have hz' : ¬ i.size = 0 := by simpa using hz
        unfold Instr.fieldAt
        simp only [Sem.run_bind, run_underlying hd, Result.andThen_ok, hf, Instr.sureAddr, Sem.run_pure, fieldPlace, sizeOf, typeInfo, run_program, hi]
        rw [if_neg hz']
        simp only [Sem.run_pure, Result.andThen_ok, Addr.add_lit]
  · cases h
theorem run_index_int {q : IntKind} {i : Int} {w : World} : (asIntOf (.int q i)).run P w = .ok (q, i) w := rfl
theorem indexAddrK_yes {t : TypeId} {x i : AV} {k : AV → Ans} (H : indexAddrK P t x i k = .yes) : ∃ v, k v = .yes ∧ ∀ β a b w, con β x = some a → con β i = some b → ∃ u, (Instr.indexAt t a b).run P w = .ok u w ∧ con β v = some u := by
  unfold indexAddrK at H
  obtain ⟨n, hn, h⟩ := natOf_yes H
  clear H
  split at h
  · rename_i m e b off hd
    obtain ⟨ti, hi, h⟩ := sizeK_yes h
    obtain ⟨hlt, h⟩ := cnd_yes h
    rw [fNat_eq] at h
    have hlt' : n < m := by simpa using hlt
    refine ⟨_, h, fun β a b' w ha hb => ?_⟩
    obtain ⟨c, κ, hc, rfl⟩ := con_ptr ha
    obtain ⟨q, rfl⟩ := hn β b' hb
    refine ⟨.pointer (some ⟨c, off + n * ti.size, none⟩), ?_, by simp [con, hc]⟩
    unfold Instr.indexAt
    simp only [Sem.run_bind, run_index_int, run_underlying hd, Result.andThen_ok, Instr.sureAddr, Sem.run_pure]
    rw [if_pos ⟨by omega, by omega⟩]
    simp [sizeOf, typeInfo, hi, Addr.add_lit]
  · rename_i e b off len ex d hd
    obtain ⟨ti, hi, h⟩ := sizeK_yes h
    obtain ⟨hlt, h⟩ := cnd_yes h
    rw [fNat_eq] at h
    have hlt' : n < len := by simpa using hlt
    refine ⟨_, h, fun β a b' w ha hb => ?_⟩
    obtain ⟨c, κ, hc, rfl⟩ := con_slice ha
    obtain ⟨q, rfl⟩ := hn β b' hb
    refine ⟨.pointer (some ⟨c, off + n * ti.size, none⟩), ?_, by simp [con, hc]⟩
    unfold Instr.indexAt
    simp only [Sem.run_bind, run_index_int, run_underlying hd, Result.andThen_ok, Sem.run_pure]
    rw [if_pos ⟨by omega, by omega⟩]
    simp [sizeOf, typeInfo, hi, Addr.add_lit]
  · cases h
theorem bytesOf_get {l : List Nat} {i c : Nat} (h : l[i]? = some c) : (bytesOf l)[i]? = some (UInt8.ofNat c) := by
  have hi : i < l.length := by
    rcases Nat.lt_or_ge i l.length with h1 | h1
    · exact h1
    · rw [List.getElem?_eq_none h1] at h; cases h
  have : i < (bytesOf l).size := by rw [bytesOf_size]; exact hi
  rw [getElem?_pos (bytesOf l) i this]
  have e : (bytesOf l)[i] = (l.map UInt8.ofNat)[i]'(by simpa using hi) := rfl
  rw [e, List.getElem_map]
  rw [List.getElem?_eq_getElem hi] at h; injection h with h; rw [h]
theorem indexK_yes {t : TypeId} {x i : AV} {k : AV → Ans} (H : indexK P t x i k = .yes) : ∃ v, k v = .yes ∧ ∀ β a b w, con β x = some a → con β i = some b → ∃ u, (Instr.index t a b).run P w = .ok u w ∧ con β v = some u := by
  unfold indexK at H
  obtain ⟨n, hn, h⟩ := natOf_yes H
  clear H
  split at h
  · rename_i m e l hd
    obtain ⟨ti, hi, h⟩ := sizeK_yes h
    obtain ⟨hlt, h⟩ := cnd_yes h
    rw [fNat_eq] at h
    have hlt' : n < m := by simpa using hlt
    obtain ⟨v, h1, h2⟩ := partK_yes h
    refine ⟨v, h1, fun β a b' w ha hb => ?_⟩
    obtain ⟨vs, h3, rfl, h4⟩ := con_agg ha
    obtain ⟨q, rfl⟩ := hn β b' hb
    obtain ⟨u, h5, h6⟩ := h2 β vs w h3 h4
    refine ⟨u, ?_, h6⟩
    unfold Instr.index
    simp only [Sem.run_bind, run_index_int, run_underlying hd, Result.andThen_ok]
    rw [if_pos ⟨by omega, by omega⟩]
    simp only [Sem.run_bind, sizeOf, typeInfo, hi, run_program, Result.andThen_ok, Sem.run_pure, Int.toNat_natCast]
    exact h5
  · rename_i m l hd
    obtain ⟨c, hc, h⟩ := nthK_yes h
    refine ⟨_, h, fun β a b' w ha hb => ?_⟩
    obtain ⟨rfl, h3, h4⟩ := con_str_inv ha
    obtain ⟨q, rfl⟩ := hn β b' hb
    have hc256 : c < 256 := by
      have := List.all_eq_true.1 h4 c (List.mem_iff_getElem?.2 ⟨n, hc⟩)
      simpa using this
    refine ⟨.int .u8 c, ?_, rfl⟩
    unfold Instr.index
    simp only [Sem.run_bind, run_index_int, run_underlying hd, Result.andThen_ok]
    rw [if_pos (by omega), Int.toNat_natCast, bytesOf_get hc]
    simp only [Sem.run_pure]
    rw [show ((UInt8.ofNat c).toNat : Int) = (c : Int) by simp; omega]
  · cases h
end Go.Ev
namespace Go.Ev
variable [Sg]
open Go.RowKit
variable {P : Program}

def Comes (P : Program) (s : World → Sem Value → Prop) : Prop := True
def Sem1 (P : Program) (f : Value → Sem Value) (x : AV) (h : Hp) (v : AV) (h' : Hp) : Prop :=
  ∀ β w a, HR β h w → con β x = some a → ∃ β' w' u, (f a).run P w = .ok u w' ∧ Stp β h w β' h' w' ∧ con β' v = some u
def Sem2 (P : Program) (f : Value → Value → Sem Value) (x y : AV) (h : Hp) (v : AV) (h' : Hp) : Prop :=
  ∀ β w a b, HR β h w → con β x = some a → con β y = some b → ∃ β' w' u, (f a b).run P w = .ok u w' ∧ Stp β h w β' h' w' ∧ con β' v = some u
theorem Sem1.of_pure {f : Value → Sem Value} {x : AV} {h : Hp} {v : AV} (H : ∀ β a w, con β x = some a → ∃ u, (f a).run P w = .ok u w ∧ con β v = some u) : Sem1 P f x h v h :=
  fun β w a hr ha => let ⟨u, h1, h2⟩ := H β a w ha; ⟨β, w, u, h1, .refl hr, h2⟩
theorem bytesWorld_push (w : World) (e : TypeId) (s : ByteArray) : (Lib.bytesWorld w e s).heap = w.heap.push (.cells (Lib.bytesCells w e s) e ((Lib.bytesCells w e s).size, (Lib.bytesCells w e s).size + 1)) := by
  apply Array.ext_getElem?
  intro i
  rw [Array.getElem?_push]
  by_cases h : i = w.heap.size
  · subst h; rw [if_pos rfl]; exact Lib.bytesWorld_at_new w e s
  · rw [if_neg h]
    by_cases h2 : i < w.heap.size
    · exact Lib.bytesWorld_at_old w e s i h2
    · rw [Array.getElem?_eq_none (by rw [Lib.bytesWorld_size]; omega), Array.getElem?_eq_none (by omega)]
theorem u8L_eq (l : List Nat) (k : List AV → Ans) : (List.rec (motive := fun _ => (List AV → Ans) → Ans) (fun k => k []) (fun c _ ih k => ih fun r => k (.u8 c :: r)) l k : Ans) = k (l.map .u8) := by
  induction l generalizing k with
  | nil => rfl
  | cons c l ih => exact ih _
theorem conL_u8 (β : Bt) : ∀ {l : List Nat}, l.all (· < 256) = true → conL β (l.map .u8) = some (byteCells (bytesOf l))
  | [], _ => rfl
  | c :: l, h => by
    simp only [List.all_cons, Bool.and_eq_true, decide_eq_true_eq] at h
    have e : (bytesOf (c :: l)).data.toList = UInt8.ofNat c :: (bytesOf l).data.toList := rfl
    unfold byteCells
    rw [e, List.map_cons, List.map_cons]
    refine conL_mk ?_ (conL_u8 β h.2)
    show some (Value.int .u8 (c : Int)) = _
    congr 2
    simp; omega
theorem u8sOf_yes {cs : List AV} {k : List Nat → Ans} (h : (List.rec (motive := fun _ => (List Nat → Ans) → Ans) (fun k => k []) (fun c _ ih k => match c with
            | .u8 m => cnd (Nat.blt m 256) (ih fun r => k (m :: r)) (.no 37)
            | _ => .no 38) cs k : Ans) = .yes) : ∃ l : List Nat, cs = l.map .u8 ∧ l.all (· < 256) = true ∧ k l = .yes := by
  induction cs generalizing k with
  | nil => exact ⟨[], rfl, rfl, h⟩
  | cons c cs ih =>
    dsimp only at h
    split at h
    · obtain ⟨h1, h⟩ := cnd_yes h
      obtain ⟨l, rfl, h2, h3⟩ := ih h
      exact ⟨_ :: l, rfl, by simp only [List.all_cons, h2, Bool.and_true, decide_eq_true_eq]; simpa using h1, h3⟩
    · cases h
theorem foldl_push (ns : List Int) : ∀ s : ByteArray, ns.foldl (fun r n => r.push (UInt8.ofNat n.toNat)) s = ⟨s.data ++ (ns.map fun n => UInt8.ofNat n.toNat).toArray⟩ := by
  induction ns with
  | nil => intro s; simp
  | cons n ns ih => intro s; rw [List.foldl_cons, ih]; congr 1; simp [ByteArray.push]
theorem inK_yes {b off : Nat} {h : Hp} {k : TypeId → Nat → Bool → Ans} (H : inK b off h k = .yes) : ∃ e m ex c sz, h.tr.get (path b) = some (.cells e m c ex sz) ∧ off < m ∧ k e m ex = .yes := by
  cases h with
  | mk t n low =>
    unfold inK at H
    obtain ⟨bl, hb, H⟩ := getP_yes H
    cases bl with
    | cells e m c ex sz =>
      obtain ⟨h1, H⟩ := cnd_yes H
      exact ⟨e, m, ex, c, sz, hb, Nat.le_of_ble_eq_true h1, H⟩
    | map es cl => cases H
    | iter l p => cases H
    | miter b s => cases H
theorem convK_yes {src dst : TypeId} {x : AV} {h : Hp} {k : AK} (H : convK P src dst x h k = .yes) : ∃ v h', k v h' = .yes ∧ Sem1 P (convert src dst) x h v h' := by
  unfold convK at H
  split at H
  · rename_i q n hd
    obtain ⟨h1, H⟩ := cnd_yes H
    obtain ⟨d, hs⟩ := knownB_some h1
    obtain ⟨v, h2, h3⟩ := wrapK_yes H
    refine ⟨v, h, h2, .of_pure fun β a w ha => ⟨_, ?_, h3 β⟩⟩
    rw [con_nat ha]
    simp only [convert, Sem.run_bind, run_underlying hs, run_underlying hd, Result.andThen_ok, Conv.intToInt, Sem.run_pure]
    rfl
  · rename_i q n hd
    obtain ⟨h1, H⟩ := cnd_yes H
    obtain ⟨d, hs⟩ := knownB_some h1
    obtain ⟨v, h2, h3⟩ := wrapK_yes H
    refine ⟨v, h, h2, .of_pure fun β a w ha => ⟨_, ?_, h3 β⟩⟩
    rw [con_u8 ha]
    simp only [convert, Sem.run_bind, run_underlying hs, run_underlying hd, Result.andThen_ok, Conv.intToInt, Sem.run_pure]
    rfl
  · rename_i q q' n hd
    obtain ⟨h1, H⟩ := cnd_yes H
    obtain ⟨d, hs⟩ := knownB_some h1
    obtain ⟨v, h2, h3⟩ := wrapK_yes H
    refine ⟨v, h, h2, .of_pure fun β a w ha => ⟨_, ?_, h3 β⟩⟩
    rw [con_int ha]
    simp only [convert, Sem.run_bind, run_underlying hs, run_underlying hd, Result.andThen_ok, Conv.intToInt, Sem.run_pure]
  · rename_i n l hd
    obtain ⟨h1, H⟩ := cnd_yes H
    obtain ⟨d, hs⟩ := knownB_some h1
    refine ⟨_, h, H, .of_pure fun β a w ha => ⟨a, ?_, ha⟩⟩
    rw [(con_str_inv ha).1]
    simp only [convert, Sem.run_bind, run_underlying hs, run_underlying hd, Result.andThen_ok, Sem.run_pure]
  · rename_i e n l hd
    split at H
    · rename_i he
      obtain ⟨h1, H⟩ := cnd_yes H
      obtain ⟨d, hs⟩ := knownB_some h1
      rw [u8L_eq] at H
      cases h with
      | mk t nx low =>
        rw [newK_eq] at H
        refine ⟨_, _, H, fun β w a hr ha => ?_⟩
        obtain ⟨rfl, h3, h4⟩ := con_str_inv ha
        have hc := conL_u8 β h4
        have hcells : Lib.bytesCells w e (bytesOf l) = (byteCells (bytesOf l) ++ List.replicate (grownCap w (bytesOf l).size 0 e - (bytesOf l).size) (Value.int .u8 0)).toArray := by
          unfold Lib.bytesCells byteCells
          apply Array.ext'
          simp
        have hge := grownCap_ge w (bytesOf l).size 0 e
        have hsz : (byteCells (bytesOf l) ++ List.replicate (grownCap w (bytesOf l).size 0 e - (bytesOf l).size) (Value.int .u8 0)).length = grownCap w (bytesOf l).size 0 e := by
          simp only [List.length_append, byteCells_length, List.length_replicate]
          omega
        refine ⟨_, Lib.bytesWorld w e (bytesOf l), _, Lib.run_convert_string_bytes w src dst e (bytesOf l) hs hd he, new_stp (κ := grownCap w (bytesOf l).size 0 e) (fz := (grownCap w (bytesOf l).size 0 e, grownCap w (bytesOf l).size 0 e + 1)) (List.replicate (grownCap w (bytesOf l).size 0 e - (bytesOf l).size) (.int .u8 0)) hr hc (fun u hu => by obtain ⟨b, _, rfl⟩ := List.mem_map.1 hu; rfl) ?_ rfl rfl rfl ?_ (fun h => by cases h) ?_, ?_⟩
        · rw [bytesWorld_push, hcells, List.size_toArray, hsz]
        · intro i hi
          rw [hsz] at hi
          show ¬ (grownCap w (bytesOf l).size 0 e ≤ i ∧ _)
          omega
        · intro _; rw [hsz]; simp
        · rw [con_slice_mk (upd_same ..) (.inr (by rw [bytesOf_size] at *; omega))]
          simp [bytesOf_size, h3]
    · cases H
  · rename_i b off len ex d hd
    split at H
    · rename_i e hs
      split at H
      · rename_i he
        obtain ⟨cs, e', m, c, ex', sz, g1, g2, g3, g4, H⟩ := getK_yes H
        obtain ⟨l, rfl, h2, H⟩ := u8sOf_yes H
        refine ⟨_, h, H, fun β w a hr ha => ?_⟩
        obtain ⟨cb, κ, vs, e1, e2, e3, e4, e5⟩ := cells_of hr g1 g2 g3 g4
        obtain ⟨c', κ', e6, rfl⟩ := con_slice ha
        rw [e1] at e6; injection e6 with e6; injection e6 with e6 e7; subst e6
        rw [conL_u8 β h2] at e2; injection e2 with e2
        have hl : l.length = len := by simpa using g3
        refine ⟨β, w, .string (bytesOf l), ?_, .refl hr, con_str_mk hl.symm h2⟩
        rw [run_convert_bytes_string w src dst e _ _ _ hs he hd, run_bytesToString w _ len _ (l.map fun (n : Nat) => (n : Int))]
        · rw [foldl_push]
          show Result.ok (Value.string ⟨#[] ++ _⟩) w = _
          rw [Array.empty_append, List.map_map]
          congr 2
        · have := run_loadCells_list (P := P) w ⟨cb, off, none⟩ vs (fun j v hv => by rw [Addr.add_lit]; exact e5 j v hv)
          rw [e4] at this
          rw [this, ← e2]
          congr 2
          simp [bytesOf, byteCells, Function.comp_def]
          intro x hx
          have := List.all_eq_true.1 h2 x hx
          simp at this; omega
      · cases H
    · cases H
  · rename_i n c hd
    split at H
    · rename_i e hs
      split at H
      · rename_i he
        refine ⟨_, h, H, .of_pure fun β a w ha => ⟨.string (bytesOf []), ?_, con_str_mk rfl rfl⟩⟩
        rw [(con_raw ha).1, run_convert_bytes_string w src dst e _ _ _ hs he hd]
        rfl
      · cases H
    · cases H
  · rename_i b off hd
    split at H
    · rename_i t hs
      obtain ⟨i, hi, H⟩ := sizeK_yes H
      obtain ⟨h0, H⟩ := cnd_yes H
      obtain ⟨e, m, ex, c, sz, hb, hm, H⟩ := inK_yes H
      refine ⟨_, h, H, fun β w a hr ha => ⟨β, w, a, ?_, .refl hr, ha⟩⟩
      obtain ⟨cb, κ, hβ, rfl⟩ := con_ptr ha
      obtain ⟨-, cb', κ', hβ', cs, fz, g1, -, -, g2, -⟩ := hr.blk b _ hb
      rw [hβ] at hβ'; injection hβ' with hβ'; injection hβ' with e1 e2; subst e1
      have hsh : w.shape? cb = some (e, cs.size) := by simp [World.shape?, g1]
      exact Go.Lib.run_to_unsafe w _ hs hd hi (by have := Nat.le_of_ble_eq_true h0; omega) hsh (Nat.lt_of_lt_of_le hm g2)
    · cases H
  · rename_i u b off hd
    split at H
    · rename_i hs
      obtain ⟨e, m, ex, c, sz, hb, hm, H⟩ := inK_yes H
      obtain ⟨h1, H⟩ := cnd_yes H
      obtain ⟨h2, H⟩ := cnd_yes H
      obtain ⟨i, hi, H⟩ := sizeK_yes H
      refine ⟨_, h, H, fun β w a hr ha => ⟨β, w, a, ?_, .refl hr, ha⟩⟩
      obtain ⟨cb, κ, hβ, rfl⟩ := con_ptr ha
      obtain ⟨-, cb', κ', hβ', cs, fz, g1, -, -, g2, g3, -⟩ := hr.blk b _ hb
      rw [hβ] at hβ'; injection hβ' with hβ'; injection hβ' with e1 e2; subst e1
      have hsh : w.shape? cb = some (e, cs.size) := by simp [World.shape?, g1]
      refine Go.Lib.run_from_unsafe w _ hs hd hi hsh ?_
      rw [g3 h1]; exact h2
    · cases H
  · obtain ⟨p, hp, H⟩ := plainK_yes H
    obtain ⟨v, av, h1, h2, h3⟩ := modelK_yes H
    exact ⟨av, h, h3, .of_pure fun β a w ha => ⟨v, by rw [plain_con β hp ha]; exact semPure_run h1 w, h2 β⟩⟩
end Go.Ev
end
/- The evaluator's operations are the model's: loads, stores, new memory, slices. -/
section
set_option linter.unusedVariables false
set_option linter.unusedSectionVars false
set_option linter.unusedSimpArgs false
namespace Go.Ev
variable [Sg]
open Go.RowKit
variable {P : Program}

theorem loadK_run {t : TypeId} {x : AV} {h : Hp} {k : AV → Ans} (H : loadK P t x h k = .yes) : ∃ v, k v = .yes ∧ ∀ β w a, HR β h w → con β x = some a → ∃ u, (Instr.loadAt t a).run P w = .ok u w ∧ con β v = some u := by
  unfold loadK at H
  split at H
  · rename_i b off
    obtain ⟨h1, H⟩ := cnd_yes H
    obtain ⟨d, hd⟩ := knownB_some h1
    rw [cnd_eq] at H
    split at H
    · rename_i ha
      obtain ⟨i, hi, H⟩ := sizeK_yes H
      obtain ⟨l, e', m, c, ex, sz, g1, g2, g3, g4, H⟩ := getK_yes H
      refine ⟨_, H, fun β w a hr hx => ?_⟩
      obtain ⟨cb, κ, vs, e1, e2, e3, e4, e5⟩ := cells_of hr g1 g2 g3 g4
      obtain ⟨c', κ', e6, rfl⟩ := con_ptr hx
      rw [e1] at e6; injection e6 with e6; injection e6 with e6 e7; subst e6
      refine ⟨.agg vs.toArray, ?_, con_agg_mk e2 e3⟩
      have hl := run_loadCells_list (P := P) w ⟨cb, off, none⟩ vs (fun j v hv => by rw [Addr.add_lit]; exact e5 j v hv)
      rw [e4] at hl
      unfold Instr.loadAt loadVar
      simp only [Sem.run_bind, Instr.sureAddr, Sem.run_pure, Result.andThen_ok, aggB_run hd, ha, if_true, sizeOf, typeInfo, run_program, hi, hl]
    · rename_i ha
      obtain ⟨l, e', m, c, ex, sz, g1, g2, g3, g4, H⟩ := getK_yes H
      obtain ⟨v, hv, H⟩ := nthK_yes H
      refine ⟨_, H, fun β w a hr hx => ?_⟩
      obtain ⟨cb, κ, vs, e1, e2, e3, e4, e5⟩ := cells_of hr g1 g2 g3 g4
      obtain ⟨c', κ', e6, rfl⟩ := con_ptr hx
      rw [e1] at e6; injection e6 with e6; injection e6 with e6 e7; subst e6
      obtain ⟨u, h2, h3⟩ := conL_get e2 hv
      refine ⟨u, ?_, h3⟩
      have hc := e5 0 u h2
      unfold Instr.loadAt loadVar
      simp only [Sem.run_bind, Instr.sureAddr, Sem.run_pure, Result.andThen_ok, aggB_run hd, ha]
      simp only [Bool.false_eq_true, if_false, run_load]
      rw [show w.cell? ⟨cb, off, none⟩ = some u from hc]
  · cases H
theorem loadK_yes {t : TypeId} {x : AV} {h : Hp} {k : AV → Ans} (H : loadK P t x h k = .yes) : ∃ v, k v = .yes ∧ Sem1 P (Instr.loadAt t) x h v h := by
  obtain ⟨v, h1, h2⟩ := loadK_run H
  exact ⟨v, h1, fun β w a hr ha => let ⟨u, e1, e2⟩ := h2 β w a hr ha; ⟨β, w, u, e1, .refl hr, e2⟩⟩
theorem storeK_yes {t : TypeId} {x v : AV} {h : Hp} {k : Hp → Ans} (H : storeK P t x v h k = .yes) :
    ∃ h', k h' = .yes ∧ ∀ β w a b, HR β h w → con β x = some a → con β v = some b → ∃ β' w', (Instr.storeAt t a b).run P w = .ok () w' ∧ Stp β h w β' h' w' := by
  unfold storeK at H
  split at H
  · rename_i b off
    obtain ⟨l, H, hv⟩ := cells_yes H
    rw [lenK_eq] at H
    obtain ⟨i, hi, H⟩ := sizeK_yes H
    obtain ⟨h1, H⟩ := cnd_yes H
    have h1' := Nat.eq_of_beq_eq_true h1
    obtain ⟨t', n, low, e, m, c, ex, sz, rfl, g1, g2, H⟩ := putK_yes H
    refine ⟨_, H, fun β w a u hr hx hu => ?_⟩
    obtain ⟨vs, e1, e2, e3⟩ := hv β u hu
    obtain ⟨cb, κ, f1, f2, f3, f4⟩ := put_stp hr g1 g2 e1 e3
    obtain ⟨c', κ', e6, rfl⟩ := con_ptr hx
    rw [f1] at e6; injection e6 with e6; injection e6 with e6 e7; subst e6
    refine ⟨β, _, ?_, f4⟩
    have hst := run_storeCells_cells (P := P) cb off vs 0 w (by simpa using f2) (by simpa using f3) e3
    simp only [Nat.add_zero] at hst
    have hl := conL_len e1
    unfold Instr.storeAt storeVar
    simp only [Sem.run_bind, Instr.sureAddr, Sem.run_pure, Result.andThen_ok, sizeOf, typeInfo, run_program, hi, e2, List.size_toArray]
    rw [if_neg (by omega)]
    simpa using hst
  · cases H
theorem newRow_of {t : Tr Blk} {n low : Nat} {e : TypeId} {l : List AV} {ex : Bool} {sz : Nat} {β : Bt} {w : World} {vs : List Value} (hr : HR β (.mk t n low) w) (hl : conL β l = some vs) (h1 : ∀ u ∈ vs, u.oneCell' = true) (hex : ex = true) :
    ∃ β' w', (newRow e vs.toArray).run P w = .ok ⟨w.heap.size, 0, none⟩ w' ∧ Stp β (.mk t n low) w β' (.mk (t.set (path n) (some (.cells e l.length (putL l 0 .leaf) ex sz))) (n + 1) low) w' ∧ β' n = some (w.heap.size, 0) := by
  refine ⟨upd β n w.heap.size 0, w.alloc (.cells vs.toArray e), ?_, ?_, upd_same ..⟩
  · rfl
  · exact new_stp (κ := 0) (fz := (0, 0)) [] hr hl h1 (by rw [List.append_nil]; rfl) rfl rfl rfl (fun i hi => by simp) (fun _ => rfl) (fun h => by rw [hex] at h; cases h)
theorem allocK_yes {e : TypeId} {h : Hp} {k : AK} (H : (zeroK P e fun z => sizeK P e fun sz => z.cells fun l => newK e l true sz h fun b h => k (.ptr b 0) h) = .yes) :
    ∃ v h', k v h' = .yes ∧ ∀ β w, HR β h w → ∃ β' w' u, (Instr.alloc e true (.tuple #[])).run P w = .ok u w' ∧ Stp β h w β' h' w' ∧ con β' v = some u := by
  obtain ⟨i, z, av, hi, hz, hc, H⟩ := zeroK_yes H
  obtain ⟨i2, hi2, H⟩ := sizeK_yes H
  obtain ⟨l, H, hv⟩ := cells_yes H
  cases h with
  | mk t n low =>
    rw [newK_eq] at H
    refine ⟨_, _, H, fun β w hr => ?_⟩
    obtain ⟨vs, e1, e2, e3⟩ := hv β z (hc β)
    obtain ⟨β', w', f1, f2, f3⟩ := newRow_of (P := P) (e := e) (sz := i2.size) hr e1 e3 (rfl : true = true)
    refine ⟨β', w', _, ?_, f2, by simp only [con, f3]; rfl⟩
    unfold Instr.alloc zeroValue typeInfo newVar
    simp only [Sem.run_bind, run_program, Result.andThen_ok, hi, hz, Sem.run_pure, e2, f1]
theorem boxK_yes {e : TypeId} {x : AV} {h : Hp} {k : AK} (H : (sizeK P e fun sz => x.cells fun l => newK e l true sz h fun b h => k (.ptr b 0) h) = .yes) :
    ∃ v h', k v h' = .yes ∧ Sem1 P (Instr.box e) x h v h' := by
  obtain ⟨i2, hi2, H⟩ := sizeK_yes H
  obtain ⟨l, H, hv⟩ := cells_yes H
  cases h with
  | mk t n low =>
    rw [newK_eq] at H
    refine ⟨_, _, H, fun β w a hr ha => ?_⟩
    obtain ⟨vs, e1, e2, e3⟩ := hv β a ha
    obtain ⟨β', w', f1, f2, f3⟩ := newRow_of (P := P) (e := e) (sz := i2.size) hr e1 e3 (rfl : true = true)
    refine ⟨β', w', _, ?_, f2, by simp only [con, f3]; rfl⟩
    unfold Instr.box newVar
    simp only [Sem.run_bind, Result.andThen_ok, Sem.run_pure, e2, f1]

def TrR (β : Bt) (c : Tr AV) (cs : Array Value) : Prop := ∀ i, i < cs.size → ∃ av u, c.get (path i) = some av ∧ cs[i]? = some u ∧ con β av = some u ∧ u.oneCell' = true
theorem TrR.putL {β : Bt} {c : Tr AV} {cs : Array Value} (h : TrR β c cs) {l : List AV} {vs : List Value} {off : Nat} (hl : conL β l = some vs) (h1 : ∀ u ∈ vs, u.oneCell' = true) (ho : off + vs.length ≤ cs.size) : TrR β (putL l off c) (setA cs off vs) := by
  intro i hi
  rw [setA_size] at hi
  have hlen := conL_len hl
  rw [get_putL, setA_get vs cs off i ho, hlen]
  by_cases hb : off ≤ i ∧ i < off + vs.length
  · rw [if_pos hb, if_pos hb]
    have hi2 : i - off < l.length := by omega
    obtain ⟨u, u1, u2⟩ := conL_get hl (List.getElem?_eq_getElem hi2)
    exact ⟨_, u, List.getElem?_eq_getElem hi2, u1, u2, h1 u (List.mem_iff_getElem?.2 ⟨_, u1⟩)⟩
  · rw [if_neg hb, if_neg hb]; exact h i hi
theorem TrR.start {β : Bt} {l : List AV} {vs : List Value} (hl : conL β l = some vs) (h1 : ∀ u ∈ vs, u.oneCell' = true) : TrR β (Ev.putL l 0 .leaf) vs.toArray := by
  intro i hi
  have hlen := conL_len hl
  have hi' : i < l.length := by simp at hi; omega
  rw [get_putL, if_pos ⟨Nat.zero_le _, by omega⟩, Nat.sub_zero]
  obtain ⟨u, u1, u2⟩ := conL_get hl (List.getElem?_eq_getElem hi')
  exact ⟨_, u, List.getElem?_eq_getElem hi', by simpa using u1, u2, h1 u (List.mem_iff_getElem?.2 ⟨_, u1⟩)⟩
theorem TrR.read {β : Bt} {c : Tr AV} {cs : Array Value} (h : TrR β c cs) {l : List AV} {n : Nat} (hn : n = cs.size) (hl : l.length = n) (hc : ∀ i, i < n → c.get (path (0 + i)) = l[i]?) : conL β l = some cs.toList ∧ ∀ u ∈ cs.toList, u.oneCell' = true := by
  subst hn
  refine ⟨conL_of (by simpa using hl) (fun i x v hx hv => ?_), fun u hu => ?_⟩
  · have hi : i < cs.size := by
      rcases Nat.lt_or_ge i cs.toList.length with h1 | h1
      · simpa using h1
      · rw [List.getElem?_eq_none h1] at hv; cases hv
    obtain ⟨av, u, a1, a2, a3, -⟩ := h i hi
    have := hc i hi
    rw [Nat.zero_add, a1, hx] at this; injection this with this; subst this
    rw [Array.getElem?_toList, a2] at hv; injection hv with hv; subst hv
    exact a3
  · obtain ⟨i, hi, rfl⟩ := List.getElem_of_mem hu
    obtain ⟨av, u, a1, a2, a3, a4⟩ := h i (by simpa using hi)
    simp only [Array.getElem_toList]
    rw [Array.getElem?_eq_getElem (by simpa using hi)] at a2
    injection a2 with a2; rw [a2]; exact a4
theorem zipIdx_foldl (cs : Array Value) (off : Nat) (vs : Array Value) : vs.zipIdx.foldl (fun cs (c, j) => cs.setIfInBounds (off + j) c) cs = setA cs off vs.toList := by
  have key : ∀ (l : List Value) (k : Nat) (cs : Array Value), (l.zipIdx k).foldl (fun cs (p : Value × Nat) => cs.setIfInBounds (off + p.2) p.1) cs = setA cs (off + k) l := by
    intro l
    induction l with
    | nil => intro k cs; rfl
    | cons v l ih =>
      intro k cs
      rw [List.zipIdx_cons, List.foldl_cons, ih, setA, Nat.add_assoc]
  have := key vs.toList 0 cs
  rw [Nat.add_zero] at this
  rw [← this, ← Array.foldl_toList]
  congr 1
  simp
theorem fillK_yes {place : Nat → (Nat → Nat → Ans) → Ans} {pm : Nat → Option (Nat × Nat)} {size : Nat} (hp : ∀ i r, place i r = .yes → ∃ off n, pm i = some (off, n) ∧ off + n ≤ size ∧ r off n = .yes) :
    ∀ {ps : List Nat} {xs : List AV} {c : Tr AV} {k : Tr AV → Ans}, fillK place ps xs c k = .yes →
      ∃ c', k c' = .yes ∧ ∀ β vs (cs : Array Value), conL β xs = some vs → TrR β c cs → cs.size = size → ∃ cs', Instr.fill pm cs (ps.zip vs) = some cs' ∧ TrR β c' cs' ∧ cs'.size = size := by
  intro ps
  induction ps with
  | nil =>
    intro xs c k H
    exact ⟨c, H, fun β vs cs hx hc hs => ⟨cs, by simp [Instr.fill], hc, hs⟩⟩
  | cons i ps ih =>
    intro xs c k H
    cases xs with
    | nil => cases H
    | cons x xs =>
      obtain ⟨off, n, g1, g2, H⟩ := hp i _ H
      obtain ⟨l, H, hv⟩ := cells_yes H
      rw [lenK_eq] at H
      obtain ⟨h3, H⟩ := cnd_yes H
      have h3' := Nat.eq_of_beq_eq_true h3
      rw [writeL_eq] at H
      obtain ⟨c', a1, a2⟩ := ih H
      refine ⟨c', a1, fun β vs cs hx hc hs => ?_⟩
      obtain ⟨v, us, h1, h2, rfl⟩ := conL_cons hx
      obtain ⟨ws, e1, e2, e3⟩ := hv β v h1
      have hlen := conL_len e1
      obtain ⟨cs', b1, b2, b3⟩ := a2 β us _ h2 (hc.putL (off := off) e1 e3 (by omega)) (by rw [setA_size]; exact hs)
      refine ⟨cs', ?_, b2, b3⟩
      rw [List.zip_cons_cons, Instr.fill, g1]
      dsimp only
      rw [e2, List.size_toArray, zipIdx_foldl]
      rw [if_neg (by simp; omega)]
      exact b1
theorem aggOf_yes {c : Tr AV} {n : Nat} {k : List AV → Ans} (H : readN c n 0 k = .yes) : ∃ l, k l = .yes ∧ ∀ β (cs : Array Value), TrR β c cs → cs.size = n → conL β l = some cs.toList ∧ ∀ u ∈ cs.toList, u.oneCell' = true := by
  obtain ⟨l, h1, h2, h3⟩ := readN_yes H
  exact ⟨l, h3, fun β cs hc hs => hc.read hs.symm h1 h2⟩
def placesOf (P : Program) (fs : List Field) : List (Nat × Nat) := fs.map fun f => (f.offset, ((P.info? f.type).map (·.size)).getD 0)
theorem mapM_sizes (w : World) : ∀ (fs : List Field), (fs.all fun f => (P.info? f.type).isSome) = true → (fs.mapM (fun (f : Field) => do pure (f.offset, ← sizeOf f.type)) : Sem (List (Nat × Nat))).run P w = .ok (placesOf P fs) w
  | [], _ => rfl
  | f :: fs, h => by
    simp only [List.all_cons, Bool.and_eq_true] at h
    obtain ⟨ti, hti⟩ := Option.isSome_iff_exists.1 h.1
    have ih := mapM_sizes w fs h.2
    simp only [List.mapM_cons, Sem.run_bind, sizeOf, typeInfo, run_program, Result.andThen_ok, hti, Sem.run_pure] at ih ⊢
    rw [ih]
    simp [placesOf, hti]
theorem buildK_yes {t : TypeId} {ps : List Nat} {xs : List AV} {k : AV → Ans} (H : buildK P t ps xs k = .yes) :
    ∃ v, k v = .yes ∧ ∀ β w (vs : List Value), conL β xs = some vs → ∃ u, (Instr.build t (ps.zip vs).toArray).run P w = .ok u w ∧ con β v = some u := by
  unfold buildK at H
  obtain ⟨i, z, av, hi, hz, hc, H⟩ := zeroK_yes H
  obtain ⟨zl, H, hv⟩ := cells_yes H
  simp only [lenK_eq, writeL_eq] at H
  split at H
  · rename_i fs hd
    obtain ⟨hall, H⟩ := cnd_yes H
    obtain ⟨c', H, hf⟩ := fillK_yes (pm := fun j => (placesOf P fs.toList).toArray[j]?) (size := zl.length) (fun j r hr => by
      cases hj : fs[j]? with
      | none => rw [hj] at hr; cases hr
      | some f =>
        rw [hj] at hr
        obtain ⟨ti, hti, hr⟩ := sizeK_yes hr
        obtain ⟨h1, hr⟩ := cnd_yes hr
        refine ⟨f.offset, ti.size, ?_, by simpa using h1, hr⟩
        simp [placesOf, hj, hti]) H
    obtain ⟨l, H, hl⟩ := aggOf_yes H
    refine ⟨_, H, fun β w vs hx => ?_⟩
    obtain ⟨zs, e1, e2, e3⟩ := hv β z (hc β)
    have hzl := conL_len e1
    obtain ⟨cs', f1, f2, f3⟩ := hf β vs zs.toArray hx (TrR.start e1 e3) (by simp [hzl])
    obtain ⟨g1, g2⟩ := hl β cs' f2 f3
    refine ⟨.agg cs', ?_, con_agg_mk g1 g2⟩
    have hm := mapM_sizes (P := P) w fs.toList hall
    unfold Instr.build zeroValue typeInfo
    simp only [Sem.run_bind, run_program, Result.andThen_ok, hi, hz, Sem.run_pure, run_underlying hd, Array.mapM_eq_mapM_toList, Sem.run_map]
    rw [hm]
    simp only [Result.andThen_ok, e2, f1, Sem.run_pure]
  · rename_i q e hd
    obtain ⟨ti, hti, H⟩ := sizeK_yes H
    obtain ⟨c', H, hf⟩ := fillK_yes (pm := fun j => some (j * ti.size, ti.size)) (size := zl.length) (fun j r hr => by
      rw [fNat_eq] at hr
      obtain ⟨h1, hr⟩ := cnd_yes hr
      exact ⟨_, _, rfl, by simpa using h1, hr⟩) H
    obtain ⟨l, H, hl⟩ := aggOf_yes H
    refine ⟨_, H, fun β w vs hx => ?_⟩
    obtain ⟨zs, e1, e2, e3⟩ := hv β z (hc β)
    have hzl := conL_len e1
    obtain ⟨cs', f1, f2, f3⟩ := hf β vs zs.toArray hx (TrR.start e1 e3) (by simp [hzl])
    obtain ⟨g1, g2⟩ := hl β cs' f2 f3
    refine ⟨.agg cs', ?_, con_agg_mk g1 g2⟩
    unfold Instr.build zeroValue typeInfo sizeOf typeInfo
    simp only [Sem.run_bind, run_program, Result.andThen_ok, hi, hz, hti, Sem.run_pure, run_underlying hd, e2, f1]
  · cases H
end Go.Ev
namespace Go.Ev
variable [Sg]
open Go.RowKit
variable {P : Program}

theorem repK_eq (n : Nat) (zl : List AV) (k : List AV → Ans) : repK n zl k = k (List.replicate n zl).flatten := by
  induction n generalizing k with
  | zero => rfl
  | succ n ih =>
    show repK n zl (fun r => catK zl r k) = _
    rw [ih, catK_eq, List.replicate_succ, List.flatten_cons]
theorem range_rep (z : Array Value) (hz : 0 < z.size) : ∀ n : Nat, ((List.range (n * z.size)).map fun i => z[i % z.size]!) = (List.replicate n z.toList).flatten
  | 0 => by simp
  | n + 1 => by
    rw [List.replicate_succ', List.flatten_concat, ← range_rep z hz n, Nat.succ_mul, List.range_add, List.map_append, List.map_map]
    congr 1
    apply List.ext_getElem
    · simp
    · intro i h1 h2
      have hi : i < z.size := by simpa using h1
      simp [Function.comp_def, Nat.mod_eq_of_lt hi, hi]
theorem conL_rep {β : Bt} {l : List AV} {vs : List Value} (h : conL β l = some vs) : ∀ n, conL β (List.replicate n l).flatten = some (List.replicate n vs).flatten
  | 0 => rfl
  | n + 1 => by rw [List.replicate_succ, List.flatten_cons, List.replicate_succ, List.flatten_cons]; exact conL_append h (conL_rep h n)
theorem zerosK_yes {e : TypeId} {sz n : Nat} {k : List AV → Ans} (H : zerosK P e sz n k = .yes) :
    ∃ l, k l = .yes ∧ l.length = n * sz ∧ ((n = 0 ∧ l = []) ∨ (0 < n ∧ 0 < sz ∧ ∃ i z, P.info? e = some i ∧ i.zero = some z ∧ z.cells.size = sz ∧ ∀ β, conL β l = some (List.replicate n z.cells.toList).flatten ∧ ∀ u ∈ (List.replicate n z.cells.toList).flatten, u.oneCell' = true)) := by
  cases n with
  | zero => exact ⟨[], H, by simp, .inl ⟨rfl, rfl⟩⟩
  | succ n =>
    obtain ⟨i, z, av, hi, hz, hc, H⟩ := zeroK_yes H
    obtain ⟨zl, H, hv⟩ := cells_yes H
    rw [lenK_eq] at H
    obtain ⟨h1, H⟩ := cnd_yes H
    obtain ⟨h2, H⟩ := cnd_yes H
    rw [repK_eq] at H
    have h1' := Nat.eq_of_beq_eq_true h1
    have h2' : 0 < sz := by simpa using h2
    obtain ⟨vs0, e1, e2, e3⟩ := hv (fun _ => none) z (hc _)
    have hl := conL_len e1
    refine ⟨_, H, by simp [List.length_flatten, h1'], .inr ⟨by omega, h2', i, z, hi, hz, by rw [e2]; simp; omega, fun β => ?_⟩⟩
    obtain ⟨vs, f1, f2, f3⟩ := hv β z (hc β)
    rw [f2]
    refine ⟨conL_rep f1 _, fun u hu => ?_⟩
    obtain ⟨l, hl1, hl2⟩ := List.mem_flatten.1 hu
    rw [(List.mem_replicate.1 hl1).2] at hl2
    exact f3 u (by simpa using hl2)
theorem buildSliceK_yes {t : TypeId} {n : Nat} {ps : List Nat} {xs : List AV} {h : Hp} {k : AK} (H : buildSliceK P t n ps xs h k = .yes) :
    ∃ v h', k v h' = .yes ∧ ∀ β w (vs : List Value), HR β h w → conL β xs = some vs → ∃ β' w' u, (Instr.buildSlice t n (ps.zip vs).toArray).run P w = .ok u w' ∧ Stp β h w β' h' w' ∧ con β' v = some u := by
  unfold buildSliceK at H
  split at H
  · rename_i e hd
    obtain ⟨ti, hti, H⟩ := sizeK_yes H
    obtain ⟨hsm, H⟩ := cnd_yes H
    have hsm' : n * ti.size ≤ 65536 := by simpa using hsm
    obtain ⟨zl, H, hzlen, hz⟩ := zerosK_yes H
    simp only [lenK_eq, writeL_eq] at H
    obtain ⟨c', H, hf⟩ := fillK_yes (pm := fun j => some (j * ti.size, ti.size)) (size := zl.length) (fun j r hr => by
      rw [fNat_eq] at hr
      obtain ⟨h1, hr⟩ := cnd_yes hr
      exact ⟨_, _, rfl, by simpa using h1, hr⟩) H
    obtain ⟨l, H, hl⟩ := aggOf_yes H
    cases h with
    | mk t' nx low =>
      rw [newK_eq] at H
      refine ⟨_, _, H, fun β w vs hr hx => ?_⟩
      have fin : ∀ zs : List Value, conL β zl = some zs → (∀ u ∈ zs, u.oneCell' = true) → (∀ cs', Instr.fill (fun i => some (i * ti.size, ti.size)) zs.toArray (ps.zip vs) = some cs' → (Instr.buildSlice t n (ps.zip vs).toArray).run P w = ((newRow e cs').run P w).andThen fun a w' => .ok (.slice (some a) n n) w') →
          ∃ β' w' u, (Instr.buildSlice t n (ps.zip vs).toArray).run P w = .ok u w' ∧ Stp β (.mk t' nx low) w β' (.mk (t'.set (path nx) (some (.cells e l.length (putL l 0 .leaf) true ti.size))) (nx + 1) low) w' ∧ con β' (.slice nx 0 n true n) = some u := by
        intro zs e1 e2 e3
        have hzl := conL_len e1
        obtain ⟨cs', f1, f2, f3⟩ := hf β vs zs.toArray hx (TrR.start e1 e2) (by simp [hzl])
        obtain ⟨g1, g2⟩ := hl β cs' f2 f3
        obtain ⟨β', w', r1, r2, r3⟩ := newRow_of (P := P) (e := e) (sz := ti.size) hr g1 g2 (rfl : true = true)
        refine ⟨β', w', _, ?_, r2, con_slice_mk r3 (.inl rfl)⟩
        rw [e3 cs' f1, show cs' = cs'.toList.toArray by simp, r1]
        rfl
      rcases hz with ⟨rfl, rfl⟩ | ⟨h0, h1, i, z, hi, hzz, hzs, hb⟩
      · refine fin [] rfl (fun u hu => by cases hu) fun cs' hcs => ?_
        unfold Instr.buildSlice sizeOf typeInfo
        simp only [Sem.run_bind, run_program, Result.andThen_ok, hti, Sem.run_pure, run_underlying hd]
        rw [if_neg (by omega), if_pos (by omega)]
        simp only [Sem.run_bind, Sem.run_pure, Result.andThen_ok]
        rw [show ((Array.range (0 * ti.size)).map fun x => (#[] : Array Value)[x % (#[] : Array Value).size]!) = ([] : List Value).toArray by simp, hcs]
        simp only [Sem.run_bind, Sem.run_pure, Result.andThen_ok]
      · rw [hti] at hi; injection hi with hi; subst hi
        refine fin _ (hb β).1 (hb β).2 fun cs' hcs => ?_
        have hr' : ((Array.range (n * ti.size)).map fun x => z.cells[x % z.cells.size]!) = (List.replicate n z.cells.toList).flatten.toArray := by
          apply Array.ext'
          rw [← range_rep z.cells (by omega) n, hzs]
          simp
        unfold Instr.buildSlice sizeOf zeroValue typeInfo
        simp only [Sem.run_bind, run_program, Result.andThen_ok, hti, Sem.run_pure, run_underlying hd]
        rw [if_neg (by omega), if_neg (Nat.mul_ne_zero (by omega) (by omega))]
        simp only [Sem.run_bind, Sem.run_pure, Result.andThen_ok, run_program, hti, hzz]
        rw [hr', hcs]
        simp only [Sem.run_bind, Sem.run_pure, Result.andThen_ok]
  · cases H
end Go.Ev
end
/- The evaluator's operations are the model's: slices, on. -/
section
set_option linter.unusedVariables false
set_option linter.unusedSectionVars false
set_option linter.unusedSimpArgs false
namespace Go.Ev
variable [Sg]
open Go.RowKit
variable {P : Program}

theorem makeSliceK_yes {t : TypeId} {x y : AV} {h : Hp} {k : AK} (H : makeSliceK P t x y h k = .yes) : ∃ v h', k v h' = .yes ∧ Sem2 P (Instr.makeSlice t) x y h v h' := by
  unfold makeSliceK at H
  split at H
  · rename_i e hd
    obtain ⟨n, hn, H⟩ := natOf_yes H
    obtain ⟨c, hc, H⟩ := natOf_yes H
    obtain ⟨ti, hti, H⟩ := sizeK_yes H
    obtain ⟨h1, H⟩ := cnd_yes H
    obtain ⟨h2, H⟩ := cnd_yes H
    obtain ⟨h3, H⟩ := cnd_yes H
    have h1' : n ≤ c := by simpa using h1
    have h2' : c ≤ 65536 := by simpa using h2
    have h3' : ti.bytes ≤ 65536 := by unfold makeSliceK.smallB at h3; rw [hti] at h3; simpa using h3
    obtain ⟨zl, H, hzlen, hz⟩ := zerosK_yes H
    cases h with
    | mk t' nx low =>
      rw [newK_eq] at H
      refine ⟨_, _, H, fun β w a b hr ha hb => ?_⟩
      obtain ⟨q, rfl⟩ := hn β a ha
      obtain ⟨q', rfl⟩ := hc β b hb
      have hwn : IntKind.i64.wrap (n : Int) = n := i64_lit (by omega)
      have hwc : IntKind.i64.wrap (c : Int) = c := i64_lit (by omega)
      have hbb : (ti.bytes : Int) * (c : Int) ≤ 4294967296 := by
        have : ti.bytes * c ≤ 65536 * 65536 := Nat.mul_le_mul h3' h2'
        have e : ((ti.bytes * c : Nat) : Int) = (ti.bytes : Int) * (c : Int) := by simp
        omega
      have fin : ∀ zs : List Value, conL β zl = some zs → (∀ u ∈ zs, u.oneCell' = true) → (Instr.makeSlice t (.int q n) (.int q' c)).run P w = ((newRow e zs.toArray).run P w).andThen (fun a w' => .ok (.slice (some a) n c) w') →
          ∃ β' w' u, (Instr.makeSlice t (.int q n) (.int q' c)).run P w = .ok u w' ∧ Stp β (.mk t' nx low) w β' (.mk (t'.set (path nx) (some (.cells e zl.length (putL zl 0 .leaf) true ti.size))) (nx + 1) low) w' ∧ con β' (.slice nx 0 n true c) = some u := by
        intro zs e1 e2 e3
        obtain ⟨β', w', r1, r2, r3⟩ := newRow_of (P := P) (e := e) (sz := ti.size) hr e1 e2 (rfl : true = true)
        refine ⟨β', w', _, ?_, r2, con_slice_mk r3 (.inl rfl)⟩
        rw [e3, r1]
        rfl
      have hbig : ¬ ((ti.bytes : Int) * (c : Int) > 2 ^ 48) := by
        have : (2 : Int) ^ 48 = 281474976710656 := by decide
        omega
      have hcond : ((((decide ((c : Int) < 0) || decide ((ti.bytes : Int) * (c : Int) > 2 ^ 48)) || decide ((n : Int) < 0)) || decide ((n : Int) > (c : Int))) = true) = False := by
        simp only [Bool.or_eq_true, decide_eq_true_eq, eq_iff_iff, iff_false]
        omega
      rcases hz with ⟨rfl, rfl⟩ | ⟨h0, h1, i, z, hi, hzz, hzs, hb⟩
      · refine fin [] rfl (fun u hu => by cases hu) ?_
        unfold Instr.makeSlice sizeOf typeInfo asInt
        simp only [Sem.run_bind, run_program, Result.andThen_ok, hti, Sem.run_pure, run_underlying hd, run_index_int, hwn, hwc, Sem.run_ite, run_askRoom]
        rw [if_neg (by rw [hcond]; exact id)]
        simp
        rw [show Array.range 0 = #[] from rfl, Array.map_empty]
      · rw [hti] at hi; injection hi with hi; subst hi
        refine fin _ (hb β).1 (hb β).2 ?_
        have hr' : ((Array.range (c * ti.size)).map fun x => z.cells[x % z.cells.size]!) = (List.replicate c z.cells.toList).flatten.toArray := by
          apply Array.ext'
          rw [← range_rep z.cells (by omega) c, hzs]
          simp
        unfold Instr.makeSlice sizeOf zeroValue typeInfo asInt
        simp only [Sem.run_bind, run_program, Result.andThen_ok, hti, Sem.run_pure, run_underlying hd, run_index_int, hwn, hwc, Sem.run_ite, run_askRoom]
        rw [if_neg (by rw [hcond]; exact id)]
        simp only [Int.toNat_natCast]
        rw [if_neg (Nat.mul_ne_zero (by omega) (by omega))]
        simp only [hzz, Sem.run_pure, Result.andThen_ok, hr']
  · cases H
theorem run_bound {x : Value} {q : IntKind} {i y : Nat} {c : BoundsCode} {w : World} (hx : x = .int q i) (h : i ≤ y) : (Instr.sliceBound x y c).run P w = .ok i w := by
  subst hx
  unfold Instr.sliceBound
  simp only [Sem.run_bind, run_index_int, Result.andThen_ok]
  rw [if_pos ⟨by omega, by omega⟩]
  simp
def BdR (x : Option Value) (n d : Nat) : Prop := (x = none ∧ n = d) ∨ ∃ q, x = some (.int q (n : Int))
def OptR (β : Bt) (x : Option AV) (v : Option Value) : Prop := match x, v with | none, none => True | some y, some v => con β y = some v | _, _ => False
theorem bd_of {β : Bt} {x : Option AV} {n d : Nat} (h : (x = none ∧ n = d) ∨ ∃ y, x = some y ∧ ∀ β v, con β y = some v → ∃ q, v = .int q n) {v : Option Value} (hv : OptR β x v) : BdR v n d := by
  rcases h with ⟨rfl, rfl⟩ | ⟨y, rfl, h⟩
  · cases v with
    | none => exact .inl ⟨rfl, rfl⟩
    | some v => exact hv.elim
  · cases v with
    | none => exact hv.elim
    | some v =>
      obtain ⟨q, rfl⟩ := h β v hv
      exact .inr ⟨q, rfl⟩
theorem run_bounds {isS : Bool} {len cap l h m : Nat} {lo hi mx : Option Value} {w : World} (hlo : BdR lo l 0) (hhi : BdR hi h len) (hmx : BdR mx m cap) (h1 : m ≤ cap) (h2 : h ≤ m) (h3 : l ≤ h) (hm : mx.isSome = true → hi.isSome = true) :
    (Instr.sliceBounds isS len cap lo hi mx).run P w = .ok (l, h, m) w := by
  unfold Instr.sliceBounds
  rcases hlo with ⟨rfl, rfl⟩ | ⟨q1, rfl⟩ <;> rcases hhi with ⟨rfl, rfl⟩ | ⟨q2, rfl⟩ <;> rcases hmx with ⟨rfl, rfl⟩ | ⟨q3, rfl⟩ <;>
    first
      | (simp at hm; done)
      | (simp only [Sem.run_bind, Sem.run_pure, Result.andThen_ok, run_bound rfl h1, run_bound rfl h2, run_bound rfl h3])
theorem extract_bytes (l : List Nat) (a b : Nat) (hb : b ≤ l.length) (hab : a ≤ b) : (bytesOf l).extract a b = bytesOf ((l.drop a).take (b - a)) := by
  unfold bytesOf
  apply ByteArray.ext
  simp [ByteArray.extract, ByteArray.copySlice, List.extract_eq_take_drop]
theorem sliceK_yes {t : TypeId} {x : AV} {lo hi mx : Option AV} {k : AV → Ans} (hm : mx.isSome = true → hi.isSome = true) (H : sliceK P t x lo hi mx k = .yes) :
    ∃ v, k v = .yes ∧ ∀ β w a (lo' hi' mx' : Option Value), con β x = some a → OptR β lo lo' → OptR β hi hi' → OptR β mx mx' → ∃ u, (Instr.sliceAt t a lo' hi' mx').run P w = .ok u w ∧ con β v = some u := by
  have hm' : ∀ {β : Bt} {hi' mx' : Option Value}, OptR β hi hi' → OptR β mx mx' → mx'.isSome = true → hi'.isSome = true := by
    intro β hi' mx' h1 h2 h3
    cases mx' with
    | none => cases h3
    | some v =>
      cases mx with
      | none => exact h2.elim
      | some y =>
        have := hm rfl
        cases hi with
        | none => cases this
        | some z =>
          cases hi' with
          | none => exact h1.elim
          | some z' => rfl
  unfold sliceK at H
  split at H
  · rename_i n l hd
    split at H
    · cases H
    · obtain ⟨a, H, ha⟩ := optOf_yes H
      obtain ⟨b, H, hb⟩ := optOf_yes H
      obtain ⟨h1, H⟩ := cnd_yes H
      obtain ⟨h2, H⟩ := cnd_yes H
      have h1' : b ≤ n := by simpa using h1
      have h2' : a ≤ b := by simpa using h2
      simp only [dropK_eq, fNat_eq, takeK_eq] at H
      refine ⟨_, H, fun β w v lo' hi' mx' hv r1 r2 r3 => ?_⟩
      obtain ⟨rfl, h3, h4⟩ := con_str_inv hv
      have e3 : mx' = none := by cases mx' with | none => rfl | some _ => exact r3.elim
      subst e3
      refine ⟨.string ((bytesOf l).extract a b), ?_, ?_⟩
      · have hs := run_bounds (P := P) (isS := false) (len := (bytesOf l).size) (cap := (bytesOf l).size) (w := w) (bd_of ha r1) (by rw [bytesOf_size, ← h3]; exact bd_of hb r2) (mx := none) (m := (bytesOf l).size) (.inl ⟨rfl, rfl⟩) (Nat.le_refl _) (by rw [bytesOf_size]; omega) h2' (by simp)
        unfold Instr.sliceAt
        simp only [Sem.run_bind, run_underlying hd, Result.andThen_ok]
        unfold Instr.slice
        simp only [Sem.run_bind, run_underlying hd, Result.andThen_ok, Option.isSome_none, Bool.false_eq_true, if_false, hs, Sem.run_pure]
      · rw [extract_bytes l a b (by omega) h2']
        refine con_str_mk (by simp; omega) ?_
        rw [List.all_eq_true] at h4 ⊢
        exact fun y hy => h4 y (List.mem_of_mem_drop (List.mem_of_mem_take hy))
  · rename_i e hd
    obtain ⟨ti, hti, H⟩ := sizeK_yes H
    obtain ⟨a, H, ha⟩ := optOf_yes H
    obtain ⟨b, H, hb⟩ := optOf_yes H
    obtain ⟨m, H, hc⟩ := optOf_yes H
    obtain ⟨h1, H⟩ := cnd_yes H
    have h1' := Nat.eq_of_beq_eq_true h1
    obtain rfl : a = 0 := by omega
    obtain rfl : b = 0 := by omega
    obtain rfl : m = 0 := by omega
    refine ⟨_, H, fun β w v lo' hi' mx' hv r1 r2 r3 => ⟨.slice none 0 0, ?_, rfl⟩⟩
    obtain ⟨rfl, -⟩ := con_raw hv
    have hs := run_bounds (P := P) (isS := true) (len := 0) (cap := 0) (w := w) (bd_of ha r1) (bd_of hb r2) (bd_of hc r3) (Nat.le_refl _) (Nat.le_refl _) (Nat.le_refl _) (hm' r2 r3)
    unfold Instr.sliceAt
    simp only [Sem.run_bind, run_underlying hd, Result.andThen_ok]
    unfold Instr.slice
    simp only [Sem.run_bind, run_underlying hd, Result.andThen_ok, hs, sizeOf, typeInfo, run_program, hti, Sem.run_pure]
    rfl
  · rename_i e b off len c hd
    obtain ⟨ti, hti, H⟩ := sizeK_yes H
    obtain ⟨m, H, hc⟩ := optOf_yes H
    obtain ⟨q, H, hb⟩ := optOf_yes H
    obtain ⟨a, H, ha⟩ := optOf_yes H
    obtain ⟨h1, H⟩ := cnd_yes H
    obtain ⟨h2, H⟩ := cnd_yes H
    obtain ⟨h3, H⟩ := cnd_yes H
    have h1' : m ≤ c := by simpa using h1
    have h2' : q ≤ m := by simpa using h2
    have h3' : a ≤ q := by simpa using h3
    simp only [fNat_eq] at H
    have hrun : ∀ β w v lo' hi' mx', con β (.slice b off len true c) = some v → OptR β lo lo' → OptR β hi hi' → OptR β mx mx' → ∃ cb κ, β b = some (cb, κ) ∧ (Instr.sliceAt t v lo' hi' mx').run P w = .ok (.slice (some (if m = a then ⟨cb, off, none⟩ else ⟨cb, off + a * ti.size, none⟩)) (q - a) (m - a)) w := by
      intro β w v lo' hi' mx' hv r1 r2 r3
      obtain ⟨cb, κ, e1, rfl⟩ := con_slice hv
      refine ⟨cb, κ, e1, ?_⟩
      have hs := run_bounds (P := P) (isS := true) (len := len) (cap := c) (w := w) (bd_of ha r1) (bd_of hb r2) (bd_of hc r3) h1' h2' h3' (hm' r2 r3)
      unfold Instr.sliceAt
      simp only [Sem.run_bind, run_underlying hd, Result.andThen_ok]
      unfold Instr.slice
      simp only [Sem.run_bind, run_underlying hd, Result.andThen_ok, if_true, hs, sizeOf, typeInfo, run_program, hti, Sem.run_pure]
      congr 2
      split
      · rfl
      · simp [Addr.add_lit]
    rw [cnd_eq] at H
    split at H
    · rename_i hma
      have hma' := Nat.eq_of_beq_eq_true hma
      refine ⟨_, H, fun β w v lo' hi' mx' hv r1 r2 r3 => ?_⟩
      obtain ⟨cb, κ, e1, e2⟩ := hrun β w v lo' hi' mx' hv r1 r2 r3
      rw [if_pos hma'] at e2
      exact ⟨_, e2, con_slice_mk e1 (.inl rfl)⟩
    · rename_i hma
      have hma' : ¬ m = a := fun e => hma (by rw [e]; exact Nat.beq_refl a)
      refine ⟨_, H, fun β w v lo' hi' mx' hv r1 r2 r3 => ?_⟩
      obtain ⟨cb, κ, e1, e2⟩ := hrun β w v lo' hi' mx' hv r1 r2 r3
      rw [if_neg hma'] at e2
      exact ⟨_, e2, con_slice_mk e1 (.inl rfl)⟩
  · rename_i e b off len c hd
    obtain ⟨ti, hti, H⟩ := sizeK_yes H
    split at H
    · cases H
    obtain ⟨q, H, hb⟩ := optOf_yes H
    obtain ⟨a, H, ha⟩ := optOf_yes H
    obtain ⟨h2, H⟩ := cnd_yes H
    obtain ⟨h3, H⟩ := cnd_yes H
    have h2' : q ≤ len := by simpa using h2
    have h3' : a ≤ q := by simpa using h3
    have hrun : ∀ β w v lo' hi' mx', con β (.slice b off len false c) = some v → OptR β lo lo' → OptR β hi hi' → OptR β none mx' → ∃ cb κ, β b = some (cb, κ) ∧ c + len ≤ κ ∧ (Instr.sliceAt t v lo' hi' mx').run P w = .ok (.slice (some (if κ - c = a then ⟨cb, off, none⟩ else ⟨cb, off + a * ti.size, none⟩)) (q - a) (κ - c - a)) w := by
      intro β w v lo' hi' mx' hv r1 r2 r3
      obtain ⟨cb, κ, e1, rfl, e2⟩ := con_slice' hv
      have e2' : c + len ≤ κ := by rcases e2 with h | h; cases h; exact h
      refine ⟨cb, κ, e1, e2', ?_⟩
      have e3 : mx' = none := by cases mx' with | none => rfl | some _ => exact r3.elim
      subst e3
      have hs := run_bounds (P := P) (isS := true) (len := len) (cap := κ - c) (w := w) (bd_of ha r1) (bd_of hb r2) (mx := none) (m := κ - c) (.inl ⟨rfl, rfl⟩) (Nat.le_refl _) (by omega) h3' (by simp)
      unfold Instr.sliceAt
      simp only [Sem.run_bind, run_underlying hd, Result.andThen_ok]
      unfold Instr.slice
      simp only [Sem.run_bind, run_underlying hd, Result.andThen_ok, Bool.false_eq_true, if_false, hs, sizeOf, typeInfo, run_program, hti, Sem.run_pure]
      congr 2
      split
      · rfl
      · simp [Addr.add_lit]
    rw [cnd_eq] at H
    split at H
    · rename_i hma
      have hma' := Nat.eq_of_beq_eq_true hma
      refine ⟨_, H, fun β w v lo' hi' mx' hv r1 r2 r3 => ?_⟩
      obtain ⟨cb, κ, e1, e3, e2⟩ := hrun β w v lo' hi' mx' hv r1 r2 r3
      refine ⟨_, e2, ?_⟩
      rw [con_slice_mk e1 (.inr (by omega))]
      subst hma'
      simp
    · rename_i hma
      obtain ⟨h4, H⟩ := cnd_yes H
      have h4' : a < len := by simpa using h4
      simp only [fNat_eq] at H
      refine ⟨_, H, fun β w v lo' hi' mx' hv r1 r2 r3 => ?_⟩
      obtain ⟨cb, κ, e1, e3, e2⟩ := hrun β w v lo' hi' mx' hv r1 r2 r3
      rw [if_neg (by omega)] at e2
      refine ⟨_, e2, ?_⟩
      rw [con_slice_mk e1 (.inr (by omega))]
      simp; omega
  · rename_i n e b off hd
    obtain ⟨ti, hti, H⟩ := sizeK_yes H
    obtain ⟨m, H, hc⟩ := optOf_yes H
    obtain ⟨q, H, hb⟩ := optOf_yes H
    obtain ⟨a, H, ha⟩ := optOf_yes H
    obtain ⟨h1, H⟩ := cnd_yes H
    obtain ⟨h2, H⟩ := cnd_yes H
    obtain ⟨h3, H⟩ := cnd_yes H
    have h1' : m ≤ n := by simpa using h1
    have h2' : q ≤ m := by simpa using h2
    have h3' : a ≤ q := by simpa using h3
    simp only [fNat_eq] at H
    have hrun : ∀ β w v lo' hi' mx', con β (.ptr b off) = some v → OptR β lo lo' → OptR β hi hi' → OptR β mx mx' → ∃ cb κ, β b = some (cb, κ) ∧ (Instr.sliceAt t v lo' hi' mx').run P w = .ok (.slice (some (if m = a then ⟨cb, off, none⟩ else ⟨cb, off + a * ti.size, none⟩)) (q - a) (m - a)) w := by
      intro β w v lo' hi' mx' hv r1 r2 r3
      obtain ⟨cb, κ, e1, rfl⟩ := con_ptr hv
      refine ⟨cb, κ, e1, ?_⟩
      have hs := run_bounds (P := P) (isS := false) (len := n) (cap := n) (w := w) (bd_of ha r1) (bd_of hb r2) (bd_of hc r3) h1' h2' h3' (hm' r2 r3)
      unfold Instr.sliceAt
      simp only [Sem.run_bind, run_underlying hd, Result.andThen_ok, Instr.sureAddr, Sem.run_pure, hs, sizeOf, typeInfo, run_program, hti]
      congr 2
      split
      · rfl
      · simp [Addr.add_lit]
    rw [cnd_eq] at H
    split at H
    · rename_i hma
      have hma' := Nat.eq_of_beq_eq_true hma
      refine ⟨_, H, fun β w v lo' hi' mx' hv r1 r2 r3 => ?_⟩
      obtain ⟨cb, κ, e1, e2⟩ := hrun β w v lo' hi' mx' hv r1 r2 r3
      rw [if_pos hma'] at e2
      exact ⟨_, e2, con_slice_mk e1 (.inl rfl)⟩
    · rename_i hma
      have hma' : ¬ m = a := fun e => hma (by rw [e]; exact Nat.beq_refl a)
      refine ⟨_, H, fun β w v lo' hi' mx' hv r1 r2 r3 => ?_⟩
      obtain ⟨cb, κ, e1, e2⟩ := hrun β w v lo' hi' mx' hv r1 r2 r3
      rw [if_neg hma'] at e2
      exact ⟨_, e2, con_slice_mk e1 (.inl rfl)⟩
  · cases H
end Go.Ev
namespace Go.Ev
variable [Sg]
open Go.RowKit
variable {P : Program}

structure SrcR (P : Program) (sz : Nat) (a : Value) (n : Nat) (vs : List Value) (w : World) : Prop where
  len : ∀ w' : World, (Builtin.lenOf a).run P w' = .ok n w'
  cells : ∀ m, m ≤ n → (Builtin.firstCells sz m a).run P w = .ok (vs.take (m * sz)).toArray w
  cellsD : ∀ m, m ≤ n → (Builtin.firstCells sz m a).run P w.drew = .ok (vs.take (m * sz)).toArray w.drew
  newsLen : vs.length = n * sz
  one : ∀ u ∈ vs, u.oneCell' = true
theorem SrcR.src {sz : Nat} {a : Value} {n : Nat} {vs : List Value} {w : World} (h : SrcR P sz a n vs w) {tx : TypeId} (hk : (∃ e', P.underlying tx = some (.slice e')) ∨ P.underlying tx = some .string) : Src P sz tx a n vs w := by
  have e : vs.take (n * sz) = vs := List.take_of_length_le (by rw [h.newsLen]; exact Nat.le_refl _)
  exact ⟨hk, h.len, by rw [h.cells n (Nat.le_refl _), e], by rw [h.cellsD n (Nat.le_refl _), e], h.newsLen, h.one⟩
theorem sourceK_yes {sz : Nat} {x : AV} {h : Hp} {k : Nat → List AV → Ans} (H : sourceK sz x h k = .yes) :
    ∃ n l, k n l = .yes ∧ ∀ β w a, HR β h w → con β x = some a → ∃ vs, conL β l = some vs ∧ SrcR P sz a n vs w := by
  unfold sourceK at H
  split at H
  · rename_i n l
    obtain ⟨h1, H⟩ := cnd_yes H
    obtain rfl := Nat.eq_of_beq_eq_true h1
    rw [u8L_eq] at H
    refine ⟨_, _, H, fun β w a hr ha => ?_⟩
    obtain ⟨rfl, h3, h4⟩ := con_str_inv ha
    have hfc : ∀ m, m ≤ n → ∀ w' : World, (Builtin.firstCells 1 m (.string (bytesOf l))).run P w' = .ok ((byteCells (bytesOf l)).take (m * 1)).toArray w' := by
      intro m hm w'
      simp only [Builtin.firstCells, Sem.run_pure]
      congr 1
      apply Array.ext'
      rw [extract_bytes l 0 m (by omega) (Nat.zero_le _)]
      simp [byteCells, bytesOf]
    refine ⟨_, conL_u8 β h4, ⟨fun w' => ?_, fun m hm => hfc m hm w, fun m hm => hfc m hm _, by rw [byteCells_length, bytesOf_size]; omega, fun u hu => by
      obtain ⟨_, _, rfl⟩ := List.mem_map.1 hu; rfl⟩⟩
    show Result.ok (bytesOf l).size w' = _
    rw [bytesOf_size, h3]
  · rename_i b off n ex d
    simp only [fNat_eq] at H
    obtain ⟨l, e', m, c, ex, sz', g1, g2, g3, g4, H⟩ := getK_yes H
    refine ⟨_, _, H, fun β w a hr ha => ?_⟩
    obtain ⟨cb, κ, vs, e1, e2, e3, e4, e5⟩ := cells_of hr g1 g2 g3 g4
    obtain ⟨c', κ', e6, rfl⟩ := con_slice ha
    rw [e1] at e6; injection e6 with e6; injection e6 with e6 e7; subst e6
    have hfc : ∀ w' : World, (∀ p, w'.cell? p = w.cell? p) → ∀ m, m ≤ n → (Builtin.firstCells sz m (.slice (some ⟨cb, off, none⟩) n (if ex = true then d else κ' - d))).run P w' = .ok (vs.take (m * sz)).toArray w' := by
      intro w' hw' m hm
      have hmn : m * sz ≤ n * sz := Nat.mul_le_mul_right _ hm
      refine run_firstCells_some w' sz m ⟨cb, off, none⟩ n _ (vs.take (m * sz)) (by rw [List.length_take, e4]; omega) fun j v hj => ?_
      rw [Addr.add_lit, hw']
      rw [List.getElem?_take] at hj
      split at hj
      · exact e5 j v hj
      · cases hj
    exact ⟨vs, e2, ⟨fun w' => rfl, hfc w (fun _ => rfl), hfc w.drew (fun p => by simp), e4, e3⟩⟩
  · rename_i n c
    obtain ⟨h1, H⟩ := cnd_yes H
    obtain rfl := Nat.eq_of_beq_eq_true h1
    refine ⟨_, _, H, fun β w a hr ha => ⟨[], rfl, ?_⟩⟩
    obtain ⟨rfl, -⟩ := con_raw ha
    refine ⟨fun w' => rfl, fun m hm => ?_, fun m hm => ?_, by simp, fun u hu => by cases hu⟩
    · simp [Builtin.firstCells]
    · simp [Builtin.firstCells]
  · cases H
theorem append_any {ts : Array TypeId} {t tx ty : TypeId} {s x : Value} (h0 : ts[0]? = some t) (h1 : ts[1]? = some tx) : Builtin.append_ ts ty #[s, x] = Builtin.append_ #[t, tx] ty #[s, x] := by
  unfold Builtin.append_
  rw [h0, h1]
  rfl
theorem zeroCells_len (z : Array Value) (n : Nat) : (Builtin.zeroCells z n).size = n * z.size := by simp [Builtin.zeroCells]
theorem growK_yes {e : TypeId} {sz : Nat} {old new : List AV} {need : Nat} {h : Hp} {k : AK} (H : growK P e sz old new need h k = .yes) :
    ∃ v h' i z, k v h' = .yes ∧ (∀ t n low, h = .mk t n low → v = .slice n 0 need false 0 ∧ h' = .mk (t.set (path n) (some (.cells e (old ++ new).length (putL (old ++ new) 0 .leaf) false sz))) (n + 1) low) ∧ need ≤ 65536 ∧ P.info? e = some i ∧ i.bytes ≤ 65536 ∧ i.zero = some z ∧
      ∀ β w (os ns : List Value) (cap : Nat), HR β h w → conL β old = some os → conL β new = some ns → (∀ u ∈ os, u.oneCell' = true) → (∀ u ∈ ns, u.oneCell' = true) → os.length + ns.length = need * sz → need ≤ cap →
        ∃ β', Stp β h w β' h' (w.drew.alloc (.cells ((os ++ ns).toArray ++ Builtin.zeroCells z.cells (cap - need)) e)) ∧ con β' v = some (.slice (some ⟨w.heap.size, 0, none⟩) need cap) := by
  unfold growK at H
  rw [catK_eq] at H
  obtain ⟨h1, H⟩ := cnd_yes H
  obtain ⟨h2, H⟩ := cnd_yes H
  obtain ⟨i, z, av, hi, hz, hc, H⟩ := zeroK_yes H
  obtain ⟨zl, H, hv⟩ := cells_yes H
  rw [lenK_eq] at H
  obtain ⟨h3, H⟩ := cnd_yes H
  have h1' : need ≤ 65536 := by simpa using h1
  have h3' := Nat.eq_of_beq_eq_true h3
  have h2' : i.bytes ≤ 65536 := by unfold makeSliceK.smallB at h2; rw [hi] at h2; simpa using h2
  cases h with
  | mk t nx low =>
    rw [newK_eq] at H
    refine ⟨_, _, i, z, H, fun t2 n2 low2 e2 => by injection e2 with e3 e4 e5; subst e3; subst e4; subst e5; exact ⟨rfl, rfl⟩, h1', hi, h2', hz, fun β w os ns cap hr ho hn h4 h5 hlen hcap => ?_⟩
    obtain ⟨zs, f1, f2, f3⟩ := hv β z (hc β)
    have hzl := conL_len f1
    have hzs : z.cells.size = sz := by rw [f2]; simp; omega
    refine ⟨upd β nx w.heap.size cap, new_stp (κ := cap) (fz := (0, 0)) (Builtin.zeroCells z.cells (cap - need)).toList hr (conL_append ho hn) (fun u hu => (List.mem_append.1 hu).elim (h4 u) (h5 u)) ?_ rfl rfl rfl (fun i hi => by simp) (fun h => by cases h) (fun _ => ?_), ?_⟩
    · show (w.heap.push _) = _
      congr 2
      apply Array.ext'
      simp
    · have hz2 : (Builtin.zeroCells z.cells (cap - need)).toList.length = (cap - need) * sz := by rw [Array.length_toList, zeroCells_len, hzs]
      rw [List.length_append, List.length_append, hz2, hlen, ← Nat.add_mul]
      congr 1; omega
    · rw [con_slice_mk (upd_same ..) (.inr (by omega))]; simp
theorem srcTy_yes {ts : Array TypeId} (h : srcTy P ts = true) : ∃ tx, ts[1]? = some tx ∧ ((∃ e', P.underlying tx = some (.slice e')) ∨ P.underlying tx = some .string) := by
  unfold srcTy at h
  split at h
  · rename_i e hb
    obtain ⟨tx, h1, h2⟩ := Option.bind_eq_some_iff.1 hb
    exact ⟨tx, h1, .inl ⟨e, h2⟩⟩
  · rename_i hb
    obtain ⟨tx, h1, h2⟩ := Option.bind_eq_some_iff.1 hb
    exact ⟨tx, h1, .inr h2⟩
  · cases h
theorem Stp.moved {β : Bt} {t : Tr Blk} {n low b cb κ : Nat} {w w' : World} {old blk : Blk} (hr : HR β (.mk t n low) w) (hold : t.get (path b) = some old) (hβ : β b = some (cb, κ)) (hsz : w'.heap.size = w.heap.size)
    (hoth : ∀ i, i < w.heap.size → i ≠ cb → w'.heap[i]? = w.heap[i]?) (h1 : w'.os = w.os) (h2 : w'.tape = w.tape) (h3 : w'.output = w.output) (hb : BlkR (upd β n cb κ) κ w'.heap[cb]? blk) :
    Stp β (.mk t n low) w (upd β n cb κ) (.mk ((t.set (path b) none).set (path n) (some blk)) (n + 1) (min low b)) w' := by
  have hlow : low ≤ n := hr.low
  have hbn : b < n := (hr.blk b old hold).1
  have hn : β n = none := hr.fresh n (Nat.le_refl _)
  have hlt : ∀ b x, t.get (path b) = some x → ∃ cb κ', β b = some (cb, κ') ∧ cb < w.heap.size := by
    intro b x hx
    obtain ⟨_, cb, κ', e, hB⟩ := hr.blk b x hx
    refine ⟨cb, κ', e, ?_⟩
    cases x with
    | cells e' len c ex esz => obtain ⟨cs, fz, e2, -⟩ := hB; exact (Array.getElem?_eq_some_iff.1 e2).1
    | map es clock => obtain ⟨ms, e2, -⟩ := hB; exact (Array.getElem?_eq_some_iff.1 e2).1
    | iter l p => exact (Array.getElem?_eq_some_iff.1 hB.1).1
    | miter b s => obtain ⟨_, _, _, e2⟩ := hB; exact (Array.getElem?_eq_some_iff.1 e2).1
  have go : ∀ b' x, ((t.set (path b) none).set (path n) (some blk)).get (path b') = some x → (b' = n ∧ x = blk) ∨ (b' ≠ n ∧ b' ≠ b ∧ t.get (path b') = some x) := by
    intro b' x hx
    rw [get_set, get_set] at hx
    by_cases e1 : b' = n
    · subst e1; rw [if_pos rfl] at hx; injection hx with hx; exact .inl ⟨rfl, hx.symm⟩
    · rw [if_neg (path_ne e1)] at hx
      by_cases e2 : b' = b
      · subst e2; rw [if_pos rfl] at hx; cases hx
      · rw [if_neg (path_ne e2)] at hx; exact .inr ⟨e1, e2, hx⟩
  refine ⟨⟨fun b' x hx => ?_, fun b1 b2 x x' c κ1 κ2 hx hx' e e' => ?_, fun i hi => ?_, ?_⟩, by show n ≤ n + 1; omega, Nat.min_le_left _ _, fun b' hb' => upd_ne (by intro e; subst e; exact Nat.lt_irrefl _ hb'), fun b' c κ' hb' e => ?_, ⟨h1, h2, h3, by omega, fun c hc hne => ?_⟩⟩
  · rcases go b' x hx with ⟨rfl, rfl⟩ | ⟨e1, e2, hx⟩
    · exact ⟨by show b' < b' + 1; omega, cb, κ, upd_same .., hb⟩
    · obtain ⟨h4, cb', κ', e, hB⟩ := hr.blk b' x hx
      have h4' : b' < n := h4
      obtain ⟨cb2, κ2, e2', hcb⟩ := hlt b' x hx
      rw [e] at e2'; injection e2' with e2'; injection e2' with e2' e3; subst e2'
      refine ⟨by show b' < n + 1; omega, cb', κ', by rw [upd_ne e1]; exact e, ?_⟩
      rw [hoth cb' hcb (fun ec => e2 (hr.inj b' b x old cb' κ' κ hx hold e (by rw [ec]; exact hβ)))]
      exact hB.mono (upd_le hn)
  · rcases go b1 x hx with ⟨rfl, rfl⟩ | ⟨e1, e2, gx⟩
    · rcases go b2 x' hx' with ⟨rfl, rfl⟩ | ⟨f1, f2, gx'⟩
      · rfl
      · rw [upd_same] at e; injection e with e; injection e with e _
        rw [upd_ne f1] at e'
        exact absurd (hr.inj b2 b x' old c κ2 κ gx' hold e' (by rw [← e]; exact hβ)) f2
    · rw [upd_ne e1] at e
      rcases go b2 x' hx' with ⟨rfl, rfl⟩ | ⟨f1, f2, gx'⟩
      · rw [upd_same] at e'; injection e' with e'; injection e' with e' _
        exact absurd (hr.inj b1 b x old c κ1 κ gx hold e (by rw [← e']; exact hβ)) e2
      · rw [upd_ne f1] at e'
        exact hr.inj b1 b2 x x' c κ1 κ2 gx gx' e e'
  · have hi' : n + 1 ≤ i := hi
    rw [upd_ne (by omega)]; exact hr.fresh i (show n ≤ i by omega)
  · show min low b ≤ n + 1; omega
  · have hb'' : n ≤ b' := hb'
    by_cases e1 : b' = n
    · subst e1
      rw [upd_same] at e; injection e with e; injection e with e _; subst e
      exact .inr ⟨b, κ, Nat.min_le_right low b, hbn, hβ⟩
    · rw [upd_ne e1, hr.fresh b' hb''] at e; cases e
  · refine hoth c hc fun e => ?_
    subst e
    exact hne b κ (Nat.min_le_right low b) hβ
theorem HR.forget {β : Bt} {t : Tr Blk} {n low low' b : Nat} {w : World} (hr : HR β (.mk t n low) w) (hl : low' ≤ low) : HR β (.mk (t.set (path b) none) n low') w := by
  have go : ∀ b' x, (t.set (path b) none).get (path b') = some x → t.get (path b') = some x := by
    intro b' x hx
    rw [get_set] at hx
    by_cases e : path b' = path b
    · rw [if_pos e] at hx; cases hx
    · rw [if_neg e] at hx; exact hx
  exact ⟨fun b' x hx => hr.blk b' x (go b' x hx), fun b1 b2 x x' c κ κ' hx hx' e e' => hr.inj b1 b2 x x' c κ κ' (go b1 x hx) (go b2 x' hx') e e', hr.fresh, Nat.le_trans hl hr.low⟩
theorem Stp.forget {β : Bt} {t : Tr Blk} {n low low' b : Nat} {w : World} (hr : HR β (.mk t n low) w) (hl : low' ≤ low) : Stp β (.mk t n low) w β (.mk (t.set (path b) none) n low') w :=
  ⟨hr.forget hl, Nat.le_refl _, hl, fun _ _ => rfl, (fun b c κ hb e => by rw [hr.fresh b hb] at e; cases e), Kept.refl _ _ _⟩
theorem run_first {w : World} {a : Addr} {size n cap : Nat} {os : List Value} (hl : os.length = n * size) (h : ∀ j v, os[j]? = some v → w.cell? (a.add j) = some v) : (Builtin.firstCells size n (.slice (some a) n cap)).run P w.drew = .ok os.toArray w.drew :=
  run_firstCells_some w.drew size n a n cap os hl (fun j v hv => by simpa using h j v hv)
theorem appendK_yes {ts : Array TypeId} {ty : TypeId} {s x : AV} {h : Hp} {k : AK} (H : appendK P ts s x h k = .yes) : ∃ v h', k v h' = .yes ∧ Sem2 P (fun a b => Builtin.append_ ts ty #[a, b]) s x h v h' := by
  unfold appendK at H
  split at H
  · rename_i e hts
    obtain ⟨t, h0, hd⟩ := Option.bind_eq_some_iff.1 hts
    obtain ⟨hsrc, Ha⟩ := cnd_yes H
    obtain ⟨tx, h1, hk⟩ := srcTy_yes hsrc
    obtain ⟨ti, hti, Hb⟩ := sizeK_yes Ha
    obtain ⟨n, new, Hc, hsr⟩ := sourceK_yes (P := P) Hb
    clear H Ha Hb
    have arg : ∀ a b, Builtin.append_ ts ty #[a, b] = Builtin.append_ #[t, tx] ty #[a, b] := fun a b => append_any h0 h1
    have room : ∀ {b off len cap : Nat} {β : Bt} {w : World} {y : Value} {vs : List Value} {cb : Nat}, SrcR P ti.size y n vs w → len + n ≤ cap → (∀ j, j < vs.length → (w.cell? ⟨cb, off + len * ti.size + j, none⟩).isSome = true) → (∀ j, j < vs.length → w.frozen? ⟨cb, off + len * ti.size + j, none⟩ = false) →
        (Builtin.append_ #[t, tx] ty #[.slice (some ⟨cb, off, none⟩) len cap, y]).run P w = .ok (.slice (some ⟨cb, off, none⟩) (len + n) cap) (w.setCells cb (off + len * ti.size) vs) := by
      intro b off len cap β w y vs cb hs hle f2 f3
      exact run_append_room_src (P := P) w t tx ty e ti hd hti cb off len cap y n vs (hs.src hk) hle f2 f3
    have grow : ∀ {old : List AV} {need : Nat} {h : Hp} {k : AK}, growK P e ti.size old new need h k = .yes → ∃ v h', k v h' = .yes ∧
        ∀ β w (base : Option Addr) (len cap : Nat) (os : List Value) (y : Value) (ns : List Value), HR β h w → conL β old = some os → conL β new = some ns → SrcR P ti.size y n ns w → len + n = need → cap < need → os.length = len * ti.size → (∀ u ∈ os, u.oneCell' = true) →
          (Builtin.firstCells ti.size len (.slice base len cap)).run P w.drew = .ok os.toArray w.drew → ∃ β' w' u, (Builtin.append_ #[t, tx] ty #[.slice base len cap, y]).run P w = .ok u w' ∧ Stp β h w β' h' w' ∧ con β' v = some u := by
      intro old need h k H
      obtain ⟨v, h', i, z, H, -, hneed, hi, hby, hz, hall⟩ := growK_yes H
      rw [hti] at hi; injection hi with hi; subst hi
      refine ⟨v, h', H, fun β w base len cap os y ns hr ho hn hs hle hcap hlo h1o hold => ?_⟩
      subst hle
      have hfit : Builtin.nextslicecap (len + n) cap * ti.bytes ≤ 281474976710656 := growslice_fits hcap (by
        have : (len + n) * ti.bytes ≤ 65536 * 65536 := Nat.mul_le_mul hneed hby
        omega)
      obtain ⟨β', g1, g2⟩ := hall β w os ns (grownCap w (len + n) cap e) hr ho hn h1o hs.one (by rw [hlo, hs.newsLen, ← Nat.add_mul]) (grownCap_ge ..)
      exact ⟨β', _, _, run_append_grow_src (P := P) w t tx ty e ti z hd hti hz base len cap os hold y n ns (hs.src hk) hcap (by omega) hfit, g1, g2⟩
    split at Hc
    · rw [cnd_eq] at Hc
      split at Hc
      · rename_i hn0
        have hn0' := Nat.eq_of_beq_eq_true hn0
        subst hn0'
        refine ⟨_, _, Hc, fun β w a b hr ha hb => ?_⟩
        obtain ⟨rfl, -⟩ := con_raw ha
        obtain ⟨vs, e1, hs⟩ := hsr β w b hr hb
        refine ⟨β, w, .slice none 0 0, ?_, .refl hr, rfl⟩
        show (Builtin.append_ ts ty #[_, b]).run P w = _
        rw [arg]
        exact run_append_nothing (P := P) w t tx ty e ti hd hti none 0 0 (Nat.le_refl _) b (by
          obtain rfl : vs = [] := List.eq_nil_of_length_eq_zero (by have := hs.newsLen; omega)
          exact hs.src hk)
      · rename_i hn0
        have hn0' : n ≠ 0 := fun e => hn0 (by rw [e]; rfl)
        obtain ⟨v, h', H, hg⟩ := grow Hc
        refine ⟨v, h', H, fun β w a b hr ha hb => ?_⟩
        obtain ⟨rfl, -⟩ := con_raw ha
        obtain ⟨vs, e1, hs⟩ := hsr β w b hr hb
        obtain ⟨β', w', u, r1, r2, r3⟩ := hg β w none 0 0 [] b vs hr rfl e1 hs (by omega) (by omega) (by simp) (fun u hu => by cases hu) (by simp [Builtin.firstCells])
        exact ⟨β', w', u, by show (Builtin.append_ ts ty #[_, b]).run P w = _; rw [arg]; exact r1, r2, r3⟩
    · rename_i b off len c
      simp only [fNat_eq] at Hc
      rw [cnd_eq] at Hc
      split at Hc
      · rename_i hroom
        have hroom' : len + n ≤ c := by simpa using hroom
        obtain ⟨t', nx, low, e', m, ct, ex, sz', rfl, g1, g2, H⟩ := putK_yes Hc
        refine ⟨_, _, H, fun β w a y hr ha hy => ?_⟩
        obtain ⟨vs, e1, hs⟩ := hsr β w y hr hy
        obtain ⟨cb, κ, f1, f2, f3, f4⟩ := put_stp hr g1 g2 e1 hs.one
        obtain ⟨c', κ', e6, rfl⟩ := con_slice ha
        rw [f1] at e6; injection e6 with e6; injection e6 with e6 e7; subst e6
        refine ⟨β, _, _, ?_, f4, con_slice_mk f1 (.inl rfl)⟩
        show (Builtin.append_ ts ty #[_, y]).run P w = _
        rw [arg]
        exact room (b := b) (β := β) hs hroom' f2 f3
      · rename_i hroom
        have hroom' : c < len + n := by simpa using hroom
        obtain ⟨old, e', m, ct, ex, sz', g1, g2, g3, g4, Hd⟩ := getK_yes Hc
        obtain ⟨v, h', H, hg⟩ := grow Hd
        refine ⟨v, h', H, fun β w a y hr ha hy => ?_⟩
        obtain ⟨vs, e1, hs⟩ := hsr β w y hr hy
        obtain ⟨cb, κ, os, o1, o2, o3, o4, o5⟩ := cells_of hr g1 g2 g3 g4
        obtain ⟨c', κ', e6, rfl⟩ := con_slice ha
        rw [o1] at e6; injection e6 with e6; injection e6 with e6 e7; subst e6
        obtain ⟨β', w', u, r1, r2, r3⟩ := hg β w (some ⟨cb, off, none⟩) len c os y vs hr o2 e1 hs rfl hroom' o4 o3 (run_first o4 (fun j v hv => by rw [Addr.add_lit]; exact o5 j v hv))
        exact ⟨β', w', u, by show (Builtin.append_ ts ty #[_, y]).run P w = _; rw [arg]; exact r1, r2, r3⟩
    · rename_i b off len c
      simp only [fNat_eq] at Hc
      cases h with
      | mk t' nx low =>
        obtain ⟨bl, hbl, Hd⟩ := getP_yes Hc
        clear Hc
        cases bl with
        | map es cl => cases Hd
        | iter l p => cases Hd
        | miter b s => cases Hd
        | cells e' m ct ex sz' =>
          obtain ⟨hok, H⟩ := cnd_yes Hd
          clear Hd
          have hok' : ex = false ∧ sz' = ti.size ∧ 0 < ti.size ∧ off = c * ti.size := by
            unfold appendK.okB at hok
            cases ex with
            | true => cases hok
            | false =>
              have := hok
              simp only [Bool.and_eq_true, Nat.beq_eq, Nat.blt_eq] at this
              exact ⟨rfl, this.1, this.2.1, this.2.2⟩
          obtain ⟨rfl, rfl, hpos, hoff⟩ := hok'
          rw [cnd_eq] at H
          split at H
          · rename_i hin
            have hin' : off + len * ti.size + n * ti.size ≤ m := by simpa using hin
            obtain ⟨t2, nx2, low2, e2, m2, ct2, ex2, sz2, e3, g1, g2, H⟩ := putK_yes H
            injection e3 with e3 e4 e5
            subst e3; subst e4; subst e5
            refine ⟨_, _, H, fun β w a y hr ha hy => ?_⟩
            obtain ⟨vs, e1, hs⟩ := hsr β w y hr hy
            obtain ⟨cb, κ, f1, f2, f3, f4⟩ := put_stp hr g1 g2 e1 hs.one
            obtain ⟨c', κ', e6, rfl, e7⟩ := con_slice' ha
            rw [f1] at e6; injection e6 with e6; injection e6 with e6 e8; subst e6; subst e8
            have hcap : c + (len + n) ≤ κ := by
              obtain ⟨-, cb2, κ2, hβ, cs, fz, q1, q2, q3, q4, q5, q6⟩ := hr.blk b _ hbl
              rw [f1] at hβ; injection hβ with hβ; injection hβ with _ hβ; subst hβ
              have q7 := q6 rfl
              have : (c + (len + n)) * ti.size ≤ κ * ti.size := by
                rw [Nat.add_mul, Nat.add_mul, ← hoff]; omega
              exact Nat.le_of_mul_le_mul_right this hpos
            refine ⟨β, _, _, ?_, f4, con_slice_mk f1 (.inr hcap)⟩
            show (Builtin.append_ ts ty #[_, y]).run P w = _
            rw [arg]
            exact room (b := b) (β := β) hs (by simp; omega) f2 f3
          · obtain ⟨hend, H⟩ := cnd_yes H
            obtain ⟨h00, H⟩ := cnd_yes H
            have hend' := Nat.eq_of_beq_eq_true hend
            have h00' := Nat.eq_of_beq_eq_true h00
            subst h00'
            have hc0 : c = 0 := by
              rcases Nat.mul_eq_zero.1 hoff.symm with h | h
              · exact h
              · omega
            subst hc0
            obtain ⟨hee, H⟩ := cnd_yes H
            have hee' := Nat.eq_of_beq_eq_true hee
            subst hee'
            unfold movedK at H
            obtain ⟨old, e2, m2, ct2, ex2, sz2, g1, g2, g3, g4, H⟩ := getK_yes H
            have g1' : t'.get (path b) = some (.cells e2 m2 ct2 ex2 sz2) := g1
            rw [hbl] at g1'; injection g1' with g1'; injection g1' with q1 q2 q3 q4 q5
            subst q1; subst q2; subst q3; subst q4; subst q5
            rw [natMin_eq, setP_eq] at H
            obtain ⟨v, h', i, z, H, hvh, hneed, hi, hby, hz, hall⟩ := growK_yes H
            rw [hti] at hi; injection hi with hi; subst hi
            obtain ⟨rfl, rfl⟩ := hvh _ _ _ rfl
            rw [Nat.zero_add] at g3 g4 hend'
            refine ⟨_, _, H, fun β w a y hr ha hy => ?_⟩
            obtain ⟨vs, e1, hs⟩ := hsr β w y hr hy
            obtain ⟨cb, κ, os, o1, o2, o3, o4, o5⟩ := cells_of hr hbl (off := 0) (n := len * ti.size) (l := old) (by omega) g3 g4
            obtain ⟨c', κ', e6, rfl, e7⟩ := con_slice' ha
            rw [o1] at e6; injection e6 with e6; injection e6 with e6 e8; subst e6; subst e8
            have harg : ∀ w', (Builtin.append_ ts ty #[.slice (some ⟨cb, 0, none⟩) len (if false = true then 0 else κ - 0), y]).run P w' = (Builtin.append_ #[t, tx] ty #[.slice (some ⟨cb, 0, none⟩) len κ, y]).run P w' := fun w' => by rw [arg]; rfl
            by_cases hcap : len + n ≤ κ
            · obtain ⟨-, cb2, κ2, hβ, cs, fz, p1, p2, p3, p4, p5, p6⟩ := hr.blk b _ hbl
              rw [o1] at hβ; injection hβ with hβ; injection hβ with hβ1 hβ2; subst hβ1; subst hβ2
              have p7 := p6 rfl
              have hfits : len * ti.size + vs.length ≤ cs.size := by
                have : (len + n) * ti.size ≤ κ * ti.size := Nat.mul_le_mul_right _ hcap
                rw [Nat.add_mul] at this
                rw [hs.newsLen]; omega
              have f2 : ∀ j, j < vs.length → (w.cell? ⟨cb, 0 + len * ti.size + j, none⟩).isSome = true := by
                intro j hj
                unfold World.cell?; rw [p1]
                show (cs[0 + len * ti.size + j]?).isSome = true
                rw [Array.getElem?_eq_getElem (by omega)]; rfl
              have f3 : ∀ j, j < vs.length → w.frozen? ⟨cb, 0 + len * ti.size + j, none⟩ = false := by
                intro j hj
                unfold World.frozen?; rw [p1]
                have := p2 (0 + len * ti.size + j) (by omega)
                simp only [Bool.and_eq_false_iff, decide_eq_false_iff_not]
                omega
              have hrun := room (b := b) (β := β) (off := 0) hs hcap f2 f3
              refine ⟨_, _, _, by show (Builtin.append_ ts ty #[_, y]).run P w = _; rw [harg]; exact hrun, Stp.moved hr hbl o1 (setCells_size ..) (fun i hi hne => World.heap_setCells_other w cb _ vs hi hne) (World.os_setCells ..) (setCells_tape ..) (World.output_setCells ..) ?_, ?_⟩
              · rw [Nat.zero_add, setCells_heap vs _ w cb cs _ fz p1]
                have hol : old.length = os.length := conL_len o2
                have hnl : new.length = vs.length := conL_len e1
                refine ⟨_, fz, rfl, fun i hi => p2 i (by rwa [setA_size] at hi), fun i hi => ?_, by rw [setA_size, List.length_append]; omega, (fun h => by cases h), fun _ => by rw [setA_size]; exact p7⟩
                rw [List.length_append] at hi
                rw [get_putL, if_pos ⟨Nat.zero_le _, by rw [List.length_append]; omega⟩, Nat.sub_zero, setA_get vs cs _ i hfits]
                by_cases h5 : i < old.length
                · rw [if_neg (by omega), List.getElem?_append_left h5]
                  obtain ⟨u, u1, u2⟩ := conL_get o2 (List.getElem?_eq_getElem h5)
                  refine ⟨_, u, List.getElem?_eq_getElem h5, ?_, con_mono (upd_le (hr.fresh nx (Nat.le_refl _))) u2, o3 u (List.mem_iff_getElem?.2 ⟨_, u1⟩)⟩
                  have := o5 i u u1
                  unfold World.cell? at this
                  rw [p1] at this
                  simpa using this
                · rw [if_pos (by omega), List.getElem?_append_right (by omega)]
                  have h6 : i - old.length < new.length := by omega
                  obtain ⟨u, u1, u2⟩ := conL_get e1 (List.getElem?_eq_getElem h6)
                  refine ⟨_, u, List.getElem?_eq_getElem h6, ?_, con_mono (upd_le (hr.fresh nx (Nat.le_refl _))) u2, hs.one u (List.mem_iff_getElem?.2 ⟨_, u1⟩)⟩
                  rw [← u1]; congr 1; omega
              · rw [con_slice_mk (upd_same ..) (.inr (by omega))]; rfl
            · have hfit : Builtin.nextslicecap (len + n) κ * ti.bytes ≤ 281474976710656 := growslice_fits (by omega) (by
                have : (len + n) * ti.bytes ≤ 65536 * 65536 := Nat.mul_le_mul hneed hby
                omega)
              have hr2 : HR β (.mk (t'.set (path b) none) nx (min low b)) w := hr.forget (Nat.min_le_left _ _)
              obtain ⟨β', s1, s2⟩ := hall β w os vs (grownCap w (len + n) κ e') hr2 o2 e1 o3 hs.one (by rw [o4, hs.newsLen, ← Nat.add_mul]) (grownCap_ge ..)
              refine ⟨β', _, _, by show (Builtin.append_ ts ty #[_, y]).run P w = _; rw [harg]; exact run_append_grow_src (P := P) w t tx ty e' ti z hd hti hz (some ⟨cb, 0, none⟩) len κ os (run_first o4 (fun j v hv => by rw [Addr.add_lit]; exact o5 j v hv)) y n vs (hs.src hk) (by omega) (by omega) hfit, (Stp.forget hr (Nat.min_le_left _ _)).trans hr s1, s2⟩
    · cases Hc
  · cases H
theorem copyK_yes {ts : Array TypeId} {ty : TypeId} {d x : AV} {h : Hp} {k : AK} (H : copyK P ts d x h k = .yes) : ∃ v h', k v h' = .yes ∧ Sem2 P (fun a b => Builtin.copy_ ts ty #[a, b]) d x h v h' := by
  unfold copyK at H
  split at H
  · rename_i e hts
    obtain ⟨t, h0, hd⟩ := Option.bind_eq_some_iff.1 hts
    obtain ⟨ti, hti, Ha⟩ := sizeK_yes H
    obtain ⟨n, l, Hb, hsr⟩ := sourceK_yes (P := P) Ha
    clear H Ha
    split at Hb
    · rename_i b off len ex c
      simp only [natMin_eq, fNat_eq, takeK_eq] at Hb
      obtain ⟨t', nx, low, e', m, ct, ex', sz', rfl, g1, g2, H⟩ := putK_yes Hb
      refine ⟨_, _, H, fun β w a y hr ha hy => ?_⟩
      obtain ⟨vs, e1, hs⟩ := hsr β w y hr hy
      have e1' := conL_take (min n len * ti.size) e1
      have hone : ∀ u ∈ vs.take (min n len * ti.size), u.oneCell' = true := fun u hu => hs.one u (List.mem_of_mem_take hu)
      obtain ⟨cb, κ, f1, f2, f3, f4⟩ := put_stp hr g1 g2 e1' hone
      obtain ⟨c', κ', e6, rfl⟩ := con_slice ha
      rw [f1] at e6; injection e6 with e6; injection e6 with e6 e7; subst e6
      refine ⟨β, _, .int .i64 ((min n len : Nat) : Int), ?_, f4, rfl⟩
      have hst := run_storeCells_cells (P := P) cb off (vs.take (min n len * ti.size)) 0 w (by simpa using f2) (by simpa using f3) hone
      simp only [Nat.add_zero] at hst
      show (Builtin.copy_ ts ty #[_, y]).run P w = _
      unfold Builtin.copy_
      rw [h0]
      simp only [Sem.run_bind, run_underlying hd, Result.andThen_ok, hs.len, sizeOf, typeInfo, run_program, hti, Sem.run_pure, List.getElem?_toArray, List.getElem?_cons_zero, List.getElem?_cons_succ]
      rw [show Nat.min n len = min n len from rfl, hs.cells _ (Nat.min_le_left _ _)]
      simp only [Result.andThen_ok, hst, goInt]
    · rename_i c'
      refine ⟨_, _, Hb, fun β w a y hr ha hy => ?_⟩
      obtain ⟨vs, e1, hs⟩ := hsr β w y hr hy
      obtain ⟨rfl, -⟩ := con_raw ha
      refine ⟨β, w, .int .i64 0, ?_, .refl hr, rfl⟩
      show (Builtin.copy_ ts ty #[_, y]).run P w = _
      unfold Builtin.copy_
      rw [h0]
      simp only [Sem.run_bind, run_underlying hd, Result.andThen_ok, hs.len, sizeOf, typeInfo, run_program, hti, Sem.run_pure, List.getElem?_toArray, List.getElem?_cons_zero, List.getElem?_cons_succ]
      rw [show Nat.min n 0 = 0 from Nat.min_zero n, hs.cells 0 (Nat.zero_le _)]
      rfl
    · cases Hb
  · cases H
end Go.Ev
end
/- The evaluator's operations are the model's: lengths, maps, what is built in. -/
section
set_option linter.unusedVariables false
set_option linter.unusedSectionVars false
set_option linter.unusedSimpArgs false
namespace Go.Ev
variable [Sg]
open Go.RowKit
variable {P : Program}

theorem mapEs_yes {b : Nat} {h : Hp} {k : List (AV × AV × Nat) → Nat → Ans} (H : mapEs b h k = .yes) : ∃ es c, h.tr.get (path b) = some (.map es c) ∧ k es c = .yes := by
  cases h with
  | mk t n low =>
    unfold mapEs at H
    obtain ⟨bl, h1, H⟩ := getP_yes H
    cases bl with
    | cells => cases H
    | iter l p => cases H
    | miter b s => cases H
    | map es c => exact ⟨es, c, h1, H⟩
theorem map_of {β : Bt} {h : Hp} {w : World} (hr : HR β h w) {b : Nat} {es : List (AV × AV × Nat)} {c : Nat} (hb : h.tr.get (path b) = some (.map es c)) : ∃ cb κ ms, β b = some (cb, κ) ∧ w.heap[cb]? = some (.map ms c) ∧ EntR β es ms.toList := by
  obtain ⟨-, cb, κ, h1, ms, h2, h3⟩ := hr.blk b _ hb
  exact ⟨cb, κ, ms, h1, h2, h3⟩
theorem run_getMap {w : World} {r : Nat} {ms : Array MapEntry} {c : Nat} (h : w.heap[r]? = some (.map ms c)) : (getObj r).run P w = .ok (.map ms c) w := by
  simp only [getObj, Sem.run, h]
theorem EntR.len {β : Bt} : ∀ {es : List (AV × AV × Nat)} {ms : List MapEntry}, EntR β es ms → es.length = ms.length
  | [], [], _ => rfl
  | [], _ :: _, h => h.elim
  | _ :: _, [], h => h.elim
  | e :: es, m :: ms, ⟨_, _, _, h⟩ => by simp [EntR.len h]
theorem lenOfK_yes {ts : Array TypeId} {t ty : TypeId} (h0 : ts[0]? = some t) {x : AV} {h : Hp} {k : AV → Ans} (H : lenOfK P t x h k = .yes) : ∃ v, k v = .yes ∧ Sem1 P (fun a => Builtin.len_ ts ty #[a]) x h v h := by
  have go : ∀ {x v : AV}, (∀ β w a, HR β h w → con β x = some a → ∃ u, (Builtin.len_ ts ty #[a]).run P w = .ok u w ∧ con β v = some u) → Sem1 P (fun a => Builtin.len_ ts ty #[a]) x h v h :=
    fun H β w a hr ha => let ⟨u, h1, h2⟩ := H β w a hr ha; ⟨β, w, u, h1, .refl hr, h2⟩
  have un : ∀ a, Builtin.len_ ts ty #[a] = Builtin.len_ #[t] ty #[a] := by
    intro a
    unfold Builtin.len_
    rw [h0]
    rfl
  unfold lenOfK at H
  split at H
  · rename_i n l hd
    refine ⟨_, H, go fun β w a hr ha => ?_⟩
    obtain ⟨rfl, h3, h4⟩ := con_str_inv ha
    refine ⟨.int .i64 n, ?_, rfl⟩
    rw [un]
    simp [Builtin.len_, run_underlying hd, bytesOf_size, h3, goInt]
  · rename_i b off n ex d hd
    refine ⟨_, H, go fun β w a hr ha => ?_⟩
    obtain ⟨c, κ, _, rfl⟩ := con_slice ha
    refine ⟨.int .i64 n, ?_, rfl⟩
    rw [un]
    simp [Builtin.len_, run_underlying hd, goInt]
  · rename_i n c hd
    rw [fNat_eq] at H
    refine ⟨_, H, go fun β w a hr ha => ?_⟩
    obtain ⟨rfl, -⟩ := con_raw ha
    refine ⟨.int .i64 n, ?_, rfl⟩
    rw [un]
    simp [Builtin.len_, run_underlying hd, goInt]
  · rename_i n e hd
    rw [fNat_eq] at H
    refine ⟨_, H, go fun β w a hr ha => ?_⟩
    refine ⟨.int .i64 n, ?_, rfl⟩
    rw [un]
    simp [Builtin.len_, run_underlying hd, goInt]
  · rename_i e f hd
    refine ⟨_, H, go fun β w a hr ha => ?_⟩
    obtain ⟨rfl, -⟩ := con_raw ha
    refine ⟨.int .i64 0, ?_, rfl⟩
    rw [un]
    simp [Builtin.len_, run_underlying hd, goInt]
  · rename_i e f b hd
    obtain ⟨es, c, h1, Ha⟩ := mapEs_yes H
    rw [fNat_eq] at Ha
    refine ⟨_, Ha, go fun β w a hr ha => ?_⟩
    obtain ⟨cb, κ, ms, e1, e2, e3⟩ := map_of hr h1
    obtain ⟨c', κ', e4, rfl⟩ := con_map ha
    rw [e1] at e4; injection e4 with e4; injection e4 with e4 _; subst e4
    refine ⟨.int .i64 es.length, ?_, rfl⟩
    rw [un]
    simp [Builtin.len_, run_underlying hd, goInt, run_getMap e2, e3.len]
  · cases H
theorem sameKey_yes {d : TypeDesc} {x y : AV} {k : Bool → Ans} (H : sameKey d x y k = .yes) : ∃ r, k r = .yes ∧ ((∃ q, d = .int q) ∨ d = .string) ∧ ∀ β a b, con β x = some a → con β y = some b → Instr.sameNow d a b = some r ∧ (r = true → a = b ∧ Instr.sameBits 10000 a a = true) := by
  have si : ∀ q z, Instr.sameBits 10000 (.int q z) (.int q z) = true := fun q z => by simp [Instr.sameBits]
  have ss : ∀ z : ByteArray, Instr.sameBits 10000 (.string z) (.string z) = true := fun z => by
    show (z == z) = true
    show (z.data == z.data) = true
    simp
  unfold sameKey at H
  split at H
  · rw [eqNat_eq] at H
    refine ⟨_, H, .inr rfl, fun β a b ha hb => ?_⟩
    obtain ⟨rfl, h1, h2⟩ := con_str_inv ha
    obtain ⟨rfl, h3, h4⟩ := con_str_inv hb
    rename_i n l m r
    have e : (bytesOf l == bytesOf r) = (l == r) := by
      have e0 : (bytesOf l == bytesOf r) = ((bytesOf l).data == (bytesOf r).data) := rfl
      rw [← map_ofNat_eq h2 h4, e0, Bool.eq_iff_iff, beq_iff_eq, beq_iff_eq]
      unfold bytesOf
      constructor
      · intro e; simpa using congrArg Array.toList e
      · intro e; show (l.map UInt8.ofNat).toArray = _; rw [e]
    refine ⟨by simp only [Instr.sameNow, e], fun hr => ?_⟩
    rw [show l = r by simpa using hr]
    exact ⟨rfl, ss _⟩
  · rw [fBool_eq] at H
    refine ⟨_, H, .inl ⟨_, rfl⟩, fun β a b ha hb => ?_⟩
    rw [con_nat ha, con_nat hb]
    exact ⟨by simp [Instr.sameNow, bool_eq_nat], fun hr => by rw [Nat.eq_of_beq_eq_true hr]; exact ⟨rfl, si _ _⟩⟩
  · rw [fBool_eq] at H
    refine ⟨_, H, .inl ⟨_, rfl⟩, fun β a b ha hb => ?_⟩
    rw [con_u8 ha, con_u8 hb]
    exact ⟨by simp [Instr.sameNow, bool_eq_nat], fun hr => by rw [Nat.eq_of_beq_eq_true hr]; exact ⟨rfl, si _ _⟩⟩
  · rename_i q a q' b
    obtain ⟨h1, Ha⟩ := cnd_yes H
    clear H
    have h1' : q = q' := by simpa using h1
    subst h1'
    rw [fBool_eq] at Ha
    refine ⟨_, Ha, .inl ⟨_, rfl⟩, fun β u v ha hb => ?_⟩
    rw [con_int ha, con_int hb]
    exact ⟨by simp only [Instr.sameNow, if_true]; congr 1, fun hr => by rw [show a = b by simpa using hr]; exact ⟨rfl, si _ _⟩⟩
  · cases H
theorem findK_yes {d : TypeDesc} {x : AV} {es : List (AV × AV × Nat)} {no : Ans} {k : AV → Ans} (H : findK d x es no k = .yes) :
    (no = .yes ∧ ∀ β a ms i, con β x = some a → EntR β es ms → Instr.findNow d a ms i = some none) ∨
    (∃ v, k v = .yes ∧ ∀ β a ms i, con β x = some a → EntR β es ms → ∃ j u, Instr.findNow d a ms i = some (some (j, u)) ∧ con β v = some u) := by
  induction es with
  | nil =>
    refine .inl ⟨H, fun β a ms i ha he => ?_⟩
    cases ms with
    | nil => rfl
    | cons m ms => exact he.elim
  | cons e es ih =>
    obtain ⟨r, H, -, hr⟩ := sameKey_yes H
    cases r with
    | true =>
      refine .inr ⟨_, H, fun β a ms i ha he => ?_⟩
      cases ms with
      | nil => exact he.elim
      | cons m ms =>
        obtain ⟨h1, h2, h3, h4⟩ := he
        refine ⟨i, m.val, ?_, h2⟩
        unfold Instr.findNow
        rw [(hr β a m.key ha h1).1]
    | false =>
      rcases ih H with ⟨hn, hg⟩ | ⟨v, hv, hg⟩
      · refine .inl ⟨hn, fun β a ms i ha he => ?_⟩
        cases ms with
        | nil => exact he.elim
        | cons m ms =>
          obtain ⟨h1, h2, h3, h4⟩ := he
          unfold Instr.findNow
          rw [(hr β a m.key ha h1).1]
          exact hg β a ms (i + 1) ha h4
      · refine .inr ⟨v, hv, fun β a ms i ha he => ?_⟩
        cases ms with
        | nil => exact he.elim
        | cons m ms =>
          obtain ⟨h1, h2, h3, h4⟩ := he
          unfold Instr.findNow
          rw [(hr β a m.key ha h1).1]
          exact hg β a ms (i + 1) ha h4
theorem run_checkKey {q : TypeId} {d : TypeDesc} (hd : P.underlying q = some d) (hk : (∃ i, d = .int i) ∨ d = .string) (em : Bool) (a : Value) (w : World) : (Instr.checkKey em 10000 q a).run P w = .ok () w := by
  show (Instr.checkKey em (9999 + 1) q a).run P w = _
  rw [Instr.checkKey]
  simp only [Sem.run_bind, run_underlying hd, Result.andThen_ok]
  rcases hk with ⟨i, rfl⟩ | rfl <;> rfl
theorem keyOk_yes {d : TypeDesc} (h : keyOk d = true) : (∃ i, d = .int i) ∨ d = .string := by
  unfold keyOk at h
  split at h
  · exact .inl ⟨_, rfl⟩
  · exact .inr rfl
  · cases h
theorem lookupK_yes {t : TypeId} {x i : AV} {ok : Bool} {h : Hp} {k : AV → Ans} (H : lookupK P t x i ok h k = .yes) : ∃ v, k v = .yes ∧ Sem2 P (fun a b => Instr.lookup t a b ok) x i h v h := by
  unfold lookupK at H
  split at H
  · rename_i q e hd
    have fin : ∀ {v : AV} {b : Bool}, cnd ok (k (.tup [v, .bool b])) (k v) = .yes → ∃ v', k v' = .yes ∧ ∀ β u, con β v = some u → con β v' = some (if ok = true then .tuple #[u, .bool b] else u) := by
      intro v b H
      rw [cnd_eq] at H
      split at H
      · rename_i hok
        refine ⟨_, H, fun β u hu => ?_⟩
        rw [if_pos hok]
        simp only [con]
        rw [conL_mk hu (conL_mk (by simp only [con] : con β (.bool b) = some (.bool b)) rfl)]
        rfl
      · rename_i hok
        exact ⟨_, H, fun β u hu => by rw [if_neg hok]; exact hu⟩
    dsimp only at H
    split at H
    · rename_i d hq
      obtain ⟨hk, Ha⟩ := cnd_yes H
      obtain ⟨ti, z, av, hi, hz, hc, Hb⟩ := zeroK_yes Ha
      obtain ⟨v, hv, hcon⟩ := fin Hb
      refine ⟨v, hv, fun β w a b hr ha hb => ?_⟩
      obtain ⟨rfl, -⟩ := con_raw ha
      refine ⟨β, w, _, ?_, .refl hr, hcon β z (hc β)⟩
      show (Instr.lookup t _ b ok).run P w = _
      unfold Instr.lookup
      simp only [Sem.run_bind, run_underlying hd, Result.andThen_ok, Sem.run_pure, run_checkKey hq (keyOk_yes hk), Instr.findKey, run_underlying hq, zeroValue, typeInfo, run_program, hi, hz]
      have hf : ∀ i, Instr.findNow d b (#[] : Array MapEntry).toList i = some none := fun i => rfl
      rw [hf]
      simp only [Sem.run_pure, Result.andThen_ok, Sem.run_bind, run_program, hi, hz]
    · rename_i b d hq
      obtain ⟨hk, Ha⟩ := cnd_yes H
      obtain ⟨es, c, h1, Hb⟩ := mapEs_yes Ha
      rcases findK_yes Hb with ⟨Hc, hf⟩ | ⟨v0, Hc, hf⟩
      · obtain ⟨ti, z, av, hi, hz, hc, Hd⟩ := zeroK_yes Hc
        obtain ⟨v, hv, hcon⟩ := fin Hd
        refine ⟨v, hv, fun β w a y hr ha hy => ?_⟩
        obtain ⟨cb, κ, ms, e1, e2, e3⟩ := map_of hr h1
        obtain ⟨c', κ', e4, rfl⟩ := con_map ha
        rw [e1] at e4; injection e4 with e4; injection e4 with e4 _; subst e4
        refine ⟨β, w, _, ?_, .refl hr, hcon β z (hc β)⟩
        show (Instr.lookup t _ y ok).run P w = _
        unfold Instr.lookup
        simp only [Sem.run_bind, run_underlying hd, Result.andThen_ok, Sem.run_pure, run_getMap e2, run_checkKey hq (keyOk_yes hk), Instr.findKey, run_underlying hq]
        rw [hf β y _ 0 hy e3]
        simp only [Sem.run_pure, Result.andThen_ok, Sem.run_bind, zeroValue, typeInfo, run_program, hi, hz]
      · obtain ⟨v, hv, hcon⟩ := fin Hc
        refine ⟨v, hv, fun β w a y hr ha hy => ?_⟩
        obtain ⟨cb, κ, ms, e1, e2, e3⟩ := map_of hr h1
        obtain ⟨c', κ', e4, rfl⟩ := con_map ha
        rw [e1] at e4; injection e4 with e4; injection e4 with e4 _; subst e4
        obtain ⟨j, u, f1, f2⟩ := hf β y _ 0 hy e3
        refine ⟨β, w, _, ?_, .refl hr, hcon β u f2⟩
        show (Instr.lookup t _ y ok).run P w = _
        unfold Instr.lookup
        simp only [Sem.run_bind, run_underlying hd, Result.andThen_ok, Sem.run_pure, run_getMap e2, run_checkKey hq (keyOk_yes hk), Instr.findKey, run_underlying hq]
        rw [f1]
        rfl
    · cases H
  · cases H
theorem setEs_yes {d : TypeDesc} {x v : AV} {es : List (AV × AV × Nat)} {no : Ans} {k : List (AV × AV × Nat) → Ans} (H : setEs d x v es no k = .yes) :
    (no = .yes ∧ ∀ β a ms i, con β x = some a → EntR β es ms → Instr.findNow d a ms i = some none) ∨
    (∃ es', k es' = .yes ∧ ∀ β a b ms i, con β x = some a → con β v = some b → EntR β es ms → ∃ j u m, Instr.findNow d a ms i = some (some (i + j, u)) ∧ ms[j]? = some m ∧ m.key = a ∧ Instr.sameBits 10000 a a = true ∧ EntR β es' (ms.modify j fun e => { e with key := a, val := b })) := by
  induction es generalizing k with
  | nil =>
    refine .inl ⟨H, fun β a ms i ha he => ?_⟩
    cases ms with
    | nil => rfl
    | cons m ms => exact he.elim
  | cons e es ih =>
    obtain ⟨r, Ha, -, hr⟩ := sameKey_yes H
    clear H
    cases r with
    | true =>
      refine .inr ⟨_, Ha, fun β a b ms i ha hb he => ?_⟩
      cases ms with
      | nil => exact he.elim
      | cons m ms =>
        obtain ⟨h1, h2, h3, h4⟩ := he
        obtain ⟨g1, g2⟩ := hr β a m.key ha h1
        refine ⟨0, m.val, m, ?_, rfl, (g2 rfl).1.symm, (g2 rfl).2, ?_⟩
        · unfold Instr.findNow; rw [g1]; rfl
        · rw [List.modify_zero_cons]
          exact ⟨by rw [h1, (g2 rfl).1], hb, h3, h4⟩
    | false =>
      rcases ih Ha with ⟨hn, hg⟩ | ⟨es', hv, hg⟩
      · refine .inl ⟨hn, fun β a ms i ha he => ?_⟩
        cases ms with
        | nil => exact he.elim
        | cons m ms =>
          obtain ⟨h1, h2, h3, h4⟩ := he
          unfold Instr.findNow
          rw [(hr β a m.key ha h1).1]
          exact hg β a ms (i + 1) ha h4
      · refine .inr ⟨_, hv, fun β a b ms i ha hb he => ?_⟩
        cases ms with
        | nil => exact he.elim
        | cons m ms =>
          obtain ⟨h1, h2, h3, h4⟩ := he
          obtain ⟨j, u, m', f1, f2, f3, f5, f4⟩ := hg β a b ms (i + 1) ha hb h4
          refine ⟨j + 1, u, m', ?_, by simpa using f2, f3, f5, ?_⟩
          · unfold Instr.findNow
            rw [(hr β a m.key ha h1).1]
            rw [show i + (j + 1) = i + 1 + j by omega]; exact f1
          · rw [List.modify_succ_cons]
            exact ⟨h1, h2, h3, f4⟩
theorem EntR.append {β : Bt} : ∀ {es : List (AV × AV × Nat)} {ms : List MapEntry} {e : AV × AV × Nat} {m : MapEntry}, EntR β es ms → con β e.1 = some m.key → con β e.2.1 = some m.val → m.born = e.2.2 → EntR β (es ++ [e]) (ms ++ [m])
  | [], [], e, m, _, h1, h2, h3 => ⟨h1, h2, h3, trivial⟩
  | [], _ :: _, _, _, h, _, _, _ => h.elim
  | _ :: _, [], _, _, h, _, _, _ => h.elim
  | a :: es, b :: ms, e, m, ⟨g1, g2, g3, g4⟩, h1, h2, h3 => ⟨g1, g2, g3, EntR.append g4 h1 h2 h3⟩
theorem run_setMap {w : World} {r : Nat} {ms : Array MapEntry} {c : Nat} (o : Obj) (h : w.heap[r]? = some (.map ms c)) : (setObj r o).run P w = .ok () { w with heap := w.heap.setIfInBounds r o } := by
  simp only [setObj, Sem.run, h]
theorem run_stays {a : Value} (h : Instr.sameBits 10000 a a = true) (w : World) : (Instr.keyThatStays a a).run P w = .ok a w := by
  unfold Instr.keyThatStays
  rw [if_pos h]
  rfl
theorem updateK_yes {t : TypeId} {x i v : AV} {h : Hp} {k : Hp → Ans} (H : updateK P t x i v h k = .yes) :
    ∃ h', k h' = .yes ∧ ∀ β w a b c, HR β h w → con β x = some a → con β i = some b → con β v = some c → ∃ β' w', (Instr.mapUpdate t a b c).run P w = .ok () w' ∧ Stp β h w β' h' w' := by
  unfold updateK at H
  split at H
  · rename_i q e hd
    split at H
    · rename_i b d t' n low hq
      obtain ⟨hk, Ha⟩ := cnd_yes H
      obtain ⟨es, c, h1, Hb⟩ := mapEs_yes Ha
      have h1' : t'.get (path b) = some (.map es c) := h1
      have fin : ∀ {es' : List (AV × AV × Nat)} {c' : Nat}, (t'.setP (path b) (some (.map es' c')) fun t => natMin low b fun low => k (.mk t n low)) = .yes → k (.mk (t'.set (path b) (some (.map es' c'))) n (min low b)) = .yes := by
        intro es' c' H
        rw [setP_eq, natMin_eq] at H; exact H
      rcases setEs_yes Hb with ⟨Hc, hf⟩ | ⟨es', Hc, hf⟩
      · rw [catE_eq, fNat_eq] at Hc
        refine ⟨_, fin Hc, fun β w a y u hr ha hy hu => ?_⟩
        obtain ⟨cb, κ, ms, e1, e2, e3⟩ := map_of hr h1
        obtain ⟨c', κ', e4, rfl⟩ := con_map ha
        rw [e1] at e4; injection e4 with e4; injection e4 with e4 _; subst e4
        have hlt : cb < w.heap.size := (Array.getElem?_eq_some_iff.1 e2).1
        refine ⟨β, _, ?_, Stp.set_block hr h1' e1 (w' := { w with heap := w.heap.setIfInBounds cb (.map (ms.push { key := y, val := u, born := c }) (c + 1)) }) (by simp) (fun i hi hne => by simp [Array.getElem?_setIfInBounds, hne.symm]) rfl rfl rfl ⟨ms.push { key := y, val := u, born := c }, ?_, ?_⟩⟩
        · unfold Instr.mapUpdate
          simp only [Sem.run_bind, run_underlying hd, Result.andThen_ok, run_getMap e2, run_checkKey hq (keyOk_yes hk), Instr.findKey, run_underlying hq]
          rw [hf β y _ 0 hy e3]
          simp only [Sem.run_pure, Result.andThen_ok, run_setMap _ e2]
        · simp [Array.getElem?_setIfInBounds, hlt]
        · rw [Array.toList_push]
          exact e3.append hy hu rfl
      · refine ⟨_, fin Hc, fun β w a y u hr ha hy hu => ?_⟩
        obtain ⟨cb, κ, ms, e1, e2, e3⟩ := map_of hr h1
        obtain ⟨c', κ', e4, rfl⟩ := con_map ha
        rw [e1] at e4; injection e4 with e4; injection e4 with e4 _; subst e4
        have hlt : cb < w.heap.size := (Array.getElem?_eq_some_iff.1 e2).1
        obtain ⟨j, uu, m, f1, f2, f3, f5, f4⟩ := hf β y u ms.toList 0 hy hu e3
        rw [Nat.zero_add] at f1
        refine ⟨β, _, ?_, Stp.set_block hr h1' e1 (w' := { w with heap := w.heap.setIfInBounds cb (.map (ms.modify j fun e => { e with key := y, val := u }) c) }) (by simp) (fun i hi hne => by simp [Array.getElem?_setIfInBounds, hne.symm]) rfl rfl rfl ⟨ms.modify j fun e => { e with key := y, val := u }, ?_, ?_⟩⟩
        · unfold Instr.mapUpdate
          simp only [Sem.run_bind, run_underlying hd, Result.andThen_ok, run_getMap e2, run_checkKey hq (keyOk_yes hk), Instr.findKey, run_underlying hq]
          rw [f1]
          have f2' : ms[j]? = some m := by simpa using f2
          simp only [Sem.run_pure, Result.andThen_ok, Sem.run_bind, f2', Option.map_some, Option.getD_some, f3, run_stays f5, run_setMap _ e2]
        · simp [Array.getElem?_setIfInBounds, hlt]
        · rw [Array.toList_modify]
          exact f4
    · cases H
  · cases H
theorem newMapK_yes {h : Hp} {k : AK} (H : newMapK h k = .yes) : ∃ v h', k v h' = .yes ∧ ∀ β w, HR β h w → ∃ β' w' u, (do Pure.pure (Value.map (some (← newObj (.map #[] 0)))) : Sem Value).run P w = .ok u w' ∧ Stp β h w β' h' w' ∧ con β' v = some u := by
  cases h with
  | mk t n low =>
    unfold newMapK at H
    simp only [setP_eq, fNat_eq] at H
    refine ⟨_, _, H, fun β w hr => ⟨upd β n w.heap.size 0, w.alloc (.map #[] 0), .map (some w.heap.size), rfl, Stp.new_block hr (.map #[] 0) 0 (.map [] 0) rfl rfl rfl rfl ⟨#[], rfl, trivial⟩, ?_⟩⟩
    simp only [con, upd_same]; rfl
end Go.Ev
end
/- Each operation, made ready, is the model's. -/
section
set_option linter.unusedVariables false
set_option linter.unusedSectionVars false
set_option linter.unusedSimpArgs false
namespace Go.Ev
variable [Sg]
open Go.RowKit
variable {P : Program}

theorem exec1 {o : Oper} {f : Value → Sem Value} {X : Operand} {x v : AV} {h h' : Hp} (he : ∀ ρ : Operand → Value, execOp ρ o = (do Pure.pure (Next.value (← f (ρ X))))) (hX : o.op.operands.toList = [X]) (H : Sem1 P f x h v h') : OpHolds P o [x] h v h' := by
  refine .val fun β w a hr hx => ?_
  rw [hX] at hx
  obtain ⟨β', w', u, h1, h2, h3⟩ := H β w (a.eval X) hr (conL1 hx)
  refine ⟨β', w', u, ?_, h2, h3⟩
  rw [he, Sem.run_bind, h1]; rfl
theorem exec2 {o : Oper} {f : Value → Value → Sem Value} {X Y : Operand} {x y v : AV} {h h' : Hp} (he : ∀ ρ : Operand → Value, execOp ρ o = (do Pure.pure (Next.value (← f (ρ X) (ρ Y))))) (hX : o.op.operands.toList = [X, Y]) (H : Sem2 P f x y h v h') : OpHolds P o [x, y] h v h' := by
  refine .val fun β w a hr hx => ?_
  rw [hX] at hx
  obtain ⟨hx, hy⟩ := conL2 hx
  obtain ⟨β', w', u, h1, h2, h3⟩ := H β w (a.eval X) (a.eval Y) hr hx hy
  refine ⟨β', w', u, ?_, h2, h3⟩
  rw [he, Sem.run_bind, h1]; rfl
theorem exec1p {o : Oper} {f : Value → Sem Value} {X : Operand} {x v : AV} {h : Hp} (he : ∀ ρ : Operand → Value, execOp ρ o = (do Pure.pure (Next.value (← f (ρ X))))) (hX : o.op.operands.toList = [X]) (H : ∀ β a w, con β x = some a → ∃ u, (f a).run P w = .ok u w ∧ con β v = some u) : OpHolds P o [x] h v h :=
  exec1 he hX (.of_pure H)
theorem exec2p {o : Oper} {f : Value → Value → Sem Value} {X Y : Operand} {x y v : AV} {h : Hp} (he : ∀ ρ : Operand → Value, execOp ρ o = (do Pure.pure (Next.value (← f (ρ X) (ρ Y))))) (hX : o.op.operands.toList = [X, Y]) (H : ∀ β a b w, con β x = some a → con β y = some b → ∃ u, (f a b).run P w = .ok u w ∧ con β v = some u) : OpHolds P o [x, y] h v h :=
  exec2 he hX fun β w a b hr ha hb => let ⟨u, h1, h2⟩ := H β a b w ha hb; ⟨β, w, u, h1, .refl hr, h2⟩
theorem plainsK_yes {xs : List AV} {k : List Value → Ans} (H : builtinK.plainsK xs k = .yes) : ∃ vs, plainL xs = some vs ∧ k vs = .yes := by
  unfold builtinK.plainsK at H
  cases h : plainL xs with
  | none => rw [h] at H; cases H
  | some vs => rw [h] at H; exact ⟨vs, rfl, H⟩
def isPureB (b : Builtin) : Bool := match b with
  | .max | .min | .real | .imag | .complex => true
  | _ => false
theorem ts_two {ts : Array TypeId} (h : ts.size = 2) : ∃ a b, ts = #[a, b] := by
  obtain ⟨l⟩ := ts
  match l, h with
  | [a, b], _ => exact ⟨a, b, rfl⟩
theorem freeze_stp {β : Bt} {t : Tr Blk} {nx low b cb κ n : Nat} {w : World} (hr : HR β (.mk t nx low) w) (hβ : β b = some (cb, κ)) {x : Blk} (hb : t.get (path b) = some x) :
    Stp β (.mk t nx low) w β (.mk (t.set (path b) none) nx (min low b)) (w.freeze ⟨cb, 0, none⟩ n) := by
  have hheap : ∀ c, c ≠ cb → (w.freeze ⟨cb, 0, none⟩ n).heap[c]? = w.heap[c]? := fun c hc => by
    unfold World.freeze
    split
    · rfl
    · simp only [Array.getElem?_modify]
      rw [if_neg (fun h => hc h.symm)]
  have hsz : (w.freeze ⟨cb, 0, none⟩ n).heap.size = w.heap.size := by
    unfold World.freeze
    split <;> simp
  have ho : (w.freeze ⟨cb, 0, none⟩ n).os = w.os ∧ (w.freeze ⟨cb, 0, none⟩ n).tape = w.tape ∧ (w.freeze ⟨cb, 0, none⟩ n).output = w.output := by
    unfold World.freeze
    split <;> exact ⟨rfl, rfl, rfl⟩
  have sub : ∀ b' x', (t.set (path b) none).get (path b') = some x' → b' ≠ b ∧ t.get (path b') = some x' := fun b' x' h => by
    rw [get_set] at h
    split at h
    · cases h
    · rename_i hne
      exact ⟨fun e => hne (by rw [e]), h⟩
  refine ⟨⟨fun b' x' h => ?_, fun b1 b2 x1 x2 c κ1 κ2 h h' => hr.inj b1 b2 x1 x2 c κ1 κ2 (sub b1 x1 h).2 (sub b2 x2 h').2, hr.fresh, Nat.le_trans (Nat.min_le_left _ _) hr.low⟩, Nat.le_refl _, Nat.min_le_left _ _, fun _ _ => rfl, (fun b' c κ' hb' e => by rw [hr.fresh b' hb'] at e; cases e), ⟨ho.1, ho.2.1, ho.2.2, by rw [hsz]; exact Nat.le_refl _, fun c hc hne => hheap c fun e => ?_⟩⟩
  · obtain ⟨hne, h⟩ := sub b' x' h
    obtain ⟨h1, c, κ', h2, h3⟩ := hr.blk b' x' h
    refine ⟨h1, c, κ', h2, ?_⟩
    rw [hheap c fun e => ?_]
    · exact h3
    · subst e
      exact hne (hr.inj b' b x' x c κ' κ h hb h2 hβ)
  · subst e
    exact hne b κ (Nat.min_le_right _ _) hβ
theorem run_obj {w : World} {r p : Nat} {s : ByteArray} (h : w.heap[r]? = some (.stringIter s p)) : (getObj r).run P w = .ok (.stringIter s p) w := by
  simp only [getObj, Sem.run, h]
theorem run_setObj {w : World} {r p : Nat} {s : ByteArray} (o : Obj) (h : w.heap[r]? = some (.stringIter s p)) : (setObj r o).run P w = .ok () { w with heap := w.heap.setIfInBounds r o } := by
  simp only [setObj, Sem.run, h]
theorem rangeStrK_yes {t : TypeId} {x : AV} {h : Hp} {k : AK} (H : rangeStrK P t x h k = .yes) : ∃ v h', k v h' = .yes ∧ Sem1 P (Instr.range t) x h v h' := by
  unfold rangeStrK at H
  split at H
  · rename_i n l tr nx low hd
    rw [setP_eq, fNat_eq] at H
    refine ⟨_, _, H, fun β w a hr ha => ?_⟩
    obtain ⟨rfl, -, h3⟩ := con_str_inv ha
    refine ⟨upd β nx w.heap.size 0, w.alloc (.stringIter (bytesOf l) 0), .pointer (some ⟨w.heap.size, 0, none⟩), ?_, Stp.new_block hr (.stringIter (bytesOf l) 0) 0 (.iter l 0) rfl rfl rfl rfl ⟨rfl, h3⟩, by simp only [con, upd_same]; rfl⟩
    unfold Instr.range
    simp only [Sem.run_bind, run_underlying hd, Result.andThen_ok, Sem.run_pure]
    rfl
  · rename_i q e b tr nx low hd
    obtain ⟨bl, hb, H⟩ := getP_yes H
    split at H
    · rename_i es c
      rw [setP_eq, fNat_eq] at H
      refine ⟨_, _, H, fun β w a hr ha => ?_⟩
      obtain ⟨cb, κ, ms, e1, e2, e3⟩ := map_of hr (show (Hp.mk tr nx low).tr.get (path b) = _ from hb)
      obtain ⟨c', κ', e4, rfl⟩ := con_map ha
      rw [e1] at e4; injection e4 with e4; injection e4 with e4 _; subst e4
      have hlt : b < nx := (hr.blk b _ (show (Hp.mk tr nx low).tr.get (path b) = _ from hb)).1
      refine ⟨upd β nx w.heap.size 0, w.alloc (.mapIter (some cb) c #[] c), .pointer (some ⟨w.heap.size, 0, none⟩), run_range_map w t q e cb ms c hd e2, Stp.new_block hr (.mapIter (some cb) c #[] c) 0 (.miter b c) rfl rfl rfl rfl ⟨cb, κ, by rw [upd_ne (by omega)]; exact e1, rfl⟩, by simp only [con, upd_same]; rfl⟩
    · cases H
  · cases H
theorem nextStrK_yes {ty : TypeId} {x : AV} {h : Hp} {k : AK} (H : nextStrK x h k = .yes) : ∃ v h', k v h' = .yes ∧ Sem1 P (fun a => Instr.next a true ty) x h v h' := by
  unfold nextStrK at H
  split at H
  · rename_i b t n low
    obtain ⟨bl, hb, H⟩ := getP_yes H
    split at H
    · rename_i l pos
      rw [dropK_eq] at H
      have hsz : (bytesOf l).size = l.length := bytesOf_size l
      cases hr2 : l.drop pos with
      | nil =>
        rw [hr2] at H
        have hle : l.length ≤ pos := by simpa using hr2
        refine ⟨_, _, H, fun β w a hr ha => ?_⟩
        obtain ⟨cb, κ, hβ, rfl⟩ := con_ptr ha
        obtain ⟨-, cb', κ', hβ', g1, -⟩ := hr.blk b _ hb
        rw [hβ] at hβ'; injection hβ' with hβ'; injection hβ' with e1 e2; subst e1
        refine ⟨β, w, .tuple #[.bool false], ?_, .refl hr, rfl⟩
        unfold Instr.next
        simp only [Sem.run_bind, run_obj g1, Result.andThen_ok]
        rw [if_neg (by omega)]; rfl
      | cons c r =>
        rw [hr2] at H
        obtain ⟨h1, H⟩ := cnd_yes H
        rw [fNat_eq, natMin_eq, setP_eq] at H
        have hlt : pos < l.length := by
          have := congrArg List.length hr2
          simp at this; omega
        have hget : l[pos]? = some c := by
          have := List.getElem?_drop (xs := l) (i := pos) (j := 0)
          rw [hr2] at this
          simpa using this.symm
        have hc : c < 128 := Nat.le_of_ble_eq_true h1
        refine ⟨_, _, H, fun β w a hr ha => ?_⟩
        obtain ⟨cb, κ, hβ, rfl⟩ := con_ptr ha
        obtain ⟨-, cb', κ', hβ', g1, g2⟩ := hr.blk b _ hb
        rw [hβ] at hβ'; injection hβ' with hβ'; injection hβ' with e1 e2; subst e1
        have hdec : Utf8.decode (bytesOf l) pos = (c, 1) := by
          unfold Utf8.decode
          have hb0 : ((bytesOf l).get! (pos + 0)).toNat = c := by
            have e : (bytesOf l).data[pos]? = some (UInt8.ofNat c) := by simp [bytesOf, hget]
            show ((bytesOf l).data[pos + 0]!).toNat = c
            rw [Nat.add_zero, getElem!_def, e]
            simp; omega
          simp only [hb0]
          rw [if_pos hc]
        refine ⟨β, { w with heap := w.heap.setIfInBounds cb (.stringIter (bytesOf l) (pos + 1)) }, .tuple #[.bool true, goInt pos, .int .i32 c], ?_, Stp.set_block hr hb hβ (by simp) (fun i hi hne => by simp [Array.getElem?_setIfInBounds, hne.symm]) rfl rfl rfl ⟨?_, g2⟩, rfl⟩
        · unfold Instr.next
          simp only [Sem.run_bind, run_obj g1, Result.andThen_ok]
          rw [if_pos (by omega), hdec]
          simp only [Sem.run_bind, run_setObj _ g1, Result.andThen_ok]
          rfl
        · have hlt : cb < w.heap.size := (Array.getElem?_eq_some_iff.1 g1).1
          simp [Array.getElem?_setIfInBounds, hlt]
    · cases H
  · cases H
theorem builtinK_yes {b : Builtin} {ts : Array TypeId} {ty : TypeId} {xs : List AV} {h : Hp} {k : AK} (hl : b ≠ .len) (H : builtinK P b ts ty xs h k = .yes) :
    ∃ v h', k v h' = .yes ∧ (∀ β w (vs : List Value) cs, HR β h w → conL β xs = some vs → ∃ β' w' u, (builtin b ts ty cs vs.toArray).run P w = .ok (.value u) w' ∧ Stp β h w β' h' w' ∧ con β' v = some u) ∧ (isPureB b = true → h' = h ∧ ∀ β w (vs : List Value) cs, conL β xs = some vs → ∃ u, (builtin b ts ty cs vs.toArray).run P w = .ok (.value u) w ∧ con β v = some u) := by
  have pl : ∀ {f : List Value → Sem Value}, (builtinK.plainsK xs fun vs => modelK P (f vs) fun v => k v h) = .yes → (∀ cs (vs : List Value), builtin b ts ty cs vs.toArray = (do Pure.pure (.value (← f vs)))) →
      ∃ v h', k v h' = .yes ∧ (∀ β w (vs : List Value) cs, HR β h w → conL β xs = some vs → ∃ β' w' u, (builtin b ts ty cs vs.toArray).run P w = .ok (.value u) w' ∧ Stp β h w β' h' w' ∧ con β' v = some u) ∧ (isPureB b = true → h' = h ∧ ∀ β w (vs : List Value) cs, conL β xs = some vs → ∃ u, (builtin b ts ty cs vs.toArray).run P w = .ok (.value u) w ∧ con β v = some u) := by
    intro f H hb
    obtain ⟨ps, hp, Ha⟩ := plainsK_yes H
    obtain ⟨v, av, h1, h2, h3⟩ := modelK_yes Ha
    have key : ∀ β w (vs : List Value) cs, conL β xs = some vs → (builtin b ts ty cs vs.toArray).run P w = .ok (.value v) w := by
      intro β w vs cs hx
      rw [hb, plainL_con β hp hx, Sem.run_bind, semPure_run h1 w]; rfl
    exact ⟨av, h, h3, fun β w vs cs hr hx => ⟨β, w, v, key β w vs cs hx, .refl hr, h2 β⟩, fun _ => ⟨rfl, fun β w vs cs hx => ⟨v, key β w vs cs hx, h2 β⟩⟩⟩
  unfold builtinK at H
  split at H
  · exact absurd rfl hl
  · rename_i s x
    obtain ⟨v, h', h1, h2⟩ := appendK_yes (ty := ty) H
    refine ⟨v, h', h1, fun β w vs cs hr hx => ?_, fun h => by cases h⟩
    obtain ⟨a, us, e1, e2, rfl⟩ := conL_cons hx
    obtain ⟨b, us', e3, e4, rfl⟩ := conL_cons e2
    obtain rfl := conL_nil e4
    obtain ⟨β', w', u, f1, f2, f3⟩ := h2 β w a b hr e1 e3
    refine ⟨β', w', u, ?_, f2, f3⟩
    show (do Pure.pure (Next.value (← Builtin.append_ ts ty #[a, b]))).run P w = _
    rw [Sem.run_bind, f1]; rfl
  · rename_i d x
    obtain ⟨v, h', h1, h2⟩ := copyK_yes (ty := ty) H
    refine ⟨v, h', h1, fun β w vs cs hr hx => ?_, fun h => by cases h⟩
    obtain ⟨a, us, e1, e2, rfl⟩ := conL_cons hx
    obtain ⟨b, us', e3, e4, rfl⟩ := conL_cons e2
    obtain rfl := conL_nil e4
    obtain ⟨β', w', u, f1, f2, f3⟩ := h2 β w a b hr e1 e3
    refine ⟨β', w', u, ?_, f2, f3⟩
    show (do Pure.pure (Next.value (← Builtin.copy_ ts ty #[a, b]))).run P w = _
    rw [Sem.run_bind, f1]; rfl
  · rename_i b' off n c
    split at H
    · rename_i e hts
      obtain ⟨t, h0, hd⟩ := Option.bind_eq_some_iff.1 hts
      refine ⟨_, _, H, fun β w vs cs hr hx => ?_, fun h => by cases h⟩
      obtain ⟨a, us, e1, e2, rfl⟩ := conL_cons hx
      obtain rfl := conL_nil e2
      obtain ⟨cb, κ, _, rfl⟩ := con_slice e1
      refine ⟨β, w, .int .i64 c, ?_, .refl hr, rfl⟩
      show (do Pure.pure (Next.value (← Builtin.cap_ ts ty #[_]))).run P w = _
      unfold Builtin.cap_
      rw [h0]
      simp [run_underlying hd, goInt]
    · cases H
  · rename_i b off n ex c
    obtain ⟨h1, H⟩ := cnd_yes H
    obtain ⟨h2, H⟩ := cnd_yes H
    refine ⟨_, _, H, fun β w vs cs hr hx => ?_, fun h => by cases h⟩
    obtain ⟨a, us, e1, e2, rfl⟩ := conL_cons hx
    obtain rfl := conL_nil e2
    obtain ⟨cb, κ, hβ, rfl, hor⟩ := con_slice' e1
    have hn : 0 < n := Nat.le_of_ble_eq_true h1
    have hc : (if ex = true then c else κ - c) ≠ 0 := by
      cases ex with
      | true => rw [if_pos rfl]; rw [Bool.not_true, Bool.false_or] at h2; have := Nat.le_of_ble_eq_true h2; omega
      | false =>
        rw [if_neg (by simp)]
        rcases hor with hor | hor
        · cases hor
        · omega
    refine ⟨β, w, .pointer (some ⟨cb, off, none⟩), ?_, .refl hr, by simp only [con, hβ]; rfl⟩
    show (do Pure.pure (Next.value (← Builtin.unsafeSliceData_ ts ty #[_]))).run P w = _
    rw [Sem.run_bind, Go.Lib.run_unsafeSliceData_row w ts ty _ _ _ hc]; rfl
  · refine ⟨_, _, H, fun β w vs cs hr hx => ?_, fun h => by cases h⟩
    obtain ⟨a, us, e1, e2, rfl⟩ := conL_cons hx
    obtain rfl := conL_nil e2
    obtain ⟨rfl, -⟩ := con_raw e1
    refine ⟨β, w, .pointer none, ?_, .refl hr, rfl⟩
    show (do Pure.pure (Next.value (← Builtin.unsafeSliceData_ ts ty #[_]))).run P w = _
    rw [Sem.run_bind, Go.Lib.run_unsafeSliceData_nil w ts ty _ _]; rfl
  · rename_i n
    obtain ⟨h1, H1⟩ := cnd_yes H
    obtain ⟨h2, H2⟩ := cnd_yes H1
    clear H H1
    obtain rfl := Nat.eq_of_beq_eq_true h1
    obtain ⟨t1, t2, rfl⟩ := ts_two (Nat.eq_of_beq_eq_true h2)
    have H := H2
    clear H2
    refine ⟨_, _, H, fun β w vs cs hr hx => ?_, fun h => by cases h⟩
    obtain ⟨a, us, e1, e2, rfl⟩ := conL_cons hx
    obtain ⟨b, us', e3, e4, rfl⟩ := conL_cons e2
    obtain rfl := conL_nil e4
    obtain ⟨rfl, -⟩ := con_raw e1
    rw [con_nat e3]
    refine ⟨β, w, .string .empty, ?_, .refl hr, con_str_mk rfl rfl⟩
    show (do Pure.pure (Next.value (← Builtin.unsafeString_ _ ty #[_, _]))).run P w = _
    have hrun := Go.Lib.run_unsafeString_none (P := P) w t1 t2 ty none
    rw [Sem.run_bind, show (Value.int .i64 ((0 : Nat) : Int)) = .int .i64 0 from rfl, hrun]; rfl
  · rename_i b off n
    obtain ⟨h1, H1⟩ := cnd_yes H
    obtain ⟨h2, H2⟩ := cnd_yes H1
    clear H H1
    obtain rfl := Nat.eq_of_beq_eq_true h1
    obtain ⟨t1, t2, rfl⟩ := ts_two (Nat.eq_of_beq_eq_true h2)
    have H := H2
    clear H2
    split at H
    · rename_i e he
      have he : P.underlying t1 = some (.pointer e) := he
      obtain ⟨cs', e', m, c, ex', sz, g1, g2, g3, g4, H⟩ := getK_yes H
      obtain ⟨l, rfl, h3, H⟩ := u8sOf_yes H
      obtain ⟨h4, H⟩ := cnd_yes H
      obtain ⟨h5, H⟩ := cnd_yes H
      obtain ⟨h6, H⟩ := cnd_yes H
      obtain ⟨t, nx, low⟩ := h
      replace g1 : t.get (path b) = _ := g1
      dsimp only at H
      rw [getP_eq, g1] at H
      dsimp only at H
      obtain ⟨h7, H7⟩ := cnd_yes H
      rw [natMin_eq, setP_eq] at H7
      clear H
      obtain rfl := Nat.eq_of_beq_eq_true h7
      have H := H7
      clear H7
      refine ⟨_, _, H, fun β w vs cs hr hx => ?_, fun h => by cases h⟩
      obtain ⟨a, us, e1, e2, rfl⟩ := conL_cons hx
      obtain ⟨b', us', e3, e4, rfl⟩ := conL_cons e2
      obtain rfl := conL_nil e4
      obtain ⟨cb, κ, hβ, rfl⟩ := con_ptr e1
      rw [con_nat e3]
      have hl : l.length = n := by simpa using g3
      have hn : 0 < n := Nat.le_of_ble_eq_true h4
      obtain ⟨cb', κ', vs', q1, q2, q3, q4, q5⟩ := cells_of hr (show (Hp.mk t nx low).tr.get (path b) = _ from g1) g2 g3 g4
      rw [hβ] at q1; injection q1 with q1; injection q1 with q1 q1'; subst q1
      rw [conL_u8 β h3] at q2; injection q2 with q2
      obtain ⟨-, cb', κ', hβ', csR, fz, r1, -, -, r2, -⟩ := hr.blk b _ (show (Hp.mk t nx low).tr.get (path b) = _ from g1)
      rw [hβ] at hβ'; injection hβ' with hβ'; injection hβ' with q6 q7; subst q6
      have hsh : w.shape? cb = some (e', csR.size) := by simp [World.shape?, r1]
      have hd : (bytesOf l).data.toList = l.map UInt8.ofNat := by simp [bytesOf]
      have hdl : (bytesOf l).data.toList.length = n := by rw [hd, List.length_map, hl]
      refine ⟨β, w.freeze ⟨cb, 0, none⟩ n, .string (bytesOf l), ?_, freeze_stp hr hβ g1, con_str_mk hl.symm h3⟩
      show (do Pure.pure (Next.value (← Builtin.unsafeString_ #[t1, t2] ty #[_, _]))).run P w = _
      have hrun := Go.Lib.run_unsafeString_row w t1 t2 ty e' he (Nat.eq_of_beq_eq_true h6) cb csR.size hsh (bytesOf l).data.toList (by intro h0; rw [h0] at hdl; simp at hdl; omega) (by rw [hdl]; omega) (by rw [hdl]; have := Nat.le_of_ble_eq_true h5; unfold two63 at this; omega) (fun j x hx2 => by
        have hj := q5 j (.int .u8 x.toNat) (by rw [← q2]; unfold byteCells; rw [List.getElem?_map, hx2]; rfl)
        rw [Nat.zero_add] at hj
        rw [Addr.add_lit, Nat.zero_add]
        exact hj)
      rw [hdl] at hrun
      rw [Sem.run_bind, hrun]
      rfl
    · cases H
  · exact pl H (fun cs vs => rfl)
  · exact pl H (fun cs vs => rfl)
  · exact pl H (fun cs vs => rfl)
  · exact pl H (fun cs vs => rfl)
  · exact pl H (fun cs vs => rfl)
  · cases H
theorem map_parts (ρ : Operand → Value) (ps : Array (Nat × Operand)) : (ps.map fun (i, x) => (i, ρ x)) = ((ps.toList.map (·.1)).zip ((ps.toList.map (·.2)).map ρ)).toArray := by
  apply Array.ext'
  simp only [Array.toList_map]
  induction ps.toList with
  | nil => rfl
  | cons p l ih => simp only [List.map_cons, List.zip_cons_cons, ih]
theorem takeDrop {ρ : Operand → Value} {first captured : Array Operand} : True := trivial
theorem pureMk {o : Oper} {xs : List AV} {h : Hp} {v : AV} {k : AK} (h1 : k v h = .yes) (E : ∀ h2, OpHolds P o xs h2 v h2) : ∃ v h', k v h' = .yes ∧ OpHolds P o xs h v h' ∧ Quiet P o xs h v h' := ⟨v, h, h1, E h, fun _ => ⟨rfl, E⟩⟩
def OpCOk (P : Program) (o : Oper) : OpC → Prop
  | .c1 f => ∀ x h k, f x h k = .yes → ∃ v h', k v h' = .yes ∧ OpHolds P o [x] h v h' ∧ Quiet P o [x] h v h'
  | .c2 f => ∀ x y h k, f x y h k = .yes → ∃ v h', k v h' = .yes ∧ OpHolds P o [x, y] h v h' ∧ Quiet P o [x, y] h v h'
  | .cn f => ∀ xs h k, f xs h k = .yes → ∃ v h', k v h' = .yes ∧ OpHolds P o xs h v h' ∧ Quiet P o xs h v h'
  | .bad _ => True
theorem onBool_yes {x : AV} {f t o : Ans} (H : onBool x f t o = .yes) (ho : o ≠ .yes) : ∃ b, x = .bool b ∧ (if b = true then t else f) = .yes := by
  cases x <;> first | exact absurd H ho | skip
  rename_i b
  refine ⟨b, rfl, ?_⟩
  cases b <;> exact H
theorem convQK_yes {src dst : TypeId} {x : AV} {k : AV → Ans} (H : convQK P src dst x k = .yes) : ∃ v, k v = .yes ∧ ∀ β a w, con β x = some a → ∃ u, (convert src dst a).run P w = .ok u w ∧ con β v = some u := by
  unfold convQK at H
  split at H
  · rename_i q n hd
    obtain ⟨h1, H⟩ := cnd_yes H
    obtain ⟨d, hs⟩ := knownB_some h1
    obtain ⟨v, h2, h3⟩ := wrapK_yes H
    refine ⟨v, h2, fun β a w ha => ⟨_, ?_, h3 β⟩⟩
    rw [con_nat ha]
    simp only [convert, Sem.run_bind, run_underlying hs, run_underlying hd, Result.andThen_ok, Conv.intToInt, Sem.run_pure]
    rfl
  · rename_i q n hd
    obtain ⟨h1, H⟩ := cnd_yes H
    obtain ⟨d, hs⟩ := knownB_some h1
    obtain ⟨v, h2, h3⟩ := wrapK_yes H
    refine ⟨v, h2, fun β a w ha => ⟨_, ?_, h3 β⟩⟩
    rw [con_u8 ha]
    simp only [convert, Sem.run_bind, run_underlying hs, run_underlying hd, Result.andThen_ok, Conv.intToInt, Sem.run_pure]
    rfl
  · rename_i q q' n hd
    obtain ⟨h1, H⟩ := cnd_yes H
    obtain ⟨d, hs⟩ := knownB_some h1
    obtain ⟨v, h2, h3⟩ := wrapK_yes H
    refine ⟨v, h2, fun β a w ha => ⟨_, ?_, h3 β⟩⟩
    rw [con_int ha]
    simp only [convert, Sem.run_bind, run_underlying hs, run_underlying hd, Result.andThen_ok, Conv.intToInt, Sem.run_pure]
  · rename_i n l hd
    obtain ⟨h1, H⟩ := cnd_yes H
    obtain ⟨d, hs⟩ := knownB_some h1
    refine ⟨_, H, fun β a w ha => ⟨a, ?_, ha⟩⟩
    rw [(con_str_inv ha).1]
    simp only [convert, Sem.run_bind, run_underlying hs, run_underlying hd, Result.andThen_ok, Sem.run_pure]
  · cases H
theorem lenQK_yes {ts : Array TypeId} {t ty : TypeId} (h0 : ts[0]? = some t) {x : AV} {k : AV → Ans} (H : lenQK P t x k = .yes) : ∃ v, k v = .yes ∧ ∀ β a w, con β x = some a → ∃ u, (Builtin.len_ ts ty #[a]).run P w = .ok u w ∧ con β v = some u := by
  have un : ∀ a, Builtin.len_ ts ty #[a] = Builtin.len_ #[t] ty #[a] := by
    intro a
    unfold Builtin.len_
    rw [h0]
    rfl
  unfold lenQK at H
  split at H
  · rename_i n l hd
    refine ⟨_, H, fun β a w ha => ?_⟩
    obtain ⟨rfl, h3, h4⟩ := con_str_inv ha
    refine ⟨.int .i64 n, ?_, rfl⟩
    rw [un]
    simp [Builtin.len_, run_underlying hd, bytesOf_size, h3, goInt]
  · rename_i b off n ex d hd
    refine ⟨_, H, fun β a w ha => ?_⟩
    obtain ⟨c, κ, _, rfl⟩ := con_slice ha
    refine ⟨.int .i64 n, ?_, rfl⟩
    rw [un]
    simp [Builtin.len_, run_underlying hd, goInt]
  · rename_i n c hd
    rw [fNat_eq] at H
    refine ⟨_, H, fun β a w ha => ?_⟩
    obtain ⟨rfl, -⟩ := con_raw ha
    refine ⟨.int .i64 n, ?_, rfl⟩
    rw [un]
    simp [Builtin.len_, run_underlying hd, goInt]
  · rename_i n e hd
    rw [fNat_eq] at H
    refine ⟨_, H, fun β a w ha => ?_⟩
    refine ⟨.int .i64 n, ?_, rfl⟩
    rw [un]
    simp [Builtin.len_, run_underlying hd, goInt]
  · cases H
theorem mapB_yes {t : TypeId} (h : mapB P t = true) : ∃ d : TypeDesc, ∃ e f, P.underlying t = some (.map e f) := by
  unfold mapB at h
  split at h
  · exact ⟨.bool, _, _, ‹_›⟩
  · cases h
theorem opC_sound (o : Oper) : OpCOk P o (opC P o.op o.type) := by
  obtain ⟨dst, op, type, pos, after, guard⟩ := o
  cases op
  case pick c a b =>
    intro xs h k H
    dsimp only at H
    split at H
    · rename_i c' a' b'
      obtain ⟨t, rfl, H⟩ := onBool_yes H (by intro h; cases h)
      refine pureMk (v := if t = true then a' else b') (by cases t <;> exact H) fun h2 => .pure fun β w ac hx => ?_
      obtain ⟨v1, us, e1, e2, e3⟩ := conL_cons hx
      obtain ⟨v2, us', e4, e5, rfl⟩ := conL_cons e2
      obtain ⟨v3, us'', e6, e7, rfl⟩ := conL_cons e5
      obtain rfl := conL_nil e7
      injection e3 with e8 e9
      injection e9 with e9 e10
      injection e10 with e10 _
      have hb := con_bool e1
      cases t with
      | true => exact ⟨ac.eval a, by simp [execOp, asBool, e8, hb], by rw [if_pos rfl, e9]; exact e4⟩
      | false => exact ⟨ac.eval b, by simp [execOp, asBool, e8, hb], by simp only [Bool.false_eq_true, if_false]; rw [e10]; exact e6⟩
    · cases H
  case binOp op t X Y yt =>
    obtain ⟨f, hf, H⟩ := binC_sound (P := P) op t (o := ⟨dst, .binOp op t X Y yt, type, pos, after, guard⟩) rfl
    show OpCOk P _ (binC P op t)
    rw [hf]; exact H
  case unOp op t X =>
    intro x h k H
    obtain ⟨v, h1, h2⟩ := unK_yes H
    exact pureMk h1 fun h3 => exec1p (fun ρ => rfl) rfl h2
  case convert s d X =>
    show OpCOk P _ (match convQ P s d with
      | true => .c1 fun x h k => convQK P s d x fun v => k v h
      | false => .c1 fun x h k => convK P s d x h k)
    cases hq : convQ P s d with
    | true =>
      intro x h k H
      obtain ⟨v, h1, h2⟩ := convQK_yes H
      exact pureMk h1 fun h3 => exec1p (fun ρ => rfl) rfl h2
    | false =>
      intro x h k H
      obtain ⟨v, h', h1, h2⟩ := convK_yes H
      exact ⟨v, h', h1, exec1 (fun ρ => rfl) rfl h2, .no hq⟩
  case alloc e =>
    intro xs h k H
    obtain ⟨v, h', h1, h2⟩ := allocK_yes H
    refine ⟨v, h', h1, .val fun β w a hr hx => ?_, .no rfl⟩
    obtain ⟨β', w', u, f1, f2, f3⟩ := h2 β w hr
    exact ⟨β', w', u, by show (do Pure.pure (Next.value (← Instr.alloc e true (.tuple #[])))).run P w = _; rw [Sem.run_bind, f1]; rfl, f2, f3⟩
  case box e X =>
    intro x h k H
    obtain ⟨v, h', h1, h2⟩ := boxK_yes H
    exact ⟨v, h', h1, exec1 (fun ρ => rfl) rfl h2, .no rfl⟩
  case build t ps =>
    intro xs h k H
    obtain ⟨v, h1, h2⟩ := buildK_yes (k := fun v => k v h) H
    refine pureMk h1 fun h3 => .pure fun β w a hx => ?_
    have hx' : conL β xs = some ((ps.toList.map (·.2)).map a.eval) := by simpa [Op.operands] using hx
    obtain ⟨u, f1, f2⟩ := h2 β w _ hx'
    refine ⟨u, ?_, f2⟩
    show (do Pure.pure (Next.value (← Instr.build t (ps.map fun (i, x) => (i, a.eval x))))).run P w = _
    rw [map_parts, Sem.run_bind, f1]; rfl
  case buildSlice t n ps =>
    intro xs h k H
    obtain ⟨v, h', h1, h2⟩ := buildSliceK_yes H
    refine ⟨v, h', h1, .val fun β w a hr hx => ?_, .no rfl⟩
    have hx' : conL β xs = some ((ps.toList.map (·.2)).map a.eval) := by simpa [Op.operands] using hx
    obtain ⟨β', w', u, f1, f2, f3⟩ := h2 β w _ hr hx'
    refine ⟨β', w', u, ?_, f2, f3⟩
    show (do Pure.pure (Next.value (← Instr.buildSlice t n (ps.map fun (i, x) => (i, a.eval x))))).run P w = _
    rw [map_parts, Sem.run_bind, f1]; rfl
  case load t X =>
    intro x h k H
    obtain ⟨v, h1, h2⟩ := loadK_yes (k := fun v => k v h) H
    exact ⟨v, h, h1, exec1 (fun ρ => rfl) rfl h2, .no rfl⟩
  case store t X Y =>
    intro x y h k H
    obtain ⟨h', h1, h2⟩ := storeK_yes H
    refine ⟨_, h', h1, .skip fun β w a hr hx => ?_, .no rfl⟩
    obtain ⟨e1, e2⟩ := conL2 hx
    obtain ⟨β', w', f1, f2⟩ := h2 β w _ _ hr e1 e2
    exact ⟨β', w', by show (do Instr.storeAt t (a.eval X) (a.eval Y); Pure.pure Next.skip).run P w = _; rw [Sem.run_bind, f1]; rfl, f2⟩
  case nilCheck X =>
    intro x h k H
    dsimp only at H
    split at H
    · refine pureMk H fun h3 => .pure fun β w a hx => ?_
      have e := conL1 hx
      obtain ⟨c, κ, _, e2⟩ := con_ptr e
      exact ⟨a.eval X, by simp [execOp, e2], e⟩
    · refine pureMk H fun h3 => .pure fun β w a hx => ?_
      have e := conL1 hx
      obtain ⟨c, d, _, _, e2⟩ := con_fn e
      exact ⟨a.eval X, by simp [execOp, e2], e⟩
    · cases H
  case makeInterface t X =>
    show OpCOk P _ (match P.underlying t with
      | some (.interface _) => .bad 132
      | some _ => .c1 fun x h k => k (.iface t x) h
      | none => .bad 133)
    split
    · trivial
    · rename_i d hd hni
      intro x h k H
      refine pureMk H fun h3 => exec1p (f := Instr.makeInterface t) (fun ρ => rfl) rfl fun β a w ha => ⟨.iface t a, ?_, by simp only [con, ha]; rfl⟩
      unfold Instr.makeInterface
      simp only [Sem.run_bind, run_underlying hni, Result.andThen_ok]
      cases d <;> first | rfl | exact absurd rfl (hd _)
    · trivial
  case makeFunc fn first captured =>
    intro xs h k H
    simp only [takeK_eq, dropK_eq] at H
    refine pureMk H fun h3 => .pure fun β w a hx => ?_
    have hx' : conL β xs = some ((first.toList.map a.eval) ++ (captured.toList.map a.eval)) := by simpa [Op.operands] using hx
    refine ⟨.func fn (first.map a.eval) (captured.map a.eval), rfl, ?_⟩
    have h1 := conL_take first.size hx'
    have h2 := conL_drop first.size hx'
    rw [List.take_left' (by simp)] at h1
    rw [List.drop_left' (by simp)] at h2
    simp only [con, h1, h2, Option.bind_some, Option.map_some]
    congr 1
    rw [show (first.toList.map a.eval).toArray = first.map a.eval by apply Array.ext'; simp, show (captured.toList.map a.eval).toArray = captured.map a.eval by apply Array.ext'; simp]
  case makeMap t r =>
    cases r with
    | none =>
      intro xs h k H
      obtain ⟨v, h', h1, h2⟩ := newMapK_yes (P := P) H
      refine ⟨v, h', h1, .val fun β w a hr hx => ?_, .no rfl⟩
      obtain ⟨β', w', u, f1, f2, f3⟩ := h2 β w hr
      refine ⟨β', w', u, ?_, f2, f3⟩
      have e : Instr.makeMap t none = (do Pure.pure (Value.map (some (← newObj (.map #[] 0)))) : Sem Value) := rfl
      show (do Pure.pure (Next.value (← Instr.makeMap t none))).run P w = _
      rw [e, Sem.run_bind, f1]; rfl
    | some r =>
      intro x h k H
      dsimp only at H
      obtain ⟨n, hn, Ha⟩ := natOf_yes H
      obtain ⟨hk, Hb⟩ := cnd_yes Ha
      obtain ⟨d, hd⟩ := mapB_yes hk
      obtain ⟨v, h', h1, h2⟩ := newMapK_yes (P := P) Hb
      refine ⟨v, h', h1, .val fun β w a hr hx => ?_, .no rfl⟩
      obtain ⟨β', w', u, f1, f2, f3⟩ := h2 β w hr
      refine ⟨β', w', u, ?_, f2, f3⟩
      obtain ⟨q, e⟩ := hn β _ (conL1 hx)
      show (do Pure.pure (Next.value (← Instr.makeMap t (some (a.eval r))))).run P w = _
      rw [e]
      unfold Instr.makeMap asInt
      obtain ⟨e1, e2, hd⟩ := hd
      simp only [Sem.run_bind, run_underlying hd, Result.andThen_ok, run_index_int, Sem.run_pure] at f1 ⊢
      rw [f1]; rfl
  case makeSlice t X Y =>
    intro x y h k H
    obtain ⟨v, h', h1, h2⟩ := makeSliceK_yes H
    exact ⟨v, h', h1, exec2 (fun ρ => rfl) rfl h2, .no rfl⟩
  case slice t X lo hi mx =>
    have sl : ∀ {x : AV} {l2 h2 m2 : Option AV} {h : Hp} {k : AK} {xs : List AV}, (m2.isSome = true → h2.isSome = true) → sliceK P t x l2 h2 m2 (fun v => k v h) = .yes →
        (∀ β (a : Act), conL β xs = some ((#[X] ++ lo.toArray ++ hi.toArray ++ mx.toArray).toList.map a.eval) → con β x = some (a.eval X) ∧ OptR β l2 (lo.map a.eval) ∧ OptR β h2 (hi.map a.eval) ∧ OptR β m2 (mx.map a.eval)) →
        ∃ v h', k v h' = .yes ∧ OpHolds P ⟨dst, .slice t X lo hi mx, type, pos, after, guard⟩ xs h v h' ∧ Quiet P ⟨dst, .slice t X lo hi mx, type, pos, after, guard⟩ xs h v h' := by
      intro x l2 h2 m2 h k xs hm H hx
      obtain ⟨v, g1, g2⟩ := sliceK_yes hm H
      refine pureMk g1 fun h3 => .pure fun β w a hxs => ?_
      obtain ⟨e1, e2, e3, e4⟩ := hx β a hxs
      obtain ⟨u, f1, f2⟩ := g2 β w _ _ _ _ e1 e2 e3 e4
      refine ⟨u, ?_, f2⟩
      show (do Pure.pure (Next.value (← Instr.sliceAt t (a.eval X) (lo.map a.eval) (hi.map a.eval) (mx.map a.eval)))).run P w = _
      rw [Sem.run_bind, f1]; rfl
    cases lo <;> cases hi <;> cases mx
    · intro x h k H
      exact sl (by simp) H fun β a hx => ⟨conL1 hx, trivial, trivial, trivial⟩
    · trivial
    · intro x b h k H
      exact sl (by simp) H fun β a hx => ⟨(conL2 hx).1, trivial, (conL2 hx).2, trivial⟩
    · intro xs h k H
      dsimp only at H
      split at H
      · refine sl (by simp) H fun β a hx => ?_
        obtain ⟨v1, us, e1, e2, e3⟩ := conL_cons hx
        injection e3 with e4 e5
        subst e5
        obtain ⟨f1, f2⟩ := conL2 e2
        exact ⟨by rw [e4]; exact e1, trivial, f1, f2⟩
      · cases H
    · intro x b h k H
      exact sl (by simp) H fun β a hx => ⟨(conL2 hx).1, (conL2 hx).2, trivial, trivial⟩
    · trivial
    · intro xs h k H
      dsimp only at H
      split at H
      · refine sl (by simp) H fun β a hx => ?_
        obtain ⟨v1, us, e1, e2, e3⟩ := conL_cons hx
        injection e3 with e4 e5
        subst e5
        obtain ⟨f1, f2⟩ := conL2 e2
        exact ⟨by rw [e4]; exact e1, f1, f2, trivial⟩
      · cases H
    · intro xs h k H
      dsimp only at H
      split at H
      · refine sl (by simp) H fun β a hx => ?_
        obtain ⟨v1, us, e1, e2, e3⟩ := conL_cons hx
        injection e3 with e4 e5
        obtain ⟨v2, us2, f1, f2, f3⟩ := conL_cons e2
        rw [f3] at e5
        injection e5 with e6 e7
        subst e7
        obtain ⟨g1, g2⟩ := conL2 f2
        exact ⟨by rw [e4]; exact e1, (by first | (rw [← e6] at f1; exact f1) | (rw [e6] at f1; exact f1)), g1, g2⟩
      · cases H
  case fieldAddr s X f =>
    intro x h k H
    obtain ⟨v, h1, h2⟩ := fieldAddrK_yes (k := fun v => k v h) H
    exact pureMk h1 fun h3 => exec1p (f := fun a => Instr.fieldAt s a f) (fun ρ => rfl) rfl h2
  case field s X f =>
    intro x h k H
    obtain ⟨v, h1, h2⟩ := fieldK_yes (k := fun v => k v h) H
    exact pureMk h1 fun h3 => exec1p (f := fun a => Instr.field s a f) (fun ρ => rfl) rfl h2
  case indexAddr t X Y =>
    intro x y h k H
    obtain ⟨v, h1, h2⟩ := indexAddrK_yes (k := fun v => k v h) H
    exact pureMk h1 fun h3 => exec2p (f := Instr.indexAt t) (fun ρ => rfl) rfl h2
  case index t X Y =>
    intro x y h k H
    obtain ⟨v, h1, h2⟩ := indexK_yes (k := fun v => k v h) H
    exact pureMk h1 fun h3 => exec2p (f := Instr.index t) (fun ρ => rfl) rfl h2
  case lookup t X Y ok =>
    intro x y h k H
    obtain ⟨v, h1, h2⟩ := lookupK_yes (k := fun v => k v h) H
    exact ⟨v, h, h1, exec2 (f := fun a b => Instr.lookup t a b ok) (fun ρ => rfl) rfl h2, .no rfl⟩
  case range t X =>
    intro x h k H
    obtain ⟨v, h', h1, h2⟩ := rangeStrK_yes H
    exact ⟨v, h', h1, exec1 (f := Instr.range t) (fun ρ => rfl) rfl h2, .no rfl⟩
  case next X s =>
    cases s with
    | false => trivial
    | true =>
      intro x h k H
      obtain ⟨v, h', h1, h2⟩ := nextStrK_yes (P := P) (ty := type) H
      exact ⟨v, h', h1, exec1 (f := fun a => Instr.next a true type) (fun ρ => rfl) rfl h2, .no rfl⟩
  case mapUpdate t X Y Z =>
    intro xs h k H
    dsimp only at H
    split at H
    · obtain ⟨h', h1, h2⟩ := updateK_yes H
      refine ⟨_, h', h1, .skip fun β w a hr hx => ?_, .no rfl⟩
      obtain ⟨v1, us, e1, e2, e3⟩ := conL_cons hx
      injection e3 with e4 e5
      subst e5
      obtain ⟨f1, f2⟩ := conL2 e2
      obtain ⟨β', w', g1, g2⟩ := h2 β w _ _ _ hr e1 f1 f2
      exact ⟨β', w', by show (do Instr.mapUpdate t (a.eval X) (a.eval Y) (a.eval Z); Pure.pure Next.skip).run P w = _; rw [e4, Sem.run_bind, g1]; rfl, g2⟩
    · cases H
  case insert t X Y Z =>
    intro xs h k H
    dsimp only at H
    split at H
    · obtain ⟨h', h1, h2⟩ := updateK_yes H
      refine ⟨_, h', h1, .skip fun β w a hr hx => ?_, .no rfl⟩
      obtain ⟨v1, us, e1, e2, e3⟩ := conL_cons hx
      injection e3 with e4 e5
      subst e5
      obtain ⟨f1, f2⟩ := conL2 e2
      obtain ⟨β', w', g1, g2⟩ := h2 β w _ _ _ hr e1 f1 f2
      exact ⟨β', w', by show (do Instr.mapUpdate t (a.eval X) (a.eval Y) (a.eval Z); Pure.pure Next.skip).run P w = _; rw [e4, Sem.run_bind, g1]; rfl, g2⟩
    · cases H
  case extract X i =>
    intro x h k H
    dsimp only at H
    split at H
    · rename_i l
      obtain ⟨v, hv, Ha⟩ := nthK_yes H
      refine pureMk Ha fun h3 => exec1p (f := fun a => Instr.extract a i) (fun ρ => rfl) rfl fun β a w ha => ?_
      obtain ⟨vs, e1, rfl⟩ := con_tup ha
      obtain ⟨u, e2, e3⟩ := conL_get e1 hv
      refine ⟨u, ?_, e3⟩
      unfold Instr.extract
      simp [e2]
    · cases H
  case call c =>
    obtain ⟨callee, args, argTypes⟩ := c
    cases callee
    case builtin b =>
      have gen : b ≠ .len → OpCOk P ⟨dst, .call ⟨.builtin b, args, argTypes⟩, type, pos, after, guard⟩ (.cn fun xs h k => builtinK P b argTypes type xs h k) := by
        intro hb xs h k H
        obtain ⟨v, h', h1, h2, h3⟩ := builtinK_yes hb H
        refine ⟨v, h', h1, .val fun β w a hr hx => ?_, fun hq => ?_⟩
        rotate_left
        · have hq' : isPureB b = true := by
            cases b <;> first | rfl | exact absurd rfl hb | cases hq
          obtain ⟨e, h4⟩ := h3 hq'
          refine ⟨e, fun h2 => .pure fun β w a hx => ?_⟩
          have hx' : conL β xs = some (args.toList.map a.eval) := by simpa [Op.operands, Call.operands] using hx
          obtain ⟨u, f1, f3⟩ := h4 β w _ (args.map fun | .const _ => true | _ => false) hx'
          refine ⟨u, ?_, f3⟩
          show (do let d ← resolve a.eval ⟨.builtin b, args, argTypes⟩ type; invoke d.target d.args).run P w = _
          unfold resolve invoke
          simp only [Sem.run_bind, Sem.run_pure, Result.andThen_ok]
          rw [show args.map a.eval = (args.toList.map a.eval).toArray by apply Array.ext'; simp]
          exact f1
        have hx' : conL β xs = some (args.toList.map a.eval) := by simpa [Op.operands, Call.operands] using hx
        obtain ⟨β', w', u, f1, f2, f3⟩ := h2 β w _ (args.map fun | .const _ => true | _ => false) hr hx'
        refine ⟨β', w', u, ?_, f2, f3⟩
        show (do let d ← resolve a.eval ⟨.builtin b, args, argTypes⟩ type; invoke d.target d.args).run P w = _
        unfold resolve invoke
        simp only [Sem.run_bind, Sem.run_pure, Result.andThen_ok]
        rw [show args.map a.eval = (args.toList.map a.eval).toArray by apply Array.ext'; simp]
        exact f1
      cases b
      case len =>
        show OpCOk P _ (match argTypes[0]? with
          | some t => match lenQ P t with
            | true => .c1 fun x h k => lenQK P t x fun v => k v h
            | false => .c1 fun x h k => lenOfK P t x h fun v => k v h
          | none => .bad 114)
        split
        · rename_i t ht
          have ex : ∀ (a : Act) (w w' : World) (x : AV) (β : Bt) (v : AV) (u v1 : Value), args.toList.map a.eval = [v1] → (Builtin.len_ argTypes type #[v1]).run P w = .ok u w' → (execOp a.eval ⟨dst, .call ⟨.builtin .len, args, argTypes⟩, type, pos, after, guard⟩).run P w = .ok (.value u) w' := by
            intro a w w' x β v u v1 e3 f1
            show (do let d ← resolve a.eval ⟨.builtin .len, args, argTypes⟩ type; invoke d.target d.args).run P w = _
            unfold resolve invoke
            simp only [Sem.run_bind, Sem.run_pure, Result.andThen_ok]
            rw [show args.map a.eval = #[v1] by apply Array.ext'; simpa using e3]
            show (do Pure.pure (Next.value (← Builtin.len_ argTypes type #[v1]))).run P w = _
            rw [Sem.run_bind, f1]; rfl
          cases hq : lenQ P t with
          | true =>
            intro x h k H
            obtain ⟨v, h1, h2⟩ := lenQK_yes (ty := type) ht H
            refine pureMk h1 fun h3 => .pure fun β w a hx => ?_
            have hx' : conL β [x] = some (args.toList.map a.eval) := by simpa [Op.operands, Call.operands] using hx
            obtain ⟨v1, us, e1, e2, e3⟩ := conL_cons hx'
            obtain rfl := conL_nil e2
            obtain ⟨u, f1, f3⟩ := h2 β _ w e1
            exact ⟨u, ex a w w x β v u v1 e3 f1, f3⟩
          | false =>
            intro x h k H
            obtain ⟨v, h1, h2⟩ := lenOfK_yes (ty := type) ht (k := fun v => k v h) H
            refine ⟨v, h, h1, .val fun β w a hr hx => ?_, .no (by show (match argTypes[0]? with | some t => lenQ P t | none => false) = false; rw [ht]; exact hq)⟩
            have hx' : conL β [x] = some (args.toList.map a.eval) := by simpa [Op.operands, Call.operands] using hx
            obtain ⟨v1, us, e1, e2, e3⟩ := conL_cons hx'
            obtain rfl := conL_nil e2
            obtain ⟨β', w', u, f1, f2, f3⟩ := h2 β w _ hr e1
            exact ⟨β', w', u, ex a w w' x β v u v1 e3 f1, f2, f3⟩
        · trivial
      all_goals exact gen (by intro h; cases h)
    all_goals trivial
  all_goals trivial
end Go.Ev
end
/- The evaluator's code is the model's: statements. -/
section
set_option linter.unusedVariables false
set_option linter.unusedSectionVars false
set_option linter.unusedSimpArgs false
namespace Go.Ev
variable [Sg]
open Go.RowKit
variable {P : Program}

def EnvK (keep : Nat) (env : Tr AV) : Prop := ∀ t, inMask keep t = false → env.get (path t) = none
structure Rel (N : Nat) (ds : List Deferred) (β : Bt) (env : Tr AV) (h : Hp) (a : Act) (w : World) : Prop where
  hr : HR β h w
  env : ∀ t av, env.get (path t) = some av → con β av = some (a.tmps.getD t undef)
  size : N ≤ a.tmps.size
  defers : a.defers = ds
def Post (N : Nat) (ds : List Deferred) (β : Bt) (h : Hp) (w : World) (env' : Tr AV) (h' : Hp) (a' : Act) (w' : World) : Prop :=
  ∃ β', Stp β h w β' h' w' ∧ Rel N ds β' env' h' a' w'
def exOf : Ex → Exit
  | .normal => .normal
  | .exit id => .exit id
  | .goto l => .goto l
  | .ret => .ret
def GlobK (P : Program) (β : Bt) : Prop := ∀ g, g < P.globals.size → ∃ κ, β g = some (g, κ)
def Wp (P : Program) (items : List Item) (Q : Exit → Act → World → Prop) (a : Act) (w : World) : Prop :=
  ∀ (b : Frame) (k : List Item) (cs : List Frame), ∃ e a' w', Q e a' w' ∧ Arrives P (lone (b.at a (items ++ k)) cs w) b k cs e a' w'
inductive Task where
  | code (c : Code)
  | loop (c : Code)
  | scope (c c0 : Code)
noncomputable def Task.cc (P : Program) (N keep : Nat) : Task → CC
  | .code c => compC P N keep c
  | .loop c => .loop (compC P N keep c)
  | .scope c c0 => .scope c (compC P N keep c0)
def Task.items : Task → List Item
  | .code c => [.code c]
  | .loop c => [.code c, .inLoop c]
  | .scope c c0 => [.code c0, .inScope c]
noncomputable def runR (callf : CallF) (os : List CO) (env : Tr AV) (h : Hp) (k : Tr AV → Hp → Ans) : Ans :=
  Bool.rec (motive := fun _ => Ans) (runSeq callf os [] env h k) (runFree callf os [] env h [] [(0, h)] [] k) (os.any isFree)
def RegOK (P : Program) (callf : CallF) (N keep : Nat) : Prop :=
  ∀ id ops draw os env h (k : Tr AV → Hp → Ans), compR P N ops keep draw = some os → runR callf os env h k = .yes → EnvK keep env →
    ∃ env' h', k env' h' = .yes ∧ EnvK keep env' ∧ ∀ ds β a w, Rel N ds β env h a w → GlobK P β → (Code.region id ops draw).wp P (fun e a' w' => e = .normal ∧ Post N ds β h w env' h' a' w') a w
def rfGet (r : Rf) (L : List AV) (env : Tr AV) : Option AV := match r with
  | .loc n => L[n]?
  | .var p => env.get p
  | .cst u => some u
  | .bad => none
theorem rfK_yes {r : Rf} {L : List AV} {env : Tr AV} {k : AV → Ans} (H : rfK r L env k = .yes) : ∃ v, k v = .yes ∧ rfGet r L env = some v := by
  cases r with
  | loc n => obtain ⟨v, h1, h2⟩ := nthK_yes H; exact ⟨v, h2, h1⟩
  | var p => obtain ⟨v, h1, h2⟩ := getP_yes H; exact ⟨v, h2, h1⟩
  | cst u => exact ⟨u, H, rfl⟩
  | bad => cases H
theorem rfOp_const (P : Program) (D : Dl) (now : Nat) (u : Value) : rfOp P D now (.const u) = if okConst u = true then .cst (toAV u) else .bad := by
  show (match okConst u with | true => Rf.cst (toAV u) | false => Rf.bad) = _
  cases okConst u <;> rfl
theorem toAV1_con (β : Bt) {v : Value} (h : v.oneCell' = true) : con β (toAV1 v) = some v := by
  unfold toAV1
  split
  · rfl
  · rfl
  · rfl
  · rfl
  · exact con_str β _
  · unfold con; rw [if_pos h]
theorem toAVs_con (β : Bt) : ∀ {l : List Value}, (∀ u ∈ l, u.oneCell' = true) → conL β (l.map toAV1) = some l
  | [], _ => rfl
  | v :: l, h => conL_mk (toAV1_con β (h v (List.mem_cons_self ..))) (toAVs_con β fun u hu => h u (List.mem_cons_of_mem _ hu))
theorem flat_one {v : Value} (h : okConst.flat v = true) : v.oneCell' = true := by
  cases v <;> first | rfl | cases h
theorem toAV_con (β : Bt) {v : Value} (h : okConst v = true) : con β (toAV v) = some v := by
  unfold toAV
  split
  · rename_i cs
    have h' : ∀ u ∈ cs.toList, u.oneCell' = true := fun u hu => flat_one (List.all_eq_true.1 h u hu)
    rw [con_agg_mk (toAVs_con β h') h']
  · rename_i cs
    have h' : ∀ u ∈ cs.toList, u.oneCell' = true := fun u hu => flat_one (List.all_eq_true.1 h u hu)
    simp only [con, toAVs_con β h', Option.map_some]
  · rename_i h1 h2
    exact toAV1_con β (by cases v <;> first | rfl | exact absurd rfl (h1 _) | exact absurd rfl (h2 _))
theorem Wp.step {items items' : List Item} {Q : Exit → Act → World → Prop} {a : Act} {w : World} (hs : ∀ (b : Frame) (k : List Item) (cs : List Frame), step P (lone (b.at a (items ++ k)) cs w) = .next (lone (b.at a (items' ++ k)) cs w)) (h : Wp P items' Q a w) : Wp P items Q a w := by
  intro b k cs
  obtain ⟨e, a', w', hq, har⟩ := h b k cs
  exact ⟨e, a', w', hq, .of_steps (.one (hs b k cs)) har⟩
theorem Wp.code {c : Code} {Q : Exit → Act → World → Prop} {a : Act} {w : World} : Wp P [.code c] Q a w ↔ c.wp P Q a w := Iff.rfl
theorem Wp.then {c : Code} {x : Item} (hx : x.plain = true) {Q : Exit → Act → World → Prop} {a : Act} {w : World} (h : c.wp P (fun e a' w' => match e with | .normal => Wp P [x] Q a' w' | e => Q e a' w') a w) : Wp P [.code c, x] Q a w := by
  intro b k cs
  obtain ⟨e, a1, w1, hq, har⟩ := h b (x :: k) cs
  cases e with
  | normal =>
    obtain ⟨e2, a2, w2, hq2, har2⟩ := hq b k cs
    exact ⟨e2, a2, w2, hq2, .of_steps har har2⟩
  | exit id => exact ⟨_, a1, w1, hq, .pass (x := x) hx (fun _ _ => .inl (by simp)) har⟩
  | goto l => exact ⟨_, a1, w1, hq, .pass (x := x) hx (fun _ _ => .inl (by simp)) har⟩
  | ret => exact ⟨_, a1, w1, hq, .pass (x := x) hx (fun _ _ => .inl (by simp)) har⟩
  | panic ch => exact ⟨_, a1, w1, hq, .pass (x := x) hx (fun _ _ => .inl (by simp)) har⟩
  | outgrown => exact ⟨_, a1, w1, hq, .pass (x := x) hx (fun _ _ => .inl (by simp)) har⟩
theorem Wp.scope {c c0 : Code} {Q : Exit → Act → World → Prop} {a : Act} {w : World} (h : c0.wp P (fun e a' w' => match e with
      | .goto l => (∃ rest, findLabel c l = some rest ∧ Wp P [.code rest, .inScope c] Q a' w') ∨ (findLabel c l = none ∧ Q (.goto l) a' w')
      | e => Q e a' w') a w) : Wp P [.code c0, .inScope c] Q a w := by
  intro b k cs
  obtain ⟨e, a1, w1, hq, har⟩ := h b (.inScope c :: k) cs
  cases e with
  | normal => exact ⟨.normal, a1, w1, hq, Steps.trans har (.one step_inScope)⟩
  | exit id => exact ⟨.exit id, a1, w1, hq, fun k' hk => har k' (by simp [exitTo, hk])⟩
  | goto l =>
    rcases hq with ⟨rest, hf, h2⟩ | ⟨hf, hq⟩
    · obtain ⟨e2, a2, w2, hq2, har2⟩ := h2 b k cs
      exact ⟨e2, a2, w2, hq2, .of_steps (har _ (by simp [gotoIn, hf])) har2⟩
    · exact ⟨.goto l, a1, w1, hq, fun k' hk => har k' (by simp [gotoIn, hf, hk])⟩
  | ret => exact ⟨_, a1, w1, hq, har⟩
  | panic ch => exact ⟨_, a1, w1, hq, har⟩
  | outgrown => exact ⟨_, a1, w1, hq, har⟩
theorem onNormal_yes {e : Ex} {x y : Ans} (h : onNormal e x y = .yes) : (e = .normal ∧ x = .yes) ∨ (e ≠ .normal ∧ y = .yes) := by
  cases e <;> first | exact .inl ⟨rfl, h⟩ | exact .inr ⟨(by intro h; cases h), h⟩
theorem onExit_yes {e : Ex} {id : Nat} {x y : Ans} (h : onExit e id x y = .yes) : (e = .exit id ∧ x = .yes) ∨ (e ≠ .exit id ∧ y = .yes) := by
  cases e
  case exit i =>
    replace h : cnd (Nat.beq i id) x y = .yes := h
    rw [cnd_eq] at h
    split at h
    · rename_i hb; rw [Nat.eq_of_beq_eq_true hb]; exact .inl ⟨rfl, h⟩
    · rename_i hb; exact .inr ⟨(fun e => by injection e with e; subst e; exact hb (Nat.beq_refl i)), h⟩
  all_goals exact .inr ⟨(by intro h; cases h), h⟩
theorem onGoto_yes {e : Ex} {x : Nat → Ans} {y : Ans} (h : onGoto e x y = .yes) : (∃ l, e = .goto l ∧ x l = .yes) ∨ ((∀ l, e ≠ .goto l) ∧ y = .yes) := by
  cases e <;> first | exact .inl ⟨_, rfl, h⟩ | exact .inr ⟨(by intro l h; cases h), h⟩
def Ends (P : Program) (N keep : Nat) (items : List Item) (env : Tr AV) (h : Hp) (k : Kont) : Prop :=
  ∃ e env' h', k e env' h' = .yes ∧ EnvK keep env' ∧ ∀ ds β a w, Rel N ds β env h a w → GlobK P β → Wp P items (fun ex a' w' => ex = exOf e ∧ Post N ds β h w env' h' a' w') a w
theorem Ends.here {N keep : Nat} {items : List Item} {env : Tr AV} {h : Hp} {k : Kont} (e : Ex) (hk : k e env h = .yes) (hK : EnvK keep env) (hw : ∀ a w (Q : Exit → Act → World → Prop), Q (exOf e) a w → Wp P items Q a w) : Ends P N keep items env h k :=
  ⟨e, env, h, hk, hK, fun ds β a w hr hg => hw a w _ ⟨rfl, β, .refl hr.hr, hr⟩⟩
theorem Post.trans {N : Nat} {ds : List Deferred} {β β1 : Bt} {h h1 h2 : Hp} {w w1 w2 : World} {env2 : Tr AV} {a2 : Act} (hr : HR β h w) (s : Stp β h w β1 h1 w1) (p : Post N ds β1 h1 w1 env2 h2 a2 w2) : Post N ds β h w env2 h2 a2 w2 := by
  obtain ⟨β', s', r'⟩ := p
  exact ⟨β', s.trans hr s', r'⟩
theorem GlobK.le {β β' : Bt} (h : GlobK P β) (hl : Le β β') : GlobK P β' := fun g hg => let ⟨κ, e⟩ := h g hg; ⟨κ, hl _ _ e⟩
theorem Ends.step {N keep : Nat} {items items' : List Item} {env : Tr AV} {h : Hp} {k : Kont} (H : Ends P N keep items' env h k) (hs : ∀ (a : Act) (w : World) (b : Frame) (k : List Item) (cs : List Frame), Go.step P (lone (b.at a (items ++ k)) cs w) = .next (lone (b.at a (items' ++ k)) cs w)) : Ends P N keep items env h k := by
  obtain ⟨e, env1, h1, H1, hK1, hw1⟩ := H
  exact ⟨e, env1, h1, H1, hK1, fun ds β a w hr hg => Wp.step (hs a w) (hw1 ds β a w hr hg)⟩
theorem run_sound {callf : CallF} {N keep : Nat} (hreg : RegOK P callf N keep) : ∀ fuel (t : Task) env h k, run P callf N keep fuel (t.cc P N keep) env h k = .yes → EnvK keep env → Ends P N keep t.items env h k := by
  intro fuel
  induction fuel with
  | zero => intro t env h k H hK; cases H
  | succ f ih =>
    have loopCase : ∀ c env h k, run P callf N keep (f + 1) ((Task.loop c).cc P N keep) env h k = .yes → EnvK keep env → Ends P N keep (Task.loop c).items env h k := by
      intro c env h k H hK
      replace H : run P callf N keep f ((Task.code c).cc P N keep) env h (fun e env h => onNormal e (run P callf N keep f ((Task.loop c).cc P N keep) env h k) (k e env h)) = .yes := H
      obtain ⟨e, env1, h1, H1, hK1, hw1⟩ := ih _ _ _ _ H hK
      rcases onNormal_yes H1 with ⟨rfl, H2⟩ | ⟨hne, H2⟩
      · obtain ⟨e2, env2, h2, H3, hK2, hw2⟩ := ih _ _ _ _ H2 hK1
        refine ⟨e2, env2, h2, H3, hK2, fun ds β a w hr hg => ?_⟩
        refine Wp.then rfl (wp_mono (hw1 ds β a w hr hg) fun ex a1 w1 hp => ?_)
        obtain ⟨rfl, β1, s1, r1⟩ := hp
        refine Wp.step (items' := [.code c, .inLoop c]) (fun b k cs => step_inLoop) ?_
        have := hw2 ds β1 a1 w1 r1 (hg.le (s1.le hr.hr))
        intro b k cs
        obtain ⟨e', a', w', ⟨q1, q2⟩, har⟩ := this b k cs
        exact ⟨e', a', w', ⟨q1, q2.trans hr.hr s1⟩, har⟩
      · refine ⟨e, env1, h1, H2, hK1, fun ds β a w hr hg => ?_⟩
        refine Wp.then rfl (wp_mono (hw1 ds β a w hr hg) fun ex a1 w1 hp => ?_)
        obtain ⟨rfl, hp⟩ := hp
        cases e with
        | normal => exact absurd rfl hne
        | exit id => exact ⟨rfl, hp⟩
        | goto l => exact ⟨rfl, hp⟩
        | ret => exact ⟨rfl, hp⟩
    have scopeCase : ∀ c c0 env h k, run P callf N keep (f + 1) ((Task.scope c c0).cc P N keep) env h k = .yes → EnvK keep env → Ends P N keep (Task.scope c c0).items env h k := by
      intro c c0 env h k H hK
      replace H : run P callf N keep f ((Task.code c0).cc P N keep) env h (scopeK (run P callf N keep f) P N keep c k) = .yes := H
      obtain ⟨e, env1, h1, H1, hK1, hw1⟩ := ih _ _ _ _ H hK
      unfold scopeK at H1
      rcases onGoto_yes H1 with ⟨l, rfl, H2⟩ | ⟨hne, H2⟩
      · unfold labelC at H2
        cases hf : findLabel c l with
        | none =>
          rw [hf] at H2
          refine ⟨.goto l, env1, h1, H2, hK1, fun ds β a w hr hg => Wp.scope (wp_mono (hw1 ds β a w hr hg) fun ex a1 w1 hp => ?_)⟩
          obtain ⟨rfl, hp⟩ := hp
          exact .inr ⟨hf, rfl, hp⟩
        | some rest =>
          rw [hf] at H2
          replace H2 : run P callf N keep f ((Task.scope c rest).cc P N keep) env1 h1 k = .yes := H2
          obtain ⟨e2, env2, h2, H3, hK2, hw2⟩ := ih _ _ _ _ H2 hK1
          refine ⟨e2, env2, h2, H3, hK2, fun ds β a w hr hg => Wp.scope (wp_mono (hw1 ds β a w hr hg) fun ex a1 w1 hp => ?_)⟩
          obtain ⟨rfl, β1, s1, r1⟩ := hp
          refine .inl ⟨rest, hf, ?_⟩
          have := hw2 ds β1 a1 w1 r1 (hg.le (s1.le hr.hr))
          intro b k cs
          obtain ⟨e', a', w', ⟨q1, q2⟩, har⟩ := this b k cs
          exact ⟨e', a', w', ⟨q1, q2.trans hr.hr s1⟩, har⟩
      · refine ⟨e, env1, h1, H2, hK1, fun ds β a w hr hg => Wp.scope (wp_mono (hw1 ds β a w hr hg) fun ex a1 w1 hp => ?_)⟩
        obtain ⟨rfl, hp⟩ := hp
        cases e with
        | normal => exact ⟨rfl, hp⟩
        | exit id => exact ⟨rfl, hp⟩
        | goto l => exact absurd rfl (hne l)
        | ret => exact ⟨rfl, hp⟩
    intro t env h k H hK
    cases t with
    | loop c => exact loopCase c env h k H hK
    | scope c c0 => exact scopeCase c c0 env h k H hK
    | code c =>
      cases c with
      | skip => exact Ends.here .normal H hK fun a w Q hq => wp_skip hq
      | region id ops draw =>
        cases hc : compR P N ops keep draw with
        | none =>
          have e : (Task.code (.region id ops draw)).cc P N keep = .bad 161 := by
            show (match compR P N ops keep draw with | some os => _ | none => CC.bad 161) = _
            rw [hc]
          rw [e] at H; cases H
        | some os =>
          have e : (Task.code (.region id ops draw)).cc P N keep = Bool.rec (motive := fun _ => CC) (.seqR os) (.freeR os) (os.any isFree) := by
            show (match compR P N ops keep draw with | some os => Bool.rec (motive := fun _ => CC) (.seqR os) (.freeR os) (os.any isFree) | none => CC.bad 161) = _
            rw [hc]
          have H2 : runR callf os env h (k .normal) = .yes := by
            unfold runR
            rw [e] at H
            cases hb : os.any isFree with
            | false => rw [hb] at H; exact H
            | true => rw [hb] at H; exact H
          obtain ⟨env', h', H3, hK', hw⟩ := hreg id ops draw os env h (k .normal) hc H2 hK
          exact ⟨.normal, env', h', H3, hK', fun ds β a w hr hg => hw ds β a w hr hg⟩
      | seq x y =>
        replace H : run P callf N keep f ((Task.code x).cc P N keep) env h (fun e env h => onNormal e (run P callf N keep f ((Task.code y).cc P N keep) env h k) (k e env h)) = .yes := H
        obtain ⟨e, env1, h1, H1, hK1, hw1⟩ := ih _ _ _ _ H hK
        rcases onNormal_yes H1 with ⟨rfl, H2⟩ | ⟨hne, H2⟩
        · obtain ⟨e2, env2, h2, H3, hK2, hw2⟩ := ih _ _ _ _ H2 hK1
          refine ⟨e2, env2, h2, H3, hK2, fun ds β a w hr hg => ?_⟩
          refine wp_seq (wp_mono (hw1 ds β a w hr hg) fun ex a1 w1 hp => ?_)
          obtain ⟨rfl, β1, s1, r1⟩ := hp
          refine wp_mono (hw2 ds β1 a1 w1 r1 (hg.le (s1.le hr.hr))) fun ex a2 w2 hq => ⟨hq.1, hq.2.trans hr.hr s1⟩
        · refine ⟨e, env1, h1, H2, hK1, fun ds β a w hr hg => ?_⟩
          refine wp_seq (wp_mono (hw1 ds β a w hr hg) fun ex a1 w1 hp => ?_)
          obtain ⟨rfl, hp⟩ := hp
          cases e with
          | normal => exact absurd rfl hne
          | exit id => exact ⟨rfl, hp⟩
          | goto l => exact ⟨rfl, hp⟩
          | ret => exact ⟨rfl, hp⟩
      | cond c x y =>
        replace H : (rfK (rfOp P [] 0 c) [] env fun v => onBool v (run P callf N keep f ((Task.code y).cc P N keep) env h k) (run P callf N keep f ((Task.code x).cc P N keep) env h k) (.no 162)) = .yes := H
        obtain ⟨v, H1, hv⟩ := rfK_yes H
        obtain ⟨t, rfl, H2⟩ := onBool_yes H1 (by intro h; cases h)
        have hcv : ∀ ds β a w, Rel N ds β env h a w → a.eval c = .bool t := by
          intro ds β a w hr
          cases c with
          | tmp t' => exact con_bool (hr.env t' _ hv)
          | const u =>
            rw [rfOp_const] at hv
            split at hv
            · rename_i ho
              injection hv with hv
              have := toAV_con β ho
              rw [hv] at this
              exact con_bool this
            · cases hv
          | global g =>
            replace hv : rfGet (match Nat.blt g P.globals.size with | true => Rf.cst (.ptr g 0) | false => Rf.bad) [] env = some (.bool t) := hv
            split at hv <;> cases hv
          | func f => cases hv
        cases t with
        | true =>
          obtain ⟨e, env1, h1, H3, hK1, hw1⟩ := ih (.code x) _ _ _ H2 hK
          exact ⟨e, env1, h1, H3, hK1, fun ds β a w hr hg => wp_cond_true (hcv ds β a w hr) (hw1 ds β a w hr hg)⟩
        | false =>
          obtain ⟨e, env1, h1, H3, hK1, hw1⟩ := ih (.code y) _ _ _ H2 hK
          exact ⟨e, env1, h1, H3, hK1, fun ds β a w hr hg => wp_cond_false (hcv ds β a w hr) (hw1 ds β a w hr hg)⟩
      | block id x =>
        replace H : run P callf N keep f ((Task.code x).cc P N keep) env h (fun e env h => onExit e id (k .normal env h) (k e env h)) = .yes := H
        obtain ⟨e, env1, h1, H1, hK1, hw1⟩ := ih _ _ _ _ H hK
        rcases onExit_yes H1 with ⟨rfl, H2⟩ | ⟨hne, H2⟩
        · refine ⟨.normal, env1, h1, H2, hK1, fun ds β a w hr hg => wp_block (wp_mono (hw1 ds β a w hr hg) fun ex a1 w1 hp => ?_)⟩
          obtain ⟨rfl, hp⟩ := hp
          show (if id = id then _ else _)
          rw [if_pos rfl]; exact ⟨rfl, hp⟩
        · refine ⟨e, env1, h1, H2, hK1, fun ds β a w hr hg => wp_block (wp_mono (hw1 ds β a w hr hg) fun ex a1 w1 hp => ?_)⟩
          obtain ⟨rfl, hp⟩ := hp
          cases e with
          | normal => exact ⟨rfl, hp⟩
          | exit i =>
            show (if i = id then _ else _)
            rw [if_neg (fun e => hne (by rw [e]))]; exact ⟨rfl, hp⟩
          | goto l => exact ⟨rfl, hp⟩
          | ret => exact ⟨rfl, hp⟩
      | loop x =>
        exact (loopCase x env h k H hK).step fun a w b k cs => step_loop
      | rangeFunc a b c d => cases H
      | exit id => exact Ends.here (.exit id) H hK fun a w Q hq => wp_exit hq
      | scope x => exact (scopeCase x x env h k H hK).step fun a w b k cs => step_scope
      | label l => exact Ends.here .normal H hK fun a w Q hq => wp_label hq
      | goto l => exact Ends.here (.goto l) H hK fun a w Q hq => wp_goto hq
      | ret => exact Ends.here .ret H hK fun a w Q hq => wp_ret hq
      | refuse s => cases H
end Go.Ev
namespace Go.Ev
variable [Sg] [Sl]
open Go.RowKit
variable {P : Program}

def OpHoldsG (P : Program) (o : Oper) (xs : List AV) (h : Hp) (v : AV) (h' : Hp) : Prop :=
  ∀ (β : Bt) (w : World) (a : Act), HR β h w → GlobK P β → conL β xs = some (o.op.operands.toList.map a.eval) → ∀ (K : Act → World → Prop) (Q : Exit → Act → World → Prop),
    (∀ β' w' u, Stp β h w β' h' w' → con β' v = some u → K (a.put o.dst u) w') → o.wp P a w K Q
theorem OpHolds.g {o : Oper} {xs : List AV} {h : Hp} {v : AV} {h' : Hp} (H : OpHolds P o xs h v h') : OpHoldsG P o xs h v h' := fun β w a hr _ hx K Q hK => H β w a hr hx K Q hK
def Came (β : Bt) (h : Hp) (w : World) (v : AV) (h' : Hp) (e : Ending) (w' : World) : Prop := ∃ β' u, e = .returned u ∧ Stp β h w β' h' w' ∧ con β' v = some u
def FuncT (P : Program) (f : FuncId) (xs : List AV) (h : Hp) (v : AV) (h' : Hp) : Prop :=
  ∀ (β : Bt) (w : World) (vs : List Value), HR β h w → GlobK P β → conL β xs = some vs →
    ((callFunc f vs.toArray).run P w = .ok (.enter f vs.toArray) w ∧ Calls P f vs.toArray w (Came β h w v h')) ∨ (∃ u w', (callFunc f vs.toArray).run P w = .ok (.value u) w' ∧ Came β h w v h' (.returned u) w')
def CallSound (P : Program) (callf : CallF) : Prop := ∀ f xs h k, callf f xs h k = .yes → ∃ v h', k v h' = .yes ∧ FuncT P f xs h v h'
theorem applyK_sound {callf : CallF} (hc : CallSound P callf) {o : Oper} {F : Operand} {args : Array Operand} {ats : Array TypeId} (ho : o.op = .call ⟨.value F, args, ats⟩) {xs : List AV} {h : Hp} {k : AK} (H : applyK callf xs h k = .yes) :
    ∃ v h', k v h' = .yes ∧ OpHoldsG P o xs h v h' := by
  unfold applyK at H
  split at H
  · rename_i f first captured ys
    simp only [catK_eq] at H
    obtain ⟨v, h', h1, h2⟩ := hc _ _ _ _ H
    refine ⟨v, h', h1, fun β w a hr hg hx K Q hK => ?_⟩
    rw [ho] at hx
    have hx' : conL β (.fn (.func f) first captured :: ys) = some (a.eval F :: args.toList.map a.eval) := by simpa [Op.operands, Call.operands] using hx
    obtain ⟨v1, us, e1, e2, e3⟩ := conL_cons hx'
    injection e3 with e4 e5
    subst e5
    obtain ⟨x1, x2, g1, g2, g3⟩ := con_fn e1
    have hall := conL_append (conL_append g1 e2) g2
    unfold Oper.wp
    have hrun : (execOp a.eval o).run P w = (callFunc f ((x1 ++ args.toList.map a.eval) ++ x2).toArray).run P w := by
      have : execOp a.eval o = (do let d ← Go.resolve a.eval ⟨.value F, args, ats⟩ o.type; invoke d.target d.args) := by
        unfold execOp; rw [ho]
      rw [this]
      unfold Go.resolve Deferred.ofValue invoke
      simp only [e4, g3, Sem.run_bind, Sem.run_pure, Result.andThen_ok]
      congr 2
      apply Array.ext'
      simp
    rw [hrun]
    rcases h2 β w _ hr hg hall with ⟨r1, r2⟩ | ⟨u, w', r1, β', u', r2, r3, r4⟩
    · rw [r1]
      refine r2.mono fun e w' he => ?_
      obtain ⟨β', u, rfl, s1, s2⟩ := he
      exact hK β' w' u s1 s2
    · rw [r1]
      injection r2 with r2; subst r2
      exact hK β' w' u r3 r4
  · cases H
def resSem (tmps : Array Value) (r : ResultVar) : Sem Value := match r with
  | .tmp t => Pure.pure (tmps.getD t undef)
  | .cell a t => do loadVar t (← asAddr (tmps.getD a undef))
theorem results_eq (fn : Func) (tmps : Array Value) : results fn tmps = (do let vs ← fn.results.mapM (resSem tmps); Pure.pure (if h : vs.size = 1 then vs[0] else .tuple vs)) := rfl
theorem resOne_yes {r : ResultVar} {env : Tr AV} {h : Hp} {k : AV → Ans} (H : resOne r env h P k = .yes) :
    ∃ v, k v = .yes ∧ ∀ N ds β a w, Rel N ds β env h a w → ∃ u, (resSem a.tmps r).run P w = .ok u w ∧ con β v = some u := by
  unfold resOne at H
  cases r with
  | tmp t =>
    obtain ⟨v, hv, H1⟩ := getP_yes H
    exact ⟨v, H1, fun N ds β a w hr => ⟨_, rfl, hr.env t v hv⟩⟩
  | cell b t =>
    obtain ⟨p, hp, H1⟩ := getP_yes H
    obtain ⟨v, h1, h2⟩ := loadK_run H1
    refine ⟨v, h1, fun N ds β a w hr => ?_⟩
    have hb := hr.env b p hp
    obtain ⟨u, r1, r2⟩ := h2 β w _ hr.hr hb
    have hptr : ∃ x y, p = .ptr x y := by
      unfold loadK at H1
      split at H1
      · exact ⟨_, _, rfl⟩
      · cases H1
    obtain ⟨x, y, rfl⟩ := hptr
    obtain ⟨c, κ, _, e⟩ := con_ptr hb
    refine ⟨u, ?_, r2⟩
    show (do loadVar t (← asAddr (a.tmps.getD b undef)) : Sem Value).run P w = _
    rw [e] at r1 ⊢
    simpa [asAddr, Instr.loadAt, Instr.sureAddr] using r1
theorem resK_go {rs : List ResultVar} {env : Tr AV} {h : Hp} {k : List AV → Ans} (H : (List.rec (motive := fun _ => (List AV → Ans) → Ans) (fun k => k []) (fun r _ ih k => resOne r env h P fun v => ih fun vs => k (v :: vs)) rs k : Ans) = .yes) :
    ∃ l, k l = .yes ∧ ∀ N ds β a w, Rel N ds β env h a w → ∃ us : List Value, (rs.mapM (resSem a.tmps)).run P w = .ok us w ∧ conL β l = some us := by
  induction rs generalizing k with
  | nil => exact ⟨[], H, fun N ds β a w hr => ⟨[], rfl, rfl⟩⟩
  | cons r rs ih =>
    obtain ⟨v, H1, h1⟩ := resOne_yes H
    obtain ⟨l, H2, h2⟩ := ih H1
    refine ⟨v :: l, H2, fun N ds β a w hr => ?_⟩
    obtain ⟨u, e1, e2⟩ := h1 N ds β a w hr
    obtain ⟨us, e3, e4⟩ := h2 N ds β a w hr
    refine ⟨u :: us, ?_, conL_mk e2 e4⟩
    rw [List.mapM_cons, Sem.run_bind, e1, Result.andThen_ok, Sem.run_bind, e3]; rfl
theorem mapM_len {α γ : Type} {f : α → Sem γ} {w w' : World} : ∀ (l : List α) {us : List γ}, (l.mapM f).run P w = .ok us w' → l.length = us.length
  | [], us, h => by
    have h' : Result.ok ([] : List γ) w = Result.ok us w' := h
    injection h' with h1 h2
    rw [← h1]; rfl
  | x :: l, us, h => by
    rw [List.mapM_cons, Sem.run_bind] at h
    cases h1 : (f x).run P w with
    | halt a b => rw [h1] at h; cases h
    | ok v w1 =>
      rw [h1, Result.andThen_ok, Sem.run_bind] at h
      cases h2 : (l.mapM f).run P w1 with
      | halt a b => rw [h2] at h; cases h
      | ok vs w2 =>
        rw [h2, Result.andThen_ok] at h
        injection h with h3 h4
        rw [← h3, List.length_cons, List.length_cons, mapM_len l h2]
theorem resK_yes {fn : Func} {env : Tr AV} {h : Hp} {k : AV → Ans} (H : resK P fn.results.toList env h k = .yes) :
    ∃ v, k v = .yes ∧ ∀ N ds β a w, Rel N ds β env h a w → ∃ u, (results fn a.tmps).run P w = .ok u w ∧ con β v = some u := by
  have gen : ∀ (tmps : Array Value) (w : World) (us : List Value), ((fn.results.toList.mapM (resSem tmps)).run P w = .ok us w) →
      (results fn tmps).run P w = .ok (if h : us.toArray.size = 1 then us.toArray[0] else .tuple us.toArray) w := by
    intro tmps w us hu
    rw [results_eq]
    simp only [Array.mapM_eq_mapM_toList, Sem.run_bind, Sem.run_map]
    rw [hu]
    rfl
  unfold resK at H
  split at H
  · rename_i r hr1
    obtain ⟨v, H1, h1⟩ := resOne_yes H
    refine ⟨v, H1, fun N ds β a w hr => ?_⟩
    obtain ⟨u, e1, e2⟩ := h1 N ds β a w hr
    refine ⟨u, ?_, e2⟩
    rw [gen a.tmps w [u] (by rw [hr1, List.mapM_cons, Sem.run_bind, e1, Result.andThen_ok]; rfl)]
    rfl
  · rename_i hne
    obtain ⟨l, H1, h1⟩ := resK_go H
    refine ⟨.tup l, H1, fun N ds β a w hr => ?_⟩
    obtain ⟨us, e1, e2⟩ := h1 N ds β a w hr
    refine ⟨.tuple us.toArray, ?_, by simp only [con, e2, Option.map_some]⟩
    rw [gen a.tmps w us e1]
    have hlen : us.toArray.size ≠ 1 := by
      intro h1
      have h2 : us.length = 1 := by simpa using h1
      have h3 : fn.results.toList.length = us.length := mapM_len _ e1
      match hq : fn.results.toList, h3.trans h2 with
      | [r], _ => exact hne r hq
    rw [dif_neg hlen]
theorem flats_con (l : List AV) (h : flatB.flats l = true) (β β' : Bt) : conL β l = conL β' l := by
  induction l with
  | nil => rfl
  | cons x l ih =>
    have h1 : flatB.flat1 x = true ∧ flatB.flats l = true := by
      cases hx : flatB.flat1 x with
      | false =>
        have : flatB.flats (x :: l) = Bool.rec (motive := fun _ => Bool) false (flatB.flats l) (flatB.flat1 x) := rfl
        rw [this, hx] at h; cases h
      | true =>
        have : flatB.flats (x :: l) = Bool.rec (motive := fun _ => Bool) false (flatB.flats l) (flatB.flat1 x) := rfl
        rw [this, hx] at h; exact ⟨rfl, h⟩
    have hx : con β x = con β' x := by
      have := h1.1
      unfold flatB.flat1 at this
      cases x <;> first | rfl | cases this
    simp only [conL, hx, ih h1.2]
theorem flat_con {x : AV} (h : flatB x = true) (β β' : Bt) : con β x = con β' x := by
  unfold flatB at h
  cases x <;> first | rfl | (cases h; done) | skip
  · rename_i l; simp only [con, flats_con l h β β']
  · rename_i l; simp only [con, flats_con l h β β']
def ExtOK (P : Program) (X : Nat → Nat) : Prop := ∀ fuel callf, CallSound P callf → ∀ f c, X f = c + 1 → ∀ xs h k, extK P fuel callf f (c + 1) xs h k = .yes → ∃ v h', k v h' = .yes ∧ FuncT P f xs h v h'
theorem argsOk_yes {keep : Nat} : ∀ {xs : List AV} {n : Nat}, (List.rec (motive := fun _ => Nat → Bool) (fun _ => true) (fun _ _ ih n => Bool.rec (motive := fun _ => Bool) false (ih (Nat.succ n)) (inMask keep n)) xs n : Bool) = true → ∀ i, i < xs.length → inMask keep (n + i) = true
  | [], n, h, i, hi => by simp at hi
  | x :: xs, n, h, i, hi => by
    have h1 : inMask keep n = true ∧ (List.rec (motive := fun _ => Nat → Bool) (fun _ => true) (fun _ _ ih n => Bool.rec (motive := fun _ => Bool) false (ih (Nat.succ n)) (inMask keep n)) xs (Nat.succ n) : Bool) = true := by
      replace h : (Bool.rec (motive := fun _ => Bool) false (List.rec (motive := fun _ => Nat → Bool) (fun _ => true) (fun _ _ ih n => Bool.rec (motive := fun _ => Bool) false (ih (Nat.succ n)) (inMask keep n)) xs (Nat.succ n)) (inMask keep n) : Bool) = true := h
      cases hm : inMask keep n with
      | false => rw [hm] at h; cases h
      | true => rw [hm] at h; exact ⟨rfl, h⟩
    cases i with
    | zero => exact h1.1
    | succ i =>
      rw [show n + (i + 1) = n.succ + i by omega]
      exact argsOk_yes h1.2 i (by simpa using hi)
theorem callK_sound {X : Nat → Nat} (hX : ExtOK P X) (hN : ∀ (f : Nat) fn, P.funcs[f]? = some fn → fn.name ≠ "runtime.NumGoroutine") (hreg : ∀ callf, CallSound P callf → ∀ N keep, RegOK P callf N keep) (fuel : Nat) : ∀ d, CallSound P (callK P X fuel d) := by
  intro d
  induction d with
  | zero => intro f xs h k H; cases H
  | succ d ih =>
    intro f xs h k H
    cases hx : X f with
    | succ c =>
      refine hX fuel _ ih f c hx xs h k ?_
      replace H : (Nat.rec (motive := fun _ => Ans) _ (fun c _ => extK P fuel (callK P X fuel d) f (Nat.succ c) xs h k) (X f) : Ans) = .yes := H
      rw [hx] at H
      exact H
    | zero =>
    replace H : (Nat.rec (motive := fun _ => Ans) (Option.rec (motive := fun _ => Ans) (.no 171) (fun (fn : Func) => Option.rec (motive := fun _ => Ans) (.no (1000 + f)) (fun c =>
      match h with
      | .mk t n low => cnd (argsOk xs (keepF fn)) (initEnv xs fun env => run P (callK P X fuel d) fn.ntmps (keepF fn) fuel (compC P fn.ntmps (keepF fn) c) env (.mk t n n) fun e env h' =>
        match e, h' with
        | .exit _, _ => .no 172
        | .goto _, _ => .no 173
        | _, .mk t' n' low' => resK P fn.results.toList env h' fun v =>
          natMin low low' fun low'' => cnd (Nat.beq low' n) (cnd (flatB v) (k v h) (k v (.mk t' n' low''))) (k v (.mk t' n' low''))) (.no 174)) fn.body) P.funcs[f]?) (fun c _ => extK P fuel (callK P X fuel d) f (Nat.succ c) xs h k) (X f) : Ans) = .yes := H
    rw [hx] at H
    replace H : (Option.rec (motive := fun _ => Ans) (.no 171) (fun (fn : Func) => Option.rec (motive := fun _ => Ans) (.no (1000 + f)) (fun c =>
      match h with
      | .mk t n low => cnd (argsOk xs (keepF fn)) (initEnv xs fun env => run P (callK P X fuel d) fn.ntmps (keepF fn) fuel (compC P fn.ntmps (keepF fn) c) env (.mk t n n) fun e env h' =>
        match e, h' with
        | .exit _, _ => .no 172
        | .goto _, _ => .no 173
        | _, .mk t' n' low' => resK P fn.results.toList env h' fun v =>
          natMin low low' fun low'' => cnd (Nat.beq low' n) (cnd (flatB v) (k v h) (k v (.mk t' n' low''))) (k v (.mk t' n' low''))) (.no 174)) fn.body) P.funcs[f]? : Ans) = .yes := H
    cases hf : P.funcs[f]? with
    | none => rw [hf] at H; cases H
    | some fn =>
      simp only [hf] at H
      cases hb : fn.body with
      | none =>
        simp only [hb] at H
        cases H
      | some c =>
        simp only [hb] at H
        cases h with
        | mk t n low =>
          dsimp only at H
          obtain ⟨hargs, H⟩ := cnd_yes H
          unfold initEnv at H
          rw [writeL_eq] at H
          have hK : EnvK (keepF fn) (putL xs 0 .leaf) := by
            intro i hi
            rw [get_putL]
            split
            · rename_i hb2
              have := argsOk_yes hargs i (by omega)
              rw [Nat.zero_add, hi] at this; cases this
            · exact get_leaf _
          obtain ⟨e, env1, h1, H1, hK1, hw⟩ := run_sound (hreg _ ih fn.ntmps (keepF fn)) fuel (.code c) _ _ _ H hK
          have hex : (e = .normal ∨ e = .ret) ∧ ∃ t' n' low', h1 = .mk t' n' low' ∧ (resK P fn.results.toList env1 h1 fun v =>
              natMin low low' fun low'' => cnd (Nat.beq low' n) (cnd (flatB v) (k v (.mk t n low)) (k v (.mk t' n' low''))) (k v (.mk t' n' low''))) = .yes := by
            cases h1 with
            | mk t' n' low' =>
              cases e with
              | normal => exact ⟨.inl rfl, t', n', low', rfl, H1⟩
              | ret => exact ⟨.inr rfl, t', n', low', rfl, H1⟩
              | exit i => cases H1
              | goto l => cases H1
          obtain ⟨he, t', n', low', rfl, H2⟩ := hex
          obtain ⟨v, H3, hv⟩ := resK_yes H2
          rw [natMin_eq] at H3
          -- the world at the end
          have main : ∀ β w vs, HR β (.mk t n low) w → GlobK P β → conL β xs = some vs → ∀ hfin : Hp, (∀ β' w' u, Stp β (.mk t n n) w β' (.mk t' n' low') w' → con β' v = some u → ∃ β'', Stp β (.mk t n low) w β'' hfin w' ∧ con β'' v = some u) →
              ((callFunc f vs.toArray).run P w = .ok (.enter f vs.toArray) w ∧ Calls P f vs.toArray w (Came β (.mk t n low) w v hfin)) := by
            intro β w vs hr hg hx hfin hend
            refine ⟨?_, ?_⟩
            · unfold callFunc
              simp only [Sem.run_bind, run_program, Result.andThen_ok, hf]
              have hn : (fn.name == "runtime.NumGoroutine") = false := by
                simpa using hN f fn hf
              rw [hn]
              simp [hb]
            · refine calls_of_wp hf hb ?_
              have hr2 : HR β (.mk t n n) w := ⟨hr.blk, hr.inj, hr.fresh, Nat.le_refl _⟩
              have hlen := conL_len hx
              have hrel : Rel fn.ntmps [] β (putL xs 0 .leaf) (.mk t n n) { tmps := vs.toArray ++ Array.replicate (fn.ntmps - vs.toArray.size) undef, defers := [] } w := by
                refine ⟨hr2, fun i av hi => ?_, by simp; omega, rfl⟩
                rw [get_putL] at hi
                split at hi
                · rename_i hb2
                  obtain ⟨u, u1, u2⟩ := conL_get hx hi
                  rw [Nat.sub_zero] at u1
                  rw [u2]
                  congr 1
                  have hi2 : i < vs.length := by omega
                  simp [Array.getD, hi2]
                  rw [if_pos (by omega)]
                  rw [List.getElem?_eq_getElem hi2] at u1
                  injection u1 with u1
                  exact u1.symm
                · rw [get_leaf] at hi; cases hi
              refine wp_mono (hw [] β _ w hrel hg) fun ex a' w' hp => ?_
              obtain ⟨rfl, β', s1, r1⟩ := hp
              obtain ⟨u, g1, g2⟩ := hv fn.ntmps [] β' a' w' r1
              obtain ⟨β'', s2, g3⟩ := hend β' w' u s1 g2
              rcases he with rfl | rfl
              · exact ⟨r1.defers, u, g1, β'', u, rfl, s2, g3⟩
              · exact ⟨r1.defers, u, g1, β'', u, rfl, s2, g3⟩
          have keepCase : k v (.mk t' n' (min low low')) = .yes → ∃ v h', k v h' = .yes ∧ FuncT P f xs (.mk t n low) v h' := by
            intro H4
            refine ⟨v, _, H4, fun β w vs hr hg hx => .inl (main β w vs hr hg hx _ fun β' w' u s1 hc => ?_)⟩
            refine ⟨β', ⟨⟨s1.hr.blk, s1.hr.inj, s1.hr.fresh, ?_⟩, s1.nx, Nat.min_le_left _ _, s1.old, fun b c κ hb e => ?_, ⟨s1.kept.os, s1.kept.tape, s1.kept.output, s1.kept.size, fun c hc hne => ?_⟩⟩, hc⟩
            · have := s1.hr.low
              exact Nat.le_trans (Nat.min_le_right _ _) this
            · rcases s1.new b c κ hb e with h5 | ⟨x, κ', a1, a2, a3⟩
              · exact .inl h5
              · exact .inr ⟨x, κ', Nat.le_trans (Nat.min_le_right _ _) a1, a2, a3⟩
            · exact s1.kept.block c hc fun b κ hb => hne b κ (Nat.le_trans (Nat.min_le_right _ _) hb)
          rw [cnd_eq] at H3
          split at H3
          · rename_i hlow
            have hlow' := Nat.eq_of_beq_eq_true hlow
            rw [cnd_eq] at H3
            split at H3
            · rename_i hflat
              refine ⟨v, _, H3, fun β w vs hr hg hx => .inl (main β w vs hr hg hx _ fun β' w' u s1 hc => ?_)⟩
              refine ⟨β, ⟨⟨fun b x hbx => ?_, hr.inj, hr.fresh, hr.low⟩, Nat.le_refl _, Nat.le_refl _, fun _ _ => rfl, (fun b c κ hb e => by rw [hr.fresh b hb] at e; cases e), ⟨s1.kept.os, s1.kept.tape, s1.kept.output, s1.kept.size, fun c hc hne => ?_⟩⟩, by rw [flat_con hflat β β']; exact hc⟩
              · obtain ⟨q1, cb, κ, q2, q3⟩ := hr.blk b x hbx
                refine ⟨q1, cb, κ, q2, ?_⟩
                have hcb : cb < w.heap.size := by
                  cases x with
                  | cells e' len c ex esz => obtain ⟨cs, fz, e2, -⟩ := q3; exact (Array.getElem?_eq_some_iff.1 e2).1
                  | map es clock => obtain ⟨ms, e2, -⟩ := q3; exact (Array.getElem?_eq_some_iff.1 e2).1
                  | iter l p => exact (Array.getElem?_eq_some_iff.1 q3.1).1
                  | miter b s => obtain ⟨_, _, _, e2⟩ := q3; exact (Array.getElem?_eq_some_iff.1 e2).1
                rw [s1.kept.block cb hcb (fun b' κ' hb' e => ?_)]
                · exact q3
                · have : n ≤ b' := by rw [← hlow']; exact hb'
                  rw [hr.fresh b' this] at e; cases e
              · refine s1.kept.block c hc fun b' κ' hb' e => ?_
                have : n ≤ b' := by rw [← hlow']; exact hb'
                rw [hr.fresh b' this] at e; cases e
            · exact keepCase H3
          · exact keepCase H3
end Go.Ev
end
