import Derived.Below
import Derived.Deep.AppendSrc
import Derived.Deep.Upon
import Derived.Test.YtaklcjnfjchebaaSa1
set_option linter.unusedVariables false
set_option linter.unusedSectionVars false
set_option linter.unusedSimpArgs false
namespace Go.Ev
theorem fNat_eq (n : Nat) (k : Nat → Ans) : fNat n k = k n := by cases n <;> rfl
theorem fInt_eq (z : Int) (k : Int → Ans) : fInt z k = k z := by
  cases z <;> simp [fInt, fNat_eq]
theorem fBool_eq (b : Bool) (k : Bool → Ans) : fBool b k = k b := by cases b <;> rfl
theorem cnd_eq (b : Bool) (x y : Ans) : cnd b x y = if b = true then x else y := by cases b <;> rfl
theorem cnd_yes {b : Bool} {x : Ans} {n : Nat} (h : cnd b x (.no n) = .yes) : b = true ∧ x = .yes := by
  cases b
  · simp [cnd] at h
  · exact ⟨rfl, h⟩
theorem natMin_eq (a b : Nat) (k : Nat → Ans) : natMin a b k = k (min a b) := by
  unfold natMin; rw [cnd_eq]
  by_cases h : a ≤ b
  · rw [if_pos (by simpa using h), Nat.min_eq_left h]
  · rw [if_neg (by simpa using h), Nat.min_eq_right (by omega)]
def Tr.get {α : Type} : Pa → Tr α → Option α
  | _, .leaf => none
  | .e, .node v _ _ => v
  | .o p, .node _ l _ => Tr.get p l
  | .z p, .node _ _ r => Tr.get p r
def Tr.set {α : Type} : Pa → Option α → Tr α → Tr α
  | .e, x, .leaf => .node x .leaf .leaf
  | .e, x, .node _ l r => .node x l r
  | .o p, x, .leaf => .node none (Tr.set p x .leaf) .leaf
  | .o p, x, .node v l r => .node v (Tr.set p x l) r
  | .z p, x, .leaf => .node none .leaf (Tr.set p x .leaf)
  | .z p, x, .node v l r => .node v l (Tr.set p x r)
theorem getP_eq {α : Type} (p : Pa) (t : Tr α) (no : Ans) (k : α → Ans) : t.getP p no k = match t.get p with | none => no | some v => k v := by
  induction p generalizing t with
  | e => cases t with
    | leaf => rfl
    | node v l r => cases v <;> rfl
  | o p ih => cases t with
    | leaf => rfl
    | node v l r => exact ih l
  | z p ih => cases t with
    | leaf => rfl
    | node v l r => exact ih r
theorem getP_yes {α : Type} {p : Pa} {t : Tr α} {n : Nat} {k : α → Ans} (h : t.getP p (.no n) k = .yes) : ∃ v, t.get p = some v ∧ k v = .yes := by
  rw [getP_eq] at h
  cases hg : t.get p with
  | none => rw [hg] at h; cases h
  | some v => rw [hg] at h; exact ⟨v, rfl, h⟩
theorem setP_eq {α : Type} (p : Pa) (x : Option α) (t : Tr α) (k : Tr α → Ans) : t.setP p x k = k (t.set p x) := by
  induction p generalizing t k with
  | e => cases t <;> rfl
  | o p ih => cases t with
    | leaf => exact ih .leaf _
    | node v l r => exact ih l _
  | z p ih => cases t with
    | leaf => exact ih .leaf _
    | node v l r => exact ih r _
theorem get_leaf {α : Type} (p : Pa) : Tr.get p (.leaf : Tr α) = none := by cases p <;> rfl
theorem get_set {α : Type} (p q : Pa) (x : Option α) (t : Tr α) : (t.set p x).get q = if q = p then x else t.get q := by
  induction p generalizing t q with
  | e => cases t <;> cases q <;> simp [Tr.set, Tr.get, get_leaf]
  | o p ih => cases t <;> cases q <;> simp [Tr.set, Tr.get, get_leaf, ih]
  | z p ih => cases t <;> cases q <;> simp [Tr.set, Tr.get, get_leaf, ih]
theorem pathF_succ (f n : Nat) : pathF (f + 1) n = match n with | 0 => .e | m + 1 => if m % 2 = 0 then .o (pathF f (m / 2)) else .z (pathF f (m / 2)) := by
  cases n with
  | zero => rfl
  | succ m =>
    show Bool.rec (motive := fun _ => Pa) (.z (pathF f (m / 2))) (.o (pathF f (m / 2))) (Nat.beq (m % 2) 0) = if m % 2 = 0 then .o (pathF f (m / 2)) else .z (pathF f (m / 2))
    by_cases h : m % 2 = 0
    · rw [if_pos h, show Nat.beq (m % 2) 0 = true by rw [h]; rfl]
    · rw [if_neg h, show Nat.beq (m % 2) 0 = false by
        cases hb : Nat.beq (m % 2) 0
        · rfl
        · exact absurd (Nat.eq_of_beq_eq_true hb) h]
theorem pathF_inj : ∀ (f g n m : Nat), n < f → m < g → pathF f n = pathF g m → n = m := by
  intro f
  induction f with
  | zero => intro g n m h; omega
  | succ f ih =>
    intro g n m hn hm h
    cases g with
    | zero => omega
    | succ g =>
      rw [pathF_succ, pathF_succ] at h
      cases n with
      | zero =>
        cases m with
        | zero => rfl
        | succ m => simp only at h; split at h <;> cases h
      | succ n =>
        cases m with
        | zero => simp only at h; split at h <;> cases h
        | succ m =>
          simp only at h
          split at h
          · split at h
            · injection h with h
              have := ih g (n / 2) (m / 2) (by omega) (by omega) h
              omega
            · cases h
          · split at h
            · cases h
            · injection h with h
              have := ih g (n / 2) (m / 2) (by omega) (by omega) h
              omega
theorem path_inj {n m : Nat} (h : path n = path m) : n = m := pathF_inj (n + 1) (m + 1) n m (by omega) (by omega) h
theorem path_ne {n m : Nat} (h : n ≠ m) : path n ≠ path m := fun e => h (path_inj e)
theorem lenK_eq (l : List AV) (k : Nat → Ans) : lenK l k = k l.length := by
  induction l generalizing k with
  | nil => rfl
  | cons x l ih => exact (ih _).trans (fNat_eq _ _)
theorem catK_eq (l m : List AV) (k : List AV → Ans) : catK l m k = k (l ++ m) := by
  induction l generalizing k with
  | nil => rfl
  | cons x l ih => exact ih _
theorem catN_eq (l m : List Nat) (k : List Nat → Ans) : catN l m k = k (l ++ m) := by
  induction l generalizing k with
  | nil => rfl
  | cons x l ih => exact ih _
theorem catE_eq (l m : List (AV × AV × Nat)) (k : List (AV × AV × Nat) → Ans) : catE l m k = k (l ++ m) := by
  induction l generalizing k with
  | nil => rfl
  | cons x l ih => exact ih _
theorem takeK_eq {α : Type} (n : Nat) (l : List α) (k : List α → Ans) : takeK n l k = k (l.take n) := by
  induction n generalizing l k with
  | zero => rfl
  | succ n ih => cases l with
    | nil => rfl
    | cons x l => exact ih l _
theorem dropK_eq {α : Type} (n : Nat) (l : List α) (k : List α → Ans) : dropK n l k = k (l.drop n) := by
  induction n generalizing l with
  | zero => rfl
  | succ n ih => cases l with
    | nil => rfl
    | cons x l => exact ih l
theorem nthK_eq {α : Type} (n : Nat) (l : List α) (no : Ans) (k : α → Ans) : nthK n l no k = match l[n]? with | none => no | some v => k v := by
  induction n generalizing l with
  | zero => cases l <;> rfl
  | succ n ih => cases l with
    | nil => rfl
    | cons x l =>
      rw [show (x :: l)[n + 1]? = l[n]? by simp]
      exact ih l
theorem nthK_yes {α : Type} {n c : Nat} {l : List α} {k : α → Ans} (h : nthK n l (.no c) k = .yes) : ∃ v, l[n]? = some v ∧ k v = .yes := by
  rw [nthK_eq] at h
  cases hg : l[n]? with
  | none => rw [hg] at h; cases h
  | some v => rw [hg] at h; exact ⟨v, rfl, h⟩
noncomputable def putL : List AV → Nat → Tr AV → Tr AV
  | [], _, t => t
  | v :: l, off, t => putL l (off + 1) (t.set (path off) (some v))
theorem writeL_eq (l : List AV) (off : Nat) (t : Tr AV) (k : Tr AV → Ans) : writeL l off t k = k (putL l off t) := by
  induction l generalizing off t k with
  | nil => rfl
  | cons v l ih =>
    show Tr.setP (path off) (some v) t _ = _
    rw [setP_eq, fNat_eq]
    exact ih _ _ _
theorem get_putL : ∀ (l : List AV) (off : Nat) (t : Tr AV) (i : Nat), (putL l off t).get (path i) = if off ≤ i ∧ i < off + l.length then l[i - off]? else t.get (path i)
  | [], off, t, i => by simp [putL]; omega
  | v :: l, off, t, i => by
    rw [putL, get_putL l (off + 1), get_set]
    by_cases h0 : i = off
    · subst h0
      rw [if_neg (by omega), if_pos rfl, if_pos (by simp)]
      simp
    · by_cases h1 : off + 1 ≤ i ∧ i < off + 1 + l.length
      · rw [if_pos h1, if_pos (by simp; omega), show i - off = (i - (off + 1)) + 1 by omega]
        simp
      · rw [if_neg h1, if_neg (path_ne h0), if_neg (by simp; omega)]
noncomputable def readL (t : Tr AV) : Nat → Nat → Option (List AV)
  | 0, _ => some []
  | n + 1, off => match t.get (path off) with
    | none => none
    | some v => (readL t n (off + 1)).map (v :: ·)
theorem readN_eq (t : Tr AV) (n off : Nat) (k : List AV → Ans) : readN t n off k = match readL t n off with | none => .no 10 | some l => k l := by
  induction n generalizing off k with
  | zero => rfl
  | succ n ih =>
    show Tr.getP (path off) t (.no 10) _ = _
    rw [getP_eq, readL]
    cases t.get (path off) with
    | none => rfl
    | some v =>
      simp only [fNat_eq]
      refine (ih _ _).trans ?_
      cases readL t n (Nat.succ off) <;> rfl
theorem readL_some {t : Tr AV} : ∀ {n off : Nat} {l : List AV}, readL t n off = some l → l.length = n ∧ ∀ i, i < n → t.get (path (off + i)) = l[i]?
  | 0, off, l, h => by
    injection h with h; subst h
    exact ⟨rfl, fun i hi => by omega⟩
  | n + 1, off, l, h => by
    rw [readL] at h
    cases hg : t.get (path off) with
    | none => rw [hg] at h; cases h
    | some v =>
      rw [hg] at h
      cases hr : readL t n (off + 1) with
      | none => rw [hr] at h; cases h
      | some r =>
        rw [hr] at h
        injection h with h; subst h
        obtain ⟨h1, h2⟩ := readL_some hr
        refine ⟨by simp [h1], fun i hi => ?_⟩
        cases i with
        | zero => simpa using hg
        | succ i =>
          have := h2 i (by omega)
          rw [show off + (i + 1) = off + 1 + i by omega, this]; simp
theorem readN_yes {t : Tr AV} {n off : Nat} {k : List AV → Ans} (h : readN t n off k = .yes) : ∃ l, l.length = n ∧ (∀ i, i < n → t.get (path (off + i)) = l[i]?) ∧ k l = .yes := by
  rw [readN_eq] at h
  cases hr : readL t n off with
  | none => rw [hr] at h; cases h
  | some l =>
    rw [hr] at h
    obtain ⟨h1, h2⟩ := readL_some hr
    exact ⟨l, h1, h2, h⟩
theorem fBytes_eq (l : List UInt8) (k : Nat → List Nat → Ans) : fBytes l k = k l.length (l.map (·.toNat)) := by
  induction l generalizing k with
  | nil => rfl
  | cons x l ih =>
    show fNat x.toNat (fun y => fBytes l fun n ys => fNat (Nat.succ n) fun n => k n (y :: ys)) = _
    rw [fNat_eq, ih, fNat_eq]; rfl
theorem eqNat_eq (l m : List Nat) (k : Bool → Ans) : eqNat l m k = k (l == m) := by
  induction l generalizing m with
  | nil => cases m <;> rfl
  | cons x l ih => cases m with
    | nil => rfl
    | cons y m =>
      show cnd (Nat.beq x y) (eqNat l m k) (k false) = _
      rw [cnd_eq, ih]
      by_cases h : x = y
      · subst h; rw [if_pos (Nat.beq_refl x)]; simp
      · rw [if_neg (fun e => h (Nat.eq_of_beq_eq_true e))]
        have : (x :: l == y :: m) = false := by simp [h]
        rw [this]
def ltL : List Nat → List Nat → Bool
  | _, [] => false
  | [], _ :: _ => true
  | a :: x, b :: y => decide (a < b) || (a == b && ltL x y)
theorem ltNat_eq (l m : List Nat) (k : Bool → Ans) : ltNat l m k = k (ltL l m) := by
  induction l generalizing m with
  | nil => cases m <;> rfl
  | cons x l ih => cases m with
    | nil => rfl
    | cons y m =>
      show cnd (Nat.blt x y) (k true) (cnd (Nat.beq x y) (ltNat l m k) (k false)) = _
      rw [cnd_eq, cnd_eq, ih, ltL]
      by_cases h : x < y
      · rw [if_pos (by simpa using h)]; simp [h]
      · rw [if_neg (by simpa using h)]
        by_cases h2 : x = y
        · subst h2; rw [if_pos (Nat.beq_refl x)]; simp
        · rw [if_neg (fun e => h2 (Nat.eq_of_beq_eq_true e))]
          have : (x == y) = false := by simp [h2]
          simp [h, this]
end Go.Ev
namespace Go.Ev
variable [Sg]
abbrev Bt := Nat → Option (Nat × Nat)
abbrev flatV (v : Value) : Bool := v.oneCell'
mutual
def con (β : Bt) : AV → Option Value
  | .nat n => some (.int .i64 n)
  | .u8 n => some (.int .u8 n)
  | .int k z => some (.int k z)
  | .bool b => some (.bool b)
  | .str n l => if n = l.length ∧ l.all (· < 256) = true then some (.string (bytesOf l)) else none
  | .raw v => if flatV v = true then some v else none
  | .ptr b off => (β b).map fun c => .pointer (some ⟨c.1, off, none⟩)
  | .slice b off len ex d => (β b).bind fun c => if ex = true ∨ d + len ≤ c.2 then some (.slice (some ⟨c.1, off, none⟩) len (if ex = true then d else c.2 - d)) else none
  | .map b => (β b).map fun c => .map (some c.1)
  | .iface t v => (con β v).map fun v => .iface t v
  | .agg l => (conL β l).bind fun vs => if vs.all flatV = true then some (.agg vs.toArray) else none
  | .tup l => (conL β l).map fun vs => .tuple vs.toArray
  | .fn f a b => (conL β a).bind fun x => (conL β b).map fun y => .func f x.toArray y.toArray
  | .sym i => if flatV (Sg.val i) = true then some (Sg.val i) else none
def conL (β : Bt) : List AV → Option (List Value)
  | [] => some []
  | x :: xs => (con β x).bind fun v => (conL β xs).map fun vs => v :: vs
end
def Le (β β' : Bt) : Prop := ∀ b x, β b = some x → β' b = some x
theorem Le.refl (β : Bt) : Le β β := fun _ _ h => h
theorem Le.trans {β β' β'' : Bt} (h : Le β β') (h' : Le β' β'') : Le β β'' := fun b x e => h' b x (h b x e)
mutual
theorem con_mono {β β' : Bt} (hl : Le β β') : ∀ {x : AV} {v : Value}, con β x = some v → con β' x = some v
  | .nat n, v, h => h
  | .u8 n, v, h => h
  | .int k z, v, h => h
  | .bool b, v, h => h
  | .str n l, v, h => by simpa [con] using h
  | .raw u, v, h => by simpa [con] using h
  | .ptr b off, v, h => by
    simp only [con, Option.map_eq_some_iff] at h ⊢
    obtain ⟨c, hc, rfl⟩ := h
    exact ⟨c, hl _ _ hc, rfl⟩
  | .slice b off len ex d, v, h => by
    simp only [con, Option.bind_eq_some_iff] at h ⊢
    obtain ⟨c, hc, hv⟩ := h
    exact ⟨c, hl _ _ hc, hv⟩
  | .map b, v, h => by
    simp only [con, Option.map_eq_some_iff] at h ⊢
    obtain ⟨c, hc, rfl⟩ := h
    exact ⟨c, hl _ _ hc, rfl⟩
  | .iface t x, v, h => by
    simp only [con, Option.map_eq_some_iff] at h ⊢
    obtain ⟨c, hc, rfl⟩ := h
    exact ⟨c, con_mono hl hc, rfl⟩
  | .agg l, v, h => by
    simp only [con, Option.bind_eq_some_iff] at h ⊢
    obtain ⟨c, hc, hv⟩ := h
    exact ⟨c, conL_mono hl hc, hv⟩
  | .tup l, v, h => by
    simp only [con, Option.map_eq_some_iff] at h ⊢
    obtain ⟨c, hc, hv⟩ := h
    exact ⟨c, conL_mono hl hc, hv⟩
  | .fn f a b, v, h => by
    simp only [con, Option.bind_eq_some_iff, Option.map_eq_some_iff] at h ⊢
    obtain ⟨x, hx, y, hy, hv⟩ := h
    exact ⟨x, conL_mono hl hx, y, conL_mono hl hy, hv⟩
  | .sym i, v, h => by simpa [con] using h
theorem conL_mono {β β' : Bt} (hl : Le β β') : ∀ {l : List AV} {vs : List Value}, conL β l = some vs → conL β' l = some vs
  | [], vs, h => h
  | x :: xs, vs, h => by
    simp only [conL, Option.bind_eq_some_iff, Option.map_eq_some_iff] at h ⊢
    obtain ⟨v, hv, us, hu, rfl⟩ := h
    exact ⟨v, con_mono hl hv, us, conL_mono hl hu, rfl⟩
end
theorem conL_cons {β : Bt} {x : AV} {xs : List AV} {vs : List Value} (h : conL β (x :: xs) = some vs) : ∃ v us, con β x = some v ∧ conL β xs = some us ∧ vs = v :: us := by
  simp only [conL, Option.bind_eq_some_iff, Option.map_eq_some_iff] at h
  obtain ⟨v, hv, us, hu, rfl⟩ := h
  exact ⟨v, us, hv, hu, rfl⟩
theorem conL_mk {β : Bt} {x : AV} {xs : List AV} {v : Value} {us : List Value} (h : con β x = some v) (h' : conL β xs = some us) : conL β (x :: xs) = some (v :: us) := by
  simp only [conL, h, h']; rfl
theorem conL_nil {β : Bt} {vs : List Value} (h : conL β [] = some vs) : vs = [] := by
  simp only [conL] at h; injection h with h; exact h.symm
theorem conL_len {β : Bt} : ∀ {l : List AV} {vs : List Value}, conL β l = some vs → l.length = vs.length
  | [], vs, h => by rw [conL_nil h]; rfl
  | x :: xs, vs, h => by
    obtain ⟨v, us, -, h2, rfl⟩ := conL_cons h
    simp [conL_len h2]
theorem conL_get {β : Bt} : ∀ {l : List AV} {vs : List Value} {i : Nat} {x : AV}, conL β l = some vs → l[i]? = some x → ∃ v, vs[i]? = some v ∧ con β x = some v
  | [], vs, i, x, h, hx => by simp at hx
  | y :: ys, vs, 0, x, h, hx => by
    obtain ⟨v, us, h1, h2, rfl⟩ := conL_cons h
    simp at hx; subst hx
    exact ⟨v, by simp, h1⟩
  | y :: ys, vs, i + 1, x, h, hx => by
    obtain ⟨v, us, h1, h2, rfl⟩ := conL_cons h
    obtain ⟨u, h3, h4⟩ := conL_get (i := i) h2 (by simpa using hx)
    exact ⟨u, by simpa using h3, h4⟩
theorem conL_of {β : Bt} : ∀ {l : List AV} {vs : List Value}, l.length = vs.length → (∀ (i : Nat) (x : AV) (v : Value), l[i]? = some x → vs[i]? = some v → con β x = some v) → conL β l = some vs
  | [], [], _, _ => rfl
  | [], _ :: _, h, _ => by simp at h
  | _ :: _, [], h, _ => by simp at h
  | x :: xs, v :: vs, h, h2 => conL_mk (h2 0 x v (by simp) (by simp)) (conL_of (by simpa using h) (fun i y u hy hu => h2 (i + 1) y u (by simpa using hy) (by simpa using hu)))
theorem conL_append {β : Bt} : ∀ {l m : List AV} {us vs : List Value}, conL β l = some us → conL β m = some vs → conL β (l ++ m) = some (us ++ vs)
  | [], m, us, vs, h, h' => by rw [conL_nil h]; exact h'
  | x :: xs, m, us, vs, h, h' => by
    obtain ⟨v, ws, h1, h2, rfl⟩ := conL_cons h
    exact conL_mk h1 (conL_append h2 h')
theorem conL_take {β : Bt} {l : List AV} {vs : List Value} (n : Nat) (h : conL β l = some vs) : conL β (l.take n) = some (vs.take n) := by
  have hl := conL_len h
  refine conL_of (by simp [hl]) (fun i x v hx hv => ?_)
  rw [List.getElem?_take] at hx hv
  split at hx
  · rename_i hi
    rw [if_pos hi] at hv
    obtain ⟨u, h1, h2⟩ := conL_get h hx
    rw [h1] at hv; injection hv with hv; subst hv; exact h2
  · cases hx
theorem conL_drop {β : Bt} {l : List AV} {vs : List Value} (n : Nat) (h : conL β l = some vs) : conL β (l.drop n) = some (vs.drop n) := by
  have hl := conL_len h
  refine conL_of (by simp [hl]) (fun i x v hx hv => ?_)
  rw [List.getElem?_drop] at hx hv
  obtain ⟨u, h1, h2⟩ := conL_get h hx
  rw [h1] at hv; injection hv with hv; subst hv; exact h2
def EntR (β : Bt) : List (AV × AV × Nat) → List MapEntry → Prop
  | [], [] => True
  | e :: es, m :: ms => con β e.1 = some m.key ∧ con β e.2.1 = some m.val ∧ m.born = e.2.2 ∧ EntR β es ms
  | _, _ => False
theorem EntR.mono {β β' : Bt} (hl : Le β β') : ∀ {es : List (AV × AV × Nat)} {ms : List MapEntry}, EntR β es ms → EntR β' es ms
  | [], [], _ => trivial
  | [], _ :: _, h => h
  | _ :: _, [], h => h
  | e :: es, m :: ms, ⟨h1, h2, h3, h4⟩ => ⟨con_mono hl h1, con_mono hl h2, h3, EntR.mono hl h4⟩
def BlkR (β : Bt) (κ : Nat) (o : Option Obj) : Blk → Prop
  | .cells e len c ex esz => ∃ cs fz, o = some (.cells cs e fz) ∧ (∀ i, i < cs.size → ¬ (fz.1 ≤ i ∧ i < fz.2)) ∧
      (∀ i, i < len → ∃ av u, c.get (path i) = some av ∧ cs[i]? = some u ∧ con β av = some u ∧ flatV u = true) ∧ len ≤ cs.size ∧ (ex = true → cs.size = len) ∧ (ex = false → cs.size = κ * esz)
  | .map es clock => ∃ ms, o = some (.map ms clock) ∧ EntR β es ms.toList
  | .miter b since => ∃ cb κ', β b = some (cb, κ') ∧ o = some (.mapIter (some cb) since #[] since)
  | .iter l pos => o = some (.stringIter (bytesOf l) pos) ∧ l.all (· < 256) = true
theorem BlkR.mono {β β' : Bt} (hl : Le β β') {κ : Nat} {o : Option Obj} {b : Blk} (h : BlkR β κ o b) : BlkR β' κ o b := by
  cases b with
  | cells e len c ex esz =>
    obtain ⟨cs, fz, h1, h2, h3, h4⟩ := h
    refine ⟨cs, fz, h1, h2, fun i hi => ?_, h4⟩
    obtain ⟨av, u, a, b, c, d⟩ := h3 i hi
    exact ⟨av, u, a, b, con_mono hl c, d⟩
  | map es clock =>
    obtain ⟨ms, h1, h2⟩ := h
    exact ⟨ms, h1, h2.mono hl⟩
  | iter l pos => exact h
  | miter b since =>
    obtain ⟨cb, κ', h1, h2⟩ := h
    exact ⟨cb, κ', hl _ _ h1, h2⟩
def Hp.tr : Hp → Tr Blk | .mk t _ _ => t
def Hp.nx : Hp → Nat | .mk _ n _ => n
def Hp.lo : Hp → Nat | .mk _ _ l => l
structure HR (β : Bt) (h : Hp) (w : World) : Prop where
  blk : ∀ b x, h.tr.get (path b) = some x → b < h.nx ∧ ∃ cb κ, β b = some (cb, κ) ∧ BlkR β κ w.heap[cb]? x
  inj : ∀ b b' x x' c κ κ', h.tr.get (path b) = some x → h.tr.get (path b') = some x' → β b = some (c, κ) → β b' = some (c, κ') → b = b'
  fresh : ∀ i, h.nx ≤ i → β i = none
  low : h.lo ≤ h.nx
structure Kept (β : Bt) (t : Tr Blk) (lo : Nat) (w w' : World) : Prop where
  os : w'.os = w.os
  tape : w'.tape = w.tape
  output : w'.output = w.output
  size : w.heap.size ≤ w'.heap.size
  blocks : ∀ c, c < w.heap.size → (∀ b κ x, lo ≤ b → t.get (path b) = some x → β b ≠ some (c, κ)) → w'.heap[c]? = w.heap[c]?
theorem Kept.block {β : Bt} {t : Tr Blk} {lo : Nat} {w w' : World} (k : Kept β t lo w w') : ∀ c, c < w.heap.size → (∀ b κ, lo ≤ b → β b ≠ some (c, κ)) → w'.heap[c]? = w.heap[c]? :=
  fun c hc h => k.blocks c hc fun b κ _ hb _ => h b κ hb
structure Stp (β : Bt) (h : Hp) (w : World) (β' : Bt) (h' : Hp) (w' : World) : Prop where
  hr : HR β' h' w'
  nx : h.nx ≤ h'.nx
  lo : h'.lo ≤ h.lo
  old : ∀ b, b < h.nx → β' b = β b
  dom : ∀ b x, b < h.nx → h'.tr.get (path b) = some x → ∃ y, h.tr.get (path b) = some y
  new : ∀ b c κ, h.nx ≤ b → β' b = some (c, κ) → w.heap.size ≤ c ∨ ∃ x κ' y, h'.lo ≤ x ∧ x < h.nx ∧ h.tr.get (path x) = some y ∧ β x = some (c, κ')
  kept : Kept β h.tr h'.lo w w'
theorem Kept.refl (β : Bt) (t : Tr Blk) (lo : Nat) (w : World) : Kept β t lo w w := ⟨rfl, rfl, rfl, Nat.le_refl _, fun _ _ _ => rfl⟩
theorem Stp.refl {β : Bt} {h : Hp} {w : World} (hr : HR β h w) : Stp β h w β h w :=
  ⟨hr, Nat.le_refl _, Nat.le_refl _, fun _ _ => rfl, fun _ x _ e => ⟨x, e⟩, (fun b c κ hb e => by rw [hr.fresh b hb] at e; cases e), Kept.refl _ _ _ _⟩
theorem Stp.le {β β' : Bt} {h h' : Hp} {w w' : World} (hr : HR β h w) (s : Stp β h w β' h' w') : Le β β' := by
  intro b x e
  by_cases hb : b < h.nx
  · rw [s.old b hb]; exact e
  · rw [hr.fresh b (by omega)] at e; cases e
theorem Stp.trans {β β' β'' : Bt} {h h' h'' : Hp} {w w' w'' : World} (hr : HR β h w) (s : Stp β h w β' h' w') (s' : Stp β' h' w' β'' h'' w'') : Stp β h w β'' h'' w'' := by
  refine ⟨s'.hr, Nat.le_trans s.nx s'.nx, Nat.le_trans s'.lo s.lo, fun b hb => ?_, fun b x hb e => ?_, fun b c κ hb e => ?_, ?_⟩
  · rw [s'.old b (Nat.lt_of_lt_of_le hb s.nx), s.old b hb]
  · obtain ⟨y, hy⟩ := s'.dom b x (Nat.lt_of_lt_of_le hb s.nx) e
    exact s.dom b y hb hy
  · by_cases h2 : b < h'.nx
    · rw [s'.old b h2] at e
      rcases s.new b c κ hb e with h3 | ⟨x, κ', y, a1, a2, a3⟩
      · exact .inl h3
      · exact .inr ⟨x, κ', y, Nat.le_trans s'.lo a1, a2, a3⟩
    · rcases s'.new b c κ (by omega) e with h3 | ⟨x, κ', y, a1, a2, a4, a3⟩
      · exact .inl (Nat.le_trans s.kept.size h3)
      · by_cases h4 : x < h.nx
        · rw [s.old x h4] at a3
          obtain ⟨y', hy'⟩ := s.dom x y h4 a4
          exact .inr ⟨x, κ', y', a1, h4, hy', a3⟩
        · rcases s.new x c κ' (by omega) a3 with h5 | ⟨y, κ2, y', b1, b2, b3⟩
          · exact .inl h5
          · exact .inr ⟨y, κ2, y', Nat.le_trans s'.lo b1, b2, b3⟩
  · refine ⟨s'.kept.os.trans s.kept.os, s'.kept.tape.trans s.kept.tape, s'.kept.output.trans s.kept.output, Nat.le_trans s.kept.size s'.kept.size, fun c hc hn => ?_⟩
    rw [s'.kept.blocks c (Nat.lt_of_lt_of_le hc s.kept.size) ?_, s.kept.blocks c hc (fun b κ x hb hx => hn b κ x (Nat.le_trans s'.lo hb) hx)]
    intro b κ x hb hx e
    by_cases h2 : b < h.nx
    · rw [s.old b h2] at e
      obtain ⟨y, hy⟩ := s.dom b x h2 hx
      exact hn b κ y hb hy e
    · rcases s.new b c κ (by omega) e with h3 | ⟨x, κ', y, a1, a2, a4, a3⟩
      · omega
      · exact hn x κ' y (Nat.le_trans s'.lo a1) a4 a3
theorem HR.drawn {β : Bt} {h : Hp} {w w' : World} (hr : HR β h w) (hh : w'.heap = w.heap) : HR β h w' :=
  ⟨fun b x e => by rw [hh]; exact hr.blk b x e, hr.inj, hr.fresh, hr.low⟩
end Go.Ev
