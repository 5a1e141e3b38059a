/- What the proof needs, part 1. -/
import Derived.Test.YtedfgikikjggaaaDoorPure
import Derived.Sort.Walk0
/- A text in parts, by a sign. No program. -/
section
set_option linter.unusedVariables false
set_option linter.unusedSimpArgs false
namespace Go.Proofs.YtedfgikikjggaaaDoor

def splitB (c : Int) : List UInt8 → List (List UInt8)
  | [] => [[]]
  | b :: t => if (b.toNat : Int) = c then [] :: splitB c t else match splitB c t with
    | p :: ps => (b :: p) :: ps
    | [] => [[b]]
theorem splitB_ne (c : Int) (l : List UInt8) : splitB c l ≠ [] := by
  cases l with
  | nil => simp [splitB]
  | cons b t =>
    unfold splitB
    split
    · simp
    · split <;> simp
theorem byt0 (b : UInt8) (t : List UInt8) : byt (b :: t) 0 = (b.toNat : Int) := rfl
theorem bytS (b : UInt8) (t : List UInt8) (i : Nat) : byt (b :: t) (i + 1) = byt t i := by unfold byt; simp [List.getD]
theorem splitB_hit (c : Int) : ∀ (n : Nat) (l : List UInt8), n < l.length → (∀ q, q < n → byt l q ≠ c) → byt l n = c → splitB c l = l.take n :: splitB c (l.drop (n + 1)) := by
  intro n
  induction n with
  | zero =>
    intro l hl _ h
    match l, hl with
    | b :: t, _ =>
      rw [byt0] at h
      conv => lhs; unfold splitB
      rw [if_pos h]; rfl
  | succ n ih =>
    intro l hl hn h
    match l, hl with
    | b :: t, hl =>
      have h0 := hn 0 (by omega)
      rw [byt0] at h0
      rw [bytS] at h
      have := ih t (by simpa using hl) (fun q hq => by have := hn (q + 1) (by omega); rwa [bytS] at this) h
      conv => lhs; unfold splitB
      rw [if_neg h0, this]; rfl
theorem splitB_end (c : Int) : ∀ (l : List UInt8), (∀ q, q < l.length → byt l q ≠ c) → splitB c l = [l] := by
  intro l
  induction l with
  | nil => intro _; rfl
  | cons b t ih =>
    intro h
    have h0 := h 0 (by simp)
    rw [byt0] at h0
    have := ih fun q hq => by have := h (q + 1) (by simp; omega); rwa [bytS] at this
    conv => lhs; unfold splitB
    rw [if_neg h0, this]
theorem splitB_snoc (c : Int) (b : UInt8) (hb : (b.toNat : Int) = c) : ∀ (l : List UInt8), splitB c (l ++ [b]) = splitB c l ++ [[]] := by
  intro l
  induction l with
  | nil => show splitB c [b] = _; unfold splitB; rw [if_pos hb]; rfl
  | cons x t ih =>
    show splitB c (x :: (t ++ [b])) = _
    unfold splitB
    rw [ih]
    split
    · rfl
    · have hne := splitB_ne c t
      match splitB c t, hne with
      | p :: ps, _ => rfl
theorem splitB_len (c : Int) (l : List UInt8) : (splitB c l).length ≤ l.length + 1 ∧ 1 ≤ (splitB c l).length := by
  induction l with
  | nil => simp [splitB]
  | cons b t ih =>
    unfold splitB
    split
    · simp; omega
    · have hne := splitB_ne c t
      match h : splitB c t, hne with
      | p :: ps, _ => rw [h] at ih; simp at ih ⊢; omega
theorem splitB_mem (c : Int) : ∀ (l p : List UInt8), p ∈ splitB c l → p.length ≤ l.length := by
  intro l
  induction l with
  | nil => intro p hp; simp [splitB] at hp; simp [hp]
  | cons b t ih =>
    intro p hp
    unfold splitB at hp
    split at hp
    · rcases List.mem_cons.1 hp with rfl | hp
      · simp
      · have := ih p hp; simp; omega
    · have hne := splitB_ne c t
      match h : splitB c t, hne with
      | q :: qs, _ =>
        rw [h] at hp ih
        rcases List.mem_cons.1 hp with rfl | hp
        · have := ih q List.mem_cons_self; simp; omega
        · have := ih p (List.mem_cons_of_mem _ hp); simp; omega
/-- The last part is empty just if the text is, or ends with the sign. -/
theorem splitB_last (c : Int) : ∀ (l : List UInt8), (splitB c l).getLast (splitB_ne c l) = [] ↔ l = [] ∨ byt l (l.length - 1) = c ∧ l ≠ [] := by
  intro l
  induction l with
  | nil => simp [splitB]
  | cons b t ih =>
    by_cases hb : (b.toNat : Int) = c
    · have e : splitB c (b :: t) = [] :: splitB c t := by conv => lhs; unfold splitB; rw [if_pos hb]
      have : (splitB c (b :: t)).getLast (splitB_ne c (b :: t)) = (splitB c t).getLast (splitB_ne c t) := by
        simp only [e]; exact List.getLast_cons _
      rw [this, ih]
      cases t with
      | nil => simp [byt, hb]
      | cons y u =>
        simp only [List.length_cons, Nat.add_sub_cancel]
        rw [bytS]; simp
    · have hne := splitB_ne c t
      match h : splitB c t, hne with
      | q :: qs, _ =>
        have e : splitB c (b :: t) = (b :: q) :: qs := by conv => lhs; unfold splitB; rw [if_neg hb, h]
        cases qs with
        | nil =>
          have e1 : (splitB c (b :: t)).getLast (splitB_ne c (b :: t)) = b :: q := by simp only [e]; rfl
          have e2 : (splitB c t).getLast (splitB_ne c t) = q := by simp only [h]; rfl
          rw [e1]
          rw [e2] at ih
          constructor
          · intro h; cases h
          · rintro (h2 | ⟨h2, _⟩)
            · cases h2
            · cases t with
              | nil => simp [byt] at h2; exact absurd h2 hb
              | cons y u =>
                simp only [List.length_cons, Nat.add_sub_cancel] at h2 ih
                rw [bytS] at h2
                have hq : q = [] := ih.2 (.inr ⟨h2, by simp⟩)
                exfalso
                subst hq
                unfold splitB at h
                split at h
                · injection h with _ h3; exact splitB_ne c u h3
                · split at h <;> simp at h
        | cons r rs =>
          have e1 : (splitB c (b :: t)).getLast (splitB_ne c (b :: t)) = (splitB c t).getLast (splitB_ne c t) := by
            simp only [e, h, List.getLast_cons_cons]
          rw [e1, ih]
          cases t with
          | nil => simp [splitB] at h
          | cons y u =>
            simp only [List.length_cons, Nat.add_sub_cancel]
            rw [bytS]; simp
end Go.Proofs.YtedfgikikjggaaaDoor
end
/- Trees of files: what a tree is, over lists. No program. -/
section
set_option linter.unusedVariables false
set_option linter.unusedSimpArgs false
namespace Go.Proofs.YtedfgikikjggaaaDoor

abbrev Bts := List UInt8
/-- A node. -/
structure Nd where
  p : Bts
  k : Int
  d : Bts
theorem Nd.ext' {a b : Nd} (h1 : a.p = b.p) (h2 : a.k = b.k) (h3 : a.d = b.d) : a = b := by
  cases a; cases b; simp_all
def Nd.beq (a b : Nd) : Bool := a.p == b.p && a.k == b.k && a.d == b.d
theorem Nd.beq_iff {a b : Nd} : Nd.beq a b = true ↔ a = b := by
  unfold Nd.beq
  constructor
  · intro h
    simp only [Bool.and_eq_true, beq_iff_eq] at h
    exact Nd.ext' h.1.1 h.1.2 h.2
  · rintro rfl; simp
def nd0 : Nd := ⟨[], 0, []⟩
instance : Inhabited Nd := ⟨nd0⟩
def rootN : Nd := ⟨[47], 2, []⟩

/-- Less, as texts are. -/
def ltS (a b : Bts) : Bool := Op.bytesLess a b
theorem ltS_nil_cons (b : UInt8) (l : Bts) : ltS [] (b :: l) = true := rfl
theorem ltS_nil (a : Bts) : ltS a [] = false := by cases a <;> rfl
theorem ltS_cons (a b : UInt8) (l m : Bts) : ltS (a :: l) (b :: m) = (decide (a < b) || (a == b && ltS l m)) := rfl
theorem ltS_irrefl : ∀ l : Bts, ltS l l = false
  | [] => rfl
  | x :: l => by
    rw [ltS_cons, ltS_irrefl l, Bool.and_false, Bool.or_false, decide_eq_false_iff_not, UInt8.lt_iff_toNat_lt]; omega
theorem ltS_iff {a b : UInt8} {l m : Bts} : ltS (a :: l) (b :: m) = true ↔ a.toNat < b.toNat ∨ (a = b ∧ ltS l m = true) := by
  rw [ltS_cons, Bool.or_eq_true, Bool.and_eq_true, decide_eq_true_eq, beq_iff_eq, UInt8.lt_iff_toNat_lt]
theorem ltS_trans : ∀ {x y z : Bts}, ltS x y = true → ltS y z = true → ltS x z = true
  | _, _, [], _, h => by rw [ltS_nil] at h; cases h
  | _, [], _ :: _, h, _ => by rw [ltS_nil] at h; cases h
  | [], _ :: _, _ :: _, _, _ => rfl
  | x :: l, y :: m, z :: n, h1, h2 => by
    rw [ltS_iff] at h1 h2 ⊢
    rcases h1 with h1 | ⟨rfl, h3⟩ <;> rcases h2 with h2 | ⟨rfl, h4⟩
    · exact .inl (by omega)
    · exact .inl h1
    · exact .inl h2
    · exact .inr ⟨rfl, ltS_trans h3 h4⟩
theorem ltS_total : ∀ {x y : Bts}, ltS x y = false → ltS y x = false → x = y
  | [], [], _, _ => rfl
  | [], _ :: _, h, _ => by cases h
  | _ :: _, [], _, h => by cases h
  | x :: l, y :: m, h1, h2 => by
    rw [← Bool.not_eq_true, ltS_iff] at h1 h2
    have e : x = y := by
      have : x.toNat = y.toNat := by omega
      exact UInt8.toNat_inj.1 this
    subst e
    rw [ltS_total (x := l) (y := m) (by rw [← Bool.not_eq_true]; exact fun h => h1 (.inr ⟨rfl, h⟩)) (by rw [← Bool.not_eq_true]; exact fun h => h2 (.inr ⟨rfl, h⟩))]
theorem ltS_asymm {x y : Bts} (h : ltS x y = true) : ltS y x = false := by
  rw [← Bool.not_eq_true]; intro h2
  have := ltS_trans h h2
  rw [ltS_irrefl] at this; cases this
theorem ltS_app (c x y : Bts) : ltS (c ++ x) (c ++ y) = ltS x y := by
  induction c with
  | nil => rfl
  | cons b c ih =>
    rw [List.cons_append, List.cons_append, ltS_cons, ih]
    simp [UInt8.lt_irrefl]

def Rising (l : List Nd) : Prop := l.Pairwise fun a b => ltS a.p b.p = true
theorem Rising.inj : ∀ {l : List Nd}, Rising l → ∀ {a b : Nd}, a ∈ l → b ∈ l → a.p = b.p → a = b
  | x :: l, h, a, b, ha, hb, e => by
    rw [Rising, List.pairwise_cons] at h
    rcases List.mem_cons.1 ha with e1 | h1 <;> rcases List.mem_cons.1 hb with e2 | h2
    · rw [e1, e2]
    · have := h.1 b h2; rw [← e1, e, ltS_irrefl] at this; cases this
    · have := h.1 a h1; rw [← e2, e, ltS_irrefl] at this; cases this
    · exact Rising.inj h.2 h1 h2 e
/-- Two rising lists of the same nodes are one. -/
theorem Rising.eq : ∀ {l m : List Nd}, Rising l → Rising m → (∀ n, n ∈ l ↔ n ∈ m) → l = m
  | [], [], _, _, _ => rfl
  | [], b :: m, _, _, h => by have := (h b).2 (List.mem_cons_self ..); cases this
  | a :: l, [], _, _, h => by have := (h a).1 (List.mem_cons_self ..); cases this
  | a :: l, b :: m, hl, hm, h => by
    have hl' := hl; have hm' := hm
    rw [Rising, List.pairwise_cons] at hl hm
    have hab : a = b := by
      have h1 := (h a).1 (List.mem_cons_self ..)
      have h2 := (h b).2 (List.mem_cons_self ..)
      rcases List.mem_cons.1 h1 with e | h1
      · exact e
      · rcases List.mem_cons.1 h2 with e | h2
        · exact e.symm
        · have := ltS_trans (hl.1 b h2) (hm.1 a h1); rw [ltS_irrefl] at this; cases this
    subst hab
    rw [Rising.eq hl.2 hm.2 fun n => ⟨fun hn => ?_, fun hn => ?_⟩]
    · rcases List.mem_cons.1 ((h n).1 (List.mem_cons_of_mem _ hn)) with e | h1
      · subst e; have := hl.1 n hn; rw [ltS_irrefl] at this; cases this
      · exact h1
    · rcases List.mem_cons.1 ((h n).2 (List.mem_cons_of_mem _ hn)) with e | h1
      · subst e; have := hm.1 n hn; rw [ltS_irrefl] at this; cases this
      · exact h1

/-- Where the last / stands, or -1. -/
def lastSl : Bts → Int
  | [] => -1
  | b :: l => if lastSl l ≥ 0 then lastSl l + 1 else if b = 47 then 0 else -1
theorem lastSl_bd (l : Bts) : -1 ≤ lastSl l ∧ lastSl l < l.length := by
  induction l with
  | nil => decide
  | cons b l ih =>
    unfold lastSl
    rw [List.length_cons]
    split
    · omega
    · split <;> omega
/-- The folder of a path, and its name there. -/
def partF (p : Bts) : Bts := p.take (max (lastSl p) (min 1 (p.length : Int))).toNat
def partN (p : Bts) : Bts := p.drop (lastSl p + 1).toNat
def okPart (s : Bts) : Bool := !(s == [] || s == [46] || s == [46, 46])
def cleanL (p : Bts) : Bool := p == [47] || (p.head? == some 47 && (splitB 47 (p.drop 1)).all okPart)
def kindOk (n : Nd) : Bool :=
  if n.k = 1 then !(n.p == [47]) && decide (n.d.length ≤ 1048576)
  else if n.k = 2 then n.d == []
  else if n.k = 3 then !(n.p == [47]) && !(n.d == []) && decide (n.d.length ≤ 1024) && !(n.d.contains 0)
  else false
/-- May a node be, by itself? -/
def fitN (n : Nd) : Bool := decide (n.p.length ≤ 1024) && cleanL n.p && !(n.p.contains 0) && (splitB 47 n.p).all (fun s => decide (s.length ≤ 255)) && kindOk n
theorem fit_root {n : Nd} (h : fitN n = true) (e : n.p = [47]) : n = rootN := by
  unfold fitN at h
  simp only [Bool.and_eq_true] at h
  have hk := h.2
  unfold kindOk at hk
  rw [e] at hk
  split at hk
  · simp at hk
  · split at hk
    · rename_i h2
      exact Nd.ext' e h2 (show n.d = [] by simpa using hk)
    · split at hk <;> simp at hk
theorem fit_clean {n : Nd} (h : fitN n = true) : cleanL n.p = true := by
  unfold fitN at h
  simp only [Bool.and_eq_true] at h
  exact h.1.1.1.2
/-- Are they a tree's nodes? -/
def Good (ns : List Nd) : Prop := (∀ n ∈ ns, fitN n = true) ∧ (ns.map (·.p)).Nodup ∧ ∀ n ∈ ns, n.p ≠ [47] → ∃ m, (m ∈ ns ∨ m = rootN) ∧ m.p = partF n.p ∧ m.k = 2
def Whole (ns all : List Nd) : Prop := Rising all ∧ ∀ n, n ∈ all ↔ n ∈ ns ∨ n = rootN
theorem Whole.eq {ns all all' : List Nd} (h : Whole ns all) (h' : Whole ns all') : all = all' := Rising.eq h.1 h'.1 fun n => (h.2 n).trans (h'.2 n).symm
theorem Good.perm {ns ms : List Nd} (h : Good ns) (hp : ms.Perm ns) : Good ms :=
  ⟨fun n hn => h.1 n (hp.mem_iff.1 hn), (hp.map _).nodup_iff.2 h.2.1, fun n hn hr => by
    obtain ⟨m, hm, h1, h2⟩ := h.2.2 n (hp.mem_iff.1 hn) hr
    exact ⟨m, hm.imp hp.mem_iff.2 id, h1, h2⟩⟩
theorem Whole.perm {ns ms all : List Nd} (h : Whole ns all) (hp : ms.Perm ns) : Whole ms all := ⟨h.1, fun n => (h.2 n).trans (or_congr_left hp.mem_iff.symm)⟩
/-- The names in a folder. -/
def namesIn (all : List Nd) (f : Bts) : List Bts := (all.filter fun n => !(n.p == [47]) && partF n.p == f).map fun n => partN n.p
/-- The node of a path. -/
def lookN (all : List Nd) (p : Bts) : Option Nd := all.find? fun n => n.p == p
theorem lookN_some {all : List Nd} {p : Bts} {n : Nd} (h : lookN all p = some n) : n ∈ all ∧ n.p = p := by
  unfold lookN at h
  exact ⟨List.mem_of_find?_eq_some h, by have := List.find?_some h; simpa using this⟩
theorem lookN_none {all : List Nd} {p : Bts} (h : lookN all p = none) : ∀ n ∈ all, n.p ≠ p := by
  unfold lookN at h
  intro n hn
  have := List.find?_eq_none.1 h n hn
  simpa using this
theorem lookN_mem {all : List Nd} (hr : Rising all) {n : Nd} (h : n ∈ all) : lookN all n.p = some n := by
  cases h2 : lookN all n.p with
  | none => exact absurd rfl (lookN_none h2 n h)
  | some m => obtain ⟨h3, h4⟩ := lookN_some h2; rw [Rising.inj hr h3 h h4]
end Go.Proofs.YtedfgikikjggaaaDoor
end
