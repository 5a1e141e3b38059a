/- The evaluator's regions: operations in whatever order: what is written down of a run. -/
import Derived.Test.YtniednnklbdciaaDoorEvT
set_option linter.unusedVariables false
set_option linter.unusedSectionVars false
set_option linter.unusedSimpArgs false
namespace Go.Ev
variable [Sg] [Sl]
open Go.RowKit
variable {P : Program}

/-- What an operation does to memory. -/
inductive Kd where
  | calm
  | bar (I O : Hp)
  | free (I O : Hp)
abbrev Rcs := Nat → Option AV × Kd
def dstAt (ops : List Oper) (i : Nat) : Option Tmp := (ops[i]?).bind (·.dst)
/-- The temporaries behind those of a set. -/
def cvS (cv0 : Cv) (ops : List Oper) (f : Rcs) (S : Nat → Bool) : Nat → Cv
  | 0 => cv0
  | i + 1 => if S i = true then updO (cvS cv0 ops f S i) (dstAt ops i) (f i).1 else cvS cv0 ops f S i
def cvU (cv0 : Cv) (ops : List Oper) (f : Rcs) : Nat → Cv
  | 0 => cv0
  | i + 1 => updO (cvU cv0 ops f i) (dstAt ops i) (f i).1
def Kd.nx (n : Nat) : Kd → Nat
  | .calm => n
  | .bar _ O => O.nx
  | .free _ O => O.nx
def Kd.bs (h : Hp) : Kd → Hp
  | .bar _ O => O
  | _ => h
def Kd.isBar : Kd → Bool
  | .bar _ _ => true
  | _ => false
def Kd.isCalm : Kd → Bool
  | .calm => true
  | _ => false
def nxU (h0 : Hp) (f : Rcs) : Nat → Nat
  | 0 => h0.nx
  | i + 1 => (f i).2.nx (nxU h0 f i)
def bsU (h0 : Hp) (f : Rcs) : Nat → Hp
  | 0 => h0
  | i + 1 => (f i).2.bs (bsU h0 f i)
/-- Whence blocks come: from the last bar, or from free operations behind it. -/
def Src (f : Rcs) (p : Nat → Bool) (i : Nat) (base : Hp) (t : Tr Blk) : Prop :=
  ∀ b x, t.get (path b) = some x → base.tr.get (path b) = some x ∨ ∃ j I O, j < i ∧ p j = true ∧ (f j).2 = .free I O ∧ (∀ k, j ≤ k → k < i → (f k).2.isBar = false) ∧ I.nx ≤ b ∧ b < O.nx ∧ O.tr.get (path b) = some x
def CalmAt (P : Program) (ops : List Oper) (o : Oper) (cv : Cv) (out : Option AV) : Prop :=
  (wantedA ops cv o = some true ∧ ∃ v xs, out = some v ∧ opnds P cv o.op.operands.toList = some xs ∧ ∀ h, OpHoldsG P o xs h v h) ∨
  (wantedA ops cv o = some false ∧ out = some (.tup [])) ∨
  (o.guard = none ∧ ∃ t, o.op = .move (.tmp t) ∧ out = cv t)
def CutAt (f : Rcs) (c : Nat) : Prop := c = 0 ∨ ∃ d, c = d + 1 ∧ (f d).2.isBar = true
/-- What is read is the same in each memory, from bar to bar. -/
structure ReadIn (P : Program) (o : Oper) (xs : List AV) (v : AV) (H : Hp) : Prop where
  nx : H.nx ≤ bigN
  does : ∃ O, O.nx = bigN ∧ O.lo = bigN ∧ OpHoldsG P o xs (.mk H.tr bigN bigN) v O
def ReadTo (P : Program) (ops : List Oper) (bf : List Nat) (cv0 : Cv) (h0 : Hp) (f : Rcs) (m i : Nat) (o : Oper) : Prop :=
  wantedA ops (cvU cv0 ops f i) o = some true ∧ ∃ v xs, (f i).1 = some v ∧ opnds P (cvU cv0 ops f i) o.op.operands.toList = some xs ∧ lowA (nxU h0 f i) v = true ∧ nxU h0 f i ≤ bigN ∧
    ∀ c, c ≤ m → CutAt f c → (∀ k, (f k).2.isBar = true → inMask (bf.getD i 0) k = true → k < c) → (∀ k, k < c → (f k).2.isBar = true → inMask (bf.getD k 0) i = false) → ReadIn P o xs v (.mk (bsU h0 f c).tr (nxU h0 f c) 0)
/-- What is written down of an operation holds. -/
structure RcAt (P : Program) (ops : List Oper) (bf : List Nat) (cv0 : Cv) (h0 : Hp) (f : Rcs) (m i : Nat) (o : Oper) : Prop where
  calm : (f i).2 = .calm → CalmAt P ops o (cvU cv0 ops f i) (f i).1 ∨ ReadTo P ops bf cv0 h0 f m i o
  bar : ∀ I O, (f i).2 = .bar I O → I.nx ≤ O.nx ∧ (∃ v, (f i).1 = some v ∧ Does P ops o (cvU cv0 ops f i) I v O) ∧ Src f (fun _ => true) i (bsU h0 f i) I.tr ∧ I.nx = nxU h0 f i ∧ I.lo = (bsU h0 f i).lo
  free : ∀ I O, (f i).2 = .free I O → (∃ v, (f i).1 = some v ∧ wantedA ops (cvU cv0 ops f i) o = some true ∧ Acts P o (cvU cv0 ops f i) I v O) ∧ Src f (fun j => inMask (bf.getD i 0) j) i (bsU h0 f i) I.tr ∧ I.nx = nxU h0 f i ∧ I.lo = nxU h0 f i ∧ O.lo = nxU h0 f i ∧ nxU h0 f i ≤ O.nx
  ord : (f i).2.isCalm = false → ∀ j, j < i → (f j).2.isCalm = false → ((f i).2.isBar = true ∨ (f j).2.isBar = true) → inMask (bf.getD i 0) j = true

theorem cvS_agree {cv0 : Cv} {ops : List Oper} {f : Rcs} {S : Nat → Bool} {i t : Nat} (h : ∀ k, S k ≠ decide (k < i) → dstAt ops k ≠ some t) : ∀ n, cvS cv0 ops f S n t = cvU cv0 ops f (min n i) t
  | 0 => by simp [cvS, cvU]
  | n + 1 => by
    have ih := cvS_agree (cv0 := cv0) (f := f) h n
    have up : ∀ (cv : Cv) v, dstAt ops n ≠ some t → updO cv (dstAt ops n) v t = cv t := fun cv v hd => by
      unfold updO
      cases he : dstAt ops n with
      | none => rfl
      | some d => dsimp only; rw [if_neg (fun e => hd (by rw [he, e]))]
    unfold cvS
    by_cases hlt : n < i
    · rw [show min (n + 1) i = n + 1 by omega]
      rw [show min n i = n by omega] at ih
      unfold cvU
      by_cases hS : S n = true
      · rw [if_pos hS]
        by_cases hd : dstAt ops n = some t
        · rw [hd]; show (if t = t then _ else _) = (if t = t then _ else _); rw [if_pos rfl, if_pos rfl]
        · rw [up _ _ hd, up _ _ hd]; exact ih
      · rw [if_neg hS, up _ _ (h n (by simp [hlt, hS]))]; exact ih
    · rw [show min (n + 1) i = min n i by omega]
      by_cases hS : S n = true
      · rw [if_pos hS, up _ _ (h n (by simp [hlt, hS]))]; exact ih
      · rw [if_neg hS]; exact ih
theorem cvS_all {cv0 : Cv} {ops : List Oper} {f : Rcs} {S : Nat → Bool} {n : Nat} (h : ∀ k, k < n → S k = true) : ∀ m, m ≤ n → cvS cv0 ops f S m = cvU cv0 ops f m
  | 0, _ => rfl
  | m + 1, hm => by unfold cvS cvU; rw [if_pos (h m (by omega)), cvS_all h m (by omega)]
def addS (S : Nat → Bool) (i : Nat) : Nat → Bool := fun k => S k || decide (k = i)
theorem cvS_add {cv0 : Cv} {ops : List Oper} {f : Rcs} {S : Nat → Bool} {i : Nat} (hi : S i = false) (h : ∀ k, i < k → S k = true → dstAt ops i ≠ none → dstAt ops k ≠ dstAt ops i) : ∀ n t, cvS cv0 ops f (addS S i) n t = if i < n then updO (cvS cv0 ops f S n) (dstAt ops i) (f i).1 t else cvS cv0 ops f S n t
  | 0, t => by simp [cvS]
  | n + 1, t => by
    have ih := cvS_add (cv0 := cv0) (f := f) hi h n
    by_cases hin : i = n
    · subst hin
      rw [if_pos (Nat.lt_succ_self i)]
      unfold cvS
      rw [if_pos (by simp [addS]), if_neg (by rw [hi]; simp)]
      unfold updO
      cases hd : dstAt ops i with
      | none => dsimp only; rw [ih t, if_neg (Nat.lt_irrefl i)]
      | some d => dsimp only; rw [ih t, if_neg (Nat.lt_irrefl i)]
    · have ha : addS S i n = S n := by unfold addS; rw [decide_eq_false (fun e : n = i => hin e.symm), Bool.or_false]
      by_cases hlt : i < n
      · rw [if_pos (by omega)]
        unfold cvS
        rw [ha]
        by_cases hS : S n = true
        · rw [if_pos hS, if_pos hS]
          have hne := h n hlt hS
          have ih' := ih t
          rw [if_pos hlt] at ih'
          unfold updO at ih' ⊢
          cases hd : dstAt ops i with
          | none =>
            rw [hd] at ih'
            cases hdn : dstAt ops n with
            | none => exact ih'
            | some d => dsimp only; rw [ih']
          | some d =>
            rw [hd] at ih'
            dsimp only at ih' ⊢
            cases hdn : dstAt ops n with
            | none => exact ih'
            | some d' =>
              dsimp only
              have hdd : d' ≠ d := fun e => hne (by rw [hd]; simp) (by rw [hdn, hd, e])
              by_cases e : t = d'
              · subst e; rw [if_pos rfl, if_neg hdd, if_pos rfl]
              · rw [if_neg e, if_neg e]; exact ih'
        · rw [if_neg hS, if_neg hS]
          have ih' := ih t
          rw [if_pos hlt] at ih'
          exact ih'
      · rw [if_neg (by omega)]
        have ih' := ih t
        rw [if_neg hlt] at ih'
        unfold cvS
        rw [ha]
        by_cases hS : S n = true
        · rw [if_pos hS, if_pos hS]
          unfold updO
          cases dstAt ops n with
          | none => exact ih'
          | some d' => dsimp only; rw [ih']
        · rw [if_neg hS, if_neg hS]; exact ih'
theorem bsU_const {h0 : Hp} {f : Rcs} {c : Nat} : ∀ i, c ≤ i → (∀ k, c ≤ k → k < i → (f k).2.isBar = false) → bsU h0 f i = bsU h0 f c
  | 0, hc, _ => by rw [show c = 0 by omega]
  | i + 1, hc, h => by
    by_cases e : c = i + 1
    · rw [e]
    · have h1 := h i (by omega) (Nat.lt_succ_self i)
      have ih := bsU_const (h0 := h0) (f := f) (c := c) i (by omega) (fun k a b => h k a (by omega))
      show (f i).2.bs (bsU h0 f i) = _
      revert h1
      cases (f i).2 with
      | bar I O => intro h1; cases h1
      | calm => intro _; exact ih
      | free I O => intro _; exact ih
theorem nxU_mono {ops : List Oper} {bf : List Nat} {cv0 : Cv} {h0 : Hp} {f : Rcs} {c m : Nat} (hf : ∀ i o, ops[i]? = some o → RcAt P ops bf cv0 h0 f m i o) (hc : ∀ i, ops.length ≤ i → (f i).2 = .calm) : ∀ i, c ≤ i → nxU h0 f c ≤ nxU h0 f i
  | 0, h => by rw [show c = 0 by omega]; exact Nat.le_refl _
  | i + 1, h => by
    by_cases e : c = i + 1
    · rw [e]; exact Nat.le_refl _
    · have ih := nxU_mono (c := c) hf hc i (by omega)
      refine Nat.le_trans ih ?_
      show _ ≤ (f i).2.nx (nxU h0 f i)
      by_cases hi : i < ops.length
      · obtain ⟨o, ho⟩ : ∃ o, ops[i]? = some o := ⟨_, List.getElem?_eq_getElem hi⟩
        have hr := hf i o ho
        cases hk : (f i).2 with
        | bar I O => have := hr.bar I O hk; rw [← this.2.2.2.1]; exact this.1
        | calm => exact Nat.le_refl _
        | free I O => exact (hr.free I O hk).2.2.2.2.2
      · rw [hc i (by omega)]; exact Nat.le_refl _
theorem bsU_nx {ops : List Oper} {h0 : Hp} {f : Rcs} {c : Nat} (h : c = 0 ∨ ∃ d, c = d + 1 ∧ (f d).2.isBar = true) : (bsU h0 f c).nx = nxU h0 f c := by
  rcases h with rfl | ⟨d, rfl, hd⟩
  · rfl
  · show ((f d).2.bs (bsU h0 f d)).nx = (f d).2.nx (nxU h0 f d)
    revert hd
    cases (f d).2 with
    | bar I O => intro _; rfl
    | calm => intro h; cases h
    | free I O => intro h; cases h
end Go.Ev
