/- The evaluator's regions: operations in whatever order: what is written down of a run. -/
import Derived.Test.YtbeoeghcmabemaaGreatDoorEvT
set_option linter.unusedVariables false
set_option linter.unusedSectionVars false
set_option linter.unusedSimpArgs false
namespace Go.Ev
variable [Sg] [Sl]
open Go.RowKit
variable {P : Program}

/-- What an operation does to memory: one that all are held against, one that leaves what was there, one that makes memory, one that writes one block. -/
inductive Kind where
  | bar | gen | mk | spot
def Kind.wr : Kind → Bool
  | .bar => true
  | .spot => true
  | _ => false
inductive Kd where
  | calm
  | act (q : Kind) (I O : Hp)
abbrev Rcs := Nat → Option AV × Kd
def dstAt (ops : List Oper) (i : Nat) : Option Tmp := (ops[i]?).bind (·.dst)
/-- The temporaries behind those of a set. -/
def cvS (cv0 : Cv) (ops : List Oper) (f : Rcs) (S : Nat → Bool) : Nat → Cv
  | 0 => cv0
  | i + 1 => if S i = true then updO (cvS cv0 ops f S i) (dstAt ops i) (f i).1 else cvS cv0 ops f S i
def cvU (cv0 : Cv) (ops : List Oper) (f : Rcs) : Nat → Cv
  | 0 => cv0
  | i + 1 => updO (cvU cv0 ops f i) (dstAt ops i) (f i).1
def Kd.nx (n : Nat) : Kd → Nat
  | .calm => n
  | .act _ _ O => O.nx
def Kd.lo (l : Nat) : Kd → Nat
  | .act .bar _ O => O.lo
  | .act .spot _ O => min l O.lo
  | _ => l
def Kd.isBar : Kd → Bool
  | .act .bar _ _ => true
  | _ => false
def Kd.isCalm : Kd → Bool
  | .calm => true
  | _ => false
def Kd.isMk : Kd → Bool
  | .act .mk _ _ => true
  | _ => false
def Kd.isSpot : Kd → Bool
  | .act .spot _ _ => true
  | _ => false
def Kd.wr : Kd → Bool
  | .act q _ _ => q.wr
  | _ => false
def Kd.has : Kd → Nat → Prop
  | .act _ I _, b => ∃ x, I.tr.get (path b) = some x
  | .calm, _ => False
noncomputable def Kd.out : Kd → Nat → Option Blk
  | .act _ _ O, b => O.tr.get (path b)
  | .calm, _ => none
def nxU (h0 : Hp) (f : Rcs) : Nat → Nat
  | 0 => h0.nx
  | i + 1 => (f i).2.nx (nxU h0 f i)
def loU (h0 : Hp) (f : Rcs) : Nat → Nat
  | 0 => h0.lo
  | i + 1 => (f i).2.lo (loU h0 f i)
/-- May this one lay a block? -/
def May (h0 : Hp) (f : Rcs) (i b : Nat) : Prop := (f i).2.isCalm = false ∧ (((f i).2.wr = true ∧ (f i).2.has b) ∨ (nxU h0 f i ≤ b ∧ b < nxU h0 f (i + 1)))
/-- A block behind those of a set: who laid it. -/
structure At (h0 : Hp) (f : Rcs) (S : Nat → Bool) (b : Nat) (x : Blk) (j : Nat) : Prop where
  src : (j = 0 ∧ h0.tr.get (path b) = some x) ∨ ∃ i, j = i + 1 ∧ S i = true ∧ May h0 f i b ∧ (f i).2.out b = some x
  last : ∀ k, j ≤ k → S k = true → ¬ May h0 f k b
/-- What comes out of an operation, as it must. -/
def DomK (k : Kd) : Prop := ∀ q I O, k = .act q I O → (∀ b x, O.tr.get (path b) = some x → b < O.nx) ∧ (∀ b x, b < I.nx → O.tr.get (path b) = some x → ∃ y, I.tr.get (path b) = some y) ∧ O.lo ≤ I.lo
/-- What is known of those of a set. -/
structure Kn (h0 : Hp) (f : Rcs) (A : Nat → Bool) : Prop where
  h0 : ∀ b x, h0.tr.get (path b) = some x → b < h0.nx
  ex : ∀ k, A k = true → DomK (f k).2
abbrev ancS (bf : List Nat) (i : Nat) : Nat → Bool := fun j => inMask (bf.getD i 0) j
def Down (bf : List Nat) (S : Nat → Bool) : Prop := ∀ k j, S k = true → inMask (bf.getD k 0) j = true → S j = true
def CalmAt (P : Program) (ops : List Oper) (o : Oper) (cv : Cv) (out : Option AV) : Prop :=
  (wantedA ops cv o = some true ∧ ∃ v xs, out = some v ∧ opnds P cv o.op.operands.toList = some xs ∧ ∀ h, OpHoldsG P o xs h v h) ∨
  (wantedA ops cv o = some false ∧ out = some (.tup [])) ∨
  (o.guard = none ∧ ∃ t, o.op = .move (.tmp t) ∧ out = cv t)
/-- What is read is the same, whichever were carried out. -/
structure ReadIn (P : Program) (o : Oper) (xs : List AV) (v : AV) (H : Hp) : Prop where
  nx : H.nx ≤ bigN
  does : ∃ O, O.nx = bigN ∧ O.lo = bigN ∧ OpHoldsG P o xs (.mk H.tr bigN bigN) v O
def ReadTo (P : Program) (ops : List Oper) (bf : List Nat) (cv0 : Cv) (h0 : Hp) (f : Rcs) (m i : Nat) (o : Oper) : Prop :=
  wantedA ops (cvU cv0 ops f i) o = some true ∧ ∃ v xs, (f i).1 = some v ∧ opnds P (cvU cv0 ops f i) o.op.operands.toList = some xs ∧ lowA (nxU h0 f i) v = true ∧ nxU h0 f i ≤ bigN ∧
    ∀ S, (∀ k, S k = true → k < m) → Down bf S → Kn h0 f S → (∀ j, inMask (bf.getD i 0) j = true → S j = true) → S i = false →
      ∃ H, ReadIn P o xs v H ∧ ∀ b x, H.tr.get (path b) = some x → ∃ j, At h0 f S b x j ∧ nxU h0 f j ≤ bigN
/-- What is written down of an operation holds. -/
structure RcAt (P : Program) (ops : List Oper) (bf : List Nat) (cv0 : Cv) (h0 : Hp) (f : Rcs) (m i : Nat) (o : Oper) : Prop where
  calm : (f i).2 = .calm → CalmAt P ops o (cvU cv0 ops f i) (f i).1 ∨ ReadTo P ops bf cv0 h0 f m i o
  act : ∀ q I O, (f i).2 = .act q I O → (∃ v, (f i).1 = some v ∧ wantedA ops (cvU cv0 ops f i) o = some true ∧ Acts P o (cvU cv0 ops f i) I v O) ∧ I.nx = nxU h0 f i ∧ nxU h0 f i ≤ O.nx
  lo : ∀ q I O, (f i).2 = .act q I O → (q = .bar → I.lo = loU h0 f i) ∧ (q ≠ .bar → I.lo = nxU h0 f i) ∧ (q.wr = false → nxU h0 f i ≤ O.lo)
  src : ∀ q I O, (f i).2 = .act q I O → Kn h0 f (ancS bf i) → ∀ b x, I.tr.get (path b) = some x → ∃ j, j ≤ i ∧ At h0 f (ancS bf i) b x j
  apart : ∀ k, k < i → (f k).2.isCalm = false → (f i).2.isCalm = false → inMask (bf.getD i 0) k = false → ∀ b, (f i).2.has b → (f k).2.has b → (f i).2.wr = false ∧ (f k).2.wr = false

theorem cvS_agree {cv0 : Cv} {ops : List Oper} {f : Rcs} {S : Nat → Bool} {i t : Nat} (h : ∀ k, S k ≠ decide (k < i) → dstAt ops k ≠ some t) : ∀ n, cvS cv0 ops f S n t = cvU cv0 ops f (min n i) t
  | 0 => by simp [cvS, cvU]
  | n + 1 => by
    have ih := cvS_agree (cv0 := cv0) (f := f) h n
    have up : ∀ (cv : Cv) v, dstAt ops n ≠ some t → updO cv (dstAt ops n) v t = cv t := fun cv v hd => by
      unfold updO
      cases he : dstAt ops n with
      | none => rfl
      | some d => dsimp only; rw [if_neg (fun e => hd (by rw [he, e]))]
    unfold cvS
    by_cases hlt : n < i
    · rw [show min (n + 1) i = n + 1 by omega]
      rw [show min n i = n by omega] at ih
      unfold cvU
      by_cases hS : S n = true
      · rw [if_pos hS]
        by_cases hd : dstAt ops n = some t
        · rw [hd]; show (if t = t then _ else _) = (if t = t then _ else _); rw [if_pos rfl, if_pos rfl]
        · rw [up _ _ hd, up _ _ hd]; exact ih
      · rw [if_neg hS, up _ _ (h n (by simp [hlt, hS]))]; exact ih
    · rw [show min (n + 1) i = min n i by omega]
      by_cases hS : S n = true
      · rw [if_pos hS, up _ _ (h n (by simp [hlt, hS]))]; exact ih
      · rw [if_neg hS]; exact ih
theorem cvS_all {cv0 : Cv} {ops : List Oper} {f : Rcs} {S : Nat → Bool} {n : Nat} (h : ∀ k, k < n → S k = true) : ∀ m, m ≤ n → cvS cv0 ops f S m = cvU cv0 ops f m
  | 0, _ => rfl
  | m + 1, hm => by unfold cvS cvU; rw [if_pos (h m (by omega)), cvS_all h m (by omega)]
def addS (S : Nat → Bool) (i : Nat) : Nat → Bool := fun k => S k || decide (k = i)
theorem cvS_add {cv0 : Cv} {ops : List Oper} {f : Rcs} {S : Nat → Bool} {i : Nat} (hi : S i = false) (h : ∀ k, i < k → S k = true → dstAt ops i ≠ none → dstAt ops k ≠ dstAt ops i) : ∀ n t, cvS cv0 ops f (addS S i) n t = if i < n then updO (cvS cv0 ops f S n) (dstAt ops i) (f i).1 t else cvS cv0 ops f S n t
  | 0, t => by simp [cvS]
  | n + 1, t => by
    have ih := cvS_add (cv0 := cv0) (f := f) hi h n
    by_cases hin : i = n
    · subst hin
      rw [if_pos (Nat.lt_succ_self i)]
      unfold cvS
      rw [if_pos (by simp [addS]), if_neg (by rw [hi]; simp)]
      unfold updO
      cases hd : dstAt ops i with
      | none => dsimp only; rw [ih t, if_neg (Nat.lt_irrefl i)]
      | some d => dsimp only; rw [ih t, if_neg (Nat.lt_irrefl i)]
    · have ha : addS S i n = S n := by unfold addS; rw [decide_eq_false (fun e : n = i => hin e.symm), Bool.or_false]
      by_cases hlt : i < n
      · rw [if_pos (by omega)]
        unfold cvS
        rw [ha]
        by_cases hS : S n = true
        · rw [if_pos hS, if_pos hS]
          have hne := h n hlt hS
          have ih' := ih t
          rw [if_pos hlt] at ih'
          unfold updO at ih' ⊢
          cases hd : dstAt ops i with
          | none =>
            rw [hd] at ih'
            cases hdn : dstAt ops n with
            | none => exact ih'
            | some d => dsimp only; rw [ih']
          | some d =>
            rw [hd] at ih'
            dsimp only at ih' ⊢
            cases hdn : dstAt ops n with
            | none => exact ih'
            | some d' =>
              dsimp only
              have hdd : d' ≠ d := fun e => hne (by rw [hd]; simp) (by rw [hdn, hd, e])
              by_cases e : t = d'
              · subst e; rw [if_pos rfl, if_neg hdd, if_pos rfl]
              · rw [if_neg e, if_neg e]; exact ih'
        · rw [if_neg hS, if_neg hS]
          have ih' := ih t
          rw [if_pos hlt] at ih'
          exact ih'
      · rw [if_neg (by omega)]
        have ih' := ih t
        rw [if_neg hlt] at ih'
        unfold cvS
        rw [ha]
        by_cases hS : S n = true
        · rw [if_pos hS, if_pos hS]
          unfold updO
          cases dstAt ops n with
          | none => exact ih'
          | some d' => dsimp only; rw [ih']
        · rw [if_neg hS, if_neg hS]; exact ih'
theorem nxU_mono {ops : List Oper} {bf : List Nat} {cv0 : Cv} {h0 : Hp} {f : Rcs} {c m : Nat} (hf : ∀ i o, ops[i]? = some o → RcAt P ops bf cv0 h0 f m i o) (hc : ∀ i, ops.length ≤ i → (f i).2 = .calm) : ∀ i, c ≤ i → nxU h0 f c ≤ nxU h0 f i
  | 0, h => by rw [show c = 0 by omega]; exact Nat.le_refl _
  | i + 1, h => by
    by_cases e : c = i + 1
    · rw [e]; exact Nat.le_refl _
    · have ih := nxU_mono (c := c) hf hc i (by omega)
      refine Nat.le_trans ih ?_
      show _ ≤ (f i).2.nx (nxU h0 f i)
      by_cases hi : i < ops.length
      · obtain ⟨o, ho⟩ : ∃ o, ops[i]? = some o := ⟨_, List.getElem?_eq_getElem hi⟩
        have hr := hf i o ho
        cases hk : (f i).2 with
        | calm => exact Nat.le_refl _
        | act q I O => exact (hr.act q I O hk).2.2
      · rw [hc i (by omega)]; exact Nat.le_refl _
end Go.Ev
namespace Go.Ev
variable [Sg] [Sl]
open Go.RowKit
variable {P : Program}

def restr (β : Bt) (n : Nat) : Bt := fun b => if b < n then β b else none
theorem restr_lt {β : Bt} {n b : Nat} (h : b < n) : restr β n b = β b := if_pos h
theorem restr_ge {β : Bt} {n b : Nat} (h : n ≤ b) : restr β n b = none := if_neg (by omega)
theorem restr_some {β : Bt} {n b : Nat} {x : Nat × Nat} (h : restr β n b = some x) : b < n ∧ β b = some x := by
  by_cases hb : b < n
  · rw [restr_lt hb] at h; exact ⟨hb, h⟩
  · rw [restr_ge (by omega)] at h; cases h
theorem restr_le (β : Bt) (n : Nat) : Le (restr β n) β := fun b x h => (restr_some h).2
theorem restr_mono {β β' : Bt} {n m : Nat} (h : n ≤ m) (hl : Le β β') : Le (restr β n) (restr β' m) := fun b x e => by
  obtain ⟨h1, h2⟩ := restr_some e
  rw [restr_lt (by omega)]; exact hl _ _ h2
structure Ext (w w' : World) : Prop where
  os : w'.os = w.os
  tape : w'.tape = w.tape
  output : w'.output = w.output
  size : w.heap.size ≤ w'.heap.size
  block : ∀ c, c < w.heap.size → w'.heap[c]? = w.heap[c]?
theorem Ext.refl (w : World) : Ext w w := ⟨rfl, rfl, rfl, Nat.le_refl _, fun _ _ => rfl⟩
theorem Ext.trans {w w' w'' : World} (h : Ext w w') (h' : Ext w' w'') : Ext w w'' :=
  ⟨h'.os.trans h.os, h'.tape.trans h.tape, h'.output.trans h.output, Nat.le_trans h.size h'.size, fun c hc => (h'.block c (Nat.lt_of_lt_of_le hc h.size)).trans (h.block c hc)⟩
theorem Ext.kept {w w' : World} (h : Ext w w') (β : Bt) (t : Tr Blk) (lo : Nat) : Kept β t lo w w' := ⟨h.os, h.tape, h.output, h.size, fun c hc _ => h.block c hc⟩
theorem Kept.ext {β : Bt} {t : Tr Blk} {lo : Nat} {w w' : World} (h : Kept β t lo w w') (hn : ∀ b, lo ≤ b → β b = none) : Ext w w' :=
  ⟨h.os, h.tape, h.output, h.size, fun c hc => h.block c hc fun b κ hb e => by rw [hn b hb] at e; cases e⟩
theorem BlkR.some {β : Bt} {κ : Nat} {o : Option Obj} {x : Blk} (h : BlkR β κ o x) : ∃ y, o = some y := by
  cases x with
  | cells e len c ex esz => obtain ⟨cs, fz, h1, _⟩ := h; exact ⟨_, h1⟩
  | map es clock => obtain ⟨ms, h1, _⟩ := h; exact ⟨_, h1⟩
  | iter l p => exact ⟨_, h.1⟩
  | miter b s => obtain ⟨_, _, _, e2⟩ := h; exact ⟨_, e2⟩
theorem BlkR.lt {β : Bt} {κ c : Nat} {w : World} {x : Blk} (h : BlkR β κ w.heap[c]? x) : c < w.heap.size := by
  obtain ⟨y, e⟩ := h.some
  exact (Array.getElem?_eq_some_iff.1 e).1
theorem BlkR.ext {β : Bt} {κ c : Nat} {w w' : World} {x : Blk} (h : BlkR β κ w.heap[c]? x) (he : Ext w w') : BlkR β κ w'.heap[c]? x := by
  rw [he.block c h.lt]; exact h
def bdS (ops : List Oper) (S : Nat → Bool) (t : Nat) : Nat → Nat
  | 0 => 0
  | k + 1 => if S k = true ∧ dstAt ops k = some t then k + 1 else bdS ops S t k
theorem bdS_le {ops : List Oper} {S : Nat → Bool} {t : Nat} : ∀ n, bdS ops S t n ≤ n
  | 0 => Nat.le_refl _
  | n + 1 => by
    unfold bdS
    split
    · exact Nat.le_refl _
    · exact Nat.le_succ_of_le (bdS_le n)
theorem bdS_agree {ops : List Oper} {S : Nat → Bool} {i t : Nat} (h : ∀ k, S k ≠ decide (k < i) → dstAt ops k ≠ some t) : ∀ n, bdS ops S t n ≤ i
  | 0 => Nat.zero_le _
  | n + 1 => by
    unfold bdS
    split
    · rename_i hs
      have : S n = decide (n < i) := Classical.byContradiction fun hne => h n hne hs.2
      rw [hs.1] at this
      have := of_decide_eq_true this.symm
      omega
    · exact bdS_agree h n
theorem bdS_ge {ops : List Oper} {S : Nat → Bool} {i t : Nat} (hs : S i = true) (hd : dstAt ops i = some t) : ∀ n, i < n → i + 1 ≤ bdS ops S t n
  | 0, h => by omega
  | n + 1, h => by
    unfold bdS
    split
    · omega
    · rename_i hn
      by_cases e : i = n
      · subst e; exact absurd ⟨hs, hd⟩ hn
      · exact bdS_ge hs hd n (by omega)
theorem bdS_mono {ops : List Oper} {S S' : Nat → Bool} {t : Nat} (h : ∀ k, S k = true → S' k = true) : ∀ n, bdS ops S t n ≤ bdS ops S' t n
  | 0 => Nat.le_refl _
  | n + 1 => by
    unfold bdS
    split
    · rename_i hs; rw [if_pos ⟨h n hs.1, hs.2⟩]; exact Nat.le_refl _
    · split
      · exact Nat.le_succ_of_le (bdS_le n)
      · exact bdS_mono h n
/-- What is known of a region beforehand. -/
structure Rg (P : Program) (ops : List Oper) (bf : List Nat) (cv0 : Cv) (h0 : Hp) (f : Rcs) (N : Nat) : Prop where
  rc : ∀ i o, ops[i]? = some o → RcAt P ops bf cv0 h0 f ops.length i o
  out : ∀ i, ops.length ≤ i → (f i).2 = .calm
  dn : ∀ i o e, ops[i]? = some o → e ∈ o.after → Region.binds .any e = true → e.on < i
  bfs : ∀ i o j, ops[i]? = some o → inMask (bf.getD i 0) j = true → ∃ e ∈ o.after, Region.binds .any e = true ∧ (e.on = j ∨ inMask (bf.getD e.on 0) j = true)
  trs : ∀ i k j, inMask (bf.getD i 0) k = true → inMask (bf.getD k 0) j = true → inMask (bf.getD i 0) j = true
  lt : ∀ i j, inMask (bf.getD i 0) j = true → j < i
  ap : ∀ i j x y, i < j → ops[i]? = some x → ops[j]? = some y → inMask (bf.getD j 0) i = true ∨ apartB ops x y = true
  dst : ∀ i d, dstAt ops i = some d → d < N
  h0 : ∀ b x, h0.tr.get (path b) = some x → b < h0.nx
  bars : ∀ i k, (f i).2.isBar = true → (f k).2.isBar = true → k < i → inMask (bf.getD i 0) k = true
/-- As low as those of a set have written. -/
def LowB (f : Rcs) (S : Nat → Bool) (h0 : Hp) (l : Nat) : Prop := l ≤ h0.lo ∧ ∀ k q I O, S k = true → (f k).2 = .act q I O → l ≤ O.lo
structure Mid (h0 : Hp) (f : Rcs) (S : Nat → Bool) (β0 : Bt) (w0 : World) (β : Bt) (w : World) : Prop where
  blk : ∀ b x j, At h0 f S b x j → b < nxU h0 f j ∧ ∃ cb κ, β b = some (cb, κ) ∧ BlkR (restr β (nxU h0 f j)) κ w.heap[cb]? x
  inj : ∀ b b' x x' j j' c κ κ', At h0 f S b x j → At h0 f S b' x' j' → β b = some (c, κ) → β b' = some (c, κ') → b = b'
  old : ∀ b, b < h0.nx → β b = β0 b
  pre : ∀ b x j, At h0 f S b x j → b < h0.nx → ∃ y, h0.tr.get (path b) = some y
  dom : ∀ b y, β b = some y → b < h0.nx ∨ ∃ j, S j = true ∧ nxU h0 f j ≤ b ∧ b < nxU h0 f (j + 1)
  new : ∀ b c κ, h0.nx ≤ b → β b = some (c, κ) → ∀ l, LowB f S h0 l → w0.heap.size ≤ c ∨ ∃ x κ' y, l ≤ x ∧ x < h0.nx ∧ h0.tr.get (path x) = some y ∧ β0 x = some (c, κ')
  os : w.os = w0.os
  tape : w.tape = w0.tape
  output : w.output = w0.output
  size : w0.heap.size ≤ w.heap.size
  kept : ∀ l, LowB f S h0 l → ∀ c, c < w0.heap.size → (∀ b κ x, l ≤ b → h0.tr.get (path b) = some x → β0 b ≠ some (c, κ)) → w.heap[c]? = w0.heap[c]?
  exec : Kn h0 f S
section
variable {ops : List Oper} {bf : List Nat} {cv0 : Cv} {h0 : Hp} {f : Rcs} {N : Nat} {S : Nat → Bool} {β0 : Bt} {w0 : World} {β : Bt} {w : World}
theorem Rg.mono (rg : Rg P ops bf cv0 h0 f N) {i j : Nat} (h : i ≤ j) : nxU h0 f i ≤ nxU h0 f j := nxU_mono rg.rc rg.out j h
theorem Rg.at (rg : Rg P ops bf cv0 h0 f N) {i : Nat} (h : (f i).2.isCalm = false) : ∃ o, ops[i]? = some o := by
  by_cases hi : i < ops.length
  · exact ⟨_, List.getElem?_eq_getElem hi⟩
  · rw [rg.out i (by omega)] at h; cases h
theorem nxU_act {q : Kind} {I O : Hp} {i : Nat} (h : (f i).2 = .act q I O) : nxU h0 f (i + 1) = O.nx := by
  show (f i).2.nx _ = _
  rw [h]; rfl
/-- What is known of records, whatever is written down last. -/
structure Pt (bf : List Nat) (h0 : Hp) (f : Rcs) : Prop where
  mono : ∀ i j, i ≤ j → nxU h0 f i ≤ nxU h0 f j
  src : ∀ i q I O, (f i).2 = .act q I O → Kn h0 f (ancS bf i) → ∀ b x, I.tr.get (path b) = some x → ∃ j, j ≤ i ∧ At h0 f (ancS bf i) b x j
  ap : ∀ i k, k < i → (f k).2.isCalm = false → (f i).2.isCalm = false → inMask (bf.getD i 0) k = false → ∀ b, (f i).2.has b → (f k).2.has b → (f i).2.wr = false ∧ (f k).2.wr = false
  trs : ∀ i k j, inMask (bf.getD i 0) k = true → inMask (bf.getD k 0) j = true → inMask (bf.getD i 0) j = true
  lt : ∀ i j, inMask (bf.getD i 0) j = true → j < i
theorem Rg.pt (rg : Rg P ops bf cv0 h0 f N) : Pt bf h0 f :=
  ⟨fun i j h => rg.mono h, fun i q I O hi => by obtain ⟨o, ho⟩ := rg.at (i := i) (by rw [hi]; rfl); exact (rg.rc i o ho).src q I O hi,
    fun i k h hk hi => by obtain ⟨o, ho⟩ := rg.at hi; exact (rg.rc i o ho).apart k h hk hi, rg.trs, rg.lt⟩
theorem Pt.apart (pt : Pt bf h0 f) {i k : Nat} (hne : k ≠ i) (hi : (f i).2.isCalm = false) (hk : (f k).2.isCalm = false) (h1 : inMask (bf.getD i 0) k = false) (h2 : inMask (bf.getD k 0) i = false) {b : Nat} (hb : (f i).2.has b) (hb' : (f k).2.has b) : (f i).2.wr = false ∧ (f k).2.wr = false := by
  rcases Nat.lt_or_gt_of_ne hne with h | h
  · exact pt.ap i k h hk hi h1 b hb hb'
  · exact (pt.ap k i h hi hk h2 b hb' hb).symm
/-- Ranges of numbers are apart. -/
theorem Pt.range (pt : Pt bf h0 f) {i k b : Nat} (h1 : nxU h0 f i ≤ b) (h2 : b < nxU h0 f (i + 1)) (h3 : nxU h0 f k ≤ b) (h4 : b < nxU h0 f (k + 1)) : i = k := by
  rcases Nat.lt_trichotomy i k with h | h | h
  · have := pt.mono (i + 1) k h; omega
  · exact h
  · have := pt.mono (k + 1) i h; omega
theorem Kn.sub {A B : Nat → Bool} (kn : Kn h0 f A) (h : ∀ k, B k = true → A k = true) : Kn h0 f B := ⟨kn.h0, fun k hk => kn.ex k (h k hk)⟩
theorem Kn.anc (pt : Pt bf h0 f) {i k : Nat} (kn : Kn h0 f (ancS bf i)) (h : inMask (bf.getD i 0) k = true) : Kn h0 f (ancS bf k) := kn.sub fun j hj => pt.trs i k j h hj
theorem Kn.down {S : Nat → Bool} (kn : Kn h0 f S) (hd : Down bf S) {k : Nat} (h : S k = true) : Kn h0 f (ancS bf k) := kn.sub fun j hj => hd k j h hj
/-- A new block is known only behind the one that made it. -/
theorem Pt.own (pt : Pt bf h0 f) : ∀ (i k b : Nat), Kn h0 f (ancS bf i) → (f i).2.has b → nxU h0 f k ≤ b → b < nxU h0 f (k + 1) → inMask (bf.getD i 0) k = true := by
  intro i
  induction i using Nat.strongRecOn with
  | _ i ih =>
    intro k b kn hb h1 h2
    cases hk : (f i).2 with
    | calm => rw [hk] at hb; exact hb.elim
    | act q I O =>
      rw [hk] at hb
      obtain ⟨x, hx⟩ := hb
      obtain ⟨j, -, at_⟩ := pt.src i q I O hk kn b x hx
      rcases at_.src with ⟨-, h⟩ | ⟨i', -, hi', hm, -⟩
      · have := kn.h0 b x h
        have := pt.mono 0 k (Nat.zero_le k)
        have e : nxU h0 f 0 = h0.nx := rfl
        omega
      · rcases hm.2 with ⟨-, h⟩ | ⟨h, h'⟩
        · exact pt.trs i i' k hi' (ih i' (pt.lt i i' hi') k b (kn.anc pt hi') h h1 h2)
        · rw [← pt.range h h' h1 h2]; exact hi'
theorem At.own (pt : Pt bf h0 f) (hd : Down bf S) (kn : Kn h0 f S) {b : Nat} {x : Blk} {j k : Nat} (a : At h0 f S b x j) (h1 : nxU h0 f k ≤ b) (h2 : b < nxU h0 f (k + 1)) : S k = true := by
  rcases a.src with ⟨-, h⟩ | ⟨i', -, hi', hm, -⟩
  · have := kn.h0 b x h
    have := pt.mono 0 k (Nat.zero_le k)
    have e : nxU h0 f 0 = h0.nx := rfl
    omega
  · rcases hm.2 with ⟨-, h⟩ | ⟨h, h'⟩
    · exact hd i' k hi' (pt.own i' k b (kn.down hd hi') h h1 h2)
    · rw [← pt.range h h' h1 h2]; exact hi'
/-- What an operation finds is there whichever others were carried out. -/
theorem Pt.there (pt : Pt bf h0 f) (hd : Down bf S) (kn : Kn h0 f S) {i : Nat} {q : Kind} {I O : Hp} (hi : (f i).2 = .act q I O) (hs : ∀ j, inMask (bf.getD i 0) j = true → S j = true) (hn : S i = false) {b : Nat} {x : Blk} (hb : I.tr.get (path b) = some x) : ∃ j, j ≤ i ∧ At h0 f S b x j := by
  have kni : Kn h0 f (ancS bf i) := kn.sub hs
  obtain ⟨j, hj, a⟩ := pt.src i q I O hi kni b x hb
  have has : (f i).2.has b := by rw [hi]; exact ⟨x, hb⟩
  refine ⟨j, hj, a.src.imp id fun ⟨i', h1, h2, h3⟩ => ⟨i', h1, hs i' h2, h3⟩, fun k hk hS hm => ?_⟩
  cases hm2 : inMask (bf.getD i 0) k with
  | true => exact a.last k hk hm2 hm
  | false =>
    rcases hm.2 with ⟨h1, h2⟩ | ⟨h1, h2⟩
    · have hne : k ≠ i := fun e => by rw [e, hn] at hS; cases hS
      have hki : inMask (bf.getD k 0) i = false := by
        cases h : inMask (bf.getD k 0) i with
        | false => rfl
        | true => rw [hd k i hS h] at hn; cases hn
      have := (pt.apart hne (by rw [hi]; rfl) hm.1 hm2 hki has h2).2
      rw [this] at h1; cases h1
    · rw [pt.own i k b kni has h1 h2] at hm2; cases hm2
/-- Memory, as an operation finds it. -/
theorem Mid.hr (rg : Rg P ops bf cv0 h0 f N) (m : Mid h0 f S β0 w0 β w) {n : Nat} {t : Tr Blk} (ht : ∀ b x, t.get (path b) = some x → ∃ j, At h0 f S b x j ∧ nxU h0 f j ≤ n) {lo : Nat} (hlo : lo ≤ n) : HR (restr β n) (.mk t n lo) w := by
  refine ⟨fun b x hb => ?_, fun b b' x x' c κ κ' hb hb' e e' => ?_, fun b hb => restr_ge hb, hlo⟩
  · obtain ⟨j, a, hj⟩ := ht b x hb
    obtain ⟨h1, cb, κ, h2, h3⟩ := m.blk b x j a
    have hbn : b < n := by omega
    exact ⟨hbn, cb, κ, by rw [restr_lt hbn]; exact h2, h3.mono (restr_mono hj (.refl β))⟩
  · obtain ⟨j, a, -⟩ := ht b x hb
    obtain ⟨j', a', -⟩ := ht b' x' hb'
    exact m.inj b b' x x' j j' c κ κ' a a' (restr_some e).2 (restr_some e').2
end
end Go.Ev
