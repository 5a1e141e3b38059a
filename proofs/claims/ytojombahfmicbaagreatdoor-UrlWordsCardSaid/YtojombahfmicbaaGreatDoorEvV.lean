/- The evaluator's regions: operations in whatever order: what is written down of a run. -/
import Derived.Test.YtojombahfmicbaaGreatDoorEvT
set_option linter.unusedVariables false
set_option linter.unusedSectionVars false
set_option linter.unusedSimpArgs false
namespace Go.Ev
variable [Sg] [Sl]
open Go.RowKit
variable {P : Program}

/-- What an operation does to memory. -/
inductive Kd where
  | calm
  | bar (I O : Hp)
  | free (I O : Hp)
abbrev Rcs := Nat → Option AV × Kd
def dstAt (ops : List Oper) (i : Nat) : Option Tmp := (ops[i]?).bind (·.dst)
/-- The temporaries behind those of a set. -/
def cvS (cv0 : Cv) (ops : List Oper) (f : Rcs) (S : Nat → Bool) : Nat → Cv
  | 0 => cv0
  | i + 1 => if S i = true then updO (cvS cv0 ops f S i) (dstAt ops i) (f i).1 else cvS cv0 ops f S i
def cvU (cv0 : Cv) (ops : List Oper) (f : Rcs) : Nat → Cv
  | 0 => cv0
  | i + 1 => updO (cvU cv0 ops f i) (dstAt ops i) (f i).1
def Kd.nx (n : Nat) : Kd → Nat
  | .calm => n
  | .bar _ O => O.nx
  | .free _ O => O.nx
def Kd.bs (h : Hp) : Kd → Hp
  | .bar _ O => O
  | _ => h
def Kd.isBar : Kd → Bool
  | .bar _ _ => true
  | _ => false
def Kd.isCalm : Kd → Bool
  | .calm => true
  | _ => false
def nxU (h0 : Hp) (f : Rcs) : Nat → Nat
  | 0 => h0.nx
  | i + 1 => (f i).2.nx (nxU h0 f i)
def bsU (h0 : Hp) (f : Rcs) : Nat → Hp
  | 0 => h0
  | i + 1 => (f i).2.bs (bsU h0 f i)
/-- Whence blocks come: from the last bar, or from free operations behind it. -/
def Src (f : Rcs) (p : Nat → Bool) (i : Nat) (base : Hp) (t : Tr Blk) : Prop :=
  ∀ b x, t.get (path b) = some x → base.tr.get (path b) = some x ∨ ∃ j I O, j < i ∧ p j = true ∧ (f j).2 = .free I O ∧ (∀ k, j ≤ k → k < i → (f k).2.isBar = false) ∧ I.nx ≤ b ∧ b < O.nx ∧ O.tr.get (path b) = some x
def CalmAt (P : Program) (ops : List Oper) (o : Oper) (cv : Cv) (out : Option AV) : Prop :=
  (wantedA ops cv o = some true ∧ ∃ v xs, out = some v ∧ opnds P cv o.op.operands.toList = some xs ∧ ∀ h, OpHoldsG P o xs h v h) ∨
  (wantedA ops cv o = some false ∧ out = some (.tup [])) ∨
  (o.guard = none ∧ ∃ t, o.op = .move (.tmp t) ∧ out = cv t)
def CutAt (f : Rcs) (c : Nat) : Prop := c = 0 ∨ ∃ d, c = d + 1 ∧ (f d).2.isBar = true
/-- What is read is the same in each memory, from bar to bar. -/
structure ReadIn (P : Program) (o : Oper) (xs : List AV) (v : AV) (H : Hp) : Prop where
  nx : H.nx ≤ bigN
  does : ∃ O, O.nx = bigN ∧ O.lo = bigN ∧ OpHoldsG P o xs (.mk H.tr bigN bigN) v O
def ReadTo (P : Program) (ops : List Oper) (bf : List Nat) (cv0 : Cv) (h0 : Hp) (f : Rcs) (m i : Nat) (o : Oper) : Prop :=
  wantedA ops (cvU cv0 ops f i) o = some true ∧ ∃ v xs, (f i).1 = some v ∧ opnds P (cvU cv0 ops f i) o.op.operands.toList = some xs ∧ lowA (nxU h0 f i) v = true ∧ nxU h0 f i ≤ bigN ∧
    ∀ c, c ≤ m → CutAt f c → (∀ k, (f k).2.isBar = true → inMask (bf.getD i 0) k = true → k < c) → (∀ k, k < c → (f k).2.isBar = true → inMask (bf.getD k 0) i = false) → ReadIn P o xs v (.mk (bsU h0 f c).tr (nxU h0 f c) 0)
/-- What is written down of an operation holds. -/
structure RcAt (P : Program) (ops : List Oper) (bf : List Nat) (cv0 : Cv) (h0 : Hp) (f : Rcs) (m i : Nat) (o : Oper) : Prop where
  calm : (f i).2 = .calm → CalmAt P ops o (cvU cv0 ops f i) (f i).1 ∨ ReadTo P ops bf cv0 h0 f m i o
  bar : ∀ I O, (f i).2 = .bar I O → I.nx ≤ O.nx ∧ (∃ v, (f i).1 = some v ∧ Does P ops o (cvU cv0 ops f i) I v O) ∧ Src f (fun _ => true) i (bsU h0 f i) I.tr ∧ I.nx = nxU h0 f i ∧ I.lo = (bsU h0 f i).lo
  free : ∀ I O, (f i).2 = .free I O → (∃ v, (f i).1 = some v ∧ wantedA ops (cvU cv0 ops f i) o = some true ∧ Acts P o (cvU cv0 ops f i) I v O) ∧ Src f (fun j => inMask (bf.getD i 0) j) i (bsU h0 f i) I.tr ∧ I.nx = nxU h0 f i ∧ I.lo = nxU h0 f i ∧ O.lo = nxU h0 f i ∧ nxU h0 f i ≤ O.nx
  ord : (f i).2.isCalm = false → ∀ j, j < i → (f j).2.isCalm = false → ((f i).2.isBar = true ∨ (f j).2.isBar = true) → inMask (bf.getD i 0) j = true

theorem cvS_agree {cv0 : Cv} {ops : List Oper} {f : Rcs} {S : Nat → Bool} {i t : Nat} (h : ∀ k, S k ≠ decide (k < i) → dstAt ops k ≠ some t) : ∀ n, cvS cv0 ops f S n t = cvU cv0 ops f (min n i) t
  | 0 => by simp [cvS, cvU]
  | n + 1 => by
    have ih := cvS_agree (cv0 := cv0) (f := f) h n
    have up : ∀ (cv : Cv) v, dstAt ops n ≠ some t → updO cv (dstAt ops n) v t = cv t := fun cv v hd => by
      unfold updO
      cases he : dstAt ops n with
      | none => rfl
      | some d => dsimp only; rw [if_neg (fun e => hd (by rw [he, e]))]
    unfold cvS
    by_cases hlt : n < i
    · rw [show min (n + 1) i = n + 1 by omega]
      rw [show min n i = n by omega] at ih
      unfold cvU
      by_cases hS : S n = true
      · rw [if_pos hS]
        by_cases hd : dstAt ops n = some t
        · rw [hd]; show (if t = t then _ else _) = (if t = t then _ else _); rw [if_pos rfl, if_pos rfl]
        · rw [up _ _ hd, up _ _ hd]; exact ih
      · rw [if_neg hS, up _ _ (h n (by simp [hlt, hS]))]; exact ih
    · rw [show min (n + 1) i = min n i by omega]
      by_cases hS : S n = true
      · rw [if_pos hS, up _ _ (h n (by simp [hlt, hS]))]; exact ih
      · rw [if_neg hS]; exact ih
theorem cvS_all {cv0 : Cv} {ops : List Oper} {f : Rcs} {S : Nat → Bool} {n : Nat} (h : ∀ k, k < n → S k = true) : ∀ m, m ≤ n → cvS cv0 ops f S m = cvU cv0 ops f m
  | 0, _ => rfl
  | m + 1, hm => by unfold cvS cvU; rw [if_pos (h m (by omega)), cvS_all h m (by omega)]
def addS (S : Nat → Bool) (i : Nat) : Nat → Bool := fun k => S k || decide (k = i)
theorem cvS_add {cv0 : Cv} {ops : List Oper} {f : Rcs} {S : Nat → Bool} {i : Nat} (hi : S i = false) (h : ∀ k, i < k → S k = true → dstAt ops i ≠ none → dstAt ops k ≠ dstAt ops i) : ∀ n t, cvS cv0 ops f (addS S i) n t = if i < n then updO (cvS cv0 ops f S n) (dstAt ops i) (f i).1 t else cvS cv0 ops f S n t
  | 0, t => by simp [cvS]
  | n + 1, t => by
    have ih := cvS_add (cv0 := cv0) (f := f) hi h n
    by_cases hin : i = n
    · subst hin
      rw [if_pos (Nat.lt_succ_self i)]
      unfold cvS
      rw [if_pos (by simp [addS]), if_neg (by rw [hi]; simp)]
      unfold updO
      cases hd : dstAt ops i with
      | none => dsimp only; rw [ih t, if_neg (Nat.lt_irrefl i)]
      | some d => dsimp only; rw [ih t, if_neg (Nat.lt_irrefl i)]
    · have ha : addS S i n = S n := by unfold addS; rw [decide_eq_false (fun e : n = i => hin e.symm), Bool.or_false]
      by_cases hlt : i < n
      · rw [if_pos (by omega)]
        unfold cvS
        rw [ha]
        by_cases hS : S n = true
        · rw [if_pos hS, if_pos hS]
          have hne := h n hlt hS
          have ih' := ih t
          rw [if_pos hlt] at ih'
          unfold updO at ih' ⊢
          cases hd : dstAt ops i with
          | none =>
            rw [hd] at ih'
            cases hdn : dstAt ops n with
            | none => exact ih'
            | some d => dsimp only; rw [ih']
          | some d =>
            rw [hd] at ih'
            dsimp only at ih' ⊢
            cases hdn : dstAt ops n with
            | none => exact ih'
            | some d' =>
              dsimp only
              have hdd : d' ≠ d := fun e => hne (by rw [hd]; simp) (by rw [hdn, hd, e])
              by_cases e : t = d'
              · subst e; rw [if_pos rfl, if_neg hdd, if_pos rfl]
              · rw [if_neg e, if_neg e]; exact ih'
        · rw [if_neg hS, if_neg hS]
          have ih' := ih t
          rw [if_pos hlt] at ih'
          exact ih'
      · rw [if_neg (by omega)]
        have ih' := ih t
        rw [if_neg hlt] at ih'
        unfold cvS
        rw [ha]
        by_cases hS : S n = true
        · rw [if_pos hS, if_pos hS]
          unfold updO
          cases dstAt ops n with
          | none => exact ih'
          | some d' => dsimp only; rw [ih']
        · rw [if_neg hS, if_neg hS]; exact ih'
theorem bsU_const {h0 : Hp} {f : Rcs} {c : Nat} : ∀ i, c ≤ i → (∀ k, c ≤ k → k < i → (f k).2.isBar = false) → bsU h0 f i = bsU h0 f c
  | 0, hc, _ => by rw [show c = 0 by omega]
  | i + 1, hc, h => by
    by_cases e : c = i + 1
    · rw [e]
    · have h1 := h i (by omega) (Nat.lt_succ_self i)
      have ih := bsU_const (h0 := h0) (f := f) (c := c) i (by omega) (fun k a b => h k a (by omega))
      show (f i).2.bs (bsU h0 f i) = _
      revert h1
      cases (f i).2 with
      | bar I O => intro h1; cases h1
      | calm => intro _; exact ih
      | free I O => intro _; exact ih
theorem nxU_mono {ops : List Oper} {bf : List Nat} {cv0 : Cv} {h0 : Hp} {f : Rcs} {c m : Nat} (hf : ∀ i o, ops[i]? = some o → RcAt P ops bf cv0 h0 f m i o) (hc : ∀ i, ops.length ≤ i → (f i).2 = .calm) : ∀ i, c ≤ i → nxU h0 f c ≤ nxU h0 f i
  | 0, h => by rw [show c = 0 by omega]; exact Nat.le_refl _
  | i + 1, h => by
    by_cases e : c = i + 1
    · rw [e]; exact Nat.le_refl _
    · have ih := nxU_mono (c := c) hf hc i (by omega)
      refine Nat.le_trans ih ?_
      show _ ≤ (f i).2.nx (nxU h0 f i)
      by_cases hi : i < ops.length
      · obtain ⟨o, ho⟩ : ∃ o, ops[i]? = some o := ⟨_, List.getElem?_eq_getElem hi⟩
        have hr := hf i o ho
        cases hk : (f i).2 with
        | bar I O => have := hr.bar I O hk; rw [← this.2.2.2.1]; exact this.1
        | calm => exact Nat.le_refl _
        | free I O => exact (hr.free I O hk).2.2.2.2.2
      · rw [hc i (by omega)]; exact Nat.le_refl _
theorem bsU_nx {ops : List Oper} {h0 : Hp} {f : Rcs} {c : Nat} (h : c = 0 ∨ ∃ d, c = d + 1 ∧ (f d).2.isBar = true) : (bsU h0 f c).nx = nxU h0 f c := by
  rcases h with rfl | ⟨d, rfl, hd⟩
  · rfl
  · show ((f d).2.bs (bsU h0 f d)).nx = (f d).2.nx (nxU h0 f d)
    revert hd
    cases (f d).2 with
    | bar I O => intro _; rfl
    | calm => intro h; cases h
    | free I O => intro h; cases h
end Go.Ev
namespace Go.Ev
variable [Sg] [Sl]
open Go.RowKit
variable {P : Program}

def restr (β : Bt) (n : Nat) : Bt := fun b => if b < n then β b else none
theorem restr_lt {β : Bt} {n b : Nat} (h : b < n) : restr β n b = β b := if_pos h
theorem restr_ge {β : Bt} {n b : Nat} (h : n ≤ b) : restr β n b = none := if_neg (by omega)
theorem restr_some {β : Bt} {n b : Nat} {x : Nat × Nat} (h : restr β n b = some x) : b < n ∧ β b = some x := by
  by_cases hb : b < n
  · rw [restr_lt hb] at h; exact ⟨hb, h⟩
  · rw [restr_ge (by omega)] at h; cases h
theorem restr_le (β : Bt) (n : Nat) : Le (restr β n) β := fun b x h => (restr_some h).2
theorem restr_mono {β β' : Bt} {n m : Nat} (h : n ≤ m) (hl : Le β β') : Le (restr β n) (restr β' m) := fun b x e => by
  obtain ⟨h1, h2⟩ := restr_some e
  rw [restr_lt (by omega)]; exact hl _ _ h2
structure Ext (w w' : World) : Prop where
  os : w'.os = w.os
  tape : w'.tape = w.tape
  output : w'.output = w.output
  size : w.heap.size ≤ w'.heap.size
  block : ∀ c, c < w.heap.size → w'.heap[c]? = w.heap[c]?
theorem Ext.refl (w : World) : Ext w w := ⟨rfl, rfl, rfl, Nat.le_refl _, fun _ _ => rfl⟩
theorem Ext.trans {w w' w'' : World} (h : Ext w w') (h' : Ext w' w'') : Ext w w'' :=
  ⟨h'.os.trans h.os, h'.tape.trans h.tape, h'.output.trans h.output, Nat.le_trans h.size h'.size, fun c hc => (h'.block c (Nat.lt_of_lt_of_le hc h.size)).trans (h.block c hc)⟩
theorem Ext.kept {w w' : World} (h : Ext w w') (β : Bt) (lo : Nat) : Kept β lo w w' := ⟨h.os, h.tape, h.output, h.size, fun c hc _ => h.block c hc⟩
theorem Kept.ext {β : Bt} {lo : Nat} {w w' : World} (h : Kept β lo w w') (hn : ∀ b, lo ≤ b → β b = none) : Ext w w' :=
  ⟨h.os, h.tape, h.output, h.size, fun c hc => h.block c hc fun b κ hb e => by rw [hn b hb] at e; cases e⟩
theorem BlkR.some {β : Bt} {κ : Nat} {o : Option Obj} {x : Blk} (h : BlkR β κ o x) : ∃ y, o = some y := by
  cases x with
  | cells e len c ex esz => obtain ⟨cs, fz, h1, _⟩ := h; exact ⟨_, h1⟩
  | map es clock => obtain ⟨ms, h1, _⟩ := h; exact ⟨_, h1⟩
  | iter l p => exact ⟨_, h.1⟩
  | miter b s => obtain ⟨_, _, _, e2⟩ := h; exact ⟨_, e2⟩
theorem BlkR.lt {β : Bt} {κ c : Nat} {w : World} {x : Blk} (h : BlkR β κ w.heap[c]? x) : c < w.heap.size := by
  obtain ⟨y, e⟩ := h.some
  exact (Array.getElem?_eq_some_iff.1 e).1
theorem BlkR.ext {β : Bt} {κ c : Nat} {w w' : World} {x : Blk} (h : BlkR β κ w.heap[c]? x) (he : Ext w w') : BlkR β κ w'.heap[c]? x := by
  rw [he.block c h.lt]; exact h
def bdS (ops : List Oper) (S : Nat → Bool) (t : Nat) : Nat → Nat
  | 0 => 0
  | k + 1 => if S k = true ∧ dstAt ops k = some t then k + 1 else bdS ops S t k
theorem bdS_le {ops : List Oper} {S : Nat → Bool} {t : Nat} : ∀ n, bdS ops S t n ≤ n
  | 0 => Nat.le_refl _
  | n + 1 => by
    unfold bdS
    split
    · exact Nat.le_refl _
    · exact Nat.le_succ_of_le (bdS_le n)
theorem bdS_agree {ops : List Oper} {S : Nat → Bool} {i t : Nat} (h : ∀ k, S k ≠ decide (k < i) → dstAt ops k ≠ some t) : ∀ n, bdS ops S t n ≤ i
  | 0 => Nat.zero_le _
  | n + 1 => by
    unfold bdS
    split
    · rename_i hs
      have : S n = decide (n < i) := Classical.byContradiction fun hne => h n hne hs.2
      rw [hs.1] at this
      have := of_decide_eq_true this.symm
      omega
    · exact bdS_agree h n
theorem bdS_ge {ops : List Oper} {S : Nat → Bool} {i t : Nat} (hs : S i = true) (hd : dstAt ops i = some t) : ∀ n, i < n → i + 1 ≤ bdS ops S t n
  | 0, h => by omega
  | n + 1, h => by
    unfold bdS
    split
    · omega
    · rename_i hn
      by_cases e : i = n
      · subst e; exact absurd ⟨hs, hd⟩ hn
      · exact bdS_ge hs hd n (by omega)
theorem bdS_mono {ops : List Oper} {S S' : Nat → Bool} {t : Nat} (h : ∀ k, S k = true → S' k = true) : ∀ n, bdS ops S t n ≤ bdS ops S' t n
  | 0 => Nat.le_refl _
  | n + 1 => by
    unfold bdS
    split
    · rename_i hs; rw [if_pos ⟨h n hs.1, hs.2⟩]; exact Nat.le_refl _
    · split
      · exact Nat.le_succ_of_le (bdS_le n)
      · exact bdS_mono h n
/-- What is known of a region beforehand. -/
structure Rg (P : Program) (ops : List Oper) (bf : List Nat) (cv0 : Cv) (h0 : Hp) (f : Rcs) (N : Nat) : Prop where
  rc : ∀ i o, ops[i]? = some o → RcAt P ops bf cv0 h0 f ops.length i o
  out : ∀ i, ops.length ≤ i → (f i).2 = .calm
  dn : ∀ i o e, ops[i]? = some o → e ∈ o.after → Region.binds .any e = true → e.on < i
  bfs : ∀ i o j, ops[i]? = some o → inMask (bf.getD i 0) j = true → ∃ e ∈ o.after, Region.binds .any e = true ∧ (e.on = j ∨ inMask (bf.getD e.on 0) j = true)
  ap : ∀ i j x y, i < j → ops[i]? = some x → ops[j]? = some y → inMask (bf.getD j 0) i = true ∨ apartB ops x y = true
  dst : ∀ i d, dstAt ops i = some d → d < N
/-- Where the last bar that was carried out stands. -/
structure Cut (f : Rcs) (S : Nat → Bool) (c : Nat) : Prop where
  bars : ∀ j, (f j).2.isBar = true → (S j = true ↔ j < c)
  low : ∀ j, (f j).2.isCalm = false → j < c → S j = true
  last : c = 0 ∨ ∃ d, c = d + 1 ∧ (f d).2.isBar = true
def NewB (f : Rcs) (S : Nat → Bool) (c b : Nat) : Prop := ∃ j I O x, S j = true ∧ c ≤ j ∧ (f j).2 = .free I O ∧ I.nx ≤ b ∧ b < O.nx ∧ O.tr.get (path b) = some x
structure Mid (h0 : Hp) (f : Rcs) (S : Nat → Bool) (c : Nat) (β0 : Bt) (w0 : World) (βb : Bt) (wb : World) (β : Bt) (w : World) : Prop where
  st : Stp β0 h0 w0 βb (bsU h0 f c) wb
  ext : Ext wb w
  old : ∀ b, b < (bsU h0 f c).nx → β b = βb b
  dom : ∀ b x, β b = some x → (bsU h0 f c).nx ≤ b → wb.heap.size ≤ x.1 ∧ ∃ j I O, S j = true ∧ c ≤ j ∧ (f j).2 = .free I O ∧ I.nx ≤ b ∧ b < O.nx
  new : ∀ j I O b x, S j = true → c ≤ j → (f j).2 = .free I O → I.nx ≤ b → b < O.nx → O.tr.get (path b) = some x → ∃ cb κ, β b = some (cb, κ) ∧ BlkR (restr β O.nx) κ w.heap[cb]? x
  inj : ∀ b b' cb κ κ', NewB f S c b → NewB f S c b' → β b = some (cb, κ) → β b' = some (cb, κ') → b = b'
theorem Mid.le {h0 : Hp} {f : Rcs} {S : Nat → Bool} {c : Nat} {β0 : Bt} {w0 : World} {βb : Bt} {wb : World} {β : Bt} {w : World} (m : Mid h0 f S c β0 w0 βb wb β w) : Le βb β := fun b x e => by
  by_cases h : b < (bsU h0 f c).nx
  · rw [m.old b h]; exact e
  · rw [m.st.hr.fresh b (by omega)] at e; cases e
section
variable {ops : List Oper} {bf : List Nat} {cv0 : Cv} {h0 : Hp} {f : Rcs} {N : Nat} {S : Nat → Bool} {c : Nat} {β0 : Bt} {w0 : World} {βb : Bt} {wb : World} {β : Bt} {w : World}
theorem Rg.mono (rg : Rg P ops bf cv0 h0 f N) {i j : Nat} (h : i ≤ j) : nxU h0 f i ≤ nxU h0 f j := nxU_mono rg.rc rg.out j h
theorem Rg.at (rg : Rg P ops bf cv0 h0 f N) {i : Nat} (h : (f i).2.isCalm = false) : ∃ o, ops[i]? = some o := by
  by_cases hi : i < ops.length
  · exact ⟨_, List.getElem?_eq_getElem hi⟩
  · rw [rg.out i (by omega)] at h; cases h
theorem Rg.free (rg : Rg P ops bf cv0 h0 f N) {j : Nat} {I O : Hp} (h : (f j).2 = .free I O) : I.nx = nxU h0 f j ∧ O.nx = nxU h0 f (j + 1) := by
  obtain ⟨o, ho⟩ := rg.at (i := j) (by rw [h]; rfl)
  refine ⟨((rg.rc j o ho).free I O h).2.2.1, ?_⟩
  show _ = (f j).2.nx _
  rw [h]; rfl
/-- Memory, as an operation finds it. -/
theorem Mid.hr (rg : Rg P ops bf cv0 h0 f N) (m : Mid h0 f S c β0 w0 βb wb β w) (ct : Cut f S c) {i : Nat} (hci : c ≤ i) (hnb : ∀ k, c ≤ k → k < i → (f k).2.isBar = false) {p : Nat → Bool} {t : Tr Blk} (hs : Src f p i (bsU h0 f i) t)
    (hp : ∀ j I O, j < i → p j = true → (f j).2 = .free I O → S j = true) {lo : Nat} (hlo : lo ≤ nxU h0 f i) : HR (restr β (nxU h0 f i)) (.mk t (nxU h0 f i) lo) w := by
  have hbx : (bsU h0 f c).nx = nxU h0 f c := bsU_nx (ops := ops) ct.last
  have hle : nxU h0 f c ≤ nxU h0 f i := rg.mono hci
  have sp : ∀ b x, t.get (path b) = some x → (bsU h0 f c).tr.get (path b) = some x ∨ ∃ j I O, j < i ∧ S j = true ∧ c ≤ j ∧ (f j).2 = .free I O ∧ I.nx ≤ b ∧ b < O.nx ∧ O.tr.get (path b) = some x := fun b x hb => by
    rcases hs b x hb with h | ⟨j, I, O, h1, h2, h3, h4, h5⟩
    · rw [bsU_const i hci hnb] at h; exact .inl h
    · refine .inr ⟨j, I, O, h1, hp j I O h1 h2 h3, ?_, h3, h5⟩
      rcases ct.last with h | ⟨d, h, hd⟩
      · omega
      · by_cases hjc : c ≤ j
        · exact hjc
        · have := h4 d (by omega) (by omega); rw [hd] at this; cases this
  refine ⟨fun b x hb => ?_, fun b b' x x' cb κ κ' hb hb' e e' => ?_, fun b hb => restr_ge hb, hlo⟩
  · rcases sp b x hb with h | ⟨j, I, O, h1, h2, h3, h4, h5, h6, h7⟩
    · obtain ⟨h8, cb, κ, h9, h10⟩ := m.st.hr.blk b x h
      have hbn : b < nxU h0 f i := by omega
      refine ⟨hbn, cb, κ, by rw [restr_lt hbn, m.old b h8]; exact h9, (h10.ext m.ext).mono fun b2 x2 e2 => ?_⟩
      have hb2 : b2 < (bsU h0 f c).nx := Classical.byContradiction fun hn => by rw [m.st.hr.fresh b2 (by omega)] at e2; cases e2
      rw [restr_lt (by omega), m.old b2 hb2]; exact e2
    · obtain ⟨cb, κ, h8, h9⟩ := m.new j I O b x h2 h3 h4 h5 h6 h7
      have hO := (rg.free h4).2
      have hOn : O.nx ≤ nxU h0 f i := by rw [hO]; exact rg.mono h1
      exact ⟨show b < nxU h0 f i by omega, cb, κ, by rw [restr_lt (by omega)]; exact h8, h9.mono (restr_mono hOn (.refl β))⟩
  · have e1 := (restr_some e).2
    have e2 := (restr_some e').2
    have base : ∀ b x cb κ, (bsU h0 f c).tr.get (path b) = some x → β b = some (cb, κ) → cb < wb.heap.size ∧ βb b = some (cb, κ) := fun b x cb κ hb e => by
      obtain ⟨h8, cb', κ', h9, h10⟩ := m.st.hr.blk b x hb
      rw [m.old b h8] at e
      rw [h9] at e; injection e with e; injection e with ea eb; subst ea; subst eb
      exact ⟨h10.lt, h9⟩
    have newb : ∀ {j b : Nat} {I O : Hp} {cb κ : Nat}, c ≤ j → (f j).2 = .free I O → I.nx ≤ b → β b = some (cb, κ) → wb.heap.size ≤ cb := fun {j b I O cb κ} hj hf hb e => by
      refine (m.dom b (cb, κ) e ?_).1
      rw [hbx]
      exact Nat.le_trans (rg.mono hj) (by rw [(rg.free hf).1] at hb; exact hb)
    rcases sp b x hb with h | ⟨j, I, O, h1, h2, h3, h4, h5, h6, h7⟩ <;> rcases sp b' x' hb' with h' | ⟨j', I', O', h1', h2', h3', h4', h5', h6', h7'⟩
    · exact m.st.hr.inj b b' x x' cb κ κ' h h' (base b x cb κ h e1).2 (base b' x' cb κ' h' e2).2
    · have a1 := (base b x cb κ h e1).1
      have a2 := newb h3' h4' h5' e2
      omega
    · have a1 := (base b' x' cb κ' h' e2).1
      have a2 := newb h3 h4 h5 e1
      omega
    · exact m.inj b b' cb κ κ' ⟨j, I, O, x, h2, h3, h4, h5, h6, h7⟩ ⟨j', I', O', x', h2', h3', h4', h5', h6', h7'⟩ e1 e2
/-- All that is free is behind: then memory is what it is in line. -/
theorem Mid.flush (rg : Rg P ops bf cv0 h0 f N) (m : Mid h0 f S c β0 w0 βb wb β w) (ct : Cut f S c) {i : Nat} (hci : c ≤ i) (hnb : ∀ k, c ≤ k → k < i → (f k).2.isBar = false) {t : Tr Blk} (hs : Src f (fun _ => true) i (bsU h0 f i) t)
    (hp : ∀ j I O, j < i → (f j).2 = .free I O → S j = true) (hp2 : ∀ j I O, (f j).2 = .free I O → S j = true → j < i) : Stp βb (bsU h0 f c) wb β (.mk t (nxU h0 f i) (bsU h0 f i).lo) w := by
  have hbx : (bsU h0 f c).nx = nxU h0 f c := bsU_nx (ops := ops) ct.last
  have hle : nxU h0 f c ≤ nxU h0 f i := rg.mono hci
  have hbs : bsU h0 f i = bsU h0 f c := bsU_const i hci hnb
  have hre : restr β (nxU h0 f i) = β := funext fun b => by
    by_cases hb : b < nxU h0 f i
    · exact restr_lt hb
    · rw [restr_ge (by omega)]
      cases e : β b with
      | none => rfl
      | some x =>
        obtain ⟨-, j, I, O, h1, h2, h3, h4, h5⟩ := m.dom b x e (by omega)
        have := hp2 j I O h3 h1
        have h6 := rg.mono (show j + 1 ≤ i by omega)
        rw [(rg.free h3).2] at h5
        omega
  have hlo : (bsU h0 f i).lo ≤ nxU h0 f i := by rw [hbs]; have := m.st.hr.low; omega
  have hh := m.hr rg ct hci hnb hs (fun j I O a _ b => hp j I O a b) hlo
  rw [hre] at hh
  refine ⟨hh, by rw [hbx]; exact hle, by rw [hbs]; exact Nat.le_refl _, m.old, fun b cb κ hb e => .inl (m.dom b _ e hb).1, m.ext.kept _ _⟩
end
end Go.Ev
