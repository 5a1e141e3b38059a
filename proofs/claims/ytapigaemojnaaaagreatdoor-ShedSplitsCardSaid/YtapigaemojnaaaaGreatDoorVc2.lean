/- The calculus by values, part 2. -/
import Derived.Laws.StructEq
import Derived.ChangeKeysEq
import Derived.Lib.Builder
import Derived.Test.YtapigaemojnaaaaGreatDoorVc1
set_option linter.unusedVariables false
set_option linter.unusedSectionVars false
set_option linter.unusedSimpArgs false

/- A calculus of Go's functions by their values: what is held stands for a world. -/
namespace Go.Vc
open Go.RowKit

/-- Where a call began: the blocks that it was handed, the world, the cells that stay, its boxes. -/
structure Cx where
  ps : List Nat
  w0 : World
  F0 : Nat → Nat → Option Value
  m : Nat
  σ0 : Nat → Option Nat
def Own (cx : Cx) (b : Nat) : Prop := b ∈ cx.ps ∨ cx.w0.heap.size ≤ b
structure Kept (cx : Cx) (w : World) : Prop where
  os : w.os = cx.w0.os
  tape : w.tape = cx.w0.tape
  output : w.output = cx.w0.output
  size : cx.w0.heap.size ≤ w.heap.size
  block : ∀ k, k < cx.w0.heap.size → k ∉ cx.ps → w.heap[k]? = cx.w0.heap[k]?
def Flat (u : Value) : Prop := ∀ c ∈ u.cells.toList, flatV c = true
def Clear (fz : Nat × Nat) (n : Nat) : Prop := ∀ i, i < n → ¬ (fz.1 ≤ i ∧ i < fz.2)
/-- A box. -/
def BoxAt (G : Gh) (w : World) (b : Nat) (x : PV) : Prop := ∃ u e fz, w.heap[b]? = some (.cells u.cells e fz) ∧ Clear fz u.cells.size ∧ Rep x G w u ∧ u.cells.size = x.wid ∧ Flat u
structure Inv (cx : Cx) (G : Gh) (lh : List (Nat × PV)) (w : World) : Prop where
  fits : ∀ b o u, G.F b o = some u → w.cell? ⟨b, o, none⟩ = some u
  base : FLe cx.F0 G.F
  ext : ∀ b o u, G.F b o = some u → cx.F0 b o = some u ∨ Own cx b
  box : ∀ n x, getN n lh = some x → ∃ b, G.σ n = some b ∧ BoxAt G w b x
  boxF : ∀ n b, G.σ n = some b → (∃ x, getN n lh = some x) ∧ (∀ o, G.F b o = none) ∧ Own cx b
  mark : ∀ t b, G.τ t = some b → t ≠ 0 ∧ b < w.heap.size ∧ (∀ o, G.F b o = none) ∧ Own cx b
  injσ : ∀ n n' b, G.σ n = some b → G.σ n' = some b → n = n'
  injτ : ∀ t t' b, G.τ t = some b → G.τ t' = some b → t = t'
  disj : ∀ n t b, G.σ n = some b → G.τ t ≠ some b
  par : ∀ i, i < cx.m → G.σ i = cx.σ0 i
  kept : Kept cx w
theorem cell_lt {w : World} {b o : Nat} {u : Value} (h : w.cell? ⟨b, o, none⟩ = some u) : b < w.heap.size := by
  unfold World.cell? at h
  cases hb : w.heap[b]? with
  | none => simp [hb] at h
  | some x => exact (Array.getElem?_eq_some_iff.1 hb).1
theorem BoxAt.lt {G : Gh} {w : World} {b : Nat} {x : PV} (h : BoxAt G w b x) : b < w.heap.size := by
  obtain ⟨u, e, fz, h, -⟩ := h
  exact (Array.getElem?_eq_some_iff.1 h).1
section
variable {cx : Cx} {G : Gh} {lh : List (Nat × PV)} {w : World}
theorem Inv.σlt (h : Inv cx G lh w) {n b : Nat} (hb : G.σ n = some b) : b < w.heap.size := by
  obtain ⟨⟨x, hx⟩, -⟩ := h.boxF n b hb
  obtain ⟨b', h1, h2⟩ := h.box n x hx
  rw [hb] at h1; injection h1 with h1; subst h1
  exact h2.lt
theorem Kept.step {w' : World} (h : Kept cx w) (h1 : w'.os = w.os) (h2 : w'.tape = w.tape) (h3 : w'.output = w.output) (h4 : w.heap.size ≤ w'.heap.size)
    (h5 : ∀ k, k < w.heap.size → ¬ Own cx k → w'.heap[k]? = w.heap[k]?) : Kept cx w' :=
  ⟨h1.trans h.os, h2.trans h.tape, h3.trans h.output, Nat.le_trans h.size h4, fun k hk hp => by
    rw [h5 k (Nat.lt_of_lt_of_le hk h.size) (fun ho => by rcases ho with ho | ho; exact hp ho; omega), h.block k hk hp]⟩
theorem At.same {G' : Gh} {w' : World} (hF : FLe G.F G'.F) (hτ : ∀ t b, G.τ t = some b → G'.τ t = some b ∧ w'.heap[b]? = w.heap[b]?) {t sz b o cap : Nat} {cs : List Value} (h : At G w t sz b o cap cs) : At G' w' t sz b o cap cs := by
  rcases h with ⟨h1, h2⟩ | ⟨h1, h2, h3, xs, e, fz, h4, h5⟩
  · exact .inl ⟨h1, fun i c hc => hF _ _ _ (h2 i c hc)⟩
  · obtain ⟨e1, e3⟩ := hτ t b h2
    exact .inr ⟨h1, e1, fun i c hc => by rw [World.cell?_of_block (w := w) (a := ⟨b, o + i, none⟩) e3]; exact h3 i c hc, xs, e, fz, by rw [e3]; exact h4, h5⟩
theorem Sl.same {G' : Gh} {w' : World} (hF : FLe G.F G'.F) (hτ : ∀ t b, G.τ t = some b → G'.τ t = some b ∧ w'.heap[b]? = w.heap[b]?) {nl : Bool} {t sz : Nat} {us : List Value} {v : Value} (h : Sl G w nl t sz us v) : Sl G' w' nl t sz us v := by
  rcases h with h | ⟨h1, b, o, cap, h2, h3, h4⟩
  · exact .inl h
  · exact .inr ⟨h1, b, o, cap, h2, h3, h4.same hF hτ⟩
/-- A leaf whose places are as they were. -/
theorem Rep.leaf_same {G' : Gh} {w' : World} {y : PV} (hl : y.leaf = true) (hF : FLe G.F G'.F) (hσ : ∀ n ∈ y.nam1, ∀ b, G.σ n = some b → G'.σ n = some b) (hτ : ∀ t b, G.τ t = some b → G'.τ t = some b ∧ w'.heap[b]? = w.heap[b]?) {v : Value} (h : Rep y G w v) : Rep y G' w' v := by
  cases y with
  | undef => trivial
  | int k z => exact h
  | bool b => exact h
  | str l => exact h
  | raw u => exact h
  | arr n r => exact h
  | agg l => cases hl
  | tup l => cases hl
  | fn g a b => cases hl
  | row nl r t => exact Sl.same hF hτ h
  | vec nl sz l t =>
    obtain ⟨us, h1, h2, h3⟩ := h
    exact ⟨us, RepL'.deep (G := G) (G' := G') hF h1, h2, h3.same hF hτ⟩
  | ep r t i =>
    obtain ⟨b, o, cap, h1, h2, h3, h4⟩ := h
    exact ⟨b, o, cap, h1, h2, h3, h4.same hF hτ⟩
  | epv sz l t i off =>
    obtain ⟨b, o, cap, us, h1, h2, h3, h4, h5, h6⟩ := h
    exact ⟨b, o, cap, us, h1, h2, h3, RepL'.deep (G := G) (G' := G') hF h4, h5, h6.same hF hτ⟩
  | ptr n off => obtain ⟨b, h1, h2⟩ := h; exact ⟨b, hσ n (by simp [PV.nam1]) b h1, h2⟩
  | pix n off i => obtain ⟨h0, b, h1, h2⟩ := h; exact ⟨h0, b, hσ n (by simp [PV.nam1]) b h1, h2⟩
  | asl n off lo len => obtain ⟨h0, h00, b, o, c, h1, h2⟩ := h; exact ⟨h0, h00, b, o, c, hσ n (by simp [PV.nam1]) b h1, h2⟩
  | gp g off => exact h
  | gix g off i => exact h
/-- Values hold where all that they speak of is as it was. -/
theorem Rep.same {G' : Gh} {w' : World} (hF : FLe G.F G'.F) (hσ : ∀ n b, G.σ n = some b → G'.σ n = some b) (hτ : ∀ t b, G.τ t = some b → G'.τ t = some b ∧ w'.heap[b]? = w.heap[b]?) {y : PV} {v : Value} (h : Rep y G w v) : Rep y G' w' v :=
  Rep.to (fun y v hl h => Rep.leaf_same hl hF (fun n _ b hb => hσ n b hb) hτ h) h
theorem BoxAt.same {G' : Gh} {w' : World} {b : Nat} {x : PV} (hb : w'.heap[b]? = w.heap[b]?) (hr : ∀ y v, Rep y G w v → Rep y G' w' v) (h : BoxAt G w b x) : BoxAt G' w' b x := by
  obtain ⟨u, e, fz, h1, h2, h3, h4⟩ := h
  exact ⟨u, e, fz, by rw [hb]; exact h1, h2, hr _ _ h3, h4⟩
/-- A world that has more. -/
theorem Inv.more {w' : World} (h : Inv cx G lh w) (hb : Below w.heap.size w w') : Inv cx G lh w' ∧ ∀ y v, Rep y G w v → Rep y G w' v := by
  have hr : ∀ y v, Rep y G w v → Rep y G w' v := fun y v => Rep.same (FLe.refl _) (fun _ _ h => h) (fun t b ht => ⟨ht, hb.block b (h.mark t b ht).2.1⟩)
  refine ⟨⟨fun b o u hu => ?_, h.base, h.ext, fun n x hx => ?_, h.boxF, fun t b ht => ?_, h.injσ, h.injτ, h.disj, h.par, h.kept.step hb.os hb.tape hb.output hb.size (fun k hk _ => hb.block k hk)⟩, hr⟩
  · have := h.fits b o u hu
    rw [hb.cell (p := ⟨b, o, none⟩) (cell_lt this)]; exact this
  · obtain ⟨b, h1, h2⟩ := h.box n x hx
    exact ⟨b, h1, h2.same (hb.block b h2.lt) hr⟩
  · obtain ⟨h1, h2, h3⟩ := h.mark t b ht
    exact ⟨h1, Nat.lt_of_lt_of_le h2 hb.size, h3⟩
theorem Inv.drew (h : Inv cx G lh w) : Inv cx G lh w.drew ∧ ∀ y v, Rep y G w v → Rep y G w.drew v := h.more ((Below.refl _ _).drew)
theorem below_push (w : World) (o : Obj) : Below w.heap.size w { w with heap := w.heap.push o } :=
  (Below.refl w.heap.size w).alloc (Nat.le_refl _) o
/-- A new block that stays as it is. -/
theorem Inv.still_block {w' : World} (h : Inv cx G lh w) (hb : Below w.heap.size w w') (b : Nat) (hb0 : w.heap.size ≤ b) (cs : Nat → Option Value) (hc : ∀ o u, cs o = some u → w'.cell? ⟨b, o, none⟩ = some u) :
    Inv cx ⟨G.σ, G.τ, fun b' o => if b' = b then cs o else G.F b' o⟩ lh w' ∧ (∀ y v, Rep y G w v → Rep y ⟨G.σ, G.τ, fun b' o => if b' = b then cs o else G.F b' o⟩ w' v) := by
  obtain ⟨h', hr⟩ := h.more hb
  have hne : ∀ {b' o u}, G.F b' o = some u → b' ≠ b := fun hu e => by have := cell_lt (h.fits _ _ _ hu); omega
  have hF : FLe G.F (fun b' o => if b' = b then cs o else G.F b' o) := fun b' o u hu => by
    show (if b' = b then cs o else G.F b' o) = some u
    rw [if_neg (hne hu)]; exact hu
  have hr2 : ∀ y v, Rep y G w' v → Rep y ⟨G.σ, G.τ, fun b' o => if b' = b then cs o else G.F b' o⟩ w' v := fun y v => Rep.same (G := G) (G' := ⟨G.σ, G.τ, fun b' o => if b' = b then cs o else G.F b' o⟩) (w := w') (w' := w') hF (fun _ _ h => h) (fun _ _ h => ⟨h, rfl⟩)
  have ho : Own cx b := .inr (Nat.le_trans h.kept.size hb0)
  refine ⟨⟨fun b' o u hu => ?_, h.base.trans hF, fun b' o u hu => ?_, fun n x hx => ?_, fun n b' hn => ?_, fun t b' ht => ?_, h.injσ, h.injτ, h.disj, h.par, h'.kept⟩, fun y v hy => hr2 y v (hr y v hy)⟩
  · replace hu : (if b' = b then cs o else G.F b' o) = some u := hu
    split at hu
    · rename_i e; subst e; exact hc o u hu
    · exact h'.fits b' o u hu
  · replace hu : (if b' = b then cs o else G.F b' o) = some u := hu
    split at hu
    · rename_i e; subst e; exact .inr ho
    · exact h.ext b' o u hu
  · obtain ⟨b', h1, h2⟩ := h'.box n x hx
    exact ⟨b', h1, h2.same rfl hr2⟩
  · obtain ⟨h1, h2, h3⟩ := h.boxF n b' hn
    refine ⟨h1, fun o => ?_, h3⟩
    show (if b' = b then cs o else G.F b' o) = none
    rw [if_neg (fun e => by have := h.σlt hn; omega)]; exact h2 o
  · obtain ⟨h1, h2, h3, h4⟩ := h'.mark t b' ht
    refine ⟨h1, h2, fun o => ?_, h4⟩
    show (if b' = b then cs o else G.F b' o) = none
    rw [if_neg (fun e => by have := (h.mark t b' ht).2.1; omega)]; exact h3 o
/-- A box is written. -/
theorem Inv.store {w' : World} (h : Inv cx G lh w) {n b : Nat} {c c' : PV} {u' : Value} {e : TypeId} {fz : Nat × Nat} (hn : getN n lh = some c) (hb : G.σ n = some b)
    (h1 : w'.os = w.os) (h2 : w'.tape = w.tape) (h3 : w'.output = w.output) (h4 : w'.heap.size = w.heap.size) (h5 : ∀ k, k ≠ b → w'.heap[k]? = w.heap[k]?)
    (h6 : w'.heap[b]? = some (.cells u'.cells e fz)) (h7 : Clear fz u'.cells.size) (h8 : Rep c' G w u') (h9 : u'.cells.size = c'.wid) (h10 : Flat u') :
    Inv cx G (setN n c' lh) w' ∧ ∀ y v, Rep y G w v → Rep y G w' v := by
  obtain ⟨⟨x0, hx0⟩, hF0, hown⟩ := h.boxF n b hb
  have hr : ∀ y v, Rep y G w v → Rep y G w' v := fun y v => Rep.same (FLe.refl _) (fun _ _ h => h) (fun t b' ht => ⟨ht, h5 b' (fun e => h.disj n t b hb (by rw [← e]; exact ht))⟩)
  have gs : ∀ k l, getN k (setN n c' l) = if k = n then (getN n l).map (fun _ => c') else getN k l := by
    intro k l
    induction l with
    | nil => simp [setN, getN]
    | cons e l ih =>
      simp only [setN]
      by_cases hen : e.1 = n
      · subst hen
        simp only [Nat.beq_refl, cond_true, getN]
        by_cases hk : k = e.1
        · subst hk; simp
        · have : Nat.beq e.1 k = false := by rw [Bool.eq_false_iff]; exact fun hh => hk (Nat.eq_of_beq_eq_true hh).symm
          simp [this, hk]
      · have hf : Nat.beq e.1 n = false := by rw [Bool.eq_false_iff]; exact fun hh => hen (Nat.eq_of_beq_eq_true hh)
        simp only [hf, cond_false, getN]
        by_cases hk : k = n
        · subst hk
          simp only [hf, cond_false, if_true]
          rw [ih]; simp
        · rw [ih, if_neg hk, if_neg hk]
  refine ⟨⟨fun b' o u hu => ?_, h.base, h.ext, fun k x hx => ?_, fun k b' hk => ?_, fun t b' ht => ?_, h.injσ, h.injτ, h.disj, h.par, h.kept.step h1 h2 h3 (Nat.le_of_eq h4.symm) (fun k hk ho => h5 k (fun e => ho (by rw [e]; exact hown)))⟩, hr⟩
  · have := h.fits b' o u hu
    have hne : b' ≠ b := fun e => by rw [e, hF0] at hu; cases hu
    rw [World.cell?_of_block (w := w) (a := ⟨b', o, none⟩) (h5 b' hne)]; exact this
  · rw [gs] at hx
    by_cases hk : k = n
    · subst hk
      rw [if_pos rfl, hn] at hx
      injection hx with hx; subst hx
      exact ⟨b, hb, u', e, fz, h6, h7, hr _ _ h8, h9, h10⟩
    · rw [if_neg hk] at hx
      obtain ⟨b', q1, q2⟩ := h.box k x hx
      exact ⟨b', q1, q2.same (h5 b' (fun e => hk (h.injσ k n b (by rw [← e]; exact q1) hb))) hr⟩
  · obtain ⟨⟨x, hx⟩, q2, q3⟩ := h.boxF k b' hk
    refine ⟨?_, q2, q3⟩
    rw [gs]
    by_cases hkn : k = n
    · rw [if_pos hkn, hn]; exact ⟨c', rfl⟩
    · rw [if_neg hkn]; exact ⟨x, hx⟩
  · obtain ⟨q1, q2, q3⟩ := h.mark t b' ht
    exact ⟨q1, by rw [h4]; exact q2, q3⟩
theorem getN_turn (f : PV → PV) (n : Nat) : ∀ lh : List (Nat × PV), getN n (turnB f lh) = (getN n lh).map (PV.mapL f)
  | [] => rfl
  | e :: l => by
    show (bif Nat.beq e.1 n then some (e.2.mapL f) else getN n (turnB f l)) = (bif Nat.beq e.1 n then some e.2 else getN n l).map (PV.mapL f)
    cases Nat.beq e.1 n with
    | true => rfl
    | false => exact getN_turn f n l
theorem getN_set {α : Type} (n k : Nat) (x : α) : ∀ l : List (Nat × α), getN k (setN n x l) = if k = n then (getN n l).map (fun _ => x) else getN k l
  | [] => by simp [setN, getN]
  | e :: l => by
    have ih := getN_set n k x l
    simp only [setN]
    by_cases hen : e.1 = n
    · subst hen
      simp only [Nat.beq_refl, cond_true, getN]
      by_cases hk : k = e.1
      · subst hk; simp
      · have : Nat.beq e.1 k = false := by rw [Bool.eq_false_iff]; exact fun hh => hk (Nat.eq_of_beq_eq_true hh).symm
        simp [this, hk]
    · have hf : Nat.beq e.1 n = false := by rw [Bool.eq_false_iff]; exact fun hh => hen (Nat.eq_of_beq_eq_true hh)
      simp only [hf, cond_false, getN]
      by_cases hk : k = n
      · subst hk
        simp only [hf, cond_false, if_true]
        rw [ih]; simp
      · rw [ih, if_neg hk, if_neg hk]
theorem getN_put (n k : Nat) (x : PV) (lh : List (Nat × PV)) : getN k (putLH n x lh) = if k = n then some x else getN k lh := by
  unfold putLH
  cases hg : getN n lh with
  | some y =>
    dsimp only
    rw [getN_set]
    by_cases hk : k = n
    · rw [if_pos hk, if_pos hk, hg]; rfl
    · rw [if_neg hk, if_neg hk]
  | none =>
    show (bif Nat.beq n k then some x else getN k lh) = _
    by_cases hk : k = n
    · subst hk; rw [Nat.beq_refl, if_pos rfl]; rfl
    · rw [if_neg hk, show Nat.beq n k = false by rw [Bool.eq_false_iff]; exact fun hh => hk (Nat.eq_of_beq_eq_true hh).symm]; rfl
theorem Rep.lose_leaf {G' : Gh} {w' : World} {n : Nat} (hF : FLe G.F G'.F) (hσ : ∀ k b, k ≠ n → G.σ k = some b → G'.σ k = some b) (hτ : ∀ t b, G.τ t = some b → G'.τ t = some b ∧ w'.heap[b]? = w.heap[b]?)
    {y : PV} {v : Value} (hl : y.leaf = true) (h : Rep y G w v) : Rep (y.lose1 n) G' w' v := by
  have nb : ∀ {m : Nat}, Nat.beq m n = false → m ≠ n := fun hb e => by rw [e, Nat.beq_refl] at hb; cases hb
  cases y with
  | ptr m off =>
    show Rep (bif Nat.beq m n then .undef else .ptr m off) G' w' v
    cases hb : Nat.beq m n with
    | true => trivial
    | false => obtain ⟨b, h1, h2⟩ := h; exact ⟨b, hσ m b (nb hb) h1, h2⟩
  | pix m off i =>
    show Rep (bif Nat.beq m n then .undef else .pix m off i) G' w' v
    cases hb : Nat.beq m n with
    | true => trivial
    | false => obtain ⟨h0, b, h1, h2⟩ := h; exact ⟨h0, b, hσ m b (nb hb) h1, h2⟩
  | asl m off i k =>
    show Rep (bif Nat.beq m n then .undef else .asl m off i k) G' w' v
    cases hb : Nat.beq m n with
    | true => trivial
    | false => obtain ⟨h0, h00, b, o, c, h1, h2⟩ := h; exact ⟨h0, h00, b, o, c, hσ m b (nb hb) h1, h2⟩
  | _ => exact Rep.leaf_same hl hF (fun k hk => by simp [PV.nam1] at hk) hτ h
theorem wid_lose (n : Nat) (y : PV) (hl : y.leaf = true) : (y.lose1 n).wid = y.wid := by
  cases y with
  | ptr m off => show PV.wid (bif Nat.beq m n then .undef else .ptr m off) = _; cases Nat.beq m n <;> rfl
  | pix m off i => show PV.wid (bif Nat.beq m n then .undef else .pix m off i) = _; cases Nat.beq m n <;> rfl
  | asl m off i k => show PV.wid (bif Nat.beq m n then .undef else .asl m off i k) = _; cases Nat.beq m n <;> rfl
  | _ => first | rfl | cases hl
/-- A new box, by a name that is not a parameter's. -/
theorem Inv.newBox {w' : World} (h : Inv cx G lh w) {n : Nat} (hn : cx.m ≤ n) {x : PV} {u : Value} {e : TypeId} (hheap : w'.heap = w.heap.push (.cells u.cells e (0, 0))) (h1 : w'.os = w.os) (h2 : w'.tape = w.tape) (h3 : w'.output = w.output)
    (hx : Rep x ⟨fun k => if k = n then some w.heap.size else G.σ k, G.τ, G.F⟩ w' u) (hwid : u.cells.size = x.wid) (hfl : Flat u) :
    Inv cx ⟨fun k => if k = n then some w.heap.size else G.σ k, G.τ, G.F⟩ (putLH n x (turnB (PV.lose1 n) lh)) w' ∧
      ∀ y v, Rep y G w v → Rep (y.mapL (PV.lose1 n)) ⟨fun k => if k = n then some w.heap.size else G.σ k, G.τ, G.F⟩ w' v := by
  have hb : Below w.heap.size w w' := ⟨h1, h2, h3, by rw [hheap]; simp, fun k hk => by rw [hheap, Array.getElem?_push, if_neg (by omega)]⟩
  have hσ : ∀ k b, k ≠ n → G.σ k = some b → (fun k => if k = n then some w.heap.size else G.σ k) k = some b := fun k b hk hb => by
    show (if k = n then some w.heap.size else G.σ k) = some b
    rw [if_neg hk]; exact hb
  have hτ : ∀ t b, G.τ t = some b → G.τ t = some b ∧ w'.heap[b]? = w.heap[b]? := fun t b ht => ⟨ht, hb.block b (h.mark t b ht).2.1⟩
  have hr : ∀ y v, Rep y G w v → Rep (y.mapL (PV.lose1 n)) ⟨fun k => if k = n then some w.heap.size else G.σ k, G.τ, G.F⟩ w' v :=
    fun y v hy => Rep.map (f := PV.lose1 n) (G := G) (w := w) (G' := ⟨fun k => if k = n then some w.heap.size else G.σ k, G.τ, G.F⟩) (w' := w') (fun y v hl hy => Rep.lose_leaf (G := G) (w := w) (G' := ⟨fun k => if k = n then some w.heap.size else G.σ k, G.τ, G.F⟩) (FLe.refl _) hσ hτ hl hy) (wid_lose n) hy
  have hnew : w'.heap[w.heap.size]? = some (.cells u.cells e (0, 0)) := by rw [hheap]; simp
  have hFn : ∀ o, G.F w.heap.size o = none := fun o => by
    cases hF : G.F w.heap.size o with
    | none => rfl
    | some z => have := cell_lt (h.fits _ _ _ hF); omega
  refine ⟨⟨fun b o z hz => ?_, h.base, h.ext, fun k y hy => ?_, fun k b hk => ?_, fun t b ht => ?_, fun k k' b hk hk' => ?_, h.injτ, fun k t b hk ht => ?_, fun i hi => ?_, h.kept.step h1 h2 h3 hb.size (fun k hk _ => hb.block k hk)⟩, hr⟩
  · have := h.fits b o z hz
    rw [hb.cell (p := ⟨b, o, none⟩) (cell_lt this)]; exact this
  · rw [getN_put] at hy
    by_cases hk : k = n
    · rw [if_pos hk] at hy; injection hy with hy; subst hy
      exact ⟨w.heap.size, by show (if k = n then some w.heap.size else G.σ k) = _; rw [if_pos hk], u, e, (0, 0), hnew, (fun i _ hh => by have := hh.2; simp at this), hx, hwid, hfl⟩
    · rw [if_neg hk, getN_turn] at hy
      cases hg : getN k lh with
      | none => rw [hg] at hy; cases hy
      | some c =>
        rw [hg] at hy; injection hy with hy; subst hy
        obtain ⟨b, q1, u', e', fz, q2, q3, q4, q5, q6⟩ := h.box k c hg
        refine ⟨b, hσ k b hk q1, u', e', fz, ?_, q3, hr _ _ q4, by rw [PV.wid_map (wid_lose n)]; exact q5, q6⟩
        rw [hb.block b (h.σlt q1)]; exact q2
  · replace hk : (if k = n then some w.heap.size else G.σ k) = some b := hk
    rw [getN_put]
    by_cases e : k = n
    · rw [if_pos e] at hk; injection hk with hk; subst hk
      exact ⟨⟨x, by rw [if_pos e]⟩, hFn, .inr h.kept.size⟩
    · rw [if_neg e] at hk
      obtain ⟨⟨y, hy⟩, q2, q3⟩ := h.boxF k b hk
      exact ⟨⟨y.mapL (PV.lose1 n), by rw [if_neg e, getN_turn, hy]; rfl⟩, q2, q3⟩
  · obtain ⟨q1, q2, q3⟩ := h.mark t b ht
    exact ⟨q1, Nat.lt_of_lt_of_le q2 hb.size, q3⟩
  · replace hk : (if k = n then some w.heap.size else G.σ k) = some b := hk
    replace hk' : (if k' = n then some w.heap.size else G.σ k') = some b := hk'
    split at hk <;> split at hk'
    · rename_i e1 e2; rw [e1, e2]
    · injection hk with hk; have := h.σlt hk'; omega
    · injection hk' with hk'; have := h.σlt hk; omega
    · exact h.injσ k k' b hk hk'
  · replace hk : (if k = n then some w.heap.size else G.σ k) = some b := hk
    split at hk
    · injection hk with hk; have := (h.mark t b ht).2.1; omega
    · exact h.disj k t b hk ht
  · show (if i = n then some w.heap.size else G.σ i) = _
    rw [if_neg (by omega)]; exact h.par i hi
/-- Which blocks are stilled by a turn of marks. -/
def Stilled (G : Gh) (f : Nat → Option Nat) (b : Nat) : Prop := ∃ t, t ≠ 0 ∧ f t = some 0 ∧ G.τ t = some b
open Classical in
/-- Marks turned; one may be laid anew. -/
noncomputable def Gh.turn (G : Gh) (w : World) (f : Nat → Option Nat) (n : Option (Nat × Nat)) : Gh :=
  ⟨G.σ, fun t => if n.map (·.1) = some t then n.map (·.2) else match f t with | some (u + 1) => G.τ t | _ => none,
   fun b o => if Stilled G f b then w.cell? ⟨b, o, none⟩ else G.F b o⟩
def MarkF (f : Nat → Option Nat) : Prop := f 0 = some 0 ∧ ∀ t, t ≠ 0 → f t = none ∨ f t = some 0 ∨ f t = some t
/-- Marks turned, and perhaps the block of a lost one written, or a new one made. -/
theorem Inv.turn {w' : World} (h : Inv cx G lh w) {f : Nat → Option Nat} (hf : MarkF f) (n : Option (Nat × Nat)) (h1 : w'.os = w.os) (h2 : w'.tape = w.tape) (h3 : w'.output = w.output) (h4 : w.heap.size ≤ w'.heap.size)
    (h5 : ∀ k, k < w.heap.size → (∀ t, t ≠ 0 → f t = none → n.map (·.1) = some t → G.τ t ≠ some k) → w'.heap[k]? = w.heap[k]?)
    (h6 : ∀ t b, n = some (t, b) → t ≠ 0 ∧ b < w'.heap.size ∧ f t ≠ some t ∧ (w.heap.size ≤ b ∨ (G.τ t = some b ∧ f t = none))) :
    Inv cx (G.turn w f n) (turnB (PV.mark1 f) lh) w' ∧ ∀ y v, Rep y G w v → Rep (y.mapL (PV.mark1 f)) (G.turn w f n) w' v := by
  classical
  have hst : ∀ {b}, Stilled G f b → b < w.heap.size ∧ Own cx b ∧ w'.heap[b]? = w.heap[b]? := fun ⟨t, t0, ft, ht⟩ => by
    obtain ⟨q1, q2, q3, q4⟩ := h.mark t _ ht
    refine ⟨q2, q4, h5 _ q2 fun t' t0' ft' hn ht' => ?_⟩
    have := h.injτ t t' _ ht ht'
    subst this
    rw [ft] at ft'; cases ft'
  have fF : ∀ b o, (G.turn w f n).F b o = if Stilled G f b then w.cell? ⟨b, o, none⟩ else G.F b o := fun b o => rfl
  have hF : FLe G.F (G.turn w f n).F := fun b o u hu => by
    rw [fF]
    split
    · rename_i hs
      obtain ⟨t, t0, ft, ht⟩ := hs
      rw [(h.mark t b ht).2.2.1] at hu; cases hu
    · exact hu
  have hτ : ∀ t, (G.turn w f n).τ t = if n.map (·.1) = some t then n.map (·.2) else match f t with | some (u + 1) => G.τ t | _ => none := fun t => rfl
  have keep : ∀ {t b}, f t = some t → t ≠ 0 → G.τ t = some b → (G.turn w f n).τ t = some b ∧ w'.heap[b]? = w.heap[b]? := fun {t b} ft t0 ht => by
    refine ⟨?_, h5 b (h.mark t b ht).2.1 fun t' t0' ft' hn ht' => ?_⟩
    · rw [hτ, if_neg, ft]
      · cases t with | zero => exact absurd rfl t0 | succ t => exact ht
      · intro hn
        cases n with
        | none => cases hn
        | some p => injection hn with hn; exact (h6 p.1 p.2 rfl).2.2.1 (by have hn' : p.1 = _ := hn; simp only [hn']; exact ft)
    · have := h.injτ t t' b ht ht'
      subst this; rw [ft] at ft'; cases ft'
  have hm : MarkOk G (G.turn w f n) w w' f := fun t t0 => by
    rcases hf.2 t t0 with ft | ft | ft
    · rw [ft]; trivial
    · rw [ft]
      intro b hb o u hu
      rw [fF, if_pos ⟨t, t0, ft, hb⟩]; exact hu
    · rw [ft]
      cases t with
      | zero => exact absurd rfl t0
      | succ t =>
        refine ⟨rfl, ?_, fun b hb => (keep ft t0 hb).2⟩
        rw [hτ, if_neg, ft]
        intro hn
        cases n with
        | none => cases hn
        | some p => injection hn with hn; exact (h6 p.1 p.2 rfl).2.2.1 (by have hn' : p.1 = _ := hn; simp only [hn']; exact ft)
  have hr : ∀ y v, Rep y G w v → Rep (y.mapL (PV.mark1 f)) (G.turn w f n) w' v := fun y v hy =>
    Rep.map (f := PV.mark1 f) (fun y v hl hy => Rep.mark_leaf (G := G) (G' := G.turn w f n) hF (fun _ => rfl) hf.1 hm hl hy) (wid_mark f) hy
  have tcase : ∀ {t b}, (G.turn w f n).τ t = some b → (n = some (t, b)) ∨ (n.map (·.1) ≠ some t ∧ f t = some t ∧ t ≠ 0 ∧ G.τ t = some b) := fun {t b} ht => by
    rw [hτ] at ht
    split at ht
    · rename_i hn
      cases n with
      | none => cases hn
      | some p => injection hn with hn; injection ht with ht; left; rw [← hn, ← ht]
    · rename_i hn
      by_cases t0 : t = 0
      · subst t0; rw [hf.1] at ht; cases ht
      · rcases hf.2 t t0 with ft | ft | ft
        · rw [ft] at ht; cases ht
        · rw [ft] at ht; cases ht
        · rw [ft] at ht
          cases t with
          | zero => exact absurd rfl t0
          | succ t => exact .inr ⟨hn, ft, t0, ht⟩
  have nF : ∀ {t b}, n = some (t, b) → ∀ o, (G.turn w f n).F b o = none := fun {t b} hn o => by
    obtain ⟨q1, q2, q3, q4⟩ := h6 t b hn
    rw [fF]
    rcases q4 with q4 | ⟨q4, q5⟩
    · rw [if_neg (fun hs => by have := (hst hs).1; omega)]
      cases hc : G.F b o with
      | none => rfl
      | some z => have := cell_lt (h.fits _ _ _ hc); omega
    · rw [if_neg (fun ⟨t', t0', ft', ht'⟩ => by
        have := h.injτ t t' b q4 ht'; subst this; rw [q5] at ft'; cases ft')]
      exact (h.mark t b q4).2.2.1 o
  have σF : ∀ {k b}, G.σ k = some b → w'.heap[b]? = w.heap[b]? := fun {k b} hk => h5 b (h.σlt hk) fun t _ _ _ ht => h.disj k t b hk ht
  refine ⟨⟨fun b o u hu => ?_, h.base.trans hF, fun b o u hu => ?_, fun k x hx => ?_, fun k b hk => ?_, fun t b ht => ?_, h.injσ, fun t t' b ht ht' => ?_, fun k t b hk ht => ?_, h.par, h.kept.step h1 h2 h3 h4 fun k hk ho => ?_⟩, hr⟩
  · rw [fF] at hu
    split at hu
    · rename_i hs
      rw [World.cell?_of_block (w := w) (a := ⟨b, o, none⟩) (hst hs).2.2]; exact hu
    · have := h.fits b o u hu
      rw [World.cell?_of_block (w := w) (a := ⟨b, o, none⟩) (h5 b (cell_lt this) fun t _ _ _ ht => by rw [(h.mark t b ht).2.2.1] at hu; cases hu)]; exact this
  · rw [fF] at hu
    split at hu
    · rename_i hs; exact .inr (hst hs).2.1
    · exact h.ext b o u hu
  · rw [getN_turn] at hx
    cases hg : getN k lh with
    | none => rw [hg] at hx; cases hx
    | some c =>
      rw [hg] at hx; injection hx with hx; subst hx
      obtain ⟨b, q1, u', e', fz, q2, q3, q4, q5, q6⟩ := h.box k c hg
      exact ⟨b, q1, u', e', fz, by rw [σF q1]; exact q2, q3, hr _ _ q4, by rw [PV.wid_map (wid_mark f)]; exact q5, q6⟩
  · obtain ⟨⟨x, hx⟩, q2, q3⟩ := h.boxF k b hk
    refine ⟨⟨_, by rw [getN_turn, hx]; rfl⟩, fun o => ?_, q3⟩
    rw [fF, if_neg (fun ⟨t, _, _, ht⟩ => h.disj k t b hk ht)]; exact q2 o
  · rcases tcase ht with hn | ⟨-, ft, t0, ht⟩
    · obtain ⟨q1, q2, q3, q4⟩ := h6 t b hn
      refine ⟨q1, q2, nF hn, ?_⟩
      rcases q4 with q4 | ⟨q4, -⟩
      · exact .inr (Nat.le_trans h.kept.size q4)
      · exact (h.mark t b q4).2.2.2
    · obtain ⟨q1, q2, q3, q4⟩ := h.mark t b ht
      refine ⟨q1, Nat.lt_of_lt_of_le q2 h4, fun o => ?_, q4⟩
      rw [fF, if_neg (fun ⟨t', t0', ft', ht'⟩ => by have := h.injτ t t' b ht ht'; subst this; rw [ft] at ft'; injection ft' with ft'; exact t0 ft')]; exact q3 o
  · rcases tcase ht with hn | ⟨hn, ft, t0, ht⟩ <;> rcases tcase ht' with hn' | ⟨hn', ft', t0', ht'⟩
    · rw [hn] at hn'; injection hn' with hn'; injection hn'
    · obtain ⟨q1, q2, q3, q4⟩ := h6 t b hn
      rcases q4 with q4 | ⟨q4, q5⟩
      · have := (h.mark t' b ht').2.1; omega
      · exact h.injτ t t' b q4 ht'
    · obtain ⟨q1, q2, q3, q4⟩ := h6 t' b hn'
      rcases q4 with q4 | ⟨q4, q5⟩
      · have := (h.mark t b ht).2.1; omega
      · exact h.injτ t t' b ht q4
    · exact h.injτ t t' b ht ht'
  · rcases tcase ht with hn | ⟨-, ft, t0, ht⟩
    · obtain ⟨q1, q2, q3, q4⟩ := h6 t b hn
      rcases q4 with q4 | ⟨q4, -⟩
      · have := h.σlt hk; omega
      · exact h.disj k t b hk q4
    · exact h.disj k t b hk ht
  · exact h5 k hk fun t _ _ _ ht => ho (h.mark t k ht).2.2.2
end
end Go.Vc


/- A calculus of Go's functions by their values: parts of values. -/
namespace Go.Vc
open Go.RowKit
variable {P : Program} {G : Gh} {w : World}

theorem cells_one {u : Value} (h : flatV u = true) : u.cells = #[u] := by
  cases u <;> first | rfl | cases h
theorem flat_of_cells {u : Value} (h : flatV u = true) : Flat u := by
  intro c hc
  rw [cells_one h] at hc
  simp at hc; subst hc; exact h
/-- A value of one cell. -/
theorem Rep.one {x : PV} {u : Value} (h : Rep x G w u) (ha : x.isAgg = false) (hu : x ≠ .undef) : flatV u = true := by
  cases x with
  | undef => exact absurd rfl hu
  | int k z => rw [show u = _ from h]; rfl
  | bool b => rw [show u = _ from h]; rfl
  | str l => rw [show u = _ from h]; rfl
  | raw v => rw [h.1]; exact h.2
  | arr n r => cases ha
  | agg l => cases ha
  | tup l => cases ha
  | row nl r t =>
    rcases h with ⟨-, -, h⟩ | ⟨-, b, o, c, h, -⟩ <;> rw [h] <;> rfl
  | vec nl sz l t =>
    obtain ⟨us, -, -, h⟩ := h
    rcases h with ⟨-, -, h⟩ | ⟨-, b, o, c, h, -⟩ <;> rw [h] <;> rfl
  | ep r t i => obtain ⟨b, o, c, h, -⟩ := h; rw [h]; rfl
  | epv sz l t i off => obtain ⟨b, o, c, us, h, -⟩ := h; rw [h]; rfl
  | ptr n off => obtain ⟨b, -, h⟩ := h; rw [h]; rfl
  | pix n off i => obtain ⟨-, b, -, h⟩ := h; rw [h]; rfl
  | asl n off lo len => obtain ⟨-, -, b, o, c, -, h, -⟩ := h; rw [h]; rfl
  | gp g off => rw [show u = _ from h]; rfl
  | gix g off i => rw [show u = _ from h.2]; rfl
  | fn f a b => obtain ⟨us, vs, -, -, h⟩ := h; rw [h]; rfl
theorem vals_flat (r : BRow) : ∀ c ∈ r.vals, flatV c = true := by
  intro c hc
  cases r with
  | bytes l => simp [BRow.vals] at hc; obtain ⟨z, -, rfl⟩ := hc; rfl
  | strs l => simp [BRow.vals] at hc; obtain ⟨z, -, rfl⟩ := hc; rfl
  | ints k l => simp [BRow.vals] at hc; obtain ⟨z, -, rfl⟩ := hc; rfl
theorem get_vals (r : BRow) (G : Gh) (w : World) {i : Nat} (h : i < r.vals.length) : Rep (r.get (i : Int)) G w (r.vals[i]) := by
  cases r with
  | bytes l =>
    have h' : i < l.length := by simpa [BRow.vals] using h
    show _ = _
    simp [BRow.vals, byteZ, List.getD, h']
  | strs l =>
    have h' : i < l.length := by simpa [BRow.vals] using h
    show _ = _
    simp [BRow.vals, strZ, List.getD, h']
  | ints k l =>
    have h' : i < l.length := by simpa [BRow.vals] using h
    show _ = _
    simp [BRow.vals, intZ, List.getD, h']
theorem RepL.wids {l : List PV} {us : List Value} (h : RepL l G w us) : (us.flatMap fun u => u.cells.toList).length = PV.wids l := by
  induction l generalizing us with
  | nil => rw [show us = [] from h]; rfl
  | cons x l ih =>
    obtain ⟨u, us', rfl, h1, h2, h3, h4⟩ := h
    simp only [List.flatMap_cons, List.length_append, Array.length_toList, ih h4, h2, PV.wids]
theorem RepL.flat {l : List PV} {us : List Value} (h : RepL l G w us) : ∀ c ∈ us.flatMap (fun u => u.cells.toList), flatV c = true := by
  induction l generalizing us with
  | nil => rw [show us = [] from h]; intro c hc; cases hc
  | cons x l ih =>
    obtain ⟨u, us', rfl, h1, h2, h3, h4⟩ := h
    intro c hc
    rw [List.flatMap_cons, List.mem_append] at hc
    rcases hc with hc | hc
    · exact h3 c hc
    · exact ih h4 c hc
/-- A value that is all there: as wide as is told, of single cells. -/
structure Full (x : PV) (G : Gh) (w : World) (u : Value) : Prop where
  rep : Rep x G w u
  wid : u.cells.size = x.wid
  flat : Flat u
theorem Full.of_one {x : PV} {u : Value} (h : Rep x G w u) (h1 : flatV u = true) (ha : x.wid = 1) : Full x G w u :=
  ⟨h, by rw [cells_one h1, ha]; rfl, flat_of_cells h1⟩
theorem wid_one {x : PV} (ha : x.isAgg = false) : x.wid = 1 := by cases x <;> first | rfl | cases ha
theorem Full.of {x : PV} {u : Value} (h : Rep x G w u) (ht : ∀ l, x ≠ .tup l) (hu : x ≠ .undef) : Full x G w u := by
  cases hx : x.isAgg with
  | false => exact .of_one h (h.one hx hu) (wid_one hx)
  | true =>
    cases x with
    | arr n r =>
      obtain ⟨h1, rfl⟩ := h
      exact ⟨⟨h1, rfl⟩, by simp [Value.cells, h1, PV.wid], fun c hc => vals_flat r c (by simpa [Value.cells] using hc)⟩
    | agg l =>
      obtain ⟨us, h1, rfl⟩ := h
      exact ⟨⟨us, h1, rfl⟩, by simp only [Value.cells, List.size_toArray]; exact h1.wids, fun c hc => h1.flat c (by simpa [Value.cells] using hc)⟩
    | tup l => exact absurd rfl (ht l)
    | _ => cases hx
/-- So many cells from a place on are another value's. -/
def Lies (u : Value) (off : Nat) (v : Value) : Prop := ∀ j, j < v.cells.size → u.cells[off + j]? = v.cells[j]?
theorem getAt_leaf {wh : Bool} {sz off : Nat} {x : PV} (h1 : ∀ l, x ≠ .agg l) (h2 : ∀ n r, x ≠ .arr n r) : x.getAt wh sz off = match Nat.beq off 0 with | true => x | false => .undef := by
  cases x <;> first | rfl | exact absurd rfl (h1 _) | exact absurd rfl (h2 _ _)
theorem leaf_rep {wh : Bool} {sz off : Nat} {x : PV} {u : Value} (h1 : ∀ l, x ≠ .agg l) (h2 : ∀ n r, x ≠ .arr n r) (h : Full x G w u) (hne : x.getAt wh sz off ≠ .undef) : ∃ v, Full (x.getAt wh sz off) G w v ∧ Lies u off v ∧ off + (x.getAt wh sz off).wid ≤ x.wid := by
  rw [getAt_leaf h1 h2] at hne ⊢
  cases ho : Nat.beq off 0 with
  | true =>
    have := Nat.eq_of_beq_eq_true ho
    subst this
    exact ⟨u, h, fun j hj => by rw [Nat.zero_add], by simp⟩
  | false => rw [ho] at hne; exact absurd rfl hne
mutual
theorem getAt_rep {wh : Bool} {sz : Nat} : ∀ {x : PV} {off : Nat} {u : Value}, Full x G w u → x.getAt wh sz off ≠ .undef → ∃ v, Full (x.getAt wh sz off) G w v ∧ Lies u off v ∧ off + (x.getAt wh sz off).wid ≤ x.wid
  | .agg l, off, u, h, hne => by
    cases hc : (wh && Nat.beq off 0 && Nat.beq (PV.wids l) sz) with
    | true =>
      have e : (PV.agg l).getAt wh sz off = .agg l := by rw [PV.getAt, hc]
      rw [e]
      simp only [Bool.and_eq_true] at hc
      have := Nat.eq_of_beq_eq_true hc.1.2
      subst this
      exact ⟨u, h, fun j hj => by rw [Nat.zero_add], by omega⟩
    | false =>
      have e : (PV.agg l).getAt wh sz off = PV.getAts wh sz l off := by rw [PV.getAt, hc]
      rw [e] at hne ⊢
      obtain ⟨us, h1, rfl⟩ := h.rep
      obtain ⟨v, q1, q2, q3⟩ := getAts_rep h1 hne
      refine ⟨v, q1, fun j hj => ?_, q3⟩
      rw [← q2 j hj]
      simp [Value.cells]
  | .arr n r, off, u, h, hne => by
    cases hc : (wh && Nat.beq off 0 && Nat.beq n sz) with
    | true =>
      have e : (PV.arr n r).getAt wh sz off = .arr n r := by rw [PV.getAt, hc]
      rw [e]
      simp only [Bool.and_eq_true] at hc
      have := Nat.eq_of_beq_eq_true hc.1.2
      subst this
      exact ⟨u, h, fun j hj => by rw [Nat.zero_add], by omega⟩
    | false =>
      cases hl : Nat.blt off n with
      | false =>
        have e : (PV.arr n r).getAt wh sz off = .undef := by rw [PV.getAt, hc]; dsimp only; rw [hl]
        exact absurd e hne
      | true =>
        have e : (PV.arr n r).getAt wh sz off = r.get (off : Int) := by rw [PV.getAt, hc]; dsimp only; rw [hl]
        rw [e]
        have hlt : off < n := by simpa using hl
        obtain ⟨h1, rfl⟩ := h.rep
        have hr := get_vals r G w (i := off) (by omega)
        have hf := vals_flat r r.vals[off] (List.getElem_mem _)
        have hw : (r.get (off : Int)).wid = 1 := by cases r <;> rfl
        refine ⟨_, .of_one hr hf hw, fun j hj => ?_, by rw [hw]; show off + 1 ≤ n; omega⟩
        rw [cells_one hf] at hj ⊢
        have : j = 0 := by simpa using hj
        subst this
        simp [Value.cells, h1, hlt]
  | .undef, off, u, h, hne => leaf_rep (fun _ e => by cases e) (fun _ _ e => by cases e) h hne
  | .int k z, off, u, h, hne => leaf_rep (fun _ e => by cases e) (fun _ _ e => by cases e) h hne
  | .bool b, off, u, h, hne => leaf_rep (fun _ e => by cases e) (fun _ _ e => by cases e) h hne
  | .str l, off, u, h, hne => leaf_rep (fun _ e => by cases e) (fun _ _ e => by cases e) h hne
  | .raw v, off, u, h, hne => leaf_rep (fun _ e => by cases e) (fun _ _ e => by cases e) h hne
  | .tup l, off, u, h, hne => leaf_rep (fun _ e => by cases e) (fun _ _ e => by cases e) h hne
  | .row nl r t, off, u, h, hne => leaf_rep (fun _ e => by cases e) (fun _ _ e => by cases e) h hne
  | .vec nl s l t, off, u, h, hne => leaf_rep (fun _ e => by cases e) (fun _ _ e => by cases e) h hne
  | .ep r t i, off, u, h, hne => leaf_rep (fun _ e => by cases e) (fun _ _ e => by cases e) h hne
  | .epv s l t i o, off, u, h, hne => leaf_rep (fun _ e => by cases e) (fun _ _ e => by cases e) h hne
  | .ptr n o, off, u, h, hne => leaf_rep (fun _ e => by cases e) (fun _ _ e => by cases e) h hne
  | .pix n o i, off, u, h, hne => leaf_rep (fun _ e => by cases e) (fun _ _ e => by cases e) h hne
  | .asl n o lo len, off, u, h, hne => leaf_rep (fun _ e => by cases e) (fun _ _ e => by cases e) h hne
  | .gp g o, off, u, h, hne => leaf_rep (fun _ e => by cases e) (fun _ _ e => by cases e) h hne
  | .gix g o i, off, u, h, hne => leaf_rep (fun _ e => by cases e) (fun _ _ e => by cases e) h hne
  | .fn f a b, off, u, h, hne => leaf_rep (fun _ e => by cases e) (fun _ _ e => by cases e) h hne
theorem getAts_rep {wh : Bool} {sz : Nat} : ∀ {l : List PV} {off : Nat} {us : List Value}, RepL l G w us → PV.getAts wh sz l off ≠ .undef → ∃ v, Full (PV.getAts wh sz l off) G w v ∧ (∀ j, j < v.cells.size → (us.flatMap fun u => u.cells.toList)[off + j]? = v.cells[j]?) ∧ off + (PV.getAts wh sz l off).wid ≤ PV.wids l
  | [], off, us, h, hne => absurd rfl hne
  | x :: l, off, us, h, hne => by
    obtain ⟨u, us', rfl, h1, h2, h3, h4⟩ := h
    cases hb : Nat.blt off x.wid with
    | true =>
      have e : PV.getAts wh sz (x :: l) off = x.getAt wh sz off := by rw [PV.getAts, hb]
      rw [e] at hne ⊢
      obtain ⟨v, q1, q2, q3⟩ := getAt_rep ⟨h1, h2, h3⟩ hne
      refine ⟨v, q1, fun j hj => ?_, by show _ ≤ x.wid + PV.wids l; omega⟩
      rw [List.flatMap_cons, List.getElem?_append_left (by rw [Array.length_toList, h2, ← q1.wid] at *; have := q1.wid; omega), Array.getElem?_toList]
      exact q2 j hj
    | false =>
      have e : PV.getAts wh sz (x :: l) off = PV.getAts wh sz l (off - x.wid) := by rw [PV.getAts, hb]
      rw [e] at hne ⊢
      have hge : x.wid ≤ off := by
        rcases Nat.lt_or_ge off x.wid with h | h
        · rw [show Nat.blt off x.wid = true by simpa using h] at hb; cases hb
        · exact h
      obtain ⟨v, q1, q2, q3⟩ := getAts_rep h4 hne
      refine ⟨v, q1, fun j hj => ?_, by show _ ≤ x.wid + PV.wids l; omega⟩
      rw [← q2 j hj, List.flatMap_cons, List.getElem?_append_right (by rw [Array.length_toList, h2]; omega), Array.length_toList, h2]
      congr 1; omega
end
end Go.Vc


/- A calculus of Go's functions by their values: operations of values alone. -/
namespace Go.Vc
open Go.RowKit
variable {P : Program} {G : Gh} {w : World}

/-- What an operation comes to, if what it asks holds. -/
def OpR.Is (r : OpR) (v : PV) : Prop := r = .ok v ∨ ∃ p, r = .need p v ∧ p
theorem OpR.Is.ok {a v : PV} (h : (OpR.ok a).Is v) : a = v := by
  rcases h with h | ⟨p, h, -⟩
  · injection h
  · cases h
theorem OpR.Is.need {p : Prop} {a v : PV} (h : (OpR.need p a).Is v) : p ∧ a = v := by
  rcases h with h | ⟨q, h, hq⟩
  · cases h
  · injection h with h1 h2; exact ⟨by rw [h1]; exact hq, h2⟩
theorem OpR.Is.bad {n : Nat} {v : PV} (h : (OpR.bad n).Is v) : False := by
  rcases h with h | ⟨q, h, hq⟩ <;> cases h
theorem sameKind_eq {a b : IntKind} (h : sameKind a b = true) : a = b := by
  cases a <;> cases b <;> first | rfl | cases h
theorem i64_in {z : Int} (h : inI64 z) : IntKind.i64.wrap z = z := IntWalk.i64_in z h
def binSem (op : BinOp) (t : TypeId) (X Y : Operand) (a b : Value) : Sem Value := do eqGuard op t X Y a b; Go.binOp op t a b
theorem bin_int (op : BinOp) (t : TypeId) (X Y : Operand) (k : IntKind) (a b : Int) (w : World) (h1 : op ≠ .shl) (h2 : op ≠ .shr) : (binSem op t X Y (.int k a) (.int k b)).run P w =
    (match op with
    | .add | .sub | .mul => Op.intArith op k a b
    | .quo | .rem => Op.intDiv op k a b
    | .and | .or | .xor | .andNot => Op.intBits op k a b
    | _ => Op.intCmp op a b).run P w := by
  cases op <;> first | exact absurd rfl h1 | exact absurd rfl h2 | (simp [binSem, eqGuard, Go.binOp])
theorem bin_str (op : BinOp) (t : TypeId) (X Y : Operand) (a b : ByteArray) (w : World) : (binSem op t X Y (.string a) (.string b)).run P w = (Op.stringOp op a b).run P w := by
  cases op <;> simp [binSem, eqGuard, Go.binOp]
/-- It gives, in whatever world. -/
def Gives (P : Program) (s : Sem Value) (v : PV) (G : Gh) (w : World) : Prop := ∃ u, (∀ w', s.run P w' = .ok u w') ∧ Rep v G w u
theorem num_ok {k : IntKind} {z : Int} {v : PV} (h : (numR k z).Is v) : v = .int k (k.wrap z) := by
  unfold numR at h
  cases k
  case i64 =>
    obtain ⟨h1, rfl⟩ := h.need
    rw [i64_in h1]
  all_goals exact h.ok.symm
theorem int_ok {op : BinOp} {t : TypeId} {X Y : Operand} {k : IntKind} {a b : Int} {v : PV} (h1 : op ≠ .shl) (h2 : op ≠ .shr) (h : (intR op k a b).Is v) : Gives P (binSem op t X Y (.int k a) (.int k b)) v G w := by
  unfold Gives
  simp only [bin_int op t X Y k a b _ h1 h2]
  cases op
  case add => rw [num_ok h]; exact ⟨_, fun _ => rfl, rfl⟩
  case sub => rw [num_ok h]; exact ⟨_, fun _ => rfl, rfl⟩
  case mul => rw [num_ok h]; exact ⟨_, fun _ => rfl, rfl⟩
  case quo =>
    have key : 0 ≤ a → 0 < b → ∀ w, (Op.intDiv .quo k a b).run P w = .ok (.int k (k.wrap (a / b))) w := fun ha hb w => by
      unfold Op.intDiv
      rw [if_neg (by omega), Int.tdiv_eq_ediv_of_nonneg ha]; rfl
    cases k
    case i64 =>
      obtain ⟨⟨ha, hb, hc⟩, rfl⟩ := OpR.Is.need h
      refine ⟨_, key ha hb, ?_⟩
      rw [i64_in ⟨by have := Int.ediv_nonneg ha (by omega : 0 ≤ b); omega, by have := Int.ediv_le_self b ha; omega⟩]
      rfl
    all_goals (obtain ⟨⟨ha, hb⟩, rfl⟩ := OpR.Is.need h; exact ⟨_, key ha hb, rfl⟩)
  case rem =>
    obtain ⟨⟨ha, hb⟩, rfl⟩ := h.need
    refine ⟨.int k (a % b), fun w' => ?_, rfl⟩
    show (Op.intDiv .rem k a b).run P w' = _
    unfold Op.intDiv
    rw [if_neg (by omega), Int.tmod_eq_emod_of_nonneg ha]; rfl
  case and => rw [← h.ok]; exact ⟨_, fun _ => rfl, rfl⟩
  case or => rw [← h.ok]; exact ⟨_, fun _ => rfl, rfl⟩
  case xor => rw [← h.ok]; exact ⟨_, fun _ => rfl, rfl⟩
  case andNot => rw [← h.ok]; exact ⟨_, fun _ => rfl, rfl⟩
  case eql => rw [← h.ok]; exact ⟨.bool (a == b), fun _ => rfl, rfl⟩
  case neq => rw [← h.ok]; exact ⟨.bool (a != b), fun _ => rfl, rfl⟩
  case lss => rw [← h.ok]; exact ⟨_, fun _ => rfl, rfl⟩
  case leq => rw [← h.ok]; exact ⟨_, fun _ => rfl, rfl⟩
  case gtr => rw [← h.ok]; exact ⟨_, fun _ => rfl, rfl⟩
  case geq => rw [← h.ok]; exact ⟨_, fun _ => rfl, rfl⟩
  case shl => exact absurd rfl h1
  case shr => exact absurd rfl h2
theorem bytes_list (l : Bs) : (⟨l.toArray⟩ : ByteArray).toList = l := by rw [ByteArray.toList_eq]
theorem beq_dec (a b : Bs) : (a == b) = decide (a = b) := by rw [Bool.eq_iff_iff]; simp
theorem less_ltB : ∀ l m : Bs, Op.bytesLess l m = ltB l m
  | _, [] => by cases ‹Bs› <;> rfl
  | [], _ :: _ => rfl
  | a :: x, b :: y => by
    unfold Op.bytesLess ltB
    rw [less_ltB x y]
    congr 1
theorem ltB_tri : ∀ l m : Bs, ltB l m = !(ltB m l || decide (l = m))
  | [], [] => rfl
  | [], _ :: _ => by simp [ltB]
  | _ :: _, [] => by simp [ltB]
  | a :: x, b :: y => by
    have ih := ltB_tri x y
    unfold ltB
    rw [ih]
    rcases Nat.lt_trichotomy a.toNat b.toNat with h | h | h
    · have : a ≠ b := fun e => by rw [e] at h; omega
      simp [h, this, this.symm, Nat.lt_asymm h]
    · have : a = b := UInt8.toNat_inj.1 h
      subst this; simp
    · have : a ≠ b := fun e => by rw [e] at h; omega
      simp [h, this, this.symm, Nat.lt_asymm h]
theorem str_ok {op : BinOp} {t : TypeId} {X Y : Operand} {a b : Bs} {v : PV} (h : (strR op a b).Is v) : Gives P (binSem op t X Y (.string ⟨a.toArray⟩) (.string ⟨b.toArray⟩)) v G w := by
  unfold Gives
  simp only [bin_str op t X Y _ _ _]
  have hb : ∀ l : Bs, (⟨l.toArray⟩ : ByteArray).size = l.length := fun l => by simp [ByteArray.size]
  cases op
  case add =>
    obtain ⟨h1, rfl⟩ := h.need
    refine ⟨.string (⟨a.toArray⟩ ++ ⟨b.toArray⟩), fun w' => ?_, ?_⟩
    · unfold Op.stringOp
      simp only [hb]
      unfold maxLen at h1
      rw [if_neg (by simp [IntKind.max, IntKind.bits, IntKind.signed]; omega)]
      rfl
    · show _ = _
      congr 1
  case eql => rw [← h.ok]; exact ⟨_, fun _ => rfl, by simp only [bytes_list, beq_dec]; rfl⟩
  case neq => rw [← h.ok]; exact ⟨_, fun _ => rfl, by simp only [bytes_list, beq_dec]; rfl⟩
  case lss => rw [← h.ok]; exact ⟨_, fun _ => rfl, by simp only [bytes_list, less_ltB]; rfl⟩
  case geq => rw [← h.ok]; exact ⟨_, fun _ => rfl, by simp only [bytes_list, less_ltB]; rfl⟩
  case gtr =>
    rw [← h.ok]
    refine ⟨_, fun _ => rfl, ?_⟩
    simp only [bytes_list, less_ltB]
    show _ = _
    rw [ltB_tri b a]
    congr 3
    rw [beq_dec, Bool.eq_iff_iff]; simp [eq_comm]
  case leq =>
    rw [← h.ok]
    refine ⟨_, fun _ => rfl, ?_⟩
    simp only [bytes_list, less_ltB]
    show _ = _
    rw [ltB_tri b a, Bool.not_not]
    congr 2
    rw [beq_dec, Bool.eq_iff_iff]; simp [eq_comm]
  all_goals exact h.bad.elim
end Go.Vc


/- A calculus of Go's functions by their values: parts, equality, lengths, cuts. -/
namespace Go.Vc
open Go.RowKit
variable {P : Program} {G : Gh} {w : World}

theorem hasT_some {t : TypeId} (h : hasT P t = true) : ∃ d, P.underlying t = some d := Option.isSome_iff_exists.1 h
theorem run_size {t : TypeId} (h : hasT P t = true) (w : World) : (sizeOf t).run P w = .ok (sizeT P t) w := by
  obtain ⟨d, hd⟩ := hasT_some h
  obtain ⟨i, hi⟩ := info_of_underlying hd
  unfold sizeOf typeInfo sizeT
  simp [Sem.run_bind, run_program, hi]
theorem run_isAgg {t : TypeId} (h : hasT P t = true) (w : World) : (isAgg t).run P w = .ok (aggT P t) w := by
  obtain ⟨d, hd⟩ := hasT_some h
  unfold isAgg aggT
  simp only [Sem.run_bind, run_underlying hd, Result.andThen_ok, hd]
  cases d <;> rfl
theorem isAgg_agg {y : PV} {v : Value} (h : Full y G w v) (ha : y.isAgg = true) : ∃ cs, v = .agg cs := by
  cases y with
  | arr n r => exact ⟨_, h.rep.2⟩
  | agg l => obtain ⟨us, -, e⟩ := h.rep; exact ⟨_, e⟩
  | tup l =>
    obtain ⟨us, -, rfl⟩ := h.rep
    have := h.flat (.tuple us.toArray) (by simp [Value.cells])
    cases this
  | _ => cases ha
/-- A part. -/
theorem part_ok {t : TypeId} {x : PV} {off : Nat} {cs : Array Value} (h : Full x G w (.agg cs)) (hne : partV P t x off ≠ .undef) : ∃ v, (∀ w', (part t cs off).run P w' = .ok v w') ∧ Full (partV P t x off) G w v := by
  unfold partV at hne ⊢
  dsimp only at hne ⊢
  split at hne
  · rename_i h1 h2 h3 h4
    obtain ⟨v, f, hl, hw⟩ := getAt_rep (wh := aggT P t) (sz := sizeT P t) h hne
    obtain ⟨vs, rfl⟩ := isAgg_agg f h3
    refine ⟨_, fun w' => ?_, f⟩
    unfold part
    simp only [Sem.run_bind, run_isAgg h1, Result.andThen_ok, h2, if_true, run_size h1, Sem.run_pure]
    have hs : vs.size = sizeT P t := by
      have := f.wid
      rw [Nat.eq_of_beq_eq_true h4] at this
      exact this
    have hle : off + vs.size ≤ cs.size := by
      have e1 : cs.size = x.wid := h.wid
      have e2 : vs.size = (x.getAt (aggT P t) (sizeT P t) off).wid := f.wid
      omega
    congr 2
    apply Array.ext_getElem?
    intro i
    by_cases hi : i < vs.size
    · have := hl i hi
      simp only [Value.cells] at this
      rw [← this]
      simp [Array.getElem?_extract]
      intro hi2
      omega
    · rw [Array.getElem?_eq_none (by simp; omega), Array.getElem?_eq_none (by omega)]
  · rename_i h1 h2 h3
    obtain ⟨v, f, hl, hw⟩ := getAt_rep (wh := aggT P t) (sz := sizeT P t) h hne
    have hf := f.rep.one h3 hne
    refine ⟨v, fun w' => ?_, f⟩
    unfold part
    simp only [Sem.run_bind, run_isAgg h1, Result.andThen_ok, h2]
    have := hl 0 (by rw [cells_one hf]; simp)
    rw [cells_one hf] at this
    simp [Value.cells] at this
    simp [this]
  · exact absurd rfl hne
theorem Full.agg {l : List PV} {u : Value} (h : Rep (.agg l) G w u) : Full (.agg l) G w u := Full.of h (fun _ e => by cases e) (fun e => by cases e)
theorem okV_is {x v : PV} (h : (okV x).Is v) : x = v ∧ x ≠ .undef := by
  unfold okV at h
  split at h
  · exact h.bad.elim
  · rename_i hne; exact ⟨h.ok, fun e => hne e⟩
theorem field_ok {t : TypeId} {x v : PV} {f : Nat} {u : Value} (h : (fieldR P t x f).Is v) (hu : Rep x G w u) : Gives P (Instr.field t u f) v G w := by
  unfold fieldR at h
  split at h
  · rename_i fs l hd
    split at h
    · rename_i g hg
      obtain ⟨rfl, hne⟩ := okV_is h
      have hF := Full.agg hu
      obtain ⟨cs, rfl⟩ := isAgg_agg hF rfl
      obtain ⟨q, h1, h2⟩ := part_ok hF hne
      refine ⟨q, fun w' => ?_, h2.rep⟩
      unfold Instr.field
      simp only [Sem.run_bind, run_underlying hd, Result.andThen_ok, hg, asAgg, Sem.run_pure, h1]
    · exact h.bad.elim
  · exact h.bad.elim
theorem cellT_of {e : TypeId} (h : cellT P e = true) : hasT P e = true ∧ sizeT P e = 1 ∧ aggT P e = false := by
  unfold cellT at h
  simp only [Bool.and_eq_true, Bool.not_eq_true'] at h
  exact ⟨h.1.1, Nat.eq_of_beq_eq_true h.1.2, h.2⟩
theorem run_asIntOf {q : IntKind} {i : Int} {w : World} : (asIntOf (.int q i)).run P w = .ok (q, i) w := rfl
theorem bytes_get {l : Bs} {z : Int} (h : within z (lenZ l)) : (⟨l.toArray⟩ : ByteArray)[z.toNat]? = some (l.getD z.toNat 0) := by
  have hlt : z.toNat < l.length := by unfold within lenZ at h; omega
  have : z.toNat < (⟨l.toArray⟩ : ByteArray).size := by simpa [ByteArray.size] using hlt
  rw [getElem?_pos (⟨l.toArray⟩ : ByteArray) z.toNat this]
  congr 1
  have e : (⟨l.toArray⟩ : ByteArray)[z.toNat] = l[z.toNat] := rfl
  rw [e]
  simp [List.getD, hlt]
theorem index_ok {t : TypeId} {x i v : PV} {u b : Value} (h : (indexR P t x i).Is v) (hu : Rep x G w u) (hb : Rep i G w b) : Gives P (Instr.index t u b) v G w := by
  unfold indexR at h
  split at h
  · rename_i l k z hd
    obtain ⟨hz, rfl⟩ := h.need
    rw [show u = _ from hu, show b = _ from hb]
    refine ⟨_, fun w' => ?_, rfl⟩
    unfold Instr.index
    simp only [Sem.run_bind, run_asIntOf, run_underlying hd, Result.andThen_ok]
    rw [if_pos hz.1, bytes_get hz]
    rfl
  · rename_i m e n r k z hd
    split at h
    · rename_i hc
      obtain ⟨hz, rfl⟩ := h.need
      rw [Bool.and_eq_true] at hc
      obtain ⟨c1, c2, c3⟩ := cellT_of hc.1
      have hm := Nat.eq_of_beq_eq_true hc.2
      subst hm
      obtain ⟨hl, rfl⟩ := hu
      rw [show b = _ from hb]
      have hlt : z.toNat < r.vals.length := by unfold within at hz; omega
      have hr := get_vals r G w hlt
      rw [show ((z.toNat : Nat) : Int) = z by unfold within at hz; omega] at hr
      refine ⟨_, fun w' => ?_, hr⟩
      unfold Instr.index
      simp only [Sem.run_bind, run_asIntOf, run_underlying hd, Result.andThen_ok]
      rw [if_pos (show 0 ≤ z ∧ z < (m : Int) from hz)]
      unfold part
      simp [Sem.run_bind, run_size c1, run_isAgg c1, c2, c3, hlt]
    · exact h.bad.elim
  · rename_i m e l k n hd
    split at h
    · rename_i hlt
      obtain ⟨rfl, hne⟩ := okV_is h
      have hF := Full.agg hu
      obtain ⟨cs, rfl⟩ := isAgg_agg hF rfl
      obtain ⟨q, h1, h2⟩ := part_ok hF hne
      have hlt' : n < m := by simpa using hlt
      have hh : hasT P e = true := by
        cases hh : hasT P e with
        | true => rfl
        | false => exact absurd (by unfold partV; rw [hh]) hne
      rw [show b = _ from hb]
      refine ⟨q, fun w' => ?_, h2.rep⟩
      unfold Instr.index
      simp only [Sem.run_bind, run_asIntOf, run_underlying hd, Result.andThen_ok]
      rw [if_pos ⟨by simp, by simp; omega⟩]
      simp only [Sem.run_bind, run_size hh, Result.andThen_ok]
      exact h1 w'
    · exact h.bad.elim
  · exact h.bad.elim
/-- Equality of parts. -/
theorem eqFs_ok {n : Nat} {x y : PV} {a c : Array Value} (hx : Full x G w (.agg a)) (hy : Full y G w (.agg c))
    (ih : ∀ t x y b u v, eqT P n t x y = some b → Rep x G w u → Rep y G w v → ∀ d w', (Op.equalIn (d + 1 + n) t u v).run P w' = .ok b w') :
    ∀ (fs : List Field) (b : Bool), eqFs P (eqT P n) x y fs = some b → ∀ d w', (Op.eqFields (d + 1 + n) a c fs).run P w' = .ok b w'
  | [], b, h, d, w' => by
    unfold eqFs at h; injection h with h; subst h; rfl
  | f :: fs, b, h, d, w' => by
    unfold eqFs at h
    split at h
    · rename_i b1 b2 h1 h2 h3
      injection h with h; subst h
      have hne : f.name ≠ "_" := by simpa using h1
      have und : ∀ z, z = PV.undef → ∀ q, eqT P n f.type z q ≠ some b1 ∧ eqT P n f.type q z ≠ some b1 := by
        intro z hz q
        subst hz
        cases n with
        | zero => exact ⟨by simp [eqT], by simp [eqT]⟩
        | succ n =>
          unfold eqT
          refine ⟨?_, ?_⟩ <;> (intro hh; split at hh <;> first | (injections; done) | cases hh | skip)
          all_goals (rename_i e1 e2; first | cases e1 | cases e2)
      obtain ⟨u, r1, f1⟩ := part_ok (P := P) hx (t := f.type) (off := f.offset) (fun e => (und _ e _).1 h2)
      obtain ⟨v, r2, f2⟩ := part_ok (P := P) hy (t := f.type) (off := f.offset) (fun e => (und _ e _).2 h2)
      have r3 := ih _ _ _ _ _ _ h2 f1.rep f2.rep d w'
      have r4 := eqFs_ok hx hy ih fs b2 h3 d w'
      unfold Op.eqFields
      rw [if_pos hne]
      simp only [Sem.run_bind, r1, r2, r3, Result.andThen_ok]
      cases b1 with
      | true => simpa using r4
      | false => rfl
    · cases h
theorem eqItems_ok {e : TypeId} {k j : IntKind} (he : ∃ q, P.underlying e = some (.int q)) (hs : P.cellsOf e = 1) {l m : List Int} (hkj : k = j) (hl : l.length = m.length) (d : Nat) (w' : World) :
    ∀ (n s : Nat), s + n = l.length → (Op.eqItems (d + 1) e (P.cellsOf e) (l.map fun z => Value.int k z).toArray (m.map fun z => Value.int j z).toArray (List.range' s n)).run P w' = .ok (decide (l.drop s = m.drop s)) w'
  | 0, s, h => by
    rw [List.drop_eq_nil_of_le (by omega), List.drop_eq_nil_of_le (by omega)]; rfl
  | n + 1, s, h => by
    obtain ⟨q, hq⟩ := he
    have hh : hasT P e = true := by unfold hasT; rw [hq]; rfl
    have ha : aggT P e = false := by unfold aggT; rw [hq]
    have ih := eqItems_ok ⟨q, hq⟩ hs hkj hl d w' n (s + 1) (by omega)
    have h1 : s < l.length := by omega
    have h2 : s < m.length := by omega
    have p1 : (part e (l.map fun z => Value.int k z).toArray (s * 1)).run P w' = .ok (.int k l[s]) w' := by
      unfold part
      simp [Sem.run_bind, run_isAgg hh, ha, h1]
    have p2 : (part e (m.map fun z => Value.int j z).toArray (s * 1)).run P w' = .ok (.int j m[s]) w' := by
      unfold part
      simp [Sem.run_bind, run_isAgg hh, ha, h2]
    rw [hs] at ih ⊢
    rw [List.range'_succ]
    unfold Op.eqItems
    subst hkj
    simp only [Sem.run_bind, p1, p2, Result.andThen_ok, run_equalIn_int w' d e k q l[s] m[s] hq]
    rw [List.drop_eq_getElem_cons h1, List.drop_eq_getElem_cons h2]
    by_cases hc : l[s] = m[s]
    · rw [hc]
      simp only [beq_self_eq_true, Bool.not_true, Bool.false_eq_true, if_false, ih, List.cons.injEq, true_and]
    · rw [show (l[s] == m[s]) = false by simpa using hc]
      simp only [Bool.not_false, if_true, Sem.run_pure]
      congr 1; symm
      rw [decide_eq_false_iff_not]
      intro e; injection e with e; exact hc e
theorem eqT_ok : ∀ (n : Nat) (t : TypeId) (x y : PV) (b : Bool) (u v : Value), eqT P n t x y = some b → Rep x G w u → Rep y G w v → ∀ d w', (Op.equalIn (d + 1 + n) t u v).run P w' = .ok b w'
  | 0, t, x, y, b, u, v, h, hu, hv, d, w' => by unfold eqT at h; cases h
  | n + 1, t, x, y, b, u, v, h, hu, hv, d, w' => by
    have e0 : d + 1 + (n + 1) = (d + 1 + n) + 1 := by omega
    rw [e0]
    unfold eqT at h
    split at h
    · rename_i p q hd
      injection h with h; subst h
      rw [show u = _ from hu, show v = _ from hv]
      exact run_equalIn_bool w' _ t p q hd
    · rename_i k0 k p j q hd
      split at h
      · rename_i hk
        have := sameKind_eq hk; subst this
        injection h with h; subst h
        rw [show u = _ from hu, show v = _ from hv, run_equalIn_int w' _ t k k0 p q hd]
        rfl
      · cases h
    · rename_i p q hd
      injection h with h; subst h
      rw [show u = _ from hu, show v = _ from hv, run_equalIn_string w' _ t _ _ hd, bytes_list, bytes_list, beq_dec]
    · rename_i len e p k l q j m hd
      split at h
      · rename_i k0 hc he
        injection h with h; subst h
        simp only [Bool.and_eq_true] at hc
        obtain ⟨⟨⟨⟨c1, c2⟩, c3⟩, c4⟩, c5⟩ := hc
        have := sameKind_eq c1; subst this
        have e2 := Nat.eq_of_beq_eq_true c2
        have e3 := Nat.eq_of_beq_eq_true c3
        have e4 := Nat.eq_of_beq_eq_true c4
        subst e2
        obtain ⟨hl, rfl⟩ := hu
        obtain ⟨hl', rfl⟩ := hv
        obtain ⟨i, hi⟩ := info_of_underlying he
        rw [run_equalIn_array w' _ _ _ hd hi]
        have hs : P.cellsOf e = 1 := by
          unfold Program.cellsOf; unfold sizeT at e4; rw [hi] at e4 ⊢; simpa using e4
        have hl2 : l.length = p := by simpa [BRow.vals] using hl
        have hl3 : m.length = p := by rw [← e3]; simpa [BRow.vals] using hl'
        have := eqItems_ok (P := P) (k := k) (j := k) ⟨k0, he⟩ hs (l := l) (m := m) rfl (by omega) (d + n) w' p 0 (by omega)
        rw [List.drop_zero, List.drop_zero] at this
        rw [List.range_eq_range', show d + 1 + n = d + n + 1 by omega]
        exact this
      · cases h
    · rename_i fs l m hd
      split at h
      · rename_i hc
        rw [Bool.or_eq_false_iff] at hc
        have hU := Full.agg hu
        have hV := Full.agg hv
        obtain ⟨a, rfl⟩ := isAgg_agg hU rfl
        obtain ⟨c, rfl⟩ := isAgg_agg hV rfl
        have hf : P.fieldsOf t = fs := by unfold Program.fieldsOf; rw [hd]
        rw [run_equalIn_struct w' _ _ _ _ (by rw [hf]; exact hd) hc.1, hf]
        exact eqFs_ok hU hV (fun t x y b u v h1 h2 h3 d w' => eqT_ok n t x y b u v h1 h2 h3 d w') fs.toList b h d w'
      · cases h
    · cases h
/-- What is compared. -/
theorem eqT_shape {n : Nat} {t : TypeId} {x y : PV} {r : Bool} {u v : Value} (h : eqT P n t x y = some r) (hu : Rep x G w u) (hv : Rep y G w v) :
    (∃ p q, u = .bool p ∧ v = .bool q) ∨ (∃ k p j q, u = .int k p ∧ v = .int j q) ∨ (∃ p q, u = .string p ∧ v = .string q) ∨ (∃ a c, u = .agg a ∧ v = .agg c ∧ ((∃ l, x = .agg l) ∨ ∃ n r, x = .arr n r)) := by
  cases n with
  | zero => unfold eqT at h; cases h
  | succ n =>
    unfold eqT at h
    split at h
    · exact .inl ⟨_, _, hu, hv⟩
    · exact .inr (.inl ⟨_, _, _, _, hu, hv⟩)
    · exact .inr (.inr (.inl ⟨_, _, hu, hv⟩))
    · exact .inr (.inr (.inr ⟨_, _, hu.2, hv.2, .inr ⟨_, _, rfl⟩⟩))
    · obtain ⟨a, rfl⟩ := isAgg_agg (Full.agg hu) rfl
      obtain ⟨c, rfl⟩ := isAgg_agg (Full.agg hv) rfl
      exact .inr (.inr (.inr ⟨_, _, rfl, rfl, .inl ⟨_, rfl⟩⟩))
    · cases h
theorem eqN_ok {t : TypeId} {X Y : Operand} {x y : PV} {r : Bool} {u v : Value} (hg : guardOk P t x = true) (h : eqT P 6 t x y = some r) (hu : Rep x G w u) (hv : Rep y G w v) (w' : World) :
    (binSem .eql t X Y u v).run P w' = .ok (.bool r) w' ∧ (binSem .neq t X Y u v).run P w' = .ok (.bool !r) w' := by
  have he := eqT_ok 6 t x y r u v h hu hv 9993 w'
  have he' : (Op.equalIn 10000 t u v).run P w' = .ok r w' := he
  have he2 : (Op.equal t u v).run P w' = .ok r w' := he
  rcases eqT_shape h hu hv with ⟨p, q, rfl, rfl⟩ | ⟨k, p, j, q, rfl, rfl⟩ | ⟨p, q, rfl, rfl⟩ | ⟨a, c, rfl, rfl, hx⟩
  · refine ⟨?_, ?_⟩
    · show (do Pure.pure (Value.bool (← Op.equal t (.bool p) (.bool q))) : Sem Value).run P w' = _
      rw [Sem.run_bind, he2]; rfl
    · show (do Pure.pure (Value.bool (!(← Op.equal t (.bool p) (.bool q)))) : Sem Value).run P w' = _
      rw [Sem.run_bind, he2]; rfl
  · unfold eqT at h
    split at h
    · cases hu
    · rename_i k0 k1 p1 j1 q1 hd
      injection (show Value.int k p = .int k1 p1 from hu) with h1 h2
      injection (show Value.int j q = .int j1 q1 from hv) with h3 h4
      subst h1; subst h2; subst h3; subst h4
      split at h
      · rename_i hk
        have := sameKind_eq hk; subst this
        injection h with h; subst h
        refine ⟨?_, ?_⟩
        · rw [bin_int _ _ _ _ _ _ _ _ (by decide) (by decide)]; rfl
        · rw [bin_int _ _ _ _ _ _ _ _ (by decide) (by decide)]; rfl
      · cases h
    · cases hu
    · exact absurd hu.2 (by intro e; cases e)
    · obtain ⟨us, -, e⟩ := hu; cases e
    · cases h
  · unfold eqT at h
    split at h
    · cases hu
    · cases hu
    · rename_i p1 q1 hd
      injection (show Value.string p = .string ⟨p1.toArray⟩ from hu) with h1
      injection (show Value.string q = .string ⟨q1.toArray⟩ from hv) with h2
      subst h1; subst h2
      injection h with h; subst h
      refine ⟨?_, ?_⟩
      · rw [bin_str]; simp only [Op.stringOp, bytes_list, beq_dec]; rfl
      · rw [bin_str]; simp only [Op.stringOp, bytes_list, beq_dec]; rfl
    · exact absurd hu.2 (by intro e; cases e)
    · obtain ⟨us, -, e⟩ := hu; cases e
    · cases h
  · have hgt : P.eqGuardType P.depth t = false := by
      rcases hx with ⟨l, rfl⟩ | ⟨n, r, rfl⟩
      · simpa [guardOk] using hg
      · simpa [guardOk] using hg
    refine ⟨?_, ?_⟩
    · unfold binSem
      rw [Sem.run_bind, run_eqGuard_agg w' _ _ _ _ _ _ hgt, Result.andThen_ok, run_eql_struct, he']; rfl
    · unfold binSem
      rw [Sem.run_bind, run_eqGuard_agg w' _ _ _ _ _ _ hgt, Result.andThen_ok, run_neq_struct, he']; rfl
end Go.Vc

