/- What the evaluator's values and memory stand for. -/
import Derived.Test.YtniednnklbdciaaDoorEvD
import Derived.Below
import Derived.Deep.AppendSrc
import Derived.Deep.Upon
set_option linter.unusedVariables false
set_option linter.unusedSectionVars false
set_option linter.unusedSimpArgs false
namespace Go.Ev
variable [Sg]

/-- Where a block lies, and how much its array bears. -/
abbrev Bt := Nat → Option (Nat × Nat)
abbrev flatV (v : Value) : Bool := v.oneCell'
mutual
def con (β : Bt) : AV → Option Value
  | .nat n => some (.int .i64 n)
  | .u8 n => some (.int .u8 n)
  | .int k z => some (.int k z)
  | .bool b => some (.bool b)
  | .str n l => if n = l.length ∧ l.all (· < 256) = true then some (.string (bytesOf l)) else none
  | .raw v => if flatV v = true then some v else none
  | .ptr b off => (β b).map fun c => .pointer (some ⟨c.1, off, none⟩)
  | .slice b off len ex d => (β b).bind fun c => if ex = true ∨ d + len ≤ c.2 then some (.slice (some ⟨c.1, off, none⟩) len (if ex = true then d else c.2 - d)) else none
  | .map b => (β b).map fun c => .map (some c.1)
  | .iface t v => (con β v).map fun v => .iface t v
  | .agg l => (conL β l).bind fun vs => if vs.all flatV = true then some (.agg vs.toArray) else none
  | .tup l => (conL β l).map fun vs => .tuple vs.toArray
  | .fn f a b => (conL β a).bind fun x => (conL β b).map fun y => .func f x.toArray y.toArray
  | .sym i => if flatV (Sg.val i) = true then some (Sg.val i) else none
def conL (β : Bt) : List AV → Option (List Value)
  | [] => some []
  | x :: xs => (con β x).bind fun v => (conL β xs).map fun vs => v :: vs
end
def Le (β β' : Bt) : Prop := ∀ b x, β b = some x → β' b = some x
theorem Le.refl (β : Bt) : Le β β := fun _ _ h => h
theorem Le.trans {β β' β'' : Bt} (h : Le β β') (h' : Le β' β'') : Le β β'' := fun b x e => h' b x (h b x e)
mutual
theorem con_mono {β β' : Bt} (hl : Le β β') : ∀ {x : AV} {v : Value}, con β x = some v → con β' x = some v
  | .nat n, v, h => h
  | .u8 n, v, h => h
  | .int k z, v, h => h
  | .bool b, v, h => h
  | .str n l, v, h => by simpa [con] using h
  | .raw u, v, h => by simpa [con] using h
  | .ptr b off, v, h => by
    simp only [con, Option.map_eq_some_iff] at h ⊢
    obtain ⟨c, hc, rfl⟩ := h
    exact ⟨c, hl _ _ hc, rfl⟩
  | .slice b off len ex d, v, h => by
    simp only [con, Option.bind_eq_some_iff] at h ⊢
    obtain ⟨c, hc, hv⟩ := h
    exact ⟨c, hl _ _ hc, hv⟩
  | .map b, v, h => by
    simp only [con, Option.map_eq_some_iff] at h ⊢
    obtain ⟨c, hc, rfl⟩ := h
    exact ⟨c, hl _ _ hc, rfl⟩
  | .iface t x, v, h => by
    simp only [con, Option.map_eq_some_iff] at h ⊢
    obtain ⟨c, hc, rfl⟩ := h
    exact ⟨c, con_mono hl hc, rfl⟩
  | .agg l, v, h => by
    simp only [con, Option.bind_eq_some_iff] at h ⊢
    obtain ⟨c, hc, hv⟩ := h
    exact ⟨c, conL_mono hl hc, hv⟩
  | .tup l, v, h => by
    simp only [con, Option.map_eq_some_iff] at h ⊢
    obtain ⟨c, hc, hv⟩ := h
    exact ⟨c, conL_mono hl hc, hv⟩
  | .fn f a b, v, h => by
    simp only [con, Option.bind_eq_some_iff, Option.map_eq_some_iff] at h ⊢
    obtain ⟨x, hx, y, hy, hv⟩ := h
    exact ⟨x, conL_mono hl hx, y, conL_mono hl hy, hv⟩
  | .sym i, v, h => by simpa [con] using h
theorem conL_mono {β β' : Bt} (hl : Le β β') : ∀ {l : List AV} {vs : List Value}, conL β l = some vs → conL β' l = some vs
  | [], vs, h => h
  | x :: xs, vs, h => by
    simp only [conL, Option.bind_eq_some_iff, Option.map_eq_some_iff] at h ⊢
    obtain ⟨v, hv, us, hu, rfl⟩ := h
    exact ⟨v, con_mono hl hv, us, conL_mono hl hu, rfl⟩
end
theorem conL_cons {β : Bt} {x : AV} {xs : List AV} {vs : List Value} (h : conL β (x :: xs) = some vs) : ∃ v us, con β x = some v ∧ conL β xs = some us ∧ vs = v :: us := by
  simp only [conL, Option.bind_eq_some_iff, Option.map_eq_some_iff] at h
  obtain ⟨v, hv, us, hu, rfl⟩ := h
  exact ⟨v, us, hv, hu, rfl⟩
theorem conL_mk {β : Bt} {x : AV} {xs : List AV} {v : Value} {us : List Value} (h : con β x = some v) (h' : conL β xs = some us) : conL β (x :: xs) = some (v :: us) := by
  simp only [conL, h, h']; rfl
theorem conL_nil {β : Bt} {vs : List Value} (h : conL β [] = some vs) : vs = [] := by
  simp only [conL] at h; injection h with h; exact h.symm
theorem conL_len {β : Bt} : ∀ {l : List AV} {vs : List Value}, conL β l = some vs → l.length = vs.length
  | [], vs, h => by rw [conL_nil h]; rfl
  | x :: xs, vs, h => by
    obtain ⟨v, us, -, h2, rfl⟩ := conL_cons h
    simp [conL_len h2]
theorem conL_get {β : Bt} : ∀ {l : List AV} {vs : List Value} {i : Nat} {x : AV}, conL β l = some vs → l[i]? = some x → ∃ v, vs[i]? = some v ∧ con β x = some v
  | [], vs, i, x, h, hx => by simp at hx
  | y :: ys, vs, 0, x, h, hx => by
    obtain ⟨v, us, h1, h2, rfl⟩ := conL_cons h
    simp at hx; subst hx
    exact ⟨v, by simp, h1⟩
  | y :: ys, vs, i + 1, x, h, hx => by
    obtain ⟨v, us, h1, h2, rfl⟩ := conL_cons h
    obtain ⟨u, h3, h4⟩ := conL_get (i := i) h2 (by simpa using hx)
    exact ⟨u, by simpa using h3, h4⟩
theorem conL_of {β : Bt} : ∀ {l : List AV} {vs : List Value}, l.length = vs.length → (∀ (i : Nat) (x : AV) (v : Value), l[i]? = some x → vs[i]? = some v → con β x = some v) → conL β l = some vs
  | [], [], _, _ => rfl
  | [], _ :: _, h, _ => by simp at h
  | _ :: _, [], h, _ => by simp at h
  | x :: xs, v :: vs, h, h2 => conL_mk (h2 0 x v (by simp) (by simp)) (conL_of (by simpa using h) (fun i y u hy hu => h2 (i + 1) y u (by simpa using hy) (by simpa using hu)))
theorem conL_append {β : Bt} : ∀ {l m : List AV} {us vs : List Value}, conL β l = some us → conL β m = some vs → conL β (l ++ m) = some (us ++ vs)
  | [], m, us, vs, h, h' => by rw [conL_nil h]; exact h'
  | x :: xs, m, us, vs, h, h' => by
    obtain ⟨v, ws, h1, h2, rfl⟩ := conL_cons h
    exact conL_mk h1 (conL_append h2 h')
theorem conL_take {β : Bt} {l : List AV} {vs : List Value} (n : Nat) (h : conL β l = some vs) : conL β (l.take n) = some (vs.take n) := by
  have hl := conL_len h
  refine conL_of (by simp [hl]) (fun i x v hx hv => ?_)
  rw [List.getElem?_take] at hx hv
  split at hx
  · rename_i hi
    rw [if_pos hi] at hv
    obtain ⟨u, h1, h2⟩ := conL_get h hx
    rw [h1] at hv; injection hv with hv; subst hv; exact h2
  · cases hx
theorem conL_drop {β : Bt} {l : List AV} {vs : List Value} (n : Nat) (h : conL β l = some vs) : conL β (l.drop n) = some (vs.drop n) := by
  have hl := conL_len h
  refine conL_of (by simp [hl]) (fun i x v hx hv => ?_)
  rw [List.getElem?_drop] at hx hv
  obtain ⟨u, h1, h2⟩ := conL_get h hx
  rw [h1] at hv; injection hv with hv; subst hv; exact h2

def EntR (β : Bt) : List (AV × AV × Nat) → List MapEntry → Prop
  | [], [] => True
  | e :: es, m :: ms => con β e.1 = some m.key ∧ con β e.2.1 = some m.val ∧ m.born = e.2.2 ∧ EntR β es ms
  | _, _ => False
theorem EntR.mono {β β' : Bt} (hl : Le β β') : ∀ {es : List (AV × AV × Nat)} {ms : List MapEntry}, EntR β es ms → EntR β' es ms
  | [], [], _ => trivial
  | [], _ :: _, h => h
  | _ :: _, [], h => h
  | e :: es, m :: ms, ⟨h1, h2, h3, h4⟩ => ⟨con_mono hl h1, con_mono hl h2, h3, EntR.mono hl h4⟩
/-- What a block stands for. -/
def BlkR (β : Bt) (κ : Nat) (o : Option Obj) : Blk → Prop
  | .cells e len c ex esz => ∃ cs fz, o = some (.cells cs e fz) ∧ (∀ i, i < cs.size → ¬ (fz.1 ≤ i ∧ i < fz.2)) ∧
      (∀ i, i < len → ∃ av u, c.get (path i) = some av ∧ cs[i]? = some u ∧ con β av = some u ∧ flatV u = true) ∧ len ≤ cs.size ∧ (ex = true → cs.size = len) ∧ (ex = false → cs.size = κ * esz)
  | .map es clock => ∃ ms, o = some (.map ms clock) ∧ EntR β es ms.toList
  | .miter b since => ∃ cb κ', β b = some (cb, κ') ∧ o = some (.mapIter (some cb) since #[] since)
  | .iter l pos => o = some (.stringIter (bytesOf l) pos) ∧ l.all (· < 256) = true
theorem BlkR.mono {β β' : Bt} (hl : Le β β') {κ : Nat} {o : Option Obj} {b : Blk} (h : BlkR β κ o b) : BlkR β' κ o b := by
  cases b with
  | cells e len c ex esz =>
    obtain ⟨cs, fz, h1, h2, h3, h4⟩ := h
    refine ⟨cs, fz, h1, h2, fun i hi => ?_, h4⟩
    obtain ⟨av, u, a, b, c, d⟩ := h3 i hi
    exact ⟨av, u, a, b, con_mono hl c, d⟩
  | map es clock =>
    obtain ⟨ms, h1, h2⟩ := h
    exact ⟨ms, h1, h2.mono hl⟩
  | iter l pos => exact h
  | miter b since =>
    obtain ⟨cb, κ', h1, h2⟩ := h
    exact ⟨cb, κ', hl _ _ h1, h2⟩
def Hp.tr : Hp → Tr Blk | .mk t _ _ => t
def Hp.nx : Hp → Nat | .mk _ n _ => n
def Hp.lo : Hp → Nat | .mk _ _ l => l
/-- What memory stands for. -/
structure HR (β : Bt) (h : Hp) (w : World) : Prop where
  blk : ∀ b x, h.tr.get (path b) = some x → b < h.nx ∧ ∃ cb κ, β b = some (cb, κ) ∧ BlkR β κ w.heap[cb]? x
  inj : ∀ b b' x x' c κ κ', h.tr.get (path b) = some x → h.tr.get (path b') = some x' → β b = some (c, κ) → β b' = some (c, κ') → b = b'
  fresh : ∀ i, h.nx ≤ i → β i = none
  low : h.lo ≤ h.nx
/-- What stays. -/
structure Kept (β : Bt) (lo : Nat) (w w' : World) : Prop where
  os : w'.os = w.os
  tape : w'.tape = w.tape
  output : w'.output = w.output
  size : w.heap.size ≤ w'.heap.size
  block : ∀ c, c < w.heap.size → (∀ b κ, lo ≤ b → β b ≠ some (c, κ)) → w'.heap[c]? = w.heap[c]?
/-- From one state to another one. -/
structure Stp (β : Bt) (h : Hp) (w : World) (β' : Bt) (h' : Hp) (w' : World) : Prop where
  hr : HR β' h' w'
  nx : h.nx ≤ h'.nx
  lo : h'.lo ≤ h.lo
  old : ∀ b, b < h.nx → β' b = β b
  new : ∀ b c κ, h.nx ≤ b → β' b = some (c, κ) → w.heap.size ≤ c ∨ ∃ x κ', h'.lo ≤ x ∧ x < h.nx ∧ β x = some (c, κ')
  kept : Kept β h'.lo w w'
theorem Kept.refl (β : Bt) (lo : Nat) (w : World) : Kept β lo w w := ⟨rfl, rfl, rfl, Nat.le_refl _, fun _ _ _ => rfl⟩
theorem Stp.refl {β : Bt} {h : Hp} {w : World} (hr : HR β h w) : Stp β h w β h w :=
  ⟨hr, Nat.le_refl _, Nat.le_refl _, fun _ _ => rfl, (fun b c κ hb e => by rw [hr.fresh b hb] at e; cases e), Kept.refl _ _ _⟩
theorem Stp.le {β β' : Bt} {h h' : Hp} {w w' : World} (hr : HR β h w) (s : Stp β h w β' h' w') : Le β β' := by
  intro b x e
  by_cases hb : b < h.nx
  · rw [s.old b hb]; exact e
  · rw [hr.fresh b (by omega)] at e; cases e
theorem Stp.trans {β β' β'' : Bt} {h h' h'' : Hp} {w w' w'' : World} (hr : HR β h w) (s : Stp β h w β' h' w') (s' : Stp β' h' w' β'' h'' w'') : Stp β h w β'' h'' w'' := by
  refine ⟨s'.hr, Nat.le_trans s.nx s'.nx, Nat.le_trans s'.lo s.lo, fun b hb => ?_, fun b c κ hb e => ?_, ?_⟩
  · rw [s'.old b (Nat.lt_of_lt_of_le hb s.nx), s.old b hb]
  · by_cases h2 : b < h'.nx
    · rw [s'.old b h2] at e
      rcases s.new b c κ hb e with h3 | ⟨x, κ', a1, a2, a3⟩
      · exact .inl h3
      · exact .inr ⟨x, κ', Nat.le_trans s'.lo a1, a2, a3⟩
    · rcases s'.new b c κ (by omega) e with h3 | ⟨x, κ', a1, a2, a3⟩
      · exact .inl (Nat.le_trans s.kept.size h3)
      · by_cases h4 : x < h.nx
        · rw [s.old x h4] at a3; exact .inr ⟨x, κ', a1, h4, a3⟩
        · rcases s.new x c κ' (by omega) a3 with h5 | ⟨y, κ2, b1, b2, b3⟩
          · exact .inl h5
          · exact .inr ⟨y, κ2, Nat.le_trans s'.lo b1, b2, b3⟩
  · refine ⟨s'.kept.os.trans s.kept.os, s'.kept.tape.trans s.kept.tape, s'.kept.output.trans s.kept.output, Nat.le_trans s.kept.size s'.kept.size, fun c hc hn => ?_⟩
    rw [s'.kept.block c (Nat.lt_of_lt_of_le hc s.kept.size) ?_, s.kept.block c hc (fun b κ hb => hn b κ (Nat.le_trans s'.lo hb))]
    intro b κ hb e
    by_cases h2 : b < h.nx
    · rw [s.old b h2] at e; exact hn b κ hb e
    · rcases s.new b c κ (by omega) e with h3 | ⟨x, κ', a1, a2, a3⟩
      · omega
      · exact hn x κ' (Nat.le_trans s'.lo a1) a3
/-- A world that drew once more, and nothing else. -/
theorem HR.drawn {β : Bt} {h : Hp} {w w' : World} (hr : HR β h w) (hh : w'.heap = w.heap) : HR β h w' :=
  ⟨fun b x e => by rw [hh]; exact hr.blk b x e, hr.inj, hr.fresh, hr.low⟩
end Go.Ev
