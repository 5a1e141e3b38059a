import Derived.WalkKit
import Derived.IntWalk
import Derived.Test.YtaklcjnfjchebaaSa8
set_option linter.unusedVariables false
set_option linter.unusedSectionVars false
set_option linter.unusedSimpArgs false
namespace Go.Ev
variable [Sg]
def upd (β : Bt) (n c κ : Nat) : Bt := fun b => if b = n then some (c, κ) else β b
theorem upd_same (β : Bt) (n c κ : Nat) : upd β n c κ n = some (c, κ) := by simp [upd]
theorem upd_ne {β : Bt} {n c κ b : Nat} (h : b ≠ n) : upd β n c κ b = β b := by simp [upd, h]
theorem upd_le {β : Bt} {n c κ : Nat} (h : β n = none) : Le β (upd β n c κ) := by
  intro b x e
  by_cases hb : b = n
  · subst hb; rw [h] at e; cases e
  · rw [upd_ne hb]; exact e
theorem Stp.new_block {β : Bt} {t : Tr Blk} {n low : Nat} {w w' : World} (hr : HR β (.mk t n low) w) (o : Obj) (κ : Nat) (blk : Blk) (hh : w'.heap = w.heap.push o) (h1 : w'.os = w.os) (h2 : w'.tape = w.tape) (h3 : w'.output = w.output)
    (hb : BlkR (upd β n w.heap.size κ) κ (some o) blk) : Stp β (.mk t n low) w (upd β n w.heap.size κ) (.mk (t.set (path n) (some blk)) (n + 1) low) w' := by
  have hn : β n = none := hr.fresh n (Nat.le_refl _)
  have hlow : low ≤ n := hr.low
  have hlt : ∀ b x, t.get (path b) = some x → ∃ cb κ', β b = some (cb, κ') ∧ cb < w.heap.size := by
    intro b x hx
    obtain ⟨_, cb, κ', e, hB⟩ := hr.blk b x hx
    refine ⟨cb, κ', e, ?_⟩
    cases x with
    | cells e' len c ex esz => obtain ⟨cs, fz, e2, -⟩ := hB; exact (Array.getElem?_eq_some_iff.1 e2).1
    | map es clock => obtain ⟨ms, e2, -⟩ := hB; exact (Array.getElem?_eq_some_iff.1 e2).1
    | iter l p => exact (Array.getElem?_eq_some_iff.1 hB.1).1
    | miter b s => obtain ⟨_, _, _, e2⟩ := hB; exact (Array.getElem?_eq_some_iff.1 e2).1
  refine ⟨⟨fun b x hx => ?_, fun b b' x x' c κ1 κ2 hx hx' e e' => ?_, fun i hi => ?_, ?_⟩, by show n ≤ n + 1; omega, Nat.le_refl _, fun b hb => upd_ne (by intro e; subst e; exact Nat.lt_irrefl _ hb), fun b x hb e => ⟨x, by have hbn : b ≠ n := (fun e => by subst e; exact Nat.lt_irrefl _ hb); replace e : (t.set (path n) (some blk)).get (path b) = some x := e; rw [get_set, if_neg (path_ne hbn)] at e; exact e⟩, fun b c κ' hb e => ?_, ⟨h1, h2, h3, by rw [hh]; simp, fun c hc _ => by rw [hh, Array.getElem?_push, if_neg (by omega)]⟩⟩
  · replace hx : (t.set (path n) (some blk)).get (path b) = some x := hx
    rw [get_set] at hx
    by_cases hbn : b = n
    · subst hbn
      rw [if_pos rfl] at hx; injection hx with hx; subst hx
      exact ⟨by show b < b + 1; omega, _, κ, upd_same .., by rw [hh]; simpa using hb⟩
    · rw [if_neg (path_ne hbn)] at hx
      obtain ⟨h4, cb, κ', e, hB⟩ := hr.blk b x hx
      obtain ⟨cb2, κ2, e2, hcb⟩ := hlt b x hx
      rw [e] at e2; injection e2 with e2; injection e2 with e2 e3; subst e2
      have h4' : b < n := h4
      exact ⟨by show b < n + 1; omega, cb, κ', by rw [upd_ne hbn]; exact e, by rw [hh, Array.getElem?_push, if_neg (by omega)]; exact hB.mono (upd_le hn)⟩
  · replace hx : (t.set (path n) (some blk)).get (path b) = some x := hx
    replace hx' : (t.set (path n) (some blk)).get (path b') = some x' := hx'
    rw [get_set] at hx hx'
    by_cases hbn : b = n
    · by_cases hbn' : b' = n
      · rw [hbn, hbn']
      · subst hbn
        rw [upd_same] at e; injection e with e; injection e with e _
        rw [if_neg (path_ne hbn')] at hx'
        obtain ⟨cb, κ', e2, hcb⟩ := hlt b' x' hx'
        rw [upd_ne hbn'] at e'
        rw [e2] at e'; injection e' with e'; injection e' with e' _
        omega
    · rw [if_neg (path_ne hbn)] at hx
      rw [upd_ne hbn] at e
      by_cases hbn' : b' = n
      · subst hbn'
        rw [upd_same] at e'; injection e' with e'; injection e' with e' _
        obtain ⟨cb, κ', e2, hcb⟩ := hlt b x hx
        rw [e2] at e; injection e with e; injection e with e _
        omega
      · rw [if_neg (path_ne hbn')] at hx'
        rw [upd_ne hbn'] at e'
        exact hr.inj b b' x x' c κ1 κ2 hx hx' e e'
  · have hi' : n + 1 ≤ i := hi
    rw [upd_ne (by omega)]; exact hr.fresh i (show n ≤ i by omega)
  · show low ≤ n + 1; omega
  · left
    have hb' : n ≤ b := hb
    by_cases hbn : b = n
    · subst hbn; rw [upd_same] at e; injection e with e; injection e with e _; omega
    · rw [upd_ne hbn, hr.fresh b hb'] at e; cases e
theorem Stp.set_block {β : Bt} {t : Tr Blk} {n low b cb κ : Nat} {w w' : World} {old blk : Blk} (hr : HR β (.mk t n low) w) (hold : t.get (path b) = some old) (hβ : β b = some (cb, κ)) (hsz : w'.heap.size = w.heap.size)
    (hoth : ∀ i, i < w.heap.size → i ≠ cb → w'.heap[i]? = w.heap[i]?) (h1 : w'.os = w.os) (h2 : w'.tape = w.tape) (h3 : w'.output = w.output) (hb : BlkR β κ w'.heap[cb]? blk) :
    Stp β (.mk t n low) w β (.mk (t.set (path b) (some blk)) n (min low b)) w' := by
  have hlow : low ≤ n := hr.low
  have hlt : ∀ b x, t.get (path b) = some x → ∃ cb κ', β b = some (cb, κ') ∧ cb < w.heap.size := by
    intro b x hx
    obtain ⟨_, cb, κ', e, hB⟩ := hr.blk b x hx
    refine ⟨cb, κ', e, ?_⟩
    cases x with
    | cells e' len c ex esz => obtain ⟨cs, fz, e2, -⟩ := hB; exact (Array.getElem?_eq_some_iff.1 e2).1
    | map es clock => obtain ⟨ms, e2, -⟩ := hB; exact (Array.getElem?_eq_some_iff.1 e2).1
    | iter l p => exact (Array.getElem?_eq_some_iff.1 hB.1).1
    | miter b s => obtain ⟨_, _, _, e2⟩ := hB; exact (Array.getElem?_eq_some_iff.1 e2).1
  refine ⟨⟨fun b' x hx => ?_, fun b1 b2 x x' c κ1 κ2 hx hx' e e' => ?_, hr.fresh, ?_⟩, Nat.le_refl _, Nat.min_le_left _ _, fun _ _ => rfl, (fun b' x hb' e => by
    by_cases hbb : b' = b
    · subst hbb; exact ⟨old, hold⟩
    · replace e : (t.set (path b) (some blk)).get (path b') = some x := e
      rw [get_set, if_neg (path_ne hbb)] at e; exact ⟨x, e⟩), (fun b' c κ' hb' e => by rw [hr.fresh b' hb'] at e; cases e), ⟨h1, h2, h3, by omega, fun c hc hn => ?_⟩⟩
  · replace hx : (t.set (path b) (some blk)).get (path b') = some x := hx
    rw [get_set] at hx
    by_cases hbb : b' = b
    · subst hbb
      rw [if_pos rfl] at hx; injection hx with hx; subst hx
      exact ⟨(hr.blk b' old hold).1, cb, κ, hβ, hb⟩
    · rw [if_neg (path_ne hbb)] at hx
      obtain ⟨h4, cb', κ', e, hB⟩ := hr.blk b' x hx
      obtain ⟨cb2, κ2, e2, hcb⟩ := hlt b' x hx
      rw [e] at e2; injection e2 with e2; injection e2 with e2 e3; subst e2
      refine ⟨h4, cb', κ', e, ?_⟩
      rw [hoth cb' hcb (fun ec => hbb (hr.inj b' b x old cb' κ' κ hx hold e (by rw [ec]; exact hβ)))]
      exact hB
  · replace hx : (t.set (path b) (some blk)).get (path b1) = some x := hx
    replace hx' : (t.set (path b) (some blk)).get (path b2) = some x' := hx'
    have go : ∀ b1 x, (t.set (path b) (some blk)).get (path b1) = some x → ∃ y, t.get (path b1) = some y := by
      intro b1 x hx
      rw [get_set] at hx
      by_cases h : b1 = b
      · subst h; exact ⟨old, hold⟩
      · rw [if_neg (path_ne h)] at hx; exact ⟨x, hx⟩
    obtain ⟨y, hy⟩ := go b1 x hx
    obtain ⟨y', hy'⟩ := go b2 x' hx'
    exact hr.inj b1 b2 y y' c κ1 κ2 hy hy' e e'
  · show min low b ≤ n; omega
  · refine hoth c hc fun e => ?_
    subst e
    exact hn b κ old (Nat.min_le_right low b) hold hβ
theorem drewHR {β : Bt} {h : Hp} {w : World} (hr : HR β h w) : Stp β h w β h w.drew :=
  ⟨hr.drawn rfl, Nat.le_refl _, Nat.le_refl _, fun _ _ => rfl, fun _ x _ e => ⟨x, e⟩, (fun b c κ hb e => by rw [hr.fresh b hb] at e; cases e), ⟨rfl, rfl, rfl, Nat.le_refl _, fun _ _ _ => rfl⟩⟩
def setA (cs : Array Value) : Nat → List Value → Array Value
  | _, [] => cs
  | o, v :: r => setA (cs.setIfInBounds o v) (o + 1) r
theorem setA_size : ∀ (vs : List Value) (cs : Array Value) (o : Nat), (setA cs o vs).size = cs.size
  | [], cs, o => rfl
  | v :: r, cs, o => by rw [setA, setA_size r]; simp
theorem setA_get : ∀ (vs : List Value) (cs : Array Value) (o i : Nat), o + vs.length ≤ cs.size → (setA cs o vs)[i]? = if o ≤ i ∧ i < o + vs.length then vs[i - o]? else cs[i]?
  | [], cs, o, i, h => by rw [setA, if_neg (by simp only [List.length_nil]; omega)]
  | v :: r, cs, o, i, h => by
    simp at h
    rw [setA, setA_get r _ _ _ (by simp; omega)]
    by_cases h0 : i = o
    · subst h0
      rw [if_neg (by omega), if_pos (by simp)]
      simp [Array.getElem?_setIfInBounds]; omega
    · by_cases h1 : o + 1 ≤ i ∧ i < o + 1 + r.length
      · rw [if_pos h1, if_pos (by simp; omega), show i - o = (i - (o + 1)) + 1 by omega]; simp
      · rw [if_neg h1, if_neg (by simp; omega), Array.getElem?_setIfInBounds, if_neg (by omega)]
theorem setCells_heap : ∀ (vs : List Value) (o : Nat) (w : World) (b : Nat) (cs : Array Value) (e : TypeId) (fz : Nat × Nat), w.heap[b]? = some (.cells cs e fz) → (w.setCells b o vs).heap[b]? = some (.cells (setA cs o vs) e fz)
  | [], o, w, b, cs, e, fz, h => h
  | v :: r, o, w, b, cs, e, fz, h => by
    rw [World.setCells, setA]
    refine setCells_heap r _ _ _ _ _ _ ?_
    show (w.heap.modify b _)[b]? = _
    rw [Array.getElem?_modify, if_pos rfl, h]
    rfl
theorem setCells_size : ∀ (vs : List Value) (o : Nat) (w : World) (b : Nat), (w.setCells b o vs).heap.size = w.heap.size
  | [], _, _, _ => rfl
  | v :: r, o, w, b => by rw [World.setCells, setCells_size r]; simp
theorem setCells_tape : ∀ (vs : List Value) (o : Nat) (w : World) (b : Nat), (w.setCells b o vs).tape = w.tape
  | [], _, _, _ => rfl
  | v :: r, o, w, b => by rw [World.setCells, setCells_tape r]; rfl
theorem getK_yes {b off n : Nat} {h : Hp} {k : List AV → Ans} (hk : getK b off n h k = .yes) :
    ∃ l e m c ex sz, h.tr.get (path b) = some (.cells e m c ex sz) ∧ off + n ≤ m ∧ l.length = n ∧ (∀ i, i < n → c.get (path (off + i)) = l[i]?) ∧ k l = .yes := by
  cases h with
  | mk t nx low =>
    unfold getK at hk
    obtain ⟨bl, hb, hk⟩ := getP_yes hk
    cases bl with
    | map es cl => cases hk
    | iter l p => cases hk
    | miter b s => cases hk
    | cells e m c ex sz =>
      obtain ⟨h1, hk⟩ := cnd_yes hk
      obtain ⟨l, h2, h3, h4⟩ := readN_yes hk
      exact ⟨l, e, m, c, ex, sz, hb, by simpa using h1, h2, h3, h4⟩
theorem cells_of {β : Bt} {h : Hp} {w : World} (hr : HR β h w) {b off n e m : Nat} {c : Tr AV} {ex : Bool} {sz : Nat} {l : List AV} (hb : h.tr.get (path b) = some (.cells e m c ex sz)) (hm : off + n ≤ m) (hl : l.length = n) (hc : ∀ i, i < n → c.get (path (off + i)) = l[i]?) :
    ∃ cb κ vs, β b = some (cb, κ) ∧ conL β l = some vs ∧ (∀ u ∈ vs, u.oneCell' = true) ∧ vs.length = n ∧ ∀ i u, vs[i]? = some u → w.cell? ⟨cb, off + i, none⟩ = some u := by
  obtain ⟨-, cb, κ, hβ, cs, fz, h1, h2, h3, h4, -, -⟩ := hr.blk b _ hb
  have hex : ∀ i, i < n → ∃ av u, l[i]? = some av ∧ cs[off + i]? = some u ∧ con β av = some u ∧ flatV u = true := by
    intro i hi
    obtain ⟨av, u, a1, a2, a3, a4⟩ := h3 (off + i) (by omega)
    rw [hc i hi] at a1
    exact ⟨av, u, a1, a2, a3, a4⟩
  have hco : ∃ vs, conL β l = some vs ∧ vs.length = n ∧ ∀ i u, vs[i]? = some u → cs[off + i]? = some u ∧ u.oneCell' = true := by
    clear hc hm
    induction l generalizing off n with
    | nil => exact ⟨[], rfl, hl, fun i u hu => by simp at hu⟩
    | cons x xs ih =>
      obtain ⟨n', rfl⟩ : ∃ n', n = n' + 1 := ⟨xs.length, by simpa using hl.symm⟩
      obtain ⟨av, u, a1, a2, a3, a4⟩ := hex 0 (by omega)
      simp at a1; subst a1
      obtain ⟨vs, b1, b2, b3⟩ := ih (off := off + 1) (n := n') (by simpa using hl) (fun i hi => by
        obtain ⟨av, u, c1, c2⟩ := hex (i + 1) (by omega)
        exact ⟨av, u, by simpa using c1, by rw [show off + 1 + i = off + (i + 1) by omega]; exact c2⟩)
      refine ⟨u :: vs, conL_mk a3 b1, by simp [b2], fun i w hw => ?_⟩
      cases i with
      | zero => simp at hw; subst hw; exact ⟨a2, a4⟩
      | succ i =>
        have := b3 i w (by simpa using hw)
        rw [show off + (i + 1) = off + 1 + i by omega]; exact this
  obtain ⟨vs, d1, d2, d3⟩ := hco
  refine ⟨cb, κ, vs, hβ, d1, fun u hu => ?_, d2, fun i u hu => ?_⟩
  · obtain ⟨i, hi⟩ := List.mem_iff_getElem?.1 hu
    exact (d3 i u hi).2
  · unfold World.cell?
    rw [h1]
    exact (d3 i u hu).1
theorem putK_yes {b off : Nat} {l : List AV} {h : Hp} {k : Hp → Ans} (hk : putK b off l h k = .yes) :
    ∃ t n low e m c ex sz, h = .mk t n low ∧ t.get (path b) = some (.cells e m c ex sz) ∧ off + l.length ≤ m ∧ k (.mk (t.set (path b) (some (.cells e m (putL l off c) ex sz))) n (min low b)) = .yes := by
  cases h with
  | mk t nx low =>
    unfold putK at hk
    obtain ⟨bl, hb, hk⟩ := getP_yes hk
    cases bl with
    | map es cl => cases hk
    | iter l p => cases hk
    | miter b s => cases hk
    | cells e m c ex sz =>
      simp only [lenK_eq] at hk
      obtain ⟨h1, hk⟩ := cnd_yes hk
      rw [writeL_eq, setP_eq, natMin_eq] at hk
      exact ⟨t, nx, low, e, m, c, ex, sz, rfl, hb, by simpa using h1, hk⟩
theorem put_stp {β : Bt} {t : Tr Blk} {n low b off e m sz : Nat} {c : Tr AV} {ex : Bool} {w : World} {l : List AV} {vs : List Value} (hr : HR β (.mk t n low) w) (hb : t.get (path b) = some (.cells e m c ex sz)) (hm : off + l.length ≤ m) (hl : conL β l = some vs) (h1 : ∀ u ∈ vs, u.oneCell' = true) :
    ∃ cb κ, β b = some (cb, κ) ∧ (∀ j, j < vs.length → (w.cell? ⟨cb, off + j, none⟩).isSome = true) ∧ (∀ j, j < vs.length → w.frozen? ⟨cb, off + j, none⟩ = false) ∧
      Stp β (.mk t n low) w β (.mk (t.set (path b) (some (.cells e m (putL l off c) ex sz))) n (min low b)) (w.setCells cb off vs) := by
  obtain ⟨-, cb, κ, hβ, cs, fz, e1, e2, e3, e4, e5, e6⟩ := hr.blk b _ hb
  have hlen := conL_len hl
  refine ⟨cb, κ, hβ, fun j hj => ?_, fun j hj => ?_, ?_⟩
  · unfold World.cell?; rw [e1]
    show (cs[off + j]?).isSome = true
    rw [Array.getElem?_eq_getElem (by omega)]; rfl
  · unfold World.frozen?; rw [e1]
    have := e2 (off + j) (by omega)
    simp only [Bool.and_eq_false_iff, decide_eq_false_iff_not]
    omega
  · refine Stp.set_block hr hb hβ (setCells_size ..) (fun i hi hne => World.heap_setCells_other w cb off vs hi hne) (World.os_setCells ..) (setCells_tape ..) (World.output_setCells ..) ?_
    rw [setCells_heap vs off w cb cs e fz e1]
    refine ⟨_, fz, rfl, fun i hi => e2 i (by rwa [setA_size] at hi), fun i hi => ?_, by rw [setA_size]; exact e4, fun h => by rw [setA_size]; exact e5 h, fun h => by rw [setA_size]; exact e6 h⟩
    rw [get_putL, setA_get vs cs off i (by omega), hlen]
    by_cases h : off ≤ i ∧ i < off + vs.length
    · rw [if_pos h, if_pos h]
      have hi2 : i - off < l.length := by omega
      obtain ⟨u, u1, u2⟩ := conL_get hl (List.getElem?_eq_getElem hi2)
      exact ⟨_, u, List.getElem?_eq_getElem hi2, u1, u2, h1 u (List.mem_iff_getElem?.2 ⟨_, u1⟩)⟩
    · rw [if_neg h, if_neg h]; exact e3 i hi
theorem newK_eq (e : TypeId) (l : List AV) (ex : Bool) (sz : Nat) (t : Tr Blk) (n low : Nat) (k : Nat → Hp → Ans) : newK e l ex sz (.mk t n low) k = k n (.mk (t.set (path n) (some (.cells e l.length (putL l 0 .leaf) ex sz))) (n + 1) low) := by
  unfold newK
  simp only [lenK_eq, writeL_eq, setP_eq, fNat_eq]
theorem new_stp {β : Bt} {t : Tr Blk} {n low : Nat} {w w' : World} {e : TypeId} {l : List AV} {vs : List Value} (rest : List Value) {ex : Bool} {sz κ : Nat} {fz : Nat × Nat} (hr : HR β (.mk t n low) w) (hl : conL β l = some vs) (h1 : ∀ u ∈ vs, u.oneCell' = true)
    (hh : w'.heap = w.heap.push (.cells (vs ++ rest).toArray e fz)) (g1 : w'.os = w.os) (g2 : w'.tape = w.tape) (g3 : w'.output = w.output) (hf : ∀ i, i < (vs ++ rest).length → ¬ (fz.1 ≤ i ∧ i < fz.2)) (hex : ex = true → rest = []) (hne : ex = false → (vs ++ rest).length = κ * sz) :
    Stp β (.mk t n low) w (upd β n w.heap.size κ) (.mk (t.set (path n) (some (.cells e l.length (putL l 0 .leaf) ex sz))) (n + 1) low) w' := by
  have hlen := conL_len hl
  refine Stp.new_block hr _ κ _ hh g1 g2 g3 ⟨_, fz, rfl, fun i hi => hf i (by simpa using hi), fun i hi => ?_, by simp; omega, fun h => by simp [hex h, hlen], fun h => by simpa using hne h⟩
  rw [get_putL, if_pos ⟨Nat.zero_le _, by omega⟩, Nat.sub_zero]
  obtain ⟨u, u1, u2⟩ := conL_get hl (List.getElem?_eq_getElem hi)
  refine ⟨_, u, List.getElem?_eq_getElem hi, ?_, con_mono (upd_le (hr.fresh n (Nat.le_refl _))) u2, h1 u (List.mem_iff_getElem?.2 ⟨_, u1⟩)⟩
  have : i < vs.length := by omega
  simp only [List.getElem?_toArray]
  rw [List.getElem?_append_left this]; exact u1
end Go.Ev
namespace Go.Ev
variable [Sg]
open Go.RowKit
variable {P : Program}
def OpHolds (P : Program) (o : Oper) (xs : List AV) (h : Hp) (v : AV) (h' : Hp) : Prop :=
  ∀ (β : Bt) (w : World) (a : Act), HR β h w → conL β xs = some (o.op.operands.toList.map a.eval) → ∀ (K : Act → World → Prop) (Q : Exit → Act → World → Prop),
    (∀ β' w' u, Stp β h w β' h' w' → con β' v = some u → K (a.put o.dst u) w') → o.wp P a w K Q
def Quiet (P : Program) (o : Oper) (xs : List AV) (h : Hp) (v : AV) (h' : Hp) : Prop := quietOp P o.op = true → h' = h ∧ ∀ h2, OpHolds P o xs h2 v h2
theorem Quiet.no {o : Oper} {xs : List AV} {h h' : Hp} {v : AV} (hq : quietOp P o.op = false) : Quiet P o xs h v h' := fun h => by rw [hq] at h; cases h
theorem OpHolds.val {o : Oper} {xs : List AV} {h : Hp} {v : AV} {h' : Hp}
    (H : ∀ (β : Bt) (w : World) (a : Act), HR β h w → conL β xs = some (o.op.operands.toList.map a.eval) → ∃ β' w' u, (execOp a.eval o).run P w = .ok (.value u) w' ∧ Stp β h w β' h' w' ∧ con β' v = some u) : OpHolds P o xs h v h' := by
  intro β w a hr hx K Q hK
  obtain ⟨β', w', u, h1, h2, h3⟩ := H β w a hr hx
  unfold Oper.wp
  rw [h1]
  exact hK β' w' u h2 h3
theorem OpHolds.skip {o : Oper} {xs : List AV} {h : Hp} {h' : Hp}
    (H : ∀ (β : Bt) (w : World) (a : Act), HR β h w → conL β xs = some (o.op.operands.toList.map a.eval) → ∃ β' w', (execOp a.eval o).run P w = .ok .skip w' ∧ Stp β h w β' h' w') : OpHolds P o xs h (.tup []) h' := by
  intro β w a hr hx K Q hK
  obtain ⟨β', w', h1, h2⟩ := H β w a hr hx
  unfold Oper.wp
  rw [h1]
  exact hK β' w' undef h2 rfl
theorem OpHolds.pure {o : Oper} {xs : List AV} {h : Hp} {v : AV}
    (H : ∀ (β : Bt) (w : World) (a : Act), conL β xs = some (o.op.operands.toList.map a.eval) → ∃ u, (execOp a.eval o).run P w = .ok (.value u) w ∧ con β v = some u) : OpHolds P o xs h v h :=
  .val fun β w a hr hx => let ⟨u, h1, h2⟩ := H β w a hx; ⟨β, w, u, h1, .refl hr, h2⟩
theorem conL1 {β : Bt} {x : AV} {v : Value} (h : conL β [x] = some [v]) : con β x = some v := by
  obtain ⟨u, us, h1, h2, h3⟩ := conL_cons h
  injection h3 with h3 h4; subst h3; exact h1
theorem conL2 {β : Bt} {x y : AV} {v u : Value} (h : conL β [x, y] = some [v, u]) : con β x = some v ∧ con β y = some u := by
  obtain ⟨a, us, h1, h2, h3⟩ := conL_cons h
  injection h3 with h3 h4; subst h3; subst h4
  exact ⟨h1, conL1 h2⟩
theorem semPure_bind {α γ : Type} (s : Sem α) (f : α → Sem γ) : semPure P (s >>= f) = (semPure P s).bind fun a => semPure P (f a) := by
  show semPure P (s.bind f) = _
  induction s with
  | pure a => rfl
  | program k ih => exact ih P
  | mark m k ih => exact ih
  | _ => rfl
theorem semPure_run {α : Type} {s : Sem α} {v : α} (h : semPure P s = some v) (w : World) : s.run P w = .ok v w := by
  induction s with
  | pure a => injection h with h; subst h; rfl
  | program k ih => exact ih P h
  | mark m k ih => exact ih h
  | _ => cases h
theorem intAV_yes {q : IntKind} {z : Int} {k : AV → Ans} (h : intAV q z k = .yes) : ∃ av, (∀ β, con β av = some (.int q z)) ∧ k av = .yes := by
  unfold intAV at h
  split at h
  · rw [fNat_eq] at h; exact ⟨_, fun β => rfl, h⟩
  · rw [fNat_eq] at h; exact ⟨_, fun β => rfl, h⟩
  · rw [fInt_eq] at h; exact ⟨_, fun β => rfl, h⟩
theorem bytesOf_toNat (l : List UInt8) : (l.map (·.toNat)).map UInt8.ofNat = l := by
  rw [List.map_map]
  conv => rhs; rw [← List.map_id l]
  exact List.map_congr_left fun x _ => by simp
theorem con_str (β : Bt) (s : ByteArray) : con β (.str s.data.toList.length (s.data.toList.map (·.toNat))) = some (.string s) := by
  unfold con
  rw [if_pos ⟨by simp, by rw [List.all_eq_true]; intro x hx; obtain ⟨y, _, rfl⟩ := List.mem_map.1 hx; exact decide_eq_true (UInt8.toNat_lt y)⟩]
  unfold bytesOf
  rw [bytesOf_toNat]
theorem fVal1_yes {v : Value} {k : AV → Ans} (h : fVal1 v k = .yes) : ∃ av, (∀ β, con β av = some v) ∧ k av = .yes ∧ v.oneCell' = true := by
  unfold fVal1 at h
  split at h
  · obtain ⟨av, h1, h2⟩ := intAV_yes h; exact ⟨av, h1, h2, rfl⟩
  · rw [fBool_eq] at h; exact ⟨_, fun β => rfl, h, rfl⟩
  · rw [fBytes_eq] at h; exact ⟨_, fun β => con_str β _, h, rfl⟩
  · simp only [fNat_eq] at h; exact ⟨_, fun β => rfl, h, rfl⟩
  · simp only [fNat_eq] at h; exact ⟨_, fun β => rfl, h, rfl⟩
  · cases h
  · cases h
  · rename_i u _ _ _ _ _ h6 h7
    refine ⟨.raw v, fun β => ?_, h, ?_⟩
    · have : v.oneCell' = true := by cases v <;> first | rfl | (exact absurd rfl (h6 _)) | (exact absurd rfl (h7 _))
      unfold con; rw [if_pos this]
    · cases v <;> first | rfl | (exact absurd rfl (h6 _)) | (exact absurd rfl (h7 _))
theorem fVals_yes {l : List Value} {k : List AV → Ans} (h : fVals l k = .yes) : ∃ as, (∀ β, conL β as = some l) ∧ k as = .yes ∧ ∀ u ∈ l, u.oneCell' = true := by
  induction l generalizing k with
  | nil => exact ⟨[], fun β => rfl, h, fun u hu => by cases hu⟩
  | cons v l ih =>
    obtain ⟨av, h1, h2, h3⟩ := fVal1_yes (k := fun a => fVals l fun as => k (a :: as)) h
    obtain ⟨as, h4, h5, h6⟩ := ih h2
    exact ⟨av :: as, fun β => conL_mk (h1 β) (h4 β), h5, fun u hu => by
      cases hu with
      | head => exact h3
      | tail _ hu => exact h6 u hu⟩
theorem fVal_yes {v : Value} {k : AV → Ans} (h : fVal v k = .yes) : ∃ av, (∀ β, con β av = some v) ∧ k av = .yes := by
  unfold fVal at h
  split at h
  · rename_i cs
    obtain ⟨as, h1, h2, h3⟩ := fVals_yes h
    refine ⟨_, fun β => ?_, h2⟩
    simp only [con, h1, Option.bind_some]
    rw [if_pos (List.all_eq_true.2 h3)]
  · rename_i cs
    obtain ⟨as, h1, h2, h3⟩ := fVals_yes h
    exact ⟨_, fun β => by simp [con, h1], h2⟩
  · obtain ⟨av, h1, h2, h3⟩ := fVal1_yes h; exact ⟨av, h1, h2⟩
theorem modelK_yes {s : Sem Value} {k : AV → Ans} (h : modelK P s k = .yes) : ∃ v av, semPure P s = some v ∧ (∀ β, con β av = some v) ∧ k av = .yes := by
  unfold modelK at h
  cases hs : semPure P s with
  | none => rw [hs] at h; cases h
  | some v =>
    rw [hs] at h
    obtain ⟨av, h1, h2⟩ := fVal_yes h
    exact ⟨v, av, rfl, h1, h2⟩
theorem plain1_con {x : AV} {v : Value} (β : Bt) (h : x.plain1 = some v) {u : Value} (hu : con β x = some u) : u = v := by
  cases x <;> simp [AV.plain1] at h <;> subst h <;> simp [con] at hu
  · exact hu.symm
  · exact hu.symm
  · exact hu.symm
  · exact hu.symm
  · exact hu.2.symm
  · exact hu.2.symm
theorem plainL_con {l : List AV} {vs : List Value} (β : Bt) (h : plainL l = some vs) {us : List Value} (hu : conL β l = some us) : us = vs := by
  induction l generalizing vs us with
  | nil => injection h with h; subst h; exact conL_nil hu
  | cons x l ih =>
    obtain ⟨u, us', h1, h2, rfl⟩ := conL_cons hu
    unfold plainL at h
    cases h3 : x.plain1 with
    | none => rw [h3] at h; cases h
    | some v =>
      cases h4 : plainL l with
      | none => rw [h3, h4] at h; cases h
      | some vs' =>
        rw [h3, h4] at h; injection h with h; subst h
        rw [plain1_con β h3 h1, ih h4 h2]
theorem plain_con {x : AV} {v : Value} (β : Bt) (h : x.plain = some v) {u : Value} (hu : con β x = some u) : u = v := by
  unfold AV.plain at h
  split at h
  · rename_i l
    rw [Option.map_eq_some_iff] at h
    obtain ⟨vs, h1, rfl⟩ := h
    simp only [con, Option.bind_eq_some_iff] at hu
    obtain ⟨us, h2, h3⟩ := hu
    rw [plainL_con β h1 h2] at h3
    split at h3
    · injection h3 with h3; exact h3.symm
    · cases h3
  · exact plain1_con β h hu
theorem plainK_yes {x : AV} {k : Value → Ans} (h : plainK x k = .yes) : ∃ v, x.plain = some v ∧ k v = .yes := by
  unfold plainK at h
  cases hs : x.plain with
  | none => rw [hs] at h; cases h
  | some v => rw [hs] at h; exact ⟨v, rfl, h⟩
def binSem (op : BinOp) (t : TypeId) (X Y : Operand) (a b : Value) : Sem Value := do eqGuard op t X Y a b; Go.binOp op t a b
theorem exec_bin (op : BinOp) (t : TypeId) (X Y : Operand) (yt : TypeId) (o : Oper) (ho : o.op = .binOp op t X Y yt) (a : Act) (w : World) {u : Value} {w' : World} (h : (binSem op t X Y (a.eval X) (a.eval Y)).run P w = .ok u w') :
    (execOp a.eval o).run P w = .ok (.value u) w' := by
  unfold binSem at h
  simp only [Sem.run_bind] at h
  simp only [execOp, ho, Sem.run_bind, h, Result.andThen_ok, Sem.run_pure]
theorem eqGuard_of {op : BinOp} {t : TypeId} {a b : Value} (X Y : Operand) (h : semPure P (eqGuard op t (.tmp 0) (.tmp 0) a b) = some ()) : semPure P (eqGuard op t X Y a b) = some () := by
  unfold eqGuard at h ⊢
  cases op
  case eql | neq =>
    simp only [Bool.not_true, Bool.false_eq_true, ↓reduceIte] at h ⊢
    split
    · simp only [Bool.or_self, Bool.false_eq_true, ↓reduceIte] at h
      cases X <;> cases Y <;> first | exact h | rfl
    · exact h
    · rfl
  all_goals rfl
theorem genK_yes {op : BinOp} {t : TypeId} {x y : AV} {k : AV → Ans} (h : genK P op t x y k = .yes) :
    ∃ v, k v = .yes ∧ ∀ β X Y a b w, con β x = some a → con β y = some b → ∃ u, (binSem op t X Y a b).run P w = .ok u w ∧ con β v = some u := by
  unfold genK at h
  obtain ⟨p, hp, h⟩ := plainK_yes h
  obtain ⟨q, hq, h⟩ := plainK_yes h
  obtain ⟨v, av, h1, h2, h3⟩ := modelK_yes h
  refine ⟨av, h3, fun β X Y a b w ha hb => ⟨v, ?_, h2 β⟩⟩
  obtain rfl := plain_con β hp ha
  obtain rfl := plain_con β hq hb
  refine semPure_run ?_ w
  rw [semPure_bind] at h1
  unfold binSem
  rw [semPure_bind]
  cases hg : semPure P (eqGuard op t (.tmp 0) (.tmp 0) a b) with
  | none => rw [hg] at h1; cases h1
  | some z => cases z; rw [hg] at h1; rw [eqGuard_of X Y hg]; exact h1
theorem genB_yes {op : BinOp} {t : TypeId} {x y : AV} {k : Bool → Ans} (h : genB P op t x y k = .yes) :
    ∃ r, k r = .yes ∧ ∀ β X Y a b w, con β x = some a → con β y = some b → (binSem op t X Y a b).run P w = .ok (.bool r) w := by
  unfold genB at h
  obtain ⟨v, h1, h2⟩ := genK_yes h
  split at h1
  · rename_i r
    refine ⟨r, h1, fun β X Y a b w ha hb => ?_⟩
    obtain ⟨u, h3, h4⟩ := h2 β X Y a b w ha hb
    simp only [con] at h4; injection h4 with h4; subst h4; exact h3
  · cases h1
theorem cas_yes {x : AV} {a b : Nat → Ans} {c : Nat → List Nat → Ans} {o : Ans} (h : x.cas a b c o = .yes) :
    (∃ n, x = .nat n ∧ a n = .yes) ∨ (∃ n, x = .u8 n ∧ b n = .yes) ∨ (∃ n l, x = .str n l ∧ c n l = .yes) ∨ o = .yes := by
  cases x <;> first | exact .inl ⟨_, rfl, h⟩ | exact .inr (.inl ⟨_, rfl, h⟩) | exact .inr (.inr (.inl ⟨_, _, rfl, h⟩)) | exact .inr (.inr (.inr h))
theorem i64_lit {n : Nat} (h : n < 9223372036854775808) : IntKind.i64.wrap (n : Int) = n := by
  simp [IntKind.wrap, IntKind.bits, IntKind.signed]; omega
theorem con_str_inv {β : Bt} {n : Nat} {l : List Nat} {v : Value} (h : con β (.str n l) = some v) : v = .string (bytesOf l) ∧ n = l.length ∧ l.all (· < 256) = true := by
  unfold con at h
  split at h
  · rename_i hc; injection h with h; exact ⟨h.symm, hc.1, hc.2⟩
  · cases h
theorem con_str_mk {β : Bt} {n : Nat} {l : List Nat} (h1 : n = l.length) (h2 : l.all (· < 256) = true) : con β (.str n l) = some (.string (bytesOf l)) := by
  unfold con; rw [if_pos ⟨h1, h2⟩]
theorem bytesOf_append (l m : List Nat) : bytesOf l ++ bytesOf m = bytesOf (l ++ m) := by
  unfold bytesOf
  apply ByteArray.ext
  simp
theorem bytesOf_size (l : List Nat) : (bytesOf l).size = l.length := by simp [bytesOf, ByteArray.size]
theorem bytesOf_toList (l : List Nat) : (bytesOf l).toList = l.map UInt8.ofNat := by
  unfold bytesOf; simp
theorem ofNat_inj {a b : Nat} (ha : a < 256) (hb : b < 256) (h : UInt8.ofNat a = UInt8.ofNat b) : a = b := by
  have := congrArg UInt8.toNat h
  simp at this; omega
theorem map_ofNat_eq : ∀ {l m : List Nat}, l.all (· < 256) = true → m.all (· < 256) = true → (l.map UInt8.ofNat == m.map UInt8.ofNat) = (l == m)
  | [], [], _, _ => rfl
  | [], _ :: _, _, _ => rfl
  | _ :: _, [], _, _ => rfl
  | a :: l, b :: m, h, h' => by
    simp only [List.all_cons, Bool.and_eq_true, decide_eq_true_eq] at h h'
    have ih := map_ofNat_eq h.2 h'.2
    have e : (UInt8.ofNat a == UInt8.ofNat b) = (a == b) :=
      Bool.eq_iff_iff.2 (by rw [beq_iff_eq, beq_iff_eq]; exact ⟨fun e => ofNat_inj h.1 h'.1 e, fun e => by rw [e]⟩)
    simp only [List.map_cons, List.cons_beq_cons, e, ih]
theorem bytesLess_map : ∀ {l m : List Nat}, l.all (· < 256) = true → m.all (· < 256) = true → Op.bytesLess (l.map UInt8.ofNat) (m.map UInt8.ofNat) = ltL l m
  | l, [], _, _ => by cases l <;> rfl
  | [], _ :: _, _, _ => rfl
  | a :: l, b :: m, h, h' => by
    simp only [List.all_cons, Bool.and_eq_true, decide_eq_true_eq] at h h'
    have ih := bytesLess_map h.2 h'.2
    have e : (UInt8.ofNat a == UInt8.ofNat b) = (a == b) :=
      Bool.eq_iff_iff.2 (by rw [beq_iff_eq, beq_iff_eq]; exact ⟨fun e => ofNat_inj h.1 h'.1 e, fun e => by rw [e]⟩)
    have e2 : decide (UInt8.ofNat a < UInt8.ofNat b) = decide (a < b) := by
      rw [decide_eq_decide, UInt8.lt_iff_toNat_lt]
      simp; omega
    rw [List.map_cons, List.map_cons, Op.bytesLess, ltL, ih, e, e2]
end Go.Ev
