/- Memory: blocks are made, read and written. -/
import Derived.Test.YtniednnklbdciaaDoorEvE
set_option linter.unusedVariables false
set_option linter.unusedSectionVars false
set_option linter.unusedSimpArgs false
namespace Go.Ev
variable [Sg]

def upd (β : Bt) (n c κ : Nat) : Bt := fun b => if b = n then some (c, κ) else β b
theorem upd_same (β : Bt) (n c κ : Nat) : upd β n c κ n = some (c, κ) := by simp [upd]
theorem upd_ne {β : Bt} {n c κ b : Nat} (h : b ≠ n) : upd β n c κ b = β b := by simp [upd, h]
theorem upd_le {β : Bt} {n c κ : Nat} (h : β n = none) : Le β (upd β n c κ) := by
  intro b x e
  by_cases hb : b = n
  · subst hb; rw [h] at e; cases e
  · rw [upd_ne hb]; exact e
/-- A new block. -/
theorem Stp.new_block {β : Bt} {t : Tr Blk} {n low : Nat} {w w' : World} (hr : HR β (.mk t n low) w) (o : Obj) (κ : Nat) (blk : Blk) (hh : w'.heap = w.heap.push o) (h1 : w'.os = w.os) (h2 : w'.tape = w.tape) (h3 : w'.output = w.output)
    (hb : BlkR (upd β n w.heap.size κ) κ (some o) blk) : Stp β (.mk t n low) w (upd β n w.heap.size κ) (.mk (t.set (path n) (some blk)) (n + 1) low) w' := by
  have hn : β n = none := hr.fresh n (Nat.le_refl _)
  have hlow : low ≤ n := hr.low
  have hlt : ∀ b x, t.get (path b) = some x → ∃ cb κ', β b = some (cb, κ') ∧ cb < w.heap.size := by
    intro b x hx
    obtain ⟨_, cb, κ', e, hB⟩ := hr.blk b x hx
    refine ⟨cb, κ', e, ?_⟩
    cases x with
    | cells e' len c ex esz => obtain ⟨cs, fz, e2, -⟩ := hB; exact (Array.getElem?_eq_some_iff.1 e2).1
    | map es clock => obtain ⟨ms, e2, -⟩ := hB; exact (Array.getElem?_eq_some_iff.1 e2).1
    | iter l p => exact (Array.getElem?_eq_some_iff.1 hB.1).1
    | miter b s => obtain ⟨_, _, _, e2⟩ := hB; exact (Array.getElem?_eq_some_iff.1 e2).1
  refine ⟨⟨fun b x hx => ?_, fun b b' x x' c κ1 κ2 hx hx' e e' => ?_, fun i hi => ?_, ?_⟩, by show n ≤ n + 1; omega, Nat.le_refl _, fun b hb => upd_ne (by intro e; subst e; exact Nat.lt_irrefl _ hb), fun b c κ' hb e => ?_, ⟨h1, h2, h3, by rw [hh]; simp, fun c hc _ => by rw [hh, Array.getElem?_push, if_neg (by omega)]⟩⟩
  · replace hx : (t.set (path n) (some blk)).get (path b) = some x := hx
    rw [get_set] at hx
    by_cases hbn : b = n
    · subst hbn
      rw [if_pos rfl] at hx; injection hx with hx; subst hx
      exact ⟨by show b < b + 1; omega, _, κ, upd_same .., by rw [hh]; simpa using hb⟩
    · rw [if_neg (path_ne hbn)] at hx
      obtain ⟨h4, cb, κ', e, hB⟩ := hr.blk b x hx
      obtain ⟨cb2, κ2, e2, hcb⟩ := hlt b x hx
      rw [e] at e2; injection e2 with e2; injection e2 with e2 e3; subst e2
      have h4' : b < n := h4
      exact ⟨by show b < n + 1; omega, cb, κ', by rw [upd_ne hbn]; exact e, by rw [hh, Array.getElem?_push, if_neg (by omega)]; exact hB.mono (upd_le hn)⟩
  · replace hx : (t.set (path n) (some blk)).get (path b) = some x := hx
    replace hx' : (t.set (path n) (some blk)).get (path b') = some x' := hx'
    rw [get_set] at hx hx'
    by_cases hbn : b = n
    · by_cases hbn' : b' = n
      · rw [hbn, hbn']
      · subst hbn
        rw [upd_same] at e; injection e with e; injection e with e _
        rw [if_neg (path_ne hbn')] at hx'
        obtain ⟨cb, κ', e2, hcb⟩ := hlt b' x' hx'
        rw [upd_ne hbn'] at e'
        rw [e2] at e'; injection e' with e'; injection e' with e' _
        omega
    · rw [if_neg (path_ne hbn)] at hx
      rw [upd_ne hbn] at e
      by_cases hbn' : b' = n
      · subst hbn'
        rw [upd_same] at e'; injection e' with e'; injection e' with e' _
        obtain ⟨cb, κ', e2, hcb⟩ := hlt b x hx
        rw [e2] at e; injection e with e; injection e with e _
        omega
      · rw [if_neg (path_ne hbn')] at hx'
        rw [upd_ne hbn'] at e'
        exact hr.inj b b' x x' c κ1 κ2 hx hx' e e'
  · have hi' : n + 1 ≤ i := hi
    rw [upd_ne (by omega)]; exact hr.fresh i (show n ≤ i by omega)
  · show low ≤ n + 1; omega
  · left
    have hb' : n ≤ b := hb
    by_cases hbn : b = n
    · subst hbn; rw [upd_same] at e; injection e with e; injection e with e _; omega
    · rw [upd_ne hbn, hr.fresh b hb'] at e; cases e
/-- Another thing in a block. -/
theorem Stp.set_block {β : Bt} {t : Tr Blk} {n low b cb κ : Nat} {w w' : World} {old blk : Blk} (hr : HR β (.mk t n low) w) (hold : t.get (path b) = some old) (hβ : β b = some (cb, κ)) (hsz : w'.heap.size = w.heap.size)
    (hoth : ∀ i, i < w.heap.size → i ≠ cb → w'.heap[i]? = w.heap[i]?) (h1 : w'.os = w.os) (h2 : w'.tape = w.tape) (h3 : w'.output = w.output) (hb : BlkR β κ w'.heap[cb]? blk) :
    Stp β (.mk t n low) w β (.mk (t.set (path b) (some blk)) n (min low b)) w' := by
  have hlow : low ≤ n := hr.low
  have hlt : ∀ b x, t.get (path b) = some x → ∃ cb κ', β b = some (cb, κ') ∧ cb < w.heap.size := by
    intro b x hx
    obtain ⟨_, cb, κ', e, hB⟩ := hr.blk b x hx
    refine ⟨cb, κ', e, ?_⟩
    cases x with
    | cells e' len c ex esz => obtain ⟨cs, fz, e2, -⟩ := hB; exact (Array.getElem?_eq_some_iff.1 e2).1
    | map es clock => obtain ⟨ms, e2, -⟩ := hB; exact (Array.getElem?_eq_some_iff.1 e2).1
    | iter l p => exact (Array.getElem?_eq_some_iff.1 hB.1).1
    | miter b s => obtain ⟨_, _, _, e2⟩ := hB; exact (Array.getElem?_eq_some_iff.1 e2).1
  refine ⟨⟨fun b' x hx => ?_, fun b1 b2 x x' c κ1 κ2 hx hx' e e' => ?_, hr.fresh, ?_⟩, Nat.le_refl _, Nat.min_le_left _ _, fun _ _ => rfl, (fun b' c κ' hb' e => by rw [hr.fresh b' hb'] at e; cases e), ⟨h1, h2, h3, by omega, fun c hc hn => ?_⟩⟩
  · replace hx : (t.set (path b) (some blk)).get (path b') = some x := hx
    rw [get_set] at hx
    by_cases hbb : b' = b
    · subst hbb
      rw [if_pos rfl] at hx; injection hx with hx; subst hx
      exact ⟨(hr.blk b' old hold).1, cb, κ, hβ, hb⟩
    · rw [if_neg (path_ne hbb)] at hx
      obtain ⟨h4, cb', κ', e, hB⟩ := hr.blk b' x hx
      obtain ⟨cb2, κ2, e2, hcb⟩ := hlt b' x hx
      rw [e] at e2; injection e2 with e2; injection e2 with e2 e3; subst e2
      refine ⟨h4, cb', κ', e, ?_⟩
      rw [hoth cb' hcb (fun ec => hbb (hr.inj b' b x old cb' κ' κ hx hold e (by rw [ec]; exact hβ)))]
      exact hB
  · replace hx : (t.set (path b) (some blk)).get (path b1) = some x := hx
    replace hx' : (t.set (path b) (some blk)).get (path b2) = some x' := hx'
    have go : ∀ b1 x, (t.set (path b) (some blk)).get (path b1) = some x → ∃ y, t.get (path b1) = some y := by
      intro b1 x hx
      rw [get_set] at hx
      by_cases h : b1 = b
      · subst h; exact ⟨old, hold⟩
      · rw [if_neg (path_ne h)] at hx; exact ⟨x, hx⟩
    obtain ⟨y, hy⟩ := go b1 x hx
    obtain ⟨y', hy'⟩ := go b2 x' hx'
    exact hr.inj b1 b2 y y' c κ1 κ2 hy hy' e e'
  · show min low b ≤ n; omega
  · refine hoth c hc fun e => ?_
    subst e
    exact hn b κ (Nat.min_le_right low b) hβ
theorem drewHR {β : Bt} {h : Hp} {w : World} (hr : HR β h w) : Stp β h w β h w.drew :=
  ⟨hr.drawn rfl, Nat.le_refl _, Nat.le_refl _, fun _ _ => rfl, (fun b c κ hb e => by rw [hr.fresh b hb] at e; cases e), ⟨rfl, rfl, rfl, Nat.le_refl _, fun _ _ _ => rfl⟩⟩

/-- Cells of a row, set from a place on. -/
def setA (cs : Array Value) : Nat → List Value → Array Value
  | _, [] => cs
  | o, v :: r => setA (cs.setIfInBounds o v) (o + 1) r
theorem setA_size : ∀ (vs : List Value) (cs : Array Value) (o : Nat), (setA cs o vs).size = cs.size
  | [], cs, o => rfl
  | v :: r, cs, o => by rw [setA, setA_size r]; simp
theorem setA_get : ∀ (vs : List Value) (cs : Array Value) (o i : Nat), o + vs.length ≤ cs.size → (setA cs o vs)[i]? = if o ≤ i ∧ i < o + vs.length then vs[i - o]? else cs[i]?
  | [], cs, o, i, h => by rw [setA, if_neg (by simp only [List.length_nil]; omega)]
  | v :: r, cs, o, i, h => by
    simp at h
    rw [setA, setA_get r _ _ _ (by simp; omega)]
    by_cases h0 : i = o
    · subst h0
      rw [if_neg (by omega), if_pos (by simp)]
      simp [Array.getElem?_setIfInBounds]; omega
    · by_cases h1 : o + 1 ≤ i ∧ i < o + 1 + r.length
      · rw [if_pos h1, if_pos (by simp; omega), show i - o = (i - (o + 1)) + 1 by omega]; simp
      · rw [if_neg h1, if_neg (by simp; omega), Array.getElem?_setIfInBounds, if_neg (by omega)]
theorem setCells_heap : ∀ (vs : List Value) (o : Nat) (w : World) (b : Nat) (cs : Array Value) (e : TypeId) (fz : Nat × Nat), w.heap[b]? = some (.cells cs e fz) → (w.setCells b o vs).heap[b]? = some (.cells (setA cs o vs) e fz)
  | [], o, w, b, cs, e, fz, h => h
  | v :: r, o, w, b, cs, e, fz, h => by
    rw [World.setCells, setA]
    refine setCells_heap r _ _ _ _ _ _ ?_
    show (w.heap.modify b _)[b]? = _
    rw [Array.getElem?_modify, if_pos rfl, h]
    rfl
theorem setCells_size : ∀ (vs : List Value) (o : Nat) (w : World) (b : Nat), (w.setCells b o vs).heap.size = w.heap.size
  | [], _, _, _ => rfl
  | v :: r, o, w, b => by rw [World.setCells, setCells_size r]; simp
theorem setCells_tape : ∀ (vs : List Value) (o : Nat) (w : World) (b : Nat), (w.setCells b o vs).tape = w.tape
  | [], _, _, _ => rfl
  | v :: r, o, w, b => by rw [World.setCells, setCells_tape r]; rfl
/-- A block's cells, read. -/
theorem getK_yes {b off n : Nat} {h : Hp} {k : List AV → Ans} (hk : getK b off n h k = .yes) :
    ∃ l e m c ex sz, h.tr.get (path b) = some (.cells e m c ex sz) ∧ off + n ≤ m ∧ l.length = n ∧ (∀ i, i < n → c.get (path (off + i)) = l[i]?) ∧ k l = .yes := by
  cases h with
  | mk t nx low =>
    unfold getK at hk
    obtain ⟨bl, hb, hk⟩ := getP_yes hk
    cases bl with
    | map es cl => cases hk
    | iter l p => cases hk
    | miter b s => cases hk
    | cells e m c ex sz =>
      obtain ⟨h1, hk⟩ := cnd_yes hk
      obtain ⟨l, h2, h3, h4⟩ := readN_yes hk
      exact ⟨l, e, m, c, ex, sz, hb, by simpa using h1, h2, h3, h4⟩
theorem cells_of {β : Bt} {h : Hp} {w : World} (hr : HR β h w) {b off n e m : Nat} {c : Tr AV} {ex : Bool} {sz : Nat} {l : List AV} (hb : h.tr.get (path b) = some (.cells e m c ex sz)) (hm : off + n ≤ m) (hl : l.length = n) (hc : ∀ i, i < n → c.get (path (off + i)) = l[i]?) :
    ∃ cb κ vs, β b = some (cb, κ) ∧ conL β l = some vs ∧ (∀ u ∈ vs, u.oneCell' = true) ∧ vs.length = n ∧ ∀ i u, vs[i]? = some u → w.cell? ⟨cb, off + i, none⟩ = some u := by
  obtain ⟨-, cb, κ, hβ, cs, fz, h1, h2, h3, h4, -, -⟩ := hr.blk b _ hb
  have hex : ∀ i, i < n → ∃ av u, l[i]? = some av ∧ cs[off + i]? = some u ∧ con β av = some u ∧ flatV u = true := by
    intro i hi
    obtain ⟨av, u, a1, a2, a3, a4⟩ := h3 (off + i) (by omega)
    rw [hc i hi] at a1
    exact ⟨av, u, a1, a2, a3, a4⟩
  have hco : ∃ vs, conL β l = some vs ∧ vs.length = n ∧ ∀ i u, vs[i]? = some u → cs[off + i]? = some u ∧ u.oneCell' = true := by
    clear hc hm
    induction l generalizing off n with
    | nil => exact ⟨[], rfl, hl, fun i u hu => by simp at hu⟩
    | cons x xs ih =>
      obtain ⟨n', rfl⟩ : ∃ n', n = n' + 1 := ⟨xs.length, by simpa using hl.symm⟩
      obtain ⟨av, u, a1, a2, a3, a4⟩ := hex 0 (by omega)
      simp at a1; subst a1
      obtain ⟨vs, b1, b2, b3⟩ := ih (off := off + 1) (n := n') (by simpa using hl) (fun i hi => by
        obtain ⟨av, u, c1, c2⟩ := hex (i + 1) (by omega)
        exact ⟨av, u, by simpa using c1, by rw [show off + 1 + i = off + (i + 1) by omega]; exact c2⟩)
      refine ⟨u :: vs, conL_mk a3 b1, by simp [b2], fun i w hw => ?_⟩
      cases i with
      | zero => simp at hw; subst hw; exact ⟨a2, a4⟩
      | succ i =>
        have := b3 i w (by simpa using hw)
        rw [show off + (i + 1) = off + 1 + i by omega]; exact this
  obtain ⟨vs, d1, d2, d3⟩ := hco
  refine ⟨cb, κ, vs, hβ, d1, fun u hu => ?_, d2, fun i u hu => ?_⟩
  · obtain ⟨i, hi⟩ := List.mem_iff_getElem?.1 hu
    exact (d3 i u hi).2
  · unfold World.cell?
    rw [h1]
    exact (d3 i u hu).1
theorem putK_yes {b off : Nat} {l : List AV} {h : Hp} {k : Hp → Ans} (hk : putK b off l h k = .yes) :
    ∃ t n low e m c ex sz, h = .mk t n low ∧ t.get (path b) = some (.cells e m c ex sz) ∧ off + l.length ≤ m ∧ k (.mk (t.set (path b) (some (.cells e m (putL l off c) ex sz))) n (min low b)) = .yes := by
  cases h with
  | mk t nx low =>
    unfold putK at hk
    obtain ⟨bl, hb, hk⟩ := getP_yes hk
    cases bl with
    | map es cl => cases hk
    | iter l p => cases hk
    | miter b s => cases hk
    | cells e m c ex sz =>
      simp only [lenK_eq] at hk
      obtain ⟨h1, hk⟩ := cnd_yes hk
      rw [writeL_eq, setP_eq, natMin_eq] at hk
      exact ⟨t, nx, low, e, m, c, ex, sz, rfl, hb, by simpa using h1, hk⟩
theorem put_stp {β : Bt} {t : Tr Blk} {n low b off e m sz : Nat} {c : Tr AV} {ex : Bool} {w : World} {l : List AV} {vs : List Value} (hr : HR β (.mk t n low) w) (hb : t.get (path b) = some (.cells e m c ex sz)) (hm : off + l.length ≤ m) (hl : conL β l = some vs) (h1 : ∀ u ∈ vs, u.oneCell' = true) :
    ∃ cb κ, β b = some (cb, κ) ∧ (∀ j, j < vs.length → (w.cell? ⟨cb, off + j, none⟩).isSome = true) ∧ (∀ j, j < vs.length → w.frozen? ⟨cb, off + j, none⟩ = false) ∧
      Stp β (.mk t n low) w β (.mk (t.set (path b) (some (.cells e m (putL l off c) ex sz))) n (min low b)) (w.setCells cb off vs) := by
  obtain ⟨-, cb, κ, hβ, cs, fz, e1, e2, e3, e4, e5, e6⟩ := hr.blk b _ hb
  have hlen := conL_len hl
  refine ⟨cb, κ, hβ, fun j hj => ?_, fun j hj => ?_, ?_⟩
  · unfold World.cell?; rw [e1]
    show (cs[off + j]?).isSome = true
    rw [Array.getElem?_eq_getElem (by omega)]; rfl
  · unfold World.frozen?; rw [e1]
    have := e2 (off + j) (by omega)
    simp only [Bool.and_eq_false_iff, decide_eq_false_iff_not]
    omega
  · refine Stp.set_block hr hb hβ (setCells_size ..) (fun i hi hne => World.heap_setCells_other w cb off vs hi hne) (World.os_setCells ..) (setCells_tape ..) (World.output_setCells ..) ?_
    rw [setCells_heap vs off w cb cs e fz e1]
    refine ⟨_, fz, rfl, fun i hi => e2 i (by rwa [setA_size] at hi), fun i hi => ?_, by rw [setA_size]; exact e4, fun h => by rw [setA_size]; exact e5 h, fun h => by rw [setA_size]; exact e6 h⟩
    rw [get_putL, setA_get vs cs off i (by omega), hlen]
    by_cases h : off ≤ i ∧ i < off + vs.length
    · rw [if_pos h, if_pos h]
      have hi2 : i - off < l.length := by omega
      obtain ⟨u, u1, u2⟩ := conL_get hl (List.getElem?_eq_getElem hi2)
      exact ⟨_, u, List.getElem?_eq_getElem hi2, u1, u2, h1 u (List.mem_iff_getElem?.2 ⟨_, u1⟩)⟩
    · rw [if_neg h, if_neg h]; exact e3 i hi
theorem newK_eq (e : TypeId) (l : List AV) (ex : Bool) (sz : Nat) (t : Tr Blk) (n low : Nat) (k : Nat → Hp → Ans) : newK e l ex sz (.mk t n low) k = k n (.mk (t.set (path n) (some (.cells e l.length (putL l 0 .leaf) ex sz))) (n + 1) low) := by
  unfold newK
  simp only [lenK_eq, writeL_eq, setP_eq, fNat_eq]
theorem new_stp {β : Bt} {t : Tr Blk} {n low : Nat} {w w' : World} {e : TypeId} {l : List AV} {vs : List Value} (rest : List Value) {ex : Bool} {sz κ : Nat} {fz : Nat × Nat} (hr : HR β (.mk t n low) w) (hl : conL β l = some vs) (h1 : ∀ u ∈ vs, u.oneCell' = true)
    (hh : w'.heap = w.heap.push (.cells (vs ++ rest).toArray e fz)) (g1 : w'.os = w.os) (g2 : w'.tape = w.tape) (g3 : w'.output = w.output) (hf : ∀ i, i < (vs ++ rest).length → ¬ (fz.1 ≤ i ∧ i < fz.2)) (hex : ex = true → rest = []) (hne : ex = false → (vs ++ rest).length = κ * sz) :
    Stp β (.mk t n low) w (upd β n w.heap.size κ) (.mk (t.set (path n) (some (.cells e l.length (putL l 0 .leaf) ex sz))) (n + 1) low) w' := by
  have hlen := conL_len hl
  refine Stp.new_block hr _ κ _ hh g1 g2 g3 ⟨_, fz, rfl, fun i hi => hf i (by simpa using hi), fun i hi => ?_, by simp; omega, fun h => by simp [hex h, hlen], fun h => by simpa using hne h⟩
  rw [get_putL, if_pos ⟨Nat.zero_le _, by omega⟩, Nat.sub_zero]
  obtain ⟨u, u1, u2⟩ := conL_get hl (List.getElem?_eq_getElem hi)
  refine ⟨_, u, List.getElem?_eq_getElem hi, ?_, con_mono (upd_le (hr.fresh n (Nat.le_refl _))) u2, h1 u (List.mem_iff_getElem?.2 ⟨_, u1⟩)⟩
  have : i < vs.length := by omega
  simp only [List.getElem?_toArray]
  rw [List.getElem?_append_left this]; exact u1
end Go.Ev
