import Derived.IntWalk
import Derived.Test.YtaklcjnfjchebaaSa5
set_option linter.unusedVariables false
set_option linter.unusedSectionVars false
set_option linter.unusedSimpArgs false
namespace Go.Vc
section
variable [Wd]
open Go.RowKit
section
variable {P : Program} {cx : Cx} {G : Gh} {w : World} {ops : Array Oper} {N k c m : Nat} {s s0 : VS} {a : Act} {vl : Nat → PV} {st : Nat → VS} {S : Nat → Bool} {X : Tbl} {T : Tabs} {pf : Nat → Option (Bool × Pl)} {aL : Nat → Act} {wL : Nat → World} {us : Nat → Value} {es : Nat → Eff} {rs : Nat → Option Rng}
theorem RunE.at (R : RunE P cx G ops N st pf c m aL wL us es rs) (hr : RegFit ops N) (hm : m ≤ ops.size) : ∀ k, c ≤ k → k ≤ m → (∀ i o t, c ≤ i → i < k → ops[i]? = some o → o.dst = some t → (aL k).tmps.getD t undef = us i) ∧ (∀ t, (∀ i o, c ≤ i → i < k → ops[i]? = some o → o.dst ≠ some t) → (aL k).tmps.getD t undef = (aL c).tmps.getD t undef) ∧ (aL k).tmps.size = (aL c).tmps.size ∧ (aL k).defers = (aL c).defers ∧ { aL k with tmps := #[] } = { aL c with tmps := #[] }
  | 0, h1, h2 => by
    obtain rfl : c = 0 := by omega
    exact ⟨fun i o t h3 h4 => by omega, fun t _ => rfl, rfl, rfl, rfl⟩
  | k + 1, h1, h2 => by
    by_cases e : c = k + 1
    · subst e
      exact ⟨fun i o t h3 h4 => by omega, fun t _ => rfl, rfl, rfl, rfl⟩
    · obtain ⟨i1, i2, i3, i4, i5⟩ := R.at hr hm k (by omega) (by omega)
      obtain ⟨o, ho⟩ : ∃ o, ops[k]? = some o := ⟨_, Array.getElem?_eq_getElem (by omega)⟩
      have ha := R.act k o (by omega) (by omega) ho
      rw [ha]
      refine ⟨fun i q t h3 h4 hq hd => ?_, fun t hn => ?_, by rw [put_size]; exact i3, by rw [put_defers]; exact i4, ?_⟩
      · by_cases e : i = k
        · subst e
          rw [ho] at hq; injection hq with hq; subst hq
          have hlt : t < (aL i).tmps.size := Nat.lt_of_lt_of_le (hr.lt i o t ho hd) (R.rel i (by omega) (by omega)).size
          rw [hd, put_same hlt]
        · rw [put_getD (fun e2 => hr.apart i k q o t hq ho e hd e2)]
          exact i1 i q t h3 (by omega) hq hd
      · rw [put_getD (hn k o (by omega) (Nat.lt_succ_self k) ho)]
        exact i2 t fun i q h3 h4 hq => hn i q h3 (by omega) hq
      · rw [← i5]
        cases o.dst <;> rfl
theorem RunE.world (R : RunE P cx G ops N st pf c m aL wL us es rs) : ∀ d, c + d ≤ m → wL (c + d) = layS es (fun _ => true) c d (wL c)
  | 0, _ => rfl
  | d + 1, h => by
    rw [show c + (d + 1) = c + d + 1 from rfl, R.wor (c + d) (by omega) (by omega), R.world d (by omega)]
    rfl
structure WRel (ops : Array Oper) (c m : Nat) (aL : Nat → Act) (wL : Nat → World) (us : Nat → Value) (es : Nat → Eff) (S : Nat → Bool) (a : Act) (w : World) : Prop where
  tA : ∀ i o t, c ≤ i → S i = true → ops[i]? = some o → o.dst = some t → a.tmps.getD t undef = us i
  tB : ∀ t, (∀ i o, c ≤ i → S i = true → ops[i]? = some o → o.dst ≠ some t) → a.tmps.getD t undef = (aL c).tmps.getD t undef
  wor : w = layS es S c (m - c) (wL c)
  low : ∀ i, i < c → S i = true
  high : ∀ i, S i = true → i < m
  down : ∀ i o e, S i = true → ops[i]? = some o → e ∈ o.after → Region.binds .any e = true → S e.on = true
  size : a.tmps.size = (aL c).tmps.size
  rest : { a with tmps := #[] } = { aL c with tmps := #[] }
theorem WRel.reads (h : WRel ops c m aL wL us es S a w) (of : OFit ops N) {o : Oper} (ho : ops[k]? = some o) (hok : ∀ e ∈ o.after, Region.binds .any e = true → S e.on = true) {t : Tmp} (ht : t ∈ readsOf ops.toList o) :
    (∀ i q, i < k → ops[i]? = some q → q.dst = some t → S i = true) ∧ (S k = false → ∀ i q, S i = true → ops[i]? = some q → q.dst = some t → i < k) := by
  have ho' : ops.toList[k]? = some o := by rw [Array.getElem?_toList]; exact ho
  refine ⟨fun i q hi hq hd => ?_, fun hk i q hS hq hd => ?_⟩
  · have hq' : ops.toList[i]? = some q := by rw [Array.getElem?_toList]; exact hq
    rcases of.opn.ap i k q o hi hq' ho' with h1 | h1
    · exact of.below h.down k o i ho hok h1
    · exact absurd ht (apartB_left h1 hd).1
  · have hq' : ops.toList[i]? = some q := by rw [Array.getElem?_toList]; exact hq
    refine Classical.byContradiction fun hlt => ?_
    have hne : i ≠ k := fun e => by rw [e, hk] at hS; cases hS
    rcases of.opn.ap k i o q (by omega) ho' hq' with h1 | h1
    · have := of.below h.down i q k hq (fun e he hb => h.down i q e hS hq he hb) h1
      rw [hk] at this; cases this
    · exact absurd ht (apartB_right h1 hd)
theorem WRel.read (h : WRel ops c m aL wL us es S a w) (R : RunE P cx G ops N st pf c m aL wL us es rs) (of : OFit ops N) (hm : m ≤ ops.size) (hck : c ≤ k) (hkm : k ≤ m) {o : Oper} (ho : ops[k]? = some o) (hno : S k = false) (hok : ∀ e ∈ o.after, Region.binds .any e = true → S e.on = true) {t : Tmp} (ht : t ∈ readsOf ops.toList o) : a.tmps.getD t undef = (aL k).tmps.getD t undef := by
  obtain ⟨r1, r2⟩ := h.reads of ho hok ht
  obtain ⟨l1, l2, -⟩ := R.at of.fit hm k hck hkm
  by_cases e : ∃ i q, c ≤ i ∧ S i = true ∧ ops[i]? = some q ∧ q.dst = some t
  · obtain ⟨i, q, g1, g2, g3, g4⟩ := e
    rw [h.tA i q t g1 g2 g3 g4, l1 i q t g1 (r2 hno i q g2 g3 g4) g3 g4]
  · rw [h.tB t fun i q g1 g2 g3 g4 => e ⟨i, q, g1, g2, g3, g4⟩, l2 t fun i q g1 g2 g3 g4 => e ⟨i, q, g1, r1 i q g2 g3 g4, g3, g4⟩]
theorem getElem_of {x y : Array Value} (hs : x.size = y.size) {t : Nat} (h : x.getD t undef = y.getD t undef) : x[t]? = y[t]? := by
  by_cases ht : t < x.size
  · rw [Array.getD, dif_pos ht, Array.getD, dif_pos (by omega)] at h
    rw [Array.getElem?_eq_getElem ht, Array.getElem?_eq_getElem (by omega)]
    exact congrArg some h
  · rw [Array.getElem?_eq_none (by omega), Array.getElem?_eq_none (by omega)]
theorem WRel.guardOn (h : WRel ops c m aL wL us es S a w) (R : RunE P cx G ops N st pf c m aL wL us es rs) (of : OFit ops N) (hm : m ≤ ops.size) (hck : c ≤ k) (hkm : k ≤ m) {o : Oper} (ho : ops[k]? = some o) (hno : S k = false) (hok : ∀ e ∈ o.after, Region.binds .any e = true → S e.on = true) : GuardOn ops a.tmps o.guard ↔ GuardOn ops (aL k).tmps o.guard := by
  unfold GuardOn
  cases hg : o.guard with
  | none => exact Iff.rfl
  | some p =>
    obtain ⟨j, b⟩ := p
    obtain ⟨q, d, hq, hd⟩ := of.gdst k o ho j b hg
    have hs : a.tmps.size = (aL k).tmps.size := by rw [h.size, (R.at of.fit hm k hck hkm).2.2.1]
    have he := getElem_of hs (h.read R of hm hck hkm ho hno hok (reads_guard hg (by rw [Array.getElem?_toList]; exact hq) hd))
    dsimp only
    unfold yielded
    rw [hq]
    simp only [Option.bind_some, hd, he]
theorem unforced {i j : Nat} (of : OFit ops N) (h : WRel ops c m aL wL us es S a w) {o : Oper} (ho : ops[j]? = some o) (hi : S i = false) (hj : S j = true) : inMask ((befores ops.toList).getD j 0) i = false := by
  cases hm : inMask ((befores ops.toList).getD j 0) i with
  | false => rfl
  | true =>
    have := of.below h.down j o i ho (fun e he hb => h.down j o e hj ho he hb) hm
    rw [hi] at this; cases this
theorem apart_of (R : RunE P cx G ops N st pf c m aL wL us es rs) (of : OFit ops N) (hm : m ≤ ops.size) (hpr : ∀ i j, c ≤ i → i < j → j < m → PairOk (befores ops.toList) j (pf j) i (pf i)) {i j : Nat} (hci : c ≤ i) (hij : i < j) (hjm : j < m) (hu : inMask ((befores ops.toList).getD j 0) i = false) :
    EApart (es i) (es j) ∧ (∀ r x, rs j = some r → (es i).rng = some x → x.Apart r) ∧ ∀ r x, rs i = some r → (es j).rng = some x → x.Apart r := by
  have hv := (R.rel c (Nat.le_refl _) (by omega)).inv
  refine ⟨fun x y h1 h2 => ?_, fun r x h1 h2 => ?_, fun r x h1 h2 => ?_⟩
  · obtain ⟨p, q1, q2⟩ := R.wr i x hci (by omega) h1
    obtain ⟨p', q3, q4⟩ := R.wr j y (by omega) hjm h2
    rcases hpr i j hci hij hjm _ _ _ _ q3 q1 rfl with h | h
    · rw [hu] at h; cases h
    · exact (djPl_ok hv h q4 q2).symm
  · obtain ⟨p, q1, q2⟩ := R.wr i x hci (by omega) h2
    obtain ⟨p', q3, q4⟩ := R.rd j r (by omega) hjm h1
    rcases hpr i j hci hij hjm _ _ _ _ q3 q1 rfl with h | h
    · rw [hu] at h; cases h
    · exact (djPl_ok hv h q4 q2).symm
  · obtain ⟨p, q1, q2⟩ := R.rd i r hci (by omega) h1
    obtain ⟨p', q3, q4⟩ := R.wr j x (by omega) hjm h2
    rcases hpr i j hci hij hjm _ _ _ _ q3 q1 rfl with h | h
    · rw [hu] at h; cases h
    · exact djPl_ok hv h q4 q2
theorem WRel.same (h : WRel ops c m aL wL us es S a w) (R : RunE P cx G ops N st pf c m aL wL us es rs) (of : OFit ops N) (hm : m ≤ ops.size) (hpr : ∀ i j, c ≤ i → i < j → j < m → PairOk (befores ops.toList) j (pf j) i (pf i)) (hck : c ≤ k) (hkm : k < m) {o : Oper} (ho : ops[k]? = some o) (hno : S k = false) (hok : ∀ e ∈ o.after, Region.binds .any e = true → S e.on = true) {r : Rng} (hrk : rs k = some r) : SameAt r (wL k) w := by
  obtain ⟨d, rfl⟩ : ∃ d, k = c + d := ⟨k - c, by omega⟩
  have get : ∀ j, j < m → ∃ q, ops[j]? = some q := fun j hj => ⟨_, Array.getElem?_eq_getElem (by omega)⟩
  have hkf : ∀ i, i < c + d → S i = false → inMask ((befores ops.toList).getD (c + d) 0) i = false := fun i hi hs => by
    cases hmm : inMask ((befores ops.toList).getD (c + d) 0) i with
    | false => rfl
    | true =>
      have := of.below h.down (c + d) o i ho hok hmm
      rw [hs] at this; cases this
  have a1 : SameAt r (layS es S c d (wL c)) (layS es (fun i => S i || decide (c ≤ i ∧ i < c + d)) c d (wL c)) := layS_ahead (fun i hi hs x hx => (apart_of R of hm hpr (by omega) (show c + i < c + d by omega) (by omega) (hkf (c + i) (by omega) hs)).2.1 r x hrk hx)
    (fun i j hi hs h1 h2 h3 => by
      obtain ⟨q, hq⟩ := get j (by omega)
      exact (apart_of R of hm hpr (by omega) h1 (by omega) (unforced of h hq hs h3)).1) (Nat.le_refl _)
  have a2 : layS es (fun i => S i || decide (c ≤ i ∧ i < c + d)) c d (wL c) = wL (c + d) := by
    rw [R.world d (by omega)]
    exact layS_congr fun i hi => by rw [decide_eq_true (by omega)]; simp
  have a3 : SameAt r (layS es S c d (wL c)) (layS es S c (m - c) (wL c)) := layS_behind (fun i h1 h2 h3 x hx => by
    by_cases e : i = d
    · subst e; rw [hno] at h3; cases h3
    · obtain ⟨q, hq⟩ := get (c + i) (by omega)
      exact (apart_of R of hm hpr hck (show c + d < c + i by omega) (by omega) (unforced of h hq hno h3)).2.2 r x hrk hx) (by omega)
  rw [h.wor, ← a2]
  exact a1.symm.trans a3
theorem WRel.alike (h : WRel ops c m aL wL us es S a w) (R : RunE P cx G ops N st pf c m aL wL us es rs) (hck : c ≤ k) (hkm : k ≤ m) : Alike (wL k) w := by
  obtain ⟨d, rfl⟩ : ∃ d, k = c + d := ⟨k - c, by omega⟩
  rw [h.wor, R.world d hkm]
  exact layS_alike.symm.trans layS_alike
theorem WRel.push (h : WRel ops c m aL wL us es S a w) (R : RunE P cx G ops N st pf c m aL wL us es rs) (of : OFit ops N) (hm : m ≤ ops.size) (hpr : ∀ i j, c ≤ i → i < j → j < m → PairOk (befores ops.toList) j (pf j) i (pf i)) (hck : c ≤ k) (hkm : k < m) {o : Oper} (ho : ops[k]? = some o) (hno : S k = false) (hok : ∀ e ∈ o.after, Region.binds .any e = true → S e.on = true) : WRel ops c m aL wL us es (addS S k) (a.put o.dst (us k)) ((es k).app w) := by
  have inA : ∀ {i}, addS S k i = true → i = k ∨ (i ≠ k ∧ S i = true) := fun {i} hi => by
    by_cases e : i = k
    · exact .inl e
    · rw [addS_of e] at hi; exact .inr ⟨e, hi⟩
  have hsz : k < ops.size := by omega
  refine ⟨fun i q t hci hi hq hd => ?_, fun t hn => ?_, ?_, fun i hi => ?_, fun i hi => ?_, fun i q e hi hq he hb => ?_, by rw [put_size]; exact h.size, ?_⟩
  · rcases inA hi with rfl | ⟨hne, hS⟩
    · rw [ho] at hq; injection hq with hq; subst hq
      have hlt : t < a.tmps.size := by
        rw [h.size]
        exact Nat.lt_of_lt_of_le (of.fit.lt i o t ho hd) (R.rel c (Nat.le_refl _) (by omega)).size
      rw [hd, put_same hlt]
    · rw [put_getD (fun e2 => of.fit.apart i k q o t hq ho hne hd e2)]
      exact h.tA i q t hci hS hq hd
  · rw [put_getD (hn k o hck addS_self ho)]
    exact h.tB t fun i q hci hS hq => by
      by_cases e : i = k
      · subst e; rw [hno] at hS; cases hS
      · exact hn i q hci (by rw [addS_of e]; exact hS) hq
  · rw [h.wor, layS_add hno hck (by omega) fun i h1 h2 h3 => ?_]
    obtain ⟨q, hq⟩ : ∃ q, ops[i]? = some q := ⟨_, Array.getElem?_eq_getElem (by omega)⟩
    exact (apart_of R of hm hpr hck h1 (by omega) (unforced of h hq hno h3)).1
  · unfold addS; rw [h.low i hi]; rfl
  · rcases inA hi with rfl | ⟨-, hS⟩
    · exact hkm
    · exact h.high i hS
  · rcases inA hi with rfl | ⟨-, hS⟩
    · rw [ho] at hq; injection hq with hq; subst hq
      have := hok e he hb
      unfold addS; rw [this]; rfl
    · have := h.down i q e hS hq he hb
      unfold addS; rw [this]; rfl
  · rw [← h.rest]
    cases o.dst <;> rfl
theorem WRel.all (h : WRel ops c m aL wL us es S a w) (R : RunE P cx G ops N st pf c m aL wL us es rs) (of : OFit ops N) (hm : m ≤ ops.size) (hcm : c ≤ m) (hall : ∀ i, i < m → S i = true) : a = aL m ∧ w = wL m := by
  obtain ⟨l1, l2, l3, l4, l5⟩ := R.at of.fit hm m hcm (Nat.le_refl _)
  constructor
  · have ht : a.tmps = (aL m).tmps := by
      apply Array.ext_getElem?
      intro t
      refine getElem_of (by rw [h.size, l3]) ?_
      by_cases e : ∃ i q, c ≤ i ∧ i < m ∧ ops[i]? = some q ∧ q.dst = some t
      · obtain ⟨i, q, g1, g2, g3, g4⟩ := e
        rw [h.tA i q t g1 (hall i g2) g3 g4, l1 i q t g1 g2 g3 g4]
      · rw [h.tB t fun i q g1 g2 g3 g4 => e ⟨i, q, g1, h.high i g2, g3, g4⟩, l2 t fun i q g1 g2 g3 g4 => e ⟨i, q, g1, g2, g3, g4⟩]
    have := h.rest.trans l5.symm
    have e1 : a = { ({ a with tmps := #[] } : Act) with tmps := a.tmps } := rfl
    have e2 : aL m = { ({ aL m with tmps := #[] } : Act) with tmps := (aL m).tmps } := rfl
    rw [e1, e2, this, ht]
  · obtain ⟨d, rfl⟩ : ∃ d, m = c + d := ⟨m - c, by omega⟩
    rw [h.wor, R.world d (Nat.le_refl _)]
    have : c + d - c = d := by omega
    rw [this]
    exact layS_congr fun i (hi : i < d) => hall (c + i) (by omega)
theorem WRel.start (of : OFit ops N) (hcm : c ≤ m) (hS : ∀ i, S i = true ↔ i < c) : WRel ops c m aL wL us es S (aL c) (wL c) :=
  ⟨fun i o t hi hs => by have := (hS i).1 hs; omega, fun t _ => rfl, by
    rw [layS_congr (S := S) (S' := fun _ => false) fun i hi => by
      cases h : S (c + i) with
      | false => rfl
      | true => have := (hS _).1 h; omega]
    have : ∀ n w, layS es (fun _ => false) c n w = w := fun n w => by
      induction n with
      | zero => rfl
      | succ n ih => unfold layS; rw [if_neg (by decide)]; exact ih
    exact (this _ _).symm, fun i hi => (hS i).2 hi, fun i hi => by have := (hS i).1 hi; omega, fun i o e hs ho he hb => (hS _).2 (by have := of.opn.dn i o e (by rw [Array.getElem?_toList]; exact ho) he hb; have := (hS i).1 hs; omega), rfl, rfl⟩
theorem nextBar (f : Nat → Bool) {n : Nat} : ∀ d c, c + d = n → ∃ m, c ≤ m ∧ m ≤ n ∧ (∀ i, c ≤ i → i < m → f i = false) ∧ (m = n ∨ f m = true)
  | 0, c, h => ⟨c, Nat.le_refl _, by omega, fun i h1 h2 => by omega, .inl (by omega)⟩
  | d + 1, c, h => by
    cases hf : f c with
    | true => exact ⟨c, Nat.le_refl _, by omega, fun i h1 h2 => by omega, .inr hf⟩
    | false =>
      obtain ⟨m, h1, h2, h3, h4⟩ := nextBar f (n := n) d (c + 1) (by omega)
      refine ⟨m, by omega, h2, fun i g1 g2 => ?_, h4⟩
      by_cases e : i = c
      · rw [e]; exact hf
      · exact h3 i (by omega) g2
structure TrcE (P : Program) (X : Tbl) (T : Tabs) (ops : Array Oper) (s : VS) (st : Nat → VS) (vl : Nat → PV) (pf : Nat → Option (Bool × Pl)) : Prop where
  zero : st 0 = s
  step : ∀ j o, ops[j]? = some o → LineE P X T ops.toList (befores ops.toList) j o (st j) (st (j + 1)) (vl j) (pf j)
  pair : ∀ i j, i < j → j < ops.size → (∀ q, i ≤ q → q ≤ j → barB ops.toList (befores ops.toList) q = false) → PairOk (befores ops.toList) j (pf j) i (pf i)
def Stretch (P : Program) (cx : Cx) (ops : Array Oper) (N : Nat) (st : Nat → VS) (pf : Nat → Option (Bool × Pl)) (S : Nat → Bool) (a : Act) (w : World) : Prop :=
  ∃ G c m aL wL us es rs, c ≤ m ∧ m ≤ ops.size ∧ (∀ i, c ≤ i → i < m → barB ops.toList (befores ops.toList) i = false) ∧ (m = ops.size ∨ barB ops.toList (befores ops.toList) m = true) ∧ RunE P cx G ops N st pf c m aL wL us es rs ∧ WRel ops c m aL wL us es S a w
theorem Stretch.start (tc : TrcE P X T ops s0 st vl pf) (of : OFit ops N) (h : LRel cx G ops N c (st c) a w) (hc : c ≤ ops.size) (hS : ∀ i, S i = true ↔ i < c) : Stretch P cx ops N st pf S a w := by
  obtain ⟨m, h1, h2, h3, h4⟩ := nextBar (barB ops.toList (befores ops.toList)) (n := ops.size) (ops.size - c) c (by omega)
  obtain ⟨aL, wL, us, es, rs, R, e1, e2⟩ := run_line of.fit tc.step h h1 h2 h3
  subst e1; subst e2
  exact ⟨G, c, m, aL, wL, us, es, rs, h1, h2, h3, h4, R, .start of h1 hS⟩
theorem Stretch.any (hX : XOk P T X) (hm : cx.m ≤ 32) (hT : TabC T cx) (of : OFit ops N) (tc : TrcE P X T ops s0 st vl pf) {Q : Exit → Act → World → Prop} (hQ : ∀ G a w, LRel cx G ops N ops.size (st ops.size) a w → Q .normal a w) :
    ∀ (fuel : Nat) (listed : Array Bool) (a : Act) (w : World), listed.size = ops.size → cntS (ofL listed) ops.size ≤ fuel → Stretch P cx ops N st pf (ofL listed) a w → wpAny P .any ops Q fuel listed a w := by
  have fin : ∀ (listed : Array Bool) (a : Act) (w : World), Stretch P cx ops N st pf (ofL listed) a w → (∀ j, j < ops.size → ofL listed j = true) → Q .normal a w := by
    intro listed a w ⟨G, c, m, aL, wL, us, es, rs, h1, h2, h3, h4, R, W⟩ hall
    have e : m = ops.size := by
      rcases h4 with h4 | h4
      · exact h4
      · refine Classical.byContradiction fun hne => ?_
        have := W.high m (hall m (by omega))
        omega
    obtain ⟨rfl, rfl⟩ := W.all R of h2 h1 fun i hi => hall i (by omega)
    have := R.rel m h1 (Nat.le_refl _)
    rw [e] at this ⊢
    exact hQ G _ _ this
  intro fuel
  induction fuel with
  | zero =>
    intro listed a w hsz hc iv
    have hall := cntS_zero (show cntS (ofL listed) ops.size = 0 by omega)
    refine ⟨?_, fin listed a w iv hall⟩
    cases hr : Region.ready .any ops listed with
    | nil => rfl
    | cons i rs =>
      obtain ⟨h1, h2, -⟩ := rdy_of hsz (show i ∈ Region.ready .any ops listed by rw [hr]; exact List.mem_cons_self ..)
      have := hall i (by omega)
      rw [h2] at this; cases this
  | succ fuel ih =>
    intro listed a w hsz hc iv
    refine ⟨fun h => fin listed a w iv (all_of of hsz h), fun i hi => ?_⟩
    obtain ⟨h1, hno, o, ho, hok⟩ := rdy_of hsz hi
    have hin : i < ops.size := by omega
    have next : ∀ a' w', Stretch P cx ops N st pf (addS (ofL listed) i) a' w' → wpAny P .any ops Q fuel (listed.setIfInBounds i true) a' w' := fun a' w' iv' => by
      rw [← ofL_set h1] at iv'
      refine ih _ a' w' (by simpa using hsz) ?_ iv'
      rw [ofL_set h1]
      have := cntS_add hno ops.size
      rw [if_pos (by omega)] at this
      omega
    obtain ⟨G, c, m, aL, wL, us, es, rs, g1, g2, g3, g4, R, W⟩ := iv
    have hci : c ≤ i := by
      refine Classical.byContradiction fun h => ?_
      have := W.low i (by omega)
      rw [hno] at this; cases this
    have hL := tc.step i o ho
    by_cases hb : barB ops.toList (befores ops.toList) i = true
    · have low : ∀ j, j < i → ofL listed j = true := fun j hj => of.below W.down i o j ho hok ((bar_all hb).1 j (by simp; omega) hj)
      have hmi : m = i := by
        have h5 : m ≤ i := by
          refine Classical.byContradiction fun h => ?_
          have := g3 i hci (by omega)
          rw [hb] at this; cases this
        refine Classical.byContradiction fun h => ?_
        have := W.high m (low m (by omega))
        omega
      subst hmi
      obtain ⟨rfl, rfl⟩ := W.all R of g2 g1 low
      have hl := R.rel m g1 (Nat.le_refl _)
      generalize pf m = px at hL
      cases hL with
      | bar f lh hb' e hB =>
        refine bar_step hX hm hT of.fit hl ho hB fun G' w' u hl' => next _ w' ?_
        rw [← e] at hl'
        refine Stretch.start tc of hl' (by omega) fun j => ?_
        unfold addS
        rw [Bool.or_eq_true, decide_eq_true_iff]
        exact ⟨fun h => h.elim (fun h => by have := W.high j h; omega) (fun h => by omega), fun h => by
          by_cases hj : j = m
          · exact .inr hj
          · exact .inl (low j (by omega))⟩
      | quiet hb' => rw [hb] at hb'; cases hb'
      | load t x p hb' => rw [hb] at hb'; cases hb'
      | store t x y p f lh hb' => rw [hb] at hb'; cases hb'
    · have him : i < m := by
        refine Classical.byContradiction fun h => ?_
        rcases g4 with g4 | g4
        · omega
        · by_cases e : m = i
          · rw [e] at g4; exact hb g4
          · have hmk := (bar_all g4).2 i (by simpa using hin) (by omega)
            have := W.high m (of.below W.down i o m ho hok hmk)
            omega
      have hpr : ∀ i j, c ≤ i → i < j → j < m → PairOk (befores ops.toList) j (pf j) i (pf i) := fun i j h1 h2 h3 => tc.pair i j h2 (by omega) fun q h4 h5 => g3 q (by omega) (by omega)
      have hgon := W.guardOn R of g2 hci (by omega) ho hno hok
      have nxt : wpAny P .any ops Q fuel (listed.setIfInBounds i true) (a.put o.dst (us i)) ((es i).app w) := next _ _ ⟨G, c, m, aL, wL, us, es, rs, g1, g2, g3, g4, R, W.push R of g2 hpr hci him ho hno hok⟩
      unfold wpOp
      rw [ho]
      dsimp only
      by_cases hg : GuardOn ops a.tmps o.guard
      · rw [if_pos ((wanted_iff ops a.tmps o).2 hg)]
        left
        obtain ⟨nx, hnx, hE⟩ := R.on i o hci him ho (hgon.1 hg)
        have hrun := hE a w (fun t ht => W.read R of g2 hci (by omega) ho hno hok (reads_operand (ops := ops.toList) ht)) (fun x hx => W.same R of g2 hpr hci him ho hno hok hx) (W.alike R hci (by omega))
        unfold Oper.wp
        rw [hrun]
        rcases hnx with rfl | ⟨rfl, hu⟩
        · exact nxt
        · rw [hu] at nxt; exact nxt
      · rw [if_neg (by rw [wanted_iff]; exact hg)]
        obtain ⟨q1, q2⟩ := R.off i o hci him ho (fun h => hg (hgon.2 h))
        rw [q1, q2] at nxt
        exact nxt
end
end
end Go.Vc
namespace Go.Vc
open Go.RowKit
section
def YieldW (P : Program) (o : Oper) (a : Act) (u : Value) : Prop := ∀ w, (execOp a.eval o).run P w = .ok (.value u) w
section
variable [Wd] {P : Program} {cx : Cx} {G : Gh} {lh : List (Nat × PV)} {w : World}
theorem YieldW.quiet {o : Oper} {a : Act} {u : Value} {s : Sem Value} (he : execOp a.eval o = (do Pure.pure (Next.value (← s)))) (hs : ∀ w', s.run P w' = .ok u w') : YieldW P o a u :=
  fun w' => by rw [he, Sem.run_bind, hs]; rfl
theorem YieldW.pure {o : Oper} {a : Act} {u : Value} (he : execOp a.eval o = Pure.pure (Next.value u)) : YieldW P o a u :=
  fun w' => by rw [he]; rfl
set_option maxHeartbeats 1000000 in
theorem quiet_yield {X : Tbl} {T : Tabs} (hi : Inv cx G lh w) {o : Oper} (hq : quietE o.op = true) {a : Act} {xs : List PV} {v : PV} {f : Option (PV → PV)} {lh' : List (Nat × PV)}
    (hx : RepL' xs G w (o.op.operands.toList.map a.eval)) (h : (evOp0 P X T o xs lh).Is v f lh lh') : f = none ∧ lh' = lh ∧ ∃ u, Rep v G w u ∧ YieldW P o a u := by
  have hq2 : (quietE o.op || memE o.op) = true := by rw [hq]; rfl
  have qt : ∀ {s : Sem Value}, execOp a.eval o = (do Pure.pure (Next.value (← s))) → Gives P s v G w → ∃ u, Rep v G w u ∧ YieldW P o a u := fun he hg => by
    obtain ⟨u, h1, h2⟩ := hg
    exact ⟨u, h2, YieldW.quiet he h1⟩
  obtain ⟨dst, op, type, pos, after, guard⟩ := o
  cases op
  case move x =>
    obtain ⟨x0, rfl, h1⟩ := RepL'.one (u := a.eval x) hx
    obtain ⟨rfl, rfl, rfl⟩ := h
    exact ⟨rfl, rfl, _, typed_ok h1, YieldW.pure rfl⟩
  case assign x =>
    obtain ⟨x0, rfl, h1⟩ := RepL'.one (u := a.eval x) hx
    unfold evOp0 at h
    dsimp only at h
    split at h
    · rename_i e n hc hd hn
      have : (!nilConst x) = true := hq
      rw [hc] at this; cases this
    · obtain ⟨rfl, rfl, rfl⟩ := h
      exact ⟨rfl, rfl, _, h1, YieldW.pure rfl⟩
  case build t ps =>
    obtain ⟨h1, rfl, rfl⟩ := OpR.at_is h
    have hx' : RepL' xs G w ((ps.toList.map (·.2)).map a.eval) := by simpa [Op.operands] using hx
    refine ⟨rfl, rfl, qt (s := Instr.build t (ps.map fun (i, x) => (i, a.eval x))) rfl ?_⟩
    rw [map_parts]
    exact build_ok h1 hx'
  case nilCheck x =>
    obtain ⟨x0, rfl, h1⟩ := RepL'.one (u := a.eval x) hx
    unfold evOp0 at h
    dsimp only at h
    split at h
    · rename_i n off he
      injection he with he; subst he
      obtain ⟨rfl, rfl, rfl⟩ := h
      obtain ⟨b, h2, h3⟩ := h1
      refine ⟨rfl, rfl, a.eval x, ⟨b, h2, h3⟩, YieldW.pure ?_⟩
      unfold execOp
      dsimp only
      rw [h3]
    · rename_i g p q he
      injection he with he; subst he
      obtain ⟨rfl, rfl, rfl⟩ := h
      obtain ⟨us, vs, h2, h3, h4⟩ := h1
      refine ⟨rfl, rfl, a.eval x, ⟨us, vs, h2, h3, h4⟩, YieldW.pure ?_⟩
      unfold execOp
      dsimp only
      rw [h4]
    · exact h.elim
  case binOp op t x y yt =>
    obtain ⟨x0, y0, rfl, h1, h2⟩ := RepL'.two (u := a.eval x) (v := a.eval y) hx
    obtain ⟨h3, rfl, rfl⟩ := OpR.at_is h
    exact ⟨rfl, rfl, qt (s := binSem op t x y (a.eval x) (a.eval y)) rfl (bin_ok h3 h1 h2 x y)⟩
  case unOp op t x =>
    obtain ⟨x0, rfl, h1⟩ := RepL'.one (u := a.eval x) hx
    obtain ⟨h3, rfl, rfl⟩ := OpR.at_is h
    exact ⟨rfl, rfl, qt rfl (un_ok h3 h1)⟩
  case slice t x lo hi' mx =>
    cases mx with
    | some m => cases lo <;> cases hi' <;> exact h.elim
    | none =>
      cases lo with
      | none =>
        cases hi' with
        | none =>
          obtain ⟨x0, rfl, h1⟩ := RepL'.one (u := a.eval x) hx
          obtain ⟨h3, rfl, rfl⟩ := OpR.at_is h
          exact ⟨rfl, rfl, qt rfl (slice_ok h3 h1 trivial trivial)⟩
        | some b =>
          obtain ⟨x0, y0, rfl, h1, h2⟩ := RepL'.two (u := a.eval x) (v := a.eval b) hx
          obtain ⟨h3, rfl, rfl⟩ := OpR.at_is h
          exact ⟨rfl, rfl, qt rfl (slice_ok h3 h1 trivial (opt1 h2))⟩
      | some q =>
        cases hi' with
        | none =>
          obtain ⟨x0, y0, rfl, h1, h2⟩ := RepL'.two (u := a.eval x) (v := a.eval q) hx
          obtain ⟨h3, rfl, rfl⟩ := OpR.at_is h
          exact ⟨rfl, rfl, qt rfl (slice_ok h3 h1 (opt1 h2) trivial)⟩
        | some b =>
          obtain ⟨x0, y0, z0, rfl, h1, h2, h4⟩ := RepL'.three (u := a.eval x) (v := a.eval q) (q := a.eval b) hx
          obtain ⟨h3, rfl, rfl⟩ := OpR.at_is h
          exact ⟨rfl, rfl, qt rfl (slice_ok h3 h1 (opt1 h2) (opt1 h4))⟩
  case fieldAddr t x f =>
    obtain ⟨x0, rfl, h1⟩ := RepL'.one (u := a.eval x) hx
    obtain ⟨h3, rfl, rfl⟩ := OpR.at_is h
    exact ⟨rfl, rfl, qt rfl (fieldAddr_ok h3 h1)⟩
  case field t x f =>
    obtain ⟨x0, rfl, h1⟩ := RepL'.one (u := a.eval x) hx
    obtain ⟨h3, rfl, rfl⟩ := OpR.at_is h
    exact ⟨rfl, rfl, qt rfl (field_ok h3 h1)⟩
  case indexAddr t x y =>
    obtain ⟨x0, y0, rfl, h1, h2⟩ := RepL'.two (u := a.eval x) (v := a.eval y) hx
    obtain ⟨h3, rfl, rfl⟩ := OpR.at_is h
    exact ⟨rfl, rfl, qt rfl (indexAddr_ok h3 h1 h2)⟩
  case index t x y =>
    obtain ⟨x0, y0, rfl, h1, h2⟩ := RepL'.two (u := a.eval x) (v := a.eval y) hx
    obtain ⟨h3, rfl, rfl⟩ := OpR.at_is h
    exact ⟨rfl, rfl, qt rfl (index_ok h3 h1 h2)⟩
  case extract x i =>
    obtain ⟨x0, rfl, h1⟩ := RepL'.one (u := a.eval x) hx
    unfold evOp0 at h
    dsimp only at h
    split at h
    · rename_i l he
      injection he with he; subst he
      obtain ⟨h3, rfl, rfl⟩ := OpR.at_is h
      exact ⟨rfl, rfl, qt rfl (extract_ok h3 h1)⟩
    · exact h.elim
  case call c =>
    obtain ⟨callee, args, argTypes⟩ := c
    cases callee
    case builtin b =>
      cases b
      case len =>
        have hx' : RepL' xs G w (args.toList.map a.eval) := by simpa [Op.operands, Call.operands] using hx
        unfold evOp0 at h
        dsimp only at h
        cases h0 : argTypes[0]? with
        | none => rw [h0] at h; exact h.elim
        | some t =>
          rw [h0] at h
          dsimp only at h
          split at h
          · rename_i x0
            obtain ⟨h3, rfl, rfl⟩ := OpR.at_is h
            obtain ⟨u, us, hl, h1, h2⟩ := hx'
            obtain rfl : us = [] := h2
            obtain ⟨q, g1, g2⟩ := len_ok (ty := type) h0 h3 (typed_ok (P := P) (t := t) (tok := 0) h1)
            refine ⟨rfl, rfl, q, g2, YieldW.quiet (s := Builtin.len_ argTypes type #[u]) ?_ g1⟩
            show (do let d ← resolve a.eval ⟨.builtin .len, args, argTypes⟩ type; invoke d.target d.args) = _
            unfold resolve
            dsimp only
            have : args.map a.eval = #[u] := by apply Array.ext'; simpa using hl
            rw [this]
            rfl
          · exact h.elim
      all_goals (cases hq)
    all_goals (cases hq)
  all_goals (cases hq)
variable {ops : Array Oper} {N k : Nat} {s : VS} {a : Act} {X : Tbl} {T : Tabs}
theorem stepA_ok {l : List Oper} {i : Nat} {K : VS → Prop} (h : stepA P X T l i s K) : ∃ o v f lh', l[i]? = some o ∧ (evOp P X T o (operandsV l o s) s.lh).Is v f s.lh lh' ∧ K (pushL o v (s.turn f lh')) := by
  unfold stepA at h
  split at h
  · exact h.elim
  · rename_i o ho
    refine ⟨o, ?_⟩
    split at h
    · rename_i v hv
      rw [forceV_eq] at h
      exact ⟨v, none, s.lh, ho, by rw [hv]; exact ⟨rfl, rfl, rfl⟩, h⟩
    · rename_i p v hv
      rw [forceV_eq] at h
      exact ⟨v, none, s.lh, ho, by rw [hv]; exact ⟨h.1, rfl, rfl, rfl⟩, h.2⟩
    · rename_i v f lh' hv
      rw [forceV_eq] at h
      exact ⟨v, f, lh', ho, by rw [hv]; exact ⟨rfl, rfl, rfl⟩, h⟩
    · rename_i p v f lh' hv
      rw [forceV_eq] at h
      exact ⟨v, f, lh', ho, by rw [hv]; exact ⟨h.1, rfl, rfl, rfl⟩, h.2⟩
    · exact h.elim
theorem allA_get : ∀ {l : List Nat} {F : Nat → Prop}, allA l F → ∀ i ∈ l, F i
  | [], F, h, i, hi => by cases hi
  | [j], F, h, i, hi => by
    rcases List.mem_cons.1 hi with rfl | hi
    · exact h
    · cases hi
  | j :: q :: l, F, h, i, hi => by
    rcases List.mem_cons.1 hi with rfl | hi
    · exact h.1
    · exact allA_get (l := q :: l) h.2 i hi
theorem guardless_get {l : List Oper} (h : guardless l = true) {i : Nat} {o : Oper} (ho : l[i]? = some o) : o.guard = none ∧ (∀ c x y, o.op ≠ .pick c x y) ∧ ∀ cs b, o.op ≠ .select cs b := by
  have := List.all_eq_true.1 h o (List.mem_of_getElem? ho)
  rw [Bool.and_eq_true] at this
  obtain ⟨h1, h2⟩ := this
  refine ⟨?_, fun c x y e => ?_, fun cs b e => ?_⟩
  · cases hg : o.guard with
    | none => rfl
    | some g => rw [hg] at h1; cases h1
  · rw [e] at h2; cases h2
  · rw [e] at h2; cases h2
theorem rdy_is (ops : Array Oper) (listed : Array Bool) : rdyL ops.toList listed.toList = Region.ready .any ops listed := by
  have e1 : ∀ (i : Nat) (d : Bool), listed.toList.getD i d = listed.getD i d := fun i d => by simp [List.getD_eq_getElem?_getD, Array.getD_eq_getD_getElem?]
  unfold rdyL Region.ready
  rw [Array.length_toList]
  congr 1
  funext i
  rw [Array.getElem?_toList, e1]
  cases ops[i]? with
  | none => rfl
  | some o =>
    simp only [e1, Option.map_some, Option.getD_some, Array.all_toList]
theorem LRel.pushA (h : LRel cx G ops N ops.size s a w) (hr : RegFit ops N) (hgl : guardless ops.toList = true) {i : Nat} {o : Oper} (ho : ops[i]? = some o) {f : Option (PV → PV)} {lh' : List (Nat × PV)} {G' : Gh} {w' : World} (tr : Turns cx G w f lh' G' w') {v : PV} {u : Value}
    (hv : Rep v G' w' u) : LRel cx G' ops N ops.size (pushL o v (s.turn f lh')) (a.put o.dst u) w' := by
  have gl : ∀ {i : Nat} {q : Oper}, ops[i]? = some q → q.guard = none := fun hq => (guardless_get hgl (by rw [Array.getElem?_toList]; exact hq)).1
  refine ⟨by rw [push_env.2, turn_lh]; exact tr.inv, fun t x hl he => ?_, fun t g x hl => ?_, fun i q hi hq b hy => by rw [gl hq]; trivial, by rw [put_size]; exact h.size, by rw [put_defers]; exact h.defers⟩
  · rw [lookL_push] at hl
    split at hl
    · cases hl
    · rename_i hd
      rw [lookL_turn] at hl
      rw [push_env.1, getN_turn_env] at he
      rw [Option.map_eq_some_iff] at he
      obtain ⟨y, hy, rfl⟩ := he
      rw [put_getD hd]
      exact tr.rep _ _ (h.env t y (by simpa using hl) hy)
  · rw [lookL_push] at hl
    split at hl
    · rename_i hd
      injection hl with hl; injection hl with h1 h2; subst h1; subst h2
      have hlt : t < a.tmps.size := Nat.lt_of_lt_of_le (hr.lt i o t ho hd) h.size
      refine ⟨fun hg => ?_, i, o, (Array.getElem?_eq_some_iff.1 ho).1, ho, rfl, hd⟩
      rw [hd, put_same hlt]
      exact hv
    · rename_i hd
      rw [lookL_turn, Option.map_eq_some_iff] at hl
      obtain ⟨⟨g', y⟩, hy, e⟩ := hl
      injection e with e1 e2; subst e1; subst e2
      obtain ⟨h1, j, q, hi, hq, hg1, hd1⟩ := h.loc t g' y hy
      refine ⟨fun hg => ?_, j, q, hi, hq, hg1, hd1⟩
      rw [put_getD hd]
      refine tr.rep _ _ (h1 ?_)
      rw [← hg1, gl hq]; trivial
theorem eager_free {i : Nat} {oi : Oper} {listed : Array Bool} (ho : ops[i]? = some oi) (h : eagerB ops.toList listed.toList i = true) : quietE oi.op = true ∧ ∀ j oj, ops[j]? = some oj → j ≠ i → listed.getD j true = false → (∀ e ∈ oj.after, Region.binds .any e = true → e.on ≠ i) → oi.apart ops oj = true := by
  unfold eagerB at h
  rw [Array.getElem?_toList, ho] at h
  dsimp only at h
  rw [Bool.and_eq_true] at h
  refine ⟨h.1, fun j oj hj hne hl haf => ?_⟩
  have := List.all_eq_true.1 h.2 j (List.mem_range.2 (by rw [Array.length_toList]; exact (Array.getElem?_eq_some_iff.1 hj).1))
  have e1 : listed.toList.getD j true = listed.getD j true := by simp [List.getD_eq_getElem?_getD, Array.getD_eq_getD_getElem?]
  have e0 : Nat.beq j i = false := by cases e : Nat.beq j i with | false => rfl | true => exact absurd (Nat.eq_of_beq_eq_true e) hne
  rw [e0, e1, hl, Array.getElem?_toList, hj, Bool.false_or, Bool.false_or] at this
  dsimp only at this
  rw [Bool.or_eq_true] at this
  rcases this with this | this
  · obtain ⟨e, he, h2⟩ := List.any_eq_true.1 this
    rw [Bool.and_eq_true] at h2
    exact absurd (Nat.eq_of_beq_eq_true h2.2) (haf e (by simpa using he) h2.1)
  · simpa using this
theorem evA_any (hX : XOk P T X) (hm : cx.m ≤ 32) (hT : TabC T cx) (hr : RegFit ops N) (hgl : guardless ops.toList = true) {K : VS → Prop} {Q : Exit → Act → World → Prop} (hP : ∀ c a w, ¬ Q (.panic c) a w) (hQ : ∀ G s a w, LRel cx G ops N ops.size s a w → K s → Q .normal a w) :
    ∀ (n fuel : Nat) (listed : Array Bool) (s : VS) (G : Gh) (a : Act) (w : World), listed.size = ops.size → cntS (ofL listed) ops.size ≤ fuel → LRel cx G ops N ops.size s a w → evA P X T ops.toList n listed.toList s K → wpAny P .any ops Q fuel listed a w
  | 0, _, _, _, _, _, _, _, _, _, he => he.elim
  | n + 1, fuel, listed, s, G, a, w, hsz, hc, hl, he => by
    unfold evA at he
    rw [rdy_is] at he
    have one : ∀ i ∈ Region.ready .any ops listed, i < ops.size ∧ ofL listed i = false ∧ ∃ o, ops[i]? = some o := fun i hi => by
      obtain ⟨h1, h2, o, h3, -⟩ := rdy_of hsz hi
      exact ⟨by omega, h2, o, h3⟩
    have less : ∀ f i, i < ops.size → ofL listed i = false → cntS (ofL listed) ops.size ≤ f + 1 → cntS (ofL (listed.setIfInBounds i true)) ops.size ≤ f := fun f i hi hno hf => by
      rw [ofL_set (by omega)]
      have := cntS_add hno ops.size
      rw [if_pos hi] at this
      omega
    have tl : ∀ i, (listed.setIfInBounds i true).toList = listed.toList.set i true := fun i => by simp
    split at he
    · rename_i hnil
      cases fuel with
      | zero => exact ⟨hnil, hQ G s a w hl he⟩
      | succ fuel => exact ⟨fun _ => hQ G s a w hl he, fun i hi => by rw [hnil] at hi; cases hi⟩
    · rename_i hne
      cases fuel with
      | zero =>
        exfalso
        cases hrd : Region.ready .any ops listed with
        | nil => exact hne hrd
        | cons i rs =>
          obtain ⟨h1, h2, -⟩ := one i (by rw [hrd]; exact List.mem_cons_self ..)
          have := cntS_zero (show cntS (ofL listed) ops.size = 0 by omega) i h1
          rw [h2] at this; cases this
      | succ fuel =>
        split at he
        · rename_i i hf
          have hi := List.mem_of_find?_eq_some hf
          have hb := List.find?_some hf
          obtain ⟨h1, h2, -⟩ := one i hi
          obtain ⟨o, v, f, lh', ho, hI, hK⟩ := stepA_ok he
          rw [Array.getElem?_toList] at ho
          obtain ⟨hq, hfree⟩ := eager_free ho hb
          obtain ⟨g0, gp, gs⟩ := guardless_get hgl (i := i) (o := o) (by rw [Array.getElem?_toList]; exact ho)
          have hx : RepL' (operandsV ops.toList o s) G w (o.op.operands.toList.map a.eval) := by
            have : operandsV ops.toList o s = o.op.operands.toList.map (operandV ops.toList o.guard s) := by
              unfold operandsV
              split
              · rename_i c x y e
                exact absurd e (gp c x y)
              · rfl
            rw [this]
            exact hl.operands hr (fun j b e => by rw [g0] at e; cases e) (by rw [g0]; trivial) _
          obtain ⟨rfl, rfl, u, hv, hy⟩ := quiet_yield hl.inv hq hx (calm_is hI)
          have hl' := hl.pushA hr hgl ho (Turns.refl hl.inv) hv
          refine wpAny_first (oi := o) (v := u) ho (fun j q cs b hj => (guardless_get hgl (i := j) (o := q) (by rw [Array.getElem?_toList]; exact hj)).2.2 cs b) (fun c a w h => absurd h (hP c _ w)) fuel listed a w hfree hi (.inl ⟨by unfold Region.wanted; rw [g0], hy⟩) ?_
          exact evA_any hX hm hT hr hgl hP hQ n fuel _ _ _ _ _ (by simpa using hsz) (less fuel i h1 h2 hc) hl' (by rw [tl]; exact hK)
        · refine ⟨fun hnil => absurd hnil hne, fun i hi => ?_⟩
          obtain ⟨h1, h2, -⟩ := one i hi
          obtain ⟨o, v, f, lh', ho, hI, hK⟩ := stepA_ok (allA_get he i hi)
          rw [Array.getElem?_toList] at ho
          obtain ⟨g0, gp, gs⟩ := guardless_get hgl (i := i) (o := o) (by rw [Array.getElem?_toList]; exact ho)
          have hx : RepL' (operandsV ops.toList o s) G w (o.op.operands.toList.map a.eval) := by
            have : operandsV ops.toList o s = o.op.operands.toList.map (operandV ops.toList o.guard s) := by
              unfold operandsV
              split
              · rename_i c x y e
                exact absurd e (gp c x y)
              · rfl
            rw [this]
            exact hl.operands hr (fun j b e => by rw [g0] at e; cases e) (by rw [g0]; trivial) _
          unfold wpOp
          rw [ho]
          dsimp only
          rw [if_pos (by unfold Region.wanted; rw [g0])]
          left
          exact evOp_ok hX hl.inv hm hT gp hx hI _ _ fun G' w' u tr hv => evA_any hX hm hT hr hgl hP hQ n fuel _ _ _ _ _ (by simpa using hsz) (less fuel i h1 h2 hc) (hl.pushA hr hgl ho tr hv) (by rw [tl]; exact hK)
theorem evA_ok (hmix : P.follows .mixedOrders = true) (hX : XOk P T X) (hm : cx.m ≤ 32) (hT : TabC T cx) (of : OFit ops N) (hgl : guardless ops.toList = true) {K : VS → Prop} {Q : Exit → Act → World → Prop} (hQ : ∀ G s a w, LRel cx G ops N ops.size s a w → K s → Q .normal a w) (hl : s.loc = []) (h : LRel cx G ops N 0 s a w) {n : Nat} (he : evA P X T ops.toList n (ops.toList.map fun _ => false) s K) (id : Nat) : (Code.region id ops true).wp P Q a w := by
  refine Code.wp_mono (Q := fun e a w => match e with | .panic _ => False | e => Q e a w) (fun e a w hq => by cases e <;> first | exact hq | exact hq.elim) ?_
  refine wp_region_any hmix ?_
  obtain ⟨i1, i2⟩ := h.inv.drew
  have hd : LRel cx G ops N ops.size s a w.drew :=
    ⟨i1, fun t x g e => i2 _ _ (h.env t x g e), (fun t g v hlk => by rw [hl] at hlk; cases hlk), (fun i o hi ho b hy => by rw [(guardless_get hgl (i := i) (o := o) (by rw [Array.getElem?_toList]; exact ho)).1]; trivial), h.size, h.defers⟩
  have hnone : ofL (Array.replicate ops.size false) = fun _ => false := by
    funext j; unfold ofL
    by_cases h : j < ops.size <;> simp [Array.getD, h]
  have hlist : (Array.replicate ops.size false).toList = ops.toList.map fun _ => false := by
    rw [Array.toList_replicate, List.map_const', Array.length_toList]
  refine evA_any (Q := fun e a w => match e with | .panic _ => False | e => Q e a w) hX hm hT of.fit hgl (fun c a w h => h) (fun G s a w hr hk => hQ G s a w hr hk) n ops.size _ s G a w.drew Array.size_replicate ?_ hd (by rw [hlist]; exact he)
  rw [hnone, cntS_none]; exact Nat.le_refl _
theorem evG_ok (hmix : P.follows .mixedOrders = true) (hX : XOk P T X) (hm : cx.m ≤ 32) (hT : TabC T cx) (of : OFit ops N) {K : VS → Prop} {Q : Exit → Act → World → Prop} (hQ : ∀ G s a w, LRel cx G ops N ops.size s a w → K s → Q .normal a w) (hl : s.loc = []) (h : LRel cx G ops N 0 s a w) (he : evG P X T ops.toList (befores ops.toList) s K) (id : Nat) : (Code.region id ops true).wp P Q a w := by
  unfold evG at he
  split at he
  · rename_i hn
    unfold needA at hn
    rw [Bool.and_eq_true] at hn
    exact evA_ok hmix hX hm hT of hn.1 hQ hl h he id
  · exact evD_ok hmix hX hm hT of hQ hl h he id
end
end
section
variable [Wd] {P : Program} {cx : Cx} {G : Gh} {w : World}
structure CRel (cx : Cx) (G : Gh) (N : Nat) (s : VS) (a : Act) (w : World) : Prop where
  inv : Inv cx G s.lh w
  env : ∀ t x, getN t s.env = some x → Rep x G w (a.tmps.getD t undef)
  loc : s.loc = []
  size : N ≤ a.tmps.size
  defers : a.defers = []
def exOf : Ex → Exit
  | .normal => .normal
  | .exit id => .exit id
  | .goto l => .goto l
  | .ret => .ret
def Wp (P : Program) (items : List Item) (Q : Exit → Act → World → Prop) (a : Act) (w : World) : Prop :=
  ∀ (b : Frame) (k : List Item) (cs : List Frame), ∃ e a' w', Q e a' w' ∧ Arrives P (lone (b.at a (items ++ k)) cs w) b k cs e a' w'
theorem Wp.step {items items' : List Item} {Q : Exit → Act → World → Prop} {a : Act} {w : World} (hs : ∀ (b : Frame) (k : List Item) (cs : List Frame), Go.step P (lone (b.at a (items ++ k)) cs w) = .next (lone (b.at a (items' ++ k)) cs w)) (h : Wp P items' Q a w) : Wp P items Q a w := by
  intro b k cs
  obtain ⟨e, a', w', hq, har⟩ := h b k cs
  exact ⟨e, a', w', hq, .of_steps (.one (hs b k cs)) har⟩
theorem Wp.then {c : Code} {x : Item} (hx : x.plain = true) {Q : Exit → Act → World → Prop} {a : Act} {w : World} (h : c.wp P (fun e a' w' => match e with | .normal => Wp P [x] Q a' w' | e => Q e a' w') a w) : Wp P [.code c, x] Q a w := by
  intro b k cs
  obtain ⟨e, a1, w1, hq, har⟩ := h b (x :: k) cs
  cases e with
  | normal =>
    obtain ⟨e2, a2, w2, hq2, har2⟩ := hq b k cs
    exact ⟨e2, a2, w2, hq2, .of_steps har har2⟩
  | exit id => exact ⟨_, a1, w1, hq, .pass (x := x) hx (fun _ _ => .inl (by simp)) har⟩
  | goto l => exact ⟨_, a1, w1, hq, .pass (x := x) hx (fun _ _ => .inl (by simp)) har⟩
  | ret => exact ⟨_, a1, w1, hq, .pass (x := x) hx (fun _ _ => .inl (by simp)) har⟩
  | panic ch => exact ⟨_, a1, w1, hq, .pass (x := x) hx (fun _ _ => .inl (by simp)) har⟩
  | outgrown => exact ⟨_, a1, w1, hq, .pass (x := x) hx (fun _ _ => .inl (by simp)) har⟩
theorem Wp.scope {c c0 : Code} {Q : Exit → Act → World → Prop} {a : Act} {w : World} (h : c0.wp P (fun e a' w' => match e with
      | .goto l => (∃ rest, findLabel c l = some rest ∧ Wp P [.code rest, .inScope c] Q a' w') ∨ (findLabel c l = none ∧ Q (.goto l) a' w')
      | e => Q e a' w') a w) : Wp P [.code c0, .inScope c] Q a w := by
  intro b k cs
  obtain ⟨e, a1, w1, hq, har⟩ := h b (.inScope c :: k) cs
  cases e with
  | normal => exact ⟨.normal, a1, w1, hq, Steps.trans har (.one step_inScope)⟩
  | exit id => exact ⟨.exit id, a1, w1, hq, fun k' hk => har k' (by simp [exitTo, hk])⟩
  | goto l =>
    rcases hq with ⟨rest, hf, h2⟩ | ⟨hf, hq⟩
    · obtain ⟨e2, a2, w2, hq2, har2⟩ := h2 b k cs
      exact ⟨e2, a2, w2, hq2, .of_steps (har _ (by simp [gotoIn, hf])) har2⟩
    · exact ⟨.goto l, a1, w1, hq, fun k' hk => har k' (by simp [gotoIn, hf, hk])⟩
  | ret => exact ⟨_, a1, w1, hq, har⟩
  | panic ch => exact ⟨_, a1, w1, hq, har⟩
  | outgrown => exact ⟨_, a1, w1, hq, har⟩
theorem getN_keep (t : Nat) (s : VS) : getN t (keepL s).env = (getN t s.env).map fun x => match lookL t s.loc with | some (none, v) => v | some (some _, _) => .undef | none => x := by
  unfold keepL
  dsimp only
  induction s.env with
  | nil => rfl
  | cons e l ih =>
    show (bif Nat.beq e.1 t then some _ else getN t (l.map _)) = (bif Nat.beq e.1 t then some e.2 else getN t l).map _
    cases hb : Nat.beq e.1 t with
    | true =>
      have := Nat.eq_of_beq_eq_true hb
      subst this
      rfl
    | false => exact ih
theorem CRel.begin {N : Nat} {s : VS} {a : Act} (h : CRel cx G N s a w) (ops : Array Oper) : LRel cx G ops N 0 s a w :=
  ⟨h.inv, fun t x _ hx => h.env t x hx, (fun t g v hl => by rw [h.loc] at hl; cases hl), (fun i o hi => by omega), h.size, h.defers⟩
theorem LRel.finish {N k : Nat} {ops : Array Oper} {s : VS} {a : Act} (h : LRel cx G ops N k s a w) : CRel cx G N (keepL s) a w := by
  refine ⟨h.inv, fun t x hx => ?_, rfl, h.size, h.defers⟩
  rw [getN_keep, Option.map_eq_some_iff] at hx
  obtain ⟨y, hy, e⟩ := hx
  cases hl : lookL t s.loc with
  | none =>
    rw [hl] at e
    rw [← show y = x from e]
    exact h.env t y hl hy
  | some p =>
    obtain ⟨g, v⟩ := p
    rw [hl] at e
    cases g with
    | none =>
      rw [← show v = x from e]
      exact (h.loc t none v hl).1 trivial
    | some q =>
      rw [← show PV.undef = x from e]
      trivial
theorem cond_val {N : Nat} {s : VS} {a : Act} (h : CRel cx G N s a w) {c : Operand} {t : Bool} (hc : operandV [] none s c = .bool t) : a.eval c = .bool t := by
  cases c with
  | tmp i =>
    unfold operandV at hc
    dsimp only at hc
    rw [h.loc] at hc
    replace hc : (getN i s.env).getD .undef = .bool t := hc
    cases he : getN i s.env with
    | none => rw [he] at hc; cases hc
    | some x =>
      rw [he] at hc
      have : x = .bool t := hc
      subst this
      exact h.env i _ he
  | const v =>
    replace hc : ofValue v = .bool t := hc
    unfold ofValue at hc
    split at hc <;> first | (cases hc; done) | (injection hc with hc; subst hc; rfl)
  | global g => cases hc
  | func f => cases hc
theorem CRel.put {N : Nat} {a : Act} {s : VS} (h : CRel cx G N s a w) (n : Nat) (y : PV) (hy : ∀ x, getN n s.env = some x → ∀ v, Rep x G w v → Rep y G w v) : CRel cx G N (s.put n y) a w := by
  refine ⟨h.inv, fun t x hx => ?_, h.loc, h.size, h.defers⟩
  replace hx : getN t (setN n y s.env) = some x := hx
  rw [getN_set] at hx
  split at hx
  · rename_i e
    rw [Option.map_eq_some_iff] at hx
    obtain ⟨z, hz, e2⟩ := hx
    subst e2
    subst e
    exact hy z hz _ (h.env _ z hz)
  · exact h.env t x hx
theorem nilM_rep {m : Nat} {x : PV} {v : Value} {G : Gh} {w : World} (h : Rep x G w v) : Rep (nilM m x) G w v := by
  unfold nilM
  split
  · split
    · rcases h with ⟨i1, a, i2, i3, i4⟩ | ⟨h1, -⟩
      · cases a with
        | none => exact .inl ⟨i1, none, i2, rfl, .inl rfl⟩
        | some a => cases i3
      · cases h1
    · trivial
  · trivial
theorem CRel.drop {N : Nat} {a : Act} : ∀ {s : VS} (h : CRel cx G N s a w) (ns : List Nat), CRel cx G N (s.drop ns) a w
  | s, h, [] => h
  | s, h, n :: ns => by
    unfold VS.drop
    split
    · refine CRel.drop (h.put _ _ fun x hx v hv => ?_) ns
      rw [hx]
      exact nilM_rep hv
    · exact CRel.drop (h.put n .undef fun x _ v _ => trivial) ns
theorem CRel.still {N : Nat} {s : VS} {a : Act} (h : CRel cx G N s a w) (us : List Nat) : ∃ G', CRel cx G' N (stillS us s) a w := by
  cases us with
  | nil => exact ⟨G, h⟩
  | cons u us =>
    obtain ⟨s1, s2⟩ := h.inv.turn (w' := w) (callF_ok (u :: us)) none rfl rfl rfl (Nat.le_refl _) (fun _ _ _ => rfl) (fun t b e => by cases e)
    refine ⟨G.turn w (callF (u :: us)) none, ⟨?_, fun t x hx => ?_, ?_, h.size, h.defers⟩⟩
    · show Inv cx _ (s.turn (some (PV.mark1 (callF (u :: us)))) (turnB (PV.mark1 (callF (u :: us))) s.lh)).lh w
      rw [turn_lh]; exact s1
    · replace hx : getN t (s.turn (some (PV.mark1 (callF (u :: us)))) (turnB (PV.mark1 (callF (u :: us))) s.lh)).env = some x := hx
      rw [getN_turn_env, Option.map_eq_some_iff] at hx
      obtain ⟨y, hy, rfl⟩ := hx
      exact s2 _ _ (h.env t y hy)
    · show s.loc.map _ = []
      rw [h.loc]; rfl
theorem evC_ok {T : Tabs} {X : Tbl} {H : Loops} {N : Nat} (hmix : P.follows .mixedOrders = true) (hX : XOk P T X) (hm : cx.m ≤ 32) (hT : TabC T cx) : ∀ fuel : Nat,
    (∀ (c : Code) (s : VS) (k : Kont) (G : Gh) (a : Act) (w : World) (Q : Exit → Act → World → Prop), CRel cx G N s a w → evC P X T H N fuel none c s k → (∀ e G s a w, CRel cx G N s a w → k e s → Q (exOf e) a w) → c.wp P Q a w) ∧
    (∀ (c0 : Code) (C : Nat → Option (VS → Prop)) (c : Code) (s : VS) (k : Kont) (G : Gh) (a : Act) (w : World) (Q : Exit → Act → World → Prop), CRel cx G N s a w → evC P X T H N fuel (some (c0, C)) c s k → (∀ e G s a w, CRel cx G N s a w → k e s → Q (exOf e) a w) →
      (∀ l J, C l = some J → ∀ G s a w, CRel cx G N s a w → J s → ∃ rest, findLabel c0 l = some rest ∧ Wp P [.code rest, .inScope c0] Q a w) → Wp P [.code c, .inScope c0] Q a w)
  | 0 => ⟨fun c s k G a w Q _ he _ => he.elim, fun c0 C c s k G a w Q _ he _ _ => he.elim⟩
  | fuel + 1 => by
    obtain ⟨ihA, ihB⟩ := evC_ok hmix hX hm hT fuel
    refine ⟨fun c s k G a w Q hr he hQ => ?_, fun c0 C c s k G a w Q hr he hQ hC => ?_⟩
    · cases c with
      | skip => exact wp_skip (hQ .normal G s a w hr he)
      | region id ops draw =>
        replace he : (match (generalizing := false) draw, regOk N ops.toList with
          | false, true => evOps P X T ops.toList ops.toList s fun s => forceE (keepL s).env fun env => forceE s.lh fun lh => k .normal ⟨[], env, lh⟩
          | true, true => match openOk ops.toList (befores ops.toList) with
            | true => match H (2000000 + id) with
              | some h => (evG P X T ops.toList (befores ops.toList) (stillS (callMarks ops.toList s) s) fun s' => forceE (keepL s').env fun env => forceE s'.lh fun lh => h.cut s ⟨[], env, lh⟩) ∧ ∀ x, h.inv s x → k .normal (h.at_ s x)
              | none => evG P X T ops.toList (befores ops.toList) (stillS (callMarks ops.toList s) s) fun s => forceE (keepL s).env fun env => forceE s.lh fun lh => k .normal ⟨[], env, lh⟩
            | false => False
          | _, _ => False) := he
        split at he
        · rename_i hreg
          refine wp_region_list ?_
          exact evOps_ok (K := fun s => forceE (keepL s).env fun env => forceE s.lh fun lh => k .normal ⟨[], env, lh⟩) hX hm hT (regFit hreg) (fun G s a w hl hk => hQ .normal G _ a w hl.finish (by rw [forceE_eq, forceE_eq] at hk; exact hk)) ops.toList 0 s a w G (by simp) (Nat.zero_le _) (hr.begin ops) he
        · rename_i hreg
          split at he
          · rename_i hop
            obtain ⟨G', hr'⟩ := hr.still (callMarks ops.toList s)
            split at he
            · rename_i h hh
              exact evG_ok (K := fun s' => forceE (keepL s').env fun env => forceE s'.lh fun lh => h.cut s ⟨[], env, lh⟩) hmix hX hm hT (oFit hreg hop) (fun G s' a w hl hk => by
                rw [forceE_eq, forceE_eq] at hk
                have hf := hl.finish.drop h.dead
                rw [show (keepL s').drop h.dead = _ from hk.1] at hf
                exact hQ .normal G _ a w hf (he.2 _ hk.2)) hr'.loc (hr'.begin ops) he.1 id
            · exact evG_ok (K := fun s => forceE (keepL s).env fun env => forceE s.lh fun lh => k .normal ⟨[], env, lh⟩) hmix hX hm hT (oFit hreg hop) (fun G s a w hl hk => hQ .normal G _ a w hl.finish (by rw [forceE_eq, forceE_eq] at hk; exact hk)) hr'.loc (hr'.begin ops) he id
          · exact he.elim
        · exact he.elim
      | seq x y =>
        replace he : evC P X T H N fuel none x s fun e s => match e with
          | .normal => evC P X T H N fuel none y s k
          | e => k e s := he
        refine wp_seq (ihA x s _ G a w _ hr he fun e G s a w hr he => ?_)
        cases e with
        | normal => exact ihA y s k G a w Q hr he hQ
        | exit id => exact hQ _ G s a w hr he
        | goto l => exact hQ _ G s a w hr he
        | ret => exact hQ _ G s a w hr he
      | cond c x y =>
        replace he : onBool (operandV [] none s c) (evC P X T H N fuel none x s k) (evC P X T H N fuel none y s k) := he
        unfold onBool at he
        split at he
        · rename_i t hc
          exact wp_cond_split (cond_val hr hc) (fun ht => ihA x s k G a w Q hr (he.1 ht) hQ) (fun ht => ihA y s k G a w Q hr (he.2 ht) hQ)
        · exact he.elim
      | block id x =>
        replace he : evC P X T H N fuel none x s fun e s => match e with
          | .exit i => bif Nat.beq i id then k .normal s else k (.exit i) s
          | e => k e s := he
        refine wp_block (ihA x s _ G a w _ hr he fun e G s a w hr he => ?_)
        cases e with
        | normal => exact hQ _ G s a w hr he
        | exit i =>
          show (if i = id then _ else _)
          replace he : (bif Nat.beq i id then k .normal s else k (.exit i) s) := he
          by_cases e : i = id
          · subst e
            rw [Nat.beq_refl] at he
            rw [if_pos rfl]
            exact hQ .normal G s a w hr he
          · rw [show Nat.beq i id = false by rw [Bool.eq_false_iff]; exact fun hh => e (Nat.eq_of_beq_eq_true hh)] at he
            rw [if_neg e]
            exact hQ (.exit i) G s a w hr he
        | goto l => exact hQ _ G s a w hr he
        | ret => exact hQ _ G s a w hr he
      | loop x =>
        replace he : (match H (firstId x) with
          | some h => h.into s fun n s' => evC P X T H N fuel none x s' fun e s'' => match e with
            | .normal => h.back s n s''
            | e => k e s''
          | none => False) := he
        split at he
        · rename_i h hh
          obtain ⟨hs, hi0, hb⟩ := he
          have key : ∀ n, ∀ y, h.mu s y = n → h.inv s y → ∀ G a w, CRel cx G N (h.at_ s y) a w → Wp P [.code x, .inLoop x] Q a w := by
            intro n
            induction n using Nat.strongRecOn with
            | _ n ih =>
              intro y hn hy G a w hr
              refine Wp.then rfl (ihA x _ _ G a w _ hr (hb y hy) fun e G s' a w hr he => ?_)
              cases e with
              | normal =>
                obtain ⟨hs', hz, hlt⟩ := he
                replace hr := hr.drop h.dead
                rw [hs'] at hr
                exact Wp.step (items' := [.code x, .inLoop x]) (fun b k cs => step_inLoop) (ih _ (by rw [← hn]; exact hlt) _ rfl hz G a w hr)
              | exit id => exact hQ _ G s' a w hr he
              | goto l => exact hQ _ G s' a w hr he
              | ret => exact hQ _ G s' a w hr he
          have := key _ _ rfl hi0 G a w (by rw [← hs]; exact hr.drop h.dead)
          show Wp P [.code (.loop x)] Q a w
          exact Wp.step (items' := [.code x, .inLoop x]) (fun b k cs => step_loop) this
        · exact he.elim
      | exit id => exact wp_exit (hQ (.exit id) G s a w hr he)
      | scope x =>
        have := ihB x (fun _ => none) x s k G a w Q hr he hQ (fun l J hJ => by cases hJ)
        show Wp P [.code (.scope x)] Q a w
        exact Wp.step (items' := [.code x, .inScope x]) (fun b k cs => step_scope) this
      | label l => exact wp_label (hQ .normal G s a w hr he)
      | goto l => exact wp_goto (hQ (.goto l) G s a w hr he)
      | ret => exact wp_ret (hQ .ret G s a w hr he)
      | rangeFunc _ _ _ _ => exact he.elim
      | refuse _ => exact he.elim
    · replace he : evC P X T H N fuel none c s fun e s => match e with
        | .goto l => match C l with
          | some J => J s
          | none => match findLabel c0 l with
            | none => k (.goto l) s
            | some r => match H (1000000 + l) with
              | some h => h.into s fun n s' => evC P X T H N fuel (some (c0, fun l' => bif Nat.beq l' l then some (h.back s n) else C l')) r s' k
              | none => evC P X T H N fuel (some (c0, C)) r s k
        | e => k e s := he
      refine Wp.scope (ihA c s _ G a w _ hr he fun e G s a w hr he => ?_)
      cases e with
      | normal => exact hQ _ G s a w hr he
      | exit id => exact hQ _ G s a w hr he
      | ret => exact hQ _ G s a w hr he
      | goto l =>
        replace he : (match C l with
          | some J => J s
          | none => match findLabel c0 l with
            | none => k (.goto l) s
            | some r => match H (1000000 + l) with
              | some h => h.into s fun n s' => evC P X T H N fuel (some (c0, fun l' => bif Nat.beq l' l then some (h.back s n) else C l')) r s' k
              | none => evC P X T H N fuel (some (c0, C)) r s k) := he
        split at he
        · rename_i J hJ
          exact .inl (hC l J hJ G s a w hr he)
        · rename_i hCl
          split at he
          · rename_i hf
            exact .inr ⟨hf, hQ (.goto l) G s a w hr he⟩
          · rename_i r hf
            split at he
            · rename_i h hh
              obtain ⟨hs, hi0, hb⟩ := he
              have key : ∀ n, ∀ y, h.mu s y = n → h.inv s y → ∀ G a w, CRel cx G N (h.at_ s y) a w → Wp P [.code r, .inScope c0] Q a w := by
                intro n
                induction n using Nat.strongRecOn with
                | _ n ih =>
                  intro y hn hy G a w hr
                  refine ihB c0 _ r _ k G a w Q hr (hb y hy) hQ fun l' J hJ G s' a w hr hj => ?_
                  replace hJ : (bif Nat.beq l' l then some (h.back s y) else C l') = some J := hJ
                  cases hb' : Nat.beq l' l with
                  | true =>
                    rw [hb'] at hJ
                    injection hJ with hJ; subst hJ
                    obtain ⟨hs', hz, hlt⟩ := hj
                    replace hr := hr.drop h.dead
                    rw [hs'] at hr
                    rw [Nat.eq_of_beq_eq_true hb']
                    exact ⟨r, hf, ih _ (by rw [← hn]; exact hlt) _ rfl hz G a w hr⟩
                  | false =>
                    rw [hb'] at hJ
                    exact hC l' J hJ G s' a w hr hj
              exact .inl ⟨r, hf, key _ _ rfl hi0 G a w (by rw [← hs]; exact hr.drop h.dead)⟩
            · exact .inl ⟨r, hf, ihB c0 C r s k G a w Q hr he hQ hC⟩
end
section
variable [Wd] {P : Program} {cx : Cx} {G : Gh} {w : World}
def resSem (tmps : Array Value) (r : ResultVar) : Sem Value := match r with
  | .tmp t => Pure.pure (tmps.getD t undef)
  | .cell a t => do loadVar t (← asAddr (tmps.getD a undef))
theorem results_eq (fn : Func) (tmps : Array Value) : results fn tmps = (do let vs ← fn.results.mapM (resSem tmps); Pure.pure (if h : vs.size = 1 then vs[0] else .tuple vs)) := rfl
theorem resV_ok {T : Tabs} (hT : TabR T cx.F0) {N : Nat} {s : VS} {a : Act} (h : CRel cx G N s a w) {r : ResultVar} {v : PV} (hv : resV P T s r = some v) : ∃ u, (resSem a.tmps r).run P w = .ok u w ∧ Rep v G w u := by
  unfold resV at hv
  split at hv
  · rename_i t
    injection hv with hv; subst hv
    refine ⟨_, rfl, ?_⟩
    cases he : getN t s.env with
    | none => trivial
    | some x => exact h.env t x he
  · rename_i t ty
    split at hv
    · rename_i n off he
      split at hv
      · rename_i x hl
        injection hv with hv; subst hv
        obtain ⟨b, h1, h2⟩ := h.env t _ he
        obtain ⟨u, r1, r2⟩ := loadR_ok (P := P) h.inv hT (t := ty) (x := .ptr n off) (.inl hl) (show Rep (.ptr n off) G w _ from ⟨b, h1, h2⟩)
        refine ⟨u, ?_, r2⟩
        show (do loadVar ty (← asAddr (a.tmps.getD t undef)) : Sem Value).run P w = _
        rw [h2] at r1 ⊢
        simpa [asAddr, Instr.loadAt, Instr.sureAddr] using r1
      · cases hv
    · cases hv
theorem resVs_ok {T : Tabs} (hT : TabR T cx.F0) {N : Nat} {s : VS} {a : Act} (h : CRel cx G N s a w) : ∀ {rs : List ResultVar} {xs : List PV}, resVs P T s rs = some xs → ∃ us : List Value, (rs.mapM (resSem a.tmps)).run P w = .ok us w ∧ RepL' xs G w us
  | [], xs, hv => by
    unfold resVs at hv; injection hv with hv; subst hv
    exact ⟨[], rfl, rfl⟩
  | r :: rs, xs, hv => by
    unfold resVs at hv
    split at hv
    · rename_i y ys h1 h2
      injection hv with hv; subst hv
      obtain ⟨u, r1, r2⟩ := resV_ok hT h h1
      obtain ⟨us, r3, r4⟩ := resVs_ok hT h h2
      refine ⟨u :: us, ?_, u, us, rfl, r2, r4⟩
      rw [List.mapM_cons, Sem.run_bind, r1, Result.andThen_ok, Sem.run_bind, r3]; rfl
    · cases hv
theorem results_ok {T : Tabs} (hT : TabR T cx.F0) {N : Nat} {s : VS} {a : Act} (h : CRel cx G N s a w) {fn : Func} {v : PV} (hv : resultsV P T s fn.results.toList = some v) : ∃ u, (results fn a.tmps).run P w = .ok u w ∧ Rep v G w u := by
  have gen : ∀ (us : List Value), ((fn.results.toList.mapM (resSem a.tmps)).run P w = .ok us w) →
      (results fn a.tmps).run P w = .ok (if h : us.toArray.size = 1 then us.toArray[0] else .tuple us.toArray) w := by
    intro us hu
    rw [results_eq]
    simp only [Array.mapM_eq_mapM_toList, Sem.run_bind, Sem.run_map]
    rw [hu]
    rfl
  unfold resultsV at hv
  split at hv
  · rename_i x hx
    injection hv with hv; subst hv
    obtain ⟨us, r1, r2⟩ := resVs_ok hT h hx
    obtain ⟨u, us', rfl, h1, h2⟩ := r2
    obtain rfl : us' = [] := h2
    exact ⟨u, by rw [gen _ r1]; rfl, h1⟩
  · rename_i xs hne hx
    injection hv with hv; subst hv
    obtain ⟨us, r1, r2⟩ := resVs_ok hT h hx
    refine ⟨.tuple us.toArray, ?_, us, r2, rfl⟩
    rw [gen _ r1, dif_neg]
    intro h1
    have h2 : us.length = 1 := by simpa using h1
    have h3 := r2.length
    match xs, (by omega : xs.length = 1) with
    | [x], _ => exact hne x rfl
  · cases hv
theorem getN_with {xs : List PV} {t : Nat} {x : PV} : ∀ {ts : List Nat}, getN t (withAt xs ts) = some x → x = xs.getD t .undef
  | [], h => by cases h
  | u :: ts, h => by
    replace h : (bif Nat.beq u t then some (xs.getD u .undef) else getN t (withAt xs ts)) = some x := h
    cases hb : Nat.beq u t with
    | true =>
      rw [hb] at h
      have := Nat.eq_of_beq_eq_true hb
      subst this
      injection h with h; exact h.symm
    | false => rw [hb] at h; exact getN_with h
theorem Inv.bare {F : Nat → Nat → Option Value} (h : Fits F w) : Inv ⟨[], w, F, 0, fun _ => none⟩ (bareG F) [] w :=
  ⟨h, FLe.refl _, fun b o u hu => .inl hu, (fun n x hx => by cases hx), (fun n b hb => by cases hb), (fun t b ht => by cases ht), (fun n n' b hb => by cases hb), (fun t t' b ht => by cases ht), (fun n t b hb => by cases hb), (fun i hi => by cases hi), ⟨rfl, rfl, rfl, Nat.le_refl _, fun _ _ _ => rfl⟩⟩
theorem evF_ok {T : Tabs} {X : Tbl} {H : Loops} {fuel : Nat} {f : FuncId} {fn : Func} (hmix : P.follows .mixedOrders = true) (hX : XOk P T X) (hf : P.funcs[f]? = some fn) (hn : (fn.name == "runtime.NumGoroutine") = false) {xs : List PV} {r : PV} {pre : Prop}
    (he : pre → evF P X T H fuel fn xs fun v => v = r) (hnm : PV.allLs PV.nam1 xs = [] := by rfl) : FuncOk P T f xs ⟨pre, r⟩ := by
  refine .of_plain hnm ?_
  intro hpre F w vs hfits htab hwd hx
  have he := he hpre
  unfold evF at he
  cases hb : fn.body with
  | none => rw [hb] at he; exact he.elim
  | some c =>
    rw [hb] at he
    replace he : evC P X T H fn.ntmps fuel none c ⟨[], withAt xs (slotsOf (keepF fn) fn.ntmps), []⟩ (fun e s => match e with
      | .normal => outL (resultsV P T s fn.results.toList) fun v => v = r
      | .ret => outL (resultsV P T s fn.results.toList) fun v => v = r
      | _ => False) := he
    left
    refine ⟨?_, ?_⟩
    · unfold callFunc
      simp only [Sem.run_bind, run_program, Result.andThen_ok, hf]
      rw [hn]
      simp [hb]
    · refine calls_of_wp hf hb ?_
      have hlen := hx.length
      have hrel : CRel ⟨[], w, F, 0, fun _ => none⟩ (bareG F) fn.ntmps ⟨[], withAt xs (slotsOf (keepF fn) fn.ntmps), []⟩ { tmps := vs.toArray ++ Array.replicate (fn.ntmps - vs.toArray.size) undef, defers := [] } w := by
        refine ⟨Inv.bare hfits, fun t x ht => ?_, rfl, by simp; omega, rfl⟩
        have := getN_with ht
        subst this
        by_cases hlt : t < xs.length
        · have hg : xs[t]? = some (xs.getD t .undef) := by rw [List.getD, List.getElem?_eq_getElem hlt]; rfl
          obtain ⟨u, u1, u2⟩ := hx.get hg
          have hlt2 : t < vs.length := by omega
          have : (vs.toArray ++ Array.replicate (fn.ntmps - vs.toArray.size) undef).getD t undef = u := by
            rw [List.getElem?_eq_getElem hlt2] at u1
            injection u1 with u1
            rw [Array.getD_eq_getD_getElem?, Array.getElem?_append_left (by simpa using hlt2)]
            rw [List.getElem?_toArray, List.getElem?_eq_getElem hlt2, u1]
            rfl
          show Rep _ _ _ ((vs.toArray ++ Array.replicate (fn.ntmps - vs.toArray.size) undef).getD t undef)
          rw [this]; exact u2
        · have : xs.getD t .undef = .undef := by rw [List.getD, List.getElem?_eq_none (by omega)]; rfl
          rw [this]; trivial
      have fin : ∀ G s (a : Act) w', CRel ⟨[], w, F, 0, fun _ => none⟩ G fn.ntmps s a w' → outL (resultsV P T s fn.results.toList) (fun v => v = r) → a.defers = [] ∧ ∃ u, (results fn a.tmps).run P w' = .ok u w' ∧ ∃ v, Ending.returned u = .returned v ∧ Came F w r v w' := by
        intro G s a w' hr ho
        unfold outL at ho
        split at ho
        · rename_i r0 hr0
          rw [forceV_eq] at ho
          split at ho
          · rename_i hnam
            obtain ⟨u, g1, g2⟩ := results_ok (cx := ⟨[], w, F, 0, fun _ => none⟩) htab hr hr0
            refine ⟨hr.defers, u, g1, u, rfl, ?_⟩
            obtain ⟨s1, s2⟩ := hr.inv.turn (w' := w') (callF_ok (addNew [] (PV.allL PV.tok1 r0))) none rfl rfl rfl (Nat.le_refl _) (fun _ _ _ => rfl) (fun t b e => by cases e)
            have h2 := s2 _ _ g2
            have hag : r0.mapL (PV.mark1 (callF (addNew [] (PV.allL PV.tok1 r0)))) = r0.mapL (PV.mark1 bareF) := by
              refine mapL_agree (fun y => y.tok1 = [] ∨ ∀ t ∈ y.tok1, t ∈ addNew [] (PV.allL PV.tok1 r0)) (fun y _ hp => callF_bare hp) (fun y _ ht => ?_)
              rcases ht with h1 | h1
              · exact .inl h1
              · exact .inr fun t htm => (addNew_mem (PV.allL PV.tok1 r0) []).2 t (h1 t htm)
            rw [hag] at h2
            obtain ⟨b1, b2⟩ := bare_tok r0
            have h3 := Rep.deepen b1 (by rw [b2]; exact hnam) h2
            rw [ho] at h3
            refine ⟨(G.turn w' (callF (addNew [] (PV.allL PV.tok1 r0))) none).F, fun _ => none, ⟨s1.kept.os, s1.kept.tape, s1.kept.output, s1.kept.size, fun k hk => s1.kept.block k hk (by simp)⟩, s1.base, s1.fits, fun b o u hu => ?_, (fun t b e => by cases e), h3⟩
            rcases s1.ext b o u hu with h4 | h4
            · exact .inl h4
            · rcases h4 with h4 | h4
              · cases h4
              · exact .inr h4
          · exact ho.elim
        · exact ho.elim
      refine (evC_ok hmix hX (by show 0 ≤ 32; omega) (show TabC T ⟨[], w, F, 0, fun _ => none⟩ from ⟨htab, fun b hb => (by cases hb), hwd⟩) fuel).1 c _ _ (bareG F) _ w _ hrel he fun e G s a w' hr hk => ?_
      cases e with
      | normal => exact fin G s a w' hr hk
      | ret => exact fin G s a w' hr hk
      | exit i => exact hk.elim
      | goto l => exact hk.elim
end
section
variable [Wd] {P : Program} {T : Tabs}
def tblX : List (FuncId × (List PV → Option CallR)) → Tbl
  | [], _, _ => none
  | e :: l, f, xs => bif Nat.beq e.1 f then (match e.2 xs with | some c => some c | none => tblX l f xs) else tblX l f xs
theorem tblX_nil : XOk P T (tblX []) := fun f xs c h => by cases h
theorem tblX_cons {f : FuncId} {g : List PV → Option CallR} {l : List (FuncId × (List PV → Option CallR))} (h : ∀ xs c, g xs = some c → FuncOk P T f xs c) (hl : XOk P T (tblX l)) : XOk P T (tblX ((f, g) :: l)) := fun f' xs c hc => by
  replace hc : (bif Nat.beq f f' then (match g xs with | some c => some c | none => tblX l f' xs) else tblX l f' xs) = some c := hc
  cases hb : Nat.beq f f' with
  | true =>
    rw [hb] at hc
    cases hg : g xs with
    | none => rw [hg] at hc; exact hl f' xs c hc
    | some c' =>
      rw [hg] at hc
      injection hc with hc; subst hc
      rw [← Nat.eq_of_beq_eq_true hb]
      exact h xs c' hg
  | false => rw [hb] at hc; exact hl f' xs c hc
theorem enter_run {f : FuncId} {fn : Func} {c : Code} (hf : P.funcs[f]? = some fn) (hn : (fn.name == "runtime.NumGoroutine") = false) (hb : fn.body = some c) (vs : Array Value) (w : World) : (callFunc f vs).run P w = .ok (.enter f vs) w := by
  unfold callFunc
  simp only [Sem.run_bind, run_program, Result.andThen_ok, hf]
  rw [hn]
  simp [hb]
theorem FuncOk.of_calls {f : FuncId} {fn : Func} {c : Code} (hf : P.funcs[f]? = some fn) (hn : (fn.name == "runtime.NumGoroutine") = false) (hb : fn.body = some c) {xs : List PV} {r : PV} {pre : Prop}
    (h : pre → ∀ (F : Nat → Nat → Option Value) (w : World) (vs : List Value), Fits F w → TabR T F → Wd.wd w → RepL' xs (bareG F) w vs → ∃ u, (Calls P f vs.toArray w fun e w' => e = .returned u ∧ Below w.heap.size w w') ∧ ∀ G w, Rep r G w u) (hnm : PV.allLs PV.nam1 xs = [] := by rfl) : FuncOk P T f xs ⟨pre, r⟩ := by
  refine .of_plain hnm ?_
  intro hpre F w vs hF hT hwd hx
  obtain ⟨u, h1, h2⟩ := h hpre F w vs hF hT hwd hx
  refine .inl ⟨enter_run hf hn hb _ w, h1.mono fun e w' he => ?_⟩
  obtain ⟨rfl, hb⟩ := he
  exact ⟨u, rfl, F, fun _ => none, hb, FLe.refl _, fun b o q hq => by
    have := hF b o q hq
    rw [hb.cell (p := ⟨b, o, none⟩) (cell_lt this)]; exact this, fun b o q hq => .inl hq, (fun t b e => by cases e), h2 _ _⟩
theorem FuncOk.walk {f : FuncId} {fn : Func} {c : Code} (hf : P.funcs[f]? = some fn) (hn : (fn.name == "runtime.NumGoroutine") = false) (hb : fn.body = some c) {xs : List PV} {r : PV} {pre : Prop} (h : FuncOk P T f xs ⟨pre, r⟩) (hp : pre)
    {F : Nat → Nat → Option Value} {w : World} {vs : List Value} (hF : Fits F w) (hT : TabR T F) (hwd : Wd.wd w) (hx : RepL' xs (bareG F) w vs) (hnm : PV.allLs PV.nam1 xs = [] := by rfl) : Calls P f vs.toArray w fun e w' => ∃ u, e = .returned u ∧ Came F w r u w' := by
  rcases h.plain hnm hp F w vs hF hT hwd hx with ⟨-, h2⟩ | ⟨u, w', h1, -⟩
  · exact h2
  · rw [enter_run hf hn hb] at h1; cases h1
abbrev noW : Wd := ⟨fun _ => True, 0, fun _ _ => Nat.zero_le _, fun _ _ _ _ _ _ _ _ => trivial⟩
def noT : Tabs := fun _ => .undef
theorem noT_ok (F : Nat → Nat → Option Value) : TabR noT F := fun g hg => by cases hg
theorem fits_none (w : World) : Fits (fun _ _ => none) w := fun b o u h => by cases h
theorem FuncOk.yes {f : FuncId} {fn : Func} {c : Code} (hf : P.funcs[f]? = some fn) (hn : (fn.name == "runtime.NumGoroutine") = false) (hb : fn.body = some c) {xs : List PV} (h : FuncOk P noT f xs ⟨True, .bool true⟩)
    {w : World} {vs : List Value} (hwd : Wd.wd w) (hx : RepL' xs (bareG fun _ _ => none) w vs) (hnm : PV.allLs PV.nam1 xs = [] := by rfl) : Calls P f vs.toArray w fun e w' => e = .returned (.bool true) ∧ Below w.heap.size w w' :=
  (h.walk hf hn hb trivial (fits_none w) (noT_ok _) hwd hx hnm).mono fun e w' ⟨u, he, F', τ', hb, _, _, _, _, hr⟩ => ⟨by rw [he]; exact congrArg _ hr, hb⟩
theorem FuncOk.to {f : FuncId} {xs : List PV} {c : CallR} {pre : Prop} {r : PV} (h : FuncOk P T f xs c) (hp : pre → c.pre) (hr : pre → c.r = r) (hnm : PV.allLs PV.nam1 xs = [] := by rfl) : FuncOk P T f xs ⟨pre, r⟩ := .of_plain hnm fun hpre F w vs hF hT hwd hx => by
  have := h.plain hnm (hp hpre) F w vs hF hT hwd hx
  rw [hr hpre] at this
  exact this
end
end Go.Vc
namespace Go.Proofs.Jv
open Go.Vc
theorem exI [Wd] {P : Program} {T : Tabs} {f : FuncId} {xs : List PV} {p : Nat → Prop} {r : PV} (h : ∀ n, FuncOk P T f xs ⟨p n, r⟩) (hnm : PV.allLs PV.nam1 xs = [] := by rfl) : FuncOk P T f xs ⟨∃ n, p n, r⟩ := .of_plain hnm fun ⟨n, hp⟩ => (h n).plain hnm hp
def bigJ : Nat := 140737488355328
inductive JV where
  | mk (k : Int) (b : Bool) (s : Bs) (nk : Bool) (ks : List Bs) (nl : Bool) (ls : List JV)
mutual
def JV.pv : JV → PV
  | .mk k b s nk ks nl ls => .agg [.int .i64 k, .bool b, .str s, .row nk (.strs ks) 0, .vec nl 5 (JV.pvs ls) 0]
def JV.pvs : List JV → List PV
  | [] => []
  | x :: l => JV.pv x :: JV.pvs l
end
mutual
def jdec : PV → JV
  | .agg l => jdecA l
  | _ => .mk 0 false [] true [] true []
def jdecA : List PV → JV
  | [a, b, c, d, e] => .mk a.asInt b.asBool c.asStr d.asNil d.asStrs e.asNil (jdecV e)
  | _ => .mk 0 false [] true [] true []
def jdecV : PV → List JV
  | .vec _ _ l _ => jdecs l
  | _ => []
def jdecs : List PV → List JV
  | [] => []
  | x :: l => jdec x :: jdecs l
end
mutual
theorem jdec_pv : ∀ x : JV, jdec x.pv = x
  | .mk k b s nk ks nl ls => by
    unfold JV.pv jdec jdecA jdecV
    rw [jdecs_pvs ls]; rfl
theorem jdecs_pvs : ∀ l : List JV, jdecs (JV.pvs l) = l
  | [] => rfl
  | x :: l => by unfold JV.pvs jdecs; rw [jdec_pv x, jdecs_pvs l]
end
theorem pvs_length : ∀ l : List JV, (JV.pvs l).length = l.length
  | [] => rfl
  | x :: l => by unfold JV.pvs; rw [List.length_cons, List.length_cons, pvs_length l]
theorem pvs_lenZ (l : List JV) : lenZ (JV.pvs l) = (l.length : Int) := by unfold lenZ; rw [pvs_length]
theorem pvs_get : ∀ (l : List JV) (i : Nat) (h : i < l.length), (JV.pvs l)[i]? = some (l[i]).pv
  | [], i, h => by simp at h
  | x :: l, 0, h => by unfold JV.pvs; rfl
  | x :: l, i + 1, h => by
    unfold JV.pvs
    rw [List.getElem?_cons_succ, pvs_get l i (by simpa using h)]; rfl
theorem pvZ_pvs (l : List JV) (i : Nat) (h : i < l.length) : pvZ (JV.pvs l) (i : Int) = (l[i]).pv := by
  unfold pvZ
  rw [Int.toNat_natCast, List.getD_eq_getElem?_getD, pvs_get l i h]; rfl
def isJs (l : List PV) : Prop := ∃ js : List JV, l = JV.pvs js
theorem isJs_of (js : List JV) : isJs (JV.pvs js) := ⟨js, rfl⟩
def JV.k : JV → Int | .mk k _ _ _ _ _ _ => k
def JV.b : JV → Bool | .mk _ b _ _ _ _ _ => b
def JV.s : JV → Bs | .mk _ _ s _ _ _ _ => s
def JV.nk : JV → Bool | .mk _ _ _ n _ _ _ => n
def JV.ks : JV → List Bs | .mk _ _ _ _ ks _ _ => ks
def JV.nl : JV → Bool | .mk _ _ _ _ _ n _ => n
def JV.ls : JV → List JV | .mk _ _ _ _ _ _ ls => ls
theorem JV.eta' (y : JV) : JV.mk y.k y.b y.s y.nk y.ks y.nl y.ls = y := by cases y; rfl
theorem str_at {l : List Bs} {n : Nat} (h : n < l.length) : strZ l (n : Int) = l[n] := by
  unfold strZ; rw [Int.toNat_natCast, List.getD_eq_getElem?_getD, List.getElem?_eq_getElem h]; rfl
theorem or_t {p q : Prop} [Decidable p] [Decidable q] (h : (bif decide p then true else decide q) = true) : p ∨ q := by
  by_cases c : p
  · exact .inl c
  · rw [decide_eq_false c] at h; exact .inr (of_decide_eq_true h)
theorem or_f {p q : Prop} [Decidable p] [Decidable q] (h : (bif decide p then true else decide q) = false) : ¬ (p ∨ q) := by
  by_cases c : p
  · rw [decide_eq_true c] at h; cases h
  · rw [decide_eq_false c] at h
    exact fun g => g.elim c (of_decide_eq_false h)
theorem and_t {p q : Prop} [Decidable p] [Decidable q] (h : (bif decide p then decide q else false) = true) : p ∧ q := by
  by_cases c : p
  · rw [decide_eq_true c] at h; exact ⟨c, of_decide_eq_true h⟩
  · rw [decide_eq_false c] at h; cases h
theorem and_f {p q : Prop} [Decidable p] [Decidable q] (h : (bif decide p then decide q else false) = false) : ¬ (p ∧ q) := by
  by_cases c : p
  · rw [decide_eq_true c] at h; exact fun g => of_decide_eq_false h g.2
  · exact fun g => c g.1
theorem JV.pv_eq (x : JV) : x.pv = .agg [.int .i64 x.k, .bool x.b, .str x.s, .row x.nk (.strs x.ks) 0, .vec x.nl 5 (JV.pvs x.ls) 0] := by cases x; unfold JV.pv; rfl
def okJ : Nat → JV → Prop
  | 0, _ => False
  | n + 1, x => (-9223372036854775808 ≤ x.k ∧ x.k ≤ 9223372036854775807) ∧ x.s.length ≤ bigJ ∧ x.ks.length ≤ bigJ ∧ (∀ s ∈ x.ks, s.length ≤ bigJ) ∧ x.ls.length ≤ bigJ ∧ ∀ y ∈ x.ls, okJ n y
theorem okJ.up : ∀ {n m : Nat} {x : JV}, n ≤ m → okJ n x → okJ m x
  | 0, m, x, _, h => h.elim
  | n + 1, 0, x, hm, h => by omega
  | n + 1, m + 1, x, hm, h => by
    obtain ⟨h1, h2, h3, h4, h5, h6⟩ := h
    exact ⟨h1, h2, h3, h4, h5, fun y hy => okJ.up (by omega) (h6 y hy)⟩
mutual
def sameJ : JV → JV → Bool
  | .mk k b s _ ks _ ls, .mk k' b' s' _ ks' _ ls' => decide (k = k') && (b == b') && decide (s = s') && decide (ks = ks') && sameJs ls ls'
def sameJs : List JV → List JV → Bool
  | [], [] => true
  | x :: l, y :: m => sameJ x y && sameJs l m
  | _, _ => false
end
theorem sameJ_e {k k2 : Int} {b b2 : Bool} {s s2 : Bs} {n n2 : Bool} {ks ks2 : List Bs} {l l2 : Bool} {ls ls2 : List JV} (h : sameJ (.mk k b s n ks l ls) (.mk k2 b2 s2 n2 ks2 l2 ls2) = true) : k = k2 ∧ b = b2 ∧ s = s2 ∧ ks = ks2 ∧ sameJs ls ls2 = true := by
  rw [sameJ] at h
  simp only [Bool.and_eq_true, decide_eq_true_eq, beq_iff_eq] at h
  exact ⟨h.1.1.1.1, h.1.1.1.2, h.1.1.2, h.1.2, h.2⟩
theorem sameJ_r {k k2 : Int} {b b2 : Bool} {s s2 : Bs} {n n2 : Bool} {ks ks2 : List Bs} {l l2 : Bool} {ls ls2 : List JV} (h : k = k2 ∧ b = b2 ∧ s = s2 ∧ ks = ks2) : sameJ (.mk k b s n ks l ls) (.mk k2 b2 s2 n2 ks2 l2 ls2) = sameJs ls ls2 := by
  obtain ⟨rfl, rfl, rfl, rfl⟩ := h
  rw [sameJ]; simp
theorem head5 {a b c d : Prop} [Decidable a] [Decidable b] [Decidable c] [Decidable d] (x y : Bool) : (bif bif bif bif !decide a then true else Bool.rec (motive := fun _ => Bool) true false (x == y) then true else !decide b then true else !decide c then true else !decide d) = !decide (a ∧ x = y ∧ b ∧ c ∧ d) := by
  by_cases ha : a <;> by_cases hb : b <;> by_cases hc : c <;> by_cases hd : d <;> cases x <;> cases y <;> simp [ha, hb, hc, hd]
mutual
theorem sameJ_self : ∀ x : JV, sameJ x x = true
  | .mk k b s _ ks _ ls => by unfold sameJ; rw [sameJs_self ls]; simp
theorem sameJs_self : ∀ l : List JV, sameJs l l = true
  | [] => by unfold sameJs; rfl
  | x :: l => by unfold sameJs; rw [sameJ_self x, sameJs_self l]; rfl
end
mutual
theorem sameJ_comm : ∀ x y : JV, sameJ x y = sameJ y x
  | .mk k b s _ ks _ ls, .mk k' b' s' _ ks' _ ls' => by
    unfold sameJ
    rw [sameJs_comm ls ls', decide_eq_decide.2 (show k = k' ↔ k' = k from ⟨Eq.symm, Eq.symm⟩), decide_eq_decide.2 (show s = s' ↔ s' = s from ⟨Eq.symm, Eq.symm⟩), decide_eq_decide.2 (show ks = ks' ↔ ks' = ks from ⟨Eq.symm, Eq.symm⟩), show (b == b') = (b' == b) by cases b <;> cases b' <;> rfl]
theorem sameJs_comm : ∀ l m : List JV, sameJs l m = sameJs m l
  | [], [] => rfl
  | [], _ :: _ => by unfold sameJs; rfl
  | _ :: _, [] => by unfold sameJs; rfl
  | x :: l, y :: m => by unfold sameJs; rw [sameJ_comm x y, sameJs_comm l m]
end
theorem sameJs_len : ∀ {l m : List JV}, sameJs l m = true → l.length = m.length
  | [], [], _ => rfl
  | [], _ :: _, h => by unfold sameJs at h; cases h
  | _ :: _, [], h => by unfold sameJs at h; cases h
  | x :: l, y :: m, h => by
    unfold sameJs at h
    rw [Bool.and_eq_true] at h
    rw [List.length_cons, List.length_cons, sameJs_len h.2]
theorem sameJs_drop {l m : List JV} {i : Nat} (h1 : i < l.length) (h2 : i < m.length) : sameJs (l.drop i) (m.drop i) = (sameJ l[i] m[i] && sameJs (l.drop (i + 1)) (m.drop (i + 1))) := by
  rw [List.drop_eq_getElem_cons h1, List.drop_eq_getElem_cons h2, sameJs]
def wK : List Bs → Int → Int
  | [], n => n
  | k :: l, n => if n < 0 then n else wK l (n - lenZ k)
mutual
def wJ : JV → Int → Int → Int
  | .mk _ _ s _ ks _ ls, n, d => if n < 0 ∨ 200 < d then -1 else wJs ls (wK ks (n - 1 - lenZ s - lenZ ks)) (d + 1)
def wJs : List JV → Int → Int → Int
  | [], n, _ => n
  | x :: l, n, d => if n < 0 then n else wJs l (wJ x n d) d
end
theorem wK_le : ∀ (l : List Bs) (n : Int), wK l n ≤ n
  | [], n => by unfold wK; omega
  | k :: l, n => by
    unfold wK
    split
    · omega
    · have := wK_le l (n - lenZ k); have : (0 : Int) ≤ lenZ k := by unfold lenZ; omega
      omega
theorem wK_neg {l : List Bs} {n : Int} (h : n < 0) : wK l n = n := by cases l with
  | nil => rfl
  | cons k l => unfold wK; rw [if_pos h]
theorem wK_ge : ∀ (l : List Bs) (n : Int), (∀ s ∈ l, s.length ≤ bigJ) → -1125899906842624 ≤ n → -1125899906842624 ≤ wK l n
  | [], n, _, h => h
  | k :: l, n, hl, h => by
    unfold wK
    split
    · exact h
    · have h1 := hl k (List.mem_cons_self ..)
      have h2 : bigJ = 140737488355328 := rfl
      exact wK_ge l _ (fun s hs => hl s (List.mem_cons_of_mem _ hs)) (by unfold lenZ; omega)
mutual
theorem wJ_le : ∀ (x : JV) (n d : Int), -1 ≤ n → wJ x n d ≤ n
  | .mk _ _ s _ ks _ ls, n, d, h => by
    unfold wJ
    split
    · omega
    · have h1 := wK_le ks (n - 1 - lenZ s - lenZ ks)
      have h2 := wJs_le ls (wK ks (n - 1 - lenZ s - lenZ ks)) (d + 1)
      have h3 : (0 : Int) ≤ lenZ s := by unfold lenZ; omega
      have h4 : (0 : Int) ≤ lenZ ks := by unfold lenZ; omega
      omega
theorem wJs_le : ∀ (l : List JV) (n d : Int), wJs l n d ≤ n
  | [], n, d => by unfold wJs; omega
  | x :: l, n, d => by
    unfold wJs
    split
    · omega
    · have h1 := wJ_le x n d (by omega)
      have h2 := wJs_le l (wJ x n d) d
      omega
end
theorem wJs_neg {l : List JV} {n d : Int} (h : n < 0) : wJs l n d = n := by cases l with
  | nil => unfold wJs; rfl
  | cons x l => unfold wJs; rw [if_pos h]
mutual
theorem wJ_ge : ∀ (x : JV) (m : Nat) (n d : Int), okJ m x → -1 ≤ n → -1125899906842624 ≤ wJ x n d
  | .mk k b s nk ks nl ls, 0, n, d, h, _ => h.elim
  | .mk k b s nk ks nl ls, m + 1, n, d, h, hn => by
    unfold wJ
    split
    · omega
    · obtain ⟨h1, h2, h3, h4, h5, h6⟩ := h
      have e : bigJ = 140737488355328 := rfl
      exact wJs_ge ls m _ _ h6 (wK_ge ks _ h4 (by unfold lenZ; simp only [JV.s, JV.ks] at h2 h3; omega))
theorem wJs_ge : ∀ (l : List JV) (m : Nat) (n d : Int), (∀ y ∈ l, okJ m y) → -1125899906842624 ≤ n → -1125899906842624 ≤ wJs l n d
  | [], m, n, d, h, hn => by unfold wJs; exact hn
  | x :: l, m, n, d, h, hn => by
    unfold wJs
    split
    · exact hn
    · exact wJs_ge l m _ _ (fun y hy => h y (List.mem_cons_of_mem _ hy)) (wJ_ge x m n d (h x (List.mem_cons_self ..)) (by omega))
end
theorem wJs_drop {l : List JV} {i : Nat} {n d : Int} (h : i < l.length) (hn : 0 ≤ n) : wJs (l.drop i) n d = wJs (l.drop (i + 1)) (wJ l[i] n d) d := by
  rw [List.drop_eq_getElem_cons h, wJs, if_neg (by omega)]
theorem wK_drop {l : List Bs} {i : Nat} {n : Int} (h : i < l.length) (hn : 0 ≤ n) : wK (l.drop i) n = wK (l.drop (i + 1)) (n - lenZ l[i]) := by
  rw [List.drop_eq_getElem_cons h, wK, if_neg (by omega)]
mutual
theorem okJ_of_w : ∀ (x : JV) (m : Nat) (n d : Int), okJ m x → 0 ≤ wJ x n d → 0 ≤ d → okJ (201 - d.toNat) x ∧ d ≤ 200
  | .mk k b s nk ks nl ls, 0, n, d, h, _, _ => h.elim
  | .mk k b s nk ks nl ls, m + 1, n, d, h, hw, hd => by
    unfold wJ at hw
    split at hw
    · omega
    · rename_i hc
      obtain ⟨h1, h2, h3, h4, h5, h6⟩ := h
      refine ⟨?_, by omega⟩
      rw [show 201 - d.toNat = (200 - d.toNat) + 1 by omega]
      refine ⟨h1, h2, h3, h4, h5, fun y hy => ?_⟩
      have := okJs_of_w ls m _ (d + 1) h6 hw (by omega) y hy
      rw [show 201 - (d + 1).toNat = 200 - d.toNat by omega] at this
      exact this
theorem okJs_of_w : ∀ (l : List JV) (m : Nat) (n d : Int), (∀ y ∈ l, okJ m y) → 0 ≤ wJs l n d → 0 ≤ d → ∀ y ∈ l, okJ (201 - d.toNat) y
  | [], m, n, d, h, hw, hd, y, hy => by cases hy
  | x :: l, m, n, d, h, hw, hd, y, hy => by
    unfold wJs at hw
    split at hw
    · omega
    · rename_i hc
      have h1 := wJs_le l (wJ x n d) d
      rcases List.mem_cons.1 hy with e | hy
      · rw [e]; exact (okJ_of_w x m n d (h x (List.mem_cons_self ..)) (by omega) hd).1
      · exact okJs_of_w l m _ d (fun z hz => h z (List.mem_cons_of_mem _ hz)) hw hd y hy
end
end Go.Proofs.Jv
