/- The evaluator's regions do what is said. -/
import Derived.Test.YtbeoeghcmabemaaGreatDoorEvZ
set_option linter.unusedVariables false
set_option linter.unusedSectionVars false
set_option linter.unusedSimpArgs false
namespace Go.Ev
variable [Sg] [Sl]
open Go.RowKit
variable {P : Program}

def setR (f : Rcs) (i : Nat) (r : Option AV × Kd) : Rcs := fun j => if j = i then r else f j
theorem setR_same (f : Rcs) (i : Nat) (r : Option AV × Kd) : setR f i r i = r := if_pos rfl
theorem setR_ne {f : Rcs} {i j : Nat} {r : Option AV × Kd} (h : j ≠ i) : setR f i r j = f j := if_neg h
theorem setR_lt (f : Rcs) (i : Nat) (r : Option AV × Kd) : ∀ k, k < i → f k = setR f i r k := fun k h => (setR_ne (by omega)).symm
section
variable {ops : List Oper} {bf : List Nat} {cv0 : Cv} {h0 : Hp} {f f' : Rcs} {i : Nat} {o : Oper} {A S : Nat → Bool}
theorem cvU_congr : ∀ i, (∀ k, k < i → f k = f' k) → cvU cv0 ops f i = cvU cv0 ops f' i
  | 0, _ => rfl
  | i + 1, h => by unfold cvU; rw [cvU_congr i (fun k hk => h k (by omega)), h i (by omega)]
theorem nxU_congr : ∀ i, (∀ k, k < i → f k = f' k) → nxU h0 f i = nxU h0 f' i
  | 0, _ => rfl
  | i + 1, h => by unfold nxU; rw [nxU_congr i (fun k hk => h k (by omega)), h i (by omega)]
theorem loU_congr : ∀ i, (∀ k, k < i → f k = f' k) → loU h0 f i = loU h0 f' i
  | 0, _ => rfl
  | i + 1, h => by unfold loU; rw [loU_congr i (fun k hk => h k (by omega)), h i (by omega)]
theorem May.congr {k b : Nat} (h : ∀ k, k < i → f k = f' k) (hk : k < i) : May h0 f k b ↔ May h0 f' k b := by
  unfold May
  rw [h k hk, nxU_congr (h0 := h0) k (fun j hj => h j (by omega)), nxU_congr (h0 := h0) (k + 1) (fun j hj => h j (by omega))]
theorem At.congr (h : ∀ k, k < i → f k = f' k) (hA : ∀ k, A k = true → k < i) {b : Nat} {x : Blk} {j : Nat} (a : At h0 f A b x j) : At h0 f' A b x j :=
  ⟨a.src.imp id fun ⟨k, h1, h2, h3, h4⟩ => ⟨k, h1, h2, (May.congr h (hA k h2)).1 h3, by rw [← h k (hA k h2)]; exact h4⟩, fun k hk hS hm => a.last k hk hS ((May.congr h (hA k hS)).2 hm)⟩
theorem Kn.congr (h : ∀ k, k < i → f k = f' k) (hA : ∀ k, A k = true → k < i) (kn : Kn h0 f' A) : Kn h0 f A := ⟨kn.h0, fun k hk => by rw [h k (hA k hk)]; exact kn.ex k hk⟩
theorem Pt.set (pt : Pt bf h0 f) (hout : ∀ j, i ≤ j → (f j).2 = .calm) {r : Option AV × Kd} (hmono : nxU h0 f i ≤ r.2.nx (nxU h0 f i))
    (hsrc : ∀ q I O, r.2 = .act q I O → Kn h0 f (ancS bf i) → ∀ b x, I.tr.get (path b) = some x → ∃ j, j ≤ i ∧ At h0 f (ancS bf i) b x j)
    (hap : ∀ k, k < i → (f k).2.isCalm = false → r.2.isCalm = false → inMask (bf.getD i 0) k = false → ∀ b, r.2.has b → (f k).2.has b → r.2.wr = false ∧ (f k).2.wr = false) : Pt bf h0 (setR f i r) := by
  have hl := setR_lt f i r
  have calm : ∀ j, i < j → (setR f i r j).2 = .calm := fun j hj => by rw [setR_ne (by omega)]; exact hout j (by omega)
  have lo : ∀ j, j ≤ i → nxU h0 (setR f i r) j = nxU h0 f j := fun j hj => (nxU_congr j (fun k hk => hl k (by omega))).symm
  have up : ∀ j, i < j → nxU h0 (setR f i r) j = r.2.nx (nxU h0 f i) := by
    intro j hj
    induction j with
    | zero => omega
    | succ j ih =>
      by_cases e : j = i
      · subst e
        show (setR f j r j).2.nx (nxU h0 (setR f j r) j) = _
        rw [setR_same, lo j (Nat.le_refl _)]
      · show (setR f i r j).2.nx (nxU h0 (setR f i r) j) = _
        rw [calm j (by omega), ih (by omega)]; rfl
  refine ⟨fun a b hab => ?_, fun k q I O hk kn b x hb => ?_, fun k j hjk hcj hck hm b hb hb' => ?_, pt.trs, pt.lt⟩
  · by_cases hb : b ≤ i
    · rw [lo a (by omega), lo b hb]; exact pt.mono a b hab
    · rw [up b (by omega)]
      by_cases ha : a ≤ i
      · rw [lo a ha]; exact Nat.le_trans (pt.mono a i ha) hmono
      · rw [up a (by omega)]; exact Nat.le_refl _
  · rcases Nat.lt_trichotomy k i with h | h | h
    · rw [setR_ne (by omega)] at hk
      have hA : ∀ j, ancS bf k j = true → j < i := fun j hj => by have := pt.lt k j hj; omega
      obtain ⟨j, hj, a⟩ := pt.src k q I O hk (kn.congr hl hA) b x hb
      exact ⟨j, hj, a.congr hl hA⟩
    · subst h
      rw [setR_same] at hk
      have hA : ∀ j, ancS bf k j = true → j < k := fun j hj => pt.lt k j hj
      obtain ⟨j, hj, a⟩ := hsrc q I O hk (kn.congr hl hA) b x hb
      exact ⟨j, hj, a.congr hl hA⟩
    · rw [calm k h] at hk; cases hk
  · rcases Nat.lt_trichotomy k i with h | h | h
    · rw [setR_ne (by omega)] at hck hb ⊢
      rw [setR_ne (by omega)] at hcj hb' ⊢
      exact pt.ap k j hjk hcj hck hm b hb hb'
    · subst h
      rw [setR_same] at hck hb ⊢
      rw [setR_ne (by omega)] at hcj hb' ⊢
      exact hap j hjk hcj hck hm b hb hb'
    · rw [calm k h] at hck; cases hck
/-- A bar; those ahead of the last bar, and it. -/
def BarC (P : Program) (ops : List Oper) (bf : List Nat) (k : Nat) : Prop := ∃ o m, ops[k]? = some o ∧ clsOf P ops bf k o (bf.getD k 0) = .bar m
def HeldC (P : Program) (ops : List Oper) (bf : List Nat) (k : Nat) : Prop := ∃ o, ops[k]? = some o ∧ (clsOf P ops bf k o (bf.getD k 0)).held = true
theorem BarC.held {k : Nat} (h : BarC P ops bf k) : HeldC P ops bf k := by
  obtain ⟨o, m, h1, h2⟩ := h
  exact ⟨o, h1, by rw [h2]; rfl⟩
theorem bar_ord (op : Opn ops bf) {k j : Nat} (hk : BarC P ops bf k) (hj : HeldC P ops bf j) : (j < k → inMask (bf.getD k 0) j = true) ∧ (k < j → inMask (bf.getD j 0) k = true) := by
  obtain ⟨o, m, h1, h2⟩ := hk
  obtain ⟨y, h3, h4⟩ := hj
  refine ⟨fun h => ?_, fun h => ?_⟩
  · rcases cls_bar op.len h2 h3 h4 (by omega) with h5 | h5
    · have := op.lt_ j k h5; omega
    · exact h5
  · rcases cls_bar op.len h2 h3 h4 (by omega) with h5 | h5
    · exact h5
    · have := op.lt_ k j h5; omega
def BS (bf : List Nat) : Nat → Nat → Bool
  | 0, _ => false
  | d + 1, k => decide (k = d) || inMask (bf.getD d 0) k
theorem BS_lt (op : Opn ops bf) {c k : Nat} (h : BS bf c k = true) : k < c := by
  cases c with
  | zero => cases h
  | succ d =>
    unfold BS at h
    rw [Bool.or_eq_true] at h
    rcases h with h | h
    · have := of_decide_eq_true h; omega
    · have := op.lt_ d k h; omega
theorem BS_down (op : Opn ops bf) (c : Nat) : Down bf (BS bf c) := fun k j h hm => by
  cases c with
  | zero => cases h
  | succ d =>
    unfold BS at h ⊢
    rw [Bool.or_eq_true] at h ⊢
    rcases h with h | h
    · rw [of_decide_eq_true h] at hm; exact .inr hm
    · exact .inr (op.trs d k j h hm)
theorem BS_sub {c : Nat} (hd : Down bf S) (h : ∀ d, c = d + 1 → S d = true) : ∀ k, BS bf c k = true → S k = true := fun k hk => by
  cases c with
  | zero => cases hk
  | succ d =>
    unfold BS at hk
    rw [Bool.or_eq_true] at hk
    rcases hk with hk | hk
    · rw [of_decide_eq_true hk]; exact h d rfl
    · exact hd d k (h d rfl) hk
theorem anc_down (op : Opn ops bf) (i : Nat) : Down bf (ancS bf i) := fun k j h hm => op.trs i k j h hm
/-- Of which class a record is, and what follows. -/
structure KdIs (q : Kind) (I O : Hp) (c : Cls) : Prop where
  cls : match q with
    | .bar => ∃ m, c = .bar m
    | .gen => ∃ m, c = .free m
    | .mk => ∃ m, c = .mk m
    | .spot => ∃ m, c = .spot m
  emp : q = .mk → ∀ b, I.tr.get (path b) = none
  spot : q = .spot → ∃ b0, (∀ b x, I.tr.get (path b) = some x → b = b0) ∧ ∃ y, O.tr.get (path b0) = some y
def AllIs (P : Program) (ops : List Oper) (bf : List Nat) (f : Rcs) : Prop := ∀ k o q I O, ops[k]? = some o → (f k).2 = .act q I O → KdIs q I O (clsOf P ops bf k o (bf.getD k 0))
/-- A memory of a segment, for one that reads. -/
structure SegFor (P : Program) (ops : List Oper) (bf : List Nat) (h0 : Hp) (f : Rcs) (H : Hp) (c i m : Nat) : Prop where
  nx : H.nx = nxU h0 f c
  tr : Kn h0 f (BS bf c) → ∀ b x, H.tr.get (path b) = some x → ∃ j, j ≤ c ∧ At h0 f (BS bf c) b x j
  no : ∀ k, c ≤ k → k < m → (f k).2.isSpot = true → inMask (bf.getD k 0) i = false → (∀ d, c ≤ d → d < k → ¬ BarC P ops bf d) → ∀ b, (f k).2.has b → H.tr.get (path b) = none
def RdAt (P : Program) (ops : List Oper) (bf : List Nat) (cv0 : Cv) (h0 : Hp) (f : Rcs) (m i : Nat) (o : Oper) : Prop :=
  wantedA ops (cvU cv0 ops f i) o = some true ∧ ∃ v xs, (f i).1 = some v ∧ opnds P (cvU cv0 ops f i) o.op.operands.toList = some xs ∧ lowA (nxU h0 f i) v = true ∧ nxU h0 f i ≤ bigN ∧
    ∀ c, c ≤ m → (∀ d, c = d + 1 → BarC P ops bf d) → (∀ d, BarC P ops bf d → inMask (bf.getD i 0) d = true → d < c) → (∀ d, BarC P ops bf d → d < c → inMask (bf.getD d 0) i = false) → ∃ H, ReadIn P o xs v H ∧ SegFor P ops bf h0 f H c i m
structure RcI (P : Program) (ops : List Oper) (bf : List Nat) (cv0 : Cv) (h0 : Hp) (f : Rcs) (m i : Nat) (o : Oper) : Prop where
  calm : (f i).2 = .calm → CalmAt P ops o (cvU cv0 ops f i) (f i).1 ∨ RdAt P ops bf cv0 h0 f m i o
  act : ∀ q I O, (f i).2 = .act q I O → (∃ v, (f i).1 = some v ∧ wantedA ops (cvU cv0 ops f i) o = some true ∧ Acts P o (cvU cv0 ops f i) I v O) ∧ I.nx = nxU h0 f i ∧ nxU h0 f i ≤ O.nx
  lo : ∀ q I O, (f i).2 = .act q I O → (q = .bar → I.lo = loU h0 f i) ∧ (q ≠ .bar → I.lo = nxU h0 f i) ∧ (q.wr = false → nxU h0 f i ≤ O.lo)
theorem maxBar (P : Program) (ops : List Oper) (bf : List Nat) (S : Nat → Bool) : ∀ m, ∃ c, c ≤ m ∧ (∀ d, c = d + 1 → BarC P ops bf d ∧ S d = true) ∧ ∀ d, d < m → BarC P ops bf d → S d = true → d < c
  | 0 => ⟨0, Nat.le_refl _, fun d h => by omega, fun d h => by omega⟩
  | m + 1 => by
    obtain ⟨c, h1, h2, h3⟩ := maxBar P ops bf S m
    by_cases h : BarC P ops bf m ∧ S m = true
    · exact ⟨m + 1, Nat.le_refl _, fun d e => (by obtain rfl : m = d := (by omega); exact h), fun d hd _ _ => hd⟩
    · refine ⟨c, Nat.le_succ_of_le h1, h2, fun d hd hb hs => ?_⟩
      by_cases e : d = m
      · subst e; exact absurd ⟨hb, hs⟩ h
      · exact h3 d (by omega) hb hs
/-- Who reads the same in each segment reads the same whichever were carried out. -/
theorem RdAt.to (op : Opn ops bf) (pt : Pt bf h0 f) (ai : AllIs P ops bf f) (hout : ∀ k, ops.length ≤ k → (f k).2 = .calm) {m i : Nat} {o : Oper} (r : RdAt P ops bf cv0 h0 f m i o) : ReadTo P ops bf cv0 h0 f m i o := by
  obtain ⟨h1, v, xs, h2, h3, h4, h5, h6⟩ := r
  refine ⟨h1, v, xs, h2, h3, h4, h5, fun S hb hd kn hs hn => ?_⟩
  obtain ⟨c, c1, c2, c3⟩ := maxBar P ops bf S m
  have bsS := BS_sub (c := c) hd (fun d e => (c2 d e).2)
  have belowc : ∀ k, HeldC P ops bf k → k < c → BS bf c k = true := fun k hk hkc => by
    cases c with
    | zero => omega
    | succ d =>
      unfold BS
      rw [Bool.or_eq_true]
      by_cases e : k = d
      · exact .inl (by simp [e])
      · exact .inr ((bar_ord op (c2 d rfl).1 hk).1 (by omega))
  obtain ⟨H, hr, sg⟩ := h6 c c1 (fun d e => (c2 d e).1) (fun d hbd hm => c3 d (by have := hb d (hs d hm); omega) hbd (hs d hm)) (fun d hbd hdc => by
    cases h : inMask (bf.getD d 0) i with
    | false => rfl
    | true =>
      have := hd d i (bsS d (belowc d hbd.held hdc)) h
      rw [hn] at this; cases this)
  refine ⟨H, hr, fun b x hx => ?_⟩
  obtain ⟨j, hj, a⟩ := sg.tr (kn.sub bsS) b x hx
  refine ⟨j, ⟨a.src.imp id fun ⟨k, g1, g2, g3⟩ => ⟨k, g1, bsS k g2, g3⟩, fun k hk hS hm => ?_⟩, ?_⟩
  · cases hbs : BS bf c k with
    | true => exact a.last k hk hbs hm
    | false =>
      rcases hm.2 with ⟨w1, w2⟩ | ⟨w1, w2⟩
      · cases hfk : (f k).2 with
        | calm => rw [hfk] at w2; exact w2.elim
        | act q I O =>
          obtain ⟨y, hy⟩ : ∃ y, ops[k]? = some y := by
            by_cases hki : k < ops.length
            · exact ⟨_, List.getElem?_eq_getElem hki⟩
            · rw [hout k (by omega)] at hfk; cases hfk
          have kd := ai k y q I O hy hfk
          have hheld : (clsOf P ops bf k y (bf.getD k 0)).held = true → BS bf c k = false → c ≤ k := fun hh hb => Classical.byContradiction fun hn => by
            rw [belowc k ⟨y, hy, hh⟩ (by omega)] at hb; cases hb
          rw [hfk] at w1
          cases q with
          | gen => cases w1
          | mk => cases w1
          | bar =>
            obtain ⟨m', hm'⟩ := kd.cls
            have hbk : BarC P ops bf k := ⟨y, m', hy, hm'⟩
            have := c3 k (hb k hS) hbk hS
            rw [belowc k hbk.held this] at hbs; cases hbs
          | spot =>
            obtain ⟨m', hm'⟩ := kd.cls
            have hheldk : HeldC P ops bf k := ⟨y, hy, by rw [hm']; rfl⟩
            have hck := hheld (by rw [hm']; rfl) hbs
            have hki : inMask (bf.getD k 0) i = false := by
              cases h : inMask (bf.getD k 0) i with
              | false => rfl
              | true => have := hd k i hS h; rw [hn] at this; cases this
            have := sg.no k hck (hb k hS) (by rw [hfk]; rfl) hki (fun d hcd hdk hbd => by
              have h8 := hd k d hS ((bar_ord op hbd hheldk).2 hdk)
              have := c3 d (hb d h8) hbd h8
              omega) b (by rw [hfk]; rw [hfk] at w2; exact w2)
            rw [this] at hx; cases hx
      · rw [a.own pt (BS_down op c) (kn.sub bsS) w1 w2] at hbs; cases hbs
  · have := pt.mono j c hj
    rw [← sg.nx] at this
    exact Nat.le_trans this hr.nx
end
end Go.Ev
namespace Go.Ev
variable [Sg] [Sl]
open Go.RowKit
variable {P : Program}

/-- Where a run stands. -/
structure St (P : Program) (ops : List Oper) (bf : List Nat) (cv0 : Cv) (h0 : Hp) (f : Rcs) (i c : Nat) (h : Hp) (fs : Frees) : Prop where
  le : i ≤ ops.length
  ci : c ≤ i
  cb : ∀ d, c = d + 1 → BarC P ops bf d
  nb : ∀ k, c ≤ k → k < i → ¬ BarC P ops bf k
  nx : h.nx = nxU h0 f i
  lo : h.lo = loU h0 f i
  tr : Kn h0 f (BS bf c) → ∀ b x, h.tr.get (path b) = some x → ∃ j, j ≤ c ∧ At h0 f (BS bf c) b x j
  pend : ∀ e ∈ fs, e.1 < i ∧ BS bf c e.1 = false ∧ ∀ b x, (b, x) ∈ e.2 → May h0 f e.1 b ∧ (f e.1).2.out b = some x
  all : ∀ k, k < i → (f k).2.isCalm = false → BS bf c k = true ∨ ∃ e ∈ fs, e.1 = k ∧ ∀ b x, May h0 f k b → (f k).2.out b = some x → (b, x) ∈ e.2
  srt : fs.Pairwise (fun a b => b.1 < a.1)
  pt : Pt bf h0 f
  rc : ∀ j o, j < i → ops[j]? = some o → RcI P ops bf cv0 h0 f i j o
  is : AllIs P ops bf f
  out : ∀ j, i ≤ j → (f j).2 = .calm
section
variable {ops : List Oper} {bf : List Nat} {cv0 : Cv} {h0 : Hp} {f f' : Rcs} {i c : Nat} {o : Oper} {A S : Nat → Bool}
theorem kd_held {q : Kind} {I O : Hp} {k : Nat} {y : Oper} (hy : ops[k]? = some y) (kd : KdIs q I O (clsOf P ops bf k y (bf.getD k 0))) (h : q ≠ .mk) : HeldC P ops bf k := by
  refine ⟨y, hy, ?_⟩
  have := kd.cls
  cases q with
  | bar => obtain ⟨m, e⟩ := this; rw [e]; rfl
  | gen => obtain ⟨m, e⟩ := this; rw [e]; rfl
  | spot => obtain ⟨m, e⟩ := this; rw [e]; rfl
  | mk => exact absurd rfl h
theorem kd_wr {q : Kind} {I O : Hp} {k b : Nat} {y : Oper} (hf : (f k).2 = .act q I O) (hw : (f k).2.wr = true) : q = .bar ∨ q = .spot := by
  rw [hf] at hw
  cases q with
  | bar => exact .inl rfl
  | spot => exact .inr rfl
  | gen => cases hw
  | mk => cases hw
/-- What lies behind those of a set is what the set has laid. -/
theorem St.flush (op : Opn ops bf) {h : Hp} {fs : Frees} (s : St P ops bf cv0 h0 f i c h fs) (hA : ∀ k, A k = true → k < i) (hAd : Down bf A) (hBA : ∀ k, BS bf c k = true → A k = true) (kn : Kn h0 f A) {b : Nat} {x : Blk} (hx : (flushT A fs h.tr).get (path b) = some x) : ∃ j, j ≤ i ∧ At h0 f A b x j := by
  have opk : ∀ {k}, (f k).2.isCalm = false → ∃ y, ops[k]? = some y := fun {k} h => by
    by_cases hk : k < i
    · exact ⟨_, List.getElem?_eq_getElem (Nat.lt_of_lt_of_le hk s.le)⟩
    · rw [s.out k (by omega)] at h; cases h
  have spotOut : ∀ {k b}, (f k).2.isCalm = false → (f k).2.wr = true → BS bf c k = false → k < i → (f k).2.has b → ∃ y, (f k).2.out b = some y := fun {k b} h1 h2 h3 h4 h5 => by
    obtain ⟨y, hy⟩ := opk h1
    cases hk : (f k).2 with
    | calm => rw [hk] at h1; cases h1
    | act q I O =>
      have kd := s.is k y q I O hy hk
      rcases kd_wr (f := f) (b := b) (y := y) hk h2 with rfl | rfl
      · obtain ⟨m, hm⟩ := kd.cls
        have hbk : BarC P ops bf k := ⟨y, m, hy, hm⟩
        have hkc : k < c := Classical.byContradiction fun hn => s.nb k (by omega) h4 hbk
        exfalso
        cases c with
        | zero => omega
        | succ d =>
          unfold BS at h3
          rw [Bool.or_eq_false_iff] at h3
          have hkd : k ≠ d := by simpa using h3.1
          rw [(bar_ord op (s.cb d rfl) hbk.held).1 (by omega)] at h3
          cases h3.2
      · obtain ⟨b0, g1, y', g2⟩ := kd.spot rfl
        rw [hk] at h5
        obtain ⟨x', hx'⟩ := h5
        rw [g1 b x' hx']
        exact ⟨y', g2⟩
  rcases flushT_get s.srt hx with ⟨e, he, ha, hm, hlast⟩ | ⟨hx, hno⟩
  · obtain ⟨e1, e2, e3⟩ := s.pend e he
    obtain ⟨e4, e5⟩ := e3 b x hm
    refine ⟨e.1 + 1, e1, .inr ⟨e.1, rfl, ha, e4, e5⟩, fun k hk hAk hmk => ?_⟩
    have hki := hA k hAk
    have knk := kn.down hAd hAk
    have kne := kn.down hAd ha
    cases hb : BS bf c k with
    | true =>
      have hdn : inMask (bf.getD k 0) e.1 = true → False := fun h => by rw [BS_down op c k e.1 hb h] at e2; cases e2
      rcases hmk.2 with ⟨w1, w2⟩ | ⟨w1, w2⟩ <;> rcases e4.2 with ⟨g1, g2⟩ | ⟨g1, g2⟩
      · -- both write: the elder one is a store, ahead of the last bar
        cases hfe : (f e.1).2 with
        | calm => rw [hfe] at g1; cases g1
        | act q I O =>
          obtain ⟨y, hy⟩ := opk e4.1
          have kd := s.is e.1 y q I O hy hfe
          have hne : q ≠ .mk := fun e => by rw [hfe, e] at g1; cases g1
          have hh := kd_held hy kd hne
          cases c with
          | zero => cases hb
          | succ d =>
            have hkd := BS_lt op hb
            have := (bar_ord op (s.cb d rfl) hh).1 (by omega)
            replace e2 : (decide (e.1 = d) || inMask (bf.getD d 0) e.1) = false := e2
            rw [this, Bool.or_true] at e2; cases e2
      · exact hdn (s.pt.own k e.1 b knk w2 g1 g2)
      · have := s.pt.lt e.1 k (s.pt.own e.1 k b kne g2 w1 w2); omega
      · have := s.pt.range g1 g2 w1 w2; omega
    | false =>
      obtain ⟨e', h1, h2, h3⟩ := (s.all k hki hmk.1).resolve_left (by rw [hb]; simp)
      rcases hmk.2 with ⟨w1, w2⟩ | ⟨w1, w2⟩
      · obtain ⟨y, hy⟩ := spotOut hmk.1 w1 hb hki w2
        exact hlast e' h1 (by rw [h2]; exact hAk) (by omega) y (h3 b y hmk hy)
      · rcases e4.2 with ⟨g1, g2⟩ | ⟨g1, g2⟩
        · have := s.pt.lt e.1 k (s.pt.own e.1 k b kne g2 w1 w2); omega
        · have := s.pt.range g1 g2 w1 w2; omega
  · obtain ⟨j, hj, a⟩ := s.tr (kn.sub hBA) b x hx
    refine ⟨j, Nat.le_trans hj s.ci, a.src.imp id fun ⟨k, h1, h2, h3⟩ => ⟨k, h1, hBA k h2, h3⟩, fun k hk hAk hmk => ?_⟩
    have hki := hA k hAk
    cases hb : BS bf c k with
    | true => exact a.last k hk hb hmk
    | false =>
      rcases hmk.2 with ⟨w1, w2⟩ | ⟨w1, w2⟩
      · obtain ⟨e', h1, h2, h3⟩ := (s.all k hki hmk.1).resolve_left (by rw [hb]; simp)
        obtain ⟨y, hy⟩ := spotOut hmk.1 w1 hb hki w2
        exact hno e' h1 (by rw [h2]; exact hAk) y (h3 b y hmk hy)
      · rw [a.own s.pt (BS_down op c) (kn.sub hBA) w1 w2] at hb; cases hb
/-- The last bar is ahead of all but those that make memory. -/
theorem St.below (op : Opn ops bf) {h : Hp} {fs : Frees} (s : St P ops bf cv0 h0 f i c h fs) (hh : HeldC P ops bf i) : ∀ k, BS bf c k = true → ancS bf i k = true :=
  BS_sub (anc_down op i) fun d e => (bar_ord op (s.cb d e) hh).2 (by have := s.ci; omega)
theorem RcI.congr {m : Nat} (him : i < m) (hl : ∀ k, k < m → f k = f' k) (r : RcI P ops bf cv0 h0 f m i o) (hr : (f i).2 = .calm → RdAt P ops bf cv0 h0 f m i o → RdAt P ops bf cv0 h0 f' (m + 1) i o) : RcI P ops bf cv0 h0 f' (m + 1) i o := by
  have e := hl i him
  have e1 := cvU_congr (cv0 := cv0) (ops := ops) i (fun k hk => hl k (by omega))
  have e2 := nxU_congr (h0 := h0) i (fun k hk => hl k (by omega))
  have e3 := loU_congr (h0 := h0) i (fun k hk => hl k (by omega))
  refine ⟨fun hk => ?_, fun q I O hk => ?_, fun q I O hk => ?_⟩
  · rw [← e] at hk
    rcases r.calm hk with hc | hc
    · left; rw [← e, ← e1]; exact hc
    · exact .inr (hr hk hc)
  · rw [← e] at hk ⊢
    rw [← e1, ← e2]
    exact r.act q I O hk
  · rw [← e] at hk
    rw [← e2, ← e3]
    exact r.lo q I O hk
theorem SegFor.congr {m : Nat} {H : Hp} (op : Opn ops bf) (hl : ∀ k, k < m → f k = f' k) (hc : c ≤ m) (hi : ∀ k, k = m → (f' k).2.isSpot = true → inMask (bf.getD k 0) i = false → (∀ d, c ≤ d → d < k → ¬ BarC P ops bf d) → ∀ b, (f' k).2.has b → H.tr.get (path b) = none) (s : SegFor P ops bf h0 f H c i m) : SegFor P ops bf h0 f' H c i (m + 1) := by
  have hA : ∀ k, BS bf c k = true → k < m := fun k hk => by have := BS_lt op hk; omega
  refine ⟨by rw [s.nx]; exact nxU_congr c fun k hk => hl k (by omega), fun kn b x hx => ?_, fun k h1 h2 h3 h4 h5 b hb => ?_⟩
  · obtain ⟨j, hj, a⟩ := s.tr (kn.congr hl hA) b x hx
    exact ⟨j, hj, a.congr hl hA⟩
  · by_cases e : k = m
    · exact hi k e h3 h4 h5 b hb
    · rw [← hl k (by omega)] at h3 hb
      exact s.no k h1 (by omega) h3 h4 h5 b hb
theorem RdAt.next {m j : Nat} {r : Option AV × Kd} (op : Opn ops bf) (hj : j < m) (q : RdAt P ops bf cv0 h0 f m j o)
    (hnew : ∀ v xs, (f j).1 = some v → opnds P (cvU cv0 ops f j) o.op.operands.toList = some xs → ∀ c, c ≤ m + 1 → (∀ d, c = d + 1 → BarC P ops bf d) → (∀ d, BarC P ops bf d → d < c → inMask (bf.getD d 0) j = false) →
      (c = m + 1 ∨ (r.2.isSpot = true ∧ inMask (bf.getD m 0) j = false ∧ ∀ d, c ≤ d → d < m → ¬ BarC P ops bf d)) → ∃ H, ReadIn P o xs v H ∧ SegFor P ops bf h0 (setR f m r) H c j (m + 1)) : RdAt P ops bf cv0 h0 (setR f m r) (m + 1) j o := by
  obtain ⟨h1, v, xs, h2, h3, h4, h5, h6⟩ := q
  have hl := setR_lt f m r
  have e1 := cvU_congr (cv0 := cv0) (ops := ops) j (fun k hk => hl k (by omega))
  have e2 := nxU_congr (h0 := h0) j (fun k hk => hl k (by omega))
  refine ⟨by rw [← e1]; exact h1, v, xs, by rw [setR_ne (by omega)]; exact h2, by rw [← e1]; exact h3, by rw [← e2]; exact h4, by rw [← e2]; exact h5, fun c c1 c2 c3 c4 => ?_⟩
  by_cases hc : c = m + 1 ∨ (r.2.isSpot = true ∧ inMask (bf.getD m 0) j = false ∧ ∀ d, c ≤ d → d < m → ¬ BarC P ops bf d)
  · exact hnew v xs h2 h3 c c1 c2 c4 hc
  · have hcm : c ≤ m := Classical.byContradiction fun hn => hc (.inl (by omega))
    obtain ⟨H, hr, sg⟩ := h6 c hcm c2 c3 c4
    refine ⟨H, hr, sg.congr op hl hcm fun k e g1 g2 g3 => ?_⟩
    subst e
    rw [setR_same] at g1
    exact absurd (.inr ⟨g1, g2, g3⟩) hc
/-- The memories behind each bar, the last one first; the last of all is that of the beginning. -/
structure SegIn (P : Program) (ops : List Oper) (bf : List Nat) (h0 : Hp) (f : Rcs) (H : Hp) (c i : Nat) : Prop where
  nx : H.nx = nxU h0 f c
  tr : Kn h0 f (BS bf c) → ∀ b x, H.tr.get (path b) = some x → ∃ j, j ≤ c ∧ At h0 f (BS bf c) b x j
  no : ∀ k, c ≤ k → k < i → (f k).2.isSpot = true → ∀ b, (f k).2.has b → H.tr.get (path b) = none
def HsR (P : Program) (ops : List Oper) (bf : List Nat) (h0 : Hp) (f : Rcs) : List (Nat × Hp) → Nat → Nat → Prop
  | [], _, _ => False
  | e :: Hs, c, i => SegIn P ops bf h0 f e.2 c i ∧ c ≤ i ∧ (∀ k, c ≤ k → k < i → ¬ BarC P ops bf k) ∧ ((c = 0 ∧ Hs = []) ∨ ∃ d c', c = d + 1 ∧ e.1 = d ∧ BarC P ops bf d ∧ HsR P ops bf h0 f Hs c' d)
theorem SegIn.congr (op : Opn ops bf) {H : Hp} (hl : ∀ k, k < i → f k = f' k) (hc : c ≤ i) (s : SegIn P ops bf h0 f H c i) : SegIn P ops bf h0 f' H c i := by
  have hA : ∀ k, BS bf c k = true → k < i := fun k hk => by have := BS_lt op hk; omega
  refine ⟨by rw [s.nx]; exact nxU_congr c fun k hk => hl k (by omega), fun kn b x hx => ?_, fun k h1 h2 h3 b hb => ?_⟩
  · obtain ⟨j, hj, a⟩ := s.tr (kn.congr hl hA) b x hx
    exact ⟨j, hj, a.congr hl hA⟩
  · rw [← hl k h2] at h3 hb
    exact s.no k h1 h2 h3 b hb
theorem HsR.congr (op : Opn ops bf) : ∀ {Hs : List (Nat × Hp)} {c i : Nat}, (∀ k, k < i → f k = f' k) → HsR P ops bf h0 f Hs c i → HsR P ops bf h0 f' Hs c i
  | [], _, _, _, h => h
  | e :: Hs, c, i, hl, ⟨h1, h2, h3, h4⟩ => by
    refine ⟨h1.congr op hl h2, h2, h3, h4.imp id fun ⟨d, c', g1, g2, g3, g4⟩ => ⟨d, c', g1, g2, g3, g4.congr op fun k hk => hl k (by omega)⟩⟩
theorem HsR.succ (hb : ¬ BarC P ops bf i) (hs : (f i).2.isSpot = false) : ∀ {Hs : List (Nat × Hp)}, HsR P ops bf h0 f Hs c i → HsR P ops bf h0 f Hs c (i + 1)
  | [], h => h
  | e :: Hs, ⟨h1, h2, h3, h4⟩ => by
    have up : ∀ {k}, k < i + 1 → k < i ∨ k = i := fun {k} h => by omega
    refine ⟨⟨h1.nx, h1.tr, fun k a b hsp => ?_⟩, by omega, fun k a b => ?_, h4⟩
    · rcases up b with h | rfl
      · exact h1.no k a h hsp
      · rw [hs] at hsp; cases hsp
    · rcases up b with h | rfl
      · exact h3 k a h
      · exact hb
theorem bar_noSpot (ai : AllIs P ops bf f) {k : Nat} (h : BarC P ops bf k) : (f k).2.isSpot = false := by
  obtain ⟨y, m, h1, h2⟩ := h
  cases hk : (f k).2 with
  | calm => rfl
  | act q I O =>
    have := (ai k y q I O h1 hk).cls
    cases q with
    | spot => obtain ⟨m', e⟩ := this; rw [h2] at e; cases e
    | bar => rfl
    | gen => rfl
    | mk => rfl
theorem allHs_yes (ai : AllIs P ops bf f) {m r : Nat} {ck : Hp → Ans → Ans} {x : Ans} {Q : Hp → Prop} (hc : ∀ H y, ck H y = .yes → y = .yes ∧ Q H) : ∀ {Hs : List (Nat × Hp)} {c i : Nat}, HsR P ops bf h0 f Hs c i → allHs m Hs ck x = .yes → x = .yes ∧ ∀ cc, cc ≤ i → (∀ d, cc = d + 1 → BarC P ops bf d) → (∀ d, BarC P ops bf d → inMask m d = true → d < i → d < cc) → ∃ H, Q H ∧ SegFor P ops bf h0 f H cc r i
  | [], _, _, hr, _ => hr.elim
  | e :: Hs, c, i, ⟨g1, g2, g3, g4⟩, h => by
    obtain ⟨h1, h2⟩ := hc e.2 _ (show ck e.2 (cnd (inMask m e.1) x (allHs m Hs ck x)) = .yes from h)
    rw [cnd_eq] at h1
    have top : ∃ H, Q H ∧ SegFor P ops bf h0 f H c r i := ⟨e.2, h2, g1.nx, g1.tr, fun k a b hs _ _ => g1.no k a b hs⟩
    have cmp : ∀ {cc}, cc ≤ i → (∀ d, cc = d + 1 → BarC P ops bf d) → cc ≤ c := fun {cc} hcc hb => Classical.byContradiction fun hn => by
      cases cc with
      | zero => omega
      | succ d => exact g3 d (by omega) (by omega) (hb d rfl)
    rcases g4 with ⟨rfl, rfl⟩ | ⟨d, c', rfl, g5, g6, g7⟩
    · have hx : x = .yes := by split at h1 <;> exact h1
      refine ⟨hx, fun cc hcc hb _ => ?_⟩
      obtain rfl : cc = 0 := by have := cmp hcc hb; omega
      exact top
    · have hh : x = .yes ∧ ∀ cc, cc ≤ d → (∀ d, cc = d + 1 → BarC P ops bf d) → (∀ d', BarC P ops bf d' → inMask m d' = true → d' < i → d' < cc) → ∃ H, Q H ∧ SegFor P ops bf h0 f H cc r d := by
        split at h1
        · rename_i hm
          rw [g5] at hm
          exact ⟨h1, fun cc hcc _ hk => by have := hk d g6 hm (by omega); omega⟩
        · obtain ⟨p1, p2⟩ := allHs_yes ai hc g7 h1
          exact ⟨p1, fun cc hcc hb hk => p2 cc hcc hb fun k a b c => hk k a b (by omega)⟩
      refine ⟨hh.1, fun cc hcc hb hk => ?_⟩
      by_cases hce : cc ≤ d
      · obtain ⟨H, q1, q2⟩ := hh.2 cc hce hb hk
        refine ⟨H, q1, q2.nx, q2.tr, fun k a b hs hm hno => ?_⟩
        by_cases hkd : k < d
        · exact q2.no k a hkd hs hm hno
        · by_cases e : k = d
          · -- a bar is no store of that kind
            subst e
            rw [bar_noSpot ai g6] at hs; cases hs
          · exact absurd g6 (hno d hce (by omega))
      · have := cmp hcc hb
        obtain rfl : cc = d + 1 := by omega
        exact top
/-- What is kept of memories and of reads. -/
structure Sr (P : Program) (ops : List Oper) (bf : List Nat) (cv0 : Cv) (h0 : Hp) (f : Rcs) (i c : Nat) (Hs : List (Nat × Hp)) (Rs : Rds) : Prop where
  hs : HsR P ops bf h0 f Hs c i
  rs : RdQ (fun j H => ∃ o v xs, ops[j]? = some o ∧ (f j).1 = some v ∧ opnds P (cvU cv0 ops f j) o.op.operands.toList = some xs ∧ ReadIn P o xs v H) Rs
  lt : ∀ e ∈ Rs, e.1 < i
  all : ∀ j o, j < i → ops[j]? = some o → (f j).2 = .calm → CalmAt P ops o (cvU cv0 ops f j) (f j).1 ∨ (∃ k, k < i ∧ BarC P ops bf k ∧ inMask (bf.getD k 0) j = true) ∨ ∃ e ∈ Rs, e.1 = j
variable {Hs : List (Nat × Hp)} {Rs : Rds}
theorem Sr.rs_ {r : Option AV × Kd} (s : Sr P ops bf cv0 h0 f i c Hs Rs) : RdQ (fun j H => ∃ o v xs, ops[j]? = some o ∧ (setR f i r j).1 = some v ∧ opnds P (cvU cv0 ops (setR f i r) j) o.op.operands.toList = some xs ∧ ReadIn P o xs v H) Rs := fun e he H y hy => by
  obtain ⟨h1, o, v, xs, h2, h3, h4, h5⟩ := s.rs e he H y hy
  have hlt := s.lt e he
  exact ⟨h1, o, v, xs, h2, by rw [setR_ne (by omega)]; exact h3, by rw [← cvU_congr e.1 (fun k hk => setR_lt f i r k (by omega))]; exact h4, h5⟩
/-- Reads and memories behind one that is no bar, and no store for itself. -/
theorem Sr.next (op : Opn ops bf) (s : Sr P ops bf cv0 h0 f i c Hs Rs) {r : Option AV × Kd} (hb : ¬ BarC P ops bf i) (hsp : r.2.isSpot = false) {Rs' : Rds} (hsub : ∀ e ∈ Rs, e ∈ Rs')
    (hq : RdQ (fun j H => ∃ o v xs, ops[j]? = some o ∧ (setR f i r j).1 = some v ∧ opnds P (cvU cv0 ops (setR f i r) j) o.op.operands.toList = some xs ∧ ReadIn P o xs v H) Rs') (hlt : ∀ e ∈ Rs', e.1 < i + 1)
    (hc : r.2 = .calm → ∀ o, ops[i]? = some o → CalmAt P ops o (cvU cv0 ops f i) r.1 ∨ ∃ e ∈ Rs', e.1 = i) : Sr P ops bf cv0 h0 (setR f i r) (i + 1) c Hs Rs' := by
  have hl := setR_lt f i r
  refine ⟨(s.hs.congr op hl).succ hb (by rw [setR_same]; exact hsp), hq, hlt, fun j o' hj ho' hk => ?_⟩
  by_cases e : j = i
  · subst e
    rw [setR_same] at hk ⊢
    rw [← cvU_congr j hl]
    exact (hc hk o' ho').imp id .inr
  · rw [setR_ne e] at hk ⊢
    rw [← cvU_congr j (fun k hk => hl k (by omega))]
    rcases s.all j o' (by omega) ho' hk with h | ⟨k, h1, h2, h3⟩ | ⟨e', h1, h2⟩
    · exact .inl h
    · exact .inr (.inl ⟨k, by omega, h2, h3⟩)
    · exact .inr (.inr ⟨e', hsub e' h1, h2⟩)
/-- One more is written down. -/
theorem St.next (op : Opn ops bf) {h h' : Hp} {fs fs' : Frees} {c' : Nat} (s : St P ops bf cv0 h0 f i c h fs) (ho : ops[i]? = some o) {r : Option AV × Kd}
    (hc' : (c' = c ∧ ¬ BarC P ops bf i) ∨ (c' = i + 1 ∧ BarC P ops bf i))
    (hrc : RcI P ops bf cv0 h0 (setR f i r) (i + 1) i o)
    (hsrc : ∀ q I O, r.2 = .act q I O → Kn h0 f (ancS bf i) → ∀ b x, I.tr.get (path b) = some x → ∃ j, j ≤ i ∧ At h0 f (ancS bf i) b x j)
    (hap : ∀ k, k < i → (f k).2.isCalm = false → r.2.isCalm = false → inMask (bf.getD i 0) k = false → ∀ b, r.2.has b → (f k).2.has b → r.2.wr = false ∧ (f k).2.wr = false)
    (hkd : ∀ q I O, r.2 = .act q I O → h.nx ≤ O.nx ∧ KdIs q I O (clsOf P ops bf i o (bf.getD i 0)))
    (hrd : ∀ j o', j < i → ops[j]? = some o' → (f j).2 = .calm → RdAt P ops bf cv0 h0 f i j o' → CalmAt P ops o' (cvU cv0 ops f j) (f j).1 ∨ RdAt P ops bf cv0 h0 (setR f i r) (i + 1) j o')
    (h1 : h'.nx = r.2.nx h.nx) (h2 : h'.lo = r.2.lo h.lo)
    (htr : Kn h0 (setR f i r) (BS bf c') → ∀ b x, h'.tr.get (path b) = some x → ∃ j, j ≤ c' ∧ At h0 (setR f i r) (BS bf c') b x j)
    (hpend : ∀ e ∈ fs', e.1 < i + 1 ∧ BS bf c' e.1 = false ∧ ∀ b x, (b, x) ∈ e.2 → May h0 (setR f i r) e.1 b ∧ (setR f i r e.1).2.out b = some x)
    (hall : ∀ k, k < i + 1 → (setR f i r k).2.isCalm = false → BS bf c' k = true ∨ ∃ e ∈ fs', e.1 = k ∧ ∀ b x, May h0 (setR f i r) k b → (setR f i r k).2.out b = some x → (b, x) ∈ e.2)
    (hsrt : fs'.Pairwise (fun a b => b.1 < a.1)) : St P ops bf cv0 h0 (setR f i r) (i + 1) c' h' fs' := by
  have hl := setR_lt f i r
  have hi : i < ops.length := (List.getElem?_eq_some_iff.1 ho).1
  have hmono : nxU h0 f i ≤ r.2.nx (nxU h0 f i) := by
    cases hk : r.2 with
    | calm => exact Nat.le_refl _
    | act q I O => rw [← s.nx]; exact (hkd q I O hk).1
  refine ⟨hi, ?_, fun d e => ?_, fun k a b => ?_, ?_, ?_, htr, hpend, hall, hsrt, s.pt.set s.out hmono hsrc hap, fun j o' hj ho' => ?_, fun k y q I O hy hk => ?_, fun j hj => by rw [setR_ne (by omega)]; exact s.out j (by omega)⟩
  · rcases hc' with ⟨rfl, -⟩ | ⟨rfl, -⟩
    · exact Nat.le_succ_of_le s.ci
    · exact Nat.le_refl _
  · rcases hc' with ⟨rfl, -⟩ | ⟨rfl, hb⟩
    · exact s.cb d e
    · obtain rfl : i = d := by omega
      exact hb
  · rcases hc' with ⟨rfl, hb⟩ | ⟨rfl, hb⟩
    · by_cases e : k = i
      · rw [e]; exact hb
      · exact s.nb k a (by omega)
    · omega
  · rw [h1, s.nx]
    show _ = (setR f i r i).2.nx (nxU h0 (setR f i r) i)
    rw [setR_same, ← nxU_congr i hl]
  · rw [h2, s.lo]
    show _ = (setR f i r i).2.lo (loU h0 (setR f i r) i)
    rw [setR_same, ← loU_congr i hl]
  · by_cases e : j = i
    · subst e; rw [ho] at ho'; injection ho' with ho'; subst ho'; exact hrc
    · have hj' : j < i := by omega
      have old := s.rc j o' hj' ho'
      have ecj := cvU_congr (cv0 := cv0) (ops := ops) j (fun k hk => hl k (show k < i by omega))
      refine ⟨fun hk => ?_, fun q I O hk => ?_, fun q I O hk => ?_⟩
      · rw [setR_ne e] at hk ⊢
        rw [← ecj]
        rcases old.calm hk with hc | hc
        · exact .inl hc
        · exact hrd j o' hj' ho' hk hc
      · rw [setR_ne e] at hk ⊢
        rw [← ecj, ← nxU_congr j (fun k hk => hl k (show k < i by omega))]
        exact old.act q I O hk
      · rw [setR_ne e] at hk
        rw [← nxU_congr j (fun k hk => hl k (show k < i by omega)), ← loU_congr j (fun k hk => hl k (show k < i by omega))]
        exact old.lo q I O hk
  · by_cases e : k = i
    · subst e; rw [ho] at hy; injection hy with hy; subst hy
      rw [setR_same] at hk
      exact (hkd q I O hk).2
    · rw [setR_ne e] at hk
      exact s.is k y q I O hy hk
/-- The parts that stay, where nothing is laid. -/
theorem St.stay (op : Opn ops bf) {h : Hp} {fs : Frees} (s : St P ops bf cv0 h0 f i c h fs) (r : Option AV × Kd) :
    (Kn h0 (setR f i r) (BS bf c) → ∀ b x, h.tr.get (path b) = some x → ∃ j, j ≤ c ∧ At h0 (setR f i r) (BS bf c) b x j) ∧
    (∀ e ∈ fs, e.1 < i + 1 ∧ BS bf c e.1 = false ∧ ∀ b x, (b, x) ∈ e.2 → May h0 (setR f i r) e.1 b ∧ (setR f i r e.1).2.out b = some x) ∧
    (∀ k, k < i → (setR f i r k).2.isCalm = false → BS bf c k = true ∨ ∃ e ∈ fs, e.1 = k ∧ ∀ b x, May h0 (setR f i r) k b → (setR f i r k).2.out b = some x → (b, x) ∈ e.2) := by
  have hl := setR_lt f i r
  have hA : ∀ k, BS bf c k = true → k < i := fun k hk => by have := BS_lt op hk; have := s.ci; omega
  refine ⟨fun kn b x hx => ?_, fun e he => ?_, fun k hk hc => ?_⟩
  · obtain ⟨j, hj, a⟩ := s.tr (kn.congr hl hA) b x hx
    exact ⟨j, hj, a.congr hl hA⟩
  · obtain ⟨e1, e2, e3⟩ := s.pend e he
    refine ⟨by omega, e2, fun b x hm => ?_⟩
    obtain ⟨e4, e5⟩ := e3 b x hm
    exact ⟨(May.congr hl e1).1 e4, by rw [← hl e.1 e1]; exact e5⟩
  · rw [← hl k hk] at hc
    rcases s.all k hk hc with h | ⟨e, h1, h2, h3⟩
    · exact .inl h
    · exact .inr ⟨e, h1, h2, fun b x hm hx => h3 b x ((May.congr hl hk).2 hm) (by rw [hl k hk]; exact hx)⟩
/-- Reads stay, behind what is no bar and no store for itself. -/
theorem Sr.keep (op : Opn ops bf) {r : Option AV × Kd} (hb : ¬ BarC P ops bf i) (hsp : r.2.isSpot = false) : ∀ j o', j < i → ops[j]? = some o' → (f j).2 = .calm → RdAt P ops bf cv0 h0 f i j o' → CalmAt P ops o' (cvU cv0 ops f j) (f j).1 ∨ RdAt P ops bf cv0 h0 (setR f i r) (i + 1) j o' :=
  fun j o' hj _ _ q => .inr (q.next op hj fun v xs _ _ c c1 c2 _ hc => by
    rcases hc with rfl | ⟨h, -⟩
    · exact absurd (c2 i rfl) hb
    · rw [hsp] at h; cases h)
end
theorem newsT_has {t : Tr Blk} {b : Nat} {x : Blk} (h : t.get (path b) = some x) : ∀ {m n : Nat}, n ≤ b → b < n + m → (b, x) ∈ newsT t n m
  | 0, n, h1, h2 => by omega
  | m + 1, n, h1, h2 => by
    unfold newsT
    by_cases e : n = b
    · subst e
      rw [h]
      exact List.mem_cons_self ..
    · have ih := newsT_has h (m := m) (n := n + 1) (by omega) (by omega)
      cases t.get (path n) with
      | none => exact ih
      | some y => exact List.mem_cons_of_mem _ ih
theorem leaf_one {b b' : Nat} {y x : Blk} (h : (Tr.leaf.set (path b) (some y)).get (path b') = some x) : b' = b ∧ x = y := by
  rw [get_set] at h
  split at h
  · rename_i hp
    injection h with h
    exact ⟨path_inj hp, h.symm⟩
  · rw [get_leaf] at h; cases h
theorem Acts.sub {o : Oper} {cv : Cv} {I O O' : Hp} {v : AV} (h : Acts P o cv I v O) (hq : quietOp P o.op = false) (h1 : O'.nx = O.nx) (h2 : O'.lo = O.lo) (h3 : ∀ b x, O'.tr.get (path b) = some x → O.tr.get (path b) = some x) : Acts P o cv I v O' := by
  obtain ⟨xs, g1, g2, -⟩ := h
  refine ⟨xs, g1, fun β w a hr hg hx K Q hK => g2 β w a hr hg hx K Q fun β' w' u s hu => hK β' w' u ⟨⟨fun b x hb => by rw [h1]; exact s.hr.blk b x (h3 b x hb), fun b b' x x' c κ κ' hb hb' => s.hr.inj b b' x x' c κ κ' (h3 b x hb) (h3 b' x' hb'), by rw [h1]; exact s.hr.fresh, by rw [h1, h2]; exact s.hr.low⟩, by rw [h1]; exact s.nx, by rw [h2]; exact s.lo, s.old, fun b x hb hx => s.dom b x hb (h3 b x hx), fun b c κ hb e => by rw [h2]; exact s.new b c κ hb e, by rw [h2]; exact s.kept⟩ hu, fun h => by rw [hq] at h; cases h⟩
/-- A run with free operations writes down what it does. -/
theorem runFree_spec {callf : CallF} (hcall : CallSound P callf) {keep : Nat} {ops : List Oper} {bf : List Nat} (op : Opn ops bf) {cv0 : Cv} {h0 : Hp} : ∀ (rest : List Oper) (bs : List Nat) (D : Dl) (now i c : Nat) (L : List AV) (env : Tr AV) (h : Hp) (fs : Frees) (Hs : List (Nat × Hp)) (Rs : Rds) (k : Tr AV → Hp → Ans) (f : Rcs),
    ops.drop i = rest → bf.drop i = bs → Pl P keep rest D now L env (cvU cv0 ops f i) → St P ops bf cv0 h0 f i c h fs → Sr P ops bf cv0 h0 f i c Hs Rs →
    runFree callf (mkCOs.go P ops keep true bf rest bs D now i) L env h fs Hs Rs k = .yes →
    ∃ f' env' h', k env' h' = .yes ∧ EnvK keep env' ∧ Pt bf h0 f' ∧ AllIs P ops bf f' ∧ (∀ j o, ops[j]? = some o → RcI P ops bf cv0 h0 f' ops.length j o) ∧ (∀ j, ops.length ≤ j → (f' j).2 = .calm) ∧ (Kn h0 f' (fun k => decide (k < ops.length)) → ∀ b x, h'.tr.get (path b) = some x → ∃ j, j ≤ ops.length ∧ At h0 f' (fun k => decide (k < ops.length)) b x j) ∧ h'.nx = nxU h0 f' ops.length ∧ h'.lo = loU h0 f' ops.length ∧ ∀ t av, env'.get (path t) = some av → cvU cv0 ops f' ops.length t = some av
  | [], bs, D, now, i, c, L, env, h, fs, Hs, Rs, k, f, hd, hb, pl, st, sr, H => by
    have hi : i = ops.length := by
      have := congrArg List.length hd
      simp at this
      have := st.le
      omega
    subst hi
    have H : flushAll fs h (fun h => k env h) = .yes := by cases bs <;> exact H
    rw [flushAll_eq] at H
    refine ⟨f, env, _, H, pl.envK, st.pt, st.is, fun j o ho => st.rc j o (List.getElem?_eq_some_iff.1 ho).1 ho, st.out, fun kn b x hx => ?_, st.nx, st.lo, pl.envC⟩
    have heq : flushT (fun _ => true) fs h.tr = flushT (fun k => decide (k < ops.length)) fs h.tr := by
      have : ∀ fs : Frees, (∀ e ∈ fs, e.1 < ops.length) → flushT (fun _ => true) fs h.tr = flushT (fun k => decide (k < ops.length)) fs h.tr := by
        intro fs
        induction fs with
        | nil => intro _; rfl
        | cons e fs ih =>
          intro hlt
          unfold flushT
          rw [ih fun e' he' => hlt e' (List.mem_cons_of_mem _ he'), if_pos rfl, if_pos (by simpa using hlt e (List.mem_cons_self ..))]
      exact this fs fun e he => (st.pend e he).1
    refine st.flush op (A := fun k => decide (k < ops.length)) (fun k hk => of_decide_eq_true hk) (fun k j hk hm => ?_) (fun k hk => ?_) kn (b := b) (x := x) ?_
    · have := op.lt_ k j hm; have := of_decide_eq_true hk; simp; omega
    · have := BS_lt op hk; have := st.ci; simp; omega
    · rw [← heq]; exact hx
  | o :: rest, bs, D, now, i, c, L, env, h, fs, Hs, Rs, k, f, hd, hb, pl, st, sr, H => by
    have ho : ops[i]? = some o := by
      have := List.getElem?_drop (xs := ops) (i := i) (j := 0)
      rw [hd] at this
      simpa using this.symm
    have hi : i < ops.length := (List.getElem?_eq_some_iff.1 ho).1
    have hd' : ops.drop (i + 1) = rest := by rw [← List.tail_drop, hd]; rfl
    obtain ⟨bs', hbs, hb'⟩ : ∃ bs', bs = bf.getD i 0 :: bs' ∧ bf.drop (i + 1) = bs' := by
      have hlt : i < bf.length := by rw [op.len]; exact hi
      refine ⟨bf.drop (i + 1), ?_, rfl⟩
      rw [← hb, List.drop_eq_getElem_cons hlt, List.getD_eq_getElem?_getD, List.getElem?_eq_getElem hlt]; rfl
    subst hbs
    have ecv : ∀ r, cvU cv0 ops (setR f i r) i = cvU cv0 ops f i := fun r => (cvU_congr i (setR_lt f i r)).symm
    have enx : ∀ r, nxU h0 (setR f i r) i = h.nx := fun r => by rw [st.nx]; exact (nxU_congr i (setR_lt f i r)).symm
    have elo : ∀ r, loU h0 (setR f i r) i = h.lo := fun r => by rw [st.lo]; exact (loU_congr i (setR_lt f i r)).symm
    have ecv1 : ∀ r, cvU cv0 ops (setR f i r) (i + 1) = updO (cvU cv0 ops f i) o.dst r.1 := fun r => by
      show updO (cvU cv0 ops (setR f i r) i) (dstAt ops i) (setR f i r i).1 = _
      rw [ecv, setR_same, dstAt_at ho]
    have barI : ∀ {cls}, clsOf P ops bf i o (bf.getD i 0) = cls → (∀ m, cls ≠ .bar m) → ¬ BarC P ops bf i := fun {cls} hc hn ⟨o', m, h1, h2⟩ => by
      rw [ho] at h1; injection h1 with h1; subst h1
      rw [hc] at h2; exact hn m h2
    have calmRc : ∀ out, CalmAt P ops o (cvU cv0 ops f i) out → RcI P ops bf cv0 h0 (setR f i (out, .calm)) (i + 1) i o := fun out hc =>
      ⟨(fun _ => by left; rw [ecv, setR_same]; exact hc), (fun q I O hk => by rw [setR_same] at hk; cases hk), (fun q I O hk => by rw [setR_same] at hk; cases hk)⟩
    -- a calm one that is no bar
    have calmSt : ∀ out, ¬ BarC P ops bf i → CalmAt P ops o (cvU cv0 ops f i) out → St P ops bf cv0 h0 (setR f i (out, .calm)) (i + 1) c h fs := fun out hnb hc => by
      obtain ⟨s1, s2, s3⟩ := st.stay op (out, .calm)
      refine st.next op ho (.inl ⟨rfl, hnb⟩) (calmRc out hc) (fun q I O hk => by cases hk) (fun k _ _ hk => by cases hk) (fun q I O hk => by cases hk) (Sr.keep op hnb rfl) rfl rfl s1 s2 (fun k hk hcalm => ?_) st.srt
      by_cases e : k = i
      · rw [e, setR_same] at hcalm; cases hcalm
      · exact s3 k (by omega) hcalm
    have calmSr : ∀ out, ¬ BarC P ops bf i → CalmAt P ops o (cvU cv0 ops f i) out → Sr P ops bf cv0 h0 (setR f i (out, .calm)) (i + 1) c Hs Rs := fun out hnb hc =>
      sr.next op hnb rfl (fun e he => he) sr.rs_ (fun e he => Nat.lt_succ_of_lt (sr.lt e he)) fun _ o' ho' => by rw [ho] at ho'; injection ho' with ho'; subst ho'; exact .inl hc
    have newCase : ∀ (q : Kind) (t' : Tr Blk) (v : AV) (O : Hp), (q = .gen ∨ q = .mk) → ¬ BarC P ops bf i → wantedA ops (cvU cv0 ops f i) o = some true → Acts P o (cvU cv0 ops f i) (.mk t' h.nx h.nx) v O → O.lo = h.nx → h.nx ≤ O.nx → KdIs q (.mk t' h.nx h.nx) O (clsOf P ops bf i o (bf.getD i 0)) →
        (Kn h0 f (ancS bf i) → ∀ b x, t'.get (path b) = some x → ∃ j, j ≤ i ∧ At h0 f (ancS bf i) b x j) →
        (∀ k, k < i → (f k).2.isCalm = false → inMask (bf.getD i 0) k = false → ∀ b x, t'.get (path b) = some x → (f k).2.has b → (f k).2.wr = false) →
        St P ops bf cv0 h0 (setR f i (some v, .act q (.mk t' h.nx h.nx) O)) (i + 1) c (.mk h.tr O.nx h.lo) ((i, newsT O.tr h.nx (O.nx - h.nx)) :: fs) ∧ Sr P ops bf cv0 h0 (setR f i (some v, .act q (.mk t' h.nx h.nx) O)) (i + 1) c Hs Rs := by
      intro q t' v O hq hnb hw ha hOl hOn kd hsrc hap
      have hsp : Kd.isSpot (.act q (.mk t' h.nx h.nx) O) = false := by rcases hq with rfl | rfl <;> rfl
      have hwr : q.wr = false := by rcases hq with rfl | rfl <;> rfl
      have hwr2 : Kd.wr (.act q (.mk t' h.nx h.nx) O) = false := hwr
      have hnbar : q ≠ .bar := by rcases hq with rfl | rfl <;> simp
      have hlo : Kd.lo h.lo (.act q (.mk t' h.nx h.nx) O) = h.lo := by rcases hq with rfl | rfl <;> rfl
      obtain ⟨s1, s2, s3⟩ := st.stay op (some v, .act q (.mk t' h.nx h.nx) O)
      have hbsi : BS bf c i = false := by
        cases hb : BS bf c i with
        | false => rfl
        | true => have := BS_lt op hb; have := st.ci; omega
      have eR : setR f i (some v, .act q (.mk t' h.nx h.nx) O) i = (some v, .act q (.mk t' h.nx h.nx) O) := setR_same ..
      have enx1 : nxU h0 (setR f i (some v, .act q (.mk t' h.nx h.nx) O)) (i + 1) = O.nx := by
        show (setR f i (some v, .act q (.mk t' h.nx h.nx) O) i).2.nx _ = _
        rw [eR]; rfl
      refine ⟨st.next op ho (.inl ⟨rfl, hnb⟩) ⟨fun hk => by (rw [eR] at hk; cases hk), fun q' I' O' hk => ?_, fun q' I' O' hk => ?_⟩ (fun q' I' O' hk => ?_) (fun k hk hc _ hm b hb hb' => ⟨hwr2, ?_⟩) (fun q' I' O' hk => ?_) (Sr.keep op hnb hsp) rfl hlo.symm s1 (fun e he => ?_) (fun k hk hc => ?_) (List.pairwise_cons.2 ⟨fun e he => (st.pend e he).1, st.srt⟩), sr.next op hnb hsp (fun e he => he) sr.rs_ (fun e he => Nat.lt_succ_of_lt (sr.lt e he)) fun hk => by cases hk⟩
      · rw [eR] at hk ⊢
        injection hk with k1 k2 k3; subst k1; subst k2; subst k3
        rw [ecv, enx]
        exact ⟨⟨v, rfl, hw, ha⟩, rfl, hOn⟩
      · rw [eR] at hk
        injection hk with k1 k2 k3; subst k1; subst k2; subst k3
        rw [enx]
        exact ⟨fun h => absurd h hnbar, fun _ => rfl, fun _ => by rw [hOl]; exact Nat.le_refl _⟩
      · injection hk with k1 k2 k3; subst k1; subst k2; subst k3
        exact hsrc
      · obtain ⟨x, hx⟩ := hb
        exact hap k hk hc hm b x hx hb'
      · injection hk with k1 k2 k3; subst k1; subst k2; subst k3
        exact ⟨hOn, kd⟩
      · rcases List.mem_cons.1 he with rfl | he
        · refine ⟨Nat.lt_succ_self i, hbsi, fun b x hm => ?_⟩
          obtain ⟨a1, a2, a3⟩ := newsT_mem hm
          refine ⟨⟨by rw [eR]; rfl, .inr ⟨by rw [enx]; exact a1, by rw [enx1]; omega⟩⟩, by rw [eR]; exact a3⟩
        · exact s2 e he
      · by_cases e : k = i
        · subst e
          refine .inr ⟨_, List.mem_cons_self .., rfl, fun b x hm hx => ?_⟩
          rw [eR] at hx
          rcases hm.2 with ⟨w1, -⟩ | ⟨w1, w2⟩
          · rw [eR, hwr2] at w1; cases w1
          · rw [enx] at w1
            rw [enx1] at w2
            exact newsT_has hx w1 (by omega)
        · rcases s3 k (by omega) hc with h | ⟨e', h1, h2, h3⟩
          · exact .inl h
          · exact .inr ⟨e', List.mem_cons_of_mem _ h1, h2, h3⟩
    rw [mkCOs.go] at H
    cases hal : aliasOf keep rest D o with
    | some e =>
      rw [hal] at H
      dsimp only at H
      obtain ⟨d, t, hdst, hg0, hop, pl'⟩ := pl.alias hal
      have hq : quietOp P o.op = true := by rw [hop]; rfl
      have hcl : clsOf P ops bf i o (bf.getD i 0) = .quiet := by unfold clsOf; rw [if_pos hq]
      have hnb := barI hcl (by simp)
      have hca : CalmAt P ops o (cvU cv0 ops f i) (cvU cv0 ops f i t) := .inr (.inr ⟨hg0, t, hop, rfl⟩)
      refine runFree_spec hcall op rest bs' _ _ (i + 1) c _ _ h fs Hs Rs k (setR f i (cvU cv0 ops f i t, .calm)) hd' hb' ?_ (calmSt _ hnb hca) (calmSr _ hnb hca) H
      rw [ecv1]; exact pl'
    | none =>
      rw [hal] at H
      dsimp only at H
      rw [runFree_cons] at H
      have his := cls_is (P := P) ops bf i o (bf.getD i 0)
      cases hcl : clsOf P ops bf i o (bf.getD i 0) with
      | quiet =>
        rw [hcl] at his H
        cases his with
        | quiet hq =>
          have hnb := barI hcl (by simp)
          rw [if_neg (by rw [isBar_mk.1 (by simp)]; simp), if_neg (by rw [isRd_mk (by simp)]; simp), if_neg (by rw [spotQ_mk (by simp)]; simp)] at H
          obtain ⟨v, h1, H1, hdo, -⟩ := mkCO_line hcall (.inl rfl) pl.loc H
          have hh : h1 = h ∧ CalmAt P ops o (cvU cv0 ops f i) (some v) := by
            rcases hdo with ⟨hw, xs, hx, -, hq2⟩ | ⟨hw, h2, h3⟩
            · exact ⟨(hq2 hq).1, .inl ⟨hw, v, xs, rfl, hx, (hq2 hq).2⟩⟩
            · exact ⟨h3, .inr (.inl ⟨hw, by rw [h2]⟩)⟩
          obtain ⟨rfl, hcalm⟩ := hh
          refine runFree_spec hcall op rest bs' _ _ (i + 1) c _ _ h1 fs Hs Rs k (setR f i (some v, .calm)) hd' hb' ?_ (calmSt _ hnb hcalm) (calmSr _ hnb hcalm) H1
          rw [ecv1]; exact pl.push v
      | rd m =>
        rw [hcl] at his H
        cases his with
        | rd hq hrd =>
          have hnb := barI hcl (by simp)
          have hg := rdB_guard hrd
          obtain ⟨e1, e2, e3⟩ := rdIx_mk (P := P) (ops := ops) (keep := keep) (m := bf.getD i 0) (D := D) (now := now) (i := i) hg
          rw [if_neg (by rw [isBar_mk.1 (by simp)]; simp), if_pos e2, e1, e3] at H
          obtain ⟨v, xs, H1, hx, hlow, hri⟩ := rdCO_yes hcall hg pl.loc H
          obtain ⟨H2, hH⟩ := allHs_yes (r := i) (Q := ReadIn P o xs v) st.is (fun H y hy => chkRd_yes hcall hg pl.loc hx hy) sr.hs H1
          have hw : wantedA ops (cvU cv0 ops f i) o = some true := by unfold wantedA; rw [hg]
          have rd0 : RdAt P ops bf cv0 h0 f i i o → True := fun _ => trivial
          have hl := setR_lt f i (some v, Kd.calm)
          have hrdat : RdAt P ops bf cv0 h0 (setR f i (some v, .calm)) (i + 1) i o := by
            refine ⟨by rw [ecv]; exact hw, v, xs, by rw [setR_same], by rw [ecv]; exact hx, by rw [enx]; exact hlow, by rw [enx]; exact hri.nx, fun cc c1 c2 c3 c4 => ?_⟩
            have hci : cc ≤ i := Classical.byContradiction fun hn => by
              obtain rfl : cc = i + 1 := by omega
              exact hnb (c2 i rfl)
            obtain ⟨H', g1, g2⟩ := hH cc hci c2 (fun d a b _ => c3 d a b)
            exact ⟨H', g1, g2.congr op hl hci fun k e hs => by subst e; rw [setR_same] at hs; cases hs⟩
          obtain ⟨s1, s2, s3⟩ := st.stay op (some v, .calm)
          refine runFree_spec hcall op rest bs' _ _ (i + 1) c _ _ h fs Hs _ k (setR f i (some v, .calm)) hd' hb' ?_ (st.next op ho (.inl ⟨rfl, hnb⟩) ⟨fun _ => .inr hrdat, fun q I O hk => by (rw [setR_same] at hk; cases hk), fun q I O hk => by (rw [setR_same] at hk; cases hk)⟩ (fun q I O hk => by cases hk) (fun k _ _ hk => by cases hk) (fun q I O hk => by cases hk) (Sr.keep op hnb rfl) rfl rfl s1 s2 (fun k hk hcalm => ?_) st.srt) (sr.next op hnb rfl (fun e he => List.mem_cons_of_mem _ he) (fun e he Hh y hy => ?_) (fun e he => ?_) fun _ o' _ => .inr ⟨_, List.mem_cons_self .., rfl⟩) H2
          · rw [ecv1]; exact pl.push v
          · by_cases e : k = i
            · rw [e, setR_same] at hcalm; cases hcalm
            · exact s3 k (by omega) hcalm
          · rcases List.mem_cons.1 he with rfl | he
            · obtain ⟨q1, q2⟩ := chkRd_yes hcall hg pl.loc hx hy
              exact ⟨q1, o, v, xs, ho, by rw [setR_same], by rw [ecv]; exact hx, q2⟩
            · exact sr.rs_ e he Hh y hy
          · rcases List.mem_cons.1 he with rfl | he
            · exact Nat.lt_succ_self i
            · exact Nat.lt_succ_of_lt (sr.lt e he)
      | mk m =>
        rw [hcl] at his H
        cases his with
        | mk hq hrd hmk =>
          have hnb := barI hcl (by simp)
          rw [if_neg (by rw [isBar_mk.1 (by simp)]; simp), if_neg (by rw [isRd_mk (by simp)]; simp), if_neg (by rw [spotQ_mk (by simp)]; simp)] at H
          rcases mkCO_free hcall (.inr ⟨rfl, rfl⟩) pl.loc H with ⟨v, O, hw, ha, h1, h2, H1⟩ | ⟨hw, H1⟩
          · obtain ⟨s1, s2⟩ := newCase .mk .leaf v O (.inr rfl) hnb hw ha h1 h2 ⟨by rw [hcl]; exact ⟨_, rfl⟩, (fun _ b => get_leaf _), (fun h => by cases h)⟩ (fun _ b x hx => by rw [get_leaf] at hx; cases hx) (fun k _ _ _ b x hx => by rw [get_leaf] at hx; cases hx)
            refine runFree_spec hcall op rest bs' _ _ (i + 1) c _ _ _ _ Hs Rs k _ hd' hb' ?_ s1 s2 H1
            rw [ecv1]; exact pl.push v
          · have hca : CalmAt P ops o (cvU cv0 ops f i) (some (.tup [])) := .inr (.inl ⟨hw, rfl⟩)
            refine runFree_spec hcall op rest bs' _ _ (i + 1) c _ _ h fs Hs Rs k (setR f i (some (.tup []), .calm)) hd' hb' ?_ (calmSt _ hnb hca) (calmSr _ hnb hca) H1
            rw [ecv1]; exact pl.push _
      | bar m =>
        rw [hcl] at his H
        cases his with
        | bar hq hrd hmk hbb =>
          have hbc : BarC P ops bf i := ⟨o, _, ho, hcl⟩
          rcases (isBar_mk (P := P) (ops := ops) (keep := keep) (o := o) (D := D) (now := now) (cls := .bar (bf.getD i 0)) (i := i)).2 _ rfl with ⟨hbar, hbm, hbi⟩ | hbad
          · rw [if_pos hbar, hbm] at H
            obtain ⟨v, h1, H1, hdo, hn⟩ := mkCO_line hcall (.inr ⟨_, rfl⟩) pl.loc H
            have hn : h.nx ≤ h1.nx := hn (by simp)
            obtain ⟨Rs', H2, hsub, hall⟩ := allRs_yes sr.rs H1
            rw [hbi] at H2
            have hAi : ∀ k, ancS bf i k = true → k < i := fun k hk => op.lt_ i k hk
            have hBi : ∀ k, BS bf (i + 1) k = true → k < i + 1 := fun k hk => BS_lt op hk
            have ancB : ∀ k, ancS bf i k = true → BS bf (i + 1) k = true := fun k hk => by
              show (decide (k = i) || inMask (bf.getD i 0) k) = true
              rw [show inMask (bf.getD i 0) k = true from hk, Bool.or_true]
            have hflush : Kn h0 f (ancS bf i) → ∀ b x, (flushT (fun j => inMask (bf.getD i 0) j) fs h.tr).get (path b) = some x → ∃ j, j ≤ i ∧ At h0 f (ancS bf i) b x j := fun kn b x hx => st.flush op (A := ancS bf i) hAi (anc_down op i) (st.below op hbc.held) kn hx
            -- what is the same of one that is carried out and of one that is not
            have go : ∀ (r : Option AV × Kd), r.1 = some v → r.2.isSpot = false → RcI P ops bf cv0 h0 (setR f i r) (i + 1) i o →
                (∀ q I O, r.2 = .act q I O → Kn h0 f (ancS bf i) → ∀ b x, I.tr.get (path b) = some x → ∃ j, j ≤ i ∧ At h0 f (ancS bf i) b x j) →
                (∀ q I O, r.2 = .act q I O → h.nx ≤ O.nx ∧ KdIs q I O (clsOf P ops bf i o (bf.getD i 0))) → h1.nx = r.2.nx h.nx → h1.lo = r.2.lo h.lo →
                (Kn h0 (setR f i r) (BS bf (i + 1)) → ∀ b x, h1.tr.get (path b) = some x → ∃ j, j ≤ i + 1 ∧ At h0 (setR f i r) (BS bf (i + 1)) b x j) →
                (r.2 = .calm → CalmAt P ops o (cvU cv0 ops f i) r.1) →
                ∃ f' env' h', k env' h' = .yes ∧ EnvK keep env' ∧ Pt bf h0 f' ∧ AllIs P ops bf f' ∧ (∀ j o, ops[j]? = some o → RcI P ops bf cv0 h0 f' ops.length j o) ∧ (∀ j, ops.length ≤ j → (f' j).2 = .calm) ∧ (Kn h0 f' (fun k => decide (k < ops.length)) → ∀ b x, h'.tr.get (path b) = some x → ∃ j, j ≤ ops.length ∧ At h0 f' (fun k => decide (k < ops.length)) b x j) ∧ h'.nx = nxU h0 f' ops.length ∧ h'.lo = loU h0 f' ops.length ∧ ∀ t av, env'.get (path t) = some av → cvU cv0 ops f' ops.length t = some av := by
              intro r hrv hsp hrc hsrc hkd e1 e2 htr hca
              have hl := setR_lt f i r
              obtain ⟨-, s2, s3⟩ := st.stay op r
              have nx1 : h1.nx = nxU h0 (setR f i r) (i + 1) := by
                show _ = (setR f i r i).2.nx (nxU h0 (setR f i r) i)
                rw [setR_same, enx]; exact e1
              have hrd : ∀ j o', j < i → ops[j]? = some o' → (f j).2 = .calm → RdAt P ops bf cv0 h0 f i j o' → CalmAt P ops o' (cvU cv0 ops f j) (f j).1 ∨ RdAt P ops bf cv0 h0 (setR f i r) (i + 1) j o' := fun j o' hj ho' hk q => by
                rcases sr.all j o' hj ho' hk with g | g
                · exact .inl g
                · refine .inr (q.next op hj fun v' xs' g1 g2 cc c1 c2 c4 hc => ?_)
                  rcases hc with rfl | ⟨hs, -⟩
                  · rcases g with ⟨k', k1, k2, k3⟩ | ⟨e, he, hej⟩
                    · rw [c4 k' k2 (by omega)] at k3; cases k3
                    · rcases hall e he with g3 | ⟨-, o2, v2, xs2, q1, q2, q3, q4⟩
                      · rw [hej, c4 i hbc (by omega)] at g3; cases g3
                      · rw [hej] at q1 q2 q3
                        rw [ho'] at q1; injection q1 with q1; subst q1
                        rw [g1] at q2; injection q2 with q2; subst q2
                        rw [g2] at q3; injection q3 with q3; subst q3
                        exact ⟨h1, q4, nx1, htr, fun k a b => by omega⟩
                  · rw [hsp] at hs; cases hs
              refine runFree_spec hcall op rest bs' _ _ (i + 1) (i + 1) _ _ h1 (keepT (bf.getD i 0) fs) ((i, h1) :: Hs) Rs' k (setR f i r) hd' hb' ?_ (st.next op ho (.inr ⟨rfl, hbc⟩) hrc hsrc (fun k hk hc _ hm b _ hb' => ?_) hkd hrd e1 e2 htr (fun e he => ?_) (fun k hk hc => ?_) (keepT_srt st.srt)) ⟨⟨⟨nx1, htr, fun k a b => by omega⟩, Nat.le_refl _, fun k a b => by omega, .inr ⟨i, c, rfl, rfl, hbc, sr.hs.congr op hl⟩⟩, fun e he => sr.rs_ e (hsub e he), fun e he => Nat.lt_succ_of_lt (sr.lt e (hsub e he)), fun j o' hj ho' hk => ?_⟩ H2
              · rw [ecv1, hrv]; exact pl.push v
              · exfalso
                obtain ⟨y, hy⟩ : ∃ y, ops[k]? = some y := ⟨_, List.getElem?_eq_getElem (by omega)⟩
                cases hfk : (f k).2 with
                | calm => rw [hfk] at hc; cases hc
                | act q I O' =>
                  have kd := st.is k y q I O' hy hfk
                  by_cases hqm : q = .mk
                  · rw [hfk] at hb'
                    obtain ⟨x, hx⟩ := hb'
                    rw [kd.emp hqm b] at hx; cases hx
                  · have := (bar_ord op hbc (kd_held hy kd hqm)).1 hk
                    rw [hm] at this; cases this
              · obtain ⟨g1, g2⟩ := keepT_mem.1 he
                obtain ⟨g3, g4, g5⟩ := s2 e g1
                refine ⟨g3, ?_, g5⟩
                have hei : e.1 ≠ i := fun h => by have := (st.pend e g1).1; omega
                show (decide (e.1 = i) || inMask (bf.getD i 0) e.1) = false
                rw [g2, decide_eq_false hei]; rfl
              · by_cases e : k = i
                · left
                  show (decide (k = i) || inMask (bf.getD i 0) k) = true
                  rw [decide_eq_true e]; rfl
                · cases hm : inMask (bf.getD i 0) k with
                  | true => exact .inl (ancB k hm)
                  | false =>
                    rcases s3 k (by omega) hc with g | ⟨e', g1, g2, g3⟩
                    · have := st.below op hbc.held k g
                      rw [show ancS bf i k = inMask (bf.getD i 0) k from rfl, hm] at this; cases this
                    · exact .inr ⟨e', keepT_mem.2 ⟨g1, by rw [g2]; exact hm⟩, g2, g3⟩
              · by_cases e : j = i
                · subst e
                  rw [ho] at ho'; injection ho' with ho'; subst ho'
                  rw [setR_same] at hk ⊢
                  left; rw [ecv]; exact hca hk
                · rw [setR_ne e] at hk ⊢
                  rw [← cvU_congr j (fun k hk => hl k (by omega))]
                  rcases sr.all j o' (by omega) ho' hk with g | ⟨k', g1, g2, g3⟩ | ⟨e', g1, g2⟩
                  · exact .inl g
                  · exact .inr (.inl ⟨k', by omega, g2, g3⟩)
                  · rcases hall e' g1 with g3 | ⟨g3, -⟩
                    · exact .inr (.inl ⟨i, Nat.lt_succ_self i, hbc, by rw [← g2]; exact g3⟩)
                    · exact .inr (.inr ⟨e', g3, g2⟩)
            rcases hdo with ⟨hw, ha⟩ | ⟨hw, hv, hh⟩
            · let I : Hp := .mk (flushT (fun j => inMask (bf.getD i 0) j) fs h.tr) h.nx h.lo
              have eR : setR f i (some v, .act .bar I h1) i = (some v, .act .bar I h1) := setR_same ..
              refine go (some v, .act .bar I h1) rfl rfl ⟨fun hk => by (rw [eR] at hk; cases hk), fun q' I' O' hk => ?_, fun q' I' O' hk => ?_⟩ (fun q' I' O' hk => ?_) (fun q' I' O' hk => ?_) rfl rfl (fun kn b x hx => ?_) fun hk => by cases hk
              · rw [eR] at hk ⊢
                injection hk with k1 k2 k3; subst k1; subst k2; subst k3
                rw [ecv, enx]
                exact ⟨⟨v, rfl, hw, ha⟩, rfl, hn⟩
              · rw [eR] at hk
                injection hk with k1 k2 k3; subst k1; subst k2; subst k3
                rw [elo]
                exact ⟨fun _ => rfl, fun h => absurd rfl h, fun h => by cases h⟩
              · injection hk with k1 k2 k3; subst k1; subst k2; subst k3
                exact hflush
              · injection hk with k1 k2 k3; subst k1; subst k2; subst k3
                exact ⟨hn, by rw [hcl]; exact ⟨_, rfl⟩, (fun h => by cases h), (fun h => by cases h)⟩
              · have hbsi : BS bf (i + 1) i = true := by
                  show (decide (i = i) || inMask (bf.getD i 0) i) = true
                  rw [decide_eq_true rfl]; rfl
                obtain ⟨d1, d2, -⟩ := kn.ex i hbsi .bar I h1 (by rw [eR])
                refine ⟨i + 1, Nat.le_refl _, .inr ⟨i, rfl, hbsi, ⟨by rw [eR]; rfl, ?_⟩, by rw [eR]; exact hx⟩, fun k hk hb => by have := hBi k hb; omega⟩
                by_cases hlt : b < h.nx
                · left
                  rw [eR]
                  exact ⟨rfl, d2 b x hlt hx⟩
                · right
                  rw [enx]
                  refine ⟨by omega, ?_⟩
                  show b < (setR f i (some v, .act .bar I h1) i).2.nx _
                  rw [eR]; exact d1 b x hx
            · subst hh
              have eR : setR f i (some v, .calm) i = (some v, .calm) := setR_same ..
              have hca : CalmAt P ops o (cvU cv0 ops f i) (some v) := .inr (.inl ⟨hw, by rw [hv]⟩)
              refine go (some v, .calm) rfl rfl (calmRc _ hca) (fun q' I' O' hk => by cases hk) (fun q' I' O' hk => by cases hk) rfl rfl (fun kn b x hx => ?_) fun _ => hca
              have hl := setR_lt f i (some v, Kd.calm)
              obtain ⟨j, hj, a⟩ := hflush ((kn.sub ancB).congr hl hAi) b x hx
              have a' := a.congr hl hAi
              refine ⟨j, by omega, a'.src.imp id fun ⟨k, g1, g2, g3⟩ => ⟨k, g1, ancB k g2, g3⟩, fun k hk hb hm => ?_⟩
              by_cases e : k = i
              · have := hm.1
                rw [e, eR] at this; cases this
              · replace hb : (decide (k = i) || inMask (bf.getD i 0) k) = true := hb
                rw [decide_eq_false e, Bool.false_or] at hb
                exact a'.last k hk hb hm
          · rw [hbad] at H
            cases H
      | spot m =>
        rw [hcl] at his H
        cases his with
        | spot hq hrd hmk hbb hst hsps =>
          have hnb := barI hcl (by simp)
          have hheld : HeldC P ops bf i := ⟨o, ho, by rw [hcl]; rfl⟩
          have hg : o.guard = none := by
            unfold stB at hst
            rw [Bool.and_eq_true] at hst
            exact Option.isNone_iff_eq_none.1 hst.2
          obtain ⟨eq1, eq2⟩ := spotX_mk (P := P) (ops := ops) (keep := keep) (m := bf.getD i 0) (o := o) (D := D) (now := now) (i := i) hg
          rw [if_neg (by rw [isBar_mk.1 (by simp)]; simp), if_neg (by rw [isRd_mk (by simp)]; simp), if_pos eq1, eq2] at H
          obtain ⟨v, b, blk, blk', O, hb, ha, hOn, hOl, hOb, hapt, H1⟩ := mkCO_spot hcall hg pl.loc H
          have hw : wantedA ops (cvU cv0 ops f i) o = some true := by unfold wantedA; rw [hg]
          -- the memory that reads are held against
          cases Hs with
          | nil => cases H1
          | cons e0 Hs =>
          obtain ⟨c0, t, n, low⟩ := e0
          replace H1 : t.setP (path b) none (fun t => chkRs (bf.getD i 0) Rs (.mk t n low) (runFree callf (mkCOs.go P ops keep true bf rest bs' (match o.dst with | some d => (d, .inl now) :: D | none => D) (now + 1) (i + 1)) (v :: L) (putE (dstP keep o) v env) (.mk h.tr h.nx (min h.lo b)) ((i, [(b, blk')]) :: fs) ((c0, .mk t n low) :: Hs) Rs k)) = .yes := H1
          rw [setP_eq] at H1
          obtain ⟨H2, hchk⟩ := chkRs_yes sr.rs H1
          obtain ⟨hseg, hci, hnbs, hrest⟩ := sr.hs
          let I : Hp := .mk (Tr.leaf.set (path b) (some blk)) h.nx h.nx
          let O' : Hp := .mk (Tr.leaf.set (path b) (some blk')) h.nx b
          let r : Option AV × Kd := (some v, .act .spot I O')
          have hl := setR_lt f i r
          have eR : setR f i r i = r := setR_same ..
          have hasI : (Kd.act .spot I O').has b := ⟨blk, by show (Tr.leaf.set (path b) (some blk)).get (path b) = _; rw [get_set, if_pos rfl]⟩
          have hasB : ∀ {b'}, (Kd.act .spot I O').has b' → b' = b := fun {b'} ⟨x, hx⟩ => (leaf_one hx).1
          have hbsi : BS bf c i = false := by
            cases hb : BS bf c i with
            | false => rfl
            | true => have := BS_lt op hb; omega
          have rem : ∀ {b' x}, (t.set (path b) none).get (path b') = some x → b' ≠ b ∧ t.get (path b') = some x := fun {b' x} hx => by
            rw [get_set] at hx
            split at hx
            · cases hx
            · rename_i hp
              exact ⟨fun e => hp (by rw [e]), hx⟩
          have seg' : SegIn P ops bf h0 (setR f i r) (.mk (t.set (path b) none) n low) c (i + 1) := by
            have s0 := hseg.congr op hl hci
            refine ⟨s0.nx, fun kn b' x hx => s0.tr kn b' x (rem hx).2, fun k a bb hs b' hb' => ?_⟩
            by_cases e : k = i
            · subst e
              rw [eR] at hb'
              rw [hasB hb']
              show (t.set (path b) none).get (path b) = none
              rw [get_set, if_pos rfl]
            · have := s0.no k a (by omega) hs b' hb'
              cases hx : (Hp.mk (t.set (path b) none) n low).tr.get (path b') with
              | none => rfl
              | some x =>
                have h3 := (rem hx).2
                rw [show (Hp.mk t n low).tr.get (path b') = t.get (path b') from rfl, h3] at this; cases this
          obtain ⟨s1, s2, s3⟩ := st.stay op r
          refine runFree_spec hcall op rest bs' _ _ (i + 1) c _ _ (.mk h.tr h.nx (min h.lo b)) ((i, [(b, blk')]) :: fs) ((c0, .mk (t.set (path b) none) n low) :: Hs) Rs k (setR f i r) hd' hb' ?_ (st.next op ho (.inl ⟨rfl, hnb⟩) ⟨fun hk => by (rw [eR] at hk; cases hk), fun q' I' O2 hk => ?_, fun q' I' O2 hk => ?_⟩ (fun q' I' O2 hk kn b' x hx => ?_) (fun k hk hc _ hm b' hb1 hb2 => ?_) (fun q' I' O2 hk => ?_) (fun j o' hj ho' hk q => ?_) rfl rfl s1 (fun e he => ?_) (fun k hk hc => ?_) (List.pairwise_cons.2 ⟨fun e he => (st.pend e he).1, st.srt⟩)) ⟨⟨seg', Nat.le_succ_of_le hci, fun k a bb => ?_, hrest.imp id fun ⟨d, c', g1, g2, g3, g4⟩ => ⟨d, c', g1, g2, g3, g4.congr op fun k hk => hl k (by omega)⟩⟩, sr.rs_, fun e he => Nat.lt_succ_of_lt (sr.lt e he), fun j o' hj ho' hk => ?_⟩ H2
          · rw [ecv1]; exact pl.push v
          · rw [eR] at hk ⊢
            injection hk with k1 k2 k3; subst k1; subst k2; subst k3
            rw [ecv, enx]
            refine ⟨⟨v, rfl, hw, ha.sub hq hOn.symm hOl.symm fun b' x hx => ?_⟩, rfl, Nat.le_refl _⟩
            obtain ⟨rfl, rfl⟩ := leaf_one hx
            exact hOb
          · rw [eR] at hk
            injection hk with k1 k2 k3; subst k1; subst k2; subst k3
            rw [enx]
            exact ⟨fun h => (by cases h), fun _ => rfl, fun h => by cases h⟩
          · injection hk with k1 k2 k3; subst k1; subst k2; subst k3
            obtain ⟨rfl, rfl⟩ := leaf_one hx
            exact st.flush op (A := ancS bf i) (fun k hk => op.lt_ i k hk) (anc_down op i) (st.below op hheld) kn hb
          · exfalso
            obtain rfl := hasB hb1
            obtain ⟨y, hy⟩ : ∃ y, ops[k]? = some y := ⟨_, List.getElem?_eq_getElem (by omega)⟩
            cases hfk : (f k).2 with
            | calm => rw [hfk] at hc; cases hc
            | act q I2 O2 =>
              have kd := st.is k y q I2 O2 hy hfk
              by_cases hqm : q = .mk
              · rw [hfk] at hb2
                obtain ⟨x, hx⟩ := hb2
                rw [kd.emp hqm b'] at hx; cases hx
              · by_cases hqs : q = .spot
                · obtain ⟨bq, g1, y', g2⟩ := kd.spot hqs
                  have hb2' := hb2
                  rw [hfk] at hb2'
                  obtain ⟨x, hx⟩ := hb2'
                  obtain rfl := g1 b' x hx
                  rcases st.all k hk hc with g | ⟨e, g3, g4, g5⟩
                  · have := st.below op hheld k g
                    rw [show ancS bf i k = inMask (bf.getD i 0) k from rfl, hm] at this; cases this
                  · exact hapt e g3 (by rw [g4]; exact hm) y' (g5 b' y' ⟨hc, .inl ⟨by rw [hfk, hqs]; rfl, hb2⟩⟩ (by rw [hfk]; exact g2))
                · have hh := kd_held hy kd hqm
                  obtain ⟨y2, g1, g2⟩ := hh
                  rw [hy] at g1; injection g1 with g1; subst g1
                  rcases cls_spot op.len ho hcl hy g2 (by omega) (fun m' e => by
                    have := kd.cls
                    cases q with
                    | bar => obtain ⟨m2, e2⟩ := this; rw [e] at e2; cases e2
                    | gen => obtain ⟨m2, e2⟩ := this; rw [e] at e2; cases e2
                    | mk => exact hqm rfl
                    | spot => exact hqs rfl) with h | h
                  · have := op.lt_ k i h; omega
                  · rw [hm] at h; cases h
          · injection hk with k1 k2 k3; subst k1; subst k2; subst k3
            exact ⟨Nat.le_refl _, by rw [hcl]; exact ⟨_, rfl⟩, (fun h => by cases h), fun _ => ⟨b, fun b' x hx => (leaf_one hx).1, blk', by show (Tr.leaf.set (path b) (some blk')).get (path b) = _; rw [get_set, if_pos rfl]⟩⟩
          · rcases sr.all j o' hj ho' hk with g | g
            · exact .inl g
            · refine .inr (q.next op hj fun v' xs' g1 g2 cc c1 c2 c4 hc => ?_)
              rcases hc with rfl | ⟨-, hmj, hno⟩
              · exact absurd (c2 i rfl) hnb
              · have hcc : cc = c := by
                  rcases Nat.lt_trichotomy cc c with h5 | h5 | h5
                  · cases c with
                    | zero => omega
                    | succ d => exact absurd (st.cb d rfl) (hno d (by omega) (by omega))
                  · exact h5
                  · cases cc with
                    | zero => omega
                    | succ d =>
                      by_cases hdi : d = i
                      · subst hdi; exact absurd (c2 d rfl) hnb
                      · exact absurd (c2 d rfl) (st.nb d (by omega) (by omega))
                subst hcc
                rcases g with ⟨k', k1, k2, k3⟩ | ⟨e, he, hej⟩
                · have : k' < cc := Classical.byContradiction fun hn => st.nb k' (by omega) k1 k2
                  rw [c4 k' k2 this] at k3; cases k3
                · rcases hchk e he with g3 | ⟨o2, v2, xs2, q1, q2, q3, q4⟩
                  · rw [hej, hmj] at g3; cases g3
                  · rw [hej] at q1 q2 q3
                    rw [ho'] at q1; injection q1 with q1; subst q1
                    rw [g1] at q2; injection q2 with q2; subst q2
                    rw [g2] at q3; injection q3 with q3; subst q3
                    exact ⟨_, q4, seg'.nx, seg'.tr, fun k a bb hs _ _ => seg'.no k a bb hs⟩
          · rcases List.mem_cons.1 he with rfl | he
            · refine ⟨Nat.lt_succ_self i, hbsi, fun b' x hm => ?_⟩
              obtain ⟨rfl, rfl⟩ : b' = b ∧ x = blk' := by simpa using hm
              refine ⟨⟨by rw [eR]; rfl, .inl ⟨by rw [eR]; rfl, by rw [eR]; exact hasI⟩⟩, ?_⟩
              rw [eR]
              show (Tr.leaf.set (path b') (some x)).get (path b') = _
              rw [get_set, if_pos rfl]
            · exact s2 e he
          · by_cases e : k = i
            · subst e
              refine .inr ⟨_, List.mem_cons_self .., rfl, fun b' x hm hx => ?_⟩
              rw [eR] at hx
              obtain ⟨rfl, rfl⟩ := leaf_one (show (Tr.leaf.set (path b) (some blk')).get (path b') = some x from hx)
              exact List.mem_cons_self ..
            · rcases s3 k (by omega) hc with h | ⟨e', h1, h2, h3⟩
              · exact .inl h
              · exact .inr ⟨e', List.mem_cons_of_mem _ h1, h2, h3⟩
          · by_cases e : k = i
            · rw [e]; exact hnb
            · exact hnbs k a (by omega)
          · by_cases e : j = i
            · subst e
              rw [eR] at hk; cases hk
            · rw [setR_ne e] at hk ⊢
              rw [← cvU_congr j (fun k hk => hl k (by omega))]
              rcases sr.all j o' (by omega) ho' hk with g | ⟨k', g1, g2, g3⟩ | ⟨e', g1, g2⟩
              · exact .inl g
              · exact .inr (.inl ⟨k', by omega, g2, g3⟩)
              · exact .inr (.inr ⟨e', g1, g2⟩)
      | free m =>
        rw [hcl] at his H
        cases his with
        | free hq hrd hmk hbb hst =>
          have hnb := barI hcl (by simp)
          have hheld : HeldC P ops bf i := ⟨o, ho, by rw [hcl]; rfl⟩
          rw [if_neg (by rw [isBar_mk.1 (by simp)]; simp), if_neg (by rw [isRd_mk (by simp)]; simp), if_neg (by rw [spotQ_mk (by simp)]; simp)] at H
          rcases mkCO_free hcall (.inl ⟨rfl, rfl⟩) pl.loc H with ⟨v, O, hw, ha, h1, h2, H1⟩ | ⟨hw, H1⟩
          · obtain ⟨s1, s2⟩ := newCase .gen (flushT (fun j => inMask (bf.getD i 0) j) fs h.tr) v O (.inl rfl) hnb hw ha h1 h2 ⟨by rw [hcl]; exact ⟨_, rfl⟩, (fun h => by cases h), (fun h => by cases h)⟩
                (fun kn b x hx => st.flush op (A := ancS bf i) (fun k hk => op.lt_ i k hk) (anc_down op i) (st.below op hheld) kn hx) (fun k hki hc hm b x _ hb' => by
              cases hk : (f k).2 with
              | calm => rw [hk] at hc; cases hc
              | act q I O' =>
                obtain ⟨y, hy⟩ : ∃ y, ops[k]? = some y := ⟨_, List.getElem?_eq_getElem (by omega)⟩
                have kd := st.is k y q I O' hy hk
                cases q with
                | gen => rfl
                | mk => rfl
                | bar =>
                  obtain ⟨m', e⟩ := kd.cls
                  have := (bar_ord op ⟨y, m', hy, e⟩ hheld).2 hki
                  rw [hm] at this; cases this
                | spot =>
                  obtain ⟨m', e⟩ := kd.cls
                  rcases cls_spot op.len hy e ho (by rw [hcl]; rfl) (by omega) (by rw [hcl]; simp) with h | h
                  · rw [hm] at h; cases h
                  · have := op.lt_ k i h; omega)
            refine runFree_spec hcall op rest bs' _ _ (i + 1) c _ _ _ _ Hs Rs k _ hd' hb' ?_ s1 s2 H1
            rw [ecv1]; exact pl.push v
          · have hca : CalmAt P ops o (cvU cv0 ops f i) (some (.tup [])) := .inr (.inl ⟨hw, rfl⟩)
            refine runFree_spec hcall op rest bs' _ _ (i + 1) c _ _ h fs Hs Rs k (setR f i (some (.tup []), .calm)) hd' hb' ?_ (calmSt _ hnb hca) (calmSr _ hnb hca) H1
            rw [ecv1]; exact pl.push _
theorem doCO_fs (callf : CallF) : ∀ (o : CO) (L : List AV) (env : Tr AV) (h : Hp) (fs : Frees) (k : Option Pa → AV → Hp → Frees → Ans), isFree o = false → doCO callf o L env h fs k = doCO callf o L env h fs (fun d v h _ => k d v h fs)
  | .mv _ _, L, env, h, fs, k, _ => rfl
  | .o1 _ _ _, L, env, h, fs, k, _ => rfl
  | .o2 _ _ _ _, L, env, h, fs, k, _ => rfl
  | .on _ _ _, L, env, h, fs, k, _ => rfl
  | .call _ _, L, env, h, fs, k, _ => rfl
  | .grd r want o d, L, env, h, fs, k, hf => by
    show rfK r L env (fun v => doCO.onGuard v want (doCO callf o L env h fs k) (k d (.tup []) h fs)) = rfK r L env (fun v => doCO.onGuard v want (doCO callf o L env h fs fun d v h _ => k d v h fs) (k d (.tup []) h fs))
    rw [doCO_fs callf o L env h fs k hf]
  | .free _ _ _ _, L, env, h, fs, k, hf => by cases hf
  | .rd _ _ _, _, _, _, _, _, hf => by cases hf
  | .bar _ _ o, L, env, h, fs, k, hf => by
    show doCO callf o L env h fs (fun d v h' fs => doCO.grown h h' (k d v h' fs)) = doCO callf o L env h fs (fun d v h' _ => doCO.grown h h' (k d v h' fs))
    exact doCO_fs callf o L env h fs _ hf
  | .bad _, L, env, h, fs, k, _ => rfl
theorem rd_free : ∀ {o : CO}, isFree o = false → isRd o = false
  | .mv _ _, _ => rfl
  | .o1 _ _ _, _ => rfl
  | .o2 _ _ _ _, _ => rfl
  | .on _ _ _, _ => rfl
  | .call _ _, _ => rfl
  | .grd _ _ _ _, _ => rfl
  | .free _ _ _ _, h => by cases h
  | .rd _ _ _, h => by cases h
  | .bar _ _ _, _ => rfl
  | .bad _, _ => rfl
theorem spot_free : ∀ {o : CO}, isFree o = false → spotQ o = false
  | .mv _ _, _ => rfl
  | .o1 _ _ _, _ => rfl
  | .o2 _ _ _ _, _ => rfl
  | .on _ _ _, _ => rfl
  | .call _ _, _ => rfl
  | .grd _ _ _ _, _ => rfl
  | .free _ _ _ _, h => by cases h
  | .rd _ _ _, _ => rfl
  | .bar _ _ _, _ => rfl
  | .bad _, _ => rfl
theorem runFree_seq (callf : CallF) : ∀ (os : List CO) (L : List AV) (env : Tr AV) (h : Hp) (Hs : List (Nat × Hp)) (k : Tr AV → Hp → Ans), os.any isFree = false → runFree callf os L env h [] Hs [] k = runSeq callf os L env h k
  | [], L, env, h, Hs, k, _ => rfl
  | o :: os, L, env, h, Hs, k, hf => by
    rw [List.any_cons, Bool.or_eq_false_iff] at hf
    rw [runFree_cons, runSeq_cons]
    have ih := fun L env h Hs => runFree_seq callf os L env h Hs k hf.2
    have er : ∀ (m : Nat) (h : Hp) (k : Rds → Ans), allRs m [] h k = k [] := fun _ _ _ => rfl
    rw [rd_free hf.1, spot_free hf.1]
    have eh : ∀ m, Hp.mk (flushT (fun j => inMask m j) [] h.tr) h.nx h.lo = h := fun m => by cases h; rfl
    have ek : ∀ m, keepT m [] = [] := fun m => rfl
    rw [eh, ek]
    simp only [er, ih, Bool.false_eq_true, if_false]
    split
    · rfl
    · rw [doCO_fs callf o L env h [] _ hf.1]
      simp only [ih]
/-- REGIONS DO WHAT IS SAID. -/
theorem regOK (hm : P.follows .mixedOrders = true) (callf : CallF) (hcall : CallSound P callf) (N keep : Nat) : RegOK P callf N keep := by
  intro id ops draw os env h k hcomp H hK
  have dok : ∀ {ops : List Oper}, dstOk N ops = true → ∀ o ∈ ops, ∀ d, o.dst = some d → d < N := fun {ops} h o ho d hd => by
    have := List.all_eq_true.1 h o ho
    rw [hd] at this
    simpa using this
  have pl0 : ∀ {rest}, Pl P keep rest [] 0 [] env (fun t => env.get (path t)) := fun {rest} => ⟨⟨rfl, fun t av h => h⟩, hK, fun t av h => h, fun e he => by cases he⟩
  have hcv : ∀ {ds β a w}, Rel N ds β env h a w → CvR β (fun t => env.get (path t)) a.tmps := fun hr t av ht => hr.env t av ht
  unfold compR at hcomp
  split at hcomp
  · cases hcomp
  · rename_i hdst
    injection hcomp with hcomp
    subst hcomp
    have hnf : (mkCOs P ops.toList keep false (ops.toList.map fun _ => 0)).any isFree = false := by
      unfold mkCOs
      have hbare : ∀ (o : Oper) D now, isFree (bareCO P keep o D now) = false := fun o D now => by
        unfold bareCO
        split <;> try rfl
        unfold bareOf
        split <;> rfl
      have : ∀ (rest : List Oper) (bs : List Nat) (D : Dl) (now i : Nat), (mkCOs.go P ops.toList keep false (ops.toList.map fun _ => 0) rest bs D now i).any isFree = false := by
        intro rest
        induction rest with
        | nil => intro bs D now i; cases bs <;> rfl
        | cons o rest ih =>
          intro bs D now i
          cases bs with
          | nil => rfl
          | cons b bs =>
            rw [mkCOs.go]
            split
            · exact ih _ _ _ _
            · rw [List.any_cons, ih, Bool.or_false]
              unfold mkCO
              split
              · exact hbare _ _ _
              · split
                · exact hbare _ _ _
                · rfl
      exact this _ _ _ _ _
    unfold runR at H
    rw [hnf] at H
    obtain ⟨env', h', H', hK', hw⟩ := seq_sound hcall (N := N) ops.toList _ [] 0 0 [] env _ h k (by simp) (dok hdst) pl0 H
    exact ⟨env', h', H', hK', fun ds β a w hr hg => wp_region_list (hw ds β a w hr.hr (hcv hr) hr.size hr.defers hg _ fun a' w' hp => ⟨rfl, hp⟩)⟩
  · rename_i hdst
    split at hcomp
    · rename_i hopen
      injection hcomp with hcomp
      have op := openOk_spec hopen
      have H : runFree callf os [] env h [] [(0, h)] [] k = .yes := by
        unfold runR at H
        cases hf : os.any isFree with
        | true => rw [hf] at H; exact H
        | false => rw [hf] at H; rw [runFree_seq callf os [] env h [(0, h)] k hf]; exact H
      subst hcomp
      have pt0 : Pt (befores ops.toList) h (fun _ => ((none, .calm) : Option AV × Kd)) := by
        have nx : ∀ i, nxU h (fun _ => ((none, .calm) : Option AV × Kd)) i = h.nx := by
          intro i
          induction i with
          | zero => rfl
          | succ i ih => exact ih
        exact ⟨fun i j _ => by rw [nx, nx]; exact Nat.le_refl _, (fun i q I O hk => by cases hk), (fun i k _ hk => by cases hk), op.trs, op.lt_⟩
      obtain ⟨f, env', h', H', hK', hpt, his, hrc, hout, hs, hn, hl, he⟩ := runFree_spec hcall op (cv0 := fun t => env.get (path t)) (h0 := h) ops.toList _ [] 0 0 0 [] env h [] [(0, h)] [] k (fun _ => (none, .calm)) rfl rfl pl0
        ⟨Nat.zero_le _, Nat.le_refl _, fun d e => (by omega), fun k a b => (by omega), rfl, rfl, fun _ b x hx => ⟨0, Nat.le_refl _, .inl ⟨rfl, hx⟩, fun k _ hb => by cases hb⟩, fun e he => (by cases he), fun k hk => (by omega), List.Pairwise.nil, pt0, fun j o hj => (by omega), fun k y q I O _ hk => (by cases hk), fun j _ => rfl⟩
        ⟨⟨⟨rfl, fun _ b x hx => ⟨0, Nat.le_refl _, .inl ⟨rfl, hx⟩, fun k _ hb => by cases hb⟩, fun k a b => (by omega)⟩, Nat.le_refl _, fun k a b => (by omega), .inl ⟨rfl, rfl⟩⟩, fun e he => (by cases he), fun e he => (by cases he), fun j o hj => (by omega)⟩ H
      refine ⟨env', h', H', hK', fun ds β a w hr hg => ?_⟩
      have rg : (∀ b x, h.tr.get (path b) = some x → b < h.nx) → Rg P ops.toList (befores ops.toList) (fun t => env.get (path t)) h f N := fun h0b => ⟨fun i o ho => ⟨fun hk => ((hrc i o ho).calm hk).imp (fun h => h) fun q => q.to op hpt his hout, (hrc i o ho).act, (hrc i o ho).lo, fun q I O hk => hpt.src i q I O hk, fun k hk hc hc' => hpt.ap i k hk hc hc'⟩, hout, op.dn, op.bfs, op.trs, op.lt_, op.ap, fun i d hd => by
        obtain ⟨o, h1, h2⟩ := dstAt_some hd
        exact dok hdst o (List.mem_of_getElem? h1) d h2, h0b, fun i k hi hk hki => by
        have bc : ∀ {i}, (f i).2.isBar = true → BarC P ops.toList (befores ops.toList) i := fun {i} hi => by
          by_cases hlt : i < ops.toList.length
          · have hy := List.getElem?_eq_getElem hlt
            cases hfi : (f i).2 with
            | calm => rw [hfi] at hi; cases hi
            | act q I O =>
              rw [hfi] at hi
              have := (his i _ q I O hy hfi).cls
              cases q with
              | bar => obtain ⟨m, e⟩ := this; exact ⟨_, m, hy, e⟩
              | gen => cases hi
              | mk => cases hi
              | spot => cases hi
          · rw [hout i (by omega)] at hi; cases hi
        exact (bar_ord op (bc hi) (bc hk).held).1 hki⟩
      exact region_any hm rg rfl hs hn hl he hr.hr hg (hcv hr) hr.size hr.defers id
    · cases hcomp
end Go.Ev
