/- The evaluator's regions do what is said. -/
import Derived.Test.YtojombahfmicbaaGreatDoorEvZ
set_option linter.unusedVariables false
set_option linter.unusedSectionVars false
set_option linter.unusedSimpArgs false
namespace Go.Ev
variable [Sg] [Sl]
open Go.RowKit
variable {P : Program}

section
variable {ops : List Oper} {bf : List Nat} {cv0 : Cv} {h0 : Hp} {f f' : Rcs} {i : Nat} {o : Oper}
theorem cvU_congr : ∀ i, (∀ k, k < i → f k = f' k) → cvU cv0 ops f i = cvU cv0 ops f' i
  | 0, _ => rfl
  | i + 1, h => by unfold cvU; rw [cvU_congr i (fun k hk => h k (by omega)), h i (by omega)]
theorem nxU_congr : ∀ i, (∀ k, k < i → f k = f' k) → nxU h0 f i = nxU h0 f' i
  | 0, _ => rfl
  | i + 1, h => by unfold nxU; rw [nxU_congr i (fun k hk => h k (by omega)), h i (by omega)]
theorem bsU_congr : ∀ i, (∀ k, k < i → f k = f' k) → bsU h0 f i = bsU h0 f' i
  | 0, _ => rfl
  | i + 1, h => by unfold bsU; rw [bsU_congr i (fun k hk => h k (by omega)), h i (by omega)]
theorem Src.congr {p : Nat → Bool} {b : Hp} {t : Tr Blk} (h : ∀ k, k < i → f k = f' k) (s : Src f p i b t) : Src f' p i b t := fun n x hx => by
  rcases s n x hx with h1 | ⟨j, I, O, h1, h2, h3, h4, h5⟩
  · exact .inl h1
  · exact .inr ⟨j, I, O, h1, h2, by rw [← h j h1]; exact h3, fun k a c => by rw [← h k c]; exact h4 k a c, h5⟩
theorem CutAt.congr {c : Nat} (h : ∀ k, k < c → f k = f' k) (hc : CutAt f' c) : CutAt f c := by
  rcases hc with hc | ⟨d, hd, hb⟩
  · exact .inl hc
  · exact .inr ⟨d, hd, by rw [h d (by omega)]; exact hb⟩
theorem ReadTo.congr {m : Nat} (op : Opn ops bf) (ho : ops[i]? = some o) (hm : ∀ k, k < m → f k = f' k) (him : i < m) (r : ReadTo P ops bf cv0 h0 f m i o) : ReadTo P ops bf cv0 h0 f' m i o := by
  have hl : ∀ k, k < i → f k = f' k := fun k hk => hm k (by omega)
  obtain ⟨h1, v, xs, h2, h3, h4, h5, h6⟩ := r
  rw [cvU_congr (cv0 := cv0) (ops := ops) i hl] at h1 h3
  rw [nxU_congr (h0 := h0) i hl] at h4 h5
  refine ⟨h1, v, xs, by rw [← hm i him]; exact h2, h3, h4, h5, fun c hc hcut hkb hk => ?_⟩
  have hlc : ∀ k, k < c → f k = f' k := fun k hk => hm k (by omega)
  rw [← bsU_congr (h0 := h0) c hlc, ← nxU_congr (h0 := h0) c hlc]
  refine h6 c hc (hcut.congr hlc) (fun k hb hkm => ?_) fun k hkc hb => hk k hkc (by rw [← hlc k hkc]; exact hb)
  have hki : k < i := op.lt i o k ho hkm
  exact hkb k (by rw [← hl k hki]; exact hb) hkm
theorem RcAt.congr {m : Nat} (op : Opn ops bf) (ho : ops[i]? = some o) (h : ∀ k, k < m → f k = f' k) (him : i < m) (r : RcAt P ops bf cv0 h0 f m i o) : RcAt P ops bf cv0 h0 f' m i o := by
  have hl : ∀ k, k < i → f k = f' k := fun k hk => h k (by omega)
  have e := h i him
  have e1 := cvU_congr (cv0 := cv0) (ops := ops) i hl
  have e2 := nxU_congr (h0 := h0) i hl
  have e3 := bsU_congr (h0 := h0) i hl
  refine ⟨fun hk => ?_, fun I O hk => ?_, fun I O hk => ?_, fun hk j hj hc hb => ?_⟩
  · rw [← e] at hk
    rcases r.calm hk with hc | hc
    · left; rw [← e, ← e1]; exact hc
    · exact .inr (hc.congr op ho h him)
  · rw [← e] at hk ⊢
    rw [← e1, ← e2, ← e3]
    obtain ⟨h1, h2, h3, h4⟩ := r.bar I O hk
    exact ⟨h1, h2, h3.congr hl, h4⟩
  · rw [← e] at hk ⊢
    rw [← e1, ← e2, ← e3]
    obtain ⟨h2, h3, h4⟩ := r.free I O hk
    exact ⟨h2, h3.congr hl, h4⟩
  · rw [← e] at hk hb
    rw [← h j (by omega)] at hc hb
    exact r.ord hk j hj hc hb
def setR (f : Rcs) (i : Nat) (r : Option AV × Kd) : Rcs := fun j => if j = i then r else f j
theorem setR_same (f : Rcs) (i : Nat) (r : Option AV × Kd) : setR f i r i = r := if_pos rfl
theorem setR_ne {f : Rcs} {i j : Nat} {r : Option AV × Kd} (h : j ≠ i) : setR f i r j = f j := if_neg h
theorem setR_lt (f : Rcs) (i : Nat) (r : Option AV × Kd) : ∀ k, k < i → f k = setR f i r k := fun k h => (setR_ne (by omega)).symm
/-- Where a run stands. -/
structure St (P : Program) (ops : List Oper) (bf : List Nat) (cv0 : Cv) (h0 : Hp) (f : Rcs) (i : Nat) (h : Hp) (fs : Frees) : Prop where
  le : i ≤ ops.length
  nx : h.nx = nxU h0 f i
  tr : h.tr = (bsU h0 f i).tr
  lo : h.lo = (bsU h0 f i).lo
  fs : ∀ e ∈ fs, ∃ I O, e.1 < i ∧ (f e.1).2 = .free I O ∧ (∀ k, e.1 ≤ k → k < i → (f k).2.isBar = false) ∧ ∀ b x, (b, x) ∈ e.2 → I.nx ≤ b ∧ b < O.nx ∧ O.tr.get (path b) = some x
  rc : ∀ j o, j < i → ops[j]? = some o → RcAt P ops bf cv0 h0 f i j o
  cls : ∀ j o, j < i → ops[j]? = some o → (f j).2.isCalm = false → (quietOp P o.op = false ∧ rdB ops bf j o (bf.getD j 0) = false) ∧ ((f j).2.isBar = true → clsOf P ops bf j o (bf.getD j 0) = .bar (bf.getD j 0))
  out : ∀ j, i ≤ j → (f j).2 = .calm
theorem St.src {h : Hp} {fs : Frees} (s : St P ops bf cv0 h0 f i h fs) (p : Nat → Bool) : Src f p i (bsU h0 f i) (flushT p fs h.tr) := fun b x hx => by
  rcases flushT_get hx with h1 | ⟨e, h1, h2, h3⟩
  · rw [s.tr] at h1; exact .inl h1
  · obtain ⟨I, O, h4, h5, h6, h7⟩ := s.fs e h1
    exact .inr ⟨e.1, I, O, h4, h2, h5, h6, h7 b x h3⟩
theorem St.ord (op : Opn ops bf) {h : Hp} {fs : Frees} (s : St P ops bf cv0 h0 f i h fs) (ho : ops[i]? = some o) {r : Option AV × Kd} (hcls : r.2.isCalm = false → (quietOp P o.op = false ∧ rdB ops bf i o (bf.getD i 0) = false) ∧ (r.2.isBar = true → clsOf P ops bf i o (bf.getD i 0) = .bar (bf.getD i 0))) :
    (setR f i r i).2.isCalm = false → ∀ j, j < i → (setR f i r j).2.isCalm = false → ((setR f i r i).2.isBar = true ∨ (setR f i r j).2.isBar = true) → inMask (bf.getD i 0) j = true := by
  intro hc j hj hcj hb
  rw [setR_same] at hc hb
  rw [setR_ne (by omega)] at hcj hb
  obtain ⟨y, hy⟩ : ∃ y, ops[j]? = some y := ⟨_, List.getElem?_eq_getElem (by have := s.le; omega)⟩
  obtain ⟨q1, q2⟩ := hcls hc
  obtain ⟨q3, q4⟩ := s.cls j y hj hy hcj
  have no : inMask (bf.getD j 0) i = true → False := fun h => by have := op.lt j y i hy h; omega
  rcases hb with hb | hb
  · rcases cls_bar op.len (q2 hb) hy q3.1 q3.2 (by omega) with h | h
    · exact (no h).elim
    · exact h
  · rcases cls_bar op.len (q4 hb) ho q1.1 q1.2 (by omega) with h | h
    · exact h
    · exact (no h).elim
theorem St.next (op : Opn ops bf) {h h' : Hp} {fs fs' : Frees} (s : St P ops bf cv0 h0 f i h fs) (ho : ops[i]? = some o) {r : Option AV × Kd} (hrc : RcAt P ops bf cv0 h0 (setR f i r) (i + 1) i o)
    (hup : r.2.isBar = true → ∀ j o', j < i → ops[j]? = some o' → (f j).2 = .calm → CalmAt P ops o' (cvU cv0 ops f j) (f j).1 ∨ (∃ k, k < i + 1 ∧ (setR f i r k).2.isBar = true ∧ inMask (bf.getD k 0) j = true) ∨ ∃ v xs, (f j).1 = some v ∧ opnds P (cvU cv0 ops f j) o'.op.operands.toList = some xs ∧ ReadIn P o' xs v h')
    (hcls : r.2.isCalm = false → (quietOp P o.op = false ∧ rdB ops bf i o (bf.getD i 0) = false) ∧ (r.2.isBar = true → clsOf P ops bf i o (bf.getD i 0) = .bar (bf.getD i 0)))
    (h1 : h'.nx = r.2.nx h.nx) (h2 : h'.tr = (r.2.bs h).tr) (h3 : h'.lo = (r.2.bs h).lo)
    (h4 : ∀ e ∈ fs', (e ∈ fs ∧ r.2.isBar = false) ∨ ∃ I O, e.1 = i ∧ r.2 = .free I O ∧ ∀ b x, (b, x) ∈ e.2 → I.nx ≤ b ∧ b < O.nx ∧ O.tr.get (path b) = some x) : St P ops bf cv0 h0 (setR f i r) (i + 1) h' fs' := by
  have hl := setR_lt f i r
  have enx : nxU h0 (setR f i r) (i + 1) = r.2.nx h.nx := by
    show (setR f i r i).2.nx (nxU h0 (setR f i r) i) = _
    rw [setR_same, ← nxU_congr i hl, s.nx]
  have ebs : ∀ (g : Hp → Tr Blk), (g = Hp.tr) → g (bsU h0 (setR f i r) (i + 1)) = g (r.2.bs h) := fun g hg => by
    subst hg
    show ((setR f i r i).2.bs (bsU h0 (setR f i r) i)).tr = _
    rw [setR_same, ← bsU_congr i hl]
    cases r.2 with
    | bar I O => rfl
    | calm => exact s.tr.symm
    | free I O => exact s.tr.symm
  have elo : (bsU h0 (setR f i r) (i + 1)).lo = (r.2.bs h).lo := by
    show ((setR f i r i).2.bs (bsU h0 (setR f i r) i)).lo = _
    rw [setR_same, ← bsU_congr i hl]
    cases r.2 with
    | bar I O => rfl
    | calm => exact s.lo.symm
    | free I O => exact s.lo.symm
  refine ⟨(List.getElem?_eq_some_iff.1 ho).1, by rw [enx, h1], by rw [ebs _ rfl, h2], by rw [elo, h3], fun e he => ?_, fun j o' hj ho' => ?_, fun j o' hj ho' hc => ?_, fun j hj => ?_⟩
  · rcases h4 e he with ⟨he, hb⟩ | ⟨I, O, h5, h6, h7⟩
    · obtain ⟨I, O, h5, h6, h7, h8⟩ := s.fs e he
      refine ⟨I, O, by omega, by rw [setR_ne (by omega)]; exact h6, fun k a b => ?_, h8⟩
      by_cases hk : k = i
      · rw [hk, setR_same]; exact hb
      · rw [setR_ne hk]; exact h7 k a (by omega)
    · refine ⟨I, O, by omega, by rw [h5, setR_same]; exact h6, fun k a b => ?_, h7⟩
      rw [show k = i by omega, setR_same, h6]; rfl
  · by_cases e : j = i
    · subst e; rw [ho] at ho'; injection ho' with ho'; subst ho'; exact hrc
    · have hj' : j < i := by omega
      have hrj := (s.rc j o' hj' ho').congr (f' := setR f i r) op ho' hl hj'
      refine ⟨fun hk => ?_, hrj.bar, hrj.free, hrj.ord⟩
      have hk' : (f j).2 = .calm := by rw [setR_ne (by omega)] at hk; exact hk
      have ecj : cvU cv0 ops (setR f i r) j = cvU cv0 ops f j := (cvU_congr j (fun k hk => hl k (by omega))).symm
      rcases hrj.calm hk with hc | hc
      · exact .inl hc
      · by_cases hca : CalmAt P ops o' (cvU cv0 ops f j) (f j).1
        · left; rw [ecj, setR_ne (by omega)]; exact hca
        right
        obtain ⟨g1, v, xs, g2, g3, g4, g5, g6⟩ := hc
        refine ⟨g1, v, xs, g2, g3, g4, g5, fun c hc hcut hkb hkk => ?_⟩
        by_cases hci : c ≤ i
        · exact g6 c hci hcut hkb hkk
        · obtain rfl : c = i + 1 := by omega
          rcases hcut with h | ⟨d, hd, hb⟩
          · omega
          · have hdi : d = i := by omega
            rw [hdi] at hb
            have hb' : r.2.isBar = true := by rw [setR_same] at hb; exact hb
            rcases hup hb' j o' hj' ho' hk' with hm | ⟨k, hk1, hk2, hm⟩ | ⟨v', xs', p1, p2, p3⟩
            · exact absurd hm hca
            · rw [hkk k hk1 hk2] at hm; cases hm
            · rw [setR_ne (by omega), p1] at g2; injection g2 with g2; subst g2
              rw [ecj, p2] at g3; injection g3 with g3; subst g3
              have ht : (bsU h0 (setR f i r) (i + 1)).tr = h'.tr := by rw [ebs _ rfl, h2]
              exact ⟨by show nxU _ _ _ ≤ _; rw [enx, ← h1]; exact p3.nx, by rw [show (Hp.mk (bsU h0 (setR f i r) (i + 1)).tr (nxU h0 (setR f i r) (i + 1)) 0).tr = h'.tr from ht]; exact p3.does⟩
  · by_cases e : j = i
    · subst e; rw [ho] at ho'; injection ho' with ho'; subst ho'
      rw [setR_same] at hc ⊢; exact hcls hc
    · rw [setR_ne e] at hc ⊢; exact s.cls j o' (by omega) ho' hc
  · rw [setR_ne (by omega)]; exact s.out j (by omega)
end
/-- What is kept of memories and of reads. -/
structure Sr (P : Program) (ops : List Oper) (bf : List Nat) (cv0 : Cv) (h0 : Hp) (f : Rcs) (i : Nat) (Hs : List (Nat × Hp)) (Rs : Rds) : Prop where
  hs : HsR f h0 Hs i
  rs : RdQ (fun j H => ∃ o v xs, ops[j]? = some o ∧ (f j).1 = some v ∧ opnds P (cvU cv0 ops f j) o.op.operands.toList = some xs ∧ ReadIn P o xs v H) Rs
  lt : ∀ e ∈ Rs, e.1 < i
  all : ∀ j o, j < i → ops[j]? = some o → (f j).2 = .calm → CalmAt P ops o (cvU cv0 ops f j) (f j).1 ∨ (∃ k, k < i ∧ (f k).2.isBar = true ∧ inMask (bf.getD k 0) j = true) ∨ ∃ e ∈ Rs, e.1 = j
section
variable {ops : List Oper} {bf : List Nat} {cv0 : Cv} {h0 : Hp} {f : Rcs} {i : Nat} {o : Oper} {Hs : List (Nat × Hp)} {Rs : Rds}
theorem HsR.congr {f' : Rcs} : ∀ {Hs : List (Nat × Hp)} {i : Nat}, (∀ k, k < i → f k = f' k) → HsR f h0 Hs i → HsR f' h0 Hs i
  | [], _, _, h => h
  | e :: Hs, i, hl, h => by
    rcases h with ⟨h1, h2, h3⟩ | ⟨h1, h2, h3, h4, h5, h6⟩
    · exact .inl ⟨h1, fun k hk => by rw [← hl k hk]; exact h2 k hk, h3⟩
    · have hl' : ∀ k, k < e.1 + 1 → f k = f' k := fun k hk => hl k (by omega)
      refine .inr ⟨h1, by rw [← hl e.1 h1]; exact h2, fun k a b => by rw [← hl k b]; exact h3 k a b, ?_, ?_, h6.congr fun k hk => hl k (by omega)⟩
      · rw [← bsU_congr (h0 := h0) _ hl']; exact h4
      · rw [← nxU_congr (h0 := h0) _ hl']; exact h5
theorem HsR.succ (hb : (f i).2.isBar = false) : ∀ {Hs : List (Nat × Hp)}, HsR f h0 Hs i → HsR f h0 Hs (i + 1)
  | [], h => h
  | e :: Hs, h => by
    have up : ∀ {k}, k < i + 1 → k < i ∨ k = i := fun {k} h => by omega
    rcases h with ⟨h1, h2, h3⟩ | ⟨h1, h2, h3, h4⟩
    · exact .inl ⟨h1, fun k hk => by
        rcases up hk with h | rfl
        · exact h2 k h
        · exact hb, h3⟩
    · exact .inr ⟨by omega, h2, fun k a b => by
        rcases up b with h | rfl
        · exact h3 k a h
        · exact hb, h4⟩
theorem Sr.old {r : Option AV × Kd} (s : Sr P ops bf cv0 h0 f i Hs Rs) : HsR (setR f i r) h0 Hs i := s.hs.congr fun k hk => setR_lt f i r k hk
theorem Sr.rs_ {r : Option AV × Kd} (s : Sr P ops bf cv0 h0 f i Hs Rs) : RdQ (fun j H => ∃ o v xs, ops[j]? = some o ∧ (setR f i r j).1 = some v ∧ opnds P (cvU cv0 ops (setR f i r) j) o.op.operands.toList = some xs ∧ ReadIn P o xs v H) Rs := fun e he H y hy => by
  obtain ⟨h1, o, v, xs, h2, h3, h4, h5⟩ := s.rs e he H y hy
  have hlt := s.lt e he
  exact ⟨h1, o, v, xs, h2, by rw [setR_ne (by omega)]; exact h3, by rw [← cvU_congr e.1 (fun k hk => setR_lt f i r k (by omega))]; exact h4, h5⟩
theorem Sr.all_ {r : Option AV × Kd} (s : Sr P ops bf cv0 h0 f i Hs Rs) {j : Nat} {o' : Oper} (hj : j < i) (ho : ops[j]? = some o') (hk : (setR f i r j).2 = .calm) : CalmAt P ops o' (cvU cv0 ops (setR f i r) j) (setR f i r j).1 ∨ (∃ k, k < i ∧ (setR f i r k).2.isBar = true ∧ inMask (bf.getD k 0) j = true) ∨ ∃ e ∈ Rs, e.1 = j := by
  rw [setR_ne (by omega)] at hk
  rcases s.all j o' hj ho hk with h | ⟨k, h1, h2, h3⟩ | h
  · left; rw [setR_ne (by omega), ← cvU_congr j (fun k hk => setR_lt f i r k (by omega))]; exact h
  · exact .inr (.inl ⟨k, h1, by rw [setR_ne (by omega)]; exact h2, h3⟩)
  · exact .inr (.inr h)
theorem Sr.calm (s : Sr P ops bf cv0 h0 f i Hs Rs) {r : Option AV × Kd} (hb : r.2.isBar = false) (hc : r.2 = .calm → ∀ o, ops[i]? = some o → CalmAt P ops o (cvU cv0 ops f i) r.1) : Sr P ops bf cv0 h0 (setR f i r) (i + 1) Hs Rs := by
  refine ⟨(s.old (r := r)).succ (by rw [setR_same]; exact hb), s.rs_, fun e he => Nat.lt_succ_of_lt (s.lt e he), fun j o' hj ho' hk => ?_⟩
  · by_cases e : j = i
    · subst e
      left
      rw [setR_same] at hk ⊢
      rw [← cvU_congr j (setR_lt f j r)]
      exact hc hk o' ho'
    · rcases s.all_ (r := r) (by omega) ho' hk with h | ⟨k, h1, h2, h3⟩ | h
      · exact .inl h
      · exact .inr (.inl ⟨k, by omega, h2, h3⟩)
      · exact .inr (.inr h)
theorem Sr.read (s : Sr P ops bf cv0 h0 f i Hs Rs) {v : AV} {c : Hp → Ans → Ans} {xs : List AV} (ho : ops[i]? = some o) (hx : opnds P (cvU cv0 ops f i) o.op.operands.toList = some xs) (hc : ∀ H y, c H y = .yes → y = .yes ∧ ReadIn P o xs v H) : Sr P ops bf cv0 h0 (setR f i (some v, .calm)) (i + 1) Hs ((i, c) :: Rs) := by
  refine ⟨(s.old (r := (some v, .calm))).succ (by rw [setR_same]; rfl), fun e he H y hy => ?_, fun e he => ?_, fun j o' hj ho' hk => ?_⟩
  · rcases List.mem_cons.1 he with rfl | he
    · obtain ⟨h1, h2⟩ := hc H y hy
      exact ⟨h1, o, v, xs, ho, by rw [setR_same], by rw [← cvU_congr i (setR_lt f i _)]; exact hx, h2⟩
    · exact s.rs_ e he H y hy
  · rcases List.mem_cons.1 he with rfl | he
    · exact Nat.lt_succ_self i
    · exact Nat.lt_succ_of_lt (s.lt e he)
  · by_cases e : j = i
    · exact .inr (.inr ⟨_, List.mem_cons_self .., e.symm⟩)
    · rcases s.all_ (r := (some v, .calm)) (by omega) ho' hk with h | ⟨k, h1, h2, h3⟩ | ⟨e, h1, h2⟩
      · exact .inl h
      · exact .inr (.inl ⟨k, by omega, h2, h3⟩)
      · exact .inr (.inr ⟨e, List.mem_cons_of_mem _ h1, h2⟩)
theorem Sr.bar (s : Sr P ops bf cv0 h0 f i Hs Rs) {v : AV} {I O : Hp} {Rs' : Rds} (hsub : ∀ e ∈ Rs', e ∈ Rs) (hall : ∀ e ∈ Rs, inMask (bf.getD i 0) e.1 = true ∨ e ∈ Rs') : Sr P ops bf cv0 h0 (setR f i (some v, .bar I O)) (i + 1) ((i, O) :: Hs) Rs' := by
  refine ⟨.inr ⟨Nat.lt_succ_self i, by rw [setR_same]; rfl, fun k a b => by omega, ?_, ?_, s.old⟩, fun e he => s.rs_ e (hsub e he), fun e he => Nat.lt_succ_of_lt (s.lt e (hsub e he)), fun j o' hj ho' hk => ?_⟩
  · show O.tr = ((setR f i (some v, Kd.bar I O) i).2.bs _).tr
    rw [setR_same]; rfl
  · show O.nx = (setR f i (some v, Kd.bar I O) i).2.nx _
    rw [setR_same]; rfl
  · by_cases e : j = i
    · subst e; rw [setR_same] at hk; cases hk
    · rcases s.all_ (r := (some v, .bar I O)) (by omega) ho' hk with h | ⟨k, h1, h2, h3⟩ | ⟨e, h1, h2⟩
      · exact .inl h
      · exact .inr (.inl ⟨k, by omega, h2, h3⟩)
      · rcases hall e h1 with h3 | h3
        · exact .inr (.inl ⟨i, by omega, by rw [setR_same]; rfl, by rw [← h2]; exact h3⟩)
        · exact .inr (.inr ⟨e, h3, h2⟩)
end
/-- A run with free operations writes down what it does. -/
theorem runFree_spec {callf : CallF} (hcall : CallSound P callf) {keep : Nat} {ops : List Oper} {bf : List Nat} (op : Opn ops bf) {cv0 : Cv} {h0 : Hp} : ∀ (rest : List Oper) (bs : List Nat) (D : Dl) (now i : Nat) (L : List AV) (env : Tr AV) (h : Hp) (fs : Frees) (Hs : List (Nat × Hp)) (Rs : Rds) (k : Tr AV → Hp → Ans) (f : Rcs),
    ops.drop i = rest → bf.drop i = bs → Pl P keep rest D now L env (cvU cv0 ops f i) → St P ops bf cv0 h0 f i h fs → Sr P ops bf cv0 h0 f i Hs Rs →
    runFree callf (mkCOs.go P ops keep true bf rest bs D now i) L env h fs Hs Rs k = .yes →
    ∃ f' env' h', k env' h' = .yes ∧ EnvK keep env' ∧ (∀ j o, ops[j]? = some o → RcAt P ops bf cv0 h0 f' ops.length j o) ∧ (∀ j, ops.length ≤ j → (f' j).2 = .calm) ∧ Src f' (fun _ => true) ops.length (bsU h0 f' ops.length) h'.tr ∧ h'.nx = nxU h0 f' ops.length ∧ h'.lo = (bsU h0 f' ops.length).lo ∧ ∀ t av, env'.get (path t) = some av → cvU cv0 ops f' ops.length t = some av
  | [], bs, D, now, i, L, env, h, fs, Hs, Rs, k, f, hd, hb, pl, st, sr, H => by
    have hi : i = ops.length := by
      have := congrArg List.length hd
      simp at this
      have := st.le
      omega
    subst hi
    have H : flushAll fs h (fun h => k env h) = .yes := by cases bs <;> exact H
    rw [flushAll_eq] at H
    exact ⟨f, env, _, H, pl.envK, fun j o ho => st.rc j o (List.getElem?_eq_some_iff.1 ho).1 ho, st.out, st.src _, st.nx, st.lo, pl.envC⟩
  | o :: rest, bs, D, now, i, L, env, h, fs, Hs, Rs, k, f, hd, hb, pl, st, sr, H => by
    have ho : ops[i]? = some o := by
      have := List.getElem?_drop (xs := ops) (i := i) (j := 0)
      rw [hd] at this
      simpa using this.symm
    have hi : i < ops.length := (List.getElem?_eq_some_iff.1 ho).1
    have hd' : ops.drop (i + 1) = rest := by rw [← List.tail_drop, hd]; rfl
    obtain ⟨bs', hbs, hb'⟩ : ∃ bs', bs = bf.getD i 0 :: bs' ∧ bf.drop (i + 1) = bs' := by
      have hlt : i < bf.length := by rw [op.len]; exact hi
      refine ⟨bf.drop (i + 1), ?_, rfl⟩
      rw [← hb, List.drop_eq_getElem_cons hlt, List.getD_eq_getElem?_getD, List.getElem?_eq_getElem hlt]; rfl
    subst hbs
    have ecv : ∀ r, cvU cv0 ops (setR f i r) i = cvU cv0 ops f i := fun r => (cvU_congr i (setR_lt f i r)).symm
    have ecv1 : ∀ r, cvU cv0 ops (setR f i r) (i + 1) = updO (cvU cv0 ops f i) o.dst r.1 := fun r => by
      show updO (cvU cv0 ops (setR f i r) i) (dstAt ops i) (setR f i r i).1 = _
      rw [ecv, setR_same, dstAt_at ho]
    have calmRc : ∀ out, CalmAt P ops o (cvU cv0 ops f i) out → RcAt P ops bf cv0 h0 (setR f i (out, .calm)) (i + 1) i o := fun out hc => by
      exact ⟨(fun _ => by left; rw [ecv, setR_same]; exact hc), (fun I O hk => by rw [setR_same] at hk; cases hk), (fun I O hk => by rw [setR_same] at hk; cases hk), st.ord op ho (fun hk => by cases hk)⟩
    have calmSt : ∀ out, CalmAt P ops o (cvU cv0 ops f i) out → St P ops bf cv0 h0 (setR f i (out, .calm)) (i + 1) h fs := fun out hc =>
      st.next op ho (calmRc out hc) (fun hk => by cases hk) (fun hk => by cases hk) rfl rfl rfl fun e he => .inl ⟨he, rfl⟩
    have calmSr : ∀ out, CalmAt P ops o (cvU cv0 ops f i) out → Sr P ops bf cv0 h0 (setR f i (out, .calm)) (i + 1) Hs Rs := fun out hc =>
      sr.calm rfl fun _ o' ho' => by rw [ho] at ho'; injection ho' with ho'; subst ho'; exact hc
    rw [mkCOs.go] at H
    cases hal : aliasOf keep rest D o with
    | some e =>
      rw [hal] at H
      dsimp only at H
      obtain ⟨d, t, hdst, hg0, hop, pl'⟩ := pl.alias hal
      refine runFree_spec hcall op rest bs' _ _ (i + 1) _ _ h fs Hs Rs k (setR f i (cvU cv0 ops f i t, .calm)) hd' hb' ?_ (calmSt _ (.inr (.inr ⟨hg0, t, hop, rfl⟩))) (calmSr _ (.inr (.inr ⟨hg0, t, hop, rfl⟩))) H
      rw [ecv1]; exact pl'
    | none =>
      rw [hal] at H
      dsimp only at H
      rw [runFree_cons] at H
      rcases cls_cases (P := P) ops bf i o (bf.getD i 0) with ⟨hq, hc⟩ | ⟨hq, hrd, hc⟩ | ⟨hq, hc⟩ | ⟨hq, hc⟩
      · rw [hc, if_neg (by rw [isBar_mk.1 (by simp)]; simp), if_neg (by rw [isRd_mk (by simp)]; simp)] at H
        obtain ⟨v, h1, H1, hdo, -⟩ := mkCO_line hcall (.inl rfl) pl.loc H
        have hh : h1 = h ∧ CalmAt P ops o (cvU cv0 ops f i) (some v) := by
          rcases hdo with ⟨hw, xs, hx, -, hq2⟩ | ⟨hw, h2, h3⟩
          · exact ⟨(hq2 hq).1, .inl ⟨hw, v, xs, rfl, hx, (hq2 hq).2⟩⟩
          · exact ⟨h3, .inr (.inl ⟨hw, by rw [h2]⟩)⟩
        obtain ⟨rfl, hcalm⟩ := hh
        refine runFree_spec hcall op rest bs' _ _ (i + 1) _ _ h1 fs Hs Rs k (setR f i (some v, .calm)) hd' hb' ?_ (calmSt _ hcalm) (calmSr _ hcalm) H1
        rw [ecv1]; exact pl.push v
      · have hg := rdB_guard hrd
        obtain ⟨e1, e2, e3⟩ := rdIx_mk (P := P) (ops := ops) (keep := keep) (m := bf.getD i 0) (D := D) (now := now) (i := i) hg
        rw [hc, if_neg (by rw [isBar_mk.1 (by simp)]; simp), if_pos e2, e1, e3] at H
        obtain ⟨v, xs, H1, hx, hlow, hri⟩ := rdCO_yes hcall hg pl.loc H
        obtain ⟨H2, hH⟩ := allHs_yes (f := f) (h0 := h0) (i := i) (Q := ReadIn P o xs v) (fun H y hy => chkRd_yes hcall hg pl.loc hx hy) sr.hs H1
        have hl := setR_lt f i (some v, Kd.calm)
        have hw : wantedA ops (cvU cv0 ops f i) o = some true := by unfold wantedA; rw [hg]
        refine runFree_spec hcall op rest bs' _ _ (i + 1) _ _ h fs Hs _ k (setR f i (some v, .calm)) hd' hb' ?_ (st.next op ho ⟨fun _ => .inr ⟨by rw [ecv]; exact hw, v, xs, by rw [setR_same], by rw [ecv]; exact hx, ?_, ?_, fun c hc hcut hkb _ => ?_⟩, fun I O hk => by (rw [setR_same] at hk; cases hk), fun I O hk => by (rw [setR_same] at hk; cases hk), st.ord op ho (fun hk => by cases hk)⟩ (fun hk => by cases hk) (fun hk => by cases hk) rfl rfl rfl fun e he => .inl ⟨he, rfl⟩) (sr.read ho hx (fun H y hy => chkRd_yes hcall hg pl.loc hx hy)) H2
        · rw [ecv1]; exact pl.push v
        · rw [← nxU_congr i hl, ← st.nx]; exact hlow
        · rw [← nxU_congr i hl, ← st.nx]; exact hri.nx
        · have hci : c ≤ i := Classical.byContradiction fun hn => by
            rcases hcut with h | ⟨d, hd, hb'⟩
            · omega
            · rw [show d = i by omega, setR_same] at hb'; cases hb'
          have hlc : ∀ k, k < c → f k = setR f i (some v, Kd.calm) k := fun k hk => hl k (by omega)
          obtain ⟨H', h4, h2, h3⟩ := hH c hci (hcut.congr hlc) (fun k a b hki => hkb k (by rw [← hl k hki]; exact a) b)
          rw [bsU_congr (h0 := h0) c hlc] at h2
          rw [nxU_congr (h0 := h0) c hlc] at h3
          exact ⟨by show nxU _ _ _ ≤ _; rw [← h3]; exact h4.nx, by rw [show (Hp.mk (bsU h0 (setR f i (some v, Kd.calm)) c).tr (nxU h0 (setR f i (some v, Kd.calm)) c) 0).tr = H'.tr from h2.symm]; exact h4.does⟩
      · rw [hc] at H
        rcases (isBar_mk (P := P) (ops := ops) (keep := keep) (o := o) (D := D) (now := now) (cls := .bar (bf.getD i 0)) (i := i)).2 _ rfl with ⟨hbar, hbm, hbi⟩ | hbad
        · rw [if_pos hbar] at H
          obtain ⟨v, h1, H1, hdo, hn⟩ := mkCO_line hcall (.inr ⟨_, rfl⟩) pl.loc H
          have hn := hn (by simp)
          obtain ⟨Rs', H2, hsub, hall⟩ := allRs_yes sr.rs H1
          rw [hbm] at hall
          rw [hbi] at H2
          have hcl : (Kd.bar (flushH fs h) h1).isCalm = false → (quietOp P o.op = false ∧ rdB ops bf i o (bf.getD i 0) = false) ∧ ((Kd.bar (flushH fs h) h1).isBar = true → clsOf P ops bf i o (bf.getD i 0) = .bar (bf.getD i 0)) := fun _ => ⟨hq, fun _ => hc⟩
          refine runFree_spec hcall op rest bs' _ _ (i + 1) _ _ h1 [] ((i, h1) :: Hs) Rs' k (setR f i (some v, .bar (flushH fs h) h1)) hd' hb' ?_ (st.next op ho ⟨fun hk => by (rw [setR_same] at hk; cases hk), fun I O hk => ?_, fun I O hk => by (rw [setR_same] at hk; cases hk), st.ord op ho hcl⟩ (fun _ j o' hj ho' hk => ?_) hcl rfl rfl rfl fun e he => by cases he) (sr.bar hsub fun e he => (hall e he).imp id fun h => h.1) H2
          · rw [ecv1]; exact pl.push v
          · rw [setR_same] at hk
            injection hk with hk1 hk2; subst hk1; subst hk2
            have hl := setR_lt f i (some v, Kd.bar (flushH fs h) h1)
            rw [ecv, setR_same, ← nxU_congr i hl, ← bsU_congr i hl]
            exact ⟨hn, ⟨v, rfl, hdo⟩, (st.src _).congr hl, st.nx, st.lo⟩
          · rcases sr.all j o' hj ho' hk with h | ⟨k, h2, h3, h4⟩ | ⟨e, h2, h3⟩
            · exact .inl h
            · exact .inr (.inl ⟨k, by omega, by rw [setR_ne (by omega)]; exact h3, h4⟩)
            · rcases hall e h2 with h4 | ⟨-, o2, v2, xs2, h5, h6, h7, h8⟩
              · exact .inr (.inl ⟨i, by omega, by rw [setR_same]; rfl, by rw [← h3]; exact h4⟩)
              · rw [h3] at h5 h6 h7
                rw [ho'] at h5; injection h5 with h5; subst h5
                exact .inr (.inr ⟨v2, xs2, h6, h7, h8⟩)
        · rw [hbad] at H
          cases H
      · rw [hc, if_neg (by rw [isBar_mk.1 (by simp)]; simp), if_neg (by rw [isRd_mk (by simp)]; simp)] at H
        rcases mkCO_free hcall pl.loc H with ⟨v, O, hw, ha, h1, h2, H1⟩ | ⟨hw, H1⟩
        · have hcl : (Kd.free (.mk (flushT (fun j => inMask (bf.getD i 0) j) fs h.tr) h.nx h.nx) O).isCalm = false → (quietOp P o.op = false ∧ rdB ops bf i o (bf.getD i 0) = false) ∧ ((Kd.free (.mk (flushT (fun j => inMask (bf.getD i 0) j) fs h.tr) h.nx h.nx) O).isBar = true → clsOf P ops bf i o (bf.getD i 0) = .bar (bf.getD i 0)) := fun _ => ⟨hq, fun h => by cases h⟩
          refine runFree_spec hcall op rest bs' _ _ (i + 1) _ _ (.mk h.tr O.nx h.lo) ((i, newsT O.tr h.nx (O.nx - h.nx)) :: fs) Hs Rs k (setR f i (some v, .free (.mk (flushT (fun j => inMask (bf.getD i 0) j) fs h.tr) h.nx h.nx) O)) hd' hb' ?_ (st.next op ho ⟨fun hk => by (rw [setR_same] at hk; cases hk), fun I O hk => by (rw [setR_same] at hk; cases hk), fun I O hk => ?_, st.ord op ho hcl⟩ (fun hk => by cases hk) hcl rfl rfl rfl fun e he => ?_) (sr.calm rfl fun hk => by cases hk) H1
          · rw [ecv1]; exact pl.push v
          · rw [setR_same] at hk
            injection hk with hk1 hk2; subst hk1; subst hk2
            have hl := setR_lt f i (some v, Kd.free (.mk (flushT (fun j => inMask (bf.getD i 0) j) fs h.tr) h.nx h.nx) O)
            rw [ecv, setR_same, ← nxU_congr i hl, ← bsU_congr i hl]
            exact ⟨⟨v, rfl, hw, ha⟩, (st.src _).congr hl, st.nx, st.nx, by rw [h1, st.nx], by rw [← st.nx]; exact h2⟩
          · rcases List.mem_cons.1 he with rfl | he
            · refine .inr ⟨_, _, rfl, rfl, fun b x hbx => ?_⟩
              obtain ⟨a1, a2, a3⟩ := newsT_mem hbx
              exact ⟨a1, by omega, a3⟩
            · exact .inl ⟨he, rfl⟩
        · refine runFree_spec hcall op rest bs' _ _ (i + 1) _ _ h fs Hs Rs k (setR f i (some (.tup []), .calm)) hd' hb' ?_ (calmSt _ (.inr (.inl ⟨hw, rfl⟩))) (calmSr _ (.inr (.inl ⟨hw, rfl⟩))) H1
          rw [ecv1]; exact pl.push _
theorem doCO_fs (callf : CallF) : ∀ (o : CO) (L : List AV) (env : Tr AV) (h : Hp) (fs : Frees) (k : Option Pa → AV → Hp → Frees → Ans), isFree o = false → doCO callf o L env h fs k = doCO callf o L env h fs (fun d v h _ => k d v h fs)
  | .mv _ _, L, env, h, fs, k, _ => rfl
  | .o1 _ _ _, L, env, h, fs, k, _ => rfl
  | .o2 _ _ _ _, L, env, h, fs, k, _ => rfl
  | .on _ _ _, L, env, h, fs, k, _ => rfl
  | .call _ _, L, env, h, fs, k, _ => rfl
  | .grd r want o d, L, env, h, fs, k, hf => by
    show rfK r L env (fun v => doCO.onGuard v want (doCO callf o L env h fs k) (k d (.tup []) h fs)) = rfK r L env (fun v => doCO.onGuard v want (doCO callf o L env h fs fun d v h _ => k d v h fs) (k d (.tup []) h fs))
    rw [doCO_fs callf o L env h fs k hf]
  | .free _ _ _, L, env, h, fs, k, hf => by cases hf
  | .rd _ _ _, _, _, _, _, _, hf => by cases hf
  | .bar _ _ o, L, env, h, fs, k, hf => by
    show doCO callf o L env h fs (fun d v h' fs => doCO.grown h h' (k d v h' fs)) = doCO callf o L env h fs (fun d v h' _ => doCO.grown h h' (k d v h' fs))
    exact doCO_fs callf o L env h fs _ hf
  | .bad _, L, env, h, fs, k, _ => rfl
theorem rd_free : ∀ {o : CO}, isFree o = false → isRd o = false
  | .mv _ _, _ => rfl
  | .o1 _ _ _, _ => rfl
  | .o2 _ _ _ _, _ => rfl
  | .on _ _ _, _ => rfl
  | .call _ _, _ => rfl
  | .grd _ _ _ _, _ => rfl
  | .free _ _ _, _ => rfl
  | .rd _ _ _, h => by cases h
  | .bar _ _ _, _ => rfl
  | .bad _, _ => rfl
theorem runFree_seq (callf : CallF) : ∀ (os : List CO) (L : List AV) (env : Tr AV) (h : Hp) (Hs : List (Nat × Hp)) (k : Tr AV → Hp → Ans), os.any isFree = false → runFree callf os L env h [] Hs [] k = runSeq callf os L env h k
  | [], L, env, h, Hs, k, _ => rfl
  | o :: os, L, env, h, Hs, k, hf => by
    rw [List.any_cons, Bool.or_eq_false_iff] at hf
    rw [runFree_cons, runSeq_cons]
    have ih := fun L env h Hs => runFree_seq callf os L env h Hs k hf.2
    have er : ∀ (m : Nat) (h : Hp) (k : Rds → Ans), allRs m [] h k = k [] := fun _ _ _ => rfl
    rw [rd_free hf.1]
    have eh : flushH [] h = h := by cases h; rfl
    rw [eh]
    simp only [er, ih, Bool.false_eq_true, if_false]
    split
    · rfl
    · rw [doCO_fs callf o L env h [] _ hf.1]
      simp only [ih]
/-- REGIONS DO WHAT IS SAID. -/
theorem regOK (hm : P.follows .mixedOrders = true) (callf : CallF) (hcall : CallSound P callf) (N keep : Nat) : RegOK P callf N keep := by
  intro id ops draw os env h k hcomp H hK
  have dok : ∀ {ops : List Oper}, dstOk N ops = true → ∀ o ∈ ops, ∀ d, o.dst = some d → d < N := fun {ops} h o ho d hd => by
    have := List.all_eq_true.1 h o ho
    rw [hd] at this
    simpa using this
  have pl0 : ∀ {rest}, Pl P keep rest [] 0 [] env (fun t => env.get (path t)) := fun {rest} => ⟨⟨rfl, fun t av h => h⟩, hK, fun t av h => h, fun e he => by cases he⟩
  have hcv : ∀ {ds β a w}, Rel N ds β env h a w → CvR β (fun t => env.get (path t)) a.tmps := fun hr t av ht => hr.env t av ht
  unfold compR at hcomp
  split at hcomp
  · cases hcomp
  · rename_i hdst
    injection hcomp with hcomp
    subst hcomp
    have hnf : (mkCOs P ops.toList keep false (ops.toList.map fun _ => 0)).any isFree = false := by
      unfold mkCOs
      have hbare : ∀ (o : Oper) D now, isFree (bareCO P keep o D now) = false := fun o D now => by
        unfold bareCO
        split <;> try rfl
        unfold bareOf
        split <;> rfl
      have : ∀ (rest : List Oper) (bs : List Nat) (D : Dl) (now i : Nat), (mkCOs.go P ops.toList keep false (ops.toList.map fun _ => 0) rest bs D now i).any isFree = false := by
        intro rest
        induction rest with
        | nil => intro bs D now i; cases bs <;> rfl
        | cons o rest ih =>
          intro bs D now i
          cases bs with
          | nil => rfl
          | cons b bs =>
            rw [mkCOs.go]
            split
            · exact ih _ _ _ _
            · rw [List.any_cons, ih, Bool.or_false]
              unfold mkCO
              split
              · exact hbare _ _ _
              · split
                · exact hbare _ _ _
                · rfl
      exact this _ _ _ _ _
    unfold runR at H
    rw [hnf] at H
    obtain ⟨env', h', H', hK', hw⟩ := seq_sound hcall (N := N) ops.toList _ [] 0 0 [] env _ h k (by simp) (dok hdst) pl0 H
    exact ⟨env', h', H', hK', fun ds β a w hr hg => wp_region_list (hw ds β a w hr.hr (hcv hr) hr.size hr.defers hg _ fun a' w' hp => ⟨rfl, hp⟩)⟩
  · rename_i hdst
    split at hcomp
    · rename_i hopen
      injection hcomp with hcomp
      have op := openOk_spec hopen
      have H : runFree callf os [] env h [] [(0, h)] [] k = .yes := by
        unfold runR at H
        cases hf : os.any isFree with
        | true => rw [hf] at H; exact H
        | false => rw [hf] at H; rw [runFree_seq callf os [] env h [(0, h)] k hf]; exact H
      subst hcomp
      obtain ⟨f, env', h', H', hK', hrc, hout, hs, hn, hl, he⟩ := runFree_spec hcall op (cv0 := fun t => env.get (path t)) (h0 := h) ops.toList _ [] 0 0 [] env h [] [(0, h)] [] k (fun _ => (none, .calm)) rfl rfl pl0
        ⟨Nat.zero_le _, rfl, rfl, rfl, fun e he => (by cases he), fun j o hj => (by omega), fun j o hj => (by omega), fun j _ => rfl⟩
        ⟨.inl ⟨rfl, fun k hk => by omega, rfl, rfl⟩, fun e he => (by cases he), fun e he => (by cases he), fun j o hj => (by omega)⟩ H
      refine ⟨env', h', H', hK', fun ds β a w hr hg => ?_⟩
      have rg : Rg P ops.toList (befores ops.toList) (fun t => env.get (path t)) h f N := ⟨hrc, hout, op.dn, op.bfs, op.ap, fun i d hd => by
        obtain ⟨o, h1, h2⟩ := dstAt_some hd
        exact dok hdst o (List.mem_of_getElem? h1) d h2⟩
      exact region_any hm rg rfl hs hn hl he hr.hr hg (hcv hr) hr.size hr.defers id
    · cases hcomp
end Go.Ev
