/- The evaluator's regions: whatever order the tape picks. -/
import Derived.Test.YtojombahfmicbaaGreatDoorEvX
set_option linter.unusedVariables false
set_option linter.unusedSectionVars false
set_option linter.unusedSimpArgs false
namespace Go.Ev
variable [Sg] [Sl]
open Go.RowKit
variable {P : Program}

def cntS (S : Nat → Bool) : Nat → Nat
  | 0 => 0
  | k + 1 => cntS S k + (if S k = true then 0 else 1)
theorem cntS_zero {S : Nat → Bool} : ∀ {n}, cntS S n = 0 → ∀ j, j < n → S j = true
  | 0, _, j, h => by omega
  | n + 1, h, j, hj => by
    unfold cntS at h
    by_cases e : j = n
    · subst e
      cases hs : S j with
      | true => rfl
      | false => rw [hs] at h; simp at h
    · exact cntS_zero (n := n) (S := S) (Nat.eq_zero_of_add_eq_zero_right h) j (by omega)
theorem cntS_add {S : Nat → Bool} {i : Nat} (hi : S i = false) : ∀ n, cntS (addS S i) n + (if i < n then 1 else 0) = cntS S n
  | 0 => rfl
  | n + 1 => by
    have ih := cntS_add hi n
    unfold cntS
    by_cases e : n = i
    · subst e
      rw [addS_self, hi]
      rw [if_neg (Nat.lt_irrefl n)] at ih
      rw [if_pos (Nat.lt_succ_self n), if_pos rfl, if_neg (by simp)]
      omega
    · rw [addS_of e]
      by_cases h : i < n
      · rw [if_pos h] at ih; rw [if_pos (by omega : i < n + 1)]; omega
      · rw [if_neg h] at ih; rw [if_neg (by omega : ¬ i < n + 1)]; omega
theorem cntS_none : ∀ n, cntS (fun _ => false) n = n
  | 0 => rfl
  | n + 1 => by unfold cntS; rw [cntS_none n]; rfl
abbrev ofL (listed : Array Bool) : Nat → Bool := fun j => listed.getD j false
theorem ofL_set {listed : Array Bool} {i : Nat} (h : i < listed.size) : ofL (listed.setIfInBounds i true) = addS (ofL listed) i := by
  funext j
  unfold ofL addS
  simp only [Array.getD_eq_getD_getElem?, Array.getElem?_setIfInBounds]
  by_cases e : i = j
  · subst e; rw [if_pos rfl, if_pos h]; simp
  · rw [if_neg e, decide_eq_false (fun x => e x.symm), Bool.or_false]
section
variable {ops : List Oper} {bf : List Nat} {cv0 : Cv} {h0 : Hp} {f : Rcs} {N : Nat} {ds : List Deferred} {β0 : Bt} {w0 : World}
theorem rdy_of {arr : Array Oper} (harr : arr.toList = ops) {listed : Array Bool} (hsz : listed.size = ops.length) {i : Nat} (h : i ∈ Region.ready .any arr listed) : i < listed.size ∧ ∃ o, Rdy ops (ofL listed) i o := by
  obtain ⟨h1, o, h2, h3⟩ := mem_ready.1 h
  have hat : ops[i]? = some o := by rw [← harr, Array.getElem?_toList]; exact h2
  have hlt : i < listed.size := by rw [hsz]; exact (List.getElem?_eq_some_iff.1 hat).1
  refine ⟨hlt, o, hat, ?_, fun e he hb => h3 e he hb⟩
  simp [Array.getD, hlt] at h1 ⊢
  exact h1
theorem all_of (rg : Rg P ops bf cv0 h0 f N) {arr : Array Oper} (harr : arr.toList = ops) {listed : Array Bool} (hsz : listed.size = ops.length) (h : Region.ready .any arr listed = []) : ∀ j, j < ops.length → ofL listed j = true := by
  intro j
  induction j using Nat.strongRecOn with
  | _ j ih =>
    intro hj
    cases hs : ofL listed j with
    | true => rfl
    | false =>
      obtain ⟨o, ho⟩ : ∃ o, ops[j]? = some o := ⟨_, List.getElem?_eq_getElem hj⟩
      have : j ∈ Region.ready .any arr listed := by
        refine mem_ready.2 ⟨?_, o, by rw [← Array.getElem?_toList, harr]; exact ho, fun e he hb => ?_⟩
        · have hlt : j < listed.size := by omega
          simp [ofL, Array.getD, hlt] at hs ⊢
          exact hs
        · have := rg.dn j o e ho he hb
          exact ih e.on this (by omega)
      rw [h] at this
      cases this
/-- Whatever order is picked. -/
theorem Inv.any (rg : Rg P ops bf cv0 h0 f N) (hr0 : HR β0 h0 w0) (hg : GlobK P β0) {arr : Array Oper} (harr : arr.toList = ops) {Q : Exit → Act → World → Prop}
    (hQ : ∀ S β a w, (∀ j, j < ops.length → S j = true) → Inv P ops cv0 h0 f N ds β0 w0 S β a w → Q .normal a w) : ∀ (fuel : Nat) (listed : Array Bool) (β : Bt) (a : Act) (w : World), listed.size = ops.length → cntS (ofL listed) ops.length ≤ fuel → Inv P ops cv0 h0 f N ds β0 w0 (ofL listed) β a w → wpAny P .any arr Q fuel listed a w
  | 0, listed, β, a, w, hsz, hc, iv => by
    have hall := cntS_zero (show cntS (ofL listed) ops.length = 0 by omega)
    refine ⟨?_, hQ _ β a w hall iv⟩
    cases hr : Region.ready .any arr listed with
    | nil => rfl
    | cons i rs =>
      obtain ⟨h1, o, rd⟩ := rdy_of harr hsz (show i ∈ Region.ready .any arr listed by rw [hr]; exact List.mem_cons_self ..)
      have := hall i (by omega)
      rw [rd.no] at this; cases this
  | fuel + 1, listed, β, a, w, hsz, hc, iv => by
    refine ⟨fun h => hQ _ β a w (all_of rg harr hsz h) iv, fun i hi => ?_⟩
    obtain ⟨h1, o, rd⟩ := rdy_of harr hsz hi
    refine iv.step rg rd hr0 hg harr fun β' a' w' iv' => ?_
    rw [← ofL_set h1] at iv'
    refine Inv.any rg hr0 hg harr hQ fuel _ β' a' w' (by simpa using hsz) ?_ iv'
    rw [ofL_set h1]
    have := cntS_add rd.no ops.length
    rw [if_pos (by omega)] at this
    omega
/-- All are carried out. -/
theorem Inv.end_ (rg : Rg P ops bf cv0 h0 f N) (hr0 : HR β0 h0 w0) {S : Nat → Bool} {β : Bt} {a : Act} {w : World} (iv : Inv P ops cv0 h0 f N ds β0 w0 S β a w) (hS : ∀ j, j < ops.length → S j = true) {h' : Hp} (hs : Src f (fun _ => true) ops.length (bsU h0 f ops.length) h'.tr) (hn : h'.nx = nxU h0 f ops.length) (hl : h'.lo = (bsU h0 f ops.length).lo)
    {env' : Tr AV} (he : ∀ t av, env'.get (path t) = some av → cvU cv0 ops f ops.length t = some av) : Post N ds β0 h0 w0 env' h' a w := by
  obtain ⟨c, βb, wb, ct, m⟩ := iv.mid
  have nc : ∀ {k}, (f k).2.isBar = true → (f k).2.isCalm = false := fun {k} h => by
    revert h
    cases (f k).2 with
    | bar I O => intro _; rfl
    | calm => intro h; cases h
    | free I O => intro _; rfl
  have lt : ∀ {k}, (f k).2.isCalm = false → k < ops.length := fun {k} h => by
    obtain ⟨o, ho⟩ := rg.at h; exact (List.getElem?_eq_some_iff.1 ho).1
  have hc : c ≤ ops.length := by
    rcases ct.last with h | ⟨d, h, hd⟩
    · omega
    · have := lt (nc hd); omega
  have hfl := m.flush rg ct hc (fun k h1 h2 => by
    cases hb : (f k).2.isBar with
    | false => rfl
    | true => have := (ct.bars k hb).1 (hS k h2); omega) hs (fun j I O h _ => hS j h) (fun j I O h _ => lt (by rw [h]; rfl))
  have eh : Hp.mk h'.tr (nxU h0 f ops.length) (bsU h0 f ops.length).lo = h' := by rw [← hn, ← hl]; cases h'; rfl
  rw [eh] at hfl
  refine ⟨β, m.st.trans hr0 hfl, hfl.hr, fun t av ht => ?_, iv.size, iv.ds⟩
  have := he t av ht
  rw [← cvS_all hS ops.length (Nat.le_refl _)] at this
  exact con_mono (restr_le β _) (iv.cv t av this)
theorem cvS_none : ∀ n, cvS cv0 ops f (fun _ => false) n = cv0
  | 0 => rfl
  | n + 1 => by unfold cvS; rw [if_neg (by simp)]; exact cvS_none n
theorem bdS_none (t : Nat) : ∀ n, bdS ops (fun _ => false) t n = 0
  | 0 => rfl
  | n + 1 => by unfold bdS; rw [if_neg (by simp)]; exact bdS_none t n
/-- None is carried out. -/
theorem Inv.start {β0 : Bt} {w0 : World} (hr0 : HR β0 h0 w0) {a : Act} (hc : CvR β0 cv0 a.tmps) (hN : N ≤ a.tmps.size) : Inv P ops cv0 h0 f N a.defers β0 w0 (fun _ => false) β0 a w0 := by
  refine ⟨(fun i h => by cases h), (fun i o e h => by cases h), ⟨0, β0, w0, ⟨(fun j _ => by simp), (fun j _ h => by omega), .inl rfl⟩, ⟨.refl hr0, .refl w0, fun _ _ => rfl, fun b x e hb => ?_, (fun j I O b x h => by cases h), fun b b' cb κ κ' h => ?_⟩⟩, fun t av ht => ?_, hN, rfl⟩
  · rw [hr0.fresh b hb] at e; cases e
  · obtain ⟨j, I, O, x, h1, -⟩ := h; cases h1
  · rw [cvS_none] at ht
    rw [bdS_none]
    refine con_mono (fun b x e => ?_) (hc t av ht)
    have : b < h0.nx := Classical.byContradiction fun h => by rw [hr0.fresh b (by omega)] at e; cases e
    show restr β0 (nxU h0 f 0) b = some x
    rw [restr_lt (show b < nxU h0 f 0 from this)]; exact e
/-- A region that draws. -/
theorem region_any (hm : P.follows .mixedOrders = true) (rg : Rg P ops bf cv0 h0 f N) {arr : Array Oper} (harr : arr.toList = ops) {h' : Hp} (hs : Src f (fun _ => true) ops.length (bsU h0 f ops.length) h'.tr) (hn : h'.nx = nxU h0 f ops.length) (hl : h'.lo = (bsU h0 f ops.length).lo)
    {env' : Tr AV} (he : ∀ t av, env'.get (path t) = some av → cvU cv0 ops f ops.length t = some av) {β : Bt} {a : Act} {w : World} (hr : HR β h0 w) (hg : GlobK P β) (hc : CvR β cv0 a.tmps) (hN : N ≤ a.tmps.size) (hds : a.defers = ds) (id : Nat) :
    (Code.region id arr true).wp P (fun e a' w' => e = .normal ∧ Post N ds β h0 w env' h' a' w') a w := by
  refine wp_region_any hm ?_
  have s0 : Stp β h0 w β h0 w.drew := drewHR hr
  have hsz : arr.size = ops.length := by rw [← harr]; simp
  have hnone : ofL (Array.replicate arr.size false) = fun _ => false := by
    funext j; unfold ofL
    by_cases h : j < arr.size <;> simp [Array.getD, h]
  subst hds
  refine Inv.any (ds := a.defers) rg s0.hr hg harr (fun S β' a' w' hS iv => ⟨rfl, (iv.end_ rg s0.hr hS hs hn hl he).trans hr s0⟩) arr.size (Array.replicate arr.size false) β a w.drew (by simp [hsz]) ?_ ?_
  · rw [hnone, cntS_none, hsz]; exact Nat.le_refl _
  · rw [hnone]; exact Inv.start s0.hr hc hN
end
end Go.Ev
namespace Go.Ev
variable [Sg] [Sl]
open Go.RowKit
variable {P : Program}

def maskOf (acc : List Nat) (o : Oper) : Nat := o.after.toList.foldl (fun s e => if Region.binds .any e then Nat.lor (orMask s e.on) (acc.getD e.on 0) else s) 0
theorem mask_fold (acc : List Nat) : ∀ (l : List Edge) (s j : Nat), inMask (l.foldl (fun s e => if Region.binds .any e then Nat.lor (orMask s e.on) (acc.getD e.on 0) else s) s) j = true → inMask s j = true ∨ ∃ e ∈ l, Region.binds .any e = true ∧ (e.on = j ∨ inMask (acc.getD e.on 0) j = true)
  | [], s, j, h => .inl h
  | e :: l, s, j, h => by
    rw [List.foldl_cons] at h
    rcases mask_fold acc l _ j h with h | ⟨e', h1, h2⟩
    · split at h
      · rename_i hb
        rw [inMask_lor, inMask_or, Bool.or_eq_true, Bool.or_eq_true] at h
        rcases h with (h | h) | h
        · exact .inl h
        · exact .inr ⟨e, List.mem_cons_self .., hb, .inl (of_decide_eq_true h)⟩
        · exact .inr ⟨e, List.mem_cons_self .., hb, .inr h⟩
      · exact .inl h
    · exact .inr ⟨e', List.mem_cons_of_mem _ h1, h2⟩
theorem befores_go : ∀ (l : List Oper) (acc : List Nat), ∃ r, l.foldl (fun (acc : List Nat) o => acc ++ [maskOf acc o]) acc = acc ++ r ∧ r.length = l.length ∧ ∀ i o, l[i]? = some o → r[i]? = some (maskOf (acc ++ r.take i) o)
  | [], acc => ⟨[], by simp, rfl, fun i o h => by simp at h⟩
  | o :: l, acc => by
    obtain ⟨r, h1, h2, h3⟩ := befores_go l (acc ++ [maskOf acc o])
    refine ⟨maskOf acc o :: r, by rw [List.foldl_cons, h1, List.append_assoc]; rfl, by simp [h2], fun i o' h => ?_⟩
    cases i with
    | zero => simp at h; subst h; simp
    | succ i =>
      have := h3 i o' (by simpa using h)
      rw [List.getElem?_cons_succ, this, List.take_succ_cons, List.append_assoc]; rfl
theorem befores_spec (ops : List Oper) : (befores ops).length = ops.length ∧ ∀ i o j, ops[i]? = some o → inMask ((befores ops).getD i 0) j = true → ∃ e ∈ o.after, Region.binds .any e = true ∧ (e.on = j ∨ inMask ((befores ops).getD e.on 0) j = true) := by
  obtain ⟨r, h1, h2, h3⟩ := befores_go ops []
  have e : befores ops = r := h1
  rw [e]
  refine ⟨h2, fun i o j ho hm => ?_⟩
  have hr := h3 i o ho
  rw [List.getD_eq_getElem?_getD, hr] at hm
  rcases mask_fold _ _ _ _ (show inMask (o.after.toList.foldl _ 0) j = true from hm) with h | ⟨e, h4, h5, h6⟩
  · rw [inMask_zero] at h; cases h
  · refine ⟨e, Array.mem_toList_iff.1 h4, h5, h6.imp id fun h => ?_⟩
    rw [List.nil_append, List.getD_eq_getElem?_getD, List.getElem?_take] at h
    split at h
    · rw [List.getD_eq_getElem?_getD]; exact h
    · rw [Option.getD_none, inMask_zero] at h; cases h
structure Opn (ops : List Oper) (bf : List Nat) : Prop where
  len : bf.length = ops.length
  bfs : ∀ i o j, ops[i]? = some o → inMask (bf.getD i 0) j = true → ∃ e ∈ o.after, Region.binds .any e = true ∧ (e.on = j ∨ inMask (bf.getD e.on 0) j = true)
  dn : ∀ i o e, ops[i]? = some o → e ∈ o.after → Region.binds .any e = true → e.on < i
  ap : ∀ i j x y, i < j → ops[i]? = some x → ops[j]? = some y → inMask (bf.getD j 0) i = true ∨ apartB ops x y = true
theorem openOk_spec {ops : List Oper} (h : openOk ops (befores ops) = true) : Opn ops (befores ops) := by
  obtain ⟨h1, h2⟩ := befores_spec ops
  unfold openOk at h
  rw [Bool.and_eq_true] at h
  obtain ⟨ha, hb⟩ := h
  refine ⟨h1, h2, fun i o e ho he hbi => ?_, fun i j x y hij hx hy => ?_⟩
  · have := List.all_eq_true.1 ha (o, i) (List.mem_zipIdx_iff_getElem?.2 ho)
    have := List.all_eq_true.1 this e (Array.mem_toList_iff.2 he)
    rw [hbi] at this
    simpa using this
  · have hj : j < (befores ops).length := by rw [h1]; exact (List.getElem?_eq_some_iff.1 hy).1
    have hz : (ops.zip (befores ops))[j]? = some (y, (befores ops)[j]) := List.getElem?_zip_eq_some.2 ⟨hy, List.getElem?_eq_getElem hj⟩
    have := List.all_eq_true.1 hb ((y, (befores ops)[j]), j) (List.mem_zipIdx_iff_getElem?.2 hz)
    have := List.all_eq_true.1 this (x, i) (List.mem_zipIdx_iff_getElem?.2 (by rw [List.getElem?_take, if_pos hij]; exact hx))
    rw [Bool.or_eq_true] at this
    rw [List.getD_eq_getElem?_getD, List.getElem?_eq_getElem hj]
    exact this
theorem Opn.lt {ops : List Oper} {bf : List Nat} (h : Opn ops bf) : ∀ (i : Nat) (o : Oper) (j : Nat), ops[i]? = some o → inMask (bf.getD i 0) j = true → j < i := by
  intro i
  induction i using Nat.strongRecOn with
  | _ i ih =>
    intro o j ho hm
    obtain ⟨e, he, hb, h1⟩ := h.bfs i o j ho hm
    have hlt := h.dn i o e ho he hb
    rcases h1 with h1 | h1
    · omega
    · obtain ⟨o', ho'⟩ : ∃ o', ops[e.on]? = some o' := ⟨_, List.getElem?_eq_getElem (by have := (List.getElem?_eq_some_iff.1 ho).1; omega)⟩
      have := ih e.on hlt o' j ho' h1
      omega
theorem cls_cases (ops : List Oper) (bf : List Nat) (i : Nat) (o : Oper) (bi : Nat) : (quietOp P o.op = true ∧ clsOf P ops bf i o bi = .quiet) ∨ (quietOp P o.op = false ∧ rdB ops bf i o bi = true ∧ clsOf P ops bf i o bi = .rd bi) ∨ ((quietOp P o.op = false ∧ rdB ops bf i o bi = false) ∧ clsOf P ops bf i o bi = .bar bi) ∨ ((quietOp P o.op = false ∧ rdB ops bf i o bi = false) ∧ clsOf P ops bf i o bi = .free bi) := by
  unfold clsOf
  split
  · rename_i h; exact .inl ⟨h, rfl⟩
  · rename_i h
    split
    · rename_i h2; exact .inr (.inl ⟨by simpa using h, h2, rfl⟩)
    · rename_i h2
      split
      · exact .inr (.inr (.inl ⟨⟨by simpa using h, by simpa using h2⟩, rfl⟩))
      · exact .inr (.inr (.inr ⟨⟨by simpa using h, by simpa using h2⟩, rfl⟩))
theorem cls_bar {ops : List Oper} {bf : List Nat} (hl : bf.length = ops.length) {i : Nat} {o : Oper} {bi : Nat} {m : Nat} (h : clsOf P ops bf i o bi = .bar m) {j : Nat} {y : Oper} (hy : ops[j]? = some y) (hq : quietOp P y.op = false) (hr : rdB ops bf j y (bf.getD j 0) = false) (hne : j ≠ i) : inMask (bf.getD j 0) i = true ∨ inMask bi j = true := by
  unfold clsOf at h
  split at h
  · cases h
  · split at h
    · cases h
    split at h
    · rename_i ha
      have hj : j < bf.length := by rw [hl]; exact (List.getElem?_eq_some_iff.1 hy).1
      have hz : (ops.zip bf)[j]? = some (y, bf[j]) := List.getElem?_zip_eq_some.2 ⟨hy, List.getElem?_eq_getElem hj⟩
      have := List.all_eq_true.1 ha ((y, bf[j]), j) (List.mem_zipIdx_iff_getElem?.2 hz)
      dsimp only at this
      have eb : bf.getD j 0 = bf[j] := by rw [List.getD_eq_getElem?_getD, List.getElem?_eq_getElem hj]; rfl
      rw [eb] at hr
      rw [hq, show (j == i) = false from by simp [hne], Bool.false_or, Bool.false_or, hr, Bool.or_false, Bool.or_eq_true] at this
      rw [eb]
      exact this
    · cases h
/-! Blocks, laid. -/
noncomputable def layT : List (Nat × Blk) → Tr Blk → Tr Blk
  | [], t => t
  | e :: d, t => layT d (t.set (path e.1) (some e.2))
theorem layK_eq : ∀ (d : List (Nat × Blk)) (t : Tr Blk) (k : Tr Blk → Ans), layK d t k = k (layT d t)
  | [], t, k => rfl
  | e :: d, t, k => by
    show t.setP (path e.1) (some e.2) (fun t => layK d t k) = _
    rw [setP_eq, layK_eq d]; rfl
theorem layT_get : ∀ {d : List (Nat × Blk)} {t : Tr Blk} {b : Nat} {x : Blk}, (layT d t).get (path b) = some x → t.get (path b) = some x ∨ (b, x) ∈ d
  | [], t, b, x, h => .inl h
  | e :: d, t, b, x, h => by
    rcases layT_get (d := d) h with h | h
    · rw [get_set] at h
      split at h
      · rename_i hp
        injection h with h
        have := path_inj hp
        exact .inr (by rw [this, ← h]; exact List.mem_cons_self ..)
      · exact .inl h
    · exact .inr (List.mem_cons_of_mem _ h)
noncomputable def flushT (anc : Nat → Bool) : Frees → Tr Blk → Tr Blk
  | [], t => t
  | e :: fs, t => flushT anc fs (if anc e.1 = true then layT e.2 t else t)
theorem flushK_eq (anc : Nat → Bool) : ∀ (fs : Frees) (t : Tr Blk) (k : Tr Blk → Ans), flushK fs anc t k = k (flushT anc fs t)
  | [], t, k => rfl
  | e :: fs, t, k => by
    show cnd (anc e.1) (layK e.2 t (fun t => flushK fs anc t k)) (flushK fs anc t k) = _
    rw [cnd_eq, layK_eq]
    unfold flushT
    split
    · exact flushK_eq anc fs _ k
    · exact flushK_eq anc fs t k
theorem flushT_get {anc : Nat → Bool} : ∀ {fs : Frees} {t : Tr Blk} {b : Nat} {x : Blk}, (flushT anc fs t).get (path b) = some x → t.get (path b) = some x ∨ ∃ e ∈ fs, anc e.1 = true ∧ (b, x) ∈ e.2
  | [], t, b, x, h => .inl h
  | e :: fs, t, b, x, h => by
    rcases flushT_get (fs := fs) h with h | ⟨e', h1, h2⟩
    · split at h
      · rename_i ha
        rcases layT_get h with h | h
        · exact .inl h
        · exact .inr ⟨e, List.mem_cons_self .., ha, h⟩
      · exact .inl h
    · exact .inr ⟨e', List.mem_cons_of_mem _ h1, h2⟩
noncomputable def flushH (fs : Frees) (h : Hp) : Hp := .mk (flushT (fun _ => true) fs h.tr) h.nx h.lo
theorem flushAll_eq (fs : Frees) (h : Hp) (k : Hp → Ans) : flushAll fs h k = k (flushH fs h) := by
  cases fs with
  | nil => cases h; rfl
  | cons e fs =>
    obtain ⟨t, n, l⟩ := h
    show flushK (e :: fs) (fun _ => true) t (fun t => k (.mk t n l)) = _
    rw [flushK_eq]; rfl
noncomputable def newsT (t : Tr Blk) : Nat → Nat → List (Nat × Blk)
  | _, 0 => []
  | n, m + 1 => match t.get (path n) with
    | none => newsT t (n + 1) m
    | some b => (n, b) :: newsT t (n + 1) m
theorem newsK_go (t : Tr Blk) : ∀ (m n : Nat) (k : List (Nat × Blk) → Ans), (Nat.rec (motive := fun _ => Nat → (List (Nat × Blk) → Ans) → Ans) (fun _ k => k [])
    (fun _ ih n k => fNat (Nat.succ n) fun n' => ih n' fun r => t.getP (path n) (k r) fun b => k ((n, b) :: r)) m n k : Ans) = k (newsT t n m)
  | 0, n, k => rfl
  | m + 1, n, k => by
    show fNat (Nat.succ n) _ = _
    rw [fNat_eq]
    refine (newsK_go t m (n + 1) _).trans ?_
    rw [getP_eq]
    show _ = k (match t.get (path n) with | none => newsT t (n + 1) m | some b => (n, b) :: newsT t (n + 1) m)
    cases t.get (path n) <;> rfl
theorem newsK_eq (t : Tr Blk) (n m : Nat) (k : List (Nat × Blk) → Ans) : newsK t n m k = k (newsT t n (m - n)) := newsK_go t (m - n) n k
theorem newsT_mem {t : Tr Blk} : ∀ {m n : Nat} {b : Nat} {x : Blk}, (b, x) ∈ newsT t n m → n ≤ b ∧ b < n + m ∧ t.get (path b) = some x
  | 0, n, b, x, h => by simp [newsT] at h
  | m + 1, n, b, x, h => by
    unfold newsT at h
    cases hg : t.get (path n) with
    | none => rw [hg] at h; have := newsT_mem (m := m) h; exact ⟨by omega, by omega, this.2.2⟩
    | some y =>
      rw [hg] at h
      rcases List.mem_cons.1 h with h | h
      · injection h with h1 h2; subst h1; subst h2; exact ⟨Nat.le_refl _, by omega, hg⟩
      · have := newsT_mem (m := m) h; exact ⟨by omega, by omega, this.2.2⟩
/-! One operation of a region with free ones. -/
theorem isBar_bare (keep : Nat) (o : Oper) (D : Dl) (now : Nat) : isBar (bareCO P keep o D now) = false := by
  unfold bareCO
  split <;> try rfl
  unfold bareOf
  split <;> rfl
theorem runFree_cons (callf : CallF) (o : CO) (os : List CO) (L : List AV) (env : Tr AV) (h : Hp) (fs : Frees) (Hs : List (Nat × Hp)) (Rs : Rds) (k : Tr AV → Hp → Ans) : runFree callf (o :: os) L env h fs Hs Rs k =
    if isBar o = true then doCO callf o L env (flushH fs h) [] (fun d v h _ => allRs (barM o) Rs h fun Rs => runFree callf os (v :: L) (putE d v env) h [] ((barIx o, h) :: Hs) Rs k) else
    if isRd o = true then doCO callf o L env h fs (fun d v h fs => allHs (rdM o) Hs (chkRd callf o L env v) (runFree callf os (v :: L) (putE d v env) h fs Hs ((rdIx o, chkRd callf o L env v) :: Rs) k)) else
    doCO callf o L env h fs (fun d v h fs => runFree callf os (v :: L) (putE d v env) h fs Hs Rs k) := by
  show cnd (isBar o) (flushAll fs h fun h => doCO callf o L env h [] fun d v h _ => allRs (barM o) Rs h fun Rs => putEnv d v env fun env => runFree callf os (v :: L) env h [] ((barIx o, h) :: Hs) Rs k) (cnd (isRd o) (doCO callf o L env h fs fun d v h fs => allHs (rdM o) Hs (chkRd callf o L env v) (putEnv d v env fun env2 => runFree callf os (v :: L) env2 h fs Hs ((rdIx o, chkRd callf o L env v) :: Rs) k)) (doCO callf o L env h fs fun d v h fs => putEnv d v env fun env => runFree callf os (v :: L) env h fs Hs Rs k)) = _
  rw [cnd_eq, cnd_eq, flushAll_eq]
  simp only [putEnv_eq]
theorem isRd_bare (keep : Nat) (o : Oper) (D : Dl) (now : Nat) : isRd (bareCO P keep o D now) = false := by
  unfold bareCO
  split <;> try rfl
  unfold bareOf
  split <;> rfl
theorem isRd_mk {ops : List Oper} {keep : Nat} {o : Oper} {D : Dl} {now : Nat} {cls : Cls} {i : Nat} (h : ∀ m, cls ≠ .rd m) : isRd (mkCO P ops keep o D now cls i) = false := by
  unfold mkCO
  split
  · cases cls with
    | quiet => exact isRd_bare keep o D now
    | bar m => rfl
    | free anc => rfl
    | rd m => exact absurd rfl (h m)
  · split <;> rfl
theorem isBar_mk {ops : List Oper} {keep : Nat} {o : Oper} {D : Dl} {now : Nat} {cls : Cls} {i : Nat} : ((∀ m, cls ≠ .bar m) → isBar (mkCO P ops keep o D now cls i) = false) ∧ (∀ m, cls = .bar m → (isBar (mkCO P ops keep o D now cls i) = true ∧ barM (mkCO P ops keep o D now cls i) = m ∧ barIx (mkCO P ops keep o D now cls i) = i) ∨ mkCO P ops keep o D now cls i = .bad 182) := by
  have h1 : (∀ m, cls ≠ .bar m) → isBar (clCO cls i (bareCO P keep o D now)) = false := fun h => by
    cases cls with
    | quiet => exact isBar_bare keep o D now
    | bar m => exact absurd rfl (h m)
    | free anc => rfl
    | rd m => rfl
  unfold mkCO
  split
  · exact ⟨h1, fun m h => by subst h; exact .inl ⟨rfl, rfl, rfl⟩⟩
  · split
    · exact ⟨h1, fun m h => by subst h; exact .inl ⟨rfl, rfl, rfl⟩⟩
    · exact ⟨fun _ => rfl, fun _ _ => .inr rfl⟩
theorem mkCO_free {callf : CallF} (hcall : CallSound P callf) {keep : Nat} {ops : List Oper} {o : Oper} {anc i : Nat} {D : Dl} {now : Nat} {L : List AV} {env : Tr AV} {cv : Cv} (hl : Loc P D now L env cv) {h : Hp} {fs : Frees} {k : Option Pa → AV → Hp → Frees → Ans}
    (H : doCO callf (mkCO P ops keep o D now (.free anc) i) L env h fs k = .yes) :
    (∃ v O, wantedA ops cv o = some true ∧ Acts P o cv (.mk (flushT (fun j => inMask anc j) fs h.tr) h.nx h.nx) v O ∧ O.lo = h.nx ∧ h.nx ≤ O.nx ∧ k (dstP keep o) v (.mk h.tr O.nx h.lo) ((i, newsT O.tr h.nx (O.nx - h.nx)) :: fs) = .yes) ∨
    (wantedA ops cv o = some false ∧ k (dstP keep o) (.tup []) h fs = .yes) := by
  have hb : doCO callf (clCO (.free anc) i (bareCO P keep o D now)) L env h fs k = .yes → ∃ v O, Acts P o cv (.mk (flushT (fun j => inMask anc j) fs h.tr) h.nx h.nx) v O ∧ O.lo = h.nx ∧ h.nx ≤ O.nx ∧ k (dstP keep o) v (.mk h.tr O.nx h.lo) ((i, newsT O.tr h.nx (O.nx - h.nx)) :: fs) = .yes := fun H => by
    obtain ⟨t, n, low⟩ := h
    replace H : flushK fs (fun j => inMask anc j) t (fun t' => doCO callf (bareCO P keep o D now) L env (.mk t' n n) [] fun d v h' _ => match h' with
      | .mk t'' n' low' => cnd (Nat.beq low' n) (cnd (Nat.ble n n') (newsK t'' n n' fun d' => k d v (.mk t n' low) ((i, d') :: fs)) (.no 156)) (.no 154)) = .yes := H
    rw [flushK_eq] at H
    obtain ⟨v, O, H1, ha⟩ := bare_yes hcall hl H
    obtain ⟨t'', n', low'⟩ := O
    dsimp only at H1
    obtain ⟨h1, H2⟩ := cnd_yes H1
    obtain ⟨h2, H3⟩ := cnd_yes H2
    rw [newsK_eq] at H3
    exact ⟨v, _, ha, Nat.eq_of_beq_eq_true h1, Nat.le_of_ble_eq_true h2, H3⟩
  unfold mkCO at H
  split at H
  · rename_i hg
    obtain ⟨v, O, h1, h2, h3, h4⟩ := hb H
    exact .inl ⟨v, O, by unfold wantedA; rw [hg], h1, h2, h3, h4⟩
  · rename_i g want hg
    split at H
    · rename_i d hd
      replace H : rfK (resolveD D now d) L env (fun v => doCO.onGuard v want (doCO callf (clCO (.free anc) i (bareCO P keep o D now)) L env h fs k) (k (dstP keep o) (.tup []) h fs)) = .yes := H
      obtain ⟨x, H1, hx⟩ := rfK_yes H
      have hcx := hl.res d x hx
      have hw : wantedA ops cv o = wantV want x := by
        unfold wantedA
        rw [hg]
        dsimp only
        rw [hd]
        dsimp only
        rw [hcx]
        cases x <;> rfl
      unfold doCO.onGuard at H1
      split at H1
      · rename_i b
        rw [cnd_eq] at H1
        split at H1
        · rename_i hbw
          obtain ⟨v, O, h1, h2, h3, h4⟩ := hb H1
          exact .inl ⟨v, O, by rw [hw]; show some (b == want) = _; rw [hbw], h1, h2, h3, h4⟩
        · rename_i hbw
          exact .inr ⟨by rw [hw]; show some (b == want) = _; rw [Bool.eq_false_iff.2 hbw], H1⟩
      · exact .inr ⟨by rw [hw]; rfl, H1⟩
      · cases H1
    · cases H
theorem eqNs_eq : ∀ {l m : List Nat}, eqNs l m = true → l = m
  | [], [], _ => rfl
  | [], _ :: _, h => by cases h
  | _ :: _, [], h => by cases h
  | x :: xs, y :: ys, h => by
    unfold eqNs at h
    rw [Bool.and_eq_true] at h
    rw [Nat.eq_of_beq_eq_true h.1, eqNs_eq h.2]
theorem eqA1_eq {a b : AV} (h : eqA1 a b = true) : a = b := by
  unfold eqA1 at h
  split at h <;> first | (cases h; done) | rfl | skip
  · rw [Nat.eq_of_beq_eq_true h]
  · rw [Nat.eq_of_beq_eq_true h]
  · rw [eq_of_beq h]
  · rw [Bool.and_eq_true] at h
    rw [Nat.eq_of_beq_eq_true h.1, eqNs_eq h.2]
  · rw [Bool.and_eq_true] at h
    rw [of_decide_eq_true h.1, of_decide_eq_true h.2]
  · rw [Nat.eq_of_beq_eq_true h]
  · rw [Bool.and_eq_true] at h
    rw [Nat.eq_of_beq_eq_true h.1, Nat.eq_of_beq_eq_true h.2]
  · rw [Bool.and_eq_true] at h
    rw [Nat.eq_of_beq_eq_true h.1, Nat.eq_of_beq_eq_true h.2]
  · simp only [Bool.and_eq_true] at h
    obtain ⟨⟨⟨⟨h1, h2⟩, h3⟩, h4⟩, h5⟩ := h
    rw [Nat.eq_of_beq_eq_true h1, Nat.eq_of_beq_eq_true h2, Nat.eq_of_beq_eq_true h3, eq_of_beq h4, Nat.eq_of_beq_eq_true h5]
  · rw [Nat.eq_of_beq_eq_true h]
theorem eqAL_eq : ∀ {l m : List AV}, eqAL l m = true → l = m
  | [], [], _ => rfl
  | [], _ :: _, h => by cases h
  | _ :: _, [], h => by cases h
  | x :: xs, y :: ys, h => by
    unfold eqAL at h
    rw [Bool.and_eq_true] at h
    rw [eqA1_eq h.1, eqAL_eq h.2]
theorem eqA_eq {a b : AV} (h : eqA a b = true) : a = b := by
  unfold eqA at h
  split at h
  · rw [eqAL_eq h]
  · rw [eqAL_eq h]
  · exact eqA1_eq h
theorem rdB_guard {ops : List Oper} {bf : List Nat} {j : Nat} {y : Oper} {bj : Nat} (h : rdB ops bf j y bj = true) : y.guard = none := by
  unfold rdB at h
  rw [Bool.and_eq_true, Bool.and_eq_true] at h
  exact Option.isNone_iff_eq_none.1 h.1.2
/-- One that reads beside others. -/
theorem rdCO_yes {callf : CallF} (hcall : CallSound P callf) {keep m : Nat} {ops : List Oper} {o : Oper} {i : Nat} (hg : o.guard = none) {D : Dl} {now : Nat} {L : List AV} {env : Tr AV} {cv : Cv} (hl : Loc P D now L env cv) {h : Hp} {fs : Frees} {k : Option Pa → AV → Hp → Frees → Ans}
    (H : doCO callf (mkCO P ops keep o D now (.rd m) i) L env h fs k = .yes) : ∃ v xs, k (dstP keep o) v h fs = .yes ∧ opnds P cv o.op.operands.toList = some xs ∧ lowA h.nx v = true ∧ ReadIn P o xs v h := by
  obtain ⟨t, n, low⟩ := h
  have e : mkCO P ops keep o D now (.rd m) i = .rd i m (bareCO P keep o D now) := by unfold mkCO; rw [hg]; rfl
  rw [e] at H
  replace H : doCO callf (bareCO P keep o D now) L env (.mk t bigN bigN) [] (fun d v h' _ => doCO.sameBig h' (doCO.lowOk v (.mk t n low) (k d v (.mk t n low) fs))) = .yes := H
  obtain ⟨v, O, H1, xs, hx, ho, -⟩ := bare_yes hcall hl H
  obtain ⟨t', n', l'⟩ := O
  replace H1 : cnd (Nat.beq n' bigN) (cnd (Nat.beq l' bigN) (cnd (Nat.ble n bigN) (cnd (lowA n v) (k (dstP keep o) v (.mk t n low) fs) (.no 233)) (.no 234)) (.no 231)) (.no 232) = .yes := H1
  obtain ⟨h1, H2⟩ := cnd_yes H1
  obtain ⟨h2, H3⟩ := cnd_yes H2
  obtain ⟨h3, H4⟩ := cnd_yes H3
  obtain ⟨h4, H5⟩ := cnd_yes H4
  exact ⟨v, xs, H5, hx, h4, Nat.le_of_ble_eq_true h3, .mk t' n' l', Nat.eq_of_beq_eq_true h1, Nat.eq_of_beq_eq_true h2, ho⟩
theorem chkRd_yes {callf : CallF} (hcall : CallSound P callf) {keep m : Nat} {ops : List Oper} {o : Oper} {i : Nat} (hg : o.guard = none) {D : Dl} {now : Nat} {L : List AV} {env : Tr AV} {cv : Cv} (hl : Loc P D now L env cv) {H : Hp} {x : Ans} {v : AV} {xs : List AV} (hx : opnds P cv o.op.operands.toList = some xs)
    (C : chkRd callf (mkCO P ops keep o D now (.rd m) i) L env v H x = .yes) : x = .yes ∧ ReadIn P o xs v H := by
  obtain ⟨v', xs', h1, h2, -, h3⟩ := rdCO_yes hcall hg hl C
  obtain ⟨h4, h5⟩ := cnd_yes h1
  obtain rfl := eqA_eq h4
  rw [hx] at h2; injection h2 with h2; subst h2
  exact ⟨h5, h3⟩
theorem rdIx_mk {ops : List Oper} {keep m : Nat} {o : Oper} {D : Dl} {now : Nat} {i : Nat} (hg : o.guard = none) : rdIx (mkCO P ops keep o D now (.rd m) i) = i ∧ isRd (mkCO P ops keep o D now (.rd m) i) = true ∧ rdM (mkCO P ops keep o D now (.rd m) i) = m := by
  unfold mkCO; rw [hg]; exact ⟨rfl, rfl, rfl⟩
/-- The memories behind each bar, the last one first; the last of all is that of the beginning. -/
def HsR (f : Rcs) (h0 : Hp) : List (Nat × Hp) → Nat → Prop
  | [], _ => False
  | e :: Hs, i => (Hs = [] ∧ (∀ k, k < i → (f k).2.isBar = false) ∧ e.2.tr = h0.tr ∧ e.2.nx = h0.nx) ∨
    (e.1 < i ∧ (f e.1).2.isBar = true ∧ (∀ k, e.1 < k → k < i → (f k).2.isBar = false) ∧ e.2.tr = (bsU h0 f (e.1 + 1)).tr ∧ e.2.nx = nxU h0 f (e.1 + 1) ∧ HsR f h0 Hs e.1)
theorem allHs_yes {f : Rcs} {h0 : Hp} {m : Nat} {c : Hp → Ans → Ans} {x : Ans} {Q : Hp → Prop} (hc : ∀ H y, c H y = .yes → y = .yes ∧ Q H) : ∀ {Hs : List (Nat × Hp)} {i : Nat}, HsR f h0 Hs i → allHs m Hs c x = .yes → x = .yes ∧ ∀ cc, cc ≤ i → CutAt f cc → (∀ k, (f k).2.isBar = true → inMask m k = true → k < i → k < cc) → ∃ H, Q H ∧ H.tr = (bsU h0 f cc).tr ∧ H.nx = nxU h0 f cc
  | [], _, hr, _ => hr.elim
  | e :: Hs, i, hr, h => by
    obtain ⟨h1, h2⟩ := hc e.2 _ (show c e.2 (cnd (inMask m e.1) x (allHs m Hs c x)) = .yes from h)
    rw [cnd_eq] at h1
    rcases hr with ⟨rfl, g1, g2, g3⟩ | ⟨g1, g2, g3, g4, g5, g6⟩
    · have hx : x = .yes := by split at h1 <;> exact h1
      refine ⟨hx, fun cc hcc hcut _ => ⟨e.2, h2, ?_⟩⟩
      rcases hcut with rfl | ⟨d, rfl, hd⟩
      · exact ⟨g2, g3⟩
      · rw [g1 d (by omega)] at hd; cases hd
    · have hh : x = .yes ∧ ∀ cc, cc ≤ e.1 → CutAt f cc → (∀ k, (f k).2.isBar = true → inMask m k = true → k < i → k < cc) → ∃ H, Q H ∧ H.tr = (bsU h0 f cc).tr ∧ H.nx = nxU h0 f cc := by
        split at h1
        · rename_i hm
          exact ⟨h1, fun cc hcc _ hk => by have := hk e.1 g2 hm g1; omega⟩
        · obtain ⟨p1, p2⟩ := allHs_yes hc g6 h1
          exact ⟨p1, fun cc hcc hcut hk => p2 cc hcc hcut fun k a b c => hk k a b (by omega)⟩
      refine ⟨hh.1, fun cc hcc hcut hk => ?_⟩
      by_cases hce : cc ≤ e.1
      · exact hh.2 cc hce hcut hk
      · rcases hcut with rfl | ⟨d, rfl, hd⟩
        · omega
        · have : d = e.1 := Classical.byContradiction fun hne => by rw [g3 d (by omega) (by omega)] at hd; cases hd
          subst this
          exact ⟨e.2, h2, g4, g5⟩
/-- What of reads is asked of a memory. -/
def RdQ (Q : Nat → Hp → Prop) (Rs : Rds) : Prop := ∀ e ∈ Rs, ∀ H y, e.2 H y = .yes → y = .yes ∧ Q e.1 H
theorem allRs_yes {m : Nat} {h : Hp} {Q : Nat → Hp → Prop} : ∀ {Rs : Rds} {k : Rds → Ans}, RdQ Q Rs → allRs m Rs h k = .yes → ∃ Rs', k Rs' = .yes ∧ (∀ e ∈ Rs', e ∈ Rs) ∧ ∀ e ∈ Rs, inMask m e.1 = true ∨ (e ∈ Rs' ∧ Q e.1 h)
  | [], k, _, H => ⟨[], H, fun e h => h, fun e h => by cases h⟩
  | e :: Rs, k, hq, H => by
    have hq' : RdQ Q Rs := fun e' he' => hq e' (List.mem_cons_of_mem _ he')
    replace H : cnd (inMask m e.1) (allRs m Rs h k) (e.2 h (allRs m Rs h fun r => k (e :: r))) = .yes := H
    rw [cnd_eq] at H
    split at H
    · rename_i hm
      obtain ⟨Rs', h1, h2, h3⟩ := allRs_yes hq' H
      refine ⟨Rs', h1, fun e' he' => List.mem_cons_of_mem _ (h2 e' he'), fun e' he' => ?_⟩
      rcases List.mem_cons.1 he' with rfl | he'
      · exact .inl hm
      · exact h3 e' he'
    · obtain ⟨h1, h2⟩ := hq e (List.mem_cons_self ..) _ _ H
      obtain ⟨Rs', h3, h4, h5⟩ := allRs_yes hq' h1
      refine ⟨e :: Rs', h3, fun e' he' => ?_, fun e' he' => ?_⟩
      · rcases List.mem_cons.1 he' with rfl | he'
        · exact List.mem_cons_self ..
        · exact List.mem_cons_of_mem _ (h4 e' he')
      · rcases List.mem_cons.1 he' with rfl | he'
        · exact .inr ⟨List.mem_cons_self .., h2⟩
        · exact (h5 e' he').imp id fun h => ⟨List.mem_cons_of_mem _ h.1, h.2⟩
end Go.Ev
