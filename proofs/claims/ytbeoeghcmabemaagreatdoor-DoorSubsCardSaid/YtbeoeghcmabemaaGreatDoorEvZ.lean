/- The evaluator's regions: whatever order the tape picks. -/
import Derived.Test.YtbeoeghcmabemaaGreatDoorEvX
set_option linter.unusedVariables false
set_option linter.unusedSectionVars false
set_option linter.unusedSimpArgs false
namespace Go.Ev
variable [Sg] [Sl]
open Go.RowKit
variable {P : Program}

def cntS (S : Nat → Bool) : Nat → Nat
  | 0 => 0
  | k + 1 => cntS S k + (if S k = true then 0 else 1)
theorem cntS_zero {S : Nat → Bool} : ∀ {n}, cntS S n = 0 → ∀ j, j < n → S j = true
  | 0, _, j, h => by omega
  | n + 1, h, j, hj => by
    unfold cntS at h
    by_cases e : j = n
    · subst e
      cases hs : S j with
      | true => rfl
      | false => rw [hs] at h; simp at h
    · exact cntS_zero (n := n) (S := S) (Nat.eq_zero_of_add_eq_zero_right h) j (by omega)
theorem cntS_add {S : Nat → Bool} {i : Nat} (hi : S i = false) : ∀ n, cntS (addS S i) n + (if i < n then 1 else 0) = cntS S n
  | 0 => rfl
  | n + 1 => by
    have ih := cntS_add hi n
    unfold cntS
    by_cases e : n = i
    · subst e
      rw [addS_self, hi]
      rw [if_neg (Nat.lt_irrefl n)] at ih
      rw [if_pos (Nat.lt_succ_self n), if_pos rfl, if_neg (by simp)]
      omega
    · rw [addS_of e]
      by_cases h : i < n
      · rw [if_pos h] at ih; rw [if_pos (by omega : i < n + 1)]; omega
      · rw [if_neg h] at ih; rw [if_neg (by omega : ¬ i < n + 1)]; omega
theorem cntS_none : ∀ n, cntS (fun _ => false) n = n
  | 0 => rfl
  | n + 1 => by unfold cntS; rw [cntS_none n]; rfl
abbrev ofL (listed : Array Bool) : Nat → Bool := fun j => listed.getD j false
theorem ofL_set {listed : Array Bool} {i : Nat} (h : i < listed.size) : ofL (listed.setIfInBounds i true) = addS (ofL listed) i := by
  funext j
  unfold ofL addS
  simp only [Array.getD_eq_getD_getElem?, Array.getElem?_setIfInBounds]
  by_cases e : i = j
  · subst e; rw [if_pos rfl, if_pos h]; simp
  · rw [if_neg e, decide_eq_false (fun x => e x.symm), Bool.or_false]
section
variable {ops : List Oper} {bf : List Nat} {cv0 : Cv} {h0 : Hp} {f : Rcs} {N : Nat} {ds : List Deferred} {β0 : Bt} {w0 : World}
theorem rdy_of {arr : Array Oper} (harr : arr.toList = ops) {listed : Array Bool} (hsz : listed.size = ops.length) {i : Nat} (h : i ∈ Region.ready .any arr listed) : i < listed.size ∧ ∃ o, Rdy ops (ofL listed) i o := by
  obtain ⟨h1, o, h2, h3⟩ := mem_ready.1 h
  have hat : ops[i]? = some o := by rw [← harr, Array.getElem?_toList]; exact h2
  have hlt : i < listed.size := by rw [hsz]; exact (List.getElem?_eq_some_iff.1 hat).1
  refine ⟨hlt, o, hat, ?_, fun e he hb => h3 e he hb⟩
  simp [Array.getD, hlt] at h1 ⊢
  exact h1
theorem all_of (rg : Rg P ops bf cv0 h0 f N) {arr : Array Oper} (harr : arr.toList = ops) {listed : Array Bool} (hsz : listed.size = ops.length) (h : Region.ready .any arr listed = []) : ∀ j, j < ops.length → ofL listed j = true := by
  intro j
  induction j using Nat.strongRecOn with
  | _ j ih =>
    intro hj
    cases hs : ofL listed j with
    | true => rfl
    | false =>
      obtain ⟨o, ho⟩ : ∃ o, ops[j]? = some o := ⟨_, List.getElem?_eq_getElem hj⟩
      have : j ∈ Region.ready .any arr listed := by
        refine mem_ready.2 ⟨?_, o, by rw [← Array.getElem?_toList, harr]; exact ho, fun e he hb => ?_⟩
        · have hlt : j < listed.size := by omega
          simp [ofL, Array.getD, hlt] at hs ⊢
          exact hs
        · have := rg.dn j o e ho he hb
          exact ih e.on this (by omega)
      rw [h] at this
      cases this
/-- Whatever order is picked. -/
theorem Inv.any (rg : Rg P ops bf cv0 h0 f N) (hr0 : HR β0 h0 w0) (hg : GlobK P β0) {arr : Array Oper} (harr : arr.toList = ops) {Q : Exit → Act → World → Prop}
    (hQ : ∀ S β a w, (∀ j, j < ops.length → S j = true) → Inv P ops cv0 h0 f N ds β0 w0 S β a w → Q .normal a w) : ∀ (fuel : Nat) (listed : Array Bool) (β : Bt) (a : Act) (w : World), listed.size = ops.length → cntS (ofL listed) ops.length ≤ fuel → Inv P ops cv0 h0 f N ds β0 w0 (ofL listed) β a w → wpAny P .any arr Q fuel listed a w
  | 0, listed, β, a, w, hsz, hc, iv => by
    have hall := cntS_zero (show cntS (ofL listed) ops.length = 0 by omega)
    refine ⟨?_, hQ _ β a w hall iv⟩
    cases hr : Region.ready .any arr listed with
    | nil => rfl
    | cons i rs =>
      obtain ⟨h1, o, rd⟩ := rdy_of harr hsz (show i ∈ Region.ready .any arr listed by rw [hr]; exact List.mem_cons_self ..)
      have := hall i (by omega)
      rw [rd.no] at this; cases this
  | fuel + 1, listed, β, a, w, hsz, hc, iv => by
    refine ⟨fun h => hQ _ β a w (all_of rg harr hsz h) iv, fun i hi => ?_⟩
    obtain ⟨h1, o, rd⟩ := rdy_of harr hsz hi
    refine iv.step rg rd hr0 hg harr fun β' a' w' iv' => ?_
    rw [← ofL_set h1] at iv'
    refine Inv.any rg hr0 hg harr hQ fuel _ β' a' w' (by simpa using hsz) ?_ iv'
    rw [ofL_set h1]
    have := cntS_add rd.no ops.length
    rw [if_pos (by omega)] at this
    omega
theorem loU_anti (kn : Kn h0 f (fun k => decide (k < ops.length))) (rg : Rg P ops bf cv0 h0 f N) {c : Nat} : ∀ i, c ≤ i → i ≤ ops.length → loU h0 f i ≤ loU h0 f c
  | 0, h, _ => by rw [show c = 0 by omega]; exact Nat.le_refl _
  | i + 1, h, hi => by
    by_cases e : c = i + 1
    · rw [e]; exact Nat.le_refl _
    · refine Nat.le_trans ?_ (loU_anti kn rg i (by omega) (by omega))
      show (f i).2.lo (loU h0 f i) ≤ _
      cases hk : (f i).2 with
      | calm => exact Nat.le_refl _
      | act q I O =>
        cases q with
        | bar =>
          obtain ⟨o, ho⟩ := rg.at (i := i) (by rw [hk]; rfl)
          have h1 := (kn.ex i (by simp; omega) .bar I O hk).2.2
          have h2 := ((rg.rc i o ho).lo .bar I O hk).1 rfl
          show O.lo ≤ _
          omega
        | gen => exact Nat.le_refl _
        | mk => exact Nat.le_refl _
        | spot => exact Nat.min_le_left _ _
theorem loU_low (kn : Kn h0 f (fun k => decide (k < ops.length))) (rg : Rg P ops bf cv0 h0 f N) (hl0 : h0.lo ≤ h0.nx) {k : Nat} {q : Kind} {I O : Hp} (hk : (f k).2 = .act q I O) (hlt : k < ops.length) : loU h0 f ops.length ≤ O.lo := by
  obtain ⟨o, ho⟩ := rg.at (i := k) (by rw [hk]; rfl)
  have wr : q.wr = false → loU h0 f ops.length ≤ O.lo := fun hq => by
    have h1 := ((rg.rc k o ho).lo q I O hk).2.2 hq
    have h2 := loU_anti kn rg (c := 0) ops.length (Nat.zero_le _) (Nat.le_refl _)
    have h3 := rg.mono (Nat.zero_le k)
    have e1 : loU h0 f 0 = h0.lo := rfl
    have e2 : nxU h0 f 0 = h0.nx := rfl
    omega
  have h2 := loU_anti kn rg (c := k + 1) ops.length hlt (Nat.le_refl _)
  have e : loU h0 f (k + 1) = (f k).2.lo (loU h0 f k) := rfl
  rw [hk] at e
  cases q with
  | bar => rw [e] at h2; exact h2
  | gen => exact wr rfl
  | mk => exact wr rfl
  | spot => rw [e] at h2; exact Nat.le_trans h2 (Nat.min_le_right _ _)
/-- All are carried out. -/
theorem Inv.end_ (rg : Rg P ops bf cv0 h0 f N) (hr0 : HR β0 h0 w0) {S : Nat → Bool} {β : Bt} {a : Act} {w : World} (iv : Inv P ops cv0 h0 f N ds β0 w0 S β a w) (hS : ∀ j, j < ops.length → S j = true) {h' : Hp} (hs : Kn h0 f (fun k => decide (k < ops.length)) → ∀ b x, h'.tr.get (path b) = some x → ∃ j, j ≤ ops.length ∧ At h0 f (fun k => decide (k < ops.length)) b x j) (hn : h'.nx = nxU h0 f ops.length) (hl : h'.lo = loU h0 f ops.length)
    {env' : Tr AV} (he : ∀ t av, env'.get (path t) = some av → cvU cv0 ops f ops.length t = some av) : Post N ds β0 h0 w0 env' h' a w := by
  have eS : S = fun k => decide (k < ops.length) := funext fun k => by
    cases h : S k with
    | true => simp [iv.inb k h]
    | false =>
      by_cases hk : k < ops.length
      · rw [hS k hk] at h; cases h
      · simp [hk]
  have m := iv.mid
  have cvall := cvS_all (cv0 := cv0) (ops := ops) (f := f) hS ops.length (Nat.le_refl _)
  have hcv := iv.cv
  have hsz := iv.size
  have hds := iv.ds
  clear iv hS
  subst eS
  have kn := m.exec
  have hlow : LowB f (fun k => decide (k < ops.length)) h0 h'.lo := ⟨by rw [hl]; exact loU_anti kn rg (c := 0) ops.length (Nat.zero_le _) (Nat.le_refl _), fun k q I O hk hf => by rw [hl]; exact loU_low kn rg hr0.low hf (of_decide_eq_true hk)⟩
  have e0 : nxU h0 f 0 = h0.nx := rfl
  have h0n := rg.mono (Nat.zero_le ops.length)
  have hr : HR (restr β (nxU h0 f ops.length)) h' w := by
    have := m.hr rg (n := nxU h0 f ops.length) (t := h'.tr) (fun b x hb => by
      obtain ⟨j, hj, a⟩ := hs kn b x hb
      exact ⟨j, a, rg.mono hj⟩) (lo := h'.lo) (by have := hlow.1; have := hr0.low; omega)
    rw [show h' = .mk h'.tr (nxU h0 f ops.length) h'.lo by rw [← hn]; cases h'; rfl]
    exact this
  refine ⟨restr β (nxU h0 f ops.length), ⟨hr, by rw [hn]; omega, hlow.1, fun b hb => ?_, fun b x hb hx => ?_, fun b c κ hb e => ?_, ⟨m.os, m.tape, m.output, m.size, fun c hc h => m.kept h'.lo hlow c hc h⟩⟩, hr, fun t av ht => ?_, hsz, hds⟩
  · rw [restr_lt (by omega)]; exact m.old b hb
  · obtain ⟨j, -, a⟩ := hs kn b x hx
    exact m.pre b x j a hb
  · exact m.new b c κ hb (restr_some e).2 h'.lo hlow
  · have := he t av ht
    rw [← cvall] at this
    exact con_mono (restr_mono (rg.mono (bdS_le _)) (.refl β)) (hcv t av this)
theorem cvS_none : ∀ n, cvS cv0 ops f (fun _ => false) n = cv0
  | 0 => rfl
  | n + 1 => by unfold cvS; rw [if_neg (by simp)]; exact cvS_none n
theorem bdS_none (t : Nat) : ∀ n, bdS ops (fun _ => false) t n = 0
  | 0 => rfl
  | n + 1 => by unfold bdS; rw [if_neg (by simp)]; exact bdS_none t n
theorem At.start {b : Nat} {x : Blk} {j : Nat} (a : At h0 f (fun _ => false) b x j) : j = 0 ∧ h0.tr.get (path b) = some x := by
  rcases a.src with h | ⟨i, -, h, -⟩
  · exact h
  · cases h
/-- None is carried out. -/
theorem Inv.start {β0 : Bt} {w0 : World} (hr0 : HR β0 h0 w0) {a : Act} (hc : CvR β0 cv0 a.tmps) (hN : N ≤ a.tmps.size) : Inv P ops cv0 h0 f N a.defers β0 w0 (fun _ => false) β0 a w0 := by
  have le0 : Le β0 (restr β0 (nxU h0 f 0)) := fun b x e => by
    have : b < h0.nx := Classical.byContradiction fun h => by rw [hr0.fresh b (by omega)] at e; cases e
    rw [restr_lt (show b < nxU h0 f 0 from this)]; exact e
  refine ⟨(fun i h => by cases h), (fun i o e h => by cases h), ⟨fun b x j a => ?_, fun b b' x x' j j' c κ κ' a a' => ?_, fun _ _ => rfl, fun b x j a hb => ?_, fun b y e => ?_, fun b c κ hb e => ?_, rfl, rfl, rfl, Nat.le_refl _, (fun _ _ _ _ _ => rfl), ⟨fun b x hb => (hr0.blk b x hb).1, fun k hk => by cases hk⟩⟩, fun t av ht => ?_, hN, rfl⟩
  · obtain ⟨rfl, hx⟩ := a.start
    obtain ⟨h1, cb, κ, h2, h3⟩ := hr0.blk b x hx
    exact ⟨h1, cb, κ, h2, h3.mono le0⟩
  · exact hr0.inj b b' x x' c κ κ' a.start.2 a'.start.2
  · exact ⟨x, a.start.2⟩
  · exact .inl (Classical.byContradiction fun h => by rw [hr0.fresh b (by omega)] at e; cases e)
  · rw [hr0.fresh b hb] at e; cases e
  · rw [cvS_none] at ht
    rw [bdS_none]
    exact con_mono le0 (hc t av ht)
/-- A region that draws. -/
theorem region_any (hm : P.follows .mixedOrders = true) (rg : (∀ b x, h0.tr.get (path b) = some x → b < h0.nx) → Rg P ops bf cv0 h0 f N) {arr : Array Oper} (harr : arr.toList = ops) {h' : Hp} (hs : Kn h0 f (fun k => decide (k < ops.length)) → ∀ b x, h'.tr.get (path b) = some x → ∃ j, j ≤ ops.length ∧ At h0 f (fun k => decide (k < ops.length)) b x j) (hn : h'.nx = nxU h0 f ops.length) (hl : h'.lo = loU h0 f ops.length)
    {env' : Tr AV} (he : ∀ t av, env'.get (path t) = some av → cvU cv0 ops f ops.length t = some av) {β : Bt} {a : Act} {w : World} (hr : HR β h0 w) (hg : GlobK P β) (hc : CvR β cv0 a.tmps) (hN : N ≤ a.tmps.size) (hds : a.defers = ds) (id : Nat) :
    (Code.region id arr true).wp P (fun e a' w' => e = .normal ∧ Post N ds β h0 w env' h' a' w') a w := by
  refine wp_region_any hm ?_
  have s0 : Stp β h0 w β h0 w.drew := drewHR hr
  have rg := rg fun b x hb => (hr.blk b x hb).1
  have hsz : arr.size = ops.length := by rw [← harr]; simp
  have hnone : ofL (Array.replicate arr.size false) = fun _ => false := by
    funext j; unfold ofL
    by_cases h : j < arr.size <;> simp [Array.getD, h]
  subst hds
  refine Inv.any (ds := a.defers) rg s0.hr hg harr (fun S β' a' w' hS iv => ⟨rfl, (iv.end_ rg s0.hr hS hs hn hl he).trans hr s0⟩) arr.size (Array.replicate arr.size false) β a w.drew (by simp [hsz]) ?_ ?_
  · rw [hnone, cntS_none, hsz]; exact Nat.le_refl _
  · rw [hnone]; exact Inv.start s0.hr hc hN
end
end Go.Ev
namespace Go.Ev
variable [Sg] [Sl]
open Go.RowKit
variable {P : Program}

def maskOf (acc : List Nat) (o : Oper) : Nat := o.after.toList.foldl (fun s e => if Region.binds .any e then Nat.lor (orMask s e.on) (acc.getD e.on 0) else s) 0
theorem mask_fold (acc : List Nat) : ∀ (l : List Edge) (s j : Nat), inMask (l.foldl (fun s e => if Region.binds .any e then Nat.lor (orMask s e.on) (acc.getD e.on 0) else s) s) j = true → inMask s j = true ∨ ∃ e ∈ l, Region.binds .any e = true ∧ (e.on = j ∨ inMask (acc.getD e.on 0) j = true)
  | [], s, j, h => .inl h
  | e :: l, s, j, h => by
    rw [List.foldl_cons] at h
    rcases mask_fold acc l _ j h with h | ⟨e', h1, h2⟩
    · split at h
      · rename_i hb
        rw [inMask_lor, inMask_or, Bool.or_eq_true, Bool.or_eq_true] at h
        rcases h with (h | h) | h
        · exact .inl h
        · exact .inr ⟨e, List.mem_cons_self .., hb, .inl (of_decide_eq_true h)⟩
        · exact .inr ⟨e, List.mem_cons_self .., hb, .inr h⟩
      · exact .inl h
    · exact .inr ⟨e', List.mem_cons_of_mem _ h1, h2⟩
theorem mask_keep (acc : List Nat) : ∀ (l : List Edge) (s j : Nat), inMask s j = true → inMask (l.foldl (fun s e => if Region.binds .any e then Nat.lor (orMask s e.on) (acc.getD e.on 0) else s) s) j = true
  | [], s, j, h => h
  | e :: l, s, j, h => by
    rw [List.foldl_cons]
    refine mask_keep acc l _ j ?_
    split
    · rw [inMask_lor, inMask_or, h]; rfl
    · exact h
theorem mask_has (acc : List Nat) : ∀ (l : List Edge) (s : Nat) (e : Edge), e ∈ l → Region.binds .any e = true → inMask (l.foldl (fun s e => if Region.binds .any e then Nat.lor (orMask s e.on) (acc.getD e.on 0) else s) s) e.on = true ∧ ∀ j, inMask (acc.getD e.on 0) j = true → inMask (l.foldl (fun s e => if Region.binds .any e then Nat.lor (orMask s e.on) (acc.getD e.on 0) else s) s) j = true
  | [], s, e, h, _ => by cases h
  | e' :: l, s, e, h, hb => by
    rw [List.foldl_cons]
    rcases List.mem_cons.1 h with rfl | h
    · rw [if_pos hb]
      refine ⟨mask_keep acc l _ _ ?_, fun j hj => mask_keep acc l _ _ ?_⟩
      · rw [inMask_lor, inMask_or]; simp
      · rw [inMask_lor, hj, Bool.or_true]
    · exact mask_has acc l _ e h hb
theorem befores_go : ∀ (l : List Oper) (acc : List Nat), ∃ r, l.foldl (fun (acc : List Nat) o => acc ++ [maskOf acc o]) acc = acc ++ r ∧ r.length = l.length ∧ ∀ i o, l[i]? = some o → r[i]? = some (maskOf (acc ++ r.take i) o)
  | [], acc => ⟨[], by simp, rfl, fun i o h => by simp at h⟩
  | o :: l, acc => by
    obtain ⟨r, h1, h2, h3⟩ := befores_go l (acc ++ [maskOf acc o])
    refine ⟨maskOf acc o :: r, by rw [List.foldl_cons, h1, List.append_assoc]; rfl, by simp [h2], fun i o' h => ?_⟩
    cases i with
    | zero => simp at h; subst h; simp
    | succ i =>
      have := h3 i o' (by simpa using h)
      rw [List.getElem?_cons_succ, this, List.take_succ_cons, List.append_assoc]; rfl
theorem befores_spec (ops : List Oper) : (befores ops).length = ops.length ∧ ∀ i o j, ops[i]? = some o → inMask ((befores ops).getD i 0) j = true → ∃ e ∈ o.after, Region.binds .any e = true ∧ (e.on = j ∨ inMask ((befores ops).getD e.on 0) j = true) := by
  obtain ⟨r, h1, h2, h3⟩ := befores_go ops []
  have e : befores ops = r := h1
  rw [e]
  refine ⟨h2, fun i o j ho hm => ?_⟩
  have hr := h3 i o ho
  rw [List.getD_eq_getElem?_getD, hr] at hm
  rcases mask_fold _ _ _ _ (show inMask (o.after.toList.foldl _ 0) j = true from hm) with h | ⟨e, h4, h5, h6⟩
  · rw [inMask_zero] at h; cases h
  · refine ⟨e, Array.mem_toList_iff.1 h4, h5, h6.imp id fun h => ?_⟩
    rw [List.nil_append, List.getD_eq_getElem?_getD, List.getElem?_take] at h
    split at h
    · rw [List.getD_eq_getElem?_getD]; exact h
    · rw [Option.getD_none, inMask_zero] at h; cases h
theorem befores_edge (ops : List Oper) {i : Nat} {o : Oper} {e : Edge} (ho : ops[i]? = some o) (he : e ∈ o.after) (hb : Region.binds .any e = true) (hlt : e.on < i) : inMask ((befores ops).getD i 0) e.on = true ∧ ∀ j, inMask ((befores ops).getD e.on 0) j = true → inMask ((befores ops).getD i 0) j = true := by
  obtain ⟨r, h1, h2, h3⟩ := befores_go ops []
  have eq : befores ops = r := h1
  rw [eq]
  have hr := h3 i o ho
  rw [List.nil_append] at hr
  have e1 : r.getD i 0 = maskOf (r.take i) o := by rw [List.getD_eq_getElem?_getD, hr]; rfl
  have e2 : (r.take i).getD e.on 0 = r.getD e.on 0 := by rw [List.getD_eq_getElem?_getD, List.getElem?_take, if_pos hlt, ← List.getD_eq_getElem?_getD]
  rw [e1]
  have := mask_has (r.take i) o.after.toList 0 e (Array.mem_toList_iff.2 he) hb
  rw [e2] at this
  exact this
structure Opn (ops : List Oper) (bf : List Nat) : Prop where
  len : bf.length = ops.length
  bfs : ∀ i o j, ops[i]? = some o → inMask (bf.getD i 0) j = true → ∃ e ∈ o.after, Region.binds .any e = true ∧ (e.on = j ∨ inMask (bf.getD e.on 0) j = true)
  dn : ∀ i o e, ops[i]? = some o → e ∈ o.after → Region.binds .any e = true → e.on < i
  edge : ∀ i o e, ops[i]? = some o → e ∈ o.after → Region.binds .any e = true → inMask (bf.getD i 0) e.on = true ∧ ∀ j, inMask (bf.getD e.on 0) j = true → inMask (bf.getD i 0) j = true
  ap : ∀ i j x y, i < j → ops[i]? = some x → ops[j]? = some y → inMask (bf.getD j 0) i = true ∨ apartB ops x y = true
theorem openOk_spec {ops : List Oper} (h : openOk ops (befores ops) = true) : Opn ops (befores ops) := by
  obtain ⟨h1, h2⟩ := befores_spec ops
  unfold openOk at h
  rw [Bool.and_eq_true] at h
  obtain ⟨ha, hb⟩ := h
  have dn : ∀ i o e, ops[i]? = some o → e ∈ o.after → Region.binds .any e = true → e.on < i := fun i o e ho he hbi => by
    have := List.all_eq_true.1 ha (o, i) (List.mem_zipIdx_iff_getElem?.2 ho)
    have := List.all_eq_true.1 this e (Array.mem_toList_iff.2 he)
    rw [hbi] at this
    simpa using this
  refine ⟨h1, h2, dn, fun i o e ho he hbi => befores_edge ops ho he hbi (dn i o e ho he hbi), fun i j x y hij hx hy => ?_⟩
  · have hj : j < (befores ops).length := by rw [h1]; exact (List.getElem?_eq_some_iff.1 hy).1
    have hz : (ops.zip (befores ops))[j]? = some (y, (befores ops)[j]) := List.getElem?_zip_eq_some.2 ⟨hy, List.getElem?_eq_getElem hj⟩
    have := List.all_eq_true.1 hb ((y, (befores ops)[j]), j) (List.mem_zipIdx_iff_getElem?.2 hz)
    have := List.all_eq_true.1 this (x, i) (List.mem_zipIdx_iff_getElem?.2 (by rw [List.getElem?_take, if_pos hij]; exact hx))
    rw [Bool.or_eq_true] at this
    rw [List.getD_eq_getElem?_getD, List.getElem?_eq_getElem hj]
    exact this
theorem Opn.lt {ops : List Oper} {bf : List Nat} (h : Opn ops bf) : ∀ (i : Nat) (o : Oper) (j : Nat), ops[i]? = some o → inMask (bf.getD i 0) j = true → j < i := by
  intro i
  induction i using Nat.strongRecOn with
  | _ i ih =>
    intro o j ho hm
    obtain ⟨e, he, hb, h1⟩ := h.bfs i o j ho hm
    have hlt := h.dn i o e ho he hb
    rcases h1 with h1 | h1
    · omega
    · obtain ⟨o', ho'⟩ : ∃ o', ops[e.on]? = some o' := ⟨_, List.getElem?_eq_getElem (by have := (List.getElem?_eq_some_iff.1 ho).1; omega)⟩
      have := ih e.on hlt o' j ho' h1
      omega
theorem Opn.some {ops : List Oper} {bf : List Nat} (h : Opn ops bf) {i j : Nat} (hm : inMask (bf.getD i 0) j = true) : ∃ o, ops[i]? = some o := by
  by_cases hi : i < ops.length
  · exact ⟨_, List.getElem?_eq_getElem hi⟩
  · rw [List.getD_eq_getElem?_getD, List.getElem?_eq_none (by rw [h.len]; omega), Option.getD_none, inMask_zero] at hm; cases hm
theorem Opn.lt_ {ops : List Oper} {bf : List Nat} (h : Opn ops bf) (i j : Nat) (hm : inMask (bf.getD i 0) j = true) : j < i := by
  obtain ⟨o, ho⟩ := h.some hm
  exact h.lt i o j ho hm
theorem Opn.trs {ops : List Oper} {bf : List Nat} (h : Opn ops bf) : ∀ (i k j : Nat), inMask (bf.getD i 0) k = true → inMask (bf.getD k 0) j = true → inMask (bf.getD i 0) j = true := by
  intro i
  induction i using Nat.strongRecOn with
  | _ i ih =>
    intro k j hik hkj
    obtain ⟨o, ho⟩ := h.some hik
    obtain ⟨e, he, hb, h1⟩ := h.bfs i o k ho hik
    obtain ⟨-, h2⟩ := h.edge i o e ho he hb
    rcases h1 with rfl | h1
    · exact h2 j hkj
    · exact h2 j (ih e.on (h.dn i o e ho he hb) k j h1 hkj)
/-- Of which class an operation is. -/
inductive ClsIs (P : Program) (ops : List Oper) (bf : List Nat) (i : Nat) (o : Oper) (bi : Nat) : Cls → Prop where
  | quiet (h : quietOp P o.op = true) : ClsIs P ops bf i o bi .quiet
  | rd (h : quietOp P o.op = false) (h2 : rdB ops bf i o bi = true) : ClsIs P ops bf i o bi (.rd bi)
  | mk (h : quietOp P o.op = false) (h2 : rdB ops bf i o bi = false) (h3 : mkB P ops bf i o bi = true) : ClsIs P ops bf i o bi (.mk bi)
  | bar (h : quietOp P o.op = false) (h2 : rdB ops bf i o bi = false) (h3 : mkB P ops bf i o bi = false) (h4 : barB P ops bf i bi = true) : ClsIs P ops bf i o bi (.bar bi)
  | spot (h : quietOp P o.op = false) (h2 : rdB ops bf i o bi = false) (h3 : mkB P ops bf i o bi = false) (h4 : barB P ops bf i bi = false) (h5 : stB o = true) (h6 : spotsB P ops bf = true) : ClsIs P ops bf i o bi (.spot bi)
  | free (h : quietOp P o.op = false) (h2 : rdB ops bf i o bi = false) (h3 : mkB P ops bf i o bi = false) (h4 : barB P ops bf i bi = false) (h5 : stB o = false ∨ spotsB P ops bf = false) : ClsIs P ops bf i o bi (.free bi)
theorem cls_is (ops : List Oper) (bf : List Nat) (i : Nat) (o : Oper) (bi : Nat) : ClsIs P ops bf i o bi (clsOf P ops bf i o bi) := by
  unfold clsOf
  cases h1 : quietOp P o.op with
  | true => exact .quiet h1
  | false =>
    rw [if_neg (by simp)]
    cases h2 : rdB ops bf i o bi with
    | true => exact .rd h1 h2
    | false =>
      rw [if_neg (by simp)]
      cases h3 : mkB P ops bf i o bi with
      | true => exact .mk h1 h2 h3
      | false =>
        rw [if_neg (by simp)]
        cases h4 : barB P ops bf i bi with
        | true => exact .bar h1 h2 h3 h4
        | false =>
          rw [if_neg (by simp)]
          cases h5 : stB o with
          | false => exact .free h1 h2 h3 h4 (.inl h5)
          | true =>
            cases h6 : spotsB P ops bf with
            | false => exact .free h1 h2 h3 h4 (.inr h6)
            | true => exact .spot h1 h2 h3 h4 h5 h6
/-- Is it one that others are held against? -/
def Cls.held : Cls → Bool
  | .bar _ => true
  | .free _ => true
  | .spot _ => true
  | _ => false
theorem held_is {ops : List Oper} {bf : List Nat} {i : Nat} {o : Oper} {bi : Nat} (h : (clsOf P ops bf i o bi).held = true) : quietOp P o.op = false ∧ rdB ops bf i o bi = false ∧ mkB P ops bf i o bi = false := by
  have := cls_is (P := P) ops bf i o bi
  revert h this
  generalize clsOf P ops bf i o bi = c
  intro h this
  cases this with
  | quiet => cases h
  | rd => cases h
  | mk => cases h
  | bar a b c => exact ⟨a, b, c⟩
  | spot a b c => exact ⟨a, b, c⟩
  | free a b c => exact ⟨a, b, c⟩
theorem cls_bar {ops : List Oper} {bf : List Nat} (hl : bf.length = ops.length) {i : Nat} {o : Oper} {m : Nat} (h : clsOf P ops bf i o (bf.getD i 0) = .bar m) {j : Nat} {y : Oper} (hy : ops[j]? = some y) (hh : (clsOf P ops bf j y (bf.getD j 0)).held = true) (hne : j ≠ i) : inMask (bf.getD j 0) i = true ∨ inMask (bf.getD i 0) j = true := by
  have hi := cls_is (P := P) ops bf i o (bf.getD i 0)
  rw [h] at hi
  cases hi with
  | bar a b c d =>
    obtain ⟨q1, q2, q3⟩ := held_is hh
    have hj : j < bf.length := by rw [hl]; exact (List.getElem?_eq_some_iff.1 hy).1
    have hz : (ops.zip bf)[j]? = some (y, bf[j]) := List.getElem?_zip_eq_some.2 ⟨hy, List.getElem?_eq_getElem hj⟩
    have := List.all_eq_true.1 d ((y, bf[j]), j) (List.mem_zipIdx_iff_getElem?.2 hz)
    dsimp only at this
    have eb : bf.getD j 0 = bf[j] := by rw [List.getD_eq_getElem?_getD, List.getElem?_eq_getElem hj]; rfl
    rw [eb] at q2 q3 ⊢
    rw [q1, q2, q3, show (j == i) = false from by simp [hne]] at this
    simpa using this
theorem cls_spot {ops : List Oper} {bf : List Nat} (hl : bf.length = ops.length) {i : Nat} {o : Oper} {m : Nat} (ho : ops[i]? = some o) (h : clsOf P ops bf i o (bf.getD i 0) = .spot m) {j : Nat} {y : Oper} (hy : ops[j]? = some y) (hh : (clsOf P ops bf j y (bf.getD j 0)).held = true) (hne : j ≠ i) (hns : ∀ m, clsOf P ops bf j y (bf.getD j 0) ≠ .spot m) : inMask (bf.getD j 0) i = true ∨ inMask (bf.getD i 0) j = true := by
  have hi := cls_is (P := P) ops bf i o (bf.getD i 0)
  rw [h] at hi
  cases hi with
  | spot a b c d e g =>
    obtain ⟨q1, q2, q3⟩ := held_is hh
    by_cases hb : ∃ m, clsOf P ops bf j y (bf.getD j 0) = .bar m
    · obtain ⟨m, hb⟩ := hb
      exact (cls_bar hl hb ho (by rw [h]; rfl) (fun e => hne e.symm)).symm
    have hj : j < bf.length := by rw [hl]; exact (List.getElem?_eq_some_iff.1 hy).1
    have hz : (ops.zip bf)[j]? = some (y, bf[j]) := List.getElem?_zip_eq_some.2 ⟨hy, List.getElem?_eq_getElem hj⟩
    have hii : i < bf.length := by rw [hl]; exact (List.getElem?_eq_some_iff.1 ho).1
    have hzi : (ops.zip bf)[i]? = some (o, bf[i]) := List.getElem?_zip_eq_some.2 ⟨ho, List.getElem?_eq_getElem hii⟩
    have ei : bf.getD i 0 = bf[i] := by rw [List.getD_eq_getElem?_getD, List.getElem?_eq_getElem hii]; rfl
    have eb : bf.getD j 0 = bf[j] := by rw [List.getD_eq_getElem?_getD, List.getElem?_eq_getElem hj]; rfl
    have h1 := List.all_eq_true.1 g ((o, bf[i]), i) (List.mem_zipIdx_iff_getElem?.2 hzi)
    dsimp only at h1
    rw [← ei, e, d, Bool.not_true, Bool.false_or, Bool.false_or] at h1
    have h2 := List.all_eq_true.1 h1 ((y, bf[j]), j) (List.mem_zipIdx_iff_getElem?.2 hz)
    dsimp only at h2
    rw [← eb, q1, q2, q3, show (j == i) = false from by simp [hne]] at h2
    have hst : stB y = false := by
      cases hs : stB y with
      | false => rfl
      | true =>
        have hc := cls_is (P := P) ops bf j y (bf.getD j 0)
        revert hc hh hns hb
        generalize clsOf P ops bf j y (bf.getD j 0) = c
        intro hh hns hb hc
        cases hc with
        | quiet => cases hh
        | rd => cases hh
        | mk => cases hh
        | bar => exact absurd ⟨_, rfl⟩ hb
        | spot => exact absurd rfl (hns _)
        | free _ _ _ _ h5 =>
          rcases h5 with h5 | h5
          · rw [hs] at h5; cases h5
          · rw [g] at h5; cases h5
    rw [hst] at h2
    simpa using h2
end Go.Ev
namespace Go.Ev
variable [Sg] [Sl]
open Go.RowKit
variable {P : Program}

/-! Blocks, laid. -/
noncomputable def layT : List (Nat × Blk) → Tr Blk → Tr Blk
  | [], t => t
  | e :: d, t => layT d (t.set (path e.1) (some e.2))
theorem layK_eq : ∀ (d : List (Nat × Blk)) (t : Tr Blk) (k : Tr Blk → Ans), layK d t k = k (layT d t)
  | [], t, k => rfl
  | e :: d, t, k => by
    show t.setP (path e.1) (some e.2) (fun t => layK d t k) = _
    rw [setP_eq, layK_eq d]; rfl
theorem layT_get : ∀ {d : List (Nat × Blk)} {t : Tr Blk} {b : Nat} {x : Blk}, (layT d t).get (path b) = some x → (b, x) ∈ d ∨ (t.get (path b) = some x ∧ ∀ y, (b, y) ∉ d)
  | [], t, b, x, h => .inr ⟨h, fun y h => by cases h⟩
  | e :: d, t, b, x, h => by
    rcases layT_get (d := d) h with h | ⟨h, hn⟩
    · exact .inl (List.mem_cons_of_mem _ h)
    · rw [get_set] at h
      split at h
      · rename_i hp
        injection h with h
        have := path_inj hp
        exact .inl (by rw [this, ← h]; exact List.mem_cons_self ..)
      · rename_i hp
        refine .inr ⟨h, fun y hy => ?_⟩
        rcases List.mem_cons.1 hy with hy | hy
        · exact hp (by rw [← hy])
        · exact hn y hy
noncomputable def flushT (anc : Nat → Bool) : Frees → Tr Blk → Tr Blk
  | [], t => t
  | e :: fs, t => if anc e.1 = true then layT e.2 (flushT anc fs t) else flushT anc fs t
theorem flushK_eq (anc : Nat → Bool) : ∀ (fs : Frees) (t : Tr Blk) (k : Tr Blk → Ans), flushK fs anc t k = k (flushT anc fs t)
  | [], t, k => rfl
  | e :: fs, t, k => by
    show flushK fs anc t (fun t => cnd (anc e.1) (layK e.2 t k) (k t)) = _
    rw [flushK_eq anc fs t, cnd_eq, layK_eq]
    show _ = k (if anc e.1 = true then layT e.2 (flushT anc fs t) else flushT anc fs t)
    split <;> rfl
/-- What is laid: by the last one that has it, or from before. -/
theorem flushT_get {anc : Nat → Bool} : ∀ {fs : Frees} {t : Tr Blk} {b : Nat} {x : Blk}, fs.Pairwise (fun a b => b.1 < a.1) → (flushT anc fs t).get (path b) = some x →
    (∃ e ∈ fs, anc e.1 = true ∧ (b, x) ∈ e.2 ∧ ∀ e' ∈ fs, anc e'.1 = true → e.1 < e'.1 → ∀ y, (b, y) ∉ e'.2) ∨ (t.get (path b) = some x ∧ ∀ e ∈ fs, anc e.1 = true → ∀ y, (b, y) ∉ e.2)
  | [], t, b, x, _, h => .inr ⟨h, fun e he => by cases he⟩
  | e :: fs, t, b, x, hs, h => by
    obtain ⟨hs1, hs2⟩ := List.pairwise_cons.1 hs
    have old : (flushT anc fs t).get (path b) = some x → (anc e.1 = true → ∀ y, (b, y) ∉ e.2) → (∃ e' ∈ e :: fs, anc e'.1 = true ∧ (b, x) ∈ e'.2 ∧ ∀ e'' ∈ e :: fs, anc e''.1 = true → e'.1 < e''.1 → ∀ y, (b, y) ∉ e''.2) ∨ (t.get (path b) = some x ∧ ∀ e' ∈ e :: fs, anc e'.1 = true → ∀ y, (b, y) ∉ e'.2) := fun h hn => by
      rcases flushT_get hs2 h with ⟨e', h1, h2, h3, h4⟩ | ⟨h1, h2⟩
      · refine .inl ⟨e', List.mem_cons_of_mem _ h1, h2, h3, fun e'' he'' => ?_⟩
        rcases List.mem_cons.1 he'' with rfl | he''
        · exact fun ha _ => hn ha
        · exact h4 e'' he''
      · refine .inr ⟨h1, fun e' he' => ?_⟩
        rcases List.mem_cons.1 he' with rfl | he'
        · exact hn
        · exact h2 e' he'
    unfold flushT at h
    split at h
    · rename_i ha
      rcases layT_get h with h | ⟨h, hn⟩
      · refine .inl ⟨e, List.mem_cons_self .., ha, h, fun e' he' _ hlt => ?_⟩
        rcases List.mem_cons.1 he' with rfl | he'
        · omega
        · have := hs1 e' he'; omega
      · exact old h fun _ => hn
    · rename_i ha
      exact old h fun h => absurd h ha
noncomputable def flushH (fs : Frees) (h : Hp) : Hp := .mk (flushT (fun _ => true) fs h.tr) h.nx h.lo
theorem flushAll_eq (fs : Frees) (h : Hp) (k : Hp → Ans) : flushAll fs h k = k (flushH fs h) := by
  cases fs with
  | nil => cases h; rfl
  | cons e fs =>
    obtain ⟨t, n, l⟩ := h
    show flushK (e :: fs) (fun _ => true) t (fun t => k (.mk t n l)) = _
    rw [flushK_eq]; rfl
noncomputable def keepT (m : Nat) : Frees → Frees
  | [] => []
  | e :: fs => if inMask m e.1 = true then keepT m fs else e :: keepT m fs
theorem keepFs_eq (m : Nat) : ∀ (fs : Frees) (k : Frees → Ans), keepFs m fs k = k (keepT m fs)
  | [], k => rfl
  | e :: fs, k => by
    show keepFs m fs (fun r => cnd (inMask m e.1) (k r) (k (e :: r))) = _
    rw [keepFs_eq m fs, cnd_eq]
    show _ = k (if inMask m e.1 = true then keepT m fs else e :: keepT m fs)
    split <;> rfl
theorem keepT_mem {m : Nat} {e : Nat × List (Nat × Blk)} : ∀ {fs : Frees}, e ∈ keepT m fs ↔ e ∈ fs ∧ inMask m e.1 = false
  | [] => by simp [keepT]
  | a :: fs => by
    unfold keepT
    have ih := keepT_mem (m := m) (e := e) (fs := fs)
    split
    · rename_i h
      rw [ih, List.mem_cons]
      constructor
      · exact fun h => ⟨.inr h.1, h.2⟩
      · rintro ⟨rfl | h1, h2⟩
        · rw [h] at h2; cases h2
        · exact ⟨h1, h2⟩
    · rename_i h
      rw [List.mem_cons, List.mem_cons, ih]
      constructor
      · rintro (rfl | h1)
        · exact ⟨.inl rfl, by simpa using h⟩
        · exact ⟨.inr h1.1, h1.2⟩
      · rintro ⟨rfl | h1, h2⟩
        · exact .inl rfl
        · exact .inr ⟨h1, h2⟩
theorem keepT_srt {m : Nat} : ∀ {fs : Frees}, fs.Pairwise (fun a b => b.1 < a.1) → (keepT m fs).Pairwise (fun a b => b.1 < a.1)
  | [], _ => List.Pairwise.nil
  | a :: fs, h => by
    obtain ⟨h1, h2⟩ := List.pairwise_cons.1 h
    unfold keepT
    split
    · exact keepT_srt h2
    · exact List.pairwise_cons.2 ⟨fun b hb => h1 b (keepT_mem.1 hb).1, keepT_srt h2⟩
theorem flushBar_eq (m : Nat) (fs : Frees) (h : Hp) (k : Hp → Frees → Ans) : flushBar m fs h k = k (.mk (flushT (fun j => inMask m j) fs h.tr) h.nx h.lo) (keepT m fs) := by
  cases fs with
  | nil => cases h; rfl
  | cons e fs =>
    obtain ⟨t, n, l⟩ := h
    show flushK (e :: fs) (fun j => inMask m j) t (fun t => keepFs m (e :: fs) fun r => k (.mk t n l) r) = _
    rw [flushK_eq, keepFs_eq]; rfl
noncomputable def newsT (t : Tr Blk) : Nat → Nat → List (Nat × Blk)
  | _, 0 => []
  | n, m + 1 => match t.get (path n) with
    | none => newsT t (n + 1) m
    | some b => (n, b) :: newsT t (n + 1) m
theorem newsK_go (t : Tr Blk) : ∀ (m n : Nat) (k : List (Nat × Blk) → Ans), (Nat.rec (motive := fun _ => Nat → (List (Nat × Blk) → Ans) → Ans) (fun _ k => k [])
    (fun _ ih n k => fNat (Nat.succ n) fun n' => ih n' fun r => t.getP (path n) (k r) fun b => k ((n, b) :: r)) m n k : Ans) = k (newsT t n m)
  | 0, n, k => rfl
  | m + 1, n, k => by
    show fNat (Nat.succ n) _ = _
    rw [fNat_eq]
    refine (newsK_go t m (n + 1) _).trans ?_
    rw [getP_eq]
    show _ = k (match t.get (path n) with | none => newsT t (n + 1) m | some b => (n, b) :: newsT t (n + 1) m)
    cases t.get (path n) <;> rfl
theorem newsK_eq (t : Tr Blk) (n m : Nat) (k : List (Nat × Blk) → Ans) : newsK t n m k = k (newsT t n (m - n)) := newsK_go t (m - n) n k
theorem newsT_mem {t : Tr Blk} : ∀ {m n : Nat} {b : Nat} {x : Blk}, (b, x) ∈ newsT t n m → n ≤ b ∧ b < n + m ∧ t.get (path b) = some x
  | 0, n, b, x, h => by simp [newsT] at h
  | m + 1, n, b, x, h => by
    unfold newsT at h
    cases hg : t.get (path n) with
    | none => rw [hg] at h; have := newsT_mem (m := m) h; exact ⟨by omega, by omega, this.2.2⟩
    | some y =>
      rw [hg] at h
      rcases List.mem_cons.1 h with h | h
      · injection h with h1 h2; subst h1; subst h2; exact ⟨Nat.le_refl _, by omega, hg⟩
      · have := newsT_mem (m := m) h; exact ⟨by omega, by omega, this.2.2⟩
/-! One operation of a region with free ones. -/
theorem isBar_bare (keep : Nat) (o : Oper) (D : Dl) (now : Nat) : isBar (bareCO P keep o D now) = false := by
  unfold bareCO
  split <;> try rfl
  unfold bareOf
  split <;> rfl
theorem isRd_bare (keep : Nat) (o : Oper) (D : Dl) (now : Nat) : isRd (bareCO P keep o D now) = false := by
  unfold bareCO
  split <;> try rfl
  unfold bareOf
  split <;> rfl
theorem runFree_cons (callf : CallF) (o : CO) (os : List CO) (L : List AV) (env : Tr AV) (h : Hp) (fs : Frees) (Hs : List (Nat × Hp)) (Rs : Rds) (k : Tr AV → Hp → Ans) : runFree callf (o :: os) L env h fs Hs Rs k =
    if isBar o = true then doCO callf o L env (.mk (flushT (fun j => inMask (barM o) j) fs h.tr) h.nx h.lo) [] (fun d v h _ => allRs (barM o) Rs h fun Rs => runFree callf os (v :: L) (putE d v env) h (keepT (barM o) fs) ((barIx o, h) :: Hs) Rs k) else
    if isRd o = true then doCO callf o L env h fs (fun d v h fs => allHs (rdM o) Hs (chkRd callf o L env v) (runFree callf os (v :: L) (putE d v env) h fs Hs ((rdIx o, chkRd callf o L env v) :: Rs) k)) else
    if spotQ o = true then doCO callf o L env h fs (fun d v h fs => spotH fs Hs fun H Hs => chkRs (spotM o) Rs H (runFree callf os (v :: L) (putE d v env) h fs Hs Rs k)) else
    doCO callf o L env h fs (fun d v h fs => runFree callf os (v :: L) (putE d v env) h fs Hs Rs k) := by
  show cnd (isBar o) (flushBar (barM o) fs h fun h fs => doCO callf o L env h [] fun d v h _ => allRs (barM o) Rs h fun Rs => putEnv d v env fun env => runFree callf os (v :: L) env h fs ((barIx o, h) :: Hs) Rs k) (cnd (isRd o) (doCO callf o L env h fs fun d v h fs => allHs (rdM o) Hs (chkRd callf o L env v) (putEnv d v env fun env2 => runFree callf os (v :: L) env2 h fs Hs ((rdIx o, chkRd callf o L env v) :: Rs) k)) (cnd (spotQ o) (doCO callf o L env h fs fun d v h fs => spotH fs Hs fun H Hs => chkRs (spotM o) Rs H (putEnv d v env fun env => runFree callf os (v :: L) env h fs Hs Rs k)) (doCO callf o L env h fs fun d v h fs => putEnv d v env fun env => runFree callf os (v :: L) env h fs Hs Rs k))) = _
  rw [cnd_eq, cnd_eq, cnd_eq, flushBar_eq]
  simp only [putEnv_eq]
theorem spotQ_bare (keep : Nat) (o : Oper) (D : Dl) (now : Nat) : spotQ (bareCO P keep o D now) = false := by
  unfold bareCO
  split <;> try rfl
  unfold bareOf
  split <;> rfl
theorem isRd_mk {ops : List Oper} {keep : Nat} {o : Oper} {D : Dl} {now : Nat} {cls : Cls} {i : Nat} (h : ∀ m, cls ≠ .rd m) : isRd (mkCO P ops keep o D now cls i) = false := by
  unfold mkCO
  split
  · cases cls with
    | quiet => exact isRd_bare keep o D now
    | bar m => rfl
    | free anc => rfl
    | mk anc => rfl
    | spot anc => rfl
    | rd m => exact absurd rfl (h m)
  · split <;> rfl
theorem spotQ_mk {ops : List Oper} {keep : Nat} {o : Oper} {D : Dl} {now : Nat} {cls : Cls} {i : Nat} (h : ∀ m, cls ≠ .spot m) : spotQ (mkCO P ops keep o D now cls i) = false := by
  unfold mkCO
  split
  · cases cls with
    | quiet => exact spotQ_bare keep o D now
    | bar m => rfl
    | free anc => rfl
    | mk anc => rfl
    | spot anc => exact absurd rfl (h anc)
    | rd m => rfl
  · split <;> rfl
theorem isBar_mk {ops : List Oper} {keep : Nat} {o : Oper} {D : Dl} {now : Nat} {cls : Cls} {i : Nat} : ((∀ m, cls ≠ .bar m) → isBar (mkCO P ops keep o D now cls i) = false) ∧ (∀ m, cls = .bar m → (isBar (mkCO P ops keep o D now cls i) = true ∧ barM (mkCO P ops keep o D now cls i) = m ∧ barIx (mkCO P ops keep o D now cls i) = i) ∨ mkCO P ops keep o D now cls i = .bad 182) := by
  have h1 : (∀ m, cls ≠ .bar m) → isBar (clCO cls i (bareCO P keep o D now)) = false := fun h => by
    cases cls with
    | quiet => exact isBar_bare keep o D now
    | bar m => exact absurd rfl (h m)
    | free anc => rfl
    | mk anc => rfl
    | spot anc => rfl
    | rd m => rfl
  unfold mkCO
  split
  · exact ⟨h1, fun m h => by subst h; exact .inl ⟨rfl, rfl, rfl⟩⟩
  · split
    · exact ⟨h1, fun m h => by subst h; exact .inl ⟨rfl, rfl, rfl⟩⟩
    · exact ⟨fun _ => rfl, fun _ _ => .inr rfl⟩
/-- One that leaves what was there, in the memory that it may see. -/
theorem new_yes {callf : CallF} (hcall : CallSound P callf) {keep : Nat} {o : Oper} {D : Dl} {now : Nat} {L : List AV} {env : Tr AV} {cv : Cv} (hl : Loc P D now L env cv) {t' : Tr Blk} {i : Nat} {t : Tr Blk} {n low : Nat} {fs : Frees} {k : Option Pa → AV → Hp → Frees → Ans}
    (H : doCO.newK t' i t n low fs (fun h' kk => doCO callf (bareCO P keep o D now) L env h' [] fun d v h _ => kk v h fun h fs => k d v h fs) = .yes) :
    ∃ v O, Acts P o cv (.mk t' n n) v O ∧ O.lo = n ∧ n ≤ O.nx ∧ k (dstP keep o) v (.mk t O.nx low) ((i, newsT O.tr n (O.nx - n)) :: fs) = .yes := by
  obtain ⟨v, O, H1, ha⟩ := bare_yes hcall hl H
  obtain ⟨t'', n', low'⟩ := O
  dsimp only at H1
  obtain ⟨h1, H2⟩ := cnd_yes H1
  obtain ⟨h2, H3⟩ := cnd_yes H2
  rw [newsK_eq] at H3
  exact ⟨v, _, ha, Nat.eq_of_beq_eq_true h1, Nat.le_of_ble_eq_true h2, H3⟩
theorem mkCO_free {callf : CallF} (hcall : CallSound P callf) {keep : Nat} {ops : List Oper} {o : Oper} {anc i : Nat} {cls : Cls} {t' : Frees → Tr Blk → Tr Blk} (hcls : (cls = .free anc ∧ t' = fun fs t => flushT (fun j => inMask anc j) fs t) ∨ (cls = .mk anc ∧ t' = fun _ _ => .leaf)) {D : Dl} {now : Nat} {L : List AV} {env : Tr AV} {cv : Cv} (hl : Loc P D now L env cv) {h : Hp} {fs : Frees} {k : Option Pa → AV → Hp → Frees → Ans}
    (H : doCO callf (mkCO P ops keep o D now cls i) L env h fs k = .yes) :
    (∃ v O, wantedA ops cv o = some true ∧ Acts P o cv (.mk (t' fs h.tr) h.nx h.nx) v O ∧ O.lo = h.nx ∧ h.nx ≤ O.nx ∧ k (dstP keep o) v (.mk h.tr O.nx h.lo) ((i, newsT O.tr h.nx (O.nx - h.nx)) :: fs) = .yes) ∨
    (wantedA ops cv o = some false ∧ k (dstP keep o) (.tup []) h fs = .yes) := by
  have hb : doCO callf (clCO cls i (bareCO P keep o D now)) L env h fs k = .yes → ∃ v O, Acts P o cv (.mk (t' fs h.tr) h.nx h.nx) v O ∧ O.lo = h.nx ∧ h.nx ≤ O.nx ∧ k (dstP keep o) v (.mk h.tr O.nx h.lo) ((i, newsT O.tr h.nx (O.nx - h.nx)) :: fs) = .yes := fun H => by
    obtain ⟨t, n, low⟩ := h
    rcases hcls with ⟨rfl, rfl⟩ | ⟨rfl, rfl⟩
    · replace H : flushK fs (fun j => inMask anc j) t (fun t' => doCO.newK t' i t n low fs (fun h' kk => doCO callf (bareCO P keep o D now) L env h' [] fun d v h _ => kk v h fun h fs => k d v h fs)) = .yes := H
      rw [flushK_eq] at H
      exact new_yes hcall hl H
    · exact new_yes hcall hl (t' := .leaf) H
  unfold mkCO at H
  split at H
  · rename_i hg
    obtain ⟨v, O, h1, h2, h3, h4⟩ := hb H
    exact .inl ⟨v, O, by unfold wantedA; rw [hg], h1, h2, h3, h4⟩
  · rename_i g want hg
    split at H
    · rename_i d hd
      replace H : rfK (resolveD D now d) L env (fun v => doCO.onGuard v want (doCO callf (clCO cls i (bareCO P keep o D now)) L env h fs k) (k (dstP keep o) (.tup []) h fs)) = .yes := H
      obtain ⟨x, H1, hx⟩ := rfK_yes H
      have hcx := hl.res d x hx
      have hw : wantedA ops cv o = wantV want x := by
        unfold wantedA
        rw [hg]
        dsimp only
        rw [hd]
        dsimp only
        rw [hcx]
        cases x <;> rfl
      unfold doCO.onGuard at H1
      split at H1
      · rename_i b
        rw [cnd_eq] at H1
        split at H1
        · rename_i hbw
          obtain ⟨v, O, h1, h2, h3, h4⟩ := hb H1
          exact .inl ⟨v, O, by rw [hw]; show some (b == want) = _; rw [hbw], h1, h2, h3, h4⟩
        · rename_i hbw
          exact .inr ⟨by rw [hw]; show some (b == want) = _; rw [Bool.eq_false_iff.2 hbw], H1⟩
      · exact .inr ⟨by rw [hw]; rfl, H1⟩
      · cases H1
    · cases H
theorem apartK_yes {anc b : Nat} {x : Ans} : ∀ {fs : Frees}, doCO.apartK fs anc b x = .yes → x = .yes ∧ ∀ e ∈ fs, inMask anc e.1 = false → ∀ y, (b, y) ∉ e.2
  | [], h => ⟨h, fun e he => by cases he⟩
  | e :: fs, h => by
    have inner : ∀ (l : List (Nat × Blk)) (z : Ans), (List.rec (motive := fun _ => Ans) z (fun d _ ih2 => cnd (Nat.beq d.1 b) (.no 1541) ih2) l : Ans) = .yes → z = .yes ∧ ∀ y, (b, y) ∉ l := by
      intro l
      induction l with
      | nil => intro z h; exact ⟨h, fun y hy => by cases hy⟩
      | cons d l ih =>
        intro z h
        replace h : cnd (Nat.beq d.1 b) (.no 1541) (List.rec (motive := fun _ => Ans) z (fun d _ ih2 => cnd (Nat.beq d.1 b) (.no 1541) ih2) l) = .yes := h
        rw [cnd_eq] at h
        split at h
        · cases h
        · rename_i hne
          obtain ⟨h1, h2⟩ := ih z h
          refine ⟨h1, fun y hy => ?_⟩
          rcases List.mem_cons.1 hy with hy | hy
          · exact hne (by rw [← hy]; exact Nat.beq_refl b)
          · exact h2 y hy
    replace h : cnd (inMask anc e.1) (doCO.apartK fs anc b x) (List.rec (motive := fun _ => Ans) (doCO.apartK fs anc b x) (fun d _ ih2 => cnd (Nat.beq d.1 b) (.no 1541) ih2) e.2) = .yes := h
    rw [cnd_eq] at h
    split at h
    · rename_i ha
      obtain ⟨h1, h2⟩ := apartK_yes h
      refine ⟨h1, fun e' he' => ?_⟩
      rcases List.mem_cons.1 he' with rfl | he'
      · intro hn; rw [ha] at hn; cases hn
      · exact h2 e' he'
    · obtain ⟨h1, h2⟩ := inner e.2 _ h
      obtain ⟨h3, h4⟩ := apartK_yes h1
      refine ⟨h3, fun e' he' => ?_⟩
      rcases List.mem_cons.1 he' with rfl | he'
      · exact fun _ => h2
      · exact h4 e' he'
/-- One that writes one block. -/
theorem mkCO_spot {callf : CallF} (hcall : CallSound P callf) {keep : Nat} {ops : List Oper} {o : Oper} {anc i : Nat} (hg : o.guard = none) {D : Dl} {now : Nat} {L : List AV} {env : Tr AV} {cv : Cv} (hl : Loc P D now L env cv) {h : Hp} {fs : Frees} {k : Option Pa → AV → Hp → Frees → Ans}
    (H : doCO callf (mkCO P ops keep o D now (.spot anc) i) L env h fs k = .yes) :
    ∃ v b blk blk' O, (flushT (fun j => inMask anc j) fs h.tr).get (path b) = some blk ∧ Acts P o cv (.mk (Tr.leaf.set (path b) (some blk)) h.nx h.nx) v O ∧ O.nx = h.nx ∧ O.lo = b ∧ O.tr.get (path b) = some blk' ∧ (∀ e ∈ fs, inMask anc e.1 = false → ∀ y, (b, y) ∉ e.2) ∧
      k (dstP keep o) v (.mk h.tr h.nx (min h.lo b)) ((i, [(b, blk')]) :: fs) = .yes := by
  obtain ⟨t, n, low⟩ := h
  have e : mkCO P ops keep o D now (.spot anc) i = .free 2 i anc (bareCO P keep o D now) := by unfold mkCO; rw [hg]; rfl
  rw [e] at H
  replace H : flushK fs (fun j => inMask anc j) t (fun t' => doCO.spotK t' i anc t n low fs (fun h' kk => doCO callf (bareCO P keep o D now) L env h' [] fun d v h _ => kk v h fun h fs => k d v h fs)) = .yes := H
  rw [flushK_eq] at H
  obtain ⟨v1, O1, H1, -⟩ := bare_yes hcall hl H
  obtain ⟨t1, n1, b⟩ := O1
  replace H1 : (flushT (fun j => inMask anc j) fs t).getP (path b) (.no 157) (fun blk => Tr.setP (path b) (some blk) .leaf fun s => doCO callf (bareCO P keep o D now) L env (.mk s n n) [] fun d v h' _ => match h' with
    | .mk t'' n' low' => cnd (Nat.beq n' n) (cnd (Nat.beq low' b) (t''.getP (path b) (.no 159) fun blk' => doCO.apartK fs anc b (natMin low b fun low => k d v (.mk t n low) ((i, [(b, blk')]) :: fs))) (.no 158)) (.no 1561)) = .yes := H1
  rw [getP_eq] at H1
  cases hb : (flushT (fun j => inMask anc j) fs t).get (path b) with
  | none => rw [hb] at H1; cases H1
  | some blk =>
    rw [hb] at H1
    dsimp only at H1
    rw [setP_eq] at H1
    obtain ⟨v, O, H2, ha⟩ := bare_yes hcall hl H1
    obtain ⟨t'', n', low'⟩ := O
    dsimp only at H2
    obtain ⟨h1, H3⟩ := cnd_yes H2
    obtain ⟨h2, H4⟩ := cnd_yes H3
    rw [getP_eq] at H4
    cases hb' : t''.get (path b) with
    | none => rw [hb'] at H4; cases H4
    | some blk' =>
      rw [hb'] at H4
      dsimp only at H4
      obtain ⟨H5, h3⟩ := apartK_yes H4
      rw [natMin_eq] at H5
      exact ⟨v, b, blk, blk', _, hb, ha, Nat.eq_of_beq_eq_true h1, Nat.eq_of_beq_eq_true h2, hb', h3, H5⟩
theorem eqNs_eq : ∀ {l m : List Nat}, eqNs l m = true → l = m
  | [], [], _ => rfl
  | [], _ :: _, h => by cases h
  | _ :: _, [], h => by cases h
  | x :: xs, y :: ys, h => by
    unfold eqNs at h
    rw [Bool.and_eq_true] at h
    rw [Nat.eq_of_beq_eq_true h.1, eqNs_eq h.2]
theorem eqA1_eq {a b : AV} (h : eqA1 a b = true) : a = b := by
  unfold eqA1 at h
  split at h <;> first | (cases h; done) | rfl | skip
  · rw [Nat.eq_of_beq_eq_true h]
  · rw [Nat.eq_of_beq_eq_true h]
  · rw [eq_of_beq h]
  · rw [Bool.and_eq_true] at h
    rw [Nat.eq_of_beq_eq_true h.1, eqNs_eq h.2]
  · rw [Bool.and_eq_true] at h
    rw [of_decide_eq_true h.1, of_decide_eq_true h.2]
  · rw [Nat.eq_of_beq_eq_true h]
  · rw [Bool.and_eq_true] at h
    rw [Nat.eq_of_beq_eq_true h.1, Nat.eq_of_beq_eq_true h.2]
  · rw [Bool.and_eq_true] at h
    rw [Nat.eq_of_beq_eq_true h.1, Nat.eq_of_beq_eq_true h.2]
  · simp only [Bool.and_eq_true] at h
    obtain ⟨⟨⟨⟨h1, h2⟩, h3⟩, h4⟩, h5⟩ := h
    rw [Nat.eq_of_beq_eq_true h1, Nat.eq_of_beq_eq_true h2, Nat.eq_of_beq_eq_true h3, eq_of_beq h4, Nat.eq_of_beq_eq_true h5]
  · rw [Nat.eq_of_beq_eq_true h]
theorem eqAL_eq : ∀ {l m : List AV}, eqAL l m = true → l = m
  | [], [], _ => rfl
  | [], _ :: _, h => by cases h
  | _ :: _, [], h => by cases h
  | x :: xs, y :: ys, h => by
    unfold eqAL at h
    rw [Bool.and_eq_true] at h
    rw [eqA1_eq h.1, eqAL_eq h.2]
theorem eqA_eq {a b : AV} (h : eqA a b = true) : a = b := by
  unfold eqA at h
  split at h
  · rw [eqAL_eq h]
  · rw [eqAL_eq h]
  · exact eqA1_eq h
theorem rdB_guard {ops : List Oper} {bf : List Nat} {j : Nat} {y : Oper} {bj : Nat} (h : rdB ops bf j y bj = true) : y.guard = none := by
  unfold rdB at h
  rw [Bool.and_eq_true, Bool.and_eq_true] at h
  exact Option.isNone_iff_eq_none.1 h.1.2
/-- One that reads beside others. -/
theorem rdCO_yes {callf : CallF} (hcall : CallSound P callf) {keep m : Nat} {ops : List Oper} {o : Oper} {i : Nat} (hg : o.guard = none) {D : Dl} {now : Nat} {L : List AV} {env : Tr AV} {cv : Cv} (hl : Loc P D now L env cv) {h : Hp} {fs : Frees} {k : Option Pa → AV → Hp → Frees → Ans}
    (H : doCO callf (mkCO P ops keep o D now (.rd m) i) L env h fs k = .yes) : ∃ v xs, k (dstP keep o) v h fs = .yes ∧ opnds P cv o.op.operands.toList = some xs ∧ lowA h.nx v = true ∧ ReadIn P o xs v h := by
  obtain ⟨t, n, low⟩ := h
  have e : mkCO P ops keep o D now (.rd m) i = .rd i m (bareCO P keep o D now) := by unfold mkCO; rw [hg]; rfl
  rw [e] at H
  replace H : doCO callf (bareCO P keep o D now) L env (.mk t bigN bigN) [] (fun d v h' _ => doCO.sameBig h' (doCO.lowOk v (.mk t n low) (k d v (.mk t n low) fs))) = .yes := H
  obtain ⟨v, O, H1, xs, hx, ho, -⟩ := bare_yes hcall hl H
  obtain ⟨t', n', l'⟩ := O
  replace H1 : cnd (Nat.beq n' bigN) (cnd (Nat.beq l' bigN) (cnd (Nat.ble n bigN) (cnd (lowA n v) (k (dstP keep o) v (.mk t n low) fs) (.no 233)) (.no 234)) (.no 231)) (.no 232) = .yes := H1
  obtain ⟨h1, H2⟩ := cnd_yes H1
  obtain ⟨h2, H3⟩ := cnd_yes H2
  obtain ⟨h3, H4⟩ := cnd_yes H3
  obtain ⟨h4, H5⟩ := cnd_yes H4
  exact ⟨v, xs, H5, hx, h4, Nat.le_of_ble_eq_true h3, .mk t' n' l', Nat.eq_of_beq_eq_true h1, Nat.eq_of_beq_eq_true h2, ho⟩
theorem chkRd_yes {callf : CallF} (hcall : CallSound P callf) {keep m : Nat} {ops : List Oper} {o : Oper} {i : Nat} (hg : o.guard = none) {D : Dl} {now : Nat} {L : List AV} {env : Tr AV} {cv : Cv} (hl : Loc P D now L env cv) {H : Hp} {x : Ans} {v : AV} {xs : List AV} (hx : opnds P cv o.op.operands.toList = some xs)
    (C : chkRd callf (mkCO P ops keep o D now (.rd m) i) L env v H x = .yes) : x = .yes ∧ ReadIn P o xs v H := by
  obtain ⟨v', xs', h1, h2, -, h3⟩ := rdCO_yes hcall hg hl C
  obtain ⟨h4, h5⟩ := cnd_yes h1
  obtain rfl := eqA_eq h4
  rw [hx] at h2; injection h2 with h2; subst h2
  exact ⟨h5, h3⟩
theorem rdIx_mk {ops : List Oper} {keep m : Nat} {o : Oper} {D : Dl} {now : Nat} {i : Nat} (hg : o.guard = none) : rdIx (mkCO P ops keep o D now (.rd m) i) = i ∧ isRd (mkCO P ops keep o D now (.rd m) i) = true ∧ rdM (mkCO P ops keep o D now (.rd m) i) = m := by
  unfold mkCO; rw [hg]; exact ⟨rfl, rfl, rfl⟩
theorem spotX_mk {ops : List Oper} {keep m : Nat} {o : Oper} {D : Dl} {now : Nat} {i : Nat} (hg : o.guard = none) : spotQ (mkCO P ops keep o D now (.spot m) i) = true ∧ spotM (mkCO P ops keep o D now (.spot m) i) = m := by
  unfold mkCO; rw [hg]; exact ⟨rfl, rfl⟩
/-- What of reads is asked of a memory. -/
def RdQ (Q : Nat → Hp → Prop) (Rs : Rds) : Prop := ∀ e ∈ Rs, ∀ H y, e.2 H y = .yes → y = .yes ∧ Q e.1 H
theorem allRs_yes {m : Nat} {h : Hp} {Q : Nat → Hp → Prop} : ∀ {Rs : Rds} {k : Rds → Ans}, RdQ Q Rs → allRs m Rs h k = .yes → ∃ Rs', k Rs' = .yes ∧ (∀ e ∈ Rs', e ∈ Rs) ∧ ∀ e ∈ Rs, inMask m e.1 = true ∨ (e ∈ Rs' ∧ Q e.1 h)
  | [], k, _, H => ⟨[], H, fun e h => h, fun e h => by cases h⟩
  | e :: Rs, k, hq, H => by
    have hq' : RdQ Q Rs := fun e' he' => hq e' (List.mem_cons_of_mem _ he')
    replace H : cnd (inMask m e.1) (allRs m Rs h k) (e.2 h (allRs m Rs h fun r => k (e :: r))) = .yes := H
    rw [cnd_eq] at H
    split at H
    · rename_i hm
      obtain ⟨Rs', h1, h2, h3⟩ := allRs_yes hq' H
      refine ⟨Rs', h1, fun e' he' => List.mem_cons_of_mem _ (h2 e' he'), fun e' he' => ?_⟩
      rcases List.mem_cons.1 he' with rfl | he'
      · exact .inl hm
      · exact h3 e' he'
    · obtain ⟨h1, h2⟩ := hq e (List.mem_cons_self ..) _ _ H
      obtain ⟨Rs', h3, h4, h5⟩ := allRs_yes hq' h1
      refine ⟨e :: Rs', h3, fun e' he' => ?_, fun e' he' => ?_⟩
      · rcases List.mem_cons.1 he' with rfl | he'
        · exact List.mem_cons_self ..
        · exact List.mem_cons_of_mem _ (h4 e' he')
      · rcases List.mem_cons.1 he' with rfl | he'
        · exact .inr ⟨List.mem_cons_self .., h2⟩
        · exact (h5 e' he').imp id fun h => ⟨List.mem_cons_of_mem _ h.1, h.2⟩
theorem chkRs_yes {m : Nat} {h : Hp} {Q : Nat → Hp → Prop} {x : Ans} : ∀ {Rs : Rds}, RdQ Q Rs → chkRs m Rs h x = .yes → x = .yes ∧ ∀ e ∈ Rs, inMask m e.1 = true ∨ Q e.1 h
  | [], _, H => ⟨H, fun e he => by cases he⟩
  | e :: Rs, hq, H => by
    have hq' : RdQ Q Rs := fun e' he' => hq e' (List.mem_cons_of_mem _ he')
    replace H : cnd (inMask m e.1) (chkRs m Rs h x) (e.2 h (chkRs m Rs h x)) = .yes := H
    rw [cnd_eq] at H
    split at H
    · rename_i hm
      obtain ⟨h1, h2⟩ := chkRs_yes hq' H
      refine ⟨h1, fun e' he' => ?_⟩
      rcases List.mem_cons.1 he' with rfl | he'
      · exact .inl hm
      · exact h2 e' he'
    · obtain ⟨h1, h2⟩ := hq e (List.mem_cons_self ..) _ _ H
      obtain ⟨h3, h4⟩ := chkRs_yes hq' h1
      refine ⟨h3, fun e' he' => ?_⟩
      rcases List.mem_cons.1 he' with rfl | he'
      · exact .inr h2
      · exact h4 e' he'
end Go.Ev
