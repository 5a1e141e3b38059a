/- The evaluator's regions: whatever order the tape picks. -/
import Derived.Test.YtniednnklbdciaaDoorEvX
set_option linter.unusedVariables false
set_option linter.unusedSectionVars false
set_option linter.unusedSimpArgs false
namespace Go.Ev
variable [Sg] [Sl]
open Go.RowKit
variable {P : Program}

def cntS (S : Nat → Bool) : Nat → Nat
  | 0 => 0
  | k + 1 => cntS S k + (if S k = true then 0 else 1)
theorem cntS_zero {S : Nat → Bool} : ∀ {n}, cntS S n = 0 → ∀ j, j < n → S j = true
  | 0, _, j, h => by omega
  | n + 1, h, j, hj => by
    unfold cntS at h
    by_cases e : j = n
    · subst e
      cases hs : S j with
      | true => rfl
      | false => rw [hs] at h; simp at h
    · exact cntS_zero (n := n) (S := S) (Nat.eq_zero_of_add_eq_zero_right h) j (by omega)
theorem cntS_add {S : Nat → Bool} {i : Nat} (hi : S i = false) : ∀ n, cntS (addS S i) n + (if i < n then 1 else 0) = cntS S n
  | 0 => rfl
  | n + 1 => by
    have ih := cntS_add hi n
    unfold cntS
    by_cases e : n = i
    · subst e
      rw [addS_self, hi]
      rw [if_neg (Nat.lt_irrefl n)] at ih
      rw [if_pos (Nat.lt_succ_self n), if_pos rfl, if_neg (by simp)]
      omega
    · rw [addS_of e]
      by_cases h : i < n
      · rw [if_pos h] at ih; rw [if_pos (by omega : i < n + 1)]; omega
      · rw [if_neg h] at ih; rw [if_neg (by omega : ¬ i < n + 1)]; omega
theorem cntS_none : ∀ n, cntS (fun _ => false) n = n
  | 0 => rfl
  | n + 1 => by unfold cntS; rw [cntS_none n]; rfl
abbrev ofL (listed : Array Bool) : Nat → Bool := fun j => listed.getD j false
theorem ofL_set {listed : Array Bool} {i : Nat} (h : i < listed.size) : ofL (listed.setIfInBounds i true) = addS (ofL listed) i := by
  funext j
  unfold ofL addS
  simp only [Array.getD_eq_getD_getElem?, Array.getElem?_setIfInBounds]
  by_cases e : i = j
  · subst e; rw [if_pos rfl, if_pos h]; simp
  · rw [if_neg e, decide_eq_false (fun x => e x.symm), Bool.or_false]
section
variable {ops : List Oper} {bf : List Nat} {cv0 : Cv} {h0 : Hp} {f : Rcs} {N : Nat} {ds : List Deferred} {β0 : Bt} {w0 : World}
theorem rdy_of {arr : Array Oper} (harr : arr.toList = ops) {listed : Array Bool} (hsz : listed.size = ops.length) {i : Nat} (h : i ∈ Region.ready .any arr listed) : i < listed.size ∧ ∃ o, Rdy ops (ofL listed) i o := by
  obtain ⟨h1, o, h2, h3⟩ := mem_ready.1 h
  have hat : ops[i]? = some o := by rw [← harr, Array.getElem?_toList]; exact h2
  have hlt : i < listed.size := by rw [hsz]; exact (List.getElem?_eq_some_iff.1 hat).1
  refine ⟨hlt, o, hat, ?_, fun e he hb => h3 e he hb⟩
  simp [Array.getD, hlt] at h1 ⊢
  exact h1
theorem all_of (rg : Rg P ops bf cv0 h0 f N) {arr : Array Oper} (harr : arr.toList = ops) {listed : Array Bool} (hsz : listed.size = ops.length) (h : Region.ready .any arr listed = []) : ∀ j, j < ops.length → ofL listed j = true := by
  intro j
  induction j using Nat.strongRecOn with
  | _ j ih =>
    intro hj
    cases hs : ofL listed j with
    | true => rfl
    | false =>
      obtain ⟨o, ho⟩ : ∃ o, ops[j]? = some o := ⟨_, List.getElem?_eq_getElem hj⟩
      have : j ∈ Region.ready .any arr listed := by
        refine mem_ready.2 ⟨?_, o, by rw [← Array.getElem?_toList, harr]; exact ho, fun e he hb => ?_⟩
        · have hlt : j < listed.size := by omega
          simp [ofL, Array.getD, hlt] at hs ⊢
          exact hs
        · have := rg.dn j o e ho he hb
          exact ih e.on this (by omega)
      rw [h] at this
      cases this
/-- Whatever order is picked. -/
theorem Inv.any (rg : Rg P ops bf cv0 h0 f N) (hr0 : HR β0 h0 w0) (hg : GlobK P β0) {arr : Array Oper} (harr : arr.toList = ops) {Q : Exit → Act → World → Prop}
    (hQ : ∀ S β a w, (∀ j, j < ops.length → S j = true) → Inv P ops cv0 h0 f N ds β0 w0 S β a w → Q .normal a w) : ∀ (fuel : Nat) (listed : Array Bool) (β : Bt) (a : Act) (w : World), listed.size = ops.length → cntS (ofL listed) ops.length ≤ fuel → Inv P ops cv0 h0 f N ds β0 w0 (ofL listed) β a w → wpAny P .any arr Q fuel listed a w
  | 0, listed, β, a, w, hsz, hc, iv => by
    have hall := cntS_zero (show cntS (ofL listed) ops.length = 0 by omega)
    refine ⟨?_, hQ _ β a w hall iv⟩
    cases hr : Region.ready .any arr listed with
    | nil => rfl
    | cons i rs =>
      obtain ⟨h1, o, rd⟩ := rdy_of harr hsz (show i ∈ Region.ready .any arr listed by rw [hr]; exact List.mem_cons_self ..)
      have := hall i (by omega)
      rw [rd.no] at this; cases this
  | fuel + 1, listed, β, a, w, hsz, hc, iv => by
    refine ⟨fun h => hQ _ β a w (all_of rg harr hsz h) iv, fun i hi => ?_⟩
    obtain ⟨h1, o, rd⟩ := rdy_of harr hsz hi
    refine iv.step rg rd hr0 hg harr fun β' a' w' iv' => ?_
    rw [← ofL_set h1] at iv'
    refine Inv.any rg hr0 hg harr hQ fuel _ β' a' w' (by simpa using hsz) ?_ iv'
    rw [ofL_set h1]
    have := cntS_add rd.no ops.length
    rw [if_pos (by omega)] at this
    omega
/-- All are carried out. -/
theorem Inv.end_ (rg : Rg P ops bf cv0 h0 f N) (hr0 : HR β0 h0 w0) {S : Nat → Bool} {β : Bt} {a : Act} {w : World} (iv : Inv P ops cv0 h0 f N ds β0 w0 S β a w) (hS : ∀ j, j < ops.length → S j = true) {h' : Hp} (hs : Src f (fun _ => true) ops.length (bsU h0 f ops.length) h'.tr) (hn : h'.nx = nxU h0 f ops.length) (hl : h'.lo = (bsU h0 f ops.length).lo)
    {env' : Tr AV} (he : ∀ t av, env'.get (path t) = some av → cvU cv0 ops f ops.length t = some av) : Post N ds β0 h0 w0 env' h' a w := by
  obtain ⟨c, βb, wb, ct, m⟩ := iv.mid
  have nc : ∀ {k}, (f k).2.isBar = true → (f k).2.isCalm = false := fun {k} h => by
    revert h
    cases (f k).2 with
    | bar I O => intro _; rfl
    | calm => intro h; cases h
    | free I O => intro _; rfl
  have lt : ∀ {k}, (f k).2.isCalm = false → k < ops.length := fun {k} h => by
    obtain ⟨o, ho⟩ := rg.at h; exact (List.getElem?_eq_some_iff.1 ho).1
  have hc : c ≤ ops.length := by
    rcases ct.last with h | ⟨d, h, hd⟩
    · omega
    · have := lt (nc hd); omega
  have hfl := m.flush rg ct hc (fun k h1 h2 => by
    cases hb : (f k).2.isBar with
    | false => rfl
    | true => have := (ct.bars k hb).1 (hS k h2); omega) hs (fun j I O h _ => hS j h) (fun j I O h _ => lt (by rw [h]; rfl))
  have eh : Hp.mk h'.tr (nxU h0 f ops.length) (bsU h0 f ops.length).lo = h' := by rw [← hn, ← hl]; cases h'; rfl
  rw [eh] at hfl
  refine ⟨β, m.st.trans hr0 hfl, hfl.hr, fun t av ht => ?_, iv.size, iv.ds⟩
  have := he t av ht
  rw [← cvS_all hS ops.length (Nat.le_refl _)] at this
  exact con_mono (restr_le β _) (iv.cv t av this)
theorem cvS_none : ∀ n, cvS cv0 ops f (fun _ => false) n = cv0
  | 0 => rfl
  | n + 1 => by unfold cvS; rw [if_neg (by simp)]; exact cvS_none n
theorem bdS_none (t : Nat) : ∀ n, bdS ops (fun _ => false) t n = 0
  | 0 => rfl
  | n + 1 => by unfold bdS; rw [if_neg (by simp)]; exact bdS_none t n
/-- None is carried out. -/
theorem Inv.start {β0 : Bt} {w0 : World} (hr0 : HR β0 h0 w0) {a : Act} (hc : CvR β0 cv0 a.tmps) (hN : N ≤ a.tmps.size) : Inv P ops cv0 h0 f N a.defers β0 w0 (fun _ => false) β0 a w0 := by
  refine ⟨(fun i h => by cases h), (fun i o e h => by cases h), ⟨0, β0, w0, ⟨(fun j _ => by simp), (fun j _ h => by omega), .inl rfl⟩, ⟨.refl hr0, .refl w0, fun _ _ => rfl, fun b x e hb => ?_, (fun j I O b x h => by cases h), fun b b' cb κ κ' h => ?_⟩⟩, fun t av ht => ?_, hN, rfl⟩
  · rw [hr0.fresh b hb] at e; cases e
  · obtain ⟨j, I, O, x, h1, -⟩ := h; cases h1
  · rw [cvS_none] at ht
    rw [bdS_none]
    refine con_mono (fun b x e => ?_) (hc t av ht)
    have : b < h0.nx := Classical.byContradiction fun h => by rw [hr0.fresh b (by omega)] at e; cases e
    show restr β0 (nxU h0 f 0) b = some x
    rw [restr_lt (show b < nxU h0 f 0 from this)]; exact e
/-- A region that draws. -/
theorem region_any (hm : P.follows .mixedOrders = true) (rg : Rg P ops bf cv0 h0 f N) {arr : Array Oper} (harr : arr.toList = ops) {h' : Hp} (hs : Src f (fun _ => true) ops.length (bsU h0 f ops.length) h'.tr) (hn : h'.nx = nxU h0 f ops.length) (hl : h'.lo = (bsU h0 f ops.length).lo)
    {env' : Tr AV} (he : ∀ t av, env'.get (path t) = some av → cvU cv0 ops f ops.length t = some av) {β : Bt} {a : Act} {w : World} (hr : HR β h0 w) (hg : GlobK P β) (hc : CvR β cv0 a.tmps) (hN : N ≤ a.tmps.size) (hds : a.defers = ds) (id : Nat) :
    (Code.region id arr true).wp P (fun e a' w' => e = .normal ∧ Post N ds β h0 w env' h' a' w') a w := by
  refine wp_region_any hm ?_
  have s0 : Stp β h0 w β h0 w.drew := drewHR hr
  have hsz : arr.size = ops.length := by rw [← harr]; simp
  have hnone : ofL (Array.replicate arr.size false) = fun _ => false := by
    funext j; unfold ofL
    by_cases h : j < arr.size <;> simp [Array.getD, h]
  subst hds
  refine Inv.any (ds := a.defers) rg s0.hr hg harr (fun S β' a' w' hS iv => ⟨rfl, (iv.end_ rg s0.hr hS hs hn hl he).trans hr s0⟩) arr.size (Array.replicate arr.size false) β a w.drew (by simp [hsz]) ?_ ?_
  · rw [hnone, cntS_none, hsz]; exact Nat.le_refl _
  · rw [hnone]; exact Inv.start s0.hr hc hN
end
end Go.Ev
