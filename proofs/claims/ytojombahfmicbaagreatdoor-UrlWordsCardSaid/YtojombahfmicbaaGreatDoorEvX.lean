/- The evaluator's regions: operations in whatever order: each step. -/
import Derived.Test.YtojombahfmicbaaGreatDoorEvV
set_option linter.unusedVariables false
set_option linter.unusedSectionVars false
set_option linter.unusedSimpArgs false
namespace Go.Ev
variable [Sg] [Sl]
open Go.RowKit
variable {P : Program}

/-- A set of operations was carried out. -/
structure Inv (P : Program) (ops : List Oper) (cv0 : Cv) (h0 : Hp) (f : Rcs) (N : Nat) (ds : List Deferred) (β0 : Bt) (w0 : World) (S : Nat → Bool) (β : Bt) (a : Act) (w : World) : Prop where
  inb : ∀ i, S i = true → i < ops.length
  down : ∀ i o e, S i = true → ops[i]? = some o → e ∈ o.after → Region.binds .any e = true → S e.on = true
  mid : ∃ c βb wb, Cut f S c ∧ Mid h0 f S c β0 w0 βb wb β w
  cv : ∀ t av, cvS cv0 ops f S ops.length t = some av → con (restr β (nxU h0 f (bdS ops S t ops.length))) av = some (a.tmps.getD t undef)
  size : N ≤ a.tmps.size
  ds : a.defers = ds
/-- An operation may be carried out. -/
structure Rdy (ops : List Oper) (S : Nat → Bool) (i : Nat) (o : Oper) : Prop where
  at_ : ops[i]? = some o
  no : S i = false
  ok : ∀ e ∈ o.after, Region.binds .any e = true → S e.on = true
section
variable {ops : List Oper} {bf : List Nat} {cv0 : Cv} {h0 : Hp} {f : Rcs} {N : Nat} {ds : List Deferred} {S : Nat → Bool} {c : Nat} {β0 : Bt} {w0 : World} {β : Bt} {w : World} {a : Act} {i : Nat} {o : Oper}
theorem Rg.below (rg : Rg P ops bf cv0 h0 f N) {S : Nat → Bool} (hd : ∀ i o e, S i = true → ops[i]? = some o → e ∈ o.after → Region.binds .any e = true → S e.on = true) : ∀ (i : Nat) (o : Oper) (j : Nat), ops[i]? = some o → (∀ e ∈ o.after, Region.binds .any e = true → S e.on = true) → inMask (bf.getD i 0) j = true → S j = true := by
  intro i
  induction i using Nat.strongRecOn with
  | _ i ih =>
    intro o j ho hok hm
    obtain ⟨e, he, hb, h⟩ := rg.bfs i o j ho hm
    have hs := hok e he hb
    rcases h with h | h
    · rw [← h]; exact hs
    · have hlt := rg.dn i o e ho he hb
      have hi : i < ops.length := (List.getElem?_eq_some_iff.1 ho).1
      obtain ⟨o', ho'⟩ : ∃ o', ops[e.on]? = some o' := ⟨_, List.getElem?_eq_getElem (by omega)⟩
      exact ih e.on hlt o' j ho' (fun e' he' hb' => hd e.on o' e' hs ho' he' hb') h
theorem Inv.mask (iv : Inv P ops cv0 h0 f N ds β0 w0 S β a w) (rg : Rg P ops bf cv0 h0 f N) (rd : Rdy ops S i o) {j : Nat} (h : inMask (bf.getD i 0) j = true) : S j = true :=
  rg.below iv.down i o j rd.at_ rd.ok h
theorem Inv.mask' (iv : Inv P ops cv0 h0 f N ds β0 w0 S β a w) (rg : Rg P ops bf cv0 h0 f N) {k : Nat} (hk : S k = true) {j : Nat} (h : inMask (bf.getD k 0) j = true) : S j = true := by
  obtain ⟨o, ho⟩ : ∃ o, ops[k]? = some o := ⟨_, List.getElem?_eq_getElem (iv.inb k hk)⟩
  exact rg.below iv.down k o j ho (fun e he hb => iv.down k o e hk ho he hb) h
/-- Those before it write what it reads; those behind it do not. -/
theorem apartB_left {ops : List Oper} {x y : Oper} {d : Tmp} (h : apartB ops x y = true) (hd : x.dst = some d) : d ∉ readsOf ops y ∧ y.dst ≠ some d := by
  unfold apartB at h
  rw [hd] at h
  dsimp only at h
  rw [Bool.and_eq_true, Bool.and_eq_true] at h
  obtain ⟨⟨h1, h2⟩, -⟩ := h
  refine ⟨fun hm => ?_, by simpa using h2⟩
  simp [hm] at h1
theorem apartB_right {ops : List Oper} {x y : Oper} {d : Tmp} (h : apartB ops x y = true) (hd : y.dst = some d) : d ∉ readsOf ops x := by
  unfold apartB at h
  rw [hd] at h
  dsimp only at h
  rw [Bool.and_eq_true] at h
  intro hm
  have := h.2
  simp [hm] at this
theorem dstAt_some {k : Nat} {t : Tmp} (h : dstAt ops k = some t) : ∃ o, ops[k]? = some o ∧ o.dst = some t := by
  unfold dstAt at h
  exact Option.bind_eq_some_iff.1 h
theorem dstAt_at (h : ops[i]? = some o) : dstAt ops i = o.dst := by unfold dstAt; rw [h]; rfl
theorem Inv.agree (iv : Inv P ops cv0 h0 f N ds β0 w0 S β a w) (rg : Rg P ops bf cv0 h0 f N) (rd : Rdy ops S i o) {t : Tmp} (ht : t ∈ readsOf ops o) : ∀ k, S k ≠ decide (k < i) → dstAt ops k ≠ some t := by
  intro k hk hd
  obtain ⟨y, hy, hyd⟩ := dstAt_some hd
  by_cases hlt : k < i
  · rw [decide_eq_true hlt] at hk
    rcases rg.ap k i y o hlt hy rd.at_ with h | h
    · exact hk (iv.mask rg rd h)
    · exact (apartB_left h hyd).1 ht
  · rw [decide_eq_false hlt] at hk
    have hSk : S k = true := by simpa using hk
    have hne : k ≠ i := fun e => by rw [e, rd.no] at hSk; cases hSk
    rcases rg.ap i k o y (by omega) rd.at_ hy with h | h
    · have := iv.mask' rg hSk h; rw [rd.no] at this; cases this
    · exact apartB_right h hyd ht
theorem Inv.later (iv : Inv P ops cv0 h0 f N ds β0 w0 S β a w) (rg : Rg P ops bf cv0 h0 f N) (rd : Rdy ops S i o) : ∀ k, i < k → S k = true → dstAt ops i ≠ none → dstAt ops k ≠ dstAt ops i := by
  intro k hik hSk hn he
  rw [dstAt_at rd.at_] at hn he
  cases hd : o.dst with
  | none => exact hn hd
  | some d =>
    rw [hd] at he
    obtain ⟨y, hy, hyd⟩ := dstAt_some he
    rcases rg.ap i k o y hik rd.at_ hy with h | h
    · have := iv.mask' rg hSk h; rw [rd.no] at this; cases this
    · exact (apartB_left h hd).2 hyd
/-- What it reads is what was written down. -/
noncomputable def cvR (ops : List Oper) (cv : Cv) (o : Oper) : Cv := fun t => if t ∈ readsOf ops o then cv t else none
theorem Inv.reads (iv : Inv P ops cv0 h0 f N ds β0 w0 S β a w) (rg : Rg P ops bf cv0 h0 f N) (rd : Rdy ops S i o) : CvR (restr β (nxU h0 f i)) (cvR ops (cvU cv0 ops f i) o) a.tmps := by
  intro t av ht
  unfold cvR at ht
  split at ht
  · rename_i hm
    have ag := iv.agree rg rd hm
    have hi : i < ops.length := (List.getElem?_eq_some_iff.1 rd.at_).1
    have e := cvS_agree (cv0 := cv0) (f := f) ag ops.length
    rw [show min ops.length i = i by omega] at e
    exact con_mono (restr_mono (rg.mono (bdS_agree ag ops.length)) (.refl β)) (iv.cv t av (e.trans ht))
  · cases ht
theorem opnds_congr {cv cv' : Cv} : ∀ {xs : List Operand}, (∀ t, Operand.tmp t ∈ xs → cv t = cv' t) → opnds P cv xs = opnds P cv' xs
  | [], _ => rfl
  | x :: xs, h => by
    have h1 : opnd P cv x = opnd P cv' x := by
      cases x with
      | tmp t => exact h t (List.mem_cons_self ..)
      | _ => rfl
    have h2 := opnds_congr (xs := xs) (fun t ht => h t (List.mem_cons_of_mem _ ht))
    simp only [opnds, h1, h2]
theorem opnds_reads (cv : Cv) (o : Oper) : opnds P cv o.op.operands.toList = opnds P (cvR ops cv o) o.op.operands.toList :=
  opnds_congr fun t ht => by
    unfold cvR
    rw [if_pos]
    unfold readsOf
    exact List.mem_append_left _ (List.mem_filterMap.2 ⟨_, ht, rfl⟩)
theorem wantedA_reads (cv : Cv) (o : Oper) : wantedA ops cv o = wantedA ops (cvR ops cv o) o := by
  unfold wantedA
  cases hg : o.guard with
  | none => rfl
  | some p =>
    obtain ⟨g, want⟩ := p
    dsimp only
    cases hd : (ops[g]?).bind (·.dst) with
    | none => rfl
    | some d =>
      dsimp only
      have : cvR ops cv o d = cv d := by
        unfold cvR
        rw [if_pos]
        unfold readsOf
        rw [hg]
        dsimp only
        rw [hd]
        exact List.mem_append_right _ (by simp)
      rw [this]
/-- Its value is laid. -/
theorem Inv.put (iv : Inv P ops cv0 h0 f N ds β0 w0 S β a w) (rg : Rg P ops bf cv0 h0 f N) (rd : Rdy ops S i o) {β' : Bt} {w' : World} {u : Value} (hl : Le β β')
    (hm : ∃ c βb wb, Cut f (addS S i) c ∧ Mid h0 f (addS S i) c β0 w0 βb wb β' w') (hv : ∀ v, (f i).1 = some v → con (restr β' (nxU h0 f (i + 1))) v = some u) : Inv P ops cv0 h0 f N ds β0 w0 (addS S i) β' (a.put o.dst u) w' := by
  have hi : i < ops.length := (List.getElem?_eq_some_iff.1 rd.at_).1
  have hsub : ∀ k, S k = true → addS S i k = true := fun k h => by unfold addS; rw [h]; rfl
  refine ⟨fun k hk => ?_, fun k o' e hk ho' he hb => ?_, hm, fun t av ht => ?_, by rw [put_size]; exact iv.size, by rw [put_defers]; exact iv.ds⟩
  · unfold addS at hk
    rw [Bool.or_eq_true] at hk
    rcases hk with hk | hk
    · exact iv.inb k hk
    · rw [of_decide_eq_true hk]; exact hi
  · unfold addS at hk
    rw [Bool.or_eq_true] at hk
    rcases hk with hk | hk
    · exact hsub _ (iv.down k o' e hk ho' he hb)
    · have hk := of_decide_eq_true hk
      subst hk
      rw [rd.at_] at ho'; injection ho' with ho'; subst ho'
      exact hsub _ (rd.ok e he hb)
  · rw [cvS_add rd.no (iv.later rg rd) ops.length t, if_pos hi, dstAt_at rd.at_] at ht
    have old : cvS cv0 ops f S ops.length t = some av → o.dst ≠ some t → con (restr β' (nxU h0 f (bdS ops (addS S i) t ops.length))) av = some ((a.put o.dst u).tmps.getD t undef) := fun ht hne => by
      have := con_mono (restr_mono (rg.mono (bdS_mono hsub ops.length)) hl) (iv.cv t av ht)
      rw [this]
      congr 1
      unfold Act.put
      cases hd : o.dst with
      | none => rfl
      | some d =>
        dsimp only
        simp only [Array.getD_eq_getD_getElem?, Array.getElem?_setIfInBounds]
        rw [if_neg (fun x => hne (by rw [hd, x]))]
    unfold updO at ht
    cases hd : o.dst with
    | none => rw [hd] at ht; rw [← hd]; exact old ht (by rw [hd]; simp)
    | some d =>
      rw [hd] at ht
      dsimp only at ht
      by_cases e : t = d
      · subst e
        rw [if_pos rfl] at ht
        have h1 := hv av ht
        have hlt : t < a.tmps.size := Nat.lt_of_lt_of_le (rg.dst i t (by rw [dstAt_at rd.at_, hd])) iv.size
        have hb := bdS_ge (S := addS S i) (ops := ops) (i := i) (t := t) (by unfold addS; simp) (by rw [dstAt_at rd.at_, hd]) ops.length hi
        rw [con_mono (restr_mono (rg.mono hb) (.refl β')) h1]
        simp [Act.put, Array.getD, hlt]
      · rw [if_neg e] at ht
        rw [← hd]
        exact old ht (by rw [hd]; intro x; injection x with x; exact e x.symm)
theorem addS_of {k : Nat} (h : k ≠ i) : addS S i k = S k := by unfold addS; rw [decide_eq_false h, Bool.or_false]
theorem addS_self : addS S i i = true := by unfold addS; simp
/-- Memory behind a calm operation. -/
theorem Mid.calm {βb : Bt} {wb w' : World} (m : Mid h0 f S c β0 w0 βb wb β w) (ct : Cut f S c) (hi : (f i).2 = .calm) (he : Ext w w') : Cut f (addS S i) c ∧ Mid h0 f (addS S i) c β0 w0 βb wb β w' := by
  have hne : ∀ {j I O}, (f j).2 = .free I O → j ≠ i := fun h e => by rw [e, hi] at h; cases h
  have hsub : ∀ k, S k = true → addS S i k = true := fun k h => by unfold addS; rw [h]; rfl
  have nb : ∀ {b}, NewB f (addS S i) c b → NewB f S c b := fun ⟨j, I, O, x, h1, h2, h3, h4⟩ => ⟨j, I, O, x, by rwa [addS_of (hne h3)] at h1, h2, h3, h4⟩
  refine ⟨⟨fun j hj => ?_, fun j hj hl => hsub j (ct.low j hj hl), ct.last⟩, m.st, m.ext.trans he, m.old, fun b x e hb => ?_, fun j I O b x h1 h2 h3 h4 h5 h6 => ?_, fun b b' cb κ κ' h h' => m.inj b b' cb κ κ' (nb h) (nb h')⟩
  · rw [addS_of (fun e => by rw [e, hi] at hj; cases hj)]; exact ct.bars j hj
  · obtain ⟨h1, j, I, O, h2, h3⟩ := m.dom b x e hb
    exact ⟨h1, j, I, O, hsub j h2, h3⟩
  · rw [addS_of (hne h3)] at h1
    obtain ⟨cb, κ, h7, h8⟩ := m.new j I O b x h1 h2 h3 h4 h5 h6
    exact ⟨cb, κ, h7, h8.ext he⟩
/-- Between the last bar and what comes. -/
theorem Inv.cut (iv : Inv P ops cv0 h0 f N ds β0 w0 S β a w) (rg : Rg P ops bf cv0 h0 f N) (rd : Rdy ops S i o) (ct : Cut f S c) (hi : (f i).2.isCalm = false) : c ≤ i ∧ ∀ k, c ≤ k → k < i → (f k).2.isBar = false := by
  refine ⟨Classical.byContradiction fun h => ?_, fun k h1 h2 => ?_⟩
  · have := ct.low i hi (by omega); rw [rd.no] at this; cases this
  · cases hb : (f k).2.isBar with
    | false => rfl
    | true =>
      have hcalm : (f k).2.isCalm = false := by
        revert hb
        cases (f k).2 with
        | bar I O => intro _; rfl
        | calm => intro h; cases h
        | free I O => intro _; rfl
      have hm := (rg.rc i o rd.at_).ord hi k h2 hcalm (.inr hb)
      have := (ct.bars k hb).1 (iv.mask rg rd hm)
      omega
end
end Go.Ev
namespace Go.Ev
variable [Sg] [Sl]
open Go.RowKit
variable {P : Program}

section
variable {ops : List Oper} {bf : List Nat} {cv0 : Cv} {h0 : Hp} {f : Rcs} {N : Nat} {ds : List Deferred} {S : Nat → Bool} {c : Nat} {β0 : Bt} {w0 : World} {β : Bt} {w : World} {a : Act} {i : Nat} {o : Oper}
/-- No number of one that was not carried out is in use. -/
theorem Mid.unused (rg : Rg P ops bf cv0 h0 f N) {βb : Bt} {wb : World} (m : Mid h0 f S c β0 w0 βb wb β w) (ct : Cut f S c) (hci : c ≤ i) (hn : S i = false) {b : Nat} (h1 : nxU h0 f i ≤ b) (h2 : b < nxU h0 f (i + 1)) : β b = none := by
  have hbx : (bsU h0 f c).nx = nxU h0 f c := bsU_nx (ops := ops) ct.last
  cases e : β b with
  | none => rfl
  | some x =>
    obtain ⟨-, j, I, O, h3, h4, h5, h6, h7⟩ := m.dom b x e (by rw [hbx]; exact Nat.le_trans (rg.mono hci) h1)
    obtain ⟨e1, e2⟩ := rg.free h5
    rcases Nat.lt_trichotomy j i with h | h | h
    · have := rg.mono (show j + 1 ≤ i by omega); omega
    · rw [h, hn] at h3; cases h3
    · have := rg.mono (show i + 1 ≤ j by omega); omega
/-- Memory behind a free operation. -/
theorem Mid.free_ (rg : Rg P ops bf cv0 h0 f N) {βb : Bt} {wb w' : World} (m : Mid h0 f S c β0 w0 βb wb β w) (ct : Cut f S c) (hci : c ≤ i) (hn : S i = false) {I O : Hp} (hi : (f i).2 = .free I O) (hlo : O.lo = nxU h0 f i) {β2 : Bt} (s : Stp (restr β (nxU h0 f i)) I w β2 O w') :
    ∃ β', Le β β' ∧ Le β2 (restr β' (nxU h0 f (i + 1))) ∧ Cut f (addS S i) c ∧ Mid h0 f (addS S i) c β0 w0 βb wb β' w' := by
  have hbx : (bsU h0 f c).nx = nxU h0 f c := bsU_nx (ops := ops) ct.last
  obtain ⟨eI, eO⟩ := rg.free hi
  have hcn := rg.mono hci
  have hii := rg.mono (Nat.le_succ i)
  have he : Ext w w' := s.kept.ext fun b hb => restr_ge (by rw [hlo] at hb; exact hb)
  have hsub : ∀ k, S k = true → addS S i k = true := fun k h => by unfold addS; rw [h]; rfl
  let β' : Bt := fun b => if nxU h0 f i ≤ b ∧ b < nxU h0 f (i + 1) then β2 b else β b
  have in_ : ∀ {b}, nxU h0 f i ≤ b → b < nxU h0 f (i + 1) → β' b = β2 b := fun h1 h2 => if_pos ⟨h1, h2⟩
  have out_ : ∀ {b}, ¬ (nxU h0 f i ≤ b ∧ b < nxU h0 f (i + 1)) → β' b = β b := fun h => if_neg h
  have hl : Le β β' := fun b x e => by
    by_cases hr : nxU h0 f i ≤ b ∧ b < nxU h0 f (i + 1)
    · rw [m.unused rg ct hci hn hr.1 hr.2] at e; cases e
    · rw [out_ hr]; exact e
  have hl2 : Le β2 (restr β' (nxU h0 f (i + 1))) := fun b x e => by
    have hlt : b < nxU h0 f (i + 1) := Classical.byContradiction fun h => by rw [s.hr.fresh b (by omega)] at e; cases e
    rw [restr_lt hlt]
    by_cases h : nxU h0 f i ≤ b
    · rw [in_ h hlt]; exact e
    · rw [s.old b (by omega), restr_lt (by omega)] at e
      rw [out_ (by omega)]; exact e
  have far : ∀ {j I' O' b}, (f j).2 = .free I' O' → j ≠ i → I'.nx ≤ b → b < O'.nx → β' b = β b := fun {j I' O' b} h1 h2 h3 h4 => by
    obtain ⟨e1, e2⟩ := rg.free h1
    refine out_ fun h => ?_
    rcases Nat.lt_or_gt_of_ne h2 with h5 | h5
    · have := rg.mono (show j + 1 ≤ i by omega); omega
    · have := rg.mono (show i + 1 ≤ j by omega); omega
  have newlt : ∀ {b cb κ}, nxU h0 f i ≤ b → β2 b = some (cb, κ) → w.heap.size ≤ cb := fun {b cb κ} h1 e => by
    rcases s.new b cb κ (by omega) e with h | ⟨x, κ', h2, h3, -⟩
    · exact h
    · omega
  have nb : ∀ {b}, NewB f (addS S i) c b → (NewB f S c b ∧ β' b = β b) ∨ (nxU h0 f i ≤ b ∧ β' b = β2 b ∧ ∃ x, O.tr.get (path b) = some x) := fun {b} ⟨j, I', O', x, h1, h2, h3, h4, h5, h6⟩ => by
    by_cases e : j = i
    · subst e
      rw [hi] at h3; injection h3 with h3 h3'; subst h3; subst h3'
      exact .inr ⟨by omega, in_ (by omega) (by omega), x, h6⟩
    · rw [addS_of e] at h1
      exact .inl ⟨⟨j, I', O', x, h1, h2, h3, h4, h5, h6⟩, far h3 e h4 h5⟩
  refine ⟨β', hl, hl2, ⟨fun j hj => ?_, fun j hj hlt => hsub j (ct.low j hj hlt), ct.last⟩, m.st, m.ext.trans he, fun b hb => ?_, fun b x e hb => ?_, fun j I' O' b x h1 h2 h3 h4 h5 h6 => ?_, fun b b' cb κ κ' h h' e e' => ?_⟩
  · rw [addS_of (fun e => by rw [e, hi] at hj; cases hj)]; exact ct.bars j hj
  · rw [out_ (by omega)]; exact m.old b hb
  · by_cases hr : nxU h0 f i ≤ b ∧ b < nxU h0 f (i + 1)
    · rw [in_ hr.1 hr.2] at e
      exact ⟨Nat.le_trans m.ext.size (newlt (κ := x.2) hr.1 e), i, I, O, addS_self, hci, hi, by omega, by omega⟩
    · rw [out_ hr] at e
      obtain ⟨h1, j, I', O', h2, h3⟩ := m.dom b x e hb
      exact ⟨h1, j, I', O', hsub j h2, h3⟩
  · by_cases e : j = i
    · subst e
      rw [hi] at h3; injection h3 with h3 h3'; subst h3; subst h3'
      obtain ⟨-, cb, κ, h7, h8⟩ := s.hr.blk b x h6
      rw [in_ (by omega) (by omega)]
      exact ⟨cb, κ, h7, h8.mono (by rw [eO]; exact hl2)⟩
    · rw [addS_of e] at h1
      obtain ⟨cb, κ, h7, h8⟩ := m.new j I' O' b x h1 h2 h3 h4 h5 h6
      exact ⟨cb, κ, hl _ _ h7, (h8.ext he).mono (restr_mono (Nat.le_refl _) hl)⟩
  · have old : ∀ {b cb κ}, NewB f S c b → β b = some (cb, κ) → cb < w.heap.size := fun {b cb κ} ⟨j, I', O', x, h1, h2, h3, h4, h5, h6⟩ e => by
      obtain ⟨cb', κ', h7, h8⟩ := m.new j I' O' b x h1 h2 h3 h4 h5 h6
      rw [e] at h7; injection h7 with h7; injection h7 with h7 h7'; subst h7
      exact h8.lt
    rcases nb h with ⟨h1, h2⟩ | ⟨h1, h2, x, h3⟩ <;> rcases nb h' with ⟨h1', h2'⟩ | ⟨h1', h2', x', h3'⟩
    · rw [h2] at e; rw [h2'] at e'; exact m.inj b b' cb κ κ' h1 h1' e e'
    · rw [h2] at e; rw [h2'] at e'
      have a1 := old h1 e
      have a2 := newlt h1' e'
      omega
    · rw [h2] at e; rw [h2'] at e'
      have a1 := old h1' e'
      have a2 := newlt h1 e
      omega
    · rw [h2] at e; rw [h2'] at e'; exact s.hr.inj b b' x x' cb κ κ' h3 h3' e e'
/-- Memory behind a bar. -/
theorem Mid.bar_ {βb : Bt} {wb w' : World} (iv : Inv P ops cv0 h0 f N ds β0 w0 S β a w) (rg : Rg P ops bf cv0 h0 f N) (rd : Rdy ops S i o) (hr0 : HR β0 h0 w0) (m : Mid h0 f S c β0 w0 βb wb β w) (ct : Cut f S c) {I O : Hp} (hi : (f i).2 = .bar I O) :
    Stp βb (bsU h0 f c) wb β I w ∧ restr β (nxU h0 f i) = β ∧ ∀ β' w', Stp β I w β' O w' → Cut f (addS S i) (i + 1) ∧ Mid h0 f (addS S i) (i + 1) β0 w0 β' w' β' w' := by
  obtain ⟨hci, hnb⟩ := iv.cut rg rd ct (by rw [hi]; rfl)
  have rc := rg.rc i o rd.at_
  obtain ⟨hno, -, hsrc, hInx, hIlo⟩ := rc.bar I O hi
  have before : ∀ j, j < i → (f j).2.isCalm = false → S j = true := fun j h1 h2 => iv.mask rg rd (rc.ord (by rw [hi]; rfl) j h1 h2 (.inl (by rw [hi]; rfl)))
  have after : ∀ j, i < j → (f j).2.isCalm = false → S j = false := fun j h1 h2 => by
    cases hs : S j with
    | false => rfl
    | true =>
      obtain ⟨o', ho'⟩ := rg.at h2
      have := iv.mask' rg hs ((rg.rc j o' ho').ord h2 i h1 (by rw [hi]; rfl) (.inr (by rw [hi]; rfl)))
      rw [rd.no] at this; cases this
  have hp2 : ∀ j I O, (f j).2 = .free I O → S j = true → j < i := fun j I' O' h1 h2 => by
    rcases Nat.lt_trichotomy j i with h | h | h
    · exact h
    · rw [h, hi] at h1; cases h1
    · rw [after j h (by rw [h1]; rfl)] at h2; cases h2
  have hfl := m.flush rg ct hci hnb hsrc (fun j I O h1 h2 => before j h1 (by rw [h2]; rfl)) hp2
  have eI : Hp.mk I.tr (nxU h0 f i) (bsU h0 f i).lo = I := by rw [← hInx, ← hIlo]; cases I; rfl
  rw [eI] at hfl
  have hre : restr β (nxU h0 f i) = β := funext fun b => by
    by_cases hb : b < nxU h0 f i
    · exact restr_lt hb
    · rw [restr_ge (by omega), hfl.hr.fresh b (by omega)]
  have eO : bsU h0 f (i + 1) = O := by show (f i).2.bs _ = O; rw [hi]; rfl
  refine ⟨hfl, hre, fun β' w' s => ⟨⟨fun j hj => ?_, fun j hj hl => ?_, .inr ⟨i, rfl, by rw [hi]; rfl⟩⟩, ?_⟩⟩
  · have hc : (f j).2.isCalm = false := by
      revert hj
      cases (f j).2 with
      | bar I O => intro _; rfl
      | calm => intro h; cases h
      | free I O => intro _; rfl
    rcases Nat.lt_trichotomy j i with h | h | h
    · rw [addS_of (by omega), before j h hc]; simp; omega
    · subst h; rw [addS_self]; simp
    · rw [addS_of (by omega), after j h hc]; simp; omega
  · by_cases e : j = i
    · rw [e]; exact addS_self
    · rw [addS_of e]; exact before j (by omega) hj
  · have no : ∀ j I O, addS S i j = true → i + 1 ≤ j → (f j).2 = .free I O → False := fun j I O h1 h2 h3 => by
      rw [addS_of (by omega), after j (by omega) (by rw [h3]; rfl)] at h1; cases h1
    refine ⟨by rw [eO]; exact (m.st.trans hr0 hfl).trans hr0 s, .refl w', fun _ _ => rfl, fun b x e hb => ?_, fun j I O b x h1 h2 h3 => (no j I O h1 h2 h3).elim, fun b b' cb κ κ' h => ?_⟩
    · rw [eO] at hb; rw [s.hr.fresh b hb] at e; cases e
    · obtain ⟨j, I', O', x, h1, h2, h3, -⟩ := h
      exact (no j I' O' h1 h2 h3).elim
theorem glob_restr (rg : Rg P ops bf cv0 h0 f N) (hr0 : HR β0 h0 w0) (hg : GlobK P β0) {βb : Bt} {wb : World} (m : Mid h0 f S c β0 w0 βb wb β w) (i : Nat) : GlobK P (restr β (nxU h0 f i)) := fun g hlt => by
  obtain ⟨κ, e⟩ := hg g hlt
  have h1 : g < h0.nx := Classical.byContradiction fun h => by rw [hr0.fresh g (by omega)] at e; cases e
  have h2 : h0.nx ≤ nxU h0 f i := rg.mono (i := 0) (Nat.zero_le i)
  exact ⟨κ, by rw [restr_lt (by omega)]; exact m.le _ _ (m.st.le hr0 _ _ e)⟩
theorem con_low1 {β : Bt} {n : Nat} : ∀ {v : AV} {u : Value}, con β v = some u → lowA1 n v = true → con (restr β n) v = some u
  | .nat _, _, h, _ => h
  | .u8 _, _, h, _ => h
  | .int _ _, _, h, _ => h
  | .bool _, _, h, _ => h
  | .str _ _, _, h, _ => by simpa [con] using h
  | .raw _, _, h, _ => by simpa [con] using h
  | .ptr b _, _, h, hl => by
    simp only [con, restr_lt (show b < n from Nat.le_of_ble_eq_true hl)] at h ⊢; exact h
  | .slice b _ _ _ _, _, h, hl => by
    simp only [con, restr_lt (show b < n from Nat.le_of_ble_eq_true hl)] at h ⊢; exact h
  | .map b, _, h, hl => by
    simp only [con, restr_lt (show b < n from Nat.le_of_ble_eq_true hl)] at h ⊢; exact h
  | .iface _ _, _, _, hl => by cases hl
  | .agg _, _, _, hl => by cases hl
  | .tup _, _, _, hl => by cases hl
  | .fn f a b, _, h, hl => by
    unfold lowA1 at hl
    split at hl <;> first | (cases hl; done) | skip
    all_goals first | (rename_i e; cases e; done) | (rename_i e; injection e with e1 e2 e3; subst e1; subst e2; subst e3; simpa [con, conL] using h)
  | .sym _, _, _, hl => by cases hl
theorem con_lowL {β : Bt} {n : Nat} : ∀ {l : List AV} {us : List Value}, conL β l = some us → lowL n l = true → conL (restr β n) l = some us
  | [], us, h, _ => by rw [conL_nil h]; rfl
  | x :: xs, us, h, hl => by
    unfold lowL at hl
    rw [Bool.and_eq_true] at hl
    obtain ⟨v, vs, h1, h2, rfl⟩ := conL_cons h
    exact conL_mk (con_low1 h1 hl.1) (con_lowL h2 hl.2)
theorem con_low {β : Bt} {n : Nat} {v : AV} {u : Value} (h : con β v = some u) (hl : lowA n v = true) : con (restr β n) v = some u := by
  cases v <;> first | exact con_low1 h hl | skip
  · rename_i l
    simp only [con, Option.bind_eq_some_iff] at h ⊢
    obtain ⟨us, h1, h2⟩ := h
    exact ⟨us, con_lowL h1 hl, h2⟩
  · rename_i l
    simp only [con, Option.map_eq_some_iff] at h ⊢
    obtain ⟨us, h1, h2⟩ := h
    exact ⟨us, con_lowL h1 hl, h2⟩
/-- One operation. -/
theorem Inv.step (iv : Inv P ops cv0 h0 f N ds β0 w0 S β a w) (rg : Rg P ops bf cv0 h0 f N) (rd : Rdy ops S i o) (hr0 : HR β0 h0 w0) (hg : GlobK P β0) {arr : Array Oper} (harr : arr.toList = ops) {K : Act → World → Prop} {Q : Exit → Act → World → Prop}
    (hK : ∀ β' a' w', Inv P ops cv0 h0 f N ds β0 w0 (addS S i) β' a' w' → K a' w') : wpOp P arr Q i K a w := by
  obtain ⟨c, βb, wb, ct, m⟩ := iv.mid
  have rc := rg.rc i o rd.at_
  have hrd := iv.reads rg rd
  have hga := glob_restr rg hr0 hg m i
  have hat : arr[i]? = some o := by rw [← Array.getElem?_toList, harr]; exact rd.at_
  have hwant : ∀ b, wantedA ops (cvU cv0 ops f i) o = some b → Region.wanted o (yielded arr a.tmps) = b := fun b h => by
    rw [wantedA_reads] at h
    subst harr
    exact wantedA_con hrd h
  have hxs : ∀ xs, opnds P (cvU cv0 ops f i) o.op.operands.toList = some xs → conL (restr β (nxU h0 f i)) xs = some (o.op.operands.toList.map a.eval) := fun xs h => by
    rw [opnds_reads (ops := ops)] at h
    exact opnds_con hrd hga h
  have hsk : ∀ {h : Hp}, wantedA ops (cvU cv0 ops f i) o = some false → (f i).1 = some (.tup []) → (∃ c βb wb, Cut f (addS S i) c ∧ Mid h0 f (addS S i) c β0 w0 βb wb β w) → wpOp P arr Q i K a w := fun {h} h1 h2 h3 => by
    unfold wpOp
    rw [hat]
    dsimp only
    rw [if_neg (by rw [hwant false h1]; simp)]
    exact hK β _ _ (iv.put rg rd (.refl β) h3 fun v e => by rw [h2] at e; injection e with e; subst e; rfl)
  cases hk : (f i).2 with
  | calm =>
    have hnx : nxU h0 f (i + 1) = nxU h0 f i := by show (f i).2.nx _ = _; rw [hk]; rfl
    rcases rc.calm hk with (⟨h1, v, xs, h2, h3, h4⟩ | ⟨h1, h2⟩ | ⟨h1, t, h2, h3⟩) | ⟨h1, v, xs, h2, h3, h5, h6, h7⟩
    · unfold wpOp
      rw [hat]
      dsimp only
      rw [if_pos (hwant true h1)]
      left
      have hr : HR (restr β (nxU h0 f i)) (.mk .leaf (nxU h0 f i) (nxU h0 f i)) w := by
        have hb : ∀ b x, (Hp.mk .leaf (nxU h0 f i) (nxU h0 f i)).tr.get (path b) = some x → False := fun b x hb => by
          rw [show (Hp.mk .leaf (nxU h0 f i) (nxU h0 f i)).tr = .leaf from rfl, get_leaf] at hb
          cases hb
        exact ⟨fun b x h => (hb b x h).elim, fun b b' x x' cb κ κ' h => (hb b x h).elim, fun b hb => restr_ge hb, Nat.le_refl _⟩
      refine h4 _ _ w a hr hga (hxs xs h3) K Q fun β2 w' u s hu => ?_
      have he : Ext w w' := s.kept.ext fun b hb => restr_ge hb
      have hl2 : Le β2 (restr β (nxU h0 f i)) := fun b x e => by
        by_cases hb : b < nxU h0 f i
        · rwa [s.old b hb] at e
        · rw [s.hr.fresh b (by show nxU h0 f i ≤ b; omega)] at e; cases e
      exact hK β _ _ (iv.put rg rd (.refl β) ⟨c, βb, wb, m.calm ct hk he⟩ fun v' e => by
        rw [h2] at e; injection e with e; subst e
        rw [hnx]; exact con_mono hl2 hu)
    · exact hsk (h := h0) h1 h2 ⟨c, βb, wb, m.calm ct hk (.refl w)⟩
    · unfold wpOp
      rw [hat]
      dsimp only
      rw [if_pos (by unfold Region.wanted; rw [h1])]
      left
      unfold Oper.wp
      rw [exec_move h2]
      show K (a.put o.dst _) w
      refine hK β _ _ (iv.put rg rd (.refl β) ⟨c, βb, wb, m.calm ct hk (.refl w)⟩ fun v e => ?_)
      rw [hnx]
      refine hrd t v ?_
      unfold cvR
      rw [if_pos]
      · rw [← h3]; exact e
      · unfold readsOf
        rw [h2]
        exact List.mem_append_left _ (List.mem_filterMap.2 ⟨.tmp t, by simp [Op.operands], rfl⟩)
    · have hcl : c ≤ ops.length := by
        rcases ct.last with h | ⟨d, h, hd⟩
        · omega
        · obtain ⟨o', ho'⟩ := rg.at (i := d) (by revert hd; cases (f d).2 <;> intro hd <;> first | rfl | cases hd)
          have := (List.getElem?_eq_some_iff.1 ho').1
          omega
      obtain ⟨hcb, O, hO1, hO2, h4⟩ := h7 c hcl ct.last (fun k hk1 hk2 => (ct.bars k hk1).1 (iv.mask rg rd hk2)) (fun k hk1 hk2 => by
        cases hm : inMask (bf.getD k 0) i with
        | false => rfl
        | true =>
          have := iv.mask' rg ((ct.bars k hk2).2 hk1) hm
          rw [rd.no] at this; cases this)
      have hcb : nxU h0 f c ≤ bigN := hcb
      have hbx : (bsU h0 f c).nx = nxU h0 f c := bsU_nx (ops := ops) ct.last
      have hr : HR (restr β bigN) (.mk (bsU h0 f c).tr bigN bigN) w := by
        refine ⟨fun b x hb => ?_, fun b b' x x' cb κ κ' hb hb' e e' => ?_, fun b hb => restr_ge hb, Nat.le_refl _⟩
        · obtain ⟨h8, cb, κ, h9, h10⟩ := m.st.hr.blk b x hb
          have hbn : b < bigN := by omega
          refine ⟨hbn, cb, κ, by rw [restr_lt hbn, m.old b h8]; exact h9, (h10.ext m.ext).mono fun b2 x2 e2 => ?_⟩
          have hb2 : b2 < (bsU h0 f c).nx := Classical.byContradiction fun hn => by rw [m.st.hr.fresh b2 (by omega)] at e2; cases e2
          rw [restr_lt (by omega), m.old b2 hb2]; exact e2
        · have g : ∀ {b x}, (bsU h0 f c).tr.get (path b) = some x → ∀ {y}, restr β bigN b = some y → βb b = some y := fun {b x} hb {y} e => by
            have h8 := (m.st.hr.blk b x hb).1
            rw [← m.old b h8]; exact (restr_some e).2
          exact m.st.hr.inj b b' x x' cb κ κ' hb hb' (g hb e) (g hb' e')
      have hmono : Le (restr β (nxU h0 f i)) (restr β bigN) := restr_mono h6 (.refl β)
      have hgb : GlobK P (restr β bigN) := fun g hlt => by
        obtain ⟨κ, e⟩ := hga g hlt
        exact ⟨κ, hmono _ _ e⟩
      unfold wpOp
      rw [hat]
      dsimp only
      rw [if_pos (hwant true h1)]
      left
      refine h4 _ w a hr hgb (conL_mono hmono (hxs xs h3)) K Q fun β2 w' u s hu => ?_
      have he : Ext w w' := s.kept.ext fun b hb => restr_ge (by rw [hO2] at hb; exact hb)
      have hl2 : Le β2 (restr β bigN) := fun b x e => by
        by_cases hb : b < bigN
        · rwa [s.old b hb] at e
        · rw [s.hr.fresh b (by rw [hO1]; omega)] at e; cases e
      exact hK β _ _ (iv.put rg rd (.refl β) ⟨c, βb, wb, m.calm ct hk he⟩ fun v' e => by
        rw [h2] at e; injection e with e; subst e
        rw [hnx]
        exact con_low (con_mono (hl2.trans (restr_le β bigN)) hu) h5)
  | free I O =>
    obtain ⟨⟨v, h1, h2, xs, h3, h4, -⟩, hsrc, hInx, hIlo, hOlo, hOnx⟩ := rc.free I O hk
    obtain ⟨hci, hnb⟩ := iv.cut rg rd ct (by rw [hk]; rfl)
    unfold wpOp
    rw [hat]
    dsimp only
    rw [if_pos (hwant true h2)]
    left
    have hr := m.hr rg ct hci hnb hsrc (fun j I O _ hp _ => iv.mask rg rd hp) (Nat.le_refl _)
    have eI : Hp.mk I.tr (nxU h0 f i) (nxU h0 f i) = I := by rw [← hInx, show I.nx = I.lo by rw [hInx, hIlo]]; cases I; rw [show ∀ t n l, (Hp.mk t n l).lo = l from fun _ _ _ => rfl]; simp only [Hp.tr]; congr 1; exact (hInx.trans hIlo.symm).symm
    rw [eI] at hr
    refine h4 _ w a hr hga (hxs xs h3) K Q fun β2 w' u s hu => ?_
    obtain ⟨β', hl, hl2, hct, hm⟩ := m.free_ rg ct hci rd.no hk hOlo s
    exact hK β' _ _ (iv.put rg rd hl ⟨c, βb, wb, hct, hm⟩ fun v' e => by
      rw [h1] at e; injection e with e; subst e
      exact con_mono hl2 hu)
  | bar I O =>
    obtain ⟨hno, ⟨v, h1, hdo⟩, hsrc, hInx, hIlo⟩ := rc.bar I O hk
    obtain ⟨hfl, hre, hnext⟩ := m.bar_ (w' := w) iv rg rd hr0 ct hk
    have eO : nxU h0 f (i + 1) = O.nx := by show (f i).2.nx _ = _; rw [hk]; rfl
    rcases hdo with ⟨h2, xs, h3, h4, -⟩ | ⟨h2, h3, h4⟩
    · unfold wpOp
      rw [hat]
      dsimp only
      rw [if_pos (hwant true h2)]
      left
      rw [hre] at hga
      have hx := hxs xs h3
      rw [hre] at hx
      refine h4 β w a hfl.hr hga hx K Q fun β' w' u s hu => ?_
      obtain ⟨hct, hm⟩ := hnext β' w' s
      refine hK β' _ _ (iv.put rg rd (s.le hfl.hr) ⟨i + 1, β', w', hct, hm⟩ fun v' e => ?_)
      rw [h1] at e; injection e with e; subst e
      rw [eO]
      refine con_mono (fun b x e => ?_) hu
      have hlt : b < O.nx := Classical.byContradiction fun h => by rw [s.hr.fresh b (by omega)] at e; cases e
      rw [restr_lt hlt]; exact e
    · subst h4
      obtain ⟨hct, hm⟩ := hnext β w (.refl hfl.hr)
      exact hsk (h := h0) h2 (by rw [h1, h3]) ⟨i + 1, β, w, hct, hm⟩
end
end Go.Ev
