/- The evaluator's regions: operations in whatever order: each step. -/
import Derived.Test.YtniednnklbdciaaDoorEvV
set_option linter.unusedVariables false
set_option linter.unusedSectionVars false
set_option linter.unusedSimpArgs false
namespace Go.Ev
variable [Sg] [Sl]
open Go.RowKit
variable {P : Program}

/-- A set of operations was carried out. -/
structure Inv (P : Program) (ops : List Oper) (cv0 : Cv) (h0 : Hp) (f : Rcs) (N : Nat) (ds : List Deferred) (β0 : Bt) (w0 : World) (S : Nat → Bool) (β : Bt) (a : Act) (w : World) : Prop where
  inb : ∀ i, S i = true → i < ops.length
  down : ∀ i o e, S i = true → ops[i]? = some o → e ∈ o.after → Region.binds .any e = true → S e.on = true
  mid : ∃ c βb wb, Cut f S c ∧ Mid h0 f S c β0 w0 βb wb β w
  cv : ∀ t av, cvS cv0 ops f S ops.length t = some av → con (restr β (nxU h0 f (bdS ops S t ops.length))) av = some (a.tmps.getD t undef)
  size : N ≤ a.tmps.size
  ds : a.defers = ds
/-- An operation may be carried out. -/
structure Rdy (ops : List Oper) (S : Nat → Bool) (i : Nat) (o : Oper) : Prop where
  at_ : ops[i]? = some o
  no : S i = false
  ok : ∀ e ∈ o.after, Region.binds .any e = true → S e.on = true
section
variable {ops : List Oper} {bf : List Nat} {cv0 : Cv} {h0 : Hp} {f : Rcs} {N : Nat} {ds : List Deferred} {S : Nat → Bool} {c : Nat} {β0 : Bt} {w0 : World} {β : Bt} {w : World} {a : Act} {i : Nat} {o : Oper}
theorem Rg.below (rg : Rg P ops bf cv0 h0 f N) {S : Nat → Bool} (hd : ∀ i o e, S i = true → ops[i]? = some o → e ∈ o.after → Region.binds .any e = true → S e.on = true) : ∀ (i : Nat) (o : Oper) (j : Nat), ops[i]? = some o → (∀ e ∈ o.after, Region.binds .any e = true → S e.on = true) → inMask (bf.getD i 0) j = true → S j = true := by
  intro i
  induction i using Nat.strongRecOn with
  | _ i ih =>
    intro o j ho hok hm
    obtain ⟨e, he, hb, h⟩ := rg.bfs i o j ho hm
    have hs := hok e he hb
    rcases h with h | h
    · rw [← h]; exact hs
    · have hlt := rg.dn i o e ho he hb
      have hi : i < ops.length := (List.getElem?_eq_some_iff.1 ho).1
      obtain ⟨o', ho'⟩ : ∃ o', ops[e.on]? = some o' := ⟨_, List.getElem?_eq_getElem (by omega)⟩
      exact ih e.on hlt o' j ho' (fun e' he' hb' => hd e.on o' e' hs ho' he' hb') h
theorem Inv.mask (iv : Inv P ops cv0 h0 f N ds β0 w0 S β a w) (rg : Rg P ops bf cv0 h0 f N) (rd : Rdy ops S i o) {j : Nat} (h : inMask (bf.getD i 0) j = true) : S j = true :=
  rg.below iv.down i o j rd.at_ rd.ok h
theorem Inv.mask' (iv : Inv P ops cv0 h0 f N ds β0 w0 S β a w) (rg : Rg P ops bf cv0 h0 f N) {k : Nat} (hk : S k = true) {j : Nat} (h : inMask (bf.getD k 0) j = true) : S j = true := by
  obtain ⟨o, ho⟩ : ∃ o, ops[k]? = some o := ⟨_, List.getElem?_eq_getElem (iv.inb k hk)⟩
  exact rg.below iv.down k o j ho (fun e he hb => iv.down k o e hk ho he hb) h
/-- Those before it write what it reads; those behind it do not. -/
theorem apartB_left {ops : List Oper} {x y : Oper} {d : Tmp} (h : apartB ops x y = true) (hd : x.dst = some d) : d ∉ readsOf ops y ∧ y.dst ≠ some d := by
  unfold apartB at h
  rw [hd] at h
  dsimp only at h
  rw [Bool.and_eq_true, Bool.and_eq_true] at h
  obtain ⟨⟨h1, h2⟩, -⟩ := h
  refine ⟨fun hm => ?_, by simpa using h2⟩
  simp [hm] at h1
theorem apartB_right {ops : List Oper} {x y : Oper} {d : Tmp} (h : apartB ops x y = true) (hd : y.dst = some d) : d ∉ readsOf ops x := by
  unfold apartB at h
  rw [hd] at h
  dsimp only at h
  rw [Bool.and_eq_true] at h
  intro hm
  have := h.2
  simp [hm] at this
theorem dstAt_some {k : Nat} {t : Tmp} (h : dstAt ops k = some t) : ∃ o, ops[k]? = some o ∧ o.dst = some t := by
  unfold dstAt at h
  exact Option.bind_eq_some_iff.1 h
theorem dstAt_at (h : ops[i]? = some o) : dstAt ops i = o.dst := by unfold dstAt; rw [h]; rfl
theorem Inv.agree (iv : Inv P ops cv0 h0 f N ds β0 w0 S β a w) (rg : Rg P ops bf cv0 h0 f N) (rd : Rdy ops S i o) {t : Tmp} (ht : t ∈ readsOf ops o) : ∀ k, S k ≠ decide (k < i) → dstAt ops k ≠ some t := by
  intro k hk hd
  obtain ⟨y, hy, hyd⟩ := dstAt_some hd
  by_cases hlt : k < i
  · rw [decide_eq_true hlt] at hk
    rcases rg.ap k i y o hlt hy rd.at_ with h | h
    · exact hk (iv.mask rg rd h)
    · exact (apartB_left h hyd).1 ht
  · rw [decide_eq_false hlt] at hk
    have hSk : S k = true := by simpa using hk
    have hne : k ≠ i := fun e => by rw [e, rd.no] at hSk; cases hSk
    rcases rg.ap i k o y (by omega) rd.at_ hy with h | h
    · have := iv.mask' rg hSk h; rw [rd.no] at this; cases this
    · exact apartB_right h hyd ht
theorem Inv.later (iv : Inv P ops cv0 h0 f N ds β0 w0 S β a w) (rg : Rg P ops bf cv0 h0 f N) (rd : Rdy ops S i o) : ∀ k, i < k → S k = true → dstAt ops i ≠ none → dstAt ops k ≠ dstAt ops i := by
  intro k hik hSk hn he
  rw [dstAt_at rd.at_] at hn he
  cases hd : o.dst with
  | none => exact hn hd
  | some d =>
    rw [hd] at he
    obtain ⟨y, hy, hyd⟩ := dstAt_some he
    rcases rg.ap i k o y hik rd.at_ hy with h | h
    · have := iv.mask' rg hSk h; rw [rd.no] at this; cases this
    · exact (apartB_left h hd).2 hyd
/-- What it reads is what was written down. -/
noncomputable def cvR (ops : List Oper) (cv : Cv) (o : Oper) : Cv := fun t => if t ∈ readsOf ops o then cv t else none
theorem Inv.reads (iv : Inv P ops cv0 h0 f N ds β0 w0 S β a w) (rg : Rg P ops bf cv0 h0 f N) (rd : Rdy ops S i o) : CvR (restr β (nxU h0 f i)) (cvR ops (cvU cv0 ops f i) o) a.tmps := by
  intro t av ht
  unfold cvR at ht
  split at ht
  · rename_i hm
    have ag := iv.agree rg rd hm
    have hi : i < ops.length := (List.getElem?_eq_some_iff.1 rd.at_).1
    have e := cvS_agree (cv0 := cv0) (f := f) ag ops.length
    rw [show min ops.length i = i by omega] at e
    exact con_mono (restr_mono (rg.mono (bdS_agree ag ops.length)) (.refl β)) (iv.cv t av (e.trans ht))
  · cases ht
theorem opnds_congr {cv cv' : Cv} : ∀ {xs : List Operand}, (∀ t, Operand.tmp t ∈ xs → cv t = cv' t) → opnds P cv xs = opnds P cv' xs
  | [], _ => rfl
  | x :: xs, h => by
    have h1 : opnd P cv x = opnd P cv' x := by
      cases x with
      | tmp t => exact h t (List.mem_cons_self ..)
      | _ => rfl
    have h2 := opnds_congr (xs := xs) (fun t ht => h t (List.mem_cons_of_mem _ ht))
    simp only [opnds, h1, h2]
theorem opnds_reads (cv : Cv) (o : Oper) : opnds P cv o.op.operands.toList = opnds P (cvR ops cv o) o.op.operands.toList :=
  opnds_congr fun t ht => by
    unfold cvR
    rw [if_pos]
    unfold readsOf
    exact List.mem_append_left _ (List.mem_filterMap.2 ⟨_, ht, rfl⟩)
theorem wantedA_reads (cv : Cv) (o : Oper) : wantedA ops cv o = wantedA ops (cvR ops cv o) o := by
  unfold wantedA
  cases hg : o.guard with
  | none => rfl
  | some p =>
    obtain ⟨g, want⟩ := p
    dsimp only
    cases hd : (ops[g]?).bind (·.dst) with
    | none => rfl
    | some d =>
      dsimp only
      have : cvR ops cv o d = cv d := by
        unfold cvR
        rw [if_pos]
        unfold readsOf
        rw [hg]
        dsimp only
        rw [hd]
        exact List.mem_append_right _ (by simp)
      rw [this]
/-- Its value is laid. -/
theorem Inv.put (iv : Inv P ops cv0 h0 f N ds β0 w0 S β a w) (rg : Rg P ops bf cv0 h0 f N) (rd : Rdy ops S i o) {β' : Bt} {w' : World} {u : Value} (hl : Le β β')
    (hm : ∃ c βb wb, Cut f (addS S i) c ∧ Mid h0 f (addS S i) c β0 w0 βb wb β' w') (hv : ∀ v, (f i).1 = some v → con (restr β' (nxU h0 f (i + 1))) v = some u) : Inv P ops cv0 h0 f N ds β0 w0 (addS S i) β' (a.put o.dst u) w' := by
  have hi : i < ops.length := (List.getElem?_eq_some_iff.1 rd.at_).1
  have hsub : ∀ k, S k = true → addS S i k = true := fun k h => by unfold addS; rw [h]; rfl
  refine ⟨fun k hk => ?_, fun k o' e hk ho' he hb => ?_, hm, fun t av ht => ?_, by rw [put_size]; exact iv.size, by rw [put_defers]; exact iv.ds⟩
  · unfold addS at hk
    rw [Bool.or_eq_true] at hk
    rcases hk with hk | hk
    · exact iv.inb k hk
    · rw [of_decide_eq_true hk]; exact hi
  · unfold addS at hk
    rw [Bool.or_eq_true] at hk
    rcases hk with hk | hk
    · exact hsub _ (iv.down k o' e hk ho' he hb)
    · have hk := of_decide_eq_true hk
      subst hk
      rw [rd.at_] at ho'; injection ho' with ho'; subst ho'
      exact hsub _ (rd.ok e he hb)
  · rw [cvS_add rd.no (iv.later rg rd) ops.length t, if_pos hi, dstAt_at rd.at_] at ht
    have old : cvS cv0 ops f S ops.length t = some av → o.dst ≠ some t → con (restr β' (nxU h0 f (bdS ops (addS S i) t ops.length))) av = some ((a.put o.dst u).tmps.getD t undef) := fun ht hne => by
      have := con_mono (restr_mono (rg.mono (bdS_mono hsub ops.length)) hl) (iv.cv t av ht)
      rw [this]
      congr 1
      unfold Act.put
      cases hd : o.dst with
      | none => rfl
      | some d =>
        dsimp only
        simp only [Array.getD_eq_getD_getElem?, Array.getElem?_setIfInBounds]
        rw [if_neg (fun x => hne (by rw [hd, x]))]
    unfold updO at ht
    cases hd : o.dst with
    | none => rw [hd] at ht; rw [← hd]; exact old ht (by rw [hd]; simp)
    | some d =>
      rw [hd] at ht
      dsimp only at ht
      by_cases e : t = d
      · subst e
        rw [if_pos rfl] at ht
        have h1 := hv av ht
        have hlt : t < a.tmps.size := Nat.lt_of_lt_of_le (rg.dst i t (by rw [dstAt_at rd.at_, hd])) iv.size
        have hb := bdS_ge (S := addS S i) (ops := ops) (i := i) (t := t) (by unfold addS; simp) (by rw [dstAt_at rd.at_, hd]) ops.length hi
        rw [con_mono (restr_mono (rg.mono hb) (.refl β')) h1]
        simp [Act.put, Array.getD, hlt]
      · rw [if_neg e] at ht
        rw [← hd]
        exact old ht (by rw [hd]; intro x; injection x with x; exact e x.symm)
theorem addS_of {k : Nat} (h : k ≠ i) : addS S i k = S k := by unfold addS; rw [decide_eq_false h, Bool.or_false]
theorem addS_self : addS S i i = true := by unfold addS; simp
/-- Memory behind a calm operation. -/
theorem Mid.calm {βb : Bt} {wb w' : World} (m : Mid h0 f S c β0 w0 βb wb β w) (ct : Cut f S c) (hi : (f i).2 = .calm) (he : Ext w w') : Cut f (addS S i) c ∧ Mid h0 f (addS S i) c β0 w0 βb wb β w' := by
  have hne : ∀ {j I O}, (f j).2 = .free I O → j ≠ i := fun h e => by rw [e, hi] at h; cases h
  have hsub : ∀ k, S k = true → addS S i k = true := fun k h => by unfold addS; rw [h]; rfl
  have nb : ∀ {b}, NewB f (addS S i) c b → NewB f S c b := fun ⟨j, I, O, x, h1, h2, h3, h4⟩ => ⟨j, I, O, x, by rwa [addS_of (hne h3)] at h1, h2, h3, h4⟩
  refine ⟨⟨fun j hj => ?_, fun j hj hl => hsub j (ct.low j hj hl), ct.last⟩, m.st, m.ext.trans he, m.old, fun b x e hb => ?_, fun j I O b x h1 h2 h3 h4 h5 h6 => ?_, fun b b' cb κ κ' h h' => m.inj b b' cb κ κ' (nb h) (nb h')⟩
  · rw [addS_of (fun e => by rw [e, hi] at hj; cases hj)]; exact ct.bars j hj
  · obtain ⟨h1, j, I, O, h2, h3⟩ := m.dom b x e hb
    exact ⟨h1, j, I, O, hsub j h2, h3⟩
  · rw [addS_of (hne h3)] at h1
    obtain ⟨cb, κ, h7, h8⟩ := m.new j I O b x h1 h2 h3 h4 h5 h6
    exact ⟨cb, κ, h7, h8.ext he⟩
/-- Between the last bar and what comes. -/
theorem Inv.cut (iv : Inv P ops cv0 h0 f N ds β0 w0 S β a w) (rg : Rg P ops bf cv0 h0 f N) (rd : Rdy ops S i o) (ct : Cut f S c) (hi : (f i).2.isCalm = false) : c ≤ i ∧ ∀ k, c ≤ k → k < i → (f k).2.isBar = false := by
  refine ⟨Classical.byContradiction fun h => ?_, fun k h1 h2 => ?_⟩
  · have := ct.low i hi (by omega); rw [rd.no] at this; cases this
  · cases hb : (f k).2.isBar with
    | false => rfl
    | true =>
      have hcalm : (f k).2.isCalm = false := by
        revert hb
        cases (f k).2 with
        | bar I O => intro _; rfl
        | calm => intro h; cases h
        | free I O => intro _; rfl
      have hm := (rg.rc i o rd.at_).ord hi k h2 hcalm (.inr hb)
      have := (ct.bars k hb).1 (iv.mask rg rd hm)
      omega
end
end Go.Ev
