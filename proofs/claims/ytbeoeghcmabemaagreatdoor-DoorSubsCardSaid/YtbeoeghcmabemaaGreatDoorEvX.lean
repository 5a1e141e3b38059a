/- The evaluator's regions: operations in whatever order: each step. -/
import Derived.Test.YtbeoeghcmabemaaGreatDoorEvV
set_option linter.unusedVariables false
set_option linter.unusedSectionVars false
set_option linter.unusedSimpArgs false
namespace Go.Ev
variable [Sg] [Sl]
open Go.RowKit
variable {P : Program}

/-- A set of operations was carried out. -/
structure Inv (P : Program) (ops : List Oper) (cv0 : Cv) (h0 : Hp) (f : Rcs) (N : Nat) (ds : List Deferred) (β0 : Bt) (w0 : World) (S : Nat → Bool) (β : Bt) (a : Act) (w : World) : Prop where
  inb : ∀ i, S i = true → i < ops.length
  down : ∀ i o e, S i = true → ops[i]? = some o → e ∈ o.after → Region.binds .any e = true → S e.on = true
  mid : Mid h0 f S β0 w0 β w
  cv : ∀ t av, cvS cv0 ops f S ops.length t = some av → con (restr β (nxU h0 f (bdS ops S t ops.length))) av = some (a.tmps.getD t undef)
  size : N ≤ a.tmps.size
  ds : a.defers = ds
/-- An operation may be carried out. -/
structure Rdy (ops : List Oper) (S : Nat → Bool) (i : Nat) (o : Oper) : Prop where
  at_ : ops[i]? = some o
  no : S i = false
  ok : ∀ e ∈ o.after, Region.binds .any e = true → S e.on = true
section
variable {ops : List Oper} {bf : List Nat} {cv0 : Cv} {h0 : Hp} {f : Rcs} {N : Nat} {ds : List Deferred} {S : Nat → Bool} {β0 : Bt} {w0 : World} {β : Bt} {w : World} {a : Act} {i : Nat} {o : Oper}
theorem Rg.below (rg : Rg P ops bf cv0 h0 f N) {S : Nat → Bool} (hd : ∀ i o e, S i = true → ops[i]? = some o → e ∈ o.after → Region.binds .any e = true → S e.on = true) : ∀ (i : Nat) (o : Oper) (j : Nat), ops[i]? = some o → (∀ e ∈ o.after, Region.binds .any e = true → S e.on = true) → inMask (bf.getD i 0) j = true → S j = true := by
  intro i
  induction i using Nat.strongRecOn with
  | _ i ih =>
    intro o j ho hok hm
    obtain ⟨e, he, hb, h⟩ := rg.bfs i o j ho hm
    have hs := hok e he hb
    rcases h with h | h
    · rw [← h]; exact hs
    · have hlt := rg.dn i o e ho he hb
      have hi : i < ops.length := (List.getElem?_eq_some_iff.1 ho).1
      obtain ⟨o', ho'⟩ : ∃ o', ops[e.on]? = some o' := ⟨_, List.getElem?_eq_getElem (by omega)⟩
      exact ih e.on hlt o' j ho' (fun e' he' hb' => hd e.on o' e' hs ho' he' hb') h
theorem Inv.mask (iv : Inv P ops cv0 h0 f N ds β0 w0 S β a w) (rg : Rg P ops bf cv0 h0 f N) (rd : Rdy ops S i o) {j : Nat} (h : inMask (bf.getD i 0) j = true) : S j = true :=
  rg.below iv.down i o j rd.at_ rd.ok h
theorem Inv.mask' (iv : Inv P ops cv0 h0 f N ds β0 w0 S β a w) (rg : Rg P ops bf cv0 h0 f N) {k : Nat} (hk : S k = true) {j : Nat} (h : inMask (bf.getD k 0) j = true) : S j = true := by
  obtain ⟨o, ho⟩ : ∃ o, ops[k]? = some o := ⟨_, List.getElem?_eq_getElem (iv.inb k hk)⟩
  exact rg.below iv.down k o j ho (fun e he hb => iv.down k o e hk ho he hb) h
/-- Those before it write what it reads; those behind it do not. -/
theorem apartB_left {ops : List Oper} {x y : Oper} {d : Tmp} (h : apartB ops x y = true) (hd : x.dst = some d) : d ∉ readsOf ops y ∧ y.dst ≠ some d := by
  unfold apartB at h
  rw [hd] at h
  dsimp only at h
  rw [Bool.and_eq_true, Bool.and_eq_true] at h
  obtain ⟨⟨h1, h2⟩, -⟩ := h
  refine ⟨fun hm => ?_, by simpa using h2⟩
  simp [hm] at h1
theorem apartB_right {ops : List Oper} {x y : Oper} {d : Tmp} (h : apartB ops x y = true) (hd : y.dst = some d) : d ∉ readsOf ops x := by
  unfold apartB at h
  rw [hd] at h
  dsimp only at h
  rw [Bool.and_eq_true] at h
  intro hm
  have := h.2
  simp [hm] at this
theorem dstAt_some {k : Nat} {t : Tmp} (h : dstAt ops k = some t) : ∃ o, ops[k]? = some o ∧ o.dst = some t := by
  unfold dstAt at h
  exact Option.bind_eq_some_iff.1 h
theorem dstAt_at (h : ops[i]? = some o) : dstAt ops i = o.dst := by unfold dstAt; rw [h]; rfl
theorem Inv.agree (iv : Inv P ops cv0 h0 f N ds β0 w0 S β a w) (rg : Rg P ops bf cv0 h0 f N) (rd : Rdy ops S i o) {t : Tmp} (ht : t ∈ readsOf ops o) : ∀ k, S k ≠ decide (k < i) → dstAt ops k ≠ some t := by
  intro k hk hd
  obtain ⟨y, hy, hyd⟩ := dstAt_some hd
  by_cases hlt : k < i
  · rw [decide_eq_true hlt] at hk
    rcases rg.ap k i y o hlt hy rd.at_ with h | h
    · exact hk (iv.mask rg rd h)
    · exact (apartB_left h hyd).1 ht
  · rw [decide_eq_false hlt] at hk
    have hSk : S k = true := by simpa using hk
    have hne : k ≠ i := fun e => by rw [e, rd.no] at hSk; cases hSk
    rcases rg.ap i k o y (by omega) rd.at_ hy with h | h
    · have := iv.mask' rg hSk h; rw [rd.no] at this; cases this
    · exact apartB_right h hyd ht
theorem Inv.later (iv : Inv P ops cv0 h0 f N ds β0 w0 S β a w) (rg : Rg P ops bf cv0 h0 f N) (rd : Rdy ops S i o) : ∀ k, i < k → S k = true → dstAt ops i ≠ none → dstAt ops k ≠ dstAt ops i := by
  intro k hik hSk hn he
  rw [dstAt_at rd.at_] at hn he
  cases hd : o.dst with
  | none => exact hn hd
  | some d =>
    rw [hd] at he
    obtain ⟨y, hy, hyd⟩ := dstAt_some he
    rcases rg.ap i k o y hik rd.at_ hy with h | h
    · have := iv.mask' rg hSk h; rw [rd.no] at this; cases this
    · exact (apartB_left h hd).2 hyd
/-- What it reads is what was written down. -/
noncomputable def cvR (ops : List Oper) (cv : Cv) (o : Oper) : Cv := fun t => if t ∈ readsOf ops o then cv t else none
theorem Inv.reads (iv : Inv P ops cv0 h0 f N ds β0 w0 S β a w) (rg : Rg P ops bf cv0 h0 f N) (rd : Rdy ops S i o) : CvR (restr β (nxU h0 f i)) (cvR ops (cvU cv0 ops f i) o) a.tmps := by
  intro t av ht
  unfold cvR at ht
  split at ht
  · rename_i hm
    have ag := iv.agree rg rd hm
    have hi : i < ops.length := (List.getElem?_eq_some_iff.1 rd.at_).1
    have e := cvS_agree (cv0 := cv0) (f := f) ag ops.length
    rw [show min ops.length i = i by omega] at e
    exact con_mono (restr_mono (rg.mono (bdS_agree ag ops.length)) (.refl β)) (iv.cv t av (e.trans ht))
  · cases ht
theorem opnds_congr {cv cv' : Cv} : ∀ {xs : List Operand}, (∀ t, Operand.tmp t ∈ xs → cv t = cv' t) → opnds P cv xs = opnds P cv' xs
  | [], _ => rfl
  | x :: xs, h => by
    have h1 : opnd P cv x = opnd P cv' x := by
      cases x with
      | tmp t => exact h t (List.mem_cons_self ..)
      | _ => rfl
    have h2 := opnds_congr (xs := xs) (fun t ht => h t (List.mem_cons_of_mem _ ht))
    simp only [opnds, h1, h2]
theorem opnds_reads (cv : Cv) (o : Oper) : opnds P cv o.op.operands.toList = opnds P (cvR ops cv o) o.op.operands.toList :=
  opnds_congr fun t ht => by
    unfold cvR
    rw [if_pos]
    unfold readsOf
    exact List.mem_append_left _ (List.mem_filterMap.2 ⟨_, ht, rfl⟩)
theorem wantedA_reads (cv : Cv) (o : Oper) : wantedA ops cv o = wantedA ops (cvR ops cv o) o := by
  unfold wantedA
  cases hg : o.guard with
  | none => rfl
  | some p =>
    obtain ⟨g, want⟩ := p
    dsimp only
    cases hd : (ops[g]?).bind (·.dst) with
    | none => rfl
    | some d =>
      dsimp only
      have : cvR ops cv o d = cv d := by
        unfold cvR
        rw [if_pos]
        unfold readsOf
        rw [hg]
        dsimp only
        rw [hd]
        exact List.mem_append_right _ (by simp)
      rw [this]
/-- Its value is laid. -/
theorem Inv.put (iv : Inv P ops cv0 h0 f N ds β0 w0 S β a w) (rg : Rg P ops bf cv0 h0 f N) (rd : Rdy ops S i o) {β' : Bt} {w' : World} {u : Value} (hl : Le β β')
    (hm : Mid h0 f (addS S i) β0 w0 β' w') (hv : ∀ v, (f i).1 = some v → con (restr β' (nxU h0 f (i + 1))) v = some u) : Inv P ops cv0 h0 f N ds β0 w0 (addS S i) β' (a.put o.dst u) w' := by
  have hi : i < ops.length := (List.getElem?_eq_some_iff.1 rd.at_).1
  have hsub : ∀ k, S k = true → addS S i k = true := fun k h => by unfold addS; rw [h]; rfl
  refine ⟨fun k hk => ?_, fun k o' e hk ho' he hb => ?_, hm, fun t av ht => ?_, by rw [put_size]; exact iv.size, by rw [put_defers]; exact iv.ds⟩
  · unfold addS at hk
    rw [Bool.or_eq_true] at hk
    rcases hk with hk | hk
    · exact iv.inb k hk
    · rw [of_decide_eq_true hk]; exact hi
  · unfold addS at hk
    rw [Bool.or_eq_true] at hk
    rcases hk with hk | hk
    · exact hsub _ (iv.down k o' e hk ho' he hb)
    · have hk := of_decide_eq_true hk
      subst hk
      rw [rd.at_] at ho'; injection ho' with ho'; subst ho'
      exact hsub _ (rd.ok e he hb)
  · rw [cvS_add rd.no (iv.later rg rd) ops.length t, if_pos hi, dstAt_at rd.at_] at ht
    have old : cvS cv0 ops f S ops.length t = some av → o.dst ≠ some t → con (restr β' (nxU h0 f (bdS ops (addS S i) t ops.length))) av = some ((a.put o.dst u).tmps.getD t undef) := fun ht hne => by
      have := con_mono (restr_mono (rg.mono (bdS_mono hsub ops.length)) hl) (iv.cv t av ht)
      rw [this]
      congr 1
      unfold Act.put
      cases hd : o.dst with
      | none => rfl
      | some d =>
        dsimp only
        simp only [Array.getD_eq_getD_getElem?, Array.getElem?_setIfInBounds]
        rw [if_neg (fun x => hne (by rw [hd, x]))]
    unfold updO at ht
    cases hd : o.dst with
    | none => rw [hd] at ht; rw [← hd]; exact old ht (by rw [hd]; simp)
    | some d =>
      rw [hd] at ht
      dsimp only at ht
      by_cases e : t = d
      · subst e
        rw [if_pos rfl] at ht
        have h1 := hv av ht
        have hlt : t < a.tmps.size := Nat.lt_of_lt_of_le (rg.dst i t (by rw [dstAt_at rd.at_, hd])) iv.size
        have hb := bdS_ge (S := addS S i) (ops := ops) (i := i) (t := t) (by unfold addS; simp) (by rw [dstAt_at rd.at_, hd]) ops.length hi
        rw [con_mono (restr_mono (rg.mono hb) (.refl β')) h1]
        simp [Act.put, Array.getD, hlt]
      · rw [if_neg e] at ht
        rw [← hd]
        exact old ht (by rw [hd]; intro x; injection x with x; exact e x.symm)
theorem addS_of {k : Nat} (h : k ≠ i) : addS S i k = S k := by unfold addS; rw [decide_eq_false h, Bool.or_false]
theorem addS_self : addS S i i = true := by unfold addS; simp
theorem Inv.downS (iv : Inv P ops cv0 h0 f N ds β0 w0 S β a w) (rg : Rg P ops bf cv0 h0 f N) : Down bf S := fun k j hk h => iv.mask' rg hk h
theorem LowB.sub {l : Nat} (h : LowB f (addS S i) h0 l) : LowB f S h0 l := ⟨h.1, fun k q I O hk => h.2 k q I O (by unfold addS; rw [hk]; rfl)⟩
/-- Behind one more: what it laid, or what was there. -/
theorem At.add (pt : Pt bf h0 f) (hd : Down bf S) (kn : Kn h0 f S) (hs : ∀ j, inMask (bf.getD i 0) j = true → S j = true) (hn : S i = false) {b : Nat} {x : Blk} {j : Nat} (a : At h0 f (addS S i) b x j) :
    (j = i + 1 ∧ May h0 f i b ∧ (f i).2.out b = some x) ∨ (¬ May h0 f i b ∧ At h0 f S b x j) := by
  have hsub : ∀ k, S k = true → addS S i k = true := fun k h => by unfold addS; rw [h]; rfl
  by_cases e : j = i + 1
  · rcases a.src with ⟨h, -⟩ | ⟨i', h1, h2, h3, h4⟩
    · omega
    · obtain rfl : i' = i := by omega
      exact .inl ⟨e, h3, h4⟩
  · right
    have hnm : ¬ May h0 f i b := by
      by_cases hj : j ≤ i
      · exact a.last i hj addS_self
      · rcases a.src with ⟨h, -⟩ | ⟨k, h1, h2, h3, h4⟩
        · omega
        · have hki : k ≠ i := by omega
          rw [addS_of hki] at h2
          intro hm
          have h5 : inMask (bf.getD i 0) k = false := by
            cases h : inMask (bf.getD i 0) k with
            | false => rfl
            | true => have := pt.lt i k h; omega
          have h6 : inMask (bf.getD k 0) i = false := by
            cases h : inMask (bf.getD k 0) i with
            | false => rfl
            | true => rw [hd k i h2 h] at hn; cases hn
          rcases hm.2 with ⟨m1, m2⟩ | ⟨m1, m2⟩ <;> rcases h3.2 with ⟨n1, n2⟩ | ⟨n1, n2⟩
          · have := (pt.apart hki hm.1 h3.1 h5 h6 m2 n2).1
            rw [this] at m1; cases m1
          · rw [pt.own i k b (kn.sub hs) m2 n1 n2] at h5; cases h5
          · rw [pt.own k i b (kn.down hd h2) n2 m1 m2] at h6; cases h6
          · exact hki (pt.range n1 n2 m1 m2)
    refine ⟨hnm, a.src.imp id fun ⟨k, h1, h2, h3⟩ => ⟨k, h1, by rwa [addS_of (by omega)] at h2, h3⟩, fun k hk hS => a.last k hk (hsub k hS)⟩
/-- Memory behind a calm operation. -/
theorem Mid.calm {w' : World} (rg : Rg P ops bf cv0 h0 f N) (m : Mid h0 f S β0 w0 β w) (hi : (f i).2 = .calm) (he : Ext w w') : Mid h0 f (addS S i) β0 w0 β w' := by
  have hsub : ∀ k, S k = true → addS S i k = true := fun k h => by unfold addS; rw [h]; rfl
  have hnm : ∀ b, ¬ May h0 f i b := fun b h => by have := h.1; rw [hi] at this; cases this
  have back : ∀ {b x j}, At h0 f (addS S i) b x j → At h0 f S b x j := fun {b x j} a => by
    refine ⟨a.src.imp id fun ⟨k, h1, h2, h3⟩ => ⟨k, h1, ?_, h3⟩, fun k hk hS => a.last k hk (hsub k hS)⟩
    by_cases e : k = i
    · rw [e] at h3; exact absurd h3.1 (hnm b)
    · rwa [addS_of e] at h2
  refine ⟨fun b x j a => ?_, fun b b' x x' j j' c κ κ' a a' => m.inj b b' x x' j j' c κ κ' (back a) (back a'), m.old, fun b x j a => m.pre b x j (back a), fun b y e => ?_, fun b c κ hb e l hl => m.new b c κ hb e l hl.sub, he.os.trans m.os, he.tape.trans m.tape, he.output.trans m.output, Nat.le_trans m.size he.size, fun l hl c hc h => ?_, ⟨rg.h0, fun k hk => ?_⟩⟩
  · obtain ⟨h1, cb, κ, h2, h3⟩ := m.blk b x j (back a)
    exact ⟨h1, cb, κ, h2, h3.ext he⟩
  · rcases m.dom b y e with h | ⟨j, h1, h2⟩
    · exact .inl h
    · exact .inr ⟨j, hsub j h1, h2⟩
  · rw [he.block c (Nat.lt_of_lt_of_le hc m.size)]
    exact m.kept l hl.sub c hc h
  · by_cases e : k = i
    · rw [e, hi]; intro q I O h; cases h
    · rw [addS_of e] at hk; exact m.exec.ex k hk
end
end Go.Ev
namespace Go.Ev
variable [Sg] [Sl]
open Go.RowKit
variable {P : Program}

section
variable {ops : List Oper} {bf : List Nat} {cv0 : Cv} {h0 : Hp} {f : Rcs} {N : Nat} {ds : List Deferred} {S : Nat → Bool} {β0 : Bt} {w0 : World} {β : Bt} {w : World} {a : Act} {i : Nat} {o : Oper}
/-- No number of one that was not carried out is in use. -/
theorem Mid.unused (rg : Rg P ops bf cv0 h0 f N) (m : Mid h0 f S β0 w0 β w) (hn : S i = false) {b : Nat} (h1 : nxU h0 f i ≤ b) (h2 : b < nxU h0 f (i + 1)) : β b = none := by
  cases e : β b with
  | none => rfl
  | some x =>
    rcases m.dom b x e with h | ⟨j, h3, h4, h5⟩
    · have := rg.mono (Nat.zero_le i)
      have e0 : nxU h0 f 0 = h0.nx := rfl
      omega
    · rw [rg.pt.range h4 h5 h1 h2, hn] at h3; cases h3
/-- Memory, as one finds it that may be carried out. -/
theorem Mid.find (rg : Rg P ops bf cv0 h0 f N) (m : Mid h0 f S β0 w0 β w) (hd : Down bf S) (hr0 : HR β0 h0 w0) {q : Kind} {I O : Hp} (hi : (f i).2 = .act q I O) (hs : ∀ j, inMask (bf.getD i 0) j = true → S j = true) (hn : S i = false) (hlo : I.lo ≤ nxU h0 f i) : HR (restr β (nxU h0 f i)) I w := by
  obtain ⟨o, ho⟩ := rg.at (i := i) (by rw [hi]; rfl)
  have e : I.nx = nxU h0 f i := ((rg.rc i o ho).act q I O hi).2.1
  have := m.hr rg (n := nxU h0 f i) (t := I.tr) (fun b x hb => by
    obtain ⟨j, hj, a⟩ := rg.pt.there hd m.exec hi hs hn hb
    exact ⟨j, a, rg.mono hj⟩) hlo
  rw [show I = .mk I.tr (nxU h0 f i) I.lo by rw [← e]; cases I; rfl]
  exact this
/-- Memory behind an operation. -/
theorem Mid.step (rg : Rg P ops bf cv0 h0 f N) (m : Mid h0 f S β0 w0 β w) (hd : Down bf S) (hr0 : HR β0 h0 w0) {q : Kind} {I O : Hp} (hi : (f i).2 = .act q I O) (hs : ∀ j, inMask (bf.getD i 0) j = true → S j = true) (hn : S i = false) {β2 : Bt} {w' : World} (s : Stp (restr β (nxU h0 f i)) I w β2 O w') :
    ∃ β', Le β β' ∧ Le β2 (restr β' (nxU h0 f (i + 1))) ∧ Mid h0 f (addS S i) β0 w0 β' w' := by
  obtain ⟨o, ho⟩ := rg.at (i := i) (by rw [hi]; rfl)
  have rc := rg.rc i o ho
  have eI : I.nx = nxU h0 f i := (rc.act q I O hi).2.1
  have eO : O.nx = nxU h0 f (i + 1) := (nxU_act hi).symm
  have e0 : nxU h0 f 0 = h0.nx := rfl
  have h0i := rg.mono (Nat.zero_le i)
  have hii := rg.mono (Nat.le_succ i)
  have hsub : ∀ k, S k = true → addS S i k = true := fun k h => by unfold addS; rw [h]; rfl
  let β' : Bt := fun b => if nxU h0 f i ≤ b ∧ b < nxU h0 f (i + 1) then β2 b else β b
  have in_ : ∀ {b}, nxU h0 f i ≤ b → b < nxU h0 f (i + 1) → β' b = β2 b := fun h1 h2 => if_pos ⟨h1, h2⟩
  have out_ : ∀ {b}, ¬ (nxU h0 f i ≤ b ∧ b < nxU h0 f (i + 1)) → β' b = β b := fun h => if_neg h
  have hl : Le β β' := fun b x e => by
    by_cases hr : nxU h0 f i ≤ b ∧ b < nxU h0 f (i + 1)
    · rw [m.unused rg hn hr.1 hr.2] at e; cases e
    · rw [out_ hr]; exact e
  have low2 : ∀ {b}, b < nxU h0 f i → β2 b = β b := fun {b} h => by rw [s.old b (by omega), restr_lt h]
  have eq2 : ∀ {b}, b < nxU h0 f (i + 1) → β' b = β2 b := fun {b} h => by
    by_cases h1 : nxU h0 f i ≤ b
    · exact in_ h1 h
    · rw [out_ (by omega), low2 (by omega)]
  have hl2 : Le β2 (restr β' (nxU h0 f (i + 1))) := fun b x e => by
    have hlt : b < nxU h0 f (i + 1) := Classical.byContradiction fun h => by rw [s.hr.fresh b (by omega)] at e; cases e
    rw [restr_lt hlt, eq2 hlt]; exact e
  have hdom : DomK (f i).2 := fun q' I' O' h => by
    rw [hi] at h; injection h with h1 h2 h3; subst h1; subst h2; subst h3
    exact ⟨fun b x hx => (s.hr.blk b x hx).1, fun b x hb hx => s.dom b x hb hx, s.lo⟩
  have hasI : ∀ {b x}, I.tr.get (path b) = some x → (f i).2.has b := fun {b x} h => by rw [hi]; exact ⟨x, h⟩
  have outO : ∀ {b}, (f i).2.out b = O.tr.get (path b) := by intro b; rw [hi]; rfl
  -- what is written is of those that it may
  have wr_may : ∀ {b x}, I.tr.get (path b) = some x → O.lo ≤ b → May h0 f i b := fun {b x} h hlo => by
    refine ⟨by rw [hi]; rfl, .inl ⟨?_, hasI h⟩⟩
    rw [hi]
    show q.wr = true
    cases hq : q.wr with
    | true => rfl
    | false =>
      have h1 := (rc.lo q I O hi).2.2 hq
      obtain ⟨j, hj, a⟩ := rg.pt.there hd m.exec hi hs hn h
      have := (m.blk b x j a).1
      have := rg.mono hj
      omega
  have stay : ∀ {b x j}, At h0 f S b x j → ¬ May h0 f i b → ∀ {cb κ}, β b = some (cb, κ) → cb < w.heap.size → w'.heap[cb]? = w.heap[cb]? := fun {b x j} a hnm {cb κ} e hcb => by
    refine s.kept.blocks cb hcb fun b2 κ2 x2 hlo hx2 e2 => ?_
    have e2' := (restr_some e2).2
    obtain ⟨j2, hj2, a2⟩ := rg.pt.there hd m.exec hi hs hn hx2
    obtain rfl := m.inj b b2 x x2 j j2 cb κ κ2 a a2 e e2'
    exact hnm (wr_may hx2 hlo)
  have cases_ : ∀ {b x j}, At h0 f (addS S i) b x j → (j = i + 1 ∧ May h0 f i b ∧ O.tr.get (path b) = some x) ∨ (¬ May h0 f i b ∧ At h0 f S b x j) := fun {b x j} a => by
    have := a.add rg.pt hd m.exec hs hn
    rwa [outO] at this
  refine ⟨β', hl, hl2, ⟨fun b x j a => ?_, fun b b' x x' j j' c κ κ' a a' e e' => ?_, fun b hb => ?_, fun b x j a hb => ?_, fun b y e => ?_, fun b c κ hb e l hl => ?_, s.kept.os.trans m.os, s.kept.tape.trans m.tape, s.kept.output.trans m.output, Nat.le_trans m.size s.kept.size, fun l hl c hc h => ?_, ⟨rg.h0, fun k hk => ?_⟩⟩⟩
  · rcases cases_ a with ⟨rfl, -, hx⟩ | ⟨hnm, a⟩
    · obtain ⟨h1, cb, κ, h2, h3⟩ := s.hr.blk b x hx
      rw [eO] at h1
      exact ⟨h1, cb, κ, by rw [eq2 h1]; exact h2, h3.mono hl2⟩
    · obtain ⟨h1, cb, κ, h2, h3⟩ := m.blk b x j a
      refine ⟨h1, cb, κ, hl _ _ h2, ?_⟩
      rw [stay a hnm h2 h3.lt]
      exact h3.mono (restr_mono (Nat.le_refl _) hl)
  · have mixed : ∀ {b b' x x' j' κ κ'}, May h0 f i b → O.tr.get (path b) = some x → ¬ May h0 f i b' → At h0 f S b' x' j' → β' b = some (c, κ) → β' b' = some (c, κ') → b = b' := by
      intro b b' x x' j' κ κ' hm hx hnm a' e e'
      obtain ⟨h1', cb', κ2', h2', h3'⟩ := m.blk b' x' j' a'
      have eb' : β b' = some (c, κ') := by
        have := hl _ _ h2'
        rw [e'] at this
        rw [h2', ← this]
      have hc' : c < w.heap.size := by
        rw [eb'] at h2'; injection h2' with h2'; injection h2' with h4 h5
        rw [h4]; exact h3'.lt
      have hbO : b < nxU h0 f (i + 1) := by rw [← eO]; exact (s.hr.blk b x hx).1
      rw [eq2 hbO] at e
      by_cases hb : b < nxU h0 f i
      · obtain ⟨y, hy⟩ := s.dom b x (by omega) hx
        rw [low2 hb] at e
        obtain ⟨j, -, a⟩ := rg.pt.there hd m.exec hi hs hn hy
        exact m.inj b b' y x' j j' c κ κ' a a' e eb'
      · rcases s.new b c κ (by omega) e with h | ⟨y, κ2, z, h1, h2, h3, h4⟩
        · omega
        · obtain ⟨j, -, a⟩ := rg.pt.there hd m.exec hi hs hn h3
          obtain rfl := m.inj y b' z x' j j' c κ2 κ' a a' (restr_some h4).2 eb'
          exact absurd (wr_may h3 h1) hnm
    rcases cases_ a with ⟨-, hm, hx⟩ | ⟨hnm, a⟩ <;> rcases cases_ a' with ⟨-, hm', hx'⟩ | ⟨hnm', a'⟩
    · have hb : b < nxU h0 f (i + 1) := by rw [← eO]; exact (s.hr.blk b x hx).1
      have hb' : b' < nxU h0 f (i + 1) := by rw [← eO]; exact (s.hr.blk b' x' hx').1
      rw [eq2 hb] at e; rw [eq2 hb'] at e'
      exact s.hr.inj b b' x x' c κ κ' hx hx' e e'
    · exact mixed hm hx hnm' a' e e'
    · exact (mixed hm' hx' hnm a e' e).symm
    · obtain ⟨-, cb, κ2, h2, -⟩ := m.blk b x j a
      obtain ⟨-, cb', κ2', h2', -⟩ := m.blk b' x' j' a'
      have h3 := hl _ _ h2
      have h3' := hl _ _ h2'
      rw [e] at h3; rw [e'] at h3'
      rw [← h3] at h2; rw [← h3'] at h2'
      exact m.inj b b' x x' j j' c κ κ' a a' h2 h2'
  · rw [out_ (by omega)]; exact m.old b hb
  · rcases cases_ a with ⟨rfl, -, hx⟩ | ⟨-, a⟩
    · obtain ⟨y, hy⟩ := s.dom b x (by omega) hx
      obtain ⟨j, -, a⟩ := rg.pt.there hd m.exec hi hs hn hy
      exact m.pre b y j a hb
    · exact m.pre b x j a hb
  · by_cases hr : nxU h0 f i ≤ b ∧ b < nxU h0 f (i + 1)
    · exact .inr ⟨i, addS_self, hr⟩
    · rw [out_ hr] at e
      rcases m.dom b y e with h | ⟨j, h1, h2⟩
      · exact .inl h
      · exact .inr ⟨j, hsub j h1, h2⟩
  · by_cases hr : nxU h0 f i ≤ b ∧ b < nxU h0 f (i + 1)
    · rw [in_ hr.1 hr.2] at e
      rcases s.new b c κ (by omega) e with h | ⟨x, κ2, z, h1, h2, h3, h4⟩
      · exact .inl (Nat.le_trans m.size h)
      · have hlo : l ≤ x := Nat.le_trans (hl.2 i q I O addS_self hi) h1
        have h4' := (restr_some h4).2
        by_cases hx : x < h0.nx
        · obtain ⟨j, -, a⟩ := rg.pt.there hd m.exec hi hs hn h3
          obtain ⟨y, hy⟩ := m.pre x z j a hx
          exact .inr ⟨x, κ2, y, hlo, hx, hy, by rw [← m.old x hx]; exact h4'⟩
        · exact m.new x c κ2 (by omega) h4' l hl.sub
    · rw [out_ hr] at e
      exact m.new b c κ hb e l hl.sub
  · rw [s.kept.blocks c (Nat.lt_of_lt_of_le hc m.size) ?_]
    · exact m.kept l hl.sub c hc h
    · intro b κ x hb hx e
      have e' := (restr_some e).2
      have hlo : l ≤ b := Nat.le_trans (hl.2 i q I O addS_self hi) hb
      by_cases hb0 : b < h0.nx
      · obtain ⟨j, -, a⟩ := rg.pt.there hd m.exec hi hs hn hx
        obtain ⟨y, hy⟩ := m.pre b x j a hb0
        exact h b κ y hlo hy (by rw [← m.old b hb0]; exact e')
      · rcases m.new b c κ (by omega) e' l hl.sub with h1 | ⟨x, κ', y, h1, h2, h3, h4⟩
        · omega
        · exact h x κ' y h1 h3 h4
  · by_cases e : k = i
    · rw [e]; exact hdom
    · rw [addS_of e] at hk; exact m.exec.ex k hk
theorem glob_restr (rg : Rg P ops bf cv0 h0 f N) (hr0 : HR β0 h0 w0) (hg : GlobK P β0) (m : Mid h0 f S β0 w0 β w) (i : Nat) : GlobK P (restr β (nxU h0 f i)) := fun g hlt => by
  obtain ⟨κ, e⟩ := hg g hlt
  have h1 : g < h0.nx := Classical.byContradiction fun h => by rw [hr0.fresh g (by omega)] at e; cases e
  have h2 : h0.nx ≤ nxU h0 f i := rg.mono (i := 0) (Nat.zero_le i)
  exact ⟨κ, by rw [restr_lt (by omega), m.old g h1]; exact e⟩
theorem con_low1 {β : Bt} {n : Nat} : ∀ {v : AV} {u : Value}, con β v = some u → lowA1 n v = true → con (restr β n) v = some u
  | .nat _, _, h, _ => h
  | .u8 _, _, h, _ => h
  | .int _ _, _, h, _ => h
  | .bool _, _, h, _ => h
  | .str _ _, _, h, _ => by simpa [con] using h
  | .raw _, _, h, _ => by simpa [con] using h
  | .ptr b _, _, h, hl => by
    simp only [con, restr_lt (show b < n from Nat.le_of_ble_eq_true hl)] at h ⊢; exact h
  | .slice b _ _ _ _, _, h, hl => by
    simp only [con, restr_lt (show b < n from Nat.le_of_ble_eq_true hl)] at h ⊢; exact h
  | .map b, _, h, hl => by
    simp only [con, restr_lt (show b < n from Nat.le_of_ble_eq_true hl)] at h ⊢; exact h
  | .iface _ _, _, _, hl => by cases hl
  | .agg _, _, _, hl => by cases hl
  | .tup _, _, _, hl => by cases hl
  | .fn f a b, _, h, hl => by
    unfold lowA1 at hl
    split at hl <;> first | (cases hl; done) | skip
    all_goals first | (rename_i e; cases e; done) | (rename_i e; injection e with e1 e2 e3; subst e1; subst e2; subst e3; simpa [con, conL] using h)
  | .sym _, _, _, hl => by cases hl
theorem con_lowL {β : Bt} {n : Nat} : ∀ {l : List AV} {us : List Value}, conL β l = some us → lowL n l = true → conL (restr β n) l = some us
  | [], us, h, _ => by rw [conL_nil h]; rfl
  | x :: xs, us, h, hl => by
    unfold lowL at hl
    rw [Bool.and_eq_true] at hl
    obtain ⟨v, vs, h1, h2, rfl⟩ := conL_cons h
    exact conL_mk (con_low1 h1 hl.1) (con_lowL h2 hl.2)
theorem con_low {β : Bt} {n : Nat} {v : AV} {u : Value} (h : con β v = some u) (hl : lowA n v = true) : con (restr β n) v = some u := by
  cases v <;> first | exact con_low1 h hl | skip
  · rename_i l
    simp only [con, Option.bind_eq_some_iff] at h ⊢
    obtain ⟨us, h1, h2⟩ := h
    exact ⟨us, con_lowL h1 hl, h2⟩
  · rename_i l
    simp only [con, Option.map_eq_some_iff] at h ⊢
    obtain ⟨us, h1, h2⟩ := h
    exact ⟨us, con_lowL h1 hl, h2⟩
/-- Bars fall. -/
theorem loU_le (h : ∀ k, k < i → (f k).2.isBar = true → DomK (f k).2) (rg : Rg P ops bf cv0 h0 f N) : loU h0 f i ≤ h0.lo := by
  induction i with
  | zero => exact Nat.le_refl _
  | succ i ih =>
    have ih := ih fun k hk => h k (by omega)
    refine Nat.le_trans ?_ ih
    show (f i).2.lo (loU h0 f i) ≤ _
    cases hk : (f i).2 with
    | calm => exact Nat.le_refl _
    | act q I O =>
      cases q with
      | bar =>
        obtain ⟨o, ho⟩ := rg.at (i := i) (by rw [hk]; rfl)
        have h1 := (h i (Nat.lt_succ_self i) (by rw [hk]; rfl) .bar I O hk).2.2
        have h2 := ((rg.rc i o ho).lo .bar I O hk).1 rfl
        show O.lo ≤ _
        omega
      | gen => exact Nat.le_refl _
      | mk => exact Nat.le_refl _
      | spot => exact Nat.min_le_left _ _
/-- One operation. -/
theorem Inv.step (iv : Inv P ops cv0 h0 f N ds β0 w0 S β a w) (rg : Rg P ops bf cv0 h0 f N) (rd : Rdy ops S i o) (hr0 : HR β0 h0 w0) (hg : GlobK P β0) {arr : Array Oper} (harr : arr.toList = ops) {K : Act → World → Prop} {Q : Exit → Act → World → Prop}
    (hK : ∀ β' a' w', Inv P ops cv0 h0 f N ds β0 w0 (addS S i) β' a' w' → K a' w') : wpOp P arr Q i K a w := by
  have m := iv.mid
  have hd := iv.downS rg
  have hs : ∀ j, inMask (bf.getD i 0) j = true → S j = true := fun j h => iv.mask rg rd h
  have rc := rg.rc i o rd.at_
  have hrd := iv.reads rg rd
  have hga := glob_restr rg hr0 hg m i
  have hat : arr[i]? = some o := by rw [← Array.getElem?_toList, harr]; exact rd.at_
  have hwant : ∀ b, wantedA ops (cvU cv0 ops f i) o = some b → Region.wanted o (yielded arr a.tmps) = b := fun b h => by
    rw [wantedA_reads] at h
    subst harr
    exact wantedA_con hrd h
  have hxs : ∀ xs, opnds P (cvU cv0 ops f i) o.op.operands.toList = some xs → conL (restr β (nxU h0 f i)) xs = some (o.op.operands.toList.map a.eval) := fun xs h => by
    rw [opnds_reads (ops := ops)] at h
    exact opnds_con hrd hga h
  cases hk : (f i).2 with
  | calm =>
    have hnx : nxU h0 f (i + 1) = nxU h0 f i := by show (f i).2.nx _ = _; rw [hk]; rfl
    rcases rc.calm hk with (⟨h1, v, xs, h2, h3, h4⟩ | ⟨h1, h2⟩ | ⟨h1, t, h2, h3⟩) | ⟨h1, v, xs, h2, h3, h5, h6, h7⟩
    · unfold wpOp
      rw [hat]
      dsimp only
      rw [if_pos (hwant true h1)]
      left
      have hr : HR (restr β (nxU h0 f i)) (.mk .leaf (nxU h0 f i) (nxU h0 f i)) w := m.hr rg (fun b x hb => by rw [get_leaf] at hb; cases hb) (Nat.le_refl _)
      refine h4 _ _ w a hr hga (hxs xs h3) K Q fun β2 w' u s hu => ?_
      have he : Ext w w' := s.kept.ext fun b hb => restr_ge hb
      have hl2 : Le β2 (restr β (nxU h0 f i)) := fun b x e => by
        by_cases hb : b < nxU h0 f i
        · rwa [s.old b hb] at e
        · rw [s.hr.fresh b (by show nxU h0 f i ≤ b; omega)] at e; cases e
      exact hK β _ _ (iv.put rg rd (.refl β) (m.calm rg hk he) fun v' e => by
        rw [h2] at e; injection e with e; subst e
        rw [hnx]; exact con_mono hl2 hu)
    · unfold wpOp
      rw [hat]
      dsimp only
      rw [if_neg (by rw [hwant false h1]; simp)]
      exact hK β _ _ (iv.put rg rd (.refl β) (m.calm rg hk (.refl w)) fun v e => by rw [h2] at e; injection e with e; subst e; rfl)
    · unfold wpOp
      rw [hat]
      dsimp only
      rw [if_pos (by unfold Region.wanted; rw [h1])]
      left
      unfold Oper.wp
      rw [exec_move h2]
      show K (a.put o.dst _) w
      refine hK β _ _ (iv.put rg rd (.refl β) (m.calm rg hk (.refl w)) fun v e => ?_)
      rw [hnx]
      refine hrd t v ?_
      unfold cvR
      rw [if_pos]
      · rw [← h3]; exact e
      · unfold readsOf
        rw [h2]
        exact List.mem_append_left _ (List.mem_filterMap.2 ⟨.tmp t, by simp [Op.operands], rfl⟩)
    · obtain ⟨H, ⟨hcb, O, hO1, hO2, h4⟩, hH⟩ := h7 S iv.inb hd m.exec hs rd.no
      have hr : HR (restr β bigN) (.mk H.tr bigN bigN) w := m.hr rg hH (Nat.le_refl _)
      have hmono : Le (restr β (nxU h0 f i)) (restr β bigN) := restr_mono h6 (.refl β)
      have hgb : GlobK P (restr β bigN) := fun g hlt => by
        obtain ⟨κ, e⟩ := hga g hlt
        exact ⟨κ, hmono _ _ e⟩
      unfold wpOp
      rw [hat]
      dsimp only
      rw [if_pos (hwant true h1)]
      left
      refine h4 _ w a hr hgb (conL_mono hmono (hxs xs h3)) K Q fun β2 w' u s hu => ?_
      have he : Ext w w' := s.kept.ext fun b hb => restr_ge (by rw [hO2] at hb; exact hb)
      have hl2 : Le β2 (restr β bigN) := fun b x e => by
        by_cases hb : b < bigN
        · rwa [s.old b hb] at e
        · rw [s.hr.fresh b (by rw [hO1]; omega)] at e; cases e
      exact hK β _ _ (iv.put rg rd (.refl β) (m.calm rg hk he) fun v' e => by
        rw [h2] at e; injection e with e; subst e
        rw [hnx]
        exact con_low (con_mono (hl2.trans (restr_le β bigN)) hu) h5)
  | act q I O =>
    obtain ⟨⟨v, h1, h2, xs, h3, h4, -⟩, -, -⟩ := rc.act q I O hk
    have hlo : I.lo ≤ nxU h0 f i := by
      obtain ⟨g1, g2, -⟩ := rc.lo q I O hk
      by_cases hq : q = .bar
      · rw [g1 hq]
        have := loU_le (i := i) (fun k hki hb => m.exec.ex k (hs k (rg.bars i k (by rw [hk, hq]; rfl) hb hki))) rg
        have := hr0.low
        have := rg.mono (Nat.zero_le i)
        have e : nxU h0 f 0 = h0.nx := rfl
        omega
      · rw [g2 hq]; exact Nat.le_refl _
    unfold wpOp
    rw [hat]
    dsimp only
    rw [if_pos (hwant true h2)]
    left
    refine h4 _ w a (m.find rg hd hr0 hk hs rd.no hlo) hga (hxs xs h3) K Q fun β2 w' u s hu => ?_
    obtain ⟨β', hl, hl2, hm⟩ := m.step rg hd hr0 hk hs rd.no s
    exact hK β' _ _ (iv.put rg rd hl hm fun v' e => by
      rw [h1] at e; injection e with e; subst e
      exact con_mono hl2 hu)
end
end Go.Ev
