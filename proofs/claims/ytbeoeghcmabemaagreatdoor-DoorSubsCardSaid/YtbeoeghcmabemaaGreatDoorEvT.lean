/- The evaluator's regions: operations by their operands. -/
import Derived.Test.YtbeoeghcmabemaaGreatDoorEvR
import Derived.Orders
set_option linter.unusedVariables false
set_option linter.unusedSectionVars false
set_option linter.unusedSimpArgs false
namespace Go.Ev
variable [Sg] [Sl]
open Go.RowKit
variable {P : Program}

theorem inMask_eq (a t : Nat) : inMask a t = a.testBit t := by
  unfold inMask
  show Nat.beq ((a >>> t) &&& 1) 1 = _
  rw [Nat.testBit, Nat.and_comm]
  have : (1 &&& (a >>> t)) = (a >>> t) % 2 := by rw [Nat.and_comm]; exact Nat.and_one_is_mod _
  rw [this]
  rcases Nat.mod_two_eq_zero_or_one (a >>> t) with h | h <;> rw [h] <;> rfl
theorem inMask_or (a t s : Nat) : inMask (orMask a t) s = (inMask a s || decide (t = s)) := by
  rw [inMask_eq, inMask_eq]
  show (a ||| 2 ^ t).testBit s = _
  rw [Nat.testBit_or, Nat.testBit_two_pow]
theorem inMask_lor (a b s : Nat) : inMask (Nat.lor a b) s = (inMask a s || inMask b s) := by
  rw [inMask_eq, inMask_eq, inMask_eq]
  exact Nat.testBit_or a b s
theorem inMask_zero (s : Nat) : inMask 0 s = false := by rw [inMask_eq]; exact Nat.zero_testBit s

abbrev Cv := Nat → Option AV
def updO (cv : Cv) (d : Option Tmp) (v : Option AV) : Cv := match d with
  | some d => fun t => if t = d then v else cv t
  | none => cv
/-- The value of an operand, as the evaluator knows the temporaries. -/
noncomputable def opnd (P : Program) (cv : Cv) (x : Operand) : Option AV := match x with
  | .tmp t => cv t
  | .const v => if okConst v = true then some (toAV v) else none
  | .global g => if g < P.globals.size then some (.ptr g 0) else none
  | .func f => some (.fn (.func f) [] [])
noncomputable def opnds (P : Program) (cv : Cv) : List Operand → Option (List AV)
  | [] => some []
  | x :: xs => (opnd P cv x).bind fun v => (opnds P cv xs).map (v :: ·)
/-- What the evaluator knows of the temporaries holds. -/
def CvR (β : Bt) (cv : Cv) (tmps : Array Value) : Prop := ∀ t av, cv t = some av → con β av = some (tmps.getD t undef)
theorem opnd_con {β : Bt} {cv : Cv} {a : Act} (hc : CvR β cv a.tmps) (hg : GlobK P β) {x : Operand} {av : AV} (h : opnd P cv x = some av) : con β av = some (a.eval x) := by
  cases x with
  | tmp t => exact hc t av h
  | const v =>
    replace h : (if okConst v = true then some (toAV v) else none) = some av := h
    split at h
    · rename_i ho; injection h with h; subst h; exact toAV_con β ho
    · cases h
  | global g =>
    replace h : (if g < P.globals.size then some (AV.ptr g 0) else none) = some av := h
    split at h
    · rename_i hlt; injection h with h; subst h
      obtain ⟨κ, e⟩ := hg g hlt
      simp only [con, e]; rfl
    · cases h
  | func f => replace h : some (AV.fn (.func f) [] []) = some av := h; injection h with h; subst h; rfl
theorem opnds_con {β : Bt} {cv : Cv} {a : Act} (hc : CvR β cv a.tmps) (hg : GlobK P β) : ∀ {xs : List Operand} {l : List AV}, opnds P cv xs = some l → conL β l = some (xs.map a.eval)
  | [], l, h => by injection h with h; subst h; rfl
  | x :: xs, l, h => by
    simp only [opnds, Option.bind_eq_some_iff, Option.map_eq_some_iff] at h
    obtain ⟨v, h1, vs, h2, rfl⟩ := h
    exact conL_mk (opnd_con hc hg h1) (opnds_con hc hg h2)
/-- Is it carried out? -/
def wantedA (ops : List Oper) (cv : Cv) (o : Oper) : Option Bool := match o.guard with
  | none => some true
  | some (g, want) => match (ops[g]?).bind (·.dst) with
    | some d => match cv d with
      | some (.bool b) => some (b == want)
      | some (.tup _) => some false
      | _ => none
    | none => none
theorem wantedA_con {β : Bt} {cv : Cv} {tmps : Array Value} (hc : CvR β cv tmps) {ops : Array Oper} {o : Oper} {b : Bool} (h : wantedA ops.toList cv o = some b) : Region.wanted o (yielded ops tmps) = b := by
  unfold wantedA at h
  unfold Region.wanted
  cases hg : o.guard with
  | none => rw [hg] at h; injection h
  | some p =>
    obtain ⟨g, want⟩ := p
    rw [hg] at h
    dsimp only at h ⊢
    have e1 : ops.toList[g]? = ops[g]? := by simp
    rw [e1] at h
    cases hd : (ops[g]?).bind (·.dst) with
    | none => rw [hd] at h; cases h
    | some d =>
      rw [hd] at h
      dsimp only at h
      unfold yielded
      rw [hd, Option.bind_some]
      cases hv : cv d with
      | none => rw [hv] at h; cases h
      | some av =>
        have hcon := hc d av hv
        rw [hv] at h
        have hget : ∀ x, tmps.getD d undef = x → x ≠ undef → tmps[d]? = some x := by
          intro x hx hne
          by_cases hlt : d < tmps.size
          · rw [Array.getElem?_eq_getElem hlt]
            simp [Array.getD, hlt] at hx
            rw [hx]
          · simp [Array.getD, hlt] at hx
            exact absurd hx.symm hne
        cases av
        case bool x =>
          dsimp only at h
          injection h with h
          have := con_bool hcon
          rw [hget _ this (by intro e; cases e)]
          dsimp only
          rw [← h]
          cases x <;> cases want <;> rfl
        case tup l =>
          dsimp only at h
          injection h with h
          obtain ⟨vs, _, e⟩ := con_tup hcon
          rw [← h]
          cases ht : tmps[d]? with
          | none => rfl
          | some z =>
            have hlt := (Array.getElem?_eq_some_iff.1 ht).1
            have : z = .tuple vs.toArray := by
              rw [Array.getElem?_eq_getElem hlt] at ht
              injection ht with ht
              rw [← e, ← ht]
              simp [Array.getD, hlt]
            subst this
            cases want <;> rfl
        all_goals (dsimp only at h; cases h)
/-- Of the places in a region: each is what is known. -/
structure Loc (P : Program) (D : Dl) (now : Nat) (L : List AV) (env : Tr AV) (cv : Cv) : Prop where
  len : L.length = now
  res : ∀ t av, rfGet (resolveD D now t) L env = some av → cv t = some av
theorem Loc.opnd {D : Dl} {now : Nat} {L : List AV} {env : Tr AV} {cv : Cv} (h : Loc P D now L env cv) {x : Operand} {av : AV} (hx : rfGet (rfOp P D now x) L env = some av) : opnd P cv x = some av := by
  cases x with
  | tmp t => exact h.res t av hx
  | const v =>
    rw [rfOp_const] at hx
    show (if okConst v = true then some (toAV v) else none) = some av
    split at hx
    · rename_i ho; rw [if_pos ho]; exact hx
    · cases hx
  | global g =>
    replace hx : rfGet (match Nat.blt g P.globals.size with | true => Rf.cst (.ptr g 0) | false => Rf.bad) L env = some av := hx
    show (if g < P.globals.size then some (AV.ptr g 0) else none) = some av
    split at hx
    · rename_i hb
      rw [if_pos (by simpa using hb)]; exact hx
    · cases hx
  | func f => exact hx
theorem rfsK_yes {rs : List Rf} {L : List AV} {env : Tr AV} {k : List AV → Ans} (H : rfsK rs L env k = .yes) : ∃ vs, k vs = .yes ∧ vs.length = rs.length ∧ ∀ (i : Nat) r v, rs[i]? = some r → vs[i]? = some v → rfGet r L env = some v := by
  induction rs generalizing k with
  | nil => exact ⟨[], H, rfl, fun i r v h => by simp at h⟩
  | cons r rs ih =>
    obtain ⟨v, H1, hv⟩ := rfK_yes (k := fun v => rfsK rs L env fun vs => k (v :: vs)) H
    obtain ⟨vs, H2, h1, h2⟩ := ih H1
    refine ⟨v :: vs, H2, by simp [h1], fun i r' v' hr hv' => ?_⟩
    cases i with
    | zero => simp at hr hv'; subst hr; subst hv'; exact hv
    | succ i => exact h2 i r' v' (by simpa using hr) (by simpa using hv')
theorem Loc.opnds {D : Dl} {now : Nat} {L : List AV} {env : Tr AV} {cv : Cv} (h : Loc P D now L env cv) : ∀ {xs : List Operand} {vs : List AV}, vs.length = (xs.map (rfOp P D now)).length → (∀ (i : Nat) r v, (xs.map (rfOp P D now))[i]? = some r → vs[i]? = some v → rfGet r L env = some v) → opnds P cv xs = some vs
  | [], [], _, _ => rfl
  | [], _ :: _, hl, _ => by simp at hl
  | _ :: _, [], hl, _ => by simp at hl
  | x :: xs, v :: vs, hl, hx => by
    have h1 := h.opnd (x := x) (hx 0 _ v (by simp) (by simp))
    have h2 := Loc.opnds h (xs := xs) (vs := vs) (by simpa using hl) (fun i r u hr hu => hx (i + 1) r u (by simpa using hr) (by simpa using hu))
    simp only [Ev.opnds, h1, h2]; rfl
/-- What an operation is carried out to. -/
def Acts (P : Program) (o : Oper) (cv : Cv) (h : Hp) (v : AV) (h1 : Hp) : Prop :=
  ∃ xs, opnds P cv o.op.operands.toList = some xs ∧ OpHoldsG P o xs h v h1 ∧ (quietOp P o.op = true → h1 = h ∧ ∀ h2, OpHoldsG P o xs h2 v h2)
theorem bare_yes {callf : CallF} (hcall : CallSound P callf) {keep : Nat} {o : Oper} {D : Dl} {now : Nat} {L : List AV} {env : Tr AV} {cv : Cv} (hl : Loc P D now L env cv) {h : Hp} {fs : Frees} {k : Option Pa → AV → Hp → Frees → Ans}
    (H : doCO callf (bareCO P keep o D now) L env h fs k = .yes) : ∃ v h1, k (dstP keep o) v h1 fs = .yes ∧ Acts P o cv h v h1 := by
  have gen : ∀ (c : OpC), OpCOk P o c → doCO callf (bareOf c (o.op.operands.toList.map (rfOp P D now)) (dstP keep o)) L env h fs k = .yes → ∃ v h1, k (dstP keep o) v h1 fs = .yes ∧ Acts P o cv h v h1 := by
    intro c hc H
    unfold bareOf at H
    split at H
    · rename_i f r hargs
      obtain ⟨x, H1, hx⟩ := rfK_yes (k := fun x => f x h fun v h => k (dstP keep o) v h fs) H
      obtain ⟨v, h1, H2, h3, h4⟩ := hc x h _ H1
      refine ⟨v, h1, H2, [x], hl.opnds (by rw [hargs]; rfl) (fun i r' v' hr hv' => ?_), h3.g, fun hq => ⟨(h4 hq).1, fun h2 => ((h4 hq).2 h2).g⟩⟩
      rw [hargs] at hr
      cases i with
      | zero => simp at hr hv'; subst hr; subst hv'; exact hx
      | succ i => simp at hr
    · rename_i f r s hargs
      obtain ⟨x, H1, hx⟩ := rfK_yes (k := fun x => rfK s L env fun y => f x y h fun v h => k (dstP keep o) v h fs) H
      obtain ⟨y, H2, hy⟩ := rfK_yes (k := fun y => f x y h fun v h => k (dstP keep o) v h fs) H1
      obtain ⟨v, h1, H3, h3, h4⟩ := hc x y h _ H2
      refine ⟨v, h1, H3, [x, y], hl.opnds (by rw [hargs]; rfl) (fun i r' v' hr hv' => ?_), h3.g, fun hq => ⟨(h4 hq).1, fun h2 => ((h4 hq).2 h2).g⟩⟩
      rw [hargs] at hr
      match i with
      | 0 => simp at hr hv'; subst hr; subst hv'; exact hx
      | 1 => simp at hr hv'; subst hr; subst hv'; exact hy
      | i + 2 => simp at hr
    · rename_i f
      obtain ⟨xs, H1, hx1, hx2⟩ := rfsK_yes (k := fun xs => f xs h fun v h => k (dstP keep o) v h fs) H
      obtain ⟨v, h1, H2, h3, h4⟩ := hc xs h _ H1
      exact ⟨v, h1, H2, xs, hl.opnds hx1 hx2, h3.g, fun hq => ⟨(h4 hq).1, fun h2 => ((h4 hq).2 h2).g⟩⟩
    · cases H
    · cases H
  unfold bareCO at H
  split at H
  · rename_i x hop
    obtain ⟨v, H1, hx⟩ := rfK_yes (k := fun v => k (dstP keep o) v h fs) H
    have hh : ∀ h2, OpHoldsG P o [v] h2 v h2 := fun h2 => (OpHolds.pure fun β w a hx2 => by
      rw [hop] at hx2
      exact ⟨a.eval x, by simp [execOp, hop], conL1 hx2⟩).g
    refine ⟨v, h, H1, [v], ?_, hh h, fun _ => ⟨rfl, hh⟩⟩
    rw [hop]
    show opnds P cv [x] = some [v]
    simp only [opnds, hl.opnd hx]; rfl
  · rename_i x hop
    obtain ⟨v, H1, hx⟩ := rfK_yes (k := fun v => k (dstP keep o) v h fs) H
    have hh : ∀ h2, OpHoldsG P o [v] h2 v h2 := fun h2 => (OpHolds.pure fun β w a hx2 => by
      rw [hop] at hx2
      exact ⟨a.eval x, by simp [execOp, hop], conL1 hx2⟩).g
    refine ⟨v, h, H1, [v], ?_, hh h, fun _ => ⟨rfl, hh⟩⟩
    rw [hop]
    show opnds P cv [x] = some [v]
    simp only [opnds, hl.opnd hx]; rfl
  · rename_i F args ats hop
    replace H : rfsK ((F :: args.toList).map (rfOp P D now)) L env (fun xs => applyK callf xs h fun v h => k (dstP keep o) v h fs) = .yes := H
    obtain ⟨xs, H1, hx1, hx2⟩ := rfsK_yes H
    obtain ⟨v, h1, H2, h3⟩ := applyK_sound hcall hop H1
    refine ⟨v, h1, H2, xs, ?_, h3, fun hq => by rw [hop] at hq; cases hq⟩
    rw [hop]
    have e : (Op.call ⟨.value F, args, ats⟩).operands.toList = F :: args.toList := by simp [Op.operands, Call.operands]
    rw [e]
    exact hl.opnds hx1 hx2
  · exact gen _ (opC_sound o) H
end Go.Ev
namespace Go.Ev
variable [Sg] [Sl]
open Go.RowKit
variable {P : Program}

theorem resolveD_nil (now t : Nat) : resolveD [] now t = .var (path t) := rfl
theorem resolveD_cons (e : Nat × (Nat ⊕ Rf)) (D : Dl) (now t : Nat) : resolveD (e :: D) now t = if e.1 = t then (match e.2 with | .inl i => .loc (now - 1 - i) | .inr r => r) else resolveD D now t := by
  show (Bool.rec (motive := fun _ => Rf) (resolveD D now t) (Sum.rec (motive := fun _ => Rf) (fun i => .loc (Nat.sub (Nat.sub now 1) i)) (fun r => r) e.2) (Nat.beq e.1 t)) = _
  by_cases h : e.1 = t
  · rw [if_pos h, show Nat.beq e.1 t = true from by rw [h]; exact Nat.beq_refl t]
    cases e.2 <;> rfl
  · rw [if_neg h, show Nat.beq e.1 t = false from by rw [Bool.eq_false_iff]; exact fun hb => h (Nat.eq_of_beq_eq_true hb)]
def putE (d : Option Pa) (v : AV) (env : Tr AV) : Tr AV := match d with
  | some p => env.set p (some v)
  | none => env
theorem putEnv_eq (d : Option Pa) (v : AV) (env : Tr AV) (k : Tr AV → Ans) : putEnv d v env k = k (putE d v env) := by
  cases d with
  | none => rfl
  | some p => exact setP_eq p (some v) env k
theorem dstP_get (keep : Nat) (o : Oper) (v : AV) (env : Tr AV) (t : Nat) : (putE (dstP keep o) v env).get (path t) = if o.dst = some t ∧ inMask keep t = true then some v else env.get (path t) := by
  unfold dstP
  cases hd : o.dst with
  | none => simp [putE]
  | some d =>
    dsimp only
    cases hm : inMask keep d with
    | false =>
      rw [if_neg]
      · rfl
      · rintro ⟨e, h⟩; injection e with e; subst e; rw [hm] at h; cases h
    | true =>
      show (env.set (path d) (some v)).get (path t) = _
      rw [get_set]
      by_cases e : t = d
      · subst e; rw [if_pos rfl, if_pos ⟨rfl, hm⟩]
      · rw [if_neg (path_ne e), if_neg]
        rintro ⟨h, _⟩; injection h with h; exact e h.symm
/-- A place that stays where it is. -/
def Fast (rest : List Oper) (now : Nat) (x : Nat ⊕ Rf) : Prop := match x with
  | .inl i => i < now
  | .inr r => ∃ t, r = .var (path t) ∧ assigned rest t = false
structure Pl (P : Program) (keep : Nat) (rest : List Oper) (D : Dl) (now : Nat) (L : List AV) (env : Tr AV) (cv : Cv) : Prop where
  loc : Loc P D now L env cv
  envK : EnvK keep env
  envC : ∀ t av, env.get (path t) = some av → cv t = some av
  ok : ∀ e ∈ D, Fast rest now e.2
theorem assigned_cons {o : Oper} {rest : List Oper} {t : Nat} (h : assigned (o :: rest) t = false) : o.dst ≠ some t ∧ assigned rest t = false := by
  unfold assigned at h ⊢
  rw [List.any_cons, Bool.or_eq_false_iff] at h
  refine ⟨fun e => ?_, h.2⟩
  have := h.1
  rw [e] at this
  dsimp only at this
  rw [Nat.beq_refl] at this
  cases this
theorem Fast.later {o : Oper} {rest : List Oper} {now now' : Nat} (hn : now ≤ now') {x : Nat ⊕ Rf} (h : Fast (o :: rest) now x) : Fast rest now' x := by
  cases x with
  | inl i => exact Nat.lt_of_lt_of_le h hn
  | inr r => obtain ⟨t, e, h⟩ := h; exact ⟨t, e, (assigned_cons h).2⟩
theorem resolve_push {o : Oper} {rest : List Oper} {keep now : Nat} {v : AV} {L : List AV} {env : Tr AV} {t : Nat} (ht : o.dst ≠ some t) : ∀ {D : Dl}, (∀ e ∈ D, Fast (o :: rest) now e.2) →
    rfGet (resolveD D (now + 1) t) (v :: L) (putE (dstP keep o) v env) = rfGet (resolveD D now t) L env
  | [], _ => by
    show (putE (dstP keep o) v env).get (path t) = env.get (path t)
    rw [dstP_get, if_neg (fun h => ht h.1)]
  | e :: D, hD => by
    rw [resolveD_cons, resolveD_cons]
    by_cases h : e.1 = t
    · rw [if_pos h, if_pos h]
      have hf := hD e (List.mem_cons_self ..)
      revert hf
      cases e.2 with
      | inl i =>
        intro hf
        have hf' : i < now := hf
        show (v :: L)[now + 1 - 1 - i]? = L[now - 1 - i]?
        rw [show now + 1 - 1 - i = (now - 1 - i) + 1 by omega]
        rfl
      | inr r =>
        rintro ⟨t', rfl, h2⟩
        show (putE (dstP keep o) v env).get (path t') = env.get (path t')
        rw [dstP_get, if_neg (fun h => (assigned_cons h2).1 h.1)]
    · rw [if_neg h, if_neg h]
      exact resolve_push ht (fun e' he => hD e' (List.mem_cons_of_mem _ he))
def consD (d : Option Tmp) (now : Nat) (D : Dl) : Dl := match d with
  | some d => (d, .inl now) :: D
  | none => D
theorem Pl.push {keep : Nat} {o : Oper} {rest : List Oper} {D : Dl} {now : Nat} {L : List AV} {env : Tr AV} {cv : Cv} (h : Pl P keep (o :: rest) D now L env cv) (v : AV) :
    Pl P keep rest (consD o.dst now D) (now + 1) (v :: L) (putE (dstP keep o) v env) (updO cv o.dst (some v)) := by
  have up : ∀ t, updO cv o.dst (some v) t = if o.dst = some t then some v else cv t := fun t => by
    unfold updO
    cases o.dst with
    | none => simp
    | some d =>
      dsimp only
      by_cases e : t = d
      · subst e; simp
      · rw [if_neg e, if_neg (fun h => e (by injection h with h; exact h.symm))]
  refine ⟨⟨by simp [h.loc.len], fun t av hg => ?_⟩, fun t ht => ?_, fun t av hg => ?_, ?_⟩
  · rw [up]
    by_cases ht : o.dst = some t
    · rw [if_pos ht]
      rw [ht, show consD (some t) now D = (t, .inl now) :: D from rfl, resolveD_cons, if_pos rfl] at hg
      dsimp only at hg
      rw [show now + 1 - 1 - now = 0 by omega] at hg
      exact hg
    · rw [if_neg ht]
      have e : resolveD (consD o.dst now D) (now + 1) t = resolveD D (now + 1) t := by
        unfold consD
        cases hd : o.dst with
        | none => rfl
        | some d =>
          dsimp only
          rw [resolveD_cons, if_neg]
          intro e; exact ht (by rw [hd, show d = t from e])
      rw [e, resolve_push ht h.ok] at hg
      exact h.loc.res t av hg
  · rw [dstP_get, if_neg (fun e => by rw [e.2] at ht; cases ht)]
    exact h.envK t ht
  · rw [dstP_get] at hg
    rw [up]
    by_cases ht : o.dst = some t
    · rw [if_pos ht]
      by_cases hm : inMask keep t = true
      · rwa [if_pos ⟨ht, hm⟩] at hg
      · rw [if_neg (fun h => hm h.2), h.envK t (by simpa using hm)] at hg; cases hg
    · rw [if_neg (fun h => ht h.1)] at hg
      rw [if_neg ht]
      exact h.envC t av hg
  · intro e he
    unfold consD at he
    cases hd : o.dst with
    | none => rw [hd] at he; exact (h.ok e he).later (Nat.le_succ _)
    | some d =>
      rw [hd] at he
      rcases List.mem_cons.1 he with rfl | he
      · exact Nat.lt_succ_self now
      · exact (h.ok e he).later (Nat.le_succ _)
theorem aliasOf_some {keep : Nat} {rest : List Oper} {D : Dl} {o : Oper} {e : Nat × (Nat ⊕ Rf)} (h : aliasOf keep rest D o = some e) :
    ∃ d t, o.dst = some d ∧ o.guard = none ∧ o.op = .move (.tmp t) ∧ inMask keep d = false ∧ e.1 = d ∧ ((∃ e', D.find? (fun e => Nat.beq e.1 t) = some e' ∧ e.2 = e'.2) ∨ (D.find? (fun e => Nat.beq e.1 t) = none ∧ assigned rest t = false ∧ e.2 = .inr (.var (path t)))) := by
  unfold aliasOf at h
  split at h
  · rename_i d t hd hg ho
    split at h
    · rename_i e' h1 h2
      injection h with h; subst h
      exact ⟨d, t, hd, hg, ho, h1, rfl, .inl ⟨e', h2, rfl⟩⟩
    · rename_i h1 h2 h3
      injection h with h; subst h
      exact ⟨d, t, hd, hg, ho, h1, rfl, .inr ⟨h2, h3, rfl⟩⟩
    · cases h
  · cases h
theorem resolveD_find {now t : Nat} : ∀ {D : Dl}, resolveD D now t = match D.find? (fun e => Nat.beq e.1 t) with
    | some e => (match e.2 with | .inl i => .loc (now - 1 - i) | .inr r => r)
    | none => .var (path t)
  | [] => rfl
  | e :: D => by
    rw [resolveD_cons, List.find?_cons]
    by_cases h : e.1 = t
    · rw [if_pos h, show Nat.beq e.1 t = true from by rw [h]; exact Nat.beq_refl t]
    · rw [if_neg h, show Nat.beq e.1 t = false from by rw [Bool.eq_false_iff]; exact fun hb => h (Nat.eq_of_beq_eq_true hb)]
      exact resolveD_find
theorem Pl.alias {keep : Nat} {o : Oper} {rest : List Oper} {D : Dl} {now : Nat} {L : List AV} {env : Tr AV} {cv : Cv} (h : Pl P keep (o :: rest) D now L env cv) {e : Nat × (Nat ⊕ Rf)} (ha : aliasOf keep rest D o = some e) :
    ∃ d t, o.dst = some d ∧ o.guard = none ∧ o.op = .move (.tmp t) ∧ Pl P keep rest (e :: D) now L env (updO cv o.dst (cv t)) := by
  obtain ⟨d, t, hd, hg, ho, hk, he1, he2⟩ := aliasOf_some ha
  refine ⟨d, t, hd, hg, ho, ⟨h.loc.len, fun s av hs => ?_⟩, h.envK, fun s av hs => ?_, fun e' he' => ?_⟩
  · rw [hd]
    show (if s = d then cv t else cv s) = some av
    rw [resolveD_cons, he1] at hs
    by_cases hsd : d = s
    · rw [if_pos hsd] at hs
      rw [if_pos hsd.symm]
      refine h.loc.res t av ?_
      rw [resolveD_find]
      rcases he2 with ⟨e', h1, h2⟩ | ⟨h1, h2, h3⟩
      · rw [h1]; rw [h2] at hs; exact hs
      · rw [h1]; rw [h3] at hs; exact hs
    · rw [if_neg hsd] at hs
      rw [if_neg (fun x => hsd x.symm)]
      exact h.loc.res s av hs
  · rw [hd]
    show (if s = d then cv t else cv s) = some av
    by_cases hsd : s = d
    · subst hsd; rw [h.envK s hk] at hs; cases hs
    · rw [if_neg hsd]; exact h.envC s av hs
  · rcases List.mem_cons.1 he' with rfl | he'
    · rcases he2 with ⟨e', h1, h2⟩ | ⟨h1, h2, h3⟩
      · rw [h2]
        exact (h.ok e' (List.mem_of_find?_eq_some h1)).later (Nat.le_refl _)
      · rw [h3]; exact ⟨t, rfl, h2⟩
    · exact (h.ok e' he').later (Nat.le_refl _)
/-- What one operation in line comes to. -/
def Does (P : Program) (ops : List Oper) (o : Oper) (cv : Cv) (h : Hp) (v : AV) (h1 : Hp) : Prop :=
  (wantedA ops cv o = some true ∧ Acts P o cv h v h1) ∨ (wantedA ops cv o = some false ∧ v = .tup [] ∧ h1 = h)
def wantV (want : Bool) : AV → Option Bool
  | .bool b => some (b == want)
  | .tup _ => some false
  | _ => none
theorem grown_yes {h h' : Hp} {x : Ans} (H : doCO.grown h h' x = .yes) : h.nx ≤ h'.nx ∧ x = .yes := by
  obtain ⟨t, n, l⟩ := h
  obtain ⟨t', n', l'⟩ := h'
  replace H : cnd (Nat.ble n n') x (.no 157) = .yes := H
  obtain ⟨h1, h2⟩ := cnd_yes H
  exact ⟨Nat.le_of_ble_eq_true h1, h2⟩
theorem mkCO_line {callf : CallF} (hcall : CallSound P callf) {keep : Nat} {ops : List Oper} {o : Oper} {cls : Cls} {i : Nat} (hcl : cls = .quiet ∨ ∃ m, cls = .bar m) {D : Dl} {now : Nat} {L : List AV} {env : Tr AV} {cv : Cv} (hl : Loc P D now L env cv) {h : Hp} {fs : Frees} {k : Option Pa → AV → Hp → Frees → Ans}
    (H : doCO callf (mkCO P ops keep o D now cls i) L env h fs k = .yes) : ∃ v h1, k (dstP keep o) v h1 fs = .yes ∧ Does P ops o cv h v h1 ∧ (cls ≠ .quiet → h.nx ≤ h1.nx) := by
  have hb : doCO callf (clCO cls i (bareCO P keep o D now)) L env h fs k = .yes → ∃ v h1, k (dstP keep o) v h1 fs = .yes ∧ Acts P o cv h v h1 ∧ (cls ≠ .quiet → h.nx ≤ h1.nx) := by
    rcases hcl with rfl | ⟨m, rfl⟩
    · intro H
      obtain ⟨v, h1, H1, ha⟩ := bare_yes hcall hl H
      exact ⟨v, h1, H1, ha, fun h => absurd rfl h⟩
    · intro H
      replace H : doCO callf (bareCO P keep o D now) L env h fs (fun d v h' fs => doCO.grown h h' (k d v h' fs)) = .yes := H
      obtain ⟨v, h1, H1, ha⟩ := bare_yes hcall hl H
      obtain ⟨h2, H2⟩ := grown_yes H1
      exact ⟨v, h1, H2, ha, fun _ => h2⟩
  unfold mkCO at H
  split at H
  · rename_i hg
    obtain ⟨v, h1, H1, ha, hn⟩ := hb H
    exact ⟨v, h1, H1, .inl ⟨by unfold wantedA; rw [hg], ha⟩, hn⟩
  · rename_i g want hg
    split at H
    · rename_i d hd
      replace H : rfK (resolveD D now d) L env (fun v => doCO.onGuard v want (doCO callf (clCO cls i (bareCO P keep o D now)) L env h fs k) (k (dstP keep o) (.tup []) h fs)) = .yes := H
      obtain ⟨x, H1, hx⟩ := rfK_yes H
      have hcx := hl.res d x hx
      have hw : wantedA ops cv o = wantV want x := by
        unfold wantedA
        rw [hg]
        dsimp only
        rw [hd]
        dsimp only
        rw [hcx]
        cases x <;> rfl
      unfold doCO.onGuard at H1
      split at H1
      · rename_i b
        rw [cnd_eq] at H1
        split at H1
        · rename_i hbw
          obtain ⟨v, h1, H2, ha, hn⟩ := hb H1
          exact ⟨v, h1, H2, .inl ⟨by rw [hw]; show some (b == want) = _; rw [hbw], ha⟩, hn⟩
        · rename_i hbw
          exact ⟨_, _, H1, .inr ⟨by rw [hw]; show some (b == want) = _; rw [Bool.eq_false_iff.2 hbw], rfl, rfl⟩, fun _ => Nat.le_refl _⟩
      · exact ⟨_, _, H1, .inr ⟨by rw [hw]; rfl, rfl, rfl⟩, fun _ => Nat.le_refl _⟩
      · cases H1
    · cases H
theorem CvR.put {β β' : Bt} {cv : Cv} {a : Act} (h : CvR β cv a.tmps) (hl : Le β β') {d : Option Tmp} {v : Option AV} {u : Value} (hd : ∀ t, d = some t → t < a.tmps.size) (hv : ∀ av, v = some av → con β' av = some u) : CvR β' (updO cv d v) (a.put d u).tmps := by
  cases d with
  | none => exact fun t av ht => con_mono hl (h t av ht)
  | some d =>
    intro t av ht
    show con β' av = some ((a.tmps.setIfInBounds d u).getD t undef)
    replace ht : (if t = d then v else cv t) = some av := ht
    have hlt := hd d rfl
    by_cases e : t = d
    · subst e
      rw [if_pos rfl] at ht
      rw [hv av ht]
      simp [Array.getD, hlt]
    · rw [if_neg e] at ht
      rw [con_mono hl (h t av ht)]
      congr 1
      simp only [Array.getD_eq_getD_getElem?, Array.getElem?_setIfInBounds]
      rw [if_neg (fun x => e x.symm)]
theorem put_size (a : Act) (d : Option Tmp) (u : Value) : (a.put d u).tmps.size = a.tmps.size := by cases d <;> simp [Act.put]
theorem put_defers (a : Act) (d : Option Tmp) (u : Value) : (a.put d u).defers = a.defers := by cases d <;> rfl
theorem exec_move {o : Oper} {t : Nat} (ho : o.op = .move (.tmp t)) (a : Act) (w : World) : (execOp a.eval o).run P w = .ok (.value (a.tmps.getD t undef)) w := by
  unfold execOp; rw [ho]; rfl
theorem runSeq_cons (callf : CallF) (o : CO) (os : List CO) (L : List AV) (env : Tr AV) (h : Hp) (k : Tr AV → Hp → Ans) : runSeq callf (o :: os) L env h k = doCO callf o L env h [] fun d v h _ => runSeq callf os (v :: L) (putE d v env) h k := by
  show (doCO callf o L env h [] fun d v h _ => putEnv d v env fun env => runSeq callf os (v :: L) env h k) = _
  simp only [putEnv_eq]
/-- Operations in line do what is said. -/
theorem seq_sound {callf : CallF} (hcall : CallSound P callf) {N keep : Nat} {ops : Array Oper} {bf : List Nat} : ∀ (rest : List Oper) (bs : List Nat) (D : Dl) (now i : Nat) (L : List AV) (env : Tr AV) (cv : Cv) (h : Hp) (k : Tr AV → Hp → Ans),
    bs.length = rest.length → (∀ o ∈ rest, ∀ d, o.dst = some d → d < N) → Pl P keep rest D now L env cv →
    runSeq callf (mkCOs.go P ops.toList keep false bf rest bs D now i) L env h k = .yes →
    ∃ env' h', k env' h' = .yes ∧ EnvK keep env' ∧ ∀ ds β a w, HR β h w → CvR β cv a.tmps → N ≤ a.tmps.size → a.defers = ds → GlobK P β → ∀ Q : Exit → Act → World → Prop, (∀ a' w', Post N ds β h w env' h' a' w' → Q .normal a' w') → wpList P ops Q rest a w
  | [], _, D, now, i, L, env, cv, h, k, hl, hd, pl, H => by
    replace H : k env h = .yes := by cases ‹List Nat› <;> exact H
    exact ⟨env, h, H, pl.envK, fun ds β a w hr hc hN hds hg Q hQ => hQ a w ⟨β, .refl hr, hr, fun t av e => hc t av (pl.envC t av e), hN, hds⟩⟩
  | o :: rest, [], D, now, i, L, env, cv, h, k, hl, hd, pl, H => by simp at hl
  | o :: rest, b :: bs, D, now, i, L, env, cv, h, k, hl, hd, pl, H => by
    have hl' : bs.length = rest.length := by simpa using hl
    have hd' : ∀ o ∈ rest, ∀ d, o.dst = some d → d < N := fun o' ho => hd o' (List.mem_cons_of_mem _ ho)
    rw [mkCOs.go] at H
    cases hal : aliasOf keep rest D o with
    | some e =>
      rw [hal] at H
      dsimp only at H
      obtain ⟨d, t, hdst, hg0, ho, pl'⟩ := pl.alias hal
      obtain ⟨env', h', H', hK', hw'⟩ := seq_sound hcall rest bs _ _ _ _ _ _ _ _ hl' hd' pl' H
      refine ⟨env', h', H', hK', fun ds β a w hr hc hN hds hg Q hQ => ?_⟩
      show if _ then _ else _
      rw [if_pos (by unfold Region.wanted; rw [hg0])]
      left
      unfold Oper.wp
      rw [exec_move ho]
      show wpList P ops Q rest (a.put o.dst _) w
      have hlt : ∀ t, o.dst = some t → t < a.tmps.size := fun t e => Nat.lt_of_lt_of_le (hd o (List.mem_cons_self ..) t e) hN
      refine hw' ds β _ w hr ?_ (by rw [put_size]; exact hN) (by rw [put_defers]; exact hds) hg Q hQ
      exact hc.put (.refl β) hlt (fun av e => hc t av e)
    | none =>
      rw [hal] at H
      dsimp only at H
      rw [runSeq_cons] at H
      obtain ⟨v, h1, H1, hdoes, -⟩ := mkCO_line hcall (.inl rfl) pl.loc H
      obtain ⟨env', h', H', hK', hw'⟩ := seq_sound hcall rest bs _ _ _ _ _ _ _ _ hl' hd' (pl.push v) (by exact H1)
      refine ⟨env', h', H', hK', fun ds β a w hr hc hN hds hg Q hQ => ?_⟩
      have hlt : ∀ t, o.dst = some t → t < a.tmps.size := fun t e => Nat.lt_of_lt_of_le (hd o (List.mem_cons_self ..) t e) hN
      show if _ then _ else _
      rcases hdoes with ⟨hw, xs, hx, ho, -⟩ | ⟨hw, rfl, rfl⟩
      · rw [if_pos (wantedA_con hc hw)]
        left
        refine ho β w a hr hg (opnds_con hc hg hx) _ _ fun β' w' u s hu => ?_
        have hle := s.le hr
        refine hw' ds β' _ w' s.hr (hc.put hle hlt fun av e => by injection e with e; subst e; exact hu) (by rw [put_size]; exact hN) (by rw [put_defers]; exact hds) (hg.le hle) Q fun a' w2 hp => hQ a' w2 (hp.trans hr s)
      · rw [if_neg (by rw [wantedA_con hc hw]; simp)]
        exact hw' ds β _ w hr (hc.put (.refl β) hlt fun av e => by injection e with e; subst e; rfl) (by rw [put_size]; exact hN) (by rw [put_defers]; exact hds) hg Q hQ
end Go.Ev
