/- What the proof needs, part 4. -/
import Derived.Orders
import Derived.Lib.Bytealg
import Derived.Below
import Derived.Test.YtklgahppjdgkmaaDoorR3
/- The evaluator's regions: operations by their operands. -/
section
set_option linter.unusedVariables false
set_option linter.unusedSectionVars false
set_option linter.unusedSimpArgs false
namespace Go.Ev
variable [Sg] [Sl]
open Go.RowKit
variable {P : Program}

theorem inMask_eq (a t : Nat) : inMask a t = a.testBit t := by
  unfold inMask
  show Nat.beq ((a >>> t) &&& 1) 1 = _
  rw [Nat.testBit, Nat.and_comm]
  have : (1 &&& (a >>> t)) = (a >>> t) % 2 := by rw [Nat.and_comm]; exact Nat.and_one_is_mod _
  rw [this]
  rcases Nat.mod_two_eq_zero_or_one (a >>> t) with h | h <;> rw [h] <;> rfl
theorem inMask_or (a t s : Nat) : inMask (orMask a t) s = (inMask a s || decide (t = s)) := by
  rw [inMask_eq, inMask_eq]
  show (a ||| 2 ^ t).testBit s = _
  rw [Nat.testBit_or, Nat.testBit_two_pow]
theorem inMask_lor (a b s : Nat) : inMask (Nat.lor a b) s = (inMask a s || inMask b s) := by
  rw [inMask_eq, inMask_eq, inMask_eq]
  exact Nat.testBit_or a b s
theorem inMask_zero (s : Nat) : inMask 0 s = false := by rw [inMask_eq]; exact Nat.zero_testBit s

abbrev Cv := Nat → Option AV
def updO (cv : Cv) (d : Option Tmp) (v : Option AV) : Cv := match d with
  | some d => fun t => if t = d then v else cv t
  | none => cv
noncomputable def opnd (P : Program) (cv : Cv) (x : Operand) : Option AV := match x with
  | .tmp t => cv t
  | .const v => if okConst v = true then some (toAV v) else none
  | .global g => if g < P.globals.size then some (.ptr g 0) else none
  | .func f => some (.fn (.func f) [] [])
noncomputable def opnds (P : Program) (cv : Cv) : List Operand → Option (List AV)
  | [] => some []
  | x :: xs => (opnd P cv x).bind fun v => (opnds P cv xs).map (v :: ·)
def CvR (β : Bt) (cv : Cv) (tmps : Array Value) : Prop := ∀ t av, cv t = some av → con β av = some (tmps.getD t undef)
theorem opnd_con {β : Bt} {cv : Cv} {a : Act} (hc : CvR β cv a.tmps) (hg : GlobK P β) {x : Operand} {av : AV} (h : opnd P cv x = some av) : con β av = some (a.eval x) := by
  cases x with
  | tmp t => exact hc t av h
  | const v =>
    replace h : (if okConst v = true then some (toAV v) else none) = some av := h
    split at h
    · rename_i ho; injection h with h; subst h; exact toAV_con β ho
    · cases h
  | global g =>
    replace h : (if g < P.globals.size then some (AV.ptr g 0) else none) = some av := h
    split at h
    · rename_i hlt; injection h with h; subst h
      obtain ⟨κ, e⟩ := hg g hlt
      simp only [con, e]; rfl
    · cases h
  | func f => replace h : some (AV.fn (.func f) [] []) = some av := h; injection h with h; subst h; rfl
theorem opnds_con {β : Bt} {cv : Cv} {a : Act} (hc : CvR β cv a.tmps) (hg : GlobK P β) : ∀ {xs : List Operand} {l : List AV}, opnds P cv xs = some l → conL β l = some (xs.map a.eval)
  | [], l, h => by injection h with h; subst h; rfl
  | x :: xs, l, h => by
    simp only [opnds, Option.bind_eq_some_iff, Option.map_eq_some_iff] at h
    obtain ⟨v, h1, vs, h2, rfl⟩ := h
    exact conL_mk (opnd_con hc hg h1) (opnds_con hc hg h2)
def wantedA (ops : List Oper) (cv : Cv) (o : Oper) : Option Bool := match o.guard with
  | none => some true
  | some (g, want) => match (ops[g]?).bind (·.dst) with
    | some d => match cv d with
      | some (.bool b) => some (b == want)
      | some (.tup _) => some false
      | _ => none
    | none => none
theorem wantedA_con {β : Bt} {cv : Cv} {tmps : Array Value} (hc : CvR β cv tmps) {ops : Array Oper} {o : Oper} {b : Bool} (h : wantedA ops.toList cv o = some b) : Region.wanted o (yielded ops tmps) = b := by
  unfold wantedA at h
  unfold Region.wanted
  cases hg : o.guard with
  | none => rw [hg] at h; injection h
  | some p =>
    obtain ⟨g, want⟩ := p
    rw [hg] at h
    dsimp only at h ⊢
    have e1 : ops.toList[g]? = ops[g]? := by simp
    rw [e1] at h
    cases hd : (ops[g]?).bind (·.dst) with
    | none => rw [hd] at h; cases h
    | some d =>
      rw [hd] at h
      dsimp only at h
      unfold yielded
      rw [hd, Option.bind_some]
      cases hv : cv d with
      | none => rw [hv] at h; cases h
      | some av =>
        have hcon := hc d av hv
        rw [hv] at h
        have hget : ∀ x, tmps.getD d undef = x → x ≠ undef → tmps[d]? = some x := by
          intro x hx hne
          by_cases hlt : d < tmps.size
          · rw [Array.getElem?_eq_getElem hlt]
            simp [Array.getD, hlt] at hx
            rw [hx]
          · simp [Array.getD, hlt] at hx
            exact absurd hx.symm hne
        cases av
        case bool x =>
          dsimp only at h
          injection h with h
          have := con_bool hcon
          rw [hget _ this (by intro e; cases e)]
          dsimp only
          rw [← h]
          cases x <;> cases want <;> rfl
        case tup l =>
          dsimp only at h
          injection h with h
          obtain ⟨vs, _, e⟩ := con_tup hcon
          rw [← h]
          cases ht : tmps[d]? with
          | none => rfl
          | some z =>
            have hlt := (Array.getElem?_eq_some_iff.1 ht).1
            have : z = .tuple vs.toArray := by
              rw [Array.getElem?_eq_getElem hlt] at ht
              injection ht with ht
              rw [← e, ← ht]
              simp [Array.getD, hlt]
            subst this
            cases want <;> rfl
        all_goals (dsimp only at h; cases h)
structure Loc (P : Program) (D : Dl) (now : Nat) (L : List AV) (env : Tr AV) (cv : Cv) : Prop where
  len : L.length = now
  res : ∀ t av, rfGet (resolveD D now t) L env = some av → cv t = some av
theorem Loc.opnd {D : Dl} {now : Nat} {L : List AV} {env : Tr AV} {cv : Cv} (h : Loc P D now L env cv) {x : Operand} {av : AV} (hx : rfGet (rfOp P D now x) L env = some av) : opnd P cv x = some av := by
  cases x with
  | tmp t => exact h.res t av hx
  | const v =>
    rw [rfOp_const] at hx
    show (if okConst v = true then some (toAV v) else none) = some av
    split at hx
    · rename_i ho; rw [if_pos ho]; exact hx
    · cases hx
  | global g =>
    replace hx : rfGet (match Nat.blt g P.globals.size with | true => Rf.cst (.ptr g 0) | false => Rf.bad) L env = some av := hx
    show (if g < P.globals.size then some (AV.ptr g 0) else none) = some av
    split at hx
    · rename_i hb
      rw [if_pos (by simpa using hb)]; exact hx
    · cases hx
  | func f => exact hx
theorem rfsK_yes {rs : List Rf} {L : List AV} {env : Tr AV} {k : List AV → Ans} (H : rfsK rs L env k = .yes) : ∃ vs, k vs = .yes ∧ vs.length = rs.length ∧ ∀ (i : Nat) r v, rs[i]? = some r → vs[i]? = some v → rfGet r L env = some v := by
  induction rs generalizing k with
  | nil => exact ⟨[], H, rfl, fun i r v h => by simp at h⟩
  | cons r rs ih =>
    obtain ⟨v, H1, hv⟩ := rfK_yes (k := fun v => rfsK rs L env fun vs => k (v :: vs)) H
    obtain ⟨vs, H2, h1, h2⟩ := ih H1
    refine ⟨v :: vs, H2, by simp [h1], fun i r' v' hr hv' => ?_⟩
    cases i with
    | zero => simp at hr hv'; subst hr; subst hv'; exact hv
    | succ i => exact h2 i r' v' (by simpa using hr) (by simpa using hv')
theorem Loc.opnds {D : Dl} {now : Nat} {L : List AV} {env : Tr AV} {cv : Cv} (h : Loc P D now L env cv) : ∀ {xs : List Operand} {vs : List AV}, vs.length = (xs.map (rfOp P D now)).length → (∀ (i : Nat) r v, (xs.map (rfOp P D now))[i]? = some r → vs[i]? = some v → rfGet r L env = some v) → opnds P cv xs = some vs
  | [], [], _, _ => rfl
  | [], _ :: _, hl, _ => by simp at hl
  | _ :: _, [], hl, _ => by simp at hl
  | x :: xs, v :: vs, hl, hx => by
    have h1 := h.opnd (x := x) (hx 0 _ v (by simp) (by simp))
    have h2 := Loc.opnds h (xs := xs) (vs := vs) (by simpa using hl) (fun i r u hr hu => hx (i + 1) r u (by simpa using hr) (by simpa using hu))
    simp only [Ev.opnds, h1, h2]; rfl
def Acts (P : Program) (o : Oper) (cv : Cv) (h : Hp) (v : AV) (h1 : Hp) : Prop :=
  ∃ xs, opnds P cv o.op.operands.toList = some xs ∧ OpHoldsG P o xs h v h1 ∧ (quietOp P o.op = true → h1 = h ∧ ∀ h2, OpHoldsG P o xs h2 v h2)
theorem bare_yes {callf : CallF} (hcall : CallSound P callf) {keep : Nat} {o : Oper} {D : Dl} {now : Nat} {L : List AV} {env : Tr AV} {cv : Cv} (hl : Loc P D now L env cv) {h : Hp} {fs : Frees} {k : Option Pa → AV → Hp → Frees → Ans}
    (H : doCO callf (bareCO P keep o D now) L env h fs k = .yes) : ∃ v h1, k (dstP keep o) v h1 fs = .yes ∧ Acts P o cv h v h1 := by
  have gen : ∀ (c : OpC), OpCOk P o c → doCO callf (bareOf c (o.op.operands.toList.map (rfOp P D now)) (dstP keep o)) L env h fs k = .yes → ∃ v h1, k (dstP keep o) v h1 fs = .yes ∧ Acts P o cv h v h1 := by
    intro c hc H
    unfold bareOf at H
    split at H
    · rename_i f r hargs
      obtain ⟨x, H1, hx⟩ := rfK_yes (k := fun x => f x h fun v h => k (dstP keep o) v h fs) H
      obtain ⟨v, h1, H2, h3, h4⟩ := hc x h _ H1
      refine ⟨v, h1, H2, [x], hl.opnds (by rw [hargs]; rfl) (fun i r' v' hr hv' => ?_), h3.g, fun hq => ⟨(h4 hq).1, fun h2 => ((h4 hq).2 h2).g⟩⟩
      rw [hargs] at hr
      cases i with
      | zero => simp at hr hv'; subst hr; subst hv'; exact hx
      | succ i => simp at hr
    · rename_i f r s hargs
      obtain ⟨x, H1, hx⟩ := rfK_yes (k := fun x => rfK s L env fun y => f x y h fun v h => k (dstP keep o) v h fs) H
      obtain ⟨y, H2, hy⟩ := rfK_yes (k := fun y => f x y h fun v h => k (dstP keep o) v h fs) H1
      obtain ⟨v, h1, H3, h3, h4⟩ := hc x y h _ H2
      refine ⟨v, h1, H3, [x, y], hl.opnds (by rw [hargs]; rfl) (fun i r' v' hr hv' => ?_), h3.g, fun hq => ⟨(h4 hq).1, fun h2 => ((h4 hq).2 h2).g⟩⟩
      rw [hargs] at hr
      match i with
      | 0 => simp at hr hv'; subst hr; subst hv'; exact hx
      | 1 => simp at hr hv'; subst hr; subst hv'; exact hy
      | i + 2 => simp at hr
    · rename_i f
      obtain ⟨xs, H1, hx1, hx2⟩ := rfsK_yes (k := fun xs => f xs h fun v h => k (dstP keep o) v h fs) H
      obtain ⟨v, h1, H2, h3, h4⟩ := hc xs h _ H1
      exact ⟨v, h1, H2, xs, hl.opnds hx1 hx2, h3.g, fun hq => ⟨(h4 hq).1, fun h2 => ((h4 hq).2 h2).g⟩⟩
    · cases H
    · cases H
  unfold bareCO at H
  split at H
  · rename_i x hop
    obtain ⟨v, H1, hx⟩ := rfK_yes (k := fun v => k (dstP keep o) v h fs) H
    have hh : ∀ h2, OpHoldsG P o [v] h2 v h2 := fun h2 => (OpHolds.pure fun β w a hx2 => by
      rw [hop] at hx2
      exact ⟨a.eval x, by simp [execOp, hop], conL1 hx2⟩).g
    refine ⟨v, h, H1, [v], ?_, hh h, fun _ => ⟨rfl, hh⟩⟩
    rw [hop]
    show opnds P cv [x] = some [v]
    simp only [opnds, hl.opnd hx]; rfl
  · rename_i x hop
    obtain ⟨v, H1, hx⟩ := rfK_yes (k := fun v => k (dstP keep o) v h fs) H
    have hh : ∀ h2, OpHoldsG P o [v] h2 v h2 := fun h2 => (OpHolds.pure fun β w a hx2 => by
      rw [hop] at hx2
      exact ⟨a.eval x, by simp [execOp, hop], conL1 hx2⟩).g
    refine ⟨v, h, H1, [v], ?_, hh h, fun _ => ⟨rfl, hh⟩⟩
    rw [hop]
    show opnds P cv [x] = some [v]
    simp only [opnds, hl.opnd hx]; rfl
  · rename_i F args ats hop
    replace H : rfsK ((F :: args.toList).map (rfOp P D now)) L env (fun xs => applyK callf xs h fun v h => k (dstP keep o) v h fs) = .yes := H
    obtain ⟨xs, H1, hx1, hx2⟩ := rfsK_yes H
    obtain ⟨v, h1, H2, h3⟩ := applyK_sound hcall hop H1
    refine ⟨v, h1, H2, xs, ?_, h3, fun hq => by rw [hop] at hq; cases hq⟩
    rw [hop]
    have e : (Op.call ⟨.value F, args, ats⟩).operands.toList = F :: args.toList := by simp [Op.operands, Call.operands]
    rw [e]
    exact hl.opnds hx1 hx2
  · exact gen _ (opC_sound o) H
end Go.Ev
namespace Go.Ev
variable [Sg] [Sl]
open Go.RowKit
variable {P : Program}

theorem resolveD_nil (now t : Nat) : resolveD [] now t = .var (path t) := rfl
theorem resolveD_cons (e : Nat × (Nat ⊕ Rf)) (D : Dl) (now t : Nat) : resolveD (e :: D) now t = if e.1 = t then (match e.2 with | .inl i => .loc (now - 1 - i) | .inr r => r) else resolveD D now t := by
  show (Bool.rec (motive := fun _ => Rf) (resolveD D now t) (Sum.rec (motive := fun _ => Rf) (fun i => .loc (Nat.sub (Nat.sub now 1) i)) (fun r => r) e.2) (Nat.beq e.1 t)) = _
  by_cases h : e.1 = t
  · rw [if_pos h, show Nat.beq e.1 t = true from by rw [h]; exact Nat.beq_refl t]
    cases e.2 <;> rfl
  · rw [if_neg h, show Nat.beq e.1 t = false from by rw [Bool.eq_false_iff]; exact fun hb => h (Nat.eq_of_beq_eq_true hb)]
def putE (d : Option Pa) (v : AV) (env : Tr AV) : Tr AV := match d with
  | some p => env.set p (some v)
  | none => env
theorem putEnv_eq (d : Option Pa) (v : AV) (env : Tr AV) (k : Tr AV → Ans) : putEnv d v env k = k (putE d v env) := by
  cases d with
  | none => rfl
  | some p => exact setP_eq p (some v) env k
theorem dstP_get (keep : Nat) (o : Oper) (v : AV) (env : Tr AV) (t : Nat) : (putE (dstP keep o) v env).get (path t) = if o.dst = some t ∧ inMask keep t = true then some v else env.get (path t) := by
  unfold dstP
  cases hd : o.dst with
  | none => simp [putE]
  | some d =>
    dsimp only
    cases hm : inMask keep d with
    | false =>
      rw [if_neg]
      · rfl
      · rintro ⟨e, h⟩; injection e with e; subst e; rw [hm] at h; cases h
    | true =>
      show (env.set (path d) (some v)).get (path t) = _
      rw [get_set]
      by_cases e : t = d
      · subst e; rw [if_pos rfl, if_pos ⟨rfl, hm⟩]
      · rw [if_neg (path_ne e), if_neg]
        rintro ⟨h, _⟩; injection h with h; exact e h.symm
def Fast (rest : List Oper) (now : Nat) (x : Nat ⊕ Rf) : Prop := match x with
  | .inl i => i < now
  | .inr r => ∃ t, r = .var (path t) ∧ assigned rest t = false
structure Pl (P : Program) (keep : Nat) (rest : List Oper) (D : Dl) (now : Nat) (L : List AV) (env : Tr AV) (cv : Cv) : Prop where
  loc : Loc P D now L env cv
  envK : EnvK keep env
  envC : ∀ t av, env.get (path t) = some av → cv t = some av
  ok : ∀ e ∈ D, Fast rest now e.2
theorem assigned_cons {o : Oper} {rest : List Oper} {t : Nat} (h : assigned (o :: rest) t = false) : o.dst ≠ some t ∧ assigned rest t = false := by
  unfold assigned at h ⊢
  rw [List.any_cons, Bool.or_eq_false_iff] at h
  refine ⟨fun e => ?_, h.2⟩
  have := h.1
  rw [e] at this
  dsimp only at this
  rw [Nat.beq_refl] at this
  cases this
theorem Fast.later {o : Oper} {rest : List Oper} {now now' : Nat} (hn : now ≤ now') {x : Nat ⊕ Rf} (h : Fast (o :: rest) now x) : Fast rest now' x := by
  cases x with
  | inl i => exact Nat.lt_of_lt_of_le h hn
  | inr r => obtain ⟨t, e, h⟩ := h; exact ⟨t, e, (assigned_cons h).2⟩
theorem resolve_push {o : Oper} {rest : List Oper} {keep now : Nat} {v : AV} {L : List AV} {env : Tr AV} {t : Nat} (ht : o.dst ≠ some t) : ∀ {D : Dl}, (∀ e ∈ D, Fast (o :: rest) now e.2) →
    rfGet (resolveD D (now + 1) t) (v :: L) (putE (dstP keep o) v env) = rfGet (resolveD D now t) L env
  | [], _ => by
    show (putE (dstP keep o) v env).get (path t) = env.get (path t)
    rw [dstP_get, if_neg (fun h => ht h.1)]
  | e :: D, hD => by
    rw [resolveD_cons, resolveD_cons]
    by_cases h : e.1 = t
    · rw [if_pos h, if_pos h]
      have hf := hD e (List.mem_cons_self ..)
      revert hf
      cases e.2 with
      | inl i =>
        intro hf
        have hf' : i < now := hf
        show (v :: L)[now + 1 - 1 - i]? = L[now - 1 - i]?
        rw [show now + 1 - 1 - i = (now - 1 - i) + 1 by omega]
        rfl
      | inr r =>
        rintro ⟨t', rfl, h2⟩
        show (putE (dstP keep o) v env).get (path t') = env.get (path t')
        rw [dstP_get, if_neg (fun h => (assigned_cons h2).1 h.1)]
    · rw [if_neg h, if_neg h]
      exact resolve_push ht (fun e' he => hD e' (List.mem_cons_of_mem _ he))
def consD (d : Option Tmp) (now : Nat) (D : Dl) : Dl := match d with
  | some d => (d, .inl now) :: D
  | none => D
theorem Pl.push {keep : Nat} {o : Oper} {rest : List Oper} {D : Dl} {now : Nat} {L : List AV} {env : Tr AV} {cv : Cv} (h : Pl P keep (o :: rest) D now L env cv) (v : AV) :
    Pl P keep rest (consD o.dst now D) (now + 1) (v :: L) (putE (dstP keep o) v env) (updO cv o.dst (some v)) := by
  have up : ∀ t, updO cv o.dst (some v) t = if o.dst = some t then some v else cv t := fun t => by
    unfold updO
    cases o.dst with
    | none => simp
    | some d =>
      dsimp only
      by_cases e : t = d
      · subst e; simp
      · rw [if_neg e, if_neg (fun h => e (by injection h with h; exact h.symm))]
  refine ⟨⟨by simp [h.loc.len], fun t av hg => ?_⟩, fun t ht => ?_, fun t av hg => ?_, ?_⟩
  · rw [up]
    by_cases ht : o.dst = some t
    · rw [if_pos ht]
      rw [ht, show consD (some t) now D = (t, .inl now) :: D from rfl, resolveD_cons, if_pos rfl] at hg
      dsimp only at hg
      rw [show now + 1 - 1 - now = 0 by omega] at hg
      exact hg
    · rw [if_neg ht]
      have e : resolveD (consD o.dst now D) (now + 1) t = resolveD D (now + 1) t := by
        unfold consD
        cases hd : o.dst with
        | none => rfl
        | some d =>
          dsimp only
          rw [resolveD_cons, if_neg]
          intro e; exact ht (by rw [hd, show d = t from e])
      rw [e, resolve_push ht h.ok] at hg
      exact h.loc.res t av hg
  · rw [dstP_get, if_neg (fun e => by rw [e.2] at ht; cases ht)]
    exact h.envK t ht
  · rw [dstP_get] at hg
    rw [up]
    by_cases ht : o.dst = some t
    · rw [if_pos ht]
      by_cases hm : inMask keep t = true
      · rwa [if_pos ⟨ht, hm⟩] at hg
      · rw [if_neg (fun h => hm h.2), h.envK t (by simpa using hm)] at hg; cases hg
    · rw [if_neg (fun h => ht h.1)] at hg
      rw [if_neg ht]
      exact h.envC t av hg
  · intro e he
    unfold consD at he
    cases hd : o.dst with
    | none => rw [hd] at he; exact (h.ok e he).later (Nat.le_succ _)
    | some d =>
      rw [hd] at he
      rcases List.mem_cons.1 he with rfl | he
      · exact Nat.lt_succ_self now
      · exact (h.ok e he).later (Nat.le_succ _)
theorem aliasOf_some {keep : Nat} {rest : List Oper} {D : Dl} {o : Oper} {e : Nat × (Nat ⊕ Rf)} (h : aliasOf keep rest D o = some e) :
    ∃ d t, o.dst = some d ∧ o.guard = none ∧ o.op = .move (.tmp t) ∧ inMask keep d = false ∧ e.1 = d ∧ ((∃ e', D.find? (fun e => Nat.beq e.1 t) = some e' ∧ e.2 = e'.2) ∨ (D.find? (fun e => Nat.beq e.1 t) = none ∧ assigned rest t = false ∧ e.2 = .inr (.var (path t)))) := by
  unfold aliasOf at h
  split at h
  · rename_i d t hd hg ho
    split at h
    · rename_i e' h1 h2
      injection h with h; subst h
      exact ⟨d, t, hd, hg, ho, h1, rfl, .inl ⟨e', h2, rfl⟩⟩
    · rename_i h1 h2 h3
      injection h with h; subst h
      exact ⟨d, t, hd, hg, ho, h1, rfl, .inr ⟨h2, h3, rfl⟩⟩
    · cases h
  · cases h
theorem resolveD_find {now t : Nat} : ∀ {D : Dl}, resolveD D now t = match D.find? (fun e => Nat.beq e.1 t) with
    | some e => (match e.2 with | .inl i => .loc (now - 1 - i) | .inr r => r)
    | none => .var (path t)
  | [] => rfl
  | e :: D => by
    rw [resolveD_cons, List.find?_cons]
    by_cases h : e.1 = t
    · rw [if_pos h, show Nat.beq e.1 t = true from by rw [h]; exact Nat.beq_refl t]
    · rw [if_neg h, show Nat.beq e.1 t = false from by rw [Bool.eq_false_iff]; exact fun hb => h (Nat.eq_of_beq_eq_true hb)]
      exact resolveD_find
theorem Pl.alias {keep : Nat} {o : Oper} {rest : List Oper} {D : Dl} {now : Nat} {L : List AV} {env : Tr AV} {cv : Cv} (h : Pl P keep (o :: rest) D now L env cv) {e : Nat × (Nat ⊕ Rf)} (ha : aliasOf keep rest D o = some e) :
    ∃ d t, o.dst = some d ∧ o.guard = none ∧ o.op = .move (.tmp t) ∧ Pl P keep rest (e :: D) now L env (updO cv o.dst (cv t)) := by
  obtain ⟨d, t, hd, hg, ho, hk, he1, he2⟩ := aliasOf_some ha
  refine ⟨d, t, hd, hg, ho, ⟨h.loc.len, fun s av hs => ?_⟩, h.envK, fun s av hs => ?_, fun e' he' => ?_⟩
  · rw [hd]
    show (if s = d then cv t else cv s) = some av
    rw [resolveD_cons, he1] at hs
    by_cases hsd : d = s
    · rw [if_pos hsd] at hs
      rw [if_pos hsd.symm]
      refine h.loc.res t av ?_
      rw [resolveD_find]
      rcases he2 with ⟨e', h1, h2⟩ | ⟨h1, h2, h3⟩
      · rw [h1]; rw [h2] at hs; exact hs
      · rw [h1]; rw [h3] at hs; exact hs
    · rw [if_neg hsd] at hs
      rw [if_neg (fun x => hsd x.symm)]
      exact h.loc.res s av hs
  · rw [hd]
    show (if s = d then cv t else cv s) = some av
    by_cases hsd : s = d
    · subst hsd; rw [h.envK s hk] at hs; cases hs
    · rw [if_neg hsd]; exact h.envC s av hs
  · rcases List.mem_cons.1 he' with rfl | he'
    · rcases he2 with ⟨e', h1, h2⟩ | ⟨h1, h2, h3⟩
      · rw [h2]
        exact (h.ok e' (List.mem_of_find?_eq_some h1)).later (Nat.le_refl _)
      · rw [h3]; exact ⟨t, rfl, h2⟩
    · exact (h.ok e' he').later (Nat.le_refl _)
def Does (P : Program) (ops : List Oper) (o : Oper) (cv : Cv) (h : Hp) (v : AV) (h1 : Hp) : Prop :=
  (wantedA ops cv o = some true ∧ Acts P o cv h v h1) ∨ (wantedA ops cv o = some false ∧ v = .tup [] ∧ h1 = h)
def wantV (want : Bool) : AV → Option Bool
  | .bool b => some (b == want)
  | .tup _ => some false
  | _ => none
theorem grown_yes {h h' : Hp} {x : Ans} (H : doCO.grown h h' x = .yes) : h.nx ≤ h'.nx ∧ x = .yes := by
  obtain ⟨t, n, l⟩ := h
  obtain ⟨t', n', l'⟩ := h'
  replace H : cnd (Nat.ble n n') x (.no 157) = .yes := H
  obtain ⟨h1, h2⟩ := cnd_yes H
  exact ⟨Nat.le_of_ble_eq_true h1, h2⟩
theorem mkCO_line {callf : CallF} (hcall : CallSound P callf) {keep : Nat} {ops : List Oper} {o : Oper} {cls : Cls} {i : Nat} (hcl : cls = .quiet ∨ ∃ m, cls = .bar m) {D : Dl} {now : Nat} {L : List AV} {env : Tr AV} {cv : Cv} (hl : Loc P D now L env cv) {h : Hp} {fs : Frees} {k : Option Pa → AV → Hp → Frees → Ans}
    (H : doCO callf (mkCO P ops keep o D now cls i) L env h fs k = .yes) : ∃ v h1, k (dstP keep o) v h1 fs = .yes ∧ Does P ops o cv h v h1 ∧ (cls ≠ .quiet → h.nx ≤ h1.nx) := by
  have hb : doCO callf (clCO cls i (bareCO P keep o D now)) L env h fs k = .yes → ∃ v h1, k (dstP keep o) v h1 fs = .yes ∧ Acts P o cv h v h1 ∧ (cls ≠ .quiet → h.nx ≤ h1.nx) := by
    rcases hcl with rfl | ⟨m, rfl⟩
    · intro H
      obtain ⟨v, h1, H1, ha⟩ := bare_yes hcall hl H
      exact ⟨v, h1, H1, ha, fun h => absurd rfl h⟩
    · intro H
      replace H : doCO callf (bareCO P keep o D now) L env h fs (fun d v h' fs => doCO.grown h h' (k d v h' fs)) = .yes := H
      obtain ⟨v, h1, H1, ha⟩ := bare_yes hcall hl H
      obtain ⟨h2, H2⟩ := grown_yes H1
      exact ⟨v, h1, H2, ha, fun _ => h2⟩
  unfold mkCO at H
  split at H
  · rename_i hg
    obtain ⟨v, h1, H1, ha, hn⟩ := hb H
    exact ⟨v, h1, H1, .inl ⟨by unfold wantedA; rw [hg], ha⟩, hn⟩
  · rename_i g want hg
    split at H
    · rename_i d hd
      replace H : rfK (resolveD D now d) L env (fun v => doCO.onGuard v want (doCO callf (clCO cls i (bareCO P keep o D now)) L env h fs k) (k (dstP keep o) (.tup []) h fs)) = .yes := H
      obtain ⟨x, H1, hx⟩ := rfK_yes H
      have hcx := hl.res d x hx
      have hw : wantedA ops cv o = wantV want x := by
        unfold wantedA
        rw [hg]
        dsimp only
        rw [hd]
        dsimp only
        rw [hcx]
        cases x <;> rfl
      unfold doCO.onGuard at H1
      split at H1
      · rename_i b
        rw [cnd_eq] at H1
        split at H1
        · rename_i hbw
          obtain ⟨v, h1, H2, ha, hn⟩ := hb H1
          exact ⟨v, h1, H2, .inl ⟨by rw [hw]; show some (b == want) = _; rw [hbw], ha⟩, hn⟩
        · rename_i hbw
          exact ⟨_, _, H1, .inr ⟨by rw [hw]; show some (b == want) = _; rw [Bool.eq_false_iff.2 hbw], rfl, rfl⟩, fun _ => Nat.le_refl _⟩
      · exact ⟨_, _, H1, .inr ⟨by rw [hw]; rfl, rfl, rfl⟩, fun _ => Nat.le_refl _⟩
      · cases H1
    · cases H
theorem CvR.put {β β' : Bt} {cv : Cv} {a : Act} (h : CvR β cv a.tmps) (hl : Le β β') {d : Option Tmp} {v : Option AV} {u : Value} (hd : ∀ t, d = some t → t < a.tmps.size) (hv : ∀ av, v = some av → con β' av = some u) : CvR β' (updO cv d v) (a.put d u).tmps := by
  cases d with
  | none => exact fun t av ht => con_mono hl (h t av ht)
  | some d =>
    intro t av ht
    show con β' av = some ((a.tmps.setIfInBounds d u).getD t undef)
    replace ht : (if t = d then v else cv t) = some av := ht
    have hlt := hd d rfl
    by_cases e : t = d
    · subst e
      rw [if_pos rfl] at ht
      rw [hv av ht]
      simp [Array.getD, hlt]
    · rw [if_neg e] at ht
      rw [con_mono hl (h t av ht)]
      congr 1
      simp only [Array.getD_eq_getD_getElem?, Array.getElem?_setIfInBounds]
      rw [if_neg (fun x => e x.symm)]
theorem put_size (a : Act) (d : Option Tmp) (u : Value) : (a.put d u).tmps.size = a.tmps.size := by cases d <;> simp [Act.put]
theorem put_defers (a : Act) (d : Option Tmp) (u : Value) : (a.put d u).defers = a.defers := by cases d <;> rfl
theorem exec_move {o : Oper} {t : Nat} (ho : o.op = .move (.tmp t)) (a : Act) (w : World) : (execOp a.eval o).run P w = .ok (.value (a.tmps.getD t undef)) w := by
  unfold execOp; rw [ho]; rfl
theorem runSeq_cons (callf : CallF) (o : CO) (os : List CO) (L : List AV) (env : Tr AV) (h : Hp) (k : Tr AV → Hp → Ans) : runSeq callf (o :: os) L env h k = doCO callf o L env h [] fun d v h _ => runSeq callf os (v :: L) (putE d v env) h k := by
  show (doCO callf o L env h [] fun d v h _ => putEnv d v env fun env => runSeq callf os (v :: L) env h k) = _
  simp only [putEnv_eq]
theorem seq_sound {callf : CallF} (hcall : CallSound P callf) {N keep : Nat} {ops : Array Oper} {bf : List Nat} : ∀ (rest : List Oper) (bs : List Nat) (D : Dl) (now i : Nat) (L : List AV) (env : Tr AV) (cv : Cv) (h : Hp) (k : Tr AV → Hp → Ans),
    bs.length = rest.length → (∀ o ∈ rest, ∀ d, o.dst = some d → d < N) → Pl P keep rest D now L env cv →
    runSeq callf (mkCOs.go P ops.toList keep false bf rest bs D now i) L env h k = .yes →
    ∃ env' h', k env' h' = .yes ∧ EnvK keep env' ∧ ∀ ds β a w, HR β h w → CvR β cv a.tmps → N ≤ a.tmps.size → a.defers = ds → GlobK P β → ∀ Q : Exit → Act → World → Prop, (∀ a' w', Post N ds β h w env' h' a' w' → Q .normal a' w') → wpList P ops Q rest a w
  | [], _, D, now, i, L, env, cv, h, k, hl, hd, pl, H => by
    replace H : k env h = .yes := by cases ‹List Nat› <;> exact H
    exact ⟨env, h, H, pl.envK, fun ds β a w hr hc hN hds hg Q hQ => hQ a w ⟨β, .refl hr, hr, fun t av e => hc t av (pl.envC t av e), hN, hds⟩⟩
  | o :: rest, [], D, now, i, L, env, cv, h, k, hl, hd, pl, H => by simp at hl
  | o :: rest, b :: bs, D, now, i, L, env, cv, h, k, hl, hd, pl, H => by
    have hl' : bs.length = rest.length := by simpa using hl
    have hd' : ∀ o ∈ rest, ∀ d, o.dst = some d → d < N := fun o' ho => hd o' (List.mem_cons_of_mem _ ho)
    rw [mkCOs.go] at H
    cases hal : aliasOf keep rest D o with
    | some e =>
      rw [hal] at H
      dsimp only at H
      obtain ⟨d, t, hdst, hg0, ho, pl'⟩ := pl.alias hal
      obtain ⟨env', h', H', hK', hw'⟩ := seq_sound hcall rest bs _ _ _ _ _ _ _ _ hl' hd' pl' H
      refine ⟨env', h', H', hK', fun ds β a w hr hc hN hds hg Q hQ => ?_⟩
      show if _ then _ else _
      rw [if_pos (by unfold Region.wanted; rw [hg0])]
      left
      unfold Oper.wp
      rw [exec_move ho]
      show wpList P ops Q rest (a.put o.dst _) w
      have hlt : ∀ t, o.dst = some t → t < a.tmps.size := fun t e => Nat.lt_of_lt_of_le (hd o (List.mem_cons_self ..) t e) hN
      refine hw' ds β _ w hr ?_ (by rw [put_size]; exact hN) (by rw [put_defers]; exact hds) hg Q hQ
      exact hc.put (.refl β) hlt (fun av e => hc t av e)
    | none =>
      rw [hal] at H
      dsimp only at H
      rw [runSeq_cons] at H
      obtain ⟨v, h1, H1, hdoes, -⟩ := mkCO_line hcall (.inl rfl) pl.loc H
      obtain ⟨env', h', H', hK', hw'⟩ := seq_sound hcall rest bs _ _ _ _ _ _ _ _ hl' hd' (pl.push v) (by exact H1)
      refine ⟨env', h', H', hK', fun ds β a w hr hc hN hds hg Q hQ => ?_⟩
      have hlt : ∀ t, o.dst = some t → t < a.tmps.size := fun t e => Nat.lt_of_lt_of_le (hd o (List.mem_cons_self ..) t e) hN
      show if _ then _ else _
      rcases hdoes with ⟨hw, xs, hx, ho, -⟩ | ⟨hw, rfl, rfl⟩
      · rw [if_pos (wantedA_con hc hw)]
        left
        refine ho β w a hr hg (opnds_con hc hg hx) _ _ fun β' w' u s hu => ?_
        have hle := s.le hr
        refine hw' ds β' _ w' s.hr (hc.put hle hlt fun av e => by injection e with e; subst e; exact hu) (by rw [put_size]; exact hN) (by rw [put_defers]; exact hds) (hg.le hle) Q fun a' w2 hp => hQ a' w2 (hp.trans hr s)
      · rw [if_neg (by rw [wantedA_con hc hw]; simp)]
        exact hw' ds β _ w hr (hc.put (.refl β) hlt fun av e => by injection e with e; subst e; rfl) (by rw [put_size]; exact hN) (by rw [put_defers]; exact hds) hg Q hQ
end Go.Ev
end
/- The evaluator's regions: operations in whatever order: what is written down of a run. -/
section
set_option linter.unusedVariables false
set_option linter.unusedSectionVars false
set_option linter.unusedSimpArgs false
namespace Go.Ev
variable [Sg] [Sl]
open Go.RowKit
variable {P : Program}

inductive Kd where
  | calm
  | bar (I O : Hp)
  | free (I O : Hp)
abbrev Rcs := Nat → Option AV × Kd
def dstAt (ops : List Oper) (i : Nat) : Option Tmp := (ops[i]?).bind (·.dst)
def cvS (cv0 : Cv) (ops : List Oper) (f : Rcs) (S : Nat → Bool) : Nat → Cv
  | 0 => cv0
  | i + 1 => if S i = true then updO (cvS cv0 ops f S i) (dstAt ops i) (f i).1 else cvS cv0 ops f S i
def cvU (cv0 : Cv) (ops : List Oper) (f : Rcs) : Nat → Cv
  | 0 => cv0
  | i + 1 => updO (cvU cv0 ops f i) (dstAt ops i) (f i).1
def Kd.nx (n : Nat) : Kd → Nat
  | .calm => n
  | .bar _ O => O.nx
  | .free _ O => O.nx
def Kd.bs (h : Hp) : Kd → Hp
  | .bar _ O => O
  | _ => h
def Kd.isBar : Kd → Bool
  | .bar _ _ => true
  | _ => false
def Kd.isCalm : Kd → Bool
  | .calm => true
  | _ => false
def nxU (h0 : Hp) (f : Rcs) : Nat → Nat
  | 0 => h0.nx
  | i + 1 => (f i).2.nx (nxU h0 f i)
def bsU (h0 : Hp) (f : Rcs) : Nat → Hp
  | 0 => h0
  | i + 1 => (f i).2.bs (bsU h0 f i)
def Src (f : Rcs) (p : Nat → Bool) (i : Nat) (base : Hp) (t : Tr Blk) : Prop :=
  ∀ b x, t.get (path b) = some x → base.tr.get (path b) = some x ∨ ∃ j I O, j < i ∧ p j = true ∧ (f j).2 = .free I O ∧ (∀ k, j ≤ k → k < i → (f k).2.isBar = false) ∧ I.nx ≤ b ∧ b < O.nx ∧ O.tr.get (path b) = some x
def CalmAt (P : Program) (ops : List Oper) (o : Oper) (cv : Cv) (out : Option AV) : Prop :=
  (wantedA ops cv o = some true ∧ ∃ v xs, out = some v ∧ opnds P cv o.op.operands.toList = some xs ∧ ∀ h, OpHoldsG P o xs h v h) ∨
  (wantedA ops cv o = some false ∧ out = some (.tup [])) ∨
  (o.guard = none ∧ ∃ t, o.op = .move (.tmp t) ∧ out = cv t)
def CutAt (f : Rcs) (c : Nat) : Prop := c = 0 ∨ ∃ d, c = d + 1 ∧ (f d).2.isBar = true
structure ReadIn (P : Program) (o : Oper) (xs : List AV) (v : AV) (H : Hp) : Prop where
  nx : H.nx ≤ bigN
  does : ∃ O, O.nx = bigN ∧ O.lo = bigN ∧ OpHoldsG P o xs (.mk H.tr bigN bigN) v O
def ReadTo (P : Program) (ops : List Oper) (bf : List Nat) (cv0 : Cv) (h0 : Hp) (f : Rcs) (m i : Nat) (o : Oper) : Prop :=
  wantedA ops (cvU cv0 ops f i) o = some true ∧ ∃ v xs, (f i).1 = some v ∧ opnds P (cvU cv0 ops f i) o.op.operands.toList = some xs ∧ lowA (nxU h0 f i) v = true ∧ nxU h0 f i ≤ bigN ∧
    ∀ c, c ≤ m → CutAt f c → (∀ k, (f k).2.isBar = true → inMask (bf.getD i 0) k = true → k < c) → (∀ k, k < c → (f k).2.isBar = true → inMask (bf.getD k 0) i = false) → ReadIn P o xs v (.mk (bsU h0 f c).tr (nxU h0 f c) 0)
structure RcAt (P : Program) (ops : List Oper) (bf : List Nat) (cv0 : Cv) (h0 : Hp) (f : Rcs) (m i : Nat) (o : Oper) : Prop where
  calm : (f i).2 = .calm → CalmAt P ops o (cvU cv0 ops f i) (f i).1 ∨ ReadTo P ops bf cv0 h0 f m i o
  bar : ∀ I O, (f i).2 = .bar I O → I.nx ≤ O.nx ∧ (∃ v, (f i).1 = some v ∧ Does P ops o (cvU cv0 ops f i) I v O) ∧ Src f (fun _ => true) i (bsU h0 f i) I.tr ∧ I.nx = nxU h0 f i ∧ I.lo = (bsU h0 f i).lo
  free : ∀ I O, (f i).2 = .free I O → (∃ v, (f i).1 = some v ∧ wantedA ops (cvU cv0 ops f i) o = some true ∧ Acts P o (cvU cv0 ops f i) I v O) ∧ Src f (fun j => inMask (bf.getD i 0) j) i (bsU h0 f i) I.tr ∧ I.nx = nxU h0 f i ∧ I.lo = nxU h0 f i ∧ O.lo = nxU h0 f i ∧ nxU h0 f i ≤ O.nx
  ord : (f i).2.isCalm = false → ∀ j, j < i → (f j).2.isCalm = false → ((f i).2.isBar = true ∨ (f j).2.isBar = true) → inMask (bf.getD i 0) j = true

theorem cvS_agree {cv0 : Cv} {ops : List Oper} {f : Rcs} {S : Nat → Bool} {i t : Nat} (h : ∀ k, S k ≠ decide (k < i) → dstAt ops k ≠ some t) : ∀ n, cvS cv0 ops f S n t = cvU cv0 ops f (min n i) t
  | 0 => by simp [cvS, cvU]
  | n + 1 => by
    have ih := cvS_agree (cv0 := cv0) (f := f) h n
    have up : ∀ (cv : Cv) v, dstAt ops n ≠ some t → updO cv (dstAt ops n) v t = cv t := fun cv v hd => by
      unfold updO
      cases he : dstAt ops n with
      | none => rfl
      | some d => dsimp only; rw [if_neg (fun e => hd (by rw [he, e]))]
    unfold cvS
    by_cases hlt : n < i
    · rw [show min (n + 1) i = n + 1 by omega]
      rw [show min n i = n by omega] at ih
      unfold cvU
      by_cases hS : S n = true
      · rw [if_pos hS]
        by_cases hd : dstAt ops n = some t
        · rw [hd]; show (if t = t then _ else _) = (if t = t then _ else _); rw [if_pos rfl, if_pos rfl]
        · rw [up _ _ hd, up _ _ hd]; exact ih
      · rw [if_neg hS, up _ _ (h n (by simp [hlt, hS]))]; exact ih
    · rw [show min (n + 1) i = min n i by omega]
      by_cases hS : S n = true
      · rw [if_pos hS, up _ _ (h n (by simp [hlt, hS]))]; exact ih
      · rw [if_neg hS]; exact ih
theorem cvS_all {cv0 : Cv} {ops : List Oper} {f : Rcs} {S : Nat → Bool} {n : Nat} (h : ∀ k, k < n → S k = true) : ∀ m, m ≤ n → cvS cv0 ops f S m = cvU cv0 ops f m
  | 0, _ => rfl
  | m + 1, hm => by unfold cvS cvU; rw [if_pos (h m (by omega)), cvS_all h m (by omega)]
def addS (S : Nat → Bool) (i : Nat) : Nat → Bool := fun k => S k || decide (k = i)
theorem cvS_add {cv0 : Cv} {ops : List Oper} {f : Rcs} {S : Nat → Bool} {i : Nat} (hi : S i = false) (h : ∀ k, i < k → S k = true → dstAt ops i ≠ none → dstAt ops k ≠ dstAt ops i) : ∀ n t, cvS cv0 ops f (addS S i) n t = if i < n then updO (cvS cv0 ops f S n) (dstAt ops i) (f i).1 t else cvS cv0 ops f S n t
  | 0, t => by simp [cvS]
  | n + 1, t => by
    have ih := cvS_add (cv0 := cv0) (f := f) hi h n
    by_cases hin : i = n
    · subst hin
      rw [if_pos (Nat.lt_succ_self i)]
      unfold cvS
      rw [if_pos (by simp [addS]), if_neg (by rw [hi]; simp)]
      unfold updO
      cases hd : dstAt ops i with
      | none => dsimp only; rw [ih t, if_neg (Nat.lt_irrefl i)]
      | some d => dsimp only; rw [ih t, if_neg (Nat.lt_irrefl i)]
    · have ha : addS S i n = S n := by unfold addS; rw [decide_eq_false (fun e : n = i => hin e.symm), Bool.or_false]
      by_cases hlt : i < n
      · rw [if_pos (by omega)]
        unfold cvS
        rw [ha]
        by_cases hS : S n = true
        · rw [if_pos hS, if_pos hS]
          have hne := h n hlt hS
          have ih' := ih t
          rw [if_pos hlt] at ih'
          unfold updO at ih' ⊢
          cases hd : dstAt ops i with
          | none =>
            rw [hd] at ih'
            cases hdn : dstAt ops n with
            | none => exact ih'
            | some d => dsimp only; rw [ih']
          | some d =>
            rw [hd] at ih'
            dsimp only at ih' ⊢
            cases hdn : dstAt ops n with
            | none => exact ih'
            | some d' =>
              dsimp only
              have hdd : d' ≠ d := fun e => hne (by rw [hd]; simp) (by rw [hdn, hd, e])
              by_cases e : t = d'
              · subst e; rw [if_pos rfl, if_neg hdd, if_pos rfl]
              · rw [if_neg e, if_neg e]; exact ih'
        · rw [if_neg hS, if_neg hS]
          have ih' := ih t
          rw [if_pos hlt] at ih'
          exact ih'
      · rw [if_neg (by omega)]
        have ih' := ih t
        rw [if_neg hlt] at ih'
        unfold cvS
        rw [ha]
        by_cases hS : S n = true
        · rw [if_pos hS, if_pos hS]
          unfold updO
          cases dstAt ops n with
          | none => exact ih'
          | some d' => dsimp only; rw [ih']
        · rw [if_neg hS, if_neg hS]; exact ih'
theorem bsU_const {h0 : Hp} {f : Rcs} {c : Nat} : ∀ i, c ≤ i → (∀ k, c ≤ k → k < i → (f k).2.isBar = false) → bsU h0 f i = bsU h0 f c
  | 0, hc, _ => by rw [show c = 0 by omega]
  | i + 1, hc, h => by
    by_cases e : c = i + 1
    · rw [e]
    · have h1 := h i (by omega) (Nat.lt_succ_self i)
      have ih := bsU_const (h0 := h0) (f := f) (c := c) i (by omega) (fun k a b => h k a (by omega))
      show (f i).2.bs (bsU h0 f i) = _
      revert h1
      cases (f i).2 with
      | bar I O => intro h1; cases h1
      | calm => intro _; exact ih
      | free I O => intro _; exact ih
theorem nxU_mono {ops : List Oper} {bf : List Nat} {cv0 : Cv} {h0 : Hp} {f : Rcs} {c m : Nat} (hf : ∀ i o, ops[i]? = some o → RcAt P ops bf cv0 h0 f m i o) (hc : ∀ i, ops.length ≤ i → (f i).2 = .calm) : ∀ i, c ≤ i → nxU h0 f c ≤ nxU h0 f i
  | 0, h => by rw [show c = 0 by omega]; exact Nat.le_refl _
  | i + 1, h => by
    by_cases e : c = i + 1
    · rw [e]; exact Nat.le_refl _
    · have ih := nxU_mono (c := c) hf hc i (by omega)
      refine Nat.le_trans ih ?_
      show _ ≤ (f i).2.nx (nxU h0 f i)
      by_cases hi : i < ops.length
      · obtain ⟨o, ho⟩ : ∃ o, ops[i]? = some o := ⟨_, List.getElem?_eq_getElem hi⟩
        have hr := hf i o ho
        cases hk : (f i).2 with
        | bar I O => have := hr.bar I O hk; rw [← this.2.2.2.1]; exact this.1
        | calm => exact Nat.le_refl _
        | free I O => exact (hr.free I O hk).2.2.2.2.2
      · rw [hc i (by omega)]; exact Nat.le_refl _
theorem bsU_nx {ops : List Oper} {h0 : Hp} {f : Rcs} {c : Nat} (h : c = 0 ∨ ∃ d, c = d + 1 ∧ (f d).2.isBar = true) : (bsU h0 f c).nx = nxU h0 f c := by
  rcases h with rfl | ⟨d, rfl, hd⟩
  · rfl
  · show ((f d).2.bs (bsU h0 f d)).nx = (f d).2.nx (nxU h0 f d)
    revert hd
    cases (f d).2 with
    | bar I O => intro _; rfl
    | calm => intro h; cases h
    | free I O => intro h; cases h
end Go.Ev
namespace Go.Ev
variable [Sg] [Sl]
open Go.RowKit
variable {P : Program}

def restr (β : Bt) (n : Nat) : Bt := fun b => if b < n then β b else none
theorem restr_lt {β : Bt} {n b : Nat} (h : b < n) : restr β n b = β b := if_pos h
theorem restr_ge {β : Bt} {n b : Nat} (h : n ≤ b) : restr β n b = none := if_neg (by omega)
theorem restr_some {β : Bt} {n b : Nat} {x : Nat × Nat} (h : restr β n b = some x) : b < n ∧ β b = some x := by
  by_cases hb : b < n
  · rw [restr_lt hb] at h; exact ⟨hb, h⟩
  · rw [restr_ge (by omega)] at h; cases h
theorem restr_le (β : Bt) (n : Nat) : Le (restr β n) β := fun b x h => (restr_some h).2
theorem restr_mono {β β' : Bt} {n m : Nat} (h : n ≤ m) (hl : Le β β') : Le (restr β n) (restr β' m) := fun b x e => by
  obtain ⟨h1, h2⟩ := restr_some e
  rw [restr_lt (by omega)]; exact hl _ _ h2
structure Ext (w w' : World) : Prop where
  os : w'.os = w.os
  tape : w'.tape = w.tape
  output : w'.output = w.output
  size : w.heap.size ≤ w'.heap.size
  block : ∀ c, c < w.heap.size → w'.heap[c]? = w.heap[c]?
theorem Ext.refl (w : World) : Ext w w := ⟨rfl, rfl, rfl, Nat.le_refl _, fun _ _ => rfl⟩
theorem Ext.trans {w w' w'' : World} (h : Ext w w') (h' : Ext w' w'') : Ext w w'' :=
  ⟨h'.os.trans h.os, h'.tape.trans h.tape, h'.output.trans h.output, Nat.le_trans h.size h'.size, fun c hc => (h'.block c (Nat.lt_of_lt_of_le hc h.size)).trans (h.block c hc)⟩
theorem Ext.kept {w w' : World} (h : Ext w w') (β : Bt) (lo : Nat) : Kept β lo w w' := ⟨h.os, h.tape, h.output, h.size, fun c hc _ => h.block c hc⟩
theorem Kept.ext {β : Bt} {lo : Nat} {w w' : World} (h : Kept β lo w w') (hn : ∀ b, lo ≤ b → β b = none) : Ext w w' :=
  ⟨h.os, h.tape, h.output, h.size, fun c hc => h.block c hc fun b κ hb e => by rw [hn b hb] at e; cases e⟩
theorem BlkR.some {β : Bt} {κ : Nat} {o : Option Obj} {x : Blk} (h : BlkR β κ o x) : ∃ y, o = some y := by
  cases x with
  | cells e len c ex esz => obtain ⟨cs, fz, h1, _⟩ := h; exact ⟨_, h1⟩
  | map es clock => obtain ⟨ms, h1, _⟩ := h; exact ⟨_, h1⟩
  | iter l p => exact ⟨_, h.1⟩
  | miter b s => obtain ⟨_, _, _, e2⟩ := h; exact ⟨_, e2⟩
theorem BlkR.lt {β : Bt} {κ c : Nat} {w : World} {x : Blk} (h : BlkR β κ w.heap[c]? x) : c < w.heap.size := by
  obtain ⟨y, e⟩ := h.some
  exact (Array.getElem?_eq_some_iff.1 e).1
theorem BlkR.ext {β : Bt} {κ c : Nat} {w w' : World} {x : Blk} (h : BlkR β κ w.heap[c]? x) (he : Ext w w') : BlkR β κ w'.heap[c]? x := by
  rw [he.block c h.lt]; exact h
def bdS (ops : List Oper) (S : Nat → Bool) (t : Nat) : Nat → Nat
  | 0 => 0
  | k + 1 => if S k = true ∧ dstAt ops k = some t then k + 1 else bdS ops S t k
theorem bdS_le {ops : List Oper} {S : Nat → Bool} {t : Nat} : ∀ n, bdS ops S t n ≤ n
  | 0 => Nat.le_refl _
  | n + 1 => by
    unfold bdS
    split
    · exact Nat.le_refl _
    · exact Nat.le_succ_of_le (bdS_le n)
theorem bdS_agree {ops : List Oper} {S : Nat → Bool} {i t : Nat} (h : ∀ k, S k ≠ decide (k < i) → dstAt ops k ≠ some t) : ∀ n, bdS ops S t n ≤ i
  | 0 => Nat.zero_le _
  | n + 1 => by
    unfold bdS
    split
    · rename_i hs
      have : S n = decide (n < i) := Classical.byContradiction fun hne => h n hne hs.2
      rw [hs.1] at this
      have := of_decide_eq_true this.symm
      omega
    · exact bdS_agree h n
theorem bdS_ge {ops : List Oper} {S : Nat → Bool} {i t : Nat} (hs : S i = true) (hd : dstAt ops i = some t) : ∀ n, i < n → i + 1 ≤ bdS ops S t n
  | 0, h => by omega
  | n + 1, h => by
    unfold bdS
    split
    · omega
    · rename_i hn
      by_cases e : i = n
      · subst e; exact absurd ⟨hs, hd⟩ hn
      · exact bdS_ge hs hd n (by omega)
theorem bdS_mono {ops : List Oper} {S S' : Nat → Bool} {t : Nat} (h : ∀ k, S k = true → S' k = true) : ∀ n, bdS ops S t n ≤ bdS ops S' t n
  | 0 => Nat.le_refl _
  | n + 1 => by
    unfold bdS
    split
    · rename_i hs; rw [if_pos ⟨h n hs.1, hs.2⟩]; exact Nat.le_refl _
    · split
      · exact Nat.le_succ_of_le (bdS_le n)
      · exact bdS_mono h n
structure Rg (P : Program) (ops : List Oper) (bf : List Nat) (cv0 : Cv) (h0 : Hp) (f : Rcs) (N : Nat) : Prop where
  rc : ∀ i o, ops[i]? = some o → RcAt P ops bf cv0 h0 f ops.length i o
  out : ∀ i, ops.length ≤ i → (f i).2 = .calm
  dn : ∀ i o e, ops[i]? = some o → e ∈ o.after → Region.binds .any e = true → e.on < i
  bfs : ∀ i o j, ops[i]? = some o → inMask (bf.getD i 0) j = true → ∃ e ∈ o.after, Region.binds .any e = true ∧ (e.on = j ∨ inMask (bf.getD e.on 0) j = true)
  ap : ∀ i j x y, i < j → ops[i]? = some x → ops[j]? = some y → inMask (bf.getD j 0) i = true ∨ apartB ops x y = true
  dst : ∀ i d, dstAt ops i = some d → d < N
structure Cut (f : Rcs) (S : Nat → Bool) (c : Nat) : Prop where
  bars : ∀ j, (f j).2.isBar = true → (S j = true ↔ j < c)
  low : ∀ j, (f j).2.isCalm = false → j < c → S j = true
  last : c = 0 ∨ ∃ d, c = d + 1 ∧ (f d).2.isBar = true
def NewB (f : Rcs) (S : Nat → Bool) (c b : Nat) : Prop := ∃ j I O x, S j = true ∧ c ≤ j ∧ (f j).2 = .free I O ∧ I.nx ≤ b ∧ b < O.nx ∧ O.tr.get (path b) = some x
structure Mid (h0 : Hp) (f : Rcs) (S : Nat → Bool) (c : Nat) (β0 : Bt) (w0 : World) (βb : Bt) (wb : World) (β : Bt) (w : World) : Prop where
  st : Stp β0 h0 w0 βb (bsU h0 f c) wb
  ext : Ext wb w
  old : ∀ b, b < (bsU h0 f c).nx → β b = βb b
  dom : ∀ b x, β b = some x → (bsU h0 f c).nx ≤ b → wb.heap.size ≤ x.1 ∧ ∃ j I O, S j = true ∧ c ≤ j ∧ (f j).2 = .free I O ∧ I.nx ≤ b ∧ b < O.nx
  new : ∀ j I O b x, S j = true → c ≤ j → (f j).2 = .free I O → I.nx ≤ b → b < O.nx → O.tr.get (path b) = some x → ∃ cb κ, β b = some (cb, κ) ∧ BlkR (restr β O.nx) κ w.heap[cb]? x
  inj : ∀ b b' cb κ κ', NewB f S c b → NewB f S c b' → β b = some (cb, κ) → β b' = some (cb, κ') → b = b'
theorem Mid.le {h0 : Hp} {f : Rcs} {S : Nat → Bool} {c : Nat} {β0 : Bt} {w0 : World} {βb : Bt} {wb : World} {β : Bt} {w : World} (m : Mid h0 f S c β0 w0 βb wb β w) : Le βb β := fun b x e => by
  by_cases h : b < (bsU h0 f c).nx
  · rw [m.old b h]; exact e
  · rw [m.st.hr.fresh b (by omega)] at e; cases e
section
variable {ops : List Oper} {bf : List Nat} {cv0 : Cv} {h0 : Hp} {f : Rcs} {N : Nat} {S : Nat → Bool} {c : Nat} {β0 : Bt} {w0 : World} {βb : Bt} {wb : World} {β : Bt} {w : World}
theorem Rg.mono (rg : Rg P ops bf cv0 h0 f N) {i j : Nat} (h : i ≤ j) : nxU h0 f i ≤ nxU h0 f j := nxU_mono rg.rc rg.out j h
theorem Rg.at (rg : Rg P ops bf cv0 h0 f N) {i : Nat} (h : (f i).2.isCalm = false) : ∃ o, ops[i]? = some o := by
  by_cases hi : i < ops.length
  · exact ⟨_, List.getElem?_eq_getElem hi⟩
  · rw [rg.out i (by omega)] at h; cases h
theorem Rg.free (rg : Rg P ops bf cv0 h0 f N) {j : Nat} {I O : Hp} (h : (f j).2 = .free I O) : I.nx = nxU h0 f j ∧ O.nx = nxU h0 f (j + 1) := by
  obtain ⟨o, ho⟩ := rg.at (i := j) (by rw [h]; rfl)
  refine ⟨((rg.rc j o ho).free I O h).2.2.1, ?_⟩
  show _ = (f j).2.nx _
  rw [h]; rfl
theorem Mid.hr (rg : Rg P ops bf cv0 h0 f N) (m : Mid h0 f S c β0 w0 βb wb β w) (ct : Cut f S c) {i : Nat} (hci : c ≤ i) (hnb : ∀ k, c ≤ k → k < i → (f k).2.isBar = false) {p : Nat → Bool} {t : Tr Blk} (hs : Src f p i (bsU h0 f i) t)
    (hp : ∀ j I O, j < i → p j = true → (f j).2 = .free I O → S j = true) {lo : Nat} (hlo : lo ≤ nxU h0 f i) : HR (restr β (nxU h0 f i)) (.mk t (nxU h0 f i) lo) w := by
  have hbx : (bsU h0 f c).nx = nxU h0 f c := bsU_nx (ops := ops) ct.last
  have hle : nxU h0 f c ≤ nxU h0 f i := rg.mono hci
  have sp : ∀ b x, t.get (path b) = some x → (bsU h0 f c).tr.get (path b) = some x ∨ ∃ j I O, j < i ∧ S j = true ∧ c ≤ j ∧ (f j).2 = .free I O ∧ I.nx ≤ b ∧ b < O.nx ∧ O.tr.get (path b) = some x := fun b x hb => by
    rcases hs b x hb with h | ⟨j, I, O, h1, h2, h3, h4, h5⟩
    · rw [bsU_const i hci hnb] at h; exact .inl h
    · refine .inr ⟨j, I, O, h1, hp j I O h1 h2 h3, ?_, h3, h5⟩
      rcases ct.last with h | ⟨d, h, hd⟩
      · omega
      · by_cases hjc : c ≤ j
        · exact hjc
        · have := h4 d (by omega) (by omega); rw [hd] at this; cases this
  refine ⟨fun b x hb => ?_, fun b b' x x' cb κ κ' hb hb' e e' => ?_, fun b hb => restr_ge hb, hlo⟩
  · rcases sp b x hb with h | ⟨j, I, O, h1, h2, h3, h4, h5, h6, h7⟩
    · obtain ⟨h8, cb, κ, h9, h10⟩ := m.st.hr.blk b x h
      have hbn : b < nxU h0 f i := by omega
      refine ⟨hbn, cb, κ, by rw [restr_lt hbn, m.old b h8]; exact h9, (h10.ext m.ext).mono fun b2 x2 e2 => ?_⟩
      have hb2 : b2 < (bsU h0 f c).nx := Classical.byContradiction fun hn => by rw [m.st.hr.fresh b2 (by omega)] at e2; cases e2
      rw [restr_lt (by omega), m.old b2 hb2]; exact e2
    · obtain ⟨cb, κ, h8, h9⟩ := m.new j I O b x h2 h3 h4 h5 h6 h7
      have hO := (rg.free h4).2
      have hOn : O.nx ≤ nxU h0 f i := by rw [hO]; exact rg.mono h1
      exact ⟨show b < nxU h0 f i by omega, cb, κ, by rw [restr_lt (by omega)]; exact h8, h9.mono (restr_mono hOn (.refl β))⟩
  · have e1 := (restr_some e).2
    have e2 := (restr_some e').2
    have base : ∀ b x cb κ, (bsU h0 f c).tr.get (path b) = some x → β b = some (cb, κ) → cb < wb.heap.size ∧ βb b = some (cb, κ) := fun b x cb κ hb e => by
      obtain ⟨h8, cb', κ', h9, h10⟩ := m.st.hr.blk b x hb
      rw [m.old b h8] at e
      rw [h9] at e; injection e with e; injection e with ea eb; subst ea; subst eb
      exact ⟨h10.lt, h9⟩
    have newb : ∀ {j b : Nat} {I O : Hp} {cb κ : Nat}, c ≤ j → (f j).2 = .free I O → I.nx ≤ b → β b = some (cb, κ) → wb.heap.size ≤ cb := fun {j b I O cb κ} hj hf hb e => by
      refine (m.dom b (cb, κ) e ?_).1
      rw [hbx]
      exact Nat.le_trans (rg.mono hj) (by rw [(rg.free hf).1] at hb; exact hb)
    rcases sp b x hb with h | ⟨j, I, O, h1, h2, h3, h4, h5, h6, h7⟩ <;> rcases sp b' x' hb' with h' | ⟨j', I', O', h1', h2', h3', h4', h5', h6', h7'⟩
    · exact m.st.hr.inj b b' x x' cb κ κ' h h' (base b x cb κ h e1).2 (base b' x' cb κ' h' e2).2
    · have a1 := (base b x cb κ h e1).1
      have a2 := newb h3' h4' h5' e2
      omega
    · have a1 := (base b' x' cb κ' h' e2).1
      have a2 := newb h3 h4 h5 e1
      omega
    · exact m.inj b b' cb κ κ' ⟨j, I, O, x, h2, h3, h4, h5, h6, h7⟩ ⟨j', I', O', x', h2', h3', h4', h5', h6', h7'⟩ e1 e2
theorem Mid.flush (rg : Rg P ops bf cv0 h0 f N) (m : Mid h0 f S c β0 w0 βb wb β w) (ct : Cut f S c) {i : Nat} (hci : c ≤ i) (hnb : ∀ k, c ≤ k → k < i → (f k).2.isBar = false) {t : Tr Blk} (hs : Src f (fun _ => true) i (bsU h0 f i) t)
    (hp : ∀ j I O, j < i → (f j).2 = .free I O → S j = true) (hp2 : ∀ j I O, (f j).2 = .free I O → S j = true → j < i) : Stp βb (bsU h0 f c) wb β (.mk t (nxU h0 f i) (bsU h0 f i).lo) w := by
  have hbx : (bsU h0 f c).nx = nxU h0 f c := bsU_nx (ops := ops) ct.last
  have hle : nxU h0 f c ≤ nxU h0 f i := rg.mono hci
  have hbs : bsU h0 f i = bsU h0 f c := bsU_const i hci hnb
  have hre : restr β (nxU h0 f i) = β := funext fun b => by
    by_cases hb : b < nxU h0 f i
    · exact restr_lt hb
    · rw [restr_ge (by omega)]
      cases e : β b with
      | none => rfl
      | some x =>
        obtain ⟨-, j, I, O, h1, h2, h3, h4, h5⟩ := m.dom b x e (by omega)
        have := hp2 j I O h3 h1
        have h6 := rg.mono (show j + 1 ≤ i by omega)
        rw [(rg.free h3).2] at h5
        omega
  have hlo : (bsU h0 f i).lo ≤ nxU h0 f i := by rw [hbs]; have := m.st.hr.low; omega
  have hh := m.hr rg ct hci hnb hs (fun j I O a _ b => hp j I O a b) hlo
  rw [hre] at hh
  refine ⟨hh, by rw [hbx]; exact hle, by rw [hbs]; exact Nat.le_refl _, m.old, fun b cb κ hb e => .inl (m.dom b _ e hb).1, m.ext.kept _ _⟩
end
end Go.Ev
end
/- The evaluator's regions: operations in whatever order: each step. -/
section
set_option linter.unusedVariables false
set_option linter.unusedSectionVars false
set_option linter.unusedSimpArgs false
namespace Go.Ev
variable [Sg] [Sl]
open Go.RowKit
variable {P : Program}

structure Inv (P : Program) (ops : List Oper) (cv0 : Cv) (h0 : Hp) (f : Rcs) (N : Nat) (ds : List Deferred) (β0 : Bt) (w0 : World) (S : Nat → Bool) (β : Bt) (a : Act) (w : World) : Prop where
  inb : ∀ i, S i = true → i < ops.length
  down : ∀ i o e, S i = true → ops[i]? = some o → e ∈ o.after → Region.binds .any e = true → S e.on = true
  mid : ∃ c βb wb, Cut f S c ∧ Mid h0 f S c β0 w0 βb wb β w
  cv : ∀ t av, cvS cv0 ops f S ops.length t = some av → con (restr β (nxU h0 f (bdS ops S t ops.length))) av = some (a.tmps.getD t undef)
  size : N ≤ a.tmps.size
  ds : a.defers = ds
structure Rdy (ops : List Oper) (S : Nat → Bool) (i : Nat) (o : Oper) : Prop where
  at_ : ops[i]? = some o
  no : S i = false
  ok : ∀ e ∈ o.after, Region.binds .any e = true → S e.on = true
section
variable {ops : List Oper} {bf : List Nat} {cv0 : Cv} {h0 : Hp} {f : Rcs} {N : Nat} {ds : List Deferred} {S : Nat → Bool} {c : Nat} {β0 : Bt} {w0 : World} {β : Bt} {w : World} {a : Act} {i : Nat} {o : Oper}
theorem Rg.below (rg : Rg P ops bf cv0 h0 f N) {S : Nat → Bool} (hd : ∀ i o e, S i = true → ops[i]? = some o → e ∈ o.after → Region.binds .any e = true → S e.on = true) : ∀ (i : Nat) (o : Oper) (j : Nat), ops[i]? = some o → (∀ e ∈ o.after, Region.binds .any e = true → S e.on = true) → inMask (bf.getD i 0) j = true → S j = true := by
  intro i
  induction i using Nat.strongRecOn with
  | _ i ih =>
    intro o j ho hok hm
    obtain ⟨e, he, hb, h⟩ := rg.bfs i o j ho hm
    have hs := hok e he hb
    rcases h with h | h
    · rw [← h]; exact hs
    · have hlt := rg.dn i o e ho he hb
      have hi : i < ops.length := (List.getElem?_eq_some_iff.1 ho).1
      obtain ⟨o', ho'⟩ : ∃ o', ops[e.on]? = some o' := ⟨_, List.getElem?_eq_getElem (by omega)⟩
      exact ih e.on hlt o' j ho' (fun e' he' hb' => hd e.on o' e' hs ho' he' hb') h
theorem Inv.mask (iv : Inv P ops cv0 h0 f N ds β0 w0 S β a w) (rg : Rg P ops bf cv0 h0 f N) (rd : Rdy ops S i o) {j : Nat} (h : inMask (bf.getD i 0) j = true) : S j = true :=
  rg.below iv.down i o j rd.at_ rd.ok h
theorem Inv.mask' (iv : Inv P ops cv0 h0 f N ds β0 w0 S β a w) (rg : Rg P ops bf cv0 h0 f N) {k : Nat} (hk : S k = true) {j : Nat} (h : inMask (bf.getD k 0) j = true) : S j = true := by
  obtain ⟨o, ho⟩ : ∃ o, ops[k]? = some o := ⟨_, List.getElem?_eq_getElem (iv.inb k hk)⟩
  exact rg.below iv.down k o j ho (fun e he hb => iv.down k o e hk ho he hb) h
theorem apartB_left {ops : List Oper} {x y : Oper} {d : Tmp} (h : apartB ops x y = true) (hd : x.dst = some d) : d ∉ readsOf ops y ∧ y.dst ≠ some d := by
  unfold apartB at h
  rw [hd] at h
  dsimp only at h
  rw [Bool.and_eq_true, Bool.and_eq_true] at h
  obtain ⟨⟨h1, h2⟩, -⟩ := h
  refine ⟨fun hm => ?_, by simpa using h2⟩
  simp [hm] at h1
theorem apartB_right {ops : List Oper} {x y : Oper} {d : Tmp} (h : apartB ops x y = true) (hd : y.dst = some d) : d ∉ readsOf ops x := by
  unfold apartB at h
  rw [hd] at h
  dsimp only at h
  rw [Bool.and_eq_true] at h
  intro hm
  have := h.2
  simp [hm] at this
theorem dstAt_some {k : Nat} {t : Tmp} (h : dstAt ops k = some t) : ∃ o, ops[k]? = some o ∧ o.dst = some t := by
  unfold dstAt at h
  exact Option.bind_eq_some_iff.1 h
theorem dstAt_at (h : ops[i]? = some o) : dstAt ops i = o.dst := by unfold dstAt; rw [h]; rfl
theorem Inv.agree (iv : Inv P ops cv0 h0 f N ds β0 w0 S β a w) (rg : Rg P ops bf cv0 h0 f N) (rd : Rdy ops S i o) {t : Tmp} (ht : t ∈ readsOf ops o) : ∀ k, S k ≠ decide (k < i) → dstAt ops k ≠ some t := by
  intro k hk hd
  obtain ⟨y, hy, hyd⟩ := dstAt_some hd
  by_cases hlt : k < i
  · rw [decide_eq_true hlt] at hk
    rcases rg.ap k i y o hlt hy rd.at_ with h | h
    · exact hk (iv.mask rg rd h)
    · exact (apartB_left h hyd).1 ht
  · rw [decide_eq_false hlt] at hk
    have hSk : S k = true := by simpa using hk
    have hne : k ≠ i := fun e => by rw [e, rd.no] at hSk; cases hSk
    rcases rg.ap i k o y (by omega) rd.at_ hy with h | h
    · have := iv.mask' rg hSk h; rw [rd.no] at this; cases this
    · exact apartB_right h hyd ht
theorem Inv.later (iv : Inv P ops cv0 h0 f N ds β0 w0 S β a w) (rg : Rg P ops bf cv0 h0 f N) (rd : Rdy ops S i o) : ∀ k, i < k → S k = true → dstAt ops i ≠ none → dstAt ops k ≠ dstAt ops i := by
  intro k hik hSk hn he
  rw [dstAt_at rd.at_] at hn he
  cases hd : o.dst with
  | none => exact hn hd
  | some d =>
    rw [hd] at he
    obtain ⟨y, hy, hyd⟩ := dstAt_some he
    rcases rg.ap i k o y hik rd.at_ hy with h | h
    · have := iv.mask' rg hSk h; rw [rd.no] at this; cases this
    · exact (apartB_left h hd).2 hyd
noncomputable def cvR (ops : List Oper) (cv : Cv) (o : Oper) : Cv := fun t => if t ∈ readsOf ops o then cv t else none
theorem Inv.reads (iv : Inv P ops cv0 h0 f N ds β0 w0 S β a w) (rg : Rg P ops bf cv0 h0 f N) (rd : Rdy ops S i o) : CvR (restr β (nxU h0 f i)) (cvR ops (cvU cv0 ops f i) o) a.tmps := by
  intro t av ht
  unfold cvR at ht
  split at ht
  · rename_i hm
    have ag := iv.agree rg rd hm
    have hi : i < ops.length := (List.getElem?_eq_some_iff.1 rd.at_).1
    have e := cvS_agree (cv0 := cv0) (f := f) ag ops.length
    rw [show min ops.length i = i by omega] at e
    exact con_mono (restr_mono (rg.mono (bdS_agree ag ops.length)) (.refl β)) (iv.cv t av (e.trans ht))
  · cases ht
theorem opnds_congr {cv cv' : Cv} : ∀ {xs : List Operand}, (∀ t, Operand.tmp t ∈ xs → cv t = cv' t) → opnds P cv xs = opnds P cv' xs
  | [], _ => rfl
  | x :: xs, h => by
    have h1 : opnd P cv x = opnd P cv' x := by
      cases x with
      | tmp t => exact h t (List.mem_cons_self ..)
      | _ => rfl
    have h2 := opnds_congr (xs := xs) (fun t ht => h t (List.mem_cons_of_mem _ ht))
    simp only [opnds, h1, h2]
theorem opnds_reads (cv : Cv) (o : Oper) : opnds P cv o.op.operands.toList = opnds P (cvR ops cv o) o.op.operands.toList :=
  opnds_congr fun t ht => by
    unfold cvR
    rw [if_pos]
    unfold readsOf
    exact List.mem_append_left _ (List.mem_filterMap.2 ⟨_, ht, rfl⟩)
theorem wantedA_reads (cv : Cv) (o : Oper) : wantedA ops cv o = wantedA ops (cvR ops cv o) o := by
  unfold wantedA
  cases hg : o.guard with
  | none => rfl
  | some p =>
    obtain ⟨g, want⟩ := p
    dsimp only
    cases hd : (ops[g]?).bind (·.dst) with
    | none => rfl
    | some d =>
      dsimp only
      have : cvR ops cv o d = cv d := by
        unfold cvR
        rw [if_pos]
        unfold readsOf
        rw [hg]
        dsimp only
        rw [hd]
        exact List.mem_append_right _ (by simp)
      rw [this]
theorem Inv.put (iv : Inv P ops cv0 h0 f N ds β0 w0 S β a w) (rg : Rg P ops bf cv0 h0 f N) (rd : Rdy ops S i o) {β' : Bt} {w' : World} {u : Value} (hl : Le β β')
    (hm : ∃ c βb wb, Cut f (addS S i) c ∧ Mid h0 f (addS S i) c β0 w0 βb wb β' w') (hv : ∀ v, (f i).1 = some v → con (restr β' (nxU h0 f (i + 1))) v = some u) : Inv P ops cv0 h0 f N ds β0 w0 (addS S i) β' (a.put o.dst u) w' := by
  have hi : i < ops.length := (List.getElem?_eq_some_iff.1 rd.at_).1
  have hsub : ∀ k, S k = true → addS S i k = true := fun k h => by unfold addS; rw [h]; rfl
  refine ⟨fun k hk => ?_, fun k o' e hk ho' he hb => ?_, hm, fun t av ht => ?_, by rw [put_size]; exact iv.size, by rw [put_defers]; exact iv.ds⟩
  · unfold addS at hk
    rw [Bool.or_eq_true] at hk
    rcases hk with hk | hk
    · exact iv.inb k hk
    · rw [of_decide_eq_true hk]; exact hi
  · unfold addS at hk
    rw [Bool.or_eq_true] at hk
    rcases hk with hk | hk
    · exact hsub _ (iv.down k o' e hk ho' he hb)
    · have hk := of_decide_eq_true hk
      subst hk
      rw [rd.at_] at ho'; injection ho' with ho'; subst ho'
      exact hsub _ (rd.ok e he hb)
  · rw [cvS_add rd.no (iv.later rg rd) ops.length t, if_pos hi, dstAt_at rd.at_] at ht
    have old : cvS cv0 ops f S ops.length t = some av → o.dst ≠ some t → con (restr β' (nxU h0 f (bdS ops (addS S i) t ops.length))) av = some ((a.put o.dst u).tmps.getD t undef) := fun ht hne => by
      have := con_mono (restr_mono (rg.mono (bdS_mono hsub ops.length)) hl) (iv.cv t av ht)
      rw [this]
      congr 1
      unfold Act.put
      cases hd : o.dst with
      | none => rfl
      | some d =>
        dsimp only
        simp only [Array.getD_eq_getD_getElem?, Array.getElem?_setIfInBounds]
        rw [if_neg (fun x => hne (by rw [hd, x]))]
    unfold updO at ht
    cases hd : o.dst with
    | none => rw [hd] at ht; rw [← hd]; exact old ht (by rw [hd]; simp)
    | some d =>
      rw [hd] at ht
      dsimp only at ht
      by_cases e : t = d
      · subst e
        rw [if_pos rfl] at ht
        have h1 := hv av ht
        have hlt : t < a.tmps.size := Nat.lt_of_lt_of_le (rg.dst i t (by rw [dstAt_at rd.at_, hd])) iv.size
        have hb := bdS_ge (S := addS S i) (ops := ops) (i := i) (t := t) (by unfold addS; simp) (by rw [dstAt_at rd.at_, hd]) ops.length hi
        rw [con_mono (restr_mono (rg.mono hb) (.refl β')) h1]
        simp [Act.put, Array.getD, hlt]
      · rw [if_neg e] at ht
        rw [← hd]
        exact old ht (by rw [hd]; intro x; injection x with x; exact e x.symm)
theorem addS_of {k : Nat} (h : k ≠ i) : addS S i k = S k := by unfold addS; rw [decide_eq_false h, Bool.or_false]
theorem addS_self : addS S i i = true := by unfold addS; simp
theorem Mid.calm {βb : Bt} {wb w' : World} (m : Mid h0 f S c β0 w0 βb wb β w) (ct : Cut f S c) (hi : (f i).2 = .calm) (he : Ext w w') : Cut f (addS S i) c ∧ Mid h0 f (addS S i) c β0 w0 βb wb β w' := by
  have hne : ∀ {j I O}, (f j).2 = .free I O → j ≠ i := fun h e => by rw [e, hi] at h; cases h
  have hsub : ∀ k, S k = true → addS S i k = true := fun k h => by unfold addS; rw [h]; rfl
  have nb : ∀ {b}, NewB f (addS S i) c b → NewB f S c b := fun ⟨j, I, O, x, h1, h2, h3, h4⟩ => ⟨j, I, O, x, by rwa [addS_of (hne h3)] at h1, h2, h3, h4⟩
  refine ⟨⟨fun j hj => ?_, fun j hj hl => hsub j (ct.low j hj hl), ct.last⟩, m.st, m.ext.trans he, m.old, fun b x e hb => ?_, fun j I O b x h1 h2 h3 h4 h5 h6 => ?_, fun b b' cb κ κ' h h' => m.inj b b' cb κ κ' (nb h) (nb h')⟩
  · rw [addS_of (fun e => by rw [e, hi] at hj; cases hj)]; exact ct.bars j hj
  · obtain ⟨h1, j, I, O, h2, h3⟩ := m.dom b x e hb
    exact ⟨h1, j, I, O, hsub j h2, h3⟩
  · rw [addS_of (hne h3)] at h1
    obtain ⟨cb, κ, h7, h8⟩ := m.new j I O b x h1 h2 h3 h4 h5 h6
    exact ⟨cb, κ, h7, h8.ext he⟩
theorem Inv.cut (iv : Inv P ops cv0 h0 f N ds β0 w0 S β a w) (rg : Rg P ops bf cv0 h0 f N) (rd : Rdy ops S i o) (ct : Cut f S c) (hi : (f i).2.isCalm = false) : c ≤ i ∧ ∀ k, c ≤ k → k < i → (f k).2.isBar = false := by
  refine ⟨Classical.byContradiction fun h => ?_, fun k h1 h2 => ?_⟩
  · have := ct.low i hi (by omega); rw [rd.no] at this; cases this
  · cases hb : (f k).2.isBar with
    | false => rfl
    | true =>
      have hcalm : (f k).2.isCalm = false := by
        revert hb
        cases (f k).2 with
        | bar I O => intro _; rfl
        | calm => intro h; cases h
        | free I O => intro _; rfl
      have hm := (rg.rc i o rd.at_).ord hi k h2 hcalm (.inr hb)
      have := (ct.bars k hb).1 (iv.mask rg rd hm)
      omega
end
end Go.Ev
namespace Go.Ev
variable [Sg] [Sl]
open Go.RowKit
variable {P : Program}

section
variable {ops : List Oper} {bf : List Nat} {cv0 : Cv} {h0 : Hp} {f : Rcs} {N : Nat} {ds : List Deferred} {S : Nat → Bool} {c : Nat} {β0 : Bt} {w0 : World} {β : Bt} {w : World} {a : Act} {i : Nat} {o : Oper}
theorem Mid.unused (rg : Rg P ops bf cv0 h0 f N) {βb : Bt} {wb : World} (m : Mid h0 f S c β0 w0 βb wb β w) (ct : Cut f S c) (hci : c ≤ i) (hn : S i = false) {b : Nat} (h1 : nxU h0 f i ≤ b) (h2 : b < nxU h0 f (i + 1)) : β b = none := by
  have hbx : (bsU h0 f c).nx = nxU h0 f c := bsU_nx (ops := ops) ct.last
  cases e : β b with
  | none => rfl
  | some x =>
    obtain ⟨-, j, I, O, h3, h4, h5, h6, h7⟩ := m.dom b x e (by rw [hbx]; exact Nat.le_trans (rg.mono hci) h1)
    obtain ⟨e1, e2⟩ := rg.free h5
    rcases Nat.lt_trichotomy j i with h | h | h
    · have := rg.mono (show j + 1 ≤ i by omega); omega
    · rw [h, hn] at h3; cases h3
    · have := rg.mono (show i + 1 ≤ j by omega); omega
theorem Mid.free_ (rg : Rg P ops bf cv0 h0 f N) {βb : Bt} {wb w' : World} (m : Mid h0 f S c β0 w0 βb wb β w) (ct : Cut f S c) (hci : c ≤ i) (hn : S i = false) {I O : Hp} (hi : (f i).2 = .free I O) (hlo : O.lo = nxU h0 f i) {β2 : Bt} (s : Stp (restr β (nxU h0 f i)) I w β2 O w') :
    ∃ β', Le β β' ∧ Le β2 (restr β' (nxU h0 f (i + 1))) ∧ Cut f (addS S i) c ∧ Mid h0 f (addS S i) c β0 w0 βb wb β' w' := by
  have hbx : (bsU h0 f c).nx = nxU h0 f c := bsU_nx (ops := ops) ct.last
  obtain ⟨eI, eO⟩ := rg.free hi
  have hcn := rg.mono hci
  have hii := rg.mono (Nat.le_succ i)
  have he : Ext w w' := s.kept.ext fun b hb => restr_ge (by rw [hlo] at hb; exact hb)
  have hsub : ∀ k, S k = true → addS S i k = true := fun k h => by unfold addS; rw [h]; rfl
  let β' : Bt := fun b => if nxU h0 f i ≤ b ∧ b < nxU h0 f (i + 1) then β2 b else β b
  have in_ : ∀ {b}, nxU h0 f i ≤ b → b < nxU h0 f (i + 1) → β' b = β2 b := fun h1 h2 => if_pos ⟨h1, h2⟩
  have out_ : ∀ {b}, ¬ (nxU h0 f i ≤ b ∧ b < nxU h0 f (i + 1)) → β' b = β b := fun h => if_neg h
  have hl : Le β β' := fun b x e => by
    by_cases hr : nxU h0 f i ≤ b ∧ b < nxU h0 f (i + 1)
    · rw [m.unused rg ct hci hn hr.1 hr.2] at e; cases e
    · rw [out_ hr]; exact e
  have hl2 : Le β2 (restr β' (nxU h0 f (i + 1))) := fun b x e => by
    have hlt : b < nxU h0 f (i + 1) := Classical.byContradiction fun h => by rw [s.hr.fresh b (by omega)] at e; cases e
    rw [restr_lt hlt]
    by_cases h : nxU h0 f i ≤ b
    · rw [in_ h hlt]; exact e
    · rw [s.old b (by omega), restr_lt (by omega)] at e
      rw [out_ (by omega)]; exact e
  have far : ∀ {j I' O' b}, (f j).2 = .free I' O' → j ≠ i → I'.nx ≤ b → b < O'.nx → β' b = β b := fun {j I' O' b} h1 h2 h3 h4 => by
    obtain ⟨e1, e2⟩ := rg.free h1
    refine out_ fun h => ?_
    rcases Nat.lt_or_gt_of_ne h2 with h5 | h5
    · have := rg.mono (show j + 1 ≤ i by omega); omega
    · have := rg.mono (show i + 1 ≤ j by omega); omega
  have newlt : ∀ {b cb κ}, nxU h0 f i ≤ b → β2 b = some (cb, κ) → w.heap.size ≤ cb := fun {b cb κ} h1 e => by
    rcases s.new b cb κ (by omega) e with h | ⟨x, κ', h2, h3, -⟩
    · exact h
    · omega
  have nb : ∀ {b}, NewB f (addS S i) c b → (NewB f S c b ∧ β' b = β b) ∨ (nxU h0 f i ≤ b ∧ β' b = β2 b ∧ ∃ x, O.tr.get (path b) = some x) := fun {b} ⟨j, I', O', x, h1, h2, h3, h4, h5, h6⟩ => by
    by_cases e : j = i
    · subst e
      rw [hi] at h3; injection h3 with h3 h3'; subst h3; subst h3'
      exact .inr ⟨by omega, in_ (by omega) (by omega), x, h6⟩
    · rw [addS_of e] at h1
      exact .inl ⟨⟨j, I', O', x, h1, h2, h3, h4, h5, h6⟩, far h3 e h4 h5⟩
  refine ⟨β', hl, hl2, ⟨fun j hj => ?_, fun j hj hlt => hsub j (ct.low j hj hlt), ct.last⟩, m.st, m.ext.trans he, fun b hb => ?_, fun b x e hb => ?_, fun j I' O' b x h1 h2 h3 h4 h5 h6 => ?_, fun b b' cb κ κ' h h' e e' => ?_⟩
  · rw [addS_of (fun e => by rw [e, hi] at hj; cases hj)]; exact ct.bars j hj
  · rw [out_ (by omega)]; exact m.old b hb
  · by_cases hr : nxU h0 f i ≤ b ∧ b < nxU h0 f (i + 1)
    · rw [in_ hr.1 hr.2] at e
      exact ⟨Nat.le_trans m.ext.size (newlt (κ := x.2) hr.1 e), i, I, O, addS_self, hci, hi, by omega, by omega⟩
    · rw [out_ hr] at e
      obtain ⟨h1, j, I', O', h2, h3⟩ := m.dom b x e hb
      exact ⟨h1, j, I', O', hsub j h2, h3⟩
  · by_cases e : j = i
    · subst e
      rw [hi] at h3; injection h3 with h3 h3'; subst h3; subst h3'
      obtain ⟨-, cb, κ, h7, h8⟩ := s.hr.blk b x h6
      rw [in_ (by omega) (by omega)]
      exact ⟨cb, κ, h7, h8.mono (by rw [eO]; exact hl2)⟩
    · rw [addS_of e] at h1
      obtain ⟨cb, κ, h7, h8⟩ := m.new j I' O' b x h1 h2 h3 h4 h5 h6
      exact ⟨cb, κ, hl _ _ h7, (h8.ext he).mono (restr_mono (Nat.le_refl _) hl)⟩
  · have old : ∀ {b cb κ}, NewB f S c b → β b = some (cb, κ) → cb < w.heap.size := fun {b cb κ} ⟨j, I', O', x, h1, h2, h3, h4, h5, h6⟩ e => by
      obtain ⟨cb', κ', h7, h8⟩ := m.new j I' O' b x h1 h2 h3 h4 h5 h6
      rw [e] at h7; injection h7 with h7; injection h7 with h7 h7'; subst h7
      exact h8.lt
    rcases nb h with ⟨h1, h2⟩ | ⟨h1, h2, x, h3⟩ <;> rcases nb h' with ⟨h1', h2'⟩ | ⟨h1', h2', x', h3'⟩
    · rw [h2] at e; rw [h2'] at e'; exact m.inj b b' cb κ κ' h1 h1' e e'
    · rw [h2] at e; rw [h2'] at e'
      have a1 := old h1 e
      have a2 := newlt h1' e'
      omega
    · rw [h2] at e; rw [h2'] at e'
      have a1 := old h1' e'
      have a2 := newlt h1 e
      omega
    · rw [h2] at e; rw [h2'] at e'; exact s.hr.inj b b' x x' cb κ κ' h3 h3' e e'
theorem Mid.bar_ {βb : Bt} {wb w' : World} (iv : Inv P ops cv0 h0 f N ds β0 w0 S β a w) (rg : Rg P ops bf cv0 h0 f N) (rd : Rdy ops S i o) (hr0 : HR β0 h0 w0) (m : Mid h0 f S c β0 w0 βb wb β w) (ct : Cut f S c) {I O : Hp} (hi : (f i).2 = .bar I O) :
    Stp βb (bsU h0 f c) wb β I w ∧ restr β (nxU h0 f i) = β ∧ ∀ β' w', Stp β I w β' O w' → Cut f (addS S i) (i + 1) ∧ Mid h0 f (addS S i) (i + 1) β0 w0 β' w' β' w' := by
  obtain ⟨hci, hnb⟩ := iv.cut rg rd ct (by rw [hi]; rfl)
  have rc := rg.rc i o rd.at_
  obtain ⟨hno, -, hsrc, hInx, hIlo⟩ := rc.bar I O hi
  have before : ∀ j, j < i → (f j).2.isCalm = false → S j = true := fun j h1 h2 => iv.mask rg rd (rc.ord (by rw [hi]; rfl) j h1 h2 (.inl (by rw [hi]; rfl)))
  have after : ∀ j, i < j → (f j).2.isCalm = false → S j = false := fun j h1 h2 => by
    cases hs : S j with
    | false => rfl
    | true =>
      obtain ⟨o', ho'⟩ := rg.at h2
      have := iv.mask' rg hs ((rg.rc j o' ho').ord h2 i h1 (by rw [hi]; rfl) (.inr (by rw [hi]; rfl)))
      rw [rd.no] at this; cases this
  have hp2 : ∀ j I O, (f j).2 = .free I O → S j = true → j < i := fun j I' O' h1 h2 => by
    rcases Nat.lt_trichotomy j i with h | h | h
    · exact h
    · rw [h, hi] at h1; cases h1
    · rw [after j h (by rw [h1]; rfl)] at h2; cases h2
  have hfl := m.flush rg ct hci hnb hsrc (fun j I O h1 h2 => before j h1 (by rw [h2]; rfl)) hp2
  have eI : Hp.mk I.tr (nxU h0 f i) (bsU h0 f i).lo = I := by rw [← hInx, ← hIlo]; cases I; rfl
  rw [eI] at hfl
  have hre : restr β (nxU h0 f i) = β := funext fun b => by
    by_cases hb : b < nxU h0 f i
    · exact restr_lt hb
    · rw [restr_ge (by omega), hfl.hr.fresh b (by omega)]
  have eO : bsU h0 f (i + 1) = O := by show (f i).2.bs _ = O; rw [hi]; rfl
  refine ⟨hfl, hre, fun β' w' s => ⟨⟨fun j hj => ?_, fun j hj hl => ?_, .inr ⟨i, rfl, by rw [hi]; rfl⟩⟩, ?_⟩⟩
  · have hc : (f j).2.isCalm = false := by
      revert hj
      cases (f j).2 with
      | bar I O => intro _; rfl
      | calm => intro h; cases h
      | free I O => intro _; rfl
    rcases Nat.lt_trichotomy j i with h | h | h
    · rw [addS_of (by omega), before j h hc]; simp; omega
    · subst h; rw [addS_self]; simp
    · rw [addS_of (by omega), after j h hc]; simp; omega
  · by_cases e : j = i
    · rw [e]; exact addS_self
    · rw [addS_of e]; exact before j (by omega) hj
  · have no : ∀ j I O, addS S i j = true → i + 1 ≤ j → (f j).2 = .free I O → False := fun j I O h1 h2 h3 => by
      rw [addS_of (by omega), after j (by omega) (by rw [h3]; rfl)] at h1; cases h1
    refine ⟨by rw [eO]; exact (m.st.trans hr0 hfl).trans hr0 s, .refl w', fun _ _ => rfl, fun b x e hb => ?_, fun j I O b x h1 h2 h3 => (no j I O h1 h2 h3).elim, fun b b' cb κ κ' h => ?_⟩
    · rw [eO] at hb; rw [s.hr.fresh b hb] at e; cases e
    · obtain ⟨j, I', O', x, h1, h2, h3, -⟩ := h
      exact (no j I' O' h1 h2 h3).elim
theorem glob_restr (rg : Rg P ops bf cv0 h0 f N) (hr0 : HR β0 h0 w0) (hg : GlobK P β0) {βb : Bt} {wb : World} (m : Mid h0 f S c β0 w0 βb wb β w) (i : Nat) : GlobK P (restr β (nxU h0 f i)) := fun g hlt => by
  obtain ⟨κ, e⟩ := hg g hlt
  have h1 : g < h0.nx := Classical.byContradiction fun h => by rw [hr0.fresh g (by omega)] at e; cases e
  have h2 : h0.nx ≤ nxU h0 f i := rg.mono (i := 0) (Nat.zero_le i)
  exact ⟨κ, by rw [restr_lt (by omega)]; exact m.le _ _ (m.st.le hr0 _ _ e)⟩
theorem con_low1 {β : Bt} {n : Nat} : ∀ {v : AV} {u : Value}, con β v = some u → lowA1 n v = true → con (restr β n) v = some u
  | .nat _, _, h, _ => h
  | .u8 _, _, h, _ => h
  | .int _ _, _, h, _ => h
  | .bool _, _, h, _ => h
  | .str _ _, _, h, _ => by simpa [con] using h
  | .raw _, _, h, _ => by simpa [con] using h
  | .ptr b _, _, h, hl => by
    simp only [con, restr_lt (show b < n from Nat.le_of_ble_eq_true hl)] at h ⊢; exact h
  | .slice b _ _ _ _, _, h, hl => by
    simp only [con, restr_lt (show b < n from Nat.le_of_ble_eq_true hl)] at h ⊢; exact h
  | .map b, _, h, hl => by
    simp only [con, restr_lt (show b < n from Nat.le_of_ble_eq_true hl)] at h ⊢; exact h
  | .iface _ _, _, _, hl => by cases hl
  | .agg _, _, _, hl => by cases hl
  | .tup _, _, _, hl => by cases hl
  | .fn f a b, _, h, hl => by
    unfold lowA1 at hl
    split at hl <;> first | (cases hl; done) | skip
    all_goals first | (rename_i e; cases e; done) | (rename_i e; injection e with e1 e2 e3; subst e1; subst e2; subst e3; simpa [con, conL] using h)
  | .sym _, _, _, hl => by cases hl
theorem con_lowL {β : Bt} {n : Nat} : ∀ {l : List AV} {us : List Value}, conL β l = some us → lowL n l = true → conL (restr β n) l = some us
  | [], us, h, _ => by rw [conL_nil h]; rfl
  | x :: xs, us, h, hl => by
    unfold lowL at hl
    rw [Bool.and_eq_true] at hl
    obtain ⟨v, vs, h1, h2, rfl⟩ := conL_cons h
    exact conL_mk (con_low1 h1 hl.1) (con_lowL h2 hl.2)
theorem con_low {β : Bt} {n : Nat} {v : AV} {u : Value} (h : con β v = some u) (hl : lowA n v = true) : con (restr β n) v = some u := by
  cases v <;> first | exact con_low1 h hl | skip
  · rename_i l
    simp only [con, Option.bind_eq_some_iff] at h ⊢
    obtain ⟨us, h1, h2⟩ := h
    exact ⟨us, con_lowL h1 hl, h2⟩
  · rename_i l
    simp only [con, Option.map_eq_some_iff] at h ⊢
    obtain ⟨us, h1, h2⟩ := h
    exact ⟨us, con_lowL h1 hl, h2⟩
theorem Inv.step (iv : Inv P ops cv0 h0 f N ds β0 w0 S β a w) (rg : Rg P ops bf cv0 h0 f N) (rd : Rdy ops S i o) (hr0 : HR β0 h0 w0) (hg : GlobK P β0) {arr : Array Oper} (harr : arr.toList = ops) {K : Act → World → Prop} {Q : Exit → Act → World → Prop}
    (hK : ∀ β' a' w', Inv P ops cv0 h0 f N ds β0 w0 (addS S i) β' a' w' → K a' w') : wpOp P arr Q i K a w := by
  obtain ⟨c, βb, wb, ct, m⟩ := iv.mid
  have rc := rg.rc i o rd.at_
  have hrd := iv.reads rg rd
  have hga := glob_restr rg hr0 hg m i
  have hat : arr[i]? = some o := by rw [← Array.getElem?_toList, harr]; exact rd.at_
  have hwant : ∀ b, wantedA ops (cvU cv0 ops f i) o = some b → Region.wanted o (yielded arr a.tmps) = b := fun b h => by
    rw [wantedA_reads] at h
    subst harr
    exact wantedA_con hrd h
  have hxs : ∀ xs, opnds P (cvU cv0 ops f i) o.op.operands.toList = some xs → conL (restr β (nxU h0 f i)) xs = some (o.op.operands.toList.map a.eval) := fun xs h => by
    rw [opnds_reads (ops := ops)] at h
    exact opnds_con hrd hga h
  have hsk : ∀ {h : Hp}, wantedA ops (cvU cv0 ops f i) o = some false → (f i).1 = some (.tup []) → (∃ c βb wb, Cut f (addS S i) c ∧ Mid h0 f (addS S i) c β0 w0 βb wb β w) → wpOp P arr Q i K a w := fun {h} h1 h2 h3 => by
    unfold wpOp
    rw [hat]
    dsimp only
    rw [if_neg (by rw [hwant false h1]; simp)]
    exact hK β _ _ (iv.put rg rd (.refl β) h3 fun v e => by rw [h2] at e; injection e with e; subst e; rfl)
  cases hk : (f i).2 with
  | calm =>
    have hnx : nxU h0 f (i + 1) = nxU h0 f i := by show (f i).2.nx _ = _; rw [hk]; rfl
    rcases rc.calm hk with (⟨h1, v, xs, h2, h3, h4⟩ | ⟨h1, h2⟩ | ⟨h1, t, h2, h3⟩) | ⟨h1, v, xs, h2, h3, h5, h6, h7⟩
    · unfold wpOp
      rw [hat]
      dsimp only
      rw [if_pos (hwant true h1)]
      left
      have hr : HR (restr β (nxU h0 f i)) (.mk .leaf (nxU h0 f i) (nxU h0 f i)) w := by
        have hb : ∀ b x, (Hp.mk .leaf (nxU h0 f i) (nxU h0 f i)).tr.get (path b) = some x → False := fun b x hb => by
          rw [show (Hp.mk .leaf (nxU h0 f i) (nxU h0 f i)).tr = .leaf from rfl, get_leaf] at hb
          cases hb
        exact ⟨fun b x h => (hb b x h).elim, fun b b' x x' cb κ κ' h => (hb b x h).elim, fun b hb => restr_ge hb, Nat.le_refl _⟩
      refine h4 _ _ w a hr hga (hxs xs h3) K Q fun β2 w' u s hu => ?_
      have he : Ext w w' := s.kept.ext fun b hb => restr_ge hb
      have hl2 : Le β2 (restr β (nxU h0 f i)) := fun b x e => by
        by_cases hb : b < nxU h0 f i
        · rwa [s.old b hb] at e
        · rw [s.hr.fresh b (by show nxU h0 f i ≤ b; omega)] at e; cases e
      exact hK β _ _ (iv.put rg rd (.refl β) ⟨c, βb, wb, m.calm ct hk he⟩ fun v' e => by
        rw [h2] at e; injection e with e; subst e
        rw [hnx]; exact con_mono hl2 hu)
    · exact hsk (h := h0) h1 h2 ⟨c, βb, wb, m.calm ct hk (.refl w)⟩
    · unfold wpOp
      rw [hat]
      dsimp only
      rw [if_pos (by unfold Region.wanted; rw [h1])]
      left
      unfold Oper.wp
      rw [exec_move h2]
      show K (a.put o.dst _) w
      refine hK β _ _ (iv.put rg rd (.refl β) ⟨c, βb, wb, m.calm ct hk (.refl w)⟩ fun v e => ?_)
      rw [hnx]
      refine hrd t v ?_
      unfold cvR
      rw [if_pos]
      · rw [← h3]; exact e
      · unfold readsOf
        rw [h2]
        exact List.mem_append_left _ (List.mem_filterMap.2 ⟨.tmp t, by simp [Op.operands], rfl⟩)
    · have hcl : c ≤ ops.length := by
        rcases ct.last with h | ⟨d, h, hd⟩
        · omega
        · obtain ⟨o', ho'⟩ := rg.at (i := d) (by revert hd; cases (f d).2 <;> intro hd <;> first | rfl | cases hd)
          have := (List.getElem?_eq_some_iff.1 ho').1
          omega
      obtain ⟨hcb, O, hO1, hO2, h4⟩ := h7 c hcl ct.last (fun k hk1 hk2 => (ct.bars k hk1).1 (iv.mask rg rd hk2)) (fun k hk1 hk2 => by
        cases hm : inMask (bf.getD k 0) i with
        | false => rfl
        | true =>
          have := iv.mask' rg ((ct.bars k hk2).2 hk1) hm
          rw [rd.no] at this; cases this)
      have hcb : nxU h0 f c ≤ bigN := hcb
      have hbx : (bsU h0 f c).nx = nxU h0 f c := bsU_nx (ops := ops) ct.last
      have hr : HR (restr β bigN) (.mk (bsU h0 f c).tr bigN bigN) w := by
        refine ⟨fun b x hb => ?_, fun b b' x x' cb κ κ' hb hb' e e' => ?_, fun b hb => restr_ge hb, Nat.le_refl _⟩
        · obtain ⟨h8, cb, κ, h9, h10⟩ := m.st.hr.blk b x hb
          have hbn : b < bigN := by omega
          refine ⟨hbn, cb, κ, by rw [restr_lt hbn, m.old b h8]; exact h9, (h10.ext m.ext).mono fun b2 x2 e2 => ?_⟩
          have hb2 : b2 < (bsU h0 f c).nx := Classical.byContradiction fun hn => by rw [m.st.hr.fresh b2 (by omega)] at e2; cases e2
          rw [restr_lt (by omega), m.old b2 hb2]; exact e2
        · have g : ∀ {b x}, (bsU h0 f c).tr.get (path b) = some x → ∀ {y}, restr β bigN b = some y → βb b = some y := fun {b x} hb {y} e => by
            have h8 := (m.st.hr.blk b x hb).1
            rw [← m.old b h8]; exact (restr_some e).2
          exact m.st.hr.inj b b' x x' cb κ κ' hb hb' (g hb e) (g hb' e')
      have hmono : Le (restr β (nxU h0 f i)) (restr β bigN) := restr_mono h6 (.refl β)
      have hgb : GlobK P (restr β bigN) := fun g hlt => by
        obtain ⟨κ, e⟩ := hga g hlt
        exact ⟨κ, hmono _ _ e⟩
      unfold wpOp
      rw [hat]
      dsimp only
      rw [if_pos (hwant true h1)]
      left
      refine h4 _ w a hr hgb (conL_mono hmono (hxs xs h3)) K Q fun β2 w' u s hu => ?_
      have he : Ext w w' := s.kept.ext fun b hb => restr_ge (by rw [hO2] at hb; exact hb)
      have hl2 : Le β2 (restr β bigN) := fun b x e => by
        by_cases hb : b < bigN
        · rwa [s.old b hb] at e
        · rw [s.hr.fresh b (by rw [hO1]; omega)] at e; cases e
      exact hK β _ _ (iv.put rg rd (.refl β) ⟨c, βb, wb, m.calm ct hk he⟩ fun v' e => by
        rw [h2] at e; injection e with e; subst e
        rw [hnx]
        exact con_low (con_mono (hl2.trans (restr_le β bigN)) hu) h5)
  | free I O =>
    obtain ⟨⟨v, h1, h2, xs, h3, h4, -⟩, hsrc, hInx, hIlo, hOlo, hOnx⟩ := rc.free I O hk
    obtain ⟨hci, hnb⟩ := iv.cut rg rd ct (by rw [hk]; rfl)
    unfold wpOp
    rw [hat]
    dsimp only
    rw [if_pos (hwant true h2)]
    left
    have hr := m.hr rg ct hci hnb hsrc (fun j I O _ hp _ => iv.mask rg rd hp) (Nat.le_refl _)
    have eI : Hp.mk I.tr (nxU h0 f i) (nxU h0 f i) = I := by rw [← hInx, show I.nx = I.lo by rw [hInx, hIlo]]; cases I; rw [show ∀ t n l, (Hp.mk t n l).lo = l from fun _ _ _ => rfl]; simp only [Hp.tr]; congr 1; exact (hInx.trans hIlo.symm).symm
    rw [eI] at hr
    refine h4 _ w a hr hga (hxs xs h3) K Q fun β2 w' u s hu => ?_
    obtain ⟨β', hl, hl2, hct, hm⟩ := m.free_ rg ct hci rd.no hk hOlo s
    exact hK β' _ _ (iv.put rg rd hl ⟨c, βb, wb, hct, hm⟩ fun v' e => by
      rw [h1] at e; injection e with e; subst e
      exact con_mono hl2 hu)
  | bar I O =>
    obtain ⟨hno, ⟨v, h1, hdo⟩, hsrc, hInx, hIlo⟩ := rc.bar I O hk
    obtain ⟨hfl, hre, hnext⟩ := m.bar_ (w' := w) iv rg rd hr0 ct hk
    have eO : nxU h0 f (i + 1) = O.nx := by show (f i).2.nx _ = _; rw [hk]; rfl
    rcases hdo with ⟨h2, xs, h3, h4, -⟩ | ⟨h2, h3, h4⟩
    · unfold wpOp
      rw [hat]
      dsimp only
      rw [if_pos (hwant true h2)]
      left
      rw [hre] at hga
      have hx := hxs xs h3
      rw [hre] at hx
      refine h4 β w a hfl.hr hga hx K Q fun β' w' u s hu => ?_
      obtain ⟨hct, hm⟩ := hnext β' w' s
      refine hK β' _ _ (iv.put rg rd (s.le hfl.hr) ⟨i + 1, β', w', hct, hm⟩ fun v' e => ?_)
      rw [h1] at e; injection e with e; subst e
      rw [eO]
      refine con_mono (fun b x e => ?_) hu
      have hlt : b < O.nx := Classical.byContradiction fun h => by rw [s.hr.fresh b (by omega)] at e; cases e
      rw [restr_lt hlt]; exact e
    · subst h4
      obtain ⟨hct, hm⟩ := hnext β w (.refl hfl.hr)
      exact hsk (h := h0) h2 (by rw [h1, h3]) ⟨i + 1, β, w, hct, hm⟩
end
end Go.Ev
end
/- The evaluator's regions: whatever order the tape picks. -/
section
set_option linter.unusedVariables false
set_option linter.unusedSectionVars false
set_option linter.unusedSimpArgs false
namespace Go.Ev
variable [Sg] [Sl]
open Go.RowKit
variable {P : Program}

def cntS (S : Nat → Bool) : Nat → Nat
  | 0 => 0
  | k + 1 => cntS S k + (if S k = true then 0 else 1)
theorem cntS_zero {S : Nat → Bool} : ∀ {n}, cntS S n = 0 → ∀ j, j < n → S j = true
  | 0, _, j, h => by omega
  | n + 1, h, j, hj => by
    unfold cntS at h
    by_cases e : j = n
    · subst e
      cases hs : S j with
      | true => rfl
      | false => rw [hs] at h; simp at h
    · exact cntS_zero (n := n) (S := S) (Nat.eq_zero_of_add_eq_zero_right h) j (by omega)
theorem cntS_add {S : Nat → Bool} {i : Nat} (hi : S i = false) : ∀ n, cntS (addS S i) n + (if i < n then 1 else 0) = cntS S n
  | 0 => rfl
  | n + 1 => by
    have ih := cntS_add hi n
    unfold cntS
    by_cases e : n = i
    · subst e
      rw [addS_self, hi]
      rw [if_neg (Nat.lt_irrefl n)] at ih
      rw [if_pos (Nat.lt_succ_self n), if_pos rfl, if_neg (by simp)]
      omega
    · rw [addS_of e]
      by_cases h : i < n
      · rw [if_pos h] at ih; rw [if_pos (by omega : i < n + 1)]; omega
      · rw [if_neg h] at ih; rw [if_neg (by omega : ¬ i < n + 1)]; omega
theorem cntS_none : ∀ n, cntS (fun _ => false) n = n
  | 0 => rfl
  | n + 1 => by unfold cntS; rw [cntS_none n]; rfl
abbrev ofL (listed : Array Bool) : Nat → Bool := fun j => listed.getD j false
theorem ofL_set {listed : Array Bool} {i : Nat} (h : i < listed.size) : ofL (listed.setIfInBounds i true) = addS (ofL listed) i := by
  funext j
  unfold ofL addS
  simp only [Array.getD_eq_getD_getElem?, Array.getElem?_setIfInBounds]
  by_cases e : i = j
  · subst e; rw [if_pos rfl, if_pos h]; simp
  · rw [if_neg e, decide_eq_false (fun x => e x.symm), Bool.or_false]
section
variable {ops : List Oper} {bf : List Nat} {cv0 : Cv} {h0 : Hp} {f : Rcs} {N : Nat} {ds : List Deferred} {β0 : Bt} {w0 : World}
theorem rdy_of {arr : Array Oper} (harr : arr.toList = ops) {listed : Array Bool} (hsz : listed.size = ops.length) {i : Nat} (h : i ∈ Region.ready .any arr listed) : i < listed.size ∧ ∃ o, Rdy ops (ofL listed) i o := by
  obtain ⟨h1, o, h2, h3⟩ := mem_ready.1 h
  have hat : ops[i]? = some o := by rw [← harr, Array.getElem?_toList]; exact h2
  have hlt : i < listed.size := by rw [hsz]; exact (List.getElem?_eq_some_iff.1 hat).1
  refine ⟨hlt, o, hat, ?_, fun e he hb => h3 e he hb⟩
  simp [Array.getD, hlt] at h1 ⊢
  exact h1
theorem all_of (rg : Rg P ops bf cv0 h0 f N) {arr : Array Oper} (harr : arr.toList = ops) {listed : Array Bool} (hsz : listed.size = ops.length) (h : Region.ready .any arr listed = []) : ∀ j, j < ops.length → ofL listed j = true := by
  intro j
  induction j using Nat.strongRecOn with
  | _ j ih =>
    intro hj
    cases hs : ofL listed j with
    | true => rfl
    | false =>
      obtain ⟨o, ho⟩ : ∃ o, ops[j]? = some o := ⟨_, List.getElem?_eq_getElem hj⟩
      have : j ∈ Region.ready .any arr listed := by
        refine mem_ready.2 ⟨?_, o, by rw [← Array.getElem?_toList, harr]; exact ho, fun e he hb => ?_⟩
        · have hlt : j < listed.size := by omega
          simp [ofL, Array.getD, hlt] at hs ⊢
          exact hs
        · have := rg.dn j o e ho he hb
          exact ih e.on this (by omega)
      rw [h] at this
      cases this
theorem Inv.any (rg : Rg P ops bf cv0 h0 f N) (hr0 : HR β0 h0 w0) (hg : GlobK P β0) {arr : Array Oper} (harr : arr.toList = ops) {Q : Exit → Act → World → Prop}
    (hQ : ∀ S β a w, (∀ j, j < ops.length → S j = true) → Inv P ops cv0 h0 f N ds β0 w0 S β a w → Q .normal a w) : ∀ (fuel : Nat) (listed : Array Bool) (β : Bt) (a : Act) (w : World), listed.size = ops.length → cntS (ofL listed) ops.length ≤ fuel → Inv P ops cv0 h0 f N ds β0 w0 (ofL listed) β a w → wpAny P .any arr Q fuel listed a w
  | 0, listed, β, a, w, hsz, hc, iv => by
    have hall := cntS_zero (show cntS (ofL listed) ops.length = 0 by omega)
    refine ⟨?_, hQ _ β a w hall iv⟩
    cases hr : Region.ready .any arr listed with
    | nil => rfl
    | cons i rs =>
      obtain ⟨h1, o, rd⟩ := rdy_of harr hsz (show i ∈ Region.ready .any arr listed by rw [hr]; exact List.mem_cons_self ..)
      have := hall i (by omega)
      rw [rd.no] at this; cases this
  | fuel + 1, listed, β, a, w, hsz, hc, iv => by
    refine ⟨fun h => hQ _ β a w (all_of rg harr hsz h) iv, fun i hi => ?_⟩
    obtain ⟨h1, o, rd⟩ := rdy_of harr hsz hi
    refine iv.step rg rd hr0 hg harr fun β' a' w' iv' => ?_
    rw [← ofL_set h1] at iv'
    refine Inv.any rg hr0 hg harr hQ fuel _ β' a' w' (by simpa using hsz) ?_ iv'
    rw [ofL_set h1]
    have := cntS_add rd.no ops.length
    rw [if_pos (by omega)] at this
    omega
theorem Inv.end_ (rg : Rg P ops bf cv0 h0 f N) (hr0 : HR β0 h0 w0) {S : Nat → Bool} {β : Bt} {a : Act} {w : World} (iv : Inv P ops cv0 h0 f N ds β0 w0 S β a w) (hS : ∀ j, j < ops.length → S j = true) {h' : Hp} (hs : Src f (fun _ => true) ops.length (bsU h0 f ops.length) h'.tr) (hn : h'.nx = nxU h0 f ops.length) (hl : h'.lo = (bsU h0 f ops.length).lo)
    {env' : Tr AV} (he : ∀ t av, env'.get (path t) = some av → cvU cv0 ops f ops.length t = some av) : Post N ds β0 h0 w0 env' h' a w := by
  obtain ⟨c, βb, wb, ct, m⟩ := iv.mid
  have nc : ∀ {k}, (f k).2.isBar = true → (f k).2.isCalm = false := fun {k} h => by
    revert h
    cases (f k).2 with
    | bar I O => intro _; rfl
    | calm => intro h; cases h
    | free I O => intro _; rfl
  have lt : ∀ {k}, (f k).2.isCalm = false → k < ops.length := fun {k} h => by
    obtain ⟨o, ho⟩ := rg.at h; exact (List.getElem?_eq_some_iff.1 ho).1
  have hc : c ≤ ops.length := by
    rcases ct.last with h | ⟨d, h, hd⟩
    · omega
    · have := lt (nc hd); omega
  have hfl := m.flush rg ct hc (fun k h1 h2 => by
    cases hb : (f k).2.isBar with
    | false => rfl
    | true => have := (ct.bars k hb).1 (hS k h2); omega) hs (fun j I O h _ => hS j h) (fun j I O h _ => lt (by rw [h]; rfl))
  have eh : Hp.mk h'.tr (nxU h0 f ops.length) (bsU h0 f ops.length).lo = h' := by rw [← hn, ← hl]; cases h'; rfl
  rw [eh] at hfl
  refine ⟨β, m.st.trans hr0 hfl, hfl.hr, fun t av ht => ?_, iv.size, iv.ds⟩
  have := he t av ht
  rw [← cvS_all hS ops.length (Nat.le_refl _)] at this
  exact con_mono (restr_le β _) (iv.cv t av this)
theorem cvS_none : ∀ n, cvS cv0 ops f (fun _ => false) n = cv0
  | 0 => rfl
  | n + 1 => by unfold cvS; rw [if_neg (by simp)]; exact cvS_none n
theorem bdS_none (t : Nat) : ∀ n, bdS ops (fun _ => false) t n = 0
  | 0 => rfl
  | n + 1 => by unfold bdS; rw [if_neg (by simp)]; exact bdS_none t n
theorem Inv.start {β0 : Bt} {w0 : World} (hr0 : HR β0 h0 w0) {a : Act} (hc : CvR β0 cv0 a.tmps) (hN : N ≤ a.tmps.size) : Inv P ops cv0 h0 f N a.defers β0 w0 (fun _ => false) β0 a w0 := by
  refine ⟨(fun i h => by cases h), (fun i o e h => by cases h), ⟨0, β0, w0, ⟨(fun j _ => by simp), (fun j _ h => by omega), .inl rfl⟩, ⟨.refl hr0, .refl w0, fun _ _ => rfl, fun b x e hb => ?_, (fun j I O b x h => by cases h), fun b b' cb κ κ' h => ?_⟩⟩, fun t av ht => ?_, hN, rfl⟩
  · rw [hr0.fresh b hb] at e; cases e
  · obtain ⟨j, I, O, x, h1, -⟩ := h; cases h1
  · rw [cvS_none] at ht
    rw [bdS_none]
    refine con_mono (fun b x e => ?_) (hc t av ht)
    have : b < h0.nx := Classical.byContradiction fun h => by rw [hr0.fresh b (by omega)] at e; cases e
    show restr β0 (nxU h0 f 0) b = some x
    rw [restr_lt (show b < nxU h0 f 0 from this)]; exact e
theorem region_any (hm : P.follows .mixedOrders = true) (rg : Rg P ops bf cv0 h0 f N) {arr : Array Oper} (harr : arr.toList = ops) {h' : Hp} (hs : Src f (fun _ => true) ops.length (bsU h0 f ops.length) h'.tr) (hn : h'.nx = nxU h0 f ops.length) (hl : h'.lo = (bsU h0 f ops.length).lo)
    {env' : Tr AV} (he : ∀ t av, env'.get (path t) = some av → cvU cv0 ops f ops.length t = some av) {β : Bt} {a : Act} {w : World} (hr : HR β h0 w) (hg : GlobK P β) (hc : CvR β cv0 a.tmps) (hN : N ≤ a.tmps.size) (hds : a.defers = ds) (id : Nat) :
    (Code.region id arr true).wp P (fun e a' w' => e = .normal ∧ Post N ds β h0 w env' h' a' w') a w := by
  refine wp_region_any hm ?_
  have s0 : Stp β h0 w β h0 w.drew := drewHR hr
  have hsz : arr.size = ops.length := by rw [← harr]; simp
  have hnone : ofL (Array.replicate arr.size false) = fun _ => false := by
    funext j; unfold ofL
    by_cases h : j < arr.size <;> simp [Array.getD, h]
  subst hds
  refine Inv.any (ds := a.defers) rg s0.hr hg harr (fun S β' a' w' hS iv => ⟨rfl, (iv.end_ rg s0.hr hS hs hn hl he).trans hr s0⟩) arr.size (Array.replicate arr.size false) β a w.drew (by simp [hsz]) ?_ ?_
  · rw [hnone, cntS_none, hsz]; exact Nat.le_refl _
  · rw [hnone]; exact Inv.start s0.hr hc hN
end
end Go.Ev
namespace Go.Ev
variable [Sg] [Sl]
open Go.RowKit
variable {P : Program}

def maskOf (acc : List Nat) (o : Oper) : Nat := o.after.toList.foldl (fun s e => if Region.binds .any e then Nat.lor (orMask s e.on) (acc.getD e.on 0) else s) 0
theorem mask_fold (acc : List Nat) : ∀ (l : List Edge) (s j : Nat), inMask (l.foldl (fun s e => if Region.binds .any e then Nat.lor (orMask s e.on) (acc.getD e.on 0) else s) s) j = true → inMask s j = true ∨ ∃ e ∈ l, Region.binds .any e = true ∧ (e.on = j ∨ inMask (acc.getD e.on 0) j = true)
  | [], s, j, h => .inl h
  | e :: l, s, j, h => by
    rw [List.foldl_cons] at h
    rcases mask_fold acc l _ j h with h | ⟨e', h1, h2⟩
    · split at h
      · rename_i hb
        rw [inMask_lor, inMask_or, Bool.or_eq_true, Bool.or_eq_true] at h
        rcases h with (h | h) | h
        · exact .inl h
        · exact .inr ⟨e, List.mem_cons_self .., hb, .inl (of_decide_eq_true h)⟩
        · exact .inr ⟨e, List.mem_cons_self .., hb, .inr h⟩
      · exact .inl h
    · exact .inr ⟨e', List.mem_cons_of_mem _ h1, h2⟩
theorem befores_go : ∀ (l : List Oper) (acc : List Nat), ∃ r, l.foldl (fun (acc : List Nat) o => acc ++ [maskOf acc o]) acc = acc ++ r ∧ r.length = l.length ∧ ∀ i o, l[i]? = some o → r[i]? = some (maskOf (acc ++ r.take i) o)
  | [], acc => ⟨[], by simp, rfl, fun i o h => by simp at h⟩
  | o :: l, acc => by
    obtain ⟨r, h1, h2, h3⟩ := befores_go l (acc ++ [maskOf acc o])
    refine ⟨maskOf acc o :: r, by rw [List.foldl_cons, h1, List.append_assoc]; rfl, by simp [h2], fun i o' h => ?_⟩
    cases i with
    | zero => simp at h; subst h; simp
    | succ i =>
      have := h3 i o' (by simpa using h)
      rw [List.getElem?_cons_succ, this, List.take_succ_cons, List.append_assoc]; rfl
theorem befores_spec (ops : List Oper) : (befores ops).length = ops.length ∧ ∀ i o j, ops[i]? = some o → inMask ((befores ops).getD i 0) j = true → ∃ e ∈ o.after, Region.binds .any e = true ∧ (e.on = j ∨ inMask ((befores ops).getD e.on 0) j = true) := by
  obtain ⟨r, h1, h2, h3⟩ := befores_go ops []
  have e : befores ops = r := h1
  rw [e]
  refine ⟨h2, fun i o j ho hm => ?_⟩
  have hr := h3 i o ho
  rw [List.getD_eq_getElem?_getD, hr] at hm
  rcases mask_fold _ _ _ _ (show inMask (o.after.toList.foldl _ 0) j = true from hm) with h | ⟨e, h4, h5, h6⟩
  · rw [inMask_zero] at h; cases h
  · refine ⟨e, Array.mem_toList_iff.1 h4, h5, h6.imp id fun h => ?_⟩
    rw [List.nil_append, List.getD_eq_getElem?_getD, List.getElem?_take] at h
    split at h
    · rw [List.getD_eq_getElem?_getD]; exact h
    · rw [Option.getD_none, inMask_zero] at h; cases h
structure Opn (ops : List Oper) (bf : List Nat) : Prop where
  len : bf.length = ops.length
  bfs : ∀ i o j, ops[i]? = some o → inMask (bf.getD i 0) j = true → ∃ e ∈ o.after, Region.binds .any e = true ∧ (e.on = j ∨ inMask (bf.getD e.on 0) j = true)
  dn : ∀ i o e, ops[i]? = some o → e ∈ o.after → Region.binds .any e = true → e.on < i
  ap : ∀ i j x y, i < j → ops[i]? = some x → ops[j]? = some y → inMask (bf.getD j 0) i = true ∨ apartB ops x y = true
theorem openOk_spec {ops : List Oper} (h : openOk ops (befores ops) = true) : Opn ops (befores ops) := by
  obtain ⟨h1, h2⟩ := befores_spec ops
  unfold openOk at h
  rw [Bool.and_eq_true] at h
  obtain ⟨ha, hb⟩ := h
  refine ⟨h1, h2, fun i o e ho he hbi => ?_, fun i j x y hij hx hy => ?_⟩
  · have := List.all_eq_true.1 ha (o, i) (List.mem_zipIdx_iff_getElem?.2 ho)
    have := List.all_eq_true.1 this e (Array.mem_toList_iff.2 he)
    rw [hbi] at this
    simpa using this
  · have hj : j < (befores ops).length := by rw [h1]; exact (List.getElem?_eq_some_iff.1 hy).1
    have hz : (ops.zip (befores ops))[j]? = some (y, (befores ops)[j]) := List.getElem?_zip_eq_some.2 ⟨hy, List.getElem?_eq_getElem hj⟩
    have := List.all_eq_true.1 hb ((y, (befores ops)[j]), j) (List.mem_zipIdx_iff_getElem?.2 hz)
    have := List.all_eq_true.1 this (x, i) (List.mem_zipIdx_iff_getElem?.2 (by rw [List.getElem?_take, if_pos hij]; exact hx))
    rw [Bool.or_eq_true] at this
    rw [List.getD_eq_getElem?_getD, List.getElem?_eq_getElem hj]
    exact this
theorem Opn.lt {ops : List Oper} {bf : List Nat} (h : Opn ops bf) : ∀ (i : Nat) (o : Oper) (j : Nat), ops[i]? = some o → inMask (bf.getD i 0) j = true → j < i := by
  intro i
  induction i using Nat.strongRecOn with
  | _ i ih =>
    intro o j ho hm
    obtain ⟨e, he, hb, h1⟩ := h.bfs i o j ho hm
    have hlt := h.dn i o e ho he hb
    rcases h1 with h1 | h1
    · omega
    · obtain ⟨o', ho'⟩ : ∃ o', ops[e.on]? = some o' := ⟨_, List.getElem?_eq_getElem (by have := (List.getElem?_eq_some_iff.1 ho).1; omega)⟩
      have := ih e.on hlt o' j ho' h1
      omega
theorem cls_cases (ops : List Oper) (bf : List Nat) (i : Nat) (o : Oper) (bi : Nat) : (quietOp P o.op = true ∧ clsOf P ops bf i o bi = .quiet) ∨ (quietOp P o.op = false ∧ rdB ops bf i o bi = true ∧ clsOf P ops bf i o bi = .rd bi) ∨ ((quietOp P o.op = false ∧ rdB ops bf i o bi = false) ∧ clsOf P ops bf i o bi = .bar bi) ∨ ((quietOp P o.op = false ∧ rdB ops bf i o bi = false) ∧ clsOf P ops bf i o bi = .free bi) := by
  unfold clsOf
  split
  · rename_i h; exact .inl ⟨h, rfl⟩
  · rename_i h
    split
    · rename_i h2; exact .inr (.inl ⟨by simpa using h, h2, rfl⟩)
    · rename_i h2
      split
      · exact .inr (.inr (.inl ⟨⟨by simpa using h, by simpa using h2⟩, rfl⟩))
      · exact .inr (.inr (.inr ⟨⟨by simpa using h, by simpa using h2⟩, rfl⟩))
theorem cls_bar {ops : List Oper} {bf : List Nat} (hl : bf.length = ops.length) {i : Nat} {o : Oper} {bi : Nat} {m : Nat} (h : clsOf P ops bf i o bi = .bar m) {j : Nat} {y : Oper} (hy : ops[j]? = some y) (hq : quietOp P y.op = false) (hr : rdB ops bf j y (bf.getD j 0) = false) (hne : j ≠ i) : inMask (bf.getD j 0) i = true ∨ inMask bi j = true := by
  unfold clsOf at h
  split at h
  · cases h
  · split at h
    · cases h
    split at h
    · rename_i ha
      have hj : j < bf.length := by rw [hl]; exact (List.getElem?_eq_some_iff.1 hy).1
      have hz : (ops.zip bf)[j]? = some (y, bf[j]) := List.getElem?_zip_eq_some.2 ⟨hy, List.getElem?_eq_getElem hj⟩
      have := List.all_eq_true.1 ha ((y, bf[j]), j) (List.mem_zipIdx_iff_getElem?.2 hz)
      dsimp only at this
      have eb : bf.getD j 0 = bf[j] := by rw [List.getD_eq_getElem?_getD, List.getElem?_eq_getElem hj]; rfl
      rw [eb] at hr
      rw [hq, show (j == i) = false from by simp [hne], Bool.false_or, Bool.false_or, hr, Bool.or_false, Bool.or_eq_true] at this
      rw [eb]
      exact this
    · cases h
/-! Blocks, laid. -/
noncomputable def layT : List (Nat × Blk) → Tr Blk → Tr Blk
  | [], t => t
  | e :: d, t => layT d (t.set (path e.1) (some e.2))
theorem layK_eq : ∀ (d : List (Nat × Blk)) (t : Tr Blk) (k : Tr Blk → Ans), layK d t k = k (layT d t)
  | [], t, k => rfl
  | e :: d, t, k => by
    show t.setP (path e.1) (some e.2) (fun t => layK d t k) = _
    rw [setP_eq, layK_eq d]; rfl
theorem layT_get : ∀ {d : List (Nat × Blk)} {t : Tr Blk} {b : Nat} {x : Blk}, (layT d t).get (path b) = some x → t.get (path b) = some x ∨ (b, x) ∈ d
  | [], t, b, x, h => .inl h
  | e :: d, t, b, x, h => by
    rcases layT_get (d := d) h with h | h
    · rw [get_set] at h
      split at h
      · rename_i hp
        injection h with h
        have := path_inj hp
        exact .inr (by rw [this, ← h]; exact List.mem_cons_self ..)
      · exact .inl h
    · exact .inr (List.mem_cons_of_mem _ h)
noncomputable def flushT (anc : Nat → Bool) : Frees → Tr Blk → Tr Blk
  | [], t => t
  | e :: fs, t => flushT anc fs (if anc e.1 = true then layT e.2 t else t)
theorem flushK_eq (anc : Nat → Bool) : ∀ (fs : Frees) (t : Tr Blk) (k : Tr Blk → Ans), flushK fs anc t k = k (flushT anc fs t)
  | [], t, k => rfl
  | e :: fs, t, k => by
    show cnd (anc e.1) (layK e.2 t (fun t => flushK fs anc t k)) (flushK fs anc t k) = _
    rw [cnd_eq, layK_eq]
    unfold flushT
    split
    · exact flushK_eq anc fs _ k
    · exact flushK_eq anc fs t k
theorem flushT_get {anc : Nat → Bool} : ∀ {fs : Frees} {t : Tr Blk} {b : Nat} {x : Blk}, (flushT anc fs t).get (path b) = some x → t.get (path b) = some x ∨ ∃ e ∈ fs, anc e.1 = true ∧ (b, x) ∈ e.2
  | [], t, b, x, h => .inl h
  | e :: fs, t, b, x, h => by
    rcases flushT_get (fs := fs) h with h | ⟨e', h1, h2⟩
    · split at h
      · rename_i ha
        rcases layT_get h with h | h
        · exact .inl h
        · exact .inr ⟨e, List.mem_cons_self .., ha, h⟩
      · exact .inl h
    · exact .inr ⟨e', List.mem_cons_of_mem _ h1, h2⟩
noncomputable def flushH (fs : Frees) (h : Hp) : Hp := .mk (flushT (fun _ => true) fs h.tr) h.nx h.lo
theorem flushAll_eq (fs : Frees) (h : Hp) (k : Hp → Ans) : flushAll fs h k = k (flushH fs h) := by
  cases fs with
  | nil => cases h; rfl
  | cons e fs =>
    obtain ⟨t, n, l⟩ := h
    show flushK (e :: fs) (fun _ => true) t (fun t => k (.mk t n l)) = _
    rw [flushK_eq]; rfl
noncomputable def newsT (t : Tr Blk) : Nat → Nat → List (Nat × Blk)
  | _, 0 => []
  | n, m + 1 => match t.get (path n) with
    | none => newsT t (n + 1) m
    | some b => (n, b) :: newsT t (n + 1) m
theorem newsK_go (t : Tr Blk) : ∀ (m n : Nat) (k : List (Nat × Blk) → Ans), (Nat.rec (motive := fun _ => Nat → (List (Nat × Blk) → Ans) → Ans) (fun _ k => k [])
    (fun _ ih n k => fNat (Nat.succ n) fun n' => ih n' fun r => t.getP (path n) (k r) fun b => k ((n, b) :: r)) m n k : Ans) = k (newsT t n m)
  | 0, n, k => rfl
  | m + 1, n, k => by
    show fNat (Nat.succ n) _ = _
    rw [fNat_eq]
    refine (newsK_go t m (n + 1) _).trans ?_
    rw [getP_eq]
    show _ = k (match t.get (path n) with | none => newsT t (n + 1) m | some b => (n, b) :: newsT t (n + 1) m)
    cases t.get (path n) <;> rfl
theorem newsK_eq (t : Tr Blk) (n m : Nat) (k : List (Nat × Blk) → Ans) : newsK t n m k = k (newsT t n (m - n)) := newsK_go t (m - n) n k
theorem newsT_mem {t : Tr Blk} : ∀ {m n : Nat} {b : Nat} {x : Blk}, (b, x) ∈ newsT t n m → n ≤ b ∧ b < n + m ∧ t.get (path b) = some x
  | 0, n, b, x, h => by simp [newsT] at h
  | m + 1, n, b, x, h => by
    unfold newsT at h
    cases hg : t.get (path n) with
    | none => rw [hg] at h; have := newsT_mem (m := m) h; exact ⟨by omega, by omega, this.2.2⟩
    | some y =>
      rw [hg] at h
      rcases List.mem_cons.1 h with h | h
      · injection h with h1 h2; subst h1; subst h2; exact ⟨Nat.le_refl _, by omega, hg⟩
      · have := newsT_mem (m := m) h; exact ⟨by omega, by omega, this.2.2⟩
/-! One operation of a region with free ones. -/
theorem isBar_bare (keep : Nat) (o : Oper) (D : Dl) (now : Nat) : isBar (bareCO P keep o D now) = false := by
  unfold bareCO
  split <;> try rfl
  unfold bareOf
  split <;> rfl
theorem runFree_cons (callf : CallF) (o : CO) (os : List CO) (L : List AV) (env : Tr AV) (h : Hp) (fs : Frees) (Hs : List (Nat × Hp)) (Rs : Rds) (k : Tr AV → Hp → Ans) : runFree callf (o :: os) L env h fs Hs Rs k =
    if isBar o = true then doCO callf o L env (flushH fs h) [] (fun d v h _ => allRs (barM o) Rs h fun Rs => runFree callf os (v :: L) (putE d v env) h [] ((barIx o, h) :: Hs) Rs k) else
    if isRd o = true then doCO callf o L env h fs (fun d v h fs => allHs (rdM o) Hs (chkRd callf o L env v) (runFree callf os (v :: L) (putE d v env) h fs Hs ((rdIx o, chkRd callf o L env v) :: Rs) k)) else
    doCO callf o L env h fs (fun d v h fs => runFree callf os (v :: L) (putE d v env) h fs Hs Rs k) := by
  show cnd (isBar o) (flushAll fs h fun h => doCO callf o L env h [] fun d v h _ => allRs (barM o) Rs h fun Rs => putEnv d v env fun env => runFree callf os (v :: L) env h [] ((barIx o, h) :: Hs) Rs k) (cnd (isRd o) (doCO callf o L env h fs fun d v h fs => allHs (rdM o) Hs (chkRd callf o L env v) (putEnv d v env fun env2 => runFree callf os (v :: L) env2 h fs Hs ((rdIx o, chkRd callf o L env v) :: Rs) k)) (doCO callf o L env h fs fun d v h fs => putEnv d v env fun env => runFree callf os (v :: L) env h fs Hs Rs k)) = _
  rw [cnd_eq, cnd_eq, flushAll_eq]
  simp only [putEnv_eq]
theorem isRd_bare (keep : Nat) (o : Oper) (D : Dl) (now : Nat) : isRd (bareCO P keep o D now) = false := by
  unfold bareCO
  split <;> try rfl
  unfold bareOf
  split <;> rfl
theorem isRd_mk {ops : List Oper} {keep : Nat} {o : Oper} {D : Dl} {now : Nat} {cls : Cls} {i : Nat} (h : ∀ m, cls ≠ .rd m) : isRd (mkCO P ops keep o D now cls i) = false := by
  unfold mkCO
  split
  · cases cls with
    | quiet => exact isRd_bare keep o D now
    | bar m => rfl
    | free anc => rfl
    | rd m => exact absurd rfl (h m)
  · split <;> rfl
theorem isBar_mk {ops : List Oper} {keep : Nat} {o : Oper} {D : Dl} {now : Nat} {cls : Cls} {i : Nat} : ((∀ m, cls ≠ .bar m) → isBar (mkCO P ops keep o D now cls i) = false) ∧ (∀ m, cls = .bar m → (isBar (mkCO P ops keep o D now cls i) = true ∧ barM (mkCO P ops keep o D now cls i) = m ∧ barIx (mkCO P ops keep o D now cls i) = i) ∨ mkCO P ops keep o D now cls i = .bad 182) := by
  have h1 : (∀ m, cls ≠ .bar m) → isBar (clCO cls i (bareCO P keep o D now)) = false := fun h => by
    cases cls with
    | quiet => exact isBar_bare keep o D now
    | bar m => exact absurd rfl (h m)
    | free anc => rfl
    | rd m => rfl
  unfold mkCO
  split
  · exact ⟨h1, fun m h => by subst h; exact .inl ⟨rfl, rfl, rfl⟩⟩
  · split
    · exact ⟨h1, fun m h => by subst h; exact .inl ⟨rfl, rfl, rfl⟩⟩
    · exact ⟨fun _ => rfl, fun _ _ => .inr rfl⟩
theorem mkCO_free {callf : CallF} (hcall : CallSound P callf) {keep : Nat} {ops : List Oper} {o : Oper} {anc i : Nat} {D : Dl} {now : Nat} {L : List AV} {env : Tr AV} {cv : Cv} (hl : Loc P D now L env cv) {h : Hp} {fs : Frees} {k : Option Pa → AV → Hp → Frees → Ans}
    (H : doCO callf (mkCO P ops keep o D now (.free anc) i) L env h fs k = .yes) :
    (∃ v O, wantedA ops cv o = some true ∧ Acts P o cv (.mk (flushT (fun j => inMask anc j) fs h.tr) h.nx h.nx) v O ∧ O.lo = h.nx ∧ h.nx ≤ O.nx ∧ k (dstP keep o) v (.mk h.tr O.nx h.lo) ((i, newsT O.tr h.nx (O.nx - h.nx)) :: fs) = .yes) ∨
    (wantedA ops cv o = some false ∧ k (dstP keep o) (.tup []) h fs = .yes) := by
  have hb : doCO callf (clCO (.free anc) i (bareCO P keep o D now)) L env h fs k = .yes → ∃ v O, Acts P o cv (.mk (flushT (fun j => inMask anc j) fs h.tr) h.nx h.nx) v O ∧ O.lo = h.nx ∧ h.nx ≤ O.nx ∧ k (dstP keep o) v (.mk h.tr O.nx h.lo) ((i, newsT O.tr h.nx (O.nx - h.nx)) :: fs) = .yes := fun H => by
    obtain ⟨t, n, low⟩ := h
    replace H : flushK fs (fun j => inMask anc j) t (fun t' => doCO callf (bareCO P keep o D now) L env (.mk t' n n) [] fun d v h' _ => match h' with
      | .mk t'' n' low' => cnd (Nat.beq low' n) (cnd (Nat.ble n n') (newsK t'' n n' fun d' => k d v (.mk t n' low) ((i, d') :: fs)) (.no 156)) (.no 154)) = .yes := H
    rw [flushK_eq] at H
    obtain ⟨v, O, H1, ha⟩ := bare_yes hcall hl H
    obtain ⟨t'', n', low'⟩ := O
    dsimp only at H1
    obtain ⟨h1, H2⟩ := cnd_yes H1
    obtain ⟨h2, H3⟩ := cnd_yes H2
    rw [newsK_eq] at H3
    exact ⟨v, _, ha, Nat.eq_of_beq_eq_true h1, Nat.le_of_ble_eq_true h2, H3⟩
  unfold mkCO at H
  split at H
  · rename_i hg
    obtain ⟨v, O, h1, h2, h3, h4⟩ := hb H
    exact .inl ⟨v, O, by unfold wantedA; rw [hg], h1, h2, h3, h4⟩
  · rename_i g want hg
    split at H
    · rename_i d hd
      replace H : rfK (resolveD D now d) L env (fun v => doCO.onGuard v want (doCO callf (clCO (.free anc) i (bareCO P keep o D now)) L env h fs k) (k (dstP keep o) (.tup []) h fs)) = .yes := H
      obtain ⟨x, H1, hx⟩ := rfK_yes H
      have hcx := hl.res d x hx
      have hw : wantedA ops cv o = wantV want x := by
        unfold wantedA
        rw [hg]
        dsimp only
        rw [hd]
        dsimp only
        rw [hcx]
        cases x <;> rfl
      unfold doCO.onGuard at H1
      split at H1
      · rename_i b
        rw [cnd_eq] at H1
        split at H1
        · rename_i hbw
          obtain ⟨v, O, h1, h2, h3, h4⟩ := hb H1
          exact .inl ⟨v, O, by rw [hw]; show some (b == want) = _; rw [hbw], h1, h2, h3, h4⟩
        · rename_i hbw
          exact .inr ⟨by rw [hw]; show some (b == want) = _; rw [Bool.eq_false_iff.2 hbw], H1⟩
      · exact .inr ⟨by rw [hw]; rfl, H1⟩
      · cases H1
    · cases H
theorem eqNs_eq : ∀ {l m : List Nat}, eqNs l m = true → l = m
  | [], [], _ => rfl
  | [], _ :: _, h => by cases h
  | _ :: _, [], h => by cases h
  | x :: xs, y :: ys, h => by
    unfold eqNs at h
    rw [Bool.and_eq_true] at h
    rw [Nat.eq_of_beq_eq_true h.1, eqNs_eq h.2]
theorem eqA1_eq {a b : AV} (h : eqA1 a b = true) : a = b := by
  unfold eqA1 at h
  split at h <;> first | (cases h; done) | rfl | skip
  · rw [Nat.eq_of_beq_eq_true h]
  · rw [Nat.eq_of_beq_eq_true h]
  · rw [eq_of_beq h]
  · rw [Bool.and_eq_true] at h
    rw [Nat.eq_of_beq_eq_true h.1, eqNs_eq h.2]
  · rw [Bool.and_eq_true] at h
    rw [of_decide_eq_true h.1, of_decide_eq_true h.2]
  · rw [Nat.eq_of_beq_eq_true h]
  · rw [Bool.and_eq_true] at h
    rw [Nat.eq_of_beq_eq_true h.1, Nat.eq_of_beq_eq_true h.2]
  · rw [Bool.and_eq_true] at h
    rw [Nat.eq_of_beq_eq_true h.1, Nat.eq_of_beq_eq_true h.2]
  · simp only [Bool.and_eq_true] at h
    obtain ⟨⟨⟨⟨h1, h2⟩, h3⟩, h4⟩, h5⟩ := h
    rw [Nat.eq_of_beq_eq_true h1, Nat.eq_of_beq_eq_true h2, Nat.eq_of_beq_eq_true h3, eq_of_beq h4, Nat.eq_of_beq_eq_true h5]
  · rw [Nat.eq_of_beq_eq_true h]
theorem eqAL_eq : ∀ {l m : List AV}, eqAL l m = true → l = m
  | [], [], _ => rfl
  | [], _ :: _, h => by cases h
  | _ :: _, [], h => by cases h
  | x :: xs, y :: ys, h => by
    unfold eqAL at h
    rw [Bool.and_eq_true] at h
    rw [eqA1_eq h.1, eqAL_eq h.2]
theorem eqA_eq {a b : AV} (h : eqA a b = true) : a = b := by
  unfold eqA at h
  split at h
  · rw [eqAL_eq h]
  · rw [eqAL_eq h]
  · exact eqA1_eq h
theorem rdB_guard {ops : List Oper} {bf : List Nat} {j : Nat} {y : Oper} {bj : Nat} (h : rdB ops bf j y bj = true) : y.guard = none := by
  unfold rdB at h
  rw [Bool.and_eq_true, Bool.and_eq_true] at h
  exact Option.isNone_iff_eq_none.1 h.1.2
theorem rdCO_yes {callf : CallF} (hcall : CallSound P callf) {keep m : Nat} {ops : List Oper} {o : Oper} {i : Nat} (hg : o.guard = none) {D : Dl} {now : Nat} {L : List AV} {env : Tr AV} {cv : Cv} (hl : Loc P D now L env cv) {h : Hp} {fs : Frees} {k : Option Pa → AV → Hp → Frees → Ans}
    (H : doCO callf (mkCO P ops keep o D now (.rd m) i) L env h fs k = .yes) : ∃ v xs, k (dstP keep o) v h fs = .yes ∧ opnds P cv o.op.operands.toList = some xs ∧ lowA h.nx v = true ∧ ReadIn P o xs v h := by
  obtain ⟨t, n, low⟩ := h
  have e : mkCO P ops keep o D now (.rd m) i = .rd i m (bareCO P keep o D now) := by unfold mkCO; rw [hg]; rfl
  rw [e] at H
  replace H : doCO callf (bareCO P keep o D now) L env (.mk t bigN bigN) [] (fun d v h' _ => doCO.sameBig h' (doCO.lowOk v (.mk t n low) (k d v (.mk t n low) fs))) = .yes := H
  obtain ⟨v, O, H1, xs, hx, ho, -⟩ := bare_yes hcall hl H
  obtain ⟨t', n', l'⟩ := O
  replace H1 : cnd (Nat.beq n' bigN) (cnd (Nat.beq l' bigN) (cnd (Nat.ble n bigN) (cnd (lowA n v) (k (dstP keep o) v (.mk t n low) fs) (.no 233)) (.no 234)) (.no 231)) (.no 232) = .yes := H1
  obtain ⟨h1, H2⟩ := cnd_yes H1
  obtain ⟨h2, H3⟩ := cnd_yes H2
  obtain ⟨h3, H4⟩ := cnd_yes H3
  obtain ⟨h4, H5⟩ := cnd_yes H4
  exact ⟨v, xs, H5, hx, h4, Nat.le_of_ble_eq_true h3, .mk t' n' l', Nat.eq_of_beq_eq_true h1, Nat.eq_of_beq_eq_true h2, ho⟩
theorem chkRd_yes {callf : CallF} (hcall : CallSound P callf) {keep m : Nat} {ops : List Oper} {o : Oper} {i : Nat} (hg : o.guard = none) {D : Dl} {now : Nat} {L : List AV} {env : Tr AV} {cv : Cv} (hl : Loc P D now L env cv) {H : Hp} {x : Ans} {v : AV} {xs : List AV} (hx : opnds P cv o.op.operands.toList = some xs)
    (C : chkRd callf (mkCO P ops keep o D now (.rd m) i) L env v H x = .yes) : x = .yes ∧ ReadIn P o xs v H := by
  obtain ⟨v', xs', h1, h2, -, h3⟩ := rdCO_yes hcall hg hl C
  obtain ⟨h4, h5⟩ := cnd_yes h1
  obtain rfl := eqA_eq h4
  rw [hx] at h2; injection h2 with h2; subst h2
  exact ⟨h5, h3⟩
theorem rdIx_mk {ops : List Oper} {keep m : Nat} {o : Oper} {D : Dl} {now : Nat} {i : Nat} (hg : o.guard = none) : rdIx (mkCO P ops keep o D now (.rd m) i) = i ∧ isRd (mkCO P ops keep o D now (.rd m) i) = true ∧ rdM (mkCO P ops keep o D now (.rd m) i) = m := by
  unfold mkCO; rw [hg]; exact ⟨rfl, rfl, rfl⟩
def HsR (f : Rcs) (h0 : Hp) : List (Nat × Hp) → Nat → Prop
  | [], _ => False
  | e :: Hs, i => (Hs = [] ∧ (∀ k, k < i → (f k).2.isBar = false) ∧ e.2.tr = h0.tr ∧ e.2.nx = h0.nx) ∨
    (e.1 < i ∧ (f e.1).2.isBar = true ∧ (∀ k, e.1 < k → k < i → (f k).2.isBar = false) ∧ e.2.tr = (bsU h0 f (e.1 + 1)).tr ∧ e.2.nx = nxU h0 f (e.1 + 1) ∧ HsR f h0 Hs e.1)
theorem allHs_yes {f : Rcs} {h0 : Hp} {m : Nat} {c : Hp → Ans → Ans} {x : Ans} {Q : Hp → Prop} (hc : ∀ H y, c H y = .yes → y = .yes ∧ Q H) : ∀ {Hs : List (Nat × Hp)} {i : Nat}, HsR f h0 Hs i → allHs m Hs c x = .yes → x = .yes ∧ ∀ cc, cc ≤ i → CutAt f cc → (∀ k, (f k).2.isBar = true → inMask m k = true → k < i → k < cc) → ∃ H, Q H ∧ H.tr = (bsU h0 f cc).tr ∧ H.nx = nxU h0 f cc
  | [], _, hr, _ => hr.elim
  | e :: Hs, i, hr, h => by
    obtain ⟨h1, h2⟩ := hc e.2 _ (show c e.2 (cnd (inMask m e.1) x (allHs m Hs c x)) = .yes from h)
    rw [cnd_eq] at h1
    rcases hr with ⟨rfl, g1, g2, g3⟩ | ⟨g1, g2, g3, g4, g5, g6⟩
    · have hx : x = .yes := by split at h1 <;> exact h1
      refine ⟨hx, fun cc hcc hcut _ => ⟨e.2, h2, ?_⟩⟩
      rcases hcut with rfl | ⟨d, rfl, hd⟩
      · exact ⟨g2, g3⟩
      · rw [g1 d (by omega)] at hd; cases hd
    · have hh : x = .yes ∧ ∀ cc, cc ≤ e.1 → CutAt f cc → (∀ k, (f k).2.isBar = true → inMask m k = true → k < i → k < cc) → ∃ H, Q H ∧ H.tr = (bsU h0 f cc).tr ∧ H.nx = nxU h0 f cc := by
        split at h1
        · rename_i hm
          exact ⟨h1, fun cc hcc _ hk => by have := hk e.1 g2 hm g1; omega⟩
        · obtain ⟨p1, p2⟩ := allHs_yes hc g6 h1
          exact ⟨p1, fun cc hcc hcut hk => p2 cc hcc hcut fun k a b c => hk k a b (by omega)⟩
      refine ⟨hh.1, fun cc hcc hcut hk => ?_⟩
      by_cases hce : cc ≤ e.1
      · exact hh.2 cc hce hcut hk
      · rcases hcut with rfl | ⟨d, rfl, hd⟩
        · omega
        · have : d = e.1 := Classical.byContradiction fun hne => by rw [g3 d (by omega) (by omega)] at hd; cases hd
          subst this
          exact ⟨e.2, h2, g4, g5⟩
def RdQ (Q : Nat → Hp → Prop) (Rs : Rds) : Prop := ∀ e ∈ Rs, ∀ H y, e.2 H y = .yes → y = .yes ∧ Q e.1 H
theorem allRs_yes {m : Nat} {h : Hp} {Q : Nat → Hp → Prop} : ∀ {Rs : Rds} {k : Rds → Ans}, RdQ Q Rs → allRs m Rs h k = .yes → ∃ Rs', k Rs' = .yes ∧ (∀ e ∈ Rs', e ∈ Rs) ∧ ∀ e ∈ Rs, inMask m e.1 = true ∨ (e ∈ Rs' ∧ Q e.1 h)
  | [], k, _, H => ⟨[], H, fun e h => h, fun e h => by cases h⟩
  | e :: Rs, k, hq, H => by
    have hq' : RdQ Q Rs := fun e' he' => hq e' (List.mem_cons_of_mem _ he')
    replace H : cnd (inMask m e.1) (allRs m Rs h k) (e.2 h (allRs m Rs h fun r => k (e :: r))) = .yes := H
    rw [cnd_eq] at H
    split at H
    · rename_i hm
      obtain ⟨Rs', h1, h2, h3⟩ := allRs_yes hq' H
      refine ⟨Rs', h1, fun e' he' => List.mem_cons_of_mem _ (h2 e' he'), fun e' he' => ?_⟩
      rcases List.mem_cons.1 he' with rfl | he'
      · exact .inl hm
      · exact h3 e' he'
    · obtain ⟨h1, h2⟩ := hq e (List.mem_cons_self ..) _ _ H
      obtain ⟨Rs', h3, h4, h5⟩ := allRs_yes hq' h1
      refine ⟨e :: Rs', h3, fun e' he' => ?_, fun e' he' => ?_⟩
      · rcases List.mem_cons.1 he' with rfl | he'
        · exact List.mem_cons_self ..
        · exact List.mem_cons_of_mem _ (h4 e' he')
      · rcases List.mem_cons.1 he' with rfl | he'
        · exact .inr ⟨List.mem_cons_self .., h2⟩
        · exact (h5 e' he').imp id fun h => ⟨List.mem_cons_of_mem _ h.1, h.2⟩
end Go.Ev
end
/- The evaluator's regions do what is said. -/
section
set_option linter.unusedVariables false
set_option linter.unusedSectionVars false
set_option linter.unusedSimpArgs false
namespace Go.Ev
variable [Sg] [Sl]
open Go.RowKit
variable {P : Program}

section
variable {ops : List Oper} {bf : List Nat} {cv0 : Cv} {h0 : Hp} {f f' : Rcs} {i : Nat} {o : Oper}
theorem cvU_congr : ∀ i, (∀ k, k < i → f k = f' k) → cvU cv0 ops f i = cvU cv0 ops f' i
  | 0, _ => rfl
  | i + 1, h => by unfold cvU; rw [cvU_congr i (fun k hk => h k (by omega)), h i (by omega)]
theorem nxU_congr : ∀ i, (∀ k, k < i → f k = f' k) → nxU h0 f i = nxU h0 f' i
  | 0, _ => rfl
  | i + 1, h => by unfold nxU; rw [nxU_congr i (fun k hk => h k (by omega)), h i (by omega)]
theorem bsU_congr : ∀ i, (∀ k, k < i → f k = f' k) → bsU h0 f i = bsU h0 f' i
  | 0, _ => rfl
  | i + 1, h => by unfold bsU; rw [bsU_congr i (fun k hk => h k (by omega)), h i (by omega)]
theorem Src.congr {p : Nat → Bool} {b : Hp} {t : Tr Blk} (h : ∀ k, k < i → f k = f' k) (s : Src f p i b t) : Src f' p i b t := fun n x hx => by
  rcases s n x hx with h1 | ⟨j, I, O, h1, h2, h3, h4, h5⟩
  · exact .inl h1
  · exact .inr ⟨j, I, O, h1, h2, by rw [← h j h1]; exact h3, fun k a c => by rw [← h k c]; exact h4 k a c, h5⟩
theorem CutAt.congr {c : Nat} (h : ∀ k, k < c → f k = f' k) (hc : CutAt f' c) : CutAt f c := by
  rcases hc with hc | ⟨d, hd, hb⟩
  · exact .inl hc
  · exact .inr ⟨d, hd, by rw [h d (by omega)]; exact hb⟩
theorem ReadTo.congr {m : Nat} (op : Opn ops bf) (ho : ops[i]? = some o) (hm : ∀ k, k < m → f k = f' k) (him : i < m) (r : ReadTo P ops bf cv0 h0 f m i o) : ReadTo P ops bf cv0 h0 f' m i o := by
  have hl : ∀ k, k < i → f k = f' k := fun k hk => hm k (by omega)
  obtain ⟨h1, v, xs, h2, h3, h4, h5, h6⟩ := r
  rw [cvU_congr (cv0 := cv0) (ops := ops) i hl] at h1 h3
  rw [nxU_congr (h0 := h0) i hl] at h4 h5
  refine ⟨h1, v, xs, by rw [← hm i him]; exact h2, h3, h4, h5, fun c hc hcut hkb hk => ?_⟩
  have hlc : ∀ k, k < c → f k = f' k := fun k hk => hm k (by omega)
  rw [← bsU_congr (h0 := h0) c hlc, ← nxU_congr (h0 := h0) c hlc]
  refine h6 c hc (hcut.congr hlc) (fun k hb hkm => ?_) fun k hkc hb => hk k hkc (by rw [← hlc k hkc]; exact hb)
  have hki : k < i := op.lt i o k ho hkm
  exact hkb k (by rw [← hl k hki]; exact hb) hkm
theorem RcAt.congr {m : Nat} (op : Opn ops bf) (ho : ops[i]? = some o) (h : ∀ k, k < m → f k = f' k) (him : i < m) (r : RcAt P ops bf cv0 h0 f m i o) : RcAt P ops bf cv0 h0 f' m i o := by
  have hl : ∀ k, k < i → f k = f' k := fun k hk => h k (by omega)
  have e := h i him
  have e1 := cvU_congr (cv0 := cv0) (ops := ops) i hl
  have e2 := nxU_congr (h0 := h0) i hl
  have e3 := bsU_congr (h0 := h0) i hl
  refine ⟨fun hk => ?_, fun I O hk => ?_, fun I O hk => ?_, fun hk j hj hc hb => ?_⟩
  · rw [← e] at hk
    rcases r.calm hk with hc | hc
    · left; rw [← e, ← e1]; exact hc
    · exact .inr (hc.congr op ho h him)
  · rw [← e] at hk ⊢
    rw [← e1, ← e2, ← e3]
    obtain ⟨h1, h2, h3, h4⟩ := r.bar I O hk
    exact ⟨h1, h2, h3.congr hl, h4⟩
  · rw [← e] at hk ⊢
    rw [← e1, ← e2, ← e3]
    obtain ⟨h2, h3, h4⟩ := r.free I O hk
    exact ⟨h2, h3.congr hl, h4⟩
  · rw [← e] at hk hb
    rw [← h j (by omega)] at hc hb
    exact r.ord hk j hj hc hb
def setR (f : Rcs) (i : Nat) (r : Option AV × Kd) : Rcs := fun j => if j = i then r else f j
theorem setR_same (f : Rcs) (i : Nat) (r : Option AV × Kd) : setR f i r i = r := if_pos rfl
theorem setR_ne {f : Rcs} {i j : Nat} {r : Option AV × Kd} (h : j ≠ i) : setR f i r j = f j := if_neg h
theorem setR_lt (f : Rcs) (i : Nat) (r : Option AV × Kd) : ∀ k, k < i → f k = setR f i r k := fun k h => (setR_ne (by omega)).symm
structure St (P : Program) (ops : List Oper) (bf : List Nat) (cv0 : Cv) (h0 : Hp) (f : Rcs) (i : Nat) (h : Hp) (fs : Frees) : Prop where
  le : i ≤ ops.length
  nx : h.nx = nxU h0 f i
  tr : h.tr = (bsU h0 f i).tr
  lo : h.lo = (bsU h0 f i).lo
  fs : ∀ e ∈ fs, ∃ I O, e.1 < i ∧ (f e.1).2 = .free I O ∧ (∀ k, e.1 ≤ k → k < i → (f k).2.isBar = false) ∧ ∀ b x, (b, x) ∈ e.2 → I.nx ≤ b ∧ b < O.nx ∧ O.tr.get (path b) = some x
  rc : ∀ j o, j < i → ops[j]? = some o → RcAt P ops bf cv0 h0 f i j o
  cls : ∀ j o, j < i → ops[j]? = some o → (f j).2.isCalm = false → (quietOp P o.op = false ∧ rdB ops bf j o (bf.getD j 0) = false) ∧ ((f j).2.isBar = true → clsOf P ops bf j o (bf.getD j 0) = .bar (bf.getD j 0))
  out : ∀ j, i ≤ j → (f j).2 = .calm
theorem St.src {h : Hp} {fs : Frees} (s : St P ops bf cv0 h0 f i h fs) (p : Nat → Bool) : Src f p i (bsU h0 f i) (flushT p fs h.tr) := fun b x hx => by
  rcases flushT_get hx with h1 | ⟨e, h1, h2, h3⟩
  · rw [s.tr] at h1; exact .inl h1
  · obtain ⟨I, O, h4, h5, h6, h7⟩ := s.fs e h1
    exact .inr ⟨e.1, I, O, h4, h2, h5, h6, h7 b x h3⟩
theorem St.ord (op : Opn ops bf) {h : Hp} {fs : Frees} (s : St P ops bf cv0 h0 f i h fs) (ho : ops[i]? = some o) {r : Option AV × Kd} (hcls : r.2.isCalm = false → (quietOp P o.op = false ∧ rdB ops bf i o (bf.getD i 0) = false) ∧ (r.2.isBar = true → clsOf P ops bf i o (bf.getD i 0) = .bar (bf.getD i 0))) :
    (setR f i r i).2.isCalm = false → ∀ j, j < i → (setR f i r j).2.isCalm = false → ((setR f i r i).2.isBar = true ∨ (setR f i r j).2.isBar = true) → inMask (bf.getD i 0) j = true := by
  intro hc j hj hcj hb
  rw [setR_same] at hc hb
  rw [setR_ne (by omega)] at hcj hb
  obtain ⟨y, hy⟩ : ∃ y, ops[j]? = some y := ⟨_, List.getElem?_eq_getElem (by have := s.le; omega)⟩
  obtain ⟨q1, q2⟩ := hcls hc
  obtain ⟨q3, q4⟩ := s.cls j y hj hy hcj
  have no : inMask (bf.getD j 0) i = true → False := fun h => by have := op.lt j y i hy h; omega
  rcases hb with hb | hb
  · rcases cls_bar op.len (q2 hb) hy q3.1 q3.2 (by omega) with h | h
    · exact (no h).elim
    · exact h
  · rcases cls_bar op.len (q4 hb) ho q1.1 q1.2 (by omega) with h | h
    · exact h
    · exact (no h).elim
theorem St.next (op : Opn ops bf) {h h' : Hp} {fs fs' : Frees} (s : St P ops bf cv0 h0 f i h fs) (ho : ops[i]? = some o) {r : Option AV × Kd} (hrc : RcAt P ops bf cv0 h0 (setR f i r) (i + 1) i o)
    (hup : r.2.isBar = true → ∀ j o', j < i → ops[j]? = some o' → (f j).2 = .calm → CalmAt P ops o' (cvU cv0 ops f j) (f j).1 ∨ (∃ k, k < i + 1 ∧ (setR f i r k).2.isBar = true ∧ inMask (bf.getD k 0) j = true) ∨ ∃ v xs, (f j).1 = some v ∧ opnds P (cvU cv0 ops f j) o'.op.operands.toList = some xs ∧ ReadIn P o' xs v h')
    (hcls : r.2.isCalm = false → (quietOp P o.op = false ∧ rdB ops bf i o (bf.getD i 0) = false) ∧ (r.2.isBar = true → clsOf P ops bf i o (bf.getD i 0) = .bar (bf.getD i 0)))
    (h1 : h'.nx = r.2.nx h.nx) (h2 : h'.tr = (r.2.bs h).tr) (h3 : h'.lo = (r.2.bs h).lo)
    (h4 : ∀ e ∈ fs', (e ∈ fs ∧ r.2.isBar = false) ∨ ∃ I O, e.1 = i ∧ r.2 = .free I O ∧ ∀ b x, (b, x) ∈ e.2 → I.nx ≤ b ∧ b < O.nx ∧ O.tr.get (path b) = some x) : St P ops bf cv0 h0 (setR f i r) (i + 1) h' fs' := by
  have hl := setR_lt f i r
  have enx : nxU h0 (setR f i r) (i + 1) = r.2.nx h.nx := by
    show (setR f i r i).2.nx (nxU h0 (setR f i r) i) = _
    rw [setR_same, ← nxU_congr i hl, s.nx]
  have ebs : ∀ (g : Hp → Tr Blk), (g = Hp.tr) → g (bsU h0 (setR f i r) (i + 1)) = g (r.2.bs h) := fun g hg => by
    subst hg
    show ((setR f i r i).2.bs (bsU h0 (setR f i r) i)).tr = _
    rw [setR_same, ← bsU_congr i hl]
    cases r.2 with
    | bar I O => rfl
    | calm => exact s.tr.symm
    | free I O => exact s.tr.symm
  have elo : (bsU h0 (setR f i r) (i + 1)).lo = (r.2.bs h).lo := by
    show ((setR f i r i).2.bs (bsU h0 (setR f i r) i)).lo = _
    rw [setR_same, ← bsU_congr i hl]
    cases r.2 with
    | bar I O => rfl
    | calm => exact s.lo.symm
    | free I O => exact s.lo.symm
  refine ⟨(List.getElem?_eq_some_iff.1 ho).1, by rw [enx, h1], by rw [ebs _ rfl, h2], by rw [elo, h3], fun e he => ?_, fun j o' hj ho' => ?_, fun j o' hj ho' hc => ?_, fun j hj => ?_⟩
  · rcases h4 e he with ⟨he, hb⟩ | ⟨I, O, h5, h6, h7⟩
    · obtain ⟨I, O, h5, h6, h7, h8⟩ := s.fs e he
      refine ⟨I, O, by omega, by rw [setR_ne (by omega)]; exact h6, fun k a b => ?_, h8⟩
      by_cases hk : k = i
      · rw [hk, setR_same]; exact hb
      · rw [setR_ne hk]; exact h7 k a (by omega)
    · refine ⟨I, O, by omega, by rw [h5, setR_same]; exact h6, fun k a b => ?_, h7⟩
      rw [show k = i by omega, setR_same, h6]; rfl
  · by_cases e : j = i
    · subst e; rw [ho] at ho'; injection ho' with ho'; subst ho'; exact hrc
    · have hj' : j < i := by omega
      have hrj := (s.rc j o' hj' ho').congr (f' := setR f i r) op ho' hl hj'
      refine ⟨fun hk => ?_, hrj.bar, hrj.free, hrj.ord⟩
      have hk' : (f j).2 = .calm := by rw [setR_ne (by omega)] at hk; exact hk
      have ecj : cvU cv0 ops (setR f i r) j = cvU cv0 ops f j := (cvU_congr j (fun k hk => hl k (by omega))).symm
      rcases hrj.calm hk with hc | hc
      · exact .inl hc
      · by_cases hca : CalmAt P ops o' (cvU cv0 ops f j) (f j).1
        · left; rw [ecj, setR_ne (by omega)]; exact hca
        right
        obtain ⟨g1, v, xs, g2, g3, g4, g5, g6⟩ := hc
        refine ⟨g1, v, xs, g2, g3, g4, g5, fun c hc hcut hkb hkk => ?_⟩
        by_cases hci : c ≤ i
        · exact g6 c hci hcut hkb hkk
        · obtain rfl : c = i + 1 := by omega
          rcases hcut with h | ⟨d, hd, hb⟩
          · omega
          · have hdi : d = i := by omega
            rw [hdi] at hb
            have hb' : r.2.isBar = true := by rw [setR_same] at hb; exact hb
            rcases hup hb' j o' hj' ho' hk' with hm | ⟨k, hk1, hk2, hm⟩ | ⟨v', xs', p1, p2, p3⟩
            · exact absurd hm hca
            · rw [hkk k hk1 hk2] at hm; cases hm
            · rw [setR_ne (by omega), p1] at g2; injection g2 with g2; subst g2
              rw [ecj, p2] at g3; injection g3 with g3; subst g3
              have ht : (bsU h0 (setR f i r) (i + 1)).tr = h'.tr := by rw [ebs _ rfl, h2]
              exact ⟨by show nxU _ _ _ ≤ _; rw [enx, ← h1]; exact p3.nx, by rw [show (Hp.mk (bsU h0 (setR f i r) (i + 1)).tr (nxU h0 (setR f i r) (i + 1)) 0).tr = h'.tr from ht]; exact p3.does⟩
  · by_cases e : j = i
    · subst e; rw [ho] at ho'; injection ho' with ho'; subst ho'
      rw [setR_same] at hc ⊢; exact hcls hc
    · rw [setR_ne e] at hc ⊢; exact s.cls j o' (by omega) ho' hc
  · rw [setR_ne (by omega)]; exact s.out j (by omega)
end
structure Sr (P : Program) (ops : List Oper) (bf : List Nat) (cv0 : Cv) (h0 : Hp) (f : Rcs) (i : Nat) (Hs : List (Nat × Hp)) (Rs : Rds) : Prop where
  hs : HsR f h0 Hs i
  rs : RdQ (fun j H => ∃ o v xs, ops[j]? = some o ∧ (f j).1 = some v ∧ opnds P (cvU cv0 ops f j) o.op.operands.toList = some xs ∧ ReadIn P o xs v H) Rs
  lt : ∀ e ∈ Rs, e.1 < i
  all : ∀ j o, j < i → ops[j]? = some o → (f j).2 = .calm → CalmAt P ops o (cvU cv0 ops f j) (f j).1 ∨ (∃ k, k < i ∧ (f k).2.isBar = true ∧ inMask (bf.getD k 0) j = true) ∨ ∃ e ∈ Rs, e.1 = j
section
variable {ops : List Oper} {bf : List Nat} {cv0 : Cv} {h0 : Hp} {f : Rcs} {i : Nat} {o : Oper} {Hs : List (Nat × Hp)} {Rs : Rds}
theorem HsR.congr {f' : Rcs} : ∀ {Hs : List (Nat × Hp)} {i : Nat}, (∀ k, k < i → f k = f' k) → HsR f h0 Hs i → HsR f' h0 Hs i
  | [], _, _, h => h
  | e :: Hs, i, hl, h => by
    rcases h with ⟨h1, h2, h3⟩ | ⟨h1, h2, h3, h4, h5, h6⟩
    · exact .inl ⟨h1, fun k hk => by rw [← hl k hk]; exact h2 k hk, h3⟩
    · have hl' : ∀ k, k < e.1 + 1 → f k = f' k := fun k hk => hl k (by omega)
      refine .inr ⟨h1, by rw [← hl e.1 h1]; exact h2, fun k a b => by rw [← hl k b]; exact h3 k a b, ?_, ?_, h6.congr fun k hk => hl k (by omega)⟩
      · rw [← bsU_congr (h0 := h0) _ hl']; exact h4
      · rw [← nxU_congr (h0 := h0) _ hl']; exact h5
theorem HsR.succ (hb : (f i).2.isBar = false) : ∀ {Hs : List (Nat × Hp)}, HsR f h0 Hs i → HsR f h0 Hs (i + 1)
  | [], h => h
  | e :: Hs, h => by
    have up : ∀ {k}, k < i + 1 → k < i ∨ k = i := fun {k} h => by omega
    rcases h with ⟨h1, h2, h3⟩ | ⟨h1, h2, h3, h4⟩
    · exact .inl ⟨h1, fun k hk => by
        rcases up hk with h | rfl
        · exact h2 k h
        · exact hb, h3⟩
    · exact .inr ⟨by omega, h2, fun k a b => by
        rcases up b with h | rfl
        · exact h3 k a h
        · exact hb, h4⟩
theorem Sr.old {r : Option AV × Kd} (s : Sr P ops bf cv0 h0 f i Hs Rs) : HsR (setR f i r) h0 Hs i := s.hs.congr fun k hk => setR_lt f i r k hk
theorem Sr.rs_ {r : Option AV × Kd} (s : Sr P ops bf cv0 h0 f i Hs Rs) : RdQ (fun j H => ∃ o v xs, ops[j]? = some o ∧ (setR f i r j).1 = some v ∧ opnds P (cvU cv0 ops (setR f i r) j) o.op.operands.toList = some xs ∧ ReadIn P o xs v H) Rs := fun e he H y hy => by
  obtain ⟨h1, o, v, xs, h2, h3, h4, h5⟩ := s.rs e he H y hy
  have hlt := s.lt e he
  exact ⟨h1, o, v, xs, h2, by rw [setR_ne (by omega)]; exact h3, by rw [← cvU_congr e.1 (fun k hk => setR_lt f i r k (by omega))]; exact h4, h5⟩
theorem Sr.all_ {r : Option AV × Kd} (s : Sr P ops bf cv0 h0 f i Hs Rs) {j : Nat} {o' : Oper} (hj : j < i) (ho : ops[j]? = some o') (hk : (setR f i r j).2 = .calm) : CalmAt P ops o' (cvU cv0 ops (setR f i r) j) (setR f i r j).1 ∨ (∃ k, k < i ∧ (setR f i r k).2.isBar = true ∧ inMask (bf.getD k 0) j = true) ∨ ∃ e ∈ Rs, e.1 = j := by
  rw [setR_ne (by omega)] at hk
  rcases s.all j o' hj ho hk with h | ⟨k, h1, h2, h3⟩ | h
  · left; rw [setR_ne (by omega), ← cvU_congr j (fun k hk => setR_lt f i r k (by omega))]; exact h
  · exact .inr (.inl ⟨k, h1, by rw [setR_ne (by omega)]; exact h2, h3⟩)
  · exact .inr (.inr h)
theorem Sr.calm (s : Sr P ops bf cv0 h0 f i Hs Rs) {r : Option AV × Kd} (hb : r.2.isBar = false) (hc : r.2 = .calm → ∀ o, ops[i]? = some o → CalmAt P ops o (cvU cv0 ops f i) r.1) : Sr P ops bf cv0 h0 (setR f i r) (i + 1) Hs Rs := by
  refine ⟨(s.old (r := r)).succ (by rw [setR_same]; exact hb), s.rs_, fun e he => Nat.lt_succ_of_lt (s.lt e he), fun j o' hj ho' hk => ?_⟩
  · by_cases e : j = i
    · subst e
      left
      rw [setR_same] at hk ⊢
      rw [← cvU_congr j (setR_lt f j r)]
      exact hc hk o' ho'
    · rcases s.all_ (r := r) (by omega) ho' hk with h | ⟨k, h1, h2, h3⟩ | h
      · exact .inl h
      · exact .inr (.inl ⟨k, by omega, h2, h3⟩)
      · exact .inr (.inr h)
theorem Sr.read (s : Sr P ops bf cv0 h0 f i Hs Rs) {v : AV} {c : Hp → Ans → Ans} {xs : List AV} (ho : ops[i]? = some o) (hx : opnds P (cvU cv0 ops f i) o.op.operands.toList = some xs) (hc : ∀ H y, c H y = .yes → y = .yes ∧ ReadIn P o xs v H) : Sr P ops bf cv0 h0 (setR f i (some v, .calm)) (i + 1) Hs ((i, c) :: Rs) := by
  refine ⟨(s.old (r := (some v, .calm))).succ (by rw [setR_same]; rfl), fun e he H y hy => ?_, fun e he => ?_, fun j o' hj ho' hk => ?_⟩
  · rcases List.mem_cons.1 he with rfl | he
    · obtain ⟨h1, h2⟩ := hc H y hy
      exact ⟨h1, o, v, xs, ho, by rw [setR_same], by rw [← cvU_congr i (setR_lt f i _)]; exact hx, h2⟩
    · exact s.rs_ e he H y hy
  · rcases List.mem_cons.1 he with rfl | he
    · exact Nat.lt_succ_self i
    · exact Nat.lt_succ_of_lt (s.lt e he)
  · by_cases e : j = i
    · exact .inr (.inr ⟨_, List.mem_cons_self .., e.symm⟩)
    · rcases s.all_ (r := (some v, .calm)) (by omega) ho' hk with h | ⟨k, h1, h2, h3⟩ | ⟨e, h1, h2⟩
      · exact .inl h
      · exact .inr (.inl ⟨k, by omega, h2, h3⟩)
      · exact .inr (.inr ⟨e, List.mem_cons_of_mem _ h1, h2⟩)
theorem Sr.bar (s : Sr P ops bf cv0 h0 f i Hs Rs) {v : AV} {I O : Hp} {Rs' : Rds} (hsub : ∀ e ∈ Rs', e ∈ Rs) (hall : ∀ e ∈ Rs, inMask (bf.getD i 0) e.1 = true ∨ e ∈ Rs') : Sr P ops bf cv0 h0 (setR f i (some v, .bar I O)) (i + 1) ((i, O) :: Hs) Rs' := by
  refine ⟨.inr ⟨Nat.lt_succ_self i, by rw [setR_same]; rfl, fun k a b => by omega, ?_, ?_, s.old⟩, fun e he => s.rs_ e (hsub e he), fun e he => Nat.lt_succ_of_lt (s.lt e (hsub e he)), fun j o' hj ho' hk => ?_⟩
  · show O.tr = ((setR f i (some v, Kd.bar I O) i).2.bs _).tr
    rw [setR_same]; rfl
  · show O.nx = (setR f i (some v, Kd.bar I O) i).2.nx _
    rw [setR_same]; rfl
  · by_cases e : j = i
    · subst e; rw [setR_same] at hk; cases hk
    · rcases s.all_ (r := (some v, .bar I O)) (by omega) ho' hk with h | ⟨k, h1, h2, h3⟩ | ⟨e, h1, h2⟩
      · exact .inl h
      · exact .inr (.inl ⟨k, by omega, h2, h3⟩)
      · rcases hall e h1 with h3 | h3
        · exact .inr (.inl ⟨i, by omega, by rw [setR_same]; rfl, by rw [← h2]; exact h3⟩)
        · exact .inr (.inr ⟨e, h3, h2⟩)
end
theorem runFree_spec {callf : CallF} (hcall : CallSound P callf) {keep : Nat} {ops : List Oper} {bf : List Nat} (op : Opn ops bf) {cv0 : Cv} {h0 : Hp} : ∀ (rest : List Oper) (bs : List Nat) (D : Dl) (now i : Nat) (L : List AV) (env : Tr AV) (h : Hp) (fs : Frees) (Hs : List (Nat × Hp)) (Rs : Rds) (k : Tr AV → Hp → Ans) (f : Rcs),
    ops.drop i = rest → bf.drop i = bs → Pl P keep rest D now L env (cvU cv0 ops f i) → St P ops bf cv0 h0 f i h fs → Sr P ops bf cv0 h0 f i Hs Rs →
    runFree callf (mkCOs.go P ops keep true bf rest bs D now i) L env h fs Hs Rs k = .yes →
    ∃ f' env' h', k env' h' = .yes ∧ EnvK keep env' ∧ (∀ j o, ops[j]? = some o → RcAt P ops bf cv0 h0 f' ops.length j o) ∧ (∀ j, ops.length ≤ j → (f' j).2 = .calm) ∧ Src f' (fun _ => true) ops.length (bsU h0 f' ops.length) h'.tr ∧ h'.nx = nxU h0 f' ops.length ∧ h'.lo = (bsU h0 f' ops.length).lo ∧ ∀ t av, env'.get (path t) = some av → cvU cv0 ops f' ops.length t = some av
  | [], bs, D, now, i, L, env, h, fs, Hs, Rs, k, f, hd, hb, pl, st, sr, H => by
    have hi : i = ops.length := by
      have := congrArg List.length hd
      simp at this
      have := st.le
      omega
    subst hi
    have H : flushAll fs h (fun h => k env h) = .yes := by cases bs <;> exact H
    rw [flushAll_eq] at H
    exact ⟨f, env, _, H, pl.envK, fun j o ho => st.rc j o (List.getElem?_eq_some_iff.1 ho).1 ho, st.out, st.src _, st.nx, st.lo, pl.envC⟩
  | o :: rest, bs, D, now, i, L, env, h, fs, Hs, Rs, k, f, hd, hb, pl, st, sr, H => by
    have ho : ops[i]? = some o := by
      have := List.getElem?_drop (xs := ops) (i := i) (j := 0)
      rw [hd] at this
      simpa using this.symm
    have hi : i < ops.length := (List.getElem?_eq_some_iff.1 ho).1
    have hd' : ops.drop (i + 1) = rest := by rw [← List.tail_drop, hd]; rfl
    obtain ⟨bs', hbs, hb'⟩ : ∃ bs', bs = bf.getD i 0 :: bs' ∧ bf.drop (i + 1) = bs' := by
      have hlt : i < bf.length := by rw [op.len]; exact hi
      refine ⟨bf.drop (i + 1), ?_, rfl⟩
      rw [← hb, List.drop_eq_getElem_cons hlt, List.getD_eq_getElem?_getD, List.getElem?_eq_getElem hlt]; rfl
    subst hbs
    have ecv : ∀ r, cvU cv0 ops (setR f i r) i = cvU cv0 ops f i := fun r => (cvU_congr i (setR_lt f i r)).symm
    have ecv1 : ∀ r, cvU cv0 ops (setR f i r) (i + 1) = updO (cvU cv0 ops f i) o.dst r.1 := fun r => by
      show updO (cvU cv0 ops (setR f i r) i) (dstAt ops i) (setR f i r i).1 = _
      rw [ecv, setR_same, dstAt_at ho]
    have calmRc : ∀ out, CalmAt P ops o (cvU cv0 ops f i) out → RcAt P ops bf cv0 h0 (setR f i (out, .calm)) (i + 1) i o := fun out hc => by
      exact ⟨(fun _ => by left; rw [ecv, setR_same]; exact hc), (fun I O hk => by rw [setR_same] at hk; cases hk), (fun I O hk => by rw [setR_same] at hk; cases hk), st.ord op ho (fun hk => by cases hk)⟩
    have calmSt : ∀ out, CalmAt P ops o (cvU cv0 ops f i) out → St P ops bf cv0 h0 (setR f i (out, .calm)) (i + 1) h fs := fun out hc =>
      st.next op ho (calmRc out hc) (fun hk => by cases hk) (fun hk => by cases hk) rfl rfl rfl fun e he => .inl ⟨he, rfl⟩
    have calmSr : ∀ out, CalmAt P ops o (cvU cv0 ops f i) out → Sr P ops bf cv0 h0 (setR f i (out, .calm)) (i + 1) Hs Rs := fun out hc =>
      sr.calm rfl fun _ o' ho' => by rw [ho] at ho'; injection ho' with ho'; subst ho'; exact hc
    rw [mkCOs.go] at H
    cases hal : aliasOf keep rest D o with
    | some e =>
      rw [hal] at H
      dsimp only at H
      obtain ⟨d, t, hdst, hg0, hop, pl'⟩ := pl.alias hal
      refine runFree_spec hcall op rest bs' _ _ (i + 1) _ _ h fs Hs Rs k (setR f i (cvU cv0 ops f i t, .calm)) hd' hb' ?_ (calmSt _ (.inr (.inr ⟨hg0, t, hop, rfl⟩))) (calmSr _ (.inr (.inr ⟨hg0, t, hop, rfl⟩))) H
      rw [ecv1]; exact pl'
    | none =>
      rw [hal] at H
      dsimp only at H
      rw [runFree_cons] at H
      rcases cls_cases (P := P) ops bf i o (bf.getD i 0) with ⟨hq, hc⟩ | ⟨hq, hrd, hc⟩ | ⟨hq, hc⟩ | ⟨hq, hc⟩
      · rw [hc, if_neg (by rw [isBar_mk.1 (by simp)]; simp), if_neg (by rw [isRd_mk (by simp)]; simp)] at H
        obtain ⟨v, h1, H1, hdo, -⟩ := mkCO_line hcall (.inl rfl) pl.loc H
        have hh : h1 = h ∧ CalmAt P ops o (cvU cv0 ops f i) (some v) := by
          rcases hdo with ⟨hw, xs, hx, -, hq2⟩ | ⟨hw, h2, h3⟩
          · exact ⟨(hq2 hq).1, .inl ⟨hw, v, xs, rfl, hx, (hq2 hq).2⟩⟩
          · exact ⟨h3, .inr (.inl ⟨hw, by rw [h2]⟩)⟩
        obtain ⟨rfl, hcalm⟩ := hh
        refine runFree_spec hcall op rest bs' _ _ (i + 1) _ _ h1 fs Hs Rs k (setR f i (some v, .calm)) hd' hb' ?_ (calmSt _ hcalm) (calmSr _ hcalm) H1
        rw [ecv1]; exact pl.push v
      · have hg := rdB_guard hrd
        obtain ⟨e1, e2, e3⟩ := rdIx_mk (P := P) (ops := ops) (keep := keep) (m := bf.getD i 0) (D := D) (now := now) (i := i) hg
        rw [hc, if_neg (by rw [isBar_mk.1 (by simp)]; simp), if_pos e2, e1, e3] at H
        obtain ⟨v, xs, H1, hx, hlow, hri⟩ := rdCO_yes hcall hg pl.loc H
        obtain ⟨H2, hH⟩ := allHs_yes (f := f) (h0 := h0) (i := i) (Q := ReadIn P o xs v) (fun H y hy => chkRd_yes hcall hg pl.loc hx hy) sr.hs H1
        have hl := setR_lt f i (some v, Kd.calm)
        have hw : wantedA ops (cvU cv0 ops f i) o = some true := by unfold wantedA; rw [hg]
        refine runFree_spec hcall op rest bs' _ _ (i + 1) _ _ h fs Hs _ k (setR f i (some v, .calm)) hd' hb' ?_ (st.next op ho ⟨fun _ => .inr ⟨by rw [ecv]; exact hw, v, xs, by rw [setR_same], by rw [ecv]; exact hx, ?_, ?_, fun c hc hcut hkb _ => ?_⟩, fun I O hk => by (rw [setR_same] at hk; cases hk), fun I O hk => by (rw [setR_same] at hk; cases hk), st.ord op ho (fun hk => by cases hk)⟩ (fun hk => by cases hk) (fun hk => by cases hk) rfl rfl rfl fun e he => .inl ⟨he, rfl⟩) (sr.read ho hx (fun H y hy => chkRd_yes hcall hg pl.loc hx hy)) H2
        · rw [ecv1]; exact pl.push v
        · rw [← nxU_congr i hl, ← st.nx]; exact hlow
        · rw [← nxU_congr i hl, ← st.nx]; exact hri.nx
        · have hci : c ≤ i := Classical.byContradiction fun hn => by
            rcases hcut with h | ⟨d, hd, hb'⟩
            · omega
            · rw [show d = i by omega, setR_same] at hb'; cases hb'
          have hlc : ∀ k, k < c → f k = setR f i (some v, Kd.calm) k := fun k hk => hl k (by omega)
          obtain ⟨H', h4, h2, h3⟩ := hH c hci (hcut.congr hlc) (fun k a b hki => hkb k (by rw [← hl k hki]; exact a) b)
          rw [bsU_congr (h0 := h0) c hlc] at h2
          rw [nxU_congr (h0 := h0) c hlc] at h3
          exact ⟨by show nxU _ _ _ ≤ _; rw [← h3]; exact h4.nx, by rw [show (Hp.mk (bsU h0 (setR f i (some v, Kd.calm)) c).tr (nxU h0 (setR f i (some v, Kd.calm)) c) 0).tr = H'.tr from h2.symm]; exact h4.does⟩
      · rw [hc] at H
        rcases (isBar_mk (P := P) (ops := ops) (keep := keep) (o := o) (D := D) (now := now) (cls := .bar (bf.getD i 0)) (i := i)).2 _ rfl with ⟨hbar, hbm, hbi⟩ | hbad
        · rw [if_pos hbar] at H
          obtain ⟨v, h1, H1, hdo, hn⟩ := mkCO_line hcall (.inr ⟨_, rfl⟩) pl.loc H
          have hn := hn (by simp)
          obtain ⟨Rs', H2, hsub, hall⟩ := allRs_yes sr.rs H1
          rw [hbm] at hall
          rw [hbi] at H2
          have hcl : (Kd.bar (flushH fs h) h1).isCalm = false → (quietOp P o.op = false ∧ rdB ops bf i o (bf.getD i 0) = false) ∧ ((Kd.bar (flushH fs h) h1).isBar = true → clsOf P ops bf i o (bf.getD i 0) = .bar (bf.getD i 0)) := fun _ => ⟨hq, fun _ => hc⟩
          refine runFree_spec hcall op rest bs' _ _ (i + 1) _ _ h1 [] ((i, h1) :: Hs) Rs' k (setR f i (some v, .bar (flushH fs h) h1)) hd' hb' ?_ (st.next op ho ⟨fun hk => by (rw [setR_same] at hk; cases hk), fun I O hk => ?_, fun I O hk => by (rw [setR_same] at hk; cases hk), st.ord op ho hcl⟩ (fun _ j o' hj ho' hk => ?_) hcl rfl rfl rfl fun e he => by cases he) (sr.bar hsub fun e he => (hall e he).imp id fun h => h.1) H2
          · rw [ecv1]; exact pl.push v
          · rw [setR_same] at hk
            injection hk with hk1 hk2; subst hk1; subst hk2
            have hl := setR_lt f i (some v, Kd.bar (flushH fs h) h1)
            rw [ecv, setR_same, ← nxU_congr i hl, ← bsU_congr i hl]
            exact ⟨hn, ⟨v, rfl, hdo⟩, (st.src _).congr hl, st.nx, st.lo⟩
          · rcases sr.all j o' hj ho' hk with h | ⟨k, h2, h3, h4⟩ | ⟨e, h2, h3⟩
            · exact .inl h
            · exact .inr (.inl ⟨k, by omega, by rw [setR_ne (by omega)]; exact h3, h4⟩)
            · rcases hall e h2 with h4 | ⟨-, o2, v2, xs2, h5, h6, h7, h8⟩
              · exact .inr (.inl ⟨i, by omega, by rw [setR_same]; rfl, by rw [← h3]; exact h4⟩)
              · rw [h3] at h5 h6 h7
                rw [ho'] at h5; injection h5 with h5; subst h5
                exact .inr (.inr ⟨v2, xs2, h6, h7, h8⟩)
        · rw [hbad] at H
          cases H
      · rw [hc, if_neg (by rw [isBar_mk.1 (by simp)]; simp), if_neg (by rw [isRd_mk (by simp)]; simp)] at H
        rcases mkCO_free hcall pl.loc H with ⟨v, O, hw, ha, h1, h2, H1⟩ | ⟨hw, H1⟩
        · have hcl : (Kd.free (.mk (flushT (fun j => inMask (bf.getD i 0) j) fs h.tr) h.nx h.nx) O).isCalm = false → (quietOp P o.op = false ∧ rdB ops bf i o (bf.getD i 0) = false) ∧ ((Kd.free (.mk (flushT (fun j => inMask (bf.getD i 0) j) fs h.tr) h.nx h.nx) O).isBar = true → clsOf P ops bf i o (bf.getD i 0) = .bar (bf.getD i 0)) := fun _ => ⟨hq, fun h => by cases h⟩
          refine runFree_spec hcall op rest bs' _ _ (i + 1) _ _ (.mk h.tr O.nx h.lo) ((i, newsT O.tr h.nx (O.nx - h.nx)) :: fs) Hs Rs k (setR f i (some v, .free (.mk (flushT (fun j => inMask (bf.getD i 0) j) fs h.tr) h.nx h.nx) O)) hd' hb' ?_ (st.next op ho ⟨fun hk => by (rw [setR_same] at hk; cases hk), fun I O hk => by (rw [setR_same] at hk; cases hk), fun I O hk => ?_, st.ord op ho hcl⟩ (fun hk => by cases hk) hcl rfl rfl rfl fun e he => ?_) (sr.calm rfl fun hk => by cases hk) H1
          · rw [ecv1]; exact pl.push v
          · rw [setR_same] at hk
            injection hk with hk1 hk2; subst hk1; subst hk2
            have hl := setR_lt f i (some v, Kd.free (.mk (flushT (fun j => inMask (bf.getD i 0) j) fs h.tr) h.nx h.nx) O)
            rw [ecv, setR_same, ← nxU_congr i hl, ← bsU_congr i hl]
            exact ⟨⟨v, rfl, hw, ha⟩, (st.src _).congr hl, st.nx, st.nx, by rw [h1, st.nx], by rw [← st.nx]; exact h2⟩
          · rcases List.mem_cons.1 he with rfl | he
            · refine .inr ⟨_, _, rfl, rfl, fun b x hbx => ?_⟩
              obtain ⟨a1, a2, a3⟩ := newsT_mem hbx
              exact ⟨a1, by omega, a3⟩
            · exact .inl ⟨he, rfl⟩
        · refine runFree_spec hcall op rest bs' _ _ (i + 1) _ _ h fs Hs Rs k (setR f i (some (.tup []), .calm)) hd' hb' ?_ (calmSt _ (.inr (.inl ⟨hw, rfl⟩))) (calmSr _ (.inr (.inl ⟨hw, rfl⟩))) H1
          rw [ecv1]; exact pl.push _
theorem doCO_fs (callf : CallF) : ∀ (o : CO) (L : List AV) (env : Tr AV) (h : Hp) (fs : Frees) (k : Option Pa → AV → Hp → Frees → Ans), isFree o = false → doCO callf o L env h fs k = doCO callf o L env h fs (fun d v h _ => k d v h fs)
  | .mv _ _, L, env, h, fs, k, _ => rfl
  | .o1 _ _ _, L, env, h, fs, k, _ => rfl
  | .o2 _ _ _ _, L, env, h, fs, k, _ => rfl
  | .on _ _ _, L, env, h, fs, k, _ => rfl
  | .call _ _, L, env, h, fs, k, _ => rfl
  | .grd r want o d, L, env, h, fs, k, hf => by
    show rfK r L env (fun v => doCO.onGuard v want (doCO callf o L env h fs k) (k d (.tup []) h fs)) = rfK r L env (fun v => doCO.onGuard v want (doCO callf o L env h fs fun d v h _ => k d v h fs) (k d (.tup []) h fs))
    rw [doCO_fs callf o L env h fs k hf]
  | .free _ _ _, L, env, h, fs, k, hf => by cases hf
  | .rd _ _ _, _, _, _, _, _, hf => by cases hf
  | .bar _ _ o, L, env, h, fs, k, hf => by
    show doCO callf o L env h fs (fun d v h' fs => doCO.grown h h' (k d v h' fs)) = doCO callf o L env h fs (fun d v h' _ => doCO.grown h h' (k d v h' fs))
    exact doCO_fs callf o L env h fs _ hf
  | .bad _, L, env, h, fs, k, _ => rfl
theorem rd_free : ∀ {o : CO}, isFree o = false → isRd o = false
  | .mv _ _, _ => rfl
  | .o1 _ _ _, _ => rfl
  | .o2 _ _ _ _, _ => rfl
  | .on _ _ _, _ => rfl
  | .call _ _, _ => rfl
  | .grd _ _ _ _, _ => rfl
  | .free _ _ _, _ => rfl
  | .rd _ _ _, h => by cases h
  | .bar _ _ _, _ => rfl
  | .bad _, _ => rfl
theorem runFree_seq (callf : CallF) : ∀ (os : List CO) (L : List AV) (env : Tr AV) (h : Hp) (Hs : List (Nat × Hp)) (k : Tr AV → Hp → Ans), os.any isFree = false → runFree callf os L env h [] Hs [] k = runSeq callf os L env h k
  | [], L, env, h, Hs, k, _ => rfl
  | o :: os, L, env, h, Hs, k, hf => by
    rw [List.any_cons, Bool.or_eq_false_iff] at hf
    rw [runFree_cons, runSeq_cons]
    have ih := fun L env h Hs => runFree_seq callf os L env h Hs k hf.2
    have er : ∀ (m : Nat) (h : Hp) (k : Rds → Ans), allRs m [] h k = k [] := fun _ _ _ => rfl
    rw [rd_free hf.1]
    have eh : flushH [] h = h := by cases h; rfl
    rw [eh]
    simp only [er, ih, Bool.false_eq_true, if_false]
    split
    · rfl
    · rw [doCO_fs callf o L env h [] _ hf.1]
      simp only [ih]
theorem regOK (hm : P.follows .mixedOrders = true) (callf : CallF) (hcall : CallSound P callf) (N keep : Nat) : RegOK P callf N keep := by
  intro id ops draw os env h k hcomp H hK
  have dok : ∀ {ops : List Oper}, dstOk N ops = true → ∀ o ∈ ops, ∀ d, o.dst = some d → d < N := fun {ops} h o ho d hd => by
    have := List.all_eq_true.1 h o ho
    rw [hd] at this
    simpa using this
  have pl0 : ∀ {rest}, Pl P keep rest [] 0 [] env (fun t => env.get (path t)) := fun {rest} => ⟨⟨rfl, fun t av h => h⟩, hK, fun t av h => h, fun e he => by cases he⟩
  have hcv : ∀ {ds β a w}, Rel N ds β env h a w → CvR β (fun t => env.get (path t)) a.tmps := fun hr t av ht => hr.env t av ht
  unfold compR at hcomp
  split at hcomp
  · cases hcomp
  · rename_i hdst
    injection hcomp with hcomp
    subst hcomp
    have hnf : (mkCOs P ops.toList keep false (ops.toList.map fun _ => 0)).any isFree = false := by
      unfold mkCOs
      have hbare : ∀ (o : Oper) D now, isFree (bareCO P keep o D now) = false := fun o D now => by
        unfold bareCO
        split <;> try rfl
        unfold bareOf
        split <;> rfl
      have : ∀ (rest : List Oper) (bs : List Nat) (D : Dl) (now i : Nat), (mkCOs.go P ops.toList keep false (ops.toList.map fun _ => 0) rest bs D now i).any isFree = false := by
        intro rest
        induction rest with
        | nil => intro bs D now i; cases bs <;> rfl
        | cons o rest ih =>
          intro bs D now i
          cases bs with
          | nil => rfl
          | cons b bs =>
            rw [mkCOs.go]
            split
            · exact ih _ _ _ _
            · rw [List.any_cons, ih, Bool.or_false]
              unfold mkCO
              split
              · exact hbare _ _ _
              · split
                · exact hbare _ _ _
                · rfl
      exact this _ _ _ _ _
    unfold runR at H
    rw [hnf] at H
    obtain ⟨env', h', H', hK', hw⟩ := seq_sound hcall (N := N) ops.toList _ [] 0 0 [] env _ h k (by simp) (dok hdst) pl0 H
    exact ⟨env', h', H', hK', fun ds β a w hr hg => wp_region_list (hw ds β a w hr.hr (hcv hr) hr.size hr.defers hg _ fun a' w' hp => ⟨rfl, hp⟩)⟩
  · rename_i hdst
    split at hcomp
    · rename_i hopen
      injection hcomp with hcomp
      have op := openOk_spec hopen
      have H : runFree callf os [] env h [] [(0, h)] [] k = .yes := by
        unfold runR at H
        cases hf : os.any isFree with
        | true => rw [hf] at H; exact H
        | false => rw [hf] at H; rw [runFree_seq callf os [] env h [(0, h)] k hf]; exact H
      subst hcomp
      obtain ⟨f, env', h', H', hK', hrc, hout, hs, hn, hl, he⟩ := runFree_spec hcall op (cv0 := fun t => env.get (path t)) (h0 := h) ops.toList _ [] 0 0 [] env h [] [(0, h)] [] k (fun _ => (none, .calm)) rfl rfl pl0
        ⟨Nat.zero_le _, rfl, rfl, rfl, fun e he => (by cases he), fun j o hj => (by omega), fun j o hj => (by omega), fun j _ => rfl⟩
        ⟨.inl ⟨rfl, fun k hk => by omega, rfl, rfl⟩, fun e he => (by cases he), fun e he => (by cases he), fun j o hj => (by omega)⟩ H
      refine ⟨env', h', H', hK', fun ds β a w hr hg => ?_⟩
      have rg : Rg P ops.toList (befores ops.toList) (fun t => env.get (path t)) h f N := ⟨hrc, hout, op.dn, op.bfs, op.ap, fun i d hd => by
        obtain ⟨o, h1, h2⟩ := dstAt_some hd
        exact dok hdst o (List.mem_of_getElem? h1) d h2⟩
      exact region_any hm rg rfl hs hn hl he hr.hr hg (hcv hr) hr.size hr.defers id
    · cases hcomp
end Go.Ev
end
/- The evaluator: what has no Go text. -/
section
set_option linter.unusedVariables false
set_option linter.unusedSectionVars false
set_option linter.unusedSimpArgs false
namespace Go.Ev
variable [Sg] [Sl]
open Go.RowKit
variable {P : Program}

def IsExt (P : Program) (f : Nat) (e : Array Value → Sem Value) : Prop :=
  ∃ fn, P.funcs[f]? = some fn ∧ (fn.name == "runtime.NumGoroutine") = false ∧ fn.body.isNone = true ∧ Extern.findNext fn = none ∧ Extern.find fn = some e
theorem IsExt.run {f : Nat} {e : Array Value → Sem Value} (h : IsExt P f e) {args : Array Value} {w w' : World} {u : Value} (he : (e args).run P w = .ok u w') : (callFunc f args).run P w = .ok (.value u) w' := by
  obtain ⟨fn, h1, h2, h3, h4, h5⟩ := h
  rw [run_callFunc_extern h1 h2 h3 h4 h5, he]; rfl
def idxL : List Nat → Nat → Nat → AV
  | [], _, _ => .int .i64 (-1)
  | x :: l, c, i => if Nat.beq x c = true then .nat i else idxL l c (i + 1)
theorem indexN_go (c : Nat) (k : AV → Ans) : ∀ (l : List Nat) (i : Nat), (List.rec (motive := fun _ => Nat → Ans) (fun _ => k (.int .i64 (-1))) (fun x _ ih i => cnd (Nat.beq x c) (k (.nat i)) (fNat (Nat.succ i) ih)) l i : Ans) = k (idxL l c i)
  | [], i => rfl
  | x :: l, i => by
    show cnd (Nat.beq x c) (k (.nat i)) (fNat (Nat.succ i) _) = _
    rw [cnd_eq, fNat_eq]
    unfold idxL
    split
    · rfl
    · exact indexN_go c k l (i + 1)
def cntL : List Nat → Nat → Nat → Nat
  | [], _, n => n
  | x :: l, c, n => if Nat.beq x c = true then cntL l c (n + 1) else cntL l c n
theorem countN_go (c : Nat) (k : Nat → Ans) : ∀ (l : List Nat) (n : Nat), (List.rec (motive := fun _ => Nat → Ans) (fun n => k n) (fun x _ ih n => cnd (Nat.beq x c) (fNat (Nat.succ n) ih) (ih n)) l n : Ans) = k (cntL l c n)
  | [], n => rfl
  | x :: l, n => by
    show cnd (Nat.beq x c) (fNat (Nat.succ n) _) _ = _
    rw [cnd_eq, fNat_eq]
    unfold cntL
    split
    · exact countN_go c k l (n + 1)
    · exact countN_go c k l n
theorem beq_byte {x c : Nat} (hx : x < 256) (hc : c < 256) : (UInt8.ofNat x == UInt8.ofNat c) = Nat.beq x c := by
  by_cases h : x = c
  · subst h; simp
  · rw [show Nat.beq x c = false from by rw [Bool.eq_false_iff]; exact fun hb => h (Nat.eq_of_beq_eq_true hb), beq_eq_false_iff_ne]
    exact fun e => h (ofNat_inj hx hc e)
theorem idxL_con (β : Bt) {c : Nat} (hc : c < 256) : ∀ {l : List Nat} (i : Nat), l.all (· < 256) = true → con β (idxL l c i) = some (.int .i64 (if Lib.indexByte (l.map UInt8.ofNat) (UInt8.ofNat c) = -1 then -1 else Lib.indexByte (l.map UInt8.ofNat) (UInt8.ofNat c) + i))
  | [], i, _ => by simp [idxL, Lib.indexByte, con]
  | x :: l, i, h => by
    rw [List.all_cons, Bool.and_eq_true] at h
    have ih := idxL_con β hc (i + 1) h.2
    have hge := Lib.indexByte_ge (l.map UInt8.ofNat) (UInt8.ofNat c)
    unfold idxL
    rw [List.map_cons]
    unfold Lib.indexByte
    rw [beq_byte (by simpa using h.1) hc]
    by_cases hb : Nat.beq x c = true
    · rw [if_pos hb, if_pos hb]; simp [con]
    · rw [if_neg hb, if_neg hb, ih]
      congr 2
      by_cases h1 : Lib.indexByte (l.map UInt8.ofNat) (UInt8.ofNat c) = -1
      · simp [h1]
      · have h2 : (Lib.indexByte (l.map UInt8.ofNat) (UInt8.ofNat c) == -1) = false := by simpa using h1
        simp only [h2, Bool.false_eq_true, if_false]
        rw [if_neg h1, if_neg (by omega)]
        omega
theorem cntL_eq {c : Nat} (hc : c < 256) : ∀ {l : List Nat} (n : Nat), l.all (· < 256) = true → cntL l c n = n + Lib.countByte (l.map UInt8.ofNat) (UInt8.ofNat c)
  | [], n, _ => by simp [cntL, Lib.countByte]
  | x :: l, n, h => by
    rw [List.all_cons, Bool.and_eq_true] at h
    have ih := fun n => cntL_eq hc (l := l) n h.2
    unfold cntL
    rw [List.map_cons]
    unfold Lib.countByte at ih ⊢
    rw [List.count_cons, beq_byte (by simpa using h.1) hc, ih, ih]
    split <;> omega
theorem ext1_yes {fuel : Nat} {ihc : CallF} {f : FuncId} {xs : List AV} {h : Hp} {k : AV → Hp → Ans} (H : extK P fuel ihc f 1 xs h k = .yes) : ∃ n l c, xs = [.str n l, .u8 c] ∧ c < 256 ∧ k (idxL l c 0) h = .yes := by
  unfold extK at H
  split at H
  · rename_i n l c _
    obtain ⟨hc, H⟩ := cnd_yes H
    exact ⟨n, l, c, rfl, by simpa using hc, (indexN_go c (fun v => k v h) l 0).symm.trans H⟩
  all_goals first | (rename_i h1; cases h1; done) | (cases H; done)
theorem ext2_yes {fuel : Nat} {ihc : CallF} {f : FuncId} {xs : List AV} {h : Hp} {k : AV → Hp → Ans} (H : extK P fuel ihc f 2 xs h k = .yes) : ∃ n l c, xs = [.str n l, .u8 c] ∧ c < 256 ∧ k (.nat (cntL l c 0)) h = .yes := by
  unfold extK at H
  split at H
  · rename_i h1; cases h1
  · rename_i n l c _
    obtain ⟨hc, H⟩ := cnd_yes H
    exact ⟨n, l, c, rfl, by simpa using hc, (countN_go c (fun n => k (.nat n) h) l 0).symm.trans H⟩
  all_goals first | (rename_i h1; cases h1; done) | (cases H; done)
theorem ext3_yes {fuel : Nat} {ihc : CallF} {f : FuncId} {xs : List AV} {h : Hp} {k : AV → Hp → Ans} (H : extK P fuel ihc f 3 xs h k = .yes) : ∃ i m j, xs = [.sym i, .nat m] ∧ Sl.low i m = some j ∧ k (.nat j) h = .yes := by
  unfold extK at H
  split at H
  · rename_i h1; cases h1
  · rename_i h1; cases h1
  · rename_i i m _
    split at H
    · rename_i j hj; exact ⟨i, m, j, rfl, hj, H⟩
    · cases H
  all_goals first | (rename_i h1; cases h1; done) | (cases H; done)
theorem ext4_yes {fuel : Nat} {ihc : CallF} {f : FuncId} {xs : List AV} {h : Hp} {k : AV → Hp → Ans} (H : extK P fuel ihc f 4 xs h k = .yes) : ∃ x, xs = [x] ∧ k x h = .yes := by
  unfold extK at H
  split at H
  case h_4 x _ => exact ⟨_, rfl, H⟩
  all_goals first | (rename_i h1; cases h1; done) | (cases H; done)
theorem ext5_yes {fuel : Nat} {ihc : CallF} {f : FuncId} {xs : List AV} {h : Hp} {k : AV → Hp → Ans} (H : extK P fuel ihc f 5 xs h k = .yes) : ∃ b o n, xs = [.ptr b o] ∧ getK b o 1 h (fun l => nthK 0 l (.no 213) fun v => match v with
    | .nat n => k (.nat n) h
    | _ => .no 214) = .yes ∧ n = 0 := by
  unfold extK at H
  split at H
  case h_5 b o _ => exact ⟨b, o, 0, rfl, H, rfl⟩
  all_goals first | (rename_i h1; cases h1; done) | (cases H; done)
theorem ext6_yes {fuel : Nat} {ihc : CallF} {f : FuncId} {xs : List AV} {h : Hp} {k : AV → Hp → Ans} (H : extK P fuel ihc f 6 xs h k = .yes) : ∃ b o d, xs = [.ptr b o, .nat d] ∧ getK b o 1 h (fun l => nthK 0 l (.no 215) fun v => match v with
    | .nat n => fNat (Nat.add n d) fun m => cnd (Nat.blt m two63) (putK b o [.nat m] h fun h => k (.nat m) h) (.no 216)
    | _ => .no 217) = .yes := by
  unfold extK at H
  split at H
  case h_6 b o d _ => exact ⟨b, o, d, rfl, H⟩
  all_goals first | (rename_i h1; cases h1; done) | (cases H; done)
def LowAt [Sg] [Sl] (P : Program) (f : Nat) : Prop := ∀ i m j, Sl.low i m = some j → ∀ w, ((callFunc f #[Sg.val i, .int .i64 m]).run P w = .ok (.enter f #[Sg.val i, .int .i64 m]) w ∧ Calls P f #[Sg.val i, .int .i64 m] w fun e w' => e = .returned (.int .i64 j) ∧ Below w.heap.size w w')
theorem tabK_yes {c : Tr AV} {x : Ans} : ∀ {l : List AV} {i : Nat}, (List.rec (motive := fun _ => Nat → Ans) (fun _ => x) (fun v _ ih i => c.getP (path i) (.no 240) fun u => cnd (eqA1 u v) (cnd (flatB v) (fNat (Nat.succ i) ih) (.no 239)) (.no 241)) l i : Ans) = .yes → x = .yes ∧ (∀ j v, l[j]? = some v → c.get (path (i + j)) = some v) ∧ ∀ v ∈ l, flatB v = true
  | [], i, h => ⟨h, fun j v hv => by simp at hv, fun v hv => by cases hv⟩
  | v :: l, i, h => by
    obtain ⟨u, h1, H1⟩ := getP_yes h
    obtain ⟨h2, H2⟩ := cnd_yes H1
    obtain ⟨h3, H3⟩ := cnd_yes H2
    rw [fNat_eq] at H3
    obtain ⟨h4, h5, h6⟩ := tabK_yes H3
    clear H1 H2 H3 h
    obtain rfl := eqA1_eq h2
    refine ⟨h4, fun j w hw => ?_, fun w hw => ?_⟩
    · cases j with
      | zero => simp at hw; subst hw; exact h1
      | succ j => have := h5 j w (by simpa using hw); rwa [show i + (j + 1) = i.succ + j by omega]
    · rcases List.mem_cons.1 hw with rfl | hw
      · exact h3
      · exact h6 w hw
def TabsIn (h : Hp) (ts : List (Nat × List AV)) : Prop := ∀ e ∈ ts, (∃ ty c sz, h.tr.get (path e.1) = some (.cells ty e.2.length c true sz) ∧ ∀ j v, e.2[j]? = some v → c.get (path j) = some v) ∧ ∀ v ∈ e.2, flatB v = true
theorem tabsK_yes {ts : List (Nat × List AV)} {h : Hp} {x : Ans} (H : tabsK ts h x = .yes) : x = .yes ∧ TabsIn h ts := by
  obtain ⟨t, n, low⟩ := h
  unfold tabsK at H
  induction ts with
  | nil => exact ⟨H, fun e he => by cases he⟩
  | cons e ts ih =>
    obtain ⟨bl, h1, H⟩ := getP_yes H
    split at H
    · rename_i ty m c ex sz
      obtain ⟨h2, H⟩ := cnd_yes H
      rw [lenK_eq] at H
      obtain ⟨h3, H⟩ := cnd_yes H
      obtain ⟨h4, h5, h6⟩ := tabK_yes H
      obtain ⟨h7, h8⟩ := ih h4
      refine ⟨h7, fun e' he => ?_⟩
      rcases List.mem_cons.1 he with rfl | he
      · refine ⟨⟨ty, c, sz, ?_, fun j v hv => by simpa using h5 j v hv⟩, h6⟩
        rw [show (Hp.mk t n low).tr = t from rfl, h1, h2, Nat.eq_of_beq_eq_true h3]
      · exact h8 e' he
    · cases H
def AwakeAt [Sg] [Sl] (P : Program) (f : Nat) : Prop := ∀ β h w, HR β h w → GlobK P β → TabsIn h Sl.tabs → (callFunc f #[]).run P w = .ok (.enter f #[]) w ∧ Calls P f #[] w fun e w' => e = .returned (.bool true) ∧ Below w.heap.size w w'
theorem ext7_yes {fuel : Nat} {ihc : CallF} {f : FuncId} {xs : List AV} {h : Hp} {k : AV → Hp → Ans} (H : extK P fuel ihc f 7 xs h k = .yes) : xs = [] ∧ tabsK Sl.tabs h (k (.bool true) h) = .yes := by
  unfold extK at H
  split at H
  case h_7 _ => exact ⟨rfl, H⟩
  all_goals first | (rename_i h1; cases h1; done) | (cases H; done)
theorem Stp.of_below {β : Bt} {h : Hp} {w w' : World} (hr : HR β h w) (b : Below w.heap.size w w') : Stp β h w β h w' := by
  have he : Ext w w' := ⟨b.os, b.tape, b.output, b.size, b.block⟩
  refine ⟨⟨fun n x hn => ?_, hr.inj, hr.fresh, hr.low⟩, Nat.le_refl _, Nat.le_refl _, fun _ _ => rfl, (fun n c κ hn e => by rw [hr.fresh n hn] at e; cases e), he.kept _ _⟩
  obtain ⟨h1, cb, κ, h2, h3⟩ := hr.blk n x hn
  exact ⟨h1, cb, κ, h2, h3.ext he⟩
theorem ext8_yes {fuel : Nat} {ihc : CallF} {f : FuncId} {xs : List AV} {h : Hp} {k : AV → Hp → Ans} (H : extK P fuel ihc f 8 xs h k = .yes) : treeK P fuel ihc f xs h k = .yes := by
  unfold extK at H
  split at H
  case h_8 _ => exact H
  all_goals first | (rename_i h1; cases h1; done) | (cases H; done)
theorem extOK {X : Nat → Nat} (h : ∀ f c, X f = c + 1 → (c = 0 ∧ IsExt P f Extern.BytealgIndexByte.indexByte) ∨ (c = 1 ∧ IsExt P f Extern.BytealgCount.count) ∨ (c = 2 ∧ LowAt P f) ∨ (c = 3 ∧ IsExt P f Extern.AbiNoEscape.same) ∨ (c = 4 ∧ IsExt P f (Extern.Atomic.loadT (.int .i64))) ∨ (c = 5 ∧ IsExt P f (Extern.Atomic.update (Op.intArith .add) .i64 true)) ∨ (c = 6 ∧ AwakeAt P f)) : ExtOK P X := by
  intro fuel ihc hih f c hX xs hp k H
  have args : ∀ {β : Bt} {n : Nat} {l : List Nat} {c : Nat} {vs : List Value}, conL β [.str n l, .u8 c] = some vs → vs = [.string (bytesOf l), .int .u8 c] ∧ l.all (· < 256) = true := fun {β n l c vs} hx => by
    obtain ⟨a, us, h1, h2, rfl⟩ := conL_cons hx
    obtain ⟨b, us, h3, h4, rfl⟩ := conL_cons h2
    have := conL_nil h4
    subst this
    obtain ⟨rfl, -, h5⟩ := con_str_inv h1
    rw [con_u8 h3]
    exact ⟨rfl, h5⟩
  rcases h f c hX with ⟨rfl, he⟩ | ⟨rfl, he⟩ | ⟨rfl, he⟩ | ⟨rfl, he⟩ | ⟨rfl, he⟩ | ⟨rfl, he⟩ | ⟨rfl, he⟩
  · obtain ⟨n, l, c, rfl, hc, H1⟩ := ext1_yes H
    refine ⟨_, _, H1, fun β w vs hr hg hx => .inr ?_⟩
    obtain ⟨rfl, hl⟩ := args hx
    refine ⟨_, w, he.run (Lib.run_indexByteString (bytesOf l) c w), β, _, rfl, .refl hr, ?_⟩
    rw [idxL_con β hc 0 hl]
    have e : (bytesOf l).data.toList = l.map UInt8.ofNat := by simp [bytesOf]
    have e2 : ((c : Int).toNat.toUInt8) = UInt8.ofNat c := rfl
    rw [e, e2]
    congr 2
    split
    · rename_i h1; exact h1.symm
    · simp
  · obtain ⟨n, l, c, rfl, hc, H1⟩ := ext2_yes H
    refine ⟨_, _, H1, fun β w vs hr hg hx => .inr ?_⟩
    obtain ⟨rfl, hl⟩ := args hx
    refine ⟨_, w, he.run (Lib.run_countString (bytesOf l) c w), β, _, rfl, .refl hr, ?_⟩
    have e : (bytesOf l).data.toList = l.map UInt8.ofNat := by simp [bytesOf]
    have e2 : ((c : Int).toNat.toUInt8) = UInt8.ofNat c := rfl
    rw [cntL_eq hc 0 hl, e, e2, Nat.zero_add]; rfl
  · obtain ⟨i, m, j, rfl, hj, H1⟩ := ext3_yes H
    refine ⟨_, _, H1, fun β w vs hr hg hx => .inl ?_⟩
    obtain ⟨a, us, h1, h2, rfl⟩ := conL_cons hx
    obtain ⟨b, us, h3, h4, rfl⟩ := conL_cons h2
    have := conL_nil h4
    subst this
    have e1 : a = Sg.val i := by
      simp only [con] at h1
      split at h1
      · injection h1 with h1; exact h1.symm
      · cases h1
    rw [e1, con_nat h3]
    obtain ⟨h5, h6⟩ := he i m j hj w
    refine ⟨h5, h6.mono fun e w' hp => ?_⟩
    obtain ⟨rfl, hb⟩ := hp
    exact ⟨β, _, rfl, .of_below hr hb, rfl⟩
  · obtain ⟨x, rfl, H1⟩ := ext4_yes H
    refine ⟨_, _, H1, fun β w vs hr hg hx => .inr ?_⟩
    obtain ⟨a, us, h1, h2, rfl⟩ := conL_cons hx
    have := conL_nil h2
    subst this
    exact ⟨_, w, he.run rfl, β, _, rfl, .refl hr, h1⟩
  · obtain ⟨b, o, -, rfl, H1, -⟩ := ext5_yes H
    obtain ⟨l, e, m, c, ex, sz, g1, g2, g3, g4, H1⟩ := getK_yes H1
    obtain ⟨v, hv, H1⟩ := nthK_yes H1
    split at H1
    · rename_i n
      refine ⟨_, _, H1, fun β w vs hr hg hx => .inr ?_⟩
      obtain ⟨a, us, h1, h2, rfl⟩ := conL_cons hx
      have := conL_nil h2
      subst this
      obtain ⟨cb, κ, hβ, rfl⟩ := con_ptr h1
      obtain ⟨cb', κ', vs', q1, q2, q3, q4, q5⟩ := cells_of hr g1 g2 g3 g4
      rw [hβ] at q1; injection q1 with q1; injection q1 with q1 q1'; subst q1
      obtain ⟨u, q6, q7⟩ := conL_get q2 hv
      have hc := q5 0 u q6
      rw [con_nat q7] at hc
      refine ⟨.int .i64 n, w, he.run ?_, β, _, rfl, .refl hr, rfl⟩
      have hdef : Extern.Atomic.loadT (.int .i64) #[.pointer (some ⟨cb, o, none⟩)] = (do Extern.Atomic.read (.int .i64) (← asAddr (.pointer (some ⟨cb, o, none⟩)))) := rfl
      rw [hdef]
      simp [Extern.Atomic.read, asAddr, run_load, show w.cell? ⟨cb, o, none⟩ = some (.int .i64 (n : Int)) from by simpa using hc]
    · cases H1
  · obtain ⟨b, o, d, rfl, H1⟩ := ext6_yes H
    obtain ⟨l, e, m, c, ex, sz, g1, g2, g3, g4, H1⟩ := getK_yes H1
    obtain ⟨v, hv, H1⟩ := nthK_yes H1
    split at H1
    · rename_i n
      rw [fNat_eq] at H1
      obtain ⟨hlt, H1⟩ := cnd_yes H1
      obtain ⟨t', n', low, e', m', c', ex', sz', rfl, p1, p2, H1⟩ := putK_yes H1
      refine ⟨_, _, H1, fun β w vs hr hg hx => .inr ?_⟩
      obtain ⟨a, us, h1, h2, rfl⟩ := conL_cons hx
      obtain ⟨a2, us, h3, h4, rfl⟩ := conL_cons h2
      have := conL_nil h4
      subst this
      obtain ⟨cb, κ, hβ, rfl⟩ := con_ptr h1
      obtain ⟨cb', κ', vs', q1, q2, q3, q4, q5⟩ := cells_of hr g1 g2 g3 g4
      rw [hβ] at q1; injection q1 with q1; injection q1 with q1 q1'; subst q1
      obtain ⟨u, q6, q7⟩ := conL_get q2 hv
      have hc := q5 0 u q6
      rw [con_nat q7] at hc
      rw [con_nat h3]
      have hm : Nat.add n d < two63 := Nat.le_of_ble_eq_true hlt
      obtain ⟨cb2, κ2, f1, f2, f3, f4⟩ := put_stp (vs := [.int .i64 ((Nat.add n d : Nat) : Int)]) hr p1 p2 rfl (by simp [Value.oneCell'])
      rw [hβ] at f1; injection f1 with f1; injection f1 with f1 f1'; subst f1
      have hc' : w.cell? ⟨cb, o, none⟩ = some (.int .i64 (n : Int)) := by simpa using hc
      have hf' : w.frozen? ⟨cb, o, none⟩ = false := by simpa using f3 0 (by simp)
      have hw : IntKind.i64.wrap ((n : Int) + (d : Int)) = ((Nat.add n d : Nat) : Int) := by
        unfold two63 at hm
        show IntKind.i64.wrap _ = (((n + d : Nat)) : Int)
        have hm' : n + d < 9223372036854775808 := hm
        simp [IntKind.wrap, IntKind.bits, IntKind.signed]
        omega
      refine ⟨.int .i64 ((Nat.add n d : Nat) : Int), w.setCells cb o [.int .i64 ((Nat.add n d : Nat) : Int)], he.run ?_, β, _, rfl, f4, rfl⟩
      have hdef : Extern.Atomic.update (Op.intArith .add) .i64 true #[.pointer (some ⟨cb, o, none⟩), .int .i64 d] = (do
          let a ← asAddr (.pointer (some ⟨cb, o, none⟩))
          let old ← Extern.Atomic.read (.int .i64) a
          let new ← Op.intArith .add .i64 (← asInt old) (← asInt (.int .i64 d))
          store a new .atomic
          pure (if true = true then new else old)) := rfl
      rw [hdef]
      simp [Extern.Atomic.read, asAddr, run_load, hc', asInt, asIntOf, Op.intArith, hw, World.setCells]
      rw [run_store P w _ _ _ (by rfl), hc']
      simp [hf']
    · cases H1
  · obtain ⟨rfl, H1⟩ := ext7_yes H
    obtain ⟨H2, ht⟩ := tabsK_yes H1
    refine ⟨_, _, H2, fun β w vs hr hg hx => .inl ?_⟩
    have := conL_nil hx
    subst this
    obtain ⟨h5, h6⟩ := he β hp w hr hg ht
    refine ⟨h5, h6.mono fun e w' hp => ?_⟩
    obtain ⟨rfl, hb⟩ := hp
    exact ⟨β, _, rfl, .of_below hr hb, rfl⟩
end Go.Ev
namespace Go.Ev
variable [Sg] [Sl]
open Go.RowKit
variable {P : Program}

noncomputable def fin (n : Nat) (v : AV) (h : Hp) : Ans := match v, h with
  | .bool true, .mk _ _ low => cnd (Nat.beq low n) .yes (.no 996)
  | .bool false, _ => .no 998
  | _, _ => .no 999
theorem fin_yes {n : Nat} {v : AV} {h : Hp} (H : fin n v h = .yes) : v = .bool true ∧ h.lo = n := by
  unfold fin at H
  split at H
  · obtain ⟨h1, -⟩ := cnd_yes H
    exact ⟨rfl, Nat.eq_of_beq_eq_true h1⟩
  · cases H
  · cases H
structure Runs (P : Program) (X : Nat → Nat) : Prop where
  mixed : P.follows .mixedOrders = true
  names : ∀ (f : Nat) fn, P.funcs[f]? = some fn → fn.name ≠ "runtime.NumGoroutine"
  ext : ExtOK P X
theorem Runs.sound {X : Nat → Nat} (r : Runs P X) (fuel d : Nat) : CallSound P (callK P X fuel d) :=
  callK_sound r.ext r.names (fun c hc N keep => regOK r.mixed c hc N keep) fuel d
theorem Ext.below {w w' : World} (h : Ext w w') : Below w.heap.size w w' := ⟨h.os, h.tape, h.output, h.size, h.block⟩
theorem Runs.top {X : Nat → Nat} (r : Runs P X) {fuel d f : Nat} {fn : Func} {c : Code} (hf : P.funcs[f]? = some fn) (hb : fn.body = some c) {xs : List AV} {vs : List Value} {h0 : Hp} {β : Bt} {w : World}
    (hr : HR β h0 w) (hg : GlobK P β) (hx : conL β xs = some vs) (H : callK P X fuel d f xs h0 (fin h0.nx) = .yes) : Calls P f vs.toArray w fun e w' => e = .returned (.bool true) ∧ Below w.heap.size w w' := by
  obtain ⟨v, h', h1, h2⟩ := r.sound fuel d f xs h0 _ H
  obtain ⟨rfl, hlo⟩ := fin_yes h1
  rcases h2 β w vs hr hg hx with ⟨-, hc⟩ | ⟨u, w', hc, -⟩
  · refine hc.mono fun e w' he => ?_
    obtain ⟨β', u, rfl, s, hu⟩ := he
    rw [con_bool hu]
    exact ⟨rfl, (s.kept.ext fun b hb => hr.fresh b (by omega)).below⟩
  · exfalso
    unfold callFunc at hc
    simp only [Sem.run_bind, run_program, Result.andThen_ok, hf] at hc
    have hn : (fn.name == "runtime.NumGoroutine") = false := by simpa using r.names f fn hf
    rw [hn] at hc
    simp [hb] at hc
def globB (n : Nat) : Bt := fun b => if b < n then some (b, 0) else none
theorem glob0 (w : World) (n : Nat) : HR (globB n) (.mk .leaf n n) w := by
  have hb : ∀ b x, (Hp.mk .leaf n n).tr.get (path b) = some x → False := fun b x hb => by
    rw [show (Hp.mk .leaf n n).tr = .leaf from rfl, get_leaf] at hb
    cases hb
  exact ⟨fun b x h => (hb b x h).elim, fun b b' x x' cb κ κ' h => (hb b x h).elim, fun b hb => if_neg (by have : n ≤ b := hb; omega), Nat.le_refl _⟩
theorem globK (P : Program) {n : Nat} (h : P.globals.size ≤ n) : GlobK P (globB n) := fun g hg => ⟨0, if_pos (by omega)⟩
theorem Runs.plain {X : Nat → Nat} (r : Runs P X) {fuel d f n : Nat} {fn : Func} {c : Code} (hf : P.funcs[f]? = some fn) (hb : fn.body = some c) (hn : P.globals.size ≤ n) {xs : List AV} {vs : List Value} (hx : conL (globB n) xs = some vs)
    (H : callK P X fuel d f xs (.mk .leaf n n) (fin n) = .yes) (w : World) : Calls P f vs.toArray w fun e w' => e = .returned (.bool true) ∧ Below w.heap.size w w' :=
  r.top hf hb (glob0 w n) (globK P hn) hx H
end Go.Ev
namespace Go.Ev
variable [Sg] [Sl]
open Go.RowKit
variable {P : Program}

structure Tb where
  g : Nat
  e : TypeId
  l : List AV
  esz : Nat
noncomputable def Tb.blk (t : Tb) : Blk := .cells t.e t.l.length (putL t.l 0 .leaf) true t.esz
noncomputable def tabT : List Tb → Tr Blk
  | [] => .leaf
  | t :: ts => (tabT ts).set (path t.g) (some t.blk)
def Tb.At (n : Nat) (w : World) (t : Tb) : Prop := t.g < n ∧ ∃ vs, conL (globB n) t.l = some vs ∧ (∀ u ∈ vs, u.oneCell' = true) ∧ w.heap[t.g]? = some (.cells vs.toArray t.e (0, 0))
theorem tabT_get : ∀ {ts : List Tb} {b : Nat} {x : Blk}, (tabT ts).get (path b) = some x → ∃ t ∈ ts, t.g = b ∧ x = t.blk
  | [], b, x, h => by rw [show tabT [] = .leaf from rfl, get_leaf] at h; cases h
  | t :: ts, b, x, h => by
    rw [show tabT (t :: ts) = (tabT ts).set (path t.g) (some t.blk) from rfl, get_set] at h
    split at h
    · rename_i hp
      injection h with h
      exact ⟨t, List.mem_cons_self .., (path_inj hp).symm, h.symm⟩
    · obtain ⟨t', h1, h2⟩ := tabT_get h
      exact ⟨t', List.mem_cons_of_mem _ h1, h2⟩
theorem globT {w : World} {n : Nat} {ts : List Tb} (h : ∀ t ∈ ts, t.At n w) : HR (globB n) (.mk (tabT ts) n n) w := by
  refine ⟨fun b x hb => ?_, fun b b' x x' c κ κ' hb hb' e e' => ?_, fun b hb => if_neg (by have : n ≤ b := hb; omega), Nat.le_refl _⟩
  · obtain ⟨t, h1, rfl, rfl⟩ := tabT_get hb
    obtain ⟨h2, vs, h3, h4, h5⟩ := h t h1
    have hlen := conL_len h3
    refine ⟨h2, t.g, 0, if_pos h2, vs.toArray, (0, 0), h5, fun i _ hi => by omega, fun i hi => ?_, by simp; omega, fun _ => by simp; omega, fun h => by cases h⟩
    obtain ⟨av, hav⟩ : ∃ av, t.l[i]? = some av := ⟨_, List.getElem?_eq_getElem hi⟩
    obtain ⟨u, hu, hc⟩ := conL_get h3 hav
    refine ⟨av, u, ?_, by simpa using hu, hc, h4 u (List.mem_of_getElem? hu)⟩
    rw [get_putL, if_pos ⟨Nat.zero_le _, by omega⟩, Nat.sub_zero]; exact hav
  · unfold globB at e e'
    split at e
    · split at e'
      · injection e with e; injection e' with e'
        injection e with e1 _; injection e' with e2 _
        rw [e1, e2]
      · cases e'
    · cases e
theorem Runs.tabs {X : Nat → Nat} (r : Runs P X) {fuel d f n : Nat} {fn : Func} {c : Code} (hf : P.funcs[f]? = some fn) (hb : fn.body = some c) (hn : P.globals.size ≤ n) {xs : List AV} {vs : List Value} (hx : conL (globB n) xs = some vs) {w : World} {ts : List Tb} (ht : ∀ t ∈ ts, t.At n w)
    (H : callK P X fuel d f xs (.mk (tabT ts) n n) (fin n) = .yes) : Calls P f vs.toArray w fun e w' => e = .returned (.bool true) ∧ Below w.heap.size w w' :=
  r.top hf hb (globT ht) (globK P hn) hx H
theorem awakeAt_of {X : Nat → Nat} (r : Runs P X) {fuel d f n : Nat} {fn : Func} {c : Code} (hf : P.funcs[f]? = some fn) (hb : fn.body = some c) (hn : P.globals.size ≤ n) (hlt : ∀ e ∈ Sl.tabs, e.1 < n)
    (H : ∀ tys : Nat → TypeId, callK P X fuel d f [] (.mk (tabT (Sl.tabs.map fun e => ⟨e.1, tys e.1, e.2, 1⟩)) n n) (fin n) = .yes) : AwakeAt P f := by
  intro β h w hr hg ht
  have hty : ∃ tys : Nat → TypeId, ∀ e ∈ Sl.tabs, ∃ c sz, h.tr.get (path e.1) = some (.cells (tys e.1) e.2.length c true sz) ∧ ∀ j v, e.2[j]? = some v → c.get (path j) = some v := by
    refine ⟨fun g => match h.tr.get (path g) with | some (.cells ty _ _ _ _) => ty | _ => 0, fun e he => ?_⟩
    obtain ⟨⟨ty, c, sz, h1, h2⟩, -⟩ := ht e he
    refine ⟨c, sz, ?_, h2⟩
    dsimp only
    rw [h1]
  obtain ⟨tys, hty⟩ := hty
  have hb' : ∀ b x, (tabT (Sl.tabs.map fun e => (⟨e.1, tys e.1, e.2, 1⟩ : Tb))).get (path b) = some x → ∃ e ∈ Sl.tabs, e.1 = b ∧ x = Tb.blk ⟨e.1, tys e.1, e.2, 1⟩ := fun b x hx => by
    obtain ⟨t, h1, h2, h3⟩ := tabT_get hx
    obtain ⟨e, he, rfl⟩ := List.mem_map.1 h1
    exact ⟨e, he, h2, h3⟩
  have hr2 : HR (restr β n) (.mk (tabT (Sl.tabs.map fun e => ⟨e.1, tys e.1, e.2, 1⟩)) n n) w := by
    refine ⟨fun b x hb => ?_, fun b b' x x' c κ κ' hb hb2 e e' => ?_, fun b hb => restr_ge hb, Nat.le_refl _⟩
    · obtain ⟨e, he, rfl, rfl⟩ := hb' b x hb
      obtain ⟨c, sz, h1, h2⟩ := hty e he
      obtain ⟨-, cb, κ, g1, cs, fz, g2, g3, g4, g5, g6, -⟩ := hr.blk e.1 _ h1
      refine ⟨hlt e he, cb, κ, by rw [restr_lt (hlt e he)]; exact g1, cs, fz, g2, g3, fun i hi => ?_, g5, g6, fun h => by cases h⟩
      obtain ⟨av, u, p1, p2, p3, p4⟩ := g4 i hi
      have hav : e.2[i]? = some av := by
        have hi' : i < e.2.length := hi
        have := h2 i _ (List.getElem?_eq_getElem hi')
        rw [this] at p1; injection p1 with p1; rw [← p1]; exact List.getElem?_eq_getElem hi'
      refine ⟨av, u, ?_, p2, ?_, p4⟩
      · rw [get_putL, if_pos ⟨Nat.zero_le _, by omega⟩, Nat.sub_zero]; exact hav
      · rw [flat_con ((ht e he).2 av (List.mem_of_getElem? hav)) (restr β n) β]; exact p3
    · obtain ⟨e1, he1, rfl, -⟩ := hb' b x hb
      obtain ⟨e2, he2, rfl, -⟩ := hb' b' x' hb2
      obtain ⟨c1, sz1, h1, -⟩ := hty e1 he1
      obtain ⟨c2, sz2, h2, -⟩ := hty e2 he2
      exact hr.inj _ _ _ _ _ _ _ h1 h2 (restr_some e).2 (restr_some e').2
  have hg2 : GlobK P (restr β n) := fun g hlt => by
    obtain ⟨κ, e⟩ := hg g hlt
    exact ⟨κ, by rw [restr_lt (by omega)]; exact e⟩
  refine ⟨?_, r.top (vs := []) hf hb hr2 hg2 rfl (H tys)⟩
  unfold callFunc
  simp only [Sem.run_bind, run_program, Result.andThen_ok, hf]
  have hnn : (fn.name == "runtime.NumGoroutine") = false := by simpa using r.names f fn hf
  rw [hnn]
  simp [hb]
end Go.Ev
end
