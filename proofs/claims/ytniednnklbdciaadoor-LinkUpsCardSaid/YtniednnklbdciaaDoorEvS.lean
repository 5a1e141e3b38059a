/- The evaluator's regions: operations by their operands. -/
import Derived.Test.YtniednnklbdciaaDoorEvR
import Derived.Orders
set_option linter.unusedVariables false
set_option linter.unusedSectionVars false
set_option linter.unusedSimpArgs false
namespace Go.Ev
variable [Sg] [Sl]
open Go.RowKit
variable {P : Program}

theorem inMask_eq (a t : Nat) : inMask a t = a.testBit t := by
  unfold inMask
  show Nat.beq ((a >>> t) &&& 1) 1 = _
  rw [Nat.testBit, Nat.and_comm]
  have : (1 &&& (a >>> t)) = (a >>> t) % 2 := by rw [Nat.and_comm]; exact Nat.and_one_is_mod _
  rw [this]
  rcases Nat.mod_two_eq_zero_or_one (a >>> t) with h | h <;> rw [h] <;> rfl
theorem inMask_or (a t s : Nat) : inMask (orMask a t) s = (inMask a s || decide (t = s)) := by
  rw [inMask_eq, inMask_eq]
  show (a ||| 2 ^ t).testBit s = _
  rw [Nat.testBit_or, Nat.testBit_two_pow]
theorem inMask_lor (a b s : Nat) : inMask (Nat.lor a b) s = (inMask a s || inMask b s) := by
  rw [inMask_eq, inMask_eq, inMask_eq]
  exact Nat.testBit_or a b s
theorem inMask_zero (s : Nat) : inMask 0 s = false := by rw [inMask_eq]; exact Nat.zero_testBit s

abbrev Cv := Nat → Option AV
def updO (cv : Cv) (d : Option Tmp) (v : Option AV) : Cv := match d with
  | some d => fun t => if t = d then v else cv t
  | none => cv
/-- The value of an operand, as the evaluator knows the temporaries. -/
noncomputable def opnd (P : Program) (cv : Cv) (x : Operand) : Option AV := match x with
  | .tmp t => cv t
  | .const v => if okConst v = true then some (toAV v) else none
  | .global g => if g < P.globals.size then some (.ptr g 0) else none
  | .func f => some (.fn (.func f) [] [])
noncomputable def opnds (P : Program) (cv : Cv) : List Operand → Option (List AV)
  | [] => some []
  | x :: xs => (opnd P cv x).bind fun v => (opnds P cv xs).map (v :: ·)
/-- What the evaluator knows of the temporaries holds. -/
def CvR (β : Bt) (cv : Cv) (tmps : Array Value) : Prop := ∀ t av, cv t = some av → con β av = some (tmps.getD t undef)
theorem opnd_con {β : Bt} {cv : Cv} {a : Act} (hc : CvR β cv a.tmps) (hg : GlobK P β) {x : Operand} {av : AV} (h : opnd P cv x = some av) : con β av = some (a.eval x) := by
  cases x with
  | tmp t => exact hc t av h
  | const v =>
    replace h : (if okConst v = true then some (toAV v) else none) = some av := h
    split at h
    · rename_i ho; injection h with h; subst h; exact toAV_con β ho
    · cases h
  | global g =>
    replace h : (if g < P.globals.size then some (AV.ptr g 0) else none) = some av := h
    split at h
    · rename_i hlt; injection h with h; subst h
      obtain ⟨κ, e⟩ := hg g hlt
      simp only [con, e]; rfl
    · cases h
  | func f => replace h : some (AV.fn (.func f) [] []) = some av := h; injection h with h; subst h; rfl
theorem opnds_con {β : Bt} {cv : Cv} {a : Act} (hc : CvR β cv a.tmps) (hg : GlobK P β) : ∀ {xs : List Operand} {l : List AV}, opnds P cv xs = some l → conL β l = some (xs.map a.eval)
  | [], l, h => by injection h with h; subst h; rfl
  | x :: xs, l, h => by
    simp only [opnds, Option.bind_eq_some_iff, Option.map_eq_some_iff] at h
    obtain ⟨v, h1, vs, h2, rfl⟩ := h
    exact conL_mk (opnd_con hc hg h1) (opnds_con hc hg h2)
/-- Is it carried out? -/
def wantedA (ops : List Oper) (cv : Cv) (o : Oper) : Option Bool := match o.guard with
  | none => some true
  | some (g, want) => match (ops[g]?).bind (·.dst) with
    | some d => match cv d with
      | some (.bool b) => some (b == want)
      | some (.tup _) => some false
      | _ => none
    | none => none
theorem wantedA_con {β : Bt} {cv : Cv} {tmps : Array Value} (hc : CvR β cv tmps) {ops : Array Oper} {o : Oper} {b : Bool} (h : wantedA ops.toList cv o = some b) : Region.wanted o (yielded ops tmps) = b := by
  unfold wantedA at h
  unfold Region.wanted
  cases hg : o.guard with
  | none => rw [hg] at h; injection h
  | some p =>
    obtain ⟨g, want⟩ := p
    rw [hg] at h
    dsimp only at h ⊢
    have e1 : ops.toList[g]? = ops[g]? := by simp
    rw [e1] at h
    cases hd : (ops[g]?).bind (·.dst) with
    | none => rw [hd] at h; cases h
    | some d =>
      rw [hd] at h
      dsimp only at h
      unfold yielded
      rw [hd, Option.bind_some]
      cases hv : cv d with
      | none => rw [hv] at h; cases h
      | some av =>
        have hcon := hc d av hv
        rw [hv] at h
        have hget : ∀ x, tmps.getD d undef = x → x ≠ undef → tmps[d]? = some x := by
          intro x hx hne
          by_cases hlt : d < tmps.size
          · rw [Array.getElem?_eq_getElem hlt]
            simp [Array.getD, hlt] at hx
            rw [hx]
          · simp [Array.getD, hlt] at hx
            exact absurd hx.symm hne
        cases av
        case bool x =>
          dsimp only at h
          injection h with h
          have := con_bool hcon
          rw [hget _ this (by intro e; cases e)]
          dsimp only
          rw [← h]
          cases x <;> cases want <;> rfl
        case tup l =>
          dsimp only at h
          injection h with h
          obtain ⟨vs, _, e⟩ := con_tup hcon
          rw [← h]
          cases ht : tmps[d]? with
          | none => rfl
          | some z =>
            have hlt := (Array.getElem?_eq_some_iff.1 ht).1
            have : z = .tuple vs.toArray := by
              rw [Array.getElem?_eq_getElem hlt] at ht
              injection ht with ht
              rw [← e, ← ht]
              simp [Array.getD, hlt]
            subst this
            cases want <;> rfl
        all_goals (dsimp only at h; cases h)
/-- Of the places in a region: each is what is known. -/
structure Loc (P : Program) (D : Dl) (now : Nat) (L : List AV) (env : Tr AV) (cv : Cv) : Prop where
  len : L.length = now
  res : ∀ t av, rfGet (resolveD D now t) L env = some av → cv t = some av
theorem Loc.opnd {D : Dl} {now : Nat} {L : List AV} {env : Tr AV} {cv : Cv} (h : Loc P D now L env cv) {x : Operand} {av : AV} (hx : rfGet (rfOp P D now x) L env = some av) : opnd P cv x = some av := by
  cases x with
  | tmp t => exact h.res t av hx
  | const v =>
    rw [rfOp_const] at hx
    show (if okConst v = true then some (toAV v) else none) = some av
    split at hx
    · rename_i ho; rw [if_pos ho]; exact hx
    · cases hx
  | global g =>
    replace hx : rfGet (match Nat.blt g P.globals.size with | true => Rf.cst (.ptr g 0) | false => Rf.bad) L env = some av := hx
    show (if g < P.globals.size then some (AV.ptr g 0) else none) = some av
    split at hx
    · rename_i hb
      rw [if_pos (by simpa using hb)]; exact hx
    · cases hx
  | func f => exact hx
theorem rfsK_yes {rs : List Rf} {L : List AV} {env : Tr AV} {k : List AV → Ans} (H : rfsK rs L env k = .yes) : ∃ vs, k vs = .yes ∧ vs.length = rs.length ∧ ∀ (i : Nat) r v, rs[i]? = some r → vs[i]? = some v → rfGet r L env = some v := by
  induction rs generalizing k with
  | nil => exact ⟨[], H, rfl, fun i r v h => by simp at h⟩
  | cons r rs ih =>
    obtain ⟨v, H1, hv⟩ := rfK_yes (k := fun v => rfsK rs L env fun vs => k (v :: vs)) H
    obtain ⟨vs, H2, h1, h2⟩ := ih H1
    refine ⟨v :: vs, H2, by simp [h1], fun i r' v' hr hv' => ?_⟩
    cases i with
    | zero => simp at hr hv'; subst hr; subst hv'; exact hv
    | succ i => exact h2 i r' v' (by simpa using hr) (by simpa using hv')
theorem Loc.opnds {D : Dl} {now : Nat} {L : List AV} {env : Tr AV} {cv : Cv} (h : Loc P D now L env cv) : ∀ {xs : List Operand} {vs : List AV}, vs.length = (xs.map (rfOp P D now)).length → (∀ (i : Nat) r v, (xs.map (rfOp P D now))[i]? = some r → vs[i]? = some v → rfGet r L env = some v) → opnds P cv xs = some vs
  | [], [], _, _ => rfl
  | [], _ :: _, hl, _ => by simp at hl
  | _ :: _, [], hl, _ => by simp at hl
  | x :: xs, v :: vs, hl, hx => by
    have h1 := h.opnd (x := x) (hx 0 _ v (by simp) (by simp))
    have h2 := Loc.opnds h (xs := xs) (vs := vs) (by simpa using hl) (fun i r u hr hu => hx (i + 1) r u (by simpa using hr) (by simpa using hu))
    simp only [Ev.opnds, h1, h2]; rfl
/-- What an operation is carried out to. -/
def Acts (P : Program) (o : Oper) (cv : Cv) (h : Hp) (v : AV) (h1 : Hp) : Prop :=
  ∃ xs, opnds P cv o.op.operands.toList = some xs ∧ OpHoldsG P o xs h v h1 ∧ (quietOp P o.op = true → h1 = h ∧ ∀ h2, OpHoldsG P o xs h2 v h2)
theorem bare_yes {callf : CallF} (hcall : CallSound P callf) {keep : Nat} {o : Oper} {D : Dl} {now : Nat} {L : List AV} {env : Tr AV} {cv : Cv} (hl : Loc P D now L env cv) {h : Hp} {fs : Frees} {k : Option Pa → AV → Hp → Frees → Ans}
    (H : doCO callf (bareCO P keep o D now) L env h fs k = .yes) : ∃ v h1, k (dstP keep o) v h1 fs = .yes ∧ Acts P o cv h v h1 := by
  have gen : ∀ (c : OpC), OpCOk P o c → doCO callf (bareOf c (o.op.operands.toList.map (rfOp P D now)) (dstP keep o)) L env h fs k = .yes → ∃ v h1, k (dstP keep o) v h1 fs = .yes ∧ Acts P o cv h v h1 := by
    intro c hc H
    unfold bareOf at H
    split at H
    · rename_i f r hargs
      obtain ⟨x, H1, hx⟩ := rfK_yes (k := fun x => f x h fun v h => k (dstP keep o) v h fs) H
      obtain ⟨v, h1, H2, h3, h4⟩ := hc x h _ H1
      refine ⟨v, h1, H2, [x], hl.opnds (by rw [hargs]; rfl) (fun i r' v' hr hv' => ?_), h3.g, fun hq => ⟨(h4 hq).1, fun h2 => ((h4 hq).2 h2).g⟩⟩
      rw [hargs] at hr
      cases i with
      | zero => simp at hr hv'; subst hr; subst hv'; exact hx
      | succ i => simp at hr
    · rename_i f r s hargs
      obtain ⟨x, H1, hx⟩ := rfK_yes (k := fun x => rfK s L env fun y => f x y h fun v h => k (dstP keep o) v h fs) H
      obtain ⟨y, H2, hy⟩ := rfK_yes (k := fun y => f x y h fun v h => k (dstP keep o) v h fs) H1
      obtain ⟨v, h1, H3, h3, h4⟩ := hc x y h _ H2
      refine ⟨v, h1, H3, [x, y], hl.opnds (by rw [hargs]; rfl) (fun i r' v' hr hv' => ?_), h3.g, fun hq => ⟨(h4 hq).1, fun h2 => ((h4 hq).2 h2).g⟩⟩
      rw [hargs] at hr
      match i with
      | 0 => simp at hr hv'; subst hr; subst hv'; exact hx
      | 1 => simp at hr hv'; subst hr; subst hv'; exact hy
      | i + 2 => simp at hr
    · rename_i f
      obtain ⟨xs, H1, hx1, hx2⟩ := rfsK_yes (k := fun xs => f xs h fun v h => k (dstP keep o) v h fs) H
      obtain ⟨v, h1, H2, h3, h4⟩ := hc xs h _ H1
      exact ⟨v, h1, H2, xs, hl.opnds hx1 hx2, h3.g, fun hq => ⟨(h4 hq).1, fun h2 => ((h4 hq).2 h2).g⟩⟩
    · cases H
    · cases H
  unfold bareCO at H
  split at H
  · rename_i x hop
    obtain ⟨v, H1, hx⟩ := rfK_yes (k := fun v => k (dstP keep o) v h fs) H
    have hh : ∀ h2, OpHoldsG P o [v] h2 v h2 := fun h2 => (OpHolds.pure fun β w a hx2 => by
      rw [hop] at hx2
      exact ⟨a.eval x, by simp [execOp, hop], conL1 hx2⟩).g
    refine ⟨v, h, H1, [v], ?_, hh h, fun _ => ⟨rfl, hh⟩⟩
    rw [hop]
    show opnds P cv [x] = some [v]
    simp only [opnds, hl.opnd hx]; rfl
  · rename_i x hop
    obtain ⟨v, H1, hx⟩ := rfK_yes (k := fun v => k (dstP keep o) v h fs) H
    have hh : ∀ h2, OpHoldsG P o [v] h2 v h2 := fun h2 => (OpHolds.pure fun β w a hx2 => by
      rw [hop] at hx2
      exact ⟨a.eval x, by simp [execOp, hop], conL1 hx2⟩).g
    refine ⟨v, h, H1, [v], ?_, hh h, fun _ => ⟨rfl, hh⟩⟩
    rw [hop]
    show opnds P cv [x] = some [v]
    simp only [opnds, hl.opnd hx]; rfl
  · rename_i F args ats hop
    replace H : rfsK ((F :: args.toList).map (rfOp P D now)) L env (fun xs => applyK callf xs h fun v h => k (dstP keep o) v h fs) = .yes := H
    obtain ⟨xs, H1, hx1, hx2⟩ := rfsK_yes H
    obtain ⟨v, h1, H2, h3⟩ := applyK_sound hcall hop H1
    refine ⟨v, h1, H2, xs, ?_, h3, fun hq => by rw [hop] at hq; cases hq⟩
    rw [hop]
    have e : (Op.call ⟨.value F, args, ats⟩).operands.toList = F :: args.toList := by simp [Op.operands, Call.operands]
    rw [e]
    exact hl.opnds hx1 hx2
  · exact gen _ (opC_sound o) H
end Go.Ev
