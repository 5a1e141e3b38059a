/- The evaluator's calls are the model's. -/
import Derived.Test.YtniednnklbdciaaDoorEvQ
set_option linter.unusedVariables false
set_option linter.unusedSectionVars false
set_option linter.unusedSimpArgs false
namespace Go.Ev
variable [Sg] [Sl]
open Go.RowKit
variable {P : Program}

/-- An operation does this, with the globals in their places. -/
def OpHoldsG (P : Program) (o : Oper) (xs : List AV) (h : Hp) (v : AV) (h' : Hp) : Prop :=
  ∀ (β : Bt) (w : World) (a : Act), HR β h w → GlobK P β → conL β xs = some (o.op.operands.toList.map a.eval) → ∀ (K : Act → World → Prop) (Q : Exit → Act → World → Prop),
    (∀ β' w' u, Stp β h w β' h' w' → con β' v = some u → K (a.put o.dst u) w') → o.wp P a w K Q
theorem OpHolds.g {o : Oper} {xs : List AV} {h : Hp} {v : AV} {h' : Hp} (H : OpHolds P o xs h v h') : OpHoldsG P o xs h v h' := fun β w a hr _ hx K Q hK => H β w a hr hx K Q hK
def Came (β : Bt) (h : Hp) (w : World) (v : AV) (h' : Hp) (e : Ending) (w' : World) : Prop := ∃ β' u, e = .returned u ∧ Stp β h w β' h' w' ∧ con β' v = some u
/-- A function does this. -/
def FuncT (P : Program) (f : FuncId) (xs : List AV) (h : Hp) (v : AV) (h' : Hp) : Prop :=
  ∀ (β : Bt) (w : World) (vs : List Value), HR β h w → GlobK P β → conL β xs = some vs →
    ((callFunc f vs.toArray).run P w = .ok (.enter f vs.toArray) w ∧ Calls P f vs.toArray w (Came β h w v h')) ∨ (∃ u w', (callFunc f vs.toArray).run P w = .ok (.value u) w' ∧ Came β h w v h' (.returned u) w')
def CallSound (P : Program) (callf : CallF) : Prop := ∀ f xs h k, callf f xs h k = .yes → ∃ v h', k v h' = .yes ∧ FuncT P f xs h v h'
theorem applyK_sound {callf : CallF} (hc : CallSound P callf) {o : Oper} {F : Operand} {args : Array Operand} {ats : Array TypeId} (ho : o.op = .call ⟨.value F, args, ats⟩) {xs : List AV} {h : Hp} {k : AK} (H : applyK callf xs h k = .yes) :
    ∃ v h', k v h' = .yes ∧ OpHoldsG P o xs h v h' := by
  unfold applyK at H
  split at H
  · rename_i f first captured ys
    simp only [catK_eq] at H
    obtain ⟨v, h', h1, h2⟩ := hc _ _ _ _ H
    refine ⟨v, h', h1, fun β w a hr hg hx K Q hK => ?_⟩
    rw [ho] at hx
    have hx' : conL β (.fn (.func f) first captured :: ys) = some (a.eval F :: args.toList.map a.eval) := by simpa [Op.operands, Call.operands] using hx
    obtain ⟨v1, us, e1, e2, e3⟩ := conL_cons hx'
    injection e3 with e4 e5
    subst e5
    obtain ⟨x1, x2, g1, g2, g3⟩ := con_fn e1
    have hall := conL_append (conL_append g1 e2) g2
    unfold Oper.wp
    have hrun : (execOp a.eval o).run P w = (callFunc f ((x1 ++ args.toList.map a.eval) ++ x2).toArray).run P w := by
      have : execOp a.eval o = (do let d ← Go.resolve a.eval ⟨.value F, args, ats⟩ o.type; invoke d.target d.args) := by
        unfold execOp; rw [ho]
      rw [this]
      unfold Go.resolve Deferred.ofValue invoke
      simp only [e4, g3, Sem.run_bind, Sem.run_pure, Result.andThen_ok]
      congr 2
      apply Array.ext'
      simp
    rw [hrun]
    rcases h2 β w _ hr hg hall with ⟨r1, r2⟩ | ⟨u, w', r1, β', u', r2, r3, r4⟩
    · rw [r1]
      refine r2.mono fun e w' he => ?_
      obtain ⟨β', u, rfl, s1, s2⟩ := he
      exact hK β' w' u s1 s2
    · rw [r1]
      injection r2 with r2; subst r2
      exact hK β' w' u r3 r4
  · cases H
def resSem (tmps : Array Value) (r : ResultVar) : Sem Value := match r with
  | .tmp t => Pure.pure (tmps.getD t undef)
  | .cell a t => do loadVar t (← asAddr (tmps.getD a undef))
theorem results_eq (fn : Func) (tmps : Array Value) : results fn tmps = (do let vs ← fn.results.mapM (resSem tmps); Pure.pure (if h : vs.size = 1 then vs[0] else .tuple vs)) := rfl
theorem resOne_yes {r : ResultVar} {env : Tr AV} {h : Hp} {k : AV → Ans} (H : resOne r env h P k = .yes) :
    ∃ v, k v = .yes ∧ ∀ N ds β a w, Rel N ds β env h a w → ∃ u, (resSem a.tmps r).run P w = .ok u w ∧ con β v = some u := by
  unfold resOne at H
  cases r with
  | tmp t =>
    obtain ⟨v, hv, H1⟩ := getP_yes H
    exact ⟨v, H1, fun N ds β a w hr => ⟨_, rfl, hr.env t v hv⟩⟩
  | cell b t =>
    obtain ⟨p, hp, H1⟩ := getP_yes H
    obtain ⟨v, h1, h2⟩ := loadK_run H1
    refine ⟨v, h1, fun N ds β a w hr => ?_⟩
    have hb := hr.env b p hp
    obtain ⟨u, r1, r2⟩ := h2 β w _ hr.hr hb
    have hptr : ∃ x y, p = .ptr x y := by
      unfold loadK at H1
      split at H1
      · exact ⟨_, _, rfl⟩
      · cases H1
    obtain ⟨x, y, rfl⟩ := hptr
    obtain ⟨c, κ, _, e⟩ := con_ptr hb
    refine ⟨u, ?_, r2⟩
    show (do loadVar t (← asAddr (a.tmps.getD b undef)) : Sem Value).run P w = _
    rw [e] at r1 ⊢
    simpa [asAddr, Instr.loadAt, Instr.sureAddr] using r1
theorem resK_go {rs : List ResultVar} {env : Tr AV} {h : Hp} {k : List AV → Ans} (H : (List.rec (motive := fun _ => (List AV → Ans) → Ans) (fun k => k []) (fun r _ ih k => resOne r env h P fun v => ih fun vs => k (v :: vs)) rs k : Ans) = .yes) :
    ∃ l, k l = .yes ∧ ∀ N ds β a w, Rel N ds β env h a w → ∃ us : List Value, (rs.mapM (resSem a.tmps)).run P w = .ok us w ∧ conL β l = some us := by
  induction rs generalizing k with
  | nil => exact ⟨[], H, fun N ds β a w hr => ⟨[], rfl, rfl⟩⟩
  | cons r rs ih =>
    obtain ⟨v, H1, h1⟩ := resOne_yes H
    obtain ⟨l, H2, h2⟩ := ih H1
    refine ⟨v :: l, H2, fun N ds β a w hr => ?_⟩
    obtain ⟨u, e1, e2⟩ := h1 N ds β a w hr
    obtain ⟨us, e3, e4⟩ := h2 N ds β a w hr
    refine ⟨u :: us, ?_, conL_mk e2 e4⟩
    rw [List.mapM_cons, Sem.run_bind, e1, Result.andThen_ok, Sem.run_bind, e3]; rfl
theorem mapM_len {α γ : Type} {f : α → Sem γ} {w w' : World} : ∀ (l : List α) {us : List γ}, (l.mapM f).run P w = .ok us w' → l.length = us.length
  | [], us, h => by
    have h' : Result.ok ([] : List γ) w = Result.ok us w' := h
    injection h' with h1 h2
    rw [← h1]; rfl
  | x :: l, us, h => by
    rw [List.mapM_cons, Sem.run_bind] at h
    cases h1 : (f x).run P w with
    | halt a b => rw [h1] at h; cases h
    | ok v w1 =>
      rw [h1, Result.andThen_ok, Sem.run_bind] at h
      cases h2 : (l.mapM f).run P w1 with
      | halt a b => rw [h2] at h; cases h
      | ok vs w2 =>
        rw [h2, Result.andThen_ok] at h
        injection h with h3 h4
        rw [← h3, List.length_cons, List.length_cons, mapM_len l h2]
theorem resK_yes {fn : Func} {env : Tr AV} {h : Hp} {k : AV → Ans} (H : resK P fn.results.toList env h k = .yes) :
    ∃ v, k v = .yes ∧ ∀ N ds β a w, Rel N ds β env h a w → ∃ u, (results fn a.tmps).run P w = .ok u w ∧ con β v = some u := by
  have gen : ∀ (tmps : Array Value) (w : World) (us : List Value), ((fn.results.toList.mapM (resSem tmps)).run P w = .ok us w) →
      (results fn tmps).run P w = .ok (if h : us.toArray.size = 1 then us.toArray[0] else .tuple us.toArray) w := by
    intro tmps w us hu
    rw [results_eq]
    simp only [Array.mapM_eq_mapM_toList, Sem.run_bind, Sem.run_map]
    rw [hu]
    rfl
  unfold resK at H
  split at H
  · rename_i r hr1
    obtain ⟨v, H1, h1⟩ := resOne_yes H
    refine ⟨v, H1, fun N ds β a w hr => ?_⟩
    obtain ⟨u, e1, e2⟩ := h1 N ds β a w hr
    refine ⟨u, ?_, e2⟩
    rw [gen a.tmps w [u] (by rw [hr1, List.mapM_cons, Sem.run_bind, e1, Result.andThen_ok]; rfl)]
    rfl
  · rename_i hne
    obtain ⟨l, H1, h1⟩ := resK_go H
    refine ⟨.tup l, H1, fun N ds β a w hr => ?_⟩
    obtain ⟨us, e1, e2⟩ := h1 N ds β a w hr
    refine ⟨.tuple us.toArray, ?_, by simp only [con, e2, Option.map_some]⟩
    rw [gen a.tmps w us e1]
    have hlen : us.toArray.size ≠ 1 := by
      intro h1
      have h2 : us.length = 1 := by simpa using h1
      have h3 : fn.results.toList.length = us.length := mapM_len _ e1
      match hq : fn.results.toList, h3.trans h2 with
      | [r], _ => exact hne r hq
    rw [dif_neg hlen]
theorem flats_con (l : List AV) (h : flatB.flats l = true) (β β' : Bt) : conL β l = conL β' l := by
  induction l with
  | nil => rfl
  | cons x l ih =>
    have h1 : flatB.flat1 x = true ∧ flatB.flats l = true := by
      cases hx : flatB.flat1 x with
      | false =>
        have : flatB.flats (x :: l) = Bool.rec (motive := fun _ => Bool) false (flatB.flats l) (flatB.flat1 x) := rfl
        rw [this, hx] at h; cases h
      | true =>
        have : flatB.flats (x :: l) = Bool.rec (motive := fun _ => Bool) false (flatB.flats l) (flatB.flat1 x) := rfl
        rw [this, hx] at h; exact ⟨rfl, h⟩
    have hx : con β x = con β' x := by
      have := h1.1
      unfold flatB.flat1 at this
      cases x <;> first | rfl | cases this
    simp only [conL, hx, ih h1.2]
theorem flat_con {x : AV} (h : flatB x = true) (β β' : Bt) : con β x = con β' x := by
  unfold flatB at h
  cases x <;> first | rfl | (cases h; done) | skip
  · rename_i l; simp only [con, flats_con l h β β']
  · rename_i l; simp only [con, flats_con l h β β']
/-- What stands in the library's stead. -/
def ExtOK (P : Program) (X : Nat → Nat) : Prop := ∀ fuel callf, CallSound P callf → ∀ f c, X f = c + 1 → ∀ xs h k, extK P fuel callf f (c + 1) xs h k = .yes → ∃ v h', k v h' = .yes ∧ FuncT P f xs h v h'
theorem argsOk_yes {keep : Nat} : ∀ {xs : List AV} {n : Nat}, (List.rec (motive := fun _ => Nat → Bool) (fun _ => true) (fun _ _ ih n => Bool.rec (motive := fun _ => Bool) false (ih (Nat.succ n)) (inMask keep n)) xs n : Bool) = true → ∀ i, i < xs.length → inMask keep (n + i) = true
  | [], n, h, i, hi => by simp at hi
  | x :: xs, n, h, i, hi => by
    have h1 : inMask keep n = true ∧ (List.rec (motive := fun _ => Nat → Bool) (fun _ => true) (fun _ _ ih n => Bool.rec (motive := fun _ => Bool) false (ih (Nat.succ n)) (inMask keep n)) xs (Nat.succ n) : Bool) = true := by
      replace h : (Bool.rec (motive := fun _ => Bool) false (List.rec (motive := fun _ => Nat → Bool) (fun _ => true) (fun _ _ ih n => Bool.rec (motive := fun _ => Bool) false (ih (Nat.succ n)) (inMask keep n)) xs (Nat.succ n)) (inMask keep n) : Bool) = true := h
      cases hm : inMask keep n with
      | false => rw [hm] at h; cases h
      | true => rw [hm] at h; exact ⟨rfl, h⟩
    cases i with
    | zero => exact h1.1
    | succ i =>
      rw [show n + (i + 1) = n.succ + i by omega]
      exact argsOk_yes h1.2 i (by simpa using hi)
theorem callK_sound {X : Nat → Nat} (hX : ExtOK P X) (hN : ∀ (f : Nat) fn, P.funcs[f]? = some fn → fn.name ≠ "runtime.NumGoroutine") (hreg : ∀ callf, CallSound P callf → ∀ N keep, RegOK P callf N keep) (fuel : Nat) : ∀ d, CallSound P (callK P X fuel d) := by
  intro d
  induction d with
  | zero => intro f xs h k H; cases H
  | succ d ih =>
    intro f xs h k H
    cases hx : X f with
    | succ c =>
      refine hX fuel _ ih f c hx xs h k ?_
      replace H : (Nat.rec (motive := fun _ => Ans) _ (fun c _ => extK P fuel (callK P X fuel d) f (Nat.succ c) xs h k) (X f) : Ans) = .yes := H
      rw [hx] at H
      exact H
    | zero =>
    replace H : (Nat.rec (motive := fun _ => Ans) (Option.rec (motive := fun _ => Ans) (.no 171) (fun (fn : Func) => Option.rec (motive := fun _ => Ans) (.no (1000 + f)) (fun c =>
      match h with
      | .mk t n low => cnd (argsOk xs (keepF fn)) (initEnv xs fun env => run P (callK P X fuel d) fn.ntmps (keepF fn) fuel (compC P fn.ntmps (keepF fn) c) env (.mk t n n) fun e env h' =>
        match e, h' with
        | .exit _, _ => .no 172
        | .goto _, _ => .no 173
        | _, .mk t' n' low' => resK P fn.results.toList env h' fun v =>
          natMin low low' fun low'' => cnd (Nat.beq low' n) (cnd (flatB v) (k v h) (k v (.mk t' n' low''))) (k v (.mk t' n' low''))) (.no 174)) fn.body) P.funcs[f]?) (fun c _ => extK P fuel (callK P X fuel d) f (Nat.succ c) xs h k) (X f) : Ans) = .yes := H
    rw [hx] at H
    replace H : (Option.rec (motive := fun _ => Ans) (.no 171) (fun (fn : Func) => Option.rec (motive := fun _ => Ans) (.no (1000 + f)) (fun c =>
      match h with
      | .mk t n low => cnd (argsOk xs (keepF fn)) (initEnv xs fun env => run P (callK P X fuel d) fn.ntmps (keepF fn) fuel (compC P fn.ntmps (keepF fn) c) env (.mk t n n) fun e env h' =>
        match e, h' with
        | .exit _, _ => .no 172
        | .goto _, _ => .no 173
        | _, .mk t' n' low' => resK P fn.results.toList env h' fun v =>
          natMin low low' fun low'' => cnd (Nat.beq low' n) (cnd (flatB v) (k v h) (k v (.mk t' n' low''))) (k v (.mk t' n' low''))) (.no 174)) fn.body) P.funcs[f]? : Ans) = .yes := H
    cases hf : P.funcs[f]? with
    | none => rw [hf] at H; cases H
    | some fn =>
      simp only [hf] at H
      cases hb : fn.body with
      | none =>
        simp only [hb] at H
        cases H
      | some c =>
        simp only [hb] at H
        cases h with
        | mk t n low =>
          dsimp only at H
          obtain ⟨hargs, H⟩ := cnd_yes H
          unfold initEnv at H
          rw [writeL_eq] at H
          have hK : EnvK (keepF fn) (putL xs 0 .leaf) := by
            intro i hi
            rw [get_putL]
            split
            · rename_i hb2
              have := argsOk_yes hargs i (by omega)
              rw [Nat.zero_add, hi] at this; cases this
            · exact get_leaf _
          obtain ⟨e, env1, h1, H1, hK1, hw⟩ := run_sound (hreg _ ih fn.ntmps (keepF fn)) fuel (.code c) _ _ _ H hK
          have hex : (e = .normal ∨ e = .ret) ∧ ∃ t' n' low', h1 = .mk t' n' low' ∧ (resK P fn.results.toList env1 h1 fun v =>
              natMin low low' fun low'' => cnd (Nat.beq low' n) (cnd (flatB v) (k v (.mk t n low)) (k v (.mk t' n' low''))) (k v (.mk t' n' low''))) = .yes := by
            cases h1 with
            | mk t' n' low' =>
              cases e with
              | normal => exact ⟨.inl rfl, t', n', low', rfl, H1⟩
              | ret => exact ⟨.inr rfl, t', n', low', rfl, H1⟩
              | exit i => cases H1
              | goto l => cases H1
          obtain ⟨he, t', n', low', rfl, H2⟩ := hex
          obtain ⟨v, H3, hv⟩ := resK_yes H2
          rw [natMin_eq] at H3
          -- the world at the end
          have main : ∀ β w vs, HR β (.mk t n low) w → GlobK P β → conL β xs = some vs → ∀ hfin : Hp, (∀ β' w' u, Stp β (.mk t n n) w β' (.mk t' n' low') w' → con β' v = some u → ∃ β'', Stp β (.mk t n low) w β'' hfin w' ∧ con β'' v = some u) →
              ((callFunc f vs.toArray).run P w = .ok (.enter f vs.toArray) w ∧ Calls P f vs.toArray w (Came β (.mk t n low) w v hfin)) := by
            intro β w vs hr hg hx hfin hend
            refine ⟨?_, ?_⟩
            · unfold callFunc
              simp only [Sem.run_bind, run_program, Result.andThen_ok, hf]
              have hn : (fn.name == "runtime.NumGoroutine") = false := by
                simpa using hN f fn hf
              rw [hn]
              simp [hb]
            · refine calls_of_wp hf hb ?_
              have hr2 : HR β (.mk t n n) w := ⟨hr.blk, hr.inj, hr.fresh, Nat.le_refl _⟩
              have hlen := conL_len hx
              have hrel : Rel fn.ntmps [] β (putL xs 0 .leaf) (.mk t n n) { tmps := vs.toArray ++ Array.replicate (fn.ntmps - vs.toArray.size) undef, defers := [] } w := by
                refine ⟨hr2, fun i av hi => ?_, by simp; omega, rfl⟩
                rw [get_putL] at hi
                split at hi
                · rename_i hb2
                  obtain ⟨u, u1, u2⟩ := conL_get hx hi
                  rw [Nat.sub_zero] at u1
                  rw [u2]
                  congr 1
                  have hi2 : i < vs.length := by omega
                  simp [Array.getD, hi2]
                  rw [if_pos (by omega)]
                  rw [List.getElem?_eq_getElem hi2] at u1
                  injection u1 with u1
                  exact u1.symm
                · rw [get_leaf] at hi; cases hi
              refine wp_mono (hw [] β _ w hrel hg) fun ex a' w' hp => ?_
              obtain ⟨rfl, β', s1, r1⟩ := hp
              obtain ⟨u, g1, g2⟩ := hv fn.ntmps [] β' a' w' r1
              obtain ⟨β'', s2, g3⟩ := hend β' w' u s1 g2
              rcases he with rfl | rfl
              · exact ⟨r1.defers, u, g1, β'', u, rfl, s2, g3⟩
              · exact ⟨r1.defers, u, g1, β'', u, rfl, s2, g3⟩
          have keepCase : k v (.mk t' n' (min low low')) = .yes → ∃ v h', k v h' = .yes ∧ FuncT P f xs (.mk t n low) v h' := by
            intro H4
            refine ⟨v, _, H4, fun β w vs hr hg hx => .inl (main β w vs hr hg hx _ fun β' w' u s1 hc => ?_)⟩
            refine ⟨β', ⟨⟨s1.hr.blk, s1.hr.inj, s1.hr.fresh, ?_⟩, s1.nx, Nat.min_le_left _ _, s1.old, fun b c κ hb e => ?_, ⟨s1.kept.os, s1.kept.tape, s1.kept.output, s1.kept.size, fun c hc hne => ?_⟩⟩, hc⟩
            · have := s1.hr.low
              exact Nat.le_trans (Nat.min_le_right _ _) this
            · rcases s1.new b c κ hb e with h5 | ⟨x, κ', a1, a2, a3⟩
              · exact .inl h5
              · exact .inr ⟨x, κ', Nat.le_trans (Nat.min_le_right _ _) a1, a2, a3⟩
            · exact s1.kept.block c hc fun b κ hb => hne b κ (Nat.le_trans (Nat.min_le_right _ _) hb)
          rw [cnd_eq] at H3
          split at H3
          · rename_i hlow
            have hlow' := Nat.eq_of_beq_eq_true hlow
            rw [cnd_eq] at H3
            split at H3
            · rename_i hflat
              refine ⟨v, _, H3, fun β w vs hr hg hx => .inl (main β w vs hr hg hx _ fun β' w' u s1 hc => ?_)⟩
              refine ⟨β, ⟨⟨fun b x hbx => ?_, hr.inj, hr.fresh, hr.low⟩, Nat.le_refl _, Nat.le_refl _, fun _ _ => rfl, (fun b c κ hb e => by rw [hr.fresh b hb] at e; cases e), ⟨s1.kept.os, s1.kept.tape, s1.kept.output, s1.kept.size, fun c hc hne => ?_⟩⟩, by rw [flat_con hflat β β']; exact hc⟩
              · obtain ⟨q1, cb, κ, q2, q3⟩ := hr.blk b x hbx
                refine ⟨q1, cb, κ, q2, ?_⟩
                have hcb : cb < w.heap.size := by
                  cases x with
                  | cells e' len c ex esz => obtain ⟨cs, fz, e2, -⟩ := q3; exact (Array.getElem?_eq_some_iff.1 e2).1
                  | map es clock => obtain ⟨ms, e2, -⟩ := q3; exact (Array.getElem?_eq_some_iff.1 e2).1
                  | iter l p => exact (Array.getElem?_eq_some_iff.1 q3.1).1
                  | miter b s => obtain ⟨_, _, _, e2⟩ := q3; exact (Array.getElem?_eq_some_iff.1 e2).1
                rw [s1.kept.block cb hcb (fun b' κ' hb' e => ?_)]
                · exact q3
                · have : n ≤ b' := by rw [← hlow']; exact hb'
                  rw [hr.fresh b' this] at e; cases e
              · refine s1.kept.block c hc fun b' κ' hb' e => ?_
                have : n ≤ b' := by rw [← hlow']; exact hb'
                rw [hr.fresh b' this] at e; cases e
            · exact keepCase H3
          · exact keepCase H3
end Go.Ev
