/- The evaluator: a function that makes a tree, whole. -/
import Derived.Test.YtniednnklbdciaaDoorEvTH
set_option linter.unusedVariables false
set_option linter.unusedSectionVars false
set_option linter.unusedSimpArgs false
namespace Go.Ev
open Go.RowKit
/-- What is known of a function that makes a tree. -/
structure TreeAt (P : Program) (f : Nat) : Prop where
  ex : ∃ fn p fs fc, P.funcs[f]? = some fn ∧ (fn.name == "runtime.NumGoroutine") = false ∧ fn.body = some p.code ∧ Cy P fn.ntmps (keepF fn) p ∧ Cz P fn.ntmps (keepF fn) p fs fc
variable [Sg] [Sl]
variable {P : Program}

theorem partsOf_code (p : NewParts) : partsOf p.code = some p := by
  obtain ⟨r0, a1, r3, l1, r12, rest, i13, i14, i15, i16, i17, b2, b3, o13, o14, o15, o16, o17⟩ := p
  simp [partsOf, NewParts.code, NewParts.loopC, seqOf, regOf, blkOf, loopOf, exitOf]
/-- Codes, one behind the other. -/
theorem chain_sound {callf : CallF} {N keep fuel : Nat} (hreg : RegOK P callf N keep) : ∀ (cs : List Code) (env : Tr AV) (h : Hp) (k : Kont), chainK P callf N keep fuel cs env h k = .yes → EnvK keep env →
    ∃ e env' h', k e env' h' = .yes ∧ EnvK keep env' ∧ ∀ (c0 : Code) ds β a w, Rel N ds β env h a w → GlobK P β → ∀ Q : Exit → Act → World → Prop,
      (∀ a' w', Post N ds β h w env' h' a' w' → Exit.then (c0.wp P Q) Q (exOf e) a' w') → (cs.foldr Code.seq c0).wp P Q a w
  | [], env, h, k, H, hK => ⟨.normal, env, h, H, hK, fun c0 ds β a w hr hg Q hQ => hQ a w ⟨β, .refl hr.hr, hr⟩⟩
  | c :: cs, env, h, k, H, hK => by
    replace H : run P callf N keep fuel (compC P N keep c) env h (fun e env h => onNormal e (chainK P callf N keep fuel cs env h k) (k e env h)) = .yes := H
    obtain ⟨e, env1, h1, H1, hK1, hw1⟩ := run_sound hreg fuel (.code c) env h _ H hK
    rcases onNormal_yes H1 with ⟨rfl, H2⟩ | ⟨hne, H2⟩
    · obtain ⟨e2, env2, h2, H3, hK2, hw2⟩ := chain_sound hreg cs env1 h1 k H2 hK1
      refine ⟨e2, env2, h2, H3, hK2, fun c0 ds β a w hr hg Q hQ => ?_⟩
      refine wp_seq (wp_mono (hw1 ds β a w hr hg) fun ee a' w' hp => ?_)
      obtain ⟨rfl, β1, s1, r1⟩ := hp
      exact hw2 c0 ds β1 a' w' r1 (hg.le (s1.le hr.hr)) Q fun a2 w2 hp2 => hQ a2 w2 (hp2.trans hr.hr s1)
    · refine ⟨e, env1, h1, H2, hK1, fun c0 ds β a w hr hg Q hQ => ?_⟩
      refine wp_seq (wp_mono (hw1 ds β a w hr hg) fun ee a' w' hp => ?_)
      obtain ⟨rfl, hp⟩ := hp
      have := hQ a' w' hp
      cases e with
      | normal => exact absurd rfl hne
      | exit i => exact this
      | goto l => exact this
      | ret => exact this
theorem treeK_sound {f : Nat} (ht : TreeAt P f) (hm : P.follows .mixedOrders = true) {fuel : Nat} {callf : CallF} (hcall : CallSound P callf) {xs : List AV} {h : Hp} {k : AV → Hp → Ans} (H : treeK P fuel callf f xs h k = .yes) :
    ∃ v h', k v h' = .yes ∧ FuncT P f xs h v h' := by
  obtain ⟨fn, p, fs, fc, hf, hn, hbody, cy, cz⟩ := ht.ex
  obtain ⟨t, n, low⟩ := h
  unfold treeK at H
  rw [hf] at H
  replace H : (Option.rec (motive := fun _ => Ans) (.no 298) (fun (p : NewParts) =>
      cnd (argsOk xs (keepF fn)) (initEnv xs fun env => chainK P callf fn.ntmps (keepF fn) fuel [p.r0, p.a1, p.r3, p.l1, p.r12] env (.mk t n n) fun e env h1 =>
        onNormal e (midK P fn.ntmps (keepF fn) fuel p env h1 fun env h2 => run P callf fn.ntmps (keepF fn) fuel (compC P fn.ntmps (keepF fn) p.rest) env h2 fun e env h' => match e, h' with
        | .exit _, _ => .no 172
        | .goto _, _ => .no 173
        | _, .mk t' n' low' => resK P fn.results.toList env h' fun v => natMin low low' fun low'' => k v (.mk t' n' low'')) ((fun (e : Ex) (env : Tr AV) (h' : Hp) => (match e, h' with
        | .exit _, _ => .no 172
        | .goto _, _ => .no 173
        | _, .mk t' n' low' => resK P fn.results.toList env h' fun v => natMin low low' fun low'' => k v (.mk t' n' low'') : Ans)) e env h1)) (.no 174)) (fn.body.bind partsOf) : Ans) = .yes := H
  rw [hbody, Option.bind_some, partsOf_code] at H
  obtain ⟨hargs, H⟩ := cnd_yes H
  unfold initEnv at H
  rw [writeL_eq] at H
  have hK : EnvK (keepF fn) (putL xs 0 .leaf) := by
    intro i hi
    rw [get_putL]
    split
    · rename_i hb2
      have := argsOk_yes hargs i (by omega)
      rw [Nat.zero_add, hi] at this; cases this
    · exact get_leaf _
  obtain ⟨e, env1, h1, H1, hK1, hw1⟩ := chain_sound (regOK hm callf hcall fn.ntmps (keepF fn)) _ _ _ _ H hK
  -- the end
  have fin : ∃ e2 env2 h2, (e2 = .normal ∨ e2 = .ret) ∧ (∃ t' n' low', h2 = .mk t' n' low' ∧ (resK P fn.results.toList env2 h2 fun v => natMin low low' fun low'' => k v (.mk t' n' low'')) = .yes) ∧
      ∀ β a w, Rel fn.ntmps [] β (putL xs 0 .leaf) (.mk t n n) a w → GlobK P β → p.code.wp P (fun ex a' w' => ex = exOf e2 ∧ Post fn.ntmps [] β (.mk t n n) w env2 h2 a' w') a w := by
    have hend : ∀ {e2 : Ex} {env2 : Tr AV} {h2 : Hp}, (match e2, h2 with
        | .exit _, _ => (.no 172 : Ans)
        | .goto _, _ => .no 173
        | _, .mk t' n' low' => resK P fn.results.toList env2 h2 fun v => natMin low low' fun low'' => k v (.mk t' n' low'')) = .yes → (e2 = .normal ∨ e2 = .ret) ∧ (∃ t' n' low', h2 = .mk t' n' low' ∧ (resK P fn.results.toList env2 h2 fun v => natMin low low' fun low'' => k v (.mk t' n' low'')) = .yes) := by
      intro e2 env2 h2 he
      obtain ⟨t', n', low'⟩ := h2
      cases e2 with
      | normal => exact ⟨.inl rfl, t', n', low', rfl, he⟩
      | ret => exact ⟨.inr rfl, t', n', low', rfl, he⟩
      | exit i => cases he
      | goto l => cases he
    rcases onNormal_yes H1 with ⟨rfl, H2⟩ | ⟨hne, H2⟩
    · obtain ⟨env2, h2, H3, hK2, hw2⟩ := midK_sound cy cz H2 hK1
      obtain ⟨e3, env3, h3, H4, hK3, hw3⟩ := run_sound (regOK hm callf hcall fn.ntmps (keepF fn)) fuel (.code p.rest) _ _ _ H3 hK2
      obtain ⟨g1, g2⟩ := hend H4
      refine ⟨e3, env3, h3, g1, g2, fun β a w hr hg => ?_⟩
      refine hw1 (.seq (.seq (.region p.i13 p.ops13 false) (.block p.b2 (.loop p.loopC))) (.seq (.region p.i17 p.ops17 false) p.rest)) [] β a w hr hg _ fun a1 w1 hp => ?_
      obtain ⟨β1, s1, r1⟩ := hp
      have hg1 := hg.le (s1.le hr.hr)
      show (Code.seq _ _).wp P _ a1 w1
      refine wp_seq (wp_mono (hw2 [] β1 a1 w1 r1 hg1 (Exit.then (p.rest.wp P fun ex a' w' => ex = exOf e3 ∧ Post fn.ntmps [] β (.mk t n n) w env3 h3 a' w') (fun ex a' w' => ex = exOf e3 ∧ Post fn.ntmps [] β (.mk t n n) w env3 h3 a' w')) fun a2 w2 hp2 => ?_) fun ee a2 w2 he => ?_)
      · obtain ⟨β2, s2, r2⟩ := hp2
        show p.rest.wp P _ a2 w2
        refine wp_mono (hw3 [] β2 a2 w2 r2 (hg1.le (s2.le r1.hr))) fun ex a3 w3 hp3 => ?_
        exact ⟨hp3.1, (hp3.2.trans r1.hr s2).trans hr.hr s1⟩
      · cases ee with
        | normal => exact wp_seq he
        | exit i => exact he
        | goto l => exact he
        | ret => exact he
        | panic c => exact he
        | outgrown => exact he
    · obtain ⟨g1, g2⟩ := hend H2
      refine ⟨e, env1, h1, g1, g2, fun β a w hr hg => ?_⟩
      refine hw1 (.seq (.seq (.region p.i13 p.ops13 false) (.block p.b2 (.loop p.loopC))) (.seq (.region p.i17 p.ops17 false) p.rest)) [] β a w hr hg _ fun a1 w1 hp => ?_
      cases e with
      | normal => exact absurd rfl hne
      | exit i => exact ⟨rfl, hp⟩
      | goto l => exact ⟨rfl, hp⟩
      | ret => exact ⟨rfl, hp⟩
  obtain ⟨e2, env2, h2, he, ⟨t', n', low', rfl, H5⟩, hw⟩ := fin
  obtain ⟨v, H6, hv⟩ := resK_yes H5
  rw [natMin_eq] at H6
  refine ⟨v, _, H6, fun β w vs hr hg hx => .inl ⟨?_, ?_⟩⟩
  · unfold callFunc
    simp only [Sem.run_bind, run_program, Result.andThen_ok, hf]
    rw [hn]
    simp [hbody]
  · refine calls_of_wp hf hbody ?_
    have hr2 : HR β (.mk t n n) w := ⟨hr.blk, hr.inj, hr.fresh, Nat.le_refl _⟩
    have hlen := conL_len hx
    have hrel : Rel fn.ntmps [] β (putL xs 0 .leaf) (.mk t n n) { tmps := vs.toArray ++ Array.replicate (fn.ntmps - vs.toArray.size) undef, defers := [] } w := by
      refine ⟨hr2, fun i av hi => ?_, by simp; omega, rfl⟩
      rw [get_putL] at hi
      split at hi
      · rename_i hb2
        obtain ⟨u, u1, u2⟩ := conL_get hx hi
        rw [Nat.sub_zero] at u1
        rw [u2]
        congr 1
        have hi2 : i < vs.length := by omega
        simp [Array.getD, hi2]
        rw [if_pos (by omega)]
        rw [List.getElem?_eq_getElem hi2] at u1
        injection u1 with u1
        exact u1.symm
      · rw [get_leaf] at hi; cases hi
    refine wp_mono (hw β _ w hrel hg) fun ex a' w' hp => ?_
    obtain ⟨rfl, β', s1, r1⟩ := hp
    obtain ⟨u, g1, g2⟩ := hv fn.ntmps [] β' a' w' r1
    have s2 : Stp β (.mk t n low) w β' (.mk t' n' (min low low')) w' := by
      refine ⟨⟨s1.hr.blk, s1.hr.inj, s1.hr.fresh, ?_⟩, s1.nx, Nat.min_le_left _ _, s1.old, fun b c κ hb e => ?_, ⟨s1.kept.os, s1.kept.tape, s1.kept.output, s1.kept.size, fun c hc hne => ?_⟩⟩
      · have := s1.hr.low
        exact Nat.le_trans (Nat.min_le_right _ _) this
      · rcases s1.new b c κ hb e with h5 | ⟨x, κ', a1, a2, a3⟩
        · exact .inl h5
        · exact .inr ⟨x, κ', Nat.le_trans (Nat.min_le_right _ _) a1, a2, a3⟩
      · exact s1.kept.block c hc fun b κ hb => hne b κ (Nat.le_trans (Nat.min_le_right _ _) hb)
    rcases he with rfl | rfl
    · exact ⟨r1.defers, u, g1, β', u, rfl, s2, g2⟩
    · exact ⟨r1.defers, u, g1, β', u, rfl, s2, g2⟩
end Go.Ev
