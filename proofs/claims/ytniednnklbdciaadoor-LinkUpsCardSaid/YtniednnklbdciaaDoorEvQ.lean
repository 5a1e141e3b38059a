/- The evaluator's code is the model's: statements. -/
import Derived.Test.YtniednnklbdciaaDoorEvP
set_option linter.unusedVariables false
set_option linter.unusedSectionVars false
set_option linter.unusedSimpArgs false
namespace Go.Ev
variable [Sg]
open Go.RowKit
variable {P : Program}

/-- What is kept. -/
def EnvK (keep : Nat) (env : Tr AV) : Prop := ∀ t, inMask keep t = false → env.get (path t) = none
/-- A state stands for a frame and a world. -/
structure Rel (N : Nat) (ds : List Deferred) (β : Bt) (env : Tr AV) (h : Hp) (a : Act) (w : World) : Prop where
  hr : HR β h w
  env : ∀ t av, env.get (path t) = some av → con β av = some (a.tmps.getD t undef)
  size : N ≤ a.tmps.size
  defers : a.defers = ds
def Post (N : Nat) (ds : List Deferred) (β : Bt) (h : Hp) (w : World) (env' : Tr AV) (h' : Hp) (a' : Act) (w' : World) : Prop :=
  ∃ β', Stp β h w β' h' w' ∧ Rel N ds β' env' h' a' w'
def exOf : Ex → Exit
  | .normal => .normal
  | .exit id => .exit id
  | .goto l => .goto l
  | .ret => .ret
/-- Globals lie where they lie. -/
def GlobK (P : Program) (β : Bt) : Prop := ∀ g, g < P.globals.size → ∃ κ, β g = some (g, κ)
/-- What stands on the list of things to do. -/
def Wp (P : Program) (items : List Item) (Q : Exit → Act → World → Prop) (a : Act) (w : World) : Prop :=
  ∀ (b : Frame) (k : List Item) (cs : List Frame), ∃ e a' w', Q e a' w' ∧ Arrives P (lone (b.at a (items ++ k)) cs w) b k cs e a' w'
inductive Task where
  | code (c : Code)
  | loop (c : Code)
  | scope (c c0 : Code)
noncomputable def Task.cc (P : Program) (N keep : Nat) : Task → CC
  | .code c => compC P N keep c
  | .loop c => .loop (compC P N keep c)
  | .scope c c0 => .scope c (compC P N keep c0)
def Task.items : Task → List Item
  | .code c => [.code c]
  | .loop c => [.code c, .inLoop c]
  | .scope c c0 => [.code c0, .inScope c]
noncomputable def runR (callf : CallF) (os : List CO) (env : Tr AV) (h : Hp) (k : Tr AV → Hp → Ans) : Ans :=
  Bool.rec (motive := fun _ => Ans) (runSeq callf os [] env h k) (runFree callf os [] env h [] [(0, h)] [] k) (os.any isFree)
/-- Regions do what is said. -/
def RegOK (P : Program) (callf : CallF) (N keep : Nat) : Prop :=
  ∀ id ops draw os env h (k : Tr AV → Hp → Ans), compR P N ops keep draw = some os → runR callf os env h k = .yes → EnvK keep env →
    ∃ env' h', k env' h' = .yes ∧ EnvK keep env' ∧ ∀ ds β a w, Rel N ds β env h a w → GlobK P β → (Code.region id ops draw).wp P (fun e a' w' => e = .normal ∧ Post N ds β h w env' h' a' w') a w
/-- What is found there. -/
def rfGet (r : Rf) (L : List AV) (env : Tr AV) : Option AV := match r with
  | .loc n => L[n]?
  | .var p => env.get p
  | .cst u => some u
  | .bad => none
theorem rfK_yes {r : Rf} {L : List AV} {env : Tr AV} {k : AV → Ans} (H : rfK r L env k = .yes) : ∃ v, k v = .yes ∧ rfGet r L env = some v := by
  cases r with
  | loc n => obtain ⟨v, h1, h2⟩ := nthK_yes H; exact ⟨v, h2, h1⟩
  | var p => obtain ⟨v, h1, h2⟩ := getP_yes H; exact ⟨v, h2, h1⟩
  | cst u => exact ⟨u, H, rfl⟩
  | bad => cases H
theorem rfOp_const (P : Program) (D : Dl) (now : Nat) (u : Value) : rfOp P D now (.const u) = if okConst u = true then .cst (toAV u) else .bad := by
  show (match okConst u with | true => Rf.cst (toAV u) | false => Rf.bad) = _
  cases okConst u <;> rfl
theorem toAV1_con (β : Bt) {v : Value} (h : v.oneCell' = true) : con β (toAV1 v) = some v := by
  unfold toAV1
  split
  · rfl
  · rfl
  · rfl
  · rfl
  · exact con_str β _
  · unfold con; rw [if_pos h]
theorem toAVs_con (β : Bt) : ∀ {l : List Value}, (∀ u ∈ l, u.oneCell' = true) → conL β (l.map toAV1) = some l
  | [], _ => rfl
  | v :: l, h => conL_mk (toAV1_con β (h v (List.mem_cons_self ..))) (toAVs_con β fun u hu => h u (List.mem_cons_of_mem _ hu))
theorem flat_one {v : Value} (h : okConst.flat v = true) : v.oneCell' = true := by
  cases v <;> first | rfl | cases h
theorem toAV_con (β : Bt) {v : Value} (h : okConst v = true) : con β (toAV v) = some v := by
  unfold toAV
  split
  · rename_i cs
    have h' : ∀ u ∈ cs.toList, u.oneCell' = true := fun u hu => flat_one (List.all_eq_true.1 h u hu)
    rw [con_agg_mk (toAVs_con β h') h']
  · rename_i cs
    have h' : ∀ u ∈ cs.toList, u.oneCell' = true := fun u hu => flat_one (List.all_eq_true.1 h u hu)
    simp only [con, toAVs_con β h', Option.map_some]
  · rename_i h1 h2
    exact toAV1_con β (by cases v <;> first | rfl | exact absurd rfl (h1 _) | exact absurd rfl (h2 _))
theorem Wp.step {items items' : List Item} {Q : Exit → Act → World → Prop} {a : Act} {w : World} (hs : ∀ (b : Frame) (k : List Item) (cs : List Frame), step P (lone (b.at a (items ++ k)) cs w) = .next (lone (b.at a (items' ++ k)) cs w)) (h : Wp P items' Q a w) : Wp P items Q a w := by
  intro b k cs
  obtain ⟨e, a', w', hq, har⟩ := h b k cs
  exact ⟨e, a', w', hq, .of_steps (.one (hs b k cs)) har⟩
theorem Wp.code {c : Code} {Q : Exit → Act → World → Prop} {a : Act} {w : World} : Wp P [.code c] Q a w ↔ c.wp P Q a w := Iff.rfl
/-- Code, and then what stands behind it. -/
theorem Wp.then {c : Code} {x : Item} (hx : x.plain = true) {Q : Exit → Act → World → Prop} {a : Act} {w : World} (h : c.wp P (fun e a' w' => match e with | .normal => Wp P [x] Q a' w' | e => Q e a' w') a w) : Wp P [.code c, x] Q a w := by
  intro b k cs
  obtain ⟨e, a1, w1, hq, har⟩ := h b (x :: k) cs
  cases e with
  | normal =>
    obtain ⟨e2, a2, w2, hq2, har2⟩ := hq b k cs
    exact ⟨e2, a2, w2, hq2, .of_steps har har2⟩
  | exit id => exact ⟨_, a1, w1, hq, .pass (x := x) hx (fun _ _ => .inl (by simp)) har⟩
  | goto l => exact ⟨_, a1, w1, hq, .pass (x := x) hx (fun _ _ => .inl (by simp)) har⟩
  | ret => exact ⟨_, a1, w1, hq, .pass (x := x) hx (fun _ _ => .inl (by simp)) har⟩
  | panic ch => exact ⟨_, a1, w1, hq, .pass (x := x) hx (fun _ _ => .inl (by simp)) har⟩
  | outgrown => exact ⟨_, a1, w1, hq, .pass (x := x) hx (fun _ _ => .inl (by simp)) har⟩
/-- Code within a scope. -/
theorem Wp.scope {c c0 : Code} {Q : Exit → Act → World → Prop} {a : Act} {w : World} (h : c0.wp P (fun e a' w' => match e with
      | .goto l => (∃ rest, findLabel c l = some rest ∧ Wp P [.code rest, .inScope c] Q a' w') ∨ (findLabel c l = none ∧ Q (.goto l) a' w')
      | e => Q e a' w') a w) : Wp P [.code c0, .inScope c] Q a w := by
  intro b k cs
  obtain ⟨e, a1, w1, hq, har⟩ := h b (.inScope c :: k) cs
  cases e with
  | normal => exact ⟨.normal, a1, w1, hq, Steps.trans har (.one step_inScope)⟩
  | exit id => exact ⟨.exit id, a1, w1, hq, fun k' hk => har k' (by simp [exitTo, hk])⟩
  | goto l =>
    rcases hq with ⟨rest, hf, h2⟩ | ⟨hf, hq⟩
    · obtain ⟨e2, a2, w2, hq2, har2⟩ := h2 b k cs
      exact ⟨e2, a2, w2, hq2, .of_steps (har _ (by simp [gotoIn, hf])) har2⟩
    · exact ⟨.goto l, a1, w1, hq, fun k' hk => har k' (by simp [gotoIn, hf, hk])⟩
  | ret => exact ⟨_, a1, w1, hq, har⟩
  | panic ch => exact ⟨_, a1, w1, hq, har⟩
  | outgrown => exact ⟨_, a1, w1, hq, har⟩
theorem onNormal_yes {e : Ex} {x y : Ans} (h : onNormal e x y = .yes) : (e = .normal ∧ x = .yes) ∨ (e ≠ .normal ∧ y = .yes) := by
  cases e <;> first | exact .inl ⟨rfl, h⟩ | exact .inr ⟨(by intro h; cases h), h⟩
theorem onExit_yes {e : Ex} {id : Nat} {x y : Ans} (h : onExit e id x y = .yes) : (e = .exit id ∧ x = .yes) ∨ (e ≠ .exit id ∧ y = .yes) := by
  cases e
  case exit i =>
    replace h : cnd (Nat.beq i id) x y = .yes := h
    rw [cnd_eq] at h
    split at h
    · rename_i hb; rw [Nat.eq_of_beq_eq_true hb]; exact .inl ⟨rfl, h⟩
    · rename_i hb; exact .inr ⟨(fun e => by injection e with e; subst e; exact hb (Nat.beq_refl i)), h⟩
  all_goals exact .inr ⟨(by intro h; cases h), h⟩
theorem onGoto_yes {e : Ex} {x : Nat → Ans} {y : Ans} (h : onGoto e x y = .yes) : (∃ l, e = .goto l ∧ x l = .yes) ∨ ((∀ l, e ≠ .goto l) ∧ y = .yes) := by
  cases e <;> first | exact .inl ⟨_, rfl, h⟩ | exact .inr ⟨(by intro l h; cases h), h⟩
/-- The conclusion of a run. -/
def Ends (P : Program) (N keep : Nat) (items : List Item) (env : Tr AV) (h : Hp) (k : Kont) : Prop :=
  ∃ e env' h', k e env' h' = .yes ∧ EnvK keep env' ∧ ∀ ds β a w, Rel N ds β env h a w → GlobK P β → Wp P items (fun ex a' w' => ex = exOf e ∧ Post N ds β h w env' h' a' w') a w
theorem Ends.here {N keep : Nat} {items : List Item} {env : Tr AV} {h : Hp} {k : Kont} (e : Ex) (hk : k e env h = .yes) (hK : EnvK keep env) (hw : ∀ a w (Q : Exit → Act → World → Prop), Q (exOf e) a w → Wp P items Q a w) : Ends P N keep items env h k :=
  ⟨e, env, h, hk, hK, fun ds β a w hr hg => hw a w _ ⟨rfl, β, .refl hr.hr, hr⟩⟩
theorem Post.trans {N : Nat} {ds : List Deferred} {β β1 : Bt} {h h1 h2 : Hp} {w w1 w2 : World} {env2 : Tr AV} {a2 : Act} (hr : HR β h w) (s : Stp β h w β1 h1 w1) (p : Post N ds β1 h1 w1 env2 h2 a2 w2) : Post N ds β h w env2 h2 a2 w2 := by
  obtain ⟨β', s', r'⟩ := p
  exact ⟨β', s.trans hr s', r'⟩
theorem GlobK.le {β β' : Bt} (h : GlobK P β) (hl : Le β β') : GlobK P β' := fun g hg => let ⟨κ, e⟩ := h g hg; ⟨κ, hl _ _ e⟩
theorem Ends.step {N keep : Nat} {items items' : List Item} {env : Tr AV} {h : Hp} {k : Kont} (H : Ends P N keep items' env h k) (hs : ∀ (a : Act) (w : World) (b : Frame) (k : List Item) (cs : List Frame), Go.step P (lone (b.at a (items ++ k)) cs w) = .next (lone (b.at a (items' ++ k)) cs w)) : Ends P N keep items env h k := by
  obtain ⟨e, env1, h1, H1, hK1, hw1⟩ := H
  exact ⟨e, env1, h1, H1, hK1, fun ds β a w hr hg => Wp.step (hs a w) (hw1 ds β a w hr hg)⟩
theorem run_sound {callf : CallF} {N keep : Nat} (hreg : RegOK P callf N keep) : ∀ fuel (t : Task) env h k, run P callf N keep fuel (t.cc P N keep) env h k = .yes → EnvK keep env → Ends P N keep t.items env h k := by
  intro fuel
  induction fuel with
  | zero => intro t env h k H hK; cases H
  | succ f ih =>
    have loopCase : ∀ c env h k, run P callf N keep (f + 1) ((Task.loop c).cc P N keep) env h k = .yes → EnvK keep env → Ends P N keep (Task.loop c).items env h k := by
      intro c env h k H hK
      replace H : run P callf N keep f ((Task.code c).cc P N keep) env h (fun e env h => onNormal e (run P callf N keep f ((Task.loop c).cc P N keep) env h k) (k e env h)) = .yes := H
      obtain ⟨e, env1, h1, H1, hK1, hw1⟩ := ih _ _ _ _ H hK
      rcases onNormal_yes H1 with ⟨rfl, H2⟩ | ⟨hne, H2⟩
      · obtain ⟨e2, env2, h2, H3, hK2, hw2⟩ := ih _ _ _ _ H2 hK1
        refine ⟨e2, env2, h2, H3, hK2, fun ds β a w hr hg => ?_⟩
        refine Wp.then rfl (wp_mono (hw1 ds β a w hr hg) fun ex a1 w1 hp => ?_)
        obtain ⟨rfl, β1, s1, r1⟩ := hp
        refine Wp.step (items' := [.code c, .inLoop c]) (fun b k cs => step_inLoop) ?_
        have := hw2 ds β1 a1 w1 r1 (hg.le (s1.le hr.hr))
        intro b k cs
        obtain ⟨e', a', w', ⟨q1, q2⟩, har⟩ := this b k cs
        exact ⟨e', a', w', ⟨q1, q2.trans hr.hr s1⟩, har⟩
      · refine ⟨e, env1, h1, H2, hK1, fun ds β a w hr hg => ?_⟩
        refine Wp.then rfl (wp_mono (hw1 ds β a w hr hg) fun ex a1 w1 hp => ?_)
        obtain ⟨rfl, hp⟩ := hp
        cases e with
        | normal => exact absurd rfl hne
        | exit id => exact ⟨rfl, hp⟩
        | goto l => exact ⟨rfl, hp⟩
        | ret => exact ⟨rfl, hp⟩
    have scopeCase : ∀ c c0 env h k, run P callf N keep (f + 1) ((Task.scope c c0).cc P N keep) env h k = .yes → EnvK keep env → Ends P N keep (Task.scope c c0).items env h k := by
      intro c c0 env h k H hK
      replace H : run P callf N keep f ((Task.code c0).cc P N keep) env h (scopeK (run P callf N keep f) P N keep c k) = .yes := H
      obtain ⟨e, env1, h1, H1, hK1, hw1⟩ := ih _ _ _ _ H hK
      unfold scopeK at H1
      rcases onGoto_yes H1 with ⟨l, rfl, H2⟩ | ⟨hne, H2⟩
      · unfold labelC at H2
        cases hf : findLabel c l with
        | none =>
          rw [hf] at H2
          refine ⟨.goto l, env1, h1, H2, hK1, fun ds β a w hr hg => Wp.scope (wp_mono (hw1 ds β a w hr hg) fun ex a1 w1 hp => ?_)⟩
          obtain ⟨rfl, hp⟩ := hp
          exact .inr ⟨hf, rfl, hp⟩
        | some rest =>
          rw [hf] at H2
          replace H2 : run P callf N keep f ((Task.scope c rest).cc P N keep) env1 h1 k = .yes := H2
          obtain ⟨e2, env2, h2, H3, hK2, hw2⟩ := ih _ _ _ _ H2 hK1
          refine ⟨e2, env2, h2, H3, hK2, fun ds β a w hr hg => Wp.scope (wp_mono (hw1 ds β a w hr hg) fun ex a1 w1 hp => ?_)⟩
          obtain ⟨rfl, β1, s1, r1⟩ := hp
          refine .inl ⟨rest, hf, ?_⟩
          have := hw2 ds β1 a1 w1 r1 (hg.le (s1.le hr.hr))
          intro b k cs
          obtain ⟨e', a', w', ⟨q1, q2⟩, har⟩ := this b k cs
          exact ⟨e', a', w', ⟨q1, q2.trans hr.hr s1⟩, har⟩
      · refine ⟨e, env1, h1, H2, hK1, fun ds β a w hr hg => Wp.scope (wp_mono (hw1 ds β a w hr hg) fun ex a1 w1 hp => ?_)⟩
        obtain ⟨rfl, hp⟩ := hp
        cases e with
        | normal => exact ⟨rfl, hp⟩
        | exit id => exact ⟨rfl, hp⟩
        | goto l => exact absurd rfl (hne l)
        | ret => exact ⟨rfl, hp⟩
    intro t env h k H hK
    cases t with
    | loop c => exact loopCase c env h k H hK
    | scope c c0 => exact scopeCase c c0 env h k H hK
    | code c =>
      cases c with
      | skip => exact Ends.here .normal H hK fun a w Q hq => wp_skip hq
      | region id ops draw =>
        cases hc : compR P N ops keep draw with
        | none =>
          have e : (Task.code (.region id ops draw)).cc P N keep = .bad 161 := by
            show (match compR P N ops keep draw with | some os => _ | none => CC.bad 161) = _
            rw [hc]
          rw [e] at H; cases H
        | some os =>
          have e : (Task.code (.region id ops draw)).cc P N keep = Bool.rec (motive := fun _ => CC) (.seqR os) (.freeR os) (os.any isFree) := by
            show (match compR P N ops keep draw with | some os => Bool.rec (motive := fun _ => CC) (.seqR os) (.freeR os) (os.any isFree) | none => CC.bad 161) = _
            rw [hc]
          have H2 : runR callf os env h (k .normal) = .yes := by
            unfold runR
            rw [e] at H
            cases hb : os.any isFree with
            | false => rw [hb] at H; exact H
            | true => rw [hb] at H; exact H
          obtain ⟨env', h', H3, hK', hw⟩ := hreg id ops draw os env h (k .normal) hc H2 hK
          exact ⟨.normal, env', h', H3, hK', fun ds β a w hr hg => hw ds β a w hr hg⟩
      | seq x y =>
        replace H : run P callf N keep f ((Task.code x).cc P N keep) env h (fun e env h => onNormal e (run P callf N keep f ((Task.code y).cc P N keep) env h k) (k e env h)) = .yes := H
        obtain ⟨e, env1, h1, H1, hK1, hw1⟩ := ih _ _ _ _ H hK
        rcases onNormal_yes H1 with ⟨rfl, H2⟩ | ⟨hne, H2⟩
        · obtain ⟨e2, env2, h2, H3, hK2, hw2⟩ := ih _ _ _ _ H2 hK1
          refine ⟨e2, env2, h2, H3, hK2, fun ds β a w hr hg => ?_⟩
          refine wp_seq (wp_mono (hw1 ds β a w hr hg) fun ex a1 w1 hp => ?_)
          obtain ⟨rfl, β1, s1, r1⟩ := hp
          refine wp_mono (hw2 ds β1 a1 w1 r1 (hg.le (s1.le hr.hr))) fun ex a2 w2 hq => ⟨hq.1, hq.2.trans hr.hr s1⟩
        · refine ⟨e, env1, h1, H2, hK1, fun ds β a w hr hg => ?_⟩
          refine wp_seq (wp_mono (hw1 ds β a w hr hg) fun ex a1 w1 hp => ?_)
          obtain ⟨rfl, hp⟩ := hp
          cases e with
          | normal => exact absurd rfl hne
          | exit id => exact ⟨rfl, hp⟩
          | goto l => exact ⟨rfl, hp⟩
          | ret => exact ⟨rfl, hp⟩
      | cond c x y =>
        replace H : (rfK (rfOp P [] 0 c) [] env fun v => onBool v (run P callf N keep f ((Task.code y).cc P N keep) env h k) (run P callf N keep f ((Task.code x).cc P N keep) env h k) (.no 162)) = .yes := H
        obtain ⟨v, H1, hv⟩ := rfK_yes H
        obtain ⟨t, rfl, H2⟩ := onBool_yes H1 (by intro h; cases h)
        have hcv : ∀ ds β a w, Rel N ds β env h a w → a.eval c = .bool t := by
          intro ds β a w hr
          cases c with
          | tmp t' => exact con_bool (hr.env t' _ hv)
          | const u =>
            rw [rfOp_const] at hv
            split at hv
            · rename_i ho
              injection hv with hv
              have := toAV_con β ho
              rw [hv] at this
              exact con_bool this
            · cases hv
          | global g =>
            replace hv : rfGet (match Nat.blt g P.globals.size with | true => Rf.cst (.ptr g 0) | false => Rf.bad) [] env = some (.bool t) := hv
            split at hv <;> cases hv
          | func f => cases hv
        cases t with
        | true =>
          obtain ⟨e, env1, h1, H3, hK1, hw1⟩ := ih (.code x) _ _ _ H2 hK
          exact ⟨e, env1, h1, H3, hK1, fun ds β a w hr hg => wp_cond_true (hcv ds β a w hr) (hw1 ds β a w hr hg)⟩
        | false =>
          obtain ⟨e, env1, h1, H3, hK1, hw1⟩ := ih (.code y) _ _ _ H2 hK
          exact ⟨e, env1, h1, H3, hK1, fun ds β a w hr hg => wp_cond_false (hcv ds β a w hr) (hw1 ds β a w hr hg)⟩
      | block id x =>
        replace H : run P callf N keep f ((Task.code x).cc P N keep) env h (fun e env h => onExit e id (k .normal env h) (k e env h)) = .yes := H
        obtain ⟨e, env1, h1, H1, hK1, hw1⟩ := ih _ _ _ _ H hK
        rcases onExit_yes H1 with ⟨rfl, H2⟩ | ⟨hne, H2⟩
        · refine ⟨.normal, env1, h1, H2, hK1, fun ds β a w hr hg => wp_block (wp_mono (hw1 ds β a w hr hg) fun ex a1 w1 hp => ?_)⟩
          obtain ⟨rfl, hp⟩ := hp
          show (if id = id then _ else _)
          rw [if_pos rfl]; exact ⟨rfl, hp⟩
        · refine ⟨e, env1, h1, H2, hK1, fun ds β a w hr hg => wp_block (wp_mono (hw1 ds β a w hr hg) fun ex a1 w1 hp => ?_)⟩
          obtain ⟨rfl, hp⟩ := hp
          cases e with
          | normal => exact ⟨rfl, hp⟩
          | exit i =>
            show (if i = id then _ else _)
            rw [if_neg (fun e => hne (by rw [e]))]; exact ⟨rfl, hp⟩
          | goto l => exact ⟨rfl, hp⟩
          | ret => exact ⟨rfl, hp⟩
      | loop x =>
        exact (loopCase x env h k H hK).step fun a w b k cs => step_loop
      | rangeFunc a b c d => cases H
      | exit id => exact Ends.here (.exit id) H hK fun a w Q hq => wp_exit hq
      | scope x => exact (scopeCase x x env h k H hK).step fun a w b k cs => step_scope
      | label l => exact Ends.here .normal H hK fun a w Q hq => wp_label hq
      | goto l => exact Ends.here (.goto l) H hK fun a w Q hq => wp_goto hq
      | ret => exact Ends.here .ret H hK fun a w Q hq => wp_ret hq
      | refuse s => cases H
end Go.Ev
