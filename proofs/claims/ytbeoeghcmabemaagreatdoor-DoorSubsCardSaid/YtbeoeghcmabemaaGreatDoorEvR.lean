/- The evaluator's code is the model's: statements. -/
import Derived.Test.YtbeoeghcmabemaaGreatDoorEvP
set_option linter.unusedVariables false
set_option linter.unusedSectionVars false
set_option linter.unusedSimpArgs false
namespace Go.Ev
variable [Sg]
open Go.RowKit
variable {P : Program}

/-- What is kept. -/
def EnvK (keep : Nat) (env : Tr AV) : Prop := ∀ t, inMask keep t = false → env.get (path t) = none
/-- A state stands for a frame and a world. -/
structure Rel (N : Nat) (ds : List Deferred) (β : Bt) (env : Tr AV) (h : Hp) (a : Act) (w : World) : Prop where
  hr : HR β h w
  env : ∀ t av, env.get (path t) = some av → con β av = some (a.tmps.getD t undef)
  size : N ≤ a.tmps.size
  defers : a.defers = ds
def Post (N : Nat) (ds : List Deferred) (β : Bt) (h : Hp) (w : World) (env' : Tr AV) (h' : Hp) (a' : Act) (w' : World) : Prop :=
  ∃ β', Stp β h w β' h' w' ∧ Rel N ds β' env' h' a' w'
def exOf : Ex → Exit
  | .normal => .normal
  | .exit id => .exit id
  | .goto l => .goto l
  | .ret => .ret
/-- Globals lie where they lie. -/
def GlobK (P : Program) (β : Bt) : Prop := ∀ g, g < P.globals.size → ∃ κ, β g = some (g, κ)
/-- What stands on the list of things to do. -/
def Wp (P : Program) (items : List Item) (Q : Exit → Act → World → Prop) (a : Act) (w : World) : Prop :=
  ∀ (b : Frame) (k : List Item) (cs : List Frame), ∃ e a' w', Q e a' w' ∧ Arrives P (lone (b.at a (items ++ k)) cs w) b k cs e a' w'
inductive Task where
  | code (c : Code)
  | loop (c : Code)
  | scope (c c0 : Code)
noncomputable def Task.cc (P : Program) (N keep : Nat) : Task → CC
  | .code c => compC P N keep c
  | .loop c => .loop (compC P N keep c)
  | .scope c c0 => .scope c (compC P N keep c0)
def Task.items : Task → List Item
  | .code c => [.code c]
  | .loop c => [.code c, .inLoop c]
  | .scope c c0 => [.code c0, .inScope c]
noncomputable def runR (callf : CallF) (os : List CO) (env : Tr AV) (h : Hp) (k : Tr AV → Hp → Ans) : Ans :=
  Bool.rec (motive := fun _ => Ans) (runSeq callf os [] env h k) (runFree callf os [] env h [] [(0, h)] [] k) (os.any isFree)
/-- Regions do what is said. -/
def RegOK (P : Program) (callf : CallF) (N keep : Nat) : Prop :=
  ∀ id ops draw os env h (k : Tr AV → Hp → Ans), compR P N ops keep draw = some os → runR callf os env h k = .yes → EnvK keep env →
    ∃ env' h', k env' h' = .yes ∧ EnvK keep env' ∧ ∀ ds β a w, Rel N ds β env h a w → GlobK P β → (Code.region id ops draw).wp P (fun e a' w' => e = .normal ∧ Post N ds β h w env' h' a' w') a w
/-- What is found there. -/
def rfGet (r : Rf) (L : List AV) (env : Tr AV) : Option AV := match r with
  | .loc n => L[n]?
  | .var p => env.get p
  | .cst u => some u
  | .bad => none
theorem rfK_yes {r : Rf} {L : List AV} {env : Tr AV} {k : AV → Ans} (H : rfK r L env k = .yes) : ∃ v, k v = .yes ∧ rfGet r L env = some v := by
  cases r with
  | loc n => obtain ⟨v, h1, h2⟩ := nthK_yes H; exact ⟨v, h2, h1⟩
  | var p => obtain ⟨v, h1, h2⟩ := getP_yes H; exact ⟨v, h2, h1⟩
  | cst u => exact ⟨u, H, rfl⟩
  | bad => cases H
theorem rfOp_const (P : Program) (D : Dl) (now : Nat) (u : Value) : rfOp P D now (.const u) = if okConst u = true then .cst (toAV u) else .bad := by
  show (match okConst u with | true => Rf.cst (toAV u) | false => Rf.bad) = _
  cases okConst u <;> rfl
theorem toAV1_con (β : Bt) {v : Value} (h : v.oneCell' = true) : con β (toAV1 v) = some v := by
  unfold toAV1
  split
  · rfl
  · rfl
  · rfl
  · rfl
  · exact con_str β _
  · unfold con; rw [if_pos h]
theorem toAVs_con (β : Bt) : ∀ {l : List Value}, (∀ u ∈ l, u.oneCell' = true) → conL β (l.map toAV1) = some l
  | [], _ => rfl
  | v :: l, h => conL_mk (toAV1_con β (h v (List.mem_cons_self ..))) (toAVs_con β fun u hu => h u (List.mem_cons_of_mem _ hu))
theorem flat_one {v : Value} (h : okConst.flat v = true) : v.oneCell' = true := by
  cases v <;> first | rfl | cases h
theorem toAV_con (β : Bt) {v : Value} (h : okConst v = true) : con β (toAV v) = some v := by
  unfold toAV
  split
  · rename_i cs
    have h' : ∀ u ∈ cs.toList, u.oneCell' = true := fun u hu => flat_one (List.all_eq_true.1 h u hu)
    rw [con_agg_mk (toAVs_con β h') h']
  · rename_i cs
    have h' : ∀ u ∈ cs.toList, u.oneCell' = true := fun u hu => flat_one (List.all_eq_true.1 h u hu)
    simp only [con, toAVs_con β h', Option.map_some]
  · rename_i h1 h2
    exact toAV1_con β (by cases v <;> first | rfl | exact absurd rfl (h1 _) | exact absurd rfl (h2 _))
theorem Wp.step {items items' : List Item} {Q : Exit → Act → World → Prop} {a : Act} {w : World} (hs : ∀ (b : Frame) (k : List Item) (cs : List Frame), step P (lone (b.at a (items ++ k)) cs w) = .next (lone (b.at a (items' ++ k)) cs w)) (h : Wp P items' Q a w) : Wp P items Q a w := by
  intro b k cs
  obtain ⟨e, a', w', hq, har⟩ := h b k cs
  exact ⟨e, a', w', hq, .of_steps (.one (hs b k cs)) har⟩
theorem Wp.code {c : Code} {Q : Exit → Act → World → Prop} {a : Act} {w : World} : Wp P [.code c] Q a w ↔ c.wp P Q a w := Iff.rfl
/-- Code, and then what stands behind it. -/
theorem Wp.then {c : Code} {x : Item} (hx : x.plain = true) {Q : Exit → Act → World → Prop} {a : Act} {w : World} (h : c.wp P (fun e a' w' => match e with | .normal => Wp P [x] Q a' w' | e => Q e a' w') a w) : Wp P [.code c, x] Q a w := by
  intro b k cs
  obtain ⟨e, a1, w1, hq, har⟩ := h b (x :: k) cs
  cases e with
  | normal =>
    obtain ⟨e2, a2, w2, hq2, har2⟩ := hq b k cs
    exact ⟨e2, a2, w2, hq2, .of_steps har har2⟩
  | exit id => exact ⟨_, a1, w1, hq, .pass (x := x) hx (fun _ _ => .inl (by simp)) har⟩
  | goto l => exact ⟨_, a1, w1, hq, .pass (x := x) hx (fun _ _ => .inl (by simp)) har⟩
  | ret => exact ⟨_, a1, w1, hq, .pass (x := x) hx (fun _ _ => .inl (by simp)) har⟩
  | panic ch => exact ⟨_, a1, w1, hq, .pass (x := x) hx (fun _ _ => .inl (by simp)) har⟩
  | outgrown => exact ⟨_, a1, w1, hq, .pass (x := x) hx (fun _ _ => .inl (by simp)) har⟩
/-- Code within a scope. -/
theorem Wp.scope {c c0 : Code} {Q : Exit → Act → World → Prop} {a : Act} {w : World} (h : c0.wp P (fun e a' w' => match e with
      | .goto l => (∃ rest, findLabel c l = some rest ∧ Wp P [.code rest, .inScope c] Q a' w') ∨ (findLabel c l = none ∧ Q (.goto l) a' w')
      | e => Q e a' w') a w) : Wp P [.code c0, .inScope c] Q a w := by
  intro b k cs
  obtain ⟨e, a1, w1, hq, har⟩ := h b (.inScope c :: k) cs
  cases e with
  | normal => exact ⟨.normal, a1, w1, hq, Steps.trans har (.one step_inScope)⟩
  | exit id => exact ⟨.exit id, a1, w1, hq, fun k' hk => har k' (by simp [exitTo, hk])⟩
  | goto l =>
    rcases hq with ⟨rest, hf, h2⟩ | ⟨hf, hq⟩
    · obtain ⟨e2, a2, w2, hq2, har2⟩ := h2 b k cs
      exact ⟨e2, a2, w2, hq2, .of_steps (har _ (by simp [gotoIn, hf])) har2⟩
    · exact ⟨.goto l, a1, w1, hq, fun k' hk => har k' (by simp [gotoIn, hf, hk])⟩
  | ret => exact ⟨_, a1, w1, hq, har⟩
  | panic ch => exact ⟨_, a1, w1, hq, har⟩
  | outgrown => exact ⟨_, a1, w1, hq, har⟩
theorem onNormal_yes {e : Ex} {x y : Ans} (h : onNormal e x y = .yes) : (e = .normal ∧ x = .yes) ∨ (e ≠ .normal ∧ y = .yes) := by
  cases e <;> first | exact .inl ⟨rfl, h⟩ | exact .inr ⟨(by intro h; cases h), h⟩
theorem onExit_yes {e : Ex} {id : Nat} {x y : Ans} (h : onExit e id x y = .yes) : (e = .exit id ∧ x = .yes) ∨ (e ≠ .exit id ∧ y = .yes) := by
  cases e
  case exit i =>
    replace h : cnd (Nat.beq i id) x y = .yes := h
    rw [cnd_eq] at h
    split at h
    · rename_i hb; rw [Nat.eq_of_beq_eq_true hb]; exact .inl ⟨rfl, h⟩
    · rename_i hb; exact .inr ⟨(fun e => by injection e with e; subst e; exact hb (Nat.beq_refl i)), h⟩
  all_goals exact .inr ⟨(by intro h; cases h), h⟩
theorem onGoto_yes {e : Ex} {x : Nat → Ans} {y : Ans} (h : onGoto e x y = .yes) : (∃ l, e = .goto l ∧ x l = .yes) ∨ ((∀ l, e ≠ .goto l) ∧ y = .yes) := by
  cases e <;> first | exact .inl ⟨_, rfl, h⟩ | exact .inr ⟨(by intro l h; cases h), h⟩
/-- The conclusion of a run. -/
def Ends (P : Program) (N keep : Nat) (items : List Item) (env : Tr AV) (h : Hp) (k : Kont) : Prop :=
  ∃ e env' h', k e env' h' = .yes ∧ EnvK keep env' ∧ ∀ ds β a w, Rel N ds β env h a w → GlobK P β → Wp P items (fun ex a' w' => ex = exOf e ∧ Post N ds β h w env' h' a' w') a w
theorem Ends.here {N keep : Nat} {items : List Item} {env : Tr AV} {h : Hp} {k : Kont} (e : Ex) (hk : k e env h = .yes) (hK : EnvK keep env) (hw : ∀ a w (Q : Exit → Act → World → Prop), Q (exOf e) a w → Wp P items Q a w) : Ends P N keep items env h k :=
  ⟨e, env, h, hk, hK, fun ds β a w hr hg => hw a w _ ⟨rfl, β, .refl hr.hr, hr⟩⟩
theorem Post.trans {N : Nat} {ds : List Deferred} {β β1 : Bt} {h h1 h2 : Hp} {w w1 w2 : World} {env2 : Tr AV} {a2 : Act} (hr : HR β h w) (s : Stp β h w β1 h1 w1) (p : Post N ds β1 h1 w1 env2 h2 a2 w2) : Post N ds β h w env2 h2 a2 w2 := by
  obtain ⟨β', s', r'⟩ := p
  exact ⟨β', s.trans hr s', r'⟩
theorem GlobK.le {β β' : Bt} (h : GlobK P β) (hl : Le β β') : GlobK P β' := fun g hg => let ⟨κ, e⟩ := h g hg; ⟨κ, hl _ _ e⟩
theorem Ends.step {N keep : Nat} {items items' : List Item} {env : Tr AV} {h : Hp} {k : Kont} (H : Ends P N keep items' env h k) (hs : ∀ (a : Act) (w : World) (b : Frame) (k : List Item) (cs : List Frame), Go.step P (lone (b.at a (items ++ k)) cs w) = .next (lone (b.at a (items' ++ k)) cs w)) : Ends P N keep items env h k := by
  obtain ⟨e, env1, h1, H1, hK1, hw1⟩ := H
  exact ⟨e, env1, h1, H1, hK1, fun ds β a w hr hg => Wp.step (hs a w) (hw1 ds β a w hr hg)⟩
theorem run_sound {callf : CallF} {N keep : Nat} (hreg : RegOK P callf N keep) : ∀ fuel (t : Task) env h k, run P callf N keep fuel (t.cc P N keep) env h k = .yes → EnvK keep env → Ends P N keep t.items env h k := by
  intro fuel
  induction fuel with
  | zero => intro t env h k H hK; cases H
  | succ f ih =>
    have loopCase : ∀ c env h k, run P callf N keep (f + 1) ((Task.loop c).cc P N keep) env h k = .yes → EnvK keep env → Ends P N keep (Task.loop c).items env h k := by
      intro c env h k H hK
      replace H : run P callf N keep f ((Task.code c).cc P N keep) env h (fun e env h => onNormal e (run P callf N keep f ((Task.loop c).cc P N keep) env h k) (k e env h)) = .yes := H
      obtain ⟨e, env1, h1, H1, hK1, hw1⟩ := ih _ _ _ _ H hK
      rcases onNormal_yes H1 with ⟨rfl, H2⟩ | ⟨hne, H2⟩
      · obtain ⟨e2, env2, h2, H3, hK2, hw2⟩ := ih _ _ _ _ H2 hK1
        refine ⟨e2, env2, h2, H3, hK2, fun ds β a w hr hg => ?_⟩
        refine Wp.then rfl (wp_mono (hw1 ds β a w hr hg) fun ex a1 w1 hp => ?_)
        obtain ⟨rfl, β1, s1, r1⟩ := hp
        refine Wp.step (items' := [.code c, .inLoop c]) (fun b k cs => step_inLoop) ?_
        have := hw2 ds β1 a1 w1 r1 (hg.le (s1.le hr.hr))
        intro b k cs
        obtain ⟨e', a', w', ⟨q1, q2⟩, har⟩ := this b k cs
        exact ⟨e', a', w', ⟨q1, q2.trans hr.hr s1⟩, har⟩
      · refine ⟨e, env1, h1, H2, hK1, fun ds β a w hr hg => ?_⟩
        refine Wp.then rfl (wp_mono (hw1 ds β a w hr hg) fun ex a1 w1 hp => ?_)
        obtain ⟨rfl, hp⟩ := hp
        cases e with
        | normal => exact absurd rfl hne
        | exit id => exact ⟨rfl, hp⟩
        | goto l => exact ⟨rfl, hp⟩
        | ret => exact ⟨rfl, hp⟩
    have scopeCase : ∀ c c0 env h k, run P callf N keep (f + 1) ((Task.scope c c0).cc P N keep) env h k = .yes → EnvK keep env → Ends P N keep (Task.scope c c0).items env h k := by
      intro c c0 env h k H hK
      replace H : run P callf N keep f ((Task.code c0).cc P N keep) env h (scopeK (run P callf N keep f) P N keep c k) = .yes := H
      obtain ⟨e, env1, h1, H1, hK1, hw1⟩ := ih _ _ _ _ H hK
      unfold scopeK at H1
      rcases onGoto_yes H1 with ⟨l, rfl, H2⟩ | ⟨hne, H2⟩
      · unfold labelC at H2
        cases hf : findLabel c l with
        | none =>
          rw [hf] at H2
          refine ⟨.goto l, env1, h1, H2, hK1, fun ds β a w hr hg => Wp.scope (wp_mono (hw1 ds β a w hr hg) fun ex a1 w1 hp => ?_)⟩
          obtain ⟨rfl, hp⟩ := hp
          exact .inr ⟨hf, rfl, hp⟩
        | some rest =>
          rw [hf] at H2
          replace H2 : run P callf N keep f ((Task.scope c rest).cc P N keep) env1 h1 k = .yes := H2
          obtain ⟨e2, env2, h2, H3, hK2, hw2⟩ := ih _ _ _ _ H2 hK1
          refine ⟨e2, env2, h2, H3, hK2, fun ds β a w hr hg => Wp.scope (wp_mono (hw1 ds β a w hr hg) fun ex a1 w1 hp => ?_)⟩
          obtain ⟨rfl, β1, s1, r1⟩ := hp
          refine .inl ⟨rest, hf, ?_⟩
          have := hw2 ds β1 a1 w1 r1 (hg.le (s1.le hr.hr))
          intro b k cs
          obtain ⟨e', a', w', ⟨q1, q2⟩, har⟩ := this b k cs
          exact ⟨e', a', w', ⟨q1, q2.trans hr.hr s1⟩, har⟩
      · refine ⟨e, env1, h1, H2, hK1, fun ds β a w hr hg => Wp.scope (wp_mono (hw1 ds β a w hr hg) fun ex a1 w1 hp => ?_)⟩
        obtain ⟨rfl, hp⟩ := hp
        cases e with
        | normal => exact ⟨rfl, hp⟩
        | exit id => exact ⟨rfl, hp⟩
        | goto l => exact absurd rfl (hne l)
        | ret => exact ⟨rfl, hp⟩
    intro t env h k H hK
    cases t with
    | loop c => exact loopCase c env h k H hK
    | scope c c0 => exact scopeCase c c0 env h k H hK
    | code c =>
      cases c with
      | skip => exact Ends.here .normal H hK fun a w Q hq => wp_skip hq
      | region id ops draw =>
        cases hc : compR P N ops keep draw with
        | none =>
          have e : (Task.code (.region id ops draw)).cc P N keep = .bad 161 := by
            show (match compR P N ops keep draw with | some os => _ | none => CC.bad 161) = _
            rw [hc]
          rw [e] at H; cases H
        | some os =>
          have e : (Task.code (.region id ops draw)).cc P N keep = Bool.rec (motive := fun _ => CC) (.seqR os) (.freeR os) (os.any isFree) := by
            show (match compR P N ops keep draw with | some os => Bool.rec (motive := fun _ => CC) (.seqR os) (.freeR os) (os.any isFree) | none => CC.bad 161) = _
            rw [hc]
          have H2 : runR callf os env h (k .normal) = .yes := by
            unfold runR
            rw [e] at H
            cases hb : os.any isFree with
            | false => rw [hb] at H; exact H
            | true => rw [hb] at H; exact H
          obtain ⟨env', h', H3, hK', hw⟩ := hreg id ops draw os env h (k .normal) hc H2 hK
          exact ⟨.normal, env', h', H3, hK', fun ds β a w hr hg => hw ds β a w hr hg⟩
      | seq x y =>
        replace H : run P callf N keep f ((Task.code x).cc P N keep) env h (fun e env h => onNormal e (run P callf N keep f ((Task.code y).cc P N keep) env h k) (k e env h)) = .yes := H
        obtain ⟨e, env1, h1, H1, hK1, hw1⟩ := ih _ _ _ _ H hK
        rcases onNormal_yes H1 with ⟨rfl, H2⟩ | ⟨hne, H2⟩
        · obtain ⟨e2, env2, h2, H3, hK2, hw2⟩ := ih _ _ _ _ H2 hK1
          refine ⟨e2, env2, h2, H3, hK2, fun ds β a w hr hg => ?_⟩
          refine wp_seq (wp_mono (hw1 ds β a w hr hg) fun ex a1 w1 hp => ?_)
          obtain ⟨rfl, β1, s1, r1⟩ := hp
          refine wp_mono (hw2 ds β1 a1 w1 r1 (hg.le (s1.le hr.hr))) fun ex a2 w2 hq => ⟨hq.1, hq.2.trans hr.hr s1⟩
        · refine ⟨e, env1, h1, H2, hK1, fun ds β a w hr hg => ?_⟩
          refine wp_seq (wp_mono (hw1 ds β a w hr hg) fun ex a1 w1 hp => ?_)
          obtain ⟨rfl, hp⟩ := hp
          cases e with
          | normal => exact absurd rfl hne
          | exit id => exact ⟨rfl, hp⟩
          | goto l => exact ⟨rfl, hp⟩
          | ret => exact ⟨rfl, hp⟩
      | cond c x y =>
        replace H : (rfK (rfOp P [] 0 c) [] env fun v => onBool v (run P callf N keep f ((Task.code y).cc P N keep) env h k) (run P callf N keep f ((Task.code x).cc P N keep) env h k) (.no 162)) = .yes := H
        obtain ⟨v, H1, hv⟩ := rfK_yes H
        obtain ⟨t, rfl, H2⟩ := onBool_yes H1 (by intro h; cases h)
        have hcv : ∀ ds β a w, Rel N ds β env h a w → a.eval c = .bool t := by
          intro ds β a w hr
          cases c with
          | tmp t' => exact con_bool (hr.env t' _ hv)
          | const u =>
            rw [rfOp_const] at hv
            split at hv
            · rename_i ho
              injection hv with hv
              have := toAV_con β ho
              rw [hv] at this
              exact con_bool this
            · cases hv
          | global g =>
            replace hv : rfGet (match Nat.blt g P.globals.size with | true => Rf.cst (.ptr g 0) | false => Rf.bad) [] env = some (.bool t) := hv
            split at hv <;> cases hv
          | func f => cases hv
        cases t with
        | true =>
          obtain ⟨e, env1, h1, H3, hK1, hw1⟩ := ih (.code x) _ _ _ H2 hK
          exact ⟨e, env1, h1, H3, hK1, fun ds β a w hr hg => wp_cond_true (hcv ds β a w hr) (hw1 ds β a w hr hg)⟩
        | false =>
          obtain ⟨e, env1, h1, H3, hK1, hw1⟩ := ih (.code y) _ _ _ H2 hK
          exact ⟨e, env1, h1, H3, hK1, fun ds β a w hr hg => wp_cond_false (hcv ds β a w hr) (hw1 ds β a w hr hg)⟩
      | block id x =>
        replace H : run P callf N keep f ((Task.code x).cc P N keep) env h (fun e env h => onExit e id (k .normal env h) (k e env h)) = .yes := H
        obtain ⟨e, env1, h1, H1, hK1, hw1⟩ := ih _ _ _ _ H hK
        rcases onExit_yes H1 with ⟨rfl, H2⟩ | ⟨hne, H2⟩
        · refine ⟨.normal, env1, h1, H2, hK1, fun ds β a w hr hg => wp_block (wp_mono (hw1 ds β a w hr hg) fun ex a1 w1 hp => ?_)⟩
          obtain ⟨rfl, hp⟩ := hp
          show (if id = id then _ else _)
          rw [if_pos rfl]; exact ⟨rfl, hp⟩
        · refine ⟨e, env1, h1, H2, hK1, fun ds β a w hr hg => wp_block (wp_mono (hw1 ds β a w hr hg) fun ex a1 w1 hp => ?_)⟩
          obtain ⟨rfl, hp⟩ := hp
          cases e with
          | normal => exact ⟨rfl, hp⟩
          | exit i =>
            show (if i = id then _ else _)
            rw [if_neg (fun e => hne (by rw [e]))]; exact ⟨rfl, hp⟩
          | goto l => exact ⟨rfl, hp⟩
          | ret => exact ⟨rfl, hp⟩
      | loop x =>
        exact (loopCase x env h k H hK).step fun a w b k cs => step_loop
      | rangeFunc a b c d => cases H
      | exit id => exact Ends.here (.exit id) H hK fun a w Q hq => wp_exit hq
      | scope x => exact (scopeCase x x env h k H hK).step fun a w b k cs => step_scope
      | label l => exact Ends.here .normal H hK fun a w Q hq => wp_label hq
      | goto l => exact Ends.here (.goto l) H hK fun a w Q hq => wp_goto hq
      | ret => exact Ends.here .ret H hK fun a w Q hq => wp_ret hq
      | refuse s => cases H
end Go.Ev
namespace Go.Ev
variable [Sg] [Sl]
open Go.RowKit
variable {P : Program}

/-- An operation does this, with the globals in their places. -/
def OpHoldsG (P : Program) (o : Oper) (xs : List AV) (h : Hp) (v : AV) (h' : Hp) : Prop :=
  ∀ (β : Bt) (w : World) (a : Act), HR β h w → GlobK P β → conL β xs = some (o.op.operands.toList.map a.eval) → ∀ (K : Act → World → Prop) (Q : Exit → Act → World → Prop),
    (∀ β' w' u, Stp β h w β' h' w' → con β' v = some u → K (a.put o.dst u) w') → o.wp P a w K Q
theorem OpHolds.g {o : Oper} {xs : List AV} {h : Hp} {v : AV} {h' : Hp} (H : OpHolds P o xs h v h') : OpHoldsG P o xs h v h' := fun β w a hr _ hx K Q hK => H β w a hr hx K Q hK
def Came (β : Bt) (h : Hp) (w : World) (v : AV) (h' : Hp) (e : Ending) (w' : World) : Prop := ∃ β' u, e = .returned u ∧ Stp β h w β' h' w' ∧ con β' v = some u
/-- A function does this. -/
def FuncT (P : Program) (f : FuncId) (xs : List AV) (h : Hp) (v : AV) (h' : Hp) : Prop :=
  ∀ (β : Bt) (w : World) (vs : List Value), HR β h w → GlobK P β → conL β xs = some vs →
    ((callFunc f vs.toArray).run P w = .ok (.enter f vs.toArray) w ∧ Calls P f vs.toArray w (Came β h w v h')) ∨ (∃ u w', (callFunc f vs.toArray).run P w = .ok (.value u) w' ∧ Came β h w v h' (.returned u) w')
def CallSound (P : Program) (callf : CallF) : Prop := ∀ f xs h k, callf f xs h k = .yes → ∃ v h', k v h' = .yes ∧ FuncT P f xs h v h'
theorem applyK_sound {callf : CallF} (hc : CallSound P callf) {o : Oper} {F : Operand} {args : Array Operand} {ats : Array TypeId} (ho : o.op = .call ⟨.value F, args, ats⟩) {xs : List AV} {h : Hp} {k : AK} (H : applyK callf xs h k = .yes) :
    ∃ v h', k v h' = .yes ∧ OpHoldsG P o xs h v h' := by
  unfold applyK at H
  split at H
  · rename_i f first captured ys
    simp only [catK_eq] at H
    obtain ⟨v, h', h1, h2⟩ := hc _ _ _ _ H
    refine ⟨v, h', h1, fun β w a hr hg hx K Q hK => ?_⟩
    rw [ho] at hx
    have hx' : conL β (.fn (.func f) first captured :: ys) = some (a.eval F :: args.toList.map a.eval) := by simpa [Op.operands, Call.operands] using hx
    obtain ⟨v1, us, e1, e2, e3⟩ := conL_cons hx'
    injection e3 with e4 e5
    subst e5
    obtain ⟨x1, x2, g1, g2, g3⟩ := con_fn e1
    have hall := conL_append (conL_append g1 e2) g2
    unfold Oper.wp
    have hrun : (execOp a.eval o).run P w = (callFunc f ((x1 ++ args.toList.map a.eval) ++ x2).toArray).run P w := by
      have : execOp a.eval o = (do let d ← Go.resolve a.eval ⟨.value F, args, ats⟩ o.type; invoke d.target d.args) := by
        unfold execOp; rw [ho]
      rw [this]
      unfold Go.resolve Deferred.ofValue invoke
      simp only [e4, g3, Sem.run_bind, Sem.run_pure, Result.andThen_ok]
      congr 2
      apply Array.ext'
      simp
    rw [hrun]
    rcases h2 β w _ hr hg hall with ⟨r1, r2⟩ | ⟨u, w', r1, β', u', r2, r3, r4⟩
    · rw [r1]
      refine r2.mono fun e w' he => ?_
      obtain ⟨β', u, rfl, s1, s2⟩ := he
      exact hK β' w' u s1 s2
    · rw [r1]
      injection r2 with r2; subst r2
      exact hK β' w' u r3 r4
  · cases H
def resSem (tmps : Array Value) (r : ResultVar) : Sem Value := match r with
  | .tmp t => Pure.pure (tmps.getD t undef)
  | .cell a t => do loadVar t (← asAddr (tmps.getD a undef))
theorem results_eq (fn : Func) (tmps : Array Value) : results fn tmps = (do let vs ← fn.results.mapM (resSem tmps); Pure.pure (if h : vs.size = 1 then vs[0] else .tuple vs)) := rfl
theorem resOne_yes {r : ResultVar} {env : Tr AV} {h : Hp} {k : AV → Ans} (H : resOne r env h P k = .yes) :
    ∃ v, k v = .yes ∧ ∀ N ds β a w, Rel N ds β env h a w → ∃ u, (resSem a.tmps r).run P w = .ok u w ∧ con β v = some u := by
  unfold resOne at H
  cases r with
  | tmp t =>
    obtain ⟨v, hv, H1⟩ := getP_yes H
    exact ⟨v, H1, fun N ds β a w hr => ⟨_, rfl, hr.env t v hv⟩⟩
  | cell b t =>
    obtain ⟨p, hp, H1⟩ := getP_yes H
    obtain ⟨v, h1, h2⟩ := loadK_run H1
    refine ⟨v, h1, fun N ds β a w hr => ?_⟩
    have hb := hr.env b p hp
    obtain ⟨u, r1, r2⟩ := h2 β w _ hr.hr hb
    have hptr : ∃ x y, p = .ptr x y := by
      unfold loadK at H1
      split at H1
      · exact ⟨_, _, rfl⟩
      · cases H1
    obtain ⟨x, y, rfl⟩ := hptr
    obtain ⟨c, κ, _, e⟩ := con_ptr hb
    refine ⟨u, ?_, r2⟩
    show (do loadVar t (← asAddr (a.tmps.getD b undef)) : Sem Value).run P w = _
    rw [e] at r1 ⊢
    simpa [asAddr, Instr.loadAt, Instr.sureAddr] using r1
theorem resK_go {rs : List ResultVar} {env : Tr AV} {h : Hp} {k : List AV → Ans} (H : (List.rec (motive := fun _ => (List AV → Ans) → Ans) (fun k => k []) (fun r _ ih k => resOne r env h P fun v => ih fun vs => k (v :: vs)) rs k : Ans) = .yes) :
    ∃ l, k l = .yes ∧ ∀ N ds β a w, Rel N ds β env h a w → ∃ us : List Value, (rs.mapM (resSem a.tmps)).run P w = .ok us w ∧ conL β l = some us := by
  induction rs generalizing k with
  | nil => exact ⟨[], H, fun N ds β a w hr => ⟨[], rfl, rfl⟩⟩
  | cons r rs ih =>
    obtain ⟨v, H1, h1⟩ := resOne_yes H
    obtain ⟨l, H2, h2⟩ := ih H1
    refine ⟨v :: l, H2, fun N ds β a w hr => ?_⟩
    obtain ⟨u, e1, e2⟩ := h1 N ds β a w hr
    obtain ⟨us, e3, e4⟩ := h2 N ds β a w hr
    refine ⟨u :: us, ?_, conL_mk e2 e4⟩
    rw [List.mapM_cons, Sem.run_bind, e1, Result.andThen_ok, Sem.run_bind, e3]; rfl
theorem mapM_len {α γ : Type} {f : α → Sem γ} {w w' : World} : ∀ (l : List α) {us : List γ}, (l.mapM f).run P w = .ok us w' → l.length = us.length
  | [], us, h => by
    have h' : Result.ok ([] : List γ) w = Result.ok us w' := h
    injection h' with h1 h2
    rw [← h1]; rfl
  | x :: l, us, h => by
    rw [List.mapM_cons, Sem.run_bind] at h
    cases h1 : (f x).run P w with
    | halt a b => rw [h1] at h; cases h
    | ok v w1 =>
      rw [h1, Result.andThen_ok, Sem.run_bind] at h
      cases h2 : (l.mapM f).run P w1 with
      | halt a b => rw [h2] at h; cases h
      | ok vs w2 =>
        rw [h2, Result.andThen_ok] at h
        injection h with h3 h4
        rw [← h3, List.length_cons, List.length_cons, mapM_len l h2]
theorem resK_yes {fn : Func} {env : Tr AV} {h : Hp} {k : AV → Ans} (H : resK P fn.results.toList env h k = .yes) :
    ∃ v, k v = .yes ∧ ∀ N ds β a w, Rel N ds β env h a w → ∃ u, (results fn a.tmps).run P w = .ok u w ∧ con β v = some u := by
  have gen : ∀ (tmps : Array Value) (w : World) (us : List Value), ((fn.results.toList.mapM (resSem tmps)).run P w = .ok us w) →
      (results fn tmps).run P w = .ok (if h : us.toArray.size = 1 then us.toArray[0] else .tuple us.toArray) w := by
    intro tmps w us hu
    rw [results_eq]
    simp only [Array.mapM_eq_mapM_toList, Sem.run_bind, Sem.run_map]
    rw [hu]
    rfl
  unfold resK at H
  split at H
  · rename_i r hr1
    obtain ⟨v, H1, h1⟩ := resOne_yes H
    refine ⟨v, H1, fun N ds β a w hr => ?_⟩
    obtain ⟨u, e1, e2⟩ := h1 N ds β a w hr
    refine ⟨u, ?_, e2⟩
    rw [gen a.tmps w [u] (by rw [hr1, List.mapM_cons, Sem.run_bind, e1, Result.andThen_ok]; rfl)]
    rfl
  · rename_i hne
    obtain ⟨l, H1, h1⟩ := resK_go H
    refine ⟨.tup l, H1, fun N ds β a w hr => ?_⟩
    obtain ⟨us, e1, e2⟩ := h1 N ds β a w hr
    refine ⟨.tuple us.toArray, ?_, by simp only [con, e2, Option.map_some]⟩
    rw [gen a.tmps w us e1]
    have hlen : us.toArray.size ≠ 1 := by
      intro h1
      have h2 : us.length = 1 := by simpa using h1
      have h3 : fn.results.toList.length = us.length := mapM_len _ e1
      match hq : fn.results.toList, h3.trans h2 with
      | [r], _ => exact hne r hq
    rw [dif_neg hlen]
theorem flats_con (l : List AV) (h : flatB.flats l = true) (β β' : Bt) : conL β l = conL β' l := by
  induction l with
  | nil => rfl
  | cons x l ih =>
    have h1 : flatB.flat1 x = true ∧ flatB.flats l = true := by
      cases hx : flatB.flat1 x with
      | false =>
        have : flatB.flats (x :: l) = Bool.rec (motive := fun _ => Bool) false (flatB.flats l) (flatB.flat1 x) := rfl
        rw [this, hx] at h; cases h
      | true =>
        have : flatB.flats (x :: l) = Bool.rec (motive := fun _ => Bool) false (flatB.flats l) (flatB.flat1 x) := rfl
        rw [this, hx] at h; exact ⟨rfl, h⟩
    have hx : con β x = con β' x := by
      have := h1.1
      unfold flatB.flat1 at this
      cases x <;> first | rfl | cases this
    simp only [conL, hx, ih h1.2]
theorem flat_con {x : AV} (h : flatB x = true) (β β' : Bt) : con β x = con β' x := by
  unfold flatB at h
  cases x <;> first | rfl | (cases h; done) | skip
  · rename_i l; simp only [con, flats_con l h β β']
  · rename_i l; simp only [con, flats_con l h β β']
/-- What stands in the library's stead. -/
def ExtOK (P : Program) (X : Nat → Nat) : Prop := ∀ fuel callf, CallSound P callf → ∀ f c, X f = c + 1 → ∀ xs h k, extK P fuel callf f (c + 1) xs h k = .yes → ∃ v h', k v h' = .yes ∧ FuncT P f xs h v h'
theorem argsOk_yes {keep : Nat} : ∀ {xs : List AV} {n : Nat}, (List.rec (motive := fun _ => Nat → Bool) (fun _ => true) (fun _ _ ih n => Bool.rec (motive := fun _ => Bool) false (ih (Nat.succ n)) (inMask keep n)) xs n : Bool) = true → ∀ i, i < xs.length → inMask keep (n + i) = true
  | [], n, h, i, hi => by simp at hi
  | x :: xs, n, h, i, hi => by
    have h1 : inMask keep n = true ∧ (List.rec (motive := fun _ => Nat → Bool) (fun _ => true) (fun _ _ ih n => Bool.rec (motive := fun _ => Bool) false (ih (Nat.succ n)) (inMask keep n)) xs (Nat.succ n) : Bool) = true := by
      replace h : (Bool.rec (motive := fun _ => Bool) false (List.rec (motive := fun _ => Nat → Bool) (fun _ => true) (fun _ _ ih n => Bool.rec (motive := fun _ => Bool) false (ih (Nat.succ n)) (inMask keep n)) xs (Nat.succ n)) (inMask keep n) : Bool) = true := h
      cases hm : inMask keep n with
      | false => rw [hm] at h; cases h
      | true => rw [hm] at h; exact ⟨rfl, h⟩
    cases i with
    | zero => exact h1.1
    | succ i =>
      rw [show n + (i + 1) = n.succ + i by omega]
      exact argsOk_yes h1.2 i (by simpa using hi)
theorem callK_sound {X : Nat → Nat} (hX : ExtOK P X) (hN : ∀ (f : Nat) fn, P.funcs[f]? = some fn → fn.name ≠ "runtime.NumGoroutine") (hreg : ∀ callf, CallSound P callf → ∀ N keep, RegOK P callf N keep) (fuel : Nat) : ∀ d, CallSound P (callK P X fuel d) := by
  intro d
  induction d with
  | zero => intro f xs h k H; cases H
  | succ d ih =>
    intro f xs h k H
    cases hx : X f with
    | succ c =>
      refine hX fuel _ ih f c hx xs h k ?_
      replace H : (Nat.rec (motive := fun _ => Ans) _ (fun c _ => extK P fuel (callK P X fuel d) f (Nat.succ c) xs h k) (X f) : Ans) = .yes := H
      rw [hx] at H
      exact H
    | zero =>
    replace H : (Nat.rec (motive := fun _ => Ans) (Option.rec (motive := fun _ => Ans) (.no 171) (fun (fn : Func) => Option.rec (motive := fun _ => Ans) (.no (1000 + f)) (fun c =>
      match h with
      | .mk t n low => cnd (argsOk xs (keepF fn)) (initEnv xs fun env => run P (callK P X fuel d) fn.ntmps (keepF fn) fuel (compC P fn.ntmps (keepF fn) c) env (.mk t n n) fun e env h' =>
        match e, h' with
        | .exit _, _ => .no 172
        | .goto _, _ => .no 173
        | _, .mk t' n' low' => resK P fn.results.toList env h' fun v =>
          natMin low low' fun low'' => cnd (Nat.beq low' n) (cnd (flatB v) (k v h) (k v (.mk t' n' low''))) (k v (.mk t' n' low''))) (.no 174)) fn.body) P.funcs[f]?) (fun c _ => extK P fuel (callK P X fuel d) f (Nat.succ c) xs h k) (X f) : Ans) = .yes := H
    rw [hx] at H
    replace H : (Option.rec (motive := fun _ => Ans) (.no 171) (fun (fn : Func) => Option.rec (motive := fun _ => Ans) (.no (1000 + f)) (fun c =>
      match h with
      | .mk t n low => cnd (argsOk xs (keepF fn)) (initEnv xs fun env => run P (callK P X fuel d) fn.ntmps (keepF fn) fuel (compC P fn.ntmps (keepF fn) c) env (.mk t n n) fun e env h' =>
        match e, h' with
        | .exit _, _ => .no 172
        | .goto _, _ => .no 173
        | _, .mk t' n' low' => resK P fn.results.toList env h' fun v =>
          natMin low low' fun low'' => cnd (Nat.beq low' n) (cnd (flatB v) (k v h) (k v (.mk t' n' low''))) (k v (.mk t' n' low''))) (.no 174)) fn.body) P.funcs[f]? : Ans) = .yes := H
    cases hf : P.funcs[f]? with
    | none => rw [hf] at H; cases H
    | some fn =>
      simp only [hf] at H
      cases hb : fn.body with
      | none =>
        simp only [hb] at H
        cases H
      | some c =>
        simp only [hb] at H
        cases h with
        | mk t n low =>
          dsimp only at H
          obtain ⟨hargs, H⟩ := cnd_yes H
          unfold initEnv at H
          rw [writeL_eq] at H
          have hK : EnvK (keepF fn) (putL xs 0 .leaf) := by
            intro i hi
            rw [get_putL]
            split
            · rename_i hb2
              have := argsOk_yes hargs i (by omega)
              rw [Nat.zero_add, hi] at this; cases this
            · exact get_leaf _
          obtain ⟨e, env1, h1, H1, hK1, hw⟩ := run_sound (hreg _ ih fn.ntmps (keepF fn)) fuel (.code c) _ _ _ H hK
          have hex : (e = .normal ∨ e = .ret) ∧ ∃ t' n' low', h1 = .mk t' n' low' ∧ (resK P fn.results.toList env1 h1 fun v =>
              natMin low low' fun low'' => cnd (Nat.beq low' n) (cnd (flatB v) (k v (.mk t n low)) (k v (.mk t' n' low''))) (k v (.mk t' n' low''))) = .yes := by
            cases h1 with
            | mk t' n' low' =>
              cases e with
              | normal => exact ⟨.inl rfl, t', n', low', rfl, H1⟩
              | ret => exact ⟨.inr rfl, t', n', low', rfl, H1⟩
              | exit i => cases H1
              | goto l => cases H1
          obtain ⟨he, t', n', low', rfl, H2⟩ := hex
          obtain ⟨v, H3, hv⟩ := resK_yes H2
          rw [natMin_eq] at H3
          -- the world at the end
          have main : ∀ β w vs, HR β (.mk t n low) w → GlobK P β → conL β xs = some vs → ∀ hfin : Hp, (∀ β' w' u, Stp β (.mk t n n) w β' (.mk t' n' low') w' → con β' v = some u → ∃ β'', Stp β (.mk t n low) w β'' hfin w' ∧ con β'' v = some u) →
              ((callFunc f vs.toArray).run P w = .ok (.enter f vs.toArray) w ∧ Calls P f vs.toArray w (Came β (.mk t n low) w v hfin)) := by
            intro β w vs hr hg hx hfin hend
            refine ⟨?_, ?_⟩
            · unfold callFunc
              simp only [Sem.run_bind, run_program, Result.andThen_ok, hf]
              have hn : (fn.name == "runtime.NumGoroutine") = false := by
                simpa using hN f fn hf
              rw [hn]
              simp [hb]
            · refine calls_of_wp hf hb ?_
              have hr2 : HR β (.mk t n n) w := ⟨hr.blk, hr.inj, hr.fresh, Nat.le_refl _⟩
              have hlen := conL_len hx
              have hrel : Rel fn.ntmps [] β (putL xs 0 .leaf) (.mk t n n) { tmps := vs.toArray ++ Array.replicate (fn.ntmps - vs.toArray.size) undef, defers := [] } w := by
                refine ⟨hr2, fun i av hi => ?_, by simp; omega, rfl⟩
                rw [get_putL] at hi
                split at hi
                · rename_i hb2
                  obtain ⟨u, u1, u2⟩ := conL_get hx hi
                  rw [Nat.sub_zero] at u1
                  rw [u2]
                  congr 1
                  have hi2 : i < vs.length := by omega
                  simp [Array.getD, hi2]
                  rw [if_pos (by omega)]
                  rw [List.getElem?_eq_getElem hi2] at u1
                  injection u1 with u1
                  exact u1.symm
                · rw [get_leaf] at hi; cases hi
              refine wp_mono (hw [] β _ w hrel hg) fun ex a' w' hp => ?_
              obtain ⟨rfl, β', s1, r1⟩ := hp
              obtain ⟨u, g1, g2⟩ := hv fn.ntmps [] β' a' w' r1
              obtain ⟨β'', s2, g3⟩ := hend β' w' u s1 g2
              rcases he with rfl | rfl
              · exact ⟨r1.defers, u, g1, β'', u, rfl, s2, g3⟩
              · exact ⟨r1.defers, u, g1, β'', u, rfl, s2, g3⟩
          have keepCase : k v (.mk t' n' (min low low')) = .yes → ∃ v h', k v h' = .yes ∧ FuncT P f xs (.mk t n low) v h' := by
            intro H4
            refine ⟨v, _, H4, fun β w vs hr hg hx => .inl (main β w vs hr hg hx _ fun β' w' u s1 hc => ?_)⟩
            refine ⟨β', ⟨⟨s1.hr.blk, s1.hr.inj, s1.hr.fresh, ?_⟩, s1.nx, Nat.min_le_left _ _, s1.old, s1.dom, fun b c κ hb e => ?_, ⟨s1.kept.os, s1.kept.tape, s1.kept.output, s1.kept.size, fun c hc hne => ?_⟩⟩, hc⟩
            · have := s1.hr.low
              exact Nat.le_trans (Nat.min_le_right _ _) this
            · rcases s1.new b c κ hb e with h5 | ⟨x, κ', y, a1, a2, a3⟩
              · exact .inl h5
              · exact .inr ⟨x, κ', y, Nat.le_trans (Nat.min_le_right _ _) a1, a2, a3⟩
            · exact s1.kept.blocks c hc fun b κ x hb hx => hne b κ x (Nat.le_trans (Nat.min_le_right _ _) hb) hx
          rw [cnd_eq] at H3
          split at H3
          · rename_i hlow
            have hlow' := Nat.eq_of_beq_eq_true hlow
            rw [cnd_eq] at H3
            split at H3
            · rename_i hflat
              refine ⟨v, _, H3, fun β w vs hr hg hx => .inl (main β w vs hr hg hx _ fun β' w' u s1 hc => ?_)⟩
              refine ⟨β, ⟨⟨fun b x hbx => ?_, hr.inj, hr.fresh, hr.low⟩, Nat.le_refl _, Nat.le_refl _, fun _ _ => rfl, fun _ x _ e => ⟨x, e⟩, (fun b c κ hb e => by rw [hr.fresh b hb] at e; cases e), ⟨s1.kept.os, s1.kept.tape, s1.kept.output, s1.kept.size, fun c hc hne => ?_⟩⟩, by rw [flat_con hflat β β']; exact hc⟩
              · obtain ⟨q1, cb, κ, q2, q3⟩ := hr.blk b x hbx
                refine ⟨q1, cb, κ, q2, ?_⟩
                have hcb : cb < w.heap.size := by
                  cases x with
                  | cells e' len c ex esz => obtain ⟨cs, fz, e2, -⟩ := q3; exact (Array.getElem?_eq_some_iff.1 e2).1
                  | map es clock => obtain ⟨ms, e2, -⟩ := q3; exact (Array.getElem?_eq_some_iff.1 e2).1
                  | iter l p => exact (Array.getElem?_eq_some_iff.1 q3.1).1
                  | miter b s => obtain ⟨_, _, _, e2⟩ := q3; exact (Array.getElem?_eq_some_iff.1 e2).1
                rw [s1.kept.block cb hcb (fun b' κ' hb' e => ?_)]
                · exact q3
                · have : n ≤ b' := by rw [← hlow']; exact hb'
                  rw [hr.fresh b' this] at e; cases e
              · refine s1.kept.block c hc fun b' κ' hb' e => ?_
                have : n ≤ b' := by rw [← hlow']; exact hb'
                rw [hr.fresh b' this] at e; cases e
            · exact keepCase H3
          · exact keepCase H3
end Go.Ev
