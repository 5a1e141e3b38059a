/- The calculus by values, part 6. -/
import Derived.Test.YtapigaemojnaaaaGreatDoorVc5
set_option linter.unusedVariables false
set_option linter.unusedSectionVars false
set_option linter.unusedSimpArgs false

/- A calculus of Go's functions by their values: every operation. -/
namespace Go.Vc
open Go.RowKit
variable [Wd] {P : Program} {cx : Cx} {G : Gh} {lh : List (Nat × PV)} {w : World}

theorem RepL'.one {xs : List PV} {u : Value} (h : RepL' xs G w [u]) : ∃ x, xs = [x] ∧ Rep x G w u := by
  cases xs with
  | nil => cases (show [u] = [] from h)
  | cons x l =>
    obtain ⟨u', us', e, h1, h2⟩ := h
    injection e with e1 e2; subst e1; subst e2
    cases l with
    | nil => exact ⟨x, rfl, h1⟩
    | cons y l => obtain ⟨_, _, e, _⟩ := h2; cases e
theorem RepL'.cons {xs : List PV} {u : Value} {us : List Value} (h : RepL' xs G w (u :: us)) : ∃ x l, xs = x :: l ∧ Rep x G w u ∧ RepL' l G w us := by
  cases xs with
  | nil => cases (show u :: us = [] from h)
  | cons x l =>
    obtain ⟨u', us', e, h1, h2⟩ := h
    injection e with e1 e2; subst e1; subst e2
    exact ⟨x, l, rfl, h1, h2⟩
theorem RepL'.two {xs : List PV} {u v : Value} (h : RepL' xs G w [u, v]) : ∃ x y, xs = [x, y] ∧ Rep x G w u ∧ Rep y G w v := by
  obtain ⟨x, l, rfl, h1, h2⟩ := h.cons
  obtain ⟨y, rfl, h3⟩ := h2.one
  exact ⟨x, y, rfl, h1, h3⟩
theorem RepL'.three {xs : List PV} {u v q : Value} (h : RepL' xs G w [u, v, q]) : ∃ x y z, xs = [x, y, z] ∧ Rep x G w u ∧ Rep y G w v ∧ Rep z G w q := by
  obtain ⟨x, l, rfl, h1, h2⟩ := h.cons
  obtain ⟨y, z, rfl, h3, h4⟩ := h2.two
  exact ⟨x, y, z, rfl, h1, h3, h4⟩
/-- What an operation does to a world, and gives. -/
def Does (P : Program) (cx : Cx) (G : Gh) (w : World) (o : Oper) (a : Act) (v : PV) (f : Option (PV → PV)) (lh' : List (Nat × PV)) : Prop :=
  ∀ (K : Act → World → Prop) (Q : Exit → Act → World → Prop), (∀ G' w' u, Turns cx G w f lh' G' w' → Rep v G' w' u → K (a.put o.dst u) w') → o.wp P a w K Q
theorem Does.val {o : Oper} {a : Act} {v : PV} {f : Option (PV → PV)} {lh' : List (Nat × PV)} {s : Sem Value} (he : execOp a.eval o = (do Pure.pure (Next.value (← s)))) (h : ∃ u G' w', s.run P w = .ok u w' ∧ Turns cx G w f lh' G' w' ∧ Rep v G' w' u) : Does P cx G w o a v f lh' := by
  intro K Q hK
  obtain ⟨u, G', w', h1, h2, h3⟩ := h
  unfold Oper.wp
  rw [he, Sem.run_bind, h1]
  exact hK G' w' u h2 h3
theorem Does.quiet {o : Oper} {a : Act} {v : PV} {s : Sem Value} (hi : Inv cx G lh w) (he : execOp a.eval o = (do Pure.pure (Next.value (← s)))) (h : Gives P s v G w) : Does P cx G w o a v none lh := by
  obtain ⟨u, h1, h2⟩ := h
  exact .val he ⟨u, G, w, h1 w, .refl hi, h2⟩
theorem Does.pure {o : Oper} {a : Act} {v : PV} {u : Value} (hi : Inv cx G lh w) (he : execOp a.eval o = Pure.pure (Next.value u)) (h : Rep v G w u) : Does P cx G w o a v none lh := by
  intro K Q hK
  unfold Oper.wp
  rw [he]
  exact hK G w u (.refl hi) h
theorem allocS_ok {e : TypeId} {d : Option Tmp} {v : PV} {f : Option (PV → PV)} {lh' : List (Nat × PV)} (h : (allocS P e d lh).Is v f lh lh') : allocS P e d lh = .ok v f lh' := by
  unfold allocS at h ⊢
  split at h
  · split at h
    · obtain ⟨rfl, rfl, rfl⟩ := h; rfl
    · exact h.elim
  · exact h.elim
theorem boxR_ok {e : TypeId} {x : PV} {d : Option Tmp} {v : PV} {f : Option (PV → PV)} {lh' : List (Nat × PV)} (h : (boxR P e x d lh).Is v f lh lh') : boxR P e x d lh = .ok v f lh' := by
  unfold boxR at h ⊢
  split at h
  · split at h
    · obtain ⟨rfl, rfl, rfl⟩ := h; rfl
    · exact h.elim
  · exact h.elim
theorem map_parts (ρ : Operand → Value) (ps : Array (Nat × Operand)) : (ps.map fun (i, x) => (i, ρ x)) = ((ps.toList.map (·.1)).zip ((ps.toList.map (·.2)).map ρ)).toArray := by
  apply Array.ext'
  simp
  induction ps.toList with
  | nil => rfl
  | cons p l ih => simp [ih]
theorem typeds_ok : ∀ {ts : List TypeId} {xs : List PV} {us : List Value}, RepL' xs G w us → RepL' (typeds P ts xs) G w us
  | t :: ts, x :: xs, us, h => by
    obtain ⟨u, us', rfl, h1, h2⟩ := h
    exact ⟨u, us', rfl, typed_ok h1, typeds_ok h2⟩
  | [], xs, us, h => by unfold typeds; exact h
  | _ :: _, [], us, h => by unfold typeds; exact h
theorem opt1 {x : Operand} {a : Act} {y : PV} (h : Rep y G w (a.eval x)) : OptRep G w (some y) ((some x).map a.eval) := h
theorem calm_is {g : Option (Nat × Bool)} {s : OpS} {v : PV} {f : Option (PV → PV)} {lh lh' : List (Nat × PV)} (h : (calm g s).Is v f lh lh') : s.Is v f lh lh' := by
  cases s with
  | bad n => cases g with
    | none => exact h.elim
    | some g => exact h.1.elim
  | _ => exact h
set_option maxHeartbeats 4000000 in
theorem evOp0_ok {T : Tabs} {X : Tbl} (hX : XOk P T X) (hi : Inv cx G lh w) (hm : cx.m ≤ 32) (hT : TabC T cx) {o : Oper} (hnp : ∀ c x y, o.op ≠ .pick c x y) {a : Act} {xs : List PV} {v : PV} {f : Option (PV → PV)} {lh' : List (Nat × PV)}
    (hx : RepL' xs G w (o.op.operands.toList.map a.eval)) (h : (evOp0 P X T o xs lh).Is v f lh lh') : Does P cx G w o a v f lh' := by
  obtain ⟨dst, op, type, pos, after, guard⟩ := o
  cases op
  case move x =>
    obtain ⟨x0, rfl, h1⟩ := RepL'.one (u := a.eval x) hx
    obtain ⟨rfl, rfl, rfl⟩ := h
    exact .pure hi rfl (typed_ok h1)
  case assign x =>
    obtain ⟨x0, rfl, h1⟩ := RepL'.one (u := a.eval x) hx
    unfold evOp0 at h
    dsimp only at h
    split at h
    · rename_i e n hc hd hn
      obtain ⟨rfl, rfl, rfl⟩ := h
      have hx0 : a.eval x = .slice none 0 0 := by
        unfold nilConst at hc
        split at hc
        · rfl
        · cases hc
      obtain ⟨s1, s2⟩ := hi.turn (w' := w) (stillF_ok n) none rfl rfl rfl (Nat.le_refl _) (fun _ _ _ => rfl) (fun t b e => by cases e)
      intro K Q hK
      unfold Oper.wp
      show K (a.put dst (a.eval x)) w
      exact hK _ w _ ⟨s1, s2, hi.turn_le _ _⟩ (by rw [hx0]; exact empty_ok n)
    · obtain ⟨rfl, rfl, rfl⟩ := h
      exact .pure hi rfl h1
  case pick c x y => exact absurd rfl (hnp c x y)
  case alloc e =>
    obtain ⟨u, G', w', r1, r2, r3⟩ := alloc_ok hi hm (allocS_ok h)
    exact .val rfl ⟨u, G', w', r1, r2, r3⟩
  case box e x =>
    obtain ⟨x0, rfl, h1⟩ := RepL'.one (u := a.eval x) hx
    obtain ⟨u, G', w', r1, r2, r3⟩ := box_ok hi hm (boxR_ok h) h1
    exact .val rfl ⟨u, G', w', r1, r2, r3⟩
  case build t ps =>
    obtain ⟨h1, rfl, rfl⟩ := OpR.at_is h
    have hx' : RepL' xs G w ((ps.toList.map (·.2)).map a.eval) := by simpa [Op.operands] using hx
    refine .quiet hi (s := Instr.build t (ps.map fun (i, x) => (i, a.eval x))) rfl ?_
    rw [map_parts]
    exact build_ok h1 hx'
  case buildSlice t n ps =>
    have hx' : RepL' xs G w ((ps.toList.map (·.2)).map a.eval) := by simpa [Op.operands] using hx
    unfold evOp0 at h
    dsimp only at h
    split at h
    · rename_i ht hn
      obtain ⟨h1, rfl, rfl⟩ := OpR.at_is h
      obtain ⟨u, G', w', r1, r2, r3⟩ := buildSlice_ok hi h1 ht hn hx'
      refine .val (s := Instr.buildSlice t n (ps.map fun (i, x) => (i, a.eval x))) rfl ⟨u, G', w', ?_, r2, r3⟩
      rw [map_parts]; exact r1
    · exact h.elim
  case load t x =>
    obtain ⟨x0, rfl, h1⟩ := RepL'.one (u := a.eval x) hx
    obtain ⟨h2, rfl, rfl⟩ := OpR.at_is h
    obtain ⟨u, r1, r2⟩ := loadR_ok hi hT.1 h2 h1
    exact .val rfl ⟨u, G, w, r1, .refl hi, r2⟩
  case store t x y =>
    obtain ⟨x0, y0, rfl, h1, h2⟩ := RepL'.two (u := a.eval x) (v := a.eval y) hx
    obtain ⟨w', r1, r2, rfl⟩ := store_ok hi h h1 h2
    intro K Q hK
    unfold Oper.wp
    show Oper.upon P _ a K Q ((do Instr.storeAt t (a.eval x) (a.eval y); Pure.pure Next.skip : Sem Next).run P w)
    rw [Sem.run_bind, r1]
    exact hK G w' undef r2 ⟨[], rfl, rfl⟩
  case nilCheck x =>
    obtain ⟨x0, rfl, h1⟩ := RepL'.one (u := a.eval x) hx
    unfold evOp0 at h
    dsimp only at h
    split at h
    · rename_i n off he
      injection he with he; subst he
      obtain ⟨rfl, rfl, rfl⟩ := h
      obtain ⟨b, h2, h3⟩ := h1
      refine .pure hi (u := a.eval x) ?_ ⟨b, h2, h3⟩
      unfold execOp
      dsimp only
      rw [h3]
    · rename_i g p q he
      injection he with he; subst he
      obtain ⟨rfl, rfl, rfl⟩ := h
      obtain ⟨us, vs, h2, h3, h4⟩ := h1
      refine .pure hi (u := a.eval x) ?_ ⟨us, vs, h2, h3, h4⟩
      unfold execOp
      dsimp only
      rw [h4]
    · exact h.elim
  case binOp op t x y yt =>
    obtain ⟨x0, y0, rfl, h1, h2⟩ := RepL'.two (u := a.eval x) (v := a.eval y) hx
    obtain ⟨h3, rfl, rfl⟩ := OpR.at_is h
    exact .quiet hi (s := binSem op t x y (a.eval x) (a.eval y)) rfl (bin_ok h3 h1 h2 x y)
  case unOp op t x =>
    obtain ⟨x0, rfl, h1⟩ := RepL'.one (u := a.eval x) hx
    obtain ⟨h3, rfl, rfl⟩ := OpR.at_is h
    exact .quiet hi rfl (un_ok h3 h1)
  case convert s d x =>
    obtain ⟨x0, rfl, h1⟩ := RepL'.one (u := a.eval x) hx
    cases guard with
    | none => exact .val rfl (convS_ok hi (show (convS P s d x0 dst lh).Is v f lh lh' from h) h1)
    | some g =>
      obtain ⟨h3, rfl, rfl⟩ := OpR.at_is (show (convR P s d x0).at.Is v f lh lh' from h)
      exact .val rfl (convM_ok hi h3 h1)
  case makeSlice t x y =>
    obtain ⟨x0, y0, rfl, h1, h2⟩ := RepL'.two (u := a.eval x) (v := a.eval y) hx
    exact .val rfl (makeSlice_ok hi h h1 h2)
  case slice t x lo hi' mx =>
    cases mx with
    | some m => cases lo <;> cases hi' <;> exact h.elim
    | none =>
      cases lo with
      | none =>
        cases hi' with
        | none =>
          obtain ⟨x0, rfl, h1⟩ := RepL'.one (u := a.eval x) hx
          obtain ⟨h3, rfl, rfl⟩ := OpR.at_is h
          exact .quiet hi rfl (slice_ok h3 h1 trivial trivial)
        | some b =>
          obtain ⟨x0, y0, rfl, h1, h2⟩ := RepL'.two (u := a.eval x) (v := a.eval b) hx
          obtain ⟨h3, rfl, rfl⟩ := OpR.at_is h
          exact .quiet hi rfl (slice_ok h3 h1 trivial (opt1 h2))
      | some q =>
        cases hi' with
        | none =>
          obtain ⟨x0, y0, rfl, h1, h2⟩ := RepL'.two (u := a.eval x) (v := a.eval q) hx
          obtain ⟨h3, rfl, rfl⟩ := OpR.at_is h
          exact .quiet hi rfl (slice_ok h3 h1 (opt1 h2) trivial)
        | some b =>
          obtain ⟨x0, y0, z0, rfl, h1, h2, h4⟩ := RepL'.three (u := a.eval x) (v := a.eval q) (q := a.eval b) hx
          obtain ⟨h3, rfl, rfl⟩ := OpR.at_is h
          exact .quiet hi rfl (slice_ok h3 h1 (opt1 h2) (opt1 h4))
  case fieldAddr t x f =>
    obtain ⟨x0, rfl, h1⟩ := RepL'.one (u := a.eval x) hx
    obtain ⟨h3, rfl, rfl⟩ := OpR.at_is h
    exact .quiet hi rfl (fieldAddr_ok h3 h1)
  case field t x f =>
    obtain ⟨x0, rfl, h1⟩ := RepL'.one (u := a.eval x) hx
    obtain ⟨h3, rfl, rfl⟩ := OpR.at_is h
    exact .quiet hi rfl (field_ok h3 h1)
  case indexAddr t x y =>
    obtain ⟨x0, y0, rfl, h1, h2⟩ := RepL'.two (u := a.eval x) (v := a.eval y) hx
    obtain ⟨h3, rfl, rfl⟩ := OpR.at_is h
    exact .quiet hi rfl (indexAddr_ok h3 h1 h2)
  case index t x y =>
    obtain ⟨x0, y0, rfl, h1, h2⟩ := RepL'.two (u := a.eval x) (v := a.eval y) hx
    obtain ⟨h3, rfl, rfl⟩ := OpR.at_is h
    exact .quiet hi rfl (index_ok h3 h1 h2)
  case extract x i =>
    obtain ⟨x0, rfl, h1⟩ := RepL'.one (u := a.eval x) hx
    unfold evOp0 at h
    dsimp only at h
    split at h
    · rename_i l he
      injection he with he; subst he
      obtain ⟨h3, rfl, rfl⟩ := OpR.at_is h
      exact .quiet hi rfl (extract_ok h3 h1)
    · exact h.elim
  case call c =>
    obtain ⟨callee, args, argTypes⟩ := c
    cases callee
    case builtin b =>
      have hx' : RepL' xs G w (args.toList.map a.eval) := by simpa [Op.operands, Call.operands] using hx
      have ex : ∀ {us : List Value}, args.toList.map a.eval = us → ∀ (s : Sem Value), (∀ cs : Array Bool, builtin b argTypes type cs us.toArray = (do Pure.pure (Next.value (← s)))) → execOp a.eval ⟨dst, .call ⟨.builtin b, args, argTypes⟩, type, pos, after, guard⟩ = (do Pure.pure (Next.value (← s))) := by
        intro us hus s hs
        show (do let d ← resolve a.eval ⟨.builtin b, args, argTypes⟩ type; invoke d.target d.args) = _
        unfold resolve
        dsimp only
        have : args.map a.eval = us.toArray := by apply Array.ext'; simpa using hus
        rw [this]
        exact hs _
      unfold evOp0 at h
      dsimp only at h
      split at h
      · rename_i t h0
        split at h
        · rename_i x0
          obtain ⟨h3, rfl, rfl⟩ := OpR.at_is h
          obtain ⟨u, us, hl, h1, h2⟩ := hx'
          obtain rfl : us = [] := h2
          obtain ⟨q, g1, g2⟩ := len_ok (ty := type) h0 h3 (typed_ok (P := P) (t := t) (tok := 0) h1)
          exact .val (s := Builtin.len_ argTypes type #[u]) (ex hl _ fun cs => rfl) ⟨q, G, w, g1 w, .refl hi, g2⟩
        · exact h.elim
      · rename_i t h0
        split at h
        · rename_i tx h1x
          split at h
          · rename_i x0 y0
            obtain ⟨u, us, hl, h1, h2⟩ := hx'
            obtain ⟨u2, us2, rfl, h3, h4⟩ := h2
            obtain rfl : us2 = [] := h4
            obtain ⟨q, G', w', g1, g2, g3⟩ := append_ok (ty := type) h0 h1x hi h (typed_ok h1) (typed_ok h3)
            exact .val (s := Builtin.append_ argTypes type #[u, u2]) (ex hl _ fun cs => rfl) ⟨q, G', w', g1, g2, g3⟩
          · exact h.elim
        · exact h.elim
      · split at h
        · rename_i p q
          obtain ⟨rfl, rfl, rfl⟩ := h
          obtain ⟨u, us, hl, h1, h2⟩ := hx'
          obtain ⟨u2, us2, rfl, h3, h4⟩ := h2
          obtain rfl : us2 = [] := h4
          obtain rfl : u = .int .i64 p := h1
          obtain rfl : u2 = .int .i64 q := h3
          refine .val (s := Builtin.min_ argTypes type #[.int .i64 p, .int .i64 q]) (ex hl _ fun cs => rfl) ⟨_, G, w, rfl, .refl hi, ?_⟩
          show Value.int .i64 (if q < p then q else p) = _
          congr 1
          split <;> omega
        · exact h.elim
      · split at h
        · rename_i p q
          obtain ⟨rfl, rfl, rfl⟩ := h
          obtain ⟨u, us, hl, h1, h2⟩ := hx'
          obtain ⟨u2, us2, rfl, h3, h4⟩ := h2
          obtain rfl : us2 = [] := h4
          obtain rfl : u = .int .i64 p := h1
          obtain rfl : u2 = .int .i64 q := h3
          refine .val (s := Builtin.max_ argTypes type #[.int .i64 p, .int .i64 q]) (ex hl _ fun cs => rfl) ⟨_, G, w, rfl, .refl hi, ?_⟩
          show Value.int .i64 (if q > p then q else p) = _
          congr 1
          split <;> omega
        · exact h.elim
      · exact h.elim
    case value F =>
      have hx' : RepL' xs G w (a.eval F :: args.toList.map a.eval) := by simpa [Op.operands, Call.operands] using hx
      unfold evOp0 at h
      dsimp only at h
      split at h
      · rename_i g p q ys
        obtain ⟨u, us, e, h1, h2⟩ := hx'
        injection e with e1 e2
        obtain ⟨x1, x2, g1, g2, g3⟩ := h1
        intro K Q hK
        have hargs : RepL' (p ++ typeds P argTypes.toList ys ++ q) G w (x1 ++ us ++ x2) := (g1.append (typeds_ok h2)).append g2
        have hrun : (execOp a.eval ⟨dst, .call ⟨.value F, args, argTypes⟩, type, pos, after, guard⟩).run P w = (callFunc g ((x1 ++ us) ++ x2).toArray).run P w := by
          have : execOp a.eval ⟨dst, .call ⟨.value F, args, argTypes⟩, type, pos, after, guard⟩ = (do let d ← Go.resolve a.eval ⟨.value F, args, argTypes⟩ type; invoke d.target d.args) := rfl
          rw [this]
          unfold Go.resolve Deferred.ofValue invoke
          simp only [e1, g3, Sem.run_bind, Sem.run_pure, Result.andThen_ok]
          congr 2
          apply Array.ext'
          simp [← e2]
        unfold Oper.wp
        rw [hrun]
        rcases call_ok hX hi hT h hargs (fun u w' => K (a.put dst u) w') hK with ⟨r1, r2⟩ | ⟨u, w', r1, r2⟩
        · rw [r1]
          refine r2.mono fun e w' he => ?_
          obtain ⟨u, rfl, hk⟩ := he
          exact hk
        · rw [r1]
          exact r2
      · exact h.elim
    all_goals exact h.elim
  all_goals exact h.elim
theorem evOp_ok {T : Tabs} {X : Tbl} (hX : XOk P T X) (hi : Inv cx G lh w) (hm : cx.m ≤ 32) (hT : TabC T cx) {o : Oper} (hnp : ∀ c x y, o.op ≠ .pick c x y) {a : Act} {xs : List PV} {v : PV} {f : Option (PV → PV)} {lh' : List (Nat × PV)}
    (hx : RepL' xs G w (o.op.operands.toList.map a.eval)) (h : (evOp P X T o xs lh).Is v f lh lh') : Does P cx G w o a v f lh' := evOp0_ok hX hi hm hT hnp hx (calm_is h)
theorem evOpD_ok {T : Tabs} {X : Tbl} (hX : XOk P T X) (hi : Inv cx G lh w) (hm : cx.m ≤ 32) (hT : TabC T cx) {o : Oper} (hnp : ∀ c x y, o.op ≠ .pick c x y) {a : Act} {xs : List PV} {v : PV} {f : Option (PV → PV)} {lh' : List (Nat × PV)}
    (hx : RepL' xs G w (o.op.operands.toList.map a.eval)) (h : (evOpD P X T o xs lh).Is v f lh lh') : Does P cx G w o a v f lh' := by
  by_cases hc : ∃ s d x, o.op = .convert s d x
  · obtain ⟨dst, op, type, pos, after, guard⟩ := o
    obtain ⟨s, d, x, rfl⟩ := hc
    obtain ⟨x0, rfl, h1⟩ := RepL'.one (u := a.eval x) hx
    obtain ⟨h3, rfl, rfl⟩ := OpR.at_is (show (convR P s d x0).at.Is v f lh lh' from h)
    exact .val rfl (convM_ok hi h3 h1)
  · have : evOpD P X T o xs lh = evOp P X T o xs lh := by
      unfold evOpD
      split
      · rename_i s d x e
        exact absurd ⟨s, d, x, e⟩ hc
      · rfl
    rw [this] at h
    exact evOp_ok hX hi hm hT hnp hx h
end Go.Vc

