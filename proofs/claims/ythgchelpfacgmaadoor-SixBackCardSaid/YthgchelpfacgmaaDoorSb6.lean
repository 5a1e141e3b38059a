import Derived.IntWalk
import Derived.Test.YthgchelpfacgmaaDoorSb5
set_option linter.unusedVariables false
set_option linter.unusedSectionVars false
set_option linter.unusedSimpArgs false
namespace Go.Vc
open Go.RowKit
section
inductive Eff where
  | none
  | put (b off : Nat) (vs : List Value)
def Eff.app : Eff → World → World
  | .none, w => w
  | .put b off vs, w => w.setCells b off vs
structure Rng where
  b : Nat
  o : Nat
  n : Nat
def Rng.Apart (x y : Rng) : Prop := x.b ≠ y.b ∨ x.o + x.n ≤ y.o ∨ y.o + y.n ≤ x.o
theorem Rng.Apart.symm {x y : Rng} (h : x.Apart y) : y.Apart x := by
  unfold Rng.Apart at h ⊢
  rcases h with h | h | h
  · exact .inl fun e => h e.symm
  · exact .inr (.inr h)
  · exact .inr (.inl h)
def Eff.rng : Eff → Option Rng
  | .none => Option.none
  | .put b off vs => some ⟨b, off, vs.length⟩
theorem setCell_comm (w : World) (b o b' o' : Nat) (v u : Value) (h : b ≠ b' ∨ o ≠ o') : (w.setCell ⟨b, o, none⟩ v).setCell ⟨b', o', none⟩ u = (w.setCell ⟨b', o', none⟩ u).setCell ⟨b, o, none⟩ v := by
  unfold World.setCell
  simp only [World.mk.injEq, and_true]
  apply Array.ext_getElem?
  intro i
  simp only [Array.getElem?_modify]
  by_cases h1 : b = i
  · by_cases h2 : b' = i
    · have h3 : o ≠ o' := by
        rcases h with h | h
        · exact absurd (h1.trans h2.symm) h
        · exact h
      simp only [h1, h2, if_true, Option.map_map]
      congr 1
      funext x
      cases x <;> simp [Array.setIfInBounds_comm _ _ h3]
    · simp only [h1, h2, if_true, if_false]
  · by_cases h2 : b' = i
    · simp only [h1, h2, if_true, if_false]
    · simp only [h1, h2, if_false]
theorem setCells_cell_comm (b b' o' : Nat) (u : Value) : ∀ (vs : List Value) (o : Nat) (w : World), (b ≠ b' ∨ o' < o ∨ o + vs.length ≤ o') → (w.setCells b o vs).setCell ⟨b', o', none⟩ u = (w.setCell ⟨b', o', none⟩ u).setCells b o vs
  | [], o, w, h => rfl
  | v :: vs, o, w, h => by
    rw [World.setCells, World.setCells, setCells_cell_comm b b' o' u vs (o + 1) _ (by
      rcases h with h | h | h
      · exact .inl h
      · exact .inr (.inl (by omega))
      · exact .inr (.inr (by rw [List.length_cons] at h; omega))), setCell_comm w b o b' o' v u (by
      rcases h with h | h | h
      · exact .inl h
      · exact .inr (by omega)
      · exact .inr (by rw [List.length_cons] at h; omega))]
theorem setCells_comm (b b' o : Nat) (vs : List Value) : ∀ (us : List Value) (o' : Nat) (w : World), (b ≠ b' ∨ o + vs.length ≤ o' ∨ o' + us.length ≤ o) → (w.setCells b o vs).setCells b' o' us = (w.setCells b' o' us).setCells b o vs
  | [], o', w, h => rfl
  | u :: us, o', w, h => by
    rw [World.setCells, World.setCells, setCells_cell_comm b b' o' u vs o w (by
      rcases h with h | h | h
      · exact .inl h
      · exact .inr (.inr h)
      · exact .inr (.inl (by rw [List.length_cons] at h; omega))), setCells_comm b b' o vs us (o' + 1) _ (by
      rcases h with h | h | h
      · exact .inl h
      · exact .inr (.inl (by omega))
      · exact .inr (.inr (by rw [List.length_cons] at h; omega)))]
theorem Eff.comm {e f : Eff} (h : ∀ x y, e.rng = some x → f.rng = some y → x.Apart y) (w : World) : f.app (e.app w) = e.app (f.app w) := by
  cases e with
  | none => rfl
  | put b o vs => cases f with
    | none => rfl
    | put b' o' us => exact setCells_comm b b' o vs us o' w (h ⟨b, o, vs.length⟩ ⟨b', o', us.length⟩ rfl rfl)
def SameAt (r : Rng) (w w' : World) : Prop := ∀ j, j < r.n → w'.cell? ⟨r.b, r.o + j, none⟩ = w.cell? ⟨r.b, r.o + j, none⟩
theorem Eff.same {e : Eff} {r : Rng} (h : ∀ x, e.rng = some x → x.Apart r) (w : World) : SameAt r w (e.app w) := by
  cases e with
  | none => exact fun j _ => rfl
  | put b o vs =>
    intro j hj
    refine World.cell?_setCells_out b vs o w _ fun h1 _ => ?_
    have := h ⟨b, o, vs.length⟩ rfl
    unfold Rng.Apart at this
    dsimp only at this h1 ⊢
    rcases this with h | h | h
    · exact absurd h1.symm h
    · exact .inr (by omega)
    · exact .inl (by omega)
def Alike (w w' : World) : Prop := ∀ (b n : Nat) (e : TypeId) (fz : Nat × Nat), (∃ xs, w.heap[b]? = some (.cells xs e fz) ∧ xs.size = n) ↔ ∃ xs, w'.heap[b]? = some (.cells xs e fz) ∧ xs.size = n
theorem Alike.refl (w : World) : Alike w w := fun _ _ _ _ => Iff.rfl
theorem Alike.symm {w w' : World} (h : Alike w w') : Alike w' w := fun b n e fz => (h b n e fz).symm
theorem Alike.trans {w w' w'' : World} (h : Alike w w') (h' : Alike w' w'') : Alike w w'' := fun b n e fz => (h b n e fz).trans (h' b n e fz)
theorem setCell_alike (w : World) (b o : Nat) (v : Value) : Alike w (w.setCell ⟨b, o, none⟩ v) := by
  intro c n e fz
  simp only [World.setCell, Array.getElem?_modify]
  by_cases h : b = c
  · simp only [h, if_true]
    cases hh : w.heap[c]? with
    | none => simp
    | some x =>
      cases x with
      | cells cs e' fz' =>
        simp only [Option.map_some, Option.some.injEq, Obj.cells.injEq]
        constructor
        · rintro ⟨xs, ⟨rfl, rfl, rfl⟩, rfl⟩
          exact ⟨_, ⟨rfl, rfl, rfl⟩, by simp⟩
        · rintro ⟨xs, ⟨rfl, rfl, rfl⟩, h2⟩
          exact ⟨_, ⟨rfl, rfl, rfl⟩, by simpa using h2⟩
      | _ => simp
  · simp only [h, if_false]
theorem setCells_alike (b : Nat) : ∀ (vs : List Value) (o : Nat) (w : World), Alike w (w.setCells b o vs)
  | [], o, w => .refl w
  | v :: vs, o, w => (setCell_alike w b o v).trans (setCells_alike b vs (o + 1) _)
theorem Eff.alike (e : Eff) (w : World) : Alike w (e.app w) := by
  cases e with
  | none => exact .refl w
  | put b o vs => exact setCells_alike b vs o w
def memE : Op → Bool
  | .load .. | .store .. => true
  | _ => false
theorem exec_same {o : Oper} (hq : (quietE o.op || memE o.op) = true) {f g : Operand → Value} (h : ∀ x ∈ o.op.operands.toList, f x = g x) : execOp f o = execOp g o := by
  obtain ⟨dst, op, type, pos, after, guard⟩ := o
  cases op
  case move x => have e := h x (by simp [Op.operands]); unfold execOp; dsimp only; rw [e]
  case assign x => have e := h x (by simp [Op.operands]); unfold execOp; dsimp only; rw [e]
  case nilCheck x => have e := h x (by simp [Op.operands]); unfold execOp; dsimp only; rw [e]
  case binOp op t x y yt => have e := h x (by simp [Op.operands]); have e2 := h y (by simp [Op.operands]); unfold execOp; dsimp only; rw [e, e2]
  case unOp op t x => have e := h x (by simp [Op.operands]); unfold execOp; dsimp only; rw [e]
  case fieldAddr t x f => have e := h x (by simp [Op.operands]); unfold execOp; dsimp only; rw [e]
  case field t x f => have e := h x (by simp [Op.operands]); unfold execOp; dsimp only; rw [e]
  case indexAddr t x y => have e := h x (by simp [Op.operands]); have e2 := h y (by simp [Op.operands]); unfold execOp; dsimp only; rw [e, e2]
  case index t x y => have e := h x (by simp [Op.operands]); have e2 := h y (by simp [Op.operands]); unfold execOp; dsimp only; rw [e, e2]
  case extract x i => have e := h x (by simp [Op.operands]); unfold execOp; dsimp only; rw [e]
  case load t x => have e := h x (by simp [Op.operands]); unfold execOp; dsimp only; rw [e]
  case store t x y => have e := h x (by simp [Op.operands]); have e2 := h y (by simp [Op.operands]); unfold execOp; dsimp only; rw [e, e2]
  case build t ps =>
    have e : ps.map (fun (i, x) => (i, f x)) = ps.map (fun (i, x) => (i, g x)) := by
      apply Array.map_congr_left
      intro p hp
      have := h p.2 (by simp [Op.operands]; exact ⟨p.1, by simpa using hp⟩)
      dsimp only
      rw [this]
    unfold execOp; dsimp only; rw [e]
  case slice t x lo hi mx =>
    have e := h x (by cases lo <;> cases hi <;> cases mx <;> simp [Op.operands])
    have e1 : lo.map f = lo.map g := by cases lo with | none => rfl | some q => exact congrArg some (h q (by cases hi <;> cases mx <;> simp [Op.operands]))
    have e2 : hi.map f = hi.map g := by cases hi with | none => rfl | some q => exact congrArg some (h q (by cases lo <;> cases mx <;> simp [Op.operands]))
    have e3 : mx.map f = mx.map g := by cases mx with | none => rfl | some q => exact congrArg some (h q (by cases lo <;> cases hi <;> simp [Op.operands]))
    unfold execOp; dsimp only; rw [e, e1, e2, e3]
  case call c =>
    obtain ⟨callee, args, argTypes⟩ := c
    cases callee with
    | builtin b =>
      have e : args.map f = args.map g := by
        apply Array.map_congr_left
        intro p hp
        exact h p (by simp [Op.operands, Call.operands]; exact hp)
      cases b <;> first
        | (cases hq; done)
        | (unfold execOp; dsimp only; unfold resolve; dsimp only; rw [e])
    | _ => cases hq
  all_goals (cases hq)
def SameOps (o : Oper) (a a' : Act) : Prop := ∀ t, Operand.tmp t ∈ o.op.operands.toList → a'.tmps.getD t undef = a.tmps.getD t undef
theorem SameOps.eval {o : Oper} {a a' : Act} (h : SameOps o a a') : ∀ x ∈ o.op.operands.toList, a'.eval x = a.eval x := by
  intro x hx
  cases x with
  | tmp t => exact h t hx
  | _ => rfl
def Exec (P : Program) (o : Oper) (a : Act) (w : World) (u : Value) (r : Option Rng) (e : Eff) : Prop :=
  ∃ nx : Next, (nx = .value u ∨ (nx = .skip ∧ u = undef)) ∧ ∀ (a' : Act) (w' : World), SameOps o a a' → (∀ x, r = some x → SameAt x w w') → Alike w w' → (execOp a'.eval o).run P w' = .ok nx (e.app w')
section
variable [Wd] {P : Program} {cx : Cx} {G : Gh} {lh : List (Nat × PV)} {w : World}
theorem Exec.quiet {o : Oper} {a : Act} {u : Value} {s : Sem Value} (hq : (quietE o.op || memE o.op) = true) (he : execOp a.eval o = (do Pure.pure (Next.value (← s)))) (hs : ∀ w', s.run P w' = .ok u w') : Exec P o a w u none .none :=
  ⟨.value u, .inl rfl, fun a' w' ha _ _ => by rw [exec_same hq ha.eval, he, Sem.run_bind, hs]; rfl⟩
theorem Exec.pure {o : Oper} {a : Act} {u : Value} (hq : (quietE o.op || memE o.op) = true) (he : execOp a.eval o = Pure.pure (Next.value u)) : Exec P o a w u none .none :=
  ⟨.value u, .inl rfl, fun a' w' ha _ _ => by rw [exec_same hq ha.eval, he]; rfl⟩
set_option maxHeartbeats 1000000 in
theorem quiet_ok {X : Tbl} {T : Tabs} (hi : Inv cx G lh w) {o : Oper} (hq : quietE o.op = true) {a : Act} {xs : List PV} {v : PV} {f : Option (PV → PV)} {lh' : List (Nat × PV)}
    (hx : RepL' xs G w (o.op.operands.toList.map a.eval)) (h : (evOp0 P X T o xs lh).Is v f lh lh') : f = none ∧ lh' = lh ∧ ∃ u, Rep v G w u ∧ Exec P o a w u none .none := by
  have hq2 : (quietE o.op || memE o.op) = true := by rw [hq]; rfl
  have qt : ∀ {s : Sem Value}, execOp a.eval o = (do Pure.pure (Next.value (← s))) → Gives P s v G w → ∃ u, Rep v G w u ∧ Exec P o a w u none .none := fun he hg => by
    obtain ⟨u, h1, h2⟩ := hg
    exact ⟨u, h2, .quiet hq2 he h1⟩
  obtain ⟨dst, op, type, pos, after, guard⟩ := o
  cases op
  case move x =>
    obtain ⟨x0, rfl, h1⟩ := RepL'.one (u := a.eval x) hx
    obtain ⟨rfl, rfl, rfl⟩ := h
    exact ⟨rfl, rfl, _, typed_ok h1, .pure hq2 rfl⟩
  case assign x =>
    obtain ⟨x0, rfl, h1⟩ := RepL'.one (u := a.eval x) hx
    unfold evOp0 at h
    dsimp only at h
    split at h
    · rename_i e n hc hd hn
      have : (!nilConst x) = true := hq
      rw [hc] at this; cases this
    · obtain ⟨rfl, rfl, rfl⟩ := h
      exact ⟨rfl, rfl, _, h1, .pure hq2 rfl⟩
  case build t ps =>
    obtain ⟨h1, rfl, rfl⟩ := OpR.at_is h
    have hx' : RepL' xs G w ((ps.toList.map (·.2)).map a.eval) := by simpa [Op.operands] using hx
    refine ⟨rfl, rfl, qt (s := Instr.build t (ps.map fun (i, x) => (i, a.eval x))) rfl ?_⟩
    rw [map_parts]
    exact build_ok h1 hx'
  case nilCheck x =>
    obtain ⟨x0, rfl, h1⟩ := RepL'.one (u := a.eval x) hx
    unfold evOp0 at h
    dsimp only at h
    split at h
    · rename_i n off he
      injection he with he; subst he
      obtain ⟨rfl, rfl, rfl⟩ := h
      obtain ⟨b, h2, h3⟩ := h1
      refine ⟨rfl, rfl, a.eval x, ⟨b, h2, h3⟩, .pure hq2 ?_⟩
      unfold execOp
      dsimp only
      rw [h3]
    · rename_i g p q he
      injection he with he; subst he
      obtain ⟨rfl, rfl, rfl⟩ := h
      obtain ⟨us, vs, h2, h3, h4⟩ := h1
      refine ⟨rfl, rfl, a.eval x, ⟨us, vs, h2, h3, h4⟩, .pure hq2 ?_⟩
      unfold execOp
      dsimp only
      rw [h4]
    · exact h.elim
  case binOp op t x y yt =>
    obtain ⟨x0, y0, rfl, h1, h2⟩ := RepL'.two (u := a.eval x) (v := a.eval y) hx
    obtain ⟨h3, rfl, rfl⟩ := OpR.at_is h
    exact ⟨rfl, rfl, qt (s := binSem op t x y (a.eval x) (a.eval y)) rfl (bin_ok h3 h1 h2 x y)⟩
  case unOp op t x =>
    obtain ⟨x0, rfl, h1⟩ := RepL'.one (u := a.eval x) hx
    obtain ⟨h3, rfl, rfl⟩ := OpR.at_is h
    exact ⟨rfl, rfl, qt rfl (un_ok h3 h1)⟩
  case slice t x lo hi' mx =>
    cases mx with
    | some m => cases lo <;> cases hi' <;> exact h.elim
    | none =>
      cases lo with
      | none =>
        cases hi' with
        | none =>
          obtain ⟨x0, rfl, h1⟩ := RepL'.one (u := a.eval x) hx
          obtain ⟨h3, rfl, rfl⟩ := OpR.at_is h
          exact ⟨rfl, rfl, qt rfl (slice_ok h3 h1 trivial trivial)⟩
        | some b =>
          obtain ⟨x0, y0, rfl, h1, h2⟩ := RepL'.two (u := a.eval x) (v := a.eval b) hx
          obtain ⟨h3, rfl, rfl⟩ := OpR.at_is h
          exact ⟨rfl, rfl, qt rfl (slice_ok h3 h1 trivial (opt1 h2))⟩
      | some q =>
        cases hi' with
        | none =>
          obtain ⟨x0, y0, rfl, h1, h2⟩ := RepL'.two (u := a.eval x) (v := a.eval q) hx
          obtain ⟨h3, rfl, rfl⟩ := OpR.at_is h
          exact ⟨rfl, rfl, qt rfl (slice_ok h3 h1 (opt1 h2) trivial)⟩
        | some b =>
          obtain ⟨x0, y0, z0, rfl, h1, h2, h4⟩ := RepL'.three (u := a.eval x) (v := a.eval q) (q := a.eval b) hx
          obtain ⟨h3, rfl, rfl⟩ := OpR.at_is h
          exact ⟨rfl, rfl, qt rfl (slice_ok h3 h1 (opt1 h2) (opt1 h4))⟩
  case fieldAddr t x f =>
    obtain ⟨x0, rfl, h1⟩ := RepL'.one (u := a.eval x) hx
    obtain ⟨h3, rfl, rfl⟩ := OpR.at_is h
    exact ⟨rfl, rfl, qt rfl (fieldAddr_ok h3 h1)⟩
  case field t x f =>
    obtain ⟨x0, rfl, h1⟩ := RepL'.one (u := a.eval x) hx
    obtain ⟨h3, rfl, rfl⟩ := OpR.at_is h
    exact ⟨rfl, rfl, qt rfl (field_ok h3 h1)⟩
  case indexAddr t x y =>
    obtain ⟨x0, y0, rfl, h1, h2⟩ := RepL'.two (u := a.eval x) (v := a.eval y) hx
    obtain ⟨h3, rfl, rfl⟩ := OpR.at_is h
    exact ⟨rfl, rfl, qt rfl (indexAddr_ok h3 h1 h2)⟩
  case index t x y =>
    obtain ⟨x0, y0, rfl, h1, h2⟩ := RepL'.two (u := a.eval x) (v := a.eval y) hx
    obtain ⟨h3, rfl, rfl⟩ := OpR.at_is h
    exact ⟨rfl, rfl, qt rfl (index_ok h3 h1 h2)⟩
  case extract x i =>
    obtain ⟨x0, rfl, h1⟩ := RepL'.one (u := a.eval x) hx
    unfold evOp0 at h
    dsimp only at h
    split at h
    · rename_i l he
      injection he with he; subst he
      obtain ⟨h3, rfl, rfl⟩ := OpR.at_is h
      exact ⟨rfl, rfl, qt rfl (extract_ok h3 h1)⟩
    · exact h.elim
  case call c =>
    obtain ⟨callee, args, argTypes⟩ := c
    cases callee
    case builtin b =>
      cases b
      case len =>
        have hx' : RepL' xs G w (args.toList.map a.eval) := by simpa [Op.operands, Call.operands] using hx
        unfold evOp0 at h
        dsimp only at h
        cases h0 : argTypes[0]? with
        | none => rw [h0] at h; exact h.elim
        | some t =>
          rw [h0] at h
          dsimp only at h
          split at h
          · rename_i x0
            obtain ⟨h3, rfl, rfl⟩ := OpR.at_is h
            obtain ⟨u, us, hl, h1, h2⟩ := hx'
            obtain rfl : us = [] := h2
            obtain ⟨q, g1, g2⟩ := len_ok (ty := type) h0 h3 (typed_ok (P := P) (t := t) (tok := 0) h1)
            refine ⟨rfl, rfl, q, g2, .quiet hq2 (s := Builtin.len_ argTypes type #[u]) ?_ g1⟩
            show (do let d ← resolve a.eval ⟨.builtin .len, args, argTypes⟩ type; invoke d.target d.args) = _
            unfold resolve
            dsimp only
            have : args.map a.eval = #[u] := by apply Array.ext'; simpa using hl
            rw [this]
            rfl
          · exact h.elim
      all_goals (cases hq)
    all_goals (cases hq)
  all_goals (cases hq)
def PlAt (G : Gh) (p : Pl) (r : Rng) : Prop := match p with
  | .box n off len => G.σ n = some r.b ∧ off ≤ r.o ∧ r.o + r.n ≤ off + len
  | .mark t => G.τ t = some r.b
  | .still => (∀ n, G.σ n ≠ some r.b) ∧ ∀ t, G.τ t ≠ some r.b
theorem djPl_ok (hi : Inv cx G lh w) {p q : Pl} {r s : Rng} (h : djPl p q = true) (hp : PlAt G p r) (hq : PlAt G q s) : r.Apart s := by
  unfold djPl at h
  split at h
  · rename_i n o l n' o' l'
    obtain ⟨p1, p2, p3⟩ := hp
    obtain ⟨q1, q2, q3⟩ := hq
    rw [Bool.or_eq_true, Bool.or_eq_true] at h
    rcases h with h | h | h
    · refine .inl fun e => ?_
      rw [e] at p1
      rw [hi.injσ n n' s.b p1 q1, Nat.beq_refl] at h
      cases h
    · have := Nat.le_of_ble_eq_true h
      exact .inr (.inl (by omega))
    · have := Nat.le_of_ble_eq_true h
      exact .inr (.inr (by omega))
  · rename_i t t'
    refine .inl fun e => ?_
    have p1 : G.τ t = some r.b := hp
    have q1 : G.τ t' = some s.b := hq
    rw [e] at p1
    rw [hi.injτ t t' s.b p1 q1, Nat.beq_refl] at h
    cases h
  · cases h
  · rename_i h1 h2 h3
    refine .inl fun e => ?_
    cases p with
    | box n o l => cases q with
      | box n' o' l' => exact h1 _ _ _ _ _ _ rfl rfl
      | mark t => exact hi.disj n t r.b hp.1 (by rw [e]; exact hq)
      | still => exact hq.1 n (by rw [← e]; exact hp.1)
    | mark t => cases q with
      | box n' o' l' => exact hi.disj n' t s.b hq.1 (by rw [← e]; exact hp)
      | mark t' => exact h2 _ _ rfl rfl
      | still => exact hq.2 t (by rw [← e]; exact hp)
    | still => cases q with
      | box n' o' l' => exact hp.1 n' (by rw [e]; exact hq.1)
      | mark t => exact hp.2 t (by rw [e]; exact hq)
      | still => exact h3 rfl rfl
theorem load_partW {t : TypeId} {x : PV} {off : Nat} {u : Value} (h : Full x G w u) (hne : partV P t x off ≠ .undef) :
    ∃ v, (∀ (w' : World) (b : Nat), (∀ j c, j < (if aggT P t = true then sizeT P t else 1) → u.cells[off + j]? = some c → w'.cell? ⟨b, off + j, none⟩ = some c) → (Instr.loadAt t (.pointer (some ⟨b, off, none⟩))).run P w' = .ok v w') ∧ Full (partV P t x off) G w v ∧ ∀ j, j < (if aggT P t = true then sizeT P t else 1) → ∃ c, u.cells[off + j]? = some c := by
  unfold partV at hne ⊢
  dsimp only at hne ⊢
  split at hne
  · rename_i h1 h2 h3 h4
    obtain ⟨v, f, hl, hw⟩ := getAt_rep (wh := aggT P t) (sz := sizeT P t) h hne
    obtain ⟨vs, rfl⟩ := isAgg_agg f h3
    have hs : vs.size = sizeT P t := by
      have := f.wid
      rw [Nat.eq_of_beq_eq_true h4] at this
      exact this
    refine ⟨_, fun w' b hc => ?_, f, fun j hj => ?_⟩
    · have hld := run_loadCells_list (P := P) w' ⟨b, off, none⟩ vs.toList (fun j c hj => by
        rw [Addr.add_lit]
        have hj' : vs[j]? = some c := by simpa using hj
        have hlt : j < vs.size := (Array.getElem?_eq_some_iff.1 hj').1
        refine hc j c (by rw [if_pos h2]; omega) ?_
        rw [hl j (by simpa [Value.cells] using hlt)]
        simpa [Value.cells] using hj')
      rw [Array.length_toList, hs] at hld
      unfold Instr.loadAt loadVar
      simp only [Sem.run_bind, Instr.sureAddr, Sem.run_pure, Result.andThen_ok, run_isAgg h1, h2, if_true, run_size h1, hld, Array.toArray_toList]
    · rw [if_pos h2] at hj
      refine ⟨vs[j]'(by omega), ?_⟩
      rw [hl j (by simpa [Value.cells] using (by omega : j < vs.size))]
      simp [Value.cells, show j < vs.size by omega]
  · rename_i h1 h2 h3
    obtain ⟨v, f, hl, hw⟩ := getAt_rep (wh := aggT P t) (sz := sizeT P t) h hne
    have hf := f.rep.one h3 hne
    have h0 := hl 0 (by rw [cells_one hf]; simp)
    rw [cells_one hf] at h0
    refine ⟨v, fun w' b hc => ?_, f, fun j hj => ?_⟩
    · have := hc 0 v (by rw [if_neg (by rw [h2]; decide)]; decide) (by rw [h0]; rfl)
      rw [Nat.add_zero] at this
      unfold Instr.loadAt loadVar
      simp only [Sem.run_bind, Instr.sureAddr, Sem.run_pure, Result.andThen_ok, run_isAgg h1, h2]
      simp only [Bool.false_eq_true, if_false, run_load]
      rw [this]
    · rw [if_neg (by rw [h2]; decide)] at hj
      obtain rfl : j = 0 := by omega
      exact ⟨v, by rw [h0]; rfl⟩
  · exact absurd rfl hne
theorem load_exec {X : Tbl} {T : Tabs} (hi : Inv cx G lh w) {o : Oper} {t : TypeId} {x : Operand} (ho : o.op = .load t x) {a : Act} {xs : List PV} {v : PV} {f : Option (PV → PV)} {lh' : List (Nat × PV)}
    (hx : RepL' xs G w (o.op.operands.toList.map a.eval)) (h : (evOp0 P X T o xs lh).Is v f lh lh') {p : Pl} (hp : plL P t (xs.getD 0 .undef) = some p) : f = none ∧ lh' = lh ∧ ∃ u r, Rep v G w u ∧ Exec P o a w u (some r) .none ∧ PlAt G p r := by
  have hq2 : (quietE o.op || memE o.op) = true := by rw [ho]; rfl
  have he : execOp a.eval o = (do Pure.pure (Next.value (← Instr.loadAt t (a.eval x)))) := by unfold execOp; rw [ho]
  rw [ho] at hx
  obtain ⟨x0, rfl, h1⟩ := RepL'.one (u := a.eval x) hx
  replace hp : plL P t x0 = some p := hp
  unfold evOp0 at h
  rw [ho] at h
  obtain ⟨h2, rfl, rfl⟩ := OpR.at_is (show (loadR P T lh t x0).at.Is v f lh lh' from h)
  refine ⟨rfl, rfl, ?_⟩
  have exec : ∀ {u : Value} {r : Rng}, (∀ w', SameAt r w w' → (Instr.loadAt t (a.eval x)).run P w' = .ok u w') → Exec P o a w u (some r) .none := fun {u r} hr =>
    ⟨.value u, .inl rfl, fun a' w' ha hs _ => by rw [exec_same hq2 ha.eval, he, Sem.run_bind, hr w' (hs r rfl)]; rfl⟩
  unfold plL at hp
  split at hp
  · rename_i n off
    injection hp with hp; subst hp
    unfold loadR at h2
    split at h2
    · rename_i hh; cases hh
    · rename_i hh; cases hh
    · rename_i n' off' hht hh
      injection hh with e1 e2; subst e1; subst e2
      split at h2
      · rename_i c hc
        obtain ⟨rfl, hne⟩ := okV_is h2
        obtain ⟨bk, g1, g2⟩ := h1
        obtain ⟨b', q1, u, e, fz, q2, q3, q4, q5, q6⟩ := hi.box n c hc
        rw [g1] at q1; injection q1 with q1; subst q1
        obtain ⟨v, r1, r2, r3⟩ := load_partW (P := P) ⟨q4, q5, q6⟩ hne
        refine ⟨v, ⟨bk, off, if aggT P t = true then sizeT P t else 1⟩, r2.rep, exec fun w' hs => ?_, g1, Nat.le_refl _, by
          show off + (if aggT P t = true then sizeT P t else 1) ≤ off + _
          cases aggT P t <;> exact Nat.le_refl _⟩
        rw [g2]
        refine r1 w' bk fun j q hj hq => ?_
        rw [hs j hj]
        unfold World.cell?
        rw [q2]
        exact hq
      · exact h2.bad.elim
    all_goals first | (rename_i hh; cases hh; done) | (exact h2.bad.elim)
  · rename_i r i
    injection hp with hp; subst hp
    unfold loadR at h2
    split at h2
    · rename_i r' u' i' hht hh
      injection hh with e1 e2 e3; subst e1; subst e2; subst e3
      split at h2
      · rename_i hct
        rw [← h2.ok]
        obtain ⟨b, o', cap, g1, g2, g3, g4⟩ := h1
        have hlt : i.toNat < r.vals.length := by rw [BRow.len_eq] at g3; omega
        have hg := get_vals r G w hlt
        rw [Int.toNat_of_nonneg g2] at hg
        rcases g4 with ⟨-, g4⟩ | ⟨g4, -⟩
        · have hF := g4 i.toNat _ (List.getElem?_eq_getElem hlt)
          have hcell := hi.fits _ _ _ hF
          refine ⟨_, ⟨b, o' + i.toNat, 1⟩, hg, exec fun w' hs => ?_, fun n hn => ?_, fun tk ht => ?_⟩
          · rw [g1]
            refine load_cell hct ?_
            have := hs 0 Nat.zero_lt_one
            rw [Nat.add_zero] at this
            dsimp only at this
            rw [this]; exact hcell
          · obtain ⟨-, k2, -⟩ := hi.boxF n b hn
            rw [k2] at hF; cases hF
          · obtain ⟨-, -, k2, -⟩ := hi.mark tk b ht
            rw [k2] at hF; cases hF
        · exact absurd rfl g4
      · exact h2.bad.elim
    all_goals first | (rename_i hh; cases hh; done) | (exact h2.bad.elim)
  · cases hp
theorem store_at {b off : Nat} {xs : Array Value} {e : TypeId} {fz : Nat × Nat} {vs : List Value} (h1 : w.heap[b]? = some (.cells xs e fz)) (h2 : Clear fz xs.size) (h3 : off + vs.length ≤ xs.size) (h4 : ∀ v ∈ vs, flatV v = true) {w' : World} (ha : Alike w w') :
    (storeCells ⟨b, off, none⟩ vs).run P w' = .ok () (w'.setCells b off vs) := by
  obtain ⟨ys, g1, g2⟩ := (ha b xs.size e fz).1 ⟨xs, h1, rfl⟩
  exact store_run g1 (by rw [g2]; exact h2) (by rw [g2]; exact h3) h4
theorem store_okW {t : TypeId} {x y v : PV} {f : Option (PV → PV)} {lh' : List (Nat × PV)} {a b : Value} (hi : Inv cx G lh w) (h : (storeS P t x y lh).Is v f lh lh') (ha : Rep x G w a) (hb : Rep y G w b) {p : Pl} (hp : plS P t x lh = some p) :
    ∃ bk o vs, (∀ w', Alike w w' → (Instr.storeAt t a b).run P w' = .ok () (w'.setCells bk o vs)) ∧ Turns cx G w f lh' G (w.setCells bk o vs) ∧ v = .tup [] ∧ PlAt G p ⟨bk, o, vs.length⟩ := by
  unfold storeS at h
  unfold plS at hp
  split at h
  · rename_i n off
    injection hp with hp; subst hp
    split at h
    · rename_i c hc
      split at h
      · rename_i c' hk hs
        obtain ⟨rfl, rfl, rfl⟩ := h
        simp only [Bool.and_eq_true] at hk
        obtain ⟨⟨⟨k1, k2⟩, k3⟩, k4⟩ := hk
        have fy : Full (typed P t 0 y) G w b := Full.fit (typed_ok hb) (typed_fit k2)
        obtain ⟨bk, h1, rfl⟩ := ha
        obtain ⟨b', h2, u, e, fz, h3, h4, h5, h6, h7⟩ := hi.box n c hc
        rw [h1] at h2; injection h2 with h2; subst h2
        obtain ⟨u', q1, q2, q3, -⟩ := setAt_ok fy (fit_of k4).2 ⟨h5, h6, h7⟩ hs
        have hvs : b.cells.size = sizeT P t := by rw [fy.wid]; exact Nat.eq_of_beq_eq_true k1
        refine ⟨bk, off, b.cells.toList, fun w' hal => ?_, written hi hc h1 h3 h4 q1 q2 (by simpa using q3), rfl, h1, Nat.le_refl _, by dsimp only; rw [Array.length_toList, hvs]; exact Nat.le_refl _⟩
        unfold Instr.storeAt storeVar
        simp only [Sem.run_bind, Instr.sureAddr, Sem.run_pure, Result.andThen_ok, run_size k3]
        rw [if_neg (by omega)]
        exact store_at h3 h4 (by simpa using q3) (fun q hq => fy.flat q hq) hal
      · exact h.elim
    · exact h.elim
  · rename_i n off z
    split at h
    · rename_i c hc
      split at h
      · rename_i m r hr
        split at h
        · rename_i r' hct hs
          split at h
          · rename_i c' hpa
            obtain ⟨⟨hz, ho⟩, rfl, rfl, rfl⟩ := h
            obtain ⟨h0, bk, h1, rfl⟩ := ha
            obtain ⟨b', h2, u, e, fz, h3, h4, h5, h6, h7⟩ := hi.box n c hc
            rw [h1] at h2; injection h2 with h2; subst h2
            obtain ⟨k1, -⟩ := arrAt_ok ⟨h5, h6, h7⟩ hr
            obtain ⟨g1, g2, g3⟩ := set_vals hs ho hb
            have hlt : z.toNat < r.vals.length := by unfold within at hz; omega
            obtain ⟨u', q1, q2, q3⟩ := putArr_ok g1 g2 hlt ⟨h5, h6, h7⟩ hr hpa
            obtain ⟨c1, c2, c3⟩ := cellT_of hct
            dsimp only at hp
            rw [hc] at hp
            dsimp only at hp
            rw [hr] at hp
            injection hp with hp; subst hp
            refine ⟨bk, off + z.toNat, [b], fun w' hal => ?_, written hi hc h1 h3 h4 q1 q2 (by simpa using q3), rfl, h1, by dsimp only; omega, by dsimp only; rw [List.length_singleton]; omega⟩
            unfold Instr.storeAt storeVar
            simp only [Sem.run_bind, Instr.sureAddr, Sem.run_pure, Result.andThen_ok, run_size c1, c2, cells_one g2]
            rw [if_neg (by simp)]
            exact store_at h3 h4 (by simpa using q3) (fun q hq => by
              have : q = b := by simpa using hq
              rw [this]; exact g2) hal
          · exact h.elim
        · exact h.elim
      · exact h.elim
    · exact h.elim
  · rename_i r u0 z
    split at h
    · rename_i u r' hct hs
      injection hp with hp; subst hp
      obtain ⟨ho, rfl, rfl, rfl⟩ := h
      obtain ⟨bk, o, cap, rfl, h0, hzl, hat⟩ := ha
      rcases hat with ⟨hu, -⟩ | ⟨hu, hτ, hcell, xs, e, fz, hbk, ⟨rfl, hsz⟩, hclr⟩
      · cases hu
      obtain ⟨c1, c2, c3⟩ := cellT_of hct
      have hzt : z.toNat < r.vals.length := by rw [BRow.len_eq] at hzl; omega
      have hzx : z.toNat < xs.size := by
        have h5 := hcell z.toNat _ (List.getElem?_eq_getElem hzt)
        unfold World.cell? at h5
        rw [hbk] at h5
        have h6 : xs[0 + z.toNat]? = some _ := h5
        have := (Array.getElem?_eq_some_iff.1 h6).1
        omega
      have hfl : flatV b = true := set_flat hs hb
      have hnew := setCells_heap [b] z.toNat w bk xs e fz hbk
      refine ⟨bk, z.toNat, [b], fun w' hal => ?_, laid_ok hi hτ hbk hnew hzx (World.os_setCells ..) (setCells_tape ..) (World.output_setCells ..) (setCells_size ..) (fun k hk => setCells_other w bk _ _ k hk) ho hb, rfl, hτ⟩
      unfold Instr.storeAt storeVar
      simp only [Sem.run_bind, Instr.sureAddr, Sem.run_pure, Result.andThen_ok, run_size c1, c2, cells_one hfl]
      rw [if_neg (by simp), Nat.zero_add]
      exact store_at hbk hclr (by simp; omega) (fun q hq => by
        have : q = b := by simpa using hq
        rw [this]; exact hfl) hal
    · exact h.elim
  · exact h.elim
theorem store_exec {X : Tbl} {T : Tabs} (hi : Inv cx G lh w) {o : Oper} {t : TypeId} {x y : Operand} (ho : o.op = .store t x y) {a : Act} {xs : List PV} {v : PV} {f : Option (PV → PV)} {lh' : List (Nat × PV)}
    (hx : RepL' xs G w (o.op.operands.toList.map a.eval)) (h : (evOp0 P X T o xs lh).Is v f lh lh') {p : Pl} (hp : plS P t (xs.getD 0 .undef) lh = some p) :
    ∃ e r, Exec P o a w undef none e ∧ Turns cx G w f lh' G (e.app w) ∧ Rep v G (e.app w) undef ∧ e.rng = some r ∧ PlAt G p r := by
  have hq2 : (quietE o.op || memE o.op) = true := by rw [ho]; rfl
  have he : execOp a.eval o = (do Instr.storeAt t (a.eval x) (a.eval y); Pure.pure Next.skip) := by unfold execOp; rw [ho]
  rw [ho] at hx
  obtain ⟨x0, y0, rfl, h1, h2⟩ := RepL'.two (u := a.eval x) (v := a.eval y) hx
  unfold evOp0 at h
  rw [ho] at h
  obtain ⟨bk, off, vs, r1, r2, rfl, r3⟩ := store_okW hi (show (storeS P t x0 y0 lh).Is v f lh lh' from h) h1 h2 hp
  exact ⟨.put bk off vs, _, ⟨.skip, .inr ⟨rfl, rfl⟩, fun a' w' ha _ hal => by rw [exec_same hq2 ha.eval, he, Sem.run_bind, r1 w' hal]; rfl⟩, r2, ⟨[], rfl, rfl⟩, rfl, r3⟩
end
end
section
variable [Wd] {P : Program} {cx : Cx} {G : Gh} {w : World}
def StepQ (P : Program) (X : Tbl) (T : Tabs) (ops : List Oper) (o : Oper) (s : VS) (v : PV) : Prop :=
  evOp P X T o (operandsV ops o s) s.lh = .val v ∨ ∃ p, evOp P X T o (operandsV ops o s) s.lh = .vneed p v ∧ (match o.guard with | none => p | some g => underG ops s 9 (some g) p)
inductive LineE (P : Program) (X : Tbl) (T : Tabs) (ops : List Oper) (bf : List Nat) (i : Nat) (o : Oper) (s s' : VS) (v : PV) : Option (Bool × Pl) → Prop
  | bar (f : Option (PV → PV)) (lh : List (Nat × PV)) (hb : barB ops bf i = true) (e : s' = pushL o v (s.turn f lh)) (h : BarOk P X T ops o s v f lh) : LineE P X T ops bf i o s s' v none
  | quiet (hb : barB ops bf i = false) (hq : quietE o.op = true) (e : s' = pushL o v s) (h : StepQ P X T ops o s v) : LineE P X T ops bf i o s s' v none
  | load (t : TypeId) (x : Operand) (p : Pl) (hb : barB ops bf i = false) (hq : o.op = .load t x) (hp : plL P t ((operandsV ops o s).getD 0 .undef) = some p) (e : s' = pushL o v s) (h : StepQ P X T ops o s v) : LineE P X T ops bf i o s s' v (some (false, p))
  | store (t : TypeId) (x y : Operand) (p : Pl) (f : Option (PV → PV)) (lh : List (Nat × PV)) (hb : barB ops bf i = false) (hq : o.op = .store t x y) (hg : o.guard = none) (hp : plS P t ((operandsV ops o s).getD 0 .undef) s.lh = some p) (e : s' = pushL o v (s.turn f lh)) (h : (evOp P X T o (operandsV ops o s) s.lh).Is v f s.lh lh) : LineE P X T ops bf i o s s' v (some (true, p))
def PairOk (bf : List Nat) (j : Nat) (x : Option (Bool × Pl)) (i : Nat) (y : Option (Bool × Pl)) : Prop := ∀ a p b q, x = some (a, p) → y = some (b, q) → (a || b) = true → inMask (bf.getD j 0) i = true ∨ djPl p q = true
theorem metOk_pair {bf : List Nat} {j : Nat} {st : Bool} {p : Pl} {ms : Mets} (h : metOk (bf.getD j 0) st p ms = true) {e : Nat × Bool × Pl} (he : e ∈ ms) : PairOk bf j (some (st, p)) e.1 (some e.2) := by
  intro a p' b q h1 h2 hab
  injection h1 with h1; injection h1 with h1 h1'; subst h1; subst h1'
  injection h2 with h2
  have := List.all_eq_true.1 h e he
  rw [Bool.or_eq_true, Bool.or_eq_true] at this
  rw [h2] at this
  rcases this with h | h | h
  · exact .inl h
  · cases st <;> cases b <;> first | (cases hab; done) | (cases h; done)
  · exact .inr h
theorem evE_trace {X : Tbl} {T : Tabs} {ops : List Oper} {bf : List Nat} {K : VS → Prop} : ∀ (rest : List Oper) (i : Nat) (ms : Mets) (s : VS), evE P X T ops bf rest i ms s K →
    ∃ (st : Nat → VS) (vl : Nat → PV) (pf : Nat → Option (Bool × Pl)), st 0 = s ∧ (∀ j o, rest[j]? = some o → LineE P X T ops bf (i + j) o (st j) (st (j + 1)) (vl j) (pf j)) ∧
      (∀ j, j < rest.length → (∀ q, q ≤ j → barB ops bf (i + q) = false) → ∀ e ∈ ms, PairOk bf (i + j) (pf j) e.1 (some e.2)) ∧
      (∀ j1 j2, j1 < j2 → j2 < rest.length → (∀ q, j1 ≤ q → q ≤ j2 → barB ops bf (i + q) = false) → PairOk bf (i + j2) (pf j2) (i + j1) (pf j1)) ∧ K (st rest.length)
  | [], i, ms, s, h => ⟨fun _ => s, fun _ => .undef, fun _ => none, rfl, fun j o hj => by simp at hj, fun j hj => absurd hj (Nat.not_lt_zero _), fun j1 j2 _ hj => absurd hj (Nat.not_lt_zero _), h⟩
  | o :: os, i, ms, s, h => by
    have go : ∀ v s' x ms', LineE P X T ops bf i o s s' v x → (barB ops bf i = false → (∀ e ∈ ms, e ∈ ms') ∧ (∀ e ∈ ms, PairOk bf i x e.1 (some e.2)) ∧ ∀ y, x = some y → (i, y) ∈ ms') → evE P X T ops bf os (i + 1) ms' s' K → ∃ (st : Nat → VS) (vl : Nat → PV) (pf : Nat → Option (Bool × Pl)), st 0 = s ∧ (∀ j q, (o :: os)[j]? = some q → LineE P X T ops bf (i + j) q (st j) (st (j + 1)) (vl j) (pf j)) ∧
        (∀ j, j < (o :: os).length → (∀ q, q ≤ j → barB ops bf (i + q) = false) → ∀ e ∈ ms, PairOk bf (i + j) (pf j) e.1 (some e.2)) ∧
        (∀ j1 j2, j1 < j2 → j2 < (o :: os).length → (∀ q, j1 ≤ q → q ≤ j2 → barB ops bf (i + q) = false) → PairOk bf (i + j2) (pf j2) (i + j1) (pf j1)) ∧ K (st (o :: os).length) := by
      intro v s' x ms' hv hm he
      obtain ⟨st, vl, pf, h1, h2, h3, h4, h5⟩ := evE_trace os (i + 1) ms' _ he
      refine ⟨fun | 0 => s | j + 1 => st j, fun | 0 => v | j + 1 => vl j, fun | 0 => x | j + 1 => pf j, rfl, fun j q hj => ?_, fun j hj hb e he => ?_, fun j1 j2 hlt hj hb => ?_, h5⟩
      · cases j with
        | zero =>
          have : o = q := by simpa using hj
          subst this
          show LineE P X T ops bf i o s (st 0) v x
          rw [h1]; exact hv
        | succ j =>
          have := h2 j q (by simpa using hj)
          show LineE P X T ops bf (i + (j + 1)) q (st j) (st (j + 1)) (vl j) (pf j)
          rw [show i + (j + 1) = i + 1 + j by omega]; exact this
      · have hb0 : barB ops bf i = false := hb 0 (Nat.zero_le _)
        obtain ⟨m1, m2, m3⟩ := hm hb0
        cases j with
        | zero => exact m2 e he
        | succ j =>
          have := h3 j (by simpa using hj) (fun q hq => by have := hb (q + 1) (by omega); rwa [show i + (q + 1) = i + 1 + q by omega] at this) e (m1 e he)
          show PairOk bf (i + (j + 1)) (pf j) e.1 (some e.2)
          rw [show i + (j + 1) = i + 1 + j by omega]; exact this
      · cases j2 with
        | zero => omega
        | succ j2 =>
          cases j1 with
          | zero =>
            have hb0 : barB ops bf i = false := hb 0 (Nat.zero_le _) (Nat.zero_le _)
            obtain ⟨m1, m2, m3⟩ := hm hb0
            show PairOk bf (i + (j2 + 1)) (pf j2) i x
            intro a p b q e1 e2 hab
            have := h3 j2 (by simpa using hj) (fun r hr => by have := hb (r + 1) (by omega) (by omega); rwa [show i + (r + 1) = i + 1 + r by omega] at this) (i, b, q) (m3 (b, q) e2) a p b q e1 rfl hab
            rw [show i + (j2 + 1) = i + 1 + j2 by omega]; exact this
          | succ j1 =>
            have := h4 j1 j2 (by omega) (by simpa using hj) (fun r hr hr2 => by have := hb (r + 1) (by omega) (by omega); rwa [show i + (r + 1) = i + 1 + r by omega] at this)
            show PairOk bf (i + (j2 + 1)) (pf j2) (i + (j1 + 1)) (pf j1)
            rw [show i + (j2 + 1) = i + 1 + j2 by omega, show i + (j1 + 1) = i + 1 + j1 by omega]; exact this
    have nobar : ∀ {Q : Prop}, barB ops bf i = true → barB ops bf i = false → Q := fun h1 h2 => by rw [h1] at h2; cases h2
    have nopl : ∀ e ∈ ms, PairOk bf i none e.1 (some e.2) := fun e _ a p b q h => by cases h
    unfold evE at h
    split at h
    · rename_i hb
      split at h
      · rename_i v hev
        rw [forceV_eq] at h
        exact go v _ none [] (.bar none s.lh hb rfl (.inr ⟨rfl, rfl, .inl hev⟩)) (nobar hb) h
      · rename_i p v hev hg
        rw [forceV_eq] at h
        exact go v _ none [] (.bar none s.lh hb rfl (.inr ⟨rfl, rfl, .inr ⟨p, hev, by rw [hg]; exact h.1⟩⟩)) (nobar hb) h.2
      · rename_i p v g hev hg
        rw [forceV_eq] at h
        exact go v _ none [] (.bar none s.lh hb rfl (.inr ⟨rfl, rfl, .inr ⟨p, hev, by rw [hg]; exact h.1⟩⟩)) (nobar hb) h.2
      · rename_i v f lh hev hg
        rw [forceV_eq] at h
        exact go v _ none [] (.bar f lh hb rfl (.inl ⟨hg, by rw [hev]; exact ⟨rfl, rfl, rfl⟩⟩)) (nobar hb) h
      · rename_i p v f lh hev hg
        rw [forceV_eq] at h
        exact go v _ none [] (.bar f lh hb rfl (.inl ⟨hg, by rw [hev]; exact ⟨h.1, rfl, rfl, rfl⟩⟩)) (nobar hb) h.2
      · exact h.elim
    · rename_i hb
      split at h
      · rename_i hq
        split at h
        · rename_i v hev
          rw [forceV_eq] at h
          exact go v _ none ms (.quiet hb hq rfl (.inl hev)) (fun _ => ⟨fun _ h => h, nopl, fun y e => by cases e⟩) h
        · rename_i p v hev hg
          rw [forceV_eq] at h
          exact go v _ none ms (.quiet hb hq rfl (.inr ⟨p, hev, by rw [hg]; exact h.1⟩)) (fun _ => ⟨fun _ h => h, nopl, fun y e => by cases e⟩) h.2
        · rename_i p v g hev hg
          rw [forceV_eq] at h
          exact go v _ none ms (.quiet hb hq rfl (.inr ⟨p, hev, by rw [hg]; exact h.1⟩)) (fun _ => ⟨fun _ h => h, nopl, fun y e => by cases e⟩) h.2
        · exact h.elim
      · split at h
        · rename_i t x hop
          split at h
          · rename_i p hp
            split at h
            · rename_i hm
              have mets : ∀ {x : Option (Bool × Pl)}, x = some (false, p) → barB ops bf i = false → (∀ e ∈ ms, e ∈ (i, false, p) :: ms) ∧ (∀ e ∈ ms, PairOk bf i x e.1 (some e.2)) ∧ ∀ y, x = some y → (i, y) ∈ (i, false, p) :: ms := fun hx _ => by
                subst hx
                exact ⟨fun e he => List.mem_cons_of_mem _ he, fun e he => metOk_pair hm he, fun y e => by injection e with e; subst e; exact List.mem_cons_self ..⟩
              split at h
              · rename_i v hev
                rw [forceV_eq] at h
                exact go v _ _ _ (.load t x p hb hop hp rfl (.inl hev)) (mets rfl) h
              · rename_i q v hev hg
                rw [forceV_eq] at h
                exact go v _ _ _ (.load t x p hb hop hp rfl (.inr ⟨q, hev, by rw [hg]; exact h.1⟩)) (mets rfl) h.2
              · rename_i q v g hev hg
                rw [forceV_eq] at h
                exact go v _ _ _ (.load t x p hb hop hp rfl (.inr ⟨q, hev, by rw [hg]; exact h.1⟩)) (mets rfl) h.2
              · exact h.elim
            · exact h.elim
          · exact h.elim
        · rename_i t x y hop
          split at h
          · rename_i p hp
            split at h
            · rename_i hm
              have mets : ∀ {x : Option (Bool × Pl)}, x = some (true, p) → barB ops bf i = false → (∀ e ∈ ms, e ∈ (i, true, p) :: ms) ∧ (∀ e ∈ ms, PairOk bf i x e.1 (some e.2)) ∧ ∀ y, x = some y → (i, y) ∈ (i, true, p) :: ms := fun hx _ => by
                subst hx
                exact ⟨fun e he => List.mem_cons_of_mem _ he, fun e he => metOk_pair hm he, fun y e => by injection e with e; subst e; exact List.mem_cons_self ..⟩
              split at h
              · rename_i v f lh hev hg
                rw [forceV_eq] at h
                exact go v _ _ _ (.store t x y p f lh hb hop hg hp rfl (by rw [hev]; exact ⟨rfl, rfl, rfl⟩)) (mets rfl) h
              · rename_i q v f lh hev hg
                rw [forceV_eq] at h
                exact go v _ _ _ (.store t x y p f lh hb hop hg hp rfl (by rw [hev]; exact ⟨h.1, rfl, rfl, rfl⟩)) (mets rfl) h.2
              · exact h.elim
            · exact h.elim
          · exact h.elim
        · exact h.elim
end
end Go.Vc
namespace Go.Vc
section
variable [Wd]
open Go.RowKit
def layS (es : Nat → Eff) (S : Nat → Bool) (c : Nat) : Nat → World → World
  | 0, w => w
  | n + 1, w => if S (c + n) = true then (es (c + n)).app (layS es S c n w) else layS es S c n w
theorem layS_congr {es : Nat → Eff} {S S' : Nat → Bool} {c : Nat} {w : World} : ∀ {n : Nat}, (∀ i, i < n → S (c + i) = S' (c + i)) → layS es S c n w = layS es S' c n w
  | 0, h => rfl
  | n + 1, h => by
    unfold layS
    rw [h n (Nat.lt_succ_self n), layS_congr fun i hi => h i (by omega)]
theorem layS_alike {es : Nat → Eff} {S : Nat → Bool} {c : Nat} {w : World} : ∀ {n : Nat}, Alike w (layS es S c n w)
  | 0 => .refl w
  | n + 1 => by
    unfold layS
    split
    · exact layS_alike.trans (Eff.alike _ _)
    · exact layS_alike
def EApart (e f : Eff) : Prop := ∀ x y, e.rng = some x → f.rng = some y → x.Apart y
theorem layS_add {es : Nat → Eff} {S : Nat → Bool} {c k : Nat} {w : World} (hk : S k = false) (hck : c ≤ k) : ∀ {n : Nat}, k < c + n → (∀ i, k < i → i < c + n → S i = true → EApart (es k) (es i)) → layS es (addS S k) c n w = (es k).app (layS es S c n w)
  | 0, h, _ => by omega
  | n + 1, h, hap => by
    by_cases e : k = c + n
    · subst e
      unfold layS
      rw [addS_self, if_pos rfl, hk, if_neg (by decide)]
      rw [layS_congr (S := addS S (c + n)) (S' := S) fun i hi => addS_of (by omega)]
    · unfold layS
      rw [layS_add hk hck (n := n) (by omega) fun i h1 h2 h3 => hap i h1 (by omega) h3, addS_of (fun h => e h.symm)]
      split
      · rename_i hs
        exact Eff.comm (hap (c + n) (by omega) (by omega) hs) _
      · rfl
theorem SameAt.refl (r : Rng) (w : World) : SameAt r w w := fun _ _ => rfl
theorem SameAt.trans {r : Rng} {w w' w'' : World} (h : SameAt r w w') (h' : SameAt r w' w'') : SameAt r w w'' := fun j hj => (h' j hj).trans (h j hj)
theorem SameAt.symm {r : Rng} {w w' : World} (h : SameAt r w w') : SameAt r w' w := fun j hj => (h j hj).symm
theorem layS_behind {es : Nat → Eff} {S : Nat → Bool} {c d : Nat} {w : World} {r : Rng} : ∀ {n : Nat}, (∀ i, d ≤ i → i < n → S (c + i) = true → ∀ x, (es (c + i)).rng = some x → x.Apart r) → d ≤ n → SameAt r (layS es S c d w) (layS es S c n w)
  | 0, h, hd => by
    obtain rfl : d = 0 := by omega
    exact .refl _ _
  | n + 1, h, hd => by
    by_cases e : d = n + 1
    · subst e; exact .refl _ _
    · have ih := layS_behind (es := es) (S := S) (c := c) (d := d) (w := w) (r := r) (n := n) (fun i h1 h2 => h i h1 (by omega)) (by omega)
      rw [layS]
      split
      · rename_i hs
        exact ih.trans (Eff.same (h n (by omega) (by omega) hs) _)
      · exact ih
theorem layS_ahead {es : Nat → Eff} {S : Nat → Bool} {c n : Nat} {w : World} {r : Rng} (h1 : ∀ i, i < n → S (c + i) = false → ∀ x, (es (c + i)).rng = some x → x.Apart r) (h2 : ∀ i j, i < n → S (c + i) = false → c + i < j → j < c + n → S j = true → EApart (es (c + i)) (es j)) :
    ∀ {d : Nat}, d ≤ n → SameAt r (layS es S c n w) (layS es (fun i => S i || decide (c ≤ i ∧ i < c + d)) c n w)
  | 0, hd => by
    rw [layS_congr (S := fun i => S i || decide (c ≤ i ∧ i < c + 0)) (S' := S) fun i hi => by
      rw [decide_eq_false (by omega), Bool.or_false]]
    exact .refl _ _
  | d + 1, hd => by
    have ih := layS_ahead h1 h2 (w := w) (r := r) (d := d) (by omega)
    cases hs : S (c + d) with
    | true =>
      rw [layS_congr (S := fun i => S i || decide (c ≤ i ∧ i < c + (d + 1))) (S' := fun i => S i || decide (c ≤ i ∧ i < c + d)) fun i hi => by
        by_cases e : i = d
        · subst e; simp [hs]
        · have : decide (c ≤ c + i ∧ c + i < c + (d + 1)) = decide (c ≤ c + i ∧ c + i < c + d) := by
            rw [decide_eq_decide]; omega
          rw [this]]
      exact ih
    | false =>
      have e : layS es (fun i => S i || decide (c ≤ i ∧ i < c + (d + 1))) c n w = layS es (addS (fun i => S i || decide (c ≤ i ∧ i < c + d)) (c + d)) c n w := layS_congr fun i hi => by
        unfold addS
        by_cases e : i = d
        · subst e; simp
        · have : decide (c ≤ c + i ∧ c + i < c + (d + 1)) = decide (c ≤ c + i ∧ c + i < c + d) := by
            rw [decide_eq_decide]; omega
          rw [this, decide_eq_false (show ¬ (c + i = c + d) by omega), Bool.or_false]
      rw [e, layS_add (by rw [hs, decide_eq_false (by omega)]; rfl) (by omega) (by omega) fun i h3 h4 h5 => ?_]
      · exact ih.trans (Eff.same (h1 d (by omega) hs) _)
      · rw [Bool.or_eq_true, decide_eq_true_iff] at h5
        rcases h5 with h5 | h5
        · exact h2 d i (by omega) hs h3 h4 h5
        · omega
section
variable {P : Program} {cx : Cx} {G : Gh} {w : World} {ops : Array Oper} {N k c m : Nat} {s s0 : VS} {a : Act} {vl : Nat → PV} {st : Nat → VS} {S : Nat → Bool} {X : Tbl} {T : Tabs} {pf : Nat → Option (Bool × Pl)}
structure RunE (P : Program) (cx : Cx) (G : Gh) (ops : Array Oper) (N : Nat) (st : Nat → VS) (pf : Nat → Option (Bool × Pl)) (c m : Nat) (aL : Nat → Act) (wL : Nat → World) (us : Nat → Value) (es : Nat → Eff) (rs : Nat → Option Rng) : Prop where
  rel : ∀ k, c ≤ k → k ≤ m → LRel cx G ops N k (st k) (aL k) (wL k)
  act : ∀ k o, c ≤ k → k < m → ops[k]? = some o → aL (k + 1) = (aL k).put o.dst (us k)
  wor : ∀ k, c ≤ k → k < m → wL (k + 1) = (es k).app (wL k)
  on : ∀ k o, c ≤ k → k < m → ops[k]? = some o → GuardOn ops (aL k).tmps o.guard → Exec P o (aL k) (wL k) (us k) (rs k) (es k)
  off : ∀ k o, c ≤ k → k < m → ops[k]? = some o → ¬ GuardOn ops (aL k).tmps o.guard → us k = undef ∧ es k = .none
  rd : ∀ k r, c ≤ k → k < m → rs k = some r → ∃ p, pf k = some (false, p) ∧ PlAt G p r
  wr : ∀ k r, c ≤ k → k < m → (es k).rng = some r → ∃ p, pf k = some (true, p) ∧ PlAt G p r
theorem stepQ_is (h : LRel cx G ops N k s a w) (hr : RegFit ops N) {o : Oper} (ho : ops[k]? = some o) {v : PV} (hs : StepQ P X T ops.toList o s v) (hg : GuardOn ops a.tmps o.guard) : (evOp P X T o (operandsV ops.toList o s) s.lh).Is v none s.lh s.lh := by
  rcases hs with hs | ⟨p, hs, hp⟩
  · rw [hs]; exact ⟨rfl, rfl, rfl⟩
  · rw [hs]
    refine ⟨?_, rfl, rfl, rfl⟩
    cases hgd : o.guard with
    | none => rw [hgd] at hp; exact hp
    | some g =>
      rw [hgd] at hp hg
      exact underG_ok h hr 9 (some g) p hp (by rw [← hgd]; exact hr.guard k o ho) hg
theorem operandsV_map {ops : List Oper} {o : Oper} {s : VS} (h : (quietE o.op || memE o.op) = true) : operandsV ops o s = o.op.operands.toList.map (operandV ops o.guard s) := by
  unfold operandsV
  split
  · rename_i c x y e
    rw [e] at h; cases h
  · rfl
theorem line_step (h : LRel cx G ops N k s a w) (hr : RegFit ops N) {o : Oper} (ho : ops[k]? = some o) {bf : List Nat} {s' : VS} {v : PV} {x : Option (Bool × Pl)} (hnb : barB ops.toList bf k = false) (hl : LineE P X T ops.toList bf k o s s' v x) :
    ∃ u e r, LRel cx G ops N (k + 1) s' (a.put o.dst u) (e.app w) ∧ (GuardOn ops a.tmps o.guard → Exec P o a w u r e) ∧ (¬ GuardOn ops a.tmps o.guard → u = undef ∧ e = .none) ∧ (∀ q, r = some q → ∃ p, x = some (false, p) ∧ PlAt G p q) ∧ (∀ q, e.rng = some q → ∃ p, x = some (true, p) ∧ PlAt G p q) := by
  have hk : ∀ i b, o.guard = some (i, b) → i < k := hr.guard k o ho
  have offc : ∀ v, ¬ GuardOn ops a.tmps o.guard → s' = pushL o v s → ∃ u e r, LRel cx G ops N (k + 1) s' (a.put o.dst u) (e.app w) ∧ (GuardOn ops a.tmps o.guard → Exec P o a w u r e) ∧ (¬ GuardOn ops a.tmps o.guard → u = undef ∧ e = .none) ∧ (∀ q, r = some q → ∃ p, x = some (false, p) ∧ PlAt G p q) ∧ (∀ q, e.rng = some q → ∃ p, x = some (true, p) ∧ PlAt G p q) := fun v hng e => by
    subst e
    exact ⟨undef, .none, none, h.push hr ho (.refl h.inv) (v := v) (u := undef) (fun hg => absurd hg hng) (fun _ => rfl), fun hg => absurd hg hng, fun _ => ⟨rfl, rfl⟩, fun q e => (by cases e), fun q e => (by cases e)⟩
  cases hl with
  | bar f lh hb => rw [hb] at hnb; cases hnb
  | quiet hb hq e hs =>
    by_cases hg : GuardOn ops a.tmps o.guard
    · have hI := calm_is (stepQ_is h hr ho hs hg)
      rw [operandsV_map (by rw [hq]; rfl)] at hI
      obtain ⟨-, -, u, hv, hE⟩ := quiet_ok h.inv hq (h.operands hr hk hg _) hI
      subst e
      exact ⟨u, .none, none, h.push hr ho (.refl h.inv) (fun _ => hv) (fun hng => absurd hg hng), fun _ => hE, fun hng => absurd hg hng, fun q e => (by cases e), fun q e => (by cases e)⟩
    · exact offc v hg e
  | load t y p hb hq hp e hs =>
    by_cases hg : GuardOn ops a.tmps o.guard
    · have hI := calm_is (stepQ_is h hr ho hs hg)
      have hmem : (quietE o.op || memE o.op) = true := by rw [hq]; rfl
      rw [operandsV_map hmem] at hI hp
      obtain ⟨-, -, u, r, hv, hE, hP⟩ := load_exec h.inv hq (h.operands hr hk hg _) hI hp
      subst e
      exact ⟨u, .none, some r, h.push hr ho (.refl h.inv) (fun _ => hv) (fun hng => absurd hg hng), fun _ => hE, fun hng => absurd hg hng, fun q e => (by injection e with e; subst e; exact ⟨p, rfl, hP⟩), fun q e => (by cases e)⟩
    · exact offc v hg e
  | store t y z p f lh hb hq hgd hp e hs =>
    have hg : GuardOn ops a.tmps o.guard := by rw [hgd]; trivial
    have hI := calm_is hs
    have hmem : (quietE o.op || memE o.op) = true := by rw [hq]; rfl
    rw [operandsV_map hmem] at hI hp
    obtain ⟨ef, r, hE, hT, hv, hrg, hP⟩ := store_exec h.inv hq (h.operands hr hk hg _) hI hp
    subst e
    exact ⟨undef, ef, none, h.push hr ho hT (fun _ => hv) (fun hng => absurd hg hng), fun _ => hE, fun hng => absurd hg hng, fun q e => (by cases e), fun q e => (by rw [hrg] at e; injection e with e; subst e; exact ⟨p, rfl, hP⟩)⟩
theorem run_line (hr : RegFit ops N) {bf : List Nat} (hl : ∀ j o, ops[j]? = some o → LineE P X T ops.toList bf j o (st j) (st (j + 1)) (vl j) (pf j)) (hc : LRel cx G ops N c (st c) a w) (hcm : c ≤ m) (hm : m ≤ ops.size) (hnb : ∀ i, c ≤ i → i < m → barB ops.toList bf i = false) :
    ∃ aL wL us es rs, RunE P cx G ops N st pf c m aL wL us es rs ∧ aL c = a ∧ wL c = w := by
  obtain ⟨d, rfl⟩ : ∃ d, m = c + d := ⟨m - c, by omega⟩
  clear hcm
  induction d with
  | zero =>
    refine ⟨fun _ => a, fun _ => w, fun _ => undef, fun _ => .none, fun _ => none, ⟨fun k h1 h2 => ?_, fun k o h1 h2 => by omega, fun k h1 h2 => by omega, fun k o h1 h2 => by omega, fun k o h1 h2 => by omega, fun k r h1 h2 => by omega, fun k r h1 h2 => by omega⟩, rfl, rfl⟩
    obtain rfl : k = c := by omega
    exact hc
  | succ d ih =>
    obtain ⟨aL, wL, us, es, rs, R, e1, e2⟩ := ih (by omega) fun i h1 h2 => hnb i h1 (by omega)
    obtain ⟨o, ho⟩ : ∃ o, ops[c + d]? = some o := ⟨_, Array.getElem?_eq_getElem (by omega)⟩
    obtain ⟨u, e, r, g1, g2, g3, g4, g5⟩ := line_step (R.rel (c + d) (by omega) (Nat.le_refl _)) hr ho (hnb (c + d) (by omega) (by omega)) (hl _ o ho)
    refine ⟨fun i => if i = c + d + 1 then (aL (c + d)).put o.dst u else aL i, fun i => if i = c + d + 1 then e.app (wL (c + d)) else wL i, fun i => if i = c + d then u else us i, fun i => if i = c + d then e else es i, fun i => if i = c + d then r else rs i, ⟨fun k h1 h2 => ?_, fun k q h1 h2 hq => ?_, fun k h1 h2 => ?_, fun k q h1 h2 hq hg => ?_, fun k q h1 h2 hq hg => ?_, fun k q h1 h2 hq => ?_, fun k q h1 h2 hq => ?_⟩, ?_, ?_⟩
    · by_cases e : k = c + d + 1
      · subst e
        try dsimp only
        rw [if_pos rfl, if_pos rfl]
        exact g1
      · try dsimp only
        rw [if_neg e, if_neg e]
        exact R.rel k h1 (by omega)
    · try dsimp only
      rw [if_neg (show ¬ k = c + d + 1 by omega)]
      by_cases e : k = c + d
      · subst e
        rw [ho] at hq; injection hq with hq; subst hq
        rw [if_pos rfl, if_pos rfl]
      · rw [if_neg (by omega), if_neg e]
        exact R.act k q h1 (by omega) hq
    · try dsimp only
      rw [if_neg (show ¬ k = c + d + 1 by omega)]
      by_cases e : k = c + d
      · subst e
        rw [if_pos rfl, if_pos rfl]
      · rw [if_neg (by omega), if_neg e]
        exact R.wor k h1 (by omega)
    · try dsimp only at hg ⊢
      rw [if_neg (show ¬ k = c + d + 1 by omega)] at hg ⊢
      rw [if_neg (show ¬ k = c + d + 1 by omega)]
      by_cases e : k = c + d
      · subst e
        rw [ho] at hq; injection hq with hq; subst hq
        rw [if_pos rfl, if_pos rfl, if_pos rfl]
        exact g2 hg
      · rw [if_neg e, if_neg e, if_neg e]
        exact R.on k q h1 (by omega) hq hg
    · try dsimp only at hg ⊢
      rw [if_neg (show ¬ k = c + d + 1 by omega)] at hg
      by_cases e : k = c + d
      · subst e
        rw [ho] at hq; injection hq with hq; subst hq
        rw [if_pos rfl, if_pos rfl]
        exact g3 hg
      · rw [if_neg e, if_neg e]
        exact R.off k q h1 (by omega) hq hg
    · try dsimp only at hq
      by_cases e : k = c + d
      · subst e
        rw [if_pos rfl] at hq
        exact g4 q hq
      · rw [if_neg e] at hq
        exact R.rd k q h1 (by omega) hq
    · try dsimp only at hq
      by_cases e : k = c + d
      · subst e
        rw [if_pos rfl] at hq
        exact g5 q hq
      · rw [if_neg e] at hq
        exact R.wr k q h1 (by omega) hq
    · try dsimp only
      rw [if_neg (by omega)]; exact e1
    · try dsimp only
      rw [if_neg (by omega)]; exact e2
end
end
section
variable [Wd]
open Go.RowKit
section
variable {P : Program} {cx : Cx} {G : Gh} {w : World} {ops : Array Oper} {N k c m : Nat} {s s0 : VS} {a : Act} {vl : Nat → PV} {st : Nat → VS} {S : Nat → Bool} {X : Tbl} {T : Tabs} {pf : Nat → Option (Bool × Pl)} {aL : Nat → Act} {wL : Nat → World} {us : Nat → Value} {es : Nat → Eff} {rs : Nat → Option Rng}
theorem RunE.at (R : RunE P cx G ops N st pf c m aL wL us es rs) (hr : RegFit ops N) (hm : m ≤ ops.size) : ∀ k, c ≤ k → k ≤ m → (∀ i o t, c ≤ i → i < k → ops[i]? = some o → o.dst = some t → (aL k).tmps.getD t undef = us i) ∧ (∀ t, (∀ i o, c ≤ i → i < k → ops[i]? = some o → o.dst ≠ some t) → (aL k).tmps.getD t undef = (aL c).tmps.getD t undef) ∧ (aL k).tmps.size = (aL c).tmps.size ∧ (aL k).defers = (aL c).defers ∧ { aL k with tmps := #[] } = { aL c with tmps := #[] }
  | 0, h1, h2 => by
    obtain rfl : c = 0 := by omega
    exact ⟨fun i o t h3 h4 => by omega, fun t _ => rfl, rfl, rfl, rfl⟩
  | k + 1, h1, h2 => by
    by_cases e : c = k + 1
    · subst e
      exact ⟨fun i o t h3 h4 => by omega, fun t _ => rfl, rfl, rfl, rfl⟩
    · obtain ⟨i1, i2, i3, i4, i5⟩ := R.at hr hm k (by omega) (by omega)
      obtain ⟨o, ho⟩ : ∃ o, ops[k]? = some o := ⟨_, Array.getElem?_eq_getElem (by omega)⟩
      have ha := R.act k o (by omega) (by omega) ho
      rw [ha]
      refine ⟨fun i q t h3 h4 hq hd => ?_, fun t hn => ?_, by rw [put_size]; exact i3, by rw [put_defers]; exact i4, ?_⟩
      · by_cases e : i = k
        · subst e
          rw [ho] at hq; injection hq with hq; subst hq
          have hlt : t < (aL i).tmps.size := Nat.lt_of_lt_of_le (hr.lt i o t ho hd) (R.rel i (by omega) (by omega)).size
          rw [hd, put_same hlt]
        · rw [put_getD (fun e2 => hr.apart i k q o t hq ho e hd e2)]
          exact i1 i q t h3 (by omega) hq hd
      · rw [put_getD (hn k o (by omega) (Nat.lt_succ_self k) ho)]
        exact i2 t fun i q h3 h4 hq => hn i q h3 (by omega) hq
      · rw [← i5]
        cases o.dst <;> rfl
theorem RunE.world (R : RunE P cx G ops N st pf c m aL wL us es rs) : ∀ d, c + d ≤ m → wL (c + d) = layS es (fun _ => true) c d (wL c)
  | 0, _ => rfl
  | d + 1, h => by
    rw [show c + (d + 1) = c + d + 1 from rfl, R.wor (c + d) (by omega) (by omega), R.world d (by omega)]
    rfl
structure WRel (ops : Array Oper) (c m : Nat) (aL : Nat → Act) (wL : Nat → World) (us : Nat → Value) (es : Nat → Eff) (S : Nat → Bool) (a : Act) (w : World) : Prop where
  tA : ∀ i o t, c ≤ i → S i = true → ops[i]? = some o → o.dst = some t → a.tmps.getD t undef = us i
  tB : ∀ t, (∀ i o, c ≤ i → S i = true → ops[i]? = some o → o.dst ≠ some t) → a.tmps.getD t undef = (aL c).tmps.getD t undef
  wor : w = layS es S c (m - c) (wL c)
  low : ∀ i, i < c → S i = true
  high : ∀ i, S i = true → i < m
  down : ∀ i o e, S i = true → ops[i]? = some o → e ∈ o.after → Region.binds .any e = true → S e.on = true
  size : a.tmps.size = (aL c).tmps.size
  rest : { a with tmps := #[] } = { aL c with tmps := #[] }
theorem WRel.reads (h : WRel ops c m aL wL us es S a w) (of : OFit ops N) {o : Oper} (ho : ops[k]? = some o) (hok : ∀ e ∈ o.after, Region.binds .any e = true → S e.on = true) {t : Tmp} (ht : t ∈ readsOf ops.toList o) :
    (∀ i q, i < k → ops[i]? = some q → q.dst = some t → S i = true) ∧ (S k = false → ∀ i q, S i = true → ops[i]? = some q → q.dst = some t → i < k) := by
  have ho' : ops.toList[k]? = some o := by rw [Array.getElem?_toList]; exact ho
  refine ⟨fun i q hi hq hd => ?_, fun hk i q hS hq hd => ?_⟩
  · have hq' : ops.toList[i]? = some q := by rw [Array.getElem?_toList]; exact hq
    rcases of.opn.ap i k q o hi hq' ho' with h1 | h1
    · exact of.below h.down k o i ho hok h1
    · exact absurd ht (apartB_left h1 hd).1
  · have hq' : ops.toList[i]? = some q := by rw [Array.getElem?_toList]; exact hq
    refine Classical.byContradiction fun hlt => ?_
    have hne : i ≠ k := fun e => by rw [e, hk] at hS; cases hS
    rcases of.opn.ap k i o q (by omega) ho' hq' with h1 | h1
    · have := of.below h.down i q k hq (fun e he hb => h.down i q e hS hq he hb) h1
      rw [hk] at this; cases this
    · exact absurd ht (apartB_right h1 hd)
theorem WRel.read (h : WRel ops c m aL wL us es S a w) (R : RunE P cx G ops N st pf c m aL wL us es rs) (of : OFit ops N) (hm : m ≤ ops.size) (hck : c ≤ k) (hkm : k ≤ m) {o : Oper} (ho : ops[k]? = some o) (hno : S k = false) (hok : ∀ e ∈ o.after, Region.binds .any e = true → S e.on = true) {t : Tmp} (ht : t ∈ readsOf ops.toList o) : a.tmps.getD t undef = (aL k).tmps.getD t undef := by
  obtain ⟨r1, r2⟩ := h.reads of ho hok ht
  obtain ⟨l1, l2, -⟩ := R.at of.fit hm k hck hkm
  by_cases e : ∃ i q, c ≤ i ∧ S i = true ∧ ops[i]? = some q ∧ q.dst = some t
  · obtain ⟨i, q, g1, g2, g3, g4⟩ := e
    rw [h.tA i q t g1 g2 g3 g4, l1 i q t g1 (r2 hno i q g2 g3 g4) g3 g4]
  · rw [h.tB t fun i q g1 g2 g3 g4 => e ⟨i, q, g1, g2, g3, g4⟩, l2 t fun i q g1 g2 g3 g4 => e ⟨i, q, g1, r1 i q g2 g3 g4, g3, g4⟩]
theorem getElem_of {x y : Array Value} (hs : x.size = y.size) {t : Nat} (h : x.getD t undef = y.getD t undef) : x[t]? = y[t]? := by
  by_cases ht : t < x.size
  · rw [Array.getD, dif_pos ht, Array.getD, dif_pos (by omega)] at h
    rw [Array.getElem?_eq_getElem ht, Array.getElem?_eq_getElem (by omega)]
    exact congrArg some h
  · rw [Array.getElem?_eq_none (by omega), Array.getElem?_eq_none (by omega)]
theorem WRel.guardOn (h : WRel ops c m aL wL us es S a w) (R : RunE P cx G ops N st pf c m aL wL us es rs) (of : OFit ops N) (hm : m ≤ ops.size) (hck : c ≤ k) (hkm : k ≤ m) {o : Oper} (ho : ops[k]? = some o) (hno : S k = false) (hok : ∀ e ∈ o.after, Region.binds .any e = true → S e.on = true) : GuardOn ops a.tmps o.guard ↔ GuardOn ops (aL k).tmps o.guard := by
  unfold GuardOn
  cases hg : o.guard with
  | none => exact Iff.rfl
  | some p =>
    obtain ⟨j, b⟩ := p
    obtain ⟨q, d, hq, hd⟩ := of.gdst k o ho j b hg
    have hs : a.tmps.size = (aL k).tmps.size := by rw [h.size, (R.at of.fit hm k hck hkm).2.2.1]
    have he := getElem_of hs (h.read R of hm hck hkm ho hno hok (reads_guard hg (by rw [Array.getElem?_toList]; exact hq) hd))
    dsimp only
    unfold yielded
    rw [hq]
    simp only [Option.bind_some, hd, he]
theorem unforced {i j : Nat} (of : OFit ops N) (h : WRel ops c m aL wL us es S a w) {o : Oper} (ho : ops[j]? = some o) (hi : S i = false) (hj : S j = true) : inMask ((befores ops.toList).getD j 0) i = false := by
  cases hm : inMask ((befores ops.toList).getD j 0) i with
  | false => rfl
  | true =>
    have := of.below h.down j o i ho (fun e he hb => h.down j o e hj ho he hb) hm
    rw [hi] at this; cases this
theorem apart_of (R : RunE P cx G ops N st pf c m aL wL us es rs) (of : OFit ops N) (hm : m ≤ ops.size) (hpr : ∀ i j, c ≤ i → i < j → j < m → PairOk (befores ops.toList) j (pf j) i (pf i)) {i j : Nat} (hci : c ≤ i) (hij : i < j) (hjm : j < m) (hu : inMask ((befores ops.toList).getD j 0) i = false) :
    EApart (es i) (es j) ∧ (∀ r x, rs j = some r → (es i).rng = some x → x.Apart r) ∧ ∀ r x, rs i = some r → (es j).rng = some x → x.Apart r := by
  have hv := (R.rel c (Nat.le_refl _) (by omega)).inv
  refine ⟨fun x y h1 h2 => ?_, fun r x h1 h2 => ?_, fun r x h1 h2 => ?_⟩
  · obtain ⟨p, q1, q2⟩ := R.wr i x hci (by omega) h1
    obtain ⟨p', q3, q4⟩ := R.wr j y (by omega) hjm h2
    rcases hpr i j hci hij hjm _ _ _ _ q3 q1 rfl with h | h
    · rw [hu] at h; cases h
    · exact (djPl_ok hv h q4 q2).symm
  · obtain ⟨p, q1, q2⟩ := R.wr i x hci (by omega) h2
    obtain ⟨p', q3, q4⟩ := R.rd j r (by omega) hjm h1
    rcases hpr i j hci hij hjm _ _ _ _ q3 q1 rfl with h | h
    · rw [hu] at h; cases h
    · exact (djPl_ok hv h q4 q2).symm
  · obtain ⟨p, q1, q2⟩ := R.rd i r hci (by omega) h1
    obtain ⟨p', q3, q4⟩ := R.wr j x (by omega) hjm h2
    rcases hpr i j hci hij hjm _ _ _ _ q3 q1 rfl with h | h
    · rw [hu] at h; cases h
    · exact djPl_ok hv h q4 q2
theorem WRel.same (h : WRel ops c m aL wL us es S a w) (R : RunE P cx G ops N st pf c m aL wL us es rs) (of : OFit ops N) (hm : m ≤ ops.size) (hpr : ∀ i j, c ≤ i → i < j → j < m → PairOk (befores ops.toList) j (pf j) i (pf i)) (hck : c ≤ k) (hkm : k < m) {o : Oper} (ho : ops[k]? = some o) (hno : S k = false) (hok : ∀ e ∈ o.after, Region.binds .any e = true → S e.on = true) {r : Rng} (hrk : rs k = some r) : SameAt r (wL k) w := by
  obtain ⟨d, rfl⟩ : ∃ d, k = c + d := ⟨k - c, by omega⟩
  have get : ∀ j, j < m → ∃ q, ops[j]? = some q := fun j hj => ⟨_, Array.getElem?_eq_getElem (by omega)⟩
  have hkf : ∀ i, i < c + d → S i = false → inMask ((befores ops.toList).getD (c + d) 0) i = false := fun i hi hs => by
    cases hmm : inMask ((befores ops.toList).getD (c + d) 0) i with
    | false => rfl
    | true =>
      have := of.below h.down (c + d) o i ho hok hmm
      rw [hs] at this; cases this
  have a1 : SameAt r (layS es S c d (wL c)) (layS es (fun i => S i || decide (c ≤ i ∧ i < c + d)) c d (wL c)) := layS_ahead (fun i hi hs x hx => (apart_of R of hm hpr (by omega) (show c + i < c + d by omega) (by omega) (hkf (c + i) (by omega) hs)).2.1 r x hrk hx)
    (fun i j hi hs h1 h2 h3 => by
      obtain ⟨q, hq⟩ := get j (by omega)
      exact (apart_of R of hm hpr (by omega) h1 (by omega) (unforced of h hq hs h3)).1) (Nat.le_refl _)
  have a2 : layS es (fun i => S i || decide (c ≤ i ∧ i < c + d)) c d (wL c) = wL (c + d) := by
    rw [R.world d (by omega)]
    exact layS_congr fun i hi => by rw [decide_eq_true (by omega)]; simp
  have a3 : SameAt r (layS es S c d (wL c)) (layS es S c (m - c) (wL c)) := layS_behind (fun i h1 h2 h3 x hx => by
    by_cases e : i = d
    · subst e; rw [hno] at h3; cases h3
    · obtain ⟨q, hq⟩ := get (c + i) (by omega)
      exact (apart_of R of hm hpr hck (show c + d < c + i by omega) (by omega) (unforced of h hq hno h3)).2.2 r x hrk hx) (by omega)
  rw [h.wor, ← a2]
  exact a1.symm.trans a3
theorem WRel.alike (h : WRel ops c m aL wL us es S a w) (R : RunE P cx G ops N st pf c m aL wL us es rs) (hck : c ≤ k) (hkm : k ≤ m) : Alike (wL k) w := by
  obtain ⟨d, rfl⟩ : ∃ d, k = c + d := ⟨k - c, by omega⟩
  rw [h.wor, R.world d hkm]
  exact layS_alike.symm.trans layS_alike
theorem WRel.push (h : WRel ops c m aL wL us es S a w) (R : RunE P cx G ops N st pf c m aL wL us es rs) (of : OFit ops N) (hm : m ≤ ops.size) (hpr : ∀ i j, c ≤ i → i < j → j < m → PairOk (befores ops.toList) j (pf j) i (pf i)) (hck : c ≤ k) (hkm : k < m) {o : Oper} (ho : ops[k]? = some o) (hno : S k = false) (hok : ∀ e ∈ o.after, Region.binds .any e = true → S e.on = true) : WRel ops c m aL wL us es (addS S k) (a.put o.dst (us k)) ((es k).app w) := by
  have inA : ∀ {i}, addS S k i = true → i = k ∨ (i ≠ k ∧ S i = true) := fun {i} hi => by
    by_cases e : i = k
    · exact .inl e
    · rw [addS_of e] at hi; exact .inr ⟨e, hi⟩
  have hsz : k < ops.size := by omega
  refine ⟨fun i q t hci hi hq hd => ?_, fun t hn => ?_, ?_, fun i hi => ?_, fun i hi => ?_, fun i q e hi hq he hb => ?_, by rw [put_size]; exact h.size, ?_⟩
  · rcases inA hi with rfl | ⟨hne, hS⟩
    · rw [ho] at hq; injection hq with hq; subst hq
      have hlt : t < a.tmps.size := by
        rw [h.size]
        exact Nat.lt_of_lt_of_le (of.fit.lt i o t ho hd) (R.rel c (Nat.le_refl _) (by omega)).size
      rw [hd, put_same hlt]
    · rw [put_getD (fun e2 => of.fit.apart i k q o t hq ho hne hd e2)]
      exact h.tA i q t hci hS hq hd
  · rw [put_getD (hn k o hck addS_self ho)]
    exact h.tB t fun i q hci hS hq => by
      by_cases e : i = k
      · subst e; rw [hno] at hS; cases hS
      · exact hn i q hci (by rw [addS_of e]; exact hS) hq
  · rw [h.wor, layS_add hno hck (by omega) fun i h1 h2 h3 => ?_]
    obtain ⟨q, hq⟩ : ∃ q, ops[i]? = some q := ⟨_, Array.getElem?_eq_getElem (by omega)⟩
    exact (apart_of R of hm hpr hck h1 (by omega) (unforced of h hq hno h3)).1
  · unfold addS; rw [h.low i hi]; rfl
  · rcases inA hi with rfl | ⟨-, hS⟩
    · exact hkm
    · exact h.high i hS
  · rcases inA hi with rfl | ⟨-, hS⟩
    · rw [ho] at hq; injection hq with hq; subst hq
      have := hok e he hb
      unfold addS; rw [this]; rfl
    · have := h.down i q e hS hq he hb
      unfold addS; rw [this]; rfl
  · rw [← h.rest]
    cases o.dst <;> rfl
theorem WRel.all (h : WRel ops c m aL wL us es S a w) (R : RunE P cx G ops N st pf c m aL wL us es rs) (of : OFit ops N) (hm : m ≤ ops.size) (hcm : c ≤ m) (hall : ∀ i, i < m → S i = true) : a = aL m ∧ w = wL m := by
  obtain ⟨l1, l2, l3, l4, l5⟩ := R.at of.fit hm m hcm (Nat.le_refl _)
  constructor
  · have ht : a.tmps = (aL m).tmps := by
      apply Array.ext_getElem?
      intro t
      refine getElem_of (by rw [h.size, l3]) ?_
      by_cases e : ∃ i q, c ≤ i ∧ i < m ∧ ops[i]? = some q ∧ q.dst = some t
      · obtain ⟨i, q, g1, g2, g3, g4⟩ := e
        rw [h.tA i q t g1 (hall i g2) g3 g4, l1 i q t g1 g2 g3 g4]
      · rw [h.tB t fun i q g1 g2 g3 g4 => e ⟨i, q, g1, h.high i g2, g3, g4⟩, l2 t fun i q g1 g2 g3 g4 => e ⟨i, q, g1, g2, g3, g4⟩]
    have := h.rest.trans l5.symm
    have e1 : a = { ({ a with tmps := #[] } : Act) with tmps := a.tmps } := rfl
    have e2 : aL m = { ({ aL m with tmps := #[] } : Act) with tmps := (aL m).tmps } := rfl
    rw [e1, e2, this, ht]
  · obtain ⟨d, rfl⟩ : ∃ d, m = c + d := ⟨m - c, by omega⟩
    rw [h.wor, R.world d (Nat.le_refl _)]
    have : c + d - c = d := by omega
    rw [this]
    exact layS_congr fun i (hi : i < d) => hall (c + i) (by omega)
theorem WRel.start (of : OFit ops N) (hcm : c ≤ m) (hS : ∀ i, S i = true ↔ i < c) : WRel ops c m aL wL us es S (aL c) (wL c) :=
  ⟨fun i o t hi hs => by have := (hS i).1 hs; omega, fun t _ => rfl, by
    rw [layS_congr (S := S) (S' := fun _ => false) fun i hi => by
      cases h : S (c + i) with
      | false => rfl
      | true => have := (hS _).1 h; omega]
    have : ∀ n w, layS es (fun _ => false) c n w = w := fun n w => by
      induction n with
      | zero => rfl
      | succ n ih => unfold layS; rw [if_neg (by decide)]; exact ih
    exact (this _ _).symm, fun i hi => (hS i).2 hi, fun i hi => by have := (hS i).1 hi; omega, fun i o e hs ho he hb => (hS _).2 (by have := of.opn.dn i o e (by rw [Array.getElem?_toList]; exact ho) he hb; have := (hS i).1 hs; omega), rfl, rfl⟩
theorem nextBar (f : Nat → Bool) {n : Nat} : ∀ d c, c + d = n → ∃ m, c ≤ m ∧ m ≤ n ∧ (∀ i, c ≤ i → i < m → f i = false) ∧ (m = n ∨ f m = true)
  | 0, c, h => ⟨c, Nat.le_refl _, by omega, fun i h1 h2 => by omega, .inl (by omega)⟩
  | d + 1, c, h => by
    cases hf : f c with
    | true => exact ⟨c, Nat.le_refl _, by omega, fun i h1 h2 => by omega, .inr hf⟩
    | false =>
      obtain ⟨m, h1, h2, h3, h4⟩ := nextBar f (n := n) d (c + 1) (by omega)
      refine ⟨m, by omega, h2, fun i g1 g2 => ?_, h4⟩
      by_cases e : i = c
      · rw [e]; exact hf
      · exact h3 i (by omega) g2
structure TrcE (P : Program) (X : Tbl) (T : Tabs) (ops : Array Oper) (s : VS) (st : Nat → VS) (vl : Nat → PV) (pf : Nat → Option (Bool × Pl)) : Prop where
  zero : st 0 = s
  step : ∀ j o, ops[j]? = some o → LineE P X T ops.toList (befores ops.toList) j o (st j) (st (j + 1)) (vl j) (pf j)
  pair : ∀ i j, i < j → j < ops.size → (∀ q, i ≤ q → q ≤ j → barB ops.toList (befores ops.toList) q = false) → PairOk (befores ops.toList) j (pf j) i (pf i)
def Stretch (P : Program) (cx : Cx) (ops : Array Oper) (N : Nat) (st : Nat → VS) (pf : Nat → Option (Bool × Pl)) (S : Nat → Bool) (a : Act) (w : World) : Prop :=
  ∃ G c m aL wL us es rs, c ≤ m ∧ m ≤ ops.size ∧ (∀ i, c ≤ i → i < m → barB ops.toList (befores ops.toList) i = false) ∧ (m = ops.size ∨ barB ops.toList (befores ops.toList) m = true) ∧ RunE P cx G ops N st pf c m aL wL us es rs ∧ WRel ops c m aL wL us es S a w
theorem Stretch.start (tc : TrcE P X T ops s0 st vl pf) (of : OFit ops N) (h : LRel cx G ops N c (st c) a w) (hc : c ≤ ops.size) (hS : ∀ i, S i = true ↔ i < c) : Stretch P cx ops N st pf S a w := by
  obtain ⟨m, h1, h2, h3, h4⟩ := nextBar (barB ops.toList (befores ops.toList)) (n := ops.size) (ops.size - c) c (by omega)
  obtain ⟨aL, wL, us, es, rs, R, e1, e2⟩ := run_line of.fit tc.step h h1 h2 h3
  subst e1; subst e2
  exact ⟨G, c, m, aL, wL, us, es, rs, h1, h2, h3, h4, R, .start of h1 hS⟩
theorem Stretch.any (hX : XOk P T X) (hm : cx.m ≤ 32) (hT : TabC T cx) (of : OFit ops N) (tc : TrcE P X T ops s0 st vl pf) {Q : Exit → Act → World → Prop} (hQ : ∀ G a w, LRel cx G ops N ops.size (st ops.size) a w → Q .normal a w) :
    ∀ (fuel : Nat) (listed : Array Bool) (a : Act) (w : World), listed.size = ops.size → cntS (ofL listed) ops.size ≤ fuel → Stretch P cx ops N st pf (ofL listed) a w → wpAny P .any ops Q fuel listed a w := by
  have fin : ∀ (listed : Array Bool) (a : Act) (w : World), Stretch P cx ops N st pf (ofL listed) a w → (∀ j, j < ops.size → ofL listed j = true) → Q .normal a w := by
    intro listed a w ⟨G, c, m, aL, wL, us, es, rs, h1, h2, h3, h4, R, W⟩ hall
    have e : m = ops.size := by
      rcases h4 with h4 | h4
      · exact h4
      · refine Classical.byContradiction fun hne => ?_
        have := W.high m (hall m (by omega))
        omega
    obtain ⟨rfl, rfl⟩ := W.all R of h2 h1 fun i hi => hall i (by omega)
    have := R.rel m h1 (Nat.le_refl _)
    rw [e] at this ⊢
    exact hQ G _ _ this
  intro fuel
  induction fuel with
  | zero =>
    intro listed a w hsz hc iv
    have hall := cntS_zero (show cntS (ofL listed) ops.size = 0 by omega)
    refine ⟨?_, fin listed a w iv hall⟩
    cases hr : Region.ready .any ops listed with
    | nil => rfl
    | cons i rs =>
      obtain ⟨h1, h2, -⟩ := rdy_of hsz (show i ∈ Region.ready .any ops listed by rw [hr]; exact List.mem_cons_self ..)
      have := hall i (by omega)
      rw [h2] at this; cases this
  | succ fuel ih =>
    intro listed a w hsz hc iv
    refine ⟨fun h => fin listed a w iv (all_of of hsz h), fun i hi => ?_⟩
    obtain ⟨h1, hno, o, ho, hok⟩ := rdy_of hsz hi
    have hin : i < ops.size := by omega
    have next : ∀ a' w', Stretch P cx ops N st pf (addS (ofL listed) i) a' w' → wpAny P .any ops Q fuel (listed.setIfInBounds i true) a' w' := fun a' w' iv' => by
      rw [← ofL_set h1] at iv'
      refine ih _ a' w' (by simpa using hsz) ?_ iv'
      rw [ofL_set h1]
      have := cntS_add hno ops.size
      rw [if_pos (by omega)] at this
      omega
    obtain ⟨G, c, m, aL, wL, us, es, rs, g1, g2, g3, g4, R, W⟩ := iv
    have hci : c ≤ i := by
      refine Classical.byContradiction fun h => ?_
      have := W.low i (by omega)
      rw [hno] at this; cases this
    have hL := tc.step i o ho
    by_cases hb : barB ops.toList (befores ops.toList) i = true
    · have low : ∀ j, j < i → ofL listed j = true := fun j hj => of.below W.down i o j ho hok ((bar_all hb).1 j (by simp; omega) hj)
      have hmi : m = i := by
        have h5 : m ≤ i := by
          refine Classical.byContradiction fun h => ?_
          have := g3 i hci (by omega)
          rw [hb] at this; cases this
        refine Classical.byContradiction fun h => ?_
        have := W.high m (low m (by omega))
        omega
      subst hmi
      obtain ⟨rfl, rfl⟩ := W.all R of g2 g1 low
      have hl := R.rel m g1 (Nat.le_refl _)
      generalize pf m = px at hL
      cases hL with
      | bar f lh hb' e hB =>
        refine bar_step hX hm hT of.fit hl ho hB fun G' w' u hl' => next _ w' ?_
        rw [← e] at hl'
        refine Stretch.start tc of hl' (by omega) fun j => ?_
        unfold addS
        rw [Bool.or_eq_true, decide_eq_true_iff]
        exact ⟨fun h => h.elim (fun h => by have := W.high j h; omega) (fun h => by omega), fun h => by
          by_cases hj : j = m
          · exact .inr hj
          · exact .inl (low j (by omega))⟩
      | quiet hb' => rw [hb] at hb'; cases hb'
      | load t x p hb' => rw [hb] at hb'; cases hb'
      | store t x y p f lh hb' => rw [hb] at hb'; cases hb'
    · have him : i < m := by
        refine Classical.byContradiction fun h => ?_
        rcases g4 with g4 | g4
        · omega
        · by_cases e : m = i
          · rw [e] at g4; exact hb g4
          · have hmk := (bar_all g4).2 i (by simpa using hin) (by omega)
            have := W.high m (of.below W.down i o m ho hok hmk)
            omega
      have hpr : ∀ i j, c ≤ i → i < j → j < m → PairOk (befores ops.toList) j (pf j) i (pf i) := fun i j h1 h2 h3 => tc.pair i j h2 (by omega) fun q h4 h5 => g3 q (by omega) (by omega)
      have hgon := W.guardOn R of g2 hci (by omega) ho hno hok
      have nxt : wpAny P .any ops Q fuel (listed.setIfInBounds i true) (a.put o.dst (us i)) ((es i).app w) := next _ _ ⟨G, c, m, aL, wL, us, es, rs, g1, g2, g3, g4, R, W.push R of g2 hpr hci him ho hno hok⟩
      unfold wpOp
      rw [ho]
      dsimp only
      by_cases hg : GuardOn ops a.tmps o.guard
      · rw [if_pos ((wanted_iff ops a.tmps o).2 hg)]
        left
        obtain ⟨nx, hnx, hE⟩ := R.on i o hci him ho (hgon.1 hg)
        have hrun := hE a w (fun t ht => W.read R of g2 hci (by omega) ho hno hok (reads_operand (ops := ops.toList) ht)) (fun x hx => W.same R of g2 hpr hci him ho hno hok hx) (W.alike R hci (by omega))
        unfold Oper.wp
        rw [hrun]
        rcases hnx with rfl | ⟨rfl, hu⟩
        · exact nxt
        · rw [hu] at nxt; exact nxt
      · rw [if_neg (by rw [wanted_iff]; exact hg)]
        obtain ⟨q1, q2⟩ := R.off i o hci him ho (fun h => hg (hgon.2 h))
        rw [q1, q2] at nxt
        exact nxt
theorem evE_ok (hmix : P.follows .mixedOrders = true) (hX : XOk P T X) (hm : cx.m ≤ 32) (hT : TabC T cx) (of : OFit ops N) {K : VS → Prop} {Q : Exit → Act → World → Prop} (hQ : ∀ G s a w, LRel cx G ops N ops.size s a w → K s → Q .normal a w) (hl : s.loc = []) (h : LRel cx G ops N 0 s a w) (he : evE P X T ops.toList (befores ops.toList) ops.toList 0 [] s K) (id : Nat) : (Code.region id ops true).wp P Q a w := by
  obtain ⟨st, vl, pf, h1, h2, -, h4, h5⟩ := evE_trace _ _ _ _ he
  have tc : TrcE P X T ops s st vl pf := ⟨h1, fun j o ho => by
    have := h2 j o (by rw [Array.getElem?_toList]; exact ho)
    rwa [Nat.zero_add] at this, fun i j hij hj hb => by
    have := h4 i j hij (by simpa using hj) fun q g1 g2 => by rw [Nat.zero_add]; exact hb q g1 g2
    rwa [Nat.zero_add, Nat.zero_add] at this⟩
  refine wp_region_any hmix ?_
  obtain ⟨i1, i2⟩ := h.inv.drew
  have hd : LRel cx G ops N 0 (st 0) a w.drew := by
    rw [h1]
    exact ⟨i1, fun t x g e => i2 _ _ (h.env t x g e), (fun t g v hlk => by rw [hl] at hlk; cases hlk), (fun i o hi => by omega), h.size, h.defers⟩
  have hnone : ofL (Array.replicate ops.size false) = fun _ => false := by
    funext j; unfold ofL
    by_cases h : j < ops.size <;> simp [Array.getD, h]
  refine Stretch.any hX hm hT of tc (fun G a w hr => hQ G _ a w hr (by simpa using h5)) ops.size (Array.replicate ops.size false) a w.drew (by simp) ?_ ?_
  · rw [hnone, cntS_none]; exact Nat.le_refl _
  · rw [hnone]; exact .start tc of hd (Nat.zero_le _) (fun i => by simp)
end
end
end Go.Vc
namespace Go.Vc
open Go.RowKit
section
def YieldW (P : Program) (o : Oper) (a : Act) (u : Value) : Prop := ∀ w, (execOp a.eval o).run P w = .ok (.value u) w
section
variable [Wd] {P : Program} {cx : Cx} {G : Gh} {lh : List (Nat × PV)} {w : World}
theorem YieldW.quiet {o : Oper} {a : Act} {u : Value} {s : Sem Value} (he : execOp a.eval o = (do Pure.pure (Next.value (← s)))) (hs : ∀ w', s.run P w' = .ok u w') : YieldW P o a u :=
  fun w' => by rw [he, Sem.run_bind, hs]; rfl
theorem YieldW.pure {o : Oper} {a : Act} {u : Value} (he : execOp a.eval o = Pure.pure (Next.value u)) : YieldW P o a u :=
  fun w' => by rw [he]; rfl
set_option maxHeartbeats 1000000 in
theorem quiet_yield {X : Tbl} {T : Tabs} (hi : Inv cx G lh w) {o : Oper} (hq : quietE o.op = true) {a : Act} {xs : List PV} {v : PV} {f : Option (PV → PV)} {lh' : List (Nat × PV)}
    (hx : RepL' xs G w (o.op.operands.toList.map a.eval)) (h : (evOp0 P X T o xs lh).Is v f lh lh') : f = none ∧ lh' = lh ∧ ∃ u, Rep v G w u ∧ YieldW P o a u := by
  have hq2 : (quietE o.op || memE o.op) = true := by rw [hq]; rfl
  have qt : ∀ {s : Sem Value}, execOp a.eval o = (do Pure.pure (Next.value (← s))) → Gives P s v G w → ∃ u, Rep v G w u ∧ YieldW P o a u := fun he hg => by
    obtain ⟨u, h1, h2⟩ := hg
    exact ⟨u, h2, YieldW.quiet he h1⟩
  obtain ⟨dst, op, type, pos, after, guard⟩ := o
  cases op
  case move x =>
    obtain ⟨x0, rfl, h1⟩ := RepL'.one (u := a.eval x) hx
    obtain ⟨rfl, rfl, rfl⟩ := h
    exact ⟨rfl, rfl, _, typed_ok h1, YieldW.pure rfl⟩
  case assign x =>
    obtain ⟨x0, rfl, h1⟩ := RepL'.one (u := a.eval x) hx
    unfold evOp0 at h
    dsimp only at h
    split at h
    · rename_i e n hc hd hn
      have : (!nilConst x) = true := hq
      rw [hc] at this; cases this
    · obtain ⟨rfl, rfl, rfl⟩ := h
      exact ⟨rfl, rfl, _, h1, YieldW.pure rfl⟩
  case build t ps =>
    obtain ⟨h1, rfl, rfl⟩ := OpR.at_is h
    have hx' : RepL' xs G w ((ps.toList.map (·.2)).map a.eval) := by simpa [Op.operands] using hx
    refine ⟨rfl, rfl, qt (s := Instr.build t (ps.map fun (i, x) => (i, a.eval x))) rfl ?_⟩
    rw [map_parts]
    exact build_ok h1 hx'
  case nilCheck x =>
    obtain ⟨x0, rfl, h1⟩ := RepL'.one (u := a.eval x) hx
    unfold evOp0 at h
    dsimp only at h
    split at h
    · rename_i n off he
      injection he with he; subst he
      obtain ⟨rfl, rfl, rfl⟩ := h
      obtain ⟨b, h2, h3⟩ := h1
      refine ⟨rfl, rfl, a.eval x, ⟨b, h2, h3⟩, YieldW.pure ?_⟩
      unfold execOp
      dsimp only
      rw [h3]
    · rename_i g p q he
      injection he with he; subst he
      obtain ⟨rfl, rfl, rfl⟩ := h
      obtain ⟨us, vs, h2, h3, h4⟩ := h1
      refine ⟨rfl, rfl, a.eval x, ⟨us, vs, h2, h3, h4⟩, YieldW.pure ?_⟩
      unfold execOp
      dsimp only
      rw [h4]
    · exact h.elim
  case binOp op t x y yt =>
    obtain ⟨x0, y0, rfl, h1, h2⟩ := RepL'.two (u := a.eval x) (v := a.eval y) hx
    obtain ⟨h3, rfl, rfl⟩ := OpR.at_is h
    exact ⟨rfl, rfl, qt (s := binSem op t x y (a.eval x) (a.eval y)) rfl (bin_ok h3 h1 h2 x y)⟩
  case unOp op t x =>
    obtain ⟨x0, rfl, h1⟩ := RepL'.one (u := a.eval x) hx
    obtain ⟨h3, rfl, rfl⟩ := OpR.at_is h
    exact ⟨rfl, rfl, qt rfl (un_ok h3 h1)⟩
  case slice t x lo hi' mx =>
    cases mx with
    | some m => cases lo <;> cases hi' <;> exact h.elim
    | none =>
      cases lo with
      | none =>
        cases hi' with
        | none =>
          obtain ⟨x0, rfl, h1⟩ := RepL'.one (u := a.eval x) hx
          obtain ⟨h3, rfl, rfl⟩ := OpR.at_is h
          exact ⟨rfl, rfl, qt rfl (slice_ok h3 h1 trivial trivial)⟩
        | some b =>
          obtain ⟨x0, y0, rfl, h1, h2⟩ := RepL'.two (u := a.eval x) (v := a.eval b) hx
          obtain ⟨h3, rfl, rfl⟩ := OpR.at_is h
          exact ⟨rfl, rfl, qt rfl (slice_ok h3 h1 trivial (opt1 h2))⟩
      | some q =>
        cases hi' with
        | none =>
          obtain ⟨x0, y0, rfl, h1, h2⟩ := RepL'.two (u := a.eval x) (v := a.eval q) hx
          obtain ⟨h3, rfl, rfl⟩ := OpR.at_is h
          exact ⟨rfl, rfl, qt rfl (slice_ok h3 h1 (opt1 h2) trivial)⟩
        | some b =>
          obtain ⟨x0, y0, z0, rfl, h1, h2, h4⟩ := RepL'.three (u := a.eval x) (v := a.eval q) (q := a.eval b) hx
          obtain ⟨h3, rfl, rfl⟩ := OpR.at_is h
          exact ⟨rfl, rfl, qt rfl (slice_ok h3 h1 (opt1 h2) (opt1 h4))⟩
  case fieldAddr t x f =>
    obtain ⟨x0, rfl, h1⟩ := RepL'.one (u := a.eval x) hx
    obtain ⟨h3, rfl, rfl⟩ := OpR.at_is h
    exact ⟨rfl, rfl, qt rfl (fieldAddr_ok h3 h1)⟩
  case field t x f =>
    obtain ⟨x0, rfl, h1⟩ := RepL'.one (u := a.eval x) hx
    obtain ⟨h3, rfl, rfl⟩ := OpR.at_is h
    exact ⟨rfl, rfl, qt rfl (field_ok h3 h1)⟩
  case indexAddr t x y =>
    obtain ⟨x0, y0, rfl, h1, h2⟩ := RepL'.two (u := a.eval x) (v := a.eval y) hx
    obtain ⟨h3, rfl, rfl⟩ := OpR.at_is h
    exact ⟨rfl, rfl, qt rfl (indexAddr_ok h3 h1 h2)⟩
  case index t x y =>
    obtain ⟨x0, y0, rfl, h1, h2⟩ := RepL'.two (u := a.eval x) (v := a.eval y) hx
    obtain ⟨h3, rfl, rfl⟩ := OpR.at_is h
    exact ⟨rfl, rfl, qt rfl (index_ok h3 h1 h2)⟩
  case extract x i =>
    obtain ⟨x0, rfl, h1⟩ := RepL'.one (u := a.eval x) hx
    unfold evOp0 at h
    dsimp only at h
    split at h
    · rename_i l he
      injection he with he; subst he
      obtain ⟨h3, rfl, rfl⟩ := OpR.at_is h
      exact ⟨rfl, rfl, qt rfl (extract_ok h3 h1)⟩
    · exact h.elim
  case call c =>
    obtain ⟨callee, args, argTypes⟩ := c
    cases callee
    case builtin b =>
      cases b
      case len =>
        have hx' : RepL' xs G w (args.toList.map a.eval) := by simpa [Op.operands, Call.operands] using hx
        unfold evOp0 at h
        dsimp only at h
        cases h0 : argTypes[0]? with
        | none => rw [h0] at h; exact h.elim
        | some t =>
          rw [h0] at h
          dsimp only at h
          split at h
          · rename_i x0
            obtain ⟨h3, rfl, rfl⟩ := OpR.at_is h
            obtain ⟨u, us, hl, h1, h2⟩ := hx'
            obtain rfl : us = [] := h2
            obtain ⟨q, g1, g2⟩ := len_ok (ty := type) h0 h3 (typed_ok (P := P) (t := t) (tok := 0) h1)
            refine ⟨rfl, rfl, q, g2, YieldW.quiet (s := Builtin.len_ argTypes type #[u]) ?_ g1⟩
            show (do let d ← resolve a.eval ⟨.builtin .len, args, argTypes⟩ type; invoke d.target d.args) = _
            unfold resolve
            dsimp only
            have : args.map a.eval = #[u] := by apply Array.ext'; simpa using hl
            rw [this]
            rfl
          · exact h.elim
      all_goals (cases hq)
    all_goals (cases hq)
  all_goals (cases hq)
variable {ops : Array Oper} {N k : Nat} {s : VS} {a : Act} {X : Tbl} {T : Tabs}
theorem stepA_ok {l : List Oper} {i : Nat} {K : VS → Prop} (h : stepA P X T l i s K) : ∃ o v f lh', l[i]? = some o ∧ (evOp P X T o (operandsV l o s) s.lh).Is v f s.lh lh' ∧ K (pushL o v (s.turn f lh')) := by
  unfold stepA at h
  split at h
  · exact h.elim
  · rename_i o ho
    refine ⟨o, ?_⟩
    split at h
    · rename_i v hv
      rw [forceV_eq] at h
      exact ⟨v, none, s.lh, ho, by rw [hv]; exact ⟨rfl, rfl, rfl⟩, h⟩
    · rename_i p v hv
      rw [forceV_eq] at h
      exact ⟨v, none, s.lh, ho, by rw [hv]; exact ⟨h.1, rfl, rfl, rfl⟩, h.2⟩
    · rename_i v f lh' hv
      rw [forceV_eq] at h
      exact ⟨v, f, lh', ho, by rw [hv]; exact ⟨rfl, rfl, rfl⟩, h⟩
    · rename_i p v f lh' hv
      rw [forceV_eq] at h
      exact ⟨v, f, lh', ho, by rw [hv]; exact ⟨h.1, rfl, rfl, rfl⟩, h.2⟩
    · exact h.elim
theorem allA_get : ∀ {l : List Nat} {F : Nat → Prop}, allA l F → ∀ i ∈ l, F i
  | [], F, h, i, hi => by cases hi
  | [j], F, h, i, hi => by
    rcases List.mem_cons.1 hi with rfl | hi
    · exact h
    · cases hi
  | j :: q :: l, F, h, i, hi => by
    rcases List.mem_cons.1 hi with rfl | hi
    · exact h.1
    · exact allA_get (l := q :: l) h.2 i hi
theorem guardless_get {l : List Oper} (h : guardless l = true) {i : Nat} {o : Oper} (ho : l[i]? = some o) : o.guard = none ∧ (∀ c x y, o.op ≠ .pick c x y) ∧ ∀ cs b, o.op ≠ .select cs b := by
  have := List.all_eq_true.1 h o (List.mem_of_getElem? ho)
  rw [Bool.and_eq_true] at this
  obtain ⟨h1, h2⟩ := this
  refine ⟨?_, fun c x y e => ?_, fun cs b e => ?_⟩
  · cases hg : o.guard with
    | none => rfl
    | some g => rw [hg] at h1; cases h1
  · rw [e] at h2; cases h2
  · rw [e] at h2; cases h2
theorem rdy_is (ops : Array Oper) (listed : Array Bool) : rdyL ops.toList listed.toList = Region.ready .any ops listed := by
  have e1 : ∀ (i : Nat) (d : Bool), listed.toList.getD i d = listed.getD i d := fun i d => by simp [List.getD_eq_getElem?_getD, Array.getD_eq_getD_getElem?]
  unfold rdyL Region.ready
  rw [Array.length_toList]
  congr 1
  funext i
  rw [Array.getElem?_toList, e1]
  cases ops[i]? with
  | none => rfl
  | some o =>
    simp only [e1, Option.map_some, Option.getD_some, Array.all_toList]
theorem LRel.pushA (h : LRel cx G ops N ops.size s a w) (hr : RegFit ops N) (hgl : guardless ops.toList = true) {i : Nat} {o : Oper} (ho : ops[i]? = some o) {f : Option (PV → PV)} {lh' : List (Nat × PV)} {G' : Gh} {w' : World} (tr : Turns cx G w f lh' G' w') {v : PV} {u : Value}
    (hv : Rep v G' w' u) : LRel cx G' ops N ops.size (pushL o v (s.turn f lh')) (a.put o.dst u) w' := by
  have gl : ∀ {i : Nat} {q : Oper}, ops[i]? = some q → q.guard = none := fun hq => (guardless_get hgl (by rw [Array.getElem?_toList]; exact hq)).1
  refine ⟨by rw [push_env.2, turn_lh]; exact tr.inv, fun t x hl he => ?_, fun t g x hl => ?_, fun i q hi hq b hy => by rw [gl hq]; trivial, by rw [put_size]; exact h.size, by rw [put_defers]; exact h.defers⟩
  · rw [lookL_push] at hl
    split at hl
    · cases hl
    · rename_i hd
      rw [lookL_turn] at hl
      rw [push_env.1, getN_turn_env] at he
      rw [Option.map_eq_some_iff] at he
      obtain ⟨y, hy, rfl⟩ := he
      rw [put_getD hd]
      exact tr.rep _ _ (h.env t y (by simpa using hl) hy)
  · rw [lookL_push] at hl
    split at hl
    · rename_i hd
      injection hl with hl; injection hl with h1 h2; subst h1; subst h2
      have hlt : t < a.tmps.size := Nat.lt_of_lt_of_le (hr.lt i o t ho hd) h.size
      refine ⟨fun hg => ?_, i, o, (Array.getElem?_eq_some_iff.1 ho).1, ho, rfl, hd⟩
      rw [hd, put_same hlt]
      exact hv
    · rename_i hd
      rw [lookL_turn, Option.map_eq_some_iff] at hl
      obtain ⟨⟨g', y⟩, hy, e⟩ := hl
      injection e with e1 e2; subst e1; subst e2
      obtain ⟨h1, j, q, hi, hq, hg1, hd1⟩ := h.loc t g' y hy
      refine ⟨fun hg => ?_, j, q, hi, hq, hg1, hd1⟩
      rw [put_getD hd]
      refine tr.rep _ _ (h1 ?_)
      rw [← hg1, gl hq]; trivial
theorem eager_free {i : Nat} {oi : Oper} {listed : Array Bool} (ho : ops[i]? = some oi) (h : eagerB ops.toList listed.toList i = true) : quietE oi.op = true ∧ ∀ j oj, ops[j]? = some oj → j ≠ i → listed.getD j true = false → (∀ e ∈ oj.after, Region.binds .any e = true → e.on ≠ i) → oi.apart ops oj = true := by
  unfold eagerB at h
  rw [Array.getElem?_toList, ho] at h
  dsimp only at h
  rw [Bool.and_eq_true] at h
  refine ⟨h.1, fun j oj hj hne hl haf => ?_⟩
  have := List.all_eq_true.1 h.2 j (List.mem_range.2 (by rw [Array.length_toList]; exact (Array.getElem?_eq_some_iff.1 hj).1))
  have e1 : listed.toList.getD j true = listed.getD j true := by simp [List.getD_eq_getElem?_getD, Array.getD_eq_getD_getElem?]
  have e0 : Nat.beq j i = false := by cases e : Nat.beq j i with | false => rfl | true => exact absurd (Nat.eq_of_beq_eq_true e) hne
  rw [e0, e1, hl, Array.getElem?_toList, hj, Bool.false_or, Bool.false_or] at this
  dsimp only at this
  rw [Bool.or_eq_true] at this
  rcases this with this | this
  · obtain ⟨e, he, h2⟩ := List.any_eq_true.1 this
    rw [Bool.and_eq_true] at h2
    exact absurd (Nat.eq_of_beq_eq_true h2.2) (haf e (by simpa using he) h2.1)
  · simpa using this
theorem evA_any (hX : XOk P T X) (hm : cx.m ≤ 32) (hT : TabC T cx) (hr : RegFit ops N) (hgl : guardless ops.toList = true) {K : VS → Prop} {Q : Exit → Act → World → Prop} (hP : ∀ c a w, ¬ Q (.panic c) a w) (hQ : ∀ G s a w, LRel cx G ops N ops.size s a w → K s → Q .normal a w) :
    ∀ (n fuel : Nat) (listed : Array Bool) (s : VS) (G : Gh) (a : Act) (w : World), listed.size = ops.size → cntS (ofL listed) ops.size ≤ fuel → LRel cx G ops N ops.size s a w → evA P X T ops.toList n listed.toList s K → wpAny P .any ops Q fuel listed a w
  | 0, _, _, _, _, _, _, _, _, _, he => he.elim
  | n + 1, fuel, listed, s, G, a, w, hsz, hc, hl, he => by
    unfold evA at he
    rw [rdy_is] at he
    have one : ∀ i ∈ Region.ready .any ops listed, i < ops.size ∧ ofL listed i = false ∧ ∃ o, ops[i]? = some o := fun i hi => by
      obtain ⟨h1, h2, o, h3, -⟩ := rdy_of hsz hi
      exact ⟨by omega, h2, o, h3⟩
    have less : ∀ f i, i < ops.size → ofL listed i = false → cntS (ofL listed) ops.size ≤ f + 1 → cntS (ofL (listed.setIfInBounds i true)) ops.size ≤ f := fun f i hi hno hf => by
      rw [ofL_set (by omega)]
      have := cntS_add hno ops.size
      rw [if_pos hi] at this
      omega
    have tl : ∀ i, (listed.setIfInBounds i true).toList = listed.toList.set i true := fun i => by simp
    split at he
    · rename_i hnil
      cases fuel with
      | zero => exact ⟨hnil, hQ G s a w hl he⟩
      | succ fuel => exact ⟨fun _ => hQ G s a w hl he, fun i hi => by rw [hnil] at hi; cases hi⟩
    · rename_i hne
      cases fuel with
      | zero =>
        exfalso
        cases hrd : Region.ready .any ops listed with
        | nil => exact hne hrd
        | cons i rs =>
          obtain ⟨h1, h2, -⟩ := one i (by rw [hrd]; exact List.mem_cons_self ..)
          have := cntS_zero (show cntS (ofL listed) ops.size = 0 by omega) i h1
          rw [h2] at this; cases this
      | succ fuel =>
        split at he
        · rename_i i hf
          have hi := List.mem_of_find?_eq_some hf
          have hb := List.find?_some hf
          obtain ⟨h1, h2, -⟩ := one i hi
          obtain ⟨o, v, f, lh', ho, hI, hK⟩ := stepA_ok he
          rw [Array.getElem?_toList] at ho
          obtain ⟨hq, hfree⟩ := eager_free ho hb
          obtain ⟨g0, gp, gs⟩ := guardless_get hgl (i := i) (o := o) (by rw [Array.getElem?_toList]; exact ho)
          have hx : RepL' (operandsV ops.toList o s) G w (o.op.operands.toList.map a.eval) := by
            have : operandsV ops.toList o s = o.op.operands.toList.map (operandV ops.toList o.guard s) := by
              unfold operandsV
              split
              · rename_i c x y e
                exact absurd e (gp c x y)
              · rfl
            rw [this]
            exact hl.operands hr (fun j b e => by rw [g0] at e; cases e) (by rw [g0]; trivial) _
          obtain ⟨rfl, rfl, u, hv, hy⟩ := quiet_yield hl.inv hq hx (calm_is hI)
          have hl' := hl.pushA hr hgl ho (Turns.refl hl.inv) hv
          refine wpAny_first (oi := o) (v := u) ho (fun j q cs b hj => (guardless_get hgl (i := j) (o := q) (by rw [Array.getElem?_toList]; exact hj)).2.2 cs b) (fun c a w h => absurd h (hP c _ w)) fuel listed a w hfree hi (.inl ⟨by unfold Region.wanted; rw [g0], hy⟩) ?_
          exact evA_any hX hm hT hr hgl hP hQ n fuel _ _ _ _ _ (by simpa using hsz) (less fuel i h1 h2 hc) hl' (by rw [tl]; exact hK)
        · refine ⟨fun hnil => absurd hnil hne, fun i hi => ?_⟩
          obtain ⟨h1, h2, -⟩ := one i hi
          obtain ⟨o, v, f, lh', ho, hI, hK⟩ := stepA_ok (allA_get he i hi)
          rw [Array.getElem?_toList] at ho
          obtain ⟨g0, gp, gs⟩ := guardless_get hgl (i := i) (o := o) (by rw [Array.getElem?_toList]; exact ho)
          have hx : RepL' (operandsV ops.toList o s) G w (o.op.operands.toList.map a.eval) := by
            have : operandsV ops.toList o s = o.op.operands.toList.map (operandV ops.toList o.guard s) := by
              unfold operandsV
              split
              · rename_i c x y e
                exact absurd e (gp c x y)
              · rfl
            rw [this]
            exact hl.operands hr (fun j b e => by rw [g0] at e; cases e) (by rw [g0]; trivial) _
          unfold wpOp
          rw [ho]
          dsimp only
          rw [if_pos (by unfold Region.wanted; rw [g0])]
          left
          exact evOp_ok hX hl.inv hm hT gp hx hI _ _ fun G' w' u tr hv => evA_any hX hm hT hr hgl hP hQ n fuel _ _ _ _ _ (by simpa using hsz) (less fuel i h1 h2 hc) (hl.pushA hr hgl ho tr hv) (by rw [tl]; exact hK)
theorem evA_ok (hmix : P.follows .mixedOrders = true) (hX : XOk P T X) (hm : cx.m ≤ 32) (hT : TabC T cx) (of : OFit ops N) (hgl : guardless ops.toList = true) {K : VS → Prop} {Q : Exit → Act → World → Prop} (hQ : ∀ G s a w, LRel cx G ops N ops.size s a w → K s → Q .normal a w) (hl : s.loc = []) (h : LRel cx G ops N 0 s a w) {n : Nat} (he : evA P X T ops.toList n (ops.toList.map fun _ => false) s K) (id : Nat) : (Code.region id ops true).wp P Q a w := by
  refine Code.wp_mono (Q := fun e a w => match e with | .panic _ => False | e => Q e a w) (fun e a w hq => by cases e <;> first | exact hq | exact hq.elim) ?_
  refine wp_region_any hmix ?_
  obtain ⟨i1, i2⟩ := h.inv.drew
  have hd : LRel cx G ops N ops.size s a w.drew :=
    ⟨i1, fun t x g e => i2 _ _ (h.env t x g e), (fun t g v hlk => by rw [hl] at hlk; cases hlk), (fun i o hi ho b hy => by rw [(guardless_get hgl (i := i) (o := o) (by rw [Array.getElem?_toList]; exact ho)).1]; trivial), h.size, h.defers⟩
  have hnone : ofL (Array.replicate ops.size false) = fun _ => false := by
    funext j; unfold ofL
    by_cases h : j < ops.size <;> simp [Array.getD, h]
  have hlist : (Array.replicate ops.size false).toList = ops.toList.map fun _ => false := by
    rw [Array.toList_replicate, List.map_const', Array.length_toList]
  refine evA_any (Q := fun e a w => match e with | .panic _ => False | e => Q e a w) hX hm hT of.fit hgl (fun c a w h => h) (fun G s a w hr hk => hQ G s a w hr hk) n ops.size _ s G a w.drew Array.size_replicate ?_ hd (by rw [hlist]; exact he)
  rw [hnone, cntS_none]; exact Nat.le_refl _
end
end
section
section
variable [Wd] {P : Program}
def evN (P : Program) (X : Tbl) (T : Tabs) (ops : List Oper) : Nat → List Bool → VS → (VS → Prop) → Prop
  | 0, _, _, _ => False
  | n + 1, S, s, k => match rdyL ops S with
    | [] => k s
    | r => allA r fun i => stepA P X T ops i s fun s => evN P X T ops n (S.set i true) s k
def Bare (x : PV) : Prop := PV.allL PV.tok1 x = []
def KeepsB (f : Option (PV → PV)) : Prop := ∀ g, f = some g → ∀ y : PV, y.leaf = true → y.tok1 = [] → g y = y
mutual
theorem mapL_bare {g : PV → PV} (h : ∀ y : PV, y.leaf = true → y.tok1 = [] → g y = y) : ∀ {x : PV}, PV.allL PV.tok1 x = [] → x.mapL g = x
  | .agg l, h1 => by simp only [PV.mapL]; rw [mapLs_bare h h1]
  | .tup l, h1 => by simp only [PV.mapL]; rw [mapLs_bare h h1]
  | .fn q a b, h1 => by
    obtain ⟨p1, p2⟩ := append_nil2 h1
    simp only [PV.mapL]
    rw [mapLs_bare h p1, mapLs_bare h p2]
  | .undef, h1 => h _ rfl h1
  | .int k z, h1 => h _ rfl h1
  | .bool b, h1 => h _ rfl h1
  | .str l, h1 => h _ rfl h1
  | .raw u, h1 => h _ rfl h1
  | .arr n r, h1 => h _ rfl h1
  | .row nl r t, h1 => h _ rfl h1
  | .vec nl sz l t, h1 => h _ rfl h1
  | .ep r t i, h1 => h _ rfl h1
  | .epv sz l t i off, h1 => h _ rfl h1
  | .ptr n off, h1 => h _ rfl h1
  | .pix n off i, h1 => h _ rfl h1
  | .asl n off lo len, h1 => h _ rfl h1
  | .gp g off, h1 => h _ rfl h1
  | .gix g off i, h1 => h _ rfl h1
theorem mapLs_bare {g : PV → PV} (h : ∀ y : PV, y.leaf = true → y.tok1 = [] → g y = y) : ∀ {l : List PV}, PV.allLs PV.tok1 l = [] → PV.mapLs g l = l
  | [], _ => rfl
  | x :: l, h1 => by
    obtain ⟨p1, p2⟩ := append_nil2 h1
    simp only [PV.mapLs]
    rw [mapL_bare h p1, mapLs_bare h p2]
end
theorem tv_bare {f : Option (PV → PV)} (hf : KeepsB f) {x : PV} (hx : Bare x) : tv f x = x := by
  cases f with
  | none => rfl
  | some g => exact mapL_bare (hf g rfl) hx
structure EqL (s s' : VS) : Prop where
  env : s.env = s'.env
  lh : s.lh = s'.lh
  look : ∀ t, lookL t s.loc = lookL t s'.loc
theorem EqL.turn {s s' : VS} (h : EqL s s') (f : Option (PV → PV)) (l : List (Nat × PV)) : EqL (s.turn f l) (s'.turn f l) := by
  refine ⟨?_, by rw [turn_lh, turn_lh], fun t => by rw [lookL_turn, lookL_turn, h.look t]⟩
  cases f with
  | none => exact h.env
  | some f => show s.env.map _ = s'.env.map _; rw [h.env]
theorem EqL.push {s s' : VS} (h : EqL s s') (o : Oper) (v : PV) : EqL (pushL o v s) (pushL o v s') :=
  ⟨by rw [push_env.1, push_env.1, h.env], by rw [push_env.2, push_env.2, h.lh], fun t => by rw [lookL_push, lookL_push, h.look t]⟩
theorem operandV_eq {l : List Oper} {g : Option (Nat × Bool)} {s s' : VS} {x : Operand} (h : ∀ t, x = .tmp t → lookL t s.loc = lookL t s'.loc ∧ getN t s.env = getN t s'.env) : operandV l g s x = operandV l g s' x := by
  unfold operandV
  cases x with
  | tmp t => obtain ⟨h1, h2⟩ := h t rfl; dsimp only; rw [h1, h2]
  | _ => rfl
theorem operandsV_gl {l : List Oper} {o : Oper} {s : VS} (gp : ∀ c x y, o.op ≠ .pick c x y) : operandsV l o s = o.op.operands.toList.map (operandV l o.guard s) := by
  unfold operandsV
  split
  · rename_i c x y e
    exact absurd e (gp c x y)
  · rfl
theorem stepA_of {X : Tbl} {T : Tabs} {l : List Oper} {i : Nat} {s : VS} {K : VS → Prop} {o : Oper} {v : PV} {f : Option (PV → PV)} {lh' : List (Nat × PV)} (ho : l[i]? = some o) (h : (evOp P X T o (operandsV l o s) s.lh).Is v f s.lh lh') (hk : K (pushL o v (s.turn f lh'))) : stepA P X T l i s K := by
  unfold stepA
  rw [ho]
  dsimp only
  cases hr : evOp P X T o (operandsV l o s) s.lh with
  | val x => rw [hr] at h; obtain ⟨rfl, rfl, rfl⟩ := h; dsimp only; rw [forceV_eq]; exact hk
  | vneed p x => rw [hr] at h; obtain ⟨hp, rfl, rfl, rfl⟩ := h; dsimp only; rw [forceV_eq]; exact ⟨hp, hk⟩
  | ok x g l => rw [hr] at h; obtain ⟨rfl, rfl, rfl⟩ := h; dsimp only; rw [forceV_eq]; exact hk
  | need p x g l => rw [hr] at h; obtain ⟨hp, rfl, rfl, rfl⟩ := h; dsimp only; rw [forceV_eq]; exact ⟨hp, hk⟩
  | bad n => rw [hr] at h; exact h.elim
theorem allA_all : ∀ {l : List Nat} {F : Nat → Prop}, (∀ i ∈ l, F i) → allA l F
  | [], F, h => trivial
  | [j], F, h => h j (List.mem_cons_self ..)
  | j :: q :: l, F, h => ⟨h j (List.mem_cons_self ..), allA_all (l := q :: l) fun i hi => h i (List.mem_cons_of_mem _ hi)⟩
theorem evN_eq {X : Tbl} {T : Tabs} {l : List Oper} (hgl : guardless l = true) {K : VS → Prop} (hK : ∀ s s', EqL s s' → K s → K s') : ∀ (n : Nat) (S : List Bool) (s s' : VS), EqL s s' → evN P X T l n S s K → evN P X T l n S s' K
  | 0, _, _, _, _, h => h.elim
  | n + 1, S, s, s', he, h => by
    unfold evN at h ⊢
    cases hr : rdyL l S with
    | nil => rw [hr] at h; exact hK s s' he h
    | cons i r =>
      rw [hr] at h
      refine allA_all fun j hj => ?_
      obtain ⟨o, v, f, lh', ho, hI, hk⟩ := stepA_ok (allA_get h j hj)
      have gp := (guardless_get hgl ho).2.1
      have e1 : operandsV l o s = operandsV l o s' := by
        rw [operandsV_gl gp, operandsV_gl gp]
        exact List.map_congr_left fun x _ => operandV_eq fun t _ => ⟨he.look t, by rw [he.env]⟩
      rw [e1, he.lh] at hI
      exact stepA_of ho hI (evN_eq hgl hK n _ _ _ ((he.turn f lh').push o v) hk)
theorem rdy_mem {l : List Oper} {S : List Bool} {i : Nat} : i ∈ rdyL l S ↔ i < l.length ∧ S.getD i true = false ∧ ∃ o, l[i]? = some o ∧ o.after.toList.all (fun e => !Region.binds .any e || S.getD e.on false) = true := by
  unfold rdyL
  rw [List.mem_filter, List.mem_range, Bool.and_eq_true]
  constructor
  · rintro ⟨h1, h2, h3⟩
    refine ⟨h1, by simpa using h2, ?_⟩
    cases ho : l[i]? with
    | none => rw [ho] at h3; cases h3
    | some o => rw [ho] at h3; exact ⟨o, rfl, h3⟩
  · rintro ⟨h1, h2, o, ho, h3⟩
    exact ⟨h1, by rw [h2]; rfl, by rw [ho]; exact h3⟩
theorem rdy_mono {l : List Oper} {S : List Bool} {i j : Nat} (h : i ∈ rdyL l S) (hne : i ≠ j) : i ∈ rdyL l (S.set j true) := by
  obtain ⟨h1, h2, o, ho, h3⟩ := rdy_mem.1 h
  refine rdy_mem.2 ⟨h1, ?_, o, ho, List.all_eq_true.2 fun e he => ?_⟩
  · rw [List.getD_eq_getElem?_getD, List.getElem?_set_ne (Ne.symm hne), ← List.getD_eq_getElem?_getD]; exact h2
  · have := List.all_eq_true.1 h3 e he
    rw [Bool.or_eq_true] at this ⊢
    refine this.imp id fun h => ?_
    by_cases hj : j = e.on
    · subst hj
      have hlt : e.on < S.length := by
        apply Classical.byContradiction
        intro hn
        rw [List.getD_eq_getElem?_getD, List.getElem?_eq_none (by omega)] at h
        cases h
      rw [List.getD_eq_getElem?_getD, List.getElem?_set_self hlt]; rfl
    · rw [List.getD_eq_getElem?_getD, List.getElem?_set_ne hj, ← List.getD_eq_getElem?_getD]; exact h
theorem getD_set_false {S : List Bool} {j k : Nat} (h : (S.set j true).getD k true = false) : S.getD k true = false := by
  by_cases hj : j = k
  · subst hj
    rw [List.getD_eq_getElem?_getD] at h
    by_cases hlt : j < S.length
    · rw [List.getElem?_set_self hlt] at h; cases h
    · rw [List.getElem?_eq_none (by rw [List.length_set]; omega)] at h; cases h
  · rw [List.getD_eq_getElem?_getD, List.getElem?_set_ne hj, ← List.getD_eq_getElem?_getD] at h; exact h
theorem operandV_turn {l : List Oper} {g : Option (Nat × Bool)} {s : VS} {x : Operand} {f : Option (PV → PV)} {lh : List (Nat × PV)} (hf : KeepsB f) (hx : Bare (operandV l g s x)) : operandV l g (s.turn f lh) x = operandV l g s x := by
  unfold operandV at hx ⊢
  cases x with
  | tmp t =>
    dsimp only at hx ⊢
    rw [lookL_turn, getN_turn_env]
    cases h1 : lookL t s.loc with
    | none =>
      rw [h1] at hx
      dsimp only at hx ⊢
      cases h2 : getN t s.env with
      | none => rfl
      | some y => rw [h2] at hx; exact tv_bare hf hx
    | some p =>
      obtain ⟨h, y⟩ := p
      rw [h1] at hx
      dsimp only [Option.map] at hx ⊢
      cases h3 : guardIn l 9 g h with
      | true => rw [h3] at hx; exact tv_bare hf hx
      | false => rfl
  | _ => rfl
theorem looks_of {ops : Array Oper} {o : Oper} {t : Nat} (h : Operand.tmp t ∈ o.op.operands.toList) : t ∈ o.looksAt ops := by
  unfold Oper.looksAt
  exact List.mem_append_left _ (List.mem_filterMap.2 ⟨_, h, rfl⟩)
theorem evN_first {X : Tbl} {T : Tabs} {l : List Oper} (hgl : guardless l = true) {K : VS → Prop} (hK : ∀ s s', EqL s s' → K s → K s') (TK : ∀ (j : Nat) (o : Oper) (xs : List PV) (lh : List (Nat × PV)) (v : PV) (f : Option (PV → PV)) (lh' : List (Nat × PV)), l[j]? = some o → (evOp P X T o xs lh).Is v f lh lh' → KeepsB f) {i : Nat} {o : Oper} {r : OpS} {v : PV} (ho : l[i]? = some o) (hv : r = .val v ∨ ∃ p, p ∧ r = .vneed p v) (hb : Bare v) :
    ∀ (n : Nat) (S : List Bool) (s : VS), i ∈ rdyL l S → (∀ j oj, l[j]? = some oj → j ≠ i → S.getD j true = false → (∀ e ∈ oj.after, Region.binds .any e = true → e.on ≠ i) → o.apart l.toArray oj = true) →
      (∀ x ∈ o.op.operands.toList, Bare (operandV l o.guard s x)) → (∀ lh, evOp P X T o (operandsV l o s) lh = r) → evN P X T l n (S.set i true) (pushL o v s) K → evN P X T l (n + 1) S s K := by
  intro n
  induction n with
  | zero => intro S s _ _ _ _ hk; exact hk.elim
  | succ m ih =>
    intro S s hi hap hops hr hk
    unfold evN
    split
    · rename_i hnil; rw [hnil] at hi; cases hi
    refine allA_all fun j hj => ?_
    by_cases hji : j = i
    · subst hji
      refine stepA_of (v := v) (f := none) (lh' := s.lh) ho ?_ hk
      rw [hr]
      rcases hv with rfl | ⟨p, hp, rfl⟩
      · exact ⟨rfl, rfl, rfl⟩
      · exact ⟨hp, rfl, rfl, rfl⟩
    · unfold evN at hk
      split at hk
      · rename_i hnil
        have := rdy_mono hj hji
        rw [hnil] at this; cases this
      obtain ⟨oj, vj, f, lh', hoj, hI, hkj⟩ := stepA_ok (allA_get hk j (rdy_mono hj hji))
      have hf := TK _ _ _ _ _ _ _ hoj hI
      obtain ⟨j1, j2, oj', hoj', j3⟩ := rdy_mem.1 hj
      rw [hoj] at hoj'; injection hoj' with e; subst e
      have hi2 := (rdy_mem.1 hi).2.1
      have hnot : ∀ e ∈ oj.after, Region.binds .any e = true → e.on ≠ i := fun e he hb heq => by
        have := List.all_eq_true.1 j3 e (by simpa using he)
        rw [hb, heq] at this
        have h0 : S.getD i false = true := by simpa using this
        rw [List.getD_eq_getElem?_getD] at h0 hi2
        cases hS : S[i]? with
        | none => rw [hS] at h0; cases h0
        | some b => rw [hS] at h0 hi2; simp at h0 hi2; rw [h0] at hi2; cases hi2
      obtain ⟨a1, a2, a3⟩ := Oper.apart_spec (hap j oj hoj hji j2 hnot)
      have gpi := (guardless_get hgl ho).2.1
      have gpj := (guardless_get hgl hoj).2.1
      have e1 : operandsV l oj (pushL o v s) = operandsV l oj s := by
        rw [operandsV_gl gpj, operandsV_gl gpj]
        refine List.map_congr_left fun x hx => operandV_eq fun t ht => ⟨?_, by rw [push_env.1]⟩
        subst ht
        rw [lookL_push, if_neg fun hd => a1 t hd (looks_of hx)]
      rw [e1, push_env.2] at hI
      refine stepA_of hoj hI (ih _ _ (rdy_mono hi (Ne.symm hji)) (fun k ok hk hne hS haf => hap k ok hk hne (getD_set_false hS) haf) ?_ ?_ ?_)
      · intro x hx
        have : operandV l o.guard (pushL oj vj (s.turn f lh')) x = operandV l o.guard s x := by
          rw [← operandV_turn (lh := lh') hf (hops x hx)]
          refine operandV_eq fun t ht => ⟨?_, by rw [push_env.1]⟩
          subst ht
          rw [lookL_push, if_neg fun hd => a3 t hd (looks_of hx)]
        rw [this]; exact hops x hx
      · have : operandsV l o (pushL oj vj (s.turn f lh')) = operandsV l o s := by
          rw [operandsV_gl gpi, operandsV_gl gpi]
          refine List.map_congr_left fun x hx => ?_
          rw [← operandV_turn (lh := lh') hf (hops x hx)]
          refine operandV_eq fun t ht => ⟨?_, by rw [push_env.1]⟩
          subst ht
          rw [lookL_push, if_neg fun hd => a3 t hd (looks_of hx)]
        rw [this]; exact hr
      · rw [List.set_comm _ _ hji]
        refine evN_eq hgl hK _ _ _ _ ⟨?_, ?_, fun t => ?_⟩ hkj
        · rw [push_env.1, push_env.1, push_env.1]
          cases f with
          | none => exact push_env.1
          | some f => show (pushL o v s).env.map _ = s.env.map _; rw [push_env.1]
        · rw [push_env.2, push_env.2, push_env.2, turn_lh, turn_lh]
        · rw [lookL_push, lookL_push, lookL_push, lookL_turn, lookL_turn, lookL_push]
          by_cases hd : o.dst = some t
          · rw [if_pos hd, if_pos hd, if_neg fun h => a2 t hd h]
            show some (o.guard, tv f v) = _
            rw [tv_bare hf hb]
          · rw [if_neg hd, if_neg hd]
theorem kb_none : KeepsB none := fun g h => by cases h
theorem still0 (n : Nat) : stillF n 0 = some 0 := by unfold stillF; cases Nat.beq 0 n <;> rfl
theorem call0 (us : List Nat) : callF us 0 = some 0 := by unfold callF; cases memN 0 us <;> rfl
theorem mark1_bare {g : Nat → Option Nat} (h : g 0 = some 0) {y : PV} (ht : y.tok1 = []) : y.mark1 g = y := by
  cases y with
  | row nl r t => cases t with | zero => simp only [PV.mark1, h] | succ t => cases ht
  | vec nl sz l t => cases t with | zero => simp only [PV.mark1, h] | succ t => cases ht
  | ep r t i => cases t with | zero => simp only [PV.mark1, h] | succ t => cases ht
  | epv sz l t i off => cases t with | zero => simp only [PV.mark1, h] | succ t => cases ht
  | _ => rfl
theorem kb_mark {g : Nat → Option Nat} (h : g 0 = some 0) : KeepsB (some (PV.mark1 g)) := fun f e y _ ht => by
  injection e with e; subst e; exact mark1_bare h ht
theorem kb_two {g g' : Nat → Option Nat} (h : g 0 = some 0) (h' : g' 0 = some 0) : KeepsB (some fun y => (y.mark1 g).mark1 g') := fun f e y _ ht => by
  injection e with e; subst e
  show (y.mark1 g).mark1 g' = y
  rw [mark1_bare h ht, mark1_bare h' ht]
theorem kb_laid (u : Nat) (z : Int) (x : PV) : KeepsB (some (laidV (u + 1) z x)) := fun f e y _ ht => by
  injection e with e; subst e
  cases y with
  | row nl r t => cases t with | zero => rfl | succ t => cases ht
  | vec nl sz l t => cases t with | zero => rfl | succ t => cases ht
  | ep r t i => cases t with | zero => rfl | succ t => cases ht
  | epv sz l t i off => cases t with | zero => rfl | succ t => cases ht
  | _ => rfl
theorem kb_go {nl new : Bool} {tk t' : Nat} {d : Option Tmp} (h : goOn nl tk d = some (t', new)) : KeepsB (some (goF new t')) := by
  obtain ⟨ht, -⟩ := goOn_ok h
  rw [goF_eq]
  exact kb_mark (goM_ok (new := new) ht).1.1
theorem kb_at {r : OpR} {v : PV} {f : Option (PV → PV)} {lh lh' : List (Nat × PV)} (h : r.at.Is v f lh lh') : KeepsB f := by
  obtain ⟨-, rfl, -⟩ := OpR.at_is h; exact kb_none
macro "kb_fin" : tactic => `(tactic| first | exact kb_none | exact kb_mark (still0 _) | exact kb_mark (call0 _) | exact kb_mark rfl | exact kb_two rfl (still0 _) | exact kb_two (call0 _) (still0 _) | exact kb_two (call0 _) rfl | exact kb_laid _ _ _ | exact kb_go ‹_›)
macro "kb_leaf" h:ident : tactic => `(tactic| first | exact False.elim $h | (rw [← ($h).2.1]; kb_fin) | (rw [← ($h).2.2.1]; kb_fin) | (rw [($h).2.1]; kb_fin) | (rw [($h).2.2.1]; kb_fin) | exact kb_at $h)
section
variable {X : Tbl} {T : Tabs} {v : PV} {f : Option (PV → PV)} {lh lh' : List (Nat × PV)}
theorem kb_build {t : TypeId} {n : Nat} {ps : List Nat} {xs : List PV} {d : Option Tmp} (h : (buildSliceS P X t n ps xs d lh).Is v f lh lh') : KeepsB f := by
  unfold buildSliceS at h
  repeat' split at h
  all_goals kb_leaf h
theorem kb_store {t : TypeId} {a x : PV} (h : (storeS P t a x lh).Is v f lh lh') : KeepsB f := by
  unfold storeS at h
  repeat' split at h
  all_goals kb_leaf h
theorem kb_conv {s d : TypeId} {x : PV} {t : Option Tmp} (h : (convS P s d x t lh).Is v f lh lh') : KeepsB f := by
  unfold convS convS0 at h
  repeat' split at h
  all_goals kb_leaf h
theorem kb_make {t : TypeId} {n c : PV} {d : Option Tmp} (h : (makeSliceS P t n c d lh).Is v f lh lh') : KeepsB f := by
  unfold makeSliceS at h
  dsimp only at h
  repeat' split at h
  all_goals kb_leaf h
theorem kb_append {t tx : TypeId} {x y : PV} {d : Option Tmp} (h : (appendS P t tx x y d lh).Is v f lh lh') : KeepsB f := by
  unfold appendS at h
  repeat' split at h
  all_goals kb_leaf h
theorem kb_call {g : FuncId} {xs : List PV} (h : (callS X g xs lh).Is v f lh lh') : KeepsB f := by
  have h0 : ∀ {o : OpS}, handC X g xs lh = some o → o.Is v f lh lh' → KeepsB f := fun {o} e h => by
    unfold handC at e
    repeat' split at e
    all_goals first | (cases e; done) | skip
    rename_i hc _
    injection e with e; subst e
    obtain ⟨-, -, rfl, -⟩ := h
    refine kb_mark ?_
    unfold handF
    rw [Bool.and_eq_true] at hc
    cases hm : memN 0 _ with
    | true => rw [hm] at hc; exact absurd hc.2 (by decide)
    | false => rfl
  unfold callS at h
  split at h
  · exact h0 (by assumption) h
  · unfold callS0 lendS lendC at h
    repeat' split at h
    all_goals kb_leaf h
end
theorem evOp_keeps {X : Tbl} {T : Tabs} {o : Oper} (hb1 : ∀ e, o.op ≠ .alloc e) (hb2 : ∀ e x, o.op ≠ .box e x) {xs : List PV} {lh : List (Nat × PV)} {v : PV} {f : Option (PV → PV)} {lh' : List (Nat × PV)} (h : (evOp P X T o xs lh).Is v f lh lh') : KeepsB f := by
  have main : (evOp0 P X T o xs lh).Is v f lh lh' → KeepsB f := fun h => by
    unfold evOp0 at h
    repeat' split at h
    all_goals first | exact absurd ‹_› (hb1 _) | exact absurd ‹_› (hb2 _ _) | exact kb_store h | exact kb_conv h | exact kb_make h | exact kb_append h | exact kb_call h | exact kb_build h | kb_leaf h
  unfold evOp calm at h
  split at h
  · split at h
    · exact h.1.elim
    · exact h.elim
  · exact main h
theorem bareB_ok {x : PV} (h : bareB x = true) : Bare x := by
  unfold bareB at h
  exact List.isEmpty_iff.1 h
theorem noBox_get {l : List Oper} (h : noBox l = true) {j : Nat} {o : Oper} (ho : l[j]? = some o) : (∀ e, o.op ≠ .alloc e) ∧ ∀ e x, o.op ≠ .box e x := by
  have := List.all_eq_true.1 h o (List.mem_of_getElem? ho)
  refine ⟨fun e h => ?_, fun e x h => ?_⟩
  · rw [h] at this; cases this
  · rw [h] at this; cases this
theorem evOp_free {X : Tbl} {T : Tabs} {o : Oper} (hg : o.guard = none) {xs : List PV} {v : PV} (hk : eagK P X o.op xs = true) (h : evOp P X T o xs [] = .val v ∨ ∃ p, evOp P X T o xs [] = .vneed p v) (lh : List (Nat × PV)) : evOp P X T o xs lh = evOp P X T o xs [] := by
  obtain ⟨dst, op, type, pos, after, guard⟩ := o
  obtain rfl : guard = none := hg
  unfold evOp at h ⊢
  congr 1
  have hc : ∀ r : OpS, (calm none r = .val v ∨ ∃ p, calm none r = .vneed p v) → (r = .val v ∨ ∃ p, r = .vneed p v) := fun r h => by
    cases r <;> exact h
  replace h := hc _ h
  cases op with
  | load t a =>
    unfold eagK at hk
    dsimp only at hk
    unfold evOp0 loadR
    dsimp only
    split at hk
    · rename_i e; rw [e]; cases hasT P t <;> rfl
    · rename_i e; rw [e]; cases hasT P t <;> rfl
    · cases hk
  | buildSlice t n ps =>
    unfold eagK at hk
    dsimp only at hk
    split at hk
    · rename_i e
      unfold evOp0 buildSliceS
      dsimp only
      rw [e]
    · cases hk
  | convert a b x =>
    have key : ∀ (y : PV) (d : Option Tmp), (convS P a b y d [] = .val v ∨ ∃ p, convS P a b y d [] = .vneed p v) → convS P a b y d lh = convS P a b y d [] := fun y d h => by
      have k0 : (convS0 P a b y d [] = .val v ∨ ∃ p, convS0 P a b y d [] = .vneed p v) → convS0 P a b y d lh = convS0 P a b y d [] := fun h => by
        unfold convS0 at h ⊢
        generalize convR P a b y = r at h ⊢
        generalize nameOf d = n at h ⊢
        split at h
        · rcases h with h | ⟨p, h⟩ <;> cases h
        · rfl
      unfold convS at h ⊢
      generalize Nat.beq a b = q at h ⊢
      generalize P.underlying a = z at h ⊢
      cases q with
      | false => exact k0 h
      | true =>
        dsimp only at h ⊢
        split at h
        · split at h
          · rcases h with h | ⟨p, h⟩ <;> cases h
          · rfl
        · exact k0 h
    exact key _ _ h
  | call c =>
    obtain ⟨callee, args, argTypes⟩ := c
    cases callee with
    | value c =>
      unfold eagK at hk
      dsimp only at hk
      split at hk
      · rename_i f a b ys
        rw [Bool.and_eq_true] at hk
        have h1 := List.isEmpty_iff.1 hk.1
        have h2 := List.isEmpty_iff.1 hk.2
        unfold evOp0 at h ⊢
        dsimp only at h ⊢
        unfold callS handC callS0 at h ⊢
        rw [h1, h2] at h ⊢
        dsimp only [addNew] at h ⊢
        generalize X f (PV.mapLs (PV.mark1 bareF) (a ++ typeds P argTypes.toList ys ++ b)) = q at h ⊢
        cases q with
        | none => rfl
        | some c =>
          dsimp only at h ⊢
          split at h
          all_goals first | rfl | (rcases h with h | ⟨p, h⟩ <;> cases h)
      · cases hk
    | _ => cases hk
  | _ => first | rfl | cases hk
theorem evB_evN {X : Tbl} {T : Tabs} {l : List Oper} (hgl : guardless l = true) (hnb : noBox l = true) {K : VS → Prop} (hK : ∀ s s', EqL s s' → K s → K s') : ∀ (n : Nat) (S : List Bool) (s : VS), evB P X T l n S s K → evN P X T l n S s K
  | 0, _, _, h => h.elim
  | n + 1, S, s, h => by
    unfold evB at h
    cases hr : rdyL l S with
    | nil => rw [hr] at h; unfold evN; rw [hr]; exact h
    | cons i0 r0 =>
      rw [hr] at h
      dsimp only at h
      split at h
      · rename_i i hf
        have hi := List.mem_of_find?_eq_some hf
        have hb := List.find?_some hf
        rw [← hr] at hi
        obtain ⟨o, v, f, lh', ho, hI, hk⟩ := stepA_ok h
        unfold eagB at hb
        rw [ho] at hb
        dsimp only at hb
        rw [Bool.and_eq_true, Bool.and_eq_true, Bool.and_eq_true] at hb
        obtain ⟨⟨⟨b1, b2⟩, b3⟩, b4⟩ := hb
        have hg := (guardless_get hgl ho).1
        have h0 : ∃ v0, Bare v0 ∧ (evOp P X T o (operandsV l o s) [] = .val v0 ∨ ∃ p, evOp P X T o (operandsV l o s) [] = .vneed p v0) := by
          split at b4
          · rename_i v0 e; exact ⟨v0, bareB_ok b4, .inl e⟩
          · rename_i p v0 e; exact ⟨v0, bareB_ok b4, .inr ⟨p, e⟩⟩
          · cases b4
        obtain ⟨v0, hbv, h1⟩ := h0
        have hfree := fun lh => evOp_free (lh := lh) hg b3 h1
        rw [hfree] at hI
        have hv : v = v0 ∧ f = none ∧ lh' = s.lh ∧ (evOp P X T o (operandsV l o s) [] = .val v ∨ ∃ p, p ∧ evOp P X T o (operandsV l o s) [] = .vneed p v) := by
          rcases h1 with e | ⟨p, e⟩
          · rw [e] at hI; obtain ⟨rfl, h2, h3⟩ := hI; exact ⟨rfl, h2, h3, .inl e⟩
          · rw [e] at hI; obtain ⟨hp, rfl, h2, h3⟩ := hI; exact ⟨rfl, h2, h3, .inr ⟨p, hp, e⟩⟩
        obtain ⟨rfl, rfl, rfl, h2⟩ := hv
        refine evN_first hgl hK (fun j o xs lh v f lh' hj h => evOp_keeps (noBox_get hnb hj).1 (noBox_get hnb hj).2 h) ho h2 hbv n S s hi (fun j oj hj hne hS haf => ?_) (fun x hx => bareB_ok (List.all_eq_true.1 b2 x hx)) hfree (evB_evN hgl hnb hK n _ _ hk)
        have := List.all_eq_true.1 b1 j (List.mem_range.2 (List.getElem?_eq_some_iff.1 hj).1)
        have e0 : Nat.beq j i = false := by cases e : Nat.beq j i with | false => rfl | true => exact absurd (Nat.eq_of_beq_eq_true e) hne
        rw [e0, hS, hj, Bool.false_or, Bool.false_or] at this
        dsimp only at this
        rw [Bool.or_eq_true] at this
        rcases this with this | this
        · obtain ⟨e, he, h3⟩ := List.any_eq_true.1 this
          rw [Bool.and_eq_true] at h3
          exact absurd (Nat.eq_of_beq_eq_true h3.2) (haf e (by simpa using he) h3.1)
        · exact this
      · unfold evN
        rw [hr]
        refine allA_all fun j hj => ?_
        obtain ⟨o, v, f, lh', ho, hI, hk⟩ := stepA_ok (allA_get h j hj)
        exact stepA_of ho hI (evB_evN hgl hnb hK n _ _ hk)
theorem evN_any {cx : Cx} {ops : Array Oper} {N : Nat} {X : Tbl} {T : Tabs} (hX : XOk P T X) (hm : cx.m ≤ 32) (hT : TabC T cx) (hr : RegFit ops N) (hgl : guardless ops.toList = true) {K : VS → Prop} {Q : Exit → Act → World → Prop} (hQ : ∀ G s a w, LRel cx G ops N ops.size s a w → K s → Q .normal a w) :
    ∀ (n fuel : Nat) (listed : Array Bool) (s : VS) (G : Gh) (a : Act) (w : World), listed.size = ops.size → cntS (ofL listed) ops.size ≤ fuel → LRel cx G ops N ops.size s a w → evN P X T ops.toList n listed.toList s K → wpAny P .any ops Q fuel listed a w
  | 0, _, _, _, _, _, _, _, _, _, he => he.elim
  | n + 1, fuel, listed, s, G, a, w, hsz, hc, hl, he => by
    unfold evN at he
    rw [rdy_is] at he
    have one : ∀ i ∈ Region.ready .any ops listed, i < ops.size ∧ ofL listed i = false ∧ ∃ o, ops[i]? = some o := fun i hi => by
      obtain ⟨h1, h2, o, h3, -⟩ := rdy_of hsz hi
      exact ⟨by omega, h2, o, h3⟩
    have less : ∀ f i, i < ops.size → ofL listed i = false → cntS (ofL listed) ops.size ≤ f + 1 → cntS (ofL (listed.setIfInBounds i true)) ops.size ≤ f := fun f i hi hno hf => by
      rw [ofL_set (by omega)]
      have := cntS_add hno ops.size
      rw [if_pos hi] at this
      omega
    have tl : ∀ i, (listed.setIfInBounds i true).toList = listed.toList.set i true := fun i => by simp
    split at he
    · rename_i hnil
      cases fuel with
      | zero => exact ⟨hnil, hQ G s a w hl he⟩
      | succ fuel => exact ⟨fun _ => hQ G s a w hl he, fun i hi => by rw [hnil] at hi; cases hi⟩
    · rename_i hne
      cases fuel with
      | zero =>
        exfalso
        cases hrd : Region.ready .any ops listed with
        | nil => exact hne hrd
        | cons i rs =>
          obtain ⟨h1, h2, -⟩ := one i (by rw [hrd]; exact List.mem_cons_self ..)
          have := cntS_zero (show cntS (ofL listed) ops.size = 0 by omega) i h1
          rw [h2] at this; cases this
      | succ fuel =>
        refine ⟨fun hnil => absurd hnil hne, fun i hi => ?_⟩
        obtain ⟨h1, h2, -⟩ := one i hi
        obtain ⟨o, v, f, lh', ho, hI, hK⟩ := stepA_ok (allA_get he i hi)
        rw [Array.getElem?_toList] at ho
        obtain ⟨g0, gp, gs⟩ := guardless_get hgl (i := i) (o := o) (by rw [Array.getElem?_toList]; exact ho)
        have hx : RepL' (operandsV ops.toList o s) G w (o.op.operands.toList.map a.eval) := by
          rw [operandsV_gl gp]
          exact hl.operands hr (fun j b e => by rw [g0] at e; cases e) (by rw [g0]; trivial) _
        unfold wpOp
        rw [ho]
        dsimp only
        rw [if_pos (by unfold Region.wanted; rw [g0])]
        left
        exact evOp_ok hX hl.inv hm hT gp hx hI _ _ fun G' w' u tr hv => evN_any hX hm hT hr hgl hQ n fuel _ _ _ _ _ (by simpa using hsz) (less fuel i h1 h2 hc) (hl.pushA hr hgl ho tr hv) (by rw [tl]; exact hK)
theorem evB_ok {cx : Cx} {G : Gh} {w : World} {ops : Array Oper} {N : Nat} {s : VS} {a : Act} {X : Tbl} {T : Tabs} (hmix : P.follows .mixedOrders = true) (hX : XOk P T X) (hm : cx.m ≤ 32) (hT : TabC T cx) (of : OFit ops N) (hgl : guardless ops.toList = true) (hnb : noBox ops.toList = true) {K : VS → Prop} (hK : ∀ s s', EqL s s' → K s → K s') {Q : Exit → Act → World → Prop} (hQ : ∀ G s a w, LRel cx G ops N ops.size s a w → K s → Q .normal a w) (hl : s.loc = []) (h : LRel cx G ops N 0 s a w) {n : Nat} (he : evB P X T ops.toList n (ops.toList.map fun _ => false) s K) (id : Nat) : (Code.region id ops true).wp P Q a w := by
  refine wp_region_any hmix ?_
  obtain ⟨i1, i2⟩ := h.inv.drew
  have hd : LRel cx G ops N ops.size s a w.drew :=
    ⟨i1, fun t x g e => i2 _ _ (h.env t x g e), (fun t g v hlk => by rw [hl] at hlk; cases hlk), (fun i o hi ho b hy => by rw [(guardless_get hgl (i := i) (o := o) (by rw [Array.getElem?_toList]; exact ho)).1]; trivial), h.size, h.defers⟩
  have hnone : ofL (Array.replicate ops.size false) = fun _ => false := by
    funext j; unfold ofL
    by_cases h : j < ops.size <;> simp [Array.getD, h]
  have hlist : (Array.replicate ops.size false).toList = ops.toList.map fun _ => false := by
    rw [Array.toList_replicate, List.map_const', Array.length_toList]
  refine evN_any hX hm hT of.fit hgl hQ n ops.size _ s G a w.drew Array.size_replicate ?_ hd (by rw [hlist]; exact evB_evN hgl hnb hK n _ _ he)
  rw [hnone, cntS_none]; exact Nat.le_refl _
theorem keepL_eq {s s' : VS} (h : EqL s s') : keepL s = keepL s' := by
  unfold keepL
  rw [h.env, h.lh]
  congr 1
  exact List.map_congr_left fun e _ => by rw [h.look]
variable {cx : Cx} {G : Gh} {w : World} {ops : Array Oper} {N : Nat} {s : VS} {a : Act} {X : Tbl} {T : Tabs}
theorem noOwn_ok [Wd] {T : Tabs} {X : Tbl} (h : XOk P T X) : XOk P T (noOwn X) := fun f xs c hc => by
  unfold noOwn at hc
  cases hb : Nat.beq f ownK with
  | true => rw [hb] at hc; cases hc
  | false => rw [hb] at hc; exact h f xs c hc
theorem evG_ok (hmix : P.follows .mixedOrders = true) (hX : XOk P T X) (hm : cx.m ≤ 32) (hT : TabC T cx) (of : OFit ops N) {K : VS → Prop} (hK : ∀ s s', EqL s s' → K s → K s') {Q : Exit → Act → World → Prop} (hQ : ∀ G s a w, LRel cx G ops N ops.size s a w → K s → Q .normal a w) (hl : s.loc = []) (h : LRel cx G ops N 0 s a w) (he : evG P X T ops.toList (befores ops.toList) s K) (id : Nat) : (Code.region id ops true).wp P Q a w := by
  unfold evG at he
  split at he
  · rename_i hn
    unfold needA at hn
    rw [Bool.and_eq_true] at hn
    split at he
    · exact evA_ok hmix (noOwn_ok hX) hm hT of hn.1 hQ hl h he id
    · split at he
      · rename_i hnb
        exact evB_ok hmix (noOwn_ok hX) hm hT of hn.1 hnb hK hQ hl h he id
      · exact evA_ok hmix (noOwn_ok hX) hm hT of hn.1 hQ hl h he id
  · split at he
    · exact evE_ok hmix (noOwn_ok hX) hm hT of hQ hl h he id
    · exact evD_ok hmix (noOwn_ok hX) hm hT of hQ hl h he id
end
end
section
variable [Wd] {P : Program} {cx : Cx} {G : Gh} {w : World}
structure CRel (cx : Cx) (G : Gh) (N : Nat) (s : VS) (a : Act) (w : World) : Prop where
  inv : Inv cx G s.lh w
  env : ∀ t x, getN t s.env = some x → Rep x G w (a.tmps.getD t undef)
  loc : s.loc = []
  size : N ≤ a.tmps.size
  defers : a.defers = []
def exOf : Ex → Exit
  | .normal => .normal
  | .exit id => .exit id
  | .goto l => .goto l
  | .ret => .ret
def Wp (P : Program) (items : List Item) (Q : Exit → Act → World → Prop) (a : Act) (w : World) : Prop :=
  ∀ (b : Frame) (k : List Item) (cs : List Frame), ∃ e a' w', Q e a' w' ∧ Arrives P (lone (b.at a (items ++ k)) cs w) b k cs e a' w'
theorem Wp.step {items items' : List Item} {Q : Exit → Act → World → Prop} {a : Act} {w : World} (hs : ∀ (b : Frame) (k : List Item) (cs : List Frame), Go.step P (lone (b.at a (items ++ k)) cs w) = .next (lone (b.at a (items' ++ k)) cs w)) (h : Wp P items' Q a w) : Wp P items Q a w := by
  intro b k cs
  obtain ⟨e, a', w', hq, har⟩ := h b k cs
  exact ⟨e, a', w', hq, .of_steps (.one (hs b k cs)) har⟩
theorem Wp.then {c : Code} {x : Item} (hx : x.plain = true) {Q : Exit → Act → World → Prop} {a : Act} {w : World} (h : c.wp P (fun e a' w' => match e with | .normal => Wp P [x] Q a' w' | e => Q e a' w') a w) : Wp P [.code c, x] Q a w := by
  intro b k cs
  obtain ⟨e, a1, w1, hq, har⟩ := h b (x :: k) cs
  cases e with
  | normal =>
    obtain ⟨e2, a2, w2, hq2, har2⟩ := hq b k cs
    exact ⟨e2, a2, w2, hq2, .of_steps har har2⟩
  | exit id => exact ⟨_, a1, w1, hq, .pass (x := x) hx (fun _ _ => .inl (by simp)) har⟩
  | goto l => exact ⟨_, a1, w1, hq, .pass (x := x) hx (fun _ _ => .inl (by simp)) har⟩
  | ret => exact ⟨_, a1, w1, hq, .pass (x := x) hx (fun _ _ => .inl (by simp)) har⟩
  | panic ch => exact ⟨_, a1, w1, hq, .pass (x := x) hx (fun _ _ => .inl (by simp)) har⟩
  | outgrown => exact ⟨_, a1, w1, hq, .pass (x := x) hx (fun _ _ => .inl (by simp)) har⟩
theorem Wp.scope {c c0 : Code} {Q : Exit → Act → World → Prop} {a : Act} {w : World} (h : c0.wp P (fun e a' w' => match e with
      | .goto l => (∃ rest, findLabel c l = some rest ∧ Wp P [.code rest, .inScope c] Q a' w') ∨ (findLabel c l = none ∧ Q (.goto l) a' w')
      | e => Q e a' w') a w) : Wp P [.code c0, .inScope c] Q a w := by
  intro b k cs
  obtain ⟨e, a1, w1, hq, har⟩ := h b (.inScope c :: k) cs
  cases e with
  | normal => exact ⟨.normal, a1, w1, hq, Steps.trans har (.one step_inScope)⟩
  | exit id => exact ⟨.exit id, a1, w1, hq, fun k' hk => har k' (by simp [exitTo, hk])⟩
  | goto l =>
    rcases hq with ⟨rest, hf, h2⟩ | ⟨hf, hq⟩
    · obtain ⟨e2, a2, w2, hq2, har2⟩ := h2 b k cs
      exact ⟨e2, a2, w2, hq2, .of_steps (har _ (by simp [gotoIn, hf])) har2⟩
    · exact ⟨.goto l, a1, w1, hq, fun k' hk => har k' (by simp [gotoIn, hf, hk])⟩
  | ret => exact ⟨_, a1, w1, hq, har⟩
  | panic ch => exact ⟨_, a1, w1, hq, har⟩
  | outgrown => exact ⟨_, a1, w1, hq, har⟩
theorem getN_keep (t : Nat) (s : VS) : getN t (keepL s).env = (getN t s.env).map fun x => match lookL t s.loc with | some (none, v) => v | some (some _, _) => .undef | none => x := by
  unfold keepL
  dsimp only
  induction s.env with
  | nil => rfl
  | cons e l ih =>
    show (bif Nat.beq e.1 t then some _ else getN t (l.map _)) = (bif Nat.beq e.1 t then some e.2 else getN t l).map _
    cases hb : Nat.beq e.1 t with
    | true =>
      have := Nat.eq_of_beq_eq_true hb
      subst this
      rfl
    | false => exact ih
theorem CRel.begin {N : Nat} {s : VS} {a : Act} (h : CRel cx G N s a w) (ops : Array Oper) : LRel cx G ops N 0 s a w :=
  ⟨h.inv, fun t x _ hx => h.env t x hx, (fun t g v hl => by rw [h.loc] at hl; cases hl), (fun i o hi => by omega), h.size, h.defers⟩
theorem LRel.finish {N k : Nat} {ops : Array Oper} {s : VS} {a : Act} (h : LRel cx G ops N k s a w) : CRel cx G N (keepL s) a w := by
  refine ⟨h.inv, fun t x hx => ?_, rfl, h.size, h.defers⟩
  rw [getN_keep, Option.map_eq_some_iff] at hx
  obtain ⟨y, hy, e⟩ := hx
  cases hl : lookL t s.loc with
  | none =>
    rw [hl] at e
    rw [← show y = x from e]
    exact h.env t y hl hy
  | some p =>
    obtain ⟨g, v⟩ := p
    rw [hl] at e
    cases g with
    | none =>
      rw [← show v = x from e]
      exact (h.loc t none v hl).1 trivial
    | some q =>
      rw [← show PV.undef = x from e]
      trivial
theorem cond_val {N : Nat} {s : VS} {a : Act} (h : CRel cx G N s a w) {c : Operand} {t : Bool} (hc : operandV [] none s c = .bool t) : a.eval c = .bool t := by
  cases c with
  | tmp i =>
    unfold operandV at hc
    dsimp only at hc
    rw [h.loc] at hc
    replace hc : (getN i s.env).getD .undef = .bool t := hc
    cases he : getN i s.env with
    | none => rw [he] at hc; cases hc
    | some x =>
      rw [he] at hc
      have : x = .bool t := hc
      subst this
      exact h.env i _ he
  | const v =>
    replace hc : ofValue v = .bool t := hc
    unfold ofValue at hc
    split at hc <;> first | (cases hc; done) | (injection hc with hc; subst hc; rfl)
  | global g => cases hc
  | func f => cases hc
theorem CRel.put {N : Nat} {a : Act} {s : VS} (h : CRel cx G N s a w) (n : Nat) (y : PV) (hy : ∀ x, getN n s.env = some x → ∀ v, Rep x G w v → Rep y G w v) : CRel cx G N (s.put n y) a w := by
  refine ⟨h.inv, fun t x hx => ?_, h.loc, h.size, h.defers⟩
  replace hx : getN t (setN n y s.env) = some x := hx
  rw [getN_set] at hx
  split at hx
  · rename_i e
    rw [Option.map_eq_some_iff] at hx
    obtain ⟨z, hz, e2⟩ := hx
    subst e2
    subst e
    exact hy z hz _ (h.env _ z hz)
  · exact h.env t x hx
theorem nilM_rep {m : Nat} {x : PV} {v : Value} {G : Gh} {w : World} (h : Rep x G w v) : Rep (nilM m x) G w v := by
  unfold nilM
  split
  · split
    · rcases h with ⟨i1, a, i2, i3, i4⟩ | ⟨h1, -⟩
      · cases a with
        | none => exact .inl ⟨i1, none, i2, rfl, .inl rfl⟩
        | some a => cases i3
      · cases h1
    · trivial
  · trivial
theorem CRel.drop {N : Nat} {a : Act} : ∀ {s : VS} (h : CRel cx G N s a w) (ns : List Nat), CRel cx G N (s.drop ns) a w
  | s, h, [] => h
  | s, h, n :: ns => by
    unfold VS.drop
    split
    · refine CRel.drop (h.put _ _ fun x hx v hv => ?_) ns
      rw [hx]
      exact nilM_rep hv
    · exact CRel.drop (h.put n .undef fun x _ v _ => trivial) ns
theorem CRel.still {N : Nat} {s : VS} {a : Act} (h : CRel cx G N s a w) (us : List Nat) : ∃ G', CRel cx G' N (stillS us s) a w := by
  cases us with
  | nil => exact ⟨G, h⟩
  | cons u us =>
    obtain ⟨s1, s2⟩ := h.inv.turn (w' := w) (callF_ok (u :: us)) none rfl rfl rfl (Nat.le_refl _) (fun _ _ _ => rfl) (fun t b e => by cases e)
    refine ⟨G.turn w (callF (u :: us)) none, ⟨?_, fun t x hx => ?_, ?_, h.size, h.defers⟩⟩
    · show Inv cx _ (s.turn (some (PV.mark1 (callF (u :: us)))) (turnB (PV.mark1 (callF (u :: us))) s.lh)).lh w
      rw [turn_lh]; exact s1
    · replace hx : getN t (s.turn (some (PV.mark1 (callF (u :: us)))) (turnB (PV.mark1 (callF (u :: us))) s.lh)).env = some x := hx
      rw [getN_turn_env, Option.map_eq_some_iff] at hx
      obtain ⟨y, hy, rfl⟩ := hx
      exact s2 _ _ (h.env t y hy)
    · show s.loc.map _ = []
      rw [h.loc]; rfl
theorem evC_ok {T : Tabs} {X : Tbl} {H : Loops} {N : Nat} (hmix : P.follows .mixedOrders = true) (hX : XOk P T X) (hm : cx.m ≤ 32) (hT : TabC T cx) : ∀ fuel : Nat,
    (∀ (c : Code) (s : VS) (k : Kont) (G : Gh) (a : Act) (w : World) (Q : Exit → Act → World → Prop), CRel cx G N s a w → evC P X T H N fuel none c s k → (∀ e G s a w, CRel cx G N s a w → k e s → Q (exOf e) a w) → c.wp P Q a w) ∧
    (∀ (c0 : Code) (C : Nat → Option (VS → Prop)) (c : Code) (s : VS) (k : Kont) (G : Gh) (a : Act) (w : World) (Q : Exit → Act → World → Prop), CRel cx G N s a w → evC P X T H N fuel (some (c0, C)) c s k → (∀ e G s a w, CRel cx G N s a w → k e s → Q (exOf e) a w) →
      (∀ l J, C l = some J → ∀ G s a w, CRel cx G N s a w → J s → ∃ rest, findLabel c0 l = some rest ∧ Wp P [.code rest, .inScope c0] Q a w) → Wp P [.code c, .inScope c0] Q a w)
  | 0 => ⟨fun c s k G a w Q _ he _ => he.elim, fun c0 C c s k G a w Q _ he _ _ => he.elim⟩
  | fuel + 1 => by
    obtain ⟨ihA, ihB⟩ := evC_ok hmix hX hm hT fuel
    refine ⟨fun c s k G a w Q hr he hQ => ?_, fun c0 C c s k G a w Q hr he hQ hC => ?_⟩
    · cases c with
      | skip => exact wp_skip (hQ .normal G s a w hr he)
      | region id ops draw =>
        replace he : (match (generalizing := false) draw, regOk N ops.toList with
          | false, true => evOps P X T ops.toList ops.toList s fun s => forceE (keepL s).env fun env => forceE s.lh fun lh => k .normal ⟨[], env, lh⟩
          | true, true => match openOk ops.toList (befores ops.toList) with
            | true => match H (2000000 + id) with
              | some h => (evG P X T ops.toList (befores ops.toList) (stillS (callMarks ops.toList s) s) fun s' => forceE (keepL s').env fun env => forceE s'.lh fun lh => h.cut s ⟨[], env, lh⟩) ∧ ∀ x, h.inv s x → k .normal (h.at_ s x)
              | none => evG P X T ops.toList (befores ops.toList) (stillS (callMarks ops.toList s) s) fun s => forceE (keepL s).env fun env => forceE s.lh fun lh => k .normal ⟨[], env, lh⟩
            | false => False
          | _, _ => False) := he
        split at he
        · rename_i hreg
          refine wp_region_list ?_
          exact evOps_ok (K := fun s => forceE (keepL s).env fun env => forceE s.lh fun lh => k .normal ⟨[], env, lh⟩) hX hm hT (regFit hreg) (fun G s a w hl hk => hQ .normal G _ a w hl.finish (by rw [forceE_eq, forceE_eq] at hk; exact hk)) ops.toList 0 s a w G (by simp) (Nat.zero_le _) (hr.begin ops) he
        · rename_i hreg
          split at he
          · rename_i hop
            obtain ⟨G', hr'⟩ := hr.still (callMarks ops.toList s)
            split at he
            · rename_i h hh
              exact evG_ok (K := fun s' => forceE (keepL s').env fun env => forceE s'.lh fun lh => h.cut s ⟨[], env, lh⟩) hmix hX hm hT (oFit hreg hop) (fun s1 s2 he hk => by rw [← keepL_eq he, ← he.lh]; exact hk) (fun G s' a w hl hk => by
                rw [forceE_eq, forceE_eq] at hk
                have hf := hl.finish.drop h.dead
                rw [show (keepL s').drop h.dead = _ from hk.1] at hf
                exact hQ .normal G _ a w hf (he.2 _ hk.2)) hr'.loc (hr'.begin ops) he.1 id
            · exact evG_ok (K := fun s => forceE (keepL s).env fun env => forceE s.lh fun lh => k .normal ⟨[], env, lh⟩) hmix hX hm hT (oFit hreg hop) (fun s1 s2 he hk => by rw [← keepL_eq he, ← he.lh]; exact hk) (fun G s a w hl hk => hQ .normal G _ a w hl.finish (by rw [forceE_eq, forceE_eq] at hk; exact hk)) hr'.loc (hr'.begin ops) he id
          · exact he.elim
        · exact he.elim
      | seq x y =>
        replace he : evC P X T H N fuel none x s fun e s => match e with
          | .normal => evC P X T H N fuel none y s k
          | e => k e s := he
        refine wp_seq (ihA x s _ G a w _ hr he fun e G s a w hr he => ?_)
        cases e with
        | normal => exact ihA y s k G a w Q hr he hQ
        | exit id => exact hQ _ G s a w hr he
        | goto l => exact hQ _ G s a w hr he
        | ret => exact hQ _ G s a w hr he
      | cond c x y =>
        replace he : onBool (operandV [] none s c) (evC P X T H N fuel none x s k) (evC P X T H N fuel none y s k) := he
        unfold onBool at he
        split at he
        · rename_i t hc
          exact wp_cond_split (cond_val hr hc) (fun ht => ihA x s k G a w Q hr (he.1 ht) hQ) (fun ht => ihA y s k G a w Q hr (he.2 ht) hQ)
        · exact he.elim
      | block id x =>
        replace he : evC P X T H N fuel none x s fun e s => match e with
          | .exit i => bif Nat.beq i id then k .normal s else k (.exit i) s
          | e => k e s := he
        refine wp_block (ihA x s _ G a w _ hr he fun e G s a w hr he => ?_)
        cases e with
        | normal => exact hQ _ G s a w hr he
        | exit i =>
          show (if i = id then _ else _)
          replace he : (bif Nat.beq i id then k .normal s else k (.exit i) s) := he
          by_cases e : i = id
          · subst e
            rw [Nat.beq_refl] at he
            rw [if_pos rfl]
            exact hQ .normal G s a w hr he
          · rw [show Nat.beq i id = false by rw [Bool.eq_false_iff]; exact fun hh => e (Nat.eq_of_beq_eq_true hh)] at he
            rw [if_neg e]
            exact hQ (.exit i) G s a w hr he
        | goto l => exact hQ _ G s a w hr he
        | ret => exact hQ _ G s a w hr he
      | loop x =>
        replace he : (match H (firstId x) with
          | some h => h.into s fun n s' => evC P X T H N fuel none x s' fun e s'' => match e with
            | .normal => h.back s n s''
            | e => k e s''
          | none => False) := he
        split at he
        · rename_i h hh
          obtain ⟨hs, hi0, hb⟩ := he
          have key : ∀ n, ∀ y, h.mu s y = n → h.inv s y → ∀ G a w, CRel cx G N (h.at_ s y) a w → Wp P [.code x, .inLoop x] Q a w := by
            intro n
            induction n using Nat.strongRecOn with
            | _ n ih =>
              intro y hn hy G a w hr
              refine Wp.then rfl (ihA x _ _ G a w _ hr (hb y hy) fun e G s' a w hr he => ?_)
              cases e with
              | normal =>
                obtain ⟨hs', hz, hlt⟩ := he
                replace hr := hr.drop h.dead
                rw [hs'] at hr
                exact Wp.step (items' := [.code x, .inLoop x]) (fun b k cs => step_inLoop) (ih _ (by rw [← hn]; exact hlt) _ rfl hz G a w hr)
              | exit id => exact hQ _ G s' a w hr he
              | goto l => exact hQ _ G s' a w hr he
              | ret => exact hQ _ G s' a w hr he
          have := key _ _ rfl hi0 G a w (by rw [← hs]; exact hr.drop h.dead)
          show Wp P [.code (.loop x)] Q a w
          exact Wp.step (items' := [.code x, .inLoop x]) (fun b k cs => step_loop) this
        · exact he.elim
      | exit id => exact wp_exit (hQ (.exit id) G s a w hr he)
      | scope x =>
        have := ihB x (fun _ => none) x s k G a w Q hr he hQ (fun l J hJ => by cases hJ)
        show Wp P [.code (.scope x)] Q a w
        exact Wp.step (items' := [.code x, .inScope x]) (fun b k cs => step_scope) this
      | label l => exact wp_label (hQ .normal G s a w hr he)
      | goto l => exact wp_goto (hQ (.goto l) G s a w hr he)
      | ret => exact wp_ret (hQ .ret G s a w hr he)
      | rangeFunc _ _ _ _ => exact he.elim
      | refuse _ => exact he.elim
    · replace he : evC P X T H N fuel none c s fun e s => match e with
        | .goto l => match C l with
          | some J => J s
          | none => match findLabel c0 l with
            | none => k (.goto l) s
            | some r => match H (1000000 + l) with
              | some h => h.into s fun n s' => evC P X T H N fuel (some (c0, fun l' => bif Nat.beq l' l then some (h.back s n) else C l')) r s' k
              | none => evC P X T H N fuel (some (c0, C)) r s k
        | e => k e s := he
      refine Wp.scope (ihA c s _ G a w _ hr he fun e G s a w hr he => ?_)
      cases e with
      | normal => exact hQ _ G s a w hr he
      | exit id => exact hQ _ G s a w hr he
      | ret => exact hQ _ G s a w hr he
      | goto l =>
        replace he : (match C l with
          | some J => J s
          | none => match findLabel c0 l with
            | none => k (.goto l) s
            | some r => match H (1000000 + l) with
              | some h => h.into s fun n s' => evC P X T H N fuel (some (c0, fun l' => bif Nat.beq l' l then some (h.back s n) else C l')) r s' k
              | none => evC P X T H N fuel (some (c0, C)) r s k) := he
        split at he
        · rename_i J hJ
          exact .inl (hC l J hJ G s a w hr he)
        · rename_i hCl
          split at he
          · rename_i hf
            exact .inr ⟨hf, hQ (.goto l) G s a w hr he⟩
          · rename_i r hf
            split at he
            · rename_i h hh
              obtain ⟨hs, hi0, hb⟩ := he
              have key : ∀ n, ∀ y, h.mu s y = n → h.inv s y → ∀ G a w, CRel cx G N (h.at_ s y) a w → Wp P [.code r, .inScope c0] Q a w := by
                intro n
                induction n using Nat.strongRecOn with
                | _ n ih =>
                  intro y hn hy G a w hr
                  refine ihB c0 _ r _ k G a w Q hr (hb y hy) hQ fun l' J hJ G s' a w hr hj => ?_
                  replace hJ : (bif Nat.beq l' l then some (h.back s y) else C l') = some J := hJ
                  cases hb' : Nat.beq l' l with
                  | true =>
                    rw [hb'] at hJ
                    injection hJ with hJ; subst hJ
                    obtain ⟨hs', hz, hlt⟩ := hj
                    replace hr := hr.drop h.dead
                    rw [hs'] at hr
                    rw [Nat.eq_of_beq_eq_true hb']
                    exact ⟨r, hf, ih _ (by rw [← hn]; exact hlt) _ rfl hz G a w hr⟩
                  | false =>
                    rw [hb'] at hJ
                    exact hC l' J hJ G s' a w hr hj
              exact .inl ⟨r, hf, key _ _ rfl hi0 G a w (by rw [← hs]; exact hr.drop h.dead)⟩
            · exact .inl ⟨r, hf, ihB c0 C r s k G a w Q hr he hQ hC⟩
end
section
variable [Wd] {P : Program} {cx : Cx} {G : Gh} {w : World}
def resSem (tmps : Array Value) (r : ResultVar) : Sem Value := match r with
  | .tmp t => Pure.pure (tmps.getD t undef)
  | .cell a t => do loadVar t (← asAddr (tmps.getD a undef))
theorem results_eq (fn : Func) (tmps : Array Value) : results fn tmps = (do let vs ← fn.results.mapM (resSem tmps); Pure.pure (if h : vs.size = 1 then vs[0] else .tuple vs)) := rfl
theorem resV_ok {T : Tabs} (hT : TabR T cx.F0) {N : Nat} {s : VS} {a : Act} (h : CRel cx G N s a w) {r : ResultVar} {v : PV} (hv : resV P T s r = some v) : ∃ u, (resSem a.tmps r).run P w = .ok u w ∧ Rep v G w u := by
  unfold resV at hv
  split at hv
  · rename_i t
    injection hv with hv; subst hv
    refine ⟨_, rfl, ?_⟩
    cases he : getN t s.env with
    | none => trivial
    | some x => exact h.env t x he
  · rename_i t ty
    split at hv
    · rename_i n off he
      split at hv
      · rename_i x hl
        injection hv with hv; subst hv
        obtain ⟨b, h1, h2⟩ := h.env t _ he
        obtain ⟨u, r1, r2⟩ := loadR_ok (P := P) h.inv hT (t := ty) (x := .ptr n off) (.inl hl) (show Rep (.ptr n off) G w _ from ⟨b, h1, h2⟩)
        refine ⟨u, ?_, r2⟩
        show (do loadVar ty (← asAddr (a.tmps.getD t undef)) : Sem Value).run P w = _
        rw [h2] at r1 ⊢
        simpa [asAddr, Instr.loadAt, Instr.sureAddr] using r1
      · cases hv
    · cases hv
theorem resVs_ok {T : Tabs} (hT : TabR T cx.F0) {N : Nat} {s : VS} {a : Act} (h : CRel cx G N s a w) : ∀ {rs : List ResultVar} {xs : List PV}, resVs P T s rs = some xs → ∃ us : List Value, (rs.mapM (resSem a.tmps)).run P w = .ok us w ∧ RepL' xs G w us
  | [], xs, hv => by
    unfold resVs at hv; injection hv with hv; subst hv
    exact ⟨[], rfl, rfl⟩
  | r :: rs, xs, hv => by
    unfold resVs at hv
    split at hv
    · rename_i y ys h1 h2
      injection hv with hv; subst hv
      obtain ⟨u, r1, r2⟩ := resV_ok hT h h1
      obtain ⟨us, r3, r4⟩ := resVs_ok hT h h2
      refine ⟨u :: us, ?_, u, us, rfl, r2, r4⟩
      rw [List.mapM_cons, Sem.run_bind, r1, Result.andThen_ok, Sem.run_bind, r3]; rfl
    · cases hv
theorem results_ok {T : Tabs} (hT : TabR T cx.F0) {N : Nat} {s : VS} {a : Act} (h : CRel cx G N s a w) {fn : Func} {v : PV} (hv : resultsV P T s fn.results.toList = some v) : ∃ u, (results fn a.tmps).run P w = .ok u w ∧ Rep v G w u := by
  have gen : ∀ (us : List Value), ((fn.results.toList.mapM (resSem a.tmps)).run P w = .ok us w) →
      (results fn a.tmps).run P w = .ok (if h : us.toArray.size = 1 then us.toArray[0] else .tuple us.toArray) w := by
    intro us hu
    rw [results_eq]
    simp only [Array.mapM_eq_mapM_toList, Sem.run_bind, Sem.run_map]
    rw [hu]
    rfl
  unfold resultsV at hv
  split at hv
  · rename_i x hx
    injection hv with hv; subst hv
    obtain ⟨us, r1, r2⟩ := resVs_ok hT h hx
    obtain ⟨u, us', rfl, h1, h2⟩ := r2
    obtain rfl : us' = [] := h2
    exact ⟨u, by rw [gen _ r1]; rfl, h1⟩
  · rename_i xs hne hx
    injection hv with hv; subst hv
    obtain ⟨us, r1, r2⟩ := resVs_ok hT h hx
    refine ⟨.tuple us.toArray, ?_, us, r2, rfl⟩
    rw [gen _ r1, dif_neg]
    intro h1
    have h2 : us.length = 1 := by simpa using h1
    have h3 := r2.length
    match xs, (by omega : xs.length = 1) with
    | [x], _ => exact hne x rfl
  · cases hv
theorem getN_with {xs : List PV} {t : Nat} {x : PV} : ∀ {ts : List Nat}, getN t (withAt xs ts) = some x → x = xs.getD t .undef
  | [], h => by cases h
  | u :: ts, h => by
    replace h : (bif Nat.beq u t then some (xs.getD u .undef) else getN t (withAt xs ts)) = some x := h
    cases hb : Nat.beq u t with
    | true =>
      rw [hb] at h
      have := Nat.eq_of_beq_eq_true hb
      subst this
      injection h with h; exact h.symm
    | false => rw [hb] at h; exact getN_with h
theorem Inv.bare {F : Nat → Nat → Option Value} (h : Fits F w) : Inv ⟨[], w, F, 0, fun _ => none⟩ (bareG F) [] w :=
  ⟨h, FLe.refl _, fun b o u hu => .inl hu, (fun n x hx => by cases hx), (fun n b hb => by cases hb), (fun t b ht => by cases ht), (fun n n' b hb => by cases hb), (fun t t' b ht => by cases ht), (fun n t b hb => by cases hb), (fun i hi => by cases hi), ⟨rfl, rfl, rfl, Nat.le_refl _, fun _ _ _ => rfl⟩⟩
theorem evF_ok {T : Tabs} {X : Tbl} {H : Loops} {fuel : Nat} {f : FuncId} {fn : Func} (hmix : P.follows .mixedOrders = true) (hX : XOk P T X) (hf : P.funcs[f]? = some fn) (hn : (fn.name == "runtime.NumGoroutine") = false) {xs : List PV} {r : PV} {pre : Prop}
    (he : pre → evF P X T H fuel fn xs fun v => v = r) (hnm : NoN xs := by exact ⟨rfl, rfl⟩) : FuncOk P T f xs ⟨pre, r⟩ := by
  refine .of_plain hnm ?_
  intro hpre F w vs hfits htab hwd hx
  have he := he hpre
  unfold evF at he
  cases hb : fn.body with
  | none => rw [hb] at he; exact he.elim
  | some c =>
    rw [hb] at he
    replace he : evC P X T H fn.ntmps fuel none c ⟨[], withAt xs (slotsOf (keepF fn) fn.ntmps), []⟩ (fun e s => match e with
      | .normal => outL (resultsV P T s fn.results.toList) fun v => v = r
      | .ret => outL (resultsV P T s fn.results.toList) fun v => v = r
      | _ => False) := he
    left
    refine ⟨?_, ?_⟩
    · unfold callFunc
      simp only [Sem.run_bind, run_program, Result.andThen_ok, hf]
      rw [hn]
      simp [hb]
    · refine calls_of_wp hf hb ?_
      have hlen := hx.length
      have hrel : CRel ⟨[], w, F, 0, fun _ => none⟩ (bareG F) fn.ntmps ⟨[], withAt xs (slotsOf (keepF fn) fn.ntmps), []⟩ { tmps := vs.toArray ++ Array.replicate (fn.ntmps - vs.toArray.size) undef, defers := [] } w := by
        refine ⟨Inv.bare hfits, fun t x ht => ?_, rfl, by simp; omega, rfl⟩
        have := getN_with ht
        subst this
        by_cases hlt : t < xs.length
        · have hg : xs[t]? = some (xs.getD t .undef) := by rw [List.getD, List.getElem?_eq_getElem hlt]; rfl
          obtain ⟨u, u1, u2⟩ := hx.get hg
          have hlt2 : t < vs.length := by omega
          have : (vs.toArray ++ Array.replicate (fn.ntmps - vs.toArray.size) undef).getD t undef = u := by
            rw [List.getElem?_eq_getElem hlt2] at u1
            injection u1 with u1
            rw [Array.getD_eq_getD_getElem?, Array.getElem?_append_left (by simpa using hlt2)]
            rw [List.getElem?_toArray, List.getElem?_eq_getElem hlt2, u1]
            rfl
          show Rep _ _ _ ((vs.toArray ++ Array.replicate (fn.ntmps - vs.toArray.size) undef).getD t undef)
          rw [this]; exact u2
        · have : xs.getD t .undef = .undef := by rw [List.getD, List.getElem?_eq_none (by omega)]; rfl
          rw [this]; trivial
      have fin : ∀ G s (a : Act) w', CRel ⟨[], w, F, 0, fun _ => none⟩ G fn.ntmps s a w' → outL (resultsV P T s fn.results.toList) (fun v => v = r) → a.defers = [] ∧ ∃ u, (results fn a.tmps).run P w' = .ok u w' ∧ ∃ v, Ending.returned u = .returned v ∧ Came F w r v w' := by
        intro G s a w' hr ho
        unfold outL at ho
        split at ho
        · rename_i r0 hr0
          rw [forceV_eq] at ho
          split at ho
          · rename_i hnam
            obtain ⟨u, g1, g2⟩ := results_ok (cx := ⟨[], w, F, 0, fun _ => none⟩) htab hr hr0
            refine ⟨hr.defers, u, g1, u, rfl, ?_⟩
            obtain ⟨s1, s2⟩ := hr.inv.turn (w' := w') (callF_ok (addNew [] (PV.allL PV.tok1 r0))) none rfl rfl rfl (Nat.le_refl _) (fun _ _ _ => rfl) (fun t b e => by cases e)
            have h2 := s2 _ _ g2
            have hag : r0.mapL (PV.mark1 (callF (addNew [] (PV.allL PV.tok1 r0)))) = r0.mapL (PV.mark1 bareF) := by
              refine mapL_agree (fun y => y.tok1 = [] ∨ ∀ t ∈ y.tok1, t ∈ addNew [] (PV.allL PV.tok1 r0)) (fun y _ hp => callF_bare hp) (fun y _ ht => ?_)
              rcases ht with h1 | h1
              · exact .inl h1
              · exact .inr fun t htm => (addNew_mem (PV.allL PV.tok1 r0) []).2 t (h1 t htm)
            rw [hag] at h2
            obtain ⟨b1, b2⟩ := bare_tok r0
            have h3 := Rep.deepen b1 (by rw [b2]; exact hnam) h2
            rw [ho] at h3
            refine ⟨(G.turn w' (callF (addNew [] (PV.allL PV.tok1 r0))) none).F, fun _ => none, ⟨s1.kept.os, s1.kept.tape, s1.kept.output, s1.kept.size, fun k hk => s1.kept.block k hk (by simp)⟩, s1.base, s1.fits, fun b o u hu => ?_, (fun t b e => by cases e), h3⟩
            rcases s1.ext b o u hu with h4 | h4
            · exact .inl h4
            · rcases h4 with h4 | h4
              · cases h4
              · exact .inr h4
          · exact ho.elim
        · exact ho.elim
      refine (evC_ok hmix hX (by show 0 ≤ 32; omega) (show TabC T ⟨[], w, F, 0, fun _ => none⟩ from ⟨htab, fun b hb => (by cases hb), hwd⟩) fuel).1 c _ _ (bareG F) _ w _ hrel he fun e G s a w' hr hk => ?_
      cases e with
      | normal => exact fin G s a w' hr hk
      | ret => exact fin G s a w' hr hk
      | exit i => exact hk.elim
      | goto l => exact hk.elim
end
section
variable [Wd] {P : Program} {T : Tabs}
def tblX : List (FuncId × (List PV → Option CallR)) → Tbl
  | [], _, _ => none
  | e :: l, f, xs => bif Nat.beq e.1 f then (match e.2 xs with | some c => some c | none => tblX l f xs) else tblX l f xs
theorem tblX_nil : XOk P T (tblX []) := fun f xs c h => by cases h
theorem tblX_cons {f : FuncId} {g : List PV → Option CallR} {l : List (FuncId × (List PV → Option CallR))} (h : ∀ xs c, g xs = some c → FuncOk P T f xs c) (hl : XOk P T (tblX l)) : XOk P T (tblX ((f, g) :: l)) := fun f' xs c hc => by
  replace hc : (bif Nat.beq f f' then (match g xs with | some c => some c | none => tblX l f' xs) else tblX l f' xs) = some c := hc
  cases hb : Nat.beq f f' with
  | true =>
    rw [hb] at hc
    cases hg : g xs with
    | none => rw [hg] at hc; exact hl f' xs c hc
    | some c' =>
      rw [hg] at hc
      injection hc with hc; subst hc
      rw [← Nat.eq_of_beq_eq_true hb]
      exact h xs c' hg
  | false => rw [hb] at hc; exact hl f' xs c hc
theorem enter_run {f : FuncId} {fn : Func} {c : Code} (hf : P.funcs[f]? = some fn) (hn : (fn.name == "runtime.NumGoroutine") = false) (hb : fn.body = some c) (vs : Array Value) (w : World) : (callFunc f vs).run P w = .ok (.enter f vs) w := by
  unfold callFunc
  simp only [Sem.run_bind, run_program, Result.andThen_ok, hf]
  rw [hn]
  simp [hb]
theorem FuncOk.of_calls {f : FuncId} {fn : Func} {c : Code} (hf : P.funcs[f]? = some fn) (hn : (fn.name == "runtime.NumGoroutine") = false) (hb : fn.body = some c) {xs : List PV} {r : PV} {pre : Prop}
    (h : pre → ∀ (F : Nat → Nat → Option Value) (w : World) (vs : List Value), Fits F w → TabR T F → Wd.wd w → RepL' xs (bareG F) w vs → ∃ u, (Calls P f vs.toArray w fun e w' => e = .returned u ∧ Below w.heap.size w w') ∧ ∀ G w, Rep r G w u) (hnm : NoN xs := by exact ⟨rfl, rfl⟩) : FuncOk P T f xs ⟨pre, r⟩ := by
  refine .of_plain hnm ?_
  intro hpre F w vs hF hT hwd hx
  obtain ⟨u, h1, h2⟩ := h hpre F w vs hF hT hwd hx
  refine .inl ⟨enter_run hf hn hb _ w, h1.mono fun e w' he => ?_⟩
  obtain ⟨rfl, hb⟩ := he
  exact ⟨u, rfl, F, fun _ => none, hb, FLe.refl _, fun b o q hq => by
    have := hF b o q hq
    rw [hb.cell (p := ⟨b, o, none⟩) (cell_lt this)]; exact this, fun b o q hq => .inl hq, (fun t b e => by cases e), h2 _ _⟩
theorem FuncOk.walk {f : FuncId} {fn : Func} {c : Code} (hf : P.funcs[f]? = some fn) (hn : (fn.name == "runtime.NumGoroutine") = false) (hb : fn.body = some c) {xs : List PV} {r : PV} {pre : Prop} (h : FuncOk P T f xs ⟨pre, r⟩) (hp : pre)
    {F : Nat → Nat → Option Value} {w : World} {vs : List Value} (hF : Fits F w) (hT : TabR T F) (hwd : Wd.wd w) (hx : RepL' xs (bareG F) w vs) (hnm : NoN xs := by exact ⟨rfl, rfl⟩) : Calls P f vs.toArray w fun e w' => ∃ u, e = .returned u ∧ Came F w r u w' := by
  rcases h.plain hnm hp F w vs hF hT hwd hx with ⟨-, h2⟩ | ⟨u, w', h1, -⟩
  · exact h2
  · rw [enter_run hf hn hb] at h1; cases h1
def noT : Tabs := fun _ => .undef
theorem noT_ok (F : Nat → Nat → Option Value) : TabR noT F := fun g hg => by cases hg
theorem fits_none (w : World) : Fits (fun _ _ => none) w := fun b o u h => by cases h
theorem FuncOk.yes {f : FuncId} {fn : Func} {c : Code} (hf : P.funcs[f]? = some fn) (hn : (fn.name == "runtime.NumGoroutine") = false) (hb : fn.body = some c) {xs : List PV} (h : FuncOk P noT f xs ⟨True, .bool true⟩)
    {w : World} {vs : List Value} (hwd : Wd.wd w) (hx : RepL' xs (bareG fun _ _ => none) w vs) (hnm : NoN xs := by exact ⟨rfl, rfl⟩) : Calls P f vs.toArray w fun e w' => e = .returned (.bool true) ∧ Below w.heap.size w w' :=
  (h.walk hf hn hb trivial (fits_none w) (noT_ok _) hwd hx hnm).mono fun e w' ⟨u, he, F', τ', hb, _, _, _, _, hr⟩ => ⟨by rw [he]; exact congrArg _ hr, hb⟩
theorem FuncOk.to {f : FuncId} {xs : List PV} {c : CallR} {pre : Prop} {r : PV} (h : FuncOk P T f xs c) (hp : pre → c.pre) (hr : pre → c.r = r) (hnm : NoN xs := by exact ⟨rfl, rfl⟩) : FuncOk P T f xs ⟨pre, r⟩ := .of_plain hnm fun hpre F w vs hF hT hwd hx => by
  have := h.plain hnm (hp hpre) F w vs hF hT hwd hx
  rw [hr hpre] at this
  exact this
end
section
variable [Wd] {P : Program} {cx : Cx} {G : Gh} {lh : List (Nat × PV)} {w : World}
def outR (r : Option PV) (k : PV → Prop) : Prop := match r with
  | some r => forceV 4 r fun r => match PV.allL PV.nam1 r, Nat.blt (addNew [] (PV.allL PV.tok1 r)).length 60 with
    | [], true => k (r.mapL (PV.both1 noN (inT (addNew [] (PV.allL PV.tok1 r)))))
    | _, _ => False
  | none => False
def evR (P : Program) (X : Tbl) (T : Tabs) (H : Loops) (fuel : Nat) (fn : Func) (xs : List PV) (k : PV → Prop) : Prop :=
  match fn.body with
  | none => False
  | some c => evC P X T H fn.ntmps fuel none c ⟨[], withAt xs (slotsOf (keepF fn) fn.ntmps), []⟩ fun e s => match e with
    | .normal => outR (resultsV P T s fn.results.toList) k
    | .ret => outR (resultsV P T s fn.results.toList) k
    | _ => False
end
section
variable [Wd] {P : Program} {cx : Cx} {G : Gh} {lh : List (Nat × PV)} {w : World}
theorem evH_ok {T : Tabs} {X : Tbl} {H : Loops} {fuel : Nat} {f : FuncId} {fn : Func} (hmix : P.follows .mixedOrders = true) (hX : XOk P T X) (hf : P.funcs[f]? = some fn) (hn : (fn.name == "runtime.NumGoroutine") = false) {xs : List PV} {r : PV} {pre : Prop}
    (he : pre → evR P X T H fuel fn xs fun v => ∀ G w u, Rep v G w u → Rep r G w u) (hnm : PV.allLs PV.nam1 xs = [] := by rfl) (htk : List.isEmpty (PV.allLs PV.tok1 xs) = false := by rfl) : FuncOk P T f xs ⟨pre, r⟩ := by
  refine .of_hand hnm (fun e => by rw [e] at htk; cases htk) ?_
  intro hpre F w vs τ hfits htab hwd hlτ hl hx
  replace hpre : pre := hpre
  have he := he hpre
  unfold evR at he
  cases hb : fn.body with
  | none => rw [hb] at he; exact he.elim
  | some c =>
    rw [hb] at he
    replace he : evC P X T H fn.ntmps fuel none c ⟨[], withAt xs (slotsOf (keepF fn) fn.ntmps), []⟩ (fun e s => match e with
      | .normal => outR (resultsV P T s fn.results.toList) fun v => ∀ G w u, Rep v G w u → Rep r G w u
      | .ret => outR (resultsV P T s fn.results.toList) fun v => ∀ G w u, Rep v G w u → Rep r G w u
      | _ => False) := he
    left
    refine ⟨?_, ?_⟩
    · unfold callFunc
      simp only [Sem.run_bind, run_program, Result.andThen_ok, hf]
      rw [hn]
      simp [hb]
    · refine calls_of_wp hf hb ?_
      have hlen := hx.length
      obtain ⟨cx, hcx⟩ : ∃ cx : Cx, cx = ⟨(List.range 64).filterMap τ, w, F, 0, fun _ => none⟩ := ⟨_, rfl⟩
      have hps : ∀ b, b ∈ cx.ps ↔ ∃ t, τ t = some b := fun b => by
        rw [hcx]
        show b ∈ List.filterMap τ _ ↔ _
        rw [List.mem_filterMap]
        exact ⟨fun ⟨t, _, h⟩ => ⟨t, h⟩, fun ⟨t, h⟩ => ⟨t, by have := (hl.mks t b h).2.1; simpa using this, h⟩⟩
      have hw0 : cx.w0 = w := by rw [hcx]
      have hF0 : cx.F0 = F := by rw [hcx]
      have hm0 : cx.m = 0 := by rw [hcx]
      have hinv : Inv cx ⟨fun _ => none, τ, F⟩ [] w := by
        refine ⟨hfits, by rw [hF0]; exact FLe.refl _, fun b o u hu => .inl (by rw [hF0]; exact hu), (fun n x hx => by cases hx), (fun n b hb => by cases hb), fun t b ht => ?_, (fun n n' b hb => by cases hb), hl.inj, (fun n t b hb => by cases hb), fun i hi => by rw [hm0] at hi; omega, ⟨by rw [hw0], by rw [hw0], by rw [hw0], by rw [hw0]; exact Nat.le_refl _, fun _ _ _ => by rw [hw0]⟩⟩
        obtain ⟨h1, h2, h3, h4, h5⟩ := hl.mks t b ht
        exact ⟨h1, h3, h4, .inl ((hps b).2 ⟨t, ht⟩)⟩
      have hrel : CRel cx ⟨fun _ => none, τ, F⟩ fn.ntmps ⟨[], withAt xs (slotsOf (keepF fn) fn.ntmps), []⟩ { tmps := vs.toArray ++ Array.replicate (fn.ntmps - vs.toArray.size) undef, defers := [] } w := by
        refine ⟨hinv, fun t x ht => ?_, rfl, by simp; omega, rfl⟩
        have := getN_with ht
        subst this
        by_cases hlt : t < xs.length
        · have hg : xs[t]? = some (xs.getD t .undef) := by rw [List.getD, List.getElem?_eq_getElem hlt]; rfl
          obtain ⟨u, u1, u2⟩ := hx.get hg
          have hlt2 : t < vs.length := by omega
          have : (vs.toArray ++ Array.replicate (fn.ntmps - vs.toArray.size) undef).getD t undef = u := by
            rw [List.getElem?_eq_getElem hlt2] at u1
            injection u1 with u1
            rw [Array.getD_eq_getD_getElem?, Array.getElem?_append_left (by simpa using hlt2)]
            rw [List.getElem?_toArray, List.getElem?_eq_getElem hlt2, u1]
            rfl
          show Rep _ _ _ ((vs.toArray ++ Array.replicate (fn.ntmps - vs.toArray.size) undef).getD t undef)
          rw [this]; exact u2
        · have : xs.getD t .undef = .undef := by rw [List.getD, List.getElem?_eq_none (by omega)]; rfl
          rw [this]; trivial
      have own : ∀ b, Own cx b → w.heap.size ≤ b ∨ ∃ t, τ t = some b := fun b ho => by
        rcases ho with ho | ho
        · exact .inr ((hps b).1 ho)
        · rw [hw0] at ho; exact .inl ho
      have fin : ∀ G s (a : Act) w', CRel cx G fn.ntmps s a w' → outR (resultsV P T s fn.results.toList) (fun v => ∀ G w u, Rep v G w u → Rep r G w u) → a.defers = [] ∧ ∃ u, (results fn a.tmps).run P w' = .ok u w' ∧ ∃ v, Ending.returned u = .returned v ∧ CameH F τ w r v w' := by
        intro G s a w' hr ho
        unfold outR at ho
        split at ho
        · rename_i r0 hr0
          rw [forceV_eq] at ho
          split at ho
          · rename_i hnam hbl
            obtain ⟨u, g1, g2⟩ := results_ok (cx := cx) (by rw [hF0]; exact htab) hr hr0
            refine ⟨hr.defers, u, g1, u, rfl, ?_⟩
            obtain ⟨ms, hms⟩ : ∃ ms, ms = addNew [] (PV.allL PV.tok1 r0) := ⟨_, rfl⟩
            rw [← hms] at ho hbl
            have hmd : ms.Nodup := by rw [hms]; exact addNew_nodup _ _ List.nodup_nil
            have hm60 : ms.length < 60 := Nat.le_of_ble_eq_true hbl
            have s1 := hr.inv
            have hτ : ∀ t b, (match t with | 0 => none | t + 1 => (ms[t]?).bind G.τ) = some b → ∃ i m, t = i + 1 ∧ ms[i]? = some m ∧ G.τ m = some b := fun t b ht => by
              cases t with
              | zero => cases ht
              | succ t =>
                obtain ⟨m, h1, h2⟩ := Option.bind_eq_some_iff.1 (show (ms[t]?).bind G.τ = some b from ht)
                exact ⟨t, m, rfl, h1, h2⟩
            refine ⟨G.F, fun t => match t with | 0 => none | t + 1 => (ms[t]?).bind G.τ, by rw [s1.kept.os, hw0], by rw [s1.kept.tape, hw0], by rw [s1.kept.output, hw0], by have := s1.kept.size; rw [hw0] at this; exact this, fun k hk h2 => ?_, by have := s1.base; rw [hF0] at this; exact this, s1.fits, fun b o q hq => ?_, fun t b ht => ?_, ⟨rfl, (fun i j b h => by cases h), (fun b hb => by cases hb), fun t b ht => ?_, fun t t' b h1 h2 => ?_, (fun i x h => by cases h)⟩, ho _ _ _ (Rep.map (fun y v hl hy => Rep.both_leaf (G := G) (G' := ⟨fun _ => none, fun t => match t with | 0 => none | t + 1 => (ms[t]?).bind G.τ, G.F⟩) (w := w') (w' := w') (fn := noN) (ft := inT ms) (FLe.refl _) (fun n m h => by cases h) (fun u hu => ?_) (fun t u h0 hu => ?_) hl hy) (wid_both _ _) g2)⟩
            · have := s1.kept.block k (by rw [hw0]; exact hk) fun hp => by
                obtain ⟨t, g⟩ := (hps k).1 hp
                exact h2 t g
              rw [hw0] at this; exact this
            · rcases s1.ext b o q hq with g | g
              · rw [hF0] at g; exact .inl g
              · exact .inr (own b g)
            · obtain ⟨i, m, -, -, g⟩ := hτ t b ht
              exact own b (s1.mark m b g).2.2.2
            · obtain ⟨i, m, rfl, g1, g⟩ := hτ t b ht
              obtain ⟨k1, k2, k3, k4⟩ := s1.mark m b g
              have hil : i < ms.length := (List.getElem?_eq_some_iff.1 g1).1
              exact ⟨by omega, by omega, k2, k3, fun hb => by cases hb⟩
            · obtain ⟨i, m, rfl, g1, g2⟩ := hτ t b h1
              obtain ⟨j, m', rfl, g3, g4⟩ := hτ t' b h2
              have := s1.injτ m m' b g2 g4
              subst this
              obtain ⟨a1, -⟩ := List.getElem?_eq_some_iff.1 g1
              have := (List.getElem?_inj a1 hmd).1 (g1.trans g3.symm)
              omega
            · rcases inT_ok hu with ⟨-, e⟩ | ⟨e, -⟩
              · exact e
              · exact absurd rfl e
            · rcases inT_ok hu with ⟨e, -⟩ | ⟨-, i, rfl, h1⟩
              · exact absurd e h0
              · refine ⟨by omega, fun b hb => ⟨?_, rfl⟩⟩
                show (ms[i]?).bind G.τ = _
                rw [h1]; exact hb
          · exact ho.elim
        · exact ho.elim
      refine (evC_ok hmix hX (by rw [hm0]; omega) (show TabC T cx from ⟨by rw [hF0]; exact htab, fun b hb => ?_, by rw [hw0]; exact hwd⟩) fuel).1 c _ _ ⟨fun _ => none, τ, F⟩ _ w _ hrel he fun e G s a w' hr hk => ?_
      · obtain ⟨t, g⟩ := (hps b).1 hb
        exact hlτ t b g
      · cases e with
        | normal => exact fin G s a w' hr hk
        | ret => exact fin G s a w' hr hk
        | exit i => exact hk.elim
        | goto l => exact hk.elim
end
end Go.Vc
namespace Go.Proofs.Jv
open Go.Vc
theorem exI [Wd] {P : Program} {T : Tabs} {f : FuncId} {xs : List PV} {p : Nat → Prop} {r : PV} (h : ∀ n, FuncOk P T f xs ⟨p n, r⟩) (hnm : NoN xs := by exact ⟨rfl, rfl⟩) : FuncOk P T f xs ⟨∃ n, p n, r⟩ := .of_plain hnm fun ⟨n, hp⟩ => (h n).plain hnm hp
def bigJ : Nat := 140737488355328
inductive JV where
  | mk (k : Int) (b : Bool) (s : Bs) (nk : Bool) (ks : List Bs) (nl : Bool) (ls : List JV)
mutual
def JV.pv : JV → PV
  | .mk k b s nk ks nl ls => .agg [.int .i64 k, .bool b, .str s, .row nk (.strs ks) 0, .vec nl 5 (JV.pvs ls) 0]
def JV.pvs : List JV → List PV
  | [] => []
  | x :: l => JV.pv x :: JV.pvs l
end
mutual
def jdec : PV → JV
  | .agg l => jdecA l
  | _ => .mk 0 false [] true [] true []
def jdecA : List PV → JV
  | [a, b, c, d, e] => .mk a.asInt b.asBool c.asStr d.asNil d.asStrs e.asNil (jdecV e)
  | _ => .mk 0 false [] true [] true []
def jdecV : PV → List JV
  | .vec _ _ l _ => jdecs l
  | _ => []
def jdecs : List PV → List JV
  | [] => []
  | x :: l => jdec x :: jdecs l
end
mutual
theorem jdec_pv : ∀ x : JV, jdec x.pv = x
  | .mk k b s nk ks nl ls => by
    unfold JV.pv jdec jdecA jdecV
    rw [jdecs_pvs ls]; rfl
theorem jdecs_pvs : ∀ l : List JV, jdecs (JV.pvs l) = l
  | [] => rfl
  | x :: l => by unfold JV.pvs jdecs; rw [jdec_pv x, jdecs_pvs l]
end
def JV.k : JV → Int | .mk k _ _ _ _ _ _ => k
def JV.b : JV → Bool | .mk _ b _ _ _ _ _ => b
def JV.s : JV → Bs | .mk _ _ s _ _ _ _ => s
def JV.nk : JV → Bool | .mk _ _ _ n _ _ _ => n
def JV.ks : JV → List Bs | .mk _ _ _ _ ks _ _ => ks
def JV.nl : JV → Bool | .mk _ _ _ _ _ n _ => n
def JV.ls : JV → List JV | .mk _ _ _ _ _ _ ls => ls
theorem str_at {l : List Bs} {n : Nat} (h : n < l.length) : strZ l (n : Int) = l[n] := by
  unfold strZ; rw [Int.toNat_natCast, List.getD_eq_getElem?_getD, List.getElem?_eq_getElem h]; rfl
def okJ : Nat → JV → Prop
  | 0, _ => False
  | n + 1, x => (-9223372036854775808 ≤ x.k ∧ x.k ≤ 9223372036854775807) ∧ x.s.length ≤ bigJ ∧ x.ks.length ≤ bigJ ∧ (∀ s ∈ x.ks, s.length ≤ bigJ) ∧ x.ls.length ≤ bigJ ∧ ∀ y ∈ x.ls, okJ n y
theorem okJ.up : ∀ {n m : Nat} {x : JV}, n ≤ m → okJ n x → okJ m x
  | 0, m, x, _, h => h.elim
  | n + 1, 0, x, hm, h => by omega
  | n + 1, m + 1, x, hm, h => by
    obtain ⟨h1, h2, h3, h4, h5, h6⟩ := h
    exact ⟨h1, h2, h3, h4, h5, fun y hy => okJ.up (by omega) (h6 y hy)⟩
mutual
def sameJ : JV → JV → Bool
  | .mk k b s _ ks _ ls, .mk k' b' s' _ ks' _ ls' => decide (k = k') && (b == b') && decide (s = s') && decide (ks = ks') && sameJs ls ls'
def sameJs : List JV → List JV → Bool
  | [], [] => true
  | x :: l, y :: m => sameJ x y && sameJs l m
  | _, _ => false
end
mutual
theorem sameJ_self : ∀ x : JV, sameJ x x = true
  | .mk k b s _ ks _ ls => by unfold sameJ; rw [sameJs_self ls]; simp
theorem sameJs_self : ∀ l : List JV, sameJs l l = true
  | [] => by unfold sameJs; rfl
  | x :: l => by unfold sameJs; rw [sameJ_self x, sameJs_self l]; rfl
end
mutual
theorem sameJ_comm : ∀ x y : JV, sameJ x y = sameJ y x
  | .mk k b s _ ks _ ls, .mk k' b' s' _ ks' _ ls' => by
    unfold sameJ
    rw [sameJs_comm ls ls', decide_eq_decide.2 (show k = k' ↔ k' = k from ⟨Eq.symm, Eq.symm⟩), decide_eq_decide.2 (show s = s' ↔ s' = s from ⟨Eq.symm, Eq.symm⟩), decide_eq_decide.2 (show ks = ks' ↔ ks' = ks from ⟨Eq.symm, Eq.symm⟩), show (b == b') = (b' == b) by cases b <;> cases b' <;> rfl]
theorem sameJs_comm : ∀ l m : List JV, sameJs l m = sameJs m l
  | [], [] => rfl
  | [], _ :: _ => by unfold sameJs; rfl
  | _ :: _, [] => by unfold sameJs; rfl
  | x :: l, y :: m => by unfold sameJs; rw [sameJ_comm x y, sameJs_comm l m]
end
def wK : List Bs → Int → Int
  | [], n => n
  | k :: l, n => if n < 0 then n else wK l (n - lenZ k)
mutual
def wJ : JV → Int → Int → Int
  | .mk _ _ s _ ks _ ls, n, d => if n < 0 ∨ 200 < d then -1 else wJs ls (wK ks (n - 1 - lenZ s - lenZ ks)) (d + 1)
def wJs : List JV → Int → Int → Int
  | [], n, _ => n
  | x :: l, n, d => if n < 0 then n else wJs l (wJ x n d) d
end
theorem wK_le : ∀ (l : List Bs) (n : Int), wK l n ≤ n
  | [], n => by unfold wK; omega
  | k :: l, n => by
    unfold wK
    split
    · omega
    · have := wK_le l (n - lenZ k); have : (0 : Int) ≤ lenZ k := by unfold lenZ; omega
      omega
theorem wK_ge : ∀ (l : List Bs) (n : Int), (∀ s ∈ l, s.length ≤ bigJ) → -1125899906842624 ≤ n → -1125899906842624 ≤ wK l n
  | [], n, _, h => h
  | k :: l, n, hl, h => by
    unfold wK
    split
    · exact h
    · have h1 := hl k (List.mem_cons_self ..)
      have h2 : bigJ = 140737488355328 := rfl
      exact wK_ge l _ (fun s hs => hl s (List.mem_cons_of_mem _ hs)) (by unfold lenZ; omega)
mutual
theorem wJ_le : ∀ (x : JV) (n d : Int), -1 ≤ n → wJ x n d ≤ n
  | .mk _ _ s _ ks _ ls, n, d, h => by
    unfold wJ
    split
    · omega
    · have h1 := wK_le ks (n - 1 - lenZ s - lenZ ks)
      have h2 := wJs_le ls (wK ks (n - 1 - lenZ s - lenZ ks)) (d + 1)
      have h3 : (0 : Int) ≤ lenZ s := by unfold lenZ; omega
      have h4 : (0 : Int) ≤ lenZ ks := by unfold lenZ; omega
      omega
theorem wJs_le : ∀ (l : List JV) (n d : Int), wJs l n d ≤ n
  | [], n, d => by unfold wJs; omega
  | x :: l, n, d => by
    unfold wJs
    split
    · omega
    · have h1 := wJ_le x n d (by omega)
      have h2 := wJs_le l (wJ x n d) d
      omega
end
mutual
theorem wJ_ge : ∀ (x : JV) (m : Nat) (n d : Int), okJ m x → -1 ≤ n → -1125899906842624 ≤ wJ x n d
  | .mk k b s nk ks nl ls, 0, n, d, h, _ => h.elim
  | .mk k b s nk ks nl ls, m + 1, n, d, h, hn => by
    unfold wJ
    split
    · omega
    · obtain ⟨h1, h2, h3, h4, h5, h6⟩ := h
      have e : bigJ = 140737488355328 := rfl
      exact wJs_ge ls m _ _ h6 (wK_ge ks _ h4 (by unfold lenZ; simp only [JV.s, JV.ks] at h2 h3; omega))
theorem wJs_ge : ∀ (l : List JV) (m : Nat) (n d : Int), (∀ y ∈ l, okJ m y) → -1125899906842624 ≤ n → -1125899906842624 ≤ wJs l n d
  | [], m, n, d, h, hn => by unfold wJs; exact hn
  | x :: l, m, n, d, h, hn => by
    unfold wJs
    split
    · exact hn
    · exact wJs_ge l m _ _ (fun y hy => h y (List.mem_cons_of_mem _ hy)) (wJ_ge x m n d (h x (List.mem_cons_self ..)) (by omega))
end
mutual
theorem okJ_of_w : ∀ (x : JV) (m : Nat) (n d : Int), okJ m x → 0 ≤ wJ x n d → 0 ≤ d → okJ (201 - d.toNat) x ∧ d ≤ 200
  | .mk k b s nk ks nl ls, 0, n, d, h, _, _ => h.elim
  | .mk k b s nk ks nl ls, m + 1, n, d, h, hw, hd => by
    unfold wJ at hw
    split at hw
    · omega
    · rename_i hc
      obtain ⟨h1, h2, h3, h4, h5, h6⟩ := h
      refine ⟨?_, by omega⟩
      rw [show 201 - d.toNat = (200 - d.toNat) + 1 by omega]
      refine ⟨h1, h2, h3, h4, h5, fun y hy => ?_⟩
      have := okJs_of_w ls m _ (d + 1) h6 hw (by omega) y hy
      rw [show 201 - (d + 1).toNat = 200 - d.toNat by omega] at this
      exact this
theorem okJs_of_w : ∀ (l : List JV) (m : Nat) (n d : Int), (∀ y ∈ l, okJ m y) → 0 ≤ wJs l n d → 0 ≤ d → ∀ y ∈ l, okJ (201 - d.toNat) y
  | [], m, n, d, h, hw, hd, y, hy => by cases hy
  | x :: l, m, n, d, h, hw, hd, y, hy => by
    unfold wJs at hw
    split at hw
    · omega
    · rename_i hc
      have h1 := wJs_le l (wJ x n d) d
      rcases List.mem_cons.1 hy with e | hy
      · rw [e]; exact (okJ_of_w x m n d (h x (List.mem_cons_self ..)) (by omega) hd).1
      · exact okJs_of_w l m _ d (fun z hz => h z (List.mem_cons_of_mem _ hz)) hw hd y hy
end
end Go.Proofs.Jv
