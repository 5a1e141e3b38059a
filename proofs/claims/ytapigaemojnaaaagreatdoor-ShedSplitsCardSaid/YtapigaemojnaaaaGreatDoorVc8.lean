/- The calculus by values, part 8. -/
import Derived.Test.YtapigaemojnaaaaGreatDoorVc7
set_option linter.unusedVariables false
set_option linter.unusedSectionVars false
set_option linter.unusedSimpArgs false

/- A calculus of Go's functions by their values: stores whose order is left open. -/
namespace Go.Vc
open Go.RowKit

/-- What is written. -/
inductive Eff where
  | none
  | put (b off : Nat) (vs : List Value)
def Eff.app : Eff → World → World
  | .none, w => w
  | .put b off vs, w => w.setCells b off vs
/-- Cells: a block, the first one, how many. -/
structure Rng where
  b : Nat
  o : Nat
  n : Nat
def Rng.Apart (x y : Rng) : Prop := x.b ≠ y.b ∨ x.o + x.n ≤ y.o ∨ y.o + y.n ≤ x.o
theorem Rng.Apart.symm {x y : Rng} (h : x.Apart y) : y.Apart x := by
  unfold Rng.Apart at h ⊢
  rcases h with h | h | h
  · exact .inl fun e => h e.symm
  · exact .inr (.inr h)
  · exact .inr (.inl h)
def Eff.rng : Eff → Option Rng
  | .none => Option.none
  | .put b off vs => some ⟨b, off, vs.length⟩
theorem setCell_comm (w : World) (b o b' o' : Nat) (v u : Value) (h : b ≠ b' ∨ o ≠ o') : (w.setCell ⟨b, o, none⟩ v).setCell ⟨b', o', none⟩ u = (w.setCell ⟨b', o', none⟩ u).setCell ⟨b, o, none⟩ v := by
  unfold World.setCell
  simp only [World.mk.injEq, and_true]
  apply Array.ext_getElem?
  intro i
  simp only [Array.getElem?_modify]
  by_cases h1 : b = i
  · by_cases h2 : b' = i
    · have h3 : o ≠ o' := by
        rcases h with h | h
        · exact absurd (h1.trans h2.symm) h
        · exact h
      simp only [h1, h2, if_true, Option.map_map]
      congr 1
      funext x
      cases x <;> simp [Array.setIfInBounds_comm _ _ h3]
    · simp only [h1, h2, if_true, if_false]
  · by_cases h2 : b' = i
    · simp only [h1, h2, if_true, if_false]
    · simp only [h1, h2, if_false]
theorem setCells_cell_comm (b b' o' : Nat) (u : Value) : ∀ (vs : List Value) (o : Nat) (w : World), (b ≠ b' ∨ o' < o ∨ o + vs.length ≤ o') → (w.setCells b o vs).setCell ⟨b', o', none⟩ u = (w.setCell ⟨b', o', none⟩ u).setCells b o vs
  | [], o, w, h => rfl
  | v :: vs, o, w, h => by
    rw [World.setCells, World.setCells, setCells_cell_comm b b' o' u vs (o + 1) _ (by
      rcases h with h | h | h
      · exact .inl h
      · exact .inr (.inl (by omega))
      · exact .inr (.inr (by rw [List.length_cons] at h; omega))), setCell_comm w b o b' o' v u (by
      rcases h with h | h | h
      · exact .inl h
      · exact .inr (by omega)
      · exact .inr (by rw [List.length_cons] at h; omega))]
theorem setCells_comm (b b' o : Nat) (vs : List Value) : ∀ (us : List Value) (o' : Nat) (w : World), (b ≠ b' ∨ o + vs.length ≤ o' ∨ o' + us.length ≤ o) → (w.setCells b o vs).setCells b' o' us = (w.setCells b' o' us).setCells b o vs
  | [], o', w, h => rfl
  | u :: us, o', w, h => by
    rw [World.setCells, World.setCells, setCells_cell_comm b b' o' u vs o w (by
      rcases h with h | h | h
      · exact .inl h
      · exact .inr (.inr h)
      · exact .inr (.inl (by rw [List.length_cons] at h; omega))), setCells_comm b b' o vs us (o' + 1) _ (by
      rcases h with h | h | h
      · exact .inl h
      · exact .inr (.inl (by omega))
      · exact .inr (.inr (by rw [List.length_cons] at h; omega)))]
theorem Eff.comm {e f : Eff} (h : ∀ x y, e.rng = some x → f.rng = some y → x.Apart y) (w : World) : f.app (e.app w) = e.app (f.app w) := by
  cases e with
  | none => rfl
  | put b o vs => cases f with
    | none => rfl
    | put b' o' us => exact setCells_comm b b' o vs us o' w (h ⟨b, o, vs.length⟩ ⟨b', o', us.length⟩ rfl rfl)
/-- The cells of a place are the same. -/
def SameAt (r : Rng) (w w' : World) : Prop := ∀ j, j < r.n → w'.cell? ⟨r.b, r.o + j, none⟩ = w.cell? ⟨r.b, r.o + j, none⟩
theorem Eff.same {e : Eff} {r : Rng} (h : ∀ x, e.rng = some x → x.Apart r) (w : World) : SameAt r w (e.app w) := by
  cases e with
  | none => exact fun j _ => rfl
  | put b o vs =>
    intro j hj
    refine World.cell?_setCells_out b vs o w _ fun h1 _ => ?_
    have := h ⟨b, o, vs.length⟩ rfl
    unfold Rng.Apart at this
    dsimp only at this h1 ⊢
    rcases this with h | h | h
    · exact absurd h1.symm h
    · exact .inr (by omega)
    · exact .inl (by omega)
/-- Blocks of the same shape. -/
def Alike (w w' : World) : Prop := ∀ (b n : Nat) (e : TypeId) (fz : Nat × Nat), (∃ xs, w.heap[b]? = some (.cells xs e fz) ∧ xs.size = n) ↔ ∃ xs, w'.heap[b]? = some (.cells xs e fz) ∧ xs.size = n
theorem Alike.refl (w : World) : Alike w w := fun _ _ _ _ => Iff.rfl
theorem Alike.symm {w w' : World} (h : Alike w w') : Alike w' w := fun b n e fz => (h b n e fz).symm
theorem Alike.trans {w w' w'' : World} (h : Alike w w') (h' : Alike w' w'') : Alike w w'' := fun b n e fz => (h b n e fz).trans (h' b n e fz)
theorem setCell_alike (w : World) (b o : Nat) (v : Value) : Alike w (w.setCell ⟨b, o, none⟩ v) := by
  intro c n e fz
  simp only [World.setCell, Array.getElem?_modify]
  by_cases h : b = c
  · simp only [h, if_true]
    cases hh : w.heap[c]? with
    | none => simp
    | some x =>
      cases x with
      | cells cs e' fz' =>
        simp only [Option.map_some, Option.some.injEq, Obj.cells.injEq]
        constructor
        · rintro ⟨xs, ⟨rfl, rfl, rfl⟩, rfl⟩
          exact ⟨_, ⟨rfl, rfl, rfl⟩, by simp⟩
        · rintro ⟨xs, ⟨rfl, rfl, rfl⟩, h2⟩
          exact ⟨_, ⟨rfl, rfl, rfl⟩, by simpa using h2⟩
      | _ => simp
  · simp only [h, if_false]
theorem setCells_alike (b : Nat) : ∀ (vs : List Value) (o : Nat) (w : World), Alike w (w.setCells b o vs)
  | [], o, w => .refl w
  | v :: vs, o, w => (setCell_alike w b o v).trans (setCells_alike b vs (o + 1) _)
theorem Eff.alike (e : Eff) (w : World) : Alike w (e.app w) := by
  cases e with
  | none => exact .refl w
  | put b o vs => exact setCells_alike b vs o w
def memE : Op → Bool
  | .load .. | .store .. => true
  | _ => false
theorem exec_same {o : Oper} (hq : (quietE o.op || memE o.op) = true) {f g : Operand → Value} (h : ∀ x ∈ o.op.operands.toList, f x = g x) : execOp f o = execOp g o := by
  obtain ⟨dst, op, type, pos, after, guard⟩ := o
  cases op
  case move x => have e := h x (by simp [Op.operands]); unfold execOp; dsimp only; rw [e]
  case assign x => have e := h x (by simp [Op.operands]); unfold execOp; dsimp only; rw [e]
  case nilCheck x => have e := h x (by simp [Op.operands]); unfold execOp; dsimp only; rw [e]
  case binOp op t x y yt => have e := h x (by simp [Op.operands]); have e2 := h y (by simp [Op.operands]); unfold execOp; dsimp only; rw [e, e2]
  case unOp op t x => have e := h x (by simp [Op.operands]); unfold execOp; dsimp only; rw [e]
  case fieldAddr t x f => have e := h x (by simp [Op.operands]); unfold execOp; dsimp only; rw [e]
  case field t x f => have e := h x (by simp [Op.operands]); unfold execOp; dsimp only; rw [e]
  case indexAddr t x y => have e := h x (by simp [Op.operands]); have e2 := h y (by simp [Op.operands]); unfold execOp; dsimp only; rw [e, e2]
  case index t x y => have e := h x (by simp [Op.operands]); have e2 := h y (by simp [Op.operands]); unfold execOp; dsimp only; rw [e, e2]
  case extract x i => have e := h x (by simp [Op.operands]); unfold execOp; dsimp only; rw [e]
  case load t x => have e := h x (by simp [Op.operands]); unfold execOp; dsimp only; rw [e]
  case store t x y => have e := h x (by simp [Op.operands]); have e2 := h y (by simp [Op.operands]); unfold execOp; dsimp only; rw [e, e2]
  case build t ps =>
    have e : ps.map (fun (i, x) => (i, f x)) = ps.map (fun (i, x) => (i, g x)) := by
      apply Array.map_congr_left
      intro p hp
      have := h p.2 (by simp [Op.operands]; exact ⟨p.1, by simpa using hp⟩)
      dsimp only
      rw [this]
    unfold execOp; dsimp only; rw [e]
  case slice t x lo hi mx =>
    have e := h x (by cases lo <;> cases hi <;> cases mx <;> simp [Op.operands])
    have e1 : lo.map f = lo.map g := by cases lo with | none => rfl | some q => exact congrArg some (h q (by cases hi <;> cases mx <;> simp [Op.operands]))
    have e2 : hi.map f = hi.map g := by cases hi with | none => rfl | some q => exact congrArg some (h q (by cases lo <;> cases mx <;> simp [Op.operands]))
    have e3 : mx.map f = mx.map g := by cases mx with | none => rfl | some q => exact congrArg some (h q (by cases lo <;> cases hi <;> simp [Op.operands]))
    unfold execOp; dsimp only; rw [e, e1, e2, e3]
  case call c =>
    obtain ⟨callee, args, argTypes⟩ := c
    cases callee with
    | builtin b =>
      have e : args.map f = args.map g := by
        apply Array.map_congr_left
        intro p hp
        exact h p (by simp [Op.operands, Call.operands]; exact hp)
      cases b <;> first
        | (cases hq; done)
        | (unfold execOp; dsimp only; unfold resolve; dsimp only; rw [e])
    | _ => cases hq
  all_goals (cases hq)
def SameOps (o : Oper) (a a' : Act) : Prop := ∀ t, Operand.tmp t ∈ o.op.operands.toList → a'.tmps.getD t undef = a.tmps.getD t undef
theorem SameOps.eval {o : Oper} {a a' : Act} (h : SameOps o a a') : ∀ x ∈ o.op.operands.toList, a'.eval x = a.eval x := by
  intro x hx
  cases x with
  | tmp t => exact h t hx
  | _ => rfl
/-- What an operation does, in whatever world in which what it reads is the same. -/
def Exec (P : Program) (o : Oper) (a : Act) (w : World) (u : Value) (r : Option Rng) (e : Eff) : Prop :=
  ∃ nx : Next, (nx = .value u ∨ (nx = .skip ∧ u = undef)) ∧ ∀ (a' : Act) (w' : World), SameOps o a a' → (∀ x, r = some x → SameAt x w w') → Alike w w' → (execOp a'.eval o).run P w' = .ok nx (e.app w')
section
variable [Wd] {P : Program} {cx : Cx} {G : Gh} {lh : List (Nat × PV)} {w : World}
theorem Exec.quiet {o : Oper} {a : Act} {u : Value} {s : Sem Value} (hq : (quietE o.op || memE o.op) = true) (he : execOp a.eval o = (do Pure.pure (Next.value (← s)))) (hs : ∀ w', s.run P w' = .ok u w') : Exec P o a w u none .none :=
  ⟨.value u, .inl rfl, fun a' w' ha _ _ => by rw [exec_same hq ha.eval, he, Sem.run_bind, hs]; rfl⟩
theorem Exec.pure {o : Oper} {a : Act} {u : Value} (hq : (quietE o.op || memE o.op) = true) (he : execOp a.eval o = Pure.pure (Next.value u)) : Exec P o a w u none .none :=
  ⟨.value u, .inl rfl, fun a' w' ha _ _ => by rw [exec_same hq ha.eval, he]; rfl⟩
set_option maxHeartbeats 1000000 in
theorem quiet_ok {X : Tbl} {T : Tabs} (hi : Inv cx G lh w) {o : Oper} (hq : quietE o.op = true) {a : Act} {xs : List PV} {v : PV} {f : Option (PV → PV)} {lh' : List (Nat × PV)}
    (hx : RepL' xs G w (o.op.operands.toList.map a.eval)) (h : (evOp0 P X T o xs lh).Is v f lh lh') : f = none ∧ lh' = lh ∧ ∃ u, Rep v G w u ∧ Exec P o a w u none .none := by
  have hq2 : (quietE o.op || memE o.op) = true := by rw [hq]; rfl
  have qt : ∀ {s : Sem Value}, execOp a.eval o = (do Pure.pure (Next.value (← s))) → Gives P s v G w → ∃ u, Rep v G w u ∧ Exec P o a w u none .none := fun he hg => by
    obtain ⟨u, h1, h2⟩ := hg
    exact ⟨u, h2, .quiet hq2 he h1⟩
  obtain ⟨dst, op, type, pos, after, guard⟩ := o
  cases op
  case move x =>
    obtain ⟨x0, rfl, h1⟩ := RepL'.one (u := a.eval x) hx
    obtain ⟨rfl, rfl, rfl⟩ := h
    exact ⟨rfl, rfl, _, typed_ok h1, .pure hq2 rfl⟩
  case assign x =>
    obtain ⟨x0, rfl, h1⟩ := RepL'.one (u := a.eval x) hx
    unfold evOp0 at h
    dsimp only at h
    split at h
    · rename_i e n hc hd hn
      have : (!nilConst x) = true := hq
      rw [hc] at this; cases this
    · obtain ⟨rfl, rfl, rfl⟩ := h
      exact ⟨rfl, rfl, _, h1, .pure hq2 rfl⟩
  case build t ps =>
    obtain ⟨h1, rfl, rfl⟩ := OpR.at_is h
    have hx' : RepL' xs G w ((ps.toList.map (·.2)).map a.eval) := by simpa [Op.operands] using hx
    refine ⟨rfl, rfl, qt (s := Instr.build t (ps.map fun (i, x) => (i, a.eval x))) rfl ?_⟩
    rw [map_parts]
    exact build_ok h1 hx'
  case nilCheck x =>
    obtain ⟨x0, rfl, h1⟩ := RepL'.one (u := a.eval x) hx
    unfold evOp0 at h
    dsimp only at h
    split at h
    · rename_i n off he
      injection he with he; subst he
      obtain ⟨rfl, rfl, rfl⟩ := h
      obtain ⟨b, h2, h3⟩ := h1
      refine ⟨rfl, rfl, a.eval x, ⟨b, h2, h3⟩, .pure hq2 ?_⟩
      unfold execOp
      dsimp only
      rw [h3]
    · rename_i g p q he
      injection he with he; subst he
      obtain ⟨rfl, rfl, rfl⟩ := h
      obtain ⟨us, vs, h2, h3, h4⟩ := h1
      refine ⟨rfl, rfl, a.eval x, ⟨us, vs, h2, h3, h4⟩, .pure hq2 ?_⟩
      unfold execOp
      dsimp only
      rw [h4]
    · exact h.elim
  case binOp op t x y yt =>
    obtain ⟨x0, y0, rfl, h1, h2⟩ := RepL'.two (u := a.eval x) (v := a.eval y) hx
    obtain ⟨h3, rfl, rfl⟩ := OpR.at_is h
    exact ⟨rfl, rfl, qt (s := binSem op t x y (a.eval x) (a.eval y)) rfl (bin_ok h3 h1 h2 x y)⟩
  case unOp op t x =>
    obtain ⟨x0, rfl, h1⟩ := RepL'.one (u := a.eval x) hx
    obtain ⟨h3, rfl, rfl⟩ := OpR.at_is h
    exact ⟨rfl, rfl, qt rfl (un_ok h3 h1)⟩
  case slice t x lo hi' mx =>
    cases mx with
    | some m => cases lo <;> cases hi' <;> exact h.elim
    | none =>
      cases lo with
      | none =>
        cases hi' with
        | none =>
          obtain ⟨x0, rfl, h1⟩ := RepL'.one (u := a.eval x) hx
          obtain ⟨h3, rfl, rfl⟩ := OpR.at_is h
          exact ⟨rfl, rfl, qt rfl (slice_ok h3 h1 trivial trivial)⟩
        | some b =>
          obtain ⟨x0, y0, rfl, h1, h2⟩ := RepL'.two (u := a.eval x) (v := a.eval b) hx
          obtain ⟨h3, rfl, rfl⟩ := OpR.at_is h
          exact ⟨rfl, rfl, qt rfl (slice_ok h3 h1 trivial (opt1 h2))⟩
      | some q =>
        cases hi' with
        | none =>
          obtain ⟨x0, y0, rfl, h1, h2⟩ := RepL'.two (u := a.eval x) (v := a.eval q) hx
          obtain ⟨h3, rfl, rfl⟩ := OpR.at_is h
          exact ⟨rfl, rfl, qt rfl (slice_ok h3 h1 (opt1 h2) trivial)⟩
        | some b =>
          obtain ⟨x0, y0, z0, rfl, h1, h2, h4⟩ := RepL'.three (u := a.eval x) (v := a.eval q) (q := a.eval b) hx
          obtain ⟨h3, rfl, rfl⟩ := OpR.at_is h
          exact ⟨rfl, rfl, qt rfl (slice_ok h3 h1 (opt1 h2) (opt1 h4))⟩
  case fieldAddr t x f =>
    obtain ⟨x0, rfl, h1⟩ := RepL'.one (u := a.eval x) hx
    obtain ⟨h3, rfl, rfl⟩ := OpR.at_is h
    exact ⟨rfl, rfl, qt rfl (fieldAddr_ok h3 h1)⟩
  case field t x f =>
    obtain ⟨x0, rfl, h1⟩ := RepL'.one (u := a.eval x) hx
    obtain ⟨h3, rfl, rfl⟩ := OpR.at_is h
    exact ⟨rfl, rfl, qt rfl (field_ok h3 h1)⟩
  case indexAddr t x y =>
    obtain ⟨x0, y0, rfl, h1, h2⟩ := RepL'.two (u := a.eval x) (v := a.eval y) hx
    obtain ⟨h3, rfl, rfl⟩ := OpR.at_is h
    exact ⟨rfl, rfl, qt rfl (indexAddr_ok h3 h1 h2)⟩
  case index t x y =>
    obtain ⟨x0, y0, rfl, h1, h2⟩ := RepL'.two (u := a.eval x) (v := a.eval y) hx
    obtain ⟨h3, rfl, rfl⟩ := OpR.at_is h
    exact ⟨rfl, rfl, qt rfl (index_ok h3 h1 h2)⟩
  case extract x i =>
    obtain ⟨x0, rfl, h1⟩ := RepL'.one (u := a.eval x) hx
    unfold evOp0 at h
    dsimp only at h
    split at h
    · rename_i l he
      injection he with he; subst he
      obtain ⟨h3, rfl, rfl⟩ := OpR.at_is h
      exact ⟨rfl, rfl, qt rfl (extract_ok h3 h1)⟩
    · exact h.elim
  case call c =>
    obtain ⟨callee, args, argTypes⟩ := c
    cases callee
    case builtin b =>
      cases b
      case len =>
        have hx' : RepL' xs G w (args.toList.map a.eval) := by simpa [Op.operands, Call.operands] using hx
        unfold evOp0 at h
        dsimp only at h
        cases h0 : argTypes[0]? with
        | none => rw [h0] at h; exact h.elim
        | some t =>
          rw [h0] at h
          dsimp only at h
          split at h
          · rename_i x0
            obtain ⟨h3, rfl, rfl⟩ := OpR.at_is h
            obtain ⟨u, us, hl, h1, h2⟩ := hx'
            obtain rfl : us = [] := h2
            obtain ⟨q, g1, g2⟩ := len_ok (ty := type) h0 h3 (typed_ok (P := P) (t := t) (tok := 0) h1)
            refine ⟨rfl, rfl, q, g2, .quiet hq2 (s := Builtin.len_ argTypes type #[u]) ?_ g1⟩
            show (do let d ← resolve a.eval ⟨.builtin .len, args, argTypes⟩ type; invoke d.target d.args) = _
            unfold resolve
            dsimp only
            have : args.map a.eval = #[u] := by apply Array.ext'; simpa using hl
            rw [this]
            rfl
          · exact h.elim
      all_goals (cases hq)
    all_goals (cases hq)
  all_goals (cases hq)
def PlAt (G : Gh) (p : Pl) (r : Rng) : Prop := match p with
  | .box n off len => G.σ n = some r.b ∧ off ≤ r.o ∧ r.o + r.n ≤ off + len
  | .mark t => G.τ t = some r.b
  | .still => (∀ n, G.σ n ≠ some r.b) ∧ ∀ t, G.τ t ≠ some r.b
theorem djPl_ok (hi : Inv cx G lh w) {p q : Pl} {r s : Rng} (h : djPl p q = true) (hp : PlAt G p r) (hq : PlAt G q s) : r.Apart s := by
  unfold djPl at h
  split at h
  · rename_i n o l n' o' l'
    obtain ⟨p1, p2, p3⟩ := hp
    obtain ⟨q1, q2, q3⟩ := hq
    rw [Bool.or_eq_true, Bool.or_eq_true] at h
    rcases h with h | h | h
    · refine .inl fun e => ?_
      rw [e] at p1
      rw [hi.injσ n n' s.b p1 q1, Nat.beq_refl] at h
      cases h
    · have := Nat.le_of_ble_eq_true h
      exact .inr (.inl (by omega))
    · have := Nat.le_of_ble_eq_true h
      exact .inr (.inr (by omega))
  · rename_i t t'
    refine .inl fun e => ?_
    have p1 : G.τ t = some r.b := hp
    have q1 : G.τ t' = some s.b := hq
    rw [e] at p1
    rw [hi.injτ t t' s.b p1 q1, Nat.beq_refl] at h
    cases h
  · cases h
  · rename_i h1 h2 h3
    refine .inl fun e => ?_
    cases p with
    | box n o l => cases q with
      | box n' o' l' => exact h1 _ _ _ _ _ _ rfl rfl
      | mark t => exact hi.disj n t r.b hp.1 (by rw [e]; exact hq)
      | still => exact hq.1 n (by rw [← e]; exact hp.1)
    | mark t => cases q with
      | box n' o' l' => exact hi.disj n' t s.b hq.1 (by rw [← e]; exact hp)
      | mark t' => exact h2 _ _ rfl rfl
      | still => exact hq.2 t (by rw [← e]; exact hp)
    | still => cases q with
      | box n' o' l' => exact hp.1 n' (by rw [e]; exact hq.1)
      | mark t => exact hp.2 t (by rw [e]; exact hq)
      | still => exact h3 rfl rfl
/-- What is read at a place within a value: in whatever world that has its cells. -/
theorem load_partW {t : TypeId} {x : PV} {off : Nat} {u : Value} (h : Full x G w u) (hne : partV P t x off ≠ .undef) :
    ∃ v, (∀ (w' : World) (b : Nat), (∀ j c, j < (if aggT P t = true then sizeT P t else 1) → u.cells[off + j]? = some c → w'.cell? ⟨b, off + j, none⟩ = some c) → (Instr.loadAt t (.pointer (some ⟨b, off, none⟩))).run P w' = .ok v w') ∧ Full (partV P t x off) G w v ∧ ∀ j, j < (if aggT P t = true then sizeT P t else 1) → ∃ c, u.cells[off + j]? = some c := by
  unfold partV at hne ⊢
  dsimp only at hne ⊢
  split at hne
  · rename_i h1 h2 h3 h4
    obtain ⟨v, f, hl, hw⟩ := getAt_rep (wh := aggT P t) (sz := sizeT P t) h hne
    obtain ⟨vs, rfl⟩ := isAgg_agg f h3
    have hs : vs.size = sizeT P t := by
      have := f.wid
      rw [Nat.eq_of_beq_eq_true h4] at this
      exact this
    refine ⟨_, fun w' b hc => ?_, f, fun j hj => ?_⟩
    · have hld := run_loadCells_list (P := P) w' ⟨b, off, none⟩ vs.toList (fun j c hj => by
        rw [Addr.add_lit]
        have hj' : vs[j]? = some c := by simpa using hj
        have hlt : j < vs.size := (Array.getElem?_eq_some_iff.1 hj').1
        refine hc j c (by rw [if_pos h2]; omega) ?_
        rw [hl j (by simpa [Value.cells] using hlt)]
        simpa [Value.cells] using hj')
      rw [Array.length_toList, hs] at hld
      unfold Instr.loadAt loadVar
      simp only [Sem.run_bind, Instr.sureAddr, Sem.run_pure, Result.andThen_ok, run_isAgg h1, h2, if_true, run_size h1, hld, Array.toArray_toList]
    · rw [if_pos h2] at hj
      refine ⟨vs[j]'(by omega), ?_⟩
      rw [hl j (by simpa [Value.cells] using (by omega : j < vs.size))]
      simp [Value.cells, show j < vs.size by omega]
  · rename_i h1 h2 h3
    obtain ⟨v, f, hl, hw⟩ := getAt_rep (wh := aggT P t) (sz := sizeT P t) h hne
    have hf := f.rep.one h3 hne
    have h0 := hl 0 (by rw [cells_one hf]; simp)
    rw [cells_one hf] at h0
    refine ⟨v, fun w' b hc => ?_, f, fun j hj => ?_⟩
    · have := hc 0 v (by rw [if_neg (by rw [h2]; decide)]; decide) (by rw [h0]; rfl)
      rw [Nat.add_zero] at this
      unfold Instr.loadAt loadVar
      simp only [Sem.run_bind, Instr.sureAddr, Sem.run_pure, Result.andThen_ok, run_isAgg h1, h2]
      simp only [Bool.false_eq_true, if_false, run_load]
      rw [this]
    · rw [if_neg (by rw [h2]; decide)] at hj
      obtain rfl : j = 0 := by omega
      exact ⟨v, by rw [h0]; rfl⟩
  · exact absurd rfl hne
theorem load_exec {X : Tbl} {T : Tabs} (hi : Inv cx G lh w) {o : Oper} {t : TypeId} {x : Operand} (ho : o.op = .load t x) {a : Act} {xs : List PV} {v : PV} {f : Option (PV → PV)} {lh' : List (Nat × PV)}
    (hx : RepL' xs G w (o.op.operands.toList.map a.eval)) (h : (evOp0 P X T o xs lh).Is v f lh lh') {p : Pl} (hp : plL P t (xs.getD 0 .undef) = some p) : f = none ∧ lh' = lh ∧ ∃ u r, Rep v G w u ∧ Exec P o a w u (some r) .none ∧ PlAt G p r := by
  have hq2 : (quietE o.op || memE o.op) = true := by rw [ho]; rfl
  have he : execOp a.eval o = (do Pure.pure (Next.value (← Instr.loadAt t (a.eval x)))) := by unfold execOp; rw [ho]
  rw [ho] at hx
  obtain ⟨x0, rfl, h1⟩ := RepL'.one (u := a.eval x) hx
  replace hp : plL P t x0 = some p := hp
  unfold evOp0 at h
  rw [ho] at h
  obtain ⟨h2, rfl, rfl⟩ := OpR.at_is (show (loadR P T lh t x0).at.Is v f lh lh' from h)
  refine ⟨rfl, rfl, ?_⟩
  have exec : ∀ {u : Value} {r : Rng}, (∀ w', SameAt r w w' → (Instr.loadAt t (a.eval x)).run P w' = .ok u w') → Exec P o a w u (some r) .none := fun {u r} hr =>
    ⟨.value u, .inl rfl, fun a' w' ha hs _ => by rw [exec_same hq2 ha.eval, he, Sem.run_bind, hr w' (hs r rfl)]; rfl⟩
  unfold plL at hp
  split at hp
  · rename_i n off
    injection hp with hp; subst hp
    unfold loadR at h2
    split at h2
    · rename_i hh; cases hh
    · rename_i hh; cases hh
    · rename_i n' off' hht hh
      injection hh with e1 e2; subst e1; subst e2
      split at h2
      · rename_i c hc
        obtain ⟨rfl, hne⟩ := okV_is h2
        obtain ⟨bk, g1, g2⟩ := h1
        obtain ⟨b', q1, u, e, fz, q2, q3, q4, q5, q6⟩ := hi.box n c hc
        rw [g1] at q1; injection q1 with q1; subst q1
        obtain ⟨v, r1, r2, r3⟩ := load_partW (P := P) ⟨q4, q5, q6⟩ hne
        refine ⟨v, ⟨bk, off, if aggT P t = true then sizeT P t else 1⟩, r2.rep, exec fun w' hs => ?_, g1, Nat.le_refl _, by
          show off + (if aggT P t = true then sizeT P t else 1) ≤ off + _
          cases aggT P t <;> exact Nat.le_refl _⟩
        rw [g2]
        refine r1 w' bk fun j q hj hq => ?_
        rw [hs j hj]
        unfold World.cell?
        rw [q2]
        exact hq
      · exact h2.bad.elim
    all_goals first | (rename_i hh; cases hh; done) | (exact h2.bad.elim)
  · rename_i r i
    injection hp with hp; subst hp
    unfold loadR at h2
    split at h2
    · rename_i r' u' i' hht hh
      injection hh with e1 e2 e3; subst e1; subst e2; subst e3
      split at h2
      · rename_i hct
        rw [← h2.ok]
        obtain ⟨b, o', cap, g1, g2, g3, g4⟩ := h1
        have hlt : i.toNat < r.vals.length := by rw [BRow.len_eq] at g3; omega
        have hg := get_vals r G w hlt
        rw [Int.toNat_of_nonneg g2] at hg
        rcases g4 with ⟨-, g4⟩ | ⟨g4, -⟩
        · have hF := g4 i.toNat _ (List.getElem?_eq_getElem hlt)
          have hcell := hi.fits _ _ _ hF
          refine ⟨_, ⟨b, o' + i.toNat, 1⟩, hg, exec fun w' hs => ?_, fun n hn => ?_, fun tk ht => ?_⟩
          · rw [g1]
            refine load_cell hct ?_
            have := hs 0 Nat.zero_lt_one
            rw [Nat.add_zero] at this
            dsimp only at this
            rw [this]; exact hcell
          · obtain ⟨-, k2, -⟩ := hi.boxF n b hn
            rw [k2] at hF; cases hF
          · obtain ⟨-, -, k2, -⟩ := hi.mark tk b ht
            rw [k2] at hF; cases hF
        · exact absurd rfl g4
      · exact h2.bad.elim
    all_goals first | (rename_i hh; cases hh; done) | (exact h2.bad.elim)
  · cases hp
theorem store_at {b off : Nat} {xs : Array Value} {e : TypeId} {fz : Nat × Nat} {vs : List Value} (h1 : w.heap[b]? = some (.cells xs e fz)) (h2 : Clear fz xs.size) (h3 : off + vs.length ≤ xs.size) (h4 : ∀ v ∈ vs, flatV v = true) {w' : World} (ha : Alike w w') :
    (storeCells ⟨b, off, none⟩ vs).run P w' = .ok () (w'.setCells b off vs) := by
  obtain ⟨ys, g1, g2⟩ := (ha b xs.size e fz).1 ⟨xs, h1, rfl⟩
  exact store_run g1 (by rw [g2]; exact h2) (by rw [g2]; exact h3) h4
theorem store_okW {t : TypeId} {x y v : PV} {f : Option (PV → PV)} {lh' : List (Nat × PV)} {a b : Value} (hi : Inv cx G lh w) (h : (storeS P t x y lh).Is v f lh lh') (ha : Rep x G w a) (hb : Rep y G w b) {p : Pl} (hp : plS P t x lh = some p) :
    ∃ bk o vs, (∀ w', Alike w w' → (Instr.storeAt t a b).run P w' = .ok () (w'.setCells bk o vs)) ∧ Turns cx G w f lh' G (w.setCells bk o vs) ∧ v = .tup [] ∧ PlAt G p ⟨bk, o, vs.length⟩ := by
  unfold storeS at h
  unfold plS at hp
  split at h
  · rename_i n off
    injection hp with hp; subst hp
    split at h
    · rename_i c hc
      split at h
      · rename_i c' hk hs
        obtain ⟨rfl, rfl, rfl⟩ := h
        simp only [Bool.and_eq_true] at hk
        obtain ⟨⟨⟨k1, k2⟩, k3⟩, k4⟩ := hk
        have fy : Full (typed P t 0 y) G w b := Full.fit (typed_ok hb) (typed_fit k2)
        obtain ⟨bk, h1, rfl⟩ := ha
        obtain ⟨b', h2, u, e, fz, h3, h4, h5, h6, h7⟩ := hi.box n c hc
        rw [h1] at h2; injection h2 with h2; subst h2
        obtain ⟨u', q1, q2, q3, -⟩ := setAt_ok fy (fit_of k4).2 ⟨h5, h6, h7⟩ hs
        have hvs : b.cells.size = sizeT P t := by rw [fy.wid]; exact Nat.eq_of_beq_eq_true k1
        refine ⟨bk, off, b.cells.toList, fun w' hal => ?_, written hi hc h1 h3 h4 q1 q2 (by simpa using q3), rfl, h1, Nat.le_refl _, by dsimp only; rw [Array.length_toList, hvs]; exact Nat.le_refl _⟩
        unfold Instr.storeAt storeVar
        simp only [Sem.run_bind, Instr.sureAddr, Sem.run_pure, Result.andThen_ok, run_size k3]
        rw [if_neg (by omega)]
        exact store_at h3 h4 (by simpa using q3) (fun q hq => fy.flat q hq) hal
      · exact h.elim
    · exact h.elim
  · rename_i n off z
    split at h
    · rename_i c hc
      split at h
      · rename_i m r hr
        split at h
        · rename_i r' hct hs
          split at h
          · rename_i c' hpa
            obtain ⟨⟨hz, ho⟩, rfl, rfl, rfl⟩ := h
            obtain ⟨h0, bk, h1, rfl⟩ := ha
            obtain ⟨b', h2, u, e, fz, h3, h4, h5, h6, h7⟩ := hi.box n c hc
            rw [h1] at h2; injection h2 with h2; subst h2
            obtain ⟨k1, -⟩ := arrAt_ok ⟨h5, h6, h7⟩ hr
            obtain ⟨g1, g2, g3⟩ := set_vals hs ho hb
            have hlt : z.toNat < r.vals.length := by unfold within at hz; omega
            obtain ⟨u', q1, q2, q3⟩ := putArr_ok g1 g2 hlt ⟨h5, h6, h7⟩ hr hpa
            obtain ⟨c1, c2, c3⟩ := cellT_of hct
            dsimp only at hp
            rw [hc] at hp
            dsimp only at hp
            rw [hr] at hp
            injection hp with hp; subst hp
            refine ⟨bk, off + z.toNat, [b], fun w' hal => ?_, written hi hc h1 h3 h4 q1 q2 (by simpa using q3), rfl, h1, by dsimp only; omega, by dsimp only; rw [List.length_singleton]; omega⟩
            unfold Instr.storeAt storeVar
            simp only [Sem.run_bind, Instr.sureAddr, Sem.run_pure, Result.andThen_ok, run_size c1, c2, cells_one g2]
            rw [if_neg (by simp)]
            exact store_at h3 h4 (by simpa using q3) (fun q hq => by
              have : q = b := by simpa using hq
              rw [this]; exact g2) hal
          · exact h.elim
        · exact h.elim
      · exact h.elim
    · exact h.elim
  · rename_i r u0 z
    split at h
    · rename_i u r' hct hs
      injection hp with hp; subst hp
      obtain ⟨ho, rfl, rfl, rfl⟩ := h
      obtain ⟨bk, o, cap, rfl, h0, hzl, hat⟩ := ha
      rcases hat with ⟨hu, -⟩ | ⟨hu, hτ, hcell, xs, e, fz, hbk, ⟨rfl, hsz⟩, hclr⟩
      · cases hu
      obtain ⟨c1, c2, c3⟩ := cellT_of hct
      have hzt : z.toNat < r.vals.length := by rw [BRow.len_eq] at hzl; omega
      have hzx : z.toNat < xs.size := by
        have h5 := hcell z.toNat _ (List.getElem?_eq_getElem hzt)
        unfold World.cell? at h5
        rw [hbk] at h5
        have h6 : xs[0 + z.toNat]? = some _ := h5
        have := (Array.getElem?_eq_some_iff.1 h6).1
        omega
      have hfl : flatV b = true := set_flat hs hb
      have hnew := setCells_heap [b] z.toNat w bk xs e fz hbk
      refine ⟨bk, z.toNat, [b], fun w' hal => ?_, laid_ok hi hτ hbk hnew hzx (World.os_setCells ..) (setCells_tape ..) (World.output_setCells ..) (setCells_size ..) (fun k hk => setCells_other w bk _ _ k hk) ho hb, rfl, hτ⟩
      unfold Instr.storeAt storeVar
      simp only [Sem.run_bind, Instr.sureAddr, Sem.run_pure, Result.andThen_ok, run_size c1, c2, cells_one hfl]
      rw [if_neg (by simp), Nat.zero_add]
      exact store_at hbk hclr (by simp; omega) (fun q hq => by
        have : q = b := by simpa using hq
        rw [this]; exact hfl) hal
    · exact h.elim
  · exact h.elim
theorem store_exec {X : Tbl} {T : Tabs} (hi : Inv cx G lh w) {o : Oper} {t : TypeId} {x y : Operand} (ho : o.op = .store t x y) {a : Act} {xs : List PV} {v : PV} {f : Option (PV → PV)} {lh' : List (Nat × PV)}
    (hx : RepL' xs G w (o.op.operands.toList.map a.eval)) (h : (evOp0 P X T o xs lh).Is v f lh lh') {p : Pl} (hp : plS P t (xs.getD 0 .undef) lh = some p) :
    ∃ e r, Exec P o a w undef none e ∧ Turns cx G w f lh' G (e.app w) ∧ Rep v G (e.app w) undef ∧ e.rng = some r ∧ PlAt G p r := by
  have hq2 : (quietE o.op || memE o.op) = true := by rw [ho]; rfl
  have he : execOp a.eval o = (do Instr.storeAt t (a.eval x) (a.eval y); Pure.pure Next.skip) := by unfold execOp; rw [ho]
  rw [ho] at hx
  obtain ⟨x0, y0, rfl, h1, h2⟩ := RepL'.two (u := a.eval x) (v := a.eval y) hx
  unfold evOp0 at h
  rw [ho] at h
  obtain ⟨bk, off, vs, r1, r2, rfl, r3⟩ := store_okW hi (show (storeS P t x0 y0 lh).Is v f lh lh' from h) h1 h2 hp
  exact ⟨.put bk off vs, _, ⟨.skip, .inr ⟨rfl, rfl⟩, fun a' w' ha _ hal => by rw [exec_same hq2 ha.eval, he, Sem.run_bind, r1 w' hal]; rfl⟩, r2, ⟨[], rfl, rfl⟩, rfl, r3⟩
end
end Go.Vc


/- A calculus of Go's functions by their values: regions with stores whose order is left open. -/
namespace Go.Vc
open Go.RowKit

variable [Wd] {P : Program} {cx : Cx} {G : Gh} {w : World}
/-- What is told of an operation without a turn. -/
def StepQ (P : Program) (X : Tbl) (T : Tabs) (ops : List Oper) (o : Oper) (s : VS) (v : PV) : Prop :=
  evOp P X T o (operandsV ops o s) s.lh = .val v ∨ ∃ p, evOp P X T o (operandsV ops o s) s.lh = .vneed p v ∧ (match o.guard with | none => p | some g => underG ops s 9 (some g) p)
inductive LineE (P : Program) (X : Tbl) (T : Tabs) (ops : List Oper) (bf : List Nat) (i : Nat) (o : Oper) (s s' : VS) (v : PV) : Option (Bool × Pl) → Prop
  | bar (f : Option (PV → PV)) (lh : List (Nat × PV)) (hb : barB ops bf i = true) (e : s' = pushL o v (s.turn f lh)) (h : BarOk P X T ops o s v f lh) : LineE P X T ops bf i o s s' v none
  | quiet (hb : barB ops bf i = false) (hq : quietE o.op = true) (e : s' = pushL o v s) (h : StepQ P X T ops o s v) : LineE P X T ops bf i o s s' v none
  | load (t : TypeId) (x : Operand) (p : Pl) (hb : barB ops bf i = false) (hq : o.op = .load t x) (hp : plL P t ((operandsV ops o s).getD 0 .undef) = some p) (e : s' = pushL o v s) (h : StepQ P X T ops o s v) : LineE P X T ops bf i o s s' v (some (false, p))
  | store (t : TypeId) (x y : Operand) (p : Pl) (f : Option (PV → PV)) (lh : List (Nat × PV)) (hb : barB ops bf i = false) (hq : o.op = .store t x y) (hg : o.guard = none) (hp : plS P t ((operandsV ops o s).getD 0 .undef) s.lh = some p) (e : s' = pushL o v (s.turn f lh)) (h : (evOp P X T o (operandsV ops o s) s.lh).Is v f s.lh lh) : LineE P X T ops bf i o s s' v (some (true, p))
/-- Two places that are met are apart, or their order is told. -/
def PairOk (bf : List Nat) (j : Nat) (x : Option (Bool × Pl)) (i : Nat) (y : Option (Bool × Pl)) : Prop := ∀ a p b q, x = some (a, p) → y = some (b, q) → (a || b) = true → inMask (bf.getD j 0) i = true ∨ djPl p q = true
theorem metOk_pair {bf : List Nat} {j : Nat} {st : Bool} {p : Pl} {ms : Mets} (h : metOk (bf.getD j 0) st p ms = true) {e : Nat × Bool × Pl} (he : e ∈ ms) : PairOk bf j (some (st, p)) e.1 (some e.2) := by
  intro a p' b q h1 h2 hab
  injection h1 with h1; injection h1 with h1 h1'; subst h1; subst h1'
  injection h2 with h2
  have := List.all_eq_true.1 h e he
  rw [Bool.or_eq_true, Bool.or_eq_true] at this
  rw [h2] at this
  rcases this with h | h | h
  · exact .inl h
  · cases st <;> cases b <;> first | (cases hab; done) | (cases h; done)
  · exact .inr h
theorem evE_trace {X : Tbl} {T : Tabs} {ops : List Oper} {bf : List Nat} {K : VS → Prop} : ∀ (rest : List Oper) (i : Nat) (ms : Mets) (s : VS), evE P X T ops bf rest i ms s K →
    ∃ (st : Nat → VS) (vl : Nat → PV) (pf : Nat → Option (Bool × Pl)), st 0 = s ∧ (∀ j o, rest[j]? = some o → LineE P X T ops bf (i + j) o (st j) (st (j + 1)) (vl j) (pf j)) ∧
      (∀ j, j < rest.length → (∀ q, q ≤ j → barB ops bf (i + q) = false) → ∀ e ∈ ms, PairOk bf (i + j) (pf j) e.1 (some e.2)) ∧
      (∀ j1 j2, j1 < j2 → j2 < rest.length → (∀ q, j1 ≤ q → q ≤ j2 → barB ops bf (i + q) = false) → PairOk bf (i + j2) (pf j2) (i + j1) (pf j1)) ∧ K (st rest.length)
  | [], i, ms, s, h => ⟨fun _ => s, fun _ => .undef, fun _ => none, rfl, fun j o hj => by simp at hj, fun j hj => absurd hj (Nat.not_lt_zero _), fun j1 j2 _ hj => absurd hj (Nat.not_lt_zero _), h⟩
  | o :: os, i, ms, s, h => by
    have go : ∀ v s' x ms', LineE P X T ops bf i o s s' v x → (barB ops bf i = false → (∀ e ∈ ms, e ∈ ms') ∧ (∀ e ∈ ms, PairOk bf i x e.1 (some e.2)) ∧ ∀ y, x = some y → (i, y) ∈ ms') → evE P X T ops bf os (i + 1) ms' s' K → ∃ (st : Nat → VS) (vl : Nat → PV) (pf : Nat → Option (Bool × Pl)), st 0 = s ∧ (∀ j q, (o :: os)[j]? = some q → LineE P X T ops bf (i + j) q (st j) (st (j + 1)) (vl j) (pf j)) ∧
        (∀ j, j < (o :: os).length → (∀ q, q ≤ j → barB ops bf (i + q) = false) → ∀ e ∈ ms, PairOk bf (i + j) (pf j) e.1 (some e.2)) ∧
        (∀ j1 j2, j1 < j2 → j2 < (o :: os).length → (∀ q, j1 ≤ q → q ≤ j2 → barB ops bf (i + q) = false) → PairOk bf (i + j2) (pf j2) (i + j1) (pf j1)) ∧ K (st (o :: os).length) := by
      intro v s' x ms' hv hm he
      obtain ⟨st, vl, pf, h1, h2, h3, h4, h5⟩ := evE_trace os (i + 1) ms' _ he
      refine ⟨fun | 0 => s | j + 1 => st j, fun | 0 => v | j + 1 => vl j, fun | 0 => x | j + 1 => pf j, rfl, fun j q hj => ?_, fun j hj hb e he => ?_, fun j1 j2 hlt hj hb => ?_, h5⟩
      · cases j with
        | zero =>
          have : o = q := by simpa using hj
          subst this
          show LineE P X T ops bf i o s (st 0) v x
          rw [h1]; exact hv
        | succ j =>
          have := h2 j q (by simpa using hj)
          show LineE P X T ops bf (i + (j + 1)) q (st j) (st (j + 1)) (vl j) (pf j)
          rw [show i + (j + 1) = i + 1 + j by omega]; exact this
      · have hb0 : barB ops bf i = false := hb 0 (Nat.zero_le _)
        obtain ⟨m1, m2, m3⟩ := hm hb0
        cases j with
        | zero => exact m2 e he
        | succ j =>
          have := h3 j (by simpa using hj) (fun q hq => by have := hb (q + 1) (by omega); rwa [show i + (q + 1) = i + 1 + q by omega] at this) e (m1 e he)
          show PairOk bf (i + (j + 1)) (pf j) e.1 (some e.2)
          rw [show i + (j + 1) = i + 1 + j by omega]; exact this
      · cases j2 with
        | zero => omega
        | succ j2 =>
          cases j1 with
          | zero =>
            have hb0 : barB ops bf i = false := hb 0 (Nat.zero_le _) (Nat.zero_le _)
            obtain ⟨m1, m2, m3⟩ := hm hb0
            show PairOk bf (i + (j2 + 1)) (pf j2) i x
            intro a p b q e1 e2 hab
            have := h3 j2 (by simpa using hj) (fun r hr => by have := hb (r + 1) (by omega) (by omega); rwa [show i + (r + 1) = i + 1 + r by omega] at this) (i, b, q) (m3 (b, q) e2) a p b q e1 rfl hab
            rw [show i + (j2 + 1) = i + 1 + j2 by omega]; exact this
          | succ j1 =>
            have := h4 j1 j2 (by omega) (by simpa using hj) (fun r hr hr2 => by have := hb (r + 1) (by omega) (by omega); rwa [show i + (r + 1) = i + 1 + r by omega] at this)
            show PairOk bf (i + (j2 + 1)) (pf j2) (i + (j1 + 1)) (pf j1)
            rw [show i + (j2 + 1) = i + 1 + j2 by omega, show i + (j1 + 1) = i + 1 + j1 by omega]; exact this
    have nobar : ∀ {Q : Prop}, barB ops bf i = true → barB ops bf i = false → Q := fun h1 h2 => by rw [h1] at h2; cases h2
    have nopl : ∀ e ∈ ms, PairOk bf i none e.1 (some e.2) := fun e _ a p b q h => by cases h
    unfold evE at h
    split at h
    · rename_i hb
      split at h
      · rename_i v hev
        rw [forceV_eq] at h
        exact go v _ none [] (.bar none s.lh hb rfl (.inr ⟨rfl, rfl, .inl hev⟩)) (nobar hb) h
      · rename_i p v hev hg
        rw [forceV_eq] at h
        exact go v _ none [] (.bar none s.lh hb rfl (.inr ⟨rfl, rfl, .inr ⟨p, hev, by rw [hg]; exact h.1⟩⟩)) (nobar hb) h.2
      · rename_i p v g hev hg
        rw [forceV_eq] at h
        exact go v _ none [] (.bar none s.lh hb rfl (.inr ⟨rfl, rfl, .inr ⟨p, hev, by rw [hg]; exact h.1⟩⟩)) (nobar hb) h.2
      · rename_i v f lh hev hg
        rw [forceV_eq] at h
        exact go v _ none [] (.bar f lh hb rfl (.inl ⟨hg, by rw [hev]; exact ⟨rfl, rfl, rfl⟩⟩)) (nobar hb) h
      · rename_i p v f lh hev hg
        rw [forceV_eq] at h
        exact go v _ none [] (.bar f lh hb rfl (.inl ⟨hg, by rw [hev]; exact ⟨h.1, rfl, rfl, rfl⟩⟩)) (nobar hb) h.2
      · exact h.elim
    · rename_i hb
      split at h
      · rename_i hq
        split at h
        · rename_i v hev
          rw [forceV_eq] at h
          exact go v _ none ms (.quiet hb hq rfl (.inl hev)) (fun _ => ⟨fun _ h => h, nopl, fun y e => by cases e⟩) h
        · rename_i p v hev hg
          rw [forceV_eq] at h
          exact go v _ none ms (.quiet hb hq rfl (.inr ⟨p, hev, by rw [hg]; exact h.1⟩)) (fun _ => ⟨fun _ h => h, nopl, fun y e => by cases e⟩) h.2
        · rename_i p v g hev hg
          rw [forceV_eq] at h
          exact go v _ none ms (.quiet hb hq rfl (.inr ⟨p, hev, by rw [hg]; exact h.1⟩)) (fun _ => ⟨fun _ h => h, nopl, fun y e => by cases e⟩) h.2
        · exact h.elim
      · split at h
        · rename_i t x hop
          split at h
          · rename_i p hp
            split at h
            · rename_i hm
              have mets : ∀ {x : Option (Bool × Pl)}, x = some (false, p) → barB ops bf i = false → (∀ e ∈ ms, e ∈ (i, false, p) :: ms) ∧ (∀ e ∈ ms, PairOk bf i x e.1 (some e.2)) ∧ ∀ y, x = some y → (i, y) ∈ (i, false, p) :: ms := fun hx _ => by
                subst hx
                exact ⟨fun e he => List.mem_cons_of_mem _ he, fun e he => metOk_pair hm he, fun y e => by injection e with e; subst e; exact List.mem_cons_self ..⟩
              split at h
              · rename_i v hev
                rw [forceV_eq] at h
                exact go v _ _ _ (.load t x p hb hop hp rfl (.inl hev)) (mets rfl) h
              · rename_i q v hev hg
                rw [forceV_eq] at h
                exact go v _ _ _ (.load t x p hb hop hp rfl (.inr ⟨q, hev, by rw [hg]; exact h.1⟩)) (mets rfl) h.2
              · rename_i q v g hev hg
                rw [forceV_eq] at h
                exact go v _ _ _ (.load t x p hb hop hp rfl (.inr ⟨q, hev, by rw [hg]; exact h.1⟩)) (mets rfl) h.2
              · exact h.elim
            · exact h.elim
          · exact h.elim
        · rename_i t x y hop
          split at h
          · rename_i p hp
            split at h
            · rename_i hm
              have mets : ∀ {x : Option (Bool × Pl)}, x = some (true, p) → barB ops bf i = false → (∀ e ∈ ms, e ∈ (i, true, p) :: ms) ∧ (∀ e ∈ ms, PairOk bf i x e.1 (some e.2)) ∧ ∀ y, x = some y → (i, y) ∈ (i, true, p) :: ms := fun hx _ => by
                subst hx
                exact ⟨fun e he => List.mem_cons_of_mem _ he, fun e he => metOk_pair hm he, fun y e => by injection e with e; subst e; exact List.mem_cons_self ..⟩
              split at h
              · rename_i v f lh hev hg
                rw [forceV_eq] at h
                exact go v _ _ _ (.store t x y p f lh hb hop hg hp rfl (by rw [hev]; exact ⟨rfl, rfl, rfl⟩)) (mets rfl) h
              · rename_i q v f lh hev hg
                rw [forceV_eq] at h
                exact go v _ _ _ (.store t x y p f lh hb hop hg hp rfl (by rw [hev]; exact ⟨h.1, rfl, rfl, rfl⟩)) (mets rfl) h.2
              · exact h.elim
            · exact h.elim
          · exact h.elim
        · exact h.elim
end Go.Vc


/- A calculus of Go's functions by their values: stores in any order. -/
namespace Go.Vc
variable [Wd]
open Go.RowKit

/-- What the operations of a set lay on a world, in line. -/
def layS (es : Nat → Eff) (S : Nat → Bool) (c : Nat) : Nat → World → World
  | 0, w => w
  | n + 1, w => if S (c + n) = true then (es (c + n)).app (layS es S c n w) else layS es S c n w
theorem layS_congr {es : Nat → Eff} {S S' : Nat → Bool} {c : Nat} {w : World} : ∀ {n : Nat}, (∀ i, i < n → S (c + i) = S' (c + i)) → layS es S c n w = layS es S' c n w
  | 0, h => rfl
  | n + 1, h => by
    unfold layS
    rw [h n (Nat.lt_succ_self n), layS_congr fun i hi => h i (by omega)]
theorem layS_alike {es : Nat → Eff} {S : Nat → Bool} {c : Nat} {w : World} : ∀ {n : Nat}, Alike w (layS es S c n w)
  | 0 => .refl w
  | n + 1 => by
    unfold layS
    split
    · exact layS_alike.trans (Eff.alike _ _)
    · exact layS_alike
def EApart (e f : Eff) : Prop := ∀ x y, e.rng = some x → f.rng = some y → x.Apart y
/-- One more is laid. -/
theorem layS_add {es : Nat → Eff} {S : Nat → Bool} {c k : Nat} {w : World} (hk : S k = false) (hck : c ≤ k) : ∀ {n : Nat}, k < c + n → (∀ i, k < i → i < c + n → S i = true → EApart (es k) (es i)) → layS es (addS S k) c n w = (es k).app (layS es S c n w)
  | 0, h, _ => by omega
  | n + 1, h, hap => by
    by_cases e : k = c + n
    · subst e
      unfold layS
      rw [addS_self, if_pos rfl, hk, if_neg (by decide)]
      rw [layS_congr (S := addS S (c + n)) (S' := S) fun i hi => addS_of (by omega)]
    · unfold layS
      rw [layS_add hk hck (n := n) (by omega) fun i h1 h2 h3 => hap i h1 (by omega) h3, addS_of (fun h => e h.symm)]
      split
      · rename_i hs
        exact Eff.comm (hap (c + n) (by omega) (by omega) hs) _
      · rfl
theorem SameAt.refl (r : Rng) (w : World) : SameAt r w w := fun _ _ => rfl
theorem SameAt.trans {r : Rng} {w w' w'' : World} (h : SameAt r w w') (h' : SameAt r w' w'') : SameAt r w w'' := fun j hj => (h' j hj).trans (h j hj)
theorem SameAt.symm {r : Rng} {w w' : World} (h : SameAt r w w') : SameAt r w' w := fun j hj => (h j hj).symm
/-- What is laid behind, and elsewhere. -/
theorem layS_behind {es : Nat → Eff} {S : Nat → Bool} {c d : Nat} {w : World} {r : Rng} : ∀ {n : Nat}, (∀ i, d ≤ i → i < n → S (c + i) = true → ∀ x, (es (c + i)).rng = some x → x.Apart r) → d ≤ n → SameAt r (layS es S c d w) (layS es S c n w)
  | 0, h, hd => by
    obtain rfl : d = 0 := by omega
    exact .refl _ _
  | n + 1, h, hd => by
    by_cases e : d = n + 1
    · subst e; exact .refl _ _
    · have ih := layS_behind (es := es) (S := S) (c := c) (d := d) (w := w) (r := r) (n := n) (fun i h1 h2 => h i h1 (by omega)) (by omega)
      rw [layS]
      split
      · rename_i hs
        exact ih.trans (Eff.same (h n (by omega) (by omega) hs) _)
      · exact ih
/-- What is laid more of those ahead, and elsewhere. -/
theorem layS_ahead {es : Nat → Eff} {S : Nat → Bool} {c n : Nat} {w : World} {r : Rng} (h1 : ∀ i, i < n → S (c + i) = false → ∀ x, (es (c + i)).rng = some x → x.Apart r) (h2 : ∀ i j, i < n → S (c + i) = false → c + i < j → j < c + n → S j = true → EApart (es (c + i)) (es j)) :
    ∀ {d : Nat}, d ≤ n → SameAt r (layS es S c n w) (layS es (fun i => S i || decide (c ≤ i ∧ i < c + d)) c n w)
  | 0, hd => by
    rw [layS_congr (S := fun i => S i || decide (c ≤ i ∧ i < c + 0)) (S' := S) fun i hi => by
      rw [decide_eq_false (by omega), Bool.or_false]]
    exact .refl _ _
  | d + 1, hd => by
    have ih := layS_ahead h1 h2 (w := w) (r := r) (d := d) (by omega)
    cases hs : S (c + d) with
    | true =>
      rw [layS_congr (S := fun i => S i || decide (c ≤ i ∧ i < c + (d + 1))) (S' := fun i => S i || decide (c ≤ i ∧ i < c + d)) fun i hi => by
        by_cases e : i = d
        · subst e; simp [hs]
        · have : decide (c ≤ c + i ∧ c + i < c + (d + 1)) = decide (c ≤ c + i ∧ c + i < c + d) := by
            rw [decide_eq_decide]; omega
          rw [this]]
      exact ih
    | false =>
      have e : layS es (fun i => S i || decide (c ≤ i ∧ i < c + (d + 1))) c n w = layS es (addS (fun i => S i || decide (c ≤ i ∧ i < c + d)) (c + d)) c n w := layS_congr fun i hi => by
        unfold addS
        by_cases e : i = d
        · subst e; simp
        · have : decide (c ≤ c + i ∧ c + i < c + (d + 1)) = decide (c ≤ c + i ∧ c + i < c + d) := by
            rw [decide_eq_decide]; omega
          rw [this, decide_eq_false (show ¬ (c + i = c + d) by omega), Bool.or_false]
      rw [e, layS_add (by rw [hs, decide_eq_false (by omega)]; rfl) (by omega) (by omega) fun i h3 h4 h5 => ?_]
      · exact ih.trans (Eff.same (h1 d (by omega) hs) _)
      · rw [Bool.or_eq_true, decide_eq_true_iff] at h5
        rcases h5 with h5 | h5
        · exact h2 d i (by omega) hs h3 h4 h5
        · omega
section
variable {P : Program} {cx : Cx} {G : Gh} {w : World} {ops : Array Oper} {N k c m : Nat} {s s0 : VS} {a : Act} {vl : Nat → PV} {st : Nat → VS} {S : Nat → Bool} {X : Tbl} {T : Tabs} {pf : Nat → Option (Bool × Pl)}
/-- A stretch without one that stands apart, carried out in line. -/
structure RunE (P : Program) (cx : Cx) (G : Gh) (ops : Array Oper) (N : Nat) (st : Nat → VS) (pf : Nat → Option (Bool × Pl)) (c m : Nat) (aL : Nat → Act) (wL : Nat → World) (us : Nat → Value) (es : Nat → Eff) (rs : Nat → Option Rng) : Prop where
  rel : ∀ k, c ≤ k → k ≤ m → LRel cx G ops N k (st k) (aL k) (wL k)
  act : ∀ k o, c ≤ k → k < m → ops[k]? = some o → aL (k + 1) = (aL k).put o.dst (us k)
  wor : ∀ k, c ≤ k → k < m → wL (k + 1) = (es k).app (wL k)
  on : ∀ k o, c ≤ k → k < m → ops[k]? = some o → GuardOn ops (aL k).tmps o.guard → Exec P o (aL k) (wL k) (us k) (rs k) (es k)
  off : ∀ k o, c ≤ k → k < m → ops[k]? = some o → ¬ GuardOn ops (aL k).tmps o.guard → us k = undef ∧ es k = .none
  rd : ∀ k r, c ≤ k → k < m → rs k = some r → ∃ p, pf k = some (false, p) ∧ PlAt G p r
  wr : ∀ k r, c ≤ k → k < m → (es k).rng = some r → ∃ p, pf k = some (true, p) ∧ PlAt G p r
theorem stepQ_is (h : LRel cx G ops N k s a w) (hr : RegFit ops N) {o : Oper} (ho : ops[k]? = some o) {v : PV} (hs : StepQ P X T ops.toList o s v) (hg : GuardOn ops a.tmps o.guard) : (evOp P X T o (operandsV ops.toList o s) s.lh).Is v none s.lh s.lh := by
  rcases hs with hs | ⟨p, hs, hp⟩
  · rw [hs]; exact ⟨rfl, rfl, rfl⟩
  · rw [hs]
    refine ⟨?_, rfl, rfl, rfl⟩
    cases hgd : o.guard with
    | none => rw [hgd] at hp; exact hp
    | some g =>
      rw [hgd] at hp hg
      exact underG_ok h hr 9 (some g) p hp (by rw [← hgd]; exact hr.guard k o ho) hg
theorem operandsV_map {ops : List Oper} {o : Oper} {s : VS} (h : (quietE o.op || memE o.op) = true) : operandsV ops o s = o.op.operands.toList.map (operandV ops o.guard s) := by
  unfold operandsV
  split
  · rename_i c x y e
    rw [e] at h; cases h
  · rfl
/-- One step in line. -/
theorem line_step (h : LRel cx G ops N k s a w) (hr : RegFit ops N) {o : Oper} (ho : ops[k]? = some o) {bf : List Nat} {s' : VS} {v : PV} {x : Option (Bool × Pl)} (hnb : barB ops.toList bf k = false) (hl : LineE P X T ops.toList bf k o s s' v x) :
    ∃ u e r, LRel cx G ops N (k + 1) s' (a.put o.dst u) (e.app w) ∧ (GuardOn ops a.tmps o.guard → Exec P o a w u r e) ∧ (¬ GuardOn ops a.tmps o.guard → u = undef ∧ e = .none) ∧ (∀ q, r = some q → ∃ p, x = some (false, p) ∧ PlAt G p q) ∧ (∀ q, e.rng = some q → ∃ p, x = some (true, p) ∧ PlAt G p q) := by
  have hk : ∀ i b, o.guard = some (i, b) → i < k := hr.guard k o ho
  have offc : ∀ v, ¬ GuardOn ops a.tmps o.guard → s' = pushL o v s → ∃ u e r, LRel cx G ops N (k + 1) s' (a.put o.dst u) (e.app w) ∧ (GuardOn ops a.tmps o.guard → Exec P o a w u r e) ∧ (¬ GuardOn ops a.tmps o.guard → u = undef ∧ e = .none) ∧ (∀ q, r = some q → ∃ p, x = some (false, p) ∧ PlAt G p q) ∧ (∀ q, e.rng = some q → ∃ p, x = some (true, p) ∧ PlAt G p q) := fun v hng e => by
    subst e
    exact ⟨undef, .none, none, h.push hr ho (.refl h.inv) (v := v) (u := undef) (fun hg => absurd hg hng) (fun _ => rfl), fun hg => absurd hg hng, fun _ => ⟨rfl, rfl⟩, fun q e => (by cases e), fun q e => (by cases e)⟩
  cases hl with
  | bar f lh hb => rw [hb] at hnb; cases hnb
  | quiet hb hq e hs =>
    by_cases hg : GuardOn ops a.tmps o.guard
    · have hI := calm_is (stepQ_is h hr ho hs hg)
      rw [operandsV_map (by rw [hq]; rfl)] at hI
      obtain ⟨-, -, u, hv, hE⟩ := quiet_ok h.inv hq (h.operands hr hk hg _) hI
      subst e
      exact ⟨u, .none, none, h.push hr ho (.refl h.inv) (fun _ => hv) (fun hng => absurd hg hng), fun _ => hE, fun hng => absurd hg hng, fun q e => (by cases e), fun q e => (by cases e)⟩
    · exact offc v hg e
  | load t y p hb hq hp e hs =>
    by_cases hg : GuardOn ops a.tmps o.guard
    · have hI := calm_is (stepQ_is h hr ho hs hg)
      have hmem : (quietE o.op || memE o.op) = true := by rw [hq]; rfl
      rw [operandsV_map hmem] at hI hp
      obtain ⟨-, -, u, r, hv, hE, hP⟩ := load_exec h.inv hq (h.operands hr hk hg _) hI hp
      subst e
      exact ⟨u, .none, some r, h.push hr ho (.refl h.inv) (fun _ => hv) (fun hng => absurd hg hng), fun _ => hE, fun hng => absurd hg hng, fun q e => (by injection e with e; subst e; exact ⟨p, rfl, hP⟩), fun q e => (by cases e)⟩
    · exact offc v hg e
  | store t y z p f lh hb hq hgd hp e hs =>
    have hg : GuardOn ops a.tmps o.guard := by rw [hgd]; trivial
    have hI := calm_is hs
    have hmem : (quietE o.op || memE o.op) = true := by rw [hq]; rfl
    rw [operandsV_map hmem] at hI hp
    obtain ⟨ef, r, hE, hT, hv, hrg, hP⟩ := store_exec h.inv hq (h.operands hr hk hg _) hI hp
    subst e
    exact ⟨undef, ef, none, h.push hr ho hT (fun _ => hv) (fun hng => absurd hg hng), fun _ => hE, fun hng => absurd hg hng, fun q e => (by cases e), fun q e => (by rw [hrg] at e; injection e with e; subst e; exact ⟨p, rfl, hP⟩)⟩
/-- So, up to a place. -/
theorem run_line (hr : RegFit ops N) {bf : List Nat} (hl : ∀ j o, ops[j]? = some o → LineE P X T ops.toList bf j o (st j) (st (j + 1)) (vl j) (pf j)) (hc : LRel cx G ops N c (st c) a w) (hcm : c ≤ m) (hm : m ≤ ops.size) (hnb : ∀ i, c ≤ i → i < m → barB ops.toList bf i = false) :
    ∃ aL wL us es rs, RunE P cx G ops N st pf c m aL wL us es rs ∧ aL c = a ∧ wL c = w := by
  obtain ⟨d, rfl⟩ : ∃ d, m = c + d := ⟨m - c, by omega⟩
  clear hcm
  induction d with
  | zero =>
    refine ⟨fun _ => a, fun _ => w, fun _ => undef, fun _ => .none, fun _ => none, ⟨fun k h1 h2 => ?_, fun k o h1 h2 => by omega, fun k h1 h2 => by omega, fun k o h1 h2 => by omega, fun k o h1 h2 => by omega, fun k r h1 h2 => by omega, fun k r h1 h2 => by omega⟩, rfl, rfl⟩
    obtain rfl : k = c := by omega
    exact hc
  | succ d ih =>
    obtain ⟨aL, wL, us, es, rs, R, e1, e2⟩ := ih (by omega) fun i h1 h2 => hnb i h1 (by omega)
    obtain ⟨o, ho⟩ : ∃ o, ops[c + d]? = some o := ⟨_, Array.getElem?_eq_getElem (by omega)⟩
    obtain ⟨u, e, r, g1, g2, g3, g4, g5⟩ := line_step (R.rel (c + d) (by omega) (Nat.le_refl _)) hr ho (hnb (c + d) (by omega) (by omega)) (hl _ o ho)
    refine ⟨fun i => if i = c + d + 1 then (aL (c + d)).put o.dst u else aL i, fun i => if i = c + d + 1 then e.app (wL (c + d)) else wL i, fun i => if i = c + d then u else us i, fun i => if i = c + d then e else es i, fun i => if i = c + d then r else rs i, ⟨fun k h1 h2 => ?_, fun k q h1 h2 hq => ?_, fun k h1 h2 => ?_, fun k q h1 h2 hq hg => ?_, fun k q h1 h2 hq hg => ?_, fun k q h1 h2 hq => ?_, fun k q h1 h2 hq => ?_⟩, ?_, ?_⟩
    · by_cases e : k = c + d + 1
      · subst e
        try dsimp only
        rw [if_pos rfl, if_pos rfl]
        exact g1
      · try dsimp only
        rw [if_neg e, if_neg e]
        exact R.rel k h1 (by omega)
    · try dsimp only
      rw [if_neg (show ¬ k = c + d + 1 by omega)]
      by_cases e : k = c + d
      · subst e
        rw [ho] at hq; injection hq with hq; subst hq
        rw [if_pos rfl, if_pos rfl]
      · rw [if_neg (by omega), if_neg e]
        exact R.act k q h1 (by omega) hq
    · try dsimp only
      rw [if_neg (show ¬ k = c + d + 1 by omega)]
      by_cases e : k = c + d
      · subst e
        rw [if_pos rfl, if_pos rfl]
      · rw [if_neg (by omega), if_neg e]
        exact R.wor k h1 (by omega)
    · try dsimp only at hg ⊢
      rw [if_neg (show ¬ k = c + d + 1 by omega)] at hg ⊢
      rw [if_neg (show ¬ k = c + d + 1 by omega)]
      by_cases e : k = c + d
      · subst e
        rw [ho] at hq; injection hq with hq; subst hq
        rw [if_pos rfl, if_pos rfl, if_pos rfl]
        exact g2 hg
      · rw [if_neg e, if_neg e, if_neg e]
        exact R.on k q h1 (by omega) hq hg
    · try dsimp only at hg ⊢
      rw [if_neg (show ¬ k = c + d + 1 by omega)] at hg
      by_cases e : k = c + d
      · subst e
        rw [ho] at hq; injection hq with hq; subst hq
        rw [if_pos rfl, if_pos rfl]
        exact g3 hg
      · rw [if_neg e, if_neg e]
        exact R.off k q h1 (by omega) hq hg
    · try dsimp only at hq
      by_cases e : k = c + d
      · subst e
        rw [if_pos rfl] at hq
        exact g4 q hq
      · rw [if_neg e] at hq
        exact R.rd k q h1 (by omega) hq
    · try dsimp only at hq
      by_cases e : k = c + d
      · subst e
        rw [if_pos rfl] at hq
        exact g5 q hq
      · rw [if_neg e] at hq
        exact R.wr k q h1 (by omega) hq
    · try dsimp only
      rw [if_neg (by omega)]; exact e1
    · try dsimp only
      rw [if_neg (by omega)]; exact e2
end
end Go.Vc


/- A calculus of Go's functions by their values: stores in any order, all of them. -/
namespace Go.Vc
variable [Wd]
open Go.RowKit
section
variable {P : Program} {cx : Cx} {G : Gh} {w : World} {ops : Array Oper} {N k c m : Nat} {s s0 : VS} {a : Act} {vl : Nat → PV} {st : Nat → VS} {S : Nat → Bool} {X : Tbl} {T : Tabs} {pf : Nat → Option (Bool × Pl)} {aL : Nat → Act} {wL : Nat → World} {us : Nat → Value} {es : Nat → Eff} {rs : Nat → Option Rng}

/-- What the temporaries are, in line. -/
theorem RunE.at (R : RunE P cx G ops N st pf c m aL wL us es rs) (hr : RegFit ops N) (hm : m ≤ ops.size) : ∀ k, c ≤ k → k ≤ m → (∀ i o t, c ≤ i → i < k → ops[i]? = some o → o.dst = some t → (aL k).tmps.getD t undef = us i) ∧ (∀ t, (∀ i o, c ≤ i → i < k → ops[i]? = some o → o.dst ≠ some t) → (aL k).tmps.getD t undef = (aL c).tmps.getD t undef) ∧ (aL k).tmps.size = (aL c).tmps.size ∧ (aL k).defers = (aL c).defers ∧ { aL k with tmps := #[] } = { aL c with tmps := #[] }
  | 0, h1, h2 => by
    obtain rfl : c = 0 := by omega
    exact ⟨fun i o t h3 h4 => by omega, fun t _ => rfl, rfl, rfl, rfl⟩
  | k + 1, h1, h2 => by
    by_cases e : c = k + 1
    · subst e
      exact ⟨fun i o t h3 h4 => by omega, fun t _ => rfl, rfl, rfl, rfl⟩
    · obtain ⟨i1, i2, i3, i4, i5⟩ := R.at hr hm k (by omega) (by omega)
      obtain ⟨o, ho⟩ : ∃ o, ops[k]? = some o := ⟨_, Array.getElem?_eq_getElem (by omega)⟩
      have ha := R.act k o (by omega) (by omega) ho
      rw [ha]
      refine ⟨fun i q t h3 h4 hq hd => ?_, fun t hn => ?_, by rw [put_size]; exact i3, by rw [put_defers]; exact i4, ?_⟩
      · by_cases e : i = k
        · subst e
          rw [ho] at hq; injection hq with hq; subst hq
          have hlt : t < (aL i).tmps.size := Nat.lt_of_lt_of_le (hr.lt i o t ho hd) (R.rel i (by omega) (by omega)).size
          rw [hd, put_same hlt]
        · rw [put_getD (fun e2 => hr.apart i k q o t hq ho e hd e2)]
          exact i1 i q t h3 (by omega) hq hd
      · rw [put_getD (hn k o (by omega) (Nat.lt_succ_self k) ho)]
        exact i2 t fun i q h3 h4 hq => hn i q h3 (by omega) hq
      · rw [← i5]
        cases o.dst <;> rfl
theorem RunE.world (R : RunE P cx G ops N st pf c m aL wL us es rs) : ∀ d, c + d ≤ m → wL (c + d) = layS es (fun _ => true) c d (wL c)
  | 0, _ => rfl
  | d + 1, h => by
    rw [show c + (d + 1) = c + d + 1 from rfl, R.wor (c + d) (by omega) (by omega), R.world d (by omega)]
    rfl
/-- Some operations of a stretch are carried out. -/
structure WRel (ops : Array Oper) (c m : Nat) (aL : Nat → Act) (wL : Nat → World) (us : Nat → Value) (es : Nat → Eff) (S : Nat → Bool) (a : Act) (w : World) : Prop where
  tA : ∀ i o t, c ≤ i → S i = true → ops[i]? = some o → o.dst = some t → a.tmps.getD t undef = us i
  tB : ∀ t, (∀ i o, c ≤ i → S i = true → ops[i]? = some o → o.dst ≠ some t) → a.tmps.getD t undef = (aL c).tmps.getD t undef
  wor : w = layS es S c (m - c) (wL c)
  low : ∀ i, i < c → S i = true
  high : ∀ i, S i = true → i < m
  down : ∀ i o e, S i = true → ops[i]? = some o → e ∈ o.after → Region.binds .any e = true → S e.on = true
  size : a.tmps.size = (aL c).tmps.size
  rest : { a with tmps := #[] } = { aL c with tmps := #[] }
theorem WRel.reads (h : WRel ops c m aL wL us es S a w) (of : OFit ops N) {o : Oper} (ho : ops[k]? = some o) (hok : ∀ e ∈ o.after, Region.binds .any e = true → S e.on = true) {t : Tmp} (ht : t ∈ readsOf ops.toList o) :
    (∀ i q, i < k → ops[i]? = some q → q.dst = some t → S i = true) ∧ (S k = false → ∀ i q, S i = true → ops[i]? = some q → q.dst = some t → i < k) := by
  have ho' : ops.toList[k]? = some o := by rw [Array.getElem?_toList]; exact ho
  refine ⟨fun i q hi hq hd => ?_, fun hk i q hS hq hd => ?_⟩
  · have hq' : ops.toList[i]? = some q := by rw [Array.getElem?_toList]; exact hq
    rcases of.opn.ap i k q o hi hq' ho' with h1 | h1
    · exact of.below h.down k o i ho hok h1
    · exact absurd ht (apartB_left h1 hd).1
  · have hq' : ops.toList[i]? = some q := by rw [Array.getElem?_toList]; exact hq
    refine Classical.byContradiction fun hlt => ?_
    have hne : i ≠ k := fun e => by rw [e, hk] at hS; cases hS
    rcases of.opn.ap k i o q (by omega) ho' hq' with h1 | h1
    · have := of.below h.down i q k hq (fun e he hb => h.down i q e hS hq he hb) h1
      rw [hk] at this; cases this
    · exact absurd ht (apartB_right h1 hd)
/-- What is read is as it is in line. -/
theorem WRel.read (h : WRel ops c m aL wL us es S a w) (R : RunE P cx G ops N st pf c m aL wL us es rs) (of : OFit ops N) (hm : m ≤ ops.size) (hck : c ≤ k) (hkm : k ≤ m) {o : Oper} (ho : ops[k]? = some o) (hno : S k = false) (hok : ∀ e ∈ o.after, Region.binds .any e = true → S e.on = true) {t : Tmp} (ht : t ∈ readsOf ops.toList o) : a.tmps.getD t undef = (aL k).tmps.getD t undef := by
  obtain ⟨r1, r2⟩ := h.reads of ho hok ht
  obtain ⟨l1, l2, -⟩ := R.at of.fit hm k hck hkm
  by_cases e : ∃ i q, c ≤ i ∧ S i = true ∧ ops[i]? = some q ∧ q.dst = some t
  · obtain ⟨i, q, g1, g2, g3, g4⟩ := e
    rw [h.tA i q t g1 g2 g3 g4, l1 i q t g1 (r2 hno i q g2 g3 g4) g3 g4]
  · rw [h.tB t fun i q g1 g2 g3 g4 => e ⟨i, q, g1, g2, g3, g4⟩, l2 t fun i q g1 g2 g3 g4 => e ⟨i, q, g1, r1 i q g2 g3 g4, g3, g4⟩]
theorem getElem_of {x y : Array Value} (hs : x.size = y.size) {t : Nat} (h : x.getD t undef = y.getD t undef) : x[t]? = y[t]? := by
  by_cases ht : t < x.size
  · rw [Array.getD, dif_pos ht, Array.getD, dif_pos (by omega)] at h
    rw [Array.getElem?_eq_getElem ht, Array.getElem?_eq_getElem (by omega)]
    exact congrArg some h
  · rw [Array.getElem?_eq_none (by omega), Array.getElem?_eq_none (by omega)]
theorem WRel.guardOn (h : WRel ops c m aL wL us es S a w) (R : RunE P cx G ops N st pf c m aL wL us es rs) (of : OFit ops N) (hm : m ≤ ops.size) (hck : c ≤ k) (hkm : k ≤ m) {o : Oper} (ho : ops[k]? = some o) (hno : S k = false) (hok : ∀ e ∈ o.after, Region.binds .any e = true → S e.on = true) : GuardOn ops a.tmps o.guard ↔ GuardOn ops (aL k).tmps o.guard := by
  unfold GuardOn
  cases hg : o.guard with
  | none => exact Iff.rfl
  | some p =>
    obtain ⟨j, b⟩ := p
    obtain ⟨q, d, hq, hd⟩ := of.gdst k o ho j b hg
    have hs : a.tmps.size = (aL k).tmps.size := by rw [h.size, (R.at of.fit hm k hck hkm).2.2.1]
    have he := getElem_of hs (h.read R of hm hck hkm ho hno hok (reads_guard hg (by rw [Array.getElem?_toList]; exact hq) hd))
    dsimp only
    unfold yielded
    rw [hq]
    simp only [Option.bind_some, hd, he]
theorem unforced {i j : Nat} (of : OFit ops N) (h : WRel ops c m aL wL us es S a w) {o : Oper} (ho : ops[j]? = some o) (hi : S i = false) (hj : S j = true) : inMask ((befores ops.toList).getD j 0) i = false := by
  cases hm : inMask ((befores ops.toList).getD j 0) i with
  | false => rfl
  | true =>
    have := of.below h.down j o i ho (fun e he hb => h.down j o e hj ho he hb) hm
    rw [hi] at this; cases this
/-- Two of which only the one behind is carried out: they do not touch each other. -/
theorem apart_of (R : RunE P cx G ops N st pf c m aL wL us es rs) (of : OFit ops N) (hm : m ≤ ops.size) (hpr : ∀ i j, c ≤ i → i < j → j < m → PairOk (befores ops.toList) j (pf j) i (pf i)) {i j : Nat} (hci : c ≤ i) (hij : i < j) (hjm : j < m) (hu : inMask ((befores ops.toList).getD j 0) i = false) :
    EApart (es i) (es j) ∧ (∀ r x, rs j = some r → (es i).rng = some x → x.Apart r) ∧ ∀ r x, rs i = some r → (es j).rng = some x → x.Apart r := by
  have hv := (R.rel c (Nat.le_refl _) (by omega)).inv
  refine ⟨fun x y h1 h2 => ?_, fun r x h1 h2 => ?_, fun r x h1 h2 => ?_⟩
  · obtain ⟨p, q1, q2⟩ := R.wr i x hci (by omega) h1
    obtain ⟨p', q3, q4⟩ := R.wr j y (by omega) hjm h2
    rcases hpr i j hci hij hjm _ _ _ _ q3 q1 rfl with h | h
    · rw [hu] at h; cases h
    · exact (djPl_ok hv h q4 q2).symm
  · obtain ⟨p, q1, q2⟩ := R.wr i x hci (by omega) h2
    obtain ⟨p', q3, q4⟩ := R.rd j r (by omega) hjm h1
    rcases hpr i j hci hij hjm _ _ _ _ q3 q1 rfl with h | h
    · rw [hu] at h; cases h
    · exact (djPl_ok hv h q4 q2).symm
  · obtain ⟨p, q1, q2⟩ := R.rd i r hci (by omega) h1
    obtain ⟨p', q3, q4⟩ := R.wr j x (by omega) hjm h2
    rcases hpr i j hci hij hjm _ _ _ _ q3 q1 rfl with h | h
    · rw [hu] at h; cases h
    · exact djPl_ok hv h q4 q2
/-- What is read of memory is as it is in line. -/
theorem WRel.same (h : WRel ops c m aL wL us es S a w) (R : RunE P cx G ops N st pf c m aL wL us es rs) (of : OFit ops N) (hm : m ≤ ops.size) (hpr : ∀ i j, c ≤ i → i < j → j < m → PairOk (befores ops.toList) j (pf j) i (pf i)) (hck : c ≤ k) (hkm : k < m) {o : Oper} (ho : ops[k]? = some o) (hno : S k = false) (hok : ∀ e ∈ o.after, Region.binds .any e = true → S e.on = true) {r : Rng} (hrk : rs k = some r) : SameAt r (wL k) w := by
  obtain ⟨d, rfl⟩ : ∃ d, k = c + d := ⟨k - c, by omega⟩
  have get : ∀ j, j < m → ∃ q, ops[j]? = some q := fun j hj => ⟨_, Array.getElem?_eq_getElem (by omega)⟩
  have hkf : ∀ i, i < c + d → S i = false → inMask ((befores ops.toList).getD (c + d) 0) i = false := fun i hi hs => by
    cases hmm : inMask ((befores ops.toList).getD (c + d) 0) i with
    | false => rfl
    | true =>
      have := of.below h.down (c + d) o i ho hok hmm
      rw [hs] at this; cases this
  have a1 : SameAt r (layS es S c d (wL c)) (layS es (fun i => S i || decide (c ≤ i ∧ i < c + d)) c d (wL c)) := layS_ahead (fun i hi hs x hx => (apart_of R of hm hpr (by omega) (show c + i < c + d by omega) (by omega) (hkf (c + i) (by omega) hs)).2.1 r x hrk hx)
    (fun i j hi hs h1 h2 h3 => by
      obtain ⟨q, hq⟩ := get j (by omega)
      exact (apart_of R of hm hpr (by omega) h1 (by omega) (unforced of h hq hs h3)).1) (Nat.le_refl _)
  have a2 : layS es (fun i => S i || decide (c ≤ i ∧ i < c + d)) c d (wL c) = wL (c + d) := by
    rw [R.world d (by omega)]
    exact layS_congr fun i hi => by rw [decide_eq_true (by omega)]; simp
  have a3 : SameAt r (layS es S c d (wL c)) (layS es S c (m - c) (wL c)) := layS_behind (fun i h1 h2 h3 x hx => by
    by_cases e : i = d
    · subst e; rw [hno] at h3; cases h3
    · obtain ⟨q, hq⟩ := get (c + i) (by omega)
      exact (apart_of R of hm hpr hck (show c + d < c + i by omega) (by omega) (unforced of h hq hno h3)).2.2 r x hrk hx) (by omega)
  rw [h.wor, ← a2]
  exact a1.symm.trans a3
theorem WRel.alike (h : WRel ops c m aL wL us es S a w) (R : RunE P cx G ops N st pf c m aL wL us es rs) (hck : c ≤ k) (hkm : k ≤ m) : Alike (wL k) w := by
  obtain ⟨d, rfl⟩ : ∃ d, k = c + d := ⟨k - c, by omega⟩
  rw [h.wor, R.world d hkm]
  exact layS_alike.symm.trans layS_alike
/-- One more. -/
theorem WRel.push (h : WRel ops c m aL wL us es S a w) (R : RunE P cx G ops N st pf c m aL wL us es rs) (of : OFit ops N) (hm : m ≤ ops.size) (hpr : ∀ i j, c ≤ i → i < j → j < m → PairOk (befores ops.toList) j (pf j) i (pf i)) (hck : c ≤ k) (hkm : k < m) {o : Oper} (ho : ops[k]? = some o) (hno : S k = false) (hok : ∀ e ∈ o.after, Region.binds .any e = true → S e.on = true) : WRel ops c m aL wL us es (addS S k) (a.put o.dst (us k)) ((es k).app w) := by
  have inA : ∀ {i}, addS S k i = true → i = k ∨ (i ≠ k ∧ S i = true) := fun {i} hi => by
    by_cases e : i = k
    · exact .inl e
    · rw [addS_of e] at hi; exact .inr ⟨e, hi⟩
  have hsz : k < ops.size := by omega
  refine ⟨fun i q t hci hi hq hd => ?_, fun t hn => ?_, ?_, fun i hi => ?_, fun i hi => ?_, fun i q e hi hq he hb => ?_, by rw [put_size]; exact h.size, ?_⟩
  · rcases inA hi with rfl | ⟨hne, hS⟩
    · rw [ho] at hq; injection hq with hq; subst hq
      have hlt : t < a.tmps.size := by
        rw [h.size]
        exact Nat.lt_of_lt_of_le (of.fit.lt i o t ho hd) (R.rel c (Nat.le_refl _) (by omega)).size
      rw [hd, put_same hlt]
    · rw [put_getD (fun e2 => of.fit.apart i k q o t hq ho hne hd e2)]
      exact h.tA i q t hci hS hq hd
  · rw [put_getD (hn k o hck addS_self ho)]
    exact h.tB t fun i q hci hS hq => by
      by_cases e : i = k
      · subst e; rw [hno] at hS; cases hS
      · exact hn i q hci (by rw [addS_of e]; exact hS) hq
  · rw [h.wor, layS_add hno hck (by omega) fun i h1 h2 h3 => ?_]
    obtain ⟨q, hq⟩ : ∃ q, ops[i]? = some q := ⟨_, Array.getElem?_eq_getElem (by omega)⟩
    exact (apart_of R of hm hpr hck h1 (by omega) (unforced of h hq hno h3)).1
  · unfold addS; rw [h.low i hi]; rfl
  · rcases inA hi with rfl | ⟨-, hS⟩
    · exact hkm
    · exact h.high i hS
  · rcases inA hi with rfl | ⟨-, hS⟩
    · rw [ho] at hq; injection hq with hq; subst hq
      have := hok e he hb
      unfold addS; rw [this]; rfl
    · have := h.down i q e hS hq he hb
      unfold addS; rw [this]; rfl
  · rw [← h.rest]
    cases o.dst <;> rfl
/-- All up to a place: it is as in line. -/
theorem WRel.all (h : WRel ops c m aL wL us es S a w) (R : RunE P cx G ops N st pf c m aL wL us es rs) (of : OFit ops N) (hm : m ≤ ops.size) (hcm : c ≤ m) (hall : ∀ i, i < m → S i = true) : a = aL m ∧ w = wL m := by
  obtain ⟨l1, l2, l3, l4, l5⟩ := R.at of.fit hm m hcm (Nat.le_refl _)
  constructor
  · have ht : a.tmps = (aL m).tmps := by
      apply Array.ext_getElem?
      intro t
      refine getElem_of (by rw [h.size, l3]) ?_
      by_cases e : ∃ i q, c ≤ i ∧ i < m ∧ ops[i]? = some q ∧ q.dst = some t
      · obtain ⟨i, q, g1, g2, g3, g4⟩ := e
        rw [h.tA i q t g1 (hall i g2) g3 g4, l1 i q t g1 g2 g3 g4]
      · rw [h.tB t fun i q g1 g2 g3 g4 => e ⟨i, q, g1, h.high i g2, g3, g4⟩, l2 t fun i q g1 g2 g3 g4 => e ⟨i, q, g1, g2, g3, g4⟩]
    have := h.rest.trans l5.symm
    have e1 : a = { ({ a with tmps := #[] } : Act) with tmps := a.tmps } := rfl
    have e2 : aL m = { ({ aL m with tmps := #[] } : Act) with tmps := (aL m).tmps } := rfl
    rw [e1, e2, this, ht]
  · obtain ⟨d, rfl⟩ : ∃ d, m = c + d := ⟨m - c, by omega⟩
    rw [h.wor, R.world d (Nat.le_refl _)]
    have : c + d - c = d := by omega
    rw [this]
    exact layS_congr fun i (hi : i < d) => hall (c + i) (by omega)
/-- A stretch begins. -/
theorem WRel.start (of : OFit ops N) (hcm : c ≤ m) (hS : ∀ i, S i = true ↔ i < c) : WRel ops c m aL wL us es S (aL c) (wL c) :=
  ⟨fun i o t hi hs => by have := (hS i).1 hs; omega, fun t _ => rfl, by
    rw [layS_congr (S := S) (S' := fun _ => false) fun i hi => by
      cases h : S (c + i) with
      | false => rfl
      | true => have := (hS _).1 h; omega]
    have : ∀ n w, layS es (fun _ => false) c n w = w := fun n w => by
      induction n with
      | zero => rfl
      | succ n ih => unfold layS; rw [if_neg (by decide)]; exact ih
    exact (this _ _).symm, fun i hi => (hS i).2 hi, fun i hi => by have := (hS i).1 hi; omega, fun i o e hs ho he hb => (hS _).2 (by have := of.opn.dn i o e (by rw [Array.getElem?_toList]; exact ho) he hb; have := (hS i).1 hs; omega), rfl, rfl⟩
theorem nextBar (f : Nat → Bool) {n : Nat} : ∀ d c, c + d = n → ∃ m, c ≤ m ∧ m ≤ n ∧ (∀ i, c ≤ i → i < m → f i = false) ∧ (m = n ∨ f m = true)
  | 0, c, h => ⟨c, Nat.le_refl _, by omega, fun i h1 h2 => by omega, .inl (by omega)⟩
  | d + 1, c, h => by
    cases hf : f c with
    | true => exact ⟨c, Nat.le_refl _, by omega, fun i h1 h2 => by omega, .inr hf⟩
    | false =>
      obtain ⟨m, h1, h2, h3, h4⟩ := nextBar f (n := n) d (c + 1) (by omega)
      refine ⟨m, by omega, h2, fun i g1 g2 => ?_, h4⟩
      by_cases e : i = c
      · rw [e]; exact hf
      · exact h3 i (by omega) g2
/-- What is told of a region. -/
structure TrcE (P : Program) (X : Tbl) (T : Tabs) (ops : Array Oper) (s : VS) (st : Nat → VS) (vl : Nat → PV) (pf : Nat → Option (Bool × Pl)) : Prop where
  zero : st 0 = s
  step : ∀ j o, ops[j]? = some o → LineE P X T ops.toList (befores ops.toList) j o (st j) (st (j + 1)) (vl j) (pf j)
  pair : ∀ i j, i < j → j < ops.size → (∀ q, i ≤ q → q ≤ j → barB ops.toList (befores ops.toList) q = false) → PairOk (befores ops.toList) j (pf j) i (pf i)
/-- A stretch, whatever is carried out of it. -/
def Stretch (P : Program) (cx : Cx) (ops : Array Oper) (N : Nat) (st : Nat → VS) (pf : Nat → Option (Bool × Pl)) (S : Nat → Bool) (a : Act) (w : World) : Prop :=
  ∃ G c m aL wL us es rs, c ≤ m ∧ m ≤ ops.size ∧ (∀ i, c ≤ i → i < m → barB ops.toList (befores ops.toList) i = false) ∧ (m = ops.size ∨ barB ops.toList (befores ops.toList) m = true) ∧ RunE P cx G ops N st pf c m aL wL us es rs ∧ WRel ops c m aL wL us es S a w
theorem Stretch.start (tc : TrcE P X T ops s0 st vl pf) (of : OFit ops N) (h : LRel cx G ops N c (st c) a w) (hc : c ≤ ops.size) (hS : ∀ i, S i = true ↔ i < c) : Stretch P cx ops N st pf S a w := by
  obtain ⟨m, h1, h2, h3, h4⟩ := nextBar (barB ops.toList (befores ops.toList)) (n := ops.size) (ops.size - c) c (by omega)
  obtain ⟨aL, wL, us, es, rs, R, e1, e2⟩ := run_line of.fit tc.step h h1 h2 h3
  subst e1; subst e2
  exact ⟨G, c, m, aL, wL, us, es, rs, h1, h2, h3, h4, R, .start of h1 hS⟩
theorem Stretch.any (hX : XOk P T X) (hm : cx.m ≤ 32) (hT : TabC T cx) (of : OFit ops N) (tc : TrcE P X T ops s0 st vl pf) {Q : Exit → Act → World → Prop} (hQ : ∀ G a w, LRel cx G ops N ops.size (st ops.size) a w → Q .normal a w) :
    ∀ (fuel : Nat) (listed : Array Bool) (a : Act) (w : World), listed.size = ops.size → cntS (ofL listed) ops.size ≤ fuel → Stretch P cx ops N st pf (ofL listed) a w → wpAny P .any ops Q fuel listed a w := by
  have fin : ∀ (listed : Array Bool) (a : Act) (w : World), Stretch P cx ops N st pf (ofL listed) a w → (∀ j, j < ops.size → ofL listed j = true) → Q .normal a w := by
    intro listed a w ⟨G, c, m, aL, wL, us, es, rs, h1, h2, h3, h4, R, W⟩ hall
    have e : m = ops.size := by
      rcases h4 with h4 | h4
      · exact h4
      · refine Classical.byContradiction fun hne => ?_
        have := W.high m (hall m (by omega))
        omega
    obtain ⟨rfl, rfl⟩ := W.all R of h2 h1 fun i hi => hall i (by omega)
    have := R.rel m h1 (Nat.le_refl _)
    rw [e] at this ⊢
    exact hQ G _ _ this
  intro fuel
  induction fuel with
  | zero =>
    intro listed a w hsz hc iv
    have hall := cntS_zero (show cntS (ofL listed) ops.size = 0 by omega)
    refine ⟨?_, fin listed a w iv hall⟩
    cases hr : Region.ready .any ops listed with
    | nil => rfl
    | cons i rs =>
      obtain ⟨h1, h2, -⟩ := rdy_of hsz (show i ∈ Region.ready .any ops listed by rw [hr]; exact List.mem_cons_self ..)
      have := hall i (by omega)
      rw [h2] at this; cases this
  | succ fuel ih =>
    intro listed a w hsz hc iv
    refine ⟨fun h => fin listed a w iv (all_of of hsz h), fun i hi => ?_⟩
    obtain ⟨h1, hno, o, ho, hok⟩ := rdy_of hsz hi
    have hin : i < ops.size := by omega
    have next : ∀ a' w', Stretch P cx ops N st pf (addS (ofL listed) i) a' w' → wpAny P .any ops Q fuel (listed.setIfInBounds i true) a' w' := fun a' w' iv' => by
      rw [← ofL_set h1] at iv'
      refine ih _ a' w' (by simpa using hsz) ?_ iv'
      rw [ofL_set h1]
      have := cntS_add hno ops.size
      rw [if_pos (by omega)] at this
      omega
    obtain ⟨G, c, m, aL, wL, us, es, rs, g1, g2, g3, g4, R, W⟩ := iv
    have hci : c ≤ i := by
      refine Classical.byContradiction fun h => ?_
      have := W.low i (by omega)
      rw [hno] at this; cases this
    have hL := tc.step i o ho
    by_cases hb : barB ops.toList (befores ops.toList) i = true
    · have low : ∀ j, j < i → ofL listed j = true := fun j hj => of.below W.down i o j ho hok ((bar_all hb).1 j (by simp; omega) hj)
      have hmi : m = i := by
        have h5 : m ≤ i := by
          refine Classical.byContradiction fun h => ?_
          have := g3 i hci (by omega)
          rw [hb] at this; cases this
        refine Classical.byContradiction fun h => ?_
        have := W.high m (low m (by omega))
        omega
      subst hmi
      obtain ⟨rfl, rfl⟩ := W.all R of g2 g1 low
      have hl := R.rel m g1 (Nat.le_refl _)
      generalize pf m = px at hL
      cases hL with
      | bar f lh hb' e hB =>
        refine bar_step hX hm hT of.fit hl ho hB fun G' w' u hl' => next _ w' ?_
        rw [← e] at hl'
        refine Stretch.start tc of hl' (by omega) fun j => ?_
        unfold addS
        rw [Bool.or_eq_true, decide_eq_true_iff]
        exact ⟨fun h => h.elim (fun h => by have := W.high j h; omega) (fun h => by omega), fun h => by
          by_cases hj : j = m
          · exact .inr hj
          · exact .inl (low j (by omega))⟩
      | quiet hb' => rw [hb] at hb'; cases hb'
      | load t x p hb' => rw [hb] at hb'; cases hb'
      | store t x y p f lh hb' => rw [hb] at hb'; cases hb'
    · have him : i < m := by
        refine Classical.byContradiction fun h => ?_
        rcases g4 with g4 | g4
        · omega
        · by_cases e : m = i
          · rw [e] at g4; exact hb g4
          · have hmk := (bar_all g4).2 i (by simpa using hin) (by omega)
            have := W.high m (of.below W.down i o m ho hok hmk)
            omega
      have hpr : ∀ i j, c ≤ i → i < j → j < m → PairOk (befores ops.toList) j (pf j) i (pf i) := fun i j h1 h2 h3 => tc.pair i j h2 (by omega) fun q h4 h5 => g3 q (by omega) (by omega)
      have hgon := W.guardOn R of g2 hci (by omega) ho hno hok
      have nxt : wpAny P .any ops Q fuel (listed.setIfInBounds i true) (a.put o.dst (us i)) ((es i).app w) := next _ _ ⟨G, c, m, aL, wL, us, es, rs, g1, g2, g3, g4, R, W.push R of g2 hpr hci him ho hno hok⟩
      unfold wpOp
      rw [ho]
      dsimp only
      by_cases hg : GuardOn ops a.tmps o.guard
      · rw [if_pos ((wanted_iff ops a.tmps o).2 hg)]
        left
        obtain ⟨nx, hnx, hE⟩ := R.on i o hci him ho (hgon.1 hg)
        have hrun := hE a w (fun t ht => W.read R of g2 hci (by omega) ho hno hok (reads_operand (ops := ops.toList) ht)) (fun x hx => W.same R of g2 hpr hci him ho hno hok hx) (W.alike R hci (by omega))
        unfold Oper.wp
        rw [hrun]
        rcases hnx with rfl | ⟨rfl, hu⟩
        · exact nxt
        · rw [hu] at nxt; exact nxt
      · rw [if_neg (by rw [wanted_iff]; exact hg)]
        obtain ⟨q1, q2⟩ := R.off i o hci him ho (fun h => hg (hgon.2 h))
        rw [q1, q2] at nxt
        exact nxt
/-- A region with stores whose order is left open. -/
theorem evE_ok (hmix : P.follows .mixedOrders = true) (hX : XOk P T X) (hm : cx.m ≤ 32) (hT : TabC T cx) (of : OFit ops N) {K : VS → Prop} {Q : Exit → Act → World → Prop} (hQ : ∀ G s a w, LRel cx G ops N ops.size s a w → K s → Q .normal a w) (hl : s.loc = []) (h : LRel cx G ops N 0 s a w) (he : evE P X T ops.toList (befores ops.toList) ops.toList 0 [] s K) (id : Nat) : (Code.region id ops true).wp P Q a w := by
  obtain ⟨st, vl, pf, h1, h2, -, h4, h5⟩ := evE_trace _ _ _ _ he
  have tc : TrcE P X T ops s st vl pf := ⟨h1, fun j o ho => by
    have := h2 j o (by rw [Array.getElem?_toList]; exact ho)
    rwa [Nat.zero_add] at this, fun i j hij hj hb => by
    have := h4 i j hij (by simpa using hj) fun q g1 g2 => by rw [Nat.zero_add]; exact hb q g1 g2
    rwa [Nat.zero_add, Nat.zero_add] at this⟩
  refine wp_region_any hmix ?_
  obtain ⟨i1, i2⟩ := h.inv.drew
  have hd : LRel cx G ops N 0 (st 0) a w.drew := by
    rw [h1]
    exact ⟨i1, fun t x g e => i2 _ _ (h.env t x g e), (fun t g v hlk => by rw [hl] at hlk; cases hlk), (fun i o hi => by omega), h.size, h.defers⟩
  have hnone : ofL (Array.replicate ops.size false) = fun _ => false := by
    funext j; unfold ofL
    by_cases h : j < ops.size <;> simp [Array.getD, h]
  refine Stretch.any hX hm hT of tc (fun G a w hr => hQ G _ a w hr (by simpa using h5)) ops.size (Array.replicate ops.size false) a w.drew (by simp) ?_ ?_
  · rw [hnone, cntS_none]; exact Nat.le_refl _
  · rw [hnone]; exact .start tc of hd (Nat.zero_le _) (fun i => by simp)
/-- A region whose order is left open. -/
theorem evG_ok (hmix : P.follows .mixedOrders = true) (hX : XOk P T X) (hm : cx.m ≤ 32) (hT : TabC T cx) (of : OFit ops N) {K : VS → Prop} {Q : Exit → Act → World → Prop} (hQ : ∀ G s a w, LRel cx G ops N ops.size s a w → K s → Q .normal a w) (hl : s.loc = []) (h : LRel cx G ops N 0 s a w) (he : evG P X T ops.toList (befores ops.toList) s K) (id : Nat) : (Code.region id ops true).wp P Q a w := by
  unfold evG at he
  split at he
  · exact evE_ok hmix hX hm hT of hQ hl h he id
  · exact evD_ok hmix hX hm hT of hQ hl h he id
end
end Go.Vc

