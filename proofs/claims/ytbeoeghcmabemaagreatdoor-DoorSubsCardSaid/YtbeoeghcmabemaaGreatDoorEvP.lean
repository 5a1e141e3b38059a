/- Each operation, made ready, is the model's. -/
import Derived.Test.YtbeoeghcmabemaaGreatDoorEvO
import Derived.Lib.UnsafeStr
import Derived.Laws.IdiomRangeMap
set_option linter.unusedVariables false
set_option linter.unusedSectionVars false
set_option linter.unusedSimpArgs false
namespace Go.Ev
variable [Sg]
open Go.RowKit
variable {P : Program}

theorem exec1 {o : Oper} {f : Value → Sem Value} {X : Operand} {x v : AV} {h h' : Hp} (he : ∀ ρ : Operand → Value, execOp ρ o = (do Pure.pure (Next.value (← f (ρ X))))) (hX : o.op.operands.toList = [X]) (H : Sem1 P f x h v h') : OpHolds P o [x] h v h' := by
  refine .val fun β w a hr hx => ?_
  rw [hX] at hx
  obtain ⟨β', w', u, h1, h2, h3⟩ := H β w (a.eval X) hr (conL1 hx)
  refine ⟨β', w', u, ?_, h2, h3⟩
  rw [he, Sem.run_bind, h1]; rfl
theorem exec2 {o : Oper} {f : Value → Value → Sem Value} {X Y : Operand} {x y v : AV} {h h' : Hp} (he : ∀ ρ : Operand → Value, execOp ρ o = (do Pure.pure (Next.value (← f (ρ X) (ρ Y))))) (hX : o.op.operands.toList = [X, Y]) (H : Sem2 P f x y h v h') : OpHolds P o [x, y] h v h' := by
  refine .val fun β w a hr hx => ?_
  rw [hX] at hx
  obtain ⟨hx, hy⟩ := conL2 hx
  obtain ⟨β', w', u, h1, h2, h3⟩ := H β w (a.eval X) (a.eval Y) hr hx hy
  refine ⟨β', w', u, ?_, h2, h3⟩
  rw [he, Sem.run_bind, h1]; rfl
theorem exec1p {o : Oper} {f : Value → Sem Value} {X : Operand} {x v : AV} {h : Hp} (he : ∀ ρ : Operand → Value, execOp ρ o = (do Pure.pure (Next.value (← f (ρ X))))) (hX : o.op.operands.toList = [X]) (H : ∀ β a w, con β x = some a → ∃ u, (f a).run P w = .ok u w ∧ con β v = some u) : OpHolds P o [x] h v h :=
  exec1 he hX (.of_pure H)
theorem exec2p {o : Oper} {f : Value → Value → Sem Value} {X Y : Operand} {x y v : AV} {h : Hp} (he : ∀ ρ : Operand → Value, execOp ρ o = (do Pure.pure (Next.value (← f (ρ X) (ρ Y))))) (hX : o.op.operands.toList = [X, Y]) (H : ∀ β a b w, con β x = some a → con β y = some b → ∃ u, (f a b).run P w = .ok u w ∧ con β v = some u) : OpHolds P o [x, y] h v h :=
  exec2 he hX fun β w a b hr ha hb => let ⟨u, h1, h2⟩ := H β a b w ha hb; ⟨β, w, u, h1, .refl hr, h2⟩
theorem plainsK_yes {xs : List AV} {k : List Value → Ans} (H : builtinK.plainsK xs k = .yes) : ∃ vs, plainL xs = some vs ∧ k vs = .yes := by
  unfold builtinK.plainsK at H
  cases h : plainL xs with
  | none => rw [h] at H; cases H
  | some vs => rw [h] at H; exact ⟨vs, rfl, H⟩
def isPureB (b : Builtin) : Bool := match b with
  | .max | .min | .real | .imag | .complex => true
  | _ => false
theorem ts_two {ts : Array TypeId} (h : ts.size = 2) : ∃ a b, ts = #[a, b] := by
  obtain ⟨l⟩ := ts
  match l, h with
  | [a, b], _ => exact ⟨a, b, rfl⟩
/-- A block that is frozen is not looked at any more. -/
theorem freeze_stp {β : Bt} {t : Tr Blk} {nx low b cb κ n : Nat} {w : World} (hr : HR β (.mk t nx low) w) (hβ : β b = some (cb, κ)) {x : Blk} (hb : t.get (path b) = some x) :
    Stp β (.mk t nx low) w β (.mk (t.set (path b) none) nx (min low b)) (w.freeze ⟨cb, 0, none⟩ n) := by
  have hheap : ∀ c, c ≠ cb → (w.freeze ⟨cb, 0, none⟩ n).heap[c]? = w.heap[c]? := fun c hc => by
    unfold World.freeze
    split
    · rfl
    · simp only [Array.getElem?_modify]
      rw [if_neg (fun h => hc h.symm)]
  have hsz : (w.freeze ⟨cb, 0, none⟩ n).heap.size = w.heap.size := by
    unfold World.freeze
    split <;> simp
  have ho : (w.freeze ⟨cb, 0, none⟩ n).os = w.os ∧ (w.freeze ⟨cb, 0, none⟩ n).tape = w.tape ∧ (w.freeze ⟨cb, 0, none⟩ n).output = w.output := by
    unfold World.freeze
    split <;> exact ⟨rfl, rfl, rfl⟩
  have sub : ∀ b' x', (t.set (path b) none).get (path b') = some x' → b' ≠ b ∧ t.get (path b') = some x' := fun b' x' h => by
    rw [get_set] at h
    split at h
    · cases h
    · rename_i hne
      exact ⟨fun e => hne (by rw [e]), h⟩
  refine ⟨⟨fun b' x' h => ?_, fun b1 b2 x1 x2 c κ1 κ2 h h' => hr.inj b1 b2 x1 x2 c κ1 κ2 (sub b1 x1 h).2 (sub b2 x2 h').2, hr.fresh, Nat.le_trans (Nat.min_le_left _ _) hr.low⟩, Nat.le_refl _, Nat.min_le_left _ _, fun _ _ => rfl, (fun b' x' _ e => ⟨x', (sub b' x' e).2⟩), (fun b' c κ' hb' e => by rw [hr.fresh b' hb'] at e; cases e), ⟨ho.1, ho.2.1, ho.2.2, by rw [hsz]; exact Nat.le_refl _, fun c hc hne => hheap c fun e => ?_⟩⟩
  · obtain ⟨hne, h⟩ := sub b' x' h
    obtain ⟨h1, c, κ', h2, h3⟩ := hr.blk b' x' h
    refine ⟨h1, c, κ', h2, ?_⟩
    rw [hheap c fun e => ?_]
    · exact h3
    · subst e
      exact hne (hr.inj b' b x' x c κ' κ h hb h2 hβ)
  · subst e
    exact hne b κ x (Nat.min_le_right _ _) hb hβ
theorem run_obj {w : World} {r p : Nat} {s : ByteArray} (h : w.heap[r]? = some (.stringIter s p)) : (getObj r).run P w = .ok (.stringIter s p) w := by
  simp only [getObj, Sem.run, h]
theorem run_setObj {w : World} {r p : Nat} {s : ByteArray} (o : Obj) (h : w.heap[r]? = some (.stringIter s p)) : (setObj r o).run P w = .ok () { w with heap := w.heap.setIfInBounds r o } := by
  simp only [setObj, Sem.run, h]
theorem rangeStrK_yes {t : TypeId} {x : AV} {h : Hp} {k : AK} (H : rangeStrK P t x h k = .yes) : ∃ v h', k v h' = .yes ∧ Sem1 P (Instr.range t) x h v h' := by
  unfold rangeStrK at H
  split at H
  · rename_i n l tr nx low hd
    rw [setP_eq, fNat_eq] at H
    refine ⟨_, _, H, fun β w a hr ha => ?_⟩
    obtain ⟨rfl, -, h3⟩ := con_str_inv ha
    refine ⟨upd β nx w.heap.size 0, w.alloc (.stringIter (bytesOf l) 0), .pointer (some ⟨w.heap.size, 0, none⟩), ?_, Stp.new_block hr (.stringIter (bytesOf l) 0) 0 (.iter l 0) rfl rfl rfl rfl ⟨rfl, h3⟩, by simp only [con, upd_same]; rfl⟩
    unfold Instr.range
    simp only [Sem.run_bind, run_underlying hd, Result.andThen_ok, Sem.run_pure]
    rfl
  · rename_i q e b tr nx low hd
    obtain ⟨bl, hb, H⟩ := getP_yes H
    split at H
    · rename_i es c
      rw [setP_eq, fNat_eq] at H
      refine ⟨_, _, H, fun β w a hr ha => ?_⟩
      obtain ⟨cb, κ, ms, e1, e2, e3⟩ := map_of hr (show (Hp.mk tr nx low).tr.get (path b) = _ from hb)
      obtain ⟨c', κ', e4, rfl⟩ := con_map ha
      rw [e1] at e4; injection e4 with e4; injection e4 with e4 _; subst e4
      have hlt : b < nx := (hr.blk b _ (show (Hp.mk tr nx low).tr.get (path b) = _ from hb)).1
      refine ⟨upd β nx w.heap.size 0, w.alloc (.mapIter (some cb) c #[] c), .pointer (some ⟨w.heap.size, 0, none⟩), run_range_map w t q e cb ms c hd e2, Stp.new_block hr (.mapIter (some cb) c #[] c) 0 (.miter b c) rfl rfl rfl rfl ⟨cb, κ, by rw [upd_ne (by omega)]; exact e1, rfl⟩, by simp only [con, upd_same]; rfl⟩
    · cases H
  · cases H
theorem nextStrK_yes {ty : TypeId} {x : AV} {h : Hp} {k : AK} (H : nextStrK x h k = .yes) : ∃ v h', k v h' = .yes ∧ Sem1 P (fun a => Instr.next a true ty) x h v h' := by
  unfold nextStrK at H
  split at H
  · rename_i b t n low
    obtain ⟨bl, hb, H⟩ := getP_yes H
    split at H
    · rename_i l pos
      rw [dropK_eq] at H
      have hsz : (bytesOf l).size = l.length := bytesOf_size l
      cases hr2 : l.drop pos with
      | nil =>
        rw [hr2] at H
        have hle : l.length ≤ pos := by simpa using hr2
        refine ⟨_, _, H, fun β w a hr ha => ?_⟩
        obtain ⟨cb, κ, hβ, rfl⟩ := con_ptr ha
        obtain ⟨-, cb', κ', hβ', g1, -⟩ := hr.blk b _ hb
        rw [hβ] at hβ'; injection hβ' with hβ'; injection hβ' with e1 e2; subst e1
        refine ⟨β, w, .tuple #[.bool false], ?_, .refl hr, rfl⟩
        unfold Instr.next
        simp only [Sem.run_bind, run_obj g1, Result.andThen_ok]
        rw [if_neg (by omega)]; rfl
      | cons c r =>
        rw [hr2] at H
        obtain ⟨h1, H⟩ := cnd_yes H
        rw [fNat_eq, natMin_eq, setP_eq] at H
        have hlt : pos < l.length := by
          have := congrArg List.length hr2
          simp at this; omega
        have hget : l[pos]? = some c := by
          have := List.getElem?_drop (xs := l) (i := pos) (j := 0)
          rw [hr2] at this
          simpa using this.symm
        have hc : c < 128 := Nat.le_of_ble_eq_true h1
        refine ⟨_, _, H, fun β w a hr ha => ?_⟩
        obtain ⟨cb, κ, hβ, rfl⟩ := con_ptr ha
        obtain ⟨-, cb', κ', hβ', g1, g2⟩ := hr.blk b _ hb
        rw [hβ] at hβ'; injection hβ' with hβ'; injection hβ' with e1 e2; subst e1
        have hdec : Utf8.decode (bytesOf l) pos = (c, 1) := by
          unfold Utf8.decode
          have hb0 : ((bytesOf l).get! (pos + 0)).toNat = c := by
            have e : (bytesOf l).data[pos]? = some (UInt8.ofNat c) := by simp [bytesOf, hget]
            show ((bytesOf l).data[pos + 0]!).toNat = c
            rw [Nat.add_zero, getElem!_def, e]
            simp; omega
          simp only [hb0]
          rw [if_pos hc]
        refine ⟨β, { w with heap := w.heap.setIfInBounds cb (.stringIter (bytesOf l) (pos + 1)) }, .tuple #[.bool true, goInt pos, .int .i32 c], ?_, Stp.set_block hr hb hβ (by simp) (fun i hi hne => by simp [Array.getElem?_setIfInBounds, hne.symm]) rfl rfl rfl ⟨?_, g2⟩, rfl⟩
        · unfold Instr.next
          simp only [Sem.run_bind, run_obj g1, Result.andThen_ok]
          rw [if_pos (by omega), hdec]
          simp only [Sem.run_bind, run_setObj _ g1, Result.andThen_ok]
          rfl
        · have hlt : cb < w.heap.size := (Array.getElem?_eq_some_iff.1 g1).1
          simp [Array.getElem?_setIfInBounds, hlt]
    · cases H
  · cases H
/-- What is built in, but len. -/
theorem builtinK_yes {b : Builtin} {ts : Array TypeId} {ty : TypeId} {xs : List AV} {h : Hp} {k : AK} (hl : b ≠ .len) (H : builtinK P b ts ty xs h k = .yes) :
    ∃ v h', k v h' = .yes ∧ (∀ β w (vs : List Value) cs, HR β h w → conL β xs = some vs → ∃ β' w' u, (builtin b ts ty cs vs.toArray).run P w = .ok (.value u) w' ∧ Stp β h w β' h' w' ∧ con β' v = some u) ∧ (isPureB b = true → h' = h ∧ ∀ β w (vs : List Value) cs, conL β xs = some vs → ∃ u, (builtin b ts ty cs vs.toArray).run P w = .ok (.value u) w ∧ con β v = some u) := by
  have pl : ∀ {f : List Value → Sem Value}, (builtinK.plainsK xs fun vs => modelK P (f vs) fun v => k v h) = .yes → (∀ cs (vs : List Value), builtin b ts ty cs vs.toArray = (do Pure.pure (.value (← f vs)))) →
      ∃ v h', k v h' = .yes ∧ (∀ β w (vs : List Value) cs, HR β h w → conL β xs = some vs → ∃ β' w' u, (builtin b ts ty cs vs.toArray).run P w = .ok (.value u) w' ∧ Stp β h w β' h' w' ∧ con β' v = some u) ∧ (isPureB b = true → h' = h ∧ ∀ β w (vs : List Value) cs, conL β xs = some vs → ∃ u, (builtin b ts ty cs vs.toArray).run P w = .ok (.value u) w ∧ con β v = some u) := by
    intro f H hb
    obtain ⟨ps, hp, Ha⟩ := plainsK_yes H
    obtain ⟨v, av, h1, h2, h3⟩ := modelK_yes Ha
    have key : ∀ β w (vs : List Value) cs, conL β xs = some vs → (builtin b ts ty cs vs.toArray).run P w = .ok (.value v) w := by
      intro β w vs cs hx
      rw [hb, plainL_con β hp hx, Sem.run_bind, semPure_run h1 w]; rfl
    exact ⟨av, h, h3, fun β w vs cs hr hx => ⟨β, w, v, key β w vs cs hx, .refl hr, h2 β⟩, fun _ => ⟨rfl, fun β w vs cs hx => ⟨v, key β w vs cs hx, h2 β⟩⟩⟩
  unfold builtinK at H
  split at H
  · exact absurd rfl hl
  · rename_i s x
    obtain ⟨v, h', h1, h2⟩ := appendK_yes (ty := ty) H
    refine ⟨v, h', h1, fun β w vs cs hr hx => ?_, fun h => by cases h⟩
    obtain ⟨a, us, e1, e2, rfl⟩ := conL_cons hx
    obtain ⟨b, us', e3, e4, rfl⟩ := conL_cons e2
    obtain rfl := conL_nil e4
    obtain ⟨β', w', u, f1, f2, f3⟩ := h2 β w a b hr e1 e3
    refine ⟨β', w', u, ?_, f2, f3⟩
    show (do Pure.pure (Next.value (← Builtin.append_ ts ty #[a, b]))).run P w = _
    rw [Sem.run_bind, f1]; rfl
  · rename_i d x
    obtain ⟨v, h', h1, h2⟩ := copyK_yes (ty := ty) H
    refine ⟨v, h', h1, fun β w vs cs hr hx => ?_, fun h => by cases h⟩
    obtain ⟨a, us, e1, e2, rfl⟩ := conL_cons hx
    obtain ⟨b, us', e3, e4, rfl⟩ := conL_cons e2
    obtain rfl := conL_nil e4
    obtain ⟨β', w', u, f1, f2, f3⟩ := h2 β w a b hr e1 e3
    refine ⟨β', w', u, ?_, f2, f3⟩
    show (do Pure.pure (Next.value (← Builtin.copy_ ts ty #[a, b]))).run P w = _
    rw [Sem.run_bind, f1]; rfl
  · rename_i b' off n c
    split at H
    · rename_i e hts
      obtain ⟨t, h0, hd⟩ := Option.bind_eq_some_iff.1 hts
      refine ⟨_, _, H, fun β w vs cs hr hx => ?_, fun h => by cases h⟩
      obtain ⟨a, us, e1, e2, rfl⟩ := conL_cons hx
      obtain rfl := conL_nil e2
      obtain ⟨cb, κ, _, rfl⟩ := con_slice e1
      refine ⟨β, w, .int .i64 c, ?_, .refl hr, rfl⟩
      show (do Pure.pure (Next.value (← Builtin.cap_ ts ty #[_]))).run P w = _
      unfold Builtin.cap_
      rw [h0]
      simp [run_underlying hd, goInt]
    · cases H
  · rename_i n c
    split at H
    · rename_i e hts
      obtain ⟨t, h0, hd⟩ := Option.bind_eq_some_iff.1 hts
      rw [fNat_eq] at H
      refine ⟨_, _, H, fun β w vs cs hr hx => ?_, fun h => by cases h⟩
      obtain ⟨a, us, e1, e2, rfl⟩ := conL_cons hx
      obtain rfl := conL_nil e2
      obtain ⟨rfl, -⟩ := con_raw e1
      refine ⟨β, w, .int .i64 c, ?_, .refl hr, rfl⟩
      show (do Pure.pure (Next.value (← Builtin.cap_ ts ty #[_]))).run P w = _
      unfold Builtin.cap_
      rw [h0]
      simp [run_underlying hd, goInt]
    · cases H
  · rename_i b off n ex c
    obtain ⟨h1, H⟩ := cnd_yes H
    obtain ⟨h2, H⟩ := cnd_yes H
    refine ⟨_, _, H, fun β w vs cs hr hx => ?_, fun h => by cases h⟩
    obtain ⟨a, us, e1, e2, rfl⟩ := conL_cons hx
    obtain rfl := conL_nil e2
    obtain ⟨cb, κ, hβ, rfl, hor⟩ := con_slice' e1
    have hn : 0 < n := Nat.le_of_ble_eq_true h1
    have hc : (if ex = true then c else κ - c) ≠ 0 := by
      cases ex with
      | true => rw [if_pos rfl]; rw [Bool.not_true, Bool.false_or] at h2; have := Nat.le_of_ble_eq_true h2; omega
      | false =>
        rw [if_neg (by simp)]
        rcases hor with hor | hor
        · cases hor
        · omega
    refine ⟨β, w, .pointer (some ⟨cb, off, none⟩), ?_, .refl hr, by simp only [con, hβ]; rfl⟩
    show (do Pure.pure (Next.value (← Builtin.unsafeSliceData_ ts ty #[_]))).run P w = _
    rw [Sem.run_bind, Go.Lib.run_unsafeSliceData_row w ts ty _ _ _ hc]; rfl
  · refine ⟨_, _, H, fun β w vs cs hr hx => ?_, fun h => by cases h⟩
    obtain ⟨a, us, e1, e2, rfl⟩ := conL_cons hx
    obtain rfl := conL_nil e2
    obtain ⟨rfl, -⟩ := con_raw e1
    refine ⟨β, w, .pointer none, ?_, .refl hr, rfl⟩
    show (do Pure.pure (Next.value (← Builtin.unsafeSliceData_ ts ty #[_]))).run P w = _
    rw [Sem.run_bind, Go.Lib.run_unsafeSliceData_nil w ts ty _ _]; rfl
  · rename_i n
    obtain ⟨h1, H1⟩ := cnd_yes H
    obtain ⟨h2, H2⟩ := cnd_yes H1
    clear H H1
    obtain rfl := Nat.eq_of_beq_eq_true h1
    obtain ⟨t1, t2, rfl⟩ := ts_two (Nat.eq_of_beq_eq_true h2)
    have H := H2
    clear H2
    refine ⟨_, _, H, fun β w vs cs hr hx => ?_, fun h => by cases h⟩
    obtain ⟨a, us, e1, e2, rfl⟩ := conL_cons hx
    obtain ⟨b, us', e3, e4, rfl⟩ := conL_cons e2
    obtain rfl := conL_nil e4
    obtain ⟨rfl, -⟩ := con_raw e1
    rw [con_nat e3]
    refine ⟨β, w, .string .empty, ?_, .refl hr, con_str_mk rfl rfl⟩
    show (do Pure.pure (Next.value (← Builtin.unsafeString_ _ ty #[_, _]))).run P w = _
    have hrun := Go.Lib.run_unsafeString_none (P := P) w t1 t2 ty none
    rw [Sem.run_bind, show (Value.int .i64 ((0 : Nat) : Int)) = .int .i64 0 from rfl, hrun]; rfl
  · rename_i b off n
    obtain ⟨h1, H1⟩ := cnd_yes H
    obtain ⟨h2, H2⟩ := cnd_yes H1
    clear H H1
    obtain rfl := Nat.eq_of_beq_eq_true h1
    obtain ⟨t1, t2, rfl⟩ := ts_two (Nat.eq_of_beq_eq_true h2)
    have H := H2
    clear H2
    split at H
    · rename_i e he
      have he : P.underlying t1 = some (.pointer e) := he
      obtain ⟨cs', e', m, c, ex', sz, g1, g2, g3, g4, H⟩ := getK_yes H
      obtain ⟨l, rfl, h3, H⟩ := u8sOf_yes H
      obtain ⟨h4, H⟩ := cnd_yes H
      obtain ⟨h5, H⟩ := cnd_yes H
      obtain ⟨h6, H⟩ := cnd_yes H
      obtain ⟨t, nx, low⟩ := h
      replace g1 : t.get (path b) = _ := g1
      dsimp only at H
      rw [getP_eq, g1] at H
      dsimp only at H
      obtain ⟨h7, H7⟩ := cnd_yes H
      rw [natMin_eq, setP_eq] at H7
      clear H
      obtain rfl := Nat.eq_of_beq_eq_true h7
      have H := H7
      clear H7
      refine ⟨_, _, H, fun β w vs cs hr hx => ?_, fun h => by cases h⟩
      obtain ⟨a, us, e1, e2, rfl⟩ := conL_cons hx
      obtain ⟨b', us', e3, e4, rfl⟩ := conL_cons e2
      obtain rfl := conL_nil e4
      obtain ⟨cb, κ, hβ, rfl⟩ := con_ptr e1
      rw [con_nat e3]
      have hl : l.length = n := by simpa using g3
      have hn : 0 < n := Nat.le_of_ble_eq_true h4
      obtain ⟨cb', κ', vs', q1, q2, q3, q4, q5⟩ := cells_of hr (show (Hp.mk t nx low).tr.get (path b) = _ from g1) g2 g3 g4
      rw [hβ] at q1; injection q1 with q1; injection q1 with q1 q1'; subst q1
      rw [conL_u8 β h3] at q2; injection q2 with q2
      obtain ⟨-, cb', κ', hβ', csR, fz, r1, -, -, r2, -⟩ := hr.blk b _ (show (Hp.mk t nx low).tr.get (path b) = _ from g1)
      rw [hβ] at hβ'; injection hβ' with hβ'; injection hβ' with q6 q7; subst q6
      have hsh : w.shape? cb = some (e', csR.size) := by simp [World.shape?, r1]
      have hd : (bytesOf l).data.toList = l.map UInt8.ofNat := by simp [bytesOf]
      have hdl : (bytesOf l).data.toList.length = n := by rw [hd, List.length_map, hl]
      refine ⟨β, w.freeze ⟨cb, 0, none⟩ n, .string (bytesOf l), ?_, freeze_stp hr hβ g1, con_str_mk hl.symm h3⟩
      show (do Pure.pure (Next.value (← Builtin.unsafeString_ #[t1, t2] ty #[_, _]))).run P w = _
      have hrun := Go.Lib.run_unsafeString_row w t1 t2 ty e' he (Nat.eq_of_beq_eq_true h6) cb csR.size hsh (bytesOf l).data.toList (by intro h0; rw [h0] at hdl; simp at hdl; omega) (by rw [hdl]; omega) (by rw [hdl]; have := Nat.le_of_ble_eq_true h5; unfold two63 at this; omega) (fun j x hx2 => by
        have hj := q5 j (.int .u8 x.toNat) (by rw [← q2]; unfold byteCells; rw [List.getElem?_map, hx2]; rfl)
        rw [Nat.zero_add] at hj
        rw [Addr.add_lit, Nat.zero_add]
        exact hj)
      rw [hdl] at hrun
      rw [Sem.run_bind, hrun]
      rfl
    · cases H
  · exact pl H (fun cs vs => rfl)
  · exact pl H (fun cs vs => rfl)
  · exact pl H (fun cs vs => rfl)
  · exact pl H (fun cs vs => rfl)
  · exact pl H (fun cs vs => rfl)
  · cases H
theorem map_parts (ρ : Operand → Value) (ps : Array (Nat × Operand)) : (ps.map fun (i, x) => (i, ρ x)) = ((ps.toList.map (·.1)).zip ((ps.toList.map (·.2)).map ρ)).toArray := by
  apply Array.ext'
  simp only [Array.toList_map]
  induction ps.toList with
  | nil => rfl
  | cons p l ih => simp only [List.map_cons, List.zip_cons_cons, ih]
theorem takeDrop {ρ : Operand → Value} {first captured : Array Operand} : True := trivial
theorem pureMk {o : Oper} {xs : List AV} {h : Hp} {v : AV} {k : AK} (h1 : k v h = .yes) (E : ∀ h2, OpHolds P o xs h2 v h2) : ∃ v h', k v h' = .yes ∧ OpHolds P o xs h v h' ∧ Quiet P o xs h v h' := ⟨v, h, h1, E h, fun _ => ⟨rfl, E⟩⟩
/-- What an operation, made ready, says. -/
def OpCOk (P : Program) (o : Oper) : OpC → Prop
  | .c1 f => ∀ x h k, f x h k = .yes → ∃ v h', k v h' = .yes ∧ OpHolds P o [x] h v h' ∧ Quiet P o [x] h v h'
  | .c2 f => ∀ x y h k, f x y h k = .yes → ∃ v h', k v h' = .yes ∧ OpHolds P o [x, y] h v h' ∧ Quiet P o [x, y] h v h'
  | .cn f => ∀ xs h k, f xs h k = .yes → ∃ v h', k v h' = .yes ∧ OpHolds P o xs h v h' ∧ Quiet P o xs h v h'
  | .bad _ => True
theorem onBool_yes {x : AV} {f t o : Ans} (H : onBool x f t o = .yes) (ho : o ≠ .yes) : ∃ b, x = .bool b ∧ (if b = true then t else f) = .yes := by
  cases x <;> first | exact absurd H ho | skip
  rename_i b
  refine ⟨b, rfl, ?_⟩
  cases b <;> exact H
theorem convQK_yes {src dst : TypeId} {x : AV} {k : AV → Ans} (H : convQK P src dst x k = .yes) : ∃ v, k v = .yes ∧ ∀ β a w, con β x = some a → ∃ u, (convert src dst a).run P w = .ok u w ∧ con β v = some u := by
  unfold convQK at H
  split at H
  · rename_i q n hd
    obtain ⟨h1, H⟩ := cnd_yes H
    obtain ⟨d, hs⟩ := knownB_some h1
    obtain ⟨v, h2, h3⟩ := wrapK_yes H
    refine ⟨v, h2, fun β a w ha => ⟨_, ?_, h3 β⟩⟩
    rw [con_nat ha]
    simp only [convert, Sem.run_bind, run_underlying hs, run_underlying hd, Result.andThen_ok, Conv.intToInt, Sem.run_pure]
    rfl
  · rename_i q n hd
    obtain ⟨h1, H⟩ := cnd_yes H
    obtain ⟨d, hs⟩ := knownB_some h1
    obtain ⟨v, h2, h3⟩ := wrapK_yes H
    refine ⟨v, h2, fun β a w ha => ⟨_, ?_, h3 β⟩⟩
    rw [con_u8 ha]
    simp only [convert, Sem.run_bind, run_underlying hs, run_underlying hd, Result.andThen_ok, Conv.intToInt, Sem.run_pure]
    rfl
  · rename_i q q' n hd
    obtain ⟨h1, H⟩ := cnd_yes H
    obtain ⟨d, hs⟩ := knownB_some h1
    obtain ⟨v, h2, h3⟩ := wrapK_yes H
    refine ⟨v, h2, fun β a w ha => ⟨_, ?_, h3 β⟩⟩
    rw [con_int ha]
    simp only [convert, Sem.run_bind, run_underlying hs, run_underlying hd, Result.andThen_ok, Conv.intToInt, Sem.run_pure]
  · rename_i n l hd
    obtain ⟨h1, H⟩ := cnd_yes H
    obtain ⟨d, hs⟩ := knownB_some h1
    refine ⟨_, H, fun β a w ha => ⟨a, ?_, ha⟩⟩
    rw [(con_str_inv ha).1]
    simp only [convert, Sem.run_bind, run_underlying hs, run_underlying hd, Result.andThen_ok, Sem.run_pure]
  · cases H
theorem lenQK_yes {ts : Array TypeId} {t ty : TypeId} (h0 : ts[0]? = some t) {x : AV} {k : AV → Ans} (H : lenQK P t x k = .yes) : ∃ v, k v = .yes ∧ ∀ β a w, con β x = some a → ∃ u, (Builtin.len_ ts ty #[a]).run P w = .ok u w ∧ con β v = some u := by
  have un : ∀ a, Builtin.len_ ts ty #[a] = Builtin.len_ #[t] ty #[a] := by
    intro a
    unfold Builtin.len_
    rw [h0]
    rfl
  unfold lenQK at H
  split at H
  · rename_i n l hd
    refine ⟨_, H, fun β a w ha => ?_⟩
    obtain ⟨rfl, h3, h4⟩ := con_str_inv ha
    refine ⟨.int .i64 n, ?_, rfl⟩
    rw [un]
    simp [Builtin.len_, run_underlying hd, bytesOf_size, h3, goInt]
  · rename_i b off n ex d hd
    refine ⟨_, H, fun β a w ha => ?_⟩
    obtain ⟨c, κ, _, rfl⟩ := con_slice ha
    refine ⟨.int .i64 n, ?_, rfl⟩
    rw [un]
    simp [Builtin.len_, run_underlying hd, goInt]
  · rename_i n c hd
    rw [fNat_eq] at H
    refine ⟨_, H, fun β a w ha => ?_⟩
    obtain ⟨rfl, -⟩ := con_raw ha
    refine ⟨.int .i64 n, ?_, rfl⟩
    rw [un]
    simp [Builtin.len_, run_underlying hd, goInt]
  · rename_i n e hd
    rw [fNat_eq] at H
    refine ⟨_, H, fun β a w ha => ?_⟩
    refine ⟨.int .i64 n, ?_, rfl⟩
    rw [un]
    simp [Builtin.len_, run_underlying hd, goInt]
  · cases H
theorem mapB_yes {t : TypeId} (h : mapB P t = true) : ∃ d : TypeDesc, ∃ e f, P.underlying t = some (.map e f) := by
  unfold mapB at h
  split at h
  · exact ⟨.bool, _, _, ‹_›⟩
  · cases h
theorem opC_sound (o : Oper) : OpCOk P o (opC P o.op o.type) := by
  obtain ⟨dst, op, type, pos, after, guard⟩ := o
  cases op
  case pick c a b =>
    intro xs h k H
    dsimp only at H
    split at H
    · rename_i c' a' b'
      obtain ⟨t, rfl, H⟩ := onBool_yes H (by intro h; cases h)
      refine pureMk (v := if t = true then a' else b') (by cases t <;> exact H) fun h2 => .pure fun β w ac hx => ?_
      obtain ⟨v1, us, e1, e2, e3⟩ := conL_cons hx
      obtain ⟨v2, us', e4, e5, rfl⟩ := conL_cons e2
      obtain ⟨v3, us'', e6, e7, rfl⟩ := conL_cons e5
      obtain rfl := conL_nil e7
      injection e3 with e8 e9
      injection e9 with e9 e10
      injection e10 with e10 _
      have hb := con_bool e1
      cases t with
      | true => exact ⟨ac.eval a, by simp [execOp, asBool, e8, hb], by rw [if_pos rfl, e9]; exact e4⟩
      | false => exact ⟨ac.eval b, by simp [execOp, asBool, e8, hb], by simp only [Bool.false_eq_true, if_false]; rw [e10]; exact e6⟩
    · cases H
  case binOp op t X Y yt =>
    obtain ⟨f, hf, H⟩ := binC_sound (P := P) op t (o := ⟨dst, .binOp op t X Y yt, type, pos, after, guard⟩) rfl
    show OpCOk P _ (binC P op t)
    rw [hf]; exact H
  case unOp op t X =>
    intro x h k H
    obtain ⟨v, h1, h2⟩ := unK_yes H
    exact pureMk h1 fun h3 => exec1p (fun ρ => rfl) rfl h2
  case convert s d X =>
    show OpCOk P _ (match convQ P s d with
      | true => .c1 fun x h k => convQK P s d x fun v => k v h
      | false => .c1 fun x h k => convK P s d x h k)
    cases hq : convQ P s d with
    | true =>
      intro x h k H
      obtain ⟨v, h1, h2⟩ := convQK_yes H
      exact pureMk h1 fun h3 => exec1p (fun ρ => rfl) rfl h2
    | false =>
      intro x h k H
      obtain ⟨v, h', h1, h2⟩ := convK_yes H
      exact ⟨v, h', h1, exec1 (fun ρ => rfl) rfl h2, .no hq⟩
  case alloc e =>
    intro xs h k H
    obtain ⟨v, h', h1, h2⟩ := allocK_yes H
    refine ⟨v, h', h1, .val fun β w a hr hx => ?_, .no rfl⟩
    obtain ⟨β', w', u, f1, f2, f3⟩ := h2 β w hr
    exact ⟨β', w', u, by show (do Pure.pure (Next.value (← Instr.alloc e true (.tuple #[])))).run P w = _; rw [Sem.run_bind, f1]; rfl, f2, f3⟩
  case box e X =>
    intro x h k H
    obtain ⟨v, h', h1, h2⟩ := boxK_yes H
    exact ⟨v, h', h1, exec1 (fun ρ => rfl) rfl h2, .no rfl⟩
  case build t ps =>
    intro xs h k H
    obtain ⟨v, h1, h2⟩ := buildK_yes (k := fun v => k v h) H
    refine pureMk h1 fun h3 => .pure fun β w a hx => ?_
    have hx' : conL β xs = some ((ps.toList.map (·.2)).map a.eval) := by simpa [Op.operands] using hx
    obtain ⟨u, f1, f2⟩ := h2 β w _ hx'
    refine ⟨u, ?_, f2⟩
    show (do Pure.pure (Next.value (← Instr.build t (ps.map fun (i, x) => (i, a.eval x))))).run P w = _
    rw [map_parts, Sem.run_bind, f1]; rfl
  case buildSlice t n ps =>
    intro xs h k H
    obtain ⟨v, h', h1, h2⟩ := buildSliceK_yes H
    refine ⟨v, h', h1, .val fun β w a hr hx => ?_, .no rfl⟩
    have hx' : conL β xs = some ((ps.toList.map (·.2)).map a.eval) := by simpa [Op.operands] using hx
    obtain ⟨β', w', u, f1, f2, f3⟩ := h2 β w _ hr hx'
    refine ⟨β', w', u, ?_, f2, f3⟩
    show (do Pure.pure (Next.value (← Instr.buildSlice t n (ps.map fun (i, x) => (i, a.eval x))))).run P w = _
    rw [map_parts, Sem.run_bind, f1]; rfl
  case load t X =>
    intro x h k H
    obtain ⟨v, h1, h2⟩ := loadK_yes (k := fun v => k v h) H
    exact ⟨v, h, h1, exec1 (fun ρ => rfl) rfl h2, .no rfl⟩
  case store t X Y =>
    intro x y h k H
    obtain ⟨h', h1, h2⟩ := storeK_yes H
    refine ⟨_, h', h1, .skip fun β w a hr hx => ?_, .no rfl⟩
    obtain ⟨e1, e2⟩ := conL2 hx
    obtain ⟨β', w', f1, f2⟩ := h2 β w _ _ hr e1 e2
    exact ⟨β', w', by show (do Instr.storeAt t (a.eval X) (a.eval Y); Pure.pure Next.skip).run P w = _; rw [Sem.run_bind, f1]; rfl, f2⟩
  case nilCheck X =>
    intro x h k H
    dsimp only at H
    split at H
    · refine pureMk H fun h3 => .pure fun β w a hx => ?_
      have e := conL1 hx
      obtain ⟨c, κ, _, e2⟩ := con_ptr e
      exact ⟨a.eval X, by simp [execOp, e2], e⟩
    · refine pureMk H fun h3 => .pure fun β w a hx => ?_
      have e := conL1 hx
      obtain ⟨c, d, _, _, e2⟩ := con_fn e
      exact ⟨a.eval X, by simp [execOp, e2], e⟩
    · cases H
  case makeInterface t X =>
    show OpCOk P _ (match P.underlying t with
      | some (.interface _) => .bad 132
      | some _ => .c1 fun x h k => k (.iface t x) h
      | none => .bad 133)
    split
    · trivial
    · rename_i d hd hni
      intro x h k H
      refine pureMk H fun h3 => exec1p (f := Instr.makeInterface t) (fun ρ => rfl) rfl fun β a w ha => ⟨.iface t a, ?_, by simp only [con, ha]; rfl⟩
      unfold Instr.makeInterface
      simp only [Sem.run_bind, run_underlying hni, Result.andThen_ok]
      cases d <;> first | rfl | exact absurd rfl (hd _)
    · trivial
  case makeFunc fn first captured =>
    intro xs h k H
    simp only [takeK_eq, dropK_eq] at H
    refine pureMk H fun h3 => .pure fun β w a hx => ?_
    have hx' : conL β xs = some ((first.toList.map a.eval) ++ (captured.toList.map a.eval)) := by simpa [Op.operands] using hx
    refine ⟨.func fn (first.map a.eval) (captured.map a.eval), rfl, ?_⟩
    have h1 := conL_take first.size hx'
    have h2 := conL_drop first.size hx'
    rw [List.take_left' (by simp)] at h1
    rw [List.drop_left' (by simp)] at h2
    simp only [con, h1, h2, Option.bind_some, Option.map_some]
    congr 1
    rw [show (first.toList.map a.eval).toArray = first.map a.eval by apply Array.ext'; simp, show (captured.toList.map a.eval).toArray = captured.map a.eval by apply Array.ext'; simp]
  case makeMap t r =>
    cases r with
    | none =>
      intro xs h k H
      obtain ⟨v, h', h1, h2⟩ := newMapK_yes (P := P) H
      refine ⟨v, h', h1, .val fun β w a hr hx => ?_, .no rfl⟩
      obtain ⟨β', w', u, f1, f2, f3⟩ := h2 β w hr
      refine ⟨β', w', u, ?_, f2, f3⟩
      have e : Instr.makeMap t none = (do Pure.pure (Value.map (some (← newObj (.map #[] 0)))) : Sem Value) := rfl
      show (do Pure.pure (Next.value (← Instr.makeMap t none))).run P w = _
      rw [e, Sem.run_bind, f1]; rfl
    | some r =>
      intro x h k H
      dsimp only at H
      obtain ⟨n, hn, Ha⟩ := natOf_yes H
      obtain ⟨hk, Hb⟩ := cnd_yes Ha
      obtain ⟨d, hd⟩ := mapB_yes hk
      obtain ⟨v, h', h1, h2⟩ := newMapK_yes (P := P) Hb
      refine ⟨v, h', h1, .val fun β w a hr hx => ?_, .no rfl⟩
      obtain ⟨β', w', u, f1, f2, f3⟩ := h2 β w hr
      refine ⟨β', w', u, ?_, f2, f3⟩
      obtain ⟨q, e⟩ := hn β _ (conL1 hx)
      show (do Pure.pure (Next.value (← Instr.makeMap t (some (a.eval r))))).run P w = _
      rw [e]
      unfold Instr.makeMap asInt
      obtain ⟨e1, e2, hd⟩ := hd
      simp only [Sem.run_bind, run_underlying hd, Result.andThen_ok, run_index_int, Sem.run_pure] at f1 ⊢
      rw [f1]; rfl
  case makeSlice t X Y =>
    intro x y h k H
    obtain ⟨v, h', h1, h2⟩ := makeSliceK_yes H
    exact ⟨v, h', h1, exec2 (fun ρ => rfl) rfl h2, .no rfl⟩
  case slice t X lo hi mx =>
    have sl : ∀ {x : AV} {l2 h2 m2 : Option AV} {h : Hp} {k : AK} {xs : List AV}, (m2.isSome = true → h2.isSome = true) → sliceK P t x l2 h2 m2 (fun v => k v h) = .yes →
        (∀ β (a : Act), conL β xs = some ((#[X] ++ lo.toArray ++ hi.toArray ++ mx.toArray).toList.map a.eval) → con β x = some (a.eval X) ∧ OptR β l2 (lo.map a.eval) ∧ OptR β h2 (hi.map a.eval) ∧ OptR β m2 (mx.map a.eval)) →
        ∃ v h', k v h' = .yes ∧ OpHolds P ⟨dst, .slice t X lo hi mx, type, pos, after, guard⟩ xs h v h' ∧ Quiet P ⟨dst, .slice t X lo hi mx, type, pos, after, guard⟩ xs h v h' := by
      intro x l2 h2 m2 h k xs hm H hx
      obtain ⟨v, g1, g2⟩ := sliceK_yes hm H
      refine pureMk g1 fun h3 => .pure fun β w a hxs => ?_
      obtain ⟨e1, e2, e3, e4⟩ := hx β a hxs
      obtain ⟨u, f1, f2⟩ := g2 β w _ _ _ _ e1 e2 e3 e4
      refine ⟨u, ?_, f2⟩
      show (do Pure.pure (Next.value (← Instr.sliceAt t (a.eval X) (lo.map a.eval) (hi.map a.eval) (mx.map a.eval)))).run P w = _
      rw [Sem.run_bind, f1]; rfl
    cases lo <;> cases hi <;> cases mx
    · intro x h k H
      exact sl (by simp) H fun β a hx => ⟨conL1 hx, trivial, trivial, trivial⟩
    · trivial
    · intro x b h k H
      exact sl (by simp) H fun β a hx => ⟨(conL2 hx).1, trivial, (conL2 hx).2, trivial⟩
    · intro xs h k H
      dsimp only at H
      split at H
      · refine sl (by simp) H fun β a hx => ?_
        obtain ⟨v1, us, e1, e2, e3⟩ := conL_cons hx
        injection e3 with e4 e5
        subst e5
        obtain ⟨f1, f2⟩ := conL2 e2
        exact ⟨by rw [e4]; exact e1, trivial, f1, f2⟩
      · cases H
    · intro x b h k H
      exact sl (by simp) H fun β a hx => ⟨(conL2 hx).1, (conL2 hx).2, trivial, trivial⟩
    · trivial
    · intro xs h k H
      dsimp only at H
      split at H
      · refine sl (by simp) H fun β a hx => ?_
        obtain ⟨v1, us, e1, e2, e3⟩ := conL_cons hx
        injection e3 with e4 e5
        subst e5
        obtain ⟨f1, f2⟩ := conL2 e2
        exact ⟨by rw [e4]; exact e1, f1, f2, trivial⟩
      · cases H
    · intro xs h k H
      dsimp only at H
      split at H
      · refine sl (by simp) H fun β a hx => ?_
        obtain ⟨v1, us, e1, e2, e3⟩ := conL_cons hx
        injection e3 with e4 e5
        obtain ⟨v2, us2, f1, f2, f3⟩ := conL_cons e2
        rw [f3] at e5
        injection e5 with e6 e7
        subst e7
        obtain ⟨g1, g2⟩ := conL2 f2
        exact ⟨by rw [e4]; exact e1, (by first | (rw [← e6] at f1; exact f1) | (rw [e6] at f1; exact f1)), g1, g2⟩
      · cases H
  case fieldAddr s X f =>
    intro x h k H
    obtain ⟨v, h1, h2⟩ := fieldAddrK_yes (k := fun v => k v h) H
    exact pureMk h1 fun h3 => exec1p (f := fun a => Instr.fieldAt s a f) (fun ρ => rfl) rfl h2
  case field s X f =>
    intro x h k H
    obtain ⟨v, h1, h2⟩ := fieldK_yes (k := fun v => k v h) H
    exact pureMk h1 fun h3 => exec1p (f := fun a => Instr.field s a f) (fun ρ => rfl) rfl h2
  case indexAddr t X Y =>
    intro x y h k H
    obtain ⟨v, h1, h2⟩ := indexAddrK_yes (k := fun v => k v h) H
    exact pureMk h1 fun h3 => exec2p (f := Instr.indexAt t) (fun ρ => rfl) rfl h2
  case index t X Y =>
    intro x y h k H
    obtain ⟨v, h1, h2⟩ := indexK_yes (k := fun v => k v h) H
    exact pureMk h1 fun h3 => exec2p (f := Instr.index t) (fun ρ => rfl) rfl h2
  case lookup t X Y ok =>
    intro x y h k H
    obtain ⟨v, h1, h2⟩ := lookupK_yes (k := fun v => k v h) H
    exact ⟨v, h, h1, exec2 (f := fun a b => Instr.lookup t a b ok) (fun ρ => rfl) rfl h2, .no rfl⟩
  case range t X =>
    intro x h k H
    obtain ⟨v, h', h1, h2⟩ := rangeStrK_yes H
    exact ⟨v, h', h1, exec1 (f := Instr.range t) (fun ρ => rfl) rfl h2, .no rfl⟩
  case next X s =>
    cases s with
    | false => trivial
    | true =>
      intro x h k H
      obtain ⟨v, h', h1, h2⟩ := nextStrK_yes (P := P) (ty := type) H
      exact ⟨v, h', h1, exec1 (f := fun a => Instr.next a true type) (fun ρ => rfl) rfl h2, .no rfl⟩
  case mapUpdate t X Y Z =>
    intro xs h k H
    dsimp only at H
    split at H
    · obtain ⟨h', h1, h2⟩ := updateK_yes H
      refine ⟨_, h', h1, .skip fun β w a hr hx => ?_, .no rfl⟩
      obtain ⟨v1, us, e1, e2, e3⟩ := conL_cons hx
      injection e3 with e4 e5
      subst e5
      obtain ⟨f1, f2⟩ := conL2 e2
      obtain ⟨β', w', g1, g2⟩ := h2 β w _ _ _ hr e1 f1 f2
      exact ⟨β', w', by show (do Instr.mapUpdate t (a.eval X) (a.eval Y) (a.eval Z); Pure.pure Next.skip).run P w = _; rw [e4, Sem.run_bind, g1]; rfl, g2⟩
    · cases H
  case insert t X Y Z =>
    intro xs h k H
    dsimp only at H
    split at H
    · obtain ⟨h', h1, h2⟩ := updateK_yes H
      refine ⟨_, h', h1, .skip fun β w a hr hx => ?_, .no rfl⟩
      obtain ⟨v1, us, e1, e2, e3⟩ := conL_cons hx
      injection e3 with e4 e5
      subst e5
      obtain ⟨f1, f2⟩ := conL2 e2
      obtain ⟨β', w', g1, g2⟩ := h2 β w _ _ _ hr e1 f1 f2
      exact ⟨β', w', by show (do Instr.mapUpdate t (a.eval X) (a.eval Y) (a.eval Z); Pure.pure Next.skip).run P w = _; rw [e4, Sem.run_bind, g1]; rfl, g2⟩
    · cases H
  case extract X i =>
    intro x h k H
    dsimp only at H
    split at H
    · rename_i l
      obtain ⟨v, hv, Ha⟩ := nthK_yes H
      refine pureMk Ha fun h3 => exec1p (f := fun a => Instr.extract a i) (fun ρ => rfl) rfl fun β a w ha => ?_
      obtain ⟨vs, e1, rfl⟩ := con_tup ha
      obtain ⟨u, e2, e3⟩ := conL_get e1 hv
      refine ⟨u, ?_, e3⟩
      unfold Instr.extract
      simp [e2]
    · cases H
  case call c =>
    obtain ⟨callee, args, argTypes⟩ := c
    cases callee
    case builtin b =>
      have gen : b ≠ .len → OpCOk P ⟨dst, .call ⟨.builtin b, args, argTypes⟩, type, pos, after, guard⟩ (.cn fun xs h k => builtinK P b argTypes type xs h k) := by
        intro hb xs h k H
        obtain ⟨v, h', h1, h2, h3⟩ := builtinK_yes hb H
        refine ⟨v, h', h1, .val fun β w a hr hx => ?_, fun hq => ?_⟩
        rotate_left
        · have hq' : isPureB b = true := by
            cases b <;> first | rfl | exact absurd rfl hb | cases hq
          obtain ⟨e, h4⟩ := h3 hq'
          refine ⟨e, fun h2 => .pure fun β w a hx => ?_⟩
          have hx' : conL β xs = some (args.toList.map a.eval) := by simpa [Op.operands, Call.operands] using hx
          obtain ⟨u, f1, f3⟩ := h4 β w _ (args.map fun | .const _ => true | _ => false) hx'
          refine ⟨u, ?_, f3⟩
          show (do let d ← resolve a.eval ⟨.builtin b, args, argTypes⟩ type; invoke d.target d.args).run P w = _
          unfold resolve invoke
          simp only [Sem.run_bind, Sem.run_pure, Result.andThen_ok]
          rw [show args.map a.eval = (args.toList.map a.eval).toArray by apply Array.ext'; simp]
          exact f1
        have hx' : conL β xs = some (args.toList.map a.eval) := by simpa [Op.operands, Call.operands] using hx
        obtain ⟨β', w', u, f1, f2, f3⟩ := h2 β w _ (args.map fun | .const _ => true | _ => false) hr hx'
        refine ⟨β', w', u, ?_, f2, f3⟩
        show (do let d ← resolve a.eval ⟨.builtin b, args, argTypes⟩ type; invoke d.target d.args).run P w = _
        unfold resolve invoke
        simp only [Sem.run_bind, Sem.run_pure, Result.andThen_ok]
        rw [show args.map a.eval = (args.toList.map a.eval).toArray by apply Array.ext'; simp]
        exact f1
      cases b
      case len =>
        show OpCOk P _ (match argTypes[0]? with
          | some t => match lenQ P t with
            | true => .c1 fun x h k => lenQK P t x fun v => k v h
            | false => .c1 fun x h k => lenOfK P t x h fun v => k v h
          | none => .bad 114)
        split
        · rename_i t ht
          have ex : ∀ (a : Act) (w w' : World) (x : AV) (β : Bt) (v : AV) (u v1 : Value), args.toList.map a.eval = [v1] → (Builtin.len_ argTypes type #[v1]).run P w = .ok u w' → (execOp a.eval ⟨dst, .call ⟨.builtin .len, args, argTypes⟩, type, pos, after, guard⟩).run P w = .ok (.value u) w' := by
            intro a w w' x β v u v1 e3 f1
            show (do let d ← resolve a.eval ⟨.builtin .len, args, argTypes⟩ type; invoke d.target d.args).run P w = _
            unfold resolve invoke
            simp only [Sem.run_bind, Sem.run_pure, Result.andThen_ok]
            rw [show args.map a.eval = #[v1] by apply Array.ext'; simpa using e3]
            show (do Pure.pure (Next.value (← Builtin.len_ argTypes type #[v1]))).run P w = _
            rw [Sem.run_bind, f1]; rfl
          cases hq : lenQ P t with
          | true =>
            intro x h k H
            obtain ⟨v, h1, h2⟩ := lenQK_yes (ty := type) ht H
            refine pureMk h1 fun h3 => .pure fun β w a hx => ?_
            have hx' : conL β [x] = some (args.toList.map a.eval) := by simpa [Op.operands, Call.operands] using hx
            obtain ⟨v1, us, e1, e2, e3⟩ := conL_cons hx'
            obtain rfl := conL_nil e2
            obtain ⟨u, f1, f3⟩ := h2 β _ w e1
            exact ⟨u, ex a w w x β v u v1 e3 f1, f3⟩
          | false =>
            intro x h k H
            obtain ⟨v, h1, h2⟩ := lenOfK_yes (ty := type) ht (k := fun v => k v h) H
            refine ⟨v, h, h1, .val fun β w a hr hx => ?_, .no (by show (match argTypes[0]? with | some t => lenQ P t | none => false) = false; rw [ht]; exact hq)⟩
            have hx' : conL β [x] = some (args.toList.map a.eval) := by simpa [Op.operands, Call.operands] using hx
            obtain ⟨v1, us, e1, e2, e3⟩ := conL_cons hx'
            obtain rfl := conL_nil e2
            obtain ⟨β', w', u, f1, f2, f3⟩ := h2 β w _ hr e1
            exact ⟨β', w', u, ex a w w' x β v u v1 e3 f1, f2, f3⟩
        · trivial
      all_goals exact gen (by intro h; cases h)
    all_goals trivial
  all_goals trivial
end Go.Ev
