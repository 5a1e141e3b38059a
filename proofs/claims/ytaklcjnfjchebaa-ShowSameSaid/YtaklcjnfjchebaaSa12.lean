import Derived.Lib.UnsafeStr
import Derived.Laws.IdiomRangeMap
import Derived.Orders
import Derived.Test.YtaklcjnfjchebaaSa11
set_option linter.unusedVariables false
set_option linter.unusedSectionVars false
set_option linter.unusedSimpArgs false
namespace Go.Ev
section
variable [Sg]
open Go.RowKit
variable {P : Program}
theorem exec1 {o : Oper} {f : Value → Sem Value} {X : Operand} {x v : AV} {h h' : Hp} (he : ∀ ρ : Operand → Value, execOp ρ o = (do Pure.pure (Next.value (← f (ρ X))))) (hX : o.op.operands.toList = [X]) (H : Sem1 P f x h v h') : OpHolds P o [x] h v h' := by
  refine .val fun β w a hr hx => ?_
  rw [hX] at hx
  obtain ⟨β', w', u, h1, h2, h3⟩ := H β w (a.eval X) hr (conL1 hx)
  refine ⟨β', w', u, ?_, h2, h3⟩
  rw [he, Sem.run_bind, h1]; rfl
theorem exec2 {o : Oper} {f : Value → Value → Sem Value} {X Y : Operand} {x y v : AV} {h h' : Hp} (he : ∀ ρ : Operand → Value, execOp ρ o = (do Pure.pure (Next.value (← f (ρ X) (ρ Y))))) (hX : o.op.operands.toList = [X, Y]) (H : Sem2 P f x y h v h') : OpHolds P o [x, y] h v h' := by
  refine .val fun β w a hr hx => ?_
  rw [hX] at hx
  obtain ⟨hx, hy⟩ := conL2 hx
  obtain ⟨β', w', u, h1, h2, h3⟩ := H β w (a.eval X) (a.eval Y) hr hx hy
  refine ⟨β', w', u, ?_, h2, h3⟩
  rw [he, Sem.run_bind, h1]; rfl
theorem exec1p {o : Oper} {f : Value → Sem Value} {X : Operand} {x v : AV} {h : Hp} (he : ∀ ρ : Operand → Value, execOp ρ o = (do Pure.pure (Next.value (← f (ρ X))))) (hX : o.op.operands.toList = [X]) (H : ∀ β a w, con β x = some a → ∃ u, (f a).run P w = .ok u w ∧ con β v = some u) : OpHolds P o [x] h v h :=
  exec1 he hX (.of_pure H)
theorem exec2p {o : Oper} {f : Value → Value → Sem Value} {X Y : Operand} {x y v : AV} {h : Hp} (he : ∀ ρ : Operand → Value, execOp ρ o = (do Pure.pure (Next.value (← f (ρ X) (ρ Y))))) (hX : o.op.operands.toList = [X, Y]) (H : ∀ β a b w, con β x = some a → con β y = some b → ∃ u, (f a b).run P w = .ok u w ∧ con β v = some u) : OpHolds P o [x, y] h v h :=
  exec2 he hX fun β w a b hr ha hb => let ⟨u, h1, h2⟩ := H β a b w ha hb; ⟨β, w, u, h1, .refl hr, h2⟩
theorem plainsK_yes {xs : List AV} {k : List Value → Ans} (H : builtinK.plainsK xs k = .yes) : ∃ vs, plainL xs = some vs ∧ k vs = .yes := by
  unfold builtinK.plainsK at H
  cases h : plainL xs with
  | none => rw [h] at H; cases H
  | some vs => rw [h] at H; exact ⟨vs, rfl, H⟩
def isPureB (b : Builtin) : Bool := match b with
  | .max | .min | .real | .imag | .complex => true
  | _ => false
theorem ts_two {ts : Array TypeId} (h : ts.size = 2) : ∃ a b, ts = #[a, b] := by
  obtain ⟨l⟩ := ts
  match l, h with
  | [a, b], _ => exact ⟨a, b, rfl⟩
theorem freeze_stp {β : Bt} {t : Tr Blk} {nx low b cb κ n : Nat} {w : World} (hr : HR β (.mk t nx low) w) (hβ : β b = some (cb, κ)) {x : Blk} (hb : t.get (path b) = some x) :
    Stp β (.mk t nx low) w β (.mk (t.set (path b) none) nx (min low b)) (w.freeze ⟨cb, 0, none⟩ n) := by
  have hheap : ∀ c, c ≠ cb → (w.freeze ⟨cb, 0, none⟩ n).heap[c]? = w.heap[c]? := fun c hc => by
    unfold World.freeze
    split
    · rfl
    · simp only [Array.getElem?_modify]
      rw [if_neg (fun h => hc h.symm)]
  have hsz : (w.freeze ⟨cb, 0, none⟩ n).heap.size = w.heap.size := by
    unfold World.freeze
    split <;> simp
  have ho : (w.freeze ⟨cb, 0, none⟩ n).os = w.os ∧ (w.freeze ⟨cb, 0, none⟩ n).tape = w.tape ∧ (w.freeze ⟨cb, 0, none⟩ n).output = w.output := by
    unfold World.freeze
    split <;> exact ⟨rfl, rfl, rfl⟩
  have sub : ∀ b' x', (t.set (path b) none).get (path b') = some x' → b' ≠ b ∧ t.get (path b') = some x' := fun b' x' h => by
    rw [get_set] at h
    split at h
    · cases h
    · rename_i hne
      exact ⟨fun e => hne (by rw [e]), h⟩
  refine ⟨⟨fun b' x' h => ?_, fun b1 b2 x1 x2 c κ1 κ2 h h' => hr.inj b1 b2 x1 x2 c κ1 κ2 (sub b1 x1 h).2 (sub b2 x2 h').2, hr.fresh, Nat.le_trans (Nat.min_le_left _ _) hr.low⟩, Nat.le_refl _, Nat.min_le_left _ _, fun _ _ => rfl, (fun b' x' _ e => ⟨x', (sub b' x' e).2⟩), (fun b' c κ' hb' e => by rw [hr.fresh b' hb'] at e; cases e), ⟨ho.1, ho.2.1, ho.2.2, by rw [hsz]; exact Nat.le_refl _, fun c hc hne => hheap c fun e => ?_⟩⟩
  · obtain ⟨hne, h⟩ := sub b' x' h
    obtain ⟨h1, c, κ', h2, h3⟩ := hr.blk b' x' h
    refine ⟨h1, c, κ', h2, ?_⟩
    rw [hheap c fun e => ?_]
    · exact h3
    · subst e
      exact hne (hr.inj b' b x' x c κ' κ h hb h2 hβ)
  · subst e
    exact hne b κ x (Nat.min_le_right _ _) hb hβ
theorem run_obj {w : World} {r p : Nat} {s : ByteArray} (h : w.heap[r]? = some (.stringIter s p)) : (getObj r).run P w = .ok (.stringIter s p) w := by
  simp only [getObj, Sem.run, h]
theorem run_setObj {w : World} {r p : Nat} {s : ByteArray} (o : Obj) (h : w.heap[r]? = some (.stringIter s p)) : (setObj r o).run P w = .ok () { w with heap := w.heap.setIfInBounds r o } := by
  simp only [setObj, Sem.run, h]
theorem rangeStrK_yes {t : TypeId} {x : AV} {h : Hp} {k : AK} (H : rangeStrK P t x h k = .yes) : ∃ v h', k v h' = .yes ∧ Sem1 P (Instr.range t) x h v h' := by
  unfold rangeStrK at H
  split at H
  · rename_i n l tr nx low hd
    rw [setP_eq, fNat_eq] at H
    refine ⟨_, _, H, fun β w a hr ha => ?_⟩
    obtain ⟨rfl, -, h3⟩ := con_str_inv ha
    refine ⟨upd β nx w.heap.size 0, w.alloc (.stringIter (bytesOf l) 0), .pointer (some ⟨w.heap.size, 0, none⟩), ?_, Stp.new_block hr (.stringIter (bytesOf l) 0) 0 (.iter l 0) rfl rfl rfl rfl ⟨rfl, h3⟩, by simp only [con, upd_same]; rfl⟩
    unfold Instr.range
    simp only [Sem.run_bind, run_underlying hd, Result.andThen_ok, Sem.run_pure]
    rfl
  · rename_i q e b tr nx low hd
    obtain ⟨bl, hb, H⟩ := getP_yes H
    split at H
    · rename_i es c
      rw [setP_eq, fNat_eq] at H
      refine ⟨_, _, H, fun β w a hr ha => ?_⟩
      obtain ⟨cb, κ, ms, e1, e2, e3⟩ := map_of hr (show (Hp.mk tr nx low).tr.get (path b) = _ from hb)
      obtain ⟨c', κ', e4, rfl⟩ := con_map ha
      rw [e1] at e4; injection e4 with e4; injection e4 with e4 _; subst e4
      have hlt : b < nx := (hr.blk b _ (show (Hp.mk tr nx low).tr.get (path b) = _ from hb)).1
      refine ⟨upd β nx w.heap.size 0, w.alloc (.mapIter (some cb) c #[] c), .pointer (some ⟨w.heap.size, 0, none⟩), run_range_map w t q e cb ms c hd e2, Stp.new_block hr (.mapIter (some cb) c #[] c) 0 (.miter b c) rfl rfl rfl rfl ⟨cb, κ, by rw [upd_ne (by omega)]; exact e1, rfl⟩, by simp only [con, upd_same]; rfl⟩
    · cases H
  · cases H
theorem nextStrK_yes {ty : TypeId} {x : AV} {h : Hp} {k : AK} (H : nextStrK x h k = .yes) : ∃ v h', k v h' = .yes ∧ Sem1 P (fun a => Instr.next a true ty) x h v h' := by
  unfold nextStrK at H
  split at H
  · rename_i b t n low
    obtain ⟨bl, hb, H⟩ := getP_yes H
    split at H
    · rename_i l pos
      rw [dropK_eq] at H
      have hsz : (bytesOf l).size = l.length := bytesOf_size l
      cases hr2 : l.drop pos with
      | nil =>
        rw [hr2] at H
        have hle : l.length ≤ pos := by simpa using hr2
        refine ⟨_, _, H, fun β w a hr ha => ?_⟩
        obtain ⟨cb, κ, hβ, rfl⟩ := con_ptr ha
        obtain ⟨-, cb', κ', hβ', g1, -⟩ := hr.blk b _ hb
        rw [hβ] at hβ'; injection hβ' with hβ'; injection hβ' with e1 e2; subst e1
        refine ⟨β, w, .tuple #[.bool false], ?_, .refl hr, rfl⟩
        unfold Instr.next
        simp only [Sem.run_bind, run_obj g1, Result.andThen_ok]
        rw [if_neg (by omega)]; rfl
      | cons c r =>
        rw [hr2] at H
        obtain ⟨h1, H⟩ := cnd_yes H
        rw [fNat_eq, natMin_eq, setP_eq] at H
        have hlt : pos < l.length := by
          have := congrArg List.length hr2
          simp at this; omega
        have hget : l[pos]? = some c := by
          have := List.getElem?_drop (xs := l) (i := pos) (j := 0)
          rw [hr2] at this
          simpa using this.symm
        have hc : c < 128 := Nat.le_of_ble_eq_true h1
        refine ⟨_, _, H, fun β w a hr ha => ?_⟩
        obtain ⟨cb, κ, hβ, rfl⟩ := con_ptr ha
        obtain ⟨-, cb', κ', hβ', g1, g2⟩ := hr.blk b _ hb
        rw [hβ] at hβ'; injection hβ' with hβ'; injection hβ' with e1 e2; subst e1
        have hdec : Utf8.decode (bytesOf l) pos = (c, 1) := by
          unfold Utf8.decode
          have hb0 : ((bytesOf l).get! (pos + 0)).toNat = c := by
            have e : (bytesOf l).data[pos]? = some (UInt8.ofNat c) := by simp [bytesOf, hget]
            show ((bytesOf l).data[pos + 0]!).toNat = c
            rw [Nat.add_zero, getElem!_def, e]
            simp; omega
          simp only [hb0]
          rw [if_pos hc]
        refine ⟨β, { w with heap := w.heap.setIfInBounds cb (.stringIter (bytesOf l) (pos + 1)) }, .tuple #[.bool true, goInt pos, .int .i32 c], ?_, Stp.set_block hr hb hβ (by simp) (fun i hi hne => by simp [Array.getElem?_setIfInBounds, hne.symm]) rfl rfl rfl ⟨?_, g2⟩, rfl⟩
        · unfold Instr.next
          simp only [Sem.run_bind, run_obj g1, Result.andThen_ok]
          rw [if_pos (by omega), hdec]
          simp only [Sem.run_bind, run_setObj _ g1, Result.andThen_ok]
          rfl
        · have hlt : cb < w.heap.size := (Array.getElem?_eq_some_iff.1 g1).1
          simp [Array.getElem?_setIfInBounds, hlt]
    · cases H
  · cases H
theorem builtinK_yes {b : Builtin} {ts : Array TypeId} {ty : TypeId} {xs : List AV} {h : Hp} {k : AK} (hl : b ≠ .len) (H : builtinK P b ts ty xs h k = .yes) :
    ∃ v h', k v h' = .yes ∧ (∀ β w (vs : List Value) cs, HR β h w → conL β xs = some vs → ∃ β' w' u, (builtin b ts ty cs vs.toArray).run P w = .ok (.value u) w' ∧ Stp β h w β' h' w' ∧ con β' v = some u) ∧ (isPureB b = true → h' = h ∧ ∀ β w (vs : List Value) cs, conL β xs = some vs → ∃ u, (builtin b ts ty cs vs.toArray).run P w = .ok (.value u) w ∧ con β v = some u) := by
  have pl : ∀ {f : List Value → Sem Value}, (builtinK.plainsK xs fun vs => modelK P (f vs) fun v => k v h) = .yes → (∀ cs (vs : List Value), builtin b ts ty cs vs.toArray = (do Pure.pure (.value (← f vs)))) →
      ∃ v h', k v h' = .yes ∧ (∀ β w (vs : List Value) cs, HR β h w → conL β xs = some vs → ∃ β' w' u, (builtin b ts ty cs vs.toArray).run P w = .ok (.value u) w' ∧ Stp β h w β' h' w' ∧ con β' v = some u) ∧ (isPureB b = true → h' = h ∧ ∀ β w (vs : List Value) cs, conL β xs = some vs → ∃ u, (builtin b ts ty cs vs.toArray).run P w = .ok (.value u) w ∧ con β v = some u) := by
    intro f H hb
    obtain ⟨ps, hp, Ha⟩ := plainsK_yes H
    obtain ⟨v, av, h1, h2, h3⟩ := modelK_yes Ha
    have key : ∀ β w (vs : List Value) cs, conL β xs = some vs → (builtin b ts ty cs vs.toArray).run P w = .ok (.value v) w := by
      intro β w vs cs hx
      rw [hb, plainL_con β hp hx, Sem.run_bind, semPure_run h1 w]; rfl
    exact ⟨av, h, h3, fun β w vs cs hr hx => ⟨β, w, v, key β w vs cs hx, .refl hr, h2 β⟩, fun _ => ⟨rfl, fun β w vs cs hx => ⟨v, key β w vs cs hx, h2 β⟩⟩⟩
  unfold builtinK at H
  split at H
  · exact absurd rfl hl
  · rename_i s x
    obtain ⟨v, h', h1, h2⟩ := appendK_yes (ty := ty) H
    refine ⟨v, h', h1, fun β w vs cs hr hx => ?_, fun h => by cases h⟩
    obtain ⟨a, us, e1, e2, rfl⟩ := conL_cons hx
    obtain ⟨b, us', e3, e4, rfl⟩ := conL_cons e2
    obtain rfl := conL_nil e4
    obtain ⟨β', w', u, f1, f2, f3⟩ := h2 β w a b hr e1 e3
    refine ⟨β', w', u, ?_, f2, f3⟩
    show (do Pure.pure (Next.value (← Builtin.append_ ts ty #[a, b]))).run P w = _
    rw [Sem.run_bind, f1]; rfl
  · rename_i d x
    obtain ⟨v, h', h1, h2⟩ := copyK_yes (ty := ty) H
    refine ⟨v, h', h1, fun β w vs cs hr hx => ?_, fun h => by cases h⟩
    obtain ⟨a, us, e1, e2, rfl⟩ := conL_cons hx
    obtain ⟨b, us', e3, e4, rfl⟩ := conL_cons e2
    obtain rfl := conL_nil e4
    obtain ⟨β', w', u, f1, f2, f3⟩ := h2 β w a b hr e1 e3
    refine ⟨β', w', u, ?_, f2, f3⟩
    show (do Pure.pure (Next.value (← Builtin.copy_ ts ty #[a, b]))).run P w = _
    rw [Sem.run_bind, f1]; rfl
  · rename_i b' off n c
    split at H
    · rename_i e hts
      obtain ⟨t, h0, hd⟩ := Option.bind_eq_some_iff.1 hts
      refine ⟨_, _, H, fun β w vs cs hr hx => ?_, fun h => by cases h⟩
      obtain ⟨a, us, e1, e2, rfl⟩ := conL_cons hx
      obtain rfl := conL_nil e2
      obtain ⟨cb, κ, _, rfl⟩ := con_slice e1
      refine ⟨β, w, .int .i64 c, ?_, .refl hr, rfl⟩
      show (do Pure.pure (Next.value (← Builtin.cap_ ts ty #[_]))).run P w = _
      unfold Builtin.cap_
      rw [h0]
      simp [run_underlying hd, goInt]
    · cases H
  · rename_i n c
    split at H
    · rename_i e hts
      obtain ⟨t, h0, hd⟩ := Option.bind_eq_some_iff.1 hts
      rw [fNat_eq] at H
      refine ⟨_, _, H, fun β w vs cs hr hx => ?_, fun h => by cases h⟩
      obtain ⟨a, us, e1, e2, rfl⟩ := conL_cons hx
      obtain rfl := conL_nil e2
      obtain ⟨rfl, -⟩ := con_raw e1
      refine ⟨β, w, .int .i64 c, ?_, .refl hr, rfl⟩
      show (do Pure.pure (Next.value (← Builtin.cap_ ts ty #[_]))).run P w = _
      unfold Builtin.cap_
      rw [h0]
      simp [run_underlying hd, goInt]
    · cases H
  · rename_i b off n ex c
    obtain ⟨h1, H⟩ := cnd_yes H
    obtain ⟨h2, H⟩ := cnd_yes H
    refine ⟨_, _, H, fun β w vs cs hr hx => ?_, fun h => by cases h⟩
    obtain ⟨a, us, e1, e2, rfl⟩ := conL_cons hx
    obtain rfl := conL_nil e2
    obtain ⟨cb, κ, hβ, rfl, hor⟩ := con_slice' e1
    have hn : 0 < n := Nat.le_of_ble_eq_true h1
    have hc : (if ex = true then c else κ - c) ≠ 0 := by
      cases ex with
      | true => rw [if_pos rfl]; rw [Bool.not_true, Bool.false_or] at h2; have := Nat.le_of_ble_eq_true h2; omega
      | false =>
        rw [if_neg (by simp)]
        rcases hor with hor | hor
        · cases hor
        · omega
    refine ⟨β, w, .pointer (some ⟨cb, off, none⟩), ?_, .refl hr, by simp only [con, hβ]; rfl⟩
    show (do Pure.pure (Next.value (← Builtin.unsafeSliceData_ ts ty #[_]))).run P w = _
    rw [Sem.run_bind, Go.Lib.run_unsafeSliceData_row w ts ty _ _ _ hc]; rfl
  · refine ⟨_, _, H, fun β w vs cs hr hx => ?_, fun h => by cases h⟩
    obtain ⟨a, us, e1, e2, rfl⟩ := conL_cons hx
    obtain rfl := conL_nil e2
    obtain ⟨rfl, -⟩ := con_raw e1
    refine ⟨β, w, .pointer none, ?_, .refl hr, rfl⟩
    show (do Pure.pure (Next.value (← Builtin.unsafeSliceData_ ts ty #[_]))).run P w = _
    rw [Sem.run_bind, Go.Lib.run_unsafeSliceData_nil w ts ty _ _]; rfl
  · rename_i n
    obtain ⟨h1, H1⟩ := cnd_yes H
    obtain ⟨h2, H2⟩ := cnd_yes H1
    clear H H1
    obtain rfl := Nat.eq_of_beq_eq_true h1
    obtain ⟨t1, t2, rfl⟩ := ts_two (Nat.eq_of_beq_eq_true h2)
    have H := H2
    clear H2
    refine ⟨_, _, H, fun β w vs cs hr hx => ?_, fun h => by cases h⟩
    obtain ⟨a, us, e1, e2, rfl⟩ := conL_cons hx
    obtain ⟨b, us', e3, e4, rfl⟩ := conL_cons e2
    obtain rfl := conL_nil e4
    obtain ⟨rfl, -⟩ := con_raw e1
    rw [con_nat e3]
    refine ⟨β, w, .string .empty, ?_, .refl hr, con_str_mk rfl rfl⟩
    show (do Pure.pure (Next.value (← Builtin.unsafeString_ _ ty #[_, _]))).run P w = _
    have hrun := Go.Lib.run_unsafeString_none (P := P) w t1 t2 ty none
    rw [Sem.run_bind, show (Value.int .i64 ((0 : Nat) : Int)) = .int .i64 0 from rfl, hrun]; rfl
  · rename_i b off n
    obtain ⟨h1, H1⟩ := cnd_yes H
    obtain ⟨h2, H2⟩ := cnd_yes H1
    clear H H1
    obtain rfl := Nat.eq_of_beq_eq_true h1
    obtain ⟨t1, t2, rfl⟩ := ts_two (Nat.eq_of_beq_eq_true h2)
    have H := H2
    clear H2
    split at H
    · rename_i e he
      have he : P.underlying t1 = some (.pointer e) := he
      obtain ⟨cs', e', m, c, ex', sz, g1, g2, g3, g4, H⟩ := getK_yes H
      obtain ⟨l, rfl, h3, H⟩ := u8sOf_yes H
      obtain ⟨h4, H⟩ := cnd_yes H
      obtain ⟨h5, H⟩ := cnd_yes H
      obtain ⟨h6, H⟩ := cnd_yes H
      obtain ⟨t, nx, low⟩ := h
      replace g1 : t.get (path b) = _ := g1
      dsimp only at H
      rw [getP_eq, g1] at H
      dsimp only at H
      obtain ⟨h7, H7⟩ := cnd_yes H
      rw [natMin_eq, setP_eq] at H7
      clear H
      obtain rfl := Nat.eq_of_beq_eq_true h7
      have H := H7
      clear H7
      refine ⟨_, _, H, fun β w vs cs hr hx => ?_, fun h => by cases h⟩
      obtain ⟨a, us, e1, e2, rfl⟩ := conL_cons hx
      obtain ⟨b', us', e3, e4, rfl⟩ := conL_cons e2
      obtain rfl := conL_nil e4
      obtain ⟨cb, κ, hβ, rfl⟩ := con_ptr e1
      rw [con_nat e3]
      have hl : l.length = n := by simpa using g3
      have hn : 0 < n := Nat.le_of_ble_eq_true h4
      obtain ⟨cb', κ', vs', q1, q2, q3, q4, q5⟩ := cells_of hr (show (Hp.mk t nx low).tr.get (path b) = _ from g1) g2 g3 g4
      rw [hβ] at q1; injection q1 with q1; injection q1 with q1 q1'; subst q1
      rw [conL_u8 β h3] at q2; injection q2 with q2
      obtain ⟨-, cb', κ', hβ', csR, fz, r1, -, -, r2, -⟩ := hr.blk b _ (show (Hp.mk t nx low).tr.get (path b) = _ from g1)
      rw [hβ] at hβ'; injection hβ' with hβ'; injection hβ' with q6 q7; subst q6
      have hsh : w.shape? cb = some (e', csR.size) := by simp [World.shape?, r1]
      have hd : (bytesOf l).data.toList = l.map UInt8.ofNat := by simp [bytesOf]
      have hdl : (bytesOf l).data.toList.length = n := by rw [hd, List.length_map, hl]
      refine ⟨β, w.freeze ⟨cb, 0, none⟩ n, .string (bytesOf l), ?_, freeze_stp hr hβ g1, con_str_mk hl.symm h3⟩
      show (do Pure.pure (Next.value (← Builtin.unsafeString_ #[t1, t2] ty #[_, _]))).run P w = _
      have hrun := Go.Lib.run_unsafeString_row w t1 t2 ty e' he (Nat.eq_of_beq_eq_true h6) cb csR.size hsh (bytesOf l).data.toList (by intro h0; rw [h0] at hdl; simp at hdl; omega) (by rw [hdl]; omega) (by rw [hdl]; have := Nat.le_of_ble_eq_true h5; unfold two63 at this; omega) (fun j x hx2 => by
        have hj := q5 j (.int .u8 x.toNat) (by rw [← q2]; unfold byteCells; rw [List.getElem?_map, hx2]; rfl)
        rw [Nat.zero_add] at hj
        rw [Addr.add_lit, Nat.zero_add]
        exact hj)
      rw [hdl] at hrun
      rw [Sem.run_bind, hrun]
      rfl
    · cases H
  · exact pl H (fun cs vs => rfl)
  · exact pl H (fun cs vs => rfl)
  · exact pl H (fun cs vs => rfl)
  · exact pl H (fun cs vs => rfl)
  · exact pl H (fun cs vs => rfl)
  · cases H
theorem map_parts (ρ : Operand → Value) (ps : Array (Nat × Operand)) : (ps.map fun (i, x) => (i, ρ x)) = ((ps.toList.map (·.1)).zip ((ps.toList.map (·.2)).map ρ)).toArray := by
  apply Array.ext'
  simp only [Array.toList_map]
  induction ps.toList with
  | nil => rfl
  | cons p l ih => simp only [List.map_cons, List.zip_cons_cons, ih]
theorem pureMk {o : Oper} {xs : List AV} {h : Hp} {v : AV} {k : AK} (h1 : k v h = .yes) (E : ∀ h2, OpHolds P o xs h2 v h2) : ∃ v h', k v h' = .yes ∧ OpHolds P o xs h v h' ∧ Quiet P o xs h v h' := ⟨v, h, h1, E h, fun _ => ⟨rfl, E⟩⟩
def OpCOk (P : Program) (o : Oper) : OpC → Prop
  | .c1 f => ∀ x h k, f x h k = .yes → ∃ v h', k v h' = .yes ∧ OpHolds P o [x] h v h' ∧ Quiet P o [x] h v h'
  | .c2 f => ∀ x y h k, f x y h k = .yes → ∃ v h', k v h' = .yes ∧ OpHolds P o [x, y] h v h' ∧ Quiet P o [x, y] h v h'
  | .cn f => ∀ xs h k, f xs h k = .yes → ∃ v h', k v h' = .yes ∧ OpHolds P o xs h v h' ∧ Quiet P o xs h v h'
  | .bad _ => True
theorem onBool_yes {x : AV} {f t o : Ans} (H : onBool x f t o = .yes) (ho : o ≠ .yes) : ∃ b, x = .bool b ∧ (if b = true then t else f) = .yes := by
  cases x <;> first | exact absurd H ho | skip
  rename_i b
  refine ⟨b, rfl, ?_⟩
  cases b <;> exact H
theorem convQK_yes {src dst : TypeId} {x : AV} {k : AV → Ans} (H : convQK P src dst x k = .yes) : ∃ v, k v = .yes ∧ ∀ β a w, con β x = some a → ∃ u, (convert src dst a).run P w = .ok u w ∧ con β v = some u := by
  unfold convQK at H
  split at H
  · rename_i q n hd
    obtain ⟨h1, H⟩ := cnd_yes H
    obtain ⟨d, hs⟩ := knownB_some h1
    obtain ⟨v, h2, h3⟩ := wrapK_yes H
    refine ⟨v, h2, fun β a w ha => ⟨_, ?_, h3 β⟩⟩
    rw [con_nat ha]
    simp only [convert, Sem.run_bind, run_underlying hs, run_underlying hd, Result.andThen_ok, Conv.intToInt, Sem.run_pure]
    rfl
  · rename_i q n hd
    obtain ⟨h1, H⟩ := cnd_yes H
    obtain ⟨d, hs⟩ := knownB_some h1
    obtain ⟨v, h2, h3⟩ := wrapK_yes H
    refine ⟨v, h2, fun β a w ha => ⟨_, ?_, h3 β⟩⟩
    rw [con_u8 ha]
    simp only [convert, Sem.run_bind, run_underlying hs, run_underlying hd, Result.andThen_ok, Conv.intToInt, Sem.run_pure]
    rfl
  · rename_i q q' n hd
    obtain ⟨h1, H⟩ := cnd_yes H
    obtain ⟨d, hs⟩ := knownB_some h1
    obtain ⟨v, h2, h3⟩ := wrapK_yes H
    refine ⟨v, h2, fun β a w ha => ⟨_, ?_, h3 β⟩⟩
    rw [con_int ha]
    simp only [convert, Sem.run_bind, run_underlying hs, run_underlying hd, Result.andThen_ok, Conv.intToInt, Sem.run_pure]
  · rename_i n l hd
    obtain ⟨h1, H⟩ := cnd_yes H
    obtain ⟨d, hs⟩ := knownB_some h1
    refine ⟨_, H, fun β a w ha => ⟨a, ?_, ha⟩⟩
    rw [(con_str_inv ha).1]
    simp only [convert, Sem.run_bind, run_underlying hs, run_underlying hd, Result.andThen_ok, Sem.run_pure]
  · cases H
theorem lenQK_yes {ts : Array TypeId} {t ty : TypeId} (h0 : ts[0]? = some t) {x : AV} {k : AV → Ans} (H : lenQK P t x k = .yes) : ∃ v, k v = .yes ∧ ∀ β a w, con β x = some a → ∃ u, (Builtin.len_ ts ty #[a]).run P w = .ok u w ∧ con β v = some u := by
  have un : ∀ a, Builtin.len_ ts ty #[a] = Builtin.len_ #[t] ty #[a] := by
    intro a
    unfold Builtin.len_
    rw [h0]
    rfl
  unfold lenQK at H
  split at H
  · rename_i n l hd
    refine ⟨_, H, fun β a w ha => ?_⟩
    obtain ⟨rfl, h3, h4⟩ := con_str_inv ha
    refine ⟨.int .i64 n, ?_, rfl⟩
    rw [un]
    simp [Builtin.len_, run_underlying hd, bytesOf_size, h3, goInt]
  · rename_i b off n ex d hd
    refine ⟨_, H, fun β a w ha => ?_⟩
    obtain ⟨c, κ, _, rfl⟩ := con_slice ha
    refine ⟨.int .i64 n, ?_, rfl⟩
    rw [un]
    simp [Builtin.len_, run_underlying hd, goInt]
  · rename_i n c hd
    rw [fNat_eq] at H
    refine ⟨_, H, fun β a w ha => ?_⟩
    obtain ⟨rfl, -⟩ := con_raw ha
    refine ⟨.int .i64 n, ?_, rfl⟩
    rw [un]
    simp [Builtin.len_, run_underlying hd, goInt]
  · rename_i n e hd
    rw [fNat_eq] at H
    refine ⟨_, H, fun β a w ha => ?_⟩
    refine ⟨.int .i64 n, ?_, rfl⟩
    rw [un]
    simp [Builtin.len_, run_underlying hd, goInt]
  · cases H
theorem mapB_yes {t : TypeId} (h : mapB P t = true) : ∃ d : TypeDesc, ∃ e f, P.underlying t = some (.map e f) := by
  unfold mapB at h
  split at h
  · exact ⟨.bool, _, _, ‹_›⟩
  · cases h
theorem opC_sound (o : Oper) : OpCOk P o (opC P o.op o.type) := by
  obtain ⟨dst, op, type, pos, after, guard⟩ := o
  cases op
  case pick c a b =>
    intro xs h k H
    dsimp only at H
    split at H
    · rename_i c' a' b'
      obtain ⟨t, rfl, H⟩ := onBool_yes H (by intro h; cases h)
      refine pureMk (v := if t = true then a' else b') (by cases t <;> exact H) fun h2 => .pure fun β w ac hx => ?_
      obtain ⟨v1, us, e1, e2, e3⟩ := conL_cons hx
      obtain ⟨v2, us', e4, e5, rfl⟩ := conL_cons e2
      obtain ⟨v3, us'', e6, e7, rfl⟩ := conL_cons e5
      obtain rfl := conL_nil e7
      injection e3 with e8 e9
      injection e9 with e9 e10
      injection e10 with e10 _
      have hb := con_bool e1
      cases t with
      | true => exact ⟨ac.eval a, by simp [execOp, asBool, e8, hb], by rw [if_pos rfl, e9]; exact e4⟩
      | false => exact ⟨ac.eval b, by simp [execOp, asBool, e8, hb], by simp only [Bool.false_eq_true, if_false]; rw [e10]; exact e6⟩
    · cases H
  case binOp op t X Y yt =>
    obtain ⟨f, hf, H⟩ := binC_sound (P := P) op t (o := ⟨dst, .binOp op t X Y yt, type, pos, after, guard⟩) rfl
    show OpCOk P _ (binC P op t)
    rw [hf]; exact H
  case unOp op t X =>
    intro x h k H
    obtain ⟨v, h1, h2⟩ := unK_yes H
    exact pureMk h1 fun h3 => exec1p (fun ρ => rfl) rfl h2
  case convert s d X =>
    show OpCOk P _ (match convQ P s d with
      | true => .c1 fun x h k => convQK P s d x fun v => k v h
      | false => .c1 fun x h k => convK P s d x h k)
    cases hq : convQ P s d with
    | true =>
      intro x h k H
      obtain ⟨v, h1, h2⟩ := convQK_yes H
      exact pureMk h1 fun h3 => exec1p (fun ρ => rfl) rfl h2
    | false =>
      intro x h k H
      obtain ⟨v, h', h1, h2⟩ := convK_yes H
      exact ⟨v, h', h1, exec1 (fun ρ => rfl) rfl h2, .no hq⟩
  case alloc e =>
    intro xs h k H
    obtain ⟨v, h', h1, h2⟩ := allocK_yes H
    refine ⟨v, h', h1, .val fun β w a hr hx => ?_, .no rfl⟩
    obtain ⟨β', w', u, f1, f2, f3⟩ := h2 β w hr
    exact ⟨β', w', u, by show (do Pure.pure (Next.value (← Instr.alloc e true (.tuple #[])))).run P w = _; rw [Sem.run_bind, f1]; rfl, f2, f3⟩
  case box e X =>
    intro x h k H
    obtain ⟨v, h', h1, h2⟩ := boxK_yes H
    exact ⟨v, h', h1, exec1 (fun ρ => rfl) rfl h2, .no rfl⟩
  case build t ps =>
    intro xs h k H
    obtain ⟨v, h1, h2⟩ := buildK_yes (k := fun v => k v h) H
    refine pureMk h1 fun h3 => .pure fun β w a hx => ?_
    have hx' : conL β xs = some ((ps.toList.map (·.2)).map a.eval) := by simpa [Op.operands] using hx
    obtain ⟨u, f1, f2⟩ := h2 β w _ hx'
    refine ⟨u, ?_, f2⟩
    show (do Pure.pure (Next.value (← Instr.build t (ps.map fun (i, x) => (i, a.eval x))))).run P w = _
    rw [map_parts, Sem.run_bind, f1]; rfl
  case buildSlice t n ps =>
    intro xs h k H
    obtain ⟨v, h', h1, h2⟩ := buildSliceK_yes H
    refine ⟨v, h', h1, .val fun β w a hr hx => ?_, .no rfl⟩
    have hx' : conL β xs = some ((ps.toList.map (·.2)).map a.eval) := by simpa [Op.operands] using hx
    obtain ⟨β', w', u, f1, f2, f3⟩ := h2 β w _ hr hx'
    refine ⟨β', w', u, ?_, f2, f3⟩
    show (do Pure.pure (Next.value (← Instr.buildSlice t n (ps.map fun (i, x) => (i, a.eval x))))).run P w = _
    rw [map_parts, Sem.run_bind, f1]; rfl
  case load t X =>
    intro x h k H
    obtain ⟨v, h1, h2⟩ := loadK_yes (k := fun v => k v h) H
    exact ⟨v, h, h1, exec1 (fun ρ => rfl) rfl h2, .no rfl⟩
  case store t X Y =>
    intro x y h k H
    obtain ⟨h', h1, h2⟩ := storeK_yes H
    refine ⟨_, h', h1, .skip fun β w a hr hx => ?_, .no rfl⟩
    obtain ⟨e1, e2⟩ := conL2 hx
    obtain ⟨β', w', f1, f2⟩ := h2 β w _ _ hr e1 e2
    exact ⟨β', w', by show (do Instr.storeAt t (a.eval X) (a.eval Y); Pure.pure Next.skip).run P w = _; rw [Sem.run_bind, f1]; rfl, f2⟩
  case nilCheck X =>
    intro x h k H
    dsimp only at H
    split at H
    · refine pureMk H fun h3 => .pure fun β w a hx => ?_
      have e := conL1 hx
      obtain ⟨c, κ, _, e2⟩ := con_ptr e
      exact ⟨a.eval X, by simp [execOp, e2], e⟩
    · refine pureMk H fun h3 => .pure fun β w a hx => ?_
      have e := conL1 hx
      obtain ⟨c, d, _, _, e2⟩ := con_fn e
      exact ⟨a.eval X, by simp [execOp, e2], e⟩
    · cases H
  case makeInterface t X =>
    show OpCOk P _ (match P.underlying t with
      | some (.interface _) => .bad 132
      | some _ => .c1 fun x h k => k (.iface t x) h
      | none => .bad 133)
    split
    · trivial
    · rename_i d hd hni
      intro x h k H
      refine pureMk H fun h3 => exec1p (f := Instr.makeInterface t) (fun ρ => rfl) rfl fun β a w ha => ⟨.iface t a, ?_, by simp only [con, ha]; rfl⟩
      unfold Instr.makeInterface
      simp only [Sem.run_bind, run_underlying hni, Result.andThen_ok]
      cases d <;> first | rfl | exact absurd rfl (hd _)
    · trivial
  case makeFunc fn first captured =>
    intro xs h k H
    simp only [takeK_eq, dropK_eq] at H
    refine pureMk H fun h3 => .pure fun β w a hx => ?_
    have hx' : conL β xs = some ((first.toList.map a.eval) ++ (captured.toList.map a.eval)) := by simpa [Op.operands] using hx
    refine ⟨.func fn (first.map a.eval) (captured.map a.eval), rfl, ?_⟩
    have h1 := conL_take first.size hx'
    have h2 := conL_drop first.size hx'
    rw [List.take_left' (by simp)] at h1
    rw [List.drop_left' (by simp)] at h2
    simp only [con, h1, h2, Option.bind_some, Option.map_some]
    congr 1
    rw [show (first.toList.map a.eval).toArray = first.map a.eval by apply Array.ext'; simp, show (captured.toList.map a.eval).toArray = captured.map a.eval by apply Array.ext'; simp]
  case makeMap t r =>
    cases r with
    | none =>
      intro xs h k H
      obtain ⟨v, h', h1, h2⟩ := newMapK_yes (P := P) H
      refine ⟨v, h', h1, .val fun β w a hr hx => ?_, .no rfl⟩
      obtain ⟨β', w', u, f1, f2, f3⟩ := h2 β w hr
      refine ⟨β', w', u, ?_, f2, f3⟩
      have e : Instr.makeMap t none = (do Pure.pure (Value.map (some (← newObj (.map #[] 0)))) : Sem Value) := rfl
      show (do Pure.pure (Next.value (← Instr.makeMap t none))).run P w = _
      rw [e, Sem.run_bind, f1]; rfl
    | some r =>
      intro x h k H
      dsimp only at H
      obtain ⟨n, hn, Ha⟩ := natOf_yes H
      obtain ⟨hk, Hb⟩ := cnd_yes Ha
      obtain ⟨d, hd⟩ := mapB_yes hk
      obtain ⟨v, h', h1, h2⟩ := newMapK_yes (P := P) Hb
      refine ⟨v, h', h1, .val fun β w a hr hx => ?_, .no rfl⟩
      obtain ⟨β', w', u, f1, f2, f3⟩ := h2 β w hr
      refine ⟨β', w', u, ?_, f2, f3⟩
      obtain ⟨q, e⟩ := hn β _ (conL1 hx)
      show (do Pure.pure (Next.value (← Instr.makeMap t (some (a.eval r))))).run P w = _
      rw [e]
      unfold Instr.makeMap asInt
      obtain ⟨e1, e2, hd⟩ := hd
      simp only [Sem.run_bind, run_underlying hd, Result.andThen_ok, run_index_int, Sem.run_pure] at f1 ⊢
      rw [f1]; rfl
  case makeSlice t X Y =>
    intro x y h k H
    obtain ⟨v, h', h1, h2⟩ := makeSliceK_yes H
    exact ⟨v, h', h1, exec2 (fun ρ => rfl) rfl h2, .no rfl⟩
  case slice t X lo hi mx =>
    have sl : ∀ {x : AV} {l2 h2 m2 : Option AV} {h : Hp} {k : AK} {xs : List AV}, (m2.isSome = true → h2.isSome = true) → sliceK P t x l2 h2 m2 (fun v => k v h) = .yes →
        (∀ β (a : Act), conL β xs = some ((#[X] ++ lo.toArray ++ hi.toArray ++ mx.toArray).toList.map a.eval) → con β x = some (a.eval X) ∧ OptR β l2 (lo.map a.eval) ∧ OptR β h2 (hi.map a.eval) ∧ OptR β m2 (mx.map a.eval)) →
        ∃ v h', k v h' = .yes ∧ OpHolds P ⟨dst, .slice t X lo hi mx, type, pos, after, guard⟩ xs h v h' ∧ Quiet P ⟨dst, .slice t X lo hi mx, type, pos, after, guard⟩ xs h v h' := by
      intro x l2 h2 m2 h k xs hm H hx
      obtain ⟨v, g1, g2⟩ := sliceK_yes hm H
      refine pureMk g1 fun h3 => .pure fun β w a hxs => ?_
      obtain ⟨e1, e2, e3, e4⟩ := hx β a hxs
      obtain ⟨u, f1, f2⟩ := g2 β w _ _ _ _ e1 e2 e3 e4
      refine ⟨u, ?_, f2⟩
      show (do Pure.pure (Next.value (← Instr.sliceAt t (a.eval X) (lo.map a.eval) (hi.map a.eval) (mx.map a.eval)))).run P w = _
      rw [Sem.run_bind, f1]; rfl
    cases lo <;> cases hi <;> cases mx
    · intro x h k H
      exact sl (by simp) H fun β a hx => ⟨conL1 hx, trivial, trivial, trivial⟩
    · trivial
    · intro x b h k H
      exact sl (by simp) H fun β a hx => ⟨(conL2 hx).1, trivial, (conL2 hx).2, trivial⟩
    · intro xs h k H
      dsimp only at H
      split at H
      · refine sl (by simp) H fun β a hx => ?_
        obtain ⟨v1, us, e1, e2, e3⟩ := conL_cons hx
        injection e3 with e4 e5
        subst e5
        obtain ⟨f1, f2⟩ := conL2 e2
        exact ⟨by rw [e4]; exact e1, trivial, f1, f2⟩
      · cases H
    · intro x b h k H
      exact sl (by simp) H fun β a hx => ⟨(conL2 hx).1, (conL2 hx).2, trivial, trivial⟩
    · trivial
    · intro xs h k H
      dsimp only at H
      split at H
      · refine sl (by simp) H fun β a hx => ?_
        obtain ⟨v1, us, e1, e2, e3⟩ := conL_cons hx
        injection e3 with e4 e5
        subst e5
        obtain ⟨f1, f2⟩ := conL2 e2
        exact ⟨by rw [e4]; exact e1, f1, f2, trivial⟩
      · cases H
    · intro xs h k H
      dsimp only at H
      split at H
      · refine sl (by simp) H fun β a hx => ?_
        obtain ⟨v1, us, e1, e2, e3⟩ := conL_cons hx
        injection e3 with e4 e5
        obtain ⟨v2, us2, f1, f2, f3⟩ := conL_cons e2
        rw [f3] at e5
        injection e5 with e6 e7
        subst e7
        obtain ⟨g1, g2⟩ := conL2 f2
        exact ⟨by rw [e4]; exact e1, (by first | (rw [← e6] at f1; exact f1) | (rw [e6] at f1; exact f1)), g1, g2⟩
      · cases H
  case fieldAddr s X f =>
    intro x h k H
    obtain ⟨v, h1, h2⟩ := fieldAddrK_yes (k := fun v => k v h) H
    exact pureMk h1 fun h3 => exec1p (f := fun a => Instr.fieldAt s a f) (fun ρ => rfl) rfl h2
  case field s X f =>
    intro x h k H
    obtain ⟨v, h1, h2⟩ := fieldK_yes (k := fun v => k v h) H
    exact pureMk h1 fun h3 => exec1p (f := fun a => Instr.field s a f) (fun ρ => rfl) rfl h2
  case indexAddr t X Y =>
    intro x y h k H
    obtain ⟨v, h1, h2⟩ := indexAddrK_yes (k := fun v => k v h) H
    exact pureMk h1 fun h3 => exec2p (f := Instr.indexAt t) (fun ρ => rfl) rfl h2
  case index t X Y =>
    intro x y h k H
    obtain ⟨v, h1, h2⟩ := indexK_yes (k := fun v => k v h) H
    exact pureMk h1 fun h3 => exec2p (f := Instr.index t) (fun ρ => rfl) rfl h2
  case lookup t X Y ok =>
    intro x y h k H
    obtain ⟨v, h1, h2⟩ := lookupK_yes (k := fun v => k v h) H
    exact ⟨v, h, h1, exec2 (f := fun a b => Instr.lookup t a b ok) (fun ρ => rfl) rfl h2, .no rfl⟩
  case range t X =>
    intro x h k H
    obtain ⟨v, h', h1, h2⟩ := rangeStrK_yes H
    exact ⟨v, h', h1, exec1 (f := Instr.range t) (fun ρ => rfl) rfl h2, .no rfl⟩
  case next X s =>
    cases s with
    | false => trivial
    | true =>
      intro x h k H
      obtain ⟨v, h', h1, h2⟩ := nextStrK_yes (P := P) (ty := type) H
      exact ⟨v, h', h1, exec1 (f := fun a => Instr.next a true type) (fun ρ => rfl) rfl h2, .no rfl⟩
  case mapUpdate t X Y Z =>
    intro xs h k H
    dsimp only at H
    split at H
    · obtain ⟨h', h1, h2⟩ := updateK_yes H
      refine ⟨_, h', h1, .skip fun β w a hr hx => ?_, .no rfl⟩
      obtain ⟨v1, us, e1, e2, e3⟩ := conL_cons hx
      injection e3 with e4 e5
      subst e5
      obtain ⟨f1, f2⟩ := conL2 e2
      obtain ⟨β', w', g1, g2⟩ := h2 β w _ _ _ hr e1 f1 f2
      exact ⟨β', w', by show (do Instr.mapUpdate t (a.eval X) (a.eval Y) (a.eval Z); Pure.pure Next.skip).run P w = _; rw [e4, Sem.run_bind, g1]; rfl, g2⟩
    · cases H
  case insert t X Y Z =>
    intro xs h k H
    dsimp only at H
    split at H
    · obtain ⟨h', h1, h2⟩ := updateK_yes H
      refine ⟨_, h', h1, .skip fun β w a hr hx => ?_, .no rfl⟩
      obtain ⟨v1, us, e1, e2, e3⟩ := conL_cons hx
      injection e3 with e4 e5
      subst e5
      obtain ⟨f1, f2⟩ := conL2 e2
      obtain ⟨β', w', g1, g2⟩ := h2 β w _ _ _ hr e1 f1 f2
      exact ⟨β', w', by show (do Instr.mapUpdate t (a.eval X) (a.eval Y) (a.eval Z); Pure.pure Next.skip).run P w = _; rw [e4, Sem.run_bind, g1]; rfl, g2⟩
    · cases H
  case extract X i =>
    intro x h k H
    dsimp only at H
    split at H
    · rename_i l
      obtain ⟨v, hv, Ha⟩ := nthK_yes H
      refine pureMk Ha fun h3 => exec1p (f := fun a => Instr.extract a i) (fun ρ => rfl) rfl fun β a w ha => ?_
      obtain ⟨vs, e1, rfl⟩ := con_tup ha
      obtain ⟨u, e2, e3⟩ := conL_get e1 hv
      refine ⟨u, ?_, e3⟩
      unfold Instr.extract
      simp [e2]
    · cases H
  case call c =>
    obtain ⟨callee, args, argTypes⟩ := c
    cases callee
    case builtin b =>
      have gen : b ≠ .len → OpCOk P ⟨dst, .call ⟨.builtin b, args, argTypes⟩, type, pos, after, guard⟩ (.cn fun xs h k => builtinK P b argTypes type xs h k) := by
        intro hb xs h k H
        obtain ⟨v, h', h1, h2, h3⟩ := builtinK_yes hb H
        refine ⟨v, h', h1, .val fun β w a hr hx => ?_, fun hq => ?_⟩
        rotate_left
        · have hq' : isPureB b = true := by
            cases b <;> first | rfl | exact absurd rfl hb | cases hq
          obtain ⟨e, h4⟩ := h3 hq'
          refine ⟨e, fun h2 => .pure fun β w a hx => ?_⟩
          have hx' : conL β xs = some (args.toList.map a.eval) := by simpa [Op.operands, Call.operands] using hx
          obtain ⟨u, f1, f3⟩ := h4 β w _ (args.map fun | .const _ => true | _ => false) hx'
          refine ⟨u, ?_, f3⟩
          show (do let d ← resolve a.eval ⟨.builtin b, args, argTypes⟩ type; invoke d.target d.args).run P w = _
          unfold resolve invoke
          simp only [Sem.run_bind, Sem.run_pure, Result.andThen_ok]
          rw [show args.map a.eval = (args.toList.map a.eval).toArray by apply Array.ext'; simp]
          exact f1
        have hx' : conL β xs = some (args.toList.map a.eval) := by simpa [Op.operands, Call.operands] using hx
        obtain ⟨β', w', u, f1, f2, f3⟩ := h2 β w _ (args.map fun | .const _ => true | _ => false) hr hx'
        refine ⟨β', w', u, ?_, f2, f3⟩
        show (do let d ← resolve a.eval ⟨.builtin b, args, argTypes⟩ type; invoke d.target d.args).run P w = _
        unfold resolve invoke
        simp only [Sem.run_bind, Sem.run_pure, Result.andThen_ok]
        rw [show args.map a.eval = (args.toList.map a.eval).toArray by apply Array.ext'; simp]
        exact f1
      cases b
      case len =>
        show OpCOk P _ (match argTypes[0]? with
          | some t => match lenQ P t with
            | true => .c1 fun x h k => lenQK P t x fun v => k v h
            | false => .c1 fun x h k => lenOfK P t x h fun v => k v h
          | none => .bad 114)
        split
        · rename_i t ht
          have ex : ∀ (a : Act) (w w' : World) (x : AV) (β : Bt) (v : AV) (u v1 : Value), args.toList.map a.eval = [v1] → (Builtin.len_ argTypes type #[v1]).run P w = .ok u w' → (execOp a.eval ⟨dst, .call ⟨.builtin .len, args, argTypes⟩, type, pos, after, guard⟩).run P w = .ok (.value u) w' := by
            intro a w w' x β v u v1 e3 f1
            show (do let d ← resolve a.eval ⟨.builtin .len, args, argTypes⟩ type; invoke d.target d.args).run P w = _
            unfold resolve invoke
            simp only [Sem.run_bind, Sem.run_pure, Result.andThen_ok]
            rw [show args.map a.eval = #[v1] by apply Array.ext'; simpa using e3]
            show (do Pure.pure (Next.value (← Builtin.len_ argTypes type #[v1]))).run P w = _
            rw [Sem.run_bind, f1]; rfl
          cases hq : lenQ P t with
          | true =>
            intro x h k H
            obtain ⟨v, h1, h2⟩ := lenQK_yes (ty := type) ht H
            refine pureMk h1 fun h3 => .pure fun β w a hx => ?_
            have hx' : conL β [x] = some (args.toList.map a.eval) := by simpa [Op.operands, Call.operands] using hx
            obtain ⟨v1, us, e1, e2, e3⟩ := conL_cons hx'
            obtain rfl := conL_nil e2
            obtain ⟨u, f1, f3⟩ := h2 β _ w e1
            exact ⟨u, ex a w w x β v u v1 e3 f1, f3⟩
          | false =>
            intro x h k H
            obtain ⟨v, h1, h2⟩ := lenOfK_yes (ty := type) ht (k := fun v => k v h) H
            refine ⟨v, h, h1, .val fun β w a hr hx => ?_, .no (by show (match argTypes[0]? with | some t => lenQ P t | none => false) = false; rw [ht]; exact hq)⟩
            have hx' : conL β [x] = some (args.toList.map a.eval) := by simpa [Op.operands, Call.operands] using hx
            obtain ⟨v1, us, e1, e2, e3⟩ := conL_cons hx'
            obtain rfl := conL_nil e2
            obtain ⟨β', w', u, f1, f2, f3⟩ := h2 β w _ hr e1
            exact ⟨β', w', u, ex a w w' x β v u v1 e3 f1, f2, f3⟩
        · trivial
      all_goals exact gen (by intro h; cases h)
    all_goals trivial
  all_goals trivial
end
end Go.Ev
section
namespace Go.Ev
variable [Sg]
open Go.RowKit
variable {P : Program}
def EnvK (keep : Nat) (env : Tr AV) : Prop := ∀ t, inMask keep t = false → env.get (path t) = none
structure Rel (N : Nat) (ds : List Deferred) (β : Bt) (env : Tr AV) (h : Hp) (a : Act) (w : World) : Prop where
  hr : HR β h w
  env : ∀ t av, env.get (path t) = some av → con β av = some (a.tmps.getD t undef)
  size : N ≤ a.tmps.size
  defers : a.defers = ds
def Post (N : Nat) (ds : List Deferred) (β : Bt) (h : Hp) (w : World) (env' : Tr AV) (h' : Hp) (a' : Act) (w' : World) : Prop :=
  ∃ β', Stp β h w β' h' w' ∧ Rel N ds β' env' h' a' w'
def exOf : Ex → Exit
  | .normal => .normal
  | .exit id => .exit id
  | .goto l => .goto l
  | .ret => .ret
def GlobK (P : Program) (β : Bt) : Prop := ∀ g, g < P.globals.size → ∃ κ, β g = some (g, κ)
def Wp (P : Program) (items : List Item) (Q : Exit → Act → World → Prop) (a : Act) (w : World) : Prop :=
  ∀ (b : Frame) (k : List Item) (cs : List Frame), ∃ e a' w', Q e a' w' ∧ Arrives P (lone (b.at a (items ++ k)) cs w) b k cs e a' w'
inductive Task where
  | code (c : Code)
  | loop (c : Code)
  | scope (c c0 : Code)
noncomputable def Task.cc (P : Program) (N keep : Nat) : Task → CC
  | .code c => compC P N keep c
  | .loop c => .loop (compC P N keep c)
  | .scope c c0 => .scope c (compC P N keep c0)
def Task.items : Task → List Item
  | .code c => [.code c]
  | .loop c => [.code c, .inLoop c]
  | .scope c c0 => [.code c0, .inScope c]
noncomputable def runR (callf : CallF) (os : List CO) (env : Tr AV) (h : Hp) (k : Tr AV → Hp → Ans) : Ans :=
  Bool.rec (motive := fun _ => Ans) (runSeq callf os [] env h k) (runFree callf os [] env h [] [(0, h)] [] k) (os.any isFree)
def RegOK (P : Program) (callf : CallF) (N keep : Nat) : Prop :=
  ∀ id ops draw os env h (k : Tr AV → Hp → Ans), compR P N ops keep draw = some os → runR callf os env h k = .yes → EnvK keep env →
    ∃ env' h', k env' h' = .yes ∧ EnvK keep env' ∧ ∀ ds β a w, Rel N ds β env h a w → GlobK P β → (Code.region id ops draw).wp P (fun e a' w' => e = .normal ∧ Post N ds β h w env' h' a' w') a w
def rfGet (r : Rf) (L : List AV) (env : Tr AV) : Option AV := match r with
  | .loc n => L[n]?
  | .var p => env.get p
  | .cst u => some u
  | .bad => none
theorem rfK_yes {r : Rf} {L : List AV} {env : Tr AV} {k : AV → Ans} (H : rfK r L env k = .yes) : ∃ v, k v = .yes ∧ rfGet r L env = some v := by
  cases r with
  | loc n => obtain ⟨v, h1, h2⟩ := nthK_yes H; exact ⟨v, h2, h1⟩
  | var p => obtain ⟨v, h1, h2⟩ := getP_yes H; exact ⟨v, h2, h1⟩
  | cst u => exact ⟨u, H, rfl⟩
  | bad => cases H
theorem rfOp_const (P : Program) (D : Dl) (now : Nat) (u : Value) : rfOp P D now (.const u) = if okConst u = true then .cst (toAV u) else .bad := by
  show (match okConst u with | true => Rf.cst (toAV u) | false => Rf.bad) = _
  cases okConst u <;> rfl
theorem toAV1_con (β : Bt) {v : Value} (h : v.oneCell' = true) : con β (toAV1 v) = some v := by
  unfold toAV1
  split
  · rfl
  · rfl
  · rfl
  · rfl
  · exact con_str β _
  · unfold con; rw [if_pos h]
theorem toAVs_con (β : Bt) : ∀ {l : List Value}, (∀ u ∈ l, u.oneCell' = true) → conL β (l.map toAV1) = some l
  | [], _ => rfl
  | v :: l, h => conL_mk (toAV1_con β (h v (List.mem_cons_self ..))) (toAVs_con β fun u hu => h u (List.mem_cons_of_mem _ hu))
theorem flat_one {v : Value} (h : okConst.flat v = true) : v.oneCell' = true := by
  cases v <;> first | rfl | cases h
theorem toAV_con (β : Bt) {v : Value} (h : okConst v = true) : con β (toAV v) = some v := by
  unfold toAV
  split
  · rename_i cs
    have h' : ∀ u ∈ cs.toList, u.oneCell' = true := fun u hu => flat_one (List.all_eq_true.1 h u hu)
    rw [con_agg_mk (toAVs_con β h') h']
  · rename_i cs
    have h' : ∀ u ∈ cs.toList, u.oneCell' = true := fun u hu => flat_one (List.all_eq_true.1 h u hu)
    simp only [con, toAVs_con β h', Option.map_some]
  · rename_i h1 h2
    exact toAV1_con β (by cases v <;> first | rfl | exact absurd rfl (h1 _) | exact absurd rfl (h2 _))
theorem Wp.step {items items' : List Item} {Q : Exit → Act → World → Prop} {a : Act} {w : World} (hs : ∀ (b : Frame) (k : List Item) (cs : List Frame), step P (lone (b.at a (items ++ k)) cs w) = .next (lone (b.at a (items' ++ k)) cs w)) (h : Wp P items' Q a w) : Wp P items Q a w := by
  intro b k cs
  obtain ⟨e, a', w', hq, har⟩ := h b k cs
  exact ⟨e, a', w', hq, .of_steps (.one (hs b k cs)) har⟩
theorem Wp.code {c : Code} {Q : Exit → Act → World → Prop} {a : Act} {w : World} : Wp P [.code c] Q a w ↔ c.wp P Q a w := Iff.rfl
theorem Wp.then {c : Code} {x : Item} (hx : x.plain = true) {Q : Exit → Act → World → Prop} {a : Act} {w : World} (h : c.wp P (fun e a' w' => match e with | .normal => Wp P [x] Q a' w' | e => Q e a' w') a w) : Wp P [.code c, x] Q a w := by
  intro b k cs
  obtain ⟨e, a1, w1, hq, har⟩ := h b (x :: k) cs
  cases e with
  | normal =>
    obtain ⟨e2, a2, w2, hq2, har2⟩ := hq b k cs
    exact ⟨e2, a2, w2, hq2, .of_steps har har2⟩
  | exit id => exact ⟨_, a1, w1, hq, .pass (x := x) hx (fun _ _ => .inl (by simp)) har⟩
  | goto l => exact ⟨_, a1, w1, hq, .pass (x := x) hx (fun _ _ => .inl (by simp)) har⟩
  | ret => exact ⟨_, a1, w1, hq, .pass (x := x) hx (fun _ _ => .inl (by simp)) har⟩
  | panic ch => exact ⟨_, a1, w1, hq, .pass (x := x) hx (fun _ _ => .inl (by simp)) har⟩
  | outgrown => exact ⟨_, a1, w1, hq, .pass (x := x) hx (fun _ _ => .inl (by simp)) har⟩
theorem Wp.scope {c c0 : Code} {Q : Exit → Act → World → Prop} {a : Act} {w : World} (h : c0.wp P (fun e a' w' => match e with
      | .goto l => (∃ rest, findLabel c l = some rest ∧ Wp P [.code rest, .inScope c] Q a' w') ∨ (findLabel c l = none ∧ Q (.goto l) a' w')
      | e => Q e a' w') a w) : Wp P [.code c0, .inScope c] Q a w := by
  intro b k cs
  obtain ⟨e, a1, w1, hq, har⟩ := h b (.inScope c :: k) cs
  cases e with
  | normal => exact ⟨.normal, a1, w1, hq, Steps.trans har (.one step_inScope)⟩
  | exit id => exact ⟨.exit id, a1, w1, hq, fun k' hk => har k' (by simp [exitTo, hk])⟩
  | goto l =>
    rcases hq with ⟨rest, hf, h2⟩ | ⟨hf, hq⟩
    · obtain ⟨e2, a2, w2, hq2, har2⟩ := h2 b k cs
      exact ⟨e2, a2, w2, hq2, .of_steps (har _ (by simp [gotoIn, hf])) har2⟩
    · exact ⟨.goto l, a1, w1, hq, fun k' hk => har k' (by simp [gotoIn, hf, hk])⟩
  | ret => exact ⟨_, a1, w1, hq, har⟩
  | panic ch => exact ⟨_, a1, w1, hq, har⟩
  | outgrown => exact ⟨_, a1, w1, hq, har⟩
theorem onNormal_yes {e : Ex} {x y : Ans} (h : onNormal e x y = .yes) : (e = .normal ∧ x = .yes) ∨ (e ≠ .normal ∧ y = .yes) := by
  cases e <;> first | exact .inl ⟨rfl, h⟩ | exact .inr ⟨(by intro h; cases h), h⟩
theorem onExit_yes {e : Ex} {id : Nat} {x y : Ans} (h : onExit e id x y = .yes) : (e = .exit id ∧ x = .yes) ∨ (e ≠ .exit id ∧ y = .yes) := by
  cases e
  case exit i =>
    replace h : cnd (Nat.beq i id) x y = .yes := h
    rw [cnd_eq] at h
    split at h
    · rename_i hb; rw [Nat.eq_of_beq_eq_true hb]; exact .inl ⟨rfl, h⟩
    · rename_i hb; exact .inr ⟨(fun e => by injection e with e; subst e; exact hb (Nat.beq_refl i)), h⟩
  all_goals exact .inr ⟨(by intro h; cases h), h⟩
theorem onGoto_yes {e : Ex} {x : Nat → Ans} {y : Ans} (h : onGoto e x y = .yes) : (∃ l, e = .goto l ∧ x l = .yes) ∨ ((∀ l, e ≠ .goto l) ∧ y = .yes) := by
  cases e <;> first | exact .inl ⟨_, rfl, h⟩ | exact .inr ⟨(by intro l h; cases h), h⟩
def Ends (P : Program) (N keep : Nat) (items : List Item) (env : Tr AV) (h : Hp) (k : Kont) : Prop :=
  ∃ e env' h', k e env' h' = .yes ∧ EnvK keep env' ∧ ∀ ds β a w, Rel N ds β env h a w → GlobK P β → Wp P items (fun ex a' w' => ex = exOf e ∧ Post N ds β h w env' h' a' w') a w
theorem Ends.here {N keep : Nat} {items : List Item} {env : Tr AV} {h : Hp} {k : Kont} (e : Ex) (hk : k e env h = .yes) (hK : EnvK keep env) (hw : ∀ a w (Q : Exit → Act → World → Prop), Q (exOf e) a w → Wp P items Q a w) : Ends P N keep items env h k :=
  ⟨e, env, h, hk, hK, fun ds β a w hr hg => hw a w _ ⟨rfl, β, .refl hr.hr, hr⟩⟩
theorem Post.trans {N : Nat} {ds : List Deferred} {β β1 : Bt} {h h1 h2 : Hp} {w w1 w2 : World} {env2 : Tr AV} {a2 : Act} (hr : HR β h w) (s : Stp β h w β1 h1 w1) (p : Post N ds β1 h1 w1 env2 h2 a2 w2) : Post N ds β h w env2 h2 a2 w2 := by
  obtain ⟨β', s', r'⟩ := p
  exact ⟨β', s.trans hr s', r'⟩
theorem GlobK.le {β β' : Bt} (h : GlobK P β) (hl : Le β β') : GlobK P β' := fun g hg => let ⟨κ, e⟩ := h g hg; ⟨κ, hl _ _ e⟩
theorem Ends.step {N keep : Nat} {items items' : List Item} {env : Tr AV} {h : Hp} {k : Kont} (H : Ends P N keep items' env h k) (hs : ∀ (a : Act) (w : World) (b : Frame) (k : List Item) (cs : List Frame), Go.step P (lone (b.at a (items ++ k)) cs w) = .next (lone (b.at a (items' ++ k)) cs w)) : Ends P N keep items env h k := by
  obtain ⟨e, env1, h1, H1, hK1, hw1⟩ := H
  exact ⟨e, env1, h1, H1, hK1, fun ds β a w hr hg => Wp.step (hs a w) (hw1 ds β a w hr hg)⟩
theorem run_sound {callf : CallF} {N keep : Nat} (hreg : RegOK P callf N keep) : ∀ fuel (t : Task) env h k, run P callf N keep fuel (t.cc P N keep) env h k = .yes → EnvK keep env → Ends P N keep t.items env h k := by
  intro fuel
  induction fuel with
  | zero => intro t env h k H hK; cases H
  | succ f ih =>
    have loopCase : ∀ c env h k, run P callf N keep (f + 1) ((Task.loop c).cc P N keep) env h k = .yes → EnvK keep env → Ends P N keep (Task.loop c).items env h k := by
      intro c env h k H hK
      replace H : run P callf N keep f ((Task.code c).cc P N keep) env h (fun e env h => onNormal e (run P callf N keep f ((Task.loop c).cc P N keep) env h k) (k e env h)) = .yes := H
      obtain ⟨e, env1, h1, H1, hK1, hw1⟩ := ih _ _ _ _ H hK
      rcases onNormal_yes H1 with ⟨rfl, H2⟩ | ⟨hne, H2⟩
      · obtain ⟨e2, env2, h2, H3, hK2, hw2⟩ := ih _ _ _ _ H2 hK1
        refine ⟨e2, env2, h2, H3, hK2, fun ds β a w hr hg => ?_⟩
        refine Wp.then rfl (wp_mono (hw1 ds β a w hr hg) fun ex a1 w1 hp => ?_)
        obtain ⟨rfl, β1, s1, r1⟩ := hp
        refine Wp.step (items' := [.code c, .inLoop c]) (fun b k cs => step_inLoop) ?_
        have := hw2 ds β1 a1 w1 r1 (hg.le (s1.le hr.hr))
        intro b k cs
        obtain ⟨e', a', w', ⟨q1, q2⟩, har⟩ := this b k cs
        exact ⟨e', a', w', ⟨q1, q2.trans hr.hr s1⟩, har⟩
      · refine ⟨e, env1, h1, H2, hK1, fun ds β a w hr hg => ?_⟩
        refine Wp.then rfl (wp_mono (hw1 ds β a w hr hg) fun ex a1 w1 hp => ?_)
        obtain ⟨rfl, hp⟩ := hp
        cases e with
        | normal => exact absurd rfl hne
        | exit id => exact ⟨rfl, hp⟩
        | goto l => exact ⟨rfl, hp⟩
        | ret => exact ⟨rfl, hp⟩
    have scopeCase : ∀ c c0 env h k, run P callf N keep (f + 1) ((Task.scope c c0).cc P N keep) env h k = .yes → EnvK keep env → Ends P N keep (Task.scope c c0).items env h k := by
      intro c c0 env h k H hK
      replace H : run P callf N keep f ((Task.code c0).cc P N keep) env h (scopeK (run P callf N keep f) P N keep c k) = .yes := H
      obtain ⟨e, env1, h1, H1, hK1, hw1⟩ := ih _ _ _ _ H hK
      unfold scopeK at H1
      rcases onGoto_yes H1 with ⟨l, rfl, H2⟩ | ⟨hne, H2⟩
      · unfold labelC at H2
        cases hf : findLabel c l with
        | none =>
          rw [hf] at H2
          refine ⟨.goto l, env1, h1, H2, hK1, fun ds β a w hr hg => Wp.scope (wp_mono (hw1 ds β a w hr hg) fun ex a1 w1 hp => ?_)⟩
          obtain ⟨rfl, hp⟩ := hp
          exact .inr ⟨hf, rfl, hp⟩
        | some rest =>
          rw [hf] at H2
          replace H2 : run P callf N keep f ((Task.scope c rest).cc P N keep) env1 h1 k = .yes := H2
          obtain ⟨e2, env2, h2, H3, hK2, hw2⟩ := ih _ _ _ _ H2 hK1
          refine ⟨e2, env2, h2, H3, hK2, fun ds β a w hr hg => Wp.scope (wp_mono (hw1 ds β a w hr hg) fun ex a1 w1 hp => ?_)⟩
          obtain ⟨rfl, β1, s1, r1⟩ := hp
          refine .inl ⟨rest, hf, ?_⟩
          have := hw2 ds β1 a1 w1 r1 (hg.le (s1.le hr.hr))
          intro b k cs
          obtain ⟨e', a', w', ⟨q1, q2⟩, har⟩ := this b k cs
          exact ⟨e', a', w', ⟨q1, q2.trans hr.hr s1⟩, har⟩
      · refine ⟨e, env1, h1, H2, hK1, fun ds β a w hr hg => Wp.scope (wp_mono (hw1 ds β a w hr hg) fun ex a1 w1 hp => ?_)⟩
        obtain ⟨rfl, hp⟩ := hp
        cases e with
        | normal => exact ⟨rfl, hp⟩
        | exit id => exact ⟨rfl, hp⟩
        | goto l => exact absurd rfl (hne l)
        | ret => exact ⟨rfl, hp⟩
    intro t env h k H hK
    cases t with
    | loop c => exact loopCase c env h k H hK
    | scope c c0 => exact scopeCase c c0 env h k H hK
    | code c =>
      cases c with
      | skip => exact Ends.here .normal H hK fun a w Q hq => wp_skip hq
      | region id ops draw =>
        cases hc : compR P N ops keep draw with
        | none =>
          have e : (Task.code (.region id ops draw)).cc P N keep = .bad 161 := by
            show (match compR P N ops keep draw with | some os => _ | none => CC.bad 161) = _
            rw [hc]
          rw [e] at H; cases H
        | some os =>
          have e : (Task.code (.region id ops draw)).cc P N keep = Bool.rec (motive := fun _ => CC) (.seqR os) (.freeR os) (os.any isFree) := by
            show (match compR P N ops keep draw with | some os => Bool.rec (motive := fun _ => CC) (.seqR os) (.freeR os) (os.any isFree) | none => CC.bad 161) = _
            rw [hc]
          have H2 : runR callf os env h (k .normal) = .yes := by
            unfold runR
            rw [e] at H
            cases hb : os.any isFree with
            | false => rw [hb] at H; exact H
            | true => rw [hb] at H; exact H
          obtain ⟨env', h', H3, hK', hw⟩ := hreg id ops draw os env h (k .normal) hc H2 hK
          exact ⟨.normal, env', h', H3, hK', fun ds β a w hr hg => hw ds β a w hr hg⟩
      | seq x y =>
        replace H : run P callf N keep f ((Task.code x).cc P N keep) env h (fun e env h => onNormal e (run P callf N keep f ((Task.code y).cc P N keep) env h k) (k e env h)) = .yes := H
        obtain ⟨e, env1, h1, H1, hK1, hw1⟩ := ih _ _ _ _ H hK
        rcases onNormal_yes H1 with ⟨rfl, H2⟩ | ⟨hne, H2⟩
        · obtain ⟨e2, env2, h2, H3, hK2, hw2⟩ := ih _ _ _ _ H2 hK1
          refine ⟨e2, env2, h2, H3, hK2, fun ds β a w hr hg => ?_⟩
          refine wp_seq (wp_mono (hw1 ds β a w hr hg) fun ex a1 w1 hp => ?_)
          obtain ⟨rfl, β1, s1, r1⟩ := hp
          refine wp_mono (hw2 ds β1 a1 w1 r1 (hg.le (s1.le hr.hr))) fun ex a2 w2 hq => ⟨hq.1, hq.2.trans hr.hr s1⟩
        · refine ⟨e, env1, h1, H2, hK1, fun ds β a w hr hg => ?_⟩
          refine wp_seq (wp_mono (hw1 ds β a w hr hg) fun ex a1 w1 hp => ?_)
          obtain ⟨rfl, hp⟩ := hp
          cases e with
          | normal => exact absurd rfl hne
          | exit id => exact ⟨rfl, hp⟩
          | goto l => exact ⟨rfl, hp⟩
          | ret => exact ⟨rfl, hp⟩
      | cond c x y =>
        replace H : (rfK (rfOp P [] 0 c) [] env fun v => onBool v (run P callf N keep f ((Task.code y).cc P N keep) env h k) (run P callf N keep f ((Task.code x).cc P N keep) env h k) (.no 162)) = .yes := H
        obtain ⟨v, H1, hv⟩ := rfK_yes H
        obtain ⟨t, rfl, H2⟩ := onBool_yes H1 (by intro h; cases h)
        have hcv : ∀ ds β a w, Rel N ds β env h a w → a.eval c = .bool t := by
          intro ds β a w hr
          cases c with
          | tmp t' => exact con_bool (hr.env t' _ hv)
          | const u =>
            rw [rfOp_const] at hv
            split at hv
            · rename_i ho
              injection hv with hv
              have := toAV_con β ho
              rw [hv] at this
              exact con_bool this
            · cases hv
          | global g =>
            replace hv : rfGet (match Nat.blt g P.globals.size with | true => Rf.cst (.ptr g 0) | false => Rf.bad) [] env = some (.bool t) := hv
            split at hv <;> cases hv
          | func f => cases hv
        cases t with
        | true =>
          obtain ⟨e, env1, h1, H3, hK1, hw1⟩ := ih (.code x) _ _ _ H2 hK
          exact ⟨e, env1, h1, H3, hK1, fun ds β a w hr hg => wp_cond_true (hcv ds β a w hr) (hw1 ds β a w hr hg)⟩
        | false =>
          obtain ⟨e, env1, h1, H3, hK1, hw1⟩ := ih (.code y) _ _ _ H2 hK
          exact ⟨e, env1, h1, H3, hK1, fun ds β a w hr hg => wp_cond_false (hcv ds β a w hr) (hw1 ds β a w hr hg)⟩
      | block id x =>
        replace H : run P callf N keep f ((Task.code x).cc P N keep) env h (fun e env h => onExit e id (k .normal env h) (k e env h)) = .yes := H
        obtain ⟨e, env1, h1, H1, hK1, hw1⟩ := ih _ _ _ _ H hK
        rcases onExit_yes H1 with ⟨rfl, H2⟩ | ⟨hne, H2⟩
        · refine ⟨.normal, env1, h1, H2, hK1, fun ds β a w hr hg => wp_block (wp_mono (hw1 ds β a w hr hg) fun ex a1 w1 hp => ?_)⟩
          obtain ⟨rfl, hp⟩ := hp
          show (if id = id then _ else _)
          rw [if_pos rfl]; exact ⟨rfl, hp⟩
        · refine ⟨e, env1, h1, H2, hK1, fun ds β a w hr hg => wp_block (wp_mono (hw1 ds β a w hr hg) fun ex a1 w1 hp => ?_)⟩
          obtain ⟨rfl, hp⟩ := hp
          cases e with
          | normal => exact ⟨rfl, hp⟩
          | exit i =>
            show (if i = id then _ else _)
            rw [if_neg (fun e => hne (by rw [e]))]; exact ⟨rfl, hp⟩
          | goto l => exact ⟨rfl, hp⟩
          | ret => exact ⟨rfl, hp⟩
      | loop x =>
        exact (loopCase x env h k H hK).step fun a w b k cs => step_loop
      | rangeFunc a b c d => cases H
      | exit id => exact Ends.here (.exit id) H hK fun a w Q hq => wp_exit hq
      | scope x => exact (scopeCase x x env h k H hK).step fun a w b k cs => step_scope
      | label l => exact Ends.here .normal H hK fun a w Q hq => wp_label hq
      | goto l => exact Ends.here (.goto l) H hK fun a w Q hq => wp_goto hq
      | ret => exact Ends.here .ret H hK fun a w Q hq => wp_ret hq
      | refuse s => cases H
end Go.Ev
namespace Go.Ev
variable [Sg] [Sl]
open Go.RowKit
variable {P : Program}
def OpHoldsG (P : Program) (o : Oper) (xs : List AV) (h : Hp) (v : AV) (h' : Hp) : Prop :=
  ∀ (β : Bt) (w : World) (a : Act), HR β h w → GlobK P β → conL β xs = some (o.op.operands.toList.map a.eval) → ∀ (K : Act → World → Prop) (Q : Exit → Act → World → Prop),
    (∀ β' w' u, Stp β h w β' h' w' → con β' v = some u → K (a.put o.dst u) w') → o.wp P a w K Q
theorem OpHolds.g {o : Oper} {xs : List AV} {h : Hp} {v : AV} {h' : Hp} (H : OpHolds P o xs h v h') : OpHoldsG P o xs h v h' := fun β w a hr _ hx K Q hK => H β w a hr hx K Q hK
def Came (β : Bt) (h : Hp) (w : World) (v : AV) (h' : Hp) (e : Ending) (w' : World) : Prop := ∃ β' u, e = .returned u ∧ Stp β h w β' h' w' ∧ con β' v = some u
def FuncT (P : Program) (f : FuncId) (xs : List AV) (h : Hp) (v : AV) (h' : Hp) : Prop :=
  ∀ (β : Bt) (w : World) (vs : List Value), HR β h w → GlobK P β → conL β xs = some vs →
    ((callFunc f vs.toArray).run P w = .ok (.enter f vs.toArray) w ∧ Calls P f vs.toArray w (Came β h w v h')) ∨ (∃ u w', (callFunc f vs.toArray).run P w = .ok (.value u) w' ∧ Came β h w v h' (.returned u) w')
def CallSound (P : Program) (callf : CallF) : Prop := ∀ f xs h k, callf f xs h k = .yes → ∃ v h', k v h' = .yes ∧ FuncT P f xs h v h'
theorem applyK_sound {callf : CallF} (hc : CallSound P callf) {o : Oper} {F : Operand} {args : Array Operand} {ats : Array TypeId} (ho : o.op = .call ⟨.value F, args, ats⟩) {xs : List AV} {h : Hp} {k : AK} (H : applyK callf xs h k = .yes) :
    ∃ v h', k v h' = .yes ∧ OpHoldsG P o xs h v h' := by
  unfold applyK at H
  split at H
  · rename_i f first captured ys
    simp only [catK_eq] at H
    obtain ⟨v, h', h1, h2⟩ := hc _ _ _ _ H
    refine ⟨v, h', h1, fun β w a hr hg hx K Q hK => ?_⟩
    rw [ho] at hx
    have hx' : conL β (.fn (.func f) first captured :: ys) = some (a.eval F :: args.toList.map a.eval) := by simpa [Op.operands, Call.operands] using hx
    obtain ⟨v1, us, e1, e2, e3⟩ := conL_cons hx'
    injection e3 with e4 e5
    subst e5
    obtain ⟨x1, x2, g1, g2, g3⟩ := con_fn e1
    have hall := conL_append (conL_append g1 e2) g2
    unfold Oper.wp
    have hrun : (execOp a.eval o).run P w = (callFunc f ((x1 ++ args.toList.map a.eval) ++ x2).toArray).run P w := by
      have : execOp a.eval o = (do let d ← Go.resolve a.eval ⟨.value F, args, ats⟩ o.type; invoke d.target d.args) := by
        unfold execOp; rw [ho]
      rw [this]
      unfold Go.resolve Deferred.ofValue invoke
      simp only [e4, g3, Sem.run_bind, Sem.run_pure, Result.andThen_ok]
      congr 2
      apply Array.ext'
      simp
    rw [hrun]
    rcases h2 β w _ hr hg hall with ⟨r1, r2⟩ | ⟨u, w', r1, β', u', r2, r3, r4⟩
    · rw [r1]
      refine r2.mono fun e w' he => ?_
      obtain ⟨β', u, rfl, s1, s2⟩ := he
      exact hK β' w' u s1 s2
    · rw [r1]
      injection r2 with r2; subst r2
      exact hK β' w' u r3 r4
  · cases H
def resSem (tmps : Array Value) (r : ResultVar) : Sem Value := match r with
  | .tmp t => Pure.pure (tmps.getD t undef)
  | .cell a t => do loadVar t (← asAddr (tmps.getD a undef))
theorem results_eq (fn : Func) (tmps : Array Value) : results fn tmps = (do let vs ← fn.results.mapM (resSem tmps); Pure.pure (if h : vs.size = 1 then vs[0] else .tuple vs)) := rfl
theorem resOne_yes {r : ResultVar} {env : Tr AV} {h : Hp} {k : AV → Ans} (H : resOne r env h P k = .yes) :
    ∃ v, k v = .yes ∧ ∀ N ds β a w, Rel N ds β env h a w → ∃ u, (resSem a.tmps r).run P w = .ok u w ∧ con β v = some u := by
  unfold resOne at H
  cases r with
  | tmp t =>
    obtain ⟨v, hv, H1⟩ := getP_yes H
    exact ⟨v, H1, fun N ds β a w hr => ⟨_, rfl, hr.env t v hv⟩⟩
  | cell b t =>
    obtain ⟨p, hp, H1⟩ := getP_yes H
    obtain ⟨v, h1, h2⟩ := loadK_run H1
    refine ⟨v, h1, fun N ds β a w hr => ?_⟩
    have hb := hr.env b p hp
    obtain ⟨u, r1, r2⟩ := h2 β w _ hr.hr hb
    have hptr : ∃ x y, p = .ptr x y := by
      unfold loadK at H1
      split at H1
      · exact ⟨_, _, rfl⟩
      · cases H1
    obtain ⟨x, y, rfl⟩ := hptr
    obtain ⟨c, κ, _, e⟩ := con_ptr hb
    refine ⟨u, ?_, r2⟩
    show (do loadVar t (← asAddr (a.tmps.getD b undef)) : Sem Value).run P w = _
    rw [e] at r1 ⊢
    simpa [asAddr, Instr.loadAt, Instr.sureAddr] using r1
theorem resK_go {rs : List ResultVar} {env : Tr AV} {h : Hp} {k : List AV → Ans} (H : (List.rec (motive := fun _ => (List AV → Ans) → Ans) (fun k => k []) (fun r _ ih k => resOne r env h P fun v => ih fun vs => k (v :: vs)) rs k : Ans) = .yes) :
    ∃ l, k l = .yes ∧ ∀ N ds β a w, Rel N ds β env h a w → ∃ us : List Value, (rs.mapM (resSem a.tmps)).run P w = .ok us w ∧ conL β l = some us := by
  induction rs generalizing k with
  | nil => exact ⟨[], H, fun N ds β a w hr => ⟨[], rfl, rfl⟩⟩
  | cons r rs ih =>
    obtain ⟨v, H1, h1⟩ := resOne_yes H
    obtain ⟨l, H2, h2⟩ := ih H1
    refine ⟨v :: l, H2, fun N ds β a w hr => ?_⟩
    obtain ⟨u, e1, e2⟩ := h1 N ds β a w hr
    obtain ⟨us, e3, e4⟩ := h2 N ds β a w hr
    refine ⟨u :: us, ?_, conL_mk e2 e4⟩
    rw [List.mapM_cons, Sem.run_bind, e1, Result.andThen_ok, Sem.run_bind, e3]; rfl
theorem mapM_len {α γ : Type} {f : α → Sem γ} {w w' : World} : ∀ (l : List α) {us : List γ}, (l.mapM f).run P w = .ok us w' → l.length = us.length
  | [], us, h => by
    have h' : Result.ok ([] : List γ) w = Result.ok us w' := h
    injection h' with h1 h2
    rw [← h1]; rfl
  | x :: l, us, h => by
    rw [List.mapM_cons, Sem.run_bind] at h
    cases h1 : (f x).run P w with
    | halt a b => rw [h1] at h; cases h
    | ok v w1 =>
      rw [h1, Result.andThen_ok, Sem.run_bind] at h
      cases h2 : (l.mapM f).run P w1 with
      | halt a b => rw [h2] at h; cases h
      | ok vs w2 =>
        rw [h2, Result.andThen_ok] at h
        injection h with h3 h4
        rw [← h3, List.length_cons, List.length_cons, mapM_len l h2]
theorem resK_yes {fn : Func} {env : Tr AV} {h : Hp} {k : AV → Ans} (H : resK P fn.results.toList env h k = .yes) :
    ∃ v, k v = .yes ∧ ∀ N ds β a w, Rel N ds β env h a w → ∃ u, (results fn a.tmps).run P w = .ok u w ∧ con β v = some u := by
  have gen : ∀ (tmps : Array Value) (w : World) (us : List Value), ((fn.results.toList.mapM (resSem tmps)).run P w = .ok us w) →
      (results fn tmps).run P w = .ok (if h : us.toArray.size = 1 then us.toArray[0] else .tuple us.toArray) w := by
    intro tmps w us hu
    rw [results_eq]
    simp only [Array.mapM_eq_mapM_toList, Sem.run_bind, Sem.run_map]
    rw [hu]
    rfl
  unfold resK at H
  split at H
  · rename_i r hr1
    obtain ⟨v, H1, h1⟩ := resOne_yes H
    refine ⟨v, H1, fun N ds β a w hr => ?_⟩
    obtain ⟨u, e1, e2⟩ := h1 N ds β a w hr
    refine ⟨u, ?_, e2⟩
    rw [gen a.tmps w [u] (by rw [hr1, List.mapM_cons, Sem.run_bind, e1, Result.andThen_ok]; rfl)]
    rfl
  · rename_i hne
    obtain ⟨l, H1, h1⟩ := resK_go H
    refine ⟨.tup l, H1, fun N ds β a w hr => ?_⟩
    obtain ⟨us, e1, e2⟩ := h1 N ds β a w hr
    refine ⟨.tuple us.toArray, ?_, by simp only [con, e2, Option.map_some]⟩
    rw [gen a.tmps w us e1]
    have hlen : us.toArray.size ≠ 1 := by
      intro h1
      have h2 : us.length = 1 := by simpa using h1
      have h3 : fn.results.toList.length = us.length := mapM_len _ e1
      match hq : fn.results.toList, h3.trans h2 with
      | [r], _ => exact hne r hq
    rw [dif_neg hlen]
theorem flats_con (l : List AV) (h : flatB.flats l = true) (β β' : Bt) : conL β l = conL β' l := by
  induction l with
  | nil => rfl
  | cons x l ih =>
    have h1 : flatB.flat1 x = true ∧ flatB.flats l = true := by
      cases hx : flatB.flat1 x with
      | false =>
        have : flatB.flats (x :: l) = Bool.rec (motive := fun _ => Bool) false (flatB.flats l) (flatB.flat1 x) := rfl
        rw [this, hx] at h; cases h
      | true =>
        have : flatB.flats (x :: l) = Bool.rec (motive := fun _ => Bool) false (flatB.flats l) (flatB.flat1 x) := rfl
        rw [this, hx] at h; exact ⟨rfl, h⟩
    have hx : con β x = con β' x := by
      have := h1.1
      unfold flatB.flat1 at this
      cases x <;> first | rfl | cases this
    simp only [conL, hx, ih h1.2]
theorem flat_con {x : AV} (h : flatB x = true) (β β' : Bt) : con β x = con β' x := by
  unfold flatB at h
  cases x <;> first | rfl | (cases h; done) | skip
  · rename_i l; simp only [con, flats_con l h β β']
  · rename_i l; simp only [con, flats_con l h β β']
def ExtOK (P : Program) (X : Nat → Nat) : Prop := ∀ fuel callf, CallSound P callf → ∀ f c, X f = c + 1 → ∀ xs h k, extK P fuel callf f (c + 1) xs h k = .yes → ∃ v h', k v h' = .yes ∧ FuncT P f xs h v h'
theorem argsOk_yes {keep : Nat} : ∀ {xs : List AV} {n : Nat}, (List.rec (motive := fun _ => Nat → Bool) (fun _ => true) (fun _ _ ih n => Bool.rec (motive := fun _ => Bool) false (ih (Nat.succ n)) (inMask keep n)) xs n : Bool) = true → ∀ i, i < xs.length → inMask keep (n + i) = true
  | [], n, h, i, hi => by simp at hi
  | x :: xs, n, h, i, hi => by
    have h1 : inMask keep n = true ∧ (List.rec (motive := fun _ => Nat → Bool) (fun _ => true) (fun _ _ ih n => Bool.rec (motive := fun _ => Bool) false (ih (Nat.succ n)) (inMask keep n)) xs (Nat.succ n) : Bool) = true := by
      replace h : (Bool.rec (motive := fun _ => Bool) false (List.rec (motive := fun _ => Nat → Bool) (fun _ => true) (fun _ _ ih n => Bool.rec (motive := fun _ => Bool) false (ih (Nat.succ n)) (inMask keep n)) xs (Nat.succ n)) (inMask keep n) : Bool) = true := h
      cases hm : inMask keep n with
      | false => rw [hm] at h; cases h
      | true => rw [hm] at h; exact ⟨rfl, h⟩
    cases i with
    | zero => exact h1.1
    | succ i =>
      rw [show n + (i + 1) = n.succ + i by omega]
      exact argsOk_yes h1.2 i (by simpa using hi)
theorem callK_sound {X : Nat → Nat} (hX : ExtOK P X) (hN : ∀ (f : Nat) fn, P.funcs[f]? = some fn → fn.name ≠ "runtime.NumGoroutine") (hreg : ∀ callf, CallSound P callf → ∀ N keep, RegOK P callf N keep) (fuel : Nat) : ∀ d, CallSound P (callK P X fuel d) := by
  intro d
  induction d with
  | zero => intro f xs h k H; cases H
  | succ d ih =>
    intro f xs h k H
    cases hx : X f with
    | succ c =>
      refine hX fuel _ ih f c hx xs h k ?_
      replace H : (Nat.rec (motive := fun _ => Ans) _ (fun c _ => extK P fuel (callK P X fuel d) f (Nat.succ c) xs h k) (X f) : Ans) = .yes := H
      rw [hx] at H
      exact H
    | zero =>
    replace H : (Nat.rec (motive := fun _ => Ans) (Option.rec (motive := fun _ => Ans) (.no 171) (fun (fn : Func) => Option.rec (motive := fun _ => Ans) (.no (1000 + f)) (fun c =>
      match h with
      | .mk t n low => cnd (argsOk xs (keepF fn)) (initEnv xs fun env => run P (callK P X fuel d) fn.ntmps (keepF fn) fuel (compC P fn.ntmps (keepF fn) c) env (.mk t n n) fun e env h' =>
        match e, h' with
        | .exit _, _ => .no 172
        | .goto _, _ => .no 173
        | _, .mk t' n' low' => resK P fn.results.toList env h' fun v =>
          natMin low low' fun low'' => cnd (Nat.beq low' n) (cnd (flatB v) (k v h) (k v (.mk t' n' low''))) (k v (.mk t' n' low''))) (.no 174)) fn.body) P.funcs[f]?) (fun c _ => extK P fuel (callK P X fuel d) f (Nat.succ c) xs h k) (X f) : Ans) = .yes := H
    rw [hx] at H
    replace H : (Option.rec (motive := fun _ => Ans) (.no 171) (fun (fn : Func) => Option.rec (motive := fun _ => Ans) (.no (1000 + f)) (fun c =>
      match h with
      | .mk t n low => cnd (argsOk xs (keepF fn)) (initEnv xs fun env => run P (callK P X fuel d) fn.ntmps (keepF fn) fuel (compC P fn.ntmps (keepF fn) c) env (.mk t n n) fun e env h' =>
        match e, h' with
        | .exit _, _ => .no 172
        | .goto _, _ => .no 173
        | _, .mk t' n' low' => resK P fn.results.toList env h' fun v =>
          natMin low low' fun low'' => cnd (Nat.beq low' n) (cnd (flatB v) (k v h) (k v (.mk t' n' low''))) (k v (.mk t' n' low''))) (.no 174)) fn.body) P.funcs[f]? : Ans) = .yes := H
    cases hf : P.funcs[f]? with
    | none => rw [hf] at H; cases H
    | some fn =>
      simp only [hf] at H
      cases hb : fn.body with
      | none =>
        simp only [hb] at H
        cases H
      | some c =>
        simp only [hb] at H
        cases h with
        | mk t n low =>
          dsimp only at H
          obtain ⟨hargs, H⟩ := cnd_yes H
          unfold initEnv at H
          rw [writeL_eq] at H
          have hK : EnvK (keepF fn) (putL xs 0 .leaf) := by
            intro i hi
            rw [get_putL]
            split
            · rename_i hb2
              have := argsOk_yes hargs i (by omega)
              rw [Nat.zero_add, hi] at this; cases this
            · exact get_leaf _
          obtain ⟨e, env1, h1, H1, hK1, hw⟩ := run_sound (hreg _ ih fn.ntmps (keepF fn)) fuel (.code c) _ _ _ H hK
          have hex : (e = .normal ∨ e = .ret) ∧ ∃ t' n' low', h1 = .mk t' n' low' ∧ (resK P fn.results.toList env1 h1 fun v =>
              natMin low low' fun low'' => cnd (Nat.beq low' n) (cnd (flatB v) (k v (.mk t n low)) (k v (.mk t' n' low''))) (k v (.mk t' n' low''))) = .yes := by
            cases h1 with
            | mk t' n' low' =>
              cases e with
              | normal => exact ⟨.inl rfl, t', n', low', rfl, H1⟩
              | ret => exact ⟨.inr rfl, t', n', low', rfl, H1⟩
              | exit i => cases H1
              | goto l => cases H1
          obtain ⟨he, t', n', low', rfl, H2⟩ := hex
          obtain ⟨v, H3, hv⟩ := resK_yes H2
          rw [natMin_eq] at H3
          have main : ∀ β w vs, HR β (.mk t n low) w → GlobK P β → conL β xs = some vs → ∀ hfin : Hp, (∀ β' w' u, Stp β (.mk t n n) w β' (.mk t' n' low') w' → con β' v = some u → ∃ β'', Stp β (.mk t n low) w β'' hfin w' ∧ con β'' v = some u) →
              ((callFunc f vs.toArray).run P w = .ok (.enter f vs.toArray) w ∧ Calls P f vs.toArray w (Came β (.mk t n low) w v hfin)) := by
            intro β w vs hr hg hx hfin hend
            refine ⟨?_, ?_⟩
            · unfold callFunc
              simp only [Sem.run_bind, run_program, Result.andThen_ok, hf]
              have hn : (fn.name == "runtime.NumGoroutine") = false := by
                simpa using hN f fn hf
              rw [hn]
              simp [hb]
            · refine calls_of_wp hf hb ?_
              have hr2 : HR β (.mk t n n) w := ⟨hr.blk, hr.inj, hr.fresh, Nat.le_refl _⟩
              have hlen := conL_len hx
              have hrel : Rel fn.ntmps [] β (putL xs 0 .leaf) (.mk t n n) { tmps := vs.toArray ++ Array.replicate (fn.ntmps - vs.toArray.size) undef, defers := [] } w := by
                refine ⟨hr2, fun i av hi => ?_, by simp; omega, rfl⟩
                rw [get_putL] at hi
                split at hi
                · rename_i hb2
                  obtain ⟨u, u1, u2⟩ := conL_get hx hi
                  rw [Nat.sub_zero] at u1
                  rw [u2]
                  congr 1
                  have hi2 : i < vs.length := by omega
                  simp [Array.getD, hi2]
                  rw [if_pos (by omega)]
                  rw [List.getElem?_eq_getElem hi2] at u1
                  injection u1 with u1
                  exact u1.symm
                · rw [get_leaf] at hi; cases hi
              refine wp_mono (hw [] β _ w hrel hg) fun ex a' w' hp => ?_
              obtain ⟨rfl, β', s1, r1⟩ := hp
              obtain ⟨u, g1, g2⟩ := hv fn.ntmps [] β' a' w' r1
              obtain ⟨β'', s2, g3⟩ := hend β' w' u s1 g2
              rcases he with rfl | rfl
              · exact ⟨r1.defers, u, g1, β'', u, rfl, s2, g3⟩
              · exact ⟨r1.defers, u, g1, β'', u, rfl, s2, g3⟩
          have keepCase : k v (.mk t' n' (min low low')) = .yes → ∃ v h', k v h' = .yes ∧ FuncT P f xs (.mk t n low) v h' := by
            intro H4
            refine ⟨v, _, H4, fun β w vs hr hg hx => .inl (main β w vs hr hg hx _ fun β' w' u s1 hc => ?_)⟩
            refine ⟨β', ⟨⟨s1.hr.blk, s1.hr.inj, s1.hr.fresh, ?_⟩, s1.nx, Nat.min_le_left _ _, s1.old, s1.dom, fun b c κ hb e => ?_, ⟨s1.kept.os, s1.kept.tape, s1.kept.output, s1.kept.size, fun c hc hne => ?_⟩⟩, hc⟩
            · have := s1.hr.low
              exact Nat.le_trans (Nat.min_le_right _ _) this
            · rcases s1.new b c κ hb e with h5 | ⟨x, κ', y, a1, a2, a3⟩
              · exact .inl h5
              · exact .inr ⟨x, κ', y, Nat.le_trans (Nat.min_le_right _ _) a1, a2, a3⟩
            · exact s1.kept.blocks c hc fun b κ x hb hx => hne b κ x (Nat.le_trans (Nat.min_le_right _ _) hb) hx
          rw [cnd_eq] at H3
          split at H3
          · rename_i hlow
            have hlow' := Nat.eq_of_beq_eq_true hlow
            rw [cnd_eq] at H3
            split at H3
            · rename_i hflat
              refine ⟨v, _, H3, fun β w vs hr hg hx => .inl (main β w vs hr hg hx _ fun β' w' u s1 hc => ?_)⟩
              refine ⟨β, ⟨⟨fun b x hbx => ?_, hr.inj, hr.fresh, hr.low⟩, Nat.le_refl _, Nat.le_refl _, fun _ _ => rfl, fun _ x _ e => ⟨x, e⟩, (fun b c κ hb e => by rw [hr.fresh b hb] at e; cases e), ⟨s1.kept.os, s1.kept.tape, s1.kept.output, s1.kept.size, fun c hc hne => ?_⟩⟩, by rw [flat_con hflat β β']; exact hc⟩
              · obtain ⟨q1, cb, κ, q2, q3⟩ := hr.blk b x hbx
                refine ⟨q1, cb, κ, q2, ?_⟩
                have hcb : cb < w.heap.size := by
                  cases x with
                  | cells e' len c ex esz => obtain ⟨cs, fz, e2, -⟩ := q3; exact (Array.getElem?_eq_some_iff.1 e2).1
                  | map es clock => obtain ⟨ms, e2, -⟩ := q3; exact (Array.getElem?_eq_some_iff.1 e2).1
                  | iter l p => exact (Array.getElem?_eq_some_iff.1 q3.1).1
                  | miter b s => obtain ⟨_, _, _, e2⟩ := q3; exact (Array.getElem?_eq_some_iff.1 e2).1
                rw [s1.kept.block cb hcb (fun b' κ' hb' e => ?_)]
                · exact q3
                · have : n ≤ b' := by rw [← hlow']; exact hb'
                  rw [hr.fresh b' this] at e; cases e
              · refine s1.kept.block c hc fun b' κ' hb' e => ?_
                have : n ≤ b' := by rw [← hlow']; exact hb'
                rw [hr.fresh b' this] at e; cases e
            · exact keepCase H3
          · exact keepCase H3
end Go.Ev
end
section
namespace Go.Ev
variable [Sg] [Sl]
open Go.RowKit
variable {P : Program}
theorem inMask_eq (a t : Nat) : inMask a t = a.testBit t := by
  unfold inMask
  show Nat.beq ((a >>> t) &&& 1) 1 = _
  rw [Nat.testBit, Nat.and_comm]
  have : (1 &&& (a >>> t)) = (a >>> t) % 2 := by rw [Nat.and_comm]; exact Nat.and_one_is_mod _
  rw [this]
  rcases Nat.mod_two_eq_zero_or_one (a >>> t) with h | h <;> rw [h] <;> rfl
theorem inMask_or (a t s : Nat) : inMask (orMask a t) s = (inMask a s || decide (t = s)) := by
  rw [inMask_eq, inMask_eq]
  show (a ||| 2 ^ t).testBit s = _
  rw [Nat.testBit_or, Nat.testBit_two_pow]
theorem inMask_lor (a b s : Nat) : inMask (Nat.lor a b) s = (inMask a s || inMask b s) := by
  rw [inMask_eq, inMask_eq, inMask_eq]
  exact Nat.testBit_or a b s
theorem inMask_zero (s : Nat) : inMask 0 s = false := by rw [inMask_eq]; exact Nat.zero_testBit s
abbrev Cv := Nat → Option AV
def updO (cv : Cv) (d : Option Tmp) (v : Option AV) : Cv := match d with
  | some d => fun t => if t = d then v else cv t
  | none => cv
noncomputable def opnd (P : Program) (cv : Cv) (x : Operand) : Option AV := match x with
  | .tmp t => cv t
  | .const v => if okConst v = true then some (toAV v) else none
  | .global g => if g < P.globals.size then some (.ptr g 0) else none
  | .func f => some (.fn (.func f) [] [])
noncomputable def opnds (P : Program) (cv : Cv) : List Operand → Option (List AV)
  | [] => some []
  | x :: xs => (opnd P cv x).bind fun v => (opnds P cv xs).map (v :: ·)
def CvR (β : Bt) (cv : Cv) (tmps : Array Value) : Prop := ∀ t av, cv t = some av → con β av = some (tmps.getD t undef)
theorem opnd_con {β : Bt} {cv : Cv} {a : Act} (hc : CvR β cv a.tmps) (hg : GlobK P β) {x : Operand} {av : AV} (h : opnd P cv x = some av) : con β av = some (a.eval x) := by
  cases x with
  | tmp t => exact hc t av h
  | const v =>
    replace h : (if okConst v = true then some (toAV v) else none) = some av := h
    split at h
    · rename_i ho; injection h with h; subst h; exact toAV_con β ho
    · cases h
  | global g =>
    replace h : (if g < P.globals.size then some (AV.ptr g 0) else none) = some av := h
    split at h
    · rename_i hlt; injection h with h; subst h
      obtain ⟨κ, e⟩ := hg g hlt
      simp only [con, e]; rfl
    · cases h
  | func f => replace h : some (AV.fn (.func f) [] []) = some av := h; injection h with h; subst h; rfl
theorem opnds_con {β : Bt} {cv : Cv} {a : Act} (hc : CvR β cv a.tmps) (hg : GlobK P β) : ∀ {xs : List Operand} {l : List AV}, opnds P cv xs = some l → conL β l = some (xs.map a.eval)
  | [], l, h => by injection h with h; subst h; rfl
  | x :: xs, l, h => by
    simp only [opnds, Option.bind_eq_some_iff, Option.map_eq_some_iff] at h
    obtain ⟨v, h1, vs, h2, rfl⟩ := h
    exact conL_mk (opnd_con hc hg h1) (opnds_con hc hg h2)
def wantedA (ops : List Oper) (cv : Cv) (o : Oper) : Option Bool := match o.guard with
  | none => some true
  | some (g, want) => match (ops[g]?).bind (·.dst) with
    | some d => match cv d with
      | some (.bool b) => some (b == want)
      | some (.tup _) => some false
      | _ => none
    | none => none
theorem wantedA_con {β : Bt} {cv : Cv} {tmps : Array Value} (hc : CvR β cv tmps) {ops : Array Oper} {o : Oper} {b : Bool} (h : wantedA ops.toList cv o = some b) : Region.wanted o (yielded ops tmps) = b := by
  unfold wantedA at h
  unfold Region.wanted
  cases hg : o.guard with
  | none => rw [hg] at h; injection h
  | some p =>
    obtain ⟨g, want⟩ := p
    rw [hg] at h
    dsimp only at h ⊢
    have e1 : ops.toList[g]? = ops[g]? := by simp
    rw [e1] at h
    cases hd : (ops[g]?).bind (·.dst) with
    | none => rw [hd] at h; cases h
    | some d =>
      rw [hd] at h
      dsimp only at h
      unfold yielded
      rw [hd, Option.bind_some]
      cases hv : cv d with
      | none => rw [hv] at h; cases h
      | some av =>
        have hcon := hc d av hv
        rw [hv] at h
        have hget : ∀ x, tmps.getD d undef = x → x ≠ undef → tmps[d]? = some x := by
          intro x hx hne
          by_cases hlt : d < tmps.size
          · rw [Array.getElem?_eq_getElem hlt]
            simp [Array.getD, hlt] at hx
            rw [hx]
          · simp [Array.getD, hlt] at hx
            exact absurd hx.symm hne
        cases av
        case bool x =>
          dsimp only at h
          injection h with h
          have := con_bool hcon
          rw [hget _ this (by intro e; cases e)]
          dsimp only
          rw [← h]
          cases x <;> cases want <;> rfl
        case tup l =>
          dsimp only at h
          injection h with h
          obtain ⟨vs, _, e⟩ := con_tup hcon
          rw [← h]
          cases ht : tmps[d]? with
          | none => rfl
          | some z =>
            have hlt := (Array.getElem?_eq_some_iff.1 ht).1
            have : z = .tuple vs.toArray := by
              rw [Array.getElem?_eq_getElem hlt] at ht
              injection ht with ht
              rw [← e, ← ht]
              simp [Array.getD, hlt]
            subst this
            cases want <;> rfl
        all_goals (dsimp only at h; cases h)
structure Loc (P : Program) (D : Dl) (now : Nat) (L : List AV) (env : Tr AV) (cv : Cv) : Prop where
  len : L.length = now
  res : ∀ t av, rfGet (resolveD D now t) L env = some av → cv t = some av
theorem Loc.opnd {D : Dl} {now : Nat} {L : List AV} {env : Tr AV} {cv : Cv} (h : Loc P D now L env cv) {x : Operand} {av : AV} (hx : rfGet (rfOp P D now x) L env = some av) : opnd P cv x = some av := by
  cases x with
  | tmp t => exact h.res t av hx
  | const v =>
    rw [rfOp_const] at hx
    show (if okConst v = true then some (toAV v) else none) = some av
    split at hx
    · rename_i ho; rw [if_pos ho]; exact hx
    · cases hx
  | global g =>
    replace hx : rfGet (match Nat.blt g P.globals.size with | true => Rf.cst (.ptr g 0) | false => Rf.bad) L env = some av := hx
    show (if g < P.globals.size then some (AV.ptr g 0) else none) = some av
    split at hx
    · rename_i hb
      rw [if_pos (by simpa using hb)]; exact hx
    · cases hx
  | func f => exact hx
theorem rfsK_yes {rs : List Rf} {L : List AV} {env : Tr AV} {k : List AV → Ans} (H : rfsK rs L env k = .yes) : ∃ vs, k vs = .yes ∧ vs.length = rs.length ∧ ∀ (i : Nat) r v, rs[i]? = some r → vs[i]? = some v → rfGet r L env = some v := by
  induction rs generalizing k with
  | nil => exact ⟨[], H, rfl, fun i r v h => by simp at h⟩
  | cons r rs ih =>
    obtain ⟨v, H1, hv⟩ := rfK_yes (k := fun v => rfsK rs L env fun vs => k (v :: vs)) H
    obtain ⟨vs, H2, h1, h2⟩ := ih H1
    refine ⟨v :: vs, H2, by simp [h1], fun i r' v' hr hv' => ?_⟩
    cases i with
    | zero => simp at hr hv'; subst hr; subst hv'; exact hv
    | succ i => exact h2 i r' v' (by simpa using hr) (by simpa using hv')
theorem Loc.opnds {D : Dl} {now : Nat} {L : List AV} {env : Tr AV} {cv : Cv} (h : Loc P D now L env cv) : ∀ {xs : List Operand} {vs : List AV}, vs.length = (xs.map (rfOp P D now)).length → (∀ (i : Nat) r v, (xs.map (rfOp P D now))[i]? = some r → vs[i]? = some v → rfGet r L env = some v) → opnds P cv xs = some vs
  | [], [], _, _ => rfl
  | [], _ :: _, hl, _ => by simp at hl
  | _ :: _, [], hl, _ => by simp at hl
  | x :: xs, v :: vs, hl, hx => by
    have h1 := h.opnd (x := x) (hx 0 _ v (by simp) (by simp))
    have h2 := Loc.opnds h (xs := xs) (vs := vs) (by simpa using hl) (fun i r u hr hu => hx (i + 1) r u (by simpa using hr) (by simpa using hu))
    simp only [Ev.opnds, h1, h2]; rfl
def Acts (P : Program) (o : Oper) (cv : Cv) (h : Hp) (v : AV) (h1 : Hp) : Prop :=
  ∃ xs, opnds P cv o.op.operands.toList = some xs ∧ OpHoldsG P o xs h v h1 ∧ (quietOp P o.op = true → h1 = h ∧ ∀ h2, OpHoldsG P o xs h2 v h2)
theorem bare_yes {callf : CallF} (hcall : CallSound P callf) {keep : Nat} {o : Oper} {D : Dl} {now : Nat} {L : List AV} {env : Tr AV} {cv : Cv} (hl : Loc P D now L env cv) {h : Hp} {fs : Frees} {k : Option Pa → AV → Hp → Frees → Ans}
    (H : doCO callf (bareCO P keep o D now) L env h fs k = .yes) : ∃ v h1, k (dstP keep o) v h1 fs = .yes ∧ Acts P o cv h v h1 := by
  have gen : ∀ (c : OpC), OpCOk P o c → doCO callf (bareOf c (o.op.operands.toList.map (rfOp P D now)) (dstP keep o)) L env h fs k = .yes → ∃ v h1, k (dstP keep o) v h1 fs = .yes ∧ Acts P o cv h v h1 := by
    intro c hc H
    unfold bareOf at H
    split at H
    · rename_i f r hargs
      obtain ⟨x, H1, hx⟩ := rfK_yes (k := fun x => f x h fun v h => k (dstP keep o) v h fs) H
      obtain ⟨v, h1, H2, h3, h4⟩ := hc x h _ H1
      refine ⟨v, h1, H2, [x], hl.opnds (by rw [hargs]; rfl) (fun i r' v' hr hv' => ?_), h3.g, fun hq => ⟨(h4 hq).1, fun h2 => ((h4 hq).2 h2).g⟩⟩
      rw [hargs] at hr
      cases i with
      | zero => simp at hr hv'; subst hr; subst hv'; exact hx
      | succ i => simp at hr
    · rename_i f r s hargs
      obtain ⟨x, H1, hx⟩ := rfK_yes (k := fun x => rfK s L env fun y => f x y h fun v h => k (dstP keep o) v h fs) H
      obtain ⟨y, H2, hy⟩ := rfK_yes (k := fun y => f x y h fun v h => k (dstP keep o) v h fs) H1
      obtain ⟨v, h1, H3, h3, h4⟩ := hc x y h _ H2
      refine ⟨v, h1, H3, [x, y], hl.opnds (by rw [hargs]; rfl) (fun i r' v' hr hv' => ?_), h3.g, fun hq => ⟨(h4 hq).1, fun h2 => ((h4 hq).2 h2).g⟩⟩
      rw [hargs] at hr
      match i with
      | 0 => simp at hr hv'; subst hr; subst hv'; exact hx
      | 1 => simp at hr hv'; subst hr; subst hv'; exact hy
      | i + 2 => simp at hr
    · rename_i f
      obtain ⟨xs, H1, hx1, hx2⟩ := rfsK_yes (k := fun xs => f xs h fun v h => k (dstP keep o) v h fs) H
      obtain ⟨v, h1, H2, h3, h4⟩ := hc xs h _ H1
      exact ⟨v, h1, H2, xs, hl.opnds hx1 hx2, h3.g, fun hq => ⟨(h4 hq).1, fun h2 => ((h4 hq).2 h2).g⟩⟩
    · cases H
    · cases H
  unfold bareCO at H
  split at H
  · rename_i x hop
    obtain ⟨v, H1, hx⟩ := rfK_yes (k := fun v => k (dstP keep o) v h fs) H
    have hh : ∀ h2, OpHoldsG P o [v] h2 v h2 := fun h2 => (OpHolds.pure fun β w a hx2 => by
      rw [hop] at hx2
      exact ⟨a.eval x, by simp [execOp, hop], conL1 hx2⟩).g
    refine ⟨v, h, H1, [v], ?_, hh h, fun _ => ⟨rfl, hh⟩⟩
    rw [hop]
    show opnds P cv [x] = some [v]
    simp only [opnds, hl.opnd hx]; rfl
  · rename_i x hop
    obtain ⟨v, H1, hx⟩ := rfK_yes (k := fun v => k (dstP keep o) v h fs) H
    have hh : ∀ h2, OpHoldsG P o [v] h2 v h2 := fun h2 => (OpHolds.pure fun β w a hx2 => by
      rw [hop] at hx2
      exact ⟨a.eval x, by simp [execOp, hop], conL1 hx2⟩).g
    refine ⟨v, h, H1, [v], ?_, hh h, fun _ => ⟨rfl, hh⟩⟩
    rw [hop]
    show opnds P cv [x] = some [v]
    simp only [opnds, hl.opnd hx]; rfl
  · rename_i F args ats hop
    replace H : rfsK ((F :: args.toList).map (rfOp P D now)) L env (fun xs => applyK callf xs h fun v h => k (dstP keep o) v h fs) = .yes := H
    obtain ⟨xs, H1, hx1, hx2⟩ := rfsK_yes H
    obtain ⟨v, h1, H2, h3⟩ := applyK_sound hcall hop H1
    refine ⟨v, h1, H2, xs, ?_, h3, fun hq => by rw [hop] at hq; cases hq⟩
    rw [hop]
    have e : (Op.call ⟨.value F, args, ats⟩).operands.toList = F :: args.toList := by simp [Op.operands, Call.operands]
    rw [e]
    exact hl.opnds hx1 hx2
  · exact gen _ (opC_sound o) H
end Go.Ev
namespace Go.Ev
variable [Sg] [Sl]
open Go.RowKit
variable {P : Program}
theorem resolveD_cons (e : Nat × (Nat ⊕ Rf)) (D : Dl) (now t : Nat) : resolveD (e :: D) now t = if e.1 = t then (match e.2 with | .inl i => .loc (now - 1 - i) | .inr r => r) else resolveD D now t := by
  show (Bool.rec (motive := fun _ => Rf) (resolveD D now t) (Sum.rec (motive := fun _ => Rf) (fun i => .loc (Nat.sub (Nat.sub now 1) i)) (fun r => r) e.2) (Nat.beq e.1 t)) = _
  by_cases h : e.1 = t
  · rw [if_pos h, show Nat.beq e.1 t = true from by rw [h]; exact Nat.beq_refl t]
    cases e.2 <;> rfl
  · rw [if_neg h, show Nat.beq e.1 t = false from by rw [Bool.eq_false_iff]; exact fun hb => h (Nat.eq_of_beq_eq_true hb)]
def putE (d : Option Pa) (v : AV) (env : Tr AV) : Tr AV := match d with
  | some p => env.set p (some v)
  | none => env
theorem putEnv_eq (d : Option Pa) (v : AV) (env : Tr AV) (k : Tr AV → Ans) : putEnv d v env k = k (putE d v env) := by
  cases d with
  | none => rfl
  | some p => exact setP_eq p (some v) env k
theorem dstP_get (keep : Nat) (o : Oper) (v : AV) (env : Tr AV) (t : Nat) : (putE (dstP keep o) v env).get (path t) = if o.dst = some t ∧ inMask keep t = true then some v else env.get (path t) := by
  unfold dstP
  cases hd : o.dst with
  | none => simp [putE]
  | some d =>
    dsimp only
    cases hm : inMask keep d with
    | false =>
      rw [if_neg]
      · rfl
      · rintro ⟨e, h⟩; injection e with e; subst e; rw [hm] at h; cases h
    | true =>
      show (env.set (path d) (some v)).get (path t) = _
      rw [get_set]
      by_cases e : t = d
      · subst e; rw [if_pos rfl, if_pos ⟨rfl, hm⟩]
      · rw [if_neg (path_ne e), if_neg]
        rintro ⟨h, _⟩; injection h with h; exact e h.symm
def Fast (rest : List Oper) (now : Nat) (x : Nat ⊕ Rf) : Prop := match x with
  | .inl i => i < now
  | .inr r => ∃ t, r = .var (path t) ∧ assigned rest t = false
structure Pl (P : Program) (keep : Nat) (rest : List Oper) (D : Dl) (now : Nat) (L : List AV) (env : Tr AV) (cv : Cv) : Prop where
  loc : Loc P D now L env cv
  envK : EnvK keep env
  envC : ∀ t av, env.get (path t) = some av → cv t = some av
  ok : ∀ e ∈ D, Fast rest now e.2
theorem assigned_cons {o : Oper} {rest : List Oper} {t : Nat} (h : assigned (o :: rest) t = false) : o.dst ≠ some t ∧ assigned rest t = false := by
  unfold assigned at h ⊢
  rw [List.any_cons, Bool.or_eq_false_iff] at h
  refine ⟨fun e => ?_, h.2⟩
  have := h.1
  rw [e] at this
  dsimp only at this
  rw [Nat.beq_refl] at this
  cases this
theorem Fast.later {o : Oper} {rest : List Oper} {now now' : Nat} (hn : now ≤ now') {x : Nat ⊕ Rf} (h : Fast (o :: rest) now x) : Fast rest now' x := by
  cases x with
  | inl i => exact Nat.lt_of_lt_of_le h hn
  | inr r => obtain ⟨t, e, h⟩ := h; exact ⟨t, e, (assigned_cons h).2⟩
theorem resolve_push {o : Oper} {rest : List Oper} {keep now : Nat} {v : AV} {L : List AV} {env : Tr AV} {t : Nat} (ht : o.dst ≠ some t) : ∀ {D : Dl}, (∀ e ∈ D, Fast (o :: rest) now e.2) →
    rfGet (resolveD D (now + 1) t) (v :: L) (putE (dstP keep o) v env) = rfGet (resolveD D now t) L env
  | [], _ => by
    show (putE (dstP keep o) v env).get (path t) = env.get (path t)
    rw [dstP_get, if_neg (fun h => ht h.1)]
  | e :: D, hD => by
    rw [resolveD_cons, resolveD_cons]
    by_cases h : e.1 = t
    · rw [if_pos h, if_pos h]
      have hf := hD e (List.mem_cons_self ..)
      revert hf
      cases e.2 with
      | inl i =>
        intro hf
        have hf' : i < now := hf
        show (v :: L)[now + 1 - 1 - i]? = L[now - 1 - i]?
        rw [show now + 1 - 1 - i = (now - 1 - i) + 1 by omega]
        rfl
      | inr r =>
        rintro ⟨t', rfl, h2⟩
        show (putE (dstP keep o) v env).get (path t') = env.get (path t')
        rw [dstP_get, if_neg (fun h => (assigned_cons h2).1 h.1)]
    · rw [if_neg h, if_neg h]
      exact resolve_push ht (fun e' he => hD e' (List.mem_cons_of_mem _ he))
def consD (d : Option Tmp) (now : Nat) (D : Dl) : Dl := match d with
  | some d => (d, .inl now) :: D
  | none => D
theorem Pl.push {keep : Nat} {o : Oper} {rest : List Oper} {D : Dl} {now : Nat} {L : List AV} {env : Tr AV} {cv : Cv} (h : Pl P keep (o :: rest) D now L env cv) (v : AV) :
    Pl P keep rest (consD o.dst now D) (now + 1) (v :: L) (putE (dstP keep o) v env) (updO cv o.dst (some v)) := by
  have up : ∀ t, updO cv o.dst (some v) t = if o.dst = some t then some v else cv t := fun t => by
    unfold updO
    cases o.dst with
    | none => simp
    | some d =>
      dsimp only
      by_cases e : t = d
      · subst e; simp
      · rw [if_neg e, if_neg (fun h => e (by injection h with h; exact h.symm))]
  refine ⟨⟨by simp [h.loc.len], fun t av hg => ?_⟩, fun t ht => ?_, fun t av hg => ?_, ?_⟩
  · rw [up]
    by_cases ht : o.dst = some t
    · rw [if_pos ht]
      rw [ht, show consD (some t) now D = (t, .inl now) :: D from rfl, resolveD_cons, if_pos rfl] at hg
      dsimp only at hg
      rw [show now + 1 - 1 - now = 0 by omega] at hg
      exact hg
    · rw [if_neg ht]
      have e : resolveD (consD o.dst now D) (now + 1) t = resolveD D (now + 1) t := by
        unfold consD
        cases hd : o.dst with
        | none => rfl
        | some d =>
          dsimp only
          rw [resolveD_cons, if_neg]
          intro e; exact ht (by rw [hd, show d = t from e])
      rw [e, resolve_push ht h.ok] at hg
      exact h.loc.res t av hg
  · rw [dstP_get, if_neg (fun e => by rw [e.2] at ht; cases ht)]
    exact h.envK t ht
  · rw [dstP_get] at hg
    rw [up]
    by_cases ht : o.dst = some t
    · rw [if_pos ht]
      by_cases hm : inMask keep t = true
      · rwa [if_pos ⟨ht, hm⟩] at hg
      · rw [if_neg (fun h => hm h.2), h.envK t (by simpa using hm)] at hg; cases hg
    · rw [if_neg (fun h => ht h.1)] at hg
      rw [if_neg ht]
      exact h.envC t av hg
  · intro e he
    unfold consD at he
    cases hd : o.dst with
    | none => rw [hd] at he; exact (h.ok e he).later (Nat.le_succ _)
    | some d =>
      rw [hd] at he
      rcases List.mem_cons.1 he with rfl | he
      · exact Nat.lt_succ_self now
      · exact (h.ok e he).later (Nat.le_succ _)
theorem aliasOf_some {keep : Nat} {rest : List Oper} {D : Dl} {o : Oper} {e : Nat × (Nat ⊕ Rf)} (h : aliasOf keep rest D o = some e) :
    ∃ d t, o.dst = some d ∧ o.guard = none ∧ o.op = .move (.tmp t) ∧ inMask keep d = false ∧ e.1 = d ∧ ((∃ e', D.find? (fun e => Nat.beq e.1 t) = some e' ∧ e.2 = e'.2) ∨ (D.find? (fun e => Nat.beq e.1 t) = none ∧ assigned rest t = false ∧ e.2 = .inr (.var (path t)))) := by
  unfold aliasOf at h
  split at h
  · rename_i d t hd hg ho
    split at h
    · rename_i e' h1 h2
      injection h with h; subst h
      exact ⟨d, t, hd, hg, ho, h1, rfl, .inl ⟨e', h2, rfl⟩⟩
    · rename_i h1 h2 h3
      injection h with h; subst h
      exact ⟨d, t, hd, hg, ho, h1, rfl, .inr ⟨h2, h3, rfl⟩⟩
    · cases h
  · cases h
theorem resolveD_find {now t : Nat} : ∀ {D : Dl}, resolveD D now t = match D.find? (fun e => Nat.beq e.1 t) with
    | some e => (match e.2 with | .inl i => .loc (now - 1 - i) | .inr r => r)
    | none => .var (path t)
  | [] => rfl
  | e :: D => by
    rw [resolveD_cons, List.find?_cons]
    by_cases h : e.1 = t
    · rw [if_pos h, show Nat.beq e.1 t = true from by rw [h]; exact Nat.beq_refl t]
    · rw [if_neg h, show Nat.beq e.1 t = false from by rw [Bool.eq_false_iff]; exact fun hb => h (Nat.eq_of_beq_eq_true hb)]
      exact resolveD_find
theorem Pl.alias {keep : Nat} {o : Oper} {rest : List Oper} {D : Dl} {now : Nat} {L : List AV} {env : Tr AV} {cv : Cv} (h : Pl P keep (o :: rest) D now L env cv) {e : Nat × (Nat ⊕ Rf)} (ha : aliasOf keep rest D o = some e) :
    ∃ d t, o.dst = some d ∧ o.guard = none ∧ o.op = .move (.tmp t) ∧ Pl P keep rest (e :: D) now L env (updO cv o.dst (cv t)) := by
  obtain ⟨d, t, hd, hg, ho, hk, he1, he2⟩ := aliasOf_some ha
  refine ⟨d, t, hd, hg, ho, ⟨h.loc.len, fun s av hs => ?_⟩, h.envK, fun s av hs => ?_, fun e' he' => ?_⟩
  · rw [hd]
    show (if s = d then cv t else cv s) = some av
    rw [resolveD_cons, he1] at hs
    by_cases hsd : d = s
    · rw [if_pos hsd] at hs
      rw [if_pos hsd.symm]
      refine h.loc.res t av ?_
      rw [resolveD_find]
      rcases he2 with ⟨e', h1, h2⟩ | ⟨h1, h2, h3⟩
      · rw [h1]; rw [h2] at hs; exact hs
      · rw [h1]; rw [h3] at hs; exact hs
    · rw [if_neg hsd] at hs
      rw [if_neg (fun x => hsd x.symm)]
      exact h.loc.res s av hs
  · rw [hd]
    show (if s = d then cv t else cv s) = some av
    by_cases hsd : s = d
    · subst hsd; rw [h.envK s hk] at hs; cases hs
    · rw [if_neg hsd]; exact h.envC s av hs
  · rcases List.mem_cons.1 he' with rfl | he'
    · rcases he2 with ⟨e', h1, h2⟩ | ⟨h1, h2, h3⟩
      · rw [h2]
        exact (h.ok e' (List.mem_of_find?_eq_some h1)).later (Nat.le_refl _)
      · rw [h3]; exact ⟨t, rfl, h2⟩
    · exact (h.ok e' he').later (Nat.le_refl _)
def Does (P : Program) (ops : List Oper) (o : Oper) (cv : Cv) (h : Hp) (v : AV) (h1 : Hp) : Prop :=
  (wantedA ops cv o = some true ∧ Acts P o cv h v h1) ∨ (wantedA ops cv o = some false ∧ v = .tup [] ∧ h1 = h)
def wantV (want : Bool) : AV → Option Bool
  | .bool b => some (b == want)
  | .tup _ => some false
  | _ => none
theorem grown_yes {h h' : Hp} {x : Ans} (H : doCO.grown h h' x = .yes) : h.nx ≤ h'.nx ∧ x = .yes := by
  obtain ⟨t, n, l⟩ := h
  obtain ⟨t', n', l'⟩ := h'
  replace H : cnd (Nat.ble n n') x (.no 157) = .yes := H
  obtain ⟨h1, h2⟩ := cnd_yes H
  exact ⟨Nat.le_of_ble_eq_true h1, h2⟩
theorem mkCO_line {callf : CallF} (hcall : CallSound P callf) {keep : Nat} {ops : List Oper} {o : Oper} {cls : Cls} {i : Nat} (hcl : cls = .quiet ∨ ∃ m, cls = .bar m) {D : Dl} {now : Nat} {L : List AV} {env : Tr AV} {cv : Cv} (hl : Loc P D now L env cv) {h : Hp} {fs : Frees} {k : Option Pa → AV → Hp → Frees → Ans}
    (H : doCO callf (mkCO P ops keep o D now cls i) L env h fs k = .yes) : ∃ v h1, k (dstP keep o) v h1 fs = .yes ∧ Does P ops o cv h v h1 ∧ (cls ≠ .quiet → h.nx ≤ h1.nx) := by
  have hb : doCO callf (clCO cls i (bareCO P keep o D now)) L env h fs k = .yes → ∃ v h1, k (dstP keep o) v h1 fs = .yes ∧ Acts P o cv h v h1 ∧ (cls ≠ .quiet → h.nx ≤ h1.nx) := by
    rcases hcl with rfl | ⟨m, rfl⟩
    · intro H
      obtain ⟨v, h1, H1, ha⟩ := bare_yes hcall hl H
      exact ⟨v, h1, H1, ha, fun h => absurd rfl h⟩
    · intro H
      replace H : doCO callf (bareCO P keep o D now) L env h fs (fun d v h' fs => doCO.grown h h' (k d v h' fs)) = .yes := H
      obtain ⟨v, h1, H1, ha⟩ := bare_yes hcall hl H
      obtain ⟨h2, H2⟩ := grown_yes H1
      exact ⟨v, h1, H2, ha, fun _ => h2⟩
  unfold mkCO at H
  split at H
  · rename_i hg
    obtain ⟨v, h1, H1, ha, hn⟩ := hb H
    exact ⟨v, h1, H1, .inl ⟨by unfold wantedA; rw [hg], ha⟩, hn⟩
  · rename_i g want hg
    split at H
    · rename_i d hd
      replace H : rfK (resolveD D now d) L env (fun v => doCO.onGuard v want (doCO callf (clCO cls i (bareCO P keep o D now)) L env h fs k) (k (dstP keep o) (.tup []) h fs)) = .yes := H
      obtain ⟨x, H1, hx⟩ := rfK_yes H
      have hcx := hl.res d x hx
      have hw : wantedA ops cv o = wantV want x := by
        unfold wantedA
        rw [hg]
        dsimp only
        rw [hd]
        dsimp only
        rw [hcx]
        cases x <;> rfl
      unfold doCO.onGuard at H1
      split at H1
      · rename_i b
        rw [cnd_eq] at H1
        split at H1
        · rename_i hbw
          obtain ⟨v, h1, H2, ha, hn⟩ := hb H1
          exact ⟨v, h1, H2, .inl ⟨by rw [hw]; show some (b == want) = _; rw [hbw], ha⟩, hn⟩
        · rename_i hbw
          exact ⟨_, _, H1, .inr ⟨by rw [hw]; show some (b == want) = _; rw [Bool.eq_false_iff.2 hbw], rfl, rfl⟩, fun _ => Nat.le_refl _⟩
      · exact ⟨_, _, H1, .inr ⟨by rw [hw]; rfl, rfl, rfl⟩, fun _ => Nat.le_refl _⟩
      · cases H1
    · cases H
theorem CvR.put {β β' : Bt} {cv : Cv} {a : Act} (h : CvR β cv a.tmps) (hl : Le β β') {d : Option Tmp} {v : Option AV} {u : Value} (hd : ∀ t, d = some t → t < a.tmps.size) (hv : ∀ av, v = some av → con β' av = some u) : CvR β' (updO cv d v) (a.put d u).tmps := by
  cases d with
  | none => exact fun t av ht => con_mono hl (h t av ht)
  | some d =>
    intro t av ht
    show con β' av = some ((a.tmps.setIfInBounds d u).getD t undef)
    replace ht : (if t = d then v else cv t) = some av := ht
    have hlt := hd d rfl
    by_cases e : t = d
    · subst e
      rw [if_pos rfl] at ht
      rw [hv av ht]
      simp [Array.getD, hlt]
    · rw [if_neg e] at ht
      rw [con_mono hl (h t av ht)]
      congr 1
      simp only [Array.getD_eq_getD_getElem?, Array.getElem?_setIfInBounds]
      rw [if_neg (fun x => e x.symm)]
theorem put_size (a : Act) (d : Option Tmp) (u : Value) : (a.put d u).tmps.size = a.tmps.size := by cases d <;> simp [Act.put]
theorem put_defers (a : Act) (d : Option Tmp) (u : Value) : (a.put d u).defers = a.defers := by cases d <;> rfl
theorem exec_move {o : Oper} {t : Nat} (ho : o.op = .move (.tmp t)) (a : Act) (w : World) : (execOp a.eval o).run P w = .ok (.value (a.tmps.getD t undef)) w := by
  unfold execOp; rw [ho]; rfl
theorem runSeq_cons (callf : CallF) (o : CO) (os : List CO) (L : List AV) (env : Tr AV) (h : Hp) (k : Tr AV → Hp → Ans) : runSeq callf (o :: os) L env h k = doCO callf o L env h [] fun d v h _ => runSeq callf os (v :: L) (putE d v env) h k := by
  show (doCO callf o L env h [] fun d v h _ => putEnv d v env fun env => runSeq callf os (v :: L) env h k) = _
  simp only [putEnv_eq]
theorem seq_sound {callf : CallF} (hcall : CallSound P callf) {N keep : Nat} {ops : Array Oper} {bf : List Nat} : ∀ (rest : List Oper) (bs : List Nat) (D : Dl) (now i : Nat) (L : List AV) (env : Tr AV) (cv : Cv) (h : Hp) (k : Tr AV → Hp → Ans),
    bs.length = rest.length → (∀ o ∈ rest, ∀ d, o.dst = some d → d < N) → Pl P keep rest D now L env cv →
    runSeq callf (mkCOs.go P ops.toList keep false bf rest bs D now i) L env h k = .yes →
    ∃ env' h', k env' h' = .yes ∧ EnvK keep env' ∧ ∀ ds β a w, HR β h w → CvR β cv a.tmps → N ≤ a.tmps.size → a.defers = ds → GlobK P β → ∀ Q : Exit → Act → World → Prop, (∀ a' w', Post N ds β h w env' h' a' w' → Q .normal a' w') → wpList P ops Q rest a w
  | [], _, D, now, i, L, env, cv, h, k, hl, hd, pl, H => by
    replace H : k env h = .yes := by cases ‹List Nat› <;> exact H
    exact ⟨env, h, H, pl.envK, fun ds β a w hr hc hN hds hg Q hQ => hQ a w ⟨β, .refl hr, hr, fun t av e => hc t av (pl.envC t av e), hN, hds⟩⟩
  | o :: rest, [], D, now, i, L, env, cv, h, k, hl, hd, pl, H => by simp at hl
  | o :: rest, b :: bs, D, now, i, L, env, cv, h, k, hl, hd, pl, H => by
    have hl' : bs.length = rest.length := by simpa using hl
    have hd' : ∀ o ∈ rest, ∀ d, o.dst = some d → d < N := fun o' ho => hd o' (List.mem_cons_of_mem _ ho)
    rw [mkCOs.go] at H
    cases hal : aliasOf keep rest D o with
    | some e =>
      rw [hal] at H
      dsimp only at H
      obtain ⟨d, t, hdst, hg0, ho, pl'⟩ := pl.alias hal
      obtain ⟨env', h', H', hK', hw'⟩ := seq_sound hcall rest bs _ _ _ _ _ _ _ _ hl' hd' pl' H
      refine ⟨env', h', H', hK', fun ds β a w hr hc hN hds hg Q hQ => ?_⟩
      show if _ then _ else _
      rw [if_pos (by unfold Region.wanted; rw [hg0])]
      left
      unfold Oper.wp
      rw [exec_move ho]
      show wpList P ops Q rest (a.put o.dst _) w
      have hlt : ∀ t, o.dst = some t → t < a.tmps.size := fun t e => Nat.lt_of_lt_of_le (hd o (List.mem_cons_self ..) t e) hN
      refine hw' ds β _ w hr ?_ (by rw [put_size]; exact hN) (by rw [put_defers]; exact hds) hg Q hQ
      exact hc.put (.refl β) hlt (fun av e => hc t av e)
    | none =>
      rw [hal] at H
      dsimp only at H
      rw [runSeq_cons] at H
      obtain ⟨v, h1, H1, hdoes, -⟩ := mkCO_line hcall (.inl rfl) pl.loc H
      obtain ⟨env', h', H', hK', hw'⟩ := seq_sound hcall rest bs _ _ _ _ _ _ _ _ hl' hd' (pl.push v) (by exact H1)
      refine ⟨env', h', H', hK', fun ds β a w hr hc hN hds hg Q hQ => ?_⟩
      have hlt : ∀ t, o.dst = some t → t < a.tmps.size := fun t e => Nat.lt_of_lt_of_le (hd o (List.mem_cons_self ..) t e) hN
      show if _ then _ else _
      rcases hdoes with ⟨hw, xs, hx, ho, -⟩ | ⟨hw, rfl, rfl⟩
      · rw [if_pos (wantedA_con hc hw)]
        left
        refine ho β w a hr hg (opnds_con hc hg hx) _ _ fun β' w' u s hu => ?_
        have hle := s.le hr
        refine hw' ds β' _ w' s.hr (hc.put hle hlt fun av e => by injection e with e; subst e; exact hu) (by rw [put_size]; exact hN) (by rw [put_defers]; exact hds) (hg.le hle) Q fun a' w2 hp => hQ a' w2 (hp.trans hr s)
      · rw [if_neg (by rw [wantedA_con hc hw]; simp)]
        exact hw' ds β _ w hr (hc.put (.refl β) hlt fun av e => by injection e with e; subst e; rfl) (by rw [put_size]; exact hN) (by rw [put_defers]; exact hds) hg Q hQ
end Go.Ev
end
section
namespace Go.Ev
variable [Sg] [Sl]
open Go.RowKit
variable {P : Program}
inductive Kind where
  | bar | gen | mk | spot
def Kind.wr : Kind → Bool
  | .bar => true
  | .spot => true
  | _ => false
inductive Kd where
  | calm
  | act (q : Kind) (I O : Hp)
abbrev Rcs := Nat → Option AV × Kd
def dstAt (ops : List Oper) (i : Nat) : Option Tmp := (ops[i]?).bind (·.dst)
def cvS (cv0 : Cv) (ops : List Oper) (f : Rcs) (S : Nat → Bool) : Nat → Cv
  | 0 => cv0
  | i + 1 => if S i = true then updO (cvS cv0 ops f S i) (dstAt ops i) (f i).1 else cvS cv0 ops f S i
def cvU (cv0 : Cv) (ops : List Oper) (f : Rcs) : Nat → Cv
  | 0 => cv0
  | i + 1 => updO (cvU cv0 ops f i) (dstAt ops i) (f i).1
def Kd.nx (n : Nat) : Kd → Nat
  | .calm => n
  | .act _ _ O => O.nx
def Kd.lo (l : Nat) : Kd → Nat
  | .act .bar _ O => O.lo
  | .act .spot _ O => min l O.lo
  | _ => l
def Kd.isBar : Kd → Bool
  | .act .bar _ _ => true
  | _ => false
def Kd.isCalm : Kd → Bool
  | .calm => true
  | _ => false
def Kd.isSpot : Kd → Bool
  | .act .spot _ _ => true
  | _ => false
def Kd.wr : Kd → Bool
  | .act q _ _ => q.wr
  | _ => false
def Kd.has : Kd → Nat → Prop
  | .act _ I _, b => ∃ x, I.tr.get (path b) = some x
  | .calm, _ => False
noncomputable def Kd.out : Kd → Nat → Option Blk
  | .act _ _ O, b => O.tr.get (path b)
  | .calm, _ => none
def nxU (h0 : Hp) (f : Rcs) : Nat → Nat
  | 0 => h0.nx
  | i + 1 => (f i).2.nx (nxU h0 f i)
def loU (h0 : Hp) (f : Rcs) : Nat → Nat
  | 0 => h0.lo
  | i + 1 => (f i).2.lo (loU h0 f i)
def May (h0 : Hp) (f : Rcs) (i b : Nat) : Prop := (f i).2.isCalm = false ∧ (((f i).2.wr = true ∧ (f i).2.has b) ∨ (nxU h0 f i ≤ b ∧ b < nxU h0 f (i + 1)))
structure At (h0 : Hp) (f : Rcs) (S : Nat → Bool) (b : Nat) (x : Blk) (j : Nat) : Prop where
  src : (j = 0 ∧ h0.tr.get (path b) = some x) ∨ ∃ i, j = i + 1 ∧ S i = true ∧ May h0 f i b ∧ (f i).2.out b = some x
  last : ∀ k, j ≤ k → S k = true → ¬ May h0 f k b
def DomK (k : Kd) : Prop := ∀ q I O, k = .act q I O → (∀ b x, O.tr.get (path b) = some x → b < O.nx) ∧ (∀ b x, b < I.nx → O.tr.get (path b) = some x → ∃ y, I.tr.get (path b) = some y) ∧ O.lo ≤ I.lo
structure Kn (h0 : Hp) (f : Rcs) (A : Nat → Bool) : Prop where
  h0 : ∀ b x, h0.tr.get (path b) = some x → b < h0.nx
  ex : ∀ k, A k = true → DomK (f k).2
abbrev ancS (bf : List Nat) (i : Nat) : Nat → Bool := fun j => inMask (bf.getD i 0) j
def Down (bf : List Nat) (S : Nat → Bool) : Prop := ∀ k j, S k = true → inMask (bf.getD k 0) j = true → S j = true
def CalmAt (P : Program) (ops : List Oper) (o : Oper) (cv : Cv) (out : Option AV) : Prop :=
  (wantedA ops cv o = some true ∧ ∃ v xs, out = some v ∧ opnds P cv o.op.operands.toList = some xs ∧ ∀ h, OpHoldsG P o xs h v h) ∨
  (wantedA ops cv o = some false ∧ out = some (.tup [])) ∨
  (o.guard = none ∧ ∃ t, o.op = .move (.tmp t) ∧ out = cv t)
structure ReadIn (P : Program) (o : Oper) (xs : List AV) (v : AV) (H : Hp) : Prop where
  nx : H.nx ≤ bigN
  does : ∃ O, O.nx = bigN ∧ O.lo = bigN ∧ OpHoldsG P o xs (.mk H.tr bigN bigN) v O
def ReadTo (P : Program) (ops : List Oper) (bf : List Nat) (cv0 : Cv) (h0 : Hp) (f : Rcs) (m i : Nat) (o : Oper) : Prop :=
  wantedA ops (cvU cv0 ops f i) o = some true ∧ ∃ v xs, (f i).1 = some v ∧ opnds P (cvU cv0 ops f i) o.op.operands.toList = some xs ∧ lowA (nxU h0 f i) v = true ∧ nxU h0 f i ≤ bigN ∧
    ∀ S, (∀ k, S k = true → k < m) → Down bf S → Kn h0 f S → (∀ j, inMask (bf.getD i 0) j = true → S j = true) → S i = false →
      ∃ H, ReadIn P o xs v H ∧ ∀ b x, H.tr.get (path b) = some x → ∃ j, At h0 f S b x j ∧ nxU h0 f j ≤ bigN
structure RcAt (P : Program) (ops : List Oper) (bf : List Nat) (cv0 : Cv) (h0 : Hp) (f : Rcs) (m i : Nat) (o : Oper) : Prop where
  calm : (f i).2 = .calm → CalmAt P ops o (cvU cv0 ops f i) (f i).1 ∨ ReadTo P ops bf cv0 h0 f m i o
  act : ∀ q I O, (f i).2 = .act q I O → (∃ v, (f i).1 = some v ∧ wantedA ops (cvU cv0 ops f i) o = some true ∧ Acts P o (cvU cv0 ops f i) I v O) ∧ I.nx = nxU h0 f i ∧ nxU h0 f i ≤ O.nx
  lo : ∀ q I O, (f i).2 = .act q I O → (q = .bar → I.lo = loU h0 f i) ∧ (q ≠ .bar → I.lo = nxU h0 f i) ∧ (q.wr = false → nxU h0 f i ≤ O.lo)
  src : ∀ q I O, (f i).2 = .act q I O → Kn h0 f (ancS bf i) → ∀ b x, I.tr.get (path b) = some x → ∃ j, j ≤ i ∧ At h0 f (ancS bf i) b x j
  apart : ∀ k, k < i → (f k).2.isCalm = false → (f i).2.isCalm = false → inMask (bf.getD i 0) k = false → ∀ b, (f i).2.has b → (f k).2.has b → (f i).2.wr = false ∧ (f k).2.wr = false
theorem cvS_agree {cv0 : Cv} {ops : List Oper} {f : Rcs} {S : Nat → Bool} {i t : Nat} (h : ∀ k, S k ≠ decide (k < i) → dstAt ops k ≠ some t) : ∀ n, cvS cv0 ops f S n t = cvU cv0 ops f (min n i) t
  | 0 => by simp [cvS, cvU]
  | n + 1 => by
    have ih := cvS_agree (cv0 := cv0) (f := f) h n
    have up : ∀ (cv : Cv) v, dstAt ops n ≠ some t → updO cv (dstAt ops n) v t = cv t := fun cv v hd => by
      unfold updO
      cases he : dstAt ops n with
      | none => rfl
      | some d => dsimp only; rw [if_neg (fun e => hd (by rw [he, e]))]
    unfold cvS
    by_cases hlt : n < i
    · rw [show min (n + 1) i = n + 1 by omega]
      rw [show min n i = n by omega] at ih
      unfold cvU
      by_cases hS : S n = true
      · rw [if_pos hS]
        by_cases hd : dstAt ops n = some t
        · rw [hd]; show (if t = t then _ else _) = (if t = t then _ else _); rw [if_pos rfl, if_pos rfl]
        · rw [up _ _ hd, up _ _ hd]; exact ih
      · rw [if_neg hS, up _ _ (h n (by simp [hlt, hS]))]; exact ih
    · rw [show min (n + 1) i = min n i by omega]
      by_cases hS : S n = true
      · rw [if_pos hS, up _ _ (h n (by simp [hlt, hS]))]; exact ih
      · rw [if_neg hS]; exact ih
theorem cvS_all {cv0 : Cv} {ops : List Oper} {f : Rcs} {S : Nat → Bool} {n : Nat} (h : ∀ k, k < n → S k = true) : ∀ m, m ≤ n → cvS cv0 ops f S m = cvU cv0 ops f m
  | 0, _ => rfl
  | m + 1, hm => by unfold cvS cvU; rw [if_pos (h m (by omega)), cvS_all h m (by omega)]
def addS (S : Nat → Bool) (i : Nat) : Nat → Bool := fun k => S k || decide (k = i)
theorem cvS_add {cv0 : Cv} {ops : List Oper} {f : Rcs} {S : Nat → Bool} {i : Nat} (hi : S i = false) (h : ∀ k, i < k → S k = true → dstAt ops i ≠ none → dstAt ops k ≠ dstAt ops i) : ∀ n t, cvS cv0 ops f (addS S i) n t = if i < n then updO (cvS cv0 ops f S n) (dstAt ops i) (f i).1 t else cvS cv0 ops f S n t
  | 0, t => by simp [cvS]
  | n + 1, t => by
    have ih := cvS_add (cv0 := cv0) (f := f) hi h n
    by_cases hin : i = n
    · subst hin
      rw [if_pos (Nat.lt_succ_self i)]
      unfold cvS
      rw [if_pos (by simp [addS]), if_neg (by rw [hi]; simp)]
      unfold updO
      cases hd : dstAt ops i with
      | none => dsimp only; rw [ih t, if_neg (Nat.lt_irrefl i)]
      | some d => dsimp only; rw [ih t, if_neg (Nat.lt_irrefl i)]
    · have ha : addS S i n = S n := by unfold addS; rw [decide_eq_false (fun e : n = i => hin e.symm), Bool.or_false]
      by_cases hlt : i < n
      · rw [if_pos (by omega)]
        unfold cvS
        rw [ha]
        by_cases hS : S n = true
        · rw [if_pos hS, if_pos hS]
          have hne := h n hlt hS
          have ih' := ih t
          rw [if_pos hlt] at ih'
          unfold updO at ih' ⊢
          cases hd : dstAt ops i with
          | none =>
            rw [hd] at ih'
            cases hdn : dstAt ops n with
            | none => exact ih'
            | some d => dsimp only; rw [ih']
          | some d =>
            rw [hd] at ih'
            dsimp only at ih' ⊢
            cases hdn : dstAt ops n with
            | none => exact ih'
            | some d' =>
              dsimp only
              have hdd : d' ≠ d := fun e => hne (by rw [hd]; simp) (by rw [hdn, hd, e])
              by_cases e : t = d'
              · subst e; rw [if_pos rfl, if_neg hdd, if_pos rfl]
              · rw [if_neg e, if_neg e]; exact ih'
        · rw [if_neg hS, if_neg hS]
          have ih' := ih t
          rw [if_pos hlt] at ih'
          exact ih'
      · rw [if_neg (by omega)]
        have ih' := ih t
        rw [if_neg hlt] at ih'
        unfold cvS
        rw [ha]
        by_cases hS : S n = true
        · rw [if_pos hS, if_pos hS]
          unfold updO
          cases dstAt ops n with
          | none => exact ih'
          | some d' => dsimp only; rw [ih']
        · rw [if_neg hS, if_neg hS]; exact ih'
theorem nxU_mono {ops : List Oper} {bf : List Nat} {cv0 : Cv} {h0 : Hp} {f : Rcs} {c m : Nat} (hf : ∀ i o, ops[i]? = some o → RcAt P ops bf cv0 h0 f m i o) (hc : ∀ i, ops.length ≤ i → (f i).2 = .calm) : ∀ i, c ≤ i → nxU h0 f c ≤ nxU h0 f i
  | 0, h => by rw [show c = 0 by omega]; exact Nat.le_refl _
  | i + 1, h => by
    by_cases e : c = i + 1
    · rw [e]; exact Nat.le_refl _
    · have ih := nxU_mono (c := c) hf hc i (by omega)
      refine Nat.le_trans ih ?_
      show _ ≤ (f i).2.nx (nxU h0 f i)
      by_cases hi : i < ops.length
      · obtain ⟨o, ho⟩ : ∃ o, ops[i]? = some o := ⟨_, List.getElem?_eq_getElem hi⟩
        have hr := hf i o ho
        cases hk : (f i).2 with
        | calm => exact Nat.le_refl _
        | act q I O => exact (hr.act q I O hk).2.2
      · rw [hc i (by omega)]; exact Nat.le_refl _
end Go.Ev
namespace Go.Ev
variable [Sg] [Sl]
open Go.RowKit
variable {P : Program}
def restr (β : Bt) (n : Nat) : Bt := fun b => if b < n then β b else none
theorem restr_lt {β : Bt} {n b : Nat} (h : b < n) : restr β n b = β b := if_pos h
theorem restr_ge {β : Bt} {n b : Nat} (h : n ≤ b) : restr β n b = none := if_neg (by omega)
theorem restr_some {β : Bt} {n b : Nat} {x : Nat × Nat} (h : restr β n b = some x) : b < n ∧ β b = some x := by
  by_cases hb : b < n
  · rw [restr_lt hb] at h; exact ⟨hb, h⟩
  · rw [restr_ge (by omega)] at h; cases h
theorem restr_le (β : Bt) (n : Nat) : Le (restr β n) β := fun b x h => (restr_some h).2
theorem restr_mono {β β' : Bt} {n m : Nat} (h : n ≤ m) (hl : Le β β') : Le (restr β n) (restr β' m) := fun b x e => by
  obtain ⟨h1, h2⟩ := restr_some e
  rw [restr_lt (by omega)]; exact hl _ _ h2
structure Ext (w w' : World) : Prop where
  os : w'.os = w.os
  tape : w'.tape = w.tape
  output : w'.output = w.output
  size : w.heap.size ≤ w'.heap.size
  block : ∀ c, c < w.heap.size → w'.heap[c]? = w.heap[c]?
theorem Ext.refl (w : World) : Ext w w := ⟨rfl, rfl, rfl, Nat.le_refl _, fun _ _ => rfl⟩
theorem Ext.trans {w w' w'' : World} (h : Ext w w') (h' : Ext w' w'') : Ext w w'' :=
  ⟨h'.os.trans h.os, h'.tape.trans h.tape, h'.output.trans h.output, Nat.le_trans h.size h'.size, fun c hc => (h'.block c (Nat.lt_of_lt_of_le hc h.size)).trans (h.block c hc)⟩
theorem Ext.kept {w w' : World} (h : Ext w w') (β : Bt) (t : Tr Blk) (lo : Nat) : Kept β t lo w w' := ⟨h.os, h.tape, h.output, h.size, fun c hc _ => h.block c hc⟩
theorem Kept.ext {β : Bt} {t : Tr Blk} {lo : Nat} {w w' : World} (h : Kept β t lo w w') (hn : ∀ b, lo ≤ b → β b = none) : Ext w w' :=
  ⟨h.os, h.tape, h.output, h.size, fun c hc => h.block c hc fun b κ hb e => by rw [hn b hb] at e; cases e⟩
theorem BlkR.some {β : Bt} {κ : Nat} {o : Option Obj} {x : Blk} (h : BlkR β κ o x) : ∃ y, o = some y := by
  cases x with
  | cells e len c ex esz => obtain ⟨cs, fz, h1, _⟩ := h; exact ⟨_, h1⟩
  | map es clock => obtain ⟨ms, h1, _⟩ := h; exact ⟨_, h1⟩
  | iter l p => exact ⟨_, h.1⟩
  | miter b s => obtain ⟨_, _, _, e2⟩ := h; exact ⟨_, e2⟩
theorem BlkR.lt {β : Bt} {κ c : Nat} {w : World} {x : Blk} (h : BlkR β κ w.heap[c]? x) : c < w.heap.size := by
  obtain ⟨y, e⟩ := h.some
  exact (Array.getElem?_eq_some_iff.1 e).1
theorem BlkR.ext {β : Bt} {κ c : Nat} {w w' : World} {x : Blk} (h : BlkR β κ w.heap[c]? x) (he : Ext w w') : BlkR β κ w'.heap[c]? x := by
  rw [he.block c h.lt]; exact h
def bdS (ops : List Oper) (S : Nat → Bool) (t : Nat) : Nat → Nat
  | 0 => 0
  | k + 1 => if S k = true ∧ dstAt ops k = some t then k + 1 else bdS ops S t k
theorem bdS_le {ops : List Oper} {S : Nat → Bool} {t : Nat} : ∀ n, bdS ops S t n ≤ n
  | 0 => Nat.le_refl _
  | n + 1 => by
    unfold bdS
    split
    · exact Nat.le_refl _
    · exact Nat.le_succ_of_le (bdS_le n)
theorem bdS_agree {ops : List Oper} {S : Nat → Bool} {i t : Nat} (h : ∀ k, S k ≠ decide (k < i) → dstAt ops k ≠ some t) : ∀ n, bdS ops S t n ≤ i
  | 0 => Nat.zero_le _
  | n + 1 => by
    unfold bdS
    split
    · rename_i hs
      have : S n = decide (n < i) := Classical.byContradiction fun hne => h n hne hs.2
      rw [hs.1] at this
      have := of_decide_eq_true this.symm
      omega
    · exact bdS_agree h n
theorem bdS_ge {ops : List Oper} {S : Nat → Bool} {i t : Nat} (hs : S i = true) (hd : dstAt ops i = some t) : ∀ n, i < n → i + 1 ≤ bdS ops S t n
  | 0, h => by omega
  | n + 1, h => by
    unfold bdS
    split
    · omega
    · rename_i hn
      by_cases e : i = n
      · subst e; exact absurd ⟨hs, hd⟩ hn
      · exact bdS_ge hs hd n (by omega)
theorem bdS_mono {ops : List Oper} {S S' : Nat → Bool} {t : Nat} (h : ∀ k, S k = true → S' k = true) : ∀ n, bdS ops S t n ≤ bdS ops S' t n
  | 0 => Nat.le_refl _
  | n + 1 => by
    unfold bdS
    split
    · rename_i hs; rw [if_pos ⟨h n hs.1, hs.2⟩]; exact Nat.le_refl _
    · split
      · exact Nat.le_succ_of_le (bdS_le n)
      · exact bdS_mono h n
structure Rg (P : Program) (ops : List Oper) (bf : List Nat) (cv0 : Cv) (h0 : Hp) (f : Rcs) (N : Nat) : Prop where
  rc : ∀ i o, ops[i]? = some o → RcAt P ops bf cv0 h0 f ops.length i o
  out : ∀ i, ops.length ≤ i → (f i).2 = .calm
  dn : ∀ i o e, ops[i]? = some o → e ∈ o.after → Region.binds .any e = true → e.on < i
  bfs : ∀ i o j, ops[i]? = some o → inMask (bf.getD i 0) j = true → ∃ e ∈ o.after, Region.binds .any e = true ∧ (e.on = j ∨ inMask (bf.getD e.on 0) j = true)
  trs : ∀ i k j, inMask (bf.getD i 0) k = true → inMask (bf.getD k 0) j = true → inMask (bf.getD i 0) j = true
  lt : ∀ i j, inMask (bf.getD i 0) j = true → j < i
  ap : ∀ i j x y, i < j → ops[i]? = some x → ops[j]? = some y → inMask (bf.getD j 0) i = true ∨ apartB ops x y = true
  dst : ∀ i d, dstAt ops i = some d → d < N
  h0 : ∀ b x, h0.tr.get (path b) = some x → b < h0.nx
  bars : ∀ i k, (f i).2.isBar = true → (f k).2.isBar = true → k < i → inMask (bf.getD i 0) k = true
def LowB (f : Rcs) (S : Nat → Bool) (h0 : Hp) (l : Nat) : Prop := l ≤ h0.lo ∧ ∀ k q I O, S k = true → (f k).2 = .act q I O → l ≤ O.lo
structure Mid (h0 : Hp) (f : Rcs) (S : Nat → Bool) (β0 : Bt) (w0 : World) (β : Bt) (w : World) : Prop where
  blk : ∀ b x j, At h0 f S b x j → b < nxU h0 f j ∧ ∃ cb κ, β b = some (cb, κ) ∧ BlkR (restr β (nxU h0 f j)) κ w.heap[cb]? x
  inj : ∀ b b' x x' j j' c κ κ', At h0 f S b x j → At h0 f S b' x' j' → β b = some (c, κ) → β b' = some (c, κ') → b = b'
  old : ∀ b, b < h0.nx → β b = β0 b
  pre : ∀ b x j, At h0 f S b x j → b < h0.nx → ∃ y, h0.tr.get (path b) = some y
  dom : ∀ b y, β b = some y → b < h0.nx ∨ ∃ j, S j = true ∧ nxU h0 f j ≤ b ∧ b < nxU h0 f (j + 1)
  new : ∀ b c κ, h0.nx ≤ b → β b = some (c, κ) → ∀ l, LowB f S h0 l → w0.heap.size ≤ c ∨ ∃ x κ' y, l ≤ x ∧ x < h0.nx ∧ h0.tr.get (path x) = some y ∧ β0 x = some (c, κ')
  os : w.os = w0.os
  tape : w.tape = w0.tape
  output : w.output = w0.output
  size : w0.heap.size ≤ w.heap.size
  kept : ∀ l, LowB f S h0 l → ∀ c, c < w0.heap.size → (∀ b κ x, l ≤ b → h0.tr.get (path b) = some x → β0 b ≠ some (c, κ)) → w.heap[c]? = w0.heap[c]?
  exec : Kn h0 f S
section
variable {ops : List Oper} {bf : List Nat} {cv0 : Cv} {h0 : Hp} {f : Rcs} {N : Nat} {S : Nat → Bool} {β0 : Bt} {w0 : World} {β : Bt} {w : World}
theorem Rg.mono (rg : Rg P ops bf cv0 h0 f N) {i j : Nat} (h : i ≤ j) : nxU h0 f i ≤ nxU h0 f j := nxU_mono rg.rc rg.out j h
theorem Rg.at (rg : Rg P ops bf cv0 h0 f N) {i : Nat} (h : (f i).2.isCalm = false) : ∃ o, ops[i]? = some o := by
  by_cases hi : i < ops.length
  · exact ⟨_, List.getElem?_eq_getElem hi⟩
  · rw [rg.out i (by omega)] at h; cases h
theorem nxU_act {q : Kind} {I O : Hp} {i : Nat} (h : (f i).2 = .act q I O) : nxU h0 f (i + 1) = O.nx := by
  show (f i).2.nx _ = _
  rw [h]; rfl
structure Pt (bf : List Nat) (h0 : Hp) (f : Rcs) : Prop where
  mono : ∀ i j, i ≤ j → nxU h0 f i ≤ nxU h0 f j
  src : ∀ i q I O, (f i).2 = .act q I O → Kn h0 f (ancS bf i) → ∀ b x, I.tr.get (path b) = some x → ∃ j, j ≤ i ∧ At h0 f (ancS bf i) b x j
  ap : ∀ i k, k < i → (f k).2.isCalm = false → (f i).2.isCalm = false → inMask (bf.getD i 0) k = false → ∀ b, (f i).2.has b → (f k).2.has b → (f i).2.wr = false ∧ (f k).2.wr = false
  trs : ∀ i k j, inMask (bf.getD i 0) k = true → inMask (bf.getD k 0) j = true → inMask (bf.getD i 0) j = true
  lt : ∀ i j, inMask (bf.getD i 0) j = true → j < i
theorem Rg.pt (rg : Rg P ops bf cv0 h0 f N) : Pt bf h0 f :=
  ⟨fun i j h => rg.mono h, fun i q I O hi => by obtain ⟨o, ho⟩ := rg.at (i := i) (by rw [hi]; rfl); exact (rg.rc i o ho).src q I O hi,
    fun i k h hk hi => by obtain ⟨o, ho⟩ := rg.at hi; exact (rg.rc i o ho).apart k h hk hi, rg.trs, rg.lt⟩
theorem Pt.apart (pt : Pt bf h0 f) {i k : Nat} (hne : k ≠ i) (hi : (f i).2.isCalm = false) (hk : (f k).2.isCalm = false) (h1 : inMask (bf.getD i 0) k = false) (h2 : inMask (bf.getD k 0) i = false) {b : Nat} (hb : (f i).2.has b) (hb' : (f k).2.has b) : (f i).2.wr = false ∧ (f k).2.wr = false := by
  rcases Nat.lt_or_gt_of_ne hne with h | h
  · exact pt.ap i k h hk hi h1 b hb hb'
  · exact (pt.ap k i h hi hk h2 b hb' hb).symm
theorem Pt.range (pt : Pt bf h0 f) {i k b : Nat} (h1 : nxU h0 f i ≤ b) (h2 : b < nxU h0 f (i + 1)) (h3 : nxU h0 f k ≤ b) (h4 : b < nxU h0 f (k + 1)) : i = k := by
  rcases Nat.lt_trichotomy i k with h | h | h
  · have := pt.mono (i + 1) k h; omega
  · exact h
  · have := pt.mono (k + 1) i h; omega
theorem Kn.sub {A B : Nat → Bool} (kn : Kn h0 f A) (h : ∀ k, B k = true → A k = true) : Kn h0 f B := ⟨kn.h0, fun k hk => kn.ex k (h k hk)⟩
theorem Kn.anc (pt : Pt bf h0 f) {i k : Nat} (kn : Kn h0 f (ancS bf i)) (h : inMask (bf.getD i 0) k = true) : Kn h0 f (ancS bf k) := kn.sub fun j hj => pt.trs i k j h hj
theorem Kn.down {S : Nat → Bool} (kn : Kn h0 f S) (hd : Down bf S) {k : Nat} (h : S k = true) : Kn h0 f (ancS bf k) := kn.sub fun j hj => hd k j h hj
theorem Pt.own (pt : Pt bf h0 f) : ∀ (i k b : Nat), Kn h0 f (ancS bf i) → (f i).2.has b → nxU h0 f k ≤ b → b < nxU h0 f (k + 1) → inMask (bf.getD i 0) k = true := by
  intro i
  induction i using Nat.strongRecOn with
  | _ i ih =>
    intro k b kn hb h1 h2
    cases hk : (f i).2 with
    | calm => rw [hk] at hb; exact hb.elim
    | act q I O =>
      rw [hk] at hb
      obtain ⟨x, hx⟩ := hb
      obtain ⟨j, -, at_⟩ := pt.src i q I O hk kn b x hx
      rcases at_.src with ⟨-, h⟩ | ⟨i', -, hi', hm, -⟩
      · have := kn.h0 b x h
        have := pt.mono 0 k (Nat.zero_le k)
        have e : nxU h0 f 0 = h0.nx := rfl
        omega
      · rcases hm.2 with ⟨-, h⟩ | ⟨h, h'⟩
        · exact pt.trs i i' k hi' (ih i' (pt.lt i i' hi') k b (kn.anc pt hi') h h1 h2)
        · rw [← pt.range h h' h1 h2]; exact hi'
theorem At.own (pt : Pt bf h0 f) (hd : Down bf S) (kn : Kn h0 f S) {b : Nat} {x : Blk} {j k : Nat} (a : At h0 f S b x j) (h1 : nxU h0 f k ≤ b) (h2 : b < nxU h0 f (k + 1)) : S k = true := by
  rcases a.src with ⟨-, h⟩ | ⟨i', -, hi', hm, -⟩
  · have := kn.h0 b x h
    have := pt.mono 0 k (Nat.zero_le k)
    have e : nxU h0 f 0 = h0.nx := rfl
    omega
  · rcases hm.2 with ⟨-, h⟩ | ⟨h, h'⟩
    · exact hd i' k hi' (pt.own i' k b (kn.down hd hi') h h1 h2)
    · rw [← pt.range h h' h1 h2]; exact hi'
theorem Pt.there (pt : Pt bf h0 f) (hd : Down bf S) (kn : Kn h0 f S) {i : Nat} {q : Kind} {I O : Hp} (hi : (f i).2 = .act q I O) (hs : ∀ j, inMask (bf.getD i 0) j = true → S j = true) (hn : S i = false) {b : Nat} {x : Blk} (hb : I.tr.get (path b) = some x) : ∃ j, j ≤ i ∧ At h0 f S b x j := by
  have kni : Kn h0 f (ancS bf i) := kn.sub hs
  obtain ⟨j, hj, a⟩ := pt.src i q I O hi kni b x hb
  have has : (f i).2.has b := by rw [hi]; exact ⟨x, hb⟩
  refine ⟨j, hj, a.src.imp id fun ⟨i', h1, h2, h3⟩ => ⟨i', h1, hs i' h2, h3⟩, fun k hk hS hm => ?_⟩
  cases hm2 : inMask (bf.getD i 0) k with
  | true => exact a.last k hk hm2 hm
  | false =>
    rcases hm.2 with ⟨h1, h2⟩ | ⟨h1, h2⟩
    · have hne : k ≠ i := fun e => by rw [e, hn] at hS; cases hS
      have hki : inMask (bf.getD k 0) i = false := by
        cases h : inMask (bf.getD k 0) i with
        | false => rfl
        | true => rw [hd k i hS h] at hn; cases hn
      have := (pt.apart hne (by rw [hi]; rfl) hm.1 hm2 hki has h2).2
      rw [this] at h1; cases h1
    · rw [pt.own i k b kni has h1 h2] at hm2; cases hm2
theorem Mid.hr (rg : Rg P ops bf cv0 h0 f N) (m : Mid h0 f S β0 w0 β w) {n : Nat} {t : Tr Blk} (ht : ∀ b x, t.get (path b) = some x → ∃ j, At h0 f S b x j ∧ nxU h0 f j ≤ n) {lo : Nat} (hlo : lo ≤ n) : HR (restr β n) (.mk t n lo) w := by
  refine ⟨fun b x hb => ?_, fun b b' x x' c κ κ' hb hb' e e' => ?_, fun b hb => restr_ge hb, hlo⟩
  · obtain ⟨j, a, hj⟩ := ht b x hb
    obtain ⟨h1, cb, κ, h2, h3⟩ := m.blk b x j a
    have hbn : b < n := by omega
    exact ⟨hbn, cb, κ, by rw [restr_lt hbn]; exact h2, h3.mono (restr_mono hj (.refl β))⟩
  · obtain ⟨j, a, -⟩ := ht b x hb
    obtain ⟨j', a', -⟩ := ht b' x' hb'
    exact m.inj b b' x x' j j' c κ κ' a a' (restr_some e).2 (restr_some e').2
end
end Go.Ev
end
section
namespace Go.Ev
variable [Sg] [Sl]
open Go.RowKit
variable {P : Program}
structure Inv (P : Program) (ops : List Oper) (cv0 : Cv) (h0 : Hp) (f : Rcs) (N : Nat) (ds : List Deferred) (β0 : Bt) (w0 : World) (S : Nat → Bool) (β : Bt) (a : Act) (w : World) : Prop where
  inb : ∀ i, S i = true → i < ops.length
  down : ∀ i o e, S i = true → ops[i]? = some o → e ∈ o.after → Region.binds .any e = true → S e.on = true
  mid : Mid h0 f S β0 w0 β w
  cv : ∀ t av, cvS cv0 ops f S ops.length t = some av → con (restr β (nxU h0 f (bdS ops S t ops.length))) av = some (a.tmps.getD t undef)
  size : N ≤ a.tmps.size
  ds : a.defers = ds
structure Rdy (ops : List Oper) (S : Nat → Bool) (i : Nat) (o : Oper) : Prop where
  at_ : ops[i]? = some o
  no : S i = false
  ok : ∀ e ∈ o.after, Region.binds .any e = true → S e.on = true
section
variable {ops : List Oper} {bf : List Nat} {cv0 : Cv} {h0 : Hp} {f : Rcs} {N : Nat} {ds : List Deferred} {S : Nat → Bool} {β0 : Bt} {w0 : World} {β : Bt} {w : World} {a : Act} {i : Nat} {o : Oper}
theorem Rg.below (rg : Rg P ops bf cv0 h0 f N) {S : Nat → Bool} (hd : ∀ i o e, S i = true → ops[i]? = some o → e ∈ o.after → Region.binds .any e = true → S e.on = true) : ∀ (i : Nat) (o : Oper) (j : Nat), ops[i]? = some o → (∀ e ∈ o.after, Region.binds .any e = true → S e.on = true) → inMask (bf.getD i 0) j = true → S j = true := by
  intro i
  induction i using Nat.strongRecOn with
  | _ i ih =>
    intro o j ho hok hm
    obtain ⟨e, he, hb, h⟩ := rg.bfs i o j ho hm
    have hs := hok e he hb
    rcases h with h | h
    · rw [← h]; exact hs
    · have hlt := rg.dn i o e ho he hb
      have hi : i < ops.length := (List.getElem?_eq_some_iff.1 ho).1
      obtain ⟨o', ho'⟩ : ∃ o', ops[e.on]? = some o' := ⟨_, List.getElem?_eq_getElem (by omega)⟩
      exact ih e.on hlt o' j ho' (fun e' he' hb' => hd e.on o' e' hs ho' he' hb') h
theorem Inv.mask (iv : Inv P ops cv0 h0 f N ds β0 w0 S β a w) (rg : Rg P ops bf cv0 h0 f N) (rd : Rdy ops S i o) {j : Nat} (h : inMask (bf.getD i 0) j = true) : S j = true :=
  rg.below iv.down i o j rd.at_ rd.ok h
theorem Inv.mask' (iv : Inv P ops cv0 h0 f N ds β0 w0 S β a w) (rg : Rg P ops bf cv0 h0 f N) {k : Nat} (hk : S k = true) {j : Nat} (h : inMask (bf.getD k 0) j = true) : S j = true := by
  obtain ⟨o, ho⟩ : ∃ o, ops[k]? = some o := ⟨_, List.getElem?_eq_getElem (iv.inb k hk)⟩
  exact rg.below iv.down k o j ho (fun e he hb => iv.down k o e hk ho he hb) h
theorem apartB_left {ops : List Oper} {x y : Oper} {d : Tmp} (h : apartB ops x y = true) (hd : x.dst = some d) : d ∉ readsOf ops y ∧ y.dst ≠ some d := by
  unfold apartB at h
  rw [hd] at h
  dsimp only at h
  rw [Bool.and_eq_true, Bool.and_eq_true] at h
  obtain ⟨⟨h1, h2⟩, -⟩ := h
  refine ⟨fun hm => ?_, by simpa using h2⟩
  simp [hm] at h1
theorem apartB_right {ops : List Oper} {x y : Oper} {d : Tmp} (h : apartB ops x y = true) (hd : y.dst = some d) : d ∉ readsOf ops x := by
  unfold apartB at h
  rw [hd] at h
  dsimp only at h
  rw [Bool.and_eq_true] at h
  intro hm
  have := h.2
  simp [hm] at this
theorem dstAt_some {k : Nat} {t : Tmp} (h : dstAt ops k = some t) : ∃ o, ops[k]? = some o ∧ o.dst = some t := by
  unfold dstAt at h
  exact Option.bind_eq_some_iff.1 h
theorem dstAt_at (h : ops[i]? = some o) : dstAt ops i = o.dst := by unfold dstAt; rw [h]; rfl
theorem Inv.agree (iv : Inv P ops cv0 h0 f N ds β0 w0 S β a w) (rg : Rg P ops bf cv0 h0 f N) (rd : Rdy ops S i o) {t : Tmp} (ht : t ∈ readsOf ops o) : ∀ k, S k ≠ decide (k < i) → dstAt ops k ≠ some t := by
  intro k hk hd
  obtain ⟨y, hy, hyd⟩ := dstAt_some hd
  by_cases hlt : k < i
  · rw [decide_eq_true hlt] at hk
    rcases rg.ap k i y o hlt hy rd.at_ with h | h
    · exact hk (iv.mask rg rd h)
    · exact (apartB_left h hyd).1 ht
  · rw [decide_eq_false hlt] at hk
    have hSk : S k = true := by simpa using hk
    have hne : k ≠ i := fun e => by rw [e, rd.no] at hSk; cases hSk
    rcases rg.ap i k o y (by omega) rd.at_ hy with h | h
    · have := iv.mask' rg hSk h; rw [rd.no] at this; cases this
    · exact apartB_right h hyd ht
theorem Inv.later (iv : Inv P ops cv0 h0 f N ds β0 w0 S β a w) (rg : Rg P ops bf cv0 h0 f N) (rd : Rdy ops S i o) : ∀ k, i < k → S k = true → dstAt ops i ≠ none → dstAt ops k ≠ dstAt ops i := by
  intro k hik hSk hn he
  rw [dstAt_at rd.at_] at hn he
  cases hd : o.dst with
  | none => exact hn hd
  | some d =>
    rw [hd] at he
    obtain ⟨y, hy, hyd⟩ := dstAt_some he
    rcases rg.ap i k o y hik rd.at_ hy with h | h
    · have := iv.mask' rg hSk h; rw [rd.no] at this; cases this
    · exact (apartB_left h hd).2 hyd
noncomputable def cvR (ops : List Oper) (cv : Cv) (o : Oper) : Cv := fun t => if t ∈ readsOf ops o then cv t else none
theorem Inv.reads (iv : Inv P ops cv0 h0 f N ds β0 w0 S β a w) (rg : Rg P ops bf cv0 h0 f N) (rd : Rdy ops S i o) : CvR (restr β (nxU h0 f i)) (cvR ops (cvU cv0 ops f i) o) a.tmps := by
  intro t av ht
  unfold cvR at ht
  split at ht
  · rename_i hm
    have ag := iv.agree rg rd hm
    have hi : i < ops.length := (List.getElem?_eq_some_iff.1 rd.at_).1
    have e := cvS_agree (cv0 := cv0) (f := f) ag ops.length
    rw [show min ops.length i = i by omega] at e
    exact con_mono (restr_mono (rg.mono (bdS_agree ag ops.length)) (.refl β)) (iv.cv t av (e.trans ht))
  · cases ht
theorem opnds_congr {cv cv' : Cv} : ∀ {xs : List Operand}, (∀ t, Operand.tmp t ∈ xs → cv t = cv' t) → opnds P cv xs = opnds P cv' xs
  | [], _ => rfl
  | x :: xs, h => by
    have h1 : opnd P cv x = opnd P cv' x := by
      cases x with
      | tmp t => exact h t (List.mem_cons_self ..)
      | _ => rfl
    have h2 := opnds_congr (xs := xs) (fun t ht => h t (List.mem_cons_of_mem _ ht))
    simp only [opnds, h1, h2]
theorem opnds_reads (cv : Cv) (o : Oper) : opnds P cv o.op.operands.toList = opnds P (cvR ops cv o) o.op.operands.toList :=
  opnds_congr fun t ht => by
    unfold cvR
    rw [if_pos]
    unfold readsOf
    exact List.mem_append_left _ (List.mem_filterMap.2 ⟨_, ht, rfl⟩)
theorem wantedA_reads (cv : Cv) (o : Oper) : wantedA ops cv o = wantedA ops (cvR ops cv o) o := by
  unfold wantedA
  cases hg : o.guard with
  | none => rfl
  | some p =>
    obtain ⟨g, want⟩ := p
    dsimp only
    cases hd : (ops[g]?).bind (·.dst) with
    | none => rfl
    | some d =>
      dsimp only
      have : cvR ops cv o d = cv d := by
        unfold cvR
        rw [if_pos]
        unfold readsOf
        rw [hg]
        dsimp only
        rw [hd]
        exact List.mem_append_right _ (by simp)
      rw [this]
theorem Inv.put (iv : Inv P ops cv0 h0 f N ds β0 w0 S β a w) (rg : Rg P ops bf cv0 h0 f N) (rd : Rdy ops S i o) {β' : Bt} {w' : World} {u : Value} (hl : Le β β')
    (hm : Mid h0 f (addS S i) β0 w0 β' w') (hv : ∀ v, (f i).1 = some v → con (restr β' (nxU h0 f (i + 1))) v = some u) : Inv P ops cv0 h0 f N ds β0 w0 (addS S i) β' (a.put o.dst u) w' := by
  have hi : i < ops.length := (List.getElem?_eq_some_iff.1 rd.at_).1
  have hsub : ∀ k, S k = true → addS S i k = true := fun k h => by unfold addS; rw [h]; rfl
  refine ⟨fun k hk => ?_, fun k o' e hk ho' he hb => ?_, hm, fun t av ht => ?_, by rw [put_size]; exact iv.size, by rw [put_defers]; exact iv.ds⟩
  · unfold addS at hk
    rw [Bool.or_eq_true] at hk
    rcases hk with hk | hk
    · exact iv.inb k hk
    · rw [of_decide_eq_true hk]; exact hi
  · unfold addS at hk
    rw [Bool.or_eq_true] at hk
    rcases hk with hk | hk
    · exact hsub _ (iv.down k o' e hk ho' he hb)
    · have hk := of_decide_eq_true hk
      subst hk
      rw [rd.at_] at ho'; injection ho' with ho'; subst ho'
      exact hsub _ (rd.ok e he hb)
  · rw [cvS_add rd.no (iv.later rg rd) ops.length t, if_pos hi, dstAt_at rd.at_] at ht
    have old : cvS cv0 ops f S ops.length t = some av → o.dst ≠ some t → con (restr β' (nxU h0 f (bdS ops (addS S i) t ops.length))) av = some ((a.put o.dst u).tmps.getD t undef) := fun ht hne => by
      have := con_mono (restr_mono (rg.mono (bdS_mono hsub ops.length)) hl) (iv.cv t av ht)
      rw [this]
      congr 1
      unfold Act.put
      cases hd : o.dst with
      | none => rfl
      | some d =>
        dsimp only
        simp only [Array.getD_eq_getD_getElem?, Array.getElem?_setIfInBounds]
        rw [if_neg (fun x => hne (by rw [hd, x]))]
    unfold updO at ht
    cases hd : o.dst with
    | none => rw [hd] at ht; rw [← hd]; exact old ht (by rw [hd]; simp)
    | some d =>
      rw [hd] at ht
      dsimp only at ht
      by_cases e : t = d
      · subst e
        rw [if_pos rfl] at ht
        have h1 := hv av ht
        have hlt : t < a.tmps.size := Nat.lt_of_lt_of_le (rg.dst i t (by rw [dstAt_at rd.at_, hd])) iv.size
        have hb := bdS_ge (S := addS S i) (ops := ops) (i := i) (t := t) (by unfold addS; simp) (by rw [dstAt_at rd.at_, hd]) ops.length hi
        rw [con_mono (restr_mono (rg.mono hb) (.refl β')) h1]
        simp [Act.put, Array.getD, hlt]
      · rw [if_neg e] at ht
        rw [← hd]
        exact old ht (by rw [hd]; intro x; injection x with x; exact e x.symm)
theorem addS_of {k : Nat} (h : k ≠ i) : addS S i k = S k := by unfold addS; rw [decide_eq_false h, Bool.or_false]
theorem addS_self : addS S i i = true := by unfold addS; simp
theorem Inv.downS (iv : Inv P ops cv0 h0 f N ds β0 w0 S β a w) (rg : Rg P ops bf cv0 h0 f N) : Down bf S := fun k j hk h => iv.mask' rg hk h
theorem LowB.sub {l : Nat} (h : LowB f (addS S i) h0 l) : LowB f S h0 l := ⟨h.1, fun k q I O hk => h.2 k q I O (by unfold addS; rw [hk]; rfl)⟩
theorem At.add (pt : Pt bf h0 f) (hd : Down bf S) (kn : Kn h0 f S) (hs : ∀ j, inMask (bf.getD i 0) j = true → S j = true) (hn : S i = false) {b : Nat} {x : Blk} {j : Nat} (a : At h0 f (addS S i) b x j) :
    (j = i + 1 ∧ May h0 f i b ∧ (f i).2.out b = some x) ∨ (¬ May h0 f i b ∧ At h0 f S b x j) := by
  have hsub : ∀ k, S k = true → addS S i k = true := fun k h => by unfold addS; rw [h]; rfl
  by_cases e : j = i + 1
  · rcases a.src with ⟨h, -⟩ | ⟨i', h1, h2, h3, h4⟩
    · omega
    · obtain rfl : i' = i := by omega
      exact .inl ⟨e, h3, h4⟩
  · right
    have hnm : ¬ May h0 f i b := by
      by_cases hj : j ≤ i
      · exact a.last i hj addS_self
      · rcases a.src with ⟨h, -⟩ | ⟨k, h1, h2, h3, h4⟩
        · omega
        · have hki : k ≠ i := by omega
          rw [addS_of hki] at h2
          intro hm
          have h5 : inMask (bf.getD i 0) k = false := by
            cases h : inMask (bf.getD i 0) k with
            | false => rfl
            | true => have := pt.lt i k h; omega
          have h6 : inMask (bf.getD k 0) i = false := by
            cases h : inMask (bf.getD k 0) i with
            | false => rfl
            | true => rw [hd k i h2 h] at hn; cases hn
          rcases hm.2 with ⟨m1, m2⟩ | ⟨m1, m2⟩ <;> rcases h3.2 with ⟨n1, n2⟩ | ⟨n1, n2⟩
          · have := (pt.apart hki hm.1 h3.1 h5 h6 m2 n2).1
            rw [this] at m1; cases m1
          · rw [pt.own i k b (kn.sub hs) m2 n1 n2] at h5; cases h5
          · rw [pt.own k i b (kn.down hd h2) n2 m1 m2] at h6; cases h6
          · exact hki (pt.range n1 n2 m1 m2)
    refine ⟨hnm, a.src.imp id fun ⟨k, h1, h2, h3⟩ => ⟨k, h1, by rwa [addS_of (by omega)] at h2, h3⟩, fun k hk hS => a.last k hk (hsub k hS)⟩
theorem Mid.calm {w' : World} (rg : Rg P ops bf cv0 h0 f N) (m : Mid h0 f S β0 w0 β w) (hi : (f i).2 = .calm) (he : Ext w w') : Mid h0 f (addS S i) β0 w0 β w' := by
  have hsub : ∀ k, S k = true → addS S i k = true := fun k h => by unfold addS; rw [h]; rfl
  have hnm : ∀ b, ¬ May h0 f i b := fun b h => by have := h.1; rw [hi] at this; cases this
  have back : ∀ {b x j}, At h0 f (addS S i) b x j → At h0 f S b x j := fun {b x j} a => by
    refine ⟨a.src.imp id fun ⟨k, h1, h2, h3⟩ => ⟨k, h1, ?_, h3⟩, fun k hk hS => a.last k hk (hsub k hS)⟩
    by_cases e : k = i
    · rw [e] at h3; exact absurd h3.1 (hnm b)
    · rwa [addS_of e] at h2
  refine ⟨fun b x j a => ?_, fun b b' x x' j j' c κ κ' a a' => m.inj b b' x x' j j' c κ κ' (back a) (back a'), m.old, fun b x j a => m.pre b x j (back a), fun b y e => ?_, fun b c κ hb e l hl => m.new b c κ hb e l hl.sub, he.os.trans m.os, he.tape.trans m.tape, he.output.trans m.output, Nat.le_trans m.size he.size, fun l hl c hc h => ?_, ⟨rg.h0, fun k hk => ?_⟩⟩
  · obtain ⟨h1, cb, κ, h2, h3⟩ := m.blk b x j (back a)
    exact ⟨h1, cb, κ, h2, h3.ext he⟩
  · rcases m.dom b y e with h | ⟨j, h1, h2⟩
    · exact .inl h
    · exact .inr ⟨j, hsub j h1, h2⟩
  · rw [he.block c (Nat.lt_of_lt_of_le hc m.size)]
    exact m.kept l hl.sub c hc h
  · by_cases e : k = i
    · rw [e, hi]; intro q I O h; cases h
    · rw [addS_of e] at hk; exact m.exec.ex k hk
end
end Go.Ev
namespace Go.Ev
variable [Sg] [Sl]
open Go.RowKit
variable {P : Program}
section
variable {ops : List Oper} {bf : List Nat} {cv0 : Cv} {h0 : Hp} {f : Rcs} {N : Nat} {ds : List Deferred} {S : Nat → Bool} {β0 : Bt} {w0 : World} {β : Bt} {w : World} {a : Act} {i : Nat} {o : Oper}
theorem Mid.unused (rg : Rg P ops bf cv0 h0 f N) (m : Mid h0 f S β0 w0 β w) (hn : S i = false) {b : Nat} (h1 : nxU h0 f i ≤ b) (h2 : b < nxU h0 f (i + 1)) : β b = none := by
  cases e : β b with
  | none => rfl
  | some x =>
    rcases m.dom b x e with h | ⟨j, h3, h4, h5⟩
    · have := rg.mono (Nat.zero_le i)
      have e0 : nxU h0 f 0 = h0.nx := rfl
      omega
    · rw [rg.pt.range h4 h5 h1 h2, hn] at h3; cases h3
theorem Mid.find (rg : Rg P ops bf cv0 h0 f N) (m : Mid h0 f S β0 w0 β w) (hd : Down bf S) (hr0 : HR β0 h0 w0) {q : Kind} {I O : Hp} (hi : (f i).2 = .act q I O) (hs : ∀ j, inMask (bf.getD i 0) j = true → S j = true) (hn : S i = false) (hlo : I.lo ≤ nxU h0 f i) : HR (restr β (nxU h0 f i)) I w := by
  obtain ⟨o, ho⟩ := rg.at (i := i) (by rw [hi]; rfl)
  have e : I.nx = nxU h0 f i := ((rg.rc i o ho).act q I O hi).2.1
  have := m.hr rg (n := nxU h0 f i) (t := I.tr) (fun b x hb => by
    obtain ⟨j, hj, a⟩ := rg.pt.there hd m.exec hi hs hn hb
    exact ⟨j, a, rg.mono hj⟩) hlo
  rw [show I = .mk I.tr (nxU h0 f i) I.lo by rw [← e]; cases I; rfl]
  exact this
theorem Mid.step (rg : Rg P ops bf cv0 h0 f N) (m : Mid h0 f S β0 w0 β w) (hd : Down bf S) (hr0 : HR β0 h0 w0) {q : Kind} {I O : Hp} (hi : (f i).2 = .act q I O) (hs : ∀ j, inMask (bf.getD i 0) j = true → S j = true) (hn : S i = false) {β2 : Bt} {w' : World} (s : Stp (restr β (nxU h0 f i)) I w β2 O w') :
    ∃ β', Le β β' ∧ Le β2 (restr β' (nxU h0 f (i + 1))) ∧ Mid h0 f (addS S i) β0 w0 β' w' := by
  obtain ⟨o, ho⟩ := rg.at (i := i) (by rw [hi]; rfl)
  have rc := rg.rc i o ho
  have eI : I.nx = nxU h0 f i := (rc.act q I O hi).2.1
  have eO : O.nx = nxU h0 f (i + 1) := (nxU_act hi).symm
  have e0 : nxU h0 f 0 = h0.nx := rfl
  have h0i := rg.mono (Nat.zero_le i)
  have hii := rg.mono (Nat.le_succ i)
  have hsub : ∀ k, S k = true → addS S i k = true := fun k h => by unfold addS; rw [h]; rfl
  let β' : Bt := fun b => if nxU h0 f i ≤ b ∧ b < nxU h0 f (i + 1) then β2 b else β b
  have in_ : ∀ {b}, nxU h0 f i ≤ b → b < nxU h0 f (i + 1) → β' b = β2 b := fun h1 h2 => if_pos ⟨h1, h2⟩
  have out_ : ∀ {b}, ¬ (nxU h0 f i ≤ b ∧ b < nxU h0 f (i + 1)) → β' b = β b := fun h => if_neg h
  have hl : Le β β' := fun b x e => by
    by_cases hr : nxU h0 f i ≤ b ∧ b < nxU h0 f (i + 1)
    · rw [m.unused rg hn hr.1 hr.2] at e; cases e
    · rw [out_ hr]; exact e
  have low2 : ∀ {b}, b < nxU h0 f i → β2 b = β b := fun {b} h => by rw [s.old b (by omega), restr_lt h]
  have eq2 : ∀ {b}, b < nxU h0 f (i + 1) → β' b = β2 b := fun {b} h => by
    by_cases h1 : nxU h0 f i ≤ b
    · exact in_ h1 h
    · rw [out_ (by omega), low2 (by omega)]
  have hl2 : Le β2 (restr β' (nxU h0 f (i + 1))) := fun b x e => by
    have hlt : b < nxU h0 f (i + 1) := Classical.byContradiction fun h => by rw [s.hr.fresh b (by omega)] at e; cases e
    rw [restr_lt hlt, eq2 hlt]; exact e
  have hdom : DomK (f i).2 := fun q' I' O' h => by
    rw [hi] at h; injection h with h1 h2 h3; subst h1; subst h2; subst h3
    exact ⟨fun b x hx => (s.hr.blk b x hx).1, fun b x hb hx => s.dom b x hb hx, s.lo⟩
  have hasI : ∀ {b x}, I.tr.get (path b) = some x → (f i).2.has b := fun {b x} h => by rw [hi]; exact ⟨x, h⟩
  have outO : ∀ {b}, (f i).2.out b = O.tr.get (path b) := by intro b; rw [hi]; rfl
  have wr_may : ∀ {b x}, I.tr.get (path b) = some x → O.lo ≤ b → May h0 f i b := fun {b x} h hlo => by
    refine ⟨by rw [hi]; rfl, .inl ⟨?_, hasI h⟩⟩
    rw [hi]
    show q.wr = true
    cases hq : q.wr with
    | true => rfl
    | false =>
      have h1 := (rc.lo q I O hi).2.2 hq
      obtain ⟨j, hj, a⟩ := rg.pt.there hd m.exec hi hs hn h
      have := (m.blk b x j a).1
      have := rg.mono hj
      omega
  have stay : ∀ {b x j}, At h0 f S b x j → ¬ May h0 f i b → ∀ {cb κ}, β b = some (cb, κ) → cb < w.heap.size → w'.heap[cb]? = w.heap[cb]? := fun {b x j} a hnm {cb κ} e hcb => by
    refine s.kept.blocks cb hcb fun b2 κ2 x2 hlo hx2 e2 => ?_
    have e2' := (restr_some e2).2
    obtain ⟨j2, hj2, a2⟩ := rg.pt.there hd m.exec hi hs hn hx2
    obtain rfl := m.inj b b2 x x2 j j2 cb κ κ2 a a2 e e2'
    exact hnm (wr_may hx2 hlo)
  have cases_ : ∀ {b x j}, At h0 f (addS S i) b x j → (j = i + 1 ∧ May h0 f i b ∧ O.tr.get (path b) = some x) ∨ (¬ May h0 f i b ∧ At h0 f S b x j) := fun {b x j} a => by
    have := a.add rg.pt hd m.exec hs hn
    rwa [outO] at this
  refine ⟨β', hl, hl2, ⟨fun b x j a => ?_, fun b b' x x' j j' c κ κ' a a' e e' => ?_, fun b hb => ?_, fun b x j a hb => ?_, fun b y e => ?_, fun b c κ hb e l hl => ?_, s.kept.os.trans m.os, s.kept.tape.trans m.tape, s.kept.output.trans m.output, Nat.le_trans m.size s.kept.size, fun l hl c hc h => ?_, ⟨rg.h0, fun k hk => ?_⟩⟩⟩
  · rcases cases_ a with ⟨rfl, -, hx⟩ | ⟨hnm, a⟩
    · obtain ⟨h1, cb, κ, h2, h3⟩ := s.hr.blk b x hx
      rw [eO] at h1
      exact ⟨h1, cb, κ, by rw [eq2 h1]; exact h2, h3.mono hl2⟩
    · obtain ⟨h1, cb, κ, h2, h3⟩ := m.blk b x j a
      refine ⟨h1, cb, κ, hl _ _ h2, ?_⟩
      rw [stay a hnm h2 h3.lt]
      exact h3.mono (restr_mono (Nat.le_refl _) hl)
  · have mixed : ∀ {b b' x x' j' κ κ'}, May h0 f i b → O.tr.get (path b) = some x → ¬ May h0 f i b' → At h0 f S b' x' j' → β' b = some (c, κ) → β' b' = some (c, κ') → b = b' := by
      intro b b' x x' j' κ κ' hm hx hnm a' e e'
      obtain ⟨h1', cb', κ2', h2', h3'⟩ := m.blk b' x' j' a'
      have eb' : β b' = some (c, κ') := by
        have := hl _ _ h2'
        rw [e'] at this
        rw [h2', ← this]
      have hc' : c < w.heap.size := by
        rw [eb'] at h2'; injection h2' with h2'; injection h2' with h4 h5
        rw [h4]; exact h3'.lt
      have hbO : b < nxU h0 f (i + 1) := by rw [← eO]; exact (s.hr.blk b x hx).1
      rw [eq2 hbO] at e
      by_cases hb : b < nxU h0 f i
      · obtain ⟨y, hy⟩ := s.dom b x (by omega) hx
        rw [low2 hb] at e
        obtain ⟨j, -, a⟩ := rg.pt.there hd m.exec hi hs hn hy
        exact m.inj b b' y x' j j' c κ κ' a a' e eb'
      · rcases s.new b c κ (by omega) e with h | ⟨y, κ2, z, h1, h2, h3, h4⟩
        · omega
        · obtain ⟨j, -, a⟩ := rg.pt.there hd m.exec hi hs hn h3
          obtain rfl := m.inj y b' z x' j j' c κ2 κ' a a' (restr_some h4).2 eb'
          exact absurd (wr_may h3 h1) hnm
    rcases cases_ a with ⟨-, hm, hx⟩ | ⟨hnm, a⟩ <;> rcases cases_ a' with ⟨-, hm', hx'⟩ | ⟨hnm', a'⟩
    · have hb : b < nxU h0 f (i + 1) := by rw [← eO]; exact (s.hr.blk b x hx).1
      have hb' : b' < nxU h0 f (i + 1) := by rw [← eO]; exact (s.hr.blk b' x' hx').1
      rw [eq2 hb] at e; rw [eq2 hb'] at e'
      exact s.hr.inj b b' x x' c κ κ' hx hx' e e'
    · exact mixed hm hx hnm' a' e e'
    · exact (mixed hm' hx' hnm a e' e).symm
    · obtain ⟨-, cb, κ2, h2, -⟩ := m.blk b x j a
      obtain ⟨-, cb', κ2', h2', -⟩ := m.blk b' x' j' a'
      have h3 := hl _ _ h2
      have h3' := hl _ _ h2'
      rw [e] at h3; rw [e'] at h3'
      rw [← h3] at h2; rw [← h3'] at h2'
      exact m.inj b b' x x' j j' c κ κ' a a' h2 h2'
  · rw [out_ (by omega)]; exact m.old b hb
  · rcases cases_ a with ⟨rfl, -, hx⟩ | ⟨-, a⟩
    · obtain ⟨y, hy⟩ := s.dom b x (by omega) hx
      obtain ⟨j, -, a⟩ := rg.pt.there hd m.exec hi hs hn hy
      exact m.pre b y j a hb
    · exact m.pre b x j a hb
  · by_cases hr : nxU h0 f i ≤ b ∧ b < nxU h0 f (i + 1)
    · exact .inr ⟨i, addS_self, hr⟩
    · rw [out_ hr] at e
      rcases m.dom b y e with h | ⟨j, h1, h2⟩
      · exact .inl h
      · exact .inr ⟨j, hsub j h1, h2⟩
  · by_cases hr : nxU h0 f i ≤ b ∧ b < nxU h0 f (i + 1)
    · rw [in_ hr.1 hr.2] at e
      rcases s.new b c κ (by omega) e with h | ⟨x, κ2, z, h1, h2, h3, h4⟩
      · exact .inl (Nat.le_trans m.size h)
      · have hlo : l ≤ x := Nat.le_trans (hl.2 i q I O addS_self hi) h1
        have h4' := (restr_some h4).2
        by_cases hx : x < h0.nx
        · obtain ⟨j, -, a⟩ := rg.pt.there hd m.exec hi hs hn h3
          obtain ⟨y, hy⟩ := m.pre x z j a hx
          exact .inr ⟨x, κ2, y, hlo, hx, hy, by rw [← m.old x hx]; exact h4'⟩
        · exact m.new x c κ2 (by omega) h4' l hl.sub
    · rw [out_ hr] at e
      exact m.new b c κ hb e l hl.sub
  · rw [s.kept.blocks c (Nat.lt_of_lt_of_le hc m.size) ?_]
    · exact m.kept l hl.sub c hc h
    · intro b κ x hb hx e
      have e' := (restr_some e).2
      have hlo : l ≤ b := Nat.le_trans (hl.2 i q I O addS_self hi) hb
      by_cases hb0 : b < h0.nx
      · obtain ⟨j, -, a⟩ := rg.pt.there hd m.exec hi hs hn hx
        obtain ⟨y, hy⟩ := m.pre b x j a hb0
        exact h b κ y hlo hy (by rw [← m.old b hb0]; exact e')
      · rcases m.new b c κ (by omega) e' l hl.sub with h1 | ⟨x, κ', y, h1, h2, h3, h4⟩
        · omega
        · exact h x κ' y h1 h3 h4
  · by_cases e : k = i
    · rw [e]; exact hdom
    · rw [addS_of e] at hk; exact m.exec.ex k hk
theorem glob_restr (rg : Rg P ops bf cv0 h0 f N) (hr0 : HR β0 h0 w0) (hg : GlobK P β0) (m : Mid h0 f S β0 w0 β w) (i : Nat) : GlobK P (restr β (nxU h0 f i)) := fun g hlt => by
  obtain ⟨κ, e⟩ := hg g hlt
  have h1 : g < h0.nx := Classical.byContradiction fun h => by rw [hr0.fresh g (by omega)] at e; cases e
  have h2 : h0.nx ≤ nxU h0 f i := rg.mono (i := 0) (Nat.zero_le i)
  exact ⟨κ, by rw [restr_lt (by omega), m.old g h1]; exact e⟩
theorem con_low1 {β : Bt} {n : Nat} : ∀ {v : AV} {u : Value}, con β v = some u → lowA1 n v = true → con (restr β n) v = some u
  | .nat _, _, h, _ => h
  | .u8 _, _, h, _ => h
  | .int _ _, _, h, _ => h
  | .bool _, _, h, _ => h
  | .str _ _, _, h, _ => by simpa [con] using h
  | .raw _, _, h, _ => by simpa [con] using h
  | .ptr b _, _, h, hl => by
    simp only [con, restr_lt (show b < n from Nat.le_of_ble_eq_true hl)] at h ⊢; exact h
  | .slice b _ _ _ _, _, h, hl => by
    simp only [con, restr_lt (show b < n from Nat.le_of_ble_eq_true hl)] at h ⊢; exact h
  | .map b, _, h, hl => by
    simp only [con, restr_lt (show b < n from Nat.le_of_ble_eq_true hl)] at h ⊢; exact h
  | .iface _ _, _, _, hl => by cases hl
  | .agg _, _, _, hl => by cases hl
  | .tup _, _, _, hl => by cases hl
  | .fn f a b, _, h, hl => by
    unfold lowA1 at hl
    split at hl <;> first | (cases hl; done) | skip
    all_goals first | (rename_i e; cases e; done) | (rename_i e; injection e with e1 e2 e3; subst e1; subst e2; subst e3; simpa [con, conL] using h)
  | .sym _, _, _, hl => by cases hl
theorem con_lowL {β : Bt} {n : Nat} : ∀ {l : List AV} {us : List Value}, conL β l = some us → lowL n l = true → conL (restr β n) l = some us
  | [], us, h, _ => by rw [conL_nil h]; rfl
  | x :: xs, us, h, hl => by
    unfold lowL at hl
    rw [Bool.and_eq_true] at hl
    obtain ⟨v, vs, h1, h2, rfl⟩ := conL_cons h
    exact conL_mk (con_low1 h1 hl.1) (con_lowL h2 hl.2)
theorem con_low {β : Bt} {n : Nat} {v : AV} {u : Value} (h : con β v = some u) (hl : lowA n v = true) : con (restr β n) v = some u := by
  cases v <;> first | exact con_low1 h hl | skip
  · rename_i l
    simp only [con, Option.bind_eq_some_iff] at h ⊢
    obtain ⟨us, h1, h2⟩ := h
    exact ⟨us, con_lowL h1 hl, h2⟩
  · rename_i l
    simp only [con, Option.map_eq_some_iff] at h ⊢
    obtain ⟨us, h1, h2⟩ := h
    exact ⟨us, con_lowL h1 hl, h2⟩
theorem loU_le (h : ∀ k, k < i → (f k).2.isBar = true → DomK (f k).2) (rg : Rg P ops bf cv0 h0 f N) : loU h0 f i ≤ h0.lo := by
  induction i with
  | zero => exact Nat.le_refl _
  | succ i ih =>
    have ih := ih fun k hk => h k (by omega)
    refine Nat.le_trans ?_ ih
    show (f i).2.lo (loU h0 f i) ≤ _
    cases hk : (f i).2 with
    | calm => exact Nat.le_refl _
    | act q I O =>
      cases q with
      | bar =>
        obtain ⟨o, ho⟩ := rg.at (i := i) (by rw [hk]; rfl)
        have h1 := (h i (Nat.lt_succ_self i) (by rw [hk]; rfl) .bar I O hk).2.2
        have h2 := ((rg.rc i o ho).lo .bar I O hk).1 rfl
        show O.lo ≤ _
        omega
      | gen => exact Nat.le_refl _
      | mk => exact Nat.le_refl _
      | spot => exact Nat.min_le_left _ _
theorem Inv.step (iv : Inv P ops cv0 h0 f N ds β0 w0 S β a w) (rg : Rg P ops bf cv0 h0 f N) (rd : Rdy ops S i o) (hr0 : HR β0 h0 w0) (hg : GlobK P β0) {arr : Array Oper} (harr : arr.toList = ops) {K : Act → World → Prop} {Q : Exit → Act → World → Prop}
    (hK : ∀ β' a' w', Inv P ops cv0 h0 f N ds β0 w0 (addS S i) β' a' w' → K a' w') : wpOp P arr Q i K a w := by
  have m := iv.mid
  have hd := iv.downS rg
  have hs : ∀ j, inMask (bf.getD i 0) j = true → S j = true := fun j h => iv.mask rg rd h
  have rc := rg.rc i o rd.at_
  have hrd := iv.reads rg rd
  have hga := glob_restr rg hr0 hg m i
  have hat : arr[i]? = some o := by rw [← Array.getElem?_toList, harr]; exact rd.at_
  have hwant : ∀ b, wantedA ops (cvU cv0 ops f i) o = some b → Region.wanted o (yielded arr a.tmps) = b := fun b h => by
    rw [wantedA_reads] at h
    subst harr
    exact wantedA_con hrd h
  have hxs : ∀ xs, opnds P (cvU cv0 ops f i) o.op.operands.toList = some xs → conL (restr β (nxU h0 f i)) xs = some (o.op.operands.toList.map a.eval) := fun xs h => by
    rw [opnds_reads (ops := ops)] at h
    exact opnds_con hrd hga h
  cases hk : (f i).2 with
  | calm =>
    have hnx : nxU h0 f (i + 1) = nxU h0 f i := by show (f i).2.nx _ = _; rw [hk]; rfl
    rcases rc.calm hk with (⟨h1, v, xs, h2, h3, h4⟩ | ⟨h1, h2⟩ | ⟨h1, t, h2, h3⟩) | ⟨h1, v, xs, h2, h3, h5, h6, h7⟩
    · unfold wpOp
      rw [hat]
      dsimp only
      rw [if_pos (hwant true h1)]
      left
      have hr : HR (restr β (nxU h0 f i)) (.mk .leaf (nxU h0 f i) (nxU h0 f i)) w := m.hr rg (fun b x hb => by rw [get_leaf] at hb; cases hb) (Nat.le_refl _)
      refine h4 _ _ w a hr hga (hxs xs h3) K Q fun β2 w' u s hu => ?_
      have he : Ext w w' := s.kept.ext fun b hb => restr_ge hb
      have hl2 : Le β2 (restr β (nxU h0 f i)) := fun b x e => by
        by_cases hb : b < nxU h0 f i
        · rwa [s.old b hb] at e
        · rw [s.hr.fresh b (by show nxU h0 f i ≤ b; omega)] at e; cases e
      exact hK β _ _ (iv.put rg rd (.refl β) (m.calm rg hk he) fun v' e => by
        rw [h2] at e; injection e with e; subst e
        rw [hnx]; exact con_mono hl2 hu)
    · unfold wpOp
      rw [hat]
      dsimp only
      rw [if_neg (by rw [hwant false h1]; simp)]
      exact hK β _ _ (iv.put rg rd (.refl β) (m.calm rg hk (.refl w)) fun v e => by rw [h2] at e; injection e with e; subst e; rfl)
    · unfold wpOp
      rw [hat]
      dsimp only
      rw [if_pos (by unfold Region.wanted; rw [h1])]
      left
      unfold Oper.wp
      rw [exec_move h2]
      show K (a.put o.dst _) w
      refine hK β _ _ (iv.put rg rd (.refl β) (m.calm rg hk (.refl w)) fun v e => ?_)
      rw [hnx]
      refine hrd t v ?_
      unfold cvR
      rw [if_pos]
      · rw [← h3]; exact e
      · unfold readsOf
        rw [h2]
        exact List.mem_append_left _ (List.mem_filterMap.2 ⟨.tmp t, by simp [Op.operands], rfl⟩)
    · obtain ⟨H, ⟨hcb, O, hO1, hO2, h4⟩, hH⟩ := h7 S iv.inb hd m.exec hs rd.no
      have hr : HR (restr β bigN) (.mk H.tr bigN bigN) w := m.hr rg hH (Nat.le_refl _)
      have hmono : Le (restr β (nxU h0 f i)) (restr β bigN) := restr_mono h6 (.refl β)
      have hgb : GlobK P (restr β bigN) := fun g hlt => by
        obtain ⟨κ, e⟩ := hga g hlt
        exact ⟨κ, hmono _ _ e⟩
      unfold wpOp
      rw [hat]
      dsimp only
      rw [if_pos (hwant true h1)]
      left
      refine h4 _ w a hr hgb (conL_mono hmono (hxs xs h3)) K Q fun β2 w' u s hu => ?_
      have he : Ext w w' := s.kept.ext fun b hb => restr_ge (by rw [hO2] at hb; exact hb)
      have hl2 : Le β2 (restr β bigN) := fun b x e => by
        by_cases hb : b < bigN
        · rwa [s.old b hb] at e
        · rw [s.hr.fresh b (by rw [hO1]; omega)] at e; cases e
      exact hK β _ _ (iv.put rg rd (.refl β) (m.calm rg hk he) fun v' e => by
        rw [h2] at e; injection e with e; subst e
        rw [hnx]
        exact con_low (con_mono (hl2.trans (restr_le β bigN)) hu) h5)
  | act q I O =>
    obtain ⟨⟨v, h1, h2, xs, h3, h4, -⟩, -, -⟩ := rc.act q I O hk
    have hlo : I.lo ≤ nxU h0 f i := by
      obtain ⟨g1, g2, -⟩ := rc.lo q I O hk
      by_cases hq : q = .bar
      · rw [g1 hq]
        have := loU_le (i := i) (fun k hki hb => m.exec.ex k (hs k (rg.bars i k (by rw [hk, hq]; rfl) hb hki))) rg
        have := hr0.low
        have := rg.mono (Nat.zero_le i)
        have e : nxU h0 f 0 = h0.nx := rfl
        omega
      · rw [g2 hq]; exact Nat.le_refl _
    unfold wpOp
    rw [hat]
    dsimp only
    rw [if_pos (hwant true h2)]
    left
    refine h4 _ w a (m.find rg hd hr0 hk hs rd.no hlo) hga (hxs xs h3) K Q fun β2 w' u s hu => ?_
    obtain ⟨β', hl, hl2, hm⟩ := m.step rg hd hr0 hk hs rd.no s
    exact hK β' _ _ (iv.put rg rd hl hm fun v' e => by
      rw [h1] at e; injection e with e; subst e
      exact con_mono hl2 hu)
end
end Go.Ev
end
section
namespace Go.Ev
variable [Sg] [Sl]
open Go.RowKit
variable {P : Program}
def cntS (S : Nat → Bool) : Nat → Nat
  | 0 => 0
  | k + 1 => cntS S k + (if S k = true then 0 else 1)
theorem cntS_zero {S : Nat → Bool} : ∀ {n}, cntS S n = 0 → ∀ j, j < n → S j = true
  | 0, _, j, h => by omega
  | n + 1, h, j, hj => by
    unfold cntS at h
    by_cases e : j = n
    · subst e
      cases hs : S j with
      | true => rfl
      | false => rw [hs] at h; simp at h
    · exact cntS_zero (n := n) (S := S) (Nat.eq_zero_of_add_eq_zero_right h) j (by omega)
theorem cntS_add {S : Nat → Bool} {i : Nat} (hi : S i = false) : ∀ n, cntS (addS S i) n + (if i < n then 1 else 0) = cntS S n
  | 0 => rfl
  | n + 1 => by
    have ih := cntS_add hi n
    unfold cntS
    by_cases e : n = i
    · subst e
      rw [addS_self, hi]
      rw [if_neg (Nat.lt_irrefl n)] at ih
      rw [if_pos (Nat.lt_succ_self n), if_pos rfl, if_neg (by simp)]
      omega
    · rw [addS_of e]
      by_cases h : i < n
      · rw [if_pos h] at ih; rw [if_pos (by omega : i < n + 1)]; omega
      · rw [if_neg h] at ih; rw [if_neg (by omega : ¬ i < n + 1)]; omega
theorem cntS_none : ∀ n, cntS (fun _ => false) n = n
  | 0 => rfl
  | n + 1 => by unfold cntS; rw [cntS_none n]; rfl
abbrev ofL (listed : Array Bool) : Nat → Bool := fun j => listed.getD j false
theorem ofL_set {listed : Array Bool} {i : Nat} (h : i < listed.size) : ofL (listed.setIfInBounds i true) = addS (ofL listed) i := by
  funext j
  unfold ofL addS
  simp only [Array.getD_eq_getD_getElem?, Array.getElem?_setIfInBounds]
  by_cases e : i = j
  · subst e; rw [if_pos rfl, if_pos h]; simp
  · rw [if_neg e, decide_eq_false (fun x => e x.symm), Bool.or_false]
section
variable {ops : List Oper} {bf : List Nat} {cv0 : Cv} {h0 : Hp} {f : Rcs} {N : Nat} {ds : List Deferred} {β0 : Bt} {w0 : World}
theorem rdy_of {arr : Array Oper} (harr : arr.toList = ops) {listed : Array Bool} (hsz : listed.size = ops.length) {i : Nat} (h : i ∈ Region.ready .any arr listed) : i < listed.size ∧ ∃ o, Rdy ops (ofL listed) i o := by
  obtain ⟨h1, o, h2, h3⟩ := mem_ready.1 h
  have hat : ops[i]? = some o := by rw [← harr, Array.getElem?_toList]; exact h2
  have hlt : i < listed.size := by rw [hsz]; exact (List.getElem?_eq_some_iff.1 hat).1
  refine ⟨hlt, o, hat, ?_, fun e he hb => h3 e he hb⟩
  simp [Array.getD, hlt] at h1 ⊢
  exact h1
theorem all_of (rg : Rg P ops bf cv0 h0 f N) {arr : Array Oper} (harr : arr.toList = ops) {listed : Array Bool} (hsz : listed.size = ops.length) (h : Region.ready .any arr listed = []) : ∀ j, j < ops.length → ofL listed j = true := by
  intro j
  induction j using Nat.strongRecOn with
  | _ j ih =>
    intro hj
    cases hs : ofL listed j with
    | true => rfl
    | false =>
      obtain ⟨o, ho⟩ : ∃ o, ops[j]? = some o := ⟨_, List.getElem?_eq_getElem hj⟩
      have : j ∈ Region.ready .any arr listed := by
        refine mem_ready.2 ⟨?_, o, by rw [← Array.getElem?_toList, harr]; exact ho, fun e he hb => ?_⟩
        · have hlt : j < listed.size := by omega
          simp [ofL, Array.getD, hlt] at hs ⊢
          exact hs
        · have := rg.dn j o e ho he hb
          exact ih e.on this (by omega)
      rw [h] at this
      cases this
theorem Inv.any (rg : Rg P ops bf cv0 h0 f N) (hr0 : HR β0 h0 w0) (hg : GlobK P β0) {arr : Array Oper} (harr : arr.toList = ops) {Q : Exit → Act → World → Prop}
    (hQ : ∀ S β a w, (∀ j, j < ops.length → S j = true) → Inv P ops cv0 h0 f N ds β0 w0 S β a w → Q .normal a w) : ∀ (fuel : Nat) (listed : Array Bool) (β : Bt) (a : Act) (w : World), listed.size = ops.length → cntS (ofL listed) ops.length ≤ fuel → Inv P ops cv0 h0 f N ds β0 w0 (ofL listed) β a w → wpAny P .any arr Q fuel listed a w
  | 0, listed, β, a, w, hsz, hc, iv => by
    have hall := cntS_zero (show cntS (ofL listed) ops.length = 0 by omega)
    refine ⟨?_, hQ _ β a w hall iv⟩
    cases hr : Region.ready .any arr listed with
    | nil => rfl
    | cons i rs =>
      obtain ⟨h1, o, rd⟩ := rdy_of harr hsz (show i ∈ Region.ready .any arr listed by rw [hr]; exact List.mem_cons_self ..)
      have := hall i (by omega)
      rw [rd.no] at this; cases this
  | fuel + 1, listed, β, a, w, hsz, hc, iv => by
    refine ⟨fun h => hQ _ β a w (all_of rg harr hsz h) iv, fun i hi => ?_⟩
    obtain ⟨h1, o, rd⟩ := rdy_of harr hsz hi
    refine iv.step rg rd hr0 hg harr fun β' a' w' iv' => ?_
    rw [← ofL_set h1] at iv'
    refine Inv.any rg hr0 hg harr hQ fuel _ β' a' w' (by simpa using hsz) ?_ iv'
    rw [ofL_set h1]
    have := cntS_add rd.no ops.length
    rw [if_pos (by omega)] at this
    omega
theorem loU_anti (kn : Kn h0 f (fun k => decide (k < ops.length))) (rg : Rg P ops bf cv0 h0 f N) {c : Nat} : ∀ i, c ≤ i → i ≤ ops.length → loU h0 f i ≤ loU h0 f c
  | 0, h, _ => by rw [show c = 0 by omega]; exact Nat.le_refl _
  | i + 1, h, hi => by
    by_cases e : c = i + 1
    · rw [e]; exact Nat.le_refl _
    · refine Nat.le_trans ?_ (loU_anti kn rg i (by omega) (by omega))
      show (f i).2.lo (loU h0 f i) ≤ _
      cases hk : (f i).2 with
      | calm => exact Nat.le_refl _
      | act q I O =>
        cases q with
        | bar =>
          obtain ⟨o, ho⟩ := rg.at (i := i) (by rw [hk]; rfl)
          have h1 := (kn.ex i (by simp; omega) .bar I O hk).2.2
          have h2 := ((rg.rc i o ho).lo .bar I O hk).1 rfl
          show O.lo ≤ _
          omega
        | gen => exact Nat.le_refl _
        | mk => exact Nat.le_refl _
        | spot => exact Nat.min_le_left _ _
theorem loU_low (kn : Kn h0 f (fun k => decide (k < ops.length))) (rg : Rg P ops bf cv0 h0 f N) (hl0 : h0.lo ≤ h0.nx) {k : Nat} {q : Kind} {I O : Hp} (hk : (f k).2 = .act q I O) (hlt : k < ops.length) : loU h0 f ops.length ≤ O.lo := by
  obtain ⟨o, ho⟩ := rg.at (i := k) (by rw [hk]; rfl)
  have wr : q.wr = false → loU h0 f ops.length ≤ O.lo := fun hq => by
    have h1 := ((rg.rc k o ho).lo q I O hk).2.2 hq
    have h2 := loU_anti kn rg (c := 0) ops.length (Nat.zero_le _) (Nat.le_refl _)
    have h3 := rg.mono (Nat.zero_le k)
    have e1 : loU h0 f 0 = h0.lo := rfl
    have e2 : nxU h0 f 0 = h0.nx := rfl
    omega
  have h2 := loU_anti kn rg (c := k + 1) ops.length hlt (Nat.le_refl _)
  have e : loU h0 f (k + 1) = (f k).2.lo (loU h0 f k) := rfl
  rw [hk] at e
  cases q with
  | bar => rw [e] at h2; exact h2
  | gen => exact wr rfl
  | mk => exact wr rfl
  | spot => rw [e] at h2; exact Nat.le_trans h2 (Nat.min_le_right _ _)
theorem Inv.end_ (rg : Rg P ops bf cv0 h0 f N) (hr0 : HR β0 h0 w0) {S : Nat → Bool} {β : Bt} {a : Act} {w : World} (iv : Inv P ops cv0 h0 f N ds β0 w0 S β a w) (hS : ∀ j, j < ops.length → S j = true) {h' : Hp} (hs : Kn h0 f (fun k => decide (k < ops.length)) → ∀ b x, h'.tr.get (path b) = some x → ∃ j, j ≤ ops.length ∧ At h0 f (fun k => decide (k < ops.length)) b x j) (hn : h'.nx = nxU h0 f ops.length) (hl : h'.lo = loU h0 f ops.length)
    {env' : Tr AV} (he : ∀ t av, env'.get (path t) = some av → cvU cv0 ops f ops.length t = some av) : Post N ds β0 h0 w0 env' h' a w := by
  have eS : S = fun k => decide (k < ops.length) := funext fun k => by
    cases h : S k with
    | true => simp [iv.inb k h]
    | false =>
      by_cases hk : k < ops.length
      · rw [hS k hk] at h; cases h
      · simp [hk]
  have m := iv.mid
  have cvall := cvS_all (cv0 := cv0) (ops := ops) (f := f) hS ops.length (Nat.le_refl _)
  have hcv := iv.cv
  have hsz := iv.size
  have hds := iv.ds
  clear iv hS
  subst eS
  have kn := m.exec
  have hlow : LowB f (fun k => decide (k < ops.length)) h0 h'.lo := ⟨by rw [hl]; exact loU_anti kn rg (c := 0) ops.length (Nat.zero_le _) (Nat.le_refl _), fun k q I O hk hf => by rw [hl]; exact loU_low kn rg hr0.low hf (of_decide_eq_true hk)⟩
  have e0 : nxU h0 f 0 = h0.nx := rfl
  have h0n := rg.mono (Nat.zero_le ops.length)
  have hr : HR (restr β (nxU h0 f ops.length)) h' w := by
    have := m.hr rg (n := nxU h0 f ops.length) (t := h'.tr) (fun b x hb => by
      obtain ⟨j, hj, a⟩ := hs kn b x hb
      exact ⟨j, a, rg.mono hj⟩) (lo := h'.lo) (by have := hlow.1; have := hr0.low; omega)
    rw [show h' = .mk h'.tr (nxU h0 f ops.length) h'.lo by rw [← hn]; cases h'; rfl]
    exact this
  refine ⟨restr β (nxU h0 f ops.length), ⟨hr, by rw [hn]; omega, hlow.1, fun b hb => ?_, fun b x hb hx => ?_, fun b c κ hb e => ?_, ⟨m.os, m.tape, m.output, m.size, fun c hc h => m.kept h'.lo hlow c hc h⟩⟩, hr, fun t av ht => ?_, hsz, hds⟩
  · rw [restr_lt (by omega)]; exact m.old b hb
  · obtain ⟨j, -, a⟩ := hs kn b x hx
    exact m.pre b x j a hb
  · exact m.new b c κ hb (restr_some e).2 h'.lo hlow
  · have := he t av ht
    rw [← cvall] at this
    exact con_mono (restr_mono (rg.mono (bdS_le _)) (.refl β)) (hcv t av this)
theorem cvS_none : ∀ n, cvS cv0 ops f (fun _ => false) n = cv0
  | 0 => rfl
  | n + 1 => by unfold cvS; rw [if_neg (by simp)]; exact cvS_none n
theorem bdS_none (t : Nat) : ∀ n, bdS ops (fun _ => false) t n = 0
  | 0 => rfl
  | n + 1 => by unfold bdS; rw [if_neg (by simp)]; exact bdS_none t n
theorem At.start {b : Nat} {x : Blk} {j : Nat} (a : At h0 f (fun _ => false) b x j) : j = 0 ∧ h0.tr.get (path b) = some x := by
  rcases a.src with h | ⟨i, -, h, -⟩
  · exact h
  · cases h
theorem Inv.start {β0 : Bt} {w0 : World} (hr0 : HR β0 h0 w0) {a : Act} (hc : CvR β0 cv0 a.tmps) (hN : N ≤ a.tmps.size) : Inv P ops cv0 h0 f N a.defers β0 w0 (fun _ => false) β0 a w0 := by
  have le0 : Le β0 (restr β0 (nxU h0 f 0)) := fun b x e => by
    have : b < h0.nx := Classical.byContradiction fun h => by rw [hr0.fresh b (by omega)] at e; cases e
    rw [restr_lt (show b < nxU h0 f 0 from this)]; exact e
  refine ⟨(fun i h => by cases h), (fun i o e h => by cases h), ⟨fun b x j a => ?_, fun b b' x x' j j' c κ κ' a a' => ?_, fun _ _ => rfl, fun b x j a hb => ?_, fun b y e => ?_, fun b c κ hb e => ?_, rfl, rfl, rfl, Nat.le_refl _, (fun _ _ _ _ _ => rfl), ⟨fun b x hb => (hr0.blk b x hb).1, fun k hk => by cases hk⟩⟩, fun t av ht => ?_, hN, rfl⟩
  · obtain ⟨rfl, hx⟩ := a.start
    obtain ⟨h1, cb, κ, h2, h3⟩ := hr0.blk b x hx
    exact ⟨h1, cb, κ, h2, h3.mono le0⟩
  · exact hr0.inj b b' x x' c κ κ' a.start.2 a'.start.2
  · exact ⟨x, a.start.2⟩
  · exact .inl (Classical.byContradiction fun h => by rw [hr0.fresh b (by omega)] at e; cases e)
  · rw [hr0.fresh b hb] at e; cases e
  · rw [cvS_none] at ht
    rw [bdS_none]
    exact con_mono le0 (hc t av ht)
theorem region_any (hm : P.follows .mixedOrders = true) (rg : (∀ b x, h0.tr.get (path b) = some x → b < h0.nx) → Rg P ops bf cv0 h0 f N) {arr : Array Oper} (harr : arr.toList = ops) {h' : Hp} (hs : Kn h0 f (fun k => decide (k < ops.length)) → ∀ b x, h'.tr.get (path b) = some x → ∃ j, j ≤ ops.length ∧ At h0 f (fun k => decide (k < ops.length)) b x j) (hn : h'.nx = nxU h0 f ops.length) (hl : h'.lo = loU h0 f ops.length)
    {env' : Tr AV} (he : ∀ t av, env'.get (path t) = some av → cvU cv0 ops f ops.length t = some av) {β : Bt} {a : Act} {w : World} (hr : HR β h0 w) (hg : GlobK P β) (hc : CvR β cv0 a.tmps) (hN : N ≤ a.tmps.size) (hds : a.defers = ds) (id : Nat) :
    (Code.region id arr true).wp P (fun e a' w' => e = .normal ∧ Post N ds β h0 w env' h' a' w') a w := by
  refine wp_region_any hm ?_
  have s0 : Stp β h0 w β h0 w.drew := drewHR hr
  have rg := rg fun b x hb => (hr.blk b x hb).1
  have hsz : arr.size = ops.length := by rw [← harr]; simp
  have hnone : ofL (Array.replicate arr.size false) = fun _ => false := by
    funext j; unfold ofL
    by_cases h : j < arr.size <;> simp [Array.getD, h]
  subst hds
  refine Inv.any (ds := a.defers) rg s0.hr hg harr (fun S β' a' w' hS iv => ⟨rfl, (iv.end_ rg s0.hr hS hs hn hl he).trans hr s0⟩) arr.size (Array.replicate arr.size false) β a w.drew (by simp [hsz]) ?_ ?_
  · rw [hnone, cntS_none, hsz]; exact Nat.le_refl _
  · rw [hnone]; exact Inv.start s0.hr hc hN
end
end Go.Ev
namespace Go.Ev
variable [Sg] [Sl]
open Go.RowKit
variable {P : Program}
def maskOf (acc : List Nat) (o : Oper) : Nat := o.after.toList.foldl (fun s e => if Region.binds .any e then Nat.lor (orMask s e.on) (acc.getD e.on 0) else s) 0
theorem mask_fold (acc : List Nat) : ∀ (l : List Edge) (s j : Nat), inMask (l.foldl (fun s e => if Region.binds .any e then Nat.lor (orMask s e.on) (acc.getD e.on 0) else s) s) j = true → inMask s j = true ∨ ∃ e ∈ l, Region.binds .any e = true ∧ (e.on = j ∨ inMask (acc.getD e.on 0) j = true)
  | [], s, j, h => .inl h
  | e :: l, s, j, h => by
    rw [List.foldl_cons] at h
    rcases mask_fold acc l _ j h with h | ⟨e', h1, h2⟩
    · split at h
      · rename_i hb
        rw [inMask_lor, inMask_or, Bool.or_eq_true, Bool.or_eq_true] at h
        rcases h with (h | h) | h
        · exact .inl h
        · exact .inr ⟨e, List.mem_cons_self .., hb, .inl (of_decide_eq_true h)⟩
        · exact .inr ⟨e, List.mem_cons_self .., hb, .inr h⟩
      · exact .inl h
    · exact .inr ⟨e', List.mem_cons_of_mem _ h1, h2⟩
theorem mask_keep (acc : List Nat) : ∀ (l : List Edge) (s j : Nat), inMask s j = true → inMask (l.foldl (fun s e => if Region.binds .any e then Nat.lor (orMask s e.on) (acc.getD e.on 0) else s) s) j = true
  | [], s, j, h => h
  | e :: l, s, j, h => by
    rw [List.foldl_cons]
    refine mask_keep acc l _ j ?_
    split
    · rw [inMask_lor, inMask_or, h]; rfl
    · exact h
theorem mask_has (acc : List Nat) : ∀ (l : List Edge) (s : Nat) (e : Edge), e ∈ l → Region.binds .any e = true → inMask (l.foldl (fun s e => if Region.binds .any e then Nat.lor (orMask s e.on) (acc.getD e.on 0) else s) s) e.on = true ∧ ∀ j, inMask (acc.getD e.on 0) j = true → inMask (l.foldl (fun s e => if Region.binds .any e then Nat.lor (orMask s e.on) (acc.getD e.on 0) else s) s) j = true
  | [], s, e, h, _ => by cases h
  | e' :: l, s, e, h, hb => by
    rw [List.foldl_cons]
    rcases List.mem_cons.1 h with rfl | h
    · rw [if_pos hb]
      refine ⟨mask_keep acc l _ _ ?_, fun j hj => mask_keep acc l _ _ ?_⟩
      · rw [inMask_lor, inMask_or]; simp
      · rw [inMask_lor, hj, Bool.or_true]
    · exact mask_has acc l _ e h hb
theorem befores_go : ∀ (l : List Oper) (acc : List Nat), ∃ r, l.foldl (fun (acc : List Nat) o => acc ++ [maskOf acc o]) acc = acc ++ r ∧ r.length = l.length ∧ ∀ i o, l[i]? = some o → r[i]? = some (maskOf (acc ++ r.take i) o)
  | [], acc => ⟨[], by simp, rfl, fun i o h => by simp at h⟩
  | o :: l, acc => by
    obtain ⟨r, h1, h2, h3⟩ := befores_go l (acc ++ [maskOf acc o])
    refine ⟨maskOf acc o :: r, by rw [List.foldl_cons, h1, List.append_assoc]; rfl, by simp [h2], fun i o' h => ?_⟩
    cases i with
    | zero => simp at h; subst h; simp
    | succ i =>
      have := h3 i o' (by simpa using h)
      rw [List.getElem?_cons_succ, this, List.take_succ_cons, List.append_assoc]; rfl
theorem befores_spec (ops : List Oper) : (befores ops).length = ops.length ∧ ∀ i o j, ops[i]? = some o → inMask ((befores ops).getD i 0) j = true → ∃ e ∈ o.after, Region.binds .any e = true ∧ (e.on = j ∨ inMask ((befores ops).getD e.on 0) j = true) := by
  obtain ⟨r, h1, h2, h3⟩ := befores_go ops []
  have e : befores ops = r := h1
  rw [e]
  refine ⟨h2, fun i o j ho hm => ?_⟩
  have hr := h3 i o ho
  rw [List.getD_eq_getElem?_getD, hr] at hm
  rcases mask_fold _ _ _ _ (show inMask (o.after.toList.foldl _ 0) j = true from hm) with h | ⟨e, h4, h5, h6⟩
  · rw [inMask_zero] at h; cases h
  · refine ⟨e, Array.mem_toList_iff.1 h4, h5, h6.imp id fun h => ?_⟩
    rw [List.nil_append, List.getD_eq_getElem?_getD, List.getElem?_take] at h
    split at h
    · rw [List.getD_eq_getElem?_getD]; exact h
    · rw [Option.getD_none, inMask_zero] at h; cases h
theorem befores_edge (ops : List Oper) {i : Nat} {o : Oper} {e : Edge} (ho : ops[i]? = some o) (he : e ∈ o.after) (hb : Region.binds .any e = true) (hlt : e.on < i) : inMask ((befores ops).getD i 0) e.on = true ∧ ∀ j, inMask ((befores ops).getD e.on 0) j = true → inMask ((befores ops).getD i 0) j = true := by
  obtain ⟨r, h1, h2, h3⟩ := befores_go ops []
  have eq : befores ops = r := h1
  rw [eq]
  have hr := h3 i o ho
  rw [List.nil_append] at hr
  have e1 : r.getD i 0 = maskOf (r.take i) o := by rw [List.getD_eq_getElem?_getD, hr]; rfl
  have e2 : (r.take i).getD e.on 0 = r.getD e.on 0 := by rw [List.getD_eq_getElem?_getD, List.getElem?_take, if_pos hlt, ← List.getD_eq_getElem?_getD]
  rw [e1]
  have := mask_has (r.take i) o.after.toList 0 e (Array.mem_toList_iff.2 he) hb
  rw [e2] at this
  exact this
structure Opn (ops : List Oper) (bf : List Nat) : Prop where
  len : bf.length = ops.length
  bfs : ∀ i o j, ops[i]? = some o → inMask (bf.getD i 0) j = true → ∃ e ∈ o.after, Region.binds .any e = true ∧ (e.on = j ∨ inMask (bf.getD e.on 0) j = true)
  dn : ∀ i o e, ops[i]? = some o → e ∈ o.after → Region.binds .any e = true → e.on < i
  edge : ∀ i o e, ops[i]? = some o → e ∈ o.after → Region.binds .any e = true → inMask (bf.getD i 0) e.on = true ∧ ∀ j, inMask (bf.getD e.on 0) j = true → inMask (bf.getD i 0) j = true
  ap : ∀ i j x y, i < j → ops[i]? = some x → ops[j]? = some y → inMask (bf.getD j 0) i = true ∨ apartB ops x y = true
theorem openOk_spec {ops : List Oper} (h : openOk ops (befores ops) = true) : Opn ops (befores ops) := by
  obtain ⟨h1, h2⟩ := befores_spec ops
  unfold openOk at h
  rw [Bool.and_eq_true] at h
  obtain ⟨ha, hb⟩ := h
  have dn : ∀ i o e, ops[i]? = some o → e ∈ o.after → Region.binds .any e = true → e.on < i := fun i o e ho he hbi => by
    have := List.all_eq_true.1 ha (o, i) (List.mem_zipIdx_iff_getElem?.2 ho)
    have := List.all_eq_true.1 this e (Array.mem_toList_iff.2 he)
    rw [hbi] at this
    simpa using this
  refine ⟨h1, h2, dn, fun i o e ho he hbi => befores_edge ops ho he hbi (dn i o e ho he hbi), fun i j x y hij hx hy => ?_⟩
  · have hj : j < (befores ops).length := by rw [h1]; exact (List.getElem?_eq_some_iff.1 hy).1
    have hz : (ops.zip (befores ops))[j]? = some (y, (befores ops)[j]) := List.getElem?_zip_eq_some.2 ⟨hy, List.getElem?_eq_getElem hj⟩
    have := List.all_eq_true.1 hb ((y, (befores ops)[j]), j) (List.mem_zipIdx_iff_getElem?.2 hz)
    have := List.all_eq_true.1 this (x, i) (List.mem_zipIdx_iff_getElem?.2 (by rw [List.getElem?_take, if_pos hij]; exact hx))
    rw [Bool.or_eq_true] at this
    rw [List.getD_eq_getElem?_getD, List.getElem?_eq_getElem hj]
    exact this
theorem Opn.lt {ops : List Oper} {bf : List Nat} (h : Opn ops bf) : ∀ (i : Nat) (o : Oper) (j : Nat), ops[i]? = some o → inMask (bf.getD i 0) j = true → j < i := by
  intro i
  induction i using Nat.strongRecOn with
  | _ i ih =>
    intro o j ho hm
    obtain ⟨e, he, hb, h1⟩ := h.bfs i o j ho hm
    have hlt := h.dn i o e ho he hb
    rcases h1 with h1 | h1
    · omega
    · obtain ⟨o', ho'⟩ : ∃ o', ops[e.on]? = some o' := ⟨_, List.getElem?_eq_getElem (by have := (List.getElem?_eq_some_iff.1 ho).1; omega)⟩
      have := ih e.on hlt o' j ho' h1
      omega
theorem Opn.some {ops : List Oper} {bf : List Nat} (h : Opn ops bf) {i j : Nat} (hm : inMask (bf.getD i 0) j = true) : ∃ o, ops[i]? = some o := by
  by_cases hi : i < ops.length
  · exact ⟨_, List.getElem?_eq_getElem hi⟩
  · rw [List.getD_eq_getElem?_getD, List.getElem?_eq_none (by rw [h.len]; omega), Option.getD_none, inMask_zero] at hm; cases hm
theorem Opn.lt_ {ops : List Oper} {bf : List Nat} (h : Opn ops bf) (i j : Nat) (hm : inMask (bf.getD i 0) j = true) : j < i := by
  obtain ⟨o, ho⟩ := h.some hm
  exact h.lt i o j ho hm
theorem Opn.trs {ops : List Oper} {bf : List Nat} (h : Opn ops bf) : ∀ (i k j : Nat), inMask (bf.getD i 0) k = true → inMask (bf.getD k 0) j = true → inMask (bf.getD i 0) j = true := by
  intro i
  induction i using Nat.strongRecOn with
  | _ i ih =>
    intro k j hik hkj
    obtain ⟨o, ho⟩ := h.some hik
    obtain ⟨e, he, hb, h1⟩ := h.bfs i o k ho hik
    obtain ⟨-, h2⟩ := h.edge i o e ho he hb
    rcases h1 with rfl | h1
    · exact h2 j hkj
    · exact h2 j (ih e.on (h.dn i o e ho he hb) k j h1 hkj)
inductive ClsIs (P : Program) (ops : List Oper) (bf : List Nat) (i : Nat) (o : Oper) (bi : Nat) : Cls → Prop where
  | quiet (h : quietOp P o.op = true) : ClsIs P ops bf i o bi .quiet
  | rd (h : quietOp P o.op = false) (h2 : rdB ops bf i o bi = true) : ClsIs P ops bf i o bi (.rd bi)
  | mk (h : quietOp P o.op = false) (h2 : rdB ops bf i o bi = false) (h3 : mkB P ops bf i o bi = true) : ClsIs P ops bf i o bi (.mk bi)
  | bar (h : quietOp P o.op = false) (h2 : rdB ops bf i o bi = false) (h3 : mkB P ops bf i o bi = false) (h4 : barB P ops bf i bi = true) : ClsIs P ops bf i o bi (.bar bi)
  | spot (h : quietOp P o.op = false) (h2 : rdB ops bf i o bi = false) (h3 : mkB P ops bf i o bi = false) (h4 : barB P ops bf i bi = false) (h5 : stB o = true) (h6 : spotsB P ops bf = true) : ClsIs P ops bf i o bi (.spot bi)
  | free (h : quietOp P o.op = false) (h2 : rdB ops bf i o bi = false) (h3 : mkB P ops bf i o bi = false) (h4 : barB P ops bf i bi = false) (h5 : stB o = false ∨ spotsB P ops bf = false) : ClsIs P ops bf i o bi (.free bi)
theorem cls_is (ops : List Oper) (bf : List Nat) (i : Nat) (o : Oper) (bi : Nat) : ClsIs P ops bf i o bi (clsOf P ops bf i o bi) := by
  unfold clsOf
  cases h1 : quietOp P o.op with
  | true => exact .quiet h1
  | false =>
    rw [if_neg (by simp)]
    cases h2 : rdB ops bf i o bi with
    | true => exact .rd h1 h2
    | false =>
      rw [if_neg (by simp)]
      cases h3 : mkB P ops bf i o bi with
      | true => exact .mk h1 h2 h3
      | false =>
        rw [if_neg (by simp)]
        cases h4 : barB P ops bf i bi with
        | true => exact .bar h1 h2 h3 h4
        | false =>
          rw [if_neg (by simp)]
          cases h5 : stB o with
          | false => exact .free h1 h2 h3 h4 (.inl h5)
          | true =>
            cases h6 : spotsB P ops bf with
            | false => exact .free h1 h2 h3 h4 (.inr h6)
            | true => exact .spot h1 h2 h3 h4 h5 h6
def Cls.held : Cls → Bool
  | .bar _ => true
  | .free _ => true
  | .spot _ => true
  | _ => false
theorem held_is {ops : List Oper} {bf : List Nat} {i : Nat} {o : Oper} {bi : Nat} (h : (clsOf P ops bf i o bi).held = true) : quietOp P o.op = false ∧ rdB ops bf i o bi = false ∧ mkB P ops bf i o bi = false := by
  have := cls_is (P := P) ops bf i o bi
  revert h this
  generalize clsOf P ops bf i o bi = c
  intro h this
  cases this with
  | quiet => cases h
  | rd => cases h
  | mk => cases h
  | bar a b c => exact ⟨a, b, c⟩
  | spot a b c => exact ⟨a, b, c⟩
  | free a b c => exact ⟨a, b, c⟩
theorem cls_bar {ops : List Oper} {bf : List Nat} (hl : bf.length = ops.length) {i : Nat} {o : Oper} {m : Nat} (h : clsOf P ops bf i o (bf.getD i 0) = .bar m) {j : Nat} {y : Oper} (hy : ops[j]? = some y) (hh : (clsOf P ops bf j y (bf.getD j 0)).held = true) (hne : j ≠ i) : inMask (bf.getD j 0) i = true ∨ inMask (bf.getD i 0) j = true := by
  have hi := cls_is (P := P) ops bf i o (bf.getD i 0)
  rw [h] at hi
  cases hi with
  | bar a b c d =>
    obtain ⟨q1, q2, q3⟩ := held_is hh
    have hj : j < bf.length := by rw [hl]; exact (List.getElem?_eq_some_iff.1 hy).1
    have hz : (ops.zip bf)[j]? = some (y, bf[j]) := List.getElem?_zip_eq_some.2 ⟨hy, List.getElem?_eq_getElem hj⟩
    have := List.all_eq_true.1 d ((y, bf[j]), j) (List.mem_zipIdx_iff_getElem?.2 hz)
    dsimp only at this
    have eb : bf.getD j 0 = bf[j] := by rw [List.getD_eq_getElem?_getD, List.getElem?_eq_getElem hj]; rfl
    rw [eb] at q2 q3 ⊢
    rw [q1, q2, q3, show (j == i) = false from by simp [hne]] at this
    simpa using this
theorem cls_spot {ops : List Oper} {bf : List Nat} (hl : bf.length = ops.length) {i : Nat} {o : Oper} {m : Nat} (ho : ops[i]? = some o) (h : clsOf P ops bf i o (bf.getD i 0) = .spot m) {j : Nat} {y : Oper} (hy : ops[j]? = some y) (hh : (clsOf P ops bf j y (bf.getD j 0)).held = true) (hne : j ≠ i) (hns : ∀ m, clsOf P ops bf j y (bf.getD j 0) ≠ .spot m) : inMask (bf.getD j 0) i = true ∨ inMask (bf.getD i 0) j = true := by
  have hi := cls_is (P := P) ops bf i o (bf.getD i 0)
  rw [h] at hi
  cases hi with
  | spot a b c d e g =>
    obtain ⟨q1, q2, q3⟩ := held_is hh
    by_cases hb : ∃ m, clsOf P ops bf j y (bf.getD j 0) = .bar m
    · obtain ⟨m, hb⟩ := hb
      exact (cls_bar hl hb ho (by rw [h]; rfl) (fun e => hne e.symm)).symm
    have hj : j < bf.length := by rw [hl]; exact (List.getElem?_eq_some_iff.1 hy).1
    have hz : (ops.zip bf)[j]? = some (y, bf[j]) := List.getElem?_zip_eq_some.2 ⟨hy, List.getElem?_eq_getElem hj⟩
    have hii : i < bf.length := by rw [hl]; exact (List.getElem?_eq_some_iff.1 ho).1
    have hzi : (ops.zip bf)[i]? = some (o, bf[i]) := List.getElem?_zip_eq_some.2 ⟨ho, List.getElem?_eq_getElem hii⟩
    have ei : bf.getD i 0 = bf[i] := by rw [List.getD_eq_getElem?_getD, List.getElem?_eq_getElem hii]; rfl
    have eb : bf.getD j 0 = bf[j] := by rw [List.getD_eq_getElem?_getD, List.getElem?_eq_getElem hj]; rfl
    have h1 := List.all_eq_true.1 g ((o, bf[i]), i) (List.mem_zipIdx_iff_getElem?.2 hzi)
    dsimp only at h1
    rw [← ei, e, d, Bool.not_true, Bool.false_or, Bool.false_or] at h1
    have h2 := List.all_eq_true.1 h1 ((y, bf[j]), j) (List.mem_zipIdx_iff_getElem?.2 hz)
    dsimp only at h2
    rw [← eb, q1, q2, q3, show (j == i) = false from by simp [hne]] at h2
    have hst : stB y = false := by
      cases hs : stB y with
      | false => rfl
      | true =>
        have hc := cls_is (P := P) ops bf j y (bf.getD j 0)
        revert hc hh hns hb
        generalize clsOf P ops bf j y (bf.getD j 0) = c
        intro hh hns hb hc
        cases hc with
        | quiet => cases hh
        | rd => cases hh
        | mk => cases hh
        | bar => exact absurd ⟨_, rfl⟩ hb
        | spot => exact absurd rfl (hns _)
        | free _ _ _ _ h5 =>
          rcases h5 with h5 | h5
          · rw [hs] at h5; cases h5
          · rw [g] at h5; cases h5
    rw [hst] at h2
    simpa using h2
end Go.Ev
namespace Go.Ev
variable [Sg] [Sl]
open Go.RowKit
variable {P : Program}
noncomputable def layT : List (Nat × Blk) → Tr Blk → Tr Blk
  | [], t => t
  | e :: d, t => layT d (t.set (path e.1) (some e.2))
theorem layK_eq : ∀ (d : List (Nat × Blk)) (t : Tr Blk) (k : Tr Blk → Ans), layK d t k = k (layT d t)
  | [], t, k => rfl
  | e :: d, t, k => by
    show t.setP (path e.1) (some e.2) (fun t => layK d t k) = _
    rw [setP_eq, layK_eq d]; rfl
theorem layT_get : ∀ {d : List (Nat × Blk)} {t : Tr Blk} {b : Nat} {x : Blk}, (layT d t).get (path b) = some x → (b, x) ∈ d ∨ (t.get (path b) = some x ∧ ∀ y, (b, y) ∉ d)
  | [], t, b, x, h => .inr ⟨h, fun y h => by cases h⟩
  | e :: d, t, b, x, h => by
    rcases layT_get (d := d) h with h | ⟨h, hn⟩
    · exact .inl (List.mem_cons_of_mem _ h)
    · rw [get_set] at h
      split at h
      · rename_i hp
        injection h with h
        have := path_inj hp
        exact .inl (by rw [this, ← h]; exact List.mem_cons_self ..)
      · rename_i hp
        refine .inr ⟨h, fun y hy => ?_⟩
        rcases List.mem_cons.1 hy with hy | hy
        · exact hp (by rw [← hy])
        · exact hn y hy
noncomputable def flushT (anc : Nat → Bool) : Frees → Tr Blk → Tr Blk
  | [], t => t
  | e :: fs, t => if anc e.1 = true then layT e.2 (flushT anc fs t) else flushT anc fs t
theorem flushK_eq (anc : Nat → Bool) : ∀ (fs : Frees) (t : Tr Blk) (k : Tr Blk → Ans), flushK fs anc t k = k (flushT anc fs t)
  | [], t, k => rfl
  | e :: fs, t, k => by
    show flushK fs anc t (fun t => cnd (anc e.1) (layK e.2 t k) (k t)) = _
    rw [flushK_eq anc fs t, cnd_eq, layK_eq]
    show _ = k (if anc e.1 = true then layT e.2 (flushT anc fs t) else flushT anc fs t)
    split <;> rfl
theorem flushT_get {anc : Nat → Bool} : ∀ {fs : Frees} {t : Tr Blk} {b : Nat} {x : Blk}, fs.Pairwise (fun a b => b.1 < a.1) → (flushT anc fs t).get (path b) = some x →
    (∃ e ∈ fs, anc e.1 = true ∧ (b, x) ∈ e.2 ∧ ∀ e' ∈ fs, anc e'.1 = true → e.1 < e'.1 → ∀ y, (b, y) ∉ e'.2) ∨ (t.get (path b) = some x ∧ ∀ e ∈ fs, anc e.1 = true → ∀ y, (b, y) ∉ e.2)
  | [], t, b, x, _, h => .inr ⟨h, fun e he => by cases he⟩
  | e :: fs, t, b, x, hs, h => by
    obtain ⟨hs1, hs2⟩ := List.pairwise_cons.1 hs
    have old : (flushT anc fs t).get (path b) = some x → (anc e.1 = true → ∀ y, (b, y) ∉ e.2) → (∃ e' ∈ e :: fs, anc e'.1 = true ∧ (b, x) ∈ e'.2 ∧ ∀ e'' ∈ e :: fs, anc e''.1 = true → e'.1 < e''.1 → ∀ y, (b, y) ∉ e''.2) ∨ (t.get (path b) = some x ∧ ∀ e' ∈ e :: fs, anc e'.1 = true → ∀ y, (b, y) ∉ e'.2) := fun h hn => by
      rcases flushT_get hs2 h with ⟨e', h1, h2, h3, h4⟩ | ⟨h1, h2⟩
      · refine .inl ⟨e', List.mem_cons_of_mem _ h1, h2, h3, fun e'' he'' => ?_⟩
        rcases List.mem_cons.1 he'' with rfl | he''
        · exact fun ha _ => hn ha
        · exact h4 e'' he''
      · refine .inr ⟨h1, fun e' he' => ?_⟩
        rcases List.mem_cons.1 he' with rfl | he'
        · exact hn
        · exact h2 e' he'
    unfold flushT at h
    split at h
    · rename_i ha
      rcases layT_get h with h | ⟨h, hn⟩
      · refine .inl ⟨e, List.mem_cons_self .., ha, h, fun e' he' _ hlt => ?_⟩
        rcases List.mem_cons.1 he' with rfl | he'
        · omega
        · have := hs1 e' he'; omega
      · exact old h fun _ => hn
    · rename_i ha
      exact old h fun h => absurd h ha
noncomputable def flushH (fs : Frees) (h : Hp) : Hp := .mk (flushT (fun _ => true) fs h.tr) h.nx h.lo
theorem flushAll_eq (fs : Frees) (h : Hp) (k : Hp → Ans) : flushAll fs h k = k (flushH fs h) := by
  cases fs with
  | nil => cases h; rfl
  | cons e fs =>
    obtain ⟨t, n, l⟩ := h
    show flushK (e :: fs) (fun _ => true) t (fun t => k (.mk t n l)) = _
    rw [flushK_eq]; rfl
noncomputable def keepT (m : Nat) : Frees → Frees
  | [] => []
  | e :: fs => if inMask m e.1 = true then keepT m fs else e :: keepT m fs
theorem keepFs_eq (m : Nat) : ∀ (fs : Frees) (k : Frees → Ans), keepFs m fs k = k (keepT m fs)
  | [], k => rfl
  | e :: fs, k => by
    show keepFs m fs (fun r => cnd (inMask m e.1) (k r) (k (e :: r))) = _
    rw [keepFs_eq m fs, cnd_eq]
    show _ = k (if inMask m e.1 = true then keepT m fs else e :: keepT m fs)
    split <;> rfl
theorem keepT_mem {m : Nat} {e : Nat × List (Nat × Blk)} : ∀ {fs : Frees}, e ∈ keepT m fs ↔ e ∈ fs ∧ inMask m e.1 = false
  | [] => by simp [keepT]
  | a :: fs => by
    unfold keepT
    have ih := keepT_mem (m := m) (e := e) (fs := fs)
    split
    · rename_i h
      rw [ih, List.mem_cons]
      constructor
      · exact fun h => ⟨.inr h.1, h.2⟩
      · rintro ⟨rfl | h1, h2⟩
        · rw [h] at h2; cases h2
        · exact ⟨h1, h2⟩
    · rename_i h
      rw [List.mem_cons, List.mem_cons, ih]
      constructor
      · rintro (rfl | h1)
        · exact ⟨.inl rfl, by simpa using h⟩
        · exact ⟨.inr h1.1, h1.2⟩
      · rintro ⟨rfl | h1, h2⟩
        · exact .inl rfl
        · exact .inr ⟨h1, h2⟩
theorem keepT_srt {m : Nat} : ∀ {fs : Frees}, fs.Pairwise (fun a b => b.1 < a.1) → (keepT m fs).Pairwise (fun a b => b.1 < a.1)
  | [], _ => List.Pairwise.nil
  | a :: fs, h => by
    obtain ⟨h1, h2⟩ := List.pairwise_cons.1 h
    unfold keepT
    split
    · exact keepT_srt h2
    · exact List.pairwise_cons.2 ⟨fun b hb => h1 b (keepT_mem.1 hb).1, keepT_srt h2⟩
theorem flushBar_eq (m : Nat) (fs : Frees) (h : Hp) (k : Hp → Frees → Ans) : flushBar m fs h k = k (.mk (flushT (fun j => inMask m j) fs h.tr) h.nx h.lo) (keepT m fs) := by
  cases fs with
  | nil => cases h; rfl
  | cons e fs =>
    obtain ⟨t, n, l⟩ := h
    show flushK (e :: fs) (fun j => inMask m j) t (fun t => keepFs m (e :: fs) fun r => k (.mk t n l) r) = _
    rw [flushK_eq, keepFs_eq]; rfl
noncomputable def newsT (t : Tr Blk) : Nat → Nat → List (Nat × Blk)
  | _, 0 => []
  | n, m + 1 => match t.get (path n) with
    | none => newsT t (n + 1) m
    | some b => (n, b) :: newsT t (n + 1) m
theorem newsK_go (t : Tr Blk) : ∀ (m n : Nat) (k : List (Nat × Blk) → Ans), (Nat.rec (motive := fun _ => Nat → (List (Nat × Blk) → Ans) → Ans) (fun _ k => k [])
    (fun _ ih n k => fNat (Nat.succ n) fun n' => ih n' fun r => t.getP (path n) (k r) fun b => k ((n, b) :: r)) m n k : Ans) = k (newsT t n m)
  | 0, n, k => rfl
  | m + 1, n, k => by
    show fNat (Nat.succ n) _ = _
    rw [fNat_eq]
    refine (newsK_go t m (n + 1) _).trans ?_
    rw [getP_eq]
    show _ = k (match t.get (path n) with | none => newsT t (n + 1) m | some b => (n, b) :: newsT t (n + 1) m)
    cases t.get (path n) <;> rfl
theorem newsK_eq (t : Tr Blk) (n m : Nat) (k : List (Nat × Blk) → Ans) : newsK t n m k = k (newsT t n (m - n)) := newsK_go t (m - n) n k
theorem newsT_mem {t : Tr Blk} : ∀ {m n : Nat} {b : Nat} {x : Blk}, (b, x) ∈ newsT t n m → n ≤ b ∧ b < n + m ∧ t.get (path b) = some x
  | 0, n, b, x, h => by simp [newsT] at h
  | m + 1, n, b, x, h => by
    unfold newsT at h
    cases hg : t.get (path n) with
    | none => rw [hg] at h; have := newsT_mem (m := m) h; exact ⟨by omega, by omega, this.2.2⟩
    | some y =>
      rw [hg] at h
      rcases List.mem_cons.1 h with h | h
      · injection h with h1 h2; subst h1; subst h2; exact ⟨Nat.le_refl _, by omega, hg⟩
      · have := newsT_mem (m := m) h; exact ⟨by omega, by omega, this.2.2⟩
theorem isBar_bare (keep : Nat) (o : Oper) (D : Dl) (now : Nat) : isBar (bareCO P keep o D now) = false := by
  unfold bareCO
  split <;> try rfl
  unfold bareOf
  split <;> rfl
theorem isRd_bare (keep : Nat) (o : Oper) (D : Dl) (now : Nat) : isRd (bareCO P keep o D now) = false := by
  unfold bareCO
  split <;> try rfl
  unfold bareOf
  split <;> rfl
theorem runFree_cons (callf : CallF) (o : CO) (os : List CO) (L : List AV) (env : Tr AV) (h : Hp) (fs : Frees) (Hs : List (Nat × Hp)) (Rs : Rds) (k : Tr AV → Hp → Ans) : runFree callf (o :: os) L env h fs Hs Rs k =
    if isBar o = true then doCO callf o L env (.mk (flushT (fun j => inMask (barM o) j) fs h.tr) h.nx h.lo) [] (fun d v h _ => allRs (barM o) Rs h fun Rs => runFree callf os (v :: L) (putE d v env) h (keepT (barM o) fs) ((barIx o, h) :: Hs) Rs k) else
    if isRd o = true then doCO callf o L env h fs (fun d v h fs => allHs (rdM o) Hs (chkRd callf o L env v) (runFree callf os (v :: L) (putE d v env) h fs Hs ((rdIx o, chkRd callf o L env v) :: Rs) k)) else
    if spotQ o = true then doCO callf o L env h fs (fun d v h fs => spotH fs Hs fun H Hs => chkRs (spotM o) Rs H (runFree callf os (v :: L) (putE d v env) h fs Hs Rs k)) else
    doCO callf o L env h fs (fun d v h fs => runFree callf os (v :: L) (putE d v env) h fs Hs Rs k) := by
  show cnd (isBar o) (flushBar (barM o) fs h fun h fs => doCO callf o L env h [] fun d v h _ => allRs (barM o) Rs h fun Rs => putEnv d v env fun env => runFree callf os (v :: L) env h fs ((barIx o, h) :: Hs) Rs k) (cnd (isRd o) (doCO callf o L env h fs fun d v h fs => allHs (rdM o) Hs (chkRd callf o L env v) (putEnv d v env fun env2 => runFree callf os (v :: L) env2 h fs Hs ((rdIx o, chkRd callf o L env v) :: Rs) k)) (cnd (spotQ o) (doCO callf o L env h fs fun d v h fs => spotH fs Hs fun H Hs => chkRs (spotM o) Rs H (putEnv d v env fun env => runFree callf os (v :: L) env h fs Hs Rs k)) (doCO callf o L env h fs fun d v h fs => putEnv d v env fun env => runFree callf os (v :: L) env h fs Hs Rs k))) = _
  rw [cnd_eq, cnd_eq, cnd_eq, flushBar_eq]
  simp only [putEnv_eq]
theorem spotQ_bare (keep : Nat) (o : Oper) (D : Dl) (now : Nat) : spotQ (bareCO P keep o D now) = false := by
  unfold bareCO
  split <;> try rfl
  unfold bareOf
  split <;> rfl
theorem isRd_mk {ops : List Oper} {keep : Nat} {o : Oper} {D : Dl} {now : Nat} {cls : Cls} {i : Nat} (h : ∀ m, cls ≠ .rd m) : isRd (mkCO P ops keep o D now cls i) = false := by
  unfold mkCO
  split
  · cases cls with
    | quiet => exact isRd_bare keep o D now
    | bar m => rfl
    | free anc => rfl
    | mk anc => rfl
    | spot anc => rfl
    | rd m => exact absurd rfl (h m)
  · split <;> rfl
theorem spotQ_mk {ops : List Oper} {keep : Nat} {o : Oper} {D : Dl} {now : Nat} {cls : Cls} {i : Nat} (h : ∀ m, cls ≠ .spot m) : spotQ (mkCO P ops keep o D now cls i) = false := by
  unfold mkCO
  split
  · cases cls with
    | quiet => exact spotQ_bare keep o D now
    | bar m => rfl
    | free anc => rfl
    | mk anc => rfl
    | spot anc => exact absurd rfl (h anc)
    | rd m => rfl
  · split <;> rfl
theorem isBar_mk {ops : List Oper} {keep : Nat} {o : Oper} {D : Dl} {now : Nat} {cls : Cls} {i : Nat} : ((∀ m, cls ≠ .bar m) → isBar (mkCO P ops keep o D now cls i) = false) ∧ (∀ m, cls = .bar m → (isBar (mkCO P ops keep o D now cls i) = true ∧ barM (mkCO P ops keep o D now cls i) = m ∧ barIx (mkCO P ops keep o D now cls i) = i) ∨ mkCO P ops keep o D now cls i = .bad 182) := by
  have h1 : (∀ m, cls ≠ .bar m) → isBar (clCO cls i (bareCO P keep o D now)) = false := fun h => by
    cases cls with
    | quiet => exact isBar_bare keep o D now
    | bar m => exact absurd rfl (h m)
    | free anc => rfl
    | mk anc => rfl
    | spot anc => rfl
    | rd m => rfl
  unfold mkCO
  split
  · exact ⟨h1, fun m h => by subst h; exact .inl ⟨rfl, rfl, rfl⟩⟩
  · split
    · exact ⟨h1, fun m h => by subst h; exact .inl ⟨rfl, rfl, rfl⟩⟩
    · exact ⟨fun _ => rfl, fun _ _ => .inr rfl⟩
theorem new_yes {callf : CallF} (hcall : CallSound P callf) {keep : Nat} {o : Oper} {D : Dl} {now : Nat} {L : List AV} {env : Tr AV} {cv : Cv} (hl : Loc P D now L env cv) {t' : Tr Blk} {i : Nat} {t : Tr Blk} {n low : Nat} {fs : Frees} {k : Option Pa → AV → Hp → Frees → Ans}
    (H : doCO.newK t' i t n low fs (fun h' kk => doCO callf (bareCO P keep o D now) L env h' [] fun d v h _ => kk v h fun h fs => k d v h fs) = .yes) :
    ∃ v O, Acts P o cv (.mk t' n n) v O ∧ O.lo = n ∧ n ≤ O.nx ∧ k (dstP keep o) v (.mk t O.nx low) ((i, newsT O.tr n (O.nx - n)) :: fs) = .yes := by
  obtain ⟨v, O, H1, ha⟩ := bare_yes hcall hl H
  obtain ⟨t'', n', low'⟩ := O
  dsimp only at H1
  obtain ⟨h1, H2⟩ := cnd_yes H1
  obtain ⟨h2, H3⟩ := cnd_yes H2
  rw [newsK_eq] at H3
  exact ⟨v, _, ha, Nat.eq_of_beq_eq_true h1, Nat.le_of_ble_eq_true h2, H3⟩
theorem mkCO_free {callf : CallF} (hcall : CallSound P callf) {keep : Nat} {ops : List Oper} {o : Oper} {anc i : Nat} {cls : Cls} {t' : Frees → Tr Blk → Tr Blk} (hcls : (cls = .free anc ∧ t' = fun fs t => flushT (fun j => inMask anc j) fs t) ∨ (cls = .mk anc ∧ t' = fun _ _ => .leaf)) {D : Dl} {now : Nat} {L : List AV} {env : Tr AV} {cv : Cv} (hl : Loc P D now L env cv) {h : Hp} {fs : Frees} {k : Option Pa → AV → Hp → Frees → Ans}
    (H : doCO callf (mkCO P ops keep o D now cls i) L env h fs k = .yes) :
    (∃ v O, wantedA ops cv o = some true ∧ Acts P o cv (.mk (t' fs h.tr) h.nx h.nx) v O ∧ O.lo = h.nx ∧ h.nx ≤ O.nx ∧ k (dstP keep o) v (.mk h.tr O.nx h.lo) ((i, newsT O.tr h.nx (O.nx - h.nx)) :: fs) = .yes) ∨
    (wantedA ops cv o = some false ∧ k (dstP keep o) (.tup []) h fs = .yes) := by
  have hb : doCO callf (clCO cls i (bareCO P keep o D now)) L env h fs k = .yes → ∃ v O, Acts P o cv (.mk (t' fs h.tr) h.nx h.nx) v O ∧ O.lo = h.nx ∧ h.nx ≤ O.nx ∧ k (dstP keep o) v (.mk h.tr O.nx h.lo) ((i, newsT O.tr h.nx (O.nx - h.nx)) :: fs) = .yes := fun H => by
    obtain ⟨t, n, low⟩ := h
    rcases hcls with ⟨rfl, rfl⟩ | ⟨rfl, rfl⟩
    · replace H : flushK fs (fun j => inMask anc j) t (fun t' => doCO.newK t' i t n low fs (fun h' kk => doCO callf (bareCO P keep o D now) L env h' [] fun d v h _ => kk v h fun h fs => k d v h fs)) = .yes := H
      rw [flushK_eq] at H
      exact new_yes hcall hl H
    · exact new_yes hcall hl (t' := .leaf) H
  unfold mkCO at H
  split at H
  · rename_i hg
    obtain ⟨v, O, h1, h2, h3, h4⟩ := hb H
    exact .inl ⟨v, O, by unfold wantedA; rw [hg], h1, h2, h3, h4⟩
  · rename_i g want hg
    split at H
    · rename_i d hd
      replace H : rfK (resolveD D now d) L env (fun v => doCO.onGuard v want (doCO callf (clCO cls i (bareCO P keep o D now)) L env h fs k) (k (dstP keep o) (.tup []) h fs)) = .yes := H
      obtain ⟨x, H1, hx⟩ := rfK_yes H
      have hcx := hl.res d x hx
      have hw : wantedA ops cv o = wantV want x := by
        unfold wantedA
        rw [hg]
        dsimp only
        rw [hd]
        dsimp only
        rw [hcx]
        cases x <;> rfl
      unfold doCO.onGuard at H1
      split at H1
      · rename_i b
        rw [cnd_eq] at H1
        split at H1
        · rename_i hbw
          obtain ⟨v, O, h1, h2, h3, h4⟩ := hb H1
          exact .inl ⟨v, O, by rw [hw]; show some (b == want) = _; rw [hbw], h1, h2, h3, h4⟩
        · rename_i hbw
          exact .inr ⟨by rw [hw]; show some (b == want) = _; rw [Bool.eq_false_iff.2 hbw], H1⟩
      · exact .inr ⟨by rw [hw]; rfl, H1⟩
      · cases H1
    · cases H
theorem apartK_yes {anc b : Nat} {x : Ans} : ∀ {fs : Frees}, doCO.apartK fs anc b x = .yes → x = .yes ∧ ∀ e ∈ fs, inMask anc e.1 = false → ∀ y, (b, y) ∉ e.2
  | [], h => ⟨h, fun e he => by cases he⟩
  | e :: fs, h => by
    have inner : ∀ (l : List (Nat × Blk)) (z : Ans), (List.rec (motive := fun _ => Ans) z (fun d _ ih2 => cnd (Nat.beq d.1 b) (.no 1541) ih2) l : Ans) = .yes → z = .yes ∧ ∀ y, (b, y) ∉ l := by
      intro l
      induction l with
      | nil => intro z h; exact ⟨h, fun y hy => by cases hy⟩
      | cons d l ih =>
        intro z h
        replace h : cnd (Nat.beq d.1 b) (.no 1541) (List.rec (motive := fun _ => Ans) z (fun d _ ih2 => cnd (Nat.beq d.1 b) (.no 1541) ih2) l) = .yes := h
        rw [cnd_eq] at h
        split at h
        · cases h
        · rename_i hne
          obtain ⟨h1, h2⟩ := ih z h
          refine ⟨h1, fun y hy => ?_⟩
          rcases List.mem_cons.1 hy with hy | hy
          · exact hne (by rw [← hy]; exact Nat.beq_refl b)
          · exact h2 y hy
    replace h : cnd (inMask anc e.1) (doCO.apartK fs anc b x) (List.rec (motive := fun _ => Ans) (doCO.apartK fs anc b x) (fun d _ ih2 => cnd (Nat.beq d.1 b) (.no 1541) ih2) e.2) = .yes := h
    rw [cnd_eq] at h
    split at h
    · rename_i ha
      obtain ⟨h1, h2⟩ := apartK_yes h
      refine ⟨h1, fun e' he' => ?_⟩
      rcases List.mem_cons.1 he' with rfl | he'
      · intro hn; rw [ha] at hn; cases hn
      · exact h2 e' he'
    · obtain ⟨h1, h2⟩ := inner e.2 _ h
      obtain ⟨h3, h4⟩ := apartK_yes h1
      refine ⟨h3, fun e' he' => ?_⟩
      rcases List.mem_cons.1 he' with rfl | he'
      · exact fun _ => h2
      · exact h4 e' he'
theorem mkCO_spot {callf : CallF} (hcall : CallSound P callf) {keep : Nat} {ops : List Oper} {o : Oper} {anc i : Nat} (hg : o.guard = none) {D : Dl} {now : Nat} {L : List AV} {env : Tr AV} {cv : Cv} (hl : Loc P D now L env cv) {h : Hp} {fs : Frees} {k : Option Pa → AV → Hp → Frees → Ans}
    (H : doCO callf (mkCO P ops keep o D now (.spot anc) i) L env h fs k = .yes) :
    ∃ v b blk blk' O, (flushT (fun j => inMask anc j) fs h.tr).get (path b) = some blk ∧ Acts P o cv (.mk (Tr.leaf.set (path b) (some blk)) h.nx h.nx) v O ∧ O.nx = h.nx ∧ O.lo = b ∧ O.tr.get (path b) = some blk' ∧ (∀ e ∈ fs, inMask anc e.1 = false → ∀ y, (b, y) ∉ e.2) ∧
      k (dstP keep o) v (.mk h.tr h.nx (min h.lo b)) ((i, [(b, blk')]) :: fs) = .yes := by
  obtain ⟨t, n, low⟩ := h
  have e : mkCO P ops keep o D now (.spot anc) i = .free 2 i anc (bareCO P keep o D now) := by unfold mkCO; rw [hg]; rfl
  rw [e] at H
  replace H : flushK fs (fun j => inMask anc j) t (fun t' => doCO.spotK t' i anc t n low fs (fun h' kk => doCO callf (bareCO P keep o D now) L env h' [] fun d v h _ => kk v h fun h fs => k d v h fs)) = .yes := H
  rw [flushK_eq] at H
  obtain ⟨v1, O1, H1, -⟩ := bare_yes hcall hl H
  obtain ⟨t1, n1, b⟩ := O1
  replace H1 : (flushT (fun j => inMask anc j) fs t).getP (path b) (.no 157) (fun blk => Tr.setP (path b) (some blk) .leaf fun s => doCO callf (bareCO P keep o D now) L env (.mk s n n) [] fun d v h' _ => match h' with
    | .mk t'' n' low' => cnd (Nat.beq n' n) (cnd (Nat.beq low' b) (t''.getP (path b) (.no 159) fun blk' => doCO.apartK fs anc b (natMin low b fun low => k d v (.mk t n low) ((i, [(b, blk')]) :: fs))) (.no 158)) (.no 1561)) = .yes := H1
  rw [getP_eq] at H1
  cases hb : (flushT (fun j => inMask anc j) fs t).get (path b) with
  | none => rw [hb] at H1; cases H1
  | some blk =>
    rw [hb] at H1
    dsimp only at H1
    rw [setP_eq] at H1
    obtain ⟨v, O, H2, ha⟩ := bare_yes hcall hl H1
    obtain ⟨t'', n', low'⟩ := O
    dsimp only at H2
    obtain ⟨h1, H3⟩ := cnd_yes H2
    obtain ⟨h2, H4⟩ := cnd_yes H3
    rw [getP_eq] at H4
    cases hb' : t''.get (path b) with
    | none => rw [hb'] at H4; cases H4
    | some blk' =>
      rw [hb'] at H4
      dsimp only at H4
      obtain ⟨H5, h3⟩ := apartK_yes H4
      rw [natMin_eq] at H5
      exact ⟨v, b, blk, blk', _, hb, ha, Nat.eq_of_beq_eq_true h1, Nat.eq_of_beq_eq_true h2, hb', h3, H5⟩
theorem eqNs_eq : ∀ {l m : List Nat}, eqNs l m = true → l = m
  | [], [], _ => rfl
  | [], _ :: _, h => by cases h
  | _ :: _, [], h => by cases h
  | x :: xs, y :: ys, h => by
    unfold eqNs at h
    rw [Bool.and_eq_true] at h
    rw [Nat.eq_of_beq_eq_true h.1, eqNs_eq h.2]
theorem eqA1_eq {a b : AV} (h : eqA1 a b = true) : a = b := by
  unfold eqA1 at h
  split at h <;> first | (cases h; done) | rfl | skip
  · rw [Nat.eq_of_beq_eq_true h]
  · rw [Nat.eq_of_beq_eq_true h]
  · rw [eq_of_beq h]
  · rw [Bool.and_eq_true] at h
    rw [Nat.eq_of_beq_eq_true h.1, eqNs_eq h.2]
  · rw [Bool.and_eq_true] at h
    rw [of_decide_eq_true h.1, of_decide_eq_true h.2]
  · rw [Nat.eq_of_beq_eq_true h]
  · rw [Bool.and_eq_true] at h
    rw [Nat.eq_of_beq_eq_true h.1, Nat.eq_of_beq_eq_true h.2]
  · rw [Bool.and_eq_true] at h
    rw [Nat.eq_of_beq_eq_true h.1, Nat.eq_of_beq_eq_true h.2]
  · simp only [Bool.and_eq_true] at h
    obtain ⟨⟨⟨⟨h1, h2⟩, h3⟩, h4⟩, h5⟩ := h
    rw [Nat.eq_of_beq_eq_true h1, Nat.eq_of_beq_eq_true h2, Nat.eq_of_beq_eq_true h3, eq_of_beq h4, Nat.eq_of_beq_eq_true h5]
  · rw [Nat.eq_of_beq_eq_true h]
theorem eqAL_eq : ∀ {l m : List AV}, eqAL l m = true → l = m
  | [], [], _ => rfl
  | [], _ :: _, h => by cases h
  | _ :: _, [], h => by cases h
  | x :: xs, y :: ys, h => by
    unfold eqAL at h
    rw [Bool.and_eq_true] at h
    rw [eqA1_eq h.1, eqAL_eq h.2]
theorem eqA_eq {a b : AV} (h : eqA a b = true) : a = b := by
  unfold eqA at h
  split at h
  · rw [eqAL_eq h]
  · rw [eqAL_eq h]
  · exact eqA1_eq h
theorem rdB_guard {ops : List Oper} {bf : List Nat} {j : Nat} {y : Oper} {bj : Nat} (h : rdB ops bf j y bj = true) : y.guard = none := by
  unfold rdB at h
  rw [Bool.and_eq_true, Bool.and_eq_true] at h
  exact Option.isNone_iff_eq_none.1 h.1.2
theorem rdCO_yes {callf : CallF} (hcall : CallSound P callf) {keep m : Nat} {ops : List Oper} {o : Oper} {i : Nat} (hg : o.guard = none) {D : Dl} {now : Nat} {L : List AV} {env : Tr AV} {cv : Cv} (hl : Loc P D now L env cv) {h : Hp} {fs : Frees} {k : Option Pa → AV → Hp → Frees → Ans}
    (H : doCO callf (mkCO P ops keep o D now (.rd m) i) L env h fs k = .yes) : ∃ v xs, k (dstP keep o) v h fs = .yes ∧ opnds P cv o.op.operands.toList = some xs ∧ lowA h.nx v = true ∧ ReadIn P o xs v h := by
  obtain ⟨t, n, low⟩ := h
  have e : mkCO P ops keep o D now (.rd m) i = .rd i m (bareCO P keep o D now) := by unfold mkCO; rw [hg]; rfl
  rw [e] at H
  replace H : doCO callf (bareCO P keep o D now) L env (.mk t bigN bigN) [] (fun d v h' _ => doCO.sameBig h' (doCO.lowOk v (.mk t n low) (k d v (.mk t n low) fs))) = .yes := H
  obtain ⟨v, O, H1, xs, hx, ho, -⟩ := bare_yes hcall hl H
  obtain ⟨t', n', l'⟩ := O
  replace H1 : cnd (Nat.beq n' bigN) (cnd (Nat.beq l' bigN) (cnd (Nat.ble n bigN) (cnd (lowA n v) (k (dstP keep o) v (.mk t n low) fs) (.no 233)) (.no 234)) (.no 231)) (.no 232) = .yes := H1
  obtain ⟨h1, H2⟩ := cnd_yes H1
  obtain ⟨h2, H3⟩ := cnd_yes H2
  obtain ⟨h3, H4⟩ := cnd_yes H3
  obtain ⟨h4, H5⟩ := cnd_yes H4
  exact ⟨v, xs, H5, hx, h4, Nat.le_of_ble_eq_true h3, .mk t' n' l', Nat.eq_of_beq_eq_true h1, Nat.eq_of_beq_eq_true h2, ho⟩
theorem chkRd_yes {callf : CallF} (hcall : CallSound P callf) {keep m : Nat} {ops : List Oper} {o : Oper} {i : Nat} (hg : o.guard = none) {D : Dl} {now : Nat} {L : List AV} {env : Tr AV} {cv : Cv} (hl : Loc P D now L env cv) {H : Hp} {x : Ans} {v : AV} {xs : List AV} (hx : opnds P cv o.op.operands.toList = some xs)
    (C : chkRd callf (mkCO P ops keep o D now (.rd m) i) L env v H x = .yes) : x = .yes ∧ ReadIn P o xs v H := by
  obtain ⟨v', xs', h1, h2, -, h3⟩ := rdCO_yes hcall hg hl C
  obtain ⟨h4, h5⟩ := cnd_yes h1
  obtain rfl := eqA_eq h4
  rw [hx] at h2; injection h2 with h2; subst h2
  exact ⟨h5, h3⟩
theorem rdIx_mk {ops : List Oper} {keep m : Nat} {o : Oper} {D : Dl} {now : Nat} {i : Nat} (hg : o.guard = none) : rdIx (mkCO P ops keep o D now (.rd m) i) = i ∧ isRd (mkCO P ops keep o D now (.rd m) i) = true ∧ rdM (mkCO P ops keep o D now (.rd m) i) = m := by
  unfold mkCO; rw [hg]; exact ⟨rfl, rfl, rfl⟩
theorem spotX_mk {ops : List Oper} {keep m : Nat} {o : Oper} {D : Dl} {now : Nat} {i : Nat} (hg : o.guard = none) : spotQ (mkCO P ops keep o D now (.spot m) i) = true ∧ spotM (mkCO P ops keep o D now (.spot m) i) = m := by
  unfold mkCO; rw [hg]; exact ⟨rfl, rfl⟩
def RdQ (Q : Nat → Hp → Prop) (Rs : Rds) : Prop := ∀ e ∈ Rs, ∀ H y, e.2 H y = .yes → y = .yes ∧ Q e.1 H
theorem allRs_yes {m : Nat} {h : Hp} {Q : Nat → Hp → Prop} : ∀ {Rs : Rds} {k : Rds → Ans}, RdQ Q Rs → allRs m Rs h k = .yes → ∃ Rs', k Rs' = .yes ∧ (∀ e ∈ Rs', e ∈ Rs) ∧ ∀ e ∈ Rs, inMask m e.1 = true ∨ (e ∈ Rs' ∧ Q e.1 h)
  | [], k, _, H => ⟨[], H, fun e h => h, fun e h => by cases h⟩
  | e :: Rs, k, hq, H => by
    have hq' : RdQ Q Rs := fun e' he' => hq e' (List.mem_cons_of_mem _ he')
    replace H : cnd (inMask m e.1) (allRs m Rs h k) (e.2 h (allRs m Rs h fun r => k (e :: r))) = .yes := H
    rw [cnd_eq] at H
    split at H
    · rename_i hm
      obtain ⟨Rs', h1, h2, h3⟩ := allRs_yes hq' H
      refine ⟨Rs', h1, fun e' he' => List.mem_cons_of_mem _ (h2 e' he'), fun e' he' => ?_⟩
      rcases List.mem_cons.1 he' with rfl | he'
      · exact .inl hm
      · exact h3 e' he'
    · obtain ⟨h1, h2⟩ := hq e (List.mem_cons_self ..) _ _ H
      obtain ⟨Rs', h3, h4, h5⟩ := allRs_yes hq' h1
      refine ⟨e :: Rs', h3, fun e' he' => ?_, fun e' he' => ?_⟩
      · rcases List.mem_cons.1 he' with rfl | he'
        · exact List.mem_cons_self ..
        · exact List.mem_cons_of_mem _ (h4 e' he')
      · rcases List.mem_cons.1 he' with rfl | he'
        · exact .inr ⟨List.mem_cons_self .., h2⟩
        · exact (h5 e' he').imp id fun h => ⟨List.mem_cons_of_mem _ h.1, h.2⟩
theorem chkRs_yes {m : Nat} {h : Hp} {Q : Nat → Hp → Prop} {x : Ans} : ∀ {Rs : Rds}, RdQ Q Rs → chkRs m Rs h x = .yes → x = .yes ∧ ∀ e ∈ Rs, inMask m e.1 = true ∨ Q e.1 h
  | [], _, H => ⟨H, fun e he => by cases he⟩
  | e :: Rs, hq, H => by
    have hq' : RdQ Q Rs := fun e' he' => hq e' (List.mem_cons_of_mem _ he')
    replace H : cnd (inMask m e.1) (chkRs m Rs h x) (e.2 h (chkRs m Rs h x)) = .yes := H
    rw [cnd_eq] at H
    split at H
    · rename_i hm
      obtain ⟨h1, h2⟩ := chkRs_yes hq' H
      refine ⟨h1, fun e' he' => ?_⟩
      rcases List.mem_cons.1 he' with rfl | he'
      · exact .inl hm
      · exact h2 e' he'
    · obtain ⟨h1, h2⟩ := hq e (List.mem_cons_self ..) _ _ H
      obtain ⟨h3, h4⟩ := chkRs_yes hq' h1
      refine ⟨h3, fun e' he' => ?_⟩
      rcases List.mem_cons.1 he' with rfl | he'
      · exact .inr h2
      · exact h4 e' he'
end Go.Ev
end
section
namespace Go.Ev
variable [Sg] [Sl]
open Go.RowKit
variable {P : Program}
def setR (f : Rcs) (i : Nat) (r : Option AV × Kd) : Rcs := fun j => if j = i then r else f j
theorem setR_same (f : Rcs) (i : Nat) (r : Option AV × Kd) : setR f i r i = r := if_pos rfl
theorem setR_ne {f : Rcs} {i j : Nat} {r : Option AV × Kd} (h : j ≠ i) : setR f i r j = f j := if_neg h
theorem setR_lt (f : Rcs) (i : Nat) (r : Option AV × Kd) : ∀ k, k < i → f k = setR f i r k := fun k h => (setR_ne (by omega)).symm
section
variable {ops : List Oper} {bf : List Nat} {cv0 : Cv} {h0 : Hp} {f f' : Rcs} {i : Nat} {o : Oper} {A S : Nat → Bool}
theorem cvU_congr : ∀ i, (∀ k, k < i → f k = f' k) → cvU cv0 ops f i = cvU cv0 ops f' i
  | 0, _ => rfl
  | i + 1, h => by unfold cvU; rw [cvU_congr i (fun k hk => h k (by omega)), h i (by omega)]
theorem nxU_congr : ∀ i, (∀ k, k < i → f k = f' k) → nxU h0 f i = nxU h0 f' i
  | 0, _ => rfl
  | i + 1, h => by unfold nxU; rw [nxU_congr i (fun k hk => h k (by omega)), h i (by omega)]
theorem loU_congr : ∀ i, (∀ k, k < i → f k = f' k) → loU h0 f i = loU h0 f' i
  | 0, _ => rfl
  | i + 1, h => by unfold loU; rw [loU_congr i (fun k hk => h k (by omega)), h i (by omega)]
theorem May.congr {k b : Nat} (h : ∀ k, k < i → f k = f' k) (hk : k < i) : May h0 f k b ↔ May h0 f' k b := by
  unfold May
  rw [h k hk, nxU_congr (h0 := h0) k (fun j hj => h j (by omega)), nxU_congr (h0 := h0) (k + 1) (fun j hj => h j (by omega))]
theorem At.congr (h : ∀ k, k < i → f k = f' k) (hA : ∀ k, A k = true → k < i) {b : Nat} {x : Blk} {j : Nat} (a : At h0 f A b x j) : At h0 f' A b x j :=
  ⟨a.src.imp id fun ⟨k, h1, h2, h3, h4⟩ => ⟨k, h1, h2, (May.congr h (hA k h2)).1 h3, by rw [← h k (hA k h2)]; exact h4⟩, fun k hk hS hm => a.last k hk hS ((May.congr h (hA k hS)).2 hm)⟩
theorem Kn.congr (h : ∀ k, k < i → f k = f' k) (hA : ∀ k, A k = true → k < i) (kn : Kn h0 f' A) : Kn h0 f A := ⟨kn.h0, fun k hk => by rw [h k (hA k hk)]; exact kn.ex k hk⟩
theorem Pt.set (pt : Pt bf h0 f) (hout : ∀ j, i ≤ j → (f j).2 = .calm) {r : Option AV × Kd} (hmono : nxU h0 f i ≤ r.2.nx (nxU h0 f i))
    (hsrc : ∀ q I O, r.2 = .act q I O → Kn h0 f (ancS bf i) → ∀ b x, I.tr.get (path b) = some x → ∃ j, j ≤ i ∧ At h0 f (ancS bf i) b x j)
    (hap : ∀ k, k < i → (f k).2.isCalm = false → r.2.isCalm = false → inMask (bf.getD i 0) k = false → ∀ b, r.2.has b → (f k).2.has b → r.2.wr = false ∧ (f k).2.wr = false) : Pt bf h0 (setR f i r) := by
  have hl := setR_lt f i r
  have calm : ∀ j, i < j → (setR f i r j).2 = .calm := fun j hj => by rw [setR_ne (by omega)]; exact hout j (by omega)
  have lo : ∀ j, j ≤ i → nxU h0 (setR f i r) j = nxU h0 f j := fun j hj => (nxU_congr j (fun k hk => hl k (by omega))).symm
  have up : ∀ j, i < j → nxU h0 (setR f i r) j = r.2.nx (nxU h0 f i) := by
    intro j hj
    induction j with
    | zero => omega
    | succ j ih =>
      by_cases e : j = i
      · subst e
        show (setR f j r j).2.nx (nxU h0 (setR f j r) j) = _
        rw [setR_same, lo j (Nat.le_refl _)]
      · show (setR f i r j).2.nx (nxU h0 (setR f i r) j) = _
        rw [calm j (by omega), ih (by omega)]; rfl
  refine ⟨fun a b hab => ?_, fun k q I O hk kn b x hb => ?_, fun k j hjk hcj hck hm b hb hb' => ?_, pt.trs, pt.lt⟩
  · by_cases hb : b ≤ i
    · rw [lo a (by omega), lo b hb]; exact pt.mono a b hab
    · rw [up b (by omega)]
      by_cases ha : a ≤ i
      · rw [lo a ha]; exact Nat.le_trans (pt.mono a i ha) hmono
      · rw [up a (by omega)]; exact Nat.le_refl _
  · rcases Nat.lt_trichotomy k i with h | h | h
    · rw [setR_ne (by omega)] at hk
      have hA : ∀ j, ancS bf k j = true → j < i := fun j hj => by have := pt.lt k j hj; omega
      obtain ⟨j, hj, a⟩ := pt.src k q I O hk (kn.congr hl hA) b x hb
      exact ⟨j, hj, a.congr hl hA⟩
    · subst h
      rw [setR_same] at hk
      have hA : ∀ j, ancS bf k j = true → j < k := fun j hj => pt.lt k j hj
      obtain ⟨j, hj, a⟩ := hsrc q I O hk (kn.congr hl hA) b x hb
      exact ⟨j, hj, a.congr hl hA⟩
    · rw [calm k h] at hk; cases hk
  · rcases Nat.lt_trichotomy k i with h | h | h
    · rw [setR_ne (by omega)] at hck hb ⊢
      rw [setR_ne (by omega)] at hcj hb' ⊢
      exact pt.ap k j hjk hcj hck hm b hb hb'
    · subst h
      rw [setR_same] at hck hb ⊢
      rw [setR_ne (by omega)] at hcj hb' ⊢
      exact hap j hjk hcj hck hm b hb hb'
    · rw [calm k h] at hck; cases hck
def BarC (P : Program) (ops : List Oper) (bf : List Nat) (k : Nat) : Prop := ∃ o m, ops[k]? = some o ∧ clsOf P ops bf k o (bf.getD k 0) = .bar m
def HeldC (P : Program) (ops : List Oper) (bf : List Nat) (k : Nat) : Prop := ∃ o, ops[k]? = some o ∧ (clsOf P ops bf k o (bf.getD k 0)).held = true
theorem BarC.held {k : Nat} (h : BarC P ops bf k) : HeldC P ops bf k := by
  obtain ⟨o, m, h1, h2⟩ := h
  exact ⟨o, h1, by rw [h2]; rfl⟩
theorem bar_ord (op : Opn ops bf) {k j : Nat} (hk : BarC P ops bf k) (hj : HeldC P ops bf j) : (j < k → inMask (bf.getD k 0) j = true) ∧ (k < j → inMask (bf.getD j 0) k = true) := by
  obtain ⟨o, m, h1, h2⟩ := hk
  obtain ⟨y, h3, h4⟩ := hj
  refine ⟨fun h => ?_, fun h => ?_⟩
  · rcases cls_bar op.len h2 h3 h4 (by omega) with h5 | h5
    · have := op.lt_ j k h5; omega
    · exact h5
  · rcases cls_bar op.len h2 h3 h4 (by omega) with h5 | h5
    · exact h5
    · have := op.lt_ k j h5; omega
def BS (bf : List Nat) : Nat → Nat → Bool
  | 0, _ => false
  | d + 1, k => decide (k = d) || inMask (bf.getD d 0) k
theorem BS_lt (op : Opn ops bf) {c k : Nat} (h : BS bf c k = true) : k < c := by
  cases c with
  | zero => cases h
  | succ d =>
    unfold BS at h
    rw [Bool.or_eq_true] at h
    rcases h with h | h
    · have := of_decide_eq_true h; omega
    · have := op.lt_ d k h; omega
theorem BS_down (op : Opn ops bf) (c : Nat) : Down bf (BS bf c) := fun k j h hm => by
  cases c with
  | zero => cases h
  | succ d =>
    unfold BS at h ⊢
    rw [Bool.or_eq_true] at h ⊢
    rcases h with h | h
    · rw [of_decide_eq_true h] at hm; exact .inr hm
    · exact .inr (op.trs d k j h hm)
theorem BS_sub {c : Nat} (hd : Down bf S) (h : ∀ d, c = d + 1 → S d = true) : ∀ k, BS bf c k = true → S k = true := fun k hk => by
  cases c with
  | zero => cases hk
  | succ d =>
    unfold BS at hk
    rw [Bool.or_eq_true] at hk
    rcases hk with hk | hk
    · rw [of_decide_eq_true hk]; exact h d rfl
    · exact hd d k (h d rfl) hk
theorem anc_down (op : Opn ops bf) (i : Nat) : Down bf (ancS bf i) := fun k j h hm => op.trs i k j h hm
structure KdIs (q : Kind) (I O : Hp) (c : Cls) : Prop where
  cls : match q with
    | .bar => ∃ m, c = .bar m
    | .gen => ∃ m, c = .free m
    | .mk => ∃ m, c = .mk m
    | .spot => ∃ m, c = .spot m
  emp : q = .mk → ∀ b, I.tr.get (path b) = none
  spot : q = .spot → ∃ b0, (∀ b x, I.tr.get (path b) = some x → b = b0) ∧ ∃ y, O.tr.get (path b0) = some y
def AllIs (P : Program) (ops : List Oper) (bf : List Nat) (f : Rcs) : Prop := ∀ k o q I O, ops[k]? = some o → (f k).2 = .act q I O → KdIs q I O (clsOf P ops bf k o (bf.getD k 0))
structure SegFor (P : Program) (ops : List Oper) (bf : List Nat) (h0 : Hp) (f : Rcs) (H : Hp) (c i m : Nat) : Prop where
  nx : H.nx = nxU h0 f c
  tr : Kn h0 f (BS bf c) → ∀ b x, H.tr.get (path b) = some x → ∃ j, j ≤ c ∧ At h0 f (BS bf c) b x j
  no : ∀ k, c ≤ k → k < m → (f k).2.isSpot = true → inMask (bf.getD k 0) i = false → (∀ d, c ≤ d → d < k → ¬ BarC P ops bf d) → ∀ b, (f k).2.has b → H.tr.get (path b) = none
def RdAt (P : Program) (ops : List Oper) (bf : List Nat) (cv0 : Cv) (h0 : Hp) (f : Rcs) (m i : Nat) (o : Oper) : Prop :=
  wantedA ops (cvU cv0 ops f i) o = some true ∧ ∃ v xs, (f i).1 = some v ∧ opnds P (cvU cv0 ops f i) o.op.operands.toList = some xs ∧ lowA (nxU h0 f i) v = true ∧ nxU h0 f i ≤ bigN ∧
    ∀ c, c ≤ m → (∀ d, c = d + 1 → BarC P ops bf d) → (∀ d, BarC P ops bf d → inMask (bf.getD i 0) d = true → d < c) → (∀ d, BarC P ops bf d → d < c → inMask (bf.getD d 0) i = false) → ∃ H, ReadIn P o xs v H ∧ SegFor P ops bf h0 f H c i m
structure RcI (P : Program) (ops : List Oper) (bf : List Nat) (cv0 : Cv) (h0 : Hp) (f : Rcs) (m i : Nat) (o : Oper) : Prop where
  calm : (f i).2 = .calm → CalmAt P ops o (cvU cv0 ops f i) (f i).1 ∨ RdAt P ops bf cv0 h0 f m i o
  act : ∀ q I O, (f i).2 = .act q I O → (∃ v, (f i).1 = some v ∧ wantedA ops (cvU cv0 ops f i) o = some true ∧ Acts P o (cvU cv0 ops f i) I v O) ∧ I.nx = nxU h0 f i ∧ nxU h0 f i ≤ O.nx
  lo : ∀ q I O, (f i).2 = .act q I O → (q = .bar → I.lo = loU h0 f i) ∧ (q ≠ .bar → I.lo = nxU h0 f i) ∧ (q.wr = false → nxU h0 f i ≤ O.lo)
theorem maxBar (P : Program) (ops : List Oper) (bf : List Nat) (S : Nat → Bool) : ∀ m, ∃ c, c ≤ m ∧ (∀ d, c = d + 1 → BarC P ops bf d ∧ S d = true) ∧ ∀ d, d < m → BarC P ops bf d → S d = true → d < c
  | 0 => ⟨0, Nat.le_refl _, fun d h => by omega, fun d h => by omega⟩
  | m + 1 => by
    obtain ⟨c, h1, h2, h3⟩ := maxBar P ops bf S m
    by_cases h : BarC P ops bf m ∧ S m = true
    · exact ⟨m + 1, Nat.le_refl _, fun d e => (by obtain rfl : m = d := (by omega); exact h), fun d hd _ _ => hd⟩
    · refine ⟨c, Nat.le_succ_of_le h1, h2, fun d hd hb hs => ?_⟩
      by_cases e : d = m
      · subst e; exact absurd ⟨hb, hs⟩ h
      · exact h3 d (by omega) hb hs
theorem RdAt.to (op : Opn ops bf) (pt : Pt bf h0 f) (ai : AllIs P ops bf f) (hout : ∀ k, ops.length ≤ k → (f k).2 = .calm) {m i : Nat} {o : Oper} (r : RdAt P ops bf cv0 h0 f m i o) : ReadTo P ops bf cv0 h0 f m i o := by
  obtain ⟨h1, v, xs, h2, h3, h4, h5, h6⟩ := r
  refine ⟨h1, v, xs, h2, h3, h4, h5, fun S hb hd kn hs hn => ?_⟩
  obtain ⟨c, c1, c2, c3⟩ := maxBar P ops bf S m
  have bsS := BS_sub (c := c) hd (fun d e => (c2 d e).2)
  have belowc : ∀ k, HeldC P ops bf k → k < c → BS bf c k = true := fun k hk hkc => by
    cases c with
    | zero => omega
    | succ d =>
      unfold BS
      rw [Bool.or_eq_true]
      by_cases e : k = d
      · exact .inl (by simp [e])
      · exact .inr ((bar_ord op (c2 d rfl).1 hk).1 (by omega))
  obtain ⟨H, hr, sg⟩ := h6 c c1 (fun d e => (c2 d e).1) (fun d hbd hm => c3 d (by have := hb d (hs d hm); omega) hbd (hs d hm)) (fun d hbd hdc => by
    cases h : inMask (bf.getD d 0) i with
    | false => rfl
    | true =>
      have := hd d i (bsS d (belowc d hbd.held hdc)) h
      rw [hn] at this; cases this)
  refine ⟨H, hr, fun b x hx => ?_⟩
  obtain ⟨j, hj, a⟩ := sg.tr (kn.sub bsS) b x hx
  refine ⟨j, ⟨a.src.imp id fun ⟨k, g1, g2, g3⟩ => ⟨k, g1, bsS k g2, g3⟩, fun k hk hS hm => ?_⟩, ?_⟩
  · cases hbs : BS bf c k with
    | true => exact a.last k hk hbs hm
    | false =>
      rcases hm.2 with ⟨w1, w2⟩ | ⟨w1, w2⟩
      · cases hfk : (f k).2 with
        | calm => rw [hfk] at w2; exact w2.elim
        | act q I O =>
          obtain ⟨y, hy⟩ : ∃ y, ops[k]? = some y := by
            by_cases hki : k < ops.length
            · exact ⟨_, List.getElem?_eq_getElem hki⟩
            · rw [hout k (by omega)] at hfk; cases hfk
          have kd := ai k y q I O hy hfk
          have hheld : (clsOf P ops bf k y (bf.getD k 0)).held = true → BS bf c k = false → c ≤ k := fun hh hb => Classical.byContradiction fun hn => by
            rw [belowc k ⟨y, hy, hh⟩ (by omega)] at hb; cases hb
          rw [hfk] at w1
          cases q with
          | gen => cases w1
          | mk => cases w1
          | bar =>
            obtain ⟨m', hm'⟩ := kd.cls
            have hbk : BarC P ops bf k := ⟨y, m', hy, hm'⟩
            have := c3 k (hb k hS) hbk hS
            rw [belowc k hbk.held this] at hbs; cases hbs
          | spot =>
            obtain ⟨m', hm'⟩ := kd.cls
            have hheldk : HeldC P ops bf k := ⟨y, hy, by rw [hm']; rfl⟩
            have hck := hheld (by rw [hm']; rfl) hbs
            have hki : inMask (bf.getD k 0) i = false := by
              cases h : inMask (bf.getD k 0) i with
              | false => rfl
              | true => have := hd k i hS h; rw [hn] at this; cases this
            have := sg.no k hck (hb k hS) (by rw [hfk]; rfl) hki (fun d hcd hdk hbd => by
              have h8 := hd k d hS ((bar_ord op hbd hheldk).2 hdk)
              have := c3 d (hb d h8) hbd h8
              omega) b (by rw [hfk]; rw [hfk] at w2; exact w2)
            rw [this] at hx; cases hx
      · rw [a.own pt (BS_down op c) (kn.sub bsS) w1 w2] at hbs; cases hbs
  · have := pt.mono j c hj
    rw [← sg.nx] at this
    exact Nat.le_trans this hr.nx
end
end Go.Ev
namespace Go.Ev
variable [Sg] [Sl]
open Go.RowKit
variable {P : Program}
structure St (P : Program) (ops : List Oper) (bf : List Nat) (cv0 : Cv) (h0 : Hp) (f : Rcs) (i c : Nat) (h : Hp) (fs : Frees) : Prop where
  le : i ≤ ops.length
  ci : c ≤ i
  cb : ∀ d, c = d + 1 → BarC P ops bf d
  nb : ∀ k, c ≤ k → k < i → ¬ BarC P ops bf k
  nx : h.nx = nxU h0 f i
  lo : h.lo = loU h0 f i
  tr : Kn h0 f (BS bf c) → ∀ b x, h.tr.get (path b) = some x → ∃ j, j ≤ c ∧ At h0 f (BS bf c) b x j
  pend : ∀ e ∈ fs, e.1 < i ∧ BS bf c e.1 = false ∧ ∀ b x, (b, x) ∈ e.2 → May h0 f e.1 b ∧ (f e.1).2.out b = some x
  all : ∀ k, k < i → (f k).2.isCalm = false → BS bf c k = true ∨ ∃ e ∈ fs, e.1 = k ∧ ∀ b x, May h0 f k b → (f k).2.out b = some x → (b, x) ∈ e.2
  srt : fs.Pairwise (fun a b => b.1 < a.1)
  pt : Pt bf h0 f
  rc : ∀ j o, j < i → ops[j]? = some o → RcI P ops bf cv0 h0 f i j o
  is : AllIs P ops bf f
  out : ∀ j, i ≤ j → (f j).2 = .calm
section
variable {ops : List Oper} {bf : List Nat} {cv0 : Cv} {h0 : Hp} {f f' : Rcs} {i c : Nat} {o : Oper} {A S : Nat → Bool}
theorem kd_held {q : Kind} {I O : Hp} {k : Nat} {y : Oper} (hy : ops[k]? = some y) (kd : KdIs q I O (clsOf P ops bf k y (bf.getD k 0))) (h : q ≠ .mk) : HeldC P ops bf k := by
  refine ⟨y, hy, ?_⟩
  have := kd.cls
  cases q with
  | bar => obtain ⟨m, e⟩ := this; rw [e]; rfl
  | gen => obtain ⟨m, e⟩ := this; rw [e]; rfl
  | spot => obtain ⟨m, e⟩ := this; rw [e]; rfl
  | mk => exact absurd rfl h
theorem kd_wr {q : Kind} {I O : Hp} {k b : Nat} {y : Oper} (hf : (f k).2 = .act q I O) (hw : (f k).2.wr = true) : q = .bar ∨ q = .spot := by
  rw [hf] at hw
  cases q with
  | bar => exact .inl rfl
  | spot => exact .inr rfl
  | gen => cases hw
  | mk => cases hw
theorem St.flush (op : Opn ops bf) {h : Hp} {fs : Frees} (s : St P ops bf cv0 h0 f i c h fs) (hA : ∀ k, A k = true → k < i) (hAd : Down bf A) (hBA : ∀ k, BS bf c k = true → A k = true) (kn : Kn h0 f A) {b : Nat} {x : Blk} (hx : (flushT A fs h.tr).get (path b) = some x) : ∃ j, j ≤ i ∧ At h0 f A b x j := by
  have opk : ∀ {k}, (f k).2.isCalm = false → ∃ y, ops[k]? = some y := fun {k} h => by
    by_cases hk : k < i
    · exact ⟨_, List.getElem?_eq_getElem (Nat.lt_of_lt_of_le hk s.le)⟩
    · rw [s.out k (by omega)] at h; cases h
  have spotOut : ∀ {k b}, (f k).2.isCalm = false → (f k).2.wr = true → BS bf c k = false → k < i → (f k).2.has b → ∃ y, (f k).2.out b = some y := fun {k b} h1 h2 h3 h4 h5 => by
    obtain ⟨y, hy⟩ := opk h1
    cases hk : (f k).2 with
    | calm => rw [hk] at h1; cases h1
    | act q I O =>
      have kd := s.is k y q I O hy hk
      rcases kd_wr (f := f) (b := b) (y := y) hk h2 with rfl | rfl
      · obtain ⟨m, hm⟩ := kd.cls
        have hbk : BarC P ops bf k := ⟨y, m, hy, hm⟩
        have hkc : k < c := Classical.byContradiction fun hn => s.nb k (by omega) h4 hbk
        exfalso
        cases c with
        | zero => omega
        | succ d =>
          unfold BS at h3
          rw [Bool.or_eq_false_iff] at h3
          have hkd : k ≠ d := by simpa using h3.1
          rw [(bar_ord op (s.cb d rfl) hbk.held).1 (by omega)] at h3
          cases h3.2
      · obtain ⟨b0, g1, y', g2⟩ := kd.spot rfl
        rw [hk] at h5
        obtain ⟨x', hx'⟩ := h5
        rw [g1 b x' hx']
        exact ⟨y', g2⟩
  rcases flushT_get s.srt hx with ⟨e, he, ha, hm, hlast⟩ | ⟨hx, hno⟩
  · obtain ⟨e1, e2, e3⟩ := s.pend e he
    obtain ⟨e4, e5⟩ := e3 b x hm
    refine ⟨e.1 + 1, e1, .inr ⟨e.1, rfl, ha, e4, e5⟩, fun k hk hAk hmk => ?_⟩
    have hki := hA k hAk
    have knk := kn.down hAd hAk
    have kne := kn.down hAd ha
    cases hb : BS bf c k with
    | true =>
      have hdn : inMask (bf.getD k 0) e.1 = true → False := fun h => by rw [BS_down op c k e.1 hb h] at e2; cases e2
      rcases hmk.2 with ⟨w1, w2⟩ | ⟨w1, w2⟩ <;> rcases e4.2 with ⟨g1, g2⟩ | ⟨g1, g2⟩
      · -- both write: the elder one is a store, ahead of the last bar
        cases hfe : (f e.1).2 with
        | calm => rw [hfe] at g1; cases g1
        | act q I O =>
          obtain ⟨y, hy⟩ := opk e4.1
          have kd := s.is e.1 y q I O hy hfe
          have hne : q ≠ .mk := fun e => by rw [hfe, e] at g1; cases g1
          have hh := kd_held hy kd hne
          cases c with
          | zero => cases hb
          | succ d =>
            have hkd := BS_lt op hb
            have := (bar_ord op (s.cb d rfl) hh).1 (by omega)
            replace e2 : (decide (e.1 = d) || inMask (bf.getD d 0) e.1) = false := e2
            rw [this, Bool.or_true] at e2; cases e2
      · exact hdn (s.pt.own k e.1 b knk w2 g1 g2)
      · have := s.pt.lt e.1 k (s.pt.own e.1 k b kne g2 w1 w2); omega
      · have := s.pt.range g1 g2 w1 w2; omega
    | false =>
      obtain ⟨e', h1, h2, h3⟩ := (s.all k hki hmk.1).resolve_left (by rw [hb]; simp)
      rcases hmk.2 with ⟨w1, w2⟩ | ⟨w1, w2⟩
      · obtain ⟨y, hy⟩ := spotOut hmk.1 w1 hb hki w2
        exact hlast e' h1 (by rw [h2]; exact hAk) (by omega) y (h3 b y hmk hy)
      · rcases e4.2 with ⟨g1, g2⟩ | ⟨g1, g2⟩
        · have := s.pt.lt e.1 k (s.pt.own e.1 k b kne g2 w1 w2); omega
        · have := s.pt.range g1 g2 w1 w2; omega
  · obtain ⟨j, hj, a⟩ := s.tr (kn.sub hBA) b x hx
    refine ⟨j, Nat.le_trans hj s.ci, a.src.imp id fun ⟨k, h1, h2, h3⟩ => ⟨k, h1, hBA k h2, h3⟩, fun k hk hAk hmk => ?_⟩
    have hki := hA k hAk
    cases hb : BS bf c k with
    | true => exact a.last k hk hb hmk
    | false =>
      rcases hmk.2 with ⟨w1, w2⟩ | ⟨w1, w2⟩
      · obtain ⟨e', h1, h2, h3⟩ := (s.all k hki hmk.1).resolve_left (by rw [hb]; simp)
        obtain ⟨y, hy⟩ := spotOut hmk.1 w1 hb hki w2
        exact hno e' h1 (by rw [h2]; exact hAk) y (h3 b y hmk hy)
      · rw [a.own s.pt (BS_down op c) (kn.sub hBA) w1 w2] at hb; cases hb
theorem St.below (op : Opn ops bf) {h : Hp} {fs : Frees} (s : St P ops bf cv0 h0 f i c h fs) (hh : HeldC P ops bf i) : ∀ k, BS bf c k = true → ancS bf i k = true :=
  BS_sub (anc_down op i) fun d e => (bar_ord op (s.cb d e) hh).2 (by have := s.ci; omega)
theorem RcI.congr {m : Nat} (him : i < m) (hl : ∀ k, k < m → f k = f' k) (r : RcI P ops bf cv0 h0 f m i o) (hr : (f i).2 = .calm → RdAt P ops bf cv0 h0 f m i o → RdAt P ops bf cv0 h0 f' (m + 1) i o) : RcI P ops bf cv0 h0 f' (m + 1) i o := by
  have e := hl i him
  have e1 := cvU_congr (cv0 := cv0) (ops := ops) i (fun k hk => hl k (by omega))
  have e2 := nxU_congr (h0 := h0) i (fun k hk => hl k (by omega))
  have e3 := loU_congr (h0 := h0) i (fun k hk => hl k (by omega))
  refine ⟨fun hk => ?_, fun q I O hk => ?_, fun q I O hk => ?_⟩
  · rw [← e] at hk
    rcases r.calm hk with hc | hc
    · left; rw [← e, ← e1]; exact hc
    · exact .inr (hr hk hc)
  · rw [← e] at hk ⊢
    rw [← e1, ← e2]
    exact r.act q I O hk
  · rw [← e] at hk
    rw [← e2, ← e3]
    exact r.lo q I O hk
theorem SegFor.congr {m : Nat} {H : Hp} (op : Opn ops bf) (hl : ∀ k, k < m → f k = f' k) (hc : c ≤ m) (hi : ∀ k, k = m → (f' k).2.isSpot = true → inMask (bf.getD k 0) i = false → (∀ d, c ≤ d → d < k → ¬ BarC P ops bf d) → ∀ b, (f' k).2.has b → H.tr.get (path b) = none) (s : SegFor P ops bf h0 f H c i m) : SegFor P ops bf h0 f' H c i (m + 1) := by
  have hA : ∀ k, BS bf c k = true → k < m := fun k hk => by have := BS_lt op hk; omega
  refine ⟨by rw [s.nx]; exact nxU_congr c fun k hk => hl k (by omega), fun kn b x hx => ?_, fun k h1 h2 h3 h4 h5 b hb => ?_⟩
  · obtain ⟨j, hj, a⟩ := s.tr (kn.congr hl hA) b x hx
    exact ⟨j, hj, a.congr hl hA⟩
  · by_cases e : k = m
    · exact hi k e h3 h4 h5 b hb
    · rw [← hl k (by omega)] at h3 hb
      exact s.no k h1 (by omega) h3 h4 h5 b hb
theorem RdAt.next {m j : Nat} {r : Option AV × Kd} (op : Opn ops bf) (hj : j < m) (q : RdAt P ops bf cv0 h0 f m j o)
    (hnew : ∀ v xs, (f j).1 = some v → opnds P (cvU cv0 ops f j) o.op.operands.toList = some xs → ∀ c, c ≤ m + 1 → (∀ d, c = d + 1 → BarC P ops bf d) → (∀ d, BarC P ops bf d → d < c → inMask (bf.getD d 0) j = false) →
      (c = m + 1 ∨ (r.2.isSpot = true ∧ inMask (bf.getD m 0) j = false ∧ ∀ d, c ≤ d → d < m → ¬ BarC P ops bf d)) → ∃ H, ReadIn P o xs v H ∧ SegFor P ops bf h0 (setR f m r) H c j (m + 1)) : RdAt P ops bf cv0 h0 (setR f m r) (m + 1) j o := by
  obtain ⟨h1, v, xs, h2, h3, h4, h5, h6⟩ := q
  have hl := setR_lt f m r
  have e1 := cvU_congr (cv0 := cv0) (ops := ops) j (fun k hk => hl k (by omega))
  have e2 := nxU_congr (h0 := h0) j (fun k hk => hl k (by omega))
  refine ⟨by rw [← e1]; exact h1, v, xs, by rw [setR_ne (by omega)]; exact h2, by rw [← e1]; exact h3, by rw [← e2]; exact h4, by rw [← e2]; exact h5, fun c c1 c2 c3 c4 => ?_⟩
  by_cases hc : c = m + 1 ∨ (r.2.isSpot = true ∧ inMask (bf.getD m 0) j = false ∧ ∀ d, c ≤ d → d < m → ¬ BarC P ops bf d)
  · exact hnew v xs h2 h3 c c1 c2 c4 hc
  · have hcm : c ≤ m := Classical.byContradiction fun hn => hc (.inl (by omega))
    obtain ⟨H, hr, sg⟩ := h6 c hcm c2 c3 c4
    refine ⟨H, hr, sg.congr op hl hcm fun k e g1 g2 g3 => ?_⟩
    subst e
    rw [setR_same] at g1
    exact absurd (.inr ⟨g1, g2, g3⟩) hc
structure SegIn (P : Program) (ops : List Oper) (bf : List Nat) (h0 : Hp) (f : Rcs) (H : Hp) (c i : Nat) : Prop where
  nx : H.nx = nxU h0 f c
  tr : Kn h0 f (BS bf c) → ∀ b x, H.tr.get (path b) = some x → ∃ j, j ≤ c ∧ At h0 f (BS bf c) b x j
  no : ∀ k, c ≤ k → k < i → (f k).2.isSpot = true → ∀ b, (f k).2.has b → H.tr.get (path b) = none
def HsR (P : Program) (ops : List Oper) (bf : List Nat) (h0 : Hp) (f : Rcs) : List (Nat × Hp) → Nat → Nat → Prop
  | [], _, _ => False
  | e :: Hs, c, i => SegIn P ops bf h0 f e.2 c i ∧ c ≤ i ∧ (∀ k, c ≤ k → k < i → ¬ BarC P ops bf k) ∧ ((c = 0 ∧ Hs = []) ∨ ∃ d c', c = d + 1 ∧ e.1 = d ∧ BarC P ops bf d ∧ HsR P ops bf h0 f Hs c' d)
theorem SegIn.congr (op : Opn ops bf) {H : Hp} (hl : ∀ k, k < i → f k = f' k) (hc : c ≤ i) (s : SegIn P ops bf h0 f H c i) : SegIn P ops bf h0 f' H c i := by
  have hA : ∀ k, BS bf c k = true → k < i := fun k hk => by have := BS_lt op hk; omega
  refine ⟨by rw [s.nx]; exact nxU_congr c fun k hk => hl k (by omega), fun kn b x hx => ?_, fun k h1 h2 h3 b hb => ?_⟩
  · obtain ⟨j, hj, a⟩ := s.tr (kn.congr hl hA) b x hx
    exact ⟨j, hj, a.congr hl hA⟩
  · rw [← hl k h2] at h3 hb
    exact s.no k h1 h2 h3 b hb
theorem HsR.congr (op : Opn ops bf) : ∀ {Hs : List (Nat × Hp)} {c i : Nat}, (∀ k, k < i → f k = f' k) → HsR P ops bf h0 f Hs c i → HsR P ops bf h0 f' Hs c i
  | [], _, _, _, h => h
  | e :: Hs, c, i, hl, ⟨h1, h2, h3, h4⟩ => by
    refine ⟨h1.congr op hl h2, h2, h3, h4.imp id fun ⟨d, c', g1, g2, g3, g4⟩ => ⟨d, c', g1, g2, g3, g4.congr op fun k hk => hl k (by omega)⟩⟩
theorem HsR.succ (hb : ¬ BarC P ops bf i) (hs : (f i).2.isSpot = false) : ∀ {Hs : List (Nat × Hp)}, HsR P ops bf h0 f Hs c i → HsR P ops bf h0 f Hs c (i + 1)
  | [], h => h
  | e :: Hs, ⟨h1, h2, h3, h4⟩ => by
    have up : ∀ {k}, k < i + 1 → k < i ∨ k = i := fun {k} h => by omega
    refine ⟨⟨h1.nx, h1.tr, fun k a b hsp => ?_⟩, by omega, fun k a b => ?_, h4⟩
    · rcases up b with h | rfl
      · exact h1.no k a h hsp
      · rw [hs] at hsp; cases hsp
    · rcases up b with h | rfl
      · exact h3 k a h
      · exact hb
theorem bar_noSpot (ai : AllIs P ops bf f) {k : Nat} (h : BarC P ops bf k) : (f k).2.isSpot = false := by
  obtain ⟨y, m, h1, h2⟩ := h
  cases hk : (f k).2 with
  | calm => rfl
  | act q I O =>
    have := (ai k y q I O h1 hk).cls
    cases q with
    | spot => obtain ⟨m', e⟩ := this; rw [h2] at e; cases e
    | bar => rfl
    | gen => rfl
    | mk => rfl
theorem allHs_yes (ai : AllIs P ops bf f) {m r : Nat} {ck : Hp → Ans → Ans} {x : Ans} {Q : Hp → Prop} (hc : ∀ H y, ck H y = .yes → y = .yes ∧ Q H) : ∀ {Hs : List (Nat × Hp)} {c i : Nat}, HsR P ops bf h0 f Hs c i → allHs m Hs ck x = .yes → x = .yes ∧ ∀ cc, cc ≤ i → (∀ d, cc = d + 1 → BarC P ops bf d) → (∀ d, BarC P ops bf d → inMask m d = true → d < i → d < cc) → ∃ H, Q H ∧ SegFor P ops bf h0 f H cc r i
  | [], _, _, hr, _ => hr.elim
  | e :: Hs, c, i, ⟨g1, g2, g3, g4⟩, h => by
    obtain ⟨h1, h2⟩ := hc e.2 _ (show ck e.2 (cnd (inMask m e.1) x (allHs m Hs ck x)) = .yes from h)
    rw [cnd_eq] at h1
    have top : ∃ H, Q H ∧ SegFor P ops bf h0 f H c r i := ⟨e.2, h2, g1.nx, g1.tr, fun k a b hs _ _ => g1.no k a b hs⟩
    have cmp : ∀ {cc}, cc ≤ i → (∀ d, cc = d + 1 → BarC P ops bf d) → cc ≤ c := fun {cc} hcc hb => Classical.byContradiction fun hn => by
      cases cc with
      | zero => omega
      | succ d => exact g3 d (by omega) (by omega) (hb d rfl)
    rcases g4 with ⟨rfl, rfl⟩ | ⟨d, c', rfl, g5, g6, g7⟩
    · have hx : x = .yes := by split at h1 <;> exact h1
      refine ⟨hx, fun cc hcc hb _ => ?_⟩
      obtain rfl : cc = 0 := by have := cmp hcc hb; omega
      exact top
    · have hh : x = .yes ∧ ∀ cc, cc ≤ d → (∀ d, cc = d + 1 → BarC P ops bf d) → (∀ d', BarC P ops bf d' → inMask m d' = true → d' < i → d' < cc) → ∃ H, Q H ∧ SegFor P ops bf h0 f H cc r d := by
        split at h1
        · rename_i hm
          rw [g5] at hm
          exact ⟨h1, fun cc hcc _ hk => by have := hk d g6 hm (by omega); omega⟩
        · obtain ⟨p1, p2⟩ := allHs_yes ai hc g7 h1
          exact ⟨p1, fun cc hcc hb hk => p2 cc hcc hb fun k a b c => hk k a b (by omega)⟩
      refine ⟨hh.1, fun cc hcc hb hk => ?_⟩
      by_cases hce : cc ≤ d
      · obtain ⟨H, q1, q2⟩ := hh.2 cc hce hb hk
        refine ⟨H, q1, q2.nx, q2.tr, fun k a b hs hm hno => ?_⟩
        by_cases hkd : k < d
        · exact q2.no k a hkd hs hm hno
        · by_cases e : k = d
          · -- a bar is no store of that kind
            subst e
            rw [bar_noSpot ai g6] at hs; cases hs
          · exact absurd g6 (hno d hce (by omega))
      · have := cmp hcc hb
        obtain rfl : cc = d + 1 := by omega
        exact top
structure Sr (P : Program) (ops : List Oper) (bf : List Nat) (cv0 : Cv) (h0 : Hp) (f : Rcs) (i c : Nat) (Hs : List (Nat × Hp)) (Rs : Rds) : Prop where
  hs : HsR P ops bf h0 f Hs c i
  rs : RdQ (fun j H => ∃ o v xs, ops[j]? = some o ∧ (f j).1 = some v ∧ opnds P (cvU cv0 ops f j) o.op.operands.toList = some xs ∧ ReadIn P o xs v H) Rs
  lt : ∀ e ∈ Rs, e.1 < i
  all : ∀ j o, j < i → ops[j]? = some o → (f j).2 = .calm → CalmAt P ops o (cvU cv0 ops f j) (f j).1 ∨ (∃ k, k < i ∧ BarC P ops bf k ∧ inMask (bf.getD k 0) j = true) ∨ ∃ e ∈ Rs, e.1 = j
variable {Hs : List (Nat × Hp)} {Rs : Rds}
theorem Sr.rs_ {r : Option AV × Kd} (s : Sr P ops bf cv0 h0 f i c Hs Rs) : RdQ (fun j H => ∃ o v xs, ops[j]? = some o ∧ (setR f i r j).1 = some v ∧ opnds P (cvU cv0 ops (setR f i r) j) o.op.operands.toList = some xs ∧ ReadIn P o xs v H) Rs := fun e he H y hy => by
  obtain ⟨h1, o, v, xs, h2, h3, h4, h5⟩ := s.rs e he H y hy
  have hlt := s.lt e he
  exact ⟨h1, o, v, xs, h2, by rw [setR_ne (by omega)]; exact h3, by rw [← cvU_congr e.1 (fun k hk => setR_lt f i r k (by omega))]; exact h4, h5⟩
theorem Sr.next (op : Opn ops bf) (s : Sr P ops bf cv0 h0 f i c Hs Rs) {r : Option AV × Kd} (hb : ¬ BarC P ops bf i) (hsp : r.2.isSpot = false) {Rs' : Rds} (hsub : ∀ e ∈ Rs, e ∈ Rs')
    (hq : RdQ (fun j H => ∃ o v xs, ops[j]? = some o ∧ (setR f i r j).1 = some v ∧ opnds P (cvU cv0 ops (setR f i r) j) o.op.operands.toList = some xs ∧ ReadIn P o xs v H) Rs') (hlt : ∀ e ∈ Rs', e.1 < i + 1)
    (hc : r.2 = .calm → ∀ o, ops[i]? = some o → CalmAt P ops o (cvU cv0 ops f i) r.1 ∨ ∃ e ∈ Rs', e.1 = i) : Sr P ops bf cv0 h0 (setR f i r) (i + 1) c Hs Rs' := by
  have hl := setR_lt f i r
  refine ⟨(s.hs.congr op hl).succ hb (by rw [setR_same]; exact hsp), hq, hlt, fun j o' hj ho' hk => ?_⟩
  by_cases e : j = i
  · subst e
    rw [setR_same] at hk ⊢
    rw [← cvU_congr j hl]
    exact (hc hk o' ho').imp id .inr
  · rw [setR_ne e] at hk ⊢
    rw [← cvU_congr j (fun k hk => hl k (by omega))]
    rcases s.all j o' (by omega) ho' hk with h | ⟨k, h1, h2, h3⟩ | ⟨e', h1, h2⟩
    · exact .inl h
    · exact .inr (.inl ⟨k, by omega, h2, h3⟩)
    · exact .inr (.inr ⟨e', hsub e' h1, h2⟩)
theorem St.next (op : Opn ops bf) {h h' : Hp} {fs fs' : Frees} {c' : Nat} (s : St P ops bf cv0 h0 f i c h fs) (ho : ops[i]? = some o) {r : Option AV × Kd}
    (hc' : (c' = c ∧ ¬ BarC P ops bf i) ∨ (c' = i + 1 ∧ BarC P ops bf i))
    (hrc : RcI P ops bf cv0 h0 (setR f i r) (i + 1) i o)
    (hsrc : ∀ q I O, r.2 = .act q I O → Kn h0 f (ancS bf i) → ∀ b x, I.tr.get (path b) = some x → ∃ j, j ≤ i ∧ At h0 f (ancS bf i) b x j)
    (hap : ∀ k, k < i → (f k).2.isCalm = false → r.2.isCalm = false → inMask (bf.getD i 0) k = false → ∀ b, r.2.has b → (f k).2.has b → r.2.wr = false ∧ (f k).2.wr = false)
    (hkd : ∀ q I O, r.2 = .act q I O → h.nx ≤ O.nx ∧ KdIs q I O (clsOf P ops bf i o (bf.getD i 0)))
    (hrd : ∀ j o', j < i → ops[j]? = some o' → (f j).2 = .calm → RdAt P ops bf cv0 h0 f i j o' → CalmAt P ops o' (cvU cv0 ops f j) (f j).1 ∨ RdAt P ops bf cv0 h0 (setR f i r) (i + 1) j o')
    (h1 : h'.nx = r.2.nx h.nx) (h2 : h'.lo = r.2.lo h.lo)
    (htr : Kn h0 (setR f i r) (BS bf c') → ∀ b x, h'.tr.get (path b) = some x → ∃ j, j ≤ c' ∧ At h0 (setR f i r) (BS bf c') b x j)
    (hpend : ∀ e ∈ fs', e.1 < i + 1 ∧ BS bf c' e.1 = false ∧ ∀ b x, (b, x) ∈ e.2 → May h0 (setR f i r) e.1 b ∧ (setR f i r e.1).2.out b = some x)
    (hall : ∀ k, k < i + 1 → (setR f i r k).2.isCalm = false → BS bf c' k = true ∨ ∃ e ∈ fs', e.1 = k ∧ ∀ b x, May h0 (setR f i r) k b → (setR f i r k).2.out b = some x → (b, x) ∈ e.2)
    (hsrt : fs'.Pairwise (fun a b => b.1 < a.1)) : St P ops bf cv0 h0 (setR f i r) (i + 1) c' h' fs' := by
  have hl := setR_lt f i r
  have hi : i < ops.length := (List.getElem?_eq_some_iff.1 ho).1
  have hmono : nxU h0 f i ≤ r.2.nx (nxU h0 f i) := by
    cases hk : r.2 with
    | calm => exact Nat.le_refl _
    | act q I O => rw [← s.nx]; exact (hkd q I O hk).1
  refine ⟨hi, ?_, fun d e => ?_, fun k a b => ?_, ?_, ?_, htr, hpend, hall, hsrt, s.pt.set s.out hmono hsrc hap, fun j o' hj ho' => ?_, fun k y q I O hy hk => ?_, fun j hj => by rw [setR_ne (by omega)]; exact s.out j (by omega)⟩
  · rcases hc' with ⟨rfl, -⟩ | ⟨rfl, -⟩
    · exact Nat.le_succ_of_le s.ci
    · exact Nat.le_refl _
  · rcases hc' with ⟨rfl, -⟩ | ⟨rfl, hb⟩
    · exact s.cb d e
    · obtain rfl : i = d := by omega
      exact hb
  · rcases hc' with ⟨rfl, hb⟩ | ⟨rfl, hb⟩
    · by_cases e : k = i
      · rw [e]; exact hb
      · exact s.nb k a (by omega)
    · omega
  · rw [h1, s.nx]
    show _ = (setR f i r i).2.nx (nxU h0 (setR f i r) i)
    rw [setR_same, ← nxU_congr i hl]
  · rw [h2, s.lo]
    show _ = (setR f i r i).2.lo (loU h0 (setR f i r) i)
    rw [setR_same, ← loU_congr i hl]
  · by_cases e : j = i
    · subst e; rw [ho] at ho'; injection ho' with ho'; subst ho'; exact hrc
    · have hj' : j < i := by omega
      have old := s.rc j o' hj' ho'
      have ecj := cvU_congr (cv0 := cv0) (ops := ops) j (fun k hk => hl k (show k < i by omega))
      refine ⟨fun hk => ?_, fun q I O hk => ?_, fun q I O hk => ?_⟩
      · rw [setR_ne e] at hk ⊢
        rw [← ecj]
        rcases old.calm hk with hc | hc
        · exact .inl hc
        · exact hrd j o' hj' ho' hk hc
      · rw [setR_ne e] at hk ⊢
        rw [← ecj, ← nxU_congr j (fun k hk => hl k (show k < i by omega))]
        exact old.act q I O hk
      · rw [setR_ne e] at hk
        rw [← nxU_congr j (fun k hk => hl k (show k < i by omega)), ← loU_congr j (fun k hk => hl k (show k < i by omega))]
        exact old.lo q I O hk
  · by_cases e : k = i
    · subst e; rw [ho] at hy; injection hy with hy; subst hy
      rw [setR_same] at hk
      exact (hkd q I O hk).2
    · rw [setR_ne e] at hk
      exact s.is k y q I O hy hk
theorem St.stay (op : Opn ops bf) {h : Hp} {fs : Frees} (s : St P ops bf cv0 h0 f i c h fs) (r : Option AV × Kd) :
    (Kn h0 (setR f i r) (BS bf c) → ∀ b x, h.tr.get (path b) = some x → ∃ j, j ≤ c ∧ At h0 (setR f i r) (BS bf c) b x j) ∧
    (∀ e ∈ fs, e.1 < i + 1 ∧ BS bf c e.1 = false ∧ ∀ b x, (b, x) ∈ e.2 → May h0 (setR f i r) e.1 b ∧ (setR f i r e.1).2.out b = some x) ∧
    (∀ k, k < i → (setR f i r k).2.isCalm = false → BS bf c k = true ∨ ∃ e ∈ fs, e.1 = k ∧ ∀ b x, May h0 (setR f i r) k b → (setR f i r k).2.out b = some x → (b, x) ∈ e.2) := by
  have hl := setR_lt f i r
  have hA : ∀ k, BS bf c k = true → k < i := fun k hk => by have := BS_lt op hk; have := s.ci; omega
  refine ⟨fun kn b x hx => ?_, fun e he => ?_, fun k hk hc => ?_⟩
  · obtain ⟨j, hj, a⟩ := s.tr (kn.congr hl hA) b x hx
    exact ⟨j, hj, a.congr hl hA⟩
  · obtain ⟨e1, e2, e3⟩ := s.pend e he
    refine ⟨by omega, e2, fun b x hm => ?_⟩
    obtain ⟨e4, e5⟩ := e3 b x hm
    exact ⟨(May.congr hl e1).1 e4, by rw [← hl e.1 e1]; exact e5⟩
  · rw [← hl k hk] at hc
    rcases s.all k hk hc with h | ⟨e, h1, h2, h3⟩
    · exact .inl h
    · exact .inr ⟨e, h1, h2, fun b x hm hx => h3 b x ((May.congr hl hk).2 hm) (by rw [hl k hk]; exact hx)⟩
theorem Sr.keep (op : Opn ops bf) {r : Option AV × Kd} (hb : ¬ BarC P ops bf i) (hsp : r.2.isSpot = false) : ∀ j o', j < i → ops[j]? = some o' → (f j).2 = .calm → RdAt P ops bf cv0 h0 f i j o' → CalmAt P ops o' (cvU cv0 ops f j) (f j).1 ∨ RdAt P ops bf cv0 h0 (setR f i r) (i + 1) j o' :=
  fun j o' hj _ _ q => .inr (q.next op hj fun v xs _ _ c c1 c2 _ hc => by
    rcases hc with rfl | ⟨h, -⟩
    · exact absurd (c2 i rfl) hb
    · rw [hsp] at h; cases h)
end
theorem newsT_has {t : Tr Blk} {b : Nat} {x : Blk} (h : t.get (path b) = some x) : ∀ {m n : Nat}, n ≤ b → b < n + m → (b, x) ∈ newsT t n m
  | 0, n, h1, h2 => by omega
  | m + 1, n, h1, h2 => by
    unfold newsT
    by_cases e : n = b
    · subst e
      rw [h]
      exact List.mem_cons_self ..
    · have ih := newsT_has h (m := m) (n := n + 1) (by omega) (by omega)
      cases t.get (path n) with
      | none => exact ih
      | some y => exact List.mem_cons_of_mem _ ih
theorem leaf_one {b b' : Nat} {y x : Blk} (h : (Tr.leaf.set (path b) (some y)).get (path b') = some x) : b' = b ∧ x = y := by
  rw [get_set] at h
  split at h
  · rename_i hp
    injection h with h
    exact ⟨path_inj hp, h.symm⟩
  · rw [get_leaf] at h; cases h
theorem Acts.sub {o : Oper} {cv : Cv} {I O O' : Hp} {v : AV} (h : Acts P o cv I v O) (hq : quietOp P o.op = false) (h1 : O'.nx = O.nx) (h2 : O'.lo = O.lo) (h3 : ∀ b x, O'.tr.get (path b) = some x → O.tr.get (path b) = some x) : Acts P o cv I v O' := by
  obtain ⟨xs, g1, g2, -⟩ := h
  refine ⟨xs, g1, fun β w a hr hg hx K Q hK => g2 β w a hr hg hx K Q fun β' w' u s hu => hK β' w' u ⟨⟨fun b x hb => by rw [h1]; exact s.hr.blk b x (h3 b x hb), fun b b' x x' c κ κ' hb hb' => s.hr.inj b b' x x' c κ κ' (h3 b x hb) (h3 b' x' hb'), by rw [h1]; exact s.hr.fresh, by rw [h1, h2]; exact s.hr.low⟩, by rw [h1]; exact s.nx, by rw [h2]; exact s.lo, s.old, fun b x hb hx => s.dom b x hb (h3 b x hx), fun b c κ hb e => by rw [h2]; exact s.new b c κ hb e, by rw [h2]; exact s.kept⟩ hu, fun h => by rw [hq] at h; cases h⟩
theorem runFree_spec {callf : CallF} (hcall : CallSound P callf) {keep : Nat} {ops : List Oper} {bf : List Nat} (op : Opn ops bf) {cv0 : Cv} {h0 : Hp} : ∀ (rest : List Oper) (bs : List Nat) (D : Dl) (now i c : Nat) (L : List AV) (env : Tr AV) (h : Hp) (fs : Frees) (Hs : List (Nat × Hp)) (Rs : Rds) (k : Tr AV → Hp → Ans) (f : Rcs),
    ops.drop i = rest → bf.drop i = bs → Pl P keep rest D now L env (cvU cv0 ops f i) → St P ops bf cv0 h0 f i c h fs → Sr P ops bf cv0 h0 f i c Hs Rs →
    runFree callf (mkCOs.go P ops keep true bf rest bs D now i) L env h fs Hs Rs k = .yes →
    ∃ f' env' h', k env' h' = .yes ∧ EnvK keep env' ∧ Pt bf h0 f' ∧ AllIs P ops bf f' ∧ (∀ j o, ops[j]? = some o → RcI P ops bf cv0 h0 f' ops.length j o) ∧ (∀ j, ops.length ≤ j → (f' j).2 = .calm) ∧ (Kn h0 f' (fun k => decide (k < ops.length)) → ∀ b x, h'.tr.get (path b) = some x → ∃ j, j ≤ ops.length ∧ At h0 f' (fun k => decide (k < ops.length)) b x j) ∧ h'.nx = nxU h0 f' ops.length ∧ h'.lo = loU h0 f' ops.length ∧ ∀ t av, env'.get (path t) = some av → cvU cv0 ops f' ops.length t = some av
  | [], bs, D, now, i, c, L, env, h, fs, Hs, Rs, k, f, hd, hb, pl, st, sr, H => by
    have hi : i = ops.length := by
      have := congrArg List.length hd
      simp at this
      have := st.le
      omega
    subst hi
    have H : flushAll fs h (fun h => k env h) = .yes := by cases bs <;> exact H
    rw [flushAll_eq] at H
    refine ⟨f, env, _, H, pl.envK, st.pt, st.is, fun j o ho => st.rc j o (List.getElem?_eq_some_iff.1 ho).1 ho, st.out, fun kn b x hx => ?_, st.nx, st.lo, pl.envC⟩
    have heq : flushT (fun _ => true) fs h.tr = flushT (fun k => decide (k < ops.length)) fs h.tr := by
      have : ∀ fs : Frees, (∀ e ∈ fs, e.1 < ops.length) → flushT (fun _ => true) fs h.tr = flushT (fun k => decide (k < ops.length)) fs h.tr := by
        intro fs
        induction fs with
        | nil => intro _; rfl
        | cons e fs ih =>
          intro hlt
          unfold flushT
          rw [ih fun e' he' => hlt e' (List.mem_cons_of_mem _ he'), if_pos rfl, if_pos (by simpa using hlt e (List.mem_cons_self ..))]
      exact this fs fun e he => (st.pend e he).1
    refine st.flush op (A := fun k => decide (k < ops.length)) (fun k hk => of_decide_eq_true hk) (fun k j hk hm => ?_) (fun k hk => ?_) kn (b := b) (x := x) ?_
    · have := op.lt_ k j hm; have := of_decide_eq_true hk; simp; omega
    · have := BS_lt op hk; have := st.ci; simp; omega
    · rw [← heq]; exact hx
  | o :: rest, bs, D, now, i, c, L, env, h, fs, Hs, Rs, k, f, hd, hb, pl, st, sr, H => by
    have ho : ops[i]? = some o := by
      have := List.getElem?_drop (xs := ops) (i := i) (j := 0)
      rw [hd] at this
      simpa using this.symm
    have hi : i < ops.length := (List.getElem?_eq_some_iff.1 ho).1
    have hd' : ops.drop (i + 1) = rest := by rw [← List.tail_drop, hd]; rfl
    obtain ⟨bs', hbs, hb'⟩ : ∃ bs', bs = bf.getD i 0 :: bs' ∧ bf.drop (i + 1) = bs' := by
      have hlt : i < bf.length := by rw [op.len]; exact hi
      refine ⟨bf.drop (i + 1), ?_, rfl⟩
      rw [← hb, List.drop_eq_getElem_cons hlt, List.getD_eq_getElem?_getD, List.getElem?_eq_getElem hlt]; rfl
    subst hbs
    have ecv : ∀ r, cvU cv0 ops (setR f i r) i = cvU cv0 ops f i := fun r => (cvU_congr i (setR_lt f i r)).symm
    have enx : ∀ r, nxU h0 (setR f i r) i = h.nx := fun r => by rw [st.nx]; exact (nxU_congr i (setR_lt f i r)).symm
    have elo : ∀ r, loU h0 (setR f i r) i = h.lo := fun r => by rw [st.lo]; exact (loU_congr i (setR_lt f i r)).symm
    have ecv1 : ∀ r, cvU cv0 ops (setR f i r) (i + 1) = updO (cvU cv0 ops f i) o.dst r.1 := fun r => by
      show updO (cvU cv0 ops (setR f i r) i) (dstAt ops i) (setR f i r i).1 = _
      rw [ecv, setR_same, dstAt_at ho]
    have barI : ∀ {cls}, clsOf P ops bf i o (bf.getD i 0) = cls → (∀ m, cls ≠ .bar m) → ¬ BarC P ops bf i := fun {cls} hc hn ⟨o', m, h1, h2⟩ => by
      rw [ho] at h1; injection h1 with h1; subst h1
      rw [hc] at h2; exact hn m h2
    have calmRc : ∀ out, CalmAt P ops o (cvU cv0 ops f i) out → RcI P ops bf cv0 h0 (setR f i (out, .calm)) (i + 1) i o := fun out hc =>
      ⟨(fun _ => by left; rw [ecv, setR_same]; exact hc), (fun q I O hk => by rw [setR_same] at hk; cases hk), (fun q I O hk => by rw [setR_same] at hk; cases hk)⟩
    have calmSt : ∀ out, ¬ BarC P ops bf i → CalmAt P ops o (cvU cv0 ops f i) out → St P ops bf cv0 h0 (setR f i (out, .calm)) (i + 1) c h fs := fun out hnb hc => by
      obtain ⟨s1, s2, s3⟩ := st.stay op (out, .calm)
      refine st.next op ho (.inl ⟨rfl, hnb⟩) (calmRc out hc) (fun q I O hk => by cases hk) (fun k _ _ hk => by cases hk) (fun q I O hk => by cases hk) (Sr.keep op hnb rfl) rfl rfl s1 s2 (fun k hk hcalm => ?_) st.srt
      by_cases e : k = i
      · rw [e, setR_same] at hcalm; cases hcalm
      · exact s3 k (by omega) hcalm
    have calmSr : ∀ out, ¬ BarC P ops bf i → CalmAt P ops o (cvU cv0 ops f i) out → Sr P ops bf cv0 h0 (setR f i (out, .calm)) (i + 1) c Hs Rs := fun out hnb hc =>
      sr.next op hnb rfl (fun e he => he) sr.rs_ (fun e he => Nat.lt_succ_of_lt (sr.lt e he)) fun _ o' ho' => by rw [ho] at ho'; injection ho' with ho'; subst ho'; exact .inl hc
    have newCase : ∀ (q : Kind) (t' : Tr Blk) (v : AV) (O : Hp), (q = .gen ∨ q = .mk) → ¬ BarC P ops bf i → wantedA ops (cvU cv0 ops f i) o = some true → Acts P o (cvU cv0 ops f i) (.mk t' h.nx h.nx) v O → O.lo = h.nx → h.nx ≤ O.nx → KdIs q (.mk t' h.nx h.nx) O (clsOf P ops bf i o (bf.getD i 0)) →
        (Kn h0 f (ancS bf i) → ∀ b x, t'.get (path b) = some x → ∃ j, j ≤ i ∧ At h0 f (ancS bf i) b x j) →
        (∀ k, k < i → (f k).2.isCalm = false → inMask (bf.getD i 0) k = false → ∀ b x, t'.get (path b) = some x → (f k).2.has b → (f k).2.wr = false) →
        St P ops bf cv0 h0 (setR f i (some v, .act q (.mk t' h.nx h.nx) O)) (i + 1) c (.mk h.tr O.nx h.lo) ((i, newsT O.tr h.nx (O.nx - h.nx)) :: fs) ∧ Sr P ops bf cv0 h0 (setR f i (some v, .act q (.mk t' h.nx h.nx) O)) (i + 1) c Hs Rs := by
      intro q t' v O hq hnb hw ha hOl hOn kd hsrc hap
      have hsp : Kd.isSpot (.act q (.mk t' h.nx h.nx) O) = false := by rcases hq with rfl | rfl <;> rfl
      have hwr : q.wr = false := by rcases hq with rfl | rfl <;> rfl
      have hwr2 : Kd.wr (.act q (.mk t' h.nx h.nx) O) = false := hwr
      have hnbar : q ≠ .bar := by rcases hq with rfl | rfl <;> simp
      have hlo : Kd.lo h.lo (.act q (.mk t' h.nx h.nx) O) = h.lo := by rcases hq with rfl | rfl <;> rfl
      obtain ⟨s1, s2, s3⟩ := st.stay op (some v, .act q (.mk t' h.nx h.nx) O)
      have hbsi : BS bf c i = false := by
        cases hb : BS bf c i with
        | false => rfl
        | true => have := BS_lt op hb; have := st.ci; omega
      have eR : setR f i (some v, .act q (.mk t' h.nx h.nx) O) i = (some v, .act q (.mk t' h.nx h.nx) O) := setR_same ..
      have enx1 : nxU h0 (setR f i (some v, .act q (.mk t' h.nx h.nx) O)) (i + 1) = O.nx := by
        show (setR f i (some v, .act q (.mk t' h.nx h.nx) O) i).2.nx _ = _
        rw [eR]; rfl
      refine ⟨st.next op ho (.inl ⟨rfl, hnb⟩) ⟨fun hk => by (rw [eR] at hk; cases hk), fun q' I' O' hk => ?_, fun q' I' O' hk => ?_⟩ (fun q' I' O' hk => ?_) (fun k hk hc _ hm b hb hb' => ⟨hwr2, ?_⟩) (fun q' I' O' hk => ?_) (Sr.keep op hnb hsp) rfl hlo.symm s1 (fun e he => ?_) (fun k hk hc => ?_) (List.pairwise_cons.2 ⟨fun e he => (st.pend e he).1, st.srt⟩), sr.next op hnb hsp (fun e he => he) sr.rs_ (fun e he => Nat.lt_succ_of_lt (sr.lt e he)) fun hk => by cases hk⟩
      · rw [eR] at hk ⊢
        injection hk with k1 k2 k3; subst k1; subst k2; subst k3
        rw [ecv, enx]
        exact ⟨⟨v, rfl, hw, ha⟩, rfl, hOn⟩
      · rw [eR] at hk
        injection hk with k1 k2 k3; subst k1; subst k2; subst k3
        rw [enx]
        exact ⟨fun h => absurd h hnbar, fun _ => rfl, fun _ => by rw [hOl]; exact Nat.le_refl _⟩
      · injection hk with k1 k2 k3; subst k1; subst k2; subst k3
        exact hsrc
      · obtain ⟨x, hx⟩ := hb
        exact hap k hk hc hm b x hx hb'
      · injection hk with k1 k2 k3; subst k1; subst k2; subst k3
        exact ⟨hOn, kd⟩
      · rcases List.mem_cons.1 he with rfl | he
        · refine ⟨Nat.lt_succ_self i, hbsi, fun b x hm => ?_⟩
          obtain ⟨a1, a2, a3⟩ := newsT_mem hm
          refine ⟨⟨by rw [eR]; rfl, .inr ⟨by rw [enx]; exact a1, by rw [enx1]; omega⟩⟩, by rw [eR]; exact a3⟩
        · exact s2 e he
      · by_cases e : k = i
        · subst e
          refine .inr ⟨_, List.mem_cons_self .., rfl, fun b x hm hx => ?_⟩
          rw [eR] at hx
          rcases hm.2 with ⟨w1, -⟩ | ⟨w1, w2⟩
          · rw [eR, hwr2] at w1; cases w1
          · rw [enx] at w1
            rw [enx1] at w2
            exact newsT_has hx w1 (by omega)
        · rcases s3 k (by omega) hc with h | ⟨e', h1, h2, h3⟩
          · exact .inl h
          · exact .inr ⟨e', List.mem_cons_of_mem _ h1, h2, h3⟩
    rw [mkCOs.go] at H
    cases hal : aliasOf keep rest D o with
    | some e =>
      rw [hal] at H
      dsimp only at H
      obtain ⟨d, t, hdst, hg0, hop, pl'⟩ := pl.alias hal
      have hq : quietOp P o.op = true := by rw [hop]; rfl
      have hcl : clsOf P ops bf i o (bf.getD i 0) = .quiet := by unfold clsOf; rw [if_pos hq]
      have hnb := barI hcl (by simp)
      have hca : CalmAt P ops o (cvU cv0 ops f i) (cvU cv0 ops f i t) := .inr (.inr ⟨hg0, t, hop, rfl⟩)
      refine runFree_spec hcall op rest bs' _ _ (i + 1) c _ _ h fs Hs Rs k (setR f i (cvU cv0 ops f i t, .calm)) hd' hb' ?_ (calmSt _ hnb hca) (calmSr _ hnb hca) H
      rw [ecv1]; exact pl'
    | none =>
      rw [hal] at H
      dsimp only at H
      rw [runFree_cons] at H
      have his := cls_is (P := P) ops bf i o (bf.getD i 0)
      cases hcl : clsOf P ops bf i o (bf.getD i 0) with
      | quiet =>
        rw [hcl] at his H
        cases his with
        | quiet hq =>
          have hnb := barI hcl (by simp)
          rw [if_neg (by rw [isBar_mk.1 (by simp)]; simp), if_neg (by rw [isRd_mk (by simp)]; simp), if_neg (by rw [spotQ_mk (by simp)]; simp)] at H
          obtain ⟨v, h1, H1, hdo, -⟩ := mkCO_line hcall (.inl rfl) pl.loc H
          have hh : h1 = h ∧ CalmAt P ops o (cvU cv0 ops f i) (some v) := by
            rcases hdo with ⟨hw, xs, hx, -, hq2⟩ | ⟨hw, h2, h3⟩
            · exact ⟨(hq2 hq).1, .inl ⟨hw, v, xs, rfl, hx, (hq2 hq).2⟩⟩
            · exact ⟨h3, .inr (.inl ⟨hw, by rw [h2]⟩)⟩
          obtain ⟨rfl, hcalm⟩ := hh
          refine runFree_spec hcall op rest bs' _ _ (i + 1) c _ _ h1 fs Hs Rs k (setR f i (some v, .calm)) hd' hb' ?_ (calmSt _ hnb hcalm) (calmSr _ hnb hcalm) H1
          rw [ecv1]; exact pl.push v
      | rd m =>
        rw [hcl] at his H
        cases his with
        | rd hq hrd =>
          have hnb := barI hcl (by simp)
          have hg := rdB_guard hrd
          obtain ⟨e1, e2, e3⟩ := rdIx_mk (P := P) (ops := ops) (keep := keep) (m := bf.getD i 0) (D := D) (now := now) (i := i) hg
          rw [if_neg (by rw [isBar_mk.1 (by simp)]; simp), if_pos e2, e1, e3] at H
          obtain ⟨v, xs, H1, hx, hlow, hri⟩ := rdCO_yes hcall hg pl.loc H
          obtain ⟨H2, hH⟩ := allHs_yes (r := i) (Q := ReadIn P o xs v) st.is (fun H y hy => chkRd_yes hcall hg pl.loc hx hy) sr.hs H1
          have hw : wantedA ops (cvU cv0 ops f i) o = some true := by unfold wantedA; rw [hg]
          have rd0 : RdAt P ops bf cv0 h0 f i i o → True := fun _ => trivial
          have hl := setR_lt f i (some v, Kd.calm)
          have hrdat : RdAt P ops bf cv0 h0 (setR f i (some v, .calm)) (i + 1) i o := by
            refine ⟨by rw [ecv]; exact hw, v, xs, by rw [setR_same], by rw [ecv]; exact hx, by rw [enx]; exact hlow, by rw [enx]; exact hri.nx, fun cc c1 c2 c3 c4 => ?_⟩
            have hci : cc ≤ i := Classical.byContradiction fun hn => by
              obtain rfl : cc = i + 1 := by omega
              exact hnb (c2 i rfl)
            obtain ⟨H', g1, g2⟩ := hH cc hci c2 (fun d a b _ => c3 d a b)
            exact ⟨H', g1, g2.congr op hl hci fun k e hs => by subst e; rw [setR_same] at hs; cases hs⟩
          obtain ⟨s1, s2, s3⟩ := st.stay op (some v, .calm)
          refine runFree_spec hcall op rest bs' _ _ (i + 1) c _ _ h fs Hs _ k (setR f i (some v, .calm)) hd' hb' ?_ (st.next op ho (.inl ⟨rfl, hnb⟩) ⟨fun _ => .inr hrdat, fun q I O hk => by (rw [setR_same] at hk; cases hk), fun q I O hk => by (rw [setR_same] at hk; cases hk)⟩ (fun q I O hk => by cases hk) (fun k _ _ hk => by cases hk) (fun q I O hk => by cases hk) (Sr.keep op hnb rfl) rfl rfl s1 s2 (fun k hk hcalm => ?_) st.srt) (sr.next op hnb rfl (fun e he => List.mem_cons_of_mem _ he) (fun e he Hh y hy => ?_) (fun e he => ?_) fun _ o' _ => .inr ⟨_, List.mem_cons_self .., rfl⟩) H2
          · rw [ecv1]; exact pl.push v
          · by_cases e : k = i
            · rw [e, setR_same] at hcalm; cases hcalm
            · exact s3 k (by omega) hcalm
          · rcases List.mem_cons.1 he with rfl | he
            · obtain ⟨q1, q2⟩ := chkRd_yes hcall hg pl.loc hx hy
              exact ⟨q1, o, v, xs, ho, by rw [setR_same], by rw [ecv]; exact hx, q2⟩
            · exact sr.rs_ e he Hh y hy
          · rcases List.mem_cons.1 he with rfl | he
            · exact Nat.lt_succ_self i
            · exact Nat.lt_succ_of_lt (sr.lt e he)
      | mk m =>
        rw [hcl] at his H
        cases his with
        | mk hq hrd hmk =>
          have hnb := barI hcl (by simp)
          rw [if_neg (by rw [isBar_mk.1 (by simp)]; simp), if_neg (by rw [isRd_mk (by simp)]; simp), if_neg (by rw [spotQ_mk (by simp)]; simp)] at H
          rcases mkCO_free hcall (.inr ⟨rfl, rfl⟩) pl.loc H with ⟨v, O, hw, ha, h1, h2, H1⟩ | ⟨hw, H1⟩
          · obtain ⟨s1, s2⟩ := newCase .mk .leaf v O (.inr rfl) hnb hw ha h1 h2 ⟨by rw [hcl]; exact ⟨_, rfl⟩, (fun _ b => get_leaf _), (fun h => by cases h)⟩ (fun _ b x hx => by rw [get_leaf] at hx; cases hx) (fun k _ _ _ b x hx => by rw [get_leaf] at hx; cases hx)
            refine runFree_spec hcall op rest bs' _ _ (i + 1) c _ _ _ _ Hs Rs k _ hd' hb' ?_ s1 s2 H1
            rw [ecv1]; exact pl.push v
          · have hca : CalmAt P ops o (cvU cv0 ops f i) (some (.tup [])) := .inr (.inl ⟨hw, rfl⟩)
            refine runFree_spec hcall op rest bs' _ _ (i + 1) c _ _ h fs Hs Rs k (setR f i (some (.tup []), .calm)) hd' hb' ?_ (calmSt _ hnb hca) (calmSr _ hnb hca) H1
            rw [ecv1]; exact pl.push _
      | bar m =>
        rw [hcl] at his H
        cases his with
        | bar hq hrd hmk hbb =>
          have hbc : BarC P ops bf i := ⟨o, _, ho, hcl⟩
          rcases (isBar_mk (P := P) (ops := ops) (keep := keep) (o := o) (D := D) (now := now) (cls := .bar (bf.getD i 0)) (i := i)).2 _ rfl with ⟨hbar, hbm, hbi⟩ | hbad
          · rw [if_pos hbar, hbm] at H
            obtain ⟨v, h1, H1, hdo, hn⟩ := mkCO_line hcall (.inr ⟨_, rfl⟩) pl.loc H
            have hn : h.nx ≤ h1.nx := hn (by simp)
            obtain ⟨Rs', H2, hsub, hall⟩ := allRs_yes sr.rs H1
            rw [hbi] at H2
            have hAi : ∀ k, ancS bf i k = true → k < i := fun k hk => op.lt_ i k hk
            have hBi : ∀ k, BS bf (i + 1) k = true → k < i + 1 := fun k hk => BS_lt op hk
            have ancB : ∀ k, ancS bf i k = true → BS bf (i + 1) k = true := fun k hk => by
              show (decide (k = i) || inMask (bf.getD i 0) k) = true
              rw [show inMask (bf.getD i 0) k = true from hk, Bool.or_true]
            have hflush : Kn h0 f (ancS bf i) → ∀ b x, (flushT (fun j => inMask (bf.getD i 0) j) fs h.tr).get (path b) = some x → ∃ j, j ≤ i ∧ At h0 f (ancS bf i) b x j := fun kn b x hx => st.flush op (A := ancS bf i) hAi (anc_down op i) (st.below op hbc.held) kn hx
            have go : ∀ (r : Option AV × Kd), r.1 = some v → r.2.isSpot = false → RcI P ops bf cv0 h0 (setR f i r) (i + 1) i o →
                (∀ q I O, r.2 = .act q I O → Kn h0 f (ancS bf i) → ∀ b x, I.tr.get (path b) = some x → ∃ j, j ≤ i ∧ At h0 f (ancS bf i) b x j) →
                (∀ q I O, r.2 = .act q I O → h.nx ≤ O.nx ∧ KdIs q I O (clsOf P ops bf i o (bf.getD i 0))) → h1.nx = r.2.nx h.nx → h1.lo = r.2.lo h.lo →
                (Kn h0 (setR f i r) (BS bf (i + 1)) → ∀ b x, h1.tr.get (path b) = some x → ∃ j, j ≤ i + 1 ∧ At h0 (setR f i r) (BS bf (i + 1)) b x j) →
                (r.2 = .calm → CalmAt P ops o (cvU cv0 ops f i) r.1) →
                ∃ f' env' h', k env' h' = .yes ∧ EnvK keep env' ∧ Pt bf h0 f' ∧ AllIs P ops bf f' ∧ (∀ j o, ops[j]? = some o → RcI P ops bf cv0 h0 f' ops.length j o) ∧ (∀ j, ops.length ≤ j → (f' j).2 = .calm) ∧ (Kn h0 f' (fun k => decide (k < ops.length)) → ∀ b x, h'.tr.get (path b) = some x → ∃ j, j ≤ ops.length ∧ At h0 f' (fun k => decide (k < ops.length)) b x j) ∧ h'.nx = nxU h0 f' ops.length ∧ h'.lo = loU h0 f' ops.length ∧ ∀ t av, env'.get (path t) = some av → cvU cv0 ops f' ops.length t = some av := by
              intro r hrv hsp hrc hsrc hkd e1 e2 htr hca
              have hl := setR_lt f i r
              obtain ⟨-, s2, s3⟩ := st.stay op r
              have nx1 : h1.nx = nxU h0 (setR f i r) (i + 1) := by
                show _ = (setR f i r i).2.nx (nxU h0 (setR f i r) i)
                rw [setR_same, enx]; exact e1
              have hrd : ∀ j o', j < i → ops[j]? = some o' → (f j).2 = .calm → RdAt P ops bf cv0 h0 f i j o' → CalmAt P ops o' (cvU cv0 ops f j) (f j).1 ∨ RdAt P ops bf cv0 h0 (setR f i r) (i + 1) j o' := fun j o' hj ho' hk q => by
                rcases sr.all j o' hj ho' hk with g | g
                · exact .inl g
                · refine .inr (q.next op hj fun v' xs' g1 g2 cc c1 c2 c4 hc => ?_)
                  rcases hc with rfl | ⟨hs, -⟩
                  · rcases g with ⟨k', k1, k2, k3⟩ | ⟨e, he, hej⟩
                    · rw [c4 k' k2 (by omega)] at k3; cases k3
                    · rcases hall e he with g3 | ⟨-, o2, v2, xs2, q1, q2, q3, q4⟩
                      · rw [hej, c4 i hbc (by omega)] at g3; cases g3
                      · rw [hej] at q1 q2 q3
                        rw [ho'] at q1; injection q1 with q1; subst q1
                        rw [g1] at q2; injection q2 with q2; subst q2
                        rw [g2] at q3; injection q3 with q3; subst q3
                        exact ⟨h1, q4, nx1, htr, fun k a b => by omega⟩
                  · rw [hsp] at hs; cases hs
              refine runFree_spec hcall op rest bs' _ _ (i + 1) (i + 1) _ _ h1 (keepT (bf.getD i 0) fs) ((i, h1) :: Hs) Rs' k (setR f i r) hd' hb' ?_ (st.next op ho (.inr ⟨rfl, hbc⟩) hrc hsrc (fun k hk hc _ hm b _ hb' => ?_) hkd hrd e1 e2 htr (fun e he => ?_) (fun k hk hc => ?_) (keepT_srt st.srt)) ⟨⟨⟨nx1, htr, fun k a b => by omega⟩, Nat.le_refl _, fun k a b => by omega, .inr ⟨i, c, rfl, rfl, hbc, sr.hs.congr op hl⟩⟩, fun e he => sr.rs_ e (hsub e he), fun e he => Nat.lt_succ_of_lt (sr.lt e (hsub e he)), fun j o' hj ho' hk => ?_⟩ H2
              · rw [ecv1, hrv]; exact pl.push v
              · exfalso
                obtain ⟨y, hy⟩ : ∃ y, ops[k]? = some y := ⟨_, List.getElem?_eq_getElem (by omega)⟩
                cases hfk : (f k).2 with
                | calm => rw [hfk] at hc; cases hc
                | act q I O' =>
                  have kd := st.is k y q I O' hy hfk
                  by_cases hqm : q = .mk
                  · rw [hfk] at hb'
                    obtain ⟨x, hx⟩ := hb'
                    rw [kd.emp hqm b] at hx; cases hx
                  · have := (bar_ord op hbc (kd_held hy kd hqm)).1 hk
                    rw [hm] at this; cases this
              · obtain ⟨g1, g2⟩ := keepT_mem.1 he
                obtain ⟨g3, g4, g5⟩ := s2 e g1
                refine ⟨g3, ?_, g5⟩
                have hei : e.1 ≠ i := fun h => by have := (st.pend e g1).1; omega
                show (decide (e.1 = i) || inMask (bf.getD i 0) e.1) = false
                rw [g2, decide_eq_false hei]; rfl
              · by_cases e : k = i
                · left
                  show (decide (k = i) || inMask (bf.getD i 0) k) = true
                  rw [decide_eq_true e]; rfl
                · cases hm : inMask (bf.getD i 0) k with
                  | true => exact .inl (ancB k hm)
                  | false =>
                    rcases s3 k (by omega) hc with g | ⟨e', g1, g2, g3⟩
                    · have := st.below op hbc.held k g
                      rw [show ancS bf i k = inMask (bf.getD i 0) k from rfl, hm] at this; cases this
                    · exact .inr ⟨e', keepT_mem.2 ⟨g1, by rw [g2]; exact hm⟩, g2, g3⟩
              · by_cases e : j = i
                · subst e
                  rw [ho] at ho'; injection ho' with ho'; subst ho'
                  rw [setR_same] at hk ⊢
                  left; rw [ecv]; exact hca hk
                · rw [setR_ne e] at hk ⊢
                  rw [← cvU_congr j (fun k hk => hl k (by omega))]
                  rcases sr.all j o' (by omega) ho' hk with g | ⟨k', g1, g2, g3⟩ | ⟨e', g1, g2⟩
                  · exact .inl g
                  · exact .inr (.inl ⟨k', by omega, g2, g3⟩)
                  · rcases hall e' g1 with g3 | ⟨g3, -⟩
                    · exact .inr (.inl ⟨i, Nat.lt_succ_self i, hbc, by rw [← g2]; exact g3⟩)
                    · exact .inr (.inr ⟨e', g3, g2⟩)
            rcases hdo with ⟨hw, ha⟩ | ⟨hw, hv, hh⟩
            · let I : Hp := .mk (flushT (fun j => inMask (bf.getD i 0) j) fs h.tr) h.nx h.lo
              have eR : setR f i (some v, .act .bar I h1) i = (some v, .act .bar I h1) := setR_same ..
              refine go (some v, .act .bar I h1) rfl rfl ⟨fun hk => by (rw [eR] at hk; cases hk), fun q' I' O' hk => ?_, fun q' I' O' hk => ?_⟩ (fun q' I' O' hk => ?_) (fun q' I' O' hk => ?_) rfl rfl (fun kn b x hx => ?_) fun hk => by cases hk
              · rw [eR] at hk ⊢
                injection hk with k1 k2 k3; subst k1; subst k2; subst k3
                rw [ecv, enx]
                exact ⟨⟨v, rfl, hw, ha⟩, rfl, hn⟩
              · rw [eR] at hk
                injection hk with k1 k2 k3; subst k1; subst k2; subst k3
                rw [elo]
                exact ⟨fun _ => rfl, fun h => absurd rfl h, fun h => by cases h⟩
              · injection hk with k1 k2 k3; subst k1; subst k2; subst k3
                exact hflush
              · injection hk with k1 k2 k3; subst k1; subst k2; subst k3
                exact ⟨hn, by rw [hcl]; exact ⟨_, rfl⟩, (fun h => by cases h), (fun h => by cases h)⟩
              · have hbsi : BS bf (i + 1) i = true := by
                  show (decide (i = i) || inMask (bf.getD i 0) i) = true
                  rw [decide_eq_true rfl]; rfl
                obtain ⟨d1, d2, -⟩ := kn.ex i hbsi .bar I h1 (by rw [eR])
                refine ⟨i + 1, Nat.le_refl _, .inr ⟨i, rfl, hbsi, ⟨by rw [eR]; rfl, ?_⟩, by rw [eR]; exact hx⟩, fun k hk hb => by have := hBi k hb; omega⟩
                by_cases hlt : b < h.nx
                · left
                  rw [eR]
                  exact ⟨rfl, d2 b x hlt hx⟩
                · right
                  rw [enx]
                  refine ⟨by omega, ?_⟩
                  show b < (setR f i (some v, .act .bar I h1) i).2.nx _
                  rw [eR]; exact d1 b x hx
            · subst hh
              have eR : setR f i (some v, .calm) i = (some v, .calm) := setR_same ..
              have hca : CalmAt P ops o (cvU cv0 ops f i) (some v) := .inr (.inl ⟨hw, by rw [hv]⟩)
              refine go (some v, .calm) rfl rfl (calmRc _ hca) (fun q' I' O' hk => by cases hk) (fun q' I' O' hk => by cases hk) rfl rfl (fun kn b x hx => ?_) fun _ => hca
              have hl := setR_lt f i (some v, Kd.calm)
              obtain ⟨j, hj, a⟩ := hflush ((kn.sub ancB).congr hl hAi) b x hx
              have a' := a.congr hl hAi
              refine ⟨j, by omega, a'.src.imp id fun ⟨k, g1, g2, g3⟩ => ⟨k, g1, ancB k g2, g3⟩, fun k hk hb hm => ?_⟩
              by_cases e : k = i
              · have := hm.1
                rw [e, eR] at this; cases this
              · replace hb : (decide (k = i) || inMask (bf.getD i 0) k) = true := hb
                rw [decide_eq_false e, Bool.false_or] at hb
                exact a'.last k hk hb hm
          · rw [hbad] at H
            cases H
      | spot m =>
        rw [hcl] at his H
        cases his with
        | spot hq hrd hmk hbb hst hsps =>
          have hnb := barI hcl (by simp)
          have hheld : HeldC P ops bf i := ⟨o, ho, by rw [hcl]; rfl⟩
          have hg : o.guard = none := by
            unfold stB at hst
            rw [Bool.and_eq_true] at hst
            exact Option.isNone_iff_eq_none.1 hst.2
          obtain ⟨eq1, eq2⟩ := spotX_mk (P := P) (ops := ops) (keep := keep) (m := bf.getD i 0) (o := o) (D := D) (now := now) (i := i) hg
          rw [if_neg (by rw [isBar_mk.1 (by simp)]; simp), if_neg (by rw [isRd_mk (by simp)]; simp), if_pos eq1, eq2] at H
          obtain ⟨v, b, blk, blk', O, hb, ha, hOn, hOl, hOb, hapt, H1⟩ := mkCO_spot hcall hg pl.loc H
          have hw : wantedA ops (cvU cv0 ops f i) o = some true := by unfold wantedA; rw [hg]
          cases Hs with
          | nil => cases H1
          | cons e0 Hs =>
          obtain ⟨c0, t, n, low⟩ := e0
          replace H1 : t.setP (path b) none (fun t => chkRs (bf.getD i 0) Rs (.mk t n low) (runFree callf (mkCOs.go P ops keep true bf rest bs' (match o.dst with | some d => (d, .inl now) :: D | none => D) (now + 1) (i + 1)) (v :: L) (putE (dstP keep o) v env) (.mk h.tr h.nx (min h.lo b)) ((i, [(b, blk')]) :: fs) ((c0, .mk t n low) :: Hs) Rs k)) = .yes := H1
          rw [setP_eq] at H1
          obtain ⟨H2, hchk⟩ := chkRs_yes sr.rs H1
          obtain ⟨hseg, hci, hnbs, hrest⟩ := sr.hs
          let I : Hp := .mk (Tr.leaf.set (path b) (some blk)) h.nx h.nx
          let O' : Hp := .mk (Tr.leaf.set (path b) (some blk')) h.nx b
          let r : Option AV × Kd := (some v, .act .spot I O')
          have hl := setR_lt f i r
          have eR : setR f i r i = r := setR_same ..
          have hasI : (Kd.act .spot I O').has b := ⟨blk, by show (Tr.leaf.set (path b) (some blk)).get (path b) = _; rw [get_set, if_pos rfl]⟩
          have hasB : ∀ {b'}, (Kd.act .spot I O').has b' → b' = b := fun {b'} ⟨x, hx⟩ => (leaf_one hx).1
          have hbsi : BS bf c i = false := by
            cases hb : BS bf c i with
            | false => rfl
            | true => have := BS_lt op hb; omega
          have rem : ∀ {b' x}, (t.set (path b) none).get (path b') = some x → b' ≠ b ∧ t.get (path b') = some x := fun {b' x} hx => by
            rw [get_set] at hx
            split at hx
            · cases hx
            · rename_i hp
              exact ⟨fun e => hp (by rw [e]), hx⟩
          have seg' : SegIn P ops bf h0 (setR f i r) (.mk (t.set (path b) none) n low) c (i + 1) := by
            have s0 := hseg.congr op hl hci
            refine ⟨s0.nx, fun kn b' x hx => s0.tr kn b' x (rem hx).2, fun k a bb hs b' hb' => ?_⟩
            by_cases e : k = i
            · subst e
              rw [eR] at hb'
              rw [hasB hb']
              show (t.set (path b) none).get (path b) = none
              rw [get_set, if_pos rfl]
            · have := s0.no k a (by omega) hs b' hb'
              cases hx : (Hp.mk (t.set (path b) none) n low).tr.get (path b') with
              | none => rfl
              | some x =>
                have h3 := (rem hx).2
                rw [show (Hp.mk t n low).tr.get (path b') = t.get (path b') from rfl, h3] at this; cases this
          obtain ⟨s1, s2, s3⟩ := st.stay op r
          refine runFree_spec hcall op rest bs' _ _ (i + 1) c _ _ (.mk h.tr h.nx (min h.lo b)) ((i, [(b, blk')]) :: fs) ((c0, .mk (t.set (path b) none) n low) :: Hs) Rs k (setR f i r) hd' hb' ?_ (st.next op ho (.inl ⟨rfl, hnb⟩) ⟨fun hk => by (rw [eR] at hk; cases hk), fun q' I' O2 hk => ?_, fun q' I' O2 hk => ?_⟩ (fun q' I' O2 hk kn b' x hx => ?_) (fun k hk hc _ hm b' hb1 hb2 => ?_) (fun q' I' O2 hk => ?_) (fun j o' hj ho' hk q => ?_) rfl rfl s1 (fun e he => ?_) (fun k hk hc => ?_) (List.pairwise_cons.2 ⟨fun e he => (st.pend e he).1, st.srt⟩)) ⟨⟨seg', Nat.le_succ_of_le hci, fun k a bb => ?_, hrest.imp id fun ⟨d, c', g1, g2, g3, g4⟩ => ⟨d, c', g1, g2, g3, g4.congr op fun k hk => hl k (by omega)⟩⟩, sr.rs_, fun e he => Nat.lt_succ_of_lt (sr.lt e he), fun j o' hj ho' hk => ?_⟩ H2
          · rw [ecv1]; exact pl.push v
          · rw [eR] at hk ⊢
            injection hk with k1 k2 k3; subst k1; subst k2; subst k3
            rw [ecv, enx]
            refine ⟨⟨v, rfl, hw, ha.sub hq hOn.symm hOl.symm fun b' x hx => ?_⟩, rfl, Nat.le_refl _⟩
            obtain ⟨rfl, rfl⟩ := leaf_one hx
            exact hOb
          · rw [eR] at hk
            injection hk with k1 k2 k3; subst k1; subst k2; subst k3
            rw [enx]
            exact ⟨fun h => (by cases h), fun _ => rfl, fun h => by cases h⟩
          · injection hk with k1 k2 k3; subst k1; subst k2; subst k3
            obtain ⟨rfl, rfl⟩ := leaf_one hx
            exact st.flush op (A := ancS bf i) (fun k hk => op.lt_ i k hk) (anc_down op i) (st.below op hheld) kn hb
          · exfalso
            obtain rfl := hasB hb1
            obtain ⟨y, hy⟩ : ∃ y, ops[k]? = some y := ⟨_, List.getElem?_eq_getElem (by omega)⟩
            cases hfk : (f k).2 with
            | calm => rw [hfk] at hc; cases hc
            | act q I2 O2 =>
              have kd := st.is k y q I2 O2 hy hfk
              by_cases hqm : q = .mk
              · rw [hfk] at hb2
                obtain ⟨x, hx⟩ := hb2
                rw [kd.emp hqm b'] at hx; cases hx
              · by_cases hqs : q = .spot
                · obtain ⟨bq, g1, y', g2⟩ := kd.spot hqs
                  have hb2' := hb2
                  rw [hfk] at hb2'
                  obtain ⟨x, hx⟩ := hb2'
                  obtain rfl := g1 b' x hx
                  rcases st.all k hk hc with g | ⟨e, g3, g4, g5⟩
                  · have := st.below op hheld k g
                    rw [show ancS bf i k = inMask (bf.getD i 0) k from rfl, hm] at this; cases this
                  · exact hapt e g3 (by rw [g4]; exact hm) y' (g5 b' y' ⟨hc, .inl ⟨by rw [hfk, hqs]; rfl, hb2⟩⟩ (by rw [hfk]; exact g2))
                · have hh := kd_held hy kd hqm
                  obtain ⟨y2, g1, g2⟩ := hh
                  rw [hy] at g1; injection g1 with g1; subst g1
                  rcases cls_spot op.len ho hcl hy g2 (by omega) (fun m' e => by
                    have := kd.cls
                    cases q with
                    | bar => obtain ⟨m2, e2⟩ := this; rw [e] at e2; cases e2
                    | gen => obtain ⟨m2, e2⟩ := this; rw [e] at e2; cases e2
                    | mk => exact hqm rfl
                    | spot => exact hqs rfl) with h | h
                  · have := op.lt_ k i h; omega
                  · rw [hm] at h; cases h
          · injection hk with k1 k2 k3; subst k1; subst k2; subst k3
            exact ⟨Nat.le_refl _, by rw [hcl]; exact ⟨_, rfl⟩, (fun h => by cases h), fun _ => ⟨b, fun b' x hx => (leaf_one hx).1, blk', by show (Tr.leaf.set (path b) (some blk')).get (path b) = _; rw [get_set, if_pos rfl]⟩⟩
          · rcases sr.all j o' hj ho' hk with g | g
            · exact .inl g
            · refine .inr (q.next op hj fun v' xs' g1 g2 cc c1 c2 c4 hc => ?_)
              rcases hc with rfl | ⟨-, hmj, hno⟩
              · exact absurd (c2 i rfl) hnb
              · have hcc : cc = c := by
                  rcases Nat.lt_trichotomy cc c with h5 | h5 | h5
                  · cases c with
                    | zero => omega
                    | succ d => exact absurd (st.cb d rfl) (hno d (by omega) (by omega))
                  · exact h5
                  · cases cc with
                    | zero => omega
                    | succ d =>
                      by_cases hdi : d = i
                      · subst hdi; exact absurd (c2 d rfl) hnb
                      · exact absurd (c2 d rfl) (st.nb d (by omega) (by omega))
                subst hcc
                rcases g with ⟨k', k1, k2, k3⟩ | ⟨e, he, hej⟩
                · have : k' < cc := Classical.byContradiction fun hn => st.nb k' (by omega) k1 k2
                  rw [c4 k' k2 this] at k3; cases k3
                · rcases hchk e he with g3 | ⟨o2, v2, xs2, q1, q2, q3, q4⟩
                  · rw [hej, hmj] at g3; cases g3
                  · rw [hej] at q1 q2 q3
                    rw [ho'] at q1; injection q1 with q1; subst q1
                    rw [g1] at q2; injection q2 with q2; subst q2
                    rw [g2] at q3; injection q3 with q3; subst q3
                    exact ⟨_, q4, seg'.nx, seg'.tr, fun k a bb hs _ _ => seg'.no k a bb hs⟩
          · rcases List.mem_cons.1 he with rfl | he
            · refine ⟨Nat.lt_succ_self i, hbsi, fun b' x hm => ?_⟩
              obtain ⟨rfl, rfl⟩ : b' = b ∧ x = blk' := by simpa using hm
              refine ⟨⟨by rw [eR]; rfl, .inl ⟨by rw [eR]; rfl, by rw [eR]; exact hasI⟩⟩, ?_⟩
              rw [eR]
              show (Tr.leaf.set (path b') (some x)).get (path b') = _
              rw [get_set, if_pos rfl]
            · exact s2 e he
          · by_cases e : k = i
            · subst e
              refine .inr ⟨_, List.mem_cons_self .., rfl, fun b' x hm hx => ?_⟩
              rw [eR] at hx
              obtain ⟨rfl, rfl⟩ := leaf_one (show (Tr.leaf.set (path b) (some blk')).get (path b') = some x from hx)
              exact List.mem_cons_self ..
            · rcases s3 k (by omega) hc with h | ⟨e', h1, h2, h3⟩
              · exact .inl h
              · exact .inr ⟨e', List.mem_cons_of_mem _ h1, h2, h3⟩
          · by_cases e : k = i
            · rw [e]; exact hnb
            · exact hnbs k a (by omega)
          · by_cases e : j = i
            · subst e
              rw [eR] at hk; cases hk
            · rw [setR_ne e] at hk ⊢
              rw [← cvU_congr j (fun k hk => hl k (by omega))]
              rcases sr.all j o' (by omega) ho' hk with g | ⟨k', g1, g2, g3⟩ | ⟨e', g1, g2⟩
              · exact .inl g
              · exact .inr (.inl ⟨k', by omega, g2, g3⟩)
              · exact .inr (.inr ⟨e', g1, g2⟩)
      | free m =>
        rw [hcl] at his H
        cases his with
        | free hq hrd hmk hbb hst =>
          have hnb := barI hcl (by simp)
          have hheld : HeldC P ops bf i := ⟨o, ho, by rw [hcl]; rfl⟩
          rw [if_neg (by rw [isBar_mk.1 (by simp)]; simp), if_neg (by rw [isRd_mk (by simp)]; simp), if_neg (by rw [spotQ_mk (by simp)]; simp)] at H
          rcases mkCO_free hcall (.inl ⟨rfl, rfl⟩) pl.loc H with ⟨v, O, hw, ha, h1, h2, H1⟩ | ⟨hw, H1⟩
          · obtain ⟨s1, s2⟩ := newCase .gen (flushT (fun j => inMask (bf.getD i 0) j) fs h.tr) v O (.inl rfl) hnb hw ha h1 h2 ⟨by rw [hcl]; exact ⟨_, rfl⟩, (fun h => by cases h), (fun h => by cases h)⟩
                (fun kn b x hx => st.flush op (A := ancS bf i) (fun k hk => op.lt_ i k hk) (anc_down op i) (st.below op hheld) kn hx) (fun k hki hc hm b x _ hb' => by
              cases hk : (f k).2 with
              | calm => rw [hk] at hc; cases hc
              | act q I O' =>
                obtain ⟨y, hy⟩ : ∃ y, ops[k]? = some y := ⟨_, List.getElem?_eq_getElem (by omega)⟩
                have kd := st.is k y q I O' hy hk
                cases q with
                | gen => rfl
                | mk => rfl
                | bar =>
                  obtain ⟨m', e⟩ := kd.cls
                  have := (bar_ord op ⟨y, m', hy, e⟩ hheld).2 hki
                  rw [hm] at this; cases this
                | spot =>
                  obtain ⟨m', e⟩ := kd.cls
                  rcases cls_spot op.len hy e ho (by rw [hcl]; rfl) (by omega) (by rw [hcl]; simp) with h | h
                  · rw [hm] at h; cases h
                  · have := op.lt_ k i h; omega)
            refine runFree_spec hcall op rest bs' _ _ (i + 1) c _ _ _ _ Hs Rs k _ hd' hb' ?_ s1 s2 H1
            rw [ecv1]; exact pl.push v
          · have hca : CalmAt P ops o (cvU cv0 ops f i) (some (.tup [])) := .inr (.inl ⟨hw, rfl⟩)
            refine runFree_spec hcall op rest bs' _ _ (i + 1) c _ _ h fs Hs Rs k (setR f i (some (.tup []), .calm)) hd' hb' ?_ (calmSt _ hnb hca) (calmSr _ hnb hca) H1
            rw [ecv1]; exact pl.push _
theorem doCO_fs (callf : CallF) : ∀ (o : CO) (L : List AV) (env : Tr AV) (h : Hp) (fs : Frees) (k : Option Pa → AV → Hp → Frees → Ans), isFree o = false → doCO callf o L env h fs k = doCO callf o L env h fs (fun d v h _ => k d v h fs)
  | .mv _ _, L, env, h, fs, k, _ => rfl
  | .o1 _ _ _, L, env, h, fs, k, _ => rfl
  | .o2 _ _ _ _, L, env, h, fs, k, _ => rfl
  | .on _ _ _, L, env, h, fs, k, _ => rfl
  | .call _ _, L, env, h, fs, k, _ => rfl
  | .grd r want o d, L, env, h, fs, k, hf => by
    show rfK r L env (fun v => doCO.onGuard v want (doCO callf o L env h fs k) (k d (.tup []) h fs)) = rfK r L env (fun v => doCO.onGuard v want (doCO callf o L env h fs fun d v h _ => k d v h fs) (k d (.tup []) h fs))
    rw [doCO_fs callf o L env h fs k hf]
  | .free _ _ _ _, L, env, h, fs, k, hf => by cases hf
  | .rd _ _ _, _, _, _, _, _, hf => by cases hf
  | .bar _ _ o, L, env, h, fs, k, hf => by
    show doCO callf o L env h fs (fun d v h' fs => doCO.grown h h' (k d v h' fs)) = doCO callf o L env h fs (fun d v h' _ => doCO.grown h h' (k d v h' fs))
    exact doCO_fs callf o L env h fs _ hf
  | .bad _, L, env, h, fs, k, _ => rfl
theorem rd_free : ∀ {o : CO}, isFree o = false → isRd o = false
  | .mv _ _, _ => rfl
  | .o1 _ _ _, _ => rfl
  | .o2 _ _ _ _, _ => rfl
  | .on _ _ _, _ => rfl
  | .call _ _, _ => rfl
  | .grd _ _ _ _, _ => rfl
  | .free _ _ _ _, h => by cases h
  | .rd _ _ _, h => by cases h
  | .bar _ _ _, _ => rfl
  | .bad _, _ => rfl
theorem spot_free : ∀ {o : CO}, isFree o = false → spotQ o = false
  | .mv _ _, _ => rfl
  | .o1 _ _ _, _ => rfl
  | .o2 _ _ _ _, _ => rfl
  | .on _ _ _, _ => rfl
  | .call _ _, _ => rfl
  | .grd _ _ _ _, _ => rfl
  | .free _ _ _ _, h => by cases h
  | .rd _ _ _, _ => rfl
  | .bar _ _ _, _ => rfl
  | .bad _, _ => rfl
theorem runFree_seq (callf : CallF) : ∀ (os : List CO) (L : List AV) (env : Tr AV) (h : Hp) (Hs : List (Nat × Hp)) (k : Tr AV → Hp → Ans), os.any isFree = false → runFree callf os L env h [] Hs [] k = runSeq callf os L env h k
  | [], L, env, h, Hs, k, _ => rfl
  | o :: os, L, env, h, Hs, k, hf => by
    rw [List.any_cons, Bool.or_eq_false_iff] at hf
    rw [runFree_cons, runSeq_cons]
    have ih := fun L env h Hs => runFree_seq callf os L env h Hs k hf.2
    have er : ∀ (m : Nat) (h : Hp) (k : Rds → Ans), allRs m [] h k = k [] := fun _ _ _ => rfl
    rw [rd_free hf.1, spot_free hf.1]
    have eh : ∀ m, Hp.mk (flushT (fun j => inMask m j) [] h.tr) h.nx h.lo = h := fun m => by cases h; rfl
    have ek : ∀ m, keepT m [] = [] := fun m => rfl
    rw [eh, ek]
    simp only [er, ih, Bool.false_eq_true, if_false]
    split
    · rfl
    · rw [doCO_fs callf o L env h [] _ hf.1]
      simp only [ih]
theorem regOK (hm : P.follows .mixedOrders = true) (callf : CallF) (hcall : CallSound P callf) (N keep : Nat) : RegOK P callf N keep := by
  intro id ops draw os env h k hcomp H hK
  have dok : ∀ {ops : List Oper}, dstOk N ops = true → ∀ o ∈ ops, ∀ d, o.dst = some d → d < N := fun {ops} h o ho d hd => by
    have := List.all_eq_true.1 h o ho
    rw [hd] at this
    simpa using this
  have pl0 : ∀ {rest}, Pl P keep rest [] 0 [] env (fun t => env.get (path t)) := fun {rest} => ⟨⟨rfl, fun t av h => h⟩, hK, fun t av h => h, fun e he => by cases he⟩
  have hcv : ∀ {ds β a w}, Rel N ds β env h a w → CvR β (fun t => env.get (path t)) a.tmps := fun hr t av ht => hr.env t av ht
  unfold compR at hcomp
  split at hcomp
  · cases hcomp
  · rename_i hdst
    injection hcomp with hcomp
    subst hcomp
    have hnf : (mkCOs P ops.toList keep false (ops.toList.map fun _ => 0)).any isFree = false := by
      unfold mkCOs
      have hbare : ∀ (o : Oper) D now, isFree (bareCO P keep o D now) = false := fun o D now => by
        unfold bareCO
        split <;> try rfl
        unfold bareOf
        split <;> rfl
      have : ∀ (rest : List Oper) (bs : List Nat) (D : Dl) (now i : Nat), (mkCOs.go P ops.toList keep false (ops.toList.map fun _ => 0) rest bs D now i).any isFree = false := by
        intro rest
        induction rest with
        | nil => intro bs D now i; cases bs <;> rfl
        | cons o rest ih =>
          intro bs D now i
          cases bs with
          | nil => rfl
          | cons b bs =>
            rw [mkCOs.go]
            split
            · exact ih _ _ _ _
            · rw [List.any_cons, ih, Bool.or_false]
              unfold mkCO
              split
              · exact hbare _ _ _
              · split
                · exact hbare _ _ _
                · rfl
      exact this _ _ _ _ _
    unfold runR at H
    rw [hnf] at H
    obtain ⟨env', h', H', hK', hw⟩ := seq_sound hcall (N := N) ops.toList _ [] 0 0 [] env _ h k (by simp) (dok hdst) pl0 H
    exact ⟨env', h', H', hK', fun ds β a w hr hg => wp_region_list (hw ds β a w hr.hr (hcv hr) hr.size hr.defers hg _ fun a' w' hp => ⟨rfl, hp⟩)⟩
  · rename_i hdst
    split at hcomp
    · rename_i hopen
      injection hcomp with hcomp
      have op := openOk_spec hopen
      have H : runFree callf os [] env h [] [(0, h)] [] k = .yes := by
        unfold runR at H
        cases hf : os.any isFree with
        | true => rw [hf] at H; exact H
        | false => rw [hf] at H; rw [runFree_seq callf os [] env h [(0, h)] k hf]; exact H
      subst hcomp
      have pt0 : Pt (befores ops.toList) h (fun _ => ((none, .calm) : Option AV × Kd)) := by
        have nx : ∀ i, nxU h (fun _ => ((none, .calm) : Option AV × Kd)) i = h.nx := by
          intro i
          induction i with
          | zero => rfl
          | succ i ih => exact ih
        exact ⟨fun i j _ => by rw [nx, nx]; exact Nat.le_refl _, (fun i q I O hk => by cases hk), (fun i k _ hk => by cases hk), op.trs, op.lt_⟩
      obtain ⟨f, env', h', H', hK', hpt, his, hrc, hout, hs, hn, hl, he⟩ := runFree_spec hcall op (cv0 := fun t => env.get (path t)) (h0 := h) ops.toList _ [] 0 0 0 [] env h [] [(0, h)] [] k (fun _ => (none, .calm)) rfl rfl pl0
        ⟨Nat.zero_le _, Nat.le_refl _, fun d e => (by omega), fun k a b => (by omega), rfl, rfl, fun _ b x hx => ⟨0, Nat.le_refl _, .inl ⟨rfl, hx⟩, fun k _ hb => by cases hb⟩, fun e he => (by cases he), fun k hk => (by omega), List.Pairwise.nil, pt0, fun j o hj => (by omega), fun k y q I O _ hk => (by cases hk), fun j _ => rfl⟩
        ⟨⟨⟨rfl, fun _ b x hx => ⟨0, Nat.le_refl _, .inl ⟨rfl, hx⟩, fun k _ hb => by cases hb⟩, fun k a b => (by omega)⟩, Nat.le_refl _, fun k a b => (by omega), .inl ⟨rfl, rfl⟩⟩, fun e he => (by cases he), fun e he => (by cases he), fun j o hj => (by omega)⟩ H
      refine ⟨env', h', H', hK', fun ds β a w hr hg => ?_⟩
      have rg : (∀ b x, h.tr.get (path b) = some x → b < h.nx) → Rg P ops.toList (befores ops.toList) (fun t => env.get (path t)) h f N := fun h0b => ⟨fun i o ho => ⟨fun hk => ((hrc i o ho).calm hk).imp (fun h => h) fun q => q.to op hpt his hout, (hrc i o ho).act, (hrc i o ho).lo, fun q I O hk => hpt.src i q I O hk, fun k hk hc hc' => hpt.ap i k hk hc hc'⟩, hout, op.dn, op.bfs, op.trs, op.lt_, op.ap, fun i d hd => by
        obtain ⟨o, h1, h2⟩ := dstAt_some hd
        exact dok hdst o (List.mem_of_getElem? h1) d h2, h0b, fun i k hi hk hki => by
        have bc : ∀ {i}, (f i).2.isBar = true → BarC P ops.toList (befores ops.toList) i := fun {i} hi => by
          by_cases hlt : i < ops.toList.length
          · have hy := List.getElem?_eq_getElem hlt
            cases hfi : (f i).2 with
            | calm => rw [hfi] at hi; cases hi
            | act q I O =>
              rw [hfi] at hi
              have := (his i _ q I O hy hfi).cls
              cases q with
              | bar => obtain ⟨m, e⟩ := this; exact ⟨_, m, hy, e⟩
              | gen => cases hi
              | mk => cases hi
              | spot => cases hi
          · rw [hout i (by omega)] at hi; cases hi
        exact (bar_ord op (bc hi) (bc hk).held).1 hki⟩
      exact region_any hm rg rfl hs hn hl he hr.hr hg (hcv hr) hr.size hr.defers id
    · cases hcomp
end Go.Ev
end
