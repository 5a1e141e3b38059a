/- The evaluator's operations are the model's: values. -/
import Derived.Test.YtniednnklbdciaaDoorEvF
import Derived.WalkKit
import Derived.IntWalk
set_option linter.unusedVariables false
set_option linter.unusedSectionVars false
set_option linter.unusedSimpArgs false
namespace Go.Ev
variable [Sg]
open Go.RowKit

variable {P : Program}
def OpHolds (P : Program) (o : Oper) (xs : List AV) (h : Hp) (v : AV) (h' : Hp) : Prop :=
  ∀ (β : Bt) (w : World) (a : Act), HR β h w → conL β xs = some (o.op.operands.toList.map a.eval) → ∀ (K : Act → World → Prop) (Q : Exit → Act → World → Prop),
    (∀ β' w' u, Stp β h w β' h' w' → con β' v = some u → K (a.put o.dst u) w') → o.wp P a w K Q
/-- A quiet one does so in whatever memory, and leaves it. -/
def Quiet (P : Program) (o : Oper) (xs : List AV) (h : Hp) (v : AV) (h' : Hp) : Prop := quietOp P o.op = true → h' = h ∧ ∀ h2, OpHolds P o xs h2 v h2
theorem Quiet.no {o : Oper} {xs : List AV} {h h' : Hp} {v : AV} (hq : quietOp P o.op = false) : Quiet P o xs h v h' := fun h => by rw [hq] at h; cases h
theorem OpHolds.val {o : Oper} {xs : List AV} {h : Hp} {v : AV} {h' : Hp}
    (H : ∀ (β : Bt) (w : World) (a : Act), HR β h w → conL β xs = some (o.op.operands.toList.map a.eval) → ∃ β' w' u, (execOp a.eval o).run P w = .ok (.value u) w' ∧ Stp β h w β' h' w' ∧ con β' v = some u) : OpHolds P o xs h v h' := by
  intro β w a hr hx K Q hK
  obtain ⟨β', w', u, h1, h2, h3⟩ := H β w a hr hx
  unfold Oper.wp
  rw [h1]
  exact hK β' w' u h2 h3
theorem OpHolds.skip {o : Oper} {xs : List AV} {h : Hp} {h' : Hp}
    (H : ∀ (β : Bt) (w : World) (a : Act), HR β h w → conL β xs = some (o.op.operands.toList.map a.eval) → ∃ β' w', (execOp a.eval o).run P w = .ok .skip w' ∧ Stp β h w β' h' w') : OpHolds P o xs h (.tup []) h' := by
  intro β w a hr hx K Q hK
  obtain ⟨β', w', h1, h2⟩ := H β w a hr hx
  unfold Oper.wp
  rw [h1]
  exact hK β' w' undef h2 rfl
theorem OpHolds.pure {o : Oper} {xs : List AV} {h : Hp} {v : AV}
    (H : ∀ (β : Bt) (w : World) (a : Act), conL β xs = some (o.op.operands.toList.map a.eval) → ∃ u, (execOp a.eval o).run P w = .ok (.value u) w ∧ con β v = some u) : OpHolds P o xs h v h :=
  .val fun β w a hr hx => let ⟨u, h1, h2⟩ := H β w a hx; ⟨β, w, u, h1, .refl hr, h2⟩
theorem conL1 {β : Bt} {x : AV} {v : Value} (h : conL β [x] = some [v]) : con β x = some v := by
  obtain ⟨u, us, h1, h2, h3⟩ := conL_cons h
  injection h3 with h3 h4; subst h3; exact h1
theorem conL2 {β : Bt} {x y : AV} {v u : Value} (h : conL β [x, y] = some [v, u]) : con β x = some v ∧ con β y = some u := by
  obtain ⟨a, us, h1, h2, h3⟩ := conL_cons h
  injection h3 with h3 h4; subst h3; subst h4
  exact ⟨h1, conL1 h2⟩

theorem semPure_bind {α γ : Type} (s : Sem α) (f : α → Sem γ) : semPure P (s >>= f) = (semPure P s).bind fun a => semPure P (f a) := by
  show semPure P (s.bind f) = _
  induction s with
  | pure a => rfl
  | program k ih => exact ih P
  | mark m k ih => exact ih
  | _ => rfl
theorem semPure_run {α : Type} {s : Sem α} {v : α} (h : semPure P s = some v) (w : World) : s.run P w = .ok v w := by
  induction s with
  | pure a => injection h with h; subst h; rfl
  | program k ih => exact ih P h
  | mark m k ih => exact ih h
  | _ => cases h
theorem intAV_yes {q : IntKind} {z : Int} {k : AV → Ans} (h : intAV q z k = .yes) : ∃ av, (∀ β, con β av = some (.int q z)) ∧ k av = .yes := by
  unfold intAV at h
  split at h
  · rw [fNat_eq] at h; exact ⟨_, fun β => rfl, h⟩
  · rw [fNat_eq] at h; exact ⟨_, fun β => rfl, h⟩
  · rw [fInt_eq] at h; exact ⟨_, fun β => rfl, h⟩
theorem bytesOf_toNat (l : List UInt8) : (l.map (·.toNat)).map UInt8.ofNat = l := by
  rw [List.map_map]
  conv => rhs; rw [← List.map_id l]
  exact List.map_congr_left fun x _ => by simp
theorem con_str (β : Bt) (s : ByteArray) : con β (.str s.data.toList.length (s.data.toList.map (·.toNat))) = some (.string s) := by
  unfold con
  rw [if_pos ⟨by simp, by rw [List.all_eq_true]; intro x hx; obtain ⟨y, _, rfl⟩ := List.mem_map.1 hx; exact decide_eq_true (UInt8.toNat_lt y)⟩]
  unfold bytesOf
  rw [bytesOf_toNat]
theorem fVal1_yes {v : Value} {k : AV → Ans} (h : fVal1 v k = .yes) : ∃ av, (∀ β, con β av = some v) ∧ k av = .yes ∧ v.oneCell' = true := by
  unfold fVal1 at h
  split at h
  · obtain ⟨av, h1, h2⟩ := intAV_yes h; exact ⟨av, h1, h2, rfl⟩
  · rw [fBool_eq] at h; exact ⟨_, fun β => rfl, h, rfl⟩
  · rw [fBytes_eq] at h; exact ⟨_, fun β => con_str β _, h, rfl⟩
  · simp only [fNat_eq] at h; exact ⟨_, fun β => rfl, h, rfl⟩
  · simp only [fNat_eq] at h; exact ⟨_, fun β => rfl, h, rfl⟩
  · cases h
  · cases h
  · rename_i u _ _ _ _ _ h6 h7
    refine ⟨.raw v, fun β => ?_, h, ?_⟩
    · have : v.oneCell' = true := by cases v <;> first | rfl | (exact absurd rfl (h6 _)) | (exact absurd rfl (h7 _))
      unfold con; rw [if_pos this]
    · cases v <;> first | rfl | (exact absurd rfl (h6 _)) | (exact absurd rfl (h7 _))
theorem fVals_yes {l : List Value} {k : List AV → Ans} (h : fVals l k = .yes) : ∃ as, (∀ β, conL β as = some l) ∧ k as = .yes ∧ ∀ u ∈ l, u.oneCell' = true := by
  induction l generalizing k with
  | nil => exact ⟨[], fun β => rfl, h, fun u hu => by cases hu⟩
  | cons v l ih =>
    obtain ⟨av, h1, h2, h3⟩ := fVal1_yes (k := fun a => fVals l fun as => k (a :: as)) h
    obtain ⟨as, h4, h5, h6⟩ := ih h2
    exact ⟨av :: as, fun β => conL_mk (h1 β) (h4 β), h5, fun u hu => by
      cases hu with
      | head => exact h3
      | tail _ hu => exact h6 u hu⟩
theorem fVal_yes {v : Value} {k : AV → Ans} (h : fVal v k = .yes) : ∃ av, (∀ β, con β av = some v) ∧ k av = .yes := by
  unfold fVal at h
  split at h
  · rename_i cs
    obtain ⟨as, h1, h2, h3⟩ := fVals_yes h
    refine ⟨_, fun β => ?_, h2⟩
    simp only [con, h1, Option.bind_some]
    rw [if_pos (List.all_eq_true.2 h3)]
  · rename_i cs
    obtain ⟨as, h1, h2, h3⟩ := fVals_yes h
    exact ⟨_, fun β => by simp [con, h1], h2⟩
  · obtain ⟨av, h1, h2, h3⟩ := fVal1_yes h; exact ⟨av, h1, h2⟩
theorem modelK_yes {s : Sem Value} {k : AV → Ans} (h : modelK P s k = .yes) : ∃ v av, semPure P s = some v ∧ (∀ β, con β av = some v) ∧ k av = .yes := by
  unfold modelK at h
  cases hs : semPure P s with
  | none => rw [hs] at h; cases h
  | some v =>
    rw [hs] at h
    obtain ⟨av, h1, h2⟩ := fVal_yes h
    exact ⟨v, av, rfl, h1, h2⟩
theorem plain1_con {x : AV} {v : Value} (β : Bt) (h : x.plain1 = some v) {u : Value} (hu : con β x = some u) : u = v := by
  cases x <;> simp [AV.plain1] at h <;> subst h <;> simp [con] at hu
  · exact hu.symm
  · exact hu.symm
  · exact hu.symm
  · exact hu.symm
  · exact hu.2.symm
  · exact hu.2.symm
theorem plainL_con {l : List AV} {vs : List Value} (β : Bt) (h : plainL l = some vs) {us : List Value} (hu : conL β l = some us) : us = vs := by
  induction l generalizing vs us with
  | nil => injection h with h; subst h; exact conL_nil hu
  | cons x l ih =>
    obtain ⟨u, us', h1, h2, rfl⟩ := conL_cons hu
    unfold plainL at h
    cases h3 : x.plain1 with
    | none => rw [h3] at h; cases h
    | some v =>
      cases h4 : plainL l with
      | none => rw [h3, h4] at h; cases h
      | some vs' =>
        rw [h3, h4] at h; injection h with h; subst h
        rw [plain1_con β h3 h1, ih h4 h2]
theorem plain_con {x : AV} {v : Value} (β : Bt) (h : x.plain = some v) {u : Value} (hu : con β x = some u) : u = v := by
  unfold AV.plain at h
  split at h
  · rename_i l
    rw [Option.map_eq_some_iff] at h
    obtain ⟨vs, h1, rfl⟩ := h
    simp only [con, Option.bind_eq_some_iff] at hu
    obtain ⟨us, h2, h3⟩ := hu
    rw [plainL_con β h1 h2] at h3
    split at h3
    · injection h3 with h3; exact h3.symm
    · cases h3
  · exact plain1_con β h hu
theorem plainK_yes {x : AV} {k : Value → Ans} (h : plainK x k = .yes) : ∃ v, x.plain = some v ∧ k v = .yes := by
  unfold plainK at h
  cases hs : x.plain with
  | none => rw [hs] at h; cases h
  | some v => rw [hs] at h; exact ⟨v, rfl, h⟩

/-- An operation of two operands. -/
def binSem (op : BinOp) (t : TypeId) (X Y : Operand) (a b : Value) : Sem Value := do eqGuard op t X Y a b; Go.binOp op t a b
theorem exec_bin (op : BinOp) (t : TypeId) (X Y : Operand) (yt : TypeId) (o : Oper) (ho : o.op = .binOp op t X Y yt) (a : Act) (w : World) {u : Value} {w' : World} (h : (binSem op t X Y (a.eval X) (a.eval Y)).run P w = .ok u w') :
    (execOp a.eval o).run P w = .ok (.value u) w' := by
  unfold binSem at h
  simp only [Sem.run_bind] at h
  simp only [execOp, ho, Sem.run_bind, h, Result.andThen_ok, Sem.run_pure]
theorem eqGuard_of {op : BinOp} {t : TypeId} {a b : Value} (X Y : Operand) (h : semPure P (eqGuard op t (.tmp 0) (.tmp 0) a b) = some ()) : semPure P (eqGuard op t X Y a b) = some () := by
  unfold eqGuard at h ⊢
  cases op
  case eql | neq =>
    simp only [Bool.not_true, Bool.false_eq_true, ↓reduceIte] at h ⊢
    split
    · simp only [Bool.or_self, Bool.false_eq_true, ↓reduceIte] at h
      cases X <;> cases Y <;> first | exact h | rfl
    · exact h
    · rfl
  all_goals rfl
theorem genK_yes {op : BinOp} {t : TypeId} {x y : AV} {k : AV → Ans} (h : genK P op t x y k = .yes) :
    ∃ v, k v = .yes ∧ ∀ β X Y a b w, con β x = some a → con β y = some b → ∃ u, (binSem op t X Y a b).run P w = .ok u w ∧ con β v = some u := by
  unfold genK at h
  obtain ⟨p, hp, h⟩ := plainK_yes h
  obtain ⟨q, hq, h⟩ := plainK_yes h
  obtain ⟨v, av, h1, h2, h3⟩ := modelK_yes h
  refine ⟨av, h3, fun β X Y a b w ha hb => ⟨v, ?_, h2 β⟩⟩
  obtain rfl := plain_con β hp ha
  obtain rfl := plain_con β hq hb
  refine semPure_run ?_ w
  rw [semPure_bind] at h1
  unfold binSem
  rw [semPure_bind]
  cases hg : semPure P (eqGuard op t (.tmp 0) (.tmp 0) a b) with
  | none => rw [hg] at h1; cases h1
  | some z => cases z; rw [hg] at h1; rw [eqGuard_of X Y hg]; exact h1
theorem genB_yes {op : BinOp} {t : TypeId} {x y : AV} {k : Bool → Ans} (h : genB P op t x y k = .yes) :
    ∃ r, k r = .yes ∧ ∀ β X Y a b w, con β x = some a → con β y = some b → (binSem op t X Y a b).run P w = .ok (.bool r) w := by
  unfold genB at h
  obtain ⟨v, h1, h2⟩ := genK_yes h
  split at h1
  · rename_i r
    refine ⟨r, h1, fun β X Y a b w ha hb => ?_⟩
    obtain ⟨u, h3, h4⟩ := h2 β X Y a b w ha hb
    simp only [con] at h4; injection h4 with h4; subst h4; exact h3
  · cases h1
/-- What a value is, by its cases. -/
theorem cas_yes {x : AV} {a b : Nat → Ans} {c : Nat → List Nat → Ans} {o : Ans} (h : x.cas a b c o = .yes) :
    (∃ n, x = .nat n ∧ a n = .yes) ∨ (∃ n, x = .u8 n ∧ b n = .yes) ∨ (∃ n l, x = .str n l ∧ c n l = .yes) ∨ o = .yes := by
  cases x <;> first | exact .inl ⟨_, rfl, h⟩ | exact .inr (.inl ⟨_, rfl, h⟩) | exact .inr (.inr (.inl ⟨_, _, rfl, h⟩)) | exact .inr (.inr (.inr h))
theorem i64_lit {n : Nat} (h : n < 9223372036854775808) : IntKind.i64.wrap (n : Int) = n := by
  simp [IntKind.wrap, IntKind.bits, IntKind.signed]; omega
theorem con_str_inv {β : Bt} {n : Nat} {l : List Nat} {v : Value} (h : con β (.str n l) = some v) : v = .string (bytesOf l) ∧ n = l.length ∧ l.all (· < 256) = true := by
  unfold con at h
  split at h
  · rename_i hc; injection h with h; exact ⟨h.symm, hc.1, hc.2⟩
  · cases h
theorem con_str_mk {β : Bt} {n : Nat} {l : List Nat} (h1 : n = l.length) (h2 : l.all (· < 256) = true) : con β (.str n l) = some (.string (bytesOf l)) := by
  unfold con; rw [if_pos ⟨h1, h2⟩]
theorem bytesOf_append (l m : List Nat) : bytesOf l ++ bytesOf m = bytesOf (l ++ m) := by
  unfold bytesOf
  apply ByteArray.ext
  simp
theorem bytesOf_size (l : List Nat) : (bytesOf l).size = l.length := by simp [bytesOf, ByteArray.size]
theorem bytesOf_toList (l : List Nat) : (bytesOf l).toList = l.map UInt8.ofNat := by
  unfold bytesOf; simp
theorem ofNat_inj {a b : Nat} (ha : a < 256) (hb : b < 256) (h : UInt8.ofNat a = UInt8.ofNat b) : a = b := by
  have := congrArg UInt8.toNat h
  simp at this; omega
theorem map_ofNat_eq : ∀ {l m : List Nat}, l.all (· < 256) = true → m.all (· < 256) = true → (l.map UInt8.ofNat == m.map UInt8.ofNat) = (l == m)
  | [], [], _, _ => rfl
  | [], _ :: _, _, _ => rfl
  | _ :: _, [], _, _ => rfl
  | a :: l, b :: m, h, h' => by
    simp only [List.all_cons, Bool.and_eq_true, decide_eq_true_eq] at h h'
    have ih := map_ofNat_eq h.2 h'.2
    have e : (UInt8.ofNat a == UInt8.ofNat b) = (a == b) :=
      Bool.eq_iff_iff.2 (by rw [beq_iff_eq, beq_iff_eq]; exact ⟨fun e => ofNat_inj h.1 h'.1 e, fun e => by rw [e]⟩)
    simp only [List.map_cons, List.cons_beq_cons, e, ih]
theorem bytesLess_map : ∀ {l m : List Nat}, l.all (· < 256) = true → m.all (· < 256) = true → Op.bytesLess (l.map UInt8.ofNat) (m.map UInt8.ofNat) = ltL l m
  | l, [], _, _ => by cases l <;> rfl
  | [], _ :: _, _, _ => rfl
  | a :: l, b :: m, h, h' => by
    simp only [List.all_cons, Bool.and_eq_true, decide_eq_true_eq] at h h'
    have ih := bytesLess_map h.2 h'.2
    have e : (UInt8.ofNat a == UInt8.ofNat b) = (a == b) :=
      Bool.eq_iff_iff.2 (by rw [beq_iff_eq, beq_iff_eq]; exact ⟨fun e => ofNat_inj h.1 h'.1 e, fun e => by rw [e]⟩)
    have e2 : decide (UInt8.ofNat a < UInt8.ofNat b) = decide (a < b) := by
      rw [decide_eq_decide, UInt8.lt_iff_toNat_lt]
      simp; omega
    rw [List.map_cons, List.map_cons, Op.bytesLess, ltL, ih, e, e2]
end Go.Ev
