/- The calculus by values, part 3. -/
import Derived.Test.YtapigaemojnaaaaGreatDoorVc2
set_option linter.unusedVariables false
set_option linter.unusedSectionVars false
set_option linter.unusedSimpArgs false

/- A calculus of Go's functions by their values: comparisons, cuts, places. -/
namespace Go.Vc
open Go.RowKit
variable {P : Program} {G : Gh} {w : World}

/-- Nil, or not, of a kind. -/
def NilV (q : Nat) (r : Bool) (v : Value) : Prop :=
  (q = 0 ∧ r = true ∧ v = .pointer none) ∨ (q = 1 ∧ r = true ∧ ∃ n c, v = .slice none n c) ∨ (q = 2 ∧ r = true ∧ v = .map none) ∨ (q = 3 ∧ r = true ∧ v = .nilFunc) ∨
  (q = 0 ∧ r = false ∧ ∃ a, v = .pointer (some a)) ∨ (q = 1 ∧ r = false ∧ ∃ a n c, v = .slice (some a) n c) ∨ (q = 2 ∧ r = false ∧ ∃ m, v = .map (some m)) ∨ (q = 3 ∧ r = false ∧ ∃ f x y, v = .func f x y)
theorem Sl.nil {nl : Bool} {t sz : Nat} {us : List Value} {v : Value} (h : Sl G w nl t sz us v) : NilV 1 nl v := by
  rcases h with ⟨rfl, -, rfl⟩ | ⟨rfl, b, o, c, rfl, -⟩
  · exact .inr (.inl ⟨rfl, rfl, _, _, rfl⟩)
  · exact .inr (.inr (.inr (.inr (.inr (.inl ⟨rfl, rfl, _, _, _, rfl⟩)))))
theorem nilK_val {x : PV} {q : Nat} {r : Bool} {u : Value} (h : nilK x = some (q, r)) (hu : Rep x G w u) : NilV q r u := by
  unfold nilK at h
  split at h
  all_goals (first | (cases h; done) | (injection h with h; injection h with h1 h2; subst h1; subst h2))
  · exact Sl.nil hu
  · obtain ⟨us, -, -, h⟩ := hu; exact Sl.nil h
  · rw [hu.1]; exact .inl ⟨rfl, rfl, rfl⟩
  · rw [hu.1]; exact .inr (.inr (.inl ⟨rfl, rfl, rfl⟩))
  · rw [hu.1]; exact .inr (.inr (.inr (.inl ⟨rfl, rfl, rfl⟩)))
  · rw [hu.1]; exact .inr (.inl ⟨rfl, rfl, _, _, rfl⟩)
  · obtain ⟨b, -, rfl⟩ := hu; exact .inr (.inr (.inr (.inr (.inl ⟨rfl, rfl, _, rfl⟩))))
  · obtain ⟨us, vs, -, -, rfl⟩ := hu; exact .inr (.inr (.inr (.inr (.inr (.inr (.inr ⟨rfl, rfl, _, _, _, rfl⟩))))))
theorem isNilC_nil {x : PV} {q : Nat} {r : Bool} (h : isNilC x = true) (hk : nilK x = some (q, r)) : r = true := by
  unfold isNilC at h
  split at h
  all_goals (first | (cases h; done) | (simp [nilK] at hk; exact hk.2.symm ▸ rfl))
/-- Equality, by one look at the type. -/
theorem run_eql {t : TypeId} {X Y : Operand} {a b : Value} {w : World} {r : Bool} (h1 : ∀ u, eqGuard .eql t X Y a b = u → u = Pure.pure ()) (h2 : Go.binOp .eql t a b = (do pure (.bool (← Op.equal t a b)))) (h : (Op.equalIn (9999 + 1) t a b).run P w = .ok r w) :
    (binSem .eql t X Y a b).run P w = .ok (.bool r) w := by
  have e : (Op.equal t a b).run P w = .ok r w := h
  unfold binSem
  rw [h1 _ rfl, h2]
  simp only [Sem.run_bind, Sem.run_pure, Result.andThen_ok, e]
theorem run_neq {t : TypeId} {X Y : Operand} {a b : Value} {w : World} {r : Bool} (h1 : ∀ u, eqGuard .neq t X Y a b = u → u = Pure.pure ()) (h2 : Go.binOp .neq t a b = (do pure (.bool (!(← Op.equal t a b))))) (h : (Op.equalIn (9999 + 1) t a b).run P w = .ok r w) :
    (binSem .neq t X Y a b).run P w = .ok (.bool (!r)) w := by
  have e : (Op.equal t a b).run P w = .ok r w := h
  unfold binSem
  rw [h1 _ rfl, h2]
  simp only [Sem.run_bind, Sem.run_pure, Result.andThen_ok, e]
theorem nil_run {q : Nat} {d : TypeDesc} {t : TypeId} {a b : Value} {r1 r2 : Bool} (hd : P.underlying t = some d) (hq : q = 0 ∧ (∃ e, d = .pointer e) ∨ q = 1 ∧ (∃ e, d = .slice e) ∨ q = 2 ∧ (∃ e f, d = .map e f) ∨ q = 3 ∧ (∃ a b c, d = .func a b c))
    (n1 : NilV q r1 a) (n2 : NilV q r2 b) (hor : r1 = true ∨ r2 = true) (X Y : Operand) (w : World) : (binSem .eql t X Y a b).run P w = .ok (.bool (r1 && r2)) w ∧ (binSem .neq t X Y a b).run P w = .ok (.bool (!(r1 && r2))) w := by
  have hu := run_underlying hd w
  rcases hq with ⟨rfl, e, rfl⟩ | ⟨rfl, e, rfl⟩ | ⟨rfl, e, f, rfl⟩ | ⟨rfl, e, f, g, rfl⟩
  · rcases n1 with ⟨-, rfl, rfl⟩ | ⟨h, -⟩ | ⟨h, -⟩ | ⟨h, -⟩ | ⟨-, rfl, z, rfl⟩ | ⟨h, -⟩ | ⟨h, -⟩ | ⟨h, -⟩ <;> first | omega | skip
    all_goals (rcases n2 with ⟨-, rfl, rfl⟩ | ⟨h, -⟩ | ⟨h, -⟩ | ⟨h, -⟩ | ⟨-, rfl, z2, rfl⟩ | ⟨h, -⟩ | ⟨h, -⟩ | ⟨h, -⟩ <;> first | omega | skip)
    all_goals (first | (simp at hor; done) | (refine ⟨run_eql (fun u h => h.symm) rfl ?_, run_neq (fun u h => h.symm) rfl ?_⟩ <;> (rw [Op.equalIn]; simp only [Sem.run_bind, hu, Result.andThen_ok]; rfl)))
  · rcases n1 with ⟨h, -⟩ | ⟨-, rfl, m, c, rfl⟩ | ⟨h, -⟩ | ⟨h, -⟩ | ⟨h, -⟩ | ⟨-, rfl, z, m, c, rfl⟩ | ⟨h, -⟩ | ⟨h, -⟩ <;> first | omega | skip
    all_goals (rcases n2 with ⟨h, -⟩ | ⟨-, rfl, m2, c2, rfl⟩ | ⟨h, -⟩ | ⟨h, -⟩ | ⟨h, -⟩ | ⟨-, rfl, z2, m2, c2, rfl⟩ | ⟨h, -⟩ | ⟨h, -⟩ <;> first | omega | skip)
    all_goals (first | (simp at hor; done) | (refine ⟨run_eql (fun u h => h.symm) rfl ?_, run_neq (fun u h => h.symm) rfl ?_⟩ <;> (rw [Op.equalIn]; simp only [Sem.run_bind, hu, Result.andThen_ok]; rfl)))
  · rcases n1 with ⟨h, -⟩ | ⟨h, -⟩ | ⟨-, rfl, rfl⟩ | ⟨h, -⟩ | ⟨h, -⟩ | ⟨h, -⟩ | ⟨-, rfl, z, rfl⟩ | ⟨h, -⟩ <;> first | omega | skip
    all_goals (rcases n2 with ⟨h, -⟩ | ⟨h, -⟩ | ⟨-, rfl, rfl⟩ | ⟨h, -⟩ | ⟨h, -⟩ | ⟨h, -⟩ | ⟨-, rfl, z2, rfl⟩ | ⟨h, -⟩ <;> first | omega | skip)
    all_goals (first | (simp at hor; done) | (refine ⟨run_eql (fun u h => h.symm) rfl ?_, run_neq (fun u h => h.symm) rfl ?_⟩ <;> (rw [Op.equalIn]; simp only [Sem.run_bind, hu, Result.andThen_ok]; rfl)))
  · rcases n1 with ⟨h, -⟩ | ⟨h, -⟩ | ⟨h, -⟩ | ⟨-, rfl, rfl⟩ | ⟨h, -⟩ | ⟨h, -⟩ | ⟨h, -⟩ | ⟨-, rfl, z, m, c, rfl⟩ <;> first | omega | skip
    all_goals (rcases n2 with ⟨h, -⟩ | ⟨h, -⟩ | ⟨h, -⟩ | ⟨-, rfl, rfl⟩ | ⟨h, -⟩ | ⟨h, -⟩ | ⟨h, -⟩ | ⟨-, rfl, z2, m2, c2, rfl⟩ <;> first | omega | skip)
    all_goals (first | (simp at hor; done) | (refine ⟨run_eql (fun u h => h.symm) rfl ?_, run_neq (fun u h => h.symm) rfl ?_⟩ <;> (rw [Op.equalIn]; simp only [Sem.run_bind, hu, Result.andThen_ok]; rfl)))
theorem nilR_ok {q : Nat} {d : TypeDesc} {t : TypeId} {x y : PV} {fin : Bool → OpR} {v : PV} {a b : Value} (hd : P.underlying t = some d) (hq : q = 0 ∧ (∃ e, d = .pointer e) ∨ q = 1 ∧ (∃ e, d = .slice e) ∨ q = 2 ∧ (∃ e f, d = .map e f) ∨ q = 3 ∧ (∃ a b c, d = .func a b c))
    (h : (eqR.nilR q fin x y).Is v) (ha : Rep x G w a) (hb : Rep y G w b) : ∃ r, (fin r).Is v ∧ ∀ X Y w', (binSem .eql t X Y a b).run P w' = .ok (.bool r) w' ∧ (binSem .neq t X Y a b).run P w' = .ok (.bool !r) w' := by
  unfold eqR.nilR at h
  split at h
  · rename_i i r1 j r2 h1 h2
    have n1 := nilK_val h1 ha
    have n2 := nilK_val h2 hb
    split at h
    · rename_i hc hn
      rw [Bool.and_eq_true] at hc
      obtain rfl := Nat.eq_of_beq_eq_true hc.1
      obtain rfl := Nat.eq_of_beq_eq_true hc.2
      have := isNilC_nil hn h2; subst this
      exact ⟨r1, h, fun X Y w' => by have := nil_run hd hq n1 n2 (.inr rfl) X Y w'; simpa using this⟩
    · rename_i hc hn1 hn
      rw [Bool.and_eq_true] at hc
      obtain rfl := Nat.eq_of_beq_eq_true hc.1
      obtain rfl := Nat.eq_of_beq_eq_true hc.2
      have := isNilC_nil hn h1; subst this
      exact ⟨r2, h, fun X Y w' => by have := nil_run hd hq n1 n2 (.inl rfl) X Y w'; simpa using this⟩
    · exact h.bad.elim
  · exact h.bad.elim
def negOp (neg : Bool) : BinOp := match neg with | true => .neq | false => .eql
theorem eqR_ok {neg : Bool} {t : TypeId} {x y v : PV} {a b : Value} (h : (eqR P neg t x y).Is v) (ha : Rep x G w a) (hb : Rep y G w b) (X Y : Operand) : Gives P (binSem (negOp neg) t X Y a b) v G w := by
  have fin : ∀ r : Bool, (OpR.ok (.bool (negB neg r))).Is v → (∀ w', (binSem .eql t X Y a b).run P w' = .ok (.bool r) w' ∧ (binSem .neq t X Y a b).run P w' = .ok (.bool !r) w') → Gives P (binSem (negOp neg) t X Y a b) v G w := by
    intro r h1 h2
    rw [← h1.ok]
    cases neg with
    | true => exact ⟨_, fun w' => (h2 w').2, rfl⟩
    | false => exact ⟨_, fun w' => (h2 w').1, rfl⟩
  unfold eqR at h
  dsimp only at h
  split at h
  · rename_i r hg he
    exact fin r h fun w' => eqN_ok hg he ha hb w'
  · split at h
    · rename_i e hd
      obtain ⟨r, h1, h2⟩ := nilR_ok hd (.inl ⟨rfl, e, rfl⟩) h ha hb
      exact fin r h1 (h2 X Y)
    · rename_i e hd
      obtain ⟨r, h1, h2⟩ := nilR_ok hd (.inr (.inl ⟨rfl, e, rfl⟩)) h ha hb
      exact fin r h1 (h2 X Y)
    · rename_i e f hd
      obtain ⟨r, h1, h2⟩ := nilR_ok hd (.inr (.inr (.inl ⟨rfl, e, f, rfl⟩))) h ha hb
      exact fin r h1 (h2 X Y)
    · rename_i e f g hd
      obtain ⟨r, h1, h2⟩ := nilR_ok hd (.inr (.inr (.inr ⟨rfl, e, f, g, rfl⟩))) h ha hb
      exact fin r h1 (h2 X Y)
    · exact h.bad.elim
theorem bin_ok {op : BinOp} {t : TypeId} {x y v : PV} {a b : Value} (h : (binR P op t x y).Is v) (ha : Rep x G w a) (hb : Rep y G w b) (X Y : Operand) : Gives P (binSem op t X Y a b) v G w := by
  unfold binR at h
  split at h
  · rename_i k p j q
    rw [show a = _ from ha, show b = _ from hb]
    split at h
    · obtain ⟨h0, rfl⟩ := h.need
      refine ⟨_, fun w' => ?_, rfl⟩
      show (Op.shift .shl k p j q).run P w' = _
      unfold Op.shift
      rw [if_neg (by omega)]; rfl
    · obtain ⟨h0, rfl⟩ := h.need
      refine ⟨_, fun w' => ?_, rfl⟩
      show (Op.shift .shr k p j q).run P w' = _
      unfold Op.shift
      rw [if_neg (by omega)]; rfl
    · rename_i h1 h2
      split at h
      · rename_i hk
        have := sameKind_eq hk; subst this
        exact int_ok (fun e => h1 e) (fun e => h2 e) h
      · exact h.bad.elim
  · rw [show a = _ from ha, show b = _ from hb]
    exact str_ok h
  · split at h
    · exact eqR_ok (neg := false) h ha hb X Y
    · exact eqR_ok (neg := true) h ha hb X Y
    · exact h.bad.elim
  · split at h
    · exact eqR_ok (neg := false) h ha hb X Y
    · exact eqR_ok (neg := true) h ha hb X Y
    · exact h.bad.elim
theorem un_ok {op : UnOp} {x v : PV} {a : Value} (h : (unR op x).Is v) (ha : Rep x G w a) : Gives P (Op.unary op a) v G w := by
  unfold unR at h
  split at h
  · rw [← h.ok, show a = _ from ha]; exact ⟨_, fun _ => rfl, rfl⟩
  · rw [num_ok h, show a = _ from ha]; exact ⟨_, fun _ => rfl, rfl⟩
  · rename_i k z
    rw [← h.ok, show a = _ from ha]
    refine ⟨_, fun _ => rfl, ?_⟩
    show _ = _
    cases hs : k.signed <;> simp [hs, bitsZ, Op.intBits]
  · exact h.bad.elim
theorem pick_ok {b : Bool} {x y : PV} {u v : Value} (hu : b = true → Rep x G w u) (hv : b = false → Rep y G w v) : Rep (pickV b x y) G w (if b = true then u else v) := by
  unfold pickV
  cases b with
  | true =>
    have := hu rfl
    split
    · exact this
    · split <;> exact this
    · exact this
    · exact this
  | false =>
    have := hv rfl
    split
    · exact this
    · rename_i k p j q
      split
      · rename_i hk
        have e := sameKind_eq hk; subst e
        exact this
      · exact this
    · exact this
    · exact this
end Go.Vc

