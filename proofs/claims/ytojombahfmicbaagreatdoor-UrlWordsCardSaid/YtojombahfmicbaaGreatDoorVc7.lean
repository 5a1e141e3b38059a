/- The calculus by values, part 7. -/
import Derived.Orders
import Derived.IntWalk
import Derived.Test.YtojombahfmicbaaGreatDoorVc6
set_option linter.unusedVariables false
set_option linter.unusedSectionVars false
set_option linter.unusedSimpArgs false

/- A calculus of Go's functions by their values: operations in line. -/
namespace Go.Vc
open Go.RowKit
variable {P : Program} {cx : Cx} {G : Gh} {w : World}

def GuardOn (ops : Array Oper) (tmps : Array Value) (g : Option (Nat × Bool)) : Prop := match g with
  | none => True
  | some (j, b) => yielded ops tmps j = some b
theorem wanted_iff (ops : Array Oper) (tmps : Array Value) (o : Oper) : Region.wanted o (yielded ops tmps) = true ↔ GuardOn ops tmps o.guard := by
  unfold Region.wanted GuardOn
  cases o.guard with
  | none => simp
  | some g => obtain ⟨j, b⟩ := g; simp
/-- A region whose operations write elsewhere, each, and hang on earlier ones. -/
structure RegFit (ops : Array Oper) (N : Nat) : Prop where
  apart : ∀ (i j : Nat) o q d, ops[i]? = some o → ops[j]? = some q → i ≠ j → o.dst = some d → q.dst ≠ some d
  guard : ∀ (k : Nat) o, ops[k]? = some o → ∀ j b, o.guard = some (j, b) → j < k
  lt : ∀ (i : Nat) o d, ops[i]? = some o → o.dst = some d → d < N
theorem dstsOk_get : ∀ {l : List Oper}, dstsOk l = true → ∀ (i j : Nat) o q d, l[i]? = some o → l[j]? = some q → i < j → o.dst = some d → q.dst ≠ some d
  | [], h, i, j, o, q, d, h1, h2, hij, hd => by simp at h1
  | p :: l, h, i, j, o, q, d, h1, h2, hij, hd => by
    unfold dstsOk at h
    rw [Bool.and_eq_true] at h
    cases j with
    | zero => omega
    | succ j =>
      have h2' : l[j]? = some q := by simpa using h2
      cases i with
      | zero =>
        have : p = o := by simpa using h1
        subst this
        have h3 := h.1
        rw [hd] at h3
        have h4 := List.all_eq_true.1 h3 q (List.mem_of_getElem? h2')
        intro e
        rw [e] at h4
        simp at h4
      | succ i => exact dstsOk_get h.2 i j o q d (by simpa using h1) h2' (by omega) hd
theorem guardsOk_get {ops : List Oper} : ∀ {l : List Oper} {n : Nat}, guardsOk ops n l = true → ∀ (k : Nat) o, l[k]? = some o → ∀ j b, o.guard = some (j, b) → j < n + k
  | [], n, h, k, o, h1, j, b, hg => by simp at h1
  | p :: l, n, h, k, o, h1, j, b, hg => by
    unfold guardsOk at h
    rw [Bool.and_eq_true] at h
    cases k with
    | zero =>
      have : p = o := by simpa using h1
      subst this
      have h3 := h.1
      rw [hg] at h3
      rw [Bool.and_eq_true] at h3
      have := h3.1
      simpa using this
    | succ k =>
      have := guardsOk_get h.2 k o (by simpa using h1) j b hg
      omega
theorem regFit {ops : Array Oper} {N : Nat} (h : regOk N ops.toList = true) : RegFit ops N := by
  unfold regOk at h
  simp only [Bool.and_eq_true] at h
  obtain ⟨⟨h1, h2⟩, h3⟩ := h
  refine ⟨fun i j o q d hi hj hne hd => ?_, fun k o hk j b hg => ?_, fun i o d hi hd => ?_⟩
  · rw [← Array.getElem?_toList] at hi hj
    rcases Nat.lt_or_ge i j with hij | hij
    · exact dstsOk_get h1 i j o q d hi hj hij hd
    · intro e
      exact dstsOk_get h1 j i q o d hj hi (by omega) e hd
  · rw [← Array.getElem?_toList] at hk
    have := guardsOk_get h2 k o hk j b hg
    omega
  · rw [← Array.getElem?_toList] at hi
    have := List.all_eq_true.1 h3 o (List.mem_of_getElem? hi)
    rw [hd] at this
    simpa using this
/-- What is held of a region under way stands for a frame and a world. -/
structure LRel (cx : Cx) (G : Gh) (ops : Array Oper) (N k : Nat) (s : VS) (a : Act) (w : World) : Prop where
  inv : Inv cx G s.lh w
  env : ∀ t x, lookL t s.loc = none → getN t s.env = some x → Rep x G w (a.tmps.getD t undef)
  loc : ∀ t g v, lookL t s.loc = some (g, v) → (GuardOn ops a.tmps g → Rep v G w (a.tmps.getD t undef)) ∧ ∃ i o, i < k ∧ ops[i]? = some o ∧ o.guard = g ∧ o.dst = some t
  chain : ∀ i o, i < k → ops[i]? = some o → ∀ b, yielded ops a.tmps i = some b → GuardOn ops a.tmps o.guard
  size : N ≤ a.tmps.size
  defers : a.defers = []
section
variable {ops : Array Oper} {N k : Nat} {s : VS} {a : Act}
theorem guardIn_ok (hr : RegFit ops N) (hc : ∀ i o, i < k → ops[i]? = some o → ∀ b, yielded ops a.tmps i = some b → GuardOn ops a.tmps o.guard) : ∀ (n : Nat) (g h : Option (Nat × Bool)), guardIn ops.toList n g h = true → (∀ i b, g = some (i, b) → i < k) → GuardOn ops a.tmps g → GuardOn ops a.tmps h
  | 0, g, h, e, _, _ => by unfold guardIn at e; cases e
  | n + 1, g, h, e, hk, hg => by
    unfold guardIn at e
    split at e
    · trivial
    · rename_i j b
      split at e
      · cases e
      · rename_i i c
        rw [Bool.or_eq_true] at e
        rcases e with e | e
        · rw [Bool.and_eq_true] at e
          have h1 := Nat.eq_of_beq_eq_true e.1
          have h2 : c = b := by simpa using e.2
          subst h1; subst h2
          exact hg
        · have hik := hk i c rfl
          cases ho : ops[i]? with
          | none =>
            have : (ops.toList[i]?).bind (·.guard) = none := by rw [Array.getElem?_toList, ho]; rfl
            rw [this] at e
            cases n with
            | zero => unfold guardIn at e; cases e
            | succ n => unfold guardIn at e; cases e
          | some o =>
            have : (ops.toList[i]?).bind (·.guard) = o.guard := by rw [Array.getElem?_toList, ho]; rfl
            rw [this] at e
            exact guardIn_ok hr hc n o.guard _ e (fun i' b' hg' => by have := hr.guard i o ho i' b' hg'; omega) (hc i o hik ho c hg)
theorem ofValue_ok (v : Value) : Rep (ofValue v) G w v := by
  cases v with
  | agg _ => trivial
  | tuple _ => trivial
  | int k z => exact rfl
  | bool b => exact rfl
  | string s => exact rfl
  | _ => exact ⟨rfl, rfl⟩
theorem LRel.operand (h : LRel cx G ops N k s a w) (hr : RegFit ops N) {g : Option (Nat × Bool)} (hk : ∀ i b, g = some (i, b) → i < k) (hg : GuardOn ops a.tmps g) (x : Operand) : Rep (operandV ops.toList g s x) G w (a.eval x) := by
  cases x with
  | tmp t =>
    unfold operandV
    dsimp only
    cases hl : lookL t s.loc with
    | none =>
      dsimp only
      cases he : getN t s.env with
      | none => trivial
      | some x => exact h.env t x hl he
    | some p =>
      obtain ⟨q, v⟩ := p
      dsimp only
      cases hgi : guardIn ops.toList 9 g q with
      | false => trivial
      | true => exact (h.loc t q v hl).1 (guardIn_ok hr h.chain 9 g q hgi hk hg)
  | const v => exact ofValue_ok v
  | global g => exact rfl
  | func f => exact ⟨[], [], rfl, rfl, rfl⟩
theorem LRel.operands (h : LRel cx G ops N k s a w) (hr : RegFit ops N) {g : Option (Nat × Bool)} (hk : ∀ i b, g = some (i, b) → i < k) (hg : GuardOn ops a.tmps g) : ∀ xs : List Operand, RepL' (xs.map (operandV ops.toList g s)) G w (xs.map a.eval)
  | [] => rfl
  | x :: xs => ⟨_, _, rfl, h.operand hr hk hg x, h.operands hr hk hg xs⟩
/-- A value turned. -/
def tv (f : Option (PV → PV)) (y : PV) : PV := match f with | none => y | some f => y.mapL f
theorem lookL_turn (f : Option (PV → PV)) (lh : List (Nat × PV)) (t : Nat) (s : VS) : lookL t (s.turn f lh).loc = (lookL t s.loc).map fun p => (p.1, tv f p.2) := by
  cases f with
  | none =>
    show lookL t s.loc = _
    cases lookL t s.loc <;> rfl
  | some f =>
    show lookL t (s.loc.map fun e => (e.1, e.2.1, e.2.2.mapL f)) = _
    induction s.loc with
    | nil => rfl
    | cons e l ih =>
      show (bif Nat.beq e.1 t then some (e.2.1, e.2.2.mapL f) else lookL t (l.map fun e => (e.1, e.2.1, e.2.2.mapL f))) = (bif Nat.beq e.1 t then some e.2 else lookL t l).map _
      cases Nat.beq e.1 t with
      | true => rfl
      | false => exact ih
theorem getN_turn_env (f : Option (PV → PV)) (lh : List (Nat × PV)) (t : Nat) (s : VS) : getN t (s.turn f lh).env = (getN t s.env).map (tv f) := by
  cases f with
  | none =>
    show getN t s.env = _
    cases getN t s.env <;> rfl
  | some f =>
    show getN t (s.env.map fun e => (e.1, e.2.mapL f)) = _
    exact getN_turn f t s.env
theorem turn_lh (f : Option (PV → PV)) (lh : List (Nat × PV)) (s : VS) : (s.turn f lh).lh = lh := by cases f <;> rfl
theorem yielded_put {o : Oper} {d : Option Tmp} {u : Value} {j : Nat} (h : ∀ q t, ops[j]? = some q → q.dst = some t → d ≠ some t) : yielded ops (a.put d u).tmps j = yielded ops a.tmps j := by
  unfold yielded
  cases hj : ops[j]? with
  | none => rfl
  | some q =>
    simp only [Option.bind_some]
    cases ht : q.dst with
    | none => rfl
    | some t =>
      simp only [Option.bind_some]
      cases d with
      | none => rfl
      | some d =>
        have hne : d ≠ t := fun e => h q t hj ht (by rw [e])
        have e : (a.put (some d) u).tmps[t]? = a.tmps[t]? := by
          show (a.tmps.setIfInBounds d u)[t]? = _
          rw [Array.getElem?_setIfInBounds, if_neg hne]
        rw [e]
theorem put_getD {d : Option Tmp} {u : Value} {t : Nat} (h : d ≠ some t) : (a.put d u).tmps.getD t undef = a.tmps.getD t undef := by
  cases d with
  | none => rfl
  | some d =>
    have hne : d ≠ t := fun e => h (by rw [e])
    show (a.tmps.setIfInBounds d u).getD t undef = _
    simp only [Array.getD_eq_getD_getElem?, Array.getElem?_setIfInBounds]
    rw [if_neg hne]
theorem put_same {u : Value} {t : Nat} (h : t < a.tmps.size) : (a.put (some t) u).tmps.getD t undef = u := by
  show (a.tmps.setIfInBounds t u).getD t undef = u
  simp [Array.getD, h]
theorem put_size (a : Act) (d : Option Tmp) (u : Value) : (a.put d u).tmps.size = a.tmps.size := by cases d <;> simp [Act.put]
theorem put_defers (a : Act) (d : Option Tmp) (u : Value) : (a.put d u).defers = a.defers := by cases d <;> rfl
theorem lookL_push {o : Oper} {v : PV} {s : VS} {t : Nat} : lookL t (pushL o v s).loc = if o.dst = some t then some (o.guard, v) else lookL t s.loc := by
  unfold pushL
  cases hd : o.dst with
  | none => simp
  | some d =>
    show (bif Nat.beq d t then some (o.guard, v) else lookL t s.loc) = _
    by_cases e : d = t
    · subst e; rw [Nat.beq_refl, if_pos rfl]; rfl
    · rw [if_neg (fun h => e (by injection h)), show Nat.beq d t = false by rw [Bool.eq_false_iff]; exact fun hh => e (Nat.eq_of_beq_eq_true hh)]; rfl
theorem push_env {o : Oper} {v : PV} {s : VS} : (pushL o v s).env = s.env ∧ (pushL o v s).lh = s.lh := by
  unfold pushL; cases o.dst <;> exact ⟨rfl, rfl⟩
/-- One operation carried out, or left out. -/
theorem LRel.push (h : LRel cx G ops N k s a w) (hr : RegFit ops N) {o : Oper} (ho : ops[k]? = some o) {f : Option (PV → PV)} {lh' : List (Nat × PV)} {G' : Gh} {w' : World} (tr : Turns cx G w f lh' G' w') {v : PV} {u : Value}
    (hv : GuardOn ops a.tmps o.guard → Rep v G' w' u) (hb : ¬ GuardOn ops a.tmps o.guard → u = undef) : LRel cx G' ops N (k + 1) (pushL o v (s.turn f lh')) (a.put o.dst u) w' := by
  have gon : ∀ {i : Nat} {q : Oper}, i ≤ k → ops[i]? = some q → (GuardOn ops (a.put o.dst u).tmps q.guard ↔ GuardOn ops a.tmps q.guard) := by
    intro i q hik hq
    unfold GuardOn
    cases hg : q.guard with
    | none => exact Iff.rfl
    | some p =>
      obtain ⟨j, b⟩ := p
      have hj := hr.guard i q hq j b hg
      dsimp only
      rw [yielded_put (o := o) fun q' t hq' ht e => hr.apart k j o q' t ho hq' (by omega) e ht]
  refine ⟨by rw [push_env.2, turn_lh]; exact tr.inv, fun t x hl he => ?_, fun t g x hl => ?_, fun i q hi hq b hy => ?_, by rw [put_size]; exact h.size, by rw [put_defers]; exact h.defers⟩
  · rw [lookL_push] at hl
    split at hl
    · cases hl
    · rename_i hd
      rw [lookL_turn] at hl
      rw [push_env.1, getN_turn_env] at he
      rw [Option.map_eq_some_iff] at he
      obtain ⟨y, hy, rfl⟩ := he
      rw [put_getD hd]
      exact tr.rep _ _ (h.env t y (by simpa using hl) hy)
  · rw [lookL_push] at hl
    split at hl
    · rename_i hd
      injection hl with hl; injection hl with h1 h2; subst h1; subst h2
      have hlt : t < a.tmps.size := Nat.lt_of_lt_of_le (hr.lt k o t ho hd) h.size
      refine ⟨fun hg => ?_, k, o, by omega, ho, rfl, hd⟩
      rw [hd, put_same hlt]
      exact hv ((gon (Nat.le_refl k) ho).1 hg)
    · rename_i hd
      rw [lookL_turn, Option.map_eq_some_iff] at hl
      obtain ⟨⟨g', y⟩, hy, e⟩ := hl
      injection e with e1 e2; subst e1; subst e2
      obtain ⟨h1, i, q, hi, hq, hg1, hd1⟩ := h.loc t g' y hy
      refine ⟨fun hg => ?_, i, q, by omega, hq, hg1, hd1⟩
      rw [put_getD hd]
      refine tr.rep _ _ (h1 ?_)
      rw [← hg1] at hg ⊢
      exact (gon (by omega) hq).1 hg
  · by_cases hik : i = k
    · subst hik
      rw [ho] at hq; injection hq with hq; subst hq
      rw [gon (Nat.le_refl _) ho]
      refine Classical.byContradiction fun hng => ?_
      have hu := hb hng
      subst hu
      unfold yielded at hy
      rw [ho] at hy
      simp only [Option.bind_some] at hy
      cases hd : o.dst with
      | none => rw [hd] at hy; cases hy
      | some d =>
        rw [hd] at hy
        simp only [Option.bind_some] at hy
        have hlt : d < a.tmps.size := Nat.lt_of_lt_of_le (hr.lt _ o d ho hd) h.size
        replace hy : (match (a.tmps.setIfInBounds d undef)[d]? with | some (.bool b) => some b | _ => none) = some b := hy
        rw [Array.getElem?_setIfInBounds, if_pos rfl, if_pos hlt] at hy
        cases hy
    · rw [yielded_put (o := o) fun q' t hq' ht e => hr.apart k i o q' t ho hq' (by omega) e ht] at hy
      exact (gon (by omega) hq).2 (h.chain i q (by omega) hq b hy)
theorem underG_ok (h : LRel cx G ops N k s a w) (hr : RegFit ops N) : ∀ (n : Nat) (g : Option (Nat × Bool)) (p : Prop), underG ops.toList s n g p → (∀ i b, g = some (i, b) → i < k) → GuardOn ops a.tmps g → p
  | 0, g, p, hu, _, _ => by unfold underG at hu; exact hu.elim
  | n + 1, g, p, hu, hk, hg => by
    unfold underG at hu
    split at hu
    · exact hu
    · rename_i j wv
      split at hu
      · exact hu.elim
      · rename_i o ho
        have ho' : ops[j]? = some o := by rw [← Array.getElem?_toList]; exact ho
        split at hu
        · rename_i x g' b hl
          rw [Option.bind_eq_some_iff] at hl
          obtain ⟨t, ht, hl⟩ := hl
          have hjk := hk j wv rfl
          obtain ⟨h1, i, q, hi, hq, hg1, hd1⟩ := h.loc t g' (.bool b) hl
          have hij : i = j := Classical.byContradiction fun hne => hr.apart i j q o t hq ho' hne hd1 ht
          subst hij
          rw [ho'] at hq; injection hq with hq; subst hq
          have hgo := h.chain i o hi ho' wv hg
          have hrep := h1 (by rw [← hg1]; exact hgo)
          have hbw : b = wv := by
            have hy : yielded ops a.tmps i = some wv := hg
            unfold yielded at hy
            rw [ho'] at hy
            simp only [Option.bind_some, ht] at hy
            have hlt : t < a.tmps.size := Nat.lt_of_lt_of_le (hr.lt _ o t ho' ht) h.size
            have e : a.tmps[t]? = some (.bool b) := by
              have : a.tmps.getD t undef = .bool b := hrep
              rw [Array.getD, dif_pos hlt] at this
              rw [Array.getElem?_eq_getElem hlt]
              exact congrArg some this
            rw [e] at hy
            injection hy
          have := underG_ok h hr n o.guard _ hu (fun i' b' hg' => by have := hr.guard i o ho' i' b' hg'; omega) hgo
          subst hbw
          cases b with
          | true => exact this rfl
          | false => exact this rfl
        · exact hu.elim
/-- What an operation is given. -/
theorem LRel.does {T : Tabs} {X : Tbl} (h : LRel cx G ops N k s a w) (hX : XOk P T X) (hm : cx.m ≤ 32) (hT : TabR T cx.F0) (hr : RegFit ops N) {o : Oper} (ho : ops[k]? = some o) (hg : GuardOn ops a.tmps o.guard) {v : PV} {f : Option (PV → PV)} {lh' : List (Nat × PV)}
    (he : (evOp P X T o (operandsV ops.toList o s) s.lh).Is v f s.lh lh') : Does P cx G w o a v f lh' := by
  have hk : ∀ i b, o.guard = some (i, b) → i < k := hr.guard k o ho
  by_cases hp : ∃ c x y, o.op = .pick c x y
  · obtain ⟨c, x, y, hop⟩ := hp
    have base : RepL' ([c, x, y].map (operandV ops.toList o.guard s)) G w ([c, x, y].map a.eval) := h.operands hr hk hg _
    have hc : Rep (operandV ops.toList o.guard s c) G w (a.eval c) := h.operand hr hk hg c
    have fin : ∀ (b : Bool) (p q : PV), evOp P X T o [.bool b, p, q] s.lh = .val (pickV b p q) → a.eval c = .bool b → (b = true → Rep p G w (a.eval x)) → (b = false → Rep q G w (a.eval y)) → (evOp P X T o [.bool b, p, q] s.lh).Is v f s.lh lh' → Does P cx G w o a v f lh' := by
      intro b p q hev hcb h1 h2 hI
      rw [hev] at hI
      obtain ⟨rfl, rfl, rfl⟩ := hI
      refine .pure h.inv (u := if b = true then a.eval x else a.eval y) ?_ (pick_ok h1 h2)
      unfold execOp
      rw [hop]
      dsimp only
      rw [hcb]
      cases b <;> rfl
    have ev : ∀ b p q, evOp P X T o [.bool b, p, q] s.lh = .val (pickV b p q) := by
      intro b p q
      unfold evOp
      rw [hop]
    have evn : ∀ z p q, (∀ b, z ≠ PV.bool b) → ¬ (evOp P X T o [z, p, q] s.lh).Is v f s.lh lh' := by
      intro z p q hz hI
      unfold evOp at hI
      rw [hop] at hI
      dsimp only at hI
      cases z <;> first | exact hz _ rfl | exact hI
    unfold operandsV at he
    rw [hop] at he
    dsimp only at he
    cases hpg : pickGuard ops.toList s c with
    | none =>
      rw [hpg] at he
      dsimp only at he
      replace he : (evOp P X T o [operandV ops.toList o.guard s c, operandV ops.toList o.guard s x, operandV ops.toList o.guard s y] s.lh).Is v f s.lh lh' := he
      generalize hz : operandV ops.toList o.guard s c = z at he hc
      cases z with
      | bool b => exact fin b _ _ (ev b _ _) hc (fun _ => h.operand hr hk hg x) (fun _ => h.operand hr hk hg y) he
      | _ => exact absurd he (evn _ _ _ (fun b e => by cases e))
    | some j =>
      rw [hpg] at he
      dsimp only at he
      generalize hz : operandV ops.toList o.guard s c = z at he hc
      cases z with
      | bool b =>
        have hcb : a.eval c = .bool b := hc
        unfold pickGuard at hpg
        split at hpg
        · rename_i t
          split at hpg
          · rename_i q hl
            obtain ⟨h1, i, o', hi, ho', hg1, hd1⟩ := h.loc t q.1 q.2 hl
            have hj := List.findIdx?_eq_some_iff_getElem.1 hpg
            obtain ⟨hjl, hj2, -⟩ := hj
            have hjo : ops[j]? = some (ops.toList[j]) := by rw [← Array.getElem?_toList]; exact List.getElem?_eq_getElem hjl
            have hjd : (ops.toList[j]).dst = some t := by
              cases hd : (ops.toList[j]).dst with
              | none => rw [hd] at hj2; cases hj2
              | some d => rw [hd] at hj2; rw [Nat.eq_of_beq_eq_true hj2]
            have hij : i = j := Classical.byContradiction fun hne => hr.apart i j o' _ t ho' hjo hne hd1 hjd
            subst hij
            have hlt : t < a.tmps.size := Nat.lt_of_lt_of_le (hr.lt _ _ t hjo hjd) h.size
            have hy : yielded ops a.tmps i = some b := by
              unfold yielded
              rw [hjo]
              simp only [Option.bind_some, hjd]
              have e : a.tmps[t]? = some (.bool b) := by
                have : a.tmps.getD t undef = .bool b := hcb
                rw [Array.getD, dif_pos hlt] at this
                rw [Array.getElem?_eq_getElem hlt]
                exact congrArg some this
              rw [e]
            refine fin b _ _ (ev b _ _) hcb (fun hb => ?_) (fun hb => ?_) he
            · subst hb
              exact h.operand hr (g := some (i, true)) (fun i' b' e => by injection e with e; injection e with e1 e2; omega) hy x
            · subst hb
              exact h.operand hr (g := some (i, false)) (fun i' b' e => by injection e with e; injection e with e1 e2; omega) hy y
          · cases hpg
        · cases hpg
      | _ => exact absurd he (evn _ _ _ (fun b e => by cases e))
  · have hnp : ∀ c x y, o.op ≠ .pick c x y := fun c x y e => hp ⟨c, x, y, e⟩
    have : operandsV ops.toList o s = o.op.operands.toList.map (operandV ops.toList o.guard s) := by
      unfold operandsV
      split
      · rename_i c x y e
        exact absurd e (hnp c x y)
      · rfl
    rw [this] at he
    exact evOp_ok hX h.inv hm hT hnp (h.operands hr hk hg _) he
theorem forceL_eq {f : PV → (PV → Prop) → Prop} (hf : ∀ x k, f x k = k x) : ∀ (l : List PV) (k : List PV → Prop), forceL f l k = k l
  | [], k => rfl
  | x :: l, k => by unfold forceL; rw [hf, forceL_eq hf l]
theorem forceB_eq (r : BRow) (k : BRow → Prop) : forceB r k = k r := by cases r <;> rfl
theorem forceV_eq : ∀ (n : Nat) (x : PV) (k : PV → Prop), forceV n x k = k x
  | 0, x, k => rfl
  | n + 1, x, k => by
    cases x with
    | arr m r => show forceB r (fun r => k (.arr m r)) = _; exact forceB_eq r _
    | row nl r t => show forceB r (fun r => k (.row nl r t)) = _; exact forceB_eq r _
    | agg l => show forceL (forceV n) l (fun l => k (.agg l)) = _; exact forceL_eq (forceV_eq n) l _
    | tup l => show forceL (forceV n) l (fun l => k (.tup l)) = _; exact forceL_eq (forceV_eq n) l _
    | _ => rfl
theorem forceE_eq : ∀ (l : List (Nat × PV)) (k : List (Nat × PV) → Prop), forceE l k = k l
  | [], k => rfl
  | e :: l, k => by unfold forceE; rw [forceV_eq, forceE_eq l]
/-- Operations in line do what is said. -/
theorem evOps_ok {T : Tabs} {X : Tbl} (hX : XOk P T X) (hm : cx.m ≤ 32) (hT : TabR T cx.F0) (hr : RegFit ops N) {Q : Exit → Act → World → Prop} {K : VS → Prop} (hQ : ∀ G s a w, LRel cx G ops N ops.size s a w → K s → Q .normal a w) :
    ∀ (rest : List Oper) (k : Nat) (s : VS) (a : Act) (w : World) (G : Gh), ops.toList.drop k = rest → k ≤ ops.size → LRel cx G ops N k s a w → evOps P X T ops.toList rest s K → wpList P ops Q rest a w
  | [], k, s, a, w, G, hd, hk, h, he => by
    have : k = ops.size := by
      have := List.drop_eq_nil_iff.1 hd
      simp at this; omega
    subst this
    exact hQ G s a w h he
  | o :: os, k, s, a, w, G, hd, hk, h, he => by
    have ho : ops[k]? = some o := by
      rw [← Array.getElem?_toList]
      have := congrArg (fun l => l[0]?) hd
      simpa using this
    have hd' : ops.toList.drop (k + 1) = os := by
      rw [← List.drop_drop, hd]; rfl
    have hk' : k + 1 ≤ ops.size := (Array.getElem?_eq_some_iff.1 ho).1
    have off : ∀ v, ¬ GuardOn ops a.tmps o.guard → evOps P X T ops.toList os (pushL o v s) K → wpList P ops Q (o :: os) a w := by
      intro v hng he'
      show if _ then _ else _
      rw [if_neg (by rw [wanted_iff]; exact hng)]
      exact evOps_ok hX hm hT hr hQ os (k + 1) _ _ w G hd' hk' (h.push hr ho (.refl h.inv) (v := v) (u := undef) (fun hg => absurd hg hng) (fun _ => rfl)) he'
    have on : ∀ v f lh', GuardOn ops a.tmps o.guard → (evOp P X T o (operandsV ops.toList o s) s.lh).Is v f s.lh lh' → evOps P X T ops.toList os (pushL o v (s.turn f lh')) K → wpList P ops Q (o :: os) a w := by
      intro v f lh' hg hI he'
      show if _ then _ else _
      rw [if_pos ((wanted_iff ops a.tmps o).2 hg)]
      left
      refine h.does hX hm hT hr ho hg hI _ _ fun G' w' u tr hv => ?_
      exact evOps_ok hX hm hT hr hQ os (k + 1) _ _ w' G' hd' hk' (h.push hr ho tr (fun _ => hv) (fun hng => absurd hg hng)) he'
    unfold evOps at he
    split at he
    · rename_i v hev
      rw [forceV_eq] at he
      by_cases hg : GuardOn ops a.tmps o.guard
      · exact on v none s.lh hg (by rw [hev]; exact ⟨rfl, rfl, rfl⟩) he
      · exact off v hg he
    · rename_i p v hev hgn
      rw [forceV_eq] at he
      have hg : GuardOn ops a.tmps o.guard := by rw [hgn]; trivial
      exact on v none s.lh hg (by rw [hev]; exact ⟨he.1, rfl, rfl, rfl⟩) he.2
    · rename_i p v g hev hgs
      rw [forceV_eq] at he
      by_cases hg : GuardOn ops a.tmps o.guard
      · have hp : p := underG_ok h hr 9 _ p (by rw [hgs] at *; exact he.1) (hr.guard k o ho) hg
        exact on v none s.lh hg (by rw [hev]; exact ⟨hp, rfl, rfl, rfl⟩) he.2
      · exact off v hg he.2
    · rename_i v f lh' hev hgn
      rw [forceV_eq] at he
      have hg : GuardOn ops a.tmps o.guard := by rw [hgn]; trivial
      exact on v f lh' hg (by rw [hev]; exact ⟨rfl, rfl, rfl⟩) he
    · rename_i p v f lh' hev hgn
      rw [forceV_eq] at he
      have hg : GuardOn ops a.tmps o.guard := by rw [hgn]; trivial
      exact on v f lh' hg (by rw [hev]; exact ⟨he.1, rfl, rfl, rfl⟩) he.2
    · exact he.elim
end
end Go.Vc


/- A calculus of Go's functions by their values: operations in any order. -/
namespace Go.Vc
open Go.RowKit
variable {P : Program} {cx : Cx} {G : Gh} {w : World}

theorem inMask_eq (a t : Nat) : inMask a t = a.testBit t := by
  unfold inMask
  show Nat.beq ((a >>> t) &&& 1) 1 = _
  rw [Nat.testBit, Nat.and_comm]
  have : (1 &&& (a >>> t)) = (a >>> t) % 2 := by rw [Nat.and_comm]; exact Nat.and_one_is_mod _
  rw [this]
  rcases Nat.mod_two_eq_zero_or_one (a >>> t) with h | h <;> rw [h] <;> rfl
theorem inMask_or (a t s : Nat) : inMask (orMask a t) s = (inMask a s || decide (t = s)) := by
  rw [inMask_eq, inMask_eq]
  show (a ||| 2 ^ t).testBit s = _
  rw [Nat.testBit_or, Nat.testBit_two_pow]
theorem inMask_lor (a b s : Nat) : inMask (Nat.lor a b) s = (inMask a s || inMask b s) := by
  rw [inMask_eq, inMask_eq, inMask_eq]
  exact Nat.testBit_or a b s
theorem inMask_zero (s : Nat) : inMask 0 s = false := by rw [inMask_eq]; exact Nat.zero_testBit s

def addS (S : Nat → Bool) (i : Nat) : Nat → Bool := fun k => S k || decide (k = i)
theorem addS_of {S : Nat → Bool} {i k : Nat} (h : k ≠ i) : addS S i k = S k := by unfold addS; rw [decide_eq_false h, Bool.or_false]
theorem addS_self {S : Nat → Bool} {i : Nat} : addS S i i = true := by unfold addS; simp
def cntS (S : Nat → Bool) : Nat → Nat
  | 0 => 0
  | k + 1 => cntS S k + (if S k = true then 0 else 1)
theorem cntS_zero {S : Nat → Bool} : ∀ {n}, cntS S n = 0 → ∀ j, j < n → S j = true
  | 0, _, j, h => by omega
  | n + 1, h, j, hj => by
    unfold cntS at h
    by_cases e : j = n
    · subst e
      cases hs : S j with
      | true => rfl
      | false => rw [hs] at h; simp at h
    · exact cntS_zero (n := n) (S := S) (Nat.eq_zero_of_add_eq_zero_right h) j (by omega)
theorem cntS_add {S : Nat → Bool} {i : Nat} (hi : S i = false) : ∀ n, cntS (addS S i) n + (if i < n then 1 else 0) = cntS S n
  | 0 => rfl
  | n + 1 => by
    have ih := cntS_add hi n
    unfold cntS
    by_cases e : n = i
    · subst e
      rw [addS_self, hi]
      rw [if_neg (Nat.lt_irrefl n)] at ih
      rw [if_pos (Nat.lt_succ_self n), if_pos rfl, if_neg (by simp)]
      omega
    · rw [addS_of e]
      by_cases h : i < n
      · rw [if_pos h] at ih; rw [if_pos (by omega : i < n + 1)]; omega
      · rw [if_neg h] at ih; rw [if_neg (by omega : ¬ i < n + 1)]; omega
theorem cntS_none : ∀ n, cntS (fun _ => false) n = n
  | 0 => rfl
  | n + 1 => by unfold cntS; rw [cntS_none n]; rfl
abbrev ofL (listed : Array Bool) : Nat → Bool := fun j => listed.getD j false
theorem ofL_set {listed : Array Bool} {i : Nat} (h : i < listed.size) : ofL (listed.setIfInBounds i true) = addS (ofL listed) i := by
  funext j
  unfold ofL addS
  simp only [Array.getD_eq_getD_getElem?, Array.getElem?_setIfInBounds]
  by_cases e : i = j
  · subst e; rw [if_pos rfl, if_pos h]; simp
  · rw [if_neg e, decide_eq_false (fun x => e x.symm), Bool.or_false]
def maskOf (acc : List Nat) (o : Oper) : Nat := o.after.toList.foldl (fun s e => if Region.binds .any e then Nat.lor (orMask s e.on) (acc.getD e.on 0) else s) 0
theorem mask_fold (acc : List Nat) : ∀ (l : List Edge) (s j : Nat), inMask (l.foldl (fun s e => if Region.binds .any e then Nat.lor (orMask s e.on) (acc.getD e.on 0) else s) s) j = true → inMask s j = true ∨ ∃ e ∈ l, Region.binds .any e = true ∧ (e.on = j ∨ inMask (acc.getD e.on 0) j = true)
  | [], s, j, h => .inl h
  | e :: l, s, j, h => by
    rw [List.foldl_cons] at h
    rcases mask_fold acc l _ j h with h | ⟨e', h1, h2⟩
    · split at h
      · rename_i hb
        rw [inMask_lor, inMask_or, Bool.or_eq_true, Bool.or_eq_true] at h
        rcases h with (h | h) | h
        · exact .inl h
        · exact .inr ⟨e, List.mem_cons_self .., hb, .inl (of_decide_eq_true h)⟩
        · exact .inr ⟨e, List.mem_cons_self .., hb, .inr h⟩
      · exact .inl h
    · exact .inr ⟨e', List.mem_cons_of_mem _ h1, h2⟩
theorem befores_go : ∀ (l : List Oper) (acc : List Nat), ∃ r, l.foldl (fun (acc : List Nat) o => acc ++ [maskOf acc o]) acc = acc ++ r ∧ r.length = l.length ∧ ∀ i o, l[i]? = some o → r[i]? = some (maskOf (acc ++ r.take i) o)
  | [], acc => ⟨[], by simp, rfl, fun i o h => by simp at h⟩
  | o :: l, acc => by
    obtain ⟨r, h1, h2, h3⟩ := befores_go l (acc ++ [maskOf acc o])
    refine ⟨maskOf acc o :: r, by rw [List.foldl_cons, h1, List.append_assoc]; rfl, by simp [h2], fun i o' h => ?_⟩
    cases i with
    | zero => simp at h; subst h; simp
    | succ i =>
      have := h3 i o' (by simpa using h)
      rw [List.getElem?_cons_succ, this, List.take_succ_cons, List.append_assoc]; rfl
theorem befores_spec (ops : List Oper) : (befores ops).length = ops.length ∧ ∀ i o j, ops[i]? = some o → inMask ((befores ops).getD i 0) j = true → ∃ e ∈ o.after, Region.binds .any e = true ∧ (e.on = j ∨ inMask ((befores ops).getD e.on 0) j = true) := by
  obtain ⟨r, h1, h2, h3⟩ := befores_go ops []
  have e : befores ops = r := h1
  rw [e]
  refine ⟨h2, fun i o j ho hm => ?_⟩
  have hr := h3 i o ho
  rw [List.getD_eq_getElem?_getD, hr] at hm
  rcases mask_fold _ _ _ _ (show inMask (o.after.toList.foldl _ 0) j = true from hm) with h | ⟨e, h4, h5, h6⟩
  · rw [inMask_zero] at h; cases h
  · refine ⟨e, Array.mem_toList_iff.1 h4, h5, h6.imp id fun h => ?_⟩
    rw [List.nil_append, List.getD_eq_getElem?_getD, List.getElem?_take] at h
    split at h
    · rw [List.getD_eq_getElem?_getD]; exact h
    · rw [Option.getD_none, inMask_zero] at h; cases h
structure Opn (ops : List Oper) (bf : List Nat) : Prop where
  len : bf.length = ops.length
  bfs : ∀ i o j, ops[i]? = some o → inMask (bf.getD i 0) j = true → ∃ e ∈ o.after, Region.binds .any e = true ∧ (e.on = j ∨ inMask (bf.getD e.on 0) j = true)
  dn : ∀ i o e, ops[i]? = some o → e ∈ o.after → Region.binds .any e = true → e.on < i
  ap : ∀ i j x y, i < j → ops[i]? = some x → ops[j]? = some y → inMask (bf.getD j 0) i = true ∨ apartB ops x y = true
theorem openOk_spec {ops : List Oper} (h : openOk ops (befores ops) = true) : Opn ops (befores ops) := by
  obtain ⟨h1, h2⟩ := befores_spec ops
  unfold openOk at h
  rw [Bool.and_eq_true] at h
  obtain ⟨ha, hb⟩ := h
  refine ⟨h1, h2, fun i o e ho he hbi => ?_, fun i j x y hij hx hy => ?_⟩
  · have := List.all_eq_true.1 ha (o, i) (List.mem_zipIdx_iff_getElem?.2 ho)
    have := List.all_eq_true.1 this e (Array.mem_toList_iff.2 he)
    rw [hbi] at this
    simpa using this
  · have hj : j < (befores ops).length := by rw [h1]; exact (List.getElem?_eq_some_iff.1 hy).1
    have hz : (ops.zip (befores ops))[j]? = some (y, (befores ops)[j]) := List.getElem?_zip_eq_some.2 ⟨hy, List.getElem?_eq_getElem hj⟩
    have := List.all_eq_true.1 hb ((y, (befores ops)[j]), j) (List.mem_zipIdx_iff_getElem?.2 hz)
    have := List.all_eq_true.1 this (x, i) (List.mem_zipIdx_iff_getElem?.2 (by rw [List.getElem?_take, if_pos hij]; exact hx))
    rw [Bool.or_eq_true] at this
    rw [List.getD_eq_getElem?_getD, List.getElem?_eq_getElem hj]
    exact this
/-- Those before it write what it reads; those behind it do not. -/
theorem apartB_left {ops : List Oper} {x y : Oper} {d : Tmp} (h : apartB ops x y = true) (hd : x.dst = some d) : d ∉ readsOf ops y ∧ y.dst ≠ some d := by
  unfold apartB at h
  rw [hd] at h
  dsimp only at h
  rw [Bool.and_eq_true, Bool.and_eq_true] at h
  obtain ⟨⟨h1, h2⟩, -⟩ := h
  refine ⟨fun hm => ?_, by simpa using h2⟩
  simp [hm] at h1
theorem apartB_right {ops : List Oper} {x y : Oper} {d : Tmp} (h : apartB ops x y = true) (hd : y.dst = some d) : d ∉ readsOf ops x := by
  unfold apartB at h
  rw [hd] at h
  dsimp only at h
  rw [Bool.and_eq_true] at h
  intro hm
  have := h.2
  simp [hm] at this

theorem reads_operand {ops : List Oper} {o : Oper} {t : Tmp} (h : Operand.tmp t ∈ o.op.operands.toList) : t ∈ readsOf ops o :=
  List.mem_append_left _ (List.mem_filterMap.2 ⟨_, h, rfl⟩)
theorem reads_guard {ops : List Oper} {o q : Oper} {j : Nat} {b : Bool} {d : Tmp} (hg : o.guard = some (j, b)) (hq : ops[j]? = some q) (hd : q.dst = some d) : d ∈ readsOf ops o := by
  unfold readsOf
  rw [hg]
  refine List.mem_append_right _ ?_
  dsimp only
  rw [hq]
  simp [hd]
/-- What is told of an operation, as it is met in line. -/
def StepOk (P : Program) (X : Tbl) (T : Tabs) (ops : List Oper) (o : Oper) (s : VS) (v : PV) : Prop :=
  evOpD P X T o (operandsV ops o s) s.lh = .val v ∨ ∃ p, evOpD P X T o (operandsV ops o s) s.lh = .vneed p v ∧ (match o.guard with | none => p | some g => underG ops s 9 (some g) p)
theorem evD_trace {X : Tbl} {T : Tabs} {ops : List Oper} {K : VS → Prop} : ∀ (rest : List Oper) (s : VS), evD P X T ops rest s K →
    ∃ (st : Nat → VS) (vl : Nat → PV), st 0 = s ∧ (∀ j o, rest[j]? = some o → st (j + 1) = pushL o (vl j) (st j) ∧ StepOk P X T ops o (st j) (vl j)) ∧ K (st rest.length)
  | [], s, h => ⟨fun _ => s, fun _ => .undef, rfl, fun j o hj => by simp at hj, h⟩
  | o :: os, s, h => by
    have go : ∀ v, StepOk P X T ops o s v → evD P X T ops os (pushL o v s) K → ∃ (st : Nat → VS) (vl : Nat → PV), st 0 = s ∧ (∀ j q, (o :: os)[j]? = some q → st (j + 1) = pushL q (vl j) (st j) ∧ StepOk P X T ops q (st j) (vl j)) ∧ K (st (o :: os).length) := by
      intro v hv he
      obtain ⟨st, vl, h1, h2, h3⟩ := evD_trace os _ he
      refine ⟨fun | 0 => s | j + 1 => st j, fun | 0 => v | j + 1 => vl j, rfl, fun j q hj => ?_, h3⟩
      cases j with
      | zero =>
        have : o = q := by simpa using hj
        subst this
        exact ⟨h1, hv⟩
      | succ j => exact h2 j q (by simpa using hj)
    unfold evD at h
    split at h
    · rename_i v hev
      rw [forceV_eq] at h
      exact go v (.inl hev) h
    · rename_i p v hev hg
      rw [forceV_eq] at h
      exact go v (.inr ⟨p, hev, by rw [hg]; exact h.1⟩) h.2
    · rename_i p v g hev hg
      rw [forceV_eq] at h
      exact go v (.inr ⟨p, hev, by rw [hg]; exact h.1⟩) h.2
    · exact h.elim
/-- The states that are met, in line. -/
structure Trc (P : Program) (X : Tbl) (T : Tabs) (ops : List Oper) (s : VS) (st : Nat → VS) (vl : Nat → PV) : Prop where
  loc : s.loc = []
  zero : st 0 = s
  step : ∀ j o, ops[j]? = some o → st (j + 1) = pushL o (vl j) (st j) ∧ StepOk P X T ops o (st j) (vl j)
theorem Trc.look {X : Tbl} {T : Tabs} {ops : List Oper} {s : VS} {st : Nat → VS} {vl : Nat → PV} (h : Trc P X T ops s st vl) : ∀ k, k ≤ ops.length →
    (st k).env = s.env ∧ (st k).lh = s.lh ∧ (∀ t g v, lookL t (st k).loc = some (g, v) → ∃ i o, i < k ∧ ops[i]? = some o ∧ o.guard = g ∧ o.dst = some t ∧ v = vl i) ∧ (∀ t, lookL t (st k).loc = none → ∀ i o, i < k → ops[i]? = some o → o.dst ≠ some t)
  | 0, _ => by
    rw [h.zero]
    exact ⟨rfl, rfl, (fun t g v hl => by rw [h.loc] at hl; cases hl), fun t _ i o hi => by omega⟩
  | k + 1, hk => by
    obtain ⟨h1, h2, h3, h4⟩ := h.look k (by omega)
    obtain ⟨o, ho⟩ : ∃ o, ops[k]? = some o := ⟨_, List.getElem?_eq_getElem (by omega)⟩
    rw [(h.step k o ho).1]
    refine ⟨by rw [push_env.1]; exact h1, by rw [push_env.2]; exact h2, fun t g v hl => ?_, fun t hl i q hi hq => ?_⟩
    · rw [lookL_push] at hl
      split at hl
      · rename_i hd
        injection hl with hl; injection hl with e1 e2; subst e1; subst e2
        exact ⟨k, o, by omega, ho, rfl, hd, rfl⟩
      · obtain ⟨i, q, g1, g2, g3, g4, g5⟩ := h3 t g v hl
        exact ⟨i, q, by omega, g2, g3, g4, g5⟩
    · rw [lookL_push] at hl
      split at hl
      · cases hl
      · rename_i hd
        by_cases hik : i = k
        · subst hik
          rw [ho] at hq; injection hq with hq; subst hq
          exact hd
        · exact h4 t hl i q (by omega) hq
/-- What is held of a region of which some operations are carried out. -/
structure DRel (cx : Cx) (G : Gh) (ops : Array Oper) (N : Nat) (s : VS) (vl : Nat → PV) (S : Nat → Bool) (a : Act) (w : World) : Prop where
  inv : Inv cx G s.lh w
  env : ∀ t x, (∀ i o, S i = true → ops[i]? = some o → o.dst ≠ some t) → getN t s.env = some x → Rep x G w (a.tmps.getD t undef)
  val : ∀ i o t, S i = true → ops[i]? = some o → o.dst = some t → GuardOn ops a.tmps o.guard → Rep (vl i) G w (a.tmps.getD t undef)
  chain : ∀ i o, S i = true → ops[i]? = some o → ∀ b, yielded ops a.tmps i = some b → GuardOn ops a.tmps o.guard
  down : ∀ i o e, S i = true → ops[i]? = some o → e ∈ o.after → Region.binds .any e = true → S e.on = true
  inb : ∀ i, S i = true → i < ops.size
  size : N ≤ a.tmps.size
  defers : a.defers = []
/-- A region whose order may be left open. -/
structure OFit (ops : Array Oper) (N : Nat) : Prop where
  fit : RegFit ops N
  opn : Opn ops.toList (befores ops.toList)
  gdst : ∀ (k : Nat) (o : Oper), ops[k]? = some o → ∀ j b, o.guard = some (j, b) → ∃ (q : Oper) (d : Tmp), ops[j]? = some q ∧ q.dst = some d
theorem guardsOk_dst {ops : List Oper} : ∀ {l : List Oper} {n : Nat}, guardsOk ops n l = true → ∀ (k : Nat) o, l[k]? = some o → ∀ j b, o.guard = some (j, b) → ∃ q d, ops[j]? = some q ∧ q.dst = some d
  | [], n, h, k, o, h1, j, b, hg => by simp at h1
  | p :: l, n, h, k, o, h1, j, b, hg => by
    unfold guardsOk at h
    rw [Bool.and_eq_true] at h
    cases k with
    | zero =>
      have : p = o := by simpa using h1
      subst this
      have h3 := h.1
      rw [hg] at h3
      rw [Bool.and_eq_true] at h3
      have h4 := h3.2
      split at h4
      · rename_i d hd
        obtain ⟨q, hq, hd⟩ := Option.bind_eq_some_iff.1 hd
        exact ⟨q, d, hq, hd⟩
      · cases h4
    | succ k => exact guardsOk_dst h.2 k o (by simpa using h1) j b hg
theorem oFit {ops : Array Oper} {N : Nat} (h : regOk N ops.toList = true) (ho : openOk ops.toList (befores ops.toList) = true) : OFit ops N := by
  refine ⟨regFit h, openOk_spec ho, fun k o hk j b hg => ?_⟩
  unfold regOk at h
  simp only [Bool.and_eq_true] at h
  rw [← Array.getElem?_toList] at hk
  obtain ⟨q, d, h1, h2⟩ := guardsOk_dst h.1.2 k o hk j b hg
  exact ⟨q, d, by rw [← Array.getElem?_toList]; exact h1, h2⟩
section
variable {ops : Array Oper} {N k : Nat} {s : VS} {a : Act} {vl : Nat → PV} {st : Nat → VS} {S : Nat → Bool} {X : Tbl} {T : Tabs}
theorem OFit.below (of : OFit ops N) (hd : ∀ i o e, S i = true → ops[i]? = some o → e ∈ o.after → Region.binds .any e = true → S e.on = true) : ∀ (i : Nat) (o : Oper) (j : Nat), ops[i]? = some o → (∀ e ∈ o.after, Region.binds .any e = true → S e.on = true) → inMask ((befores ops.toList).getD i 0) j = true → S j = true := by
  intro i
  induction i using Nat.strongRecOn with
  | _ i ih =>
    intro o j ho hok hm
    obtain ⟨e, he, hb, h⟩ := of.opn.bfs i o j (by rw [Array.getElem?_toList]; exact ho) hm
    have hs := hok e he hb
    rcases h with h | h
    · rw [← h]; exact hs
    · have hlt := of.opn.dn i o e (by rw [Array.getElem?_toList]; exact ho) he hb
      have hi : i < ops.size := (Array.getElem?_eq_some_iff.1 ho).1
      obtain ⟨o', ho'⟩ : ∃ o', ops[e.on]? = some o' := ⟨_, Array.getElem?_eq_getElem (by omega)⟩
      exact ih e.on hlt o' j ho' (fun e' he' hb' => hd e.on o' e' hs ho' he' hb') h
/-- What is read was laid, if it stands ahead; and is not laid again. -/
theorem DRel.reads (h : DRel cx G ops N s vl S a w) (of : OFit ops N) {o : Oper} (ho : ops[k]? = some o) (hok : ∀ e ∈ o.after, Region.binds .any e = true → S e.on = true) {t : Tmp} (ht : t ∈ readsOf ops.toList o) :
    (∀ i q, i < k → ops[i]? = some q → q.dst = some t → S i = true) ∧ (S k = false → ∀ i q, S i = true → ops[i]? = some q → q.dst = some t → i < k) := by
  have ho' : ops.toList[k]? = some o := by rw [Array.getElem?_toList]; exact ho
  refine ⟨fun i q hi hq hd => ?_, fun hk i q hS hq hd => ?_⟩
  · have hq' : ops.toList[i]? = some q := by rw [Array.getElem?_toList]; exact hq
    rcases of.opn.ap i k q o hi hq' ho' with h1 | h1
    · exact of.below h.down k o i ho hok h1
    · exact absurd ht (apartB_left h1 hd).1
  · have hq' : ops.toList[i]? = some q := by rw [Array.getElem?_toList]; exact hq
    refine Classical.byContradiction fun hlt => ?_
    have hne : i ≠ k := fun e => by rw [e, hk] at hS; cases hS
    rcases of.opn.ap k i o q (by omega) ho' hq' with h1 | h1
    · have := of.below h.down i q k hq (fun e he hb => h.down i q e hS hq he hb) h1
      rw [hk] at this; cases this
    · exact absurd ht (apartB_right h1 hd)
/-- A guard's operation was carried out. -/
theorem DRel.guard (h : DRel cx G ops N s vl S a w) (of : OFit ops N) {o : Oper} (ho : ops[k]? = some o) (hok : ∀ e ∈ o.after, Region.binds .any e = true → S e.on = true) : ∀ j b, o.guard = some (j, b) → S j = true := by
  intro j b hg
  obtain ⟨q, d, hq, hd⟩ := of.gdst k o ho j b hg
  exact (h.reads of ho hok (reads_guard hg (by rw [Array.getElem?_toList]; exact hq) hd)).1 j q (of.fit.guard k o ho j b hg) hq hd
theorem DRel.guard' (h : DRel cx G ops N s vl S a w) (of : OFit ops N) {o : Oper} (ho : ops[k]? = some o) (hS : S k = true) : ∀ j b, o.guard = some (j, b) → S j = true :=
  h.guard of ho fun e he hb => h.down k o e hS ho he hb
theorem DRel.guardIn (h : DRel cx G ops N s vl S a w) (of : OFit ops N) : ∀ (n : Nat) (g q : Option (Nat × Bool)), guardIn ops.toList n g q = true → (∀ i b, g = some (i, b) → S i = true) → GuardOn ops a.tmps g → GuardOn ops a.tmps q
  | 0, g, q, e, _, _ => by unfold Go.Vc.guardIn at e; cases e
  | n + 1, g, q, e, hk, hg => by
    unfold Go.Vc.guardIn at e
    split at e
    · trivial
    · rename_i j b
      split at e
      · cases e
      · rename_i i c
        rw [Bool.or_eq_true] at e
        rcases e with e | e
        · rw [Bool.and_eq_true] at e
          have h1 := Nat.eq_of_beq_eq_true e.1
          have h2 : c = b := by simpa using e.2
          subst h1; subst h2
          exact hg
        · have hik := hk i c rfl
          cases ho : ops[i]? with
          | none =>
            have : (ops.toList[i]?).bind (·.guard) = none := by rw [Array.getElem?_toList, ho]; rfl
            rw [this] at e
            cases n with
            | zero => unfold Go.Vc.guardIn at e; cases e
            | succ n => unfold Go.Vc.guardIn at e; cases e
          | some o =>
            have : (ops.toList[i]?).bind (·.guard) = o.guard := by rw [Array.getElem?_toList, ho]; rfl
            rw [this] at e
            exact h.guardIn of n o.guard _ e (fun i' b' hg' => h.guard' of ho hik i' b' hg') (h.chain i o hik ho c hg)
theorem DRel.operand (h : DRel cx G ops N s vl S a w) (of : OFit ops N) (tc : Trc P X T ops.toList s st vl) (hkn : k ≤ ops.size) {g : Option (Nat × Bool)} (hk : ∀ i b, g = some (i, b) → S i = true) (hg : GuardOn ops a.tmps g) (x : Operand)
    (hx : ∀ t, x = .tmp t → (∀ i q, i < k → ops[i]? = some q → q.dst = some t → S i = true) ∧ ∀ i q, S i = true → ops[i]? = some q → q.dst = some t → i < k) : Rep (operandV ops.toList g (st k) x) G w (a.eval x) := by
  cases x with
  | tmp t =>
    obtain ⟨l1, l2, l3, l4⟩ := tc.look k (by simpa using hkn)
    obtain ⟨x1, x2⟩ := hx t rfl
    unfold operandV
    dsimp only
    cases hl : lookL t (st k).loc with
    | none =>
      dsimp only
      rw [l1]
      cases he : getN t s.env with
      | none => trivial
      | some x => exact h.env t x (fun i o hS ho hd => l4 t hl i o (x2 i o hS ho hd) (by rw [Array.getElem?_toList]; exact ho) hd) he
    | some p =>
      obtain ⟨q, v⟩ := p
      dsimp only
      cases hgi : Go.Vc.guardIn ops.toList 9 g q with
      | false => trivial
      | true =>
        obtain ⟨i, o, g1, g2, rfl, g4, rfl⟩ := l3 t q v hl
        rw [Array.getElem?_toList] at g2
        exact h.val i o t (x1 i o g1 g2 g4) g2 g4 (h.guardIn of 9 g _ hgi hk hg)
  | const v => exact ofValue_ok v
  | global g => exact rfl
  | func f => exact ⟨[], [], rfl, rfl, rfl⟩
theorem DRel.operands (h : DRel cx G ops N s vl S a w) (of : OFit ops N) (tc : Trc P X T ops.toList s st vl) (hkn : k ≤ ops.size) {g : Option (Nat × Bool)} (hk : ∀ i b, g = some (i, b) → S i = true) (hg : GuardOn ops a.tmps g) : ∀ xs : List Operand,
    (∀ t, Operand.tmp t ∈ xs → (∀ i q, i < k → ops[i]? = some q → q.dst = some t → S i = true) ∧ ∀ i q, S i = true → ops[i]? = some q → q.dst = some t → i < k) → RepL' (xs.map (operandV ops.toList g (st k))) G w (xs.map a.eval)
  | [], _ => rfl
  | x :: xs, hx => ⟨_, _, rfl, h.operand of tc hkn hk hg x (fun t e => hx t (by rw [e]; exact List.mem_cons_self ..)), h.operands of tc hkn hk hg xs fun t ht => hx t (List.mem_cons_of_mem _ ht)⟩
theorem DRel.underG (h : DRel cx G ops N s vl S a w) (of : OFit ops N) (tc : Trc P X T ops.toList s st vl) (hkn : k ≤ ops.size) : ∀ (n : Nat) (g : Option (Nat × Bool)) (p : Prop), underG ops.toList (st k) n g p → (∀ i b, g = some (i, b) → S i = true) → GuardOn ops a.tmps g → p
  | 0, g, p, hu, _, _ => by unfold Go.Vc.underG at hu; exact hu.elim
  | n + 1, g, p, hu, hk, hg => by
    unfold Go.Vc.underG at hu
    split at hu
    · exact hu
    · rename_i j wv
      split at hu
      · exact hu.elim
      · rename_i o ho
        have ho' : ops[j]? = some o := by rw [← Array.getElem?_toList]; exact ho
        split at hu
        · rename_i x g' b hl
          rw [Option.bind_eq_some_iff] at hl
          obtain ⟨t, ht, hl⟩ := hl
          have hjS := hk j wv rfl
          obtain ⟨i, q, hi, hq, hg1, hd1, hv⟩ := (tc.look k (by simpa using hkn)).2.2.1 t g' (.bool b) hl
          rw [Array.getElem?_toList] at hq
          have hij : i = j := Classical.byContradiction fun hne => of.fit.apart i j q o t hq ho' hne hd1 ht
          subst hij
          rw [ho'] at hq; injection hq with hq; subst hq
          have hgo := h.chain i o hjS ho' wv hg
          have hrep := h.val i o t hjS ho' ht hgo
          rw [← hv] at hrep
          have hbw : b = wv := by
            have hy : yielded ops a.tmps i = some wv := hg
            unfold yielded at hy
            rw [ho'] at hy
            simp only [Option.bind_some, ht] at hy
            have hlt : t < a.tmps.size := Nat.lt_of_lt_of_le (of.fit.lt _ o t ho' ht) h.size
            have e : a.tmps[t]? = some (.bool b) := by
              have : a.tmps.getD t undef = .bool b := hrep
              rw [Array.getD, dif_pos hlt] at this
              rw [Array.getElem?_eq_getElem hlt]
              exact congrArg some this
            rw [e] at hy
            injection hy
          have := h.underG of tc hkn n o.guard _ hu (fun i' b' hg' => h.guard' of ho' hjS i' b' hg') hgo
          subst hbw
          cases b with
          | true => exact this rfl
          | false => exact this rfl
        · exact hu.elim
/-- What an operation is given. -/
theorem DRel.does (h : DRel cx G ops N s vl S a w) (hX : XOk P T X) (hm : cx.m ≤ 32) (hT : TabR T cx.F0) (of : OFit ops N) (tc : Trc P X T ops.toList s st vl) {o : Oper} (ho : ops[k]? = some o) (hno : S k = false) (hok : ∀ e ∈ o.after, Region.binds .any e = true → S e.on = true) (hg : GuardOn ops a.tmps o.guard) {v : PV} {f : Option (PV → PV)} {lh' : List (Nat × PV)}
    (he : (evOpD P X T o (operandsV ops.toList o (st k)) s.lh).Is v f s.lh lh') : Does P cx G w o a v f lh' := by
  have hk : ∀ i b, o.guard = some (i, b) → S i = true := h.guard of ho hok
  have hkn : k ≤ ops.size := Nat.le_of_lt (Array.getElem?_eq_some_iff.1 ho).1
  have hx : ∀ t, Operand.tmp t ∈ o.op.operands.toList → (∀ i q, i < k → ops[i]? = some q → q.dst = some t → S i = true) ∧ ∀ i q, S i = true → ops[i]? = some q → q.dst = some t → i < k := fun t ht => by
    obtain ⟨r1, r2⟩ := h.reads of ho hok (reads_operand (ops := ops.toList) ht)
    exact ⟨r1, r2 hno⟩
  by_cases hp : ∃ c x y, o.op = .pick c x y
  · obtain ⟨c, x, y, hop⟩ := hp
    have hops : o.op.operands.toList = [c, x, y] := by rw [hop]; rfl
    rw [hops] at hx
    have hxc : ∀ z ∈ [c, x, y], ∀ t, z = .tmp t → (∀ i q, i < k → ops[i]? = some q → q.dst = some t → S i = true) ∧ ∀ i q, S i = true → ops[i]? = some q → q.dst = some t → i < k := fun z hz t e => hx t (by rw [← e]; exact hz)
    have oc := h.operand of tc hkn hk hg c (hxc c (by simp))
    have ev0 : ∀ xs, evOpD P X T o xs s.lh = evOp P X T o xs s.lh := fun xs => by unfold evOpD; rw [hop]
    have fin : ∀ (b : Bool) (p q : PV), evOpD P X T o [.bool b, p, q] s.lh = .val (pickV b p q) → a.eval c = .bool b → (b = true → Rep p G w (a.eval x)) → (b = false → Rep q G w (a.eval y)) → (evOpD P X T o [.bool b, p, q] s.lh).Is v f s.lh lh' → Does P cx G w o a v f lh' := by
      intro b p q hev hcb h1 h2 hI
      rw [hev] at hI
      obtain ⟨rfl, rfl, rfl⟩ := hI
      refine .pure h.inv (u := if b = true then a.eval x else a.eval y) ?_ (pick_ok h1 h2)
      unfold execOp
      rw [hop]
      dsimp only
      rw [hcb]
      cases b <;> rfl
    have ev : ∀ b p q, evOpD P X T o [.bool b, p, q] s.lh = .val (pickV b p q) := by
      intro b p q
      rw [ev0]
      unfold evOp
      rw [hop]
    have evn : ∀ z p q, (∀ b, z ≠ PV.bool b) → ¬ (evOpD P X T o [z, p, q] s.lh).Is v f s.lh lh' := by
      intro z p q hz hI
      rw [ev0] at hI
      unfold evOp at hI
      rw [hop] at hI
      dsimp only at hI
      cases z <;> first | exact hz _ rfl | exact hI
    unfold operandsV at he
    rw [hop] at he
    dsimp only at he
    cases hpg : pickGuard ops.toList (st k) c with
    | none =>
      rw [hpg] at he
      dsimp only at he
      replace he : (evOpD P X T o [operandV ops.toList o.guard (st k) c, operandV ops.toList o.guard (st k) x, operandV ops.toList o.guard (st k) y] s.lh).Is v f s.lh lh' := he
      generalize hz : operandV ops.toList o.guard (st k) c = z at he oc
      cases z with
      | bool b => exact fin b _ _ (ev b _ _) oc (fun _ => h.operand of tc hkn hk hg x (hxc x (by simp))) (fun _ => h.operand of tc hkn hk hg y (hxc y (by simp))) he
      | _ => exact absurd he (evn _ _ _ (fun b e => by cases e))
    | some j =>
      rw [hpg] at he
      dsimp only at he
      generalize hz : operandV ops.toList o.guard (st k) c = z at he oc
      cases z with
      | bool b =>
        have hcb : a.eval c = .bool b := oc
        unfold pickGuard at hpg
        split at hpg
        · rename_i t
          split at hpg
          · rename_i q hl
            obtain ⟨i, o', hi, ho', hg1, hd1, -⟩ := (tc.look k (by simpa using hkn)).2.2.1 t q.1 q.2 hl
            rw [Array.getElem?_toList] at ho'
            have hj := List.findIdx?_eq_some_iff_getElem.1 hpg
            obtain ⟨hjl, hj2, -⟩ := hj
            have hjo : ops[j]? = some (ops.toList[j]) := by rw [← Array.getElem?_toList]; exact List.getElem?_eq_getElem hjl
            have hjd : (ops.toList[j]).dst = some t := by
              cases hd : (ops.toList[j]).dst with
              | none => rw [hd] at hj2; cases hj2
              | some d => rw [hd] at hj2; rw [Nat.eq_of_beq_eq_true hj2]
            have hij : i = j := Classical.byContradiction fun hne => of.fit.apart i j o' _ t ho' hjo hne hd1 hjd
            subst hij
            have hS : S i = true := (hxc _ (by simp) t rfl).1 i _ hi hjo hjd
            have hlt : t < a.tmps.size := Nat.lt_of_lt_of_le (of.fit.lt _ _ t hjo hjd) h.size
            have hy : yielded ops a.tmps i = some b := by
              unfold yielded
              rw [hjo]
              simp only [Option.bind_some, hjd]
              have e : a.tmps[t]? = some (.bool b) := by
                have : a.tmps.getD t undef = .bool b := hcb
                rw [Array.getD, dif_pos hlt] at this
                rw [Array.getElem?_eq_getElem hlt]
                exact congrArg some this
              rw [e]
            refine fin b _ _ (ev b _ _) hcb (fun hb => ?_) (fun hb => ?_) he
            · subst hb
              exact h.operand of tc hkn (g := some (i, true)) (fun i' b' e => by injection e with e; injection e with e1 e2; rw [← e1]; exact hS) hy x (hxc x (by simp))
            · subst hb
              exact h.operand of tc hkn (g := some (i, false)) (fun i' b' e => by injection e with e; injection e with e1 e2; rw [← e1]; exact hS) hy y (hxc y (by simp))
          · cases hpg
        · cases hpg
      | _ => exact absurd he (evn _ _ _ (fun b e => by cases e))
  · have hnp : ∀ c x y, o.op ≠ .pick c x y := fun c x y e => hp ⟨c, x, y, e⟩
    have : operandsV ops.toList o (st k) = o.op.operands.toList.map (operandV ops.toList o.guard (st k)) := by
      unfold operandsV
      split
      · rename_i c x y e
        exact absurd e (hnp c x y)
      · rfl
    rw [this] at he
    exact evOpD_ok hX h.inv hm hT hnp (h.operands of tc hkn hk hg _ hx) he
/-- One operation more is carried out, or left out. -/
theorem DRel.push (h : DRel cx G ops N s vl S a w) (of : OFit ops N) {o : Oper} (ho : ops[k]? = some o) (hno : S k = false) (hok : ∀ e ∈ o.after, Region.binds .any e = true → S e.on = true) {G' : Gh} {w' : World} (tr : Turns cx G w none s.lh G' w') {u : Value}
    (hv : GuardOn ops a.tmps o.guard → Rep (vl k) G' w' u) (hb : ¬ GuardOn ops a.tmps o.guard → u = undef) : DRel cx G' ops N s vl (addS S k) (a.put o.dst u) w' := by
  have inA : ∀ {i}, addS S k i = true → i = k ∨ (i ≠ k ∧ S i = true) := fun {i} hi => by
    by_cases e : i = k
    · exact .inl e
    · rw [addS_of e] at hi; exact .inr ⟨e, hi⟩
  have gon : ∀ {i : Nat} {q : Oper}, ops[i]? = some q → (i = k ∨ S i = true) → (GuardOn ops (a.put o.dst u).tmps q.guard ↔ GuardOn ops a.tmps q.guard) := by
    intro i q hq hi
    unfold GuardOn
    cases hg : q.guard with
    | none => exact Iff.rfl
    | some p =>
      obtain ⟨j, b⟩ := p
      have hjk : j ≠ k := by
        rcases hi with hi | hi
        · subst hi
          have := of.fit.guard i q hq j b hg
          omega
        · intro e
          have := h.guard' of hq hi j b hg
          rw [e, hno] at this; cases this
      dsimp only
      rw [yielded_put (o := o) fun q' t hq' ht e => of.fit.apart k j o q' t ho hq' (fun e => hjk e.symm) e ht]
  refine ⟨tr.inv, fun t x hn he => ?_, fun i q t hi hq hd hg => ?_, fun i q hi hq b hy => ?_, fun i q e hi hq he hbi => ?_, fun i hi => ?_, by rw [put_size]; exact h.size, by rw [put_defers]; exact h.defers⟩
  · rw [put_getD (hn k o addS_self ho)]
    refine tr.rep _ _ (h.env t x (fun i q hi hq => hn i q ?_ hq) he)
    unfold addS; rw [hi]; rfl
  · rcases inA hi with rfl | ⟨hne, hS⟩
    · rw [ho] at hq; injection hq with hq; subst hq
      have hlt : t < a.tmps.size := Nat.lt_of_lt_of_le (of.fit.lt i o t ho hd) h.size
      rw [hd, put_same hlt]
      exact hv ((gon ho (.inl rfl)).1 hg)
    · rw [put_getD (fun e => of.fit.apart k i o q t ho hq (fun e => hne e.symm) e hd)]
      exact tr.rep _ _ (h.val i q t hS hq hd ((gon hq (.inr hS)).1 hg))
  · rcases inA hi with rfl | ⟨hne, hS⟩
    · rw [ho] at hq; injection hq with hq; subst hq
      rw [gon ho (.inl rfl)]
      refine Classical.byContradiction fun hng => ?_
      have hu := hb hng
      subst hu
      unfold yielded at hy
      rw [ho] at hy
      simp only [Option.bind_some] at hy
      cases hd : o.dst with
      | none => rw [hd] at hy; cases hy
      | some d =>
        rw [hd] at hy
        simp only [Option.bind_some] at hy
        have hlt : d < a.tmps.size := Nat.lt_of_lt_of_le (of.fit.lt _ o d ho hd) h.size
        replace hy : (match (a.tmps.setIfInBounds d undef)[d]? with | some (.bool b) => some b | _ => none) = some b := hy
        rw [Array.getElem?_setIfInBounds, if_pos rfl, if_pos hlt] at hy
        cases hy
    · rw [yielded_put (o := o) fun q' t hq' ht e => of.fit.apart k i o q' t ho hq' (fun e => hne e.symm) e ht] at hy
      exact (gon hq (.inr hS)).2 (h.chain i q hS hq b hy)
  · rcases inA hi with rfl | ⟨hne, hS⟩
    · rw [ho] at hq; injection hq with hq; subst hq
      have := hok e he hbi
      unfold addS; rw [this]; rfl
    · have := h.down i q e hS hq he hbi
      unfold addS; rw [this]; rfl
  · rcases inA hi with rfl | ⟨hne, hS⟩
    · exact (Array.getElem?_eq_some_iff.1 ho).1
    · exact h.inb i hS
/-- All are carried out. -/
theorem DRel.all (h : DRel cx G ops N s vl S a w) (tc : Trc P X T ops.toList s st vl) (hall : ∀ i, i < ops.size → S i = true) : LRel cx G ops N ops.size (st ops.size) a w := by
  obtain ⟨l1, l2, l3, l4⟩ := tc.look ops.size (by simp)
  refine ⟨by rw [l2]; exact h.inv, fun t x hl he => ?_, fun t g v hl => ?_, fun i o hi ho => h.chain i o (hall i hi) ho, h.size, h.defers⟩
  · rw [l1] at he
    exact h.env t x (fun i o hS ho hd => l4 t hl i o (h.inb i hS) (by rw [Array.getElem?_toList]; exact ho) hd) he
  · obtain ⟨i, o, g1, g2, rfl, g4, rfl⟩ := l3 t g v hl
    rw [Array.getElem?_toList] at g2
    exact ⟨fun hg => h.val i o t (hall i g1) g2 g4 hg, i, o, g1, g2, rfl, g4⟩
theorem DRel.start (h : LRel cx G ops N 0 s a w) (hl : s.loc = []) : DRel cx G ops N s vl (fun _ => false) a w :=
  ⟨h.inv, fun t x _ he => h.env t x (by rw [hl]; rfl) he, (fun i o t hi => by cases hi), (fun i o hi => by cases hi), (fun i o e hi => by cases hi), (fun i hi => by cases hi), h.size, h.defers⟩
theorem rdy_of {listed : Array Bool} (hsz : listed.size = ops.size) {i : Nat} (h : i ∈ Region.ready .any ops listed) : i < listed.size ∧ ofL listed i = false ∧ ∃ o, ops[i]? = some o ∧ ∀ e ∈ o.after, Region.binds .any e = true → ofL listed e.on = true := by
  obtain ⟨h1, o, h2, h3⟩ := mem_ready.1 h
  have hlt : i < listed.size := by rw [hsz]; exact (Array.getElem?_eq_some_iff.1 h2).1
  refine ⟨hlt, ?_, o, h2, h3⟩
  simp [Array.getD, hlt] at h1 ⊢
  exact h1
theorem all_of (of : OFit ops N) {listed : Array Bool} (hsz : listed.size = ops.size) (h : Region.ready .any ops listed = []) : ∀ j, j < ops.size → ofL listed j = true := by
  intro j
  induction j using Nat.strongRecOn with
  | _ j ih =>
    intro hj
    cases hs : ofL listed j with
    | true => rfl
    | false =>
      obtain ⟨o, ho⟩ : ∃ o, ops[j]? = some o := ⟨_, Array.getElem?_eq_getElem hj⟩
      have : j ∈ Region.ready .any ops listed := by
        refine mem_ready.2 ⟨?_, o, ho, fun e he hb => ?_⟩
        · have hlt : j < listed.size := by omega
          simp [ofL, Array.getD, hlt] at hs ⊢
          exact hs
        · have := of.opn.dn j o e (by rw [Array.getElem?_toList]; exact ho) he hb
          exact ih e.on this (by omega)
      rw [h] at this
      cases this
/-- Whatever order is picked. -/
theorem DRel.any (hX : XOk P T X) (hm : cx.m ≤ 32) (hT : TabR T cx.F0) (of : OFit ops N) (tc : Trc P X T ops.toList s st vl) {Q : Exit → Act → World → Prop} (hQ : ∀ G a w, LRel cx G ops N ops.size (st ops.size) a w → Q .normal a w) :
    ∀ (fuel : Nat) (listed : Array Bool) (G : Gh) (a : Act) (w : World), listed.size = ops.size → cntS (ofL listed) ops.size ≤ fuel → DRel cx G ops N s vl (ofL listed) a w → wpAny P .any ops Q fuel listed a w
  | 0, listed, G, a, w, hsz, hc, iv => by
    have hall := cntS_zero (show cntS (ofL listed) ops.size = 0 by omega)
    refine ⟨?_, hQ G a w (iv.all tc hall)⟩
    cases hr : Region.ready .any ops listed with
    | nil => rfl
    | cons i rs =>
      obtain ⟨h1, h2, -⟩ := rdy_of hsz (show i ∈ Region.ready .any ops listed by rw [hr]; exact List.mem_cons_self ..)
      have := hall i (by omega)
      rw [h2] at this; cases this
  | fuel + 1, listed, G, a, w, hsz, hc, iv => by
    refine ⟨fun h => hQ G a w (iv.all tc (all_of of hsz h)), fun i hi => ?_⟩
    obtain ⟨h1, hno, o, ho, hok⟩ := rdy_of hsz hi
    have next : ∀ G' w' u, DRel cx G' ops N s vl (addS (ofL listed) i) (a.put o.dst u) w' → wpAny P .any ops Q fuel (listed.setIfInBounds i true) (a.put o.dst u) w' := fun G' w' u iv' => by
      rw [← ofL_set h1] at iv'
      refine DRel.any hX hm hT of tc hQ fuel _ G' _ w' (by simpa using hsz) ?_ iv'
      rw [ofL_set h1]
      have := cntS_add hno ops.size
      rw [if_pos (by omega)] at this
      omega
    unfold wpOp
    rw [ho]
    dsimp only
    have hst := (tc.step i o (by rw [Array.getElem?_toList]; exact ho)).2
    have hlh : (st i).lh = s.lh := (tc.look i (by simp; omega)).2.1
    by_cases hg : GuardOn ops a.tmps o.guard
    · rw [if_pos ((wanted_iff ops a.tmps o).2 hg)]
      left
      have hI : (evOpD P X T o (operandsV ops.toList o (st i)) s.lh).Is (vl i) none s.lh s.lh := by
        unfold StepOk at hst
        rw [hlh] at hst
        rcases hst with hst | ⟨p, hst, hp⟩
        · rw [hst]; exact ⟨rfl, rfl, rfl⟩
        · rw [hst]
          refine ⟨?_, rfl, rfl, rfl⟩
          cases hgd : o.guard with
          | none => rw [hgd] at hp; exact hp
          | some g =>
            rw [hgd] at hp hg
            exact iv.underG of tc (by omega) 9 (some g) p hp (fun j b e => iv.guard of ho hok j b (by rw [hgd]; exact e)) hg
      exact iv.does hX hm hT of tc ho hno hok hg hI _ _ fun G' w' u tr hv => next G' w' u (iv.push of ho hno hok tr (fun _ => hv) (fun hng => absurd hg hng))
    · rw [if_neg (by rw [wanted_iff]; exact hg)]
      exact next G w undef (iv.push of ho hno hok (.refl iv.inv) (fun h => absurd h hg) (fun _ => rfl))
/-- A region whose order is left open. -/
theorem evD_ok (hmix : P.follows .mixedOrders = true) (hX : XOk P T X) (hm : cx.m ≤ 32) (hT : TabR T cx.F0) (of : OFit ops N) {K : VS → Prop} {Q : Exit → Act → World → Prop} (hQ : ∀ G s a w, LRel cx G ops N ops.size s a w → K s → Q .normal a w) (hl : s.loc = []) (h : LRel cx G ops N 0 s a w) (he : evD P X T ops.toList ops.toList s K) (id : Nat) : (Code.region id ops true).wp P Q a w := by
  obtain ⟨st, vl, h1, h2, h3⟩ := evD_trace _ _ he
  have tc : Trc P X T ops.toList s st vl := ⟨hl, h1, h2⟩
  refine wp_region_any hmix ?_
  obtain ⟨i1, i2⟩ := h.inv.drew
  have hd : LRel cx G ops N 0 s a w.drew := ⟨i1, fun t x g e => i2 _ _ (h.env t x g e), (fun t g v hlk => by rw [hl] at hlk; cases hlk), (fun i o hi => by omega), h.size, h.defers⟩
  have hnone : ofL (Array.replicate ops.size false) = fun _ => false := by
    funext j; unfold ofL
    by_cases h : j < ops.size <;> simp [Array.getD, h]
  refine DRel.any hX hm hT of tc (fun G a w hr => hQ G _ a w hr (by simpa using h3)) ops.size (Array.replicate ops.size false) G a w.drew (by simp) ?_ ?_
  · rw [hnone, cntS_none]; exact Nat.le_refl _
  · rw [hnone]; exact .start hd hl
end
end Go.Vc


/- A calculus of Go's functions by their values: code. -/
namespace Go.Vc
open Go.RowKit
variable {P : Program} {cx : Cx} {G : Gh} {w : World}

/-- What is held between regions stands for a frame and a world. -/
structure CRel (cx : Cx) (G : Gh) (N : Nat) (s : VS) (a : Act) (w : World) : Prop where
  inv : Inv cx G s.lh w
  env : ∀ t x, getN t s.env = some x → Rep x G w (a.tmps.getD t undef)
  loc : s.loc = []
  size : N ≤ a.tmps.size
  defers : a.defers = []
def exOf : Ex → Exit
  | .normal => .normal
  | .exit id => .exit id
  | .goto l => .goto l
  | .ret => .ret
/-- What stands on the list of things to do. -/
def Wp (P : Program) (items : List Item) (Q : Exit → Act → World → Prop) (a : Act) (w : World) : Prop :=
  ∀ (b : Frame) (k : List Item) (cs : List Frame), ∃ e a' w', Q e a' w' ∧ Arrives P (lone (b.at a (items ++ k)) cs w) b k cs e a' w'
theorem Wp.step {items items' : List Item} {Q : Exit → Act → World → Prop} {a : Act} {w : World} (hs : ∀ (b : Frame) (k : List Item) (cs : List Frame), Go.step P (lone (b.at a (items ++ k)) cs w) = .next (lone (b.at a (items' ++ k)) cs w)) (h : Wp P items' Q a w) : Wp P items Q a w := by
  intro b k cs
  obtain ⟨e, a', w', hq, har⟩ := h b k cs
  exact ⟨e, a', w', hq, .of_steps (.one (hs b k cs)) har⟩
/-- Code, and then what stands behind it. -/
theorem Wp.then {c : Code} {x : Item} (hx : x.plain = true) {Q : Exit → Act → World → Prop} {a : Act} {w : World} (h : c.wp P (fun e a' w' => match e with | .normal => Wp P [x] Q a' w' | e => Q e a' w') a w) : Wp P [.code c, x] Q a w := by
  intro b k cs
  obtain ⟨e, a1, w1, hq, har⟩ := h b (x :: k) cs
  cases e with
  | normal =>
    obtain ⟨e2, a2, w2, hq2, har2⟩ := hq b k cs
    exact ⟨e2, a2, w2, hq2, .of_steps har har2⟩
  | exit id => exact ⟨_, a1, w1, hq, .pass (x := x) hx (fun _ _ => .inl (by simp)) har⟩
  | goto l => exact ⟨_, a1, w1, hq, .pass (x := x) hx (fun _ _ => .inl (by simp)) har⟩
  | ret => exact ⟨_, a1, w1, hq, .pass (x := x) hx (fun _ _ => .inl (by simp)) har⟩
  | panic ch => exact ⟨_, a1, w1, hq, .pass (x := x) hx (fun _ _ => .inl (by simp)) har⟩
  | outgrown => exact ⟨_, a1, w1, hq, .pass (x := x) hx (fun _ _ => .inl (by simp)) har⟩
/-- Code within a scope. -/
theorem Wp.scope {c c0 : Code} {Q : Exit → Act → World → Prop} {a : Act} {w : World} (h : c0.wp P (fun e a' w' => match e with
      | .goto l => (∃ rest, findLabel c l = some rest ∧ Wp P [.code rest, .inScope c] Q a' w') ∨ (findLabel c l = none ∧ Q (.goto l) a' w')
      | e => Q e a' w') a w) : Wp P [.code c0, .inScope c] Q a w := by
  intro b k cs
  obtain ⟨e, a1, w1, hq, har⟩ := h b (.inScope c :: k) cs
  cases e with
  | normal => exact ⟨.normal, a1, w1, hq, Steps.trans har (.one step_inScope)⟩
  | exit id => exact ⟨.exit id, a1, w1, hq, fun k' hk => har k' (by simp [exitTo, hk])⟩
  | goto l =>
    rcases hq with ⟨rest, hf, h2⟩ | ⟨hf, hq⟩
    · obtain ⟨e2, a2, w2, hq2, har2⟩ := h2 b k cs
      exact ⟨e2, a2, w2, hq2, .of_steps (har _ (by simp [gotoIn, hf])) har2⟩
    · exact ⟨.goto l, a1, w1, hq, fun k' hk => har k' (by simp [gotoIn, hf, hk])⟩
  | ret => exact ⟨_, a1, w1, hq, har⟩
  | panic ch => exact ⟨_, a1, w1, hq, har⟩
  | outgrown => exact ⟨_, a1, w1, hq, har⟩
theorem getN_keep (t : Nat) (s : VS) : getN t (keepL s).env = (getN t s.env).map fun x => match lookL t s.loc with | some (none, v) => v | some (some _, _) => .undef | none => x := by
  unfold keepL
  dsimp only
  induction s.env with
  | nil => rfl
  | cons e l ih =>
    show (bif Nat.beq e.1 t then some _ else getN t (l.map _)) = (bif Nat.beq e.1 t then some e.2 else getN t l).map _
    cases hb : Nat.beq e.1 t with
    | true =>
      have := Nat.eq_of_beq_eq_true hb
      subst this
      rfl
    | false => exact ih
theorem CRel.begin {N : Nat} {s : VS} {a : Act} (h : CRel cx G N s a w) (ops : Array Oper) : LRel cx G ops N 0 s a w :=
  ⟨h.inv, fun t x _ hx => h.env t x hx, (fun t g v hl => by rw [h.loc] at hl; cases hl), (fun i o hi => by omega), h.size, h.defers⟩
theorem LRel.finish {N k : Nat} {ops : Array Oper} {s : VS} {a : Act} (h : LRel cx G ops N k s a w) : CRel cx G N (keepL s) a w := by
  refine ⟨h.inv, fun t x hx => ?_, rfl, h.size, h.defers⟩
  rw [getN_keep, Option.map_eq_some_iff] at hx
  obtain ⟨y, hy, e⟩ := hx
  cases hl : lookL t s.loc with
  | none =>
    rw [hl] at e
    rw [← show y = x from e]
    exact h.env t y hl hy
  | some p =>
    obtain ⟨g, v⟩ := p
    rw [hl] at e
    cases g with
    | none =>
      rw [← show v = x from e]
      exact (h.loc t none v hl).1 trivial
    | some q =>
      rw [← show PV.undef = x from e]
      trivial
theorem cond_val {N : Nat} {s : VS} {a : Act} (h : CRel cx G N s a w) {c : Operand} {t : Bool} (hc : operandV [] none s c = .bool t) : a.eval c = .bool t := by
  cases c with
  | tmp i =>
    unfold operandV at hc
    dsimp only at hc
    rw [h.loc] at hc
    replace hc : (getN i s.env).getD .undef = .bool t := hc
    cases he : getN i s.env with
    | none => rw [he] at hc; cases hc
    | some x =>
      rw [he] at hc
      have : x = .bool t := hc
      subst this
      exact h.env i _ he
  | const v =>
    replace hc : ofValue v = .bool t := hc
    unfold ofValue at hc
    split at hc <;> first | (cases hc; done) | (injection hc with hc; subst hc; rfl)
  | global g => cases hc
  | func f => cases hc
theorem CRel.drop {N : Nat} {a : Act} : ∀ {s : VS} (h : CRel cx G N s a w) (ns : List Nat), CRel cx G N (s.drop ns) a w
  | s, h, [] => h
  | s, h, n :: ns => by
    refine CRel.drop (s := s.put n .undef) ⟨h.inv, fun t x hx => ?_, h.loc, h.size, h.defers⟩ ns
    replace hx : getN t (setN n .undef s.env) = some x := hx
    rw [getN_set] at hx
    split at hx
    · rw [Option.map_eq_some_iff] at hx
      obtain ⟨y, -, e⟩ := hx
      rw [← e]; trivial
    · exact h.env t x hx
/-- Marks that are handed on are stilled beforehand. -/
theorem CRel.still {N : Nat} {s : VS} {a : Act} (h : CRel cx G N s a w) (us : List Nat) : ∃ G', CRel cx G' N (stillS us s) a w := by
  cases us with
  | nil => exact ⟨G, h⟩
  | cons u us =>
    obtain ⟨s1, s2⟩ := h.inv.turn (w' := w) (callF_ok (u :: us)) none rfl rfl rfl (Nat.le_refl _) (fun _ _ _ => rfl) (fun t b e => by cases e)
    refine ⟨G.turn w (callF (u :: us)) none, ⟨?_, fun t x hx => ?_, ?_, h.size, h.defers⟩⟩
    · show Inv cx _ (s.turn (some (PV.mark1 (callF (u :: us)))) (turnB (PV.mark1 (callF (u :: us))) s.lh)).lh w
      rw [turn_lh]; exact s1
    · replace hx : getN t (s.turn (some (PV.mark1 (callF (u :: us)))) (turnB (PV.mark1 (callF (u :: us))) s.lh)).env = some x := hx
      rw [getN_turn_env, Option.map_eq_some_iff] at hx
      obtain ⟨y, hy, rfl⟩ := hx
      exact s2 _ _ (h.env t y hy)
    · show s.loc.map _ = []
      rw [h.loc]; rfl
/-- Code does what is said. -/
theorem evC_ok {T : Tabs} {X : Tbl} {H : Loops} {N : Nat} (hmix : P.follows .mixedOrders = true) (hX : XOk P T X) (hm : cx.m ≤ 32) (hT : TabR T cx.F0) : ∀ fuel : Nat,
    (∀ (c : Code) (s : VS) (k : Kont) (G : Gh) (a : Act) (w : World) (Q : Exit → Act → World → Prop), CRel cx G N s a w → evC P X T H N fuel none c s k → (∀ e G s a w, CRel cx G N s a w → k e s → Q (exOf e) a w) → c.wp P Q a w) ∧
    (∀ (c0 : Code) (C : Nat → Option (VS → Prop)) (c : Code) (s : VS) (k : Kont) (G : Gh) (a : Act) (w : World) (Q : Exit → Act → World → Prop), CRel cx G N s a w → evC P X T H N fuel (some (c0, C)) c s k → (∀ e G s a w, CRel cx G N s a w → k e s → Q (exOf e) a w) →
      (∀ l J, C l = some J → ∀ G s a w, CRel cx G N s a w → J s → ∃ rest, findLabel c0 l = some rest ∧ Wp P [.code rest, .inScope c0] Q a w) → Wp P [.code c, .inScope c0] Q a w)
  | 0 => ⟨fun c s k G a w Q _ he _ => he.elim, fun c0 C c s k G a w Q _ he _ _ => he.elim⟩
  | fuel + 1 => by
    obtain ⟨ihA, ihB⟩ := evC_ok hmix hX hm hT fuel
    refine ⟨fun c s k G a w Q hr he hQ => ?_, fun c0 C c s k G a w Q hr he hQ hC => ?_⟩
    · cases c with
      | skip => exact wp_skip (hQ .normal G s a w hr he)
      | region id ops draw =>
        replace he : (match (generalizing := false) draw, regOk N ops.toList with
          | false, true => evOps P X T ops.toList ops.toList s fun s => forceE (keepL s).env fun env => forceE s.lh fun lh => k .normal ⟨[], env, lh⟩
          | true, true => match openOk ops.toList (befores ops.toList) with
            | true => evD P X T ops.toList ops.toList (stillS (callMarks ops.toList s) s) fun s => forceE (keepL s).env fun env => forceE s.lh fun lh => k .normal ⟨[], env, lh⟩
            | false => False
          | _, _ => False) := he
        split at he
        · rename_i hreg
          refine wp_region_list ?_
          exact evOps_ok (K := fun s => forceE (keepL s).env fun env => forceE s.lh fun lh => k .normal ⟨[], env, lh⟩) hX hm hT (regFit hreg) (fun G s a w hl hk => hQ .normal G _ a w hl.finish (by rw [forceE_eq, forceE_eq] at hk; exact hk)) ops.toList 0 s a w G (by simp) (Nat.zero_le _) (hr.begin ops) he
        · rename_i hreg
          split at he
          · rename_i hop
            obtain ⟨G', hr'⟩ := hr.still (callMarks ops.toList s)
            exact evD_ok (K := fun s => forceE (keepL s).env fun env => forceE s.lh fun lh => k .normal ⟨[], env, lh⟩) hmix hX hm hT (oFit hreg hop) (fun G s a w hl hk => hQ .normal G _ a w hl.finish (by rw [forceE_eq, forceE_eq] at hk; exact hk)) hr'.loc (hr'.begin ops) he id
          · exact he.elim
        · exact he.elim
      | seq x y =>
        replace he : evC P X T H N fuel none x s fun e s => match e with
          | .normal => evC P X T H N fuel none y s k
          | e => k e s := he
        refine wp_seq (ihA x s _ G a w _ hr he fun e G s a w hr he => ?_)
        cases e with
        | normal => exact ihA y s k G a w Q hr he hQ
        | exit id => exact hQ _ G s a w hr he
        | goto l => exact hQ _ G s a w hr he
        | ret => exact hQ _ G s a w hr he
      | cond c x y =>
        replace he : onBool (operandV [] none s c) (evC P X T H N fuel none x s k) (evC P X T H N fuel none y s k) := he
        unfold onBool at he
        split at he
        · rename_i t hc
          exact wp_cond_split (cond_val hr hc) (fun ht => ihA x s k G a w Q hr (he.1 ht) hQ) (fun ht => ihA y s k G a w Q hr (he.2 ht) hQ)
        · exact he.elim
      | block id x =>
        replace he : evC P X T H N fuel none x s fun e s => match e with
          | .exit i => bif Nat.beq i id then k .normal s else k (.exit i) s
          | e => k e s := he
        refine wp_block (ihA x s _ G a w _ hr he fun e G s a w hr he => ?_)
        cases e with
        | normal => exact hQ _ G s a w hr he
        | exit i =>
          show (if i = id then _ else _)
          replace he : (bif Nat.beq i id then k .normal s else k (.exit i) s) := he
          by_cases e : i = id
          · subst e
            rw [Nat.beq_refl] at he
            rw [if_pos rfl]
            exact hQ .normal G s a w hr he
          · rw [show Nat.beq i id = false by rw [Bool.eq_false_iff]; exact fun hh => e (Nat.eq_of_beq_eq_true hh)] at he
            rw [if_neg e]
            exact hQ (.exit i) G s a w hr he
        | goto l => exact hQ _ G s a w hr he
        | ret => exact hQ _ G s a w hr he
      | loop x =>
        replace he : (match H (firstId x) with
          | some h => h.into s fun n s' => evC P X T H N fuel none x s' fun e s'' => match e with
            | .normal => h.back s n s''
            | e => k e s''
          | none => False) := he
        split at he
        · rename_i h hh
          obtain ⟨hs, hi0, hb⟩ := he
          have key : ∀ n, ∀ y, h.mu s y = n → h.inv s y → ∀ G a w, CRel cx G N (h.at_ s y) a w → Wp P [.code x, .inLoop x] Q a w := by
            intro n
            induction n using Nat.strongRecOn with
            | _ n ih =>
              intro y hn hy G a w hr
              refine Wp.then rfl (ihA x _ _ G a w _ hr (hb y hy) fun e G s' a w hr he => ?_)
              cases e with
              | normal =>
                obtain ⟨hs', hz, hlt⟩ := he
                replace hr := hr.drop h.dead
                rw [hs'] at hr
                exact Wp.step (items' := [.code x, .inLoop x]) (fun b k cs => step_inLoop) (ih _ (by rw [← hn]; exact hlt) _ rfl hz G a w hr)
              | exit id => exact hQ _ G s' a w hr he
              | goto l => exact hQ _ G s' a w hr he
              | ret => exact hQ _ G s' a w hr he
          have := key _ _ rfl hi0 G a w (by rw [← hs]; exact hr.drop h.dead)
          show Wp P [.code (.loop x)] Q a w
          exact Wp.step (items' := [.code x, .inLoop x]) (fun b k cs => step_loop) this
        · exact he.elim
      | exit id => exact wp_exit (hQ (.exit id) G s a w hr he)
      | scope x =>
        have := ihB x (fun _ => none) x s k G a w Q hr he hQ (fun l J hJ => by cases hJ)
        show Wp P [.code (.scope x)] Q a w
        exact Wp.step (items' := [.code x, .inScope x]) (fun b k cs => step_scope) this
      | label l => exact wp_label (hQ .normal G s a w hr he)
      | goto l => exact wp_goto (hQ (.goto l) G s a w hr he)
      | ret => exact wp_ret (hQ .ret G s a w hr he)
      | rangeFunc _ _ _ _ => exact he.elim
      | refuse _ => exact he.elim
    · replace he : evC P X T H N fuel none c s fun e s => match e with
        | .goto l => match C l with
          | some J => J s
          | none => match findLabel c0 l with
            | none => k (.goto l) s
            | some r => match H (1000000 + l) with
              | some h => h.into s fun n s' => evC P X T H N fuel (some (c0, fun l' => bif Nat.beq l' l then some (h.back s n) else C l')) r s' k
              | none => evC P X T H N fuel (some (c0, C)) r s k
        | e => k e s := he
      refine Wp.scope (ihA c s _ G a w _ hr he fun e G s a w hr he => ?_)
      cases e with
      | normal => exact hQ _ G s a w hr he
      | exit id => exact hQ _ G s a w hr he
      | ret => exact hQ _ G s a w hr he
      | goto l =>
        replace he : (match C l with
          | some J => J s
          | none => match findLabel c0 l with
            | none => k (.goto l) s
            | some r => match H (1000000 + l) with
              | some h => h.into s fun n s' => evC P X T H N fuel (some (c0, fun l' => bif Nat.beq l' l then some (h.back s n) else C l')) r s' k
              | none => evC P X T H N fuel (some (c0, C)) r s k) := he
        split at he
        · rename_i J hJ
          exact .inl (hC l J hJ G s a w hr he)
        · rename_i hCl
          split at he
          · rename_i hf
            exact .inr ⟨hf, hQ (.goto l) G s a w hr he⟩
          · rename_i r hf
            split at he
            · rename_i h hh
              obtain ⟨hs, hi0, hb⟩ := he
              have key : ∀ n, ∀ y, h.mu s y = n → h.inv s y → ∀ G a w, CRel cx G N (h.at_ s y) a w → Wp P [.code r, .inScope c0] Q a w := by
                intro n
                induction n using Nat.strongRecOn with
                | _ n ih =>
                  intro y hn hy G a w hr
                  refine ihB c0 _ r _ k G a w Q hr (hb y hy) hQ fun l' J hJ G s' a w hr hj => ?_
                  replace hJ : (bif Nat.beq l' l then some (h.back s y) else C l') = some J := hJ
                  cases hb' : Nat.beq l' l with
                  | true =>
                    rw [hb'] at hJ
                    injection hJ with hJ; subst hJ
                    obtain ⟨hs', hz, hlt⟩ := hj
                    replace hr := hr.drop h.dead
                    rw [hs'] at hr
                    rw [Nat.eq_of_beq_eq_true hb']
                    exact ⟨r, hf, ih _ (by rw [← hn]; exact hlt) _ rfl hz G a w hr⟩
                  | false =>
                    rw [hb'] at hJ
                    exact hC l' J hJ G s' a w hr hj
              exact .inl ⟨r, hf, key _ _ rfl hi0 G a w (by rw [← hs]; exact hr.drop h.dead)⟩
            · exact .inl ⟨r, hf, ihB c0 C r s k G a w Q hr he hQ hC⟩
end Go.Vc


/- A calculus of Go's functions by their values: functions. -/
namespace Go.Vc
open Go.RowKit
variable {P : Program} {cx : Cx} {G : Gh} {w : World}

def resSem (tmps : Array Value) (r : ResultVar) : Sem Value := match r with
  | .tmp t => Pure.pure (tmps.getD t undef)
  | .cell a t => do loadVar t (← asAddr (tmps.getD a undef))
theorem results_eq (fn : Func) (tmps : Array Value) : results fn tmps = (do let vs ← fn.results.mapM (resSem tmps); Pure.pure (if h : vs.size = 1 then vs[0] else .tuple vs)) := rfl
theorem resV_ok {T : Tabs} (hT : TabR T cx.F0) {N : Nat} {s : VS} {a : Act} (h : CRel cx G N s a w) {r : ResultVar} {v : PV} (hv : resV P T s r = some v) : ∃ u, (resSem a.tmps r).run P w = .ok u w ∧ Rep v G w u := by
  unfold resV at hv
  split at hv
  · rename_i t
    injection hv with hv; subst hv
    refine ⟨_, rfl, ?_⟩
    cases he : getN t s.env with
    | none => trivial
    | some x => exact h.env t x he
  · rename_i t ty
    split at hv
    · rename_i n off he
      split at hv
      · rename_i x hl
        injection hv with hv; subst hv
        obtain ⟨b, h1, h2⟩ := h.env t _ he
        obtain ⟨u, r1, r2⟩ := loadR_ok (P := P) h.inv hT (t := ty) (x := .ptr n off) (.inl hl) (show Rep (.ptr n off) G w _ from ⟨b, h1, h2⟩)
        refine ⟨u, ?_, r2⟩
        show (do loadVar ty (← asAddr (a.tmps.getD t undef)) : Sem Value).run P w = _
        rw [h2] at r1 ⊢
        simpa [asAddr, Instr.loadAt, Instr.sureAddr] using r1
      · cases hv
    · cases hv
theorem resVs_ok {T : Tabs} (hT : TabR T cx.F0) {N : Nat} {s : VS} {a : Act} (h : CRel cx G N s a w) : ∀ {rs : List ResultVar} {xs : List PV}, resVs P T s rs = some xs → ∃ us : List Value, (rs.mapM (resSem a.tmps)).run P w = .ok us w ∧ RepL' xs G w us
  | [], xs, hv => by
    unfold resVs at hv; injection hv with hv; subst hv
    exact ⟨[], rfl, rfl⟩
  | r :: rs, xs, hv => by
    unfold resVs at hv
    split at hv
    · rename_i y ys h1 h2
      injection hv with hv; subst hv
      obtain ⟨u, r1, r2⟩ := resV_ok hT h h1
      obtain ⟨us, r3, r4⟩ := resVs_ok hT h h2
      refine ⟨u :: us, ?_, u, us, rfl, r2, r4⟩
      rw [List.mapM_cons, Sem.run_bind, r1, Result.andThen_ok, Sem.run_bind, r3]; rfl
    · cases hv
theorem results_ok {T : Tabs} (hT : TabR T cx.F0) {N : Nat} {s : VS} {a : Act} (h : CRel cx G N s a w) {fn : Func} {v : PV} (hv : resultsV P T s fn.results.toList = some v) : ∃ u, (results fn a.tmps).run P w = .ok u w ∧ Rep v G w u := by
  have gen : ∀ (us : List Value), ((fn.results.toList.mapM (resSem a.tmps)).run P w = .ok us w) →
      (results fn a.tmps).run P w = .ok (if h : us.toArray.size = 1 then us.toArray[0] else .tuple us.toArray) w := by
    intro us hu
    rw [results_eq]
    simp only [Array.mapM_eq_mapM_toList, Sem.run_bind, Sem.run_map]
    rw [hu]
    rfl
  unfold resultsV at hv
  split at hv
  · rename_i x hx
    injection hv with hv; subst hv
    obtain ⟨us, r1, r2⟩ := resVs_ok hT h hx
    obtain ⟨u, us', rfl, h1, h2⟩ := r2
    obtain rfl : us' = [] := h2
    exact ⟨u, by rw [gen _ r1]; rfl, h1⟩
  · rename_i xs hne hx
    injection hv with hv; subst hv
    obtain ⟨us, r1, r2⟩ := resVs_ok hT h hx
    refine ⟨.tuple us.toArray, ?_, us, r2, rfl⟩
    rw [gen _ r1, dif_neg]
    intro h1
    have h2 : us.length = 1 := by simpa using h1
    have h3 := r2.length
    match xs, (by omega : xs.length = 1) with
    | [x], _ => exact hne x rfl
  · cases hv
theorem getN_with {xs : List PV} {t : Nat} {x : PV} : ∀ {ts : List Nat}, getN t (withAt xs ts) = some x → x = xs.getD t .undef
  | [], h => by cases h
  | u :: ts, h => by
    replace h : (bif Nat.beq u t then some (xs.getD u .undef) else getN t (withAt xs ts)) = some x := h
    cases hb : Nat.beq u t with
    | true =>
      rw [hb] at h
      have := Nat.eq_of_beq_eq_true hb
      subst this
      injection h with h; exact h.symm
    | false => rw [hb] at h; exact getN_with h
theorem Inv.bare {F : Nat → Nat → Option Value} (h : Fits F w) : Inv ⟨[], w, F, 0, fun _ => none⟩ (bareG F) [] w :=
  ⟨h, FLe.refl _, fun b o u hu => .inl hu, (fun n x hx => by cases hx), (fun n b hb => by cases hb), (fun t b ht => by cases ht), (fun n n' b hb => by cases hb), (fun t t' b ht => by cases ht), (fun n t b hb => by cases hb), (fun i hi => by cases hi), ⟨rfl, rfl, rfl, Nat.le_refl _, fun _ _ _ => rfl⟩⟩
/-- A function does what its text says. -/
theorem evF_ok {T : Tabs} {X : Tbl} {H : Loops} {fuel : Nat} {f : FuncId} {fn : Func} (hmix : P.follows .mixedOrders = true) (hX : XOk P T X) (hf : P.funcs[f]? = some fn) (hn : (fn.name == "runtime.NumGoroutine") = false) {xs : List PV} {r : PV} {pre : Prop}
    (he : pre → evF P X T H fuel fn xs fun v => v = r) : FuncOk P T f xs ⟨pre, r⟩ := by
  intro hpre F w vs hfits htab hx
  have he := he hpre
  unfold evF at he
  cases hb : fn.body with
  | none => rw [hb] at he; exact he.elim
  | some c =>
    rw [hb] at he
    replace he : evC P X T H fn.ntmps fuel none c ⟨[], withAt xs (slotsOf (keepF fn) fn.ntmps), []⟩ (fun e s => match e with
      | .normal => outL (resultsV P T s fn.results.toList) fun v => v = r
      | .ret => outL (resultsV P T s fn.results.toList) fun v => v = r
      | _ => False) := he
    left
    refine ⟨?_, ?_⟩
    · unfold callFunc
      simp only [Sem.run_bind, run_program, Result.andThen_ok, hf]
      rw [hn]
      simp [hb]
    · refine calls_of_wp hf hb ?_
      have hlen := hx.length
      have hrel : CRel ⟨[], w, F, 0, fun _ => none⟩ (bareG F) fn.ntmps ⟨[], withAt xs (slotsOf (keepF fn) fn.ntmps), []⟩ { tmps := vs.toArray ++ Array.replicate (fn.ntmps - vs.toArray.size) undef, defers := [] } w := by
        refine ⟨Inv.bare hfits, fun t x ht => ?_, rfl, by simp; omega, rfl⟩
        have := getN_with ht
        subst this
        by_cases hlt : t < xs.length
        · have hg : xs[t]? = some (xs.getD t .undef) := by rw [List.getD, List.getElem?_eq_getElem hlt]; rfl
          obtain ⟨u, u1, u2⟩ := hx.get hg
          have hlt2 : t < vs.length := by omega
          have : (vs.toArray ++ Array.replicate (fn.ntmps - vs.toArray.size) undef).getD t undef = u := by
            rw [List.getElem?_eq_getElem hlt2] at u1
            injection u1 with u1
            rw [Array.getD_eq_getD_getElem?, Array.getElem?_append_left (by simpa using hlt2)]
            rw [List.getElem?_toArray, List.getElem?_eq_getElem hlt2, u1]
            rfl
          show Rep _ _ _ ((vs.toArray ++ Array.replicate (fn.ntmps - vs.toArray.size) undef).getD t undef)
          rw [this]; exact u2
        · have : xs.getD t .undef = .undef := by rw [List.getD, List.getElem?_eq_none (by omega)]; rfl
          rw [this]; trivial
      have fin : ∀ G s (a : Act) w', CRel ⟨[], w, F, 0, fun _ => none⟩ G fn.ntmps s a w' → outL (resultsV P T s fn.results.toList) (fun v => v = r) → a.defers = [] ∧ ∃ u, (results fn a.tmps).run P w' = .ok u w' ∧ ∃ v, Ending.returned u = .returned v ∧ Came F w r v w' := by
        intro G s a w' hr ho
        unfold outL at ho
        split at ho
        · rename_i r0 hr0
          rw [forceV_eq] at ho
          split at ho
          · rename_i hnam
            obtain ⟨u, g1, g2⟩ := results_ok (cx := ⟨[], w, F, 0, fun _ => none⟩) htab hr hr0
            refine ⟨hr.defers, u, g1, u, rfl, ?_⟩
            obtain ⟨s1, s2⟩ := hr.inv.turn (w' := w') (callF_ok (addNew [] (PV.allL PV.tok1 r0))) none rfl rfl rfl (Nat.le_refl _) (fun _ _ _ => rfl) (fun t b e => by cases e)
            have h2 := s2 _ _ g2
            have hag : r0.mapL (PV.mark1 (callF (addNew [] (PV.allL PV.tok1 r0)))) = r0.mapL (PV.mark1 bareF) := by
              refine mapL_agree (fun y => y.tok1 = [] ∨ ∀ t ∈ y.tok1, t ∈ addNew [] (PV.allL PV.tok1 r0)) (fun y _ hp => callF_bare hp) (fun y _ ht => ?_)
              rcases ht with h1 | h1
              · exact .inl h1
              · exact .inr fun t htm => (addNew_mem (PV.allL PV.tok1 r0) []).2 t (h1 t htm)
            rw [hag] at h2
            obtain ⟨b1, b2⟩ := bare_tok r0
            have h3 := Rep.deepen b1 (by rw [b2]; exact hnam) h2
            rw [ho] at h3
            refine ⟨(G.turn w' (callF (addNew [] (PV.allL PV.tok1 r0))) none).F, ⟨s1.kept.os, s1.kept.tape, s1.kept.output, s1.kept.size, fun k hk => s1.kept.block k hk (by simp)⟩, s1.base, s1.fits, fun b o u hu => ?_, h3⟩
            rcases s1.ext b o u hu with h4 | h4
            · exact .inl h4
            · rcases h4 with h4 | h4
              · cases h4
              · exact .inr h4
          · exact ho.elim
        · exact ho.elim
      refine (evC_ok hmix hX (by show 0 ≤ 32; omega) (show TabR T (Cx.F0 ⟨[], w, F, 0, fun _ => none⟩) from htab) fuel).1 c _ _ (bareG F) _ w _ hrel he fun e G s a w' hr hk => ?_
      cases e with
      | normal => exact fin G s a w' hr hk
      | ret => exact fin G s a w' hr hk
      | exit i => exact hk.elim
      | goto l => exact hk.elim
end Go.Vc


/- A calculus of Go's functions by their values: what is known of functions, and what comes of it. -/
namespace Go.Vc
open Go.RowKit
variable {P : Program} {T : Tabs}

/-- Functions, each with what it does. -/
def tblX : List (FuncId × (List PV → Option CallR)) → Tbl
  | [], _, _ => none
  | e :: l, f, xs => bif Nat.beq e.1 f then e.2 xs else tblX l f xs
theorem tblX_nil : XOk P T (tblX []) := fun f xs c h => by cases h
theorem tblX_cons {f : FuncId} {g : List PV → Option CallR} {l : List (FuncId × (List PV → Option CallR))} (h : ∀ xs c, g xs = some c → FuncOk P T f xs c) (hl : XOk P T (tblX l)) : XOk P T (tblX ((f, g) :: l)) := fun f' xs c hc => by
  replace hc : (bif Nat.beq f f' then g xs else tblX l f' xs) = some c := hc
  cases hb : Nat.beq f f' with
  | true =>
    rw [hb] at hc
    rw [← Nat.eq_of_beq_eq_true hb]
    exact h xs c hc
  | false => rw [hb] at hc; exact hl f' xs c hc
theorem enter_run {f : FuncId} {fn : Func} {c : Code} (hf : P.funcs[f]? = some fn) (hn : (fn.name == "runtime.NumGoroutine") = false) (hb : fn.body = some c) (vs : Array Value) (w : World) : (callFunc f vs).run P w = .ok (.enter f vs) w := by
  unfold callFunc
  simp only [Sem.run_bind, run_program, Result.andThen_ok, hf]
  rw [hn]
  simp [hb]
/-- A function of which it is known otherwise. -/
theorem FuncOk.of_calls {f : FuncId} {fn : Func} {c : Code} (hf : P.funcs[f]? = some fn) (hn : (fn.name == "runtime.NumGoroutine") = false) (hb : fn.body = some c) {xs : List PV} {r : PV} {pre : Prop}
    (h : pre → ∀ (F : Nat → Nat → Option Value) (w : World) (vs : List Value), Fits F w → TabR T F → RepL' xs (bareG F) w vs → ∃ u, (Calls P f vs.toArray w fun e w' => e = .returned u ∧ Below w.heap.size w w') ∧ ∀ G w, Rep r G w u) : FuncOk P T f xs ⟨pre, r⟩ := by
  intro hpre F w vs hF hT hx
  obtain ⟨u, h1, h2⟩ := h hpre F w vs hF hT hx
  refine .inl ⟨enter_run hf hn hb _ w, h1.mono fun e w' he => ?_⟩
  obtain ⟨rfl, hb⟩ := he
  exact ⟨u, rfl, F, hb, FLe.refl _, fun b o q hq => by
    have := hF b o q hq
    rw [hb.cell (p := ⟨b, o, none⟩) (cell_lt this)]; exact this, fun b o q hq => .inl hq, h2 _ _⟩
/-- What is known of a function, as a walk. -/
theorem FuncOk.walk {f : FuncId} {fn : Func} {c : Code} (hf : P.funcs[f]? = some fn) (hn : (fn.name == "runtime.NumGoroutine") = false) (hb : fn.body = some c) {xs : List PV} {r : PV} {pre : Prop} (h : FuncOk P T f xs ⟨pre, r⟩) (hp : pre)
    {F : Nat → Nat → Option Value} {w : World} {vs : List Value} (hF : Fits F w) (hT : TabR T F) (hx : RepL' xs (bareG F) w vs) : Calls P f vs.toArray w fun e w' => ∃ u, e = .returned u ∧ Came F w r u w' := by
  rcases h hp F w vs hF hT hx with ⟨-, h2⟩ | ⟨u, w', h1, -⟩
  · exact h2
  · rw [enter_run hf hn hb] at h1; cases h1
/-- No tables. -/
def noT : Tabs := fun _ => .undef
theorem noT_ok (F : Nat → Nat → Option Value) : TabR noT F := fun g hg => by cases hg
theorem fits_none (w : World) : Fits (fun _ _ => none) w := fun b o u h => by cases h
/-- It says yes. -/
theorem FuncOk.yes {f : FuncId} {fn : Func} {c : Code} (hf : P.funcs[f]? = some fn) (hn : (fn.name == "runtime.NumGoroutine") = false) (hb : fn.body = some c) {xs : List PV} (h : FuncOk P noT f xs ⟨True, .bool true⟩)
    {w : World} {vs : List Value} (hx : RepL' xs (bareG fun _ _ => none) w vs) : Calls P f vs.toArray w fun e w' => e = .returned (.bool true) ∧ Below w.heap.size w w' :=
  (h.walk hf hn hb trivial (fits_none w) (noT_ok _) hx).mono fun e w' ⟨u, he, F', hb, _, _, _, hr⟩ => ⟨by rw [he]; exact congrArg _ hr, hb⟩
/-- Less is asked, the same is told. -/
theorem FuncOk.to {f : FuncId} {xs : List PV} {c : CallR} {pre : Prop} {r : PV} (h : FuncOk P T f xs c) (hp : pre → c.pre) (hr : pre → c.r = r) : FuncOk P T f xs ⟨pre, r⟩ := fun hpre F w vs hF hT hx => by
  have := h (hp hpre) F w vs hF hT hx
  rw [hr hpre] at this
  exact this
end Go.Vc


/- A calculus of Go's functions by their values: what its conditions want. -/
namespace Go.Vc
theorem byteZ_range (l : Bs) (z : Int) : 0 ≤ byteZ l z ∧ byteZ l z ≤ 255 := by
  unfold byteZ
  have := (l.getD z.toNat 0).toNat_lt
  omega
theorem set_fill {α : Type} {L : List α} {i n : Nat} {z b : α} (hn : n = L.length) (hb : L[i]? = some b) : (L.take i ++ List.replicate (n - i) z).set i b = L.take (i + 1) ++ List.replicate (n - (i + 1)) z := by
  have hi : i < L.length := (List.getElem?_eq_some_iff.1 hb).1
  have h1 : (L.take i).length = i := by rw [List.length_take]; omega
  rw [List.set_append, if_neg (by omega), h1, Nat.sub_self, show n - i = (n - (i + 1)) + 1 by omega, List.replicate_succ, List.set_cons_zero, List.take_add_one, hb]
  simp
theorem set_over_tail {α : Type} {L M : List α} {i : Nat} {b : α} (hn : M.length = L.length) (hb : L[i]? = some b) : (L.take i ++ M.drop i).set i b = L.take (i + 1) ++ M.drop (i + 1) := by
  have hi : i < L.length := (List.getElem?_eq_some_iff.1 hb).1
  have h1 : (L.take i).length = i := by rw [List.length_take]; omega
  rw [List.set_append, if_neg (by omega), h1, Nat.sub_self, List.take_add_one, hb, List.drop_eq_getElem_cons (l := M) (i := i) (by omega), List.set_cons_zero]
  simp
theorem zByte_byteZ (l : Bs) (z : Int) : zByte (byteZ l z) = l.getD z.toNat 0 := by
  unfold zByte byteZ
  simp
end Go.Vc

