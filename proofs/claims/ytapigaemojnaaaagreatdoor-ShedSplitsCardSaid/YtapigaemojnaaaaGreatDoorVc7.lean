/- The calculus by values, part 7. -/
import Derived.Orders
import Derived.Test.YtapigaemojnaaaaGreatDoorVc6
set_option linter.unusedVariables false
set_option linter.unusedSectionVars false
set_option linter.unusedSimpArgs false

/- A calculus of Go's functions by their values: operations in line. -/
namespace Go.Vc
open Go.RowKit
variable [Wd] {P : Program} {cx : Cx} {G : Gh} {w : World}

def GuardOn (ops : Array Oper) (tmps : Array Value) (g : Option (Nat × Bool)) : Prop := match g with
  | none => True
  | some (j, b) => yielded ops tmps j = some b
theorem wanted_iff (ops : Array Oper) (tmps : Array Value) (o : Oper) : Region.wanted o (yielded ops tmps) = true ↔ GuardOn ops tmps o.guard := by
  unfold Region.wanted GuardOn
  cases o.guard with
  | none => simp
  | some g => obtain ⟨j, b⟩ := g; simp
/-- A region whose operations write elsewhere, each, and hang on earlier ones. -/
structure RegFit (ops : Array Oper) (N : Nat) : Prop where
  apart : ∀ (i j : Nat) o q d, ops[i]? = some o → ops[j]? = some q → i ≠ j → o.dst = some d → q.dst ≠ some d
  guard : ∀ (k : Nat) o, ops[k]? = some o → ∀ j b, o.guard = some (j, b) → j < k
  lt : ∀ (i : Nat) o d, ops[i]? = some o → o.dst = some d → d < N
theorem dstsOk_get : ∀ {l : List Oper}, dstsOk l = true → ∀ (i j : Nat) o q d, l[i]? = some o → l[j]? = some q → i < j → o.dst = some d → q.dst ≠ some d
  | [], h, i, j, o, q, d, h1, h2, hij, hd => by simp at h1
  | p :: l, h, i, j, o, q, d, h1, h2, hij, hd => by
    unfold dstsOk at h
    rw [Bool.and_eq_true] at h
    cases j with
    | zero => omega
    | succ j =>
      have h2' : l[j]? = some q := by simpa using h2
      cases i with
      | zero =>
        have : p = o := by simpa using h1
        subst this
        have h3 := h.1
        rw [hd] at h3
        have h4 := List.all_eq_true.1 h3 q (List.mem_of_getElem? h2')
        intro e
        rw [e] at h4
        simp at h4
      | succ i => exact dstsOk_get h.2 i j o q d (by simpa using h1) h2' (by omega) hd
theorem guardsOk_get {ops : List Oper} : ∀ {l : List Oper} {n : Nat}, guardsOk ops n l = true → ∀ (k : Nat) o, l[k]? = some o → ∀ j b, o.guard = some (j, b) → j < n + k
  | [], n, h, k, o, h1, j, b, hg => by simp at h1
  | p :: l, n, h, k, o, h1, j, b, hg => by
    unfold guardsOk at h
    rw [Bool.and_eq_true] at h
    cases k with
    | zero =>
      have : p = o := by simpa using h1
      subst this
      have h3 := h.1
      rw [hg] at h3
      rw [Bool.and_eq_true] at h3
      have := h3.1
      simpa using this
    | succ k =>
      have := guardsOk_get h.2 k o (by simpa using h1) j b hg
      omega
theorem regFit {ops : Array Oper} {N : Nat} (h : regOk N ops.toList = true) : RegFit ops N := by
  unfold regOk at h
  simp only [Bool.and_eq_true] at h
  obtain ⟨⟨h1, h2⟩, h3⟩ := h
  refine ⟨fun i j o q d hi hj hne hd => ?_, fun k o hk j b hg => ?_, fun i o d hi hd => ?_⟩
  · rw [← Array.getElem?_toList] at hi hj
    rcases Nat.lt_or_ge i j with hij | hij
    · exact dstsOk_get h1 i j o q d hi hj hij hd
    · intro e
      exact dstsOk_get h1 j i q o d hj hi (by omega) e hd
  · rw [← Array.getElem?_toList] at hk
    have := guardsOk_get h2 k o hk j b hg
    omega
  · rw [← Array.getElem?_toList] at hi
    have := List.all_eq_true.1 h3 o (List.mem_of_getElem? hi)
    rw [hd] at this
    simpa using this
/-- What is held of a region under way stands for a frame and a world. -/
structure LRel (cx : Cx) (G : Gh) (ops : Array Oper) (N k : Nat) (s : VS) (a : Act) (w : World) : Prop where
  inv : Inv cx G s.lh w
  env : ∀ t x, lookL t s.loc = none → getN t s.env = some x → Rep x G w (a.tmps.getD t undef)
  loc : ∀ t g v, lookL t s.loc = some (g, v) → (GuardOn ops a.tmps g → Rep v G w (a.tmps.getD t undef)) ∧ ∃ i o, i < k ∧ ops[i]? = some o ∧ o.guard = g ∧ o.dst = some t
  chain : ∀ i o, i < k → ops[i]? = some o → ∀ b, yielded ops a.tmps i = some b → GuardOn ops a.tmps o.guard
  size : N ≤ a.tmps.size
  defers : a.defers = []
section
variable {ops : Array Oper} {N k : Nat} {s : VS} {a : Act}
theorem guardIn_ok (hr : RegFit ops N) (hc : ∀ i o, i < k → ops[i]? = some o → ∀ b, yielded ops a.tmps i = some b → GuardOn ops a.tmps o.guard) : ∀ (n : Nat) (g h : Option (Nat × Bool)), guardIn ops.toList n g h = true → (∀ i b, g = some (i, b) → i < k) → GuardOn ops a.tmps g → GuardOn ops a.tmps h
  | 0, g, h, e, _, _ => by unfold guardIn at e; cases e
  | n + 1, g, h, e, hk, hg => by
    unfold guardIn at e
    split at e
    · trivial
    · rename_i j b
      split at e
      · cases e
      · rename_i i c
        rw [Bool.or_eq_true] at e
        rcases e with e | e
        · rw [Bool.and_eq_true] at e
          have h1 := Nat.eq_of_beq_eq_true e.1
          have h2 : c = b := by simpa using e.2
          subst h1; subst h2
          exact hg
        · have hik := hk i c rfl
          cases ho : ops[i]? with
          | none =>
            have : (ops.toList[i]?).bind (·.guard) = none := by rw [Array.getElem?_toList, ho]; rfl
            rw [this] at e
            cases n with
            | zero => unfold guardIn at e; cases e
            | succ n => unfold guardIn at e; cases e
          | some o =>
            have : (ops.toList[i]?).bind (·.guard) = o.guard := by rw [Array.getElem?_toList, ho]; rfl
            rw [this] at e
            exact guardIn_ok hr hc n o.guard _ e (fun i' b' hg' => by have := hr.guard i o ho i' b' hg'; omega) (hc i o hik ho c hg)
theorem ofValue_ok (v : Value) : Rep (ofValue v) G w v := by
  cases v with
  | agg _ => trivial
  | tuple _ => trivial
  | int k z => exact rfl
  | bool b => exact rfl
  | string s => exact rfl
  | _ => exact ⟨rfl, rfl⟩
theorem LRel.operand (h : LRel cx G ops N k s a w) (hr : RegFit ops N) {g : Option (Nat × Bool)} (hk : ∀ i b, g = some (i, b) → i < k) (hg : GuardOn ops a.tmps g) (x : Operand) : Rep (operandV ops.toList g s x) G w (a.eval x) := by
  cases x with
  | tmp t =>
    unfold operandV
    dsimp only
    cases hl : lookL t s.loc with
    | none =>
      dsimp only
      cases he : getN t s.env with
      | none => trivial
      | some x => exact h.env t x hl he
    | some p =>
      obtain ⟨q, v⟩ := p
      dsimp only
      cases hgi : guardIn ops.toList 9 g q with
      | false => trivial
      | true => exact (h.loc t q v hl).1 (guardIn_ok hr h.chain 9 g q hgi hk hg)
  | const v => exact ofValue_ok v
  | global g => exact rfl
  | func f => exact ⟨[], [], rfl, rfl, rfl⟩
theorem LRel.operands (h : LRel cx G ops N k s a w) (hr : RegFit ops N) {g : Option (Nat × Bool)} (hk : ∀ i b, g = some (i, b) → i < k) (hg : GuardOn ops a.tmps g) : ∀ xs : List Operand, RepL' (xs.map (operandV ops.toList g s)) G w (xs.map a.eval)
  | [] => rfl
  | x :: xs => ⟨_, _, rfl, h.operand hr hk hg x, h.operands hr hk hg xs⟩
/-- A value turned. -/
def tv (f : Option (PV → PV)) (y : PV) : PV := match f with | none => y | some f => y.mapL f
theorem lookL_turn (f : Option (PV → PV)) (lh : List (Nat × PV)) (t : Nat) (s : VS) : lookL t (s.turn f lh).loc = (lookL t s.loc).map fun p => (p.1, tv f p.2) := by
  cases f with
  | none =>
    show lookL t s.loc = _
    cases lookL t s.loc <;> rfl
  | some f =>
    show lookL t (s.loc.map fun e => (e.1, e.2.1, e.2.2.mapL f)) = _
    induction s.loc with
    | nil => rfl
    | cons e l ih =>
      show (bif Nat.beq e.1 t then some (e.2.1, e.2.2.mapL f) else lookL t (l.map fun e => (e.1, e.2.1, e.2.2.mapL f))) = (bif Nat.beq e.1 t then some e.2 else lookL t l).map _
      cases Nat.beq e.1 t with
      | true => rfl
      | false => exact ih
theorem getN_turn_env (f : Option (PV → PV)) (lh : List (Nat × PV)) (t : Nat) (s : VS) : getN t (s.turn f lh).env = (getN t s.env).map (tv f) := by
  cases f with
  | none =>
    show getN t s.env = _
    cases getN t s.env <;> rfl
  | some f =>
    show getN t (s.env.map fun e => (e.1, e.2.mapL f)) = _
    exact getN_turn f t s.env
theorem turn_lh (f : Option (PV → PV)) (lh : List (Nat × PV)) (s : VS) : (s.turn f lh).lh = lh := by cases f <;> rfl
theorem yielded_put {o : Oper} {d : Option Tmp} {u : Value} {j : Nat} (h : ∀ q t, ops[j]? = some q → q.dst = some t → d ≠ some t) : yielded ops (a.put d u).tmps j = yielded ops a.tmps j := by
  unfold yielded
  cases hj : ops[j]? with
  | none => rfl
  | some q =>
    simp only [Option.bind_some]
    cases ht : q.dst with
    | none => rfl
    | some t =>
      simp only [Option.bind_some]
      cases d with
      | none => rfl
      | some d =>
        have hne : d ≠ t := fun e => h q t hj ht (by rw [e])
        have e : (a.put (some d) u).tmps[t]? = a.tmps[t]? := by
          show (a.tmps.setIfInBounds d u)[t]? = _
          rw [Array.getElem?_setIfInBounds, if_neg hne]
        rw [e]
theorem put_getD {d : Option Tmp} {u : Value} {t : Nat} (h : d ≠ some t) : (a.put d u).tmps.getD t undef = a.tmps.getD t undef := by
  cases d with
  | none => rfl
  | some d =>
    have hne : d ≠ t := fun e => h (by rw [e])
    show (a.tmps.setIfInBounds d u).getD t undef = _
    simp only [Array.getD_eq_getD_getElem?, Array.getElem?_setIfInBounds]
    rw [if_neg hne]
theorem put_same {u : Value} {t : Nat} (h : t < a.tmps.size) : (a.put (some t) u).tmps.getD t undef = u := by
  show (a.tmps.setIfInBounds t u).getD t undef = u
  simp [Array.getD, h]
theorem put_size (a : Act) (d : Option Tmp) (u : Value) : (a.put d u).tmps.size = a.tmps.size := by cases d <;> simp [Act.put]
theorem put_defers (a : Act) (d : Option Tmp) (u : Value) : (a.put d u).defers = a.defers := by cases d <;> rfl
theorem lookL_push {o : Oper} {v : PV} {s : VS} {t : Nat} : lookL t (pushL o v s).loc = if o.dst = some t then some (o.guard, v) else lookL t s.loc := by
  unfold pushL
  cases hd : o.dst with
  | none => simp
  | some d =>
    show (bif Nat.beq d t then some (o.guard, v) else lookL t s.loc) = _
    by_cases e : d = t
    · subst e; rw [Nat.beq_refl, if_pos rfl]; rfl
    · rw [if_neg (fun h => e (by injection h)), show Nat.beq d t = false by rw [Bool.eq_false_iff]; exact fun hh => e (Nat.eq_of_beq_eq_true hh)]; rfl
theorem push_env {o : Oper} {v : PV} {s : VS} : (pushL o v s).env = s.env ∧ (pushL o v s).lh = s.lh := by
  unfold pushL; cases o.dst <;> exact ⟨rfl, rfl⟩
/-- One operation carried out, or left out. -/
theorem LRel.push (h : LRel cx G ops N k s a w) (hr : RegFit ops N) {o : Oper} (ho : ops[k]? = some o) {f : Option (PV → PV)} {lh' : List (Nat × PV)} {G' : Gh} {w' : World} (tr : Turns cx G w f lh' G' w') {v : PV} {u : Value}
    (hv : GuardOn ops a.tmps o.guard → Rep v G' w' u) (hb : ¬ GuardOn ops a.tmps o.guard → u = undef) : LRel cx G' ops N (k + 1) (pushL o v (s.turn f lh')) (a.put o.dst u) w' := by
  have gon : ∀ {i : Nat} {q : Oper}, i ≤ k → ops[i]? = some q → (GuardOn ops (a.put o.dst u).tmps q.guard ↔ GuardOn ops a.tmps q.guard) := by
    intro i q hik hq
    unfold GuardOn
    cases hg : q.guard with
    | none => exact Iff.rfl
    | some p =>
      obtain ⟨j, b⟩ := p
      have hj := hr.guard i q hq j b hg
      dsimp only
      rw [yielded_put (o := o) fun q' t hq' ht e => hr.apart k j o q' t ho hq' (by omega) e ht]
  refine ⟨by rw [push_env.2, turn_lh]; exact tr.inv, fun t x hl he => ?_, fun t g x hl => ?_, fun i q hi hq b hy => ?_, by rw [put_size]; exact h.size, by rw [put_defers]; exact h.defers⟩
  · rw [lookL_push] at hl
    split at hl
    · cases hl
    · rename_i hd
      rw [lookL_turn] at hl
      rw [push_env.1, getN_turn_env] at he
      rw [Option.map_eq_some_iff] at he
      obtain ⟨y, hy, rfl⟩ := he
      rw [put_getD hd]
      exact tr.rep _ _ (h.env t y (by simpa using hl) hy)
  · rw [lookL_push] at hl
    split at hl
    · rename_i hd
      injection hl with hl; injection hl with h1 h2; subst h1; subst h2
      have hlt : t < a.tmps.size := Nat.lt_of_lt_of_le (hr.lt k o t ho hd) h.size
      refine ⟨fun hg => ?_, k, o, by omega, ho, rfl, hd⟩
      rw [hd, put_same hlt]
      exact hv ((gon (Nat.le_refl k) ho).1 hg)
    · rename_i hd
      rw [lookL_turn, Option.map_eq_some_iff] at hl
      obtain ⟨⟨g', y⟩, hy, e⟩ := hl
      injection e with e1 e2; subst e1; subst e2
      obtain ⟨h1, i, q, hi, hq, hg1, hd1⟩ := h.loc t g' y hy
      refine ⟨fun hg => ?_, i, q, by omega, hq, hg1, hd1⟩
      rw [put_getD hd]
      refine tr.rep _ _ (h1 ?_)
      rw [← hg1] at hg ⊢
      exact (gon (by omega) hq).1 hg
  · by_cases hik : i = k
    · subst hik
      rw [ho] at hq; injection hq with hq; subst hq
      rw [gon (Nat.le_refl _) ho]
      refine Classical.byContradiction fun hng => ?_
      have hu := hb hng
      subst hu
      unfold yielded at hy
      rw [ho] at hy
      simp only [Option.bind_some] at hy
      cases hd : o.dst with
      | none => rw [hd] at hy; cases hy
      | some d =>
        rw [hd] at hy
        simp only [Option.bind_some] at hy
        have hlt : d < a.tmps.size := Nat.lt_of_lt_of_le (hr.lt _ o d ho hd) h.size
        replace hy : (match (a.tmps.setIfInBounds d undef)[d]? with | some (.bool b) => some b | _ => none) = some b := hy
        rw [Array.getElem?_setIfInBounds, if_pos rfl, if_pos hlt] at hy
        cases hy
    · rw [yielded_put (o := o) fun q' t hq' ht e => hr.apart k i o q' t ho hq' (by omega) e ht] at hy
      exact (gon (by omega) hq).2 (h.chain i q (by omega) hq b hy)
theorem underG_ok (h : LRel cx G ops N k s a w) (hr : RegFit ops N) : ∀ (n : Nat) (g : Option (Nat × Bool)) (p : Prop), underG ops.toList s n g p → (∀ i b, g = some (i, b) → i < k) → GuardOn ops a.tmps g → p
  | 0, g, p, hu, _, _ => by unfold underG at hu; exact hu.elim
  | n + 1, g, p, hu, hk, hg => by
    unfold underG at hu
    split at hu
    · exact hu
    · rename_i j wv
      split at hu
      · exact hu.elim
      · rename_i o ho
        have ho' : ops[j]? = some o := by rw [← Array.getElem?_toList]; exact ho
        split at hu
        · rename_i x g' b hl
          rw [Option.bind_eq_some_iff] at hl
          obtain ⟨t, ht, hl⟩ := hl
          have hjk := hk j wv rfl
          obtain ⟨h1, i, q, hi, hq, hg1, hd1⟩ := h.loc t g' (.bool b) hl
          have hij : i = j := Classical.byContradiction fun hne => hr.apart i j q o t hq ho' hne hd1 ht
          subst hij
          rw [ho'] at hq; injection hq with hq; subst hq
          have hgo := h.chain i o hi ho' wv hg
          have hrep := h1 (by rw [← hg1]; exact hgo)
          have hbw : b = wv := by
            have hy : yielded ops a.tmps i = some wv := hg
            unfold yielded at hy
            rw [ho'] at hy
            simp only [Option.bind_some, ht] at hy
            have hlt : t < a.tmps.size := Nat.lt_of_lt_of_le (hr.lt _ o t ho' ht) h.size
            have e : a.tmps[t]? = some (.bool b) := by
              have : a.tmps.getD t undef = .bool b := hrep
              rw [Array.getD, dif_pos hlt] at this
              rw [Array.getElem?_eq_getElem hlt]
              exact congrArg some this
            rw [e] at hy
            injection hy
          have := underG_ok h hr n o.guard _ hu (fun i' b' hg' => by have := hr.guard i o ho' i' b' hg'; omega) hgo
          subst hbw
          cases b with
          | true => exact this rfl
          | false => exact this rfl
        · exact hu.elim
/-- What an operation is given. -/
theorem LRel.does {T : Tabs} {X : Tbl} (h : LRel cx G ops N k s a w) (hX : XOk P T X) (hm : cx.m ≤ 32) (hT : TabC T cx) (hr : RegFit ops N) {o : Oper} (ho : ops[k]? = some o) (hg : GuardOn ops a.tmps o.guard) {v : PV} {f : Option (PV → PV)} {lh' : List (Nat × PV)}
    (he : (evOp P X T o (operandsV ops.toList o s) s.lh).Is v f s.lh lh') : Does P cx G w o a v f lh' := by
  have hk : ∀ i b, o.guard = some (i, b) → i < k := hr.guard k o ho
  by_cases hp : ∃ c x y, o.op = .pick c x y
  · obtain ⟨c, x, y, hop⟩ := hp
    have base : RepL' ([c, x, y].map (operandV ops.toList o.guard s)) G w ([c, x, y].map a.eval) := h.operands hr hk hg _
    have hc : Rep (operandV ops.toList o.guard s c) G w (a.eval c) := h.operand hr hk hg c
    have fin : ∀ (b : Bool) (p q : PV), evOp P X T o [.bool b, p, q] s.lh = .val (pickV b p q) → a.eval c = .bool b → (b = true → Rep p G w (a.eval x)) → (b = false → Rep q G w (a.eval y)) → (evOp P X T o [.bool b, p, q] s.lh).Is v f s.lh lh' → Does P cx G w o a v f lh' := by
      intro b p q hev hcb h1 h2 hI
      rw [hev] at hI
      obtain ⟨rfl, rfl, rfl⟩ := hI
      refine .pure h.inv (u := if b = true then a.eval x else a.eval y) ?_ (pick_ok h1 h2)
      unfold execOp
      rw [hop]
      dsimp only
      rw [hcb]
      cases b <;> rfl
    have ev : ∀ b p q, evOp P X T o [.bool b, p, q] s.lh = .val (pickV b p q) := by
      intro b p q
      unfold evOp evOp0
      rw [hop]
      rfl
    have evn : ∀ z p q, (∀ b, z ≠ PV.bool b) → ¬ (evOp P X T o [z, p, q] s.lh).Is v f s.lh lh' := by
      intro z p q hz hI
      replace hI := calm_is hI
      unfold evOp0 at hI
      rw [hop] at hI
      dsimp only at hI
      cases z <;> first | exact hz _ rfl | exact hI
    unfold operandsV at he
    rw [hop] at he
    dsimp only at he
    cases hpg : pickGuard ops.toList s c with
    | none =>
      rw [hpg] at he
      dsimp only at he
      replace he : (evOp P X T o [operandV ops.toList o.guard s c, operandV ops.toList o.guard s x, operandV ops.toList o.guard s y] s.lh).Is v f s.lh lh' := he
      generalize hz : operandV ops.toList o.guard s c = z at he hc
      cases z with
      | bool b => exact fin b _ _ (ev b _ _) hc (fun _ => h.operand hr hk hg x) (fun _ => h.operand hr hk hg y) he
      | _ => exact absurd he (evn _ _ _ (fun b e => by cases e))
    | some j =>
      rw [hpg] at he
      dsimp only at he
      generalize hz : operandV ops.toList o.guard s c = z at he hc
      cases z with
      | bool b =>
        have hcb : a.eval c = .bool b := hc
        unfold pickGuard at hpg
        split at hpg
        · rename_i t
          split at hpg
          · rename_i q hl
            obtain ⟨h1, i, o', hi, ho', hg1, hd1⟩ := h.loc t q.1 q.2 hl
            have hj := List.findIdx?_eq_some_iff_getElem.1 hpg
            obtain ⟨hjl, hj2, -⟩ := hj
            have hjo : ops[j]? = some (ops.toList[j]) := by rw [← Array.getElem?_toList]; exact List.getElem?_eq_getElem hjl
            have hjd : (ops.toList[j]).dst = some t := by
              cases hd : (ops.toList[j]).dst with
              | none => rw [hd] at hj2; cases hj2
              | some d => rw [hd] at hj2; rw [Nat.eq_of_beq_eq_true hj2]
            have hij : i = j := Classical.byContradiction fun hne => hr.apart i j o' _ t ho' hjo hne hd1 hjd
            subst hij
            have hlt : t < a.tmps.size := Nat.lt_of_lt_of_le (hr.lt _ _ t hjo hjd) h.size
            have hy : yielded ops a.tmps i = some b := by
              unfold yielded
              rw [hjo]
              simp only [Option.bind_some, hjd]
              have e : a.tmps[t]? = some (.bool b) := by
                have : a.tmps.getD t undef = .bool b := hcb
                rw [Array.getD, dif_pos hlt] at this
                rw [Array.getElem?_eq_getElem hlt]
                exact congrArg some this
              rw [e]
            refine fin b _ _ (ev b _ _) hcb (fun hb => ?_) (fun hb => ?_) he
            · subst hb
              exact h.operand hr (g := some (i, true)) (fun i' b' e => by injection e with e; injection e with e1 e2; omega) hy x
            · subst hb
              exact h.operand hr (g := some (i, false)) (fun i' b' e => by injection e with e; injection e with e1 e2; omega) hy y
          · cases hpg
        · cases hpg
      | _ => exact absurd he (evn _ _ _ (fun b e => by cases e))
  · have hnp : ∀ c x y, o.op ≠ .pick c x y := fun c x y e => hp ⟨c, x, y, e⟩
    have : operandsV ops.toList o s = o.op.operands.toList.map (operandV ops.toList o.guard s) := by
      unfold operandsV
      split
      · rename_i c x y e
        exact absurd e (hnp c x y)
      · rfl
    rw [this] at he
    exact evOp_ok hX h.inv hm hT hnp (h.operands hr hk hg _) he
theorem forceL_eq {f : PV → (PV → Prop) → Prop} (hf : ∀ x k, f x k = k x) : ∀ (l : List PV) (k : List PV → Prop), forceL f l k = k l
  | [], k => rfl
  | x :: l, k => by unfold forceL; rw [hf, forceL_eq hf l]
theorem forceB_eq (r : BRow) (k : BRow → Prop) : forceB r k = k r := by cases r <;> rfl
theorem forceV_eq : ∀ (n : Nat) (x : PV) (k : PV → Prop), forceV n x k = k x
  | 0, x, k => rfl
  | n + 1, x, k => by
    cases x with
    | arr m r => show forceB r (fun r => k (.arr m r)) = _; exact forceB_eq r _
    | row nl r t => show forceB r (fun r => k (.row nl r t)) = _; exact forceB_eq r _
    | agg l => show forceL (forceV n) l (fun l => k (.agg l)) = _; exact forceL_eq (forceV_eq n) l _
    | tup l => show forceL (forceV n) l (fun l => k (.tup l)) = _; exact forceL_eq (forceV_eq n) l _
    | _ => rfl
theorem forceE_eq : ∀ (l : List (Nat × PV)) (k : List (Nat × PV) → Prop), forceE l k = k l
  | [], k => rfl
  | e :: l, k => by unfold forceE; rw [forceV_eq, forceE_eq l]
/-- Operations in line do what is said. -/
theorem evOps_ok {T : Tabs} {X : Tbl} (hX : XOk P T X) (hm : cx.m ≤ 32) (hT : TabC T cx) (hr : RegFit ops N) {Q : Exit → Act → World → Prop} {K : VS → Prop} (hQ : ∀ G s a w, LRel cx G ops N ops.size s a w → K s → Q .normal a w) :
    ∀ (rest : List Oper) (k : Nat) (s : VS) (a : Act) (w : World) (G : Gh), ops.toList.drop k = rest → k ≤ ops.size → LRel cx G ops N k s a w → evOps P X T ops.toList rest s K → wpList P ops Q rest a w
  | [], k, s, a, w, G, hd, hk, h, he => by
    have : k = ops.size := by
      have := List.drop_eq_nil_iff.1 hd
      simp at this; omega
    subst this
    exact hQ G s a w h he
  | o :: os, k, s, a, w, G, hd, hk, h, he => by
    have ho : ops[k]? = some o := by
      rw [← Array.getElem?_toList]
      have := congrArg (fun l => l[0]?) hd
      simpa using this
    have hd' : ops.toList.drop (k + 1) = os := by
      rw [← List.drop_drop, hd]; rfl
    have hk' : k + 1 ≤ ops.size := (Array.getElem?_eq_some_iff.1 ho).1
    have off : ∀ v, ¬ GuardOn ops a.tmps o.guard → evOps P X T ops.toList os (pushL o v s) K → wpList P ops Q (o :: os) a w := by
      intro v hng he'
      show if _ then _ else _
      rw [if_neg (by rw [wanted_iff]; exact hng)]
      exact evOps_ok hX hm hT hr hQ os (k + 1) _ _ w G hd' hk' (h.push hr ho (.refl h.inv) (v := v) (u := undef) (fun hg => absurd hg hng) (fun _ => rfl)) he'
    have on : ∀ v f lh', GuardOn ops a.tmps o.guard → (evOp P X T o (operandsV ops.toList o s) s.lh).Is v f s.lh lh' → evOps P X T ops.toList os (pushL o v (s.turn f lh')) K → wpList P ops Q (o :: os) a w := by
      intro v f lh' hg hI he'
      show if _ then _ else _
      rw [if_pos ((wanted_iff ops a.tmps o).2 hg)]
      left
      refine h.does hX hm hT hr ho hg hI _ _ fun G' w' u tr hv => ?_
      exact evOps_ok hX hm hT hr hQ os (k + 1) _ _ w' G' hd' hk' (h.push hr ho tr (fun _ => hv) (fun hng => absurd hg hng)) he'
    unfold evOps at he
    split at he
    · rename_i v hev
      rw [forceV_eq] at he
      by_cases hg : GuardOn ops a.tmps o.guard
      · exact on v none s.lh hg (by rw [hev]; exact ⟨rfl, rfl, rfl⟩) he
      · exact off v hg he
    · rename_i p v hev hgn
      rw [forceV_eq] at he
      have hg : GuardOn ops a.tmps o.guard := by rw [hgn]; trivial
      exact on v none s.lh hg (by rw [hev]; exact ⟨he.1, rfl, rfl, rfl⟩) he.2
    · rename_i p v g hev hgs
      rw [forceV_eq] at he
      by_cases hg : GuardOn ops a.tmps o.guard
      · have hp : p := underG_ok h hr 9 _ p (by rw [hgs] at *; exact he.1) (hr.guard k o ho) hg
        exact on v none s.lh hg (by rw [hev]; exact ⟨hp, rfl, rfl, rfl⟩) he.2
      · exact off v hg he.2
    · rename_i v f lh' hev hgn
      rw [forceV_eq] at he
      have hg : GuardOn ops a.tmps o.guard := by rw [hgn]; trivial
      exact on v f lh' hg (by rw [hev]; exact ⟨rfl, rfl, rfl⟩) he
    · rename_i p v f lh' hev hgn
      rw [forceV_eq] at he
      have hg : GuardOn ops a.tmps o.guard := by rw [hgn]; trivial
      exact on v f lh' hg (by rw [hev]; exact ⟨he.1, rfl, rfl, rfl⟩) he.2
    · exact he.elim
end
end Go.Vc


/- A calculus of Go's functions by their values: operations in any order. -/
namespace Go.Vc
open Go.RowKit
variable [Wd] {P : Program} {cx : Cx} {G : Gh} {w : World}

theorem inMask_eq (a t : Nat) : inMask a t = a.testBit t := by
  unfold inMask
  show Nat.beq ((a >>> t) &&& 1) 1 = _
  rw [Nat.testBit, Nat.and_comm]
  have : (1 &&& (a >>> t)) = (a >>> t) % 2 := by rw [Nat.and_comm]; exact Nat.and_one_is_mod _
  rw [this]
  rcases Nat.mod_two_eq_zero_or_one (a >>> t) with h | h <;> rw [h] <;> rfl
theorem inMask_or (a t s : Nat) : inMask (orMask a t) s = (inMask a s || decide (t = s)) := by
  rw [inMask_eq, inMask_eq]
  show (a ||| 2 ^ t).testBit s = _
  rw [Nat.testBit_or, Nat.testBit_two_pow]
theorem inMask_lor (a b s : Nat) : inMask (Nat.lor a b) s = (inMask a s || inMask b s) := by
  rw [inMask_eq, inMask_eq, inMask_eq]
  exact Nat.testBit_or a b s
theorem inMask_zero (s : Nat) : inMask 0 s = false := by rw [inMask_eq]; exact Nat.zero_testBit s

def addS (S : Nat → Bool) (i : Nat) : Nat → Bool := fun k => S k || decide (k = i)
theorem addS_of {S : Nat → Bool} {i k : Nat} (h : k ≠ i) : addS S i k = S k := by unfold addS; rw [decide_eq_false h, Bool.or_false]
theorem addS_self {S : Nat → Bool} {i : Nat} : addS S i i = true := by unfold addS; simp
def cntS (S : Nat → Bool) : Nat → Nat
  | 0 => 0
  | k + 1 => cntS S k + (if S k = true then 0 else 1)
theorem cntS_zero {S : Nat → Bool} : ∀ {n}, cntS S n = 0 → ∀ j, j < n → S j = true
  | 0, _, j, h => by omega
  | n + 1, h, j, hj => by
    unfold cntS at h
    by_cases e : j = n
    · subst e
      cases hs : S j with
      | true => rfl
      | false => rw [hs] at h; simp at h
    · exact cntS_zero (n := n) (S := S) (Nat.eq_zero_of_add_eq_zero_right h) j (by omega)
theorem cntS_add {S : Nat → Bool} {i : Nat} (hi : S i = false) : ∀ n, cntS (addS S i) n + (if i < n then 1 else 0) = cntS S n
  | 0 => rfl
  | n + 1 => by
    have ih := cntS_add hi n
    unfold cntS
    by_cases e : n = i
    · subst e
      rw [addS_self, hi]
      rw [if_neg (Nat.lt_irrefl n)] at ih
      rw [if_pos (Nat.lt_succ_self n), if_pos rfl, if_neg (by simp)]
      omega
    · rw [addS_of e]
      by_cases h : i < n
      · rw [if_pos h] at ih; rw [if_pos (by omega : i < n + 1)]; omega
      · rw [if_neg h] at ih; rw [if_neg (by omega : ¬ i < n + 1)]; omega
theorem cntS_none : ∀ n, cntS (fun _ => false) n = n
  | 0 => rfl
  | n + 1 => by unfold cntS; rw [cntS_none n]; rfl
abbrev ofL (listed : Array Bool) : Nat → Bool := fun j => listed.getD j false
theorem ofL_set {listed : Array Bool} {i : Nat} (h : i < listed.size) : ofL (listed.setIfInBounds i true) = addS (ofL listed) i := by
  funext j
  unfold ofL addS
  simp only [Array.getD_eq_getD_getElem?, Array.getElem?_setIfInBounds]
  by_cases e : i = j
  · subst e; rw [if_pos rfl, if_pos h]; simp
  · rw [if_neg e, decide_eq_false (fun x => e x.symm), Bool.or_false]
def maskOf (acc : List Nat) (o : Oper) : Nat := o.after.toList.foldl (fun s e => if Region.binds .any e then Nat.lor (orMask s e.on) (acc.getD e.on 0) else s) 0
theorem mask_fold (acc : List Nat) : ∀ (l : List Edge) (s j : Nat), inMask (l.foldl (fun s e => if Region.binds .any e then Nat.lor (orMask s e.on) (acc.getD e.on 0) else s) s) j = true → inMask s j = true ∨ ∃ e ∈ l, Region.binds .any e = true ∧ (e.on = j ∨ inMask (acc.getD e.on 0) j = true)
  | [], s, j, h => .inl h
  | e :: l, s, j, h => by
    rw [List.foldl_cons] at h
    rcases mask_fold acc l _ j h with h | ⟨e', h1, h2⟩
    · split at h
      · rename_i hb
        rw [inMask_lor, inMask_or, Bool.or_eq_true, Bool.or_eq_true] at h
        rcases h with (h | h) | h
        · exact .inl h
        · exact .inr ⟨e, List.mem_cons_self .., hb, .inl (of_decide_eq_true h)⟩
        · exact .inr ⟨e, List.mem_cons_self .., hb, .inr h⟩
      · exact .inl h
    · exact .inr ⟨e', List.mem_cons_of_mem _ h1, h2⟩
theorem befores_go : ∀ (l : List Oper) (acc : List Nat), ∃ r, l.foldl (fun (acc : List Nat) o => acc ++ [maskOf acc o]) acc = acc ++ r ∧ r.length = l.length ∧ ∀ i o, l[i]? = some o → r[i]? = some (maskOf (acc ++ r.take i) o)
  | [], acc => ⟨[], by simp, rfl, fun i o h => by simp at h⟩
  | o :: l, acc => by
    obtain ⟨r, h1, h2, h3⟩ := befores_go l (acc ++ [maskOf acc o])
    refine ⟨maskOf acc o :: r, by rw [List.foldl_cons, h1, List.append_assoc]; rfl, by simp [h2], fun i o' h => ?_⟩
    cases i with
    | zero => simp at h; subst h; simp
    | succ i =>
      have := h3 i o' (by simpa using h)
      rw [List.getElem?_cons_succ, this, List.take_succ_cons, List.append_assoc]; rfl
theorem befores_spec (ops : List Oper) : (befores ops).length = ops.length ∧ ∀ i o j, ops[i]? = some o → inMask ((befores ops).getD i 0) j = true → ∃ e ∈ o.after, Region.binds .any e = true ∧ (e.on = j ∨ inMask ((befores ops).getD e.on 0) j = true) := by
  obtain ⟨r, h1, h2, h3⟩ := befores_go ops []
  have e : befores ops = r := h1
  rw [e]
  refine ⟨h2, fun i o j ho hm => ?_⟩
  have hr := h3 i o ho
  rw [List.getD_eq_getElem?_getD, hr] at hm
  rcases mask_fold _ _ _ _ (show inMask (o.after.toList.foldl _ 0) j = true from hm) with h | ⟨e, h4, h5, h6⟩
  · rw [inMask_zero] at h; cases h
  · refine ⟨e, Array.mem_toList_iff.1 h4, h5, h6.imp id fun h => ?_⟩
    rw [List.nil_append, List.getD_eq_getElem?_getD, List.getElem?_take] at h
    split at h
    · rw [List.getD_eq_getElem?_getD]; exact h
    · rw [Option.getD_none, inMask_zero] at h; cases h
structure Opn (ops : List Oper) (bf : List Nat) : Prop where
  len : bf.length = ops.length
  bfs : ∀ i o j, ops[i]? = some o → inMask (bf.getD i 0) j = true → ∃ e ∈ o.after, Region.binds .any e = true ∧ (e.on = j ∨ inMask (bf.getD e.on 0) j = true)
  dn : ∀ i o e, ops[i]? = some o → e ∈ o.after → Region.binds .any e = true → e.on < i
  ap : ∀ i j x y, i < j → ops[i]? = some x → ops[j]? = some y → inMask (bf.getD j 0) i = true ∨ apartB ops x y = true
theorem openOk_spec {ops : List Oper} (h : openOk ops (befores ops) = true) : Opn ops (befores ops) := by
  obtain ⟨h1, h2⟩ := befores_spec ops
  unfold openOk at h
  rw [Bool.and_eq_true] at h
  obtain ⟨ha, hb⟩ := h
  refine ⟨h1, h2, fun i o e ho he hbi => ?_, fun i j x y hij hx hy => ?_⟩
  · have := List.all_eq_true.1 ha (o, i) (List.mem_zipIdx_iff_getElem?.2 ho)
    have := List.all_eq_true.1 this e (Array.mem_toList_iff.2 he)
    rw [hbi] at this
    simpa using this
  · have hj : j < (befores ops).length := by rw [h1]; exact (List.getElem?_eq_some_iff.1 hy).1
    have hz : (ops.zip (befores ops))[j]? = some (y, (befores ops)[j]) := List.getElem?_zip_eq_some.2 ⟨hy, List.getElem?_eq_getElem hj⟩
    have := List.all_eq_true.1 hb ((y, (befores ops)[j]), j) (List.mem_zipIdx_iff_getElem?.2 hz)
    have := List.all_eq_true.1 this (x, i) (List.mem_zipIdx_iff_getElem?.2 (by rw [List.getElem?_take, if_pos hij]; exact hx))
    rw [Bool.or_eq_true] at this
    rw [List.getD_eq_getElem?_getD, List.getElem?_eq_getElem hj]
    exact this
/-- Those before it write what it reads; those behind it do not. -/
theorem apartB_left {ops : List Oper} {x y : Oper} {d : Tmp} (h : apartB ops x y = true) (hd : x.dst = some d) : d ∉ readsOf ops y ∧ y.dst ≠ some d := by
  unfold apartB at h
  rw [hd] at h
  dsimp only at h
  rw [Bool.and_eq_true, Bool.and_eq_true] at h
  obtain ⟨⟨h1, h2⟩, -⟩ := h
  refine ⟨fun hm => ?_, by simpa using h2⟩
  simp [hm] at h1
theorem apartB_right {ops : List Oper} {x y : Oper} {d : Tmp} (h : apartB ops x y = true) (hd : y.dst = some d) : d ∉ readsOf ops x := by
  unfold apartB at h
  rw [hd] at h
  dsimp only at h
  rw [Bool.and_eq_true] at h
  intro hm
  have := h.2
  simp [hm] at this

theorem reads_operand {ops : List Oper} {o : Oper} {t : Tmp} (h : Operand.tmp t ∈ o.op.operands.toList) : t ∈ readsOf ops o :=
  List.mem_append_left _ (List.mem_filterMap.2 ⟨_, h, rfl⟩)
theorem reads_guard {ops : List Oper} {o q : Oper} {j : Nat} {b : Bool} {d : Tmp} (hg : o.guard = some (j, b)) (hq : ops[j]? = some q) (hd : q.dst = some d) : d ∈ readsOf ops o := by
  unfold readsOf
  rw [hg]
  refine List.mem_append_right _ ?_
  dsimp only
  rw [hq]
  simp [hd]
/-- What is told of an operation, as it is met in line. -/
def StepOk (P : Program) (X : Tbl) (T : Tabs) (ops : List Oper) (o : Oper) (s : VS) (v : PV) : Prop :=
  evOpD P X T o (operandsV ops o s) s.lh = .val v ∨ ∃ p, evOpD P X T o (operandsV ops o s) s.lh = .vneed p v ∧ (match o.guard with | none => p | some g => underG ops s 9 (some g) p)
/-- So, of one that stands apart. -/
def BarOk (P : Program) (X : Tbl) (T : Tabs) (ops : List Oper) (o : Oper) (s : VS) (v : PV) (f : Option (PV → PV)) (lh : List (Nat × PV)) : Prop :=
  (o.guard = none ∧ (evOp P X T o (operandsV ops o s) s.lh).Is v f s.lh lh) ∨ (f = none ∧ lh = s.lh ∧ (evOp P X T o (operandsV ops o s) s.lh = .val v ∨ ∃ p, evOp P X T o (operandsV ops o s) s.lh = .vneed p v ∧ (match o.guard with | none => p | some g => underG ops s 9 (some g) p)))
/-- One step of the line. -/
def Line (P : Program) (X : Tbl) (T : Tabs) (ops : List Oper) (bf : List Nat) (j : Nat) (o : Oper) (s s' : VS) (v : PV) (f : Option (PV → PV)) (lh : List (Nat × PV)) : Prop :=
  (barB ops bf j = true ∧ s' = pushL o v (s.turn f lh) ∧ BarOk P X T ops o s v f lh) ∨ (barB ops bf j = false ∧ s' = pushL o v s ∧ StepOk P X T ops o s v)
theorem evD_trace {X : Tbl} {T : Tabs} {ops : List Oper} {bf : List Nat} {K : VS → Prop} : ∀ (rest : List Oper) (i : Nat) (s : VS), evD P X T ops bf rest i s K →
    ∃ (st : Nat → VS) (vl : Nat → PV), st 0 = s ∧ (∀ j o, rest[j]? = some o → ∃ f lh, Line P X T ops bf (i + j) o (st j) (st (j + 1)) (vl j) f lh) ∧ K (st rest.length)
  | [], i, s, h => ⟨fun _ => s, fun _ => .undef, rfl, fun j o hj => by simp at hj, h⟩
  | o :: os, i, s, h => by
    have go : ∀ v s' f lh, Line P X T ops bf i o s s' v f lh → evD P X T ops bf os (i + 1) s' K → ∃ (st : Nat → VS) (vl : Nat → PV), st 0 = s ∧ (∀ j q, (o :: os)[j]? = some q → ∃ f lh, Line P X T ops bf (i + j) q (st j) (st (j + 1)) (vl j) f lh) ∧ K (st (o :: os).length) := by
      intro v s' f lh hv he
      obtain ⟨st, vl, h1, h2, h3⟩ := evD_trace os (i + 1) _ he
      refine ⟨fun | 0 => s | j + 1 => st j, fun | 0 => v | j + 1 => vl j, rfl, fun j q hj => ?_, h3⟩
      cases j with
      | zero =>
        have : o = q := by simpa using hj
        subst this
        exact ⟨f, lh, by show Line P X T ops bf i o s (st 0) v f lh; rw [h1]; exact hv⟩
      | succ j =>
        obtain ⟨f, lh, h4⟩ := h2 j q (by simpa using hj)
        exact ⟨f, lh, by show Line P X T ops bf (i + (j + 1)) q (st j) (st (j + 1)) (vl j) f lh; rw [show i + (j + 1) = i + 1 + j by omega]; exact h4⟩
    unfold evD at h
    split at h
    · rename_i hb
      split at h
      · rename_i v hev
        rw [forceV_eq] at h
        exact go v _ none s.lh (.inl ⟨hb, rfl, .inr ⟨rfl, rfl, .inl hev⟩⟩) h
      · rename_i p v hev hg
        rw [forceV_eq] at h
        exact go v _ none s.lh (.inl ⟨hb, rfl, .inr ⟨rfl, rfl, .inr ⟨p, hev, by rw [hg]; exact h.1⟩⟩⟩) h.2
      · rename_i p v g hev hg
        rw [forceV_eq] at h
        exact go v _ none s.lh (.inl ⟨hb, rfl, .inr ⟨rfl, rfl, .inr ⟨p, hev, by rw [hg]; exact h.1⟩⟩⟩) h.2
      · rename_i v f lh hev hg
        rw [forceV_eq] at h
        exact go v _ f lh (.inl ⟨hb, rfl, .inl ⟨hg, by rw [hev]; exact ⟨rfl, rfl, rfl⟩⟩⟩) h
      · rename_i p v f lh hev hg
        rw [forceV_eq] at h
        exact go v _ f lh (.inl ⟨hb, rfl, .inl ⟨hg, by rw [hev]; exact ⟨h.1, rfl, rfl, rfl⟩⟩⟩) h.2
      · exact h.elim
    · rename_i hb
      split at h
      · rename_i v hev
        rw [forceV_eq] at h
        exact go v _ none s.lh (.inr ⟨hb, rfl, .inl hev⟩) h
      · rename_i p v hev hg
        rw [forceV_eq] at h
        exact go v _ none s.lh (.inr ⟨hb, rfl, .inr ⟨p, hev, by rw [hg]; exact h.1⟩⟩) h.2
      · rename_i p v g hev hg
        rw [forceV_eq] at h
        exact go v _ none s.lh (.inr ⟨hb, rfl, .inr ⟨p, hev, by rw [hg]; exact h.1⟩⟩) h.2
      · exact h.elim
/-- The states that are met, in line. -/
structure Trc (P : Program) (X : Tbl) (T : Tabs) (ops : List Oper) (bf : List Nat) (s : VS) (st : Nat → VS) (vl : Nat → PV) : Prop where
  loc : s.loc = []
  zero : st 0 = s
  step : ∀ j o, ops[j]? = some o → ∃ f lh, Line P X T ops bf j o (st j) (st (j + 1)) (vl j) f lh
theorem Trc.far {X : Tbl} {T : Tabs} {ops : List Oper} {bf : List Nat} {s : VS} {st : Nat → VS} {vl : Nat → PV} (h : Trc P X T ops bf s st vl) : ∀ k, k ≤ ops.length →
    (∀ t g v, lookL t (st k).loc = some (g, v) → ∃ i o, i < k ∧ ops[i]? = some o ∧ o.guard = g ∧ o.dst = some t) ∧ (∀ t, lookL t (st k).loc = none → ∀ i o, i < k → ops[i]? = some o → o.dst ≠ some t)
  | 0, _ => by
    rw [h.zero]
    exact ⟨(fun t g v hl => by rw [h.loc] at hl; cases hl), fun t _ i o hi => by omega⟩
  | k + 1, hk => by
    obtain ⟨h3, h4⟩ := h.far k (by omega)
    obtain ⟨o, ho⟩ : ∃ o, ops[k]? = some o := ⟨_, List.getElem?_eq_getElem (by omega)⟩
    have main : ∀ f lh, st (k + 1) = pushL o (vl k) ((st k).turn f lh) → (∀ t g v, lookL t (st (k + 1)).loc = some (g, v) → ∃ i o, i < k + 1 ∧ ops[i]? = some o ∧ o.guard = g ∧ o.dst = some t) ∧ (∀ t, lookL t (st (k + 1)).loc = none → ∀ i o, i < k + 1 → ops[i]? = some o → o.dst ≠ some t) := by
      intro f lh e
      rw [e]
      refine ⟨fun t g v hl => ?_, fun t hl i q hi hq => ?_⟩
      · rw [lookL_push] at hl
        split at hl
        · rename_i hd
          injection hl with hl; injection hl with e1 e2; subst e1
          exact ⟨k, o, by omega, ho, rfl, hd⟩
        · rw [lookL_turn, Option.map_eq_some_iff] at hl
          obtain ⟨⟨g', y⟩, hy, e⟩ := hl
          injection e with e1 e2; subst e1
          obtain ⟨i, q, g1, g2, g3, g4⟩ := h3 t g' y hy
          exact ⟨i, q, by omega, g2, g3, g4⟩
      · rw [lookL_push] at hl
        split at hl
        · cases hl
        · rename_i hd
          by_cases hik : i = k
          · subst hik
            rw [ho] at hq; injection hq with hq; subst hq
            exact hd
          · rw [lookL_turn] at hl
            exact h4 t (by simpa using hl) i q (by omega) hq
    obtain ⟨f, lh, hL⟩ := h.step k o ho
    rcases hL with ⟨-, e, -⟩ | ⟨-, e, -⟩
    · exact main f lh e
    · exact main none (st k).lh (by rw [e]; rfl)
/-- From a place on, up to where one stands apart. -/
theorem Trc.near {X : Tbl} {T : Tabs} {ops : List Oper} {bf : List Nat} {s : VS} {st : Nat → VS} {vl : Nat → PV} (h : Trc P X T ops bf s st vl) {c : Nat} : ∀ k, c ≤ k → k ≤ ops.length → (∀ i, c ≤ i → i < k → barB ops bf i = false) →
    (st k).env = (st c).env ∧ (st k).lh = (st c).lh ∧ (∀ t g v, lookL t (st k).loc = some (g, v) → (∃ i o, c ≤ i ∧ i < k ∧ ops[i]? = some o ∧ o.guard = g ∧ o.dst = some t ∧ v = vl i) ∨ lookL t (st c).loc = some (g, v))
  | 0, hc, _, _ => by
    obtain rfl : c = 0 := by omega
    exact ⟨rfl, rfl, fun t g v hl => .inr hl⟩
  | k + 1, hc, hk, hb => by
    by_cases hck : c = k + 1
    · subst hck; exact ⟨rfl, rfl, fun t g v hl => .inr hl⟩
    · obtain ⟨h1, h2, h3⟩ := h.near k (by omega) (by omega) (fun i h1 h2 => hb i h1 (by omega))
      obtain ⟨o, ho⟩ : ∃ o, ops[k]? = some o := ⟨_, List.getElem?_eq_getElem (by omega)⟩
      obtain ⟨f, lh, hL⟩ := h.step k o ho
      have hbk := hb k (by omega) (by omega)
      rcases hL with ⟨hb', -, -⟩ | ⟨-, e, -⟩
      · rw [hbk] at hb'; cases hb'
      · rw [e]
        refine ⟨by rw [push_env.1]; exact h1, by rw [push_env.2]; exact h2, fun t g v hl => ?_⟩
        rw [lookL_push] at hl
        split at hl
        · rename_i hd
          injection hl with hl; injection hl with e1 e2; subst e1; subst e2
          exact .inl ⟨k, o, by omega, by omega, ho, rfl, hd, rfl⟩
        · rcases h3 t g v hl with ⟨i, q, g0, g1, g2, g3, g4, g5⟩ | hl
          · exact .inl ⟨i, q, g0, by omega, g2, g3, g4, g5⟩
          · exact .inr hl
/-- What is held of a region of which some operations are carried out. -/
structure DRel (cx : Cx) (G : Gh) (ops : Array Oper) (N c : Nat) (s : VS) (vl : Nat → PV) (S : Nat → Bool) (a : Act) (w : World) : Prop where
  inv : Inv cx G s.lh w
  old : ∀ t g v, lookL t s.loc = some (g, v) → GuardOn ops a.tmps g → Rep v G w (a.tmps.getD t undef)
  low : ∀ i, i < c → S i = true
  nobar : ∀ i, c ≤ i → S i = true → barB ops.toList (befores ops.toList) i = false
  env : ∀ t x, (∀ i o, S i = true → ops[i]? = some o → o.dst ≠ some t) → getN t s.env = some x → Rep x G w (a.tmps.getD t undef)
  val : ∀ i o t, c ≤ i → S i = true → ops[i]? = some o → o.dst = some t → GuardOn ops a.tmps o.guard → Rep (vl i) G w (a.tmps.getD t undef)
  chain : ∀ i o, S i = true → ops[i]? = some o → ∀ b, yielded ops a.tmps i = some b → GuardOn ops a.tmps o.guard
  down : ∀ i o e, S i = true → ops[i]? = some o → e ∈ o.after → Region.binds .any e = true → S e.on = true
  inb : ∀ i, S i = true → i < ops.size
  size : N ≤ a.tmps.size
  defers : a.defers = []
/-- A region whose order may be left open. -/
structure OFit (ops : Array Oper) (N : Nat) : Prop where
  fit : RegFit ops N
  opn : Opn ops.toList (befores ops.toList)
  gdst : ∀ (k : Nat) (o : Oper), ops[k]? = some o → ∀ j b, o.guard = some (j, b) → ∃ (q : Oper) (d : Tmp), ops[j]? = some q ∧ q.dst = some d
theorem guardsOk_dst {ops : List Oper} : ∀ {l : List Oper} {n : Nat}, guardsOk ops n l = true → ∀ (k : Nat) o, l[k]? = some o → ∀ j b, o.guard = some (j, b) → ∃ q d, ops[j]? = some q ∧ q.dst = some d
  | [], n, h, k, o, h1, j, b, hg => by simp at h1
  | p :: l, n, h, k, o, h1, j, b, hg => by
    unfold guardsOk at h
    rw [Bool.and_eq_true] at h
    cases k with
    | zero =>
      have : p = o := by simpa using h1
      subst this
      have h3 := h.1
      rw [hg] at h3
      rw [Bool.and_eq_true] at h3
      have h4 := h3.2
      split at h4
      · rename_i d hd
        obtain ⟨q, hq, hd⟩ := Option.bind_eq_some_iff.1 hd
        exact ⟨q, d, hq, hd⟩
      · cases h4
    | succ k => exact guardsOk_dst h.2 k o (by simpa using h1) j b hg
theorem oFit {ops : Array Oper} {N : Nat} (h : regOk N ops.toList = true) (ho : openOk ops.toList (befores ops.toList) = true) : OFit ops N := by
  refine ⟨regFit h, openOk_spec ho, fun k o hk j b hg => ?_⟩
  unfold regOk at h
  simp only [Bool.and_eq_true] at h
  rw [← Array.getElem?_toList] at hk
  obtain ⟨q, d, h1, h2⟩ := guardsOk_dst h.1.2 k o hk j b hg
  exact ⟨q, d, by rw [← Array.getElem?_toList]; exact h1, h2⟩
section
variable {ops : Array Oper} {N k c : Nat} {s s0 : VS} {a : Act} {vl : Nat → PV} {st : Nat → VS} {S : Nat → Bool} {X : Tbl} {T : Tabs}
theorem OFit.below (of : OFit ops N) (hd : ∀ i o e, S i = true → ops[i]? = some o → e ∈ o.after → Region.binds .any e = true → S e.on = true) : ∀ (i : Nat) (o : Oper) (j : Nat), ops[i]? = some o → (∀ e ∈ o.after, Region.binds .any e = true → S e.on = true) → inMask ((befores ops.toList).getD i 0) j = true → S j = true := by
  intro i
  induction i using Nat.strongRecOn with
  | _ i ih =>
    intro o j ho hok hm
    obtain ⟨e, he, hb, h⟩ := of.opn.bfs i o j (by rw [Array.getElem?_toList]; exact ho) hm
    have hs := hok e he hb
    rcases h with h | h
    · rw [← h]; exact hs
    · have hlt := of.opn.dn i o e (by rw [Array.getElem?_toList]; exact ho) he hb
      have hi : i < ops.size := (Array.getElem?_eq_some_iff.1 ho).1
      obtain ⟨o', ho'⟩ : ∃ o', ops[e.on]? = some o' := ⟨_, Array.getElem?_eq_getElem (by omega)⟩
      exact ih e.on hlt o' j ho' (fun e' he' hb' => hd e.on o' e' hs ho' he' hb') h
/-- What is read was laid, if it stands ahead; and is not laid again. -/
theorem DRel.reads (h : DRel cx G ops N c s vl S a w) (of : OFit ops N) {o : Oper} (ho : ops[k]? = some o) (hok : ∀ e ∈ o.after, Region.binds .any e = true → S e.on = true) {t : Tmp} (ht : t ∈ readsOf ops.toList o) :
    (∀ i q, i < k → ops[i]? = some q → q.dst = some t → S i = true) ∧ (S k = false → ∀ i q, S i = true → ops[i]? = some q → q.dst = some t → i < k) := by
  have ho' : ops.toList[k]? = some o := by rw [Array.getElem?_toList]; exact ho
  refine ⟨fun i q hi hq hd => ?_, fun hk i q hS hq hd => ?_⟩
  · have hq' : ops.toList[i]? = some q := by rw [Array.getElem?_toList]; exact hq
    rcases of.opn.ap i k q o hi hq' ho' with h1 | h1
    · exact of.below h.down k o i ho hok h1
    · exact absurd ht (apartB_left h1 hd).1
  · have hq' : ops.toList[i]? = some q := by rw [Array.getElem?_toList]; exact hq
    refine Classical.byContradiction fun hlt => ?_
    have hne : i ≠ k := fun e => by rw [e, hk] at hS; cases hS
    rcases of.opn.ap k i o q (by omega) ho' hq' with h1 | h1
    · have := of.below h.down i q k hq (fun e he hb => h.down i q e hS hq he hb) h1
      rw [hk] at this; cases this
    · exact absurd ht (apartB_right h1 hd)
/-- A guard's operation was carried out. -/
theorem DRel.guard (h : DRel cx G ops N c s vl S a w) (of : OFit ops N) {o : Oper} (ho : ops[k]? = some o) (hok : ∀ e ∈ o.after, Region.binds .any e = true → S e.on = true) : ∀ j b, o.guard = some (j, b) → S j = true := by
  intro j b hg
  obtain ⟨q, d, hq, hd⟩ := of.gdst k o ho j b hg
  exact (h.reads of ho hok (reads_guard hg (by rw [Array.getElem?_toList]; exact hq) hd)).1 j q (of.fit.guard k o ho j b hg) hq hd
theorem DRel.guard' (h : DRel cx G ops N c s vl S a w) (of : OFit ops N) {o : Oper} (ho : ops[k]? = some o) (hS : S k = true) : ∀ j b, o.guard = some (j, b) → S j = true :=
  h.guard of ho fun e he hb => h.down k o e hS ho he hb
theorem DRel.guardIn (h : DRel cx G ops N c s vl S a w) (of : OFit ops N) : ∀ (n : Nat) (g q : Option (Nat × Bool)), guardIn ops.toList n g q = true → (∀ i b, g = some (i, b) → S i = true) → GuardOn ops a.tmps g → GuardOn ops a.tmps q
  | 0, g, q, e, _, _ => by unfold Go.Vc.guardIn at e; cases e
  | n + 1, g, q, e, hk, hg => by
    unfold Go.Vc.guardIn at e
    split at e
    · trivial
    · rename_i j b
      split at e
      · cases e
      · rename_i i c
        rw [Bool.or_eq_true] at e
        rcases e with e | e
        · rw [Bool.and_eq_true] at e
          have h1 := Nat.eq_of_beq_eq_true e.1
          have h2 : c = b := by simpa using e.2
          subst h1; subst h2
          exact hg
        · have hik := hk i c rfl
          cases ho : ops[i]? with
          | none =>
            have : (ops.toList[i]?).bind (·.guard) = none := by rw [Array.getElem?_toList, ho]; rfl
            rw [this] at e
            cases n with
            | zero => unfold Go.Vc.guardIn at e; cases e
            | succ n => unfold Go.Vc.guardIn at e; cases e
          | some o =>
            have : (ops.toList[i]?).bind (·.guard) = o.guard := by rw [Array.getElem?_toList, ho]; rfl
            rw [this] at e
            exact h.guardIn of n o.guard _ e (fun i' b' hg' => h.guard' of ho hik i' b' hg') (h.chain i o hik ho c hg)
theorem DRel.operand (h : DRel cx G ops N c s vl S a w) (of : OFit ops N) (tc : Trc P X T ops.toList (befores ops.toList) s0 st vl) (hs : s = st c) (hck : c ≤ k) (hnb : ∀ i, c ≤ i → i < k → barB ops.toList (befores ops.toList) i = false) (hkn : k ≤ ops.size) {g : Option (Nat × Bool)} (hk : ∀ i b, g = some (i, b) → S i = true) (hg : GuardOn ops a.tmps g) (x : Operand)
    (hx : ∀ t, x = .tmp t → (∀ i q, i < k → ops[i]? = some q → q.dst = some t → S i = true) ∧ ∀ i q, S i = true → ops[i]? = some q → q.dst = some t → i < k) : Rep (operandV ops.toList g (st k) x) G w (a.eval x) := by
  cases x with
  | tmp t =>
    obtain ⟨l1, l2, l3⟩ := tc.near k hck (by simpa using hkn) hnb
    have l4 := (tc.far k (by simpa using hkn)).2
    rw [← hs] at l1 l2 l3
    obtain ⟨x1, x2⟩ := hx t rfl
    unfold operandV
    dsimp only
    cases hl : lookL t (st k).loc with
    | none =>
      dsimp only
      rw [l1]
      cases he : getN t s.env with
      | none => trivial
      | some x => exact h.env t x (fun i o hS ho hd => l4 t hl i o (x2 i o hS ho hd) (by rw [Array.getElem?_toList]; exact ho) hd) he
    | some p =>
      obtain ⟨q, v⟩ := p
      dsimp only
      cases hgi : Go.Vc.guardIn ops.toList 9 g q with
      | false => trivial
      | true =>
        rcases l3 t q v hl with ⟨i, o, g0, g1, g2, rfl, g4, rfl⟩ | hl
        · rw [Array.getElem?_toList] at g2
          exact h.val i o t g0 (x1 i o g1 g2 g4) g2 g4 (h.guardIn of 9 g _ hgi hk hg)
        · exact h.old t q v hl (h.guardIn of 9 g _ hgi hk hg)
  | const v => exact ofValue_ok v
  | global g => exact rfl
  | func f => exact ⟨[], [], rfl, rfl, rfl⟩
theorem DRel.operands (h : DRel cx G ops N c s vl S a w) (of : OFit ops N) (tc : Trc P X T ops.toList (befores ops.toList) s0 st vl) (hs : s = st c) (hck : c ≤ k) (hnb : ∀ i, c ≤ i → i < k → barB ops.toList (befores ops.toList) i = false) (hkn : k ≤ ops.size) {g : Option (Nat × Bool)} (hk : ∀ i b, g = some (i, b) → S i = true) (hg : GuardOn ops a.tmps g) : ∀ xs : List Operand,
    (∀ t, Operand.tmp t ∈ xs → (∀ i q, i < k → ops[i]? = some q → q.dst = some t → S i = true) ∧ ∀ i q, S i = true → ops[i]? = some q → q.dst = some t → i < k) → RepL' (xs.map (operandV ops.toList g (st k))) G w (xs.map a.eval)
  | [], _ => rfl
  | x :: xs, hx => ⟨_, _, rfl, h.operand of tc hs hck hnb hkn hk hg x (fun t e => hx t (by rw [e]; exact List.mem_cons_self ..)), h.operands of tc hs hck hnb hkn hk hg xs fun t ht => hx t (List.mem_cons_of_mem _ ht)⟩
theorem DRel.underG (h : DRel cx G ops N c s vl S a w) (of : OFit ops N) (tc : Trc P X T ops.toList (befores ops.toList) s0 st vl) (hs : s = st c) (hck : c ≤ k) (hnb : ∀ i, c ≤ i → i < k → barB ops.toList (befores ops.toList) i = false) (hkn : k ≤ ops.size) : ∀ (n : Nat) (g : Option (Nat × Bool)) (p : Prop), underG ops.toList (st k) n g p → (∀ i b, g = some (i, b) → S i = true) → GuardOn ops a.tmps g → p
  | 0, g, p, hu, _, _ => by unfold Go.Vc.underG at hu; exact hu.elim
  | n + 1, g, p, hu, hk, hg => by
    unfold Go.Vc.underG at hu
    split at hu
    · exact hu
    · rename_i j wv
      split at hu
      · exact hu.elim
      · rename_i o ho
        have ho' : ops[j]? = some o := by rw [← Array.getElem?_toList]; exact ho
        split at hu
        · rename_i x g' b hl
          rw [Option.bind_eq_some_iff] at hl
          obtain ⟨t, ht, hl⟩ := hl
          have hjS := hk j wv rfl
          obtain ⟨i, q, hi, hq, hg1, hd1⟩ := (tc.far k (by simpa using hkn)).1 t g' (.bool b) hl
          rw [Array.getElem?_toList] at hq
          have hij : i = j := Classical.byContradiction fun hne => of.fit.apart i j q o t hq ho' hne hd1 ht
          subst hij
          rw [ho'] at hq; injection hq with hq; subst hq
          have hgo := h.chain i o hjS ho' wv hg
          have hrep : Rep (.bool b) G w (a.tmps.getD t undef) := by
            rcases (tc.near k hck (by simpa using hkn) hnb).2.2 t g' (.bool b) hl with ⟨i', o', g0, g1, g2, g3, g4, g5⟩ | hl
            · rw [Array.getElem?_toList] at g2
              have : i' = i := Classical.byContradiction fun hne => of.fit.apart i' i o' o t g2 ho' hne g4 ht
              subst this
              rw [g5]
              exact h.val i' o t g0 hjS ho' ht hgo
            · exact h.old t g' _ (by rw [hs]; exact hl) (by rw [← hg1]; exact hgo)
          have hbw : b = wv := by
            have hy : yielded ops a.tmps i = some wv := hg
            unfold yielded at hy
            rw [ho'] at hy
            simp only [Option.bind_some, ht] at hy
            have hlt : t < a.tmps.size := Nat.lt_of_lt_of_le (of.fit.lt _ o t ho' ht) h.size
            have e : a.tmps[t]? = some (.bool b) := by
              have : a.tmps.getD t undef = .bool b := hrep
              rw [Array.getD, dif_pos hlt] at this
              rw [Array.getElem?_eq_getElem hlt]
              exact congrArg some this
            rw [e] at hy
            injection hy
          have := h.underG of tc hs hck hnb hkn n o.guard _ hu (fun i' b' hg' => h.guard' of ho' hjS i' b' hg') hgo
          subst hbw
          cases b with
          | true => exact this rfl
          | false => exact this rfl
        · exact hu.elim
/-- What an operation is given. -/
theorem DRel.does (h : DRel cx G ops N c s vl S a w) (hX : XOk P T X) (hm : cx.m ≤ 32) (hT : TabC T cx) (of : OFit ops N) (tc : Trc P X T ops.toList (befores ops.toList) s0 st vl) (hs : s = st c) (hck : c ≤ k) (hnb : ∀ i, c ≤ i → i < k → barB ops.toList (befores ops.toList) i = false) {o : Oper} (ho : ops[k]? = some o) (hno : S k = false) (hok : ∀ e ∈ o.after, Region.binds .any e = true → S e.on = true) (hg : GuardOn ops a.tmps o.guard) {v : PV} {f : Option (PV → PV)} {lh' : List (Nat × PV)}
    (he : (evOpD P X T o (operandsV ops.toList o (st k)) s.lh).Is v f s.lh lh') : Does P cx G w o a v f lh' := by
  have hk : ∀ i b, o.guard = some (i, b) → S i = true := h.guard of ho hok
  have hkn : k ≤ ops.size := Nat.le_of_lt (Array.getElem?_eq_some_iff.1 ho).1
  have hx : ∀ t, Operand.tmp t ∈ o.op.operands.toList → (∀ i q, i < k → ops[i]? = some q → q.dst = some t → S i = true) ∧ ∀ i q, S i = true → ops[i]? = some q → q.dst = some t → i < k := fun t ht => by
    obtain ⟨r1, r2⟩ := h.reads of ho hok (reads_operand (ops := ops.toList) ht)
    exact ⟨r1, r2 hno⟩
  by_cases hp : ∃ c x y, o.op = .pick c x y
  · obtain ⟨c, x, y, hop⟩ := hp
    have hops : o.op.operands.toList = [c, x, y] := by rw [hop]; rfl
    rw [hops] at hx
    have hxc : ∀ z ∈ [c, x, y], ∀ t, z = .tmp t → (∀ i q, i < k → ops[i]? = some q → q.dst = some t → S i = true) ∧ ∀ i q, S i = true → ops[i]? = some q → q.dst = some t → i < k := fun z hz t e => hx t (by rw [← e]; exact hz)
    have oc := h.operand of tc hs hck hnb hkn hk hg c (hxc c (by simp))
    have ev0 : ∀ xs, evOpD P X T o xs s.lh = evOp P X T o xs s.lh := fun xs => by unfold evOpD; rw [hop]
    have fin : ∀ (b : Bool) (p q : PV), evOpD P X T o [.bool b, p, q] s.lh = .val (pickV b p q) → a.eval c = .bool b → (b = true → Rep p G w (a.eval x)) → (b = false → Rep q G w (a.eval y)) → (evOpD P X T o [.bool b, p, q] s.lh).Is v f s.lh lh' → Does P cx G w o a v f lh' := by
      intro b p q hev hcb h1 h2 hI
      rw [hev] at hI
      obtain ⟨rfl, rfl, rfl⟩ := hI
      refine .pure h.inv (u := if b = true then a.eval x else a.eval y) ?_ (pick_ok h1 h2)
      unfold execOp
      rw [hop]
      dsimp only
      rw [hcb]
      cases b <;> rfl
    have ev : ∀ b p q, evOpD P X T o [.bool b, p, q] s.lh = .val (pickV b p q) := by
      intro b p q
      rw [ev0]
      unfold evOp evOp0
      rw [hop]
      rfl
    have evn : ∀ z p q, (∀ b, z ≠ PV.bool b) → ¬ (evOpD P X T o [z, p, q] s.lh).Is v f s.lh lh' := by
      intro z p q hz hI
      rw [ev0] at hI
      replace hI := calm_is hI
      unfold evOp0 at hI
      rw [hop] at hI
      dsimp only at hI
      cases z <;> first | exact hz _ rfl | exact hI
    unfold operandsV at he
    rw [hop] at he
    dsimp only at he
    cases hpg : pickGuard ops.toList (st k) c with
    | none =>
      rw [hpg] at he
      dsimp only at he
      replace he : (evOpD P X T o [operandV ops.toList o.guard (st k) c, operandV ops.toList o.guard (st k) x, operandV ops.toList o.guard (st k) y] s.lh).Is v f s.lh lh' := he
      generalize hz : operandV ops.toList o.guard (st k) c = z at he oc
      cases z with
      | bool b => exact fin b _ _ (ev b _ _) oc (fun _ => h.operand of tc hs hck hnb hkn hk hg x (hxc x (by simp))) (fun _ => h.operand of tc hs hck hnb hkn hk hg y (hxc y (by simp))) he
      | _ => exact absurd he (evn _ _ _ (fun b e => by cases e))
    | some j =>
      rw [hpg] at he
      dsimp only at he
      generalize hz : operandV ops.toList o.guard (st k) c = z at he oc
      cases z with
      | bool b =>
        have hcb : a.eval c = .bool b := oc
        unfold pickGuard at hpg
        split at hpg
        · rename_i t
          split at hpg
          · rename_i q hl
            obtain ⟨i, o', hi, ho', hg1, hd1⟩ := (tc.far k (by simpa using hkn)).1 t q.1 q.2 hl
            rw [Array.getElem?_toList] at ho'
            have hj := List.findIdx?_eq_some_iff_getElem.1 hpg
            obtain ⟨hjl, hj2, -⟩ := hj
            have hjo : ops[j]? = some (ops.toList[j]) := by rw [← Array.getElem?_toList]; exact List.getElem?_eq_getElem hjl
            have hjd : (ops.toList[j]).dst = some t := by
              cases hd : (ops.toList[j]).dst with
              | none => rw [hd] at hj2; cases hj2
              | some d => rw [hd] at hj2; rw [Nat.eq_of_beq_eq_true hj2]
            have hij : i = j := Classical.byContradiction fun hne => of.fit.apart i j o' _ t ho' hjo hne hd1 hjd
            subst hij
            have hS : S i = true := (hxc _ (by simp) t rfl).1 i _ hi hjo hjd
            have hlt : t < a.tmps.size := Nat.lt_of_lt_of_le (of.fit.lt _ _ t hjo hjd) h.size
            have hy : yielded ops a.tmps i = some b := by
              unfold yielded
              rw [hjo]
              simp only [Option.bind_some, hjd]
              have e : a.tmps[t]? = some (.bool b) := by
                have : a.tmps.getD t undef = .bool b := hcb
                rw [Array.getD, dif_pos hlt] at this
                rw [Array.getElem?_eq_getElem hlt]
                exact congrArg some this
              rw [e]
            refine fin b _ _ (ev b _ _) hcb (fun hb => ?_) (fun hb => ?_) he
            · subst hb
              exact h.operand of tc hs hck hnb hkn (g := some (i, true)) (fun i' b' e => by injection e with e; injection e with e1 e2; rw [← e1]; exact hS) hy x (hxc x (by simp))
            · subst hb
              exact h.operand of tc hs hck hnb hkn (g := some (i, false)) (fun i' b' e => by injection e with e; injection e with e1 e2; rw [← e1]; exact hS) hy y (hxc y (by simp))
          · cases hpg
        · cases hpg
      | _ => exact absurd he (evn _ _ _ (fun b e => by cases e))
  · have hnp : ∀ c x y, o.op ≠ .pick c x y := fun c x y e => hp ⟨c, x, y, e⟩
    have : operandsV ops.toList o (st k) = o.op.operands.toList.map (operandV ops.toList o.guard (st k)) := by
      unfold operandsV
      split
      · rename_i c x y e
        exact absurd e (hnp c x y)
      · rfl
    rw [this] at he
    exact evOpD_ok hX h.inv hm hT hnp (h.operands of tc hs hck hnb hkn hk hg _ hx) he
/-- One operation more is carried out, or left out. -/
theorem DRel.push (h : DRel cx G ops N c s vl S a w) (of : OFit ops N) {o : Oper} (ho : ops[k]? = some o) (hno : S k = false) (hok : ∀ e ∈ o.after, Region.binds .any e = true → S e.on = true) {G' : Gh} {w' : World} (tr : Turns cx G w none s.lh G' w') {u : Value}
    (hv : GuardOn ops a.tmps o.guard → Rep (vl k) G' w' u) (hb : ¬ GuardOn ops a.tmps o.guard → u = undef) (hck : c ≤ k) (hbk : barB ops.toList (befores ops.toList) k = false) (hold : ∀ t g v, lookL t s.loc = some (g, v) → ∃ i q, i < c ∧ ops[i]? = some q ∧ q.guard = g ∧ q.dst = some t) : DRel cx G' ops N c s vl (addS S k) (a.put o.dst u) w' := by
  have inA : ∀ {i}, addS S k i = true → i = k ∨ (i ≠ k ∧ S i = true) := fun {i} hi => by
    by_cases e : i = k
    · exact .inl e
    · rw [addS_of e] at hi; exact .inr ⟨e, hi⟩
  have gon : ∀ {i : Nat} {q : Oper}, ops[i]? = some q → (i = k ∨ S i = true) → (GuardOn ops (a.put o.dst u).tmps q.guard ↔ GuardOn ops a.tmps q.guard) := by
    intro i q hq hi
    unfold GuardOn
    cases hg : q.guard with
    | none => exact Iff.rfl
    | some p =>
      obtain ⟨j, b⟩ := p
      have hjk : j ≠ k := by
        rcases hi with hi | hi
        · subst hi
          have := of.fit.guard i q hq j b hg
          omega
        · intro e
          have := h.guard' of hq hi j b hg
          rw [e, hno] at this; cases this
      dsimp only
      rw [yielded_put (o := o) fun q' t hq' ht e => of.fit.apart k j o q' t ho hq' (fun e => hjk e.symm) e ht]
  refine ⟨tr.inv, fun t g v hl hg => ?_, (fun i hi => by unfold addS; rw [h.low i hi]; rfl), (fun i hi hS => by
    rcases inA hS with rfl | ⟨-, hS⟩
    · exact hbk
    · exact h.nobar i hi hS), fun t x hn he => ?_, fun i q t hci hi hq hd hg => ?_, fun i q hi hq b hy => ?_, fun i q e hi hq he hbi => ?_, fun i hi => ?_, by rw [put_size]; exact h.size, by rw [put_defers]; exact h.defers⟩
  · obtain ⟨i, q, g1, g2, rfl, g4⟩ := hold t g v hl
    rw [put_getD (fun e => of.fit.apart k i o q t ho g2 (by omega) e g4)]
    exact tr.rep _ _ (h.old t _ v hl ((gon g2 (.inr (h.low i g1))).1 hg))
  · rw [put_getD (hn k o addS_self ho)]
    refine tr.rep _ _ (h.env t x (fun i q hi hq => hn i q ?_ hq) he)
    unfold addS; rw [hi]; rfl
  · rcases inA hi with rfl | ⟨hne, hS⟩
    · rw [ho] at hq; injection hq with hq; subst hq
      have hlt : t < a.tmps.size := Nat.lt_of_lt_of_le (of.fit.lt i o t ho hd) h.size
      rw [hd, put_same hlt]
      exact hv ((gon ho (.inl rfl)).1 hg)
    · rw [put_getD (fun e => of.fit.apart k i o q t ho hq (fun e => hne e.symm) e hd)]
      exact tr.rep _ _ (h.val i q t hci hS hq hd ((gon hq (.inr hS)).1 hg))
  · rcases inA hi with rfl | ⟨hne, hS⟩
    · rw [ho] at hq; injection hq with hq; subst hq
      rw [gon ho (.inl rfl)]
      refine Classical.byContradiction fun hng => ?_
      have hu := hb hng
      subst hu
      unfold yielded at hy
      rw [ho] at hy
      simp only [Option.bind_some] at hy
      cases hd : o.dst with
      | none => rw [hd] at hy; cases hy
      | some d =>
        rw [hd] at hy
        simp only [Option.bind_some] at hy
        have hlt : d < a.tmps.size := Nat.lt_of_lt_of_le (of.fit.lt _ o d ho hd) h.size
        replace hy : (match (a.tmps.setIfInBounds d undef)[d]? with | some (.bool b) => some b | _ => none) = some b := hy
        rw [Array.getElem?_setIfInBounds, if_pos rfl, if_pos hlt] at hy
        cases hy
    · rw [yielded_put (o := o) fun q' t hq' ht e => of.fit.apart k i o q' t ho hq' (fun e => hne e.symm) e ht] at hy
      exact (gon hq (.inr hS)).2 (h.chain i q hS hq b hy)
  · rcases inA hi with rfl | ⟨hne, hS⟩
    · rw [ho] at hq; injection hq with hq; subst hq
      have := hok e he hbi
      unfold addS; rw [this]; rfl
    · have := h.down i q e hS hq he hbi
      unfold addS; rw [this]; rfl
  · rcases inA hi with rfl | ⟨hne, hS⟩
    · exact (Array.getElem?_eq_some_iff.1 ho).1
    · exact h.inb i hS
/-- All up to a place are carried out, and no other. -/
theorem DRel.all (h : DRel cx G ops N c s vl S a w) (tc : Trc P X T ops.toList (befores ops.toList) s0 st vl) (hs : s = st c) (hck : c ≤ k) (hkn : k ≤ ops.size) (hall : ∀ i, i < k → S i = true) (hno : ∀ i, S i = true → i < k) : LRel cx G ops N k (st k) a w := by
  obtain ⟨l1, l2, l3⟩ := tc.near k hck (by simpa using hkn) (fun i h1 h2 => h.nobar i h1 (hall i h2))
  obtain ⟨l4, l5⟩ := tc.far k (by simpa using hkn)
  refine ⟨by rw [l2, ← hs]; exact h.inv, fun t x hl he => ?_, fun t g v hl => ?_, fun i o hi ho => h.chain i o (hall i hi) ho, h.size, h.defers⟩
  · rw [l1, ← hs] at he
    exact h.env t x (fun i o hS ho hd => l5 t hl i o (hno i hS) (by rw [Array.getElem?_toList]; exact ho) hd) he
  · obtain ⟨i, o, g1, g2, g3, g4⟩ := l4 t g v hl
    rw [Array.getElem?_toList] at g2
    refine ⟨fun hg => ?_, i, o, g1, g2, g3, g4⟩
    rcases l3 t g v hl with ⟨i, o, g0, g1, g2, rfl, g4, rfl⟩ | hl
    · rw [Array.getElem?_toList] at g2
      exact h.val i o t g0 (hall i g1) g2 g4 hg
    · exact h.old t g v (by rw [hs]; exact hl) hg
/-- A stretch begins. -/
theorem DRel.start (h : LRel cx G ops N c (st c) a w) (tc : Trc P X T ops.toList (befores ops.toList) s0 st vl) (of : OFit ops N) (hcn : c ≤ ops.size) (hS : ∀ i, S i = true ↔ i < c) : DRel cx G ops N c (st c) vl S a w :=
  ⟨h.inv, fun t g v hl hg => (h.loc t g v hl).1 hg, fun i hi => (hS i).2 hi, fun i hi hs => by have := (hS i).1 hs; omega, fun t x hn he => by
      cases hl : lookL t (st c).loc with
      | none => exact h.env t x hl he
      | some p =>
        obtain ⟨g, v⟩ := p
        obtain ⟨-, i, o, h1, h2, -, h4⟩ := h.loc t g v hl
        exact absurd h4 (hn i o ((hS i).2 h1) h2),
    fun i o t hi hs => by have := (hS i).1 hs; omega, fun i o hs ho => h.chain i o ((hS i).1 hs) ho, fun i o e hs ho he hb => (hS _).2 (by have := of.opn.dn i o e (by rw [Array.getElem?_toList]; exact ho) he hb; have := (hS i).1 hs; omega), fun i hs => by have := (hS i).1 hs; omega, h.size, h.defers⟩
theorem bar_all {ops : List Oper} {bf : List Nat} {i : Nat} (h : barB ops bf i = true) : (∀ j, j < ops.length → j < i → inMask (bf.getD i 0) j = true) ∧ ∀ j, j < ops.length → i < j → inMask (bf.getD j 0) i = true := by
  unfold barB at h
  refine ⟨fun j hj hji => ?_, fun j hj hij => ?_⟩
  · have := List.all_eq_true.1 h j (List.mem_range.2 hj)
    rw [Bool.or_eq_true] at this
    rcases this with h1 | h1
    · have := Nat.eq_of_beq_eq_true h1; omega
    · rw [show Nat.blt j i = true by simpa using hji] at h1; exact h1
  · have := List.all_eq_true.1 h j (List.mem_range.2 hj)
    rw [Bool.or_eq_true] at this
    rcases this with h1 | h1
    · have := Nat.eq_of_beq_eq_true h1; omega
    · rw [show Nat.blt j i = false by rw [Bool.eq_false_iff]; intro hh; have : j < i := by simpa using hh
                                      omega] at h1; exact h1
theorem rdy_of {listed : Array Bool} (hsz : listed.size = ops.size) {i : Nat} (h : i ∈ Region.ready .any ops listed) : i < listed.size ∧ ofL listed i = false ∧ ∃ o, ops[i]? = some o ∧ ∀ e ∈ o.after, Region.binds .any e = true → ofL listed e.on = true := by
  obtain ⟨h1, o, h2, h3⟩ := mem_ready.1 h
  have hlt : i < listed.size := by rw [hsz]; exact (Array.getElem?_eq_some_iff.1 h2).1
  refine ⟨hlt, ?_, o, h2, h3⟩
  simp [Array.getD, hlt] at h1 ⊢
  exact h1
theorem all_of (of : OFit ops N) {listed : Array Bool} (hsz : listed.size = ops.size) (h : Region.ready .any ops listed = []) : ∀ j, j < ops.size → ofL listed j = true := by
  intro j
  induction j using Nat.strongRecOn with
  | _ j ih =>
    intro hj
    cases hs : ofL listed j with
    | true => rfl
    | false =>
      obtain ⟨o, ho⟩ : ∃ o, ops[j]? = some o := ⟨_, Array.getElem?_eq_getElem hj⟩
      have : j ∈ Region.ready .any ops listed := by
        refine mem_ready.2 ⟨?_, o, ho, fun e he hb => ?_⟩
        · have hlt : j < listed.size := by omega
          simp [ofL, Array.getD, hlt] at hs ⊢
          exact hs
        · have := of.opn.dn j o e (by rw [Array.getElem?_toList]; exact ho) he hb
          exact ih e.on this (by omega)
      rw [h] at this
      cases this
/-- One that stands apart is carried out. -/
theorem bar_step (hX : XOk P T X) (hm : cx.m ≤ 32) (hT : TabC T cx) (hr : RegFit ops N) {s : VS} (h : LRel cx G ops N k s a w) {o : Oper} (ho : ops[k]? = some o) {v : PV} {f : Option (PV → PV)} {lh : List (Nat × PV)} (hb : BarOk P X T ops.toList o s v f lh) {Q : Exit → Act → World → Prop} {K : Act → World → Prop}
    (hK : ∀ G' w' u, LRel cx G' ops N (k + 1) (pushL o v (s.turn f lh)) (a.put o.dst u) w' → K (a.put o.dst u) w') : wpOp P ops Q k K a w := by
  unfold wpOp
  rw [ho]
  dsimp only
  by_cases hg : GuardOn ops a.tmps o.guard
  · rw [if_pos ((wanted_iff ops a.tmps o).2 hg)]
    left
    have hI : (evOp P X T o (operandsV ops.toList o s) s.lh).Is v f s.lh lh := by
      rcases hb with ⟨-, h1⟩ | ⟨rfl, rfl, h1 | ⟨p, h1, h2⟩⟩
      · exact h1
      · rw [h1]; exact ⟨rfl, rfl, rfl⟩
      · rw [h1]
        refine ⟨?_, rfl, rfl, rfl⟩
        cases hgd : o.guard with
        | none => rw [hgd] at h2; exact h2
        | some g =>
          rw [hgd] at h2 hg
          exact underG_ok h hr 9 (some g) p h2 (by rw [← hgd]; exact hr.guard k o ho) hg
    exact h.does hX hm hT hr ho hg hI _ _ fun G' w' u tr hv => hK G' w' u (h.push hr ho tr (fun _ => hv) (fun hng => absurd hg hng))
  · rw [if_neg (by rw [wanted_iff]; exact hg)]
    rcases hb with ⟨h1, -⟩ | ⟨rfl, rfl, -⟩
    · rw [h1] at hg; exact absurd trivial hg
    · exact hK G w undef (h.push hr ho (.refl h.inv) (fun h => absurd h hg) (fun _ => rfl))
/-- Whatever order is picked. -/
theorem DRel.any (hX : XOk P T X) (hm : cx.m ≤ 32) (hT : TabC T cx) (of : OFit ops N) (tc : Trc P X T ops.toList (befores ops.toList) s0 st vl) {Q : Exit → Act → World → Prop} (hQ : ∀ G a w, LRel cx G ops N ops.size (st ops.size) a w → Q .normal a w) :
    ∀ (fuel c : Nat) (listed : Array Bool) (G : Gh) (a : Act) (w : World), c ≤ ops.size → listed.size = ops.size → cntS (ofL listed) ops.size ≤ fuel → DRel cx G ops N c (st c) vl (ofL listed) a w → wpAny P .any ops Q fuel listed a w
  | 0, c, listed, G, a, w, hcn, hsz, hc, iv => by
    have hall := cntS_zero (show cntS (ofL listed) ops.size = 0 by omega)
    refine ⟨?_, hQ G a w (iv.all tc rfl hcn (Nat.le_refl _) hall iv.inb)⟩
    cases hr : Region.ready .any ops listed with
    | nil => rfl
    | cons i rs =>
      obtain ⟨h1, h2, -⟩ := rdy_of hsz (show i ∈ Region.ready .any ops listed by rw [hr]; exact List.mem_cons_self ..)
      have := hall i (by omega)
      rw [h2] at this; cases this
  | fuel + 1, c, listed, G, a, w, hcn, hsz, hc, iv => by
    refine ⟨fun h => hQ G a w (iv.all tc rfl hcn (Nat.le_refl _) (all_of of hsz h) iv.inb), fun i hi => ?_⟩
    obtain ⟨h1, hno, o, ho, hok⟩ := rdy_of hsz hi
    have hin : i < ops.size := by omega
    have next : ∀ c' G' w' u, c' ≤ ops.size → DRel cx G' ops N c' (st c') vl (addS (ofL listed) i) (a.put o.dst u) w' → wpAny P .any ops Q fuel (listed.setIfInBounds i true) (a.put o.dst u) w' := fun c' G' w' u hc' iv' => by
      rw [← ofL_set h1] at iv'
      refine DRel.any hX hm hT of tc hQ fuel c' _ G' _ w' hc' (by simpa using hsz) ?_ iv'
      rw [ofL_set h1]
      have := cntS_add hno ops.size
      rw [if_pos (by omega)] at this
      omega
    have hci : c ≤ i := by
      refine Classical.byContradiction fun h => ?_
      have := iv.low i (by omega)
      rw [hno] at this; cases this
    obtain ⟨f, lh, hL⟩ := tc.step i o (by rw [Array.getElem?_toList]; exact ho)
    have hnb : ∀ b, c ≤ b → b < i → barB ops.toList (befores ops.toList) b = false := fun b h2 h3 => by
      cases hbb : barB ops.toList (befores ops.toList) b with
      | false => rfl
      | true =>
        have hm := (bar_all hbb).2 i (by simpa using hin) h3
        have := iv.nobar b h2 (of.below iv.down i o b ho hok hm)
        rw [hbb] at this; cases this
    rcases hL with ⟨hb, e, hB⟩ | ⟨hb, e, hst⟩
    · have low : ∀ j, j < i → ofL listed j = true := fun j hj => of.below iv.down i o j ho hok ((bar_all hb).1 j (by simp; omega) hj)
      have up : ∀ j, ofL listed j = true → j < i := fun j hj => by
        refine Classical.byContradiction fun h => ?_
        by_cases hji : j = i
        · rw [hji, hno] at hj; cases hj
        · have hjn := iv.inb j hj
          obtain ⟨q, hq⟩ : ∃ q, ops[j]? = some q := ⟨_, Array.getElem?_eq_getElem hjn⟩
          have hm := (bar_all hb).2 j (by simpa using hjn) (by omega)
          have := of.below iv.down j q i hq (fun e he hbi => iv.down j q e hj hq he hbi) hm
          rw [hno] at this; cases this
      have hl := iv.all (k := i) tc rfl hci (by omega) low up
      refine bar_step hX hm hT of.fit hl ho hB fun G' w' u hl' => next (i + 1) G' w' u (by omega) ?_
      rw [← e] at hl'
      refine DRel.start hl' tc of (by omega) fun j => ?_
      unfold addS
      rw [Bool.or_eq_true, decide_eq_true_iff]
      exact ⟨fun h => h.elim (fun h => by have := up j h; omega) (fun h => by omega), fun h => by
        by_cases hj : j = i
        · exact .inr hj
        · exact .inl (low j (by omega))⟩
    · have hold : ∀ t g v, lookL t (st c).loc = some (g, v) → ∃ i q, i < c ∧ ops[i]? = some q ∧ q.guard = g ∧ q.dst = some t := fun t g v hl => by
        obtain ⟨i, q, g1, g2, g3, g4⟩ := (tc.far c (by simpa using hcn)).1 t g v hl
        rw [Array.getElem?_toList] at g2
        exact ⟨i, q, g1, g2, g3, g4⟩
      unfold wpOp
      rw [ho]
      dsimp only
      have hlh : (st i).lh = (st c).lh := (tc.near i hci (by simp; omega) hnb).2.1
      by_cases hg : GuardOn ops a.tmps o.guard
      · rw [if_pos ((wanted_iff ops a.tmps o).2 hg)]
        left
        have hI : (evOpD P X T o (operandsV ops.toList o (st i)) (st c).lh).Is (vl i) none (st c).lh (st c).lh := by
          unfold StepOk at hst
          rw [hlh] at hst
          rcases hst with hst | ⟨p, hst, hp⟩
          · rw [hst]; exact ⟨rfl, rfl, rfl⟩
          · rw [hst]
            refine ⟨?_, rfl, rfl, rfl⟩
            cases hgd : o.guard with
            | none => rw [hgd] at hp; exact hp
            | some g =>
              rw [hgd] at hp hg
              exact iv.underG of tc rfl hci hnb (by omega) 9 (some g) p hp (fun j b e => iv.guard of ho hok j b (by rw [hgd]; exact e)) hg
        exact iv.does hX hm hT of tc rfl hci hnb ho hno hok hg hI _ _ fun G' w' u tr hv => next c G' w' u hcn (iv.push of ho hno hok tr (fun _ => hv) (fun hng => absurd hg hng) hci hb hold)
      · rw [if_neg (by rw [wanted_iff]; exact hg)]
        exact next c G w undef hcn (iv.push of ho hno hok (.refl iv.inv) (fun h => absurd h hg) (fun _ => rfl) hci hb hold)
/-- A region whose order is left open. -/
theorem evD_ok (hmix : P.follows .mixedOrders = true) (hX : XOk P T X) (hm : cx.m ≤ 32) (hT : TabC T cx) (of : OFit ops N) {K : VS → Prop} {Q : Exit → Act → World → Prop} (hQ : ∀ G s a w, LRel cx G ops N ops.size s a w → K s → Q .normal a w) (hl : s.loc = []) (h : LRel cx G ops N 0 s a w) (he : evD P X T ops.toList (befores ops.toList) ops.toList 0 s K) (id : Nat) : (Code.region id ops true).wp P Q a w := by
  obtain ⟨st, vl, h1, h2, h3⟩ := evD_trace _ _ _ he
  have tc : Trc P X T ops.toList (befores ops.toList) s st vl := ⟨hl, h1, fun j o ho => by
    obtain ⟨f, lh, hL⟩ := h2 j o ho
    rw [Nat.zero_add] at hL
    exact ⟨f, lh, hL⟩⟩
  refine wp_region_any hmix ?_
  obtain ⟨i1, i2⟩ := h.inv.drew
  have hd : LRel cx G ops N 0 (st 0) a w.drew := by
    rw [h1]
    exact ⟨i1, fun t x g e => i2 _ _ (h.env t x g e), (fun t g v hlk => by rw [hl] at hlk; cases hlk), (fun i o hi => by omega), h.size, h.defers⟩
  have hnone : ofL (Array.replicate ops.size false) = fun _ => false := by
    funext j; unfold ofL
    by_cases h : j < ops.size <;> simp [Array.getD, h]
  refine DRel.any hX hm hT of tc (fun G a w hr => hQ G _ a w hr (by simpa using h3)) ops.size 0 (Array.replicate ops.size false) G a w.drew (Nat.zero_le _) (by simp) ?_ ?_
  · rw [hnone, cntS_none]; exact Nat.le_refl _
  · rw [hnone]; exact .start hd tc of (Nat.zero_le _) (fun i => by simp)
end
end Go.Vc

