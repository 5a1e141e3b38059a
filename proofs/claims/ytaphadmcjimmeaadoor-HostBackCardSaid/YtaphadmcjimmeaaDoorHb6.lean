import Derived.IntWalk
import Derived.Test.YtaphadmcjimmeaaDoorHb5
set_option linter.unusedVariables false
set_option linter.unusedSectionVars false
set_option linter.unusedSimpArgs false
namespace Go.Vc
open Go.RowKit
section
section
variable [Wd] {P : Program}
def evN (P : Program) (X : Tbl) (T : Tabs) (ops : List Oper) : Nat → List Bool → VS → (VS → Prop) → Prop
  | 0, _, _, _ => False
  | n + 1, S, s, k => match rdyL ops S with
    | [] => k s
    | r => allA r fun i => stepA P X T ops i s fun s => evN P X T ops n (S.set i true) s k
def Bare (x : PV) : Prop := PV.allL PV.tok1 x = []
def KeepsB (f : Option (PV → PV)) : Prop := ∀ g, f = some g → ∀ y : PV, y.leaf = true → y.tok1 = [] → g y = y
mutual
theorem mapL_bare {g : PV → PV} (h : ∀ y : PV, y.leaf = true → y.tok1 = [] → g y = y) : ∀ {x : PV}, PV.allL PV.tok1 x = [] → x.mapL g = x
  | .agg l, h1 => by simp only [PV.mapL]; rw [mapLs_bare h h1]
  | .tup l, h1 => by simp only [PV.mapL]; rw [mapLs_bare h h1]
  | .fn q a b, h1 => by
    obtain ⟨p1, p2⟩ := append_nil2 h1
    simp only [PV.mapL]
    rw [mapLs_bare h p1, mapLs_bare h p2]
  | .undef, h1 => h _ rfl h1
  | .int k z, h1 => h _ rfl h1
  | .bool b, h1 => h _ rfl h1
  | .str l, h1 => h _ rfl h1
  | .raw u, h1 => h _ rfl h1
  | .arr n r, h1 => h _ rfl h1
  | .row nl r t, h1 => h _ rfl h1
  | .vec nl sz l t, h1 => h _ rfl h1
  | .ep r t i, h1 => h _ rfl h1
  | .epv sz l t i off, h1 => h _ rfl h1
  | .ptr n off, h1 => h _ rfl h1
  | .pix n off i, h1 => h _ rfl h1
  | .asl n off lo len, h1 => h _ rfl h1
  | .gp g off, h1 => h _ rfl h1
  | .gix g off i, h1 => h _ rfl h1
theorem mapLs_bare {g : PV → PV} (h : ∀ y : PV, y.leaf = true → y.tok1 = [] → g y = y) : ∀ {l : List PV}, PV.allLs PV.tok1 l = [] → PV.mapLs g l = l
  | [], _ => rfl
  | x :: l, h1 => by
    obtain ⟨p1, p2⟩ := append_nil2 h1
    simp only [PV.mapLs]
    rw [mapL_bare h p1, mapLs_bare h p2]
end
theorem tv_bare {f : Option (PV → PV)} (hf : KeepsB f) {x : PV} (hx : Bare x) : tv f x = x := by
  cases f with
  | none => rfl
  | some g => exact mapL_bare (hf g rfl) hx
structure EqL (s s' : VS) : Prop where
  env : s.env = s'.env
  lh : s.lh = s'.lh
  look : ∀ t, lookL t s.loc = lookL t s'.loc
theorem EqL.turn {s s' : VS} (h : EqL s s') (f : Option (PV → PV)) (l : List (Nat × PV)) : EqL (s.turn f l) (s'.turn f l) := by
  refine ⟨?_, by rw [turn_lh, turn_lh], fun t => by rw [lookL_turn, lookL_turn, h.look t]⟩
  cases f with
  | none => exact h.env
  | some f => show s.env.map _ = s'.env.map _; rw [h.env]
theorem EqL.push {s s' : VS} (h : EqL s s') (o : Oper) (v : PV) : EqL (pushL o v s) (pushL o v s') :=
  ⟨by rw [push_env.1, push_env.1, h.env], by rw [push_env.2, push_env.2, h.lh], fun t => by rw [lookL_push, lookL_push, h.look t]⟩
theorem operandV_eq {l : List Oper} {g : Option (Nat × Bool)} {s s' : VS} {x : Operand} (h : ∀ t, x = .tmp t → lookL t s.loc = lookL t s'.loc ∧ getN t s.env = getN t s'.env) : operandV l g s x = operandV l g s' x := by
  unfold operandV
  cases x with
  | tmp t => obtain ⟨h1, h2⟩ := h t rfl; dsimp only; rw [h1, h2]
  | _ => rfl
theorem operandsV_gl {l : List Oper} {o : Oper} {s : VS} (gp : ∀ c x y, o.op ≠ .pick c x y) : operandsV l o s = o.op.operands.toList.map (operandV l o.guard s) := by
  unfold operandsV
  split
  · rename_i c x y e
    exact absurd e (gp c x y)
  · rfl
theorem stepA_of {X : Tbl} {T : Tabs} {l : List Oper} {i : Nat} {s : VS} {K : VS → Prop} {o : Oper} {v : PV} {f : Option (PV → PV)} {lh' : List (Nat × PV)} (ho : l[i]? = some o) (h : (evOp P X T o (operandsV l o s) s.lh).Is v f s.lh lh') (hk : K (pushL o v (s.turn f lh'))) : stepA P X T l i s K := by
  unfold stepA
  rw [ho]
  dsimp only
  cases hr : evOp P X T o (operandsV l o s) s.lh with
  | val x => rw [hr] at h; obtain ⟨rfl, rfl, rfl⟩ := h; dsimp only; rw [forceV_eq]; exact hk
  | vneed p x => rw [hr] at h; obtain ⟨hp, rfl, rfl, rfl⟩ := h; dsimp only; rw [forceV_eq]; exact ⟨hp, hk⟩
  | ok x g l => rw [hr] at h; obtain ⟨rfl, rfl, rfl⟩ := h; dsimp only; rw [forceV_eq]; exact hk
  | need p x g l => rw [hr] at h; obtain ⟨hp, rfl, rfl, rfl⟩ := h; dsimp only; rw [forceV_eq]; exact ⟨hp, hk⟩
  | bad n => rw [hr] at h; exact h.elim
theorem allA_all : ∀ {l : List Nat} {F : Nat → Prop}, (∀ i ∈ l, F i) → allA l F
  | [], F, h => trivial
  | [j], F, h => h j (List.mem_cons_self ..)
  | j :: q :: l, F, h => ⟨h j (List.mem_cons_self ..), allA_all (l := q :: l) fun i hi => h i (List.mem_cons_of_mem _ hi)⟩
theorem evN_eq {X : Tbl} {T : Tabs} {l : List Oper} (hgl : guardless l = true) {K : VS → Prop} (hK : ∀ s s', EqL s s' → K s → K s') : ∀ (n : Nat) (S : List Bool) (s s' : VS), EqL s s' → evN P X T l n S s K → evN P X T l n S s' K
  | 0, _, _, _, _, h => h.elim
  | n + 1, S, s, s', he, h => by
    unfold evN at h ⊢
    cases hr : rdyL l S with
    | nil => rw [hr] at h; exact hK s s' he h
    | cons i r =>
      rw [hr] at h
      refine allA_all fun j hj => ?_
      obtain ⟨o, v, f, lh', ho, hI, hk⟩ := stepA_ok (allA_get h j hj)
      have gp := (guardless_get hgl ho).2.1
      have e1 : operandsV l o s = operandsV l o s' := by
        rw [operandsV_gl gp, operandsV_gl gp]
        exact List.map_congr_left fun x _ => operandV_eq fun t _ => ⟨he.look t, by rw [he.env]⟩
      rw [e1, he.lh] at hI
      exact stepA_of ho hI (evN_eq hgl hK n _ _ _ ((he.turn f lh').push o v) hk)
theorem rdy_mem {l : List Oper} {S : List Bool} {i : Nat} : i ∈ rdyL l S ↔ i < l.length ∧ S.getD i true = false ∧ ∃ o, l[i]? = some o ∧ o.after.toList.all (fun e => !Region.binds .any e || S.getD e.on false) = true := by
  unfold rdyL
  rw [List.mem_filter, List.mem_range, Bool.and_eq_true]
  constructor
  · rintro ⟨h1, h2, h3⟩
    refine ⟨h1, by simpa using h2, ?_⟩
    cases ho : l[i]? with
    | none => rw [ho] at h3; cases h3
    | some o => rw [ho] at h3; exact ⟨o, rfl, h3⟩
  · rintro ⟨h1, h2, o, ho, h3⟩
    exact ⟨h1, by rw [h2]; rfl, by rw [ho]; exact h3⟩
theorem rdy_mono {l : List Oper} {S : List Bool} {i j : Nat} (h : i ∈ rdyL l S) (hne : i ≠ j) : i ∈ rdyL l (S.set j true) := by
  obtain ⟨h1, h2, o, ho, h3⟩ := rdy_mem.1 h
  refine rdy_mem.2 ⟨h1, ?_, o, ho, List.all_eq_true.2 fun e he => ?_⟩
  · rw [List.getD_eq_getElem?_getD, List.getElem?_set_ne (Ne.symm hne), ← List.getD_eq_getElem?_getD]; exact h2
  · have := List.all_eq_true.1 h3 e he
    rw [Bool.or_eq_true] at this ⊢
    refine this.imp id fun h => ?_
    by_cases hj : j = e.on
    · subst hj
      have hlt : e.on < S.length := by
        apply Classical.byContradiction
        intro hn
        rw [List.getD_eq_getElem?_getD, List.getElem?_eq_none (by omega)] at h
        cases h
      rw [List.getD_eq_getElem?_getD, List.getElem?_set_self hlt]; rfl
    · rw [List.getD_eq_getElem?_getD, List.getElem?_set_ne hj, ← List.getD_eq_getElem?_getD]; exact h
theorem getD_set_false {S : List Bool} {j k : Nat} (h : (S.set j true).getD k true = false) : S.getD k true = false := by
  by_cases hj : j = k
  · subst hj
    rw [List.getD_eq_getElem?_getD] at h
    by_cases hlt : j < S.length
    · rw [List.getElem?_set_self hlt] at h; cases h
    · rw [List.getElem?_eq_none (by rw [List.length_set]; omega)] at h; cases h
  · rw [List.getD_eq_getElem?_getD, List.getElem?_set_ne hj, ← List.getD_eq_getElem?_getD] at h; exact h
theorem operandV_turn {l : List Oper} {g : Option (Nat × Bool)} {s : VS} {x : Operand} {f : Option (PV → PV)} {lh : List (Nat × PV)} (hf : KeepsB f) (hx : Bare (operandV l g s x)) : operandV l g (s.turn f lh) x = operandV l g s x := by
  unfold operandV at hx ⊢
  cases x with
  | tmp t =>
    dsimp only at hx ⊢
    rw [lookL_turn, getN_turn_env]
    cases h1 : lookL t s.loc with
    | none =>
      rw [h1] at hx
      dsimp only at hx ⊢
      cases h2 : getN t s.env with
      | none => rfl
      | some y => rw [h2] at hx; exact tv_bare hf hx
    | some p =>
      obtain ⟨h, y⟩ := p
      rw [h1] at hx
      dsimp only [Option.map] at hx ⊢
      cases h3 : guardIn l 9 g h with
      | true => rw [h3] at hx; exact tv_bare hf hx
      | false => rfl
  | _ => rfl
theorem looks_of {ops : Array Oper} {o : Oper} {t : Nat} (h : Operand.tmp t ∈ o.op.operands.toList) : t ∈ o.looksAt ops := by
  unfold Oper.looksAt
  exact List.mem_append_left _ (List.mem_filterMap.2 ⟨_, h, rfl⟩)
theorem evN_first {X : Tbl} {T : Tabs} {l : List Oper} (hgl : guardless l = true) {K : VS → Prop} (hK : ∀ s s', EqL s s' → K s → K s') (TK : ∀ (j : Nat) (o : Oper) (xs : List PV) (lh : List (Nat × PV)) (v : PV) (f : Option (PV → PV)) (lh' : List (Nat × PV)), l[j]? = some o → (evOp P X T o xs lh).Is v f lh lh' → KeepsB f) {i : Nat} {o : Oper} {r : OpS} {v : PV} (ho : l[i]? = some o) (hv : r = .val v ∨ ∃ p, p ∧ r = .vneed p v) (hb : Bare v) :
    ∀ (n : Nat) (S : List Bool) (s : VS), i ∈ rdyL l S → (∀ j oj, l[j]? = some oj → j ≠ i → S.getD j true = false → (∀ e ∈ oj.after, Region.binds .any e = true → e.on ≠ i) → o.apart l.toArray oj = true) →
      (∀ x ∈ o.op.operands.toList, Bare (operandV l o.guard s x)) → (∀ lh, evOp P X T o (operandsV l o s) lh = r) → evN P X T l n (S.set i true) (pushL o v s) K → evN P X T l (n + 1) S s K := by
  intro n
  induction n with
  | zero => intro S s _ _ _ _ hk; exact hk.elim
  | succ m ih =>
    intro S s hi hap hops hr hk
    unfold evN
    split
    · rename_i hnil; rw [hnil] at hi; cases hi
    refine allA_all fun j hj => ?_
    by_cases hji : j = i
    · subst hji
      refine stepA_of (v := v) (f := none) (lh' := s.lh) ho ?_ hk
      rw [hr]
      rcases hv with rfl | ⟨p, hp, rfl⟩
      · exact ⟨rfl, rfl, rfl⟩
      · exact ⟨hp, rfl, rfl, rfl⟩
    · unfold evN at hk
      split at hk
      · rename_i hnil
        have := rdy_mono hj hji
        rw [hnil] at this; cases this
      obtain ⟨oj, vj, f, lh', hoj, hI, hkj⟩ := stepA_ok (allA_get hk j (rdy_mono hj hji))
      have hf := TK _ _ _ _ _ _ _ hoj hI
      obtain ⟨j1, j2, oj', hoj', j3⟩ := rdy_mem.1 hj
      rw [hoj] at hoj'; injection hoj' with e; subst e
      have hi2 := (rdy_mem.1 hi).2.1
      have hnot : ∀ e ∈ oj.after, Region.binds .any e = true → e.on ≠ i := fun e he hb heq => by
        have := List.all_eq_true.1 j3 e (by simpa using he)
        rw [hb, heq] at this
        have h0 : S.getD i false = true := by simpa using this
        rw [List.getD_eq_getElem?_getD] at h0 hi2
        cases hS : S[i]? with
        | none => rw [hS] at h0; cases h0
        | some b => rw [hS] at h0 hi2; simp at h0 hi2; rw [h0] at hi2; cases hi2
      obtain ⟨a1, a2, a3⟩ := Oper.apart_spec (hap j oj hoj hji j2 hnot)
      have gpi := (guardless_get hgl ho).2.1
      have gpj := (guardless_get hgl hoj).2.1
      have e1 : operandsV l oj (pushL o v s) = operandsV l oj s := by
        rw [operandsV_gl gpj, operandsV_gl gpj]
        refine List.map_congr_left fun x hx => operandV_eq fun t ht => ⟨?_, by rw [push_env.1]⟩
        subst ht
        rw [lookL_push, if_neg fun hd => a1 t hd (looks_of hx)]
      rw [e1, push_env.2] at hI
      refine stepA_of hoj hI (ih _ _ (rdy_mono hi (Ne.symm hji)) (fun k ok hk hne hS haf => hap k ok hk hne (getD_set_false hS) haf) ?_ ?_ ?_)
      · intro x hx
        have : operandV l o.guard (pushL oj vj (s.turn f lh')) x = operandV l o.guard s x := by
          rw [← operandV_turn (lh := lh') hf (hops x hx)]
          refine operandV_eq fun t ht => ⟨?_, by rw [push_env.1]⟩
          subst ht
          rw [lookL_push, if_neg fun hd => a3 t hd (looks_of hx)]
        rw [this]; exact hops x hx
      · have : operandsV l o (pushL oj vj (s.turn f lh')) = operandsV l o s := by
          rw [operandsV_gl gpi, operandsV_gl gpi]
          refine List.map_congr_left fun x hx => ?_
          rw [← operandV_turn (lh := lh') hf (hops x hx)]
          refine operandV_eq fun t ht => ⟨?_, by rw [push_env.1]⟩
          subst ht
          rw [lookL_push, if_neg fun hd => a3 t hd (looks_of hx)]
        rw [this]; exact hr
      · rw [List.set_comm _ _ hji]
        refine evN_eq hgl hK _ _ _ _ ⟨?_, ?_, fun t => ?_⟩ hkj
        · rw [push_env.1, push_env.1, push_env.1]
          cases f with
          | none => exact push_env.1
          | some f => show (pushL o v s).env.map _ = s.env.map _; rw [push_env.1]
        · rw [push_env.2, push_env.2, push_env.2, turn_lh, turn_lh]
        · rw [lookL_push, lookL_push, lookL_push, lookL_turn, lookL_turn, lookL_push]
          by_cases hd : o.dst = some t
          · rw [if_pos hd, if_pos hd, if_neg fun h => a2 t hd h]
            show some (o.guard, tv f v) = _
            rw [tv_bare hf hb]
          · rw [if_neg hd, if_neg hd]
theorem kb_none : KeepsB none := fun g h => by cases h
theorem still0 (n : Nat) : stillF n 0 = some 0 := by unfold stillF; cases Nat.beq 0 n <;> rfl
theorem call0 (us : List Nat) : callF us 0 = some 0 := by unfold callF; cases memN 0 us <;> rfl
theorem mark1_bare {g : Nat → Option Nat} (h : g 0 = some 0) {y : PV} (ht : y.tok1 = []) : y.mark1 g = y := by
  cases y with
  | row nl r t => cases t with | zero => simp only [PV.mark1, h] | succ t => cases ht
  | vec nl sz l t => cases t with | zero => simp only [PV.mark1, h] | succ t => cases ht
  | ep r t i => cases t with | zero => simp only [PV.mark1, h] | succ t => cases ht
  | epv sz l t i off => cases t with | zero => simp only [PV.mark1, h] | succ t => cases ht
  | _ => rfl
theorem kb_mark {g : Nat → Option Nat} (h : g 0 = some 0) : KeepsB (some (PV.mark1 g)) := fun f e y _ ht => by
  injection e with e; subst e; exact mark1_bare h ht
theorem kb_two {g g' : Nat → Option Nat} (h : g 0 = some 0) (h' : g' 0 = some 0) : KeepsB (some fun y => (y.mark1 g).mark1 g') := fun f e y _ ht => by
  injection e with e; subst e
  show (y.mark1 g).mark1 g' = y
  rw [mark1_bare h ht, mark1_bare h' ht]
theorem kb_laid (u : Nat) (z : Int) (x : PV) : KeepsB (some (laidV (u + 1) z x)) := fun f e y _ ht => by
  injection e with e; subst e
  cases y with
  | row nl r t => cases t with | zero => rfl | succ t => cases ht
  | vec nl sz l t => cases t with | zero => rfl | succ t => cases ht
  | ep r t i => cases t with | zero => rfl | succ t => cases ht
  | epv sz l t i off => cases t with | zero => rfl | succ t => cases ht
  | _ => rfl
theorem kb_go {nl new : Bool} {tk t' : Nat} {d : Option Tmp} (h : goOn nl tk d = some (t', new)) : KeepsB (some (goF new t')) := by
  obtain ⟨ht, -⟩ := goOn_ok h
  rw [goF_eq]
  exact kb_mark (goM_ok (new := new) ht).1.1
theorem kb_at {r : OpR} {v : PV} {f : Option (PV → PV)} {lh lh' : List (Nat × PV)} (h : r.at.Is v f lh lh') : KeepsB f := by
  obtain ⟨-, rfl, -⟩ := OpR.at_is h; exact kb_none
macro "kb_fin" : tactic => `(tactic| first | exact kb_none | exact kb_mark (still0 _) | exact kb_mark (call0 _) | exact kb_mark rfl | exact kb_two rfl (still0 _) | exact kb_two (call0 _) (still0 _) | exact kb_two (call0 _) rfl | exact kb_laid _ _ _ | exact kb_go ‹_›)
macro "kb_leaf" h:ident : tactic => `(tactic| first | exact False.elim $h | (rw [← ($h).2.1]; kb_fin) | (rw [← ($h).2.2.1]; kb_fin) | (rw [($h).2.1]; kb_fin) | (rw [($h).2.2.1]; kb_fin) | exact kb_at $h)
section
variable {X : Tbl} {T : Tabs} {v : PV} {f : Option (PV → PV)} {lh lh' : List (Nat × PV)}
theorem kb_build {t : TypeId} {n : Nat} {ps : List Nat} {xs : List PV} {d : Option Tmp} (h : (buildSliceS P X t n ps xs d lh).Is v f lh lh') : KeepsB f := by
  unfold buildSliceS at h
  repeat' split at h
  all_goals kb_leaf h
theorem kb_store {t : TypeId} {a x : PV} (h : (storeS P t a x lh).Is v f lh lh') : KeepsB f := by
  unfold storeS at h
  repeat' split at h
  all_goals kb_leaf h
theorem kb_conv {s d : TypeId} {x : PV} {t : Option Tmp} (h : (convS P s d x t lh).Is v f lh lh') : KeepsB f := by
  unfold convS convS0 at h
  repeat' split at h
  all_goals kb_leaf h
theorem kb_make {t : TypeId} {n c : PV} {d : Option Tmp} (h : (makeSliceS P t n c d lh).Is v f lh lh') : KeepsB f := by
  unfold makeSliceS at h
  dsimp only at h
  repeat' split at h
  all_goals kb_leaf h
theorem kb_append {t tx : TypeId} {x y : PV} {d : Option Tmp} (h : (appendS P t tx x y d lh).Is v f lh lh') : KeepsB f := by
  unfold appendS at h
  repeat' split at h
  all_goals kb_leaf h
theorem kb_call {g : FuncId} {xs : List PV} (h : (callS X g xs lh).Is v f lh lh') : KeepsB f := by
  have h0 : ∀ {o : OpS}, handC X g xs lh = some o → o.Is v f lh lh' → KeepsB f := fun {o} e h => by
    unfold handC at e
    repeat' split at e
    all_goals first | (cases e; done) | skip
    rename_i hc _
    injection e with e; subst e
    obtain ⟨-, -, rfl, -⟩ := h
    refine kb_mark ?_
    unfold handF
    rw [Bool.and_eq_true] at hc
    cases hm : memN 0 _ with
    | true => rw [hm] at hc; exact absurd hc.2 (by decide)
    | false => rfl
  unfold callS at h
  split at h
  · exact h0 (by assumption) h
  · unfold callS0 lendS lendC at h
    repeat' split at h
    all_goals kb_leaf h
end
theorem evOp_keeps {X : Tbl} {T : Tabs} {o : Oper} (hb1 : ∀ e, o.op ≠ .alloc e) (hb2 : ∀ e x, o.op ≠ .box e x) {xs : List PV} {lh : List (Nat × PV)} {v : PV} {f : Option (PV → PV)} {lh' : List (Nat × PV)} (h : (evOp P X T o xs lh).Is v f lh lh') : KeepsB f := by
  have main : (evOp0 P X T o xs lh).Is v f lh lh' → KeepsB f := fun h => by
    unfold evOp0 at h
    repeat' split at h
    all_goals first | exact absurd ‹_› (hb1 _) | exact absurd ‹_› (hb2 _ _) | exact kb_store h | exact kb_conv h | exact kb_make h | exact kb_append h | exact kb_call h | exact kb_build h | kb_leaf h
  unfold evOp calm at h
  split at h
  · split at h
    · exact h.1.elim
    · exact h.elim
  · exact main h
theorem bareB_ok {x : PV} (h : bareB x = true) : Bare x := by
  unfold bareB at h
  exact List.isEmpty_iff.1 h
theorem noBox_get {l : List Oper} (h : noBox l = true) {j : Nat} {o : Oper} (ho : l[j]? = some o) : (∀ e, o.op ≠ .alloc e) ∧ ∀ e x, o.op ≠ .box e x := by
  have := List.all_eq_true.1 h o (List.mem_of_getElem? ho)
  refine ⟨fun e h => ?_, fun e x h => ?_⟩
  · rw [h] at this; cases this
  · rw [h] at this; cases this
theorem evOp_free {X : Tbl} {T : Tabs} {o : Oper} (hg : o.guard = none) {xs : List PV} {v : PV} (hk : eagK P X o.op xs = true) (h : evOp P X T o xs [] = .val v ∨ ∃ p, evOp P X T o xs [] = .vneed p v) (lh : List (Nat × PV)) : evOp P X T o xs lh = evOp P X T o xs [] := by
  obtain ⟨dst, op, type, pos, after, guard⟩ := o
  obtain rfl : guard = none := hg
  unfold evOp at h ⊢
  congr 1
  have hc : ∀ r : OpS, (calm none r = .val v ∨ ∃ p, calm none r = .vneed p v) → (r = .val v ∨ ∃ p, r = .vneed p v) := fun r h => by
    cases r <;> exact h
  replace h := hc _ h
  cases op with
  | load t a =>
    unfold eagK at hk
    dsimp only at hk
    unfold evOp0 loadR
    dsimp only
    split at hk
    · rename_i e; rw [e]; cases hasT P t <;> rfl
    · rename_i e; rw [e]; cases hasT P t <;> rfl
    · cases hk
  | buildSlice t n ps =>
    unfold eagK at hk
    dsimp only at hk
    split at hk
    · rename_i e
      unfold evOp0 buildSliceS
      dsimp only
      rw [e]
    · cases hk
  | convert a b x =>
    have key : ∀ (y : PV) (d : Option Tmp), (convS P a b y d [] = .val v ∨ ∃ p, convS P a b y d [] = .vneed p v) → convS P a b y d lh = convS P a b y d [] := fun y d h => by
      have k0 : (convS0 P a b y d [] = .val v ∨ ∃ p, convS0 P a b y d [] = .vneed p v) → convS0 P a b y d lh = convS0 P a b y d [] := fun h => by
        unfold convS0 at h ⊢
        generalize convR P a b y = r at h ⊢
        generalize nameOf d = n at h ⊢
        split at h
        · rcases h with h | ⟨p, h⟩ <;> cases h
        · rfl
      unfold convS at h ⊢
      generalize Nat.beq a b = q at h ⊢
      generalize P.underlying a = z at h ⊢
      cases q with
      | false => exact k0 h
      | true =>
        dsimp only at h ⊢
        split at h
        · split at h
          · rcases h with h | ⟨p, h⟩ <;> cases h
          · rfl
        · exact k0 h
    exact key _ _ h
  | call c =>
    obtain ⟨callee, args, argTypes⟩ := c
    cases callee with
    | value c =>
      unfold eagK at hk
      dsimp only at hk
      split at hk
      · rename_i f a b ys
        rw [Bool.and_eq_true] at hk
        have h1 := List.isEmpty_iff.1 hk.1
        have h2 := List.isEmpty_iff.1 hk.2
        unfold evOp0 at h ⊢
        dsimp only at h ⊢
        unfold callS handC callS0 at h ⊢
        rw [h1, h2] at h ⊢
        dsimp only [addNew] at h ⊢
        generalize X f (PV.mapLs (PV.mark1 bareF) (a ++ typeds P argTypes.toList ys ++ b)) = q at h ⊢
        cases q with
        | none => rfl
        | some c =>
          dsimp only at h ⊢
          split at h
          all_goals first | rfl | (rcases h with h | ⟨p, h⟩ <;> cases h)
      · cases hk
    | _ => cases hk
  | _ => first | rfl | cases hk
theorem evB_evN {X : Tbl} {T : Tabs} {l : List Oper} (hgl : guardless l = true) (hnb : noBox l = true) {K : VS → Prop} (hK : ∀ s s', EqL s s' → K s → K s') : ∀ (n : Nat) (S : List Bool) (s : VS), evB P X T l n S s K → evN P X T l n S s K
  | 0, _, _, h => h.elim
  | n + 1, S, s, h => by
    unfold evB at h
    cases hr : rdyL l S with
    | nil => rw [hr] at h; unfold evN; rw [hr]; exact h
    | cons i0 r0 =>
      rw [hr] at h
      dsimp only at h
      split at h
      · rename_i i hf
        have hi := List.mem_of_find?_eq_some hf
        have hb := List.find?_some hf
        rw [← hr] at hi
        obtain ⟨o, v, f, lh', ho, hI, hk⟩ := stepA_ok h
        unfold eagB at hb
        rw [ho] at hb
        dsimp only at hb
        rw [Bool.and_eq_true, Bool.and_eq_true, Bool.and_eq_true] at hb
        obtain ⟨⟨⟨b1, b2⟩, b3⟩, b4⟩ := hb
        have hg := (guardless_get hgl ho).1
        have h0 : ∃ v0, Bare v0 ∧ (evOp P X T o (operandsV l o s) [] = .val v0 ∨ ∃ p, evOp P X T o (operandsV l o s) [] = .vneed p v0) := by
          split at b4
          · rename_i v0 e; exact ⟨v0, bareB_ok b4, .inl e⟩
          · rename_i p v0 e; exact ⟨v0, bareB_ok b4, .inr ⟨p, e⟩⟩
          · cases b4
        obtain ⟨v0, hbv, h1⟩ := h0
        have hfree := fun lh => evOp_free (lh := lh) hg b3 h1
        rw [hfree] at hI
        have hv : v = v0 ∧ f = none ∧ lh' = s.lh ∧ (evOp P X T o (operandsV l o s) [] = .val v ∨ ∃ p, p ∧ evOp P X T o (operandsV l o s) [] = .vneed p v) := by
          rcases h1 with e | ⟨p, e⟩
          · rw [e] at hI; obtain ⟨rfl, h2, h3⟩ := hI; exact ⟨rfl, h2, h3, .inl e⟩
          · rw [e] at hI; obtain ⟨hp, rfl, h2, h3⟩ := hI; exact ⟨rfl, h2, h3, .inr ⟨p, hp, e⟩⟩
        obtain ⟨rfl, rfl, rfl, h2⟩ := hv
        refine evN_first hgl hK (fun j o xs lh v f lh' hj h => evOp_keeps (noBox_get hnb hj).1 (noBox_get hnb hj).2 h) ho h2 hbv n S s hi (fun j oj hj hne hS haf => ?_) (fun x hx => bareB_ok (List.all_eq_true.1 b2 x hx)) hfree (evB_evN hgl hnb hK n _ _ hk)
        have := List.all_eq_true.1 b1 j (List.mem_range.2 (List.getElem?_eq_some_iff.1 hj).1)
        have e0 : Nat.beq j i = false := by cases e : Nat.beq j i with | false => rfl | true => exact absurd (Nat.eq_of_beq_eq_true e) hne
        rw [e0, hS, hj, Bool.false_or, Bool.false_or] at this
        dsimp only at this
        rw [Bool.or_eq_true] at this
        rcases this with this | this
        · obtain ⟨e, he, h3⟩ := List.any_eq_true.1 this
          rw [Bool.and_eq_true] at h3
          exact absurd (Nat.eq_of_beq_eq_true h3.2) (haf e (by simpa using he) h3.1)
        · exact this
      · unfold evN
        rw [hr]
        refine allA_all fun j hj => ?_
        obtain ⟨o, v, f, lh', ho, hI, hk⟩ := stepA_ok (allA_get h j hj)
        exact stepA_of ho hI (evB_evN hgl hnb hK n _ _ hk)
theorem evN_any {cx : Cx} {ops : Array Oper} {N : Nat} {X : Tbl} {T : Tabs} (hX : XOk P T X) (hm : cx.m ≤ 32) (hT : TabC T cx) (hr : RegFit ops N) (hgl : guardless ops.toList = true) {K : VS → Prop} {Q : Exit → Act → World → Prop} (hQ : ∀ G s a w, LRel cx G ops N ops.size s a w → K s → Q .normal a w) :
    ∀ (n fuel : Nat) (listed : Array Bool) (s : VS) (G : Gh) (a : Act) (w : World), listed.size = ops.size → cntS (ofL listed) ops.size ≤ fuel → LRel cx G ops N ops.size s a w → evN P X T ops.toList n listed.toList s K → wpAny P .any ops Q fuel listed a w
  | 0, _, _, _, _, _, _, _, _, _, he => he.elim
  | n + 1, fuel, listed, s, G, a, w, hsz, hc, hl, he => by
    unfold evN at he
    rw [rdy_is] at he
    have one : ∀ i ∈ Region.ready .any ops listed, i < ops.size ∧ ofL listed i = false ∧ ∃ o, ops[i]? = some o := fun i hi => by
      obtain ⟨h1, h2, o, h3, -⟩ := rdy_of hsz hi
      exact ⟨by omega, h2, o, h3⟩
    have less : ∀ f i, i < ops.size → ofL listed i = false → cntS (ofL listed) ops.size ≤ f + 1 → cntS (ofL (listed.setIfInBounds i true)) ops.size ≤ f := fun f i hi hno hf => by
      rw [ofL_set (by omega)]
      have := cntS_add hno ops.size
      rw [if_pos hi] at this
      omega
    have tl : ∀ i, (listed.setIfInBounds i true).toList = listed.toList.set i true := fun i => by simp
    split at he
    · rename_i hnil
      cases fuel with
      | zero => exact ⟨hnil, hQ G s a w hl he⟩
      | succ fuel => exact ⟨fun _ => hQ G s a w hl he, fun i hi => by rw [hnil] at hi; cases hi⟩
    · rename_i hne
      cases fuel with
      | zero =>
        exfalso
        cases hrd : Region.ready .any ops listed with
        | nil => exact hne hrd
        | cons i rs =>
          obtain ⟨h1, h2, -⟩ := one i (by rw [hrd]; exact List.mem_cons_self ..)
          have := cntS_zero (show cntS (ofL listed) ops.size = 0 by omega) i h1
          rw [h2] at this; cases this
      | succ fuel =>
        refine ⟨fun hnil => absurd hnil hne, fun i hi => ?_⟩
        obtain ⟨h1, h2, -⟩ := one i hi
        obtain ⟨o, v, f, lh', ho, hI, hK⟩ := stepA_ok (allA_get he i hi)
        rw [Array.getElem?_toList] at ho
        obtain ⟨g0, gp, gs⟩ := guardless_get hgl (i := i) (o := o) (by rw [Array.getElem?_toList]; exact ho)
        have hx : RepL' (operandsV ops.toList o s) G w (o.op.operands.toList.map a.eval) := by
          rw [operandsV_gl gp]
          exact hl.operands hr (fun j b e => by rw [g0] at e; cases e) (by rw [g0]; trivial) _
        unfold wpOp
        rw [ho]
        dsimp only
        rw [if_pos (by unfold Region.wanted; rw [g0])]
        left
        exact evOp_ok hX hl.inv hm hT gp hx hI _ _ fun G' w' u tr hv => evN_any hX hm hT hr hgl hQ n fuel _ _ _ _ _ (by simpa using hsz) (less fuel i h1 h2 hc) (hl.pushA hr hgl ho tr hv) (by rw [tl]; exact hK)
theorem evB_ok {cx : Cx} {G : Gh} {w : World} {ops : Array Oper} {N : Nat} {s : VS} {a : Act} {X : Tbl} {T : Tabs} (hmix : P.follows .mixedOrders = true) (hX : XOk P T X) (hm : cx.m ≤ 32) (hT : TabC T cx) (of : OFit ops N) (hgl : guardless ops.toList = true) (hnb : noBox ops.toList = true) {K : VS → Prop} (hK : ∀ s s', EqL s s' → K s → K s') {Q : Exit → Act → World → Prop} (hQ : ∀ G s a w, LRel cx G ops N ops.size s a w → K s → Q .normal a w) (hl : s.loc = []) (h : LRel cx G ops N 0 s a w) {n : Nat} (he : evB P X T ops.toList n (ops.toList.map fun _ => false) s K) (id : Nat) : (Code.region id ops true).wp P Q a w := by
  refine wp_region_any hmix ?_
  obtain ⟨i1, i2⟩ := h.inv.drew
  have hd : LRel cx G ops N ops.size s a w.drew :=
    ⟨i1, fun t x g e => i2 _ _ (h.env t x g e), (fun t g v hlk => by rw [hl] at hlk; cases hlk), (fun i o hi ho b hy => by rw [(guardless_get hgl (i := i) (o := o) (by rw [Array.getElem?_toList]; exact ho)).1]; trivial), h.size, h.defers⟩
  have hnone : ofL (Array.replicate ops.size false) = fun _ => false := by
    funext j; unfold ofL
    by_cases h : j < ops.size <;> simp [Array.getD, h]
  have hlist : (Array.replicate ops.size false).toList = ops.toList.map fun _ => false := by
    rw [Array.toList_replicate, List.map_const', Array.length_toList]
  refine evN_any hX hm hT of.fit hgl hQ n ops.size _ s G a w.drew Array.size_replicate ?_ hd (by rw [hlist]; exact evB_evN hgl hnb hK n _ _ he)
  rw [hnone, cntS_none]; exact Nat.le_refl _
theorem keepL_eq {s s' : VS} (h : EqL s s') : keepL s = keepL s' := by
  unfold keepL
  rw [h.env, h.lh]
  congr 1
  exact List.map_congr_left fun e _ => by rw [h.look]
variable {cx : Cx} {G : Gh} {w : World} {ops : Array Oper} {N : Nat} {s : VS} {a : Act} {X : Tbl} {T : Tabs}
theorem noOwn_ok [Wd] {T : Tabs} {X : Tbl} (h : XOk P T X) : XOk P T (noOwn X) := fun f xs c hc => by
  unfold noOwn at hc
  cases hb : Nat.beq f ownK with
  | true => rw [hb] at hc; cases hc
  | false => rw [hb] at hc; exact h f xs c hc
theorem evG_ok (hmix : P.follows .mixedOrders = true) (hX : XOk P T X) (hm : cx.m ≤ 32) (hT : TabC T cx) (of : OFit ops N) {K : VS → Prop} (hK : ∀ s s', EqL s s' → K s → K s') {Q : Exit → Act → World → Prop} (hQ : ∀ G s a w, LRel cx G ops N ops.size s a w → K s → Q .normal a w) (hl : s.loc = []) (h : LRel cx G ops N 0 s a w) (he : evG P X T ops.toList (befores ops.toList) s K) (id : Nat) : (Code.region id ops true).wp P Q a w := by
  unfold evG at he
  split at he
  · rename_i hn
    unfold needA at hn
    rw [Bool.and_eq_true] at hn
    split at he
    · exact evA_ok hmix (noOwn_ok hX) hm hT of hn.1 hQ hl h he id
    · split at he
      · rename_i hnb
        exact evB_ok hmix (noOwn_ok hX) hm hT of hn.1 hnb hK hQ hl h he id
      · exact evA_ok hmix (noOwn_ok hX) hm hT of hn.1 hQ hl h he id
  · exact evD_ok hmix (noOwn_ok hX) hm hT of hQ hl h he id
end
end
section
variable [Wd] {P : Program} {cx : Cx} {G : Gh} {w : World}
structure CRel (cx : Cx) (G : Gh) (N : Nat) (s : VS) (a : Act) (w : World) : Prop where
  inv : Inv cx G s.lh w
  env : ∀ t x, getN t s.env = some x → Rep x G w (a.tmps.getD t undef)
  loc : s.loc = []
  size : N ≤ a.tmps.size
  defers : a.defers = []
def exOf : Ex → Exit
  | .normal => .normal
  | .exit id => .exit id
  | .goto l => .goto l
  | .ret => .ret
def Wp (P : Program) (items : List Item) (Q : Exit → Act → World → Prop) (a : Act) (w : World) : Prop :=
  ∀ (b : Frame) (k : List Item) (cs : List Frame), ∃ e a' w', Q e a' w' ∧ Arrives P (lone (b.at a (items ++ k)) cs w) b k cs e a' w'
theorem Wp.step {items items' : List Item} {Q : Exit → Act → World → Prop} {a : Act} {w : World} (hs : ∀ (b : Frame) (k : List Item) (cs : List Frame), Go.step P (lone (b.at a (items ++ k)) cs w) = .next (lone (b.at a (items' ++ k)) cs w)) (h : Wp P items' Q a w) : Wp P items Q a w := by
  intro b k cs
  obtain ⟨e, a', w', hq, har⟩ := h b k cs
  exact ⟨e, a', w', hq, .of_steps (.one (hs b k cs)) har⟩
theorem Wp.then {c : Code} {x : Item} (hx : x.plain = true) {Q : Exit → Act → World → Prop} {a : Act} {w : World} (h : c.wp P (fun e a' w' => match e with | .normal => Wp P [x] Q a' w' | e => Q e a' w') a w) : Wp P [.code c, x] Q a w := by
  intro b k cs
  obtain ⟨e, a1, w1, hq, har⟩ := h b (x :: k) cs
  cases e with
  | normal =>
    obtain ⟨e2, a2, w2, hq2, har2⟩ := hq b k cs
    exact ⟨e2, a2, w2, hq2, .of_steps har har2⟩
  | exit id => exact ⟨_, a1, w1, hq, .pass (x := x) hx (fun _ _ => .inl (by simp)) har⟩
  | goto l => exact ⟨_, a1, w1, hq, .pass (x := x) hx (fun _ _ => .inl (by simp)) har⟩
  | ret => exact ⟨_, a1, w1, hq, .pass (x := x) hx (fun _ _ => .inl (by simp)) har⟩
  | panic ch => exact ⟨_, a1, w1, hq, .pass (x := x) hx (fun _ _ => .inl (by simp)) har⟩
  | outgrown => exact ⟨_, a1, w1, hq, .pass (x := x) hx (fun _ _ => .inl (by simp)) har⟩
theorem Wp.scope {c c0 : Code} {Q : Exit → Act → World → Prop} {a : Act} {w : World} (h : c0.wp P (fun e a' w' => match e with
      | .goto l => (∃ rest, findLabel c l = some rest ∧ Wp P [.code rest, .inScope c] Q a' w') ∨ (findLabel c l = none ∧ Q (.goto l) a' w')
      | e => Q e a' w') a w) : Wp P [.code c0, .inScope c] Q a w := by
  intro b k cs
  obtain ⟨e, a1, w1, hq, har⟩ := h b (.inScope c :: k) cs
  cases e with
  | normal => exact ⟨.normal, a1, w1, hq, Steps.trans har (.one step_inScope)⟩
  | exit id => exact ⟨.exit id, a1, w1, hq, fun k' hk => har k' (by simp [exitTo, hk])⟩
  | goto l =>
    rcases hq with ⟨rest, hf, h2⟩ | ⟨hf, hq⟩
    · obtain ⟨e2, a2, w2, hq2, har2⟩ := h2 b k cs
      exact ⟨e2, a2, w2, hq2, .of_steps (har _ (by simp [gotoIn, hf])) har2⟩
    · exact ⟨.goto l, a1, w1, hq, fun k' hk => har k' (by simp [gotoIn, hf, hk])⟩
  | ret => exact ⟨_, a1, w1, hq, har⟩
  | panic ch => exact ⟨_, a1, w1, hq, har⟩
  | outgrown => exact ⟨_, a1, w1, hq, har⟩
theorem getN_keep (t : Nat) (s : VS) : getN t (keepL s).env = (getN t s.env).map fun x => match lookL t s.loc with | some (none, v) => v | some (some _, _) => .undef | none => x := by
  unfold keepL
  dsimp only
  induction s.env with
  | nil => rfl
  | cons e l ih =>
    show (bif Nat.beq e.1 t then some _ else getN t (l.map _)) = (bif Nat.beq e.1 t then some e.2 else getN t l).map _
    cases hb : Nat.beq e.1 t with
    | true =>
      have := Nat.eq_of_beq_eq_true hb
      subst this
      rfl
    | false => exact ih
theorem CRel.begin {N : Nat} {s : VS} {a : Act} (h : CRel cx G N s a w) (ops : Array Oper) : LRel cx G ops N 0 s a w :=
  ⟨h.inv, fun t x _ hx => h.env t x hx, (fun t g v hl => by rw [h.loc] at hl; cases hl), (fun i o hi => by omega), h.size, h.defers⟩
theorem LRel.finish {N k : Nat} {ops : Array Oper} {s : VS} {a : Act} (h : LRel cx G ops N k s a w) : CRel cx G N (keepL s) a w := by
  refine ⟨h.inv, fun t x hx => ?_, rfl, h.size, h.defers⟩
  rw [getN_keep, Option.map_eq_some_iff] at hx
  obtain ⟨y, hy, e⟩ := hx
  cases hl : lookL t s.loc with
  | none =>
    rw [hl] at e
    rw [← show y = x from e]
    exact h.env t y hl hy
  | some p =>
    obtain ⟨g, v⟩ := p
    rw [hl] at e
    cases g with
    | none =>
      rw [← show v = x from e]
      exact (h.loc t none v hl).1 trivial
    | some q =>
      rw [← show PV.undef = x from e]
      trivial
theorem cond_val {N : Nat} {s : VS} {a : Act} (h : CRel cx G N s a w) {c : Operand} {t : Bool} (hc : operandV [] none s c = .bool t) : a.eval c = .bool t := by
  cases c with
  | tmp i =>
    unfold operandV at hc
    dsimp only at hc
    rw [h.loc] at hc
    replace hc : (getN i s.env).getD .undef = .bool t := hc
    cases he : getN i s.env with
    | none => rw [he] at hc; cases hc
    | some x =>
      rw [he] at hc
      have : x = .bool t := hc
      subst this
      exact h.env i _ he
  | const v =>
    replace hc : ofValue v = .bool t := hc
    unfold ofValue at hc
    split at hc <;> first | (cases hc; done) | (injection hc with hc; subst hc; rfl)
  | global g => cases hc
  | func f => cases hc
theorem CRel.put {N : Nat} {a : Act} {s : VS} (h : CRel cx G N s a w) (n : Nat) (y : PV) (hy : ∀ x, getN n s.env = some x → ∀ v, Rep x G w v → Rep y G w v) : CRel cx G N (s.put n y) a w := by
  refine ⟨h.inv, fun t x hx => ?_, h.loc, h.size, h.defers⟩
  replace hx : getN t (setN n y s.env) = some x := hx
  rw [getN_set] at hx
  split at hx
  · rename_i e
    rw [Option.map_eq_some_iff] at hx
    obtain ⟨z, hz, e2⟩ := hx
    subst e2
    subst e
    exact hy z hz _ (h.env _ z hz)
  · exact h.env t x hx
theorem nilM_rep {m : Nat} {x : PV} {v : Value} {G : Gh} {w : World} (h : Rep x G w v) : Rep (nilM m x) G w v := by
  unfold nilM
  split
  · split
    · rcases h with ⟨i1, a, i2, i3, i4⟩ | ⟨h1, -⟩
      · cases a with
        | none => exact .inl ⟨i1, none, i2, rfl, .inl rfl⟩
        | some a => cases i3
      · cases h1
    · trivial
  · trivial
theorem CRel.drop {N : Nat} {a : Act} : ∀ {s : VS} (h : CRel cx G N s a w) (ns : List Nat), CRel cx G N (s.drop ns) a w
  | s, h, [] => h
  | s, h, n :: ns => by
    unfold VS.drop
    split
    · refine CRel.drop (h.put _ _ fun x hx v hv => ?_) ns
      rw [hx]
      exact nilM_rep hv
    · exact CRel.drop (h.put n .undef fun x _ v _ => trivial) ns
theorem CRel.still {N : Nat} {s : VS} {a : Act} (h : CRel cx G N s a w) (us : List Nat) : ∃ G', CRel cx G' N (stillS us s) a w := by
  cases us with
  | nil => exact ⟨G, h⟩
  | cons u us =>
    obtain ⟨s1, s2⟩ := h.inv.turn (w' := w) (callF_ok (u :: us)) none rfl rfl rfl (Nat.le_refl _) (fun _ _ _ => rfl) (fun t b e => by cases e)
    refine ⟨G.turn w (callF (u :: us)) none, ⟨?_, fun t x hx => ?_, ?_, h.size, h.defers⟩⟩
    · show Inv cx _ (s.turn (some (PV.mark1 (callF (u :: us)))) (turnB (PV.mark1 (callF (u :: us))) s.lh)).lh w
      rw [turn_lh]; exact s1
    · replace hx : getN t (s.turn (some (PV.mark1 (callF (u :: us)))) (turnB (PV.mark1 (callF (u :: us))) s.lh)).env = some x := hx
      rw [getN_turn_env, Option.map_eq_some_iff] at hx
      obtain ⟨y, hy, rfl⟩ := hx
      exact s2 _ _ (h.env t y hy)
    · show s.loc.map _ = []
      rw [h.loc]; rfl
theorem evC_ok {T : Tabs} {X : Tbl} {H : Loops} {N : Nat} (hmix : P.follows .mixedOrders = true) (hX : XOk P T X) (hm : cx.m ≤ 32) (hT : TabC T cx) : ∀ fuel : Nat,
    (∀ (c : Code) (s : VS) (k : Kont) (G : Gh) (a : Act) (w : World) (Q : Exit → Act → World → Prop), CRel cx G N s a w → evC P X T H N fuel none c s k → (∀ e G s a w, CRel cx G N s a w → k e s → Q (exOf e) a w) → c.wp P Q a w) ∧
    (∀ (c0 : Code) (C : Nat → Option (VS → Prop)) (c : Code) (s : VS) (k : Kont) (G : Gh) (a : Act) (w : World) (Q : Exit → Act → World → Prop), CRel cx G N s a w → evC P X T H N fuel (some (c0, C)) c s k → (∀ e G s a w, CRel cx G N s a w → k e s → Q (exOf e) a w) →
      (∀ l J, C l = some J → ∀ G s a w, CRel cx G N s a w → J s → ∃ rest, findLabel c0 l = some rest ∧ Wp P [.code rest, .inScope c0] Q a w) → Wp P [.code c, .inScope c0] Q a w)
  | 0 => ⟨fun c s k G a w Q _ he _ => he.elim, fun c0 C c s k G a w Q _ he _ _ => he.elim⟩
  | fuel + 1 => by
    obtain ⟨ihA, ihB⟩ := evC_ok hmix hX hm hT fuel
    refine ⟨fun c s k G a w Q hr he hQ => ?_, fun c0 C c s k G a w Q hr he hQ hC => ?_⟩
    · cases c with
      | skip => exact wp_skip (hQ .normal G s a w hr he)
      | region id ops draw =>
        replace he : (match (generalizing := false) draw, regOk N ops.toList with
          | false, true => evOps P X T ops.toList ops.toList s fun s => forceE (keepL s).env fun env => forceE s.lh fun lh => k .normal ⟨[], env, lh⟩
          | true, true => match openOk ops.toList (befores ops.toList) with
            | true => match H (2000000 + id) with
              | some h => (evG P X T ops.toList (befores ops.toList) (stillS (callMarks ops.toList s) s) fun s' => forceE (keepL s').env fun env => forceE s'.lh fun lh => h.cut s ⟨[], env, lh⟩) ∧ ∀ x, h.inv s x → k .normal (h.at_ s x)
              | none => evG P X T ops.toList (befores ops.toList) (stillS (callMarks ops.toList s) s) fun s => forceE (keepL s).env fun env => forceE s.lh fun lh => k .normal ⟨[], env, lh⟩
            | false => False
          | _, _ => False) := he
        split at he
        · rename_i hreg
          refine wp_region_list ?_
          exact evOps_ok (K := fun s => forceE (keepL s).env fun env => forceE s.lh fun lh => k .normal ⟨[], env, lh⟩) hX hm hT (regFit hreg) (fun G s a w hl hk => hQ .normal G _ a w hl.finish (by rw [forceE_eq, forceE_eq] at hk; exact hk)) ops.toList 0 s a w G (by simp) (Nat.zero_le _) (hr.begin ops) he
        · rename_i hreg
          split at he
          · rename_i hop
            obtain ⟨G', hr'⟩ := hr.still (callMarks ops.toList s)
            split at he
            · rename_i h hh
              exact evG_ok (K := fun s' => forceE (keepL s').env fun env => forceE s'.lh fun lh => h.cut s ⟨[], env, lh⟩) hmix hX hm hT (oFit hreg hop) (fun s1 s2 he hk => by rw [← keepL_eq he, ← he.lh]; exact hk) (fun G s' a w hl hk => by
                rw [forceE_eq, forceE_eq] at hk
                have hf := hl.finish.drop h.dead
                rw [show (keepL s').drop h.dead = _ from hk.1] at hf
                exact hQ .normal G _ a w hf (he.2 _ hk.2)) hr'.loc (hr'.begin ops) he.1 id
            · exact evG_ok (K := fun s => forceE (keepL s).env fun env => forceE s.lh fun lh => k .normal ⟨[], env, lh⟩) hmix hX hm hT (oFit hreg hop) (fun s1 s2 he hk => by rw [← keepL_eq he, ← he.lh]; exact hk) (fun G s a w hl hk => hQ .normal G _ a w hl.finish (by rw [forceE_eq, forceE_eq] at hk; exact hk)) hr'.loc (hr'.begin ops) he id
          · exact he.elim
        · exact he.elim
      | seq x y =>
        replace he : evC P X T H N fuel none x s fun e s => match e with
          | .normal => evC P X T H N fuel none y s k
          | e => k e s := he
        refine wp_seq (ihA x s _ G a w _ hr he fun e G s a w hr he => ?_)
        cases e with
        | normal => exact ihA y s k G a w Q hr he hQ
        | exit id => exact hQ _ G s a w hr he
        | goto l => exact hQ _ G s a w hr he
        | ret => exact hQ _ G s a w hr he
      | cond c x y =>
        replace he : onBool (operandV [] none s c) (evC P X T H N fuel none x s k) (evC P X T H N fuel none y s k) := he
        unfold onBool at he
        split at he
        · rename_i t hc
          exact wp_cond_split (cond_val hr hc) (fun ht => ihA x s k G a w Q hr (he.1 ht) hQ) (fun ht => ihA y s k G a w Q hr (he.2 ht) hQ)
        · exact he.elim
      | block id x =>
        replace he : evC P X T H N fuel none x s fun e s => match e with
          | .exit i => bif Nat.beq i id then k .normal s else k (.exit i) s
          | e => k e s := he
        refine wp_block (ihA x s _ G a w _ hr he fun e G s a w hr he => ?_)
        cases e with
        | normal => exact hQ _ G s a w hr he
        | exit i =>
          show (if i = id then _ else _)
          replace he : (bif Nat.beq i id then k .normal s else k (.exit i) s) := he
          by_cases e : i = id
          · subst e
            rw [Nat.beq_refl] at he
            rw [if_pos rfl]
            exact hQ .normal G s a w hr he
          · rw [show Nat.beq i id = false by rw [Bool.eq_false_iff]; exact fun hh => e (Nat.eq_of_beq_eq_true hh)] at he
            rw [if_neg e]
            exact hQ (.exit i) G s a w hr he
        | goto l => exact hQ _ G s a w hr he
        | ret => exact hQ _ G s a w hr he
      | loop x =>
        replace he : (match H (firstId x) with
          | some h => h.into s fun n s' => evC P X T H N fuel none x s' fun e s'' => match e with
            | .normal => h.back s n s''
            | e => k e s''
          | none => False) := he
        split at he
        · rename_i h hh
          obtain ⟨hs, hi0, hb⟩ := he
          have key : ∀ n, ∀ y, h.mu s y = n → h.inv s y → ∀ G a w, CRel cx G N (h.at_ s y) a w → Wp P [.code x, .inLoop x] Q a w := by
            intro n
            induction n using Nat.strongRecOn with
            | _ n ih =>
              intro y hn hy G a w hr
              refine Wp.then rfl (ihA x _ _ G a w _ hr (hb y hy) fun e G s' a w hr he => ?_)
              cases e with
              | normal =>
                obtain ⟨hs', hz, hlt⟩ := he
                replace hr := hr.drop h.dead
                rw [hs'] at hr
                exact Wp.step (items' := [.code x, .inLoop x]) (fun b k cs => step_inLoop) (ih _ (by rw [← hn]; exact hlt) _ rfl hz G a w hr)
              | exit id => exact hQ _ G s' a w hr he
              | goto l => exact hQ _ G s' a w hr he
              | ret => exact hQ _ G s' a w hr he
          have := key _ _ rfl hi0 G a w (by rw [← hs]; exact hr.drop h.dead)
          show Wp P [.code (.loop x)] Q a w
          exact Wp.step (items' := [.code x, .inLoop x]) (fun b k cs => step_loop) this
        · exact he.elim
      | exit id => exact wp_exit (hQ (.exit id) G s a w hr he)
      | scope x =>
        have := ihB x (fun _ => none) x s k G a w Q hr he hQ (fun l J hJ => by cases hJ)
        show Wp P [.code (.scope x)] Q a w
        exact Wp.step (items' := [.code x, .inScope x]) (fun b k cs => step_scope) this
      | label l => exact wp_label (hQ .normal G s a w hr he)
      | goto l => exact wp_goto (hQ (.goto l) G s a w hr he)
      | ret => exact wp_ret (hQ .ret G s a w hr he)
      | rangeFunc _ _ _ _ => exact he.elim
      | refuse _ => exact he.elim
    · replace he : evC P X T H N fuel none c s fun e s => match e with
        | .goto l => match C l with
          | some J => J s
          | none => match findLabel c0 l with
            | none => k (.goto l) s
            | some r => match H (1000000 + l) with
              | some h => h.into s fun n s' => evC P X T H N fuel (some (c0, fun l' => bif Nat.beq l' l then some (h.back s n) else C l')) r s' k
              | none => evC P X T H N fuel (some (c0, C)) r s k
        | e => k e s := he
      refine Wp.scope (ihA c s _ G a w _ hr he fun e G s a w hr he => ?_)
      cases e with
      | normal => exact hQ _ G s a w hr he
      | exit id => exact hQ _ G s a w hr he
      | ret => exact hQ _ G s a w hr he
      | goto l =>
        replace he : (match C l with
          | some J => J s
          | none => match findLabel c0 l with
            | none => k (.goto l) s
            | some r => match H (1000000 + l) with
              | some h => h.into s fun n s' => evC P X T H N fuel (some (c0, fun l' => bif Nat.beq l' l then some (h.back s n) else C l')) r s' k
              | none => evC P X T H N fuel (some (c0, C)) r s k) := he
        split at he
        · rename_i J hJ
          exact .inl (hC l J hJ G s a w hr he)
        · rename_i hCl
          split at he
          · rename_i hf
            exact .inr ⟨hf, hQ (.goto l) G s a w hr he⟩
          · rename_i r hf
            split at he
            · rename_i h hh
              obtain ⟨hs, hi0, hb⟩ := he
              have key : ∀ n, ∀ y, h.mu s y = n → h.inv s y → ∀ G a w, CRel cx G N (h.at_ s y) a w → Wp P [.code r, .inScope c0] Q a w := by
                intro n
                induction n using Nat.strongRecOn with
                | _ n ih =>
                  intro y hn hy G a w hr
                  refine ihB c0 _ r _ k G a w Q hr (hb y hy) hQ fun l' J hJ G s' a w hr hj => ?_
                  replace hJ : (bif Nat.beq l' l then some (h.back s y) else C l') = some J := hJ
                  cases hb' : Nat.beq l' l with
                  | true =>
                    rw [hb'] at hJ
                    injection hJ with hJ; subst hJ
                    obtain ⟨hs', hz, hlt⟩ := hj
                    replace hr := hr.drop h.dead
                    rw [hs'] at hr
                    rw [Nat.eq_of_beq_eq_true hb']
                    exact ⟨r, hf, ih _ (by rw [← hn]; exact hlt) _ rfl hz G a w hr⟩
                  | false =>
                    rw [hb'] at hJ
                    exact hC l' J hJ G s' a w hr hj
              exact .inl ⟨r, hf, key _ _ rfl hi0 G a w (by rw [← hs]; exact hr.drop h.dead)⟩
            · exact .inl ⟨r, hf, ihB c0 C r s k G a w Q hr he hQ hC⟩
end
section
variable [Wd] {P : Program} {cx : Cx} {G : Gh} {w : World}
def resSem (tmps : Array Value) (r : ResultVar) : Sem Value := match r with
  | .tmp t => Pure.pure (tmps.getD t undef)
  | .cell a t => do loadVar t (← asAddr (tmps.getD a undef))
theorem results_eq (fn : Func) (tmps : Array Value) : results fn tmps = (do let vs ← fn.results.mapM (resSem tmps); Pure.pure (if h : vs.size = 1 then vs[0] else .tuple vs)) := rfl
theorem resV_ok {T : Tabs} (hT : TabR T cx.F0) {N : Nat} {s : VS} {a : Act} (h : CRel cx G N s a w) {r : ResultVar} {v : PV} (hv : resV P T s r = some v) : ∃ u, (resSem a.tmps r).run P w = .ok u w ∧ Rep v G w u := by
  unfold resV at hv
  split at hv
  · rename_i t
    injection hv with hv; subst hv
    refine ⟨_, rfl, ?_⟩
    cases he : getN t s.env with
    | none => trivial
    | some x => exact h.env t x he
  · rename_i t ty
    split at hv
    · rename_i n off he
      split at hv
      · rename_i x hl
        injection hv with hv; subst hv
        obtain ⟨b, h1, h2⟩ := h.env t _ he
        obtain ⟨u, r1, r2⟩ := loadR_ok (P := P) h.inv hT (t := ty) (x := .ptr n off) (.inl hl) (show Rep (.ptr n off) G w _ from ⟨b, h1, h2⟩)
        refine ⟨u, ?_, r2⟩
        show (do loadVar ty (← asAddr (a.tmps.getD t undef)) : Sem Value).run P w = _
        rw [h2] at r1 ⊢
        simpa [asAddr, Instr.loadAt, Instr.sureAddr] using r1
      · cases hv
    · cases hv
theorem resVs_ok {T : Tabs} (hT : TabR T cx.F0) {N : Nat} {s : VS} {a : Act} (h : CRel cx G N s a w) : ∀ {rs : List ResultVar} {xs : List PV}, resVs P T s rs = some xs → ∃ us : List Value, (rs.mapM (resSem a.tmps)).run P w = .ok us w ∧ RepL' xs G w us
  | [], xs, hv => by
    unfold resVs at hv; injection hv with hv; subst hv
    exact ⟨[], rfl, rfl⟩
  | r :: rs, xs, hv => by
    unfold resVs at hv
    split at hv
    · rename_i y ys h1 h2
      injection hv with hv; subst hv
      obtain ⟨u, r1, r2⟩ := resV_ok hT h h1
      obtain ⟨us, r3, r4⟩ := resVs_ok hT h h2
      refine ⟨u :: us, ?_, u, us, rfl, r2, r4⟩
      rw [List.mapM_cons, Sem.run_bind, r1, Result.andThen_ok, Sem.run_bind, r3]; rfl
    · cases hv
theorem results_ok {T : Tabs} (hT : TabR T cx.F0) {N : Nat} {s : VS} {a : Act} (h : CRel cx G N s a w) {fn : Func} {v : PV} (hv : resultsV P T s fn.results.toList = some v) : ∃ u, (results fn a.tmps).run P w = .ok u w ∧ Rep v G w u := by
  have gen : ∀ (us : List Value), ((fn.results.toList.mapM (resSem a.tmps)).run P w = .ok us w) →
      (results fn a.tmps).run P w = .ok (if h : us.toArray.size = 1 then us.toArray[0] else .tuple us.toArray) w := by
    intro us hu
    rw [results_eq]
    simp only [Array.mapM_eq_mapM_toList, Sem.run_bind, Sem.run_map]
    rw [hu]
    rfl
  unfold resultsV at hv
  split at hv
  · rename_i x hx
    injection hv with hv; subst hv
    obtain ⟨us, r1, r2⟩ := resVs_ok hT h hx
    obtain ⟨u, us', rfl, h1, h2⟩ := r2
    obtain rfl : us' = [] := h2
    exact ⟨u, by rw [gen _ r1]; rfl, h1⟩
  · rename_i xs hne hx
    injection hv with hv; subst hv
    obtain ⟨us, r1, r2⟩ := resVs_ok hT h hx
    refine ⟨.tuple us.toArray, ?_, us, r2, rfl⟩
    rw [gen _ r1, dif_neg]
    intro h1
    have h2 : us.length = 1 := by simpa using h1
    have h3 := r2.length
    match xs, (by omega : xs.length = 1) with
    | [x], _ => exact hne x rfl
  · cases hv
theorem getN_with {xs : List PV} {t : Nat} {x : PV} : ∀ {ts : List Nat}, getN t (withAt xs ts) = some x → x = xs.getD t .undef
  | [], h => by cases h
  | u :: ts, h => by
    replace h : (bif Nat.beq u t then some (xs.getD u .undef) else getN t (withAt xs ts)) = some x := h
    cases hb : Nat.beq u t with
    | true =>
      rw [hb] at h
      have := Nat.eq_of_beq_eq_true hb
      subst this
      injection h with h; exact h.symm
    | false => rw [hb] at h; exact getN_with h
theorem Inv.bare {F : Nat → Nat → Option Value} (h : Fits F w) : Inv ⟨[], w, F, 0, fun _ => none⟩ (bareG F) [] w :=
  ⟨h, FLe.refl _, fun b o u hu => .inl hu, (fun n x hx => by cases hx), (fun n b hb => by cases hb), (fun t b ht => by cases ht), (fun n n' b hb => by cases hb), (fun t t' b ht => by cases ht), (fun n t b hb => by cases hb), (fun i hi => by cases hi), ⟨rfl, rfl, rfl, Nat.le_refl _, fun _ _ _ => rfl⟩⟩
theorem evF_ok {T : Tabs} {X : Tbl} {H : Loops} {fuel : Nat} {f : FuncId} {fn : Func} (hmix : P.follows .mixedOrders = true) (hX : XOk P T X) (hf : P.funcs[f]? = some fn) (hn : (fn.name == "runtime.NumGoroutine") = false) {xs : List PV} {r : PV} {pre : Prop}
    (he : pre → evF P X T H fuel fn xs fun v => v = r) (hnm : NoN xs := by exact ⟨rfl, rfl⟩) : FuncOk P T f xs ⟨pre, r⟩ := by
  refine .of_plain hnm ?_
  intro hpre F w vs hfits htab hwd hx
  have he := he hpre
  unfold evF at he
  cases hb : fn.body with
  | none => rw [hb] at he; exact he.elim
  | some c =>
    rw [hb] at he
    replace he : evC P X T H fn.ntmps fuel none c ⟨[], withAt xs (slotsOf (keepF fn) fn.ntmps), []⟩ (fun e s => match e with
      | .normal => outL (resultsV P T s fn.results.toList) fun v => v = r
      | .ret => outL (resultsV P T s fn.results.toList) fun v => v = r
      | _ => False) := he
    left
    refine ⟨?_, ?_⟩
    · unfold callFunc
      simp only [Sem.run_bind, run_program, Result.andThen_ok, hf]
      rw [hn]
      simp [hb]
    · refine calls_of_wp hf hb ?_
      have hlen := hx.length
      have hrel : CRel ⟨[], w, F, 0, fun _ => none⟩ (bareG F) fn.ntmps ⟨[], withAt xs (slotsOf (keepF fn) fn.ntmps), []⟩ { tmps := vs.toArray ++ Array.replicate (fn.ntmps - vs.toArray.size) undef, defers := [] } w := by
        refine ⟨Inv.bare hfits, fun t x ht => ?_, rfl, by simp; omega, rfl⟩
        have := getN_with ht
        subst this
        by_cases hlt : t < xs.length
        · have hg : xs[t]? = some (xs.getD t .undef) := by rw [List.getD, List.getElem?_eq_getElem hlt]; rfl
          obtain ⟨u, u1, u2⟩ := hx.get hg
          have hlt2 : t < vs.length := by omega
          have : (vs.toArray ++ Array.replicate (fn.ntmps - vs.toArray.size) undef).getD t undef = u := by
            rw [List.getElem?_eq_getElem hlt2] at u1
            injection u1 with u1
            rw [Array.getD_eq_getD_getElem?, Array.getElem?_append_left (by simpa using hlt2)]
            rw [List.getElem?_toArray, List.getElem?_eq_getElem hlt2, u1]
            rfl
          show Rep _ _ _ ((vs.toArray ++ Array.replicate (fn.ntmps - vs.toArray.size) undef).getD t undef)
          rw [this]; exact u2
        · have : xs.getD t .undef = .undef := by rw [List.getD, List.getElem?_eq_none (by omega)]; rfl
          rw [this]; trivial
      have fin : ∀ G s (a : Act) w', CRel ⟨[], w, F, 0, fun _ => none⟩ G fn.ntmps s a w' → outL (resultsV P T s fn.results.toList) (fun v => v = r) → a.defers = [] ∧ ∃ u, (results fn a.tmps).run P w' = .ok u w' ∧ ∃ v, Ending.returned u = .returned v ∧ Came F w r v w' := by
        intro G s a w' hr ho
        unfold outL at ho
        split at ho
        · rename_i r0 hr0
          rw [forceV_eq] at ho
          split at ho
          · rename_i hnam
            obtain ⟨u, g1, g2⟩ := results_ok (cx := ⟨[], w, F, 0, fun _ => none⟩) htab hr hr0
            refine ⟨hr.defers, u, g1, u, rfl, ?_⟩
            obtain ⟨s1, s2⟩ := hr.inv.turn (w' := w') (callF_ok (addNew [] (PV.allL PV.tok1 r0))) none rfl rfl rfl (Nat.le_refl _) (fun _ _ _ => rfl) (fun t b e => by cases e)
            have h2 := s2 _ _ g2
            have hag : r0.mapL (PV.mark1 (callF (addNew [] (PV.allL PV.tok1 r0)))) = r0.mapL (PV.mark1 bareF) := by
              refine mapL_agree (fun y => y.tok1 = [] ∨ ∀ t ∈ y.tok1, t ∈ addNew [] (PV.allL PV.tok1 r0)) (fun y _ hp => callF_bare hp) (fun y _ ht => ?_)
              rcases ht with h1 | h1
              · exact .inl h1
              · exact .inr fun t htm => (addNew_mem (PV.allL PV.tok1 r0) []).2 t (h1 t htm)
            rw [hag] at h2
            obtain ⟨b1, b2⟩ := bare_tok r0
            have h3 := Rep.deepen b1 (by rw [b2]; exact hnam) h2
            rw [ho] at h3
            refine ⟨(G.turn w' (callF (addNew [] (PV.allL PV.tok1 r0))) none).F, fun _ => none, ⟨s1.kept.os, s1.kept.tape, s1.kept.output, s1.kept.size, fun k hk => s1.kept.block k hk (by simp)⟩, s1.base, s1.fits, fun b o u hu => ?_, (fun t b e => by cases e), h3⟩
            rcases s1.ext b o u hu with h4 | h4
            · exact .inl h4
            · rcases h4 with h4 | h4
              · cases h4
              · exact .inr h4
          · exact ho.elim
        · exact ho.elim
      refine (evC_ok hmix hX (by show 0 ≤ 32; omega) (show TabC T ⟨[], w, F, 0, fun _ => none⟩ from ⟨htab, fun b hb => (by cases hb), hwd⟩) fuel).1 c _ _ (bareG F) _ w _ hrel he fun e G s a w' hr hk => ?_
      cases e with
      | normal => exact fin G s a w' hr hk
      | ret => exact fin G s a w' hr hk
      | exit i => exact hk.elim
      | goto l => exact hk.elim
end
section
variable [Wd] {P : Program} {T : Tabs}
def tblX : List (FuncId × (List PV → Option CallR)) → Tbl
  | [], _, _ => none
  | e :: l, f, xs => bif Nat.beq e.1 f then (match e.2 xs with | some c => some c | none => tblX l f xs) else tblX l f xs
theorem tblX_nil : XOk P T (tblX []) := fun f xs c h => by cases h
theorem tblX_cons {f : FuncId} {g : List PV → Option CallR} {l : List (FuncId × (List PV → Option CallR))} (h : ∀ xs c, g xs = some c → FuncOk P T f xs c) (hl : XOk P T (tblX l)) : XOk P T (tblX ((f, g) :: l)) := fun f' xs c hc => by
  replace hc : (bif Nat.beq f f' then (match g xs with | some c => some c | none => tblX l f' xs) else tblX l f' xs) = some c := hc
  cases hb : Nat.beq f f' with
  | true =>
    rw [hb] at hc
    cases hg : g xs with
    | none => rw [hg] at hc; exact hl f' xs c hc
    | some c' =>
      rw [hg] at hc
      injection hc with hc; subst hc
      rw [← Nat.eq_of_beq_eq_true hb]
      exact h xs c' hg
  | false => rw [hb] at hc; exact hl f' xs c hc
theorem enter_run {f : FuncId} {fn : Func} {c : Code} (hf : P.funcs[f]? = some fn) (hn : (fn.name == "runtime.NumGoroutine") = false) (hb : fn.body = some c) (vs : Array Value) (w : World) : (callFunc f vs).run P w = .ok (.enter f vs) w := by
  unfold callFunc
  simp only [Sem.run_bind, run_program, Result.andThen_ok, hf]
  rw [hn]
  simp [hb]
theorem FuncOk.of_calls {f : FuncId} {fn : Func} {c : Code} (hf : P.funcs[f]? = some fn) (hn : (fn.name == "runtime.NumGoroutine") = false) (hb : fn.body = some c) {xs : List PV} {r : PV} {pre : Prop}
    (h : pre → ∀ (F : Nat → Nat → Option Value) (w : World) (vs : List Value), Fits F w → TabR T F → Wd.wd w → RepL' xs (bareG F) w vs → ∃ u, (Calls P f vs.toArray w fun e w' => e = .returned u ∧ Below w.heap.size w w') ∧ ∀ G w, Rep r G w u) (hnm : NoN xs := by exact ⟨rfl, rfl⟩) : FuncOk P T f xs ⟨pre, r⟩ := by
  refine .of_plain hnm ?_
  intro hpre F w vs hF hT hwd hx
  obtain ⟨u, h1, h2⟩ := h hpre F w vs hF hT hwd hx
  refine .inl ⟨enter_run hf hn hb _ w, h1.mono fun e w' he => ?_⟩
  obtain ⟨rfl, hb⟩ := he
  exact ⟨u, rfl, F, fun _ => none, hb, FLe.refl _, fun b o q hq => by
    have := hF b o q hq
    rw [hb.cell (p := ⟨b, o, none⟩) (cell_lt this)]; exact this, fun b o q hq => .inl hq, (fun t b e => by cases e), h2 _ _⟩
theorem FuncOk.walk {f : FuncId} {fn : Func} {c : Code} (hf : P.funcs[f]? = some fn) (hn : (fn.name == "runtime.NumGoroutine") = false) (hb : fn.body = some c) {xs : List PV} {r : PV} {pre : Prop} (h : FuncOk P T f xs ⟨pre, r⟩) (hp : pre)
    {F : Nat → Nat → Option Value} {w : World} {vs : List Value} (hF : Fits F w) (hT : TabR T F) (hwd : Wd.wd w) (hx : RepL' xs (bareG F) w vs) (hnm : NoN xs := by exact ⟨rfl, rfl⟩) : Calls P f vs.toArray w fun e w' => ∃ u, e = .returned u ∧ Came F w r u w' := by
  rcases h.plain hnm hp F w vs hF hT hwd hx with ⟨-, h2⟩ | ⟨u, w', h1, -⟩
  · exact h2
  · rw [enter_run hf hn hb] at h1; cases h1
def noT : Tabs := fun _ => .undef
theorem noT_ok (F : Nat → Nat → Option Value) : TabR noT F := fun g hg => by cases hg
theorem fits_none (w : World) : Fits (fun _ _ => none) w := fun b o u h => by cases h
theorem FuncOk.yes {f : FuncId} {fn : Func} {c : Code} (hf : P.funcs[f]? = some fn) (hn : (fn.name == "runtime.NumGoroutine") = false) (hb : fn.body = some c) {xs : List PV} (h : FuncOk P noT f xs ⟨True, .bool true⟩)
    {w : World} {vs : List Value} (hwd : Wd.wd w) (hx : RepL' xs (bareG fun _ _ => none) w vs) (hnm : NoN xs := by exact ⟨rfl, rfl⟩) : Calls P f vs.toArray w fun e w' => e = .returned (.bool true) ∧ Below w.heap.size w w' :=
  (h.walk hf hn hb trivial (fits_none w) (noT_ok _) hwd hx hnm).mono fun e w' ⟨u, he, F', τ', hb, _, _, _, _, hr⟩ => ⟨by rw [he]; exact congrArg _ hr, hb⟩
theorem FuncOk.to {f : FuncId} {xs : List PV} {c : CallR} {pre : Prop} {r : PV} (h : FuncOk P T f xs c) (hp : pre → c.pre) (hr : pre → c.r = r) (hnm : NoN xs := by exact ⟨rfl, rfl⟩) : FuncOk P T f xs ⟨pre, r⟩ := .of_plain hnm fun hpre F w vs hF hT hwd hx => by
  have := h.plain hnm (hp hpre) F w vs hF hT hwd hx
  rw [hr hpre] at this
  exact this
end
end Go.Vc
namespace Go.Vc
theorem byteZ_range (l : Bs) (z : Int) : 0 ≤ byteZ l z ∧ byteZ l z ≤ 255 := by
  unfold byteZ
  have := (l.getD z.toNat 0).toNat_lt
  omega
theorem set_fill {α : Type} {L : List α} {i n : Nat} {z b : α} (hn : n = L.length) (hb : L[i]? = some b) : (L.take i ++ List.replicate (n - i) z).set i b = L.take (i + 1) ++ List.replicate (n - (i + 1)) z := by
  have hi : i < L.length := (List.getElem?_eq_some_iff.1 hb).1
  have h1 : (L.take i).length = i := by rw [List.length_take]; omega
  rw [List.set_append, if_neg (by omega), h1, Nat.sub_self, show n - i = (n - (i + 1)) + 1 by omega, List.replicate_succ, List.set_cons_zero, List.take_add_one, hb]
  simp
theorem zByte_byteZ (l : Bs) (z : Int) : zByte (byteZ l z) = l.getD z.toNat 0 := by
  unfold zByte byteZ
  simp
end Go.Vc
namespace Go.Vc
open Go.RowKit
section
variable [Wd] {P : Program} {cx : Cx} {G : Gh} {lh : List (Nat × PV)} {w : World}
def outR (r : Option PV) (k : PV → Prop) : Prop := match r with
  | some r => forceV 4 r fun r => match PV.allL PV.nam1 r, Nat.blt (addNew [] (PV.allL PV.tok1 r)).length 60 with
    | [], true => k (r.mapL (PV.both1 noN (inT (addNew [] (PV.allL PV.tok1 r)))))
    | _, _ => False
  | none => False
def evR (P : Program) (X : Tbl) (T : Tabs) (H : Loops) (fuel : Nat) (fn : Func) (xs : List PV) (k : PV → Prop) : Prop :=
  match fn.body with
  | none => False
  | some c => evC P X T H fn.ntmps fuel none c ⟨[], withAt xs (slotsOf (keepF fn) fn.ntmps), []⟩ fun e s => match e with
    | .normal => outR (resultsV P T s fn.results.toList) k
    | .ret => outR (resultsV P T s fn.results.toList) k
    | _ => False
end
section
variable [Wd] {P : Program} {cx : Cx} {G : Gh} {lh : List (Nat × PV)} {w : World}
theorem evH_ok {T : Tabs} {X : Tbl} {H : Loops} {fuel : Nat} {f : FuncId} {fn : Func} (hmix : P.follows .mixedOrders = true) (hX : XOk P T X) (hf : P.funcs[f]? = some fn) (hn : (fn.name == "runtime.NumGoroutine") = false) {xs : List PV} {r : PV} {pre : Prop}
    (he : pre → evR P X T H fuel fn xs fun v => ∀ G w u, Rep v G w u → Rep r G w u) (hnm : PV.allLs PV.nam1 xs = [] := by rfl) (htk : List.isEmpty (PV.allLs PV.tok1 xs) = false := by rfl) : FuncOk P T f xs ⟨pre, r⟩ := by
  refine .of_hand hnm (fun e => by rw [e] at htk; cases htk) ?_
  intro hpre F w vs τ hfits htab hwd hlτ hl hx
  replace hpre : pre := hpre
  have he := he hpre
  unfold evR at he
  cases hb : fn.body with
  | none => rw [hb] at he; exact he.elim
  | some c =>
    rw [hb] at he
    replace he : evC P X T H fn.ntmps fuel none c ⟨[], withAt xs (slotsOf (keepF fn) fn.ntmps), []⟩ (fun e s => match e with
      | .normal => outR (resultsV P T s fn.results.toList) fun v => ∀ G w u, Rep v G w u → Rep r G w u
      | .ret => outR (resultsV P T s fn.results.toList) fun v => ∀ G w u, Rep v G w u → Rep r G w u
      | _ => False) := he
    left
    refine ⟨?_, ?_⟩
    · unfold callFunc
      simp only [Sem.run_bind, run_program, Result.andThen_ok, hf]
      rw [hn]
      simp [hb]
    · refine calls_of_wp hf hb ?_
      have hlen := hx.length
      obtain ⟨cx, hcx⟩ : ∃ cx : Cx, cx = ⟨(List.range 64).filterMap τ, w, F, 0, fun _ => none⟩ := ⟨_, rfl⟩
      have hps : ∀ b, b ∈ cx.ps ↔ ∃ t, τ t = some b := fun b => by
        rw [hcx]
        show b ∈ List.filterMap τ _ ↔ _
        rw [List.mem_filterMap]
        exact ⟨fun ⟨t, _, h⟩ => ⟨t, h⟩, fun ⟨t, h⟩ => ⟨t, by have := (hl.mks t b h).2.1; simpa using this, h⟩⟩
      have hw0 : cx.w0 = w := by rw [hcx]
      have hF0 : cx.F0 = F := by rw [hcx]
      have hm0 : cx.m = 0 := by rw [hcx]
      have hinv : Inv cx ⟨fun _ => none, τ, F⟩ [] w := by
        refine ⟨hfits, by rw [hF0]; exact FLe.refl _, fun b o u hu => .inl (by rw [hF0]; exact hu), (fun n x hx => by cases hx), (fun n b hb => by cases hb), fun t b ht => ?_, (fun n n' b hb => by cases hb), hl.inj, (fun n t b hb => by cases hb), fun i hi => by rw [hm0] at hi; omega, ⟨by rw [hw0], by rw [hw0], by rw [hw0], by rw [hw0]; exact Nat.le_refl _, fun _ _ _ => by rw [hw0]⟩⟩
        obtain ⟨h1, h2, h3, h4, h5⟩ := hl.mks t b ht
        exact ⟨h1, h3, h4, .inl ((hps b).2 ⟨t, ht⟩)⟩
      have hrel : CRel cx ⟨fun _ => none, τ, F⟩ fn.ntmps ⟨[], withAt xs (slotsOf (keepF fn) fn.ntmps), []⟩ { tmps := vs.toArray ++ Array.replicate (fn.ntmps - vs.toArray.size) undef, defers := [] } w := by
        refine ⟨hinv, fun t x ht => ?_, rfl, by simp; omega, rfl⟩
        have := getN_with ht
        subst this
        by_cases hlt : t < xs.length
        · have hg : xs[t]? = some (xs.getD t .undef) := by rw [List.getD, List.getElem?_eq_getElem hlt]; rfl
          obtain ⟨u, u1, u2⟩ := hx.get hg
          have hlt2 : t < vs.length := by omega
          have : (vs.toArray ++ Array.replicate (fn.ntmps - vs.toArray.size) undef).getD t undef = u := by
            rw [List.getElem?_eq_getElem hlt2] at u1
            injection u1 with u1
            rw [Array.getD_eq_getD_getElem?, Array.getElem?_append_left (by simpa using hlt2)]
            rw [List.getElem?_toArray, List.getElem?_eq_getElem hlt2, u1]
            rfl
          show Rep _ _ _ ((vs.toArray ++ Array.replicate (fn.ntmps - vs.toArray.size) undef).getD t undef)
          rw [this]; exact u2
        · have : xs.getD t .undef = .undef := by rw [List.getD, List.getElem?_eq_none (by omega)]; rfl
          rw [this]; trivial
      have own : ∀ b, Own cx b → w.heap.size ≤ b ∨ ∃ t, τ t = some b := fun b ho => by
        rcases ho with ho | ho
        · exact .inr ((hps b).1 ho)
        · rw [hw0] at ho; exact .inl ho
      have fin : ∀ G s (a : Act) w', CRel cx G fn.ntmps s a w' → outR (resultsV P T s fn.results.toList) (fun v => ∀ G w u, Rep v G w u → Rep r G w u) → a.defers = [] ∧ ∃ u, (results fn a.tmps).run P w' = .ok u w' ∧ ∃ v, Ending.returned u = .returned v ∧ CameH F τ w r v w' := by
        intro G s a w' hr ho
        unfold outR at ho
        split at ho
        · rename_i r0 hr0
          rw [forceV_eq] at ho
          split at ho
          · rename_i hnam hbl
            obtain ⟨u, g1, g2⟩ := results_ok (cx := cx) (by rw [hF0]; exact htab) hr hr0
            refine ⟨hr.defers, u, g1, u, rfl, ?_⟩
            obtain ⟨ms, hms⟩ : ∃ ms, ms = addNew [] (PV.allL PV.tok1 r0) := ⟨_, rfl⟩
            rw [← hms] at ho hbl
            have hmd : ms.Nodup := by rw [hms]; exact addNew_nodup _ _ List.nodup_nil
            have hm60 : ms.length < 60 := Nat.le_of_ble_eq_true hbl
            have s1 := hr.inv
            have hτ : ∀ t b, (match t with | 0 => none | t + 1 => (ms[t]?).bind G.τ) = some b → ∃ i m, t = i + 1 ∧ ms[i]? = some m ∧ G.τ m = some b := fun t b ht => by
              cases t with
              | zero => cases ht
              | succ t =>
                obtain ⟨m, h1, h2⟩ := Option.bind_eq_some_iff.1 (show (ms[t]?).bind G.τ = some b from ht)
                exact ⟨t, m, rfl, h1, h2⟩
            refine ⟨G.F, fun t => match t with | 0 => none | t + 1 => (ms[t]?).bind G.τ, by rw [s1.kept.os, hw0], by rw [s1.kept.tape, hw0], by rw [s1.kept.output, hw0], by have := s1.kept.size; rw [hw0] at this; exact this, fun k hk h2 => ?_, by have := s1.base; rw [hF0] at this; exact this, s1.fits, fun b o q hq => ?_, fun t b ht => ?_, ⟨rfl, (fun i j b h => by cases h), (fun b hb => by cases hb), fun t b ht => ?_, fun t t' b h1 h2 => ?_, (fun i x h => by cases h)⟩, ho _ _ _ (Rep.map (fun y v hl hy => Rep.both_leaf (G := G) (G' := ⟨fun _ => none, fun t => match t with | 0 => none | t + 1 => (ms[t]?).bind G.τ, G.F⟩) (w := w') (w' := w') (fn := noN) (ft := inT ms) (FLe.refl _) (fun n m h => by cases h) (fun u hu => ?_) (fun t u h0 hu => ?_) hl hy) (wid_both _ _) g2)⟩
            · have := s1.kept.block k (by rw [hw0]; exact hk) fun hp => by
                obtain ⟨t, g⟩ := (hps k).1 hp
                exact h2 t g
              rw [hw0] at this; exact this
            · rcases s1.ext b o q hq with g | g
              · rw [hF0] at g; exact .inl g
              · exact .inr (own b g)
            · obtain ⟨i, m, -, -, g⟩ := hτ t b ht
              exact own b (s1.mark m b g).2.2.2
            · obtain ⟨i, m, rfl, g1, g⟩ := hτ t b ht
              obtain ⟨k1, k2, k3, k4⟩ := s1.mark m b g
              have hil : i < ms.length := (List.getElem?_eq_some_iff.1 g1).1
              exact ⟨by omega, by omega, k2, k3, fun hb => by cases hb⟩
            · obtain ⟨i, m, rfl, g1, g2⟩ := hτ t b h1
              obtain ⟨j, m', rfl, g3, g4⟩ := hτ t' b h2
              have := s1.injτ m m' b g2 g4
              subst this
              obtain ⟨a1, -⟩ := List.getElem?_eq_some_iff.1 g1
              have := (List.getElem?_inj a1 hmd).1 (g1.trans g3.symm)
              omega
            · rcases inT_ok hu with ⟨-, e⟩ | ⟨e, -⟩
              · exact e
              · exact absurd rfl e
            · rcases inT_ok hu with ⟨e, -⟩ | ⟨-, i, rfl, h1⟩
              · exact absurd e h0
              · refine ⟨by omega, fun b hb => ⟨?_, rfl⟩⟩
                show (ms[i]?).bind G.τ = _
                rw [h1]; exact hb
          · exact ho.elim
        · exact ho.elim
      refine (evC_ok hmix hX (by rw [hm0]; omega) (show TabC T cx from ⟨by rw [hF0]; exact htab, fun b hb => ?_, by rw [hw0]; exact hwd⟩) fuel).1 c _ _ ⟨fun _ => none, τ, F⟩ _ w _ hrel he fun e G s a w' hr hk => ?_
      · obtain ⟨t, g⟩ := (hps b).1 hb
        exact hlτ t b g
      · cases e with
        | normal => exact fin G s a w' hr hk
        | ret => exact fin G s a w' hr hk
        | exit i => exact hk.elim
        | goto l => exact hk.elim
end
end Go.Vc
