/- The evaluator: tables that are laid. -/
import Derived.Test.YtniednnklbdciaaDoorEvZC
set_option linter.unusedVariables false
set_option linter.unusedSectionVars false
set_option linter.unusedSimpArgs false
namespace Go.Ev
variable [Sg] [Sl]
open Go.RowKit
variable {P : Program}

/-- A table: its global, its cells' type, what it holds, how great an element is. -/
structure Tb where
  g : Nat
  e : TypeId
  l : List AV
  esz : Nat
noncomputable def Tb.blk (t : Tb) : Blk := .cells t.e t.l.length (putL t.l 0 .leaf) true t.esz
noncomputable def tabT : List Tb → Tr Blk
  | [] => .leaf
  | t :: ts => (tabT ts).set (path t.g) (some t.blk)
/-- It lies where it lies. -/
def Tb.At (n : Nat) (w : World) (t : Tb) : Prop := t.g < n ∧ ∃ vs, conL (globB n) t.l = some vs ∧ (∀ u ∈ vs, u.oneCell' = true) ∧ w.heap[t.g]? = some (.cells vs.toArray t.e (0, 0))
theorem tabT_get : ∀ {ts : List Tb} {b : Nat} {x : Blk}, (tabT ts).get (path b) = some x → ∃ t ∈ ts, t.g = b ∧ x = t.blk
  | [], b, x, h => by rw [show tabT [] = .leaf from rfl, get_leaf] at h; cases h
  | t :: ts, b, x, h => by
    rw [show tabT (t :: ts) = (tabT ts).set (path t.g) (some t.blk) from rfl, get_set] at h
    split at h
    · rename_i hp
      injection h with h
      exact ⟨t, List.mem_cons_self .., (path_inj hp).symm, h.symm⟩
    · obtain ⟨t', h1, h2⟩ := tabT_get h
      exact ⟨t', List.mem_cons_of_mem _ h1, h2⟩
theorem globT {w : World} {n : Nat} {ts : List Tb} (h : ∀ t ∈ ts, t.At n w) : HR (globB n) (.mk (tabT ts) n n) w := by
  refine ⟨fun b x hb => ?_, fun b b' x x' c κ κ' hb hb' e e' => ?_, fun b hb => if_neg (by have : n ≤ b := hb; omega), Nat.le_refl _⟩
  · obtain ⟨t, h1, rfl, rfl⟩ := tabT_get hb
    obtain ⟨h2, vs, h3, h4, h5⟩ := h t h1
    have hlen := conL_len h3
    refine ⟨h2, t.g, 0, if_pos h2, vs.toArray, (0, 0), h5, fun i _ hi => by omega, fun i hi => ?_, by simp; omega, fun _ => by simp; omega, fun h => by cases h⟩
    obtain ⟨av, hav⟩ : ∃ av, t.l[i]? = some av := ⟨_, List.getElem?_eq_getElem hi⟩
    obtain ⟨u, hu, hc⟩ := conL_get h3 hav
    refine ⟨av, u, ?_, by simpa using hu, hc, h4 u (List.mem_of_getElem? hu)⟩
    rw [get_putL, if_pos ⟨Nat.zero_le _, by omega⟩, Nat.sub_zero]; exact hav
  · unfold globB at e e'
    split at e
    · split at e'
      · injection e with e; injection e' with e'
        injection e with e1 _; injection e' with e2 _
        rw [e1, e2]
      · cases e'
    · cases e
/-- Where tables are asked. -/
theorem Runs.tabs {X : Nat → Nat} (r : Runs P X) {fuel d f n : Nat} {fn : Func} {c : Code} (hf : P.funcs[f]? = some fn) (hb : fn.body = some c) (hn : P.globals.size ≤ n) {xs : List AV} {vs : List Value} (hx : conL (globB n) xs = some vs) {w : World} {ts : List Tb} (ht : ∀ t ∈ ts, t.At n w)
    (H : callK P X fuel d f xs (.mk (tabT ts) n n) (fin n) = .yes) : Calls P f vs.toArray w fun e w' => e = .returned (.bool true) ∧ Below w.heap.size w w' :=
  r.top hf hb (globT ht) (globK P hn) hx H
/-- Where tables lie in a memory, a call that runs by them is true. -/
theorem awakeAt_of {X : Nat → Nat} (r : Runs P X) {fuel d f n : Nat} {fn : Func} {c : Code} (hf : P.funcs[f]? = some fn) (hb : fn.body = some c) (hn : P.globals.size ≤ n) (hlt : ∀ e ∈ Sl.tabs, e.1 < n)
    (H : ∀ tys : Nat → TypeId, callK P X fuel d f [] (.mk (tabT (Sl.tabs.map fun e => ⟨e.1, tys e.1, e.2, 1⟩)) n n) (fin n) = .yes) : AwakeAt P f := by
  intro β h w hr hg ht
  have hty : ∃ tys : Nat → TypeId, ∀ e ∈ Sl.tabs, ∃ c sz, h.tr.get (path e.1) = some (.cells (tys e.1) e.2.length c true sz) ∧ ∀ j v, e.2[j]? = some v → c.get (path j) = some v := by
    refine ⟨fun g => match h.tr.get (path g) with | some (.cells ty _ _ _ _) => ty | _ => 0, fun e he => ?_⟩
    obtain ⟨⟨ty, c, sz, h1, h2⟩, -⟩ := ht e he
    refine ⟨c, sz, ?_, h2⟩
    dsimp only
    rw [h1]
  obtain ⟨tys, hty⟩ := hty
  have hb' : ∀ b x, (tabT (Sl.tabs.map fun e => (⟨e.1, tys e.1, e.2, 1⟩ : Tb))).get (path b) = some x → ∃ e ∈ Sl.tabs, e.1 = b ∧ x = Tb.blk ⟨e.1, tys e.1, e.2, 1⟩ := fun b x hx => by
    obtain ⟨t, h1, h2, h3⟩ := tabT_get hx
    obtain ⟨e, he, rfl⟩ := List.mem_map.1 h1
    exact ⟨e, he, h2, h3⟩
  have hr2 : HR (restr β n) (.mk (tabT (Sl.tabs.map fun e => ⟨e.1, tys e.1, e.2, 1⟩)) n n) w := by
    refine ⟨fun b x hb => ?_, fun b b' x x' c κ κ' hb hb2 e e' => ?_, fun b hb => restr_ge hb, Nat.le_refl _⟩
    · obtain ⟨e, he, rfl, rfl⟩ := hb' b x hb
      obtain ⟨c, sz, h1, h2⟩ := hty e he
      obtain ⟨-, cb, κ, g1, cs, fz, g2, g3, g4, g5, g6, -⟩ := hr.blk e.1 _ h1
      refine ⟨hlt e he, cb, κ, by rw [restr_lt (hlt e he)]; exact g1, cs, fz, g2, g3, fun i hi => ?_, g5, g6, fun h => by cases h⟩
      obtain ⟨av, u, p1, p2, p3, p4⟩ := g4 i hi
      have hav : e.2[i]? = some av := by
        have hi' : i < e.2.length := hi
        have := h2 i _ (List.getElem?_eq_getElem hi')
        rw [this] at p1; injection p1 with p1; rw [← p1]; exact List.getElem?_eq_getElem hi'
      refine ⟨av, u, ?_, p2, ?_, p4⟩
      · rw [get_putL, if_pos ⟨Nat.zero_le _, by omega⟩, Nat.sub_zero]; exact hav
      · rw [flat_con ((ht e he).2 av (List.mem_of_getElem? hav)) (restr β n) β]; exact p3
    · obtain ⟨e1, he1, rfl, -⟩ := hb' b x hb
      obtain ⟨e2, he2, rfl, -⟩ := hb' b' x' hb2
      obtain ⟨c1, sz1, h1, -⟩ := hty e1 he1
      obtain ⟨c2, sz2, h2, -⟩ := hty e2 he2
      exact hr.inj _ _ _ _ _ _ _ h1 h2 (restr_some e).2 (restr_some e').2
  have hg2 : GlobK P (restr β n) := fun g hlt => by
    obtain ⟨κ, e⟩ := hg g hlt
    exact ⟨κ, by rw [restr_lt (by omega)]; exact e⟩
  refine ⟨?_, r.top (vs := []) hf hb hr2 hg2 rfl (H tys)⟩
  unfold callFunc
  simp only [Sem.run_bind, run_program, Result.andThen_ok, hf]
  have hnn : (fn.name == "runtime.NumGoroutine") = false := by simpa using r.names f fn hf
  rw [hnn]
  simp [hb]
end Go.Ev
