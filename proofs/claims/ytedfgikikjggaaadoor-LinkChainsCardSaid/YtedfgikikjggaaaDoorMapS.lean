/- Maps by texts: what stands at each key. -/
import Derived.Test.YtedfgikikjggaaaDoorNds
import Derived.Maps.RangeWalk
import Derived.Maps.OwnSet
import Derived.Sort.KeysCollected
set_option linter.unusedVariables false
set_option linter.unusedSimpArgs false
namespace Go.Proofs.YtedfgikikjggaaaDoor
open Go.RowKit Go.Maps Go.WideMaps

/-- Each value stands for itself. -/
noncomputable def heldR (C : Value → Prop) (v : Value) : Option (DataW Value × List MemPlace) := open Classical in if C v then some (.held v, []) else none
theorem heldR_some {C : Value → Prop} {v : Value} {y : DataW Value × List MemPlace} (h : heldR C v = some y) : C v ∧ y = (.held v, []) := by
  unfold heldR at h
  split at h
  · rename_i hc; injection h with h; exact ⟨hc, h.symm⟩
  · cases h
theorem heldR_mk {C : Value → Prop} {v : Value} (h : C v) : heldR C v = some (.held v, []) := by unfold heldR; rw [if_pos h]
theorem lawStr : Keyed Tryd.prog 9 := string_keyed Tryd.underlying9
theorem keyS_ok (s : Bts) (h : s.length ≤ 1000000) : keyOf Tryd.prog 9 (.string ⟨s.toArray⟩) = some (.string s) := by
  have := keyOf_string_mk (P := Tryd.prog) Tryd.underlying9 (s := ⟨s.toArray⟩) (by show s.toArray.size ≤ _; rw [List.size_toArray]; unfold maxLen; omega)
  simpa using this
theorem isKeyStr (s : Bts) : WideAt.IsKeyLit (.string s) := trivial
/-- What a map's datum has at each key. -/
def Gives (D : DataW Value) (g : Bts → Option Value) : Prop := ∀ s, match g s with
  | some v => Maps.has D (.string s) = true ∧ ∀ zd, D.atKey (.string s) zd = .held v
  | none => Maps.has D (.string s) = false
def MapS (C : Value → Prop) (w : World) (b n : Nat) (g : Bts → Option Value) : Prop :=
  ∃ D : DataW Value, w.ownsMap Tryd.prog 9 (heldR C) b n D ∧ Gives D g ∧ Maps.IsMap D
def updG (g : Bts → Option Value) (s : Bts) (v : Value) : Bts → Option Value := fun x => if x = s then some v else g x
theorem Gives.put {D : DataW Value} {g : Bts → Option Value} (h : Gives D g) (hD : Maps.IsMap D) (s : Bts) (v : Value) : Gives (D.put (.string s) (.held v)) (updG g s v) := by
  intro x
  unfold updG
  by_cases hx : x = s
  · subst hx
    rw [if_pos rfl]
    exact ⟨Maps.has_put_same hD (isKeyStr _) _, fun zd => Maps.atKey_put_same hD (isKeyStr _) _ _⟩
  · rw [if_neg hx]
    have hne : Lit.string x ≠ Lit.string s := fun e => hx (by injection e)
    have h2 := h x
    cases hg : g x with
    | none => rw [hg] at h2; show Maps.has _ _ = false; rw [Maps.has_put_other hne]; exact h2
    | some u => rw [hg] at h2; exact ⟨by rw [Maps.has_put_other hne]; exact h2.1, fun zd => by rw [Maps.atKey_put_other hne]; exact h2.2 zd⟩
theorem Gives.of_at {D : DataW Value} {g : Bts → Option Value} (h : Gives D g) {s : Bts} {v : Value} (hv : ∀ zd, D.atKey (.string s) zd = .held v) : g s = some v := by
  have h2 := h s
  cases hg : g s with
  | none =>
    rw [hg] at h2
    have := Maps.has_true_of_atKey hv
    rw [h2] at this; cases this
  | some u =>
    rw [hg] at h2
    have := (h2.2 .nil).symm.trans (hv .nil)
    injection this with this
    rw [this]
section
variable {C : Value → Prop} {w w' : World} {b n : Nat} {g : Bts → Option Value}
theorem MapS.made (C : Value → Prop) (w : World) : MapS C (w.alloc (.map #[] 0)) w.heap.size 0 (fun _ => none) :=
  ⟨.map [], World.ownsMap_made _ _ _ _, fun s => rfl, Maps.isMap_empty⟩
theorem MapS.lt (h : MapS C w b n g) : b < w.heap.size := by obtain ⟨D, h, -⟩ := h; exact h.lt
theorem MapS.mono (h : MapS C w b n g) {m : Nat} (hm : n ≤ m) : MapS C w b m g := by obtain ⟨D, h, h2⟩ := h; exact ⟨D, h.mono hm, h2⟩
theorem MapS.kept {row : Option Nat} (h : MapS C w b n g) (hg : w.grownBy w' row) (hr : some b ≠ row) : MapS C w' b n g := by obtain ⟨D, h, h2⟩ := h; exact ⟨D, h.kept hg hr, h2⟩
theorem MapS.below (h : MapS C w b n g) (hg : Below w.heap.size w w') : MapS C w' b n g := h.kept (grownBy_below hg none) (by simp)
theorem MapS.alloc (h : MapS C w b n g) (o : Obj) : MapS C (w.alloc o) b n g := h.kept (World.grownBy_alloc w o none) (by simp)
theorem MapS.drew (h : MapS C w b n g) (k : Nat) : MapS C (w.drewN k) b n g := h
theorem MapS.set (h : MapS C w b n g) {a : Addr} (ha : b ≠ a.block) (u : Value) : MapS C (w.setCell a u) b n g := by obtain ⟨D, h, h2⟩ := h; exact ⟨D, h.setCell ha u, h2⟩
/-- No block of cells is a map's. -/
theorem MapS.ne_cells (h : MapS C w b n g) {c : Nat} {cs : Array Value} {t : TypeId} {fz : Nat × Nat} (hc : w.heap[c]? = some (.cells cs t fz)) : b ≠ c := by
  rintro rfl
  obtain ⟨D, ⟨es, clock, hb, -⟩, -⟩ := h
  rw [hb] at hc; cases hc
theorem Gives.val {D : DataW Value} {g : Bts → Option Value} (hG : Gives D g) {s : Bts} {z v : Value} {ps : List MemPlace} (hv : heldR C v = some (D.atKey (.string s) (.held z), ps)) : v = (g s).getD z ∧ Maps.has D (.string s) = (g s).isSome := by
  have h2 := hG s
  obtain ⟨-, hv⟩ := heldR_some hv
  have e := congrArg Prod.fst hv
  cases hg : g s with
  | none =>
    rw [hg] at h2
    have e2 : D.atKey (.string s) (.held z) = .held z := Maps.atKey_of_not_has h2 _
    have e3 : DataW.held z = DataW.held v := e2.symm.trans e
    injection e3 with e4
    exact ⟨e4.symm, h2⟩
  | some u =>
    rw [hg] at h2
    have e3 : DataW.held u = DataW.held v := (h2.2 (.held z)).symm.trans e
    injection e3 with e4
    exact ⟨e4.symm, h2.1⟩
/-- 'v, ok := m[k]'. -/
theorem MapS.look_ok {t e : TypeId} (h : MapS C w b n g) (ht : Tryd.prog.underlying t = some (.map 9 e)) {z : Value} (hz : (zeroValue e).run Tryd.prog w = .ok z w) (hCz : C z) {s : Bts} (hs : s.length ≤ 1000000) :
    (Instr.lookup t (.map (some b)) (.string ⟨s.toArray⟩) true).run Tryd.prog w = .ok (.tuple #[(g s).getD z, .bool (g s).isSome]) w := by
  obtain ⟨D, h, hG, -⟩ := h
  obtain ⟨v, ps, hrun, hv⟩ := h.look_ok lawStr ht hz (heldR_mk hCz) (keyS_ok s hs)
  obtain ⟨e1, e2⟩ := hG.val hv
  rw [← e1, ← e2]
  exact hrun
/-- 'm[k]'. -/
theorem MapS.look {t e : TypeId} (h : MapS C w b n g) (ht : Tryd.prog.underlying t = some (.map 9 e)) {z : Value} (hz : (zeroValue e).run Tryd.prog w = .ok z w) (hCz : C z) {s : Bts} (hs : s.length ≤ 1000000) :
    (Instr.lookup t (.map (some b)) (.string ⟨s.toArray⟩) false).run Tryd.prog w = .ok ((g s).getD z) w := by
  obtain ⟨D, h, hG, -⟩ := h
  obtain ⟨v, ps, hrun, hv⟩ := h.lookup lawStr ht hz (heldR_mk hCz) (keyS_ok s hs)
  obtain ⟨e1, e2⟩ := hG.val hv
  rw [← e1]
  exact hrun
/-- 'm[k] = v'. -/
theorem MapS.update {t e : TypeId} (h : MapS C w b n g) (ht : Tryd.prog.underlying t = some (.map 9 e)) (hn : n ≤ 1000000) {s : Bts} (hs : s.length ≤ 1000000) {v : Value} (hv : C v) :
    ∃ w', (Instr.mapUpdate t (.map (some b)) (.string ⟨s.toArray⟩) v).run Tryd.prog w = .ok () w' ∧ MapS C w' b (n + 1) (updG g s v) ∧ w.grownBy w' (some b) := by
  obtain ⟨D, h, hG, hD⟩ := h
  obtain ⟨w', h1, h2, h3⟩ := h.update lawStr ht (by unfold maxLen; omega) (keyS_ok s hs) (heldR_mk hv)
  exact ⟨w', h1, ⟨_, h2, hG.put hD s v, hD.put _ _⟩, h3⟩
end
theorem run_makeMapN {P : Program} {t k e : TypeId} (hd : P.underlying t = some (.map k e)) (z : Int) (w : World) : (Instr.makeMap t (some (.int .i64 z))).run P w = .ok (.map (some w.heap.size)) (w.alloc (.map #[] 0)) := by
  unfold Instr.makeMap
  simp only [Sem.run_bind, run_underlying hd, Result.andThen_ok]
  rfl
theorem run_makeMap0 {P : Program} {t k e : TypeId} (hd : P.underlying t = some (.map k e)) (w : World) : (Instr.makeMap t none).run P w = .ok (.map (some w.heap.size)) (w.alloc (.map #[] 0)) := by
  unfold Instr.makeMap
  simp only [Sem.run_bind, run_underlying hd, Result.andThen_ok]
  rfl
end Go.Proofs.YtedfgikikjggaaaDoor
