/- A tree in memory: its nodes, its names, how often it was asked. -/
import Derived.Test.YtedfgikikjggaaaDoorTreeB
import Derived.Test.YtedfgikikjggaaaDoorClone
import Derived.Lib.Walk
import Derived.Lib.Bytealg
import Derived.IntWalk
set_option linter.unusedVariables false
set_option linter.unusedSimpArgs false
namespace Go.Proofs.YtedfgikikjggaaaDoor
open Go.RowKit

theorem tupVB2 {v : Value} {c c' : Bool} (h3 : c = c') : Ending.returned (.tuple #[v, .bool c]) = .returned (.tuple #[v, .bool c']) := by rw [h3]
def isDir (all : List Nd) (p : Bts) : Bool := match lookN all p with | some n => n.k == 2 | none => false
def namesD (all : List Nd) (p : Bts) : List Bts := if isDir all p = true then namesIn all p else []
theorem namesD_t {all : List Nd} {p : Bts} (h : isDir all p = true) : namesD all p = namesIn all p := if_pos h
theorem namesD_f {all : List Nd} {p : Bts} (h : isDir all p = false) : namesD all p = [] := if_neg (by rw [h]; decide)
/-- What has no Go text. -/
def IsExt (P : Program) (f : Nat) (e : Array Value → Sem Value) : Prop :=
  ∃ fn, P.funcs[f]? = some fn ∧ (fn.name == "runtime.NumGoroutine") = false ∧ fn.body.isNone = true ∧ Extern.findNext fn = none ∧ Extern.find fn = some e
theorem IsExt.run {P : Program} {f : Nat} {e : Array Value → Sem Value} (h : IsExt P f e) {args : Array Value} {w w' : World} {u : Value} (he : (e args).run P w = .ok u w') : (callFunc f args).run P w = .ok (.value u) w' := by
  obtain ⟨fn, h1, h2, h3, h4, h5⟩ := h
  rw [run_callFunc_extern h1 h2 h3 h4 h5, he]; rfl
theorem ext_load : IsExt Tryd.prog 53 (Extern.Atomic.loadT (.int .i64)) := ⟨_, Tryd.func53, by kernel_rfl, by kernel_rfl, by kernel_rfl, by kernel_rfl⟩
theorem ext_add : IsExt Tryd.prog 67 (Extern.Atomic.update (Op.intArith .add) .i64 true) := ⟨_, Tryd.func67, by kernel_rfl, by kernel_rfl, by kernel_rfl, by kernel_rfl⟩
theorem run_load64 (w : World) (g o : Nat) (z : Int) (hc : w.cell? ⟨g, o, none⟩ = some (.int .i64 z)) : (callFunc 53 #[.pointer (some ⟨g, o, none⟩)]).run Tryd.prog w = .ok (.value (.int .i64 z)) w := by
  refine ext_load.run ?_
  have hdef : Extern.Atomic.loadT (.int .i64) #[.pointer (some ⟨g, o, none⟩)] = (do Extern.Atomic.read (.int .i64) (← asAddr (.pointer (some ⟨g, o, none⟩)))) := rfl
  rw [hdef]
  simp [Extern.Atomic.read, asAddr, run_load, hc]
theorem run_add64 (w : World) (g o : Nat) (z d : Int) (hc : w.cell? ⟨g, o, none⟩ = some (.int .i64 z)) (hf : w.frozen? ⟨g, o, none⟩ = false) (hw : IntKind.i64.wrap (z + d) = z + d) : (callFunc 67 #[.pointer (some ⟨g, o, none⟩), .int .i64 d]).run Tryd.prog w = .ok (.value (.int .i64 (z + d))) (w.setCell ⟨g, o, none⟩ (.int .i64 (z + d))) := by
  refine ext_add.run ?_
  have hdef : Extern.Atomic.update (Op.intArith .add) .i64 true #[.pointer (some ⟨g, o, none⟩), .int .i64 d] = (do
      let a ← asAddr (.pointer (some ⟨g, o, none⟩))
      let old ← Extern.Atomic.read (.int .i64) a
      let new ← Op.intArith .add .i64 (← asInt old) (← asInt (.int .i64 d))
      store a new .atomic
      pure (if true = true then new else old)) := rfl
  rw [hdef]
  simp [Extern.Atomic.read, asAddr, run_load, hc, asInt, asIntOf, Op.intArith, hw]
  rw [run_store Tryd.prog w _ _ _ (by rfl), hc]
  simp [hf]
set_option maxHeartbeats 1000000 in
theorem Asked_any (t : Nat) (all : List Nd) (c : Int) (w : World) (h : TreeIs w t all c) (hc0 : 0 ≤ c) (hc1 : c ≤ 1000000) :
    Calls Tryd.prog 13 #[.pointer (some ⟨t, 0, none⟩)] w fun e w' => e = .returned (.int .i64 c) ∧ w = w' := by
  obtain ⟨m1, m2, sl, n, h1, -⟩ := h
  have c3 : w.cell? ⟨t, 3, none⟩ = some (.int .i64 c) := by rw [h1.cell]; rfl
  have hrun := run_load64 w t 3 c c3
  have HL : Hid (Calls Tryd.prog 36 #[.pointer (some ⟨t, 3, none⟩)] w fun e w' => e = .returned (.int .i64 c) ∧ w = w') := Lib.hid (by
    go_enter Tryd.func36, Tryd.ntmps36
    go_wp2_with fail
    go_ret
    exact ⟨rfl, rfl⟩)
  clear h1 hrun
  go_enter Tryd.func13, Tryd.ntmps13
  go_wp2_with fail
  refine HL.out.mono ?_
  rintro e w1 ⟨rfl, rfl⟩
  go_wp2_with fail
  go_ret
  exact ⟨rfl, rfl⟩
set_option maxHeartbeats 1000000 in
theorem Ask_any (t : Nat) (all : List Nd) (c : Int) (w : World) (h : TreeIs w t all c) (hc0 : 0 ≤ c) (hc1 : c ≤ 1000000) :
    Calls Tryd.prog 28 #[.pointer (some ⟨t, 0, none⟩)] w fun e w' => e = .returned (.tuple #[]) ∧ TreeIs w' t all (c + 1) ∧ w.grownBy w' (some t) := by
  obtain ⟨m1, m2, sl, n, h1, h2, ⟨n2, g, h3, h3'⟩, h4⟩ := h
  have c3 : w.cell? ⟨t, 3, none⟩ = some (.int .i64 c) := by rw [h1.cell]; rfl
  have f3 : w.frozen? ⟨t, 3, none⟩ = false := h1.frozen 3
  have hrun := run_add64 w t 3 c 1 c3 f3 (IntWalk.i64_in _ (by omega))
  have HG := Lib.hid (grownBy_set w t 3 (.int .i64 (c + 1)))
  have HT : Hid (TreeIs (w.setCell ⟨t, 3, none⟩ (.int .i64 (c + 1))) t all (c + 1)) := Lib.hid (by
    have hb := h1.set 3 (by simp) (.int .i64 (c + 1))
    have h1' : w.heap[t]? = some (.cells #[.map (some m1), .map (some m2), sl, .int .i64 c] 59 (0, 0)) := h1
    refine ⟨m1, m2, sl, n, hb, h2.set (h2.ne_cells h1') _, ⟨n2, g, h3.set (h3.ne_cells h1') _, h3'.grown HG.out fun f v hv => .inr fun e => ?_⟩, ?_⟩
    · have h5 := h3' f
      rw [hv] at h5
      rcases h5.2 with ⟨e1, -⟩ | ⟨g2, cap, cur, e1, -, hh, -⟩
      · rw [e1] at e; simp [Value.ownBlock] at e
      · rw [e1] at e
        have e2 : g2 = t := by simpa [Value.ownBlock] using e
        subst e2
        rw [hh] at h1'
        injection h1' with h1'
        injection h1' with _ h6 _
        exact absurd h6 (by decide)
    · obtain ⟨a, cap, e1, e2, e3, e5, e4⟩ := h4
      refine ⟨a, cap, e1, e2, e3, e5, fun h0 => ?_⟩
      obtain ⟨g3, off, e6, e7⟩ := e4 h0
      refine ⟨g3, off, e6, fun i hi => ?_⟩
      obtain ⟨q0, q1, q2⟩ := e7 i hi
      have hne : g3 ≠ t := by
        rintro rfl
        rw [h1.cell] at q0 q1 q2
        have hb4 : off + i * 3 + 2 < 4 := by
          rcases Nat.lt_or_ge (off + i * 3 + 2) 4 with h | h
          · exact h
          · rw [List.getElem?_eq_none (by simpa using h)] at q2; cases q2
        have h01 : off + i * 3 = 0 ∨ off + i * 3 = 1 := by omega
        rcases h01 with h01 | h01
        · rw [h01] at q0; cases q0
        · rw [h01] at q0; cases q0
      have hc : ∀ o, (w.setCell ⟨t, 3, none⟩ (.int .i64 (c + 1))).cell? ⟨g3, o, none⟩ = w.cell? ⟨g3, o, none⟩ := fun o => World.cell?_of_block (Below.heap_setCell w ⟨t, 3, none⟩ _ g3 hne)
      rw [hc, hc, hc]
      exact ⟨q0, q1, q2⟩)
  have HL : Hid (Calls Tryd.prog 44 #[.pointer (some ⟨t, 3, none⟩), .int .i64 1] w fun e w' => e = .returned (.int .i64 (c + 1)) ∧ w' = w.setCell ⟨t, 3, none⟩ (.int .i64 (c + 1))) := Lib.hid (by
    go_enter Tryd.func44, Tryd.ntmps44
    go_wp2_with fail
    go_ret
    exact ⟨rfl, rfl⟩)
  clear h1 hrun h2 h3 h3' h4
  go_enter Tryd.func28, Tryd.ntmps28
  go_wp2_with fail
  refine HL.out.mono ?_
  rintro e w1 ⟨rfl, rfl⟩
  go_wp2_with fail
  go_end0
  exact ⟨rfl, HT.out, HG.out⟩
end Go.Proofs.YtedfgikikjggaaaDoor
