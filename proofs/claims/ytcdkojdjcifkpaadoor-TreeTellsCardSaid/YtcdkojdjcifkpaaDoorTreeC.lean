/- A tree in memory: its nodes, its names, how often it was asked. -/
import Derived.Test.YtcdkojdjcifkpaaDoorTreeB
import Derived.Test.YtcdkojdjcifkpaaDoorClone
import Derived.Lib.Walk
import Derived.Lib.Bytealg
import Derived.IntWalk
set_option linter.unusedVariables false
set_option linter.unusedSimpArgs false
namespace Go.Proofs.YtcdkojdjcifkpaaDoor
open Go.RowKit

set_option maxHeartbeats 1000000 in
theorem cloneN_any (v : Value) (us : List Nd) (w : World) (hv : IsNds w v us) (hm : us.length ≤ 1000000) :
    Calls Tryd.prog 30 #[v] w fun e w' => ∃ v', e = .returned v' ∧ OwnN w' w.heap.size v' us ∧ Below w.heap.size w w' := by
  have hv0 := hv
  obtain ⟨a, cap, rfl, hc1, hc2, hc0, hs⟩ := hv
  have HV := Lib.hid hv0
  clear hs hv0
  have hnil := fun (x : World) (a : Option Addr) (n c n' c' : Nat) => Lib.run_eql_slice_nil (P := Tryd.prog) x 22 37 a n c n' c' Tryd.underlying22
  cases a with
  | none =>
    obtain rfl : cap = 0 := hc0 rfl
    have hl : us = [] := List.eq_nil_of_length_eq_zero (by omega)
    subst hl
    go_enter Tryd.func30, Tryd.ntmps30
    go_wp2
    go_ret
    exact ⟨_, rfl, OwnN.nil _ _, Below.refl _ _⟩
  | some a =>
    clear hc0
    go_enter Tryd.func30, Tryd.ntmps30
    go_wp2_with (at_builtin; refine wpList_appNS _ rfl _ _ rfl w.heap.size _ [] rfl (World.ownsRow_made w #[] 0 (Nat.le_refl _) (Nat.zero_le _) rfl) _ us rfl (HV.out.below (ext_alloc _ _)) ?c2 ?c4 ?_)
    case c2 => simp; omega
    case c4 => simp
    intro v2 w2 hown2 hgr2
    try rw [List.nil_append] at hown2
    go_wp2
    go_ret
    refine ⟨_, rfl, by simpa using hown2, (ext_alloc w _).grown hgr2 (by simp) (fun k hk => by simp [Value.ownBlock] at hk; omega)⟩
set_option maxRecDepth 100000 in
set_option maxHeartbeats 2000000 in
theorem All_any (t : Nat) (all : List Nd) (c : Int) (w : World) (h : TreeIs w t all c) (hm : all.length ≤ 1000000) :
    Calls Tryd.prog 13 #[.pointer (some ⟨t, 0, none⟩)] w fun e w' => ∃ v', e = .returned v' ∧ IsNds w' v' all ∧ Below w.heap.size w w' := by
  obtain ⟨m1, m2, sl, n, h1, h2, h3, h4⟩ := h
  have c0 : w.cell? ⟨t, 2, none⟩ = some sl := by rw [h1.cell]; rfl
  have HC := Lib.hid (cloneN_any sl all w h4 hm)
  obtain ⟨a, cap, rfl, -⟩ := h4
  clear h1 h2 h3
  go_enter Tryd.func13, Tryd.ntmps13
  go_wp2_with fail
  refine HC.out.mono ?_
  rintro e w1 ⟨v', rfl, ho, hb⟩
  go_wp2_with fail
  go_ret
  exact ⟨_, rfl, ho.isNds, hb⟩
theorem tupVB2 {v : Value} {c c' : Bool} (h3 : c = c') : Ending.returned (.tuple #[v, .bool c]) = .returned (.tuple #[v, .bool c']) := by rw [h3]
def isDir (all : List Nd) (p : Bts) : Bool := match lookN all p with | some n => n.k == 2 | none => false
def namesD (all : List Nd) (p : Bts) : List Bts := if isDir all p = true then namesIn all p else []
theorem namesD_t {all : List Nd} {p : Bts} (h : isDir all p = true) : namesD all p = namesIn all p := if_pos h
theorem namesD_f {all : List Nd} {p : Bts} (h : isDir all p = false) : namesD all p = [] := if_neg (by rw [h]; decide)
set_option maxRecDepth 100000 in
set_option maxHeartbeats 2000000 in
theorem Names_any (t : Nat) (all : List Nd) (c : Int) (p : Bts) (w : World) (h : TreeIs w t all c) (hp : p.length ≤ 1000000) (hm : all.length ≤ 1000000) :
    Calls Tryd.prog 16 #[.pointer (some ⟨t, 0, none⟩), .string ⟨p.toArray⟩] w fun e w' => ∃ v', e = .returned (.tuple #[v', .bool (isDir all p)]) ∧ IsStr w' v' (namesD all p) ∧ Below w.heap.size w w' := by
  have HL := Lib.hid (Look_any t all c p w h hp)
  have HT := Lib.hid h
  have HD : Hid (isDir all p = match lookN all p with | some n => n.k == 2 | none => false) := Lib.hid rfl
  cases hl : lookN all p with
  | none =>
    rw [hl] at HL HD
    have HD2 : Hid (isDir all p = false) := Lib.hid HD.out
    clear HD hl h HT
    go_enter Tryd.func16, Tryd.ntmps16
    go_wp2_with fail
    refine HL.out.mono ?_
    rintro e w1 ⟨rfl, hb⟩
    have HB := Lib.hid hb
    clear hb
    simp only [ndV, Option.getD_none, nd0, Option.isSome_none]
    go_wp2_with fail
    go_ret2
    refine ⟨_, tupVB2 HD2.out.symm, ?_, ext_trans HB.out (ext_alloc _ _)⟩
    rw [namesD_f HD2.out]
    exact (Own.nil _ 0 9).isStr (ls := [])
  | some nd =>
    rw [hl] at HL HD
    by_cases hk : nd.k = 2
    · have HD2 : Hid (isDir all p = true) := Lib.hid (by rw [HD.out]; simp [hk])
      obtain ⟨q, kk, dd⟩ := nd
      obtain rfl : kk = 2 := hk
      have HE : Hid (namesD all p = namesIn all p) := Lib.hid (namesD_t HD2.out)
      clear HD hl h
      go_enter Tryd.func16, Tryd.ntmps16
      go_wp2_with fail
      refine HL.out.mono ?_
      rintro e w1 ⟨rfl, hb⟩
      have HB1 := Lib.hid (ext_trans hb (ext_alloc w1 (.cells #[.string ⟨q.toArray⟩, .int .i64 2, .string ⟨dd.toArray⟩] 37)))
      have HB := Lib.hid hb
      clear hb
      simp only [ndV, Option.getD_some, Option.isSome_some]
      obtain ⟨m1, m2, sl, n, h1, h2, ⟨n2, g, h3, h4⟩, -⟩ := HT.out.below HB.out
      have H4 := Lib.hid (h4.grown (World.grownBy_alloc w1 (.cells #[.string ⟨q.toArray⟩, .int .i64 2, .string ⟨dd.toArray⟩] 37) none) (fun f v _ => by cases v.ownBlock <;> simp))
      have hlook := fun o => (h3.alloc o).look Tryd.underlying52 (zeroSl _) ⟨none, 0, 0, rfl⟩ hp
      have c1 : ∀ o, (w1.alloc o).cell? ⟨t, 1, none⟩ = some (.map (some m2)) := fun o => by rw [(h1.alloc o).cell]; rfl
      have HS : Hid (∃ a l c, (g p).getD (.slice none 0 0) = .slice a l c ∧ IsStr (w1.alloc (.cells #[.string ⟨q.toArray⟩, .int .i64 2, .string ⟨dd.toArray⟩] 37)) (.slice a l c) (namesIn all p)) := Lib.hid (by
        have h5 := H4.out p
        cases hg : g p with
        | none => rw [hg] at h5; rw [h5]; exact ⟨none, 0, 0, rfl, (Own.nil _ 0 9).isStr (ls := [])⟩
        | some v =>
          rw [hg] at h5
          have h6 := Own.isStr h5
          have h6' := h6
          obtain ⟨a, cap, e, h7⟩ := h6'
          rw [e] at h6
          exact ⟨a, _, cap, e, h6⟩)
      obtain ⟨a, l, cp, e1, hs⟩ := HS.out
      rw [e1] at hlook
      have HC := Lib.hid (clone_any _ _ _ hs (Nat.le_trans (by unfold namesIn; rw [List.length_map]; exact List.length_filter_le _ _) hm))
      clear HS e1 hs h1 h2 h3 h4 H4
      go_wp2_with fail
      refine HC.out.mono ?_
      rintro e w2 ⟨v', rfl, ho, hb⟩
      have HO := Lib.hid ho
      have HB2 := Lib.hid (ext_trans HB1.out hb)
      clear ho hb
      go_wp2_with fail
      go_ret2
      exact ⟨_, tupVB2 HD2.out.symm, by rw [HE.out]; exact HO.out.isStr, HB2.out⟩
    · have HD2 : Hid (isDir all p = false) := Lib.hid (by rw [HD.out]; simp [hk])
      have hk2 : (nd.k == 2) = false := by rw [beq_eq_false_iff_ne]; exact hk
      have hk3 : (nd.k != 2) = true := by simp [hk]
      clear HD hl h HT
      go_enter Tryd.func16, Tryd.ntmps16
      go_wp2_with fail
      refine HL.out.mono ?_
      rintro e w1 ⟨rfl, hb⟩
      have HB := Lib.hid hb
      clear hb
      simp only [ndV, Option.getD_some, Option.isSome_some]
      go_wp2_with fail
      go_ret2
      refine ⟨_, tupVB2 HD2.out.symm, ?_, ext_trans HB.out (ext_alloc _ _)⟩
      rw [namesD_f HD2.out]
      exact (Own.nil _ 0 9).isStr (ls := [])
/-- What has no Go text. -/
def IsExt (P : Program) (f : Nat) (e : Array Value → Sem Value) : Prop :=
  ∃ fn, P.funcs[f]? = some fn ∧ (fn.name == "runtime.NumGoroutine") = false ∧ fn.body.isNone = true ∧ Extern.findNext fn = none ∧ Extern.find fn = some e
theorem IsExt.run {P : Program} {f : Nat} {e : Array Value → Sem Value} (h : IsExt P f e) {args : Array Value} {w w' : World} {u : Value} (he : (e args).run P w = .ok u w') : (callFunc f args).run P w = .ok (.value u) w' := by
  obtain ⟨fn, h1, h2, h3, h4, h5⟩ := h
  rw [run_callFunc_extern h1 h2 h3 h4 h5, he]; rfl
theorem ext_load : IsExt Tryd.prog 44 (Extern.Atomic.loadT (.int .i64)) := ⟨_, Tryd.func44, by kernel_rfl, by kernel_rfl, by kernel_rfl, by kernel_rfl⟩
theorem ext_add : IsExt Tryd.prog 45 (Extern.Atomic.update (Op.intArith .add) .i64 true) := ⟨_, Tryd.func45, by kernel_rfl, by kernel_rfl, by kernel_rfl, by kernel_rfl⟩
theorem run_load64 (w : World) (g o : Nat) (z : Int) (hc : w.cell? ⟨g, o, none⟩ = some (.int .i64 z)) : (callFunc 44 #[.pointer (some ⟨g, o, none⟩)]).run Tryd.prog w = .ok (.value (.int .i64 z)) w := by
  refine ext_load.run ?_
  have hdef : Extern.Atomic.loadT (.int .i64) #[.pointer (some ⟨g, o, none⟩)] = (do Extern.Atomic.read (.int .i64) (← asAddr (.pointer (some ⟨g, o, none⟩)))) := rfl
  rw [hdef]
  simp [Extern.Atomic.read, asAddr, run_load, hc]
theorem run_add64 (w : World) (g o : Nat) (z d : Int) (hc : w.cell? ⟨g, o, none⟩ = some (.int .i64 z)) (hf : w.frozen? ⟨g, o, none⟩ = false) (hw : IntKind.i64.wrap (z + d) = z + d) : (callFunc 45 #[.pointer (some ⟨g, o, none⟩), .int .i64 d]).run Tryd.prog w = .ok (.value (.int .i64 (z + d))) (w.setCell ⟨g, o, none⟩ (.int .i64 (z + d))) := by
  refine ext_add.run ?_
  have hdef : Extern.Atomic.update (Op.intArith .add) .i64 true #[.pointer (some ⟨g, o, none⟩), .int .i64 d] = (do
      let a ← asAddr (.pointer (some ⟨g, o, none⟩))
      let old ← Extern.Atomic.read (.int .i64) a
      let new ← Op.intArith .add .i64 (← asInt old) (← asInt (.int .i64 d))
      store a new .atomic
      pure (if true = true then new else old)) := rfl
  rw [hdef]
  simp [Extern.Atomic.read, asAddr, run_load, hc, asInt, asIntOf, Op.intArith, hw]
  rw [run_store Tryd.prog w _ _ _ (by rfl), hc]
  simp [hf]
set_option maxHeartbeats 1000000 in
theorem Asked_any (t : Nat) (all : List Nd) (c : Int) (w : World) (h : TreeIs w t all c) (hc0 : 0 ≤ c) (hc1 : c ≤ 1000000) :
    Calls Tryd.prog 19 #[.pointer (some ⟨t, 0, none⟩)] w fun e w' => e = .returned (.int .i64 c) ∧ w = w' := by
  obtain ⟨m1, m2, sl, n, h1, -⟩ := h
  have c3 : w.cell? ⟨t, 3, none⟩ = some (.int .i64 c) := by rw [h1.cell]; rfl
  have hrun := run_load64 w t 3 c c3
  have HL : Hid (Calls Tryd.prog 32 #[.pointer (some ⟨t, 3, none⟩)] w fun e w' => e = .returned (.int .i64 c) ∧ w = w') := Lib.hid (by
    go_enter Tryd.func32, Tryd.ntmps32
    go_wp2_with fail
    go_ret
    exact ⟨rfl, rfl⟩)
  clear h1 hrun
  go_enter Tryd.func19, Tryd.ntmps19
  go_wp2_with fail
  refine HL.out.mono ?_
  rintro e w1 ⟨rfl, rfl⟩
  go_wp2_with fail
  go_ret
  exact ⟨rfl, rfl⟩
set_option maxHeartbeats 1000000 in
theorem Ask_any (t : Nat) (all : List Nd) (c : Int) (w : World) (h : TreeIs w t all c) (hc0 : 0 ≤ c) (hc1 : c ≤ 1000000) :
    Calls Tryd.prog 21 #[.pointer (some ⟨t, 0, none⟩)] w fun e w' => e = .returned (.tuple #[]) ∧ TreeIs w' t all (c + 1) ∧ w.grownBy w' (some t) := by
  obtain ⟨m1, m2, sl, n, h1, h2, ⟨n2, g, h3, h3'⟩, h4⟩ := h
  have c3 : w.cell? ⟨t, 3, none⟩ = some (.int .i64 c) := by rw [h1.cell]; rfl
  have f3 : w.frozen? ⟨t, 3, none⟩ = false := h1.frozen 3
  have hrun := run_add64 w t 3 c 1 c3 f3 (IntWalk.i64_in _ (by omega))
  have HG := Lib.hid (grownBy_set w t 3 (.int .i64 (c + 1)))
  have HT : Hid (TreeIs (w.setCell ⟨t, 3, none⟩ (.int .i64 (c + 1))) t all (c + 1)) := Lib.hid (by
    have hb := h1.set 3 (by simp) (.int .i64 (c + 1))
    have h1' : w.heap[t]? = some (.cells #[.map (some m1), .map (some m2), sl, .int .i64 c] 59 (0, 0)) := h1
    refine ⟨m1, m2, sl, n, hb, h2.set (h2.ne_cells h1') _, ⟨n2, g, h3.set (h3.ne_cells h1') _, h3'.grown HG.out fun f v hv => .inr fun e => ?_⟩, ?_⟩
    · have h5 := h3' f
      rw [hv] at h5
      rcases h5.2 with ⟨e1, -⟩ | ⟨g2, cap, cur, e1, -, hh, -⟩
      · rw [e1] at e; simp [Value.ownBlock] at e
      · rw [e1] at e
        have e2 : g2 = t := by simpa [Value.ownBlock] using e
        subst e2
        rw [hh] at h1'
        injection h1' with h1'
        injection h1' with _ h6 _
        exact absurd h6 (by decide)
    · obtain ⟨a, cap, e1, e2, e3, e5, e4⟩ := h4
      refine ⟨a, cap, e1, e2, e3, e5, fun h0 => ?_⟩
      obtain ⟨g3, off, e6, e7⟩ := e4 h0
      refine ⟨g3, off, e6, fun i hi => ?_⟩
      obtain ⟨q0, q1, q2⟩ := e7 i hi
      have hne : g3 ≠ t := by
        rintro rfl
        rw [h1.cell] at q0 q1 q2
        have hb4 : off + i * 3 + 2 < 4 := by
          rcases Nat.lt_or_ge (off + i * 3 + 2) 4 with h | h
          · exact h
          · rw [List.getElem?_eq_none (by simpa using h)] at q2; cases q2
        have h01 : off + i * 3 = 0 ∨ off + i * 3 = 1 := by omega
        rcases h01 with h01 | h01
        · rw [h01] at q0; cases q0
        · rw [h01] at q0; cases q0
      have hc : ∀ o, (w.setCell ⟨t, 3, none⟩ (.int .i64 (c + 1))).cell? ⟨g3, o, none⟩ = w.cell? ⟨g3, o, none⟩ := fun o => World.cell?_of_block (Below.heap_setCell w ⟨t, 3, none⟩ _ g3 hne)
      rw [hc, hc, hc]
      exact ⟨q0, q1, q2⟩)
  have HL : Hid (Calls Tryd.prog 33 #[.pointer (some ⟨t, 3, none⟩), .int .i64 1] w fun e w' => e = .returned (.int .i64 (c + 1)) ∧ w' = w.setCell ⟨t, 3, none⟩ (.int .i64 (c + 1))) := Lib.hid (by
    go_enter Tryd.func33, Tryd.ntmps33
    go_wp2_with fail
    go_ret
    exact ⟨rfl, rfl⟩)
  clear h1 hrun h2 h3 h3' h4
  go_enter Tryd.func21, Tryd.ntmps21
  go_wp2_with fail
  refine HL.out.mono ?_
  rintro e w1 ⟨rfl, rfl⟩
  go_wp2_with fail
  go_end0
  exact ⟨rfl, HT.out, HG.out⟩
end Go.Proofs.YtcdkojdjcifkpaaDoor
