/- Appends of the call's own as one step of a region that draws its order. -/
import Derived.Test.YtedfgikikjggaaaDoorOwn
import Derived.Deep.RegionLaw
import Derived.Test.YtedfgikikjggaaaDoorStr
import Derived.Lib.AppendStr
set_option linter.unusedVariables false
set_option linter.unusedSimpArgs false
namespace Go.Proofs.YtedfgikikjggaaaDoor
open Go.RowKit

theorem step_appL {P : Program} {ops : Array Oper} {o : Oper} {a : Act} {K : Act → World → Prop} {Q : Exit → Act → World → Prop} {E : Prop} (w : World)
    (hg : o.guard = none) (s x : Operand) (t : TypeId) (ho : o.op = .call { callee := .builtin .append, args := #[s, x], argTypes := #[t, t] })
    (B : Nat) (e : TypeId) (z : Value) (bytes : Nat) (he : ElemOk P t e z bytes) (v : Value) (xs : List Value) (hs : a.eval s = v) (hown : Own w B e v xs)
    (cs : Array Value) (n c : Nat) (hx : a.eval x = .slice (some ⟨w.heap.size, 0, none⟩) n c) (hn : cs.toList.length = n) (h1 : ∀ u ∈ cs.toList, u.oneCell' = true)
    (hlen : (xs.length + n) * bytes ≤ 140737488355328) (hb : xs.length + n ≤ 9223372036854775807) (hB : B ≤ w.heap.size)
    (h : ∀ v' w', Own w' B e v' (xs ++ cs.toList) → w.grownBy w' v.ownBlock → K (a.put o.dst v') w') :
    if Region.wanted o (yielded ops a.tmps) = true then Oper.wp P o a (w.alloc (.cells cs e)) K Q else E := by
  have hw : Region.wanted o (yielded ops a.tmps) = true := by simp [Region.wanted, hg]
  rw [if_pos hw]
  obtain ⟨ht, i, hi, hz, hs1, hby, hzc⟩ := he
  refine wp_append_own _ s x t ho B e i z 1 bytes ht hi hz hs1 hby hzc (by decide) v xs.length xs hs (World.ownsRow.alloc hown _) ⟨w.heap.size, 0, none⟩ n c cs.toList hx (by omega) ?_ h1 ?_ hlen ?_ ?_
  · intro j u hj
    have := cell_of_row (w.alloc (.cells cs e)) w.heap.size j cs e (0, 0) (heap_alloc_new w _)
    rw [addr_add, this]
    simpa using hj
  · unfold maxLen; omega
  · simp; omega
  · intro v' w' h2 h3 _
    refine h v' w' ?_ (grownBy_trans (World.grownBy_alloc w _ _) h3)
    unfold Own
    rw [List.length_append, hn]
    exact h2

theorem strCells_u8V (l : List UInt8) : Lib.strCells ⟨l.toArray⟩ = l.map u8V := by
  unfold Lib.strCells
  simp [u8V]
theorem wp_appStr {P : Program} {o : Oper} {a : Act} {K : Act → World → Prop} {Q : Exit → Act → World → Prop} (w : World)
    (s x : Operand) (t u : TypeId) (ho : o.op = .call { callee := .builtin .append, args := #[s, x], argTypes := #[t, u] })
    (B : Nat) (e : TypeId) (he : ElemOk P t e (.int .u8 0) 1) (hu : P.underlying u = some .string) (v : Value) (xs : List Value) (hs : a.eval s = v) (hown : Own w B e v xs)
    (l : List UInt8) (hx : a.eval x = .string ⟨l.toArray⟩) (hlen : xs.length + l.length ≤ 140737488355328) (hB : B ≤ w.heap.size)
    (h : ∀ v' w', Own w' B e v' (xs ++ l.map u8V) → w.grownBy w' v.ownBlock → K (a.put o.dst v') w') : o.wp P a w K Q := by
  obtain ⟨ht, i, hi, hz, hs1, hby, hzc⟩ := he
  obtain ⟨v', w', hr, h2, h3, _⟩ := Lib.run_append_own_string (P := P) w B t u o.type e i ht hu hi hz hs1 hby v xs.length xs hown ⟨l.toArray⟩ (by rw [str_size]; unfold maxLen; omega) (by rw [str_size]; omega) hB
  unfold Oper.wp execOp
  simp only [ho, resolve, invoke, builtin, Sem.run_bind, Sem.run_pure, Result.andThen_ok, List.map_toArray, List.map_cons, List.map_nil, hs, hx, hr]
  refine h v' w' ?_ h3
  rw [strCells_u8V, str_size] at h2
  unfold Own
  rw [List.length_append, List.length_map]
  exact h2
theorem step_appStr {P : Program} {ops : Array Oper} {o : Oper} {a : Act} {K : Act → World → Prop} {Q : Exit → Act → World → Prop} {E : Prop} (w : World)
    (hg : o.guard = none) (s x : Operand) (t u : TypeId) (ho : o.op = .call { callee := .builtin .append, args := #[s, x], argTypes := #[t, u] })
    (B : Nat) (e : TypeId) (he : ElemOk P t e (.int .u8 0) 1) (hu : P.underlying u = some .string) (v : Value) (xs : List Value) (hs : a.eval s = v) (hown : Own w B e v xs)
    (l : List UInt8) (hx : a.eval x = .string ⟨l.toArray⟩) (hlen : xs.length + l.length ≤ 140737488355328) (hB : B ≤ w.heap.size)
    (h : ∀ v' w', Own w' B e v' (xs ++ l.map u8V) → w.grownBy w' v.ownBlock → K (a.put o.dst v') w') :
    if Region.wanted o (yielded ops a.tmps) = true then Oper.wp P o a w K Q else E := by
  have hw : Region.wanted o (yielded ops a.tmps) = true := by simp [Region.wanted, hg]
  rw [if_pos hw]
  exact wp_appStr w s x t u ho B e he hu v xs hs hown l hx hlen hB h
theorem make0_run {P : Program} (w : World) (t : TypeId)
    (B : Nat) (e : TypeId) (z : Value) (bytes : Nat) (he : ElemOk P t e z bytes) (kl kc : IntKind) (C : Int) (n : Nat) (hC : C = (n : Int))
    (b2 : bytes * n ≤ 281474976710656) (b3 : n ≤ 9223372036854775807) (hB : B ≤ w.heap.size) :
    ∃ w', (Instr.makeSlice t (.int kl 0) (.int kc C)).run P w = .ok (.slice (some ⟨w.heap.size, 0, none⟩) 0 n) w' ∧ Own w' B e (.slice (some ⟨w.heap.size, 0, none⟩) 0 n) [] ∧ w.grownBy w' none := by
  obtain ⟨ht, i, hi, hz, hs1, hby, hzc⟩ := he
  obtain ⟨w', hrun, r1, r2⟩ := run_make_own (P := P) w B t e i z 1 ht hi hz hs1 kl kc n (by rw [hby]; exact b2) (by unfold maxLen; omega) hB
  subst hC
  exact ⟨w', hrun, r1, r2⟩
end Go.Proofs.YtedfgikikjggaaaDoor
