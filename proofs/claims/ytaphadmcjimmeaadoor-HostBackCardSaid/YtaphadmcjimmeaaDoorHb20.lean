import Derived.Deep.RegionLaw
import Derived.Lib.AppendStr
import Derived.Test.YtaphadmcjimmeaaDoorHb10
set_option linter.unusedVariables false
set_option linter.unusedSimpArgs false
namespace Go.Proofs.YtaphadmcjimmeaaDoor
open Go.RowKit
theorem strCells_u8V (l : List UInt8) : Lib.strCells ⟨l.toArray⟩ = l.map u8V := by
  unfold Lib.strCells
  simp [u8V]
theorem wp_appStr {P : Program} {o : Oper} {a : Act} {K : Act → World → Prop} {Q : Exit → Act → World → Prop} (w : World)
    (s x : Operand) (t u : TypeId) (ho : o.op = .call { callee := .builtin .append, args := #[s, x], argTypes := #[t, u] })
    (B : Nat) (e : TypeId) (he : ElemOk P t e (.int .u8 0) 1) (hu : P.underlying u = some .string) (v : Value) (xs : List Value) (hs : a.eval s = v) (hown : Own w B e v xs)
    (l : List UInt8) (hx : a.eval x = .string ⟨l.toArray⟩) (hlen : xs.length + l.length ≤ 140737488355328) (hB : B ≤ w.heap.size)
    (h : ∀ v' w', Own w' B e v' (xs ++ l.map u8V) → w.grownBy w' v.ownBlock → K (a.put o.dst v') w') : o.wp P a w K Q := by
  obtain ⟨ht, i, hi, hz, hs1, hby, hzc⟩ := he
  obtain ⟨v', w', hr, h2, h3, _⟩ := Lib.run_append_own_string (P := P) w B t u o.type e i ht hu hi hz hs1 hby v xs.length xs hown ⟨l.toArray⟩ (by rw [str_size]; unfold maxLen; omega) (by rw [str_size]; omega) hB
  unfold Oper.wp execOp
  simp only [ho, resolve, invoke, builtin, Sem.run_bind, Sem.run_pure, Result.andThen_ok, List.map_toArray, List.map_cons, List.map_nil, hs, hx, hr]
  refine h v' w' ?_ h3
  rw [strCells_u8V, str_size] at h2
  unfold Own
  rw [List.length_append, List.length_map]
  exact h2
theorem step_appStr {P : Program} {ops : Array Oper} {o : Oper} {a : Act} {K : Act → World → Prop} {Q : Exit → Act → World → Prop} {E : Prop} (w : World)
    (hg : o.guard = none) (s x : Operand) (t u : TypeId) (ho : o.op = .call { callee := .builtin .append, args := #[s, x], argTypes := #[t, u] })
    (B : Nat) (e : TypeId) (he : ElemOk P t e (.int .u8 0) 1) (hu : P.underlying u = some .string) (v : Value) (xs : List Value) (hs : a.eval s = v) (hown : Own w B e v xs)
    (l : List UInt8) (hx : a.eval x = .string ⟨l.toArray⟩) (hlen : xs.length + l.length ≤ 140737488355328) (hB : B ≤ w.heap.size)
    (h : ∀ v' w', Own w' B e v' (xs ++ l.map u8V) → w.grownBy w' v.ownBlock → K (a.put o.dst v') w') :
    if Region.wanted o (yielded ops a.tmps) = true then Oper.wp P o a w K Q else E := by
  have hw : Region.wanted o (yielded ops a.tmps) = true := by simp [Region.wanted, hg]
  rw [if_pos hw]
  exact wp_appStr w s x t u ho B e he hu v xs hs hown l hx hlen hB h
theorem make0_run {P : Program} (w : World) (t : TypeId)
    (B : Nat) (e : TypeId) (z : Value) (bytes : Nat) (he : ElemOk P t e z bytes) (kl kc : IntKind) (C : Int) (n : Nat) (hC : C = (n : Int))
    (b2 : bytes * n ≤ 281474976710656) (b3 : n ≤ 9223372036854775807) (hB : B ≤ w.heap.size) :
    ∃ w', (Instr.makeSlice t (.int kl 0) (.int kc C)).run P w = .ok (.slice (some ⟨w.heap.size, 0, none⟩) 0 n) w' ∧ Own w' B e (.slice (some ⟨w.heap.size, 0, none⟩) 0 n) [] ∧ w.grownBy w' none := by
  obtain ⟨ht, i, hi, hz, hs1, hby, hzc⟩ := he
  obtain ⟨w', hrun, r1, r2⟩ := run_make_own (P := P) w B t e i z 1 ht hi hz hs1 kl kc n (by rw [hby]; exact b2) (by unfold maxLen; omega) hB
  subst hC
  exact ⟨w', hrun, r1, r2⟩
section
theorem run_appB {P : Program} (w : World) (base : Nat) (t ty e : TypeId) (z : Value) (bytes : Nat) (he : ElemOk P t e z bytes)
    (v : Value) (xs : List Value) (hown : Own w base e v xs)
    (a : Addr) (m c : Nat) (news : List Value) (hl : news.length = m) (hnews : ∀ j u, news[j]? = some u → w.cell? (a.add j) = some u) (h1 : ∀ u ∈ news, u.oneCell' = true)
    (h63 : xs.length + m ≤ 9223372036854775807) (hbytes : (xs.length + m) * bytes ≤ 140737488355328) (hbase : base ≤ w.heap.size) :
    ∃ v' w', (Builtin.append_ #[t, t] ty #[v, .slice (some a) m c]).run P w = .ok v' w' ∧ Own w' base e v' (xs ++ news) ∧ w.grownBy w' v.ownBlock ∧
      (∀ k, v'.ownBlock = some k → v.ownBlock = some k ∨ w.heap.size ≤ k) := by
  obtain ⟨ht, i, hi, hz, hs1, hby, hzc⟩ := he
  have hl' : news.length = m * i.size := by rw [hs1]; omega
  obtain ⟨v', w', hr, h2, h3, _⟩ := run_append_own (P := P) w base t ty e i z 1 bytes ht hi hz hs1 hby hzc (by decide) v xs.length xs hown a m c news (by omega) hnews h1 (by unfold maxLen; omega) hbytes hbase
  refine ⟨v', w', hr, by unfold Own; rw [List.length_append, hl]; exact h2, h3, ?_⟩
  intro k hk
  rcases hown.2 with ⟨rfl, hx⟩ | ⟨g, cap, cur, rfl, hbg, hg, hnc, hcm, hcs, htake⟩
  · by_cases hm : m = 0
    · subst hm
      have hx : xs = [] := List.eq_nil_of_length_eq_zero (by omega)
      subst hx
      have hn : news = [] := List.eq_nil_of_length_eq_zero (by omega)
      subst hn
      have hr2 : (Builtin.append_ #[t, t] ty #[.slice none 0 0, .slice (some a) 0 c]).run P w = .ok (.slice none 0 0) w := by
        simp [Builtin.append_, run_underlying ht, sizeOf, typeInfo, hi, Builtin.lenOf, Builtin.firstCells, loadCells, loadCellsFrom]
      rw [hr2] at hr
      injection hr with e1 e2
      subst e1
      exact absurd hk (by simp [Value.ownBlock])
    · have hr2 := run_append_nil (P := P) w t ty e i z ht hi hz a m c news hl' hnews (by omega) (by omega) (by rw [hby]; refine Nat.le_trans (Nat.le_trans (Nat.mul_le_mul_right _ (by omega)) hbytes) (by decide))
      rw [hr2] at hr
      injection hr with e1 e2
      subst e1
      right
      simp [Value.ownBlock] at hk
      omega
  · by_cases hroom : xs.length + m ≤ cap
    · have hfit : xs.length * i.size + news.length ≤ cur.size := by rw [hl', hcs, hs1, ← Nat.add_mul]; exact Nat.mul_le_mul_right _ hroom
      have hr2 := run_append_room (P := P) w t ty e i ht hi g xs.length cap cur hg a m c news hl' hnews h1 hroom hfit
      rw [hr2] at hr
      injection hr with e1 e2
      subst e1
      left
      simpa [Value.ownBlock] using hk
    · have holds : ∀ j u, xs[j]? = some u → w.cell? ((⟨g, 0, none⟩ : Addr).add j) = some u := World.ownsRow.cells hown (g := g) rfl
      have hr2 := run_append_grow (P := P) w t ty e i z ht hi hz ⟨g, 0, none⟩ xs.length cap xs (by rw [hs1]; omega) holds a m c news hl' hnews (by omega) (by omega) (growslice_fits (by omega) (by rw [hby]; exact hbytes))
      rw [hr2] at hr
      injection hr with e1 e2
      subst e1
      right
      simp [Value.ownBlock] at hk
      omega
section
variable {P : Program} {ops : Array Oper} {rest : List Oper} {o : Oper} {a : Act} {Q : Exit → Act → World → Prop}
theorem wp_appB {K : Act → World → Prop} (w : World) (s x : Operand) (t : TypeId) (ho : o.op = .call { callee := .builtin .append, args := #[s, x], argTypes := #[t, t] })
    (B : Nat) (e : TypeId) (z : Value) (bytes : Nat) (he : ElemOk P t e z bytes) (v : Value) (xs : List Value) (hs : a.eval s = v) (hown : Own w B e v xs)
    (cs : Array Value) (n c : Nat) (hx : a.eval x = .slice (some ⟨w.heap.size, 0, none⟩) n c) (hn : cs.toList.length = n) (h1 : ∀ u ∈ cs.toList, u.oneCell' = true)
    (hlen : (xs.length + n) * bytes ≤ 140737488355328) (hb : xs.length + n ≤ 9223372036854775807) (hB : B ≤ w.heap.size)
    (h : ∀ v' w', Own w' B e v' (xs ++ cs.toList) → w.grownBy w' v.ownBlock → (∀ k, v'.ownBlock = some k → v.ownBlock = some k ∨ w.heap.size ≤ k) → K (a.put o.dst v') w') : o.wp P a (w.alloc (.cells cs e)) K Q := by
  obtain ⟨v', w', hr, h2, h3, h4⟩ := run_appB (P := P) (w.alloc (.cells cs e)) B t o.type e z bytes he v xs (World.ownsRow.alloc hown _) ⟨w.heap.size, 0, none⟩ n c cs.toList hn
    (by
      intro j u hj
      have := cell_of_row (w.alloc (.cells cs e)) w.heap.size j cs e (0, 0) (heap_alloc_new w _)
      rw [addr_add, this]
      simpa using hj) h1 hb hlen (by simp; omega)
  unfold Oper.wp execOp
  simp only [ho, resolve, invoke, builtin, Sem.run_bind, Sem.run_pure, Result.andThen_ok, List.map_toArray, List.map_cons, List.map_nil, hs, hx, hr]
  refine h v' w' h2 (grownBy_trans (World.grownBy_alloc w _ _) h3) fun k hk => ?_
  rcases h4 k hk with q | q
  · exact .inl q
  · simp at q; exact .inr (by omega)
theorem wpList_appB (w : World) (hw : Region.wanted o (yielded ops a.tmps) = true) (s x : Operand) (t : TypeId) (ho : o.op = .call { callee := .builtin .append, args := #[s, x], argTypes := #[t, t] })
    (B : Nat) (e : TypeId) (z : Value) (bytes : Nat) (he : ElemOk P t e z bytes) (v : Value) (xs : List Value) (hs : a.eval s = v) (hown : Own w B e v xs)
    (cs : Array Value) (n c : Nat) (hx : a.eval x = .slice (some ⟨w.heap.size, 0, none⟩) n c) (hn : cs.toList.length = n) (h1 : ∀ u ∈ cs.toList, u.oneCell' = true)
    (hlen : (xs.length + n) * bytes ≤ 140737488355328) (hb : xs.length + n ≤ 9223372036854775807) (hB : B ≤ w.heap.size)
    (h : ∀ v' w', Own w' B e v' (xs ++ cs.toList) → w.grownBy w' v.ownBlock → (∀ k, v'.ownBlock = some k → v.ownBlock = some k ∨ w.heap.size ≤ k) → wpList P ops Q rest (a.put o.dst v') w') : wpList P ops Q (o :: rest) a (w.alloc (.cells cs e)) :=
  wpList_met hw fun K hK => wp_appB w s x t ho B e z bytes he v xs hs hown cs n c hx hn h1 hlen hb hB fun v' w' q1 q2 q3 => hK _ _ (h v' w' q1 q2 q3)
theorem step_appB {K : Act → World → Prop} {E : Prop} (w : World)
    (hg : o.guard = none) (s x : Operand) (t : TypeId) (ho : o.op = .call { callee := .builtin .append, args := #[s, x], argTypes := #[t, t] })
    (B : Nat) (e : TypeId) (z : Value) (bytes : Nat) (he : ElemOk P t e z bytes) (v : Value) (xs : List Value) (hs : a.eval s = v) (hown : Own w B e v xs)
    (cs : Array Value) (n c : Nat) (hx : a.eval x = .slice (some ⟨w.heap.size, 0, none⟩) n c) (hn : cs.toList.length = n) (h1 : ∀ u ∈ cs.toList, u.oneCell' = true)
    (hlen : (xs.length + n) * bytes ≤ 140737488355328) (hb : xs.length + n ≤ 9223372036854775807) (hB : B ≤ w.heap.size)
    (h : ∀ v' w', Own w' B e v' (xs ++ cs.toList) → w.grownBy w' v.ownBlock → (∀ k, v'.ownBlock = some k → v.ownBlock = some k ∨ w.heap.size ≤ k) → K (a.put o.dst v') w') :
    if Region.wanted o (yielded ops a.tmps) = true then Oper.wp P o a (w.alloc (.cells cs e)) K Q else E := by
  have hw : Region.wanted o (yielded ops a.tmps) = true := by simp [Region.wanted, hg]
  rw [if_pos hw]
  exact wp_appB w s x t ho B e z bytes he v xs hs hown cs n c hx hn h1 hlen hb hB h
end
end
end Go.Proofs.YtaphadmcjimmeaaDoor
