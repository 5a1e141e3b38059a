/- Rows of nodes. -/
import Derived.Test.YtedfgikikjggaaaDoorOwn
import Derived.Test.YtedfgikikjggaaaDoorStr
import Derived.Test.YtedfgikikjggaaaDoorMa1
import Derived.Laws.StructEq
import Derived.Test.YtedfgikikjggaaaDoorQuiet
set_option linter.unusedVariables false
set_option linter.unusedSimpArgs false
namespace Go.Proofs.YtedfgikikjggaaaDoor
open Go.RowKit

def ndC (n : Nd) : List Value := [.string ⟨n.p.toArray⟩, .int .i64 n.k, .string ⟨n.d.toArray⟩]
def ndV (n : Nd) : Value := .agg #[.string ⟨n.p.toArray⟩, .int .i64 n.k, .string ⟨n.d.toArray⟩]
def ndAt (ns : List Nd) (i : Nat) : Nd := ns.getD i nd0
theorem ndAt_mem {ns : List Nd} {i : Nat} (h : i < ns.length) : ndAt ns i ∈ ns := by
  unfold ndAt
  rw [List.getD_eq_getElem?_getD, List.getElem?_eq_getElem h]; exact List.getElem_mem h
theorem ndAt_get {ns : List Nd} {i : Nat} (h : i < ns.length) : ns[i]? = some (ndAt ns i) := by
  unfold ndAt
  rw [List.getD_eq_getElem?_getD, List.getElem?_eq_getElem h]; rfl
def NdsAt (w : World) (g off : Nat) (ns : List Nd) : Prop := ∀ i, i < ns.length → w.cell? ⟨g, off + i * 3, none⟩ = some (.string ⟨(ndAt ns i).p.toArray⟩) ∧ w.cell? ⟨g, off + i * 3 + 1, none⟩ = some (.int .i64 (ndAt ns i).k) ∧ w.cell? ⟨g, off + i * 3 + 2, none⟩ = some (.string ⟨(ndAt ns i).d.toArray⟩)
/-- A slice that reads as nodes. -/
def IsNds (w : World) (v : Value) (ns : List Nd) : Prop :=
  ∃ a cap, v = .slice a ns.length cap ∧ ns.length ≤ cap ∧ cap ≤ maxLen ∧ (a = none → cap = 0) ∧ (0 < ns.length → ∃ g off, a = some ⟨g, off, none⟩ ∧ NdsAt w g off ns)
theorem NdsAt.lt {w : World} {g off : Nat} {ns : List Nd} (h : NdsAt w g off ns) (h0 : 0 < ns.length) : g < w.heap.size := World.block_lt_of_cell? w _ (h 0 h0).1
theorem NdsAt.below {w w' : World} {g off : Nat} {ns : List Nd} (h : NdsAt w g off ns) (hb : Below w.heap.size w w') : NdsAt w' g off ns := fun i hi => by
  obtain ⟨c0, c1, c2⟩ := h i hi
  have hg : g < w.heap.size := World.block_lt_of_cell? w _ c0
  rw [hb.cell (p := ⟨g, off + i * 3, none⟩) hg, hb.cell (p := ⟨g, off + i * 3 + 1, none⟩) hg, hb.cell (p := ⟨g, off + i * 3 + 2, none⟩) hg]
  exact ⟨c0, c1, c2⟩
theorem IsNds.below {w w' : World} {v : Value} {ns : List Nd} (h : IsNds w v ns) (hb : Below w.heap.size w w') : IsNds w' v ns := by
  obtain ⟨a, cap, e, h1, h2, h4, h3⟩ := h
  refine ⟨a, cap, e, h1, h2, h4, fun h0 => ?_⟩
  obtain ⟨g, off, ha, hc⟩ := h3 h0
  exact ⟨g, off, ha, hc.below hb⟩
theorem IsNds.drew {w : World} {v : Value} {ns : List Nd} (h : IsNds w v ns) (k : Nat) : IsNds (w.drewN k) v ns := h
theorem ndsflat_at : ∀ (ns : List Nd) (i : Nat), i < ns.length → (ns.flatMap ndC)[i * 3]? = some (.string ⟨(ndAt ns i).p.toArray⟩) ∧ (ns.flatMap ndC)[i * 3 + 1]? = some (.int .i64 (ndAt ns i).k) ∧ (ns.flatMap ndC)[i * 3 + 2]? = some (.string ⟨(ndAt ns i).d.toArray⟩) := by
  intro ts
  induction ts with
  | nil => intro i h; simp at h
  | cons t ts ih =>
    intro i h
    cases i with
    | zero => exact ⟨rfl, rfl, rfl⟩
    | succ i =>
      have h2 := ih i (by simpa using h)
      have e : ∀ k, ((t :: ts).flatMap ndC)[(i + 1) * 3 + k]? = (ts.flatMap ndC)[i * 3 + k]? := by
        intro k
        rw [show (t :: ts).flatMap ndC = ndC t ++ ts.flatMap ndC from rfl, List.getElem?_append_right (by simp [ndC]; omega)]
        congr 1
        simp [ndC]; omega
      have e0 := e 0
      rw [Nat.add_zero, Nat.add_zero] at e0
      rw [e0, e 1, e 2]
      exact h2
theorem ndsflat_len (ns : List Nd) : (ns.flatMap ndC).length = ns.length * 3 := by
  induction ns with
  | nil => rfl
  | cons n ns ih => rw [List.flatMap_cons, List.length_append, ih, List.length_cons]; simp [ndC]; omega
/-- A row of nodes of one's own. -/
def OwnN (w : World) (B : Nat) (v : Value) (ns : List Nd) : Prop := w.ownsRow B 35 3 v ns.length (ns.flatMap ndC)
theorem OwnN.nil (w : World) (B : Nat) : OwnN w B (.slice none 0 0) [] := World.ownsRow_nil w B _ 3
theorem OwnN.row {w : World} {B : Nat} {v : Value} {ns : List Nd} (h : OwnN w B v ns) : ∀ k, v.ownBlock = some k → B ≤ k ∧ k < w.heap.size := World.ownsRow.lt h
theorem OwnN.kept {w w' : World} {B : Nat} {v : Value} {ns : List Nd} {row : Option Nat} (h : OwnN w B v ns) (hg : w.grownBy w' row) (hne : v.ownBlock = none ∨ v.ownBlock ≠ row) : OwnN w' B v ns := World.ownsRow.kept h hg hne
theorem OwnN.below {w w' : World} {B : Nat} {v : Value} {ns : List Nd} (h : OwnN w B v ns) (hw : Below w.heap.size w w') : OwnN w' B v ns :=
  h.kept (grownBy_below hw none) (by cases v.ownBlock <;> simp)
theorem OwnN.slice {w : World} {B : Nat} {v : Value} {ns : List Nd} (h : OwnN w B v ns) : ∃ a c, v = .slice a ns.length c := by
  rcases h.2 with ⟨rfl, hn⟩ | ⟨g, cap, cur, rfl, _⟩
  · exact ⟨none, 0, by rw [hn]⟩
  · exact ⟨_, cap, rfl⟩
theorem OwnN.isNds {w : World} {B : Nat} {v : Value} {ns : List Nd} (h : OwnN w B v ns) : IsNds w v ns := by
  have hh := h
  rcases h.2 with ⟨hv, hn⟩ | ⟨g, cap, cur, hv, hg, hb, hnc, hcm, hcs, ht⟩
  · exact ⟨none, 0, by rw [hv, hn], by omega, by unfold maxLen; omega, fun _ => rfl, fun h0 => by omega⟩
  · refine ⟨some ⟨g, 0, none⟩, cap, hv, hnc, hcm, (fun h => by cases h), fun h0 => ⟨g, 0, rfl, fun i hi => ?_⟩⟩
    obtain ⟨f0, f1, f2⟩ := ndsflat_at ns i hi
    have c : ∀ k u, (ns.flatMap ndC)[k]? = some u → w.cell? ⟨g, k, none⟩ = some u := by
      intro k u hk
      have := World.ownsRow.cells hh (g := g) (by rw [hv]; rfl) k u hk
      rw [addr_add] at this
      simpa using this
    rw [Nat.zero_add]
    exact ⟨c _ _ f0, c _ _ f1, c _ _ f2⟩
theorem okN : ∃ i : TypeInfo, Tryd.prog.info? 35 = some i ∧ i.zero = some (.agg #[.string .empty, .int .i64 0, .string .empty]) ∧ i.size = 3 ∧ i.bytes = 40 := by
  obtain ⟨i, h1, h2, h3, h4⟩ := info_parts (P := Tryd.prog) (e := 35) (z := .agg #[.string .empty, .int .i64 0, .string .empty]) (size := 3) (bytes := 40) (by kernel_rfl)
  exact ⟨i, h1, h2, h3, h4⟩
section
variable {ops : Array Oper} {rest : List Oper} {o : Oper} {a : Act} {Q : Exit → Act → World → Prop}
/-- append(s, n), the node in a block of its own. -/
theorem wpList_appN (w : World) (hw : Region.wanted o (yielded ops a.tmps) = true) (s x : Operand) (ho : o.op = .call { callee := .builtin .append, args := #[s, x], argTypes := #[22, 22] })
    (B : Nat) (v : Value) (ts : List Nd) (hs : a.eval s = v) (hown : OwnN w B v ts) (t : Nd) (bk : Nat) (hx : a.eval x = .slice (some ⟨bk, 0, none⟩) 1 1) (hbk : bk = w.heap.size)
    (hlen : ts.length ≤ 10000000) (hB : B ≤ w.heap.size)
    (h : ∀ v' w', OwnN w' B v' (ts ++ [t]) → w.grownBy w' v.ownBlock → wpList Tryd.prog ops Q rest (a.put o.dst v') w') : wpList Tryd.prog ops Q (o :: rest) a (w.alloc (.cells (ndC t).toArray 35)) := by
  subst hbk
  obtain ⟨i, hi, hz, hs1, hby⟩ := okN
  refine wpList_met hw fun K hK => wp_append_own _ s x 22 ho B 35 i _ 3 40 Tryd.underlying22 hi hz hs1 hby rfl (by decide) v ts.length (ts.flatMap ndC) hs (World.ownsRow.alloc hown _) ⟨w.heap.size, 0, none⟩ 1 1 (ndC t) hx rfl ?_ ?_ ?_ ?_ ?_ ?_
  · intro j u hj
    have := cell_of_row (w.alloc (.cells (ndC t).toArray 35)) w.heap.size j (ndC t).toArray 35 (0, 0) (heap_alloc_new w _)
    rw [addr_add, this]
    simpa using hj
  · intro u hu
    simp [ndC] at hu
    rcases hu with rfl | rfl | rfl <;> rfl
  · unfold maxLen; omega
  · omega
  · simp; omega
  · intro v' w' h2 h3 _
    refine hK _ _ (h v' w' ?_ (grownBy_trans (World.grownBy_alloc w _ _) h3))
    unfold OwnN
    rw [List.length_append, List.flatMap_append]
    simpa using h2
theorem NdsAt.flat {w : World} {g off : Nat} {us : List Nd} (h : NdsAt w g off us) {j : Nat} {u : Value} (hj : (us.flatMap ndC)[j]? = some u) : w.cell? ⟨g, off + j, none⟩ = some u := by
  have hlt : j < us.length * 3 := by rw [← ndsflat_len]; exact (List.getElem?_eq_some_iff.1 hj).1
  obtain ⟨c0, c1, c2⟩ := h (j / 3) (by omega)
  obtain ⟨f0, f1, f2⟩ := ndsflat_at us (j / 3) (by omega)
  have h3 : j = j / 3 * 3 ∨ j = j / 3 * 3 + 1 ∨ j = j / 3 * 3 + 2 := by omega
  generalize j / 3 = q at *
  rcases h3 with rfl | rfl | rfl
  · rw [f0] at hj; rw [c0, ← hj]
  · rw [f1] at hj; rw [← Nat.add_assoc, c1, ← hj]
  · rw [f2] at hj; rw [← Nat.add_assoc, c2, ← hj]
/-- append(s, t...), t nodes. -/
theorem wpList_appNS (w : World) (hw : Region.wanted o (yielded ops a.tmps) = true) (s x : Operand) (ho : o.op = .call { callee := .builtin .append, args := #[s, x], argTypes := #[22, 22] })
    (B : Nat) (v : Value) (ts : List Nd) (hs : a.eval s = v) (hown : OwnN w B v ts) (v2 : Value) (us : List Nd) (hx : a.eval x = v2) (hr : IsNds w v2 us)
    (hlen : ts.length + us.length ≤ 10000000) (hB : B ≤ w.heap.size)
    (h : ∀ v' w', OwnN w' B v' (ts ++ us) → w.grownBy w' v.ownBlock → wpList Tryd.prog ops Q rest (a.put o.dst v') w') : wpList Tryd.prog ops Q (o :: rest) a w := by
  obtain ⟨i, hi, hz, hs1, hby⟩ := okN
  obtain ⟨ad, cap, rfl, hc1, hc2, hc0, hc3⟩ := hr
  cases ad with
  | none =>
    have hcap := hc0 rfl
    subst hcap
    have hus : us = [] := List.eq_nil_of_length_eq_zero (by omega)
    subst hus
    refine wpList_met hw fun K hK => ?_
    have hrun := run_append_owned_none (P := Tryd.prog) (w := w) B 22 o.type 35 i 3 Tryd.underlying22 hi v ts.length (ts.flatMap ndC) hown
    unfold Oper.wp
    simp [execOp, ho, resolve, invoke, builtin, hs, hx, hrun, Result.andThen]
    exact hK _ _ (h v w (by simpa using hown) ⟨rfl, rfl, rfl, Nat.le_refl _, fun _ _ _ => rfl⟩)
  | some ad =>
    refine wpList_met hw fun K hK => wp_append_own _ s x 22 ho B 35 i _ 3 40 Tryd.underlying22 hi hz hs1 hby rfl (by decide) v ts.length (ts.flatMap ndC) hs hown ad us.length cap (us.flatMap ndC) hx (ndsflat_len us) ?_ ?_ ?_ ?_ hB ?_
    · intro j u hj
      have h0 : 0 < us.length := by
        have := (List.getElem?_eq_some_iff.1 hj).1
        rw [ndsflat_len] at this; omega
      obtain ⟨b, off, hab, hc⟩ := hc3 h0
      cases hab
      rw [addr_add_off]
      exact hc.flat hj
    · intro u hu
      obtain ⟨n, -, hu⟩ := List.mem_flatMap.1 hu
      simp [ndC] at hu
      rcases hu with rfl | rfl | rfl <;> rfl
    · unfold maxLen; omega
    · omega
    · intro v' w' h2 h3 _
      refine hK _ _ (h v' w' ?_ h3)
      unfold OwnN
      rw [List.length_append, List.flatMap_append]
      simpa using h2
end
set_option maxHeartbeats 1000000 in
theorem nd_neq_run (s t : Nd) (w : World) : (binOp .neq 35 (ndV s) (ndV t)).run Tryd.prog w = .ok (.bool (!Nd.beq s t)) w := by
  unfold Nd.beq ndV
  obtain ⟨a, b, c⟩ := s
  obtain ⟨a', b', c'⟩ := t
  go_simp
  by_cases h1 : a = a'
  · subst h1
    by_cases h2 : b = b'
    · subst h2
      by_cases h3 : c = c'
      · subst h3; simp
      · simp [h3]
    · simp [h2]
  · simp [h1]
set_option maxHeartbeats 1000000 in
theorem nd_eq_run (s t : Nd) (w : World) : (binOp .eql 35 (ndV s) (ndV t)).run Tryd.prog w = .ok (.bool (Nd.beq s t)) w := by
  unfold Nd.beq ndV
  obtain ⟨a, b, c⟩ := s
  obtain ⟨a', b', c'⟩ := t
  go_simp
  by_cases h1 : a = a'
  · subst h1
    by_cases h2 : b = b'
    · subst h2
      by_cases h3 : c = c'
      · subst h3; simp
      · simp [h3]
    · simp [h2]
  · simp [h1]
theorem nds_ext {ts us : List Nd} (h : ts.length = us.length) (h2 : ∀ k, k < ts.length → ndAt ts k = ndAt us k) : ts = us := by
  apply List.ext_getElem h
  intro i h3 h4
  have := h2 i h3
  simpa [ndAt, List.getD, h3, h4] using this
end Go.Proofs.YtedfgikikjggaaaDoor
