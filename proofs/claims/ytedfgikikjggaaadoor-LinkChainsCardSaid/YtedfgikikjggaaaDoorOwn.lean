/- Slices that the call itself made: make, append, in one-cell elements; over any program. -/
import Derived.Test.YtedfgikikjggaaaDoorBase
import Derived.Laws.AppendOwnNone
import Derived.Laws.BytesArg
import Derived.Lib.SlBytesConst
set_option linter.unusedVariables false
set_option linter.unusedSimpArgs false
namespace Go.Proofs.YtedfgikikjggaaaDoor
open Go.RowKit

/-- Slice type t of one-cell elements e, whose zero is z, of so many bytes each. -/
def ElemOk (P : Program) (t e : TypeId) (z : Value) (bytes : Nat) : Prop :=
  P.underlying t = some (.slice e) ∧ ∃ i : TypeInfo, P.info? e = some i ∧ i.zero = some z ∧ i.size = 1 ∧ i.bytes = bytes ∧ z.cells.size = 1
/-- The slice value v owns the one-cell elements xs, in a block from B on. -/
def Own (w : World) (B : Nat) (e : TypeId) (v : Value) (xs : List Value) : Prop := w.ownsRow B e 1 v xs.length xs

theorem Own.nil (w : World) (B : Nat) (e : TypeId) : Own w B e (.slice none 0 0) [] := World.ownsRow_nil w B e 1
theorem Own.kept {w w' : World} {B : Nat} {e : TypeId} {v : Value} {xs : List Value} {row : Option Nat} (h : Own w B e v xs) (hg : w.grownBy w' row) (hne : v.ownBlock = none ∨ v.ownBlock ≠ row) : Own w' B e v xs := World.ownsRow.kept h hg hne
theorem grownBy_trans {a b c : World} {row : Option Nat} (h : a.grownBy b row) (k : b.grownBy c row) : a.grownBy c row :=
  ⟨k.os.trans h.os, k.tape.trans h.tape, k.output.trans h.output, Nat.le_trans h.size k.size, fun i hi hr => (k.block i (Nat.lt_of_lt_of_le hi h.size) hr).trans (h.block i hi hr)⟩
theorem grownBy_none {a b : World} {row : Option Nat} (h : a.grownBy b none) : a.grownBy b row := ⟨h.os, h.tape, h.output, h.size, fun k hk _ => h.block k hk (by simp)⟩
theorem grownBy_below {a b : World} (h : Below a.heap.size a b) (row : Option Nat) : a.grownBy b row := ⟨h.os, h.tape, h.output, h.size, fun k hk _ => h.block k hk⟩
theorem grownBy_drew (a : World) (n : Nat) (row : Option Nat) : a.grownBy (a.drewN n) row := ⟨rfl, rfl, rfl, Nat.le_refl _, fun _ _ _ => rfl⟩
theorem Own.base {w : World} {B B' : Nat} {e : TypeId} {v : Value} {xs : List Value} (h : Own w B e v xs) (hB : B' ≤ B) : Own w B' e v xs := by
  refine ⟨h.1, ?_⟩
  rcases h.2 with hn | ⟨g, cap, cur, hv, hg, r⟩
  · exact .inl hn
  · exact .inr ⟨g, cap, cur, hv, Nat.le_trans hB hg, r⟩
theorem Own.row {w : World} {B : Nat} {e : TypeId} {v : Value} {xs : List Value} (h : Own w B e v xs) : ∀ k, v.ownBlock = some k → B ≤ k ∧ k < w.heap.size := World.ownsRow.lt h
/-- Kept by whatever leaves the blocks that there were. -/
theorem Own.below {w w' : World} {B : Nat} {e : TypeId} {v : Value} {xs : List Value} (h : Own w B e v xs) (hw : Below w.heap.size w w') : Own w' B e v xs := by
  refine ⟨h.1, ?_⟩
  rcases h.2 with hn | ⟨g, cap, cur, hv, hg, hh, r⟩
  · exact .inl hn
  · exact .inr ⟨g, cap, cur, hv, hg, by rw [hw.block g (Array.getElem?_eq_some_iff.1 hh).1]; exact hh, r⟩
theorem Own.drew {w : World} {B : Nat} {e : TypeId} {v : Value} {xs : List Value} (h : Own w B e v xs) (n : Nat) : Own (w.drewN n) B e v xs := h
/-- What is owned reads as a slice. -/
theorem Own.isSl {w : World} {B : Nat} {e : TypeId} {v : Value} {xs : List Value} (h : Own w B e v xs) {f : Nat → Value} (hf : ∀ i, i < xs.length → xs[i]? = some (f i)) : IsSl w v xs.length f := by
  have hh := h
  rcases h.2 with ⟨hv, hn⟩ | ⟨g, cap, cur, hv, hg, hb, hnc, hcm, hcs, ht⟩
  · exact ⟨none, 0, by rw [hv, hn], by omega, by unfold maxLen; omega, fun _ => rfl, fun h0 => by omega⟩
  · refine ⟨some ⟨g, 0, none⟩, cap, hv, hnc, hcm, (fun h => by cases h), fun h0 => ⟨g, 0, rfl, fun i hi => ?_⟩⟩
    have := World.ownsRow.cells hh (g := g) (by rw [hv]; rfl) i (f i) (hf i hi)
    rw [addr_add] at this
    simpa using this

theorem u8At_range (l : List UInt8) : (List.range l.length).map (u8At l) = l.map u8V := by
  apply List.ext_getElem
  · simp
  · intro i h1 h2; simp at h1; simp [u8At, byt, u8V, List.getD, h1]
theorem i32At_range (l : List Int) : (List.range l.length).map (i32At l) = l.map (Value.int .i32) := by
  apply List.ext_getElem
  · simp
  · intro i h1 h2; simp at h1; simp [i32At, List.getD, h1]
theorem Own.is8 {w : World} {B : Nat} {v : Value} {l : List UInt8} {e : TypeId} (h : Own w B e v (l.map u8V)) : Is8 w v l := by
  have := h.isSl (f := u8At l) (by intro i hi; simp at hi; simp [u8At, byt, u8V, hi, List.getD])
  exact (by simpa using this : IsSl w v l.length (u8At l))
theorem Own.is32 {w : World} {B : Nat} {v : Value} {l : List Int} {e : TypeId} (h : Own w B e v (l.map (Value.int .i32))) : Is32 w v l := by
  have := h.isSl (f := i32At l) (by intro i hi; simp at hi; simp [i32At, hi, List.getD])
  exact (by simpa using this : IsSl w v l.length (i32At l))
section
variable {P : Program} {ops : Array Oper} {rest : List Oper} {o : Oper} {a : Act} {Q : Exit → Act → World → Prop}
/-- An operation that runs: no guard, or a guard that is met. -/
theorem wpList_met {w : World} (hw : Region.wanted o (yielded ops a.tmps) = true)
    (h : ∀ K : Act → World → Prop, (∀ a w, wpList P ops Q rest a w → K a w) → o.wp P a w K Q) : wpList P ops Q (o :: rest) a w :=
  wpList_step fun K hK => by simp only [hw, if_true]; exact h K hK
/-- append(s, x, y ..): the elements lie in a new block, cs. -/
theorem wpList_appL (w : World) (hw : Region.wanted o (yielded ops a.tmps) = true) (s x : Operand) (t : TypeId) (ho : o.op = .call { callee := .builtin .append, args := #[s, x], argTypes := #[t, t] })
    (B : Nat) (e : TypeId) (z : Value) (bytes : Nat) (he : ElemOk P t e z bytes) (v : Value) (xs : List Value) (hs : a.eval s = v) (hown : Own w B e v xs)
    (cs : Array Value) (n c : Nat) (hx : a.eval x = .slice (some ⟨w.heap.size, 0, none⟩) n c) (hn : cs.toList.length = n) (h1 : ∀ u ∈ cs.toList, u.oneCell' = true)
    (hlen : (xs.length + n) * bytes ≤ 140737488355328) (hb : xs.length + n ≤ 9223372036854775807) (hB : B ≤ w.heap.size)
    (h : ∀ v' w', Own w' B e v' (xs ++ cs.toList) → w.grownBy w' v.ownBlock → wpList P ops Q rest (a.put o.dst v') w') : wpList P ops Q (o :: rest) a (w.alloc (.cells cs e)) := by
  obtain ⟨ht, i, hi, hz, hs1, hby, hzc⟩ := he
  refine wpList_met hw fun K hK => wp_append_own _ s x t ho B e i z 1 bytes ht hi hz hs1 hby hzc (by decide) v xs.length xs hs (World.ownsRow.alloc hown _) ⟨w.heap.size, 0, none⟩ n c cs.toList hx (by omega) ?_ h1 ?_ hlen ?_ ?_
  · intro j u hj
    have := cell_of_row (w.alloc (.cells cs e)) w.heap.size j cs e (0, 0) (heap_alloc_new w _)
    rw [addr_add, this]
    simpa using hj
  · unfold maxLen; omega
  · simp; omega
  · intro v' w' h2 h3 _
    refine hK _ _ (h v' w' ?_ (grownBy_trans (World.grownBy_alloc w _ _) h3))
    unfold Own
    rw [List.length_append, hn]
    exact h2
/-- append(s, t...), t any slice that reads. -/
theorem wpList_appS (w : World) (hw : Region.wanted o (yielded ops a.tmps) = true) (s x : Operand) (t : TypeId) (ho : o.op = .call { callee := .builtin .append, args := #[s, x], argTypes := #[t, t] })
    (B : Nat) (e : TypeId) (z : Value) (bytes : Nat) (he : ElemOk P t e z bytes) (v : Value) (xs : List Value) (hs : a.eval s = v) (hown : Own w B e v xs)
    (v2 : Value) (n : Nat) (f : Nat → Value) (hx : a.eval x = v2) (hr : IsSl w v2 n f) (h1 : ∀ i, i < n → (f i).oneCell' = true)
    (hlen : (xs.length + n) * bytes ≤ 140737488355328) (hb : xs.length + n ≤ 9223372036854775807) (hB : B ≤ w.heap.size)
    (h : ∀ v' w', Own w' B e v' (xs ++ (List.range n).map f) → w.grownBy w' v.ownBlock → wpList P ops Q rest (a.put o.dst v') w') : wpList P ops Q (o :: rest) a w := by
  obtain ⟨ht, i, hi, hz, hs1, hby, hzc⟩ := he
  obtain ⟨ad, cap, rfl, hc1, hc2, hc0, hc3⟩ := hr
  have hlr : ((List.range n).map f).length = n := by simp
  cases ad with
  | none =>
    have hcap := hc0 rfl
    subst hcap
    obtain rfl : n = 0 := by omega
    refine wpList_met hw fun K hK => ?_
    have hrun := run_append_owned_none (P := P) (w := w) B t o.type e i 1 ht hi v xs.length xs hown
    unfold Oper.wp
    simp [execOp, ho, resolve, invoke, builtin, hs, hx, hrun, Result.andThen]
    exact hK _ _ (h v w (by simpa using hown) ⟨rfl, rfl, rfl, Nat.le_refl _, fun _ _ _ => rfl⟩)
  | some ad =>
    have hcells : ∀ (j : Nat) u, ((List.range n).map f)[j]? = some u → w.cell? (ad.add j) = some u := by
      intro j u hj
      have hjn : j < n := by
        have := (List.getElem?_eq_some_iff.1 hj).1
        simpa using this
      obtain ⟨b, off, hab, hc⟩ := hc3 (by omega)
      cases hab
      rw [addr_add_off, hc j hjn]
      simpa [hjn] using hj
    refine wpList_met hw fun K hK => wp_append_own _ s x t ho B e i z 1 bytes ht hi hz hs1 hby hzc (by decide) v xs.length xs hs hown ad n cap ((List.range n).map f) hx (by simp) hcells ?_ ?_ hlen hB ?_
    · intro u hu
      obtain ⟨j, hj, rfl⟩ := List.mem_map.1 hu
      exact h1 j (by simpa using hj)
    · unfold maxLen; omega
    · intro v' w' h2 h3 _
      refine hK _ _ (h v' w' ?_ h3)
      unfold Own
      rw [List.length_append, hlr]
      exact h2
/-- make([]T, 0, n). -/
theorem wpList_make0 (w : World) (hw : Region.wanted o (yielded ops a.tmps) = true) (l c : Operand) (t : TypeId) (hop : o.op = Op.makeSlice t l c)
    (B : Nat) (e : TypeId) (z : Value) (bytes : Nat) (he : ElemOk P t e z bytes) (kl kc : IntKind) (C : Int) (n : Nat) (hl : a.eval l = .int kl 0) (hc : a.eval c = .int kc C) (hC : C = (n : Int))
    (b2 : bytes * n ≤ 281474976710656) (b3 : n ≤ 9223372036854775807) (hB : B ≤ w.heap.size)
    (h : ∀ w', Own w' B e (.slice (some ⟨w.heap.size, 0, none⟩) 0 n) [] → w.grownBy w' none → wpList P ops Q rest (a.put o.dst (.slice (some ⟨w.heap.size, 0, none⟩) 0 n)) w') : wpList P ops Q (o :: rest) a w := by
  obtain ⟨ht, i, hi, hz, hs1, hby, hzc⟩ := he
  refine wpList_met hw fun K hK' => ?_
  obtain ⟨w', hrun, r1, r2⟩ := run_make_own (P := P) w B t e i z 1 ht hi hz hs1 kl kc n (by rw [hby]; exact b2) (by unfold maxLen; omega) hB
  subst hC
  unfold Oper.wp
  simp [execOp, hop, hl, hc, hrun, Result.andThen]
  exact hK' _ _ (h w' r1 r2)
/-- string(b), b a slice of bytes that reads. -/
theorem run_toStr (w : World) (s d e : TypeId) (hs : P.underlying s = some (.slice e)) (he : P.underlying e = some (.int .u8)) (hd : P.underlying d = some .string) (v : Value) (l : List UInt8) (hv : Is8 w v l) :
    (convert s d v).run P w = .ok (.string ⟨l.toArray⟩) w := by
  obtain ⟨ad, cap, rfl, hc1, hc2, hc0, hc3⟩ := hv
  have hst : strOfNums (l.map fun b => (b.toNat : Int)) = ⟨l.toArray⟩ := by
    apply ByteArray.ext
    apply Array.ext'
    rw [strOfNums_data, List.map_map]
    show _ = l
    conv => rhs; rw [← List.map_id l]
    apply List.map_congr_left
    intro b _
    simp
  cases ad with
  | none =>
    have hcap := hc0 rfl
    subst hcap
    have hl : l = [] := List.eq_nil_of_length_eq_zero (by omega)
    subst hl
    rw [run_convert_bytes_nil (P := P) (w := w) s e hs he _ _ d hd]; rfl
  | some ad =>
    by_cases hl : 0 < l.length
    · obtain ⟨b, off, hab, hc⟩ := hc3 hl
      cases hab
      rw [run_convert_bytes_arg (P := P) (w := w) s e hs he b off l.length cap (l.map fun b => (b.toNat : Int)) (by simp) (fun i hi => by rw [hc i hi]; simp [u8At, byt, List.getD, hi]) d hd, hst]
    · have hl : l = [] := List.eq_nil_of_length_eq_zero (by omega)
      subst hl
      obtain ⟨b, off, spot⟩ := ad
      have hcl : (loadCells (⟨b, off, spot⟩ : Addr) 0).run P w = .ok #[] w := by simp [loadCells, loadCellsFrom]
      simp [convert, run_underlying hs, run_underlying he, run_underlying hd, Conv.bytesToString, hcl]
      rfl
theorem wpList_toStr (w : World) (hw : Region.wanted o (yielded ops a.tmps) = true) (s d : TypeId) (x : Operand) (hop : o.op = Op.convert s d x) (e : TypeId)
    (hs : P.underlying s = some (.slice e)) (he : P.underlying e = some (.int .u8)) (hd : P.underlying d = some .string) (v : Value) (hx : a.eval x = v) (l : List UInt8) (hv : Is8 w v l)
    (h : wpList P ops Q rest (a.put o.dst (.string ⟨l.toArray⟩)) w) : wpList P ops Q (o :: rest) a w := by
  refine wpList_met hw fun K hK => ?_
  have hrun := run_toStr (P := P) w s d e hs he hd v l hv
  unfold Oper.wp
  simp [execOp, hop, hx, hrun, Result.andThen]
  exact hK _ _ h
theorem wpQuiet_toStr {C : World → Prop} {Q : Act → Prop} (hw : Region.wanted o (yielded ops a.tmps) = true) (s d : TypeId) (x : Operand) (hop : o.op = Op.convert s d x) (e : TypeId)
    (hs : P.underlying s = some (.slice e)) (he : P.underlying e = some (.int .u8)) (hd : P.underlying d = some .string) (v : Value) (hx : a.eval x = v) (l : List UInt8) (hv : ∀ w, C w → Is8 w v l)
    (h : wpQuiet P ops C Q rest (a.put o.dst (.string ⟨l.toArray⟩))) : wpQuiet P ops C Q (o :: rest) a := by
  unfold wpQuiet
  rw [if_pos hw]
  refine ⟨.string ⟨l.toArray⟩, fun w hC => ?_, h⟩
  have hrun := run_toStr (P := P) w s d e hs he hd v l (hv w hC)
  simp [Oper.quietAt, Oper.quietUpon, execOp, hop, hx, hrun, Result.andThen]
/-- []byte("abc") of a constant: the literal's block gets its mark. -/
theorem wpList_constBytes (w : World) (hw : Region.wanted o (yielded ops a.tmps) = true) (t : TypeId) (x : Operand) (hop : o.op = Op.convert t t x) (e : TypeId)
    (ht : P.underlying t = some (.slice e)) (he : P.underlying e = some (.int .u8)) (C : Array Value) (b n c : Nat) (hx : a.eval x = .slice (some ⟨b, 0, none⟩) n c) (hb : b = w.heap.size)
    (h : wpList P ops Q rest (a.put o.dst (.slice (some ⟨b, 0, none⟩) n c)) (w.alloc (.cells C e (C.size, C.size + 1)))) : wpList P ops Q (o :: rest) a (w.alloc (.cells C e)) := by
  refine wpList_met hw fun K hK => ?_
  subst hb
  have hrun := Lib.run_convert_bytes_const (P := P) w t e C n c ht he
  unfold Oper.wp
  simp [execOp, hop, hx, hrun, Result.andThen]
  exact hK _ _ (by simpa using h)
/-- A literal, []T{x, y ..}: the block of it. -/
theorem Own.lit (w : World) (B : Nat) (e : TypeId) (cs : Array Value) (n : Nat) (hn : cs.toList.length = n) (hB : B ≤ w.heap.size) (hm : n ≤ 9223372036854775807) :
    Own (w.alloc (.cells cs e)) B e (.slice (some ⟨w.heap.size, 0, none⟩) n n) cs.toList := by
  subst hn
  exact ⟨by simp, .inr ⟨w.heap.size, _, cs, rfl, hB, heap_alloc_new w _, Nat.le_refl _, by unfold maxLen; omega, by simp, by simp; exact List.take_of_length_le (by simp)⟩⟩
end
theorem Below.of_grown {w w' : World} {B : Nat} {v : Value} (hB : B ≤ w.heap.size) (hg : w.grownBy w' v.ownBlock) (hv : ∀ k, v.ownBlock = some k → B ≤ k) : Below B w w' := (Below.refl B w).grown hg hB hv
end Go.Proofs.YtedfgikikjggaaaDoor
