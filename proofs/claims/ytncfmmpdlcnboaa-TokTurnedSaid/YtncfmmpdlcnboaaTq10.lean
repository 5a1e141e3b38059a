import Derived.Laws.AppendOwnNone
import Derived.Laws.BytesArg
import Derived.Lib.SlBytesConst
import Derived.IntWalk
import Derived.Outline
import Derived.Test.YtncfmmpdlcnboaaTq8
import Derived.Test.YtncfmmpdlcnboaaTq9
set_option linter.unusedVariables false
set_option linter.unusedSimpArgs false
namespace Go.Proofs.Ytncfmmpdlcnboaa
open Go.RowKit
section
def ElemOk (P : Program) (t e : TypeId) (z : Value) (bytes : Nat) : Prop :=
  P.underlying t = some (.slice e) ∧ ∃ i : TypeInfo, P.info? e = some i ∧ i.zero = some z ∧ i.size = 1 ∧ i.bytes = bytes ∧ z.cells.size = 1
def Own (w : World) (B : Nat) (e : TypeId) (v : Value) (xs : List Value) : Prop := w.ownsRow B e 1 v xs.length xs
theorem Own.nil (w : World) (B : Nat) (e : TypeId) : Own w B e (.slice none 0 0) [] := World.ownsRow_nil w B e 1
theorem Own.kept {w w' : World} {B : Nat} {e : TypeId} {v : Value} {xs : List Value} {row : Option Nat} (h : Own w B e v xs) (hg : w.grownBy w' row) (hne : v.ownBlock = none ∨ v.ownBlock ≠ row) : Own w' B e v xs := World.ownsRow.kept h hg hne
theorem grownBy_trans {a b c : World} {row : Option Nat} (h : a.grownBy b row) (k : b.grownBy c row) : a.grownBy c row :=
  ⟨k.os.trans h.os, k.tape.trans h.tape, k.output.trans h.output, Nat.le_trans h.size k.size, fun i hi hr => (k.block i (Nat.lt_of_lt_of_le hi h.size) hr).trans (h.block i hi hr)⟩
theorem grownBy_none {a b : World} {row : Option Nat} (h : a.grownBy b none) : a.grownBy b row := ⟨h.os, h.tape, h.output, h.size, fun k hk _ => h.block k hk (by simp)⟩
theorem grownBy_below {a b : World} (h : Below a.heap.size a b) (row : Option Nat) : a.grownBy b row := ⟨h.os, h.tape, h.output, h.size, fun k hk _ => h.block k hk⟩
theorem grownBy_drew (a : World) (n : Nat) (row : Option Nat) : a.grownBy (a.drewN n) row := ⟨rfl, rfl, rfl, Nat.le_refl _, fun _ _ _ => rfl⟩
theorem Own.base {w : World} {B B' : Nat} {e : TypeId} {v : Value} {xs : List Value} (h : Own w B e v xs) (hB : B' ≤ B) : Own w B' e v xs := by
  refine ⟨h.1, ?_⟩
  rcases h.2 with hn | ⟨g, cap, cur, hv, hg, r⟩
  · exact .inl hn
  · exact .inr ⟨g, cap, cur, hv, Nat.le_trans hB hg, r⟩
theorem Own.row {w : World} {B : Nat} {e : TypeId} {v : Value} {xs : List Value} (h : Own w B e v xs) : ∀ k, v.ownBlock = some k → B ≤ k ∧ k < w.heap.size := World.ownsRow.lt h
theorem Own.isSl {w : World} {B : Nat} {e : TypeId} {v : Value} {xs : List Value} (h : Own w B e v xs) {f : Nat → Value} (hf : ∀ i, i < xs.length → xs[i]? = some (f i)) : IsSl w v xs.length f := by
  have hh := h
  rcases h.2 with ⟨hv, hn⟩ | ⟨g, cap, cur, hv, hg, hb, hnc, hcm, hcs, ht⟩
  · exact ⟨none, 0, by rw [hv, hn], by omega, by unfold maxLen; omega, fun _ => rfl, fun h0 => by omega⟩
  · refine ⟨some ⟨g, 0, none⟩, cap, hv, hnc, hcm, (fun h => by cases h), fun h0 => ⟨g, 0, rfl, fun i hi => ?_⟩⟩
    have := World.ownsRow.cells hh (g := g) (by rw [hv]; rfl) i (f i) (hf i hi)
    rw [addr_add] at this
    simpa using this
theorem u8At_range (l : List UInt8) : (List.range l.length).map (u8At l) = l.map u8V := by
  apply List.ext_getElem
  · simp
  · intro i h1 h2; simp at h1; simp [u8At, byt, u8V, List.getD, h1]
theorem Own.is8 {w : World} {B : Nat} {v : Value} {l : List UInt8} {e : TypeId} (h : Own w B e v (l.map u8V)) : Is8 w v l := by
  have := h.isSl (f := u8At l) (by intro i hi; simp at hi; simp [u8At, byt, u8V, hi, List.getD])
  exact (by simpa using this : IsSl w v l.length (u8At l))
section
variable {P : Program} {ops : Array Oper} {rest : List Oper} {o : Oper} {a : Act} {Q : Exit → Act → World → Prop}
theorem wpList_met {w : World} (hw : Region.wanted o (yielded ops a.tmps) = true)
    (h : ∀ K : Act → World → Prop, (∀ a w, wpList P ops Q rest a w → K a w) → o.wp P a w K Q) : wpList P ops Q (o :: rest) a w :=
  wpList_step fun K hK => by simp only [hw, if_true]; exact h K hK
theorem wpList_appL (w : World) (hw : Region.wanted o (yielded ops a.tmps) = true) (s x : Operand) (t : TypeId) (ho : o.op = .call { callee := .builtin .append, args := #[s, x], argTypes := #[t, t] })
    (B : Nat) (e : TypeId) (z : Value) (bytes : Nat) (he : ElemOk P t e z bytes) (v : Value) (xs : List Value) (hs : a.eval s = v) (hown : Own w B e v xs)
    (cs : Array Value) (n c : Nat) (hx : a.eval x = .slice (some ⟨w.heap.size, 0, none⟩) n c) (hn : cs.toList.length = n) (h1 : ∀ u ∈ cs.toList, u.oneCell' = true)
    (hlen : (xs.length + n) * bytes ≤ 140737488355328) (hb : xs.length + n ≤ 9223372036854775807) (hB : B ≤ w.heap.size)
    (h : ∀ v' w', Own w' B e v' (xs ++ cs.toList) → w.grownBy w' v.ownBlock → wpList P ops Q rest (a.put o.dst v') w') : wpList P ops Q (o :: rest) a (w.alloc (.cells cs e)) := by
  obtain ⟨ht, i, hi, hz, hs1, hby, hzc⟩ := he
  refine wpList_met hw fun K hK => wp_append_own _ s x t ho B e i z 1 bytes ht hi hz hs1 hby hzc (by decide) v xs.length xs hs (World.ownsRow.alloc hown _) ⟨w.heap.size, 0, none⟩ n c cs.toList hx (by omega) ?_ h1 ?_ hlen ?_ ?_
  · intro j u hj
    have := cell_of_row (w.alloc (.cells cs e)) w.heap.size j cs e (0, 0) (heap_alloc_new w _)
    rw [addr_add, this]
    simpa using hj
  · unfold maxLen; omega
  · simp; omega
  · intro v' w' h2 h3 _
    refine hK _ _ (h v' w' ?_ (grownBy_trans (World.grownBy_alloc w _ _) h3))
    unfold Own
    rw [List.length_append, hn]
    exact h2
theorem wpList_appS (w : World) (hw : Region.wanted o (yielded ops a.tmps) = true) (s x : Operand) (t : TypeId) (ho : o.op = .call { callee := .builtin .append, args := #[s, x], argTypes := #[t, t] })
    (B : Nat) (e : TypeId) (z : Value) (bytes : Nat) (he : ElemOk P t e z bytes) (v : Value) (xs : List Value) (hs : a.eval s = v) (hown : Own w B e v xs)
    (v2 : Value) (n : Nat) (f : Nat → Value) (hx : a.eval x = v2) (hr : IsSl w v2 n f) (h1 : ∀ i, i < n → (f i).oneCell' = true)
    (hlen : (xs.length + n) * bytes ≤ 140737488355328) (hb : xs.length + n ≤ 9223372036854775807) (hB : B ≤ w.heap.size)
    (h : ∀ v' w', Own w' B e v' (xs ++ (List.range n).map f) → w.grownBy w' v.ownBlock → wpList P ops Q rest (a.put o.dst v') w') : wpList P ops Q (o :: rest) a w := by
  obtain ⟨ht, i, hi, hz, hs1, hby, hzc⟩ := he
  obtain ⟨ad, cap, rfl, hc1, hc2, hc0, hc3⟩ := hr
  have hlr : ((List.range n).map f).length = n := by simp
  cases ad with
  | none =>
    have hcap := hc0 rfl
    subst hcap
    obtain rfl : n = 0 := by omega
    refine wpList_met hw fun K hK => ?_
    have hrun := run_append_owned_none (P := P) (w := w) B t o.type e i 1 ht hi v xs.length xs hown
    unfold Oper.wp
    simp [execOp, ho, resolve, invoke, builtin, hs, hx, hrun, Result.andThen]
    exact hK _ _ (h v w (by simpa using hown) ⟨rfl, rfl, rfl, Nat.le_refl _, fun _ _ _ => rfl⟩)
  | some ad =>
    have hcells : ∀ (j : Nat) u, ((List.range n).map f)[j]? = some u → w.cell? (ad.add j) = some u := by
      intro j u hj
      have hjn : j < n := by
        have := (List.getElem?_eq_some_iff.1 hj).1
        simpa using this
      obtain ⟨b, off, hab, hc⟩ := hc3 (by omega)
      cases hab
      rw [addr_add_off, hc j hjn]
      simpa [hjn] using hj
    refine wpList_met hw fun K hK => wp_append_own _ s x t ho B e i z 1 bytes ht hi hz hs1 hby hzc (by decide) v xs.length xs hs hown ad n cap ((List.range n).map f) hx (by simp) hcells ?_ ?_ hlen hB ?_
    · intro u hu
      obtain ⟨j, hj, rfl⟩ := List.mem_map.1 hu
      exact h1 j (by simpa using hj)
    · unfold maxLen; omega
    · intro v' w' h2 h3 _
      refine hK _ _ (h v' w' ?_ h3)
      unfold Own
      rw [List.length_append, hlr]
      exact h2
theorem wpList_make0 (w : World) (hw : Region.wanted o (yielded ops a.tmps) = true) (l c : Operand) (t : TypeId) (hop : o.op = Op.makeSlice t l c)
    (B : Nat) (e : TypeId) (z : Value) (bytes : Nat) (he : ElemOk P t e z bytes) (kl kc : IntKind) (C : Int) (n : Nat) (hl : a.eval l = .int kl 0) (hc : a.eval c = .int kc C) (hC : C = (n : Int))
    (b2 : bytes * n ≤ 281474976710656) (b3 : n ≤ 9223372036854775807) (hB : B ≤ w.heap.size)
    (h : ∀ w', Own w' B e (.slice (some ⟨w.heap.size, 0, none⟩) 0 n) [] → w.grownBy w' none → wpList P ops Q rest (a.put o.dst (.slice (some ⟨w.heap.size, 0, none⟩) 0 n)) w') : wpList P ops Q (o :: rest) a w := by
  obtain ⟨ht, i, hi, hz, hs1, hby, hzc⟩ := he
  refine wpList_met hw fun K hK' => ?_
  obtain ⟨w', hrun, r1, r2⟩ := run_make_own (P := P) w B t e i z 1 ht hi hz hs1 kl kc n (by rw [hby]; exact b2) (by unfold maxLen; omega) hB
  subst hC
  unfold Oper.wp
  simp [execOp, hop, hl, hc, hrun, Result.andThen]
  exact hK' _ _ (h w' r1 r2)
theorem run_toStr (w : World) (s d e : TypeId) (hs : P.underlying s = some (.slice e)) (he : P.underlying e = some (.int .u8)) (hd : P.underlying d = some .string) (v : Value) (l : List UInt8) (hv : Is8 w v l) :
    (convert s d v).run P w = .ok (.string ⟨l.toArray⟩) w := by
  obtain ⟨ad, cap, rfl, hc1, hc2, hc0, hc3⟩ := hv
  have hst : strOfNums (l.map fun b => (b.toNat : Int)) = ⟨l.toArray⟩ := by
    apply ByteArray.ext
    apply Array.ext'
    rw [strOfNums_data, List.map_map]
    show _ = l
    conv => rhs; rw [← List.map_id l]
    apply List.map_congr_left
    intro b _
    simp
  cases ad with
  | none =>
    have hcap := hc0 rfl
    subst hcap
    have hl : l = [] := List.eq_nil_of_length_eq_zero (by omega)
    subst hl
    rw [run_convert_bytes_nil (P := P) (w := w) s e hs he _ _ d hd]; rfl
  | some ad =>
    by_cases hl : 0 < l.length
    · obtain ⟨b, off, hab, hc⟩ := hc3 hl
      cases hab
      rw [run_convert_bytes_arg (P := P) (w := w) s e hs he b off l.length cap (l.map fun b => (b.toNat : Int)) (by simp) (fun i hi => by rw [hc i hi]; simp [u8At, byt, List.getD, hi]) d hd, hst]
    · have hl : l = [] := List.eq_nil_of_length_eq_zero (by omega)
      subst hl
      obtain ⟨b, off, spot⟩ := ad
      have hcl : (loadCells (⟨b, off, spot⟩ : Addr) 0).run P w = .ok #[] w := by simp [loadCells, loadCellsFrom]
      simp [convert, run_underlying hs, run_underlying he, run_underlying hd, Conv.bytesToString, hcl]
      rfl
theorem wpList_toStr (w : World) (hw : Region.wanted o (yielded ops a.tmps) = true) (s d : TypeId) (x : Operand) (hop : o.op = Op.convert s d x) (e : TypeId)
    (hs : P.underlying s = some (.slice e)) (he : P.underlying e = some (.int .u8)) (hd : P.underlying d = some .string) (v : Value) (hx : a.eval x = v) (l : List UInt8) (hv : Is8 w v l)
    (h : wpList P ops Q rest (a.put o.dst (.string ⟨l.toArray⟩)) w) : wpList P ops Q (o :: rest) a w := by
  refine wpList_met hw fun K hK => ?_
  have hrun := run_toStr (P := P) w s d e hs he hd v l hv
  unfold Oper.wp
  simp [execOp, hop, hx, hrun, Result.andThen]
  exact hK _ _ h
theorem wpList_constBytes (w : World) (hw : Region.wanted o (yielded ops a.tmps) = true) (t : TypeId) (x : Operand) (hop : o.op = Op.convert t t x) (e : TypeId)
    (ht : P.underlying t = some (.slice e)) (he : P.underlying e = some (.int .u8)) (C : Array Value) (b n c : Nat) (hx : a.eval x = .slice (some ⟨b, 0, none⟩) n c) (hb : b = w.heap.size)
    (h : wpList P ops Q rest (a.put o.dst (.slice (some ⟨b, 0, none⟩) n c)) (w.alloc (.cells C e (C.size, C.size + 1)))) : wpList P ops Q (o :: rest) a (w.alloc (.cells C e)) := by
  refine wpList_met hw fun K hK => ?_
  subst hb
  have hrun := Lib.run_convert_bytes_const (P := P) w t e C n c ht he
  unfold Oper.wp
  simp [execOp, hop, hx, hrun, Result.andThen]
  exact hK _ _ (by simpa using h)
theorem Own.lit (w : World) (B : Nat) (e : TypeId) (cs : Array Value) (n : Nat) (hn : cs.toList.length = n) (hB : B ≤ w.heap.size) (hm : n ≤ 9223372036854775807) :
    Own (w.alloc (.cells cs e)) B e (.slice (some ⟨w.heap.size, 0, none⟩) n n) cs.toList := by
  subst hn
  exact ⟨by simp, .inr ⟨w.heap.size, _, cs, rfl, hB, heap_alloc_new w _, Nat.le_refl _, by unfold maxLen; omega, by simp, by simp; exact List.take_of_length_le (by simp)⟩⟩
end
end
theorem ok8 : ElemOk Try.prog 29 5 (.int .u8 0) 1 := by
  obtain ⟨i, h1, h2, h3, h4⟩ := info_parts (P := Try.prog) (e := 5) (z := .int .u8 0) (size := 1) (bytes := 1) (by kernel_rfl)
  exact ⟨Try.underlying29, i, h1, h2, h3, h4, rfl⟩
set_option maxHeartbeats 1000000 in
theorem rvalid_any (v : Value) (l : List UInt8) (w : World) (hv : Is8 w v l) (hm : l.length ≤ 1000000) :
    Calls Try.prog 32 #[v] w fun e w' => e = .returned (.bool (validL l)) ∧ ∃ n, w' = w.drewN n := by
  obtain ⟨a, cap, rfl, hc1, hc2, -, hs⟩ := hv
  unfold maxLen at hc2
  by_cases hn : l.length = 0
  · have hN := validL_nil hn
    rw [hN, hn]
    clear hs hN
    go_enter Try.func32, Try.ntmps32
    go_wp2
    go_loopw [3] (fun ti wr => ti = .int .i64 0 ∧ wr = w) (fun _ _ => 0)
    case atStart => exact ⟨rfl, rfl⟩
    case round =>
      obtain ⟨rfl, rfl⟩ := hrel
      go_wp2
      go_ret
      exact ⟨rfl, 0, rfl⟩
  obtain ⟨b, off, rfl, hc⟩ := hs (by omega)
  have HC := Lib.hid hc
  clear hs hc
  go_enter Try.func32, Try.ntmps32
  go_wp2
  go_loopw [3] (fun ti wr => ∃ k : Nat, k ≤ l.length ∧ ti = .int .i64 k ∧ (∃ n, wr = w.drewN n) ∧ Hid (validL l = validL (l.drop k))) (fun ti _ => l.length - (intOf ti).toNat)
  case atStart => exact ⟨0, by omega, rfl, ⟨0, rfl⟩, Lib.hid (by simp)⟩
  case round =>
    obtain ⟨k, hk, rfl, ⟨n, rfl⟩, HR⟩ := hrel
    by_cases hlt : k < l.length
    · have hkc : ¬ k = cap := by omega
      have hkc' : k < cap := by omega
      have HI : Hid (Is8 w (.slice (some ⟨b, off + k, none⟩) (l.length - k) (cap - k)) (l.drop k)) := Lib.hid (Is8.dropAt HC.out k hlt hc1 (by unfold maxLen; omega))
      have hnn := nextL_n (l.drop k) (by simp; omega)
      have HV := Lib.hid (validL_cons (l := l.drop k) (by simp; omega))
      simp only [List.length_drop] at hnn
      obtain ⟨hn1, hn2, -⟩ := hnn
      go_wp2_with fail
      refine (rnext_any _ (l.drop k) _ (IsSl.drew HI.out) (by simp; omega)).mono ?_
      rintro e w' ⟨rfl, n2, rfl⟩
      rw [List.drop_drop] at HV
      generalize nextL (l.drop k) = t at *
      obtain ⟨r, nn, ok⟩ := t
      cases ok
      · go_wp2
        go_ret
        exact ⟨by rw [HR.out, HV.out]; rfl, _, rfl⟩
      · go_wp2
        go_roundw
        case rel => exact ⟨k + nn, by omega, by go_num, ⟨_, rfl⟩, Lib.hid (by rw [HR.out, HV.out]; simp)⟩
        case measure => simp [intOf]; omega
    · obtain rfl : k = l.length := by omega
      go_wp2
      go_ret
      exact ⟨by rw [HR.out, validL_nil (l := l.drop l.length) (by simp)]; rfl, _, rfl⟩
theorem str_at (l : List UInt8) (i : Nat) (h : i < (⟨l.toArray⟩ : ByteArray).size) : (((⟨l.toArray⟩ : ByteArray)[i]'h).toNat : Int) = byt l i := by
  have hi : i < l.length := by simpa [ByteArray.size] using h
  unfold byt
  have e : (⟨l.toArray⟩ : ByteArray)[i]'h = l[i] := by
    show (l.toArray)[i]'_ = _
    simp
  rw [e]; simp [List.getD, hi]
theorem str_extract (l : List UInt8) (a b : Nat) : (⟨l.toArray⟩ : ByteArray).extract a b = ⟨((l.take b).drop a).toArray⟩ := by
  apply ByteArray.ext
  simp [ByteArray.data_extract, List.extract_eq_take_drop, List.drop_take]
theorem str_size (l : List UInt8) : (⟨l.toArray⟩ : ByteArray).size = l.length := by simp [ByteArray.size]
attribute [simp, go_sem] str_at str_extract str_size
theorem heap_alloc_at (w : World) (o : Obj) (n : Nat) : (w.alloc o).heap[n]? = if n = w.heap.size then some o else w.heap[n]? := by
  show (w.heap.push o)[n]? = _
  rw [Array.getElem?_push]
theorem lit8 (W : World) (b : Nat) (l : List UInt8) (n : Nat) (e : TypeId) (m : Nat × Nat) (hb : W.heap[b]? = some (.cells (l.map u8V).toArray e m)) (hn : l.length = n) (h4 : n ≤ 1000) :
    Is8 W (.slice (some ⟨b, 0, none⟩) n n) l := by
  subst hn
  refine ⟨_, _, rfl, Nat.le_refl _, by unfold maxLen; omega, (fun h => by cases h), fun _ => ⟨b, 0, rfl, fun i hi => ?_⟩⟩
  rw [Nat.zero_add, cell_of_row W b i _ e m hb]
  simp [u8At, byt, u8V, List.getD, hi]
theorem lit32 (W : World) (b : Nat) (l : List Int) (n : Nat) (e : TypeId) (hb : W.heap[b]? = some (.cells (l.map (Value.int .i32)).toArray e (0, 0))) (hn : l.length = n) (h4 : n ≤ 1000) :
    Is32 W (.slice (some ⟨b, 0, none⟩) n n) l := by
  subst hn
  refine ⟨_, _, rfl, Nat.le_refl _, by unfold maxLen; omega, (fun h => by cases h), fun _ => ⟨b, 0, rfl, fun i hi => ?_⟩⟩
  rw [Nat.zero_add, cell_of_row W b i _ e (0, 0) hb]
  simp [i32At, List.getD, hi]
theorem ret_b {a b : Bool} (h : a = b) : Ending.returned (.bool a) = .returned (.bool b) := by rw [h]
theorem ret_n {a b : Int} (h : a = b) : Ending.returned (.int .i64 a) = .returned (.int .i64 b) := by rw [h]
theorem tupIB {a a' : Int} {c c' : Bool} (h1 : a = a') (h3 : c = c') : Ending.returned (.tuple #[.int .i64 a, .bool c]) = .returned (.tuple #[.int .i64 a', .bool c']) := by rw [h1, h3]
set_option maxHeartbeats 1000000 in
theorem digit_any (c : Int) (w : World) :
    Calls Try.prog 29 #[.int .u8 c] w fun e w' => e = .returned (.bool (digC c)) ∧ w = w' := by
  by_cases h1 : 48 ≤ c
  · by_cases h2 : c ≤ 57
    · have HD := Lib.hid (digC_t ⟨h1, h2⟩)
      go_enter Try.func29, Try.ntmps29
      go_wp2_with fail
      go_ret
      exact ⟨ret_b HD.out.symm, by trivial⟩
    · have HD := Lib.hid (digC_f (c := c) (by omega))
      have h3 : 57 < c := by omega
      go_enter Try.func29, Try.ntmps29
      go_wp2_with fail
      go_ret
      exact ⟨ret_b HD.out.symm, by trivial⟩
  · have HD := Lib.hid (digC_f (c := c) (by omega))
    have h3 : c < 48 := by omega
    go_enter Try.func29, Try.ntmps29
    go_wp2_with fail
    go_ret
    exact ⟨ret_b HD.out.symm, by trivial⟩
set_option maxHeartbeats 1000000 in
theorem here_any (vb : Value) (b : List UInt8) (i : Nat) (w : World) (hv : Is8 w vb b) (hm : b.length ≤ 1000000) (hi : i ≤ 2000000) :
    Calls Try.prog 28 #[vb, .int .i64 i] w fun e w' => e = .returned (.int .u8 (byt b i)) ∧ w = w' := by
  obtain ⟨a, cap, rfl, hc1, hc2, -, hs⟩ := hv
  unfold maxLen at hc2
  by_cases h : i < b.length
  · obtain ⟨bb, off, rfl, hc⟩ := hs (by omega)
    have hcell : w.cell? ⟨bb, off + i, none⟩ = some (.int .u8 (byt b i)) := hc.at i h
    have hI : (i : Int) < (b.length : Int) := by omega
    obtain ⟨c, hcc⟩ : ∃ c, byt b i = c := ⟨_, rfl⟩
    rw [hcc] at hcell ⊢
    clear hcc hc hs
    go_enter Try.func28, Try.ntmps28
    go_wp2_with fail
    go_ret
    exact ⟨rfl, by trivial⟩
  · have HO := Lib.hid (byt_over (b := b) (i := i) (by omega))
    have hI : (b.length : Int) ≤ (i : Int) := by omega
    clear hs
    go_enter Try.func28, Try.ntmps28
    go_wp2_with fail
    go_ret
    exact ⟨by rw [HO.out]; rfl, by trivial⟩
set_option maxHeartbeats 1000000 in
theorem behind_any (vb : Value) (b : List UInt8) (i : Nat) (w : World) (hv : Is8 w vb b) (hm : b.length ≤ 1000000) (hi : i ≤ b.length) :
    Calls Try.prog 30 #[vb, .int .i64 i] w fun e w' => e = .returned (.int .i64 (digE b i)) ∧ w = w' := by
  have HH := Lib.hid (fun j (hj : j ≤ b.length) => here_any vb b j w hv hm (by omega))
  go_enter Try.func30, Try.ntmps30
  go_wp2_with fail
  go_loopw [1] (fun ti wr => ∃ j : Nat, j ≤ b.length ∧ ti = .int .i64 j ∧ Hid (digE b i = digE b j) ∧ wr = w) (fun ti _ => b.length - (intOf ti).toNat)
  case atStart => exact ⟨i, hi, rfl, Lib.hid rfl, rfl⟩
  case round =>
    obtain ⟨j, hj, rfl, HE, rfl⟩ := hrel
    have H1 := Lib.hid (HH.out j hj)
    have HD := Lib.hid (digit_any (byt b j))
    cases hd : digC (byt b j) with
    | true =>
      have hl := digC_lt hd
      have H2 := Lib.hid (HE.out.trans (digE_on hd))
      rw [hd] at HD
      clear hd
      go_wp2_with fail
      refine H1.out.mono ?_
      rintro e w' ⟨rfl, rfl⟩
      go_wp2_with fail
      refine (HD.out _).mono ?_
      rintro e w' ⟨rfl, rfl⟩
      go_wp2_with fail
      exact ⟨⟨j + 1, by omega, by go_num, H2, by trivial⟩, by simp [intOf]; omega⟩
    | false =>
      have H2 := Lib.hid (HE.out.trans (digE_off hd))
      rw [hd] at HD
      clear hd
      go_wp2_with fail
      refine H1.out.mono ?_
      rintro e w' ⟨rfl, rfl⟩
      go_wp2_with fail
      refine (HD.out _).mono ?_
      rintro e w' ⟨rfl, rfl⟩
      go_wp2_with fail
      go_ret
      exact ⟨ret_n (by rw [H2.out]), by trivial⟩
section
def Box (w : World) (g : Nat) (t : TypeId) (cs : List Value) : Prop := w.heap[g]? = some (.cells cs.toArray t (0, 0))
section
variable {w w' : World} {g : Nat} {t : TypeId} {cs : List Value}
theorem Box.lt (h : Box w g t cs) : g < w.heap.size := (Array.getElem?_eq_some_iff.1 h).1
theorem Box.cell (h : Box w g t cs) (i : Nat) : w.cell? ⟨g, i, none⟩ = cs[i]? := by
  rw [cell_of_row w g i cs.toArray t (0, 0) h]; simp
theorem Box.drew (h : Box w g t cs) (n : Nat) : Box (w.drewN n) g t cs := h
theorem Box.grown {row : Option Nat} (h : Box w g t cs) (hg : w.grownBy w' row) (hr : row ≠ some g) : Box w' g t cs := by
  unfold Box; rw [hg.block g h.lt (fun e => hr e.symm)]; exact h
theorem Box.below {B : Nat} (h : Box w g t cs) (hb : Below B w w') (hB : g < B) : Box w' g t cs := by
  unfold Box; rw [hb.block g hB]; exact h
theorem Box.new (w : World) (t : TypeId) (cs : List Value) : Box (w.alloc (.cells cs.toArray t)) w.heap.size t cs := heap_alloc_new w _
theorem Box.alloc (h : Box w g t cs) (o : Obj) : Box (w.alloc o) g t cs := h.grown (World.grownBy_alloc w o none) (by simp)
theorem Box.frozen (h : Box w g t cs) (i : Nat) : w.frozen? ⟨g, i, none⟩ = false := by
  have h2 : w.heap[g]? = some (.cells cs.toArray t (0, 0)) := h
  simp [World.frozen?, h2]
theorem Box.set (h : Box w g t cs) (i : Nat) (hi : i < cs.length) (v : Value) : Box (w.setCell ⟨g, i, none⟩ v) g t (cs.set i v) := by
  have h2 : w.heap[g]? = some (.cells cs.toArray t (0, 0)) := h
  unfold Box
  rw [heap_setCell_same w g i cs.toArray t v h2]
  simp
end
theorem grownBy_set (w : World) (g i : Nat) (v : Value) : w.grownBy (w.setCell ⟨g, i, none⟩ v) (some g) := by
  have h := Below.setCell (B := 0) (Below.refl 0 w) (p := ⟨g, i, none⟩) (Nat.zero_le _) v
  exact ⟨h.os, h.tape, h.output, h.size, fun k hk hr => Below.heap_setCell w ⟨g, i, none⟩ v k (fun e => hr (by rw [show k = g from e]))⟩
end
set_option maxHeartbeats 1000000 in
theorem hex_any (c : Int) (w : World) (h0 : 0 ≤ c) (h1 : c ≤ 255) :
    Calls Try.prog 56 #[.int .u8 c] w fun e w' => e = .returned (.int .i64 (hexN c)) ∧ w = w' := by
  have HX : Hid (hexN c = if 48 ≤ c ∧ c ≤ 57 then c - 48 else if 97 ≤ c ∧ c ≤ 102 then c - 87 else if 65 ≤ c ∧ c ≤ 70 then c - 55 else -1) := Lib.hid rfl
  by_cases a : 48 ≤ c <;> by_cases b : c ≤ 57 <;> by_cases d : 97 ≤ c <;> by_cases e : c ≤ 102 <;> by_cases f : 65 ≤ c <;> by_cases g : c ≤ 70
  all_goals first
    | (exfalso; omega)
    | (go_enter Try.func56, Try.ntmps56
       go_wp2
       go_ret
       refine ⟨ret_n ?_, by trivial⟩
       rw [HX.out]
       (repeat' split) <;> first | rfl | omega)
def Scan (w : World) (g : Nat) (vb : Value) (i : Nat) (keep : Bool) (n : Int) (vt : Value) : Prop := Box w g 48 [vb, .int .i64 i, .bool keep, .int .i64 n, vt]
structure Text (w : World) (g : Nat) (vb : Value) (b : List UInt8) : Prop where
  is : Is8 w vb b
  ne : 0 < b.length → ∀ bb off l c, vb = .slice (some ⟨bb, off, none⟩) l c → bb ≠ g
  le : b.length ≤ 1000000
theorem Cells.grown {w w' : World} {b off n : Nat} {f : Nat → Value} {row : Option Nat} (h : Cells w b off n f) (hn : 0 < n) (hg : w.grownBy w' row) (hr : row ≠ some b) : Cells w' b off n f := by
  intro i hi
  have hb := h.lt hn
  have e : w'.heap[b]? = w.heap[b]? := hg.block b hb (fun e => hr e.symm)
  have := h i hi
  simp only [World.cell?] at this ⊢
  rw [e]; exact this
theorem IsSl.grown {w w' : World} {v : Value} {n : Nat} {f : Nat → Value} {row : Option Nat} (h : IsSl w v n f) (hg : w.grownBy w' row) (hr : 0 < n → ∀ bb off l c, v = .slice (some ⟨bb, off, none⟩) l c → row ≠ some bb) : IsSl w' v n f := by
  obtain ⟨a, cap, rfl, h1, h2, h3, h4⟩ := h
  refine ⟨a, cap, rfl, h1, h2, h3, fun hn => ?_⟩
  obtain ⟨b, off, rfl, hc⟩ := h4 hn
  exact ⟨b, off, rfl, hc.grown hn hg (hr hn b off n cap rfl)⟩
theorem Text.grown {w w' : World} {g : Nat} {vb : Value} {b : List UInt8} (h : Text w g vb b) (hg : w.grownBy w' (some g)) : Text w' g vb b :=
  ⟨IsSl.grown h.is hg (fun hn bb off l c e => by have := h.ne hn bb off l c e; intro e2; injection e2 with e3; exact this e3.symm), h.ne, h.le⟩
theorem Scan.c1 {w : World} {g : Nat} {vb vt : Value} {i : Nat} {keep : Bool} {n : Int} (h : Scan w g vb i keep n vt) : w.cell? ⟨g, 1, none⟩ = some (.int .i64 i) := by
  rw [Box.cell h]; rfl
theorem Scan.to {w : World} {g : Nat} {vb vt : Value} {i : Nat} {keep : Bool} {n : Int} (h : Scan w g vb i keep n vt) (k j : Nat) (x : Int) (hx : x = (j : Int)) : Scan ((w.drewN k).setCell ⟨g, 1, none⟩ (.int .i64 x)) g vb j keep n vt := by
  subst hx
  exact Box.set (Box.drew h k) 1 (by simp) _
theorem grown_to {w wr : World} {g : Nat} (h : w.grownBy wr (some g)) (k i : Nat) (v : Value) : w.grownBy ((wr.drewN k).setCell ⟨g, i, none⟩ v) (some g) :=
  grownBy_trans (grownBy_trans h (grownBy_drew wr k _)) (grownBy_set _ g i v)
def leftOf (g m : Nat) (w : World) : Nat := match w.cell? ⟨g, 1, none⟩ with | some (.int _ x) => m - x.toNat | _ => 0
theorem leftOf_eq {w : World} {g : Nat} {vb vt : Value} {i : Nat} {keep : Bool} {n : Int} (h : Scan w g vb i keep n vt) (m : Nat) : leftOf g m w = m - i := by
  unfold leftOf; rw [h.c1]; simp
theorem grown_refl (w : World) (r : Option Nat) : w.grownBy w r := ⟨rfl, rfl, rfl, Nat.le_refl _, fun _ _ _ => rfl⟩
set_option maxHeartbeats 2000000 in
theorem skip_any (g : Nat) (vb : Value) (b : List UInt8) (i : Nat) (keep : Bool) (n : Int) (vt : Value) (w : World) (hs : Scan w g vb i keep n vt) (ht : Text w g vb b) (hi : i ≤ b.length) :
    Calls Try.prog 25 #[.pointer (some ⟨g, 0, none⟩)] w fun e w' => e = .returned (.tuple #[]) ∧ Scan w' g vb (skipE b i) keep n vt ∧ w.grownBy w' (some g) := by
  have HT := Lib.hid ht
  have hm := ht.le
  have HS := Lib.hid hs
  clear ht hs
  go_enter Try.func25, Try.ntmps25
  go_wp2_with fail
  go_loopw [] (fun wr => ∃ j : Nat, j ≤ b.length ∧ Hid (skipE b i = skipE b j) ∧ Scan wr g vb j keep n vt ∧ w.grownBy wr (some g)) (fun wr => leftOf g b.length wr)
  case atStart => exact ⟨i, hi, Lib.hid rfl, HS.out, grown_refl _ _⟩
  case round =>
    obtain ⟨j, hj, HE, hs, hg⟩ := hrel
    have HTr := Lib.hid (HT.out.grown hg)
    have HSr := Lib.hid hs
    have HG := Lib.hid hg
    have c0 : wr.cell? ⟨g, 0, none⟩ = some vb := by rw [hs.cell]; rfl
    have c1 : wr.cell? ⟨g, 1, none⟩ = some (.int .i64 j) := by rw [hs.cell]; rfl
    have fz : wr.frozen? ⟨g, 1, none⟩ = false := hs.frozen 1
    clear hs hg
    obtain ⟨a, cap, e, h1, h2, -, h4⟩ := HTr.out.is
    subst e
    unfold maxLen at h2
    by_cases hlt : j < b.length
    · obtain ⟨bb, off, rfl, hc⟩ := h4 (by omega)
      have hne : bb ≠ g := HTr.out.ne (by omega) bb off _ _ rfl
      have hcell : wr.cell? ⟨bb, off + j, none⟩ = some (.int .u8 (byt b j)) := hc.at j hlt
      have hltI : (j : Int) < (b.length : Int) := by omega
      obtain ⟨c, hcc⟩ : ∃ c, byt b j = c := ⟨_, rfl⟩
      have HC := Lib.hid hcc
      rw [hcc] at hcell
      clear hcc hc h4
      have HSK := Lib.hid (fun (hk : blkC c = true) => skipE_on hlt (by rw [HC.out]; exact hk))
      have HSO := Lib.hid (fun (hk : blkC c = false) => skipE_off (b := b) (i := j) (by rw [HC.out]; exact hk))
      rcases (by omega : c = 32 ∨ c = 9 ∨ c = 10 ∨ c = 13 ∨ (c ≠ 32 ∧ c ≠ 9 ∧ c ≠ 10 ∧ c ≠ 13)) with hk | hk | hk | hk | ⟨k1, k2, k3, k4⟩
      · have HK := Lib.hid (HE.out.trans (HSK.out (blkC_t (by omega))))
        subst hk
        go_wp2_with fail
        go_quiet (fail)
        go_wp2_with fail
        go_quiet (fail)
        go_wp2_with fail
        exact ⟨⟨j + 1, by omega, HK, HSr.out.to _ _ _ (by omega), grown_to HG.out _ _ _⟩, by rw [leftOf_eq (HSr.out.to _ (j + 1) _ (by omega)), leftOf_eq HSr.out]; omega⟩
      · have HK := Lib.hid (HE.out.trans (HSK.out (blkC_t (by omega))))
        subst hk
        go_wp2_with fail
        go_quiet (fail)
        go_wp2_with fail
        go_quiet (fail)
        go_wp2_with fail
        exact ⟨⟨j + 1, by omega, HK, HSr.out.to _ _ _ (by omega), grown_to HG.out _ _ _⟩, by rw [leftOf_eq (HSr.out.to _ (j + 1) _ (by omega)), leftOf_eq HSr.out]; omega⟩
      · have HK := Lib.hid (HE.out.trans (HSK.out (blkC_t (by omega))))
        subst hk
        go_wp2_with fail
        go_quiet (fail)
        go_wp2_with fail
        go_quiet (fail)
        go_wp2_with fail
        exact ⟨⟨j + 1, by omega, HK, HSr.out.to _ _ _ (by omega), grown_to HG.out _ _ _⟩, by rw [leftOf_eq (HSr.out.to _ (j + 1) _ (by omega)), leftOf_eq HSr.out]; omega⟩
      · have HK := Lib.hid (HE.out.trans (HSK.out (blkC_t (by omega))))
        subst hk
        go_wp2_with fail
        go_quiet (fail)
        go_wp2_with fail
        go_quiet (fail)
        go_wp2_with fail
        exact ⟨⟨j + 1, by omega, HK, HSr.out.to _ _ _ (by omega), grown_to HG.out _ _ _⟩, by rw [leftOf_eq (HSr.out.to _ (j + 1) _ (by omega)), leftOf_eq HSr.out]; omega⟩
      · have HK := Lib.hid (HE.out.trans (HSO.out (blkC_f (by omega))))
        have e1 : (c == 32) = false := by simpa using k1
        have e2 : (c == 9) = false := by simpa using k2
        have e3 : (c == 10) = false := by simpa using k3
        have e4 : (c == 13) = false := by simpa using k4
        clear k1 k2 k3 k4
        go_wp2_with fail
        go_quiet (fail)
        go_wp2_with fail
        go_quiet (fail)
        go_wp2_with fail
        (try simp only [Exit.inBlock, Exit.then])
        refine bodyPost_ret (results_none rfl _ _ _) rfl ?_
        exact ⟨rfl, by rw [HK.out]; exact Box.drew HSr.out _, grownBy_trans HG.out (grownBy_drew _ _ _)⟩
    · have HK := Lib.hid (HE.out.trans (skipE_end (b := b) (i := j) (by omega)))
      have hltI : (b.length : Int) ≤ (j : Int) := by omega
      clear h4
      go_wp2_with fail
      go_quiet (fail)
      go_wp2_with fail
      go_end0
      exact ⟨rfl, by rw [HK.out]; exact Box.drew HSr.out _, grownBy_trans HG.out (grownBy_drew _ _ _)⟩
def shd (r s : Int) : Int := if s = 0 then r else if s = 6 then r / 64 else r / 4096
set_option maxHeartbeats 1000000 in
theorem tail_any (r s : Int) (w : World) (h0 : 0 ≤ r) (h1 : r ≤ 1114111) (hs : s = 0 ∨ s = 6 ∨ s = 12) :
    Calls Try.prog 58 #[.int .i32 r, .int .i64 s] w fun e w' => e = .returned (.int .u8 (128 + shd r s % 64)) ∧ w = w' := by
  rcases hs with rfl | rfl | rfl
  all_goals
    go_enter Try.func58, Try.ntmps58
    go_wp2
    go_ret
    refine ⟨?_, by trivial⟩
    simp [shd]
    try omega
theorem app_end {w' : World} {B : Nat} {e : TypeId} {v : Value} {xs : List Value} {r : Int} {cs : List Value} (hown : Own w' B e v (xs ++ cs)) (h : (encR r).map u8V = cs) : Own w' B e v (xs ++ (encR r).map u8V) := by rw [h]; exact hown
set_option maxHeartbeats 1000000 in
theorem appendPoint_any (vb : Value) (xs : List Value) (B : Nat) (r : Int) (w : World) (h0 : 0 ≤ r) (h1 : r ≤ 1114111) (hown : Own w B 5 vb xs) (hB : B ≤ w.heap.size) (hx : xs.length ≤ 100000000) :
    Calls Try.prog 57 #[vb, .int .i32 r] w fun e w' => ∃ v', e = .returned v' ∧ Own w' B 5 v' (xs ++ (encR r).map u8V) ∧ w.grownBy w' vb.ownBlock := by
  by_cases h2 : r < 128
  · have he : (encR r).map u8V = [.int .u8 r] := by unfold encR; rw [if_pos h2]; simp [u8V_mk h0 (show r ≤ 255 by omega)]
    have HE := Lib.hid he
    clear he
    go_enter Try.func57, Try.ntmps57
    go_wp2_with (first | (go_at_call 58; refine (tail_any _ _ _ (by omega) (by omega) (by omega)).mono ?_; rintro e w' ⟨rfl, rfl⟩) | (at_builtin; refine wpList_appL _ rfl _ _ 29 rfl B 5 (.int .u8 0) 1 ok8 _ _ rfl hown _ 1 1 rfl rfl ?c1 (by omega) (by omega) hB ?_))
    case c1 => simp [Value.oneCell']
    intro v' w' hown' hgr
    go_wp2
    go_ret
    exact ⟨_, rfl, app_end hown' (by rw [HE.out]; try simp [shd]), hgr⟩
  by_cases h3 : r < 2048
  · have he : (encR r).map u8V = [.int .u8 (192 + r / 64), .int .u8 (128 + r % 64)] := by unfold encR; rw [if_neg h2, if_pos h3]; simp [u8V_mk (show 0 ≤ 192 + r / 64 by omega) (by omega), u8V_mk (show 0 ≤ 128 + r % 64 by omega) (by omega)]
    have HE := Lib.hid he
    clear he
    go_enter Try.func57, Try.ntmps57
    go_wp2_with (first | (go_at_call 58; refine (tail_any _ _ _ (by omega) (by omega) (by omega)).mono ?_; rintro e w' ⟨rfl, rfl⟩) | (at_builtin; refine wpList_appL _ rfl _ _ 29 rfl B 5 (.int .u8 0) 1 ok8 _ _ rfl hown _ 2 2 rfl rfl ?c1 (by omega) (by omega) hB ?_))
    case c1 => simp [Value.oneCell']
    intro v' w' hown' hgr
    go_wp2
    go_ret
    exact ⟨_, rfl, app_end hown' (by rw [HE.out]; try simp [shd]), hgr⟩
  by_cases h4 : r < 65536
  · have he : (encR r).map u8V = [.int .u8 (224 + r / 4096), .int .u8 (128 + r / 64 % 64), .int .u8 (128 + r % 64)] := by
      unfold encR; rw [if_neg h2, if_neg h3, if_pos h4]; simp [u8V_mk (show 0 ≤ 224 + r / 4096 by omega) (by omega), u8V_mk (show 0 ≤ 128 + r / 64 % 64 by omega) (by omega), u8V_mk (show 0 ≤ 128 + r % 64 by omega) (by omega)]
    have HE := Lib.hid he
    clear he
    go_enter Try.func57, Try.ntmps57
    go_wp2_with (first | (go_at_call 58; refine (tail_any _ _ _ (by omega) (by omega) (by omega)).mono ?_; rintro e w' ⟨rfl, rfl⟩) | (at_builtin; refine wpList_appL _ rfl _ _ 29 rfl B 5 (.int .u8 0) 1 ok8 _ _ rfl hown _ 3 3 rfl rfl ?c1 (by omega) (by omega) hB ?_))
    case c1 => simp [Value.oneCell']
    intro v' w' hown' hgr
    go_wp2
    go_ret
    exact ⟨_, rfl, app_end hown' (by rw [HE.out]; try simp [shd]), hgr⟩
  · have he : (encR r).map u8V = [.int .u8 (240 + r / 262144), .int .u8 (128 + r / 4096 % 64), .int .u8 (128 + r / 64 % 64), .int .u8 (128 + r % 64)] := by
      unfold encR; rw [if_neg h2, if_neg h3, if_neg h4]; simp [u8V_mk (show 0 ≤ 240 + r / 262144 by omega) (by omega), u8V_mk (show 0 ≤ 128 + r / 4096 % 64 by omega) (by omega), u8V_mk (show 0 ≤ 128 + r / 64 % 64 by omega) (by omega), u8V_mk (show 0 ≤ 128 + r % 64 by omega) (by omega)]
    have HE := Lib.hid he
    clear he
    go_enter Try.func57, Try.ntmps57
    go_wp2_with (first | (go_at_call 58; refine (tail_any _ _ _ (by omega) (by omega) (by omega)).mono ?_; rintro e w' ⟨rfl, rfl⟩) | (at_builtin; refine wpList_appL _ rfl _ _ 29 rfl B 5 (.int .u8 0) 1 ok8 _ _ rfl hown _ 4 4 rfl rfl ?c1 (by omega) (by omega) hB ?_))
    case c1 => simp [Value.oneCell']
    intro v' w' hown' hgr
    go_wp2
    go_ret
    exact ⟨_, rfl, app_end hown' (by rw [HE.out]; try simp [shd]), hgr⟩
set_option maxHeartbeats 1000000 in
theorem encode_any (v : Value) (l : List Int) (w : World) (hv : Is32 w v l) (hm : l.length ≤ 1000000) (hr : ∀ i, i < l.length → -2147483648 ≤ l.getD i 0 ∧ l.getD i 0 ≤ 2147483647) :
    Calls Try.prog 52 #[v] w fun e w' => ∃ v', e = .returned v' ∧ Own w' w.heap.size 5 v' ((encL l).map u8V) ∧ Below w.heap.size w w' := by
  obtain ⟨a, cap, rfl, hc1, hc2, -, hs⟩ := hv
  unfold maxLen at hc2
  have HC : Hid (0 < l.length → ∃ b off, a = some ⟨b, off, none⟩ ∧ Cells w b off l.length (i32At l)) := Lib.hid hs
  have HRG := Lib.hid hr
  clear hs hr
  go_enter Try.func52, Try.ntmps52
  go_wp2_with (at_make; refine wpList_make0 _ rfl _ _ 29 rfl w.heap.size 5 (.int .u8 0) 1 ok8 _ _ _ l.length rfl rfl rfl (by omega) (by omega) (Nat.le_refl _) ?_)
  intro w0 hown0 hg0
  go_wp2
  go_loopw [3, 11] (fun tv ti wr => ∃ (k : Nat), k ≤ l.length ∧ ti = .int .i64 k ∧ Own wr w.heap.size 5 tv ((encL (l.take k)).map u8V) ∧ Below w.heap.size w wr) (fun _ ti _ => l.length - (intOf ti).toNat)
  case atStart => exact ⟨0, by omega, rfl, by simpa [encL] using hown0, (Below.refl _ _).grown hg0 (Nat.le_refl _) (fun k h => by cases h)⟩
  case round =>
    obtain ⟨k, hk, rfl, hown, hbel⟩ := hrel
    by_cases hlt : k < l.length
    · obtain ⟨b, off, rfl, hc⟩ := HC.out (by omega)
      have hcell : wr.cell? ⟨b, off + k, none⟩ = some (.int .i32 (l.getD k 0)) := (hc.below hbel (hc.lt (by omega))).at k hlt
      have ht := Lib.hid (encL_take l k hlt)
      have hf := fixR_bd (l.getD k 0)
      have hln := (encL_len (l.take k)).2
      obtain ⟨hr1, hr2⟩ := HRG.out k hlt
      simp only [List.length_take] at hln
      have HFX : Hid (fixR (l.getD k 0) = if l.getD k 0 < 0 ∨ 1114111 < l.getD k 0 ∨ (55296 ≤ l.getD k 0 ∧ l.getD k 0 ≤ 57343) then 65533 else l.getD k 0) := Lib.hid rfl
      clear hc HC HRG
      have hsz := hbel.size
      generalize fixR (l.getD k 0) = R at *
      generalize l.getD k 0 = r at *
      by_cases c1 : r < 0
      · have hRr : R = 65533 := by have := HFX.out; rw [this, if_pos (by omega)]
        subst hRr
        go_wp2_with fail
        refine (appendPoint_any _ _ w.heap.size _ _ (by omega) (by omega) hown (by simpa using hsz) (by simp; omega)).mono ?_
        rintro e w2 ⟨v', rfl, hown2, hgr⟩
        have hb2 : Below w.heap.size w w2 := hbel.grown hgr hsz (fun k hk => (hown.row k hk).1)
        go_wp2
        go_roundw
        case rel => exact ⟨k + 1, by omega, by go_num, by rw [ht.out]; simpa using hown2, hb2⟩
        case measure => simp [intOf]; omega
      by_cases c2 : 1114111 < r
      · have hRr : R = 65533 := by have := HFX.out; rw [this, if_pos (by omega)]
        subst hRr
        go_wp2_with fail
        refine (appendPoint_any _ _ w.heap.size _ _ (by omega) (by omega) hown (by simpa using hsz) (by simp; omega)).mono ?_
        rintro e w2 ⟨v', rfl, hown2, hgr⟩
        have hb2 : Below w.heap.size w w2 := hbel.grown hgr hsz (fun k hk => (hown.row k hk).1)
        go_wp2
        go_roundw
        case rel => exact ⟨k + 1, by omega, by go_num, by rw [ht.out]; simpa using hown2, hb2⟩
        case measure => simp [intOf]; omega
      by_cases c3 : r / 2048 = 27
      · have hRr : R = 65533 := by have := HFX.out; rw [this, if_pos (by omega)]
        subst hRr
        go_wp2_with fail
        refine (appendPoint_any _ _ w.heap.size _ _ (by omega) (by omega) hown (by simpa using hsz) (by simp; omega)).mono ?_
        rintro e w2 ⟨v', rfl, hown2, hgr⟩
        have hb2 : Below w.heap.size w w2 := hbel.grown hgr hsz (fun k hk => (hown.row k hk).1)
        go_wp2
        go_roundw
        case rel => exact ⟨k + 1, by omega, by go_num, by rw [ht.out]; simpa using hown2, hb2⟩
        case measure => simp [intOf]; omega
      · have hRr : R = r := by have := HFX.out; rw [this, if_neg (by omega)]
        subst hRr
        go_wp2_with fail
        refine (appendPoint_any _ _ w.heap.size _ _ (by omega) (by omega) hown (by simpa using hsz) (by simp; omega)).mono ?_
        rintro e w2 ⟨v', rfl, hown2, hgr⟩
        have hb2 : Below w.heap.size w w2 := hbel.grown hgr hsz (fun k hk => (hown.row k hk).1)
        go_wp2
        go_roundw
        case rel => exact ⟨k + 1, by omega, by go_num, by rw [ht.out]; simpa using hown2, hb2⟩
        case measure => simp [intOf]; omega
    · obtain rfl : k = l.length := by omega
      go_wp2
      go_ret
      refine ⟨_, rfl, ?_, hbel⟩
      simpa using hown
theorem numM_y {b : List UInt8} {i : Nat} (h : byt b i = 45) : numM b i = intM b (i + 1) := by unfold numM; rw [if_pos h]
theorem numM_n {b : List UInt8} {i : Nat} (h : byt b i ≠ 45) : numM b i = intM b i := by unfold numM; rw [if_neg h]
theorem intM_0 {b : List UInt8} {i : Nat} (h : byt b i = 48) : intM b i = fracM b (i + 1) := by unfold intM; rw [if_pos h]
theorem intM_d {b : List UInt8} {i : Nat} (h : byt b i ≠ 48) (hd : digC (byt b i) = true) : intM b i = fracM b (digE b i) := by unfold intM; rw [if_neg h, if_pos hd]
theorem intM_n {b : List UInt8} {i : Nat} (hd : digC (byt b i) = false) : intM b i = (i, false) := by
  have h : byt b i ≠ 48 := by intro h; rw [h] at hd; cases hd
  unfold intM; rw [if_neg h, if_neg (by rw [hd]; simp)]
theorem fracM_n {b : List UInt8} {i : Nat} (h : byt b i ≠ 46) : fracM b i = expM b i := by unfold fracM; rw [if_neg h]
theorem fracM_d {b : List UInt8} {i : Nat} (h : byt b i = 46) (hd : digC (byt b (i + 1)) = true) : fracM b i = expM b (digE b (i + 1)) := by unfold fracM; rw [if_pos h, if_pos hd]
theorem fracM_l {b : List UInt8} {i : Nat} (h : byt b i = 46) (hd : digC (byt b (i + 1)) = false) : fracM b i = (i + 1, false) := by unfold fracM; rw [if_pos h, if_neg (by rw [hd]; simp)]
theorem expM_n {b : List UInt8} {i : Nat} (h1 : byt b i ≠ 101) (h2 : byt b i ≠ 69) : expM b i = (i, true) := by unfold expM; rw [if_neg (by rintro (h | h); exact h1 h; exact h2 h)]
theorem expM_s {b : List UInt8} {i : Nat} (h : byt b i = 101 ∨ byt b i = 69) (hs : byt b (i + 1) = 43 ∨ byt b (i + 1) = 45) (d : Bool) (hd : digC (byt b (i + 2)) = d) : expM b i = if d = true then (digE b (i + 2), true) else (i + 2, false) := by
  unfold expM; rw [if_pos h]; simp only [if_pos hs]; rw [hd]
theorem expM_u {b : List UInt8} {i : Nat} (h : byt b i = 101 ∨ byt b i = 69) (h1 : byt b (i + 1) ≠ 43) (h2 : byt b (i + 1) ≠ 45) (d : Bool) (hd : digC (byt b (i + 1)) = d) : expM b i = if d = true then (digE b (i + 1), true) else (i + 1, false) := by
  have hs : ¬ (byt b (i + 1) = 43 ∨ byt b (i + 1) = 45) := by rintro (h | h); exact h1 h; exact h2 h
  unfold expM; rw [if_pos h]; simp only [if_neg hs]; rw [hd]
def NFr (vb : Value) (x : Int) (a : Act) : Prop := ∃ (u6 u7 u8 u9 u10 u11 u12 u13 u14 u15 u16 u17 u18 u19 u20 u21 u22 u23 u24 u25 u26 u27 u28 u29 u30 u31 u32 u33 u34 u35 u36 u37 u38 u39 u40 u41 u42 u43 u44 u45 u46 u47 u48 u49 u50 u51 u52 u53 u54 u55 u56 u57 u58 u59 u60 u61 u62 u63 u64 u65 u66 u67 u68 u69 u70 u71 u72 u73 : Value), a = { tmps := #[vb, .int .i64 x, undef, undef, .int .i64 0, .bool false, u6, u7, u8, u9, u10, u11, u12, u13, u14, u15, u16, u17, u18, u19, u20, u21, u22, u23, u24, u25, u26, u27, u28, u29, u30, u31, u32, u33, u34, u35, u36, u37, u38, u39, u40, u41, u42, u43, u44, u45, u46, u47, u48, u49, u50, u51, u52, u53, u54, u55, u56, u57, u58, u59, u60, u61, u62, u63, u64, u65, u66, u67, u68, u69, u70, u71, u72, u73], defers := [] }
def NumJ (vb : Value) (b : List UInt8) (i : Nat) (W : World) (l : Nat) (a : Act) (w : World) : Prop :=
  ∃ (j : Nat) (x : Int), x = (j : Int) ∧ j ≤ b.length ∧ w = W ∧ NFr vb x a ∧ ((l = 0 ∧ numM b i = fracM b j) ∨ (l = 2 ∧ numM b i = expM b j) ∨ (l = 1 ∧ numM b i = (j, false)))
def numμ (l : Nat) (a : Act) (w : World) : Nat := if l = 0 then 2 else if l = 2 then 1 else 0
theorem here_x (vb : Value) (b : List UInt8) (w : World) (hv : Is8 w vb b) (hm : b.length ≤ 1000000) (x : Int) (h0 : 0 ≤ x) (h1 : x ≤ 2000000) :
    Calls Try.prog 28 #[vb, .int .i64 x] w fun e w' => e = .returned (.int .u8 (byt b x.toNat)) ∧ w = w' := by
  obtain ⟨i, rfl⟩ := Int.eq_ofNat_of_zero_le h0
  exact here_any vb b i w hv hm (by omega)
theorem behind_x (vb : Value) (b : List UInt8) (w : World) (hv : Is8 w vb b) (hm : b.length ≤ 1000000) (x : Int) (h0 : 0 ≤ x) (h1 : x ≤ b.length) :
    Calls Try.prog 30 #[vb, .int .i64 x] w fun e w' => e = .returned (.int .i64 (digE b x.toNat)) ∧ w = w' := by
  obtain ⟨i, rfl⟩ := Int.eq_ofNat_of_zero_le h0
  exact behind_any vb b i w hv hm (by omega)
set_option maxRecDepth 100000 in
set_option maxHeartbeats 16000000 in
theorem number_any (vb : Value) (b : List UInt8) (i : Nat) (w : World) (hv : Is8 w vb b) (hm : b.length ≤ 1000000) (hi : i ≤ b.length) :
    Calls Try.prog 19 #[vb, .int .i64 i] w fun e w' => e = .returned (.tuple #[.int .i64 (numM b i).1, .bool (numM b i).2]) ∧ w = w' := by
  have HX := Lib.hid (fun x (h0 : 0 ≤ x) (h1 : x ≤ 2000000) => here_x vb b w hv hm x h0 h1)
  have BX := Lib.hid (fun x (h0 : 0 ≤ x) (h1 : x ≤ (b.length : Int)) => behind_x vb b w hv hm x h0 h1)
  go_enter Try.func19, Try.ntmps19
  go_wp2_with fail
  refine wp_scope_labels (NumJ vb b i w) numμ ?_ ?_
  · clear hv
    by_cases hmin : byt b i = 45
    · have hli : i < b.length := byt_lt hmin (by decide)
      have m0 : (byt b i == 45) = true := by rw [hmin]; rfl
      have HI0 := Lib.hid (numM_y hmin)
      have j1 : ((i : Int) + 1).toNat = i + 1 := by omega
      obtain ⟨p, hp⟩ : ∃ p, i + 1 = p := ⟨_, rfl⟩
      have hpI : (i : Int) + 1 = (p : Int) := by omega
      rw [hp] at HI0 j1
      have hpl : p ≤ b.length := by omega
      clear hmin hp
      have i1 : (((p : Nat) : Int) + 1).toNat = p + 1 := by omega
      by_cases h0 : byt b p = 48
      · have hlp : p < b.length := byt_lt h0 (by decide)
        have k0 : (byt b p == 48) = true := by rw [h0]; rfl
        have HF := Lib.hid (HI0.out.trans (intM_0 h0))
        clear h0
        go_wp2_with (first
          | (go_at_call 28; (with_reducible refine (HX.out _ (by omega) (by omega)).mono ?_); rintro e w' ⟨rfl, rfl⟩)
          | (go_at_call 29; (with_reducible refine (digit_any _ _).mono ?_); rintro e w' ⟨rfl, rfl⟩)
          | (go_at_call 30; (with_reducible refine (BX.out _ (by omega) (by omega)).mono ?_); rintro e w' ⟨rfl, rfl⟩))
        repeat (go_step3; try go_wp2_with (first
            | (go_at_call 28; (with_reducible refine (HX.out _ (by omega) (by omega)).mono ?_); rintro e w' ⟨rfl, rfl⟩)
            | (go_at_call 29; (with_reducible refine (digit_any _ _).mono ?_); rintro e w' ⟨rfl, rfl⟩)
            | (go_at_call 30; (with_reducible refine (BX.out _ (by omega) (by omega)).mono ?_); rintro e w' ⟨rfl, rfl⟩)))
        exact ⟨p + 1, _, by omega, by omega, rfl, ⟨_, _, _, _, _, _, _, _, _, _, _, _, _, _, _, _, _, _, _, _, _, _, _, _, _, _, _, _, _, _, _, _, _, _, _, _, _, _, _, _, _, _, _, _, _, _, _, _, _, _, _, _, _, _, _, _, _, _, _, _, _, _, _, _, _, _, _, _, rfl⟩, .inl ⟨rfl, HF.out⟩⟩
      · have k0 : (byt b p == 48) = false := by simpa using h0
        cases hid : digC (byt b p) with
        | true =>
          have hlp := digC_lt hid
          have HF0 := Lib.hid (HI0.out.trans (intM_d h0 hid))
          have hqb := digE_bd b p (by omega)
          obtain ⟨q, hq⟩ : ∃ q, digE b p = q := ⟨_, rfl⟩
          rw [hq] at HF0 hqb
          obtain ⟨hqb1, hqb2⟩ := hqb
          clear h0
          have f1 : (((q : Nat) : Int) + 1).toNat = q + 1 := by omega
          by_cases hdot : byt b q = 46
          · have hlq : q < b.length := byt_lt hdot (by decide)
            have g0 : (byt b q != 46) = false := by rw [hdot]; rfl
            cases hfd : digC (byt b (q + 1)) with
            | true =>
              have hlq2 := digC_lt hfd
              have HE0 := Lib.hid (HF0.out.trans (fracM_d hdot hfd))
              have hrb := digE_bd b (q + 1) (by omega)
              obtain ⟨r, hr⟩ : ∃ r, digE b (q + 1) = r := ⟨_, rfl⟩
              rw [hr] at HE0 hrb
              obtain ⟨hrb1, hrb2⟩ := hrb
              clear hdot
              have t1 : (((r : Nat) : Int) + 1).toNat = r + 1 := by omega
              have t2 : (((r : Nat) : Int) + 1 + 1).toNat = r + 2 := by omega
              have t3 : (((r : Nat) : Int) + 2).toNat = r + 2 := by omega
              have hcE : (byt b r = 101) ∨ (byt b r ≠ 101 ∧ byt b r = 69) ∨ (byt b r ≠ 101 ∧ byt b r ≠ 69) := by omega
              rcases hcE with hE | ⟨hE1, hE⟩ | ⟨hE1, hE2⟩
              · have g1 : (byt b r != 101) = false := by rw [hE]; rfl
                have hlr : r < b.length := byt_lt hE (by decide)
                have hEE : byt b r = 101 ∨ byt b r = 69 := .inl hE
                clear hE
                rcases (by omega : byt b (r + 1) = 43 ∨ (byt b (r + 1) ≠ 43 ∧ byt b (r + 1) = 45) ∨ (byt b (r + 1) ≠ 43 ∧ byt b (r + 1) ≠ 45)) with hS | ⟨hS1, hS⟩ | ⟨hS1, hS2⟩
                · have g3 : (byt b (r + 1) == 43) = true := by rw [hS]; rfl
                  have hlr2 : r + 1 < b.length := byt_lt hS (by decide)
                  have hSS : byt b (r + 1) = 43 ∨ byt b (r + 1) = 45 := .inl hS
                  clear hS
                  cases hD : digC (byt b (r + 2)) with
                  | true =>
                    have HF := Lib.hid (HE0.out.trans (expM_s hEE hSS true hD))
                    rw [if_pos rfl] at HF
                    have hld := digC_lt hD
                    have Hd := Lib.hid hD
                    clear hEE hSS
                    go_wp2_with (first
                      | (go_at_call 28; (with_reducible refine (HX.out _ (by omega) (by omega)).mono ?_); rintro e w' ⟨rfl, rfl⟩)
                      | (go_at_call 29; (with_reducible refine (digit_any _ _).mono ?_); rintro e w' ⟨rfl, rfl⟩)
                      | (go_at_call 30; (with_reducible refine (BX.out _ (by omega) (by omega)).mono ?_); rintro e w' ⟨rfl, rfl⟩))
                    repeat (go_step3; try go_wp2_with (first
                        | (go_at_call 28; (with_reducible refine (HX.out _ (by omega) (by omega)).mono ?_); rintro e w' ⟨rfl, rfl⟩)
                        | (go_at_call 29; (with_reducible refine (digit_any _ _).mono ?_); rintro e w' ⟨rfl, rfl⟩)
                        | (go_at_call 30; (with_reducible refine (BX.out _ (by omega) (by omega)).mono ?_); rintro e w' ⟨rfl, rfl⟩)))
                    try rw [toJ_ret]
                    go_ret2
                    exact ⟨tupIB (by rw [HF.out]) (by rw [HF.out]), by trivial⟩
                  | false =>
                    have HF := Lib.hid (HE0.out.trans (expM_s hEE hSS false hD))
                    rw [if_neg (by decide)] at HF
                    clear hEE hSS
                    go_wp2_with (first
                      | (go_at_call 28; (with_reducible refine (HX.out _ (by omega) (by omega)).mono ?_); rintro e w' ⟨rfl, rfl⟩)
                      | (go_at_call 29; (with_reducible refine (digit_any _ _).mono ?_); rintro e w' ⟨rfl, rfl⟩)
                      | (go_at_call 30; (with_reducible refine (BX.out _ (by omega) (by omega)).mono ?_); rintro e w' ⟨rfl, rfl⟩))
                    repeat (go_step3; try go_wp2_with (first
                        | (go_at_call 28; (with_reducible refine (HX.out _ (by omega) (by omega)).mono ?_); rintro e w' ⟨rfl, rfl⟩)
                        | (go_at_call 29; (with_reducible refine (digit_any _ _).mono ?_); rintro e w' ⟨rfl, rfl⟩)
                        | (go_at_call 30; (with_reducible refine (BX.out _ (by omega) (by omega)).mono ?_); rintro e w' ⟨rfl, rfl⟩)))
                    exact ⟨r + 2, _, by omega, by omega, rfl, ⟨_, _, _, _, _, _, _, _, _, _, _, _, _, _, _, _, _, _, _, _, _, _, _, _, _, _, _, _, _, _, _, _, _, _, _, _, _, _, _, _, _, _, _, _, _, _, _, _, _, _, _, _, _, _, _, _, _, _, _, _, _, _, _, _, _, _, _, _, rfl⟩, .inr (.inr ⟨rfl, HF.out⟩)⟩
                · have g3 : (byt b (r + 1) == 43) = false := by simpa using hS1
                  have g4 : (byt b (r + 1) == 45) = true := by rw [hS]; rfl
                  have hlr2 : r + 1 < b.length := byt_lt hS (by decide)
                  have hSS : byt b (r + 1) = 43 ∨ byt b (r + 1) = 45 := .inr hS
                  clear hS hS1
                  cases hD : digC (byt b (r + 2)) with
                  | true =>
                    have HF := Lib.hid (HE0.out.trans (expM_s hEE hSS true hD))
                    rw [if_pos rfl] at HF
                    have hld := digC_lt hD
                    have Hd := Lib.hid hD
                    clear hEE hSS
                    go_wp2_with (first
                      | (go_at_call 28; (with_reducible refine (HX.out _ (by omega) (by omega)).mono ?_); rintro e w' ⟨rfl, rfl⟩)
                      | (go_at_call 29; (with_reducible refine (digit_any _ _).mono ?_); rintro e w' ⟨rfl, rfl⟩)
                      | (go_at_call 30; (with_reducible refine (BX.out _ (by omega) (by omega)).mono ?_); rintro e w' ⟨rfl, rfl⟩))
                    repeat (go_step3; try go_wp2_with (first
                        | (go_at_call 28; (with_reducible refine (HX.out _ (by omega) (by omega)).mono ?_); rintro e w' ⟨rfl, rfl⟩)
                        | (go_at_call 29; (with_reducible refine (digit_any _ _).mono ?_); rintro e w' ⟨rfl, rfl⟩)
                        | (go_at_call 30; (with_reducible refine (BX.out _ (by omega) (by omega)).mono ?_); rintro e w' ⟨rfl, rfl⟩)))
                    try rw [toJ_ret]
                    go_ret2
                    exact ⟨tupIB (by rw [HF.out]) (by rw [HF.out]), by trivial⟩
                  | false =>
                    have HF := Lib.hid (HE0.out.trans (expM_s hEE hSS false hD))
                    rw [if_neg (by decide)] at HF
                    clear hEE hSS
                    go_wp2_with (first
                      | (go_at_call 28; (with_reducible refine (HX.out _ (by omega) (by omega)).mono ?_); rintro e w' ⟨rfl, rfl⟩)
                      | (go_at_call 29; (with_reducible refine (digit_any _ _).mono ?_); rintro e w' ⟨rfl, rfl⟩)
                      | (go_at_call 30; (with_reducible refine (BX.out _ (by omega) (by omega)).mono ?_); rintro e w' ⟨rfl, rfl⟩))
                    repeat (go_step3; try go_wp2_with (first
                        | (go_at_call 28; (with_reducible refine (HX.out _ (by omega) (by omega)).mono ?_); rintro e w' ⟨rfl, rfl⟩)
                        | (go_at_call 29; (with_reducible refine (digit_any _ _).mono ?_); rintro e w' ⟨rfl, rfl⟩)
                        | (go_at_call 30; (with_reducible refine (BX.out _ (by omega) (by omega)).mono ?_); rintro e w' ⟨rfl, rfl⟩)))
                    exact ⟨r + 2, _, by omega, by omega, rfl, ⟨_, _, _, _, _, _, _, _, _, _, _, _, _, _, _, _, _, _, _, _, _, _, _, _, _, _, _, _, _, _, _, _, _, _, _, _, _, _, _, _, _, _, _, _, _, _, _, _, _, _, _, _, _, _, _, _, _, _, _, _, _, _, _, _, _, _, _, _, rfl⟩, .inr (.inr ⟨rfl, HF.out⟩)⟩
                · have g3 : (byt b (r + 1) == 43) = false := by simpa using hS1
                  have g4 : (byt b (r + 1) == 45) = false := by simpa using hS2
                  cases hD : digC (byt b (r + 1)) with
                  | true =>
                    have HF := Lib.hid (HE0.out.trans (expM_u hEE hS1 hS2 true hD))
                    rw [if_pos rfl] at HF
                    have hld := digC_lt hD
                    have Hd := Lib.hid hD
                    clear hEE hS1 hS2
                    go_wp2_with (first
                      | (go_at_call 28; (with_reducible refine (HX.out _ (by omega) (by omega)).mono ?_); rintro e w' ⟨rfl, rfl⟩)
                      | (go_at_call 29; (with_reducible refine (digit_any _ _).mono ?_); rintro e w' ⟨rfl, rfl⟩)
                      | (go_at_call 30; (with_reducible refine (BX.out _ (by omega) (by omega)).mono ?_); rintro e w' ⟨rfl, rfl⟩))
                    repeat (go_step3; try go_wp2_with (first
                        | (go_at_call 28; (with_reducible refine (HX.out _ (by omega) (by omega)).mono ?_); rintro e w' ⟨rfl, rfl⟩)
                        | (go_at_call 29; (with_reducible refine (digit_any _ _).mono ?_); rintro e w' ⟨rfl, rfl⟩)
                        | (go_at_call 30; (with_reducible refine (BX.out _ (by omega) (by omega)).mono ?_); rintro e w' ⟨rfl, rfl⟩)))
                    try rw [toJ_ret]
                    go_ret2
                    exact ⟨tupIB (by rw [HF.out]) (by rw [HF.out]), by trivial⟩
                  | false =>
                    have HF := Lib.hid (HE0.out.trans (expM_u hEE hS1 hS2 false hD))
                    rw [if_neg (by decide)] at HF
                    clear hEE hS1 hS2
                    go_wp2_with (first
                      | (go_at_call 28; (with_reducible refine (HX.out _ (by omega) (by omega)).mono ?_); rintro e w' ⟨rfl, rfl⟩)
                      | (go_at_call 29; (with_reducible refine (digit_any _ _).mono ?_); rintro e w' ⟨rfl, rfl⟩)
                      | (go_at_call 30; (with_reducible refine (BX.out _ (by omega) (by omega)).mono ?_); rintro e w' ⟨rfl, rfl⟩))
                    repeat (go_step3; try go_wp2_with (first
                        | (go_at_call 28; (with_reducible refine (HX.out _ (by omega) (by omega)).mono ?_); rintro e w' ⟨rfl, rfl⟩)
                        | (go_at_call 29; (with_reducible refine (digit_any _ _).mono ?_); rintro e w' ⟨rfl, rfl⟩)
                        | (go_at_call 30; (with_reducible refine (BX.out _ (by omega) (by omega)).mono ?_); rintro e w' ⟨rfl, rfl⟩)))
                    exact ⟨r + 1, _, by omega, by omega, rfl, ⟨_, _, _, _, _, _, _, _, _, _, _, _, _, _, _, _, _, _, _, _, _, _, _, _, _, _, _, _, _, _, _, _, _, _, _, _, _, _, _, _, _, _, _, _, _, _, _, _, _, _, _, _, _, _, _, _, _, _, _, _, _, _, _, _, _, _, _, _, rfl⟩, .inr (.inr ⟨rfl, HF.out⟩)⟩
              · have g1 : (byt b r != 101) = true := by simpa using hE1
                have g2 : (byt b r != 69) = false := by rw [hE]; rfl
                have hlr : r < b.length := byt_lt hE (by decide)
                have hEE : byt b r = 101 ∨ byt b r = 69 := .inr hE
                clear hE hE1
                rcases (by omega : byt b (r + 1) = 43 ∨ (byt b (r + 1) ≠ 43 ∧ byt b (r + 1) = 45) ∨ (byt b (r + 1) ≠ 43 ∧ byt b (r + 1) ≠ 45)) with hS | ⟨hS1, hS⟩ | ⟨hS1, hS2⟩
                · have g3 : (byt b (r + 1) == 43) = true := by rw [hS]; rfl
                  have hlr2 : r + 1 < b.length := byt_lt hS (by decide)
                  have hSS : byt b (r + 1) = 43 ∨ byt b (r + 1) = 45 := .inl hS
                  clear hS
                  cases hD : digC (byt b (r + 2)) with
                  | true =>
                    have HF := Lib.hid (HE0.out.trans (expM_s hEE hSS true hD))
                    rw [if_pos rfl] at HF
                    have hld := digC_lt hD
                    have Hd := Lib.hid hD
                    clear hEE hSS
                    go_wp2_with (first
                      | (go_at_call 28; (with_reducible refine (HX.out _ (by omega) (by omega)).mono ?_); rintro e w' ⟨rfl, rfl⟩)
                      | (go_at_call 29; (with_reducible refine (digit_any _ _).mono ?_); rintro e w' ⟨rfl, rfl⟩)
                      | (go_at_call 30; (with_reducible refine (BX.out _ (by omega) (by omega)).mono ?_); rintro e w' ⟨rfl, rfl⟩))
                    repeat (go_step3; try go_wp2_with (first
                        | (go_at_call 28; (with_reducible refine (HX.out _ (by omega) (by omega)).mono ?_); rintro e w' ⟨rfl, rfl⟩)
                        | (go_at_call 29; (with_reducible refine (digit_any _ _).mono ?_); rintro e w' ⟨rfl, rfl⟩)
                        | (go_at_call 30; (with_reducible refine (BX.out _ (by omega) (by omega)).mono ?_); rintro e w' ⟨rfl, rfl⟩)))
                    try rw [toJ_ret]
                    go_ret2
                    exact ⟨tupIB (by rw [HF.out]) (by rw [HF.out]), by trivial⟩
                  | false =>
                    have HF := Lib.hid (HE0.out.trans (expM_s hEE hSS false hD))
                    rw [if_neg (by decide)] at HF
                    clear hEE hSS
                    go_wp2_with (first
                      | (go_at_call 28; (with_reducible refine (HX.out _ (by omega) (by omega)).mono ?_); rintro e w' ⟨rfl, rfl⟩)
                      | (go_at_call 29; (with_reducible refine (digit_any _ _).mono ?_); rintro e w' ⟨rfl, rfl⟩)
                      | (go_at_call 30; (with_reducible refine (BX.out _ (by omega) (by omega)).mono ?_); rintro e w' ⟨rfl, rfl⟩))
                    repeat (go_step3; try go_wp2_with (first
                        | (go_at_call 28; (with_reducible refine (HX.out _ (by omega) (by omega)).mono ?_); rintro e w' ⟨rfl, rfl⟩)
                        | (go_at_call 29; (with_reducible refine (digit_any _ _).mono ?_); rintro e w' ⟨rfl, rfl⟩)
                        | (go_at_call 30; (with_reducible refine (BX.out _ (by omega) (by omega)).mono ?_); rintro e w' ⟨rfl, rfl⟩)))
                    exact ⟨r + 2, _, by omega, by omega, rfl, ⟨_, _, _, _, _, _, _, _, _, _, _, _, _, _, _, _, _, _, _, _, _, _, _, _, _, _, _, _, _, _, _, _, _, _, _, _, _, _, _, _, _, _, _, _, _, _, _, _, _, _, _, _, _, _, _, _, _, _, _, _, _, _, _, _, _, _, _, _, rfl⟩, .inr (.inr ⟨rfl, HF.out⟩)⟩
                · have g3 : (byt b (r + 1) == 43) = false := by simpa using hS1
                  have g4 : (byt b (r + 1) == 45) = true := by rw [hS]; rfl
                  have hlr2 : r + 1 < b.length := byt_lt hS (by decide)
                  have hSS : byt b (r + 1) = 43 ∨ byt b (r + 1) = 45 := .inr hS
                  clear hS hS1
                  cases hD : digC (byt b (r + 2)) with
                  | true =>
                    have HF := Lib.hid (HE0.out.trans (expM_s hEE hSS true hD))
                    rw [if_pos rfl] at HF
                    have hld := digC_lt hD
                    have Hd := Lib.hid hD
                    clear hEE hSS
                    go_wp2_with (first
                      | (go_at_call 28; (with_reducible refine (HX.out _ (by omega) (by omega)).mono ?_); rintro e w' ⟨rfl, rfl⟩)
                      | (go_at_call 29; (with_reducible refine (digit_any _ _).mono ?_); rintro e w' ⟨rfl, rfl⟩)
                      | (go_at_call 30; (with_reducible refine (BX.out _ (by omega) (by omega)).mono ?_); rintro e w' ⟨rfl, rfl⟩))
                    repeat (go_step3; try go_wp2_with (first
                        | (go_at_call 28; (with_reducible refine (HX.out _ (by omega) (by omega)).mono ?_); rintro e w' ⟨rfl, rfl⟩)
                        | (go_at_call 29; (with_reducible refine (digit_any _ _).mono ?_); rintro e w' ⟨rfl, rfl⟩)
                        | (go_at_call 30; (with_reducible refine (BX.out _ (by omega) (by omega)).mono ?_); rintro e w' ⟨rfl, rfl⟩)))
                    try rw [toJ_ret]
                    go_ret2
                    exact ⟨tupIB (by rw [HF.out]) (by rw [HF.out]), by trivial⟩
                  | false =>
                    have HF := Lib.hid (HE0.out.trans (expM_s hEE hSS false hD))
                    rw [if_neg (by decide)] at HF
                    clear hEE hSS
                    go_wp2_with (first
                      | (go_at_call 28; (with_reducible refine (HX.out _ (by omega) (by omega)).mono ?_); rintro e w' ⟨rfl, rfl⟩)
                      | (go_at_call 29; (with_reducible refine (digit_any _ _).mono ?_); rintro e w' ⟨rfl, rfl⟩)
                      | (go_at_call 30; (with_reducible refine (BX.out _ (by omega) (by omega)).mono ?_); rintro e w' ⟨rfl, rfl⟩))
                    repeat (go_step3; try go_wp2_with (first
                        | (go_at_call 28; (with_reducible refine (HX.out _ (by omega) (by omega)).mono ?_); rintro e w' ⟨rfl, rfl⟩)
                        | (go_at_call 29; (with_reducible refine (digit_any _ _).mono ?_); rintro e w' ⟨rfl, rfl⟩)
                        | (go_at_call 30; (with_reducible refine (BX.out _ (by omega) (by omega)).mono ?_); rintro e w' ⟨rfl, rfl⟩)))
                    exact ⟨r + 2, _, by omega, by omega, rfl, ⟨_, _, _, _, _, _, _, _, _, _, _, _, _, _, _, _, _, _, _, _, _, _, _, _, _, _, _, _, _, _, _, _, _, _, _, _, _, _, _, _, _, _, _, _, _, _, _, _, _, _, _, _, _, _, _, _, _, _, _, _, _, _, _, _, _, _, _, _, rfl⟩, .inr (.inr ⟨rfl, HF.out⟩)⟩
                · have g3 : (byt b (r + 1) == 43) = false := by simpa using hS1
                  have g4 : (byt b (r + 1) == 45) = false := by simpa using hS2
                  cases hD : digC (byt b (r + 1)) with
                  | true =>
                    have HF := Lib.hid (HE0.out.trans (expM_u hEE hS1 hS2 true hD))
                    rw [if_pos rfl] at HF
                    have hld := digC_lt hD
                    have Hd := Lib.hid hD
                    clear hEE hS1 hS2
                    go_wp2_with (first
                      | (go_at_call 28; (with_reducible refine (HX.out _ (by omega) (by omega)).mono ?_); rintro e w' ⟨rfl, rfl⟩)
                      | (go_at_call 29; (with_reducible refine (digit_any _ _).mono ?_); rintro e w' ⟨rfl, rfl⟩)
                      | (go_at_call 30; (with_reducible refine (BX.out _ (by omega) (by omega)).mono ?_); rintro e w' ⟨rfl, rfl⟩))
                    repeat (go_step3; try go_wp2_with (first
                        | (go_at_call 28; (with_reducible refine (HX.out _ (by omega) (by omega)).mono ?_); rintro e w' ⟨rfl, rfl⟩)
                        | (go_at_call 29; (with_reducible refine (digit_any _ _).mono ?_); rintro e w' ⟨rfl, rfl⟩)
                        | (go_at_call 30; (with_reducible refine (BX.out _ (by omega) (by omega)).mono ?_); rintro e w' ⟨rfl, rfl⟩)))
                    try rw [toJ_ret]
                    go_ret2
                    exact ⟨tupIB (by rw [HF.out]) (by rw [HF.out]), by trivial⟩
                  | false =>
                    have HF := Lib.hid (HE0.out.trans (expM_u hEE hS1 hS2 false hD))
                    rw [if_neg (by decide)] at HF
                    clear hEE hS1 hS2
                    go_wp2_with (first
                      | (go_at_call 28; (with_reducible refine (HX.out _ (by omega) (by omega)).mono ?_); rintro e w' ⟨rfl, rfl⟩)
                      | (go_at_call 29; (with_reducible refine (digit_any _ _).mono ?_); rintro e w' ⟨rfl, rfl⟩)
                      | (go_at_call 30; (with_reducible refine (BX.out _ (by omega) (by omega)).mono ?_); rintro e w' ⟨rfl, rfl⟩))
                    repeat (go_step3; try go_wp2_with (first
                        | (go_at_call 28; (with_reducible refine (HX.out _ (by omega) (by omega)).mono ?_); rintro e w' ⟨rfl, rfl⟩)
                        | (go_at_call 29; (with_reducible refine (digit_any _ _).mono ?_); rintro e w' ⟨rfl, rfl⟩)
                        | (go_at_call 30; (with_reducible refine (BX.out _ (by omega) (by omega)).mono ?_); rintro e w' ⟨rfl, rfl⟩)))
                    exact ⟨r + 1, _, by omega, by omega, rfl, ⟨_, _, _, _, _, _, _, _, _, _, _, _, _, _, _, _, _, _, _, _, _, _, _, _, _, _, _, _, _, _, _, _, _, _, _, _, _, _, _, _, _, _, _, _, _, _, _, _, _, _, _, _, _, _, _, _, _, _, _, _, _, _, _, _, _, _, _, _, rfl⟩, .inr (.inr ⟨rfl, HF.out⟩)⟩
              · have g1 : (byt b r != 101) = true := by simpa using hE1
                have g2 : (byt b r != 69) = true := by simpa using hE2
                have HF := Lib.hid (HE0.out.trans (expM_n hE1 hE2))
                clear hE1 hE2
                go_wp2_with (first
                  | (go_at_call 28; (with_reducible refine (HX.out _ (by omega) (by omega)).mono ?_); rintro e w' ⟨rfl, rfl⟩)
                  | (go_at_call 29; (with_reducible refine (digit_any _ _).mono ?_); rintro e w' ⟨rfl, rfl⟩)
                  | (go_at_call 30; (with_reducible refine (BX.out _ (by omega) (by omega)).mono ?_); rintro e w' ⟨rfl, rfl⟩))
                repeat (go_step3; try go_wp2_with (first
                    | (go_at_call 28; (with_reducible refine (HX.out _ (by omega) (by omega)).mono ?_); rintro e w' ⟨rfl, rfl⟩)
                    | (go_at_call 29; (with_reducible refine (digit_any _ _).mono ?_); rintro e w' ⟨rfl, rfl⟩)
                    | (go_at_call 30; (with_reducible refine (BX.out _ (by omega) (by omega)).mono ?_); rintro e w' ⟨rfl, rfl⟩)))
                try rw [toJ_ret]
                go_ret2
                exact ⟨tupIB (by rw [HF.out]) (by rw [HF.out]), by trivial⟩
            | false =>
              have HF := Lib.hid (HF0.out.trans (fracM_l hdot hfd))
              clear hdot
              go_wp2_with (first
                | (go_at_call 28; (with_reducible refine (HX.out _ (by omega) (by omega)).mono ?_); rintro e w' ⟨rfl, rfl⟩)
                | (go_at_call 29; (with_reducible refine (digit_any _ _).mono ?_); rintro e w' ⟨rfl, rfl⟩)
                | (go_at_call 30; (with_reducible refine (BX.out _ (by omega) (by omega)).mono ?_); rintro e w' ⟨rfl, rfl⟩))
              repeat (go_step3; try go_wp2_with (first
                  | (go_at_call 28; (with_reducible refine (HX.out _ (by omega) (by omega)).mono ?_); rintro e w' ⟨rfl, rfl⟩)
                  | (go_at_call 29; (with_reducible refine (digit_any _ _).mono ?_); rintro e w' ⟨rfl, rfl⟩)
                  | (go_at_call 30; (with_reducible refine (BX.out _ (by omega) (by omega)).mono ?_); rintro e w' ⟨rfl, rfl⟩)))
              exact ⟨q + 1, _, by omega, by omega, rfl, ⟨_, _, _, _, _, _, _, _, _, _, _, _, _, _, _, _, _, _, _, _, _, _, _, _, _, _, _, _, _, _, _, _, _, _, _, _, _, _, _, _, _, _, _, _, _, _, _, _, _, _, _, _, _, _, _, _, _, _, _, _, _, _, _, _, _, _, _, _, rfl⟩, .inr (.inr ⟨rfl, HF.out⟩)⟩
          · have g0 : (byt b q != 46) = true := by simpa using hdot
            have HF := Lib.hid (HF0.out.trans (fracM_n hdot))
            clear hdot
            go_wp2_with (first
              | (go_at_call 28; (with_reducible refine (HX.out _ (by omega) (by omega)).mono ?_); rintro e w' ⟨rfl, rfl⟩)
              | (go_at_call 29; (with_reducible refine (digit_any _ _).mono ?_); rintro e w' ⟨rfl, rfl⟩)
              | (go_at_call 30; (with_reducible refine (BX.out _ (by omega) (by omega)).mono ?_); rintro e w' ⟨rfl, rfl⟩))
            repeat (go_step3; try go_wp2_with (first
                | (go_at_call 28; (with_reducible refine (HX.out _ (by omega) (by omega)).mono ?_); rintro e w' ⟨rfl, rfl⟩)
                | (go_at_call 29; (with_reducible refine (digit_any _ _).mono ?_); rintro e w' ⟨rfl, rfl⟩)
                | (go_at_call 30; (with_reducible refine (BX.out _ (by omega) (by omega)).mono ?_); rintro e w' ⟨rfl, rfl⟩)))
            exact ⟨q, _, by omega, by omega, rfl, ⟨_, _, _, _, _, _, _, _, _, _, _, _, _, _, _, _, _, _, _, _, _, _, _, _, _, _, _, _, _, _, _, _, _, _, _, _, _, _, _, _, _, _, _, _, _, _, _, _, _, _, _, _, _, _, _, _, _, _, _, _, _, _, _, _, _, _, _, _, rfl⟩, .inr (.inl ⟨rfl, HF.out⟩)⟩
        | false =>
          have HF := Lib.hid (HI0.out.trans (intM_n hid))
          clear h0
          go_wp2_with (first
            | (go_at_call 28; (with_reducible refine (HX.out _ (by omega) (by omega)).mono ?_); rintro e w' ⟨rfl, rfl⟩)
            | (go_at_call 29; (with_reducible refine (digit_any _ _).mono ?_); rintro e w' ⟨rfl, rfl⟩)
            | (go_at_call 30; (with_reducible refine (BX.out _ (by omega) (by omega)).mono ?_); rintro e w' ⟨rfl, rfl⟩))
          repeat (go_step3; try go_wp2_with (first
              | (go_at_call 28; (with_reducible refine (HX.out _ (by omega) (by omega)).mono ?_); rintro e w' ⟨rfl, rfl⟩)
              | (go_at_call 29; (with_reducible refine (digit_any _ _).mono ?_); rintro e w' ⟨rfl, rfl⟩)
              | (go_at_call 30; (with_reducible refine (BX.out _ (by omega) (by omega)).mono ?_); rintro e w' ⟨rfl, rfl⟩)))
          exact ⟨p, _, by omega, by omega, rfl, ⟨_, _, _, _, _, _, _, _, _, _, _, _, _, _, _, _, _, _, _, _, _, _, _, _, _, _, _, _, _, _, _, _, _, _, _, _, _, _, _, _, _, _, _, _, _, _, _, _, _, _, _, _, _, _, _, _, _, _, _, _, _, _, _, _, _, _, _, _, rfl⟩, .inr (.inr ⟨rfl, HF.out⟩)⟩
    · have m0 : (byt b i == 45) = false := by simpa using hmin
      have HI0 := Lib.hid (numM_n hmin)
      clear hmin
      have i1 : (((i : Nat) : Int) + 1).toNat = i + 1 := by omega
      by_cases h0 : byt b i = 48
      · have hlp : i < b.length := byt_lt h0 (by decide)
        have k0 : (byt b i == 48) = true := by rw [h0]; rfl
        have HF := Lib.hid (HI0.out.trans (intM_0 h0))
        clear h0
        go_wp2_with (first
          | (go_at_call 28; (with_reducible refine (HX.out _ (by omega) (by omega)).mono ?_); rintro e w' ⟨rfl, rfl⟩)
          | (go_at_call 29; (with_reducible refine (digit_any _ _).mono ?_); rintro e w' ⟨rfl, rfl⟩)
          | (go_at_call 30; (with_reducible refine (BX.out _ (by omega) (by omega)).mono ?_); rintro e w' ⟨rfl, rfl⟩))
        repeat (go_step3; try go_wp2_with (first
            | (go_at_call 28; (with_reducible refine (HX.out _ (by omega) (by omega)).mono ?_); rintro e w' ⟨rfl, rfl⟩)
            | (go_at_call 29; (with_reducible refine (digit_any _ _).mono ?_); rintro e w' ⟨rfl, rfl⟩)
            | (go_at_call 30; (with_reducible refine (BX.out _ (by omega) (by omega)).mono ?_); rintro e w' ⟨rfl, rfl⟩)))
        exact ⟨i + 1, _, by omega, by omega, rfl, ⟨_, _, _, _, _, _, _, _, _, _, _, _, _, _, _, _, _, _, _, _, _, _, _, _, _, _, _, _, _, _, _, _, _, _, _, _, _, _, _, _, _, _, _, _, _, _, _, _, _, _, _, _, _, _, _, _, _, _, _, _, _, _, _, _, _, _, _, _, rfl⟩, .inl ⟨rfl, HF.out⟩⟩
      · have k0 : (byt b i == 48) = false := by simpa using h0
        cases hid : digC (byt b i) with
        | true =>
          have hlp := digC_lt hid
          have HF0 := Lib.hid (HI0.out.trans (intM_d h0 hid))
          have hqb := digE_bd b i (by omega)
          obtain ⟨q, hq⟩ : ∃ q, digE b i = q := ⟨_, rfl⟩
          rw [hq] at HF0 hqb
          obtain ⟨hqb1, hqb2⟩ := hqb
          clear h0
          have f1 : (((q : Nat) : Int) + 1).toNat = q + 1 := by omega
          by_cases hdot : byt b q = 46
          · have hlq : q < b.length := byt_lt hdot (by decide)
            have g0 : (byt b q != 46) = false := by rw [hdot]; rfl
            cases hfd : digC (byt b (q + 1)) with
            | true =>
              have hlq2 := digC_lt hfd
              have HE0 := Lib.hid (HF0.out.trans (fracM_d hdot hfd))
              have hrb := digE_bd b (q + 1) (by omega)
              obtain ⟨r, hr⟩ : ∃ r, digE b (q + 1) = r := ⟨_, rfl⟩
              rw [hr] at HE0 hrb
              obtain ⟨hrb1, hrb2⟩ := hrb
              clear hdot
              have t1 : (((r : Nat) : Int) + 1).toNat = r + 1 := by omega
              have t2 : (((r : Nat) : Int) + 1 + 1).toNat = r + 2 := by omega
              have t3 : (((r : Nat) : Int) + 2).toNat = r + 2 := by omega
              have hcE : (byt b r = 101) ∨ (byt b r ≠ 101 ∧ byt b r = 69) ∨ (byt b r ≠ 101 ∧ byt b r ≠ 69) := by omega
              rcases hcE with hE | ⟨hE1, hE⟩ | ⟨hE1, hE2⟩
              · have g1 : (byt b r != 101) = false := by rw [hE]; rfl
                have hlr : r < b.length := byt_lt hE (by decide)
                have hEE : byt b r = 101 ∨ byt b r = 69 := .inl hE
                clear hE
                rcases (by omega : byt b (r + 1) = 43 ∨ (byt b (r + 1) ≠ 43 ∧ byt b (r + 1) = 45) ∨ (byt b (r + 1) ≠ 43 ∧ byt b (r + 1) ≠ 45)) with hS | ⟨hS1, hS⟩ | ⟨hS1, hS2⟩
                · have g3 : (byt b (r + 1) == 43) = true := by rw [hS]; rfl
                  have hlr2 : r + 1 < b.length := byt_lt hS (by decide)
                  have hSS : byt b (r + 1) = 43 ∨ byt b (r + 1) = 45 := .inl hS
                  clear hS
                  cases hD : digC (byt b (r + 2)) with
                  | true =>
                    have HF := Lib.hid (HE0.out.trans (expM_s hEE hSS true hD))
                    rw [if_pos rfl] at HF
                    have hld := digC_lt hD
                    have Hd := Lib.hid hD
                    clear hEE hSS
                    go_wp2_with (first
                      | (go_at_call 28; (with_reducible refine (HX.out _ (by omega) (by omega)).mono ?_); rintro e w' ⟨rfl, rfl⟩)
                      | (go_at_call 29; (with_reducible refine (digit_any _ _).mono ?_); rintro e w' ⟨rfl, rfl⟩)
                      | (go_at_call 30; (with_reducible refine (BX.out _ (by omega) (by omega)).mono ?_); rintro e w' ⟨rfl, rfl⟩))
                    repeat (go_step3; try go_wp2_with (first
                        | (go_at_call 28; (with_reducible refine (HX.out _ (by omega) (by omega)).mono ?_); rintro e w' ⟨rfl, rfl⟩)
                        | (go_at_call 29; (with_reducible refine (digit_any _ _).mono ?_); rintro e w' ⟨rfl, rfl⟩)
                        | (go_at_call 30; (with_reducible refine (BX.out _ (by omega) (by omega)).mono ?_); rintro e w' ⟨rfl, rfl⟩)))
                    try rw [toJ_ret]
                    go_ret2
                    exact ⟨tupIB (by rw [HF.out]) (by rw [HF.out]), by trivial⟩
                  | false =>
                    have HF := Lib.hid (HE0.out.trans (expM_s hEE hSS false hD))
                    rw [if_neg (by decide)] at HF
                    clear hEE hSS
                    go_wp2_with (first
                      | (go_at_call 28; (with_reducible refine (HX.out _ (by omega) (by omega)).mono ?_); rintro e w' ⟨rfl, rfl⟩)
                      | (go_at_call 29; (with_reducible refine (digit_any _ _).mono ?_); rintro e w' ⟨rfl, rfl⟩)
                      | (go_at_call 30; (with_reducible refine (BX.out _ (by omega) (by omega)).mono ?_); rintro e w' ⟨rfl, rfl⟩))
                    repeat (go_step3; try go_wp2_with (first
                        | (go_at_call 28; (with_reducible refine (HX.out _ (by omega) (by omega)).mono ?_); rintro e w' ⟨rfl, rfl⟩)
                        | (go_at_call 29; (with_reducible refine (digit_any _ _).mono ?_); rintro e w' ⟨rfl, rfl⟩)
                        | (go_at_call 30; (with_reducible refine (BX.out _ (by omega) (by omega)).mono ?_); rintro e w' ⟨rfl, rfl⟩)))
                    exact ⟨r + 2, _, by omega, by omega, rfl, ⟨_, _, _, _, _, _, _, _, _, _, _, _, _, _, _, _, _, _, _, _, _, _, _, _, _, _, _, _, _, _, _, _, _, _, _, _, _, _, _, _, _, _, _, _, _, _, _, _, _, _, _, _, _, _, _, _, _, _, _, _, _, _, _, _, _, _, _, _, rfl⟩, .inr (.inr ⟨rfl, HF.out⟩)⟩
                · have g3 : (byt b (r + 1) == 43) = false := by simpa using hS1
                  have g4 : (byt b (r + 1) == 45) = true := by rw [hS]; rfl
                  have hlr2 : r + 1 < b.length := byt_lt hS (by decide)
                  have hSS : byt b (r + 1) = 43 ∨ byt b (r + 1) = 45 := .inr hS
                  clear hS hS1
                  cases hD : digC (byt b (r + 2)) with
                  | true =>
                    have HF := Lib.hid (HE0.out.trans (expM_s hEE hSS true hD))
                    rw [if_pos rfl] at HF
                    have hld := digC_lt hD
                    have Hd := Lib.hid hD
                    clear hEE hSS
                    go_wp2_with (first
                      | (go_at_call 28; (with_reducible refine (HX.out _ (by omega) (by omega)).mono ?_); rintro e w' ⟨rfl, rfl⟩)
                      | (go_at_call 29; (with_reducible refine (digit_any _ _).mono ?_); rintro e w' ⟨rfl, rfl⟩)
                      | (go_at_call 30; (with_reducible refine (BX.out _ (by omega) (by omega)).mono ?_); rintro e w' ⟨rfl, rfl⟩))
                    repeat (go_step3; try go_wp2_with (first
                        | (go_at_call 28; (with_reducible refine (HX.out _ (by omega) (by omega)).mono ?_); rintro e w' ⟨rfl, rfl⟩)
                        | (go_at_call 29; (with_reducible refine (digit_any _ _).mono ?_); rintro e w' ⟨rfl, rfl⟩)
                        | (go_at_call 30; (with_reducible refine (BX.out _ (by omega) (by omega)).mono ?_); rintro e w' ⟨rfl, rfl⟩)))
                    try rw [toJ_ret]
                    go_ret2
                    exact ⟨tupIB (by rw [HF.out]) (by rw [HF.out]), by trivial⟩
                  | false =>
                    have HF := Lib.hid (HE0.out.trans (expM_s hEE hSS false hD))
                    rw [if_neg (by decide)] at HF
                    clear hEE hSS
                    go_wp2_with (first
                      | (go_at_call 28; (with_reducible refine (HX.out _ (by omega) (by omega)).mono ?_); rintro e w' ⟨rfl, rfl⟩)
                      | (go_at_call 29; (with_reducible refine (digit_any _ _).mono ?_); rintro e w' ⟨rfl, rfl⟩)
                      | (go_at_call 30; (with_reducible refine (BX.out _ (by omega) (by omega)).mono ?_); rintro e w' ⟨rfl, rfl⟩))
                    repeat (go_step3; try go_wp2_with (first
                        | (go_at_call 28; (with_reducible refine (HX.out _ (by omega) (by omega)).mono ?_); rintro e w' ⟨rfl, rfl⟩)
                        | (go_at_call 29; (with_reducible refine (digit_any _ _).mono ?_); rintro e w' ⟨rfl, rfl⟩)
                        | (go_at_call 30; (with_reducible refine (BX.out _ (by omega) (by omega)).mono ?_); rintro e w' ⟨rfl, rfl⟩)))
                    exact ⟨r + 2, _, by omega, by omega, rfl, ⟨_, _, _, _, _, _, _, _, _, _, _, _, _, _, _, _, _, _, _, _, _, _, _, _, _, _, _, _, _, _, _, _, _, _, _, _, _, _, _, _, _, _, _, _, _, _, _, _, _, _, _, _, _, _, _, _, _, _, _, _, _, _, _, _, _, _, _, _, rfl⟩, .inr (.inr ⟨rfl, HF.out⟩)⟩
                · have g3 : (byt b (r + 1) == 43) = false := by simpa using hS1
                  have g4 : (byt b (r + 1) == 45) = false := by simpa using hS2
                  cases hD : digC (byt b (r + 1)) with
                  | true =>
                    have HF := Lib.hid (HE0.out.trans (expM_u hEE hS1 hS2 true hD))
                    rw [if_pos rfl] at HF
                    have hld := digC_lt hD
                    have Hd := Lib.hid hD
                    clear hEE hS1 hS2
                    go_wp2_with (first
                      | (go_at_call 28; (with_reducible refine (HX.out _ (by omega) (by omega)).mono ?_); rintro e w' ⟨rfl, rfl⟩)
                      | (go_at_call 29; (with_reducible refine (digit_any _ _).mono ?_); rintro e w' ⟨rfl, rfl⟩)
                      | (go_at_call 30; (with_reducible refine (BX.out _ (by omega) (by omega)).mono ?_); rintro e w' ⟨rfl, rfl⟩))
                    repeat (go_step3; try go_wp2_with (first
                        | (go_at_call 28; (with_reducible refine (HX.out _ (by omega) (by omega)).mono ?_); rintro e w' ⟨rfl, rfl⟩)
                        | (go_at_call 29; (with_reducible refine (digit_any _ _).mono ?_); rintro e w' ⟨rfl, rfl⟩)
                        | (go_at_call 30; (with_reducible refine (BX.out _ (by omega) (by omega)).mono ?_); rintro e w' ⟨rfl, rfl⟩)))
                    try rw [toJ_ret]
                    go_ret2
                    exact ⟨tupIB (by rw [HF.out]) (by rw [HF.out]), by trivial⟩
                  | false =>
                    have HF := Lib.hid (HE0.out.trans (expM_u hEE hS1 hS2 false hD))
                    rw [if_neg (by decide)] at HF
                    clear hEE hS1 hS2
                    go_wp2_with (first
                      | (go_at_call 28; (with_reducible refine (HX.out _ (by omega) (by omega)).mono ?_); rintro e w' ⟨rfl, rfl⟩)
                      | (go_at_call 29; (with_reducible refine (digit_any _ _).mono ?_); rintro e w' ⟨rfl, rfl⟩)
                      | (go_at_call 30; (with_reducible refine (BX.out _ (by omega) (by omega)).mono ?_); rintro e w' ⟨rfl, rfl⟩))
                    repeat (go_step3; try go_wp2_with (first
                        | (go_at_call 28; (with_reducible refine (HX.out _ (by omega) (by omega)).mono ?_); rintro e w' ⟨rfl, rfl⟩)
                        | (go_at_call 29; (with_reducible refine (digit_any _ _).mono ?_); rintro e w' ⟨rfl, rfl⟩)
                        | (go_at_call 30; (with_reducible refine (BX.out _ (by omega) (by omega)).mono ?_); rintro e w' ⟨rfl, rfl⟩)))
                    exact ⟨r + 1, _, by omega, by omega, rfl, ⟨_, _, _, _, _, _, _, _, _, _, _, _, _, _, _, _, _, _, _, _, _, _, _, _, _, _, _, _, _, _, _, _, _, _, _, _, _, _, _, _, _, _, _, _, _, _, _, _, _, _, _, _, _, _, _, _, _, _, _, _, _, _, _, _, _, _, _, _, rfl⟩, .inr (.inr ⟨rfl, HF.out⟩)⟩
              · have g1 : (byt b r != 101) = true := by simpa using hE1
                have g2 : (byt b r != 69) = false := by rw [hE]; rfl
                have hlr : r < b.length := byt_lt hE (by decide)
                have hEE : byt b r = 101 ∨ byt b r = 69 := .inr hE
                clear hE hE1
                rcases (by omega : byt b (r + 1) = 43 ∨ (byt b (r + 1) ≠ 43 ∧ byt b (r + 1) = 45) ∨ (byt b (r + 1) ≠ 43 ∧ byt b (r + 1) ≠ 45)) with hS | ⟨hS1, hS⟩ | ⟨hS1, hS2⟩
                · have g3 : (byt b (r + 1) == 43) = true := by rw [hS]; rfl
                  have hlr2 : r + 1 < b.length := byt_lt hS (by decide)
                  have hSS : byt b (r + 1) = 43 ∨ byt b (r + 1) = 45 := .inl hS
                  clear hS
                  cases hD : digC (byt b (r + 2)) with
                  | true =>
                    have HF := Lib.hid (HE0.out.trans (expM_s hEE hSS true hD))
                    rw [if_pos rfl] at HF
                    have hld := digC_lt hD
                    have Hd := Lib.hid hD
                    clear hEE hSS
                    go_wp2_with (first
                      | (go_at_call 28; (with_reducible refine (HX.out _ (by omega) (by omega)).mono ?_); rintro e w' ⟨rfl, rfl⟩)
                      | (go_at_call 29; (with_reducible refine (digit_any _ _).mono ?_); rintro e w' ⟨rfl, rfl⟩)
                      | (go_at_call 30; (with_reducible refine (BX.out _ (by omega) (by omega)).mono ?_); rintro e w' ⟨rfl, rfl⟩))
                    repeat (go_step3; try go_wp2_with (first
                        | (go_at_call 28; (with_reducible refine (HX.out _ (by omega) (by omega)).mono ?_); rintro e w' ⟨rfl, rfl⟩)
                        | (go_at_call 29; (with_reducible refine (digit_any _ _).mono ?_); rintro e w' ⟨rfl, rfl⟩)
                        | (go_at_call 30; (with_reducible refine (BX.out _ (by omega) (by omega)).mono ?_); rintro e w' ⟨rfl, rfl⟩)))
                    try rw [toJ_ret]
                    go_ret2
                    exact ⟨tupIB (by rw [HF.out]) (by rw [HF.out]), by trivial⟩
                  | false =>
                    have HF := Lib.hid (HE0.out.trans (expM_s hEE hSS false hD))
                    rw [if_neg (by decide)] at HF
                    clear hEE hSS
                    go_wp2_with (first
                      | (go_at_call 28; (with_reducible refine (HX.out _ (by omega) (by omega)).mono ?_); rintro e w' ⟨rfl, rfl⟩)
                      | (go_at_call 29; (with_reducible refine (digit_any _ _).mono ?_); rintro e w' ⟨rfl, rfl⟩)
                      | (go_at_call 30; (with_reducible refine (BX.out _ (by omega) (by omega)).mono ?_); rintro e w' ⟨rfl, rfl⟩))
                    repeat (go_step3; try go_wp2_with (first
                        | (go_at_call 28; (with_reducible refine (HX.out _ (by omega) (by omega)).mono ?_); rintro e w' ⟨rfl, rfl⟩)
                        | (go_at_call 29; (with_reducible refine (digit_any _ _).mono ?_); rintro e w' ⟨rfl, rfl⟩)
                        | (go_at_call 30; (with_reducible refine (BX.out _ (by omega) (by omega)).mono ?_); rintro e w' ⟨rfl, rfl⟩)))
                    exact ⟨r + 2, _, by omega, by omega, rfl, ⟨_, _, _, _, _, _, _, _, _, _, _, _, _, _, _, _, _, _, _, _, _, _, _, _, _, _, _, _, _, _, _, _, _, _, _, _, _, _, _, _, _, _, _, _, _, _, _, _, _, _, _, _, _, _, _, _, _, _, _, _, _, _, _, _, _, _, _, _, rfl⟩, .inr (.inr ⟨rfl, HF.out⟩)⟩
                · have g3 : (byt b (r + 1) == 43) = false := by simpa using hS1
                  have g4 : (byt b (r + 1) == 45) = true := by rw [hS]; rfl
                  have hlr2 : r + 1 < b.length := byt_lt hS (by decide)
                  have hSS : byt b (r + 1) = 43 ∨ byt b (r + 1) = 45 := .inr hS
                  clear hS hS1
                  cases hD : digC (byt b (r + 2)) with
                  | true =>
                    have HF := Lib.hid (HE0.out.trans (expM_s hEE hSS true hD))
                    rw [if_pos rfl] at HF
                    have hld := digC_lt hD
                    have Hd := Lib.hid hD
                    clear hEE hSS
                    go_wp2_with (first
                      | (go_at_call 28; (with_reducible refine (HX.out _ (by omega) (by omega)).mono ?_); rintro e w' ⟨rfl, rfl⟩)
                      | (go_at_call 29; (with_reducible refine (digit_any _ _).mono ?_); rintro e w' ⟨rfl, rfl⟩)
                      | (go_at_call 30; (with_reducible refine (BX.out _ (by omega) (by omega)).mono ?_); rintro e w' ⟨rfl, rfl⟩))
                    repeat (go_step3; try go_wp2_with (first
                        | (go_at_call 28; (with_reducible refine (HX.out _ (by omega) (by omega)).mono ?_); rintro e w' ⟨rfl, rfl⟩)
                        | (go_at_call 29; (with_reducible refine (digit_any _ _).mono ?_); rintro e w' ⟨rfl, rfl⟩)
                        | (go_at_call 30; (with_reducible refine (BX.out _ (by omega) (by omega)).mono ?_); rintro e w' ⟨rfl, rfl⟩)))
                    try rw [toJ_ret]
                    go_ret2
                    exact ⟨tupIB (by rw [HF.out]) (by rw [HF.out]), by trivial⟩
                  | false =>
                    have HF := Lib.hid (HE0.out.trans (expM_s hEE hSS false hD))
                    rw [if_neg (by decide)] at HF
                    clear hEE hSS
                    go_wp2_with (first
                      | (go_at_call 28; (with_reducible refine (HX.out _ (by omega) (by omega)).mono ?_); rintro e w' ⟨rfl, rfl⟩)
                      | (go_at_call 29; (with_reducible refine (digit_any _ _).mono ?_); rintro e w' ⟨rfl, rfl⟩)
                      | (go_at_call 30; (with_reducible refine (BX.out _ (by omega) (by omega)).mono ?_); rintro e w' ⟨rfl, rfl⟩))
                    repeat (go_step3; try go_wp2_with (first
                        | (go_at_call 28; (with_reducible refine (HX.out _ (by omega) (by omega)).mono ?_); rintro e w' ⟨rfl, rfl⟩)
                        | (go_at_call 29; (with_reducible refine (digit_any _ _).mono ?_); rintro e w' ⟨rfl, rfl⟩)
                        | (go_at_call 30; (with_reducible refine (BX.out _ (by omega) (by omega)).mono ?_); rintro e w' ⟨rfl, rfl⟩)))
                    exact ⟨r + 2, _, by omega, by omega, rfl, ⟨_, _, _, _, _, _, _, _, _, _, _, _, _, _, _, _, _, _, _, _, _, _, _, _, _, _, _, _, _, _, _, _, _, _, _, _, _, _, _, _, _, _, _, _, _, _, _, _, _, _, _, _, _, _, _, _, _, _, _, _, _, _, _, _, _, _, _, _, rfl⟩, .inr (.inr ⟨rfl, HF.out⟩)⟩
                · have g3 : (byt b (r + 1) == 43) = false := by simpa using hS1
                  have g4 : (byt b (r + 1) == 45) = false := by simpa using hS2
                  cases hD : digC (byt b (r + 1)) with
                  | true =>
                    have HF := Lib.hid (HE0.out.trans (expM_u hEE hS1 hS2 true hD))
                    rw [if_pos rfl] at HF
                    have hld := digC_lt hD
                    have Hd := Lib.hid hD
                    clear hEE hS1 hS2
                    go_wp2_with (first
                      | (go_at_call 28; (with_reducible refine (HX.out _ (by omega) (by omega)).mono ?_); rintro e w' ⟨rfl, rfl⟩)
                      | (go_at_call 29; (with_reducible refine (digit_any _ _).mono ?_); rintro e w' ⟨rfl, rfl⟩)
                      | (go_at_call 30; (with_reducible refine (BX.out _ (by omega) (by omega)).mono ?_); rintro e w' ⟨rfl, rfl⟩))
                    repeat (go_step3; try go_wp2_with (first
                        | (go_at_call 28; (with_reducible refine (HX.out _ (by omega) (by omega)).mono ?_); rintro e w' ⟨rfl, rfl⟩)
                        | (go_at_call 29; (with_reducible refine (digit_any _ _).mono ?_); rintro e w' ⟨rfl, rfl⟩)
                        | (go_at_call 30; (with_reducible refine (BX.out _ (by omega) (by omega)).mono ?_); rintro e w' ⟨rfl, rfl⟩)))
                    try rw [toJ_ret]
                    go_ret2
                    exact ⟨tupIB (by rw [HF.out]) (by rw [HF.out]), by trivial⟩
                  | false =>
                    have HF := Lib.hid (HE0.out.trans (expM_u hEE hS1 hS2 false hD))
                    rw [if_neg (by decide)] at HF
                    clear hEE hS1 hS2
                    go_wp2_with (first
                      | (go_at_call 28; (with_reducible refine (HX.out _ (by omega) (by omega)).mono ?_); rintro e w' ⟨rfl, rfl⟩)
                      | (go_at_call 29; (with_reducible refine (digit_any _ _).mono ?_); rintro e w' ⟨rfl, rfl⟩)
                      | (go_at_call 30; (with_reducible refine (BX.out _ (by omega) (by omega)).mono ?_); rintro e w' ⟨rfl, rfl⟩))
                    repeat (go_step3; try go_wp2_with (first
                        | (go_at_call 28; (with_reducible refine (HX.out _ (by omega) (by omega)).mono ?_); rintro e w' ⟨rfl, rfl⟩)
                        | (go_at_call 29; (with_reducible refine (digit_any _ _).mono ?_); rintro e w' ⟨rfl, rfl⟩)
                        | (go_at_call 30; (with_reducible refine (BX.out _ (by omega) (by omega)).mono ?_); rintro e w' ⟨rfl, rfl⟩)))
                    exact ⟨r + 1, _, by omega, by omega, rfl, ⟨_, _, _, _, _, _, _, _, _, _, _, _, _, _, _, _, _, _, _, _, _, _, _, _, _, _, _, _, _, _, _, _, _, _, _, _, _, _, _, _, _, _, _, _, _, _, _, _, _, _, _, _, _, _, _, _, _, _, _, _, _, _, _, _, _, _, _, _, rfl⟩, .inr (.inr ⟨rfl, HF.out⟩)⟩
              · have g1 : (byt b r != 101) = true := by simpa using hE1
                have g2 : (byt b r != 69) = true := by simpa using hE2
                have HF := Lib.hid (HE0.out.trans (expM_n hE1 hE2))
                clear hE1 hE2
                go_wp2_with (first
                  | (go_at_call 28; (with_reducible refine (HX.out _ (by omega) (by omega)).mono ?_); rintro e w' ⟨rfl, rfl⟩)
                  | (go_at_call 29; (with_reducible refine (digit_any _ _).mono ?_); rintro e w' ⟨rfl, rfl⟩)
                  | (go_at_call 30; (with_reducible refine (BX.out _ (by omega) (by omega)).mono ?_); rintro e w' ⟨rfl, rfl⟩))
                repeat (go_step3; try go_wp2_with (first
                    | (go_at_call 28; (with_reducible refine (HX.out _ (by omega) (by omega)).mono ?_); rintro e w' ⟨rfl, rfl⟩)
                    | (go_at_call 29; (with_reducible refine (digit_any _ _).mono ?_); rintro e w' ⟨rfl, rfl⟩)
                    | (go_at_call 30; (with_reducible refine (BX.out _ (by omega) (by omega)).mono ?_); rintro e w' ⟨rfl, rfl⟩)))
                try rw [toJ_ret]
                go_ret2
                exact ⟨tupIB (by rw [HF.out]) (by rw [HF.out]), by trivial⟩
            | false =>
              have HF := Lib.hid (HF0.out.trans (fracM_l hdot hfd))
              clear hdot
              go_wp2_with (first
                | (go_at_call 28; (with_reducible refine (HX.out _ (by omega) (by omega)).mono ?_); rintro e w' ⟨rfl, rfl⟩)
                | (go_at_call 29; (with_reducible refine (digit_any _ _).mono ?_); rintro e w' ⟨rfl, rfl⟩)
                | (go_at_call 30; (with_reducible refine (BX.out _ (by omega) (by omega)).mono ?_); rintro e w' ⟨rfl, rfl⟩))
              repeat (go_step3; try go_wp2_with (first
                  | (go_at_call 28; (with_reducible refine (HX.out _ (by omega) (by omega)).mono ?_); rintro e w' ⟨rfl, rfl⟩)
                  | (go_at_call 29; (with_reducible refine (digit_any _ _).mono ?_); rintro e w' ⟨rfl, rfl⟩)
                  | (go_at_call 30; (with_reducible refine (BX.out _ (by omega) (by omega)).mono ?_); rintro e w' ⟨rfl, rfl⟩)))
              exact ⟨q + 1, _, by omega, by omega, rfl, ⟨_, _, _, _, _, _, _, _, _, _, _, _, _, _, _, _, _, _, _, _, _, _, _, _, _, _, _, _, _, _, _, _, _, _, _, _, _, _, _, _, _, _, _, _, _, _, _, _, _, _, _, _, _, _, _, _, _, _, _, _, _, _, _, _, _, _, _, _, rfl⟩, .inr (.inr ⟨rfl, HF.out⟩)⟩
          · have g0 : (byt b q != 46) = true := by simpa using hdot
            have HF := Lib.hid (HF0.out.trans (fracM_n hdot))
            clear hdot
            go_wp2_with (first
              | (go_at_call 28; (with_reducible refine (HX.out _ (by omega) (by omega)).mono ?_); rintro e w' ⟨rfl, rfl⟩)
              | (go_at_call 29; (with_reducible refine (digit_any _ _).mono ?_); rintro e w' ⟨rfl, rfl⟩)
              | (go_at_call 30; (with_reducible refine (BX.out _ (by omega) (by omega)).mono ?_); rintro e w' ⟨rfl, rfl⟩))
            repeat (go_step3; try go_wp2_with (first
                | (go_at_call 28; (with_reducible refine (HX.out _ (by omega) (by omega)).mono ?_); rintro e w' ⟨rfl, rfl⟩)
                | (go_at_call 29; (with_reducible refine (digit_any _ _).mono ?_); rintro e w' ⟨rfl, rfl⟩)
                | (go_at_call 30; (with_reducible refine (BX.out _ (by omega) (by omega)).mono ?_); rintro e w' ⟨rfl, rfl⟩)))
            exact ⟨q, _, by omega, by omega, rfl, ⟨_, _, _, _, _, _, _, _, _, _, _, _, _, _, _, _, _, _, _, _, _, _, _, _, _, _, _, _, _, _, _, _, _, _, _, _, _, _, _, _, _, _, _, _, _, _, _, _, _, _, _, _, _, _, _, _, _, _, _, _, _, _, _, _, _, _, _, _, rfl⟩, .inr (.inl ⟨rfl, HF.out⟩)⟩
        | false =>
          have HF := Lib.hid (HI0.out.trans (intM_n hid))
          clear h0
          go_wp2_with (first
            | (go_at_call 28; (with_reducible refine (HX.out _ (by omega) (by omega)).mono ?_); rintro e w' ⟨rfl, rfl⟩)
            | (go_at_call 29; (with_reducible refine (digit_any _ _).mono ?_); rintro e w' ⟨rfl, rfl⟩)
            | (go_at_call 30; (with_reducible refine (BX.out _ (by omega) (by omega)).mono ?_); rintro e w' ⟨rfl, rfl⟩))
          repeat (go_step3; try go_wp2_with (first
              | (go_at_call 28; (with_reducible refine (HX.out _ (by omega) (by omega)).mono ?_); rintro e w' ⟨rfl, rfl⟩)
              | (go_at_call 29; (with_reducible refine (digit_any _ _).mono ?_); rintro e w' ⟨rfl, rfl⟩)
              | (go_at_call 30; (with_reducible refine (BX.out _ (by omega) (by omega)).mono ?_); rintro e w' ⟨rfl, rfl⟩)))
          exact ⟨i, _, by omega, by omega, rfl, ⟨_, _, _, _, _, _, _, _, _, _, _, _, _, _, _, _, _, _, _, _, _, _, _, _, _, _, _, _, _, _, _, _, _, _, _, _, _, _, _, _, _, _, _, _, _, _, _, _, _, _, _, _, _, _, _, _, _, _, _, _, _, _, _, _, _, _, _, _, rfl⟩, .inr (.inr ⟨rfl, HF.out⟩)⟩
  · clear hv
    intro l a w2 hJ
    obtain ⟨j, x, rfl, hj, rfl, ⟨u6, u7, u8, u9, u10, u11, u12, u13, u14, u15, u16, u17, u18, u19, u20, u21, u22, u23, u24, u25, u26, u27, u28, u29, u30, u31, u32, u33, u34, u35, u36, u37, u38, u39, u40, u41, u42, u43, u44, u45, u46, u47, u48, u49, u50, u51, u52, u53, u54, u55, u56, u57, u58, u59, u60, u61, u62, u63, u64, u65, u66, u67, u68, u69, u70, u71, u72, u73, rfl⟩, hl⟩ := hJ
    rcases hl with ⟨rfl, hn⟩ | ⟨rfl, hn⟩ | ⟨rfl, hn⟩
    · refine ⟨_, rfl, ?_⟩
      have HN := Lib.hid hn
      clear hn
      have f1 : (((j : Nat) : Int) + 1).toNat = j + 1 := by omega
      by_cases hdot : byt b j = 46
      · have hlq : j < b.length := byt_lt hdot (by decide)
        have g0 : (byt b j != 46) = false := by rw [hdot]; rfl
        cases hfd : digC (byt b (j + 1)) with
        | true =>
          have hlq2 := digC_lt hfd
          have HE0 := Lib.hid (HN.out.trans (fracM_d hdot hfd))
          have hrb := digE_bd b (j + 1) (by omega)
          obtain ⟨r, hr⟩ : ∃ r, digE b (j + 1) = r := ⟨_, rfl⟩
          rw [hr] at HE0 hrb
          obtain ⟨hrb1, hrb2⟩ := hrb
          clear hdot
          have t1 : (((r : Nat) : Int) + 1).toNat = r + 1 := by omega
          have t2 : (((r : Nat) : Int) + 1 + 1).toNat = r + 2 := by omega
          have t3 : (((r : Nat) : Int) + 2).toNat = r + 2 := by omega
          have hcE : (byt b r = 101) ∨ (byt b r ≠ 101 ∧ byt b r = 69) ∨ (byt b r ≠ 101 ∧ byt b r ≠ 69) := by omega
          rcases hcE with hE | ⟨hE1, hE⟩ | ⟨hE1, hE2⟩
          · have g1 : (byt b r != 101) = false := by rw [hE]; rfl
            have hlr : r < b.length := byt_lt hE (by decide)
            have hEE : byt b r = 101 ∨ byt b r = 69 := .inl hE
            clear hE
            rcases (by omega : byt b (r + 1) = 43 ∨ (byt b (r + 1) ≠ 43 ∧ byt b (r + 1) = 45) ∨ (byt b (r + 1) ≠ 43 ∧ byt b (r + 1) ≠ 45)) with hS | ⟨hS1, hS⟩ | ⟨hS1, hS2⟩
            · have g3 : (byt b (r + 1) == 43) = true := by rw [hS]; rfl
              have hlr2 : r + 1 < b.length := byt_lt hS (by decide)
              have hSS : byt b (r + 1) = 43 ∨ byt b (r + 1) = 45 := .inl hS
              clear hS
              cases hD : digC (byt b (r + 2)) with
              | true =>
                have HF := Lib.hid (HE0.out.trans (expM_s hEE hSS true hD))
                rw [if_pos rfl] at HF
                have hld := digC_lt hD
                have Hd := Lib.hid hD
                clear hEE hSS
                go_wp2_with (first
                  | (go_at_call 28; (with_reducible refine (HX.out _ (by omega) (by omega)).mono ?_); rintro e w' ⟨rfl, rfl⟩)
                  | (go_at_call 29; (with_reducible refine (digit_any _ _).mono ?_); rintro e w' ⟨rfl, rfl⟩)
                  | (go_at_call 30; (with_reducible refine (BX.out _ (by omega) (by omega)).mono ?_); rintro e w' ⟨rfl, rfl⟩))
                repeat (go_step3; try go_wp2_with (first
                    | (go_at_call 28; (with_reducible refine (HX.out _ (by omega) (by omega)).mono ?_); rintro e w' ⟨rfl, rfl⟩)
                    | (go_at_call 29; (with_reducible refine (digit_any _ _).mono ?_); rintro e w' ⟨rfl, rfl⟩)
                    | (go_at_call 30; (with_reducible refine (BX.out _ (by omega) (by omega)).mono ?_); rintro e w' ⟨rfl, rfl⟩)))
                try rw [toJ_ret]
                go_ret2
                exact ⟨tupIB (by rw [HF.out]) (by rw [HF.out]), by trivial⟩
              | false =>
                have HF := Lib.hid (HE0.out.trans (expM_s hEE hSS false hD))
                rw [if_neg (by decide)] at HF
                clear hEE hSS
                go_wp2_with (first
                  | (go_at_call 28; (with_reducible refine (HX.out _ (by omega) (by omega)).mono ?_); rintro e w' ⟨rfl, rfl⟩)
                  | (go_at_call 29; (with_reducible refine (digit_any _ _).mono ?_); rintro e w' ⟨rfl, rfl⟩)
                  | (go_at_call 30; (with_reducible refine (BX.out _ (by omega) (by omega)).mono ?_); rintro e w' ⟨rfl, rfl⟩))
                repeat (go_step3; try go_wp2_with (first
                    | (go_at_call 28; (with_reducible refine (HX.out _ (by omega) (by omega)).mono ?_); rintro e w' ⟨rfl, rfl⟩)
                    | (go_at_call 29; (with_reducible refine (digit_any _ _).mono ?_); rintro e w' ⟨rfl, rfl⟩)
                    | (go_at_call 30; (with_reducible refine (BX.out _ (by omega) (by omega)).mono ?_); rintro e w' ⟨rfl, rfl⟩)))
                exact ⟨⟨r + 2, _, by omega, by omega, rfl, ⟨_, _, _, _, _, _, _, _, _, _, _, _, _, _, _, _, _, _, _, _, _, _, _, _, _, _, _, _, _, _, _, _, _, _, _, _, _, _, _, _, _, _, _, _, _, _, _, _, _, _, _, _, _, _, _, _, _, _, _, _, _, _, _, _, _, _, _, _, rfl⟩, .inr (.inr ⟨rfl, HF.out⟩)⟩, by simp [numμ]⟩
            · have g3 : (byt b (r + 1) == 43) = false := by simpa using hS1
              have g4 : (byt b (r + 1) == 45) = true := by rw [hS]; rfl
              have hlr2 : r + 1 < b.length := byt_lt hS (by decide)
              have hSS : byt b (r + 1) = 43 ∨ byt b (r + 1) = 45 := .inr hS
              clear hS hS1
              cases hD : digC (byt b (r + 2)) with
              | true =>
                have HF := Lib.hid (HE0.out.trans (expM_s hEE hSS true hD))
                rw [if_pos rfl] at HF
                have hld := digC_lt hD
                have Hd := Lib.hid hD
                clear hEE hSS
                go_wp2_with (first
                  | (go_at_call 28; (with_reducible refine (HX.out _ (by omega) (by omega)).mono ?_); rintro e w' ⟨rfl, rfl⟩)
                  | (go_at_call 29; (with_reducible refine (digit_any _ _).mono ?_); rintro e w' ⟨rfl, rfl⟩)
                  | (go_at_call 30; (with_reducible refine (BX.out _ (by omega) (by omega)).mono ?_); rintro e w' ⟨rfl, rfl⟩))
                repeat (go_step3; try go_wp2_with (first
                    | (go_at_call 28; (with_reducible refine (HX.out _ (by omega) (by omega)).mono ?_); rintro e w' ⟨rfl, rfl⟩)
                    | (go_at_call 29; (with_reducible refine (digit_any _ _).mono ?_); rintro e w' ⟨rfl, rfl⟩)
                    | (go_at_call 30; (with_reducible refine (BX.out _ (by omega) (by omega)).mono ?_); rintro e w' ⟨rfl, rfl⟩)))
                try rw [toJ_ret]
                go_ret2
                exact ⟨tupIB (by rw [HF.out]) (by rw [HF.out]), by trivial⟩
              | false =>
                have HF := Lib.hid (HE0.out.trans (expM_s hEE hSS false hD))
                rw [if_neg (by decide)] at HF
                clear hEE hSS
                go_wp2_with (first
                  | (go_at_call 28; (with_reducible refine (HX.out _ (by omega) (by omega)).mono ?_); rintro e w' ⟨rfl, rfl⟩)
                  | (go_at_call 29; (with_reducible refine (digit_any _ _).mono ?_); rintro e w' ⟨rfl, rfl⟩)
                  | (go_at_call 30; (with_reducible refine (BX.out _ (by omega) (by omega)).mono ?_); rintro e w' ⟨rfl, rfl⟩))
                repeat (go_step3; try go_wp2_with (first
                    | (go_at_call 28; (with_reducible refine (HX.out _ (by omega) (by omega)).mono ?_); rintro e w' ⟨rfl, rfl⟩)
                    | (go_at_call 29; (with_reducible refine (digit_any _ _).mono ?_); rintro e w' ⟨rfl, rfl⟩)
                    | (go_at_call 30; (with_reducible refine (BX.out _ (by omega) (by omega)).mono ?_); rintro e w' ⟨rfl, rfl⟩)))
                exact ⟨⟨r + 2, _, by omega, by omega, rfl, ⟨_, _, _, _, _, _, _, _, _, _, _, _, _, _, _, _, _, _, _, _, _, _, _, _, _, _, _, _, _, _, _, _, _, _, _, _, _, _, _, _, _, _, _, _, _, _, _, _, _, _, _, _, _, _, _, _, _, _, _, _, _, _, _, _, _, _, _, _, rfl⟩, .inr (.inr ⟨rfl, HF.out⟩)⟩, by simp [numμ]⟩
            · have g3 : (byt b (r + 1) == 43) = false := by simpa using hS1
              have g4 : (byt b (r + 1) == 45) = false := by simpa using hS2
              cases hD : digC (byt b (r + 1)) with
              | true =>
                have HF := Lib.hid (HE0.out.trans (expM_u hEE hS1 hS2 true hD))
                rw [if_pos rfl] at HF
                have hld := digC_lt hD
                have Hd := Lib.hid hD
                clear hEE hS1 hS2
                go_wp2_with (first
                  | (go_at_call 28; (with_reducible refine (HX.out _ (by omega) (by omega)).mono ?_); rintro e w' ⟨rfl, rfl⟩)
                  | (go_at_call 29; (with_reducible refine (digit_any _ _).mono ?_); rintro e w' ⟨rfl, rfl⟩)
                  | (go_at_call 30; (with_reducible refine (BX.out _ (by omega) (by omega)).mono ?_); rintro e w' ⟨rfl, rfl⟩))
                repeat (go_step3; try go_wp2_with (first
                    | (go_at_call 28; (with_reducible refine (HX.out _ (by omega) (by omega)).mono ?_); rintro e w' ⟨rfl, rfl⟩)
                    | (go_at_call 29; (with_reducible refine (digit_any _ _).mono ?_); rintro e w' ⟨rfl, rfl⟩)
                    | (go_at_call 30; (with_reducible refine (BX.out _ (by omega) (by omega)).mono ?_); rintro e w' ⟨rfl, rfl⟩)))
                try rw [toJ_ret]
                go_ret2
                exact ⟨tupIB (by rw [HF.out]) (by rw [HF.out]), by trivial⟩
              | false =>
                have HF := Lib.hid (HE0.out.trans (expM_u hEE hS1 hS2 false hD))
                rw [if_neg (by decide)] at HF
                clear hEE hS1 hS2
                go_wp2_with (first
                  | (go_at_call 28; (with_reducible refine (HX.out _ (by omega) (by omega)).mono ?_); rintro e w' ⟨rfl, rfl⟩)
                  | (go_at_call 29; (with_reducible refine (digit_any _ _).mono ?_); rintro e w' ⟨rfl, rfl⟩)
                  | (go_at_call 30; (with_reducible refine (BX.out _ (by omega) (by omega)).mono ?_); rintro e w' ⟨rfl, rfl⟩))
                repeat (go_step3; try go_wp2_with (first
                    | (go_at_call 28; (with_reducible refine (HX.out _ (by omega) (by omega)).mono ?_); rintro e w' ⟨rfl, rfl⟩)
                    | (go_at_call 29; (with_reducible refine (digit_any _ _).mono ?_); rintro e w' ⟨rfl, rfl⟩)
                    | (go_at_call 30; (with_reducible refine (BX.out _ (by omega) (by omega)).mono ?_); rintro e w' ⟨rfl, rfl⟩)))
                exact ⟨⟨r + 1, _, by omega, by omega, rfl, ⟨_, _, _, _, _, _, _, _, _, _, _, _, _, _, _, _, _, _, _, _, _, _, _, _, _, _, _, _, _, _, _, _, _, _, _, _, _, _, _, _, _, _, _, _, _, _, _, _, _, _, _, _, _, _, _, _, _, _, _, _, _, _, _, _, _, _, _, _, rfl⟩, .inr (.inr ⟨rfl, HF.out⟩)⟩, by simp [numμ]⟩
          · have g1 : (byt b r != 101) = true := by simpa using hE1
            have g2 : (byt b r != 69) = false := by rw [hE]; rfl
            have hlr : r < b.length := byt_lt hE (by decide)
            have hEE : byt b r = 101 ∨ byt b r = 69 := .inr hE
            clear hE hE1
            rcases (by omega : byt b (r + 1) = 43 ∨ (byt b (r + 1) ≠ 43 ∧ byt b (r + 1) = 45) ∨ (byt b (r + 1) ≠ 43 ∧ byt b (r + 1) ≠ 45)) with hS | ⟨hS1, hS⟩ | ⟨hS1, hS2⟩
            · have g3 : (byt b (r + 1) == 43) = true := by rw [hS]; rfl
              have hlr2 : r + 1 < b.length := byt_lt hS (by decide)
              have hSS : byt b (r + 1) = 43 ∨ byt b (r + 1) = 45 := .inl hS
              clear hS
              cases hD : digC (byt b (r + 2)) with
              | true =>
                have HF := Lib.hid (HE0.out.trans (expM_s hEE hSS true hD))
                rw [if_pos rfl] at HF
                have hld := digC_lt hD
                have Hd := Lib.hid hD
                clear hEE hSS
                go_wp2_with (first
                  | (go_at_call 28; (with_reducible refine (HX.out _ (by omega) (by omega)).mono ?_); rintro e w' ⟨rfl, rfl⟩)
                  | (go_at_call 29; (with_reducible refine (digit_any _ _).mono ?_); rintro e w' ⟨rfl, rfl⟩)
                  | (go_at_call 30; (with_reducible refine (BX.out _ (by omega) (by omega)).mono ?_); rintro e w' ⟨rfl, rfl⟩))
                repeat (go_step3; try go_wp2_with (first
                    | (go_at_call 28; (with_reducible refine (HX.out _ (by omega) (by omega)).mono ?_); rintro e w' ⟨rfl, rfl⟩)
                    | (go_at_call 29; (with_reducible refine (digit_any _ _).mono ?_); rintro e w' ⟨rfl, rfl⟩)
                    | (go_at_call 30; (with_reducible refine (BX.out _ (by omega) (by omega)).mono ?_); rintro e w' ⟨rfl, rfl⟩)))
                try rw [toJ_ret]
                go_ret2
                exact ⟨tupIB (by rw [HF.out]) (by rw [HF.out]), by trivial⟩
              | false =>
                have HF := Lib.hid (HE0.out.trans (expM_s hEE hSS false hD))
                rw [if_neg (by decide)] at HF
                clear hEE hSS
                go_wp2_with (first
                  | (go_at_call 28; (with_reducible refine (HX.out _ (by omega) (by omega)).mono ?_); rintro e w' ⟨rfl, rfl⟩)
                  | (go_at_call 29; (with_reducible refine (digit_any _ _).mono ?_); rintro e w' ⟨rfl, rfl⟩)
                  | (go_at_call 30; (with_reducible refine (BX.out _ (by omega) (by omega)).mono ?_); rintro e w' ⟨rfl, rfl⟩))
                repeat (go_step3; try go_wp2_with (first
                    | (go_at_call 28; (with_reducible refine (HX.out _ (by omega) (by omega)).mono ?_); rintro e w' ⟨rfl, rfl⟩)
                    | (go_at_call 29; (with_reducible refine (digit_any _ _).mono ?_); rintro e w' ⟨rfl, rfl⟩)
                    | (go_at_call 30; (with_reducible refine (BX.out _ (by omega) (by omega)).mono ?_); rintro e w' ⟨rfl, rfl⟩)))
                exact ⟨⟨r + 2, _, by omega, by omega, rfl, ⟨_, _, _, _, _, _, _, _, _, _, _, _, _, _, _, _, _, _, _, _, _, _, _, _, _, _, _, _, _, _, _, _, _, _, _, _, _, _, _, _, _, _, _, _, _, _, _, _, _, _, _, _, _, _, _, _, _, _, _, _, _, _, _, _, _, _, _, _, rfl⟩, .inr (.inr ⟨rfl, HF.out⟩)⟩, by simp [numμ]⟩
            · have g3 : (byt b (r + 1) == 43) = false := by simpa using hS1
              have g4 : (byt b (r + 1) == 45) = true := by rw [hS]; rfl
              have hlr2 : r + 1 < b.length := byt_lt hS (by decide)
              have hSS : byt b (r + 1) = 43 ∨ byt b (r + 1) = 45 := .inr hS
              clear hS hS1
              cases hD : digC (byt b (r + 2)) with
              | true =>
                have HF := Lib.hid (HE0.out.trans (expM_s hEE hSS true hD))
                rw [if_pos rfl] at HF
                have hld := digC_lt hD
                have Hd := Lib.hid hD
                clear hEE hSS
                go_wp2_with (first
                  | (go_at_call 28; (with_reducible refine (HX.out _ (by omega) (by omega)).mono ?_); rintro e w' ⟨rfl, rfl⟩)
                  | (go_at_call 29; (with_reducible refine (digit_any _ _).mono ?_); rintro e w' ⟨rfl, rfl⟩)
                  | (go_at_call 30; (with_reducible refine (BX.out _ (by omega) (by omega)).mono ?_); rintro e w' ⟨rfl, rfl⟩))
                repeat (go_step3; try go_wp2_with (first
                    | (go_at_call 28; (with_reducible refine (HX.out _ (by omega) (by omega)).mono ?_); rintro e w' ⟨rfl, rfl⟩)
                    | (go_at_call 29; (with_reducible refine (digit_any _ _).mono ?_); rintro e w' ⟨rfl, rfl⟩)
                    | (go_at_call 30; (with_reducible refine (BX.out _ (by omega) (by omega)).mono ?_); rintro e w' ⟨rfl, rfl⟩)))
                try rw [toJ_ret]
                go_ret2
                exact ⟨tupIB (by rw [HF.out]) (by rw [HF.out]), by trivial⟩
              | false =>
                have HF := Lib.hid (HE0.out.trans (expM_s hEE hSS false hD))
                rw [if_neg (by decide)] at HF
                clear hEE hSS
                go_wp2_with (first
                  | (go_at_call 28; (with_reducible refine (HX.out _ (by omega) (by omega)).mono ?_); rintro e w' ⟨rfl, rfl⟩)
                  | (go_at_call 29; (with_reducible refine (digit_any _ _).mono ?_); rintro e w' ⟨rfl, rfl⟩)
                  | (go_at_call 30; (with_reducible refine (BX.out _ (by omega) (by omega)).mono ?_); rintro e w' ⟨rfl, rfl⟩))
                repeat (go_step3; try go_wp2_with (first
                    | (go_at_call 28; (with_reducible refine (HX.out _ (by omega) (by omega)).mono ?_); rintro e w' ⟨rfl, rfl⟩)
                    | (go_at_call 29; (with_reducible refine (digit_any _ _).mono ?_); rintro e w' ⟨rfl, rfl⟩)
                    | (go_at_call 30; (with_reducible refine (BX.out _ (by omega) (by omega)).mono ?_); rintro e w' ⟨rfl, rfl⟩)))
                exact ⟨⟨r + 2, _, by omega, by omega, rfl, ⟨_, _, _, _, _, _, _, _, _, _, _, _, _, _, _, _, _, _, _, _, _, _, _, _, _, _, _, _, _, _, _, _, _, _, _, _, _, _, _, _, _, _, _, _, _, _, _, _, _, _, _, _, _, _, _, _, _, _, _, _, _, _, _, _, _, _, _, _, rfl⟩, .inr (.inr ⟨rfl, HF.out⟩)⟩, by simp [numμ]⟩
            · have g3 : (byt b (r + 1) == 43) = false := by simpa using hS1
              have g4 : (byt b (r + 1) == 45) = false := by simpa using hS2
              cases hD : digC (byt b (r + 1)) with
              | true =>
                have HF := Lib.hid (HE0.out.trans (expM_u hEE hS1 hS2 true hD))
                rw [if_pos rfl] at HF
                have hld := digC_lt hD
                have Hd := Lib.hid hD
                clear hEE hS1 hS2
                go_wp2_with (first
                  | (go_at_call 28; (with_reducible refine (HX.out _ (by omega) (by omega)).mono ?_); rintro e w' ⟨rfl, rfl⟩)
                  | (go_at_call 29; (with_reducible refine (digit_any _ _).mono ?_); rintro e w' ⟨rfl, rfl⟩)
                  | (go_at_call 30; (with_reducible refine (BX.out _ (by omega) (by omega)).mono ?_); rintro e w' ⟨rfl, rfl⟩))
                repeat (go_step3; try go_wp2_with (first
                    | (go_at_call 28; (with_reducible refine (HX.out _ (by omega) (by omega)).mono ?_); rintro e w' ⟨rfl, rfl⟩)
                    | (go_at_call 29; (with_reducible refine (digit_any _ _).mono ?_); rintro e w' ⟨rfl, rfl⟩)
                    | (go_at_call 30; (with_reducible refine (BX.out _ (by omega) (by omega)).mono ?_); rintro e w' ⟨rfl, rfl⟩)))
                try rw [toJ_ret]
                go_ret2
                exact ⟨tupIB (by rw [HF.out]) (by rw [HF.out]), by trivial⟩
              | false =>
                have HF := Lib.hid (HE0.out.trans (expM_u hEE hS1 hS2 false hD))
                rw [if_neg (by decide)] at HF
                clear hEE hS1 hS2
                go_wp2_with (first
                  | (go_at_call 28; (with_reducible refine (HX.out _ (by omega) (by omega)).mono ?_); rintro e w' ⟨rfl, rfl⟩)
                  | (go_at_call 29; (with_reducible refine (digit_any _ _).mono ?_); rintro e w' ⟨rfl, rfl⟩)
                  | (go_at_call 30; (with_reducible refine (BX.out _ (by omega) (by omega)).mono ?_); rintro e w' ⟨rfl, rfl⟩))
                repeat (go_step3; try go_wp2_with (first
                    | (go_at_call 28; (with_reducible refine (HX.out _ (by omega) (by omega)).mono ?_); rintro e w' ⟨rfl, rfl⟩)
                    | (go_at_call 29; (with_reducible refine (digit_any _ _).mono ?_); rintro e w' ⟨rfl, rfl⟩)
                    | (go_at_call 30; (with_reducible refine (BX.out _ (by omega) (by omega)).mono ?_); rintro e w' ⟨rfl, rfl⟩)))
                exact ⟨⟨r + 1, _, by omega, by omega, rfl, ⟨_, _, _, _, _, _, _, _, _, _, _, _, _, _, _, _, _, _, _, _, _, _, _, _, _, _, _, _, _, _, _, _, _, _, _, _, _, _, _, _, _, _, _, _, _, _, _, _, _, _, _, _, _, _, _, _, _, _, _, _, _, _, _, _, _, _, _, _, rfl⟩, .inr (.inr ⟨rfl, HF.out⟩)⟩, by simp [numμ]⟩
          · have g1 : (byt b r != 101) = true := by simpa using hE1
            have g2 : (byt b r != 69) = true := by simpa using hE2
            have HF := Lib.hid (HE0.out.trans (expM_n hE1 hE2))
            clear hE1 hE2
            go_wp2_with (first
              | (go_at_call 28; (with_reducible refine (HX.out _ (by omega) (by omega)).mono ?_); rintro e w' ⟨rfl, rfl⟩)
              | (go_at_call 29; (with_reducible refine (digit_any _ _).mono ?_); rintro e w' ⟨rfl, rfl⟩)
              | (go_at_call 30; (with_reducible refine (BX.out _ (by omega) (by omega)).mono ?_); rintro e w' ⟨rfl, rfl⟩))
            repeat (go_step3; try go_wp2_with (first
                | (go_at_call 28; (with_reducible refine (HX.out _ (by omega) (by omega)).mono ?_); rintro e w' ⟨rfl, rfl⟩)
                | (go_at_call 29; (with_reducible refine (digit_any _ _).mono ?_); rintro e w' ⟨rfl, rfl⟩)
                | (go_at_call 30; (with_reducible refine (BX.out _ (by omega) (by omega)).mono ?_); rintro e w' ⟨rfl, rfl⟩)))
            try rw [toJ_ret]
            go_ret2
            exact ⟨tupIB (by rw [HF.out]) (by rw [HF.out]), by trivial⟩
        | false =>
          have HF := Lib.hid (HN.out.trans (fracM_l hdot hfd))
          clear hdot
          go_wp2_with (first
            | (go_at_call 28; (with_reducible refine (HX.out _ (by omega) (by omega)).mono ?_); rintro e w' ⟨rfl, rfl⟩)
            | (go_at_call 29; (with_reducible refine (digit_any _ _).mono ?_); rintro e w' ⟨rfl, rfl⟩)
            | (go_at_call 30; (with_reducible refine (BX.out _ (by omega) (by omega)).mono ?_); rintro e w' ⟨rfl, rfl⟩))
          repeat (go_step3; try go_wp2_with (first
              | (go_at_call 28; (with_reducible refine (HX.out _ (by omega) (by omega)).mono ?_); rintro e w' ⟨rfl, rfl⟩)
              | (go_at_call 29; (with_reducible refine (digit_any _ _).mono ?_); rintro e w' ⟨rfl, rfl⟩)
              | (go_at_call 30; (with_reducible refine (BX.out _ (by omega) (by omega)).mono ?_); rintro e w' ⟨rfl, rfl⟩)))
          exact ⟨⟨j + 1, _, by omega, by omega, rfl, ⟨_, _, _, _, _, _, _, _, _, _, _, _, _, _, _, _, _, _, _, _, _, _, _, _, _, _, _, _, _, _, _, _, _, _, _, _, _, _, _, _, _, _, _, _, _, _, _, _, _, _, _, _, _, _, _, _, _, _, _, _, _, _, _, _, _, _, _, _, rfl⟩, .inr (.inr ⟨rfl, HF.out⟩)⟩, by simp [numμ]⟩
      · have g0 : (byt b j != 46) = true := by simpa using hdot
        have HF := Lib.hid (HN.out.trans (fracM_n hdot))
        clear hdot
        go_wp2_with (first
          | (go_at_call 28; (with_reducible refine (HX.out _ (by omega) (by omega)).mono ?_); rintro e w' ⟨rfl, rfl⟩)
          | (go_at_call 29; (with_reducible refine (digit_any _ _).mono ?_); rintro e w' ⟨rfl, rfl⟩)
          | (go_at_call 30; (with_reducible refine (BX.out _ (by omega) (by omega)).mono ?_); rintro e w' ⟨rfl, rfl⟩))
        repeat (go_step3; try go_wp2_with (first
            | (go_at_call 28; (with_reducible refine (HX.out _ (by omega) (by omega)).mono ?_); rintro e w' ⟨rfl, rfl⟩)
            | (go_at_call 29; (with_reducible refine (digit_any _ _).mono ?_); rintro e w' ⟨rfl, rfl⟩)
            | (go_at_call 30; (with_reducible refine (BX.out _ (by omega) (by omega)).mono ?_); rintro e w' ⟨rfl, rfl⟩)))
        exact ⟨⟨j, _, by omega, by omega, rfl, ⟨_, _, _, _, _, _, _, _, _, _, _, _, _, _, _, _, _, _, _, _, _, _, _, _, _, _, _, _, _, _, _, _, _, _, _, _, _, _, _, _, _, _, _, _, _, _, _, _, _, _, _, _, _, _, _, _, _, _, _, _, _, _, _, _, _, _, _, _, rfl⟩, .inr (.inl ⟨rfl, HF.out⟩)⟩, by simp [numμ]⟩
    · refine ⟨_, rfl, ?_⟩
      have HN := Lib.hid hn
      clear hn
      have t1 : (((j : Nat) : Int) + 1).toNat = j + 1 := by omega
      have t2 : (((j : Nat) : Int) + 1 + 1).toNat = j + 2 := by omega
      have t3 : (((j : Nat) : Int) + 2).toNat = j + 2 := by omega
      have hcE : (byt b j = 101) ∨ (byt b j ≠ 101 ∧ byt b j = 69) ∨ (byt b j ≠ 101 ∧ byt b j ≠ 69) := by omega
      rcases hcE with hE | ⟨hE1, hE⟩ | ⟨hE1, hE2⟩
      · have g1 : (byt b j != 101) = false := by rw [hE]; rfl
        have hlr : j < b.length := byt_lt hE (by decide)
        have hEE : byt b j = 101 ∨ byt b j = 69 := .inl hE
        clear hE
        rcases (by omega : byt b (j + 1) = 43 ∨ (byt b (j + 1) ≠ 43 ∧ byt b (j + 1) = 45) ∨ (byt b (j + 1) ≠ 43 ∧ byt b (j + 1) ≠ 45)) with hS | ⟨hS1, hS⟩ | ⟨hS1, hS2⟩
        · have g3 : (byt b (j + 1) == 43) = true := by rw [hS]; rfl
          have hlr2 : j + 1 < b.length := byt_lt hS (by decide)
          have hSS : byt b (j + 1) = 43 ∨ byt b (j + 1) = 45 := .inl hS
          clear hS
          cases hD : digC (byt b (j + 2)) with
          | true =>
            have HF := Lib.hid (HN.out.trans (expM_s hEE hSS true hD))
            rw [if_pos rfl] at HF
            have hld := digC_lt hD
            have Hd := Lib.hid hD
            clear hEE hSS
            go_wp2_with (first
              | (go_at_call 28; (with_reducible refine (HX.out _ (by omega) (by omega)).mono ?_); rintro e w' ⟨rfl, rfl⟩)
              | (go_at_call 29; (with_reducible refine (digit_any _ _).mono ?_); rintro e w' ⟨rfl, rfl⟩)
              | (go_at_call 30; (with_reducible refine (BX.out _ (by omega) (by omega)).mono ?_); rintro e w' ⟨rfl, rfl⟩))
            repeat (go_step3; try go_wp2_with (first
                | (go_at_call 28; (with_reducible refine (HX.out _ (by omega) (by omega)).mono ?_); rintro e w' ⟨rfl, rfl⟩)
                | (go_at_call 29; (with_reducible refine (digit_any _ _).mono ?_); rintro e w' ⟨rfl, rfl⟩)
                | (go_at_call 30; (with_reducible refine (BX.out _ (by omega) (by omega)).mono ?_); rintro e w' ⟨rfl, rfl⟩)))
            try rw [toJ_ret]
            go_ret2
            exact ⟨tupIB (by rw [HF.out]) (by rw [HF.out]), by trivial⟩
          | false =>
            have HF := Lib.hid (HN.out.trans (expM_s hEE hSS false hD))
            rw [if_neg (by decide)] at HF
            clear hEE hSS
            go_wp2_with (first
              | (go_at_call 28; (with_reducible refine (HX.out _ (by omega) (by omega)).mono ?_); rintro e w' ⟨rfl, rfl⟩)
              | (go_at_call 29; (with_reducible refine (digit_any _ _).mono ?_); rintro e w' ⟨rfl, rfl⟩)
              | (go_at_call 30; (with_reducible refine (BX.out _ (by omega) (by omega)).mono ?_); rintro e w' ⟨rfl, rfl⟩))
            repeat (go_step3; try go_wp2_with (first
                | (go_at_call 28; (with_reducible refine (HX.out _ (by omega) (by omega)).mono ?_); rintro e w' ⟨rfl, rfl⟩)
                | (go_at_call 29; (with_reducible refine (digit_any _ _).mono ?_); rintro e w' ⟨rfl, rfl⟩)
                | (go_at_call 30; (with_reducible refine (BX.out _ (by omega) (by omega)).mono ?_); rintro e w' ⟨rfl, rfl⟩)))
            exact ⟨⟨j + 2, _, by omega, by omega, rfl, ⟨_, _, _, _, _, _, _, _, _, _, _, _, _, _, _, _, _, _, _, _, _, _, _, _, _, _, _, _, _, _, _, _, _, _, _, _, _, _, _, _, _, _, _, _, _, _, _, _, _, _, _, _, _, _, _, _, _, _, _, _, _, _, _, _, _, _, _, _, rfl⟩, .inr (.inr ⟨rfl, HF.out⟩)⟩, by simp [numμ]⟩
        · have g3 : (byt b (j + 1) == 43) = false := by simpa using hS1
          have g4 : (byt b (j + 1) == 45) = true := by rw [hS]; rfl
          have hlr2 : j + 1 < b.length := byt_lt hS (by decide)
          have hSS : byt b (j + 1) = 43 ∨ byt b (j + 1) = 45 := .inr hS
          clear hS hS1
          cases hD : digC (byt b (j + 2)) with
          | true =>
            have HF := Lib.hid (HN.out.trans (expM_s hEE hSS true hD))
            rw [if_pos rfl] at HF
            have hld := digC_lt hD
            have Hd := Lib.hid hD
            clear hEE hSS
            go_wp2_with (first
              | (go_at_call 28; (with_reducible refine (HX.out _ (by omega) (by omega)).mono ?_); rintro e w' ⟨rfl, rfl⟩)
              | (go_at_call 29; (with_reducible refine (digit_any _ _).mono ?_); rintro e w' ⟨rfl, rfl⟩)
              | (go_at_call 30; (with_reducible refine (BX.out _ (by omega) (by omega)).mono ?_); rintro e w' ⟨rfl, rfl⟩))
            repeat (go_step3; try go_wp2_with (first
                | (go_at_call 28; (with_reducible refine (HX.out _ (by omega) (by omega)).mono ?_); rintro e w' ⟨rfl, rfl⟩)
                | (go_at_call 29; (with_reducible refine (digit_any _ _).mono ?_); rintro e w' ⟨rfl, rfl⟩)
                | (go_at_call 30; (with_reducible refine (BX.out _ (by omega) (by omega)).mono ?_); rintro e w' ⟨rfl, rfl⟩)))
            try rw [toJ_ret]
            go_ret2
            exact ⟨tupIB (by rw [HF.out]) (by rw [HF.out]), by trivial⟩
          | false =>
            have HF := Lib.hid (HN.out.trans (expM_s hEE hSS false hD))
            rw [if_neg (by decide)] at HF
            clear hEE hSS
            go_wp2_with (first
              | (go_at_call 28; (with_reducible refine (HX.out _ (by omega) (by omega)).mono ?_); rintro e w' ⟨rfl, rfl⟩)
              | (go_at_call 29; (with_reducible refine (digit_any _ _).mono ?_); rintro e w' ⟨rfl, rfl⟩)
              | (go_at_call 30; (with_reducible refine (BX.out _ (by omega) (by omega)).mono ?_); rintro e w' ⟨rfl, rfl⟩))
            repeat (go_step3; try go_wp2_with (first
                | (go_at_call 28; (with_reducible refine (HX.out _ (by omega) (by omega)).mono ?_); rintro e w' ⟨rfl, rfl⟩)
                | (go_at_call 29; (with_reducible refine (digit_any _ _).mono ?_); rintro e w' ⟨rfl, rfl⟩)
                | (go_at_call 30; (with_reducible refine (BX.out _ (by omega) (by omega)).mono ?_); rintro e w' ⟨rfl, rfl⟩)))
            exact ⟨⟨j + 2, _, by omega, by omega, rfl, ⟨_, _, _, _, _, _, _, _, _, _, _, _, _, _, _, _, _, _, _, _, _, _, _, _, _, _, _, _, _, _, _, _, _, _, _, _, _, _, _, _, _, _, _, _, _, _, _, _, _, _, _, _, _, _, _, _, _, _, _, _, _, _, _, _, _, _, _, _, rfl⟩, .inr (.inr ⟨rfl, HF.out⟩)⟩, by simp [numμ]⟩
        · have g3 : (byt b (j + 1) == 43) = false := by simpa using hS1
          have g4 : (byt b (j + 1) == 45) = false := by simpa using hS2
          cases hD : digC (byt b (j + 1)) with
          | true =>
            have HF := Lib.hid (HN.out.trans (expM_u hEE hS1 hS2 true hD))
            rw [if_pos rfl] at HF
            have hld := digC_lt hD
            have Hd := Lib.hid hD
            clear hEE hS1 hS2
            go_wp2_with (first
              | (go_at_call 28; (with_reducible refine (HX.out _ (by omega) (by omega)).mono ?_); rintro e w' ⟨rfl, rfl⟩)
              | (go_at_call 29; (with_reducible refine (digit_any _ _).mono ?_); rintro e w' ⟨rfl, rfl⟩)
              | (go_at_call 30; (with_reducible refine (BX.out _ (by omega) (by omega)).mono ?_); rintro e w' ⟨rfl, rfl⟩))
            repeat (go_step3; try go_wp2_with (first
                | (go_at_call 28; (with_reducible refine (HX.out _ (by omega) (by omega)).mono ?_); rintro e w' ⟨rfl, rfl⟩)
                | (go_at_call 29; (with_reducible refine (digit_any _ _).mono ?_); rintro e w' ⟨rfl, rfl⟩)
                | (go_at_call 30; (with_reducible refine (BX.out _ (by omega) (by omega)).mono ?_); rintro e w' ⟨rfl, rfl⟩)))
            try rw [toJ_ret]
            go_ret2
            exact ⟨tupIB (by rw [HF.out]) (by rw [HF.out]), by trivial⟩
          | false =>
            have HF := Lib.hid (HN.out.trans (expM_u hEE hS1 hS2 false hD))
            rw [if_neg (by decide)] at HF
            clear hEE hS1 hS2
            go_wp2_with (first
              | (go_at_call 28; (with_reducible refine (HX.out _ (by omega) (by omega)).mono ?_); rintro e w' ⟨rfl, rfl⟩)
              | (go_at_call 29; (with_reducible refine (digit_any _ _).mono ?_); rintro e w' ⟨rfl, rfl⟩)
              | (go_at_call 30; (with_reducible refine (BX.out _ (by omega) (by omega)).mono ?_); rintro e w' ⟨rfl, rfl⟩))
            repeat (go_step3; try go_wp2_with (first
                | (go_at_call 28; (with_reducible refine (HX.out _ (by omega) (by omega)).mono ?_); rintro e w' ⟨rfl, rfl⟩)
                | (go_at_call 29; (with_reducible refine (digit_any _ _).mono ?_); rintro e w' ⟨rfl, rfl⟩)
                | (go_at_call 30; (with_reducible refine (BX.out _ (by omega) (by omega)).mono ?_); rintro e w' ⟨rfl, rfl⟩)))
            exact ⟨⟨j + 1, _, by omega, by omega, rfl, ⟨_, _, _, _, _, _, _, _, _, _, _, _, _, _, _, _, _, _, _, _, _, _, _, _, _, _, _, _, _, _, _, _, _, _, _, _, _, _, _, _, _, _, _, _, _, _, _, _, _, _, _, _, _, _, _, _, _, _, _, _, _, _, _, _, _, _, _, _, rfl⟩, .inr (.inr ⟨rfl, HF.out⟩)⟩, by simp [numμ]⟩
      · have g1 : (byt b j != 101) = true := by simpa using hE1
        have g2 : (byt b j != 69) = false := by rw [hE]; rfl
        have hlr : j < b.length := byt_lt hE (by decide)
        have hEE : byt b j = 101 ∨ byt b j = 69 := .inr hE
        clear hE hE1
        rcases (by omega : byt b (j + 1) = 43 ∨ (byt b (j + 1) ≠ 43 ∧ byt b (j + 1) = 45) ∨ (byt b (j + 1) ≠ 43 ∧ byt b (j + 1) ≠ 45)) with hS | ⟨hS1, hS⟩ | ⟨hS1, hS2⟩
        · have g3 : (byt b (j + 1) == 43) = true := by rw [hS]; rfl
          have hlr2 : j + 1 < b.length := byt_lt hS (by decide)
          have hSS : byt b (j + 1) = 43 ∨ byt b (j + 1) = 45 := .inl hS
          clear hS
          cases hD : digC (byt b (j + 2)) with
          | true =>
            have HF := Lib.hid (HN.out.trans (expM_s hEE hSS true hD))
            rw [if_pos rfl] at HF
            have hld := digC_lt hD
            have Hd := Lib.hid hD
            clear hEE hSS
            go_wp2_with (first
              | (go_at_call 28; (with_reducible refine (HX.out _ (by omega) (by omega)).mono ?_); rintro e w' ⟨rfl, rfl⟩)
              | (go_at_call 29; (with_reducible refine (digit_any _ _).mono ?_); rintro e w' ⟨rfl, rfl⟩)
              | (go_at_call 30; (with_reducible refine (BX.out _ (by omega) (by omega)).mono ?_); rintro e w' ⟨rfl, rfl⟩))
            repeat (go_step3; try go_wp2_with (first
                | (go_at_call 28; (with_reducible refine (HX.out _ (by omega) (by omega)).mono ?_); rintro e w' ⟨rfl, rfl⟩)
                | (go_at_call 29; (with_reducible refine (digit_any _ _).mono ?_); rintro e w' ⟨rfl, rfl⟩)
                | (go_at_call 30; (with_reducible refine (BX.out _ (by omega) (by omega)).mono ?_); rintro e w' ⟨rfl, rfl⟩)))
            try rw [toJ_ret]
            go_ret2
            exact ⟨tupIB (by rw [HF.out]) (by rw [HF.out]), by trivial⟩
          | false =>
            have HF := Lib.hid (HN.out.trans (expM_s hEE hSS false hD))
            rw [if_neg (by decide)] at HF
            clear hEE hSS
            go_wp2_with (first
              | (go_at_call 28; (with_reducible refine (HX.out _ (by omega) (by omega)).mono ?_); rintro e w' ⟨rfl, rfl⟩)
              | (go_at_call 29; (with_reducible refine (digit_any _ _).mono ?_); rintro e w' ⟨rfl, rfl⟩)
              | (go_at_call 30; (with_reducible refine (BX.out _ (by omega) (by omega)).mono ?_); rintro e w' ⟨rfl, rfl⟩))
            repeat (go_step3; try go_wp2_with (first
                | (go_at_call 28; (with_reducible refine (HX.out _ (by omega) (by omega)).mono ?_); rintro e w' ⟨rfl, rfl⟩)
                | (go_at_call 29; (with_reducible refine (digit_any _ _).mono ?_); rintro e w' ⟨rfl, rfl⟩)
                | (go_at_call 30; (with_reducible refine (BX.out _ (by omega) (by omega)).mono ?_); rintro e w' ⟨rfl, rfl⟩)))
            exact ⟨⟨j + 2, _, by omega, by omega, rfl, ⟨_, _, _, _, _, _, _, _, _, _, _, _, _, _, _, _, _, _, _, _, _, _, _, _, _, _, _, _, _, _, _, _, _, _, _, _, _, _, _, _, _, _, _, _, _, _, _, _, _, _, _, _, _, _, _, _, _, _, _, _, _, _, _, _, _, _, _, _, rfl⟩, .inr (.inr ⟨rfl, HF.out⟩)⟩, by simp [numμ]⟩
        · have g3 : (byt b (j + 1) == 43) = false := by simpa using hS1
          have g4 : (byt b (j + 1) == 45) = true := by rw [hS]; rfl
          have hlr2 : j + 1 < b.length := byt_lt hS (by decide)
          have hSS : byt b (j + 1) = 43 ∨ byt b (j + 1) = 45 := .inr hS
          clear hS hS1
          cases hD : digC (byt b (j + 2)) with
          | true =>
            have HF := Lib.hid (HN.out.trans (expM_s hEE hSS true hD))
            rw [if_pos rfl] at HF
            have hld := digC_lt hD
            have Hd := Lib.hid hD
            clear hEE hSS
            go_wp2_with (first
              | (go_at_call 28; (with_reducible refine (HX.out _ (by omega) (by omega)).mono ?_); rintro e w' ⟨rfl, rfl⟩)
              | (go_at_call 29; (with_reducible refine (digit_any _ _).mono ?_); rintro e w' ⟨rfl, rfl⟩)
              | (go_at_call 30; (with_reducible refine (BX.out _ (by omega) (by omega)).mono ?_); rintro e w' ⟨rfl, rfl⟩))
            repeat (go_step3; try go_wp2_with (first
                | (go_at_call 28; (with_reducible refine (HX.out _ (by omega) (by omega)).mono ?_); rintro e w' ⟨rfl, rfl⟩)
                | (go_at_call 29; (with_reducible refine (digit_any _ _).mono ?_); rintro e w' ⟨rfl, rfl⟩)
                | (go_at_call 30; (with_reducible refine (BX.out _ (by omega) (by omega)).mono ?_); rintro e w' ⟨rfl, rfl⟩)))
            try rw [toJ_ret]
            go_ret2
            exact ⟨tupIB (by rw [HF.out]) (by rw [HF.out]), by trivial⟩
          | false =>
            have HF := Lib.hid (HN.out.trans (expM_s hEE hSS false hD))
            rw [if_neg (by decide)] at HF
            clear hEE hSS
            go_wp2_with (first
              | (go_at_call 28; (with_reducible refine (HX.out _ (by omega) (by omega)).mono ?_); rintro e w' ⟨rfl, rfl⟩)
              | (go_at_call 29; (with_reducible refine (digit_any _ _).mono ?_); rintro e w' ⟨rfl, rfl⟩)
              | (go_at_call 30; (with_reducible refine (BX.out _ (by omega) (by omega)).mono ?_); rintro e w' ⟨rfl, rfl⟩))
            repeat (go_step3; try go_wp2_with (first
                | (go_at_call 28; (with_reducible refine (HX.out _ (by omega) (by omega)).mono ?_); rintro e w' ⟨rfl, rfl⟩)
                | (go_at_call 29; (with_reducible refine (digit_any _ _).mono ?_); rintro e w' ⟨rfl, rfl⟩)
                | (go_at_call 30; (with_reducible refine (BX.out _ (by omega) (by omega)).mono ?_); rintro e w' ⟨rfl, rfl⟩)))
            exact ⟨⟨j + 2, _, by omega, by omega, rfl, ⟨_, _, _, _, _, _, _, _, _, _, _, _, _, _, _, _, _, _, _, _, _, _, _, _, _, _, _, _, _, _, _, _, _, _, _, _, _, _, _, _, _, _, _, _, _, _, _, _, _, _, _, _, _, _, _, _, _, _, _, _, _, _, _, _, _, _, _, _, rfl⟩, .inr (.inr ⟨rfl, HF.out⟩)⟩, by simp [numμ]⟩
        · have g3 : (byt b (j + 1) == 43) = false := by simpa using hS1
          have g4 : (byt b (j + 1) == 45) = false := by simpa using hS2
          cases hD : digC (byt b (j + 1)) with
          | true =>
            have HF := Lib.hid (HN.out.trans (expM_u hEE hS1 hS2 true hD))
            rw [if_pos rfl] at HF
            have hld := digC_lt hD
            have Hd := Lib.hid hD
            clear hEE hS1 hS2
            go_wp2_with (first
              | (go_at_call 28; (with_reducible refine (HX.out _ (by omega) (by omega)).mono ?_); rintro e w' ⟨rfl, rfl⟩)
              | (go_at_call 29; (with_reducible refine (digit_any _ _).mono ?_); rintro e w' ⟨rfl, rfl⟩)
              | (go_at_call 30; (with_reducible refine (BX.out _ (by omega) (by omega)).mono ?_); rintro e w' ⟨rfl, rfl⟩))
            repeat (go_step3; try go_wp2_with (first
                | (go_at_call 28; (with_reducible refine (HX.out _ (by omega) (by omega)).mono ?_); rintro e w' ⟨rfl, rfl⟩)
                | (go_at_call 29; (with_reducible refine (digit_any _ _).mono ?_); rintro e w' ⟨rfl, rfl⟩)
                | (go_at_call 30; (with_reducible refine (BX.out _ (by omega) (by omega)).mono ?_); rintro e w' ⟨rfl, rfl⟩)))
            try rw [toJ_ret]
            go_ret2
            exact ⟨tupIB (by rw [HF.out]) (by rw [HF.out]), by trivial⟩
          | false =>
            have HF := Lib.hid (HN.out.trans (expM_u hEE hS1 hS2 false hD))
            rw [if_neg (by decide)] at HF
            clear hEE hS1 hS2
            go_wp2_with (first
              | (go_at_call 28; (with_reducible refine (HX.out _ (by omega) (by omega)).mono ?_); rintro e w' ⟨rfl, rfl⟩)
              | (go_at_call 29; (with_reducible refine (digit_any _ _).mono ?_); rintro e w' ⟨rfl, rfl⟩)
              | (go_at_call 30; (with_reducible refine (BX.out _ (by omega) (by omega)).mono ?_); rintro e w' ⟨rfl, rfl⟩))
            repeat (go_step3; try go_wp2_with (first
                | (go_at_call 28; (with_reducible refine (HX.out _ (by omega) (by omega)).mono ?_); rintro e w' ⟨rfl, rfl⟩)
                | (go_at_call 29; (with_reducible refine (digit_any _ _).mono ?_); rintro e w' ⟨rfl, rfl⟩)
                | (go_at_call 30; (with_reducible refine (BX.out _ (by omega) (by omega)).mono ?_); rintro e w' ⟨rfl, rfl⟩)))
            exact ⟨⟨j + 1, _, by omega, by omega, rfl, ⟨_, _, _, _, _, _, _, _, _, _, _, _, _, _, _, _, _, _, _, _, _, _, _, _, _, _, _, _, _, _, _, _, _, _, _, _, _, _, _, _, _, _, _, _, _, _, _, _, _, _, _, _, _, _, _, _, _, _, _, _, _, _, _, _, _, _, _, _, rfl⟩, .inr (.inr ⟨rfl, HF.out⟩)⟩, by simp [numμ]⟩
      · have g1 : (byt b j != 101) = true := by simpa using hE1
        have g2 : (byt b j != 69) = true := by simpa using hE2
        have HF := Lib.hid (HN.out.trans (expM_n hE1 hE2))
        clear hE1 hE2
        go_wp2_with (first
          | (go_at_call 28; (with_reducible refine (HX.out _ (by omega) (by omega)).mono ?_); rintro e w' ⟨rfl, rfl⟩)
          | (go_at_call 29; (with_reducible refine (digit_any _ _).mono ?_); rintro e w' ⟨rfl, rfl⟩)
          | (go_at_call 30; (with_reducible refine (BX.out _ (by omega) (by omega)).mono ?_); rintro e w' ⟨rfl, rfl⟩))
        repeat (go_step3; try go_wp2_with (first
            | (go_at_call 28; (with_reducible refine (HX.out _ (by omega) (by omega)).mono ?_); rintro e w' ⟨rfl, rfl⟩)
            | (go_at_call 29; (with_reducible refine (digit_any _ _).mono ?_); rintro e w' ⟨rfl, rfl⟩)
            | (go_at_call 30; (with_reducible refine (BX.out _ (by omega) (by omega)).mono ?_); rintro e w' ⟨rfl, rfl⟩)))
        try rw [toJ_ret]
        go_ret2
        exact ⟨tupIB (by rw [HF.out]) (by rw [HF.out]), by trivial⟩
    · refine ⟨_, rfl, ?_⟩
      have HN := Lib.hid hn
      clear hn
      go_wp2_with (first
        | (go_at_call 28; (with_reducible refine (HX.out _ (by omega) (by omega)).mono ?_); rintro e w' ⟨rfl, rfl⟩)
        | (go_at_call 29; (with_reducible refine (digit_any _ _).mono ?_); rintro e w' ⟨rfl, rfl⟩)
        | (go_at_call 30; (with_reducible refine (BX.out _ (by omega) (by omega)).mono ?_); rintro e w' ⟨rfl, rfl⟩))
      repeat (go_step3; try go_wp2_with (first
          | (go_at_call 28; (with_reducible refine (HX.out _ (by omega) (by omega)).mono ?_); rintro e w' ⟨rfl, rfl⟩)
          | (go_at_call 29; (with_reducible refine (digit_any _ _).mono ?_); rintro e w' ⟨rfl, rfl⟩)
          | (go_at_call 30; (with_reducible refine (BX.out _ (by omega) (by omega)).mono ?_); rintro e w' ⟨rfl, rfl⟩)))
      try rw [toJ_ret]
      go_ret2
      exact ⟨tupIB (by rw [HN.out]) (by rw [HN.out]), by trivial⟩
theorem i32_or (i : Nat) (x y : Int) (hx0 : 0 ≤ x) (hx : x % 2 ^ i = 0) (hx1 : x < 2147483648) (hy : 0 ≤ y) (h : y < 2 ^ i) (hy1 : y < 2147483648) : bits .or .i32 x y = x + y :=
  bits_join .i32 31 (by decide) wraps_i32 i x y hx0 hx hx1 hy h hy1
theorem lit_end {w : World} {e : TypeId} {r : Int} {cs : Array Value} (n : Nat) (h : (encR r).map u8V = cs.toList) (hn : cs.toList.length = n) (hn4 : n ≤ 4) :
    Own (w.alloc (.cells cs e)) w.heap.size e (.slice (some ⟨w.heap.size, 0, none⟩) n n) ((encR r).map u8V) := by
  rw [h]; exact Own.lit w _ e cs n hn (Nat.le_refl _) (by omega)
set_option maxHeartbeats 1000000 in
theorem bytes_any (r : Int) (w : World) (h0 : -2147483648 ≤ r) (h1 : r ≤ 2147483647) :
    Calls Try.prog 50 #[.int .i32 r] w fun e w' => ∃ v', e = .returned v' ∧ Own w' w.heap.size 5 v' ((encR (fixR r)).map u8V) ∧ Below w.heap.size w w' := by
  have b63 : ∀ x : Int, 0 ≤ x → x < 2147483648 → bits .and .i32 x 63 = x % 64 := fun x a b => i32_and 6 (by decide) x a b
  by_cases h2 : r < 0
  · have hf : fixR r = 65533 := by unfold fixR; rw [if_pos (by omega)]
    rw [hf]
    clear hf b63
    go_enter Try.func50, Try.ntmps50
    go_wp2
    go_ret
    exact ⟨_, rfl, Own.lit _ _ _ _ 3 rfl (Nat.le_refl _) (by omega), (Below.refl _ _).alloc (Nat.le_refl _) _⟩
  by_cases h3 : 1114111 < r
  · have hf : fixR r = 65533 := by unfold fixR; rw [if_pos (by omega)]
    rw [hf]
    clear hf b63
    go_enter Try.func50, Try.ntmps50
    go_wp2
    go_ret
    exact ⟨_, rfl, Own.lit _ _ _ _ 3 rfl (Nat.le_refl _) (by omega), (Below.refl _ _).alloc (Nat.le_refl _) _⟩
  by_cases h4 : 55296 ≤ r ∧ r ≤ 57343
  · have hf : fixR r = 65533 := by unfold fixR; rw [if_pos (by omega)]
    rw [hf]
    obtain ⟨h41, h42⟩ := h4
    clear hf b63
    go_enter Try.func50, Try.ntmps50
    go_wp2
    go_ret
    exact ⟨_, rfl, Own.lit _ _ _ _ 3 rfl (Nat.le_refl _) (by omega), (Below.refl _ _).alloc (Nat.le_refl _) _⟩
  have hf : fixR r = r := by unfold fixR; rw [if_neg (by omega)]
  rw [hf]
  clear hf
  by_cases h5 : r < 128
  · have he : (encR r).map u8V = [.int .u8 r] := by unfold encR; rw [if_pos h5]; simp [u8V_mk (show 0 ≤ r by omega) (show r ≤ 255 by omega)]
    have HE := Lib.hid he
    clear he b63
    go_enter Try.func50, Try.ntmps50
    go_wp2
    go_ret
    exact ⟨_, rfl, lit_end 1 (by rw [HE.out]) rfl (by decide), (Below.refl _ _).alloc (Nat.le_refl _) _⟩
  by_cases h6 : r < 2048
  · have he : (encR r).map u8V = [.int .u8 (192 + r / 64), .int .u8 (128 + r % 64)] := by unfold encR; rw [if_neg h5, if_pos h6]; simp [u8V_mk (show 0 ≤ 192 + r / 64 by omega) (by omega), u8V_mk (show 0 ≤ 128 + r % 64 by omega) (by omega)]
    have HE := Lib.hid he
    have p1 : bits .and .i32 (r) 63 = r % 64 := b63 _ (by omega) (by omega)
    have q2 : bits .or .i32 128 (r % 64) = 128 + r % 64 := i32_or 6 _ _ (by decide) (by decide) (by decide) (by omega) (by omega) (by omega)
    have q3 : bits .or .i32 192 (r / 64) = 192 + r / 64 := i32_or 5 _ _ (by decide) (by decide) (by decide) (by omega) (by omega) (by omega)
    clear he b63
    go_enter Try.func50, Try.ntmps50
    go_wp2
    go_ret
    exact ⟨_, rfl, lit_end 2 (by rw [HE.out]) rfl (by decide), (Below.refl _ _).alloc (Nat.le_refl _) _⟩
  by_cases h7 : r < 65536
  · have he : (encR r).map u8V = [.int .u8 (224 + r / 4096), .int .u8 (128 + r / 64 % 64), .int .u8 (128 + r % 64)] := by
      unfold encR; rw [if_neg h5, if_neg h6, if_pos h7]; simp [u8V_mk (show 0 ≤ 224 + r / 4096 by omega) (by omega), u8V_mk (show 0 ≤ 128 + r / 64 % 64 by omega) (by omega), u8V_mk (show 0 ≤ 128 + r % 64 by omega) (by omega)]
    have HE := Lib.hid he
    have p1 : bits .and .i32 (r) 63 = r % 64 := b63 _ (by omega) (by omega)
    have q2 : bits .or .i32 128 (r % 64) = 128 + r % 64 := i32_or 6 _ _ (by decide) (by decide) (by decide) (by omega) (by omega) (by omega)
    have p3 : bits .and .i32 (r / 64) 63 = r / 64 % 64 := b63 _ (by omega) (by omega)
    have q4 : bits .or .i32 128 (r / 64 % 64) = 128 + r / 64 % 64 := i32_or 6 _ _ (by decide) (by decide) (by decide) (by omega) (by omega) (by omega)
    have q5 : bits .or .i32 224 (r / 4096) = 224 + r / 4096 := i32_or 4 _ _ (by decide) (by decide) (by decide) (by omega) (by omega) (by omega)
    clear he b63
    by_cases h8 : 55296 ≤ r
    · have h9 : 57343 < r := by omega
      go_enter Try.func50, Try.ntmps50
      go_wp2
      go_ret
      exact ⟨_, rfl, lit_end 3 (by rw [HE.out]) rfl (by decide), (Below.refl _ _).alloc (Nat.le_refl _) _⟩
    · have h9 : r < 55296 := by omega
      go_enter Try.func50, Try.ntmps50
      go_wp2
      go_ret
      exact ⟨_, rfl, lit_end 3 (by rw [HE.out]) rfl (by decide), (Below.refl _ _).alloc (Nat.le_refl _) _⟩
  · have he : (encR r).map u8V = [.int .u8 (240 + r / 262144), .int .u8 (128 + r / 4096 % 64), .int .u8 (128 + r / 64 % 64), .int .u8 (128 + r % 64)] := by
      unfold encR; rw [if_neg h5, if_neg h6, if_neg h7]; simp [u8V_mk (show 0 ≤ 240 + r / 262144 by omega) (by omega), u8V_mk (show 0 ≤ 128 + r / 4096 % 64 by omega) (by omega), u8V_mk (show 0 ≤ 128 + r / 64 % 64 by omega) (by omega), u8V_mk (show 0 ≤ 128 + r % 64 by omega) (by omega)]
    have HE := Lib.hid he
    have p1 : bits .and .i32 (r) 63 = r % 64 := b63 _ (by omega) (by omega)
    have q2 : bits .or .i32 128 (r % 64) = 128 + r % 64 := i32_or 6 _ _ (by decide) (by decide) (by decide) (by omega) (by omega) (by omega)
    have p3 : bits .and .i32 (r / 64) 63 = r / 64 % 64 := b63 _ (by omega) (by omega)
    have q4 : bits .or .i32 128 (r / 64 % 64) = 128 + r / 64 % 64 := i32_or 6 _ _ (by decide) (by decide) (by decide) (by omega) (by omega) (by omega)
    have p5 : bits .and .i32 (r / 4096) 63 = r / 4096 % 64 := b63 _ (by omega) (by omega)
    have q6 : bits .or .i32 128 (r / 4096 % 64) = 128 + r / 4096 % 64 := i32_or 6 _ _ (by decide) (by decide) (by decide) (by omega) (by omega) (by omega)
    have q7 : bits .or .i32 240 (r / 262144) = 240 + r / 262144 := i32_or 3 _ _ (by decide) (by decide) (by decide) (by omega) (by omega) (by omega)
    clear he b63
    have h9 : 57343 < r := by omega
    go_enter Try.func50, Try.ntmps50
    go_wp2
    go_ret
    exact ⟨_, rfl, lit_end 4 (by rw [HE.out]) rfl (by decide), (Below.refl _ _).alloc (Nat.le_refl _) _⟩
end Go.Proofs.Ytncfmmpdlcnboaa
