import Derived.Laws.AppendOwnNone
import Derived.Laws.BytesArg
import Derived.Lib.SlBytesConst
import Derived.IntWalk
import Derived.Laws.CopyRow
import Derived.Laws.IdiomCopy
import Derived.Laws.Rows
import Derived.Laws.Tables
import Derived.Laws.ResultCell
import Derived.Test.YthgchelpfacgmaaDoorSb7
import Derived.Test.YthgchelpfacgmaaDoorSb8
set_option linter.unusedVariables false
set_option linter.unusedSimpArgs false
namespace Go.Proofs.YthgchelpfacgmaaDoor
open Go.RowKit
section
def ElemOk (P : Program) (t e : TypeId) (z : Value) (bytes : Nat) : Prop :=
  P.underlying t = some (.slice e) ∧ ∃ i : TypeInfo, P.info? e = some i ∧ i.zero = some z ∧ i.size = 1 ∧ i.bytes = bytes ∧ z.cells.size = 1
def Own (w : World) (B : Nat) (e : TypeId) (v : Value) (xs : List Value) : Prop := w.ownsRow B e 1 v xs.length xs
theorem Own.nil (w : World) (B : Nat) (e : TypeId) : Own w B e (.slice none 0 0) [] := World.ownsRow_nil w B e 1
theorem Own.kept {w w' : World} {B : Nat} {e : TypeId} {v : Value} {xs : List Value} {row : Option Nat} (h : Own w B e v xs) (hg : w.grownBy w' row) (hne : v.ownBlock = none ∨ v.ownBlock ≠ row) : Own w' B e v xs := World.ownsRow.kept h hg hne
theorem grownBy_trans {a b c : World} {row : Option Nat} (h : a.grownBy b row) (k : b.grownBy c row) : a.grownBy c row :=
  ⟨k.os.trans h.os, k.tape.trans h.tape, k.output.trans h.output, Nat.le_trans h.size k.size, fun i hi hr => (k.block i (Nat.lt_of_lt_of_le hi h.size) hr).trans (h.block i hi hr)⟩
theorem Own.base {w : World} {B B' : Nat} {e : TypeId} {v : Value} {xs : List Value} (h : Own w B e v xs) (hB : B' ≤ B) : Own w B' e v xs := by
  refine ⟨h.1, ?_⟩
  rcases h.2 with hn | ⟨g, cap, cur, hv, hg, r⟩
  · exact .inl hn
  · exact .inr ⟨g, cap, cur, hv, Nat.le_trans hB hg, r⟩
theorem Own.row {w : World} {B : Nat} {e : TypeId} {v : Value} {xs : List Value} (h : Own w B e v xs) : ∀ k, v.ownBlock = some k → B ≤ k ∧ k < w.heap.size := World.ownsRow.lt h
theorem Own.below {w w' : World} {B : Nat} {e : TypeId} {v : Value} {xs : List Value} (h : Own w B e v xs) (hw : Below w.heap.size w w') : Own w' B e v xs := by
  refine ⟨h.1, ?_⟩
  rcases h.2 with hn | ⟨g, cap, cur, hv, hg, hh, r⟩
  · exact .inl hn
  · exact .inr ⟨g, cap, cur, hv, hg, by rw [hw.block g (Array.getElem?_eq_some_iff.1 hh).1]; exact hh, r⟩
theorem Own.drew {w : World} {B : Nat} {e : TypeId} {v : Value} {xs : List Value} (h : Own w B e v xs) (n : Nat) : Own (w.drewN n) B e v xs := h
theorem Own.isSl {w : World} {B : Nat} {e : TypeId} {v : Value} {xs : List Value} (h : Own w B e v xs) {f : Nat → Value} (hf : ∀ i, i < xs.length → xs[i]? = some (f i)) : IsSl w v xs.length f := by
  have hh := h
  rcases h.2 with ⟨hv, hn⟩ | ⟨g, cap, cur, hv, hg, hb, hnc, hcm, hcs, ht⟩
  · exact ⟨none, 0, by rw [hv, hn], by omega, by unfold maxLen; omega, fun _ => rfl, fun h0 => by omega⟩
  · refine ⟨some ⟨g, 0, none⟩, cap, hv, hnc, hcm, (fun h => by cases h), fun h0 => ⟨g, 0, rfl, fun i hi => ?_⟩⟩
    have := World.ownsRow.cells hh (g := g) (by rw [hv]; rfl) i (f i) (hf i hi)
    rw [addr_add] at this
    simpa using this
theorem Own.is8 {w : World} {B : Nat} {v : Value} {l : List UInt8} {e : TypeId} (h : Own w B e v (l.map u8V)) : Is8 w v l := by
  have := h.isSl (f := u8At l) (by intro i hi; simp at hi; simp [u8At, byt, u8V, hi, List.getD])
  exact (by simpa using this : IsSl w v l.length (u8At l))
section
variable {P : Program} {ops : Array Oper} {rest : List Oper} {o : Oper} {a : Act} {Q : Exit → Act → World → Prop}
theorem wpList_met {w : World} (hw : Region.wanted o (yielded ops a.tmps) = true)
    (h : ∀ K : Act → World → Prop, (∀ a w, wpList P ops Q rest a w → K a w) → o.wp P a w K Q) : wpList P ops Q (o :: rest) a w :=
  wpList_step fun K hK => by simp only [hw, if_true]; exact h K hK
theorem wpList_appL (w : World) (hw : Region.wanted o (yielded ops a.tmps) = true) (s x : Operand) (t : TypeId) (ho : o.op = .call { callee := .builtin .append, args := #[s, x], argTypes := #[t, t] })
    (B : Nat) (e : TypeId) (z : Value) (bytes : Nat) (he : ElemOk P t e z bytes) (v : Value) (xs : List Value) (hs : a.eval s = v) (hown : Own w B e v xs)
    (cs : Array Value) (n c : Nat) (hx : a.eval x = .slice (some ⟨w.heap.size, 0, none⟩) n c) (hn : cs.toList.length = n) (h1 : ∀ u ∈ cs.toList, u.oneCell' = true)
    (hlen : (xs.length + n) * bytes ≤ 140737488355328) (hb : xs.length + n ≤ 9223372036854775807) (hB : B ≤ w.heap.size)
    (h : ∀ v' w', Own w' B e v' (xs ++ cs.toList) → w.grownBy w' v.ownBlock → wpList P ops Q rest (a.put o.dst v') w') : wpList P ops Q (o :: rest) a (w.alloc (.cells cs e)) := by
  obtain ⟨ht, i, hi, hz, hs1, hby, hzc⟩ := he
  refine wpList_met hw fun K hK => wp_append_own _ s x t ho B e i z 1 bytes ht hi hz hs1 hby hzc (by decide) v xs.length xs hs (World.ownsRow.alloc hown _) ⟨w.heap.size, 0, none⟩ n c cs.toList hx (by omega) ?_ h1 ?_ hlen ?_ ?_
  · intro j u hj
    have := cell_of_row (w.alloc (.cells cs e)) w.heap.size j cs e (0, 0) (heap_alloc_new w _)
    rw [addr_add, this]
    simpa using hj
  · unfold maxLen; omega
  · simp; omega
  · intro v' w' h2 h3 _
    refine hK _ _ (h v' w' ?_ (grownBy_trans (World.grownBy_alloc w _ _) h3))
    unfold Own
    rw [List.length_append, hn]
    exact h2
theorem wpList_make0 (w : World) (hw : Region.wanted o (yielded ops a.tmps) = true) (l c : Operand) (t : TypeId) (hop : o.op = Op.makeSlice t l c)
    (B : Nat) (e : TypeId) (z : Value) (bytes : Nat) (he : ElemOk P t e z bytes) (kl kc : IntKind) (C : Int) (n : Nat) (hl : a.eval l = .int kl 0) (hc : a.eval c = .int kc C) (hC : C = (n : Int))
    (b2 : bytes * n ≤ 281474976710656) (b3 : n ≤ 9223372036854775807) (hB : B ≤ w.heap.size)
    (h : ∀ w', Own w' B e (.slice (some ⟨w.heap.size, 0, none⟩) 0 n) [] → w.grownBy w' none → wpList P ops Q rest (a.put o.dst (.slice (some ⟨w.heap.size, 0, none⟩) 0 n)) w') : wpList P ops Q (o :: rest) a w := by
  obtain ⟨ht, i, hi, hz, hs1, hby, hzc⟩ := he
  refine wpList_met hw fun K hK' => ?_
  obtain ⟨w', hrun, r1, r2⟩ := run_make_own (P := P) w B t e i z 1 ht hi hz hs1 kl kc n (by rw [hby]; exact b2) (by unfold maxLen; omega) hB
  subst hC
  unfold Oper.wp
  simp [execOp, hop, hl, hc, hrun, Result.andThen]
  exact hK' _ _ (h w' r1 r2)
theorem run_toStr (w : World) (s d e : TypeId) (hs : P.underlying s = some (.slice e)) (he : P.underlying e = some (.int .u8)) (hd : P.underlying d = some .string) (v : Value) (l : List UInt8) (hv : Is8 w v l) :
    (convert s d v).run P w = .ok (.string ⟨l.toArray⟩) w := by
  obtain ⟨ad, cap, rfl, hc1, hc2, hc0, hc3⟩ := hv
  have hst : strOfNums (l.map fun b => (b.toNat : Int)) = ⟨l.toArray⟩ := by
    apply ByteArray.ext
    apply Array.ext'
    rw [strOfNums_data, List.map_map]
    show _ = l
    conv => rhs; rw [← List.map_id l]
    apply List.map_congr_left
    intro b _
    simp
  cases ad with
  | none =>
    have hcap := hc0 rfl
    subst hcap
    have hl : l = [] := List.eq_nil_of_length_eq_zero (by omega)
    subst hl
    rw [run_convert_bytes_nil (P := P) (w := w) s e hs he _ _ d hd]; rfl
  | some ad =>
    by_cases hl : 0 < l.length
    · obtain ⟨b, off, hab, hc⟩ := hc3 hl
      cases hab
      rw [run_convert_bytes_arg (P := P) (w := w) s e hs he b off l.length cap (l.map fun b => (b.toNat : Int)) (by simp) (fun i hi => by rw [hc i hi]; simp [u8At, byt, List.getD, hi]) d hd, hst]
    · have hl : l = [] := List.eq_nil_of_length_eq_zero (by omega)
      subst hl
      obtain ⟨b, off, spot⟩ := ad
      have hcl : (loadCells (⟨b, off, spot⟩ : Addr) 0).run P w = .ok #[] w := by simp [loadCells, loadCellsFrom]
      simp [convert, run_underlying hs, run_underlying he, run_underlying hd, Conv.bytesToString, hcl]
      rfl
theorem wpList_toStr (w : World) (hw : Region.wanted o (yielded ops a.tmps) = true) (s d : TypeId) (x : Operand) (hop : o.op = Op.convert s d x) (e : TypeId)
    (hs : P.underlying s = some (.slice e)) (he : P.underlying e = some (.int .u8)) (hd : P.underlying d = some .string) (v : Value) (hx : a.eval x = v) (l : List UInt8) (hv : Is8 w v l)
    (h : wpList P ops Q rest (a.put o.dst (.string ⟨l.toArray⟩)) w) : wpList P ops Q (o :: rest) a w := by
  refine wpList_met hw fun K hK => ?_
  have hrun := run_toStr (P := P) w s d e hs he hd v l hv
  unfold Oper.wp
  simp [execOp, hop, hx, hrun, Result.andThen]
  exact hK _ _ h
theorem Own.lit (w : World) (B : Nat) (e : TypeId) (cs : Array Value) (n : Nat) (hn : cs.toList.length = n) (hB : B ≤ w.heap.size) (hm : n ≤ 9223372036854775807) :
    Own (w.alloc (.cells cs e)) B e (.slice (some ⟨w.heap.size, 0, none⟩) n n) cs.toList := by
  subst hn
  exact ⟨by simp, .inr ⟨w.heap.size, _, cs, rfl, hB, heap_alloc_new w _, Nat.le_refl _, by unfold maxLen; omega, by simp, by simp; exact List.take_of_length_le (by simp)⟩⟩
end
end
theorem str_at (l : List UInt8) (i : Nat) (h : i < (⟨l.toArray⟩ : ByteArray).size) : (((⟨l.toArray⟩ : ByteArray)[i]'h).toNat : Int) = byt l i := by
  have hi : i < l.length := by simpa [ByteArray.size] using h
  unfold byt
  have e : (⟨l.toArray⟩ : ByteArray)[i]'h = l[i] := by
    show (l.toArray)[i]'_ = _
    simp
  rw [e]; simp [List.getD, hi]
theorem str_extract (l : List UInt8) (a b : Nat) : (⟨l.toArray⟩ : ByteArray).extract a b = ⟨((l.take b).drop a).toArray⟩ := by
  apply ByteArray.ext
  simp [ByteArray.data_extract, List.extract_eq_take_drop, List.drop_take]
theorem str_loop (l : List UInt8) : ∀ (n i : Nat) (r : List UInt8), l.length - i = n → i ≤ l.length → ByteArray.toList.loop ⟨l.toArray⟩ i r = r.reverse ++ l.drop i := by
  intro n
  induction n with
  | zero =>
    intro i r h1 h2
    rw [ByteArray.toList.loop, if_neg (by simp [ByteArray.size]; omega), List.drop_of_length_le (by omega), List.append_nil]
  | succ n ih =>
    intro i r h1 h2
    have hi : i < l.length := by omega
    rw [ByteArray.toList.loop, if_pos (by simp [ByteArray.size]; omega), ih (i + 1) _ (by omega) (by omega), List.drop_eq_getElem_cons hi]
    have e : (⟨l.toArray⟩ : ByteArray).get! i = l[i] := by
      show (l.toArray)[i]! = _
      simp [hi]
    rw [e]; simp
theorem str_toList (l : List UInt8) : (⟨l.toArray⟩ : ByteArray).toList = l := by
  unfold ByteArray.toList
  rw [str_loop l l.length 0 [] (by omega) (by omega)]; rfl
theorem str_size (l : List UInt8) : (⟨l.toArray⟩ : ByteArray).size = l.length := by simp [ByteArray.size]
theorem str_append (a b : List UInt8) : (⟨a.toArray⟩ : ByteArray) ++ ⟨b.toArray⟩ = ⟨(a ++ b).toArray⟩ := by
  apply ByteArray.ext; simp
attribute [simp, go_sem] str_at str_extract str_toList str_size str_append
theorem ok8 : ElemOk Tryd.prog 31 5 (.int .u8 0) 1 := by
  obtain ⟨i, h1, h2, h3, h4⟩ := info_parts (P := Tryd.prog) (e := 5) (z := .int .u8 0) (size := 1) (bytes := 1) (by kernel_rfl)
  exact ⟨Tryd.underlying31, i, h1, h2, h3, h4, rfl⟩
def strV (l : List UInt8) : Value := .string ⟨l.toArray⟩
def strAt (ls : List (List UInt8)) (i : Nat) : Value := strV (ls.getD i [])
def IsStr (w : World) (v : Value) (ls : List (List UInt8)) : Prop := IsSl w v ls.length (strAt ls)
theorem IsStr.drew {w : World} {v : Value} {ls : List (List UInt8)} (h : IsStr w v ls) (k : Nat) : IsStr (w.drewN k) v ls := h
theorem IsStr.below {w w' : World} {v : Value} {ls : List (List UInt8)} (h : IsStr w v ls) (hw : Below w.heap.size w w') : IsStr w' v ls := IsSl.below h hw
theorem ret_n {a b : Int} (h : a = b) : Ending.returned (.int .i64 a) = .returned (.int .i64 b) := by rw [h]
set_option maxHeartbeats 1000000 in
theorem hex_any (c : Int) (w : World) (h0 : 0 ≤ c) (h1 : c ≤ 255) :
    Calls Tryd.prog 19 #[.int .u8 c] w fun e w' => e = .returned (.int .i64 (hexN c)) ∧ w = w' := by
  have HX : Hid (hexN c = if 48 ≤ c ∧ c ≤ 57 then c - 48 else if 97 ≤ c ∧ c ≤ 102 then c - 87 else if 65 ≤ c ∧ c ≤ 70 then c - 55 else -1) := Lib.hid rfl
  by_cases a : 48 ≤ c <;> by_cases b : c ≤ 57 <;> by_cases d : 97 ≤ c <;> by_cases e : c ≤ 102 <;> by_cases f : 65 ≤ c <;> by_cases g : c ≤ 70
  all_goals first
    | (exfalso; omega)
    | (go_enter Tryd.func19, Tryd.ntmps19
       go_wp2
       go_ret
       refine ⟨ret_n ?_, by trivial⟩
       rw [HX.out]
       (repeat' split) <;> first | rfl | omega)
theorem retB {c c' : Bool} (h3 : c = c') : Ending.returned (.bool c) = .returned (.bool c') := by rw [h3]
set_option maxHeartbeats 1000000 in
theorem hasSuf_any (l : List UInt8) (w : World) (hm : l.length ≤ 1000000) :
    Calls Tryd.prog 43 #[.string ⟨l.toArray⟩, .string ⟨#[46]⟩] w fun e w' => e = .returned (.bool (decide (0 < l.length ∧ byt l (l.length - 1) = 46))) ∧ w = w' := by
  by_cases h0 : l.length = 0
  · have HE : Hid (decide (0 < l.length ∧ byt l (l.length - 1) = 46) = false) := Lib.hid (by rw [decide_eq_false_iff_not]; omega)
    rw [HE.out]
    obtain rfl : l = [] := List.eq_nil_of_length_eq_zero h0
    clear h0 hm
    go_enter Tryd.func43, Tryd.ntmps43
    go_wp2_with fail
    go_ret
    exact ⟨rfl, by trivial⟩
  · obtain ⟨k, hk⟩ : ∃ k, l.length = k + 1 := ⟨l.length - 1, by omega⟩
    have hd : l.drop k = [l.getD k 0] := by
      rw [List.drop_eq_getElem_cons (show k < l.length by omega), List.drop_eq_nil_of_le (by omega)]
      simp [List.getD, show k < l.length by omega]
    have e : byt l k = ((l.getD k 0).toNat : Int) := rfl
    have HE : Hid (decide (0 < l.length ∧ byt l (l.length - 1) = 46) = (l.drop k == [46])) := Lib.hid (by
      rw [hd, hk, show k + 1 - 1 = k from rfl, e]
      generalize l.getD k 0 = b
      by_cases hb : b = 46
      · subst hb; simp
      · have : (b.toNat : Int) ≠ 46 := fun h => hb (by apply UInt8.toNat_inj.1; show b.toNat = 46; omega)
        simp [hb, this])
    have HL := Lib.hid hk
    rw [HE.out]
    have c1 : (1 : Int) ≤ (l.length : Int) := by omega
    have c2 : IntKind.i64.wrap ((l.length : Int) - 1) = (k : Int) := by rw [IntWalk.i64_in _ (by omega)]; omega
    have c3 : (l.length : Int) - 1 = (k : Int) := by omega
    have c4 : k ≤ l.length := by omega
    clear hd e h0 hk HE
    go_enter Tryd.func43, Tryd.ntmps43
    go_wp2_with fail
    go_ret
    exact ⟨by first | rfl | (simp; done), by trivial⟩
set_option maxHeartbeats 1000000 in
theorem trimS_any (l : List UInt8) (w : World) (hm : l.length ≤ 1000000) :
    Calls Tryd.prog 41 #[.string ⟨l.toArray⟩, .string ⟨#[46]⟩] w fun e w' => e = .returned (.string ⟨(trimL l).toArray⟩) ∧ w = w' := by
  have HS := Lib.hid (hasSuf_any l · hm)
  by_cases h : 0 < l.length ∧ byt l (l.length - 1) = 46
  · have HE : Hid (trimL l = l.take (l.length - 1)) := Lib.hid (by unfold trimL; rw [if_pos h])
    rw [HE.out]
    rw [decide_eq_true h] at HS
    obtain ⟨h1, -⟩ := h
    obtain ⟨k, hk⟩ : ∃ k, l.length = k + 1 := ⟨l.length - 1, by omega⟩
    have c2 : IntKind.i64.wrap ((l.length : Int) - 1) = (k : Int) := by rw [IntWalk.i64_in _ (by omega)]; omega
    have c3 : (l.length : Int) - 1 = (k : Int) := by omega
    have c4 : k ≤ l.length := by omega
    rw [show l.length - 1 = k by omega]
    clear HE hk
    go_enter Tryd.func41, Tryd.ntmps41
    go_wp2_with fail
    refine (HS.out _).mono ?_
    rintro e w' ⟨rfl, rfl⟩
    go_wp2_with fail
    go_ret
    exact ⟨by first | rfl | (simp; done), by trivial⟩
  · have HE : Hid (trimL l = l) := Lib.hid (by unfold trimL; rw [if_neg h])
    rw [HE.out]
    rw [decide_eq_false h] at HS
    clear h
    go_enter Tryd.func41, Tryd.ntmps41
    go_wp2_with fail
    refine (HS.out _).mono ?_
    rintro e w' ⟨rfl, rfl⟩
    go_wp2_with fail
    go_ret
    exact ⟨rfl, by trivial⟩
theorem trim_any (l : List UInt8) (w : World) (hm : l.length ≤ 1000000) :
    Calls Tryd.prog 27 #[.string ⟨l.toArray⟩] w fun e w' => e = .returned (.string ⟨(trimL l).toArray⟩) ∧ w = w' := by
  have HS := Lib.hid (trimS_any l · hm)
  have HT : Hid (∀ w, Calls Tryd.prog 35 #[.string ⟨l.toArray⟩, .string ⟨#[46]⟩] w fun e w' => e = .returned (.string ⟨(trimL l).toArray⟩) ∧ w = w') := Lib.hid (fun w => by
    go_enter Tryd.func35, Tryd.ntmps35
    go_wp2_with fail
    refine (HS.out _).mono ?_
    rintro e w' ⟨rfl, rfl⟩
    go_wp2_with fail
    go_ret
    exact ⟨rfl, by trivial⟩)
  go_enter Tryd.func27, Tryd.ntmps27
  go_wp2_with fail
  refine (HT.out _).mono ?_
  rintro e w' ⟨rfl, rfl⟩
  go_wp2_with fail
  go_ret
  exact ⟨rfl, by trivial⟩
set_option maxHeartbeats 1000000 in
theorem hexRest_any (l : List UInt8) (w : World) (hm : l.length ≤ 1000000) :
    Calls Tryd.prog 37 #[.string ⟨l.toArray⟩] w fun e w' => e = .returned (.tuple #[.string ⟨(hexR l).toArray⟩, .bool (hexP l)]) ∧ w = w' := by
  have b0 := byt_lo l 0
  have b1 := byt_hi l 0
  have b2 := byt_lo l 1
  have b3 := byt_hi l 1
  by_cases h1 : 2 ≤ l.length
  · have c1 : (2 : Int) ≤ (l.length : Int) := by omega
    have c2 : 0 < l.length := by omega
    have c3 : 1 < l.length := by omega
    by_cases h2 : byt l 0 = 48
    · have e2 : (byt l 0 == 48) = true := by rw [beq_iff_eq]; exact h2
      by_cases h3 : byt l 1 = 120
      · have HP : Hid (hexP l = true) := Lib.hid (by unfold hexP; exact decide_eq_true ⟨h1, h2, .inl h3⟩)
        have HR : Hid (hexR l = l.drop 2) := Lib.hid (by unfold hexR; rw [if_pos HP.out])
        have e3 : (byt l 1 == 120) = true := by rw [beq_iff_eq]; exact h3
        rw [HP.out, HR.out]
        clear h2 h3
        go_enter Tryd.func37, Tryd.ntmps37
        go_wp2_with fail
        go_ret2
        exact ⟨by first | rfl | (simp; done), by trivial⟩
      · have e3 : (byt l 1 == 120) = false := by rw [beq_eq_false_iff_ne]; exact h3
        by_cases h4 : byt l 1 = 88
        · have HP : Hid (hexP l = true) := Lib.hid (by unfold hexP; exact decide_eq_true ⟨h1, h2, .inr h4⟩)
          have HR : Hid (hexR l = l.drop 2) := Lib.hid (by unfold hexR; rw [if_pos HP.out])
          have e4 : (byt l 1 == 88) = true := by rw [beq_iff_eq]; exact h4
          rw [HP.out, HR.out]
          clear h2 h3 h4
          go_enter Tryd.func37, Tryd.ntmps37
          go_wp2_with fail
          go_ret2
          exact ⟨by first | rfl | (simp; done), by trivial⟩
        · have HP : Hid (hexP l = false) := Lib.hid (by unfold hexP; rw [decide_eq_false_iff_not]; omega)
          have HR : Hid (hexR l = []) := Lib.hid (by unfold hexR; rw [if_neg (by rw [HP.out]; simp)])
          have e4 : (byt l 1 == 88) = false := by rw [beq_eq_false_iff_ne]; exact h4
          rw [HP.out, HR.out]
          clear h2 h3 h4
          go_enter Tryd.func37, Tryd.ntmps37
          go_wp2_with fail
          go_ret2
          exact ⟨by first | rfl | (simp; done), by trivial⟩
    · have e2 : (byt l 0 == 48) = false := by rw [beq_eq_false_iff_ne]; exact h2
      have HP : Hid (hexP l = false) := Lib.hid (by unfold hexP; rw [decide_eq_false_iff_not]; omega)
      have HR : Hid (hexR l = []) := Lib.hid (by unfold hexR; rw [if_neg (by rw [HP.out]; simp)])
      rw [HP.out, HR.out]
      clear h2
      go_enter Tryd.func37, Tryd.ntmps37
      go_wp2_with fail
      go_ret2
      exact ⟨by first | rfl | (simp; done), by trivial⟩
  · have HP : Hid (hexP l = false) := Lib.hid (by unfold hexP; rw [decide_eq_false_iff_not]; omega)
    have HR : Hid (hexR l = []) := Lib.hid (by unfold hexR; rw [if_neg (by rw [HP.out]; simp)])
    rw [HP.out, HR.out]
    have c1 : ¬ (2 : Int) ≤ (l.length : Int) := by omega
    go_enter Tryd.func37, Tryd.ntmps37
    go_wp2_with fail
    go_ret2
    exact ⟨by first | rfl | (simp; done), by trivial⟩
set_option maxHeartbeats 1000000 in
theorem only_any (l : List UInt8) (n : Int) (w : World) (hm : l.length ≤ 1000000) (hn : 0 ≤ n) (hn2 : n ≤ 100) :
    Calls Tryd.prog 38 #[.string ⟨l.toArray⟩, .int .i64 n] w fun e w' => e = .returned (.bool (onlyB n l)) ∧ w = w' := by
  have HS := Lib.hid (onlyB_step n l)
  go_enter Tryd.func38, Tryd.ntmps38
  go_wp2_with fail
  go_loopw [5, 6, 9] (fun t5 t6 ti wr => ∃ i : Nat, i ≤ l.length ∧ ti = .int .i64 i ∧ Hid (onlyB n l = onlyB n (l.drop i)) ∧ wr = w) (fun _ _ ti _ => l.length - (intOf ti).toNat)
  case atStart => exact ⟨0, by omega, rfl, Lib.hid rfl, rfl⟩
  case round =>
    obtain ⟨i, hi, rfl, HI, rfl⟩ := hrel
    by_cases hlt : i < l.length
    · have hltI : (i : Int) < (l.length : Int) := by omega
      have b0 := byt_lo l i
      have b1 := byt_hi l i
      obtain ⟨x0, x1⟩ := hexN_bd (byt l i)
      have HX := Lib.hid (hex_any (byt l i) · b0 b1)
      have HT := Lib.hid (HS.out i hlt)
      obtain ⟨x, hx⟩ : ∃ x, hexN (byt l i) = x := ⟨_, rfl⟩
      rw [hx] at x0 x1 HX HT
      clear hx
      by_cases h1 : x < 0
      · have H1 : Hid (onlyB n l = false) := Lib.hid (by rw [HI.out, HT.out, decide_eq_false (by omega)]; rfl)
        go_wp2_with fail
        refine (HX.out _).mono ?_
        rintro e w' ⟨rfl, rfl⟩
        go_wp2_with fail
        go_ret
        exact ⟨retB H1.out.symm, by trivial⟩
      · by_cases h2 : n ≤ x
        · have H1 : Hid (onlyB n l = false) := Lib.hid (by rw [HI.out, HT.out, decide_eq_false (by omega)]; rfl)
          go_wp2_with fail
          refine (HX.out _).mono ?_
          rintro e w' ⟨rfl, rfl⟩
          go_wp2_with fail
          go_ret
          exact ⟨retB H1.out.symm, by trivial⟩
        · have H1 : Hid (onlyB n l = onlyB n (l.drop (i + 1))) := Lib.hid (by rw [HI.out, HT.out, decide_eq_true (by omega)]; rfl)
          go_wp2_with fail
          refine (HX.out _).mono ?_
          rintro e w' ⟨rfl, rfl⟩
          go_wp2_with fail
          exact ⟨⟨i + 1, by omega, by go_num, H1, by trivial⟩, by simp [intOf]; omega⟩
    · obtain rfl : i = l.length := by omega
      have H1 : Hid (onlyB n l = true) := Lib.hid (by rw [HI.out, List.drop_length]; rfl)
      go_wp2_with fail
      go_ret
      exact ⟨retB H1.out.symm, by trivial⟩
section
def Box (w : World) (g : Nat) (t : TypeId) (cs : List Value) : Prop := w.heap[g]? = some (.cells cs.toArray t (0, 0))
section
variable {w w' : World} {g : Nat} {t : TypeId} {cs : List Value}
theorem Box.lt (h : Box w g t cs) : g < w.heap.size := (Array.getElem?_eq_some_iff.1 h).1
theorem Box.cell (h : Box w g t cs) (i : Nat) : w.cell? ⟨g, i, none⟩ = cs[i]? := by
  rw [cell_of_row w g i cs.toArray t (0, 0) h]; simp
theorem Box.drew (h : Box w g t cs) (n : Nat) : Box (w.drewN n) g t cs := h
theorem Box.grown {row : Option Nat} (h : Box w g t cs) (hg : w.grownBy w' row) (hr : row ≠ some g) : Box w' g t cs := by
  unfold Box; rw [hg.block g h.lt (fun e => hr e.symm)]; exact h
theorem Box.below {B : Nat} (h : Box w g t cs) (hb : Below B w w') (hB : g < B) : Box w' g t cs := by
  unfold Box; rw [hb.block g hB]; exact h
theorem Box.new (w : World) (t : TypeId) (cs : List Value) : Box (w.alloc (.cells cs.toArray t)) w.heap.size t cs := heap_alloc_new w _
theorem Box.alloc (h : Box w g t cs) (o : Obj) : Box (w.alloc o) g t cs := h.grown (World.grownBy_alloc w o none) (by simp)
theorem Box.set (h : Box w g t cs) (i : Nat) (hi : i < cs.length) (v : Value) : Box (w.setCell ⟨g, i, none⟩ v) g t (cs.set i v) := by
  have h2 : w.heap[g]? = some (.cells cs.toArray t (0, 0)) := h
  unfold Box
  rw [heap_setCell_same w g i cs.toArray t v h2]
  simp
end
end
section
theorem hsz_alloc (w : World) (o : Obj) : (w.alloc o).heap.size = w.heap.size + 1 := Array.size_push ..
theorem setRow_box {w : World} {g g' : Nat} {t : TypeId} {cs : List Value} (h : Box w g t cs) (cs' : Array Value) (hne : g ≠ g') : Box (w.setRow g' cs') g t cs := by
  unfold Box World.setRow at *
  rw [Array.getElem?_modify, if_neg (fun e => hne e.symm)]; exact h
theorem setRow_box_self {w : World} {g : Nat} {t : TypeId} {cs : List Value} (h : Box w g t cs) (cs' : List Value) : Box (w.setRow g cs'.toArray) g t cs' := by
  unfold Box World.setRow at *
  rw [Array.getElem?_modify, if_pos rfl, h]; rfl
theorem setRow_below {w w' : World} {B g : Nat} (h : Below B w w') (cs : Array Value) (hg : B ≤ g) : Below B w (w'.setRow g cs) := by
  refine ⟨h.os, h.tape, h.output, ?_, ?_⟩
  · have := h.size
    show _ ≤ (w'.heap.modify g _).size
    simpa using this
  · intro k hk
    show (w'.heap.modify g _)[k]? = _
    rw [Array.getElem?_modify, if_neg (by omega)]
    exact h.block k hk
section
variable {P : Program} {ops : Array Oper} {rest : List Oper} {o : Oper} {a : Act} {Q : Exit → Act → World → Prop}
theorem wpList_loadRow {w : World} (hw : Region.wanted o (yielded ops a.tmps) = true) (t : TypeId) (x : Operand) (hop : o.op = .load t x) (g : Nat) (cs : List Value) (hx : a.eval x = .pointer (some ⟨g, 0, none⟩))
    (n : Nat) (e : TypeId) (hu : P.underlying t = some (.array n e)) (hi : (P.info? t).map (·.size) = some cs.length) (hb : Box w g t cs)
    (h : wpList P ops Q rest (a.put o.dst (.agg cs.toArray)) w) : wpList P ops Q (o :: rest) a w := by
  refine wpList_met hw fun K hK => ?_
  have hrun := run_loadVar_row (P := P) w g t t cs.toArray (0, 0) _ hb hu rfl (by simpa using hi)
  unfold Oper.wp
  simp [execOp, hop, hx, Instr.loadAt, Instr.sureAddr, hrun, Result.andThen]
  exact hK _ _ h
theorem wpList_storeRow {w : World} (hw : Region.wanted o (yielded ops a.tmps) = true) (t : TypeId) (x y : Operand) (hop : o.op = .store t x y) (hd : o.dst = none) (g : Nat) (cs cs' : List Value) (hx : a.eval x = .pointer (some ⟨g, 0, none⟩))
    (hy : a.eval y = .agg cs'.toArray) (hi : (P.info? t).map (·.size) = some cs'.length) (hb : Box w g t cs) (ho : cs.length = cs'.length) (h1 : ∀ v ∈ cs', v.oneCell' = true)
    (h : wpList P ops Q rest a (w.setRow g cs'.toArray)) : wpList P ops Q (o :: rest) a w := by
  refine wpList_met hw fun K hK => ?_
  have hrun := run_storeVar_row (P := P) w g t t cs.toArray cs'.toArray hb (by simpa using hi) (by simpa using ho) (by simpa using h1)
  unfold Oper.wp
  simp [execOp, hop, hx, hy, Instr.storeAt, Instr.sureAddr, hrun, Result.andThen]
  exact hK _ _ (by rw [hd]; exact h)
end
end
end Go.Proofs.YthgchelpfacgmaaDoor
