import Derived.Laws.AppendOwnNone
import Derived.Laws.BytesArg
import Derived.Lib.SlBytesConst
import Derived.IntWalk
import Derived.Laws.CopyRow
import Derived.Laws.IdiomCopy
import Derived.Laws.Rows
import Derived.Laws.Tables
import Derived.Laws.ResultCell
import Derived.Test.YtaphadmcjimmeaaDoorHb8
import Derived.Test.YtaphadmcjimmeaaDoorHb9
set_option linter.unusedVariables false
set_option linter.unusedSimpArgs false
namespace Go.Proofs.YtaphadmcjimmeaaDoor
open Go.RowKit
section
def ElemOk (P : Program) (t e : TypeId) (z : Value) (bytes : Nat) : Prop :=
  P.underlying t = some (.slice e) ∧ ∃ i : TypeInfo, P.info? e = some i ∧ i.zero = some z ∧ i.size = 1 ∧ i.bytes = bytes ∧ z.cells.size = 1
def Own (w : World) (B : Nat) (e : TypeId) (v : Value) (xs : List Value) : Prop := w.ownsRow B e 1 v xs.length xs
theorem grownBy_trans {a b c : World} {row : Option Nat} (h : a.grownBy b row) (k : b.grownBy c row) : a.grownBy c row :=
  ⟨k.os.trans h.os, k.tape.trans h.tape, k.output.trans h.output, Nat.le_trans h.size k.size, fun i hi hr => (k.block i (Nat.lt_of_lt_of_le hi h.size) hr).trans (h.block i hi hr)⟩
theorem Own.row {w : World} {B : Nat} {e : TypeId} {v : Value} {xs : List Value} (h : Own w B e v xs) : ∀ k, v.ownBlock = some k → B ≤ k ∧ k < w.heap.size := World.ownsRow.lt h
theorem Own.below {w w' : World} {B : Nat} {e : TypeId} {v : Value} {xs : List Value} (h : Own w B e v xs) (hw : Below w.heap.size w w') : Own w' B e v xs := by
  refine ⟨h.1, ?_⟩
  rcases h.2 with hn | ⟨g, cap, cur, hv, hg, hh, r⟩
  · exact .inl hn
  · exact .inr ⟨g, cap, cur, hv, hg, by rw [hw.block g (Array.getElem?_eq_some_iff.1 hh).1]; exact hh, r⟩
theorem Own.drew {w : World} {B : Nat} {e : TypeId} {v : Value} {xs : List Value} (h : Own w B e v xs) (n : Nat) : Own (w.drewN n) B e v xs := h
theorem Own.isSl {w : World} {B : Nat} {e : TypeId} {v : Value} {xs : List Value} (h : Own w B e v xs) {f : Nat → Value} (hf : ∀ i, i < xs.length → xs[i]? = some (f i)) : IsSl w v xs.length f := by
  have hh := h
  rcases h.2 with ⟨hv, hn⟩ | ⟨g, cap, cur, hv, hg, hb, hnc, hcm, hcs, ht⟩
  · exact ⟨none, 0, by rw [hv, hn], by omega, by unfold maxLen; omega, fun _ => rfl, fun h0 => by omega⟩
  · refine ⟨some ⟨g, 0, none⟩, cap, hv, hnc, hcm, (fun h => by cases h), fun h0 => ⟨g, 0, rfl, fun i hi => ?_⟩⟩
    have := World.ownsRow.cells hh (g := g) (by rw [hv]; rfl) i (f i) (hf i hi)
    rw [addr_add] at this
    simpa using this
theorem Own.is8 {w : World} {B : Nat} {v : Value} {l : List UInt8} {e : TypeId} (h : Own w B e v (l.map u8V)) : Is8 w v l := by
  have := h.isSl (f := u8At l) (by intro i hi; simp at hi; simp [u8At, byt, u8V, hi, List.getD])
  exact (by simpa using this : IsSl w v l.length (u8At l))
theorem Own.is32 {w : World} {B : Nat} {v : Value} {l : List Int} {e : TypeId} (h : Own w B e v (l.map (Value.int .i32))) : Is32 w v l := by
  have := h.isSl (f := i32At l) (by intro i hi; simp at hi; simp [i32At, hi, List.getD])
  exact (by simpa using this : IsSl w v l.length (i32At l))
section
variable {P : Program} {ops : Array Oper} {rest : List Oper} {o : Oper} {a : Act} {Q : Exit → Act → World → Prop}
theorem wpList_met {w : World} (hw : Region.wanted o (yielded ops a.tmps) = true)
    (h : ∀ K : Act → World → Prop, (∀ a w, wpList P ops Q rest a w → K a w) → o.wp P a w K Q) : wpList P ops Q (o :: rest) a w :=
  wpList_step fun K hK => by simp only [hw, if_true]; exact h K hK
theorem wpList_appL (w : World) (hw : Region.wanted o (yielded ops a.tmps) = true) (s x : Operand) (t : TypeId) (ho : o.op = .call { callee := .builtin .append, args := #[s, x], argTypes := #[t, t] })
    (B : Nat) (e : TypeId) (z : Value) (bytes : Nat) (he : ElemOk P t e z bytes) (v : Value) (xs : List Value) (hs : a.eval s = v) (hown : Own w B e v xs)
    (cs : Array Value) (n c : Nat) (hx : a.eval x = .slice (some ⟨w.heap.size, 0, none⟩) n c) (hn : cs.toList.length = n) (h1 : ∀ u ∈ cs.toList, u.oneCell' = true)
    (hlen : (xs.length + n) * bytes ≤ 140737488355328) (hb : xs.length + n ≤ 9223372036854775807) (hB : B ≤ w.heap.size)
    (h : ∀ v' w', Own w' B e v' (xs ++ cs.toList) → w.grownBy w' v.ownBlock → wpList P ops Q rest (a.put o.dst v') w') : wpList P ops Q (o :: rest) a (w.alloc (.cells cs e)) := by
  obtain ⟨ht, i, hi, hz, hs1, hby, hzc⟩ := he
  refine wpList_met hw fun K hK => wp_append_own _ s x t ho B e i z 1 bytes ht hi hz hs1 hby hzc (by decide) v xs.length xs hs (World.ownsRow.alloc hown _) ⟨w.heap.size, 0, none⟩ n c cs.toList hx (by omega) ?_ h1 ?_ hlen ?_ ?_
  · intro j u hj
    have := cell_of_row (w.alloc (.cells cs e)) w.heap.size j cs e (0, 0) (heap_alloc_new w _)
    rw [addr_add, this]
    simpa using hj
  · unfold maxLen; omega
  · simp; omega
  · intro v' w' h2 h3 _
    refine hK _ _ (h v' w' ?_ (grownBy_trans (World.grownBy_alloc w _ _) h3))
    unfold Own
    rw [List.length_append, hn]
    exact h2
theorem wpList_make0 (w : World) (hw : Region.wanted o (yielded ops a.tmps) = true) (l c : Operand) (t : TypeId) (hop : o.op = Op.makeSlice t l c)
    (B : Nat) (e : TypeId) (z : Value) (bytes : Nat) (he : ElemOk P t e z bytes) (kl kc : IntKind) (C : Int) (n : Nat) (hl : a.eval l = .int kl 0) (hc : a.eval c = .int kc C) (hC : C = (n : Int))
    (b2 : bytes * n ≤ 281474976710656) (b3 : n ≤ 9223372036854775807) (hB : B ≤ w.heap.size)
    (h : ∀ w', Own w' B e (.slice (some ⟨w.heap.size, 0, none⟩) 0 n) [] → w.grownBy w' none → wpList P ops Q rest (a.put o.dst (.slice (some ⟨w.heap.size, 0, none⟩) 0 n)) w') : wpList P ops Q (o :: rest) a w := by
  obtain ⟨ht, i, hi, hz, hs1, hby, hzc⟩ := he
  refine wpList_met hw fun K hK' => ?_
  obtain ⟨w', hrun, r1, r2⟩ := run_make_own (P := P) w B t e i z 1 ht hi hz hs1 kl kc n (by rw [hby]; exact b2) (by unfold maxLen; omega) hB
  subst hC
  unfold Oper.wp
  simp [execOp, hop, hl, hc, hrun, Result.andThen]
  exact hK' _ _ (h w' r1 r2)
theorem run_toStr (w : World) (s d e : TypeId) (hs : P.underlying s = some (.slice e)) (he : P.underlying e = some (.int .u8)) (hd : P.underlying d = some .string) (v : Value) (l : List UInt8) (hv : Is8 w v l) :
    (convert s d v).run P w = .ok (.string ⟨l.toArray⟩) w := by
  obtain ⟨ad, cap, rfl, hc1, hc2, hc0, hc3⟩ := hv
  have hst : strOfNums (l.map fun b => (b.toNat : Int)) = ⟨l.toArray⟩ := by
    apply ByteArray.ext
    apply Array.ext'
    rw [strOfNums_data, List.map_map]
    show _ = l
    conv => rhs; rw [← List.map_id l]
    apply List.map_congr_left
    intro b _
    simp
  cases ad with
  | none =>
    have hcap := hc0 rfl
    subst hcap
    have hl : l = [] := List.eq_nil_of_length_eq_zero (by omega)
    subst hl
    rw [run_convert_bytes_nil (P := P) (w := w) s e hs he _ _ d hd]; rfl
  | some ad =>
    by_cases hl : 0 < l.length
    · obtain ⟨b, off, hab, hc⟩ := hc3 hl
      cases hab
      rw [run_convert_bytes_arg (P := P) (w := w) s e hs he b off l.length cap (l.map fun b => (b.toNat : Int)) (by simp) (fun i hi => by rw [hc i hi]; simp [u8At, byt, List.getD, hi]) d hd, hst]
    · have hl : l = [] := List.eq_nil_of_length_eq_zero (by omega)
      subst hl
      obtain ⟨b, off, spot⟩ := ad
      have hcl : (loadCells (⟨b, off, spot⟩ : Addr) 0).run P w = .ok #[] w := by simp [loadCells, loadCellsFrom]
      simp [convert, run_underlying hs, run_underlying he, run_underlying hd, Conv.bytesToString, hcl]
      rfl
theorem wpList_toStr (w : World) (hw : Region.wanted o (yielded ops a.tmps) = true) (s d : TypeId) (x : Operand) (hop : o.op = Op.convert s d x) (e : TypeId)
    (hs : P.underlying s = some (.slice e)) (he : P.underlying e = some (.int .u8)) (hd : P.underlying d = some .string) (v : Value) (hx : a.eval x = v) (l : List UInt8) (hv : Is8 w v l)
    (h : wpList P ops Q rest (a.put o.dst (.string ⟨l.toArray⟩)) w) : wpList P ops Q (o :: rest) a w := by
  refine wpList_met hw fun K hK => ?_
  have hrun := run_toStr (P := P) w s d e hs he hd v l hv
  unfold Oper.wp
  simp [execOp, hop, hx, hrun, Result.andThen]
  exact hK _ _ h
end
end
theorem str_at (l : List UInt8) (i : Nat) (h : i < (⟨l.toArray⟩ : ByteArray).size) : (((⟨l.toArray⟩ : ByteArray)[i]'h).toNat : Int) = byt l i := by
  have hi : i < l.length := by simpa [ByteArray.size] using h
  unfold byt
  have e : (⟨l.toArray⟩ : ByteArray)[i]'h = l[i] := by
    show (l.toArray)[i]'_ = _
    simp
  rw [e]; simp [List.getD, hi]
theorem str_extract (l : List UInt8) (a b : Nat) : (⟨l.toArray⟩ : ByteArray).extract a b = ⟨((l.take b).drop a).toArray⟩ := by
  apply ByteArray.ext
  simp [ByteArray.data_extract, List.extract_eq_take_drop, List.drop_take]
theorem str_size (l : List UInt8) : (⟨l.toArray⟩ : ByteArray).size = l.length := by simp [ByteArray.size]
attribute [simp, go_sem] str_at str_extract str_size
theorem ok8 : ElemOk Tryd.prog 44 5 (.int .u8 0) 1 := by
  obtain ⟨i, h1, h2, h3, h4⟩ := info_parts (P := Tryd.prog) (e := 5) (z := .int .u8 0) (size := 1) (bytes := 1) (by kernel_rfl)
  exact ⟨Tryd.underlying44, i, h1, h2, h3, h4, rfl⟩
theorem ok32 : ElemOk Tryd.prog 81 21 (.int .i32 0) 4 := by
  obtain ⟨i, h1, h2, h3, h4⟩ := info_parts (P := Tryd.prog) (e := 21) (z := .int .i32 0) (size := 1) (bytes := 4) (by kernel_rfl)
  exact ⟨Tryd.underlying81, i, h1, h2, h3, h4, rfl⟩
theorem ret_b {a b : Bool} (h : a = b) : Ending.returned (.bool a) = .returned (.bool b) := by rw [h]
theorem ret_n {a b : Int} (h : a = b) : Ending.returned (.int .i64 a) = .returned (.int .i64 b) := by rw [h]
set_option maxHeartbeats 1000000 in
theorem hex_any (c : Int) (w : World) (h0 : 0 ≤ c) (h1 : c ≤ 255) :
    Calls Tryd.prog 36 #[.int .u8 c] w fun e w' => e = .returned (.int .i64 (hexN c)) ∧ w = w' := by
  have HX : Hid (hexN c = if 48 ≤ c ∧ c ≤ 57 then c - 48 else if 97 ≤ c ∧ c ≤ 102 then c - 87 else if 65 ≤ c ∧ c ≤ 70 then c - 55 else -1) := Lib.hid rfl
  by_cases a : 48 ≤ c <;> by_cases b : c ≤ 57 <;> by_cases d : 97 ≤ c <;> by_cases e : c ≤ 102 <;> by_cases f : 65 ≤ c <;> by_cases g : c ≤ 70
  all_goals first
    | (exfalso; omega)
    | (go_enter Tryd.func36, Tryd.ntmps36
       go_wp2
       go_ret
       refine ⟨ret_n ?_, by trivial⟩
       rw [HX.out]
       (repeat' split) <;> first | rfl | omega)
theorem retB {c c' : Bool} (h3 : c = c') : Ending.returned (.bool c) = .returned (.bool c') := by rw [h3]
set_option maxHeartbeats 1000000 in
theorem hasSuf_any (l : List UInt8) (w : World) (hm : l.length ≤ 1000000) :
    Calls Tryd.prog 55 #[.string ⟨l.toArray⟩, .string ⟨#[46]⟩] w fun e w' => e = .returned (.bool (decide (0 < l.length ∧ byt l (l.length - 1) = 46))) ∧ w = w' := by
  by_cases h0 : l.length = 0
  · have HE : Hid (decide (0 < l.length ∧ byt l (l.length - 1) = 46) = false) := Lib.hid (by rw [decide_eq_false_iff_not]; omega)
    rw [HE.out]
    obtain rfl : l = [] := List.eq_nil_of_length_eq_zero h0
    clear h0 hm
    go_enter Tryd.func55, Tryd.ntmps55
    go_wp2_with fail
    go_ret
    exact ⟨rfl, by trivial⟩
  · obtain ⟨k, hk⟩ : ∃ k, l.length = k + 1 := ⟨l.length - 1, by omega⟩
    have hd : l.drop k = [l.getD k 0] := by
      rw [List.drop_eq_getElem_cons (show k < l.length by omega), List.drop_eq_nil_of_le (by omega)]
      simp [List.getD, show k < l.length by omega]
    have e : byt l k = ((l.getD k 0).toNat : Int) := rfl
    have HE : Hid (decide (0 < l.length ∧ byt l (l.length - 1) = 46) = (l.drop k == [46])) := Lib.hid (by
      rw [hd, hk, show k + 1 - 1 = k from rfl, e]
      generalize l.getD k 0 = b
      by_cases hb : b = 46
      · subst hb; simp
      · have : (b.toNat : Int) ≠ 46 := fun h => hb (by apply UInt8.toNat_inj.1; show b.toNat = 46; omega)
        simp [hb, this])
    have HL := Lib.hid hk
    rw [HE.out]
    have c1 : (1 : Int) ≤ (l.length : Int) := by omega
    have c2 : IntKind.i64.wrap ((l.length : Int) - 1) = (k : Int) := by rw [IntWalk.i64_in _ (by omega)]; omega
    have c3 : (l.length : Int) - 1 = (k : Int) := by omega
    have c4 : k ≤ l.length := by omega
    clear hd e h0 hk HE
    go_enter Tryd.func55, Tryd.ntmps55
    go_wp2_with fail
    go_ret
    exact ⟨by first | rfl | (simp; done), by trivial⟩
set_option maxHeartbeats 1000000 in
theorem trimS_any (l : List UInt8) (w : World) (hm : l.length ≤ 1000000) :
    Calls Tryd.prog 73 #[.string ⟨l.toArray⟩, .string ⟨#[46]⟩] w fun e w' => e = .returned (.string ⟨(trimL l).toArray⟩) ∧ w = w' := by
  have HS := Lib.hid (hasSuf_any l · hm)
  by_cases h : 0 < l.length ∧ byt l (l.length - 1) = 46
  · have HE : Hid (trimL l = l.take (l.length - 1)) := Lib.hid (by unfold trimL; rw [if_pos h])
    rw [HE.out]
    rw [decide_eq_true h] at HS
    obtain ⟨h1, -⟩ := h
    obtain ⟨k, hk⟩ : ∃ k, l.length = k + 1 := ⟨l.length - 1, by omega⟩
    have c2 : IntKind.i64.wrap ((l.length : Int) - 1) = (k : Int) := by rw [IntWalk.i64_in _ (by omega)]; omega
    have c3 : (l.length : Int) - 1 = (k : Int) := by omega
    have c4 : k ≤ l.length := by omega
    rw [show l.length - 1 = k by omega]
    clear HE hk
    go_enter Tryd.func73, Tryd.ntmps73
    go_wp2_with fail
    refine (HS.out _).mono ?_
    rintro e w' ⟨rfl, rfl⟩
    go_wp2_with fail
    go_ret
    exact ⟨by first | rfl | (simp; done), by trivial⟩
  · have HE : Hid (trimL l = l) := Lib.hid (by unfold trimL; rw [if_neg h])
    rw [HE.out]
    rw [decide_eq_false h] at HS
    clear h
    go_enter Tryd.func73, Tryd.ntmps73
    go_wp2_with fail
    refine (HS.out _).mono ?_
    rintro e w' ⟨rfl, rfl⟩
    go_wp2_with fail
    go_ret
    exact ⟨rfl, by trivial⟩
theorem trim_any (l : List UInt8) (w : World) (hm : l.length ≤ 1000000) :
    Calls Tryd.prog 40 #[.string ⟨l.toArray⟩] w fun e w' => e = .returned (.string ⟨(trimL l).toArray⟩) ∧ w = w' := by
  have HS := Lib.hid (trimS_any l · hm)
  have HT : Hid (∀ w, Calls Tryd.prog 59 #[.string ⟨l.toArray⟩, .string ⟨#[46]⟩] w fun e w' => e = .returned (.string ⟨(trimL l).toArray⟩) ∧ w = w') := Lib.hid (fun w => by
    go_enter Tryd.func59, Tryd.ntmps59
    go_wp2_with fail
    refine (HS.out _).mono ?_
    rintro e w' ⟨rfl, rfl⟩
    go_wp2_with fail
    go_ret
    exact ⟨rfl, by trivial⟩)
  go_enter Tryd.func40, Tryd.ntmps40
  go_wp2_with fail
  refine (HT.out _).mono ?_
  rintro e w' ⟨rfl, rfl⟩
  go_wp2_with fail
  go_ret
  exact ⟨rfl, by trivial⟩
set_option maxHeartbeats 1000000 in
theorem hexRest_any (l : List UInt8) (w : World) (hm : l.length ≤ 1000000) :
    Calls Tryd.prog 42 #[.string ⟨l.toArray⟩] w fun e w' => e = .returned (.tuple #[.string ⟨(hexR l).toArray⟩, .bool (hexP l)]) ∧ w = w' := by
  have b0 := byt_lo l 0
  have b1 := byt_hi l 0
  have b2 := byt_lo l 1
  have b3 := byt_hi l 1
  by_cases h1 : 2 ≤ l.length
  · have c1 : (2 : Int) ≤ (l.length : Int) := by omega
    have c2 : 0 < l.length := by omega
    have c3 : 1 < l.length := by omega
    by_cases h2 : byt l 0 = 48
    · have e2 : (byt l 0 == 48) = true := by rw [beq_iff_eq]; exact h2
      by_cases h3 : byt l 1 = 120
      · have HP : Hid (hexP l = true) := Lib.hid (by unfold hexP; exact decide_eq_true ⟨h1, h2, .inl h3⟩)
        have HR : Hid (hexR l = l.drop 2) := Lib.hid (by unfold hexR; rw [if_pos HP.out])
        have e3 : (byt l 1 == 120) = true := by rw [beq_iff_eq]; exact h3
        rw [HP.out, HR.out]
        clear h2 h3
        go_enter Tryd.func42, Tryd.ntmps42
        go_wp2_with fail
        go_ret2
        exact ⟨by first | rfl | (simp; done), by trivial⟩
      · have e3 : (byt l 1 == 120) = false := by rw [beq_eq_false_iff_ne]; exact h3
        by_cases h4 : byt l 1 = 88
        · have HP : Hid (hexP l = true) := Lib.hid (by unfold hexP; exact decide_eq_true ⟨h1, h2, .inr h4⟩)
          have HR : Hid (hexR l = l.drop 2) := Lib.hid (by unfold hexR; rw [if_pos HP.out])
          have e4 : (byt l 1 == 88) = true := by rw [beq_iff_eq]; exact h4
          rw [HP.out, HR.out]
          clear h2 h3 h4
          go_enter Tryd.func42, Tryd.ntmps42
          go_wp2_with fail
          go_ret2
          exact ⟨by first | rfl | (simp; done), by trivial⟩
        · have HP : Hid (hexP l = false) := Lib.hid (by unfold hexP; rw [decide_eq_false_iff_not]; omega)
          have HR : Hid (hexR l = []) := Lib.hid (by unfold hexR; rw [if_neg (by rw [HP.out]; simp)])
          have e4 : (byt l 1 == 88) = false := by rw [beq_eq_false_iff_ne]; exact h4
          rw [HP.out, HR.out]
          clear h2 h3 h4
          go_enter Tryd.func42, Tryd.ntmps42
          go_wp2_with fail
          go_ret2
          exact ⟨by first | rfl | (simp; done), by trivial⟩
    · have e2 : (byt l 0 == 48) = false := by rw [beq_eq_false_iff_ne]; exact h2
      have HP : Hid (hexP l = false) := Lib.hid (by unfold hexP; rw [decide_eq_false_iff_not]; omega)
      have HR : Hid (hexR l = []) := Lib.hid (by unfold hexR; rw [if_neg (by rw [HP.out]; simp)])
      rw [HP.out, HR.out]
      clear h2
      go_enter Tryd.func42, Tryd.ntmps42
      go_wp2_with fail
      go_ret2
      exact ⟨by first | rfl | (simp; done), by trivial⟩
  · have HP : Hid (hexP l = false) := Lib.hid (by unfold hexP; rw [decide_eq_false_iff_not]; omega)
    have HR : Hid (hexR l = []) := Lib.hid (by unfold hexR; rw [if_neg (by rw [HP.out]; simp)])
    rw [HP.out, HR.out]
    have c1 : ¬ (2 : Int) ≤ (l.length : Int) := by omega
    go_enter Tryd.func42, Tryd.ntmps42
    go_wp2_with fail
    go_ret2
    exact ⟨by first | rfl | (simp; done), by trivial⟩
set_option maxHeartbeats 1000000 in
theorem only_any (l : List UInt8) (n : Int) (w : World) (hm : l.length ≤ 1000000) (hn : 0 ≤ n) (hn2 : n ≤ 100) :
    Calls Tryd.prog 43 #[.string ⟨l.toArray⟩, .int .i64 n] w fun e w' => e = .returned (.bool (onlyB n l)) ∧ w = w' := by
  have HS := Lib.hid (onlyB_step n l)
  go_enter Tryd.func43, Tryd.ntmps43
  go_wp2_with fail
  go_loopw [5, 6, 9] (fun t5 t6 ti wr => ∃ i : Nat, i ≤ l.length ∧ ti = .int .i64 i ∧ Hid (onlyB n l = onlyB n (l.drop i)) ∧ wr = w) (fun _ _ ti _ => l.length - (intOf ti).toNat)
  case atStart => exact ⟨0, by omega, rfl, Lib.hid rfl, rfl⟩
  case round =>
    obtain ⟨i, hi, rfl, HI, rfl⟩ := hrel
    by_cases hlt : i < l.length
    · have hltI : (i : Int) < (l.length : Int) := by omega
      have b0 := byt_lo l i
      have b1 := byt_hi l i
      obtain ⟨x0, x1⟩ := hexN_bd (byt l i)
      have HX := Lib.hid (hex_any (byt l i) · b0 b1)
      have HT := Lib.hid (HS.out i hlt)
      obtain ⟨x, hx⟩ : ∃ x, hexN (byt l i) = x := ⟨_, rfl⟩
      rw [hx] at x0 x1 HX HT
      clear hx
      by_cases h1 : x < 0
      · have H1 : Hid (onlyB n l = false) := Lib.hid (by rw [HI.out, HT.out, decide_eq_false (by omega)]; rfl)
        go_wp2_with fail
        refine (HX.out _).mono ?_
        rintro e w' ⟨rfl, rfl⟩
        go_wp2_with fail
        go_ret
        exact ⟨retB H1.out.symm, by trivial⟩
      · by_cases h2 : n ≤ x
        · have H1 : Hid (onlyB n l = false) := Lib.hid (by rw [HI.out, HT.out, decide_eq_false (by omega)]; rfl)
          go_wp2_with fail
          refine (HX.out _).mono ?_
          rintro e w' ⟨rfl, rfl⟩
          go_wp2_with fail
          go_ret
          exact ⟨retB H1.out.symm, by trivial⟩
        · have H1 : Hid (onlyB n l = onlyB n (l.drop (i + 1))) := Lib.hid (by rw [HI.out, HT.out, decide_eq_true (by omega)]; rfl)
          go_wp2_with fail
          refine (HX.out _).mono ?_
          rintro e w' ⟨rfl, rfl⟩
          go_wp2_with fail
          exact ⟨⟨i + 1, by omega, by go_num, H1, by trivial⟩, by simp [intOf]; omega⟩
    · obtain rfl : i = l.length := by omega
      have H1 : Hid (onlyB n l = true) := Lib.hid (by rw [HI.out, List.drop_length]; rfl)
      go_wp2_with fail
      go_ret
      exact ⟨retB H1.out.symm, by trivial⟩
section
def Box (w : World) (g : Nat) (t : TypeId) (cs : List Value) : Prop := w.heap[g]? = some (.cells cs.toArray t (0, 0))
section
variable {w w' : World} {g : Nat} {t : TypeId} {cs : List Value}
theorem Box.lt (h : Box w g t cs) : g < w.heap.size := (Array.getElem?_eq_some_iff.1 h).1
theorem Box.cell (h : Box w g t cs) (i : Nat) : w.cell? ⟨g, i, none⟩ = cs[i]? := by
  rw [cell_of_row w g i cs.toArray t (0, 0) h]; simp
theorem Box.drew (h : Box w g t cs) (n : Nat) : Box (w.drewN n) g t cs := h
theorem Box.grown {row : Option Nat} (h : Box w g t cs) (hg : w.grownBy w' row) (hr : row ≠ some g) : Box w' g t cs := by
  unfold Box; rw [hg.block g h.lt (fun e => hr e.symm)]; exact h
theorem Box.new (w : World) (t : TypeId) (cs : List Value) : Box (w.alloc (.cells cs.toArray t)) w.heap.size t cs := heap_alloc_new w _
theorem Box.alloc (h : Box w g t cs) (o : Obj) : Box (w.alloc o) g t cs := h.grown (World.grownBy_alloc w o none) (by simp)
end
end
section
theorem hsz_alloc (w : World) (o : Obj) : (w.alloc o).heap.size = w.heap.size + 1 := Array.size_push ..
theorem setRow_box {w : World} {g g' : Nat} {t : TypeId} {cs : List Value} (h : Box w g t cs) (cs' : Array Value) (hne : g ≠ g') : Box (w.setRow g' cs') g t cs := by
  unfold Box World.setRow at *
  rw [Array.getElem?_modify, if_neg (fun e => hne e.symm)]; exact h
theorem setRow_box_self {w : World} {g : Nat} {t : TypeId} {cs : List Value} (h : Box w g t cs) (cs' : List Value) : Box (w.setRow g cs'.toArray) g t cs' := by
  unfold Box World.setRow at *
  rw [Array.getElem?_modify, if_pos rfl, h]; rfl
theorem setRow_below {w w' : World} {B g : Nat} (h : Below B w w') (cs : Array Value) (hg : B ≤ g) : Below B w (w'.setRow g cs) := by
  refine ⟨h.os, h.tape, h.output, ?_, ?_⟩
  · have := h.size
    show _ ≤ (w'.heap.modify g _).size
    simpa using this
  · intro k hk
    show (w'.heap.modify g _)[k]? = _
    rw [Array.getElem?_modify, if_neg (by omega)]
    exact h.block k hk
section
variable {P : Program} {ops : Array Oper} {rest : List Oper} {o : Oper} {a : Act} {Q : Exit → Act → World → Prop}
theorem wpList_loadRow {w : World} (hw : Region.wanted o (yielded ops a.tmps) = true) (t : TypeId) (x : Operand) (hop : o.op = .load t x) (g : Nat) (cs : List Value) (hx : a.eval x = .pointer (some ⟨g, 0, none⟩))
    (n : Nat) (e : TypeId) (hu : P.underlying t = some (.array n e)) (hi : (P.info? t).map (·.size) = some cs.length) (hb : Box w g t cs)
    (h : wpList P ops Q rest (a.put o.dst (.agg cs.toArray)) w) : wpList P ops Q (o :: rest) a w := by
  refine wpList_met hw fun K hK => ?_
  have hrun := run_loadVar_row (P := P) w g t t cs.toArray (0, 0) _ hb hu rfl (by simpa using hi)
  unfold Oper.wp
  simp [execOp, hop, hx, Instr.loadAt, Instr.sureAddr, hrun, Result.andThen]
  exact hK _ _ h
theorem wpList_storeRow {w : World} (hw : Region.wanted o (yielded ops a.tmps) = true) (t : TypeId) (x y : Operand) (hop : o.op = .store t x y) (hd : o.dst = none) (g : Nat) (cs cs' : List Value) (hx : a.eval x = .pointer (some ⟨g, 0, none⟩))
    (hy : a.eval y = .agg cs'.toArray) (hi : (P.info? t).map (·.size) = some cs'.length) (hb : Box w g t cs) (ho : cs.length = cs'.length) (h1 : ∀ v ∈ cs', v.oneCell' = true)
    (h : wpList P ops Q rest a (w.setRow g cs'.toArray)) : wpList P ops Q (o :: rest) a w := by
  refine wpList_met hw fun K hK => ?_
  have hrun := run_storeVar_row (P := P) w g t t cs.toArray cs'.toArray hb (by simpa using hi) (by simpa using ho) (by simpa using h1)
  unfold Oper.wp
  simp [execOp, hop, hx, hy, Instr.storeAt, Instr.sureAddr, hrun, Result.andThen]
  exact hK _ _ (by rw [hd]; exact h)
end
end
set_option maxHeartbeats 1000000 in
theorem valid_any (v : Value) (l : List UInt8) (w : World) (hv : Is8 w v l) (hm : l.length ≤ 1000000) :
    Calls Tryd.prog 50 #[v] w fun e w' => e = .returned (.bool (validL l)) ∧ ∃ n, w' = w.drewN n := by
  obtain ⟨a, cap, rfl, hc1, hc2, -, hs⟩ := hv
  unfold maxLen at hc2
  by_cases hn : l.length = 0
  · have hN := validL_nil hn
    rw [hN, hn]
    clear hs hN
    go_enter Tryd.func50, Tryd.ntmps50
    go_wp2
    go_loopw [3] (fun ti wr => ti = .int .i64 0 ∧ wr = w) (fun _ _ => 0)
    case atStart => exact ⟨rfl, rfl⟩
    case round =>
      obtain ⟨rfl, rfl⟩ := hrel
      go_wp2
      go_ret
      exact ⟨rfl, 0, rfl⟩
  obtain ⟨b, off, rfl, hc⟩ := hs (by omega)
  have HC := Lib.hid hc
  clear hs hc
  go_enter Tryd.func50, Tryd.ntmps50
  go_wp2
  go_loopw [3] (fun ti wr => ∃ k : Nat, k ≤ l.length ∧ ti = .int .i64 k ∧ (∃ n, wr = w.drewN n) ∧ Hid (validL l = validL (l.drop k))) (fun ti _ => l.length - (intOf ti).toNat)
  case atStart => exact ⟨0, by omega, rfl, ⟨0, rfl⟩, Lib.hid (by simp)⟩
  case round =>
    obtain ⟨k, hk, rfl, ⟨n, rfl⟩, HR⟩ := hrel
    by_cases hlt : k < l.length
    · have hkc : ¬ k = cap := by omega
      have hkc' : k < cap := by omega
      have HI : Hid (Is8 w (.slice (some ⟨b, off + k, none⟩) (l.length - k) (cap - k)) (l.drop k)) := Lib.hid (Is8.dropAt HC.out k hlt hc1 (by unfold maxLen; omega))
      have hnn := nextL_n (l.drop k) (by simp; omega)
      have HV := Lib.hid (validL_cons (l := l.drop k) (by simp; omega))
      simp only [List.length_drop] at hnn
      obtain ⟨hn1, hn2, -⟩ := hnn
      go_wp2_with fail
      refine (next_any _ (l.drop k) _ (IsSl.drew HI.out) (by simp; omega)).mono ?_
      rintro e w' ⟨rfl, n2, rfl⟩
      rw [List.drop_drop] at HV
      generalize nextL (l.drop k) = t at *
      obtain ⟨r, nn, ok⟩ := t
      cases ok
      · go_wp2
        go_ret
        exact ⟨by rw [HR.out, HV.out]; rfl, _, rfl⟩
      · go_wp2
        go_roundw
        case rel => exact ⟨k + nn, by omega, by go_num, ⟨_, rfl⟩, Lib.hid (by rw [HR.out, HV.out]; simp)⟩
        case measure => simp [intOf]; omega
    · obtain rfl : k = l.length := by omega
      go_wp2
      go_ret
      exact ⟨by rw [HR.out, validL_nil (l := l.drop l.length) (by simp)]; rfl, _, rfl⟩
set_option maxHeartbeats 1000000 in
theorem decode_any (v : Value) (l : List UInt8) (w : World) (hv : Is8 w v l) (hm : l.length ≤ 1000000) :
    Calls Tryd.prog 52 #[v] w fun e w' => ∃ v', e = .returned v' ∧ Own w' w.heap.size 21 v' ((decL l).map (Value.int .i32)) ∧ Below w.heap.size w w' := by
  obtain ⟨a, cap, rfl, hc1, hc2, -, hs⟩ := hv
  unfold maxLen at hc2
  by_cases hn : l.length = 0
  · have hN := decL_nil hn
    rw [hN, hn]
    clear hs hN
    go_enter Tryd.func52, Tryd.ntmps52
    go_wp2_with (at_make; refine wpList_make0 _ rfl _ _ 81 rfl w.heap.size 21 (.int .i32 0) 4 ok32 _ _ _ 0 rfl rfl rfl (by omega) (by omega) (Nat.le_refl _) ?_)
    intro w0 hown0 hg0
    go_wp2
    go_loopw [3, 4] (fun tv ti wr => tv = .slice (some ⟨w.heap.size, 0, none⟩) 0 0 ∧ ti = .int .i64 0 ∧ wr = w0) (fun _ _ _ => 0)
    case atStart => exact ⟨rfl, rfl, rfl⟩
    case round =>
      obtain ⟨rfl, rfl, rfl⟩ := hrel
      go_wp2
      go_ret
      exact ⟨_, rfl, by simpa using hown0, (Below.refl _ _).grown hg0 (Nat.le_refl _) (fun k h => by cases h)⟩
  obtain ⟨b, off, rfl, hc⟩ := hs (by omega)
  have HC := Lib.hid hc
  have hbw := hc.lt (by omega)
  clear hs hc
  go_enter Tryd.func52, Tryd.ntmps52
  go_wp2_with (at_make; refine wpList_make0 _ rfl _ _ 81 rfl w.heap.size 21 (.int .i32 0) 4 ok32 _ _ _ l.length rfl rfl rfl (by omega) (by omega) (Nat.le_refl _) ?_)
  intro w0 hown0 hg0
  go_wp2
  go_loopw [3, 4] (fun tv ti wr => ∃ (k : Nat) (ds : List Int), k ≤ l.length ∧ ti = .int .i64 k ∧ Own wr w.heap.size 21 tv (ds.map (Value.int .i32)) ∧ ds.length ≤ k ∧ Below w.heap.size w wr ∧ Hid (decL l = ds ++ decL (l.drop k))) (fun _ ti _ => l.length - (intOf ti).toNat)
  case atStart => exact ⟨0, [], by omega, rfl, by simpa using hown0, by simp, (Below.refl _ _).grown hg0 (Nat.le_refl _) (fun k h => by cases h), Lib.hid (by simp)⟩
  case round =>
    obtain ⟨k, ds, hk, rfl, hown, hdk, hbel, HR⟩ := hrel
    by_cases hlt : k < l.length
    · have hkc : ¬ k = cap := by omega
      have hkc' : k < cap := by omega
      have HI : Hid (Is8 wr (.slice (some ⟨b, off + k, none⟩) (l.length - k) (cap - k)) (l.drop k)) := Lib.hid (Is8.dropAt (HC.out.below hbel hbw) k hlt hc1 (by unfold maxLen; omega))
      have hnn := nextL_n (l.drop k) (by simp; omega)
      have HV := Lib.hid (decL_cons (l := l.drop k) (by simp; omega))
      have hsz := hbel.size
      simp only [List.length_drop] at hnn
      obtain ⟨hn1, hn2, -⟩ := hnn
      have HB := Lib.hid hbel
      clear hbel
      go_wp2_with fail
      refine (next_any _ (l.drop k) _ HI.out (by simp; omega)).mono ?_
      rintro e w' ⟨rfl, n2, rfl⟩
      rw [List.drop_drop] at HV
      generalize nextL (l.drop k) = t at *
      obtain ⟨r, nn, ok⟩ := t
      go_wp2_with (at_builtin; refine wpList_appL _ rfl _ _ 81 rfl w.heap.size 21 (.int .i32 0) 4 ok32 _ _ rfl (hown.drew n2) #[.int .i32 r] 1 1 rfl rfl ?c1 ?c2 ?c3 ?c4 ?_)
      case c1 => rfl
      case c2 => simp; omega
      case c3 => simp; omega
      case c4 => simpa using hsz
      intro v' w2 hown2 hgr
      have hb2 : Below w.heap.size w w2 := (below_dr HB.out n2).grown hgr (by simpa using hsz) (fun k hk => (hown.row k hk).1)
      go_wp2
      go_roundw
      case rel => exact ⟨k + nn, ds ++ [r], by omega, by go_num, by simpa using hown2, by simp; omega, hb2, Lib.hid (by rw [HR.out, HV.out]; simp)⟩
      case measure => simp [intOf]; omega
    · obtain rfl : k = l.length := by omega
      go_wp2
      go_ret
      refine ⟨_, rfl, ?_, hbel⟩
      rw [HR.out, decL_nil (l := l.drop l.length) (by simp)]
      simpa using hown
def shd (r s : Int) : Int := if s = 0 then r else if s = 6 then r / 64 else r / 4096
set_option maxHeartbeats 1000000 in
theorem tail_any (r s : Int) (w : World) (h0 : 0 ≤ r) (h1 : r ≤ 1114111) (hs : s = 0 ∨ s = 6 ∨ s = 12) :
    Calls Tryd.prog 75 #[.int .i32 r, .int .i64 s] w fun e w' => e = .returned (.int .u8 (128 + shd r s % 64)) ∧ w = w' := by
  rcases hs with rfl | rfl | rfl
  all_goals
    go_enter Tryd.func75, Tryd.ntmps75
    go_wp2
    go_ret
    refine ⟨?_, by trivial⟩
    simp [shd]
    try omega
theorem app_end {w' : World} {B : Nat} {e : TypeId} {v : Value} {xs : List Value} {r : Int} {cs : List Value} (hown : Own w' B e v (xs ++ cs)) (h : (encR r).map u8V = cs) : Own w' B e v (xs ++ (encR r).map u8V) := by rw [h]; exact hown
set_option maxHeartbeats 1000000 in
theorem appendPoint_any (vb : Value) (xs : List Value) (B : Nat) (r : Int) (w : World) (h0 : 0 ≤ r) (h1 : r ≤ 1114111) (hown : Own w B 5 vb xs) (hB : B ≤ w.heap.size) (hx : xs.length ≤ 100000000) :
    Calls Tryd.prog 66 #[vb, .int .i32 r] w fun e w' => ∃ v', e = .returned v' ∧ Own w' B 5 v' (xs ++ (encR r).map u8V) ∧ w.grownBy w' vb.ownBlock := by
  by_cases h2 : r < 128
  · have he : (encR r).map u8V = [.int .u8 r] := by unfold encR; rw [if_pos h2]; simp [u8V_mk h0 (show r ≤ 255 by omega)]
    have HE := Lib.hid he
    clear he
    go_enter Tryd.func66, Tryd.ntmps66
    go_wp2_with (first | (go_at_call 75; refine (tail_any _ _ _ (by omega) (by omega) (by omega)).mono ?_; rintro e w' ⟨rfl, rfl⟩) | (at_builtin; refine wpList_appL _ rfl _ _ 44 rfl B 5 (.int .u8 0) 1 ok8 _ _ rfl hown _ 1 1 rfl rfl ?c1 (by omega) (by omega) hB ?_))
    case c1 => simp [Value.oneCell']
    intro v' w' hown' hgr
    go_wp2
    go_ret
    exact ⟨_, rfl, app_end hown' (by rw [HE.out]; try simp [shd]), hgr⟩
  by_cases h3 : r < 2048
  · have he : (encR r).map u8V = [.int .u8 (192 + r / 64), .int .u8 (128 + r % 64)] := by unfold encR; rw [if_neg h2, if_pos h3]; simp [u8V_mk (show 0 ≤ 192 + r / 64 by omega) (by omega), u8V_mk (show 0 ≤ 128 + r % 64 by omega) (by omega)]
    have HE := Lib.hid he
    clear he
    go_enter Tryd.func66, Tryd.ntmps66
    go_wp2_with (first | (go_at_call 75; refine (tail_any _ _ _ (by omega) (by omega) (by omega)).mono ?_; rintro e w' ⟨rfl, rfl⟩) | (at_builtin; refine wpList_appL _ rfl _ _ 44 rfl B 5 (.int .u8 0) 1 ok8 _ _ rfl hown _ 2 2 rfl rfl ?c1 (by omega) (by omega) hB ?_))
    case c1 => simp [Value.oneCell']
    intro v' w' hown' hgr
    go_wp2
    go_ret
    exact ⟨_, rfl, app_end hown' (by rw [HE.out]; try simp [shd]), hgr⟩
  by_cases h4 : r < 65536
  · have he : (encR r).map u8V = [.int .u8 (224 + r / 4096), .int .u8 (128 + r / 64 % 64), .int .u8 (128 + r % 64)] := by
      unfold encR; rw [if_neg h2, if_neg h3, if_pos h4]; simp [u8V_mk (show 0 ≤ 224 + r / 4096 by omega) (by omega), u8V_mk (show 0 ≤ 128 + r / 64 % 64 by omega) (by omega), u8V_mk (show 0 ≤ 128 + r % 64 by omega) (by omega)]
    have HE := Lib.hid he
    clear he
    go_enter Tryd.func66, Tryd.ntmps66
    go_wp2_with (first | (go_at_call 75; refine (tail_any _ _ _ (by omega) (by omega) (by omega)).mono ?_; rintro e w' ⟨rfl, rfl⟩) | (at_builtin; refine wpList_appL _ rfl _ _ 44 rfl B 5 (.int .u8 0) 1 ok8 _ _ rfl hown _ 3 3 rfl rfl ?c1 (by omega) (by omega) hB ?_))
    case c1 => simp [Value.oneCell']
    intro v' w' hown' hgr
    go_wp2
    go_ret
    exact ⟨_, rfl, app_end hown' (by rw [HE.out]; try simp [shd]), hgr⟩
  · have he : (encR r).map u8V = [.int .u8 (240 + r / 262144), .int .u8 (128 + r / 4096 % 64), .int .u8 (128 + r / 64 % 64), .int .u8 (128 + r % 64)] := by
      unfold encR; rw [if_neg h2, if_neg h3, if_neg h4]; simp [u8V_mk (show 0 ≤ 240 + r / 262144 by omega) (by omega), u8V_mk (show 0 ≤ 128 + r / 4096 % 64 by omega) (by omega), u8V_mk (show 0 ≤ 128 + r / 64 % 64 by omega) (by omega), u8V_mk (show 0 ≤ 128 + r % 64 by omega) (by omega)]
    have HE := Lib.hid he
    clear he
    go_enter Tryd.func66, Tryd.ntmps66
    go_wp2_with (first | (go_at_call 75; refine (tail_any _ _ _ (by omega) (by omega) (by omega)).mono ?_; rintro e w' ⟨rfl, rfl⟩) | (at_builtin; refine wpList_appL _ rfl _ _ 44 rfl B 5 (.int .u8 0) 1 ok8 _ _ rfl hown _ 4 4 rfl rfl ?c1 (by omega) (by omega) hB ?_))
    case c1 => simp [Value.oneCell']
    intro v' w' hown' hgr
    go_wp2
    go_ret
    exact ⟨_, rfl, app_end hown' (by rw [HE.out]; try simp [shd]), hgr⟩
set_option maxHeartbeats 1000000 in
theorem encode_any (v : Value) (l : List Int) (w : World) (hv : Is32 w v l) (hm : l.length ≤ 1000000) (hr : ∀ i, i < l.length → -2147483648 ≤ l.getD i 0 ∧ l.getD i 0 ≤ 2147483647) :
    Calls Tryd.prog 51 #[v] w fun e w' => ∃ v', e = .returned v' ∧ Own w' w.heap.size 5 v' ((encL l).map u8V) ∧ Below w.heap.size w w' := by
  obtain ⟨a, cap, rfl, hc1, hc2, -, hs⟩ := hv
  unfold maxLen at hc2
  have HC : Hid (0 < l.length → ∃ b off, a = some ⟨b, off, none⟩ ∧ Cells w b off l.length (i32At l)) := Lib.hid hs
  have HRG := Lib.hid hr
  clear hs hr
  go_enter Tryd.func51, Tryd.ntmps51
  go_wp2_with (at_make; refine wpList_make0 _ rfl _ _ 44 rfl w.heap.size 5 (.int .u8 0) 1 ok8 _ _ _ l.length rfl rfl rfl (by omega) (by omega) (Nat.le_refl _) ?_)
  intro w0 hown0 hg0
  go_wp2
  go_loopw [3, 11] (fun tv ti wr => ∃ (k : Nat), k ≤ l.length ∧ ti = .int .i64 k ∧ Own wr w.heap.size 5 tv ((encL (l.take k)).map u8V) ∧ Below w.heap.size w wr) (fun _ ti _ => l.length - (intOf ti).toNat)
  case atStart => exact ⟨0, by omega, rfl, by simpa [encL] using hown0, (Below.refl _ _).grown hg0 (Nat.le_refl _) (fun k h => by cases h)⟩
  case round =>
    obtain ⟨k, hk, rfl, hown, hbel⟩ := hrel
    by_cases hlt : k < l.length
    · obtain ⟨b, off, rfl, hc⟩ := HC.out (by omega)
      have hcell : wr.cell? ⟨b, off + k, none⟩ = some (.int .i32 (l.getD k 0)) := (hc.below hbel (hc.lt (by omega))).at k hlt
      have ht := Lib.hid (encL_take l k hlt)
      have hf := fixR_bd (l.getD k 0)
      have hln := (encL_len (l.take k)).2
      obtain ⟨hr1, hr2⟩ := HRG.out k hlt
      simp only [List.length_take] at hln
      have HFX : Hid (fixR (l.getD k 0) = if l.getD k 0 < 0 ∨ 1114111 < l.getD k 0 ∨ (55296 ≤ l.getD k 0 ∧ l.getD k 0 ≤ 57343) then 65533 else l.getD k 0) := Lib.hid rfl
      clear hc HC HRG
      have hsz := hbel.size
      generalize fixR (l.getD k 0) = R at *
      generalize l.getD k 0 = r at *
      by_cases c1 : r < 0
      · have hRr : R = 65533 := by have := HFX.out; rw [this, if_pos (by omega)]
        subst hRr
        go_wp2_with fail
        refine (appendPoint_any _ _ w.heap.size _ _ (by omega) (by omega) hown (by simpa using hsz) (by simp; omega)).mono ?_
        rintro e w2 ⟨v', rfl, hown2, hgr⟩
        have hb2 : Below w.heap.size w w2 := hbel.grown hgr hsz (fun k hk => (hown.row k hk).1)
        go_wp2
        go_roundw
        case rel => exact ⟨k + 1, by omega, by go_num, by rw [ht.out]; simpa using hown2, hb2⟩
        case measure => simp [intOf]; omega
      by_cases c2 : 1114111 < r
      · have hRr : R = 65533 := by have := HFX.out; rw [this, if_pos (by omega)]
        subst hRr
        go_wp2_with fail
        refine (appendPoint_any _ _ w.heap.size _ _ (by omega) (by omega) hown (by simpa using hsz) (by simp; omega)).mono ?_
        rintro e w2 ⟨v', rfl, hown2, hgr⟩
        have hb2 : Below w.heap.size w w2 := hbel.grown hgr hsz (fun k hk => (hown.row k hk).1)
        go_wp2
        go_roundw
        case rel => exact ⟨k + 1, by omega, by go_num, by rw [ht.out]; simpa using hown2, hb2⟩
        case measure => simp [intOf]; omega
      by_cases c3 : r / 2048 = 27
      · have hRr : R = 65533 := by have := HFX.out; rw [this, if_pos (by omega)]
        subst hRr
        go_wp2_with fail
        refine (appendPoint_any _ _ w.heap.size _ _ (by omega) (by omega) hown (by simpa using hsz) (by simp; omega)).mono ?_
        rintro e w2 ⟨v', rfl, hown2, hgr⟩
        have hb2 : Below w.heap.size w w2 := hbel.grown hgr hsz (fun k hk => (hown.row k hk).1)
        go_wp2
        go_roundw
        case rel => exact ⟨k + 1, by omega, by go_num, by rw [ht.out]; simpa using hown2, hb2⟩
        case measure => simp [intOf]; omega
      · have hRr : R = r := by have := HFX.out; rw [this, if_neg (by omega)]
        subst hRr
        go_wp2_with fail
        refine (appendPoint_any _ _ w.heap.size _ _ (by omega) (by omega) hown (by simpa using hsz) (by simp; omega)).mono ?_
        rintro e w2 ⟨v', rfl, hown2, hgr⟩
        have hb2 : Below w.heap.size w w2 := hbel.grown hgr hsz (fun k hk => (hown.row k hk).1)
        go_wp2
        go_roundw
        case rel => exact ⟨k + 1, by omega, by go_num, by rw [ht.out]; simpa using hown2, hb2⟩
        case measure => simp [intOf]; omega
    · obtain rfl : k = l.length := by omega
      go_wp2
      go_ret
      refine ⟨_, rfl, ?_, hbel⟩
      simpa using hown
end Go.Proofs.YtaphadmcjimmeaaDoor
