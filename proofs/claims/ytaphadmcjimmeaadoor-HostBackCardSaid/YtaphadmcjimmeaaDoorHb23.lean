import Derived.Test.YtaphadmcjimmeaaDoorProg
import Derived.ProofKit
import Derived.Test.YtaphadmcjimmeaaDoorHb6
import Derived.Test.YtaphadmcjimmeaaDoorHb18
import Derived.Test.YtaphadmcjimmeaaDoorHb19
import Derived.Test.YtaphadmcjimmeaaDoorHb22
set_option linter.unusedVariables false
set_option linter.unusedSimpArgs false
set_option maxRecDepth 100000
set_option maxHeartbeats 4000000
namespace Go.Proofs.YtaphadmcjimmeaaDoor
open Go Go.Proofs Go.RowKit Go.Vc
section
def hostN (l : Bs) : H5 := if preB l [91] = true then sixR (l.drop 1) else if conB l neverL = true then noH 8 else if l = [] then (1, [], 0, z8, 0) else (5, pencS l, 0, z8, 0)
def X_hparseN : Tbl := tblX [(8, ent_prefix), (11, ent_con), (9, ent_pip6), (10, ent_pdom), (12, ent_penc)]
def H_hparseN (l : Bs) : Loops := fun i => none
theorem X_hparseN_ok : XOk Tryd.prog noT X_hparseN := tblX_cons ent_prefix_ok (tblX_cons ent_con_ok (tblX_cons ent_pip6_ok (tblX_cons ent_pdom_ok (tblX_cons ent_penc_ok (tblX_nil)))))
theorem vc_hparseN (l : Bs) (k : PV → Prop) : evF Tryd.prog X_hparseN noT (H_hparseN l) 1000 Tryd.f5 [.str l, .bool false] k = (
  True ∧
 (preB l (ByteArray.mk #[91]).data.toList = true →
 ((1 : Nat) ≤ List.length l ∧ List.length l ≤ (1000000 : Nat)) ∧
 k
 (PV.tup
 [PV.agg
 [PV.int .i64 (sixR (List.drop (1 : Nat) l)).1,
 PV.str (sixR (List.drop (1 : Nat) l)).2.1,
 PV.int .u32 (sixR (List.drop (1 : Nat) l)).2.2.1,
 PV.arr (8 : Nat) (BRow.ints .u16 (sixR (List.drop (1 : Nat) l)).2.2.2.1)],
 PV.int .i64 (sixR (List.drop (1 : Nat) l)).2.2.2.2])) ∧
 (preB l (ByteArray.mk #[91]).data.toList = false →
 (false = true →
 (List.length l).le (1000000 : Nat) ∧
 k
 (PV.tup
 [PV.agg
 [PV.int .i64
 (domR (lowB (decP l))).1,
 PV.str (domR (lowB (decP l))).2.1,
 PV.int .u32
 (domR (lowB (decP l))).2.2.1,
 PV.arr (8 : Nat)
 (BRow.ints .u16
 (domR (lowB (decP l))).2.2.2.1)],
 PV.int .i64
 (domR (lowB (decP l))).2.2.2.2])) ∧
 (false = false →
 (List.length l ≤ (1000000 : Nat) ∧
 (ByteArray.mk
 #[0, 9, 10, 13, 32, 35, 47, 58, 60, 62, 63, 64, 91, 92, 93, 94, 124]).data.toList.length ≤
 (1000000 : Nat) ∧
 ∀ (b : UInt8),
 b ∈
 (ByteArray.mk
 #[0, 9, 10, 13, 32, 35, 47, 58, 60, 62, 63, 64, 91, 92, 93, 94, 124]).data.toList →
 b.toNat < (128 : Nat)) ∧
 (conB l
 (ByteArray.mk
 #[0, 9, 10, 13, 32, 35, 47, 58, 60, 62, 63, 64, 91, 92, 93, 94, 124]).data.toList =
 true →
 k
 (PV.tup
 [PV.agg
 [PV.int .i64 (0 : Int), PV.str [], PV.int .u32 (0 : Int),
 PV.arr (8 : Nat) (BRow.ints .u16 (List.replicate (8 : Nat) (0 : Int)))],
 PV.int .i64 (8 : Int)])) ∧
 (conB l
 (ByteArray.mk
 #[0, 9, 10, 13, 32, 35, 47, 58, 60, 62, 63, 64, 91, 92, 93, 94, 124]).data.toList =
 false →
 (decide (l = (ByteArray.mk #[]).data.toList) = true →
 k
 (PV.tup
 [PV.agg
 [PV.int .i64 (1 : Int), PV.str [], PV.int .u32 (0 : Int),
 PV.arr (8 : Nat) (BRow.ints .u16 (List.replicate (8 : Nat) (0 : Int)))],
 PV.int .i64 (0 : Int)])) ∧
 (decide (l = (ByteArray.mk #[]).data.toList) = false →
 (List.length l).le (300000 : Nat) ∧
 k
 (PV.tup
 [PV.agg
 [PV.int .i64 (5 : Int), PV.str (pencS l),
 PV.int .u32 (0 : Int),
 PV.arr (8 : Nat) (BRow.ints .u16 (List.replicate (8 : Nat) (0 : Int)))],
 PV.int .i64 (0 : Int)])))))) := by kernel_rfl
attribute [local irreducible] Go.Vc.evF
theorem ok_hparseN (l : Bs) : FuncOk Tryd.prog noT 5 [.str l, .bool false] ⟨l.length ≤ 300000, .tup [.agg [.int .i64 (hostN l).1, .str (hostN l).2.1, .int .u32 (hostN l).2.2.1, .arr 8 (.ints .u16 (hostN l).2.2.2.1)], .int .i64 (hostN l).2.2.2.2]⟩ := evF_ok (by kernel_rfl) X_hparseN_ok (H := H_hparseN l) (fuel := 1000) Tryd.func5 (by kernel_rfl) fun hpre => (vc_hparseN l _).mpr (by
  have e91 : (ByteArray.mk #[91]).data.toList = ([91] : Bs) := rfl
  rw [e91]
  refine ⟨trivial, fun h => ⟨⟨?_, by omega⟩, ?_⟩, fun h => ⟨fun h => (by cases h), fun _ => ⟨⟨by omega, by decide, by decide⟩, fun h2 => ?_, fun h2 => ⟨fun h3 => ?_, fun h3 => ?_⟩⟩⟩⟩
  · cases l with
    | nil => cases h
    | cons b r => rw [List.length_cons]; omega
  · have : hostN l = sixR (l.drop 1) := by unfold hostN; rw [if_pos h]
    rw [this]
  · have h2' : conB l neverL = true := h2
    have : hostN l = noH 8 := by unfold hostN; rw [if_neg (by rw [h]; decide), if_pos h2']
    rw [this]; rfl
  · have h2' : conB l neverL = false := h2
    have h3' : l = [] := of_decide_eq_true h3
    have : hostN l = (1, [], 0, z8, 0) := by unfold hostN; rw [if_neg (by rw [h]; decide), if_neg (by rw [h2']; decide), if_pos h3']
    rw [this]; rfl
  · have h2' : conB l neverL = false := h2
    have h3' : ¬ l = [] := of_decide_eq_false h3
    have : hostN l = (5, pencS l, 0, z8, 0) := by unfold hostN; rw [if_neg (by rw [h]; decide), if_neg (by rw [h2']; decide), if_neg h3']
    rw [this]
    exact ⟨hpre, rfl⟩)
end
def oddB (c : Int) (dm : Bool) : Bool := neverL.any (fun b => decide ((b.toNat : Int) = c)) || (dm && (decide (c < 32) || decide (c = 37) || decide (c = 127)))
def anyO (l : Bs) (dm : Bool) : Bool := l.any (fun b => oddB b.toNat dm)
theorem nod_odd : ∀ n : Fin 256, nodB (n.val : Int) = oddB (n.val : Int) true := by decide +kernel
theorem nev_odd : ∀ n : Fin 256, neverL.contains (UInt8.ofNat n.val) = oddB (n.val : Int) false := by decide +kernel
theorem idx_any (p : Nat → Bool) (l : Bs) (h : ∀ b ∈ l, b.toNat < 128) : ∀ (f pos : Nat), l.length ≤ pos + f → decide (0 ≤ Lib.idxFuncFrom p true ⟨l.toArray⟩ f pos) = (l.drop pos).any (fun b => p b.toNat)
  | 0, pos, hf => by
    rw [List.drop_eq_nil_of_le (by omega)]; rfl
  | f + 1, pos, hf => by
    unfold Lib.idxFuncFrom
    have hsz : (⟨l.toArray⟩ : ByteArray).size = l.length := by show l.toArray.size = _; simp
    by_cases hp : pos < l.length
    · have hp2 : pos < (⟨l.toArray⟩ : ByteArray).size := by rw [hsz]; exact hp
      have e : (⟨l.toArray⟩ : ByteArray)[pos]'hp2 = l[pos]'hp := by show l.toArray[pos]'(by simpa using hp) = _; simp
      rw [if_pos hp2, decode_ascii _ pos hp2 (by rw [e]; exact h _ (List.getElem_mem hp)), e, List.drop_eq_getElem_cons hp, List.any_cons]
      dsimp only
      cases hc : p (l[pos]'hp).toNat with
      | true => rw [if_pos rfl]; simp
      | false => rw [if_neg (by decide), Bool.false_or]; exact idx_any p l h f (pos + 1) (by omega)
    · rw [if_neg (by rw [hsz]; exact hp), List.drop_eq_nil_of_le (by omega)]; rfl
theorem cf_any {l : Bs} (h : l.all ascC = true) : cfB l = anyO l true := by
  unfold cfB Lib.idxFunc anyO
  rw [idx_any _ l (fun b hb => by have := List.all_eq_true.1 h b hb; unfold ascC at this; have := of_decide_eq_true this; omega) _ 0 (by rw [show (⟨l.toArray⟩ : ByteArray).size = l.length by show l.toArray.size = _; simp]; omega)]
  show l.any _ = l.any _
  congr 1
  funext b
  exact nod_odd ⟨b.toNat, b.toNat_lt⟩
theorem con_any (l : Bs) : conB l neverL = anyO l false := by
  unfold conB Lib.containsAny anyO
  induction l with
  | nil => rfl
  | cons b r ih =>
    have hge := Lib.indexAny_ge neverL r
    have hb : neverL.contains b = oddB (b.toNat : Int) false := by
      have := nev_odd ⟨b.toNat, b.toNat_lt⟩
      dsimp only at this
      rw [UInt8.ofNat_toNat] at this
      exact this
    rw [List.any_cons, ← ih, show Lib.indexAny (b :: r) neverL = if neverL.contains b then 0 else if Lib.indexAny r neverL == -1 then -1 else Lib.indexAny r neverL + 1 from rfl, hb]
    cases oddB (b.toNat : Int) false with
    | true => simp
    | false =>
      rw [Bool.false_or]
      simp only [Bool.false_eq_true, if_false]
      by_cases h : Lib.indexAny r neverL = -1
      · rw [h]; rfl
      · have : (Lib.indexAny r neverL == -1) = false := by rw [beq_eq_false_iff_ne]; exact h
        rw [this]
        simp only [Bool.false_eq_true, if_false]
        rw [decide_eq_decide]
        omega
theorem suf_last (t : Bs) : sufB t [93] = decide (0 < t.length ∧ byt t (t.length - 1) = 93) := by
  unfold sufB lenZ dropZ
  by_cases h : 0 < t.length
  · rw [decide_eq_true (show (([93] : Bs).length : Int) ≤ (t.length : Int) by show (1 : Int) ≤ _; omega)]
    show decide (t.drop ((t.length : Int) - 1).toNat = [93]) = _
    rw [show ((t.length : Int) - 1).toNat = t.length - 1 by omega, List.drop_eq_getElem_cons (by omega), show t.length - 1 + 1 = t.length by omega, List.drop_length, decide_eq_decide]
    have hb : byt t (t.length - 1) = ((t[t.length - 1]'(by omega)).toNat : Int) := by
      unfold byt; rw [List.getD_eq_getElem?_getD, List.getElem?_eq_getElem (by omega)]; rfl
    rw [hb]
    simp only [List.cons.injEq, and_true]
    exact ⟨fun g => ⟨h, by rw [g]; rfl⟩, fun g => UInt8.toNat_inj.1 (by have := g.2; have h2 : (93 : UInt8).toNat = 93 := rfl; omega)⟩
  · rw [decide_eq_false (show ¬ (([93] : Bs).length : Int) ≤ (t.length : Int) by show ¬ (1 : Int) ≤ _; omega), cond_false]
    symm
    exact decide_eq_false fun g => h g.1
theorem pre91_is (l : Bs) : preB l [91] = decide (0 < l.length ∧ byt l 0 = 91) := by
  unfold preB Lib.hasPrefix
  cases l with
  | nil => rfl
  | cons b r =>
    show ((91 : UInt8) == b && true) = decide (0 < (b :: r).length ∧ (b.toNat : Int) = 91)
    rw [Bool.and_true, Bool.eq_iff_iff, beq_iff_eq, decide_eq_true_iff, ← UInt8.toNat_inj]
    have h2 : (91 : UInt8).toNat = 91 := rfl
    rw [List.length_cons]
    omega
def sixOf (R : Bs → List Int × Bool) (l : Bs) : H5 := if byt l (l.length - 1) = 93 ∧ (R ((l.take (l.length - 1)).drop 1)).2 = true then (4, [], 0, (R ((l.take (l.length - 1)).drop 1)).1, 0) else noH 8
theorem sixR_is (l : Bs) (h : 0 < l.length ∧ byt l 0 = 91) : sixR (l.drop 1) = sixOf six l := by
  cases l with
  | nil => exact absurd h.1 (by decide)
  | cons b t =>
    have hb : (b.toNat : Int) = 91 := h.2
    show sixR t = _
    unfold sixR sixOf cutS
    rw [suf_last]
    by_cases ht : 0 < t.length
    · have e1 : byt (b :: t) ((b :: t).length - 1) = byt t (t.length - 1) := by
        rw [List.length_cons, show t.length + 1 - 1 = (t.length - 1) + 1 by omega, bytS]
      have e2 : ((b :: t).take ((b :: t).length - 1)).drop 1 = t.take (t.length - 1) := by
        rw [List.length_cons, show t.length + 1 - 1 = (t.length - 1) + 1 by omega]; rfl
      have e3 : takeZ t (lenZ t - lenZ ([93] : Bs)) = t.take (t.length - 1) := by
        unfold takeZ lenZ
        rw [show ((t.length : Int) - (([93] : Bs).length : Int)).toNat = t.length - 1 by show ((t.length : Int) - 1).toNat = _; omega]
      rw [e1, e2, e3]
      by_cases hc : byt t (t.length - 1) = 93
      · rw [decide_eq_true (show 0 < t.length ∧ byt t (t.length - 1) = 93 from ⟨ht, hc⟩), if_pos rfl]
        dsimp only
        by_cases hd : (six (t.take (t.length - 1))).2 = true
        · rw [if_pos ⟨rfl, hd⟩, if_pos ⟨hc, hd⟩]
        · rw [if_neg (fun g => hd g.2), if_neg (fun g => hd g.2)]
      · rw [decide_eq_false (fun g => hc g.2)]
        show (if false = true ∧ (six t).2 = true then ((4 : Int), ([] : Bs), (0 : Int), (six t).1, (0 : Int)) else noH 8) = _
        rw [if_neg (fun g => by cases g.1), if_neg (fun g => hc g.1)]
    · have e : t = [] := List.length_eq_zero_iff.1 (by omega)
      subst e
      rw [decide_eq_false (fun g => ht g.1)]
      show (if false = true ∧ (six []).2 = true then ((4 : Int), ([] : Bs), (0 : Int), (six []).1, (0 : Int)) else noH 8) = _
      rw [if_neg (fun g => by cases g.1), if_neg]
      intro g
      have g2 : (b.toNat : Int) = 93 := g.1
      omega
theorem penc_all (has l : List UInt8) (h37 : inB has 37 = false) (hup : ∀ m : Fin 16, inB has ((up (m.val : Int)).toNat : Int) = false) : ∀ b ∈ penc has l, inB has (b.toNat : Int) = false := by
  induction l with
  | nil => intro b hb; cases hb
  | cons c t ih =>
    intro b hb
    have hb : b ∈ pe has c ++ penc has t := hb
    rcases List.mem_append.1 hb with hb | hb
    · unfold pe at hb
      have hc := c.toNat_lt
      split at hb
      · simp only [List.mem_cons, List.not_mem_nil, or_false] at hb
        rcases hb with rfl | rfl | rfl
        · exact h37
        · have := hup ⟨c.toNat / 16, by omega⟩
          simpa using this
        · have := hup ⟨c.toNat % 16, by omega⟩
          simpa using this
      · rename_i hcc
        simp only [List.mem_cons, List.not_mem_nil, or_false] at hb
        rw [hb]; simpa using hcc
    · exact ih b hb
theorem set_free (k : Int) (h : 0 ≤ k ∧ k ≤ 5) : inB (moreS k) 37 = false ∧ ∀ m : Fin 16, inB (moreS k) ((up (m.val : Int)).toNat : Int) = false := by
  obtain ⟨n, rfl⟩ := Int.eq_ofNat_of_zero_le h.1
  have key : ∀ n : Fin 6, inB (moreS (n.val : Int)) 37 = false ∧ ∀ m : Fin 16, inB (moreS (n.val : Int)) ((up (m.val : Int)).toNat : Int) = false := by decide +kernel
  exact key ⟨n, by omega⟩
def scanX : Bs → Bool
  | [] => false
  | b :: r => List.isPrefixOf [46, 120, 110, 45, 45] (b :: r) || scanX r
theorem valid_ascii : ∀ (l : List UInt8), (∀ b ∈ l, (b.toNat : Int) ≤ 127) → validL l = true := by
  intro l
  induction l with
  | nil => intro _; rfl
  | cons b t ih =>
    intro h
    rw [validL_cons (by simp), nextL_1 (l := b :: t) (by simp) (h b List.mem_cons_self)]
    exact ih fun c hc => h c (List.mem_cons_of_mem _ hc)
theorem next_told (l : Bs) (h : 0 < l.length) : encR (fixR (nextL l).1) = l.take (nextL l).2.1 ∨ encR (fixR (nextL l).1) = [239, 191, 189] := by
  cases hv : (nextL l).2.2 with
  | true =>
    obtain ⟨h1, h2, -⟩ := next_valid (l := l) (r := (nextL l).1) (n := (nextL l).2.1) (by rw [← hv])
    rw [fixR_of h1]; exact .inl h2
  | false =>
    rw [((nextL_n l h).2.2.2 hv).1]
    exact .inr (by decide)
theorem plain_cons (l : Bs) (h : 0 < l.length) : plainL l = encR (fixR (nextL l).1) ++ plainL (l.drop (nextL l).2.1) := by
  unfold plainL; rw [decL_cons h]; rfl
theorem plain_mem : ∀ (n : Nat) (l : Bs), l.length ≤ n → ∀ b ∈ plainL l, b ∈ l ∨ 128 ≤ b.toNat := by
  intro n
  induction n with
  | zero =>
    intro l h b hb
    have : l = [] := List.eq_nil_of_length_eq_zero (by omega)
    subst this; cases hb
  | succ n ih =>
    intro l h b hb
    by_cases h0 : l.length = 0
    · have : l = [] := List.eq_nil_of_length_eq_zero h0
      subst this; cases hb
    · have hn := nextL_n l (by omega)
      rw [plain_cons l (by omega)] at hb
      rcases List.mem_append.1 hb with hb | hb
      · rcases next_told l (by omega) with e | e
        · rw [e] at hb; exact .inl (List.mem_of_mem_take hb)
        · rw [e] at hb
          right
          have : ∀ x : UInt8, x ∈ ([239, 191, 189] : Bs) → 128 ≤ x.toNat := by decide
          exact this b hb
      · rcases ih _ (by rw [List.length_drop]; omega) b hb with h1 | h1
        · exact .inl (List.mem_of_mem_drop h1)
        · exact .inr h1
theorem plain_asc {l : Bs} (h : ∀ b ∈ l, b.toNat < 128) : plainL l = l := plainL_valid (valid_ascii l fun b hb => by have := h b hb; omega)
theorem plain_ne {l : Bs} (h : l ≠ []) : plainL l ≠ [] := by
  rw [plain_cons l (List.length_pos_iff.2 h)]
  intro e
  have h1 := congrArg List.length e
  have h2 := encR_pos (fixR (nextL l).1)
  rw [List.length_append, List.length_nil] at h1
  omega
theorem has_scan : ∀ l : Bs, hasB l [46, 120, 110, 45, 45] = scanX l
  | [] => rfl
  | b :: r => by
    have ih := has_scan r
    unfold hasB Lib.contains at ih ⊢
    have hge : -1 ≤ Lib.index r [46, 120, 110, 45, 45] := by
      have : ∀ l : Bs, -1 ≤ Lib.index l [46, 120, 110, 45, 45] := fun l => by
        induction l with
        | nil => decide
        | cons a l ih =>
          show -1 ≤ (if List.isPrefixOf [46, 120, 110, 45, 45] (a :: l) then 0 else if Lib.index l [46, 120, 110, 45, 45] == -1 then -1 else Lib.index l [46, 120, 110, 45, 45] + 1 : Int)
          (repeat' split) <;> omega
      exact this r
    show decide (0 ≤ (if List.isPrefixOf [46, 120, 110, 45, 45] (b :: r) then 0 else if Lib.index r [46, 120, 110, 45, 45] == -1 then -1 else Lib.index r [46, 120, 110, 45, 45] + 1 : Int)) = (List.isPrefixOf [46, 120, 110, 45, 45] (b :: r) || scanX r)
    rw [← ih]
    cases List.isPrefixOf [46, 120, 110, 45, 45] (b :: r) with
    | true => rfl
    | false =>
      simp only [Bool.false_eq_true, if_false, Bool.false_or]
      rw [decide_eq_decide]
      split
      · rename_i h; have := eq_of_beq h; omega
      · rename_i h; have : ¬ Lib.index r [46, 120, 110, 45, 45] = -1 := fun e => h (by rw [e]; rfl)
        omega
def AllU (p : List Int) : Prop := ∀ x ∈ p, 0 ≤ x ∧ x < 65536
theorem isP_all {p : List Int} (h : p.length = 8) (ha : AllU p) : IsP p := ⟨h, fun i => by
  rw [List.getD_eq_getElem?_getD]
  rcases Nat.lt_or_ge i p.length with h | h
  · rw [List.getElem?_eq_getElem h]; exact ha _ (List.getElem_mem h)
  · rw [List.getElem?_eq_none h]; exact ⟨Int.le_refl _, by decide⟩⟩
theorem allU_app {a b : List Int} (ha : AllU a) (hb : AllU b) : AllU (a ++ b) := fun x hx => (List.mem_append.1 hx).elim (ha x) (hb x)
theorem allU_rep (n : Nat) : AllU (List.replicate n 0) := fun x hx => by rw [List.eq_of_mem_replicate hx]; exact ⟨Int.le_refl _, by decide⟩
theorem allU_one {z : Int} (h : 0 ≤ z ∧ z < 65536) : AllU [z] := fun x hx => by rw [List.mem_singleton] at hx; subst hx; exact h
theorem wrong_isP : IsP wrong6.1 := isP_all List.length_replicate (allU_rep 8)
theorem fin6_isP {acc : List Int} {gap : Int} (hl : acc.length ≤ 8) (ha : AllU acc) (hg : gap ≤ acc.length) : IsP (fin6 acc gap).1 := by
  unfold fin6
  split
  · rename_i h; exact isP_all h.2 ha
  · split
    · rename_i _ h
      have hp : AllU (pad acc) := allU_app ha (allU_rep _)
      refine isP_all ?_ (allU_app (allU_app (fun x hx => hp x (List.mem_of_mem_take hx)) (allU_rep _)) (fun x hx => hp x (List.mem_of_mem_take (List.mem_of_mem_drop hx))))
      unfold spreadM
      simp only [List.length_append, List.length_take, List.length_replicate, List.length_drop, pad_len hl]
      omega
    · exact wrong_isP
theorem bytes6_isP {l : Bs} {acc : List Int} {gap : Int} {i : Nat} (ha : AllU acc) (hg : gap ≤ acc.length) : IsP (bytes6 l acc gap i).1 := by
  unfold bytes6
  split
  · exact wrong_isP
  · rename_i h
    have hb := dotV_bd (l.drop i)
    refine fin6_isP ?_ (allU_app (allU_app ha (allU_one (by omega))) (allU_one (by omega))) ?_
    · simp only [List.length_append, List.length_cons, List.length_nil]; omega
    · simp only [List.length_append, List.length_cons, List.length_nil]; omega
theorem six1_isP (l : Bs) : ∀ (k : Nat) (acc : List Int) (gap : Int) (i : Nat), acc.length ≤ 8 → AllU acc → gap ≤ acc.length → IsP (six1 l k acc gap i).1
  | 0, _, _, _, _, _, _ => wrong_isP
  | k + 1, acc, gap, i, hl, ha, hg => by
    unfold six1
    split
    · exact bytes6_isP ha hg
    split
    · exact wrong_isP
    rename_i h1 h2
    obtain ⟨v, hv⟩ : ∃ v, hexW ((l.take (i + hexLen (l.drop i))).drop i) = v := ⟨_, rfl⟩
    have hw : AllU (acc ++ [v]) := by
      refine allU_app ha (allU_one ?_)
      obtain ⟨d1, d2⟩ := piece_digits l i _ rfl (by omega)
      have := hexW_bd _ d2 _ (Nat.le_refl _)
      rw [List.take_length, hv] at this
      refine ⟨this.1, Int.lt_of_lt_of_le this.2 ?_⟩
      obtain ⟨m, hm⟩ : ∃ m, ((l.take (i + hexLen (l.drop i))).drop i).length = m := ⟨_, rfl⟩
      rw [hm] at d1 ⊢
      rcases (by omega : m = 0 ∨ m = 1 ∨ m = 2 ∨ m = 3 ∨ m = 4) with rfl | rfl | rfl | rfl | rfl <;> decide
    have hl2 : (acc ++ [v]).length = acc.length + 1 := by rw [List.length_append]; rfl
    rw [hv]
    (repeat' split) <;> first
      | exact wrong_isP
      | exact fin6_isP (by omega) hw (by omega)
      | exact six1_isP l k _ _ _ (by omega) hw (by omega)
theorem six_isP (l : Bs) : IsP (six l).1 := by
  have h0 : AllU [] := fun x hx => by cases hx
  unfold six
  split
  · split
    · exact fin6_isP (Nat.zero_le _) h0 (by decide)
    · exact six1_isP l _ _ _ _ (Nat.zero_le _) h0 (by decide)
  · exact six1_isP l _ _ _ _ (Nat.zero_le _) h0 (by decide)
theorem z8_isP : IsP z8 := isP_all rfl (allU_rep 8)
def hostX (sp : Bool) (l : Bs) : H5 := if sp = true then hostM l else hostN l
theorem sixR_cases (t : Bs) : (∃ p, sixR t = (4, [], 0, p, 0) ∧ IsP p) ∨ sixR t = noH 8 := by
  unfold sixR
  split
  · exact .inl ⟨_, rfl, six_isP _⟩
  · exact .inr rfl
theorem pre91_cons (r : Bs) : preB (91 :: r) [91] = true := by rw [pre91_is]; exact decide_eq_true ⟨Nat.succ_pos _, rfl⟩
theorem sixR_shw (p : List Int) (hp : IsP p) : sixR (shw p ++ [93]) = (4, [], 0, p, 0) := by
  have h := sixR_is (91 :: (shw p ++ [93])) ⟨Nat.succ_pos _, rfl⟩
  have e0 : (91 :: (shw p ++ [93])).length - 1 = (shw p).length + 1 := by rw [List.length_cons, List.length_append]; rfl
  have e1 : byt (91 :: (shw p ++ [93])) ((shw p).length + 1) = 93 := by
    rw [bytS]; unfold byt
    rw [List.getD_eq_getElem?_getD, List.getElem?_append_right (Nat.le_refl _), Nat.sub_self]; rfl
  have e2 : ((91 :: (shw p ++ [93])).take ((shw p).length + 1)).drop 1 = shw p := by
    rw [List.take_succ_cons, List.take_left']
    · rfl
    · rfl
  rw [show (91 :: (shw p ++ [93])).drop 1 = shw p ++ [93] from rfl] at h
  rw [h]
  unfold sixOf
  rw [e0, e1, e2, shw_six p hp, if_pos ⟨rfl, rfl⟩]
theorem decP_no {l : Bs} (h : (37 : UInt8) ∉ l) : decP l = l := by
  induction l with
  | nil => rfl
  | cons b r ih =>
    rw [decP_cons, if_neg (fun e => h (by rw [show (37 : UInt8) = b from (UInt8.toNat_inj.1 e.1).symm]; exact List.mem_cons_self ..)), ih fun g => h (List.mem_cons_of_mem _ g)]
theorem low_twice : ∀ n : _root_.Fin 256, lowB1 (lowB1 (UInt8.ofNat n.val)) = lowB1 (UInt8.ofNat n.val) := by decide +kernel
theorem low_low (l : Bs) : lowB (lowB l) = lowB l := by
  unfold lowB
  rw [List.map_map]
  refine List.map_congr_left fun b _ => ?_
  have := low_twice ⟨b.toNat, b.toNat_lt⟩
  dsimp only at this
  rw [UInt8.ofNat_toNat] at this
  exact this
theorem any_no {l : Bs} {dm : Bool} {c : UInt8} (h : anyO l dm = false) (hc : oddB (c.toNat : Int) dm = true) : c ∉ l := fun hb => by
  unfold anyO at h
  have := List.any_eq_false.1 h c hb
  exact this hc
theorem pre91_no {l : Bs} (h : (91 : UInt8) ∉ l) : preB l [91] = false := by
  rw [pre91_is]
  refine decide_eq_false fun ⟨h1, h2⟩ => h ?_
  cases l with
  | nil => cases h1
  | cons b r =>
    have : (b.toNat : Int) = 91 := h2
    rw [show (91 : UInt8) = b from UInt8.toNat_inj.1 (by have e : (91 : UInt8).toNat = 91 := rfl; omega)]
    exact List.mem_cons_self ..
theorem unt_asc {d : Bs} (h : untB d = false) : d.all ascC = true := by
  cases e : d.all ascC with
  | true => rfl
  | false => unfold untB at h; rw [e] at h; cases h
theorem host_dom {d : Bs} (h1 : untB d = false) (h2 : cfB d = false) (hl : lowB d = d) : hostM d = domR d := by
  have ha : anyO d true = false := by rw [← cf_any (unt_asc h1)]; exact h2
  unfold hostM
  rw [pre91_no (any_no ha (by decide +kernel)), if_neg (by decide), decP_no (any_no ha (by decide +kernel)), hl]
theorem domR_cases (D : Bs) : (∃ e, domR D = noH e ∧ e ≠ 0) ∨ (untB D = false ∧ cfB D = false ∧ D ≠ [] ∧ ((end4 D = false ∧ domR D = (2, D, 0, z8, 0)) ∨ (end4 D = true ∧ fourO D = true ∧ domR D = (3, [], dotV D, z8, 0)))) := by
  unfold domR
  by_cases h1 : untB D = true
  · rw [if_pos h1]; exact .inl ⟨_, rfl, by decide⟩
  · rw [if_neg h1]
    by_cases h2 : D = [] ∨ cfB D = true
    · rw [if_pos h2]; exact .inl ⟨_, rfl, by decide⟩
    · rw [if_neg h2]
      have c1 : untB D = false := by cases h : untB D with
        | true => exact absurd h h1
        | false => rfl
      have c2 : cfB D = false := by cases h : cfB D with
        | true => exact absurd (Or.inr h) h2
        | false => rfl
      by_cases h3 : end4 D = false
      · rw [if_pos h3]; exact .inr ⟨c1, c2, fun g => h2 (.inl g), .inl ⟨h3, rfl⟩⟩
      · rw [if_neg h3]
        have c3 : end4 D = true := by cases h : end4 D with
          | true => rfl
          | false => exact absurd h h3
        by_cases h4 : fourO D = true
        · rw [if_pos h4]; exact .inr ⟨c1, c2, fun g => h2 (.inl g), .inr ⟨c3, h4, rfl⟩⟩
        · rw [if_neg h4]; exact .inl ⟨_, rfl, by decide⟩
theorem dec256_dig : ∀ m : _root_.Fin 256, (Lib.decDigits m.val).all (fun b => decide (48 ≤ b.toNat ∧ b.toNat ≤ 57)) = true := by decide +kernel
theorem showL_mem {n : Nat} (h : n < 4294967296) : ∀ b ∈ showL n, b.toNat = 46 ∨ (48 ≤ b.toNat ∧ b.toNat ≤ 57) := by
  have dig : ∀ m : Nat, m < 256 → ∀ b ∈ Lib.decDigits m, b.toNat = 46 ∨ (48 ≤ b.toNat ∧ b.toNat ≤ 57) := fun m hm b hb => .inr (of_decide_eq_true (List.all_eq_true.1 (dec256_dig ⟨m, hm⟩) b hb))
  intro b hb
  unfold showL at hb
  simp only [List.mem_append, List.mem_singleton] at hb
  rcases hb with (((((hb | hb) | hb) | hb) | hb) | hb) | hb
  · exact dig _ (by unfold q0; omega) b hb
  · subst hb; exact .inl rfl
  · exact dig _ (by unfold q1; omega) b hb
  · subst hb; exact .inl rfl
  · exact dig _ (by unfold q2; omega) b hb
  · subst hb; exact .inl rfl
  · exact dig _ (by unfold q3; omega) b hb
theorem scan_mem : ∀ l : Bs, scanX l = true → (120 : UInt8) ∈ l
  | [], h => by cases h
  | b :: r, h => by
    have h : (List.isPrefixOf [46, 120, 110, 45, 45] (b :: r) || scanX r) = true := h
    cases e : List.isPrefixOf [46, 120, 110, 45, 45] (b :: r) with
    | true => exact (List.isPrefixOf_iff_prefix.1 e).subset (by decide)
    | false => rw [e, Bool.false_or] at h; exact List.mem_cons_of_mem _ (scan_mem r h)
theorem nod_plain : ∀ m : _root_.Fin 256, (m.val = 46 ∨ (48 ≤ m.val ∧ m.val ≤ 57)) → oddB (m.val : Int) true = false ∧ ascC (UInt8.ofNat m.val) = true ∧ lowB1 (UInt8.ofNat m.val) = UInt8.ofNat m.val := by decide +kernel
theorem end_dec : ∀ m : _root_.Fin 256, endsB (digB 10 m.val) = true := by decide +kernel
theorem back_four {n : Nat} (h : n < 4294967296) : hostM (showL n) = (3, [], (n : Int), z8, 0) := by
  have hm := showL_mem h
  have hb : ∀ b ∈ showL n, oddB (b.toNat : Int) true = false ∧ ascC b = true ∧ lowB1 b = b := fun b g => by
    have := nod_plain ⟨b.toNat, b.toNat_lt⟩ (hm b g)
    dsimp only at this
    rw [UInt8.ofNat_toNat] at this
    exact this
  have hx : (120 : UInt8) ∉ showL n := fun g => by have := hm _ g; have e : (120 : UInt8).toNat = 120 := rfl; omega
  have ha : (showL n).all ascC = true := List.all_eq_true.2 fun b g => (hb b g).2.1
  have hu : untB (showL n) = false := by
    unfold untB
    rw [ha, show hasB (showL n) dxnL = scanX (showL n) from has_scan _]
    have e1 : scanX (showL n) = false := by cases e : scanX (showL n) with
      | true => exact absurd (scan_mem _ e) hx
      | false => rfl
    have e2 : preB (showL n) xnL = false := by cases e : preB (showL n) xnL with
      | true => exact absurd ((List.isPrefixOf_iff_prefix.1 (show List.isPrefixOf xnL (showL n) = true from e)).subset (by decide)) hx
      | false => rfl
    rw [e1, e2]; rfl
  have hc : cfB (showL n) = false := by
    rw [cf_any ha]
    exact List.any_eq_false.2 fun b g => by rw [(hb b g).1]; decide
  have hlw : lowB (showL n) = showL n := by
    unfold lowB
    conv => rhs; rw [← List.map_id (showL n)]
    exact List.map_congr_left fun b g => (hb b g).2.2
  have hr := show_reads n h
  have hn : dotV (showL n) = n := congrArg Prod.fst hr
  have ho : fourO (showL n) = true := congrArg Prod.snd hr
  have he : end4 (showL n) = true := by
    unfold end4
    rw [← splitB_lastK, show_parts n h]
    exact end_dec ⟨q3 n, by unfold q3; omega⟩
  have hne : showL n ≠ [] := fun g => by
    have := show_parts n h
    rw [g] at this
    exact absurd (congrArg List.length this) (show ¬ ((1 : Nat) = 4) by decide)
  rw [host_dom hu hc hlw]
  unfold domR
  rw [if_neg (by rw [hu]; decide), if_neg (fun g => g.elim hne fun g => by rw [hc] at g; cases g), if_neg (by rw [he]; decide), if_pos ho, hn]
theorem penc_mem (has l : Bs) : ∀ b ∈ penc has l, b = 37 ∨ (∃ m : _root_.Fin 16, b = up (m.val : Int)) ∨ b ∈ l := by
  induction l with
  | nil => intro b hb; cases hb
  | cons c t ih =>
    intro b hb
    have hb : b ∈ pe has c ++ penc has t := hb
    rcases List.mem_append.1 hb with hb | hb
    · unfold pe at hb
      have hc := c.toNat_lt
      split at hb
      · simp only [List.mem_cons, List.not_mem_nil, or_false] at hb
        rcases hb with rfl | rfl | rfl
        · exact .inl rfl
        · exact .inr (.inl ⟨⟨c.toNat / 16, by omega⟩, by simp⟩)
        · exact .inr (.inl ⟨⟨c.toNat % 16, by omega⟩, by simp⟩)
      · rw [List.mem_singleton] at hb; exact .inr (.inr (by rw [hb]; exact List.mem_cons_self ..))
    · rcases ih b hb with h | h | h
      · exact .inl h
      · exact .inr (.inl h)
      · exact .inr (.inr (List.mem_cons_of_mem _ h))
theorem odd_up : ∀ m : _root_.Fin 16, oddB ((up (m.val : Int)).toNat : Int) false = false := by decide +kernel
theorem in0 : ∀ m : _root_.Fin 256, inB (moreS 0) (m.val : Int) = false → m.val < 128 := by decide +kernel
theorem pencS_eq (l : Bs) : pencS l = penc (moreS 0) (plainL l) := by unfold pencS pencL; rw [if_pos (by decide)]
theorem back_opaque {s : Bs} (hc : conB s neverL = false) (hne : s ≠ []) : hostN (pencS s) = (5, pencS s, 0, z8, 0) := by
  have ho : anyO s false = false := by rw [← con_any]; exact hc
  have hf := set_free 0 (by decide)
  have hin : ∀ b ∈ pencS s, inB (moreS 0) (b.toNat : Int) = false := by rw [pencS_eq]; exact penc_all _ _ hf.1 hf.2
  have hlt : ∀ b ∈ pencS s, b.toNat < 128 := fun b hb => in0 ⟨b.toNat, b.toNat_lt⟩ (hin b hb)
  have hod : anyO (pencS s) false = false := by
    refine List.any_eq_false.2 fun b hb => ?_
    have hb2 := hb
    rw [pencS_eq] at hb2
    rcases penc_mem _ _ b hb2 with rfl | ⟨m, rfl⟩ | h
    · decide +kernel
    · rw [odd_up]; decide
    · rcases plain_mem _ s (Nat.le_refl _) b h with g | g
      · exact List.any_eq_false.1 ho b g
      · have := hlt b hb; omega
  have hpl : plainL (pencS s) = pencS s := plain_asc hlt
  have hpe : pencS (pencS s) = pencS s := by
    rw [pencS_eq (pencS s), hpl]
    refine penc_none _ _ fun i hi => ?_
    have := hin _ (List.getElem_mem hi)
    unfold byt
    rw [List.getD_eq_getElem?_getD, List.getElem?_eq_getElem hi]
    exact this
  have hn : pencS s ≠ [] := by
    rw [pencS_eq]
    have := plain_ne hne
    cases e : plainL s with
    | nil => exact absurd e this
    | cons c t =>
      intro g
      have g : pe (moreS 0) c ++ penc (moreS 0) t = [] := g
      have := (List.append_eq_nil_iff.1 g).1
      unfold pe at this
      split at this <;> cases this
  unfold hostN
  rw [pre91_no (any_no hod (by decide +kernel)), if_neg (by decide), con_any, hod, if_neg (by decide), if_neg hn, hpe]
theorem back_host (sp : Bool) (s : Bs) : (∃ e, hostX sp s = noH e ∧ e ≠ 0) ∨
    ((hostX sp s).2.2.2.2 = 0 ∧ (0 ≤ (hostX sp s).2.2.1 ∧ (hostX sp s).2.2.1 < 4294967296) ∧ IsP (hostX sp s).2.2.2.1 ∧ hostX sp (hshw (hostX sp s).1 (hostX sp s).2.1 (hostX sp s).2.2.1 (hostX sp s).2.2.2.1) = hostX sp s) := by
  have six4 : ∀ p, IsP p → hostX sp (hshw 4 [] 0 p) = (4, [], 0, p, 0) := fun p hp => by
    have e : hshw 4 [] 0 p = 91 :: (shw p ++ [93]) := by unfold hshw; rw [if_pos rfl]
    rw [e]
    unfold hostX hostM hostN
    rw [pre91_cons, if_pos rfl, if_pos rfl, show (91 :: (shw p ++ [93])).drop 1 = shw p ++ [93] from rfl, sixR_shw p hp]
    split <;> rfl
  by_cases hp : preB s [91] = true
  · have hx : hostX sp s = sixR (s.drop 1) := by
      unfold hostX hostM hostN
      rw [if_pos hp, if_pos hp]
      split <;> rfl
    rcases sixR_cases (s.drop 1) with ⟨p, e, h⟩ | e
    · right
      rw [hx, e]
      exact ⟨rfl, ⟨Int.le_refl _, show (0 : Int) < 4294967296 by decide⟩, h, six4 p h⟩
    · exact .inl ⟨8, by rw [hx, e], by decide⟩
  · cases sp with
    | true =>
      have hx : hostX true s = domR (lowB (decP s)) := by unfold hostX hostM; rw [if_pos rfl, if_neg hp]
      rcases domR_cases (lowB (decP s)) with ⟨e, h, h0⟩ | ⟨h1, h2, h3, ⟨h4, h⟩ | ⟨h4, h5, h⟩⟩
      · exact .inl ⟨e, by rw [hx, h], h0⟩
      · right
        have e : hshw 2 (lowB (decP s)) 0 z8 = lowB (decP s) := by unfold hshw; rw [if_neg (by decide), if_neg (by decide), if_pos (.inl rfl)]
        rw [hx, h]
        refine ⟨rfl, ⟨Int.le_refl _, show (0 : Int) < 4294967296 by decide⟩, z8_isP, ?_⟩
        show hostX true (hshw 2 (lowB (decP s)) 0 z8) = _
        rw [e]
        unfold hostX
        rw [if_pos rfl, host_dom h1 h2 (low_low _), h]
      · right
        have hb := dotV_bd (lowB (decP s))
        have e : hshw 3 [] (dotV (lowB (decP s))) z8 = showL (dotV (lowB (decP s))).toNat := by unfold hshw; rw [if_neg (by decide), if_pos rfl]
        rw [hx, h]
        refine ⟨rfl, hb, z8_isP, ?_⟩
        show hostX true (hshw 3 [] (dotV (lowB (decP s))) z8) = _
        rw [e]
        unfold hostX
        rw [if_pos rfl, back_four (by omega), Int.toNat_of_nonneg hb.1]
    | false =>
      have hx : hostX false s = if conB s neverL = true then noH 8 else if s = [] then (1, [], 0, z8, 0) else (5, pencS s, 0, z8, 0) := by
        unfold hostX hostN; rw [if_neg (by decide), if_neg hp]
      by_cases hc : conB s neverL = true
      · rw [if_pos hc] at hx; exact .inl ⟨8, hx, by decide⟩
      · have hc' : conB s neverL = false := by cases e : conB s neverL with
          | true => exact absurd e hc
          | false => rfl
        rw [if_neg hc] at hx
        right
        by_cases hs : s = []
        · rw [if_pos hs] at hx
          subst hs
          rw [hx]
          exact ⟨rfl, ⟨Int.le_refl _, show (0 : Int) < 4294967296 by decide⟩, z8_isP, hx⟩
        · rw [if_neg hs] at hx
          have e : hshw 5 (pencS s) 0 z8 = pencS s := by unfold hshw; rw [if_neg (by decide), if_neg (by decide), if_pos (.inr rfl)]
          rw [hx]
          refine ⟨rfl, ⟨Int.le_refl _, show (0 : Int) < 4294967296 by decide⟩, z8_isP, ?_⟩
          show hostX false (hshw 5 (pencS s) 0 z8) = _
          rw [e]
          unfold hostX
          rw [if_neg (by decide), back_opaque hc' hs]
theorem ok_hparseA (l : Bs) (sp : Bool) : FuncOk Tryd.prog noT 5 [.str l, .bool sp] ⟨l.length ≤ 300000, .tup [.agg [.int .i64 (hostX sp l).1, .str (hostX sp l).2.1, .int .u32 (hostX sp l).2.2.1, .arr 8 (.ints .u16 (hostX sp l).2.2.2.1)], .int .i64 (hostX sp l).2.2.2.2]⟩ := by
  cases sp with
  | true => exact (ok_hparse l).to (fun h => Nat.le_trans h (by decide)) (fun _ => rfl)
  | false => exact ok_hparseN l
def ent_hparseA : List PV → Option CallR := fun xs => match xs with | [.str l, .bool sp] => some ⟨l.length ≤ 300000, .tup [.agg [.int .i64 (hostX sp l).1, .str (hostX sp l).2.1, .int .u32 (hostX sp l).2.2.1, .arr 8 (.ints .u16 (hostX sp l).2.2.2.1)], .int .i64 (hostX sp l).2.2.2.2]⟩ | _ => none
theorem ent_hparseA_ok : ∀ xs c, ent_hparseA xs = some c → FuncOk Tryd.prog noT 5 xs c := fun xs c h => by
  unfold ent_hparseA at h
  split at h
  · injection h with h; subst h; exact ok_hparseA _ _
  · cases h
section
theorem dec5 (a b c d e : Prop) [Decidable a] [Decidable b] [Decidable c] [Decidable d] [Decidable e] : (bif decide a then @Bool.rec (fun _ => Bool) false (decide c && (decide d && (decide e && true))) (decide b) else false) = decide (a ∧ b ∧ c ∧ d ∧ e) := by
  by_cases h1 : a <;> by_cases h2 : b <;> by_cases h3 : c <;> by_cases h4 : d <;> by_cases h5 : e <;> simp [h1, h2, h3, h4, h5]
def hmayB (kd : Int) (l : Bs) (n : Int) (p : List Int) (sp : Bool) : Bool := decide ((hostX sp (hshw kd l n p)).2.2.2.2 = 0 ∧ (hostX sp (hshw kd l n p)).1 = kd ∧ (hostX sp (hshw kd l n p)).2.1 = l ∧ (hostX sp (hshw kd l n p)).2.2.1 = n ∧ (hostX sp (hshw kd l n p)).2.2.2.1 = p)
def X_gmay : Tbl := tblX [(6, ent_gshow), (5, ent_hparseA)]
def H_gmay (kd : Int) (l : Bs) (n : Int) (p : List Int) (sp : Bool) : Loops := fun i => none
theorem X_gmay_ok : XOk Tryd.prog noT X_gmay := tblX_cons ent_gshow_ok (tblX_cons ent_hparseA_ok (tblX_nil))
theorem vc_gmay (kd : Int) (l : Bs) (n : Int) (p : List Int) (sp : Bool) (k : PV → Prop) : evF Tryd.prog X_gmay noT (H_gmay kd l n p sp) 1000 Tryd.f7 [.agg [.int .i64 kd, .str l, .int .u32 n, .arr 8 (.ints .u16 p)], .bool sp] k = (
  (List.length l ≤ (2000 : Nat) ∧ (0 : Int) ≤ n ∧ n < (4294967296 : Int) ∧ IsP p) ∧
 (List.length (hshw kd l n p)).le (300000 : Nat) ∧
 k
 (PV.bool
 (bif decide ((hostX sp (hshw kd l n p)).2.2.2.2 = (0 : Int)) then
 Bool.rec false
 (decide ((hostX sp (hshw kd l n p)).2.1 = l) &&
 (decide ((hostX sp (hshw kd l n p)).2.2.1 = n) &&
 (decide ((hostX sp (hshw kd l n p)).2.2.2.1 = p) && true)))
 (decide ((hostX sp (hshw kd l n p)).1 = kd))
 else false))) := by kernel_rfl
attribute [local irreducible] Go.Vc.evF
theorem ok_gmay (kd : Int) (l : Bs) (n : Int) (p : List Int) (sp : Bool) : FuncOk Tryd.prog noT 7 [.agg [.int .i64 kd, .str l, .int .u32 n, .arr 8 (.ints .u16 p)], .bool sp] ⟨l.length ≤ 2000 ∧ 0 ≤ n ∧ n < 4294967296 ∧ IsP p, .bool (hmayB kd l n p sp)⟩ := evF_ok (by kernel_rfl) X_gmay_ok (H := H_gmay kd l n p sp) (fuel := 1000) Tryd.func7 (by kernel_rfl) fun hpre => (vc_gmay kd l n p sp _).mpr (by
  obtain ⟨hl, h0, h1, hp⟩ := hpre
  refine ⟨⟨hl, h0, h1, hp⟩, Nat.le_trans (hshw_len hl h0 h1) (by decide), congrArg PV.bool ?_⟩
  exact dec5 _ _ _ _ _)
def ent_gmay : List PV → Option CallR := fun xs => match xs with
  | [.agg [.int .i64 kd, .str l, .int .u32 n, .arr 8 (.ints .u16 p)], .bool sp] => some ⟨l.length ≤ 2000 ∧ 0 ≤ n ∧ n < 4294967296 ∧ IsP p, .bool (hmayB kd l n p sp)⟩
  | _ => none
theorem ent_gmay_ok : ∀ xs c, ent_gmay xs = some c → FuncOk Tryd.prog noT 7 xs c := fun xs c h => by
  unfold ent_gmay at h
  split at h
  · injection h with h; subst h; exact ok_gmay _ _ _ _ _
  · cases h
end
section
theorem plain_len3 : ∀ (n : Nat) (l : Bs), l.length ≤ n → (plainL l).length ≤ 3 * l.length := by
  intro n
  induction n with
  | zero =>
    intro l h
    have : l = [] := List.eq_nil_of_length_eq_zero (by omega)
    subst this; exact Nat.le_refl _
  | succ n ih =>
    intro l h
    by_cases h0 : l.length = 0
    · have : l = [] := List.eq_nil_of_length_eq_zero h0
      subst this; exact Nat.le_refl _
    · have hn := nextL_n l (by omega)
      have h1 := ih (l.drop (nextL l).2.1) (by rw [List.length_drop]; omega)
      rw [List.length_drop] at h1
      rw [plain_cons l (by omega), List.length_append]
      rcases next_told l (by omega) with e | e
      · rw [e, List.length_take]; omega
      · rw [e]; show 3 + _ ≤ _; omega
theorem host_len (sp : Bool) (l : Bs) : (hostX sp l).2.1.length ≤ 9 * l.length := by
  have h1 : (pencS l).length ≤ 9 * l.length := by
    rw [pencS_eq]
    have := penc_len (moreS 0) (plainL l)
    have := plain_len3 _ l (Nat.le_refl _)
    omega
  have h2 : (lowB (decP l)).length ≤ l.length := by rw [lowB_len]; exact decP_len l
  unfold hostX hostM hostN sixR domR
  (repeat' split) <;> first | exact Nat.zero_le _ | exact h1 | exact Nat.le_trans h2 (by omega)
def X_hback : Tbl := tblX [(5, ent_hparseA), (6, ent_gshow), (7, ent_gmay), (4, ent_awake)]
def H_hback (l : Bs) (sp : Bool) : Loops := fun i => none
theorem X_hback_ok : XOk Tryd.prog noT X_hback := tblX_cons ent_hparseA_ok (tblX_cons ent_gshow_ok (tblX_cons ent_gmay_ok (tblX_cons ent_awake_ok (tblX_nil))))
theorem vc_hback (l : Bs) (sp : Bool) (k : PV → Prop) : evF Tryd.prog X_hback noT (H_hback l sp) 1000 Tryd.f3 [.str l, .bool sp] k = (
  (decide ((120 : Int) < lenZ l) = true → True ∧ k (PV.bool true)) ∧
 (decide ((120 : Int) < lenZ l) = false →
 (List.length l).le (300000 : Nat) ∧
 ((!decide ((hostX sp l).2.2.2.2 = (0 : Int))) = true →
 (Bool.rec false
 (decide ((hostX sp l).2.1 = []) &&
 (decide ((hostX sp l).2.2.1 = (0 : Int)) &&
 (decide ((hostX sp l).2.2.2.1 = List.replicate (8 : Nat) (0 : Int)) && true)))
 (decide ((hostX sp l).1 = (0 : Int))) =
 true →
 True) ∧
 k
 (PV.bool
 (bif
 Bool.rec false
 (decide ((hostX sp l).2.1 = []) &&
 (decide ((hostX sp l).2.2.1 = (0 : Int)) &&
 (decide ((hostX sp l).2.2.2.1 = List.replicate (8 : Nat) (0 : Int)) && true)))
 (decide ((hostX sp l).1 = (0 : Int))) then
 true
 else false))) ∧
 ((!decide ((hostX sp l).2.2.2.2 = (0 : Int))) = false →
 (List.length (hostX sp l).2.1 ≤ (2000 : Nat) ∧
 (0 : Int) ≤ (hostX sp l).2.2.1 ∧
 (hostX sp l).2.2.1 < (4294967296 : Int) ∧
 IsP (hostX sp l).2.2.2.1) ∧
 (List.length
 (hshw (hostX sp l).1 (hostX sp l).2.1
 (hostX sp l).2.2.1 (hostX sp l).2.2.2.1)).le
 (300000 : Nat) ∧
 ((bif
 decide
 ((hostX sp
 (hshw (hostX sp l).1
 (hostX sp l).2.1 (hostX sp l).2.2.1
 (hostX sp l).2.2.2.1)).2.2.2.2 =
 (0 : Int)) then
 Bool.rec false
 (decide
 ((hostX sp
 (hshw (hostX sp l).1
 (hostX sp l).2.1 (hostX sp l).2.2.1
 (hostX sp l).2.2.2.1)).2.1 =
 (hostX sp l).2.1) &&
 (decide
 ((hostX sp
 (hshw (hostX sp l).1
 (hostX sp l).2.1 (hostX sp l).2.2.1
 (hostX sp l).2.2.2.1)).2.2.1 =
 (hostX sp l).2.2.1) &&
 (decide
 ((hostX sp
 (hshw (hostX sp l).1
 (hostX sp l).2.1 (hostX sp l).2.2.1
 (hostX sp l).2.2.2.1)).2.2.2.1 =
 (hostX sp l).2.2.2.1) &&
 true)))
 (decide
 ((hostX sp
 (hshw (hostX sp l).1
 (hostX sp l).2.1 (hostX sp l).2.2.1
 (hostX sp l).2.2.2.1)).1 =
 (hostX sp l).1))
 else false) =
 true →
 List.length (hostX sp l).2.1 ≤ (2000 : Nat) ∧
 (0 : Int) ≤ (hostX sp l).2.2.1 ∧
 (hostX sp l).2.2.1 < (4294967296 : Int) ∧
 IsP (hostX sp l).2.2.2.1) ∧
 ((bif
 bif
 decide
 ((hostX sp
 (hshw (hostX sp l).1
 (hostX sp l).2.1 (hostX sp l).2.2.1
 (hostX sp l).2.2.2.1)).2.2.2.2 =
 (0 : Int)) then
 Bool.rec false
 (decide
 ((hostX sp
 (hshw (hostX sp l).1
 (hostX sp l).2.1 (hostX sp l).2.2.1
 (hostX sp l).2.2.2.1)).2.1 =
 (hostX sp l).2.1) &&
 (decide
 ((hostX sp
 (hshw (hostX sp l).1
 (hostX sp l).2.1 (hostX sp l).2.2.1
 (hostX sp l).2.2.2.1)).2.2.1 =
 (hostX sp l).2.2.1) &&
 (decide
 ((hostX sp
 (hshw (hostX sp l).1
 (hostX sp l).2.1 (hostX sp l).2.2.1
 (hostX sp l).2.2.2.1)).2.2.2.1 =
 (hostX sp l).2.2.2.1) &&
 true)))
 (decide
 ((hostX sp
 (hshw (hostX sp l).1
 (hostX sp l).2.1 (hostX sp l).2.2.1
 (hostX sp l).2.2.2.1)).1 =
 (hostX sp l).1))
 else false then
 hmayB (hostX sp l).1 (hostX sp l).2.1
 (hostX sp l).2.2.1 (hostX sp l).2.2.2.1 sp
 else false) =
 true →
 True) ∧
 k
 (PV.bool
 (bif
 bif
 bif
 decide
 ((hostX sp
 (hshw (hostX sp l).1
 (hostX sp l).2.1 (hostX sp l).2.2.1
 (hostX sp l).2.2.2.1)).2.2.2.2 =
 (0 : Int)) then
 Bool.rec false
 (decide
 ((hostX sp
 (hshw (hostX sp l).1
 (hostX sp l).2.1 (hostX sp l).2.2.1
 (hostX sp l).2.2.2.1)).2.1 =
 (hostX sp l).2.1) &&
 (decide
 ((hostX sp
 (hshw (hostX sp l).1
 (hostX sp l).2.1 (hostX sp l).2.2.1
 (hostX sp l).2.2.2.1)).2.2.1 =
 (hostX sp l).2.2.1) &&
 (decide
 ((hostX sp
 (hshw (hostX sp l).1
 (hostX sp l).2.1
 (hostX sp l).2.2.1
 (hostX sp l).2.2.2.1)).2.2.2.1 =
 (hostX sp l).2.2.2.1) &&
 true)))
 (decide
 ((hostX sp
 (hshw (hostX sp l).1
 (hostX sp l).2.1 (hostX sp l).2.2.1
 (hostX sp l).2.2.2.1)).1 =
 (hostX sp l).1))
 else false then
 hmayB (hostX sp l).1
 (hostX sp l).2.1 (hostX sp l).2.2.1
 (hostX sp l).2.2.2.1 sp
 else false then
 true
 else false))))) := by kernel_rfl
attribute [local irreducible] Go.Vc.evF
theorem ok_hback (l : Bs) (sp : Bool) : FuncOk Tryd.prog noT 3 [.str l, .bool sp] ⟨True, .bool true⟩ := evF_ok (by kernel_rfl) X_hback_ok (H := H_hback l sp) (fuel := 1000) Tryd.func3 (by kernel_rfl) fun hpre => (vc_hback l sp _).mpr (by
  refine ⟨fun _ => ⟨trivial, rfl⟩, fun h => ?_⟩
  have hl : l.length ≤ 120 := by have := of_decide_eq_false h; unfold lenZ at this; omega
  have hlen := host_len sp l
  rcases back_host sp l with ⟨e, he, h0⟩ | ⟨h0, h1, h2, h3⟩
  · rw [he]
    refine ⟨Nat.le_trans hl (by decide), fun _ => ⟨fun _ => trivial, rfl⟩, fun g => ?_⟩
    exfalso
    rw [decide_eq_false (show ¬ (noH e).2.2.2.2 = 0 from h0)] at g
    cases g
  · obtain ⟨H, hH⟩ : ∃ H, hostX sp l = H := ⟨_, rfl⟩
    rw [hH] at h0 h1 h2 h3 hlen ⊢
    have hL : H.2.1.length ≤ 2000 := by omega
    have hm : hmayB H.1 H.2.1 H.2.2.1 H.2.2.2.1 sp = true := by
      unfold hmayB
      rw [h3]
      exact decide_eq_true ⟨h0, rfl, rfl, rfl, rfl⟩
    rw [h3, hm, h0]
    refine ⟨Nat.le_trans hl (by decide), fun g => absurd g (by decide), fun g => ⟨⟨hL, h1.1, h1.2, h2⟩, Nat.le_trans (hshw_len hL h1.1 h1.2) (by decide), fun _ => ⟨hL, h1.1, h1.2, h2⟩, fun _ => trivial, ?_⟩⟩
    rw [decide_eq_true (rfl : H.1 = H.1), decide_eq_true (rfl : H.2.1 = H.2.1), decide_eq_true (rfl : H.2.2.1 = H.2.2.1), decide_eq_true (rfl : H.2.2.2.1 = H.2.2.2.1)]
    rfl)
end
theorem HostBack_walk (a0 : ByteArray) (a1 : Bool) (w : World) (w0 : a0.size ≤ maxLen) (htab : TabH w) :
    Calls Tryd.prog 3 #[.string a0, .bool a1] w fun e w' => e = .returned (.bool true) ∧ Below w.heap.size w w' := by
  have hx : RepL' [.str a0.data.toList, .bool a1] (bareG fun _ _ => none) w [.string a0, .bool a1] := ⟨_, _, rfl, rfl, _, _, rfl, rfl, rfl⟩
  exact FuncOk.yes (fn := Tryd.f3) Tryd.func3 (by kernel_rfl) rfl (ok_hback a0.data.toList a1) htab hx
end Go.Proofs.YtaphadmcjimmeaaDoor
