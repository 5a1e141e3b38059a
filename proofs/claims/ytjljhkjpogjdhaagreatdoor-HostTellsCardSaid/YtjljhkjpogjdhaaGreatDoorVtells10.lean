/- The function gossamer/gossamerlaw10.HostTells does what is told of it. -/
import Derived.Test.YtjljhkjpogjdhaaGreatDoorR3
import Derived.Test.YtjljhkjpogjdhaaGreatDoorProg
import Derived.ProofKit
import Derived.Test.YtjljhkjpogjdhaaGreatDoorQ2
import Derived.Test.YtjljhkjpogjdhaaGreatDoorD1
import Derived.Test.YtjljhkjpogjdhaaGreatDoorF1
set_option linter.unusedVariables false
set_option linter.unusedSimpArgs false
set_option maxRecDepth 100000
set_option maxHeartbeats 4000000
namespace Go.Proofs.YtjljhkjpogjdhaaGreatDoor
open Go Go.Proofs Go.RowKit Go.Vc

def scanX : Bs → Bool
  | [] => false
  | b :: r => List.isPrefixOf [46, 120, 110, 45, 45] (b :: r) || scanX r
theorem has_scan : ∀ l : Bs, hasB l [46, 120, 110, 45, 45] = scanX l
  | [] => rfl
  | b :: r => by
    have ih := has_scan r
    unfold hasB Lib.contains at ih ⊢
    have hge : -1 ≤ Lib.index r [46, 120, 110, 45, 45] := by
      have : ∀ l : Bs, -1 ≤ Lib.index l [46, 120, 110, 45, 45] := fun l => by
        induction l with
        | nil => decide
        | cons a l ih =>
          show -1 ≤ (if List.isPrefixOf [46, 120, 110, 45, 45] (a :: l) then 0 else if Lib.index l [46, 120, 110, 45, 45] == -1 then -1 else Lib.index l [46, 120, 110, 45, 45] + 1 : Int)
          (repeat' split) <;> omega
      exact this r
    show decide (0 ≤ (if List.isPrefixOf [46, 120, 110, 45, 45] (b :: r) then 0 else if Lib.index r [46, 120, 110, 45, 45] == -1 then -1 else Lib.index r [46, 120, 110, 45, 45] + 1 : Int)) = (List.isPrefixOf [46, 120, 110, 45, 45] (b :: r) || scanX r)
    rw [← ih]
    cases List.isPrefixOf [46, 120, 110, 45, 45] (b :: r) with
    | true => rfl
    | false =>
      simp only [Bool.false_eq_true, if_false, Bool.false_or]
      rw [decide_eq_decide]
      split
      · rename_i h; have := eq_of_beq h; omega
      · rename_i h; have : ¬ Lib.index r [46, 120, 110, 45, 45] = -1 := fun e => h (by rw [e]; rfl)
        omega
theorem split_head : ∀ (t : Bs) (q : Bs), (∀ b ∈ q, b.toNat ≠ 46) → List.isPrefixOf q ((splitB 46 t).headD []) = List.isPrefixOf q t
  | [], q, _ => rfl
  | b :: t, q, hq => by
    have ih := split_head t
    unfold splitB
    by_cases hb : (b.toNat : Int) = 46
    · rw [if_pos hb]
      cases q with
      | nil => rfl
      | cons c q =>
        show false = ((c == b) && _)
        have : (c == b) = false := by rw [beq_eq_false_iff_ne]; intro e; exact hq c (List.mem_cons_self ..) (by rw [e]; omega)
        rw [this]; rfl
    · rw [if_neg hb]
      have hne := splitB_ne 46 t
      cases hs : splitB 46 t with
      | nil => exact absurd hs hne
      | cons p ps =>
        rw [hs] at ih
        cases q with
        | nil => rfl
        | cons c q =>
          show ((c == b) && List.isPrefixOf q p) = ((c == b) && List.isPrefixOf q t)
          rw [show List.isPrefixOf q p = List.isPrefixOf q t from ih q (fun x hx => hq x (List.mem_cons_of_mem _ hx))]
theorem split_tail : ∀ t : Bs, (splitB 46 t).tail.any (fun p => List.isPrefixOf xnL p) = scanX t
  | [] => rfl
  | b :: t => by
    have ih := split_tail t
    have ihh := split_head t xnL (by decide)
    have hne := splitB_ne 46 t
    unfold splitB
    by_cases hb : (b.toNat : Int) = 46
    · rw [if_pos hb]
      have e : b = 46 := UInt8.toNat_inj.1 (by have : (46 : UInt8).toNat = 46 := rfl; omega)
      subst e
      show (splitB 46 t).any _ = (List.isPrefixOf xnL t || scanX t)
      cases hs : splitB 46 t with
      | nil => exact absurd hs hne
      | cons p ps =>
        rw [hs] at ih ihh
        rw [List.any_cons, show List.isPrefixOf xnL p = List.isPrefixOf xnL t from ihh, show ps.any _ = scanX t from ih]
    · rw [if_neg hb]
      have hx : scanX (b :: t) = scanX t := by
        show ((46 == b) && _ || scanX t) = scanX t
        have : ((46 : UInt8) == b) = false := by rw [beq_eq_false_iff_ne]; intro e; exact hb (by rw [← e]; rfl)
        rw [this]; rfl
      rw [hx, ← ih]
      cases hs : splitB 46 t with
      | nil => exact absurd hs hne
      | cons p ps => rfl
theorem for_is (l : Bs) : forB l = untB l := by
  unfold forB untB
  rw [show hasB l dxnL = scanX l from has_scan l, ← split_tail l]
  have hh := split_head l xnL (by decide)
  have hne := splitB_ne 46 l
  cases hs : splitB 46 l with
  | nil => exact absurd hs hne
  | cons p ps =>
    rw [hs] at hh
    rw [List.any_cons, show List.isPrefixOf xnL p = List.isPrefixOf xnL l from hh, ← Bool.or_assoc]
    rfl
theorem nod_odd : ∀ n : Fin 256, nodB (n.val : Int) = oddB (n.val : Int) true := by decide +kernel
theorem nev_odd : ∀ n : Fin 256, neverL.contains (UInt8.ofNat n.val) = oddB (n.val : Int) false := by decide +kernel
theorem idx_any (p : Nat → Bool) (l : Bs) (h : ∀ b ∈ l, b.toNat < 128) : ∀ (f pos : Nat), l.length ≤ pos + f → decide (0 ≤ Lib.idxFuncFrom p true ⟨l.toArray⟩ f pos) = (l.drop pos).any (fun b => p b.toNat)
  | 0, pos, hf => by
    rw [List.drop_eq_nil_of_le (by omega)]; rfl
  | f + 1, pos, hf => by
    unfold Lib.idxFuncFrom
    have hsz : (⟨l.toArray⟩ : ByteArray).size = l.length := by show l.toArray.size = _; simp
    by_cases hp : pos < l.length
    · have hp2 : pos < (⟨l.toArray⟩ : ByteArray).size := by rw [hsz]; exact hp
      have e : (⟨l.toArray⟩ : ByteArray)[pos]'hp2 = l[pos]'hp := by show l.toArray[pos]'(by simpa using hp) = _; simp
      rw [if_pos hp2, decode_ascii _ pos hp2 (by rw [e]; exact h _ (List.getElem_mem hp)), e, List.drop_eq_getElem_cons hp, List.any_cons]
      dsimp only
      cases hc : p (l[pos]'hp).toNat with
      | true => rw [if_pos rfl]; simp
      | false => rw [if_neg (by decide), Bool.false_or]; exact idx_any p l h f (pos + 1) (by omega)
    · rw [if_neg (by rw [hsz]; exact hp), List.drop_eq_nil_of_le (by omega)]; rfl
theorem cf_any {l : Bs} (h : l.all ascC = true) : cfB l = anyO l true := by
  unfold cfB Lib.idxFunc anyO
  rw [idx_any _ l (fun b hb => by have := List.all_eq_true.1 h b hb; unfold ascC at this; have := of_decide_eq_true this; omega) _ 0 (by rw [show (⟨l.toArray⟩ : ByteArray).size = l.length by show l.toArray.size = _; simp]; omega)]
  show l.any _ = l.any _
  congr 1
  funext b
  exact nod_odd ⟨b.toNat, b.toNat_lt⟩
theorem con_any (l : Bs) : conB l neverL = anyO l false := by
  unfold conB Lib.containsAny anyO
  induction l with
  | nil => rfl
  | cons b r ih =>
    have hge := Lib.indexAny_ge neverL r
    have hb : neverL.contains b = oddB (b.toNat : Int) false := by
      have := nev_odd ⟨b.toNat, b.toNat_lt⟩
      dsimp only at this
      rw [UInt8.ofNat_toNat] at this
      exact this
    rw [List.any_cons, ← ih, show Lib.indexAny (b :: r) neverL = if neverL.contains b then 0 else if Lib.indexAny r neverL == -1 then -1 else Lib.indexAny r neverL + 1 from rfl, hb]
    cases oddB (b.toNat : Int) false with
    | true => simp
    | false =>
      rw [Bool.false_or]
      simp only [Bool.false_eq_true, if_false]
      by_cases h : Lib.indexAny r neverL = -1
      · rw [h]; rfl
      · have : (Lib.indexAny r neverL == -1) = false := by rw [beq_eq_false_iff_ne]; exact h
        rw [this]
        simp only [Bool.false_eq_true, if_false]
        rw [decide_eq_decide]
        omega
theorem suf_last (t : Bs) : sufB t [93] = decide (0 < t.length ∧ byt t (t.length - 1) = 93) := by
  unfold sufB lenZ dropZ
  by_cases h : 0 < t.length
  · rw [decide_eq_true (show (([93] : Bs).length : Int) ≤ (t.length : Int) by show (1 : Int) ≤ _; omega)]
    show decide (t.drop ((t.length : Int) - 1).toNat = [93]) = _
    rw [show ((t.length : Int) - 1).toNat = t.length - 1 by omega, List.drop_eq_getElem_cons (by omega), show t.length - 1 + 1 = t.length by omega, List.drop_length, decide_eq_decide]
    have hb : byt t (t.length - 1) = ((t[t.length - 1]'(by omega)).toNat : Int) := by
      unfold byt; rw [List.getD_eq_getElem?_getD, List.getElem?_eq_getElem (by omega)]; rfl
    rw [hb]
    simp only [List.cons.injEq, and_true]
    exact ⟨fun g => ⟨h, by rw [g]; rfl⟩, fun g => UInt8.toNat_inj.1 (by have := g.2; have h2 : (93 : UInt8).toNat = 93 := rfl; omega)⟩
  · rw [decide_eq_false (show ¬ (([93] : Bs).length : Int) ≤ (t.length : Int) by show ¬ (1 : Int) ≤ _; omega), cond_false]
    symm
    exact decide_eq_false fun g => h g.1
theorem pre91_is (l : Bs) : preB l [91] = decide (0 < l.length ∧ byt l 0 = 91) := by
  unfold preB Lib.hasPrefix
  cases l with
  | nil => rfl
  | cons b r =>
    show ((91 : UInt8) == b && true) = decide (0 < (b :: r).length ∧ (b.toNat : Int) = 91)
    rw [Bool.and_true, Bool.eq_iff_iff, beq_iff_eq, decide_eq_true_iff, ← UInt8.toNat_inj]
    have h2 : (91 : UInt8).toNat = 91 := rfl
    rw [List.length_cons]
    omega
def sixOf (R : Bs → List Int × Bool) (l : Bs) : H5 := if byt l (l.length - 1) = 93 ∧ (R ((l.take (l.length - 1)).drop 1)).2 = true then (4, [], 0, (R ((l.take (l.length - 1)).drop 1)).1, 0) else noH 8
theorem sixR_is (l : Bs) (h : 0 < l.length ∧ byt l 0 = 91) : sixR (l.drop 1) = sixOf six l := by
  cases l with
  | nil => exact absurd h.1 (by decide)
  | cons b t =>
    have hb : (b.toNat : Int) = 91 := h.2
    show sixR t = _
    unfold sixR sixOf cutS
    rw [suf_last]
    by_cases ht : 0 < t.length
    · have e1 : byt (b :: t) ((b :: t).length - 1) = byt t (t.length - 1) := by
        rw [List.length_cons, show t.length + 1 - 1 = (t.length - 1) + 1 by omega, bytS]
      have e2 : ((b :: t).take ((b :: t).length - 1)).drop 1 = t.take (t.length - 1) := by
        rw [List.length_cons, show t.length + 1 - 1 = (t.length - 1) + 1 by omega]; rfl
      have e3 : takeZ t (lenZ t - lenZ ([93] : Bs)) = t.take (t.length - 1) := by
        unfold takeZ lenZ
        rw [show ((t.length : Int) - (([93] : Bs).length : Int)).toNat = t.length - 1 by show ((t.length : Int) - 1).toNat = _; omega]
      rw [e1, e2, e3]
      by_cases hc : byt t (t.length - 1) = 93
      · rw [decide_eq_true (show 0 < t.length ∧ byt t (t.length - 1) = 93 from ⟨ht, hc⟩), if_pos rfl]
        dsimp only
        by_cases hd : (six (t.take (t.length - 1))).2 = true
        · rw [if_pos ⟨rfl, hd⟩, if_pos ⟨hc, hd⟩]
        · rw [if_neg (fun g => hd g.2), if_neg (fun g => hd g.2)]
      · rw [decide_eq_false (fun g => hc g.2)]
        show (if false = true ∧ (six t).2 = true then ((4 : Int), ([] : Bs), (0 : Int), (six t).1, (0 : Int)) else noH 8) = _
        rw [if_neg (fun g => by cases g.1), if_neg (fun g => hc g.1)]
    · have e : t = [] := List.length_eq_zero_iff.1 (by omega)
      subst e
      rw [decide_eq_false (fun g => ht g.1)]
      show (if false = true ∧ (six []).2 = true then ((4 : Int), ([] : Bs), (0 : Int), (six []).1, (0 : Int)) else noH 8) = _
      rw [if_neg (fun g => by cases g.1), if_neg]
      intro g
      have g2 : (b.toNat : Int) = 93 := g.1
      omega

theorem rdom_is (d : Bs) : domR d = rdomR d := by
  unfold domR rdomR
  rw [for_is, rend_is]
  by_cases hu : untB d = true
  · rw [if_pos hu, if_pos hu]
  · have ha : d.all ascC = true := by
      cases e : d.all ascC with
      | true => rfl
      | false => exact absurd (by unfold untB; rw [e]; rfl) hu
    rw [if_neg hu, if_neg hu, cf_any ha]
    by_cases h : d = [] ∨ anyO d true = true
    · rw [if_pos h, if_pos h]
    · rw [if_neg h, if_neg h]
      cases end4 d with
      | false => rw [if_pos rfl, if_neg (by decide)]
      | true => rw [if_neg (by decide), if_pos rfl]
theorem sixR_ref (l : Bs) (h : 0 < l.length ∧ byt l 0 = 91) : sixR (l.drop 1) = rsixR l := by
  rw [sixR_is l h, show six = refSix from funext six_ref]
  rfl
theorem host_ref (l : Bs) : hostM l = refH l true := by
  unfold hostM refH
  rw [pre91_is]
  by_cases h : 0 < l.length ∧ byt l 0 = 91
  · rw [decide_eq_true h, if_pos rfl, if_pos h, sixR_ref l h]
  · rw [decide_eq_false h, if_neg (by decide), if_neg h, if_neg (by decide), rdom_is]
theorem hostN_ref (l : Bs) : hostN l = refH l false := by
  unfold hostN refH
  rw [pre91_is, con_any, show pencS l = rencS l from (renc_eq 0 l).symm]
  by_cases h : 0 < l.length ∧ byt l 0 = 91
  · rw [decide_eq_true h, if_pos rfl, if_pos h, sixR_ref l h]
  · rw [decide_eq_false h, if_neg (by decide), if_neg h, if_pos rfl]

def X_tells10 : Tbl := tblX [(6, ent_hparse), (6, ent_hparseN), (7, ent_rhost), (5, ent_awake)]
def H_tells10 (l : Bs) : Loops := fun i => none
theorem X_tells10_ok : XOk Tryz.prog noT X_tells10 := tblX_cons ent_hparse_ok (tblX_cons ent_hparseN_ok (tblX_cons ent_rhost_ok (tblX_cons ent_awake_ok (tblX_nil))))
theorem vc_tells10 (l : Bs) (k : PV → Prop) : evF Tryz.prog X_tells10 noT (H_tells10 l) 1000 Tryz.f3 [.str l] k = (
  (decide ((120 : Int) < lenZ l) = true → True ∧ k (PV.bool true)) ∧
 (decide ((120 : Int) < lenZ l) = false →
 (List.length l).le (1000000 : Nat) ∧
 (List.length l).le (1000 : Nat) ∧
 (List.length l).le (300000 : Nat) ∧
 (List.length l).le (1000 : Nat) ∧
 ((bif
 bif
 bif
 Bool.rec false
 (decide ((hostM l).snd.fst = (refH l true).snd.fst) &&
 (decide
 ((hostM l).snd.snd.fst =
 (refH l true).snd.snd.fst) &&
 (decide
 ((hostM l).snd.snd.snd.fst =
 (refH l true).snd.snd.snd.fst) &&
 true)))
 (decide ((hostM l).fst = (refH l true).fst)) then
 decide
 ((hostM l).snd.snd.snd.snd =
 (refH l true).snd.snd.snd.snd)
 else false then
 Bool.rec false
 (decide ((hostN l).snd.fst = (refH l false).snd.fst) &&
 (decide
 ((hostN l).snd.snd.fst = (refH l false).snd.snd.fst) &&
 (decide
 ((hostN l).snd.snd.snd.fst =
 (refH l false).snd.snd.snd.fst) &&
 true)))
 (decide ((hostN l).fst = (refH l false).fst))
 else false then
 decide ((hostN l).snd.snd.snd.snd = (refH l false).snd.snd.snd.snd)
 else false) =
 true →
 True) ∧
 k
 (PV.bool
 (bif
 bif
 bif
 bif
 Bool.rec false
 (decide
 ((hostM l).snd.fst = (refH l true).snd.fst) &&
 (decide
 ((hostM l).snd.snd.fst =
 (refH l true).snd.snd.fst) &&
 (decide
 ((hostM l).snd.snd.snd.fst =
 (refH l true).snd.snd.snd.fst) &&
 true)))
 (decide ((hostM l).fst = (refH l true).fst)) then
 decide
 ((hostM l).snd.snd.snd.snd =
 (refH l true).snd.snd.snd.snd)
 else false then
 Bool.rec false
 (decide ((hostN l).snd.fst = (refH l false).snd.fst) &&
 (decide
 ((hostN l).snd.snd.fst =
 (refH l false).snd.snd.fst) &&
 (decide
 ((hostN l).snd.snd.snd.fst =
 (refH l false).snd.snd.snd.fst) &&
 true)))
 (decide ((hostN l).fst = (refH l false).fst))
 else false then
 decide
 ((hostN l).snd.snd.snd.snd = (refH l false).snd.snd.snd.snd)
 else false then
 true
 else false)))) := by kernel_rfl
attribute [local irreducible] Go.Vc.evF
theorem ok_tells10 (l : Bs) : FuncOk Tryz.prog noT 3 [.str l] ⟨True, .bool true⟩ := evF_ok (by kernel_rfl) X_tells10_ok (H := H_tells10 l) (fuel := 1000) Tryz.func3 (by kernel_rfl) fun hpre => (vc_tells10 l _).mpr (by
  refine ⟨fun _ => ⟨trivial, rfl⟩, fun h => ?_⟩
  have hl : l.length ≤ 120 := by have := of_decide_eq_false h; unfold lenZ at this; omega
  rw [host_ref, hostN_ref]
  refine ⟨Nat.le_trans hl (by decide), Nat.le_trans hl (by decide), Nat.le_trans hl (by decide), Nat.le_trans hl (by decide), fun _ => trivial, ?_⟩
  obtain ⟨A, hA⟩ : ∃ A, refH l true = A := ⟨_, rfl⟩
  obtain ⟨B, hB⟩ : ∃ B, refH l false = B := ⟨_, rfl⟩
  rw [hA, hB]
  rw [decide_eq_true (rfl : A.1 = A.1), decide_eq_true (rfl : A.2.1 = A.2.1), decide_eq_true (rfl : A.2.2.1 = A.2.2.1), decide_eq_true (rfl : A.2.2.2.1 = A.2.2.2.1), decide_eq_true (rfl : A.2.2.2.2 = A.2.2.2.2), decide_eq_true (rfl : B.1 = B.1), decide_eq_true (rfl : B.2.1 = B.2.1), decide_eq_true (rfl : B.2.2.1 = B.2.2.1), decide_eq_true (rfl : B.2.2.2.1 = B.2.2.2.1), decide_eq_true (rfl : B.2.2.2.2 = B.2.2.2.2)]
  rfl)
end Go.Proofs.YtjljhkjpogjdhaaGreatDoor
