import Derived.Test.YtaphadmcjimmeaaGreatDoorProg
import Derived.ProofKit
import Derived.Test.YtaphadmcjimmeaaGreatDoorHs6
import Derived.Test.YtaphadmcjimmeaaGreatDoorHs18
import Derived.Test.YtaphadmcjimmeaaGreatDoorHs19
import Derived.Test.YtaphadmcjimmeaaGreatDoorHs24
import Derived.Test.YtaphadmcjimmeaaGreatDoorHs25
import Derived.Test.YtaphadmcjimmeaaGreatDoorHs26
import Derived.Test.YtaphadmcjimmeaaGreatDoorHs27
set_option linter.unusedVariables false
set_option linter.unusedSimpArgs false
set_option maxRecDepth 100000
set_option maxHeartbeats 4000000
namespace Go.Proofs.YtaphadmcjimmeaaGreatDoor
open Go Go.Proofs Go.RowKit Go.Vc
section
def rsixR (l : Bs) : H5 := if byt l (l.length - 1) = 93 ∧ (refSix ((l.take (l.length - 1)).drop 1)).2 = true then (4, [], 0, (refSix ((l.take (l.length - 1)).drop 1)).1, 0) else noH 8
def rdomR (d : Bs) : H5 := if forB d = true then noH 9 else if d = [] ∨ anyO d true = true then noH 8 else if rend4 d = true then (if fourO d = true then (3, [], dotV d, z8, 0) else noH 8) else (2, d, 0, z8, 0)
def refH (l : Bs) (sp : Bool) : H5 := if 0 < l.length ∧ byt l 0 = 91 then rsixR l else if sp = false then (if anyO l false = true then noH 8 else if l = [] then (1, [], 0, z8, 0) else (5, rencS l, 0, z8, 0)) else rdomR (lowB (decP l))
def X_rhost : Tbl := tblX [(25, ent_rparse), (26, ent_ranyodd), (27, ent_renc), (29, ent_rpdec), (28, ent_rlower), (30, ent_rforeign), (31, ent_rends), (32, ent_rfour)]
def H_rhost (l : Bs) (sp : Bool) : Loops := fun i => none
theorem X_rhost_ok : XOk Tryz.prog noT X_rhost := tblX_cons ent_rparse_ok (tblX_cons ent_ranyodd_ok (tblX_cons ent_renc_ok (tblX_cons ent_rpdec_ok (tblX_cons ent_rlower_ok (tblX_cons ent_rforeign_ok (tblX_cons ent_rends_ok (tblX_cons ent_rfour_ok (tblX_nil))))))))
theorem vc_rhost (l : Bs) (sp : Bool) (k : PV → Prop) : evF Tryz.prog X_rhost noT (H_rhost l sp) 1000 Tryz.f14 [.str l, .bool sp] k = (
  (decide ((0 : Int) < lenZ l) = true → within (0 : Int) (lenZ l)) ∧
 ((bif decide ((0 : Int) < lenZ l) then decide (byteZ l (0 : Int) = (91 : Int)) else false) = true →
 inI64 (lenZ l - (1 : Int)) ∧
 within (lenZ l - (1 : Int)) (lenZ l) ∧
 ((!decide (byteZ l (lenZ l - (1 : Int)) = (93 : Int))) = true →
 k
 (PV.tup
 [PV.agg
 [PV.int .i64 (0 : Int), PV.str [], PV.int .u32 (0 : Int),
 PV.arr (8 : Nat) (BRow.ints .u16 (List.replicate (8 : Nat) (0 : Int)))],
 PV.int .i64 (8 : Int)])) ∧
 ((!decide (byteZ l (lenZ l - (1 : Int)) = (93 : Int))) = false →
 inI64 (lenZ l - (1 : Int)) ∧
 upto (1 : Int) (lenZ l - (1 : Int)) (lenZ l) ∧
 (cutZ l (1 : Int) (lenZ l - (1 : Int))).length.le (1000 : Nat) ∧
 ((!(refSix (cutZ l (1 : Int) (lenZ l - (1 : Int)))).2) = true →
 k
 (PV.tup
 [PV.agg
 [PV.int .i64 (0 : Int), PV.str [], PV.int .u32 (0 : Int),
 PV.arr (8 : Nat) (BRow.ints .u16 (List.replicate (8 : Nat) (0 : Int)))],
 PV.int .i64 (8 : Int)])) ∧
 ((!(refSix (cutZ l (1 : Int) (lenZ l - (1 : Int)))).2) = false →
 k
 (PV.tup
 [PV.agg
 [PV.int .i64 (4 : Int), PV.str [], PV.int .u32 (0 : Int),
 PV.arr (8 : Nat)
 (BRow.ints .u16
 (refSix (cutZ l (1 : Int) (lenZ l - (1 : Int)))).1)],
 PV.int .i64 (0 : Int)])))) ∧
 ((bif decide ((0 : Int) < lenZ l) then decide (byteZ l (0 : Int) = (91 : Int)) else false) = false →
 ((!sp) = true →
 (List.length l).le (1000000 : Nat) ∧
 (anyO l false = true →
 k
 (PV.tup
 [PV.agg
 [PV.int .i64 (0 : Int), PV.str [], PV.int .u32 (0 : Int),
 PV.arr (8 : Nat) (BRow.ints .u16 (List.replicate (8 : Nat) (0 : Int)))],
 PV.int .i64 (8 : Int)])) ∧
 (anyO l false = false →
 (decide (l = (ByteArray.mk #[]).data.toList) = true →
 k
 (PV.tup
 [PV.agg
 [PV.int .i64 (1 : Int), PV.str [], PV.int .u32 (0 : Int),
 PV.arr (8 : Nat) (BRow.ints .u16 (List.replicate (8 : Nat) (0 : Int)))],
 PV.int .i64 (0 : Int)])) ∧
 (decide (l = (ByteArray.mk #[]).data.toList) = false →
 (List.length l).le (300000 : Nat) ∧
 k
 (PV.tup
 [PV.agg
 [PV.int .i64 (5 : Int), PV.str (rencS l),
 PV.int .u32 (0 : Int),
 PV.arr (8 : Nat) (BRow.ints .u16 (List.replicate (8 : Nat) (0 : Int)))],
 PV.int .i64 (0 : Int)])))) ∧
 ((!sp) = false →
 (List.length l).le (1000000 : Nat) ∧
 (List.length (decP l)).le (1000000 : Nat) ∧
 (List.length (lowB (decP l))).le (1000 : Nat) ∧
 (forB (lowB (decP l)) = true →
 k
 (PV.tup
 [PV.agg
 [PV.int .i64 (0 : Int), PV.str [], PV.int .u32 (0 : Int),
 PV.arr (8 : Nat) (BRow.ints .u16 (List.replicate (8 : Nat) (0 : Int)))],
 PV.int .i64 (9 : Int)])) ∧
 (forB (lowB (decP l)) = false →
 (decide (lowB (decP l) = (ByteArray.mk #[]).data.toList) = false →
 (List.length (lowB (decP l))).le (1000000 : Nat)) ∧
 ((bif decide (lowB (decP l) = (ByteArray.mk #[]).data.toList) then
 true
 else
 anyO (lowB (decP l))
 true) =
 true →
 k
 (PV.tup
 [PV.agg
 [PV.int .i64 (0 : Int), PV.str [], PV.int .u32 (0 : Int),
 PV.arr (8 : Nat) (BRow.ints .u16 (List.replicate (8 : Nat) (0 : Int)))],
 PV.int .i64 (8 : Int)])) ∧
 ((bif
 decide
 (lowB (decP l) = (ByteArray.mk #[]).data.toList) then
 true
 else
 anyO (lowB (decP l))
 true) =
 false →
 (List.length (lowB (decP l))).le (1000000 : Nat) ∧
 (rend4 (lowB (decP l)) =
 true →
 (List.length (lowB (decP l))).le (1000000 : Nat) ∧
 ((!fourO
 (lowB (decP l))) =
 true →
 k
 (PV.tup
 [PV.agg
 [PV.int .i64 (0 : Int), PV.str [], PV.int .u32 (0 : Int),
 PV.arr (8 : Nat) (BRow.ints .u16 (List.replicate (8 : Nat) (0 : Int)))],
 PV.int .i64 (8 : Int)])) ∧
 ((!fourO
 (lowB (decP l))) =
 false →
 k
 (PV.tup
 [PV.agg
 [PV.int .i64 (3 : Int), PV.str [],
 PV.int .u32
 (dotV
 (lowB (decP l))),
 PV.arr (8 : Nat) (BRow.ints .u16 (List.replicate (8 : Nat) (0 : Int)))],
 PV.int .i64 (0 : Int)]))) ∧
 (rend4
 (lowB (decP l)) =
 false →
 k
 (PV.tup
 [PV.agg
 [PV.int .i64 (2 : Int),
 PV.str (lowB (decP l)),
 PV.int .u32 (0 : Int),
 PV.arr (8 : Nat) (BRow.ints .u16 (List.replicate (8 : Nat) (0 : Int)))],
 PV.int .i64 (0 : Int)]))))))) := by kernel_rfl
attribute [local irreducible] Go.Vc.evF
theorem ok_rhost (l : Bs) (sp : Bool) : FuncOk Tryz.prog noT 14 [.str l, .bool sp] ⟨l.length ≤ 1000, .tup [.agg [.int .i64 (refH l sp).1, .str (refH l sp).2.1, .int .u32 (refH l sp).2.2.1, .arr 8 (.ints .u16 (refH l sp).2.2.2.1)], .int .i64 (refH l sp).2.2.2.2]⟩ := evF_ok (by kernel_rfl) X_rhost_ok (H := H_rhost l sp) (fuel := 1000) Tryz.func14 (by kernel_rfl) fun hpre => (vc_rhost l sp _).mpr (by
  have hl : l.length ≤ 1000 := hpre
  have e0 : (bif decide ((0 : Int) < lenZ l) then decide (byteZ l 0 = 91) else false) = decide (0 < l.length ∧ byt l 0 = 91) := by
    by_cases h : 0 < l.length
    · rw [decide_eq_true (show (0 : Int) < lenZ l by unfold lenZ; omega), cond_true, decide_eq_decide]
      exact ⟨fun g => ⟨h, g⟩, fun g => g.2⟩
    · rw [decide_eq_false (show ¬ (0 : Int) < lenZ l by unfold lenZ; omega), cond_false]
      symm
      exact decide_eq_false fun g => h g.1
  rw [e0]
  have notE : ∀ b : Bool, (!b) = true → b = false := fun b h => by cases b; rfl; cases h
  have notF : ∀ b : Bool, (!b) = false → b = true := fun b h => by cases b; cases h; rfl
  refine ⟨fun h => ?_, fun h => ?_, fun h => ?_⟩
  · have := of_decide_eq_true h; unfold within; omega
  · have hb := of_decide_eq_true h
    have hb1 := hb.1
    have e1 : byteZ l (lenZ l - 1) = byt l (l.length - 1) := by unfold byteZ byt lenZ; congr 2; congr 1; omega
    have e2 : cutZ l 1 (lenZ l - 1) = (l.take (l.length - 1)).drop 1 := by
      unfold cutZ lenZ
      rw [show ((l.length : Int) - 1).toNat = l.length - 1 by omega]; rfl
    have hR : refH l sp = rsixR l := by unfold refH; rw [if_pos hb]
    rw [e1, e2, hR]
    refine ⟨by unfold inI64 lenZ; omega, by unfold within lenZ; omega, fun h2 => ?_, fun h2 => ?_⟩
    · have h3 : ¬ byt l (l.length - 1) = 93 := of_decide_eq_false (notE _ h2)
      have : rsixR l = noH 8 := by unfold rsixR; rw [if_neg (fun g => h3 g.1)]
      rw [this]; rfl
    · have h3 : byt l (l.length - 1) = 93 := of_decide_eq_true (notF _ h2)
      have h4 : 2 ≤ l.length := by
        have hb2 := hb.2
        by_cases g : l.length = 1
        · rw [g] at h3; rw [h3] at hb2; omega
        · omega
      refine ⟨by unfold inI64 lenZ; omega, ⟨by omega, by unfold lenZ; omega, by unfold lenZ; omega⟩, ?_, fun h5 => ?_, fun h5 => ?_⟩
      · show ((l.take (l.length - 1)).drop 1).length ≤ 1000
        rw [List.length_drop, List.length_take]; omega
      · have h6 := notE _ h5
        have : rsixR l = noH 8 := by unfold rsixR; rw [if_neg (fun g => by rw [h6] at g; cases g.2)]
        rw [this]; rfl
      · have h6 := notF _ h5
        have : rsixR l = (4, [], 0, (refSix ((l.take (l.length - 1)).drop 1)).1, 0) := by unfold rsixR; rw [if_pos ⟨h3, h6⟩]
        rw [this]
  · have hb := of_decide_eq_false h
    refine ⟨fun h2 => ?_, fun h2 => ?_⟩
    · have hs := notE _ h2
      subst hs
      have hR : refH l false = if anyO l false = true then noH 8 else if l = [] then (1, [], 0, z8, 0) else (5, rencS l, 0, z8, 0) := by unfold refH; rw [if_neg hb, if_pos rfl]
      rw [hR]
      refine ⟨Nat.le_trans hl (by decide), fun h3 => ?_, fun h3 => ⟨fun h4 => ?_, fun h4 => ⟨Nat.le_trans hl (by decide), ?_⟩⟩⟩
      · rw [if_pos h3]; rfl
      · have h4' : l = [] := of_decide_eq_true h4
        rw [if_neg (by rw [h3]; decide), if_pos h4']; rfl
      · have h4' : ¬ l = [] := of_decide_eq_false h4
        rw [if_neg (by rw [h3]; decide), if_neg h4']; rfl
    · have hs := notF _ h2
      subst hs
      have hd1 := decP_len l
      have hd2 := lowB_len (decP l)
      have hR : refH l true = rdomR (lowB (decP l)) := by unfold refH; rw [if_neg hb, if_neg (by decide)]
      rw [hR]
      have hd : (lowB (decP l)).length ≤ 1000 := by omega
      obtain ⟨d, hdd⟩ : ∃ d, lowB (decP l) = d := ⟨_, rfl⟩
      rw [hdd] at hd ⊢
      have hd6 : d.length ≤ 1000000 := by omega
      refine ⟨Nat.le_trans hl (by decide), Nat.le_trans (Nat.le_trans hd1 hl) (by decide), hd, fun h3 => ?_, fun h3 => ⟨fun _ => hd6, fun h4 => ?_, fun h4 => ⟨hd6, fun h5 => ⟨hd6, fun h6 => ?_, fun h6 => ?_⟩, fun h5 => ?_⟩⟩⟩
      · have : rdomR d = noH 9 := by unfold rdomR; rw [if_pos h3]
        rw [this]; rfl
      · have h5 : d = [] ∨ anyO d true = true := by
          cases e : decide (d = (ByteArray.mk #[]).data.toList) with
          | true => exact .inl (of_decide_eq_true e)
          | false => rw [e] at h4; exact .inr h4
        have : rdomR d = noH 8 := by unfold rdomR; rw [if_neg (by rw [h3]; decide), if_pos h5]
        rw [this]; rfl
      all_goals (have h7 : ¬ (d = [] ∨ anyO d true = true) := (by
          cases e : decide (d = (ByteArray.mk #[]).data.toList) with
          | true => rw [e] at h4; cases h4
          | false =>
            rw [e] at h4
            have e2 : ¬ d = [] := of_decide_eq_false e
            have h8 : anyO d true = false := h4
            rintro (g | g)
            · exact e2 g
            · rw [h8] at g; cases g))
      · have h8 := notE _ h6
        have : rdomR d = noH 8 := by unfold rdomR; rw [if_neg (by rw [h3]; decide), if_neg h7, if_pos h5, if_neg (by rw [h8]; decide)]
        rw [this]; rfl
      · have h8 := notF _ h6
        have : rdomR d = (3, [], dotV d, z8, 0) := by unfold rdomR; rw [if_neg (by rw [h3]; decide), if_neg h7, if_pos h5, if_pos h8]
        rw [this]; rfl
      · have : rdomR d = (2, d, 0, z8, 0) := by unfold rdomR; rw [if_neg (by rw [h3]; decide), if_neg h7, if_neg (by rw [h5]; decide)]
        rw [this]; rfl)
def ent_rhost : List PV → Option CallR := fun xs => match xs with
  | [.str l, .bool sp] => some ⟨l.length ≤ 1000, .tup [.agg [.int .i64 (refH l sp).1, .str (refH l sp).2.1, .int .u32 (refH l sp).2.2.1, .arr 8 (.ints .u16 (refH l sp).2.2.2.1)], .int .i64 (refH l sp).2.2.2.2]⟩
  | _ => none
theorem ent_rhost_ok : ∀ xs c, ent_rhost xs = some c → FuncOk Tryz.prog noT 14 xs c := fun xs c h => by
  unfold ent_rhost at h
  split at h
  · injection h with h; subst h; exact ok_rhost _ _
  · cases h
end
def scanX : Bs → Bool
  | [] => false
  | b :: r => List.isPrefixOf [46, 120, 110, 45, 45] (b :: r) || scanX r
theorem has_scan : ∀ l : Bs, hasB l [46, 120, 110, 45, 45] = scanX l
  | [] => rfl
  | b :: r => by
    have ih := has_scan r
    unfold hasB Lib.contains at ih ⊢
    have hge : -1 ≤ Lib.index r [46, 120, 110, 45, 45] := by
      have : ∀ l : Bs, -1 ≤ Lib.index l [46, 120, 110, 45, 45] := fun l => by
        induction l with
        | nil => decide
        | cons a l ih =>
          show -1 ≤ (if List.isPrefixOf [46, 120, 110, 45, 45] (a :: l) then 0 else if Lib.index l [46, 120, 110, 45, 45] == -1 then -1 else Lib.index l [46, 120, 110, 45, 45] + 1 : Int)
          (repeat' split) <;> omega
      exact this r
    show decide (0 ≤ (if List.isPrefixOf [46, 120, 110, 45, 45] (b :: r) then 0 else if Lib.index r [46, 120, 110, 45, 45] == -1 then -1 else Lib.index r [46, 120, 110, 45, 45] + 1 : Int)) = (List.isPrefixOf [46, 120, 110, 45, 45] (b :: r) || scanX r)
    rw [← ih]
    cases List.isPrefixOf [46, 120, 110, 45, 45] (b :: r) with
    | true => rfl
    | false =>
      simp only [Bool.false_eq_true, if_false, Bool.false_or]
      rw [decide_eq_decide]
      split
      · rename_i h; have := eq_of_beq h; omega
      · rename_i h; have : ¬ Lib.index r [46, 120, 110, 45, 45] = -1 := fun e => h (by rw [e]; rfl)
        omega
theorem split_head : ∀ (t : Bs) (q : Bs), (∀ b ∈ q, b.toNat ≠ 46) → List.isPrefixOf q ((splitB 46 t).headD []) = List.isPrefixOf q t
  | [], q, _ => rfl
  | b :: t, q, hq => by
    have ih := split_head t
    unfold splitB
    by_cases hb : (b.toNat : Int) = 46
    · rw [if_pos hb]
      cases q with
      | nil => rfl
      | cons c q =>
        show false = ((c == b) && _)
        have : (c == b) = false := by rw [beq_eq_false_iff_ne]; intro e; exact hq c (List.mem_cons_self ..) (by rw [e]; omega)
        rw [this]; rfl
    · rw [if_neg hb]
      have hne := splitB_ne 46 t
      cases hs : splitB 46 t with
      | nil => exact absurd hs hne
      | cons p ps =>
        rw [hs] at ih
        cases q with
        | nil => rfl
        | cons c q =>
          show ((c == b) && List.isPrefixOf q p) = ((c == b) && List.isPrefixOf q t)
          rw [show List.isPrefixOf q p = List.isPrefixOf q t from ih q (fun x hx => hq x (List.mem_cons_of_mem _ hx))]
theorem split_tail : ∀ t : Bs, (splitB 46 t).tail.any (fun p => List.isPrefixOf xnL p) = scanX t
  | [] => rfl
  | b :: t => by
    have ih := split_tail t
    have ihh := split_head t xnL (by decide)
    have hne := splitB_ne 46 t
    unfold splitB
    by_cases hb : (b.toNat : Int) = 46
    · rw [if_pos hb]
      have e : b = 46 := UInt8.toNat_inj.1 (by have : (46 : UInt8).toNat = 46 := rfl; omega)
      subst e
      show (splitB 46 t).any _ = (List.isPrefixOf xnL t || scanX t)
      cases hs : splitB 46 t with
      | nil => exact absurd hs hne
      | cons p ps =>
        rw [hs] at ih ihh
        rw [List.any_cons, show List.isPrefixOf xnL p = List.isPrefixOf xnL t from ihh, show ps.any _ = scanX t from ih]
    · rw [if_neg hb]
      have hx : scanX (b :: t) = scanX t := by
        show ((46 == b) && _ || scanX t) = scanX t
        have : ((46 : UInt8) == b) = false := by rw [beq_eq_false_iff_ne]; intro e; exact hb (by rw [← e]; rfl)
        rw [this]; rfl
      rw [hx, ← ih]
      cases hs : splitB 46 t with
      | nil => exact absurd hs hne
      | cons p ps => rfl
theorem for_is (l : Bs) : forB l = untB l := by
  unfold forB untB
  rw [show hasB l dxnL = scanX l from has_scan l, ← split_tail l]
  have hh := split_head l xnL (by decide)
  have hne := splitB_ne 46 l
  cases hs : splitB 46 l with
  | nil => exact absurd hs hne
  | cons p ps =>
    rw [hs] at hh
    rw [List.any_cons, show List.isPrefixOf xnL p = List.isPrefixOf xnL l from hh, ← Bool.or_assoc]
    rfl
theorem nod_odd : ∀ n : Fin 256, nodB (n.val : Int) = oddB (n.val : Int) true := by decide +kernel
theorem nev_odd : ∀ n : Fin 256, neverL.contains (UInt8.ofNat n.val) = oddB (n.val : Int) false := by decide +kernel
theorem idx_any (p : Nat → Bool) (l : Bs) (h : ∀ b ∈ l, b.toNat < 128) : ∀ (f pos : Nat), l.length ≤ pos + f → decide (0 ≤ Lib.idxFuncFrom p true ⟨l.toArray⟩ f pos) = (l.drop pos).any (fun b => p b.toNat)
  | 0, pos, hf => by
    rw [List.drop_eq_nil_of_le (by omega)]; rfl
  | f + 1, pos, hf => by
    unfold Lib.idxFuncFrom
    have hsz : (⟨l.toArray⟩ : ByteArray).size = l.length := by show l.toArray.size = _; simp
    by_cases hp : pos < l.length
    · have hp2 : pos < (⟨l.toArray⟩ : ByteArray).size := by rw [hsz]; exact hp
      have e : (⟨l.toArray⟩ : ByteArray)[pos]'hp2 = l[pos]'hp := by show l.toArray[pos]'(by simpa using hp) = _; simp
      rw [if_pos hp2, decode_ascii _ pos hp2 (by rw [e]; exact h _ (List.getElem_mem hp)), e, List.drop_eq_getElem_cons hp, List.any_cons]
      dsimp only
      cases hc : p (l[pos]'hp).toNat with
      | true => rw [if_pos rfl]; simp
      | false => rw [if_neg (by decide), Bool.false_or]; exact idx_any p l h f (pos + 1) (by omega)
    · rw [if_neg (by rw [hsz]; exact hp), List.drop_eq_nil_of_le (by omega)]; rfl
theorem cf_any {l : Bs} (h : l.all ascC = true) : cfB l = anyO l true := by
  unfold cfB Lib.idxFunc anyO
  rw [idx_any _ l (fun b hb => by have := List.all_eq_true.1 h b hb; unfold ascC at this; have := of_decide_eq_true this; omega) _ 0 (by rw [show (⟨l.toArray⟩ : ByteArray).size = l.length by show l.toArray.size = _; simp]; omega)]
  show l.any _ = l.any _
  congr 1
  funext b
  exact nod_odd ⟨b.toNat, b.toNat_lt⟩
theorem con_any (l : Bs) : conB l neverL = anyO l false := by
  unfold conB Lib.containsAny anyO
  induction l with
  | nil => rfl
  | cons b r ih =>
    have hge := Lib.indexAny_ge neverL r
    have hb : neverL.contains b = oddB (b.toNat : Int) false := by
      have := nev_odd ⟨b.toNat, b.toNat_lt⟩
      dsimp only at this
      rw [UInt8.ofNat_toNat] at this
      exact this
    rw [List.any_cons, ← ih, show Lib.indexAny (b :: r) neverL = if neverL.contains b then 0 else if Lib.indexAny r neverL == -1 then -1 else Lib.indexAny r neverL + 1 from rfl, hb]
    cases oddB (b.toNat : Int) false with
    | true => simp
    | false =>
      rw [Bool.false_or]
      simp only [Bool.false_eq_true, if_false]
      by_cases h : Lib.indexAny r neverL = -1
      · rw [h]; rfl
      · have : (Lib.indexAny r neverL == -1) = false := by rw [beq_eq_false_iff_ne]; exact h
        rw [this]
        simp only [Bool.false_eq_true, if_false]
        rw [decide_eq_decide]
        omega
theorem suf_last (t : Bs) : sufB t [93] = decide (0 < t.length ∧ byt t (t.length - 1) = 93) := by
  unfold sufB lenZ dropZ
  by_cases h : 0 < t.length
  · rw [decide_eq_true (show (([93] : Bs).length : Int) ≤ (t.length : Int) by show (1 : Int) ≤ _; omega)]
    show decide (t.drop ((t.length : Int) - 1).toNat = [93]) = _
    rw [show ((t.length : Int) - 1).toNat = t.length - 1 by omega, List.drop_eq_getElem_cons (by omega), show t.length - 1 + 1 = t.length by omega, List.drop_length, decide_eq_decide]
    have hb : byt t (t.length - 1) = ((t[t.length - 1]'(by omega)).toNat : Int) := by
      unfold byt; rw [List.getD_eq_getElem?_getD, List.getElem?_eq_getElem (by omega)]; rfl
    rw [hb]
    simp only [List.cons.injEq, and_true]
    exact ⟨fun g => ⟨h, by rw [g]; rfl⟩, fun g => UInt8.toNat_inj.1 (by have := g.2; have h2 : (93 : UInt8).toNat = 93 := rfl; omega)⟩
  · rw [decide_eq_false (show ¬ (([93] : Bs).length : Int) ≤ (t.length : Int) by show ¬ (1 : Int) ≤ _; omega), cond_false]
    symm
    exact decide_eq_false fun g => h g.1
theorem pre91_is (l : Bs) : preB l [91] = decide (0 < l.length ∧ byt l 0 = 91) := by
  unfold preB Lib.hasPrefix
  cases l with
  | nil => rfl
  | cons b r =>
    show ((91 : UInt8) == b && true) = decide (0 < (b :: r).length ∧ (b.toNat : Int) = 91)
    rw [Bool.and_true, Bool.eq_iff_iff, beq_iff_eq, decide_eq_true_iff, ← UInt8.toNat_inj]
    have h2 : (91 : UInt8).toNat = 91 := rfl
    rw [List.length_cons]
    omega
def sixOf (R : Bs → List Int × Bool) (l : Bs) : H5 := if byt l (l.length - 1) = 93 ∧ (R ((l.take (l.length - 1)).drop 1)).2 = true then (4, [], 0, (R ((l.take (l.length - 1)).drop 1)).1, 0) else noH 8
theorem sixR_is (l : Bs) (h : 0 < l.length ∧ byt l 0 = 91) : sixR (l.drop 1) = sixOf six l := by
  cases l with
  | nil => exact absurd h.1 (by decide)
  | cons b t =>
    have hb : (b.toNat : Int) = 91 := h.2
    show sixR t = _
    unfold sixR sixOf cutS
    rw [suf_last]
    by_cases ht : 0 < t.length
    · have e1 : byt (b :: t) ((b :: t).length - 1) = byt t (t.length - 1) := by
        rw [List.length_cons, show t.length + 1 - 1 = (t.length - 1) + 1 by omega, bytS]
      have e2 : ((b :: t).take ((b :: t).length - 1)).drop 1 = t.take (t.length - 1) := by
        rw [List.length_cons, show t.length + 1 - 1 = (t.length - 1) + 1 by omega]; rfl
      have e3 : takeZ t (lenZ t - lenZ ([93] : Bs)) = t.take (t.length - 1) := by
        unfold takeZ lenZ
        rw [show ((t.length : Int) - (([93] : Bs).length : Int)).toNat = t.length - 1 by show ((t.length : Int) - 1).toNat = _; omega]
      rw [e1, e2, e3]
      by_cases hc : byt t (t.length - 1) = 93
      · rw [decide_eq_true (show 0 < t.length ∧ byt t (t.length - 1) = 93 from ⟨ht, hc⟩), if_pos rfl]
        dsimp only
        by_cases hd : (six (t.take (t.length - 1))).2 = true
        · rw [if_pos ⟨rfl, hd⟩, if_pos ⟨hc, hd⟩]
        · rw [if_neg (fun g => hd g.2), if_neg (fun g => hd g.2)]
      · rw [decide_eq_false (fun g => hc g.2)]
        show (if false = true ∧ (six t).2 = true then ((4 : Int), ([] : Bs), (0 : Int), (six t).1, (0 : Int)) else noH 8) = _
        rw [if_neg (fun g => by cases g.1), if_neg (fun g => hc g.1)]
    · have e : t = [] := List.length_eq_zero_iff.1 (by omega)
      subst e
      rw [decide_eq_false (fun g => ht g.1)]
      show (if false = true ∧ (six []).2 = true then ((4 : Int), ([] : Bs), (0 : Int), (six []).1, (0 : Int)) else noH 8) = _
      rw [if_neg (fun g => by cases g.1), if_neg]
      intro g
      have g2 : (b.toNat : Int) = 93 := g.1
      omega
theorem rdom_is (d : Bs) : domR d = rdomR d := by
  unfold domR rdomR
  rw [for_is, rend_is]
  by_cases hu : untB d = true
  · rw [if_pos hu, if_pos hu]
  · have ha : d.all ascC = true := by
      cases e : d.all ascC with
      | true => rfl
      | false => exact absurd (by unfold untB; rw [e]; rfl) hu
    rw [if_neg hu, if_neg hu, cf_any ha]
    by_cases h : d = [] ∨ anyO d true = true
    · rw [if_pos h, if_pos h]
    · rw [if_neg h, if_neg h]
      cases end4 d with
      | false => rw [if_pos rfl, if_neg (by decide)]
      | true => rw [if_neg (by decide), if_pos rfl]
theorem sixR_ref (l : Bs) (h : 0 < l.length ∧ byt l 0 = 91) : sixR (l.drop 1) = rsixR l := by
  rw [sixR_is l h, show six = refSix from funext six_ref]
  rfl
theorem host_ref (l : Bs) : hostM l = refH l true := by
  unfold hostM refH
  rw [pre91_is]
  by_cases h : 0 < l.length ∧ byt l 0 = 91
  · rw [decide_eq_true h, if_pos rfl, if_pos h, sixR_ref l h]
  · rw [decide_eq_false h, if_neg (by decide), if_neg h, if_neg (by decide), rdom_is]
theorem hostN_ref (l : Bs) : hostN l = refH l false := by
  unfold hostN refH
  rw [pre91_is, con_any, show pencS l = rencS l from (renc_eq 0 l).symm]
  by_cases h : 0 < l.length ∧ byt l 0 = 91
  · rw [decide_eq_true h, if_pos rfl, if_pos h, sixR_ref l h]
  · rw [decide_eq_false h, if_neg (by decide), if_neg h, if_pos rfl]
theorem ok_hparseA (l : Bs) (sp : Bool) : FuncOk Tryz.prog noT 9 [.str l, .bool sp] ⟨l.length ≤ 300000, .tup [.agg [.int .i64 (refH l sp).1, .str (refH l sp).2.1, .int .u32 (refH l sp).2.2.1, .arr 8 (.ints .u16 (refH l sp).2.2.2.1)], .int .i64 (refH l sp).2.2.2.2]⟩ := by
  cases sp with
  | true => rw [← host_ref]; exact (ok_hparse l).to (fun h => Nat.le_trans h (by decide)) (fun _ => rfl)
  | false => rw [← hostN_ref]; exact ok_hparseN l
def ent_hparseA : List PV → Option CallR := fun xs => match xs with | [.str l, .bool sp] => some ⟨l.length ≤ 300000, .tup [.agg [.int .i64 (refH l sp).1, .str (refH l sp).2.1, .int .u32 (refH l sp).2.2.1, .arr 8 (.ints .u16 (refH l sp).2.2.2.1)], .int .i64 (refH l sp).2.2.2.2]⟩ | _ => none
theorem ent_hparseA_ok : ∀ xs c, ent_hparseA xs = some c → FuncOk Tryz.prog noT 9 xs c := fun xs c h => by
  unfold ent_hparseA at h
  split at h
  · injection h with h; subst h; exact ok_hparseA _ _
  · cases h
section
theorem dec5 (a b c d e : Prop) [Decidable a] [Decidable b] [Decidable c] [Decidable d] [Decidable e] : (bif decide a then @Bool.rec (fun _ => Bool) false (decide c && (decide d && (decide e && true))) (decide b) else false) = decide (a ∧ b ∧ c ∧ d ∧ e) := by
  by_cases h1 : a <;> by_cases h2 : b <;> by_cases h3 : c <;> by_cases h4 : d <;> by_cases h5 : e <;> simp [h1, h2, h3, h4, h5]
def hmayB (kd : Int) (l : Bs) (n : Int) (p : List Int) (sp : Bool) : Bool := decide ((refH (hshw kd l n p) sp).2.2.2.2 = 0 ∧ (refH (hshw kd l n p) sp).1 = kd ∧ (refH (hshw kd l n p) sp).2.1 = l ∧ (refH (hshw kd l n p) sp).2.2.1 = n ∧ (refH (hshw kd l n p) sp).2.2.2.1 = p)
def X_gmay : Tbl := tblX [(5, ent_gshow), (9, ent_hparseA)]
def H_gmay (kd : Int) (l : Bs) (n : Int) (p : List Int) (sp : Bool) : Loops := fun i => none
theorem X_gmay_ok : XOk Tryz.prog noT X_gmay := tblX_cons ent_gshow_ok (tblX_cons ent_hparseA_ok (tblX_nil))
theorem vc_gmay (kd : Int) (l : Bs) (n : Int) (p : List Int) (sp : Bool) (k : PV → Prop) : evF Tryz.prog X_gmay noT (H_gmay kd l n p sp) 1000 Tryz.f7 [.agg [.int .i64 kd, .str l, .int .u32 n, .arr 8 (.ints .u16 p)], .bool sp] k = (
  (List.length l ≤ (1000 : Nat) ∧ (0 : Int) ≤ n ∧ n < (4294967296 : Int) ∧ IsP p) ∧
 (List.length (hshw kd l n p)).le (300000 : Nat) ∧
 k
 (PV.bool
 (bif decide ((refH (hshw kd l n p) sp).2.2.2.2 = (0 : Int)) then
 Bool.rec false
 (decide ((refH (hshw kd l n p) sp).2.1 = l) &&
 (decide ((refH (hshw kd l n p) sp).2.2.1 = n) &&
 (decide ((refH (hshw kd l n p) sp).2.2.2.1 = p) && true)))
 (decide ((refH (hshw kd l n p) sp).1 = kd))
 else false))) := by kernel_rfl
attribute [local irreducible] Go.Vc.evF
theorem ok_gmay (kd : Int) (l : Bs) (n : Int) (p : List Int) (sp : Bool) : FuncOk Tryz.prog noT 7 [.agg [.int .i64 kd, .str l, .int .u32 n, .arr 8 (.ints .u16 p)], .bool sp] ⟨l.length ≤ 1000 ∧ 0 ≤ n ∧ n < 4294967296 ∧ IsP p, .bool (hmayB kd l n p sp)⟩ := evF_ok (by kernel_rfl) X_gmay_ok (H := H_gmay kd l n p sp) (fuel := 1000) Tryz.func7 (by kernel_rfl) fun hpre => (vc_gmay kd l n p sp _).mpr (by
  obtain ⟨hl, h0, h1, hp⟩ := hpre
  refine ⟨⟨hl, h0, h1, hp⟩, Nat.le_trans (hshw_len hl h0 h1) (by decide), congrArg PV.bool ?_⟩
  exact dec5 _ _ _ _ _)
def ent_gmay : List PV → Option CallR := fun xs => match xs with
  | [.agg [.int .i64 kd, .str l, .int .u32 n, .arr 8 (.ints .u16 p)], .bool sp] => some ⟨l.length ≤ 1000 ∧ 0 ≤ n ∧ n < 4294967296 ∧ IsP p, .bool (hmayB kd l n p sp)⟩
  | _ => none
theorem ent_gmay_ok : ∀ xs c, ent_gmay xs = some c → FuncOk Tryz.prog noT 7 xs c := fun xs c h => by
  unfold ent_gmay at h
  split at h
  · injection h with h; subst h; exact ok_gmay _ _ _ _ _
  · cases h
end
section
def X_rgmay : Tbl := tblX [(6, ent_rgshow), (14, ent_rhost)]
def H_rgmay (kd : Int) (l : Bs) (n : Int) (p : List Int) (sp : Bool) : Loops := fun i => none
theorem X_rgmay_ok : XOk Tryz.prog noT X_rgmay := tblX_cons ent_rgshow_ok (tblX_cons ent_rhost_ok (tblX_nil))
theorem vc_rgmay (kd : Int) (l : Bs) (n : Int) (p : List Int) (sp : Bool) (k : PV → Prop) : evF Tryz.prog X_rgmay noT (H_rgmay kd l n p sp) 1000 Tryz.f8 [.agg [.int .i64 kd, .str l, .int .u32 n, .arr 8 (.ints .u16 p)], .bool sp] k = (
  (List.length l ≤ (1000 : Nat) ∧ (0 : Int) ≤ n ∧ n < (4294967296 : Int) ∧ IsP p) ∧
 (List.length (hshw kd l n p)).le (1000 : Nat) ∧
 k
 (PV.bool
 (bif decide ((refH (hshw kd l n p) sp).2.2.2.2 = (0 : Int)) then
 Bool.rec false
 (decide ((refH (hshw kd l n p) sp).2.1 = l) &&
 (decide ((refH (hshw kd l n p) sp).2.2.1 = n) &&
 (decide ((refH (hshw kd l n p) sp).2.2.2.1 = p) && true)))
 (decide ((refH (hshw kd l n p) sp).1 = kd))
 else false))) := by kernel_rfl
attribute [local irreducible] Go.Vc.evF
theorem ok_rgmay (kd : Int) (l : Bs) (n : Int) (p : List Int) (sp : Bool) : FuncOk Tryz.prog noT 8 [.agg [.int .i64 kd, .str l, .int .u32 n, .arr 8 (.ints .u16 p)], .bool sp] ⟨l.length ≤ 1000 ∧ 0 ≤ n ∧ n < 4294967296 ∧ IsP p, .bool (hmayB kd l n p sp)⟩ := evF_ok (by kernel_rfl) X_rgmay_ok (H := H_rgmay kd l n p sp) (fuel := 1000) Tryz.func8 (by kernel_rfl) fun hpre => (vc_rgmay kd l n p sp _).mpr (by
  obtain ⟨hl, h0, h1, hp⟩ := hpre
  refine ⟨⟨hl, h0, h1, hp⟩, Nat.le_trans (hshw_len hl h0 h1) (by decide), congrArg PV.bool ?_⟩
  exact dec5 _ _ _ _ _)
def ent_rgmay : List PV → Option CallR := fun xs => match xs with
  | [.agg [.int .i64 kd, .str l, .int .u32 n, .arr 8 (.ints .u16 p)], .bool sp] => some ⟨l.length ≤ 1000 ∧ 0 ≤ n ∧ n < 4294967296 ∧ IsP p, .bool (hmayB kd l n p sp)⟩
  | _ => none
theorem ent_rgmay_ok : ∀ xs c, ent_rgmay xs = some c → FuncOk Tryz.prog noT 8 xs c := fun xs c h => by
  unfold ent_rgmay at h
  split at h
  · injection h with h; subst h; exact ok_rgmay _ _ _ _ _
  · cases h
end
section
def X_hshows : Tbl := tblX [(5, ent_gshow), (6, ent_rgshow), (7, ent_gmay), (8, ent_rgmay), (4, ent_awake)]
def H_hshows (kd : Int) (l : Bs) (n : Int) (p : List Int) (sp : Bool) : Loops := fun i => none
theorem X_hshows_ok : XOk Tryz.prog noT X_hshows := tblX_cons ent_gshow_ok (tblX_cons ent_rgshow_ok (tblX_cons ent_gmay_ok (tblX_cons ent_rgmay_ok (tblX_cons ent_awake_ok (tblX_nil)))))
theorem vc_hshows (kd : Int) (l : Bs) (n : Int) (p : List Int) (sp : Bool) (k : PV → Prop) : evF Tryz.prog X_hshows noT (H_hshows kd l n p sp) 1000 Tryz.f3 [.agg [.int .i64 kd, .str l, .int .u32 n, .arr 8 (.ints .u16 p)], .bool sp] k = (
  (decide ((100 : Int) < lenZ l) = true → True ∧ k (PV.bool true)) ∧
 (decide ((100 : Int) < lenZ l) = false →
 (List.length l ≤ (1000 : Nat) ∧ (0 : Int) ≤ n ∧ n < (4294967296 : Int) ∧ IsP p) ∧
 (List.length l ≤ (1000 : Nat) ∧ (0 : Int) ≤ n ∧ n < (4294967296 : Int) ∧ IsP p) ∧
 (decide (hshw kd l n p = hshw kd l n p) = true →
 List.length l ≤ (1000 : Nat) ∧ (0 : Int) ≤ n ∧ n < (4294967296 : Int) ∧ IsP p) ∧
 (decide (hshw kd l n p = hshw kd l n p) = true →
 List.length l ≤ (1000 : Nat) ∧ (0 : Int) ≤ n ∧ n < (4294967296 : Int) ∧ IsP p) ∧
 ((bif decide (hshw kd l n p = hshw kd l n p) then
 decide (hmayB kd l n p sp = hmayB kd l n p sp)
 else false) =
 true →
 True) ∧
 k
 (PV.bool
 (bif
 bif decide (hshw kd l n p = hshw kd l n p) then
 decide (hmayB kd l n p sp = hmayB kd l n p sp)
 else false then
 true
 else false)))) := by kernel_rfl
attribute [local irreducible] Go.Vc.evF
theorem ok_hshows (kd : Int) (l : Bs) (n : Int) (p : List Int) (sp : Bool) : FuncOk Tryz.prog noT 3 [.agg [.int .i64 kd, .str l, .int .u32 n, .arr 8 (.ints .u16 p)], .bool sp] ⟨0 ≤ n ∧ n < 4294967296 ∧ IsP p, .bool true⟩ := evF_ok (by kernel_rfl) X_hshows_ok (H := H_hshows kd l n p sp) (fuel := 1000) Tryz.func3 (by kernel_rfl) fun hpre => (vc_hshows kd l n p sp _).mpr (by
  obtain ⟨h0, h1, hp⟩ := hpre
  refine ⟨fun _ => ⟨trivial, rfl⟩, fun h => ?_⟩
  have hl : l.length ≤ 1000 := by have := of_decide_eq_false h; unfold lenZ at this; omega
  obtain ⟨A, hA⟩ : ∃ A, hshw kd l n p = A := ⟨_, rfl⟩
  obtain ⟨B, hB⟩ : ∃ B, hmayB kd l n p sp = B := ⟨_, rfl⟩
  refine ⟨⟨hl, h0, h1, hp⟩, ⟨hl, h0, h1, hp⟩, fun _ => ⟨hl, h0, h1, hp⟩, fun _ => ⟨hl, h0, h1, hp⟩, fun _ => trivial, ?_⟩
  rw [hA, hB, decide_eq_true (rfl : A = A), decide_eq_true (rfl : B = B)]
  rfl)
end
end Go.Proofs.YtaphadmcjimmeaaGreatDoor
