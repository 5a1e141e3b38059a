import Derived.Shelf.Strings.FuncGrows
import Derived.Lib.TrimAscii
import Derived.Test.YtaphadmcjimmeaaGreatDoorProg
import Derived.ProofKit
import Derived.Test.YtaphadmcjimmeaaGreatDoorHs6
import Derived.Test.YtaphadmcjimmeaaGreatDoorHs18
set_option linter.unusedVariables false
set_option linter.unusedSimpArgs false
set_option maxRecDepth 100000
set_option maxHeartbeats 4000000
namespace Go.Proofs.YtaphadmcjimmeaaGreatDoor
open Go Go.Proofs Go.RowKit Go.Vc
theorem TabH.below {w w' : World} (h : TabH w) (hb : Below w.heap.size w w') : TabH w' :=
  Wd.mono (self := wdH) w w' hb.os hb.tape hb.output hb.size (fun k hk => hb.block k (Nat.lt_of_lt_of_le hk (Wd.within (self := wdH) w h))) h
theorem nodom_grows (w : World) (hw : TabH w) : PredGrows Tryz.prog 40 #[] (fun x => nodB x) w := fun W x hx hb =>
  ((ok_nodom (x : Int)).walk Tryz.func40 (by kernel_rfl) rfl ⟨by omega, by omega⟩ (fits_none W) (noT_ok _) (hw.below hb) (vs := [.int .i32 x]) ⟨_, _, rfl, rfl, rfl⟩).mono fun e w' ⟨u, he, F', _, hb, _, _, _, _, hr⟩ => ⟨by rw [he]; exact congrArg _ hr, hb⟩
def cfB (l : Bs) : Bool := decide (0 ≤ Lib.idxFunc (fun x => nodB x) true ⟨l.toArray⟩)
theorem ok_cfunc (l : Bs) : FuncOk Tryz.prog noT 39 [.str l, .fn (.func 40) [] []] ⟨True, .bool (cfB l)⟩ :=
  FuncOk.of_calls Tryz.func39 (by kernel_rfl) rfl fun _ F w vs _ _ hw hx => by
    obtain ⟨_, _, rfl, r1, _, _, rfl, r2, rfl⟩ := hx
    obtain rfl := r1
    obtain ⟨us, vs, rfl, rfl, rfl⟩ := r2
    exact ⟨_, Any.strings_ContainsFunc_grows Tryz.laysGw17 40 #[] (enters_of Tryz.func40 (by kernel_rfl) rfl) _ ⟨l.toArray⟩ w (nodom_grows w hw), fun G w => rfl⟩
def ent_cfunc : List PV → Option CallR := fun xs => match xs with | [.str l, .fn (.func 40) [] []] => some ⟨True, .bool (cfB l)⟩ | _ => none
theorem ent_cfunc_ok : ∀ xs c, ent_cfunc xs = some c → FuncOk Tryz.prog noT 39 xs c := fun xs c h => by
  unfold ent_cfunc at h
  split at h
  · injection h with h; subst h; exact ok_cfunc _
  · cases h
section
def sufB (l m : Bs) : Bool := bif decide (lenZ m ≤ lenZ l) then decide (dropZ l (lenZ l - lenZ m) = m) else false
def X_lsuf : Tbl := tblX []
def H_lsuf (l m : Bs) : Loops := fun i => none
theorem X_lsuf_ok : XOk Tryz.prog noT X_lsuf := tblX_nil
theorem vc_lsuf (l m : Bs) (k : PV → Prop) : evF Tryz.prog X_lsuf noT (H_lsuf l m) 1000 Tryz.f90 [.str l, .str m] k = (
  (decide (lenZ m ≤ lenZ l) = true → inI64 (lenZ l - lenZ m)) ∧
 (decide (lenZ m ≤ lenZ l) = true → upto (lenZ l - lenZ m) (lenZ l) (lenZ l)) ∧
 k (PV.bool (bif decide (lenZ m ≤ lenZ l) then decide (dropZ l (lenZ l - lenZ m) = m) else false))) := by kernel_rfl
attribute [local irreducible] Go.Vc.evF
theorem ok_lsuf (l m : Bs) : FuncOk Tryz.prog noT 90 [.str l, .str m] ⟨l.length ≤ 1000000 ∧ m.length ≤ 1000000, .bool (sufB l m)⟩ := evF_ok (by kernel_rfl) X_lsuf_ok (H := H_lsuf l m) (fuel := 1000) Tryz.func90 (by kernel_rfl) fun hpre => (vc_lsuf l m _).mpr (by
  exact ⟨fun h => ⟨by unfold lenZ; omega, by unfold lenZ; omega⟩, fun h => ⟨by have := of_decide_eq_true h; omega, by unfold lenZ; omega, Int.le_refl _⟩, rfl⟩)
def ent_lsuf : List PV → Option CallR := fun xs => match xs with
  | [.str l, .str m] => some ⟨l.length ≤ 1000000 ∧ m.length ≤ 1000000, .bool (sufB l m)⟩
  | _ => none
theorem ent_lsuf_ok : ∀ xs c, ent_lsuf xs = some c → FuncOk Tryz.prog noT 90 xs c := fun xs c h => by
  unfold ent_lsuf at h
  split at h
  · injection h with h; subst h; exact ok_lsuf _ _
  · cases h
end
section
def cutS (l m : Bs) : Bs × Bool := if sufB l m = true then (takeZ l (lenZ l - lenZ m), true) else (l, false)
def X_lcsuf : Tbl := tblX [(90, ent_lsuf)]
def H_lcsuf (l m : Bs) : Loops := fun i => none
theorem X_lcsuf_ok : XOk Tryz.prog noT X_lcsuf := tblX_cons ent_lsuf_ok (tblX_nil)
theorem vc_lcsuf (l m : Bs) (k : PV → Prop) : evF Tryz.prog X_lcsuf noT (H_lcsuf l m) 1000 Tryz.f58 [.str l, .str m] k = (
  (List.length l ≤ (1000000 : Nat) ∧ List.length m ≤ (1000000 : Nat)) ∧
 ((!sufB l m) = true → k (PV.tup [PV.str l, PV.bool false])) ∧
 ((!sufB l m) = false →
 inI64 (lenZ l - lenZ m) ∧
 upto (0 : Int) (lenZ l - lenZ m) (lenZ l) ∧
 k (PV.tup [PV.str (takeZ l (lenZ l - lenZ m)), PV.bool true]))) := by kernel_rfl
attribute [local irreducible] Go.Vc.evF
theorem ok_lcsuf (l m : Bs) : FuncOk Tryz.prog noT 58 [.str l, .str m] ⟨l.length ≤ 1000000 ∧ m.length ≤ 1000000, .tup [.str (cutS l m).1, .bool (cutS l m).2]⟩ := evF_ok (by kernel_rfl) X_lcsuf_ok (H := H_lcsuf l m) (fuel := 1000) Tryz.func58 (by kernel_rfl) fun hpre => (vc_lcsuf l m _).mpr (by
  obtain ⟨h1, h2⟩ := hpre
  refine ⟨⟨h1, h2⟩, fun h => ?_, fun h => ⟨by unfold inI64 lenZ; omega, ?_, ?_⟩⟩
  · have e : ¬ sufB l m = true := by intro e; rw [e] at h; cases h
    have : cutS l m = (l, false) := by unfold cutS; rw [if_neg e]
    rw [this]
  · have e : sufB l m = true := by cases e : sufB l m with | true => rfl | false => rw [e] at h; cases h
    unfold sufB at e
    cases e2 : decide (lenZ m ≤ lenZ l) with
    | false => rw [e2] at e; cases e
    | true => have := of_decide_eq_true e2; unfold upto; unfold lenZ at this ⊢; omega
  · have e : sufB l m = true := by cases e : sufB l m with | true => rfl | false => rw [e] at h; cases h
    have : cutS l m = (takeZ l (lenZ l - lenZ m), true) := by unfold cutS; rw [if_pos e]
    rw [this])
def ent_lcsuf : List PV → Option CallR := fun xs => match xs with
  | [.str l, .str m] => some ⟨l.length ≤ 1000000 ∧ m.length ≤ 1000000, .tup [.str (cutS l m).1, .bool (cutS l m).2]⟩
  | _ => none
theorem ent_lcsuf_ok : ∀ xs c, ent_lcsuf xs = some c → FuncOk Tryz.prog noT 58 xs c := fun xs c h => by
  unfold ent_lcsuf at h
  split at h
  · injection h with h; subst h; exact ok_lcsuf _ _
  · cases h
end
section
def X_csuf : Tbl := tblX [(58, ent_lcsuf)]
def H_csuf (l m : Bs) : Loops := fun i => none
theorem X_csuf_ok : XOk Tryz.prog noT X_csuf := tblX_cons ent_lcsuf_ok (tblX_nil)
theorem vc_csuf (l m : Bs) (k : PV → Prop) : evF Tryz.prog X_csuf noT (H_csuf l m) 1000 Tryz.f34 [.str l, .str m] k = (
  (List.length l ≤ (1000000 : Nat) ∧ List.length m ≤ (1000000 : Nat)) ∧
 k (PV.tup [PV.str (cutS l m).1, PV.bool (cutS l m).2])) := by kernel_rfl
attribute [local irreducible] Go.Vc.evF
theorem ok_csuf (l m : Bs) : FuncOk Tryz.prog noT 34 [.str l, .str m] ⟨l.length ≤ 1000000 ∧ m.length ≤ 1000000, .tup [.str (cutS l m).1, .bool (cutS l m).2]⟩ := evF_ok (by kernel_rfl) X_csuf_ok (H := H_csuf l m) (fuel := 1000) Tryz.func34 (by kernel_rfl) fun hpre => (vc_csuf l m _).mpr (by
  exact ⟨hpre, rfl⟩)
def ent_csuf : List PV → Option CallR := fun xs => match xs with
  | [.str l, .str m] => some ⟨l.length ≤ 1000000 ∧ m.length ≤ 1000000, .tup [.str (cutS l m).1, .bool (cutS l m).2]⟩
  | _ => none
theorem ent_csuf_ok : ∀ xs c, ent_csuf xs = some c → FuncOk Tryz.prog noT 34 xs c := fun xs c h => by
  unfold ent_csuf at h
  split at h
  · injection h with h; subst h; exact ok_csuf _ _
  · cases h
end
section
def xnL : Bs := [120, 110, 45, 45]
def dxnL : Bs := [46, 120, 110, 45, 45]
def ascC (b : UInt8) : Bool := decide (b.toNat ≤ 127)
def untB (l : Bs) : Bool := !l.all ascC || preB l xnL || hasB l dxnL
theorem all_step (p : UInt8 → Bool) (l : Bs) (j : Nat) (h : j < l.length) : (l.take (j + 1)).all p = ((l.take j).all p && p (l.getD j 0)) := by
  rw [List.take_add_one, List.getElem?_eq_getElem h, List.all_append, List.getD_eq_getElem?_getD, List.getElem?_eq_getElem h]
  simp
theorem getD_in (l : Bs) (j : Nat) (h : j < l.length) : l.getD j 0 ∈ l := by
  rw [List.getD_eq_getElem?_getD, List.getElem?_eq_getElem h]
  exact List.getElem_mem h
def UntI (l : Bs) (i : Int) : Prop := ∃ j : Nat, i = j ∧ j ≤ l.length ∧ (l.take j).all ascC = true
def X_untold : Tbl := tblX [(15, ent_prefix), (64, ent_has)]
def H_untold (l : Bs) : Loops := fun i => bif Nat.beq i 2 then some ⟨(Int), (fun s x => ((((s.put 6 (.int .i64 x)).put 3 .undef).put 7 .undef).put 12 .undef)), (fun s => s.int 6), (fun s x => let i := x; UntI l i), (fun s x => let i := x; ((l.length : Int) - i).toNat), [3, 7, 12]⟩ else none
theorem X_untold_ok : XOk Tryz.prog noT X_untold := tblX_cons ent_prefix_ok (tblX_cons ent_has_ok (tblX_nil))
theorem vc_untold (l : Bs) (k : PV → Prop) : evF Tryz.prog X_untold noT (H_untold l) 1000 Tryz.f38 [.str l] k = (
  VS.mk []
 [(0, PV.str l), (2, PV.bool false), ((3 : Nat), PV.undef), (5, PV.int .i64 (lenZ l)),
 (6, PV.int .i64 (0 : Int)), ((7 : Nat), PV.undef), ((12 : Nat), PV.undef)]
 [] =
 VS.mk []
 [(0, PV.str l), (2, PV.bool false), ((3 : Nat), PV.undef), (5, PV.int .i64 (lenZ l)),
 ((6 : Nat), PV.int .i64 (0 : Int)), ((7 : Nat), PV.undef), ((12 : Nat), PV.undef)]
 [] ∧
 UntI l (0 : Int) ∧
 ∀ (x : Int),
 UntI l x →
 (decide (x < lenZ l) = true →
 within x (lenZ l) ∧
 (decide ((127 : Int) < byteZ l x) = true → k (PV.bool true)) ∧
 (decide ((127 : Int) < byteZ l x) = false →
 inI64 (x + (1 : Int)) ∧
 VS.mk []
 [(0, PV.str l), (2, PV.bool false), ((3 : Nat), PV.undef),
 (5, PV.int .i64 (lenZ l)), ((6 : Nat), PV.int .i64 (x + (1 : Int))),
 ((7 : Nat), PV.undef), ((12 : Nat), PV.undef)]
 [] =
 VS.mk []
 [(0, PV.str l), (2, PV.bool false), ((3 : Nat), PV.undef),
 (5, PV.int .i64 (lenZ l)), ((6 : Nat), PV.int .i64 (x + (1 : Int))),
 ((7 : Nat), PV.undef), ((12 : Nat), PV.undef)]
 [] ∧
 UntI l (x + (1 : Int)) ∧ (↑(List.length l) - (x + (1 : Int))).toNat < (↑(List.length l) - x).toNat)) ∧
 (decide (x < lenZ l) = false →
 True ∧
 (preB l (ByteArray.mk #[120, 110, 45, 45]).data.toList = false →
 (List.length l).le (1000000 : Nat)) ∧
 k
 (PV.bool
 (bif preB l (ByteArray.mk #[120, 110, 45, 45]).data.toList then
 true
 else
 hasB l
 (ByteArray.mk #[46, 120, 110, 45, 45]).data.toList)))) := by kernel_rfl
attribute [local irreducible] Go.Vc.evF
theorem ok_untold (l : Bs) : FuncOk Tryz.prog noT 38 [.str l] ⟨l.length ≤ 1000000, .bool (untB l)⟩ := evF_ok (by kernel_rfl) X_untold_ok (H := H_untold l) (fuel := 1000) Tryz.func38 (by kernel_rfl) fun hpre => (vc_untold l _).mpr (by
  refine ⟨rfl, ⟨0, rfl, by omega, rfl⟩, fun x hx => ?_⟩
  obtain ⟨j, rfl, hj, ha⟩ := hx
  have e1 : (j : Int) + 1 = ((j + 1 : Nat) : Int) := by push_cast; rfl
  have hb : byteZ l (j : Int) = ((l.getD j 0).toNat : Int) := rfl
  rw [e1, hb]
  refine ⟨fun h => ?_, fun h => ?_⟩
  · have hjl : j < l.length := by have := of_decide_eq_true h; unfold lenZ at this; omega
    refine ⟨by unfold within lenZ; omega, fun h2 => ?_, fun h2 => ⟨by unfold inI64; omega, rfl, ⟨j + 1, rfl, by omega, ?_⟩, by omega⟩⟩
    · have hf : l.all ascC = false := by
        rw [Bool.eq_false_iff]
        intro g
        have g1 := List.all_eq_true.1 g _ (getD_in l j hjl)
        unfold ascC at g1
        have g2 := of_decide_eq_true g1
        have g3 := of_decide_eq_true h2
        omega
      show PV.bool true = PV.bool (untB l)
      unfold untB
      rw [hf]; rfl
    · have g3 := of_decide_eq_false h2
      rw [all_step ascC l j hjl, ha, Bool.true_and]
      unfold ascC
      exact decide_eq_true (by omega)
  · have hjl : j = l.length := by have := of_decide_eq_false h; unfold lenZ at this; omega
    rw [hjl, List.take_length] at ha
    refine ⟨trivial, fun _ => hpre, ?_⟩
    show PV.bool (bif preB l xnL then true else hasB l dxnL) = PV.bool (untB l)
    unfold untB
    rw [ha]
    cases preB l xnL <;> rfl)
def ent_untold : List PV → Option CallR := fun xs => match xs with
  | [.str l] => some ⟨l.length ≤ 1000000, .bool (untB l)⟩
  | _ => none
theorem ent_untold_ok : ∀ xs c, ent_untold xs = some c → FuncOk Tryz.prog noT 38 xs c := fun xs c h => by
  unfold ent_untold at h
  split at h
  · injection h with h; subst h; exact ok_untold _
  · cases h
end
section
abbrev H5 := Int × Bs × Int × List Int × Int
def z8 : List Int := List.replicate 8 0
def noH (e : Int) : H5 := (0, [], 0, z8, e)
def domR (d : Bs) : H5 := if untB d = true then noH 9 else if d = [] ∨ cfB d = true then noH 8 else if end4 d = false then (2, d, 0, z8, 0) else if fourO d = true then (3, [], dotV d, z8, 0) else noH 8
theorem lowB_len (l : Bs) : (lowB l).length = l.length := by unfold lowB; rw [List.length_map]
theorem decP_len : ∀ l : Bs, (decP l).length ≤ l.length
  | [] => Nat.le_refl _
  | [b] => Nat.le_refl _
  | [b, h] => Nat.le_refl _
  | b :: h :: g :: t => by
    have h1 := decP_len t
    have h2 := decP_len (h :: g :: t)
    show (if b.toNat = 37 ∧ 0 ≤ hxZ h.toNat ∧ 0 ≤ hxZ g.toNat then zByte (hxZ h.toNat * 16 + hxZ g.toNat) :: decP t else b :: decP (h :: g :: t)).length ≤ _
    split
    · rw [List.length_cons]; simp only [List.length_cons]; omega
    · rw [List.length_cons]; simp only [List.length_cons] at h2 ⊢; omega
def X_pdom : Tbl := tblX [(37, ent_pdec), (36, ent_lower), (38, ent_untold), (39, ent_cfunc), (41, ent_ends), (42, ent_pfour)]
def H_pdom (l : Bs) : Loops := fun i => none
theorem X_pdom_ok : XOk Tryz.prog noT X_pdom := tblX_cons ent_pdec_ok (tblX_cons ent_lower_ok (tblX_cons ent_untold_ok (tblX_cons ent_cfunc_ok (tblX_cons ent_ends_ok (tblX_cons ent_pfour_ok (tblX_nil))))))
theorem vc_pdom (l : Bs) (k : PV → Prop) : evF Tryz.prog X_pdom noT (H_pdom l) 1000 Tryz.f17 [.str l] k = (
  (List.length l).le (1000000 : Nat) ∧
 (List.length (decP l)).le (1000000 : Nat) ∧
 (List.length (lowB (decP l))).le (1000000 : Nat) ∧
 (untB (lowB (decP l)) = true →
 k
 (PV.tup
 [PV.agg
 [PV.int .i64 (0 : Int), PV.str [], PV.int .u32 (0 : Int),
 PV.arr (8 : Nat) (BRow.ints .u16 (List.replicate (8 : Nat) (0 : Int)))],
 PV.int .i64 (9 : Int)])) ∧
 (untB (lowB (decP l)) = false →
 (decide (lowB (decP l) = (ByteArray.mk #[]).data.toList) = false → True) ∧
 ((bif decide (lowB (decP l) = (ByteArray.mk #[]).data.toList) then true
 else cfB (lowB (decP l))) =
 true →
 k
 (PV.tup
 [PV.agg
 [PV.int .i64 (0 : Int), PV.str [], PV.int .u32 (0 : Int),
 PV.arr (8 : Nat) (BRow.ints .u16 (List.replicate (8 : Nat) (0 : Int)))],
 PV.int .i64 (8 : Int)])) ∧
 ((bif decide (lowB (decP l) = (ByteArray.mk #[]).data.toList) then true
 else cfB (lowB (decP l))) =
 false →
 (List.length (lowB (decP l))).le (1000000 : Nat) ∧
 ((!end4 (lowB (decP l))) = true →
 k
 (PV.tup
 [PV.agg
 [PV.int .i64 (2 : Int),
 PV.str (lowB (decP l)),
 PV.int .u32 (0 : Int),
 PV.arr (8 : Nat) (BRow.ints .u16 (List.replicate (8 : Nat) (0 : Int)))],
 PV.int .i64 (0 : Int)])) ∧
 ((!end4 (lowB (decP l))) =
 false →
 (List.length (lowB (decP l))).le (1000000 : Nat) ∧
 ((!fourO (lowB (decP l))) =
 true →
 k
 (PV.tup
 [PV.agg
 [PV.int .i64 (0 : Int), PV.str [], PV.int .u32 (0 : Int),
 PV.arr (8 : Nat) (BRow.ints .u16 (List.replicate (8 : Nat) (0 : Int)))],
 PV.int .i64 (8 : Int)])) ∧
 ((!fourO
 (lowB (decP l))) =
 false →
 k
 (PV.tup
 [PV.agg
 [PV.int .i64 (3 : Int), PV.str [],
 PV.int .u32
 (dotV
 (lowB (decP l))),
 PV.arr (8 : Nat) (BRow.ints .u16 (List.replicate (8 : Nat) (0 : Int)))],
 PV.int .i64 (0 : Int)])))))) := by kernel_rfl
attribute [local irreducible] Go.Vc.evF
theorem ok_pdom (l : Bs) : FuncOk Tryz.prog noT 17 [.str l] ⟨l.length ≤ 1000000, .tup [.agg [.int .i64 (domR (lowB (decP l))).1, .str (domR (lowB (decP l))).2.1, .int .u32 (domR (lowB (decP l))).2.2.1, .arr 8 (.ints .u16 (domR (lowB (decP l))).2.2.2.1)], .int .i64 (domR (lowB (decP l))).2.2.2.2]⟩ := evF_ok (by kernel_rfl) X_pdom_ok (H := H_pdom l) (fuel := 1000) Tryz.func17 (by kernel_rfl) fun hpre => (vc_pdom l _).mpr (by
  have hd1 := decP_len l
  have hd2 := lowB_len (decP l)
  have hd : (lowB (decP l)).length ≤ 1000000 := by omega
  obtain ⟨d, hdd⟩ : ∃ d, lowB (decP l) = d := ⟨_, rfl⟩
  rw [hdd] at hd ⊢
  refine ⟨hpre, Nat.le_trans hd1 hpre, hd, fun h => ?_, fun h => ⟨fun _ => trivial, fun h2 => ?_, fun h2 => ?_⟩⟩
  · have : domR d = noH 9 := by unfold domR; rw [if_pos h]
    rw [this]; rfl
  · have h3 : d = [] ∨ cfB d = true := by
      cases e : decide (d = (ByteArray.mk #[]).data.toList) with
      | true => exact .inl (of_decide_eq_true e)
      | false => rw [e] at h2; exact .inr h2
    have : domR d = noH 8 := by unfold domR; rw [if_neg (by rw [h]; decide), if_pos h3]
    rw [this]; rfl
  · have h3 : ¬ (d = [] ∨ cfB d = true) := by
      cases e : decide (d = (ByteArray.mk #[]).data.toList) with
      | true => rw [e] at h2; cases h2
      | false =>
        rw [e] at h2
        have e2 : ¬ d = [] := of_decide_eq_false e
        have h4 : cfB d = false := h2
        rintro (g | g)
        · exact e2 g
        · rw [h4] at g; cases g
    have hu : ¬ untB d = true := by rw [h]; decide
    refine ⟨hd, fun h4 => ?_, fun h4 => ⟨hd, fun h5 => ?_, fun h5 => ?_⟩⟩
    · have e4 : end4 d = false := by cases e : end4 d with | false => rfl | true => rw [e] at h4; cases h4
      have : domR d = (2, d, 0, z8, 0) := by unfold domR; rw [if_neg hu, if_neg h3, if_pos e4]
      rw [this]; rfl
    · have e4 : ¬ end4 d = false := by intro e; rw [e] at h4; cases h4
      have e5 : ¬ fourO d = true := by intro e; rw [e] at h5; cases h5
      have : domR d = noH 8 := by unfold domR; rw [if_neg hu, if_neg h3, if_neg e4, if_neg e5]
      rw [this]; rfl
    · have e4 : ¬ end4 d = false := by intro e; rw [e] at h4; cases h4
      have e5 : fourO d = true := by cases e : fourO d with | true => rfl | false => rw [e] at h5; cases h5
      have : domR d = (3, [], dotV d, z8, 0) := by unfold domR; rw [if_neg hu, if_neg h3, if_neg e4, if_pos e5]
      rw [this]; rfl)
def ent_pdom : List PV → Option CallR := fun xs => match xs with
  | [.str l] => some ⟨l.length ≤ 1000000, .tup [.agg [.int .i64 (domR (lowB (decP l))).1, .str (domR (lowB (decP l))).2.1, .int .u32 (domR (lowB (decP l))).2.2.1, .arr 8 (.ints .u16 (domR (lowB (decP l))).2.2.2.1)], .int .i64 (domR (lowB (decP l))).2.2.2.2]⟩
  | _ => none
theorem ent_pdom_ok : ∀ xs c, ent_pdom xs = some c → FuncOk Tryz.prog noT 17 xs c := fun xs c h => by
  unfold ent_pdom at h
  split at h
  · injection h with h; subst h; exact ok_pdom _
  · cases h
end
section
def sixR (t : Bs) : H5 := if (cutS t [93]).2 = true ∧ (six (cutS t [93]).1).2 = true then (4, [], 0, (six (cutS t [93]).1).1, 0) else noH 8
theorem cutS_len (l m : Bs) : (cutS l m).1.length ≤ l.length := by
  unfold cutS
  split
  · show (l.take _).length ≤ _
    rw [List.length_take]; omega
  · exact Nat.le_refl _
def X_pip6 : Tbl := tblX [(34, ent_csuf), (35, ent_parse6)]
def H_pip6 (l : Bs) : Loops := fun i => none
theorem X_pip6_ok : XOk Tryz.prog noT X_pip6 := tblX_cons ent_csuf_ok (tblX_cons ent_parse6_ok (tblX_nil))
theorem vc_pip6 (l : Bs) (k : PV → Prop) : evF Tryz.prog X_pip6 noT (H_pip6 l) 1000 Tryz.f16 [.str l] k = (
  upto (1 : Int) (lenZ l) (lenZ l) ∧
 ((dropZ l (1 : Int)).length ≤ (1000000 : Nat) ∧ (ByteArray.mk #[93]).data.toList.length ≤ (1000000 : Nat)) ∧
 ((cutS (dropZ l (1 : Int)) (ByteArray.mk #[93]).data.toList).2 = true →
 (List.length (cutS (dropZ l (1 : Int)) (ByteArray.mk #[93]).data.toList).1).le (1000000 : Nat) ∧
 ((six
 (cutS (dropZ l (1 : Int)) (ByteArray.mk #[93]).data.toList).1).2 =
 true →
 k
 (PV.tup
 [PV.agg
 [PV.int .i64 (4 : Int), PV.str [], PV.int .u32 (0 : Int),
 PV.arr (8 : Nat)
 (BRow.ints .u16
 (six
 (cutS (dropZ l (1 : Int)) (ByteArray.mk #[93]).data.toList).1).1)],
 PV.int .i64 (0 : Int)])) ∧
 ((six
 (cutS (dropZ l (1 : Int)) (ByteArray.mk #[93]).data.toList).1).2 =
 false →
 k
 (PV.tup
 [PV.agg
 [PV.int .i64 (0 : Int), PV.str [], PV.int .u32 (0 : Int),
 PV.arr (8 : Nat) (BRow.ints .u16 (List.replicate (8 : Nat) (0 : Int)))],
 PV.int .i64 (8 : Int)]))) ∧
 ((cutS (dropZ l (1 : Int)) (ByteArray.mk #[93]).data.toList).2 = false →
 k
 (PV.tup
 [PV.agg
 [PV.int .i64 (0 : Int), PV.str [], PV.int .u32 (0 : Int),
 PV.arr (8 : Nat) (BRow.ints .u16 (List.replicate (8 : Nat) (0 : Int)))],
 PV.int .i64 (8 : Int)]))) := by kernel_rfl
attribute [local irreducible] Go.Vc.evF
theorem ok_pip6 (l : Bs) : FuncOk Tryz.prog noT 16 [.str l] ⟨1 ≤ l.length ∧ l.length ≤ 1000000, .tup [.agg [.int .i64 (sixR (l.drop 1)).1, .str (sixR (l.drop 1)).2.1, .int .u32 (sixR (l.drop 1)).2.2.1, .arr 8 (.ints .u16 (sixR (l.drop 1)).2.2.2.1)], .int .i64 (sixR (l.drop 1)).2.2.2.2]⟩ := evF_ok (by kernel_rfl) X_pip6_ok (H := H_pip6 l) (fuel := 1000) Tryz.func16 (by kernel_rfl) fun hpre => (vc_pip6 l _).mpr (by
  obtain ⟨h1, h2⟩ := hpre
  have hd : dropZ l 1 = l.drop 1 := rfl
  have hl : (l.drop 1).length ≤ 1000000 := by rw [List.length_drop]; omega
  have hc := cutS_len (l.drop 1) [93]
  rw [hd]
  refine ⟨⟨by omega, by unfold lenZ; omega, Int.le_refl _⟩, ⟨hl, by decide⟩, fun h => ⟨Nat.le_trans hc hl, fun h3 => ?_, fun h3 => ?_⟩, fun h => ?_⟩
  · have : sixR (l.drop 1) = (4, [], 0, (six (cutS (l.drop 1) [93]).1).1, 0) := by unfold sixR; rw [if_pos ⟨h, h3⟩]
    rw [this]
  · have : sixR (l.drop 1) = noH 8 := by unfold sixR; rw [if_neg (fun g => by have g2 : (six (cutS (l.drop 1) [93]).1).2 = false := h3; rw [g.2] at g2; cases g2)]
    rw [this]; rfl
  · have : sixR (l.drop 1) = noH 8 := by unfold sixR; rw [if_neg (fun g => by have g2 : (cutS (l.drop 1) [93]).2 = false := h; rw [g.1] at g2; cases g2)]
    rw [this]; rfl)
def ent_pip6 : List PV → Option CallR := fun xs => match xs with
  | [.str l] => some ⟨1 ≤ l.length ∧ l.length ≤ 1000000, .tup [.agg [.int .i64 (sixR (l.drop 1)).1, .str (sixR (l.drop 1)).2.1, .int .u32 (sixR (l.drop 1)).2.2.1, .arr 8 (.ints .u16 (sixR (l.drop 1)).2.2.2.1)], .int .i64 (sixR (l.drop 1)).2.2.2.2]⟩
  | _ => none
theorem ent_pip6_ok : ∀ xs c, ent_pip6 xs = some c → FuncOk Tryz.prog noT 16 xs c := fun xs c h => by
  unfold ent_pip6 at h
  split at h
  · injection h with h; subst h; exact ok_pip6 _
  · cases h
end
section
def hostM (l : Bs) : H5 := if preB l [91] = true then sixR (l.drop 1) else domR (lowB (decP l))
def X_hparse : Tbl := tblX [(15, ent_prefix), (16, ent_pip6), (17, ent_pdom), (18, ent_con)]
def H_hparse (l : Bs) : Loops := fun i => none
theorem X_hparse_ok : XOk Tryz.prog noT X_hparse := tblX_cons ent_prefix_ok (tblX_cons ent_pip6_ok (tblX_cons ent_pdom_ok (tblX_cons ent_con_ok (tblX_nil))))
theorem vc_hparse (l : Bs) (k : PV → Prop) : evF Tryz.prog X_hparse noT (H_hparse l) 1000 Tryz.f9 [.str l, .bool true] k = (
  True ∧
 (preB l (ByteArray.mk #[91]).data.toList = true →
 ((1 : Nat) ≤ List.length l ∧ List.length l ≤ (1000000 : Nat)) ∧
 k
 (PV.tup
 [PV.agg
 [PV.int .i64 (sixR (List.drop (1 : Nat) l)).1,
 PV.str (sixR (List.drop (1 : Nat) l)).2.1,
 PV.int .u32 (sixR (List.drop (1 : Nat) l)).2.2.1,
 PV.arr (8 : Nat) (BRow.ints .u16 (sixR (List.drop (1 : Nat) l)).2.2.2.1)],
 PV.int .i64 (sixR (List.drop (1 : Nat) l)).2.2.2.2])) ∧
 (preB l (ByteArray.mk #[91]).data.toList = false →
 (true = true →
 (List.length l).le (1000000 : Nat) ∧
 k
 (PV.tup
 [PV.agg
 [PV.int .i64
 (domR (lowB (decP l))).1,
 PV.str
 (domR
 (lowB (decP l))).2.1,
 PV.int .u32
 (domR
 (lowB (decP l))).2.2.1,
 PV.arr (8 : Nat)
 (BRow.ints .u16
 (domR
 (lowB (decP l))).2.2.2.1)],
 PV.int .i64
 (domR
 (lowB (decP l))).2.2.2.2])) ∧
 (true = false →
 (List.length l ≤ (1000000 : Nat) ∧
 (ByteArray.mk
 #[0, 9, 10, 13, 32, 35, 47, 58, 60, 62, 63, 64, 91, 92, 93, 94, 124]).data.toList.length ≤
 (1000000 : Nat) ∧
 ∀ (b : UInt8),
 b ∈
 (ByteArray.mk
 #[0, 9, 10, 13, 32, 35, 47, 58, 60, 62, 63, 64, 91, 92, 93, 94, 124]).data.toList →
 b.toNat < (128 : Nat)) ∧
 (conB l
 (ByteArray.mk
 #[0, 9, 10, 13, 32, 35, 47, 58, 60, 62, 63, 64, 91, 92, 93, 94, 124]).data.toList =
 true →
 k
 (PV.tup
 [PV.agg
 [PV.int .i64 (0 : Int), PV.str [], PV.int .u32 (0 : Int),
 PV.arr (8 : Nat) (BRow.ints .u16 (List.replicate (8 : Nat) (0 : Int)))],
 PV.int .i64 (8 : Int)])) ∧
 (conB l
 (ByteArray.mk
 #[0, 9, 10, 13, 32, 35, 47, 58, 60, 62, 63, 64, 91, 92, 93, 94, 124]).data.toList =
 false →
 (decide (l = (ByteArray.mk #[]).data.toList) = true →
 k
 (PV.tup
 [PV.agg
 [PV.int .i64 (1 : Int), PV.str [], PV.int .u32 (0 : Int),
 PV.arr (8 : Nat) (BRow.ints .u16 (List.replicate (8 : Nat) (0 : Int)))],
 PV.int .i64 (0 : Int)])) ∧
 (decide (l = (ByteArray.mk #[]).data.toList) = false → False))))) := by kernel_rfl
attribute [local irreducible] Go.Vc.evF
theorem ok_hparse (l : Bs) : FuncOk Tryz.prog noT 9 [.str l, .bool true] ⟨l.length ≤ 1000000, .tup [.agg [.int .i64 (hostM l).1, .str (hostM l).2.1, .int .u32 (hostM l).2.2.1, .arr 8 (.ints .u16 (hostM l).2.2.2.1)], .int .i64 (hostM l).2.2.2.2]⟩ := evF_ok (by kernel_rfl) X_hparse_ok (H := H_hparse l) (fuel := 1000) Tryz.func9 (by kernel_rfl) fun hpre => (vc_hparse l _).mpr (by
  have e91 : (ByteArray.mk #[91]).data.toList = ([91] : Bs) := rfl
  rw [e91]
  refine ⟨trivial, fun h => ⟨⟨?_, hpre⟩, ?_⟩, fun h => ?_⟩
  · cases l with
    | nil => cases h
    | cons b r => rw [List.length_cons]; omega
  · have : hostM l = sixR (l.drop 1) := by unfold hostM; rw [if_pos h]
    rw [this]
  · have : hostM l = domR (lowB (decP l)) := by unfold hostM; rw [if_neg (by rw [h]; decide)]
    rw [this]
    exact ⟨fun _ => ⟨hpre, rfl⟩, fun h => by cases h⟩)
def ent_hparse : List PV → Option CallR := fun xs => match xs with
  | [.str l, .bool true] => some ⟨l.length ≤ 1000000, .tup [.agg [.int .i64 (hostM l).1, .str (hostM l).2.1, .int .u32 (hostM l).2.2.1, .arr 8 (.ints .u16 (hostM l).2.2.2.1)], .int .i64 (hostM l).2.2.2.2]⟩
  | _ => none
theorem ent_hparse_ok : ∀ xs c, ent_hparse xs = some c → FuncOk Tryz.prog noT 9 xs c := fun xs c h => by
  unfold ent_hparse at h
  split at h
  · injection h with h; subst h; exact ok_hparse _
  · cases h
end
section
theorem any_stepP (p : UInt8 → Bool) (l : Bs) (j : Nat) (h : j < l.length) : (l.take (j + 1)).any p = ((l.take j).any p || p (l.getD j 0)) := by
  rw [List.take_add_one, List.getElem?_eq_getElem h, List.any_append, List.getD_eq_getElem?_getD, List.getElem?_eq_getElem h]
  simp
def oddB (c : Int) (dm : Bool) : Bool := neverL.any (fun b => decide ((b.toNat : Int) = c)) || (dm && (decide (c < 32) || decide (c = 37) || decide (c = 127)))
def OddI (c i : Int) : Prop := ∃ j : Nat, i = j ∧ j ≤ 17 ∧ (neverL.take j).any (fun b => decide ((b.toNat : Int) = c)) = false
def X_rodd : Tbl := tblX []
def H_rodd (c : Int) (dm : Bool) : Loops := fun i => bif Nat.beq i 3 then some ⟨(Int), (fun s x => (((s.put 6 (.int .i64 x)).put 10 .undef).put 17 .undef)), (fun s => s.int 6), (fun s x => let i := x; OddI c i), (fun s x => let i := x; (17 - i).toNat), [10, 17]⟩ else none
theorem X_rodd_ok : XOk Tryz.prog noT X_rodd := tblX_nil
theorem vc_rodd (c : Int) (dm : Bool) (k : PV → Prop) : evF Tryz.prog X_rodd noT (H_rodd c dm) 1000 Tryz.f49 [.int .u8 c, .bool dm] k = (
  VS.mk []
 [(0, PV.int .u8 c), (1, PV.bool dm), (4, PV.bool false),
 (5,
 PV.str
 (ByteArray.mk
 #[0, 9, 10, 13, 32, 35, 47, 58, 60, 62, 63, 64, 91, 92, 93, 94, 124]).data.toList),
 (6, PV.int .i64 (0 : Int)), ((10 : Nat), PV.undef), ((17 : Nat), PV.undef)]
 [] =
 VS.mk []
 [(0, PV.int .u8 c), (1, PV.bool dm), (4, PV.bool false),
 (5,
 PV.str
 (ByteArray.mk
 #[0, 9, 10, 13, 32, 35, 47, 58, 60, 62, 63, 64, 91, 92, 93, 94, 124]).data.toList),
 ((6 : Nat), PV.int .i64 (0 : Int)), ((10 : Nat), PV.undef), ((17 : Nat), PV.undef)]
 [] ∧
 OddI c (0 : Int) ∧
 ∀ (x : Int),
 OddI c x →
 (decide
 (x <
 lenZ
 (ByteArray.mk
 #[0, 9, 10, 13, 32, 35, 47, 58, 60, 62, 63, 64, 91, 92, 93, 94, 124]).data.toList) =
 true →
 within x
 (lenZ
 (ByteArray.mk
 #[0, 9, 10, 13, 32, 35, 47, 58, 60, 62, 63, 64, 91, 92, 93, 94, 124]).data.toList) ∧
 (decide
 (byteZ
 (ByteArray.mk
 #[0, 9, 10, 13, 32, 35, 47, 58, 60, 62, 63, 64, 91, 92, 93, 94, 124]).data.toList
 x =
 c) =
 true →
 k (PV.bool true)) ∧
 (decide
 (byteZ
 (ByteArray.mk
 #[0, 9, 10, 13, 32, 35, 47, 58, 60, 62, 63, 64, 91, 92, 93, 94, 124]).data.toList
 x =
 c) =
 false →
 inI64 (x + (1 : Int)) ∧
 VS.mk []
 [(0, PV.int .u8 c), (1, PV.bool dm), (4, PV.bool false),
 (5,
 PV.str
 (ByteArray.mk
 #[0, 9, 10, 13, 32, 35, 47, 58, 60, 62, 63, 64, 91, 92, 93, 94, 124]).data.toList),
 ((6 : Nat), PV.int .i64 (x + (1 : Int))), ((10 : Nat), PV.undef), ((17 : Nat), PV.undef)]
 [] =
 VS.mk []
 [(0, PV.int .u8 c), (1, PV.bool dm), (4, PV.bool false),
 (5,
 PV.str
 (ByteArray.mk
 #[0, 9, 10, 13, 32, 35, 47, 58, 60, 62, 63, 64, 91, 92, 93, 94, 124]).data.toList),
 ((6 : Nat), PV.int .i64 (x + (1 : Int))), ((10 : Nat), PV.undef), ((17 : Nat), PV.undef)]
 [] ∧
 OddI c (x + (1 : Int)) ∧ ((17 : Int) - (x + (1 : Int))).toNat < ((17 : Int) - x).toNat)) ∧
 (decide
 (x <
 lenZ
 (ByteArray.mk
 #[0, 9, 10, 13, 32, 35, 47, 58, 60, 62, 63, 64, 91, 92, 93, 94, 124]).data.toList) =
 false →
 k
 (PV.bool
 (bif dm then bif bif decide (c < (32 : Int)) then true else decide (c = (37 : Int)) then true else decide (c = (127 : Int)) else false)))) := by kernel_rfl
attribute [local irreducible] Go.Vc.evF
theorem ok_rodd (c : Int) (dm : Bool) : FuncOk Tryz.prog noT 49 [.int .u8 c, .bool dm] ⟨0 ≤ c ∧ c ≤ 255, .bool (oddB c dm)⟩ := evF_ok (by kernel_rfl) X_rodd_ok (H := H_rodd c dm) (fuel := 1000) Tryz.func49 (by kernel_rfl) fun hpre => (vc_rodd c dm _).mpr (by
  have hL : (ByteArray.mk #[0, 9, 10, 13, 32, 35, 47, 58, 60, 62, 63, 64, 91, 92, 93, 94, 124]).data.toList = neverL := rfl
  have hn : lenZ neverL = 17 := rfl
  have hn2 : neverL.length = 17 := rfl
  rw [hL, hn]
  refine ⟨rfl, ⟨0, rfl, by omega, rfl⟩, fun x hx => ?_⟩
  obtain ⟨j, rfl, hj, ha⟩ := hx
  have e1 : (j : Int) + 1 = ((j + 1 : Nat) : Int) := by push_cast; rfl
  have hb : byteZ neverL (j : Int) = ((neverL.getD j 0).toNat : Int) := rfl
  rw [hb]
  refine ⟨fun h => ?_, fun h => ?_⟩
  · have hjl : j < 17 := by have := of_decide_eq_true h; omega
    refine ⟨by unfold within; omega, fun h2 => ?_, fun h2 => ⟨by unfold inI64; omega, rfl, ⟨j + 1, e1, by omega, ?_⟩, by omega⟩⟩
    · have : neverL.any (fun b => decide ((b.toNat : Int) = c)) = true := List.any_eq_true.2 ⟨_, getD_in neverL j (by omega), h2⟩
      show PV.bool true = PV.bool (oddB c dm)
      unfold oddB
      rw [this]; rfl
    · rw [any_stepP _ neverL j (by omega), ha, h2]; rfl
  · have hjl : j = 17 := by have := of_decide_eq_false h; omega
    subst hjl
    have ha2 : neverL.any (fun b => decide ((b.toNat : Int) = c)) = false := ha
    show PV.bool _ = PV.bool (oddB c dm)
    unfold oddB
    rw [ha2]
    cases dm <;> cases decide (c < 32) <;> cases decide (c = 37) <;> cases decide (c = 127) <;> rfl)
def ent_rodd : List PV → Option CallR := fun xs => match xs with
  | [.int .u8 c, .bool dm] => some ⟨0 ≤ c ∧ c ≤ 255, .bool (oddB c dm)⟩
  | _ => none
theorem ent_rodd_ok : ∀ xs c, ent_rodd xs = some c → FuncOk Tryz.prog noT 49 xs c := fun xs c h => by
  unfold ent_rodd at h
  split at h
  · injection h with h; subst h; exact ok_rodd _ _
  · cases h
end
section
def anyO (l : Bs) (dm : Bool) : Bool := l.any (fun b => oddB b.toNat dm)
def AnyI (l : Bs) (dm : Bool) (i : Int) : Prop := ∃ j : Nat, i = j ∧ j ≤ l.length ∧ (l.take j).any (fun b => oddB b.toNat dm) = false
def X_ranyodd : Tbl := tblX [(49, ent_rodd)]
def H_ranyodd (l : Bs) (dm : Bool) : Loops := fun i => bif Nat.beq i 2 then some ⟨(Int), (fun s x => (((s.put 5 (.int .i64 x)).put 9 .undef).put 16 .undef)), (fun s => s.int 5), (fun s x => let i := x; AnyI l dm i), (fun s x => let i := x; ((l.length : Int) - i).toNat), [9, 16]⟩ else none
theorem X_ranyodd_ok : XOk Tryz.prog noT X_ranyodd := tblX_cons ent_rodd_ok (tblX_nil)
theorem vc_ranyodd (l : Bs) (dm : Bool) (k : PV → Prop) : evF Tryz.prog X_ranyodd noT (H_ranyodd l dm) 1000 Tryz.f26 [.str l, .bool dm] k = (
  VS.mk []
 [(0, PV.str l), (1, PV.bool dm), (4, PV.bool false), (5, PV.int .i64 (0 : Int)),
 ((9 : Nat), PV.undef), ((16 : Nat), PV.undef)]
 [] =
 VS.mk []
 [(0, PV.str l), (1, PV.bool dm), (4, PV.bool false), ((5 : Nat), PV.int .i64 (0 : Int)),
 ((9 : Nat), PV.undef), ((16 : Nat), PV.undef)]
 [] ∧
 AnyI l dm (0 : Int) ∧
 ∀ (x : Int),
 AnyI l dm x →
 (decide (x < lenZ l) = true →
 within x (lenZ l) ∧
 ((0 : Int) ≤ byteZ l x ∧ byteZ l x ≤ (255 : Int)) ∧
 (oddB (byteZ l x) dm = true → k (PV.bool true)) ∧
 (oddB (byteZ l x) dm = false →
 inI64 (x + (1 : Int)) ∧
 VS.mk []
 [(0, PV.str l), (1, PV.bool dm), (4, PV.bool false),
 ((5 : Nat), PV.int .i64 (x + (1 : Int))), ((9 : Nat), PV.undef), ((16 : Nat), PV.undef)]
 [] =
 VS.mk []
 [(0, PV.str l), (1, PV.bool dm), (4, PV.bool false),
 ((5 : Nat), PV.int .i64 (x + (1 : Int))), ((9 : Nat), PV.undef), ((16 : Nat), PV.undef)]
 [] ∧
 AnyI l dm (x + (1 : Int)) ∧
 (↑(List.length l) - (x + (1 : Int))).toNat < (↑(List.length l) - x).toNat)) ∧
 (decide (x < lenZ l) = false → k (PV.bool false))) := by kernel_rfl
attribute [local irreducible] Go.Vc.evF
theorem ok_ranyodd (l : Bs) (dm : Bool) : FuncOk Tryz.prog noT 26 [.str l, .bool dm] ⟨l.length ≤ 1000000, .bool (anyO l dm)⟩ := evF_ok (by kernel_rfl) X_ranyodd_ok (H := H_ranyodd l dm) (fuel := 1000) Tryz.func26 (by kernel_rfl) fun hpre => (vc_ranyodd l dm _).mpr (by
  refine ⟨rfl, ⟨0, rfl, by omega, rfl⟩, fun x hx => ?_⟩
  obtain ⟨j, rfl, hj, ha⟩ := hx
  have e1 : (j : Int) + 1 = ((j + 1 : Nat) : Int) := by push_cast; rfl
  have hb : byteZ l (j : Int) = ((l.getD j 0).toNat : Int) := rfl
  have hr := byteZ_range l (j : Int)
  rw [hb] at hr ⊢
  refine ⟨fun h => ?_, fun h => ?_⟩
  · have hjl : j < l.length := by have := of_decide_eq_true h; unfold lenZ at this; omega
    refine ⟨by unfold within lenZ; omega, hr, fun h2 => ?_, fun h2 => ⟨by unfold inI64; omega, rfl, ⟨j + 1, e1, by omega, ?_⟩, by omega⟩⟩
    · have : anyO l dm = true := List.any_eq_true.2 ⟨_, getD_in l j hjl, h2⟩
      show PV.bool true = PV.bool (anyO l dm)
      rw [this]
    · rw [any_stepP _ l j hjl, ha, h2]; rfl
  · have hjl : j = l.length := by have := of_decide_eq_false h; unfold lenZ at this; omega
    rw [hjl, List.take_length] at ha
    show PV.bool false = PV.bool (anyO l dm)
    rw [show anyO l dm = false from ha])
def ent_ranyodd : List PV → Option CallR := fun xs => match xs with
  | [.str l, .bool dm] => some ⟨l.length ≤ 1000000, .bool (anyO l dm)⟩
  | _ => none
theorem ent_ranyodd_ok : ∀ xs c, ent_ranyodd xs = some c → FuncOk Tryz.prog noT 26 xs c := fun xs c h => by
  unfold ent_ranyodd at h
  split at h
  · injection h with h; subst h; exact ok_ranyodd _ _
  · cases h
end
section
theorem any_stepL (p : Bs → Bool) (l : List Bs) (j : Nat) (h : j < l.length) : (l.take (j + 1)).any p = ((l.take j).any p || p (l.getD j [])) := by
  rw [List.take_add_one, List.getElem?_eq_getElem h, List.any_append, List.getD_eq_getElem?_getD, List.getElem?_eq_getElem h]
  simp
theorem split_px (p : Bs) : (bif decide ((4 : Int) ≤ lenZ p) then decide (takeZ p 4 = xnL) else false) = List.isPrefixOf xnL p := by
  unfold lenZ takeZ
  match p with
  | [] => rfl
  | [a] => simp [xnL, List.isPrefixOf]
  | [a, b] => simp [xnL, List.isPrefixOf]
  | [a, b, c] => simp [xnL, List.isPrefixOf]
  | a :: b :: c :: d :: r =>
    rw [decide_eq_true (show (4 : Int) ≤ ((a :: b :: c :: d :: r).length : Int) by simp only [List.length_cons]; omega), cond_true]
    show decide ([a, b, c, d] = xnL) = (((120 : UInt8) == a) && (((110 : UInt8) == b) && (((45 : UInt8) == c) && (((45 : UInt8) == d) && true))))
    rw [Bool.eq_iff_iff, decide_eq_true_iff]
    simp only [xnL, List.cons.injEq, and_true, Bool.and_eq_true, beq_iff_eq]
    constructor
    · rintro ⟨rfl, rfl, rfl, rfl⟩; exact ⟨rfl, rfl, rfl, rfl⟩
    · rintro ⟨rfl, rfl, rfl, rfl⟩; exact ⟨rfl, rfl, rfl, rfl⟩
def forB (l : Bs) : Bool := !l.all ascC || (splitB 46 l).any (fun p => List.isPrefixOf xnL p)
def ForI (l : Bs) (i : Int) : Prop := ∃ j : Nat, i = j ∧ j ≤ (splitB 46 l).length ∧ ((splitB 46 l).take j).any (fun p => List.isPrefixOf xnL p) = false
def X_rforeign : Tbl := tblX [(55, ent_parts)]
def H_rforeign (l : Bs) : Loops := fun i => bif Nat.beq i 2 then some ⟨(Int), (fun s x => (((s.put 3 (.int .i64 x)).put 9 .undef).put 15 .undef)), (fun s => s.int 3), (fun s x => let i := x; UntI l i), (fun s x => let i := x; ((l.length : Int) - i).toNat), [9, 15]⟩ else bif Nat.beq i 8 then some ⟨(Int), (fun s x => (((s.put 5 (.int .i64 x)).put 21 .undef).put 37 .undef)), (fun s => s.int 5), (fun s x => let i := x; ForI l i), (fun s x => let i := x; (((splitB 46 l).length : Int) - i).toNat), [21, 37]⟩ else none
theorem X_rforeign_ok : XOk Tryz.prog noT X_rforeign := tblX_cons ent_parts_ok (tblX_nil)
theorem vc_rforeign (l : Bs) (k : PV → Prop) : evF Tryz.prog X_rforeign noT (H_rforeign l) 1000 Tryz.f30 [.str l] k = (
  VS.mk []
 [(0, PV.str l), (2, PV.bool false), (3, PV.int .i64 (0 : Int)), (4, PV.undef),
 (5, PV.undef), ((9 : Nat), PV.undef), ((15 : Nat), PV.undef), (21, PV.undef), (37, PV.undef)]
 [] =
 VS.mk []
 [(0, PV.str l), (2, PV.bool false), ((3 : Nat), PV.int .i64 (0 : Int)), (4, PV.undef),
 (5, PV.undef), ((9 : Nat), PV.undef), ((15 : Nat), PV.undef), (21, PV.undef), (37, PV.undef)]
 [] ∧
 UntI l (0 : Int) ∧
 ∀ (x : Int),
 UntI l x →
 (decide (x < lenZ l) = true →
 within x (lenZ l) ∧
 (decide ((127 : Int) < byteZ l x) = true → k (PV.bool true)) ∧
 (decide ((127 : Int) < byteZ l x) = false →
 inI64 (x + (1 : Int)) ∧
 VS.mk []
 [(0, PV.str l), (2, PV.bool false), ((3 : Nat), PV.int .i64 (x + (1 : Int))),
 (4, PV.undef), (5, PV.undef), ((9 : Nat), PV.undef), ((15 : Nat), PV.undef),
 (21, PV.undef), (37, PV.undef)]
 [] =
 VS.mk []
 [(0, PV.str l), (2, PV.bool false), ((3 : Nat), PV.int .i64 (x + (1 : Int))),
 (4, PV.undef), (5, PV.undef), ((9 : Nat), PV.undef), ((15 : Nat), PV.undef),
 (21, PV.undef), (37, PV.undef)]
 [] ∧
 UntI l (x + (1 : Int)) ∧ (↑(List.length l) - (x + (1 : Int))).toNat < (↑(List.length l) - x).toNat)) ∧
 (decide (x < lenZ l) = false →
 (List.length l ≤ (1000 : Nat) ∧ (0 : Int) ≤ (46 : Int) ∧ (46 : Int) ≤ (255 : Int)) ∧
 VS.mk []
 [(0, PV.str l), (2, PV.bool false), ((3 : Nat), PV.int .i64 x),
 (4, PV.row false (BRow.strs (splitB (46 : Int) l)) (0 : Nat)),
 (5, PV.int .i64 (0 : Int)), ((9 : Nat), PV.bool (decide (x < lenZ l))), ((15 : Nat), PV.undef),
 ((21 : Nat), PV.undef), ((37 : Nat), PV.undef)]
 [] =
 VS.mk []
 [(0, PV.str l), (2, PV.bool false), ((3 : Nat), PV.int .i64 x),
 (4, PV.row false (BRow.strs (splitB (46 : Int) l)) (0 : Nat)),
 ((5 : Nat), PV.int .i64 (0 : Int)), ((9 : Nat), PV.bool (decide (x < lenZ l))), ((15 : Nat), PV.undef),
 ((21 : Nat), PV.undef), ((37 : Nat), PV.undef)]
 [] ∧
 ForI l (0 : Int) ∧
 ∀ (x_1 : Int),
 ForI l x_1 →
 (decide (x_1 < Int.ofNat (splitB (46 : Int) l).length) = true →
 within x_1 (Int.ofNat (splitB (46 : Int) l).length) ∧
 (decide ((4 : Int) ≤ lenZ (strZ (splitB (46 : Int) l) x_1)) = true →
 within x_1 (Int.ofNat (splitB (46 : Int) l).length)) ∧
 (decide ((4 : Int) ≤ lenZ (strZ (splitB (46 : Int) l) x_1)) = true →
 upto (0 : Int) (4 : Int) (lenZ (strZ (splitB (46 : Int) l) x_1))) ∧
 ((bif decide ((4 : Int) ≤ lenZ (strZ (splitB (46 : Int) l) x_1)) then
 decide
 (takeZ (strZ (splitB (46 : Int) l) x_1) (4 : Int) =
 (ByteArray.mk #[120, 110, 45, 45]).data.toList)
 else false) =
 true →
 k (PV.bool true)) ∧
 ((bif decide ((4 : Int) ≤ lenZ (strZ (splitB (46 : Int) l) x_1)) then
 decide
 (takeZ (strZ (splitB (46 : Int) l) x_1) (4 : Int) =
 (ByteArray.mk #[120, 110, 45, 45]).data.toList)
 else false) =
 false →
 inI64 (x_1 + (1 : Int)) ∧
 VS.mk []
 [(0, PV.str l), (2, PV.bool false), ((3 : Nat), PV.int .i64 x),
 (4,
 PV.row false (BRow.strs (splitB (46 : Int) l)) (0 : Nat)),
 ((5 : Nat), PV.int .i64 (x_1 + (1 : Int))),
 ((9 : Nat), PV.bool (decide (x < lenZ l))), ((15 : Nat), PV.undef),
 ((21 : Nat), PV.undef), ((37 : Nat), PV.undef)]
 [] =
 VS.mk []
 [(0, PV.str l), (2, PV.bool false), ((3 : Nat), PV.int .i64 x),
 (4,
 PV.row false (BRow.strs (splitB (46 : Int) l)) (0 : Nat)),
 ((5 : Nat), PV.int .i64 (x_1 + (1 : Int))),
 ((9 : Nat), PV.bool (decide (x < lenZ l))), ((15 : Nat), PV.undef),
 ((21 : Nat), PV.undef), ((37 : Nat), PV.undef)]
 [] ∧
 ForI l (x_1 + (1 : Int)) ∧
 (↑(splitB (46 : Int) l).length - (x_1 + (1 : Int))).toNat <
 (↑(splitB (46 : Int) l).length - x_1).toNat)) ∧
 (decide (x_1 < Int.ofNat (splitB (46 : Int) l).length) = false → k (PV.bool false)))) := by kernel_rfl
attribute [local irreducible] Go.Vc.evF
theorem ok_rforeign (l : Bs) : FuncOk Tryz.prog noT 30 [.str l] ⟨l.length ≤ 1000, .bool (forB l)⟩ := evF_ok (by kernel_rfl) X_rforeign_ok (H := H_rforeign l) (fuel := 1000) Tryz.func30 (by kernel_rfl) fun hpre => (vc_rforeign l _).mpr (by
  have hof : Int.ofNat (splitB 46 l).length = ((splitB 46 l).length : Int) := rfl
  rw [hof]
  refine ⟨rfl, ⟨0, rfl, by omega, rfl⟩, fun x hx => ?_⟩
  obtain ⟨j, rfl, hj, ha⟩ := hx
  have e1 : (j : Int) + 1 = ((j + 1 : Nat) : Int) := by push_cast; rfl
  have hb : byteZ l (j : Int) = ((l.getD j 0).toNat : Int) := rfl
  rw [e1, hb]
  refine ⟨fun h => ?_, fun h => ?_⟩
  · have hjl : j < l.length := by have := of_decide_eq_true h; unfold lenZ at this; omega
    refine ⟨by unfold within lenZ; omega, fun h2 => ?_, fun h2 => ⟨by unfold inI64; omega, rfl, ⟨j + 1, rfl, by omega, ?_⟩, by omega⟩⟩
    · have hf : l.all ascC = false := by
        rw [Bool.eq_false_iff]
        intro g
        have g1 := List.all_eq_true.1 g _ (getD_in l j hjl)
        unfold ascC at g1
        have g2 := of_decide_eq_true g1
        have g3 := of_decide_eq_true h2
        omega
      show PV.bool true = PV.bool (forB l)
      unfold forB
      rw [hf]; rfl
    · have g3 := of_decide_eq_false h2
      rw [all_step ascC l j hjl, ha, Bool.true_and]
      unfold ascC
      exact decide_eq_true (by omega)
  · have hjl : j = l.length := by have := of_decide_eq_false h; unfold lenZ at this; omega
    rw [hjl, List.take_length] at ha
    refine ⟨⟨hpre, by decide, by decide⟩, rfl, ⟨0, rfl, by omega, rfl⟩, fun y hy => ?_⟩
    obtain ⟨i, rfl, hi, hb2⟩ := hy
    have e2 : (i : Int) + 1 = ((i + 1 : Nat) : Int) := by push_cast; rfl
    have hp := split_px (strZ (splitB 46 l) (i : Int))
    have hs : strZ (splitB 46 l) (i : Int) = (splitB 46 l).getD i [] := rfl
    refine ⟨fun h => ?_, fun h => ?_⟩
    · have hil : i < (splitB 46 l).length := by have := of_decide_eq_true h; omega
      refine ⟨by unfold within; omega, fun _ => by unfold within; omega, fun h3 => ⟨by omega, by omega, of_decide_eq_true h3⟩, fun h3 => ?_, fun h3 => ⟨by unfold inI64; have := (splitB_len 46 l).1; omega, rfl, ⟨i + 1, e2, by omega, ?_⟩, by omega⟩⟩
      · have h4 : List.isPrefixOf xnL (strZ (splitB 46 l) (i : Int)) = true := by rw [← hp]; exact h3
        have h5 : (splitB 46 l).any (fun p => List.isPrefixOf xnL p) = true := by
          refine List.any_eq_true.2 ⟨strZ (splitB 46 l) (i : Int), ?_, h4⟩
          rw [hs, List.getD_eq_getElem?_getD, List.getElem?_eq_getElem hil]
          exact List.getElem_mem hil
        show PV.bool true = PV.bool (forB l)
        unfold forB
        rw [h5, Bool.or_true]
      · have h4 : List.isPrefixOf xnL (strZ (splitB 46 l) (i : Int)) = false := by rw [← hp]; exact h3
        rw [any_stepL _ _ i hil, hb2, ← hs, h4]; rfl
    · have hil : i = (splitB 46 l).length := by have := of_decide_eq_false h; omega
      rw [hil, List.take_length] at hb2
      show PV.bool false = PV.bool (forB l)
      unfold forB
      rw [ha, hb2]; rfl)
def ent_rforeign : List PV → Option CallR := fun xs => match xs with
  | [.str l] => some ⟨l.length ≤ 1000, .bool (forB l)⟩
  | _ => none
theorem ent_rforeign_ok : ∀ xs c, ent_rforeign xs = some c → FuncOk Tryz.prog noT 30 xs c := fun xs c h => by
  unfold ent_rforeign at h
  split at h
  · injection h with h; subst h; exact ok_rforeign _
  · cases h
end
section
def X_hshow : Tbl := tblX []
def H_hshow (kd : Int) (l : Bs) (n : Int) (p : List Int) : Loops := fun i => none
theorem X_hshow_ok : XOk Tryz.prog noT X_hshow := tblX_nil
theorem vc_hshow (kd : Int) (l : Bs) (n : Int) (p : List Int) (k : PV → Prop) : evF Tryz.prog X_hshow noT (H_hshow kd l n p) 1000 Tryz.f5 [.agg [.int .i64 kd, .str l, .int .u32 n, .arr 8 (.ints .u16 p)]] k = (
  (decide (kd = (4 : Int)) = true → False) ∧
 (decide (kd = (4 : Int)) = false →
 (decide (kd = (3 : Int)) = true → False) ∧
 (decide (kd = (3 : Int)) = false →
 (decide (kd = (2 : Int)) = true →
 (decide (kd = (2 : Int)) = true → k (PV.str l)) ∧ (decide (kd = (2 : Int)) = false → k (PV.str (ByteArray.mk #[]).data.toList))) ∧
 (decide (kd = (2 : Int)) = false →
 (decide (kd = (5 : Int)) = true → k (PV.str l)) ∧ (decide (kd = (5 : Int)) = false → k (PV.str (ByteArray.mk #[]).data.toList)))))) := by kernel_rfl
attribute [local irreducible] Go.Vc.evF
theorem ok_hshow (kd : Int) (l : Bs) (n : Int) (p : List Int) : FuncOk Tryz.prog noT 5 [.agg [.int .i64 kd, .str l, .int .u32 n, .arr 8 (.ints .u16 p)]] ⟨kd = 2, .str l⟩ := evF_ok (by kernel_rfl) X_hshow_ok (H := H_hshow kd l n p) (fuel := 1000) Tryz.func5 (by kernel_rfl) fun hpre => (vc_hshow kd l n p _).mpr (by
  subst hpre
  refine ⟨fun h => absurd h (by decide), fun _ => ⟨fun h => absurd h (by decide), fun _ => ⟨fun _ => ⟨fun _ => rfl, fun h => absurd h (by decide)⟩, fun h => absurd h (by decide)⟩⟩⟩)
def ent_hshow : List PV → Option CallR := fun xs => match xs with
  | [.agg [.int .i64 kd, .str l, .int .u32 n, .arr 8 (.ints .u16 p)]] => some ⟨kd = 2, .str l⟩
  | _ => none
theorem ent_hshow_ok : ∀ xs c, ent_hshow xs = some c → FuncOk Tryz.prog noT 5 xs c := fun xs c h => by
  unfold ent_hshow at h
  split at h
  · injection h with h; subst h; exact ok_hshow _ _ _ _
  · cases h
end
section
def X_hmay : Tbl := tblX [(5, ent_hshow), (9, ent_hparse)]
def H_hmay (kd : Int) (l : Bs) (n : Int) (p : List Int) : Loops := fun i => none
theorem X_hmay_ok : XOk Tryz.prog noT X_hmay := tblX_cons ent_hshow_ok (tblX_cons ent_hparse_ok (tblX_nil))
theorem vc_hmay (kd : Int) (l : Bs) (n : Int) (p : List Int) (k : PV → Prop) : evF Tryz.prog X_hmay noT (H_hmay kd l n p) 1000 Tryz.f7 [.agg [.int .i64 kd, .str l, .int .u32 n, .arr 8 (.ints .u16 p)], .bool true] k = (
  kd = (2 : Int) ∧
 (List.length l).le (1000000 : Nat) ∧
 k
 (PV.bool
 (bif decide ((hostM l).2.2.2.2 = (0 : Int)) then
 Bool.rec false
 (decide ((hostM l).2.1 = l) &&
 (decide ((hostM l).2.2.1 = n) &&
 (decide ((hostM l).2.2.2.1 = p) && true)))
 (decide ((hostM l).1 = kd))
 else false))) := by kernel_rfl
attribute [local irreducible] Go.Vc.evF
theorem ok_hmay (kd : Int) (l : Bs) (n : Int) (p : List Int) : FuncOk Tryz.prog noT 7 [.agg [.int .i64 kd, .str l, .int .u32 n, .arr 8 (.ints .u16 p)], .bool true] ⟨kd = 2 ∧ l.length ≤ 1000000 ∧ hostM l = (kd, l, n, p, 0), .bool true⟩ := evF_ok (by kernel_rfl) X_hmay_ok (H := H_hmay kd l n p) (fuel := 1000) Tryz.func7 (by kernel_rfl) fun hpre => (vc_hmay kd l n p _).mpr (by
  obtain ⟨h1, h2, h3⟩ := hpre
  refine ⟨h1, h2, ?_⟩
  rw [h3]
  dsimp only
  rw [decide_eq_true (rfl : kd = kd), decide_eq_true (rfl : l = l), decide_eq_true (rfl : n = n), decide_eq_true (rfl : p = p)]
  rfl)
def ent_hmay : List PV → Option CallR := fun xs => match xs with
  | [.agg [.int .i64 kd, .str l, .int .u32 n, .arr 8 (.ints .u16 p)], .bool true] => some ⟨kd = 2 ∧ l.length ≤ 1000000 ∧ hostM l = (kd, l, n, p, 0), .bool true⟩
  | _ => none
theorem ent_hmay_ok : ∀ xs c, ent_hmay xs = some c → FuncOk Tryz.prog noT 7 xs c := fun xs c h => by
  unfold ent_hmay at h
  split at h
  · injection h with h; subst h; exact ok_hmay _ _ _ _
  · cases h
end
section
def X_awake : Tbl := tblX [(5, ent_hshow), (9, ent_hparse), (7, ent_hmay)]
def H_awake  : Loops := fun i => none
theorem X_awake_ok : XOk Tryz.prog noT X_awake := tblX_cons ent_hshow_ok (tblX_cons ent_hparse_ok (tblX_cons ent_hmay_ok (tblX_nil)))
theorem vc_awake  (k : PV → Prop) : evF Tryz.prog X_awake noT (H_awake ) 1000 Tryz.f4 [] k = (
  (ByteArray.mk
 #[69, 88, 37, 52, 49, 109, 112, 108, 101, 46, 111, 114, 103]).data.toList.length.le
 (1000000 : Nat) ∧
 (ByteArray.mk #[97, 46, 98, 46, 55]).data.toList.length.le (1000000 : Nat) ∧
 (ByteArray.mk #[195, 169]).data.toList.length.le (1000000 : Nat) ∧
 (decide ((9 : Int) = (9 : Int)) = true → (2 : Int) = (2 : Int)) ∧
 (decide
 (lowB
 (decP
 (ByteArray.mk
 #[69, 88, 37, 52, 49, 109, 112, 108, 101, 46, 111, 114, 103]).data.toList) =
 (ByteArray.mk
 #[101, 120, 97, 109, 112, 108, 101, 46, 111, 114, 103]).data.toList) =
 true →
 (2 : Int) = (2 : Int) ∧
 List.length
 (lowB
 (decP
 (ByteArray.mk
 #[69, 88, 37, 52, 49, 109, 112, 108, 101, 46, 111, 114, 103]).data.toList)) ≤
 (1000000 : Nat) ∧
 hostM
 (lowB
 (decP
 (ByteArray.mk
 #[69, 88, 37, 52, 49, 109, 112, 108, 101, 46, 111, 114, 103]).data.toList)) =
 ((2 : Int),
 lowB
 (decP
 (ByteArray.mk
 #[69, 88, 37, 52, 49, 109, 112, 108, 101, 46, 111, 114, 103]).data.toList),
 (0 : Int), z8, (0 : Int))) ∧
 k (PV.bool true)) := by kernel_rfl
attribute [local irreducible] Go.Vc.evF
theorem ok_awake  : FuncOk Tryz.prog noT 4 [] ⟨True, .bool true⟩ := evF_ok (by kernel_rfl) X_awake_ok (H := H_awake ) (fuel := 1000) Tryz.func4 (by kernel_rfl) fun hpre => (vc_awake  _).mpr (by
  refine ⟨Nat.le_of_ble_eq_true rfl, Nat.le_of_ble_eq_true rfl, Nat.le_of_ble_eq_true rfl, fun _ => rfl, fun _ => ⟨rfl, by decide, by kernel_rfl⟩, rfl⟩)
def ent_awake : List PV → Option CallR := fun xs => match xs with
  | [] => some ⟨True, .bool true⟩
  | _ => none
theorem ent_awake_ok : ∀ xs c, ent_awake xs = some c → FuncOk Tryz.prog noT 4 xs c := fun xs c h => by
  unfold ent_awake at h
  split at h
  · injection h with h; subst h; exact ok_awake 
  · cases h
end
end Go.Proofs.YtaphadmcjimmeaaGreatDoor
