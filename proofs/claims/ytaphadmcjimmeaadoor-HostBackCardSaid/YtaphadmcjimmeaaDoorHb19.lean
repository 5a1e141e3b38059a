import Derived.Shelf.Strings.FuncGrows
import Derived.Lib.TrimAscii
import Derived.Test.YtaphadmcjimmeaaDoorProg
import Derived.ProofKit
import Derived.Test.YtaphadmcjimmeaaDoorHb6
import Derived.Test.YtaphadmcjimmeaaDoorHb18
set_option linter.unusedVariables false
set_option linter.unusedSimpArgs false
set_option maxRecDepth 100000
set_option maxHeartbeats 4000000
namespace Go.Proofs.YtaphadmcjimmeaaDoor
open Go Go.Proofs Go.RowKit Go.Vc
theorem TabH.below {w w' : World} (h : TabH w) (hb : Below w.heap.size w w') : TabH w' :=
  Wd.mono (self := wdH) w w' hb.os hb.tape hb.output hb.size (fun k hk => hb.block k (Nat.lt_of_lt_of_le hk (Wd.within (self := wdH) w h))) h
theorem nodom_grows (w : World) (hw : TabH w) : PredGrows Tryd.prog 22 #[] (fun x => nodB x) w := fun W x hx hb =>
  ((ok_nodom (x : Int)).walk Tryd.func22 (by kernel_rfl) rfl ⟨by omega, by omega⟩ (fits_none W) (noT_ok _) (hw.below hb) (vs := [.int .i32 x]) ⟨_, _, rfl, rfl, rfl⟩).mono fun e w' ⟨u, he, F', _, hb, _, _, _, _, hr⟩ => ⟨by rw [he]; exact congrArg _ hr, hb⟩
def cfB (l : Bs) : Bool := decide (0 ≤ Lib.idxFunc (fun x => nodB x) true ⟨l.toArray⟩)
theorem ok_cfunc (l : Bs) : FuncOk Tryd.prog noT 21 [.str l, .fn (.func 22) [] []] ⟨True, .bool (cfB l)⟩ :=
  FuncOk.of_calls Tryd.func21 (by kernel_rfl) rfl fun _ F w vs _ _ hw hx => by
    obtain ⟨_, _, rfl, r1, _, _, rfl, r2, rfl⟩ := hx
    obtain rfl := r1
    obtain ⟨us, vs, rfl, rfl, rfl⟩ := r2
    exact ⟨_, Any.strings_ContainsFunc_grows Tryd.laysGw17 22 #[] (enters_of Tryd.func22 (by kernel_rfl) rfl) _ ⟨l.toArray⟩ w (nodom_grows w hw), fun G w => rfl⟩
def ent_cfunc : List PV → Option CallR := fun xs => match xs with | [.str l, .fn (.func 22) [] []] => some ⟨True, .bool (cfB l)⟩ | _ => none
theorem ent_cfunc_ok : ∀ xs c, ent_cfunc xs = some c → FuncOk Tryd.prog noT 21 xs c := fun xs c h => by
  unfold ent_cfunc at h
  split at h
  · injection h with h; subst h; exact ok_cfunc _
  · cases h
section
def sufB (l m : Bs) : Bool := bif decide (lenZ m ≤ lenZ l) then decide (dropZ l (lenZ l - lenZ m) = m) else false
def X_lsuf : Tbl := tblX []
def H_lsuf (l m : Bs) : Loops := fun i => none
theorem X_lsuf_ok : XOk Tryd.prog noT X_lsuf := tblX_nil
theorem vc_lsuf (l m : Bs) (k : PV → Prop) : evF Tryd.prog X_lsuf noT (H_lsuf l m) 1000 Tryd.f55 [.str l, .str m] k = (
  (decide (lenZ m ≤ lenZ l) = true → inI64 (lenZ l - lenZ m)) ∧
 (decide (lenZ m ≤ lenZ l) = true → upto (lenZ l - lenZ m) (lenZ l) (lenZ l)) ∧
 k (PV.bool (bif decide (lenZ m ≤ lenZ l) then decide (dropZ l (lenZ l - lenZ m) = m) else false))) := by kernel_rfl
attribute [local irreducible] Go.Vc.evF
theorem ok_lsuf (l m : Bs) : FuncOk Tryd.prog noT 55 [.str l, .str m] ⟨l.length ≤ 1000000 ∧ m.length ≤ 1000000, .bool (sufB l m)⟩ := evF_ok (by kernel_rfl) X_lsuf_ok (H := H_lsuf l m) (fuel := 1000) Tryd.func55 (by kernel_rfl) fun hpre => (vc_lsuf l m _).mpr (by
  exact ⟨fun h => ⟨by unfold lenZ; omega, by unfold lenZ; omega⟩, fun h => ⟨by have := of_decide_eq_true h; omega, by unfold lenZ; omega, Int.le_refl _⟩, rfl⟩)
def ent_lsuf : List PV → Option CallR := fun xs => match xs with
  | [.str l, .str m] => some ⟨l.length ≤ 1000000 ∧ m.length ≤ 1000000, .bool (sufB l m)⟩
  | _ => none
theorem ent_lsuf_ok : ∀ xs c, ent_lsuf xs = some c → FuncOk Tryd.prog noT 55 xs c := fun xs c h => by
  unfold ent_lsuf at h
  split at h
  · injection h with h; subst h; exact ok_lsuf _ _
  · cases h
end
section
def cutS (l m : Bs) : Bs × Bool := if sufB l m = true then (takeZ l (lenZ l - lenZ m), true) else (l, false)
def X_lcsuf : Tbl := tblX [(55, ent_lsuf)]
def H_lcsuf (l m : Bs) : Loops := fun i => none
theorem X_lcsuf_ok : XOk Tryd.prog noT X_lcsuf := tblX_cons ent_lsuf_ok (tblX_nil)
theorem vc_lcsuf (l m : Bs) (k : PV → Prop) : evF Tryd.prog X_lcsuf noT (H_lcsuf l m) 1000 Tryd.f31 [.str l, .str m] k = (
  (List.length l ≤ (1000000 : Nat) ∧ List.length m ≤ (1000000 : Nat)) ∧
 ((!sufB l m) = true → k (PV.tup [PV.str l, PV.bool false])) ∧
 ((!sufB l m) = false →
 inI64 (lenZ l - lenZ m) ∧
 upto (0 : Int) (lenZ l - lenZ m) (lenZ l) ∧
 k (PV.tup [PV.str (takeZ l (lenZ l - lenZ m)), PV.bool true]))) := by kernel_rfl
attribute [local irreducible] Go.Vc.evF
theorem ok_lcsuf (l m : Bs) : FuncOk Tryd.prog noT 31 [.str l, .str m] ⟨l.length ≤ 1000000 ∧ m.length ≤ 1000000, .tup [.str (cutS l m).1, .bool (cutS l m).2]⟩ := evF_ok (by kernel_rfl) X_lcsuf_ok (H := H_lcsuf l m) (fuel := 1000) Tryd.func31 (by kernel_rfl) fun hpre => (vc_lcsuf l m _).mpr (by
  obtain ⟨h1, h2⟩ := hpre
  refine ⟨⟨h1, h2⟩, fun h => ?_, fun h => ⟨by unfold inI64 lenZ; omega, ?_, ?_⟩⟩
  · have e : ¬ sufB l m = true := by intro e; rw [e] at h; cases h
    have : cutS l m = (l, false) := by unfold cutS; rw [if_neg e]
    rw [this]
  · have e : sufB l m = true := by cases e : sufB l m with | true => rfl | false => rw [e] at h; cases h
    unfold sufB at e
    cases e2 : decide (lenZ m ≤ lenZ l) with
    | false => rw [e2] at e; cases e
    | true => have := of_decide_eq_true e2; unfold upto; unfold lenZ at this ⊢; omega
  · have e : sufB l m = true := by cases e : sufB l m with | true => rfl | false => rw [e] at h; cases h
    have : cutS l m = (takeZ l (lenZ l - lenZ m), true) := by unfold cutS; rw [if_pos e]
    rw [this])
def ent_lcsuf : List PV → Option CallR := fun xs => match xs with
  | [.str l, .str m] => some ⟨l.length ≤ 1000000 ∧ m.length ≤ 1000000, .tup [.str (cutS l m).1, .bool (cutS l m).2]⟩
  | _ => none
theorem ent_lcsuf_ok : ∀ xs c, ent_lcsuf xs = some c → FuncOk Tryd.prog noT 31 xs c := fun xs c h => by
  unfold ent_lcsuf at h
  split at h
  · injection h with h; subst h; exact ok_lcsuf _ _
  · cases h
end
section
def X_csuf : Tbl := tblX [(31, ent_lcsuf)]
def H_csuf (l m : Bs) : Loops := fun i => none
theorem X_csuf_ok : XOk Tryd.prog noT X_csuf := tblX_cons ent_lcsuf_ok (tblX_nil)
theorem vc_csuf (l m : Bs) (k : PV → Prop) : evF Tryd.prog X_csuf noT (H_csuf l m) 1000 Tryd.f16 [.str l, .str m] k = (
  (List.length l ≤ (1000000 : Nat) ∧ List.length m ≤ (1000000 : Nat)) ∧
 k (PV.tup [PV.str (cutS l m).1, PV.bool (cutS l m).2])) := by kernel_rfl
attribute [local irreducible] Go.Vc.evF
theorem ok_csuf (l m : Bs) : FuncOk Tryd.prog noT 16 [.str l, .str m] ⟨l.length ≤ 1000000 ∧ m.length ≤ 1000000, .tup [.str (cutS l m).1, .bool (cutS l m).2]⟩ := evF_ok (by kernel_rfl) X_csuf_ok (H := H_csuf l m) (fuel := 1000) Tryd.func16 (by kernel_rfl) fun hpre => (vc_csuf l m _).mpr (by
  exact ⟨hpre, rfl⟩)
def ent_csuf : List PV → Option CallR := fun xs => match xs with
  | [.str l, .str m] => some ⟨l.length ≤ 1000000 ∧ m.length ≤ 1000000, .tup [.str (cutS l m).1, .bool (cutS l m).2]⟩
  | _ => none
theorem ent_csuf_ok : ∀ xs c, ent_csuf xs = some c → FuncOk Tryd.prog noT 16 xs c := fun xs c h => by
  unfold ent_csuf at h
  split at h
  · injection h with h; subst h; exact ok_csuf _ _
  · cases h
end
section
def xnL : Bs := [120, 110, 45, 45]
def dxnL : Bs := [46, 120, 110, 45, 45]
def ascC (b : UInt8) : Bool := decide (b.toNat ≤ 127)
def untB (l : Bs) : Bool := !l.all ascC || preB l xnL || hasB l dxnL
theorem all_step (p : UInt8 → Bool) (l : Bs) (j : Nat) (h : j < l.length) : (l.take (j + 1)).all p = ((l.take j).all p && p (l.getD j 0)) := by
  rw [List.take_add_one, List.getElem?_eq_getElem h, List.all_append, List.getD_eq_getElem?_getD, List.getElem?_eq_getElem h]
  simp
theorem getD_in (l : Bs) (j : Nat) (h : j < l.length) : l.getD j 0 ∈ l := by
  rw [List.getD_eq_getElem?_getD, List.getElem?_eq_getElem h]
  exact List.getElem_mem h
def UntI (l : Bs) (i : Int) : Prop := ∃ j : Nat, i = j ∧ j ≤ l.length ∧ (l.take j).all ascC = true
def X_untold : Tbl := tblX [(8, ent_prefix), (37, ent_has)]
def H_untold (l : Bs) : Loops := fun i => bif Nat.beq i 2 then some ⟨(Int), (fun s x => ((((s.put 6 (.int .i64 x)).put 3 .undef).put 7 .undef).put 12 .undef)), (fun s => s.int 6), (fun s x => let i := x; UntI l i), (fun s x => let i := x; ((l.length : Int) - i).toNat), [3, 7, 12]⟩ else none
theorem X_untold_ok : XOk Tryd.prog noT X_untold := tblX_cons ent_prefix_ok (tblX_cons ent_has_ok (tblX_nil))
theorem vc_untold (l : Bs) (k : PV → Prop) : evF Tryd.prog X_untold noT (H_untold l) 1000 Tryd.f20 [.str l] k = (
  VS.mk []
 [(0, PV.str l), (2, PV.bool false), ((3 : Nat), PV.undef), (5, PV.int .i64 (lenZ l)),
 (6, PV.int .i64 (0 : Int)), ((7 : Nat), PV.undef), ((12 : Nat), PV.undef)]
 [] =
 VS.mk []
 [(0, PV.str l), (2, PV.bool false), ((3 : Nat), PV.undef), (5, PV.int .i64 (lenZ l)),
 ((6 : Nat), PV.int .i64 (0 : Int)), ((7 : Nat), PV.undef), ((12 : Nat), PV.undef)]
 [] ∧
 UntI l (0 : Int) ∧
 ∀ (x : Int),
 UntI l x →
 (decide (x < lenZ l) = true →
 within x (lenZ l) ∧
 (decide ((127 : Int) < byteZ l x) = true → k (PV.bool true)) ∧
 (decide ((127 : Int) < byteZ l x) = false →
 inI64 (x + (1 : Int)) ∧
 VS.mk []
 [(0, PV.str l), (2, PV.bool false), ((3 : Nat), PV.undef),
 (5, PV.int .i64 (lenZ l)), ((6 : Nat), PV.int .i64 (x + (1 : Int))),
 ((7 : Nat), PV.undef), ((12 : Nat), PV.undef)]
 [] =
 VS.mk []
 [(0, PV.str l), (2, PV.bool false), ((3 : Nat), PV.undef),
 (5, PV.int .i64 (lenZ l)), ((6 : Nat), PV.int .i64 (x + (1 : Int))),
 ((7 : Nat), PV.undef), ((12 : Nat), PV.undef)]
 [] ∧
 UntI l (x + (1 : Int)) ∧ (↑(List.length l) - (x + (1 : Int))).toNat < (↑(List.length l) - x).toNat)) ∧
 (decide (x < lenZ l) = false →
 True ∧
 (preB l (ByteArray.mk #[120, 110, 45, 45]).data.toList = false →
 (List.length l).le (1000000 : Nat)) ∧
 k
 (PV.bool
 (bif preB l (ByteArray.mk #[120, 110, 45, 45]).data.toList then true
 else
 hasB l
 (ByteArray.mk #[46, 120, 110, 45, 45]).data.toList)))) := by kernel_rfl
attribute [local irreducible] Go.Vc.evF
theorem ok_untold (l : Bs) : FuncOk Tryd.prog noT 20 [.str l] ⟨l.length ≤ 1000000, .bool (untB l)⟩ := evF_ok (by kernel_rfl) X_untold_ok (H := H_untold l) (fuel := 1000) Tryd.func20 (by kernel_rfl) fun hpre => (vc_untold l _).mpr (by
  refine ⟨rfl, ⟨0, rfl, by omega, rfl⟩, fun x hx => ?_⟩
  obtain ⟨j, rfl, hj, ha⟩ := hx
  have e1 : (j : Int) + 1 = ((j + 1 : Nat) : Int) := by push_cast; rfl
  have hb : byteZ l (j : Int) = ((l.getD j 0).toNat : Int) := rfl
  rw [e1, hb]
  refine ⟨fun h => ?_, fun h => ?_⟩
  · have hjl : j < l.length := by have := of_decide_eq_true h; unfold lenZ at this; omega
    refine ⟨by unfold within lenZ; omega, fun h2 => ?_, fun h2 => ⟨by unfold inI64; omega, rfl, ⟨j + 1, rfl, by omega, ?_⟩, by omega⟩⟩
    · have hf : l.all ascC = false := by
        rw [Bool.eq_false_iff]
        intro g
        have g1 := List.all_eq_true.1 g _ (getD_in l j hjl)
        unfold ascC at g1
        have g2 := of_decide_eq_true g1
        have g3 := of_decide_eq_true h2
        omega
      show PV.bool true = PV.bool (untB l)
      unfold untB
      rw [hf]; rfl
    · have g3 := of_decide_eq_false h2
      rw [all_step ascC l j hjl, ha, Bool.true_and]
      unfold ascC
      exact decide_eq_true (by omega)
  · have hjl : j = l.length := by have := of_decide_eq_false h; unfold lenZ at this; omega
    rw [hjl, List.take_length] at ha
    refine ⟨trivial, fun _ => hpre, ?_⟩
    show PV.bool (bif preB l xnL then true else hasB l dxnL) = PV.bool (untB l)
    unfold untB
    rw [ha]
    cases preB l xnL <;> rfl)
def ent_untold : List PV → Option CallR := fun xs => match xs with
  | [.str l] => some ⟨l.length ≤ 1000000, .bool (untB l)⟩
  | _ => none
theorem ent_untold_ok : ∀ xs c, ent_untold xs = some c → FuncOk Tryd.prog noT 20 xs c := fun xs c h => by
  unfold ent_untold at h
  split at h
  · injection h with h; subst h; exact ok_untold _
  · cases h
end
section
abbrev H5 := Int × Bs × Int × List Int × Int
def z8 : List Int := List.replicate 8 0
def noH (e : Int) : H5 := (0, [], 0, z8, e)
def domR (d : Bs) : H5 := if untB d = true then noH 9 else if d = [] ∨ cfB d = true then noH 8 else if end4 d = false then (2, d, 0, z8, 0) else if fourO d = true then (3, [], dotV d, z8, 0) else noH 8
theorem lowB_len (l : Bs) : (lowB l).length = l.length := by unfold lowB; rw [List.length_map]
theorem decP_len : ∀ l : Bs, (decP l).length ≤ l.length
  | [] => Nat.le_refl _
  | [b] => Nat.le_refl _
  | [b, h] => Nat.le_refl _
  | b :: h :: g :: t => by
    have h1 := decP_len t
    have h2 := decP_len (h :: g :: t)
    show (if b.toNat = 37 ∧ 0 ≤ hxZ h.toNat ∧ 0 ≤ hxZ g.toNat then zByte (hxZ h.toNat * 16 + hxZ g.toNat) :: decP t else b :: decP (h :: g :: t)).length ≤ _
    split
    · rw [List.length_cons]; simp only [List.length_cons]; omega
    · rw [List.length_cons]; simp only [List.length_cons] at h2 ⊢; omega
def X_pdom : Tbl := tblX [(19, ent_pdec), (18, ent_lower), (20, ent_untold), (21, ent_cfunc), (23, ent_ends), (24, ent_pfour)]
def H_pdom (l : Bs) : Loops := fun i => none
theorem X_pdom_ok : XOk Tryd.prog noT X_pdom := tblX_cons ent_pdec_ok (tblX_cons ent_lower_ok (tblX_cons ent_untold_ok (tblX_cons ent_cfunc_ok (tblX_cons ent_ends_ok (tblX_cons ent_pfour_ok (tblX_nil))))))
theorem vc_pdom (l : Bs) (k : PV → Prop) : evF Tryd.prog X_pdom noT (H_pdom l) 1000 Tryd.f10 [.str l] k = (
  (List.length l).le (1000000 : Nat) ∧
 (List.length (decP l)).le (1000000 : Nat) ∧
 (List.length (lowB (decP l))).le (1000000 : Nat) ∧
 (untB (lowB (decP l)) = true →
 k
 (PV.tup
 [PV.agg
 [PV.int .i64 (0 : Int), PV.str [], PV.int .u32 (0 : Int),
 PV.arr (8 : Nat) (BRow.ints .u16 (List.replicate (8 : Nat) (0 : Int)))],
 PV.int .i64 (9 : Int)])) ∧
 (untB (lowB (decP l)) = false →
 (decide (lowB (decP l) = (ByteArray.mk #[]).data.toList) = false → True) ∧
 ((bif decide (lowB (decP l) = (ByteArray.mk #[]).data.toList) then true
 else cfB (lowB (decP l))) =
 true →
 k
 (PV.tup
 [PV.agg
 [PV.int .i64 (0 : Int), PV.str [], PV.int .u32 (0 : Int),
 PV.arr (8 : Nat) (BRow.ints .u16 (List.replicate (8 : Nat) (0 : Int)))],
 PV.int .i64 (8 : Int)])) ∧
 ((bif decide (lowB (decP l) = (ByteArray.mk #[]).data.toList) then true
 else cfB (lowB (decP l))) =
 false →
 (List.length (lowB (decP l))).le (1000000 : Nat) ∧
 ((!end4 (lowB (decP l))) = true →
 k
 (PV.tup
 [PV.agg
 [PV.int .i64 (2 : Int),
 PV.str (lowB (decP l)),
 PV.int .u32 (0 : Int),
 PV.arr (8 : Nat) (BRow.ints .u16 (List.replicate (8 : Nat) (0 : Int)))],
 PV.int .i64 (0 : Int)])) ∧
 ((!end4 (lowB (decP l))) = false →
 (List.length (lowB (decP l))).le (1000000 : Nat) ∧
 ((!fourO (lowB (decP l))) = true →
 k
 (PV.tup
 [PV.agg
 [PV.int .i64 (0 : Int), PV.str [], PV.int .u32 (0 : Int),
 PV.arr (8 : Nat) (BRow.ints .u16 (List.replicate (8 : Nat) (0 : Int)))],
 PV.int .i64 (8 : Int)])) ∧
 ((!fourO (lowB (decP l))) = false →
 k
 (PV.tup
 [PV.agg
 [PV.int .i64 (3 : Int), PV.str [],
 PV.int .u32
 (dotV (lowB (decP l))),
 PV.arr (8 : Nat) (BRow.ints .u16 (List.replicate (8 : Nat) (0 : Int)))],
 PV.int .i64 (0 : Int)])))))) := by kernel_rfl
attribute [local irreducible] Go.Vc.evF
theorem ok_pdom (l : Bs) : FuncOk Tryd.prog noT 10 [.str l] ⟨l.length ≤ 1000000, .tup [.agg [.int .i64 (domR (lowB (decP l))).1, .str (domR (lowB (decP l))).2.1, .int .u32 (domR (lowB (decP l))).2.2.1, .arr 8 (.ints .u16 (domR (lowB (decP l))).2.2.2.1)], .int .i64 (domR (lowB (decP l))).2.2.2.2]⟩ := evF_ok (by kernel_rfl) X_pdom_ok (H := H_pdom l) (fuel := 1000) Tryd.func10 (by kernel_rfl) fun hpre => (vc_pdom l _).mpr (by
  have hd1 := decP_len l
  have hd2 := lowB_len (decP l)
  have hd : (lowB (decP l)).length ≤ 1000000 := by omega
  obtain ⟨d, hdd⟩ : ∃ d, lowB (decP l) = d := ⟨_, rfl⟩
  rw [hdd] at hd ⊢
  refine ⟨hpre, Nat.le_trans hd1 hpre, hd, fun h => ?_, fun h => ⟨fun _ => trivial, fun h2 => ?_, fun h2 => ?_⟩⟩
  · have : domR d = noH 9 := by unfold domR; rw [if_pos h]
    rw [this]; rfl
  · have h3 : d = [] ∨ cfB d = true := by
      cases e : decide (d = (ByteArray.mk #[]).data.toList) with
      | true => exact .inl (of_decide_eq_true e)
      | false => rw [e] at h2; exact .inr h2
    have : domR d = noH 8 := by unfold domR; rw [if_neg (by rw [h]; decide), if_pos h3]
    rw [this]; rfl
  · have h3 : ¬ (d = [] ∨ cfB d = true) := by
      cases e : decide (d = (ByteArray.mk #[]).data.toList) with
      | true => rw [e] at h2; cases h2
      | false =>
        rw [e] at h2
        have e2 : ¬ d = [] := of_decide_eq_false e
        have h4 : cfB d = false := h2
        rintro (g | g)
        · exact e2 g
        · rw [h4] at g; cases g
    have hu : ¬ untB d = true := by rw [h]; decide
    refine ⟨hd, fun h4 => ?_, fun h4 => ⟨hd, fun h5 => ?_, fun h5 => ?_⟩⟩
    · have e4 : end4 d = false := by cases e : end4 d with | false => rfl | true => rw [e] at h4; cases h4
      have : domR d = (2, d, 0, z8, 0) := by unfold domR; rw [if_neg hu, if_neg h3, if_pos e4]
      rw [this]; rfl
    · have e4 : ¬ end4 d = false := by intro e; rw [e] at h4; cases h4
      have e5 : ¬ fourO d = true := by intro e; rw [e] at h5; cases h5
      have : domR d = noH 8 := by unfold domR; rw [if_neg hu, if_neg h3, if_neg e4, if_neg e5]
      rw [this]; rfl
    · have e4 : ¬ end4 d = false := by intro e; rw [e] at h4; cases h4
      have e5 : fourO d = true := by cases e : fourO d with | true => rfl | false => rw [e] at h5; cases h5
      have : domR d = (3, [], dotV d, z8, 0) := by unfold domR; rw [if_neg hu, if_neg h3, if_neg e4, if_pos e5]
      rw [this]; rfl)
def ent_pdom : List PV → Option CallR := fun xs => match xs with
  | [.str l] => some ⟨l.length ≤ 1000000, .tup [.agg [.int .i64 (domR (lowB (decP l))).1, .str (domR (lowB (decP l))).2.1, .int .u32 (domR (lowB (decP l))).2.2.1, .arr 8 (.ints .u16 (domR (lowB (decP l))).2.2.2.1)], .int .i64 (domR (lowB (decP l))).2.2.2.2]⟩
  | _ => none
theorem ent_pdom_ok : ∀ xs c, ent_pdom xs = some c → FuncOk Tryd.prog noT 10 xs c := fun xs c h => by
  unfold ent_pdom at h
  split at h
  · injection h with h; subst h; exact ok_pdom _
  · cases h
end
section
def sixR (t : Bs) : H5 := if (cutS t [93]).2 = true ∧ (six (cutS t [93]).1).2 = true then (4, [], 0, (six (cutS t [93]).1).1, 0) else noH 8
theorem cutS_len (l m : Bs) : (cutS l m).1.length ≤ l.length := by
  unfold cutS
  split
  · show (l.take _).length ≤ _
    rw [List.length_take]; omega
  · exact Nat.le_refl _
def X_pip6 : Tbl := tblX [(16, ent_csuf), (17, ent_parse6)]
def H_pip6 (l : Bs) : Loops := fun i => none
theorem X_pip6_ok : XOk Tryd.prog noT X_pip6 := tblX_cons ent_csuf_ok (tblX_cons ent_parse6_ok (tblX_nil))
theorem vc_pip6 (l : Bs) (k : PV → Prop) : evF Tryd.prog X_pip6 noT (H_pip6 l) 1000 Tryd.f9 [.str l] k = (
  upto (1 : Int) (lenZ l) (lenZ l) ∧
 ((dropZ l (1 : Int)).length ≤ (1000000 : Nat) ∧ (ByteArray.mk #[93]).data.toList.length ≤ (1000000 : Nat)) ∧
 ((cutS (dropZ l (1 : Int)) (ByteArray.mk #[93]).data.toList).2 = true →
 (List.length (cutS (dropZ l (1 : Int)) (ByteArray.mk #[93]).data.toList).1).le (1000000 : Nat) ∧
 ((six
 (cutS (dropZ l (1 : Int)) (ByteArray.mk #[93]).data.toList).1).2 =
 true →
 k
 (PV.tup
 [PV.agg
 [PV.int .i64 (4 : Int), PV.str [], PV.int .u32 (0 : Int),
 PV.arr (8 : Nat)
 (BRow.ints .u16
 (six
 (cutS (dropZ l (1 : Int)) (ByteArray.mk #[93]).data.toList).1).1)],
 PV.int .i64 (0 : Int)])) ∧
 ((six
 (cutS (dropZ l (1 : Int)) (ByteArray.mk #[93]).data.toList).1).2 =
 false →
 k
 (PV.tup
 [PV.agg
 [PV.int .i64 (0 : Int), PV.str [], PV.int .u32 (0 : Int),
 PV.arr (8 : Nat) (BRow.ints .u16 (List.replicate (8 : Nat) (0 : Int)))],
 PV.int .i64 (8 : Int)]))) ∧
 ((cutS (dropZ l (1 : Int)) (ByteArray.mk #[93]).data.toList).2 = false →
 k
 (PV.tup
 [PV.agg
 [PV.int .i64 (0 : Int), PV.str [], PV.int .u32 (0 : Int),
 PV.arr (8 : Nat) (BRow.ints .u16 (List.replicate (8 : Nat) (0 : Int)))],
 PV.int .i64 (8 : Int)]))) := by kernel_rfl
attribute [local irreducible] Go.Vc.evF
theorem ok_pip6 (l : Bs) : FuncOk Tryd.prog noT 9 [.str l] ⟨1 ≤ l.length ∧ l.length ≤ 1000000, .tup [.agg [.int .i64 (sixR (l.drop 1)).1, .str (sixR (l.drop 1)).2.1, .int .u32 (sixR (l.drop 1)).2.2.1, .arr 8 (.ints .u16 (sixR (l.drop 1)).2.2.2.1)], .int .i64 (sixR (l.drop 1)).2.2.2.2]⟩ := evF_ok (by kernel_rfl) X_pip6_ok (H := H_pip6 l) (fuel := 1000) Tryd.func9 (by kernel_rfl) fun hpre => (vc_pip6 l _).mpr (by
  obtain ⟨h1, h2⟩ := hpre
  have hd : dropZ l 1 = l.drop 1 := rfl
  have hl : (l.drop 1).length ≤ 1000000 := by rw [List.length_drop]; omega
  have hc := cutS_len (l.drop 1) [93]
  rw [hd]
  refine ⟨⟨by omega, by unfold lenZ; omega, Int.le_refl _⟩, ⟨hl, by decide⟩, fun h => ⟨Nat.le_trans hc hl, fun h3 => ?_, fun h3 => ?_⟩, fun h => ?_⟩
  · have : sixR (l.drop 1) = (4, [], 0, (six (cutS (l.drop 1) [93]).1).1, 0) := by unfold sixR; rw [if_pos ⟨h, h3⟩]
    rw [this]
  · have : sixR (l.drop 1) = noH 8 := by unfold sixR; rw [if_neg (fun g => by have g2 : (six (cutS (l.drop 1) [93]).1).2 = false := h3; rw [g.2] at g2; cases g2)]
    rw [this]; rfl
  · have : sixR (l.drop 1) = noH 8 := by unfold sixR; rw [if_neg (fun g => by have g2 : (cutS (l.drop 1) [93]).2 = false := h; rw [g.1] at g2; cases g2)]
    rw [this]; rfl)
def ent_pip6 : List PV → Option CallR := fun xs => match xs with
  | [.str l] => some ⟨1 ≤ l.length ∧ l.length ≤ 1000000, .tup [.agg [.int .i64 (sixR (l.drop 1)).1, .str (sixR (l.drop 1)).2.1, .int .u32 (sixR (l.drop 1)).2.2.1, .arr 8 (.ints .u16 (sixR (l.drop 1)).2.2.2.1)], .int .i64 (sixR (l.drop 1)).2.2.2.2]⟩
  | _ => none
theorem ent_pip6_ok : ∀ xs c, ent_pip6 xs = some c → FuncOk Tryd.prog noT 9 xs c := fun xs c h => by
  unfold ent_pip6 at h
  split at h
  · injection h with h; subst h; exact ok_pip6 _
  · cases h
end
section
def hostM (l : Bs) : H5 := if preB l [91] = true then sixR (l.drop 1) else domR (lowB (decP l))
def X_hparse : Tbl := tblX [(8, ent_prefix), (9, ent_pip6), (10, ent_pdom), (11, ent_con)]
def H_hparse (l : Bs) : Loops := fun i => none
theorem X_hparse_ok : XOk Tryd.prog noT X_hparse := tblX_cons ent_prefix_ok (tblX_cons ent_pip6_ok (tblX_cons ent_pdom_ok (tblX_cons ent_con_ok (tblX_nil))))
theorem vc_hparse (l : Bs) (k : PV → Prop) : evF Tryd.prog X_hparse noT (H_hparse l) 1000 Tryd.f5 [.str l, .bool true] k = (
  True ∧
 (preB l (ByteArray.mk #[91]).data.toList = true →
 ((1 : Nat) ≤ List.length l ∧ List.length l ≤ (1000000 : Nat)) ∧
 k
 (PV.tup
 [PV.agg
 [PV.int .i64 (sixR (List.drop (1 : Nat) l)).1,
 PV.str (sixR (List.drop (1 : Nat) l)).2.1,
 PV.int .u32 (sixR (List.drop (1 : Nat) l)).2.2.1,
 PV.arr (8 : Nat) (BRow.ints .u16 (sixR (List.drop (1 : Nat) l)).2.2.2.1)],
 PV.int .i64 (sixR (List.drop (1 : Nat) l)).2.2.2.2])) ∧
 (preB l (ByteArray.mk #[91]).data.toList = false →
 (true = true →
 (List.length l).le (1000000 : Nat) ∧
 k
 (PV.tup
 [PV.agg
 [PV.int .i64
 (domR (lowB (decP l))).1,
 PV.str (domR (lowB (decP l))).2.1,
 PV.int .u32
 (domR (lowB (decP l))).2.2.1,
 PV.arr (8 : Nat)
 (BRow.ints .u16
 (domR (lowB (decP l))).2.2.2.1)],
 PV.int .i64
 (domR (lowB (decP l))).2.2.2.2])) ∧
 (true = false →
 (List.length l ≤ (1000000 : Nat) ∧
 (ByteArray.mk
 #[0, 9, 10, 13, 32, 35, 47, 58, 60, 62, 63, 64, 91, 92, 93, 94, 124]).data.toList.length ≤
 (1000000 : Nat) ∧
 ∀ (b : UInt8),
 b ∈
 (ByteArray.mk
 #[0, 9, 10, 13, 32, 35, 47, 58, 60, 62, 63, 64, 91, 92, 93, 94, 124]).data.toList →
 b.toNat < (128 : Nat)) ∧
 (conB l
 (ByteArray.mk
 #[0, 9, 10, 13, 32, 35, 47, 58, 60, 62, 63, 64, 91, 92, 93, 94, 124]).data.toList =
 true →
 k
 (PV.tup
 [PV.agg
 [PV.int .i64 (0 : Int), PV.str [], PV.int .u32 (0 : Int),
 PV.arr (8 : Nat) (BRow.ints .u16 (List.replicate (8 : Nat) (0 : Int)))],
 PV.int .i64 (8 : Int)])) ∧
 (conB l
 (ByteArray.mk
 #[0, 9, 10, 13, 32, 35, 47, 58, 60, 62, 63, 64, 91, 92, 93, 94, 124]).data.toList =
 false →
 (decide (l = (ByteArray.mk #[]).data.toList) = true →
 k
 (PV.tup
 [PV.agg
 [PV.int .i64 (1 : Int), PV.str [], PV.int .u32 (0 : Int),
 PV.arr (8 : Nat) (BRow.ints .u16 (List.replicate (8 : Nat) (0 : Int)))],
 PV.int .i64 (0 : Int)])) ∧
 (decide (l = (ByteArray.mk #[]).data.toList) = false → False))))) := by kernel_rfl
attribute [local irreducible] Go.Vc.evF
theorem ok_hparse (l : Bs) : FuncOk Tryd.prog noT 5 [.str l, .bool true] ⟨l.length ≤ 1000000, .tup [.agg [.int .i64 (hostM l).1, .str (hostM l).2.1, .int .u32 (hostM l).2.2.1, .arr 8 (.ints .u16 (hostM l).2.2.2.1)], .int .i64 (hostM l).2.2.2.2]⟩ := evF_ok (by kernel_rfl) X_hparse_ok (H := H_hparse l) (fuel := 1000) Tryd.func5 (by kernel_rfl) fun hpre => (vc_hparse l _).mpr (by
  have e91 : (ByteArray.mk #[91]).data.toList = ([91] : Bs) := rfl
  rw [e91]
  refine ⟨trivial, fun h => ⟨⟨?_, hpre⟩, ?_⟩, fun h => ?_⟩
  · cases l with
    | nil => cases h
    | cons b r => rw [List.length_cons]; omega
  · have : hostM l = sixR (l.drop 1) := by unfold hostM; rw [if_pos h]
    rw [this]
  · have : hostM l = domR (lowB (decP l)) := by unfold hostM; rw [if_neg (by rw [h]; decide)]
    rw [this]
    exact ⟨fun _ => ⟨hpre, rfl⟩, fun h => by cases h⟩)
def ent_hparse : List PV → Option CallR := fun xs => match xs with
  | [.str l, .bool true] => some ⟨l.length ≤ 1000000, .tup [.agg [.int .i64 (hostM l).1, .str (hostM l).2.1, .int .u32 (hostM l).2.2.1, .arr 8 (.ints .u16 (hostM l).2.2.2.1)], .int .i64 (hostM l).2.2.2.2]⟩
  | _ => none
theorem ent_hparse_ok : ∀ xs c, ent_hparse xs = some c → FuncOk Tryd.prog noT 5 xs c := fun xs c h => by
  unfold ent_hparse at h
  split at h
  · injection h with h; subst h; exact ok_hparse _
  · cases h
end
section
def X_hshow : Tbl := tblX []
def H_hshow (kd : Int) (l : Bs) (n : Int) (p : List Int) : Loops := fun i => none
theorem X_hshow_ok : XOk Tryd.prog noT X_hshow := tblX_nil
theorem vc_hshow (kd : Int) (l : Bs) (n : Int) (p : List Int) (k : PV → Prop) : evF Tryd.prog X_hshow noT (H_hshow kd l n p) 1000 Tryd.f6 [.agg [.int .i64 kd, .str l, .int .u32 n, .arr 8 (.ints .u16 p)]] k = (
  (decide (kd = (4 : Int)) = true → False) ∧
 (decide (kd = (4 : Int)) = false →
 (decide (kd = (3 : Int)) = true → False) ∧
 (decide (kd = (3 : Int)) = false →
 (decide (kd = (2 : Int)) = true →
 (decide (kd = (2 : Int)) = true → k (PV.str l)) ∧ (decide (kd = (2 : Int)) = false → k (PV.str (ByteArray.mk #[]).data.toList))) ∧
 (decide (kd = (2 : Int)) = false →
 (decide (kd = (5 : Int)) = true → k (PV.str l)) ∧ (decide (kd = (5 : Int)) = false → k (PV.str (ByteArray.mk #[]).data.toList)))))) := by kernel_rfl
attribute [local irreducible] Go.Vc.evF
theorem ok_hshow (kd : Int) (l : Bs) (n : Int) (p : List Int) : FuncOk Tryd.prog noT 6 [.agg [.int .i64 kd, .str l, .int .u32 n, .arr 8 (.ints .u16 p)]] ⟨kd = 2, .str l⟩ := evF_ok (by kernel_rfl) X_hshow_ok (H := H_hshow kd l n p) (fuel := 1000) Tryd.func6 (by kernel_rfl) fun hpre => (vc_hshow kd l n p _).mpr (by
  subst hpre
  refine ⟨fun h => absurd h (by decide), fun _ => ⟨fun h => absurd h (by decide), fun _ => ⟨fun _ => ⟨fun _ => rfl, fun h => absurd h (by decide)⟩, fun h => absurd h (by decide)⟩⟩⟩)
def ent_hshow : List PV → Option CallR := fun xs => match xs with
  | [.agg [.int .i64 kd, .str l, .int .u32 n, .arr 8 (.ints .u16 p)]] => some ⟨kd = 2, .str l⟩
  | _ => none
theorem ent_hshow_ok : ∀ xs c, ent_hshow xs = some c → FuncOk Tryd.prog noT 6 xs c := fun xs c h => by
  unfold ent_hshow at h
  split at h
  · injection h with h; subst h; exact ok_hshow _ _ _ _
  · cases h
end
section
def X_hmay : Tbl := tblX [(6, ent_hshow), (5, ent_hparse)]
def H_hmay (kd : Int) (l : Bs) (n : Int) (p : List Int) : Loops := fun i => none
theorem X_hmay_ok : XOk Tryd.prog noT X_hmay := tblX_cons ent_hshow_ok (tblX_cons ent_hparse_ok (tblX_nil))
theorem vc_hmay (kd : Int) (l : Bs) (n : Int) (p : List Int) (k : PV → Prop) : evF Tryd.prog X_hmay noT (H_hmay kd l n p) 1000 Tryd.f7 [.agg [.int .i64 kd, .str l, .int .u32 n, .arr 8 (.ints .u16 p)], .bool true] k = (
  kd = (2 : Int) ∧
 (List.length l).le (1000000 : Nat) ∧
 k
 (PV.bool
 (bif decide ((hostM l).2.2.2.2 = (0 : Int)) then
 Bool.rec false
 (decide ((hostM l).2.1 = l) &&
 (decide ((hostM l).2.2.1 = n) &&
 (decide ((hostM l).2.2.2.1 = p) && true)))
 (decide ((hostM l).1 = kd))
 else false))) := by kernel_rfl
attribute [local irreducible] Go.Vc.evF
theorem ok_hmay (kd : Int) (l : Bs) (n : Int) (p : List Int) : FuncOk Tryd.prog noT 7 [.agg [.int .i64 kd, .str l, .int .u32 n, .arr 8 (.ints .u16 p)], .bool true] ⟨kd = 2 ∧ l.length ≤ 1000000 ∧ hostM l = (kd, l, n, p, 0), .bool true⟩ := evF_ok (by kernel_rfl) X_hmay_ok (H := H_hmay kd l n p) (fuel := 1000) Tryd.func7 (by kernel_rfl) fun hpre => (vc_hmay kd l n p _).mpr (by
  obtain ⟨h1, h2, h3⟩ := hpre
  refine ⟨h1, h2, ?_⟩
  rw [h3]
  dsimp only
  rw [decide_eq_true (rfl : kd = kd), decide_eq_true (rfl : l = l), decide_eq_true (rfl : n = n), decide_eq_true (rfl : p = p)]
  rfl)
def ent_hmay : List PV → Option CallR := fun xs => match xs with
  | [.agg [.int .i64 kd, .str l, .int .u32 n, .arr 8 (.ints .u16 p)], .bool true] => some ⟨kd = 2 ∧ l.length ≤ 1000000 ∧ hostM l = (kd, l, n, p, 0), .bool true⟩
  | _ => none
theorem ent_hmay_ok : ∀ xs c, ent_hmay xs = some c → FuncOk Tryd.prog noT 7 xs c := fun xs c h => by
  unfold ent_hmay at h
  split at h
  · injection h with h; subst h; exact ok_hmay _ _ _ _
  · cases h
end
section
def X_awake : Tbl := tblX [(6, ent_hshow), (5, ent_hparse), (7, ent_hmay)]
def H_awake  : Loops := fun i => none
theorem X_awake_ok : XOk Tryd.prog noT X_awake := tblX_cons ent_hshow_ok (tblX_cons ent_hparse_ok (tblX_cons ent_hmay_ok (tblX_nil)))
theorem vc_awake  (k : PV → Prop) : evF Tryd.prog X_awake noT (H_awake ) 1000 Tryd.f4 [] k = (
  (ByteArray.mk
 #[69, 88, 37, 52, 49, 109, 112, 108, 101, 46, 111, 114, 103]).data.toList.length.le
 (1000000 : Nat) ∧
 (ByteArray.mk #[97, 46, 98, 46, 55]).data.toList.length.le (1000000 : Nat) ∧
 (ByteArray.mk #[195, 169]).data.toList.length.le (1000000 : Nat) ∧
 (decide ((9 : Int) = (9 : Int)) = true → (2 : Int) = (2 : Int)) ∧
 (decide
 (lowB
 (decP
 (ByteArray.mk
 #[69, 88, 37, 52, 49, 109, 112, 108, 101, 46, 111, 114, 103]).data.toList) =
 (ByteArray.mk
 #[101, 120, 97, 109, 112, 108, 101, 46, 111, 114, 103]).data.toList) =
 true →
 (2 : Int) = (2 : Int) ∧
 List.length
 (lowB
 (decP
 (ByteArray.mk
 #[69, 88, 37, 52, 49, 109, 112, 108, 101, 46, 111, 114, 103]).data.toList)) ≤
 (1000000 : Nat) ∧
 hostM
 (lowB
 (decP
 (ByteArray.mk
 #[69, 88, 37, 52, 49, 109, 112, 108, 101, 46, 111, 114, 103]).data.toList)) =
 ((2 : Int),
 lowB
 (decP
 (ByteArray.mk
 #[69, 88, 37, 52, 49, 109, 112, 108, 101, 46, 111, 114, 103]).data.toList),
 (0 : Int), z8, (0 : Int))) ∧
 k (PV.bool true)) := by kernel_rfl
attribute [local irreducible] Go.Vc.evF
theorem ok_awake  : FuncOk Tryd.prog noT 4 [] ⟨True, .bool true⟩ := evF_ok (by kernel_rfl) X_awake_ok (H := H_awake ) (fuel := 1000) Tryd.func4 (by kernel_rfl) fun hpre => (vc_awake  _).mpr (by
  refine ⟨Nat.le_of_ble_eq_true rfl, Nat.le_of_ble_eq_true rfl, Nat.le_of_ble_eq_true rfl, fun _ => rfl, fun _ => ⟨rfl, by decide, by kernel_rfl⟩, rfl⟩)
def ent_awake : List PV → Option CallR := fun xs => match xs with
  | [] => some ⟨True, .bool true⟩
  | _ => none
theorem ent_awake_ok : ∀ xs c, ent_awake xs = some c → FuncOk Tryd.prog noT 4 xs c := fun xs c h => by
  unfold ent_awake at h
  split at h
  · injection h with h; subst h; exact ok_awake 
  · cases h
end
end Go.Proofs.YtaphadmcjimmeaaDoor
