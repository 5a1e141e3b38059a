import Derived.Test.YtaphadmcjimmeaaGreatDoorProg
import Derived.ProofKit
import Derived.Test.YtaphadmcjimmeaaGreatDoorHs6
import Derived.Test.YtaphadmcjimmeaaGreatDoorHs17
import Derived.Test.YtaphadmcjimmeaaGreatDoorHs18
set_option linter.unusedVariables false
set_option linter.unusedSimpArgs false
set_option maxRecDepth 100000
set_option maxHeartbeats 4000000
namespace Go.Proofs.YtaphadmcjimmeaaGreatDoor
open Go Go.Proofs Go.RowKit Go.Vc
section
def gapF : Bs → Int → Int
  | c :: d :: r, i => if c = 58 ∧ d = 58 then i else gapF (d :: r) (i + 1)
  | _, _ => -1
def gapAt (l : Bs) : Int := gapF l 0
def w16 (l : List Int) : List Int := l.map fun z => IntKind.u16.wrap z
def refSix (l : Bs) : List Int × Bool := if gapAt l < 0 then (if (rowR l true).2 = true ∧ (rowR l true).1.length = 8 then (w16 (rowR l true).1, true) else (List.replicate 8 0, false))
  else if ((rowR (takeZ l (gapAt l)) false).2 = true ∧ (rowR (dropZ l (gapAt l + 2)) true).2 = true) ∧ (rowR (takeZ l (gapAt l)) false).1.length + (rowR (dropZ l (gapAt l + 2)) true).1.length ≤ 7 then
    (w16 (rowR (takeZ l (gapAt l)) false).1 ++ List.replicate (8 - ((rowR (takeZ l (gapAt l)) false).1.length + (rowR (dropZ l (gapAt l + 2)) true).1.length)) 0 ++ w16 (rowR (dropZ l (gapAt l + 2)) true).1, true) else (List.replicate 8 0, false)
def GapI (l : Bs) (at' i : Int) : Prop := 0 ≤ i ∧ i ≤ l.length ∧ ((at' = -1 ∧ gapF (l.drop i.toNat) i = gapAt l) ∨ (0 ≤ at' ∧ at' + 2 ≤ l.length ∧ at' = gapAt l))
def LayI (r : List Int) (p0 p : List Int) (from' i : Int) : Prop := 0 ≤ i ∧ i ≤ r.length ∧ p = p0.take from'.toNat ++ (w16 r).take i.toNat ++ p0.drop (from'.toNat + i.toNat)
theorem lay_zero (r p0 : List Int) (f : Int) : LayI r p0 p0 f 0 := ⟨by omega, by omega, by
  rw [show Int.toNat 0 = 0 from rfl, List.take_zero, List.append_nil, Nat.add_zero, List.take_append_drop]⟩
theorem w16_len (r : List Int) : (w16 r).length = r.length := List.length_map _
theorem lay_step {r p0 p : List Int} {f i : Int} (h : LayI r p0 p f i) (hi : i < (r.length : Int)) (hf : 0 ≤ f) (hl : f + r.length ≤ (p0.length : Int)) : LayI r p0 (setZ p (f + i) (IntKind.u16.wrap (intZ r i))) f (i + 1) := by
  obtain ⟨h0, h1, h2⟩ := h
  refine ⟨by omega, by omega, ?_⟩
  have hln : (p0.take f.toNat ++ (w16 r).take i.toNat).length = (f + i).toNat := by
    rw [List.length_append, List.length_take, List.length_take, w16_len]; omega
  have hv : (w16 r)[i.toNat]? = some (IntKind.u16.wrap (intZ r i)) := by
    unfold w16 intZ
    rw [List.getElem?_map, List.getElem?_eq_getElem (by omega), List.getD_eq_getElem?_getD, List.getElem?_eq_getElem (by omega)]
    rfl
  have hw : (w16 r).take (i + 1).toNat = (w16 r).take i.toNat ++ [IntKind.u16.wrap (intZ r i)] := by
    rw [show (i + 1).toNat = i.toNat + 1 by omega, List.take_add_one, hv]
    rfl
  unfold setZ
  rw [h2, hw, List.set_append_right _ _ (by omega), hln, Nat.sub_self, List.drop_eq_getElem_cons (by omega), List.set_cons_zero, show f.toNat + (i + 1).toNat = f.toNat + i.toNat + 1 by omega]
  simp
theorem lay_end {r p0 p : List Int} {f i : Int} (h : LayI r p0 p f i) (hi : ¬ i < (r.length : Int)) : p = p0.take f.toNat ++ w16 r ++ p0.drop (f.toNat + r.length) := by
  obtain ⟨h0, h1, h2⟩ := h
  rw [h2, show i.toNat = r.length by omega, ← w16_len r, List.take_length]
theorem rowGo_len (last : Bool) : ∀ (ps : List Bs) (o : List Int), (rowGo last ps o).1.length ≤ o.length + 2 * ps.length
  | [], o => by unfold rowGo; simp
  | p :: ps, o => by
    unfold rowGo
    split
    · have e : (o ++ [(fourR p).1, (fourR p).2.1]).length = o.length + 2 := by simp
      rw [e, List.length_cons]; omega
    · split
      · have := rowGo_len last ps (o ++ [(pieceR p).1])
        rw [List.length_append, List.length_singleton] at this
        rw [List.length_cons]; omega
      · rw [List.length_cons]; show o.length ≤ _; omega
theorem rowR_len (l : Bs) (last : Bool) : (rowR l last).1.length ≤ 2 * (l.length + 1) := by
  unfold rowR
  split
  · simp
  · split
    · simp
    · have h1 := rowGo_len last (splitB 58 l) []
      have h2 := (splitB_len 58 l).1
      rw [List.length_nil] at h1
      omega
theorem gap_step {l : Bs} {i : Int} (h0 : 0 ≤ i) (h1 : i + 1 < (l.length : Int)) : gapF (l.drop i.toNat) i = if byteZ l i = 58 ∧ byteZ l (i + 1) = 58 then i else gapF (l.drop (i + 1).toNat) (i + 1) := by
  have e2 : l.drop (i + 1).toNat = l.getD (i + 1).toNat 0 :: l.drop ((i + 1).toNat + 1) := drop_one (by omega) h1
  rw [drop_one h0 (by omega), show i.toNat + 1 = (i + 1).toNat by omega, e2, gapF]
  have e : ∀ c : UInt8, ((c.toNat : Int) = 58) = (c = 58) := fun c => by
    apply propext
    constructor
    · intro h; apply UInt8.toNat_inj.1; show c.toNat = 58; omega
    · intro h; rw [h]; rfl
  unfold byteZ
  simp only [e]
theorem gap_end {l : Bs} {i : Int} (h0 : 0 ≤ i) (h1 : ¬ i + 1 < (l.length : Int)) : gapF (l.drop i.toNat) i = -1 := by
  have : (l.drop i.toNat).length ≤ 1 := by rw [List.length_drop]; omega
  match l.drop i.toNat, this with
  | [], _ => rfl
  | [_], _ => rfl
def X_rparse : Tbl := tblX [(48, ent_row)]
def H_rparse (l : Bs) : Loops := fun i => bif Nat.beq i 4 then some ⟨(Int) × (Int), (fun s x => ((((s.put 5 (.int .i64 x.1)).put 6 (.int .i64 x.2)).put 24 .undef).put 37 .undef)), (fun s => (s.int 5, s.int 6)), (fun s x => let a := x.1; let i := x.2; GapI l a i), (fun s x => let a := x.1; let i := x.2; ((l.length : Int) + 1 - i).toNat), [24, 37]⟩ else bif Nat.beq i 13 then some ⟨(List Int) × (Int), (fun s x => (((VS.mk s.loc s.env (setN 36 (.arr 8 (.ints .u16 x.1)) s.lh)).put 9 (.int .i64 x.2)).put 55 .undef)), (fun s => (VS.ints (VS.mk [] s.lh []) 36, s.int 9)), (fun s x => let p := x.1; let i := x.2; 0 ≤ i ∧ i ≤ 8 ∧ LayI (s.ints 7) (List.replicate 8 0) p 0 i), (fun s x => let p := x.1; let i := x.2; (8 - i).toNat), [55]⟩ else bif Nat.beq i 22 then some ⟨(List Int) × (Int), (fun s x => (((VS.mk s.loc s.env (setN 36 (.arr 8 (.ints .u16 x.1)) s.lh)).put 14 (.int .i64 x.2)).put 99 .undef)), (fun s => (VS.ints (VS.mk [] s.lh []) 36, s.int 14)), (fun s x => let p := x.1; let i := x.2; LayI (s.ints 10) (List.replicate 8 0) p 0 i), (fun s x => let p := x.1; let i := x.2; ((s.ints 10).length + 1 - i : Int).toNat), [99]⟩ else bif Nat.beq i 26 then some ⟨(List Int) × (Int), (fun s x => (((VS.mk s.loc s.env (setN 36 (.arr 8 (.ints .u16 x.1)) s.lh)).put 15 (.int .i64 x.2)).put 112 .undef)), (fun s => (VS.ints (VS.mk [] s.lh []) 36, s.int 15)), (fun s x => let p := x.1; let i := x.2; LayI (s.ints 12) (VS.ints (VS.mk [] s.lh []) 36) p (8 - (s.ints 12).length) i), (fun s x => let p := x.1; let i := x.2; ((s.ints 12).length + 1 - i : Int).toNat), [112]⟩ else none
theorem X_rparse_ok : XOk Tryz.prog noT X_rparse := tblX_cons ent_row_ok (tblX_nil)
theorem vc_rparse (l : Bs) (k : PV → Prop) : evF Tryz.prog X_rparse noT (H_rparse l) 1000 Tryz.f25 [.str l] k = (
  VS.mk []
 [(0, PV.str l), (2, PV.ptr ((2 : Nat) + (32 : Nat)) (0 : Nat)), (3, PV.bool false),
 (4, PV.ptr ((4 : Nat) + (32 : Nat)) (0 : Nat)), (5, PV.int .i64 (-1 : Int)),
 (6, PV.int .i64 (0 : Int)), (7, PV.undef), (8, PV.undef), (9, PV.undef),
 (10, PV.undef), (11, PV.undef), (12, PV.undef), (13, PV.undef), (14, PV.undef),
 (15, PV.undef), ((24 : Nat), PV.undef), ((37 : Nat), PV.undef), (40, PV.undef), (52, PV.undef),
 (55, PV.undef), (94, PV.undef), (99, PV.undef), (112, PV.undef)]
 [((4 : Nat) + (32 : Nat), PV.arr (8 : Nat) (BRow.ints .u16 (List.replicate (8 : Nat) (0 : Int)))),
 ((2 : Nat) + (32 : Nat), PV.arr (8 : Nat) (BRow.ints .u16 (List.replicate (8 : Nat) (0 : Int))))] =
 VS.mk []
 [(0, PV.str l), (2, PV.ptr ((2 : Nat) + (32 : Nat)) (0 : Nat)), (3, PV.bool false),
 (4, PV.ptr ((4 : Nat) + (32 : Nat)) (0 : Nat)), ((5 : Nat), PV.int .i64 (-1 : Int)),
 ((6 : Nat), PV.int .i64 (0 : Int)), (7, PV.undef), (8, PV.undef), (9, PV.undef),
 (10, PV.undef), (11, PV.undef), (12, PV.undef), (13, PV.undef), (14, PV.undef),
 (15, PV.undef), ((24 : Nat), PV.undef), ((37 : Nat), PV.undef), (40, PV.undef), (52, PV.undef),
 (55, PV.undef), (94, PV.undef), (99, PV.undef), (112, PV.undef)]
 [((4 : Nat) + (32 : Nat), PV.arr (8 : Nat) (BRow.ints .u16 (List.replicate (8 : Nat) (0 : Int)))),
 ((2 : Nat) + (32 : Nat), PV.arr (8 : Nat) (BRow.ints .u16 (List.replicate (8 : Nat) (0 : Int))))] ∧
 GapI l (-1 : Int) (0 : Int) ∧
 ∀ (x : Int × Int),
 GapI l x.1 x.2 →
 inI64 (x.2 + (1 : Int)) ∧
 ((bif decide (x.2 + (1 : Int) < lenZ l) then decide (x.1 < (0 : Int)) else false) = true →
 within x.2 (lenZ l) ∧
 (decide (byteZ l x.2 = (58 : Int)) = true → inI64 (x.2 + (1 : Int))) ∧
 (decide (byteZ l x.2 = (58 : Int)) = true → within (x.2 + (1 : Int)) (lenZ l)) ∧
 ((bif decide (byteZ l x.2 = (58 : Int)) then decide (byteZ l (x.2 + (1 : Int)) = (58 : Int)) else false) = true →
 inI64 (x.2 + (1 : Int)) ∧
 VS.mk []
 [(0, PV.str l), (2, PV.ptr ((2 : Nat) + (32 : Nat)) (0 : Nat)), (3, PV.bool false),
 (4, PV.ptr ((4 : Nat) + (32 : Nat)) (0 : Nat)), ((5 : Nat), PV.int .i64 x.2),
 ((6 : Nat), PV.int .i64 (x.2 + (1 : Int))), (7, PV.undef), (8, PV.undef),
 (9, PV.undef), (10, PV.undef), (11, PV.undef), (12, PV.undef),
 (13, PV.undef), (14, PV.undef), (15, PV.undef), ((24 : Nat), PV.undef),
 ((37 : Nat), PV.undef), (40, PV.undef), (52, PV.undef), (55, PV.undef),
 (94, PV.undef), (99, PV.undef), (112, PV.undef)]
 [((4 : Nat) + (32 : Nat), PV.arr (8 : Nat) (BRow.ints .u16 (List.replicate (8 : Nat) (0 : Int)))),
 ((2 : Nat) + (32 : Nat), PV.arr (8 : Nat) (BRow.ints .u16 (List.replicate (8 : Nat) (0 : Int))))] =
 VS.mk []
 [(0, PV.str l), (2, PV.ptr ((2 : Nat) + (32 : Nat)) (0 : Nat)), (3, PV.bool false),
 (4, PV.ptr ((4 : Nat) + (32 : Nat)) (0 : Nat)), ((5 : Nat), PV.int .i64 x.2),
 ((6 : Nat), PV.int .i64 (x.2 + (1 : Int))), (7, PV.undef), (8, PV.undef),
 (9, PV.undef), (10, PV.undef), (11, PV.undef), (12, PV.undef),
 (13, PV.undef), (14, PV.undef), (15, PV.undef), ((24 : Nat), PV.undef),
 ((37 : Nat), PV.undef), (40, PV.undef), (52, PV.undef), (55, PV.undef),
 (94, PV.undef), (99, PV.undef), (112, PV.undef)]
 [((4 : Nat) + (32 : Nat), PV.arr (8 : Nat) (BRow.ints .u16 (List.replicate (8 : Nat) (0 : Int)))),
 ((2 : Nat) + (32 : Nat), PV.arr (8 : Nat) (BRow.ints .u16 (List.replicate (8 : Nat) (0 : Int))))] ∧
 GapI l x.2 (x.2 + (1 : Int)) ∧
 (↑(List.length l) + (1 : Int) - (x.2 + (1 : Int))).toNat < (↑(List.length l) + (1 : Int) - x.2).toNat) ∧
 ((bif decide (byteZ l x.2 = (58 : Int)) then decide (byteZ l (x.2 + (1 : Int)) = (58 : Int)) else false) = false →
 inI64 (x.2 + (1 : Int)) ∧
 VS.mk []
 [(0, PV.str l), (2, PV.ptr ((2 : Nat) + (32 : Nat)) (0 : Nat)), (3, PV.bool false),
 (4, PV.ptr ((4 : Nat) + (32 : Nat)) (0 : Nat)), ((5 : Nat), PV.int .i64 x.1),
 ((6 : Nat), PV.int .i64 (x.2 + (1 : Int))), (7, PV.undef), (8, PV.undef),
 (9, PV.undef), (10, PV.undef), (11, PV.undef), (12, PV.undef),
 (13, PV.undef), (14, PV.undef), (15, PV.undef), ((24 : Nat), PV.undef),
 ((37 : Nat), PV.undef), (40, PV.undef), (52, PV.undef), (55, PV.undef),
 (94, PV.undef), (99, PV.undef), (112, PV.undef)]
 [((4 : Nat) + (32 : Nat), PV.arr (8 : Nat) (BRow.ints .u16 (List.replicate (8 : Nat) (0 : Int)))),
 ((2 : Nat) + (32 : Nat), PV.arr (8 : Nat) (BRow.ints .u16 (List.replicate (8 : Nat) (0 : Int))))] =
 VS.mk []
 [(0, PV.str l), (2, PV.ptr ((2 : Nat) + (32 : Nat)) (0 : Nat)), (3, PV.bool false),
 (4, PV.ptr ((4 : Nat) + (32 : Nat)) (0 : Nat)), ((5 : Nat), PV.int .i64 x.1),
 ((6 : Nat), PV.int .i64 (x.2 + (1 : Int))), (7, PV.undef), (8, PV.undef),
 (9, PV.undef), (10, PV.undef), (11, PV.undef), (12, PV.undef),
 (13, PV.undef), (14, PV.undef), (15, PV.undef), ((24 : Nat), PV.undef),
 ((37 : Nat), PV.undef), (40, PV.undef), (52, PV.undef), (55, PV.undef),
 (94, PV.undef), (99, PV.undef), (112, PV.undef)]
 [((4 : Nat) + (32 : Nat), PV.arr (8 : Nat) (BRow.ints .u16 (List.replicate (8 : Nat) (0 : Int)))),
 ((2 : Nat) + (32 : Nat), PV.arr (8 : Nat) (BRow.ints .u16 (List.replicate (8 : Nat) (0 : Int))))] ∧
 GapI l x.1 (x.2 + (1 : Int)) ∧
 (↑(List.length l) + (1 : Int) - (x.2 + (1 : Int))).toNat < (↑(List.length l) + (1 : Int) - x.2).toNat)) ∧
 ((bif decide (x.2 + (1 : Int) < lenZ l) then decide (x.1 < (0 : Int)) else false) = false →
 (decide (x.1 < (0 : Int)) = true →
 (List.length l).le (1000 : Nat) ∧
 ((bif !(rowR l true).2 then true
 else !decide (Int.ofNat (rowR l true).1.length = (8 : Int))) =
 true →
 k (PV.tup [PV.arr (8 : Nat) (BRow.ints .u16 (List.replicate (8 : Nat) (0 : Int))), PV.bool false])) ∧
 ((bif !(rowR l true).2 then true
 else !decide (Int.ofNat (rowR l true).1.length = (8 : Int))) =
 false →
 VS.mk []
 [(0, PV.str l), (2, PV.ptr ((2 : Nat) + (32 : Nat)) (0 : Nat)), (3, PV.bool false),
 (4, PV.ptr ((4 : Nat) + (32 : Nat)) (0 : Nat)), ((5 : Nat), PV.int .i64 x.1),
 ((6 : Nat), PV.int .i64 x.2),
 (7,
 PV.row (decide ((rowR l true).1 = []))
 (BRow.ints .i64 (rowR l true).1) (0 : Nat)),
 (8, PV.bool (rowR l true).2),
 (9, PV.int .i64 (0 : Int)), (10, PV.undef), (11, PV.undef),
 (12, PV.undef), (13, PV.undef), (14, PV.undef), (15, PV.undef),
 ((24 : Nat), PV.bool (bif decide (x.2 + (1 : Int) < lenZ l) then decide (x.1 < (0 : Int)) else false)),
 ((37 : Nat), PV.undef), (40, PV.bool (decide (x.1 < (0 : Int)))),
 (52,
 PV.bool
 (bif !(rowR l true).2 then true
 else !decide (Int.ofNat (rowR l true).1.length = (8 : Int)))),
 ((55 : Nat), PV.undef), (94, PV.undef), (99, PV.undef), (112, PV.undef)]
 [((4 : Nat) + (32 : Nat), PV.arr (8 : Nat) (BRow.ints .u16 (List.replicate (8 : Nat) (0 : Int)))),
 ((2 : Nat) + (32 : Nat), PV.arr (8 : Nat) (BRow.ints .u16 (List.replicate (8 : Nat) (0 : Int))))] =
 VS.mk []
 [(0, PV.str l), (2, PV.ptr ((2 : Nat) + (32 : Nat)) (0 : Nat)), (3, PV.bool false),
 (4, PV.ptr ((4 : Nat) + (32 : Nat)) (0 : Nat)), ((5 : Nat), PV.int .i64 x.1),
 ((6 : Nat), PV.int .i64 x.2),
 (7,
 PV.row (decide ((rowR l true).1 = []))
 (BRow.ints .i64 (rowR l true).1) (0 : Nat)),
 (8, PV.bool (rowR l true).2),
 ((9 : Nat), PV.int .i64 (0 : Int)), (10, PV.undef), (11, PV.undef),
 (12, PV.undef), (13, PV.undef), (14, PV.undef), (15, PV.undef),
 ((24 : Nat), PV.bool (bif decide (x.2 + (1 : Int) < lenZ l) then decide (x.1 < (0 : Int)) else false)),
 ((37 : Nat), PV.undef), (40, PV.bool (decide (x.1 < (0 : Int)))),
 (52,
 PV.bool
 (bif !(rowR l true).2 then true
 else !decide (Int.ofNat (rowR l true).1.length = (8 : Int)))),
 ((55 : Nat), PV.undef), (94, PV.undef), (99, PV.undef), (112, PV.undef)]
 [((36 : Nat), PV.arr (8 : Nat) (BRow.ints .u16 (List.replicate (8 : Nat) (0 : Int)))),
 ((2 : Nat) + (32 : Nat), PV.arr (8 : Nat) (BRow.ints .u16 (List.replicate (8 : Nat) (0 : Int))))] ∧
 ((0 : Int) ≤ (0 : Int) ∧
 (0 : Int) ≤ (8 : Int) ∧
 LayI (rowR l true).1
 (List.replicate (8 : Nat) (0 : Int)) (List.replicate (8 : Nat) (0 : Int)) (0 : Int) (0 : Int)) ∧
 ∀ (x_1 : List Int × Int),
 (0 : Int) ≤ x_1.2 ∧
 x_1.2 ≤ (8 : Int) ∧
 LayI (rowR l true).1
 (List.replicate (8 : Nat) (0 : Int)) x_1.1 (0 : Int) x_1.2 →
 (decide (x_1.2 < (8 : Int)) = true →
 within x_1.2 (Int.ofNat (rowR l true).1.length) ∧
 within x_1.2 ↑(8 : Nat) ∧
 (within x_1.2 ↑(8 : Nat) ∧ True) ∧
 inI64 (x_1.2 + (1 : Int)) ∧
 VS.mk []
 [(0, PV.str l), (2, PV.ptr ((2 : Nat) + (32 : Nat)) (0 : Nat)),
 (3, PV.bool false), (4, PV.ptr ((4 : Nat) + (32 : Nat)) (0 : Nat)),
 ((5 : Nat), PV.int .i64 x.1), ((6 : Nat), PV.int .i64 x.2),
 (7,
 PV.row (decide ((rowR l true).1 = []))
 (BRow.ints .i64 (rowR l true).1) (0 : Nat)),
 (8, PV.bool (rowR l true).2),
 ((9 : Nat), PV.int .i64 (x_1.2 + (1 : Int))), (10, PV.undef),
 (11, PV.undef), (12, PV.undef), (13, PV.undef),
 (14, PV.undef), (15, PV.undef),
 ((24 : Nat),
 PV.bool (bif decide (x.2 + (1 : Int) < lenZ l) then decide (x.1 < (0 : Int)) else false)),
 ((37 : Nat), PV.undef), (40, PV.bool (decide (x.1 < (0 : Int)))),
 (52,
 PV.bool
 (bif !(rowR l true).2 then true
 else !decide (Int.ofNat (rowR l true).1.length = (8 : Int)))),
 ((55 : Nat), PV.undef), (94, PV.undef), (99, PV.undef),
 (112, PV.undef)]
 [((4 : Nat) + (32 : Nat),
 PV.arr (8 : Nat)
 (BRow.ints .u16
 (setZ x_1.1 x_1.2
 (Go.IntKind.u16.wrap (intZ (rowR l true).1 x_1.2))))),
 ((2 : Nat) + (32 : Nat),
 PV.arr (8 : Nat) (BRow.ints .u16 (List.replicate (8 : Nat) (0 : Int))))] =
 VS.mk []
 [(0, PV.str l), (2, PV.ptr ((2 : Nat) + (32 : Nat)) (0 : Nat)),
 (3, PV.bool false), (4, PV.ptr ((4 : Nat) + (32 : Nat)) (0 : Nat)),
 ((5 : Nat), PV.int .i64 x.1), ((6 : Nat), PV.int .i64 x.2),
 (7,
 PV.row (decide ((rowR l true).1 = []))
 (BRow.ints .i64 (rowR l true).1) (0 : Nat)),
 (8, PV.bool (rowR l true).2),
 ((9 : Nat), PV.int .i64 (x_1.2 + (1 : Int))), (10, PV.undef),
 (11, PV.undef), (12, PV.undef), (13, PV.undef),
 (14, PV.undef), (15, PV.undef),
 ((24 : Nat),
 PV.bool (bif decide (x.2 + (1 : Int) < lenZ l) then decide (x.1 < (0 : Int)) else false)),
 ((37 : Nat), PV.undef), (40, PV.bool (decide (x.1 < (0 : Int)))),
 (52,
 PV.bool
 (bif !(rowR l true).2 then true
 else !decide (Int.ofNat (rowR l true).1.length = (8 : Int)))),
 ((55 : Nat), PV.undef), (94, PV.undef), (99, PV.undef),
 (112, PV.undef)]
 [((36 : Nat),
 PV.arr (8 : Nat)
 (BRow.ints .u16
 (setZ x_1.1 x_1.2
 (Go.IntKind.u16.wrap (intZ (rowR l true).1 x_1.2))))),
 ((2 : Nat) + (32 : Nat),
 PV.arr (8 : Nat) (BRow.ints .u16 (List.replicate (8 : Nat) (0 : Int))))] ∧
 ((0 : Int) ≤ x_1.2 + (1 : Int) ∧
 x_1.2 + (1 : Int) ≤ (8 : Int) ∧
 LayI (rowR l true).1
 (List.replicate (8 : Nat) (0 : Int))
 (setZ x_1.1 x_1.2
 (Go.IntKind.u16.wrap (intZ (rowR l true).1 x_1.2)))
 (0 : Int) (x_1.2 + (1 : Int))) ∧
 ((8 : Int) - (x_1.2 + (1 : Int))).toNat < ((8 : Int) - x_1.2).toNat) ∧
 (decide (x_1.2 < (8 : Int)) = false →
 k (PV.tup [PV.arr (8 : Nat) (BRow.ints .u16 x_1.1), PV.bool true])))) ∧
 (decide (x.1 < (0 : Int)) = false →
 upto (0 : Int) x.1 (lenZ l) ∧
 (takeZ l x.1).length.le (1000 : Nat) ∧
 inI64 (x.1 + (2 : Int)) ∧
 upto (x.1 + (2 : Int)) (lenZ l) (lenZ l) ∧
 (dropZ l (x.1 + (2 : Int))).length.le (1000 : Nat) ∧
 ((bif !(rowR (takeZ l x.1) false).2 then true
 else !(rowR (dropZ l (x.1 + (2 : Int))) true).2) =
 false →
 inI64
 (Int.ofNat (rowR (takeZ l x.1) false).1.length +
 Int.ofNat (rowR (dropZ l (x.1 + (2 : Int))) true).1.length)) ∧
 ((bif
 bif !(rowR (takeZ l x.1) false).2 then true
 else !(rowR (dropZ l (x.1 + (2 : Int))) true).2 then
 true
 else
 decide
 ((7 : Int) <
 Int.ofNat (rowR (takeZ l x.1) false).1.length +
 Int.ofNat (rowR (dropZ l (x.1 + (2 : Int))) true).1.length)) =
 true →
 k
 (PV.tup
 [PV.arr (8 : Nat) (BRow.ints .u16 (List.replicate (8 : Nat) (0 : Int))), PV.bool false])) ∧
 ((bif
 bif !(rowR (takeZ l x.1) false).2 then true
 else !(rowR (dropZ l (x.1 + (2 : Int))) true).2 then
 true
 else
 decide
 ((7 : Int) <
 Int.ofNat (rowR (takeZ l x.1) false).1.length +
 Int.ofNat (rowR (dropZ l (x.1 + (2 : Int))) true).1.length)) =
 false →
 VS.mk []
 [(0, PV.str l), (2, PV.ptr ((2 : Nat) + (32 : Nat)) (0 : Nat)),
 (3, PV.bool false), (4, PV.ptr ((4 : Nat) + (32 : Nat)) (0 : Nat)),
 ((5 : Nat), PV.int .i64 x.1), ((6 : Nat), PV.int .i64 x.2),
 (7, PV.undef), (8, PV.undef), (9, PV.undef),
 (10,
 PV.row (decide ((rowR (takeZ l x.1) false).1 = []))
 (BRow.ints .i64 (rowR (takeZ l x.1) false).1)
 (0 : Nat)),
 (11, PV.bool (rowR (takeZ l x.1) false).2),
 (12,
 PV.row (decide ((rowR (dropZ l (x.1 + (2 : Int))) true).1 = []))
 (BRow.ints .i64
 (rowR (dropZ l (x.1 + (2 : Int))) true).1)
 (0 : Nat)),
 (13, PV.bool (rowR (dropZ l (x.1 + (2 : Int))) true).2),
 (14, PV.int .i64 (0 : Int)), (15, PV.undef),
 ((24 : Nat),
 PV.bool (bif decide (x.2 + (1 : Int) < lenZ l) then decide (x.1 < (0 : Int)) else false)),
 ((37 : Nat), PV.undef), (40, PV.bool (decide (x.1 < (0 : Int)))), (52, PV.undef),
 (55, PV.undef),
 (94,
 PV.bool
 (bif
 bif !(rowR (takeZ l x.1) false).2 then true
 else !(rowR (dropZ l (x.1 + (2 : Int))) true).2 then
 true
 else
 decide
 ((7 : Int) <
 Int.ofNat (rowR (takeZ l x.1) false).1.length +
 Int.ofNat
 (rowR (dropZ l (x.1 + (2 : Int))) true).1.length))),
 ((99 : Nat), PV.undef), (112, PV.undef)]
 [((4 : Nat) + (32 : Nat), PV.arr (8 : Nat) (BRow.ints .u16 (List.replicate (8 : Nat) (0 : Int)))),
 ((2 : Nat) + (32 : Nat),
 PV.arr (8 : Nat) (BRow.ints .u16 (List.replicate (8 : Nat) (0 : Int))))] =
 VS.mk []
 [(0, PV.str l), (2, PV.ptr ((2 : Nat) + (32 : Nat)) (0 : Nat)),
 (3, PV.bool false), (4, PV.ptr ((4 : Nat) + (32 : Nat)) (0 : Nat)),
 ((5 : Nat), PV.int .i64 x.1), ((6 : Nat), PV.int .i64 x.2),
 (7, PV.undef), (8, PV.undef), (9, PV.undef),
 (10,
 PV.row (decide ((rowR (takeZ l x.1) false).1 = []))
 (BRow.ints .i64 (rowR (takeZ l x.1) false).1)
 (0 : Nat)),
 (11, PV.bool (rowR (takeZ l x.1) false).2),
 (12,
 PV.row (decide ((rowR (dropZ l (x.1 + (2 : Int))) true).1 = []))
 (BRow.ints .i64
 (rowR (dropZ l (x.1 + (2 : Int))) true).1)
 (0 : Nat)),
 (13, PV.bool (rowR (dropZ l (x.1 + (2 : Int))) true).2),
 ((14 : Nat), PV.int .i64 (0 : Int)), (15, PV.undef),
 ((24 : Nat),
 PV.bool (bif decide (x.2 + (1 : Int) < lenZ l) then decide (x.1 < (0 : Int)) else false)),
 ((37 : Nat), PV.undef), (40, PV.bool (decide (x.1 < (0 : Int)))), (52, PV.undef),
 (55, PV.undef),
 (94,
 PV.bool
 (bif
 bif !(rowR (takeZ l x.1) false).2 then true
 else !(rowR (dropZ l (x.1 + (2 : Int))) true).2 then
 true
 else
 decide
 ((7 : Int) <
 Int.ofNat (rowR (takeZ l x.1) false).1.length +
 Int.ofNat
 (rowR (dropZ l (x.1 + (2 : Int))) true).1.length))),
 ((99 : Nat), PV.undef), (112, PV.undef)]
 [((36 : Nat), PV.arr (8 : Nat) (BRow.ints .u16 (List.replicate (8 : Nat) (0 : Int)))),
 ((2 : Nat) + (32 : Nat),
 PV.arr (8 : Nat) (BRow.ints .u16 (List.replicate (8 : Nat) (0 : Int))))] ∧
 LayI (rowR (takeZ l x.1) false).1
 (List.replicate (8 : Nat) (0 : Int)) (List.replicate (8 : Nat) (0 : Int)) (0 : Int) (0 : Int) ∧
 ∀ (x_1 : List Int × Int),
 LayI (rowR (takeZ l x.1) false).1
 (List.replicate (8 : Nat) (0 : Int)) x_1.1 (0 : Int) x_1.2 →
 (decide (x_1.2 < Int.ofNat (rowR (takeZ l x.1) false).1.length) =
 true →
 within x_1.2
 (Int.ofNat (rowR (takeZ l x.1) false).1.length) ∧
 within x_1.2 ↑(8 : Nat) ∧
 (within x_1.2 ↑(8 : Nat) ∧ True) ∧
 inI64 (x_1.2 + (1 : Int)) ∧
 VS.mk []
 [(0, PV.str l), (2, PV.ptr ((2 : Nat) + (32 : Nat)) (0 : Nat)),
 (3, PV.bool false), (4, PV.ptr ((4 : Nat) + (32 : Nat)) (0 : Nat)),
 ((5 : Nat), PV.int .i64 x.1), ((6 : Nat), PV.int .i64 x.2),
 (7, PV.undef), (8, PV.undef), (9, PV.undef),
 (10,
 PV.row
 (decide ((rowR (takeZ l x.1) false).1 = []))
 (BRow.ints .i64
 (rowR (takeZ l x.1) false).1)
 (0 : Nat)),
 (11,
 PV.bool (rowR (takeZ l x.1) false).2),
 (12,
 PV.row
 (decide
 ((rowR (dropZ l (x.1 + (2 : Int))) true).1 =
 []))
 (BRow.ints .i64
 (rowR (dropZ l (x.1 + (2 : Int))) true).1)
 (0 : Nat)),
 (13,
 PV.bool
 (rowR (dropZ l (x.1 + (2 : Int))) true).2),
 ((14 : Nat), PV.int .i64 (x_1.2 + (1 : Int))), (15, PV.undef),
 ((24 : Nat),
 PV.bool
 (bif decide (x.2 + (1 : Int) < lenZ l) then decide (x.1 < (0 : Int)) else false)),
 ((37 : Nat), PV.undef), (40, PV.bool (decide (x.1 < (0 : Int)))),
 (52, PV.undef), (55, PV.undef),
 (94,
 PV.bool
 (bif
 bif !(rowR (takeZ l x.1) false).2 then true
 else
 !(rowR (dropZ l (x.1 + (2 : Int)))
 true).2 then
 true
 else
 decide
 ((7 : Int) <
 Int.ofNat
 (rowR (takeZ l x.1) false).1.length +
 Int.ofNat
 (rowR (dropZ l (x.1 + (2 : Int)))
 true).1.length))),
 ((99 : Nat), PV.undef), (112, PV.undef)]
 [((4 : Nat) + (32 : Nat),
 PV.arr (8 : Nat)
 (BRow.ints .u16
 (setZ x_1.1 x_1.2
 (Go.IntKind.u16.wrap
 (intZ (rowR (takeZ l x.1) false).1
 x_1.2))))),
 ((2 : Nat) + (32 : Nat),
 PV.arr (8 : Nat) (BRow.ints .u16 (List.replicate (8 : Nat) (0 : Int))))] =
 VS.mk []
 [(0, PV.str l), (2, PV.ptr ((2 : Nat) + (32 : Nat)) (0 : Nat)),
 (3, PV.bool false), (4, PV.ptr ((4 : Nat) + (32 : Nat)) (0 : Nat)),
 ((5 : Nat), PV.int .i64 x.1), ((6 : Nat), PV.int .i64 x.2),
 (7, PV.undef), (8, PV.undef), (9, PV.undef),
 (10,
 PV.row
 (decide ((rowR (takeZ l x.1) false).1 = []))
 (BRow.ints .i64
 (rowR (takeZ l x.1) false).1)
 (0 : Nat)),
 (11,
 PV.bool (rowR (takeZ l x.1) false).2),
 (12,
 PV.row
 (decide
 ((rowR (dropZ l (x.1 + (2 : Int))) true).1 =
 []))
 (BRow.ints .i64
 (rowR (dropZ l (x.1 + (2 : Int))) true).1)
 (0 : Nat)),
 (13,
 PV.bool
 (rowR (dropZ l (x.1 + (2 : Int))) true).2),
 ((14 : Nat), PV.int .i64 (x_1.2 + (1 : Int))), (15, PV.undef),
 ((24 : Nat),
 PV.bool
 (bif decide (x.2 + (1 : Int) < lenZ l) then decide (x.1 < (0 : Int)) else false)),
 ((37 : Nat), PV.undef), (40, PV.bool (decide (x.1 < (0 : Int)))),
 (52, PV.undef), (55, PV.undef),
 (94,
 PV.bool
 (bif
 bif !(rowR (takeZ l x.1) false).2 then true
 else
 !(rowR (dropZ l (x.1 + (2 : Int)))
 true).2 then
 true
 else
 decide
 ((7 : Int) <
 Int.ofNat
 (rowR (takeZ l x.1) false).1.length +
 Int.ofNat
 (rowR (dropZ l (x.1 + (2 : Int)))
 true).1.length))),
 ((99 : Nat), PV.undef), (112, PV.undef)]
 [((36 : Nat),
 PV.arr (8 : Nat)
 (BRow.ints .u16
 (setZ x_1.1 x_1.2
 (Go.IntKind.u16.wrap
 (intZ (rowR (takeZ l x.1) false).1
 x_1.2))))),
 ((2 : Nat) + (32 : Nat),
 PV.arr (8 : Nat) (BRow.ints .u16 (List.replicate (8 : Nat) (0 : Int))))] ∧
 LayI
 (rowR (takeZ l x.1) false).1
 (List.replicate (8 : Nat) (0 : Int))
 (setZ x_1.1 x_1.2
 (Go.IntKind.u16.wrap
 (intZ (rowR (takeZ l x.1) false).1
 x_1.2)))
 (0 : Int) (x_1.2 + (1 : Int)) ∧
 (↑(rowR (takeZ l x.1) false).1.length + (1 : Int) -
 (x_1.2 + (1 : Int))).toNat <
 (↑(rowR (takeZ l x.1) false).1.length + (1 : Int) -
 x_1.2).toNat) ∧
 (decide (x_1.2 < Int.ofNat (rowR (takeZ l x.1) false).1.length) =
 false →
 VS.mk []
 [(0, PV.str l), (2, PV.ptr ((2 : Nat) + (32 : Nat)) (0 : Nat)),
 (3, PV.bool false), (4, PV.ptr ((4 : Nat) + (32 : Nat)) (0 : Nat)),
 ((5 : Nat), PV.int .i64 x.1), ((6 : Nat), PV.int .i64 x.2),
 (7, PV.undef), (8, PV.undef), (9, PV.undef),
 (10,
 PV.row (decide ((rowR (takeZ l x.1) false).1 = []))
 (BRow.ints .i64
 (rowR (takeZ l x.1) false).1)
 (0 : Nat)),
 (11, PV.bool (rowR (takeZ l x.1) false).2),
 (12,
 PV.row
 (decide
 ((rowR (dropZ l (x.1 + (2 : Int))) true).1 = []))
 (BRow.ints .i64
 (rowR (dropZ l (x.1 + (2 : Int))) true).1)
 (0 : Nat)),
 (13,
 PV.bool (rowR (dropZ l (x.1 + (2 : Int))) true).2),
 ((14 : Nat), PV.int .i64 x_1.2), (15, PV.int .i64 (0 : Int)),
 ((24 : Nat),
 PV.bool
 (bif decide (x.2 + (1 : Int) < lenZ l) then decide (x.1 < (0 : Int)) else false)),
 ((37 : Nat), PV.undef), (40, PV.bool (decide (x.1 < (0 : Int)))),
 (52, PV.undef), (55, PV.undef),
 (94,
 PV.bool
 (bif
 bif !(rowR (takeZ l x.1) false).2 then true
 else !(rowR (dropZ l (x.1 + (2 : Int))) true).2 then
 true
 else
 decide
 ((7 : Int) <
 Int.ofNat (rowR (takeZ l x.1) false).1.length +
 Int.ofNat
 (rowR (dropZ l (x.1 + (2 : Int)))
 true).1.length))),
 ((99 : Nat),
 PV.bool
 (decide
 (x_1.2 <
 Int.ofNat (rowR (takeZ l x.1) false).1.length))),
 ((112 : Nat), PV.undef)]
 [((36 : Nat), PV.arr (8 : Nat) (BRow.ints .u16 x_1.1)),
 ((2 : Nat) + (32 : Nat),
 PV.arr (8 : Nat) (BRow.ints .u16 (List.replicate (8 : Nat) (0 : Int))))] =
 VS.mk []
 [(0, PV.str l), (2, PV.ptr ((2 : Nat) + (32 : Nat)) (0 : Nat)),
 (3, PV.bool false), (4, PV.ptr ((4 : Nat) + (32 : Nat)) (0 : Nat)),
 ((5 : Nat), PV.int .i64 x.1), ((6 : Nat), PV.int .i64 x.2),
 (7, PV.undef), (8, PV.undef), (9, PV.undef),
 (10,
 PV.row (decide ((rowR (takeZ l x.1) false).1 = []))
 (BRow.ints .i64
 (rowR (takeZ l x.1) false).1)
 (0 : Nat)),
 (11, PV.bool (rowR (takeZ l x.1) false).2),
 (12,
 PV.row
 (decide
 ((rowR (dropZ l (x.1 + (2 : Int))) true).1 = []))
 (BRow.ints .i64
 (rowR (dropZ l (x.1 + (2 : Int))) true).1)
 (0 : Nat)),
 (13,
 PV.bool (rowR (dropZ l (x.1 + (2 : Int))) true).2),
 ((14 : Nat), PV.int .i64 x_1.2), ((15 : Nat), PV.int .i64 (0 : Int)),
 ((24 : Nat),
 PV.bool
 (bif decide (x.2 + (1 : Int) < lenZ l) then decide (x.1 < (0 : Int)) else false)),
 ((37 : Nat), PV.undef), (40, PV.bool (decide (x.1 < (0 : Int)))),
 (52, PV.undef), (55, PV.undef),
 (94,
 PV.bool
 (bif
 bif !(rowR (takeZ l x.1) false).2 then true
 else !(rowR (dropZ l (x.1 + (2 : Int))) true).2 then
 true
 else
 decide
 ((7 : Int) <
 Int.ofNat (rowR (takeZ l x.1) false).1.length +
 Int.ofNat
 (rowR (dropZ l (x.1 + (2 : Int)))
 true).1.length))),
 ((99 : Nat),
 PV.bool
 (decide
 (x_1.2 <
 Int.ofNat (rowR (takeZ l x.1) false).1.length))),
 ((112 : Nat), PV.undef)]
 [((36 : Nat), PV.arr (8 : Nat) (BRow.ints .u16 x_1.1)),
 ((2 : Nat) + (32 : Nat),
 PV.arr (8 : Nat) (BRow.ints .u16 (List.replicate (8 : Nat) (0 : Int))))] ∧
 LayI
 (rowR (dropZ l (x.1 + (2 : Int))) true).1 x_1.1 x_1.1
 ((8 : Int) -
 ↑(rowR (dropZ l (x.1 + (2 : Int))) true).1.length)
 (0 : Int) ∧
 ∀ (x_2 : List Int × Int),
 LayI
 (rowR (dropZ l (x.1 + (2 : Int))) true).1 x_1.1 x_2.1
 ((8 : Int) -
 ↑(rowR (dropZ l (x.1 + (2 : Int))) true).1.length)
 x_2.2 →
 (decide
 (x_2.2 <
 Int.ofNat
 (rowR (dropZ l (x.1 + (2 : Int)))
 true).1.length) =
 true →
 inI64
 ((8 : Int) -
 Int.ofNat
 (rowR (dropZ l (x.1 + (2 : Int)))
 true).1.length) ∧
 inI64
 ((8 : Int) -
 Int.ofNat
 (rowR (dropZ l (x.1 + (2 : Int)))
 true).1.length +
 x_2.2) ∧
 within x_2.2
 (Int.ofNat
 (rowR (dropZ l (x.1 + (2 : Int)))
 true).1.length) ∧
 within
 ((8 : Int) -
 Int.ofNat
 (rowR (dropZ l (x.1 + (2 : Int)))
 true).1.length +
 x_2.2)
 ↑(8 : Nat) ∧
 (within
 ((8 : Int) -
 Int.ofNat
 (rowR (dropZ l (x.1 + (2 : Int)))
 true).1.length +
 x_2.2)
 ↑(8 : Nat) ∧
 True) ∧
 inI64 (x_2.2 + (1 : Int)) ∧
 VS.mk []
 [(0, PV.str l),
 (2, PV.ptr ((2 : Nat) + (32 : Nat)) (0 : Nat)),
 (3, PV.bool false),
 (4, PV.ptr ((4 : Nat) + (32 : Nat)) (0 : Nat)),
 ((5 : Nat), PV.int .i64 x.1),
 ((6 : Nat), PV.int .i64 x.2), (7, PV.undef),
 (8, PV.undef), (9, PV.undef),
 (10,
 PV.row
 (decide
 ((rowR (takeZ l x.1)
 false).1 =
 []))
 (BRow.ints .i64
 (rowR (takeZ l x.1) false).1)
 (0 : Nat)),
 (11,
 PV.bool
 (rowR (takeZ l x.1) false).2),
 (12,
 PV.row
 (decide
 ((rowR
 (dropZ l (x.1 + (2 : Int))) true).1 =
 []))
 (BRow.ints .i64
 (rowR
 (dropZ l (x.1 + (2 : Int))) true).1)
 (0 : Nat)),
 (13,
 PV.bool
 (rowR (dropZ l (x.1 + (2 : Int)))
 true).2),
 ((14 : Nat), PV.int .i64 x_1.2),
 ((15 : Nat), PV.int .i64 (x_2.2 + (1 : Int))),
 ((24 : Nat),
 PV.bool
 (bif decide (x.2 + (1 : Int) < lenZ l) then decide (x.1 < (0 : Int))
 else false)),
 ((37 : Nat), PV.undef),
 (40, PV.bool (decide (x.1 < (0 : Int)))),
 (52, PV.undef), (55, PV.undef),
 (94,
 PV.bool
 (bif
 bif
 !(rowR (takeZ l x.1)
 false).2 then
 true
 else
 !(rowR
 (dropZ l (x.1 + (2 : Int))) true).2 then
 true
 else
 decide
 ((7 : Int) <
 Int.ofNat
 (rowR (takeZ l x.1)
 false).1.length +
 Int.ofNat
 (rowR
 (dropZ l (x.1 + (2 : Int))) true).1.length))),
 ((99 : Nat),
 PV.bool
 (decide
 (x_1.2 <
 Int.ofNat
 (rowR (takeZ l x.1)
 false).1.length))),
 ((112 : Nat), PV.undef)]
 [((4 : Nat) + (32 : Nat),
 PV.arr (8 : Nat)
 (BRow.ints .u16
 (setZ x_2.1
 ((8 : Int) -
 Int.ofNat
 (rowR
 (dropZ l (x.1 + (2 : Int))) true).1.length +
 x_2.2)
 (Go.IntKind.u16.wrap
 (intZ
 (rowR
 (dropZ l (x.1 + (2 : Int))) true).1
 x_2.2))))),
 ((2 : Nat) + (32 : Nat),
 PV.arr (8 : Nat)
 (BRow.ints .u16 (List.replicate (8 : Nat) (0 : Int))))] =
 VS.mk []
 [(0, PV.str l),
 (2, PV.ptr ((2 : Nat) + (32 : Nat)) (0 : Nat)),
 (3, PV.bool false),
 (4, PV.ptr ((4 : Nat) + (32 : Nat)) (0 : Nat)),
 ((5 : Nat), PV.int .i64 x.1),
 ((6 : Nat), PV.int .i64 x.2), (7, PV.undef),
 (8, PV.undef), (9, PV.undef),
 (10,
 PV.row
 (decide
 ((rowR (takeZ l x.1)
 false).1 =
 []))
 (BRow.ints .i64
 (rowR (takeZ l x.1) false).1)
 (0 : Nat)),
 (11,
 PV.bool
 (rowR (takeZ l x.1) false).2),
 (12,
 PV.row
 (decide
 ((rowR
 (dropZ l (x.1 + (2 : Int))) true).1 =
 []))
 (BRow.ints .i64
 (rowR
 (dropZ l (x.1 + (2 : Int))) true).1)
 (0 : Nat)),
 (13,
 PV.bool
 (rowR (dropZ l (x.1 + (2 : Int)))
 true).2),
 ((14 : Nat), PV.int .i64 x_1.2),
 ((15 : Nat), PV.int .i64 (x_2.2 + (1 : Int))),
 ((24 : Nat),
 PV.bool
 (bif decide (x.2 + (1 : Int) < lenZ l) then decide (x.1 < (0 : Int))
 else false)),
 ((37 : Nat), PV.undef),
 (40, PV.bool (decide (x.1 < (0 : Int)))),
 (52, PV.undef), (55, PV.undef),
 (94,
 PV.bool
 (bif
 bif
 !(rowR (takeZ l x.1)
 false).2 then
 true
 else
 !(rowR
 (dropZ l (x.1 + (2 : Int))) true).2 then
 true
 else
 decide
 ((7 : Int) <
 Int.ofNat
 (rowR (takeZ l x.1)
 false).1.length +
 Int.ofNat
 (rowR
 (dropZ l (x.1 + (2 : Int))) true).1.length))),
 ((99 : Nat),
 PV.bool
 (decide
 (x_1.2 <
 Int.ofNat
 (rowR (takeZ l x.1)
 false).1.length))),
 ((112 : Nat), PV.undef)]
 [((36 : Nat),
 PV.arr (8 : Nat)
 (BRow.ints .u16
 (setZ x_2.1
 ((8 : Int) -
 Int.ofNat
 (rowR
 (dropZ l (x.1 + (2 : Int))) true).1.length +
 x_2.2)
 (Go.IntKind.u16.wrap
 (intZ
 (rowR
 (dropZ l (x.1 + (2 : Int))) true).1
 x_2.2))))),
 ((2 : Nat) + (32 : Nat),
 PV.arr (8 : Nat)
 (BRow.ints .u16 (List.replicate (8 : Nat) (0 : Int))))] ∧
 LayI
 (rowR (dropZ l (x.1 + (2 : Int)))
 true).1
 x_1.1
 (setZ x_2.1
 ((8 : Int) -
 Int.ofNat
 (rowR
 (dropZ l (x.1 + (2 : Int))) true).1.length +
 x_2.2)
 (Go.IntKind.u16.wrap
 (intZ
 (rowR (dropZ l (x.1 + (2 : Int)))
 true).1
 x_2.2)))
 ((8 : Int) -
 ↑(rowR (dropZ l (x.1 + (2 : Int)))
 true).1.length)
 (x_2.2 + (1 : Int)) ∧
 (↑(rowR (dropZ l (x.1 + (2 : Int)))
 true).1.length +
 (1 : Int) -
 (x_2.2 + (1 : Int))).toNat <
 (↑(rowR (dropZ l (x.1 + (2 : Int)))
 true).1.length +
 (1 : Int) -
 x_2.2).toNat) ∧
 (decide
 (x_2.2 <
 Int.ofNat
 (rowR (dropZ l (x.1 + (2 : Int)))
 true).1.length) =
 false →
 k
 (PV.tup
 [PV.arr (8 : Nat) (BRow.ints .u16 x_2.1), PV.bool true]))))))) := by kernel_rfl
attribute [local irreducible] Go.Vc.evF
theorem ok_rparse (l : Bs) : FuncOk Tryz.prog noT 25 [.str l] ⟨l.length ≤ 1000, .tup [.arr 8 (.ints .u16 (refSix l).1), .bool (refSix l).2]⟩ := evF_ok (by kernel_rfl) X_rparse_ok (H := H_rparse l) (fuel := 1000) Tryz.func25 (by kernel_rfl) fun hpre => (vc_rparse l _).mpr (by
  have leaf : ∀ (L : List Int) (b : Bool), refSix l = (L, b) → PV.tup [.arr 8 (.ints .u16 L), .bool b] = PV.tup [.arr 8 (.ints .u16 (refSix l).1), .bool (refSix l).2] := fun L b h => by rw [h]
  refine ⟨rfl, ⟨by omega, by omega, .inl ⟨rfl, rfl⟩⟩, fun x hx => ?_⟩
  obtain ⟨a, i⟩ := x
  obtain ⟨i0, i1, hg⟩ := hx
  dsimp only at i0 i1 hg ⊢
  simp only [Int.ofNat_eq_natCast, andB6, orB6, falB6, notB6, Bool.and_eq_true, Bool.or_eq_true, decide_eq_true_eq]
  refine ⟨⟨by omega, by omega⟩, fun hc => ?_, fun hc => ?_⟩
  · have hlt : i + 1 < (l.length : Int) := hc.1
    rcases hg with ⟨ha, hg⟩ | ⟨ha, -⟩
    · rw [gap_step i0 hlt] at hg
      refine ⟨⟨i0, by show i < (l.length : Int); omega⟩, fun _ => ⟨by omega, by omega⟩, fun _ => ⟨by omega, hlt⟩, fun hb => ?_, fun hb => ?_⟩
      · rw [if_pos hb] at hg
        exact ⟨⟨by omega, by omega⟩, trivial, ⟨by omega, by omega, .inr ⟨i0, by omega, hg⟩⟩, by omega⟩
      · rw [if_neg hb] at hg
        exact ⟨⟨by omega, by omega⟩, trivial, ⟨by omega, by omega, .inl ⟨ha, hg⟩⟩, by omega⟩
    · have := hc.2; omega
  · refine ⟨fun ha => ?_, fun ha => ?_⟩
    · have hge : ¬ i + 1 < (l.length : Int) := fun h => hc ⟨h, ha⟩
      have hga : gapAt l < 0 := by
        rcases hg with ⟨-, hg⟩ | ⟨h, -⟩
        · rw [← hg, gap_end i0 hge]; decide
        · omega
      have hrs : refSix l = if (rowR l true).2 = true ∧ (rowR l true).1.length = 8 then (w16 (rowR l true).1, true) else (List.replicate 8 0, false) := by
        unfold refSix; rw [if_pos hga]
      refine ⟨hpre, fun hb => leaf _ _ ?_, fun hb => ?_⟩
      · rw [hrs, if_neg]
        intro h
        rcases hb with hb | hb
        · exact hb h.1
        · exact hb (by rw [h.2]; rfl)
      · have h1 : (rowR l true).2 = true := Classical.byContradiction fun h => hb (.inl h)
        have h2 : (rowR l true).1.length = 8 := Int.ofNat.inj (Classical.byContradiction fun h => hb (.inr h) : Int.ofNat (rowR l true).1.length = Int.ofNat 8)
        rw [if_pos ⟨h1, h2⟩] at hrs
        refine ⟨trivial, ⟨by omega, by omega, lay_zero _ _ _⟩, fun y hy => ?_⟩
        obtain ⟨p, j⟩ := y
        obtain ⟨j0, j8, hl⟩ := hy
        dsimp only at j0 j8 hl ⊢
        refine ⟨fun hj => ?_, fun hj => leaf _ _ ?_⟩
        · have w8 : within j ((8 : Nat) : Int) := ⟨j0, hj⟩
          have := lay_step hl (by omega) (by omega) (by rw [h2]; decide)
          rw [Int.zero_add] at this
          exact ⟨⟨j0, by show j < ((rowR l true).1.length : Int); omega⟩, w8, ⟨w8, trivial⟩, ⟨by omega, by omega⟩, trivial, ⟨by omega, by omega, this⟩, by omega⟩
        · rw [hrs, lay_end hl (by omega)]
          rw [h2]
          simp
    · have hga : 0 ≤ a ∧ a + 2 ≤ (l.length : Int) ∧ a = gapAt l := by
        rcases hg with ⟨h, -⟩ | h
        · omega
        · exact h
      obtain ⟨a0, a2, hae⟩ := hga
      have hrs : refSix l = (if ((rowR (takeZ l a) false).2 = true ∧ (rowR (dropZ l (a + 2)) true).2 = true) ∧ (rowR (takeZ l a) false).1.length + (rowR (dropZ l (a + 2)) true).1.length ≤ 7 then
        (w16 (rowR (takeZ l a) false).1 ++ List.replicate (8 - ((rowR (takeZ l a) false).1.length + (rowR (dropZ l (a + 2)) true).1.length)) 0 ++ w16 (rowR (dropZ l (a + 2)) true).1, true) else (List.replicate 8 0, false)) := by
        unfold refSix; rw [if_neg (by omega), ← hae]
      have hlA := rowR_len (takeZ l a) false
      have hlB := rowR_len (dropZ l (a + 2)) true
      have ht1 : (takeZ l a).length ≤ 1000 := by unfold takeZ; rw [List.length_take]; omega
      have ht2 : (dropZ l (a + 2)).length ≤ 1000 := by unfold dropZ; rw [List.length_drop]; omega
      generalize hA : rowR (takeZ l a) false = A at *
      generalize hB : rowR (dropZ l (a + 2)) true = B at *
      refine ⟨⟨by omega, a0, by unfold lenZ; omega⟩, ?_, ⟨by omega, by omega⟩, ⟨by omega, by unfold lenZ; omega, by omega⟩, ?_, fun hb => ?_, fun hb => leaf _ _ ?_, fun hb => ?_⟩
      · show (takeZ l a).length ≤ 1000
        unfold takeZ; rw [List.length_take]; omega
      · show (dropZ l (a + 2)).length ≤ 1000
        unfold dropZ; rw [List.length_drop]; omega
      · exact ⟨by omega, by omega⟩
      · rw [hrs, if_neg]
        intro h
        rcases hb with (hb | hb) | hb
        · exact hb h.1.1
        · exact hb h.1.2
        · have : (7 : Int) < (A.1.length : Int) + (B.1.length : Int) := hb
          omega
      · have h1 : A.2 = true := Classical.byContradiction fun h => hb (.inl (.inl h))
        have h2 : B.2 = true := Classical.byContradiction fun h => hb (.inl (.inr h))
        have h3 : A.1.length + B.1.length ≤ 7 := Classical.byContradiction fun h => hb (.inr (by show (7 : Int) < (A.1.length : Int) + (B.1.length : Int); omega))
        rw [if_pos ⟨⟨h1, h2⟩, h3⟩] at hrs
        refine ⟨trivial, lay_zero _ _ _, fun y hy => ?_⟩
        obtain ⟨p, j⟩ := y
        dsimp only at hy ⊢
        have j0 := hy.1
        have j1 := hy.2.1
        refine ⟨fun hj => ?_, fun hj => ?_⟩
        · have hj' : j < (A.1.length : Int) := hj
          have w8 : within j ((8 : Nat) : Int) := ⟨j0, by omega⟩
          have := lay_step hy hj' (by omega) (by rw [List.length_replicate]; omega)
          rw [Int.zero_add] at this
          exact ⟨⟨j0, hj'⟩, w8, ⟨w8, trivial⟩, ⟨by omega, by omega⟩, trivial, this, by omega⟩
        · have hj' : ¬ j < (A.1.length : Int) := hj
          have hp := lay_end hy hj'
          have hp8 : p.length = 8 := by rw [hp, List.length_append, List.length_append, List.length_take, w16_len, List.length_drop, List.length_replicate]; show min 0 8 + _ + _ = 8; omega
          refine ⟨trivial, lay_zero _ _ _, fun u hu => ?_⟩
          obtain ⟨p2, m⟩ := u
          dsimp only at hu ⊢
          have m0 := hu.1
          have m1 := hu.2.1
          refine ⟨fun hm => ?_, fun hm => leaf _ _ ?_⟩
          · have hm' : m < (B.1.length : Int) := hm
            have w8 : within ((8 : Int) - Int.ofNat B.1.length + m) ((8 : Nat) : Int) := ⟨by show (0 : Int) ≤ 8 - (B.1.length : Int) + m; omega, by show (8 : Int) - (B.1.length : Int) + m < 8; omega⟩
            exact ⟨⟨by show _ ≤ (8 : Int) - (B.1.length : Int); omega, by show (8 : Int) - (B.1.length : Int) ≤ _; omega⟩, ⟨by show _ ≤ (8 : Int) - (B.1.length : Int) + m; omega, by show (8 : Int) - (B.1.length : Int) + m ≤ _; omega⟩, ⟨m0, hm'⟩, w8, ⟨w8, trivial⟩, ⟨by omega, by omega⟩, trivial, lay_step hu hm' (by omega) (by omega), by omega⟩
          · rw [hrs, lay_end hu hm, hp]
            have e : ((8 : Int) - (B.1.length : Int)).toNat = 8 - B.1.length := by omega
            rw [e]
            congr 1
            rw [show (List.replicate 8 (0 : Int)).take (Int.toNat 0) = [] from rfl, List.nil_append, show Int.toNat 0 + A.1.length = A.1.length by show 0 + _ = _; omega, List.drop_replicate]
            rw [List.take_append, List.take_of_length_le (by rw [w16_len]; omega), w16_len, List.take_replicate, show min (8 - B.1.length - A.1.length) (8 - A.1.length) = 8 - (A.1.length + B.1.length) by omega]
            rw [List.drop_eq_nil_of_le (by rw [List.length_append, w16_len, List.length_replicate]; omega), List.append_nil])
def ent_rparse : List PV → Option CallR := fun xs => match xs with
  | [.str l] => some ⟨l.length ≤ 1000, .tup [.arr 8 (.ints .u16 (refSix l).1), .bool (refSix l).2]⟩
  | _ => none
theorem ent_rparse_ok : ∀ xs c, ent_rparse xs = some c → FuncOk Tryz.prog noT 25 xs c := fun xs c h => by
  unfold ent_rparse at h
  split at h
  · injection h with h; subst h; exact ok_rparse _
  · cases h
end
def dig3 (x : Nat) : Bs := if x < 10 then [sgn x] else if x < 100 then [sgn (x / 10), sgn (x % 10)] else [sgn (x / 100), sgn (x / 10 % 10), sgn (x % 10)]
theorem dig3_dig (x : Nat) (hx : x < 1000) : digB 10 x = dig3 x := by
  unfold dig3
  by_cases h1 : x < 10
  · rw [if_pos h1, digB_small h1]
  · rw [if_neg h1, digB_great h1 (by decide)]
    by_cases h2 : x < 100
    · rw [if_pos h2, digB_small (by omega)]; rfl
    · rw [if_neg h2, digB_great (x := x / 10) (by omega) (by decide), digB_small (by omega), show x / 10 / 10 = x / 100 by omega]; rfl
theorem dig3_good : ∀ x : Fin 256, goodP (dig3 x.val) = true ∧ decVal (dig3 x.val) = (x.val : Int) := by decide +kernel
def dg (k : Nat) : UInt8 := UInt8.ofNat (48 + k)
theorem one3 : ∀ i : Fin 10, goodP [dg i.val] = true → [dg i.val] = dig3 (decVal [dg i.val]).toNat := by decide +kernel
theorem two3 : ∀ i j : Fin 10, goodP [dg i.val, dg j.val] = true → [dg i.val, dg j.val] = dig3 (decVal [dg i.val, dg j.val]).toNat := by decide +kernel
theorem three3 : ∀ i j k : Fin 10, goodP [dg i.val, dg j.val, dg k.val] = true → [dg i.val, dg j.val, dg k.val] = dig3 (decVal [dg i.val, dg j.val, dg k.val]).toNat := by decide +kernel
theorem dg_of {c : UInt8} (h : digB10 c = true) : ∃ k : Fin 10, c = dg k.val := by
  have := of_decide_eq_true h
  refine ⟨⟨c.toNat - 48, by omega⟩, ?_⟩
  unfold dg
  apply UInt8.toNat_inj.1
  show c.toNat = (UInt8.ofNat (48 + (c.toNat - 48))).toNat
  rw [show 48 + (c.toNat - 48) = c.toNat by omega]
  simp
theorem good_dig {p : Bs} (h : goodP p = true) : p = dig3 (decVal p).toNat ∧ 0 ≤ decVal p ∧ decVal p ≤ 255 := by
  have h0 := h
  unfold goodP at h0
  rw [Bool.and_eq_true, Bool.and_eq_true, List.all_eq_true, decide_eq_true_eq] at h0
  obtain ⟨⟨hs, hd⟩, hv⟩ := h0
  refine ⟨?_, (decVal_bd _ p rfl hd).1, hv⟩
  unfold shapeP at hs
  rw [Bool.and_eq_true, decide_eq_true_eq] at hs
  match p, hd, h, hs.1 with
  | [a], hd, h, _ =>
    obtain ⟨i, rfl⟩ := dg_of (hd a (by simp))
    exact one3 i h
  | [a, b], hd, h, _ =>
    obtain ⟨i, rfl⟩ := dg_of (hd a (by simp))
    obtain ⟨j, rfl⟩ := dg_of (hd b (by simp))
    exact two3 i j h
  | [a, b, c], hd, h, _ =>
    obtain ⟨i, rfl⟩ := dg_of (hd a (by simp))
    obtain ⟨j, rfl⟩ := dg_of (hd b (by simp))
    obtain ⟨k, rfl⟩ := dg_of (hd c (by simp))
    exact three3 i j k h
  | [], _, _, h => exact absurd h.1 (by simp)
  | _ :: _ :: _ :: _ :: _, _, _, h => exact absurd h.2 (by simp)
theorem joinD_split : ∀ l : Bs, joinD (splitB 46 l) = l
  | [] => rfl
  | b :: t => by
    obtain ⟨h, r, e⟩ := splitB_some 46 t
    have ih := joinD_split t
    by_cases hb : (b.toNat : Int) = 46
    · have : b = 46 := by apply UInt8.toNat_inj.1; show b.toNat = 46; omega
      rw [splitB_yes hb, joinD_cons _ (by rw [e]; simp), ih, this]; rfl
    · rw [splitB_no hb e]
      rw [e] at ih
      cases r with
      | nil =>
        have h1 : joinD [h] = h := rfl
        have h2 : joinD [b :: h] = b :: h := rfl
        rw [h1] at ih; rw [h2, ih]
      | cons q qs =>
        rw [joinD_cons _ (by simp)] at ih ⊢
        rw [List.cons_append, ih]
theorem dot_four (l : Bs) : dotO l = (fourR l).2.2 ∧ ((fourR l).2.2 = true → (fourR l).1 * 65536 + (fourR l).2.1 = dotV l ∧ 0 ≤ (fourR l).1 ∧ (fourR l).1 ≤ 65535 ∧ 0 ≤ (fourR l).2.1 ∧ (fourR l).2.1 ≤ 65535) := by
  have key : (fourR l).2.2 = true → dotO l = true ∧ (fourR l).1 * 65536 + (fourR l).2.1 = dotV l ∧ 0 ≤ (fourR l).1 ∧ (fourR l).1 ≤ 65535 ∧ 0 ≤ (fourR l).2.1 ∧ (fourR l).2.1 ≤ 65535 := fun h => by
    by_cases h4 : (splitB 46 l).length = 4
    · match hq : splitB 46 l, h4 with
      | [a, b, c, d], _ =>
        have hf : fourR l = if (goodP a && goodP b && goodP c && goodP d) = true then (decVal a * 256 + decVal b, decVal c * 256 + decVal d, true) else (0, 0, false) := by unfold fourR; rw [hq]
        by_cases hg : (goodP a && goodP b && goodP c && goodP d) = true
        · rw [if_pos hg] at hf
          simp only [Bool.and_eq_true] at hg
          obtain ⟨⟨⟨ga, gb⟩, gc⟩, gd⟩ := hg
          obtain ⟨ea, a0, a1⟩ := good_dig ga
          obtain ⟨eb, b0, b1⟩ := good_dig gb
          obtain ⟨ec, c0, c1⟩ := good_dig gc
          obtain ⟨ed, d0, d1⟩ := good_dig gd
          obtain ⟨x, hx⟩ := Int.eq_ofNat_of_zero_le a0
          obtain ⟨y, hy⟩ := Int.eq_ofNat_of_zero_le b0
          obtain ⟨z, hz⟩ := Int.eq_ofNat_of_zero_le c0
          obtain ⟨u, hu⟩ := Int.eq_ofNat_of_zero_le d0
          rw [hx, Int.toNat_natCast] at ea
          rw [hy, Int.toNat_natCast] at eb
          rw [hz, Int.toNat_natCast] at ec
          rw [hu, Int.toNat_natCast] at ed
          have hl : l = showL (((x * 256 + y) * 256 + z) * 256 + u) := by
            rw [show_join, ← joinD_split l, hq]
            rw [show q0 (((x * 256 + y) * 256 + z) * 256 + u) = x by unfold q0; omega, show q1 (((x * 256 + y) * 256 + z) * 256 + u) = y by unfold q1; omega, show q2 (((x * 256 + y) * 256 + z) * 256 + u) = z by unfold q2; omega, show q3 (((x * 256 + y) * 256 + z) * 256 + u) = u by unfold q3; omega]
            rw [dig3_dig x (by omega), dig3_dig y (by omega), dig3_dig z (by omega), dig3_dig u (by omega), ← ea, ← eb, ← ec, ← ed]
            rfl
          obtain ⟨d2, d3⟩ := dot_show (((x * 256 + y) * 256 + z) * 256 + u) (by omega)
          rw [← hl] at d2 d3
          rw [hf]
          refine ⟨d2, ?_, ?_, ?_, ?_, ?_⟩ <;> dsimp only <;> omega
        · rw [if_neg hg] at hf
          rw [hf] at h; cases h
    · rw [four_len h4] at h; cases h
  refine ⟨?_, fun h => (key h).2⟩
  cases hd : dotO l with
  | false =>
    cases hf : (fourR l).2.2 with
    | false => rfl
    | true => rw [(key hf).1] at hd; cases hd
  | true =>
    unfold dotO at hd
    rw [Bool.and_eq_true] at hd
    have hl : showL (dotV l).toNat = l := by simpa using hd.2
    obtain ⟨v0, v1⟩ := dotV_bd l
    obtain ⟨n, hn⟩ := Int.eq_ofNat_of_zero_le v0
    rw [hn, Int.toNat_natCast] at hl
    have b0 : q0 n < 256 := by unfold q0; omega
    have b1 : q1 n < 256 := by unfold q1; omega
    have b2 : q2 n < 256 := by unfold q2; omega
    have b3 : q3 n < 256 := by unfold q3; omega
    have hs : splitB 46 l = [digB 10 (q0 n), digB 10 (q1 n), digB 10 (q2 n), digB 10 (q3 n)] := by
      rw [← hl, show_join]
      refine splitB_joinD _ (by simp) fun p hp q hq => ?_
      simp only [List.cons_append, List.nil_append, List.mem_cons, List.not_mem_nil, or_false] at hp
      rcases hp with rfl | rfl | rfl | rfl <;> exact (digB_signs (.inr (.inl rfl)) _ q hq).1
    have g : ∀ x, x < 256 → goodP (digB 10 x) = true := fun x hx => by rw [dig3_dig x (by omega)]; exact (dig3_good ⟨x, hx⟩).1
    unfold fourR
    rw [hs]
    dsimp only
    rw [if_pos (by rw [g _ b0, g _ b1, g _ b2, g _ b3]; rfl)]
theorem rowGo_app (last : Bool) : ∀ (ps : List Bs) (o : List Int), rowGo last ps o = (o ++ (rowGo last ps []).1, (rowGo last ps []).2)
  | [], o => by simp [rowGo]
  | p :: ps, o => by
    unfold rowGo
    split
    · simp
    · split
      · rw [rowGo_app last ps (o ++ [(pieceR p).1]), rowGo_app last ps ([] ++ [(pieceR p).1])]
        simp
      · simp
theorem jn_cons (p : Bs) (ps : List Bs) (h : ps ≠ []) : jn (p :: ps) = p ++ 58 :: jn ps := by rw [jn, if_neg h]
theorem jn_split : ∀ l : Bs, jn (splitB 58 l) = l
  | [] => rfl
  | b :: t => by
    obtain ⟨h, r, e⟩ := splitB_some 58 t
    have ih := jn_split t
    by_cases hb : (b.toNat : Int) = 58
    · have : b = 58 := by apply UInt8.toNat_inj.1; show b.toNat = 58; omega
      rw [splitB_yes hb, jn_cons _ _ (by rw [e]; simp), ih, this]; rfl
    · rw [splitB_no hb e]
      rw [e] at ih
      cases r with
      | nil =>
        have h1 : jn [h] = h := rfl
        have h2 : jn [b :: h] = b :: h := rfl
        rw [h1] at ih; rw [h2, ih]
      | cons q qs =>
        rw [jn_cons _ _ (by simp)] at ih ⊢
        rw [List.cons_append, ih]
theorem split_no58 (l : Bs) : ∀ p ∈ splitB 58 l, ∀ c ∈ p, c ≠ 58 := by
  induction l with
  | nil => intro p hp c hc; have : p = [] := by simpa [splitB] using hp
           rw [this] at hc; cases hc
  | cons b t ih =>
    intro p hp c hc
    obtain ⟨h, r, e⟩ := splitB_some 58 t
    by_cases hb : (b.toNat : Int) = 58
    · rw [splitB_yes hb, List.mem_cons] at hp
      rcases hp with rfl | hp
      · cases hc
      · exact ih p hp c hc
    · rw [splitB_no hb e, List.mem_cons] at hp
      rw [e] at ih
      rcases hp with rfl | hp
      · rcases List.mem_cons.1 hc with rfl | hc
        · intro h58; exact hb (by rw [h58]; rfl)
        · exact ih h (by simp) c hc
      · exact ih p (by simp [hp]) c hc
theorem hex_split : ∀ p : Bs, ∃ H R, p = H ++ R ∧ HexB H ∧ Off R
  | [] => ⟨[], [], rfl, (fun c hc => by cases hc), .inl rfl⟩
  | b :: t => by
    by_cases hb : 0 ≤ hexN (b.toNat : Int)
    · obtain ⟨H, R, e, hH, hR⟩ := hex_split t
      exact ⟨b :: H, R, by rw [e]; rfl, (fun c hc => by rcases List.mem_cons.1 hc with rfl | hc; exact hb; exact hH c hc), hR⟩
    · exact ⟨[], b :: t, rfl, (fun c hc => by cases hc), .inr (by rw [byt0]; omega)⟩
theorem pieceV_yes : ∀ (H : Bs) (k : Nat) (n : Int), HexB H → H.length ≤ k → pieceV k n H = (H.foldl (fun v b => v * 16 + hexN (b.toNat : Int)) n, true)
  | [], 0, n, _, _ => rfl
  | [], k + 1, n, _, _ => rfl
  | c :: r, 0, n, _, h => by simp at h
  | c :: r, k + 1, n, hh, h => by
    have := hh c (List.mem_cons_self ..)
    rw [pieceV, if_neg (by omega), pieceV_yes r k _ (fun d hd => hh d (List.mem_cons_of_mem _ hd)) (by simpa using h)]
    rfl
theorem pieceV_no : ∀ (p : Bs) (k : Nat) (n : Int), ¬ HexB p → p.length ≤ k → (pieceV k n p).2 = false
  | [], k, n, h, _ => absurd (fun c hc => by cases hc) h
  | c :: r, 0, n, _, h => by simp at h
  | c :: r, k + 1, n, hh, h => by
    rw [pieceV]
    by_cases hc : hexN (c.toNat : Int) < 0
    · rw [if_pos hc]
    · rw [if_neg hc]
      refine pieceV_no r k _ (fun hr => hh fun d hd => ?_) (by simpa using h)
      rcases List.mem_cons.1 hd with rfl | hd
      · omega
      · exact hr d hd
theorem pieceR_yes {p : Bs} (hp : Piece p) : pieceR p = (hexW p, true) := by
  have := hp.lo
  have := hp.hi
  unfold pieceR
  rw [pieceV_yes p 5 0 hp.hex (by omega), decide_eq_true ⟨hp.lo, hp.hi⟩]
  rfl
theorem pieceR_no {p : Bs} (hp : ¬ Piece p) : (pieceR p).2 = false := by
  unfold pieceR
  dsimp only
  by_cases hl : 1 ≤ p.length ∧ p.length ≤ 4
  · rw [pieceV_no p 5 0 (fun hh => hp ⟨hh, hl.1, hl.2⟩) (by omega)]; rfl
  · rw [decide_eq_false hl, Bool.and_false]
theorem four_first {H R : Bs} (hH : HexB H) (hR : Off R) (h : (fourR (H ++ R)).2.2 = true) : byt R 0 = 46 ∧ 1 ≤ R.length ∧ ¬ (58 : UInt8) ∈ H ++ R := by
  have hd : dotO (H ++ R) = true := by rw [(dot_four _).1]; exact h
  unfold dotO at hd
  rw [Bool.and_eq_true] at hd
  have hl : showL (dotV (H ++ R)).toNat = H ++ R := by simpa using hd.2
  obtain ⟨P, Q, hs, hP, hP1⟩ := show_first (dotV (H ++ R)).toNat
  rw [hl] at hs
  have e1 := hexLen_piece hH hR
  have e2 := hexLen_piece hP (r := 46 :: Q) (.inr (by rw [byt0]; decide))
  rw [hs, e2] at e1
  have e3 : R = 46 :: Q := by
    have := congrArg (List.drop P.length) hs
    rw [List.drop_left, e1, List.drop_left] at this
    exact this
  refine ⟨by rw [e3]; rfl, by rw [e3]; simp, ?_⟩
  rw [← hl, show_join]
  have dig : ∀ x, ¬ (58 : UInt8) ∈ digB 10 x := fun x hx => by
    have ho := digB_only (b := 10) (.inr (.inl rfl)) x
    obtain ⟨i, hi, e⟩ := List.getElem_of_mem hx
    have := (onlyB_at 10 _ ho i hi).1
    unfold byt at this
    rw [List.getD_eq_getElem?_getD, List.getElem?_eq_getElem hi] at this
    have e' : (some (digB 10 x)[i]).getD 0 = 58 := by rw [e]; rfl
    rw [e'] at this
    exact absurd this (by decide)
  intro hm
  have hm2 : (58 : UInt8) ∈ digB 10 (q0 (dotV (H ++ R)).toNat) ++ 46 :: (digB 10 (q1 (dotV (H ++ R)).toNat) ++ 46 :: (digB 10 (q2 (dotV (H ++ R)).toNat) ++ 46 :: digB 10 (q3 (dotV (H ++ R)).toNat))) := hm
  simp only [List.mem_append, List.mem_cons] at hm2
  rcases hm2 with h | h | h | h | h | h | h
  · exact dig _ h
  · exact absurd h (by decide)
  · exact dig _ h
  · exact absurd h (by decide)
  · exact dig _ h
  · exact absurd h (by decide)
  · exact dig _ h
def NoGap : List Bs → Prop
  | _ :: q :: r :: rest => q ≠ [] ∧ NoGap (q :: r :: rest)
  | _ => True
def endR (o : List Int × Bool) (acc : List Int) (gap : Int) : List Int × Bool := if o.2 = true ∧ acc.length + o.1.length ≤ 8 then fin6 (acc ++ o.1) gap else wrong6
theorem endR_no {o : List Int × Bool} (acc : List Int) (gap : Int) (h : o.2 = false) : endR o acc gap = wrong6 := by unfold endR; rw [if_neg (by rw [h]; simp)]
theorem rowGo_no {last : Bool} {p : Bs} {ps : List Bs} {o : List Int} (h1 : ¬ (((fourR p).2.2 = true ∧ last = true) ∧ ps = [])) (h2 : (pieceR p).2 = false) : (rowGo last (p :: ps) o).2 = false := by
  rw [rowGo, if_neg h1, if_neg (by rw [h2]; simp)]
theorem rowGo_yes {last : Bool} {p : Bs} {ps : List Bs} {o : List Int} (h1 : ¬ (((fourR p).2.2 = true ∧ last = true) ∧ ps = [])) (h2 : Piece p) : rowGo last (p :: ps) o = rowGo last ps (o ++ [hexW p]) := by
  rw [rowGo, if_neg h1, if_pos (by rw [pieceR_yes h2]), pieceR_yes h2]
theorem not_piece {H R : Bs} (hR : R ≠ []) (ho : Off R) : ¬ Piece (H ++ R) := fun h => by
  match R, hR, ho with
  | c :: t, _, ho =>
    rcases ho with ho | ho
    · cases ho
    · rw [byt0] at ho
      have := h.hex c (by simp)
      omega
theorem piece_four {p : Bs} (h : Piece p) : (fourR p).2.2 = false := by
  cases hf : (fourR p).2.2 with
  | false => rfl
  | true =>
    have := four_first (H := p) (R := []) h.hex (.inl rfl) (by rw [List.append_nil]; exact hf)
    exact absurd this.2.1 (by simp)
theorem dotO_58 {l : Bs} (h : (58 : UInt8) ∈ l) : dotO l = false := by
  cases hd : dotO l with
  | false => rfl
  | true =>
    obtain ⟨H, R, e, hH, hR⟩ := hex_split l
    rw [(dot_four l).1] at hd
    subst e
    exact absurd h (four_first hH hR hd).2.2
theorem part_off {l A H R T : Bs} {acc : List Int} {gap : Int} (hl : l = A ++ (H ++ (R ++ T))) (hH : HexB H) (hR : Off R) (hne : R ≠ []) (h58 : ∀ c ∈ R, c ≠ 58) (hT : T ≠ [] → (58 : UInt8) ∈ T) (hc : acc.length ≤ 8) :
    six1 l (9 - acc.length) acc gap A.length = if T = [] ∧ (fourR (H ++ R)).2.2 = true then endR ([(fourR (H ++ R)).1, (fourR (H ++ R)).2.1], true) acc gap else wrong6 := by
  have hRT : Off (R ++ T) := by
    match R, hne, hR with
    | c :: t, _, hR =>
      rcases hR with hR | hR
      · cases hR
      · exact .inr hR
  obtain ⟨h1, h2, h3, h4⟩ := six_at (l := l) (A := A) (P := H) (Q := R ++ T) (acc := acc) hl hH hRT hc
  have hb : byt l (A.length + H.length) = byt R 0 := by
    have := h3 0
    rw [Nat.add_zero] at this
    rw [this, byt_l (List.length_pos_iff.2 hne)]
  have hR1 := List.length_pos_iff.2 hne
  rw [List.length_append] at h4
  rw [six1_step l acc gap A.length (A.length + H.length) hc h1, hb]
  have hdrop : l.drop A.length = H ++ (R ++ T) := by rw [hl, List.drop_left]
  by_cases h46 : byt R 0 = 46
  · rw [if_pos ⟨by omega, h46⟩]
    unfold bytes6
    rw [hdrop]
    by_cases hTe : T = []
    · subst hTe
      rw [List.append_nil]
      obtain ⟨d1, d2⟩ := dot_four (H ++ R)
      rw [d1]
      cases hf : (fourR (H ++ R)).2.2 with
      | false => rw [if_pos (.inl rfl), if_neg (by simp)]
      | true =>
        obtain ⟨e1, a0, a1, b0, b1⟩ := d2 hf
        rw [if_pos (show ([] : Bs) = [] ∧ true = true from ⟨rfl, rfl⟩)]
        unfold endR
        by_cases h6 : 6 < acc.length
        · rw [if_pos (show true = false ∨ 6 < acc.length from .inr h6), if_neg (by rintro ⟨-, h⟩; have h' : acc.length + 2 ≤ 8 := h; omega)]
        · rw [if_neg (show ¬ (true = false ∨ 6 < acc.length) from fun h => by rcases h with h | h; cases h; exact h6 h)]
          refine Eq.trans ?_ (if_pos ⟨rfl, by show acc.length + 2 ≤ 8; omega⟩).symm
          rw [show dotV (H ++ R) / 65536 = (fourR (H ++ R)).1 by omega, show dotV (H ++ R) % 65536 = (fourR (H ++ R)).2.1 by omega]
          simp
    · rw [dotO_58 (by simp [hT hTe]), if_pos (.inl rfl), if_neg (fun h => hTe h.1)]
  · have hw : wrong6 = if T = [] ∧ (fourR (H ++ R)).2.2 = true then endR ([(fourR (H ++ R)).1, (fourR (H ++ R)).2.1], true) acc gap else wrong6 := by
      rw [if_neg]
      rintro ⟨-, hf⟩
      exact h46 (four_first hH hR hf).1
    rw [if_neg (fun h => h46 h.2), ← hw]
    by_cases hq : acc.length = 8 ∨ A.length + H.length = A.length ∨ A.length + 4 < A.length + H.length
    · rw [if_pos hq]
    · rw [if_neg hq, if_neg (by omega), if_pos]
      left
      match R, hne, h58 with
      | c :: t, _, h58 =>
        have := h58 c (by simp)
        rw [byt0]
        intro e
        exact this (by apply UInt8.toNat_inj.1; show c.toNat = 58; omega)
theorem part_digits {l A H T : Bs} {acc : List Int} {gap : Int} (hl : l = A ++ (H ++ T)) (hH : HexB H) (hT : T = [] ∨ byt T 0 = 58) (hp : ¬ Piece H) (hc : acc.length ≤ 8) : six1 l (9 - acc.length) acc gap A.length = wrong6 := by
  have hO : Off T := by rcases hT with h | h; exact .inl h; exact .inr (by rw [h]; decide)
  obtain ⟨h1, h2, h3, h4⟩ := six_at (l := l) (A := A) (P := H) (Q := T) (acc := acc) hl hH hO hc
  have hb : byt l (A.length + H.length) = byt T 0 := by have := h3 0; rw [Nat.add_zero] at this; exact this
  have hq : A.length + H.length = A.length ∨ A.length + 4 < A.length + H.length := by
    refine Classical.byContradiction fun h => hp ⟨hH, by omega, by omega⟩
  rw [six1_step l acc gap A.length (A.length + H.length) hc h1, hb, if_neg, if_pos (.inr hq)]
  rintro ⟨h5, h6⟩
  rcases hT with h | h
  · rw [h] at h4; simp at h4; omega
  · rw [h] at h6; exact absurd h6 (by decide)
theorem walk_end : ∀ (ps : List Bs) (l A : Bs) (acc : List Int) (gap : Int), ps ≠ [] → l = A ++ jn ps → (∀ p ∈ ps, ∀ c ∈ p, c ≠ 58) → acc.length ≤ 8 → (gap < 0 → NoGap ps) →
    six1 l (9 - acc.length) acc gap A.length = endR (rowGo true ps []) acc gap
  | [], _, _, _, _, h, _, _, _, _ => absurd rfl h
  | p :: ps, l, A, acc, gap, _, hl, h58, hc, hg => by
    obtain ⟨H, R, rfl, hH, hR⟩ := hex_split p
    have hp58 := h58 (H ++ R) (List.mem_cons_self ..)
    obtain ⟨T, hT, hl2⟩ : ∃ T : Bs, (ps = [] ∧ T = [] ∨ ps ≠ [] ∧ T = 58 :: jn ps) ∧ l = A ++ (H ++ (R ++ T)) := by
      by_cases h : ps = []
      · exact ⟨[], .inl ⟨h, rfl⟩, by rw [hl, h]; simp [jn]⟩
      · exact ⟨58 :: jn ps, .inr ⟨h, rfl⟩, by rw [hl, jn_cons _ _ h]; simp⟩
    have hTe : T = [] ↔ ps = [] := by
      rcases hT with ⟨a, b⟩ | ⟨a, b⟩
      · simp [a, b]
      · simp [a, b]
    by_cases hRe : R = []
    · subst hRe
      rw [List.nil_append] at hl2
      rw [List.append_nil] at h58 hp58 ⊢
      have hT2 : T = [] ∨ byt T 0 = 58 := by
        rcases hT with ⟨_, h⟩ | ⟨_, h⟩
        · exact .inl h
        · right; rw [h]; rfl
      by_cases hp : Piece H
      · have hf := piece_four hp
        have hn : ¬ (((fourR H).2.2 = true ∧ true = true) ∧ ps = []) := by rw [hf]; simp
        rw [rowGo_yes hn hp, List.nil_append, rowGo_app]
        by_cases h8 : acc.length = 8
        · rw [show endR ([hexW H] ++ (rowGo true ps []).1, (rowGo true ps []).2) acc gap = wrong6 by unfold endR; rw [if_neg (by rintro ⟨-, h⟩; rw [List.length_append, List.length_singleton] at h; omega)]]
          have hO : Off T := by rcases hT2 with h | h; exact .inl h; exact .inr (by rw [h]; decide)
          obtain ⟨e1, e2, e3, e4⟩ := six_at (l := l) (A := A) (P := H) (Q := T) (acc := acc) hl2 hH hO hc
          have hb : byt l (A.length + H.length) = byt T 0 := by have := e3 0; rw [Nat.add_zero] at this; exact this
          rw [six1_step l acc gap A.length (A.length + H.length) hc e1, hb, if_neg, if_pos (.inl h8)]
          rintro ⟨h5, h6⟩
          rcases hT2 with h | h
          · rw [h] at e4; simp at e4; omega
          · rw [h] at h6; exact absurd h6 (by decide)
        · rcases hT with ⟨hps, hTn⟩ | ⟨hps, hTn⟩
          · subst hps hTn
            rw [List.append_nil] at hl2
            rw [six_end hl2 hp (by omega)]
            unfold endR
            rw [if_pos (by exact ⟨rfl, by show acc.length + 1 ≤ 8; omega⟩)]
            rfl
          · subst hTn
            by_cases hj : jn ps = []
            · have hrow : (rowGo true ps []).2 = false := by
                match ps, hps, hj with
                | q :: qs, _, hj =>
                  have hq : q = [] ∧ qs = [] := by
                    by_cases hqs : qs = []
                    · subst hqs; exact ⟨hj, rfl⟩
                    · rw [jn_cons _ _ hqs] at hj; simp at hj
                  obtain ⟨rfl, rfl⟩ := hq
                  decide +kernel
              rw [hj] at hl2
              rw [six_colon hl2 hp (by omega), endR_no (o := ([hexW H] ++ (rowGo true ps []).1, (rowGo true ps []).2)) _ _ hrow]
            · by_cases h1 : byt (jn ps) 0 = 58
              · obtain ⟨q, qs, rfl⟩ : ∃ q qs, ps = q :: qs := by
                  match ps, hps with
                  | q :: qs, _ => exact ⟨q, qs, rfl⟩
                have hq : q = [] := by
                  match q, h58 q (by simp) with
                  | [], _ => rfl
                  | c :: r, h =>
                    exfalso
                    have hc58 := h c (by simp)
                    apply hc58
                    have h1' : (c.toNat : Int) = 58 := by
                      by_cases hqs : qs = []
                      · subst hqs; exact h1
                      · rw [jn_cons _ _ hqs] at h1; exact h1
                    apply UInt8.toNat_inj.1; show c.toNat = 58; omega
                subst hq
                have hrow : (rowGo true ([] :: qs) []).2 = false := rowGo_no (fun hh => by rw [show (fourR []).2.2 = false by decide +kernel] at hh; cases hh.1.1) (by decide +kernel)
                rw [endR_no (o := ([hexW H] ++ (rowGo true ([] :: qs) []).1, (rowGo true ([] :: qs) []).2)) _ _ hrow]
                have hqs : qs ≠ [] := by intro h; subst h; exact hj rfl
                have hgn : ¬ gap < 0 := fun hgl => by
                  have := hg hgl
                  match qs, hqs, this with
                  | r :: rs, _, this => exact this.1 rfl
                rw [jn_cons _ _ hqs] at hl2
                obtain ⟨e1, e2, e3, e4⟩ := six_at (l := l) (A := A) (P := H) (Q := 58 :: ([] ++ 58 :: jn qs)) (acc := acc) hl2 hH (.inr (by rw [byt0]; decide)) hc
                have hb : byt l (A.length + H.length) = 58 := by have := e3 0; exact this
                have hb1 : byt l (A.length + H.length + 1) = 58 := by have := e3 1; exact this
                have := hp.lo
                have := hp.hi
                simp at e4
                rw [six1_step l acc gap A.length (A.length + H.length) hc e1, if_neg (by rw [hb]; omega), if_neg (by omega), if_neg (by omega), if_neg (by rw [hb]; omega), if_neg (by rw [hb1]; omega), if_pos (by omega)]
              · rw [six_on hl2 hp hj h1 (by omega)]
                rw [walk_end ps l (A ++ (H ++ [58])) (acc ++ [hexW H]) gap hps (by rw [hl2]; simp) (fun q hq => h58 q (by simp [hq])) (by simp; omega) (fun hgl => by
                  have := hg hgl
                  match ps, hps, this with
                  | [_], _, _ => trivial
                  | q :: r :: rs, _, this => exact this.2)]
                unfold endR
                dsimp only
                simp only [List.length_append, List.length_singleton, List.append_assoc, Nat.add_assoc]
      · have hrow : (rowGo true (H :: ps) []).2 = false := by
          refine rowGo_no ?_ (pieceR_no hp)
          rintro ⟨⟨hh, -⟩, -⟩
          have := four_first (H := H) (R := []) hH (.inl rfl) (by rw [List.append_nil]; exact hh)
          exact absurd this.2.1 (by simp)
        rw [part_digits hl2 hH hT2 hp hc, endR_no _ _ hrow]
    · rw [part_off hl2 hH hR hRe (fun c hcm => hp58 c (by simp [hcm])) (fun h => by
        rcases hT with ⟨_, h2⟩ | ⟨_, h2⟩
        · exact absurd h2 h
        · rw [h2]; simp) hc]
      have hnp : ¬ Piece (H ++ R) := not_piece hRe hR
      by_cases hf : T = [] ∧ (fourR (H ++ R)).2.2 = true
      · rw [if_pos hf, rowGo, if_pos ⟨⟨hf.2, rfl⟩, hTe.1 hf.1⟩]
        rfl
      · rw [if_neg hf, endR_no _ _ (rowGo_no (fun hh => hf ⟨hTe.2 hh.2, hh.1.1⟩) (pieceR_no hnp))]
def endG (l : Bs) (M : Bs) (xs : List Int) (at' : Nat) : List Int × Bool := if M = [] then fin6 xs xs.length else six1 l (9 - xs.length) xs xs.length at'
theorem walk_gap (M : Bs) : ∀ (ps : List Bs) (l A : Bs) (acc : List Int) (gap : Int), ps ≠ [] → l = A ++ (jn ps ++ 58 :: 58 :: M) → (∀ p ∈ ps, ∀ c ∈ p, c ≠ 58) → acc.length ≤ 8 → gap < 0 → (∀ q ∈ ps.tail, q ≠ []) →
    six1 l (9 - acc.length) acc gap A.length = if (rowGo false ps []).2 = true ∧ acc.length + (rowGo false ps []).1.length ≤ 8 then endG l M (acc ++ (rowGo false ps []).1) (A ++ (jn ps ++ [58, 58])).length else wrong6
  | [], _, _, _, _, h, _, _, _, _, _ => absurd rfl h
  | p :: ps, l, A, acc, gap, _, hl, h58, hc, hg, hne => by
    obtain ⟨H, R, rfl, hH, hR⟩ := hex_split p
    have hp58 := h58 (H ++ R) (List.mem_cons_self ..)
    obtain ⟨T, hT, hl2⟩ : ∃ T : Bs, (ps = [] ∧ T = 58 :: 58 :: M ∨ ps ≠ [] ∧ T = 58 :: (jn ps ++ 58 :: 58 :: M)) ∧ l = A ++ (H ++ (R ++ T)) := by
      by_cases h : ps = []
      · exact ⟨58 :: 58 :: M, .inl ⟨h, rfl⟩, by rw [hl, h]; simp [jn]⟩
      · exact ⟨58 :: (jn ps ++ 58 :: 58 :: M), .inr ⟨h, rfl⟩, by rw [hl, jn_cons _ _ h]; simp⟩
    have hTb : byt T 0 = 58 ∧ T ≠ [] := by
      rcases hT with ⟨_, h⟩ | ⟨_, h⟩ <;> rw [h] <;> exact ⟨rfl, by simp⟩
    have hfal : ∀ (q : Bs) (qs : List Bs), ¬ (((fourR q).2.2 = true ∧ false = true) ∧ qs = []) := fun q qs h => by cases h.1.2
    have wrongs : (rowGo false ((H ++ R) :: ps) []).2 = false → wrong6 = if (rowGo false ((H ++ R) :: ps) []).2 = true ∧ acc.length + (rowGo false ((H ++ R) :: ps) []).1.length ≤ 8 then endG l M (acc ++ (rowGo false ((H ++ R) :: ps) []).1) (A ++ (jn ((H ++ R) :: ps) ++ [58, 58])).length else wrong6 := fun h => by
      rw [if_neg (by rw [h]; simp)]
    by_cases hRe : R = []
    · subst hRe
      rw [List.nil_append] at hl2
      rw [List.append_nil] at h58 hp58 wrongs ⊢
      by_cases hp : Piece H
      · rw [rowGo_yes (hfal _ _) hp, List.nil_append, rowGo_app]
        by_cases h8 : acc.length = 8
        · rw [if_neg (by rintro ⟨-, h⟩; dsimp only at h; rw [List.length_append, List.length_singleton] at h; omega)]
          have hO : Off T := .inr (by rw [hTb.1]; decide)
          obtain ⟨e1, e2, e3, e4⟩ := six_at (l := l) (A := A) (P := H) (Q := T) (acc := acc) hl2 hH hO hc
          have hb : byt l (A.length + H.length) = byt T 0 := by have := e3 0; rw [Nat.add_zero] at this; exact this
          rw [six1_step l acc gap A.length (A.length + H.length) hc e1, hb, hTb.1, if_neg (fun h => absurd h.2 (by decide)), if_pos (.inl h8)]
        · rcases hT with ⟨hps, hTn⟩ | ⟨hps, hTn⟩
          · subst hps hTn
            rw [six_gap hl2 hp (by omega) hg]
            have e : rowGo false [] [] = ([], true) := rfl
            rw [e]
            dsimp only
            rw [List.append_nil]
            refine Eq.trans ?_ (if_pos (show true = true ∧ acc.length + [hexW H].length ≤ 8 from ⟨rfl, by show acc.length + 1 ≤ 8; omega⟩)).symm
            unfold endG
            have e2 : (acc ++ [hexW H]).length = acc.length + 1 := by simp
            rw [e2]
            rfl
          · subst hTn
            obtain ⟨q, qs, rfl⟩ : ∃ q qs, ps = q :: qs := by
              match ps, hps with
              | q :: qs, _ => exact ⟨q, qs, rfl⟩
            have hq : q ≠ [] := hne q (by simp)
            have h1 : byt (jn (q :: qs) ++ 58 :: 58 :: M) 0 ≠ 58 := by
              match q, hq, h58 q (by simp) with
              | c :: r, _, h =>
                have hc58 := h c (by simp)
                have e : byt (jn ((c :: r) :: qs) ++ 58 :: 58 :: M) 0 = (c.toNat : Int) := by
                  by_cases hqs : qs = []
                  · subst hqs; rfl
                  · rw [jn_cons _ _ hqs]; rfl
                rw [e]
                intro hh
                apply hc58
                apply UInt8.toNat_inj.1; show c.toNat = 58; omega
            rw [six_on hl2 hp (by simp) h1 (by omega)]
            rw [walk_gap M (q :: qs) l (A ++ (H ++ [58])) (acc ++ [hexW H]) gap (by simp) (by rw [hl2]; simp) (fun r hr => h58 r (List.mem_cons_of_mem _ hr)) (by simp; omega) hg (fun r hr => hne r (List.mem_cons_of_mem _ hr))]
            rw [jn_cons H (q :: qs) (by simp)]
            have e3 : (A ++ (H ++ [58]) ++ (jn (q :: qs) ++ [58, 58])).length = (A ++ (H ++ 58 :: jn (q :: qs) ++ [58, 58])).length := by
              congr 1; simp
            have e4 : (acc ++ [hexW H]).length + (rowGo false (q :: qs) []).1.length = acc.length + ([hexW H] ++ (rowGo false (q :: qs) []).1).length := by
              rw [List.length_append, List.length_append]; omega
            rw [e3, e4, List.append_assoc acc [hexW H]]
      · have hrow : (rowGo false (H :: ps) []).2 = false := rowGo_no (hfal _ _) (pieceR_no hp)
        rw [part_digits hl2 hH (.inr hTb.1) hp hc]
        exact wrongs hrow
    · rw [part_off hl2 hH hR hRe (fun c hcm => hp58 c (by simp [hcm])) (fun h => by
        rcases hT with ⟨_, h2⟩ | ⟨_, h2⟩ <;> rw [h2] <;> simp) hc, if_neg (fun h => hTb.2 h.1)]
      exact wrongs (rowGo_no (hfal _ _) (pieceR_no (not_piece hRe hR)))
def noAdj : Bs → Prop
  | c :: d :: r => ¬ (c = 58 ∧ d = 58) ∧ noAdj (d :: r)
  | _ => True
theorem gap_none : ∀ (l : Bs) (i : Int), 0 ≤ i → gapF l i < 0 → noAdj l
  | [], _, _, _ => trivial
  | [_], _, _, _ => trivial
  | c :: d :: r, i, hi, h => by
    rw [gapF] at h
    by_cases hc : c = 58 ∧ d = 58
    · rw [if_pos hc] at h; omega
    · rw [if_neg hc] at h
      exact ⟨hc, gap_none (d :: r) (i + 1) (by omega) h⟩
theorem gap_some : ∀ (l : Bs) (i : Int), 0 ≤ i → 0 ≤ gapF l i → ∃ (k : Nat) (M : Bs), gapF l i = i + k ∧ l = l.take k ++ 58 :: 58 :: M ∧ l.drop (k + 2) = M ∧ k + 2 ≤ l.length ∧ noAdj (l.take k ++ [58])
  | [], _, _, h => by have h' : (0 : Int) ≤ -1 := h; omega
  | [_], _, _, h => by have h' : (0 : Int) ≤ -1 := h; omega
  | c :: d :: r, i, hi, h => by
    rw [gapF] at h ⊢
    by_cases hc : c = 58 ∧ d = 58
    · rw [if_pos hc]
      obtain ⟨rfl, rfl⟩ := hc
      exact ⟨0, r, by simp, rfl, rfl, by simp, trivial⟩
    · rw [if_neg hc] at h ⊢
      obtain ⟨k, M, h1, h2, h3, h4, h5⟩ := gap_some (d :: r) (i + 1) (by omega) h
      refine ⟨k + 1, M, by rw [h1]; push_cast; omega, ?_, ?_, by rw [List.length_cons]; omega, ?_⟩
      · rw [List.take_succ_cons, List.cons_append, ← h2]
      · rw [show k + 1 + 2 = (k + 2) + 1 by omega, List.drop_succ_cons]; exact h3
      · rw [List.take_succ_cons, List.cons_append]
        cases k with
        | zero =>
          refine ⟨fun hh => ?_, trivial⟩
          have : d = 58 := by
            rw [List.take_zero, List.nil_append] at h2
            injection h2
          exact hc ⟨hh.1, this⟩
        | succ k =>
          rw [List.take_succ_cons, List.cons_append] at h5 ⊢
          exact ⟨fun hh => hc hh, h5⟩
theorem noGap_first (p q : Bs) : ∀ ps : List Bs, NoGap (p :: ps) → NoGap (q :: ps)
  | [], _ => trivial
  | [_], _ => trivial
  | _ :: _ :: _, h => h
theorem noGap_split : ∀ l : Bs, noAdj l → NoGap (splitB 58 l)
  | [], _ => trivial
  | b :: t, h => by
    have ht : noAdj t := by
      cases t with
      | nil => trivial
      | cons d r => exact h.2
    obtain ⟨x, y, e⟩ := splitB_some 58 t
    have ih := noGap_split t ht
    by_cases hb : (b.toNat : Int) = 58
    · rw [splitB_yes hb, e]
      rw [e] at ih
      cases y with
      | nil => trivial
      | cons z zs =>
        refine ⟨fun hx => ?_, ih⟩
        subst hx
        have hb8 : b = 58 := by apply UInt8.toNat_inj.1; show b.toNat = 58; omega
        cases t with
        | nil => rw [show splitB 58 [] = [[]] from rfl] at e; cases e
        | cons d r =>
          refine h.1 ⟨hb8, ?_⟩
          by_cases hd : (d.toNat : Int) = 58
          · apply UInt8.toNat_inj.1; show d.toNat = 58; omega
          · obtain ⟨x2, y2, e2⟩ := splitB_some 58 r
            rw [splitB_no hd e2] at e
            cases e
    · rw [splitB_no hb e]
      rw [e] at ih
      exact noGap_first _ _ _ ih
theorem noGap_tail : ∀ ps : List Bs, NoGap (ps ++ [[]]) → ∀ q ∈ ps.tail, q ≠ []
  | [], _, q, hq => by cases hq
  | [_], _, q, hq => by cases hq
  | p :: r :: rs, h, q, hq => by
    have h2 : r ≠ [] ∧ NoGap (r :: rs ++ [[]]) := by
      cases rs with
      | nil => exact h
      | cons s ss => exact h
    rcases List.mem_cons.1 hq with rfl | hq
    · exact h2.1
    · exact noGap_tail (r :: rs) h2.2 q hq
theorem rowGo_long (last : Bool) : ∀ (ps : List Bs) (o : List Int), (rowGo last ps o).2 = true → o.length + ps.length ≤ (rowGo last ps o).1.length
  | [], o, _ => by unfold rowGo; simp
  | p :: ps, o, h => by
    unfold rowGo at h ⊢
    split
    · rename_i hc
      rw [hc.2]
      simp
    · rename_i hc
      rw [if_neg hc] at h
      split
      · rename_i hp
        rw [if_pos hp] at h
        have := rowGo_long last ps _ h
        rw [List.length_append, List.length_singleton] at this
        rw [List.length_cons]; omega
      · rename_i hp
        rw [if_neg hp] at h; cases h
theorem hexW_range {p : Bs} (hp : Piece p) : 0 ≤ hexW p ∧ hexW p ≤ 65535 := by
  have h := hexW_bd p (fun i hi => by
    unfold byt
    rw [List.getD_eq_getElem?_getD, List.getElem?_eq_getElem hi]
    exact hp.hex _ (List.getElem_mem _)) p.length (Nat.le_refl _)
  rw [List.take_length] at h
  have : p.length = 1 ∨ p.length = 2 ∨ p.length = 3 ∨ p.length = 4 := by have := hp.lo; have := hp.hi; omega
  refine ⟨h.1, ?_⟩
  rcases this with e | e | e | e <;> rw [e] at h <;> have h2 := h.2 <;> simp only [Nat.reduceAdd, Int.reducePow] at h2 <;> omega
theorem rowGo_range (last : Bool) : ∀ (ps : List Bs) (o : List Int), (∀ x ∈ o, 0 ≤ x ∧ x ≤ 65535) → ∀ x ∈ (rowGo last ps o).1, 0 ≤ x ∧ x ≤ 65535
  | [], o, h, x, hx => h x (by unfold rowGo at hx; exact hx)
  | p :: ps, o, h, x, hx => by
    unfold rowGo at hx
    split at hx
    · rename_i hc
      have d := (dot_four p).2 hc.1.1
      rw [List.mem_append] at hx
      rcases hx with hx | hx
      · exact h x hx
      · simp only [List.mem_cons, List.not_mem_nil, or_false] at hx
        rcases hx with rfl | rfl <;> omega
    · split at hx
      · rename_i hp
        have hP : Piece p := Classical.byContradiction fun hn => by rw [pieceR_no hn] at hp; cases hp
        refine rowGo_range last ps _ (fun y hy => ?_) x hx
        rw [List.mem_append, List.mem_singleton] at hy
        rcases hy with hy | rfl
        · exact h y hy
        · rw [pieceR_yes hP]; exact hexW_range hP
      · exact h x hx
theorem w16_id {o : List Int} (h : ∀ x ∈ o, 0 ≤ x ∧ x ≤ 65535) : w16 o = o := by
  unfold w16
  conv => rhs; rw [← List.map_id o]
  exact List.map_congr_left fun x hx => IntWalk.u16_in x (by have := h x hx; omega)
theorem row_go (l : Bs) (last : Bool) (hl : l ≠ []) : rowR l last = if 8 < (splitB 58 l).length then ([], false) else rowGo last (splitB 58 l) [] := by unfold rowR; rw [if_neg hl]
theorem rowR_range (l : Bs) (last : Bool) : w16 (rowR l last).1 = (rowR l last).1 := by
  refine w16_id fun x hx => ?_
  unfold rowR at hx
  split at hx
  · cases hx
  · split at hx
    · cases hx
    · exact rowGo_range last _ [] (fun y hy => by cases hy) x hx
theorem fin_neg (o : List Int) : fin6 o (-1) = if o.length = 8 then (o, true) else wrong6 := by
  unfold fin6
  by_cases h : o.length = 8
  · rw [if_pos ⟨by decide, h⟩, if_pos h]
  · rw [if_neg (fun e => h e.2), if_neg (by omega), if_neg h]
theorem six_ref_none (l : Bs) (hg : gapAt l < 0) : six l = refSix l := by
  have hna := gap_none l 0 (by omega) hg
  have hpre : ¬ Lib.hasPrefix l [58, 58] = true := by
    refine prefix_no ?_
    match l, hna with
    | [], _ => exact .inl (by decide)
    | [c], _ => exact .inr (by show (0 : Int) ≠ 58; decide)
    | c :: d :: r, h =>
      by_cases hc : c = 58
      · right
        intro hd
        exact h.1 ⟨hc, by apply UInt8.toNat_inj.1; have hd' : (d.toNat : Int) = 58 := hd; show d.toNat = 58; omega⟩
      · left
        intro hd
        exact hc (by apply UInt8.toNat_inj.1; have hd' : (c.toNat : Int) = 58 := hd; show c.toNat = 58; omega)
  have hw := walk_end (splitB 58 l) l [] [] (-1) (splitB_ne 58 l) (by rw [jn_split]; rfl) (split_no58 l) (by decide) (fun _ => noGap_split l hna)
  rw [show (9 : Nat) - ([] : List Int).length = 9 from rfl, show ([] : Bs).length = 0 from rfl] at hw
  unfold six
  rw [if_neg hpre, hw]
  unfold refSix
  rw [if_pos hg, rowR_range]
  by_cases hl : l = []
  · subst hl
    have e1 : (rowGo true (splitB 58 []) []).2 = false := by decide +kernel
    rw [endR_no _ _ e1, if_neg (by decide +kernel)]
    rfl
  · rw [row_go l true hl]
    have hlong := rowGo_long true (splitB 58 l) []
    by_cases h8 : 8 < (splitB 58 l).length
    · rw [if_pos h8, if_neg (fun h => by cases h.1)]
      unfold endR
      rw [if_neg]
      · rfl
      · rintro ⟨h1, h2⟩
        have := hlong h1
        rw [List.length_nil] at this h2
        omega
    · rw [if_neg h8]
      unfold endR
      by_cases ho : (rowGo true (splitB 58 l) []).2 = true ∧ (rowGo true (splitB 58 l) []).1.length = 8
      · rw [if_pos ⟨ho.1, by rw [List.length_nil]; omega⟩, if_pos ho, List.nil_append, fin_neg, if_pos ho.2]
      · rw [if_neg ho]
        by_cases h1 : (rowGo true (splitB 58 l) []).2 = true ∧ ([] : List Int).length + (rowGo true (splitB 58 l) []).1.length ≤ 8
        · rw [if_pos h1, List.nil_append, fin_neg, if_neg (fun h => ho ⟨h1.1, h⟩)]
          rfl
        · rw [if_neg h1]; rfl
theorem fin_at (o r : List Int) : fin6 (o ++ r) o.length = if o.length + r.length ≤ 7 then (o ++ List.replicate (8 - (o.length + r.length)) 0 ++ r, true) else wrong6 := by
  by_cases h : o.length + r.length ≤ 7
  · rw [if_pos h, fin_gap o r (by omega)]
  · rw [if_neg h]
    unfold fin6
    rw [if_neg (by omega), if_neg (by rw [List.length_append]; omega)]
theorem endG_eq {l L M : Bs} (hl : l = L ++ 58 :: 58 :: M) (o : List Int) (ho : o.length ≤ 8) : endG l M o (L ++ [58, 58]).length = if (rowR M true).2 = true ∧ o.length + (rowR M true).1.length ≤ 7 then (o ++ List.replicate (8 - (o.length + (rowR M true).1.length)) 0 ++ (rowR M true).1, true) else wrong6 := by
  unfold endG
  by_cases hM : M = []
  · subst hM
    rw [if_pos rfl, show rowR [] true = ([], true) from rfl]
    have := fin_at o []
    rw [List.append_nil] at this
    rw [this]
    by_cases h : o.length + ([] : List Int).length ≤ 7
    · rw [if_pos h, if_pos ⟨rfl, h⟩]
    · rw [if_neg h, if_neg (fun e => h e.2)]
  · rw [if_neg hM, row_go M true hM]
    have hw := walk_end (splitB 58 M) l (L ++ [58, 58]) o o.length (splitB_ne 58 M) (by rw [jn_split, hl]; simp) (split_no58 M) ho (fun h => by omega)
    rw [hw]
    have hlong := rowGo_long true (splitB 58 M) []
    rw [List.length_nil] at hlong
    unfold endR
    by_cases h8 : 8 < (splitB 58 M).length
    · rw [if_pos h8, if_neg, if_neg (fun h => by cases h.1)]
      rintro ⟨h1, h2⟩
      have := hlong h1
      omega
    · rw [if_neg h8]
      by_cases h1 : (rowGo true (splitB 58 M) []).2 = true ∧ o.length + (rowGo true (splitB 58 M) []).1.length ≤ 8
      · rw [if_pos h1, fin_at]
        by_cases h7 : o.length + (rowGo true (splitB 58 M) []).1.length ≤ 7
        · rw [if_pos h7, if_pos ⟨h1.1, h7⟩]
        · rw [if_neg h7, if_neg (fun h => h7 h.2)]
      · rw [if_neg h1, if_neg (fun h => h1 ⟨h.1, by omega⟩)]
theorem six_ref_some (l : Bs) (hg : ¬ gapAt l < 0) : six l = refSix l := by
  obtain ⟨k, M, h1, h2, h3, h4, h5⟩ := gap_some l 0 (by omega) (by show 0 ≤ gapAt l; omega)
  have hk : gapAt l = (k : Int) := by show gapF l 0 = _; rw [h1]; omega
  have hA : takeZ l (gapAt l) = l.take k := by unfold takeZ; rw [hk, Int.toNat_natCast]
  have hB : dropZ l (gapAt l + 2) = M := by unfold dropZ; rw [hk, show ((k : Int) + 2).toNat = k + 2 by omega]; exact h3
  have hR : refSix l = if ((rowR (l.take k) false).2 = true ∧ (rowR M true).2 = true) ∧ (rowR (l.take k) false).1.length + (rowR M true).1.length ≤ 7 then
      ((rowR (l.take k) false).1 ++ List.replicate (8 - ((rowR (l.take k) false).1.length + (rowR M true).1.length)) 0 ++ (rowR M true).1, true) else wrong6 := by
    unfold refSix
    rw [if_neg hg, hA, hB, rowR_range, rowR_range]
    rfl
  rw [hR]
  clear hR
  generalize hL : l.take k = L at *
  by_cases hLe : L = []
  · subst hLe
    rw [List.nil_append] at h2
    have e : six l = endG l M [] ([] ++ [58, 58] : Bs).length := by
      unfold six endG
      rw [if_pos (by rw [h2]; unfold Lib.hasPrefix; simp [List.isPrefixOf])]
      by_cases hM : M = []
      · rw [if_pos (by rw [h2, hM]; rfl), if_pos hM]; rfl
      · have := List.length_pos_iff.2 hM
        rw [if_neg (by rw [h2]; show ¬ (M.length + 1 + 1 = 2); omega), if_neg hM]; rfl
    rw [e, endG_eq (L := []) h2 [] (by decide), show rowR [] false = ([], true) from rfl]
    by_cases hc : (rowR M true).2 = true ∧ ([] : List Int).length + (rowR M true).1.length ≤ 7
    · rw [if_pos hc, if_pos ⟨⟨rfl, hc.1⟩, hc.2⟩]
    · rw [if_neg hc, if_neg (fun h => hc ⟨h.1.2, h.2⟩)]
  · have hpre : ¬ Lib.hasPrefix l [58, 58] = true := by
      refine prefix_no ?_
      rw [h2]
      match L, hLe, h5 with
      | [c], _, h5 =>
        left; intro hd
        exact h5.1 ⟨by apply UInt8.toNat_inj.1; have hd' : (c.toNat : Int) = 58 := hd; show c.toNat = 58; omega, rfl⟩
      | c :: d :: r, _, h5 =>
        by_cases hc : c = 58
        · right; intro hd
          exact h5.1 ⟨hc, by apply UInt8.toNat_inj.1; have hd' : (d.toNat : Int) = 58 := hd; show d.toNat = 58; omega⟩
        · left; intro hd
          exact hc (by apply UInt8.toNat_inj.1; have hd' : (c.toNat : Int) = 58 := hd; show c.toNat = 58; omega)
    have htl : ∀ q ∈ (splitB 58 L).tail, q ≠ [] := by
      refine noGap_tail _ ?_
      have := noGap_split _ h5
      rw [splitB_joins 58 58 rfl [] L] at this
      exact this
    have hw := walk_gap M (splitB 58 L) l [] [] (-1) (splitB_ne 58 L) (by rw [jn_split]; exact h2) (split_no58 L) (by decide) (by decide) htl
    rw [show (9 : Nat) - ([] : List Int).length = 9 from rfl, show ([] : Bs).length = 0 from rfl, jn_split, List.nil_append, List.nil_append] at hw
    unfold six
    rw [if_neg hpre, hw, row_go L false hLe]
    have hlong := rowGo_long false (splitB 58 L) []
    rw [List.length_nil] at hlong
    have e0 : ([] : List Int).length = 0 := rfl
    by_cases h8 : 8 < (splitB 58 L).length
    · rw [if_pos h8, if_neg, if_neg (fun h => by cases h.1.1)]
      rintro ⟨g1, g2⟩
      have := hlong g1
      omega
    · rw [if_neg h8]
      by_cases hc : (rowGo false (splitB 58 L) []).2 = true ∧ ([] : List Int).length + (rowGo false (splitB 58 L) []).1.length ≤ 8
      · rw [if_pos hc, endG_eq h2 _ (by omega)]
        by_cases hd : (rowR M true).2 = true ∧ (rowGo false (splitB 58 L) []).1.length + (rowR M true).1.length ≤ 7
        · rw [if_pos hd, if_pos ⟨⟨hc.1, hd.1⟩, hd.2⟩]
        · rw [if_neg hd, if_neg (fun h => hd ⟨h.1.2, h.2⟩)]
      · rw [if_neg hc, if_neg (fun h => hc ⟨h.1.1, by omega⟩)]
theorem six_ref (l : Bs) : six l = refSix l := by
  by_cases h : gapAt l < 0
  · exact six_ref_none l h
  · exact six_ref_some l h
end Go.Proofs.YtaphadmcjimmeaaGreatDoor
