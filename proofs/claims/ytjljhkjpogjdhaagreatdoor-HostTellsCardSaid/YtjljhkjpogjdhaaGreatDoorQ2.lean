/- What the proof needs, part 2. -/
import Derived.Test.YtjljhkjpogjdhaaGreatDoorR3
import Derived.Test.YtjljhkjpogjdhaaGreatDoorProg
import Derived.ProofKit
import Derived.Test.YtjljhkjpogjdhaaGreatDoorQ1
/- The function gossamer/gossamerref9.Parse does what is told of it. -/
section
set_option linter.unusedVariables false
set_option linter.unusedSimpArgs false
set_option maxRecDepth 100000
set_option maxHeartbeats 4000000
namespace Go.Proofs.YtjljhkjpogjdhaaGreatDoor
open Go Go.Proofs Go.RowKit Go.Vc

def gapF : Bs → Int → Int
  | c :: d :: r, i => if c = 58 ∧ d = 58 then i else gapF (d :: r) (i + 1)
  | _, _ => -1
def gapAt (l : Bs) : Int := gapF l 0
def w16 (l : List Int) : List Int := l.map fun z => IntKind.u16.wrap z
def refSix (l : Bs) : List Int × Bool := if gapAt l < 0 then (if (rowR l true).2 = true ∧ (rowR l true).1.length = 8 then (w16 (rowR l true).1, true) else (List.replicate 8 0, false))
  else if ((rowR (takeZ l (gapAt l)) false).2 = true ∧ (rowR (dropZ l (gapAt l + 2)) true).2 = true) ∧ (rowR (takeZ l (gapAt l)) false).1.length + (rowR (dropZ l (gapAt l + 2)) true).1.length ≤ 7 then
    (w16 (rowR (takeZ l (gapAt l)) false).1 ++ List.replicate (8 - ((rowR (takeZ l (gapAt l)) false).1.length + (rowR (dropZ l (gapAt l + 2)) true).1.length)) 0 ++ w16 (rowR (dropZ l (gapAt l + 2)) true).1, true) else (List.replicate 8 0, false)
def GapI (l : Bs) (at' i : Int) : Prop := 0 ≤ i ∧ i ≤ l.length ∧ ((at' = -1 ∧ gapF (l.drop i.toNat) i = gapAt l) ∨ (0 ≤ at' ∧ at' + 2 ≤ l.length ∧ at' = gapAt l))
def LayI (r : List Int) (p0 p : List Int) (from' i : Int) : Prop := 0 ≤ i ∧ i ≤ r.length ∧ p = p0.take from'.toNat ++ (w16 r).take i.toNat ++ p0.drop (from'.toNat + i.toNat)
theorem lay_zero (r p0 : List Int) (f : Int) : LayI r p0 p0 f 0 := ⟨by omega, by omega, by
  rw [show Int.toNat 0 = 0 from rfl, List.take_zero, List.append_nil, Nat.add_zero, List.take_append_drop]⟩
theorem w16_len (r : List Int) : (w16 r).length = r.length := List.length_map _
theorem lay_step {r p0 p : List Int} {f i : Int} (h : LayI r p0 p f i) (hi : i < (r.length : Int)) (hf : 0 ≤ f) (hl : f + r.length ≤ (p0.length : Int)) : LayI r p0 (setZ p (f + i) (IntKind.u16.wrap (intZ r i))) f (i + 1) := by
  obtain ⟨h0, h1, h2⟩ := h
  refine ⟨by omega, by omega, ?_⟩
  have hln : (p0.take f.toNat ++ (w16 r).take i.toNat).length = (f + i).toNat := by
    rw [List.length_append, List.length_take, List.length_take, w16_len]; omega
  have hv : (w16 r)[i.toNat]? = some (IntKind.u16.wrap (intZ r i)) := by
    unfold w16 intZ
    rw [List.getElem?_map, List.getElem?_eq_getElem (by omega), List.getD_eq_getElem?_getD, List.getElem?_eq_getElem (by omega)]
    rfl
  have hw : (w16 r).take (i + 1).toNat = (w16 r).take i.toNat ++ [IntKind.u16.wrap (intZ r i)] := by
    rw [show (i + 1).toNat = i.toNat + 1 by omega, List.take_add_one, hv]
    rfl
  unfold setZ
  rw [h2, hw, List.set_append_right _ _ (by omega), hln, Nat.sub_self, List.drop_eq_getElem_cons (by omega), List.set_cons_zero, show f.toNat + (i + 1).toNat = f.toNat + i.toNat + 1 by omega]
  simp
theorem lay_end {r p0 p : List Int} {f i : Int} (h : LayI r p0 p f i) (hi : ¬ i < (r.length : Int)) : p = p0.take f.toNat ++ w16 r ++ p0.drop (f.toNat + r.length) := by
  obtain ⟨h0, h1, h2⟩ := h
  rw [h2, show i.toNat = r.length by omega, ← w16_len r, List.take_length]
theorem rowGo_len (last : Bool) : ∀ (ps : List Bs) (o : List Int), (rowGo last ps o).1.length ≤ o.length + 2 * ps.length
  | [], o => by unfold rowGo; simp
  | p :: ps, o => by
    unfold rowGo
    split
    · have e : (o ++ [(fourR p).1, (fourR p).2.1]).length = o.length + 2 := by simp
      rw [e, List.length_cons]; omega
    · split
      · have := rowGo_len last ps (o ++ [(pieceR p).1])
        rw [List.length_append, List.length_singleton] at this
        rw [List.length_cons]; omega
      · rw [List.length_cons]; show o.length ≤ _; omega
theorem rowR_len (l : Bs) (last : Bool) : (rowR l last).1.length ≤ 2 * (l.length + 1) := by
  unfold rowR
  split
  · simp
  · split
    · simp
    · have h1 := rowGo_len last (splitB 58 l) []
      have h2 := (splitB_len 58 l).1
      rw [List.length_nil] at h1
      omega
theorem gap_step {l : Bs} {i : Int} (h0 : 0 ≤ i) (h1 : i + 1 < (l.length : Int)) : gapF (l.drop i.toNat) i = if byteZ l i = 58 ∧ byteZ l (i + 1) = 58 then i else gapF (l.drop (i + 1).toNat) (i + 1) := by
  have e2 : l.drop (i + 1).toNat = l.getD (i + 1).toNat 0 :: l.drop ((i + 1).toNat + 1) := drop_one (by omega) h1
  rw [drop_one h0 (by omega), show i.toNat + 1 = (i + 1).toNat by omega, e2, gapF]
  have e : ∀ c : UInt8, ((c.toNat : Int) = 58) = (c = 58) := fun c => by
    apply propext
    constructor
    · intro h; apply UInt8.toNat_inj.1; show c.toNat = 58; omega
    · intro h; rw [h]; rfl
  unfold byteZ
  simp only [e]
theorem gap_end {l : Bs} {i : Int} (h0 : 0 ≤ i) (h1 : ¬ i + 1 < (l.length : Int)) : gapF (l.drop i.toNat) i = -1 := by
  have : (l.drop i.toNat).length ≤ 1 := by rw [List.length_drop]; omega
  match l.drop i.toNat, this with
  | [], _ => rfl
  | [_], _ => rfl

def X_rparse : Tbl := tblX [(43, ent_row)]
def H_rparse (l : Bs) : Loops := fun i => bif Nat.beq i 4 then some ⟨(Int) × (Int), (fun s x => ((((s.put 5 (.int .i64 x.1)).put 6 (.int .i64 x.2)).put 24 .undef).put 37 .undef)), (fun s => (s.int 5, s.int 6)), (fun s x => let a := x.1; let i := x.2; GapI l a i), (fun s x => let a := x.1; let i := x.2; ((l.length : Int) + 1 - i).toNat), [24, 37]⟩ else bif Nat.beq i 13 then some ⟨(List Int) × (Int), (fun s x => (((VS.mk s.loc s.env (setN 36 (.arr 8 (.ints .u16 x.1)) s.lh)).put 9 (.int .i64 x.2)).put 55 .undef)), (fun s => (VS.ints (VS.mk [] s.lh []) 36, s.int 9)), (fun s x => let p := x.1; let i := x.2; 0 ≤ i ∧ i ≤ 8 ∧ LayI (s.ints 7) (List.replicate 8 0) p 0 i), (fun s x => let p := x.1; let i := x.2; (8 - i).toNat), [55]⟩ else bif Nat.beq i 22 then some ⟨(List Int) × (Int), (fun s x => (((VS.mk s.loc s.env (setN 36 (.arr 8 (.ints .u16 x.1)) s.lh)).put 14 (.int .i64 x.2)).put 99 .undef)), (fun s => (VS.ints (VS.mk [] s.lh []) 36, s.int 14)), (fun s x => let p := x.1; let i := x.2; LayI (s.ints 10) (List.replicate 8 0) p 0 i), (fun s x => let p := x.1; let i := x.2; ((s.ints 10).length + 1 - i : Int).toNat), [99]⟩ else bif Nat.beq i 26 then some ⟨(List Int) × (Int), (fun s x => (((VS.mk s.loc s.env (setN 36 (.arr 8 (.ints .u16 x.1)) s.lh)).put 15 (.int .i64 x.2)).put 112 .undef)), (fun s => (VS.ints (VS.mk [] s.lh []) 36, s.int 15)), (fun s x => let p := x.1; let i := x.2; LayI (s.ints 12) (VS.ints (VS.mk [] s.lh []) 36) p (8 - (s.ints 12).length) i), (fun s x => let p := x.1; let i := x.2; ((s.ints 12).length + 1 - i : Int).toNat), [112]⟩ else none
theorem X_rparse_ok : XOk Tryz.prog noT X_rparse := tblX_cons ent_row_ok (tblX_nil)
theorem vc_rparse (l : Bs) (k : PV → Prop) : evF Tryz.prog X_rparse noT (H_rparse l) 1000 Tryz.f17 [.str l] k = (
  VS.mk []
 [(nat_lit 0, PV.str l), (nat_lit 2, PV.ptr ((2 : Nat) + (32 : Nat)) (0 : Nat)), (nat_lit 3, PV.bool false),
 (nat_lit 4, PV.ptr ((4 : Nat) + (32 : Nat)) (0 : Nat)), (nat_lit 5, PV.int Go.IntKind.i64 (-1 : Int)),
 (nat_lit 6, PV.int Go.IntKind.i64 (0 : Int)), (nat_lit 7, PV.undef), (nat_lit 8, PV.undef), (nat_lit 9, PV.undef),
 (nat_lit 10, PV.undef), (nat_lit 11, PV.undef), (nat_lit 12, PV.undef), (nat_lit 13, PV.undef), (nat_lit 14, PV.undef),
 (nat_lit 15, PV.undef), ((24 : Nat), PV.undef), ((37 : Nat), PV.undef), (nat_lit 40, PV.undef), (nat_lit 52, PV.undef),
 (nat_lit 55, PV.undef), (nat_lit 94, PV.undef), (nat_lit 99, PV.undef), (nat_lit 112, PV.undef)]
 [((4 : Nat) + (32 : Nat), PV.arr (8 : Nat) (BRow.ints Go.IntKind.u16 (List.replicate (8 : Nat) (0 : Int)))),
 ((2 : Nat) + (32 : Nat), PV.arr (8 : Nat) (BRow.ints Go.IntKind.u16 (List.replicate (8 : Nat) (0 : Int))))] =
 VS.mk []
 [(nat_lit 0, PV.str l), (nat_lit 2, PV.ptr ((2 : Nat) + (32 : Nat)) (0 : Nat)), (nat_lit 3, PV.bool false),
 (nat_lit 4, PV.ptr ((4 : Nat) + (32 : Nat)) (0 : Nat)), ((5 : Nat), PV.int Go.IntKind.i64 (-1 : Int)),
 ((6 : Nat), PV.int Go.IntKind.i64 (0 : Int)), (nat_lit 7, PV.undef), (nat_lit 8, PV.undef), (nat_lit 9, PV.undef),
 (nat_lit 10, PV.undef), (nat_lit 11, PV.undef), (nat_lit 12, PV.undef), (nat_lit 13, PV.undef), (nat_lit 14, PV.undef),
 (nat_lit 15, PV.undef), ((24 : Nat), PV.undef), ((37 : Nat), PV.undef), (nat_lit 40, PV.undef), (nat_lit 52, PV.undef),
 (nat_lit 55, PV.undef), (nat_lit 94, PV.undef), (nat_lit 99, PV.undef), (nat_lit 112, PV.undef)]
 [((4 : Nat) + (32 : Nat), PV.arr (8 : Nat) (BRow.ints Go.IntKind.u16 (List.replicate (8 : Nat) (0 : Int)))),
 ((2 : Nat) + (32 : Nat), PV.arr (8 : Nat) (BRow.ints Go.IntKind.u16 (List.replicate (8 : Nat) (0 : Int))))] ∧
 GapI l (-1 : Int) (0 : Int) ∧
 ∀ (x : Int × Int),
 GapI l x.fst x.snd →
 inI64 (x.snd + (1 : Int)) ∧
 ((bif decide (x.snd + (1 : Int) < lenZ l) then decide (x.fst < (0 : Int)) else false) = true →
 within x.snd (lenZ l) ∧
 (decide (byteZ l x.snd = (58 : Int)) = true → inI64 (x.snd + (1 : Int))) ∧
 (decide (byteZ l x.snd = (58 : Int)) = true → within (x.snd + (1 : Int)) (lenZ l)) ∧
 ((bif decide (byteZ l x.snd = (58 : Int)) then decide (byteZ l (x.snd + (1 : Int)) = (58 : Int)) else false) = true →
 inI64 (x.snd + (1 : Int)) ∧
 VS.mk []
 [(nat_lit 0, PV.str l), (nat_lit 2, PV.ptr ((2 : Nat) + (32 : Nat)) (0 : Nat)), (nat_lit 3, PV.bool false),
 (nat_lit 4, PV.ptr ((4 : Nat) + (32 : Nat)) (0 : Nat)), ((5 : Nat), PV.int Go.IntKind.i64 x.snd),
 ((6 : Nat), PV.int Go.IntKind.i64 (x.snd + (1 : Int))), (nat_lit 7, PV.undef), (nat_lit 8, PV.undef),
 (nat_lit 9, PV.undef), (nat_lit 10, PV.undef), (nat_lit 11, PV.undef), (nat_lit 12, PV.undef),
 (nat_lit 13, PV.undef), (nat_lit 14, PV.undef), (nat_lit 15, PV.undef), ((24 : Nat), PV.undef),
 ((37 : Nat), PV.undef), (nat_lit 40, PV.undef), (nat_lit 52, PV.undef), (nat_lit 55, PV.undef),
 (nat_lit 94, PV.undef), (nat_lit 99, PV.undef), (nat_lit 112, PV.undef)]
 [((4 : Nat) + (32 : Nat), PV.arr (8 : Nat) (BRow.ints Go.IntKind.u16 (List.replicate (8 : Nat) (0 : Int)))),
 ((2 : Nat) + (32 : Nat), PV.arr (8 : Nat) (BRow.ints Go.IntKind.u16 (List.replicate (8 : Nat) (0 : Int))))] =
 VS.mk []
 [(nat_lit 0, PV.str l), (nat_lit 2, PV.ptr ((2 : Nat) + (32 : Nat)) (0 : Nat)), (nat_lit 3, PV.bool false),
 (nat_lit 4, PV.ptr ((4 : Nat) + (32 : Nat)) (0 : Nat)), ((5 : Nat), PV.int Go.IntKind.i64 x.snd),
 ((6 : Nat), PV.int Go.IntKind.i64 (x.snd + (1 : Int))), (nat_lit 7, PV.undef), (nat_lit 8, PV.undef),
 (nat_lit 9, PV.undef), (nat_lit 10, PV.undef), (nat_lit 11, PV.undef), (nat_lit 12, PV.undef),
 (nat_lit 13, PV.undef), (nat_lit 14, PV.undef), (nat_lit 15, PV.undef), ((24 : Nat), PV.undef),
 ((37 : Nat), PV.undef), (nat_lit 40, PV.undef), (nat_lit 52, PV.undef), (nat_lit 55, PV.undef),
 (nat_lit 94, PV.undef), (nat_lit 99, PV.undef), (nat_lit 112, PV.undef)]
 [((4 : Nat) + (32 : Nat), PV.arr (8 : Nat) (BRow.ints Go.IntKind.u16 (List.replicate (8 : Nat) (0 : Int)))),
 ((2 : Nat) + (32 : Nat), PV.arr (8 : Nat) (BRow.ints Go.IntKind.u16 (List.replicate (8 : Nat) (0 : Int))))] ∧
 GapI l x.snd (x.snd + (1 : Int)) ∧
 (↑(List.length l) + (1 : Int) - (x.snd + (1 : Int))).toNat < (↑(List.length l) + (1 : Int) - x.snd).toNat) ∧
 ((bif decide (byteZ l x.snd = (58 : Int)) then decide (byteZ l (x.snd + (1 : Int)) = (58 : Int)) else false) = false →
 inI64 (x.snd + (1 : Int)) ∧
 VS.mk []
 [(nat_lit 0, PV.str l), (nat_lit 2, PV.ptr ((2 : Nat) + (32 : Nat)) (0 : Nat)), (nat_lit 3, PV.bool false),
 (nat_lit 4, PV.ptr ((4 : Nat) + (32 : Nat)) (0 : Nat)), ((5 : Nat), PV.int Go.IntKind.i64 x.fst),
 ((6 : Nat), PV.int Go.IntKind.i64 (x.snd + (1 : Int))), (nat_lit 7, PV.undef), (nat_lit 8, PV.undef),
 (nat_lit 9, PV.undef), (nat_lit 10, PV.undef), (nat_lit 11, PV.undef), (nat_lit 12, PV.undef),
 (nat_lit 13, PV.undef), (nat_lit 14, PV.undef), (nat_lit 15, PV.undef), ((24 : Nat), PV.undef),
 ((37 : Nat), PV.undef), (nat_lit 40, PV.undef), (nat_lit 52, PV.undef), (nat_lit 55, PV.undef),
 (nat_lit 94, PV.undef), (nat_lit 99, PV.undef), (nat_lit 112, PV.undef)]
 [((4 : Nat) + (32 : Nat), PV.arr (8 : Nat) (BRow.ints Go.IntKind.u16 (List.replicate (8 : Nat) (0 : Int)))),
 ((2 : Nat) + (32 : Nat), PV.arr (8 : Nat) (BRow.ints Go.IntKind.u16 (List.replicate (8 : Nat) (0 : Int))))] =
 VS.mk []
 [(nat_lit 0, PV.str l), (nat_lit 2, PV.ptr ((2 : Nat) + (32 : Nat)) (0 : Nat)), (nat_lit 3, PV.bool false),
 (nat_lit 4, PV.ptr ((4 : Nat) + (32 : Nat)) (0 : Nat)), ((5 : Nat), PV.int Go.IntKind.i64 x.fst),
 ((6 : Nat), PV.int Go.IntKind.i64 (x.snd + (1 : Int))), (nat_lit 7, PV.undef), (nat_lit 8, PV.undef),
 (nat_lit 9, PV.undef), (nat_lit 10, PV.undef), (nat_lit 11, PV.undef), (nat_lit 12, PV.undef),
 (nat_lit 13, PV.undef), (nat_lit 14, PV.undef), (nat_lit 15, PV.undef), ((24 : Nat), PV.undef),
 ((37 : Nat), PV.undef), (nat_lit 40, PV.undef), (nat_lit 52, PV.undef), (nat_lit 55, PV.undef),
 (nat_lit 94, PV.undef), (nat_lit 99, PV.undef), (nat_lit 112, PV.undef)]
 [((4 : Nat) + (32 : Nat), PV.arr (8 : Nat) (BRow.ints Go.IntKind.u16 (List.replicate (8 : Nat) (0 : Int)))),
 ((2 : Nat) + (32 : Nat), PV.arr (8 : Nat) (BRow.ints Go.IntKind.u16 (List.replicate (8 : Nat) (0 : Int))))] ∧
 GapI l x.fst (x.snd + (1 : Int)) ∧
 (↑(List.length l) + (1 : Int) - (x.snd + (1 : Int))).toNat < (↑(List.length l) + (1 : Int) - x.snd).toNat)) ∧
 ((bif decide (x.snd + (1 : Int) < lenZ l) then decide (x.fst < (0 : Int)) else false) = false →
 (decide (x.fst < (0 : Int)) = true →
 (List.length l).le (1000 : Nat) ∧
 ((bif !(rowR l true).snd then true
 else !decide (Int.ofNat (rowR l true).fst.length = (8 : Int))) =
 true →
 k (PV.tup [PV.arr (8 : Nat) (BRow.ints Go.IntKind.u16 (List.replicate (8 : Nat) (0 : Int))), PV.bool false])) ∧
 ((bif !(rowR l true).snd then true
 else !decide (Int.ofNat (rowR l true).fst.length = (8 : Int))) =
 false →
 VS.mk []
 [(nat_lit 0, PV.str l), (nat_lit 2, PV.ptr ((2 : Nat) + (32 : Nat)) (0 : Nat)), (nat_lit 3, PV.bool false),
 (nat_lit 4, PV.ptr ((4 : Nat) + (32 : Nat)) (0 : Nat)), ((5 : Nat), PV.int Go.IntKind.i64 x.fst),
 ((6 : Nat), PV.int Go.IntKind.i64 x.snd),
 (nat_lit 7,
 PV.row (decide ((rowR l true).fst = []))
 (BRow.ints Go.IntKind.i64 (rowR l true).fst) (0 : Nat)),
 (nat_lit 8, PV.bool (rowR l true).snd),
 (nat_lit 9, PV.int Go.IntKind.i64 (0 : Int)), (nat_lit 10, PV.undef), (nat_lit 11, PV.undef),
 (nat_lit 12, PV.undef), (nat_lit 13, PV.undef), (nat_lit 14, PV.undef), (nat_lit 15, PV.undef),
 ((24 : Nat), PV.bool (bif decide (x.snd + (1 : Int) < lenZ l) then decide (x.fst < (0 : Int)) else false)),
 ((37 : Nat), PV.undef), (nat_lit 40, PV.bool (decide (x.fst < (0 : Int)))),
 (nat_lit 52,
 PV.bool
 (bif !(rowR l true).snd then true
 else !decide (Int.ofNat (rowR l true).fst.length = (8 : Int)))),
 ((55 : Nat), PV.undef), (nat_lit 94, PV.undef), (nat_lit 99, PV.undef), (nat_lit 112, PV.undef)]
 [((4 : Nat) + (32 : Nat), PV.arr (8 : Nat) (BRow.ints Go.IntKind.u16 (List.replicate (8 : Nat) (0 : Int)))),
 ((2 : Nat) + (32 : Nat), PV.arr (8 : Nat) (BRow.ints Go.IntKind.u16 (List.replicate (8 : Nat) (0 : Int))))] =
 VS.mk []
 [(nat_lit 0, PV.str l), (nat_lit 2, PV.ptr ((2 : Nat) + (32 : Nat)) (0 : Nat)), (nat_lit 3, PV.bool false),
 (nat_lit 4, PV.ptr ((4 : Nat) + (32 : Nat)) (0 : Nat)), ((5 : Nat), PV.int Go.IntKind.i64 x.fst),
 ((6 : Nat), PV.int Go.IntKind.i64 x.snd),
 (nat_lit 7,
 PV.row (decide ((rowR l true).fst = []))
 (BRow.ints Go.IntKind.i64 (rowR l true).fst) (0 : Nat)),
 (nat_lit 8, PV.bool (rowR l true).snd),
 ((9 : Nat), PV.int Go.IntKind.i64 (0 : Int)), (nat_lit 10, PV.undef), (nat_lit 11, PV.undef),
 (nat_lit 12, PV.undef), (nat_lit 13, PV.undef), (nat_lit 14, PV.undef), (nat_lit 15, PV.undef),
 ((24 : Nat), PV.bool (bif decide (x.snd + (1 : Int) < lenZ l) then decide (x.fst < (0 : Int)) else false)),
 ((37 : Nat), PV.undef), (nat_lit 40, PV.bool (decide (x.fst < (0 : Int)))),
 (nat_lit 52,
 PV.bool
 (bif !(rowR l true).snd then true
 else !decide (Int.ofNat (rowR l true).fst.length = (8 : Int)))),
 ((55 : Nat), PV.undef), (nat_lit 94, PV.undef), (nat_lit 99, PV.undef), (nat_lit 112, PV.undef)]
 [((36 : Nat), PV.arr (8 : Nat) (BRow.ints Go.IntKind.u16 (List.replicate (8 : Nat) (0 : Int)))),
 ((2 : Nat) + (32 : Nat), PV.arr (8 : Nat) (BRow.ints Go.IntKind.u16 (List.replicate (8 : Nat) (0 : Int))))] ∧
 ((0 : Int) ≤ (0 : Int) ∧
 (0 : Int) ≤ (8 : Int) ∧
 LayI (rowR l true).fst
 (List.replicate (8 : Nat) (0 : Int)) (List.replicate (8 : Nat) (0 : Int)) (0 : Int) (0 : Int)) ∧
 ∀ (x_1 : List Int × Int),
 (0 : Int) ≤ x_1.snd ∧
 x_1.snd ≤ (8 : Int) ∧
 LayI (rowR l true).fst
 (List.replicate (8 : Nat) (0 : Int)) x_1.fst (0 : Int) x_1.snd →
 (decide (x_1.snd < (8 : Int)) = true →
 within x_1.snd (Int.ofNat (rowR l true).fst.length) ∧
 within x_1.snd ↑(8 : Nat) ∧
 (within x_1.snd ↑(8 : Nat) ∧ True) ∧
 inI64 (x_1.snd + (1 : Int)) ∧
 VS.mk []
 [(nat_lit 0, PV.str l), (nat_lit 2, PV.ptr ((2 : Nat) + (32 : Nat)) (0 : Nat)),
 (nat_lit 3, PV.bool false), (nat_lit 4, PV.ptr ((4 : Nat) + (32 : Nat)) (0 : Nat)),
 ((5 : Nat), PV.int Go.IntKind.i64 x.fst), ((6 : Nat), PV.int Go.IntKind.i64 x.snd),
 (nat_lit 7,
 PV.row (decide ((rowR l true).fst = []))
 (BRow.ints Go.IntKind.i64 (rowR l true).fst) (0 : Nat)),
 (nat_lit 8, PV.bool (rowR l true).snd),
 ((9 : Nat), PV.int Go.IntKind.i64 (x_1.snd + (1 : Int))), (nat_lit 10, PV.undef),
 (nat_lit 11, PV.undef), (nat_lit 12, PV.undef), (nat_lit 13, PV.undef),
 (nat_lit 14, PV.undef), (nat_lit 15, PV.undef),
 ((24 : Nat),
 PV.bool (bif decide (x.snd + (1 : Int) < lenZ l) then decide (x.fst < (0 : Int)) else false)),
 ((37 : Nat), PV.undef), (nat_lit 40, PV.bool (decide (x.fst < (0 : Int)))),
 (nat_lit 52,
 PV.bool
 (bif !(rowR l true).snd then true
 else !decide (Int.ofNat (rowR l true).fst.length = (8 : Int)))),
 ((55 : Nat), PV.undef), (nat_lit 94, PV.undef), (nat_lit 99, PV.undef),
 (nat_lit 112, PV.undef)]
 [((4 : Nat) + (32 : Nat),
 PV.arr (8 : Nat)
 (BRow.ints Go.IntKind.u16
 (setZ x_1.fst x_1.snd
 (Go.IntKind.u16.wrap (intZ (rowR l true).fst x_1.snd))))),
 ((2 : Nat) + (32 : Nat),
 PV.arr (8 : Nat) (BRow.ints Go.IntKind.u16 (List.replicate (8 : Nat) (0 : Int))))] =
 VS.mk []
 [(nat_lit 0, PV.str l), (nat_lit 2, PV.ptr ((2 : Nat) + (32 : Nat)) (0 : Nat)),
 (nat_lit 3, PV.bool false), (nat_lit 4, PV.ptr ((4 : Nat) + (32 : Nat)) (0 : Nat)),
 ((5 : Nat), PV.int Go.IntKind.i64 x.fst), ((6 : Nat), PV.int Go.IntKind.i64 x.snd),
 (nat_lit 7,
 PV.row (decide ((rowR l true).fst = []))
 (BRow.ints Go.IntKind.i64 (rowR l true).fst) (0 : Nat)),
 (nat_lit 8, PV.bool (rowR l true).snd),
 ((9 : Nat), PV.int Go.IntKind.i64 (x_1.snd + (1 : Int))), (nat_lit 10, PV.undef),
 (nat_lit 11, PV.undef), (nat_lit 12, PV.undef), (nat_lit 13, PV.undef),
 (nat_lit 14, PV.undef), (nat_lit 15, PV.undef),
 ((24 : Nat),
 PV.bool (bif decide (x.snd + (1 : Int) < lenZ l) then decide (x.fst < (0 : Int)) else false)),
 ((37 : Nat), PV.undef), (nat_lit 40, PV.bool (decide (x.fst < (0 : Int)))),
 (nat_lit 52,
 PV.bool
 (bif !(rowR l true).snd then true
 else !decide (Int.ofNat (rowR l true).fst.length = (8 : Int)))),
 ((55 : Nat), PV.undef), (nat_lit 94, PV.undef), (nat_lit 99, PV.undef),
 (nat_lit 112, PV.undef)]
 [((36 : Nat),
 PV.arr (8 : Nat)
 (BRow.ints Go.IntKind.u16
 (setZ x_1.fst x_1.snd
 (Go.IntKind.u16.wrap (intZ (rowR l true).fst x_1.snd))))),
 ((2 : Nat) + (32 : Nat),
 PV.arr (8 : Nat) (BRow.ints Go.IntKind.u16 (List.replicate (8 : Nat) (0 : Int))))] ∧
 ((0 : Int) ≤ x_1.snd + (1 : Int) ∧
 x_1.snd + (1 : Int) ≤ (8 : Int) ∧
 LayI (rowR l true).fst
 (List.replicate (8 : Nat) (0 : Int))
 (setZ x_1.fst x_1.snd
 (Go.IntKind.u16.wrap (intZ (rowR l true).fst x_1.snd)))
 (0 : Int) (x_1.snd + (1 : Int))) ∧
 ((8 : Int) - (x_1.snd + (1 : Int))).toNat < ((8 : Int) - x_1.snd).toNat) ∧
 (decide (x_1.snd < (8 : Int)) = false →
 k (PV.tup [PV.arr (8 : Nat) (BRow.ints Go.IntKind.u16 x_1.fst), PV.bool true])))) ∧
 (decide (x.fst < (0 : Int)) = false →
 upto (0 : Int) x.fst (lenZ l) ∧
 (takeZ l x.fst).length.le (1000 : Nat) ∧
 inI64 (x.fst + (2 : Int)) ∧
 upto (x.fst + (2 : Int)) (lenZ l) (lenZ l) ∧
 (dropZ l (x.fst + (2 : Int))).length.le (1000 : Nat) ∧
 ((bif !(rowR (takeZ l x.fst) false).snd then true
 else !(rowR (dropZ l (x.fst + (2 : Int))) true).snd) =
 false →
 inI64
 (Int.ofNat (rowR (takeZ l x.fst) false).fst.length +
 Int.ofNat (rowR (dropZ l (x.fst + (2 : Int))) true).fst.length)) ∧
 ((bif
 bif !(rowR (takeZ l x.fst) false).snd then true
 else !(rowR (dropZ l (x.fst + (2 : Int))) true).snd then
 true
 else
 decide
 ((7 : Int) <
 Int.ofNat (rowR (takeZ l x.fst) false).fst.length +
 Int.ofNat (rowR (dropZ l (x.fst + (2 : Int))) true).fst.length)) =
 true →
 k
 (PV.tup
 [PV.arr (8 : Nat) (BRow.ints Go.IntKind.u16 (List.replicate (8 : Nat) (0 : Int))), PV.bool false])) ∧
 ((bif
 bif !(rowR (takeZ l x.fst) false).snd then true
 else !(rowR (dropZ l (x.fst + (2 : Int))) true).snd then
 true
 else
 decide
 ((7 : Int) <
 Int.ofNat (rowR (takeZ l x.fst) false).fst.length +
 Int.ofNat (rowR (dropZ l (x.fst + (2 : Int))) true).fst.length)) =
 false →
 VS.mk []
 [(nat_lit 0, PV.str l), (nat_lit 2, PV.ptr ((2 : Nat) + (32 : Nat)) (0 : Nat)),
 (nat_lit 3, PV.bool false), (nat_lit 4, PV.ptr ((4 : Nat) + (32 : Nat)) (0 : Nat)),
 ((5 : Nat), PV.int Go.IntKind.i64 x.fst), ((6 : Nat), PV.int Go.IntKind.i64 x.snd),
 (nat_lit 7, PV.undef), (nat_lit 8, PV.undef), (nat_lit 9, PV.undef),
 (nat_lit 10,
 PV.row (decide ((rowR (takeZ l x.fst) false).fst = []))
 (BRow.ints Go.IntKind.i64 (rowR (takeZ l x.fst) false).fst)
 (0 : Nat)),
 (nat_lit 11, PV.bool (rowR (takeZ l x.fst) false).snd),
 (nat_lit 12,
 PV.row (decide ((rowR (dropZ l (x.fst + (2 : Int))) true).fst = []))
 (BRow.ints Go.IntKind.i64
 (rowR (dropZ l (x.fst + (2 : Int))) true).fst)
 (0 : Nat)),
 (nat_lit 13, PV.bool (rowR (dropZ l (x.fst + (2 : Int))) true).snd),
 (nat_lit 14, PV.int Go.IntKind.i64 (0 : Int)), (nat_lit 15, PV.undef),
 ((24 : Nat),
 PV.bool (bif decide (x.snd + (1 : Int) < lenZ l) then decide (x.fst < (0 : Int)) else false)),
 ((37 : Nat), PV.undef), (nat_lit 40, PV.bool (decide (x.fst < (0 : Int)))), (nat_lit 52, PV.undef),
 (nat_lit 55, PV.undef),
 (nat_lit 94,
 PV.bool
 (bif
 bif !(rowR (takeZ l x.fst) false).snd then true
 else !(rowR (dropZ l (x.fst + (2 : Int))) true).snd then
 true
 else
 decide
 ((7 : Int) <
 Int.ofNat (rowR (takeZ l x.fst) false).fst.length +
 Int.ofNat
 (rowR (dropZ l (x.fst + (2 : Int))) true).fst.length))),
 ((99 : Nat), PV.undef), (nat_lit 112, PV.undef)]
 [((4 : Nat) + (32 : Nat), PV.arr (8 : Nat) (BRow.ints Go.IntKind.u16 (List.replicate (8 : Nat) (0 : Int)))),
 ((2 : Nat) + (32 : Nat),
 PV.arr (8 : Nat) (BRow.ints Go.IntKind.u16 (List.replicate (8 : Nat) (0 : Int))))] =
 VS.mk []
 [(nat_lit 0, PV.str l), (nat_lit 2, PV.ptr ((2 : Nat) + (32 : Nat)) (0 : Nat)),
 (nat_lit 3, PV.bool false), (nat_lit 4, PV.ptr ((4 : Nat) + (32 : Nat)) (0 : Nat)),
 ((5 : Nat), PV.int Go.IntKind.i64 x.fst), ((6 : Nat), PV.int Go.IntKind.i64 x.snd),
 (nat_lit 7, PV.undef), (nat_lit 8, PV.undef), (nat_lit 9, PV.undef),
 (nat_lit 10,
 PV.row (decide ((rowR (takeZ l x.fst) false).fst = []))
 (BRow.ints Go.IntKind.i64 (rowR (takeZ l x.fst) false).fst)
 (0 : Nat)),
 (nat_lit 11, PV.bool (rowR (takeZ l x.fst) false).snd),
 (nat_lit 12,
 PV.row (decide ((rowR (dropZ l (x.fst + (2 : Int))) true).fst = []))
 (BRow.ints Go.IntKind.i64
 (rowR (dropZ l (x.fst + (2 : Int))) true).fst)
 (0 : Nat)),
 (nat_lit 13, PV.bool (rowR (dropZ l (x.fst + (2 : Int))) true).snd),
 ((14 : Nat), PV.int Go.IntKind.i64 (0 : Int)), (nat_lit 15, PV.undef),
 ((24 : Nat),
 PV.bool (bif decide (x.snd + (1 : Int) < lenZ l) then decide (x.fst < (0 : Int)) else false)),
 ((37 : Nat), PV.undef), (nat_lit 40, PV.bool (decide (x.fst < (0 : Int)))), (nat_lit 52, PV.undef),
 (nat_lit 55, PV.undef),
 (nat_lit 94,
 PV.bool
 (bif
 bif !(rowR (takeZ l x.fst) false).snd then true
 else !(rowR (dropZ l (x.fst + (2 : Int))) true).snd then
 true
 else
 decide
 ((7 : Int) <
 Int.ofNat (rowR (takeZ l x.fst) false).fst.length +
 Int.ofNat
 (rowR (dropZ l (x.fst + (2 : Int))) true).fst.length))),
 ((99 : Nat), PV.undef), (nat_lit 112, PV.undef)]
 [((36 : Nat), PV.arr (8 : Nat) (BRow.ints Go.IntKind.u16 (List.replicate (8 : Nat) (0 : Int)))),
 ((2 : Nat) + (32 : Nat),
 PV.arr (8 : Nat) (BRow.ints Go.IntKind.u16 (List.replicate (8 : Nat) (0 : Int))))] ∧
 LayI (rowR (takeZ l x.fst) false).fst
 (List.replicate (8 : Nat) (0 : Int)) (List.replicate (8 : Nat) (0 : Int)) (0 : Int) (0 : Int) ∧
 ∀ (x_1 : List Int × Int),
 LayI (rowR (takeZ l x.fst) false).fst
 (List.replicate (8 : Nat) (0 : Int)) x_1.fst (0 : Int) x_1.snd →
 (decide (x_1.snd < Int.ofNat (rowR (takeZ l x.fst) false).fst.length) =
 true →
 within x_1.snd
 (Int.ofNat (rowR (takeZ l x.fst) false).fst.length) ∧
 within x_1.snd ↑(8 : Nat) ∧
 (within x_1.snd ↑(8 : Nat) ∧ True) ∧
 inI64 (x_1.snd + (1 : Int)) ∧
 VS.mk []
 [(nat_lit 0, PV.str l), (nat_lit 2, PV.ptr ((2 : Nat) + (32 : Nat)) (0 : Nat)),
 (nat_lit 3, PV.bool false), (nat_lit 4, PV.ptr ((4 : Nat) + (32 : Nat)) (0 : Nat)),
 ((5 : Nat), PV.int Go.IntKind.i64 x.fst), ((6 : Nat), PV.int Go.IntKind.i64 x.snd),
 (nat_lit 7, PV.undef), (nat_lit 8, PV.undef), (nat_lit 9, PV.undef),
 (nat_lit 10,
 PV.row
 (decide ((rowR (takeZ l x.fst) false).fst = []))
 (BRow.ints Go.IntKind.i64
 (rowR (takeZ l x.fst) false).fst)
 (0 : Nat)),
 (nat_lit 11,
 PV.bool (rowR (takeZ l x.fst) false).snd),
 (nat_lit 12,
 PV.row
 (decide
 ((rowR (dropZ l (x.fst + (2 : Int))) true).fst =
 []))
 (BRow.ints Go.IntKind.i64
 (rowR (dropZ l (x.fst + (2 : Int))) true).fst)
 (0 : Nat)),
 (nat_lit 13,
 PV.bool
 (rowR (dropZ l (x.fst + (2 : Int))) true).snd),
 ((14 : Nat), PV.int Go.IntKind.i64 (x_1.snd + (1 : Int))), (nat_lit 15, PV.undef),
 ((24 : Nat),
 PV.bool
 (bif decide (x.snd + (1 : Int) < lenZ l) then decide (x.fst < (0 : Int)) else false)),
 ((37 : Nat), PV.undef), (nat_lit 40, PV.bool (decide (x.fst < (0 : Int)))),
 (nat_lit 52, PV.undef), (nat_lit 55, PV.undef),
 (nat_lit 94,
 PV.bool
 (bif
 bif !(rowR (takeZ l x.fst) false).snd then true
 else
 !(rowR (dropZ l (x.fst + (2 : Int)))
 true).snd then
 true
 else
 decide
 ((7 : Int) <
 Int.ofNat
 (rowR (takeZ l x.fst) false).fst.length +
 Int.ofNat
 (rowR (dropZ l (x.fst + (2 : Int)))
 true).fst.length))),
 ((99 : Nat), PV.undef), (nat_lit 112, PV.undef)]
 [((4 : Nat) + (32 : Nat),
 PV.arr (8 : Nat)
 (BRow.ints Go.IntKind.u16
 (setZ x_1.fst x_1.snd
 (Go.IntKind.u16.wrap
 (intZ (rowR (takeZ l x.fst) false).fst
 x_1.snd))))),
 ((2 : Nat) + (32 : Nat),
 PV.arr (8 : Nat) (BRow.ints Go.IntKind.u16 (List.replicate (8 : Nat) (0 : Int))))] =
 VS.mk []
 [(nat_lit 0, PV.str l), (nat_lit 2, PV.ptr ((2 : Nat) + (32 : Nat)) (0 : Nat)),
 (nat_lit 3, PV.bool false), (nat_lit 4, PV.ptr ((4 : Nat) + (32 : Nat)) (0 : Nat)),
 ((5 : Nat), PV.int Go.IntKind.i64 x.fst), ((6 : Nat), PV.int Go.IntKind.i64 x.snd),
 (nat_lit 7, PV.undef), (nat_lit 8, PV.undef), (nat_lit 9, PV.undef),
 (nat_lit 10,
 PV.row
 (decide ((rowR (takeZ l x.fst) false).fst = []))
 (BRow.ints Go.IntKind.i64
 (rowR (takeZ l x.fst) false).fst)
 (0 : Nat)),
 (nat_lit 11,
 PV.bool (rowR (takeZ l x.fst) false).snd),
 (nat_lit 12,
 PV.row
 (decide
 ((rowR (dropZ l (x.fst + (2 : Int))) true).fst =
 []))
 (BRow.ints Go.IntKind.i64
 (rowR (dropZ l (x.fst + (2 : Int))) true).fst)
 (0 : Nat)),
 (nat_lit 13,
 PV.bool
 (rowR (dropZ l (x.fst + (2 : Int))) true).snd),
 ((14 : Nat), PV.int Go.IntKind.i64 (x_1.snd + (1 : Int))), (nat_lit 15, PV.undef),
 ((24 : Nat),
 PV.bool
 (bif decide (x.snd + (1 : Int) < lenZ l) then decide (x.fst < (0 : Int)) else false)),
 ((37 : Nat), PV.undef), (nat_lit 40, PV.bool (decide (x.fst < (0 : Int)))),
 (nat_lit 52, PV.undef), (nat_lit 55, PV.undef),
 (nat_lit 94,
 PV.bool
 (bif
 bif !(rowR (takeZ l x.fst) false).snd then true
 else
 !(rowR (dropZ l (x.fst + (2 : Int)))
 true).snd then
 true
 else
 decide
 ((7 : Int) <
 Int.ofNat
 (rowR (takeZ l x.fst) false).fst.length +
 Int.ofNat
 (rowR (dropZ l (x.fst + (2 : Int)))
 true).fst.length))),
 ((99 : Nat), PV.undef), (nat_lit 112, PV.undef)]
 [((36 : Nat),
 PV.arr (8 : Nat)
 (BRow.ints Go.IntKind.u16
 (setZ x_1.fst x_1.snd
 (Go.IntKind.u16.wrap
 (intZ (rowR (takeZ l x.fst) false).fst
 x_1.snd))))),
 ((2 : Nat) + (32 : Nat),
 PV.arr (8 : Nat) (BRow.ints Go.IntKind.u16 (List.replicate (8 : Nat) (0 : Int))))] ∧
 LayI
 (rowR (takeZ l x.fst) false).fst
 (List.replicate (8 : Nat) (0 : Int))
 (setZ x_1.fst x_1.snd
 (Go.IntKind.u16.wrap
 (intZ (rowR (takeZ l x.fst) false).fst
 x_1.snd)))
 (0 : Int) (x_1.snd + (1 : Int)) ∧
 (↑(rowR (takeZ l x.fst) false).fst.length + (1 : Int) -
 (x_1.snd + (1 : Int))).toNat <
 (↑(rowR (takeZ l x.fst) false).fst.length + (1 : Int) -
 x_1.snd).toNat) ∧
 (decide (x_1.snd < Int.ofNat (rowR (takeZ l x.fst) false).fst.length) =
 false →
 VS.mk []
 [(nat_lit 0, PV.str l), (nat_lit 2, PV.ptr ((2 : Nat) + (32 : Nat)) (0 : Nat)),
 (nat_lit 3, PV.bool false), (nat_lit 4, PV.ptr ((4 : Nat) + (32 : Nat)) (0 : Nat)),
 ((5 : Nat), PV.int Go.IntKind.i64 x.fst), ((6 : Nat), PV.int Go.IntKind.i64 x.snd),
 (nat_lit 7, PV.undef), (nat_lit 8, PV.undef), (nat_lit 9, PV.undef),
 (nat_lit 10,
 PV.row (decide ((rowR (takeZ l x.fst) false).fst = []))
 (BRow.ints Go.IntKind.i64
 (rowR (takeZ l x.fst) false).fst)
 (0 : Nat)),
 (nat_lit 11, PV.bool (rowR (takeZ l x.fst) false).snd),
 (nat_lit 12,
 PV.row
 (decide
 ((rowR (dropZ l (x.fst + (2 : Int))) true).fst = []))
 (BRow.ints Go.IntKind.i64
 (rowR (dropZ l (x.fst + (2 : Int))) true).fst)
 (0 : Nat)),
 (nat_lit 13,
 PV.bool (rowR (dropZ l (x.fst + (2 : Int))) true).snd),
 ((14 : Nat), PV.int Go.IntKind.i64 x_1.snd), (nat_lit 15, PV.int Go.IntKind.i64 (0 : Int)),
 ((24 : Nat),
 PV.bool
 (bif decide (x.snd + (1 : Int) < lenZ l) then decide (x.fst < (0 : Int)) else false)),
 ((37 : Nat), PV.undef), (nat_lit 40, PV.bool (decide (x.fst < (0 : Int)))),
 (nat_lit 52, PV.undef), (nat_lit 55, PV.undef),
 (nat_lit 94,
 PV.bool
 (bif
 bif !(rowR (takeZ l x.fst) false).snd then true
 else !(rowR (dropZ l (x.fst + (2 : Int))) true).snd then
 true
 else
 decide
 ((7 : Int) <
 Int.ofNat (rowR (takeZ l x.fst) false).fst.length +
 Int.ofNat
 (rowR (dropZ l (x.fst + (2 : Int)))
 true).fst.length))),
 ((99 : Nat),
 PV.bool
 (decide
 (x_1.snd <
 Int.ofNat (rowR (takeZ l x.fst) false).fst.length))),
 ((112 : Nat), PV.undef)]
 [((36 : Nat), PV.arr (8 : Nat) (BRow.ints Go.IntKind.u16 x_1.fst)),
 ((2 : Nat) + (32 : Nat),
 PV.arr (8 : Nat) (BRow.ints Go.IntKind.u16 (List.replicate (8 : Nat) (0 : Int))))] =
 VS.mk []
 [(nat_lit 0, PV.str l), (nat_lit 2, PV.ptr ((2 : Nat) + (32 : Nat)) (0 : Nat)),
 (nat_lit 3, PV.bool false), (nat_lit 4, PV.ptr ((4 : Nat) + (32 : Nat)) (0 : Nat)),
 ((5 : Nat), PV.int Go.IntKind.i64 x.fst), ((6 : Nat), PV.int Go.IntKind.i64 x.snd),
 (nat_lit 7, PV.undef), (nat_lit 8, PV.undef), (nat_lit 9, PV.undef),
 (nat_lit 10,
 PV.row (decide ((rowR (takeZ l x.fst) false).fst = []))
 (BRow.ints Go.IntKind.i64
 (rowR (takeZ l x.fst) false).fst)
 (0 : Nat)),
 (nat_lit 11, PV.bool (rowR (takeZ l x.fst) false).snd),
 (nat_lit 12,
 PV.row
 (decide
 ((rowR (dropZ l (x.fst + (2 : Int))) true).fst = []))
 (BRow.ints Go.IntKind.i64
 (rowR (dropZ l (x.fst + (2 : Int))) true).fst)
 (0 : Nat)),
 (nat_lit 13,
 PV.bool (rowR (dropZ l (x.fst + (2 : Int))) true).snd),
 ((14 : Nat), PV.int Go.IntKind.i64 x_1.snd), ((15 : Nat), PV.int Go.IntKind.i64 (0 : Int)),
 ((24 : Nat),
 PV.bool
 (bif decide (x.snd + (1 : Int) < lenZ l) then decide (x.fst < (0 : Int)) else false)),
 ((37 : Nat), PV.undef), (nat_lit 40, PV.bool (decide (x.fst < (0 : Int)))),
 (nat_lit 52, PV.undef), (nat_lit 55, PV.undef),
 (nat_lit 94,
 PV.bool
 (bif
 bif !(rowR (takeZ l x.fst) false).snd then true
 else !(rowR (dropZ l (x.fst + (2 : Int))) true).snd then
 true
 else
 decide
 ((7 : Int) <
 Int.ofNat (rowR (takeZ l x.fst) false).fst.length +
 Int.ofNat
 (rowR (dropZ l (x.fst + (2 : Int)))
 true).fst.length))),
 ((99 : Nat),
 PV.bool
 (decide
 (x_1.snd <
 Int.ofNat (rowR (takeZ l x.fst) false).fst.length))),
 ((112 : Nat), PV.undef)]
 [((36 : Nat), PV.arr (8 : Nat) (BRow.ints Go.IntKind.u16 x_1.fst)),
 ((2 : Nat) + (32 : Nat),
 PV.arr (8 : Nat) (BRow.ints Go.IntKind.u16 (List.replicate (8 : Nat) (0 : Int))))] ∧
 LayI
 (rowR (dropZ l (x.fst + (2 : Int))) true).fst x_1.fst x_1.fst
 ((8 : Int) -
 ↑(rowR (dropZ l (x.fst + (2 : Int))) true).fst.length)
 (0 : Int) ∧
 ∀ (x_2 : List Int × Int),
 LayI
 (rowR (dropZ l (x.fst + (2 : Int))) true).fst x_1.fst x_2.fst
 ((8 : Int) -
 ↑(rowR (dropZ l (x.fst + (2 : Int))) true).fst.length)
 x_2.snd →
 (decide
 (x_2.snd <
 Int.ofNat
 (rowR (dropZ l (x.fst + (2 : Int)))
 true).fst.length) =
 true →
 inI64
 ((8 : Int) -
 Int.ofNat
 (rowR (dropZ l (x.fst + (2 : Int)))
 true).fst.length) ∧
 inI64
 ((8 : Int) -
 Int.ofNat
 (rowR (dropZ l (x.fst + (2 : Int)))
 true).fst.length +
 x_2.snd) ∧
 within x_2.snd
 (Int.ofNat
 (rowR (dropZ l (x.fst + (2 : Int)))
 true).fst.length) ∧
 within
 ((8 : Int) -
 Int.ofNat
 (rowR (dropZ l (x.fst + (2 : Int)))
 true).fst.length +
 x_2.snd)
 ↑(8 : Nat) ∧
 (within
 ((8 : Int) -
 Int.ofNat
 (rowR (dropZ l (x.fst + (2 : Int)))
 true).fst.length +
 x_2.snd)
 ↑(8 : Nat) ∧
 True) ∧
 inI64 (x_2.snd + (1 : Int)) ∧
 VS.mk []
 [(nat_lit 0, PV.str l),
 (nat_lit 2, PV.ptr ((2 : Nat) + (32 : Nat)) (0 : Nat)),
 (nat_lit 3, PV.bool false),
 (nat_lit 4, PV.ptr ((4 : Nat) + (32 : Nat)) (0 : Nat)),
 ((5 : Nat), PV.int Go.IntKind.i64 x.fst),
 ((6 : Nat), PV.int Go.IntKind.i64 x.snd), (nat_lit 7, PV.undef),
 (nat_lit 8, PV.undef), (nat_lit 9, PV.undef),
 (nat_lit 10,
 PV.row
 (decide
 ((rowR (takeZ l x.fst)
 false).fst =
 []))
 (BRow.ints Go.IntKind.i64
 (rowR (takeZ l x.fst) false).fst)
 (0 : Nat)),
 (nat_lit 11,
 PV.bool
 (rowR (takeZ l x.fst) false).snd),
 (nat_lit 12,
 PV.row
 (decide
 ((rowR
 (dropZ l (x.fst + (2 : Int))) true).fst =
 []))
 (BRow.ints Go.IntKind.i64
 (rowR
 (dropZ l (x.fst + (2 : Int))) true).fst)
 (0 : Nat)),
 (nat_lit 13,
 PV.bool
 (rowR (dropZ l (x.fst + (2 : Int)))
 true).snd),
 ((14 : Nat), PV.int Go.IntKind.i64 x_1.snd),
 ((15 : Nat), PV.int Go.IntKind.i64 (x_2.snd + (1 : Int))),
 ((24 : Nat),
 PV.bool
 (bif decide (x.snd + (1 : Int) < lenZ l) then decide (x.fst < (0 : Int))
 else false)),
 ((37 : Nat), PV.undef),
 (nat_lit 40, PV.bool (decide (x.fst < (0 : Int)))),
 (nat_lit 52, PV.undef), (nat_lit 55, PV.undef),
 (nat_lit 94,
 PV.bool
 (bif
 bif
 !(rowR (takeZ l x.fst)
 false).snd then
 true
 else
 !(rowR
 (dropZ l (x.fst + (2 : Int))) true).snd then
 true
 else
 decide
 ((7 : Int) <
 Int.ofNat
 (rowR (takeZ l x.fst)
 false).fst.length +
 Int.ofNat
 (rowR
 (dropZ l (x.fst + (2 : Int))) true).fst.length))),
 ((99 : Nat),
 PV.bool
 (decide
 (x_1.snd <
 Int.ofNat
 (rowR (takeZ l x.fst)
 false).fst.length))),
 ((112 : Nat), PV.undef)]
 [((4 : Nat) + (32 : Nat),
 PV.arr (8 : Nat)
 (BRow.ints Go.IntKind.u16
 (setZ x_2.fst
 ((8 : Int) -
 Int.ofNat
 (rowR
 (dropZ l (x.fst + (2 : Int))) true).fst.length +
 x_2.snd)
 (Go.IntKind.u16.wrap
 (intZ
 (rowR
 (dropZ l (x.fst + (2 : Int))) true).fst
 x_2.snd))))),
 ((2 : Nat) + (32 : Nat),
 PV.arr (8 : Nat)
 (BRow.ints Go.IntKind.u16 (List.replicate (8 : Nat) (0 : Int))))] =
 VS.mk []
 [(nat_lit 0, PV.str l),
 (nat_lit 2, PV.ptr ((2 : Nat) + (32 : Nat)) (0 : Nat)),
 (nat_lit 3, PV.bool false),
 (nat_lit 4, PV.ptr ((4 : Nat) + (32 : Nat)) (0 : Nat)),
 ((5 : Nat), PV.int Go.IntKind.i64 x.fst),
 ((6 : Nat), PV.int Go.IntKind.i64 x.snd), (nat_lit 7, PV.undef),
 (nat_lit 8, PV.undef), (nat_lit 9, PV.undef),
 (nat_lit 10,
 PV.row
 (decide
 ((rowR (takeZ l x.fst)
 false).fst =
 []))
 (BRow.ints Go.IntKind.i64
 (rowR (takeZ l x.fst) false).fst)
 (0 : Nat)),
 (nat_lit 11,
 PV.bool
 (rowR (takeZ l x.fst) false).snd),
 (nat_lit 12,
 PV.row
 (decide
 ((rowR
 (dropZ l (x.fst + (2 : Int))) true).fst =
 []))
 (BRow.ints Go.IntKind.i64
 (rowR
 (dropZ l (x.fst + (2 : Int))) true).fst)
 (0 : Nat)),
 (nat_lit 13,
 PV.bool
 (rowR (dropZ l (x.fst + (2 : Int)))
 true).snd),
 ((14 : Nat), PV.int Go.IntKind.i64 x_1.snd),
 ((15 : Nat), PV.int Go.IntKind.i64 (x_2.snd + (1 : Int))),
 ((24 : Nat),
 PV.bool
 (bif decide (x.snd + (1 : Int) < lenZ l) then decide (x.fst < (0 : Int))
 else false)),
 ((37 : Nat), PV.undef),
 (nat_lit 40, PV.bool (decide (x.fst < (0 : Int)))),
 (nat_lit 52, PV.undef), (nat_lit 55, PV.undef),
 (nat_lit 94,
 PV.bool
 (bif
 bif
 !(rowR (takeZ l x.fst)
 false).snd then
 true
 else
 !(rowR
 (dropZ l (x.fst + (2 : Int))) true).snd then
 true
 else
 decide
 ((7 : Int) <
 Int.ofNat
 (rowR (takeZ l x.fst)
 false).fst.length +
 Int.ofNat
 (rowR
 (dropZ l (x.fst + (2 : Int))) true).fst.length))),
 ((99 : Nat),
 PV.bool
 (decide
 (x_1.snd <
 Int.ofNat
 (rowR (takeZ l x.fst)
 false).fst.length))),
 ((112 : Nat), PV.undef)]
 [((36 : Nat),
 PV.arr (8 : Nat)
 (BRow.ints Go.IntKind.u16
 (setZ x_2.fst
 ((8 : Int) -
 Int.ofNat
 (rowR
 (dropZ l (x.fst + (2 : Int))) true).fst.length +
 x_2.snd)
 (Go.IntKind.u16.wrap
 (intZ
 (rowR
 (dropZ l (x.fst + (2 : Int))) true).fst
 x_2.snd))))),
 ((2 : Nat) + (32 : Nat),
 PV.arr (8 : Nat)
 (BRow.ints Go.IntKind.u16 (List.replicate (8 : Nat) (0 : Int))))] ∧
 LayI
 (rowR (dropZ l (x.fst + (2 : Int)))
 true).fst
 x_1.fst
 (setZ x_2.fst
 ((8 : Int) -
 Int.ofNat
 (rowR
 (dropZ l (x.fst + (2 : Int))) true).fst.length +
 x_2.snd)
 (Go.IntKind.u16.wrap
 (intZ
 (rowR (dropZ l (x.fst + (2 : Int)))
 true).fst
 x_2.snd)))
 ((8 : Int) -
 ↑(rowR (dropZ l (x.fst + (2 : Int)))
 true).fst.length)
 (x_2.snd + (1 : Int)) ∧
 (↑(rowR (dropZ l (x.fst + (2 : Int)))
 true).fst.length +
 (1 : Int) -
 (x_2.snd + (1 : Int))).toNat <
 (↑(rowR (dropZ l (x.fst + (2 : Int)))
 true).fst.length +
 (1 : Int) -
 x_2.snd).toNat) ∧
 (decide
 (x_2.snd <
 Int.ofNat
 (rowR (dropZ l (x.fst + (2 : Int)))
 true).fst.length) =
 false →
 k
 (PV.tup
 [PV.arr (8 : Nat) (BRow.ints Go.IntKind.u16 x_2.fst), PV.bool true]))))))) := by kernel_rfl
attribute [local irreducible] Go.Vc.evF
theorem ok_rparse (l : Bs) : FuncOk Tryz.prog noT 17 [.str l] ⟨l.length ≤ 1000, .tup [.arr 8 (.ints .u16 (refSix l).1), .bool (refSix l).2]⟩ := evF_ok (by kernel_rfl) X_rparse_ok (H := H_rparse l) (fuel := 1000) Tryz.func17 (by kernel_rfl) fun hpre => (vc_rparse l _).mpr (by
  have leaf : ∀ (L : List Int) (b : Bool), refSix l = (L, b) → PV.tup [.arr 8 (.ints .u16 L), .bool b] = PV.tup [.arr 8 (.ints .u16 (refSix l).1), .bool (refSix l).2] := fun L b h => by rw [h]
  refine ⟨rfl, ⟨by omega, by omega, .inl ⟨rfl, rfl⟩⟩, fun x hx => ?_⟩
  obtain ⟨a, i⟩ := x
  obtain ⟨i0, i1, hg⟩ := hx
  dsimp only at i0 i1 hg ⊢
  simp only [Int.ofNat_eq_natCast, andB6, orB6, falB6, notB6, Bool.and_eq_true, Bool.or_eq_true, decide_eq_true_eq]
  refine ⟨⟨by omega, by omega⟩, fun hc => ?_, fun hc => ?_⟩
  · have hlt : i + 1 < (l.length : Int) := hc.1
    rcases hg with ⟨ha, hg⟩ | ⟨ha, -⟩
    · rw [gap_step i0 hlt] at hg
      refine ⟨⟨i0, by show i < (l.length : Int); omega⟩, fun _ => ⟨by omega, by omega⟩, fun _ => ⟨by omega, hlt⟩, fun hb => ?_, fun hb => ?_⟩
      · rw [if_pos hb] at hg
        exact ⟨⟨by omega, by omega⟩, trivial, ⟨by omega, by omega, .inr ⟨i0, by omega, hg⟩⟩, by omega⟩
      · rw [if_neg hb] at hg
        exact ⟨⟨by omega, by omega⟩, trivial, ⟨by omega, by omega, .inl ⟨ha, hg⟩⟩, by omega⟩
    · have := hc.2; omega
  · refine ⟨fun ha => ?_, fun ha => ?_⟩
    · have hge : ¬ i + 1 < (l.length : Int) := fun h => hc ⟨h, ha⟩
      have hga : gapAt l < 0 := by
        rcases hg with ⟨-, hg⟩ | ⟨h, -⟩
        · rw [← hg, gap_end i0 hge]; decide
        · omega
      have hrs : refSix l = if (rowR l true).2 = true ∧ (rowR l true).1.length = 8 then (w16 (rowR l true).1, true) else (List.replicate 8 0, false) := by
        unfold refSix; rw [if_pos hga]
      refine ⟨hpre, fun hb => leaf _ _ ?_, fun hb => ?_⟩
      · rw [hrs, if_neg]
        intro h
        rcases hb with hb | hb
        · exact hb h.1
        · exact hb (by rw [h.2]; rfl)
      · have h1 : (rowR l true).2 = true := Classical.byContradiction fun h => hb (.inl h)
        have h2 : (rowR l true).1.length = 8 := Int.ofNat.inj (Classical.byContradiction fun h => hb (.inr h) : Int.ofNat (rowR l true).1.length = Int.ofNat 8)
        rw [if_pos ⟨h1, h2⟩] at hrs
        refine ⟨trivial, ⟨by omega, by omega, lay_zero _ _ _⟩, fun y hy => ?_⟩
        obtain ⟨p, j⟩ := y
        obtain ⟨j0, j8, hl⟩ := hy
        dsimp only at j0 j8 hl ⊢
        refine ⟨fun hj => ?_, fun hj => leaf _ _ ?_⟩
        · have w8 : within j ((8 : Nat) : Int) := ⟨j0, hj⟩
          have := lay_step hl (by omega) (by omega) (by rw [h2]; decide)
          rw [Int.zero_add] at this
          exact ⟨⟨j0, by show j < ((rowR l true).1.length : Int); omega⟩, w8, ⟨w8, trivial⟩, ⟨by omega, by omega⟩, trivial, ⟨by omega, by omega, this⟩, by omega⟩
        · rw [hrs, lay_end hl (by omega)]
          rw [h2]
          simp
    · have hga : 0 ≤ a ∧ a + 2 ≤ (l.length : Int) ∧ a = gapAt l := by
        rcases hg with ⟨h, -⟩ | h
        · omega
        · exact h
      obtain ⟨a0, a2, hae⟩ := hga
      have hrs : refSix l = (if ((rowR (takeZ l a) false).2 = true ∧ (rowR (dropZ l (a + 2)) true).2 = true) ∧ (rowR (takeZ l a) false).1.length + (rowR (dropZ l (a + 2)) true).1.length ≤ 7 then
        (w16 (rowR (takeZ l a) false).1 ++ List.replicate (8 - ((rowR (takeZ l a) false).1.length + (rowR (dropZ l (a + 2)) true).1.length)) 0 ++ w16 (rowR (dropZ l (a + 2)) true).1, true) else (List.replicate 8 0, false)) := by
        unfold refSix; rw [if_neg (by omega), ← hae]
      have hlA := rowR_len (takeZ l a) false
      have hlB := rowR_len (dropZ l (a + 2)) true
      have ht1 : (takeZ l a).length ≤ 1000 := by unfold takeZ; rw [List.length_take]; omega
      have ht2 : (dropZ l (a + 2)).length ≤ 1000 := by unfold dropZ; rw [List.length_drop]; omega
      generalize hA : rowR (takeZ l a) false = A at *
      generalize hB : rowR (dropZ l (a + 2)) true = B at *
      refine ⟨⟨by omega, a0, by unfold lenZ; omega⟩, ?_, ⟨by omega, by omega⟩, ⟨by omega, by unfold lenZ; omega, by omega⟩, ?_, fun hb => ?_, fun hb => leaf _ _ ?_, fun hb => ?_⟩
      · show (takeZ l a).length ≤ 1000
        unfold takeZ; rw [List.length_take]; omega
      · show (dropZ l (a + 2)).length ≤ 1000
        unfold dropZ; rw [List.length_drop]; omega
      · exact ⟨by omega, by omega⟩
      · rw [hrs, if_neg]
        intro h
        rcases hb with (hb | hb) | hb
        · exact hb h.1.1
        · exact hb h.1.2
        · have : (7 : Int) < (A.1.length : Int) + (B.1.length : Int) := hb
          omega
      · have h1 : A.2 = true := Classical.byContradiction fun h => hb (.inl (.inl h))
        have h2 : B.2 = true := Classical.byContradiction fun h => hb (.inl (.inr h))
        have h3 : A.1.length + B.1.length ≤ 7 := Classical.byContradiction fun h => hb (.inr (by show (7 : Int) < (A.1.length : Int) + (B.1.length : Int); omega))
        rw [if_pos ⟨⟨h1, h2⟩, h3⟩] at hrs
        refine ⟨trivial, lay_zero _ _ _, fun y hy => ?_⟩
        obtain ⟨p, j⟩ := y
        dsimp only at hy ⊢
        have j0 := hy.1
        have j1 := hy.2.1
        refine ⟨fun hj => ?_, fun hj => ?_⟩
        · have hj' : j < (A.1.length : Int) := hj
          have w8 : within j ((8 : Nat) : Int) := ⟨j0, by omega⟩
          have := lay_step hy hj' (by omega) (by rw [List.length_replicate]; omega)
          rw [Int.zero_add] at this
          exact ⟨⟨j0, hj'⟩, w8, ⟨w8, trivial⟩, ⟨by omega, by omega⟩, trivial, this, by omega⟩
        · have hj' : ¬ j < (A.1.length : Int) := hj
          have hp := lay_end hy hj'
          have hp8 : p.length = 8 := by rw [hp, List.length_append, List.length_append, List.length_take, w16_len, List.length_drop, List.length_replicate]; show min 0 8 + _ + _ = 8; omega
          refine ⟨trivial, lay_zero _ _ _, fun u hu => ?_⟩
          obtain ⟨p2, m⟩ := u
          dsimp only at hu ⊢
          have m0 := hu.1
          have m1 := hu.2.1
          refine ⟨fun hm => ?_, fun hm => leaf _ _ ?_⟩
          · have hm' : m < (B.1.length : Int) := hm
            have w8 : within ((8 : Int) - Int.ofNat B.1.length + m) ((8 : Nat) : Int) := ⟨by show (0 : Int) ≤ 8 - (B.1.length : Int) + m; omega, by show (8 : Int) - (B.1.length : Int) + m < 8; omega⟩
            exact ⟨⟨by show _ ≤ (8 : Int) - (B.1.length : Int); omega, by show (8 : Int) - (B.1.length : Int) ≤ _; omega⟩, ⟨by show _ ≤ (8 : Int) - (B.1.length : Int) + m; omega, by show (8 : Int) - (B.1.length : Int) + m ≤ _; omega⟩, ⟨m0, hm'⟩, w8, ⟨w8, trivial⟩, ⟨by omega, by omega⟩, trivial, lay_step hu hm' (by omega) (by omega), by omega⟩
          · rw [hrs, lay_end hu hm, hp]
            have e : ((8 : Int) - (B.1.length : Int)).toNat = 8 - B.1.length := by omega
            rw [e]
            congr 1
            rw [show (List.replicate 8 (0 : Int)).take (Int.toNat 0) = [] from rfl, List.nil_append, show Int.toNat 0 + A.1.length = A.1.length by show 0 + _ = _; omega, List.drop_replicate]
            rw [List.take_append, List.take_of_length_le (by rw [w16_len]; omega), w16_len, List.take_replicate, show min (8 - B.1.length - A.1.length) (8 - A.1.length) = 8 - (A.1.length + B.1.length) by omega]
            rw [List.drop_eq_nil_of_le (by rw [List.length_append, w16_len, List.length_replicate]; omega), List.append_nil])
def ent_rparse : List PV → Option CallR := fun xs => match xs with
  | [.str l] => some ⟨l.length ≤ 1000, .tup [.arr 8 (.ints .u16 (refSix l).1), .bool (refSix l).2]⟩
  | _ => none
theorem ent_rparse_ok : ∀ xs c, ent_rparse xs = some c → FuncOk Tryz.prog noT 17 xs c := fun xs c h => by
  unfold ent_rparse at h
  split at h
  · injection h with h; subst h; exact ok_rparse _
  · cases h
end Go.Proofs.YtjljhkjpogjdhaaGreatDoor
end
/- The function gossamer/gossamerref10.odd does what is told of it. -/
section
set_option linter.unusedVariables false
set_option linter.unusedSimpArgs false
set_option maxRecDepth 100000
set_option maxHeartbeats 4000000
namespace Go.Proofs.YtjljhkjpogjdhaaGreatDoor
open Go Go.Proofs Go.RowKit Go.Vc

theorem any_stepP (p : UInt8 → Bool) (l : Bs) (j : Nat) (h : j < l.length) : (l.take (j + 1)).any p = ((l.take j).any p || p (l.getD j 0)) := by
  rw [List.take_add_one, List.getElem?_eq_getElem h, List.any_append, List.getD_eq_getElem?_getD, List.getElem?_eq_getElem h]
  simp
def oddB (c : Int) (dm : Bool) : Bool := neverL.any (fun b => decide ((b.toNat : Int) = c)) || (dm && (decide (c < 32) || decide (c = 37) || decide (c = 127)))
def OddI (c i : Int) : Prop := ∃ j : Nat, i = j ∧ j ≤ 17 ∧ (neverL.take j).any (fun b => decide ((b.toNat : Int) = c)) = false

def X_rodd : Tbl := tblX []
def H_rodd (c : Int) (dm : Bool) : Loops := fun i => bif Nat.beq i 3 then some ⟨(Int), (fun s x => (((s.put 6 (.int .i64 x)).put 10 .undef).put 17 .undef)), (fun s => s.int 6), (fun s x => let i := x; OddI c i), (fun s x => let i := x; (17 - i).toNat), [10, 17]⟩ else none
theorem X_rodd_ok : XOk Tryz.prog noT X_rodd := tblX_nil
theorem vc_rodd (c : Int) (dm : Bool) (k : PV → Prop) : evF Tryz.prog X_rodd noT (H_rodd c dm) 1000 Tryz.f44 [.int .u8 c, .bool dm] k = (
  VS.mk []
 [(nat_lit 0, PV.int Go.IntKind.u8 c), (nat_lit 1, PV.bool dm), (nat_lit 4, PV.bool false),
 (nat_lit 5,
 PV.str
 (ByteArray.mk
 #[(0 : UInt8), (9 : UInt8), (10 : UInt8), (13 : UInt8), (32 : UInt8), (35 : UInt8), (47 : UInt8), (58 : UInt8), (60 : UInt8), (62 : UInt8),
 (63 : UInt8), (64 : UInt8), (91 : UInt8), (92 : UInt8), (93 : UInt8), (94 : UInt8), (124 : UInt8)]).data.toList),
 (nat_lit 6, PV.int Go.IntKind.i64 (0 : Int)), ((10 : Nat), PV.undef), ((17 : Nat), PV.undef)]
 [] =
 VS.mk []
 [(nat_lit 0, PV.int Go.IntKind.u8 c), (nat_lit 1, PV.bool dm), (nat_lit 4, PV.bool false),
 (nat_lit 5,
 PV.str
 (ByteArray.mk
 #[(0 : UInt8), (9 : UInt8), (10 : UInt8), (13 : UInt8), (32 : UInt8), (35 : UInt8), (47 : UInt8), (58 : UInt8), (60 : UInt8), (62 : UInt8),
 (63 : UInt8), (64 : UInt8), (91 : UInt8), (92 : UInt8), (93 : UInt8), (94 : UInt8), (124 : UInt8)]).data.toList),
 ((6 : Nat), PV.int Go.IntKind.i64 (0 : Int)), ((10 : Nat), PV.undef), ((17 : Nat), PV.undef)]
 [] ∧
 OddI c (0 : Int) ∧
 ∀ (x : Int),
 OddI c x →
 (decide
 (x <
 lenZ
 (ByteArray.mk
 #[(0 : UInt8), (9 : UInt8), (10 : UInt8), (13 : UInt8), (32 : UInt8), (35 : UInt8), (47 : UInt8), (58 : UInt8), (60 : UInt8),
 (62 : UInt8), (63 : UInt8), (64 : UInt8), (91 : UInt8), (92 : UInt8), (93 : UInt8), (94 : UInt8), (124 : UInt8)]).data.toList) =
 true →
 within x
 (lenZ
 (ByteArray.mk
 #[(0 : UInt8), (9 : UInt8), (10 : UInt8), (13 : UInt8), (32 : UInt8), (35 : UInt8), (47 : UInt8), (58 : UInt8), (60 : UInt8),
 (62 : UInt8), (63 : UInt8), (64 : UInt8), (91 : UInt8), (92 : UInt8), (93 : UInt8), (94 : UInt8), (124 : UInt8)]).data.toList) ∧
 (decide
 (byteZ
 (ByteArray.mk
 #[(0 : UInt8), (9 : UInt8), (10 : UInt8), (13 : UInt8), (32 : UInt8), (35 : UInt8), (47 : UInt8), (58 : UInt8), (60 : UInt8),
 (62 : UInt8), (63 : UInt8), (64 : UInt8), (91 : UInt8), (92 : UInt8), (93 : UInt8), (94 : UInt8), (124 : UInt8)]).data.toList
 x =
 c) =
 true →
 k (PV.bool true)) ∧
 (decide
 (byteZ
 (ByteArray.mk
 #[(0 : UInt8), (9 : UInt8), (10 : UInt8), (13 : UInt8), (32 : UInt8), (35 : UInt8), (47 : UInt8), (58 : UInt8), (60 : UInt8),
 (62 : UInt8), (63 : UInt8), (64 : UInt8), (91 : UInt8), (92 : UInt8), (93 : UInt8), (94 : UInt8), (124 : UInt8)]).data.toList
 x =
 c) =
 false →
 inI64 (x + (1 : Int)) ∧
 VS.mk []
 [(nat_lit 0, PV.int Go.IntKind.u8 c), (nat_lit 1, PV.bool dm), (nat_lit 4, PV.bool false),
 (nat_lit 5,
 PV.str
 (ByteArray.mk
 #[(0 : UInt8), (9 : UInt8), (10 : UInt8), (13 : UInt8), (32 : UInt8), (35 : UInt8), (47 : UInt8), (58 : UInt8),
 (60 : UInt8), (62 : UInt8), (63 : UInt8), (64 : UInt8), (91 : UInt8), (92 : UInt8), (93 : UInt8), (94 : UInt8),
 (124 : UInt8)]).data.toList),
 ((6 : Nat), PV.int Go.IntKind.i64 (x + (1 : Int))), ((10 : Nat), PV.undef), ((17 : Nat), PV.undef)]
 [] =
 VS.mk []
 [(nat_lit 0, PV.int Go.IntKind.u8 c), (nat_lit 1, PV.bool dm), (nat_lit 4, PV.bool false),
 (nat_lit 5,
 PV.str
 (ByteArray.mk
 #[(0 : UInt8), (9 : UInt8), (10 : UInt8), (13 : UInt8), (32 : UInt8), (35 : UInt8), (47 : UInt8), (58 : UInt8),
 (60 : UInt8), (62 : UInt8), (63 : UInt8), (64 : UInt8), (91 : UInt8), (92 : UInt8), (93 : UInt8), (94 : UInt8),
 (124 : UInt8)]).data.toList),
 ((6 : Nat), PV.int Go.IntKind.i64 (x + (1 : Int))), ((10 : Nat), PV.undef), ((17 : Nat), PV.undef)]
 [] ∧
 OddI c (x + (1 : Int)) ∧ ((17 : Int) - (x + (1 : Int))).toNat < ((17 : Int) - x).toNat)) ∧
 (decide
 (x <
 lenZ
 (ByteArray.mk
 #[(0 : UInt8), (9 : UInt8), (10 : UInt8), (13 : UInt8), (32 : UInt8), (35 : UInt8), (47 : UInt8), (58 : UInt8), (60 : UInt8),
 (62 : UInt8), (63 : UInt8), (64 : UInt8), (91 : UInt8), (92 : UInt8), (93 : UInt8), (94 : UInt8), (124 : UInt8)]).data.toList) =
 false →
 k
 (PV.bool
 (bif dm then bif bif decide (c < (32 : Int)) then true else decide (c = (37 : Int)) then true else decide (c = (127 : Int)) else false)))) := by kernel_rfl
attribute [local irreducible] Go.Vc.evF
theorem ok_rodd (c : Int) (dm : Bool) : FuncOk Tryz.prog noT 44 [.int .u8 c, .bool dm] ⟨0 ≤ c ∧ c ≤ 255, .bool (oddB c dm)⟩ := evF_ok (by kernel_rfl) X_rodd_ok (H := H_rodd c dm) (fuel := 1000) Tryz.func44 (by kernel_rfl) fun hpre => (vc_rodd c dm _).mpr (by
  have hL : (ByteArray.mk #[(0 : UInt8), (9 : UInt8), (10 : UInt8), (13 : UInt8), (32 : UInt8), (35 : UInt8), (47 : UInt8), (58 : UInt8), (60 : UInt8), (62 : UInt8), (63 : UInt8), (64 : UInt8), (91 : UInt8), (92 : UInt8), (93 : UInt8), (94 : UInt8), (124 : UInt8)]).data.toList = neverL := rfl
  have hn : lenZ neverL = 17 := rfl
  have hn2 : neverL.length = 17 := rfl
  rw [hL, hn]
  refine ⟨rfl, ⟨0, rfl, by omega, rfl⟩, fun x hx => ?_⟩
  obtain ⟨j, rfl, hj, ha⟩ := hx
  have e1 : (j : Int) + 1 = ((j + 1 : Nat) : Int) := by push_cast; rfl
  have hb : byteZ neverL (j : Int) = ((neverL.getD j 0).toNat : Int) := rfl
  rw [hb]
  refine ⟨fun h => ?_, fun h => ?_⟩
  · have hjl : j < 17 := by have := of_decide_eq_true h; omega
    refine ⟨by unfold within; omega, fun h2 => ?_, fun h2 => ⟨by unfold inI64; omega, rfl, ⟨j + 1, e1, by omega, ?_⟩, by omega⟩⟩
    · have : neverL.any (fun b => decide ((b.toNat : Int) = c)) = true := List.any_eq_true.2 ⟨_, getD_in neverL j (by omega), h2⟩
      show PV.bool true = PV.bool (oddB c dm)
      unfold oddB
      rw [this]; rfl
    · rw [any_stepP _ neverL j (by omega), ha, h2]; rfl
  · have hjl : j = 17 := by have := of_decide_eq_false h; omega
    subst hjl
    have ha2 : neverL.any (fun b => decide ((b.toNat : Int) = c)) = false := ha
    show PV.bool _ = PV.bool (oddB c dm)
    unfold oddB
    rw [ha2]
    cases dm <;> cases decide (c < 32) <;> cases decide (c = 37) <;> cases decide (c = 127) <;> rfl)
def ent_rodd : List PV → Option CallR := fun xs => match xs with
  | [.int .u8 c, .bool dm] => some ⟨0 ≤ c ∧ c ≤ 255, .bool (oddB c dm)⟩
  | _ => none
theorem ent_rodd_ok : ∀ xs c, ent_rodd xs = some c → FuncOk Tryz.prog noT 44 xs c := fun xs c h => by
  unfold ent_rodd at h
  split at h
  · injection h with h; subst h; exact ok_rodd _ _
  · cases h
end Go.Proofs.YtjljhkjpogjdhaaGreatDoor
end
/- The function gossamer/gossamerref10.anyOdd does what is told of it. -/
section
set_option linter.unusedVariables false
set_option linter.unusedSimpArgs false
set_option maxRecDepth 100000
set_option maxHeartbeats 4000000
namespace Go.Proofs.YtjljhkjpogjdhaaGreatDoor
open Go Go.Proofs Go.RowKit Go.Vc

def anyO (l : Bs) (dm : Bool) : Bool := l.any (fun b => oddB b.toNat dm)
def AnyI (l : Bs) (dm : Bool) (i : Int) : Prop := ∃ j : Nat, i = j ∧ j ≤ l.length ∧ (l.take j).any (fun b => oddB b.toNat dm) = false

def X_ranyodd : Tbl := tblX [(44, ent_rodd)]
def H_ranyodd (l : Bs) (dm : Bool) : Loops := fun i => bif Nat.beq i 2 then some ⟨(Int), (fun s x => (((s.put 5 (.int .i64 x)).put 9 .undef).put 16 .undef)), (fun s => s.int 5), (fun s x => let i := x; AnyI l dm i), (fun s x => let i := x; ((l.length : Int) - i).toNat), [9, 16]⟩ else none
theorem X_ranyodd_ok : XOk Tryz.prog noT X_ranyodd := tblX_cons ent_rodd_ok (tblX_nil)
theorem vc_ranyodd (l : Bs) (dm : Bool) (k : PV → Prop) : evF Tryz.prog X_ranyodd noT (H_ranyodd l dm) 1000 Tryz.f18 [.str l, .bool dm] k = (
  VS.mk []
 [(nat_lit 0, PV.str l), (nat_lit 1, PV.bool dm), (nat_lit 4, PV.bool false), (nat_lit 5, PV.int Go.IntKind.i64 (0 : Int)),
 ((9 : Nat), PV.undef), ((16 : Nat), PV.undef)]
 [] =
 VS.mk []
 [(nat_lit 0, PV.str l), (nat_lit 1, PV.bool dm), (nat_lit 4, PV.bool false), ((5 : Nat), PV.int Go.IntKind.i64 (0 : Int)),
 ((9 : Nat), PV.undef), ((16 : Nat), PV.undef)]
 [] ∧
 AnyI l dm (0 : Int) ∧
 ∀ (x : Int),
 AnyI l dm x →
 (decide (x < lenZ l) = true →
 within x (lenZ l) ∧
 ((0 : Int) ≤ byteZ l x ∧ byteZ l x ≤ (255 : Int)) ∧
 (oddB (byteZ l x) dm = true → k (PV.bool true)) ∧
 (oddB (byteZ l x) dm = false →
 inI64 (x + (1 : Int)) ∧
 VS.mk []
 [(nat_lit 0, PV.str l), (nat_lit 1, PV.bool dm), (nat_lit 4, PV.bool false),
 ((5 : Nat), PV.int Go.IntKind.i64 (x + (1 : Int))), ((9 : Nat), PV.undef), ((16 : Nat), PV.undef)]
 [] =
 VS.mk []
 [(nat_lit 0, PV.str l), (nat_lit 1, PV.bool dm), (nat_lit 4, PV.bool false),
 ((5 : Nat), PV.int Go.IntKind.i64 (x + (1 : Int))), ((9 : Nat), PV.undef), ((16 : Nat), PV.undef)]
 [] ∧
 AnyI l dm (x + (1 : Int)) ∧
 (↑(List.length l) - (x + (1 : Int))).toNat < (↑(List.length l) - x).toNat)) ∧
 (decide (x < lenZ l) = false → k (PV.bool false))) := by kernel_rfl
attribute [local irreducible] Go.Vc.evF
theorem ok_ranyodd (l : Bs) (dm : Bool) : FuncOk Tryz.prog noT 18 [.str l, .bool dm] ⟨l.length ≤ 1000000, .bool (anyO l dm)⟩ := evF_ok (by kernel_rfl) X_ranyodd_ok (H := H_ranyodd l dm) (fuel := 1000) Tryz.func18 (by kernel_rfl) fun hpre => (vc_ranyodd l dm _).mpr (by
  refine ⟨rfl, ⟨0, rfl, by omega, rfl⟩, fun x hx => ?_⟩
  obtain ⟨j, rfl, hj, ha⟩ := hx
  have e1 : (j : Int) + 1 = ((j + 1 : Nat) : Int) := by push_cast; rfl
  have hb : byteZ l (j : Int) = ((l.getD j 0).toNat : Int) := rfl
  have hr := byteZ_range l (j : Int)
  rw [hb] at hr ⊢
  refine ⟨fun h => ?_, fun h => ?_⟩
  · have hjl : j < l.length := by have := of_decide_eq_true h; unfold lenZ at this; omega
    refine ⟨by unfold within lenZ; omega, hr, fun h2 => ?_, fun h2 => ⟨by unfold inI64; omega, rfl, ⟨j + 1, e1, by omega, ?_⟩, by omega⟩⟩
    · have : anyO l dm = true := List.any_eq_true.2 ⟨_, getD_in l j hjl, h2⟩
      show PV.bool true = PV.bool (anyO l dm)
      rw [this]
    · rw [any_stepP _ l j hjl, ha, h2]; rfl
  · have hjl : j = l.length := by have := of_decide_eq_false h; unfold lenZ at this; omega
    rw [hjl, List.take_length] at ha
    show PV.bool false = PV.bool (anyO l dm)
    rw [show anyO l dm = false from ha])
def ent_ranyodd : List PV → Option CallR := fun xs => match xs with
  | [.str l, .bool dm] => some ⟨l.length ≤ 1000000, .bool (anyO l dm)⟩
  | _ => none
theorem ent_ranyodd_ok : ∀ xs c, ent_ranyodd xs = some c → FuncOk Tryz.prog noT 18 xs c := fun xs c h => by
  unfold ent_ranyodd at h
  split at h
  · injection h with h; subst h; exact ok_ranyodd _ _
  · cases h
end Go.Proofs.YtjljhkjpogjdhaaGreatDoor
end
/- The function gossamer/gossamerref4.Decode does what is told of it. -/
section
set_option linter.unusedVariables false
set_option linter.unusedSimpArgs false
set_option maxRecDepth 100000
set_option maxHeartbeats 4000000
namespace Go.Proofs.YtjljhkjpogjdhaaGreatDoor
open Go Go.Proofs Go.RowKit Go.Vc

def DecJ (l : Bs) (o : Bool × Bs) (i : Int) : Prop := ∃ j : Nat, i = j ∧ j ≤ l.length ∧ o.1 = o.2.isEmpty ∧ o.2 ++ decP (l.drop j) = decP l ∧ o.2.length ≤ j
def decE (l : Bs) : Bool := (decP l).isEmpty

def X_rpdec : Tbl := tblX [(49, ent_rdig)]
def H_rpdec (l : Bs) : Loops := fun i => bif Nat.beq i 3 then some ⟨(Bool × Bs) × (Int), (fun s x => ((((s.row s 3 x.1.1 (.bytes x.1.2)).put 4 (.int .i64 x.2)).put 8 .undef).put 37 .undef)), (fun s => ((s.nil 3, s.bytes 3), s.int 4)), (fun s x => let b := x.1; let i := x.2; DecJ l b i), (fun s x => let b := x.1; let i := x.2; ((l.length : Int) - i).toNat), [8, 37]⟩ else none
theorem X_rpdec_ok : XOk Tryz.prog noT X_rpdec := tblX_cons ent_rdig_ok (tblX_nil)
theorem vc_rpdec (l : Bs) (k : PV → Prop) : evF Tryz.prog X_rpdec noT (H_rpdec l) 1000 Tryz.f21 [.str l] k = (
  VS.mk []
 [(nat_lit 0, PV.str l), (nat_lit 2, PV.row true (BRow.bytes []) ((2 : Nat) + (32 : Nat))),
 (nat_lit 3, PV.row true (BRow.bytes []) ((3 : Nat) + (32 : Nat))), (nat_lit 4, PV.int Go.IntKind.i64 (0 : Int)),
 ((8 : Nat), PV.undef), ((37 : Nat), PV.undef)]
 [] =
 VS.mk []
 [(nat_lit 0, PV.str l), (nat_lit 2, PV.row true (BRow.bytes []) ((2 : Nat) + (32 : Nat))),
 ((3 : Nat), PV.row true (BRow.bytes []) ((3 : Nat) + (32 : Nat))), ((4 : Nat), PV.int Go.IntKind.i64 (0 : Int)),
 ((8 : Nat), PV.undef), ((37 : Nat), PV.undef)]
 [] ∧
 DecJ l (true, []) (0 : Int) ∧
 ∀ (x : (Bool × Bs) × Int),
 DecJ l x.fst x.snd →
 (decide (x.snd < lenZ l) = true →
 within x.snd (lenZ l) ∧
 (decide (byteZ l x.snd = (37 : Int)) = true → inI64 (lenZ l - x.snd)) ∧
 ((bif decide (byteZ l x.snd = (37 : Int)) then decide ((2 : Int) < lenZ l - x.snd) else false) = true →
 inI64 (x.snd + (1 : Int))) ∧
 ((bif decide (byteZ l x.snd = (37 : Int)) then decide ((2 : Int) < lenZ l - x.snd) else false) = true →
 within (x.snd + (1 : Int)) (lenZ l)) ∧
 ((bif decide (byteZ l x.snd = (37 : Int)) then decide ((2 : Int) < lenZ l - x.snd) else false) = true →
 (0 : Int) ≤ byteZ l (x.snd + (1 : Int)) ∧ byteZ l (x.snd + (1 : Int)) ≤ (255 : Int)) ∧
 ((bif bif decide (byteZ l x.snd = (37 : Int)) then decide ((2 : Int) < lenZ l - x.snd) else false then
 decide ((0 : Int) ≤ hexN (byteZ l (x.snd + (1 : Int))))
 else false) =
 true →
 inI64 (x.snd + (2 : Int))) ∧
 ((bif bif decide (byteZ l x.snd = (37 : Int)) then decide ((2 : Int) < lenZ l - x.snd) else false then
 decide ((0 : Int) ≤ hexN (byteZ l (x.snd + (1 : Int))))
 else false) =
 true →
 within (x.snd + (2 : Int)) (lenZ l)) ∧
 ((bif bif decide (byteZ l x.snd = (37 : Int)) then decide ((2 : Int) < lenZ l - x.snd) else false then
 decide ((0 : Int) ≤ hexN (byteZ l (x.snd + (1 : Int))))
 else false) =
 true →
 (0 : Int) ≤ byteZ l (x.snd + (2 : Int)) ∧ byteZ l (x.snd + (2 : Int)) ≤ (255 : Int)) ∧
 ((bif
 bif bif decide (byteZ l x.snd = (37 : Int)) then decide ((2 : Int) < lenZ l - x.snd) else false then
 decide ((0 : Int) ≤ hexN (byteZ l (x.snd + (1 : Int))))
 else false then
 decide ((0 : Int) ≤ hexN (byteZ l (x.snd + (2 : Int))))
 else false) =
 true →
 inI64 (x.snd + (1 : Int)) ∧
 within (x.snd + (1 : Int)) (lenZ l) ∧
 ((0 : Int) ≤ byteZ l (x.snd + (1 : Int)) ∧ byteZ l (x.snd + (1 : Int)) ≤ (255 : Int)) ∧
 (0 : Int) ≤ (4 : Int) ∧
 inI64 (x.snd + (2 : Int)) ∧
 within (x.snd + (2 : Int)) (lenZ l) ∧
 ((0 : Int) ≤ byteZ l (x.snd + (2 : Int)) ∧ byteZ l (x.snd + (2 : Int)) ≤ (255 : Int)) ∧
 allU8
 [PV.int Go.IntKind.u8
 (Go.IntKind.u8.wrap
 (bitsZ Go.BinOp.or Go.IntKind.i64
 (shlZ Go.IntKind.i64
 (hexN (byteZ l (x.snd + (1 : Int)))) (4 : Int))
 (hexN (byteZ l (x.snd + (2 : Int))))))] ∧
 Int.ofNat
 (List.length
 (x.fst.snd ++
 [zByte
 (Go.IntKind.u8.wrap
 (bitsZ Go.BinOp.or Go.IntKind.i64
 (shlZ Go.IntKind.i64
 (hexN (byteZ l (x.snd + (1 : Int)))) (4 : Int))
 (hexN (byteZ l (x.snd + (2 : Int))))))])) ≤
 maxRow ∧
 inI64 (x.snd + (2 : Int)) ∧
 inI64 (x.snd + (2 : Int) + (1 : Int)) ∧
 VS.mk []
 [(nat_lit 0, PV.str l),
 (nat_lit 2, PV.row true (BRow.bytes []) ((2 : Nat) + (32 : Nat))),
 ((3 : Nat),
 PV.row false
 (BRow.bytes
 (x.fst.snd ++
 [zByte
 (Go.IntKind.u8.wrap
 (bitsZ Go.BinOp.or Go.IntKind.i64
 (shlZ Go.IntKind.i64
 (hexN (byteZ l (x.snd + (1 : Int))))
 (4 : Int))
 (hexN
 (byteZ l (x.snd + (2 : Int))))))]))
 (nat_lit 34 + (1 : Nat))),
 ((4 : Nat), PV.int Go.IntKind.i64 (x.snd + (2 : Int) + (1 : Int))),
 ((8 : Nat), PV.undef), ((37 : Nat), PV.undef)]
 [] =
 VS.mk []
 [(nat_lit 0, PV.str l),
 (nat_lit 2, PV.row true (BRow.bytes []) ((2 : Nat) + (32 : Nat))),
 ((3 : Nat),
 PV.row false
 (BRow.bytes
 (x.fst.snd ++
 [zByte
 (Go.IntKind.u8.wrap
 (bitsZ Go.BinOp.or Go.IntKind.i64
 (shlZ Go.IntKind.i64
 (hexN (byteZ l (x.snd + (1 : Int))))
 (4 : Int))
 (hexN
 (byteZ l (x.snd + (2 : Int))))))]))
 ((3 : Nat) + (32 : Nat))),
 ((4 : Nat), PV.int Go.IntKind.i64 (x.snd + (2 : Int) + (1 : Int))),
 ((8 : Nat), PV.undef), ((37 : Nat), PV.undef)]
 [] ∧
 DecJ l
 (false,
 x.fst.snd ++
 [zByte
 (Go.IntKind.u8.wrap
 (bitsZ Go.BinOp.or Go.IntKind.i64
 (shlZ Go.IntKind.i64
 (hexN (byteZ l (x.snd + (1 : Int))))
 (4 : Int))
 (hexN (byteZ l (x.snd + (2 : Int))))))])
 (x.snd + (2 : Int) + (1 : Int)) ∧
 (↑(List.length l) - (x.snd + (2 : Int) + (1 : Int))).toNat < (↑(List.length l) - x.snd).toNat) ∧
 ((bif
 bif bif decide (byteZ l x.snd = (37 : Int)) then decide ((2 : Int) < lenZ l - x.snd) else false then
 decide ((0 : Int) ≤ hexN (byteZ l (x.snd + (1 : Int))))
 else false then
 decide ((0 : Int) ≤ hexN (byteZ l (x.snd + (2 : Int))))
 else false) =
 false →
 within x.snd (lenZ l) ∧
 allU8 [PV.int Go.IntKind.u8 (byteZ l x.snd)] ∧
 Int.ofNat (List.length (x.fst.snd ++ [zByte (byteZ l x.snd)])) ≤ maxRow ∧
 inI64 (x.snd + (1 : Int)) ∧
 VS.mk []
 [(nat_lit 0, PV.str l), (nat_lit 2, PV.row true (BRow.bytes []) ((2 : Nat) + (32 : Nat))),
 ((3 : Nat),
 PV.row false (BRow.bytes (x.fst.snd ++ [zByte (byteZ l x.snd)]))
 (nat_lit 34 + (1 : Nat))),
 ((4 : Nat), PV.int Go.IntKind.i64 (x.snd + (1 : Int))), ((8 : Nat), PV.undef),
 ((37 : Nat), PV.undef)]
 [] =
 VS.mk []
 [(nat_lit 0, PV.str l), (nat_lit 2, PV.row true (BRow.bytes []) ((2 : Nat) + (32 : Nat))),
 ((3 : Nat),
 PV.row false (BRow.bytes (x.fst.snd ++ [zByte (byteZ l x.snd)]))
 ((3 : Nat) + (32 : Nat))),
 ((4 : Nat), PV.int Go.IntKind.i64 (x.snd + (1 : Int))), ((8 : Nat), PV.undef),
 ((37 : Nat), PV.undef)]
 [] ∧
 DecJ l (false, x.fst.snd ++ [zByte (byteZ l x.snd)])
 (x.snd + (1 : Int)) ∧
 (↑(List.length l) - (x.snd + (1 : Int))).toNat < (↑(List.length l) - x.snd).toNat)) ∧
 (decide (x.snd < lenZ l) = false → k (PV.row x.fst.fst (BRow.bytes x.fst.snd) (0 : Nat)))) := by kernel_rfl
attribute [local irreducible] Go.Vc.evF
theorem ok_rpdec (l : Bs) : FuncOk Tryz.prog noT 21 [.str l] ⟨l.length ≤ 1000000, .row (decE l) (.bytes (decP l)) 0⟩ := evF_ok (by kernel_rfl) X_rpdec_ok (H := H_rpdec l) (fuel := 1000) Tryz.func21 (by kernel_rfl) fun hpre => (vc_rpdec l _).mpr (by
  have hl := hpre
  have andB : ∀ a b : Bool, (bif a then b else false) = true → a = true ∧ b = true := fun a b h => by
    cases a
    · cases h
    · exact ⟨rfl, h⟩
  refine ⟨rfl, ⟨0, rfl, by omega, rfl, rfl, Nat.le_refl _⟩, fun x hx => ?_⟩
  obtain ⟨⟨nl, o⟩, i⟩ := x
  obtain ⟨j, h1, h2, h3, h4, h5⟩ := hx
  dsimp only at h1 h2 h3 h4 h5 ⊢
  subst h1
  have e1 : (j : Int) + 1 = ((j + 1 : Nat) : Int) := by push_cast; rfl
  have e2 : (j : Int) + 2 = ((j + 2 : Nat) : Int) := by push_cast; rfl
  have e3 : ((j + 2 : Nat) : Int) + 1 = ((j + 3 : Nat) : Int) := by push_cast; rfl
  have hu : ∀ z : Int, 0 ≤ z ∧ z ≤ 255 → allU8 [.int .u8 z] := fun z hz => by simp [allU8]; exact hz
  have hh1 : hexN (byt l (j + 1)) = hxZ (byt l (j + 1)) := rfl
  have hh2 : hexN (byt l (j + 2)) = hxZ (byt l (j + 2)) := rfl
  rw [e1, e2, e3, byZ_at l j, byZ_at l (j + 1), byZ_at l (j + 2), hh1, hh2]
  have r0 := byt_range l j
  have r1 := byt_range l (j + 1)
  have r2 := byt_range l (j + 2)
  have le1 := hxZ_le (byt l (j + 1))
  have le2 := hxZ_le (byt l (j + 2))
  have go : ∀ (c : UInt8) (d : Nat), j < d → d ≤ l.length → decP (l.drop j) = c :: decP (l.drop d) → DecJ l (false, o ++ [c]) (d : Int) := fun c d hd hd2 hc => by
    refine ⟨d, rfl, hd2, by simp, ?_, by show (o ++ [_]).length ≤ _; rw [List.length_append]; show o.length + 1 ≤ _; omega⟩
    show (o ++ [_]) ++ _ = _
    rw [← h4, hc, List.append_assoc]; rfl
  refine ⟨fun h => ?_, fun h => ?_⟩
  · have hj : j < l.length := by have := of_decide_eq_true h; unfold lenZ at this; omega
    have F2 : (bif decide (byt l j = 37) then decide (2 < lenZ l - (j : Int)) else false) = true → byt l j = 37 ∧ j + 2 < l.length := fun h => by
      obtain ⟨a, b⟩ := andB _ _ h
      have := of_decide_eq_true b
      unfold lenZ at this
      exact ⟨of_decide_eq_true a, by omega⟩
    refine ⟨by unfold within lenZ; omega, fun _ => by unfold inI64 lenZ; omega, fun _ => by unfold inI64; omega, fun h => by have := F2 h; unfold within lenZ; omega, fun _ => r1, fun _ => by unfold inI64; omega, fun h => by have := F2 (andB _ _ h).1; unfold within lenZ; omega, fun _ => r2, fun h => ?_, fun h => ?_⟩
    · obtain ⟨hA, hG⟩ := andB _ _ h
      obtain ⟨hA1, hH⟩ := andB _ _ hA
      have hF := F2 hA1
      have hH' := of_decide_eq_true hH
      have hG' := of_decide_eq_true hG
      rw [or_hex hH' le1 hG' le2]
      refine ⟨by unfold inI64; omega, by unfold within lenZ; omega, r1, by omega, by unfold inI64; omega, by unfold within lenZ; omega, r2, hu _ (by omega), ?_, by unfold inI64; omega, by unfold inI64; omega, rfl, go _ (j + 3) (by omega) (by omega) ?_, by omega⟩
      · rw [List.length_append]; show ((o.length + 1 : Nat) : Int) ≤ 16777216; omega
      · rw [decP_at l j hj, if_pos ⟨hF.1, hF.2, hH', hG'⟩]
    · refine ⟨by unfold within lenZ; omega, hu _ r0, ?_, by unfold inI64; omega, rfl, go _ (j + 1) (by omega) (by omega) ?_, by omega⟩
      · rw [List.length_append]; show ((o.length + 1 : Nat) : Int) ≤ 16777216; omega
      · rw [decP_at l j hj, if_neg]
        intro g
        rw [decide_eq_true g.1, decide_eq_true (show 2 < lenZ l - (j : Int) by unfold lenZ; omega), decide_eq_true g.2.2.1, decide_eq_true g.2.2.2] at h
        cases h
  · have hj : j = l.length := by have := of_decide_eq_false h; unfold lenZ at this; omega
    subst hj
    rw [List.drop_length] at h4
    have e4 : o = decP l := by rw [← h4]; exact (List.append_nil o).symm
    show PV.row nl _ _ = PV.row (decE l) _ _
    unfold decE
    rw [h3, e4])
def ent_rpdec : List PV → Option CallR := fun xs => match xs with
  | [.str l] => some ⟨l.length ≤ 1000000, .row (decE l) (.bytes (decP l)) 0⟩
  | _ => none
theorem ent_rpdec_ok : ∀ xs c, ent_rpdec xs = some c → FuncOk Tryz.prog noT 21 xs c := fun xs c h => by
  unfold ent_rpdec at h
  split at h
  · injection h with h; subst h; exact ok_rpdec _
  · cases h
end Go.Proofs.YtjljhkjpogjdhaaGreatDoor
end
/- The function gossamer/gossamerref4.Lower does what is told of it. -/
section
set_option linter.unusedVariables false
set_option linter.unusedSimpArgs false
set_option maxRecDepth 100000
set_option maxHeartbeats 4000000
namespace Go.Proofs.YtjljhkjpogjdhaaGreatDoor
open Go Go.Proofs Go.RowKit Go.Vc

def X_rlower : Tbl := tblX []
def H_rlower (l : Bs) : Loops := fun i => bif Nat.beq i 3 then some ⟨(Bool × Bs) × (Int), (fun s x => ((((s.row s 3 x.1.1 (.bytes x.1.2)).put 4 (.int .i64 x.2)).put 10 .undef).put 24 .undef)), (fun s => ((s.nil 3, s.bytes 3), s.int 4)), (fun s x => let b := x.1; let i := x.2; 0 ≤ i ∧ i ≤ l.length ∧ b.1 = false ∧ b.2 = (lowB l).take i.toNat ++ l.drop i.toNat), (fun s x => let b := x.1; let i := x.2; ((l.length : Int) - i).toNat), [10, 24]⟩ else none
theorem X_rlower_ok : XOk Tryz.prog noT X_rlower := tblX_nil
theorem vc_rlower (l : Bs) (k : PV → Prop) : evF Tryz.prog X_rlower noT (H_rlower l) 1000 Tryz.f20 [.str l] k = (
  List.length l ≤ Go.Vc.maxLen ∧
 VS.mk []
 [(nat_lit 0, PV.str l), (nat_lit 2, PV.str (ByteArray.mk #[]).data.toList),
 (nat_lit 3, PV.row false (BRow.bytes l) ((6 : Nat) + (32 : Nat))), (nat_lit 4, PV.int Go.IntKind.i64 (0 : Int)),
 ((10 : Nat), PV.undef), ((24 : Nat), PV.undef)]
 [] =
 VS.mk []
 [(nat_lit 0, PV.str l), (nat_lit 2, PV.str (ByteArray.mk #[]).data.toList),
 ((3 : Nat), PV.row false (BRow.bytes l) ((6 : Nat) + (32 : Nat))), ((4 : Nat), PV.int Go.IntKind.i64 (0 : Int)),
 ((10 : Nat), PV.undef), ((24 : Nat), PV.undef)]
 [] ∧
 ((0 : Int) ≤ (0 : Int) ∧
 (0 : Int) ≤ ↑(List.length l) ∧
 false = false ∧ l = List.take (Int.toNat (0 : Int)) (lowB l) ++ List.drop (Int.toNat (0 : Int)) l) ∧
 ∀ (x : (Bool × Bs) × Int),
 (0 : Int) ≤ x.snd ∧
 x.snd ≤ ↑(List.length l) ∧
 x.fst.fst = false ∧ x.fst.snd = List.take x.snd.toNat (lowB l) ++ List.drop x.snd.toNat l →
 (decide (x.snd < Int.ofNat (List.length x.fst.snd)) = true →
 within x.snd (Int.ofNat (List.length x.fst.snd)) ∧
 (decide ((65 : Int) ≤ byteZ x.fst.snd x.snd) = true → within x.snd (Int.ofNat (List.length x.fst.snd))) ∧
 ((bif decide ((65 : Int) ≤ byteZ x.fst.snd x.snd) then decide (byteZ x.fst.snd x.snd ≤ (90 : Int)) else false) = true →
 within x.snd (Int.ofNat (List.length x.fst.snd)) ∧
 within x.snd (Int.ofNat (List.length x.fst.snd)) ∧
 ((0 : Int) ≤ Go.IntKind.u8.wrap (byteZ x.fst.snd x.snd + (32 : Int)) ∧
 Go.IntKind.u8.wrap (byteZ x.fst.snd x.snd + (32 : Int)) ≤ (255 : Int)) ∧
 inI64 (x.snd + (1 : Int)) ∧
 VS.mk []
 [(nat_lit 0, PV.str l), (nat_lit 2, PV.str (ByteArray.mk #[]).data.toList),
 ((3 : Nat),
 PV.row x.fst.fst
 (BRow.bytes
 (setZ x.fst.snd x.snd (zByte (Go.IntKind.u8.wrap (byteZ x.fst.snd x.snd + (32 : Int))))))
 ((6 : Nat) + (32 : Nat))),
 ((4 : Nat), PV.int Go.IntKind.i64 (x.snd + (1 : Int))), ((10 : Nat), PV.undef), ((24 : Nat), PV.undef)]
 [] =
 VS.mk []
 [(nat_lit 0, PV.str l), (nat_lit 2, PV.str (ByteArray.mk #[]).data.toList),
 ((3 : Nat),
 PV.row x.fst.fst
 (BRow.bytes
 (setZ x.fst.snd x.snd (zByte (Go.IntKind.u8.wrap (byteZ x.fst.snd x.snd + (32 : Int))))))
 ((6 : Nat) + (32 : Nat))),
 ((4 : Nat), PV.int Go.IntKind.i64 (x.snd + (1 : Int))), ((10 : Nat), PV.undef), ((24 : Nat), PV.undef)]
 [] ∧
 ((0 : Int) ≤ x.snd + (1 : Int) ∧
 x.snd + (1 : Int) ≤ ↑(List.length l) ∧
 x.fst.fst = false ∧
 setZ x.fst.snd x.snd (zByte (Go.IntKind.u8.wrap (byteZ x.fst.snd x.snd + (32 : Int)))) =
 List.take (x.snd + (1 : Int)).toNat (lowB l) ++
 List.drop (x.snd + (1 : Int)).toNat l) ∧
 (↑(List.length l) - (x.snd + (1 : Int))).toNat < (↑(List.length l) - x.snd).toNat) ∧
 ((bif decide ((65 : Int) ≤ byteZ x.fst.snd x.snd) then decide (byteZ x.fst.snd x.snd ≤ (90 : Int)) else false) = false →
 inI64 (x.snd + (1 : Int)) ∧
 VS.mk []
 [(nat_lit 0, PV.str l), (nat_lit 2, PV.str (ByteArray.mk #[]).data.toList),
 ((3 : Nat), PV.row x.fst.fst (BRow.bytes x.fst.snd) ((6 : Nat) + (32 : Nat))),
 ((4 : Nat), PV.int Go.IntKind.i64 (x.snd + (1 : Int))), ((10 : Nat), PV.undef), ((24 : Nat), PV.undef)]
 [] =
 VS.mk []
 [(nat_lit 0, PV.str l), (nat_lit 2, PV.str (ByteArray.mk #[]).data.toList),
 ((3 : Nat), PV.row x.fst.fst (BRow.bytes x.fst.snd) ((6 : Nat) + (32 : Nat))),
 ((4 : Nat), PV.int Go.IntKind.i64 (x.snd + (1 : Int))), ((10 : Nat), PV.undef), ((24 : Nat), PV.undef)]
 [] ∧
 ((0 : Int) ≤ x.snd + (1 : Int) ∧
 x.snd + (1 : Int) ≤ ↑(List.length l) ∧
 x.fst.fst = false ∧
 x.fst.snd =
 List.take (x.snd + (1 : Int)).toNat (lowB l) ++ List.drop (x.snd + (1 : Int)).toNat l) ∧
 (↑(List.length l) - (x.snd + (1 : Int))).toNat < (↑(List.length l) - x.snd).toNat)) ∧
 (decide (x.snd < Int.ofNat (List.length x.fst.snd)) = false → k (PV.str x.fst.snd))) := by kernel_rfl
attribute [local irreducible] Go.Vc.evF
theorem ok_rlower (l : Bs) : FuncOk Tryz.prog noT 20 [.str l] ⟨l.length ≤ 1000000, .str (lowB l)⟩ := evF_ok (by kernel_rfl) X_rlower_ok (H := H_rlower l) (fuel := 1000) Tryz.func20 (by kernel_rfl) fun hpre => (vc_rlower l _).mpr (by
  have hll : (lowB l).length = l.length := by unfold lowB; simp
  simp only [Int.ofNat_eq_natCast] at *
  refine ⟨by show l.length ≤ 1099511627776; omega, trivial, ⟨by omega, by omega, trivial, by simp⟩, fun x hx => ⟨fun h => ?_, fun h => ?_⟩⟩
  · obtain ⟨h0, h1, h2, h3⟩ := hx
    have hlen : x.1.2.length = l.length := by rw [h3, List.length_append, List.length_take, List.length_drop, hll]; omega
    have hlt := i64_lt h
    rw [hlen] at hlt
    have hbr := byteZ_range l x.2
    have hby : byteZ x.1.2 x.2 = byteZ l x.2 := by
      unfold byteZ
      congr 2
      rw [h3, List.getD_eq_getElem?_getD, List.getD_eq_getElem?_getD, List.getElem?_append_right (by rw [List.length_take, hll]; omega), List.length_take, hll, List.getElem?_drop]
      congr 2
      omega
    have hat : l.getD x.2.toNat 0 = l[x.2.toNat]'(by omega) := by rw [List.getD_eq_getElem?_getD, List.getElem?_eq_getElem (by omega)]; rfl
    have step : ∀ b, b = lowB1 (l.getD x.2.toNat 0) → setZ x.1.2 x.2 b = List.take (x.2 + 1).toNat (lowB l) ++ List.drop (x.2 + 1).toNat l := fun b hb => by
      unfold setZ
      rw [show (x.2 + 1).toNat = x.2.toNat + 1 by omega, h3]
      exact set_over_tail hll.symm (by rw [lowB_at h0 hlt, hb])
    rw [hby, hlen]
    refine ⟨⟨h0, hlt⟩, fun _ => ⟨h0, hlt⟩, fun hc => ?_, fun hc => ?_⟩
    · obtain ⟨c1, c2, c3⟩ := low_yes hc
      rw [c1]
      refine ⟨⟨h0, hlt⟩, ⟨h0, hlt⟩, ⟨by omega, by omega⟩, ⟨by omega, by omega⟩, trivial, ⟨by omega, by omega, h2, step _ c3⟩, by omega⟩
    · refine ⟨⟨by omega, by omega⟩, trivial, ⟨by omega, by omega, h2, ?_⟩, by omega⟩
      rw [← step _ (low_no hc), zByte_byteZ, hat]
      unfold setZ
      have e : x.1.2[x.2.toNat]? = some (l[x.2.toNat]'(by omega)) := by
        have := hby
        unfold byteZ at this
        have h5 : x.1.2.getD x.2.toNat 0 = l.getD x.2.toNat 0 := UInt8.toNat_inj.1 (by omega)
        rw [List.getD_eq_getElem?_getD, List.getElem?_eq_getElem (show x.2.toNat < x.1.2.length by omega), hat] at h5
        rw [List.getElem?_eq_getElem (show x.2.toNat < x.1.2.length by omega)]
        exact congrArg some h5
      obtain ⟨q1, q2⟩ := List.getElem?_eq_some_iff.1 e
      rw [← q2, List.set_getElem_self]
  · obtain ⟨h0, h1, h2, h3⟩ := hx
    have hlen : x.1.2.length = l.length := by rw [h3, List.length_append, List.length_take, List.length_drop, hll]; omega
    have hge : ¬ x.2 < (x.1.2.length : Int) := of_decide_eq_false h
    show PV.str _ = PV.str _
    rw [h3, show x.2.toNat = l.length by omega]
    rw [List.drop_length, List.append_nil, ← hll, List.take_length])
def ent_rlower : List PV → Option CallR := fun xs => match xs with
  | [.str l] => some ⟨l.length ≤ 1000000, .str (lowB l)⟩
  | _ => none
theorem ent_rlower_ok : ∀ xs c, ent_rlower xs = some c → FuncOk Tryz.prog noT 20 xs c := fun xs c h => by
  unfold ent_rlower at h
  split at h
  · injection h with h; subst h; exact ok_rlower _
  · cases h
end Go.Proofs.YtjljhkjpogjdhaaGreatDoor
end
/- The function gossamer/gossamerref10.foreign does what is told of it. -/
section
set_option linter.unusedVariables false
set_option linter.unusedSimpArgs false
set_option maxRecDepth 100000
set_option maxHeartbeats 4000000
namespace Go.Proofs.YtjljhkjpogjdhaaGreatDoor
open Go Go.Proofs Go.RowKit Go.Vc

theorem any_stepL (p : Bs → Bool) (l : List Bs) (j : Nat) (h : j < l.length) : (l.take (j + 1)).any p = ((l.take j).any p || p (l.getD j [])) := by
  rw [List.take_add_one, List.getElem?_eq_getElem h, List.any_append, List.getD_eq_getElem?_getD, List.getElem?_eq_getElem h]
  simp
theorem split_px (p : Bs) : (bif decide ((4 : Int) ≤ lenZ p) then decide (takeZ p 4 = xnL) else false) = List.isPrefixOf xnL p := by
  unfold lenZ takeZ
  match p with
  | [] => rfl
  | [a] => simp [xnL, List.isPrefixOf]
  | [a, b] => simp [xnL, List.isPrefixOf]
  | [a, b, c] => simp [xnL, List.isPrefixOf]
  | a :: b :: c :: d :: r =>
    rw [decide_eq_true (show (4 : Int) ≤ ((a :: b :: c :: d :: r).length : Int) by simp only [List.length_cons]; omega), cond_true]
    show decide ([a, b, c, d] = xnL) = (((120 : UInt8) == a) && (((110 : UInt8) == b) && (((45 : UInt8) == c) && (((45 : UInt8) == d) && true))))
    rw [Bool.eq_iff_iff, decide_eq_true_iff]
    simp only [xnL, List.cons.injEq, and_true, Bool.and_eq_true, beq_iff_eq]
    constructor
    · rintro ⟨rfl, rfl, rfl, rfl⟩; exact ⟨rfl, rfl, rfl, rfl⟩
    · rintro ⟨rfl, rfl, rfl, rfl⟩; exact ⟨rfl, rfl, rfl, rfl⟩
def forB (l : Bs) : Bool := !l.all ascC || (splitB 46 l).any (fun p => List.isPrefixOf xnL p)
def ForI (l : Bs) (i : Int) : Prop := ∃ j : Nat, i = j ∧ j ≤ (splitB 46 l).length ∧ ((splitB 46 l).take j).any (fun p => List.isPrefixOf xnL p) = false

def X_rforeign : Tbl := tblX [(50, ent_parts)]
def H_rforeign (l : Bs) : Loops := fun i => bif Nat.beq i 2 then some ⟨(Int), (fun s x => (((s.put 3 (.int .i64 x)).put 9 .undef).put 15 .undef)), (fun s => s.int 3), (fun s x => let i := x; UntI l i), (fun s x => let i := x; ((l.length : Int) - i).toNat), [9, 15]⟩ else bif Nat.beq i 8 then some ⟨(Int), (fun s x => (((s.put 5 (.int .i64 x)).put 21 .undef).put 37 .undef)), (fun s => s.int 5), (fun s x => let i := x; ForI l i), (fun s x => let i := x; (((splitB 46 l).length : Int) - i).toNat), [21, 37]⟩ else none
theorem X_rforeign_ok : XOk Tryz.prog noT X_rforeign := tblX_cons ent_parts_ok (tblX_nil)
theorem vc_rforeign (l : Bs) (k : PV → Prop) : evF Tryz.prog X_rforeign noT (H_rforeign l) 1000 Tryz.f22 [.str l] k = (
  VS.mk []
 [(nat_lit 0, PV.str l), (nat_lit 2, PV.bool false), (nat_lit 3, PV.int Go.IntKind.i64 (0 : Int)), (nat_lit 4, PV.undef),
 (nat_lit 5, PV.undef), ((9 : Nat), PV.undef), ((15 : Nat), PV.undef), (nat_lit 21, PV.undef), (nat_lit 37, PV.undef)]
 [] =
 VS.mk []
 [(nat_lit 0, PV.str l), (nat_lit 2, PV.bool false), ((3 : Nat), PV.int Go.IntKind.i64 (0 : Int)), (nat_lit 4, PV.undef),
 (nat_lit 5, PV.undef), ((9 : Nat), PV.undef), ((15 : Nat), PV.undef), (nat_lit 21, PV.undef), (nat_lit 37, PV.undef)]
 [] ∧
 UntI l (0 : Int) ∧
 ∀ (x : Int),
 UntI l x →
 (decide (x < lenZ l) = true →
 within x (lenZ l) ∧
 (decide ((127 : Int) < byteZ l x) = true → k (PV.bool true)) ∧
 (decide ((127 : Int) < byteZ l x) = false →
 inI64 (x + (1 : Int)) ∧
 VS.mk []
 [(nat_lit 0, PV.str l), (nat_lit 2, PV.bool false), ((3 : Nat), PV.int Go.IntKind.i64 (x + (1 : Int))),
 (nat_lit 4, PV.undef), (nat_lit 5, PV.undef), ((9 : Nat), PV.undef), ((15 : Nat), PV.undef),
 (nat_lit 21, PV.undef), (nat_lit 37, PV.undef)]
 [] =
 VS.mk []
 [(nat_lit 0, PV.str l), (nat_lit 2, PV.bool false), ((3 : Nat), PV.int Go.IntKind.i64 (x + (1 : Int))),
 (nat_lit 4, PV.undef), (nat_lit 5, PV.undef), ((9 : Nat), PV.undef), ((15 : Nat), PV.undef),
 (nat_lit 21, PV.undef), (nat_lit 37, PV.undef)]
 [] ∧
 UntI l (x + (1 : Int)) ∧ (↑(List.length l) - (x + (1 : Int))).toNat < (↑(List.length l) - x).toNat)) ∧
 (decide (x < lenZ l) = false →
 (List.length l ≤ (1000 : Nat) ∧ (0 : Int) ≤ (46 : Int) ∧ (46 : Int) ≤ (255 : Int)) ∧
 VS.mk []
 [(nat_lit 0, PV.str l), (nat_lit 2, PV.bool false), ((3 : Nat), PV.int Go.IntKind.i64 x),
 (nat_lit 4, PV.row false (BRow.strs (splitB (46 : Int) l)) (0 : Nat)),
 (nat_lit 5, PV.int Go.IntKind.i64 (0 : Int)), ((9 : Nat), PV.bool (decide (x < lenZ l))), ((15 : Nat), PV.undef),
 ((21 : Nat), PV.undef), ((37 : Nat), PV.undef)]
 [] =
 VS.mk []
 [(nat_lit 0, PV.str l), (nat_lit 2, PV.bool false), ((3 : Nat), PV.int Go.IntKind.i64 x),
 (nat_lit 4, PV.row false (BRow.strs (splitB (46 : Int) l)) (0 : Nat)),
 ((5 : Nat), PV.int Go.IntKind.i64 (0 : Int)), ((9 : Nat), PV.bool (decide (x < lenZ l))), ((15 : Nat), PV.undef),
 ((21 : Nat), PV.undef), ((37 : Nat), PV.undef)]
 [] ∧
 ForI l (0 : Int) ∧
 ∀ (x_1 : Int),
 ForI l x_1 →
 (decide (x_1 < Int.ofNat (splitB (46 : Int) l).length) = true →
 within x_1 (Int.ofNat (splitB (46 : Int) l).length) ∧
 (decide ((4 : Int) ≤ lenZ (strZ (splitB (46 : Int) l) x_1)) = true →
 within x_1 (Int.ofNat (splitB (46 : Int) l).length)) ∧
 (decide ((4 : Int) ≤ lenZ (strZ (splitB (46 : Int) l) x_1)) = true →
 upto (0 : Int) (4 : Int) (lenZ (strZ (splitB (46 : Int) l) x_1))) ∧
 ((bif decide ((4 : Int) ≤ lenZ (strZ (splitB (46 : Int) l) x_1)) then
 decide
 (takeZ (strZ (splitB (46 : Int) l) x_1) (4 : Int) =
 (ByteArray.mk #[(120 : UInt8), (110 : UInt8), (45 : UInt8), (45 : UInt8)]).data.toList)
 else false) =
 true →
 k (PV.bool true)) ∧
 ((bif decide ((4 : Int) ≤ lenZ (strZ (splitB (46 : Int) l) x_1)) then
 decide
 (takeZ (strZ (splitB (46 : Int) l) x_1) (4 : Int) =
 (ByteArray.mk #[(120 : UInt8), (110 : UInt8), (45 : UInt8), (45 : UInt8)]).data.toList)
 else false) =
 false →
 inI64 (x_1 + (1 : Int)) ∧
 VS.mk []
 [(nat_lit 0, PV.str l), (nat_lit 2, PV.bool false), ((3 : Nat), PV.int Go.IntKind.i64 x),
 (nat_lit 4,
 PV.row false (BRow.strs (splitB (46 : Int) l)) (0 : Nat)),
 ((5 : Nat), PV.int Go.IntKind.i64 (x_1 + (1 : Int))),
 ((9 : Nat), PV.bool (decide (x < lenZ l))), ((15 : Nat), PV.undef),
 ((21 : Nat), PV.undef), ((37 : Nat), PV.undef)]
 [] =
 VS.mk []
 [(nat_lit 0, PV.str l), (nat_lit 2, PV.bool false), ((3 : Nat), PV.int Go.IntKind.i64 x),
 (nat_lit 4,
 PV.row false (BRow.strs (splitB (46 : Int) l)) (0 : Nat)),
 ((5 : Nat), PV.int Go.IntKind.i64 (x_1 + (1 : Int))),
 ((9 : Nat), PV.bool (decide (x < lenZ l))), ((15 : Nat), PV.undef),
 ((21 : Nat), PV.undef), ((37 : Nat), PV.undef)]
 [] ∧
 ForI l (x_1 + (1 : Int)) ∧
 (↑(splitB (46 : Int) l).length - (x_1 + (1 : Int))).toNat <
 (↑(splitB (46 : Int) l).length - x_1).toNat)) ∧
 (decide (x_1 < Int.ofNat (splitB (46 : Int) l).length) = false → k (PV.bool false)))) := by kernel_rfl
attribute [local irreducible] Go.Vc.evF
theorem ok_rforeign (l : Bs) : FuncOk Tryz.prog noT 22 [.str l] ⟨l.length ≤ 1000, .bool (forB l)⟩ := evF_ok (by kernel_rfl) X_rforeign_ok (H := H_rforeign l) (fuel := 1000) Tryz.func22 (by kernel_rfl) fun hpre => (vc_rforeign l _).mpr (by
  have hof : Int.ofNat (splitB 46 l).length = ((splitB 46 l).length : Int) := rfl
  rw [hof]
  refine ⟨rfl, ⟨0, rfl, by omega, rfl⟩, fun x hx => ?_⟩
  obtain ⟨j, rfl, hj, ha⟩ := hx
  have e1 : (j : Int) + 1 = ((j + 1 : Nat) : Int) := by push_cast; rfl
  have hb : byteZ l (j : Int) = ((l.getD j 0).toNat : Int) := rfl
  rw [e1, hb]
  refine ⟨fun h => ?_, fun h => ?_⟩
  · have hjl : j < l.length := by have := of_decide_eq_true h; unfold lenZ at this; omega
    refine ⟨by unfold within lenZ; omega, fun h2 => ?_, fun h2 => ⟨by unfold inI64; omega, rfl, ⟨j + 1, rfl, by omega, ?_⟩, by omega⟩⟩
    · have hf : l.all ascC = false := by
        rw [Bool.eq_false_iff]
        intro g
        have g1 := List.all_eq_true.1 g _ (getD_in l j hjl)
        unfold ascC at g1
        have g2 := of_decide_eq_true g1
        have g3 := of_decide_eq_true h2
        omega
      show PV.bool true = PV.bool (forB l)
      unfold forB
      rw [hf]; rfl
    · have g3 := of_decide_eq_false h2
      rw [all_step ascC l j hjl, ha, Bool.true_and]
      unfold ascC
      exact decide_eq_true (by omega)
  · have hjl : j = l.length := by have := of_decide_eq_false h; unfold lenZ at this; omega
    rw [hjl, List.take_length] at ha
    refine ⟨⟨hpre, by decide, by decide⟩, rfl, ⟨0, rfl, by omega, rfl⟩, fun y hy => ?_⟩
    obtain ⟨i, rfl, hi, hb2⟩ := hy
    have e2 : (i : Int) + 1 = ((i + 1 : Nat) : Int) := by push_cast; rfl
    have hp := split_px (strZ (splitB 46 l) (i : Int))
    have hs : strZ (splitB 46 l) (i : Int) = (splitB 46 l).getD i [] := rfl
    refine ⟨fun h => ?_, fun h => ?_⟩
    · have hil : i < (splitB 46 l).length := by have := of_decide_eq_true h; omega
      refine ⟨by unfold within; omega, fun _ => by unfold within; omega, fun h3 => ⟨by omega, by omega, of_decide_eq_true h3⟩, fun h3 => ?_, fun h3 => ⟨by unfold inI64; have := (splitB_len 46 l).1; omega, rfl, ⟨i + 1, e2, by omega, ?_⟩, by omega⟩⟩
      · have h4 : List.isPrefixOf xnL (strZ (splitB 46 l) (i : Int)) = true := by rw [← hp]; exact h3
        have h5 : (splitB 46 l).any (fun p => List.isPrefixOf xnL p) = true := by
          refine List.any_eq_true.2 ⟨strZ (splitB 46 l) (i : Int), ?_, h4⟩
          rw [hs, List.getD_eq_getElem?_getD, List.getElem?_eq_getElem hil]
          exact List.getElem_mem hil
        show PV.bool true = PV.bool (forB l)
        unfold forB
        rw [h5, Bool.or_true]
      · have h4 : List.isPrefixOf xnL (strZ (splitB 46 l) (i : Int)) = false := by rw [← hp]; exact h3
        rw [any_stepL _ _ i hil, hb2, ← hs, h4]; rfl
    · have hil : i = (splitB 46 l).length := by have := of_decide_eq_false h; omega
      rw [hil, List.take_length] at hb2
      show PV.bool false = PV.bool (forB l)
      unfold forB
      rw [ha, hb2]; rfl)
def ent_rforeign : List PV → Option CallR := fun xs => match xs with
  | [.str l] => some ⟨l.length ≤ 1000, .bool (forB l)⟩
  | _ => none
theorem ent_rforeign_ok : ∀ xs c, ent_rforeign xs = some c → FuncOk Tryz.prog noT 22 xs c := fun xs c h => by
  unfold ent_rforeign at h
  split at h
  · injection h with h; subst h; exact ok_rforeign _
  · cases h
end Go.Proofs.YtjljhkjpogjdhaaGreatDoor
end
/- The function gossamer/gossamerref10.Parse does what is told of it. -/
section
set_option linter.unusedVariables false
set_option linter.unusedSimpArgs false
set_option maxRecDepth 100000
set_option maxHeartbeats 4000000
namespace Go.Proofs.YtjljhkjpogjdhaaGreatDoor
open Go Go.Proofs Go.RowKit Go.Vc

def rsixR (l : Bs) : H5 := if byt l (l.length - 1) = 93 ∧ (refSix ((l.take (l.length - 1)).drop 1)).2 = true then (4, [], 0, (refSix ((l.take (l.length - 1)).drop 1)).1, 0) else noH 8
def rdomR (d : Bs) : H5 := if forB d = true then noH 9 else if d = [] ∨ anyO d true = true then noH 8 else if rend4 d = true then (if fourO d = true then (3, [], dotV d, z8, 0) else noH 8) else (2, d, 0, z8, 0)
def refH (l : Bs) (sp : Bool) : H5 := if 0 < l.length ∧ byt l 0 = 91 then rsixR l else if sp = false then (if anyO l false = true then noH 8 else if l = [] then (1, [], 0, z8, 0) else (5, rencS l, 0, z8, 0)) else rdomR (lowB (decP l))

def X_rhost : Tbl := tblX [(17, ent_rparse), (18, ent_ranyodd), (19, ent_renc), (21, ent_rpdec), (20, ent_rlower), (22, ent_rforeign), (23, ent_rends), (24, ent_rfour)]
def H_rhost (l : Bs) (sp : Bool) : Loops := fun i => none
theorem X_rhost_ok : XOk Tryz.prog noT X_rhost := tblX_cons ent_rparse_ok (tblX_cons ent_ranyodd_ok (tblX_cons ent_renc_ok (tblX_cons ent_rpdec_ok (tblX_cons ent_rlower_ok (tblX_cons ent_rforeign_ok (tblX_cons ent_rends_ok (tblX_cons ent_rfour_ok (tblX_nil))))))))
theorem vc_rhost (l : Bs) (sp : Bool) (k : PV → Prop) : evF Tryz.prog X_rhost noT (H_rhost l sp) 1000 Tryz.f7 [.str l, .bool sp] k = (
  (decide ((0 : Int) < lenZ l) = true → within (0 : Int) (lenZ l)) ∧
 ((bif decide ((0 : Int) < lenZ l) then decide (byteZ l (0 : Int) = (91 : Int)) else false) = true →
 inI64 (lenZ l - (1 : Int)) ∧
 within (lenZ l - (1 : Int)) (lenZ l) ∧
 ((!decide (byteZ l (lenZ l - (1 : Int)) = (93 : Int))) = true →
 k
 (PV.tup
 [PV.agg
 [PV.int Go.IntKind.i64 (0 : Int), PV.str [], PV.int Go.IntKind.u32 (0 : Int),
 PV.arr (8 : Nat) (BRow.ints Go.IntKind.u16 (List.replicate (8 : Nat) (0 : Int)))],
 PV.int Go.IntKind.i64 (8 : Int)])) ∧
 ((!decide (byteZ l (lenZ l - (1 : Int)) = (93 : Int))) = false →
 inI64 (lenZ l - (1 : Int)) ∧
 upto (1 : Int) (lenZ l - (1 : Int)) (lenZ l) ∧
 (cutZ l (1 : Int) (lenZ l - (1 : Int))).length.le (1000 : Nat) ∧
 ((!(refSix (cutZ l (1 : Int) (lenZ l - (1 : Int)))).snd) = true →
 k
 (PV.tup
 [PV.agg
 [PV.int Go.IntKind.i64 (0 : Int), PV.str [], PV.int Go.IntKind.u32 (0 : Int),
 PV.arr (8 : Nat) (BRow.ints Go.IntKind.u16 (List.replicate (8 : Nat) (0 : Int)))],
 PV.int Go.IntKind.i64 (8 : Int)])) ∧
 ((!(refSix (cutZ l (1 : Int) (lenZ l - (1 : Int)))).snd) = false →
 k
 (PV.tup
 [PV.agg
 [PV.int Go.IntKind.i64 (4 : Int), PV.str [], PV.int Go.IntKind.u32 (0 : Int),
 PV.arr (8 : Nat)
 (BRow.ints Go.IntKind.u16
 (refSix (cutZ l (1 : Int) (lenZ l - (1 : Int)))).fst)],
 PV.int Go.IntKind.i64 (0 : Int)])))) ∧
 ((bif decide ((0 : Int) < lenZ l) then decide (byteZ l (0 : Int) = (91 : Int)) else false) = false →
 ((!sp) = true →
 (List.length l).le (1000000 : Nat) ∧
 (anyO l false = true →
 k
 (PV.tup
 [PV.agg
 [PV.int Go.IntKind.i64 (0 : Int), PV.str [], PV.int Go.IntKind.u32 (0 : Int),
 PV.arr (8 : Nat) (BRow.ints Go.IntKind.u16 (List.replicate (8 : Nat) (0 : Int)))],
 PV.int Go.IntKind.i64 (8 : Int)])) ∧
 (anyO l false = false →
 (decide (l = (ByteArray.mk #[]).data.toList) = true →
 k
 (PV.tup
 [PV.agg
 [PV.int Go.IntKind.i64 (1 : Int), PV.str [], PV.int Go.IntKind.u32 (0 : Int),
 PV.arr (8 : Nat) (BRow.ints Go.IntKind.u16 (List.replicate (8 : Nat) (0 : Int)))],
 PV.int Go.IntKind.i64 (0 : Int)])) ∧
 (decide (l = (ByteArray.mk #[]).data.toList) = false →
 (List.length l).le (300000 : Nat) ∧
 k
 (PV.tup
 [PV.agg
 [PV.int Go.IntKind.i64 (5 : Int), PV.str (rencS l),
 PV.int Go.IntKind.u32 (0 : Int),
 PV.arr (8 : Nat) (BRow.ints Go.IntKind.u16 (List.replicate (8 : Nat) (0 : Int)))],
 PV.int Go.IntKind.i64 (0 : Int)])))) ∧
 ((!sp) = false →
 (List.length l).le (1000000 : Nat) ∧
 (List.length (decP l)).le (1000000 : Nat) ∧
 (List.length (lowB (decP l))).le (1000 : Nat) ∧
 (forB (lowB (decP l)) = true →
 k
 (PV.tup
 [PV.agg
 [PV.int Go.IntKind.i64 (0 : Int), PV.str [], PV.int Go.IntKind.u32 (0 : Int),
 PV.arr (8 : Nat) (BRow.ints Go.IntKind.u16 (List.replicate (8 : Nat) (0 : Int)))],
 PV.int Go.IntKind.i64 (9 : Int)])) ∧
 (forB (lowB (decP l)) = false →
 (decide (lowB (decP l) = (ByteArray.mk #[]).data.toList) = false →
 (List.length (lowB (decP l))).le (1000000 : Nat)) ∧
 ((bif decide (lowB (decP l) = (ByteArray.mk #[]).data.toList) then
 true
 else
 anyO (lowB (decP l))
 true) =
 true →
 k
 (PV.tup
 [PV.agg
 [PV.int Go.IntKind.i64 (0 : Int), PV.str [], PV.int Go.IntKind.u32 (0 : Int),
 PV.arr (8 : Nat) (BRow.ints Go.IntKind.u16 (List.replicate (8 : Nat) (0 : Int)))],
 PV.int Go.IntKind.i64 (8 : Int)])) ∧
 ((bif
 decide
 (lowB (decP l) = (ByteArray.mk #[]).data.toList) then
 true
 else
 anyO (lowB (decP l))
 true) =
 false →
 (List.length (lowB (decP l))).le (1000000 : Nat) ∧
 (rend4 (lowB (decP l)) =
 true →
 (List.length (lowB (decP l))).le (1000000 : Nat) ∧
 ((!fourO
 (lowB (decP l))) =
 true →
 k
 (PV.tup
 [PV.agg
 [PV.int Go.IntKind.i64 (0 : Int), PV.str [], PV.int Go.IntKind.u32 (0 : Int),
 PV.arr (8 : Nat) (BRow.ints Go.IntKind.u16 (List.replicate (8 : Nat) (0 : Int)))],
 PV.int Go.IntKind.i64 (8 : Int)])) ∧
 ((!fourO
 (lowB (decP l))) =
 false →
 k
 (PV.tup
 [PV.agg
 [PV.int Go.IntKind.i64 (3 : Int), PV.str [],
 PV.int Go.IntKind.u32
 (dotV
 (lowB (decP l))),
 PV.arr (8 : Nat) (BRow.ints Go.IntKind.u16 (List.replicate (8 : Nat) (0 : Int)))],
 PV.int Go.IntKind.i64 (0 : Int)]))) ∧
 (rend4
 (lowB (decP l)) =
 false →
 k
 (PV.tup
 [PV.agg
 [PV.int Go.IntKind.i64 (2 : Int),
 PV.str (lowB (decP l)),
 PV.int Go.IntKind.u32 (0 : Int),
 PV.arr (8 : Nat) (BRow.ints Go.IntKind.u16 (List.replicate (8 : Nat) (0 : Int)))],
 PV.int Go.IntKind.i64 (0 : Int)]))))))) := by kernel_rfl
attribute [local irreducible] Go.Vc.evF
theorem ok_rhost (l : Bs) (sp : Bool) : FuncOk Tryz.prog noT 7 [.str l, .bool sp] ⟨l.length ≤ 1000, .tup [.agg [.int .i64 (refH l sp).1, .str (refH l sp).2.1, .int .u32 (refH l sp).2.2.1, .arr 8 (.ints .u16 (refH l sp).2.2.2.1)], .int .i64 (refH l sp).2.2.2.2]⟩ := evF_ok (by kernel_rfl) X_rhost_ok (H := H_rhost l sp) (fuel := 1000) Tryz.func7 (by kernel_rfl) fun hpre => (vc_rhost l sp _).mpr (by
  have hl : l.length ≤ 1000 := hpre
  have e0 : (bif decide ((0 : Int) < lenZ l) then decide (byteZ l 0 = 91) else false) = decide (0 < l.length ∧ byt l 0 = 91) := by
    by_cases h : 0 < l.length
    · rw [decide_eq_true (show (0 : Int) < lenZ l by unfold lenZ; omega), cond_true, decide_eq_decide]
      exact ⟨fun g => ⟨h, g⟩, fun g => g.2⟩
    · rw [decide_eq_false (show ¬ (0 : Int) < lenZ l by unfold lenZ; omega), cond_false]
      symm
      exact decide_eq_false fun g => h g.1
  rw [e0]
  have notE : ∀ b : Bool, (!b) = true → b = false := fun b h => by cases b; rfl; cases h
  have notF : ∀ b : Bool, (!b) = false → b = true := fun b h => by cases b; cases h; rfl
  refine ⟨fun h => ?_, fun h => ?_, fun h => ?_⟩
  · have := of_decide_eq_true h; unfold within; omega
  · have hb := of_decide_eq_true h
    have hb1 := hb.1
    have e1 : byteZ l (lenZ l - 1) = byt l (l.length - 1) := by unfold byteZ byt lenZ; congr 2; congr 1; omega
    have e2 : cutZ l 1 (lenZ l - 1) = (l.take (l.length - 1)).drop 1 := by
      unfold cutZ lenZ
      rw [show ((l.length : Int) - 1).toNat = l.length - 1 by omega]; rfl
    have hR : refH l sp = rsixR l := by unfold refH; rw [if_pos hb]
    rw [e1, e2, hR]
    refine ⟨by unfold inI64 lenZ; omega, by unfold within lenZ; omega, fun h2 => ?_, fun h2 => ?_⟩
    · have h3 : ¬ byt l (l.length - 1) = 93 := of_decide_eq_false (notE _ h2)
      have : rsixR l = noH 8 := by unfold rsixR; rw [if_neg (fun g => h3 g.1)]
      rw [this]; rfl
    · have h3 : byt l (l.length - 1) = 93 := of_decide_eq_true (notF _ h2)
      have h4 : 2 ≤ l.length := by
        have hb2 := hb.2
        by_cases g : l.length = 1
        · rw [g] at h3; rw [h3] at hb2; omega
        · omega
      refine ⟨by unfold inI64 lenZ; omega, ⟨by omega, by unfold lenZ; omega, by unfold lenZ; omega⟩, ?_, fun h5 => ?_, fun h5 => ?_⟩
      · show ((l.take (l.length - 1)).drop 1).length ≤ 1000
        rw [List.length_drop, List.length_take]; omega
      · have h6 := notE _ h5
        have : rsixR l = noH 8 := by unfold rsixR; rw [if_neg (fun g => by rw [h6] at g; cases g.2)]
        rw [this]; rfl
      · have h6 := notF _ h5
        have : rsixR l = (4, [], 0, (refSix ((l.take (l.length - 1)).drop 1)).1, 0) := by unfold rsixR; rw [if_pos ⟨h3, h6⟩]
        rw [this]
  · have hb := of_decide_eq_false h
    refine ⟨fun h2 => ?_, fun h2 => ?_⟩
    · have hs := notE _ h2
      subst hs
      have hR : refH l false = if anyO l false = true then noH 8 else if l = [] then (1, [], 0, z8, 0) else (5, rencS l, 0, z8, 0) := by unfold refH; rw [if_neg hb, if_pos rfl]
      rw [hR]
      refine ⟨Nat.le_trans hl (by decide), fun h3 => ?_, fun h3 => ⟨fun h4 => ?_, fun h4 => ⟨Nat.le_trans hl (by decide), ?_⟩⟩⟩
      · rw [if_pos h3]; rfl
      · have h4' : l = [] := of_decide_eq_true h4
        rw [if_neg (by rw [h3]; decide), if_pos h4']; rfl
      · have h4' : ¬ l = [] := of_decide_eq_false h4
        rw [if_neg (by rw [h3]; decide), if_neg h4']; rfl
    · have hs := notF _ h2
      subst hs
      have hd1 := decP_len l
      have hd2 := lowB_len (decP l)
      have hR : refH l true = rdomR (lowB (decP l)) := by unfold refH; rw [if_neg hb, if_neg (by decide)]
      rw [hR]
      have hd : (lowB (decP l)).length ≤ 1000 := by omega
      obtain ⟨d, hdd⟩ : ∃ d, lowB (decP l) = d := ⟨_, rfl⟩
      rw [hdd] at hd ⊢
      have hd6 : d.length ≤ 1000000 := by omega
      refine ⟨Nat.le_trans hl (by decide), Nat.le_trans (Nat.le_trans hd1 hl) (by decide), hd, fun h3 => ?_, fun h3 => ⟨fun _ => hd6, fun h4 => ?_, fun h4 => ⟨hd6, fun h5 => ⟨hd6, fun h6 => ?_, fun h6 => ?_⟩, fun h5 => ?_⟩⟩⟩
      · have : rdomR d = noH 9 := by unfold rdomR; rw [if_pos h3]
        rw [this]; rfl
      · have h5 : d = [] ∨ anyO d true = true := by
          cases e : decide (d = (ByteArray.mk #[]).data.toList) with
          | true => exact .inl (of_decide_eq_true e)
          | false => rw [e] at h4; exact .inr h4
        have : rdomR d = noH 8 := by unfold rdomR; rw [if_neg (by rw [h3]; decide), if_pos h5]
        rw [this]; rfl
      all_goals (have h7 : ¬ (d = [] ∨ anyO d true = true) := (by
          cases e : decide (d = (ByteArray.mk #[]).data.toList) with
          | true => rw [e] at h4; cases h4
          | false =>
            rw [e] at h4
            have e2 : ¬ d = [] := of_decide_eq_false e
            have h8 : anyO d true = false := h4
            rintro (g | g)
            · exact e2 g
            · rw [h8] at g; cases g))
      · have h8 := notE _ h6
        have : rdomR d = noH 8 := by unfold rdomR; rw [if_neg (by rw [h3]; decide), if_neg h7, if_pos h5, if_neg (by rw [h8]; decide)]
        rw [this]; rfl
      · have h8 := notF _ h6
        have : rdomR d = (3, [], dotV d, z8, 0) := by unfold rdomR; rw [if_neg (by rw [h3]; decide), if_neg h7, if_pos h5, if_pos h8]
        rw [this]; rfl
      · have : rdomR d = (2, d, 0, z8, 0) := by unfold rdomR; rw [if_neg (by rw [h3]; decide), if_neg h7, if_neg (by rw [h5]; decide)]
        rw [this]; rfl)
def ent_rhost : List PV → Option CallR := fun xs => match xs with
  | [.str l, .bool sp] => some ⟨l.length ≤ 1000, .tup [.agg [.int .i64 (refH l sp).1, .str (refH l sp).2.1, .int .u32 (refH l sp).2.2.1, .arr 8 (.ints .u16 (refH l sp).2.2.2.1)], .int .i64 (refH l sp).2.2.2.2]⟩
  | _ => none
theorem ent_rhost_ok : ∀ xs c, ent_rhost xs = some c → FuncOk Tryz.prog noT 7 xs c := fun xs c h => by
  unfold ent_rhost at h
  split at h
  · injection h with h; subst h; exact ok_rhost _ _
  · cases h
end Go.Proofs.YtjljhkjpogjdhaaGreatDoor
end
/- The function gossamer/host.Show does what is told of it. -/
section
set_option linter.unusedVariables false
set_option linter.unusedSimpArgs false
set_option maxRecDepth 100000
set_option maxHeartbeats 4000000
namespace Go.Proofs.YtjljhkjpogjdhaaGreatDoor
open Go Go.Proofs Go.RowKit Go.Vc

def X_hshow : Tbl := tblX []
def H_hshow (kd : Int) (l : Bs) (n : Int) (p : List Int) : Loops := fun i => none
theorem X_hshow_ok : XOk Tryz.prog noT X_hshow := tblX_nil
theorem vc_hshow (kd : Int) (l : Bs) (n : Int) (p : List Int) (k : PV → Prop) : evF Tryz.prog X_hshow noT (H_hshow kd l n p) 1000 Tryz.f8 [.agg [.int .i64 kd, .str l, .int .u32 n, .arr 8 (.ints .u16 p)]] k = (
  (decide (kd = (4 : Int)) = true → False) ∧
 (decide (kd = (4 : Int)) = false →
 (decide (kd = (3 : Int)) = true → False) ∧
 (decide (kd = (3 : Int)) = false →
 (decide (kd = (2 : Int)) = true →
 (decide (kd = (2 : Int)) = true → k (PV.str l)) ∧ (decide (kd = (2 : Int)) = false → k (PV.str (ByteArray.mk #[]).data.toList))) ∧
 (decide (kd = (2 : Int)) = false →
 (decide (kd = (5 : Int)) = true → k (PV.str l)) ∧ (decide (kd = (5 : Int)) = false → k (PV.str (ByteArray.mk #[]).data.toList)))))) := by kernel_rfl
attribute [local irreducible] Go.Vc.evF
theorem ok_hshow (kd : Int) (l : Bs) (n : Int) (p : List Int) : FuncOk Tryz.prog noT 8 [.agg [.int .i64 kd, .str l, .int .u32 n, .arr 8 (.ints .u16 p)]] ⟨kd = 2, .str l⟩ := evF_ok (by kernel_rfl) X_hshow_ok (H := H_hshow kd l n p) (fuel := 1000) Tryz.func8 (by kernel_rfl) fun hpre => (vc_hshow kd l n p _).mpr (by
  subst hpre
  refine ⟨fun h => absurd h (by decide), fun _ => ⟨fun h => absurd h (by decide), fun _ => ⟨fun _ => ⟨fun _ => rfl, fun h => absurd h (by decide)⟩, fun h => absurd h (by decide)⟩⟩⟩)
def ent_hshow : List PV → Option CallR := fun xs => match xs with
  | [.agg [.int .i64 kd, .str l, .int .u32 n, .arr 8 (.ints .u16 p)]] => some ⟨kd = 2, .str l⟩
  | _ => none
theorem ent_hshow_ok : ∀ xs c, ent_hshow xs = some c → FuncOk Tryz.prog noT 8 xs c := fun xs c h => by
  unfold ent_hshow at h
  split at h
  · injection h with h; subst h; exact ok_hshow _ _ _ _
  · cases h
end Go.Proofs.YtjljhkjpogjdhaaGreatDoor
end
/- The function gossamer/host.May does what is told of it. -/
section
set_option linter.unusedVariables false
set_option linter.unusedSimpArgs false
set_option maxRecDepth 100000
set_option maxHeartbeats 4000000
namespace Go.Proofs.YtjljhkjpogjdhaaGreatDoor
open Go Go.Proofs Go.RowKit Go.Vc

def X_hmay : Tbl := tblX [(8, ent_hshow), (6, ent_hparse)]
def H_hmay (kd : Int) (l : Bs) (n : Int) (p : List Int) : Loops := fun i => none
theorem X_hmay_ok : XOk Tryz.prog noT X_hmay := tblX_cons ent_hshow_ok (tblX_cons ent_hparse_ok (tblX_nil))
theorem vc_hmay (kd : Int) (l : Bs) (n : Int) (p : List Int) (k : PV → Prop) : evF Tryz.prog X_hmay noT (H_hmay kd l n p) 1000 Tryz.f10 [.agg [.int .i64 kd, .str l, .int .u32 n, .arr 8 (.ints .u16 p)], .bool true] k = (
  kd = (2 : Int) ∧
 (List.length l).le (1000000 : Nat) ∧
 k
 (PV.bool
 (bif decide ((hostM l).snd.snd.snd.snd = (0 : Int)) then
 Bool.rec false
 (decide ((hostM l).snd.fst = l) &&
 (decide ((hostM l).snd.snd.fst = n) &&
 (decide ((hostM l).snd.snd.snd.fst = p) && true)))
 (decide ((hostM l).fst = kd))
 else false))) := by kernel_rfl
attribute [local irreducible] Go.Vc.evF
theorem ok_hmay (kd : Int) (l : Bs) (n : Int) (p : List Int) : FuncOk Tryz.prog noT 10 [.agg [.int .i64 kd, .str l, .int .u32 n, .arr 8 (.ints .u16 p)], .bool true] ⟨kd = 2 ∧ l.length ≤ 1000000 ∧ hostM l = (kd, l, n, p, 0), .bool true⟩ := evF_ok (by kernel_rfl) X_hmay_ok (H := H_hmay kd l n p) (fuel := 1000) Tryz.func10 (by kernel_rfl) fun hpre => (vc_hmay kd l n p _).mpr (by
  obtain ⟨h1, h2, h3⟩ := hpre
  refine ⟨h1, h2, ?_⟩
  rw [h3]
  dsimp only
  rw [decide_eq_true (rfl : kd = kd), decide_eq_true (rfl : l = l), decide_eq_true (rfl : n = n), decide_eq_true (rfl : p = p)]
  rfl)
def ent_hmay : List PV → Option CallR := fun xs => match xs with
  | [.agg [.int .i64 kd, .str l, .int .u32 n, .arr 8 (.ints .u16 p)], .bool true] => some ⟨kd = 2 ∧ l.length ≤ 1000000 ∧ hostM l = (kd, l, n, p, 0), .bool true⟩
  | _ => none
theorem ent_hmay_ok : ∀ xs c, ent_hmay xs = some c → FuncOk Tryz.prog noT 10 xs c := fun xs c h => by
  unfold ent_hmay at h
  split at h
  · injection h with h; subst h; exact ok_hmay _ _ _ _
  · cases h
end Go.Proofs.YtjljhkjpogjdhaaGreatDoor
end
/- The function gossamer/gossamerlaw10.awake does what is told of it. -/
section
set_option linter.unusedVariables false
set_option linter.unusedSimpArgs false
set_option maxRecDepth 100000
set_option maxHeartbeats 4000000
namespace Go.Proofs.YtjljhkjpogjdhaaGreatDoor
open Go Go.Proofs Go.RowKit Go.Vc

def X_awake : Tbl := tblX [(8, ent_hshow), (6, ent_hparse), (10, ent_hmay)]
def H_awake  : Loops := fun i => none
theorem X_awake_ok : XOk Tryz.prog noT X_awake := tblX_cons ent_hshow_ok (tblX_cons ent_hparse_ok (tblX_cons ent_hmay_ok (tblX_nil)))
theorem vc_awake  (k : PV → Prop) : evF Tryz.prog X_awake noT (H_awake ) 1000 Tryz.f5 [] k = (
  (ByteArray.mk
 #[(69 : UInt8), (88 : UInt8), (37 : UInt8), (52 : UInt8), (49 : UInt8), (109 : UInt8), (112 : UInt8), (108 : UInt8), (101 : UInt8), (46 : UInt8),
 (111 : UInt8), (114 : UInt8), (103 : UInt8)]).data.toList.length.le
 (1000000 : Nat) ∧
 (ByteArray.mk #[(97 : UInt8), (46 : UInt8), (98 : UInt8), (46 : UInt8), (55 : UInt8)]).data.toList.length.le (1000000 : Nat) ∧
 (ByteArray.mk #[(195 : UInt8), (169 : UInt8)]).data.toList.length.le (1000000 : Nat) ∧
 (decide ((9 : Int) = (9 : Int)) = true → (2 : Int) = (2 : Int)) ∧
 (decide
 (lowB
 (decP
 (ByteArray.mk
 #[(69 : UInt8), (88 : UInt8), (37 : UInt8), (52 : UInt8), (49 : UInt8), (109 : UInt8), (112 : UInt8), (108 : UInt8), (101 : UInt8),
 (46 : UInt8), (111 : UInt8), (114 : UInt8), (103 : UInt8)]).data.toList) =
 (ByteArray.mk
 #[(101 : UInt8), (120 : UInt8), (97 : UInt8), (109 : UInt8), (112 : UInt8), (108 : UInt8), (101 : UInt8), (46 : UInt8), (111 : UInt8),
 (114 : UInt8), (103 : UInt8)]).data.toList) =
 true →
 (2 : Int) = (2 : Int) ∧
 List.length
 (lowB
 (decP
 (ByteArray.mk
 #[(69 : UInt8), (88 : UInt8), (37 : UInt8), (52 : UInt8), (49 : UInt8), (109 : UInt8), (112 : UInt8), (108 : UInt8),
 (101 : UInt8), (46 : UInt8), (111 : UInt8), (114 : UInt8), (103 : UInt8)]).data.toList)) ≤
 (1000000 : Nat) ∧
 hostM
 (lowB
 (decP
 (ByteArray.mk
 #[(69 : UInt8), (88 : UInt8), (37 : UInt8), (52 : UInt8), (49 : UInt8), (109 : UInt8), (112 : UInt8), (108 : UInt8),
 (101 : UInt8), (46 : UInt8), (111 : UInt8), (114 : UInt8), (103 : UInt8)]).data.toList)) =
 ((2 : Int),
 lowB
 (decP
 (ByteArray.mk
 #[(69 : UInt8), (88 : UInt8), (37 : UInt8), (52 : UInt8), (49 : UInt8), (109 : UInt8), (112 : UInt8), (108 : UInt8),
 (101 : UInt8), (46 : UInt8), (111 : UInt8), (114 : UInt8), (103 : UInt8)]).data.toList),
 (0 : Int), z8, (0 : Int))) ∧
 k (PV.bool true)) := by kernel_rfl
attribute [local irreducible] Go.Vc.evF
theorem ok_awake  : FuncOk Tryz.prog noT 5 [] ⟨True, .bool true⟩ := evF_ok (by kernel_rfl) X_awake_ok (H := H_awake ) (fuel := 1000) Tryz.func5 (by kernel_rfl) fun hpre => (vc_awake  _).mpr (by
  refine ⟨Nat.le_of_ble_eq_true rfl, Nat.le_of_ble_eq_true rfl, Nat.le_of_ble_eq_true rfl, fun _ => rfl, fun _ => ⟨rfl, by decide, by kernel_rfl⟩, rfl⟩)
def ent_awake : List PV → Option CallR := fun xs => match xs with
  | [] => some ⟨True, .bool true⟩
  | _ => none
theorem ent_awake_ok : ∀ xs c, ent_awake xs = some c → FuncOk Tryz.prog noT 5 xs c := fun xs c h => by
  unfold ent_awake at h
  split at h
  · injection h with h; subst h; exact ok_awake 
  · cases h
end Go.Proofs.YtjljhkjpogjdhaaGreatDoor
end
