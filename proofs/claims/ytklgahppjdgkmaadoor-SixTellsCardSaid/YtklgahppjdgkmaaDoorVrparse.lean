/- The function gossamer/gossamerref9.Parse does what is told of it. -/
import Derived.Test.YtklgahppjdgkmaaDoorR4
import Derived.Test.YtklgahppjdgkmaaDoorProg
import Derived.ProofKit
import Derived.Test.YtklgahppjdgkmaaDoorVrow
set_option linter.unusedVariables false
set_option linter.unusedSimpArgs false
set_option maxRecDepth 100000
set_option maxHeartbeats 4000000
namespace Go.Proofs.YtklgahppjdgkmaaDoor
open Go Go.Proofs Go.RowKit Go.Vc

/-- Where two : stand first. -/
def gapF : Bs → Int → Int
  | c :: d :: r, i => if c = 58 ∧ d = 58 then i else gapF (d :: r) (i + 1)
  | _, _ => -1
def gapAt (l : Bs) : Int := gapF l 0
def w16 (l : List Int) : List Int := l.map fun z => IntKind.u16.wrap z
def refSix (l : Bs) : List Int × Bool := if gapAt l < 0 then (if (rowR l true).2 = true ∧ (rowR l true).1.length = 8 then (w16 (rowR l true).1, true) else (List.replicate 8 0, false))
  else if ((rowR (takeZ l (gapAt l)) false).2 = true ∧ (rowR (dropZ l (gapAt l + 2)) true).2 = true) ∧ (rowR (takeZ l (gapAt l)) false).1.length + (rowR (dropZ l (gapAt l + 2)) true).1.length ≤ 7 then
    (w16 (rowR (takeZ l (gapAt l)) false).1 ++ List.replicate (8 - ((rowR (takeZ l (gapAt l)) false).1.length + (rowR (dropZ l (gapAt l + 2)) true).1.length)) 0 ++ w16 (rowR (dropZ l (gapAt l + 2)) true).1, true) else (List.replicate 8 0, false)
def GapI (l : Bs) (at' i : Int) : Prop := 0 ≤ i ∧ i ≤ l.length ∧ ((at' = -1 ∧ gapF (l.drop i.toNat) i = gapAt l) ∨ (0 ≤ at' ∧ at' + 2 ≤ l.length ∧ at' = gapAt l))
/-- So many of a row are laid from a place on. -/
def LayI (r : List Int) (p0 p : List Int) (from' i : Int) : Prop := 0 ≤ i ∧ i ≤ r.length ∧ p = p0.take from'.toNat ++ (w16 r).take i.toNat ++ p0.drop (from'.toNat + i.toNat)
theorem lay_zero (r p0 : List Int) (f : Int) : LayI r p0 p0 f 0 := ⟨by omega, by omega, by
  rw [show Int.toNat 0 = 0 from rfl, List.take_zero, List.append_nil, Nat.add_zero, List.take_append_drop]⟩
theorem w16_len (r : List Int) : (w16 r).length = r.length := List.length_map _
theorem lay_step {r p0 p : List Int} {f i : Int} (h : LayI r p0 p f i) (hi : i < (r.length : Int)) (hf : 0 ≤ f) (hl : f + r.length ≤ (p0.length : Int)) : LayI r p0 (setZ p (f + i) (IntKind.u16.wrap (intZ r i))) f (i + 1) := by
  obtain ⟨h0, h1, h2⟩ := h
  refine ⟨by omega, by omega, ?_⟩
  have hln : (p0.take f.toNat ++ (w16 r).take i.toNat).length = (f + i).toNat := by
    rw [List.length_append, List.length_take, List.length_take, w16_len]; omega
  have hv : (w16 r)[i.toNat]? = some (IntKind.u16.wrap (intZ r i)) := by
    unfold w16 intZ
    rw [List.getElem?_map, List.getElem?_eq_getElem (by omega), List.getD_eq_getElem?_getD, List.getElem?_eq_getElem (by omega)]
    rfl
  have hw : (w16 r).take (i + 1).toNat = (w16 r).take i.toNat ++ [IntKind.u16.wrap (intZ r i)] := by
    rw [show (i + 1).toNat = i.toNat + 1 by omega, List.take_add_one, hv]
    rfl
  unfold setZ
  rw [h2, hw, List.set_append_right _ _ (by omega), hln, Nat.sub_self, List.drop_eq_getElem_cons (by omega), List.set_cons_zero, show f.toNat + (i + 1).toNat = f.toNat + i.toNat + 1 by omega]
  simp
theorem lay_end {r p0 p : List Int} {f i : Int} (h : LayI r p0 p f i) (hi : ¬ i < (r.length : Int)) : p = p0.take f.toNat ++ w16 r ++ p0.drop (f.toNat + r.length) := by
  obtain ⟨h0, h1, h2⟩ := h
  rw [h2, show i.toNat = r.length by omega, ← w16_len r, List.take_length]
theorem rowGo_len (last : Bool) : ∀ (ps : List Bs) (o : List Int), (rowGo last ps o).1.length ≤ o.length + 2 * ps.length
  | [], o => by unfold rowGo; simp
  | p :: ps, o => by
    unfold rowGo
    split
    · have e : (o ++ [(fourR p).1, (fourR p).2.1]).length = o.length + 2 := by simp
      rw [e, List.length_cons]; omega
    · split
      · have := rowGo_len last ps (o ++ [(pieceR p).1])
        rw [List.length_append, List.length_singleton] at this
        rw [List.length_cons]; omega
      · rw [List.length_cons]; show o.length ≤ _; omega
theorem rowR_len (l : Bs) (last : Bool) : (rowR l last).1.length ≤ 2 * (l.length + 1) := by
  unfold rowR
  split
  · simp
  · split
    · simp
    · have h1 := rowGo_len last (splitB 58 l) []
      have h2 := (splitB_len 58 l).1
      rw [List.length_nil] at h1
      omega
theorem gap_step {l : Bs} {i : Int} (h0 : 0 ≤ i) (h1 : i + 1 < (l.length : Int)) : gapF (l.drop i.toNat) i = if byteZ l i = 58 ∧ byteZ l (i + 1) = 58 then i else gapF (l.drop (i + 1).toNat) (i + 1) := by
  have e2 : l.drop (i + 1).toNat = l.getD (i + 1).toNat 0 :: l.drop ((i + 1).toNat + 1) := drop_one (by omega) h1
  rw [drop_one h0 (by omega), show i.toNat + 1 = (i + 1).toNat by omega, e2, gapF]
  have e : ∀ c : UInt8, ((c.toNat : Int) = 58) = (c = 58) := fun c => by
    apply propext
    constructor
    · intro h; apply UInt8.toNat_inj.1; show c.toNat = 58; omega
    · intro h; rw [h]; rfl
  unfold byteZ
  simp only [e]
theorem gap_end {l : Bs} {i : Int} (h0 : 0 ≤ i) (h1 : ¬ i + 1 < (l.length : Int)) : gapF (l.drop i.toNat) i = -1 := by
  have : (l.drop i.toNat).length ≤ 1 := by rw [List.length_drop]; omega
  match l.drop i.toNat, this with
  | [], _ => rfl
  | [_], _ => rfl

def X_rparse : Tbl := tblX [(20, ent_row)]
def H_rparse (l : Bs) : Loops := fun i => bif Nat.beq i 4 then some ⟨(Int) × (Int), (fun s x => ((((s.put 5 (.int .i64 x.1)).put 6 (.int .i64 x.2)).put 24 .undef).put 37 .undef)), (fun s => (s.int 5, s.int 6)), (fun s x => let a := x.1; let i := x.2; GapI l a i), (fun s x => let a := x.1; let i := x.2; ((l.length : Int) + 1 - i).toNat), [24, 37]⟩ else bif Nat.beq i 13 then some ⟨(List Int) × (Int), (fun s x => (((VS.mk s.loc s.env (setN 36 (.arr 8 (.ints .u16 x.1)) s.lh)).put 9 (.int .i64 x.2)).put 55 .undef)), (fun s => (VS.ints (VS.mk [] s.lh []) 36, s.int 9)), (fun s x => let p := x.1; let i := x.2; 0 ≤ i ∧ i ≤ 8 ∧ LayI (s.ints 7) (List.replicate 8 0) p 0 i), (fun s x => let p := x.1; let i := x.2; (8 - i).toNat), [55]⟩ else bif Nat.beq i 22 then some ⟨(List Int) × (Int), (fun s x => (((VS.mk s.loc s.env (setN 36 (.arr 8 (.ints .u16 x.1)) s.lh)).put 14 (.int .i64 x.2)).put 99 .undef)), (fun s => (VS.ints (VS.mk [] s.lh []) 36, s.int 14)), (fun s x => let p := x.1; let i := x.2; LayI (s.ints 10) (List.replicate 8 0) p 0 i), (fun s x => let p := x.1; let i := x.2; ((s.ints 10).length + 1 - i : Int).toNat), [99]⟩ else bif Nat.beq i 26 then some ⟨(List Int) × (Int), (fun s x => (((VS.mk s.loc s.env (setN 36 (.arr 8 (.ints .u16 x.1)) s.lh)).put 15 (.int .i64 x.2)).put 112 .undef)), (fun s => (VS.ints (VS.mk [] s.lh []) 36, s.int 15)), (fun s x => let p := x.1; let i := x.2; LayI (s.ints 12) (VS.ints (VS.mk [] s.lh []) 36) p (8 - (s.ints 12).length) i), (fun s x => let p := x.1; let i := x.2; ((s.ints 12).length + 1 - i : Int).toNat), [112]⟩ else none
theorem X_rparse_ok : XOk Tryd.prog noT X_rparse := tblX_cons ent_row_ok (tblX_nil)
theorem vc_rparse (l : Bs) (k : PV → Prop) : evF Tryd.prog X_rparse noT (H_rparse l) 1000 Tryd.f9 [.str l] k = (
  VS.mk []
 [(nat_lit 0, PV.str l), (nat_lit 2, PV.ptr ((2 : Nat) + (32 : Nat)) (0 : Nat)), (nat_lit 3, PV.bool false),
 (nat_lit 4, PV.ptr ((4 : Nat) + (32 : Nat)) (0 : Nat)), (nat_lit 5, PV.int Go.IntKind.i64 (-1 : Int)),
 (nat_lit 6, PV.int Go.IntKind.i64 (0 : Int)), (nat_lit 7, PV.undef), (nat_lit 8, PV.undef), (nat_lit 9, PV.undef),
 (nat_lit 10, PV.undef), (nat_lit 11, PV.undef), (nat_lit 12, PV.undef), (nat_lit 13, PV.undef), (nat_lit 14, PV.undef),
 (nat_lit 15, PV.undef), ((24 : Nat), PV.undef), ((37 : Nat), PV.undef), (nat_lit 40, PV.undef), (nat_lit 52, PV.undef),
 (nat_lit 55, PV.undef), (nat_lit 94, PV.undef), (nat_lit 99, PV.undef), (nat_lit 112, PV.undef)]
 [((4 : Nat) + (32 : Nat), PV.arr (8 : Nat) (BRow.ints Go.IntKind.u16 (List.replicate (8 : Nat) (0 : Int)))),
 ((2 : Nat) + (32 : Nat), PV.arr (8 : Nat) (BRow.ints Go.IntKind.u16 (List.replicate (8 : Nat) (0 : Int))))] =
 VS.mk []
 [(nat_lit 0, PV.str l), (nat_lit 2, PV.ptr ((2 : Nat) + (32 : Nat)) (0 : Nat)), (nat_lit 3, PV.bool false),
 (nat_lit 4, PV.ptr ((4 : Nat) + (32 : Nat)) (0 : Nat)), ((5 : Nat), PV.int Go.IntKind.i64 (-1 : Int)),
 ((6 : Nat), PV.int Go.IntKind.i64 (0 : Int)), (nat_lit 7, PV.undef), (nat_lit 8, PV.undef), (nat_lit 9, PV.undef),
 (nat_lit 10, PV.undef), (nat_lit 11, PV.undef), (nat_lit 12, PV.undef), (nat_lit 13, PV.undef), (nat_lit 14, PV.undef),
 (nat_lit 15, PV.undef), ((24 : Nat), PV.undef), ((37 : Nat), PV.undef), (nat_lit 40, PV.undef), (nat_lit 52, PV.undef),
 (nat_lit 55, PV.undef), (nat_lit 94, PV.undef), (nat_lit 99, PV.undef), (nat_lit 112, PV.undef)]
 [((4 : Nat) + (32 : Nat), PV.arr (8 : Nat) (BRow.ints Go.IntKind.u16 (List.replicate (8 : Nat) (0 : Int)))),
 ((2 : Nat) + (32 : Nat), PV.arr (8 : Nat) (BRow.ints Go.IntKind.u16 (List.replicate (8 : Nat) (0 : Int))))] ∧
 GapI l (-1 : Int) (0 : Int) ∧
 ∀ (x : Int × Int),
 GapI l x.fst x.snd →
 inI64 (x.snd + (1 : Int)) ∧
 ((bif decide (x.snd + (1 : Int) < lenZ l) then decide (x.fst < (0 : Int)) else false) = true →
 within x.snd (lenZ l) ∧
 (decide (byteZ l x.snd = (58 : Int)) = true → inI64 (x.snd + (1 : Int))) ∧
 (decide (byteZ l x.snd = (58 : Int)) = true → within (x.snd + (1 : Int)) (lenZ l)) ∧
 ((bif decide (byteZ l x.snd = (58 : Int)) then decide (byteZ l (x.snd + (1 : Int)) = (58 : Int)) else false) = true →
 inI64 (x.snd + (1 : Int)) ∧
 VS.mk []
 [(nat_lit 0, PV.str l), (nat_lit 2, PV.ptr ((2 : Nat) + (32 : Nat)) (0 : Nat)), (nat_lit 3, PV.bool false),
 (nat_lit 4, PV.ptr ((4 : Nat) + (32 : Nat)) (0 : Nat)), ((5 : Nat), PV.int Go.IntKind.i64 x.snd),
 ((6 : Nat), PV.int Go.IntKind.i64 (x.snd + (1 : Int))), (nat_lit 7, PV.undef), (nat_lit 8, PV.undef),
 (nat_lit 9, PV.undef), (nat_lit 10, PV.undef), (nat_lit 11, PV.undef), (nat_lit 12, PV.undef),
 (nat_lit 13, PV.undef), (nat_lit 14, PV.undef), (nat_lit 15, PV.undef), ((24 : Nat), PV.undef),
 ((37 : Nat), PV.undef), (nat_lit 40, PV.undef), (nat_lit 52, PV.undef), (nat_lit 55, PV.undef),
 (nat_lit 94, PV.undef), (nat_lit 99, PV.undef), (nat_lit 112, PV.undef)]
 [((4 : Nat) + (32 : Nat), PV.arr (8 : Nat) (BRow.ints Go.IntKind.u16 (List.replicate (8 : Nat) (0 : Int)))),
 ((2 : Nat) + (32 : Nat), PV.arr (8 : Nat) (BRow.ints Go.IntKind.u16 (List.replicate (8 : Nat) (0 : Int))))] =
 VS.mk []
 [(nat_lit 0, PV.str l), (nat_lit 2, PV.ptr ((2 : Nat) + (32 : Nat)) (0 : Nat)), (nat_lit 3, PV.bool false),
 (nat_lit 4, PV.ptr ((4 : Nat) + (32 : Nat)) (0 : Nat)), ((5 : Nat), PV.int Go.IntKind.i64 x.snd),
 ((6 : Nat), PV.int Go.IntKind.i64 (x.snd + (1 : Int))), (nat_lit 7, PV.undef), (nat_lit 8, PV.undef),
 (nat_lit 9, PV.undef), (nat_lit 10, PV.undef), (nat_lit 11, PV.undef), (nat_lit 12, PV.undef),
 (nat_lit 13, PV.undef), (nat_lit 14, PV.undef), (nat_lit 15, PV.undef), ((24 : Nat), PV.undef),
 ((37 : Nat), PV.undef), (nat_lit 40, PV.undef), (nat_lit 52, PV.undef), (nat_lit 55, PV.undef),
 (nat_lit 94, PV.undef), (nat_lit 99, PV.undef), (nat_lit 112, PV.undef)]
 [((4 : Nat) + (32 : Nat), PV.arr (8 : Nat) (BRow.ints Go.IntKind.u16 (List.replicate (8 : Nat) (0 : Int)))),
 ((2 : Nat) + (32 : Nat), PV.arr (8 : Nat) (BRow.ints Go.IntKind.u16 (List.replicate (8 : Nat) (0 : Int))))] ∧
 GapI l x.snd (x.snd + (1 : Int)) ∧
 (↑(List.length l) + (1 : Int) - (x.snd + (1 : Int))).toNat < (↑(List.length l) + (1 : Int) - x.snd).toNat) ∧
 ((bif decide (byteZ l x.snd = (58 : Int)) then decide (byteZ l (x.snd + (1 : Int)) = (58 : Int)) else false) = false →
 inI64 (x.snd + (1 : Int)) ∧
 VS.mk []
 [(nat_lit 0, PV.str l), (nat_lit 2, PV.ptr ((2 : Nat) + (32 : Nat)) (0 : Nat)), (nat_lit 3, PV.bool false),
 (nat_lit 4, PV.ptr ((4 : Nat) + (32 : Nat)) (0 : Nat)), ((5 : Nat), PV.int Go.IntKind.i64 x.fst),
 ((6 : Nat), PV.int Go.IntKind.i64 (x.snd + (1 : Int))), (nat_lit 7, PV.undef), (nat_lit 8, PV.undef),
 (nat_lit 9, PV.undef), (nat_lit 10, PV.undef), (nat_lit 11, PV.undef), (nat_lit 12, PV.undef),
 (nat_lit 13, PV.undef), (nat_lit 14, PV.undef), (nat_lit 15, PV.undef), ((24 : Nat), PV.undef),
 ((37 : Nat), PV.undef), (nat_lit 40, PV.undef), (nat_lit 52, PV.undef), (nat_lit 55, PV.undef),
 (nat_lit 94, PV.undef), (nat_lit 99, PV.undef), (nat_lit 112, PV.undef)]
 [((4 : Nat) + (32 : Nat), PV.arr (8 : Nat) (BRow.ints Go.IntKind.u16 (List.replicate (8 : Nat) (0 : Int)))),
 ((2 : Nat) + (32 : Nat), PV.arr (8 : Nat) (BRow.ints Go.IntKind.u16 (List.replicate (8 : Nat) (0 : Int))))] =
 VS.mk []
 [(nat_lit 0, PV.str l), (nat_lit 2, PV.ptr ((2 : Nat) + (32 : Nat)) (0 : Nat)), (nat_lit 3, PV.bool false),
 (nat_lit 4, PV.ptr ((4 : Nat) + (32 : Nat)) (0 : Nat)), ((5 : Nat), PV.int Go.IntKind.i64 x.fst),
 ((6 : Nat), PV.int Go.IntKind.i64 (x.snd + (1 : Int))), (nat_lit 7, PV.undef), (nat_lit 8, PV.undef),
 (nat_lit 9, PV.undef), (nat_lit 10, PV.undef), (nat_lit 11, PV.undef), (nat_lit 12, PV.undef),
 (nat_lit 13, PV.undef), (nat_lit 14, PV.undef), (nat_lit 15, PV.undef), ((24 : Nat), PV.undef),
 ((37 : Nat), PV.undef), (nat_lit 40, PV.undef), (nat_lit 52, PV.undef), (nat_lit 55, PV.undef),
 (nat_lit 94, PV.undef), (nat_lit 99, PV.undef), (nat_lit 112, PV.undef)]
 [((4 : Nat) + (32 : Nat), PV.arr (8 : Nat) (BRow.ints Go.IntKind.u16 (List.replicate (8 : Nat) (0 : Int)))),
 ((2 : Nat) + (32 : Nat), PV.arr (8 : Nat) (BRow.ints Go.IntKind.u16 (List.replicate (8 : Nat) (0 : Int))))] ∧
 GapI l x.fst (x.snd + (1 : Int)) ∧
 (↑(List.length l) + (1 : Int) - (x.snd + (1 : Int))).toNat < (↑(List.length l) + (1 : Int) - x.snd).toNat)) ∧
 ((bif decide (x.snd + (1 : Int) < lenZ l) then decide (x.fst < (0 : Int)) else false) = false →
 (decide (x.fst < (0 : Int)) = true →
 (List.length l).le (1000 : Nat) ∧
 ((bif !(rowR l true).snd then true
 else !decide (Int.ofNat (rowR l true).fst.length = (8 : Int))) =
 true →
 k (PV.tup [PV.arr (8 : Nat) (BRow.ints Go.IntKind.u16 (List.replicate (8 : Nat) (0 : Int))), PV.bool false])) ∧
 ((bif !(rowR l true).snd then true
 else !decide (Int.ofNat (rowR l true).fst.length = (8 : Int))) =
 false →
 VS.mk []
 [(nat_lit 0, PV.str l), (nat_lit 2, PV.ptr ((2 : Nat) + (32 : Nat)) (0 : Nat)), (nat_lit 3, PV.bool false),
 (nat_lit 4, PV.ptr ((4 : Nat) + (32 : Nat)) (0 : Nat)), ((5 : Nat), PV.int Go.IntKind.i64 x.fst),
 ((6 : Nat), PV.int Go.IntKind.i64 x.snd),
 (nat_lit 7,
 PV.row (decide ((rowR l true).fst = []))
 (BRow.ints Go.IntKind.i64 (rowR l true).fst) (0 : Nat)),
 (nat_lit 8, PV.bool (rowR l true).snd), (nat_lit 9, PV.int Go.IntKind.i64 (0 : Int)),
 (nat_lit 10, PV.undef), (nat_lit 11, PV.undef), (nat_lit 12, PV.undef), (nat_lit 13, PV.undef),
 (nat_lit 14, PV.undef), (nat_lit 15, PV.undef),
 ((24 : Nat), PV.bool (bif decide (x.snd + (1 : Int) < lenZ l) then decide (x.fst < (0 : Int)) else false)),
 ((37 : Nat), PV.undef), (nat_lit 40, PV.bool (decide (x.fst < (0 : Int)))),
 (nat_lit 52,
 PV.bool
 (bif !(rowR l true).snd then true
 else !decide (Int.ofNat (rowR l true).fst.length = (8 : Int)))),
 ((55 : Nat), PV.undef), (nat_lit 94, PV.undef), (nat_lit 99, PV.undef), (nat_lit 112, PV.undef)]
 [((4 : Nat) + (32 : Nat), PV.arr (8 : Nat) (BRow.ints Go.IntKind.u16 (List.replicate (8 : Nat) (0 : Int)))),
 ((2 : Nat) + (32 : Nat), PV.arr (8 : Nat) (BRow.ints Go.IntKind.u16 (List.replicate (8 : Nat) (0 : Int))))] =
 VS.mk []
 [(nat_lit 0, PV.str l), (nat_lit 2, PV.ptr ((2 : Nat) + (32 : Nat)) (0 : Nat)), (nat_lit 3, PV.bool false),
 (nat_lit 4, PV.ptr ((4 : Nat) + (32 : Nat)) (0 : Nat)), ((5 : Nat), PV.int Go.IntKind.i64 x.fst),
 ((6 : Nat), PV.int Go.IntKind.i64 x.snd),
 (nat_lit 7,
 PV.row (decide ((rowR l true).fst = []))
 (BRow.ints Go.IntKind.i64 (rowR l true).fst) (0 : Nat)),
 (nat_lit 8, PV.bool (rowR l true).snd), ((9 : Nat), PV.int Go.IntKind.i64 (0 : Int)),
 (nat_lit 10, PV.undef), (nat_lit 11, PV.undef), (nat_lit 12, PV.undef), (nat_lit 13, PV.undef),
 (nat_lit 14, PV.undef), (nat_lit 15, PV.undef),
 ((24 : Nat), PV.bool (bif decide (x.snd + (1 : Int) < lenZ l) then decide (x.fst < (0 : Int)) else false)),
 ((37 : Nat), PV.undef), (nat_lit 40, PV.bool (decide (x.fst < (0 : Int)))),
 (nat_lit 52,
 PV.bool
 (bif !(rowR l true).snd then true
 else !decide (Int.ofNat (rowR l true).fst.length = (8 : Int)))),
 ((55 : Nat), PV.undef), (nat_lit 94, PV.undef), (nat_lit 99, PV.undef), (nat_lit 112, PV.undef)]
 [((36 : Nat), PV.arr (8 : Nat) (BRow.ints Go.IntKind.u16 (List.replicate (8 : Nat) (0 : Int)))),
 ((2 : Nat) + (32 : Nat), PV.arr (8 : Nat) (BRow.ints Go.IntKind.u16 (List.replicate (8 : Nat) (0 : Int))))] ∧
 ((0 : Int) ≤ (0 : Int) ∧
 (0 : Int) ≤ (8 : Int) ∧
 LayI (rowR l true).fst (List.replicate (8 : Nat) (0 : Int))
 (List.replicate (8 : Nat) (0 : Int)) (0 : Int) (0 : Int)) ∧
 ∀ (x_1 : List Int × Int),
 (0 : Int) ≤ x_1.snd ∧
 x_1.snd ≤ (8 : Int) ∧
 LayI (rowR l true).fst (List.replicate (8 : Nat) (0 : Int))
 x_1.fst (0 : Int) x_1.snd →
 (decide (x_1.snd < (8 : Int)) = true →
 within x_1.snd (Int.ofNat (rowR l true).fst.length) ∧
 within x_1.snd ↑(8 : Nat) ∧
 (within x_1.snd ↑(8 : Nat) ∧ True) ∧
 inI64 (x_1.snd + (1 : Int)) ∧
 VS.mk []
 [(nat_lit 0, PV.str l), (nat_lit 2, PV.ptr ((2 : Nat) + (32 : Nat)) (0 : Nat)),
 (nat_lit 3, PV.bool false), (nat_lit 4, PV.ptr ((4 : Nat) + (32 : Nat)) (0 : Nat)),
 ((5 : Nat), PV.int Go.IntKind.i64 x.fst), ((6 : Nat), PV.int Go.IntKind.i64 x.snd),
 (nat_lit 7,
 PV.row (decide ((rowR l true).fst = []))
 (BRow.ints Go.IntKind.i64 (rowR l true).fst) (0 : Nat)),
 (nat_lit 8, PV.bool (rowR l true).snd),
 ((9 : Nat), PV.int Go.IntKind.i64 (x_1.snd + (1 : Int))), (nat_lit 10, PV.undef),
 (nat_lit 11, PV.undef), (nat_lit 12, PV.undef), (nat_lit 13, PV.undef),
 (nat_lit 14, PV.undef), (nat_lit 15, PV.undef),
 ((24 : Nat),
 PV.bool (bif decide (x.snd + (1 : Int) < lenZ l) then decide (x.fst < (0 : Int)) else false)),
 ((37 : Nat), PV.undef), (nat_lit 40, PV.bool (decide (x.fst < (0 : Int)))),
 (nat_lit 52,
 PV.bool
 (bif !(rowR l true).snd then true
 else !decide (Int.ofNat (rowR l true).fst.length = (8 : Int)))),
 ((55 : Nat), PV.undef), (nat_lit 94, PV.undef), (nat_lit 99, PV.undef),
 (nat_lit 112, PV.undef)]
 [((4 : Nat) + (32 : Nat),
 PV.arr (8 : Nat)
 (BRow.ints Go.IntKind.u16
 (setZ x_1.fst x_1.snd
 (Go.IntKind.u16.wrap (intZ (rowR l true).fst x_1.snd))))),
 ((2 : Nat) + (32 : Nat),
 PV.arr (8 : Nat) (BRow.ints Go.IntKind.u16 (List.replicate (8 : Nat) (0 : Int))))] =
 VS.mk []
 [(nat_lit 0, PV.str l), (nat_lit 2, PV.ptr ((2 : Nat) + (32 : Nat)) (0 : Nat)),
 (nat_lit 3, PV.bool false), (nat_lit 4, PV.ptr ((4 : Nat) + (32 : Nat)) (0 : Nat)),
 ((5 : Nat), PV.int Go.IntKind.i64 x.fst), ((6 : Nat), PV.int Go.IntKind.i64 x.snd),
 (nat_lit 7,
 PV.row (decide ((rowR l true).fst = []))
 (BRow.ints Go.IntKind.i64 (rowR l true).fst) (0 : Nat)),
 (nat_lit 8, PV.bool (rowR l true).snd),
 ((9 : Nat), PV.int Go.IntKind.i64 (x_1.snd + (1 : Int))), (nat_lit 10, PV.undef),
 (nat_lit 11, PV.undef), (nat_lit 12, PV.undef), (nat_lit 13, PV.undef),
 (nat_lit 14, PV.undef), (nat_lit 15, PV.undef),
 ((24 : Nat),
 PV.bool (bif decide (x.snd + (1 : Int) < lenZ l) then decide (x.fst < (0 : Int)) else false)),
 ((37 : Nat), PV.undef), (nat_lit 40, PV.bool (decide (x.fst < (0 : Int)))),
 (nat_lit 52,
 PV.bool
 (bif !(rowR l true).snd then true
 else !decide (Int.ofNat (rowR l true).fst.length = (8 : Int)))),
 ((55 : Nat), PV.undef), (nat_lit 94, PV.undef), (nat_lit 99, PV.undef),
 (nat_lit 112, PV.undef)]
 [((36 : Nat),
 PV.arr (8 : Nat)
 (BRow.ints Go.IntKind.u16
 (setZ x_1.fst x_1.snd
 (Go.IntKind.u16.wrap (intZ (rowR l true).fst x_1.snd))))),
 ((2 : Nat) + (32 : Nat),
 PV.arr (8 : Nat) (BRow.ints Go.IntKind.u16 (List.replicate (8 : Nat) (0 : Int))))] ∧
 ((0 : Int) ≤ x_1.snd + (1 : Int) ∧
 x_1.snd + (1 : Int) ≤ (8 : Int) ∧
 LayI (rowR l true).fst
 (List.replicate (8 : Nat) (0 : Int))
 (setZ x_1.fst x_1.snd
 (Go.IntKind.u16.wrap (intZ (rowR l true).fst x_1.snd)))
 (0 : Int) (x_1.snd + (1 : Int))) ∧
 ((8 : Int) - (x_1.snd + (1 : Int))).toNat < ((8 : Int) - x_1.snd).toNat) ∧
 (decide (x_1.snd < (8 : Int)) = false →
 k (PV.tup [PV.arr (8 : Nat) (BRow.ints Go.IntKind.u16 x_1.fst), PV.bool true])))) ∧
 (decide (x.fst < (0 : Int)) = false →
 upto (0 : Int) x.fst (lenZ l) ∧
 (takeZ l x.fst).length.le (1000 : Nat) ∧
 inI64 (x.fst + (2 : Int)) ∧
 upto (x.fst + (2 : Int)) (lenZ l) (lenZ l) ∧
 (dropZ l (x.fst + (2 : Int))).length.le (1000 : Nat) ∧
 ((bif !(rowR (takeZ l x.fst) false).snd then true
 else !(rowR (dropZ l (x.fst + (2 : Int))) true).snd) =
 false →
 inI64
 (Int.ofNat (rowR (takeZ l x.fst) false).fst.length +
 Int.ofNat (rowR (dropZ l (x.fst + (2 : Int))) true).fst.length)) ∧
 ((bif
 bif !(rowR (takeZ l x.fst) false).snd then true
 else !(rowR (dropZ l (x.fst + (2 : Int))) true).snd then
 true
 else
 decide
 ((7 : Int) <
 Int.ofNat (rowR (takeZ l x.fst) false).fst.length +
 Int.ofNat (rowR (dropZ l (x.fst + (2 : Int))) true).fst.length)) =
 true →
 k
 (PV.tup
 [PV.arr (8 : Nat) (BRow.ints Go.IntKind.u16 (List.replicate (8 : Nat) (0 : Int))), PV.bool false])) ∧
 ((bif
 bif !(rowR (takeZ l x.fst) false).snd then true
 else !(rowR (dropZ l (x.fst + (2 : Int))) true).snd then
 true
 else
 decide
 ((7 : Int) <
 Int.ofNat (rowR (takeZ l x.fst) false).fst.length +
 Int.ofNat (rowR (dropZ l (x.fst + (2 : Int))) true).fst.length)) =
 false →
 VS.mk []
 [(nat_lit 0, PV.str l), (nat_lit 2, PV.ptr ((2 : Nat) + (32 : Nat)) (0 : Nat)),
 (nat_lit 3, PV.bool false), (nat_lit 4, PV.ptr ((4 : Nat) + (32 : Nat)) (0 : Nat)),
 ((5 : Nat), PV.int Go.IntKind.i64 x.fst), ((6 : Nat), PV.int Go.IntKind.i64 x.snd),
 (nat_lit 7, PV.undef), (nat_lit 8, PV.undef), (nat_lit 9, PV.undef),
 (nat_lit 10,
 PV.row (decide ((rowR (takeZ l x.fst) false).fst = []))
 (BRow.ints Go.IntKind.i64 (rowR (takeZ l x.fst) false).fst) (0 : Nat)),
 (nat_lit 11, PV.bool (rowR (takeZ l x.fst) false).snd),
 (nat_lit 12,
 PV.row (decide ((rowR (dropZ l (x.fst + (2 : Int))) true).fst = []))
 (BRow.ints Go.IntKind.i64
 (rowR (dropZ l (x.fst + (2 : Int))) true).fst)
 (0 : Nat)),
 (nat_lit 13, PV.bool (rowR (dropZ l (x.fst + (2 : Int))) true).snd),
 (nat_lit 14, PV.int Go.IntKind.i64 (0 : Int)), (nat_lit 15, PV.undef),
 ((24 : Nat),
 PV.bool (bif decide (x.snd + (1 : Int) < lenZ l) then decide (x.fst < (0 : Int)) else false)),
 ((37 : Nat), PV.undef), (nat_lit 40, PV.bool (decide (x.fst < (0 : Int)))), (nat_lit 52, PV.undef),
 (nat_lit 55, PV.undef),
 (nat_lit 94,
 PV.bool
 (bif
 bif !(rowR (takeZ l x.fst) false).snd then true
 else !(rowR (dropZ l (x.fst + (2 : Int))) true).snd then
 true
 else
 decide
 ((7 : Int) <
 Int.ofNat (rowR (takeZ l x.fst) false).fst.length +
 Int.ofNat (rowR (dropZ l (x.fst + (2 : Int))) true).fst.length))),
 ((99 : Nat), PV.undef), (nat_lit 112, PV.undef)]
 [((4 : Nat) + (32 : Nat), PV.arr (8 : Nat) (BRow.ints Go.IntKind.u16 (List.replicate (8 : Nat) (0 : Int)))),
 ((2 : Nat) + (32 : Nat),
 PV.arr (8 : Nat) (BRow.ints Go.IntKind.u16 (List.replicate (8 : Nat) (0 : Int))))] =
 VS.mk []
 [(nat_lit 0, PV.str l), (nat_lit 2, PV.ptr ((2 : Nat) + (32 : Nat)) (0 : Nat)),
 (nat_lit 3, PV.bool false), (nat_lit 4, PV.ptr ((4 : Nat) + (32 : Nat)) (0 : Nat)),
 ((5 : Nat), PV.int Go.IntKind.i64 x.fst), ((6 : Nat), PV.int Go.IntKind.i64 x.snd),
 (nat_lit 7, PV.undef), (nat_lit 8, PV.undef), (nat_lit 9, PV.undef),
 (nat_lit 10,
 PV.row (decide ((rowR (takeZ l x.fst) false).fst = []))
 (BRow.ints Go.IntKind.i64 (rowR (takeZ l x.fst) false).fst) (0 : Nat)),
 (nat_lit 11, PV.bool (rowR (takeZ l x.fst) false).snd),
 (nat_lit 12,
 PV.row (decide ((rowR (dropZ l (x.fst + (2 : Int))) true).fst = []))
 (BRow.ints Go.IntKind.i64
 (rowR (dropZ l (x.fst + (2 : Int))) true).fst)
 (0 : Nat)),
 (nat_lit 13, PV.bool (rowR (dropZ l (x.fst + (2 : Int))) true).snd),
 ((14 : Nat), PV.int Go.IntKind.i64 (0 : Int)), (nat_lit 15, PV.undef),
 ((24 : Nat),
 PV.bool (bif decide (x.snd + (1 : Int) < lenZ l) then decide (x.fst < (0 : Int)) else false)),
 ((37 : Nat), PV.undef), (nat_lit 40, PV.bool (decide (x.fst < (0 : Int)))), (nat_lit 52, PV.undef),
 (nat_lit 55, PV.undef),
 (nat_lit 94,
 PV.bool
 (bif
 bif !(rowR (takeZ l x.fst) false).snd then true
 else !(rowR (dropZ l (x.fst + (2 : Int))) true).snd then
 true
 else
 decide
 ((7 : Int) <
 Int.ofNat (rowR (takeZ l x.fst) false).fst.length +
 Int.ofNat (rowR (dropZ l (x.fst + (2 : Int))) true).fst.length))),
 ((99 : Nat), PV.undef), (nat_lit 112, PV.undef)]
 [((36 : Nat), PV.arr (8 : Nat) (BRow.ints Go.IntKind.u16 (List.replicate (8 : Nat) (0 : Int)))),
 ((2 : Nat) + (32 : Nat),
 PV.arr (8 : Nat) (BRow.ints Go.IntKind.u16 (List.replicate (8 : Nat) (0 : Int))))] ∧
 LayI (rowR (takeZ l x.fst) false).fst
 (List.replicate (8 : Nat) (0 : Int)) (List.replicate (8 : Nat) (0 : Int)) (0 : Int) (0 : Int) ∧
 ∀ (x_1 : List Int × Int),
 LayI (rowR (takeZ l x.fst) false).fst
 (List.replicate (8 : Nat) (0 : Int)) x_1.fst (0 : Int) x_1.snd →
 (decide (x_1.snd < Int.ofNat (rowR (takeZ l x.fst) false).fst.length) = true →
 within x_1.snd (Int.ofNat (rowR (takeZ l x.fst) false).fst.length) ∧
 within x_1.snd ↑(8 : Nat) ∧
 (within x_1.snd ↑(8 : Nat) ∧ True) ∧
 inI64 (x_1.snd + (1 : Int)) ∧
 VS.mk []
 [(nat_lit 0, PV.str l), (nat_lit 2, PV.ptr ((2 : Nat) + (32 : Nat)) (0 : Nat)),
 (nat_lit 3, PV.bool false), (nat_lit 4, PV.ptr ((4 : Nat) + (32 : Nat)) (0 : Nat)),
 ((5 : Nat), PV.int Go.IntKind.i64 x.fst), ((6 : Nat), PV.int Go.IntKind.i64 x.snd),
 (nat_lit 7, PV.undef), (nat_lit 8, PV.undef), (nat_lit 9, PV.undef),
 (nat_lit 10,
 PV.row
 (decide ((rowR (takeZ l x.fst) false).fst = []))
 (BRow.ints Go.IntKind.i64
 (rowR (takeZ l x.fst) false).fst)
 (0 : Nat)),
 (nat_lit 11, PV.bool (rowR (takeZ l x.fst) false).snd),
 (nat_lit 12,
 PV.row
 (decide
 ((rowR (dropZ l (x.fst + (2 : Int))) true).fst = []))
 (BRow.ints Go.IntKind.i64
 (rowR (dropZ l (x.fst + (2 : Int))) true).fst)
 (0 : Nat)),
 (nat_lit 13,
 PV.bool
 (rowR (dropZ l (x.fst + (2 : Int))) true).snd),
 ((14 : Nat), PV.int Go.IntKind.i64 (x_1.snd + (1 : Int))), (nat_lit 15, PV.undef),
 ((24 : Nat),
 PV.bool
 (bif decide (x.snd + (1 : Int) < lenZ l) then decide (x.fst < (0 : Int)) else false)),
 ((37 : Nat), PV.undef), (nat_lit 40, PV.bool (decide (x.fst < (0 : Int)))),
 (nat_lit 52, PV.undef), (nat_lit 55, PV.undef),
 (nat_lit 94,
 PV.bool
 (bif
 bif !(rowR (takeZ l x.fst) false).snd then true
 else
 !(rowR (dropZ l (x.fst + (2 : Int))) true).snd then
 true
 else
 decide
 ((7 : Int) <
 Int.ofNat (rowR (takeZ l x.fst) false).fst.length +
 Int.ofNat
 (rowR (dropZ l (x.fst + (2 : Int)))
 true).fst.length))),
 ((99 : Nat), PV.undef), (nat_lit 112, PV.undef)]
 [((4 : Nat) + (32 : Nat),
 PV.arr (8 : Nat)
 (BRow.ints Go.IntKind.u16
 (setZ x_1.fst x_1.snd
 (Go.IntKind.u16.wrap
 (intZ (rowR (takeZ l x.fst) false).fst
 x_1.snd))))),
 ((2 : Nat) + (32 : Nat),
 PV.arr (8 : Nat) (BRow.ints Go.IntKind.u16 (List.replicate (8 : Nat) (0 : Int))))] =
 VS.mk []
 [(nat_lit 0, PV.str l), (nat_lit 2, PV.ptr ((2 : Nat) + (32 : Nat)) (0 : Nat)),
 (nat_lit 3, PV.bool false), (nat_lit 4, PV.ptr ((4 : Nat) + (32 : Nat)) (0 : Nat)),
 ((5 : Nat), PV.int Go.IntKind.i64 x.fst), ((6 : Nat), PV.int Go.IntKind.i64 x.snd),
 (nat_lit 7, PV.undef), (nat_lit 8, PV.undef), (nat_lit 9, PV.undef),
 (nat_lit 10,
 PV.row
 (decide ((rowR (takeZ l x.fst) false).fst = []))
 (BRow.ints Go.IntKind.i64
 (rowR (takeZ l x.fst) false).fst)
 (0 : Nat)),
 (nat_lit 11, PV.bool (rowR (takeZ l x.fst) false).snd),
 (nat_lit 12,
 PV.row
 (decide
 ((rowR (dropZ l (x.fst + (2 : Int))) true).fst = []))
 (BRow.ints Go.IntKind.i64
 (rowR (dropZ l (x.fst + (2 : Int))) true).fst)
 (0 : Nat)),
 (nat_lit 13,
 PV.bool
 (rowR (dropZ l (x.fst + (2 : Int))) true).snd),
 ((14 : Nat), PV.int Go.IntKind.i64 (x_1.snd + (1 : Int))), (nat_lit 15, PV.undef),
 ((24 : Nat),
 PV.bool
 (bif decide (x.snd + (1 : Int) < lenZ l) then decide (x.fst < (0 : Int)) else false)),
 ((37 : Nat), PV.undef), (nat_lit 40, PV.bool (decide (x.fst < (0 : Int)))),
 (nat_lit 52, PV.undef), (nat_lit 55, PV.undef),
 (nat_lit 94,
 PV.bool
 (bif
 bif !(rowR (takeZ l x.fst) false).snd then true
 else
 !(rowR (dropZ l (x.fst + (2 : Int))) true).snd then
 true
 else
 decide
 ((7 : Int) <
 Int.ofNat (rowR (takeZ l x.fst) false).fst.length +
 Int.ofNat
 (rowR (dropZ l (x.fst + (2 : Int)))
 true).fst.length))),
 ((99 : Nat), PV.undef), (nat_lit 112, PV.undef)]
 [((36 : Nat),
 PV.arr (8 : Nat)
 (BRow.ints Go.IntKind.u16
 (setZ x_1.fst x_1.snd
 (Go.IntKind.u16.wrap
 (intZ (rowR (takeZ l x.fst) false).fst
 x_1.snd))))),
 ((2 : Nat) + (32 : Nat),
 PV.arr (8 : Nat) (BRow.ints Go.IntKind.u16 (List.replicate (8 : Nat) (0 : Int))))] ∧
 LayI
 (rowR (takeZ l x.fst) false).fst
 (List.replicate (8 : Nat) (0 : Int))
 (setZ x_1.fst x_1.snd
 (Go.IntKind.u16.wrap
 (intZ (rowR (takeZ l x.fst) false).fst x_1.snd)))
 (0 : Int) (x_1.snd + (1 : Int)) ∧
 (↑(rowR (takeZ l x.fst) false).fst.length + (1 : Int) -
 (x_1.snd + (1 : Int))).toNat <
 (↑(rowR (takeZ l x.fst) false).fst.length + (1 : Int) -
 x_1.snd).toNat) ∧
 (decide (x_1.snd < Int.ofNat (rowR (takeZ l x.fst) false).fst.length) = false →
 VS.mk []
 [(nat_lit 0, PV.str l), (nat_lit 2, PV.ptr ((2 : Nat) + (32 : Nat)) (0 : Nat)),
 (nat_lit 3, PV.bool false), (nat_lit 4, PV.ptr ((4 : Nat) + (32 : Nat)) (0 : Nat)),
 ((5 : Nat), PV.int Go.IntKind.i64 x.fst), ((6 : Nat), PV.int Go.IntKind.i64 x.snd),
 (nat_lit 7, PV.undef), (nat_lit 8, PV.undef), (nat_lit 9, PV.undef),
 (nat_lit 10,
 PV.row (decide ((rowR (takeZ l x.fst) false).fst = []))
 (BRow.ints Go.IntKind.i64 (rowR (takeZ l x.fst) false).fst)
 (0 : Nat)),
 (nat_lit 11, PV.bool (rowR (takeZ l x.fst) false).snd),
 (nat_lit 12,
 PV.row
 (decide ((rowR (dropZ l (x.fst + (2 : Int))) true).fst = []))
 (BRow.ints Go.IntKind.i64
 (rowR (dropZ l (x.fst + (2 : Int))) true).fst)
 (0 : Nat)),
 (nat_lit 13,
 PV.bool (rowR (dropZ l (x.fst + (2 : Int))) true).snd),
 ((14 : Nat), PV.int Go.IntKind.i64 x_1.snd), (nat_lit 15, PV.int Go.IntKind.i64 (0 : Int)),
 ((24 : Nat),
 PV.bool
 (bif decide (x.snd + (1 : Int) < lenZ l) then decide (x.fst < (0 : Int)) else false)),
 ((37 : Nat), PV.undef), (nat_lit 40, PV.bool (decide (x.fst < (0 : Int)))),
 (nat_lit 52, PV.undef), (nat_lit 55, PV.undef),
 (nat_lit 94,
 PV.bool
 (bif
 bif !(rowR (takeZ l x.fst) false).snd then true
 else !(rowR (dropZ l (x.fst + (2 : Int))) true).snd then
 true
 else
 decide
 ((7 : Int) <
 Int.ofNat (rowR (takeZ l x.fst) false).fst.length +
 Int.ofNat
 (rowR (dropZ l (x.fst + (2 : Int)))
 true).fst.length))),
 ((99 : Nat),
 PV.bool
 (decide
 (x_1.snd <
 Int.ofNat (rowR (takeZ l x.fst) false).fst.length))),
 ((112 : Nat), PV.undef)]
 [((36 : Nat), PV.arr (8 : Nat) (BRow.ints Go.IntKind.u16 x_1.fst)),
 ((2 : Nat) + (32 : Nat),
 PV.arr (8 : Nat) (BRow.ints Go.IntKind.u16 (List.replicate (8 : Nat) (0 : Int))))] =
 VS.mk []
 [(nat_lit 0, PV.str l), (nat_lit 2, PV.ptr ((2 : Nat) + (32 : Nat)) (0 : Nat)),
 (nat_lit 3, PV.bool false), (nat_lit 4, PV.ptr ((4 : Nat) + (32 : Nat)) (0 : Nat)),
 ((5 : Nat), PV.int Go.IntKind.i64 x.fst), ((6 : Nat), PV.int Go.IntKind.i64 x.snd),
 (nat_lit 7, PV.undef), (nat_lit 8, PV.undef), (nat_lit 9, PV.undef),
 (nat_lit 10,
 PV.row (decide ((rowR (takeZ l x.fst) false).fst = []))
 (BRow.ints Go.IntKind.i64 (rowR (takeZ l x.fst) false).fst)
 (0 : Nat)),
 (nat_lit 11, PV.bool (rowR (takeZ l x.fst) false).snd),
 (nat_lit 12,
 PV.row
 (decide ((rowR (dropZ l (x.fst + (2 : Int))) true).fst = []))
 (BRow.ints Go.IntKind.i64
 (rowR (dropZ l (x.fst + (2 : Int))) true).fst)
 (0 : Nat)),
 (nat_lit 13,
 PV.bool (rowR (dropZ l (x.fst + (2 : Int))) true).snd),
 ((14 : Nat), PV.int Go.IntKind.i64 x_1.snd), ((15 : Nat), PV.int Go.IntKind.i64 (0 : Int)),
 ((24 : Nat),
 PV.bool
 (bif decide (x.snd + (1 : Int) < lenZ l) then decide (x.fst < (0 : Int)) else false)),
 ((37 : Nat), PV.undef), (nat_lit 40, PV.bool (decide (x.fst < (0 : Int)))),
 (nat_lit 52, PV.undef), (nat_lit 55, PV.undef),
 (nat_lit 94,
 PV.bool
 (bif
 bif !(rowR (takeZ l x.fst) false).snd then true
 else !(rowR (dropZ l (x.fst + (2 : Int))) true).snd then
 true
 else
 decide
 ((7 : Int) <
 Int.ofNat (rowR (takeZ l x.fst) false).fst.length +
 Int.ofNat
 (rowR (dropZ l (x.fst + (2 : Int)))
 true).fst.length))),
 ((99 : Nat),
 PV.bool
 (decide
 (x_1.snd <
 Int.ofNat (rowR (takeZ l x.fst) false).fst.length))),
 ((112 : Nat), PV.undef)]
 [((36 : Nat), PV.arr (8 : Nat) (BRow.ints Go.IntKind.u16 x_1.fst)),
 ((2 : Nat) + (32 : Nat),
 PV.arr (8 : Nat) (BRow.ints Go.IntKind.u16 (List.replicate (8 : Nat) (0 : Int))))] ∧
 LayI
 (rowR (dropZ l (x.fst + (2 : Int))) true).fst x_1.fst x_1.fst
 ((8 : Int) - ↑(rowR (dropZ l (x.fst + (2 : Int))) true).fst.length)
 (0 : Int) ∧
 ∀ (x_2 : List Int × Int),
 LayI
 (rowR (dropZ l (x.fst + (2 : Int))) true).fst x_1.fst x_2.fst
 ((8 : Int) - ↑(rowR (dropZ l (x.fst + (2 : Int))) true).fst.length)
 x_2.snd →
 (decide
 (x_2.snd <
 Int.ofNat
 (rowR (dropZ l (x.fst + (2 : Int))) true).fst.length) =
 true →
 inI64
 ((8 : Int) -
 Int.ofNat
 (rowR (dropZ l (x.fst + (2 : Int))) true).fst.length) ∧
 inI64
 ((8 : Int) -
 Int.ofNat
 (rowR (dropZ l (x.fst + (2 : Int)))
 true).fst.length +
 x_2.snd) ∧
 within x_2.snd
 (Int.ofNat
 (rowR (dropZ l (x.fst + (2 : Int))) true).fst.length) ∧
 within
 ((8 : Int) -
 Int.ofNat
 (rowR (dropZ l (x.fst + (2 : Int)))
 true).fst.length +
 x_2.snd)
 ↑(8 : Nat) ∧
 (within
 ((8 : Int) -
 Int.ofNat
 (rowR (dropZ l (x.fst + (2 : Int)))
 true).fst.length +
 x_2.snd)
 ↑(8 : Nat) ∧
 True) ∧
 inI64 (x_2.snd + (1 : Int)) ∧
 VS.mk []
 [(nat_lit 0, PV.str l),
 (nat_lit 2, PV.ptr ((2 : Nat) + (32 : Nat)) (0 : Nat)),
 (nat_lit 3, PV.bool false),
 (nat_lit 4, PV.ptr ((4 : Nat) + (32 : Nat)) (0 : Nat)),
 ((5 : Nat), PV.int Go.IntKind.i64 x.fst),
 ((6 : Nat), PV.int Go.IntKind.i64 x.snd), (nat_lit 7, PV.undef),
 (nat_lit 8, PV.undef), (nat_lit 9, PV.undef),
 (nat_lit 10,
 PV.row
 (decide
 ((rowR (takeZ l x.fst) false).fst =
 []))
 (BRow.ints Go.IntKind.i64
 (rowR (takeZ l x.fst) false).fst)
 (0 : Nat)),
 (nat_lit 11,
 PV.bool
 (rowR (takeZ l x.fst) false).snd),
 (nat_lit 12,
 PV.row
 (decide
 ((rowR (dropZ l (x.fst + (2 : Int)))
 true).fst =
 []))
 (BRow.ints Go.IntKind.i64
 (rowR (dropZ l (x.fst + (2 : Int)))
 true).fst)
 (0 : Nat)),
 (nat_lit 13,
 PV.bool
 (rowR (dropZ l (x.fst + (2 : Int)))
 true).snd),
 ((14 : Nat), PV.int Go.IntKind.i64 x_1.snd),
 ((15 : Nat), PV.int Go.IntKind.i64 (x_2.snd + (1 : Int))),
 ((24 : Nat),
 PV.bool
 (bif decide (x.snd + (1 : Int) < lenZ l) then decide (x.fst < (0 : Int))
 else false)),
 ((37 : Nat), PV.undef),
 (nat_lit 40, PV.bool (decide (x.fst < (0 : Int)))),
 (nat_lit 52, PV.undef), (nat_lit 55, PV.undef),
 (nat_lit 94,
 PV.bool
 (bif
 bif
 !(rowR (takeZ l x.fst)
 false).snd then
 true
 else
 !(rowR
 (dropZ l (x.fst + (2 : Int))) true).snd then
 true
 else
 decide
 ((7 : Int) <
 Int.ofNat
 (rowR (takeZ l x.fst)
 false).fst.length +
 Int.ofNat
 (rowR
 (dropZ l (x.fst + (2 : Int))) true).fst.length))),
 ((99 : Nat),
 PV.bool
 (decide
 (x_1.snd <
 Int.ofNat
 (rowR (takeZ l x.fst)
 false).fst.length))),
 ((112 : Nat), PV.undef)]
 [((4 : Nat) + (32 : Nat),
 PV.arr (8 : Nat)
 (BRow.ints Go.IntKind.u16
 (setZ x_2.fst
 ((8 : Int) -
 Int.ofNat
 (rowR
 (dropZ l (x.fst + (2 : Int))) true).fst.length +
 x_2.snd)
 (Go.IntKind.u16.wrap
 (intZ
 (rowR
 (dropZ l (x.fst + (2 : Int))) true).fst
 x_2.snd))))),
 ((2 : Nat) + (32 : Nat),
 PV.arr (8 : Nat)
 (BRow.ints Go.IntKind.u16 (List.replicate (8 : Nat) (0 : Int))))] =
 VS.mk []
 [(nat_lit 0, PV.str l),
 (nat_lit 2, PV.ptr ((2 : Nat) + (32 : Nat)) (0 : Nat)),
 (nat_lit 3, PV.bool false),
 (nat_lit 4, PV.ptr ((4 : Nat) + (32 : Nat)) (0 : Nat)),
 ((5 : Nat), PV.int Go.IntKind.i64 x.fst),
 ((6 : Nat), PV.int Go.IntKind.i64 x.snd), (nat_lit 7, PV.undef),
 (nat_lit 8, PV.undef), (nat_lit 9, PV.undef),
 (nat_lit 10,
 PV.row
 (decide
 ((rowR (takeZ l x.fst) false).fst =
 []))
 (BRow.ints Go.IntKind.i64
 (rowR (takeZ l x.fst) false).fst)
 (0 : Nat)),
 (nat_lit 11,
 PV.bool
 (rowR (takeZ l x.fst) false).snd),
 (nat_lit 12,
 PV.row
 (decide
 ((rowR (dropZ l (x.fst + (2 : Int)))
 true).fst =
 []))
 (BRow.ints Go.IntKind.i64
 (rowR (dropZ l (x.fst + (2 : Int)))
 true).fst)
 (0 : Nat)),
 (nat_lit 13,
 PV.bool
 (rowR (dropZ l (x.fst + (2 : Int)))
 true).snd),
 ((14 : Nat), PV.int Go.IntKind.i64 x_1.snd),
 ((15 : Nat), PV.int Go.IntKind.i64 (x_2.snd + (1 : Int))),
 ((24 : Nat),
 PV.bool
 (bif decide (x.snd + (1 : Int) < lenZ l) then decide (x.fst < (0 : Int))
 else false)),
 ((37 : Nat), PV.undef),
 (nat_lit 40, PV.bool (decide (x.fst < (0 : Int)))),
 (nat_lit 52, PV.undef), (nat_lit 55, PV.undef),
 (nat_lit 94,
 PV.bool
 (bif
 bif
 !(rowR (takeZ l x.fst)
 false).snd then
 true
 else
 !(rowR
 (dropZ l (x.fst + (2 : Int))) true).snd then
 true
 else
 decide
 ((7 : Int) <
 Int.ofNat
 (rowR (takeZ l x.fst)
 false).fst.length +
 Int.ofNat
 (rowR
 (dropZ l (x.fst + (2 : Int))) true).fst.length))),
 ((99 : Nat),
 PV.bool
 (decide
 (x_1.snd <
 Int.ofNat
 (rowR (takeZ l x.fst)
 false).fst.length))),
 ((112 : Nat), PV.undef)]
 [((36 : Nat),
 PV.arr (8 : Nat)
 (BRow.ints Go.IntKind.u16
 (setZ x_2.fst
 ((8 : Int) -
 Int.ofNat
 (rowR
 (dropZ l (x.fst + (2 : Int))) true).fst.length +
 x_2.snd)
 (Go.IntKind.u16.wrap
 (intZ
 (rowR
 (dropZ l (x.fst + (2 : Int))) true).fst
 x_2.snd))))),
 ((2 : Nat) + (32 : Nat),
 PV.arr (8 : Nat)
 (BRow.ints Go.IntKind.u16 (List.replicate (8 : Nat) (0 : Int))))] ∧
 LayI
 (rowR (dropZ l (x.fst + (2 : Int))) true).fst
 x_1.fst
 (setZ x_2.fst
 ((8 : Int) -
 Int.ofNat
 (rowR (dropZ l (x.fst + (2 : Int)))
 true).fst.length +
 x_2.snd)
 (Go.IntKind.u16.wrap
 (intZ
 (rowR (dropZ l (x.fst + (2 : Int)))
 true).fst
 x_2.snd)))
 ((8 : Int) -
 ↑(rowR (dropZ l (x.fst + (2 : Int)))
 true).fst.length)
 (x_2.snd + (1 : Int)) ∧
 (↑(rowR (dropZ l (x.fst + (2 : Int)))
 true).fst.length +
 (1 : Int) -
 (x_2.snd + (1 : Int))).toNat <
 (↑(rowR (dropZ l (x.fst + (2 : Int)))
 true).fst.length +
 (1 : Int) -
 x_2.snd).toNat) ∧
 (decide
 (x_2.snd <
 Int.ofNat
 (rowR (dropZ l (x.fst + (2 : Int))) true).fst.length) =
 false →
 k
 (PV.tup
 [PV.arr (8 : Nat) (BRow.ints Go.IntKind.u16 x_2.fst), PV.bool true]))))))) := by kernel_rfl
attribute [local irreducible] Go.Vc.evF
theorem ok_rparse (l : Bs) : FuncOk Tryd.prog noT 9 [.str l] ⟨l.length ≤ 1000, .tup [.arr 8 (.ints .u16 (refSix l).1), .bool (refSix l).2]⟩ := evF_ok (by kernel_rfl) X_rparse_ok (H := H_rparse l) (fuel := 1000) Tryd.func9 (by kernel_rfl) fun hpre => (vc_rparse l _).mpr (by
  have leaf : ∀ (L : List Int) (b : Bool), refSix l = (L, b) → PV.tup [.arr 8 (.ints .u16 L), .bool b] = PV.tup [.arr 8 (.ints .u16 (refSix l).1), .bool (refSix l).2] := fun L b h => by rw [h]
  refine ⟨rfl, ⟨by omega, by omega, .inl ⟨rfl, rfl⟩⟩, fun x hx => ?_⟩
  obtain ⟨a, i⟩ := x
  obtain ⟨i0, i1, hg⟩ := hx
  dsimp only at i0 i1 hg ⊢
  simp only [Int.ofNat_eq_natCast, andB6, orB6, falB6, notB6, Bool.and_eq_true, Bool.or_eq_true, decide_eq_true_eq]
  refine ⟨⟨by omega, by omega⟩, fun hc => ?_, fun hc => ?_⟩
  · have hlt : i + 1 < (l.length : Int) := hc.1
    rcases hg with ⟨ha, hg⟩ | ⟨ha, -⟩
    · rw [gap_step i0 hlt] at hg
      refine ⟨⟨i0, by show i < (l.length : Int); omega⟩, fun _ => ⟨by omega, by omega⟩, fun _ => ⟨by omega, hlt⟩, fun hb => ?_, fun hb => ?_⟩
      · rw [if_pos hb] at hg
        exact ⟨⟨by omega, by omega⟩, trivial, ⟨by omega, by omega, .inr ⟨i0, by omega, hg⟩⟩, by omega⟩
      · rw [if_neg hb] at hg
        exact ⟨⟨by omega, by omega⟩, trivial, ⟨by omega, by omega, .inl ⟨ha, hg⟩⟩, by omega⟩
    · have := hc.2; omega
  · refine ⟨fun ha => ?_, fun ha => ?_⟩
    · have hge : ¬ i + 1 < (l.length : Int) := fun h => hc ⟨h, ha⟩
      have hga : gapAt l < 0 := by
        rcases hg with ⟨-, hg⟩ | ⟨h, -⟩
        · rw [← hg, gap_end i0 hge]; decide
        · omega
      have hrs : refSix l = if (rowR l true).2 = true ∧ (rowR l true).1.length = 8 then (w16 (rowR l true).1, true) else (List.replicate 8 0, false) := by
        unfold refSix; rw [if_pos hga]
      refine ⟨hpre, fun hb => leaf _ _ ?_, fun hb => ?_⟩
      · rw [hrs, if_neg]
        intro h
        rcases hb with hb | hb
        · exact hb h.1
        · exact hb (by rw [h.2]; rfl)
      · have h1 : (rowR l true).2 = true := Classical.byContradiction fun h => hb (.inl h)
        have h2 : (rowR l true).1.length = 8 := Int.ofNat.inj (Classical.byContradiction fun h => hb (.inr h) : Int.ofNat (rowR l true).1.length = Int.ofNat 8)
        rw [if_pos ⟨h1, h2⟩] at hrs
        refine ⟨trivial, ⟨by omega, by omega, lay_zero _ _ _⟩, fun y hy => ?_⟩
        obtain ⟨p, j⟩ := y
        obtain ⟨j0, j8, hl⟩ := hy
        dsimp only at j0 j8 hl ⊢
        refine ⟨fun hj => ?_, fun hj => leaf _ _ ?_⟩
        · have w8 : within j ((8 : Nat) : Int) := ⟨j0, hj⟩
          have := lay_step hl (by omega) (by omega) (by rw [h2]; decide)
          rw [Int.zero_add] at this
          exact ⟨⟨j0, by show j < ((rowR l true).1.length : Int); omega⟩, w8, ⟨w8, trivial⟩, ⟨by omega, by omega⟩, trivial, ⟨by omega, by omega, this⟩, by omega⟩
        · rw [hrs, lay_end hl (by omega)]
          rw [h2]
          simp
    · have hga : 0 ≤ a ∧ a + 2 ≤ (l.length : Int) ∧ a = gapAt l := by
        rcases hg with ⟨h, -⟩ | h
        · omega
        · exact h
      obtain ⟨a0, a2, hae⟩ := hga
      have hrs : refSix l = (if ((rowR (takeZ l a) false).2 = true ∧ (rowR (dropZ l (a + 2)) true).2 = true) ∧ (rowR (takeZ l a) false).1.length + (rowR (dropZ l (a + 2)) true).1.length ≤ 7 then
        (w16 (rowR (takeZ l a) false).1 ++ List.replicate (8 - ((rowR (takeZ l a) false).1.length + (rowR (dropZ l (a + 2)) true).1.length)) 0 ++ w16 (rowR (dropZ l (a + 2)) true).1, true) else (List.replicate 8 0, false)) := by
        unfold refSix; rw [if_neg (by omega), ← hae]
      have hlA := rowR_len (takeZ l a) false
      have hlB := rowR_len (dropZ l (a + 2)) true
      have ht1 : (takeZ l a).length ≤ 1000 := by unfold takeZ; rw [List.length_take]; omega
      have ht2 : (dropZ l (a + 2)).length ≤ 1000 := by unfold dropZ; rw [List.length_drop]; omega
      generalize hA : rowR (takeZ l a) false = A at *
      generalize hB : rowR (dropZ l (a + 2)) true = B at *
      refine ⟨⟨by omega, a0, by unfold lenZ; omega⟩, ?_, ⟨by omega, by omega⟩, ⟨by omega, by unfold lenZ; omega, by omega⟩, ?_, fun hb => ?_, fun hb => leaf _ _ ?_, fun hb => ?_⟩
      · show (takeZ l a).length ≤ 1000
        unfold takeZ; rw [List.length_take]; omega
      · show (dropZ l (a + 2)).length ≤ 1000
        unfold dropZ; rw [List.length_drop]; omega
      · exact ⟨by omega, by omega⟩
      · rw [hrs, if_neg]
        intro h
        rcases hb with (hb | hb) | hb
        · exact hb h.1.1
        · exact hb h.1.2
        · have : (7 : Int) < (A.1.length : Int) + (B.1.length : Int) := hb
          omega
      · have h1 : A.2 = true := Classical.byContradiction fun h => hb (.inl (.inl h))
        have h2 : B.2 = true := Classical.byContradiction fun h => hb (.inl (.inr h))
        have h3 : A.1.length + B.1.length ≤ 7 := Classical.byContradiction fun h => hb (.inr (by show (7 : Int) < (A.1.length : Int) + (B.1.length : Int); omega))
        rw [if_pos ⟨⟨h1, h2⟩, h3⟩] at hrs
        refine ⟨trivial, lay_zero _ _ _, fun y hy => ?_⟩
        obtain ⟨p, j⟩ := y
        dsimp only at hy ⊢
        have j0 := hy.1
        have j1 := hy.2.1
        refine ⟨fun hj => ?_, fun hj => ?_⟩
        · have hj' : j < (A.1.length : Int) := hj
          have w8 : within j ((8 : Nat) : Int) := ⟨j0, by omega⟩
          have := lay_step hy hj' (by omega) (by rw [List.length_replicate]; omega)
          rw [Int.zero_add] at this
          exact ⟨⟨j0, hj'⟩, w8, ⟨w8, trivial⟩, ⟨by omega, by omega⟩, trivial, this, by omega⟩
        · have hj' : ¬ j < (A.1.length : Int) := hj
          have hp := lay_end hy hj'
          have hp8 : p.length = 8 := by rw [hp, List.length_append, List.length_append, List.length_take, w16_len, List.length_drop, List.length_replicate]; show min 0 8 + _ + _ = 8; omega
          refine ⟨trivial, lay_zero _ _ _, fun u hu => ?_⟩
          obtain ⟨p2, m⟩ := u
          dsimp only at hu ⊢
          have m0 := hu.1
          have m1 := hu.2.1
          refine ⟨fun hm => ?_, fun hm => leaf _ _ ?_⟩
          · have hm' : m < (B.1.length : Int) := hm
            have w8 : within ((8 : Int) - Int.ofNat B.1.length + m) ((8 : Nat) : Int) := ⟨by show (0 : Int) ≤ 8 - (B.1.length : Int) + m; omega, by show (8 : Int) - (B.1.length : Int) + m < 8; omega⟩
            exact ⟨⟨by show _ ≤ (8 : Int) - (B.1.length : Int); omega, by show (8 : Int) - (B.1.length : Int) ≤ _; omega⟩, ⟨by show _ ≤ (8 : Int) - (B.1.length : Int) + m; omega, by show (8 : Int) - (B.1.length : Int) + m ≤ _; omega⟩, ⟨m0, hm'⟩, w8, ⟨w8, trivial⟩, ⟨by omega, by omega⟩, trivial, lay_step hu hm' (by omega) (by omega), by omega⟩
          · rw [hrs, lay_end hu hm, hp]
            have e : ((8 : Int) - (B.1.length : Int)).toNat = 8 - B.1.length := by omega
            rw [e]
            congr 1
            rw [show (List.replicate 8 (0 : Int)).take (Int.toNat 0) = [] from rfl, List.nil_append, show Int.toNat 0 + A.1.length = A.1.length by show 0 + _ = _; omega, List.drop_replicate]
            rw [List.take_append, List.take_of_length_le (by rw [w16_len]; omega), w16_len, List.take_replicate, show min (8 - B.1.length - A.1.length) (8 - A.1.length) = 8 - (A.1.length + B.1.length) by omega]
            rw [List.drop_eq_nil_of_le (by rw [List.length_append, w16_len, List.length_replicate]; omega), List.append_nil])
def ent_rparse : List PV → Option CallR := fun xs => match xs with
  | [.str l] => some ⟨l.length ≤ 1000, .tup [.arr 8 (.ints .u16 (refSix l).1), .bool (refSix l).2]⟩
  | _ => none
theorem ent_rparse_ok : ∀ xs c, ent_rparse xs = some c → FuncOk Tryd.prog noT 9 xs c := fun xs c h => by
  unfold ent_rparse at h
  split at h
  · injection h with h; subst h; exact ok_rparse _
  · cases h
end Go.Proofs.YtklgahppjdgkmaaDoor
