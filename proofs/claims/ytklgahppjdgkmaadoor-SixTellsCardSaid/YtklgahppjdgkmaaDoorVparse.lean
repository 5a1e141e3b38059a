/- The function gossamer/ip6.Parse does what is told of it. -/
import Derived.Test.YtklgahppjdgkmaaDoorR4
import Derived.Test.YtklgahppjdgkmaaDoorProg
import Derived.ProofKit
import Derived.Test.YtklgahppjdgkmaaDoorVsix0
import Derived.Test.YtklgahppjdgkmaaDoorVsix1
set_option linter.unusedVariables false
set_option linter.unusedSimpArgs false
set_option maxRecDepth 100000
set_option maxHeartbeats 4000000
namespace Go.Proofs.YtklgahppjdgkmaaDoor
open Go Go.Proofs Go.RowKit Go.Vc

theorem pre_len {l : Bs} (h : Lib.hasPrefix l [58, 58] = true) : 2 ≤ l.length := by
  match l, h with
  | [], h => cases h
  | [a], h => unfold Lib.hasPrefix at h; simp [List.isPrefixOf] at h
  | _ :: _ :: _, _ => simp

def X_parse : Tbl := tblX [(16, ent_behind), (17, ent_number), (18, ent_dotted), (19, ent_spread), (15, ent_prefix)]
def H_parse (l : Bs) : Loops := fun i => bif Nat.beq i 1000000 then some ⟨(Int) × (Int) × (Int) × (List Int), (fun s x => VS.mk [] [(0, .str l), (2, .ptr 34 0), (3, .bool false), (4, .ptr 36 0), (5, .int .u32 0), (6, .bool false), (7, .int .i64 x.1), (8, .int .i64 x.2.1), (9, .int .i64 x.2.2.1), (10, .undef), (13, .undef), (17, .undef), (30, .undef), (43, .undef), (56, .undef), (67, .undef), (73, .undef), (75, .undef), (82, .undef), (95, .undef), (113, .undef), (120, .undef)] [(36, .arr 8 (.ints .u16 x.2.2.2)), (34, .arr 8 (.ints .u16 (List.replicate 8 0)))]), (fun s => (s.int 7, s.int 8, s.int 9, VS.ints (VS.mk [] s.lh []) 36)), (fun s x => let c := x.1; let g := x.2.1; let a := x.2.2.1; let p := x.2.2.2; ∃ acc : List Int, c = acc.length ∧ acc.length ≤ 8 ∧ p = pad acc ∧ -1 ≤ g ∧ g ≤ c ∧ 0 ≤ a ∧ a ≤ l.length ∧ six1 l (9 - acc.length) acc g a.toNat = six l), (fun s x => let c := x.1; let g := x.2.1; let a := x.2.2.1; let p := x.2.2.2; (9 - c).toNat), [10, 13, 17, 30, 43, 56, 67, 73, 75, 82]⟩ else none
theorem X_parse_ok : XOk Tryd.prog noT X_parse := tblX_cons ent_behind_ok (tblX_cons ent_number_ok (tblX_cons ent_dotted_ok (tblX_cons ent_spread_ok (tblX_cons ent_prefix_ok (tblX_nil)))))
theorem vc_parse (l : Bs) (k : PV → Prop) : evF Tryd.prog X_parse noT (H_parse l) 1000 Tryd.f8 [.str l] k = (
  True ∧
 ((!preB l (ByteArray.mk #[(58 : UInt8), (58 : UInt8)]).data.toList) = true →
 VS.mk []
 [(nat_lit 0, PV.str l), (nat_lit 2, PV.ptr ((2 : Nat) + (32 : Nat)) (0 : Nat)), (nat_lit 3, PV.bool false),
 (nat_lit 4, PV.ptr ((4 : Nat) + (32 : Nat)) (0 : Nat)), (nat_lit 5, PV.int Go.IntKind.u32 (0 : Int)),
 (nat_lit 6, PV.bool false), (nat_lit 7, PV.int Go.IntKind.i64 (0 : Int)), (nat_lit 8, PV.int Go.IntKind.i64 (-1 : Int)),
 (nat_lit 9, PV.int Go.IntKind.i64 (0 : Int)), ((10 : Nat), PV.undef), ((13 : Nat), PV.undef), ((17 : Nat), PV.undef),
 ((30 : Nat), PV.undef), ((43 : Nat), PV.undef), ((56 : Nat), PV.undef), ((67 : Nat), PV.undef),
 ((73 : Nat), PV.undef), ((75 : Nat), PV.undef), ((82 : Nat), PV.undef), (nat_lit 95, PV.undef),
 (nat_lit 113, PV.undef), (nat_lit 120, PV.undef)]
 [((4 : Nat) + (32 : Nat), PV.arr (8 : Nat) (BRow.ints Go.IntKind.u16 (List.replicate (8 : Nat) (0 : Int)))),
 ((2 : Nat) + (32 : Nat), PV.arr (8 : Nat) (BRow.ints Go.IntKind.u16 (List.replicate (8 : Nat) (0 : Int))))] =
 VS.mk []
 [((0 : Nat), PV.str l), ((2 : Nat), PV.ptr (34 : Nat) (0 : Nat)), ((3 : Nat), PV.bool false),
 ((4 : Nat), PV.ptr (36 : Nat) (0 : Nat)), ((5 : Nat), PV.int Go.IntKind.u32 (0 : Int)), ((6 : Nat), PV.bool false),
 ((7 : Nat), PV.int Go.IntKind.i64 (0 : Int)), ((8 : Nat), PV.int Go.IntKind.i64 (-1 : Int)),
 ((9 : Nat), PV.int Go.IntKind.i64 (0 : Int)), ((10 : Nat), PV.undef), ((13 : Nat), PV.undef), ((17 : Nat), PV.undef),
 ((30 : Nat), PV.undef), ((43 : Nat), PV.undef), ((56 : Nat), PV.undef), ((67 : Nat), PV.undef),
 ((73 : Nat), PV.undef), ((75 : Nat), PV.undef), ((82 : Nat), PV.undef), ((95 : Nat), PV.undef),
 ((113 : Nat), PV.undef), ((120 : Nat), PV.undef)]
 [((36 : Nat), PV.arr (8 : Nat) (BRow.ints Go.IntKind.u16 (List.replicate (8 : Nat) (0 : Int)))),
 ((34 : Nat), PV.arr (8 : Nat) (BRow.ints Go.IntKind.u16 (List.replicate (8 : Nat) (0 : Int))))] ∧
 (∃ (acc : List Int),
 (0 : Int) = ↑acc.length ∧
 acc.length ≤ (8 : Nat) ∧
 List.replicate (8 : Nat) (0 : Int) = pad acc ∧
 (-1 : Int) ≤ (-1 : Int) ∧
 (-1 : Int) ≤ (0 : Int) ∧
 (0 : Int) ≤ (0 : Int) ∧
 (0 : Int) ≤ ↑(List.length l) ∧
 six1 l ((9 : Nat) - acc.length) acc (-1 : Int) (Int.toNat (0 : Int)) =
 six l) ∧
 ∀ (x : Int × Int × Int × List Int),
 (∃ (acc : List Int),
 x.fst = ↑acc.length ∧
 acc.length ≤ (8 : Nat) ∧
 x.snd.snd.snd = pad acc ∧
 (-1 : Int) ≤ x.snd.fst ∧
 x.snd.fst ≤ x.fst ∧
 (0 : Int) ≤ x.snd.snd.fst ∧
 x.snd.snd.fst ≤ ↑(List.length l) ∧
 six1 l ((9 : Nat) - acc.length) acc x.snd.fst x.snd.snd.fst.toNat =
 six l) →
 ((0 : Int) ≤ x.snd.snd.fst ∧ x.snd.snd.fst ≤ ↑(List.length l) ∧ List.length l ≤ (1000000 : Nat)) ∧
 (decide (x.snd.snd.fst + ↑(hexLen (List.drop x.snd.snd.fst.toNat l)) < lenZ l) = true →
 within (x.snd.snd.fst + ↑(hexLen (List.drop x.snd.snd.fst.toNat l))) (lenZ l)) ∧
 ((bif decide (x.snd.snd.fst + ↑(hexLen (List.drop x.snd.snd.fst.toNat l)) < lenZ l) then
 decide (byteZ l (x.snd.snd.fst + ↑(hexLen (List.drop x.snd.snd.fst.toNat l))) = (46 : Int))
 else false) =
 true →
 upto x.snd.snd.fst (lenZ l) (lenZ l) ∧
 (dropZ l x.snd.snd.fst).length.le (1000000 : Nat) ∧
 ((bif !dotO (dropZ l x.snd.snd.fst) then true else decide ((6 : Int) < x.fst)) = true →
 k
 (PV.tup
 [PV.arr (8 : Nat) (BRow.ints Go.IntKind.u16 (List.replicate (8 : Nat) (0 : Int))), PV.bool false])) ∧
 ((bif !dotO (dropZ l x.snd.snd.fst) then true else decide ((6 : Int) < x.fst)) = false →
 inI64 (x.fst + (1 : Int)) ∧
 (0 : Int) ≤ (16 : Int) ∧
 within x.fst ↑(8 : Nat) ∧
 (within x.fst ↑(8 : Nat) ∧ True) ∧
 within (x.fst + (1 : Int)) ↑(8 : Nat) ∧
 (within (x.fst + (1 : Int)) ↑(8 : Nat) ∧ True) ∧
 inI64 (x.fst + (2 : Int)) ∧
 ((bif decide (x.snd.fst < (0 : Int)) then decide (x.fst + (2 : Int) = (8 : Int)) else false) = true →
 k
 (PV.tup
 [PV.arr (8 : Nat)
 (BRow.ints Go.IntKind.u16
 (setZ
 (setZ x.snd.snd.snd x.fst
 (Go.IntKind.u16.wrap
 (shrZ Go.IntKind.u32 (dotV (dropZ l x.snd.snd.fst))
 (16 : Int))))
 (x.fst + (1 : Int))
 (Go.IntKind.u16.wrap (dotV (dropZ l x.snd.snd.fst))))),
 PV.bool true])) ∧
 ((bif decide (x.snd.fst < (0 : Int)) then decide (x.fst + (2 : Int) = (8 : Int)) else false) = false →
 ((bif decide ((0 : Int) ≤ x.snd.fst) then decide (x.fst + (2 : Int) < (8 : Int)) else false) = true →
 ((setZ
 (setZ x.snd.snd.snd x.fst
 (Go.IntKind.u16.wrap
 (shrZ Go.IntKind.u32 (dotV (dropZ l x.snd.snd.fst))
 (16 : Int))))
 (x.fst + (1 : Int))
 (Go.IntKind.u16.wrap
 (dotV (dropZ l x.snd.snd.fst)))).length =
 (8 : Nat) ∧
 (0 : Int) ≤ x.snd.fst ∧ x.snd.fst ≤ x.fst + (2 : Int) ∧ x.fst + (2 : Int) ≤ (7 : Int)) ∧
 k
 (PV.tup
 [PV.arr (8 : Nat)
 (BRow.ints Go.IntKind.u16
 (spreadM
 (setZ
 (setZ x.snd.snd.snd x.fst
 (Go.IntKind.u16.wrap
 (shrZ Go.IntKind.u32
 (dotV (dropZ l x.snd.snd.fst)) (16 : Int))))
 (x.fst + (1 : Int))
 (Go.IntKind.u16.wrap (dotV (dropZ l x.snd.snd.fst))))
 (x.fst + (2 : Int)).toNat x.snd.fst.toNat)),
 PV.bool true])) ∧
 ((bif decide ((0 : Int) ≤ x.snd.fst) then decide (x.fst + (2 : Int) < (8 : Int)) else false) = false →
 k
 (PV.tup
 [PV.arr (8 : Nat) (BRow.ints Go.IntKind.u16 (List.replicate (8 : Nat) (0 : Int))),
 PV.bool false]))))) ∧
 ((bif decide (x.snd.snd.fst + ↑(hexLen (List.drop x.snd.snd.fst.toNat l)) < lenZ l) then
 decide (byteZ l (x.snd.snd.fst + ↑(hexLen (List.drop x.snd.snd.fst.toNat l))) = (46 : Int))
 else false) =
 false →
 ((bif decide (x.fst = (8 : Int)) then true
 else decide (x.snd.snd.fst + ↑(hexLen (List.drop x.snd.snd.fst.toNat l)) = x.snd.snd.fst)) =
 false →
 inI64 (x.snd.snd.fst + (4 : Int))) ∧
 ((bif
 bif decide (x.fst = (8 : Int)) then true
 else decide (x.snd.snd.fst + ↑(hexLen (List.drop x.snd.snd.fst.toNat l)) = x.snd.snd.fst) then
 true
 else
 decide
 (x.snd.snd.fst + (4 : Int) < x.snd.snd.fst + ↑(hexLen (List.drop x.snd.snd.fst.toNat l)))) =
 true →
 k
 (PV.tup
 [PV.arr (8 : Nat) (BRow.ints Go.IntKind.u16 (List.replicate (8 : Nat) (0 : Int))), PV.bool false])) ∧
 ((bif
 bif decide (x.fst = (8 : Int)) then true
 else decide (x.snd.snd.fst + ↑(hexLen (List.drop x.snd.snd.fst.toNat l)) = x.snd.snd.fst) then
 true
 else
 decide
 (x.snd.snd.fst + (4 : Int) < x.snd.snd.fst + ↑(hexLen (List.drop x.snd.snd.fst.toNat l)))) =
 false →
 upto x.snd.snd.fst (x.snd.snd.fst + ↑(hexLen (List.drop x.snd.snd.fst.toNat l)))
 (lenZ l) ∧
 ((cutZ l x.snd.snd.fst
 (x.snd.snd.fst + ↑(hexLen (List.drop x.snd.snd.fst.toNat l)))).length ≤
 (4 : Nat) ∧
 ∀ (i : Nat),
 i <
 (cutZ l x.snd.snd.fst
 (x.snd.snd.fst + ↑(hexLen (List.drop x.snd.snd.fst.toNat l)))).length →
 (0 : Int) ≤
 hexN
 (byt
 (cutZ l x.snd.snd.fst
 (x.snd.snd.fst + ↑(hexLen (List.drop x.snd.snd.fst.toNat l))))
 i)) ∧
 within x.fst ↑(8 : Nat) ∧
 (within x.fst ↑(8 : Nat) ∧ True) ∧
 inI64 (x.fst + (1 : Int)) ∧
 (decide (x.snd.snd.fst + ↑(hexLen (List.drop x.snd.snd.fst.toNat l)) = lenZ l) =
 true →
 ((bif decide (x.snd.fst < (0 : Int)) then decide (x.fst + (1 : Int) = (8 : Int)) else false) = true →
 k
 (PV.tup
 [PV.arr (8 : Nat)
 (BRow.ints Go.IntKind.u16
 (setZ x.snd.snd.snd x.fst
 (hexW
 (cutZ l x.snd.snd.fst
 (x.snd.snd.fst + ↑(hexLen (List.drop x.snd.snd.fst.toNat l))))))),
 PV.bool true])) ∧
 ((bif decide (x.snd.fst < (0 : Int)) then decide (x.fst + (1 : Int) = (8 : Int)) else false) = false →
 ((bif decide ((0 : Int) ≤ x.snd.fst) then decide (x.fst + (1 : Int) < (8 : Int)) else false) = true →
 ((setZ x.snd.snd.snd x.fst
 (hexW
 (cutZ l x.snd.snd.fst
 (x.snd.snd.fst +
 ↑(hexLen (List.drop x.snd.snd.fst.toNat l)))))).length =
 (8 : Nat) ∧
 (0 : Int) ≤ x.snd.fst ∧ x.snd.fst ≤ x.fst + (1 : Int) ∧ x.fst + (1 : Int) ≤ (7 : Int)) ∧
 k
 (PV.tup
 [PV.arr (8 : Nat)
 (BRow.ints Go.IntKind.u16
 (spreadM
 (setZ x.snd.snd.snd x.fst
 (hexW
 (cutZ l x.snd.snd.fst
 (x.snd.snd.fst +
 ↑(hexLen (List.drop x.snd.snd.fst.toNat l))))))
 (x.fst + (1 : Int)).toNat x.snd.fst.toNat)),
 PV.bool true])) ∧
 ((bif decide ((0 : Int) ≤ x.snd.fst) then decide (x.fst + (1 : Int) < (8 : Int)) else false) = false →
 k
 (PV.tup
 [PV.arr (8 : Nat) (BRow.ints Go.IntKind.u16 (List.replicate (8 : Nat) (0 : Int))),
 PV.bool false])))) ∧
 (decide (x.snd.snd.fst + ↑(hexLen (List.drop x.snd.snd.fst.toNat l)) = lenZ l) =
 false →
 within (x.snd.snd.fst + ↑(hexLen (List.drop x.snd.snd.fst.toNat l)))
 (lenZ l) ∧
 ((!decide
 (byteZ l
 (x.snd.snd.fst + ↑(hexLen (List.drop x.snd.snd.fst.toNat l))) =
 (58 : Int))) =
 false →
 inI64
 (x.snd.snd.fst + ↑(hexLen (List.drop x.snd.snd.fst.toNat l)) + (1 : Int))) ∧
 ((bif
 !decide
 (byteZ l
 (x.snd.snd.fst + ↑(hexLen (List.drop x.snd.snd.fst.toNat l))) =
 (58 : Int)) then
 true
 else
 decide
 (x.snd.snd.fst + ↑(hexLen (List.drop x.snd.snd.fst.toNat l)) +
 (1 : Int) =
 lenZ l)) =
 true →
 k
 (PV.tup
 [PV.arr (8 : Nat) (BRow.ints Go.IntKind.u16 (List.replicate (8 : Nat) (0 : Int))),
 PV.bool false])) ∧
 ((bif
 !decide
 (byteZ l
 (x.snd.snd.fst + ↑(hexLen (List.drop x.snd.snd.fst.toNat l))) =
 (58 : Int)) then
 true
 else
 decide
 (x.snd.snd.fst + ↑(hexLen (List.drop x.snd.snd.fst.toNat l)) +
 (1 : Int) =
 lenZ l)) =
 false →
 inI64
 (x.snd.snd.fst + ↑(hexLen (List.drop x.snd.snd.fst.toNat l)) + (1 : Int)) ∧
 within
 (x.snd.snd.fst + ↑(hexLen (List.drop x.snd.snd.fst.toNat l)) + (1 : Int))
 (lenZ l) ∧
 ((!decide
 (byteZ l
 (x.snd.snd.fst +
 ↑(hexLen (List.drop x.snd.snd.fst.toNat l)) +
 (1 : Int)) =
 (58 : Int))) =
 true →
 VS.mk []
 [((0 : Nat), PV.str l), ((2 : Nat), PV.ptr (34 : Nat) (0 : Nat)),
 ((3 : Nat), PV.bool false), ((4 : Nat), PV.ptr (36 : Nat) (0 : Nat)),
 ((5 : Nat), PV.int Go.IntKind.u32 (0 : Int)), ((6 : Nat), PV.bool false),
 ((7 : Nat), PV.int Go.IntKind.i64 (x.fst + (1 : Int))),
 ((8 : Nat), PV.int Go.IntKind.i64 x.snd.fst),
 ((9 : Nat),
 PV.int Go.IntKind.i64
 (x.snd.snd.fst +
 ↑(hexLen (List.drop x.snd.snd.fst.toNat l)) +
 (1 : Int))),
 ((10 : Nat), PV.undef), ((13 : Nat), PV.undef), ((17 : Nat), PV.undef),
 ((30 : Nat), PV.undef), ((43 : Nat), PV.undef), ((56 : Nat), PV.undef),
 ((67 : Nat), PV.undef), ((73 : Nat), PV.undef), ((75 : Nat), PV.undef),
 ((82 : Nat), PV.undef), ((95 : Nat), PV.undef), ((113 : Nat), PV.undef),
 ((120 : Nat), PV.undef)]
 [((36 : Nat),
 PV.arr (8 : Nat)
 (BRow.ints Go.IntKind.u16
 (setZ x.snd.snd.snd x.fst
 (hexW
 (cutZ l x.snd.snd.fst
 (x.snd.snd.fst +
 ↑(hexLen
 (List.drop x.snd.snd.fst.toNat l)))))))),
 ((34 : Nat),
 PV.arr (8 : Nat)
 (BRow.ints Go.IntKind.u16 (List.replicate (8 : Nat) (0 : Int))))] =
 VS.mk []
 [((0 : Nat), PV.str l), ((2 : Nat), PV.ptr (34 : Nat) (0 : Nat)),
 ((3 : Nat), PV.bool false), ((4 : Nat), PV.ptr (36 : Nat) (0 : Nat)),
 ((5 : Nat), PV.int Go.IntKind.u32 (0 : Int)), ((6 : Nat), PV.bool false),
 ((7 : Nat), PV.int Go.IntKind.i64 (x.fst + (1 : Int))),
 ((8 : Nat), PV.int Go.IntKind.i64 x.snd.fst),
 ((9 : Nat),
 PV.int Go.IntKind.i64
 (x.snd.snd.fst +
 ↑(hexLen (List.drop x.snd.snd.fst.toNat l)) +
 (1 : Int))),
 ((10 : Nat), PV.undef), ((13 : Nat), PV.undef), ((17 : Nat), PV.undef),
 ((30 : Nat), PV.undef), ((43 : Nat), PV.undef), ((56 : Nat), PV.undef),
 ((67 : Nat), PV.undef), ((73 : Nat), PV.undef), ((75 : Nat), PV.undef),
 ((82 : Nat), PV.undef), ((95 : Nat), PV.undef), ((113 : Nat), PV.undef),
 ((120 : Nat), PV.undef)]
 [((36 : Nat),
 PV.arr (8 : Nat)
 (BRow.ints Go.IntKind.u16
 (setZ x.snd.snd.snd x.fst
 (hexW
 (cutZ l x.snd.snd.fst
 (x.snd.snd.fst +
 ↑(hexLen
 (List.drop x.snd.snd.fst.toNat l)))))))),
 ((34 : Nat),
 PV.arr (8 : Nat)
 (BRow.ints Go.IntKind.u16 (List.replicate (8 : Nat) (0 : Int))))] ∧
 (∃ (acc : List Int),
 x.fst + (1 : Int) = ↑acc.length ∧
 acc.length ≤ (8 : Nat) ∧
 setZ x.snd.snd.snd x.fst
 (hexW
 (cutZ l x.snd.snd.fst
 (x.snd.snd.fst +
 ↑(hexLen (List.drop x.snd.snd.fst.toNat l))))) =
 pad acc ∧
 (-1 : Int) ≤ x.snd.fst ∧
 x.snd.fst ≤ x.fst + (1 : Int) ∧
 (0 : Int) ≤
 x.snd.snd.fst +
 ↑(hexLen (List.drop x.snd.snd.fst.toNat l)) +
 (1 : Int) ∧
 x.snd.snd.fst +
 ↑(hexLen (List.drop x.snd.snd.fst.toNat l)) +
 (1 : Int) ≤
 ↑(List.length l) ∧
 six1 l ((9 : Nat) - acc.length) acc x.snd.fst
 (x.snd.snd.fst +
 ↑(hexLen
 (List.drop x.snd.snd.fst.toNat l)) +
 (1 : Int)).toNat =
 six l) ∧
 ((9 : Int) - (x.fst + (1 : Int))).toNat < ((9 : Int) - x.fst).toNat) ∧
 ((!decide
 (byteZ l
 (x.snd.snd.fst +
 ↑(hexLen (List.drop x.snd.snd.fst.toNat l)) +
 (1 : Int)) =
 (58 : Int))) =
 false →
 (decide ((0 : Int) ≤ x.snd.fst) = true →
 k
 (PV.tup
 [PV.arr (8 : Nat) (BRow.ints Go.IntKind.u16 (List.replicate (8 : Nat) (0 : Int))),
 PV.bool false])) ∧
 (decide ((0 : Int) ≤ x.snd.fst) = false →
 inI64
 (x.snd.snd.fst + ↑(hexLen (List.drop x.snd.snd.fst.toNat l)) +
 (1 : Int) +
 (1 : Int)) ∧
 (decide
 (x.snd.snd.fst +
 ↑(hexLen (List.drop x.snd.snd.fst.toNat l)) +
 (1 : Int) +
 (1 : Int) <
 lenZ l) =
 true →
 VS.mk []
 [((0 : Nat), PV.str l), ((2 : Nat), PV.ptr (34 : Nat) (0 : Nat)),
 ((3 : Nat), PV.bool false), ((4 : Nat), PV.ptr (36 : Nat) (0 : Nat)),
 ((5 : Nat), PV.int Go.IntKind.u32 (0 : Int)),
 ((6 : Nat), PV.bool false),
 ((7 : Nat), PV.int Go.IntKind.i64 (x.fst + (1 : Int))),
 ((8 : Nat), PV.int Go.IntKind.i64 (x.fst + (1 : Int))),
 ((9 : Nat),
 PV.int Go.IntKind.i64
 (x.snd.snd.fst +
 ↑(hexLen
 (List.drop x.snd.snd.fst.toNat l)) +
 (1 : Int) +
 (1 : Int))),
 ((10 : Nat), PV.undef), ((13 : Nat), PV.undef),
 ((17 : Nat), PV.undef), ((30 : Nat), PV.undef),
 ((43 : Nat), PV.undef), ((56 : Nat), PV.undef),
 ((67 : Nat), PV.undef), ((73 : Nat), PV.undef),
 ((75 : Nat), PV.undef), ((82 : Nat), PV.undef),
 ((95 : Nat), PV.undef), ((113 : Nat), PV.undef),
 ((120 : Nat), PV.undef)]
 [((36 : Nat),
 PV.arr (8 : Nat)
 (BRow.ints Go.IntKind.u16
 (setZ x.snd.snd.snd x.fst
 (hexW
 (cutZ l x.snd.snd.fst
 (x.snd.snd.fst +
 ↑(hexLen
 (List.drop x.snd.snd.fst.toNat l)))))))),
 ((34 : Nat),
 PV.arr (8 : Nat)
 (BRow.ints Go.IntKind.u16 (List.replicate (8 : Nat) (0 : Int))))] =
 VS.mk []
 [((0 : Nat), PV.str l), ((2 : Nat), PV.ptr (34 : Nat) (0 : Nat)),
 ((3 : Nat), PV.bool false), ((4 : Nat), PV.ptr (36 : Nat) (0 : Nat)),
 ((5 : Nat), PV.int Go.IntKind.u32 (0 : Int)),
 ((6 : Nat), PV.bool false),
 ((7 : Nat), PV.int Go.IntKind.i64 (x.fst + (1 : Int))),
 ((8 : Nat), PV.int Go.IntKind.i64 (x.fst + (1 : Int))),
 ((9 : Nat),
 PV.int Go.IntKind.i64
 (x.snd.snd.fst +
 ↑(hexLen
 (List.drop x.snd.snd.fst.toNat l)) +
 (1 : Int) +
 (1 : Int))),
 ((10 : Nat), PV.undef), ((13 : Nat), PV.undef),
 ((17 : Nat), PV.undef), ((30 : Nat), PV.undef),
 ((43 : Nat), PV.undef), ((56 : Nat), PV.undef),
 ((67 : Nat), PV.undef), ((73 : Nat), PV.undef),
 ((75 : Nat), PV.undef), ((82 : Nat), PV.undef),
 ((95 : Nat), PV.undef), ((113 : Nat), PV.undef),
 ((120 : Nat), PV.undef)]
 [((36 : Nat),
 PV.arr (8 : Nat)
 (BRow.ints Go.IntKind.u16
 (setZ x.snd.snd.snd x.fst
 (hexW
 (cutZ l x.snd.snd.fst
 (x.snd.snd.fst +
 ↑(hexLen
 (List.drop x.snd.snd.fst.toNat l)))))))),
 ((34 : Nat),
 PV.arr (8 : Nat)
 (BRow.ints Go.IntKind.u16 (List.replicate (8 : Nat) (0 : Int))))] ∧
 (∃ (acc : List Int),
 x.fst + (1 : Int) = ↑acc.length ∧
 acc.length ≤ (8 : Nat) ∧
 setZ x.snd.snd.snd x.fst
 (hexW
 (cutZ l x.snd.snd.fst
 (x.snd.snd.fst +
 ↑(hexLen
 (List.drop x.snd.snd.fst.toNat l))))) =
 pad acc ∧
 (-1 : Int) ≤ x.fst + (1 : Int) ∧
 x.fst + (1 : Int) ≤ x.fst + (1 : Int) ∧
 (0 : Int) ≤
 x.snd.snd.fst +
 ↑(hexLen
 (List.drop x.snd.snd.fst.toNat l)) +
 (1 : Int) +
 (1 : Int) ∧
 x.snd.snd.fst +
 ↑(hexLen
 (List.drop x.snd.snd.fst.toNat l)) +
 (1 : Int) +
 (1 : Int) ≤
 ↑(List.length l) ∧
 six1 l ((9 : Nat) - acc.length) acc
 (x.fst + (1 : Int))
 (x.snd.snd.fst +
 ↑(hexLen
 (List.drop x.snd.snd.fst.toNat l)) +
 (1 : Int) +
 (1 : Int)).toNat =
 six l) ∧
 ((9 : Int) - (x.fst + (1 : Int))).toNat < ((9 : Int) - x.fst).toNat) ∧
 (decide
 (x.snd.snd.fst +
 ↑(hexLen (List.drop x.snd.snd.fst.toNat l)) +
 (1 : Int) +
 (1 : Int) <
 lenZ l) =
 false →
 ((bif decide (x.fst + (1 : Int) < (0 : Int)) then decide (x.fst + (1 : Int) = (8 : Int))
 else false) =
 true →
 k
 (PV.tup
 [PV.arr (8 : Nat)
 (BRow.ints Go.IntKind.u16
 (setZ x.snd.snd.snd x.fst
 (hexW
 (cutZ l x.snd.snd.fst
 (x.snd.snd.fst +
 ↑(hexLen
 (List.drop x.snd.snd.fst.toNat l))))))),
 PV.bool true])) ∧
 ((bif decide (x.fst + (1 : Int) < (0 : Int)) then decide (x.fst + (1 : Int) = (8 : Int))
 else false) =
 false →
 ((bif decide ((0 : Int) ≤ x.fst + (1 : Int)) then decide (x.fst + (1 : Int) < (8 : Int))
 else false) =
 true →
 ((setZ x.snd.snd.snd x.fst
 (hexW
 (cutZ l x.snd.snd.fst
 (x.snd.snd.fst +
 ↑(hexLen
 (List.drop x.snd.snd.fst.toNat l)))))).length =
 (8 : Nat) ∧
 (0 : Int) ≤ x.fst + (1 : Int) ∧
 x.fst + (1 : Int) ≤ x.fst + (1 : Int) ∧ x.fst + (1 : Int) ≤ (7 : Int)) ∧
 k
 (PV.tup
 [PV.arr (8 : Nat)
 (BRow.ints Go.IntKind.u16
 (spreadM
 (setZ x.snd.snd.snd x.fst
 (hexW
 (cutZ l x.snd.snd.fst
 (x.snd.snd.fst +
 ↑(hexLen
 (List.drop x.snd.snd.fst.toNat l))))))
 (x.fst + (1 : Int)).toNat (x.fst + (1 : Int)).toNat)),
 PV.bool true])) ∧
 ((bif decide ((0 : Int) ≤ x.fst + (1 : Int)) then
 decide (x.fst + (1 : Int) < (8 : Int))
 else false) =
 false →
 k
 (PV.tup
 [PV.arr (8 : Nat)
 (BRow.ints Go.IntKind.u16 (List.replicate (8 : Nat) (0 : Int))),
 PV.bool false]))))))))))) ∧
 ((!preB l (ByteArray.mk #[(58 : UInt8), (58 : UInt8)]).data.toList) = false →
 (decide ((2 : Int) = lenZ l) = true →
 (false = true → k (PV.tup [PV.arr (8 : Nat) (BRow.ints Go.IntKind.u16 (List.replicate (8 : Nat) (0 : Int))), PV.bool true])) ∧
 (false = false →
 (decide ((0 : Int) < (8 : Int)) = true →
 ((List.replicate (8 : Nat) (0 : Int)).length = (8 : Nat) ∧ (0 : Int) ≤ (0 : Int) ∧ (0 : Int) ≤ (0 : Int) ∧ (0 : Int) ≤ (7 : Int)) ∧
 k
 (PV.tup
 [PV.arr (8 : Nat)
 (BRow.ints Go.IntKind.u16
 (spreadM (List.replicate (8 : Nat) (0 : Int)) (Int.toNat (0 : Int)) (Int.toNat (0 : Int)))),
 PV.bool true])) ∧
 (decide ((0 : Int) < (8 : Int)) = false →
 k (PV.tup [PV.arr (8 : Nat) (BRow.ints Go.IntKind.u16 (List.replicate (8 : Nat) (0 : Int))), PV.bool false])))) ∧
 (decide ((2 : Int) = lenZ l) = false →
 ((0 : Int) ≤ (2 : Int) ∧ (2 : Int) ≤ ↑(List.length l) ∧ List.length l ≤ (1000000 : Nat)) ∧
 (decide ((2 : Int) + ↑(hexLen (List.drop (Int.toNat (2 : Int)) l)) < lenZ l) = true →
 within ((2 : Int) + ↑(hexLen (List.drop (Int.toNat (2 : Int)) l))) (lenZ l)) ∧
 ((bif decide ((2 : Int) + ↑(hexLen (List.drop (Int.toNat (2 : Int)) l)) < lenZ l) then
 decide (byteZ l ((2 : Int) + ↑(hexLen (List.drop (Int.toNat (2 : Int)) l))) = (46 : Int))
 else false) =
 true →
 upto (2 : Int) (lenZ l) (lenZ l) ∧
 (dropZ l (2 : Int)).length.le (1000000 : Nat) ∧
 ((bif !dotO (dropZ l (2 : Int)) then true else decide ((6 : Int) < (0 : Int))) = true →
 k
 (PV.tup
 [PV.arr (8 : Nat) (BRow.ints Go.IntKind.u16 (List.replicate (8 : Nat) (0 : Int))), PV.bool false])) ∧
 ((bif !dotO (dropZ l (2 : Int)) then true else decide ((6 : Int) < (0 : Int))) = false →
 inI64 ((0 : Int) + (1 : Int)) ∧
 (0 : Int) ≤ (16 : Int) ∧
 within (0 : Int) ↑(8 : Nat) ∧
 (within (0 : Int) ↑(8 : Nat) ∧ True) ∧
 within ((0 : Int) + (1 : Int)) ↑(8 : Nat) ∧
 (within ((0 : Int) + (1 : Int)) ↑(8 : Nat) ∧ True) ∧
 inI64 ((0 : Int) + (2 : Int)) ∧
 (false = true →
 k
 (PV.tup
 [PV.arr (8 : Nat)
 (BRow.ints Go.IntKind.u16
 (setZ
 (setZ (List.replicate (8 : Nat) (0 : Int)) (0 : Int)
 (Go.IntKind.u16.wrap
 (shrZ Go.IntKind.u32 (dotV (dropZ l (2 : Int)))
 (16 : Int))))
 ((0 : Int) + (1 : Int))
 (Go.IntKind.u16.wrap (dotV (dropZ l (2 : Int)))))),
 PV.bool true])) ∧
 (false = false →
 (decide ((0 : Int) + (2 : Int) < (8 : Int)) = true →
 ((setZ
 (setZ (List.replicate (8 : Nat) (0 : Int)) (0 : Int)
 (Go.IntKind.u16.wrap
 (shrZ Go.IntKind.u32 (dotV (dropZ l (2 : Int)))
 (16 : Int))))
 ((0 : Int) + (1 : Int))
 (Go.IntKind.u16.wrap (dotV (dropZ l (2 : Int))))).length =
 (8 : Nat) ∧
 (0 : Int) ≤ (0 : Int) ∧ (0 : Int) ≤ (0 : Int) + (2 : Int) ∧ (0 : Int) + (2 : Int) ≤ (7 : Int)) ∧
 k
 (PV.tup
 [PV.arr (8 : Nat)
 (BRow.ints Go.IntKind.u16
 (spreadM
 (setZ
 (setZ (List.replicate (8 : Nat) (0 : Int)) (0 : Int)
 (Go.IntKind.u16.wrap
 (shrZ Go.IntKind.u32 (dotV (dropZ l (2 : Int)))
 (16 : Int))))
 ((0 : Int) + (1 : Int))
 (Go.IntKind.u16.wrap (dotV (dropZ l (2 : Int)))))
 ((0 : Int) + (2 : Int)).toNat (Int.toNat (0 : Int)))),
 PV.bool true])) ∧
 (decide ((0 : Int) + (2 : Int) < (8 : Int)) = false →
 k
 (PV.tup
 [PV.arr (8 : Nat) (BRow.ints Go.IntKind.u16 (List.replicate (8 : Nat) (0 : Int))),
 PV.bool false]))))) ∧
 ((bif decide ((2 : Int) + ↑(hexLen (List.drop (Int.toNat (2 : Int)) l)) < lenZ l) then
 decide (byteZ l ((2 : Int) + ↑(hexLen (List.drop (Int.toNat (2 : Int)) l))) = (46 : Int))
 else false) =
 false →
 (decide ((2 : Int) + ↑(hexLen (List.drop (Int.toNat (2 : Int)) l)) = (2 : Int)) = false →
 inI64 ((2 : Int) + (4 : Int))) ∧
 ((bif decide ((2 : Int) + ↑(hexLen (List.drop (Int.toNat (2 : Int)) l)) = (2 : Int)) then true
 else decide ((2 : Int) + (4 : Int) < (2 : Int) + ↑(hexLen (List.drop (Int.toNat (2 : Int)) l)))) =
 true →
 k (PV.tup [PV.arr (8 : Nat) (BRow.ints Go.IntKind.u16 (List.replicate (8 : Nat) (0 : Int))), PV.bool false])) ∧
 ((bif decide ((2 : Int) + ↑(hexLen (List.drop (Int.toNat (2 : Int)) l)) = (2 : Int)) then true
 else decide ((2 : Int) + (4 : Int) < (2 : Int) + ↑(hexLen (List.drop (Int.toNat (2 : Int)) l)))) =
 false →
 upto (2 : Int) ((2 : Int) + ↑(hexLen (List.drop (Int.toNat (2 : Int)) l))) (lenZ l) ∧
 ((cutZ l (2 : Int) ((2 : Int) + ↑(hexLen (List.drop (Int.toNat (2 : Int)) l)))).length ≤
 (4 : Nat) ∧
 ∀ (i : Nat),
 i < (cutZ l (2 : Int) ((2 : Int) + ↑(hexLen (List.drop (Int.toNat (2 : Int)) l)))).length →
 (0 : Int) ≤
 hexN
 (byt
 (cutZ l (2 : Int) ((2 : Int) + ↑(hexLen (List.drop (Int.toNat (2 : Int)) l))))
 i)) ∧
 within (0 : Int) ↑(8 : Nat) ∧
 (within (0 : Int) ↑(8 : Nat) ∧ True) ∧
 inI64 ((0 : Int) + (1 : Int)) ∧
 (decide ((2 : Int) + ↑(hexLen (List.drop (Int.toNat (2 : Int)) l)) = lenZ l) = true →
 (false = true →
 k
 (PV.tup
 [PV.arr (8 : Nat)
 (BRow.ints Go.IntKind.u16
 (setZ (List.replicate (8 : Nat) (0 : Int)) (0 : Int)
 (hexW
 (cutZ l (2 : Int)
 ((2 : Int) + ↑(hexLen (List.drop (Int.toNat (2 : Int)) l))))))),
 PV.bool true])) ∧
 (false = false →
 (decide ((0 : Int) + (1 : Int) < (8 : Int)) = true →
 ((setZ (List.replicate (8 : Nat) (0 : Int)) (0 : Int)
 (hexW
 (cutZ l (2 : Int)
 ((2 : Int) +
 ↑(hexLen (List.drop (Int.toNat (2 : Int)) l)))))).length =
 (8 : Nat) ∧
 (0 : Int) ≤ (0 : Int) ∧ (0 : Int) ≤ (0 : Int) + (1 : Int) ∧ (0 : Int) + (1 : Int) ≤ (7 : Int)) ∧
 k
 (PV.tup
 [PV.arr (8 : Nat)
 (BRow.ints Go.IntKind.u16
 (spreadM
 (setZ (List.replicate (8 : Nat) (0 : Int)) (0 : Int)
 (hexW
 (cutZ l (2 : Int)
 ((2 : Int) + ↑(hexLen (List.drop (Int.toNat (2 : Int)) l))))))
 ((0 : Int) + (1 : Int)).toNat (Int.toNat (0 : Int)))),
 PV.bool true])) ∧
 (decide ((0 : Int) + (1 : Int) < (8 : Int)) = false →
 k
 (PV.tup
 [PV.arr (8 : Nat) (BRow.ints Go.IntKind.u16 (List.replicate (8 : Nat) (0 : Int))),
 PV.bool false])))) ∧
 (decide ((2 : Int) + ↑(hexLen (List.drop (Int.toNat (2 : Int)) l)) = lenZ l) = false →
 within ((2 : Int) + ↑(hexLen (List.drop (Int.toNat (2 : Int)) l))) (lenZ l) ∧
 ((!decide
 (byteZ l ((2 : Int) + ↑(hexLen (List.drop (Int.toNat (2 : Int)) l))) =
 (58 : Int))) =
 false →
 inI64
 ((2 : Int) + ↑(hexLen (List.drop (Int.toNat (2 : Int)) l)) + (1 : Int))) ∧
 ((bif
 !decide
 (byteZ l
 ((2 : Int) + ↑(hexLen (List.drop (Int.toNat (2 : Int)) l))) =
 (58 : Int)) then
 true
 else
 decide
 ((2 : Int) + ↑(hexLen (List.drop (Int.toNat (2 : Int)) l)) + (1 : Int) =
 lenZ l)) =
 true →
 k
 (PV.tup
 [PV.arr (8 : Nat) (BRow.ints Go.IntKind.u16 (List.replicate (8 : Nat) (0 : Int))),
 PV.bool false])) ∧
 ((bif
 !decide
 (byteZ l
 ((2 : Int) + ↑(hexLen (List.drop (Int.toNat (2 : Int)) l))) =
 (58 : Int)) then
 true
 else
 decide
 ((2 : Int) + ↑(hexLen (List.drop (Int.toNat (2 : Int)) l)) + (1 : Int) =
 lenZ l)) =
 false →
 inI64
 ((2 : Int) + ↑(hexLen (List.drop (Int.toNat (2 : Int)) l)) + (1 : Int)) ∧
 within
 ((2 : Int) + ↑(hexLen (List.drop (Int.toNat (2 : Int)) l)) + (1 : Int))
 (lenZ l) ∧
 ((!decide
 (byteZ l
 ((2 : Int) + ↑(hexLen (List.drop (Int.toNat (2 : Int)) l)) +
 (1 : Int)) =
 (58 : Int))) =
 true →
 VS.mk []
 [(nat_lit 0, PV.str l), (nat_lit 2, PV.ptr ((2 : Nat) + (32 : Nat)) (0 : Nat)),
 (nat_lit 3, PV.bool false), (nat_lit 4, PV.ptr ((4 : Nat) + (32 : Nat)) (0 : Nat)),
 (nat_lit 5, PV.int Go.IntKind.u32 (0 : Int)), (nat_lit 6, PV.bool false),
 (nat_lit 7, PV.int Go.IntKind.i64 ((0 : Int) + (1 : Int))),
 (nat_lit 8, PV.int Go.IntKind.i64 (0 : Int)),
 (nat_lit 9,
 PV.int Go.IntKind.i64
 ((2 : Int) + ↑(hexLen (List.drop (Int.toNat (2 : Int)) l)) +
 (1 : Int))),
 ((10 : Nat), PV.undef), ((13 : Nat), PV.undef), ((17 : Nat), PV.undef),
 ((30 : Nat), PV.undef), ((43 : Nat), PV.undef), ((56 : Nat), PV.undef),
 ((67 : Nat), PV.undef), ((73 : Nat), PV.undef), ((75 : Nat), PV.undef),
 ((82 : Nat), PV.undef), (nat_lit 95, PV.undef), (nat_lit 113, PV.undef),
 (nat_lit 120, PV.undef)]
 [((4 : Nat) + (32 : Nat),
 PV.arr (8 : Nat)
 (BRow.ints Go.IntKind.u16
 (setZ (List.replicate (8 : Nat) (0 : Int)) (0 : Int)
 (hexW
 (cutZ l (2 : Int)
 ((2 : Int) +
 ↑(hexLen (List.drop (Int.toNat (2 : Int)) l)))))))),
 ((2 : Nat) + (32 : Nat),
 PV.arr (8 : Nat) (BRow.ints Go.IntKind.u16 (List.replicate (8 : Nat) (0 : Int))))] =
 VS.mk []
 [((0 : Nat), PV.str l), ((2 : Nat), PV.ptr (34 : Nat) (0 : Nat)),
 ((3 : Nat), PV.bool false), ((4 : Nat), PV.ptr (36 : Nat) (0 : Nat)),
 ((5 : Nat), PV.int Go.IntKind.u32 (0 : Int)), ((6 : Nat), PV.bool false),
 ((7 : Nat), PV.int Go.IntKind.i64 ((0 : Int) + (1 : Int))),
 ((8 : Nat), PV.int Go.IntKind.i64 (0 : Int)),
 ((9 : Nat),
 PV.int Go.IntKind.i64
 ((2 : Int) + ↑(hexLen (List.drop (Int.toNat (2 : Int)) l)) +
 (1 : Int))),
 ((10 : Nat), PV.undef), ((13 : Nat), PV.undef), ((17 : Nat), PV.undef),
 ((30 : Nat), PV.undef), ((43 : Nat), PV.undef), ((56 : Nat), PV.undef),
 ((67 : Nat), PV.undef), ((73 : Nat), PV.undef), ((75 : Nat), PV.undef),
 ((82 : Nat), PV.undef), ((95 : Nat), PV.undef), ((113 : Nat), PV.undef),
 ((120 : Nat), PV.undef)]
 [((36 : Nat),
 PV.arr (8 : Nat)
 (BRow.ints Go.IntKind.u16
 (setZ (List.replicate (8 : Nat) (0 : Int)) (0 : Int)
 (hexW
 (cutZ l (2 : Int)
 ((2 : Int) +
 ↑(hexLen (List.drop (Int.toNat (2 : Int)) l)))))))),
 ((34 : Nat),
 PV.arr (8 : Nat) (BRow.ints Go.IntKind.u16 (List.replicate (8 : Nat) (0 : Int))))] ∧
 (∃ (acc : List Int),
 (0 : Int) + (1 : Int) = ↑acc.length ∧
 acc.length ≤ (8 : Nat) ∧
 setZ (List.replicate (8 : Nat) (0 : Int)) (0 : Int)
 (hexW
 (cutZ l (2 : Int)
 ((2 : Int) +
 ↑(hexLen (List.drop (Int.toNat (2 : Int)) l))))) =
 pad acc ∧
 (-1 : Int) ≤ (0 : Int) ∧
 (0 : Int) ≤ (0 : Int) + (1 : Int) ∧
 (0 : Int) ≤
 (2 : Int) +
 ↑(hexLen (List.drop (Int.toNat (2 : Int)) l)) +
 (1 : Int) ∧
 (2 : Int) +
 ↑(hexLen (List.drop (Int.toNat (2 : Int)) l)) +
 (1 : Int) ≤
 ↑(List.length l) ∧
 six1 l ((9 : Nat) - acc.length) acc (0 : Int)
 ((2 : Int) +
 ↑(hexLen
 (List.drop (Int.toNat (2 : Int)) l)) +
 (1 : Int)).toNat =
 six l) ∧
 ∀ (x : Int × Int × Int × List Int),
 (∃ (acc : List Int),
 x.fst = ↑acc.length ∧
 acc.length ≤ (8 : Nat) ∧
 x.snd.snd.snd = pad acc ∧
 (-1 : Int) ≤ x.snd.fst ∧
 x.snd.fst ≤ x.fst ∧
 (0 : Int) ≤ x.snd.snd.fst ∧
 x.snd.snd.fst ≤ ↑(List.length l) ∧
 six1 l ((9 : Nat) - acc.length) acc x.snd.fst
 x.snd.snd.fst.toNat =
 six l) →
 ((0 : Int) ≤ x.snd.snd.fst ∧ x.snd.snd.fst ≤ ↑(List.length l) ∧ List.length l ≤ (1000000 : Nat)) ∧
 (decide
 (x.snd.snd.fst +
 ↑(hexLen (List.drop x.snd.snd.fst.toNat l)) <
 lenZ l) =
 true →
 within
 (x.snd.snd.fst +
 ↑(hexLen (List.drop x.snd.snd.fst.toNat l)))
 (lenZ l)) ∧
 ((bif
 decide
 (x.snd.snd.fst +
 ↑(hexLen (List.drop x.snd.snd.fst.toNat l)) <
 lenZ l) then
 decide
 (byteZ l
 (x.snd.snd.fst +
 ↑(hexLen (List.drop x.snd.snd.fst.toNat l))) =
 (46 : Int))
 else false) =
 true →
 upto x.snd.snd.fst (lenZ l) (lenZ l) ∧
 (dropZ l x.snd.snd.fst).length.le (1000000 : Nat) ∧
 ((bif !dotO (dropZ l x.snd.snd.fst) then true
 else decide ((6 : Int) < x.fst)) =
 true →
 k
 (PV.tup
 [PV.arr (8 : Nat)
 (BRow.ints Go.IntKind.u16 (List.replicate (8 : Nat) (0 : Int))),
 PV.bool false])) ∧
 ((bif !dotO (dropZ l x.snd.snd.fst) then true
 else decide ((6 : Int) < x.fst)) =
 false →
 inI64 (x.fst + (1 : Int)) ∧
 (0 : Int) ≤ (16 : Int) ∧
 within x.fst ↑(8 : Nat) ∧
 (within x.fst ↑(8 : Nat) ∧ True) ∧
 within (x.fst + (1 : Int)) ↑(8 : Nat) ∧
 (within (x.fst + (1 : Int)) ↑(8 : Nat) ∧ True) ∧
 inI64 (x.fst + (2 : Int)) ∧
 ((bif decide (x.snd.fst < (0 : Int)) then
 decide (x.fst + (2 : Int) = (8 : Int))
 else false) =
 true →
 k
 (PV.tup
 [PV.arr (8 : Nat)
 (BRow.ints Go.IntKind.u16
 (setZ
 (setZ x.snd.snd.snd x.fst
 (Go.IntKind.u16.wrap
 (shrZ Go.IntKind.u32
 (dotV
 (dropZ l x.snd.snd.fst))
 (16 : Int))))
 (x.fst + (1 : Int))
 (Go.IntKind.u16.wrap
 (dotV
 (dropZ l x.snd.snd.fst))))),
 PV.bool true])) ∧
 ((bif decide (x.snd.fst < (0 : Int)) then
 decide (x.fst + (2 : Int) = (8 : Int))
 else false) =
 false →
 ((bif decide ((0 : Int) ≤ x.snd.fst) then
 decide (x.fst + (2 : Int) < (8 : Int))
 else false) =
 true →
 ((setZ
 (setZ x.snd.snd.snd x.fst
 (Go.IntKind.u16.wrap
 (shrZ Go.IntKind.u32
 (dotV
 (dropZ l x.snd.snd.fst))
 (16 : Int))))
 (x.fst + (1 : Int))
 (Go.IntKind.u16.wrap
 (dotV
 (dropZ l x.snd.snd.fst)))).length =
 (8 : Nat) ∧
 (0 : Int) ≤ x.snd.fst ∧
 x.snd.fst ≤ x.fst + (2 : Int) ∧
 x.fst + (2 : Int) ≤ (7 : Int)) ∧
 k
 (PV.tup
 [PV.arr (8 : Nat)
 (BRow.ints Go.IntKind.u16
 (spreadM
 (setZ
 (setZ x.snd.snd.snd x.fst
 (Go.IntKind.u16.wrap
 (shrZ Go.IntKind.u32
 (dotV
 (dropZ l x.snd.snd.fst))
 (16 : Int))))
 (x.fst + (1 : Int))
 (Go.IntKind.u16.wrap
 (dotV
 (dropZ l x.snd.snd.fst))))
 (x.fst + (2 : Int)).toNat x.snd.fst.toNat)),
 PV.bool true])) ∧
 ((bif decide ((0 : Int) ≤ x.snd.fst) then
 decide (x.fst + (2 : Int) < (8 : Int))
 else false) =
 false →
 k
 (PV.tup
 [PV.arr (8 : Nat)
 (BRow.ints Go.IntKind.u16
 (List.replicate (8 : Nat) (0 : Int))),
 PV.bool false]))))) ∧
 ((bif
 decide
 (x.snd.snd.fst +
 ↑(hexLen (List.drop x.snd.snd.fst.toNat l)) <
 lenZ l) then
 decide
 (byteZ l
 (x.snd.snd.fst +
 ↑(hexLen (List.drop x.snd.snd.fst.toNat l))) =
 (46 : Int))
 else false) =
 false →
 ((bif decide (x.fst = (8 : Int)) then true
 else
 decide
 (x.snd.snd.fst +
 ↑(hexLen (List.drop x.snd.snd.fst.toNat l)) =
 x.snd.snd.fst)) =
 false →
 inI64 (x.snd.snd.fst + (4 : Int))) ∧
 ((bif
 bif decide (x.fst = (8 : Int)) then true
 else
 decide
 (x.snd.snd.fst +
 ↑(hexLen
 (List.drop x.snd.snd.fst.toNat l)) =
 x.snd.snd.fst) then
 true
 else
 decide
 (x.snd.snd.fst + (4 : Int) <
 x.snd.snd.fst +
 ↑(hexLen
 (List.drop x.snd.snd.fst.toNat l)))) =
 true →
 k
 (PV.tup
 [PV.arr (8 : Nat)
 (BRow.ints Go.IntKind.u16 (List.replicate (8 : Nat) (0 : Int))),
 PV.bool false])) ∧
 ((bif
 bif decide (x.fst = (8 : Int)) then true
 else
 decide
 (x.snd.snd.fst +
 ↑(hexLen
 (List.drop x.snd.snd.fst.toNat l)) =
 x.snd.snd.fst) then
 true
 else
 decide
 (x.snd.snd.fst + (4 : Int) <
 x.snd.snd.fst +
 ↑(hexLen
 (List.drop x.snd.snd.fst.toNat l)))) =
 false →
 upto x.snd.snd.fst
 (x.snd.snd.fst +
 ↑(hexLen (List.drop x.snd.snd.fst.toNat l)))
 (lenZ l) ∧
 ((cutZ l x.snd.snd.fst
 (x.snd.snd.fst +
 ↑(hexLen
 (List.drop x.snd.snd.fst.toNat l)))).length ≤
 (4 : Nat) ∧
 ∀ (i : Nat),
 i <
 (cutZ l x.snd.snd.fst
 (x.snd.snd.fst +
 ↑(hexLen
 (List.drop x.snd.snd.fst.toNat l)))).length →
 (0 : Int) ≤
 hexN
 (byt
 (cutZ l x.snd.snd.fst
 (x.snd.snd.fst +
 ↑(hexLen
 (List.drop x.snd.snd.fst.toNat l))))
 i)) ∧
 within x.fst ↑(8 : Nat) ∧
 (within x.fst ↑(8 : Nat) ∧ True) ∧
 inI64 (x.fst + (1 : Int)) ∧
 (decide
 (x.snd.snd.fst +
 ↑(hexLen
 (List.drop x.snd.snd.fst.toNat l)) =
 lenZ l) =
 true →
 ((bif decide (x.snd.fst < (0 : Int)) then
 decide (x.fst + (1 : Int) = (8 : Int))
 else false) =
 true →
 k
 (PV.tup
 [PV.arr (8 : Nat)
 (BRow.ints Go.IntKind.u16
 (setZ x.snd.snd.snd x.fst
 (hexW
 (cutZ l x.snd.snd.fst
 (x.snd.snd.fst +
 ↑(hexLen
 (List.drop x.snd.snd.fst.toNat l))))))),
 PV.bool true])) ∧
 ((bif decide (x.snd.fst < (0 : Int)) then
 decide (x.fst + (1 : Int) = (8 : Int))
 else false) =
 false →
 ((bif decide ((0 : Int) ≤ x.snd.fst) then
 decide (x.fst + (1 : Int) < (8 : Int))
 else false) =
 true →
 ((setZ x.snd.snd.snd x.fst
 (hexW
 (cutZ l x.snd.snd.fst
 (x.snd.snd.fst +
 ↑(hexLen
 (List.drop x.snd.snd.fst.toNat
 l)))))).length =
 (8 : Nat) ∧
 (0 : Int) ≤ x.snd.fst ∧
 x.snd.fst ≤ x.fst + (1 : Int) ∧
 x.fst + (1 : Int) ≤ (7 : Int)) ∧
 k
 (PV.tup
 [PV.arr (8 : Nat)
 (BRow.ints Go.IntKind.u16
 (spreadM
 (setZ x.snd.snd.snd x.fst
 (hexW
 (cutZ l x.snd.snd.fst
 (x.snd.snd.fst +
 ↑(hexLen
 (List.drop x.snd.snd.fst.toNat
 l))))))
 (x.fst + (1 : Int)).toNat x.snd.fst.toNat)),
 PV.bool true])) ∧
 ((bif decide ((0 : Int) ≤ x.snd.fst) then
 decide (x.fst + (1 : Int) < (8 : Int))
 else false) =
 false →
 k
 (PV.tup
 [PV.arr (8 : Nat)
 (BRow.ints Go.IntKind.u16
 (List.replicate (8 : Nat) (0 : Int))),
 PV.bool false])))) ∧
 (decide
 (x.snd.snd.fst +
 ↑(hexLen
 (List.drop x.snd.snd.fst.toNat l)) =
 lenZ l) =
 false →
 within
 (x.snd.snd.fst +
 ↑(hexLen
 (List.drop x.snd.snd.fst.toNat l)))
 (lenZ l) ∧
 ((!decide
 (byteZ l
 (x.snd.snd.fst +
 ↑(hexLen
 (List.drop x.snd.snd.fst.toNat l))) =
 (58 : Int))) =
 false →
 inI64
 (x.snd.snd.fst +
 ↑(hexLen
 (List.drop x.snd.snd.fst.toNat l)) +
 (1 : Int))) ∧
 ((bif
 !decide
 (byteZ l
 (x.snd.snd.fst +
 ↑(hexLen
 (List.drop x.snd.snd.fst.toNat l))) =
 (58 : Int)) then
 true
 else
 decide
 (x.snd.snd.fst +
 ↑(hexLen
 (List.drop x.snd.snd.fst.toNat l)) +
 (1 : Int) =
 lenZ l)) =
 true →
 k
 (PV.tup
 [PV.arr (8 : Nat)
 (BRow.ints Go.IntKind.u16
 (List.replicate (8 : Nat) (0 : Int))),
 PV.bool false])) ∧
 ((bif
 !decide
 (byteZ l
 (x.snd.snd.fst +
 ↑(hexLen
 (List.drop x.snd.snd.fst.toNat l))) =
 (58 : Int)) then
 true
 else
 decide
 (x.snd.snd.fst +
 ↑(hexLen
 (List.drop x.snd.snd.fst.toNat l)) +
 (1 : Int) =
 lenZ l)) =
 false →
 inI64
 (x.snd.snd.fst +
 ↑(hexLen
 (List.drop x.snd.snd.fst.toNat l)) +
 (1 : Int)) ∧
 within
 (x.snd.snd.fst +
 ↑(hexLen
 (List.drop x.snd.snd.fst.toNat l)) +
 (1 : Int))
 (lenZ l) ∧
 ((!decide
 (byteZ l
 (x.snd.snd.fst +
 ↑(hexLen
 (List.drop x.snd.snd.fst.toNat l)) +
 (1 : Int)) =
 (58 : Int))) =
 true →
 VS.mk []
 [((0 : Nat), PV.str l),
 ((2 : Nat),
 PV.ptr (34 : Nat) (0 : Nat)),
 ((3 : Nat), PV.bool false),
 ((4 : Nat),
 PV.ptr (36 : Nat) (0 : Nat)),
 ((5 : Nat),
 PV.int Go.IntKind.u32 (0 : Int)),
 ((6 : Nat), PV.bool false),
 ((7 : Nat),
 PV.int Go.IntKind.i64
 (x.fst + (1 : Int))),
 ((8 : Nat),
 PV.int Go.IntKind.i64 x.snd.fst),
 ((9 : Nat),
 PV.int Go.IntKind.i64
 (x.snd.snd.fst +
 ↑(hexLen
 (List.drop x.snd.snd.fst.toNat
 l)) +
 (1 : Int))),
 ((10 : Nat), PV.undef),
 ((13 : Nat), PV.undef),
 ((17 : Nat), PV.undef),
 ((30 : Nat), PV.undef),
 ((43 : Nat), PV.undef),
 ((56 : Nat), PV.undef),
 ((67 : Nat), PV.undef),
 ((73 : Nat), PV.undef),
 ((75 : Nat), PV.undef),
 ((82 : Nat), PV.undef),
 ((95 : Nat), PV.undef),
 ((113 : Nat), PV.undef),
 ((120 : Nat), PV.undef)]
 [((36 : Nat),
 PV.arr (8 : Nat)
 (BRow.ints Go.IntKind.u16
 (setZ x.snd.snd.snd x.fst
 (hexW
 (cutZ l x.snd.snd.fst
 (x.snd.snd.fst +
 ↑(hexLen
 (List.drop
 x.snd.snd.fst.toNat
 l)))))))),
 ((34 : Nat),
 PV.arr (8 : Nat)
 (BRow.ints Go.IntKind.u16
 (List.replicate (8 : Nat)
 (0 : Int))))] =
 VS.mk []
 [((0 : Nat), PV.str l),
 ((2 : Nat),
 PV.ptr (34 : Nat) (0 : Nat)),
 ((3 : Nat), PV.bool false),
 ((4 : Nat),
 PV.ptr (36 : Nat) (0 : Nat)),
 ((5 : Nat),
 PV.int Go.IntKind.u32 (0 : Int)),
 ((6 : Nat), PV.bool false),
 ((7 : Nat),
 PV.int Go.IntKind.i64
 (x.fst + (1 : Int))),
 ((8 : Nat),
 PV.int Go.IntKind.i64 x.snd.fst),
 ((9 : Nat),
 PV.int Go.IntKind.i64
 (x.snd.snd.fst +
 ↑(hexLen
 (List.drop x.snd.snd.fst.toNat
 l)) +
 (1 : Int))),
 ((10 : Nat), PV.undef),
 ((13 : Nat), PV.undef),
 ((17 : Nat), PV.undef),
 ((30 : Nat), PV.undef),
 ((43 : Nat), PV.undef),
 ((56 : Nat), PV.undef),
 ((67 : Nat), PV.undef),
 ((73 : Nat), PV.undef),
 ((75 : Nat), PV.undef),
 ((82 : Nat), PV.undef),
 ((95 : Nat), PV.undef),
 ((113 : Nat), PV.undef),
 ((120 : Nat), PV.undef)]
 [((36 : Nat),
 PV.arr (8 : Nat)
 (BRow.ints Go.IntKind.u16
 (setZ x.snd.snd.snd x.fst
 (hexW
 (cutZ l x.snd.snd.fst
 (x.snd.snd.fst +
 ↑(hexLen
 (List.drop
 x.snd.snd.fst.toNat
 l)))))))),
 ((34 : Nat),
 PV.arr (8 : Nat)
 (BRow.ints Go.IntKind.u16
 (List.replicate (8 : Nat)
 (0 : Int))))] ∧
 (∃ (acc : List Int),
 x.fst + (1 : Int) = ↑acc.length ∧
 acc.length ≤ (8 : Nat) ∧
 setZ x.snd.snd.snd x.fst
 (hexW
 (cutZ l x.snd.snd.fst
 (x.snd.snd.fst +
 ↑(hexLen
 (List.drop
 x.snd.snd.fst.toNat
 l))))) =
 pad acc ∧
 (-1 : Int) ≤ x.snd.fst ∧
 x.snd.fst ≤ x.fst + (1 : Int) ∧
 (0 : Int) ≤
 x.snd.snd.fst +
 ↑(hexLen
 (List.drop
 x.snd.snd.fst.toNat
 l)) +
 (1 : Int) ∧
 x.snd.snd.fst +
 ↑(hexLen
 (List.drop
 x.snd.snd.fst.toNat
 l)) +
 (1 : Int) ≤
 ↑(List.length l) ∧
 six1
 l ((9 : Nat) - acc.length) acc
 x.snd.fst
 (x.snd.snd.fst +
 ↑(hexLen
 (List.drop
 x.snd.snd.fst.toNat
 l)) +
 (1 : Int)).toNat =
 six
 l) ∧
 ((9 : Int) - (x.fst + (1 : Int))).toNat <
 ((9 : Int) - x.fst).toNat) ∧
 ((!decide
 (byteZ l
 (x.snd.snd.fst +
 ↑(hexLen
 (List.drop x.snd.snd.fst.toNat l)) +
 (1 : Int)) =
 (58 : Int))) =
 false →
 (decide ((0 : Int) ≤ x.snd.fst) = true →
 k
 (PV.tup
 [PV.arr (8 : Nat)
 (BRow.ints Go.IntKind.u16
 (List.replicate (8 : Nat) (0 : Int))),
 PV.bool false])) ∧
 (decide ((0 : Int) ≤ x.snd.fst) = false →
 inI64
 (x.snd.snd.fst +
 ↑(hexLen
 (List.drop x.snd.snd.fst.toNat l)) +
 (1 : Int) +
 (1 : Int)) ∧
 (decide
 (x.snd.snd.fst +
 ↑(hexLen
 (List.drop
 x.snd.snd.fst.toNat l)) +
 (1 : Int) +
 (1 : Int) <
 lenZ l) =
 true →
 VS.mk []
 [((0 : Nat), PV.str l),
 ((2 : Nat),
 PV.ptr (34 : Nat)
 (0 : Nat)),
 ((3 : Nat), PV.bool false),
 ((4 : Nat),
 PV.ptr (36 : Nat)
 (0 : Nat)),
 ((5 : Nat),
 PV.int Go.IntKind.u32
 (0 : Int)),
 ((6 : Nat), PV.bool false),
 ((7 : Nat),
 PV.int Go.IntKind.i64
 (x.fst + (1 : Int))),
 ((8 : Nat),
 PV.int Go.IntKind.i64
 (x.fst + (1 : Int))),
 ((9 : Nat),
 PV.int Go.IntKind.i64
 (x.snd.snd.fst +
 ↑(hexLen
 (List.drop
 x.snd.snd.fst.toNat
 l)) +
 (1 : Int) +
 (1 : Int))),
 ((10 : Nat), PV.undef),
 ((13 : Nat), PV.undef),
 ((17 : Nat), PV.undef),
 ((30 : Nat), PV.undef),
 ((43 : Nat), PV.undef),
 ((56 : Nat), PV.undef),
 ((67 : Nat), PV.undef),
 ((73 : Nat), PV.undef),
 ((75 : Nat), PV.undef),
 ((82 : Nat), PV.undef),
 ((95 : Nat), PV.undef),
 ((113 : Nat), PV.undef),
 ((120 : Nat), PV.undef)]
 [((36 : Nat),
 PV.arr (8 : Nat)
 (BRow.ints Go.IntKind.u16
 (setZ x.snd.snd.snd
 x.fst
 (hexW
 (cutZ l
 x.snd.snd.fst
 (x.snd.snd.fst +
 ↑(hexLen
 (List.drop
 x.snd.snd.fst.toNat
 l)))))))),
 ((34 : Nat),
 PV.arr (8 : Nat)
 (BRow.ints Go.IntKind.u16
 (List.replicate (8 : Nat)
 (0 : Int))))] =
 VS.mk []
 [((0 : Nat), PV.str l),
 ((2 : Nat),
 PV.ptr (34 : Nat)
 (0 : Nat)),
 ((3 : Nat), PV.bool false),
 ((4 : Nat),
 PV.ptr (36 : Nat)
 (0 : Nat)),
 ((5 : Nat),
 PV.int Go.IntKind.u32
 (0 : Int)),
 ((6 : Nat), PV.bool false),
 ((7 : Nat),
 PV.int Go.IntKind.i64
 (x.fst + (1 : Int))),
 ((8 : Nat),
 PV.int Go.IntKind.i64
 (x.fst + (1 : Int))),
 ((9 : Nat),
 PV.int Go.IntKind.i64
 (x.snd.snd.fst +
 ↑(hexLen
 (List.drop
 x.snd.snd.fst.toNat
 l)) +
 (1 : Int) +
 (1 : Int))),
 ((10 : Nat), PV.undef),
 ((13 : Nat), PV.undef),
 ((17 : Nat), PV.undef),
 ((30 : Nat), PV.undef),
 ((43 : Nat), PV.undef),
 ((56 : Nat), PV.undef),
 ((67 : Nat), PV.undef),
 ((73 : Nat), PV.undef),
 ((75 : Nat), PV.undef),
 ((82 : Nat), PV.undef),
 ((95 : Nat), PV.undef),
 ((113 : Nat), PV.undef),
 ((120 : Nat), PV.undef)]
 [((36 : Nat),
 PV.arr (8 : Nat)
 (BRow.ints Go.IntKind.u16
 (setZ x.snd.snd.snd
 x.fst
 (hexW
 (cutZ l
 x.snd.snd.fst
 (x.snd.snd.fst +
 ↑(hexLen
 (List.drop
 x.snd.snd.fst.toNat
 l)))))))),
 ((34 : Nat),
 PV.arr (8 : Nat)
 (BRow.ints Go.IntKind.u16
 (List.replicate (8 : Nat)
 (0 : Int))))] ∧
 (∃ (acc : List Int),
 x.fst + (1 : Int) = ↑acc.length ∧
 acc.length ≤ (8 : Nat) ∧
 setZ x.snd.snd.snd x.fst
 (hexW
 (cutZ l
 x.snd.snd.fst
 (x.snd.snd.fst +
 ↑(hexLen
 (List.drop
 x.snd.snd.fst.toNat
 l))))) =
 pad
 acc ∧
 (-1 : Int) ≤ x.fst + (1 : Int) ∧
 x.fst + (1 : Int) ≤
 x.fst + (1 : Int) ∧
 (0 : Int) ≤
 x.snd.snd.fst +
 ↑(hexLen
 (List.drop
 x.snd.snd.fst.toNat
 l)) +
 (1 : Int) +
 (1 : Int) ∧
 x.snd.snd.fst +
 ↑(hexLen
 (List.drop
 x.snd.snd.fst.toNat
 l)) +
 (1 : Int) +
 (1 : Int) ≤
 ↑(List.length l) ∧
 six1
 l
 ((9 : Nat) -
 acc.length)
 acc
 (x.fst + (1 : Int))
 (x.snd.snd.fst +
 ↑(hexLen
 (List.drop
 x.snd.snd.fst.toNat
 l)) +
 (1 : Int) +
 (1 :
 Int)).toNat =
 six
 l) ∧
 ((9 : Int) -
 (x.fst + (1 : Int))).toNat <
 ((9 : Int) - x.fst).toNat) ∧
 (decide
 (x.snd.snd.fst +
 ↑(hexLen
 (List.drop
 x.snd.snd.fst.toNat l)) +
 (1 : Int) +
 (1 : Int) <
 lenZ l) =
 false →
 ((bif
 decide
 (x.fst + (1 : Int) <
 (0 : Int)) then
 decide
 (x.fst + (1 : Int) = (8 : Int))
 else false) =
 true →
 k
 (PV.tup
 [PV.arr (8 : Nat)
 (BRow.ints Go.IntKind.u16
 (setZ x.snd.snd.snd
 x.fst
 (hexW
 (cutZ l
 x.snd.snd.fst
 (x.snd.snd.fst +
 ↑(hexLen
 (List.drop
 x.snd.snd.fst.toNat
 l))))))),
 PV.bool true])) ∧
 ((bif
 decide
 (x.fst + (1 : Int) <
 (0 : Int)) then
 decide
 (x.fst + (1 : Int) = (8 : Int))
 else false) =
 false →
 ((bif
 decide
 ((0 : Int) ≤
 x.fst + (1 : Int)) then
 decide
 (x.fst + (1 : Int) <
 (8 : Int))
 else false) =
 true →
 ((setZ x.snd.snd.snd x.fst
 (hexW
 (cutZ l
 x.snd.snd.fst
 (x.snd.snd.fst +
 ↑(hexLen
 (List.drop
 x.snd.snd.fst.toNat
 l)))))).length =
 (8 : Nat) ∧
 (0 : Int) ≤ x.fst + (1 : Int) ∧
 x.fst + (1 : Int) ≤
 x.fst + (1 : Int) ∧
 x.fst + (1 : Int) ≤
 (7 : Int)) ∧
 k
 (PV.tup
 [PV.arr (8 : Nat)
 (BRow.ints
 Go.IntKind.u16
 (spreadM
 (setZ
 x.snd.snd.snd x.fst
 (hexW
 (cutZ l
 x.snd.snd.fst
 (x.snd.snd.fst +
 ↑(hexLen
 (List.drop
 x.snd.snd.fst.toNat
 l))))))
 (x.fst +
 (1 : Int)).toNat
 (x.fst +
 (1 :
 Int)).toNat)),
 PV.bool true])) ∧
 ((bif
 decide
 ((0 : Int) ≤
 x.fst + (1 : Int)) then
 decide
 (x.fst + (1 : Int) <
 (8 : Int))
 else false) =
 false →
 k
 (PV.tup
 [PV.arr (8 : Nat)
 (BRow.ints
 Go.IntKind.u16
 (List.replicate (8 : Nat)
 (0 : Int))),
 PV.bool
 false]))))))))))) ∧
 ((!decide
 (byteZ l
 ((2 : Int) + ↑(hexLen (List.drop (Int.toNat (2 : Int)) l)) +
 (1 : Int)) =
 (58 : Int))) =
 false →
 (decide ((0 : Int) ≤ (0 : Int)) = true →
 k
 (PV.tup
 [PV.arr (8 : Nat) (BRow.ints Go.IntKind.u16 (List.replicate (8 : Nat) (0 : Int))),
 PV.bool false])) ∧
 (decide ((0 : Int) ≤ (0 : Int)) = false →
 inI64
 ((2 : Int) + ↑(hexLen (List.drop (Int.toNat (2 : Int)) l)) +
 (1 : Int) +
 (1 : Int)) ∧
 (decide
 ((2 : Int) + ↑(hexLen (List.drop (Int.toNat (2 : Int)) l)) +
 (1 : Int) +
 (1 : Int) <
 lenZ l) =
 true →
 VS.mk []
 [(nat_lit 0, PV.str l),
 (nat_lit 2, PV.ptr ((2 : Nat) + (32 : Nat)) (0 : Nat)),
 (nat_lit 3, PV.bool false),
 (nat_lit 4, PV.ptr ((4 : Nat) + (32 : Nat)) (0 : Nat)),
 (nat_lit 5, PV.int Go.IntKind.u32 (0 : Int)), (nat_lit 6, PV.bool false),
 (nat_lit 7, PV.int Go.IntKind.i64 ((0 : Int) + (1 : Int))),
 (nat_lit 8, PV.int Go.IntKind.i64 ((0 : Int) + (1 : Int))),
 (nat_lit 9,
 PV.int Go.IntKind.i64
 ((2 : Int) +
 ↑(hexLen (List.drop (Int.toNat (2 : Int)) l)) +
 (1 : Int) +
 (1 : Int))),
 ((10 : Nat), PV.undef), ((13 : Nat), PV.undef),
 ((17 : Nat), PV.undef), ((30 : Nat), PV.undef),
 ((43 : Nat), PV.undef), ((56 : Nat), PV.undef),
 ((67 : Nat), PV.undef), ((73 : Nat), PV.undef),
 ((75 : Nat), PV.undef), ((82 : Nat), PV.undef),
 (nat_lit 95, PV.undef), (nat_lit 113, PV.undef),
 (nat_lit 120, PV.undef)]
 [((4 : Nat) + (32 : Nat),
 PV.arr (8 : Nat)
 (BRow.ints Go.IntKind.u16
 (setZ (List.replicate (8 : Nat) (0 : Int)) (0 : Int)
 (hexW
 (cutZ l (2 : Int)
 ((2 : Int) +
 ↑(hexLen
 (List.drop (Int.toNat (2 : Int)) l)))))))),
 ((2 : Nat) + (32 : Nat),
 PV.arr (8 : Nat)
 (BRow.ints Go.IntKind.u16 (List.replicate (8 : Nat) (0 : Int))))] =
 VS.mk []
 [((0 : Nat), PV.str l), ((2 : Nat), PV.ptr (34 : Nat) (0 : Nat)),
 ((3 : Nat), PV.bool false), ((4 : Nat), PV.ptr (36 : Nat) (0 : Nat)),
 ((5 : Nat), PV.int Go.IntKind.u32 (0 : Int)), ((6 : Nat), PV.bool false),
 ((7 : Nat), PV.int Go.IntKind.i64 ((0 : Int) + (1 : Int))),
 ((8 : Nat), PV.int Go.IntKind.i64 ((0 : Int) + (1 : Int))),
 ((9 : Nat),
 PV.int Go.IntKind.i64
 ((2 : Int) +
 ↑(hexLen (List.drop (Int.toNat (2 : Int)) l)) +
 (1 : Int) +
 (1 : Int))),
 ((10 : Nat), PV.undef), ((13 : Nat), PV.undef),
 ((17 : Nat), PV.undef), ((30 : Nat), PV.undef),
 ((43 : Nat), PV.undef), ((56 : Nat), PV.undef),
 ((67 : Nat), PV.undef), ((73 : Nat), PV.undef),
 ((75 : Nat), PV.undef), ((82 : Nat), PV.undef),
 ((95 : Nat), PV.undef), ((113 : Nat), PV.undef),
 ((120 : Nat), PV.undef)]
 [((36 : Nat),
 PV.arr (8 : Nat)
 (BRow.ints Go.IntKind.u16
 (setZ (List.replicate (8 : Nat) (0 : Int)) (0 : Int)
 (hexW
 (cutZ l (2 : Int)
 ((2 : Int) +
 ↑(hexLen
 (List.drop (Int.toNat (2 : Int)) l)))))))),
 ((34 : Nat),
 PV.arr (8 : Nat)
 (BRow.ints Go.IntKind.u16 (List.replicate (8 : Nat) (0 : Int))))] ∧
 (∃ (acc : List Int),
 (0 : Int) + (1 : Int) = ↑acc.length ∧
 acc.length ≤ (8 : Nat) ∧
 setZ (List.replicate (8 : Nat) (0 : Int)) (0 : Int)
 (hexW
 (cutZ l (2 : Int)
 ((2 : Int) +
 ↑(hexLen
 (List.drop (Int.toNat (2 : Int)) l))))) =
 pad acc ∧
 (-1 : Int) ≤ (0 : Int) + (1 : Int) ∧
 (0 : Int) + (1 : Int) ≤ (0 : Int) + (1 : Int) ∧
 (0 : Int) ≤
 (2 : Int) +
 ↑(hexLen
 (List.drop (Int.toNat (2 : Int)) l)) +
 (1 : Int) +
 (1 : Int) ∧
 (2 : Int) +
 ↑(hexLen
 (List.drop (Int.toNat (2 : Int)) l)) +
 (1 : Int) +
 (1 : Int) ≤
 ↑(List.length l) ∧
 six1 l ((9 : Nat) - acc.length) acc
 ((0 : Int) + (1 : Int))
 ((2 : Int) +
 ↑(hexLen
 (List.drop (Int.toNat (2 : Int)) l)) +
 (1 : Int) +
 (1 : Int)).toNat =
 six l) ∧
 ∀ (x : Int × Int × Int × List Int),
 (∃ (acc : List Int),
 x.fst = ↑acc.length ∧
 acc.length ≤ (8 : Nat) ∧
 x.snd.snd.snd = pad acc ∧
 (-1 : Int) ≤ x.snd.fst ∧
 x.snd.fst ≤ x.fst ∧
 (0 : Int) ≤ x.snd.snd.fst ∧
 x.snd.snd.fst ≤ ↑(List.length l) ∧
 six1 l ((9 : Nat) - acc.length) acc
 x.snd.fst x.snd.snd.fst.toNat =
 six l) →
 ((0 : Int) ≤ x.snd.snd.fst ∧
 x.snd.snd.fst ≤ ↑(List.length l) ∧ List.length l ≤ (1000000 : Nat)) ∧
 (decide
 (x.snd.snd.fst +
 ↑(hexLen
 (List.drop x.snd.snd.fst.toNat l)) <
 lenZ l) =
 true →
 within
 (x.snd.snd.fst +
 ↑(hexLen (List.drop x.snd.snd.fst.toNat l)))
 (lenZ l)) ∧
 ((bif
 decide
 (x.snd.snd.fst +
 ↑(hexLen
 (List.drop x.snd.snd.fst.toNat l)) <
 lenZ l) then
 decide
 (byteZ l
 (x.snd.snd.fst +
 ↑(hexLen
 (List.drop x.snd.snd.fst.toNat l))) =
 (46 : Int))
 else false) =
 true →
 upto x.snd.snd.fst (lenZ l) (lenZ l) ∧
 (dropZ l x.snd.snd.fst).length.le (1000000 : Nat) ∧
 ((bif
 !dotO
 (dropZ l x.snd.snd.fst) then
 true
 else decide ((6 : Int) < x.fst)) =
 true →
 k
 (PV.tup
 [PV.arr (8 : Nat)
 (BRow.ints Go.IntKind.u16
 (List.replicate (8 : Nat) (0 : Int))),
 PV.bool false])) ∧
 ((bif
 !dotO
 (dropZ l x.snd.snd.fst) then
 true
 else decide ((6 : Int) < x.fst)) =
 false →
 inI64 (x.fst + (1 : Int)) ∧
 (0 : Int) ≤ (16 : Int) ∧
 within x.fst ↑(8 : Nat) ∧
 (within x.fst ↑(8 : Nat) ∧ True) ∧
 within (x.fst + (1 : Int)) ↑(8 : Nat) ∧
 (within (x.fst + (1 : Int)) ↑(8 : Nat) ∧ True) ∧
 inI64 (x.fst + (2 : Int)) ∧
 ((bif decide (x.snd.fst < (0 : Int)) then
 decide (x.fst + (2 : Int) = (8 : Int))
 else false) =
 true →
 k
 (PV.tup
 [PV.arr (8 : Nat)
 (BRow.ints Go.IntKind.u16
 (setZ
 (setZ x.snd.snd.snd x.fst
 (Go.IntKind.u16.wrap
 (shrZ Go.IntKind.u32
 (dotV
 (dropZ l x.snd.snd.fst))
 (16 : Int))))
 (x.fst + (1 : Int))
 (Go.IntKind.u16.wrap
 (dotV
 (dropZ l x.snd.snd.fst))))),
 PV.bool true])) ∧
 ((bif decide (x.snd.fst < (0 : Int)) then
 decide (x.fst + (2 : Int) = (8 : Int))
 else false) =
 false →
 ((bif decide ((0 : Int) ≤ x.snd.fst) then
 decide (x.fst + (2 : Int) < (8 : Int))
 else false) =
 true →
 ((setZ
 (setZ x.snd.snd.snd x.fst
 (Go.IntKind.u16.wrap
 (shrZ Go.IntKind.u32
 (dotV
 (dropZ l x.snd.snd.fst))
 (16 : Int))))
 (x.fst + (1 : Int))
 (Go.IntKind.u16.wrap
 (dotV
 (dropZ l
 x.snd.snd.fst)))).length =
 (8 : Nat) ∧
 (0 : Int) ≤ x.snd.fst ∧
 x.snd.fst ≤ x.fst + (2 : Int) ∧
 x.fst + (2 : Int) ≤ (7 : Int)) ∧
 k
 (PV.tup
 [PV.arr (8 : Nat)
 (BRow.ints Go.IntKind.u16
 (spreadM
 (setZ
 (setZ x.snd.snd.snd x.fst
 (Go.IntKind.u16.wrap
 (shrZ Go.IntKind.u32
 (dotV
 (dropZ l
 x.snd.snd.fst))
 (16 : Int))))
 (x.fst + (1 : Int))
 (Go.IntKind.u16.wrap
 (dotV
 (dropZ l
 x.snd.snd.fst))))
 (x.fst + (2 : Int)).toNat
 x.snd.fst.toNat)),
 PV.bool true])) ∧
 ((bif decide ((0 : Int) ≤ x.snd.fst) then
 decide (x.fst + (2 : Int) < (8 : Int))
 else false) =
 false →
 k
 (PV.tup
 [PV.arr (8 : Nat)
 (BRow.ints Go.IntKind.u16
 (List.replicate (8 : Nat) (0 : Int))),
 PV.bool false]))))) ∧
 ((bif
 decide
 (x.snd.snd.fst +
 ↑(hexLen
 (List.drop x.snd.snd.fst.toNat l)) <
 lenZ l) then
 decide
 (byteZ l
 (x.snd.snd.fst +
 ↑(hexLen
 (List.drop x.snd.snd.fst.toNat l))) =
 (46 : Int))
 else false) =
 false →
 ((bif decide (x.fst = (8 : Int)) then true
 else
 decide
 (x.snd.snd.fst +
 ↑(hexLen
 (List.drop x.snd.snd.fst.toNat l)) =
 x.snd.snd.fst)) =
 false →
 inI64 (x.snd.snd.fst + (4 : Int))) ∧
 ((bif
 bif decide (x.fst = (8 : Int)) then true
 else
 decide
 (x.snd.snd.fst +
 ↑(hexLen
 (List.drop x.snd.snd.fst.toNat l)) =
 x.snd.snd.fst) then
 true
 else
 decide
 (x.snd.snd.fst + (4 : Int) <
 x.snd.snd.fst +
 ↑(hexLen
 (List.drop x.snd.snd.fst.toNat l)))) =
 true →
 k
 (PV.tup
 [PV.arr (8 : Nat)
 (BRow.ints Go.IntKind.u16
 (List.replicate (8 : Nat) (0 : Int))),
 PV.bool false])) ∧
 ((bif
 bif decide (x.fst = (8 : Int)) then true
 else
 decide
 (x.snd.snd.fst +
 ↑(hexLen
 (List.drop x.snd.snd.fst.toNat l)) =
 x.snd.snd.fst) then
 true
 else
 decide
 (x.snd.snd.fst + (4 : Int) <
 x.snd.snd.fst +
 ↑(hexLen
 (List.drop x.snd.snd.fst.toNat l)))) =
 false →
 upto x.snd.snd.fst
 (x.snd.snd.fst +
 ↑(hexLen
 (List.drop x.snd.snd.fst.toNat l)))
 (lenZ l) ∧
 ((cutZ l x.snd.snd.fst
 (x.snd.snd.fst +
 ↑(hexLen
 (List.drop x.snd.snd.fst.toNat l)))).length ≤
 (4 : Nat) ∧
 ∀ (i : Nat),
 i <
 (cutZ l x.snd.snd.fst
 (x.snd.snd.fst +
 ↑(hexLen
 (List.drop x.snd.snd.fst.toNat l)))).length →
 (0 : Int) ≤
 hexN
 (byt
 (cutZ l x.snd.snd.fst
 (x.snd.snd.fst +
 ↑(hexLen
 (List.drop x.snd.snd.fst.toNat l))))
 i)) ∧
 within x.fst ↑(8 : Nat) ∧
 (within x.fst ↑(8 : Nat) ∧ True) ∧
 inI64 (x.fst + (1 : Int)) ∧
 (decide
 (x.snd.snd.fst +
 ↑(hexLen
 (List.drop x.snd.snd.fst.toNat l)) =
 lenZ l) =
 true →
 ((bif decide (x.snd.fst < (0 : Int)) then
 decide (x.fst + (1 : Int) = (8 : Int))
 else false) =
 true →
 k
 (PV.tup
 [PV.arr (8 : Nat)
 (BRow.ints Go.IntKind.u16
 (setZ x.snd.snd.snd x.fst
 (hexW
 (cutZ l x.snd.snd.fst
 (x.snd.snd.fst +
 ↑(hexLen
 (List.drop x.snd.snd.fst.toNat
 l))))))),
 PV.bool true])) ∧
 ((bif decide (x.snd.fst < (0 : Int)) then
 decide (x.fst + (1 : Int) = (8 : Int))
 else false) =
 false →
 ((bif decide ((0 : Int) ≤ x.snd.fst) then
 decide (x.fst + (1 : Int) < (8 : Int))
 else false) =
 true →
 ((setZ x.snd.snd.snd x.fst
 (hexW
 (cutZ l x.snd.snd.fst
 (x.snd.snd.fst +
 ↑(hexLen
 (List.drop x.snd.snd.fst.toNat
 l)))))).length =
 (8 : Nat) ∧
 (0 : Int) ≤ x.snd.fst ∧
 x.snd.fst ≤ x.fst + (1 : Int) ∧
 x.fst + (1 : Int) ≤ (7 : Int)) ∧
 k
 (PV.tup
 [PV.arr (8 : Nat)
 (BRow.ints Go.IntKind.u16
 (spreadM
 (setZ x.snd.snd.snd x.fst
 (hexW
 (cutZ l x.snd.snd.fst
 (x.snd.snd.fst +
 ↑(hexLen
 (List.drop
 x.snd.snd.fst.toNat
 l))))))
 (x.fst + (1 : Int)).toNat
 x.snd.fst.toNat)),
 PV.bool true])) ∧
 ((bif decide ((0 : Int) ≤ x.snd.fst) then
 decide (x.fst + (1 : Int) < (8 : Int))
 else false) =
 false →
 k
 (PV.tup
 [PV.arr (8 : Nat)
 (BRow.ints Go.IntKind.u16
 (List.replicate (8 : Nat) (0 : Int))),
 PV.bool false])))) ∧
 (decide
 (x.snd.snd.fst +
 ↑(hexLen
 (List.drop x.snd.snd.fst.toNat l)) =
 lenZ l) =
 false →
 within
 (x.snd.snd.fst +
 ↑(hexLen
 (List.drop x.snd.snd.fst.toNat l)))
 (lenZ l) ∧
 ((!decide
 (byteZ l
 (x.snd.snd.fst +
 ↑(hexLen
 (List.drop x.snd.snd.fst.toNat l))) =
 (58 : Int))) =
 false →
 inI64
 (x.snd.snd.fst +
 ↑(hexLen
 (List.drop x.snd.snd.fst.toNat l)) +
 (1 : Int))) ∧
 ((bif
 !decide
 (byteZ l
 (x.snd.snd.fst +
 ↑(hexLen
 (List.drop x.snd.snd.fst.toNat
 l))) =
 (58 : Int)) then
 true
 else
 decide
 (x.snd.snd.fst +
 ↑(hexLen
 (List.drop x.snd.snd.fst.toNat l)) +
 (1 : Int) =
 lenZ l)) =
 true →
 k
 (PV.tup
 [PV.arr (8 : Nat)
 (BRow.ints Go.IntKind.u16
 (List.replicate (8 : Nat) (0 : Int))),
 PV.bool false])) ∧
 ((bif
 !decide
 (byteZ l
 (x.snd.snd.fst +
 ↑(hexLen
 (List.drop x.snd.snd.fst.toNat
 l))) =
 (58 : Int)) then
 true
 else
 decide
 (x.snd.snd.fst +
 ↑(hexLen
 (List.drop x.snd.snd.fst.toNat l)) +
 (1 : Int) =
 lenZ l)) =
 false →
 inI64
 (x.snd.snd.fst +
 ↑(hexLen
 (List.drop x.snd.snd.fst.toNat l)) +
 (1 : Int)) ∧
 within
 (x.snd.snd.fst +
 ↑(hexLen
 (List.drop x.snd.snd.fst.toNat l)) +
 (1 : Int))
 (lenZ l) ∧
 ((!decide
 (byteZ l
 (x.snd.snd.fst +
 ↑(hexLen
 (List.drop
 x.snd.snd.fst.toNat
 l)) +
 (1 : Int)) =
 (58 : Int))) =
 true →
 VS.mk []
 [((0 : Nat), PV.str l),
 ((2 : Nat),
 PV.ptr (34 : Nat)
 (0 : Nat)),
 ((3 : Nat), PV.bool false),
 ((4 : Nat),
 PV.ptr (36 : Nat)
 (0 : Nat)),
 ((5 : Nat),
 PV.int Go.IntKind.u32
 (0 : Int)),
 ((6 : Nat), PV.bool false),
 ((7 : Nat),
 PV.int Go.IntKind.i64
 (x.fst + (1 : Int))),
 ((8 : Nat),
 PV.int Go.IntKind.i64
 x.snd.fst),
 ((9 : Nat),
 PV.int Go.IntKind.i64
 (x.snd.snd.fst +
 ↑(hexLen
 (List.drop
 x.snd.snd.fst.toNat
 l)) +
 (1 : Int))),
 ((10 : Nat), PV.undef),
 ((13 : Nat), PV.undef),
 ((17 : Nat), PV.undef),
 ((30 : Nat), PV.undef),
 ((43 : Nat), PV.undef),
 ((56 : Nat), PV.undef),
 ((67 : Nat), PV.undef),
 ((73 : Nat), PV.undef),
 ((75 : Nat), PV.undef),
 ((82 : Nat), PV.undef),
 ((95 : Nat), PV.undef),
 ((113 : Nat), PV.undef),
 ((120 : Nat), PV.undef)]
 [((36 : Nat),
 PV.arr (8 : Nat)
 (BRow.ints Go.IntKind.u16
 (setZ x.snd.snd.snd
 x.fst
 (hexW
 (cutZ l
 x.snd.snd.fst
 (x.snd.snd.fst +
 ↑(hexLen
 (List.drop
 x.snd.snd.fst.toNat
 l)))))))),
 ((34 : Nat),
 PV.arr (8 : Nat)
 (BRow.ints Go.IntKind.u16
 (List.replicate (8 : Nat)
 (0 : Int))))] =
 VS.mk []
 [((0 : Nat), PV.str l),
 ((2 : Nat),
 PV.ptr (34 : Nat)
 (0 : Nat)),
 ((3 : Nat), PV.bool false),
 ((4 : Nat),
 PV.ptr (36 : Nat)
 (0 : Nat)),
 ((5 : Nat),
 PV.int Go.IntKind.u32
 (0 : Int)),
 ((6 : Nat), PV.bool false),
 ((7 : Nat),
 PV.int Go.IntKind.i64
 (x.fst + (1 : Int))),
 ((8 : Nat),
 PV.int Go.IntKind.i64
 x.snd.fst),
 ((9 : Nat),
 PV.int Go.IntKind.i64
 (x.snd.snd.fst +
 ↑(hexLen
 (List.drop
 x.snd.snd.fst.toNat
 l)) +
 (1 : Int))),
 ((10 : Nat), PV.undef),
 ((13 : Nat), PV.undef),
 ((17 : Nat), PV.undef),
 ((30 : Nat), PV.undef),
 ((43 : Nat), PV.undef),
 ((56 : Nat), PV.undef),
 ((67 : Nat), PV.undef),
 ((73 : Nat), PV.undef),
 ((75 : Nat), PV.undef),
 ((82 : Nat), PV.undef),
 ((95 : Nat), PV.undef),
 ((113 : Nat), PV.undef),
 ((120 : Nat), PV.undef)]
 [((36 : Nat),
 PV.arr (8 : Nat)
 (BRow.ints Go.IntKind.u16
 (setZ x.snd.snd.snd
 x.fst
 (hexW
 (cutZ l
 x.snd.snd.fst
 (x.snd.snd.fst +
 ↑(hexLen
 (List.drop
 x.snd.snd.fst.toNat
 l)))))))),
 ((34 : Nat),
 PV.arr (8 : Nat)
 (BRow.ints Go.IntKind.u16
 (List.replicate (8 : Nat)
 (0 : Int))))] ∧
 (∃ (acc : List Int),
 x.fst + (1 : Int) = ↑acc.length ∧
 acc.length ≤ (8 : Nat) ∧
 setZ x.snd.snd.snd x.fst
 (hexW
 (cutZ l
 x.snd.snd.fst
 (x.snd.snd.fst +
 ↑(hexLen
 (List.drop
 x.snd.snd.fst.toNat
 l))))) =
 pad
 acc ∧
 (-1 : Int) ≤ x.snd.fst ∧
 x.snd.fst ≤
 x.fst + (1 : Int) ∧
 (0 : Int) ≤
 x.snd.snd.fst +
 ↑(hexLen
 (List.drop
 x.snd.snd.fst.toNat
 l)) +
 (1 : Int) ∧
 x.snd.snd.fst +
 ↑(hexLen
 (List.drop
 x.snd.snd.fst.toNat
 l)) +
 (1 : Int) ≤
 ↑(List.length l) ∧
 six1
 l
 ((9 : Nat) -
 acc.length)
 acc x.snd.fst
 (x.snd.snd.fst +
 ↑(hexLen
 (List.drop
 x.snd.snd.fst.toNat
 l)) +
 (1 :
 Int)).toNat =
 six
 l) ∧
 ((9 : Int) -
 (x.fst + (1 : Int))).toNat <
 ((9 : Int) - x.fst).toNat) ∧
 ((!decide
 (byteZ l
 (x.snd.snd.fst +
 ↑(hexLen
 (List.drop
 x.snd.snd.fst.toNat
 l)) +
 (1 : Int)) =
 (58 : Int))) =
 false →
 (decide ((0 : Int) ≤ x.snd.fst) = true →
 k
 (PV.tup
 [PV.arr (8 : Nat)
 (BRow.ints Go.IntKind.u16
 (List.replicate (8 : Nat)
 (0 : Int))),
 PV.bool false])) ∧
 (decide ((0 : Int) ≤ x.snd.fst) = false →
 inI64
 (x.snd.snd.fst +
 ↑(hexLen
 (List.drop
 x.snd.snd.fst.toNat
 l)) +
 (1 : Int) +
 (1 : Int)) ∧
 (decide
 (x.snd.snd.fst +
 ↑(hexLen
 (List.drop
 x.snd.snd.fst.toNat
 l)) +
 (1 : Int) +
 (1 : Int) <
 lenZ l) =
 true →
 VS.mk []
 [((0 : Nat),
 PV.str l),
 ((2 : Nat),
 PV.ptr (34 : Nat)
 (0 : Nat)),
 ((3 : Nat),
 PV.bool false),
 ((4 : Nat),
 PV.ptr (36 : Nat)
 (0 : Nat)),
 ((5 : Nat),
 PV.int
 Go.IntKind.u32
 (0 : Int)),
 ((6 : Nat),
 PV.bool false),
 ((7 : Nat),
 PV.int
 Go.IntKind.i64
 (x.fst + (1 : Int))),
 ((8 : Nat),
 PV.int
 Go.IntKind.i64
 (x.fst + (1 : Int))),
 ((9 : Nat),
 PV.int
 Go.IntKind.i64
 (x.snd.snd.fst +
 ↑(hexLen
 (List.drop
 x.snd.snd.fst.toNat
 l)) +
 (1 : Int) +
 (1 : Int))),
 ((10 : Nat),
 PV.undef),
 ((13 : Nat),
 PV.undef),
 ((17 : Nat),
 PV.undef),
 ((30 : Nat),
 PV.undef),
 ((43 : Nat),
 PV.undef),
 ((56 : Nat),
 PV.undef),
 ((67 : Nat),
 PV.undef),
 ((73 : Nat),
 PV.undef),
 ((75 : Nat),
 PV.undef),
 ((82 : Nat),
 PV.undef),
 ((95 : Nat),
 PV.undef),
 ((113 : Nat),
 PV.undef),
 ((120 : Nat),
 PV.undef)]
 [((36 : Nat),
 PV.arr (8 : Nat)
 (BRow.ints
 Go.IntKind.u16
 (setZ
 x.snd.snd.snd
 x.fst
 (hexW
 (cutZ l
 x.snd.snd.fst
 (x.snd.snd.fst +
 ↑(hexLen
 (List.drop
 x.snd.snd.fst.toNat
 l)))))))),
 ((34 : Nat),
 PV.arr (8 : Nat)
 (BRow.ints
 Go.IntKind.u16
 (List.replicate
 (8 : Nat)
 (0 : Int))))] =
 VS.mk []
 [((0 : Nat),
 PV.str l),
 ((2 : Nat),
 PV.ptr (34 : Nat)
 (0 : Nat)),
 ((3 : Nat),
 PV.bool false),
 ((4 : Nat),
 PV.ptr (36 : Nat)
 (0 : Nat)),
 ((5 : Nat),
 PV.int
 Go.IntKind.u32
 (0 : Int)),
 ((6 : Nat),
 PV.bool false),
 ((7 : Nat),
 PV.int
 Go.IntKind.i64
 (x.fst + (1 : Int))),
 ((8 : Nat),
 PV.int
 Go.IntKind.i64
 (x.fst + (1 : Int))),
 ((9 : Nat),
 PV.int
 Go.IntKind.i64
 (x.snd.snd.fst +
 ↑(hexLen
 (List.drop
 x.snd.snd.fst.toNat
 l)) +
 (1 : Int) +
 (1 : Int))),
 ((10 : Nat),
 PV.undef),
 ((13 : Nat),
 PV.undef),
 ((17 : Nat),
 PV.undef),
 ((30 : Nat),
 PV.undef),
 ((43 : Nat),
 PV.undef),
 ((56 : Nat),
 PV.undef),
 ((67 : Nat),
 PV.undef),
 ((73 : Nat),
 PV.undef),
 ((75 : Nat),
 PV.undef),
 ((82 : Nat),
 PV.undef),
 ((95 : Nat),
 PV.undef),
 ((113 : Nat),
 PV.undef),
 ((120 : Nat),
 PV.undef)]
 [((36 : Nat),
 PV.arr (8 : Nat)
 (BRow.ints
 Go.IntKind.u16
 (setZ
 x.snd.snd.snd
 x.fst
 (hexW
 (cutZ l
 x.snd.snd.fst
 (x.snd.snd.fst +
 ↑(hexLen
 (List.drop
 x.snd.snd.fst.toNat
 l)))))))),
 ((34 : Nat),
 PV.arr (8 : Nat)
 (BRow.ints
 Go.IntKind.u16
 (List.replicate
 (8 : Nat)
 (0 : Int))))] ∧
 (∃ (acc : List Int),
 x.fst + (1 : Int) =
 ↑acc.length ∧
 acc.length ≤ (8 : Nat) ∧
 setZ x.snd.snd.snd
 x.fst
 (hexW
 (cutZ l
 x.snd.snd.fst
 (x.snd.snd.fst +
 ↑(hexLen
 (List.drop
 x.snd.snd.fst.toNat
 l))))) =
 pad
 acc ∧
 (-1 : Int) ≤
 x.fst +
 (1 : Int) ∧
 x.fst + (1 : Int) ≤
 x.fst +
 (1 : Int) ∧
 (0 : Int) ≤
 x.snd.snd.fst +
 ↑(hexLen
 (List.drop
 x.snd.snd.fst.toNat
 l)) +
 (1 :
 Int) +
 (1 : Int) ∧
 x.snd.snd.fst +
 ↑(hexLen
 (List.drop
 x.snd.snd.fst.toNat
 l)) +
 (1 :
 Int) +
 (1 :
 Int) ≤
 ↑(List.length
 l) ∧
 six1
 l
 ((9 :
 Nat) -
 acc.length)
 acc
 (x.fst +
 (1 :
 Int))
 (x.snd.snd.fst +
 ↑(hexLen
 (List.drop
 x.snd.snd.fst.toNat
 l)) +
 (1 :
 Int) +
 (1 :
 Int)).toNat =
 six
 l) ∧
 ((9 : Int) -
 (x.fst +
 (1 : Int))).toNat <
 ((9 : Int) - x.fst).toNat) ∧
 (decide
 (x.snd.snd.fst +
 ↑(hexLen
 (List.drop
 x.snd.snd.fst.toNat
 l)) +
 (1 : Int) +
 (1 : Int) <
 lenZ l) =
 false →
 ((bif
 decide
 (x.fst + (1 : Int) <
 (0 : Int)) then
 decide
 (x.fst + (1 : Int) =
 (8 : Int))
 else false) =
 true →
 k
 (PV.tup
 [PV.arr (8 : Nat)
 (BRow.ints
 Go.IntKind.u16
 (setZ
 x.snd.snd.snd
 x.fst
 (hexW
 (cutZ l
 x.snd.snd.fst
 (x.snd.snd.fst +
 ↑(hexLen
 (List.drop
 x.snd.snd.fst.toNat
 l))))))),
 PV.bool true])) ∧
 ((bif
 decide
 (x.fst + (1 : Int) <
 (0 : Int)) then
 decide
 (x.fst + (1 : Int) =
 (8 : Int))
 else false) =
 false →
 ((bif
 decide
 ((0 : Int) ≤
 x.fst +
 (1 :
 Int)) then
 decide
 (x.fst + (1 : Int) <
 (8 : Int))
 else false) =
 true →
 ((setZ x.snd.snd.snd
 x.fst
 (hexW
 (cutZ l
 x.snd.snd.fst
 (x.snd.snd.fst +
 ↑(hexLen
 (List.drop
 x.snd.snd.fst.toNat
 l)))))).length =
 (8 : Nat) ∧
 (0 : Int) ≤
 x.fst +
 (1 : Int) ∧
 x.fst + (1 : Int) ≤
 x.fst +
 (1 : Int) ∧
 x.fst +
 (1 : Int) ≤
 (7 : Int)) ∧
 k
 (PV.tup
 [PV.arr
 (8 : Nat)
 (BRow.ints
 Go.IntKind.u16
 (spreadM
 (setZ
 x.snd.snd.snd
 x.fst
 (hexW
 (cutZ
 l
 x.snd.snd.fst
 (x.snd.snd.fst +
 ↑(hexLen
 (List.drop
 x.snd.snd.fst.toNat
 l))))))
 (x.fst +
 (1 :
 Int)).toNat
 (x.fst +
 (1 :
 Int)).toNat)),
 PV.bool
 true])) ∧
 ((bif
 decide
 ((0 : Int) ≤
 x.fst +
 (1 :
 Int)) then
 decide
 (x.fst + (1 : Int) <
 (8 : Int))
 else false) =
 false →
 k
 (PV.tup
 [PV.arr
 (8 : Nat)
 (BRow.ints
 Go.IntKind.u16
 (List.replicate
 (8 : Nat)
 (0 : Int))),
 PV.bool
 false]))))))))))) ∧
 (decide
 ((2 : Int) + ↑(hexLen (List.drop (Int.toNat (2 : Int)) l)) +
 (1 : Int) +
 (1 : Int) <
 lenZ l) =
 false →
 (false = true →
 k
 (PV.tup
 [PV.arr (8 : Nat)
 (BRow.ints Go.IntKind.u16
 (setZ (List.replicate (8 : Nat) (0 : Int)) (0 : Int)
 (hexW
 (cutZ l (2 : Int)
 ((2 : Int) +
 ↑(hexLen
 (List.drop (Int.toNat (2 : Int)) l))))))),
 PV.bool true])) ∧
 (false = false →
 (decide ((0 : Int) + (1 : Int) < (8 : Int)) = true →
 ((setZ (List.replicate (8 : Nat) (0 : Int)) (0 : Int)
 (hexW
 (cutZ l (2 : Int)
 ((2 : Int) +
 ↑(hexLen
 (List.drop (Int.toNat (2 : Int)) l)))))).length =
 (8 : Nat) ∧
 (0 : Int) ≤ (0 : Int) + (1 : Int) ∧
 (0 : Int) + (1 : Int) ≤ (0 : Int) + (1 : Int) ∧
 (0 : Int) + (1 : Int) ≤ (7 : Int)) ∧
 k
 (PV.tup
 [PV.arr (8 : Nat)
 (BRow.ints Go.IntKind.u16
 (spreadM
 (setZ (List.replicate (8 : Nat) (0 : Int)) (0 : Int)
 (hexW
 (cutZ l (2 : Int)
 ((2 : Int) +
 ↑(hexLen
 (List.drop (Int.toNat (2 : Int)) l))))))
 ((0 : Int) + (1 : Int)).toNat ((0 : Int) + (1 : Int)).toNat)),
 PV.bool true])) ∧
 (decide ((0 : Int) + (1 : Int) < (8 : Int)) = false →
 k
 (PV.tup
 [PV.arr (8 : Nat)
 (BRow.ints Go.IntKind.u16 (List.replicate (8 : Nat) (0 : Int))),
 PV.bool false]))))))))))))) := by kernel_rfl
attribute [local irreducible] Go.Vc.evF
theorem ok_parse (l : Bs) : FuncOk Tryd.prog noT 8 [.str l] ⟨l.length ≤ 1000000, .tup [.arr 8 (.ints .u16 (six l).1), .bool (six l).2]⟩ := evF_ok (by kernel_rfl) X_parse_ok (H := H_parse l) (fuel := 1000) Tryd.func8 (by kernel_rfl) fun hpre => (vc_parse l _).mpr (by
  refine ⟨trivial, fun hp => ⟨rfl, ⟨[], rfl, by decide, rfl, by omega, by omega, by omega, by omega, ?_⟩, fun x hx => ?_⟩, fun hp => ⟨fun h2 => ?_, fun h2 => ?_⟩⟩
  · rw [notB6] at hp
    have hp2 : ¬ Lib.hasPrefix l [58, 58] = true := hp
    show six1 l 9 [] (-1) 0 = six l
    unfold six
    rw [if_neg hp2]
  · obtain ⟨c, g, a, p⟩ := x
    obtain ⟨acc, hC, h8, hp', g1, g2, a0, a1, hs⟩ := hx
    dsimp only at hC hp' g1 g2 a0 a1 hs
    subst hC hp'
    obtain ⟨i, rfl⟩ := Int.eq_ofNat_of_zero_le a0
    rw [Int.toNat_natCast] at hs
    have hE : (i : Int) + ((hexLen (l.drop ((i : Int).toNat)) : Nat) : Int) = ((i + hexLen (l.drop i) : Nat) : Int) := by rw [Int.toNat_natCast]; push_cast; rfl
    refine body6_ok (fun v => v = .tup [.arr 8 (.ints .u16 (six l).1), .bool (six l).2]) _ _ l g i (i + hexLen (l.drop i)) acc (six l) hpre h8 g1 g2 (by omega) rfl hs rfl (fun a h1 h2 h3 h4 h5 => ?_) (fun a h1 h2 h3 h4 h5 => ?_)
    · exact ⟨rfl, ⟨a, by rw [h1]; push_cast; rfl, h3, by rw [hE]; exact h2, g1, by dsimp only; omega, by dsimp only; omega, by dsimp only; rw [hE]; omega, by rw [hE, show ((i + hexLen (l.drop i) : Nat) : Int) + 1 = ((i + hexLen (l.drop i) + 1 : Nat) : Int) by push_cast; rfl, Int.toNat_natCast]; exact h5⟩, by dsimp only; omega⟩
    · exact ⟨rfl, ⟨a, by rw [h1]; push_cast; rfl, h3, by rw [hE]; exact h2, by dsimp only; omega, by dsimp only; omega, by dsimp only; omega, by dsimp only; rw [hE]; omega, by rw [hE, show ((i + hexLen (l.drop i) : Nat) : Int) + 1 + 1 = ((i + hexLen (l.drop i) + 2 : Nat) : Int) by push_cast; omega, Int.toNat_natCast]; exact h5⟩, by dsimp only; omega⟩
  · have hp2 : Lib.hasPrefix l [58, 58] = true := by
      have hp3 : (!Lib.hasPrefix l [58, 58]) = false := hp
      rw [Bool.not_eq_false'] at hp3
      exact hp3
    have h3 : l.length = 2 := by have h4 : (2 : Int) = (l.length : Int) := of_decide_eq_true h2; omega
    have h5 : six l = (spreadM (pad []) 0 0, true) := by unfold six; rw [if_pos hp2, if_pos h3]; rfl
    refine ⟨(fun h => by cases h), fun _ => ⟨fun _ => ⟨⟨rfl, by omega, by omega, by omega⟩, ?_⟩, (fun h => by cases h)⟩⟩
    show PV.tup _ = PV.tup _
    rw [h5]
    rfl
  · have hp2 : Lib.hasPrefix l [58, 58] = true := by
      have hp3 : (!Lib.hasPrefix l [58, 58]) = false := hp
      rw [Bool.not_eq_false'] at hp3
      exact hp3
    have h3 : ¬ l.length = 2 := by have h4 : ¬ (2 : Int) = (l.length : Int) := of_decide_eq_false h2; omega
    have h5 : six1 l 9 [] 0 2 = six l := by unfold six; rw [if_pos hp2, if_neg h3]
    have h6 : 2 ≤ l.length := pre_len hp2
    refine body6_ok (fun v => v = .tup [.arr 8 (.ints .u16 (six l).1), .bool (six l).2]) _ _ l 0 2 (2 + hexLen (l.drop 2)) [] (six l) hpre (by decide) (by omega) (by simp) h6 rfl h5 rfl (fun a h1 h2 h3 h4 h5 => ?_) (fun a h1 h2 h3 h4 h5 => ?_)
    · refine ⟨rfl, ⟨a, by rw [h1]; rfl, h3, h2, by omega, by omega, by omega, by show (2 : Int) + ((hexLen (l.drop 2) : Nat) : Int) + 1 ≤ _; omega, ?_⟩, fun x hx => ?_⟩
      · rw [show ((2 : Int) + ((hexLen (l.drop (Int.toNat 2)) : Nat) : Int) + 1).toNat = 2 + hexLen (l.drop 2) + 1 by show ((2 : Int) + ((hexLen (l.drop 2) : Nat) : Int) + 1).toNat = _; omega]
        exact h5
      · obtain ⟨c, g, a, p⟩ := x
        obtain ⟨acc, hC, h8, hp', g1, g2, a0, a1, hs⟩ := hx
        dsimp only at hC hp' g1 g2 a0 a1 hs
        subst hC hp'
        obtain ⟨i, rfl⟩ := Int.eq_ofNat_of_zero_le a0
        rw [Int.toNat_natCast] at hs
        have hE : (i : Int) + ((hexLen (l.drop ((i : Int).toNat)) : Nat) : Int) = ((i + hexLen (l.drop i) : Nat) : Int) := by rw [Int.toNat_natCast]; push_cast; rfl
        refine body6_ok (fun v => v = .tup [.arr 8 (.ints .u16 (six l).1), .bool (six l).2]) _ _ l g i (i + hexLen (l.drop i)) acc (six l) hpre h8 g1 g2 (by omega) rfl hs rfl (fun a h1 h2 h3 h4 h5 => ?_) (fun a h1 h2 h3 h4 h5 => ?_)
        · exact ⟨rfl, ⟨a, by rw [h1]; push_cast; rfl, h3, by rw [hE]; exact h2, g1, by dsimp only; omega, by dsimp only; omega, by dsimp only; rw [hE]; omega, by rw [hE, show ((i + hexLen (l.drop i) : Nat) : Int) + 1 = ((i + hexLen (l.drop i) + 1 : Nat) : Int) by push_cast; rfl, Int.toNat_natCast]; exact h5⟩, by dsimp only; omega⟩
        · exact ⟨rfl, ⟨a, by rw [h1]; push_cast; rfl, h3, by rw [hE]; exact h2, by dsimp only; omega, by dsimp only; omega, by dsimp only; omega, by dsimp only; rw [hE]; omega, by rw [hE, show ((i + hexLen (l.drop i) : Nat) : Int) + 1 + 1 = ((i + hexLen (l.drop i) + 2 : Nat) : Int) by push_cast; omega, Int.toNat_natCast]; exact h5⟩, by dsimp only; omega⟩
    · refine ⟨rfl, ⟨a, by rw [h1]; rfl, h3, h2, by omega, by omega, by omega, by show (2 : Int) + ((hexLen (l.drop 2) : Nat) : Int) + 1 + 1 ≤ _; omega, ?_⟩, fun x hx => ?_⟩
      · rw [show ((2 : Int) + ((hexLen (l.drop (Int.toNat 2)) : Nat) : Int) + 1 + 1).toNat = 2 + hexLen (l.drop 2) + 2 by show ((2 : Int) + ((hexLen (l.drop 2) : Nat) : Int) + 1 + 1).toNat = _; omega]
        exact h5
      · obtain ⟨c, g, a, p⟩ := x
        obtain ⟨acc, hC, h8, hp', g1, g2, a0, a1, hs⟩ := hx
        dsimp only at hC hp' g1 g2 a0 a1 hs
        subst hC hp'
        obtain ⟨i, rfl⟩ := Int.eq_ofNat_of_zero_le a0
        rw [Int.toNat_natCast] at hs
        have hE : (i : Int) + ((hexLen (l.drop ((i : Int).toNat)) : Nat) : Int) = ((i + hexLen (l.drop i) : Nat) : Int) := by rw [Int.toNat_natCast]; push_cast; rfl
        refine body6_ok (fun v => v = .tup [.arr 8 (.ints .u16 (six l).1), .bool (six l).2]) _ _ l g i (i + hexLen (l.drop i)) acc (six l) hpre h8 g1 g2 (by omega) rfl hs rfl (fun a h1 h2 h3 h4 h5 => ?_) (fun a h1 h2 h3 h4 h5 => ?_)
        · exact ⟨rfl, ⟨a, by rw [h1]; push_cast; rfl, h3, by rw [hE]; exact h2, g1, by dsimp only; omega, by dsimp only; omega, by dsimp only; rw [hE]; omega, by rw [hE, show ((i + hexLen (l.drop i) : Nat) : Int) + 1 = ((i + hexLen (l.drop i) + 1 : Nat) : Int) by push_cast; rfl, Int.toNat_natCast]; exact h5⟩, by dsimp only; omega⟩
        · exact ⟨rfl, ⟨a, by rw [h1]; push_cast; rfl, h3, by rw [hE]; exact h2, by dsimp only; omega, by dsimp only; omega, by dsimp only; omega, by dsimp only; rw [hE]; omega, by rw [hE, show ((i + hexLen (l.drop i) : Nat) : Int) + 1 + 1 = ((i + hexLen (l.drop i) + 2 : Nat) : Int) by push_cast; omega, Int.toNat_natCast]; exact h5⟩, by dsimp only; omega⟩)
def ent_parse : List PV → Option CallR := fun xs => match xs with
  | [.str l] => some ⟨l.length ≤ 1000000, .tup [.arr 8 (.ints .u16 (six l).1), .bool (six l).2]⟩
  | _ => none
theorem ent_parse_ok : ∀ xs c, ent_parse xs = some c → FuncOk Tryd.prog noT 8 xs c := fun xs c h => by
  unfold ent_parse at h
  split at h
  · injection h with h; subst h; exact ok_parse _
  · cases h
end Go.Proofs.YtklgahppjdgkmaaDoor
