/- The function gossamer/gossamerlaw9.SixMore does what is told of it. -/
import Derived.Test.YtklgahppjdgkmaaDoorR4
import Derived.Test.YtklgahppjdgkmaaDoorProg
import Derived.ProofKit
import Derived.Test.YtklgahppjdgkmaaDoorVlhex
import Derived.Test.YtklgahppjdgkmaaDoorVsix2
import Derived.Test.YtklgahppjdgkmaaDoorVparse
import Derived.Test.YtklgahppjdgkmaaDoorVsix0
set_option linter.unusedVariables false
set_option linter.unusedSimpArgs false
set_option maxRecDepth 100000
set_option maxHeartbeats 4000000
namespace Go.Proofs.YtklgahppjdgkmaaDoor
open Go Go.Proofs Go.RowKit Go.Vc

theorem m2 : (six [49, 58, 58, 50, 58, 58, 51]).2 = false := by decide +kernel
theorem m5 : (six [58, 58, 49, 46, 50, 46, 51, 46, 50, 53, 54]).2 = false := by decide +kernel
theorem m6 : (six [58, 58, 49, 46, 50, 46, 51, 46, 48, 52]).2 = false := by decide +kernel
theorem m7 : (six [49, 50, 51, 52, 53, 58, 58]).2 = false := by decide +kernel
theorem m8 : (six [58, 58, 49, 46, 50, 46, 51]).2 = false := by decide +kernel
theorem intZ_bd {p : List Int} {j : Int} (hp : ∀ x ∈ p, 0 ≤ x ∧ x ≤ 65535) (h0 : 0 ≤ j) (h1 : j < (p.length : Int)) : 0 ≤ intZ p j ∧ intZ p j ≤ 65535 := by
  unfold intZ
  rw [List.getD_eq_getElem?_getD, List.getElem?_eq_getElem (by omega)]
  exact hp _ (List.getElem_mem _)
theorem hexA_len {p : List Int} (k : Nat) (h : k ≤ p.length) : (hexA (p.take k)).length = k := by unfold hexA; rw [List.length_map, List.length_take]; omega
theorem hexA_take_piece {p : List Int} (hp : ∀ x ∈ p, 0 ≤ x ∧ x ≤ 65535) (k : Nat) : ∀ q ∈ hexA (p.take k), Piece q := hexA_piece (fun x hx => hp x (List.mem_of_mem_take hx))

def X_more : Tbl := tblX [(14, ent_lhex), (12, ent_low), (8, ent_parse), (7, ent_awake)]
def H_more (p : List Int) (z : Int) : Loops := fun i => bif Nat.beq i 3 then some ⟨(Bs) × (Int), (fun s x => ((((s.put 5 (.str x.1)).put 6 (.int .i64 x.2)).put 14 .undef).put 18 .undef)), (fun s => (s.str 5, s.int 6)), (fun s x => let s := x.1; let i := x.2; 0 ≤ i ∧ i ≤ 8 ∧ ((i = 0 ∧ s = []) ∨ (0 < i ∧ s ++ [58] = colons (hexA (p.take i.toNat))))), (fun s x => let s := x.1; let i := x.2; (8 - i).toNat), [14, 18]⟩ else none
theorem X_more_ok : XOk Tryd.prog noT X_more := tblX_cons ent_lhex_ok (tblX_cons ent_low_ok (tblX_cons ent_parse_ok (tblX_cons ent_awake_ok (tblX_nil))))
theorem vc_more (p : List Int) (z : Int) (k : PV → Prop) : evF Tryd.prog X_more noT (H_more p z) 1000 Tryd.f6 [.arr 8 (.ints .u16 p), .int .i64 z] k = (
  VS.mk []
 [(nat_lit 0, PV.arr (8 : Nat) (BRow.ints Go.IntKind.u16 p)), (nat_lit 1, PV.int Go.IntKind.i64 z),
 (nat_lit 2, PV.ptr ((2 : Nat) + (32 : Nat)) (0 : Nat)), (nat_lit 4, PV.bool false),
 (nat_lit 5, PV.str (ByteArray.mk #[]).data.toList), (nat_lit 6, PV.int Go.IntKind.i64 (0 : Int)), (nat_lit 7, PV.undef),
 (nat_lit 8, PV.undef), (nat_lit 10, PV.undef), (nat_lit 12, PV.undef), ((14 : Nat), PV.undef), ((18 : Nat), PV.undef)]
 [((2 : Nat) + (32 : Nat), PV.arr (8 : Nat) (BRow.ints Go.IntKind.u16 p))] =
 VS.mk []
 [(nat_lit 0, PV.arr (8 : Nat) (BRow.ints Go.IntKind.u16 p)), (nat_lit 1, PV.int Go.IntKind.i64 z),
 (nat_lit 2, PV.ptr ((2 : Nat) + (32 : Nat)) (0 : Nat)), (nat_lit 4, PV.bool false),
 ((5 : Nat), PV.str (ByteArray.mk #[]).data.toList), ((6 : Nat), PV.int Go.IntKind.i64 (0 : Int)), (nat_lit 7, PV.undef),
 (nat_lit 8, PV.undef), (nat_lit 10, PV.undef), (nat_lit 12, PV.undef), ((14 : Nat), PV.undef), ((18 : Nat), PV.undef)]
 [((2 : Nat) + (32 : Nat), PV.arr (8 : Nat) (BRow.ints Go.IntKind.u16 p))] ∧
 ((0 : Int) ≤ (0 : Int) ∧
 (0 : Int) ≤ (8 : Int) ∧
 ((0 : Int) = (0 : Int) ∧ (ByteArray.mk #[]).data.toList = [] ∨
 (0 : Int) < (0 : Int) ∧
 (ByteArray.mk #[]).data.toList ++ [(58 : UInt8)] =
 colons (hexA (List.take (Int.toNat (0 : Int)) p)))) ∧
 ∀ (x : Bs × Int),
 (0 : Int) ≤ x.snd ∧
 x.snd ≤ (8 : Int) ∧
 (x.snd = (0 : Int) ∧ x.fst = [] ∨
 (0 : Int) < x.snd ∧
 x.fst ++ [(58 : UInt8)] = colons (hexA (List.take x.snd.toNat p))) →
 (decide (x.snd < (8 : Int)) = true →
 (decide ((0 : Int) < x.snd) = true →
 List.length x.fst + (ByteArray.mk #[(58 : UInt8)]).data.toList.length ≤ Go.Vc.maxLen ∧
 within x.snd ↑(8 : Nat) ∧
 within x.snd ↑(8 : Nat) ∧
 ((0 : Int) ≤ intZ p x.snd ∧ intZ p x.snd ≤ (65535 : Int)) ∧
 List.length (x.fst ++ (ByteArray.mk #[(58 : UInt8)]).data.toList) +
 List.length (hexS (intZ p x.snd) true) ≤
 Go.Vc.maxLen ∧
 inI64 (x.snd + (1 : Int)) ∧
 VS.mk []
 [(nat_lit 0, PV.arr (8 : Nat) (BRow.ints Go.IntKind.u16 p)), (nat_lit 1, PV.int Go.IntKind.i64 z),
 (nat_lit 2, PV.ptr ((2 : Nat) + (32 : Nat)) (0 : Nat)), (nat_lit 4, PV.bool false),
 ((5 : Nat),
 PV.str
 (x.fst ++ (ByteArray.mk #[(58 : UInt8)]).data.toList ++ hexS (intZ p x.snd) true)),
 ((6 : Nat), PV.int Go.IntKind.i64 (x.snd + (1 : Int))), (nat_lit 7, PV.undef), (nat_lit 8, PV.undef),
 (nat_lit 10, PV.undef), (nat_lit 12, PV.undef), ((14 : Nat), PV.undef), ((18 : Nat), PV.undef)]
 [((2 : Nat) + (32 : Nat), PV.arr (8 : Nat) (BRow.ints Go.IntKind.u16 p))] =
 VS.mk []
 [(nat_lit 0, PV.arr (8 : Nat) (BRow.ints Go.IntKind.u16 p)), (nat_lit 1, PV.int Go.IntKind.i64 z),
 (nat_lit 2, PV.ptr ((2 : Nat) + (32 : Nat)) (0 : Nat)), (nat_lit 4, PV.bool false),
 ((5 : Nat),
 PV.str
 (x.fst ++ (ByteArray.mk #[(58 : UInt8)]).data.toList ++ hexS (intZ p x.snd) true)),
 ((6 : Nat), PV.int Go.IntKind.i64 (x.snd + (1 : Int))), (nat_lit 7, PV.undef), (nat_lit 8, PV.undef),
 (nat_lit 10, PV.undef), (nat_lit 12, PV.undef), ((14 : Nat), PV.undef), ((18 : Nat), PV.undef)]
 [((2 : Nat) + (32 : Nat), PV.arr (8 : Nat) (BRow.ints Go.IntKind.u16 p))] ∧
 ((0 : Int) ≤ x.snd + (1 : Int) ∧
 x.snd + (1 : Int) ≤ (8 : Int) ∧
 (x.snd + (1 : Int) = (0 : Int) ∧
 x.fst ++ (ByteArray.mk #[(58 : UInt8)]).data.toList ++ hexS (intZ p x.snd) true =
 [] ∨
 (0 : Int) < x.snd + (1 : Int) ∧
 x.fst ++ (ByteArray.mk #[(58 : UInt8)]).data.toList ++ hexS (intZ p x.snd) true ++
 [(58 : UInt8)] =
 colons
 (hexA (List.take (x.snd + (1 : Int)).toNat p)))) ∧
 ((8 : Int) - (x.snd + (1 : Int))).toNat < ((8 : Int) - x.snd).toNat) ∧
 (decide ((0 : Int) < x.snd) = false →
 within x.snd ↑(8 : Nat) ∧
 within x.snd ↑(8 : Nat) ∧
 ((0 : Int) ≤ intZ p x.snd ∧ intZ p x.snd ≤ (65535 : Int)) ∧
 List.length x.fst + List.length (hexS (intZ p x.snd) true) ≤ Go.Vc.maxLen ∧
 inI64 (x.snd + (1 : Int)) ∧
 VS.mk []
 [(nat_lit 0, PV.arr (8 : Nat) (BRow.ints Go.IntKind.u16 p)), (nat_lit 1, PV.int Go.IntKind.i64 z),
 (nat_lit 2, PV.ptr ((2 : Nat) + (32 : Nat)) (0 : Nat)), (nat_lit 4, PV.bool false),
 ((5 : Nat), PV.str (x.fst ++ hexS (intZ p x.snd) true)),
 ((6 : Nat), PV.int Go.IntKind.i64 (x.snd + (1 : Int))), (nat_lit 7, PV.undef), (nat_lit 8, PV.undef),
 (nat_lit 10, PV.undef), (nat_lit 12, PV.undef), ((14 : Nat), PV.undef), ((18 : Nat), PV.undef)]
 [((2 : Nat) + (32 : Nat), PV.arr (8 : Nat) (BRow.ints Go.IntKind.u16 p))] =
 VS.mk []
 [(nat_lit 0, PV.arr (8 : Nat) (BRow.ints Go.IntKind.u16 p)), (nat_lit 1, PV.int Go.IntKind.i64 z),
 (nat_lit 2, PV.ptr ((2 : Nat) + (32 : Nat)) (0 : Nat)), (nat_lit 4, PV.bool false),
 ((5 : Nat), PV.str (x.fst ++ hexS (intZ p x.snd) true)),
 ((6 : Nat), PV.int Go.IntKind.i64 (x.snd + (1 : Int))), (nat_lit 7, PV.undef), (nat_lit 8, PV.undef),
 (nat_lit 10, PV.undef), (nat_lit 12, PV.undef), ((14 : Nat), PV.undef), ((18 : Nat), PV.undef)]
 [((2 : Nat) + (32 : Nat), PV.arr (8 : Nat) (BRow.ints Go.IntKind.u16 p))] ∧
 ((0 : Int) ≤ x.snd + (1 : Int) ∧
 x.snd + (1 : Int) ≤ (8 : Int) ∧
 (x.snd + (1 : Int) = (0 : Int) ∧ x.fst ++ hexS (intZ p x.snd) true = [] ∨
 (0 : Int) < x.snd + (1 : Int) ∧
 x.fst ++ hexS (intZ p x.snd) true ++ [(58 : UInt8)] =
 colons (hexA (List.take (x.snd + (1 : Int)).toNat p)))) ∧
 ((8 : Int) - (x.snd + (1 : Int))).toNat < ((8 : Int) - x.snd).toNat)) ∧
 (decide (x.snd < (8 : Int)) = false →
 ((-9223372036854775808 : Int) ≤ z ∧ z ≤ (9223372036854775807 : Int) ∧ (1 : Int) ≤ (9 : Int) ∧ (9 : Int) ≤ (4611686018427387904 : Int)) ∧
 List.length x.fst + (ByteArray.mk #[(58 : UInt8), (49 : UInt8)]).data.toList.length ≤ Go.Vc.maxLen ∧
 within (7 : Int) ↑(8 : Nat) ∧
 within (7 : Int) ↑(8 : Nat) ∧
 ((0 : Int) ≤ intZ p (7 : Int) ∧ intZ p (7 : Int) ≤ (65535 : Int)) ∧
 inI64 (lenZ x.fst - lenZ (hexS (intZ p (7 : Int)) true)) ∧
 inI64 (lenZ x.fst - lenZ (hexS (intZ p (7 : Int)) true) - (1 : Int)) ∧
 upto (0 : Int) (lenZ x.fst - lenZ (hexS (intZ p (7 : Int)) true) - (1 : Int))
 (lenZ x.fst) ∧
 List.length x.fst + (ByteArray.mk #[(58 : UInt8)]).data.toList.length ≤ Go.Vc.maxLen ∧
 (ByteArray.mk #[(58 : UInt8)]).data.toList.length + List.length x.fst ≤ Go.Vc.maxLen ∧
 within (lowN z (9 : Int))
 (Int.ofNat
 [x.fst ++ (ByteArray.mk #[(58 : UInt8), (49 : UInt8)]).data.toList,
 takeZ x.fst
 (lenZ x.fst - lenZ (hexS (intZ p (7 : Int)) true) - (1 : Int)),
 (ByteArray.mk
 #[(49 : UInt8), (58 : UInt8), (58 : UInt8), (50 : UInt8), (58 : UInt8), (58 : UInt8),
 (51 : UInt8)]).data.toList,
 x.fst ++ (ByteArray.mk #[(58 : UInt8)]).data.toList, (ByteArray.mk #[(58 : UInt8)]).data.toList ++ x.fst,
 (ByteArray.mk
 #[(58 : UInt8), (58 : UInt8), (49 : UInt8), (46 : UInt8), (50 : UInt8), (46 : UInt8), (51 : UInt8),
 (46 : UInt8), (50 : UInt8), (53 : UInt8), (54 : UInt8)]).data.toList,
 (ByteArray.mk
 #[(58 : UInt8), (58 : UInt8), (49 : UInt8), (46 : UInt8), (50 : UInt8), (46 : UInt8), (51 : UInt8),
 (46 : UInt8), (48 : UInt8), (52 : UInt8)]).data.toList,
 (ByteArray.mk
 #[(49 : UInt8), (50 : UInt8), (51 : UInt8), (52 : UInt8), (53 : UInt8), (58 : UInt8),
 (58 : UInt8)]).data.toList,
 (ByteArray.mk
 #[(58 : UInt8), (58 : UInt8), (49 : UInt8), (46 : UInt8), (50 : UInt8), (46 : UInt8),
 (51 : UInt8)]).data.toList].length) ∧
 (List.length
 (strZ
 [x.fst ++ (ByteArray.mk #[(58 : UInt8), (49 : UInt8)]).data.toList,
 takeZ x.fst
 (lenZ x.fst - lenZ (hexS (intZ p (7 : Int)) true) - (1 : Int)),
 (ByteArray.mk
 #[(49 : UInt8), (58 : UInt8), (58 : UInt8), (50 : UInt8), (58 : UInt8), (58 : UInt8),
 (51 : UInt8)]).data.toList,
 x.fst ++ (ByteArray.mk #[(58 : UInt8)]).data.toList, (ByteArray.mk #[(58 : UInt8)]).data.toList ++ x.fst,
 (ByteArray.mk
 #[(58 : UInt8), (58 : UInt8), (49 : UInt8), (46 : UInt8), (50 : UInt8), (46 : UInt8), (51 : UInt8),
 (46 : UInt8), (50 : UInt8), (53 : UInt8), (54 : UInt8)]).data.toList,
 (ByteArray.mk
 #[(58 : UInt8), (58 : UInt8), (49 : UInt8), (46 : UInt8), (50 : UInt8), (46 : UInt8), (51 : UInt8),
 (46 : UInt8), (48 : UInt8), (52 : UInt8)]).data.toList,
 (ByteArray.mk
 #[(49 : UInt8), (50 : UInt8), (51 : UInt8), (52 : UInt8), (53 : UInt8), (58 : UInt8),
 (58 : UInt8)]).data.toList,
 (ByteArray.mk
 #[(58 : UInt8), (58 : UInt8), (49 : UInt8), (46 : UInt8), (50 : UInt8), (46 : UInt8),
 (51 : UInt8)]).data.toList]
 (lowN z (9 : Int)))).le
 (1000000 : Nat) ∧
 (List.length x.fst).le (1000000 : Nat) ∧
 ((bif
 !(six
 (strZ
 [x.fst ++ (ByteArray.mk #[(58 : UInt8), (49 : UInt8)]).data.toList,
 takeZ x.fst
 (lenZ x.fst - lenZ (hexS (intZ p (7 : Int)) true) -
 (1 : Int)),
 (ByteArray.mk
 #[(49 : UInt8), (58 : UInt8), (58 : UInt8), (50 : UInt8), (58 : UInt8), (58 : UInt8),
 (51 : UInt8)]).data.toList,
 x.fst ++ (ByteArray.mk #[(58 : UInt8)]).data.toList,
 (ByteArray.mk #[(58 : UInt8)]).data.toList ++ x.fst,
 (ByteArray.mk
 #[(58 : UInt8), (58 : UInt8), (49 : UInt8), (46 : UInt8), (50 : UInt8), (46 : UInt8),
 (51 : UInt8), (46 : UInt8), (50 : UInt8), (53 : UInt8), (54 : UInt8)]).data.toList,
 (ByteArray.mk
 #[(58 : UInt8), (58 : UInt8), (49 : UInt8), (46 : UInt8), (50 : UInt8), (46 : UInt8),
 (51 : UInt8), (46 : UInt8), (48 : UInt8), (52 : UInt8)]).data.toList,
 (ByteArray.mk
 #[(49 : UInt8), (50 : UInt8), (51 : UInt8), (52 : UInt8), (53 : UInt8), (58 : UInt8),
 (58 : UInt8)]).data.toList,
 (ByteArray.mk
 #[(58 : UInt8), (58 : UInt8), (49 : UInt8), (46 : UInt8), (50 : UInt8), (46 : UInt8),
 (51 : UInt8)]).data.toList]
 (lowN z (9 : Int)))).snd then
 (six x.fst).snd
 else false) =
 true →
 True) ∧
 k
 (PV.bool
 (bif
 bif
 !(six
 (strZ
 [x.fst ++ (ByteArray.mk #[(58 : UInt8), (49 : UInt8)]).data.toList,
 takeZ x.fst
 (lenZ x.fst -
 lenZ (hexS (intZ p (7 : Int)) true) -
 (1 : Int)),
 (ByteArray.mk
 #[(49 : UInt8), (58 : UInt8), (58 : UInt8), (50 : UInt8), (58 : UInt8), (58 : UInt8),
 (51 : UInt8)]).data.toList,
 x.fst ++ (ByteArray.mk #[(58 : UInt8)]).data.toList,
 (ByteArray.mk #[(58 : UInt8)]).data.toList ++ x.fst,
 (ByteArray.mk
 #[(58 : UInt8), (58 : UInt8), (49 : UInt8), (46 : UInt8), (50 : UInt8), (46 : UInt8),
 (51 : UInt8), (46 : UInt8), (50 : UInt8), (53 : UInt8), (54 : UInt8)]).data.toList,
 (ByteArray.mk
 #[(58 : UInt8), (58 : UInt8), (49 : UInt8), (46 : UInt8), (50 : UInt8), (46 : UInt8),
 (51 : UInt8), (46 : UInt8), (48 : UInt8), (52 : UInt8)]).data.toList,
 (ByteArray.mk
 #[(49 : UInt8), (50 : UInt8), (51 : UInt8), (52 : UInt8), (53 : UInt8), (58 : UInt8),
 (58 : UInt8)]).data.toList,
 (ByteArray.mk
 #[(58 : UInt8), (58 : UInt8), (49 : UInt8), (46 : UInt8), (50 : UInt8), (46 : UInt8),
 (51 : UInt8)]).data.toList]
 (lowN z (9 : Int)))).snd then
 (six x.fst).snd
 else false then
 true
 else false)))) := by kernel_rfl
attribute [local irreducible] Go.Vc.evF
theorem ok_more (p : List Int) (z : Int) : FuncOk Tryd.prog noT 6 [.arr 8 (.ints .u16 p), .int .i64 z] ⟨p.length = 8 ∧ (∀ x ∈ p, 0 ≤ x ∧ x ≤ 65535) ∧ -9223372036854775808 ≤ z ∧ z ≤ 9223372036854775807, .bool true⟩ := evF_ok (by kernel_rfl) X_more_ok (H := H_more p z) (fuel := 1000) Tryd.func6 (by kernel_rfl) fun hpre => (vc_more p z _).mpr (by
  obtain ⟨hp8, hpb, z0, z1⟩ := hpre
  refine ⟨rfl, ⟨by omega, by omega, .inl ⟨rfl, rfl⟩⟩, fun x hx => ⟨fun h => ?_, fun h => ?_⟩⟩
  · obtain ⟨s, i⟩ := x
    obtain ⟨i0, i1, hs⟩ := hx
    dsimp only at i0 i1 hs h ⊢
    have hi8 : i < 8 := of_decide_eq_true h
    obtain ⟨k, rfl⟩ := Int.eq_ofNat_of_zero_le i0
    rw [Int.toNat_natCast] at hs
    obtain ⟨b0, b1⟩ := intZ_bd hpb (j := (k : Int)) (by omega) (by omega)
    have hP := hexS_piece b0 b1 true
    have hhi := hP.hi
    have hst := hexA_take (p := p) k (by omega)
    have hk1 : ((k : Int) + 1).toNat = k + 1 := by omega
    have hcl := colons_len _ (hexA_take_piece hpb (k + 1))
    rw [hexA_len (k + 1) (by omega), hst, colons_snoc, List.length_append, List.length_append] at hcl
    have hml : Go.Vc.maxLen = 1099511627776 := rfl
    rw [hk1, hst, colons_snoc]
    refine ⟨fun hc => ?_, fun hc => ?_⟩
    · have hc0 : (0 : Int) < k := of_decide_eq_true hc
      rcases hs with hs | ⟨-, hs⟩
      · omega
      · have hsl : s.length + 1 = (colons (hexA (p.take k))).length := by rw [← hs]; simp
        refine ⟨?_, ⟨by omega, by show (k : Int) < 8; omega⟩, ⟨by omega, by show (k : Int) < 8; omega⟩, ⟨b0, b1⟩, ?_, ⟨by omega, by omega⟩, rfl, ⟨by omega, by omega, .inr ⟨by omega, ?_⟩⟩, by omega⟩
        · show s.length + 1 ≤ Go.Vc.maxLen
          omega
        · rw [List.length_append]
          show s.length + 1 + _ ≤ Go.Vc.maxLen
          omega
        · rw [← hs]
          simp
    · have hc0 : ¬ (0 : Int) < k := of_decide_eq_false hc
      obtain rfl : k = 0 := by omega
      rcases hs with ⟨-, rfl⟩ | ⟨hs, -⟩
      · refine ⟨⟨by omega, by decide⟩, ⟨by omega, by decide⟩, ⟨b0, b1⟩, ?_, ⟨by omega, by omega⟩, rfl, ⟨by omega, by omega, .inr ⟨by omega, ?_⟩⟩, by omega⟩
        · rw [List.length_nil]; omega
        · simp [colons, hexA]
      · omega
  · obtain ⟨s, i⟩ := x
    obtain ⟨i0, i1, hs⟩ := hx
    dsimp only at i0 i1 hs h ⊢
    have hi8 : ¬ i < 8 := of_decide_eq_false h
    obtain rfl : i = 8 := by omega
    rcases hs with ⟨h8, -⟩ | ⟨-, hs⟩
    · omega
    obtain ⟨b0, b1⟩ := intZ_bd hpb (j := 7) (by omega) (by omega)
    obtain ⟨a0, a1⟩ := intZ_bd hpb (j := 6) (by omega) (by omega)
    have hP := hexS_piece b0 b1 true
    have hP6 := hexS_piece a0 a1 true
    have e8 := hexA_take (p := p) 7 (by omega)
    have e7 := hexA_take (p := p) 6 (by omega)
    have q6 := hexA_take_piece hpb 6
    have q7 := hexA_take_piece hpb 7
    have l6 := hexA_len (p := p) 6 (by omega)
    have l7 := hexA_len (p := p) 7 (by omega)
    have hcl := colons_len _ q7
    rw [show Int.toNat 8 = 7 + 1 by decide, e8, colons_snoc, ← List.append_assoc] at hs
    have hs2 : s = colons (hexA (p.take 7)) ++ hexS (intZ p 7) true := List.append_cancel_right hs
    have hph := hP.hi
    have hpl := hP.lo
    have hsl : s.length = (colons (hexA (p.take 7))).length + (hexS (intZ p 7) true).length := by rw [hs2, List.length_append]
    rw [e7, colons_snoc] at hs2
    have hx7 : (colons (hexA (p.take 7))).length = (colons (hexA (p.take 6)) ++ hexS (intZ p 6) true).length + 1 := by rw [e7, colons_snoc]; simp; omega
    have hml : Go.Vc.maxLen = 1099511627776 := rfl
    have f0 : (six (s ++ [58, 49])).2 = false := by
      have := six_ninth (hexA (p.take 8)) [49] (hexA_take_piece hpb 8) ⟨(fun c hc => by rw [List.mem_singleton] at hc; subst hc; decide), by decide, by decide⟩ (hexA_len 8 (by omega))
      rw [e8, colons_snoc, ← List.append_assoc, ← hs] at this
      rw [show s ++ [58, 49] = s ++ [58] ++ [49] by simp, this]
      rfl
    have f1 : (six (takeZ s (lenZ s - lenZ (hexS (intZ p 7) true) - 1))).2 = false := by
      have ht : takeZ s (lenZ s - lenZ (hexS (intZ p 7) true) - 1) = colons (hexA (p.take 6)) ++ hexS (intZ p 6) true := by
        unfold takeZ lenZ
        rw [show ((s.length : Int) - ((hexS (intZ p 7) true).length : Int) - 1).toNat = (colons (hexA (p.take 6)) ++ hexS (intZ p 6) true).length by omega, hs2]
        rw [show colons (hexA (p.take 6)) ++ (hexS (intZ p ((6 : Nat) : Int)) true ++ [58]) ++ hexS (intZ p 7) true = (colons (hexA (p.take 6)) ++ hexS (intZ p 6) true) ++ ([58] ++ hexS (intZ p 7) true) by simp]
        rw [List.take_left]
      rw [ht, six_seven _ _ q6 hP6 l6]
      rfl
    have f3 : (six (s ++ [58])).2 = false := by
      rw [hs, List.append_assoc]
      have := six_behind (hexA (p.take 7)) (hexS (intZ p 7) true) q7 hP l7
      rw [show ((7 : Nat) : Int) = 7 from rfl, this]
      rfl
    have f4 : (six (58 :: s)).2 = false := by
      rw [six_ahead]
      · rfl
      · intro hh
        have g := hexA_take (p := p) 0 (by omega)
        have := piece_first (r := []) hP
        have hne : 0 ≤ hexN (byt s 0) := by
          rw [hs2]
          match hq : hexA (p.take 6), q6, l6 with
          | r :: rs, q6, _ =>
            have := piece_first (r := [58] ++ colons rs ++ (hexS (intZ p ((6 : Nat) : Int)) true ++ [58]) ++ hexS (intZ p 7) true) (q6 r (List.mem_cons_self ..))
            rw [colons_cons]
            rw [show r ++ [58] ++ colons rs ++ (hexS (intZ p ((6 : Nat) : Int)) true ++ [58]) ++ hexS (intZ p 7) true = r ++ ([58] ++ colons rs ++ (hexS (intZ p ((6 : Nat) : Int)) true ++ [58]) ++ hexS (intZ p 7) true) by simp]
            exact this
        rw [hh] at hne
        exact absurd hne (by decide)
    have fs : (six s).2 = true := by
      have := six_eight (hexA (p.take 7)) (hexS (intZ p 7) true) q7 hP l7
      rw [show s = colons (hexA (p.take 7)) ++ hexS (intZ p 7) true by rw [hs2, e7, colons_snoc], this]
    have fin : ∀ t : Bs, (six t).2 = false → t.length ≤ 1000000 → t.length.le 1000000 ∧ s.length.le 1000000 ∧ ((bif !(six t).2 then (six s).2 else false) = true → True) ∧ PV.bool (bif bif !(six t).2 then (six s).2 else false then true else false) = PV.bool true := fun t h1 h2 => ⟨h2, by show s.length ≤ 1000000; omega, fun _ => trivial, by rw [h1, fs]; rfl⟩
    obtain ⟨k0, k9⟩ := lowN_bd z 9 (by decide)
    refine ⟨⟨z0, z1, by omega, by omega⟩, ?_, ⟨by omega, by decide⟩, ⟨by omega, by decide⟩, ⟨b0, b1⟩, ⟨?_, ?_⟩, ⟨?_, ?_⟩, ⟨by omega, ?_, ?_⟩, ?_, ?_, ⟨k0, k9⟩, ?_⟩
    · show s.length + 2 ≤ Go.Vc.maxLen; omega
    · unfold lenZ; omega
    · unfold lenZ; omega
    · unfold lenZ; omega
    · unfold lenZ; omega
    · unfold lenZ; omega
    · unfold lenZ; omega
    · show s.length + 1 ≤ Go.Vc.maxLen; omega
    · show 1 + s.length ≤ Go.Vc.maxLen; omega
    · rcases (show lowN z 9 = 0 ∨ lowN z 9 = 1 ∨ lowN z 9 = 2 ∨ lowN z 9 = 3 ∨ lowN z 9 = 4 ∨ lowN z 9 = 5 ∨ lowN z 9 = 6 ∨ lowN z 9 = 7 ∨ lowN z 9 = 8 by omega) with hk | hk | hk | hk | hk | hk | hk | hk | hk
      · rw [hk]; exact fin (s ++ [58, 49]) f0 (by rw [List.length_append]; show s.length + 2 ≤ 1000000; omega)
      · rw [hk]; exact fin (takeZ s (lenZ s - lenZ (hexS (intZ p 7) true) - 1)) f1 (by unfold takeZ; rw [List.length_take]; omega)
      · rw [hk]; exact fin [49, 58, 58, 50, 58, 58, 51] m2 (by decide)
      · rw [hk]; exact fin (s ++ [58]) f3 (by rw [List.length_append]; show s.length + 1 ≤ 1000000; omega)
      · rw [hk]; exact fin (58 :: s) f4 (by rw [List.length_cons]; omega)
      · rw [hk]; exact fin [58, 58, 49, 46, 50, 46, 51, 46, 50, 53, 54] m5 (by decide)
      · rw [hk]; exact fin [58, 58, 49, 46, 50, 46, 51, 46, 48, 52] m6 (by decide)
      · rw [hk]; exact fin [49, 50, 51, 52, 53, 58, 58] m7 (by decide)
      · rw [hk]; exact fin [58, 58, 49, 46, 50, 46, 51] m8 (by decide))
def ent_more : List PV → Option CallR := fun xs => match xs with
  | [.arr 8 (.ints .u16 p), .int .i64 z] => some ⟨p.length = 8 ∧ (∀ x ∈ p, 0 ≤ x ∧ x ≤ 65535) ∧ -9223372036854775808 ≤ z ∧ z ≤ 9223372036854775807, .bool true⟩
  | _ => none
theorem ent_more_ok : ∀ xs c, ent_more xs = some c → FuncOk Tryd.prog noT 6 xs c := fun xs c h => by
  unfold ent_more at h
  split at h
  · injection h with h; subst h; exact ok_more _ _
  · cases h
end Go.Proofs.YtklgahppjdgkmaaDoor
