import Derived.Test.YthgchelpfacgmaaDoorProg
import Derived.ProofKit
import Derived.Laws.Bits64b
import Derived.IntWalk
import Derived.Test.YthgchelpfacgmaaDoorSb6
import Derived.Test.YthgchelpfacgmaaDoorSb17
set_option linter.unusedVariables false
set_option linter.unusedSimpArgs false
set_option maxRecDepth 100000
set_option maxHeartbeats 4000000
namespace Go.Proofs.YthgchelpfacgmaaDoor
open Go Go.Proofs Go.RowKit Go.Vc
section
def X_ipow : Tbl := tblX []
def H_ipow  : Loops := fun i => none
theorem X_ipow_ok : XOk Tryd.prog noT X_ipow := tblX_nil
theorem vc_ipow  (k : PV → Prop) : evF Tryd.prog X_ipow noT (H_ipow ) 1000 Tryd.f33 [.int .i64 16] k = (
  inI64 ((16 : Int) - (1 : Int)) ∧ k (PV.bool (decide (bitsZ Go.BinOp.and .i64 (16 : Int) ((16 : Int) - (1 : Int)) = (0 : Int))))) := by kernel_rfl
attribute [local irreducible] Go.Vc.evF
theorem ok_ipow  : FuncOk Tryd.prog noT 33 [.int .i64 16] ⟨True, .bool true⟩ := evF_ok (by kernel_rfl) X_ipow_ok (H := H_ipow ) (fuel := 1000) Tryd.func33 (by kernel_rfl) fun hpre => (vc_ipow  _).mpr (by
  exact ⟨by unfold inI64; omega, congrArg PV.bool (by decide +kernel)⟩)
def ent_ipow : List PV → Option CallR := fun xs => match xs with
  | [.int .i64 16] => some ⟨True, .bool true⟩
  | _ => none
theorem ent_ipow_ok : ∀ xs c, ent_ipow xs = some c → FuncOk Tryd.prog noT 33 xs c := fun xs c h => by
  unfold ent_ipow at h
  split at h
  · injection h with h; subst h; exact ok_ipow 
  · cases h
end
section
def X_tz : Tbl := tblX [(40, ent_tz64)]
def H_tz  : Loops := fun i => none
theorem X_tz_ok : XOk Tryd.prog noT X_tz := tblX_cons ent_tz64_ok (tblX_nil)
theorem vc_tz  (k : PV → Prop) : evF Tryd.prog X_tz noT (H_tz ) 1000 Tryd.f34 [.int .u64 16] k = (
  (false = true → False) ∧ (false = false → True ∧ k (PV.int .i64 (4 : Int)))) := by kernel_rfl
attribute [local irreducible] Go.Vc.evF
theorem ok_tz  : FuncOk Tryd.prog noT 34 [.int .u64 16] ⟨True, .int .i64 4⟩ := evF_ok (by kernel_rfl) X_tz_ok (H := H_tz ) (fuel := 1000) Tryd.func34 (by kernel_rfl) fun hpre => (vc_tz  _).mpr (by
  exact ⟨fun h => (by cases h), fun _ => ⟨trivial, rfl⟩⟩)
def ent_tz : List PV → Option CallR := fun xs => match xs with
  | [.int .u64 16] => some ⟨True, .int .i64 4⟩
  | _ => none
theorem ent_tz_ok : ∀ xs c, ent_tz xs = some c → FuncOk Tryd.prog noT 34 xs c := fun xs c h => by
  unfold ent_tz at h
  split at h
  · injection h with h; subst h; exact ok_tz 
  · cases h
end
section
abbrev DGS : Bs := (ByteArray.mk #[48, 49, 50, 51, 52, 53, 54, 55, 56, 57, 97, 98, 99, 100, 101, 102, 103, 104, 105, 106, 107, 108, 109, 110, 111, 112, 113, 114, 115, 116, 117, 118, 119, 120, 121, 122]).data.toList
theorem dgs_at : ∀ k : Fin 16, 0 ≤ byteZ DGS (k.val : Int) ∧ byteZ DGS (k.val : Int) ≤ 255 ∧ zByte (byteZ DGS (k.val : Int)) = dx k.val := by decide +kernel
theorem dgs_len : lenZ DGS = 36 := by decide
theorem and15q (m : Nat) (h : m < 65536) : bitsZ BinOp.and IntKind.u64 (m : Int) 15 = ((m % 16 : Nat) : Int) := by
  have := bits_and_u64_nat m 15 (by omega) (by decide)
  rw [show m &&& 15 = m % 16 from Nat.and_two_pow_sub_one_eq_mod m 4] at this
  exact this
theorem shr4q (m : Nat) : shrZ IntKind.u64 (m : Int) 4 = ((m / 16 : Nat) : Int) := by
  unfold shrZ
  rw [show min (4 : Int).toNat IntKind.u64.bits = 4 by decide, Int.fdiv_eq_ediv_of_nonneg _ (by decide)]
  show (m : Int) / 16 = _
  omega
theorem drop_set {l : Bs} {j : Nat} (h : j < l.length) (c : UInt8) : (l.set j c).drop j = c :: l.drop (j + 1) := by
  rw [List.drop_eq_getElem_cons (by rw [List.length_set]; exact h), List.getElem_set_self, List.drop_set_of_lt (by omega)]
def X_fbits : Tbl := tblX [(33, ent_ipow), (34, ent_tz)]
def H_fbits (nb : Bool) (b : Bs) (u : Int) : Loops := fun i => bif Nat.beq i 11 then some ⟨(Int) × (Int) × (Bs), (fun s x => ((VS.mk ((s.put 1 (.int .u64 x.1)).put 13 (.int .i64 x.2.1)).loc ((s.put 1 (.int .u64 x.1)).put 13 (.int .i64 x.2.1)).env (setN 44 (.arr 65 (.bytes x.2.2)) ((s.put 1 (.int .u64 x.1)).put 13 (.int .i64 x.2.1)).lh)).put 46 .undef)), (fun s => (s.int 1, s.int 13, VS.bytes (VS.mk [] s.lh []) 44)), (fun s x => let u1 := x.1; let i := x.2.1; let a := x.2.2; 61 < i ∧ i ≤ 65 ∧ 0 ≤ u1 ∧ u1 < 65536 ∧ a.length = 65 ∧ (i = 62 → u1 < 16) ∧ (i = 63 → u1 < 256) ∧ (i = 64 → u1 < 4096) ∧ hx4 u1.toNat ++ a.drop i.toNat = hx4 u.toNat), (fun s x => let u1 := x.1; let i := x.2.1; let a := x.2.2; u1.toNat), [46]⟩ else none
theorem X_fbits_ok : XOk Tryd.prog noT X_fbits := tblX_cons ent_ipow_ok (tblX_cons ent_tz_ok (tblX_nil))
theorem vc_fbits (nb : Bool) (b : Bs) (u : Int) (k : PV → Prop) : evR Tryd.prog X_fbits noT (H_fbits nb b u) 1000 Tryd.f25 [.row nb (.bytes b) 1, .int .u64 u, .int .i64 16, .bool false, .bool true] k = (
  (decide ((36 : Int) < (16 : Int)) = true → False) ∧
 (decide ((36 : Int) < (16 : Int)) = false →
 (false = true →
 True ∧
 (true = true →
 True ∧
 VS.mk []
 [(0, PV.row nb (BRow.bytes b) (1 : Nat)),
 (1, PV.int .u64 (Go.IntKind.u64.wrap ((0 : Int) - u))), (2, PV.int .i64 (16 : Int)),
 (3, PV.bool false), (4, PV.bool true),
 (10, PV.row true (BRow.bytes []) ((10 : Nat) + (32 : Nat))),
 (11, PV.str (ByteArray.mk #[]).data.toList), (12, PV.ptr ((12 : Nat) + (32 : Nat)) (0 : Nat)),
 (13, PV.int .i64 (65 : Int)), (14, PV.int .u64 (Go.IntKind.u64.wrap (4 : Int))),
 (15, PV.int .u64 (Go.IntKind.u64.wrap (16 : Int))),
 (16, PV.int .u64 (Go.IntKind.u64.wrap (Go.IntKind.u64.wrap (16 : Int) - (1 : Int)))),
 (17, PV.undef), (18, PV.undef), (28, PV.bool (decide ((36 : Int) < (16 : Int)))),
 (30, PV.bool false), (34, PV.bool true), ((46 : Nat), PV.undef), (68, PV.undef),
 (89, PV.undef), (94, PV.undef)]
 [((12 : Nat) + (32 : Nat), PV.arr (65 : Nat) (BRow.bytes (List.replicate (65 : Nat) (0 : UInt8))))] =
 VS.mk []
 [(0, PV.row nb (BRow.bytes b) (1 : Nat)),
 ((1 : Nat), PV.int .u64 (Go.IntKind.u64.wrap ((0 : Int) - u))), (2, PV.int .i64 (16 : Int)),
 (3, PV.bool false), (4, PV.bool true),
 (10, PV.row true (BRow.bytes []) ((10 : Nat) + (32 : Nat))),
 (11, PV.str (ByteArray.mk #[]).data.toList), (12, PV.ptr ((12 : Nat) + (32 : Nat)) (0 : Nat)),
 ((13 : Nat), PV.int .i64 (65 : Int)), (14, PV.int .u64 (Go.IntKind.u64.wrap (4 : Int))),
 (15, PV.int .u64 (Go.IntKind.u64.wrap (16 : Int))),
 (16, PV.int .u64 (Go.IntKind.u64.wrap (Go.IntKind.u64.wrap (16 : Int) - (1 : Int)))),
 (17, PV.undef), (18, PV.undef), (28, PV.bool (decide ((36 : Int) < (16 : Int)))),
 (30, PV.bool false), (34, PV.bool true), ((46 : Nat), PV.undef), (68, PV.undef),
 (89, PV.undef), (94, PV.undef)]
 [((44 : Nat), PV.arr (65 : Nat) (BRow.bytes (List.replicate (65 : Nat) (0 : UInt8))))] ∧
 ((61 : Int) < (65 : Int) ∧
 (65 : Int) ≤ (65 : Int) ∧
 (0 : Int) ≤ Go.IntKind.u64.wrap ((0 : Int) - u) ∧
 Go.IntKind.u64.wrap ((0 : Int) - u) < (65536 : Int) ∧
 (List.replicate (65 : Nat) (0 : UInt8)).length = (65 : Nat) ∧
 ((65 : Int) = (62 : Int) → Go.IntKind.u64.wrap ((0 : Int) - u) < (16 : Int)) ∧
 ((65 : Int) = (63 : Int) → Go.IntKind.u64.wrap ((0 : Int) - u) < (256 : Int)) ∧
 ((65 : Int) = (64 : Int) → Go.IntKind.u64.wrap ((0 : Int) - u) < (4096 : Int)) ∧
 hx4 (Go.IntKind.u64.wrap ((0 : Int) - u)).toNat ++
 List.drop (Int.toNat (65 : Int)) (List.replicate (65 : Nat) (0 : UInt8)) =
 hx4 u.toNat) ∧
 ∀ (x : Int × Int × Bs),
 (61 : Int) < x.2.1 ∧
 x.2.1 ≤ (65 : Int) ∧
 (0 : Int) ≤ x.1 ∧
 x.1 < (65536 : Int) ∧
 List.length x.2.2 = (65 : Nat) ∧
 (x.2.1 = (62 : Int) → x.1 < (16 : Int)) ∧
 (x.2.1 = (63 : Int) → x.1 < (256 : Int)) ∧
 (x.2.1 = (64 : Int) → x.1 < (4096 : Int)) ∧
 hx4 x.1.toNat ++ List.drop x.2.1.toNat x.2.2 =
 hx4 u.toNat →
 (decide (Go.IntKind.u64.wrap (16 : Int) ≤ x.1) = true →
 inI64 (x.2.1 - (1 : Int)) ∧
 within (bitsZ Go.BinOp.and .u64 x.1 (Go.IntKind.u64.wrap (Go.IntKind.u64.wrap (16 : Int) - (1 : Int))))
 (lenZ
 (ByteArray.mk
 #[48, 49, 50, 51, 52, 53, 54, 55, 56, 57, 97, 98, 99, 100, 101, 102, 103, 104, 105, 106, 107, 108, 109, 110, 111, 112, 113, 114, 115, 116, 117, 118, 119, 120, 121, 122]).data.toList) ∧
 within (x.2.1 - (1 : Int)) ↑(65 : Nat) ∧
 (within (x.2.1 - (1 : Int)) ↑(65 : Nat) ∧
 (0 : Int) ≤
 byteZ
 (ByteArray.mk
 #[48, 49, 50, 51, 52, 53, 54, 55, 56, 57, 97, 98, 99, 100, 101, 102, 103, 104, 105, 106, 107, 108, 109, 110, 111, 112, 113, 114, 115, 116, 117, 118, 119, 120, 121, 122]).data.toList
 (bitsZ Go.BinOp.and .u64 x.1 (Go.IntKind.u64.wrap (Go.IntKind.u64.wrap (16 : Int) - (1 : Int)))) ∧
 byteZ
 (ByteArray.mk
 #[48, 49, 50, 51, 52, 53, 54, 55, 56, 57, 97, 98, 99, 100, 101, 102, 103, 104, 105, 106, 107, 108, 109, 110, 111, 112, 113, 114, 115, 116, 117, 118, 119, 120, 121, 122]).data.toList
 (bitsZ Go.BinOp.and .u64 x.1 (Go.IntKind.u64.wrap (Go.IntKind.u64.wrap (16 : Int) - (1 : Int)))) ≤
 (255 : Int)) ∧
 (0 : Int) ≤ Go.IntKind.u64.wrap (4 : Int) ∧
 VS.mk []
 [(0, PV.row nb (BRow.bytes b) (1 : Nat)),
 ((1 : Nat), PV.int .u64 (shrZ .u64 x.1 (Go.IntKind.u64.wrap (4 : Int)))),
 (2, PV.int .i64 (16 : Int)), (3, PV.bool false),
 (4, PV.bool true), (10, PV.row true (BRow.bytes []) ((10 : Nat) + (32 : Nat))),
 (11, PV.str (ByteArray.mk #[]).data.toList),
 (12, PV.ptr ((12 : Nat) + (32 : Nat)) (0 : Nat)),
 ((13 : Nat), PV.int .i64 (x.2.1 - (1 : Int))),
 (14, PV.int .u64 (Go.IntKind.u64.wrap (4 : Int))),
 (15, PV.int .u64 (Go.IntKind.u64.wrap (16 : Int))),
 (16, PV.int .u64 (Go.IntKind.u64.wrap (Go.IntKind.u64.wrap (16 : Int) - (1 : Int)))),
 (17, PV.undef), (18, PV.undef),
 (28, PV.bool (decide ((36 : Int) < (16 : Int)))), (30, PV.bool false),
 (34, PV.bool true), ((46 : Nat), PV.undef), (68, PV.undef),
 (89, PV.undef), (94, PV.undef)]
 [((12 : Nat) + (32 : Nat),
 PV.arr (65 : Nat)
 (BRow.bytes
 (setZ x.2.2 (x.2.1 - (1 : Int))
 (zByte
 (byteZ
 (ByteArray.mk
 #[48, 49, 50, 51, 52, 53, 54, 55, 56, 57, 97, 98, 99, 100, 101, 102, 103, 104, 105, 106, 107, 108, 109, 110, 111, 112, 113, 114, 115, 116, 117, 118, 119, 120, 121, 122]).data.toList
 (bitsZ Go.BinOp.and .u64 x.1
 (Go.IntKind.u64.wrap (Go.IntKind.u64.wrap (16 : Int) - (1 : Int)))))))))] =
 VS.mk []
 [(0, PV.row nb (BRow.bytes b) (1 : Nat)),
 ((1 : Nat), PV.int .u64 (shrZ .u64 x.1 (Go.IntKind.u64.wrap (4 : Int)))),
 (2, PV.int .i64 (16 : Int)), (3, PV.bool false),
 (4, PV.bool true), (10, PV.row true (BRow.bytes []) ((10 : Nat) + (32 : Nat))),
 (11, PV.str (ByteArray.mk #[]).data.toList),
 (12, PV.ptr ((12 : Nat) + (32 : Nat)) (0 : Nat)),
 ((13 : Nat), PV.int .i64 (x.2.1 - (1 : Int))),
 (14, PV.int .u64 (Go.IntKind.u64.wrap (4 : Int))),
 (15, PV.int .u64 (Go.IntKind.u64.wrap (16 : Int))),
 (16, PV.int .u64 (Go.IntKind.u64.wrap (Go.IntKind.u64.wrap (16 : Int) - (1 : Int)))),
 (17, PV.undef), (18, PV.undef),
 (28, PV.bool (decide ((36 : Int) < (16 : Int)))), (30, PV.bool false),
 (34, PV.bool true), ((46 : Nat), PV.undef), (68, PV.undef),
 (89, PV.undef), (94, PV.undef)]
 [((44 : Nat),
 PV.arr (65 : Nat)
 (BRow.bytes
 (setZ x.2.2 (x.2.1 - (1 : Int))
 (zByte
 (byteZ
 (ByteArray.mk
 #[48, 49, 50, 51, 52, 53, 54, 55, 56, 57, 97, 98, 99, 100, 101, 102, 103, 104, 105, 106, 107, 108, 109, 110, 111, 112, 113, 114, 115, 116, 117, 118, 119, 120, 121, 122]).data.toList
 (bitsZ Go.BinOp.and .u64 x.1
 (Go.IntKind.u64.wrap (Go.IntKind.u64.wrap (16 : Int) - (1 : Int)))))))))] ∧
 ((61 : Int) < x.2.1 - (1 : Int) ∧
 x.2.1 - (1 : Int) ≤ (65 : Int) ∧
 (0 : Int) ≤ shrZ .u64 x.1 (Go.IntKind.u64.wrap (4 : Int)) ∧
 shrZ .u64 x.1 (Go.IntKind.u64.wrap (4 : Int)) < (65536 : Int) ∧
 (setZ x.2.2 (x.2.1 - (1 : Int))
 (zByte
 (byteZ
 (ByteArray.mk
 #[48, 49, 50, 51, 52, 53, 54, 55, 56, 57, 97, 98, 99, 100, 101, 102, 103, 104, 105, 106, 107, 108, 109, 110, 111, 112, 113, 114, 115, 116, 117, 118, 119, 120, 121, 122]).data.toList
 (bitsZ Go.BinOp.and .u64 x.1
 (Go.IntKind.u64.wrap (Go.IntKind.u64.wrap (16 : Int) - (1 : Int))))))).length =
 (65 : Nat) ∧
 (x.2.1 - (1 : Int) = (62 : Int) →
 shrZ .u64 x.1 (Go.IntKind.u64.wrap (4 : Int)) < (16 : Int)) ∧
 (x.2.1 - (1 : Int) = (63 : Int) →
 shrZ .u64 x.1 (Go.IntKind.u64.wrap (4 : Int)) < (256 : Int)) ∧
 (x.2.1 - (1 : Int) = (64 : Int) →
 shrZ .u64 x.1 (Go.IntKind.u64.wrap (4 : Int)) < (4096 : Int)) ∧
 hx4
 (shrZ .u64 x.1 (Go.IntKind.u64.wrap (4 : Int))).toNat ++
 List.drop (x.2.1 - (1 : Int)).toNat
 (setZ x.2.2 (x.2.1 - (1 : Int))
 (zByte
 (byteZ
 (ByteArray.mk
 #[48, 49, 50, 51, 52, 53, 54, 55, 56, 57, 97, 98, 99, 100, 101, 102, 103, 104, 105, 106, 107, 108, 109, 110, 111, 112, 113, 114, 115, 116, 117, 118, 119, 120, 121, 122]).data.toList
 (bitsZ Go.BinOp.and .u64 x.1
 (Go.IntKind.u64.wrap (Go.IntKind.u64.wrap (16 : Int) - (1 : Int))))))) =
 hx4 u.toNat) ∧
 (shrZ .u64 x.1 (Go.IntKind.u64.wrap (4 : Int))).toNat < x.1.toNat) ∧
 (decide (Go.IntKind.u64.wrap (16 : Int) ≤ x.1) = false →
 inI64 (x.2.1 - (1 : Int)) ∧
 within x.1
 (lenZ
 (ByteArray.mk
 #[48, 49, 50, 51, 52, 53, 54, 55, 56, 57, 97, 98, 99, 100, 101, 102, 103, 104, 105, 106, 107, 108, 109, 110, 111, 112, 113, 114, 115, 116, 117, 118, 119, 120, 121, 122]).data.toList) ∧
 within (x.2.1 - (1 : Int)) ↑(65 : Nat) ∧
 (within (x.2.1 - (1 : Int)) ↑(65 : Nat) ∧
 (0 : Int) ≤
 byteZ
 (ByteArray.mk
 #[48, 49, 50, 51, 52, 53, 54, 55, 56, 57, 97, 98, 99, 100, 101, 102, 103, 104, 105, 106, 107, 108, 109, 110, 111, 112, 113, 114, 115, 116, 117, 118, 119, 120, 121, 122]).data.toList
 x.1 ∧
 byteZ
 (ByteArray.mk
 #[48, 49, 50, 51, 52, 53, 54, 55, 56, 57, 97, 98, 99, 100, 101, 102, 103, 104, 105, 106, 107, 108, 109, 110, 111, 112, 113, 114, 115, 116, 117, 118, 119, 120, 121, 122]).data.toList
 x.1 ≤
 (255 : Int)) ∧
 (false = true →
 inI64 (x.2.1 - (1 : Int) - (1 : Int)) ∧
 within (x.2.1 - (1 : Int) - (1 : Int)) ↑(65 : Nat) ∧
 (within (x.2.1 - (1 : Int) - (1 : Int)) ↑(65 : Nat) ∧ (0 : Int) ≤ (45 : Int) ∧ (45 : Int) ≤ (255 : Int)) ∧
 (true = true →
 upto (x.2.1 - (1 : Int) - (1 : Int)) ↑(65 : Nat) ↑(65 : Nat) ∧
 (x.2.1 - (1 : Int) - (1 : Int) + (↑(65 : Nat) - (x.2.1 - (1 : Int) - (1 : Int))) ≤
 Int.ofNat
 (setZ
 (setZ x.2.2 (x.2.1 - (1 : Int))
 (zByte
 (byteZ
 (ByteArray.mk
 #[48, 49, 50, 51, 52, 53, 54, 55, 56, 57, 97, 98, 99, 100, 101, 102, 103, 104, 105, 106, 107, 108, 109, 110, 111, 112, 113, 114, 115, 116, 117, 118, 119, 120, 121, 122]).data.toList
 x.1)))
 (x.2.1 - (1 : Int) - (1 : Int)) (zByte (45 : Int))).length ∧
 Int.ofNat
 (List.length
 (b ++
 cutZ
 (setZ
 (setZ x.2.2 (x.2.1 - (1 : Int))
 (zByte
 (byteZ
 (ByteArray.mk
 #[48, 49, 50, 51, 52, 53, 54, 55, 56, 57, 97, 98, 99, 100, 101, 102, 103, 104, 105, 106, 107, 108, 109, 110, 111, 112, 113, 114, 115, 116, 117, 118, 119, 120, 121, 122]).data.toList
 x.1)))
 (x.2.1 - (1 : Int) - (1 : Int)) (zByte (45 : Int)))
 (x.2.1 - (1 : Int) - (1 : Int))
 (x.2.1 - (1 : Int) - (1 : Int) + (↑(65 : Nat) - (x.2.1 - (1 : Int) - (1 : Int)))))) ≤
 maxRow) ∧
 k
 (PV.tup
 [PV.row
 (bif
 List.rec true
 (fun (head : UInt8) (tail : List UInt8) (tail_ih : (fun (x : List UInt8) ↦ Bool) tail) ↦
 false)
 (cutZ
 (setZ
 (setZ x.2.2 (x.2.1 - (1 : Int))
 (zByte
 (byteZ
 (ByteArray.mk
 #[48, 49, 50, 51, 52, 53, 54, 55, 56, 57, 97, 98, 99, 100, 101, 102, 103, 104, 105, 106, 107, 108, 109, 110, 111, 112, 113, 114, 115, 116, 117, 118, 119, 120, 121, 122]).data.toList
 x.1)))
 (x.2.1 - (1 : Int) - (1 : Int)) (zByte (45 : Int)))
 (x.2.1 - (1 : Int) - (1 : Int))
 (x.2.1 - (1 : Int) - (1 : Int) +
 (↑(65 : Nat) - (x.2.1 - (1 : Int) - (1 : Int))))) then
 nb
 else false)
 (BRow.bytes
 (b ++
 cutZ
 (setZ
 (setZ x.2.2 (x.2.1 - (1 : Int))
 (zByte
 (byteZ
 (ByteArray.mk
 #[48, 49, 50, 51, 52, 53, 54, 55, 56, 57, 97, 98, 99, 100, 101, 102, 103, 104, 105, 106, 107, 108, 109, 110, 111, 112, 113, 114, 115, 116, 117, 118, 119, 120, 121, 122]).data.toList
 x.1)))
 (x.2.1 - (1 : Int) - (1 : Int)) (zByte (45 : Int)))
 (x.2.1 - (1 : Int) - (1 : Int))
 (x.2.1 - (1 : Int) - (1 : Int) + (↑(65 : Nat) - (x.2.1 - (1 : Int) - (1 : Int))))))
 (Nat.succ (nat_lit 0)),
 PV.str (ByteArray.mk #[]).data.toList])) ∧
 (true = false → upto (x.2.1 - (1 : Int) - (1 : Int)) ↑(65 : Nat) ↑(65 : Nat) ∧ False)) ∧
 (false = false →
 (true = true →
 upto (x.2.1 - (1 : Int)) ↑(65 : Nat) ↑(65 : Nat) ∧
 (x.2.1 - (1 : Int) + (↑(65 : Nat) - (x.2.1 - (1 : Int))) ≤
 Int.ofNat
 (setZ x.2.2 (x.2.1 - (1 : Int))
 (zByte
 (byteZ
 (ByteArray.mk
 #[48, 49, 50, 51, 52, 53, 54, 55, 56, 57, 97, 98, 99, 100, 101, 102, 103, 104, 105, 106, 107, 108, 109, 110, 111, 112, 113, 114, 115, 116, 117, 118, 119, 120, 121, 122]).data.toList
 x.1))).length ∧
 Int.ofNat
 (List.length
 (b ++
 cutZ
 (setZ x.2.2 (x.2.1 - (1 : Int))
 (zByte
 (byteZ
 (ByteArray.mk
 #[48, 49, 50, 51, 52, 53, 54, 55, 56, 57, 97, 98, 99, 100, 101, 102, 103, 104, 105, 106, 107, 108, 109, 110, 111, 112, 113, 114, 115, 116, 117, 118, 119, 120, 121, 122]).data.toList
 x.1)))
 (x.2.1 - (1 : Int)) (x.2.1 - (1 : Int) + (↑(65 : Nat) - (x.2.1 - (1 : Int)))))) ≤
 maxRow) ∧
 k
 (PV.tup
 [PV.row
 (bif
 List.rec true
 (fun (head : UInt8) (tail : List UInt8) (tail_ih : (fun (x : List UInt8) ↦ Bool) tail) ↦ false)
 (cutZ
 (setZ x.2.2 (x.2.1 - (1 : Int))
 (zByte
 (byteZ
 (ByteArray.mk
 #[48, 49, 50, 51, 52, 53, 54, 55, 56, 57, 97, 98, 99, 100, 101, 102, 103, 104, 105, 106, 107, 108, 109, 110, 111, 112, 113, 114, 115, 116, 117, 118, 119, 120, 121, 122]).data.toList
 x.1)))
 (x.2.1 - (1 : Int)) (x.2.1 - (1 : Int) + (↑(65 : Nat) - (x.2.1 - (1 : Int))))) then
 nb
 else false)
 (BRow.bytes
 (b ++
 cutZ
 (setZ x.2.2 (x.2.1 - (1 : Int))
 (zByte
 (byteZ
 (ByteArray.mk
 #[48, 49, 50, 51, 52, 53, 54, 55, 56, 57, 97, 98, 99, 100, 101, 102, 103, 104, 105, 106, 107, 108, 109, 110, 111, 112, 113, 114, 115, 116, 117, 118, 119, 120, 121, 122]).data.toList
 x.1)))
 (x.2.1 - (1 : Int)) (x.2.1 - (1 : Int) + (↑(65 : Nat) - (x.2.1 - (1 : Int))))))
 (Nat.succ (nat_lit 0)),
 PV.str (ByteArray.mk #[]).data.toList])) ∧
 (true = false → upto (x.2.1 - (1 : Int)) ↑(65 : Nat) ↑(65 : Nat) ∧ False)))) ∧
 (true = false → False)) ∧
 (false = false →
 True ∧
 (true = true →
 True ∧
 VS.mk []
 [(0, PV.row nb (BRow.bytes b) (1 : Nat)), (1, PV.int .u64 u),
 (2, PV.int .i64 (16 : Int)), (3, PV.bool false), (4, PV.bool true),
 (10, PV.row true (BRow.bytes []) ((10 : Nat) + (32 : Nat))),
 (11, PV.str (ByteArray.mk #[]).data.toList), (12, PV.ptr ((12 : Nat) + (32 : Nat)) (0 : Nat)),
 (13, PV.int .i64 (65 : Int)), (14, PV.int .u64 (Go.IntKind.u64.wrap (4 : Int))),
 (15, PV.int .u64 (Go.IntKind.u64.wrap (16 : Int))),
 (16, PV.int .u64 (Go.IntKind.u64.wrap (Go.IntKind.u64.wrap (16 : Int) - (1 : Int)))),
 (17, PV.undef), (18, PV.undef), (28, PV.bool (decide ((36 : Int) < (16 : Int)))),
 (30, PV.bool false), (34, PV.bool true), ((46 : Nat), PV.undef), (68, PV.undef),
 (89, PV.undef), (94, PV.undef)]
 [((12 : Nat) + (32 : Nat), PV.arr (65 : Nat) (BRow.bytes (List.replicate (65 : Nat) (0 : UInt8))))] =
 VS.mk []
 [(0, PV.row nb (BRow.bytes b) (1 : Nat)), ((1 : Nat), PV.int .u64 u),
 (2, PV.int .i64 (16 : Int)), (3, PV.bool false), (4, PV.bool true),
 (10, PV.row true (BRow.bytes []) ((10 : Nat) + (32 : Nat))),
 (11, PV.str (ByteArray.mk #[]).data.toList), (12, PV.ptr ((12 : Nat) + (32 : Nat)) (0 : Nat)),
 ((13 : Nat), PV.int .i64 (65 : Int)), (14, PV.int .u64 (Go.IntKind.u64.wrap (4 : Int))),
 (15, PV.int .u64 (Go.IntKind.u64.wrap (16 : Int))),
 (16, PV.int .u64 (Go.IntKind.u64.wrap (Go.IntKind.u64.wrap (16 : Int) - (1 : Int)))),
 (17, PV.undef), (18, PV.undef), (28, PV.bool (decide ((36 : Int) < (16 : Int)))),
 (30, PV.bool false), (34, PV.bool true), ((46 : Nat), PV.undef), (68, PV.undef),
 (89, PV.undef), (94, PV.undef)]
 [((44 : Nat), PV.arr (65 : Nat) (BRow.bytes (List.replicate (65 : Nat) (0 : UInt8))))] ∧
 ((61 : Int) < (65 : Int) ∧
 (65 : Int) ≤ (65 : Int) ∧
 (0 : Int) ≤ u ∧
 u < (65536 : Int) ∧
 (List.replicate (65 : Nat) (0 : UInt8)).length = (65 : Nat) ∧
 ((65 : Int) = (62 : Int) → u < (16 : Int)) ∧
 ((65 : Int) = (63 : Int) → u < (256 : Int)) ∧
 ((65 : Int) = (64 : Int) → u < (4096 : Int)) ∧
 hx4 u.toNat ++ List.drop (Int.toNat (65 : Int)) (List.replicate (65 : Nat) (0 : UInt8)) =
 hx4 u.toNat) ∧
 ∀ (x : Int × Int × Bs),
 (61 : Int) < x.2.1 ∧
 x.2.1 ≤ (65 : Int) ∧
 (0 : Int) ≤ x.1 ∧
 x.1 < (65536 : Int) ∧
 List.length x.2.2 = (65 : Nat) ∧
 (x.2.1 = (62 : Int) → x.1 < (16 : Int)) ∧
 (x.2.1 = (63 : Int) → x.1 < (256 : Int)) ∧
 (x.2.1 = (64 : Int) → x.1 < (4096 : Int)) ∧
 hx4 x.1.toNat ++ List.drop x.2.1.toNat x.2.2 =
 hx4 u.toNat →
 (decide (Go.IntKind.u64.wrap (16 : Int) ≤ x.1) = true →
 inI64 (x.2.1 - (1 : Int)) ∧
 within (bitsZ Go.BinOp.and .u64 x.1 (Go.IntKind.u64.wrap (Go.IntKind.u64.wrap (16 : Int) - (1 : Int))))
 (lenZ
 (ByteArray.mk
 #[48, 49, 50, 51, 52, 53, 54, 55, 56, 57, 97, 98, 99, 100, 101, 102, 103, 104, 105, 106, 107, 108, 109, 110, 111, 112, 113, 114, 115, 116, 117, 118, 119, 120, 121, 122]).data.toList) ∧
 within (x.2.1 - (1 : Int)) ↑(65 : Nat) ∧
 (within (x.2.1 - (1 : Int)) ↑(65 : Nat) ∧
 (0 : Int) ≤
 byteZ
 (ByteArray.mk
 #[48, 49, 50, 51, 52, 53, 54, 55, 56, 57, 97, 98, 99, 100, 101, 102, 103, 104, 105, 106, 107, 108, 109, 110, 111, 112, 113, 114, 115, 116, 117, 118, 119, 120, 121, 122]).data.toList
 (bitsZ Go.BinOp.and .u64 x.1 (Go.IntKind.u64.wrap (Go.IntKind.u64.wrap (16 : Int) - (1 : Int)))) ∧
 byteZ
 (ByteArray.mk
 #[48, 49, 50, 51, 52, 53, 54, 55, 56, 57, 97, 98, 99, 100, 101, 102, 103, 104, 105, 106, 107, 108, 109, 110, 111, 112, 113, 114, 115, 116, 117, 118, 119, 120, 121, 122]).data.toList
 (bitsZ Go.BinOp.and .u64 x.1 (Go.IntKind.u64.wrap (Go.IntKind.u64.wrap (16 : Int) - (1 : Int)))) ≤
 (255 : Int)) ∧
 (0 : Int) ≤ Go.IntKind.u64.wrap (4 : Int) ∧
 VS.mk []
 [(0, PV.row nb (BRow.bytes b) (1 : Nat)),
 ((1 : Nat), PV.int .u64 (shrZ .u64 x.1 (Go.IntKind.u64.wrap (4 : Int)))),
 (2, PV.int .i64 (16 : Int)), (3, PV.bool false),
 (4, PV.bool true), (10, PV.row true (BRow.bytes []) ((10 : Nat) + (32 : Nat))),
 (11, PV.str (ByteArray.mk #[]).data.toList),
 (12, PV.ptr ((12 : Nat) + (32 : Nat)) (0 : Nat)),
 ((13 : Nat), PV.int .i64 (x.2.1 - (1 : Int))),
 (14, PV.int .u64 (Go.IntKind.u64.wrap (4 : Int))),
 (15, PV.int .u64 (Go.IntKind.u64.wrap (16 : Int))),
 (16, PV.int .u64 (Go.IntKind.u64.wrap (Go.IntKind.u64.wrap (16 : Int) - (1 : Int)))),
 (17, PV.undef), (18, PV.undef),
 (28, PV.bool (decide ((36 : Int) < (16 : Int)))), (30, PV.bool false),
 (34, PV.bool true), ((46 : Nat), PV.undef), (68, PV.undef),
 (89, PV.undef), (94, PV.undef)]
 [((12 : Nat) + (32 : Nat),
 PV.arr (65 : Nat)
 (BRow.bytes
 (setZ x.2.2 (x.2.1 - (1 : Int))
 (zByte
 (byteZ
 (ByteArray.mk
 #[48, 49, 50, 51, 52, 53, 54, 55, 56, 57, 97, 98, 99, 100, 101, 102, 103, 104, 105, 106, 107, 108, 109, 110, 111, 112, 113, 114, 115, 116, 117, 118, 119, 120, 121, 122]).data.toList
 (bitsZ Go.BinOp.and .u64 x.1
 (Go.IntKind.u64.wrap (Go.IntKind.u64.wrap (16 : Int) - (1 : Int)))))))))] =
 VS.mk []
 [(0, PV.row nb (BRow.bytes b) (1 : Nat)),
 ((1 : Nat), PV.int .u64 (shrZ .u64 x.1 (Go.IntKind.u64.wrap (4 : Int)))),
 (2, PV.int .i64 (16 : Int)), (3, PV.bool false),
 (4, PV.bool true), (10, PV.row true (BRow.bytes []) ((10 : Nat) + (32 : Nat))),
 (11, PV.str (ByteArray.mk #[]).data.toList),
 (12, PV.ptr ((12 : Nat) + (32 : Nat)) (0 : Nat)),
 ((13 : Nat), PV.int .i64 (x.2.1 - (1 : Int))),
 (14, PV.int .u64 (Go.IntKind.u64.wrap (4 : Int))),
 (15, PV.int .u64 (Go.IntKind.u64.wrap (16 : Int))),
 (16, PV.int .u64 (Go.IntKind.u64.wrap (Go.IntKind.u64.wrap (16 : Int) - (1 : Int)))),
 (17, PV.undef), (18, PV.undef),
 (28, PV.bool (decide ((36 : Int) < (16 : Int)))), (30, PV.bool false),
 (34, PV.bool true), ((46 : Nat), PV.undef), (68, PV.undef),
 (89, PV.undef), (94, PV.undef)]
 [((44 : Nat),
 PV.arr (65 : Nat)
 (BRow.bytes
 (setZ x.2.2 (x.2.1 - (1 : Int))
 (zByte
 (byteZ
 (ByteArray.mk
 #[48, 49, 50, 51, 52, 53, 54, 55, 56, 57, 97, 98, 99, 100, 101, 102, 103, 104, 105, 106, 107, 108, 109, 110, 111, 112, 113, 114, 115, 116, 117, 118, 119, 120, 121, 122]).data.toList
 (bitsZ Go.BinOp.and .u64 x.1
 (Go.IntKind.u64.wrap (Go.IntKind.u64.wrap (16 : Int) - (1 : Int)))))))))] ∧
 ((61 : Int) < x.2.1 - (1 : Int) ∧
 x.2.1 - (1 : Int) ≤ (65 : Int) ∧
 (0 : Int) ≤ shrZ .u64 x.1 (Go.IntKind.u64.wrap (4 : Int)) ∧
 shrZ .u64 x.1 (Go.IntKind.u64.wrap (4 : Int)) < (65536 : Int) ∧
 (setZ x.2.2 (x.2.1 - (1 : Int))
 (zByte
 (byteZ
 (ByteArray.mk
 #[48, 49, 50, 51, 52, 53, 54, 55, 56, 57, 97, 98, 99, 100, 101, 102, 103, 104, 105, 106, 107, 108, 109, 110, 111, 112, 113, 114, 115, 116, 117, 118, 119, 120, 121, 122]).data.toList
 (bitsZ Go.BinOp.and .u64 x.1
 (Go.IntKind.u64.wrap (Go.IntKind.u64.wrap (16 : Int) - (1 : Int))))))).length =
 (65 : Nat) ∧
 (x.2.1 - (1 : Int) = (62 : Int) →
 shrZ .u64 x.1 (Go.IntKind.u64.wrap (4 : Int)) < (16 : Int)) ∧
 (x.2.1 - (1 : Int) = (63 : Int) →
 shrZ .u64 x.1 (Go.IntKind.u64.wrap (4 : Int)) < (256 : Int)) ∧
 (x.2.1 - (1 : Int) = (64 : Int) →
 shrZ .u64 x.1 (Go.IntKind.u64.wrap (4 : Int)) < (4096 : Int)) ∧
 hx4
 (shrZ .u64 x.1 (Go.IntKind.u64.wrap (4 : Int))).toNat ++
 List.drop (x.2.1 - (1 : Int)).toNat
 (setZ x.2.2 (x.2.1 - (1 : Int))
 (zByte
 (byteZ
 (ByteArray.mk
 #[48, 49, 50, 51, 52, 53, 54, 55, 56, 57, 97, 98, 99, 100, 101, 102, 103, 104, 105, 106, 107, 108, 109, 110, 111, 112, 113, 114, 115, 116, 117, 118, 119, 120, 121, 122]).data.toList
 (bitsZ Go.BinOp.and .u64 x.1
 (Go.IntKind.u64.wrap (Go.IntKind.u64.wrap (16 : Int) - (1 : Int))))))) =
 hx4 u.toNat) ∧
 (shrZ .u64 x.1 (Go.IntKind.u64.wrap (4 : Int))).toNat < x.1.toNat) ∧
 (decide (Go.IntKind.u64.wrap (16 : Int) ≤ x.1) = false →
 inI64 (x.2.1 - (1 : Int)) ∧
 within x.1
 (lenZ
 (ByteArray.mk
 #[48, 49, 50, 51, 52, 53, 54, 55, 56, 57, 97, 98, 99, 100, 101, 102, 103, 104, 105, 106, 107, 108, 109, 110, 111, 112, 113, 114, 115, 116, 117, 118, 119, 120, 121, 122]).data.toList) ∧
 within (x.2.1 - (1 : Int)) ↑(65 : Nat) ∧
 (within (x.2.1 - (1 : Int)) ↑(65 : Nat) ∧
 (0 : Int) ≤
 byteZ
 (ByteArray.mk
 #[48, 49, 50, 51, 52, 53, 54, 55, 56, 57, 97, 98, 99, 100, 101, 102, 103, 104, 105, 106, 107, 108, 109, 110, 111, 112, 113, 114, 115, 116, 117, 118, 119, 120, 121, 122]).data.toList
 x.1 ∧
 byteZ
 (ByteArray.mk
 #[48, 49, 50, 51, 52, 53, 54, 55, 56, 57, 97, 98, 99, 100, 101, 102, 103, 104, 105, 106, 107, 108, 109, 110, 111, 112, 113, 114, 115, 116, 117, 118, 119, 120, 121, 122]).data.toList
 x.1 ≤
 (255 : Int)) ∧
 (false = true →
 inI64 (x.2.1 - (1 : Int) - (1 : Int)) ∧
 within (x.2.1 - (1 : Int) - (1 : Int)) ↑(65 : Nat) ∧
 (within (x.2.1 - (1 : Int) - (1 : Int)) ↑(65 : Nat) ∧ (0 : Int) ≤ (45 : Int) ∧ (45 : Int) ≤ (255 : Int)) ∧
 (true = true →
 upto (x.2.1 - (1 : Int) - (1 : Int)) ↑(65 : Nat) ↑(65 : Nat) ∧
 (x.2.1 - (1 : Int) - (1 : Int) + (↑(65 : Nat) - (x.2.1 - (1 : Int) - (1 : Int))) ≤
 Int.ofNat
 (setZ
 (setZ x.2.2 (x.2.1 - (1 : Int))
 (zByte
 (byteZ
 (ByteArray.mk
 #[48, 49, 50, 51, 52, 53, 54, 55, 56, 57, 97, 98, 99, 100, 101, 102, 103, 104, 105, 106, 107, 108, 109, 110, 111, 112, 113, 114, 115, 116, 117, 118, 119, 120, 121, 122]).data.toList
 x.1)))
 (x.2.1 - (1 : Int) - (1 : Int)) (zByte (45 : Int))).length ∧
 Int.ofNat
 (List.length
 (b ++
 cutZ
 (setZ
 (setZ x.2.2 (x.2.1 - (1 : Int))
 (zByte
 (byteZ
 (ByteArray.mk
 #[48, 49, 50, 51, 52, 53, 54, 55, 56, 57, 97, 98, 99, 100, 101, 102, 103, 104, 105, 106, 107, 108, 109, 110, 111, 112, 113, 114, 115, 116, 117, 118, 119, 120, 121, 122]).data.toList
 x.1)))
 (x.2.1 - (1 : Int) - (1 : Int)) (zByte (45 : Int)))
 (x.2.1 - (1 : Int) - (1 : Int))
 (x.2.1 - (1 : Int) - (1 : Int) + (↑(65 : Nat) - (x.2.1 - (1 : Int) - (1 : Int)))))) ≤
 maxRow) ∧
 k
 (PV.tup
 [PV.row
 (bif
 List.rec true
 (fun (head : UInt8) (tail : List UInt8) (tail_ih : (fun (x : List UInt8) ↦ Bool) tail) ↦
 false)
 (cutZ
 (setZ
 (setZ x.2.2 (x.2.1 - (1 : Int))
 (zByte
 (byteZ
 (ByteArray.mk
 #[48, 49, 50, 51, 52, 53, 54, 55, 56, 57, 97, 98, 99, 100, 101, 102, 103, 104, 105, 106, 107, 108, 109, 110, 111, 112, 113, 114, 115, 116, 117, 118, 119, 120, 121, 122]).data.toList
 x.1)))
 (x.2.1 - (1 : Int) - (1 : Int)) (zByte (45 : Int)))
 (x.2.1 - (1 : Int) - (1 : Int))
 (x.2.1 - (1 : Int) - (1 : Int) +
 (↑(65 : Nat) - (x.2.1 - (1 : Int) - (1 : Int))))) then
 nb
 else false)
 (BRow.bytes
 (b ++
 cutZ
 (setZ
 (setZ x.2.2 (x.2.1 - (1 : Int))
 (zByte
 (byteZ
 (ByteArray.mk
 #[48, 49, 50, 51, 52, 53, 54, 55, 56, 57, 97, 98, 99, 100, 101, 102, 103, 104, 105, 106, 107, 108, 109, 110, 111, 112, 113, 114, 115, 116, 117, 118, 119, 120, 121, 122]).data.toList
 x.1)))
 (x.2.1 - (1 : Int) - (1 : Int)) (zByte (45 : Int)))
 (x.2.1 - (1 : Int) - (1 : Int))
 (x.2.1 - (1 : Int) - (1 : Int) + (↑(65 : Nat) - (x.2.1 - (1 : Int) - (1 : Int))))))
 (Nat.succ (nat_lit 0)),
 PV.str (ByteArray.mk #[]).data.toList])) ∧
 (true = false → upto (x.2.1 - (1 : Int) - (1 : Int)) ↑(65 : Nat) ↑(65 : Nat) ∧ False)) ∧
 (false = false →
 (true = true →
 upto (x.2.1 - (1 : Int)) ↑(65 : Nat) ↑(65 : Nat) ∧
 (x.2.1 - (1 : Int) + (↑(65 : Nat) - (x.2.1 - (1 : Int))) ≤
 Int.ofNat
 (setZ x.2.2 (x.2.1 - (1 : Int))
 (zByte
 (byteZ
 (ByteArray.mk
 #[48, 49, 50, 51, 52, 53, 54, 55, 56, 57, 97, 98, 99, 100, 101, 102, 103, 104, 105, 106, 107, 108, 109, 110, 111, 112, 113, 114, 115, 116, 117, 118, 119, 120, 121, 122]).data.toList
 x.1))).length ∧
 Int.ofNat
 (List.length
 (b ++
 cutZ
 (setZ x.2.2 (x.2.1 - (1 : Int))
 (zByte
 (byteZ
 (ByteArray.mk
 #[48, 49, 50, 51, 52, 53, 54, 55, 56, 57, 97, 98, 99, 100, 101, 102, 103, 104, 105, 106, 107, 108, 109, 110, 111, 112, 113, 114, 115, 116, 117, 118, 119, 120, 121, 122]).data.toList
 x.1)))
 (x.2.1 - (1 : Int)) (x.2.1 - (1 : Int) + (↑(65 : Nat) - (x.2.1 - (1 : Int)))))) ≤
 maxRow) ∧
 k
 (PV.tup
 [PV.row
 (bif
 List.rec true
 (fun (head : UInt8) (tail : List UInt8) (tail_ih : (fun (x : List UInt8) ↦ Bool) tail) ↦ false)
 (cutZ
 (setZ x.2.2 (x.2.1 - (1 : Int))
 (zByte
 (byteZ
 (ByteArray.mk
 #[48, 49, 50, 51, 52, 53, 54, 55, 56, 57, 97, 98, 99, 100, 101, 102, 103, 104, 105, 106, 107, 108, 109, 110, 111, 112, 113, 114, 115, 116, 117, 118, 119, 120, 121, 122]).data.toList
 x.1)))
 (x.2.1 - (1 : Int)) (x.2.1 - (1 : Int) + (↑(65 : Nat) - (x.2.1 - (1 : Int))))) then
 nb
 else false)
 (BRow.bytes
 (b ++
 cutZ
 (setZ x.2.2 (x.2.1 - (1 : Int))
 (zByte
 (byteZ
 (ByteArray.mk
 #[48, 49, 50, 51, 52, 53, 54, 55, 56, 57, 97, 98, 99, 100, 101, 102, 103, 104, 105, 106, 107, 108, 109, 110, 111, 112, 113, 114, 115, 116, 117, 118, 119, 120, 121, 122]).data.toList
 x.1)))
 (x.2.1 - (1 : Int)) (x.2.1 - (1 : Int) + (↑(65 : Nat) - (x.2.1 - (1 : Int))))))
 (Nat.succ (nat_lit 0)),
 PV.str (ByteArray.mk #[]).data.toList])) ∧
 (true = false → upto (x.2.1 - (1 : Int)) ↑(65 : Nat) ↑(65 : Nat) ∧ False)))) ∧
 (true = false → False)))) := by kernel_rfl
attribute [local irreducible] Go.Vc.evF Go.Vc.evR
theorem ok_fbits (nb : Bool) (b : Bs) (u : Int) : FuncOk Tryd.prog noT 25 [.row nb (.bytes b) 1, .int .u64 u, .int .i64 16, .bool false, .bool true] ⟨0 ≤ u ∧ u < 65536 ∧ b.length ≤ 1000000, .tup [.row false (.bytes (b ++ hx4 u.toNat)) 1, .str []]⟩ := evH_ok (by kernel_rfl) X_fbits_ok (H := H_fbits nb b u) (fuel := 1000) Tryd.func25 (by kernel_rfl) fun hpre => (vc_fbits nb b u _).mpr (by
  obtain ⟨h0, h1, hb⟩ := hpre
  have w16 : IntKind.u64.wrap 16 = 16 := by decide
  have w15 : IntKind.u64.wrap (16 - 1) = 15 := by decide
  have w4 : IntKind.u64.wrap 4 = 4 := by decide
  have hmr : maxRow = 16777216 := rfl
  have hlu := hx4_len u.toNat
  simp only [w16, w15, w4]
  refine ⟨fun h => absurd h (by decide), fun _ => ⟨fun h => Bool.noConfusion h, fun _ => ⟨trivial, fun _ => ⟨trivial, by first | rfl | trivial, ⟨by omega, by omega, by omega, by omega, by first | rfl | decide, fun h => by omega, fun h => by omega, fun h => by omega, ?_⟩, fun x hx => ?_⟩, fun h => Bool.noConfusion h⟩⟩⟩
  · rw [show List.drop (Int.toNat 65) (List.replicate 65 (0 : UInt8)) = [] by decide]; simp
  obtain ⟨u1, i, a⟩ := x
  obtain ⟨g0, g1, g2, g3, g4, g5, g6, g7, g8⟩ := hx
  simp only at g0 g1 g2 g3 g4 g5 g6 g7 g8
  obtain ⟨m, rfl⟩ := Int.eq_ofNat_of_zero_le g2
  obtain ⟨j, rfl⟩ : ∃ j : Nat, i = (j : Int) + 1 := ⟨(i - 1).toNat, by omega⟩
  have e1 : (j : Int) + 1 - 1 = j := by omega
  have e2 : ((j : Int) + 1).toNat = j + 1 := by omega
  simp only [e1]
  rw [e2, Int.toNat_natCast] at g8
  have hj : j < a.length := by omega
  refine ⟨fun d => ?_, fun d => ?_⟩
  · have d1 : 16 ≤ m := by have := of_decide_eq_true d; omega
    obtain ⟨t1, t2, t3⟩ := dgs_at ⟨m % 16, by omega⟩
    simp only at t1 t2 t3
    simp only [and15q m (by omega), shr4q, t3, Int.toNat_natCast]
    refine ⟨by unfold inI64; omega, ⟨by omega, by rw [dgs_len]; omega⟩, ⟨by omega, by omega⟩, ⟨⟨by omega, by omega⟩, t1, t2⟩, by omega, by first | rfl | trivial, ⟨by omega, by omega, by omega, by omega, by unfold setZ; rw [List.length_set]; exact g4, fun h => by omega, fun h => by omega, fun h => by omega, ?_⟩, by omega⟩
    unfold setZ
    rw [Int.toNat_natCast, drop_set hj, ← g8, hx4_step d1 (by omega)]
    simp
  · have d1 : ¬ 16 ≤ m := by have := of_decide_eq_false d; omega
    obtain ⟨t1, t2, t3⟩ := dgs_at ⟨m, by omega⟩
    simp only at t1 t2 t3
    have hc : cutZ (setZ a (j : Int) (dx m)) (j : Int) ((j : Int) + (((65 : Nat) : Int) - (j : Int))) = hx4 u.toNat := by
      unfold cutZ setZ
      rw [show ((j : Int) + (((65 : Nat) : Int) - (j : Int))).toNat = 65 by omega, List.take_of_length_le (by rw [List.length_set]; omega), Int.toNat_natCast, drop_set hj, ← g8, hx4_small (by omega)]
      rfl
    simp only [t3, hc]
    refine ⟨by unfold inI64; omega, ⟨by omega, by rw [dgs_len]; omega⟩, ⟨by omega, by omega⟩, ⟨⟨by omega, by omega⟩, t1, t2⟩, fun h => Bool.noConfusion h, fun _ => ⟨fun _ => ⟨⟨by omega, by omega, by omega⟩, ⟨?_, ?_⟩, ?_⟩, fun h => Bool.noConfusion h⟩⟩
    · unfold setZ
      rw [List.length_set, Int.ofNat_eq_natCast]; omega
    · rw [List.length_append, Int.ofNat_eq_natCast]; omega
    · have hne : (List.rec (motive := fun _ => Bool) true (fun _ _ _ => false) (hx4 u.toNat) : Bool) = false := by
        cases hh : hx4 u.toNat with
        | nil => rw [hh] at hlu; simp at hlu
        | cons c l => rfl
      intro G w v hr
      rw [hne] at hr
      exact hr)
def ent_fbits : List PV → Option CallR := fun xs => match xs with
  | [.row nb (.bytes b) 1, .int .u64 u, .int .i64 16, .bool false, .bool true] => some ⟨0 ≤ u ∧ u < 65536 ∧ b.length ≤ 1000000, .tup [.row false (.bytes (b ++ hx4 u.toNat)) 1, .str []]⟩
  | _ => none
theorem ent_fbits_ok : ∀ xs c, ent_fbits xs = some c → FuncOk Tryd.prog noT 25 xs c := fun xs c h => by
  unfold ent_fbits at h
  split at h
  · injection h with h; subst h; exact ok_fbits _ _ _
  · cases h
end
section
def X_iapp : Tbl := tblX [(25, ent_fbits)]
def H_iapp (nb : Bool) (b : Bs) (u : Int) : Loops := fun i => none
theorem X_iapp_ok : XOk Tryd.prog noT X_iapp := tblX_cons ent_fbits_ok (tblX_nil)
theorem vc_iapp (nb : Bool) (b : Bs) (u : Int) (k : PV → Prop) : evR Tryd.prog X_iapp noT (H_iapp nb b u) 1000 Tryd.f17 [.row nb (.bytes b) 1, .int .u64 u, .int .i64 16] k = (
  (decide ((16 : Int) = (10 : Int)) = true → (decide (u < (100 : Int)) = true → False) ∧ (decide (u < (100 : Int)) = false → False)) ∧
 (decide ((16 : Int) = (10 : Int)) = false →
 ((0 : Int) ≤ u ∧ u < (65536 : Int) ∧ List.length b ≤ (1000000 : Nat)) ∧
 k (PV.row false (BRow.bytes (b ++ hx4 u.toNat)) (Nat.succ (nat_lit 0))))) := by kernel_rfl
attribute [local irreducible] Go.Vc.evF Go.Vc.evR
theorem ok_iapp (nb : Bool) (b : Bs) (u : Int) : FuncOk Tryd.prog noT 17 [.row nb (.bytes b) 1, .int .u64 u, .int .i64 16] ⟨0 ≤ u ∧ u < 65536 ∧ b.length ≤ 1000000, .row false (.bytes (b ++ hx4 u.toNat)) 1⟩ := evH_ok (by kernel_rfl) X_iapp_ok (H := H_iapp nb b u) (fuel := 1000) Tryd.func17 (by kernel_rfl) fun hpre => (vc_iapp nb b u _).mpr (by
  exact ⟨fun h => absurd h (by decide), fun _ => ⟨hpre, fun G w v hr => hr⟩⟩)
def ent_iapp : List PV → Option CallR := fun xs => match xs with
  | [.row nb (.bytes b) 1, .int .u64 u, .int .i64 16] => some ⟨0 ≤ u ∧ u < 65536 ∧ b.length ≤ 1000000, .row false (.bytes (b ++ hx4 u.toNat)) 1⟩
  | _ => none
theorem ent_iapp_ok : ∀ xs c, ent_iapp xs = some c → FuncOk Tryd.prog noT 17 xs c := fun xs c h => by
  unfold ent_iapp at h
  split at h
  · injection h with h; subst h; exact ok_iapp _ _ _
  · cases h
end
section
def X_sapp : Tbl := tblX [(17, ent_iapp)]
def H_sapp (nb : Bool) (b : Bs) (u : Int) : Loops := fun i => none
theorem X_sapp_ok : XOk Tryd.prog noT X_sapp := tblX_cons ent_iapp_ok (tblX_nil)
theorem vc_sapp (nb : Bool) (b : Bs) (u : Int) (k : PV → Prop) : evR Tryd.prog X_sapp noT (H_sapp nb b u) 1000 Tryd.f9 [.row nb (.bytes b) 1, .int .u64 u, .int .i64 16] k = (
  ((0 : Int) ≤ u ∧ u < (65536 : Int) ∧ List.length b ≤ (1000000 : Nat)) ∧
 k (PV.row false (BRow.bytes (b ++ hx4 u.toNat)) (Nat.succ (nat_lit 0)))) := by kernel_rfl
attribute [local irreducible] Go.Vc.evF Go.Vc.evR
theorem ok_sapp (nb : Bool) (b : Bs) (u : Int) : FuncOk Tryd.prog noT 9 [.row nb (.bytes b) 1, .int .u64 u, .int .i64 16] ⟨0 ≤ u ∧ u < 65536 ∧ b.length ≤ 1000000, .row false (.bytes (b ++ hx4 u.toNat)) 1⟩ := evH_ok (by kernel_rfl) X_sapp_ok (H := H_sapp nb b u) (fuel := 1000) Tryd.func9 (by kernel_rfl) fun hpre => (vc_sapp nb b u _).mpr (by
  exact ⟨hpre, fun G w v hr => hr⟩)
def ent_sapp : List PV → Option CallR := fun xs => match xs with
  | [.row nb (.bytes b) 1, .int .u64 u, .int .i64 16] => some ⟨0 ≤ u ∧ u < 65536 ∧ b.length ≤ 1000000, .row false (.bytes (b ++ hx4 u.toNat)) 1⟩
  | _ => none
theorem ent_sapp_ok : ∀ xs c, ent_sapp xs = some c → FuncOk Tryd.prog noT 9 xs c := fun xs c h => by
  unfold ent_sapp at h
  split at h
  · injection h with h; subst h; exact ok_sapp _ _ _
  · cases h
end
section
def lenB (l : Bs) : Int := l.length
def shI (p : List Int) (i : Int) (o : Bs) : Prop := ∃ n : Nat, 9 ≤ n + i ∧ shwF p (nought p).1 (nought p).2 n i o = shw p
def X_show6 : Tbl := tblX [(8, ent_noughts), (9, ent_sapp)]
def H_show6 (p : List Int) : Loops := fun i => bif Nat.beq i 4 then some ⟨(Bool × Bs) × (Int), (fun s x => (((((s.row s 5 x.1.1 (.bytes x.1.2)).put 6 (.int .i64 x.2)).put 13 .undef).put 18 .undef).put 29 .undef)), (fun s => ((s.nil 5, s.bytes 5), s.int 6)), (fun s x => let o := x.1; let i := x.2; 0 ≤ i ∧ i ≤ 8 ∧ lenB o.2 ≤ 5 * i ∧ shI p i o.2), (fun s x => let o := x.1; let i := x.2; (8 - i).toNat), [13, 18, 29]⟩ else none
theorem X_show6_ok : XOk Tryd.prog noT X_show6 := tblX_cons ent_noughts_ok (tblX_cons ent_sapp_ok (tblX_nil))
theorem vc_show6 (p : List Int) (k : PV → Prop) : evF Tryd.prog X_show6 noT (H_show6 p) 1000 Tryd.f4 [.arr 8 (.ints .u16 p)] k = (
  (p.length = (8 : Nat) ∧ ∀ (i : Nat), (0 : Int) ≤ p.getD i (0 : Int) ∧ p.getD i (0 : Int) < (65536 : Int)) ∧
 VS.mk []
 [(0, PV.arr (8 : Nat) (BRow.ints .u16 p)), (1, PV.ptr ((1 : Nat) + (32 : Nat)) (0 : Nat)),
 (2, PV.str (ByteArray.mk #[]).data.toList), (3, PV.int .i64 (nought p).1),
 (4, PV.int .i64 (nought p).2),
 (5, PV.row true (BRow.bytes []) ((5 : Nat) + (32 : Nat))), (6, PV.int .i64 (0 : Int)),
 ((13 : Nat), PV.undef), ((18 : Nat), PV.undef), ((29 : Nat), PV.undef)]
 [((1 : Nat) + (32 : Nat), PV.arr (8 : Nat) (BRow.ints .u16 p))] =
 VS.mk []
 [(0, PV.arr (8 : Nat) (BRow.ints .u16 p)), (1, PV.ptr ((1 : Nat) + (32 : Nat)) (0 : Nat)),
 (2, PV.str (ByteArray.mk #[]).data.toList), (3, PV.int .i64 (nought p).1),
 (4, PV.int .i64 (nought p).2),
 ((5 : Nat), PV.row true (BRow.bytes []) ((5 : Nat) + (32 : Nat))), ((6 : Nat), PV.int .i64 (0 : Int)),
 ((13 : Nat), PV.undef), ((18 : Nat), PV.undef), ((29 : Nat), PV.undef)]
 [((1 : Nat) + (32 : Nat), PV.arr (8 : Nat) (BRow.ints .u16 p))] ∧
 ((0 : Int) ≤ (0 : Int) ∧
 (0 : Int) ≤ (8 : Int) ∧ lenB [] ≤ (5 : Int) * (0 : Int) ∧ shI p (0 : Int) []) ∧
 ∀ (x : (Bool × Bs) × Int),
 (0 : Int) ≤ x.2 ∧
 x.2 ≤ (8 : Int) ∧ lenB x.1.2 ≤ (5 : Int) * x.2 ∧ shI p x.2 x.1.2 →
 (decide (x.2 < (8 : Int)) = true →
 (decide (x.2 = (nought p).1) = true →
 Int.ofNat (List.length (x.1.2 ++ (ByteArray.mk #[58, 58]).data.toList)) ≤ maxRow ∧
 inI64 ((nought p).2 - (1 : Int)) ∧
 inI64 ((nought p).2 - (1 : Int) + (1 : Int)) ∧
 VS.mk []
 [(0, PV.arr (8 : Nat) (BRow.ints .u16 p)),
 (1, PV.ptr ((1 : Nat) + (32 : Nat)) (0 : Nat)), (2, PV.str (ByteArray.mk #[]).data.toList),
 (3, PV.int .i64 (nought p).1),
 (4, PV.int .i64 (nought p).2),
 ((5 : Nat),
 PV.row false (BRow.bytes (x.1.2 ++ (ByteArray.mk #[58, 58]).data.toList))
 (nat_lit 36 + (1 : Nat))),
 ((6 : Nat), PV.int .i64 ((nought p).2 - (1 : Int) + (1 : Int))),
 ((13 : Nat), PV.undef), ((18 : Nat), PV.undef), ((29 : Nat), PV.undef)]
 [((1 : Nat) + (32 : Nat), PV.arr (8 : Nat) (BRow.ints .u16 p))] =
 VS.mk []
 [(0, PV.arr (8 : Nat) (BRow.ints .u16 p)),
 (1, PV.ptr ((1 : Nat) + (32 : Nat)) (0 : Nat)), (2, PV.str (ByteArray.mk #[]).data.toList),
 (3, PV.int .i64 (nought p).1),
 (4, PV.int .i64 (nought p).2),
 ((5 : Nat),
 PV.row false (BRow.bytes (x.1.2 ++ (ByteArray.mk #[58, 58]).data.toList))
 ((5 : Nat) + (32 : Nat))),
 ((6 : Nat), PV.int .i64 ((nought p).2 - (1 : Int) + (1 : Int))),
 ((13 : Nat), PV.undef), ((18 : Nat), PV.undef), ((29 : Nat), PV.undef)]
 [((1 : Nat) + (32 : Nat), PV.arr (8 : Nat) (BRow.ints .u16 p))] ∧
 ((0 : Int) ≤ (nought p).2 - (1 : Int) + (1 : Int) ∧
 (nought p).2 - (1 : Int) + (1 : Int) ≤ (8 : Int) ∧
 lenB (x.1.2 ++ (ByteArray.mk #[58, 58]).data.toList) ≤
 (5 : Int) * ((nought p).2 - (1 : Int) + (1 : Int)) ∧
 shI p ((nought p).2 - (1 : Int) + (1 : Int))
 (x.1.2 ++ (ByteArray.mk #[58, 58]).data.toList)) ∧
 ((8 : Int) - ((nought p).2 - (1 : Int) + (1 : Int))).toNat < ((8 : Int) - x.2).toNat) ∧
 (decide (x.2 = (nought p).1) = false →
 ((bif decide ((0 : Int) < x.2) then !decide (x.2 = (nought p).2) else false) = true →
 allU8 [PV.int .u8 (58 : Int)] ∧
 Int.ofNat (List.length (x.1.2 ++ [zByte (58 : Int)])) ≤ maxRow ∧
 within x.2 ↑(8 : Nat) ∧
 within x.2 ↑(8 : Nat) ∧
 ((0 : Int) ≤ Go.IntKind.u64.wrap (intZ p x.2) ∧
 Go.IntKind.u64.wrap (intZ p x.2) < (65536 : Int) ∧
 List.length (x.1.2 ++ [zByte (58 : Int)]) ≤ (1000000 : Nat)) ∧
 inI64 (x.2 + (1 : Int)) ∧
 VS.mk []
 [(0, PV.arr (8 : Nat) (BRow.ints .u16 p)),
 (1, PV.ptr ((1 : Nat) + (32 : Nat)) (0 : Nat)),
 (2, PV.str (ByteArray.mk #[]).data.toList),
 (3, PV.int .i64 (nought p).1),
 (4, PV.int .i64 (nought p).2),
 ((5 : Nat),
 PV.row false
 (BRow.bytes
 (x.1.2 ++ [zByte (58 : Int)] ++
 hx4 (Go.IntKind.u64.wrap (intZ p x.2)).toNat))
 (nat_lit 36 + (1 : Nat))),
 ((6 : Nat), PV.int .i64 (x.2 + (1 : Int))), ((13 : Nat), PV.undef),
 ((18 : Nat), PV.undef), ((29 : Nat), PV.undef)]
 [((1 : Nat) + (32 : Nat), PV.arr (8 : Nat) (BRow.ints .u16 p))] =
 VS.mk []
 [(0, PV.arr (8 : Nat) (BRow.ints .u16 p)),
 (1, PV.ptr ((1 : Nat) + (32 : Nat)) (0 : Nat)),
 (2, PV.str (ByteArray.mk #[]).data.toList),
 (3, PV.int .i64 (nought p).1),
 (4, PV.int .i64 (nought p).2),
 ((5 : Nat),
 PV.row false
 (BRow.bytes
 (x.1.2 ++ [zByte (58 : Int)] ++
 hx4 (Go.IntKind.u64.wrap (intZ p x.2)).toNat))
 ((5 : Nat) + (32 : Nat))),
 ((6 : Nat), PV.int .i64 (x.2 + (1 : Int))), ((13 : Nat), PV.undef),
 ((18 : Nat), PV.undef), ((29 : Nat), PV.undef)]
 [((1 : Nat) + (32 : Nat), PV.arr (8 : Nat) (BRow.ints .u16 p))] ∧
 ((0 : Int) ≤ x.2 + (1 : Int) ∧
 x.2 + (1 : Int) ≤ (8 : Int) ∧
 lenB
 (x.1.2 ++ [zByte (58 : Int)] ++
 hx4 (Go.IntKind.u64.wrap (intZ p x.2)).toNat) ≤
 (5 : Int) * (x.2 + (1 : Int)) ∧
 shI p (x.2 + (1 : Int))
 (x.1.2 ++ [zByte (58 : Int)] ++
 hx4 (Go.IntKind.u64.wrap (intZ p x.2)).toNat)) ∧
 ((8 : Int) - (x.2 + (1 : Int))).toNat < ((8 : Int) - x.2).toNat) ∧
 ((bif decide ((0 : Int) < x.2) then !decide (x.2 = (nought p).2) else false) = false →
 within x.2 ↑(8 : Nat) ∧
 within x.2 ↑(8 : Nat) ∧
 ((0 : Int) ≤ Go.IntKind.u64.wrap (intZ p x.2) ∧
 Go.IntKind.u64.wrap (intZ p x.2) < (65536 : Int) ∧ List.length x.1.2 ≤ (1000000 : Nat)) ∧
 inI64 (x.2 + (1 : Int)) ∧
 VS.mk []
 [(0, PV.arr (8 : Nat) (BRow.ints .u16 p)),
 (1, PV.ptr ((1 : Nat) + (32 : Nat)) (0 : Nat)), (2, PV.str (ByteArray.mk #[]).data.toList),
 (3, PV.int .i64 (nought p).1),
 (4, PV.int .i64 (nought p).2),
 ((5 : Nat),
 PV.row false
 (BRow.bytes (x.1.2 ++ hx4 (Go.IntKind.u64.wrap (intZ p x.2)).toNat))
 (nat_lit 36 + (1 : Nat))),
 ((6 : Nat), PV.int .i64 (x.2 + (1 : Int))), ((13 : Nat), PV.undef), ((18 : Nat), PV.undef),
 ((29 : Nat), PV.undef)]
 [((1 : Nat) + (32 : Nat), PV.arr (8 : Nat) (BRow.ints .u16 p))] =
 VS.mk []
 [(0, PV.arr (8 : Nat) (BRow.ints .u16 p)),
 (1, PV.ptr ((1 : Nat) + (32 : Nat)) (0 : Nat)), (2, PV.str (ByteArray.mk #[]).data.toList),
 (3, PV.int .i64 (nought p).1),
 (4, PV.int .i64 (nought p).2),
 ((5 : Nat),
 PV.row false
 (BRow.bytes (x.1.2 ++ hx4 (Go.IntKind.u64.wrap (intZ p x.2)).toNat))
 ((5 : Nat) + (32 : Nat))),
 ((6 : Nat), PV.int .i64 (x.2 + (1 : Int))), ((13 : Nat), PV.undef), ((18 : Nat), PV.undef),
 ((29 : Nat), PV.undef)]
 [((1 : Nat) + (32 : Nat), PV.arr (8 : Nat) (BRow.ints .u16 p))] ∧
 ((0 : Int) ≤ x.2 + (1 : Int) ∧
 x.2 + (1 : Int) ≤ (8 : Int) ∧
 lenB
 (x.1.2 ++ hx4 (Go.IntKind.u64.wrap (intZ p x.2)).toNat) ≤
 (5 : Int) * (x.2 + (1 : Int)) ∧
 shI p (x.2 + (1 : Int))
 (x.1.2 ++ hx4 (Go.IntKind.u64.wrap (intZ p x.2)).toNat)) ∧
 ((8 : Int) - (x.2 + (1 : Int))).toNat < ((8 : Int) - x.2).toNat))) ∧
 (decide (x.2 < (8 : Int)) = false → k (PV.str x.1.2))) := by kernel_rfl
attribute [local irreducible] Go.Vc.evF
theorem ok_show6 (p : List Int) : FuncOk Tryd.prog noT 4 [.arr 8 (.ints .u16 p)] ⟨IsP p, .str (shw p)⟩ := evF_ok (by kernel_rfl) X_show6_ok (H := H_show6 p) (fuel := 1000) Tryd.func4 (by kernel_rfl) fun hpre => (vc_show6 p _).mpr (by
  have hp := hpre
  have hmr : maxRow = 16777216 := rfl
  have hg := gap_is p hp.1
  have z58 : zByte 58 = (58 : UInt8) := by decide
  have hlb : ∀ l : Bs, lenB l = (l.length : Int) := fun _ => rfl
  refine ⟨hp, by first | rfl | trivial, ⟨by omega, by omega, by rw [hlb]; simp, ⟨9, by omega, rfl⟩⟩, fun x hx => ?_⟩
  obtain ⟨⟨nl, o⟩, i⟩ := x
  obtain ⟨h0, h1, h2, h3⟩ := hx
  simp only at h0 h1 h2 h3
  obtain ⟨n, hn, hs⟩ := h3
  rw [hlb] at h2
  refine ⟨fun d => ?_, fun d => ?_⟩
  · have d1 : i < 8 := of_decide_eq_true d
    have hbd := hp.2 i.toNat
    have hw : IntKind.u64.wrap (intZ p i) = p.getD i.toNat 0 := by
      show (p.getD i.toNat 0) % 18446744073709551616 = _; omega
    have hl4 := hx4_len (p.getD i.toNat 0).toNat
    obtain ⟨n, rfl⟩ : ∃ k, n = k + 1 := ⟨n - 1, by omega⟩
    rw [shwF, if_pos d1] at hs
    simp only [hw, z58]
    refine ⟨fun e => ?_, fun e => ?_⟩
    · have e1 : i = (nought p).1 := of_decide_eq_true e
      rw [if_pos e1] at hs
      have hen : (nought p).2 - 1 + 1 = (nought p).2 := by omega
      have hlen : (o ++ (ByteArray.mk #[58, 58]).data.toList).length = o.length + 2 := by rw [List.length_append]; rfl
      simp only [hen, hlb, hlen, Int.ofNat_eq_natCast]
      exact ⟨by omega, by unfold inI64; omega, by unfold inI64; omega, by first | rfl | trivial, ⟨by omega, by omega, by omega, ⟨n, by omega, hs⟩⟩, by omega⟩
    · have e1 : ¬ i = (nought p).1 := of_decide_eq_false e
      rw [if_neg e1] at hs
      refine ⟨fun f => ?_, fun f => ?_⟩
      · have f1 : 0 < i ∧ i ≠ (nought p).2 := by
          by_cases c1 : 0 < i <;> by_cases c2 : i = (nought p).2 <;> simp [c1, c2] at f ⊢
        rw [if_pos f1] at hs
        simp only [hlb, List.length_append, List.length_cons, List.length_nil, Int.ofNat_eq_natCast]
        exact ⟨⟨by show (0 : Int) ≤ 58; omega, by show (58 : Int) ≤ 255; omega⟩, by omega, ⟨by omega, by omega⟩, ⟨by omega, by omega⟩, ⟨hbd.1, hbd.2, by omega⟩, by unfold inI64; omega, by first | rfl | trivial, ⟨by omega, by omega, by omega, ⟨n, by omega, hs⟩⟩, by omega⟩
      · have f1 : ¬ (0 < i ∧ i ≠ (nought p).2) := by
          rintro ⟨c1, c2⟩
          simp [c1, c2] at f
        rw [if_neg f1] at hs
        simp only [hlb, List.length_append, List.length_cons, List.length_nil, Int.ofNat_eq_natCast]
        exact ⟨⟨by omega, by omega⟩, ⟨by omega, by omega⟩, ⟨hbd.1, hbd.2, by omega⟩, by unfold inI64; omega, by first | rfl | trivial, ⟨by omega, by omega, by omega, ⟨n, by omega, hs⟩⟩, by omega⟩
  · have d1 : ¬ i < 8 := of_decide_eq_false d
    show PV.str _ = PV.str _
    rw [← hs]
    cases n with
    | zero => rfl
    | succ n => rw [shwF, if_neg d1])
def ent_show6 : List PV → Option CallR := fun xs => match xs with
  | [.arr 8 (.ints .u16 p)] => some ⟨IsP p, .str (shw p)⟩
  | _ => none
theorem ent_show6_ok : ∀ xs c, ent_show6 xs = some c → FuncOk Tryd.prog noT 4 xs c := fun xs c h => by
  unfold ent_show6 at h
  split at h
  · injection h with h; subst h; exact ok_show6 _
  · cases h
end
section
theorem pre_len {l : Bs} (h : Lib.hasPrefix l [58, 58] = true) : 2 ≤ l.length := by
  match l, h with
  | [], h => cases h
  | [a], h => unfold Lib.hasPrefix at h; simp [List.isPrefixOf] at h
  | _ :: _ :: _, _ => simp
def X_parse : Tbl := tblX [(11, ent_behind), (12, ent_number), (13, ent_dotted), (14, ent_spread), (10, ent_prefix)]
def H_parse (l : Bs) : Loops := fun i => bif Nat.beq i 1000000 then some ⟨(Int) × (Int) × (Int) × (List Int), (fun s x => VS.mk [] [(0, .str l), (2, .ptr 34 0), (3, .bool false), (4, .ptr 36 0), (5, .int .u32 0), (6, .bool false), (7, .int .i64 x.1), (8, .int .i64 x.2.1), (9, .int .i64 x.2.2.1), (10, .undef), (13, .undef), (17, .undef), (30, .undef), (43, .undef), (56, .undef), (67, .undef), (73, .undef), (75, .undef), (82, .undef), (95, .undef), (113, .undef), (120, .undef)] [(36, .arr 8 (.ints .u16 x.2.2.2)), (34, .arr 8 (.ints .u16 (List.replicate 8 0)))]), (fun s => (s.int 7, s.int 8, s.int 9, VS.ints (VS.mk [] s.lh []) 36)), (fun s x => let c := x.1; let g := x.2.1; let a := x.2.2.1; let p := x.2.2.2; ∃ acc : List Int, c = acc.length ∧ acc.length ≤ 8 ∧ p = pad acc ∧ -1 ≤ g ∧ g ≤ c ∧ 0 ≤ a ∧ a ≤ l.length ∧ six1 l (9 - acc.length) acc g a.toNat = six l), (fun s x => let c := x.1; let g := x.2.1; let a := x.2.2.1; let p := x.2.2.2; (9 - c).toNat), [10, 13, 17, 30, 43, 56, 67, 73, 75, 82]⟩ else none
theorem X_parse_ok : XOk Tryd.prog noT X_parse := tblX_cons ent_behind_ok (tblX_cons ent_number_ok (tblX_cons ent_dotted_ok (tblX_cons ent_spread_ok (tblX_cons ent_prefix_ok (tblX_nil)))))
theorem vc_parse (l : Bs) (k : PV → Prop) : evF Tryd.prog X_parse noT (H_parse l) 1000 Tryd.f5 [.str l] k = (
  True ∧
 ((!preB l (ByteArray.mk #[58, 58]).data.toList) = true →
 VS.mk []
 [(0, PV.str l), (2, PV.ptr ((2 : Nat) + (32 : Nat)) (0 : Nat)), (3, PV.bool false),
 (4, PV.ptr ((4 : Nat) + (32 : Nat)) (0 : Nat)), (5, PV.int .u32 (0 : Int)),
 (6, PV.bool false), (7, PV.int .i64 (0 : Int)), (8, PV.int .i64 (-1 : Int)),
 (9, PV.int .i64 (0 : Int)), ((10 : Nat), PV.undef), ((13 : Nat), PV.undef), ((17 : Nat), PV.undef),
 ((30 : Nat), PV.undef), ((43 : Nat), PV.undef), ((56 : Nat), PV.undef), ((67 : Nat), PV.undef),
 ((73 : Nat), PV.undef), ((75 : Nat), PV.undef), ((82 : Nat), PV.undef), (95, PV.undef),
 (113, PV.undef), (120, PV.undef)]
 [((4 : Nat) + (32 : Nat), PV.arr (8 : Nat) (BRow.ints .u16 (List.replicate (8 : Nat) (0 : Int)))),
 ((2 : Nat) + (32 : Nat), PV.arr (8 : Nat) (BRow.ints .u16 (List.replicate (8 : Nat) (0 : Int))))] =
 VS.mk []
 [((0 : Nat), PV.str l), ((2 : Nat), PV.ptr (34 : Nat) (0 : Nat)), ((3 : Nat), PV.bool false),
 ((4 : Nat), PV.ptr (36 : Nat) (0 : Nat)), ((5 : Nat), PV.int .u32 (0 : Int)), ((6 : Nat), PV.bool false),
 ((7 : Nat), PV.int .i64 (0 : Int)), ((8 : Nat), PV.int .i64 (-1 : Int)),
 ((9 : Nat), PV.int .i64 (0 : Int)), ((10 : Nat), PV.undef), ((13 : Nat), PV.undef), ((17 : Nat), PV.undef),
 ((30 : Nat), PV.undef), ((43 : Nat), PV.undef), ((56 : Nat), PV.undef), ((67 : Nat), PV.undef),
 ((73 : Nat), PV.undef), ((75 : Nat), PV.undef), ((82 : Nat), PV.undef), ((95 : Nat), PV.undef),
 ((113 : Nat), PV.undef), ((120 : Nat), PV.undef)]
 [((36 : Nat), PV.arr (8 : Nat) (BRow.ints .u16 (List.replicate (8 : Nat) (0 : Int)))),
 ((34 : Nat), PV.arr (8 : Nat) (BRow.ints .u16 (List.replicate (8 : Nat) (0 : Int))))] ∧
 (∃ (acc : List Int),
 (0 : Int) = ↑acc.length ∧
 acc.length ≤ (8 : Nat) ∧
 List.replicate (8 : Nat) (0 : Int) = pad acc ∧
 (-1 : Int) ≤ (-1 : Int) ∧
 (-1 : Int) ≤ (0 : Int) ∧
 (0 : Int) ≤ (0 : Int) ∧
 (0 : Int) ≤ ↑(List.length l) ∧
 six1 l ((9 : Nat) - acc.length) acc (-1 : Int) (Int.toNat (0 : Int)) =
 six l) ∧
 ∀ (x : Int × Int × Int × List Int),
 (∃ (acc : List Int),
 x.1 = ↑acc.length ∧
 acc.length ≤ (8 : Nat) ∧
 x.2.2.2 = pad acc ∧
 (-1 : Int) ≤ x.2.1 ∧
 x.2.1 ≤ x.1 ∧
 (0 : Int) ≤ x.2.2.1 ∧
 x.2.2.1 ≤ ↑(List.length l) ∧
 six1 l ((9 : Nat) - acc.length) acc x.2.1 x.2.2.1.toNat =
 six l) →
 ((0 : Int) ≤ x.2.2.1 ∧ x.2.2.1 ≤ ↑(List.length l) ∧ List.length l ≤ (1000000 : Nat)) ∧
 (decide (x.2.2.1 + ↑(hexLen (List.drop x.2.2.1.toNat l)) < lenZ l) = true →
 within (x.2.2.1 + ↑(hexLen (List.drop x.2.2.1.toNat l))) (lenZ l)) ∧
 ((bif decide (x.2.2.1 + ↑(hexLen (List.drop x.2.2.1.toNat l)) < lenZ l) then
 decide (byteZ l (x.2.2.1 + ↑(hexLen (List.drop x.2.2.1.toNat l))) = (46 : Int))
 else false) =
 true →
 upto x.2.2.1 (lenZ l) (lenZ l) ∧
 (dropZ l x.2.2.1).length.le (1000000 : Nat) ∧
 ((bif !dotO (dropZ l x.2.2.1) then true else decide ((6 : Int) < x.1)) = true →
 k
 (PV.tup
 [PV.arr (8 : Nat) (BRow.ints .u16 (List.replicate (8 : Nat) (0 : Int))), PV.bool false])) ∧
 ((bif !dotO (dropZ l x.2.2.1) then true else decide ((6 : Int) < x.1)) = false →
 inI64 (x.1 + (1 : Int)) ∧
 (0 : Int) ≤ (16 : Int) ∧
 within x.1 ↑(8 : Nat) ∧
 (within x.1 ↑(8 : Nat) ∧ True) ∧
 within (x.1 + (1 : Int)) ↑(8 : Nat) ∧
 (within (x.1 + (1 : Int)) ↑(8 : Nat) ∧ True) ∧
 inI64 (x.1 + (2 : Int)) ∧
 ((bif decide (x.2.1 < (0 : Int)) then decide (x.1 + (2 : Int) = (8 : Int)) else false) = true →
 k
 (PV.tup
 [PV.arr (8 : Nat)
 (BRow.ints .u16
 (setZ
 (setZ x.2.2.2 x.1
 (Go.IntKind.u16.wrap
 (shrZ .u32 (dotV (dropZ l x.2.2.1))
 (16 : Int))))
 (x.1 + (1 : Int))
 (Go.IntKind.u16.wrap (dotV (dropZ l x.2.2.1))))),
 PV.bool true])) ∧
 ((bif decide (x.2.1 < (0 : Int)) then decide (x.1 + (2 : Int) = (8 : Int)) else false) = false →
 ((bif decide ((0 : Int) ≤ x.2.1) then decide (x.1 + (2 : Int) < (8 : Int)) else false) = true →
 ((setZ
 (setZ x.2.2.2 x.1
 (Go.IntKind.u16.wrap
 (shrZ .u32 (dotV (dropZ l x.2.2.1))
 (16 : Int))))
 (x.1 + (1 : Int))
 (Go.IntKind.u16.wrap
 (dotV (dropZ l x.2.2.1)))).length =
 (8 : Nat) ∧
 (0 : Int) ≤ x.2.1 ∧ x.2.1 ≤ x.1 + (2 : Int) ∧ x.1 + (2 : Int) ≤ (7 : Int)) ∧
 k
 (PV.tup
 [PV.arr (8 : Nat)
 (BRow.ints .u16
 (spreadM
 (setZ
 (setZ x.2.2.2 x.1
 (Go.IntKind.u16.wrap
 (shrZ .u32
 (dotV (dropZ l x.2.2.1)) (16 : Int))))
 (x.1 + (1 : Int))
 (Go.IntKind.u16.wrap (dotV (dropZ l x.2.2.1))))
 (x.1 + (2 : Int)).toNat x.2.1.toNat)),
 PV.bool true])) ∧
 ((bif decide ((0 : Int) ≤ x.2.1) then decide (x.1 + (2 : Int) < (8 : Int)) else false) = false →
 k
 (PV.tup
 [PV.arr (8 : Nat) (BRow.ints .u16 (List.replicate (8 : Nat) (0 : Int))),
 PV.bool false]))))) ∧
 ((bif decide (x.2.2.1 + ↑(hexLen (List.drop x.2.2.1.toNat l)) < lenZ l) then
 decide (byteZ l (x.2.2.1 + ↑(hexLen (List.drop x.2.2.1.toNat l))) = (46 : Int))
 else false) =
 false →
 ((bif decide (x.1 = (8 : Int)) then true
 else decide (x.2.2.1 + ↑(hexLen (List.drop x.2.2.1.toNat l)) = x.2.2.1)) =
 false →
 inI64 (x.2.2.1 + (4 : Int))) ∧
 ((bif
 bif decide (x.1 = (8 : Int)) then true
 else decide (x.2.2.1 + ↑(hexLen (List.drop x.2.2.1.toNat l)) = x.2.2.1) then
 true
 else
 decide
 (x.2.2.1 + (4 : Int) < x.2.2.1 + ↑(hexLen (List.drop x.2.2.1.toNat l)))) =
 true →
 k
 (PV.tup
 [PV.arr (8 : Nat) (BRow.ints .u16 (List.replicate (8 : Nat) (0 : Int))), PV.bool false])) ∧
 ((bif
 bif decide (x.1 = (8 : Int)) then true
 else decide (x.2.2.1 + ↑(hexLen (List.drop x.2.2.1.toNat l)) = x.2.2.1) then
 true
 else
 decide
 (x.2.2.1 + (4 : Int) < x.2.2.1 + ↑(hexLen (List.drop x.2.2.1.toNat l)))) =
 false →
 upto x.2.2.1 (x.2.2.1 + ↑(hexLen (List.drop x.2.2.1.toNat l)))
 (lenZ l) ∧
 ((cutZ l x.2.2.1
 (x.2.2.1 + ↑(hexLen (List.drop x.2.2.1.toNat l)))).length ≤
 (4 : Nat) ∧
 ∀ (i : Nat),
 i <
 (cutZ l x.2.2.1
 (x.2.2.1 + ↑(hexLen (List.drop x.2.2.1.toNat l)))).length →
 (0 : Int) ≤
 hexN
 (byt
 (cutZ l x.2.2.1
 (x.2.2.1 + ↑(hexLen (List.drop x.2.2.1.toNat l))))
 i)) ∧
 within x.1 ↑(8 : Nat) ∧
 (within x.1 ↑(8 : Nat) ∧ True) ∧
 inI64 (x.1 + (1 : Int)) ∧
 (decide (x.2.2.1 + ↑(hexLen (List.drop x.2.2.1.toNat l)) = lenZ l) =
 true →
 ((bif decide (x.2.1 < (0 : Int)) then decide (x.1 + (1 : Int) = (8 : Int)) else false) = true →
 k
 (PV.tup
 [PV.arr (8 : Nat)
 (BRow.ints .u16
 (setZ x.2.2.2 x.1
 (hexW
 (cutZ l x.2.2.1
 (x.2.2.1 + ↑(hexLen (List.drop x.2.2.1.toNat l))))))),
 PV.bool true])) ∧
 ((bif decide (x.2.1 < (0 : Int)) then decide (x.1 + (1 : Int) = (8 : Int)) else false) = false →
 ((bif decide ((0 : Int) ≤ x.2.1) then decide (x.1 + (1 : Int) < (8 : Int)) else false) = true →
 ((setZ x.2.2.2 x.1
 (hexW
 (cutZ l x.2.2.1
 (x.2.2.1 +
 ↑(hexLen (List.drop x.2.2.1.toNat l)))))).length =
 (8 : Nat) ∧
 (0 : Int) ≤ x.2.1 ∧ x.2.1 ≤ x.1 + (1 : Int) ∧ x.1 + (1 : Int) ≤ (7 : Int)) ∧
 k
 (PV.tup
 [PV.arr (8 : Nat)
 (BRow.ints .u16
 (spreadM
 (setZ x.2.2.2 x.1
 (hexW
 (cutZ l x.2.2.1
 (x.2.2.1 +
 ↑(hexLen (List.drop x.2.2.1.toNat l))))))
 (x.1 + (1 : Int)).toNat x.2.1.toNat)),
 PV.bool true])) ∧
 ((bif decide ((0 : Int) ≤ x.2.1) then decide (x.1 + (1 : Int) < (8 : Int)) else false) = false →
 k
 (PV.tup
 [PV.arr (8 : Nat) (BRow.ints .u16 (List.replicate (8 : Nat) (0 : Int))),
 PV.bool false])))) ∧
 (decide (x.2.2.1 + ↑(hexLen (List.drop x.2.2.1.toNat l)) = lenZ l) =
 false →
 within (x.2.2.1 + ↑(hexLen (List.drop x.2.2.1.toNat l)))
 (lenZ l) ∧
 ((!decide
 (byteZ l
 (x.2.2.1 + ↑(hexLen (List.drop x.2.2.1.toNat l))) =
 (58 : Int))) =
 false →
 inI64
 (x.2.2.1 + ↑(hexLen (List.drop x.2.2.1.toNat l)) + (1 : Int))) ∧
 ((bif
 !decide
 (byteZ l
 (x.2.2.1 + ↑(hexLen (List.drop x.2.2.1.toNat l))) =
 (58 : Int)) then
 true
 else
 decide
 (x.2.2.1 + ↑(hexLen (List.drop x.2.2.1.toNat l)) +
 (1 : Int) =
 lenZ l)) =
 true →
 k
 (PV.tup
 [PV.arr (8 : Nat) (BRow.ints .u16 (List.replicate (8 : Nat) (0 : Int))),
 PV.bool false])) ∧
 ((bif
 !decide
 (byteZ l
 (x.2.2.1 + ↑(hexLen (List.drop x.2.2.1.toNat l))) =
 (58 : Int)) then
 true
 else
 decide
 (x.2.2.1 + ↑(hexLen (List.drop x.2.2.1.toNat l)) +
 (1 : Int) =
 lenZ l)) =
 false →
 inI64
 (x.2.2.1 + ↑(hexLen (List.drop x.2.2.1.toNat l)) + (1 : Int)) ∧
 within
 (x.2.2.1 + ↑(hexLen (List.drop x.2.2.1.toNat l)) + (1 : Int))
 (lenZ l) ∧
 ((!decide
 (byteZ l
 (x.2.2.1 +
 ↑(hexLen (List.drop x.2.2.1.toNat l)) +
 (1 : Int)) =
 (58 : Int))) =
 true →
 VS.mk []
 [((0 : Nat), PV.str l), ((2 : Nat), PV.ptr (34 : Nat) (0 : Nat)),
 ((3 : Nat), PV.bool false), ((4 : Nat), PV.ptr (36 : Nat) (0 : Nat)),
 ((5 : Nat), PV.int .u32 (0 : Int)), ((6 : Nat), PV.bool false),
 ((7 : Nat), PV.int .i64 (x.1 + (1 : Int))),
 ((8 : Nat), PV.int .i64 x.2.1),
 ((9 : Nat),
 PV.int .i64
 (x.2.2.1 +
 ↑(hexLen (List.drop x.2.2.1.toNat l)) +
 (1 : Int))),
 ((10 : Nat), PV.undef), ((13 : Nat), PV.undef), ((17 : Nat), PV.undef),
 ((30 : Nat), PV.undef), ((43 : Nat), PV.undef), ((56 : Nat), PV.undef),
 ((67 : Nat), PV.undef), ((73 : Nat), PV.undef), ((75 : Nat), PV.undef),
 ((82 : Nat), PV.undef), ((95 : Nat), PV.undef), ((113 : Nat), PV.undef),
 ((120 : Nat), PV.undef)]
 [((36 : Nat),
 PV.arr (8 : Nat)
 (BRow.ints .u16
 (setZ x.2.2.2 x.1
 (hexW
 (cutZ l x.2.2.1
 (x.2.2.1 +
 ↑(hexLen
 (List.drop x.2.2.1.toNat l)))))))),
 ((34 : Nat),
 PV.arr (8 : Nat)
 (BRow.ints .u16 (List.replicate (8 : Nat) (0 : Int))))] =
 VS.mk []
 [((0 : Nat), PV.str l), ((2 : Nat), PV.ptr (34 : Nat) (0 : Nat)),
 ((3 : Nat), PV.bool false), ((4 : Nat), PV.ptr (36 : Nat) (0 : Nat)),
 ((5 : Nat), PV.int .u32 (0 : Int)), ((6 : Nat), PV.bool false),
 ((7 : Nat), PV.int .i64 (x.1 + (1 : Int))),
 ((8 : Nat), PV.int .i64 x.2.1),
 ((9 : Nat),
 PV.int .i64
 (x.2.2.1 +
 ↑(hexLen (List.drop x.2.2.1.toNat l)) +
 (1 : Int))),
 ((10 : Nat), PV.undef), ((13 : Nat), PV.undef), ((17 : Nat), PV.undef),
 ((30 : Nat), PV.undef), ((43 : Nat), PV.undef), ((56 : Nat), PV.undef),
 ((67 : Nat), PV.undef), ((73 : Nat), PV.undef), ((75 : Nat), PV.undef),
 ((82 : Nat), PV.undef), ((95 : Nat), PV.undef), ((113 : Nat), PV.undef),
 ((120 : Nat), PV.undef)]
 [((36 : Nat),
 PV.arr (8 : Nat)
 (BRow.ints .u16
 (setZ x.2.2.2 x.1
 (hexW
 (cutZ l x.2.2.1
 (x.2.2.1 +
 ↑(hexLen
 (List.drop x.2.2.1.toNat l)))))))),
 ((34 : Nat),
 PV.arr (8 : Nat)
 (BRow.ints .u16 (List.replicate (8 : Nat) (0 : Int))))] ∧
 (∃ (acc : List Int),
 x.1 + (1 : Int) = ↑acc.length ∧
 acc.length ≤ (8 : Nat) ∧
 setZ x.2.2.2 x.1
 (hexW
 (cutZ l x.2.2.1
 (x.2.2.1 +
 ↑(hexLen (List.drop x.2.2.1.toNat l))))) =
 pad acc ∧
 (-1 : Int) ≤ x.2.1 ∧
 x.2.1 ≤ x.1 + (1 : Int) ∧
 (0 : Int) ≤
 x.2.2.1 +
 ↑(hexLen (List.drop x.2.2.1.toNat l)) +
 (1 : Int) ∧
 x.2.2.1 +
 ↑(hexLen (List.drop x.2.2.1.toNat l)) +
 (1 : Int) ≤
 ↑(List.length l) ∧
 six1 l ((9 : Nat) - acc.length) acc x.2.1
 (x.2.2.1 +
 ↑(hexLen
 (List.drop x.2.2.1.toNat l)) +
 (1 : Int)).toNat =
 six l) ∧
 ((9 : Int) - (x.1 + (1 : Int))).toNat < ((9 : Int) - x.1).toNat) ∧
 ((!decide
 (byteZ l
 (x.2.2.1 +
 ↑(hexLen (List.drop x.2.2.1.toNat l)) +
 (1 : Int)) =
 (58 : Int))) =
 false →
 (decide ((0 : Int) ≤ x.2.1) = true →
 k
 (PV.tup
 [PV.arr (8 : Nat) (BRow.ints .u16 (List.replicate (8 : Nat) (0 : Int))),
 PV.bool false])) ∧
 (decide ((0 : Int) ≤ x.2.1) = false →
 inI64
 (x.2.2.1 + ↑(hexLen (List.drop x.2.2.1.toNat l)) +
 (1 : Int) +
 (1 : Int)) ∧
 (decide
 (x.2.2.1 +
 ↑(hexLen (List.drop x.2.2.1.toNat l)) +
 (1 : Int) +
 (1 : Int) <
 lenZ l) =
 true →
 VS.mk []
 [((0 : Nat), PV.str l), ((2 : Nat), PV.ptr (34 : Nat) (0 : Nat)),
 ((3 : Nat), PV.bool false), ((4 : Nat), PV.ptr (36 : Nat) (0 : Nat)),
 ((5 : Nat), PV.int .u32 (0 : Int)),
 ((6 : Nat), PV.bool false),
 ((7 : Nat), PV.int .i64 (x.1 + (1 : Int))),
 ((8 : Nat), PV.int .i64 (x.1 + (1 : Int))),
 ((9 : Nat),
 PV.int .i64
 (x.2.2.1 +
 ↑(hexLen
 (List.drop x.2.2.1.toNat l)) +
 (1 : Int) +
 (1 : Int))),
 ((10 : Nat), PV.undef), ((13 : Nat), PV.undef),
 ((17 : Nat), PV.undef), ((30 : Nat), PV.undef),
 ((43 : Nat), PV.undef), ((56 : Nat), PV.undef),
 ((67 : Nat), PV.undef), ((73 : Nat), PV.undef),
 ((75 : Nat), PV.undef), ((82 : Nat), PV.undef),
 ((95 : Nat), PV.undef), ((113 : Nat), PV.undef),
 ((120 : Nat), PV.undef)]
 [((36 : Nat),
 PV.arr (8 : Nat)
 (BRow.ints .u16
 (setZ x.2.2.2 x.1
 (hexW
 (cutZ l x.2.2.1
 (x.2.2.1 +
 ↑(hexLen
 (List.drop x.2.2.1.toNat l)))))))),
 ((34 : Nat),
 PV.arr (8 : Nat)
 (BRow.ints .u16 (List.replicate (8 : Nat) (0 : Int))))] =
 VS.mk []
 [((0 : Nat), PV.str l), ((2 : Nat), PV.ptr (34 : Nat) (0 : Nat)),
 ((3 : Nat), PV.bool false), ((4 : Nat), PV.ptr (36 : Nat) (0 : Nat)),
 ((5 : Nat), PV.int .u32 (0 : Int)),
 ((6 : Nat), PV.bool false),
 ((7 : Nat), PV.int .i64 (x.1 + (1 : Int))),
 ((8 : Nat), PV.int .i64 (x.1 + (1 : Int))),
 ((9 : Nat),
 PV.int .i64
 (x.2.2.1 +
 ↑(hexLen
 (List.drop x.2.2.1.toNat l)) +
 (1 : Int) +
 (1 : Int))),
 ((10 : Nat), PV.undef), ((13 : Nat), PV.undef),
 ((17 : Nat), PV.undef), ((30 : Nat), PV.undef),
 ((43 : Nat), PV.undef), ((56 : Nat), PV.undef),
 ((67 : Nat), PV.undef), ((73 : Nat), PV.undef),
 ((75 : Nat), PV.undef), ((82 : Nat), PV.undef),
 ((95 : Nat), PV.undef), ((113 : Nat), PV.undef),
 ((120 : Nat), PV.undef)]
 [((36 : Nat),
 PV.arr (8 : Nat)
 (BRow.ints .u16
 (setZ x.2.2.2 x.1
 (hexW
 (cutZ l x.2.2.1
 (x.2.2.1 +
 ↑(hexLen
 (List.drop x.2.2.1.toNat l)))))))),
 ((34 : Nat),
 PV.arr (8 : Nat)
 (BRow.ints .u16 (List.replicate (8 : Nat) (0 : Int))))] ∧
 (∃ (acc : List Int),
 x.1 + (1 : Int) = ↑acc.length ∧
 acc.length ≤ (8 : Nat) ∧
 setZ x.2.2.2 x.1
 (hexW
 (cutZ l x.2.2.1
 (x.2.2.1 +
 ↑(hexLen
 (List.drop x.2.2.1.toNat l))))) =
 pad acc ∧
 (-1 : Int) ≤ x.1 + (1 : Int) ∧
 x.1 + (1 : Int) ≤ x.1 + (1 : Int) ∧
 (0 : Int) ≤
 x.2.2.1 +
 ↑(hexLen
 (List.drop x.2.2.1.toNat l)) +
 (1 : Int) +
 (1 : Int) ∧
 x.2.2.1 +
 ↑(hexLen
 (List.drop x.2.2.1.toNat l)) +
 (1 : Int) +
 (1 : Int) ≤
 ↑(List.length l) ∧
 six1 l ((9 : Nat) - acc.length) acc
 (x.1 + (1 : Int))
 (x.2.2.1 +
 ↑(hexLen
 (List.drop x.2.2.1.toNat l)) +
 (1 : Int) +
 (1 : Int)).toNat =
 six l) ∧
 ((9 : Int) - (x.1 + (1 : Int))).toNat < ((9 : Int) - x.1).toNat) ∧
 (decide
 (x.2.2.1 +
 ↑(hexLen (List.drop x.2.2.1.toNat l)) +
 (1 : Int) +
 (1 : Int) <
 lenZ l) =
 false →
 ((bif decide (x.1 + (1 : Int) < (0 : Int)) then decide (x.1 + (1 : Int) = (8 : Int))
 else false) =
 true →
 k
 (PV.tup
 [PV.arr (8 : Nat)
 (BRow.ints .u16
 (setZ x.2.2.2 x.1
 (hexW
 (cutZ l x.2.2.1
 (x.2.2.1 +
 ↑(hexLen
 (List.drop x.2.2.1.toNat l))))))),
 PV.bool true])) ∧
 ((bif decide (x.1 + (1 : Int) < (0 : Int)) then decide (x.1 + (1 : Int) = (8 : Int))
 else false) =
 false →
 ((bif decide ((0 : Int) ≤ x.1 + (1 : Int)) then decide (x.1 + (1 : Int) < (8 : Int))
 else false) =
 true →
 ((setZ x.2.2.2 x.1
 (hexW
 (cutZ l x.2.2.1
 (x.2.2.1 +
 ↑(hexLen
 (List.drop x.2.2.1.toNat l)))))).length =
 (8 : Nat) ∧
 (0 : Int) ≤ x.1 + (1 : Int) ∧
 x.1 + (1 : Int) ≤ x.1 + (1 : Int) ∧ x.1 + (1 : Int) ≤ (7 : Int)) ∧
 k
 (PV.tup
 [PV.arr (8 : Nat)
 (BRow.ints .u16
 (spreadM
 (setZ x.2.2.2 x.1
 (hexW
 (cutZ l x.2.2.1
 (x.2.2.1 +
 ↑(hexLen
 (List.drop x.2.2.1.toNat l))))))
 (x.1 + (1 : Int)).toNat (x.1 + (1 : Int)).toNat)),
 PV.bool true])) ∧
 ((bif decide ((0 : Int) ≤ x.1 + (1 : Int)) then
 decide (x.1 + (1 : Int) < (8 : Int))
 else false) =
 false →
 k
 (PV.tup
 [PV.arr (8 : Nat)
 (BRow.ints .u16 (List.replicate (8 : Nat) (0 : Int))),
 PV.bool false]))))))))))) ∧
 ((!preB l (ByteArray.mk #[58, 58]).data.toList) = false →
 (decide ((2 : Int) = lenZ l) = true →
 (false = true → k (PV.tup [PV.arr (8 : Nat) (BRow.ints .u16 (List.replicate (8 : Nat) (0 : Int))), PV.bool true])) ∧
 (false = false →
 (decide ((0 : Int) < (8 : Int)) = true →
 ((List.replicate (8 : Nat) (0 : Int)).length = (8 : Nat) ∧ (0 : Int) ≤ (0 : Int) ∧ (0 : Int) ≤ (0 : Int) ∧ (0 : Int) ≤ (7 : Int)) ∧
 k
 (PV.tup
 [PV.arr (8 : Nat)
 (BRow.ints .u16
 (spreadM (List.replicate (8 : Nat) (0 : Int)) (Int.toNat (0 : Int)) (Int.toNat (0 : Int)))),
 PV.bool true])) ∧
 (decide ((0 : Int) < (8 : Int)) = false →
 k (PV.tup [PV.arr (8 : Nat) (BRow.ints .u16 (List.replicate (8 : Nat) (0 : Int))), PV.bool false])))) ∧
 (decide ((2 : Int) = lenZ l) = false →
 ((0 : Int) ≤ (2 : Int) ∧ (2 : Int) ≤ ↑(List.length l) ∧ List.length l ≤ (1000000 : Nat)) ∧
 (decide ((2 : Int) + ↑(hexLen (List.drop (Int.toNat (2 : Int)) l)) < lenZ l) = true →
 within ((2 : Int) + ↑(hexLen (List.drop (Int.toNat (2 : Int)) l))) (lenZ l)) ∧
 ((bif decide ((2 : Int) + ↑(hexLen (List.drop (Int.toNat (2 : Int)) l)) < lenZ l) then
 decide (byteZ l ((2 : Int) + ↑(hexLen (List.drop (Int.toNat (2 : Int)) l))) = (46 : Int))
 else false) =
 true →
 upto (2 : Int) (lenZ l) (lenZ l) ∧
 (dropZ l (2 : Int)).length.le (1000000 : Nat) ∧
 ((bif !dotO (dropZ l (2 : Int)) then true else decide ((6 : Int) < (0 : Int))) = true →
 k
 (PV.tup
 [PV.arr (8 : Nat) (BRow.ints .u16 (List.replicate (8 : Nat) (0 : Int))), PV.bool false])) ∧
 ((bif !dotO (dropZ l (2 : Int)) then true else decide ((6 : Int) < (0 : Int))) = false →
 inI64 ((0 : Int) + (1 : Int)) ∧
 (0 : Int) ≤ (16 : Int) ∧
 within (0 : Int) ↑(8 : Nat) ∧
 (within (0 : Int) ↑(8 : Nat) ∧ True) ∧
 within ((0 : Int) + (1 : Int)) ↑(8 : Nat) ∧
 (within ((0 : Int) + (1 : Int)) ↑(8 : Nat) ∧ True) ∧
 inI64 ((0 : Int) + (2 : Int)) ∧
 (false = true →
 k
 (PV.tup
 [PV.arr (8 : Nat)
 (BRow.ints .u16
 (setZ
 (setZ (List.replicate (8 : Nat) (0 : Int)) (0 : Int)
 (Go.IntKind.u16.wrap
 (shrZ .u32 (dotV (dropZ l (2 : Int)))
 (16 : Int))))
 ((0 : Int) + (1 : Int))
 (Go.IntKind.u16.wrap (dotV (dropZ l (2 : Int)))))),
 PV.bool true])) ∧
 (false = false →
 (decide ((0 : Int) + (2 : Int) < (8 : Int)) = true →
 ((setZ
 (setZ (List.replicate (8 : Nat) (0 : Int)) (0 : Int)
 (Go.IntKind.u16.wrap
 (shrZ .u32 (dotV (dropZ l (2 : Int)))
 (16 : Int))))
 ((0 : Int) + (1 : Int))
 (Go.IntKind.u16.wrap (dotV (dropZ l (2 : Int))))).length =
 (8 : Nat) ∧
 (0 : Int) ≤ (0 : Int) ∧ (0 : Int) ≤ (0 : Int) + (2 : Int) ∧ (0 : Int) + (2 : Int) ≤ (7 : Int)) ∧
 k
 (PV.tup
 [PV.arr (8 : Nat)
 (BRow.ints .u16
 (spreadM
 (setZ
 (setZ (List.replicate (8 : Nat) (0 : Int)) (0 : Int)
 (Go.IntKind.u16.wrap
 (shrZ .u32 (dotV (dropZ l (2 : Int)))
 (16 : Int))))
 ((0 : Int) + (1 : Int))
 (Go.IntKind.u16.wrap (dotV (dropZ l (2 : Int)))))
 ((0 : Int) + (2 : Int)).toNat (Int.toNat (0 : Int)))),
 PV.bool true])) ∧
 (decide ((0 : Int) + (2 : Int) < (8 : Int)) = false →
 k
 (PV.tup
 [PV.arr (8 : Nat) (BRow.ints .u16 (List.replicate (8 : Nat) (0 : Int))),
 PV.bool false]))))) ∧
 ((bif decide ((2 : Int) + ↑(hexLen (List.drop (Int.toNat (2 : Int)) l)) < lenZ l) then
 decide (byteZ l ((2 : Int) + ↑(hexLen (List.drop (Int.toNat (2 : Int)) l))) = (46 : Int))
 else false) =
 false →
 (decide ((2 : Int) + ↑(hexLen (List.drop (Int.toNat (2 : Int)) l)) = (2 : Int)) = false →
 inI64 ((2 : Int) + (4 : Int))) ∧
 ((bif decide ((2 : Int) + ↑(hexLen (List.drop (Int.toNat (2 : Int)) l)) = (2 : Int)) then true
 else decide ((2 : Int) + (4 : Int) < (2 : Int) + ↑(hexLen (List.drop (Int.toNat (2 : Int)) l)))) =
 true →
 k (PV.tup [PV.arr (8 : Nat) (BRow.ints .u16 (List.replicate (8 : Nat) (0 : Int))), PV.bool false])) ∧
 ((bif decide ((2 : Int) + ↑(hexLen (List.drop (Int.toNat (2 : Int)) l)) = (2 : Int)) then true
 else decide ((2 : Int) + (4 : Int) < (2 : Int) + ↑(hexLen (List.drop (Int.toNat (2 : Int)) l)))) =
 false →
 upto (2 : Int) ((2 : Int) + ↑(hexLen (List.drop (Int.toNat (2 : Int)) l))) (lenZ l) ∧
 ((cutZ l (2 : Int) ((2 : Int) + ↑(hexLen (List.drop (Int.toNat (2 : Int)) l)))).length ≤
 (4 : Nat) ∧
 ∀ (i : Nat),
 i < (cutZ l (2 : Int) ((2 : Int) + ↑(hexLen (List.drop (Int.toNat (2 : Int)) l)))).length →
 (0 : Int) ≤
 hexN
 (byt
 (cutZ l (2 : Int) ((2 : Int) + ↑(hexLen (List.drop (Int.toNat (2 : Int)) l))))
 i)) ∧
 within (0 : Int) ↑(8 : Nat) ∧
 (within (0 : Int) ↑(8 : Nat) ∧ True) ∧
 inI64 ((0 : Int) + (1 : Int)) ∧
 (decide ((2 : Int) + ↑(hexLen (List.drop (Int.toNat (2 : Int)) l)) = lenZ l) = true →
 (false = true →
 k
 (PV.tup
 [PV.arr (8 : Nat)
 (BRow.ints .u16
 (setZ (List.replicate (8 : Nat) (0 : Int)) (0 : Int)
 (hexW
 (cutZ l (2 : Int)
 ((2 : Int) + ↑(hexLen (List.drop (Int.toNat (2 : Int)) l))))))),
 PV.bool true])) ∧
 (false = false →
 (decide ((0 : Int) + (1 : Int) < (8 : Int)) = true →
 ((setZ (List.replicate (8 : Nat) (0 : Int)) (0 : Int)
 (hexW
 (cutZ l (2 : Int)
 ((2 : Int) +
 ↑(hexLen (List.drop (Int.toNat (2 : Int)) l)))))).length =
 (8 : Nat) ∧
 (0 : Int) ≤ (0 : Int) ∧ (0 : Int) ≤ (0 : Int) + (1 : Int) ∧ (0 : Int) + (1 : Int) ≤ (7 : Int)) ∧
 k
 (PV.tup
 [PV.arr (8 : Nat)
 (BRow.ints .u16
 (spreadM
 (setZ (List.replicate (8 : Nat) (0 : Int)) (0 : Int)
 (hexW
 (cutZ l (2 : Int)
 ((2 : Int) + ↑(hexLen (List.drop (Int.toNat (2 : Int)) l))))))
 ((0 : Int) + (1 : Int)).toNat (Int.toNat (0 : Int)))),
 PV.bool true])) ∧
 (decide ((0 : Int) + (1 : Int) < (8 : Int)) = false →
 k
 (PV.tup
 [PV.arr (8 : Nat) (BRow.ints .u16 (List.replicate (8 : Nat) (0 : Int))),
 PV.bool false])))) ∧
 (decide ((2 : Int) + ↑(hexLen (List.drop (Int.toNat (2 : Int)) l)) = lenZ l) = false →
 within ((2 : Int) + ↑(hexLen (List.drop (Int.toNat (2 : Int)) l))) (lenZ l) ∧
 ((!decide
 (byteZ l ((2 : Int) + ↑(hexLen (List.drop (Int.toNat (2 : Int)) l))) =
 (58 : Int))) =
 false →
 inI64
 ((2 : Int) + ↑(hexLen (List.drop (Int.toNat (2 : Int)) l)) + (1 : Int))) ∧
 ((bif
 !decide
 (byteZ l
 ((2 : Int) + ↑(hexLen (List.drop (Int.toNat (2 : Int)) l))) =
 (58 : Int)) then
 true
 else
 decide
 ((2 : Int) + ↑(hexLen (List.drop (Int.toNat (2 : Int)) l)) + (1 : Int) =
 lenZ l)) =
 true →
 k
 (PV.tup
 [PV.arr (8 : Nat) (BRow.ints .u16 (List.replicate (8 : Nat) (0 : Int))),
 PV.bool false])) ∧
 ((bif
 !decide
 (byteZ l
 ((2 : Int) + ↑(hexLen (List.drop (Int.toNat (2 : Int)) l))) =
 (58 : Int)) then
 true
 else
 decide
 ((2 : Int) + ↑(hexLen (List.drop (Int.toNat (2 : Int)) l)) + (1 : Int) =
 lenZ l)) =
 false →
 inI64
 ((2 : Int) + ↑(hexLen (List.drop (Int.toNat (2 : Int)) l)) + (1 : Int)) ∧
 within
 ((2 : Int) + ↑(hexLen (List.drop (Int.toNat (2 : Int)) l)) + (1 : Int))
 (lenZ l) ∧
 ((!decide
 (byteZ l
 ((2 : Int) + ↑(hexLen (List.drop (Int.toNat (2 : Int)) l)) +
 (1 : Int)) =
 (58 : Int))) =
 true →
 VS.mk []
 [(0, PV.str l), (2, PV.ptr ((2 : Nat) + (32 : Nat)) (0 : Nat)),
 (3, PV.bool false), (4, PV.ptr ((4 : Nat) + (32 : Nat)) (0 : Nat)),
 (5, PV.int .u32 (0 : Int)), (6, PV.bool false),
 (7, PV.int .i64 ((0 : Int) + (1 : Int))),
 (8, PV.int .i64 (0 : Int)),
 (9,
 PV.int .i64
 ((2 : Int) + ↑(hexLen (List.drop (Int.toNat (2 : Int)) l)) +
 (1 : Int))),
 ((10 : Nat), PV.undef), ((13 : Nat), PV.undef), ((17 : Nat), PV.undef),
 ((30 : Nat), PV.undef), ((43 : Nat), PV.undef), ((56 : Nat), PV.undef),
 ((67 : Nat), PV.undef), ((73 : Nat), PV.undef), ((75 : Nat), PV.undef),
 ((82 : Nat), PV.undef), (95, PV.undef), (113, PV.undef),
 (120, PV.undef)]
 [((4 : Nat) + (32 : Nat),
 PV.arr (8 : Nat)
 (BRow.ints .u16
 (setZ (List.replicate (8 : Nat) (0 : Int)) (0 : Int)
 (hexW
 (cutZ l (2 : Int)
 ((2 : Int) +
 ↑(hexLen (List.drop (Int.toNat (2 : Int)) l)))))))),
 ((2 : Nat) + (32 : Nat),
 PV.arr (8 : Nat) (BRow.ints .u16 (List.replicate (8 : Nat) (0 : Int))))] =
 VS.mk []
 [((0 : Nat), PV.str l), ((2 : Nat), PV.ptr (34 : Nat) (0 : Nat)),
 ((3 : Nat), PV.bool false), ((4 : Nat), PV.ptr (36 : Nat) (0 : Nat)),
 ((5 : Nat), PV.int .u32 (0 : Int)), ((6 : Nat), PV.bool false),
 ((7 : Nat), PV.int .i64 ((0 : Int) + (1 : Int))),
 ((8 : Nat), PV.int .i64 (0 : Int)),
 ((9 : Nat),
 PV.int .i64
 ((2 : Int) + ↑(hexLen (List.drop (Int.toNat (2 : Int)) l)) +
 (1 : Int))),
 ((10 : Nat), PV.undef), ((13 : Nat), PV.undef), ((17 : Nat), PV.undef),
 ((30 : Nat), PV.undef), ((43 : Nat), PV.undef), ((56 : Nat), PV.undef),
 ((67 : Nat), PV.undef), ((73 : Nat), PV.undef), ((75 : Nat), PV.undef),
 ((82 : Nat), PV.undef), ((95 : Nat), PV.undef), ((113 : Nat), PV.undef),
 ((120 : Nat), PV.undef)]
 [((36 : Nat),
 PV.arr (8 : Nat)
 (BRow.ints .u16
 (setZ (List.replicate (8 : Nat) (0 : Int)) (0 : Int)
 (hexW
 (cutZ l (2 : Int)
 ((2 : Int) +
 ↑(hexLen (List.drop (Int.toNat (2 : Int)) l)))))))),
 ((34 : Nat),
 PV.arr (8 : Nat) (BRow.ints .u16 (List.replicate (8 : Nat) (0 : Int))))] ∧
 (∃ (acc : List Int),
 (0 : Int) + (1 : Int) = ↑acc.length ∧
 acc.length ≤ (8 : Nat) ∧
 setZ (List.replicate (8 : Nat) (0 : Int)) (0 : Int)
 (hexW
 (cutZ l (2 : Int)
 ((2 : Int) +
 ↑(hexLen (List.drop (Int.toNat (2 : Int)) l))))) =
 pad acc ∧
 (-1 : Int) ≤ (0 : Int) ∧
 (0 : Int) ≤ (0 : Int) + (1 : Int) ∧
 (0 : Int) ≤
 (2 : Int) +
 ↑(hexLen (List.drop (Int.toNat (2 : Int)) l)) +
 (1 : Int) ∧
 (2 : Int) +
 ↑(hexLen (List.drop (Int.toNat (2 : Int)) l)) +
 (1 : Int) ≤
 ↑(List.length l) ∧
 six1 l ((9 : Nat) - acc.length) acc (0 : Int)
 ((2 : Int) +
 ↑(hexLen
 (List.drop (Int.toNat (2 : Int)) l)) +
 (1 : Int)).toNat =
 six l) ∧
 ∀ (x : Int × Int × Int × List Int),
 (∃ (acc : List Int),
 x.1 = ↑acc.length ∧
 acc.length ≤ (8 : Nat) ∧
 x.2.2.2 = pad acc ∧
 (-1 : Int) ≤ x.2.1 ∧
 x.2.1 ≤ x.1 ∧
 (0 : Int) ≤ x.2.2.1 ∧
 x.2.2.1 ≤ ↑(List.length l) ∧
 six1 l ((9 : Nat) - acc.length) acc x.2.1
 x.2.2.1.toNat =
 six l) →
 ((0 : Int) ≤ x.2.2.1 ∧ x.2.2.1 ≤ ↑(List.length l) ∧ List.length l ≤ (1000000 : Nat)) ∧
 (decide
 (x.2.2.1 +
 ↑(hexLen (List.drop x.2.2.1.toNat l)) <
 lenZ l) =
 true →
 within
 (x.2.2.1 +
 ↑(hexLen (List.drop x.2.2.1.toNat l)))
 (lenZ l)) ∧
 ((bif
 decide
 (x.2.2.1 +
 ↑(hexLen (List.drop x.2.2.1.toNat l)) <
 lenZ l) then
 decide
 (byteZ l
 (x.2.2.1 +
 ↑(hexLen (List.drop x.2.2.1.toNat l))) =
 (46 : Int))
 else false) =
 true →
 upto x.2.2.1 (lenZ l) (lenZ l) ∧
 (dropZ l x.2.2.1).length.le (1000000 : Nat) ∧
 ((bif !dotO (dropZ l x.2.2.1) then true
 else decide ((6 : Int) < x.1)) =
 true →
 k
 (PV.tup
 [PV.arr (8 : Nat)
 (BRow.ints .u16 (List.replicate (8 : Nat) (0 : Int))),
 PV.bool false])) ∧
 ((bif !dotO (dropZ l x.2.2.1) then true
 else decide ((6 : Int) < x.1)) =
 false →
 inI64 (x.1 + (1 : Int)) ∧
 (0 : Int) ≤ (16 : Int) ∧
 within x.1 ↑(8 : Nat) ∧
 (within x.1 ↑(8 : Nat) ∧ True) ∧
 within (x.1 + (1 : Int)) ↑(8 : Nat) ∧
 (within (x.1 + (1 : Int)) ↑(8 : Nat) ∧ True) ∧
 inI64 (x.1 + (2 : Int)) ∧
 ((bif decide (x.2.1 < (0 : Int)) then
 decide (x.1 + (2 : Int) = (8 : Int))
 else false) =
 true →
 k
 (PV.tup
 [PV.arr (8 : Nat)
 (BRow.ints .u16
 (setZ
 (setZ x.2.2.2 x.1
 (Go.IntKind.u16.wrap
 (shrZ .u32
 (dotV
 (dropZ l x.2.2.1))
 (16 : Int))))
 (x.1 + (1 : Int))
 (Go.IntKind.u16.wrap
 (dotV
 (dropZ l x.2.2.1))))),
 PV.bool true])) ∧
 ((bif decide (x.2.1 < (0 : Int)) then
 decide (x.1 + (2 : Int) = (8 : Int))
 else false) =
 false →
 ((bif decide ((0 : Int) ≤ x.2.1) then
 decide (x.1 + (2 : Int) < (8 : Int))
 else false) =
 true →
 ((setZ
 (setZ x.2.2.2 x.1
 (Go.IntKind.u16.wrap
 (shrZ .u32
 (dotV
 (dropZ l x.2.2.1))
 (16 : Int))))
 (x.1 + (1 : Int))
 (Go.IntKind.u16.wrap
 (dotV
 (dropZ l x.2.2.1)))).length =
 (8 : Nat) ∧
 (0 : Int) ≤ x.2.1 ∧
 x.2.1 ≤ x.1 + (2 : Int) ∧
 x.1 + (2 : Int) ≤ (7 : Int)) ∧
 k
 (PV.tup
 [PV.arr (8 : Nat)
 (BRow.ints .u16
 (spreadM
 (setZ
 (setZ x.2.2.2 x.1
 (Go.IntKind.u16.wrap
 (shrZ .u32
 (dotV
 (dropZ l x.2.2.1))
 (16 : Int))))
 (x.1 + (1 : Int))
 (Go.IntKind.u16.wrap
 (dotV
 (dropZ l x.2.2.1))))
 (x.1 + (2 : Int)).toNat x.2.1.toNat)),
 PV.bool true])) ∧
 ((bif decide ((0 : Int) ≤ x.2.1) then
 decide (x.1 + (2 : Int) < (8 : Int))
 else false) =
 false →
 k
 (PV.tup
 [PV.arr (8 : Nat)
 (BRow.ints .u16
 (List.replicate (8 : Nat) (0 : Int))),
 PV.bool false]))))) ∧
 ((bif
 decide
 (x.2.2.1 +
 ↑(hexLen (List.drop x.2.2.1.toNat l)) <
 lenZ l) then
 decide
 (byteZ l
 (x.2.2.1 +
 ↑(hexLen (List.drop x.2.2.1.toNat l))) =
 (46 : Int))
 else false) =
 false →
 ((bif decide (x.1 = (8 : Int)) then true
 else
 decide
 (x.2.2.1 +
 ↑(hexLen (List.drop x.2.2.1.toNat l)) =
 x.2.2.1)) =
 false →
 inI64 (x.2.2.1 + (4 : Int))) ∧
 ((bif
 bif decide (x.1 = (8 : Int)) then true
 else
 decide
 (x.2.2.1 +
 ↑(hexLen
 (List.drop x.2.2.1.toNat l)) =
 x.2.2.1) then
 true
 else
 decide
 (x.2.2.1 + (4 : Int) <
 x.2.2.1 +
 ↑(hexLen
 (List.drop x.2.2.1.toNat l)))) =
 true →
 k
 (PV.tup
 [PV.arr (8 : Nat)
 (BRow.ints .u16 (List.replicate (8 : Nat) (0 : Int))),
 PV.bool false])) ∧
 ((bif
 bif decide (x.1 = (8 : Int)) then true
 else
 decide
 (x.2.2.1 +
 ↑(hexLen
 (List.drop x.2.2.1.toNat l)) =
 x.2.2.1) then
 true
 else
 decide
 (x.2.2.1 + (4 : Int) <
 x.2.2.1 +
 ↑(hexLen
 (List.drop x.2.2.1.toNat l)))) =
 false →
 upto x.2.2.1
 (x.2.2.1 +
 ↑(hexLen (List.drop x.2.2.1.toNat l)))
 (lenZ l) ∧
 ((cutZ l x.2.2.1
 (x.2.2.1 +
 ↑(hexLen
 (List.drop x.2.2.1.toNat l)))).length ≤
 (4 : Nat) ∧
 ∀ (i : Nat),
 i <
 (cutZ l x.2.2.1
 (x.2.2.1 +
 ↑(hexLen
 (List.drop x.2.2.1.toNat l)))).length →
 (0 : Int) ≤
 hexN
 (byt
 (cutZ l x.2.2.1
 (x.2.2.1 +
 ↑(hexLen
 (List.drop x.2.2.1.toNat l))))
 i)) ∧
 within x.1 ↑(8 : Nat) ∧
 (within x.1 ↑(8 : Nat) ∧ True) ∧
 inI64 (x.1 + (1 : Int)) ∧
 (decide
 (x.2.2.1 +
 ↑(hexLen
 (List.drop x.2.2.1.toNat l)) =
 lenZ l) =
 true →
 ((bif decide (x.2.1 < (0 : Int)) then
 decide (x.1 + (1 : Int) = (8 : Int))
 else false) =
 true →
 k
 (PV.tup
 [PV.arr (8 : Nat)
 (BRow.ints .u16
 (setZ x.2.2.2 x.1
 (hexW
 (cutZ l x.2.2.1
 (x.2.2.1 +
 ↑(hexLen
 (List.drop x.2.2.1.toNat l))))))),
 PV.bool true])) ∧
 ((bif decide (x.2.1 < (0 : Int)) then
 decide (x.1 + (1 : Int) = (8 : Int))
 else false) =
 false →
 ((bif decide ((0 : Int) ≤ x.2.1) then
 decide (x.1 + (1 : Int) < (8 : Int))
 else false) =
 true →
 ((setZ x.2.2.2 x.1
 (hexW
 (cutZ l x.2.2.1
 (x.2.2.1 +
 ↑(hexLen
 (List.drop x.2.2.1.toNat
 l)))))).length =
 (8 : Nat) ∧
 (0 : Int) ≤ x.2.1 ∧
 x.2.1 ≤ x.1 + (1 : Int) ∧
 x.1 + (1 : Int) ≤ (7 : Int)) ∧
 k
 (PV.tup
 [PV.arr (8 : Nat)
 (BRow.ints .u16
 (spreadM
 (setZ x.2.2.2 x.1
 (hexW
 (cutZ l x.2.2.1
 (x.2.2.1 +
 ↑(hexLen
 (List.drop x.2.2.1.toNat
 l))))))
 (x.1 + (1 : Int)).toNat x.2.1.toNat)),
 PV.bool true])) ∧
 ((bif decide ((0 : Int) ≤ x.2.1) then
 decide (x.1 + (1 : Int) < (8 : Int))
 else false) =
 false →
 k
 (PV.tup
 [PV.arr (8 : Nat)
 (BRow.ints .u16
 (List.replicate (8 : Nat) (0 : Int))),
 PV.bool false])))) ∧
 (decide
 (x.2.2.1 +
 ↑(hexLen
 (List.drop x.2.2.1.toNat l)) =
 lenZ l) =
 false →
 within
 (x.2.2.1 +
 ↑(hexLen
 (List.drop x.2.2.1.toNat l)))
 (lenZ l) ∧
 ((!decide
 (byteZ l
 (x.2.2.1 +
 ↑(hexLen
 (List.drop x.2.2.1.toNat l))) =
 (58 : Int))) =
 false →
 inI64
 (x.2.2.1 +
 ↑(hexLen
 (List.drop x.2.2.1.toNat l)) +
 (1 : Int))) ∧
 ((bif
 !decide
 (byteZ l
 (x.2.2.1 +
 ↑(hexLen
 (List.drop x.2.2.1.toNat l))) =
 (58 : Int)) then
 true
 else
 decide
 (x.2.2.1 +
 ↑(hexLen
 (List.drop x.2.2.1.toNat l)) +
 (1 : Int) =
 lenZ l)) =
 true →
 k
 (PV.tup
 [PV.arr (8 : Nat)
 (BRow.ints .u16
 (List.replicate (8 : Nat) (0 : Int))),
 PV.bool false])) ∧
 ((bif
 !decide
 (byteZ l
 (x.2.2.1 +
 ↑(hexLen
 (List.drop x.2.2.1.toNat l))) =
 (58 : Int)) then
 true
 else
 decide
 (x.2.2.1 +
 ↑(hexLen
 (List.drop x.2.2.1.toNat l)) +
 (1 : Int) =
 lenZ l)) =
 false →
 inI64
 (x.2.2.1 +
 ↑(hexLen
 (List.drop x.2.2.1.toNat l)) +
 (1 : Int)) ∧
 within
 (x.2.2.1 +
 ↑(hexLen
 (List.drop x.2.2.1.toNat l)) +
 (1 : Int))
 (lenZ l) ∧
 ((!decide
 (byteZ l
 (x.2.2.1 +
 ↑(hexLen
 (List.drop x.2.2.1.toNat l)) +
 (1 : Int)) =
 (58 : Int))) =
 true →
 VS.mk []
 [((0 : Nat), PV.str l),
 ((2 : Nat),
 PV.ptr (34 : Nat) (0 : Nat)),
 ((3 : Nat), PV.bool false),
 ((4 : Nat),
 PV.ptr (36 : Nat) (0 : Nat)),
 ((5 : Nat),
 PV.int .u32 (0 : Int)),
 ((6 : Nat), PV.bool false),
 ((7 : Nat),
 PV.int .i64
 (x.1 + (1 : Int))),
 ((8 : Nat),
 PV.int .i64 x.2.1),
 ((9 : Nat),
 PV.int .i64
 (x.2.2.1 +
 ↑(hexLen
 (List.drop x.2.2.1.toNat
 l)) +
 (1 : Int))),
 ((10 : Nat), PV.undef),
 ((13 : Nat), PV.undef),
 ((17 : Nat), PV.undef),
 ((30 : Nat), PV.undef),
 ((43 : Nat), PV.undef),
 ((56 : Nat), PV.undef),
 ((67 : Nat), PV.undef),
 ((73 : Nat), PV.undef),
 ((75 : Nat), PV.undef),
 ((82 : Nat), PV.undef),
 ((95 : Nat), PV.undef),
 ((113 : Nat), PV.undef),
 ((120 : Nat), PV.undef)]
 [((36 : Nat),
 PV.arr (8 : Nat)
 (BRow.ints .u16
 (setZ x.2.2.2 x.1
 (hexW
 (cutZ l x.2.2.1
 (x.2.2.1 +
 ↑(hexLen
 (List.drop
 x.2.2.1.toNat
 l)))))))),
 ((34 : Nat),
 PV.arr (8 : Nat)
 (BRow.ints .u16
 (List.replicate (8 : Nat)
 (0 : Int))))] =
 VS.mk []
 [((0 : Nat), PV.str l),
 ((2 : Nat),
 PV.ptr (34 : Nat) (0 : Nat)),
 ((3 : Nat), PV.bool false),
 ((4 : Nat),
 PV.ptr (36 : Nat) (0 : Nat)),
 ((5 : Nat),
 PV.int .u32 (0 : Int)),
 ((6 : Nat), PV.bool false),
 ((7 : Nat),
 PV.int .i64
 (x.1 + (1 : Int))),
 ((8 : Nat),
 PV.int .i64 x.2.1),
 ((9 : Nat),
 PV.int .i64
 (x.2.2.1 +
 ↑(hexLen
 (List.drop x.2.2.1.toNat
 l)) +
 (1 : Int))),
 ((10 : Nat), PV.undef),
 ((13 : Nat), PV.undef),
 ((17 : Nat), PV.undef),
 ((30 : Nat), PV.undef),
 ((43 : Nat), PV.undef),
 ((56 : Nat), PV.undef),
 ((67 : Nat), PV.undef),
 ((73 : Nat), PV.undef),
 ((75 : Nat), PV.undef),
 ((82 : Nat), PV.undef),
 ((95 : Nat), PV.undef),
 ((113 : Nat), PV.undef),
 ((120 : Nat), PV.undef)]
 [((36 : Nat),
 PV.arr (8 : Nat)
 (BRow.ints .u16
 (setZ x.2.2.2 x.1
 (hexW
 (cutZ l x.2.2.1
 (x.2.2.1 +
 ↑(hexLen
 (List.drop
 x.2.2.1.toNat
 l)))))))),
 ((34 : Nat),
 PV.arr (8 : Nat)
 (BRow.ints .u16
 (List.replicate (8 : Nat)
 (0 : Int))))] ∧
 (∃ (acc : List Int),
 x.1 + (1 : Int) = ↑acc.length ∧
 acc.length ≤ (8 : Nat) ∧
 setZ x.2.2.2 x.1
 (hexW
 (cutZ l x.2.2.1
 (x.2.2.1 +
 ↑(hexLen
 (List.drop
 x.2.2.1.toNat
 l))))) =
 pad acc ∧
 (-1 : Int) ≤ x.2.1 ∧
 x.2.1 ≤ x.1 + (1 : Int) ∧
 (0 : Int) ≤
 x.2.2.1 +
 ↑(hexLen
 (List.drop
 x.2.2.1.toNat
 l)) +
 (1 : Int) ∧
 x.2.2.1 +
 ↑(hexLen
 (List.drop
 x.2.2.1.toNat
 l)) +
 (1 : Int) ≤
 ↑(List.length l) ∧
 six1
 l ((9 : Nat) - acc.length) acc
 x.2.1
 (x.2.2.1 +
 ↑(hexLen
 (List.drop
 x.2.2.1.toNat
 l)) +
 (1 : Int)).toNat =
 six
 l) ∧
 ((9 : Int) - (x.1 + (1 : Int))).toNat <
 ((9 : Int) - x.1).toNat) ∧
 ((!decide
 (byteZ l
 (x.2.2.1 +
 ↑(hexLen
 (List.drop x.2.2.1.toNat l)) +
 (1 : Int)) =
 (58 : Int))) =
 false →
 (decide ((0 : Int) ≤ x.2.1) = true →
 k
 (PV.tup
 [PV.arr (8 : Nat)
 (BRow.ints .u16
 (List.replicate (8 : Nat) (0 : Int))),
 PV.bool false])) ∧
 (decide ((0 : Int) ≤ x.2.1) = false →
 inI64
 (x.2.2.1 +
 ↑(hexLen
 (List.drop x.2.2.1.toNat l)) +
 (1 : Int) +
 (1 : Int)) ∧
 (decide
 (x.2.2.1 +
 ↑(hexLen
 (List.drop
 x.2.2.1.toNat l)) +
 (1 : Int) +
 (1 : Int) <
 lenZ l) =
 true →
 VS.mk []
 [((0 : Nat), PV.str l),
 ((2 : Nat),
 PV.ptr (34 : Nat)
 (0 : Nat)),
 ((3 : Nat), PV.bool false),
 ((4 : Nat),
 PV.ptr (36 : Nat)
 (0 : Nat)),
 ((5 : Nat),
 PV.int .u32
 (0 : Int)),
 ((6 : Nat), PV.bool false),
 ((7 : Nat),
 PV.int .i64
 (x.1 + (1 : Int))),
 ((8 : Nat),
 PV.int .i64
 (x.1 + (1 : Int))),
 ((9 : Nat),
 PV.int .i64
 (x.2.2.1 +
 ↑(hexLen
 (List.drop
 x.2.2.1.toNat
 l)) +
 (1 : Int) +
 (1 : Int))),
 ((10 : Nat), PV.undef),
 ((13 : Nat), PV.undef),
 ((17 : Nat), PV.undef),
 ((30 : Nat), PV.undef),
 ((43 : Nat), PV.undef),
 ((56 : Nat), PV.undef),
 ((67 : Nat), PV.undef),
 ((73 : Nat), PV.undef),
 ((75 : Nat), PV.undef),
 ((82 : Nat), PV.undef),
 ((95 : Nat), PV.undef),
 ((113 : Nat), PV.undef),
 ((120 : Nat), PV.undef)]
 [((36 : Nat),
 PV.arr (8 : Nat)
 (BRow.ints .u16
 (setZ x.2.2.2
 x.1
 (hexW
 (cutZ l
 x.2.2.1
 (x.2.2.1 +
 ↑(hexLen
 (List.drop
 x.2.2.1.toNat
 l)))))))),
 ((34 : Nat),
 PV.arr (8 : Nat)
 (BRow.ints .u16
 (List.replicate (8 : Nat)
 (0 : Int))))] =
 VS.mk []
 [((0 : Nat), PV.str l),
 ((2 : Nat),
 PV.ptr (34 : Nat)
 (0 : Nat)),
 ((3 : Nat), PV.bool false),
 ((4 : Nat),
 PV.ptr (36 : Nat)
 (0 : Nat)),
 ((5 : Nat),
 PV.int .u32
 (0 : Int)),
 ((6 : Nat), PV.bool false),
 ((7 : Nat),
 PV.int .i64
 (x.1 + (1 : Int))),
 ((8 : Nat),
 PV.int .i64
 (x.1 + (1 : Int))),
 ((9 : Nat),
 PV.int .i64
 (x.2.2.1 +
 ↑(hexLen
 (List.drop
 x.2.2.1.toNat
 l)) +
 (1 : Int) +
 (1 : Int))),
 ((10 : Nat), PV.undef),
 ((13 : Nat), PV.undef),
 ((17 : Nat), PV.undef),
 ((30 : Nat), PV.undef),
 ((43 : Nat), PV.undef),
 ((56 : Nat), PV.undef),
 ((67 : Nat), PV.undef),
 ((73 : Nat), PV.undef),
 ((75 : Nat), PV.undef),
 ((82 : Nat), PV.undef),
 ((95 : Nat), PV.undef),
 ((113 : Nat), PV.undef),
 ((120 : Nat), PV.undef)]
 [((36 : Nat),
 PV.arr (8 : Nat)
 (BRow.ints .u16
 (setZ x.2.2.2
 x.1
 (hexW
 (cutZ l
 x.2.2.1
 (x.2.2.1 +
 ↑(hexLen
 (List.drop
 x.2.2.1.toNat
 l)))))))),
 ((34 : Nat),
 PV.arr (8 : Nat)
 (BRow.ints .u16
 (List.replicate (8 : Nat)
 (0 : Int))))] ∧
 (∃ (acc : List Int),
 x.1 + (1 : Int) = ↑acc.length ∧
 acc.length ≤ (8 : Nat) ∧
 setZ x.2.2.2 x.1
 (hexW
 (cutZ l
 x.2.2.1
 (x.2.2.1 +
 ↑(hexLen
 (List.drop
 x.2.2.1.toNat
 l))))) =
 pad
 acc ∧
 (-1 : Int) ≤ x.1 + (1 : Int) ∧
 x.1 + (1 : Int) ≤
 x.1 + (1 : Int) ∧
 (0 : Int) ≤
 x.2.2.1 +
 ↑(hexLen
 (List.drop
 x.2.2.1.toNat
 l)) +
 (1 : Int) +
 (1 : Int) ∧
 x.2.2.1 +
 ↑(hexLen
 (List.drop
 x.2.2.1.toNat
 l)) +
 (1 : Int) +
 (1 : Int) ≤
 ↑(List.length l) ∧
 six1
 l
 ((9 : Nat) -
 acc.length)
 acc
 (x.1 + (1 : Int))
 (x.2.2.1 +
 ↑(hexLen
 (List.drop
 x.2.2.1.toNat
 l)) +
 (1 : Int) +
 (1 :
 Int)).toNat =
 six
 l) ∧
 ((9 : Int) -
 (x.1 + (1 : Int))).toNat <
 ((9 : Int) - x.1).toNat) ∧
 (decide
 (x.2.2.1 +
 ↑(hexLen
 (List.drop
 x.2.2.1.toNat l)) +
 (1 : Int) +
 (1 : Int) <
 lenZ l) =
 false →
 ((bif
 decide
 (x.1 + (1 : Int) <
 (0 : Int)) then
 decide
 (x.1 + (1 : Int) = (8 : Int))
 else false) =
 true →
 k
 (PV.tup
 [PV.arr (8 : Nat)
 (BRow.ints .u16
 (setZ x.2.2.2
 x.1
 (hexW
 (cutZ l
 x.2.2.1
 (x.2.2.1 +
 ↑(hexLen
 (List.drop
 x.2.2.1.toNat
 l))))))),
 PV.bool true])) ∧
 ((bif
 decide
 (x.1 + (1 : Int) <
 (0 : Int)) then
 decide
 (x.1 + (1 : Int) = (8 : Int))
 else false) =
 false →
 ((bif
 decide
 ((0 : Int) ≤
 x.1 + (1 : Int)) then
 decide
 (x.1 + (1 : Int) <
 (8 : Int))
 else false) =
 true →
 ((setZ x.2.2.2 x.1
 (hexW
 (cutZ l
 x.2.2.1
 (x.2.2.1 +
 ↑(hexLen
 (List.drop
 x.2.2.1.toNat
 l)))))).length =
 (8 : Nat) ∧
 (0 : Int) ≤ x.1 + (1 : Int) ∧
 x.1 + (1 : Int) ≤
 x.1 + (1 : Int) ∧
 x.1 + (1 : Int) ≤
 (7 : Int)) ∧
 k
 (PV.tup
 [PV.arr (8 : Nat)
 (BRow.ints
 .u16
 (spreadM
 (setZ
 x.2.2.2 x.1
 (hexW
 (cutZ l
 x.2.2.1
 (x.2.2.1 +
 ↑(hexLen
 (List.drop
 x.2.2.1.toNat
 l))))))
 (x.1 +
 (1 : Int)).toNat
 (x.1 +
 (1 :
 Int)).toNat)),
 PV.bool true])) ∧
 ((bif
 decide
 ((0 : Int) ≤
 x.1 + (1 : Int)) then
 decide
 (x.1 + (1 : Int) <
 (8 : Int))
 else false) =
 false →
 k
 (PV.tup
 [PV.arr (8 : Nat)
 (BRow.ints
 .u16
 (List.replicate (8 : Nat)
 (0 : Int))),
 PV.bool
 false]))))))))))) ∧
 ((!decide
 (byteZ l
 ((2 : Int) + ↑(hexLen (List.drop (Int.toNat (2 : Int)) l)) +
 (1 : Int)) =
 (58 : Int))) =
 false →
 (decide ((0 : Int) ≤ (0 : Int)) = true →
 k
 (PV.tup
 [PV.arr (8 : Nat) (BRow.ints .u16 (List.replicate (8 : Nat) (0 : Int))),
 PV.bool false])) ∧
 (decide ((0 : Int) ≤ (0 : Int)) = false →
 inI64
 ((2 : Int) + ↑(hexLen (List.drop (Int.toNat (2 : Int)) l)) +
 (1 : Int) +
 (1 : Int)) ∧
 (decide
 ((2 : Int) + ↑(hexLen (List.drop (Int.toNat (2 : Int)) l)) +
 (1 : Int) +
 (1 : Int) <
 lenZ l) =
 true →
 VS.mk []
 [(0, PV.str l),
 (2, PV.ptr ((2 : Nat) + (32 : Nat)) (0 : Nat)),
 (3, PV.bool false),
 (4, PV.ptr ((4 : Nat) + (32 : Nat)) (0 : Nat)),
 (5, PV.int .u32 (0 : Int)), (6, PV.bool false),
 (7, PV.int .i64 ((0 : Int) + (1 : Int))),
 (8, PV.int .i64 ((0 : Int) + (1 : Int))),
 (9,
 PV.int .i64
 ((2 : Int) +
 ↑(hexLen (List.drop (Int.toNat (2 : Int)) l)) +
 (1 : Int) +
 (1 : Int))),
 ((10 : Nat), PV.undef), ((13 : Nat), PV.undef),
 ((17 : Nat), PV.undef), ((30 : Nat), PV.undef),
 ((43 : Nat), PV.undef), ((56 : Nat), PV.undef),
 ((67 : Nat), PV.undef), ((73 : Nat), PV.undef),
 ((75 : Nat), PV.undef), ((82 : Nat), PV.undef),
 (95, PV.undef), (113, PV.undef),
 (120, PV.undef)]
 [((4 : Nat) + (32 : Nat),
 PV.arr (8 : Nat)
 (BRow.ints .u16
 (setZ (List.replicate (8 : Nat) (0 : Int)) (0 : Int)
 (hexW
 (cutZ l (2 : Int)
 ((2 : Int) +
 ↑(hexLen
 (List.drop (Int.toNat (2 : Int)) l)))))))),
 ((2 : Nat) + (32 : Nat),
 PV.arr (8 : Nat)
 (BRow.ints .u16 (List.replicate (8 : Nat) (0 : Int))))] =
 VS.mk []
 [((0 : Nat), PV.str l), ((2 : Nat), PV.ptr (34 : Nat) (0 : Nat)),
 ((3 : Nat), PV.bool false), ((4 : Nat), PV.ptr (36 : Nat) (0 : Nat)),
 ((5 : Nat), PV.int .u32 (0 : Int)), ((6 : Nat), PV.bool false),
 ((7 : Nat), PV.int .i64 ((0 : Int) + (1 : Int))),
 ((8 : Nat), PV.int .i64 ((0 : Int) + (1 : Int))),
 ((9 : Nat),
 PV.int .i64
 ((2 : Int) +
 ↑(hexLen (List.drop (Int.toNat (2 : Int)) l)) +
 (1 : Int) +
 (1 : Int))),
 ((10 : Nat), PV.undef), ((13 : Nat), PV.undef),
 ((17 : Nat), PV.undef), ((30 : Nat), PV.undef),
 ((43 : Nat), PV.undef), ((56 : Nat), PV.undef),
 ((67 : Nat), PV.undef), ((73 : Nat), PV.undef),
 ((75 : Nat), PV.undef), ((82 : Nat), PV.undef),
 ((95 : Nat), PV.undef), ((113 : Nat), PV.undef),
 ((120 : Nat), PV.undef)]
 [((36 : Nat),
 PV.arr (8 : Nat)
 (BRow.ints .u16
 (setZ (List.replicate (8 : Nat) (0 : Int)) (0 : Int)
 (hexW
 (cutZ l (2 : Int)
 ((2 : Int) +
 ↑(hexLen
 (List.drop (Int.toNat (2 : Int)) l)))))))),
 ((34 : Nat),
 PV.arr (8 : Nat)
 (BRow.ints .u16 (List.replicate (8 : Nat) (0 : Int))))] ∧
 (∃ (acc : List Int),
 (0 : Int) + (1 : Int) = ↑acc.length ∧
 acc.length ≤ (8 : Nat) ∧
 setZ (List.replicate (8 : Nat) (0 : Int)) (0 : Int)
 (hexW
 (cutZ l (2 : Int)
 ((2 : Int) +
 ↑(hexLen
 (List.drop (Int.toNat (2 : Int)) l))))) =
 pad acc ∧
 (-1 : Int) ≤ (0 : Int) + (1 : Int) ∧
 (0 : Int) + (1 : Int) ≤ (0 : Int) + (1 : Int) ∧
 (0 : Int) ≤
 (2 : Int) +
 ↑(hexLen
 (List.drop (Int.toNat (2 : Int)) l)) +
 (1 : Int) +
 (1 : Int) ∧
 (2 : Int) +
 ↑(hexLen
 (List.drop (Int.toNat (2 : Int)) l)) +
 (1 : Int) +
 (1 : Int) ≤
 ↑(List.length l) ∧
 six1 l ((9 : Nat) - acc.length) acc
 ((0 : Int) + (1 : Int))
 ((2 : Int) +
 ↑(hexLen
 (List.drop (Int.toNat (2 : Int)) l)) +
 (1 : Int) +
 (1 : Int)).toNat =
 six l) ∧
 ∀ (x : Int × Int × Int × List Int),
 (∃ (acc : List Int),
 x.1 = ↑acc.length ∧
 acc.length ≤ (8 : Nat) ∧
 x.2.2.2 = pad acc ∧
 (-1 : Int) ≤ x.2.1 ∧
 x.2.1 ≤ x.1 ∧
 (0 : Int) ≤ x.2.2.1 ∧
 x.2.2.1 ≤ ↑(List.length l) ∧
 six1 l ((9 : Nat) - acc.length) acc
 x.2.1 x.2.2.1.toNat =
 six l) →
 ((0 : Int) ≤ x.2.2.1 ∧
 x.2.2.1 ≤ ↑(List.length l) ∧ List.length l ≤ (1000000 : Nat)) ∧
 (decide
 (x.2.2.1 +
 ↑(hexLen
 (List.drop x.2.2.1.toNat l)) <
 lenZ l) =
 true →
 within
 (x.2.2.1 +
 ↑(hexLen (List.drop x.2.2.1.toNat l)))
 (lenZ l)) ∧
 ((bif
 decide
 (x.2.2.1 +
 ↑(hexLen
 (List.drop x.2.2.1.toNat l)) <
 lenZ l) then
 decide
 (byteZ l
 (x.2.2.1 +
 ↑(hexLen
 (List.drop x.2.2.1.toNat l))) =
 (46 : Int))
 else false) =
 true →
 upto x.2.2.1 (lenZ l) (lenZ l) ∧
 (dropZ l x.2.2.1).length.le (1000000 : Nat) ∧
 ((bif
 !dotO
 (dropZ l x.2.2.1) then
 true
 else decide ((6 : Int) < x.1)) =
 true →
 k
 (PV.tup
 [PV.arr (8 : Nat)
 (BRow.ints .u16
 (List.replicate (8 : Nat) (0 : Int))),
 PV.bool false])) ∧
 ((bif
 !dotO
 (dropZ l x.2.2.1) then
 true
 else decide ((6 : Int) < x.1)) =
 false →
 inI64 (x.1 + (1 : Int)) ∧
 (0 : Int) ≤ (16 : Int) ∧
 within x.1 ↑(8 : Nat) ∧
 (within x.1 ↑(8 : Nat) ∧ True) ∧
 within (x.1 + (1 : Int)) ↑(8 : Nat) ∧
 (within (x.1 + (1 : Int)) ↑(8 : Nat) ∧ True) ∧
 inI64 (x.1 + (2 : Int)) ∧
 ((bif decide (x.2.1 < (0 : Int)) then
 decide (x.1 + (2 : Int) = (8 : Int))
 else false) =
 true →
 k
 (PV.tup
 [PV.arr (8 : Nat)
 (BRow.ints .u16
 (setZ
 (setZ x.2.2.2 x.1
 (Go.IntKind.u16.wrap
 (shrZ .u32
 (dotV
 (dropZ l x.2.2.1))
 (16 : Int))))
 (x.1 + (1 : Int))
 (Go.IntKind.u16.wrap
 (dotV
 (dropZ l x.2.2.1))))),
 PV.bool true])) ∧
 ((bif decide (x.2.1 < (0 : Int)) then
 decide (x.1 + (2 : Int) = (8 : Int))
 else false) =
 false →
 ((bif decide ((0 : Int) ≤ x.2.1) then
 decide (x.1 + (2 : Int) < (8 : Int))
 else false) =
 true →
 ((setZ
 (setZ x.2.2.2 x.1
 (Go.IntKind.u16.wrap
 (shrZ .u32
 (dotV
 (dropZ l x.2.2.1))
 (16 : Int))))
 (x.1 + (1 : Int))
 (Go.IntKind.u16.wrap
 (dotV
 (dropZ l
 x.2.2.1)))).length =
 (8 : Nat) ∧
 (0 : Int) ≤ x.2.1 ∧
 x.2.1 ≤ x.1 + (2 : Int) ∧
 x.1 + (2 : Int) ≤ (7 : Int)) ∧
 k
 (PV.tup
 [PV.arr (8 : Nat)
 (BRow.ints .u16
 (spreadM
 (setZ
 (setZ x.2.2.2 x.1
 (Go.IntKind.u16.wrap
 (shrZ .u32
 (dotV
 (dropZ l
 x.2.2.1))
 (16 : Int))))
 (x.1 + (1 : Int))
 (Go.IntKind.u16.wrap
 (dotV
 (dropZ l
 x.2.2.1))))
 (x.1 + (2 : Int)).toNat
 x.2.1.toNat)),
 PV.bool true])) ∧
 ((bif decide ((0 : Int) ≤ x.2.1) then
 decide (x.1 + (2 : Int) < (8 : Int))
 else false) =
 false →
 k
 (PV.tup
 [PV.arr (8 : Nat)
 (BRow.ints .u16
 (List.replicate (8 : Nat) (0 : Int))),
 PV.bool false]))))) ∧
 ((bif
 decide
 (x.2.2.1 +
 ↑(hexLen
 (List.drop x.2.2.1.toNat l)) <
 lenZ l) then
 decide
 (byteZ l
 (x.2.2.1 +
 ↑(hexLen
 (List.drop x.2.2.1.toNat l))) =
 (46 : Int))
 else false) =
 false →
 ((bif decide (x.1 = (8 : Int)) then true
 else
 decide
 (x.2.2.1 +
 ↑(hexLen
 (List.drop x.2.2.1.toNat l)) =
 x.2.2.1)) =
 false →
 inI64 (x.2.2.1 + (4 : Int))) ∧
 ((bif
 bif decide (x.1 = (8 : Int)) then true
 else
 decide
 (x.2.2.1 +
 ↑(hexLen
 (List.drop x.2.2.1.toNat l)) =
 x.2.2.1) then
 true
 else
 decide
 (x.2.2.1 + (4 : Int) <
 x.2.2.1 +
 ↑(hexLen
 (List.drop x.2.2.1.toNat l)))) =
 true →
 k
 (PV.tup
 [PV.arr (8 : Nat)
 (BRow.ints .u16
 (List.replicate (8 : Nat) (0 : Int))),
 PV.bool false])) ∧
 ((bif
 bif decide (x.1 = (8 : Int)) then true
 else
 decide
 (x.2.2.1 +
 ↑(hexLen
 (List.drop x.2.2.1.toNat l)) =
 x.2.2.1) then
 true
 else
 decide
 (x.2.2.1 + (4 : Int) <
 x.2.2.1 +
 ↑(hexLen
 (List.drop x.2.2.1.toNat l)))) =
 false →
 upto x.2.2.1
 (x.2.2.1 +
 ↑(hexLen
 (List.drop x.2.2.1.toNat l)))
 (lenZ l) ∧
 ((cutZ l x.2.2.1
 (x.2.2.1 +
 ↑(hexLen
 (List.drop x.2.2.1.toNat l)))).length ≤
 (4 : Nat) ∧
 ∀ (i : Nat),
 i <
 (cutZ l x.2.2.1
 (x.2.2.1 +
 ↑(hexLen
 (List.drop x.2.2.1.toNat l)))).length →
 (0 : Int) ≤
 hexN
 (byt
 (cutZ l x.2.2.1
 (x.2.2.1 +
 ↑(hexLen
 (List.drop x.2.2.1.toNat l))))
 i)) ∧
 within x.1 ↑(8 : Nat) ∧
 (within x.1 ↑(8 : Nat) ∧ True) ∧
 inI64 (x.1 + (1 : Int)) ∧
 (decide
 (x.2.2.1 +
 ↑(hexLen
 (List.drop x.2.2.1.toNat l)) =
 lenZ l) =
 true →
 ((bif decide (x.2.1 < (0 : Int)) then
 decide (x.1 + (1 : Int) = (8 : Int))
 else false) =
 true →
 k
 (PV.tup
 [PV.arr (8 : Nat)
 (BRow.ints .u16
 (setZ x.2.2.2 x.1
 (hexW
 (cutZ l x.2.2.1
 (x.2.2.1 +
 ↑(hexLen
 (List.drop x.2.2.1.toNat
 l))))))),
 PV.bool true])) ∧
 ((bif decide (x.2.1 < (0 : Int)) then
 decide (x.1 + (1 : Int) = (8 : Int))
 else false) =
 false →
 ((bif decide ((0 : Int) ≤ x.2.1) then
 decide (x.1 + (1 : Int) < (8 : Int))
 else false) =
 true →
 ((setZ x.2.2.2 x.1
 (hexW
 (cutZ l x.2.2.1
 (x.2.2.1 +
 ↑(hexLen
 (List.drop x.2.2.1.toNat
 l)))))).length =
 (8 : Nat) ∧
 (0 : Int) ≤ x.2.1 ∧
 x.2.1 ≤ x.1 + (1 : Int) ∧
 x.1 + (1 : Int) ≤ (7 : Int)) ∧
 k
 (PV.tup
 [PV.arr (8 : Nat)
 (BRow.ints .u16
 (spreadM
 (setZ x.2.2.2 x.1
 (hexW
 (cutZ l x.2.2.1
 (x.2.2.1 +
 ↑(hexLen
 (List.drop
 x.2.2.1.toNat
 l))))))
 (x.1 + (1 : Int)).toNat
 x.2.1.toNat)),
 PV.bool true])) ∧
 ((bif decide ((0 : Int) ≤ x.2.1) then
 decide (x.1 + (1 : Int) < (8 : Int))
 else false) =
 false →
 k
 (PV.tup
 [PV.arr (8 : Nat)
 (BRow.ints .u16
 (List.replicate (8 : Nat) (0 : Int))),
 PV.bool false])))) ∧
 (decide
 (x.2.2.1 +
 ↑(hexLen
 (List.drop x.2.2.1.toNat l)) =
 lenZ l) =
 false →
 within
 (x.2.2.1 +
 ↑(hexLen
 (List.drop x.2.2.1.toNat l)))
 (lenZ l) ∧
 ((!decide
 (byteZ l
 (x.2.2.1 +
 ↑(hexLen
 (List.drop x.2.2.1.toNat l))) =
 (58 : Int))) =
 false →
 inI64
 (x.2.2.1 +
 ↑(hexLen
 (List.drop x.2.2.1.toNat l)) +
 (1 : Int))) ∧
 ((bif
 !decide
 (byteZ l
 (x.2.2.1 +
 ↑(hexLen
 (List.drop x.2.2.1.toNat
 l))) =
 (58 : Int)) then
 true
 else
 decide
 (x.2.2.1 +
 ↑(hexLen
 (List.drop x.2.2.1.toNat l)) +
 (1 : Int) =
 lenZ l)) =
 true →
 k
 (PV.tup
 [PV.arr (8 : Nat)
 (BRow.ints .u16
 (List.replicate (8 : Nat) (0 : Int))),
 PV.bool false])) ∧
 ((bif
 !decide
 (byteZ l
 (x.2.2.1 +
 ↑(hexLen
 (List.drop x.2.2.1.toNat
 l))) =
 (58 : Int)) then
 true
 else
 decide
 (x.2.2.1 +
 ↑(hexLen
 (List.drop x.2.2.1.toNat l)) +
 (1 : Int) =
 lenZ l)) =
 false →
 inI64
 (x.2.2.1 +
 ↑(hexLen
 (List.drop x.2.2.1.toNat l)) +
 (1 : Int)) ∧
 within
 (x.2.2.1 +
 ↑(hexLen
 (List.drop x.2.2.1.toNat l)) +
 (1 : Int))
 (lenZ l) ∧
 ((!decide
 (byteZ l
 (x.2.2.1 +
 ↑(hexLen
 (List.drop
 x.2.2.1.toNat
 l)) +
 (1 : Int)) =
 (58 : Int))) =
 true →
 VS.mk []
 [((0 : Nat), PV.str l),
 ((2 : Nat),
 PV.ptr (34 : Nat)
 (0 : Nat)),
 ((3 : Nat), PV.bool false),
 ((4 : Nat),
 PV.ptr (36 : Nat)
 (0 : Nat)),
 ((5 : Nat),
 PV.int .u32
 (0 : Int)),
 ((6 : Nat), PV.bool false),
 ((7 : Nat),
 PV.int .i64
 (x.1 + (1 : Int))),
 ((8 : Nat),
 PV.int .i64
 x.2.1),
 ((9 : Nat),
 PV.int .i64
 (x.2.2.1 +
 ↑(hexLen
 (List.drop
 x.2.2.1.toNat
 l)) +
 (1 : Int))),
 ((10 : Nat), PV.undef),
 ((13 : Nat), PV.undef),
 ((17 : Nat), PV.undef),
 ((30 : Nat), PV.undef),
 ((43 : Nat), PV.undef),
 ((56 : Nat), PV.undef),
 ((67 : Nat), PV.undef),
 ((73 : Nat), PV.undef),
 ((75 : Nat), PV.undef),
 ((82 : Nat), PV.undef),
 ((95 : Nat), PV.undef),
 ((113 : Nat), PV.undef),
 ((120 : Nat), PV.undef)]
 [((36 : Nat),
 PV.arr (8 : Nat)
 (BRow.ints .u16
 (setZ x.2.2.2
 x.1
 (hexW
 (cutZ l
 x.2.2.1
 (x.2.2.1 +
 ↑(hexLen
 (List.drop
 x.2.2.1.toNat
 l)))))))),
 ((34 : Nat),
 PV.arr (8 : Nat)
 (BRow.ints .u16
 (List.replicate (8 : Nat)
 (0 : Int))))] =
 VS.mk []
 [((0 : Nat), PV.str l),
 ((2 : Nat),
 PV.ptr (34 : Nat)
 (0 : Nat)),
 ((3 : Nat), PV.bool false),
 ((4 : Nat),
 PV.ptr (36 : Nat)
 (0 : Nat)),
 ((5 : Nat),
 PV.int .u32
 (0 : Int)),
 ((6 : Nat), PV.bool false),
 ((7 : Nat),
 PV.int .i64
 (x.1 + (1 : Int))),
 ((8 : Nat),
 PV.int .i64
 x.2.1),
 ((9 : Nat),
 PV.int .i64
 (x.2.2.1 +
 ↑(hexLen
 (List.drop
 x.2.2.1.toNat
 l)) +
 (1 : Int))),
 ((10 : Nat), PV.undef),
 ((13 : Nat), PV.undef),
 ((17 : Nat), PV.undef),
 ((30 : Nat), PV.undef),
 ((43 : Nat), PV.undef),
 ((56 : Nat), PV.undef),
 ((67 : Nat), PV.undef),
 ((73 : Nat), PV.undef),
 ((75 : Nat), PV.undef),
 ((82 : Nat), PV.undef),
 ((95 : Nat), PV.undef),
 ((113 : Nat), PV.undef),
 ((120 : Nat), PV.undef)]
 [((36 : Nat),
 PV.arr (8 : Nat)
 (BRow.ints .u16
 (setZ x.2.2.2
 x.1
 (hexW
 (cutZ l
 x.2.2.1
 (x.2.2.1 +
 ↑(hexLen
 (List.drop
 x.2.2.1.toNat
 l)))))))),
 ((34 : Nat),
 PV.arr (8 : Nat)
 (BRow.ints .u16
 (List.replicate (8 : Nat)
 (0 : Int))))] ∧
 (∃ (acc : List Int),
 x.1 + (1 : Int) = ↑acc.length ∧
 acc.length ≤ (8 : Nat) ∧
 setZ x.2.2.2 x.1
 (hexW
 (cutZ l
 x.2.2.1
 (x.2.2.1 +
 ↑(hexLen
 (List.drop
 x.2.2.1.toNat
 l))))) =
 pad
 acc ∧
 (-1 : Int) ≤ x.2.1 ∧
 x.2.1 ≤
 x.1 + (1 : Int) ∧
 (0 : Int) ≤
 x.2.2.1 +
 ↑(hexLen
 (List.drop
 x.2.2.1.toNat
 l)) +
 (1 : Int) ∧
 x.2.2.1 +
 ↑(hexLen
 (List.drop
 x.2.2.1.toNat
 l)) +
 (1 : Int) ≤
 ↑(List.length l) ∧
 six1
 l
 ((9 : Nat) -
 acc.length)
 acc x.2.1
 (x.2.2.1 +
 ↑(hexLen
 (List.drop
 x.2.2.1.toNat
 l)) +
 (1 :
 Int)).toNat =
 six
 l) ∧
 ((9 : Int) -
 (x.1 + (1 : Int))).toNat <
 ((9 : Int) - x.1).toNat) ∧
 ((!decide
 (byteZ l
 (x.2.2.1 +
 ↑(hexLen
 (List.drop
 x.2.2.1.toNat
 l)) +
 (1 : Int)) =
 (58 : Int))) =
 false →
 (decide ((0 : Int) ≤ x.2.1) = true →
 k
 (PV.tup
 [PV.arr (8 : Nat)
 (BRow.ints .u16
 (List.replicate (8 : Nat)
 (0 : Int))),
 PV.bool false])) ∧
 (decide ((0 : Int) ≤ x.2.1) = false →
 inI64
 (x.2.2.1 +
 ↑(hexLen
 (List.drop
 x.2.2.1.toNat
 l)) +
 (1 : Int) +
 (1 : Int)) ∧
 (decide
 (x.2.2.1 +
 ↑(hexLen
 (List.drop
 x.2.2.1.toNat
 l)) +
 (1 : Int) +
 (1 : Int) <
 lenZ l) =
 true →
 VS.mk []
 [((0 : Nat),
 PV.str l),
 ((2 : Nat),
 PV.ptr (34 : Nat)
 (0 : Nat)),
 ((3 : Nat),
 PV.bool false),
 ((4 : Nat),
 PV.ptr (36 : Nat)
 (0 : Nat)),
 ((5 : Nat),
 PV.int
 .u32
 (0 : Int)),
 ((6 : Nat),
 PV.bool false),
 ((7 : Nat),
 PV.int
 .i64
 (x.1 + (1 : Int))),
 ((8 : Nat),
 PV.int
 .i64
 (x.1 + (1 : Int))),
 ((9 : Nat),
 PV.int
 .i64
 (x.2.2.1 +
 ↑(hexLen
 (List.drop
 x.2.2.1.toNat
 l)) +
 (1 : Int) +
 (1 : Int))),
 ((10 : Nat),
 PV.undef),
 ((13 : Nat),
 PV.undef),
 ((17 : Nat),
 PV.undef),
 ((30 : Nat),
 PV.undef),
 ((43 : Nat),
 PV.undef),
 ((56 : Nat),
 PV.undef),
 ((67 : Nat),
 PV.undef),
 ((73 : Nat),
 PV.undef),
 ((75 : Nat),
 PV.undef),
 ((82 : Nat),
 PV.undef),
 ((95 : Nat),
 PV.undef),
 ((113 : Nat),
 PV.undef),
 ((120 : Nat),
 PV.undef)]
 [((36 : Nat),
 PV.arr (8 : Nat)
 (BRow.ints
 .u16
 (setZ
 x.2.2.2
 x.1
 (hexW
 (cutZ l
 x.2.2.1
 (x.2.2.1 +
 ↑(hexLen
 (List.drop
 x.2.2.1.toNat
 l)))))))),
 ((34 : Nat),
 PV.arr (8 : Nat)
 (BRow.ints
 .u16
 (List.replicate
 (8 : Nat)
 (0 : Int))))] =
 VS.mk []
 [((0 : Nat),
 PV.str l),
 ((2 : Nat),
 PV.ptr (34 : Nat)
 (0 : Nat)),
 ((3 : Nat),
 PV.bool false),
 ((4 : Nat),
 PV.ptr (36 : Nat)
 (0 : Nat)),
 ((5 : Nat),
 PV.int
 .u32
 (0 : Int)),
 ((6 : Nat),
 PV.bool false),
 ((7 : Nat),
 PV.int
 .i64
 (x.1 + (1 : Int))),
 ((8 : Nat),
 PV.int
 .i64
 (x.1 + (1 : Int))),
 ((9 : Nat),
 PV.int
 .i64
 (x.2.2.1 +
 ↑(hexLen
 (List.drop
 x.2.2.1.toNat
 l)) +
 (1 : Int) +
 (1 : Int))),
 ((10 : Nat),
 PV.undef),
 ((13 : Nat),
 PV.undef),
 ((17 : Nat),
 PV.undef),
 ((30 : Nat),
 PV.undef),
 ((43 : Nat),
 PV.undef),
 ((56 : Nat),
 PV.undef),
 ((67 : Nat),
 PV.undef),
 ((73 : Nat),
 PV.undef),
 ((75 : Nat),
 PV.undef),
 ((82 : Nat),
 PV.undef),
 ((95 : Nat),
 PV.undef),
 ((113 : Nat),
 PV.undef),
 ((120 : Nat),
 PV.undef)]
 [((36 : Nat),
 PV.arr (8 : Nat)
 (BRow.ints
 .u16
 (setZ
 x.2.2.2
 x.1
 (hexW
 (cutZ l
 x.2.2.1
 (x.2.2.1 +
 ↑(hexLen
 (List.drop
 x.2.2.1.toNat
 l)))))))),
 ((34 : Nat),
 PV.arr (8 : Nat)
 (BRow.ints
 .u16
 (List.replicate
 (8 : Nat)
 (0 : Int))))] ∧
 (∃ (acc : List Int),
 x.1 + (1 : Int) =
 ↑acc.length ∧
 acc.length ≤ (8 : Nat) ∧
 setZ x.2.2.2
 x.1
 (hexW
 (cutZ l
 x.2.2.1
 (x.2.2.1 +
 ↑(hexLen
 (List.drop
 x.2.2.1.toNat
 l))))) =
 pad
 acc ∧
 (-1 : Int) ≤
 x.1 +
 (1 : Int) ∧
 x.1 + (1 : Int) ≤
 x.1 +
 (1 : Int) ∧
 (0 : Int) ≤
 x.2.2.1 +
 ↑(hexLen
 (List.drop
 x.2.2.1.toNat
 l)) +
 (1 :
 Int) +
 (1 : Int) ∧
 x.2.2.1 +
 ↑(hexLen
 (List.drop
 x.2.2.1.toNat
 l)) +
 (1 :
 Int) +
 (1 :
 Int) ≤
 ↑(List.length
 l) ∧
 six1
 l
 ((9 :
 Nat) -
 acc.length)
 acc
 (x.1 +
 (1 :
 Int))
 (x.2.2.1 +
 ↑(hexLen
 (List.drop
 x.2.2.1.toNat
 l)) +
 (1 :
 Int) +
 (1 :
 Int)).toNat =
 six
 l) ∧
 ((9 : Int) -
 (x.1 +
 (1 : Int))).toNat <
 ((9 : Int) - x.1).toNat) ∧
 (decide
 (x.2.2.1 +
 ↑(hexLen
 (List.drop
 x.2.2.1.toNat
 l)) +
 (1 : Int) +
 (1 : Int) <
 lenZ l) =
 false →
 ((bif
 decide
 (x.1 + (1 : Int) <
 (0 : Int)) then
 decide
 (x.1 + (1 : Int) =
 (8 : Int))
 else false) =
 true →
 k
 (PV.tup
 [PV.arr (8 : Nat)
 (BRow.ints
 .u16
 (setZ
 x.2.2.2
 x.1
 (hexW
 (cutZ l
 x.2.2.1
 (x.2.2.1 +
 ↑(hexLen
 (List.drop
 x.2.2.1.toNat
 l))))))),
 PV.bool true])) ∧
 ((bif
 decide
 (x.1 + (1 : Int) <
 (0 : Int)) then
 decide
 (x.1 + (1 : Int) =
 (8 : Int))
 else false) =
 false →
 ((bif
 decide
 ((0 : Int) ≤
 x.1 +
 (1 :
 Int)) then
 decide
 (x.1 + (1 : Int) <
 (8 : Int))
 else false) =
 true →
 ((setZ x.2.2.2
 x.1
 (hexW
 (cutZ l
 x.2.2.1
 (x.2.2.1 +
 ↑(hexLen
 (List.drop
 x.2.2.1.toNat
 l)))))).length =
 (8 : Nat) ∧
 (0 : Int) ≤
 x.1 +
 (1 : Int) ∧
 x.1 + (1 : Int) ≤
 x.1 +
 (1 : Int) ∧
 x.1 +
 (1 : Int) ≤
 (7 : Int)) ∧
 k
 (PV.tup
 [PV.arr
 (8 : Nat)
 (BRow.ints
 .u16
 (spreadM
 (setZ
 x.2.2.2
 x.1
 (hexW
 (cutZ
 l
 x.2.2.1
 (x.2.2.1 +
 ↑(hexLen
 (List.drop
 x.2.2.1.toNat
 l))))))
 (x.1 +
 (1 :
 Int)).toNat
 (x.1 +
 (1 :
 Int)).toNat)),
 PV.bool
 true])) ∧
 ((bif
 decide
 ((0 : Int) ≤
 x.1 +
 (1 :
 Int)) then
 decide
 (x.1 + (1 : Int) <
 (8 : Int))
 else false) =
 false →
 k
 (PV.tup
 [PV.arr
 (8 : Nat)
 (BRow.ints
 .u16
 (List.replicate
 (8 : Nat)
 (0 : Int))),
 PV.bool
 false]))))))))))) ∧
 (decide
 ((2 : Int) + ↑(hexLen (List.drop (Int.toNat (2 : Int)) l)) +
 (1 : Int) +
 (1 : Int) <
 lenZ l) =
 false →
 (false = true →
 k
 (PV.tup
 [PV.arr (8 : Nat)
 (BRow.ints .u16
 (setZ (List.replicate (8 : Nat) (0 : Int)) (0 : Int)
 (hexW
 (cutZ l (2 : Int)
 ((2 : Int) +
 ↑(hexLen
 (List.drop (Int.toNat (2 : Int)) l))))))),
 PV.bool true])) ∧
 (false = false →
 (decide ((0 : Int) + (1 : Int) < (8 : Int)) = true →
 ((setZ (List.replicate (8 : Nat) (0 : Int)) (0 : Int)
 (hexW
 (cutZ l (2 : Int)
 ((2 : Int) +
 ↑(hexLen
 (List.drop (Int.toNat (2 : Int)) l)))))).length =
 (8 : Nat) ∧
 (0 : Int) ≤ (0 : Int) + (1 : Int) ∧
 (0 : Int) + (1 : Int) ≤ (0 : Int) + (1 : Int) ∧
 (0 : Int) + (1 : Int) ≤ (7 : Int)) ∧
 k
 (PV.tup
 [PV.arr (8 : Nat)
 (BRow.ints .u16
 (spreadM
 (setZ (List.replicate (8 : Nat) (0 : Int)) (0 : Int)
 (hexW
 (cutZ l (2 : Int)
 ((2 : Int) +
 ↑(hexLen
 (List.drop (Int.toNat (2 : Int)) l))))))
 ((0 : Int) + (1 : Int)).toNat ((0 : Int) + (1 : Int)).toNat)),
 PV.bool true])) ∧
 (decide ((0 : Int) + (1 : Int) < (8 : Int)) = false →
 k
 (PV.tup
 [PV.arr (8 : Nat)
 (BRow.ints .u16 (List.replicate (8 : Nat) (0 : Int))),
 PV.bool false]))))))))))))) := by kernel_rfl
attribute [local irreducible] Go.Vc.evF
theorem ok_parse (l : Bs) : FuncOk Tryd.prog noT 5 [.str l] ⟨l.length ≤ 1000000, .tup [.arr 8 (.ints .u16 (six l).1), .bool (six l).2]⟩ := evF_ok (by kernel_rfl) X_parse_ok (H := H_parse l) (fuel := 1000) Tryd.func5 (by kernel_rfl) fun hpre => (vc_parse l _).mpr (by
  refine ⟨trivial, fun hp => ⟨rfl, ⟨[], rfl, by decide, rfl, by omega, by omega, by omega, by omega, ?_⟩, fun x hx => ?_⟩, fun hp => ⟨fun h2 => ?_, fun h2 => ?_⟩⟩
  · rw [notB6] at hp
    have hp2 : ¬ Lib.hasPrefix l [58, 58] = true := hp
    show six1 l 9 [] (-1) 0 = six l
    unfold six
    rw [if_neg hp2]
  · obtain ⟨c, g, a, p⟩ := x
    obtain ⟨acc, hC, h8, hp', g1, g2, a0, a1, hs⟩ := hx
    dsimp only at hC hp' g1 g2 a0 a1 hs
    subst hC hp'
    obtain ⟨i, rfl⟩ := Int.eq_ofNat_of_zero_le a0
    rw [Int.toNat_natCast] at hs
    have hE : (i : Int) + ((hexLen (l.drop ((i : Int).toNat)) : Nat) : Int) = ((i + hexLen (l.drop i) : Nat) : Int) := by rw [Int.toNat_natCast]; push_cast; rfl
    refine body6_ok (fun v => v = .tup [.arr 8 (.ints .u16 (six l).1), .bool (six l).2]) _ _ l g i (i + hexLen (l.drop i)) acc (six l) hpre h8 g1 g2 (by omega) rfl hs rfl (fun a h1 h2 h3 h4 h5 => ?_) (fun a h1 h2 h3 h4 h5 => ?_)
    · exact ⟨rfl, ⟨a, by rw [h1]; push_cast; rfl, h3, by rw [hE]; exact h2, g1, by dsimp only; omega, by dsimp only; omega, by dsimp only; rw [hE]; omega, by rw [hE, show ((i + hexLen (l.drop i) : Nat) : Int) + 1 = ((i + hexLen (l.drop i) + 1 : Nat) : Int) by push_cast; rfl, Int.toNat_natCast]; exact h5⟩, by dsimp only; omega⟩
    · exact ⟨rfl, ⟨a, by rw [h1]; push_cast; rfl, h3, by rw [hE]; exact h2, by dsimp only; omega, by dsimp only; omega, by dsimp only; omega, by dsimp only; rw [hE]; omega, by rw [hE, show ((i + hexLen (l.drop i) : Nat) : Int) + 1 + 1 = ((i + hexLen (l.drop i) + 2 : Nat) : Int) by push_cast; omega, Int.toNat_natCast]; exact h5⟩, by dsimp only; omega⟩
  · have hp2 : Lib.hasPrefix l [58, 58] = true := by
      have hp3 : (!Lib.hasPrefix l [58, 58]) = false := hp
      rw [Bool.not_eq_false'] at hp3
      exact hp3
    have h3 : l.length = 2 := by have h4 : (2 : Int) = (l.length : Int) := of_decide_eq_true h2; omega
    have h5 : six l = (spreadM (pad []) 0 0, true) := by unfold six; rw [if_pos hp2, if_pos h3]; rfl
    refine ⟨(fun h => by cases h), fun _ => ⟨fun _ => ⟨⟨rfl, by omega, by omega, by omega⟩, ?_⟩, (fun h => by cases h)⟩⟩
    show PV.tup _ = PV.tup _
    rw [h5]
    rfl
  · have hp2 : Lib.hasPrefix l [58, 58] = true := by
      have hp3 : (!Lib.hasPrefix l [58, 58]) = false := hp
      rw [Bool.not_eq_false'] at hp3
      exact hp3
    have h3 : ¬ l.length = 2 := by have h4 : ¬ (2 : Int) = (l.length : Int) := of_decide_eq_false h2; omega
    have h5 : six1 l 9 [] 0 2 = six l := by unfold six; rw [if_pos hp2, if_neg h3]
    have h6 : 2 ≤ l.length := pre_len hp2
    refine body6_ok (fun v => v = .tup [.arr 8 (.ints .u16 (six l).1), .bool (six l).2]) _ _ l 0 2 (2 + hexLen (l.drop 2)) [] (six l) hpre (by decide) (by omega) (by simp) h6 rfl h5 rfl (fun a h1 h2 h3 h4 h5 => ?_) (fun a h1 h2 h3 h4 h5 => ?_)
    · refine ⟨rfl, ⟨a, by rw [h1]; rfl, h3, h2, by omega, by omega, by omega, by show (2 : Int) + ((hexLen (l.drop 2) : Nat) : Int) + 1 ≤ _; omega, ?_⟩, fun x hx => ?_⟩
      · rw [show ((2 : Int) + ((hexLen (l.drop (Int.toNat 2)) : Nat) : Int) + 1).toNat = 2 + hexLen (l.drop 2) + 1 by show ((2 : Int) + ((hexLen (l.drop 2) : Nat) : Int) + 1).toNat = _; omega]
        exact h5
      · obtain ⟨c, g, a, p⟩ := x
        obtain ⟨acc, hC, h8, hp', g1, g2, a0, a1, hs⟩ := hx
        dsimp only at hC hp' g1 g2 a0 a1 hs
        subst hC hp'
        obtain ⟨i, rfl⟩ := Int.eq_ofNat_of_zero_le a0
        rw [Int.toNat_natCast] at hs
        have hE : (i : Int) + ((hexLen (l.drop ((i : Int).toNat)) : Nat) : Int) = ((i + hexLen (l.drop i) : Nat) : Int) := by rw [Int.toNat_natCast]; push_cast; rfl
        refine body6_ok (fun v => v = .tup [.arr 8 (.ints .u16 (six l).1), .bool (six l).2]) _ _ l g i (i + hexLen (l.drop i)) acc (six l) hpre h8 g1 g2 (by omega) rfl hs rfl (fun a h1 h2 h3 h4 h5 => ?_) (fun a h1 h2 h3 h4 h5 => ?_)
        · exact ⟨rfl, ⟨a, by rw [h1]; push_cast; rfl, h3, by rw [hE]; exact h2, g1, by dsimp only; omega, by dsimp only; omega, by dsimp only; rw [hE]; omega, by rw [hE, show ((i + hexLen (l.drop i) : Nat) : Int) + 1 = ((i + hexLen (l.drop i) + 1 : Nat) : Int) by push_cast; rfl, Int.toNat_natCast]; exact h5⟩, by dsimp only; omega⟩
        · exact ⟨rfl, ⟨a, by rw [h1]; push_cast; rfl, h3, by rw [hE]; exact h2, by dsimp only; omega, by dsimp only; omega, by dsimp only; omega, by dsimp only; rw [hE]; omega, by rw [hE, show ((i + hexLen (l.drop i) : Nat) : Int) + 1 + 1 = ((i + hexLen (l.drop i) + 2 : Nat) : Int) by push_cast; omega, Int.toNat_natCast]; exact h5⟩, by dsimp only; omega⟩
    · refine ⟨rfl, ⟨a, by rw [h1]; rfl, h3, h2, by omega, by omega, by omega, by show (2 : Int) + ((hexLen (l.drop 2) : Nat) : Int) + 1 + 1 ≤ _; omega, ?_⟩, fun x hx => ?_⟩
      · rw [show ((2 : Int) + ((hexLen (l.drop (Int.toNat 2)) : Nat) : Int) + 1 + 1).toNat = 2 + hexLen (l.drop 2) + 2 by show ((2 : Int) + ((hexLen (l.drop 2) : Nat) : Int) + 1 + 1).toNat = _; omega]
        exact h5
      · obtain ⟨c, g, a, p⟩ := x
        obtain ⟨acc, hC, h8, hp', g1, g2, a0, a1, hs⟩ := hx
        dsimp only at hC hp' g1 g2 a0 a1 hs
        subst hC hp'
        obtain ⟨i, rfl⟩ := Int.eq_ofNat_of_zero_le a0
        rw [Int.toNat_natCast] at hs
        have hE : (i : Int) + ((hexLen (l.drop ((i : Int).toNat)) : Nat) : Int) = ((i + hexLen (l.drop i) : Nat) : Int) := by rw [Int.toNat_natCast]; push_cast; rfl
        refine body6_ok (fun v => v = .tup [.arr 8 (.ints .u16 (six l).1), .bool (six l).2]) _ _ l g i (i + hexLen (l.drop i)) acc (six l) hpre h8 g1 g2 (by omega) rfl hs rfl (fun a h1 h2 h3 h4 h5 => ?_) (fun a h1 h2 h3 h4 h5 => ?_)
        · exact ⟨rfl, ⟨a, by rw [h1]; push_cast; rfl, h3, by rw [hE]; exact h2, g1, by dsimp only; omega, by dsimp only; omega, by dsimp only; rw [hE]; omega, by rw [hE, show ((i + hexLen (l.drop i) : Nat) : Int) + 1 = ((i + hexLen (l.drop i) + 1 : Nat) : Int) by push_cast; rfl, Int.toNat_natCast]; exact h5⟩, by dsimp only; omega⟩
        · exact ⟨rfl, ⟨a, by rw [h1]; push_cast; rfl, h3, by rw [hE]; exact h2, by dsimp only; omega, by dsimp only; omega, by dsimp only; omega, by dsimp only; rw [hE]; omega, by rw [hE, show ((i + hexLen (l.drop i) : Nat) : Int) + 1 + 1 = ((i + hexLen (l.drop i) + 2 : Nat) : Int) by push_cast; omega, Int.toNat_natCast]; exact h5⟩, by dsimp only; omega⟩)
def ent_parse : List PV → Option CallR := fun xs => match xs with
  | [.str l] => some ⟨l.length ≤ 1000000, .tup [.arr 8 (.ints .u16 (six l).1), .bool (six l).2]⟩
  | _ => none
theorem ent_parse_ok : ∀ xs c, ent_parse xs = some c → FuncOk Tryd.prog noT 5 xs c := fun xs c h => by
  unfold ent_parse at h
  split at h
  · injection h with h; subst h; exact ok_parse _
  · cases h
end
section
def zrn (p : List Int) (a : Int) : Int := (zEnd (zer p) a.toNat : Int) - a
def X_rzeros : Tbl := tblX []
def H_rzeros (p : List Int) (at0 : Int) : Loops := fun i => bif Nat.beq i 2 then some ⟨(Int), (fun s x => ((s.put 5 (.int .i64 x)).put 17 .undef)), (fun s => s.int 5), (fun s x => let n := x; 0 ≤ n ∧ at0 + n ≤ 8 ∧ zrn p (at0 + n) + n = zrn p at0), (fun s x => let n := x; (8 - at0 - n).toNat), [17]⟩ else none
theorem X_rzeros_ok : XOk Tryd.prog noT X_rzeros := tblX_nil
theorem vc_rzeros (p : List Int) (at0 : Int) (k : PV → Prop) : evF Tryd.prog X_rzeros noT (H_rzeros p at0) 1000 Tryd.f15 [.arr 8 (.ints .u16 p), .int .i64 at0] k = (
  VS.mk []
 [(0, PV.arr (8 : Nat) (BRow.ints .u16 p)), (1, PV.int .i64 at0),
 (2, PV.ptr ((2 : Nat) + (32 : Nat)) (0 : Nat)), (4, PV.int .i64 (0 : Int)),
 (5, PV.int .i64 (0 : Int)), ((17 : Nat), PV.undef)]
 [((2 : Nat) + (32 : Nat), PV.arr (8 : Nat) (BRow.ints .u16 p))] =
 VS.mk []
 [(0, PV.arr (8 : Nat) (BRow.ints .u16 p)), (1, PV.int .i64 at0),
 (2, PV.ptr ((2 : Nat) + (32 : Nat)) (0 : Nat)), (4, PV.int .i64 (0 : Int)),
 ((5 : Nat), PV.int .i64 (0 : Int)), ((17 : Nat), PV.undef)]
 [((2 : Nat) + (32 : Nat), PV.arr (8 : Nat) (BRow.ints .u16 p))] ∧
 ((0 : Int) ≤ (0 : Int) ∧
 at0 + (0 : Int) ≤ (8 : Int) ∧ zrn p (at0 + (0 : Int)) + (0 : Int) = zrn p at0) ∧
 ∀ (x : Int),
 (0 : Int) ≤ x ∧ at0 + x ≤ (8 : Int) ∧ zrn p (at0 + x) + x = zrn p at0 →
 inI64 (at0 + x) ∧
 (decide (at0 + x < (8 : Int)) = true → inI64 (at0 + x)) ∧
 (decide (at0 + x < (8 : Int)) = true → within (at0 + x) ↑(8 : Nat)) ∧
 (decide (at0 + x < (8 : Int)) = true → within (at0 + x) ↑(8 : Nat)) ∧
 ((bif decide (at0 + x < (8 : Int)) then decide (intZ p (at0 + x) = (0 : Int)) else false) = true →
 inI64 (x + (1 : Int)) ∧
 VS.mk []
 [(0, PV.arr (8 : Nat) (BRow.ints .u16 p)), (1, PV.int .i64 at0),
 (2, PV.ptr ((2 : Nat) + (32 : Nat)) (0 : Nat)), (4, PV.int .i64 (0 : Int)),
 ((5 : Nat), PV.int .i64 (x + (1 : Int))), ((17 : Nat), PV.undef)]
 [((2 : Nat) + (32 : Nat), PV.arr (8 : Nat) (BRow.ints .u16 p))] =
 VS.mk []
 [(0, PV.arr (8 : Nat) (BRow.ints .u16 p)), (1, PV.int .i64 at0),
 (2, PV.ptr ((2 : Nat) + (32 : Nat)) (0 : Nat)), (4, PV.int .i64 (0 : Int)),
 ((5 : Nat), PV.int .i64 (x + (1 : Int))), ((17 : Nat), PV.undef)]
 [((2 : Nat) + (32 : Nat), PV.arr (8 : Nat) (BRow.ints .u16 p))] ∧
 ((0 : Int) ≤ x + (1 : Int) ∧
 at0 + (x + (1 : Int)) ≤ (8 : Int) ∧
 zrn p (at0 + (x + (1 : Int))) + (x + (1 : Int)) = zrn p at0) ∧
 ((8 : Int) - at0 - (x + (1 : Int))).toNat < ((8 : Int) - at0 - x).toNat) ∧
 ((bif decide (at0 + x < (8 : Int)) then decide (intZ p (at0 + x) = (0 : Int)) else false) = false → k (PV.int .i64 x))) := by kernel_rfl
attribute [local irreducible] Go.Vc.evF
theorem ok_rzeros (p : List Int) (at0 : Int) : FuncOk Tryd.prog noT 15 [.arr 8 (.ints .u16 p), .int .i64 at0] ⟨IsP p ∧ 0 ≤ at0 ∧ at0 < 8, .int .i64 (zrn p at0)⟩ := evF_ok (by kernel_rfl) X_rzeros_ok (H := H_rzeros p at0) (fuel := 1000) Tryd.func15 (by kernel_rfl) fun hpre => (vc_rzeros p at0 _).mpr (by
  obtain ⟨hp, h0, h1⟩ := hpre
  have hl : (zer p).length = 8 := by unfold zer; rw [List.length_map]; exact hp.1
  have h8 := hp.1
  refine ⟨by first | rfl | trivial, ⟨by omega, by omega, by rw [Int.add_zero, Int.add_zero]⟩, fun x hx => ?_⟩
  obtain ⟨g0, g1, g2⟩ := hx
  obtain ⟨j, hj⟩ : ∃ j : Nat, at0 + x = j := ⟨(at0 + x).toNat, by omega⟩
  have e1 : at0 + (x + 1) = ((j + 1 : Nat) : Int) := by omega
  have hi : intZ p (j : Int) = p.getD j 0 := by unfold intZ; rw [Int.toNat_natCast]
  rw [hj] at g2
  simp only [hj, e1]
  refine ⟨by unfold inI64; omega, fun _ => by unfold inI64; omega, fun d => ⟨by omega, by have := of_decide_eq_true d; omega⟩, fun d => ⟨by omega, by have := of_decide_eq_true d; omega⟩, fun f => ?_, fun f => ?_⟩
  · have f1 : (j : Int) < 8 ∧ intZ p (j : Int) = 0 := by
      by_cases c1 : (j : Int) < 8 <;> by_cases c2 : intZ p (j : Int) = 0 <;> simp [c1, c2] at f ⊢
    have hz := zEnd_on (zer p) j (by omega) (by rw [zer_at p j (by omega), ← hi, f1.2]; rfl)
    refine ⟨by unfold inI64; omega, by first | rfl | trivial, ⟨by omega, by omega, ?_⟩, by omega⟩
    unfold zrn at g2 ⊢
    rw [Int.toNat_natCast] at g2 ⊢
    rw [hz] at g2
    omega
  · have hz : zEnd (zer p) j = j := by
      refine zEnd_off (zer p) j ?_
      by_cases c1 : j < 8
      · rw [zer_at p j (by omega), ← hi]
        have : ¬ intZ p (j : Int) = 0 := fun c2 => by simp [show (j : Int) < 8 by omega, c2] at f
        simpa using this
      · rw [List.getD_eq_getElem?_getD, List.getElem?_eq_none (by omega)]; rfl
    show PV.int _ _ = PV.int _ _
    unfold zrn at g2 ⊢
    rw [Int.toNat_natCast, hz] at g2
    congr 1
    omega)
def ent_rzeros : List PV → Option CallR := fun xs => match xs with
  | [.arr 8 (.ints .u16 p), .int .i64 at0] => some ⟨IsP p ∧ 0 ≤ at0 ∧ at0 < 8, .int .i64 (zrn p at0)⟩
  | _ => none
theorem ent_rzeros_ok : ∀ xs c, ent_rzeros xs = some c → FuncOk Tryd.prog noT 15 xs c := fun xs c h => by
  unfold ent_rzeros at h
  split at h
  · injection h with h; subst h; exact ok_rzeros _ _
  · cases h
end
end Go.Proofs.YthgchelpfacgmaaDoor
namespace Go.Proofs.YthgchelpfacgmaaDoor
open Go Go.Proofs Go.RowKit Go.Vc
open Go.Proofs.Jv (exI)
section
abbrev HX6 : Bs := (ByteArray.mk #[48, 49, 50, 51, 52, 53, 54, 55, 56, 57, 97, 98, 99, 100, 101, 102]).data.toList
theorem hx6_at : ∀ k : Fin 16, cutZ HX6 (k.val : Int) ((k.val : Int) + 1) = [dx k.val] := by decide +kernel
theorem hx6_len : lenZ HX6 = 16 := by decide
def ent_rhex (dn : Nat) : List PV → Option CallR := fun xs => match xs with
  | [.int .i64 n] => some ⟨0 ≤ n ∧ n < 65536 ∧ n < 16 ^ dn ∧ 0 < dn, .str (hx4 n.toNat)⟩
  | _ => none
def X_rhex (m : Nat) : Tbl := tblX [(16, ent_rhex m)]
def H_rhex (m : Nat) (n : Int) : Loops := fun i => none
theorem X_rhex_ok (m : Nat) (ih : ∀ xs c, ent_rhex m xs = some c → FuncOk Tryd.prog noT 16 xs c) : XOk Tryd.prog noT (X_rhex m) := tblX_cons ih (tblX_nil)
theorem vc_rhex (m : Nat) (n : Int) (k : PV → Prop) : evF Tryd.prog (X_rhex m) noT (H_rhex m n) 1000 Tryd.f16 [.int .i64 n] k = (
  (decide (n < (16 : Int)) = true →
 inI64 (n + (1 : Int)) ∧
 upto n (n + (1 : Int))
 (lenZ
 (ByteArray.mk
 #[48, 49, 50, 51, 52, 53, 54, 55, 56, 57, 97, 98, 99, 100, 101, 102]).data.toList) ∧
 k
 (PV.str
 (cutZ
 (ByteArray.mk
 #[48, 49, 50, 51, 52, 53, 54, 55, 56, 57, 97, 98, 99, 100, 101, 102]).data.toList
 n (n + (1 : Int))))) ∧
 (decide (n < (16 : Int)) = false →
 ((0 : Int) ≤ n ∧ (0 : Int) < (16 : Int) ∧ n ≤ (9223372036854775807 : Int)) ∧
 ((0 : Int) ≤ n / (16 : Int) ∧ n / (16 : Int) < (65536 : Int) ∧ n / (16 : Int) < (16 : Int) ^ m ∧ (0 : Nat) < m) ∧
 ((0 : Int) ≤ n ∧ (0 : Int) < (16 : Int)) ∧
 ((0 : Int) ≤ n ∧ (0 : Int) < (16 : Int)) ∧
 inI64 (n % (16 : Int) + (1 : Int)) ∧
 upto (n % (16 : Int)) (n % (16 : Int) + (1 : Int))
 (lenZ
 (ByteArray.mk
 #[48, 49, 50, 51, 52, 53, 54, 55, 56, 57, 97, 98, 99, 100, 101, 102]).data.toList) ∧
 (hx4 (n / (16 : Int)).toNat).length +
 (cutZ
 (ByteArray.mk
 #[48, 49, 50, 51, 52, 53, 54, 55, 56, 57, 97, 98, 99, 100, 101, 102]).data.toList
 (n % (16 : Int)) (n % (16 : Int) + (1 : Int))).length ≤
 Go.Vc.maxLen ∧
 k
 (PV.str
 (hx4 (n / (16 : Int)).toNat ++
 cutZ
 (ByteArray.mk
 #[48, 49, 50, 51, 52, 53, 54, 55, 56, 57, 97, 98, 99, 100, 101, 102]).data.toList
 (n % (16 : Int)) (n % (16 : Int) + (1 : Int)))))) := by kernel_rfl
attribute [local irreducible] Go.Vc.evF
theorem ok_rhex (m : Nat) (ih : ∀ xs c, ent_rhex m xs = some c → FuncOk Tryd.prog noT 16 xs c) (n : Int) : FuncOk Tryd.prog noT 16 [.int .i64 n] ⟨0 ≤ n ∧ n < 65536 ∧ n < 16 ^ (m + 1) ∧ 0 < (m + 1), .str (hx4 n.toNat)⟩ := evF_ok (by kernel_rfl) (X_rhex_ok m ih) (H := H_rhex m n) (fuel := 1000) Tryd.func16 (by kernel_rfl) fun hpre => (vc_rhex m n _).mpr (by
  obtain ⟨h0, h1, h2, h3⟩ := hpre
  obtain ⟨k', rfl⟩ := Int.eq_ofNat_of_zero_le h0
  have hmx : Go.Vc.maxLen = 1099511627776 := rfl
  have e16 : ∀ q : Nat, ((16 ^ q : Nat) : Int) = (16 : Int) ^ q := fun q => by rw [Int.natCast_pow]; rfl
  have h2' : k' < 16 ^ (m + 1) := by
    have : ((k' : Nat) : Int) < ((16 ^ (m + 1) : Nat) : Int) := by rw [e16]; exact h2
    exact Int.ofNat_lt.1 this
  refine ⟨fun d => ?_, fun d => ?_⟩
  · have d1 : k' < 16 := by have := of_decide_eq_true d; omega
    have hc := hx6_at ⟨k', d1⟩
    simp only at hc
    rw [hc]
    refine ⟨by unfold inI64; omega, ⟨by omega, by omega, by rw [hx6_len]; omega⟩, ?_⟩
    show PV.str _ = PV.str _
    rw [Int.toNat_natCast, hx4_small d1]
  · have d1 : ¬ k' < 16 := by have := of_decide_eq_false d; omega
    have e1 : (k' : Int) / 16 = ((k' / 16 : Nat) : Int) := by omega
    have e2 : (k' : Int) % 16 = ((k' % 16 : Nat) : Int) := by omega
    have hc := hx6_at ⟨k' % 16, by omega⟩
    simp only at hc
    have hl := hx4_len (k' / 16)
    have hm : 0 < m := by
      cases m with
      | zero => exact absurd h2' (by show ¬ k' < 16; omega)
      | succ m => omega
    have hq : k' / 16 < 16 ^ m := by rw [Nat.div_lt_iff_lt_mul (by decide)]; rw [Nat.pow_succ] at h2'; exact h2'
    have hq' : ((k' / 16 : Nat) : Int) < 16 ^ m := by
      rw [← e16]; exact Int.ofNat_lt.2 hq
    simp only [e1, e2, Int.toNat_natCast, hc]
    refine ⟨⟨by omega, by omega, by omega⟩, ⟨by omega, by omega, hq', hm⟩, ⟨by omega, by omega⟩, ⟨by omega, by omega⟩, by unfold inI64; omega, ⟨by omega, by omega, by rw [hx6_len]; omega⟩, by rw [List.length_singleton]; omega, ?_⟩
    show PV.str _ = PV.str _
    rw [hx4_step (n := k') (by omega) (by omega)])
theorem ent_rhex_ok : ∀ (n : Nat) xs c, ent_rhex n xs = some c → FuncOk Tryd.prog noT 16 xs c
  | 0, xs, c, h => by
    unfold ent_rhex at h
    split at h
    · injection h with h; subst h; exact .of_plain ⟨rfl, rfl⟩ fun hp => False.elim (absurd hp.2.2.2 (by decide))
    · cases h
  | m + 1, xs, c, h => by
    unfold ent_rhex at h
    split at h
    · injection h with h; subst h; exact ok_rhex m (ent_rhex_ok m) _
    · cases h
def entA_rhex : List PV → Option CallR := fun xs => match xs with
  | [.int .i64 n] => some ⟨∃ dn : Nat, 0 ≤ n ∧ n < 65536 ∧ n < 16 ^ dn ∧ 0 < dn, .str (hx4 n.toNat)⟩
  | _ => none
theorem entA_rhex_ok : ∀ xs c, entA_rhex xs = some c → FuncOk Tryd.prog noT 16 xs c := fun xs c h => by
  unfold entA_rhex at h
  split at h
  · injection h with h; subst h; exact exI fun n => ent_rhex_ok n _ _ rfl
  · cases h
end
end Go.Proofs.YthgchelpfacgmaaDoor
namespace Go.Proofs.YthgchelpfacgmaaDoor
open Go Go.Proofs Go.RowKit Go.Vc
section
def rfm (z : List Bool) : Nat → Nat → Int → Int → Int × Int
  | 0, i, f, m => (f, m)
  | n + 1, i, f, m => if m < (zEnd z i : Int) - i then rfm z n (i + 1) i ((zEnd z i : Int) - i) else rfm z n (i + 1) f m
def rI (p : List Int) (i f m : Int) : Prop := rfm (zer p) (8 - i.toNat) i.toNat f m = rfm (zer p) 8 0 8 1
def rJ (p : List Int) (f m i : Int) (o : Bs) : Prop := ∃ n : Nat, 9 ≤ n + i ∧ shwR p f (f + m) n i o = shw p
def gapR (z : List Bool) : Bool := match rfm z 8 0 8 1, noughtAt z 0 (-1) (-1) with
  | (f, m), (b, e) => decide ((f = 8 ∧ b = -1 ∧ e = -1 ∧ m = 1) ∨ (f = b ∧ f + m = e ∧ 0 ≤ f ∧ 2 ≤ m ∧ f + m ≤ 8))
theorem gapR_all : ∀ a b c d e f g h : Bool, gapR [a, b, c, d, e, f, g, h] = true := by decide +kernel
theorem rfm_is (p : List Int) (h8 : p.length = 8) : ((rfm (zer p) 8 0 8 1).1 = 8 ∧ (nought p).1 = -1 ∧ (nought p).2 = -1 ∧ (rfm (zer p) 8 0 8 1).2 = 1) ∨ ((rfm (zer p) 8 0 8 1).1 = (nought p).1 ∧ (rfm (zer p) 8 0 8 1).1 + (rfm (zer p) 8 0 8 1).2 = (nought p).2 ∧ 0 ≤ (rfm (zer p) 8 0 8 1).1 ∧ 2 ≤ (rfm (zer p) 8 0 8 1).2 ∧ (rfm (zer p) 8 0 8 1).1 + (rfm (zer p) 8 0 8 1).2 ≤ 8) := by
  have hz : gapR (zer p) = true := by
    match p, h8 with
    | [a, b, c, d, e, f, g, h], _ => exact gapR_all ..
  unfold gapR at hz
  rw [show noughtAt (zer p) 0 (-1) (-1) = nought p from rfl] at hz
  exact of_decide_eq_true hz
theorem shwR_far (p : List Int) (e : Int) : ∀ (n : Nat) (i : Int) (b : List UInt8), 0 ≤ i → shwR p 8 e n i b = shwR p (-1) (-1) n i b
  | 0, i, b, _ => rfl
  | n + 1, i, b, h0 => by
    unfold shwR
    by_cases h8 : i < 8
    · rw [if_pos h8, if_pos h8, if_neg (show ¬ i = 8 by omega), if_neg (show ¬ i = -1 by omega)]
      exact shwR_far p e n (i + 1) _ (by omega)
    · rw [if_neg h8, if_neg h8]
theorem rJ_start (p : List Int) (hp : IsP p) : shwR p (rfm (zer p) 8 0 8 1).1 ((rfm (zer p) 8 0 8 1).1 + (rfm (zer p) 8 0 8 1).2) 9 0 [] = shw p := by
  have hs := shw_ref p hp
  rcases rfm_is p hp.1 with ⟨h1, h2, h3, h4⟩ | ⟨h1, h2, -⟩
  · rw [h1, h4, shwR_far p _ 9 0 [] (by omega), ← hs, h2, h3]
  · rw [h2, h1, hs]
theorem zEnd_le (z : List Bool) (i : Nat) (h : i ≤ z.length) : zEnd z i ≤ z.length := by
  unfold zEnd
  have := (List.takeWhile_sublist (p := (· == true)) (l := z.drop i)).length_le
  rw [List.length_drop] at this
  omega
theorem last58 (o : Bs) (h : o ≠ []) : byteZ o (lenZ o - 1) = 58 ↔ o.getLast? = some 58 := by
  have hl : 0 < o.length := List.length_pos_iff.2 h
  rw [List.getLast?_eq_getElem?, List.getElem?_eq_getElem (by omega)]
  unfold byteZ
  rw [show (lenZ o - 1).toNat = o.length - 1 by unfold lenZ; omega, List.getD_eq_getElem?_getD, List.getElem?_eq_getElem (by omega)]
  show ((o[o.length - 1].toNat : Nat) : Int) = 58 ↔ _
  constructor
  · intro e
    have : o[o.length - 1].toNat = (58 : UInt8).toNat := by have e2 : (58 : UInt8).toNat = 58 := rfl; omega
    rw [UInt8.toNat_inj.1 this]
  · intro e
    injection e with e
    rw [e]; rfl
def X_rshow6 : Tbl := tblX [(15, ent_rzeros), (16, entA_rhex)]
def H_rshow6 (p : List Int) : Loops := fun i => bif Nat.beq i 3 then some ⟨(Int) × (Int) × (Int), (fun s x => ((((((s.put 3 (.int .i64 x.1)).put 4 (.int .i64 x.2.1)).put 5 (.int .i64 x.2.2)).put 6 .undef).put 10 .undef).put 18 .undef)), (fun s => (s.int 3, s.int 4, s.int 5)), (fun s x => let f := x.1; let m := x.2.1; let i := x.2.2; 0 ≤ i ∧ i ≤ 8 ∧ 0 ≤ f ∧ f ≤ 8 ∧ 1 ≤ m ∧ m ≤ 8 ∧ rI p i f m), (fun s x => let f := x.1; let m := x.2.1; let i := x.2.2; (8 - i).toNat), [6, 10, 18]⟩ else bif Nat.beq i 10 then some ⟨(Bs) × (Int), (fun s x => (((((s.put 7 (.str x.1)).put 8 (.int .i64 x.2)).put 22 .undef).put 27 .undef).put 43 .undef)), (fun s => (s.str 7, s.int 8)), (fun s x => let o := x.1; let i := x.2; 0 ≤ i ∧ i ≤ 8 ∧ lenB o ≤ 5 * i ∧ rJ p (s.int 3) (s.int 4) i o), (fun s x => let o := x.1; let i := x.2; (8 - i).toNat), [22, 27, 43]⟩ else none
theorem X_rshow6_ok : XOk Tryd.prog noT X_rshow6 := tblX_cons ent_rzeros_ok (tblX_cons entA_rhex_ok (tblX_nil))
theorem vc_rshow6 (p : List Int) (k : PV → Prop) : evF Tryd.prog X_rshow6 noT (H_rshow6 p) 1000 Tryd.f6 [.arr 8 (.ints .u16 p)] k = (
  VS.mk []
 [(0, PV.arr (8 : Nat) (BRow.ints .u16 p)), (1, PV.ptr ((1 : Nat) + (32 : Nat)) (0 : Nat)),
 (2, PV.str (ByteArray.mk #[]).data.toList), (3, PV.int .i64 (8 : Int)),
 (4, PV.int .i64 (1 : Int)), (5, PV.int .i64 (0 : Int)), ((6 : Nat), PV.undef),
 (7, PV.undef), (8, PV.undef), ((10 : Nat), PV.undef), ((18 : Nat), PV.undef), (22, PV.undef),
 (27, PV.undef), (43, PV.undef)]
 [((1 : Nat) + (32 : Nat), PV.arr (8 : Nat) (BRow.ints .u16 p))] =
 VS.mk []
 [(0, PV.arr (8 : Nat) (BRow.ints .u16 p)), (1, PV.ptr ((1 : Nat) + (32 : Nat)) (0 : Nat)),
 (2, PV.str (ByteArray.mk #[]).data.toList), ((3 : Nat), PV.int .i64 (8 : Int)),
 ((4 : Nat), PV.int .i64 (1 : Int)), ((5 : Nat), PV.int .i64 (0 : Int)), ((6 : Nat), PV.undef),
 (7, PV.undef), (8, PV.undef), ((10 : Nat), PV.undef), ((18 : Nat), PV.undef), (22, PV.undef),
 (27, PV.undef), (43, PV.undef)]
 [((1 : Nat) + (32 : Nat), PV.arr (8 : Nat) (BRow.ints .u16 p))] ∧
 ((0 : Int) ≤ (0 : Int) ∧
 (0 : Int) ≤ (8 : Int) ∧
 (0 : Int) ≤ (8 : Int) ∧
 (8 : Int) ≤ (8 : Int) ∧ (1 : Int) ≤ (1 : Int) ∧ (1 : Int) ≤ (8 : Int) ∧ rI p (0 : Int) (8 : Int) (1 : Int)) ∧
 ∀ (x : Int × Int × Int),
 (0 : Int) ≤ x.2.2 ∧
 x.2.2 ≤ (8 : Int) ∧
 (0 : Int) ≤ x.1 ∧
 x.1 ≤ (8 : Int) ∧ (1 : Int) ≤ x.2.1 ∧ x.2.1 ≤ (8 : Int) ∧ rI p x.2.2 x.1 x.2.1 →
 (decide (x.2.2 < (8 : Int)) = true →
 (IsP p ∧ (0 : Int) ≤ x.2.2 ∧ x.2.2 < (8 : Int)) ∧
 (decide (x.2.1 < zrn p x.2.2) = true →
 inI64 (x.2.2 + (1 : Int)) ∧
 VS.mk []
 [(0, PV.arr (8 : Nat) (BRow.ints .u16 p)), (1, PV.ptr ((1 : Nat) + (32 : Nat)) (0 : Nat)),
 (2, PV.str (ByteArray.mk #[]).data.toList), ((3 : Nat), PV.int .i64 x.2.2),
 ((4 : Nat), PV.int .i64 (zrn p x.2.2)),
 ((5 : Nat), PV.int .i64 (x.2.2 + (1 : Int))), ((6 : Nat), PV.undef), (7, PV.undef),
 (8, PV.undef), ((10 : Nat), PV.undef), ((18 : Nat), PV.undef), (22, PV.undef),
 (27, PV.undef), (43, PV.undef)]
 [((1 : Nat) + (32 : Nat), PV.arr (8 : Nat) (BRow.ints .u16 p))] =
 VS.mk []
 [(0, PV.arr (8 : Nat) (BRow.ints .u16 p)), (1, PV.ptr ((1 : Nat) + (32 : Nat)) (0 : Nat)),
 (2, PV.str (ByteArray.mk #[]).data.toList), ((3 : Nat), PV.int .i64 x.2.2),
 ((4 : Nat), PV.int .i64 (zrn p x.2.2)),
 ((5 : Nat), PV.int .i64 (x.2.2 + (1 : Int))), ((6 : Nat), PV.undef), (7, PV.undef),
 (8, PV.undef), ((10 : Nat), PV.undef), ((18 : Nat), PV.undef), (22, PV.undef),
 (27, PV.undef), (43, PV.undef)]
 [((1 : Nat) + (32 : Nat), PV.arr (8 : Nat) (BRow.ints .u16 p))] ∧
 ((0 : Int) ≤ x.2.2 + (1 : Int) ∧
 x.2.2 + (1 : Int) ≤ (8 : Int) ∧
 (0 : Int) ≤ x.2.2 ∧
 x.2.2 ≤ (8 : Int) ∧
 (1 : Int) ≤ zrn p x.2.2 ∧
 zrn p x.2.2 ≤ (8 : Int) ∧
 rI p (x.2.2 + (1 : Int)) x.2.2 (zrn p x.2.2)) ∧
 ((8 : Int) - (x.2.2 + (1 : Int))).toNat < ((8 : Int) - x.2.2).toNat) ∧
 (decide (x.2.1 < zrn p x.2.2) = false →
 inI64 (x.2.2 + (1 : Int)) ∧
 VS.mk []
 [(0, PV.arr (8 : Nat) (BRow.ints .u16 p)), (1, PV.ptr ((1 : Nat) + (32 : Nat)) (0 : Nat)),
 (2, PV.str (ByteArray.mk #[]).data.toList), ((3 : Nat), PV.int .i64 x.1),
 ((4 : Nat), PV.int .i64 x.2.1), ((5 : Nat), PV.int .i64 (x.2.2 + (1 : Int))),
 ((6 : Nat), PV.undef), (7, PV.undef), (8, PV.undef), ((10 : Nat), PV.undef),
 ((18 : Nat), PV.undef), (22, PV.undef), (27, PV.undef), (43, PV.undef)]
 [((1 : Nat) + (32 : Nat), PV.arr (8 : Nat) (BRow.ints .u16 p))] =
 VS.mk []
 [(0, PV.arr (8 : Nat) (BRow.ints .u16 p)), (1, PV.ptr ((1 : Nat) + (32 : Nat)) (0 : Nat)),
 (2, PV.str (ByteArray.mk #[]).data.toList), ((3 : Nat), PV.int .i64 x.1),
 ((4 : Nat), PV.int .i64 x.2.1), ((5 : Nat), PV.int .i64 (x.2.2 + (1 : Int))),
 ((6 : Nat), PV.undef), (7, PV.undef), (8, PV.undef), ((10 : Nat), PV.undef),
 ((18 : Nat), PV.undef), (22, PV.undef), (27, PV.undef), (43, PV.undef)]
 [((1 : Nat) + (32 : Nat), PV.arr (8 : Nat) (BRow.ints .u16 p))] ∧
 ((0 : Int) ≤ x.2.2 + (1 : Int) ∧
 x.2.2 + (1 : Int) ≤ (8 : Int) ∧
 (0 : Int) ≤ x.1 ∧
 x.1 ≤ (8 : Int) ∧
 (1 : Int) ≤ x.2.1 ∧ x.2.1 ≤ (8 : Int) ∧ rI p (x.2.2 + (1 : Int)) x.1 x.2.1) ∧
 ((8 : Int) - (x.2.2 + (1 : Int))).toNat < ((8 : Int) - x.2.2).toNat)) ∧
 (decide (x.2.2 < (8 : Int)) = false →
 VS.mk []
 [(0, PV.arr (8 : Nat) (BRow.ints .u16 p)), (1, PV.ptr ((1 : Nat) + (32 : Nat)) (0 : Nat)),
 (2, PV.str (ByteArray.mk #[]).data.toList), ((3 : Nat), PV.int .i64 x.1),
 ((4 : Nat), PV.int .i64 x.2.1), ((5 : Nat), PV.int .i64 x.2.2), ((6 : Nat), PV.undef),
 (7, PV.str (ByteArray.mk #[]).data.toList), (8, PV.int .i64 (0 : Int)),
 ((10 : Nat), PV.bool (decide (x.2.2 < (8 : Int)))), ((18 : Nat), PV.undef), ((22 : Nat), PV.undef),
 ((27 : Nat), PV.undef), ((43 : Nat), PV.undef)]
 [((1 : Nat) + (32 : Nat), PV.arr (8 : Nat) (BRow.ints .u16 p))] =
 VS.mk []
 [(0, PV.arr (8 : Nat) (BRow.ints .u16 p)), (1, PV.ptr ((1 : Nat) + (32 : Nat)) (0 : Nat)),
 (2, PV.str (ByteArray.mk #[]).data.toList), ((3 : Nat), PV.int .i64 x.1),
 ((4 : Nat), PV.int .i64 x.2.1), ((5 : Nat), PV.int .i64 x.2.2), ((6 : Nat), PV.undef),
 ((7 : Nat), PV.str (ByteArray.mk #[]).data.toList), ((8 : Nat), PV.int .i64 (0 : Int)),
 ((10 : Nat), PV.bool (decide (x.2.2 < (8 : Int)))), ((18 : Nat), PV.undef), ((22 : Nat), PV.undef),
 ((27 : Nat), PV.undef), ((43 : Nat), PV.undef)]
 [((1 : Nat) + (32 : Nat), PV.arr (8 : Nat) (BRow.ints .u16 p))] ∧
 ((0 : Int) ≤ (0 : Int) ∧
 (0 : Int) ≤ (8 : Int) ∧
 lenB (ByteArray.mk #[]).data.toList ≤ (5 : Int) * (0 : Int) ∧
 rJ p x.1 x.2.1 (0 : Int) (ByteArray.mk #[]).data.toList) ∧
 ∀ (x_1 : Bs × Int),
 (0 : Int) ≤ x_1.2 ∧
 x_1.2 ≤ (8 : Int) ∧
 lenB x_1.1 ≤ (5 : Int) * x_1.2 ∧
 rJ p x.1 x.2.1 x_1.2 x_1.1 →
 (decide (x_1.2 < (8 : Int)) = true →
 (decide (x_1.2 = x.1) = true →
 List.length x_1.1 + (ByteArray.mk #[58, 58]).data.toList.length ≤ Go.Vc.maxLen ∧
 inI64 (x_1.2 + x.2.1) ∧
 inI64 (x_1.2 + x.2.1 - (1 : Int)) ∧
 inI64 (x_1.2 + x.2.1 - (1 : Int) + (1 : Int)) ∧
 VS.mk []
 [(0, PV.arr (8 : Nat) (BRow.ints .u16 p)),
 (1, PV.ptr ((1 : Nat) + (32 : Nat)) (0 : Nat)),
 (2, PV.str (ByteArray.mk #[]).data.toList), ((3 : Nat), PV.int .i64 x.1),
 ((4 : Nat), PV.int .i64 x.2.1), ((5 : Nat), PV.int .i64 x.2.2),
 ((6 : Nat), PV.undef),
 ((7 : Nat), PV.str (x_1.1 ++ (ByteArray.mk #[58, 58]).data.toList)),
 ((8 : Nat), PV.int .i64 (x_1.2 + x.2.1 - (1 : Int) + (1 : Int))),
 ((10 : Nat), PV.bool (decide (x.2.2 < (8 : Int)))), ((18 : Nat), PV.undef),
 ((22 : Nat), PV.undef), ((27 : Nat), PV.undef), ((43 : Nat), PV.undef)]
 [((1 : Nat) + (32 : Nat), PV.arr (8 : Nat) (BRow.ints .u16 p))] =
 VS.mk []
 [(0, PV.arr (8 : Nat) (BRow.ints .u16 p)),
 (1, PV.ptr ((1 : Nat) + (32 : Nat)) (0 : Nat)),
 (2, PV.str (ByteArray.mk #[]).data.toList), ((3 : Nat), PV.int .i64 x.1),
 ((4 : Nat), PV.int .i64 x.2.1), ((5 : Nat), PV.int .i64 x.2.2),
 ((6 : Nat), PV.undef),
 ((7 : Nat), PV.str (x_1.1 ++ (ByteArray.mk #[58, 58]).data.toList)),
 ((8 : Nat), PV.int .i64 (x_1.2 + x.2.1 - (1 : Int) + (1 : Int))),
 ((10 : Nat), PV.bool (decide (x.2.2 < (8 : Int)))), ((18 : Nat), PV.undef),
 ((22 : Nat), PV.undef), ((27 : Nat), PV.undef), ((43 : Nat), PV.undef)]
 [((1 : Nat) + (32 : Nat), PV.arr (8 : Nat) (BRow.ints .u16 p))] ∧
 ((0 : Int) ≤ x_1.2 + x.2.1 - (1 : Int) + (1 : Int) ∧
 x_1.2 + x.2.1 - (1 : Int) + (1 : Int) ≤ (8 : Int) ∧
 lenB (x_1.1 ++ (ByteArray.mk #[58, 58]).data.toList) ≤
 (5 : Int) * (x_1.2 + x.2.1 - (1 : Int) + (1 : Int)) ∧
 rJ p x.1 x.2.1 (x_1.2 + x.2.1 - (1 : Int) + (1 : Int))
 (x_1.1 ++ (ByteArray.mk #[58, 58]).data.toList)) ∧
 ((8 : Int) - (x_1.2 + x.2.1 - (1 : Int) + (1 : Int))).toNat < ((8 : Int) - x_1.2).toNat) ∧
 (decide (x_1.2 = x.1) = false →
 ((!decide (x_1.1 = (ByteArray.mk #[]).data.toList)) = true → inI64 (lenZ x_1.1 - (1 : Int))) ∧
 ((!decide (x_1.1 = (ByteArray.mk #[]).data.toList)) = true →
 within (lenZ x_1.1 - (1 : Int)) (lenZ x_1.1)) ∧
 ((bif !decide (x_1.1 = (ByteArray.mk #[]).data.toList) then
 !decide (byteZ x_1.1 (lenZ x_1.1 - (1 : Int)) = (58 : Int))
 else false) =
 true →
 List.length x_1.1 + (ByteArray.mk #[58]).data.toList.length ≤ Go.Vc.maxLen ∧
 within x_1.2 ↑(8 : Nat) ∧
 within x_1.2 ↑(8 : Nat) ∧
 (∃ (dn : Nat),
 (0 : Int) ≤ Go.IntKind.i64.wrap (intZ p x_1.2) ∧
 Go.IntKind.i64.wrap (intZ p x_1.2) < (65536 : Int) ∧
 Go.IntKind.i64.wrap (intZ p x_1.2) < (16 : Int) ^ dn ∧ (0 : Nat) < dn) ∧
 List.length (x_1.1 ++ (ByteArray.mk #[58]).data.toList) +
 (hx4 (Go.IntKind.i64.wrap (intZ p x_1.2)).toNat).length ≤
 Go.Vc.maxLen ∧
 inI64 (x_1.2 + (1 : Int)) ∧
 VS.mk []
 [(0, PV.arr (8 : Nat) (BRow.ints .u16 p)),
 (1, PV.ptr ((1 : Nat) + (32 : Nat)) (0 : Nat)),
 (2, PV.str (ByteArray.mk #[]).data.toList),
 ((3 : Nat), PV.int .i64 x.1), ((4 : Nat), PV.int .i64 x.2.1),
 ((5 : Nat), PV.int .i64 x.2.2), ((6 : Nat), PV.undef),
 ((7 : Nat),
 PV.str
 (x_1.1 ++ (ByteArray.mk #[58]).data.toList ++
 hx4 (Go.IntKind.i64.wrap (intZ p x_1.2)).toNat)),
 ((8 : Nat), PV.int .i64 (x_1.2 + (1 : Int))),
 ((10 : Nat), PV.bool (decide (x.2.2 < (8 : Int)))), ((18 : Nat), PV.undef),
 ((22 : Nat), PV.undef), ((27 : Nat), PV.undef), ((43 : Nat), PV.undef)]
 [((1 : Nat) + (32 : Nat), PV.arr (8 : Nat) (BRow.ints .u16 p))] =
 VS.mk []
 [(0, PV.arr (8 : Nat) (BRow.ints .u16 p)),
 (1, PV.ptr ((1 : Nat) + (32 : Nat)) (0 : Nat)),
 (2, PV.str (ByteArray.mk #[]).data.toList),
 ((3 : Nat), PV.int .i64 x.1), ((4 : Nat), PV.int .i64 x.2.1),
 ((5 : Nat), PV.int .i64 x.2.2), ((6 : Nat), PV.undef),
 ((7 : Nat),
 PV.str
 (x_1.1 ++ (ByteArray.mk #[58]).data.toList ++
 hx4 (Go.IntKind.i64.wrap (intZ p x_1.2)).toNat)),
 ((8 : Nat), PV.int .i64 (x_1.2 + (1 : Int))),
 ((10 : Nat), PV.bool (decide (x.2.2 < (8 : Int)))), ((18 : Nat), PV.undef),
 ((22 : Nat), PV.undef), ((27 : Nat), PV.undef), ((43 : Nat), PV.undef)]
 [((1 : Nat) + (32 : Nat), PV.arr (8 : Nat) (BRow.ints .u16 p))] ∧
 ((0 : Int) ≤ x_1.2 + (1 : Int) ∧
 x_1.2 + (1 : Int) ≤ (8 : Int) ∧
 lenB
 (x_1.1 ++ (ByteArray.mk #[58]).data.toList ++
 hx4 (Go.IntKind.i64.wrap (intZ p x_1.2)).toNat) ≤
 (5 : Int) * (x_1.2 + (1 : Int)) ∧
 rJ p x.1 x.2.1 (x_1.2 + (1 : Int))
 (x_1.1 ++ (ByteArray.mk #[58]).data.toList ++
 hx4 (Go.IntKind.i64.wrap (intZ p x_1.2)).toNat)) ∧
 ((8 : Int) - (x_1.2 + (1 : Int))).toNat < ((8 : Int) - x_1.2).toNat) ∧
 ((bif !decide (x_1.1 = (ByteArray.mk #[]).data.toList) then
 !decide (byteZ x_1.1 (lenZ x_1.1 - (1 : Int)) = (58 : Int))
 else false) =
 false →
 within x_1.2 ↑(8 : Nat) ∧
 within x_1.2 ↑(8 : Nat) ∧
 (∃ (dn : Nat),
 (0 : Int) ≤ Go.IntKind.i64.wrap (intZ p x_1.2) ∧
 Go.IntKind.i64.wrap (intZ p x_1.2) < (65536 : Int) ∧
 Go.IntKind.i64.wrap (intZ p x_1.2) < (16 : Int) ^ dn ∧ (0 : Nat) < dn) ∧
 List.length x_1.1 + (hx4 (Go.IntKind.i64.wrap (intZ p x_1.2)).toNat).length ≤
 Go.Vc.maxLen ∧
 inI64 (x_1.2 + (1 : Int)) ∧
 VS.mk []
 [(0, PV.arr (8 : Nat) (BRow.ints .u16 p)),
 (1, PV.ptr ((1 : Nat) + (32 : Nat)) (0 : Nat)),
 (2, PV.str (ByteArray.mk #[]).data.toList), ((3 : Nat), PV.int .i64 x.1),
 ((4 : Nat), PV.int .i64 x.2.1), ((5 : Nat), PV.int .i64 x.2.2),
 ((6 : Nat), PV.undef),
 ((7 : Nat),
 PV.str
 (x_1.1 ++ hx4 (Go.IntKind.i64.wrap (intZ p x_1.2)).toNat)),
 ((8 : Nat), PV.int .i64 (x_1.2 + (1 : Int))),
 ((10 : Nat), PV.bool (decide (x.2.2 < (8 : Int)))), ((18 : Nat), PV.undef),
 ((22 : Nat), PV.undef), ((27 : Nat), PV.undef), ((43 : Nat), PV.undef)]
 [((1 : Nat) + (32 : Nat), PV.arr (8 : Nat) (BRow.ints .u16 p))] =
 VS.mk []
 [(0, PV.arr (8 : Nat) (BRow.ints .u16 p)),
 (1, PV.ptr ((1 : Nat) + (32 : Nat)) (0 : Nat)),
 (2, PV.str (ByteArray.mk #[]).data.toList), ((3 : Nat), PV.int .i64 x.1),
 ((4 : Nat), PV.int .i64 x.2.1), ((5 : Nat), PV.int .i64 x.2.2),
 ((6 : Nat), PV.undef),
 ((7 : Nat),
 PV.str
 (x_1.1 ++ hx4 (Go.IntKind.i64.wrap (intZ p x_1.2)).toNat)),
 ((8 : Nat), PV.int .i64 (x_1.2 + (1 : Int))),
 ((10 : Nat), PV.bool (decide (x.2.2 < (8 : Int)))), ((18 : Nat), PV.undef),
 ((22 : Nat), PV.undef), ((27 : Nat), PV.undef), ((43 : Nat), PV.undef)]
 [((1 : Nat) + (32 : Nat), PV.arr (8 : Nat) (BRow.ints .u16 p))] ∧
 ((0 : Int) ≤ x_1.2 + (1 : Int) ∧
 x_1.2 + (1 : Int) ≤ (8 : Int) ∧
 lenB
 (x_1.1 ++ hx4 (Go.IntKind.i64.wrap (intZ p x_1.2)).toNat) ≤
 (5 : Int) * (x_1.2 + (1 : Int)) ∧
 rJ p x.1 x.2.1 (x_1.2 + (1 : Int))
 (x_1.1 ++ hx4 (Go.IntKind.i64.wrap (intZ p x_1.2)).toNat)) ∧
 ((8 : Int) - (x_1.2 + (1 : Int))).toNat < ((8 : Int) - x_1.2).toNat))) ∧
 (decide (x_1.2 < (8 : Int)) = false → k (PV.str x_1.1)))) := by kernel_rfl
attribute [local irreducible] Go.Vc.evF
theorem ok_rshow6 (p : List Int) : FuncOk Tryd.prog noT 6 [.arr 8 (.ints .u16 p)] ⟨IsP p, .str (shw p)⟩ := evF_ok (by kernel_rfl) X_rshow6_ok (H := H_rshow6 p) (fuel := 1000) Tryd.func6 (by kernel_rfl) fun hpre => (vc_rshow6 p _).mpr (by
  have hp := hpre
  have h8 := hp.1
  have hmx : Go.Vc.maxLen = 1099511627776 := rfl
  have hlb : ∀ l : Bs, lenB l = (l.length : Int) := fun _ => rfl
  have hzl : (zer p).length = 8 := by unfold zer; rw [List.length_map]; exact hp.1
  refine ⟨by first | rfl | trivial, ⟨by omega, by omega, by omega, by omega, by omega, by omega, rfl⟩, fun x hx => ?_⟩
  obtain ⟨f, m, i⟩ := x
  obtain ⟨a0, a1, a2, a3, a4, a5, a6⟩ := hx
  simp only at a0 a1 a2 a3 a4 a5 a6
  obtain ⟨j, rfl⟩ := Int.eq_ofNat_of_zero_le a0
  refine ⟨fun d => ?_, fun d => ?_⟩
  · have d1 : j < 8 := by have : (j : Int) < 8 := of_decide_eq_true d; omega
    have hz0 : zrn p (j : Int) = (zEnd (zer p) j : Int) - j := by unfold zrn; rw [Int.toNat_natCast]
    have z1 := zEnd_ge (zer p) j
    have z2 := zEnd_le (zer p) j (by omega)
    have e1 : ((j : Int) + 1).toNat = j + 1 := by omega
    unfold rI at a6 ⊢
    rw [Int.toNat_natCast, show 8 - j = (8 - (j + 1)) + 1 by omega, rfm] at a6
    simp only [e1]
    refine ⟨⟨hp, by omega, by omega⟩, fun e => ?_, fun e => ?_⟩
    · have e2 : m < zrn p (j : Int) := of_decide_eq_true e
      rw [← hz0, if_pos e2] at a6
      exact ⟨by unfold inI64; omega, by first | rfl | trivial, ⟨by omega, by omega, by omega, by omega, by omega, by omega, a6⟩, by omega⟩
    · have e2 : ¬ m < zrn p (j : Int) := of_decide_eq_false e
      rw [← hz0, if_neg e2] at a6
      exact ⟨by unfold inI64; omega, by first | rfl | trivial, ⟨by omega, by omega, by omega, by omega, by omega, by omega, a6⟩, by omega⟩
  have d1 : ¬ (j : Int) < 8 := of_decide_eq_false d
  have a7 : (f, m) = rfm (zer p) 8 0 8 1 := by
    unfold rI at a6
    rw [← a6, Int.toNat_natCast, show 8 - j = 0 by omega]; rfl
  have hS := rJ_start p hp
  have hT := rfm_is p h8
  rw [← a7] at hS hT
  simp only at hS hT
  refine ⟨by first | rfl | trivial, ⟨by omega, by omega, by decide, ⟨9, by omega, hS⟩⟩, fun y hy => ?_⟩
  obtain ⟨o, i⟩ := y
  obtain ⟨b0, b1, b2, b3⟩ := hy
  simp only at b0 b1 b2 b3
  obtain ⟨n, hn, hs⟩ := b3
  rw [hlb] at b2
  refine ⟨fun d2 => ?_, fun d2 => ?_⟩
  · have d3 : i < 8 := of_decide_eq_true d2
    have hbd := hp.2 i.toNat
    have hw : IntKind.i64.wrap (intZ p i) = p.getD i.toNat 0 := by
      rw [IntKind.wrap_i64]; show _ = _; unfold intZ; omega
    have hl4 := hx4_len (p.getD i.toNat 0).toNat
    obtain ⟨n, rfl⟩ : ∃ k, n = k + 1 := ⟨n - 1, by omega⟩
    rw [shwR, if_pos d3] at hs
    simp only [hw]
    refine ⟨fun e => ?_, fun e => ?_⟩
    · have e1 : i = f := of_decide_eq_true e
      rw [if_pos e1] at hs
      have hm : 2 ≤ m ∧ f + m ≤ 8 := by omega
      have hen : i + m - 1 + 1 = f + m := by omega
      have hlen : (o ++ (ByteArray.mk #[58, 58]).data.toList).length = o.length + 2 := by rw [List.length_append]; rfl
      have hl2 : (ByteArray.mk #[58, 58]).data.toList.length = 2 := rfl
      simp only [hen, hlb, hlen, hl2]
      exact ⟨by omega, by unfold inI64; omega, by unfold inI64; omega, by unfold inI64; omega, by first | rfl | trivial, ⟨by omega, by omega, by omega, ⟨n, by omega, hs⟩⟩, by omega⟩
    · have e1 : ¬ i = f := of_decide_eq_false e
      rw [if_neg e1] at hs
      have hlz : lenZ o = (o.length : Int) := rfl
      have hE : ∀ g : (!decide (o = (ByteArray.mk #[]).data.toList)) = true, 0 < o.length := fun g => by
        rcases Nat.eq_zero_or_pos o.length with h | h
        · have : o = [] := List.eq_nil_of_length_eq_zero h
          subst this; cases g
        · exact h
      have hd : ∃ dn : Nat, 0 ≤ p.getD i.toNat 0 ∧ p.getD i.toNat 0 < 65536 ∧ p.getD i.toNat 0 < 16 ^ dn ∧ 0 < dn := ⟨4, hbd.1, hbd.2, by have := hbd.2; show _ < (65536 : Int); omega, by decide⟩
      refine ⟨fun g => by have := hE g; unfold inI64; omega, fun g => by have := hE g; exact ⟨by omega, by omega⟩, fun g => ?_, fun g => ?_⟩
      · have g1 : o ≠ [] := by rintro rfl; cases g
        have g2 : o.getLast? ≠ some 58 := fun h => by
          have h2 := (last58 o g1).2 h
          rw [decide_eq_true h2] at g
          cases hq : (!decide (o = (ByteArray.mk #[]).data.toList)) <;> rw [hq] at g <;> cases g
        rw [if_pos ⟨g1, g2⟩] at hs
        have hl1 : (ByteArray.mk #[58]).data.toList.length = 1 := rfl
        simp only [hlb, List.length_append, hl1]
        exact ⟨by omega, ⟨by omega, by omega⟩, ⟨by omega, by omega⟩, hd, by omega, by unfold inI64; omega, by first | rfl | trivial, ⟨by omega, by omega, by omega, ⟨n, by omega, hs⟩⟩, by omega⟩
      · have g2 : ¬ (o ≠ [] ∧ o.getLast? ≠ some 58) := by
          rintro ⟨h1, h2⟩
          have h3 : decide (byteZ o (lenZ o - 1) = 58) = false := decide_eq_false fun h => h2 ((last58 o h1).1 h)
          have h4 : decide (o = (ByteArray.mk #[]).data.toList) = false := decide_eq_false h1
          rw [h3, h4] at g
          cases g
        rw [if_neg g2] at hs
        simp only [hlb, List.length_append]
        exact ⟨⟨by omega, by omega⟩, ⟨by omega, by omega⟩, hd, by omega, by unfold inI64; omega, by first | rfl | trivial, ⟨by omega, by omega, by omega, ⟨n, by omega, hs⟩⟩, by omega⟩
  · have d3 : ¬ i < 8 := of_decide_eq_false d2
    show PV.str _ = PV.str _
    rw [← hs]
    cases n with
    | zero => rfl
    | succ n => rw [shwR, if_neg d3])
def ent_rshow6 : List PV → Option CallR := fun xs => match xs with
  | [.arr 8 (.ints .u16 p)] => some ⟨IsP p, .str (shw p)⟩
  | _ => none
theorem ent_rshow6_ok : ∀ xs c, ent_rshow6 xs = some c → FuncOk Tryd.prog noT 6 xs c := fun xs c h => by
  unfold ent_rshow6 at h
  split at h
  · injection h with h; subst h; exact ok_rshow6 _
  · cases h
end
noncomputable def sixO (l : Bs) : List Int × Bool := Classical.choose (⟨six l, rfl⟩ : ∃ x, x = six l)
theorem sixO_eq (l : Bs) : sixO l = six l := Classical.choose_spec (⟨six l, rfl⟩ : ∃ x, x = six l)
noncomputable def shwO (p : List Int) : Bs := Classical.choose (⟨shw p, rfl⟩ : ∃ x, x = shw p)
theorem shwO_eq (p : List Int) : shwO p = shw p := Classical.choose_spec (⟨shw p, rfl⟩ : ∃ x, x = shw p)
noncomputable def ent_parseO : List PV → Option CallR := fun xs => match xs with
  | [.str l] => some ⟨l.length ≤ 1000000, .tup [.arr 8 (.ints .u16 (sixO l).1), .bool (sixO l).2]⟩
  | _ => none
theorem ent_parseO_ok : ∀ xs c, ent_parseO xs = some c → FuncOk Tryd.prog noT 5 xs c := fun xs c h => by
  unfold ent_parseO at h
  split at h
  · injection h with h; subst h; rw [sixO_eq]; exact ok_parse _
  · cases h
def IsQ (p : List Int) : Prop := IsP p
noncomputable def ent_showO : List PV → Option CallR := fun xs => match xs with
  | [.arr 8 (.ints .u16 p)] => some ⟨IsQ p, .str (shwO p)⟩
  | _ => none
theorem ent_showO_ok : ∀ xs c, ent_showO xs = some c → FuncOk Tryd.prog noT 4 xs c := fun xs c h => by
  unfold ent_showO at h
  split at h
  · injection h with h; subst h; rw [shwO_eq]; exact ok_show6 _
  · cases h
section
noncomputable def X_awakeS : Tbl := tblX [(5, ent_parseO), (4, ent_showO)]
def H_awakeS  : Loops := fun i => none
theorem X_awakeS_ok : XOk Tryd.prog noT X_awakeS := tblX_cons ent_parseO_ok (tblX_cons ent_showO_ok (tblX_nil))
theorem vc_awakeS  (k : PV → Prop) : evF Tryd.prog X_awakeS noT (H_awakeS ) 1000 Tryd.f7 [] k = (
  (ByteArray.mk
 #[49, 58, 48, 58, 48, 58, 58, 50, 46, 51, 46, 52, 46, 53]).data.toList.length.le
 (1000000 : Nat) ∧
 (ByteArray.mk
 #[49, 58, 50, 58, 51, 58, 52, 58, 53, 58, 54, 58, 55, 58, 56, 58, 58]).data.toList.length.le
 (1000000 : Nat) ∧
 ((bif
 bif
 (sixO
 (ByteArray.mk
 #[49, 58, 48, 58, 48, 58, 58, 50, 46, 51, 46, 52, 46, 53]).data.toList).2 then
 decide
 ((sixO
 (ByteArray.mk
 #[49, 58, 48, 58, 48, 58, 58, 50, 46, 51, 46, 52, 46, 53]).data.toList).1 =
 ((((((((List.replicate (8 : Nat) (0 : Int)).set ((0 : Nat) * nat_lit 1) (1 : Int)).set ((1 : Nat) * nat_lit 1) (0 : Int)).set
 ((2 : Nat) * nat_lit 1) (0 : Int)).set
 ((3 : Nat) * nat_lit 1) (0 : Int)).set
 ((4 : Nat) * nat_lit 1) (0 : Int)).set
 ((5 : Nat) * nat_lit 1) (0 : Int)).set
 ((6 : Nat) * nat_lit 1) (515 : Int)).set
 ((7 : Nat) * nat_lit 1) (1029 : Int))
 else false then
 !(sixO
 (ByteArray.mk
 #[49, 58, 50, 58, 51, 58, 52, 58, 53, 58, 54, 58, 55, 58, 56, 58, 58]).data.toList).2
 else false) =
 true →
 (sixO
 (ByteArray.mk
 #[49, 58, 48, 58, 48, 58, 58, 50, 46, 51, 46, 52, 46, 53]).data.toList).1.length =
 (8 : Nat) ∧
 ∀ (i : Nat),
 (0 : Int) ≤
 (sixO
 (ByteArray.mk
 #[49, 58, 48, 58, 48, 58, 58, 50, 46, 51, 46, 52, 46, 53]).data.toList).1.getD
 i (0 : Int) ∧
 (sixO
 (ByteArray.mk
 #[49, 58, 48, 58, 48, 58, 58, 50, 46, 51, 46, 52, 46, 53]).data.toList).1.getD
 i (0 : Int) <
 (65536 : Int)) ∧
 k
 (PV.bool
 (bif
 bif
 bif
 (sixO
 (ByteArray.mk
 #[49, 58, 48, 58, 48, 58, 58, 50, 46, 51, 46, 52, 46, 53]).data.toList).2 then
 decide
 ((sixO
 (ByteArray.mk
 #[49, 58, 48, 58, 48, 58, 58, 50, 46, 51, 46, 52, 46, 53]).data.toList).1 =
 ((((((((List.replicate (8 : Nat) (0 : Int)).set ((0 : Nat) * nat_lit 1) (1 : Int)).set ((1 : Nat) * nat_lit 1) (0 : Int)).set
 ((2 : Nat) * nat_lit 1) (0 : Int)).set
 ((3 : Nat) * nat_lit 1) (0 : Int)).set
 ((4 : Nat) * nat_lit 1) (0 : Int)).set
 ((5 : Nat) * nat_lit 1) (0 : Int)).set
 ((6 : Nat) * nat_lit 1) (515 : Int)).set
 ((7 : Nat) * nat_lit 1) (1029 : Int))
 else false then
 !(sixO
 (ByteArray.mk
 #[49, 58, 50, 58, 51, 58, 52, 58, 53, 58, 54, 58, 55, 58, 56, 58, 58]).data.toList).2
 else false then
 decide
 (shwO
 (sixO
 (ByteArray.mk
 #[49, 58, 48, 58, 48, 58, 58, 50, 46, 51, 46, 52, 46, 53]).data.toList).1 =
 (ByteArray.mk
 #[49, 58, 58, 50, 48, 51, 58, 52, 48, 53]).data.toList)
 else false))) := by kernel_rfl
attribute [local irreducible] Go.Vc.evF
theorem ok_awakeS  : FuncOk Tryd.prog noT 7 [] ⟨True, .bool true⟩ := evF_ok (by kernel_rfl) X_awakeS_ok (H := H_awakeS ) (fuel := 1000) Tryd.func7 (by kernel_rfl) fun hpre => (vc_awakeS  _).mpr (by
  have s1 : six ((ByteArray.mk #[49, 58, 48, 58, 48, 58, 58, 50, 46, 51, 46, 52, 46, 53]).data.toList) = ([1, 0, 0, 0, 0, 0, 515, 1029], true) := by decide +kernel
  have s2 : (six ((ByteArray.mk #[49, 58, 50, 58, 51, 58, 52, 58, 53, 58, 54, 58, 55, 58, 56, 58, 58]).data.toList)).2 = false := by decide +kernel
  have s3 : shw [1, 0, 0, 0, 0, 0, 515, 1029] = (ByteArray.mk #[49, 58, 58, 50, 48, 51, 58, 52, 48, 53]).data.toList := by decide +kernel
  have q : IsP [1, 0, 0, 0, 0, 0, 515, 1029] := ⟨rfl, fun i => by
    match i with
    | 0 => decide
    | 1 => decide
    | 2 => decide
    | 3 => decide
    | 4 => decide
    | 5 => decide
    | 6 => decide
    | 7 => decide
    | n + 8 => simp⟩
  simp only [sixO_eq, shwO_eq, s1, s2, s3]
  exact ⟨(by show _ ≤ 1000000; decide), (by show _ ≤ 1000000; decide), fun _ => q, congrArg PV.bool (by decide +kernel)⟩)
def ent_awakeS : List PV → Option CallR := fun xs => match xs with
  | [] => some ⟨True, .bool true⟩
  | _ => none
theorem ent_awakeS_ok : ∀ xs c, ent_awakeS xs = some c → FuncOk Tryd.prog noT 7 xs c := fun xs c h => by
  unfold ent_awakeS at h
  split at h
  · injection h with h; subst h; exact ok_awakeS 
  · cases h
end
section
theorem shwF_len (p : List Int) (bg en : Int) : ∀ (n : Nat) (i : Int) (b : List UInt8), (shwF p bg en n i b).length ≤ b.length + 6 * n
  | 0, i, b => Nat.le_refl _
  | n + 1, i, b => by
    unfold shwF
    split
    · split
      · have := shwF_len p bg en n en (b ++ [58, 58])
        rw [List.length_append] at this
        simp only [List.length_cons, List.length_nil] at this
        omega
      · refine Nat.le_trans (shwF_len p bg en n (i + 1) _) ?_
        have h1 := hx4_len (p.getD i.toNat 0).toNat
        rw [List.length_append]
        have h2 : (if 0 < i ∧ i ≠ en then b ++ [58] else b).length ≤ b.length + 1 := by
          split
          · rw [List.length_append]; simp
          · omega
        omega
    · omega
def X_sixback : Tbl := tblX [(4, ent_show6), (5, ent_parse), (6, ent_rshow6), (7, ent_awakeS)]
def H_sixback (p : List Int) : Loops := fun i => none
theorem X_sixback_ok : XOk Tryd.prog noT X_sixback := tblX_cons ent_show6_ok (tblX_cons ent_parse_ok (tblX_cons ent_rshow6_ok (tblX_cons ent_awakeS_ok (tblX_nil))))
theorem vc_sixback (p : List Int) (k : PV → Prop) : evF Tryd.prog X_sixback noT (H_sixback p) 1000 Tryd.f3 [.arr 8 (.ints .u16 p)] k = (
  (p.length = (8 : Nat) ∧ ∀ (i : Nat), (0 : Int) ≤ p.getD i (0 : Int) ∧ p.getD i (0 : Int) < (65536 : Int)) ∧
 (shw p).length.le (1000000 : Nat) ∧
 (p.length = (8 : Nat) ∧ ∀ (i : Nat), (0 : Int) ≤ p.getD i (0 : Int) ∧ p.getD i (0 : Int) < (65536 : Int)) ∧
 ((bif
 bif decide (shw p = shw p) then
 (six (shw p)).2
 else false then
 decide ((six (shw p)).1 = p)
 else false) =
 true →
 True) ∧
 k
 (PV.bool
 (bif
 bif
 bif decide (shw p = shw p) then
 (six (shw p)).2
 else false then
 decide ((six (shw p)).1 = p)
 else false then
 true
 else false))) := by kernel_rfl
attribute [local irreducible] Go.Vc.evF
theorem ok_sixback (p : List Int) : FuncOk Tryd.prog noT 3 [.arr 8 (.ints .u16 p)] ⟨IsP p, .bool true⟩ := evF_ok (by kernel_rfl) X_sixback_ok (H := H_sixback p) (fuel := 1000) Tryd.func3 (by kernel_rfl) fun hpre => (vc_sixback p _).mpr (by
  have hp := hpre
  have h6 := shw_six p hp
  have hl := shwF_len p (nought p).1 (nought p).2 9 0 []
  have hl2 : (shw p).length ≤ 54 := hl
  rw [h6]
  refine ⟨hp, (by show (shw p).length ≤ 1000000; omega), hp, fun _ => trivial, ?_⟩
  show PV.bool _ = PV.bool _
  simp)
end
theorem wfU16 {x : Int} (h : (Lit.int .u16 x).wf = true) : 0 ≤ x ∧ x ≤ 65535 := by
  simp [Lit.wf, IntKind.min, IntKind.max, IntKind.signed, IntKind.bits] at h; omega
theorem isP_wf {z0 : List Int} (w0 : z0.length = 8 ∧ ∀ z ∈ z0, (Lit.int .u16 z).wf = true) : IsP z0 := ⟨w0.1, fun i => by
  rw [List.getD_eq_getElem?_getD]
  rcases Nat.lt_or_ge i z0.length with h | h
  · rw [List.getElem?_eq_getElem h]
    have := wfU16 (w0.2 _ (List.getElem_mem h))
    show 0 ≤ z0[i] ∧ z0[i] < 65536
    omega
  · rw [List.getElem?_eq_none h]; exact ⟨Int.le_refl _, by decide⟩⟩
theorem vals_len (z0 : List Int) (h : z0.length = 8) : (BRow.vals (.ints .u16 z0)).length = 8 := by unfold BRow.vals; rw [List.length_map]; exact h
theorem SixBack_walk (z0 : List Int) (w : World) (w0 : z0.length = 8 ∧ ∀ z ∈ z0, (Lit.int .u16 z).wf = true) (htab : Tab9 w) :
    Calls Tryd.prog 3 #[.agg (z0.map fun z => .int .u16 z).toArray] w fun e w' => e = .returned (.bool true) ∧ Below w.heap.size w w' := by
  have hx : RepL' [.arr 8 (.ints .u16 z0)] (bareG fun _ _ => none) w [.agg (z0.map fun z => .int .u16 z).toArray] :=
    ⟨_, _, rfl, ⟨vals_len z0 w0.1, rfl⟩, rfl⟩
  exact FuncOk.yes (fn := Tryd.f3) Tryd.func3 (by kernel_rfl) rfl (FuncOk.of_plain ⟨rfl, rfl⟩ fun _ => (ok_sixback z0).plain ⟨rfl, rfl⟩ (isP_wf w0)) htab hx
end Go.Proofs.YthgchelpfacgmaaDoor
