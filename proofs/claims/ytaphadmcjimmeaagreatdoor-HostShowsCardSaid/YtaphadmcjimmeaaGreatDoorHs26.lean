import Derived.Test.YtaphadmcjimmeaaGreatDoorProg
import Derived.ProofKit
import Derived.Test.YtaphadmcjimmeaaGreatDoorHs6
import Derived.Test.YtaphadmcjimmeaaGreatDoorHs18
import Derived.Test.YtaphadmcjimmeaaGreatDoorHs19
import Derived.Test.YtaphadmcjimmeaaGreatDoorHs25
set_option linter.unusedVariables false
set_option linter.unusedSimpArgs false
set_option maxRecDepth 100000
set_option maxHeartbeats 4000000
namespace Go.Proofs.YtaphadmcjimmeaaGreatDoor
open Go Go.Proofs Go.RowKit Go.Vc
def hostN (l : Bs) : H5 := if preB l [91] = true then sixR (l.drop 1) else if conB l neverL = true then noH 8 else if l = [] then (1, [], 0, z8, 0) else (5, pencS l, 0, z8, 0)
def X_hparseN : Tbl := tblX [(15, ent_prefix), (18, ent_con), (16, ent_pip6), (17, ent_pdom), (19, ent_penc)]
def H_hparseN (l : Bs) : Loops := fun i => none
theorem X_hparseN_ok : XOk Tryz.prog noT X_hparseN := tblX_cons ent_prefix_ok (tblX_cons ent_con_ok (tblX_cons ent_pip6_ok (tblX_cons ent_pdom_ok (tblX_cons ent_penc_ok (tblX_nil)))))
theorem vc_hparseN (l : Bs) (k : PV → Prop) : evF Tryz.prog X_hparseN noT (H_hparseN l) 1000 Tryz.f9 [.str l, .bool false] k = (
  True ∧
 (preB l (ByteArray.mk #[91]).data.toList = true →
 ((1 : Nat) ≤ List.length l ∧ List.length l ≤ (1000000 : Nat)) ∧
 k
 (PV.tup
 [PV.agg
 [PV.int .i64 (sixR (List.drop (1 : Nat) l)).1,
 PV.str (sixR (List.drop (1 : Nat) l)).2.1,
 PV.int .u32 (sixR (List.drop (1 : Nat) l)).2.2.1,
 PV.arr (8 : Nat) (BRow.ints .u16 (sixR (List.drop (1 : Nat) l)).2.2.2.1)],
 PV.int .i64 (sixR (List.drop (1 : Nat) l)).2.2.2.2])) ∧
 (preB l (ByteArray.mk #[91]).data.toList = false →
 (false = true →
 (List.length l).le (1000000 : Nat) ∧
 k
 (PV.tup
 [PV.agg
 [PV.int .i64
 (domR (lowB (decP l))).1,
 PV.str
 (domR
 (lowB (decP l))).2.1,
 PV.int .u32
 (domR
 (lowB (decP l))).2.2.1,
 PV.arr (8 : Nat)
 (BRow.ints .u16
 (domR
 (lowB (decP l))).2.2.2.1)],
 PV.int .i64
 (domR
 (lowB (decP l))).2.2.2.2])) ∧
 (false = false →
 (List.length l ≤ (1000000 : Nat) ∧
 (ByteArray.mk
 #[0, 9, 10, 13, 32, 35, 47, 58, 60, 62, 63, 64, 91, 92, 93, 94, 124]).data.toList.length ≤
 (1000000 : Nat) ∧
 ∀ (b : UInt8),
 b ∈
 (ByteArray.mk
 #[0, 9, 10, 13, 32, 35, 47, 58, 60, 62, 63, 64, 91, 92, 93, 94, 124]).data.toList →
 b.toNat < (128 : Nat)) ∧
 (conB l
 (ByteArray.mk
 #[0, 9, 10, 13, 32, 35, 47, 58, 60, 62, 63, 64, 91, 92, 93, 94, 124]).data.toList =
 true →
 k
 (PV.tup
 [PV.agg
 [PV.int .i64 (0 : Int), PV.str [], PV.int .u32 (0 : Int),
 PV.arr (8 : Nat) (BRow.ints .u16 (List.replicate (8 : Nat) (0 : Int)))],
 PV.int .i64 (8 : Int)])) ∧
 (conB l
 (ByteArray.mk
 #[0, 9, 10, 13, 32, 35, 47, 58, 60, 62, 63, 64, 91, 92, 93, 94, 124]).data.toList =
 false →
 (decide (l = (ByteArray.mk #[]).data.toList) = true →
 k
 (PV.tup
 [PV.agg
 [PV.int .i64 (1 : Int), PV.str [], PV.int .u32 (0 : Int),
 PV.arr (8 : Nat) (BRow.ints .u16 (List.replicate (8 : Nat) (0 : Int)))],
 PV.int .i64 (0 : Int)])) ∧
 (decide (l = (ByteArray.mk #[]).data.toList) = false →
 (List.length l).le (300000 : Nat) ∧
 k
 (PV.tup
 [PV.agg
 [PV.int .i64 (5 : Int), PV.str (pencS l),
 PV.int .u32 (0 : Int),
 PV.arr (8 : Nat) (BRow.ints .u16 (List.replicate (8 : Nat) (0 : Int)))],
 PV.int .i64 (0 : Int)])))))) := by kernel_rfl
attribute [local irreducible] Go.Vc.evF
theorem ok_hparseN (l : Bs) : FuncOk Tryz.prog noT 9 [.str l, .bool false] ⟨l.length ≤ 300000, .tup [.agg [.int .i64 (hostN l).1, .str (hostN l).2.1, .int .u32 (hostN l).2.2.1, .arr 8 (.ints .u16 (hostN l).2.2.2.1)], .int .i64 (hostN l).2.2.2.2]⟩ := evF_ok (by kernel_rfl) X_hparseN_ok (H := H_hparseN l) (fuel := 1000) Tryz.func9 (by kernel_rfl) fun hpre => (vc_hparseN l _).mpr (by
  have e91 : (ByteArray.mk #[91]).data.toList = ([91] : Bs) := rfl
  rw [e91]
  refine ⟨trivial, fun h => ⟨⟨?_, by omega⟩, ?_⟩, fun h => ⟨fun h => (by cases h), fun _ => ⟨⟨by omega, by decide, by decide⟩, fun h2 => ?_, fun h2 => ⟨fun h3 => ?_, fun h3 => ?_⟩⟩⟩⟩
  · cases l with
    | nil => cases h
    | cons b r => rw [List.length_cons]; omega
  · have : hostN l = sixR (l.drop 1) := by unfold hostN; rw [if_pos h]
    rw [this]
  · have h2' : conB l neverL = true := h2
    have : hostN l = noH 8 := by unfold hostN; rw [if_neg (by rw [h]; decide), if_pos h2']
    rw [this]; rfl
  · have h2' : conB l neverL = false := h2
    have h3' : l = [] := of_decide_eq_true h3
    have : hostN l = (1, [], 0, z8, 0) := by unfold hostN; rw [if_neg (by rw [h]; decide), if_neg (by rw [h2']; decide), if_pos h3']
    rw [this]; rfl
  · have h2' : conB l neverL = false := h2
    have h3' : ¬ l = [] := of_decide_eq_false h3
    have : hostN l = (5, pencS l, 0, z8, 0) := by unfold hostN; rw [if_neg (by rw [h]; decide), if_neg (by rw [h2']; decide), if_neg h3']
    rw [this]
    exact ⟨hpre, rfl⟩)
end Go.Proofs.YtaphadmcjimmeaaGreatDoor
