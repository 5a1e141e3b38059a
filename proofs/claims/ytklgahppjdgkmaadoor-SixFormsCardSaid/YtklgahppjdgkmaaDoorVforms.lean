/- The function gossamer/gossamerlaw9.SixForms does what is told of it. -/
import Derived.Test.YtklgahppjdgkmaaDoorR4
import Derived.Test.YtklgahppjdgkmaaDoorProg
import Derived.ProofKit
import Derived.Test.YtklgahppjdgkmaaDoorVlhex
import Derived.Test.YtklgahppjdgkmaaDoorVsix2
import Derived.Test.YtklgahppjdgkmaaDoorVparse
import Derived.Test.YtklgahppjdgkmaaDoorVsix3
import Derived.Test.YtklgahppjdgkmaaDoorVsix0
import Derived.Test.YtklgahppjdgkmaaDoorVsix5
set_option linter.unusedVariables false
set_option linter.unusedSimpArgs false
set_option maxRecDepth 100000
set_option maxHeartbeats 4000000
namespace Go.Proofs.YtklgahppjdgkmaaDoor
open Go Go.Proofs Go.RowKit Go.Vc

theorem zer_self (p : List Int) (f : Nat) : p = zer8 p (f : Int) (f : Int) := by
  unfold zer8; rw [Int.toNat_natCast, Nat.sub_self, List.replicate_zero, List.append_nil, List.take_append_drop]
theorem zer_step {p : List Int} {f j : Nat} (h : f ≤ j) (hj : j < p.length) : setZ (zer8 p (f : Int) (j : Int)) (j : Int) 0 = zer8 p (f : Int) ((j : Int) + 1) := by
  unfold zer8 setZ
  rw [show ((j : Int) + 1).toNat = j + 1 by omega, Int.toNat_natCast, Int.toNat_natCast]
  have hl : (p.take f ++ List.replicate (j - f) (0 : Int)).length = j := by rw [List.length_append, List.length_take, List.length_replicate]; omega
  rw [List.set_append_right _ _ (by omega), hl, Nat.sub_self, List.drop_eq_getElem_cons hj, List.set_cons_zero, show j + 1 - f = (j - f) + 1 by omega, List.replicate_succ']
  simp
theorem zer_len {p : List Int} {f m : Nat} (h8 : p.length = 8) (h : f + m ≤ 8) : (zer8 p (f : Int) ((f + m : Nat) : Int)).length = 8 := by
  unfold zer8; rw [Int.toNat_natCast, Int.toNat_natCast, List.length_append, List.length_append, List.length_take, List.length_replicate, List.length_drop]; omega
theorem zer_bd {p : List Int} {a b : Int} (hp : ∀ x ∈ p, 0 ≤ x ∧ x ≤ 65535) : ∀ x ∈ zer8 p a b, 0 ≤ x ∧ x ≤ 65535 := fun x hx => by
  unfold zer8 at hx
  rw [List.mem_append, List.mem_append] at hx
  rcases hx with (hx | hx) | hx
  · exact hp x (List.mem_of_mem_take hx)
  · rw [(List.mem_replicate.1 hx).2]; exact ⟨by decide, by decide⟩
  · exact hp x (List.mem_of_mem_drop hx)
theorem zer_z {p : List Int} {f m : Nat} (h8 : p.length = 8) (h : f + m ≤ 8) : zer8 p (f : Int) ((f + m : Nat) : Int) = (zer8 p (f : Int) ((f + m : Nat) : Int)).take f ++ List.replicate m 0 ++ (zer8 p (f : Int) ((f + m : Nat) : Int)).drop (f + m) := by
  have hl : (p.take f).length = f := by rw [List.length_take]; omega
  have hl2 : (p.take f ++ List.replicate m (0 : Int)).length = f + m := by rw [List.length_append, hl, List.length_replicate]
  have e : zer8 p (f : Int) ((f + m : Nat) : Int) = p.take f ++ List.replicate m 0 ++ p.drop (f + m) := by
    unfold zer8; rw [Int.toNat_natCast, Int.toNat_natCast, Nat.add_sub_cancel_left]
  rw [e]
  rw [show (p.take f ++ List.replicate m (0 : Int) ++ p.drop (f + m)).drop (f + m) = p.drop (f + m) by rw [← hl2, List.drop_left]]
  rw [show (p.take f ++ List.replicate m (0 : Int) ++ p.drop (f + m)).take f = p.take f by rw [List.append_assoc]; exact List.take_left' hl]

def X_forms : Tbl := tblX [(14, ent_lhex), (12, ent_low), (8, ent_parse), (13, ent_rshow), (7, ent_awake)]
def H_forms (p : List Int) (z1 z2 : Int) (four nl : Bool) (shp : List PV) (sh : List Bool) : Loops := fun i => bif Nat.beq i 6 then some ⟨(Int) × (List Int), (fun s x => ((VS.mk (s.put 13 (.int .i64 x.1)).loc (s.put 13 (.int .i64 x.1)).env (setN 37 (.arr 8 (.ints .u16 x.2)) (s.put 13 (.int .i64 x.1)).lh)).put 38 .undef)), (fun s => (s.int 13, VS.ints (VS.mk [] s.lh []) 37)), (fun s x => let i := x.1; let q := x.2; s.int 11 ≤ i ∧ i ≤ s.int 11 + s.int 12 ∧ q = zer8 p (s.int 11) i), (fun s x => let i := x.1; let q := x.2; (s.int 11 + s.int 12 - i).toNat), [38]⟩ else bif Nat.beq i 11 then some ⟨(Bs) × (Int), (fun s x => ((((((s.put 14 (.str x.1)).put 15 (.int .i64 x.2)).put 44 .undef).put 53 .undef).put 69 .undef).put 76 .undef)), (fun s => (s.str 14, s.int 15)), (fun s x => let t := x.1; let i := x.2; 0 ≤ i ∧ i ≤ 8 ∧ (s.bool 3 = true → i ≤ 6) ∧ (i ≤ s.int 11 ∨ s.int 11 + s.int 12 ≤ i) ∧ t = textAt (VS.ints (VS.mk [] s.lh []) 37) sh (s.int 11) (s.int 12) i), (fun s x => let t := x.1; let i := x.2; (8 - i).toNat), [44, 53, 69, 76]⟩ else none
theorem X_forms_ok : XOk Tryd.prog noT X_forms := tblX_cons ent_lhex_ok (tblX_cons ent_low_ok (tblX_cons ent_parse_ok (tblX_cons ent_rshow_ok (tblX_cons ent_awake_ok (tblX_nil)))))
theorem vc_forms (p : List Int) (z1 z2 : Int) (four nl : Bool) (shp : List PV) (sh : List Bool) (k : PV → Prop) : evF Tryd.prog X_forms noT (H_forms p z1 z2 four nl shp sh) 1000 Tryd.f5 [.arr 8 (.ints .u16 p), .int .i64 z1, .int .i64 z2, .bool four, .vec nl 1 shp 0] k = (
  ((-9223372036854775808 : Int) ≤ z1 ∧ z1 ≤ (9223372036854775807 : Int) ∧ (1 : Int) ≤ (8 : Int) ∧ (8 : Int) ≤ (4611686018427387904 : Int)) ∧
 ((-9223372036854775808 : Int) ≤ z2 ∧ z2 ≤ (9223372036854775807 : Int) ∧ (1 : Int) ≤ (8 : Int) ∧ (8 : Int) ≤ (4611686018427387904 : Int)) ∧
 inI64 ((1 : Int) + lowN z2 (8 : Int)) ∧
 inI64 ((8 : Int) - lowN z1 (8 : Int)) ∧
 (four = true →
 inI64 ((6 : Int) - lowN z1 (8 : Int)) ∧
 VS.mk []
 [(nat_lit 0, PV.arr (8 : Nat) (BRow.ints Go.IntKind.u16 p)), (nat_lit 1, PV.int Go.IntKind.i64 z1),
 (nat_lit 2, PV.int Go.IntKind.i64 z2), (nat_lit 3, PV.bool four), (nat_lit 4, PV.vec nl (1 : Nat) shp (0 : Nat)),
 (nat_lit 5, PV.ptr ((5 : Nat) + (32 : Nat)) (0 : Nat)), (nat_lit 10, PV.bool false),
 (nat_lit 11, PV.int Go.IntKind.i64 (lowN z1 (8 : Int))),
 (nat_lit 12,
 PV.int Go.IntKind.i64
 (min
 (min ((1 : Int) + lowN z2 (8 : Int)) ((8 : Int) - lowN z1 (8 : Int)))
 (max (0 : Int) ((6 : Int) - lowN z1 (8 : Int))))),
 (nat_lit 13, PV.int Go.IntKind.i64 (lowN z1 (8 : Int))), (nat_lit 14, PV.undef),
 (nat_lit 15, PV.undef), (nat_lit 16, PV.undef), (nat_lit 17, PV.undef), (nat_lit 27, PV.bool four),
 ((38 : Nat), PV.undef), (nat_lit 44, PV.undef), (nat_lit 53, PV.undef), (nat_lit 69, PV.undef),
 (nat_lit 76, PV.undef)]
 [((5 : Nat) + (32 : Nat), PV.arr (8 : Nat) (BRow.ints Go.IntKind.u16 p))] =
 VS.mk []
 [(nat_lit 0, PV.arr (8 : Nat) (BRow.ints Go.IntKind.u16 p)), (nat_lit 1, PV.int Go.IntKind.i64 z1),
 (nat_lit 2, PV.int Go.IntKind.i64 z2), (nat_lit 3, PV.bool four), (nat_lit 4, PV.vec nl (1 : Nat) shp (0 : Nat)),
 (nat_lit 5, PV.ptr ((5 : Nat) + (32 : Nat)) (0 : Nat)), (nat_lit 10, PV.bool false),
 (nat_lit 11, PV.int Go.IntKind.i64 (lowN z1 (8 : Int))),
 (nat_lit 12,
 PV.int Go.IntKind.i64
 (min
 (min ((1 : Int) + lowN z2 (8 : Int)) ((8 : Int) - lowN z1 (8 : Int)))
 (max (0 : Int) ((6 : Int) - lowN z1 (8 : Int))))),
 ((13 : Nat), PV.int Go.IntKind.i64 (lowN z1 (8 : Int))), (nat_lit 14, PV.undef),
 (nat_lit 15, PV.undef), (nat_lit 16, PV.undef), (nat_lit 17, PV.undef), (nat_lit 27, PV.bool four),
 ((38 : Nat), PV.undef), (nat_lit 44, PV.undef), (nat_lit 53, PV.undef), (nat_lit 69, PV.undef),
 (nat_lit 76, PV.undef)]
 [((37 : Nat), PV.arr (8 : Nat) (BRow.ints Go.IntKind.u16 p))] ∧
 (lowN z1 (8 : Int) ≤ lowN z1 (8 : Int) ∧
 lowN z1 (8 : Int) ≤
 lowN z1 (8 : Int) +
 min
 (min ((1 : Int) + lowN z2 (8 : Int)) ((8 : Int) - lowN z1 (8 : Int)))
 (max (0 : Int) ((6 : Int) - lowN z1 (8 : Int))) ∧
 p =
 zer8 p (lowN z1 (8 : Int))
 (lowN z1 (8 : Int))) ∧
 ∀ (x : Int × List Int),
 lowN z1 (8 : Int) ≤ x.fst ∧
 x.fst ≤
 lowN z1 (8 : Int) +
 min
 (min ((1 : Int) + lowN z2 (8 : Int))
 ((8 : Int) - lowN z1 (8 : Int)))
 (max (0 : Int) ((6 : Int) - lowN z1 (8 : Int))) ∧
 x.snd = zer8 p (lowN z1 (8 : Int)) x.fst →
 inI64
 (lowN z1 (8 : Int) +
 min
 (min ((1 : Int) + lowN z2 (8 : Int))
 ((8 : Int) - lowN z1 (8 : Int)))
 (max (0 : Int) ((6 : Int) - lowN z1 (8 : Int)))) ∧
 (decide
 (x.fst <
 lowN z1 (8 : Int) +
 min
 (min ((1 : Int) + lowN z2 (8 : Int))
 ((8 : Int) - lowN z1 (8 : Int)))
 (max (0 : Int) ((6 : Int) - lowN z1 (8 : Int)))) =
 true →
 within x.fst ↑(8 : Nat) ∧
 (within x.fst ↑(8 : Nat) ∧ True) ∧
 inI64 (x.fst + (1 : Int)) ∧
 VS.mk []
 [(nat_lit 0, PV.arr (8 : Nat) (BRow.ints Go.IntKind.u16 p)), (nat_lit 1, PV.int Go.IntKind.i64 z1),
 (nat_lit 2, PV.int Go.IntKind.i64 z2), (nat_lit 3, PV.bool four),
 (nat_lit 4, PV.vec nl (1 : Nat) shp (0 : Nat)), (nat_lit 5, PV.ptr ((5 : Nat) + (32 : Nat)) (0 : Nat)),
 (nat_lit 10, PV.bool false),
 (nat_lit 11, PV.int Go.IntKind.i64 (lowN z1 (8 : Int))),
 (nat_lit 12,
 PV.int Go.IntKind.i64
 (min
 (min ((1 : Int) + lowN z2 (8 : Int))
 ((8 : Int) - lowN z1 (8 : Int)))
 (max (0 : Int) ((6 : Int) - lowN z1 (8 : Int))))),
 ((13 : Nat), PV.int Go.IntKind.i64 (x.fst + (1 : Int))), (nat_lit 14, PV.undef),
 (nat_lit 15, PV.undef), (nat_lit 16, PV.undef), (nat_lit 17, PV.undef),
 (nat_lit 27, PV.bool four), ((38 : Nat), PV.undef), (nat_lit 44, PV.undef),
 (nat_lit 53, PV.undef), (nat_lit 69, PV.undef), (nat_lit 76, PV.undef)]
 [((5 : Nat) + (32 : Nat), PV.arr (8 : Nat) (BRow.ints Go.IntKind.u16 (setZ x.snd x.fst (0 : Int))))] =
 VS.mk []
 [(nat_lit 0, PV.arr (8 : Nat) (BRow.ints Go.IntKind.u16 p)), (nat_lit 1, PV.int Go.IntKind.i64 z1),
 (nat_lit 2, PV.int Go.IntKind.i64 z2), (nat_lit 3, PV.bool four),
 (nat_lit 4, PV.vec nl (1 : Nat) shp (0 : Nat)), (nat_lit 5, PV.ptr ((5 : Nat) + (32 : Nat)) (0 : Nat)),
 (nat_lit 10, PV.bool false),
 (nat_lit 11, PV.int Go.IntKind.i64 (lowN z1 (8 : Int))),
 (nat_lit 12,
 PV.int Go.IntKind.i64
 (min
 (min ((1 : Int) + lowN z2 (8 : Int))
 ((8 : Int) - lowN z1 (8 : Int)))
 (max (0 : Int) ((6 : Int) - lowN z1 (8 : Int))))),
 ((13 : Nat), PV.int Go.IntKind.i64 (x.fst + (1 : Int))), (nat_lit 14, PV.undef),
 (nat_lit 15, PV.undef), (nat_lit 16, PV.undef), (nat_lit 17, PV.undef),
 (nat_lit 27, PV.bool four), ((38 : Nat), PV.undef), (nat_lit 44, PV.undef),
 (nat_lit 53, PV.undef), (nat_lit 69, PV.undef), (nat_lit 76, PV.undef)]
 [((37 : Nat), PV.arr (8 : Nat) (BRow.ints Go.IntKind.u16 (setZ x.snd x.fst (0 : Int))))] ∧
 (lowN z1 (8 : Int) ≤ x.fst + (1 : Int) ∧
 x.fst + (1 : Int) ≤
 lowN z1 (8 : Int) +
 min
 (min ((1 : Int) + lowN z2 (8 : Int))
 ((8 : Int) - lowN z1 (8 : Int)))
 (max (0 : Int) ((6 : Int) - lowN z1 (8 : Int))) ∧
 setZ x.snd x.fst (0 : Int) =
 zer8 p (lowN z1 (8 : Int)) (x.fst + (1 : Int))) ∧
 (lowN z1 (8 : Int) +
 min
 (min ((1 : Int) + lowN z2 (8 : Int))
 ((8 : Int) - lowN z1 (8 : Int)))
 (max (0 : Int) ((6 : Int) - lowN z1 (8 : Int))) -
 (x.fst + (1 : Int))).toNat <
 (lowN z1 (8 : Int) +
 min
 (min ((1 : Int) + lowN z2 (8 : Int))
 ((8 : Int) - lowN z1 (8 : Int)))
 (max (0 : Int) ((6 : Int) - lowN z1 (8 : Int))) -
 x.fst).toNat) ∧
 (decide
 (x.fst <
 lowN z1 (8 : Int) +
 min
 (min ((1 : Int) + lowN z2 (8 : Int))
 ((8 : Int) - lowN z1 (8 : Int)))
 (max (0 : Int) ((6 : Int) - lowN z1 (8 : Int)))) =
 false →
 VS.mk []
 [(nat_lit 0, PV.arr (8 : Nat) (BRow.ints Go.IntKind.u16 p)), (nat_lit 1, PV.int Go.IntKind.i64 z1),
 (nat_lit 2, PV.int Go.IntKind.i64 z2), (nat_lit 3, PV.bool four),
 (nat_lit 4, PV.vec nl (1 : Nat) shp (0 : Nat)), (nat_lit 5, PV.ptr ((5 : Nat) + (32 : Nat)) (0 : Nat)),
 (nat_lit 10, PV.bool false),
 (nat_lit 11, PV.int Go.IntKind.i64 (lowN z1 (8 : Int))),
 (nat_lit 12,
 PV.int Go.IntKind.i64
 (min
 (min ((1 : Int) + lowN z2 (8 : Int))
 ((8 : Int) - lowN z1 (8 : Int)))
 (max (0 : Int) ((6 : Int) - lowN z1 (8 : Int))))),
 ((13 : Nat), PV.int Go.IntKind.i64 x.fst), (nat_lit 14, PV.str (ByteArray.mk #[]).data.toList),
 (nat_lit 15, PV.int Go.IntKind.i64 (0 : Int)), (nat_lit 16, PV.undef), (nat_lit 17, PV.undef),
 (nat_lit 27, PV.bool four),
 ((38 : Nat),
 PV.bool
 (decide
 (x.fst <
 lowN z1 (8 : Int) +
 min
 (min ((1 : Int) + lowN z2 (8 : Int))
 ((8 : Int) - lowN z1 (8 : Int)))
 (max (0 : Int) ((6 : Int) - lowN z1 (8 : Int)))))),
 ((44 : Nat), PV.undef), ((53 : Nat), PV.undef), ((69 : Nat), PV.undef), ((76 : Nat), PV.undef)]
 [((37 : Nat), PV.arr (8 : Nat) (BRow.ints Go.IntKind.u16 x.snd))] =
 VS.mk []
 [(nat_lit 0, PV.arr (8 : Nat) (BRow.ints Go.IntKind.u16 p)), (nat_lit 1, PV.int Go.IntKind.i64 z1),
 (nat_lit 2, PV.int Go.IntKind.i64 z2), (nat_lit 3, PV.bool four),
 (nat_lit 4, PV.vec nl (1 : Nat) shp (0 : Nat)), (nat_lit 5, PV.ptr ((5 : Nat) + (32 : Nat)) (0 : Nat)),
 (nat_lit 10, PV.bool false),
 (nat_lit 11, PV.int Go.IntKind.i64 (lowN z1 (8 : Int))),
 (nat_lit 12,
 PV.int Go.IntKind.i64
 (min
 (min ((1 : Int) + lowN z2 (8 : Int))
 ((8 : Int) - lowN z1 (8 : Int)))
 (max (0 : Int) ((6 : Int) - lowN z1 (8 : Int))))),
 ((13 : Nat), PV.int Go.IntKind.i64 x.fst), ((14 : Nat), PV.str (ByteArray.mk #[]).data.toList),
 ((15 : Nat), PV.int Go.IntKind.i64 (0 : Int)), (nat_lit 16, PV.undef), (nat_lit 17, PV.undef),
 (nat_lit 27, PV.bool four),
 ((38 : Nat),
 PV.bool
 (decide
 (x.fst <
 lowN z1 (8 : Int) +
 min
 (min ((1 : Int) + lowN z2 (8 : Int))
 ((8 : Int) - lowN z1 (8 : Int)))
 (max (0 : Int) ((6 : Int) - lowN z1 (8 : Int)))))),
 ((44 : Nat), PV.undef), ((53 : Nat), PV.undef), ((69 : Nat), PV.undef), ((76 : Nat), PV.undef)]
 [((37 : Nat), PV.arr (8 : Nat) (BRow.ints Go.IntKind.u16 x.snd))] ∧
 ((0 : Int) ≤ (0 : Int) ∧
 (0 : Int) ≤ (8 : Int) ∧
 (four = true → (0 : Int) ≤ (6 : Int)) ∧
 ((0 : Int) ≤ lowN z1 (8 : Int) ∨
 lowN z1 (8 : Int) +
 min
 (min ((1 : Int) + lowN z2 (8 : Int))
 ((8 : Int) - lowN z1 (8 : Int)))
 (max (0 : Int) ((6 : Int) - lowN z1 (8 : Int))) ≤
 (0 : Int)) ∧
 (ByteArray.mk #[]).data.toList =
 textAt x.snd sh (lowN z1 (8 : Int))
 (min
 (min ((1 : Int) + lowN z2 (8 : Int))
 ((8 : Int) - lowN z1 (8 : Int)))
 (max (0 : Int) ((6 : Int) - lowN z1 (8 : Int))))
 (0 : Int)) ∧
 ∀ (x_1 : Bs × Int),
 (0 : Int) ≤ x_1.snd ∧
 x_1.snd ≤ (8 : Int) ∧
 (four = true → x_1.snd ≤ (6 : Int)) ∧
 (x_1.snd ≤ lowN z1 (8 : Int) ∨
 lowN z1 (8 : Int) +
 min
 (min ((1 : Int) + lowN z2 (8 : Int))
 ((8 : Int) - lowN z1 (8 : Int)))
 (max (0 : Int) ((6 : Int) - lowN z1 (8 : Int))) ≤
 x_1.snd) ∧
 x_1.fst =
 textAt x.snd sh (lowN z1 (8 : Int))
 (min
 (min ((1 : Int) + lowN z2 (8 : Int))
 ((8 : Int) - lowN z1 (8 : Int)))
 (max (0 : Int) ((6 : Int) - lowN z1 (8 : Int))))
 x_1.snd →
 (decide (x_1.snd < (8 : Int)) = true →
 ((bif decide (x_1.snd = lowN z1 (8 : Int)) then
 decide
 ((0 : Int) <
 min
 (min ((1 : Int) + lowN z2 (8 : Int))
 ((8 : Int) - lowN z1 (8 : Int)))
 (max (0 : Int) ((6 : Int) - lowN z1 (8 : Int))))
 else false) =
 true →
 List.length x_1.fst + (ByteArray.mk #[(58 : UInt8), (58 : UInt8)]).data.toList.length ≤ Go.Vc.maxLen ∧
 inI64
 (x_1.snd +
 min
 (min ((1 : Int) + lowN z2 (8 : Int))
 ((8 : Int) - lowN z1 (8 : Int)))
 (max (0 : Int) ((6 : Int) - lowN z1 (8 : Int)))) ∧
 inI64
 (x_1.snd +
 min
 (min ((1 : Int) + lowN z2 (8 : Int))
 ((8 : Int) - lowN z1 (8 : Int)))
 (max (0 : Int) ((6 : Int) - lowN z1 (8 : Int))) -
 (1 : Int)) ∧
 inI64
 (x_1.snd +
 min
 (min ((1 : Int) + lowN z2 (8 : Int))
 ((8 : Int) - lowN z1 (8 : Int)))
 (max (0 : Int) ((6 : Int) - lowN z1 (8 : Int))) -
 (1 : Int) +
 (1 : Int)) ∧
 VS.mk []
 [(nat_lit 0, PV.arr (8 : Nat) (BRow.ints Go.IntKind.u16 p)),
 (nat_lit 1, PV.int Go.IntKind.i64 z1), (nat_lit 2, PV.int Go.IntKind.i64 z2),
 (nat_lit 3, PV.bool four), (nat_lit 4, PV.vec nl (1 : Nat) shp (0 : Nat)),
 (nat_lit 5, PV.ptr ((5 : Nat) + (32 : Nat)) (0 : Nat)), (nat_lit 10, PV.bool false),
 (nat_lit 11, PV.int Go.IntKind.i64 (lowN z1 (8 : Int))),
 (nat_lit 12,
 PV.int Go.IntKind.i64
 (min
 (min ((1 : Int) + lowN z2 (8 : Int))
 ((8 : Int) - lowN z1 (8 : Int)))
 (max (0 : Int) ((6 : Int) - lowN z1 (8 : Int))))),
 ((13 : Nat), PV.int Go.IntKind.i64 x.fst),
 ((14 : Nat), PV.str (x_1.fst ++ (ByteArray.mk #[(58 : UInt8), (58 : UInt8)]).data.toList)),
 ((15 : Nat),
 PV.int Go.IntKind.i64
 (x_1.snd +
 min
 (min ((1 : Int) + lowN z2 (8 : Int))
 ((8 : Int) - lowN z1 (8 : Int)))
 (max (0 : Int) ((6 : Int) - lowN z1 (8 : Int))) -
 (1 : Int) +
 (1 : Int))),
 (nat_lit 16, PV.undef), (nat_lit 17, PV.undef), (nat_lit 27, PV.bool four),
 ((38 : Nat),
 PV.bool
 (decide
 (x.fst <
 lowN z1 (8 : Int) +
 min
 (min ((1 : Int) + lowN z2 (8 : Int))
 ((8 : Int) - lowN z1 (8 : Int)))
 (max (0 : Int) ((6 : Int) - lowN z1 (8 : Int)))))),
 ((44 : Nat), PV.undef), ((53 : Nat), PV.undef), ((69 : Nat), PV.undef),
 ((76 : Nat), PV.undef)]
 [((37 : Nat), PV.arr (8 : Nat) (BRow.ints Go.IntKind.u16 x.snd))] =
 VS.mk []
 [(nat_lit 0, PV.arr (8 : Nat) (BRow.ints Go.IntKind.u16 p)),
 (nat_lit 1, PV.int Go.IntKind.i64 z1), (nat_lit 2, PV.int Go.IntKind.i64 z2),
 (nat_lit 3, PV.bool four), (nat_lit 4, PV.vec nl (1 : Nat) shp (0 : Nat)),
 (nat_lit 5, PV.ptr ((5 : Nat) + (32 : Nat)) (0 : Nat)), (nat_lit 10, PV.bool false),
 (nat_lit 11, PV.int Go.IntKind.i64 (lowN z1 (8 : Int))),
 (nat_lit 12,
 PV.int Go.IntKind.i64
 (min
 (min ((1 : Int) + lowN z2 (8 : Int))
 ((8 : Int) - lowN z1 (8 : Int)))
 (max (0 : Int) ((6 : Int) - lowN z1 (8 : Int))))),
 ((13 : Nat), PV.int Go.IntKind.i64 x.fst),
 ((14 : Nat), PV.str (x_1.fst ++ (ByteArray.mk #[(58 : UInt8), (58 : UInt8)]).data.toList)),
 ((15 : Nat),
 PV.int Go.IntKind.i64
 (x_1.snd +
 min
 (min ((1 : Int) + lowN z2 (8 : Int))
 ((8 : Int) - lowN z1 (8 : Int)))
 (max (0 : Int) ((6 : Int) - lowN z1 (8 : Int))) -
 (1 : Int) +
 (1 : Int))),
 (nat_lit 16, PV.undef), (nat_lit 17, PV.undef), (nat_lit 27, PV.bool four),
 ((38 : Nat),
 PV.bool
 (decide
 (x.fst <
 lowN z1 (8 : Int) +
 min
 (min ((1 : Int) + lowN z2 (8 : Int))
 ((8 : Int) - lowN z1 (8 : Int)))
 (max (0 : Int) ((6 : Int) - lowN z1 (8 : Int)))))),
 ((44 : Nat), PV.undef), ((53 : Nat), PV.undef), ((69 : Nat), PV.undef),
 ((76 : Nat), PV.undef)]
 [((37 : Nat), PV.arr (8 : Nat) (BRow.ints Go.IntKind.u16 x.snd))] ∧
 ((0 : Int) ≤
 x_1.snd +
 min
 (min ((1 : Int) + lowN z2 (8 : Int))
 ((8 : Int) - lowN z1 (8 : Int)))
 (max (0 : Int) ((6 : Int) - lowN z1 (8 : Int))) -
 (1 : Int) +
 (1 : Int) ∧
 x_1.snd +
 min
 (min ((1 : Int) + lowN z2 (8 : Int))
 ((8 : Int) - lowN z1 (8 : Int)))
 (max (0 : Int) ((6 : Int) - lowN z1 (8 : Int))) -
 (1 : Int) +
 (1 : Int) ≤
 (8 : Int) ∧
 (four = true →
 x_1.snd +
 min
 (min ((1 : Int) + lowN z2 (8 : Int))
 ((8 : Int) - lowN z1 (8 : Int)))
 (max (0 : Int) ((6 : Int) - lowN z1 (8 : Int))) -
 (1 : Int) +
 (1 : Int) ≤
 (6 : Int)) ∧
 (x_1.snd +
 min
 (min ((1 : Int) + lowN z2 (8 : Int))
 ((8 : Int) - lowN z1 (8 : Int)))
 (max (0 : Int) ((6 : Int) - lowN z1 (8 : Int))) -
 (1 : Int) +
 (1 : Int) ≤
 lowN z1 (8 : Int) ∨
 lowN z1 (8 : Int) +
 min
 (min ((1 : Int) + lowN z2 (8 : Int))
 ((8 : Int) - lowN z1 (8 : Int)))
 (max (0 : Int) ((6 : Int) - lowN z1 (8 : Int))) ≤
 x_1.snd +
 min
 (min ((1 : Int) + lowN z2 (8 : Int))
 ((8 : Int) - lowN z1 (8 : Int)))
 (max (0 : Int) ((6 : Int) - lowN z1 (8 : Int))) -
 (1 : Int) +
 (1 : Int)) ∧
 x_1.fst ++ (ByteArray.mk #[(58 : UInt8), (58 : UInt8)]).data.toList =
 textAt x.snd sh
 (lowN z1 (8 : Int))
 (min
 (min ((1 : Int) + lowN z2 (8 : Int))
 ((8 : Int) - lowN z1 (8 : Int)))
 (max (0 : Int) ((6 : Int) - lowN z1 (8 : Int))))
 (x_1.snd +
 min
 (min ((1 : Int) + lowN z2 (8 : Int))
 ((8 : Int) - lowN z1 (8 : Int)))
 (max (0 : Int) ((6 : Int) - lowN z1 (8 : Int))) -
 (1 : Int) +
 (1 : Int))) ∧
 ((8 : Int) -
 (x_1.snd +
 min
 (min ((1 : Int) + lowN z2 (8 : Int))
 ((8 : Int) - lowN z1 (8 : Int)))
 (max (0 : Int) ((6 : Int) - lowN z1 (8 : Int))) -
 (1 : Int) +
 (1 : Int))).toNat <
 ((8 : Int) - x_1.snd).toNat) ∧
 ((bif decide (x_1.snd = lowN z1 (8 : Int)) then
 decide
 ((0 : Int) <
 min
 (min ((1 : Int) + lowN z2 (8 : Int))
 ((8 : Int) - lowN z1 (8 : Int)))
 (max (0 : Int) ((6 : Int) - lowN z1 (8 : Int))))
 else false) =
 false →
 ((!decide (x_1.fst = (ByteArray.mk #[]).data.toList)) = true → inI64 (lenZ x_1.fst - (1 : Int))) ∧
 ((!decide (x_1.fst = (ByteArray.mk #[]).data.toList)) = true →
 within (lenZ x_1.fst - (1 : Int)) (lenZ x_1.fst)) ∧
 ((bif !decide (x_1.fst = (ByteArray.mk #[]).data.toList) then
 !decide (byteZ x_1.fst (lenZ x_1.fst - (1 : Int)) = (58 : Int))
 else false) =
 true →
 List.length x_1.fst + (ByteArray.mk #[(58 : UInt8)]).data.toList.length ≤ Go.Vc.maxLen ∧
 ((bif four then decide (x_1.snd = (6 : Int)) else false) = true →
 within (6 : Int) ↑(8 : Nat) ∧
 within (6 : Int) ↑(8 : Nat) ∧
 (0 : Int) ≤ (16 : Int) ∧
 within (7 : Int) ↑(8 : Nat) ∧
 within (7 : Int) ↑(8 : Nat) ∧
 ((0 : Int) ≤
 bitsZ Go.BinOp.or Go.IntKind.u32
 (shlZ Go.IntKind.u32 (Go.IntKind.u32.wrap (intZ x.snd (6 : Int)))
 (16 : Int))
 (Go.IntKind.u32.wrap (intZ x.snd (7 : Int))) ∧
 bitsZ Go.BinOp.or Go.IntKind.u32
 (shlZ Go.IntKind.u32 (Go.IntKind.u32.wrap (intZ x.snd (6 : Int)))
 (16 : Int))
 (Go.IntKind.u32.wrap (intZ x.snd (7 : Int))) <
 (4294967296 : Int)) ∧
 List.length (x_1.fst ++ (ByteArray.mk #[(58 : UInt8)]).data.toList) +
 (showL
 (bitsZ Go.BinOp.or Go.IntKind.u32
 (shlZ Go.IntKind.u32
 (Go.IntKind.u32.wrap (intZ x.snd (6 : Int))) (16 : Int))
 (Go.IntKind.u32.wrap (intZ x.snd (7 : Int)))).toNat).length ≤
 Go.Vc.maxLen ∧
 (List.length
 (x_1.fst ++ (ByteArray.mk #[(58 : UInt8)]).data.toList ++
 showL
 (bitsZ Go.BinOp.or Go.IntKind.u32
 (shlZ Go.IntKind.u32
 (Go.IntKind.u32.wrap (intZ x.snd (6 : Int))) (16 : Int))
 (Go.IntKind.u32.wrap (intZ x.snd (7 : Int)))).toNat)).le
 (1000000 : Nat) ∧
 ((bif
 (six
 (x_1.fst ++ (ByteArray.mk #[(58 : UInt8)]).data.toList ++
 showL
 (bitsZ Go.BinOp.or Go.IntKind.u32
 (shlZ Go.IntKind.u32
 (Go.IntKind.u32.wrap (intZ x.snd (6 : Int))) (16 : Int))
 (Go.IntKind.u32.wrap
 (intZ x.snd (7 : Int)))).toNat)).snd then
 decide
 ((six
 (x_1.fst ++ (ByteArray.mk #[(58 : UInt8)]).data.toList ++
 showL
 (bitsZ Go.BinOp.or Go.IntKind.u32
 (shlZ Go.IntKind.u32
 (Go.IntKind.u32.wrap (intZ x.snd (6 : Int)))
 (16 : Int))
 (Go.IntKind.u32.wrap
 (intZ x.snd (7 : Int)))).toNat)).fst =
 x.snd)
 else false) =
 true →
 True) ∧
 k
 (PV.bool
 (bif
 bif
 (six
 (x_1.fst ++ (ByteArray.mk #[(58 : UInt8)]).data.toList ++
 showL
 (bitsZ Go.BinOp.or Go.IntKind.u32
 (shlZ Go.IntKind.u32
 (Go.IntKind.u32.wrap (intZ x.snd (6 : Int)))
 (16 : Int))
 (Go.IntKind.u32.wrap
 (intZ x.snd (7 : Int)))).toNat)).snd then
 decide
 ((six
 (x_1.fst ++ (ByteArray.mk #[(58 : UInt8)]).data.toList ++
 showL
 (bitsZ Go.BinOp.or Go.IntKind.u32
 (shlZ Go.IntKind.u32
 (Go.IntKind.u32.wrap (intZ x.snd (6 : Int)))
 (16 : Int))
 (Go.IntKind.u32.wrap
 (intZ x.snd (7 : Int)))).toNat)).fst =
 x.snd)
 else false then
 true
 else false))) ∧
 ((bif four then decide (x_1.snd = (6 : Int)) else false) = false →
 within x_1.snd ↑(8 : Nat) ∧
 within x_1.snd ↑(8 : Nat) ∧
 (decide (x_1.snd < lenZ shp) = true → within x_1.snd (lenZ shp)) ∧
 (decide (x_1.snd < lenZ shp) = true →
 partV Go.Proofs.Tryd.prog (4 : Nat) (pvZ shp x_1.snd) (0 : Nat) =
 PV.bool
 (partV Go.Proofs.Tryd.prog (4 : Nat) (pvZ shp x_1.snd) (0 : Nat)).asBool) ∧
 ((0 : Int) ≤ intZ x.snd x_1.snd ∧ intZ x.snd x_1.snd ≤ (65535 : Int)) ∧
 List.length (x_1.fst ++ (ByteArray.mk #[(58 : UInt8)]).data.toList) +
 List.length
 (hexS (intZ x.snd x_1.snd)
 (bif decide (x_1.snd < lenZ shp) then
 (partV Go.Proofs.Tryd.prog (4 : Nat) (pvZ shp x_1.snd)
 (0 : Nat)).asBool
 else false)) ≤
 Go.Vc.maxLen ∧
 inI64 (x_1.snd + (1 : Int)) ∧
 VS.mk []
 [(nat_lit 0, PV.arr (8 : Nat) (BRow.ints Go.IntKind.u16 p)),
 (nat_lit 1, PV.int Go.IntKind.i64 z1),
 (nat_lit 2, PV.int Go.IntKind.i64 z2), (nat_lit 3, PV.bool four),
 (nat_lit 4, PV.vec nl (1 : Nat) shp (0 : Nat)),
 (nat_lit 5, PV.ptr ((5 : Nat) + (32 : Nat)) (0 : Nat)),
 (nat_lit 10, PV.bool false),
 (nat_lit 11,
 PV.int Go.IntKind.i64
 (lowN z1 (8 : Int))),
 (nat_lit 12,
 PV.int Go.IntKind.i64
 (min
 (min ((1 : Int) + lowN z2 (8 : Int))
 ((8 : Int) - lowN z1 (8 : Int)))
 (max (0 : Int)
 ((6 : Int) - lowN z1 (8 : Int))))),
 ((13 : Nat), PV.int Go.IntKind.i64 x.fst),
 ((14 : Nat),
 PV.str
 (x_1.fst ++ (ByteArray.mk #[(58 : UInt8)]).data.toList ++
 hexS (intZ x.snd x_1.snd)
 (bif decide (x_1.snd < lenZ shp) then
 (partV Go.Proofs.Tryd.prog (4 : Nat) (pvZ shp x_1.snd)
 (0 : Nat)).asBool
 else false))),
 ((15 : Nat), PV.int Go.IntKind.i64 (x_1.snd + (1 : Int))),
 (nat_lit 16, PV.undef), (nat_lit 17, PV.undef),
 (nat_lit 27, PV.bool four),
 ((38 : Nat),
 PV.bool
 (decide
 (x.fst <
 lowN z1 (8 : Int) +
 min
 (min ((1 : Int) + lowN z2 (8 : Int))
 ((8 : Int) - lowN z1 (8 : Int)))
 (max (0 : Int)
 ((6 : Int) -
 lowN z1 (8 : Int)))))),
 ((44 : Nat), PV.undef), ((53 : Nat), PV.undef),
 ((69 : Nat), PV.undef), ((76 : Nat), PV.undef)]
 [((37 : Nat), PV.arr (8 : Nat) (BRow.ints Go.IntKind.u16 x.snd))] =
 VS.mk []
 [(nat_lit 0, PV.arr (8 : Nat) (BRow.ints Go.IntKind.u16 p)),
 (nat_lit 1, PV.int Go.IntKind.i64 z1),
 (nat_lit 2, PV.int Go.IntKind.i64 z2), (nat_lit 3, PV.bool four),
 (nat_lit 4, PV.vec nl (1 : Nat) shp (0 : Nat)),
 (nat_lit 5, PV.ptr ((5 : Nat) + (32 : Nat)) (0 : Nat)),
 (nat_lit 10, PV.bool false),
 (nat_lit 11,
 PV.int Go.IntKind.i64
 (lowN z1 (8 : Int))),
 (nat_lit 12,
 PV.int Go.IntKind.i64
 (min
 (min ((1 : Int) + lowN z2 (8 : Int))
 ((8 : Int) - lowN z1 (8 : Int)))
 (max (0 : Int)
 ((6 : Int) - lowN z1 (8 : Int))))),
 ((13 : Nat), PV.int Go.IntKind.i64 x.fst),
 ((14 : Nat),
 PV.str
 (x_1.fst ++ (ByteArray.mk #[(58 : UInt8)]).data.toList ++
 hexS (intZ x.snd x_1.snd)
 (bif decide (x_1.snd < lenZ shp) then
 (partV Go.Proofs.Tryd.prog (4 : Nat) (pvZ shp x_1.snd)
 (0 : Nat)).asBool
 else false))),
 ((15 : Nat), PV.int Go.IntKind.i64 (x_1.snd + (1 : Int))),
 (nat_lit 16, PV.undef), (nat_lit 17, PV.undef),
 (nat_lit 27, PV.bool four),
 ((38 : Nat),
 PV.bool
 (decide
 (x.fst <
 lowN z1 (8 : Int) +
 min
 (min ((1 : Int) + lowN z2 (8 : Int))
 ((8 : Int) - lowN z1 (8 : Int)))
 (max (0 : Int)
 ((6 : Int) -
 lowN z1 (8 : Int)))))),
 ((44 : Nat), PV.undef), ((53 : Nat), PV.undef),
 ((69 : Nat), PV.undef), ((76 : Nat), PV.undef)]
 [((37 : Nat), PV.arr (8 : Nat) (BRow.ints Go.IntKind.u16 x.snd))] ∧
 ((0 : Int) ≤ x_1.snd + (1 : Int) ∧
 x_1.snd + (1 : Int) ≤ (8 : Int) ∧
 (four = true → x_1.snd + (1 : Int) ≤ (6 : Int)) ∧
 (x_1.snd + (1 : Int) ≤ lowN z1 (8 : Int) ∨
 lowN z1 (8 : Int) +
 min
 (min ((1 : Int) + lowN z2 (8 : Int))
 ((8 : Int) - lowN z1 (8 : Int)))
 (max (0 : Int)
 ((6 : Int) - lowN z1 (8 : Int))) ≤
 x_1.snd + (1 : Int)) ∧
 x_1.fst ++ (ByteArray.mk #[(58 : UInt8)]).data.toList ++
 hexS (intZ x.snd x_1.snd)
 (bif decide (x_1.snd < lenZ shp) then
 (partV Go.Proofs.Tryd.prog (4 : Nat) (pvZ shp x_1.snd)
 (0 : Nat)).asBool
 else false) =
 textAt x.snd sh
 (lowN z1 (8 : Int))
 (min
 (min ((1 : Int) + lowN z2 (8 : Int))
 ((8 : Int) - lowN z1 (8 : Int)))
 (max (0 : Int)
 ((6 : Int) - lowN z1 (8 : Int))))
 (x_1.snd + (1 : Int))) ∧
 ((8 : Int) - (x_1.snd + (1 : Int))).toNat < ((8 : Int) - x_1.snd).toNat)) ∧
 ((bif !decide (x_1.fst = (ByteArray.mk #[]).data.toList) then
 !decide (byteZ x_1.fst (lenZ x_1.fst - (1 : Int)) = (58 : Int))
 else false) =
 false →
 ((bif four then decide (x_1.snd = (6 : Int)) else false) = true →
 within (6 : Int) ↑(8 : Nat) ∧
 within (6 : Int) ↑(8 : Nat) ∧
 (0 : Int) ≤ (16 : Int) ∧
 within (7 : Int) ↑(8 : Nat) ∧
 within (7 : Int) ↑(8 : Nat) ∧
 ((0 : Int) ≤
 bitsZ Go.BinOp.or Go.IntKind.u32
 (shlZ Go.IntKind.u32 (Go.IntKind.u32.wrap (intZ x.snd (6 : Int)))
 (16 : Int))
 (Go.IntKind.u32.wrap (intZ x.snd (7 : Int))) ∧
 bitsZ Go.BinOp.or Go.IntKind.u32
 (shlZ Go.IntKind.u32 (Go.IntKind.u32.wrap (intZ x.snd (6 : Int)))
 (16 : Int))
 (Go.IntKind.u32.wrap (intZ x.snd (7 : Int))) <
 (4294967296 : Int)) ∧
 List.length x_1.fst +
 (showL
 (bitsZ Go.BinOp.or Go.IntKind.u32
 (shlZ Go.IntKind.u32 (Go.IntKind.u32.wrap (intZ x.snd (6 : Int)))
 (16 : Int))
 (Go.IntKind.u32.wrap (intZ x.snd (7 : Int)))).toNat).length ≤
 Go.Vc.maxLen ∧
 (List.length
 (x_1.fst ++
 showL
 (bitsZ Go.BinOp.or Go.IntKind.u32
 (shlZ Go.IntKind.u32
 (Go.IntKind.u32.wrap (intZ x.snd (6 : Int))) (16 : Int))
 (Go.IntKind.u32.wrap (intZ x.snd (7 : Int)))).toNat)).le
 (1000000 : Nat) ∧
 ((bif
 (six
 (x_1.fst ++
 showL
 (bitsZ Go.BinOp.or Go.IntKind.u32
 (shlZ Go.IntKind.u32
 (Go.IntKind.u32.wrap (intZ x.snd (6 : Int))) (16 : Int))
 (Go.IntKind.u32.wrap
 (intZ x.snd (7 : Int)))).toNat)).snd then
 decide
 ((six
 (x_1.fst ++
 showL
 (bitsZ Go.BinOp.or Go.IntKind.u32
 (shlZ Go.IntKind.u32
 (Go.IntKind.u32.wrap (intZ x.snd (6 : Int))) (16 : Int))
 (Go.IntKind.u32.wrap
 (intZ x.snd (7 : Int)))).toNat)).fst =
 x.snd)
 else false) =
 true →
 True) ∧
 k
 (PV.bool
 (bif
 bif
 (six
 (x_1.fst ++
 showL
 (bitsZ Go.BinOp.or Go.IntKind.u32
 (shlZ Go.IntKind.u32
 (Go.IntKind.u32.wrap (intZ x.snd (6 : Int)))
 (16 : Int))
 (Go.IntKind.u32.wrap
 (intZ x.snd (7 : Int)))).toNat)).snd then
 decide
 ((six
 (x_1.fst ++
 showL
 (bitsZ Go.BinOp.or Go.IntKind.u32
 (shlZ Go.IntKind.u32
 (Go.IntKind.u32.wrap (intZ x.snd (6 : Int)))
 (16 : Int))
 (Go.IntKind.u32.wrap
 (intZ x.snd (7 : Int)))).toNat)).fst =
 x.snd)
 else false then
 true
 else false))) ∧
 ((bif four then decide (x_1.snd = (6 : Int)) else false) = false →
 within x_1.snd ↑(8 : Nat) ∧
 within x_1.snd ↑(8 : Nat) ∧
 (decide (x_1.snd < lenZ shp) = true → within x_1.snd (lenZ shp)) ∧
 (decide (x_1.snd < lenZ shp) = true →
 partV Go.Proofs.Tryd.prog (4 : Nat) (pvZ shp x_1.snd) (0 : Nat) =
 PV.bool
 (partV Go.Proofs.Tryd.prog (4 : Nat) (pvZ shp x_1.snd) (0 : Nat)).asBool) ∧
 ((0 : Int) ≤ intZ x.snd x_1.snd ∧ intZ x.snd x_1.snd ≤ (65535 : Int)) ∧
 List.length x_1.fst +
 List.length
 (hexS (intZ x.snd x_1.snd)
 (bif decide (x_1.snd < lenZ shp) then
 (partV Go.Proofs.Tryd.prog (4 : Nat) (pvZ shp x_1.snd)
 (0 : Nat)).asBool
 else false)) ≤
 Go.Vc.maxLen ∧
 inI64 (x_1.snd + (1 : Int)) ∧
 VS.mk []
 [(nat_lit 0, PV.arr (8 : Nat) (BRow.ints Go.IntKind.u16 p)),
 (nat_lit 1, PV.int Go.IntKind.i64 z1),
 (nat_lit 2, PV.int Go.IntKind.i64 z2), (nat_lit 3, PV.bool four),
 (nat_lit 4, PV.vec nl (1 : Nat) shp (0 : Nat)),
 (nat_lit 5, PV.ptr ((5 : Nat) + (32 : Nat)) (0 : Nat)),
 (nat_lit 10, PV.bool false),
 (nat_lit 11,
 PV.int Go.IntKind.i64 (lowN z1 (8 : Int))),
 (nat_lit 12,
 PV.int Go.IntKind.i64
 (min
 (min ((1 : Int) + lowN z2 (8 : Int))
 ((8 : Int) - lowN z1 (8 : Int)))
 (max (0 : Int)
 ((6 : Int) - lowN z1 (8 : Int))))),
 ((13 : Nat), PV.int Go.IntKind.i64 x.fst),
 ((14 : Nat),
 PV.str
 (x_1.fst ++
 hexS (intZ x.snd x_1.snd)
 (bif decide (x_1.snd < lenZ shp) then
 (partV Go.Proofs.Tryd.prog (4 : Nat) (pvZ shp x_1.snd)
 (0 : Nat)).asBool
 else false))),
 ((15 : Nat), PV.int Go.IntKind.i64 (x_1.snd + (1 : Int))),
 (nat_lit 16, PV.undef), (nat_lit 17, PV.undef),
 (nat_lit 27, PV.bool four),
 ((38 : Nat),
 PV.bool
 (decide
 (x.fst <
 lowN z1 (8 : Int) +
 min
 (min ((1 : Int) + lowN z2 (8 : Int))
 ((8 : Int) - lowN z1 (8 : Int)))
 (max (0 : Int)
 ((6 : Int) - lowN z1 (8 : Int)))))),
 ((44 : Nat), PV.undef), ((53 : Nat), PV.undef),
 ((69 : Nat), PV.undef), ((76 : Nat), PV.undef)]
 [((37 : Nat), PV.arr (8 : Nat) (BRow.ints Go.IntKind.u16 x.snd))] =
 VS.mk []
 [(nat_lit 0, PV.arr (8 : Nat) (BRow.ints Go.IntKind.u16 p)),
 (nat_lit 1, PV.int Go.IntKind.i64 z1),
 (nat_lit 2, PV.int Go.IntKind.i64 z2), (nat_lit 3, PV.bool four),
 (nat_lit 4, PV.vec nl (1 : Nat) shp (0 : Nat)),
 (nat_lit 5, PV.ptr ((5 : Nat) + (32 : Nat)) (0 : Nat)),
 (nat_lit 10, PV.bool false),
 (nat_lit 11,
 PV.int Go.IntKind.i64 (lowN z1 (8 : Int))),
 (nat_lit 12,
 PV.int Go.IntKind.i64
 (min
 (min ((1 : Int) + lowN z2 (8 : Int))
 ((8 : Int) - lowN z1 (8 : Int)))
 (max (0 : Int)
 ((6 : Int) - lowN z1 (8 : Int))))),
 ((13 : Nat), PV.int Go.IntKind.i64 x.fst),
 ((14 : Nat),
 PV.str
 (x_1.fst ++
 hexS (intZ x.snd x_1.snd)
 (bif decide (x_1.snd < lenZ shp) then
 (partV Go.Proofs.Tryd.prog (4 : Nat) (pvZ shp x_1.snd)
 (0 : Nat)).asBool
 else false))),
 ((15 : Nat), PV.int Go.IntKind.i64 (x_1.snd + (1 : Int))),
 (nat_lit 16, PV.undef), (nat_lit 17, PV.undef),
 (nat_lit 27, PV.bool four),
 ((38 : Nat),
 PV.bool
 (decide
 (x.fst <
 lowN z1 (8 : Int) +
 min
 (min ((1 : Int) + lowN z2 (8 : Int))
 ((8 : Int) - lowN z1 (8 : Int)))
 (max (0 : Int)
 ((6 : Int) - lowN z1 (8 : Int)))))),
 ((44 : Nat), PV.undef), ((53 : Nat), PV.undef),
 ((69 : Nat), PV.undef), ((76 : Nat), PV.undef)]
 [((37 : Nat), PV.arr (8 : Nat) (BRow.ints Go.IntKind.u16 x.snd))] ∧
 ((0 : Int) ≤ x_1.snd + (1 : Int) ∧
 x_1.snd + (1 : Int) ≤ (8 : Int) ∧
 (four = true → x_1.snd + (1 : Int) ≤ (6 : Int)) ∧
 (x_1.snd + (1 : Int) ≤ lowN z1 (8 : Int) ∨
 lowN z1 (8 : Int) +
 min
 (min ((1 : Int) + lowN z2 (8 : Int))
 ((8 : Int) - lowN z1 (8 : Int)))
 (max (0 : Int)
 ((6 : Int) - lowN z1 (8 : Int))) ≤
 x_1.snd + (1 : Int)) ∧
 x_1.fst ++
 hexS (intZ x.snd x_1.snd)
 (bif decide (x_1.snd < lenZ shp) then
 (partV Go.Proofs.Tryd.prog (4 : Nat) (pvZ shp x_1.snd)
 (0 : Nat)).asBool
 else false) =
 textAt x.snd sh
 (lowN z1 (8 : Int))
 (min
 (min ((1 : Int) + lowN z2 (8 : Int))
 ((8 : Int) - lowN z1 (8 : Int)))
 (max (0 : Int)
 ((6 : Int) - lowN z1 (8 : Int))))
 (x_1.snd + (1 : Int))) ∧
 ((8 : Int) - (x_1.snd + (1 : Int))).toNat < ((8 : Int) - x_1.snd).toNat)))) ∧
 (decide (x_1.snd < (8 : Int)) = false →
 (List.length x_1.fst).le (1000000 : Nat) ∧
 ((bif (six x_1.fst).snd then
 decide ((six x_1.fst).fst = x.snd)
 else false) =
 true →
 True) ∧
 k
 (PV.bool
 (bif
 bif (six x_1.fst).snd then
 decide ((six x_1.fst).fst = x.snd)
 else false then
 true
 else false))))) ∧
 (four = false →
 VS.mk []
 [(nat_lit 0, PV.arr (8 : Nat) (BRow.ints Go.IntKind.u16 p)), (nat_lit 1, PV.int Go.IntKind.i64 z1),
 (nat_lit 2, PV.int Go.IntKind.i64 z2), (nat_lit 3, PV.bool four), (nat_lit 4, PV.vec nl (1 : Nat) shp (0 : Nat)),
 (nat_lit 5, PV.ptr ((5 : Nat) + (32 : Nat)) (0 : Nat)), (nat_lit 10, PV.bool false),
 (nat_lit 11, PV.int Go.IntKind.i64 (lowN z1 (8 : Int))),
 (nat_lit 12,
 PV.int Go.IntKind.i64
 (min ((1 : Int) + lowN z2 (8 : Int)) ((8 : Int) - lowN z1 (8 : Int)))),
 (nat_lit 13, PV.int Go.IntKind.i64 (lowN z1 (8 : Int))), (nat_lit 14, PV.undef),
 (nat_lit 15, PV.undef), (nat_lit 16, PV.undef), (nat_lit 17, PV.undef), (nat_lit 27, PV.bool four),
 ((38 : Nat), PV.undef), (nat_lit 44, PV.undef), (nat_lit 53, PV.undef), (nat_lit 69, PV.undef),
 (nat_lit 76, PV.undef)]
 [((5 : Nat) + (32 : Nat), PV.arr (8 : Nat) (BRow.ints Go.IntKind.u16 p))] =
 VS.mk []
 [(nat_lit 0, PV.arr (8 : Nat) (BRow.ints Go.IntKind.u16 p)), (nat_lit 1, PV.int Go.IntKind.i64 z1),
 (nat_lit 2, PV.int Go.IntKind.i64 z2), (nat_lit 3, PV.bool four), (nat_lit 4, PV.vec nl (1 : Nat) shp (0 : Nat)),
 (nat_lit 5, PV.ptr ((5 : Nat) + (32 : Nat)) (0 : Nat)), (nat_lit 10, PV.bool false),
 (nat_lit 11, PV.int Go.IntKind.i64 (lowN z1 (8 : Int))),
 (nat_lit 12,
 PV.int Go.IntKind.i64
 (min ((1 : Int) + lowN z2 (8 : Int)) ((8 : Int) - lowN z1 (8 : Int)))),
 ((13 : Nat), PV.int Go.IntKind.i64 (lowN z1 (8 : Int))), (nat_lit 14, PV.undef),
 (nat_lit 15, PV.undef), (nat_lit 16, PV.undef), (nat_lit 17, PV.undef), (nat_lit 27, PV.bool four),
 ((38 : Nat), PV.undef), (nat_lit 44, PV.undef), (nat_lit 53, PV.undef), (nat_lit 69, PV.undef),
 (nat_lit 76, PV.undef)]
 [((37 : Nat), PV.arr (8 : Nat) (BRow.ints Go.IntKind.u16 p))] ∧
 (lowN z1 (8 : Int) ≤ lowN z1 (8 : Int) ∧
 lowN z1 (8 : Int) ≤
 lowN z1 (8 : Int) +
 min ((1 : Int) + lowN z2 (8 : Int)) ((8 : Int) - lowN z1 (8 : Int)) ∧
 p =
 zer8 p (lowN z1 (8 : Int))
 (lowN z1 (8 : Int))) ∧
 ∀ (x : Int × List Int),
 lowN z1 (8 : Int) ≤ x.fst ∧
 x.fst ≤
 lowN z1 (8 : Int) +
 min ((1 : Int) + lowN z2 (8 : Int)) ((8 : Int) - lowN z1 (8 : Int)) ∧
 x.snd = zer8 p (lowN z1 (8 : Int)) x.fst →
 inI64
 (lowN z1 (8 : Int) +
 min ((1 : Int) + lowN z2 (8 : Int)) ((8 : Int) - lowN z1 (8 : Int))) ∧
 (decide
 (x.fst <
 lowN z1 (8 : Int) +
 min ((1 : Int) + lowN z2 (8 : Int))
 ((8 : Int) - lowN z1 (8 : Int))) =
 true →
 within x.fst ↑(8 : Nat) ∧
 (within x.fst ↑(8 : Nat) ∧ True) ∧
 inI64 (x.fst + (1 : Int)) ∧
 VS.mk []
 [(nat_lit 0, PV.arr (8 : Nat) (BRow.ints Go.IntKind.u16 p)), (nat_lit 1, PV.int Go.IntKind.i64 z1),
 (nat_lit 2, PV.int Go.IntKind.i64 z2), (nat_lit 3, PV.bool four),
 (nat_lit 4, PV.vec nl (1 : Nat) shp (0 : Nat)), (nat_lit 5, PV.ptr ((5 : Nat) + (32 : Nat)) (0 : Nat)),
 (nat_lit 10, PV.bool false),
 (nat_lit 11, PV.int Go.IntKind.i64 (lowN z1 (8 : Int))),
 (nat_lit 12,
 PV.int Go.IntKind.i64
 (min ((1 : Int) + lowN z2 (8 : Int))
 ((8 : Int) - lowN z1 (8 : Int)))),
 ((13 : Nat), PV.int Go.IntKind.i64 (x.fst + (1 : Int))), (nat_lit 14, PV.undef),
 (nat_lit 15, PV.undef), (nat_lit 16, PV.undef), (nat_lit 17, PV.undef),
 (nat_lit 27, PV.bool four), ((38 : Nat), PV.undef), (nat_lit 44, PV.undef),
 (nat_lit 53, PV.undef), (nat_lit 69, PV.undef), (nat_lit 76, PV.undef)]
 [((5 : Nat) + (32 : Nat), PV.arr (8 : Nat) (BRow.ints Go.IntKind.u16 (setZ x.snd x.fst (0 : Int))))] =
 VS.mk []
 [(nat_lit 0, PV.arr (8 : Nat) (BRow.ints Go.IntKind.u16 p)), (nat_lit 1, PV.int Go.IntKind.i64 z1),
 (nat_lit 2, PV.int Go.IntKind.i64 z2), (nat_lit 3, PV.bool four),
 (nat_lit 4, PV.vec nl (1 : Nat) shp (0 : Nat)), (nat_lit 5, PV.ptr ((5 : Nat) + (32 : Nat)) (0 : Nat)),
 (nat_lit 10, PV.bool false),
 (nat_lit 11, PV.int Go.IntKind.i64 (lowN z1 (8 : Int))),
 (nat_lit 12,
 PV.int Go.IntKind.i64
 (min ((1 : Int) + lowN z2 (8 : Int))
 ((8 : Int) - lowN z1 (8 : Int)))),
 ((13 : Nat), PV.int Go.IntKind.i64 (x.fst + (1 : Int))), (nat_lit 14, PV.undef),
 (nat_lit 15, PV.undef), (nat_lit 16, PV.undef), (nat_lit 17, PV.undef),
 (nat_lit 27, PV.bool four), ((38 : Nat), PV.undef), (nat_lit 44, PV.undef),
 (nat_lit 53, PV.undef), (nat_lit 69, PV.undef), (nat_lit 76, PV.undef)]
 [((37 : Nat), PV.arr (8 : Nat) (BRow.ints Go.IntKind.u16 (setZ x.snd x.fst (0 : Int))))] ∧
 (lowN z1 (8 : Int) ≤ x.fst + (1 : Int) ∧
 x.fst + (1 : Int) ≤
 lowN z1 (8 : Int) +
 min ((1 : Int) + lowN z2 (8 : Int))
 ((8 : Int) - lowN z1 (8 : Int)) ∧
 setZ x.snd x.fst (0 : Int) =
 zer8 p (lowN z1 (8 : Int)) (x.fst + (1 : Int))) ∧
 (lowN z1 (8 : Int) +
 min ((1 : Int) + lowN z2 (8 : Int))
 ((8 : Int) - lowN z1 (8 : Int)) -
 (x.fst + (1 : Int))).toNat <
 (lowN z1 (8 : Int) +
 min ((1 : Int) + lowN z2 (8 : Int))
 ((8 : Int) - lowN z1 (8 : Int)) -
 x.fst).toNat) ∧
 (decide
 (x.fst <
 lowN z1 (8 : Int) +
 min ((1 : Int) + lowN z2 (8 : Int))
 ((8 : Int) - lowN z1 (8 : Int))) =
 false →
 VS.mk []
 [(nat_lit 0, PV.arr (8 : Nat) (BRow.ints Go.IntKind.u16 p)), (nat_lit 1, PV.int Go.IntKind.i64 z1),
 (nat_lit 2, PV.int Go.IntKind.i64 z2), (nat_lit 3, PV.bool four),
 (nat_lit 4, PV.vec nl (1 : Nat) shp (0 : Nat)), (nat_lit 5, PV.ptr ((5 : Nat) + (32 : Nat)) (0 : Nat)),
 (nat_lit 10, PV.bool false),
 (nat_lit 11, PV.int Go.IntKind.i64 (lowN z1 (8 : Int))),
 (nat_lit 12,
 PV.int Go.IntKind.i64
 (min ((1 : Int) + lowN z2 (8 : Int))
 ((8 : Int) - lowN z1 (8 : Int)))),
 ((13 : Nat), PV.int Go.IntKind.i64 x.fst), (nat_lit 14, PV.str (ByteArray.mk #[]).data.toList),
 (nat_lit 15, PV.int Go.IntKind.i64 (0 : Int)), (nat_lit 16, PV.undef), (nat_lit 17, PV.undef),
 (nat_lit 27, PV.bool four),
 ((38 : Nat),
 PV.bool
 (decide
 (x.fst <
 lowN z1 (8 : Int) +
 min ((1 : Int) + lowN z2 (8 : Int))
 ((8 : Int) - lowN z1 (8 : Int))))),
 ((44 : Nat), PV.undef), ((53 : Nat), PV.undef), ((69 : Nat), PV.undef), ((76 : Nat), PV.undef)]
 [((37 : Nat), PV.arr (8 : Nat) (BRow.ints Go.IntKind.u16 x.snd))] =
 VS.mk []
 [(nat_lit 0, PV.arr (8 : Nat) (BRow.ints Go.IntKind.u16 p)), (nat_lit 1, PV.int Go.IntKind.i64 z1),
 (nat_lit 2, PV.int Go.IntKind.i64 z2), (nat_lit 3, PV.bool four),
 (nat_lit 4, PV.vec nl (1 : Nat) shp (0 : Nat)), (nat_lit 5, PV.ptr ((5 : Nat) + (32 : Nat)) (0 : Nat)),
 (nat_lit 10, PV.bool false),
 (nat_lit 11, PV.int Go.IntKind.i64 (lowN z1 (8 : Int))),
 (nat_lit 12,
 PV.int Go.IntKind.i64
 (min ((1 : Int) + lowN z2 (8 : Int))
 ((8 : Int) - lowN z1 (8 : Int)))),
 ((13 : Nat), PV.int Go.IntKind.i64 x.fst), ((14 : Nat), PV.str (ByteArray.mk #[]).data.toList),
 ((15 : Nat), PV.int Go.IntKind.i64 (0 : Int)), (nat_lit 16, PV.undef), (nat_lit 17, PV.undef),
 (nat_lit 27, PV.bool four),
 ((38 : Nat),
 PV.bool
 (decide
 (x.fst <
 lowN z1 (8 : Int) +
 min ((1 : Int) + lowN z2 (8 : Int))
 ((8 : Int) - lowN z1 (8 : Int))))),
 ((44 : Nat), PV.undef), ((53 : Nat), PV.undef), ((69 : Nat), PV.undef), ((76 : Nat), PV.undef)]
 [((37 : Nat), PV.arr (8 : Nat) (BRow.ints Go.IntKind.u16 x.snd))] ∧
 ((0 : Int) ≤ (0 : Int) ∧
 (0 : Int) ≤ (8 : Int) ∧
 (four = true → (0 : Int) ≤ (6 : Int)) ∧
 ((0 : Int) ≤ lowN z1 (8 : Int) ∨
 lowN z1 (8 : Int) +
 min ((1 : Int) + lowN z2 (8 : Int))
 ((8 : Int) - lowN z1 (8 : Int)) ≤
 (0 : Int)) ∧
 (ByteArray.mk #[]).data.toList =
 textAt x.snd sh (lowN z1 (8 : Int))
 (min ((1 : Int) + lowN z2 (8 : Int))
 ((8 : Int) - lowN z1 (8 : Int)))
 (0 : Int)) ∧
 ∀ (x_1 : Bs × Int),
 (0 : Int) ≤ x_1.snd ∧
 x_1.snd ≤ (8 : Int) ∧
 (four = true → x_1.snd ≤ (6 : Int)) ∧
 (x_1.snd ≤ lowN z1 (8 : Int) ∨
 lowN z1 (8 : Int) +
 min ((1 : Int) + lowN z2 (8 : Int))
 ((8 : Int) - lowN z1 (8 : Int)) ≤
 x_1.snd) ∧
 x_1.fst =
 textAt x.snd sh (lowN z1 (8 : Int))
 (min ((1 : Int) + lowN z2 (8 : Int))
 ((8 : Int) - lowN z1 (8 : Int)))
 x_1.snd →
 (decide (x_1.snd < (8 : Int)) = true →
 ((bif decide (x_1.snd = lowN z1 (8 : Int)) then
 decide
 ((0 : Int) <
 min ((1 : Int) + lowN z2 (8 : Int))
 ((8 : Int) - lowN z1 (8 : Int)))
 else false) =
 true →
 List.length x_1.fst + (ByteArray.mk #[(58 : UInt8), (58 : UInt8)]).data.toList.length ≤ Go.Vc.maxLen ∧
 inI64
 (x_1.snd +
 min ((1 : Int) + lowN z2 (8 : Int))
 ((8 : Int) - lowN z1 (8 : Int))) ∧
 inI64
 (x_1.snd +
 min ((1 : Int) + lowN z2 (8 : Int))
 ((8 : Int) - lowN z1 (8 : Int)) -
 (1 : Int)) ∧
 inI64
 (x_1.snd +
 min ((1 : Int) + lowN z2 (8 : Int))
 ((8 : Int) - lowN z1 (8 : Int)) -
 (1 : Int) +
 (1 : Int)) ∧
 VS.mk []
 [(nat_lit 0, PV.arr (8 : Nat) (BRow.ints Go.IntKind.u16 p)),
 (nat_lit 1, PV.int Go.IntKind.i64 z1), (nat_lit 2, PV.int Go.IntKind.i64 z2),
 (nat_lit 3, PV.bool four), (nat_lit 4, PV.vec nl (1 : Nat) shp (0 : Nat)),
 (nat_lit 5, PV.ptr ((5 : Nat) + (32 : Nat)) (0 : Nat)), (nat_lit 10, PV.bool false),
 (nat_lit 11, PV.int Go.IntKind.i64 (lowN z1 (8 : Int))),
 (nat_lit 12,
 PV.int Go.IntKind.i64
 (min ((1 : Int) + lowN z2 (8 : Int))
 ((8 : Int) - lowN z1 (8 : Int)))),
 ((13 : Nat), PV.int Go.IntKind.i64 x.fst),
 ((14 : Nat), PV.str (x_1.fst ++ (ByteArray.mk #[(58 : UInt8), (58 : UInt8)]).data.toList)),
 ((15 : Nat),
 PV.int Go.IntKind.i64
 (x_1.snd +
 min ((1 : Int) + lowN z2 (8 : Int))
 ((8 : Int) - lowN z1 (8 : Int)) -
 (1 : Int) +
 (1 : Int))),
 (nat_lit 16, PV.undef), (nat_lit 17, PV.undef), (nat_lit 27, PV.bool four),
 ((38 : Nat),
 PV.bool
 (decide
 (x.fst <
 lowN z1 (8 : Int) +
 min ((1 : Int) + lowN z2 (8 : Int))
 ((8 : Int) - lowN z1 (8 : Int))))),
 ((44 : Nat), PV.undef), ((53 : Nat), PV.undef), ((69 : Nat), PV.undef),
 ((76 : Nat), PV.undef)]
 [((37 : Nat), PV.arr (8 : Nat) (BRow.ints Go.IntKind.u16 x.snd))] =
 VS.mk []
 [(nat_lit 0, PV.arr (8 : Nat) (BRow.ints Go.IntKind.u16 p)),
 (nat_lit 1, PV.int Go.IntKind.i64 z1), (nat_lit 2, PV.int Go.IntKind.i64 z2),
 (nat_lit 3, PV.bool four), (nat_lit 4, PV.vec nl (1 : Nat) shp (0 : Nat)),
 (nat_lit 5, PV.ptr ((5 : Nat) + (32 : Nat)) (0 : Nat)), (nat_lit 10, PV.bool false),
 (nat_lit 11, PV.int Go.IntKind.i64 (lowN z1 (8 : Int))),
 (nat_lit 12,
 PV.int Go.IntKind.i64
 (min ((1 : Int) + lowN z2 (8 : Int))
 ((8 : Int) - lowN z1 (8 : Int)))),
 ((13 : Nat), PV.int Go.IntKind.i64 x.fst),
 ((14 : Nat), PV.str (x_1.fst ++ (ByteArray.mk #[(58 : UInt8), (58 : UInt8)]).data.toList)),
 ((15 : Nat),
 PV.int Go.IntKind.i64
 (x_1.snd +
 min ((1 : Int) + lowN z2 (8 : Int))
 ((8 : Int) - lowN z1 (8 : Int)) -
 (1 : Int) +
 (1 : Int))),
 (nat_lit 16, PV.undef), (nat_lit 17, PV.undef), (nat_lit 27, PV.bool four),
 ((38 : Nat),
 PV.bool
 (decide
 (x.fst <
 lowN z1 (8 : Int) +
 min ((1 : Int) + lowN z2 (8 : Int))
 ((8 : Int) - lowN z1 (8 : Int))))),
 ((44 : Nat), PV.undef), ((53 : Nat), PV.undef), ((69 : Nat), PV.undef),
 ((76 : Nat), PV.undef)]
 [((37 : Nat), PV.arr (8 : Nat) (BRow.ints Go.IntKind.u16 x.snd))] ∧
 ((0 : Int) ≤
 x_1.snd +
 min ((1 : Int) + lowN z2 (8 : Int))
 ((8 : Int) - lowN z1 (8 : Int)) -
 (1 : Int) +
 (1 : Int) ∧
 x_1.snd +
 min ((1 : Int) + lowN z2 (8 : Int))
 ((8 : Int) - lowN z1 (8 : Int)) -
 (1 : Int) +
 (1 : Int) ≤
 (8 : Int) ∧
 (four = true →
 x_1.snd +
 min ((1 : Int) + lowN z2 (8 : Int))
 ((8 : Int) - lowN z1 (8 : Int)) -
 (1 : Int) +
 (1 : Int) ≤
 (6 : Int)) ∧
 (x_1.snd +
 min ((1 : Int) + lowN z2 (8 : Int))
 ((8 : Int) - lowN z1 (8 : Int)) -
 (1 : Int) +
 (1 : Int) ≤
 lowN z1 (8 : Int) ∨
 lowN z1 (8 : Int) +
 min ((1 : Int) + lowN z2 (8 : Int))
 ((8 : Int) - lowN z1 (8 : Int)) ≤
 x_1.snd +
 min ((1 : Int) + lowN z2 (8 : Int))
 ((8 : Int) - lowN z1 (8 : Int)) -
 (1 : Int) +
 (1 : Int)) ∧
 x_1.fst ++ (ByteArray.mk #[(58 : UInt8), (58 : UInt8)]).data.toList =
 textAt x.snd sh
 (lowN z1 (8 : Int))
 (min ((1 : Int) + lowN z2 (8 : Int))
 ((8 : Int) - lowN z1 (8 : Int)))
 (x_1.snd +
 min ((1 : Int) + lowN z2 (8 : Int))
 ((8 : Int) - lowN z1 (8 : Int)) -
 (1 : Int) +
 (1 : Int))) ∧
 ((8 : Int) -
 (x_1.snd +
 min ((1 : Int) + lowN z2 (8 : Int))
 ((8 : Int) - lowN z1 (8 : Int)) -
 (1 : Int) +
 (1 : Int))).toNat <
 ((8 : Int) - x_1.snd).toNat) ∧
 ((bif decide (x_1.snd = lowN z1 (8 : Int)) then
 decide
 ((0 : Int) <
 min ((1 : Int) + lowN z2 (8 : Int))
 ((8 : Int) - lowN z1 (8 : Int)))
 else false) =
 false →
 ((!decide (x_1.fst = (ByteArray.mk #[]).data.toList)) = true → inI64 (lenZ x_1.fst - (1 : Int))) ∧
 ((!decide (x_1.fst = (ByteArray.mk #[]).data.toList)) = true →
 within (lenZ x_1.fst - (1 : Int)) (lenZ x_1.fst)) ∧
 ((bif !decide (x_1.fst = (ByteArray.mk #[]).data.toList) then
 !decide (byteZ x_1.fst (lenZ x_1.fst - (1 : Int)) = (58 : Int))
 else false) =
 true →
 List.length x_1.fst + (ByteArray.mk #[(58 : UInt8)]).data.toList.length ≤ Go.Vc.maxLen ∧
 ((bif four then decide (x_1.snd = (6 : Int)) else false) = true →
 within (6 : Int) ↑(8 : Nat) ∧
 within (6 : Int) ↑(8 : Nat) ∧
 (0 : Int) ≤ (16 : Int) ∧
 within (7 : Int) ↑(8 : Nat) ∧
 within (7 : Int) ↑(8 : Nat) ∧
 ((0 : Int) ≤
 bitsZ Go.BinOp.or Go.IntKind.u32
 (shlZ Go.IntKind.u32 (Go.IntKind.u32.wrap (intZ x.snd (6 : Int)))
 (16 : Int))
 (Go.IntKind.u32.wrap (intZ x.snd (7 : Int))) ∧
 bitsZ Go.BinOp.or Go.IntKind.u32
 (shlZ Go.IntKind.u32 (Go.IntKind.u32.wrap (intZ x.snd (6 : Int)))
 (16 : Int))
 (Go.IntKind.u32.wrap (intZ x.snd (7 : Int))) <
 (4294967296 : Int)) ∧
 List.length (x_1.fst ++ (ByteArray.mk #[(58 : UInt8)]).data.toList) +
 (showL
 (bitsZ Go.BinOp.or Go.IntKind.u32
 (shlZ Go.IntKind.u32 (Go.IntKind.u32.wrap (intZ x.snd (6 : Int)))
 (16 : Int))
 (Go.IntKind.u32.wrap (intZ x.snd (7 : Int)))).toNat).length ≤
 Go.Vc.maxLen ∧
 (List.length
 (x_1.fst ++ (ByteArray.mk #[(58 : UInt8)]).data.toList ++
 showL
 (bitsZ Go.BinOp.or Go.IntKind.u32
 (shlZ Go.IntKind.u32
 (Go.IntKind.u32.wrap (intZ x.snd (6 : Int))) (16 : Int))
 (Go.IntKind.u32.wrap (intZ x.snd (7 : Int)))).toNat)).le
 (1000000 : Nat) ∧
 ((bif
 (six
 (x_1.fst ++ (ByteArray.mk #[(58 : UInt8)]).data.toList ++
 showL
 (bitsZ Go.BinOp.or Go.IntKind.u32
 (shlZ Go.IntKind.u32
 (Go.IntKind.u32.wrap (intZ x.snd (6 : Int))) (16 : Int))
 (Go.IntKind.u32.wrap
 (intZ x.snd (7 : Int)))).toNat)).snd then
 decide
 ((six
 (x_1.fst ++ (ByteArray.mk #[(58 : UInt8)]).data.toList ++
 showL
 (bitsZ Go.BinOp.or Go.IntKind.u32
 (shlZ Go.IntKind.u32
 (Go.IntKind.u32.wrap (intZ x.snd (6 : Int))) (16 : Int))
 (Go.IntKind.u32.wrap
 (intZ x.snd (7 : Int)))).toNat)).fst =
 x.snd)
 else false) =
 true →
 True) ∧
 k
 (PV.bool
 (bif
 bif
 (six
 (x_1.fst ++ (ByteArray.mk #[(58 : UInt8)]).data.toList ++
 showL
 (bitsZ Go.BinOp.or Go.IntKind.u32
 (shlZ Go.IntKind.u32
 (Go.IntKind.u32.wrap (intZ x.snd (6 : Int)))
 (16 : Int))
 (Go.IntKind.u32.wrap
 (intZ x.snd (7 : Int)))).toNat)).snd then
 decide
 ((six
 (x_1.fst ++ (ByteArray.mk #[(58 : UInt8)]).data.toList ++
 showL
 (bitsZ Go.BinOp.or Go.IntKind.u32
 (shlZ Go.IntKind.u32
 (Go.IntKind.u32.wrap (intZ x.snd (6 : Int)))
 (16 : Int))
 (Go.IntKind.u32.wrap
 (intZ x.snd (7 : Int)))).toNat)).fst =
 x.snd)
 else false then
 true
 else false))) ∧
 ((bif four then decide (x_1.snd = (6 : Int)) else false) = false →
 within x_1.snd ↑(8 : Nat) ∧
 within x_1.snd ↑(8 : Nat) ∧
 (decide (x_1.snd < lenZ shp) = true → within x_1.snd (lenZ shp)) ∧
 (decide (x_1.snd < lenZ shp) = true →
 partV Go.Proofs.Tryd.prog (4 : Nat) (pvZ shp x_1.snd) (0 : Nat) =
 PV.bool
 (partV Go.Proofs.Tryd.prog (4 : Nat) (pvZ shp x_1.snd) (0 : Nat)).asBool) ∧
 ((0 : Int) ≤ intZ x.snd x_1.snd ∧ intZ x.snd x_1.snd ≤ (65535 : Int)) ∧
 List.length (x_1.fst ++ (ByteArray.mk #[(58 : UInt8)]).data.toList) +
 List.length
 (hexS (intZ x.snd x_1.snd)
 (bif decide (x_1.snd < lenZ shp) then
 (partV Go.Proofs.Tryd.prog (4 : Nat) (pvZ shp x_1.snd)
 (0 : Nat)).asBool
 else false)) ≤
 Go.Vc.maxLen ∧
 inI64 (x_1.snd + (1 : Int)) ∧
 VS.mk []
 [(nat_lit 0, PV.arr (8 : Nat) (BRow.ints Go.IntKind.u16 p)),
 (nat_lit 1, PV.int Go.IntKind.i64 z1),
 (nat_lit 2, PV.int Go.IntKind.i64 z2), (nat_lit 3, PV.bool four),
 (nat_lit 4, PV.vec nl (1 : Nat) shp (0 : Nat)),
 (nat_lit 5, PV.ptr ((5 : Nat) + (32 : Nat)) (0 : Nat)),
 (nat_lit 10, PV.bool false),
 (nat_lit 11,
 PV.int Go.IntKind.i64 (lowN z1 (8 : Int))),
 (nat_lit 12,
 PV.int Go.IntKind.i64
 (min ((1 : Int) + lowN z2 (8 : Int))
 ((8 : Int) - lowN z1 (8 : Int)))),
 ((13 : Nat), PV.int Go.IntKind.i64 x.fst),
 ((14 : Nat),
 PV.str
 (x_1.fst ++ (ByteArray.mk #[(58 : UInt8)]).data.toList ++
 hexS (intZ x.snd x_1.snd)
 (bif decide (x_1.snd < lenZ shp) then
 (partV Go.Proofs.Tryd.prog (4 : Nat) (pvZ shp x_1.snd)
 (0 : Nat)).asBool
 else false))),
 ((15 : Nat), PV.int Go.IntKind.i64 (x_1.snd + (1 : Int))),
 (nat_lit 16, PV.undef), (nat_lit 17, PV.undef),
 (nat_lit 27, PV.bool four),
 ((38 : Nat),
 PV.bool
 (decide
 (x.fst <
 lowN z1 (8 : Int) +
 min ((1 : Int) + lowN z2 (8 : Int))
 ((8 : Int) - lowN z1 (8 : Int))))),
 ((44 : Nat), PV.undef), ((53 : Nat), PV.undef),
 ((69 : Nat), PV.undef), ((76 : Nat), PV.undef)]
 [((37 : Nat), PV.arr (8 : Nat) (BRow.ints Go.IntKind.u16 x.snd))] =
 VS.mk []
 [(nat_lit 0, PV.arr (8 : Nat) (BRow.ints Go.IntKind.u16 p)),
 (nat_lit 1, PV.int Go.IntKind.i64 z1),
 (nat_lit 2, PV.int Go.IntKind.i64 z2), (nat_lit 3, PV.bool four),
 (nat_lit 4, PV.vec nl (1 : Nat) shp (0 : Nat)),
 (nat_lit 5, PV.ptr ((5 : Nat) + (32 : Nat)) (0 : Nat)),
 (nat_lit 10, PV.bool false),
 (nat_lit 11,
 PV.int Go.IntKind.i64 (lowN z1 (8 : Int))),
 (nat_lit 12,
 PV.int Go.IntKind.i64
 (min ((1 : Int) + lowN z2 (8 : Int))
 ((8 : Int) - lowN z1 (8 : Int)))),
 ((13 : Nat), PV.int Go.IntKind.i64 x.fst),
 ((14 : Nat),
 PV.str
 (x_1.fst ++ (ByteArray.mk #[(58 : UInt8)]).data.toList ++
 hexS (intZ x.snd x_1.snd)
 (bif decide (x_1.snd < lenZ shp) then
 (partV Go.Proofs.Tryd.prog (4 : Nat) (pvZ shp x_1.snd)
 (0 : Nat)).asBool
 else false))),
 ((15 : Nat), PV.int Go.IntKind.i64 (x_1.snd + (1 : Int))),
 (nat_lit 16, PV.undef), (nat_lit 17, PV.undef),
 (nat_lit 27, PV.bool four),
 ((38 : Nat),
 PV.bool
 (decide
 (x.fst <
 lowN z1 (8 : Int) +
 min ((1 : Int) + lowN z2 (8 : Int))
 ((8 : Int) - lowN z1 (8 : Int))))),
 ((44 : Nat), PV.undef), ((53 : Nat), PV.undef),
 ((69 : Nat), PV.undef), ((76 : Nat), PV.undef)]
 [((37 : Nat), PV.arr (8 : Nat) (BRow.ints Go.IntKind.u16 x.snd))] ∧
 ((0 : Int) ≤ x_1.snd + (1 : Int) ∧
 x_1.snd + (1 : Int) ≤ (8 : Int) ∧
 (four = true → x_1.snd + (1 : Int) ≤ (6 : Int)) ∧
 (x_1.snd + (1 : Int) ≤ lowN z1 (8 : Int) ∨
 lowN z1 (8 : Int) +
 min ((1 : Int) + lowN z2 (8 : Int))
 ((8 : Int) - lowN z1 (8 : Int)) ≤
 x_1.snd + (1 : Int)) ∧
 x_1.fst ++ (ByteArray.mk #[(58 : UInt8)]).data.toList ++
 hexS (intZ x.snd x_1.snd)
 (bif decide (x_1.snd < lenZ shp) then
 (partV Go.Proofs.Tryd.prog (4 : Nat) (pvZ shp x_1.snd)
 (0 : Nat)).asBool
 else false) =
 textAt x.snd sh
 (lowN z1 (8 : Int))
 (min ((1 : Int) + lowN z2 (8 : Int))
 ((8 : Int) - lowN z1 (8 : Int)))
 (x_1.snd + (1 : Int))) ∧
 ((8 : Int) - (x_1.snd + (1 : Int))).toNat < ((8 : Int) - x_1.snd).toNat)) ∧
 ((bif !decide (x_1.fst = (ByteArray.mk #[]).data.toList) then
 !decide (byteZ x_1.fst (lenZ x_1.fst - (1 : Int)) = (58 : Int))
 else false) =
 false →
 ((bif four then decide (x_1.snd = (6 : Int)) else false) = true →
 within (6 : Int) ↑(8 : Nat) ∧
 within (6 : Int) ↑(8 : Nat) ∧
 (0 : Int) ≤ (16 : Int) ∧
 within (7 : Int) ↑(8 : Nat) ∧
 within (7 : Int) ↑(8 : Nat) ∧
 ((0 : Int) ≤
 bitsZ Go.BinOp.or Go.IntKind.u32
 (shlZ Go.IntKind.u32 (Go.IntKind.u32.wrap (intZ x.snd (6 : Int)))
 (16 : Int))
 (Go.IntKind.u32.wrap (intZ x.snd (7 : Int))) ∧
 bitsZ Go.BinOp.or Go.IntKind.u32
 (shlZ Go.IntKind.u32 (Go.IntKind.u32.wrap (intZ x.snd (6 : Int)))
 (16 : Int))
 (Go.IntKind.u32.wrap (intZ x.snd (7 : Int))) <
 (4294967296 : Int)) ∧
 List.length x_1.fst +
 (showL
 (bitsZ Go.BinOp.or Go.IntKind.u32
 (shlZ Go.IntKind.u32 (Go.IntKind.u32.wrap (intZ x.snd (6 : Int)))
 (16 : Int))
 (Go.IntKind.u32.wrap (intZ x.snd (7 : Int)))).toNat).length ≤
 Go.Vc.maxLen ∧
 (List.length
 (x_1.fst ++
 showL
 (bitsZ Go.BinOp.or Go.IntKind.u32
 (shlZ Go.IntKind.u32
 (Go.IntKind.u32.wrap (intZ x.snd (6 : Int))) (16 : Int))
 (Go.IntKind.u32.wrap (intZ x.snd (7 : Int)))).toNat)).le
 (1000000 : Nat) ∧
 ((bif
 (six
 (x_1.fst ++
 showL
 (bitsZ Go.BinOp.or Go.IntKind.u32
 (shlZ Go.IntKind.u32
 (Go.IntKind.u32.wrap (intZ x.snd (6 : Int))) (16 : Int))
 (Go.IntKind.u32.wrap (intZ x.snd (7 : Int)))).toNat)).snd then
 decide
 ((six
 (x_1.fst ++
 showL
 (bitsZ Go.BinOp.or Go.IntKind.u32
 (shlZ Go.IntKind.u32
 (Go.IntKind.u32.wrap (intZ x.snd (6 : Int))) (16 : Int))
 (Go.IntKind.u32.wrap (intZ x.snd (7 : Int)))).toNat)).fst =
 x.snd)
 else false) =
 true →
 True) ∧
 k
 (PV.bool
 (bif
 bif
 (six
 (x_1.fst ++
 showL
 (bitsZ Go.BinOp.or Go.IntKind.u32
 (shlZ Go.IntKind.u32
 (Go.IntKind.u32.wrap (intZ x.snd (6 : Int))) (16 : Int))
 (Go.IntKind.u32.wrap
 (intZ x.snd (7 : Int)))).toNat)).snd then
 decide
 ((six
 (x_1.fst ++
 showL
 (bitsZ Go.BinOp.or Go.IntKind.u32
 (shlZ Go.IntKind.u32
 (Go.IntKind.u32.wrap (intZ x.snd (6 : Int)))
 (16 : Int))
 (Go.IntKind.u32.wrap
 (intZ x.snd (7 : Int)))).toNat)).fst =
 x.snd)
 else false then
 true
 else false))) ∧
 ((bif four then decide (x_1.snd = (6 : Int)) else false) = false →
 within x_1.snd ↑(8 : Nat) ∧
 within x_1.snd ↑(8 : Nat) ∧
 (decide (x_1.snd < lenZ shp) = true → within x_1.snd (lenZ shp)) ∧
 (decide (x_1.snd < lenZ shp) = true →
 partV Go.Proofs.Tryd.prog (4 : Nat) (pvZ shp x_1.snd) (0 : Nat) =
 PV.bool
 (partV Go.Proofs.Tryd.prog (4 : Nat) (pvZ shp x_1.snd) (0 : Nat)).asBool) ∧
 ((0 : Int) ≤ intZ x.snd x_1.snd ∧ intZ x.snd x_1.snd ≤ (65535 : Int)) ∧
 List.length x_1.fst +
 List.length
 (hexS (intZ x.snd x_1.snd)
 (bif decide (x_1.snd < lenZ shp) then
 (partV Go.Proofs.Tryd.prog (4 : Nat) (pvZ shp x_1.snd) (0 : Nat)).asBool
 else false)) ≤
 Go.Vc.maxLen ∧
 inI64 (x_1.snd + (1 : Int)) ∧
 VS.mk []
 [(nat_lit 0, PV.arr (8 : Nat) (BRow.ints Go.IntKind.u16 p)),
 (nat_lit 1, PV.int Go.IntKind.i64 z1),
 (nat_lit 2, PV.int Go.IntKind.i64 z2), (nat_lit 3, PV.bool four),
 (nat_lit 4, PV.vec nl (1 : Nat) shp (0 : Nat)),
 (nat_lit 5, PV.ptr ((5 : Nat) + (32 : Nat)) (0 : Nat)),
 (nat_lit 10, PV.bool false),
 (nat_lit 11,
 PV.int Go.IntKind.i64 (lowN z1 (8 : Int))),
 (nat_lit 12,
 PV.int Go.IntKind.i64
 (min ((1 : Int) + lowN z2 (8 : Int))
 ((8 : Int) - lowN z1 (8 : Int)))),
 ((13 : Nat), PV.int Go.IntKind.i64 x.fst),
 ((14 : Nat),
 PV.str
 (x_1.fst ++
 hexS (intZ x.snd x_1.snd)
 (bif decide (x_1.snd < lenZ shp) then
 (partV Go.Proofs.Tryd.prog (4 : Nat) (pvZ shp x_1.snd)
 (0 : Nat)).asBool
 else false))),
 ((15 : Nat), PV.int Go.IntKind.i64 (x_1.snd + (1 : Int))),
 (nat_lit 16, PV.undef), (nat_lit 17, PV.undef),
 (nat_lit 27, PV.bool four),
 ((38 : Nat),
 PV.bool
 (decide
 (x.fst <
 lowN z1 (8 : Int) +
 min ((1 : Int) + lowN z2 (8 : Int))
 ((8 : Int) - lowN z1 (8 : Int))))),
 ((44 : Nat), PV.undef), ((53 : Nat), PV.undef),
 ((69 : Nat), PV.undef), ((76 : Nat), PV.undef)]
 [((37 : Nat), PV.arr (8 : Nat) (BRow.ints Go.IntKind.u16 x.snd))] =
 VS.mk []
 [(nat_lit 0, PV.arr (8 : Nat) (BRow.ints Go.IntKind.u16 p)),
 (nat_lit 1, PV.int Go.IntKind.i64 z1),
 (nat_lit 2, PV.int Go.IntKind.i64 z2), (nat_lit 3, PV.bool four),
 (nat_lit 4, PV.vec nl (1 : Nat) shp (0 : Nat)),
 (nat_lit 5, PV.ptr ((5 : Nat) + (32 : Nat)) (0 : Nat)),
 (nat_lit 10, PV.bool false),
 (nat_lit 11,
 PV.int Go.IntKind.i64 (lowN z1 (8 : Int))),
 (nat_lit 12,
 PV.int Go.IntKind.i64
 (min ((1 : Int) + lowN z2 (8 : Int))
 ((8 : Int) - lowN z1 (8 : Int)))),
 ((13 : Nat), PV.int Go.IntKind.i64 x.fst),
 ((14 : Nat),
 PV.str
 (x_1.fst ++
 hexS (intZ x.snd x_1.snd)
 (bif decide (x_1.snd < lenZ shp) then
 (partV Go.Proofs.Tryd.prog (4 : Nat) (pvZ shp x_1.snd)
 (0 : Nat)).asBool
 else false))),
 ((15 : Nat), PV.int Go.IntKind.i64 (x_1.snd + (1 : Int))),
 (nat_lit 16, PV.undef), (nat_lit 17, PV.undef),
 (nat_lit 27, PV.bool four),
 ((38 : Nat),
 PV.bool
 (decide
 (x.fst <
 lowN z1 (8 : Int) +
 min ((1 : Int) + lowN z2 (8 : Int))
 ((8 : Int) - lowN z1 (8 : Int))))),
 ((44 : Nat), PV.undef), ((53 : Nat), PV.undef),
 ((69 : Nat), PV.undef), ((76 : Nat), PV.undef)]
 [((37 : Nat), PV.arr (8 : Nat) (BRow.ints Go.IntKind.u16 x.snd))] ∧
 ((0 : Int) ≤ x_1.snd + (1 : Int) ∧
 x_1.snd + (1 : Int) ≤ (8 : Int) ∧
 (four = true → x_1.snd + (1 : Int) ≤ (6 : Int)) ∧
 (x_1.snd + (1 : Int) ≤ lowN z1 (8 : Int) ∨
 lowN z1 (8 : Int) +
 min ((1 : Int) + lowN z2 (8 : Int))
 ((8 : Int) - lowN z1 (8 : Int)) ≤
 x_1.snd + (1 : Int)) ∧
 x_1.fst ++
 hexS (intZ x.snd x_1.snd)
 (bif decide (x_1.snd < lenZ shp) then
 (partV Go.Proofs.Tryd.prog (4 : Nat) (pvZ shp x_1.snd)
 (0 : Nat)).asBool
 else false) =
 textAt x.snd sh
 (lowN z1 (8 : Int))
 (min ((1 : Int) + lowN z2 (8 : Int))
 ((8 : Int) - lowN z1 (8 : Int)))
 (x_1.snd + (1 : Int))) ∧
 ((8 : Int) - (x_1.snd + (1 : Int))).toNat < ((8 : Int) - x_1.snd).toNat)))) ∧
 (decide (x_1.snd < (8 : Int)) = false →
 (List.length x_1.fst).le (1000000 : Nat) ∧
 ((bif (six x_1.fst).snd then
 decide ((six x_1.fst).fst = x.snd)
 else false) =
 true →
 True) ∧
 k
 (PV.bool
 (bif
 bif (six x_1.fst).snd then
 decide ((six x_1.fst).fst = x.snd)
 else false then
 true
 else false)))))) := by kernel_rfl
attribute [local irreducible] Go.Vc.evF
theorem ok_forms (p : List Int) (z1 z2 : Int) (four nl : Bool) (shp : List PV) (sh : List Bool) : FuncOk Tryd.prog noT 5 [.arr 8 (.ints .u16 p), .int .i64 z1, .int .i64 z2, .bool four, .vec nl 1 shp 0] ⟨shp = (sh.map fun b => PV.bool b) ∧ p.length = 8 ∧ (∀ x ∈ p, 0 ≤ x ∧ x ≤ 65535) ∧ (-9223372036854775808 ≤ z1 ∧ z1 ≤ 9223372036854775807) ∧ (-9223372036854775808 ≤ z2 ∧ z2 ≤ 9223372036854775807), .bool true⟩ := evF_ok (by kernel_rfl) X_forms_ok (H := H_forms p z1 z2 four nl shp sh) (fuel := 1000) Tryd.func5 (by kernel_rfl) fun hpre => (vc_forms p z1 z2 four nl shp sh _).mpr (by
  obtain ⟨hsh, hp8, hpb, ⟨z10, z11⟩, ⟨z20, z21⟩⟩ := hpre
  subst hsh
  obtain ⟨F0, F1⟩ := lowN_bd z1 8 (by decide)
  obtain ⟨M0, M1⟩ := lowN_bd z2 8 (by decide)
  generalize lowN z1 8 = F at *
  generalize lowN z2 8 = L at *
  obtain ⟨f, rfl⟩ := Int.eq_ofNat_of_zero_le F0
  have hf7 : f ≤ 7 := by omega
  refine ⟨⟨z10, z11, by omega, by omega⟩, ⟨z20, z21, by omega, by omega⟩, ⟨by omega, by omega⟩, ⟨by omega, by omega⟩, fun h4 => ⟨⟨by omega, by omega⟩, ?_⟩, fun h4 => ?_⟩
  · obtain ⟨m, hm⟩ : ∃ m : Nat, min (min ((1 : Int) + L) ((8 : Int) - (f : Int))) (max (0 : Int) ((6 : Int) - (f : Int))) = (m : Int) := Int.eq_ofNat_of_zero_le (by omega)
    have hfm : f + m ≤ 8 := by omega
    have hfm6 : four = true → m = 0 ∨ f + m ≤ 6 := fun _ => by omega
    have hm0 : four = false → 0 < m := fun h => by rw [h4] at h; cases h
    rw [hm]
    clear hm
    refine ⟨rfl, ⟨by omega, by omega, zer_self p f⟩, fun x hx => ?_⟩
    obtain ⟨i, q⟩ := x
    obtain ⟨i0, i1, hq⟩ := hx
    dsimp only at i0 i1 hq ⊢
    obtain ⟨j, rfl⟩ := Int.eq_ofNat_of_zero_le (show 0 ≤ i by omega)
    refine ⟨⟨by omega, by omega⟩, fun h => ?_, fun h => ?_⟩
    · have hlt : (j : Int) < f + m := of_decide_eq_true h
      refine ⟨⟨by omega, by show (j : Int) < 8; omega⟩, ⟨⟨by omega, by show (j : Int) < 8; omega⟩, trivial⟩, ⟨by omega, by omega⟩, rfl, ⟨by omega, by omega, ?_⟩, by omega⟩
      rw [hq]
      exact zer_step (by omega) (by omega)
    · have hge : ¬ (j : Int) < f + m := of_decide_eq_false h
      obtain rfl : j = f + m := by omega
      have hq8 := zer_len hp8 hfm
      have hqb : ∀ x ∈ zer8 p (f : Int) ((f + m : Nat) : Int), 0 ≤ x ∧ x ≤ 65535 := zer_bd hpb
      have hz := zer_z hp8 hfm
      rw [← hq] at hq8 hqb hz
      clear hq
      refine ⟨rfl, ⟨by omega, by omega, fun _ => by omega, .inl (by omega), ?_⟩, fun y hy => ?_⟩
      · show ([] : Bs) = textAt q sh (f : Int) (m : Int) ((0 : Nat) : Int)
        rw [textAt_N, text_zero]
      · obtain ⟨t, n⟩ := y
        obtain ⟨n0, n8, n6, h1, ht⟩ := hy
        dsimp only at n0 n8 n6 h1 ht ⊢
        obtain ⟨n, rfl⟩ := Int.eq_ofNat_of_zero_le n0
        rw [textAt_N] at ht
        subst ht
        have hhx : hexS (intZ q (n : Int)) (sh.getD n false) = hx q sh n := by unfold hx intZ; rw [Int.toNat_natCast]
        refine bodyF_ok (fun v => v = .bool true) _ _ _ sh four f m n hq8 hqb hz hm0 hf7 hfm hfm6 (by omega) (fun h => by have := n6 h; omega) (by omega) rfl (fun a b c => ?_) (fun a b c d => ?_) (fun a b c d => ?_)
        · refine ⟨rfl, ⟨by omega, by omega, fun h4 => by have := hfm6 h4; omega, .inr (by omega), ?_⟩, by omega⟩
          rw [show (n : Int) + (m : Int) - 1 + 1 = ((f + m : Nat) : Int) by omega, textAt_N]
          exact c
        · refine ⟨rfl, ⟨by omega, by omega, fun h4 => by have := b h4; have := n6 h4; omega, by omega, ?_⟩, by omega⟩
          rw [show (n : Int) + 1 = ((n + 1 : Nat) : Int) by omega, textAt_N, sh_at, hhx]
          exact d
        · refine ⟨rfl, ⟨by omega, by omega, fun h4 => by have := b h4; have := n6 h4; omega, by omega, ?_⟩, by omega⟩
          rw [show (n : Int) + 1 = ((n + 1 : Nat) : Int) by omega, textAt_N, sh_at, hhx]
          exact d
  · obtain ⟨m, hm⟩ : ∃ m : Nat, min ((1 : Int) + L) ((8 : Int) - (f : Int)) = (m : Int) := Int.eq_ofNat_of_zero_le (by omega)
    have hfm : f + m ≤ 8 := by omega
    have hfm6 : four = true → m = 0 ∨ f + m ≤ 6 := fun h => by rw [h4] at h; cases h
    have hm0 : four = false → 0 < m := fun h => by omega
    rw [hm]
    clear hm
    refine ⟨rfl, ⟨by omega, by omega, zer_self p f⟩, fun x hx => ?_⟩
    obtain ⟨i, q⟩ := x
    obtain ⟨i0, i1, hq⟩ := hx
    dsimp only at i0 i1 hq ⊢
    obtain ⟨j, rfl⟩ := Int.eq_ofNat_of_zero_le (show 0 ≤ i by omega)
    refine ⟨⟨by omega, by omega⟩, fun h => ?_, fun h => ?_⟩
    · have hlt : (j : Int) < f + m := of_decide_eq_true h
      refine ⟨⟨by omega, by show (j : Int) < 8; omega⟩, ⟨⟨by omega, by show (j : Int) < 8; omega⟩, trivial⟩, ⟨by omega, by omega⟩, rfl, ⟨by omega, by omega, ?_⟩, by omega⟩
      rw [hq]
      exact zer_step (by omega) (by omega)
    · have hge : ¬ (j : Int) < f + m := of_decide_eq_false h
      obtain rfl : j = f + m := by omega
      have hq8 := zer_len hp8 hfm
      have hqb : ∀ x ∈ zer8 p (f : Int) ((f + m : Nat) : Int), 0 ≤ x ∧ x ≤ 65535 := zer_bd hpb
      have hz := zer_z hp8 hfm
      rw [← hq] at hq8 hqb hz
      clear hq
      refine ⟨rfl, ⟨by omega, by omega, fun _ => by omega, .inl (by omega), ?_⟩, fun y hy => ?_⟩
      · show ([] : Bs) = textAt q sh (f : Int) (m : Int) ((0 : Nat) : Int)
        rw [textAt_N, text_zero]
      · obtain ⟨t, n⟩ := y
        obtain ⟨n0, n8, n6, h1, ht⟩ := hy
        dsimp only at n0 n8 n6 h1 ht ⊢
        obtain ⟨n, rfl⟩ := Int.eq_ofNat_of_zero_le n0
        rw [textAt_N] at ht
        subst ht
        have hhx : hexS (intZ q (n : Int)) (sh.getD n false) = hx q sh n := by unfold hx intZ; rw [Int.toNat_natCast]
        refine bodyF_ok (fun v => v = .bool true) _ _ _ sh four f m n hq8 hqb hz hm0 hf7 hfm hfm6 (by omega) (fun h => by have := n6 h; omega) (by omega) rfl (fun a b c => ?_) (fun a b c d => ?_) (fun a b c d => ?_)
        · refine ⟨rfl, ⟨by omega, by omega, fun h4 => by have := hfm6 h4; omega, .inr (by omega), ?_⟩, by omega⟩
          rw [show (n : Int) + (m : Int) - 1 + 1 = ((f + m : Nat) : Int) by omega, textAt_N]
          exact c
        · refine ⟨rfl, ⟨by omega, by omega, fun h4 => by have := b h4; have := n6 h4; omega, by omega, ?_⟩, by omega⟩
          rw [show (n : Int) + 1 = ((n + 1 : Nat) : Int) by omega, textAt_N, sh_at, hhx]
          exact d
        · refine ⟨rfl, ⟨by omega, by omega, fun h4 => by have := b h4; have := n6 h4; omega, by omega, ?_⟩, by omega⟩
          rw [show (n : Int) + 1 = ((n + 1 : Nat) : Int) by omega, textAt_N, sh_at, hhx]
          exact d)
end Go.Proofs.YtklgahppjdgkmaaDoor
