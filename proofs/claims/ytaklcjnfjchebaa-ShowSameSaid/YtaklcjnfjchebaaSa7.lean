import Derived.Test.YtaklcjnfjchebaaProg
import Derived.ProofKit
import Derived.IntWalk
import Derived.Test.YtaklcjnfjchebaaSa6
set_option linter.unusedVariables false
set_option maxRecDepth 100000
set_option linter.unusedSimpArgs false
set_option maxHeartbeats 4000000
namespace Go.Proofs.Ytaklcjnfjchebaa
open Go Go.Proofs Go.RowKit Go.Vc Go.Proofs.Jv
instance wdJ : Wd := Go.Vc.noW
noncomputable abbrev eltV (ls : List PV) (i : Int) : PV := partV Try.prog (25 : Nat) (pvZ ls i) (0 : Nat)
theorem part_jv (y : JV) : partV Try.prog (25 : Nat) y.pv (0 : Nat) = y.pv := by cases y; kernel_rfl
theorem elt_jv {js : List JV} {i : Nat} (h : i < js.length) : eltV (JV.pvs js) (i : Int) = (js[i]).pv := by
  unfold eltV; rw [pvZ_pvs js i h, part_jv]
theorem jp0 (y : JV) : (y.pv.part 0).asInt = y.k := by cases y; rfl
theorem jp1 (y : JV) : (y.pv.part 1).asBool = y.b := by cases y; rfl
theorem jp2 (y : JV) : (y.pv.part 2).asStr = y.s := by cases y; rfl
theorem jp3 (y : JV) : (y.pv.part 3).asNil = y.nk := by cases y; rfl
theorem jp3' (y : JV) : (y.pv.part 3).asStrs = y.ks := by cases y; rfl
theorem jp4 (y : JV) : (y.pv.part 4).asNil = y.nl := by cases y; rfl
theorem jp4' (y : JV) : (y.pv.part 4).asVec = JV.pvs y.ls := by cases y; rfl
end Go.Proofs.Ytaklcjnfjchebaa
namespace Go.Proofs.Ytaklcjnfjchebaa
open Go Go.Proofs Go.RowKit Go.Vc
open Go.Proofs.Jv
section
def ent_weight (dn : Nat) : List PV → Option CallR := fun xs => match xs with
  | [.agg [.int .i64 kd, .bool bv, .str sv, .row nk (.strs ks) 0, .vec nl 5 ls 0], .int .i64 n0, .int .i64 d] => some ⟨isJs ls ∧ okJ dn (.mk kd bv sv nk ks nl (jdecs ls)) ∧ (-1 ≤ n0 ∧ n0 ≤ 1000000) ∧ (0 ≤ d ∧ d ≤ 201), .int .i64 (wJ (.mk kd bv sv nk ks nl (jdecs ls)) n0 d)⟩
  | _ => none
def X_weight (m : Nat) : Tbl := tblX [(19, ent_weight m)]
def H_weight (m : Nat) (kd : Int) (bv : Bool) (sv : Bs) (nk : Bool) (ks : List Bs) (nl : Bool) (ls : List PV) (n0 d : Int) : Loops := fun i => bif Nat.beq i 5 then some ⟨(Int) × (Int), (fun s x => (((s.put 1 (.int .i64 x.1)).put 7 (.int .i64 x.2)).put 33 .undef)), (fun s => (s.int 1, s.int 7)), (fun s x => let q := x.1; let i := x.2; 0 ≤ i ∧ i ≤ ks.length ∧ -1125899906842624 ≤ q ∧ q ≤ 1000000 ∧ wK (ks.drop i.toNat) q = wK ks (n0 - 1 - lenZ sv - lenZ ks)), (fun s x => let q := x.1; let i := x.2; ((ks.length : Int) - i).toNat), [33]⟩ else bif Nat.beq i 9 then some ⟨(Int) × (Int), (fun s x => (((s.put 1 (.int .i64 x.1)).put 8 (.int .i64 x.2)).put 52 .undef)), (fun s => (s.int 1, s.int 8)), (fun s x => let q := x.1; let i := x.2; 0 ≤ i ∧ i ≤ ls.length ∧ -1125899906842624 ≤ q ∧ q ≤ 1000000 ∧ wJs ((jdecs ls).drop i.toNat) q (d + 1) = wJs (jdecs ls) (wK ks (n0 - 1 - lenZ sv - lenZ ks)) (d + 1)), (fun s x => let q := x.1; let i := x.2; ((ls.length : Int) - i).toNat), [52]⟩ else none
theorem X_weight_ok (m : Nat) (ih : ∀ xs c, ent_weight m xs = some c → FuncOk Try.prog noT 19 xs c) : XOk Try.prog noT (X_weight m) := tblX_cons ih (tblX_nil)
theorem vc_weight (m : Nat) (kd : Int) (bv : Bool) (sv : Bs) (nk : Bool) (ks : List Bs) (nl : Bool) (ls : List PV) (n0 d : Int) (k : PV → Prop) : evF Try.prog (X_weight m) noT (H_weight m kd bv sv nk ks nl ls n0 d) 1000 Try.f19 [.agg [.int .i64 kd, .bool bv, .str sv, .row nk (.strs ks) 0, .vec nl 5 ls 0], .int .i64 n0, .int .i64 d] k = (
  ((bif decide (n0 < (0 : Int)) then true else decide ((200 : Int) < d)) = true → k (PV.int .i64 (-1 : Int))) ∧
 ((bif decide (n0 < (0 : Int)) then true else decide ((200 : Int) < d)) = false →
 inI64 (n0 - (1 : Int)) ∧
 inI64 (n0 - (1 : Int) - lenZ sv) ∧
 inI64 (n0 - (1 : Int) - lenZ sv - Int.ofNat ks.length) ∧
 VS.mk []
 [(0,
 PV.agg
 [PV.int .i64 kd, PV.bool bv, PV.str sv, PV.row nk (BRow.strs ks) (0 : Nat),
 PV.vec nl (5 : Nat) ls (0 : Nat)]),
 (1, PV.int .i64 (n0 - (1 : Int) - lenZ sv - Int.ofNat ks.length)), (2, PV.int .i64 d),
 (3, PV.ptr ((3 : Nat) + (32 : Nat)) (0 : Nat)), (6, PV.int .i64 (0 : Int)),
 (7, PV.int .i64 (0 : Int)), (8, PV.undef),
 (14, PV.bool (bif decide (n0 < (0 : Int)) then true else decide ((200 : Int) < d))), ((33 : Nat), PV.undef),
 (52, PV.undef)]
 [((3 : Nat) + (32 : Nat),
 PV.agg
 [PV.int .i64 kd, PV.bool bv, PV.str sv, PV.row nk (BRow.strs ks) (0 : Nat),
 PV.vec nl (5 : Nat) ls (0 : Nat)])] =
 VS.mk []
 [(0,
 PV.agg
 [PV.int .i64 kd, PV.bool bv, PV.str sv, PV.row nk (BRow.strs ks) (0 : Nat),
 PV.vec nl (5 : Nat) ls (0 : Nat)]),
 ((1 : Nat), PV.int .i64 (n0 - (1 : Int) - lenZ sv - Int.ofNat ks.length)), (2, PV.int .i64 d),
 (3, PV.ptr ((3 : Nat) + (32 : Nat)) (0 : Nat)), (6, PV.int .i64 (0 : Int)),
 ((7 : Nat), PV.int .i64 (0 : Int)), (8, PV.undef),
 (14, PV.bool (bif decide (n0 < (0 : Int)) then true else decide ((200 : Int) < d))), ((33 : Nat), PV.undef),
 (52, PV.undef)]
 [((3 : Nat) + (32 : Nat),
 PV.agg
 [PV.int .i64 kd, PV.bool bv, PV.str sv, PV.row nk (BRow.strs ks) (0 : Nat),
 PV.vec nl (5 : Nat) ls (0 : Nat)])] ∧
 ((0 : Int) ≤ (0 : Int) ∧
 (0 : Int) ≤ ↑ks.length ∧
 (-1125899906842624 : Int) ≤ n0 - (1 : Int) - lenZ sv - Int.ofNat ks.length ∧
 n0 - (1 : Int) - lenZ sv - Int.ofNat ks.length ≤ (1000000 : Int) ∧
 wK (List.drop (Int.toNat (0 : Int)) ks) (n0 - (1 : Int) - lenZ sv - Int.ofNat ks.length) =
 wK ks (n0 - (1 : Int) - lenZ sv - lenZ ks)) ∧
 ∀ (x : Int × Int),
 (0 : Int) ≤ x.2 ∧
 x.2 ≤ ↑ks.length ∧
 (-1125899906842624 : Int) ≤ x.1 ∧
 x.1 ≤ (1000000 : Int) ∧
 wK (List.drop x.2.toNat ks) x.1 = wK ks (n0 - (1 : Int) - lenZ sv - lenZ ks) →
 ((bif decide (x.2 < Int.ofNat ks.length) then decide ((0 : Int) ≤ x.1) else false) = true →
 within x.2 (Int.ofNat ks.length) ∧
 inI64 (x.1 - lenZ (strZ ks x.2)) ∧
 inI64 (x.2 + (1 : Int)) ∧
 VS.mk []
 [(0,
 PV.agg
 [PV.int .i64 kd, PV.bool bv, PV.str sv, PV.row nk (BRow.strs ks) (0 : Nat),
 PV.vec nl (5 : Nat) ls (0 : Nat)]),
 ((1 : Nat), PV.int .i64 (x.1 - lenZ (strZ ks x.2))),
 (2, PV.int .i64 d), (3, PV.ptr ((3 : Nat) + (32 : Nat)) (0 : Nat)),
 (6, PV.int .i64 (0 : Int)), ((7 : Nat), PV.int .i64 (x.2 + (1 : Int))),
 (8, PV.undef),
 (14, PV.bool (bif decide (n0 < (0 : Int)) then true else decide ((200 : Int) < d))),
 ((33 : Nat), PV.undef), (52, PV.undef)]
 [((3 : Nat) + (32 : Nat),
 PV.agg
 [PV.int .i64 kd, PV.bool bv, PV.str sv, PV.row nk (BRow.strs ks) (0 : Nat),
 PV.vec nl (5 : Nat) ls (0 : Nat)])] =
 VS.mk []
 [(0,
 PV.agg
 [PV.int .i64 kd, PV.bool bv, PV.str sv, PV.row nk (BRow.strs ks) (0 : Nat),
 PV.vec nl (5 : Nat) ls (0 : Nat)]),
 ((1 : Nat), PV.int .i64 (x.1 - lenZ (strZ ks x.2))),
 (2, PV.int .i64 d), (3, PV.ptr ((3 : Nat) + (32 : Nat)) (0 : Nat)),
 (6, PV.int .i64 (0 : Int)), ((7 : Nat), PV.int .i64 (x.2 + (1 : Int))),
 (8, PV.undef),
 (14, PV.bool (bif decide (n0 < (0 : Int)) then true else decide ((200 : Int) < d))),
 ((33 : Nat), PV.undef), (52, PV.undef)]
 [((3 : Nat) + (32 : Nat),
 PV.agg
 [PV.int .i64 kd, PV.bool bv, PV.str sv, PV.row nk (BRow.strs ks) (0 : Nat),
 PV.vec nl (5 : Nat) ls (0 : Nat)])] ∧
 ((0 : Int) ≤ x.2 + (1 : Int) ∧
 x.2 + (1 : Int) ≤ ↑ks.length ∧
 (-1125899906842624 : Int) ≤ x.1 - lenZ (strZ ks x.2) ∧
 x.1 - lenZ (strZ ks x.2) ≤ (1000000 : Int) ∧
 wK (List.drop (x.2 + (1 : Int)).toNat ks) (x.1 - lenZ (strZ ks x.2)) =
 wK ks (n0 - (1 : Int) - lenZ sv - lenZ ks)) ∧
 (↑ks.length - (x.2 + (1 : Int))).toNat < (↑ks.length - x.2).toNat) ∧
 ((bif decide (x.2 < Int.ofNat ks.length) then decide ((0 : Int) ≤ x.1) else false) = false →
 VS.mk []
 [(0,
 PV.agg
 [PV.int .i64 kd, PV.bool bv, PV.str sv, PV.row nk (BRow.strs ks) (0 : Nat),
 PV.vec nl (5 : Nat) ls (0 : Nat)]),
 ((1 : Nat), PV.int .i64 x.1), (2, PV.int .i64 d),
 (3, PV.ptr ((3 : Nat) + (32 : Nat)) (0 : Nat)), (6, PV.int .i64 (0 : Int)),
 ((7 : Nat), PV.int .i64 x.2), (8, PV.int .i64 (0 : Int)),
 (14, PV.bool (bif decide (n0 < (0 : Int)) then true else decide ((200 : Int) < d))),
 ((33 : Nat), PV.bool (bif decide (x.2 < Int.ofNat ks.length) then decide ((0 : Int) ≤ x.1) else false)),
 ((52 : Nat), PV.undef)]
 [((3 : Nat) + (32 : Nat),
 PV.agg
 [PV.int .i64 kd, PV.bool bv, PV.str sv, PV.row nk (BRow.strs ks) (0 : Nat),
 PV.vec nl (5 : Nat) ls (0 : Nat)])] =
 VS.mk []
 [(0,
 PV.agg
 [PV.int .i64 kd, PV.bool bv, PV.str sv, PV.row nk (BRow.strs ks) (0 : Nat),
 PV.vec nl (5 : Nat) ls (0 : Nat)]),
 ((1 : Nat), PV.int .i64 x.1), (2, PV.int .i64 d),
 (3, PV.ptr ((3 : Nat) + (32 : Nat)) (0 : Nat)), (6, PV.int .i64 (0 : Int)),
 ((7 : Nat), PV.int .i64 x.2), ((8 : Nat), PV.int .i64 (0 : Int)),
 (14, PV.bool (bif decide (n0 < (0 : Int)) then true else decide ((200 : Int) < d))),
 ((33 : Nat), PV.bool (bif decide (x.2 < Int.ofNat ks.length) then decide ((0 : Int) ≤ x.1) else false)),
 ((52 : Nat), PV.undef)]
 [((3 : Nat) + (32 : Nat),
 PV.agg
 [PV.int .i64 kd, PV.bool bv, PV.str sv, PV.row nk (BRow.strs ks) (0 : Nat),
 PV.vec nl (5 : Nat) ls (0 : Nat)])] ∧
 ((0 : Int) ≤ (0 : Int) ∧
 (0 : Int) ≤ ↑ls.length ∧
 (-1125899906842624 : Int) ≤ x.1 ∧
 x.1 ≤ (1000000 : Int) ∧
 wJs (List.drop (Int.toNat (0 : Int)) (jdecs ls)) x.1 (d + (1 : Int)) =
 wJs (jdecs ls) (wK ks (n0 - (1 : Int) - lenZ sv - lenZ ks))
 (d + (1 : Int))) ∧
 ∀ (x_1 : Int × Int),
 (0 : Int) ≤ x_1.2 ∧
 x_1.2 ≤ ↑ls.length ∧
 (-1125899906842624 : Int) ≤ x_1.1 ∧
 x_1.1 ≤ (1000000 : Int) ∧
 wJs (List.drop x_1.2.toNat (jdecs ls)) x_1.1 (d + (1 : Int)) =
 wJs (jdecs ls) (wK ks (n0 - (1 : Int) - lenZ sv - lenZ ks))
 (d + (1 : Int)) →
 ((bif decide (x_1.2 < lenZ ls) then decide ((0 : Int) ≤ x_1.1) else false) = true →
 within x_1.2 (lenZ ls) ∧
 eltV ls x_1.2 =
 PV.agg
 [PV.int .i64
 ((eltV ls x_1.2).part (0 : Nat)).asInt,
 PV.bool
 ((eltV ls x_1.2).part
 (1 : Nat)).asBool,
 PV.str
 ((eltV ls x_1.2).part
 (2 : Nat)).asStr,
 PV.row
 ((eltV ls x_1.2).part
 (3 : Nat)).asNil
 (BRow.strs
 ((eltV ls x_1.2).part
 (3 : Nat)).asStrs)
 (0 : Nat),
 PV.vec
 ((eltV ls x_1.2).part
 (4 : Nat)).asNil
 (nat_lit 5)
 ((eltV ls x_1.2).part
 (4 : Nat)).asVec
 (0 : Nat)] ∧
 inI64 (d + (1 : Int)) ∧
 (isJs
 ((eltV ls x_1.2).part
 (4 : Nat)).asVec ∧
 okJ m
 (JV.mk
 ((eltV ls x_1.2).part (0 : Nat)).asInt
 ((eltV ls x_1.2).part
 (1 : Nat)).asBool
 ((eltV ls x_1.2).part
 (2 : Nat)).asStr
 ((eltV ls x_1.2).part
 (3 : Nat)).asNil
 ((eltV ls x_1.2).part
 (3 : Nat)).asStrs
 ((eltV ls x_1.2).part
 (4 : Nat)).asNil
 (jdecs
 ((eltV ls x_1.2).part
 (4 : Nat)).asVec)) ∧
 ((-1 : Int) ≤ x_1.1 ∧ x_1.1 ≤ (1000000 : Int)) ∧ (0 : Int) ≤ d + (1 : Int) ∧ d + (1 : Int) ≤ (201 : Int)) ∧
 inI64 (x_1.2 + (1 : Int)) ∧
 VS.mk []
 [(0,
 PV.agg
 [PV.int .i64 kd, PV.bool bv, PV.str sv,
 PV.row nk (BRow.strs ks) (0 : Nat), PV.vec nl (5 : Nat) ls (0 : Nat)]),
 ((1 : Nat),
 PV.int .i64
 (wJ
 (JV.mk
 ((eltV ls x_1.2).part (0 : Nat)).asInt
 ((eltV ls x_1.2).part
 (1 : Nat)).asBool
 ((eltV ls x_1.2).part
 (2 : Nat)).asStr
 ((eltV ls x_1.2).part
 (3 : Nat)).asNil
 ((eltV ls x_1.2).part
 (3 : Nat)).asStrs
 ((eltV ls x_1.2).part
 (4 : Nat)).asNil
 (jdecs
 ((eltV ls x_1.2).part
 (4 : Nat)).asVec))
 x_1.1 (d + (1 : Int)))),
 (2, PV.int .i64 d), (3, PV.ptr ((3 : Nat) + (32 : Nat)) (0 : Nat)),
 (6, PV.int .i64 (0 : Int)), ((7 : Nat), PV.int .i64 x.2),
 ((8 : Nat), PV.int .i64 (x_1.2 + (1 : Int))),
 (14, PV.bool (bif decide (n0 < (0 : Int)) then true else decide ((200 : Int) < d))),
 ((33 : Nat),
 PV.bool (bif decide (x.2 < Int.ofNat ks.length) then decide ((0 : Int) ≤ x.1) else false)),
 ((52 : Nat), PV.undef)]
 [((3 : Nat) + (32 : Nat),
 PV.agg
 [PV.int .i64 kd, PV.bool bv, PV.str sv,
 PV.row nk (BRow.strs ks) (0 : Nat), PV.vec nl (5 : Nat) ls (0 : Nat)])] =
 VS.mk []
 [(0,
 PV.agg
 [PV.int .i64 kd, PV.bool bv, PV.str sv,
 PV.row nk (BRow.strs ks) (0 : Nat), PV.vec nl (5 : Nat) ls (0 : Nat)]),
 ((1 : Nat),
 PV.int .i64
 (wJ
 (JV.mk
 ((eltV ls x_1.2).part (0 : Nat)).asInt
 ((eltV ls x_1.2).part
 (1 : Nat)).asBool
 ((eltV ls x_1.2).part
 (2 : Nat)).asStr
 ((eltV ls x_1.2).part
 (3 : Nat)).asNil
 ((eltV ls x_1.2).part
 (3 : Nat)).asStrs
 ((eltV ls x_1.2).part
 (4 : Nat)).asNil
 (jdecs
 ((eltV ls x_1.2).part
 (4 : Nat)).asVec))
 x_1.1 (d + (1 : Int)))),
 (2, PV.int .i64 d), (3, PV.ptr ((3 : Nat) + (32 : Nat)) (0 : Nat)),
 (6, PV.int .i64 (0 : Int)), ((7 : Nat), PV.int .i64 x.2),
 ((8 : Nat), PV.int .i64 (x_1.2 + (1 : Int))),
 (14, PV.bool (bif decide (n0 < (0 : Int)) then true else decide ((200 : Int) < d))),
 ((33 : Nat),
 PV.bool (bif decide (x.2 < Int.ofNat ks.length) then decide ((0 : Int) ≤ x.1) else false)),
 ((52 : Nat), PV.undef)]
 [((3 : Nat) + (32 : Nat),
 PV.agg
 [PV.int .i64 kd, PV.bool bv, PV.str sv,
 PV.row nk (BRow.strs ks) (0 : Nat), PV.vec nl (5 : Nat) ls (0 : Nat)])] ∧
 ((0 : Int) ≤ x_1.2 + (1 : Int) ∧
 x_1.2 + (1 : Int) ≤ ↑ls.length ∧
 (-1125899906842624 : Int) ≤
 wJ
 (JV.mk
 ((eltV ls x_1.2).part (0 : Nat)).asInt
 ((eltV ls x_1.2).part
 (1 : Nat)).asBool
 ((eltV ls x_1.2).part
 (2 : Nat)).asStr
 ((eltV ls x_1.2).part
 (3 : Nat)).asNil
 ((eltV ls x_1.2).part
 (3 : Nat)).asStrs
 ((eltV ls x_1.2).part
 (4 : Nat)).asNil
 (jdecs
 ((eltV ls x_1.2).part
 (4 : Nat)).asVec))
 x_1.1 (d + (1 : Int)) ∧
 wJ
 (JV.mk
 ((eltV ls x_1.2).part
 (0 : Nat)).asInt
 ((eltV ls x_1.2).part
 (1 : Nat)).asBool
 ((eltV ls x_1.2).part
 (2 : Nat)).asStr
 ((eltV ls x_1.2).part
 (3 : Nat)).asNil
 ((eltV ls x_1.2).part
 (3 : Nat)).asStrs
 ((eltV ls x_1.2).part
 (4 : Nat)).asNil
 (jdecs
 ((eltV ls x_1.2).part
 (4 : Nat)).asVec))
 x_1.1 (d + (1 : Int)) ≤
 (1000000 : Int) ∧
 wJs (List.drop (x_1.2 + (1 : Int)).toNat (jdecs ls))
 (wJ
 (JV.mk
 ((eltV ls x_1.2).part
 (0 : Nat)).asInt
 ((eltV ls x_1.2).part
 (1 : Nat)).asBool
 ((eltV ls x_1.2).part
 (2 : Nat)).asStr
 ((eltV ls x_1.2).part
 (3 : Nat)).asNil
 ((eltV ls x_1.2).part
 (3 : Nat)).asStrs
 ((eltV ls x_1.2).part
 (4 : Nat)).asNil
 (jdecs
 ((eltV ls x_1.2).part
 (4 : Nat)).asVec))
 x_1.1 (d + (1 : Int)))
 (d + (1 : Int)) =
 wJs (jdecs ls)
 (wK ks (n0 - (1 : Int) - lenZ sv - lenZ ks)) (d + (1 : Int))) ∧
 (↑ls.length - (x_1.2 + (1 : Int))).toNat < (↑ls.length - x_1.2).toNat) ∧
 ((bif decide (x_1.2 < lenZ ls) then decide ((0 : Int) ≤ x_1.1) else false) = false →
 k (PV.int .i64 x_1.1))))) := by kernel_rfl
attribute [local irreducible] Go.Vc.evF
theorem ok_weight (m : Nat) (ih : ∀ xs c, ent_weight m xs = some c → FuncOk Try.prog noT 19 xs c) (kd : Int) (bv : Bool) (sv : Bs) (nk : Bool) (ks : List Bs) (nl : Bool) (ls : List PV) (n0 d : Int) : FuncOk Try.prog noT 19 [.agg [.int .i64 kd, .bool bv, .str sv, .row nk (.strs ks) 0, .vec nl 5 ls 0], .int .i64 n0, .int .i64 d] ⟨isJs ls ∧ okJ (m + 1) (.mk kd bv sv nk ks nl (jdecs ls)) ∧ (-1 ≤ n0 ∧ n0 ≤ 1000000) ∧ (0 ≤ d ∧ d ≤ 201), .int .i64 (wJ (.mk kd bv sv nk ks nl (jdecs ls)) n0 d)⟩ := evF_ok (by kernel_rfl) (X_weight_ok m ih) (H := H_weight m kd bv sv nk ks nl ls n0 d) (fuel := 1000) Try.func19 (by kernel_rfl) fun hpre => (vc_weight m kd bv sv nk ks nl ls n0 d _).mpr (by
  obtain ⟨⟨js, rfl⟩, hok, ⟨hn0, hn1⟩, hd0, hd1⟩ := hpre
  rw [jdecs_pvs] at hok
  have hok1 := hok
  obtain ⟨hk, hs, hks, hkl, hls, hj⟩ := hok1
  simp only [JV.k, JV.s, JV.ks, JV.ls] at hk hs hks hkl hls hj
  have hml : bigJ = 140737488355328 := rfl
  simp only [jdecs_pvs, pvs_lenZ, pvs_length]
  have hw : wJ (.mk kd bv sv nk ks nl js) n0 d = if n0 < 0 ∨ 200 < d then -1 else wJs js (wK ks (n0 - 1 - lenZ sv - lenZ ks)) (d + 1) := by rw [wJ]
  have hsl : lenZ sv = (sv.length : Int) := rfl
  have hkz : lenZ ks = (ks.length : Int) := rfl
  have hko : Int.ofNat ks.length = (ks.length : Int) := rfl
  refine ⟨fun h => ?_, fun h => ?_⟩
  · show PV.int _ _ = PV.int _ _
    rw [hw, if_pos (or_t h)]
  have hc := or_f h
  rw [if_neg hc] at hw
  refine ⟨by unfold inI64; omega, by unfold inI64; omega, by unfold inI64; omega, trivial, ⟨by omega, by omega, by omega, by omega, rfl⟩, fun x hx => ?_⟩
  obtain ⟨q, i⟩ := x
  obtain ⟨h0, h1, h2, h3, h4⟩ := hx
  simp only at h0 h1 h2 h3 h4
  obtain ⟨n, rfl⟩ := Int.eq_ofNat_of_zero_le h0
  rw [Int.toNat_natCast] at h4
  refine ⟨fun g => ?_, fun g => ?_⟩
  · have g1 : n < ks.length := by have := (and_t g).1; simp only at this; omega
    have g2 : 0 ≤ q := (and_t g).2
    have e := str_at g1
    have hl := hkl _ (List.getElem_mem g1)
    have hz : lenZ ks[n] = (ks[n].length : Int) := rfl
    simp only [e]
    refine ⟨⟨by omega, by omega⟩, by unfold inI64; omega, by unfold inI64; omega, trivial, ⟨by omega, by omega, by omega, by omega, ?_⟩, by omega⟩
    rw [show ((n : Int) + 1).toNat = n + 1 by omega, ← h4]; exact (wK_drop g1 g2).symm
  have hwk : wK ks (n0 - 1 - lenZ sv - lenZ ks) = q := by
    rw [← h4]
    by_cases c : n < ks.length
    · exact wK_neg (by have := and_f g; simp only at this; omega)
    · rw [List.drop_of_length_le (by omega)]; rfl
  rw [hwk] at hw
  refine ⟨trivial, ⟨by omega, by omega, h2, h3, by rw [hwk]; rfl⟩, fun y hy => ?_⟩
  obtain ⟨p, i⟩ := y
  obtain ⟨f0, f1, f2, f3, f4⟩ := hy
  simp only at f0 f1 f2 f3 f4
  obtain ⟨a, rfl⟩ := Int.eq_ofNat_of_zero_le f0
  rw [Int.toNat_natCast, hwk] at f4
  refine ⟨fun g => ?_, fun g => ?_⟩
  · have g1 : a < js.length := by have := (and_t g).1; simp only at this; omega
    have g2 : 0 ≤ p := (and_t g).2
    have hy := hj _ (List.getElem_mem g1)
    simp only [elt_jv g1, jp0, jp1, jp2, jp3, jp3', jp4, jp4', jdecs_pvs, JV.eta']
    have w1 := wJ_le js[a] p (d + 1) (by omega)
    have w2 := wJ_ge js[a] m p (d + 1) hy (by omega)
    refine ⟨⟨by omega, by omega⟩, JV.pv_eq _, by unfold inI64; omega, ⟨isJs_of _, hy, ⟨by omega, by omega⟩, by omega, by omega⟩, by unfold inI64; omega, trivial, ⟨by omega, by omega, by omega, by omega, ?_⟩, by omega⟩
    rw [show ((a : Int) + 1).toNat = a + 1 by omega, hwk, ← f4]; exact (wJs_drop g1 g2).symm
  show PV.int _ _ = PV.int _ _
  rw [hw, ← f4]
  by_cases c : a < js.length
  · rw [wJs_neg (by have := and_f g; simp only at this; omega)]
  · rw [List.drop_of_length_le (by omega), wJs])
theorem ent_weight_ok : ∀ (n : Nat) xs c, ent_weight n xs = some c → FuncOk Try.prog noT 19 xs c
  | 0, xs, c, h => by
    unfold ent_weight at h
    split at h
    · injection h with h; subst h; exact .of_plain rfl fun hp => False.elim (hp.2.1)
    · cases h
  | m + 1, xs, c, h => by
    unfold ent_weight at h
    split at h
    · injection h with h; subst h; exact ok_weight m (ent_weight_ok m) _ _ _ _ _ _ _ _ _
    · cases h
def entA_weight : List PV → Option CallR := fun xs => match xs with
  | [.agg [.int .i64 kd, .bool bv, .str sv, .row nk (.strs ks) 0, .vec nl 5 ls 0], .int .i64 n0, .int .i64 d] => some ⟨∃ dn : Nat, isJs ls ∧ okJ dn (.mk kd bv sv nk ks nl (jdecs ls)) ∧ (-1 ≤ n0 ∧ n0 ≤ 1000000) ∧ (0 ≤ d ∧ d ≤ 201), .int .i64 (wJ (.mk kd bv sv nk ks nl (jdecs ls)) n0 d)⟩
  | _ => none
theorem entA_weight_ok : ∀ xs c, entA_weight xs = some c → FuncOk Try.prog noT 19 xs c := fun xs c h => by
  unfold entA_weight at h
  split at h
  · injection h with h; subst h; exact exI fun n => ent_weight_ok n _ _ rfl
  · cases h
end
section
def X_heavy : Tbl := tblX [(19, entA_weight)]
def H_heavy (kd : Int) (bv : Bool) (sv : Bs) (nk : Bool) (ks : List Bs) (nl : Bool) (ls : List PV) (n0 : Int) : Loops := fun i => none
theorem X_heavy_ok : XOk Try.prog noT X_heavy := tblX_cons entA_weight_ok (tblX_nil)
theorem vc_heavy (kd : Int) (bv : Bool) (sv : Bs) (nk : Bool) (ks : List Bs) (nl : Bool) (ls : List PV) (n0 : Int) (k : PV → Prop) : evF Try.prog X_heavy noT (H_heavy kd bv sv nk ks nl ls n0) 1000 Try.f9 [.agg [.int .i64 kd, .bool bv, .str sv, .row nk (.strs ks) 0, .vec nl 5 ls 0], .int .i64 n0] k = (
  (∃ (dn : Nat),
 isJs ls ∧
 okJ dn (JV.mk kd bv sv nk ks nl (jdecs ls)) ∧
 ((-1 : Int) ≤ n0 ∧ n0 ≤ (1000000 : Int)) ∧ (0 : Int) ≤ (0 : Int) ∧ (0 : Int) ≤ (201 : Int)) ∧
 k (PV.bool (decide (wJ (JV.mk kd bv sv nk ks nl (jdecs ls)) n0 (0 : Int) < (0 : Int))))) := by kernel_rfl
attribute [local irreducible] Go.Vc.evF
theorem ok_heavy (kd : Int) (bv : Bool) (sv : Bs) (nk : Bool) (ks : List Bs) (nl : Bool) (ls : List PV) (n0 : Int) : FuncOk Try.prog noT 9 [.agg [.int .i64 kd, .bool bv, .str sv, .row nk (.strs ks) 0, .vec nl 5 ls 0], .int .i64 n0] ⟨isJs ls ∧ (∃ q, okJ q (.mk kd bv sv nk ks nl (jdecs ls))) ∧ 0 ≤ n0 ∧ n0 ≤ 1000000, .bool (decide (wJ (.mk kd bv sv nk ks nl (jdecs ls)) n0 0 < 0))⟩ := evF_ok (by kernel_rfl) X_heavy_ok (H := H_heavy kd bv sv nk ks nl ls n0) (fuel := 1000) Try.func9 (by kernel_rfl) fun hpre => (vc_heavy kd bv sv nk ks nl ls n0 _).mpr (by
  obtain ⟨⟨js, rfl⟩, ⟨q, hok⟩, hn0, hn1⟩ := hpre
  exact ⟨⟨q, isJs_of _, hok, ⟨by omega, by omega⟩, by omega, by omega⟩, rfl⟩)
def ent_heavy : List PV → Option CallR := fun xs => match xs with
  | [.agg [.int .i64 kd, .bool bv, .str sv, .row nk (.strs ks) 0, .vec nl 5 ls 0], .int .i64 n0] => some ⟨isJs ls ∧ (∃ q, okJ q (.mk kd bv sv nk ks nl (jdecs ls))) ∧ 0 ≤ n0 ∧ n0 ≤ 1000000, .bool (decide (wJ (.mk kd bv sv nk ks nl (jdecs ls)) n0 0 < 0))⟩
  | _ => none
theorem ent_heavy_ok : ∀ xs c, ent_heavy xs = some c → FuncOk Try.prog noT 9 xs c := fun xs c h => by
  unfold ent_heavy at h
  split at h
  · injection h with h; subst h; exact ok_heavy _ _ _ _ _ _ _ _
  · cases h
end
section
def X_equal : Tbl := tblX []
def H_equal (na : Bool) (a : List Bs) (nb : Bool) (b : List Bs) : Loops := fun i => bif Nat.beq i 4 then some ⟨(Int), (fun s x => ((((s.put 13 (.int .i64 x)).put 5 .undef).put 14 .undef).put 24 .undef)), (fun s => s.int 13), (fun s x => let i := x; 0 ≤ i ∧ i ≤ a.length ∧ a.length = b.length ∧ a.take i.toNat = b.take i.toNat), (fun s x => let i := x; ((a.length : Int) - i).toNat), [5, 14, 24]⟩ else none
theorem X_equal_ok : XOk Try.prog noT X_equal := tblX_nil
theorem vc_equal (na : Bool) (a : List Bs) (nb : Bool) (b : List Bs) (k : PV → Prop) : evF Try.prog X_equal noT (H_equal na a nb b) 1000 Try.f38 [.row na (.strs a) 0, .row nb (.strs b) 0] k = (
  ((!decide (Int.ofNat a.length = Int.ofNat b.length)) = true → k (PV.bool false)) ∧
 ((!decide (Int.ofNat a.length = Int.ofNat b.length)) = false →
 VS.mk []
 [(0, PV.row na (BRow.strs a) (0 : Nat)), (1, PV.row nb (BRow.strs b) (0 : Nat)),
 (4, PV.bool false), ((5 : Nat), PV.undef), (10, PV.bool !decide (Int.ofNat a.length = Int.ofNat b.length)),
 (12, PV.int .i64 (Int.ofNat a.length)), (13, PV.int .i64 (0 : Int)), ((14 : Nat), PV.undef),
 ((24 : Nat), PV.undef)]
 [] =
 VS.mk []
 [(0, PV.row na (BRow.strs a) (0 : Nat)), (1, PV.row nb (BRow.strs b) (0 : Nat)),
 (4, PV.bool false), ((5 : Nat), PV.undef), (10, PV.bool !decide (Int.ofNat a.length = Int.ofNat b.length)),
 (12, PV.int .i64 (Int.ofNat a.length)), ((13 : Nat), PV.int .i64 (0 : Int)), ((14 : Nat), PV.undef),
 ((24 : Nat), PV.undef)]
 [] ∧
 ((0 : Int) ≤ (0 : Int) ∧ (0 : Int) ≤ ↑a.length ∧ a.length = b.length ∧ List.take (Int.toNat (0 : Int)) a = List.take (Int.toNat (0 : Int)) b) ∧
 ∀ (x : Int),
 (0 : Int) ≤ x ∧ x ≤ ↑a.length ∧ a.length = b.length ∧ List.take x.toNat a = List.take x.toNat b →
 (decide (x < Int.ofNat a.length) = true →
 within x (Int.ofNat a.length) ∧
 within x (Int.ofNat b.length) ∧
 ((!decide (strZ a x = strZ b x)) = true → k (PV.bool false)) ∧
 ((!decide (strZ a x = strZ b x)) = false →
 inI64 (x + (1 : Int)) ∧
 VS.mk []
 [(0, PV.row na (BRow.strs a) (0 : Nat)), (1, PV.row nb (BRow.strs b) (0 : Nat)),
 (4, PV.bool false), ((5 : Nat), PV.undef),
 (10, PV.bool !decide (Int.ofNat a.length = Int.ofNat b.length)),
 (12, PV.int .i64 (Int.ofNat a.length)), ((13 : Nat), PV.int .i64 (x + (1 : Int))),
 ((14 : Nat), PV.undef), ((24 : Nat), PV.undef)]
 [] =
 VS.mk []
 [(0, PV.row na (BRow.strs a) (0 : Nat)), (1, PV.row nb (BRow.strs b) (0 : Nat)),
 (4, PV.bool false), ((5 : Nat), PV.undef),
 (10, PV.bool !decide (Int.ofNat a.length = Int.ofNat b.length)),
 (12, PV.int .i64 (Int.ofNat a.length)), ((13 : Nat), PV.int .i64 (x + (1 : Int))),
 ((14 : Nat), PV.undef), ((24 : Nat), PV.undef)]
 [] ∧
 ((0 : Int) ≤ x + (1 : Int) ∧
 x + (1 : Int) ≤ ↑a.length ∧ a.length = b.length ∧ List.take (x + (1 : Int)).toNat a = List.take (x + (1 : Int)).toNat b) ∧
 (↑a.length - (x + (1 : Int))).toNat < (↑a.length - x).toNat)) ∧
 (decide (x < Int.ofNat a.length) = false → k (PV.bool true)))) := by kernel_rfl
attribute [local irreducible] Go.Vc.evF
theorem ok_equal (na : Bool) (a : List Bs) (nb : Bool) (b : List Bs) : FuncOk Try.prog noT 38 [.row na (.strs a) 0, .row nb (.strs b) 0] ⟨a.length ≤ bigJ ∧ b.length ≤ bigJ, .bool (decide (a = b))⟩ := evF_ok (by kernel_rfl) X_equal_ok (H := H_equal na a nb b) (fuel := 1000) Try.func38 (by kernel_rfl) fun hpre => (vc_equal na a nb b _).mpr (by
  obtain ⟨ha, hb⟩ := hpre
  have hml : bigJ = 140737488355328 := rfl
  have ea : Int.ofNat a.length = (a.length : Int) := rfl
  have eb : Int.ofNat b.length = (b.length : Int) := rfl
  refine ⟨fun h => ?_, fun h => ?_⟩
  · show PV.bool _ = PV.bool _
    congr 1
    symm
    refine decide_eq_false fun e => ?_
    rw [e] at h; simp at h
  have hl : a.length = b.length := by
    have : ((a.length : Int) = b.length) := by simpa using h
    omega
  refine ⟨rfl, ⟨by omega, by omega, hl, rfl⟩, fun x hx => ?_⟩
  obtain ⟨h0, h1, -, h2⟩ := hx
  obtain ⟨n, rfl⟩ := Int.eq_ofNat_of_zero_le h0
  rw [Int.toNat_natCast] at h2
  refine ⟨fun g => ?_, fun g => ?_⟩
  · have g1 : n < a.length := by have := of_decide_eq_true g; omega
    have e1 := str_at g1
    have e2 := str_at (l := b) (n := n) (by omega)
    rw [e1, e2]
    refine ⟨⟨by omega, by omega⟩, ⟨by omega, by omega⟩, fun d => ?_, fun d => ?_⟩
    · show PV.bool _ = PV.bool _
      congr 1
      symm
      refine decide_eq_false fun e => ?_
      subst e
      simp at d
    · refine ⟨by unfold inI64; omega, rfl, ⟨by omega, by omega, hl, ?_⟩, by omega⟩
      rw [show ((n : Int) + 1).toNat = n + 1 by omega, List.take_add_one, List.take_add_one, h2, List.getElem?_eq_getElem g1, List.getElem?_eq_getElem (show n < b.length by omega)]
      have : a[n] = b[n]'(by omega) := by simpa using d
      rw [this]
  · have : ¬ (n : Int) < Int.ofNat a.length := of_decide_eq_false g
    show PV.bool _ = PV.bool _
    congr 1
    symm
    rw [List.take_of_length_le (by omega), List.take_of_length_le (by omega)] at h2
    exact decide_eq_true h2)
def ent_equal : List PV → Option CallR := fun xs => match xs with
  | [.row na (.strs a) 0, .row nb (.strs b) 0] => some ⟨a.length ≤ bigJ ∧ b.length ≤ bigJ, .bool (decide (a = b))⟩
  | _ => none
theorem ent_equal_ok : ∀ xs c, ent_equal xs = some c → FuncOk Try.prog noT 38 xs c := fun xs c h => by
  unfold ent_equal at h
  split at h
  · injection h with h; subst h; exact ok_equal _ _ _ _
  · cases h
end
section
def ent_jsame (dn : Nat) : List PV → Option CallR := fun xs => match xs with
  | [.agg [.int .i64 kd, .bool bv, .str sv, .row nk (.strs ks) 0, .vec nl 5 ls 0], .agg [.int .i64 kd2, .bool bv2, .str sv2, .row nk2 (.strs ks2) 0, .vec nl2 5 ls2 0], .int .i64 d] => some ⟨isJs ls ∧ okJ dn (.mk kd bv sv nk ks nl (jdecs ls)) ∧ isJs ls2 ∧ (∃ q, okJ q (.mk kd2 bv2 sv2 nk2 ks2 nl2 (jdecs ls2))) ∧ ((dn : Int) ≤ d ∧ d ≤ 1000000), .bool (sameJ (.mk kd bv sv nk ks nl (jdecs ls)) (.mk kd2 bv2 sv2 nk2 ks2 nl2 (jdecs ls2)))⟩
  | _ => none
def X_jsame (m : Nat) : Tbl := tblX [(38, ent_equal), (24, ent_jsame m)]
def H_jsame (m : Nat) (kd : Int) (bv : Bool) (sv : Bs) (nk : Bool) (ks : List Bs) (nl : Bool) (ls : List PV) (kd2 : Int) (bv2 : Bool) (sv2 : Bs) (nk2 : Bool) (ks2 : List Bs) (nl2 : Bool) (ls2 : List PV) (d : Int) : Loops := fun i => bif Nat.beq i 6 then some ⟨(Int), (fun s x => ((((s.put 53 (.int .i64 x)).put 7 .undef).put 54 .undef).put 69 .undef)), (fun s => s.int 53), (fun s x => let i := x; 0 ≤ i ∧ i ≤ ls.length ∧ ls.length = ls2.length ∧ sameJs ((jdecs ls).drop i.toNat) ((jdecs ls2).drop i.toNat) = sameJs (jdecs ls) (jdecs ls2)), (fun s x => let i := x; ((ls.length : Int) - i).toNat), [7, 54, 69]⟩ else none
theorem X_jsame_ok (m : Nat) (ih : ∀ xs c, ent_jsame m xs = some c → FuncOk Try.prog noT 24 xs c) : XOk Try.prog noT (X_jsame m) := tblX_cons ent_equal_ok (tblX_cons ih (tblX_nil))
theorem vc_jsame (m : Nat) (kd : Int) (bv : Bool) (sv : Bs) (nk : Bool) (ks : List Bs) (nl : Bool) (ls : List PV) (kd2 : Int) (bv2 : Bool) (sv2 : Bs) (nk2 : Bool) (ks2 : List Bs) (nl2 : Bool) (ls2 : List PV) (d : Int) (k : PV → Prop) : evF Try.prog (X_jsame m) noT (H_jsame m kd bv sv nk ks nl ls kd2 bv2 sv2 nk2 ks2 nl2 ls2 d) 1000 Try.f24 [.agg [.int .i64 kd, .bool bv, .str sv, .row nk (.strs ks) 0, .vec nl 5 ls 0], .agg [.int .i64 kd2, .bool bv2, .str sv2, .row nk2 (.strs ks2) 0, .vec nl2 5 ls2 0], .int .i64 d] k = (
  ((bif bif bif !decide (kd = kd2) then true else Bool.rec true false (bv == bv2) then true else !decide (sv = sv2) then true
 else !decide (lenZ ls = lenZ ls2)) =
 false →
 ks.length ≤ bigJ ∧ ks2.length ≤ bigJ) ∧
 ((bif
 bif bif bif !decide (kd = kd2) then true else Bool.rec true false (bv == bv2) then true else !decide (sv = sv2) then true
 else !decide (lenZ ls = lenZ ls2) then
 true
 else !decide (ks = ks2)) =
 true →
 k (PV.bool false)) ∧
 ((bif
 bif bif bif !decide (kd = kd2) then true else Bool.rec true false (bv == bv2) then true else !decide (sv = sv2) then true
 else !decide (lenZ ls = lenZ ls2) then
 true
 else !decide (ks = ks2)) =
 false →
 (decide (d = (0 : Int)) = true → k (PV.bool (decide (lenZ ls = (0 : Int))))) ∧
 (decide (d = (0 : Int)) = false →
 VS.mk []
 [(0,
 PV.agg
 [PV.int .i64 kd, PV.bool bv, PV.str sv, PV.row nk (BRow.strs ks) (0 : Nat),
 PV.vec nl (5 : Nat) ls (0 : Nat)]),
 (1,
 PV.agg
 [PV.int .i64 kd2, PV.bool bv2, PV.str sv2, PV.row nk2 (BRow.strs ks2) (0 : Nat),
 PV.vec nl2 (5 : Nat) ls2 (0 : Nat)]),
 (2, PV.int .i64 d), (3, PV.ptr ((3 : Nat) + (32 : Nat)) (0 : Nat)),
 (4, PV.ptr ((4 : Nat) + (32 : Nat)) (0 : Nat)), (6, PV.bool false), ((7 : Nat), PV.undef),
 (43,
 PV.bool
 (bif
 bif bif bif !decide (kd = kd2) then true else Bool.rec true false (bv == bv2) then true else !decide (sv = sv2) then true
 else !decide (lenZ ls = lenZ ls2) then
 true
 else !decide (ks = ks2))),
 (45, PV.bool (decide (d = (0 : Int)))), (52, PV.int .i64 (lenZ ls)),
 (53, PV.int .i64 (0 : Int)), ((54 : Nat), PV.undef), ((69 : Nat), PV.undef)]
 [((4 : Nat) + (32 : Nat),
 PV.agg
 [PV.int .i64 kd2, PV.bool bv2, PV.str sv2, PV.row nk2 (BRow.strs ks2) (0 : Nat),
 PV.vec nl2 (5 : Nat) ls2 (0 : Nat)]),
 ((3 : Nat) + (32 : Nat),
 PV.agg
 [PV.int .i64 kd, PV.bool bv, PV.str sv, PV.row nk (BRow.strs ks) (0 : Nat),
 PV.vec nl (5 : Nat) ls (0 : Nat)])] =
 VS.mk []
 [(0,
 PV.agg
 [PV.int .i64 kd, PV.bool bv, PV.str sv, PV.row nk (BRow.strs ks) (0 : Nat),
 PV.vec nl (5 : Nat) ls (0 : Nat)]),
 (1,
 PV.agg
 [PV.int .i64 kd2, PV.bool bv2, PV.str sv2, PV.row nk2 (BRow.strs ks2) (0 : Nat),
 PV.vec nl2 (5 : Nat) ls2 (0 : Nat)]),
 (2, PV.int .i64 d), (3, PV.ptr ((3 : Nat) + (32 : Nat)) (0 : Nat)),
 (4, PV.ptr ((4 : Nat) + (32 : Nat)) (0 : Nat)), (6, PV.bool false), ((7 : Nat), PV.undef),
 (43,
 PV.bool
 (bif
 bif bif bif !decide (kd = kd2) then true else Bool.rec true false (bv == bv2) then true else !decide (sv = sv2) then true
 else !decide (lenZ ls = lenZ ls2) then
 true
 else !decide (ks = ks2))),
 (45, PV.bool (decide (d = (0 : Int)))), (52, PV.int .i64 (lenZ ls)),
 ((53 : Nat), PV.int .i64 (0 : Int)), ((54 : Nat), PV.undef), ((69 : Nat), PV.undef)]
 [((4 : Nat) + (32 : Nat),
 PV.agg
 [PV.int .i64 kd2, PV.bool bv2, PV.str sv2, PV.row nk2 (BRow.strs ks2) (0 : Nat),
 PV.vec nl2 (5 : Nat) ls2 (0 : Nat)]),
 ((3 : Nat) + (32 : Nat),
 PV.agg
 [PV.int .i64 kd, PV.bool bv, PV.str sv, PV.row nk (BRow.strs ks) (0 : Nat),
 PV.vec nl (5 : Nat) ls (0 : Nat)])] ∧
 ((0 : Int) ≤ (0 : Int) ∧
 (0 : Int) ≤ ↑ls.length ∧
 ls.length = ls2.length ∧
 sameJs (List.drop (Int.toNat (0 : Int)) (jdecs ls)) (List.drop (Int.toNat (0 : Int)) (jdecs ls2)) =
 sameJs (jdecs ls) (jdecs ls2)) ∧
 ∀ (x : Int),
 (0 : Int) ≤ x ∧
 x ≤ ↑ls.length ∧
 ls.length = ls2.length ∧
 sameJs (List.drop x.toNat (jdecs ls)) (List.drop x.toNat (jdecs ls2)) =
 sameJs (jdecs ls) (jdecs ls2) →
 (decide (x < lenZ ls) = true →
 within x (lenZ ls) ∧
 eltV ls x =
 PV.agg
 [PV.int .i64 ((eltV ls x).part (0 : Nat)).asInt,
 PV.bool ((eltV ls x).part (1 : Nat)).asBool,
 PV.str
 ((eltV ls x).part (2 : Nat)).asStr,
 PV.row
 ((eltV ls x).part
 (3 : Nat)).asNil
 (BRow.strs
 ((eltV ls x).part
 (3 : Nat)).asStrs)
 (0 : Nat),
 PV.vec
 ((eltV ls x).part
 (4 : Nat)).asNil
 (nat_lit 5)
 ((eltV ls x).part
 (4 : Nat)).asVec
 (0 : Nat)] ∧
 within x (lenZ ls2) ∧
 eltV ls2 x =
 PV.agg
 [PV.int .i64 ((eltV ls2 x).part (0 : Nat)).asInt,
 PV.bool ((eltV ls2 x).part (1 : Nat)).asBool,
 PV.str
 ((eltV ls2 x).part (2 : Nat)).asStr,
 PV.row
 ((eltV ls2 x).part
 (3 : Nat)).asNil
 (BRow.strs
 ((eltV ls2 x).part
 (3 : Nat)).asStrs)
 (0 : Nat),
 PV.vec
 ((eltV ls2 x).part
 (4 : Nat)).asNil
 (nat_lit 5)
 ((eltV ls2 x).part
 (4 : Nat)).asVec
 (0 : Nat)] ∧
 inI64 (d - (1 : Int)) ∧
 (isJs
 ((eltV ls x).part
 (4 : Nat)).asVec ∧
 okJ m
 (JV.mk ((eltV ls x).part (0 : Nat)).asInt
 ((eltV ls x).part (1 : Nat)).asBool
 ((eltV ls x).part
 (2 : Nat)).asStr
 ((eltV ls x).part
 (3 : Nat)).asNil
 ((eltV ls x).part
 (3 : Nat)).asStrs
 ((eltV ls x).part
 (4 : Nat)).asNil
 (jdecs
 ((eltV ls x).part
 (4 : Nat)).asVec)) ∧
 isJs
 ((eltV ls2 x).part
 (4 : Nat)).asVec ∧
 (∃ (q : Nat),
 okJ q
 (JV.mk ((eltV ls2 x).part (0 : Nat)).asInt
 ((eltV ls2 x).part (1 : Nat)).asBool
 ((eltV ls2 x).part
 (2 : Nat)).asStr
 ((eltV ls2 x).part
 (3 : Nat)).asNil
 ((eltV ls2 x).part
 (3 : Nat)).asStrs
 ((eltV ls2 x).part
 (4 : Nat)).asNil
 (jdecs
 ((eltV ls2 x).part
 (4 : Nat)).asVec))) ∧
 ↑m ≤ d - (1 : Int) ∧ d - (1 : Int) ≤ (1000000 : Int)) ∧
 ((!sameJ
 (JV.mk ((eltV ls x).part (0 : Nat)).asInt
 ((eltV ls x).part (1 : Nat)).asBool
 ((eltV ls x).part
 (2 : Nat)).asStr
 ((eltV ls x).part
 (3 : Nat)).asNil
 ((eltV ls x).part
 (3 : Nat)).asStrs
 ((eltV ls x).part
 (4 : Nat)).asNil
 (jdecs
 ((eltV ls x).part
 (4 : Nat)).asVec))
 (JV.mk ((eltV ls2 x).part (0 : Nat)).asInt
 ((eltV ls2 x).part (1 : Nat)).asBool
 ((eltV ls2 x).part
 (2 : Nat)).asStr
 ((eltV ls2 x).part
 (3 : Nat)).asNil
 ((eltV ls2 x).part
 (3 : Nat)).asStrs
 ((eltV ls2 x).part
 (4 : Nat)).asNil
 (jdecs
 ((eltV ls2 x).part
 (4 : Nat)).asVec))) =
 true →
 k (PV.bool false)) ∧
 ((!sameJ
 (JV.mk ((eltV ls x).part (0 : Nat)).asInt
 ((eltV ls x).part (1 : Nat)).asBool
 ((eltV ls x).part
 (2 : Nat)).asStr
 ((eltV ls x).part
 (3 : Nat)).asNil
 ((eltV ls x).part
 (3 : Nat)).asStrs
 ((eltV ls x).part
 (4 : Nat)).asNil
 (jdecs
 ((eltV ls x).part
 (4 : Nat)).asVec))
 (JV.mk ((eltV ls2 x).part (0 : Nat)).asInt
 ((eltV ls2 x).part (1 : Nat)).asBool
 ((eltV ls2 x).part
 (2 : Nat)).asStr
 ((eltV ls2 x).part
 (3 : Nat)).asNil
 ((eltV ls2 x).part
 (3 : Nat)).asStrs
 ((eltV ls2 x).part
 (4 : Nat)).asNil
 (jdecs
 ((eltV ls2 x).part
 (4 : Nat)).asVec))) =
 false →
 inI64 (x + (1 : Int)) ∧
 VS.mk []
 [(0,
 PV.agg
 [PV.int .i64 kd, PV.bool bv, PV.str sv,
 PV.row nk (BRow.strs ks) (0 : Nat), PV.vec nl (5 : Nat) ls (0 : Nat)]),
 (1,
 PV.agg
 [PV.int .i64 kd2, PV.bool bv2, PV.str sv2,
 PV.row nk2 (BRow.strs ks2) (0 : Nat), PV.vec nl2 (5 : Nat) ls2 (0 : Nat)]),
 (2, PV.int .i64 d), (3, PV.ptr ((3 : Nat) + (32 : Nat)) (0 : Nat)),
 (4, PV.ptr ((4 : Nat) + (32 : Nat)) (0 : Nat)), (6, PV.bool false),
 ((7 : Nat), PV.undef),
 (43,
 PV.bool
 (bif
 bif
 bif bif !decide (kd = kd2) then true else Bool.rec true false (bv == bv2) then true
 else !decide (sv = sv2) then
 true
 else !decide (lenZ ls = lenZ ls2) then
 true
 else !decide (ks = ks2))),
 (45, PV.bool (decide (d = (0 : Int)))), (52, PV.int .i64 (lenZ ls)),
 ((53 : Nat), PV.int .i64 (x + (1 : Int))), ((54 : Nat), PV.undef),
 ((69 : Nat), PV.undef)]
 [((4 : Nat) + (32 : Nat),
 PV.agg
 [PV.int .i64 kd2, PV.bool bv2, PV.str sv2,
 PV.row nk2 (BRow.strs ks2) (0 : Nat), PV.vec nl2 (5 : Nat) ls2 (0 : Nat)]),
 ((3 : Nat) + (32 : Nat),
 PV.agg
 [PV.int .i64 kd, PV.bool bv, PV.str sv,
 PV.row nk (BRow.strs ks) (0 : Nat), PV.vec nl (5 : Nat) ls (0 : Nat)])] =
 VS.mk []
 [(0,
 PV.agg
 [PV.int .i64 kd, PV.bool bv, PV.str sv,
 PV.row nk (BRow.strs ks) (0 : Nat), PV.vec nl (5 : Nat) ls (0 : Nat)]),
 (1,
 PV.agg
 [PV.int .i64 kd2, PV.bool bv2, PV.str sv2,
 PV.row nk2 (BRow.strs ks2) (0 : Nat), PV.vec nl2 (5 : Nat) ls2 (0 : Nat)]),
 (2, PV.int .i64 d), (3, PV.ptr ((3 : Nat) + (32 : Nat)) (0 : Nat)),
 (4, PV.ptr ((4 : Nat) + (32 : Nat)) (0 : Nat)), (6, PV.bool false),
 ((7 : Nat), PV.undef),
 (43,
 PV.bool
 (bif
 bif
 bif bif !decide (kd = kd2) then true else Bool.rec true false (bv == bv2) then true
 else !decide (sv = sv2) then
 true
 else !decide (lenZ ls = lenZ ls2) then
 true
 else !decide (ks = ks2))),
 (45, PV.bool (decide (d = (0 : Int)))), (52, PV.int .i64 (lenZ ls)),
 ((53 : Nat), PV.int .i64 (x + (1 : Int))), ((54 : Nat), PV.undef),
 ((69 : Nat), PV.undef)]
 [((4 : Nat) + (32 : Nat),
 PV.agg
 [PV.int .i64 kd2, PV.bool bv2, PV.str sv2,
 PV.row nk2 (BRow.strs ks2) (0 : Nat), PV.vec nl2 (5 : Nat) ls2 (0 : Nat)]),
 ((3 : Nat) + (32 : Nat),
 PV.agg
 [PV.int .i64 kd, PV.bool bv, PV.str sv,
 PV.row nk (BRow.strs ks) (0 : Nat), PV.vec nl (5 : Nat) ls (0 : Nat)])] ∧
 ((0 : Int) ≤ x + (1 : Int) ∧
 x + (1 : Int) ≤ ↑ls.length ∧
 ls.length = ls2.length ∧
 sameJs (List.drop (x + (1 : Int)).toNat (jdecs ls))
 (List.drop (x + (1 : Int)).toNat (jdecs ls2)) =
 sameJs (jdecs ls) (jdecs ls2)) ∧
 (↑ls.length - (x + (1 : Int))).toNat < (↑ls.length - x).toNat)) ∧
 (decide (x < lenZ ls) = false → k (PV.bool true))))) := by kernel_rfl
attribute [local irreducible] Go.Vc.evF
theorem ok_jsame (m : Nat) (ih : ∀ xs c, ent_jsame m xs = some c → FuncOk Try.prog noT 24 xs c) (kd : Int) (bv : Bool) (sv : Bs) (nk : Bool) (ks : List Bs) (nl : Bool) (ls : List PV) (kd2 : Int) (bv2 : Bool) (sv2 : Bs) (nk2 : Bool) (ks2 : List Bs) (nl2 : Bool) (ls2 : List PV) (d : Int) : FuncOk Try.prog noT 24 [.agg [.int .i64 kd, .bool bv, .str sv, .row nk (.strs ks) 0, .vec nl 5 ls 0], .agg [.int .i64 kd2, .bool bv2, .str sv2, .row nk2 (.strs ks2) 0, .vec nl2 5 ls2 0], .int .i64 d] ⟨isJs ls ∧ okJ (m + 1) (.mk kd bv sv nk ks nl (jdecs ls)) ∧ isJs ls2 ∧ (∃ q, okJ q (.mk kd2 bv2 sv2 nk2 ks2 nl2 (jdecs ls2))) ∧ (((m + 1) : Int) ≤ d ∧ d ≤ 1000000), .bool (sameJ (.mk kd bv sv nk ks nl (jdecs ls)) (.mk kd2 bv2 sv2 nk2 ks2 nl2 (jdecs ls2)))⟩ := evF_ok (by kernel_rfl) (X_jsame_ok m ih) (H := H_jsame m kd bv sv nk ks nl ls kd2 bv2 sv2 nk2 ks2 nl2 ls2 d) (fuel := 1000) Try.func24 (by kernel_rfl) fun hpre => (vc_jsame m kd bv sv nk ks nl ls kd2 bv2 sv2 nk2 ks2 nl2 ls2 d _).mpr (by
  obtain ⟨⟨js, rfl⟩, hok, ⟨js2, rfl⟩, ⟨q2, hok2⟩, hm, hd⟩ := hpre
  rw [jdecs_pvs] at hok hok2
  obtain ⟨hk, hs, hks, hkl, hls, hj⟩ := hok
  cases q2 with
  | zero => exact hok2.elim
  | succ q =>
  obtain ⟨hk2, hs2, hks2, hkl2, hls2, hj2⟩ := hok2
  simp only [JV.k, JV.s, JV.ks, JV.ls] at hk hs hks hkl hls hj hk2 hs2 hks2 hkl2 hls2 hj2
  have hml : bigJ = 140737488355328 := rfl
  simp only [jdecs_pvs, pvs_lenZ, pvs_length]
  refine ⟨fun _ => ⟨hks, hks2⟩, ?_⟩
  rw [head5]
  refine ⟨fun h => ?_, fun h => ?_⟩
  · show PV.bool _ = PV.bool _
    congr 1
    symm
    rw [Bool.eq_false_iff]
    intro e
    obtain ⟨e1, e2, e3, e4, e5⟩ := sameJ_e e
    have e6 := sameJs_len e5
    rw [decide_eq_true (show _ from ⟨e1, e2, e3, by omega, e4⟩)] at h; cases h
  have hE : kd = kd2 ∧ bv = bv2 ∧ sv = sv2 ∧ (js.length : Int) = js2.length ∧ ks = ks2 := by simpa using h
  obtain ⟨e1, e2, e3, e4, e5⟩ := hE
  rw [sameJ_r ⟨e1, e2, e3, e5⟩]
  refine ⟨fun h => ?_, fun h => ?_⟩
  · have hd0 : d = 0 := of_decide_eq_true h
    show PV.bool _ = PV.bool _
    omega
  have hd0 : ¬ d = 0 := of_decide_eq_false h
  refine ⟨trivial, ⟨by omega, by omega, by omega, rfl⟩, fun x hx => ?_⟩
  obtain ⟨h0, h1, h2, h3⟩ := hx
  obtain ⟨n, rfl⟩ := Int.eq_ofNat_of_zero_le h0
  rw [Int.toNat_natCast] at h3
  refine ⟨fun g => ?_, fun g => ?_⟩
  · have g1 : n < js.length := by have := of_decide_eq_true g; omega
    have g2 : n < js2.length := by omega
    have y1 := hj _ (List.getElem_mem g1)
    have y2 := hj2 _ (List.getElem_mem g2)
    simp only [elt_jv g1, elt_jv g2, jp0, jp1, jp2, jp3, jp3', jp4, jp4', jdecs_pvs, JV.eta']
    refine ⟨⟨by omega, by omega⟩, JV.pv_eq _, ⟨by omega, by omega⟩, JV.pv_eq _, by unfold inI64; omega, ⟨isJs_of _, y1, isJs_of _, ⟨_, y2⟩, by omega, by omega⟩, fun f => ?_, fun f => ?_⟩
    · show PV.bool _ = PV.bool _
      rw [← h3, sameJs_drop g1 g2, show sameJ js[n] js2[n] = false by simpa using f]; rfl
    · refine ⟨by unfold inI64; omega, trivial, ⟨by omega, by omega, by omega, ?_⟩, by omega⟩
      rw [show ((n : Int) + 1).toNat = n + 1 by omega, ← h3, sameJs_drop g1 g2, show sameJ js[n] js2[n] = true by simpa using f]; rfl
  · have : ¬ (n : Int) < js.length := of_decide_eq_false g
    show PV.bool _ = PV.bool _
    rw [← h3, List.drop_of_length_le (by omega), List.drop_of_length_le (by omega), sameJs])
theorem ent_jsame_ok : ∀ (n : Nat) xs c, ent_jsame n xs = some c → FuncOk Try.prog noT 24 xs c
  | 0, xs, c, h => by
    unfold ent_jsame at h
    split at h
    · injection h with h; subst h; exact .of_plain rfl fun hp => False.elim (hp.2.1)
    · cases h
  | m + 1, xs, c, h => by
    unfold ent_jsame at h
    split at h
    · injection h with h; subst h; exact ok_jsame m (ent_jsame_ok m) _ _ _ _ _ _ _ _ _ _ _ _ _ _ _
    · cases h
def entA_jsame : List PV → Option CallR := fun xs => match xs with
  | [.agg [.int .i64 kd, .bool bv, .str sv, .row nk (.strs ks) 0, .vec nl 5 ls 0], .agg [.int .i64 kd2, .bool bv2, .str sv2, .row nk2 (.strs ks2) 0, .vec nl2 5 ls2 0], .int .i64 d] => some ⟨∃ dn : Nat, isJs ls ∧ okJ dn (.mk kd bv sv nk ks nl (jdecs ls)) ∧ isJs ls2 ∧ (∃ q, okJ q (.mk kd2 bv2 sv2 nk2 ks2 nl2 (jdecs ls2))) ∧ ((dn : Int) ≤ d ∧ d ≤ 1000000), .bool (sameJ (.mk kd bv sv nk ks nl (jdecs ls)) (.mk kd2 bv2 sv2 nk2 ks2 nl2 (jdecs ls2)))⟩
  | _ => none
theorem entA_jsame_ok : ∀ xs c, entA_jsame xs = some c → FuncOk Try.prog noT 24 xs c := fun xs c h => by
  unfold entA_jsame at h
  split at h
  · injection h with h; subst h; exact exI fun n => ent_jsame_ok n _ _ rfl
  · cases h
end
section
def X_gsame : Tbl := tblX [(24, entA_jsame)]
def H_gsame (kd : Int) (bv : Bool) (sv : Bs) (nk : Bool) (ks : List Bs) (nl : Bool) (ls : List PV) (kd2 : Int) (bv2 : Bool) (sv2 : Bs) (nk2 : Bool) (ks2 : List Bs) (nl2 : Bool) (ls2 : List PV) : Loops := fun i => none
theorem X_gsame_ok : XOk Try.prog noT X_gsame := tblX_cons entA_jsame_ok (tblX_nil)
theorem vc_gsame (kd : Int) (bv : Bool) (sv : Bs) (nk : Bool) (ks : List Bs) (nl : Bool) (ls : List PV) (kd2 : Int) (bv2 : Bool) (sv2 : Bs) (nk2 : Bool) (ks2 : List Bs) (nl2 : Bool) (ls2 : List PV) (k : PV → Prop) : evF Try.prog X_gsame noT (H_gsame kd bv sv nk ks nl ls kd2 bv2 sv2 nk2 ks2 nl2 ls2) 1000 Try.f15 [.agg [.int .i64 kd, .bool bv, .str sv, .row nk (.strs ks) 0, .vec nl 5 ls 0], .agg [.int .i64 kd2, .bool bv2, .str sv2, .row nk2 (.strs ks2) 0, .vec nl2 5 ls2 0]] k = (
  (∃ (dn : Nat),
 isJs ls ∧
 okJ dn (JV.mk kd bv sv nk ks nl (jdecs ls)) ∧
 isJs ls2 ∧
 (∃ (q : Nat), okJ q (JV.mk kd2 bv2 sv2 nk2 ks2 nl2 (jdecs ls2))) ∧
 ↑dn ≤ (65536 : Int) ∧ (65536 : Int) ≤ (1000000 : Int)) ∧
 k
 (PV.bool
 (sameJ (JV.mk kd bv sv nk ks nl (jdecs ls)) (JV.mk kd2 bv2 sv2 nk2 ks2 nl2 (jdecs ls2))))) := by kernel_rfl
attribute [local irreducible] Go.Vc.evF
theorem ok_gsame (kd : Int) (bv : Bool) (sv : Bs) (nk : Bool) (ks : List Bs) (nl : Bool) (ls : List PV) (kd2 : Int) (bv2 : Bool) (sv2 : Bs) (nk2 : Bool) (ks2 : List Bs) (nl2 : Bool) (ls2 : List PV) : FuncOk Try.prog noT 15 [.agg [.int .i64 kd, .bool bv, .str sv, .row nk (.strs ks) 0, .vec nl 5 ls 0], .agg [.int .i64 kd2, .bool bv2, .str sv2, .row nk2 (.strs ks2) 0, .vec nl2 5 ls2 0]] ⟨isJs ls ∧ okJ 65536 (.mk kd bv sv nk ks nl (jdecs ls)) ∧ isJs ls2 ∧ (∃ q, okJ q (.mk kd2 bv2 sv2 nk2 ks2 nl2 (jdecs ls2))), .bool (sameJ (.mk kd bv sv nk ks nl (jdecs ls)) (.mk kd2 bv2 sv2 nk2 ks2 nl2 (jdecs ls2)))⟩ := evF_ok (by kernel_rfl) X_gsame_ok (H := H_gsame kd bv sv nk ks nl ls kd2 bv2 sv2 nk2 ks2 nl2 ls2) (fuel := 1000) Try.func15 (by kernel_rfl) fun hpre => (vc_gsame kd bv sv nk ks nl ls kd2 bv2 sv2 nk2 ks2 nl2 ls2 _).mpr (by
  obtain ⟨h1, h2, h3, h4⟩ := hpre
  exact ⟨⟨65536, h1, h2, h3, h4, by omega, by omega⟩, rfl⟩)
def ent_gsame : List PV → Option CallR := fun xs => match xs with
  | [.agg [.int .i64 kd, .bool bv, .str sv, .row nk (.strs ks) 0, .vec nl 5 ls 0], .agg [.int .i64 kd2, .bool bv2, .str sv2, .row nk2 (.strs ks2) 0, .vec nl2 5 ls2 0]] => some ⟨isJs ls ∧ okJ 65536 (.mk kd bv sv nk ks nl (jdecs ls)) ∧ isJs ls2 ∧ (∃ q, okJ q (.mk kd2 bv2 sv2 nk2 ks2 nl2 (jdecs ls2))), .bool (sameJ (.mk kd bv sv nk ks nl (jdecs ls)) (.mk kd2 bv2 sv2 nk2 ks2 nl2 (jdecs ls2)))⟩
  | _ => none
theorem ent_gsame_ok : ∀ xs c, ent_gsame xs = some c → FuncOk Try.prog noT 15 xs c := fun xs c h => by
  unfold ent_gsame at h
  split at h
  · injection h with h; subst h; exact ok_gsame _ _ _ _ _ _ _ _ _ _ _ _ _ _
  · cases h
end
section
def ent_rsame (dn : Nat) : List PV → Option CallR := fun xs => match xs with
  | [.agg [.int .i64 kd, .bool bv, .str sv, .row nk (.strs ks) 0, .vec nl 5 ls 0], .agg [.int .i64 kd2, .bool bv2, .str sv2, .row nk2 (.strs ks2) 0, .vec nl2 5 ls2 0]] => some ⟨isJs ls ∧ okJ dn (.mk kd bv sv nk ks nl (jdecs ls)) ∧ isJs ls2 ∧ (∃ q, okJ q (.mk kd2 bv2 sv2 nk2 ks2 nl2 (jdecs ls2))), .bool (sameJ (.mk kd bv sv nk ks nl (jdecs ls)) (.mk kd2 bv2 sv2 nk2 ks2 nl2 (jdecs ls2)))⟩
  | _ => none
def X_rsame (m : Nat) : Tbl := tblX [(16, ent_rsame m)]
def H_rsame (m : Nat) (kd : Int) (bv : Bool) (sv : Bs) (nk : Bool) (ks : List Bs) (nl : Bool) (ls : List PV) (kd2 : Int) (bv2 : Bool) (sv2 : Bs) (nk2 : Bool) (ks2 : List Bs) (nl2 : Bool) (ls2 : List PV) : Loops := fun i => bif Nat.beq i 4 then some ⟨(Int), (fun s x => (((s.put 5 (.int .i64 x)).put 48 .undef).put 61 .undef)), (fun s => s.int 5), (fun s x => let i := x; 0 ≤ i ∧ i ≤ ks.length ∧ ks.length = ks2.length ∧ ks.take i.toNat = ks2.take i.toNat), (fun s x => let i := x; ((ks.length : Int) - i).toNat), [48, 61]⟩ else bif Nat.beq i 9 then some ⟨(Int), (fun s x => (((s.put 6 (.int .i64 x)).put 66 .undef).put 80 .undef)), (fun s => s.int 6), (fun s x => let i := x; 0 ≤ i ∧ i ≤ ls.length ∧ ls.length = ls2.length ∧ sameJs ((jdecs ls).drop i.toNat) ((jdecs ls2).drop i.toNat) = sameJs (jdecs ls) (jdecs ls2)), (fun s x => let i := x; ((ls.length : Int) - i).toNat), [66, 80]⟩ else none
theorem X_rsame_ok (m : Nat) (ih : ∀ xs c, ent_rsame m xs = some c → FuncOk Try.prog noT 16 xs c) : XOk Try.prog noT (X_rsame m) := tblX_cons ih (tblX_nil)
theorem vc_rsame (m : Nat) (kd : Int) (bv : Bool) (sv : Bs) (nk : Bool) (ks : List Bs) (nl : Bool) (ls : List PV) (kd2 : Int) (bv2 : Bool) (sv2 : Bs) (nk2 : Bool) (ks2 : List Bs) (nl2 : Bool) (ls2 : List PV) (k : PV → Prop) : evF Try.prog (X_rsame m) noT (H_rsame m kd bv sv nk ks nl ls kd2 bv2 sv2 nk2 ks2 nl2 ls2) 1000 Try.f16 [.agg [.int .i64 kd, .bool bv, .str sv, .row nk (.strs ks) 0, .vec nl 5 ls 0], .agg [.int .i64 kd2, .bool bv2, .str sv2, .row nk2 (.strs ks2) 0, .vec nl2 5 ls2 0]] k = (
  ((bif
 bif bif bif !decide (kd = kd2) then true else Bool.rec true false (bv == bv2) then true else !decide (sv = sv2) then true
 else !decide (Int.ofNat ks.length = Int.ofNat ks2.length) then
 true
 else !decide (lenZ ls = lenZ ls2)) =
 true →
 k (PV.bool false)) ∧
 ((bif
 bif bif bif !decide (kd = kd2) then true else Bool.rec true false (bv == bv2) then true else !decide (sv = sv2) then true
 else !decide (Int.ofNat ks.length = Int.ofNat ks2.length) then
 true
 else !decide (lenZ ls = lenZ ls2)) =
 false →
 VS.mk []
 [(0,
 PV.agg
 [PV.int .i64 kd, PV.bool bv, PV.str sv, PV.row nk (BRow.strs ks) (0 : Nat),
 PV.vec nl (5 : Nat) ls (0 : Nat)]),
 (1,
 PV.agg
 [PV.int .i64 kd2, PV.bool bv2, PV.str sv2, PV.row nk2 (BRow.strs ks2) (0 : Nat),
 PV.vec nl2 (5 : Nat) ls2 (0 : Nat)]),
 (2, PV.ptr ((2 : Nat) + (32 : Nat)) (0 : Nat)), (3, PV.ptr ((3 : Nat) + (32 : Nat)) (0 : Nat)),
 (4, PV.bool false), (5, PV.int .i64 (0 : Int)), (6, PV.undef),
 (43,
 PV.bool
 (bif
 bif bif bif !decide (kd = kd2) then true else Bool.rec true false (bv == bv2) then true else !decide (sv = sv2) then true
 else !decide (Int.ofNat ks.length = Int.ofNat ks2.length) then
 true
 else !decide (lenZ ls = lenZ ls2))),
 ((48 : Nat), PV.undef), ((61 : Nat), PV.undef), (66, PV.undef), (80, PV.undef)]
 [((3 : Nat) + (32 : Nat),
 PV.agg
 [PV.int .i64 kd2, PV.bool bv2, PV.str sv2, PV.row nk2 (BRow.strs ks2) (0 : Nat),
 PV.vec nl2 (5 : Nat) ls2 (0 : Nat)]),
 ((2 : Nat) + (32 : Nat),
 PV.agg
 [PV.int .i64 kd, PV.bool bv, PV.str sv, PV.row nk (BRow.strs ks) (0 : Nat),
 PV.vec nl (5 : Nat) ls (0 : Nat)])] =
 VS.mk []
 [(0,
 PV.agg
 [PV.int .i64 kd, PV.bool bv, PV.str sv, PV.row nk (BRow.strs ks) (0 : Nat),
 PV.vec nl (5 : Nat) ls (0 : Nat)]),
 (1,
 PV.agg
 [PV.int .i64 kd2, PV.bool bv2, PV.str sv2, PV.row nk2 (BRow.strs ks2) (0 : Nat),
 PV.vec nl2 (5 : Nat) ls2 (0 : Nat)]),
 (2, PV.ptr ((2 : Nat) + (32 : Nat)) (0 : Nat)), (3, PV.ptr ((3 : Nat) + (32 : Nat)) (0 : Nat)),
 (4, PV.bool false), ((5 : Nat), PV.int .i64 (0 : Int)), (6, PV.undef),
 (43,
 PV.bool
 (bif
 bif bif bif !decide (kd = kd2) then true else Bool.rec true false (bv == bv2) then true else !decide (sv = sv2) then true
 else !decide (Int.ofNat ks.length = Int.ofNat ks2.length) then
 true
 else !decide (lenZ ls = lenZ ls2))),
 ((48 : Nat), PV.undef), ((61 : Nat), PV.undef), (66, PV.undef), (80, PV.undef)]
 [((3 : Nat) + (32 : Nat),
 PV.agg
 [PV.int .i64 kd2, PV.bool bv2, PV.str sv2, PV.row nk2 (BRow.strs ks2) (0 : Nat),
 PV.vec nl2 (5 : Nat) ls2 (0 : Nat)]),
 ((2 : Nat) + (32 : Nat),
 PV.agg
 [PV.int .i64 kd, PV.bool bv, PV.str sv, PV.row nk (BRow.strs ks) (0 : Nat),
 PV.vec nl (5 : Nat) ls (0 : Nat)])] ∧
 ((0 : Int) ≤ (0 : Int) ∧ (0 : Int) ≤ ↑ks.length ∧ ks.length = ks2.length ∧ List.take (Int.toNat (0 : Int)) ks = List.take (Int.toNat (0 : Int)) ks2) ∧
 ∀ (x : Int),
 (0 : Int) ≤ x ∧ x ≤ ↑ks.length ∧ ks.length = ks2.length ∧ List.take x.toNat ks = List.take x.toNat ks2 →
 (decide (x < Int.ofNat ks.length) = true →
 within x (Int.ofNat ks.length) ∧
 within x (Int.ofNat ks2.length) ∧
 ((!decide (strZ ks x = strZ ks2 x)) = true → k (PV.bool false)) ∧
 ((!decide (strZ ks x = strZ ks2 x)) = false →
 inI64 (x + (1 : Int)) ∧
 VS.mk []
 [(0,
 PV.agg
 [PV.int .i64 kd, PV.bool bv, PV.str sv, PV.row nk (BRow.strs ks) (0 : Nat),
 PV.vec nl (5 : Nat) ls (0 : Nat)]),
 (1,
 PV.agg
 [PV.int .i64 kd2, PV.bool bv2, PV.str sv2, PV.row nk2 (BRow.strs ks2) (0 : Nat),
 PV.vec nl2 (5 : Nat) ls2 (0 : Nat)]),
 (2, PV.ptr ((2 : Nat) + (32 : Nat)) (0 : Nat)), (3, PV.ptr ((3 : Nat) + (32 : Nat)) (0 : Nat)),
 (4, PV.bool false), ((5 : Nat), PV.int .i64 (x + (1 : Int))), (6, PV.undef),
 (43,
 PV.bool
 (bif
 bif bif bif !decide (kd = kd2) then true else Bool.rec true false (bv == bv2) then true else !decide (sv = sv2) then
 true
 else !decide (Int.ofNat ks.length = Int.ofNat ks2.length) then
 true
 else !decide (lenZ ls = lenZ ls2))),
 ((48 : Nat), PV.undef), ((61 : Nat), PV.undef), (66, PV.undef), (80, PV.undef)]
 [((3 : Nat) + (32 : Nat),
 PV.agg
 [PV.int .i64 kd2, PV.bool bv2, PV.str sv2, PV.row nk2 (BRow.strs ks2) (0 : Nat),
 PV.vec nl2 (5 : Nat) ls2 (0 : Nat)]),
 ((2 : Nat) + (32 : Nat),
 PV.agg
 [PV.int .i64 kd, PV.bool bv, PV.str sv, PV.row nk (BRow.strs ks) (0 : Nat),
 PV.vec nl (5 : Nat) ls (0 : Nat)])] =
 VS.mk []
 [(0,
 PV.agg
 [PV.int .i64 kd, PV.bool bv, PV.str sv, PV.row nk (BRow.strs ks) (0 : Nat),
 PV.vec nl (5 : Nat) ls (0 : Nat)]),
 (1,
 PV.agg
 [PV.int .i64 kd2, PV.bool bv2, PV.str sv2, PV.row nk2 (BRow.strs ks2) (0 : Nat),
 PV.vec nl2 (5 : Nat) ls2 (0 : Nat)]),
 (2, PV.ptr ((2 : Nat) + (32 : Nat)) (0 : Nat)), (3, PV.ptr ((3 : Nat) + (32 : Nat)) (0 : Nat)),
 (4, PV.bool false), ((5 : Nat), PV.int .i64 (x + (1 : Int))), (6, PV.undef),
 (43,
 PV.bool
 (bif
 bif bif bif !decide (kd = kd2) then true else Bool.rec true false (bv == bv2) then true else !decide (sv = sv2) then
 true
 else !decide (Int.ofNat ks.length = Int.ofNat ks2.length) then
 true
 else !decide (lenZ ls = lenZ ls2))),
 ((48 : Nat), PV.undef), ((61 : Nat), PV.undef), (66, PV.undef), (80, PV.undef)]
 [((3 : Nat) + (32 : Nat),
 PV.agg
 [PV.int .i64 kd2, PV.bool bv2, PV.str sv2, PV.row nk2 (BRow.strs ks2) (0 : Nat),
 PV.vec nl2 (5 : Nat) ls2 (0 : Nat)]),
 ((2 : Nat) + (32 : Nat),
 PV.agg
 [PV.int .i64 kd, PV.bool bv, PV.str sv, PV.row nk (BRow.strs ks) (0 : Nat),
 PV.vec nl (5 : Nat) ls (0 : Nat)])] ∧
 ((0 : Int) ≤ x + (1 : Int) ∧
 x + (1 : Int) ≤ ↑ks.length ∧
 ks.length = ks2.length ∧ List.take (x + (1 : Int)).toNat ks = List.take (x + (1 : Int)).toNat ks2) ∧
 (↑ks.length - (x + (1 : Int))).toNat < (↑ks.length - x).toNat)) ∧
 (decide (x < Int.ofNat ks.length) = false →
 VS.mk []
 [(0,
 PV.agg
 [PV.int .i64 kd, PV.bool bv, PV.str sv, PV.row nk (BRow.strs ks) (0 : Nat),
 PV.vec nl (5 : Nat) ls (0 : Nat)]),
 (1,
 PV.agg
 [PV.int .i64 kd2, PV.bool bv2, PV.str sv2, PV.row nk2 (BRow.strs ks2) (0 : Nat),
 PV.vec nl2 (5 : Nat) ls2 (0 : Nat)]),
 (2, PV.ptr ((2 : Nat) + (32 : Nat)) (0 : Nat)), (3, PV.ptr ((3 : Nat) + (32 : Nat)) (0 : Nat)),
 (4, PV.bool false), ((5 : Nat), PV.int .i64 x), (6, PV.int .i64 (0 : Int)),
 (43,
 PV.bool
 (bif
 bif bif bif !decide (kd = kd2) then true else Bool.rec true false (bv == bv2) then true else !decide (sv = sv2) then true
 else !decide (Int.ofNat ks.length = Int.ofNat ks2.length) then
 true
 else !decide (lenZ ls = lenZ ls2))),
 ((48 : Nat), PV.bool (decide (x < Int.ofNat ks.length))), ((61 : Nat), PV.undef), ((66 : Nat), PV.undef),
 ((80 : Nat), PV.undef)]
 [((3 : Nat) + (32 : Nat),
 PV.agg
 [PV.int .i64 kd2, PV.bool bv2, PV.str sv2, PV.row nk2 (BRow.strs ks2) (0 : Nat),
 PV.vec nl2 (5 : Nat) ls2 (0 : Nat)]),
 ((2 : Nat) + (32 : Nat),
 PV.agg
 [PV.int .i64 kd, PV.bool bv, PV.str sv, PV.row nk (BRow.strs ks) (0 : Nat),
 PV.vec nl (5 : Nat) ls (0 : Nat)])] =
 VS.mk []
 [(0,
 PV.agg
 [PV.int .i64 kd, PV.bool bv, PV.str sv, PV.row nk (BRow.strs ks) (0 : Nat),
 PV.vec nl (5 : Nat) ls (0 : Nat)]),
 (1,
 PV.agg
 [PV.int .i64 kd2, PV.bool bv2, PV.str sv2, PV.row nk2 (BRow.strs ks2) (0 : Nat),
 PV.vec nl2 (5 : Nat) ls2 (0 : Nat)]),
 (2, PV.ptr ((2 : Nat) + (32 : Nat)) (0 : Nat)), (3, PV.ptr ((3 : Nat) + (32 : Nat)) (0 : Nat)),
 (4, PV.bool false), ((5 : Nat), PV.int .i64 x), ((6 : Nat), PV.int .i64 (0 : Int)),
 (43,
 PV.bool
 (bif
 bif bif bif !decide (kd = kd2) then true else Bool.rec true false (bv == bv2) then true else !decide (sv = sv2) then true
 else !decide (Int.ofNat ks.length = Int.ofNat ks2.length) then
 true
 else !decide (lenZ ls = lenZ ls2))),
 ((48 : Nat), PV.bool (decide (x < Int.ofNat ks.length))), ((61 : Nat), PV.undef), ((66 : Nat), PV.undef),
 ((80 : Nat), PV.undef)]
 [((3 : Nat) + (32 : Nat),
 PV.agg
 [PV.int .i64 kd2, PV.bool bv2, PV.str sv2, PV.row nk2 (BRow.strs ks2) (0 : Nat),
 PV.vec nl2 (5 : Nat) ls2 (0 : Nat)]),
 ((2 : Nat) + (32 : Nat),
 PV.agg
 [PV.int .i64 kd, PV.bool bv, PV.str sv, PV.row nk (BRow.strs ks) (0 : Nat),
 PV.vec nl (5 : Nat) ls (0 : Nat)])] ∧
 ((0 : Int) ≤ (0 : Int) ∧
 (0 : Int) ≤ ↑ls.length ∧
 ls.length = ls2.length ∧
 sameJs (List.drop (Int.toNat (0 : Int)) (jdecs ls))
 (List.drop (Int.toNat (0 : Int)) (jdecs ls2)) =
 sameJs (jdecs ls) (jdecs ls2)) ∧
 ∀ (x_1 : Int),
 (0 : Int) ≤ x_1 ∧
 x_1 ≤ ↑ls.length ∧
 ls.length = ls2.length ∧
 sameJs (List.drop x_1.toNat (jdecs ls)) (List.drop x_1.toNat (jdecs ls2)) =
 sameJs (jdecs ls) (jdecs ls2) →
 (decide (x_1 < lenZ ls) = true →
 within x_1 (lenZ ls) ∧
 eltV ls x_1 =
 PV.agg
 [PV.int .i64
 ((eltV ls x_1).part (0 : Nat)).asInt,
 PV.bool
 ((eltV ls x_1).part (1 : Nat)).asBool,
 PV.str
 ((eltV ls x_1).part
 (2 : Nat)).asStr,
 PV.row
 ((eltV ls x_1).part
 (3 : Nat)).asNil
 (BRow.strs
 ((eltV ls x_1).part
 (3 : Nat)).asStrs)
 (0 : Nat),
 PV.vec
 ((eltV ls x_1).part
 (4 : Nat)).asNil
 (nat_lit 5)
 ((eltV ls x_1).part
 (4 : Nat)).asVec
 (0 : Nat)] ∧
 within x_1 (lenZ ls2) ∧
 eltV ls2 x_1 =
 PV.agg
 [PV.int .i64
 ((eltV ls2 x_1).part (0 : Nat)).asInt,
 PV.bool
 ((eltV ls2 x_1).part (1 : Nat)).asBool,
 PV.str
 ((eltV ls2 x_1).part
 (2 : Nat)).asStr,
 PV.row
 ((eltV ls2 x_1).part
 (3 : Nat)).asNil
 (BRow.strs
 ((eltV ls2 x_1).part
 (3 : Nat)).asStrs)
 (0 : Nat),
 PV.vec
 ((eltV ls2 x_1).part
 (4 : Nat)).asNil
 (nat_lit 5)
 ((eltV ls2 x_1).part
 (4 : Nat)).asVec
 (0 : Nat)] ∧
 (isJs
 ((eltV ls x_1).part
 (4 : Nat)).asVec ∧
 okJ m
 (JV.mk ((eltV ls x_1).part (0 : Nat)).asInt
 ((eltV ls x_1).part (1 : Nat)).asBool
 ((eltV ls x_1).part
 (2 : Nat)).asStr
 ((eltV ls x_1).part
 (3 : Nat)).asNil
 ((eltV ls x_1).part
 (3 : Nat)).asStrs
 ((eltV ls x_1).part
 (4 : Nat)).asNil
 (jdecs
 ((eltV ls x_1).part
 (4 : Nat)).asVec)) ∧
 isJs
 ((eltV ls2 x_1).part
 (4 : Nat)).asVec ∧
 ∃ (q : Nat),
 okJ q
 (JV.mk
 ((eltV ls2 x_1).part (0 : Nat)).asInt
 ((eltV ls2 x_1).part
 (1 : Nat)).asBool
 ((eltV ls2 x_1).part
 (2 : Nat)).asStr
 ((eltV ls2 x_1).part
 (3 : Nat)).asNil
 ((eltV ls2 x_1).part
 (3 : Nat)).asStrs
 ((eltV ls2 x_1).part
 (4 : Nat)).asNil
 (jdecs
 ((eltV ls2 x_1).part
 (4 : Nat)).asVec))) ∧
 ((!sameJ
 (JV.mk
 ((eltV ls x_1).part (0 : Nat)).asInt
 ((eltV ls x_1).part (1 : Nat)).asBool
 ((eltV ls x_1).part
 (2 : Nat)).asStr
 ((eltV ls x_1).part
 (3 : Nat)).asNil
 ((eltV ls x_1).part
 (3 : Nat)).asStrs
 ((eltV ls x_1).part
 (4 : Nat)).asNil
 (jdecs
 ((eltV ls x_1).part
 (4 : Nat)).asVec))
 (JV.mk
 ((eltV ls2 x_1).part (0 : Nat)).asInt
 ((eltV ls2 x_1).part
 (1 : Nat)).asBool
 ((eltV ls2 x_1).part
 (2 : Nat)).asStr
 ((eltV ls2 x_1).part
 (3 : Nat)).asNil
 ((eltV ls2 x_1).part
 (3 : Nat)).asStrs
 ((eltV ls2 x_1).part
 (4 : Nat)).asNil
 (jdecs
 ((eltV ls2 x_1).part
 (4 : Nat)).asVec))) =
 true →
 k (PV.bool false)) ∧
 ((!sameJ
 (JV.mk
 ((eltV ls x_1).part (0 : Nat)).asInt
 ((eltV ls x_1).part (1 : Nat)).asBool
 ((eltV ls x_1).part
 (2 : Nat)).asStr
 ((eltV ls x_1).part
 (3 : Nat)).asNil
 ((eltV ls x_1).part
 (3 : Nat)).asStrs
 ((eltV ls x_1).part
 (4 : Nat)).asNil
 (jdecs
 ((eltV ls x_1).part
 (4 : Nat)).asVec))
 (JV.mk
 ((eltV ls2 x_1).part (0 : Nat)).asInt
 ((eltV ls2 x_1).part
 (1 : Nat)).asBool
 ((eltV ls2 x_1).part
 (2 : Nat)).asStr
 ((eltV ls2 x_1).part
 (3 : Nat)).asNil
 ((eltV ls2 x_1).part
 (3 : Nat)).asStrs
 ((eltV ls2 x_1).part
 (4 : Nat)).asNil
 (jdecs
 ((eltV ls2 x_1).part
 (4 : Nat)).asVec))) =
 false →
 inI64 (x_1 + (1 : Int)) ∧
 VS.mk []
 [(0,
 PV.agg
 [PV.int .i64 kd, PV.bool bv, PV.str sv,
 PV.row nk (BRow.strs ks) (0 : Nat), PV.vec nl (5 : Nat) ls (0 : Nat)]),
 (1,
 PV.agg
 [PV.int .i64 kd2, PV.bool bv2, PV.str sv2,
 PV.row nk2 (BRow.strs ks2) (0 : Nat), PV.vec nl2 (5 : Nat) ls2 (0 : Nat)]),
 (2, PV.ptr ((2 : Nat) + (32 : Nat)) (0 : Nat)),
 (3, PV.ptr ((3 : Nat) + (32 : Nat)) (0 : Nat)), (4, PV.bool false),
 ((5 : Nat), PV.int .i64 x), ((6 : Nat), PV.int .i64 (x_1 + (1 : Int))),
 (43,
 PV.bool
 (bif
 bif
 bif bif !decide (kd = kd2) then true else Bool.rec true false (bv == bv2) then true
 else !decide (sv = sv2) then
 true
 else !decide (Int.ofNat ks.length = Int.ofNat ks2.length) then
 true
 else !decide (lenZ ls = lenZ ls2))),
 ((48 : Nat), PV.bool (decide (x < Int.ofNat ks.length))), ((61 : Nat), PV.undef),
 ((66 : Nat), PV.undef), ((80 : Nat), PV.undef)]
 [((3 : Nat) + (32 : Nat),
 PV.agg
 [PV.int .i64 kd2, PV.bool bv2, PV.str sv2,
 PV.row nk2 (BRow.strs ks2) (0 : Nat), PV.vec nl2 (5 : Nat) ls2 (0 : Nat)]),
 ((2 : Nat) + (32 : Nat),
 PV.agg
 [PV.int .i64 kd, PV.bool bv, PV.str sv,
 PV.row nk (BRow.strs ks) (0 : Nat), PV.vec nl (5 : Nat) ls (0 : Nat)])] =
 VS.mk []
 [(0,
 PV.agg
 [PV.int .i64 kd, PV.bool bv, PV.str sv,
 PV.row nk (BRow.strs ks) (0 : Nat), PV.vec nl (5 : Nat) ls (0 : Nat)]),
 (1,
 PV.agg
 [PV.int .i64 kd2, PV.bool bv2, PV.str sv2,
 PV.row nk2 (BRow.strs ks2) (0 : Nat), PV.vec nl2 (5 : Nat) ls2 (0 : Nat)]),
 (2, PV.ptr ((2 : Nat) + (32 : Nat)) (0 : Nat)),
 (3, PV.ptr ((3 : Nat) + (32 : Nat)) (0 : Nat)), (4, PV.bool false),
 ((5 : Nat), PV.int .i64 x), ((6 : Nat), PV.int .i64 (x_1 + (1 : Int))),
 (43,
 PV.bool
 (bif
 bif
 bif bif !decide (kd = kd2) then true else Bool.rec true false (bv == bv2) then true
 else !decide (sv = sv2) then
 true
 else !decide (Int.ofNat ks.length = Int.ofNat ks2.length) then
 true
 else !decide (lenZ ls = lenZ ls2))),
 ((48 : Nat), PV.bool (decide (x < Int.ofNat ks.length))), ((61 : Nat), PV.undef),
 ((66 : Nat), PV.undef), ((80 : Nat), PV.undef)]
 [((3 : Nat) + (32 : Nat),
 PV.agg
 [PV.int .i64 kd2, PV.bool bv2, PV.str sv2,
 PV.row nk2 (BRow.strs ks2) (0 : Nat), PV.vec nl2 (5 : Nat) ls2 (0 : Nat)]),
 ((2 : Nat) + (32 : Nat),
 PV.agg
 [PV.int .i64 kd, PV.bool bv, PV.str sv,
 PV.row nk (BRow.strs ks) (0 : Nat), PV.vec nl (5 : Nat) ls (0 : Nat)])] ∧
 ((0 : Int) ≤ x_1 + (1 : Int) ∧
 x_1 + (1 : Int) ≤ ↑ls.length ∧
 ls.length = ls2.length ∧
 sameJs (List.drop (x_1 + (1 : Int)).toNat (jdecs ls))
 (List.drop (x_1 + (1 : Int)).toNat (jdecs ls2)) =
 sameJs (jdecs ls) (jdecs ls2)) ∧
 (↑ls.length - (x_1 + (1 : Int))).toNat < (↑ls.length - x_1).toNat)) ∧
 (decide (x_1 < lenZ ls) = false → k (PV.bool true))))) := by kernel_rfl
attribute [local irreducible] Go.Vc.evF
theorem ok_rsame (m : Nat) (ih : ∀ xs c, ent_rsame m xs = some c → FuncOk Try.prog noT 16 xs c) (kd : Int) (bv : Bool) (sv : Bs) (nk : Bool) (ks : List Bs) (nl : Bool) (ls : List PV) (kd2 : Int) (bv2 : Bool) (sv2 : Bs) (nk2 : Bool) (ks2 : List Bs) (nl2 : Bool) (ls2 : List PV) : FuncOk Try.prog noT 16 [.agg [.int .i64 kd, .bool bv, .str sv, .row nk (.strs ks) 0, .vec nl 5 ls 0], .agg [.int .i64 kd2, .bool bv2, .str sv2, .row nk2 (.strs ks2) 0, .vec nl2 5 ls2 0]] ⟨isJs ls ∧ okJ (m + 1) (.mk kd bv sv nk ks nl (jdecs ls)) ∧ isJs ls2 ∧ (∃ q, okJ q (.mk kd2 bv2 sv2 nk2 ks2 nl2 (jdecs ls2))), .bool (sameJ (.mk kd bv sv nk ks nl (jdecs ls)) (.mk kd2 bv2 sv2 nk2 ks2 nl2 (jdecs ls2)))⟩ := evF_ok (by kernel_rfl) (X_rsame_ok m ih) (H := H_rsame m kd bv sv nk ks nl ls kd2 bv2 sv2 nk2 ks2 nl2 ls2) (fuel := 1000) Try.func16 (by kernel_rfl) fun hpre => (vc_rsame m kd bv sv nk ks nl ls kd2 bv2 sv2 nk2 ks2 nl2 ls2 _).mpr (by
  obtain ⟨⟨js, rfl⟩, hok, ⟨js2, rfl⟩, ⟨q2, hok2⟩⟩ := hpre
  rw [jdecs_pvs] at hok hok2
  obtain ⟨hk, hs, hks, hkl, hls, hj⟩ := hok
  cases q2 with
  | zero => exact hok2.elim
  | succ q =>
  obtain ⟨hk2, hs2, hks2, hkl2, hls2, hj2⟩ := hok2
  simp only [JV.k, JV.s, JV.ks, JV.ls] at hk hs hks hkl hls hj hk2 hs2 hks2 hkl2 hls2 hj2
  have hml : bigJ = 140737488355328 := rfl
  have ek : Int.ofNat ks.length = (ks.length : Int) := rfl
  have ek2 : Int.ofNat ks2.length = (ks2.length : Int) := rfl
  simp only [jdecs_pvs, pvs_lenZ, pvs_length]
  rw [head5]
  refine ⟨fun h => ?_, fun h => ?_⟩
  · show PV.bool _ = PV.bool _
    congr 1
    symm
    rw [Bool.eq_false_iff]
    intro e
    obtain ⟨e1, e2, e3, e4, e5⟩ := sameJ_e e
    have e6 := sameJs_len e5
    rw [decide_eq_true (show _ from ⟨e1, e2, e3, by rw [e4], by omega⟩)] at h; cases h
  have hE : kd = kd2 ∧ bv = bv2 ∧ sv = sv2 ∧ Int.ofNat ks.length = Int.ofNat ks2.length ∧ (js.length : Int) = js2.length := by simpa using h
  obtain ⟨e1, e2, e3, e4, e5⟩ := hE
  refine ⟨trivial, ⟨by omega, by omega, by omega, rfl⟩, fun x hx => ?_⟩
  obtain ⟨h0, h1, h2, h3⟩ := hx
  obtain ⟨n, rfl⟩ := Int.eq_ofNat_of_zero_le h0
  rw [Int.toNat_natCast] at h3
  refine ⟨fun g => ?_, fun g => ?_⟩
  · have g1 : n < ks.length := by have := of_decide_eq_true g; omega
    have s1 := str_at g1
    have s2 := str_at (l := ks2) (n := n) (by omega)
    rw [s1, s2]
    refine ⟨⟨by omega, by omega⟩, ⟨by omega, by omega⟩, fun f => ?_, fun f => ?_⟩
    · show PV.bool _ = PV.bool _
      congr 1
      symm
      rw [Bool.eq_false_iff]
      intro e
      obtain ⟨_, _, _, e7, _⟩ := sameJ_e e
      subst e7
      simp at f
    · refine ⟨by unfold inI64; omega, trivial, ⟨by omega, by omega, by omega, ?_⟩, by omega⟩
      rw [show ((n : Int) + 1).toNat = n + 1 by omega, List.take_add_one, List.take_add_one, h3, List.getElem?_eq_getElem g1, List.getElem?_eq_getElem (show n < ks2.length by omega)]
      have : ks[n] = ks2[n]'(by omega) := by simpa using f
      rw [this]
  have hn : ¬ (n : Int) < Int.ofNat ks.length := of_decide_eq_false g
  rw [List.take_of_length_le (by omega), List.take_of_length_le (by omega)] at h3
  rw [sameJ_r ⟨e1, e2, e3, h3⟩]
  refine ⟨trivial, ⟨by omega, by omega, by omega, rfl⟩, fun x hx => ?_⟩
  obtain ⟨f0, f1, f2, f3⟩ := hx
  obtain ⟨a, rfl⟩ := Int.eq_ofNat_of_zero_le f0
  rw [Int.toNat_natCast] at f3
  refine ⟨fun g => ?_, fun g => ?_⟩
  · have g1 : a < js.length := by have := of_decide_eq_true g; omega
    have g2 : a < js2.length := by omega
    have y1 := hj _ (List.getElem_mem g1)
    have y2 := hj2 _ (List.getElem_mem g2)
    simp only [elt_jv g1, elt_jv g2, jp0, jp1, jp2, jp3, jp3', jp4, jp4', jdecs_pvs, JV.eta']
    refine ⟨⟨by omega, by omega⟩, JV.pv_eq _, ⟨by omega, by omega⟩, JV.pv_eq _, ⟨isJs_of _, y1, isJs_of _, ⟨_, y2⟩⟩, fun f => ?_, fun f => ?_⟩
    · show PV.bool _ = PV.bool _
      rw [← f3, sameJs_drop g1 g2, show sameJ js[a] js2[a] = false by simpa using f]; rfl
    · refine ⟨by unfold inI64; omega, trivial, ⟨by omega, by omega, by omega, ?_⟩, by omega⟩
      rw [show ((a : Int) + 1).toNat = a + 1 by omega, ← f3, sameJs_drop g1 g2, show sameJ js[a] js2[a] = true by simpa using f]; rfl
  · have : ¬ (a : Int) < js.length := of_decide_eq_false g
    show PV.bool _ = PV.bool _
    rw [← f3, List.drop_of_length_le (by omega), List.drop_of_length_le (by omega), sameJs])
theorem ent_rsame_ok : ∀ (n : Nat) xs c, ent_rsame n xs = some c → FuncOk Try.prog noT 16 xs c
  | 0, xs, c, h => by
    unfold ent_rsame at h
    split at h
    · injection h with h; subst h; exact .of_plain rfl fun hp => False.elim (hp.2.1)
    · cases h
  | m + 1, xs, c, h => by
    unfold ent_rsame at h
    split at h
    · injection h with h; subst h; exact ok_rsame m (ent_rsame_ok m) _ _ _ _ _ _ _ _ _ _ _ _ _ _
    · cases h
def entA_rsame : List PV → Option CallR := fun xs => match xs with
  | [.agg [.int .i64 kd, .bool bv, .str sv, .row nk (.strs ks) 0, .vec nl 5 ls 0], .agg [.int .i64 kd2, .bool bv2, .str sv2, .row nk2 (.strs ks2) 0, .vec nl2 5 ls2 0]] => some ⟨∃ dn : Nat, isJs ls ∧ okJ dn (.mk kd bv sv nk ks nl (jdecs ls)) ∧ isJs ls2 ∧ (∃ q, okJ q (.mk kd2 bv2 sv2 nk2 ks2 nl2 (jdecs ls2))), .bool (sameJ (.mk kd bv sv nk ks nl (jdecs ls)) (.mk kd2 bv2 sv2 nk2 ks2 nl2 (jdecs ls2)))⟩
  | _ => none
theorem entA_rsame_ok : ∀ xs c, entA_rsame xs = some c → FuncOk Try.prog noT 16 xs c := fun xs c h => by
  unfold entA_rsame at h
  split at h
  · injection h with h; subst h; exact exI fun n => ent_rsame_ok n _ _ rfl
  · cases h
end
end Go.Proofs.Ytaklcjnfjchebaa
