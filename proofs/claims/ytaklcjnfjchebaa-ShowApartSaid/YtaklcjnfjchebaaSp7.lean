import Derived.Test.YtaklcjnfjchebaaProg
import Derived.ProofKit
import Derived.Test.YtaklcjnfjchebaaSp6
set_option linter.unusedVariables false
set_option maxRecDepth 100000
set_option linter.unusedSimpArgs false
set_option maxHeartbeats 4000000
namespace Go.Proofs.Ytaklcjnfjchebaa
open Go Go.Proofs Go.RowKit Go.Vc Go.Proofs.Jv
instance wdJ : Wd := Go.Vc.noW
noncomputable abbrev eltV (ls : List PV) (i : Int) : PV := partV Try.prog (25 : Nat) (pvZ ls i) (0 : Nat)
theorem part_jv (y : JV) : partV Try.prog (25 : Nat) y.pv (0 : Nat) = y.pv := by cases y; kernel_rfl
theorem elt_jv {js : List JV} {i : Nat} (h : i < js.length) : eltV (JV.pvs js) (i : Int) = (js[i]).pv := by
  unfold eltV; rw [pvZ_pvs js i h, part_jv]
theorem jp0 (y : JV) : (y.pv.part 0).asInt = y.k := by cases y; rfl
theorem jp1 (y : JV) : (y.pv.part 1).asBool = y.b := by cases y; rfl
theorem jp2 (y : JV) : (y.pv.part 2).asStr = y.s := by cases y; rfl
theorem jp3 (y : JV) : (y.pv.part 3).asNil = y.nk := by cases y; rfl
theorem jp3' (y : JV) : (y.pv.part 3).asStrs = y.ks := by cases y; rfl
theorem jp4 (y : JV) : (y.pv.part 4).asNil = y.nl := by cases y; rfl
theorem jp4' (y : JV) : (y.pv.part 4).asVec = JV.pvs y.ls := by cases y; rfl
end Go.Proofs.Ytaklcjnfjchebaa
namespace Go.Proofs.Ytaklcjnfjchebaa
open Go Go.Proofs Go.RowKit Go.Vc
open Go.Proofs.Jv
section
def ent_weight (dn : Nat) : List PV → Option CallR := fun xs => match xs with
  | [.agg [.int .i64 kd, .bool bv, .str sv, .row nk (.strs ks) 0, .vec nl 5 ls 0], .int .i64 n0, .int .i64 d] => some ⟨isJs ls ∧ okJ dn (.mk kd bv sv nk ks nl (jdecs ls)) ∧ (-1 ≤ n0 ∧ n0 ≤ 1000000) ∧ (0 ≤ d ∧ d ≤ 201), .int .i64 (wJ (.mk kd bv sv nk ks nl (jdecs ls)) n0 d)⟩
  | _ => none
def X_weight (m : Nat) : Tbl := tblX [(19, ent_weight m)]
def H_weight (m : Nat) (kd : Int) (bv : Bool) (sv : Bs) (nk : Bool) (ks : List Bs) (nl : Bool) (ls : List PV) (n0 d : Int) : Loops := fun i => bif Nat.beq i 5 then some ⟨(Int) × (Int), (fun s x => (((s.put 1 (.int .i64 x.1)).put 7 (.int .i64 x.2)).put 33 .undef)), (fun s => (s.int 1, s.int 7)), (fun s x => let q := x.1; let i := x.2; 0 ≤ i ∧ i ≤ ks.length ∧ -1125899906842624 ≤ q ∧ q ≤ 1000000 ∧ wK (ks.drop i.toNat) q = wK ks (n0 - 1 - lenZ sv - lenZ ks)), (fun s x => let q := x.1; let i := x.2; ((ks.length : Int) - i).toNat), [33]⟩ else bif Nat.beq i 9 then some ⟨(Int) × (Int), (fun s x => (((s.put 1 (.int .i64 x.1)).put 8 (.int .i64 x.2)).put 52 .undef)), (fun s => (s.int 1, s.int 8)), (fun s x => let q := x.1; let i := x.2; 0 ≤ i ∧ i ≤ ls.length ∧ -1125899906842624 ≤ q ∧ q ≤ 1000000 ∧ wJs ((jdecs ls).drop i.toNat) q (d + 1) = wJs (jdecs ls) (wK ks (n0 - 1 - lenZ sv - lenZ ks)) (d + 1)), (fun s x => let q := x.1; let i := x.2; ((ls.length : Int) - i).toNat), [52]⟩ else none
theorem X_weight_ok (m : Nat) (ih : ∀ xs c, ent_weight m xs = some c → FuncOk Try.prog noT 19 xs c) : XOk Try.prog noT (X_weight m) := tblX_cons ih (tblX_nil)
theorem vc_weight (m : Nat) (kd : Int) (bv : Bool) (sv : Bs) (nk : Bool) (ks : List Bs) (nl : Bool) (ls : List PV) (n0 d : Int) (k : PV → Prop) : evF Try.prog (X_weight m) noT (H_weight m kd bv sv nk ks nl ls n0 d) 1000 Try.f19 [.agg [.int .i64 kd, .bool bv, .str sv, .row nk (.strs ks) 0, .vec nl 5 ls 0], .int .i64 n0, .int .i64 d] k = (
  ((bif decide (n0 < (0 : Int)) then true else decide ((200 : Int) < d)) = true → k (PV.int .i64 (-1 : Int))) ∧
 ((bif decide (n0 < (0 : Int)) then true else decide ((200 : Int) < d)) = false →
 inI64 (n0 - (1 : Int)) ∧
 inI64 (n0 - (1 : Int) - lenZ sv) ∧
 inI64 (n0 - (1 : Int) - lenZ sv - Int.ofNat ks.length) ∧
 VS.mk []
 [(0,
 PV.agg
 [PV.int .i64 kd, PV.bool bv, PV.str sv, PV.row nk (BRow.strs ks) (0 : Nat),
 PV.vec nl (5 : Nat) ls (0 : Nat)]),
 (1, PV.int .i64 (n0 - (1 : Int) - lenZ sv - Int.ofNat ks.length)), (2, PV.int .i64 d),
 (3, PV.ptr ((3 : Nat) + (32 : Nat)) (0 : Nat)), (6, PV.int .i64 (0 : Int)),
 (7, PV.int .i64 (0 : Int)), (8, PV.undef),
 (14, PV.bool (bif decide (n0 < (0 : Int)) then true else decide ((200 : Int) < d))), ((33 : Nat), PV.undef),
 (52, PV.undef)]
 [((3 : Nat) + (32 : Nat),
 PV.agg
 [PV.int .i64 kd, PV.bool bv, PV.str sv, PV.row nk (BRow.strs ks) (0 : Nat),
 PV.vec nl (5 : Nat) ls (0 : Nat)])] =
 VS.mk []
 [(0,
 PV.agg
 [PV.int .i64 kd, PV.bool bv, PV.str sv, PV.row nk (BRow.strs ks) (0 : Nat),
 PV.vec nl (5 : Nat) ls (0 : Nat)]),
 ((1 : Nat), PV.int .i64 (n0 - (1 : Int) - lenZ sv - Int.ofNat ks.length)), (2, PV.int .i64 d),
 (3, PV.ptr ((3 : Nat) + (32 : Nat)) (0 : Nat)), (6, PV.int .i64 (0 : Int)),
 ((7 : Nat), PV.int .i64 (0 : Int)), (8, PV.undef),
 (14, PV.bool (bif decide (n0 < (0 : Int)) then true else decide ((200 : Int) < d))), ((33 : Nat), PV.undef),
 (52, PV.undef)]
 [((3 : Nat) + (32 : Nat),
 PV.agg
 [PV.int .i64 kd, PV.bool bv, PV.str sv, PV.row nk (BRow.strs ks) (0 : Nat),
 PV.vec nl (5 : Nat) ls (0 : Nat)])] ∧
 ((0 : Int) ≤ (0 : Int) ∧
 (0 : Int) ≤ ↑ks.length ∧
 (-1125899906842624 : Int) ≤ n0 - (1 : Int) - lenZ sv - Int.ofNat ks.length ∧
 n0 - (1 : Int) - lenZ sv - Int.ofNat ks.length ≤ (1000000 : Int) ∧
 wK (List.drop (Int.toNat (0 : Int)) ks) (n0 - (1 : Int) - lenZ sv - Int.ofNat ks.length) =
 wK ks (n0 - (1 : Int) - lenZ sv - lenZ ks)) ∧
 ∀ (x : Int × Int),
 (0 : Int) ≤ x.2 ∧
 x.2 ≤ ↑ks.length ∧
 (-1125899906842624 : Int) ≤ x.1 ∧
 x.1 ≤ (1000000 : Int) ∧
 wK (List.drop x.2.toNat ks) x.1 = wK ks (n0 - (1 : Int) - lenZ sv - lenZ ks) →
 ((bif decide (x.2 < Int.ofNat ks.length) then decide ((0 : Int) ≤ x.1) else false) = true →
 within x.2 (Int.ofNat ks.length) ∧
 inI64 (x.1 - lenZ (strZ ks x.2)) ∧
 inI64 (x.2 + (1 : Int)) ∧
 VS.mk []
 [(0,
 PV.agg
 [PV.int .i64 kd, PV.bool bv, PV.str sv, PV.row nk (BRow.strs ks) (0 : Nat),
 PV.vec nl (5 : Nat) ls (0 : Nat)]),
 ((1 : Nat), PV.int .i64 (x.1 - lenZ (strZ ks x.2))),
 (2, PV.int .i64 d), (3, PV.ptr ((3 : Nat) + (32 : Nat)) (0 : Nat)),
 (6, PV.int .i64 (0 : Int)), ((7 : Nat), PV.int .i64 (x.2 + (1 : Int))),
 (8, PV.undef),
 (14, PV.bool (bif decide (n0 < (0 : Int)) then true else decide ((200 : Int) < d))),
 ((33 : Nat), PV.undef), (52, PV.undef)]
 [((3 : Nat) + (32 : Nat),
 PV.agg
 [PV.int .i64 kd, PV.bool bv, PV.str sv, PV.row nk (BRow.strs ks) (0 : Nat),
 PV.vec nl (5 : Nat) ls (0 : Nat)])] =
 VS.mk []
 [(0,
 PV.agg
 [PV.int .i64 kd, PV.bool bv, PV.str sv, PV.row nk (BRow.strs ks) (0 : Nat),
 PV.vec nl (5 : Nat) ls (0 : Nat)]),
 ((1 : Nat), PV.int .i64 (x.1 - lenZ (strZ ks x.2))),
 (2, PV.int .i64 d), (3, PV.ptr ((3 : Nat) + (32 : Nat)) (0 : Nat)),
 (6, PV.int .i64 (0 : Int)), ((7 : Nat), PV.int .i64 (x.2 + (1 : Int))),
 (8, PV.undef),
 (14, PV.bool (bif decide (n0 < (0 : Int)) then true else decide ((200 : Int) < d))),
 ((33 : Nat), PV.undef), (52, PV.undef)]
 [((3 : Nat) + (32 : Nat),
 PV.agg
 [PV.int .i64 kd, PV.bool bv, PV.str sv, PV.row nk (BRow.strs ks) (0 : Nat),
 PV.vec nl (5 : Nat) ls (0 : Nat)])] ∧
 ((0 : Int) ≤ x.2 + (1 : Int) ∧
 x.2 + (1 : Int) ≤ ↑ks.length ∧
 (-1125899906842624 : Int) ≤ x.1 - lenZ (strZ ks x.2) ∧
 x.1 - lenZ (strZ ks x.2) ≤ (1000000 : Int) ∧
 wK (List.drop (x.2 + (1 : Int)).toNat ks) (x.1 - lenZ (strZ ks x.2)) =
 wK ks (n0 - (1 : Int) - lenZ sv - lenZ ks)) ∧
 (↑ks.length - (x.2 + (1 : Int))).toNat < (↑ks.length - x.2).toNat) ∧
 ((bif decide (x.2 < Int.ofNat ks.length) then decide ((0 : Int) ≤ x.1) else false) = false →
 VS.mk []
 [(0,
 PV.agg
 [PV.int .i64 kd, PV.bool bv, PV.str sv, PV.row nk (BRow.strs ks) (0 : Nat),
 PV.vec nl (5 : Nat) ls (0 : Nat)]),
 ((1 : Nat), PV.int .i64 x.1), (2, PV.int .i64 d),
 (3, PV.ptr ((3 : Nat) + (32 : Nat)) (0 : Nat)), (6, PV.int .i64 (0 : Int)),
 ((7 : Nat), PV.int .i64 x.2), (8, PV.int .i64 (0 : Int)),
 (14, PV.bool (bif decide (n0 < (0 : Int)) then true else decide ((200 : Int) < d))),
 ((33 : Nat), PV.bool (bif decide (x.2 < Int.ofNat ks.length) then decide ((0 : Int) ≤ x.1) else false)),
 ((52 : Nat), PV.undef)]
 [((3 : Nat) + (32 : Nat),
 PV.agg
 [PV.int .i64 kd, PV.bool bv, PV.str sv, PV.row nk (BRow.strs ks) (0 : Nat),
 PV.vec nl (5 : Nat) ls (0 : Nat)])] =
 VS.mk []
 [(0,
 PV.agg
 [PV.int .i64 kd, PV.bool bv, PV.str sv, PV.row nk (BRow.strs ks) (0 : Nat),
 PV.vec nl (5 : Nat) ls (0 : Nat)]),
 ((1 : Nat), PV.int .i64 x.1), (2, PV.int .i64 d),
 (3, PV.ptr ((3 : Nat) + (32 : Nat)) (0 : Nat)), (6, PV.int .i64 (0 : Int)),
 ((7 : Nat), PV.int .i64 x.2), ((8 : Nat), PV.int .i64 (0 : Int)),
 (14, PV.bool (bif decide (n0 < (0 : Int)) then true else decide ((200 : Int) < d))),
 ((33 : Nat), PV.bool (bif decide (x.2 < Int.ofNat ks.length) then decide ((0 : Int) ≤ x.1) else false)),
 ((52 : Nat), PV.undef)]
 [((3 : Nat) + (32 : Nat),
 PV.agg
 [PV.int .i64 kd, PV.bool bv, PV.str sv, PV.row nk (BRow.strs ks) (0 : Nat),
 PV.vec nl (5 : Nat) ls (0 : Nat)])] ∧
 ((0 : Int) ≤ (0 : Int) ∧
 (0 : Int) ≤ ↑ls.length ∧
 (-1125899906842624 : Int) ≤ x.1 ∧
 x.1 ≤ (1000000 : Int) ∧
 wJs (List.drop (Int.toNat (0 : Int)) (jdecs ls)) x.1 (d + (1 : Int)) =
 wJs (jdecs ls) (wK ks (n0 - (1 : Int) - lenZ sv - lenZ ks))
 (d + (1 : Int))) ∧
 ∀ (x_1 : Int × Int),
 (0 : Int) ≤ x_1.2 ∧
 x_1.2 ≤ ↑ls.length ∧
 (-1125899906842624 : Int) ≤ x_1.1 ∧
 x_1.1 ≤ (1000000 : Int) ∧
 wJs (List.drop x_1.2.toNat (jdecs ls)) x_1.1 (d + (1 : Int)) =
 wJs (jdecs ls) (wK ks (n0 - (1 : Int) - lenZ sv - lenZ ks))
 (d + (1 : Int)) →
 ((bif decide (x_1.2 < lenZ ls) then decide ((0 : Int) ≤ x_1.1) else false) = true →
 within x_1.2 (lenZ ls) ∧
 eltV ls x_1.2 =
 PV.agg
 [PV.int .i64
 ((eltV ls x_1.2).part (0 : Nat)).asInt,
 PV.bool
 ((eltV ls x_1.2).part
 (1 : Nat)).asBool,
 PV.str
 ((eltV ls x_1.2).part
 (2 : Nat)).asStr,
 PV.row
 ((eltV ls x_1.2).part
 (3 : Nat)).asNil
 (BRow.strs
 ((eltV ls x_1.2).part
 (3 : Nat)).asStrs)
 (0 : Nat),
 PV.vec
 ((eltV ls x_1.2).part
 (4 : Nat)).asNil
 (nat_lit 5)
 ((eltV ls x_1.2).part
 (4 : Nat)).asVec
 (0 : Nat)] ∧
 inI64 (d + (1 : Int)) ∧
 (isJs
 ((eltV ls x_1.2).part
 (4 : Nat)).asVec ∧
 okJ m
 (JV.mk
 ((eltV ls x_1.2).part (0 : Nat)).asInt
 ((eltV ls x_1.2).part
 (1 : Nat)).asBool
 ((eltV ls x_1.2).part
 (2 : Nat)).asStr
 ((eltV ls x_1.2).part
 (3 : Nat)).asNil
 ((eltV ls x_1.2).part
 (3 : Nat)).asStrs
 ((eltV ls x_1.2).part
 (4 : Nat)).asNil
 (jdecs
 ((eltV ls x_1.2).part
 (4 : Nat)).asVec)) ∧
 ((-1 : Int) ≤ x_1.1 ∧ x_1.1 ≤ (1000000 : Int)) ∧ (0 : Int) ≤ d + (1 : Int) ∧ d + (1 : Int) ≤ (201 : Int)) ∧
 inI64 (x_1.2 + (1 : Int)) ∧
 VS.mk []
 [(0,
 PV.agg
 [PV.int .i64 kd, PV.bool bv, PV.str sv,
 PV.row nk (BRow.strs ks) (0 : Nat), PV.vec nl (5 : Nat) ls (0 : Nat)]),
 ((1 : Nat),
 PV.int .i64
 (wJ
 (JV.mk
 ((eltV ls x_1.2).part (0 : Nat)).asInt
 ((eltV ls x_1.2).part
 (1 : Nat)).asBool
 ((eltV ls x_1.2).part
 (2 : Nat)).asStr
 ((eltV ls x_1.2).part
 (3 : Nat)).asNil
 ((eltV ls x_1.2).part
 (3 : Nat)).asStrs
 ((eltV ls x_1.2).part
 (4 : Nat)).asNil
 (jdecs
 ((eltV ls x_1.2).part
 (4 : Nat)).asVec))
 x_1.1 (d + (1 : Int)))),
 (2, PV.int .i64 d), (3, PV.ptr ((3 : Nat) + (32 : Nat)) (0 : Nat)),
 (6, PV.int .i64 (0 : Int)), ((7 : Nat), PV.int .i64 x.2),
 ((8 : Nat), PV.int .i64 (x_1.2 + (1 : Int))),
 (14, PV.bool (bif decide (n0 < (0 : Int)) then true else decide ((200 : Int) < d))),
 ((33 : Nat),
 PV.bool (bif decide (x.2 < Int.ofNat ks.length) then decide ((0 : Int) ≤ x.1) else false)),
 ((52 : Nat), PV.undef)]
 [((3 : Nat) + (32 : Nat),
 PV.agg
 [PV.int .i64 kd, PV.bool bv, PV.str sv,
 PV.row nk (BRow.strs ks) (0 : Nat), PV.vec nl (5 : Nat) ls (0 : Nat)])] =
 VS.mk []
 [(0,
 PV.agg
 [PV.int .i64 kd, PV.bool bv, PV.str sv,
 PV.row nk (BRow.strs ks) (0 : Nat), PV.vec nl (5 : Nat) ls (0 : Nat)]),
 ((1 : Nat),
 PV.int .i64
 (wJ
 (JV.mk
 ((eltV ls x_1.2).part (0 : Nat)).asInt
 ((eltV ls x_1.2).part
 (1 : Nat)).asBool
 ((eltV ls x_1.2).part
 (2 : Nat)).asStr
 ((eltV ls x_1.2).part
 (3 : Nat)).asNil
 ((eltV ls x_1.2).part
 (3 : Nat)).asStrs
 ((eltV ls x_1.2).part
 (4 : Nat)).asNil
 (jdecs
 ((eltV ls x_1.2).part
 (4 : Nat)).asVec))
 x_1.1 (d + (1 : Int)))),
 (2, PV.int .i64 d), (3, PV.ptr ((3 : Nat) + (32 : Nat)) (0 : Nat)),
 (6, PV.int .i64 (0 : Int)), ((7 : Nat), PV.int .i64 x.2),
 ((8 : Nat), PV.int .i64 (x_1.2 + (1 : Int))),
 (14, PV.bool (bif decide (n0 < (0 : Int)) then true else decide ((200 : Int) < d))),
 ((33 : Nat),
 PV.bool (bif decide (x.2 < Int.ofNat ks.length) then decide ((0 : Int) ≤ x.1) else false)),
 ((52 : Nat), PV.undef)]
 [((3 : Nat) + (32 : Nat),
 PV.agg
 [PV.int .i64 kd, PV.bool bv, PV.str sv,
 PV.row nk (BRow.strs ks) (0 : Nat), PV.vec nl (5 : Nat) ls (0 : Nat)])] ∧
 ((0 : Int) ≤ x_1.2 + (1 : Int) ∧
 x_1.2 + (1 : Int) ≤ ↑ls.length ∧
 (-1125899906842624 : Int) ≤
 wJ
 (JV.mk
 ((eltV ls x_1.2).part (0 : Nat)).asInt
 ((eltV ls x_1.2).part
 (1 : Nat)).asBool
 ((eltV ls x_1.2).part
 (2 : Nat)).asStr
 ((eltV ls x_1.2).part
 (3 : Nat)).asNil
 ((eltV ls x_1.2).part
 (3 : Nat)).asStrs
 ((eltV ls x_1.2).part
 (4 : Nat)).asNil
 (jdecs
 ((eltV ls x_1.2).part
 (4 : Nat)).asVec))
 x_1.1 (d + (1 : Int)) ∧
 wJ
 (JV.mk
 ((eltV ls x_1.2).part
 (0 : Nat)).asInt
 ((eltV ls x_1.2).part
 (1 : Nat)).asBool
 ((eltV ls x_1.2).part
 (2 : Nat)).asStr
 ((eltV ls x_1.2).part
 (3 : Nat)).asNil
 ((eltV ls x_1.2).part
 (3 : Nat)).asStrs
 ((eltV ls x_1.2).part
 (4 : Nat)).asNil
 (jdecs
 ((eltV ls x_1.2).part
 (4 : Nat)).asVec))
 x_1.1 (d + (1 : Int)) ≤
 (1000000 : Int) ∧
 wJs (List.drop (x_1.2 + (1 : Int)).toNat (jdecs ls))
 (wJ
 (JV.mk
 ((eltV ls x_1.2).part
 (0 : Nat)).asInt
 ((eltV ls x_1.2).part
 (1 : Nat)).asBool
 ((eltV ls x_1.2).part
 (2 : Nat)).asStr
 ((eltV ls x_1.2).part
 (3 : Nat)).asNil
 ((eltV ls x_1.2).part
 (3 : Nat)).asStrs
 ((eltV ls x_1.2).part
 (4 : Nat)).asNil
 (jdecs
 ((eltV ls x_1.2).part
 (4 : Nat)).asVec))
 x_1.1 (d + (1 : Int)))
 (d + (1 : Int)) =
 wJs (jdecs ls)
 (wK ks (n0 - (1 : Int) - lenZ sv - lenZ ks)) (d + (1 : Int))) ∧
 (↑ls.length - (x_1.2 + (1 : Int))).toNat < (↑ls.length - x_1.2).toNat) ∧
 ((bif decide (x_1.2 < lenZ ls) then decide ((0 : Int) ≤ x_1.1) else false) = false →
 k (PV.int .i64 x_1.1))))) := by kernel_rfl
attribute [local irreducible] Go.Vc.evF
theorem ok_weight (m : Nat) (ih : ∀ xs c, ent_weight m xs = some c → FuncOk Try.prog noT 19 xs c) (kd : Int) (bv : Bool) (sv : Bs) (nk : Bool) (ks : List Bs) (nl : Bool) (ls : List PV) (n0 d : Int) : FuncOk Try.prog noT 19 [.agg [.int .i64 kd, .bool bv, .str sv, .row nk (.strs ks) 0, .vec nl 5 ls 0], .int .i64 n0, .int .i64 d] ⟨isJs ls ∧ okJ (m + 1) (.mk kd bv sv nk ks nl (jdecs ls)) ∧ (-1 ≤ n0 ∧ n0 ≤ 1000000) ∧ (0 ≤ d ∧ d ≤ 201), .int .i64 (wJ (.mk kd bv sv nk ks nl (jdecs ls)) n0 d)⟩ := evF_ok (by kernel_rfl) (X_weight_ok m ih) (H := H_weight m kd bv sv nk ks nl ls n0 d) (fuel := 1000) Try.func19 (by kernel_rfl) fun hpre => (vc_weight m kd bv sv nk ks nl ls n0 d _).mpr (by
  obtain ⟨⟨js, rfl⟩, hok, ⟨hn0, hn1⟩, hd0, hd1⟩ := hpre
  rw [jdecs_pvs] at hok
  have hok1 := hok
  obtain ⟨hk, hs, hks, hkl, hls, hj⟩ := hok1
  simp only [JV.k, JV.s, JV.ks, JV.ls] at hk hs hks hkl hls hj
  have hml : bigJ = 140737488355328 := rfl
  simp only [jdecs_pvs, pvs_lenZ, pvs_length]
  have hw : wJ (.mk kd bv sv nk ks nl js) n0 d = if n0 < 0 ∨ 200 < d then -1 else wJs js (wK ks (n0 - 1 - lenZ sv - lenZ ks)) (d + 1) := by rw [wJ]
  have hsl : lenZ sv = (sv.length : Int) := rfl
  have hkz : lenZ ks = (ks.length : Int) := rfl
  have hko : Int.ofNat ks.length = (ks.length : Int) := rfl
  refine ⟨fun h => ?_, fun h => ?_⟩
  · show PV.int _ _ = PV.int _ _
    rw [hw, if_pos (or_t h)]
  have hc := or_f h
  rw [if_neg hc] at hw
  refine ⟨by unfold inI64; omega, by unfold inI64; omega, by unfold inI64; omega, trivial, ⟨by omega, by omega, by omega, by omega, rfl⟩, fun x hx => ?_⟩
  obtain ⟨q, i⟩ := x
  obtain ⟨h0, h1, h2, h3, h4⟩ := hx
  simp only at h0 h1 h2 h3 h4
  obtain ⟨n, rfl⟩ := Int.eq_ofNat_of_zero_le h0
  rw [Int.toNat_natCast] at h4
  refine ⟨fun g => ?_, fun g => ?_⟩
  · have g1 : n < ks.length := by have := (and_t g).1; simp only at this; omega
    have g2 : 0 ≤ q := (and_t g).2
    have e := str_at g1
    have hl := hkl _ (List.getElem_mem g1)
    have hz : lenZ ks[n] = (ks[n].length : Int) := rfl
    simp only [e]
    refine ⟨⟨by omega, by omega⟩, by unfold inI64; omega, by unfold inI64; omega, trivial, ⟨by omega, by omega, by omega, by omega, ?_⟩, by omega⟩
    rw [show ((n : Int) + 1).toNat = n + 1 by omega, ← h4]; exact (wK_drop g1 g2).symm
  have hwk : wK ks (n0 - 1 - lenZ sv - lenZ ks) = q := by
    rw [← h4]
    by_cases c : n < ks.length
    · exact wK_neg (by have := and_f g; simp only at this; omega)
    · rw [List.drop_of_length_le (by omega)]; rfl
  rw [hwk] at hw
  refine ⟨trivial, ⟨by omega, by omega, h2, h3, by rw [hwk]; rfl⟩, fun y hy => ?_⟩
  obtain ⟨p, i⟩ := y
  obtain ⟨f0, f1, f2, f3, f4⟩ := hy
  simp only at f0 f1 f2 f3 f4
  obtain ⟨a, rfl⟩ := Int.eq_ofNat_of_zero_le f0
  rw [Int.toNat_natCast, hwk] at f4
  refine ⟨fun g => ?_, fun g => ?_⟩
  · have g1 : a < js.length := by have := (and_t g).1; simp only at this; omega
    have g2 : 0 ≤ p := (and_t g).2
    have hy := hj _ (List.getElem_mem g1)
    simp only [elt_jv g1, jp0, jp1, jp2, jp3, jp3', jp4, jp4', jdecs_pvs, JV.eta']
    have w1 := wJ_le js[a] p (d + 1) (by omega)
    have w2 := wJ_ge js[a] m p (d + 1) hy (by omega)
    refine ⟨⟨by omega, by omega⟩, JV.pv_eq _, by unfold inI64; omega, ⟨isJs_of _, hy, ⟨by omega, by omega⟩, by omega, by omega⟩, by unfold inI64; omega, trivial, ⟨by omega, by omega, by omega, by omega, ?_⟩, by omega⟩
    rw [show ((a : Int) + 1).toNat = a + 1 by omega, hwk, ← f4]; exact (wJs_drop g1 g2).symm
  show PV.int _ _ = PV.int _ _
  rw [hw, ← f4]
  by_cases c : a < js.length
  · rw [wJs_neg (by have := and_f g; simp only at this; omega)]
  · rw [List.drop_of_length_le (by omega), wJs])
theorem ent_weight_ok : ∀ (n : Nat) xs c, ent_weight n xs = some c → FuncOk Try.prog noT 19 xs c
  | 0, xs, c, h => by
    unfold ent_weight at h
    split at h
    · injection h with h; subst h; exact .of_plain ⟨rfl, rfl⟩ fun hp => False.elim (hp.2.1)
    · cases h
  | m + 1, xs, c, h => by
    unfold ent_weight at h
    split at h
    · injection h with h; subst h; exact ok_weight m (ent_weight_ok m) _ _ _ _ _ _ _ _ _
    · cases h
def entA_weight : List PV → Option CallR := fun xs => match xs with
  | [.agg [.int .i64 kd, .bool bv, .str sv, .row nk (.strs ks) 0, .vec nl 5 ls 0], .int .i64 n0, .int .i64 d] => some ⟨∃ dn : Nat, isJs ls ∧ okJ dn (.mk kd bv sv nk ks nl (jdecs ls)) ∧ (-1 ≤ n0 ∧ n0 ≤ 1000000) ∧ (0 ≤ d ∧ d ≤ 201), .int .i64 (wJ (.mk kd bv sv nk ks nl (jdecs ls)) n0 d)⟩
  | _ => none
theorem entA_weight_ok : ∀ xs c, entA_weight xs = some c → FuncOk Try.prog noT 19 xs c := fun xs c h => by
  unfold entA_weight at h
  split at h
  · injection h with h; subst h; exact exI fun n => ent_weight_ok n _ _ rfl
  · cases h
end
section
def X_heavy : Tbl := tblX [(19, entA_weight)]
def H_heavy (kd : Int) (bv : Bool) (sv : Bs) (nk : Bool) (ks : List Bs) (nl : Bool) (ls : List PV) (n0 : Int) : Loops := fun i => none
theorem X_heavy_ok : XOk Try.prog noT X_heavy := tblX_cons entA_weight_ok (tblX_nil)
theorem vc_heavy (kd : Int) (bv : Bool) (sv : Bs) (nk : Bool) (ks : List Bs) (nl : Bool) (ls : List PV) (n0 : Int) (k : PV → Prop) : evF Try.prog X_heavy noT (H_heavy kd bv sv nk ks nl ls n0) 1000 Try.f9 [.agg [.int .i64 kd, .bool bv, .str sv, .row nk (.strs ks) 0, .vec nl 5 ls 0], .int .i64 n0] k = (
  (∃ (dn : Nat),
 isJs ls ∧
 okJ dn (JV.mk kd bv sv nk ks nl (jdecs ls)) ∧
 ((-1 : Int) ≤ n0 ∧ n0 ≤ (1000000 : Int)) ∧ (0 : Int) ≤ (0 : Int) ∧ (0 : Int) ≤ (201 : Int)) ∧
 k (PV.bool (decide (wJ (JV.mk kd bv sv nk ks nl (jdecs ls)) n0 (0 : Int) < (0 : Int))))) := by kernel_rfl
attribute [local irreducible] Go.Vc.evF
theorem ok_heavy (kd : Int) (bv : Bool) (sv : Bs) (nk : Bool) (ks : List Bs) (nl : Bool) (ls : List PV) (n0 : Int) : FuncOk Try.prog noT 9 [.agg [.int .i64 kd, .bool bv, .str sv, .row nk (.strs ks) 0, .vec nl 5 ls 0], .int .i64 n0] ⟨isJs ls ∧ (∃ q, okJ q (.mk kd bv sv nk ks nl (jdecs ls))) ∧ 0 ≤ n0 ∧ n0 ≤ 1000000, .bool (decide (wJ (.mk kd bv sv nk ks nl (jdecs ls)) n0 0 < 0))⟩ := evF_ok (by kernel_rfl) X_heavy_ok (H := H_heavy kd bv sv nk ks nl ls n0) (fuel := 1000) Try.func9 (by kernel_rfl) fun hpre => (vc_heavy kd bv sv nk ks nl ls n0 _).mpr (by
  obtain ⟨⟨js, rfl⟩, ⟨q, hok⟩, hn0, hn1⟩ := hpre
  exact ⟨⟨q, isJs_of _, hok, ⟨by omega, by omega⟩, by omega, by omega⟩, rfl⟩)
def ent_heavy : List PV → Option CallR := fun xs => match xs with
  | [.agg [.int .i64 kd, .bool bv, .str sv, .row nk (.strs ks) 0, .vec nl 5 ls 0], .int .i64 n0] => some ⟨isJs ls ∧ (∃ q, okJ q (.mk kd bv sv nk ks nl (jdecs ls))) ∧ 0 ≤ n0 ∧ n0 ≤ 1000000, .bool (decide (wJ (.mk kd bv sv nk ks nl (jdecs ls)) n0 0 < 0))⟩
  | _ => none
theorem ent_heavy_ok : ∀ xs c, ent_heavy xs = some c → FuncOk Try.prog noT 9 xs c := fun xs c h => by
  unfold ent_heavy at h
  split at h
  · injection h with h; subst h; exact ok_heavy _ _ _ _ _ _ _ _
  · cases h
end
section
def X_jshort : Tbl := tblX []
def H_jshort (c : Int) : Loops := fun i => none
theorem X_jshort_ok : XOk Try.prog noT X_jshort := tblX_nil
theorem vc_jshort (c : Int) (k : PV → Prop) : evF Try.prog X_jshort noT (H_jshort c) 1000 Try.f49 [.int .u8 c] k = (
  (decide (c = (34 : Int)) = true →
 (decide (c = (34 : Int)) = true → k (PV.int .u8 c)) ∧
 (decide (c = (34 : Int)) = false →
 (decide (c = (8 : Int)) = true → k (PV.int .u8 (98 : Int))) ∧
 (decide (c = (8 : Int)) = false →
 (decide (c = (12 : Int)) = true → k (PV.int .u8 (102 : Int))) ∧
 (decide (c = (12 : Int)) = false →
 (decide (c = (10 : Int)) = true → k (PV.int .u8 (110 : Int))) ∧
 (decide (c = (10 : Int)) = false →
 (decide (c = (13 : Int)) = true → k (PV.int .u8 (114 : Int))) ∧
 (decide (c = (13 : Int)) = false →
 (decide (c = (9 : Int)) = true → k (PV.int .u8 (116 : Int))) ∧
 (decide (c = (9 : Int)) = false → k (PV.int .u8 (0 : Int))))))))) ∧
 (decide (c = (34 : Int)) = false →
 (decide (c = (92 : Int)) = true → k (PV.int .u8 c)) ∧
 (decide (c = (92 : Int)) = false →
 (decide (c = (8 : Int)) = true → k (PV.int .u8 (98 : Int))) ∧
 (decide (c = (8 : Int)) = false →
 (decide (c = (12 : Int)) = true → k (PV.int .u8 (102 : Int))) ∧
 (decide (c = (12 : Int)) = false →
 (decide (c = (10 : Int)) = true → k (PV.int .u8 (110 : Int))) ∧
 (decide (c = (10 : Int)) = false →
 (decide (c = (13 : Int)) = true → k (PV.int .u8 (114 : Int))) ∧
 (decide (c = (13 : Int)) = false →
 (decide (c = (9 : Int)) = true → k (PV.int .u8 (116 : Int))) ∧
 (decide (c = (9 : Int)) = false → k (PV.int .u8 (0 : Int)))))))))) := by kernel_rfl
attribute [local irreducible] Go.Vc.evF
theorem ok_jshort (c : Int) : FuncOk Try.prog noT 49 [.int .u8 c] ⟨0 ≤ c ∧ c ≤ 255, .int .u8 (shortZ c)⟩ := evF_ok (by kernel_rfl) X_jshort_ok (H := H_jshort c) (fuel := 1000) Try.func49 (by kernel_rfl) fun hpre => (vc_jshort c _).mpr (by
  simp only [decide_eq_true_eq, decide_eq_false_iff_not, PV.int.injEq, true_and]
  unfold shortZ
  (repeat' constructor) <;> intros <;> (repeat' split) <;> omega)
def ent_jshort : List PV → Option CallR := fun xs => match xs with
  | [.int .u8 c] => some ⟨0 ≤ c ∧ c ≤ 255, .int .u8 (shortZ c)⟩
  | _ => none
theorem ent_jshort_ok : ∀ xs c, ent_jshort xs = some c → FuncOk Try.prog noT 49 xs c := fun xs c h => by
  unfold ent_jshort at h
  split at h
  · injection h with h; subst h; exact ok_jshort _
  · cases h
end
section
theorem byte_at {l : Bs} {n : Nat} (h : n < l.length) : byteZ l (n : Int) = (l[n].toNat : Int) := by
  unfold byteZ; rw [Int.toNat_natCast, List.getD_eq_getElem?_getD, List.getElem?_eq_getElem h]; rfl
abbrev HX : Bs := (ByteArray.mk #[48, 49, 50, 51, 52, 53, 54, 55, 56, 57, 97, 98, 99, 100, 101, 102]).data.toList
theorem hexT : ∀ n : Fin 256, (0 ≤ shrZ .u8 (n.val : Int) 4 ∧ shrZ .u8 (n.val : Int) 4 < 16) ∧ (0 ≤ bitsZ .and .u8 (n.val : Int) 15 ∧ bitsZ .and .u8 (n.val : Int) 15 < 16) ∧ zByte (byteZ HX (shrZ .u8 (n.val : Int) 4)) = hexB (n.val / 16) ∧ zByte (byteZ HX (bitsZ .and .u8 (n.val : Int) 15)) = hexB (n.val % 16) := by decide +kernel
theorem hexC (c : UInt8) : (0 ≤ shrZ .u8 (c.toNat : Int) 4 ∧ shrZ .u8 (c.toNat : Int) 4 < 16) ∧ (0 ≤ bitsZ .and .u8 (c.toNat : Int) 15 ∧ bitsZ .and .u8 (c.toNat : Int) 15 < 16) ∧ zByte (byteZ HX (shrZ .u8 (c.toNat : Int) 4)) = hexB (c.toNat / 16) ∧ zByte (byteZ HX (bitsZ .and .u8 (c.toNat : Int) 15)) = hexB (c.toNat % 16) := hexT ⟨c.toNat, c.toNat_lt⟩
theorem esc_plain {c : UInt8} (h : 32 ≤ (c.toNat : Int) ∧ (c.toNat : Int) ≠ 34 ∧ (c.toNat : Int) ≠ 92) : escB c = [c] := by
  have e : shortZ c.toNat = 0 := by unfold shortZ; repeat' split <;> try omega
  unfold escB
  rw [e, if_neg (by simp), if_neg (by omega)]
theorem esc_hex {c : UInt8} (h : ¬ (32 ≤ (c.toNat : Int) ∧ (c.toNat : Int) ≠ 34 ∧ (c.toNat : Int) ≠ 92)) (hs : shortZ c.toNat = 0) : escB c = [92, 117, 48, 48, hexB (c.toNat / 16), hexB (c.toNat % 16)] := by
  unfold escB
  rw [hs, if_neg (by simp), if_pos]
  have h1 : ¬ (c.toNat : Int) = 34 := fun e => by rw [e] at hs; cases hs
  have h2 : ¬ (c.toNat : Int) = 92 := fun e => by rw [e] at hs; cases hs
  omega
theorem u8_1 {z : Int} (h0 : 0 ≤ z) (h1 : z ≤ 255) : allU8 [PV.int .u8 z] := ⟨h0, h1⟩
theorem u8_0 {z : Int} (h0 : 0 ≤ z) (h1 : z ≤ 255) : inU8 (PV.int .u8 z).asInt := ⟨h0, h1⟩
theorem shortZ_u8 {c : Int} (h0 : 0 ≤ c) (h1 : c ≤ 255) : 0 ≤ shortZ c ∧ shortZ c ≤ 255 := by unfold shortZ; repeat' split <;> try omega
theorem esc_join {l : Bs} {f n : Nat} (h : f ≤ n) (he : escJ ((l.take n).drop f) = (l.take n).drop f) : escJ (l.take f) ++ (l.take n).drop f = escJ (l.take n) := by
  rw [← he, ← escJ_app]
  congr 1
  have : l.take f = (l.take n).take f := by rw [List.take_take, Nat.min_eq_left h]
  rw [this, List.take_append_drop]
def X_apptext : Tbl := tblX [(49, ent_jshort)]
def H_apptext (nb : Bool) (b l : Bs) : Loops := fun i => bif Nat.beq i 4 then some ⟨(Bool × Bs) × (Int) × (Int), (fun s x => (((((((((s.row s 0 x.1.1 (.bytes x.1.2)).put 5 (.int .i64 x.2.1)).put 14 (.int .i64 x.2.2)).put 6 .undef).put 7 .undef).put 8 .undef).put 15 .undef).put 29 .undef).put 41 .undef)), (fun s => ((s.nil 0, s.bytes 0), s.int 5, s.int 14)), (fun s x => let o := x.1; let fr := x.2.1; let i := x.2.2; 0 ≤ fr ∧ fr ≤ i ∧ i ≤ l.length ∧ o.1 = false ∧ o.2 = b ++ 34 :: escJ (l.take fr.toNat) ∧ escJ ((l.take i.toNat).drop fr.toNat) = (l.take i.toNat).drop fr.toNat), (fun s x => let o := x.1; let fr := x.2.1; let i := x.2.2; ((l.length : Int) - i).toNat), [6, 7, 8, 15, 29, 41]⟩ else none
theorem X_apptext_ok : XOk Try.prog noT X_apptext := tblX_cons ent_jshort_ok (tblX_nil)
theorem vc_apptext (nb : Bool) (b l : Bs) (k : PV → Prop) : evR Try.prog X_apptext noT (H_apptext nb b l) 1000 Try.f34 [.row nb (.bytes b) 1, .str l] k = (
  allU8 [PV.int .u8 (34 : Int)] ∧
 Int.ofNat (List.length (b ++ [zByte (34 : Int)])) ≤ maxRow ∧
 VS.mk []
 [(0, PV.row false (BRow.bytes (b ++ [zByte (34 : Int)])) (nat_lit 0 + (1 : Nat))), (1, PV.str l),
 (4, PV.row true (BRow.bytes []) ((4 : Nat) + (32 : Nat))), (5, PV.int .i64 (0 : Int)),
 ((6 : Nat), PV.undef), ((7 : Nat), PV.undef), ((8 : Nat), PV.undef), (13, PV.int .i64 (lenZ l)),
 (14, PV.int .i64 (0 : Int)), ((15 : Nat), PV.undef), ((29 : Nat), PV.undef), ((41 : Nat), PV.undef)]
 [] =
 VS.mk []
 [((0 : Nat), PV.row false (BRow.bytes (b ++ [zByte (34 : Int)])) (nat_lit 0 + (1 : Nat))), (1, PV.str l),
 (4, PV.row true (BRow.bytes []) ((4 : Nat) + (32 : Nat))), ((5 : Nat), PV.int .i64 (0 : Int)),
 ((6 : Nat), PV.undef), ((7 : Nat), PV.undef), ((8 : Nat), PV.undef), (13, PV.int .i64 (lenZ l)),
 ((14 : Nat), PV.int .i64 (0 : Int)), ((15 : Nat), PV.undef), ((29 : Nat), PV.undef), ((41 : Nat), PV.undef)]
 [] ∧
 ((0 : Int) ≤ (0 : Int) ∧
 (0 : Int) ≤ (0 : Int) ∧
 (0 : Int) ≤ ↑(List.length l) ∧
 false = false ∧
 b ++ [zByte (34 : Int)] = b ++ (34 : UInt8) :: escJ (List.take (Int.toNat (0 : Int)) l) ∧
 escJ (List.drop (Int.toNat (0 : Int)) (List.take (Int.toNat (0 : Int)) l)) =
 List.drop (Int.toNat (0 : Int)) (List.take (Int.toNat (0 : Int)) l)) ∧
 ∀ (x : (Bool × Bs) × Int × Int),
 (0 : Int) ≤ x.2.1 ∧
 x.2.1 ≤ x.2.2 ∧
 x.2.2 ≤ ↑(List.length l) ∧
 x.1.1 = false ∧
 x.1.2 = b ++ (34 : UInt8) :: escJ (List.take x.2.1.toNat l) ∧
 escJ (List.drop x.2.1.toNat (List.take x.2.2.toNat l)) = List.drop x.2.1.toNat (List.take x.2.2.toNat l) →
 (decide (x.2.2 < lenZ l) = true →
 within x.2.2 (lenZ l) ∧
 ((bif bif decide ((32 : Int) ≤ byteZ l x.2.2) then !decide (byteZ l x.2.2 = (34 : Int)) else false then
 !decide (byteZ l x.2.2 = (92 : Int))
 else false) =
 true →
 inI64 (x.2.2 + (1 : Int)) ∧
 VS.mk []
 [((0 : Nat), PV.row x.1.1 (BRow.bytes x.1.2) (nat_lit 0 + (1 : Nat))), (1, PV.str l),
 (4, PV.row true (BRow.bytes []) ((4 : Nat) + (32 : Nat))),
 ((5 : Nat), PV.int .i64 x.2.1), ((6 : Nat), PV.undef), ((7 : Nat), PV.undef),
 ((8 : Nat), PV.undef), (13, PV.int .i64 (lenZ l)),
 ((14 : Nat), PV.int .i64 (x.2.2 + (1 : Int))), ((15 : Nat), PV.undef), ((29 : Nat), PV.undef),
 ((41 : Nat), PV.undef)]
 [] =
 VS.mk []
 [((0 : Nat), PV.row x.1.1 (BRow.bytes x.1.2) (nat_lit 0 + (1 : Nat))), (1, PV.str l),
 (4, PV.row true (BRow.bytes []) ((4 : Nat) + (32 : Nat))),
 ((5 : Nat), PV.int .i64 x.2.1), ((6 : Nat), PV.undef), ((7 : Nat), PV.undef),
 ((8 : Nat), PV.undef), (13, PV.int .i64 (lenZ l)),
 ((14 : Nat), PV.int .i64 (x.2.2 + (1 : Int))), ((15 : Nat), PV.undef), ((29 : Nat), PV.undef),
 ((41 : Nat), PV.undef)]
 [] ∧
 ((0 : Int) ≤ x.2.1 ∧
 x.2.1 ≤ x.2.2 + (1 : Int) ∧
 x.2.2 + (1 : Int) ≤ ↑(List.length l) ∧
 x.1.1 = false ∧
 x.1.2 = b ++ (34 : UInt8) :: escJ (List.take x.2.1.toNat l) ∧
 escJ (List.drop x.2.1.toNat (List.take (x.2.2 + (1 : Int)).toNat l)) =
 List.drop x.2.1.toNat (List.take (x.2.2 + (1 : Int)).toNat l)) ∧
 (↑(List.length l) - (x.2.2 + (1 : Int))).toNat < (↑(List.length l) - x.2.2).toNat) ∧
 ((bif bif decide ((32 : Int) ≤ byteZ l x.2.2) then !decide (byteZ l x.2.2 = (34 : Int)) else false then
 !decide (byteZ l x.2.2 = (92 : Int))
 else false) =
 false →
 upto x.2.1 x.2.2 (lenZ l) ∧
 Int.ofNat (List.length (x.1.2 ++ cutZ l x.2.1 x.2.2)) ≤ maxRow ∧
 allU8 [PV.int .u8 (92 : Int)] ∧
 Int.ofNat (List.length (x.1.2 ++ cutZ l x.2.1 x.2.2 ++ [zByte (92 : Int)])) ≤ maxRow ∧
 ((0 : Int) ≤ byteZ l x.2.2 ∧ byteZ l x.2.2 ≤ (255 : Int)) ∧
 ((!decide (shortZ (byteZ l x.2.2) = (0 : Int))) = true →
 allU8 [PV.int .u8 (shortZ (byteZ l x.2.2))] ∧
 Int.ofNat
 (List.length
 (x.1.2 ++ cutZ l x.2.1 x.2.2 ++ [zByte (92 : Int)] ++
 [zByte (shortZ (byteZ l x.2.2))])) ≤
 maxRow ∧
 inI64 (x.2.2 + (1 : Int)) ∧
 inI64 (x.2.2 + (1 : Int)) ∧
 VS.mk []
 [((0 : Nat),
 PV.row false
 (BRow.bytes
 (x.1.2 ++ cutZ l x.2.1 x.2.2 ++ [zByte (92 : Int)] ++
 [zByte (shortZ (byteZ l x.2.2))]))
 (nat_lit 0 + (1 : Nat))),
 (1, PV.str l), (4, PV.row true (BRow.bytes []) ((4 : Nat) + (32 : Nat))),
 ((5 : Nat), PV.int .i64 (x.2.2 + (1 : Int))), ((6 : Nat), PV.undef),
 ((7 : Nat), PV.undef), ((8 : Nat), PV.undef),
 (13, PV.int .i64 (lenZ l)),
 ((14 : Nat), PV.int .i64 (x.2.2 + (1 : Int))), ((15 : Nat), PV.undef),
 ((29 : Nat), PV.undef), ((41 : Nat), PV.undef)]
 [] =
 VS.mk []
 [((0 : Nat),
 PV.row false
 (BRow.bytes
 (x.1.2 ++ cutZ l x.2.1 x.2.2 ++ [zByte (92 : Int)] ++
 [zByte (shortZ (byteZ l x.2.2))]))
 (nat_lit 0 + (1 : Nat))),
 (1, PV.str l), (4, PV.row true (BRow.bytes []) ((4 : Nat) + (32 : Nat))),
 ((5 : Nat), PV.int .i64 (x.2.2 + (1 : Int))), ((6 : Nat), PV.undef),
 ((7 : Nat), PV.undef), ((8 : Nat), PV.undef),
 (13, PV.int .i64 (lenZ l)),
 ((14 : Nat), PV.int .i64 (x.2.2 + (1 : Int))), ((15 : Nat), PV.undef),
 ((29 : Nat), PV.undef), ((41 : Nat), PV.undef)]
 [] ∧
 ((0 : Int) ≤ x.2.2 + (1 : Int) ∧
 x.2.2 + (1 : Int) ≤ x.2.2 + (1 : Int) ∧
 x.2.2 + (1 : Int) ≤ ↑(List.length l) ∧
 false = false ∧
 x.1.2 ++ cutZ l x.2.1 x.2.2 ++ [zByte (92 : Int)] ++
 [zByte (shortZ (byteZ l x.2.2))] =
 b ++ (34 : UInt8) :: escJ (List.take (x.2.2 + (1 : Int)).toNat l) ∧
 escJ
 (List.drop (x.2.2 + (1 : Int)).toNat (List.take (x.2.2 + (1 : Int)).toNat l)) =
 List.drop (x.2.2 + (1 : Int)).toNat (List.take (x.2.2 + (1 : Int)).toNat l)) ∧
 (↑(List.length l) - (x.2.2 + (1 : Int))).toNat < (↑(List.length l) - x.2.2).toNat) ∧
 ((!decide (shortZ (byteZ l x.2.2) = (0 : Int))) = false →
 (0 : Int) ≤ (4 : Int) ∧
 within (shrZ .u8 (byteZ l x.2.2) (4 : Int))
 (lenZ
 (ByteArray.mk
 #[48, 49, 50, 51, 52, 53, 54, 55, 56, 57, 97, 98, 99, 100, 101, 102]).data.toList) ∧
 within (bitsZ Go.BinOp.and .u8 (byteZ l x.2.2) (15 : Int))
 (lenZ
 (ByteArray.mk
 #[48, 49, 50, 51, 52, 53, 54, 55, 56, 57, 97, 98, 99, 100, 101, 102]).data.toList) ∧
 allU8
 [PV.int .u8 (117 : Int), PV.int .u8 (48 : Int),
 PV.int .u8 (48 : Int),
 PV.int .u8
 (byteZ
 (ByteArray.mk
 #[48, 49, 50, 51, 52, 53, 54, 55, 56, 57, 97, 98, 99, 100, 101, 102]).data.toList
 (shrZ .u8 (byteZ l x.2.2) (4 : Int))),
 PV.int .u8
 (byteZ
 (ByteArray.mk
 #[48, 49, 50, 51, 52, 53, 54, 55, 56, 57, 97, 98, 99, 100, 101, 102]).data.toList
 (bitsZ Go.BinOp.and .u8 (byteZ l x.2.2) (15 : Int)))] ∧
 Int.ofNat
 (List.length
 (x.1.2 ++ cutZ l x.2.1 x.2.2 ++ [zByte (92 : Int)] ++
 [zByte (117 : Int), zByte (48 : Int), zByte (48 : Int),
 zByte
 (byteZ
 (ByteArray.mk
 #[48, 49, 50, 51, 52, 53, 54, 55, 56, 57, 97, 98, 99, 100, 101, 102]).data.toList
 (shrZ .u8 (byteZ l x.2.2) (4 : Int))),
 zByte
 (byteZ
 (ByteArray.mk
 #[48, 49, 50, 51, 52, 53, 54, 55, 56, 57, 97, 98, 99, 100, 101, 102]).data.toList
 (bitsZ Go.BinOp.and .u8 (byteZ l x.2.2) (15 : Int)))])) ≤
 maxRow ∧
 inI64 (x.2.2 + (1 : Int)) ∧
 inI64 (x.2.2 + (1 : Int)) ∧
 VS.mk []
 [((0 : Nat),
 PV.row false
 (BRow.bytes
 (x.1.2 ++ cutZ l x.2.1 x.2.2 ++ [zByte (92 : Int)] ++
 [zByte (117 : Int), zByte (48 : Int), zByte (48 : Int),
 zByte
 (byteZ
 (ByteArray.mk
 #[48, 49, 50, 51, 52, 53, 54, 55, 56, 57, 97, 98, 99, 100, 101, 102]).data.toList
 (shrZ .u8 (byteZ l x.2.2) (4 : Int))),
 zByte
 (byteZ
 (ByteArray.mk
 #[48, 49, 50, 51, 52, 53, 54, 55, 56, 57, 97, 98, 99, 100, 101, 102]).data.toList
 (bitsZ Go.BinOp.and .u8 (byteZ l x.2.2) (15 : Int)))]))
 (nat_lit 0 + (1 : Nat))),
 (1, PV.str l),
 (4, PV.row true (BRow.bytes []) ((4 : Nat) + (32 : Nat))),
 ((5 : Nat), PV.int .i64 (x.2.2 + (1 : Int))), ((6 : Nat), PV.undef),
 ((7 : Nat), PV.undef), ((8 : Nat), PV.undef),
 (13, PV.int .i64 (lenZ l)),
 ((14 : Nat), PV.int .i64 (x.2.2 + (1 : Int))), ((15 : Nat), PV.undef),
 ((29 : Nat), PV.undef), ((41 : Nat), PV.undef)]
 [] =
 VS.mk []
 [((0 : Nat),
 PV.row false
 (BRow.bytes
 (x.1.2 ++ cutZ l x.2.1 x.2.2 ++ [zByte (92 : Int)] ++
 [zByte (117 : Int), zByte (48 : Int), zByte (48 : Int),
 zByte
 (byteZ
 (ByteArray.mk
 #[48, 49, 50, 51, 52, 53, 54, 55, 56, 57, 97, 98, 99, 100, 101, 102]).data.toList
 (shrZ .u8 (byteZ l x.2.2) (4 : Int))),
 zByte
 (byteZ
 (ByteArray.mk
 #[48, 49, 50, 51, 52, 53, 54, 55, 56, 57, 97, 98, 99, 100, 101, 102]).data.toList
 (bitsZ Go.BinOp.and .u8 (byteZ l x.2.2) (15 : Int)))]))
 (nat_lit 0 + (1 : Nat))),
 (1, PV.str l),
 (4, PV.row true (BRow.bytes []) ((4 : Nat) + (32 : Nat))),
 ((5 : Nat), PV.int .i64 (x.2.2 + (1 : Int))), ((6 : Nat), PV.undef),
 ((7 : Nat), PV.undef), ((8 : Nat), PV.undef),
 (13, PV.int .i64 (lenZ l)),
 ((14 : Nat), PV.int .i64 (x.2.2 + (1 : Int))), ((15 : Nat), PV.undef),
 ((29 : Nat), PV.undef), ((41 : Nat), PV.undef)]
 [] ∧
 ((0 : Int) ≤ x.2.2 + (1 : Int) ∧
 x.2.2 + (1 : Int) ≤ x.2.2 + (1 : Int) ∧
 x.2.2 + (1 : Int) ≤ ↑(List.length l) ∧
 false = false ∧
 x.1.2 ++ cutZ l x.2.1 x.2.2 ++ [zByte (92 : Int)] ++
 [zByte (117 : Int), zByte (48 : Int), zByte (48 : Int),
 zByte
 (byteZ
 (ByteArray.mk
 #[48, 49, 50, 51, 52, 53, 54, 55, 56, 57, 97, 98, 99, 100, 101, 102]).data.toList
 (shrZ .u8 (byteZ l x.2.2) (4 : Int))),
 zByte
 (byteZ
 (ByteArray.mk
 #[48, 49, 50, 51, 52, 53, 54, 55, 56, 57, 97, 98, 99, 100, 101, 102]).data.toList
 (bitsZ Go.BinOp.and .u8 (byteZ l x.2.2) (15 : Int)))] =
 b ++ (34 : UInt8) :: escJ (List.take (x.2.2 + (1 : Int)).toNat l) ∧
 escJ
 (List.drop (x.2.2 + (1 : Int)).toNat (List.take (x.2.2 + (1 : Int)).toNat l)) =
 List.drop (x.2.2 + (1 : Int)).toNat (List.take (x.2.2 + (1 : Int)).toNat l)) ∧
 (↑(List.length l) - (x.2.2 + (1 : Int))).toNat < (↑(List.length l) - x.2.2).toNat))) ∧
 (decide (x.2.2 < lenZ l) = false →
 upto x.2.1 (lenZ l) (lenZ l) ∧
 Int.ofNat (List.length (x.1.2 ++ dropZ l x.2.1)) ≤ maxRow ∧
 allU8 [PV.int .u8 (34 : Int)] ∧
 Int.ofNat (List.length (x.1.2 ++ dropZ l x.2.1 ++ [zByte (34 : Int)])) ≤ maxRow ∧
 k (PV.row false (BRow.bytes (x.1.2 ++ dropZ l x.2.1 ++ [zByte (34 : Int)])) (Nat.succ (nat_lit 0))))) := by kernel_rfl
attribute [local irreducible] Go.Vc.evF Go.Vc.evR
theorem ok_apptext (nb : Bool) (b l : Bs) : FuncOk Try.prog noT 34 [.row nb (.bytes b) 1, .str l] ⟨l.length ≤ 100000 ∧ b.length ≤ 12000000, .row false (.bytes (b ++ quoteJ l)) 1⟩ := evH_ok (by kernel_rfl) X_apptext_ok (H := H_apptext nb b l) (fuel := 1000) Try.func34 (by kernel_rfl) fun hpre => (vc_apptext nb b l _).mpr (by
  obtain ⟨hl, hb⟩ := hpre
  have hmr : maxRow = 16777216 := rfl
  have hlz : lenZ l = (l.length : Int) := rfl
  have hz : ∀ n, (escJ (l.take n)).length ≤ 600000 := fun n => by
    have h1 := (escJ_len (l.take n)).2
    have h2 : (l.take n).length ≤ l.length := by rw [List.length_take]; omega
    omega
  have hh : lenZ HX = 16 := by decide
  refine ⟨u8_1 (by omega) (by omega), by simp only [List.length_append, List.length_singleton, Int.ofNat_eq_natCast]; omega, rfl, ⟨by omega, by omega, by omega, rfl, rfl, rfl⟩, fun x hx => ?_⟩
  obtain ⟨⟨nl, o⟩, fr, i⟩ := x
  obtain ⟨h0, h1, h2, h3, h4, h5⟩ := hx
  simp only at h0 h1 h2 h3 h4 h5
  subst h3
  subst h4
  obtain ⟨f, rfl⟩ := Int.eq_ofNat_of_zero_le h0
  obtain ⟨n, rfl⟩ := Int.eq_ofNat_of_zero_le (Int.le_trans h0 h1)
  rw [Int.toNat_natCast, Int.toNat_natCast] at h5
  simp only [Int.toNat_natCast]
  have hE := esc_join (l := l) (f := f) (n := n) (by omega) h5
  have hn1 : ((n : Int) + 1).toNat = n + 1 := by omega
  simp only [hn1]
  refine ⟨fun g => ?_, fun g => ?_⟩
  · have g1 : n < l.length := by have := of_decide_eq_true g; omega
    have hT := escJ_take g1
    have eb := byte_at g1
    obtain ⟨c, hc⟩ : ∃ c, c = l[n] := ⟨_, rfl⟩
    rw [← hc] at eb hT
    have c0 : (0 : Int) ≤ c.toNat := by omega
    have c1 : (c.toNat : Int) ≤ 255 := by have := c.toNat_lt; omega
    simp only [eb]
    have hd : List.drop (n + 1) (List.take (n + 1) l) = [] := List.drop_of_length_le (by rw [List.length_take]; omega)
    have hcut : cutZ l (f : Int) (n : Int) = (l.take n).drop f := rfl
    have hq := hz n
    have hq1 := hz (n + 1)
    refine ⟨⟨by omega, by omega⟩, fun q => ?_, fun q => ?_⟩
    · have q2 : 32 ≤ (c.toNat : Int) ∧ (c.toNat : Int) ≠ 34 ∧ (c.toNat : Int) ≠ 92 := by
        by_cases a1 : 32 ≤ (c.toNat : Int) <;> by_cases a2 : (c.toNat : Int) = 34 <;> by_cases a3 : (c.toNat : Int) = 92 <;> simp [a1, a2, a3] at q ⊢
      have hp := esc_plain q2
      refine ⟨by unfold inI64; omega, trivial, ⟨by omega, by omega, by omega, by first | rfl | trivial, by first | rfl | trivial, ?_⟩, by omega⟩
      have e1 : List.take (n + 1) l = l.take n ++ [c] := by rw [List.take_add_one, List.getElem?_eq_getElem g1, hc]; rfl
      have e2 : List.drop f (l.take n ++ [c]) = (l.take n).drop f ++ [c] := by
        rw [List.drop_append, List.length_take, show f - min n l.length = 0 by omega]; rfl
      rw [e1, e2, escJ_app, h5]
      show _ ++ (escB c ++ []) = _
      rw [hp]; rfl
    · have q2 : ¬ (32 ≤ (c.toNat : Int) ∧ (c.toNat : Int) ≠ 34 ∧ (c.toNat : Int) ≠ 92) := by
        rintro ⟨a1, a2, a3⟩
        simp [a1, a2, a3] at q
      have hs := shortZ_u8 c0 c1
      rw [hcut]
      have hO : b ++ 34 :: escJ (l.take f) ++ (l.take n).drop f = b ++ 34 :: escJ (l.take n) := by rw [← hE]; simp
      rw [hO]
      refine ⟨⟨by omega, by omega, by omega⟩, by simp only [List.length_append, List.length_cons, Int.ofNat_eq_natCast]; omega, u8_1 (by omega) (by omega), by simp only [List.length_append, List.length_cons, List.length_nil, Int.ofNat_eq_natCast]; omega, ⟨c0, c1⟩, fun r => ?_, fun r => ?_⟩
      · have r2 : shortZ c.toNat ≠ 0 := by simpa using r
        have hp : escB c = [92, zByte (shortZ c.toNat)] := by unfold escB; rw [if_pos r2]
        refine ⟨u8_1 hs.1 hs.2, by simp only [List.length_append, List.length_cons, List.length_nil, Int.ofNat_eq_natCast]; omega, by unfold inI64; omega, by unfold inI64; omega, trivial, ⟨by omega, by omega, by omega, by first | rfl | trivial, ?_, by first | trivial | (rw [hd]; rfl)⟩, by omega⟩
        rw [hT, hp]
        simp [show zByte 92 = (92 : UInt8) by decide]
      · have r2 : shortZ c.toNat = 0 := by simpa using r
        have hp := esc_hex q2 r2
        obtain ⟨x1, x2, x3, x4⟩ := hexC c
        have y1 := byteZ_range HX (shrZ .u8 (c.toNat : Int) 4)
        have y2 := byteZ_range HX (bitsZ .and .u8 (c.toNat : Int) 15)
        refine ⟨by omega, ⟨x1.1, by rw [hh]; exact x1.2⟩, ⟨x2.1, by rw [hh]; exact x2.2⟩, ⟨u8_0 (by omega) (by omega), u8_0 (by omega) (by omega), u8_0 (by omega) (by omega), u8_0 y1.1 y1.2, u8_0 y2.1 y2.2⟩, by simp only [List.length_append, List.length_cons, List.length_nil, Int.ofNat_eq_natCast]; omega, by unfold inI64; omega, by unfold inI64; omega, trivial, ⟨by omega, by omega, by omega, by first | rfl | trivial, ?_, by first | trivial | (rw [hd]; rfl)⟩, by omega⟩
        rw [hT, hp, x3, x4]
        simp [show zByte 92 = (92 : UInt8) by decide, show zByte 117 = (117 : UInt8) by decide, show zByte 48 = (48 : UInt8) by decide]
  · have g1 : ¬ (n : Int) < l.length := of_decide_eq_false g
    have g2 : n = l.length := by omega
    have ht : l.take n = l := by rw [g2, List.take_length]
    rw [ht] at hE h5
    have hdz : dropZ l (f : Int) = l.drop f := rfl
    have hO : b ++ 34 :: escJ (l.take f) ++ l.drop f = b ++ 34 :: escJ l := by rw [← hE]; simp
    rw [hdz, hO]
    have hq := hz n
    rw [ht] at hq
    refine ⟨⟨by omega, by omega, by omega⟩, by simp only [List.length_append, List.length_cons, Int.ofNat_eq_natCast]; omega, u8_1 (by omega) (by omega), by simp only [List.length_append, List.length_cons, List.length_nil, Int.ofNat_eq_natCast]; omega, ?_⟩
    intro G w u hr
    have e : b ++ 34 :: escJ l ++ [zByte 34] = b ++ quoteJ l := by unfold quoteJ; simp [show zByte 34 = (34 : UInt8) by decide]
    rw [e] at hr
    exact hr)
def ent_apptext : List PV → Option CallR := fun xs => match xs with
  | [.row nb (.bytes b) 1, .str l] => some ⟨l.length ≤ 100000 ∧ b.length ≤ 12000000, .row false (.bytes (b ++ quoteJ l)) 1⟩
  | _ => none
theorem ent_apptext_ok : ∀ xs c, ent_apptext xs = some c → FuncOk Try.prog noT 34 xs c := fun xs c h => by
  unfold ent_apptext at h
  split at h
  · injection h with h; subst h; exact ok_apptext _ _ _
  · cases h
end
section
def ent_appvalue (dn : Nat) : List PV → Option CallR := fun xs => match xs with
  | [.row nb (.bytes b) 1, .agg [.int .i64 kd, .bool bv, .str sv, .row nk (.strs ks) 0, .vec nl 5 ls 0]] => some ⟨isJs ls ∧ okJ (dn) (.mk kd bv sv nk ks nl (jdecs ls)) ∧ shapeJ (.mk kd bv sv nk ks nl (jdecs ls)) = true ∧ b.length + 7 * sizeJ (.mk kd bv sv nk ks nl (jdecs ls)) ≤ 600000, .row false (.bytes (b ++ textJ (.mk kd bv sv nk ks nl (jdecs ls)))) 1⟩
  | _ => none
def X_apparr (m : Nat) : Tbl := tblX [(22, ent_appvalue m)]
def H_apparr (m : Nat) (nb : Bool) (b : Bs) (kd : Int) (bv : Bool) (sv : Bs) (nk : Bool) (ks : List Bs) (nl : Bool) (ls : List PV) : Loops := fun i => bif Nat.beq i 3 then some ⟨(Bool × Bs) × (Int), (fun s x => (((((s.row s 0 x.1.1 (.bytes x.1.2)).put 12 (.int .i64 x.2)).put 5 .undef).put 13 .undef).put 16 .undef)), (fun s => ((s.nil 0, s.bytes 0), s.int 12)), (fun s x => let o := x.1; let i := x.2; 0 ≤ i ∧ i ≤ ls.length ∧ o.1 = false ∧ o.2 = b ++ 91 :: arrJ true ((jdecs ls).take i.toNat)), (fun s x => let o := x.1; let i := x.2; ((ls.length : Int) - i).toNat), [5, 13, 16]⟩ else none
theorem X_apparr_ok (m : Nat) (h_appvalue : ∀ xs c, ent_appvalue m xs = some c → FuncOk Try.prog noT 22 xs c) : XOk Try.prog noT (X_apparr m) := tblX_cons h_appvalue (tblX_nil)
theorem vc_apparr (m : Nat) (nb : Bool) (b : Bs) (kd : Int) (bv : Bool) (sv : Bs) (nk : Bool) (ks : List Bs) (nl : Bool) (ls : List PV) (k : PV → Prop) : evR Try.prog (X_apparr m) noT (H_apparr m nb b kd bv sv nk ks nl ls) 1000 Try.f35 [.row nb (.bytes b) 1, .agg [.int .i64 kd, .bool bv, .str sv, .row nk (.strs ks) 0, .vec nl 5 ls 0]] k = (
  allU8 [PV.int .u8 (91 : Int)] ∧
 Int.ofNat (List.length (b ++ [zByte (91 : Int)])) ≤ maxRow ∧
 VS.mk []
 [(0, PV.row false (BRow.bytes (b ++ [zByte (91 : Int)])) (nat_lit 0 + (1 : Nat))),
 (1,
 PV.agg
 [PV.int .i64 kd, PV.bool bv, PV.str sv, PV.row nk (BRow.strs ks) (0 : Nat),
 PV.vec nl (5 : Nat) ls (0 : Nat)]),
 (3, PV.ptr ((3 : Nat) + (32 : Nat)) (0 : Nat)), (4, PV.row true (BRow.bytes []) ((4 : Nat) + (32 : Nat))),
 ((5 : Nat), PV.undef), (11, PV.int .i64 (lenZ ls)), (12, PV.int .i64 (0 : Int)),
 ((13 : Nat), PV.undef), ((16 : Nat), PV.undef)]
 [((3 : Nat) + (32 : Nat),
 PV.agg
 [PV.int .i64 kd, PV.bool bv, PV.str sv, PV.row nk (BRow.strs ks) (0 : Nat),
 PV.vec nl (5 : Nat) ls (0 : Nat)])] =
 VS.mk []
 [((0 : Nat), PV.row false (BRow.bytes (b ++ [zByte (91 : Int)])) (nat_lit 0 + (1 : Nat))),
 (1,
 PV.agg
 [PV.int .i64 kd, PV.bool bv, PV.str sv, PV.row nk (BRow.strs ks) (0 : Nat),
 PV.vec nl (5 : Nat) ls (0 : Nat)]),
 (3, PV.ptr ((3 : Nat) + (32 : Nat)) (0 : Nat)), (4, PV.row true (BRow.bytes []) ((4 : Nat) + (32 : Nat))),
 ((5 : Nat), PV.undef), (11, PV.int .i64 (lenZ ls)), ((12 : Nat), PV.int .i64 (0 : Int)),
 ((13 : Nat), PV.undef), ((16 : Nat), PV.undef)]
 [((3 : Nat) + (32 : Nat),
 PV.agg
 [PV.int .i64 kd, PV.bool bv, PV.str sv, PV.row nk (BRow.strs ks) (0 : Nat),
 PV.vec nl (5 : Nat) ls (0 : Nat)])] ∧
 ((0 : Int) ≤ (0 : Int) ∧
 (0 : Int) ≤ ↑ls.length ∧
 false = false ∧
 b ++ [zByte (91 : Int)] = b ++ (91 : UInt8) :: arrJ true (List.take (Int.toNat (0 : Int)) (jdecs ls))) ∧
 ∀ (x : (Bool × Bs) × Int),
 (0 : Int) ≤ x.2 ∧
 x.2 ≤ ↑ls.length ∧ x.1.1 = false ∧ x.1.2 = b ++ (91 : UInt8) :: arrJ true (List.take x.2.toNat (jdecs ls)) →
 (decide (x.2 < lenZ ls) = true →
 (decide ((0 : Int) < x.2) = true →
 allU8 [PV.int .u8 (44 : Int)] ∧
 Int.ofNat (List.length (x.1.2 ++ [zByte (44 : Int)])) ≤ maxRow ∧
 within x.2 (lenZ ls) ∧
 eltV ls x.2 =
 PV.agg
 [PV.int .i64 ((eltV ls x.2).part (0 : Nat)).asInt,
 PV.bool
 ((eltV ls x.2).part (1 : Nat)).asBool,
 PV.str
 ((eltV ls x.2).part (2 : Nat)).asStr,
 PV.row
 ((eltV ls x.2).part
 (3 : Nat)).asNil
 (BRow.strs
 ((eltV ls x.2).part
 (3 : Nat)).asStrs)
 (0 : Nat),
 PV.vec
 ((eltV ls x.2).part
 (4 : Nat)).asNil
 (nat_lit 5)
 ((eltV ls x.2).part
 (4 : Nat)).asVec
 (0 : Nat)] ∧
 (isJs
 ((eltV ls x.2).part
 (4 : Nat)).asVec ∧
 okJ m
 (JV.mk ((eltV ls x.2).part (0 : Nat)).asInt
 ((eltV ls x.2).part (1 : Nat)).asBool
 ((eltV ls x.2).part
 (2 : Nat)).asStr
 ((eltV ls x.2).part
 (3 : Nat)).asNil
 ((eltV ls x.2).part
 (3 : Nat)).asStrs
 ((eltV ls x.2).part
 (4 : Nat)).asNil
 (jdecs
 ((eltV ls x.2).part
 (4 : Nat)).asVec)) ∧
 shapeJ
 (JV.mk ((eltV ls x.2).part (0 : Nat)).asInt
 ((eltV ls x.2).part (1 : Nat)).asBool
 ((eltV ls x.2).part
 (2 : Nat)).asStr
 ((eltV ls x.2).part
 (3 : Nat)).asNil
 ((eltV ls x.2).part
 (3 : Nat)).asStrs
 ((eltV ls x.2).part
 (4 : Nat)).asNil
 (jdecs
 ((eltV ls x.2).part
 (4 : Nat)).asVec)) =
 true ∧
 List.length (x.1.2 ++ [zByte (44 : Int)]) +
 (7 : Nat) *
 sizeJ
 (JV.mk
 ((eltV ls x.2).part (0 : Nat)).asInt
 ((eltV ls x.2).part (1 : Nat)).asBool
 ((eltV ls x.2).part
 (2 : Nat)).asStr
 ((eltV ls x.2).part
 (3 : Nat)).asNil
 ((eltV ls x.2).part
 (3 : Nat)).asStrs
 ((eltV ls x.2).part
 (4 : Nat)).asNil
 (jdecs
 ((eltV ls x.2).part
 (4 : Nat)).asVec)) ≤
 (600000 : Nat)) ∧
 inI64 (x.2 + (1 : Int)) ∧
 VS.mk []
 [((0 : Nat),
 PV.row false
 (BRow.bytes
 (x.1.2 ++ [zByte (44 : Int)] ++
 textJ
 (JV.mk
 ((eltV ls x.2).part (0 : Nat)).asInt
 ((eltV ls x.2).part
 (1 : Nat)).asBool
 ((eltV ls x.2).part
 (2 : Nat)).asStr
 ((eltV ls x.2).part
 (3 : Nat)).asNil
 ((eltV ls x.2).part
 (3 : Nat)).asStrs
 ((eltV ls x.2).part
 (4 : Nat)).asNil
 (jdecs
 ((eltV ls x.2).part
 (4 : Nat)).asVec))))
 (nat_lit 0 + (1 : Nat))),
 (1,
 PV.agg
 [PV.int .i64 kd, PV.bool bv, PV.str sv, PV.row nk (BRow.strs ks) (0 : Nat),
 PV.vec nl (5 : Nat) ls (0 : Nat)]),
 (3, PV.ptr ((3 : Nat) + (32 : Nat)) (0 : Nat)),
 (4, PV.row true (BRow.bytes []) ((4 : Nat) + (32 : Nat))), ((5 : Nat), PV.undef),
 (11, PV.int .i64 (lenZ ls)),
 ((12 : Nat), PV.int .i64 (x.2 + (1 : Int))), ((13 : Nat), PV.undef),
 ((16 : Nat), PV.undef)]
 [((3 : Nat) + (32 : Nat),
 PV.agg
 [PV.int .i64 kd, PV.bool bv, PV.str sv, PV.row nk (BRow.strs ks) (0 : Nat),
 PV.vec nl (5 : Nat) ls (0 : Nat)])] =
 VS.mk []
 [((0 : Nat),
 PV.row false
 (BRow.bytes
 (x.1.2 ++ [zByte (44 : Int)] ++
 textJ
 (JV.mk
 ((eltV ls x.2).part (0 : Nat)).asInt
 ((eltV ls x.2).part
 (1 : Nat)).asBool
 ((eltV ls x.2).part
 (2 : Nat)).asStr
 ((eltV ls x.2).part
 (3 : Nat)).asNil
 ((eltV ls x.2).part
 (3 : Nat)).asStrs
 ((eltV ls x.2).part
 (4 : Nat)).asNil
 (jdecs
 ((eltV ls x.2).part
 (4 : Nat)).asVec))))
 (nat_lit 0 + (1 : Nat))),
 (1,
 PV.agg
 [PV.int .i64 kd, PV.bool bv, PV.str sv, PV.row nk (BRow.strs ks) (0 : Nat),
 PV.vec nl (5 : Nat) ls (0 : Nat)]),
 (3, PV.ptr ((3 : Nat) + (32 : Nat)) (0 : Nat)),
 (4, PV.row true (BRow.bytes []) ((4 : Nat) + (32 : Nat))), ((5 : Nat), PV.undef),
 (11, PV.int .i64 (lenZ ls)),
 ((12 : Nat), PV.int .i64 (x.2 + (1 : Int))), ((13 : Nat), PV.undef),
 ((16 : Nat), PV.undef)]
 [((3 : Nat) + (32 : Nat),
 PV.agg
 [PV.int .i64 kd, PV.bool bv, PV.str sv, PV.row nk (BRow.strs ks) (0 : Nat),
 PV.vec nl (5 : Nat) ls (0 : Nat)])] ∧
 ((0 : Int) ≤ x.2 + (1 : Int) ∧
 x.2 + (1 : Int) ≤ ↑ls.length ∧
 false = false ∧
 x.1.2 ++ [zByte (44 : Int)] ++
 textJ
 (JV.mk
 ((eltV ls x.2).part (0 : Nat)).asInt
 ((eltV ls x.2).part
 (1 : Nat)).asBool
 ((eltV ls x.2).part
 (2 : Nat)).asStr
 ((eltV ls x.2).part
 (3 : Nat)).asNil
 ((eltV ls x.2).part
 (3 : Nat)).asStrs
 ((eltV ls x.2).part
 (4 : Nat)).asNil
 (jdecs
 ((eltV ls x.2).part
 (4 : Nat)).asVec)) =
 b ++ (91 : UInt8) :: arrJ true (List.take (x.2 + (1 : Int)).toNat (jdecs ls))) ∧
 (↑ls.length - (x.2 + (1 : Int))).toNat < (↑ls.length - x.2).toNat) ∧
 (decide ((0 : Int) < x.2) = false →
 within x.2 (lenZ ls) ∧
 eltV ls x.2 =
 PV.agg
 [PV.int .i64 ((eltV ls x.2).part (0 : Nat)).asInt,
 PV.bool ((eltV ls x.2).part (1 : Nat)).asBool,
 PV.str
 ((eltV ls x.2).part (2 : Nat)).asStr,
 PV.row
 ((eltV ls x.2).part
 (3 : Nat)).asNil
 (BRow.strs
 ((eltV ls x.2).part
 (3 : Nat)).asStrs)
 (0 : Nat),
 PV.vec
 ((eltV ls x.2).part
 (4 : Nat)).asNil
 (nat_lit 5)
 ((eltV ls x.2).part
 (4 : Nat)).asVec
 (0 : Nat)] ∧
 (isJs
 ((eltV ls x.2).part
 (4 : Nat)).asVec ∧
 okJ m
 (JV.mk ((eltV ls x.2).part (0 : Nat)).asInt
 ((eltV ls x.2).part (1 : Nat)).asBool
 ((eltV ls x.2).part (2 : Nat)).asStr
 ((eltV ls x.2).part
 (3 : Nat)).asNil
 ((eltV ls x.2).part
 (3 : Nat)).asStrs
 ((eltV ls x.2).part
 (4 : Nat)).asNil
 (jdecs
 ((eltV ls x.2).part
 (4 : Nat)).asVec)) ∧
 shapeJ
 (JV.mk ((eltV ls x.2).part (0 : Nat)).asInt
 ((eltV ls x.2).part (1 : Nat)).asBool
 ((eltV ls x.2).part
 (2 : Nat)).asStr
 ((eltV ls x.2).part
 (3 : Nat)).asNil
 ((eltV ls x.2).part
 (3 : Nat)).asStrs
 ((eltV ls x.2).part
 (4 : Nat)).asNil
 (jdecs
 ((eltV ls x.2).part
 (4 : Nat)).asVec)) =
 true ∧
 List.length x.1.2 +
 (7 : Nat) *
 sizeJ
 (JV.mk ((eltV ls x.2).part (0 : Nat)).asInt
 ((eltV ls x.2).part (1 : Nat)).asBool
 ((eltV ls x.2).part
 (2 : Nat)).asStr
 ((eltV ls x.2).part
 (3 : Nat)).asNil
 ((eltV ls x.2).part
 (3 : Nat)).asStrs
 ((eltV ls x.2).part
 (4 : Nat)).asNil
 (jdecs
 ((eltV ls x.2).part
 (4 : Nat)).asVec)) ≤
 (600000 : Nat)) ∧
 inI64 (x.2 + (1 : Int)) ∧
 VS.mk []
 [((0 : Nat),
 PV.row false
 (BRow.bytes
 (x.1.2 ++
 textJ
 (JV.mk
 ((eltV ls x.2).part (0 : Nat)).asInt
 ((eltV ls x.2).part (1 : Nat)).asBool
 ((eltV ls x.2).part
 (2 : Nat)).asStr
 ((eltV ls x.2).part
 (3 : Nat)).asNil
 ((eltV ls x.2).part
 (3 : Nat)).asStrs
 ((eltV ls x.2).part
 (4 : Nat)).asNil
 (jdecs
 ((eltV ls x.2).part
 (4 : Nat)).asVec))))
 (nat_lit 0 + (1 : Nat))),
 (1,
 PV.agg
 [PV.int .i64 kd, PV.bool bv, PV.str sv, PV.row nk (BRow.strs ks) (0 : Nat),
 PV.vec nl (5 : Nat) ls (0 : Nat)]),
 (3, PV.ptr ((3 : Nat) + (32 : Nat)) (0 : Nat)),
 (4, PV.row true (BRow.bytes []) ((4 : Nat) + (32 : Nat))), ((5 : Nat), PV.undef),
 (11, PV.int .i64 (lenZ ls)), ((12 : Nat), PV.int .i64 (x.2 + (1 : Int))),
 ((13 : Nat), PV.undef), ((16 : Nat), PV.undef)]
 [((3 : Nat) + (32 : Nat),
 PV.agg
 [PV.int .i64 kd, PV.bool bv, PV.str sv, PV.row nk (BRow.strs ks) (0 : Nat),
 PV.vec nl (5 : Nat) ls (0 : Nat)])] =
 VS.mk []
 [((0 : Nat),
 PV.row false
 (BRow.bytes
 (x.1.2 ++
 textJ
 (JV.mk
 ((eltV ls x.2).part (0 : Nat)).asInt
 ((eltV ls x.2).part (1 : Nat)).asBool
 ((eltV ls x.2).part
 (2 : Nat)).asStr
 ((eltV ls x.2).part
 (3 : Nat)).asNil
 ((eltV ls x.2).part
 (3 : Nat)).asStrs
 ((eltV ls x.2).part
 (4 : Nat)).asNil
 (jdecs
 ((eltV ls x.2).part
 (4 : Nat)).asVec))))
 (nat_lit 0 + (1 : Nat))),
 (1,
 PV.agg
 [PV.int .i64 kd, PV.bool bv, PV.str sv, PV.row nk (BRow.strs ks) (0 : Nat),
 PV.vec nl (5 : Nat) ls (0 : Nat)]),
 (3, PV.ptr ((3 : Nat) + (32 : Nat)) (0 : Nat)),
 (4, PV.row true (BRow.bytes []) ((4 : Nat) + (32 : Nat))), ((5 : Nat), PV.undef),
 (11, PV.int .i64 (lenZ ls)), ((12 : Nat), PV.int .i64 (x.2 + (1 : Int))),
 ((13 : Nat), PV.undef), ((16 : Nat), PV.undef)]
 [((3 : Nat) + (32 : Nat),
 PV.agg
 [PV.int .i64 kd, PV.bool bv, PV.str sv, PV.row nk (BRow.strs ks) (0 : Nat),
 PV.vec nl (5 : Nat) ls (0 : Nat)])] ∧
 ((0 : Int) ≤ x.2 + (1 : Int) ∧
 x.2 + (1 : Int) ≤ ↑ls.length ∧
 false = false ∧
 x.1.2 ++
 textJ
 (JV.mk
 ((eltV ls x.2).part (0 : Nat)).asInt
 ((eltV ls x.2).part (1 : Nat)).asBool
 ((eltV ls x.2).part
 (2 : Nat)).asStr
 ((eltV ls x.2).part
 (3 : Nat)).asNil
 ((eltV ls x.2).part
 (3 : Nat)).asStrs
 ((eltV ls x.2).part
 (4 : Nat)).asNil
 (jdecs
 ((eltV ls x.2).part
 (4 : Nat)).asVec)) =
 b ++ (91 : UInt8) :: arrJ true (List.take (x.2 + (1 : Int)).toNat (jdecs ls))) ∧
 (↑ls.length - (x.2 + (1 : Int))).toNat < (↑ls.length - x.2).toNat)) ∧
 (decide (x.2 < lenZ ls) = false →
 allU8 [PV.int .u8 (93 : Int)] ∧
 Int.ofNat (List.length (x.1.2 ++ [zByte (93 : Int)])) ≤ maxRow ∧
 k (PV.row false (BRow.bytes (x.1.2 ++ [zByte (93 : Int)])) (Nat.succ (nat_lit 0))))) := by kernel_rfl
attribute [local irreducible] Go.Vc.evF Go.Vc.evR
theorem ok_apparr (m : Nat) (h_appvalue : ∀ xs c, ent_appvalue m xs = some c → FuncOk Try.prog noT 22 xs c) (nb : Bool) (b : Bs) (kd : Int) (bv : Bool) (sv : Bs) (nk : Bool) (ks : List Bs) (nl : Bool) (ls : List PV) : FuncOk Try.prog noT 35 [.row nb (.bytes b) 1, .agg [.int .i64 kd, .bool bv, .str sv, .row nk (.strs ks) 0, .vec nl 5 ls 0]] ⟨isJs ls ∧ okJ (m + 1) (.mk kd bv sv nk ks nl (jdecs ls)) ∧ shapeJ (.mk kd bv sv nk ks nl (jdecs ls)) = true ∧ b.length + 7 * sizeJ (.mk kd bv sv nk ks nl (jdecs ls)) ≤ 600000, .row false (.bytes (b ++ 91 :: (arrJ true (jdecs ls) ++ [93]))) 1⟩ := evH_ok (by kernel_rfl) (X_apparr_ok m h_appvalue) (H := H_apparr m nb b kd bv sv nk ks nl ls) (fuel := 1000) Try.func35 (by kernel_rfl) fun hpre => (vc_apparr m nb b kd bv sv nk ks nl ls _).mpr (by
  obtain ⟨⟨js, rfl⟩, hok, hsh, hsz⟩ := hpre
  rw [jdecs_pvs] at hok hsh hsz
  obtain ⟨hk, hs, hks, hkl, hls, hj⟩ := hok
  simp only [JV.k, JV.s, JV.ks, JV.ls] at hk hs hks hkl hls hj
  have hml : bigJ = 140737488355328 := rfl
  have hmr : maxRow = 16777216 := rfl
  rw [sizeJ] at hsz
  have hsh2 : shapeJs js = true := by rw [shapeJ, Bool.and_eq_true] at hsh; exact hsh.2
  simp only [jdecs_pvs, pvs_lenZ, pvs_length]
  refine ⟨u8_1 (by omega) (by omega), by simp only [List.length_append, List.length_cons, List.length_nil, Int.ofNat_eq_natCast]; omega, by first | rfl | trivial, ⟨by omega, by omega, by first | rfl | trivial, by first | trivial | (simp [arrJ, show zByte 91 = (91 : UInt8) by decide])⟩, fun x hx => ?_⟩
  obtain ⟨⟨nl', o⟩, i⟩ := x
  obtain ⟨h0, h1, h2, h3⟩ := hx
  simp only at h0 h1 h2 h3
  subst h2
  subst h3
  obtain ⟨n, rfl⟩ := Int.eq_ofNat_of_zero_le h0
  simp only [Int.toNat_natCast]
  have hn1 : ((n : Int) + 1).toNat = n + 1 := by omega
  simp only [hn1]
  have hst := sizeJs_take_le js n
  have hA := arrJ_len true (js.take n)
  refine ⟨fun g => ?_, fun g => ?_⟩
  · have g1 : n < js.length := by have := of_decide_eq_true g; omega
    have hT := sizeJs_take g1
    have hT1 := sizeJs_take_le js (n + 1)
    have y1 := hj _ (List.getElem_mem g1)
    have y2 := shapeJs_mem (List.getElem_mem g1) hsh2
    have hAT := arrJ_take g1 true
    simp only [elt_jv g1, jp0, jp1, jp2, jp3, jp3', jp4, jp4', jdecs_pvs, JV.eta']
    refine ⟨fun q => ?_, fun q => ?_⟩
    · have q2 : (0 : Int) < n := of_decide_eq_true q
      have q3 : n ≠ 0 := by omega
      refine ⟨u8_1 (by omega) (by omega), by simp only [List.length_append, List.length_cons, List.length_nil, Int.ofNat_eq_natCast]; omega, ⟨by omega, by omega⟩, JV.pv_eq _, ⟨isJs_of _, y1, y2, by simp only [List.length_append, List.length_cons, List.length_nil]; omega⟩, by unfold inI64; omega, by first | rfl | trivial, ⟨by omega, by omega, by first | rfl | trivial, ?_⟩, by omega⟩
      rw [hAT]
      simp [q3, show zByte 44 = (44 : UInt8) by decide]
    · have q2 : ¬ (0 : Int) < n := of_decide_eq_false q
      have q3 : n = 0 := by omega
      refine ⟨⟨by omega, by omega⟩, JV.pv_eq _, ⟨isJs_of _, y1, y2, by simp only [List.length_append, List.length_cons, List.length_nil]; omega⟩, by unfold inI64; omega, by first | rfl | trivial, ⟨by omega, by omega, by first | rfl | trivial, ?_⟩, by omega⟩
      rw [hAT]
      simp [q3, show zByte 44 = (44 : UInt8) by decide]
  · have g1 : ¬ (n : Int) < js.length := of_decide_eq_false g
    have ht : js.take n = js := List.take_of_length_le (by omega)
    rw [ht] at hA ⊢
    refine ⟨u8_1 (by omega) (by omega), by simp only [List.length_append, List.length_cons, List.length_nil, Int.ofNat_eq_natCast]; omega, ?_⟩
    intro G w u hr
    have e : b ++ 91 :: arrJ true js ++ [zByte 93] = b ++ 91 :: (arrJ true js ++ [93]) := by simp [show zByte 93 = (93 : UInt8) by decide]
    rw [e] at hr
    exact hr)
def ent_apparr (dn : Nat) : List PV → Option CallR := fun xs => match xs with
  | [.row nb (.bytes b) 1, .agg [.int .i64 kd, .bool bv, .str sv, .row nk (.strs ks) 0, .vec nl 5 ls 0]] => some ⟨isJs ls ∧ okJ (dn + 1) (.mk kd bv sv nk ks nl (jdecs ls)) ∧ shapeJ (.mk kd bv sv nk ks nl (jdecs ls)) = true ∧ b.length + 7 * sizeJ (.mk kd bv sv nk ks nl (jdecs ls)) ≤ 600000, .row false (.bytes (b ++ 91 :: (arrJ true (jdecs ls) ++ [93]))) 1⟩
  | _ => none
theorem ent_apparr_ok (m : Nat) (h_appvalue : ∀ xs c, ent_appvalue m xs = some c → FuncOk Try.prog noT 22 xs c) : ∀ xs c, ent_apparr m xs = some c → FuncOk Try.prog noT 35 xs c := fun xs c h => by
  unfold ent_apparr at h
  split at h
  · injection h with h; subst h; exact ok_apparr m h_appvalue _ _ _ _ _ _ _ _ _
  · cases h
end
section
def X_appobj (m : Nat) : Tbl := tblX [(34, ent_apptext), (22, ent_appvalue m)]
def H_appobj (m : Nat) (nb : Bool) (b : Bs) (kd : Int) (bv : Bool) (sv : Bs) (nk : Bool) (ks : List Bs) (nl : Bool) (ls : List PV) : Loops := fun i => bif Nat.beq i 3 then some ⟨(Bool × Bs) × (Int), (fun s x => (((((s.row s 0 x.1.1 (.bytes x.1.2)).put 12 (.int .i64 x.2)).put 5 .undef).put 13 .undef).put 16 .undef)), (fun s => ((s.nil 0, s.bytes 0), s.int 12)), (fun s x => let o := x.1; let i := x.2; 0 ≤ i ∧ i ≤ ls.length ∧ o.1 = false ∧ o.2 = b ++ 123 :: objJ true ks ((jdecs ls).take i.toNat)), (fun s x => let o := x.1; let i := x.2; ((ls.length : Int) - i).toNat), [5, 13, 16]⟩ else none
theorem X_appobj_ok (m : Nat) (h_appvalue : ∀ xs c, ent_appvalue m xs = some c → FuncOk Try.prog noT 22 xs c) : XOk Try.prog noT (X_appobj m) := tblX_cons ent_apptext_ok (tblX_cons h_appvalue (tblX_nil))
theorem vc_appobj (m : Nat) (nb : Bool) (b : Bs) (kd : Int) (bv : Bool) (sv : Bs) (nk : Bool) (ks : List Bs) (nl : Bool) (ls : List PV) (k : PV → Prop) : evR Try.prog (X_appobj m) noT (H_appobj m nb b kd bv sv nk ks nl ls) 1000 Try.f36 [.row nb (.bytes b) 1, .agg [.int .i64 kd, .bool bv, .str sv, .row nk (.strs ks) 0, .vec nl 5 ls 0]] k = (
  allU8 [PV.int .u8 (123 : Int)] ∧
 Int.ofNat (List.length (b ++ [zByte (123 : Int)])) ≤ maxRow ∧
 VS.mk []
 [(0, PV.row false (BRow.bytes (b ++ [zByte (123 : Int)])) (nat_lit 0 + (1 : Nat))),
 (1,
 PV.agg
 [PV.int .i64 kd, PV.bool bv, PV.str sv, PV.row nk (BRow.strs ks) (0 : Nat),
 PV.vec nl (5 : Nat) ls (0 : Nat)]),
 (3, PV.ptr ((3 : Nat) + (32 : Nat)) (0 : Nat)), (4, PV.row true (BRow.bytes []) ((4 : Nat) + (32 : Nat))),
 ((5 : Nat), PV.undef), (11, PV.int .i64 (lenZ ls)), (12, PV.int .i64 (0 : Int)),
 ((13 : Nat), PV.undef), ((16 : Nat), PV.undef)]
 [((3 : Nat) + (32 : Nat),
 PV.agg
 [PV.int .i64 kd, PV.bool bv, PV.str sv, PV.row nk (BRow.strs ks) (0 : Nat),
 PV.vec nl (5 : Nat) ls (0 : Nat)])] =
 VS.mk []
 [((0 : Nat), PV.row false (BRow.bytes (b ++ [zByte (123 : Int)])) (nat_lit 0 + (1 : Nat))),
 (1,
 PV.agg
 [PV.int .i64 kd, PV.bool bv, PV.str sv, PV.row nk (BRow.strs ks) (0 : Nat),
 PV.vec nl (5 : Nat) ls (0 : Nat)]),
 (3, PV.ptr ((3 : Nat) + (32 : Nat)) (0 : Nat)), (4, PV.row true (BRow.bytes []) ((4 : Nat) + (32 : Nat))),
 ((5 : Nat), PV.undef), (11, PV.int .i64 (lenZ ls)), ((12 : Nat), PV.int .i64 (0 : Int)),
 ((13 : Nat), PV.undef), ((16 : Nat), PV.undef)]
 [((3 : Nat) + (32 : Nat),
 PV.agg
 [PV.int .i64 kd, PV.bool bv, PV.str sv, PV.row nk (BRow.strs ks) (0 : Nat),
 PV.vec nl (5 : Nat) ls (0 : Nat)])] ∧
 ((0 : Int) ≤ (0 : Int) ∧
 (0 : Int) ≤ ↑ls.length ∧
 false = false ∧
 b ++ [zByte (123 : Int)] = b ++ (123 : UInt8) :: objJ true ks (List.take (Int.toNat (0 : Int)) (jdecs ls))) ∧
 ∀ (x : (Bool × Bs) × Int),
 (0 : Int) ≤ x.2 ∧
 x.2 ≤ ↑ls.length ∧
 x.1.1 = false ∧ x.1.2 = b ++ (123 : UInt8) :: objJ true ks (List.take x.2.toNat (jdecs ls)) →
 (decide (x.2 < lenZ ls) = true →
 (decide ((0 : Int) < x.2) = true →
 allU8 [PV.int .u8 (44 : Int)] ∧
 Int.ofNat (List.length (x.1.2 ++ [zByte (44 : Int)])) ≤ maxRow ∧
 within x.2 (Int.ofNat ks.length) ∧
 (List.length (strZ ks x.2) ≤ (100000 : Nat) ∧ List.length (x.1.2 ++ [zByte (44 : Int)]) ≤ (12000000 : Nat)) ∧
 allU8 [PV.int .u8 (58 : Int)] ∧
 Int.ofNat
 (List.length
 (x.1.2 ++ [zByte (44 : Int)] ++ quoteJ (strZ ks x.2) ++ [zByte (58 : Int)])) ≤
 maxRow ∧
 within x.2 (lenZ ls) ∧
 eltV ls x.2 =
 PV.agg
 [PV.int .i64
 ((eltV ls x.2).part (0 : Nat)).asInt,
 PV.bool
 ((eltV ls x.2).part (1 : Nat)).asBool,
 PV.str
 ((eltV ls x.2).part
 (2 : Nat)).asStr,
 PV.row
 ((eltV ls x.2).part
 (3 : Nat)).asNil
 (BRow.strs
 ((eltV ls x.2).part
 (3 : Nat)).asStrs)
 (0 : Nat),
 PV.vec
 ((eltV ls x.2).part
 (4 : Nat)).asNil
 (nat_lit 5)
 ((eltV ls x.2).part
 (4 : Nat)).asVec
 (0 : Nat)] ∧
 (isJs
 ((eltV ls x.2).part
 (4 : Nat)).asVec ∧
 okJ m
 (JV.mk
 ((eltV ls x.2).part (0 : Nat)).asInt
 ((eltV ls x.2).part (1 : Nat)).asBool
 ((eltV ls x.2).part
 (2 : Nat)).asStr
 ((eltV ls x.2).part
 (3 : Nat)).asNil
 ((eltV ls x.2).part
 (3 : Nat)).asStrs
 ((eltV ls x.2).part
 (4 : Nat)).asNil
 (jdecs
 ((eltV ls x.2).part
 (4 : Nat)).asVec)) ∧
 shapeJ
 (JV.mk
 ((eltV ls x.2).part (0 : Nat)).asInt
 ((eltV ls x.2).part
 (1 : Nat)).asBool
 ((eltV ls x.2).part
 (2 : Nat)).asStr
 ((eltV ls x.2).part
 (3 : Nat)).asNil
 ((eltV ls x.2).part
 (3 : Nat)).asStrs
 ((eltV ls x.2).part
 (4 : Nat)).asNil
 (jdecs
 ((eltV ls x.2).part
 (4 : Nat)).asVec)) =
 true ∧
 List.length
 (x.1.2 ++ [zByte (44 : Int)] ++ quoteJ (strZ ks x.2) ++
 [zByte (58 : Int)]) +
 (7 : Nat) *
 sizeJ
 (JV.mk
 ((eltV ls x.2).part (0 : Nat)).asInt
 ((eltV ls x.2).part
 (1 : Nat)).asBool
 ((eltV ls x.2).part
 (2 : Nat)).asStr
 ((eltV ls x.2).part
 (3 : Nat)).asNil
 ((eltV ls x.2).part
 (3 : Nat)).asStrs
 ((eltV ls x.2).part
 (4 : Nat)).asNil
 (jdecs
 ((eltV ls x.2).part
 (4 : Nat)).asVec)) ≤
 (600000 : Nat)) ∧
 inI64 (x.2 + (1 : Int)) ∧
 VS.mk []
 [((0 : Nat),
 PV.row false
 (BRow.bytes
 (x.1.2 ++ [zByte (44 : Int)] ++ quoteJ (strZ ks x.2) ++
 [zByte (58 : Int)] ++
 textJ
 (JV.mk
 ((eltV ls x.2).part (0 : Nat)).asInt
 ((eltV ls x.2).part
 (1 : Nat)).asBool
 ((eltV ls x.2).part
 (2 : Nat)).asStr
 ((eltV ls x.2).part
 (3 : Nat)).asNil
 ((eltV ls x.2).part
 (3 : Nat)).asStrs
 ((eltV ls x.2).part
 (4 : Nat)).asNil
 (jdecs
 ((eltV ls x.2).part
 (4 : Nat)).asVec))))
 (nat_lit 0 + (1 : Nat))),
 (1,
 PV.agg
 [PV.int .i64 kd, PV.bool bv, PV.str sv,
 PV.row nk (BRow.strs ks) (0 : Nat), PV.vec nl (5 : Nat) ls (0 : Nat)]),
 (3, PV.ptr ((3 : Nat) + (32 : Nat)) (0 : Nat)),
 (4, PV.row true (BRow.bytes []) ((4 : Nat) + (32 : Nat))), ((5 : Nat), PV.undef),
 (11, PV.int .i64 (lenZ ls)),
 ((12 : Nat), PV.int .i64 (x.2 + (1 : Int))), ((13 : Nat), PV.undef),
 ((16 : Nat), PV.undef)]
 [((3 : Nat) + (32 : Nat),
 PV.agg
 [PV.int .i64 kd, PV.bool bv, PV.str sv,
 PV.row nk (BRow.strs ks) (0 : Nat), PV.vec nl (5 : Nat) ls (0 : Nat)])] =
 VS.mk []
 [((0 : Nat),
 PV.row false
 (BRow.bytes
 (x.1.2 ++ [zByte (44 : Int)] ++ quoteJ (strZ ks x.2) ++
 [zByte (58 : Int)] ++
 textJ
 (JV.mk
 ((eltV ls x.2).part (0 : Nat)).asInt
 ((eltV ls x.2).part
 (1 : Nat)).asBool
 ((eltV ls x.2).part
 (2 : Nat)).asStr
 ((eltV ls x.2).part
 (3 : Nat)).asNil
 ((eltV ls x.2).part
 (3 : Nat)).asStrs
 ((eltV ls x.2).part
 (4 : Nat)).asNil
 (jdecs
 ((eltV ls x.2).part
 (4 : Nat)).asVec))))
 (nat_lit 0 + (1 : Nat))),
 (1,
 PV.agg
 [PV.int .i64 kd, PV.bool bv, PV.str sv,
 PV.row nk (BRow.strs ks) (0 : Nat), PV.vec nl (5 : Nat) ls (0 : Nat)]),
 (3, PV.ptr ((3 : Nat) + (32 : Nat)) (0 : Nat)),
 (4, PV.row true (BRow.bytes []) ((4 : Nat) + (32 : Nat))), ((5 : Nat), PV.undef),
 (11, PV.int .i64 (lenZ ls)),
 ((12 : Nat), PV.int .i64 (x.2 + (1 : Int))), ((13 : Nat), PV.undef),
 ((16 : Nat), PV.undef)]
 [((3 : Nat) + (32 : Nat),
 PV.agg
 [PV.int .i64 kd, PV.bool bv, PV.str sv,
 PV.row nk (BRow.strs ks) (0 : Nat), PV.vec nl (5 : Nat) ls (0 : Nat)])] ∧
 ((0 : Int) ≤ x.2 + (1 : Int) ∧
 x.2 + (1 : Int) ≤ ↑ls.length ∧
 false = false ∧
 x.1.2 ++ [zByte (44 : Int)] ++ quoteJ (strZ ks x.2) ++
 [zByte (58 : Int)] ++
 textJ
 (JV.mk
 ((eltV ls x.2).part (0 : Nat)).asInt
 ((eltV ls x.2).part
 (1 : Nat)).asBool
 ((eltV ls x.2).part
 (2 : Nat)).asStr
 ((eltV ls x.2).part
 (3 : Nat)).asNil
 ((eltV ls x.2).part
 (3 : Nat)).asStrs
 ((eltV ls x.2).part
 (4 : Nat)).asNil
 (jdecs
 ((eltV ls x.2).part
 (4 : Nat)).asVec)) =
 b ++
 (123 : UInt8) ::
 objJ true ks (List.take (x.2 + (1 : Int)).toNat (jdecs ls))) ∧
 (↑ls.length - (x.2 + (1 : Int))).toNat < (↑ls.length - x.2).toNat) ∧
 (decide ((0 : Int) < x.2) = false →
 within x.2 (Int.ofNat ks.length) ∧
 (List.length (strZ ks x.2) ≤ (100000 : Nat) ∧ List.length x.1.2 ≤ (12000000 : Nat)) ∧
 allU8 [PV.int .u8 (58 : Int)] ∧
 Int.ofNat (List.length (x.1.2 ++ quoteJ (strZ ks x.2) ++ [zByte (58 : Int)])) ≤ maxRow ∧
 within x.2 (lenZ ls) ∧
 eltV ls x.2 =
 PV.agg
 [PV.int .i64
 ((eltV ls x.2).part (0 : Nat)).asInt,
 PV.bool
 ((eltV ls x.2).part (1 : Nat)).asBool,
 PV.str
 ((eltV ls x.2).part
 (2 : Nat)).asStr,
 PV.row
 ((eltV ls x.2).part
 (3 : Nat)).asNil
 (BRow.strs
 ((eltV ls x.2).part
 (3 : Nat)).asStrs)
 (0 : Nat),
 PV.vec
 ((eltV ls x.2).part
 (4 : Nat)).asNil
 (nat_lit 5)
 ((eltV ls x.2).part
 (4 : Nat)).asVec
 (0 : Nat)] ∧
 (isJs
 ((eltV ls x.2).part
 (4 : Nat)).asVec ∧
 okJ m
 (JV.mk ((eltV ls x.2).part (0 : Nat)).asInt
 ((eltV ls x.2).part (1 : Nat)).asBool
 ((eltV ls x.2).part
 (2 : Nat)).asStr
 ((eltV ls x.2).part
 (3 : Nat)).asNil
 ((eltV ls x.2).part
 (3 : Nat)).asStrs
 ((eltV ls x.2).part
 (4 : Nat)).asNil
 (jdecs
 ((eltV ls x.2).part
 (4 : Nat)).asVec)) ∧
 shapeJ
 (JV.mk
 ((eltV ls x.2).part (0 : Nat)).asInt
 ((eltV ls x.2).part (1 : Nat)).asBool
 ((eltV ls x.2).part
 (2 : Nat)).asStr
 ((eltV ls x.2).part
 (3 : Nat)).asNil
 ((eltV ls x.2).part
 (3 : Nat)).asStrs
 ((eltV ls x.2).part
 (4 : Nat)).asNil
 (jdecs
 ((eltV ls x.2).part
 (4 : Nat)).asVec)) =
 true ∧
 List.length (x.1.2 ++ quoteJ (strZ ks x.2) ++ [zByte (58 : Int)]) +
 (7 : Nat) *
 sizeJ
 (JV.mk
 ((eltV ls x.2).part (0 : Nat)).asInt
 ((eltV ls x.2).part
 (1 : Nat)).asBool
 ((eltV ls x.2).part
 (2 : Nat)).asStr
 ((eltV ls x.2).part
 (3 : Nat)).asNil
 ((eltV ls x.2).part
 (3 : Nat)).asStrs
 ((eltV ls x.2).part
 (4 : Nat)).asNil
 (jdecs
 ((eltV ls x.2).part
 (4 : Nat)).asVec)) ≤
 (600000 : Nat)) ∧
 inI64 (x.2 + (1 : Int)) ∧
 VS.mk []
 [((0 : Nat),
 PV.row false
 (BRow.bytes
 (x.1.2 ++ quoteJ (strZ ks x.2) ++ [zByte (58 : Int)] ++
 textJ
 (JV.mk
 ((eltV ls x.2).part (0 : Nat)).asInt
 ((eltV ls x.2).part
 (1 : Nat)).asBool
 ((eltV ls x.2).part
 (2 : Nat)).asStr
 ((eltV ls x.2).part
 (3 : Nat)).asNil
 ((eltV ls x.2).part
 (3 : Nat)).asStrs
 ((eltV ls x.2).part
 (4 : Nat)).asNil
 (jdecs
 ((eltV ls x.2).part
 (4 : Nat)).asVec))))
 (nat_lit 0 + (1 : Nat))),
 (1,
 PV.agg
 [PV.int .i64 kd, PV.bool bv, PV.str sv,
 PV.row nk (BRow.strs ks) (0 : Nat), PV.vec nl (5 : Nat) ls (0 : Nat)]),
 (3, PV.ptr ((3 : Nat) + (32 : Nat)) (0 : Nat)),
 (4, PV.row true (BRow.bytes []) ((4 : Nat) + (32 : Nat))), ((5 : Nat), PV.undef),
 (11, PV.int .i64 (lenZ ls)),
 ((12 : Nat), PV.int .i64 (x.2 + (1 : Int))), ((13 : Nat), PV.undef),
 ((16 : Nat), PV.undef)]
 [((3 : Nat) + (32 : Nat),
 PV.agg
 [PV.int .i64 kd, PV.bool bv, PV.str sv,
 PV.row nk (BRow.strs ks) (0 : Nat), PV.vec nl (5 : Nat) ls (0 : Nat)])] =
 VS.mk []
 [((0 : Nat),
 PV.row false
 (BRow.bytes
 (x.1.2 ++ quoteJ (strZ ks x.2) ++ [zByte (58 : Int)] ++
 textJ
 (JV.mk
 ((eltV ls x.2).part (0 : Nat)).asInt
 ((eltV ls x.2).part
 (1 : Nat)).asBool
 ((eltV ls x.2).part
 (2 : Nat)).asStr
 ((eltV ls x.2).part
 (3 : Nat)).asNil
 ((eltV ls x.2).part
 (3 : Nat)).asStrs
 ((eltV ls x.2).part
 (4 : Nat)).asNil
 (jdecs
 ((eltV ls x.2).part
 (4 : Nat)).asVec))))
 (nat_lit 0 + (1 : Nat))),
 (1,
 PV.agg
 [PV.int .i64 kd, PV.bool bv, PV.str sv,
 PV.row nk (BRow.strs ks) (0 : Nat), PV.vec nl (5 : Nat) ls (0 : Nat)]),
 (3, PV.ptr ((3 : Nat) + (32 : Nat)) (0 : Nat)),
 (4, PV.row true (BRow.bytes []) ((4 : Nat) + (32 : Nat))), ((5 : Nat), PV.undef),
 (11, PV.int .i64 (lenZ ls)),
 ((12 : Nat), PV.int .i64 (x.2 + (1 : Int))), ((13 : Nat), PV.undef),
 ((16 : Nat), PV.undef)]
 [((3 : Nat) + (32 : Nat),
 PV.agg
 [PV.int .i64 kd, PV.bool bv, PV.str sv,
 PV.row nk (BRow.strs ks) (0 : Nat), PV.vec nl (5 : Nat) ls (0 : Nat)])] ∧
 ((0 : Int) ≤ x.2 + (1 : Int) ∧
 x.2 + (1 : Int) ≤ ↑ls.length ∧
 false = false ∧
 x.1.2 ++ quoteJ (strZ ks x.2) ++ [zByte (58 : Int)] ++
 textJ
 (JV.mk
 ((eltV ls x.2).part (0 : Nat)).asInt
 ((eltV ls x.2).part
 (1 : Nat)).asBool
 ((eltV ls x.2).part
 (2 : Nat)).asStr
 ((eltV ls x.2).part
 (3 : Nat)).asNil
 ((eltV ls x.2).part
 (3 : Nat)).asStrs
 ((eltV ls x.2).part
 (4 : Nat)).asNil
 (jdecs
 ((eltV ls x.2).part
 (4 : Nat)).asVec)) =
 b ++ (123 : UInt8) :: objJ true ks (List.take (x.2 + (1 : Int)).toNat (jdecs ls))) ∧
 (↑ls.length - (x.2 + (1 : Int))).toNat < (↑ls.length - x.2).toNat)) ∧
 (decide (x.2 < lenZ ls) = false →
 allU8 [PV.int .u8 (125 : Int)] ∧
 Int.ofNat (List.length (x.1.2 ++ [zByte (125 : Int)])) ≤ maxRow ∧
 k (PV.row false (BRow.bytes (x.1.2 ++ [zByte (125 : Int)])) (Nat.succ (nat_lit 0))))) := by kernel_rfl
attribute [local irreducible] Go.Vc.evF Go.Vc.evR
theorem ok_appobj (m : Nat) (h_appvalue : ∀ xs c, ent_appvalue m xs = some c → FuncOk Try.prog noT 22 xs c) (nb : Bool) (b : Bs) (kd : Int) (bv : Bool) (sv : Bs) (nk : Bool) (ks : List Bs) (nl : Bool) (ls : List PV) : FuncOk Try.prog noT 36 [.row nb (.bytes b) 1, .agg [.int .i64 kd, .bool bv, .str sv, .row nk (.strs ks) 0, .vec nl 5 ls 0]] ⟨isJs ls ∧ okJ (m + 1) (.mk kd bv sv nk ks nl (jdecs ls)) ∧ shapeJ (.mk kd bv sv nk ks nl (jdecs ls)) = true ∧ b.length + 7 * sizeJ (.mk kd bv sv nk ks nl (jdecs ls)) ≤ 600000 ∧ ls.length ≤ ks.length, .row false (.bytes (b ++ 123 :: (objJ true ks (jdecs ls) ++ [125]))) 1⟩ := evH_ok (by kernel_rfl) (X_appobj_ok m h_appvalue) (H := H_appobj m nb b kd bv sv nk ks nl ls) (fuel := 1000) Try.func36 (by kernel_rfl) fun hpre => (vc_appobj m nb b kd bv sv nk ks nl ls _).mpr (by
  obtain ⟨⟨js, rfl⟩, hok, hsh, hsz, hkl2⟩ := hpre
  rw [jdecs_pvs] at hok hsh hsz
  obtain ⟨hk, hs, hks, hkl, hls, hj⟩ := hok
  simp only [JV.k, JV.s, JV.ks, JV.ls] at hk hs hks hkl hls hj
  have hml : bigJ = 140737488355328 := rfl
  have hmr : maxRow = 16777216 := rfl
  rw [sizeJ] at hsz
  have hsh2 : shapeJs js = true := by rw [shapeJ, Bool.and_eq_true] at hsh; exact hsh.2
  simp only [jdecs_pvs, pvs_lenZ, pvs_length]
  simp only [pvs_length] at hkl2
  refine ⟨u8_1 (by omega) (by omega), by simp only [List.length_append, List.length_cons, List.length_nil, Int.ofNat_eq_natCast]; omega, by first | rfl | trivial, ⟨by omega, by omega, by first | rfl | trivial, by first | trivial | (simp [objJ, show zByte 123 = (123 : UInt8) by decide])⟩, fun x hx => ?_⟩
  obtain ⟨⟨nl', o⟩, i⟩ := x
  obtain ⟨h0, h1, h2, h3⟩ := hx
  simp only at h0 h1 h2 h3
  subst h2
  subst h3
  obtain ⟨n, rfl⟩ := Int.eq_ofNat_of_zero_le h0
  simp only [Int.toNat_natCast]
  have hn1 : ((n : Int) + 1).toNat = n + 1 := by omega
  simp only [hn1]
  have hst := sizeJs_take_le js n
  have hA := objJ_take_len (ks := ks) (l := js) (n := n) (by omega)
  refine ⟨fun g => ?_, fun g => ?_⟩
  · have g1 : n < js.length := by have := of_decide_eq_true g; omega
    have hT := sizeJs_take g1
    have hT1 := sizeJs_take_le js (n + 1)
    have y1 := hj _ (List.getElem_mem g1)
    have y2 := shapeJs_mem (List.getElem_mem g1) hsh2
    have gk : n < ks.length := by omega
    have hAT := objJ_take g1 gk true
    have hkn := sumK_take gk
    have hkn1 := sumK_take_le ks (n + 1)
    have hq := quoteJ_len ks[n]
    have hes := str_at gk
    simp only [elt_jv g1, jp0, jp1, jp2, jp3, jp3', jp4, jp4', jdecs_pvs, JV.eta', hes]
    refine ⟨fun q => ?_, fun q => ?_⟩
    · have q2 : (0 : Int) < n := of_decide_eq_true q
      have q3 : n ≠ 0 := by omega
      have hkz : Int.ofNat ks.length = (ks.length : Int) := rfl
      refine ⟨u8_1 (by omega) (by omega), by simp only [List.length_append, List.length_cons, List.length_nil, Int.ofNat_eq_natCast]; omega, ⟨by omega, by omega⟩, ⟨by omega, by simp only [List.length_append, List.length_cons, List.length_nil]; omega⟩, u8_1 (by omega) (by omega), by simp only [List.length_append, List.length_cons, List.length_nil, Int.ofNat_eq_natCast]; omega, ⟨by omega, by omega⟩, JV.pv_eq _, ⟨isJs_of _, y1, y2, by simp only [List.length_append, List.length_cons, List.length_nil]; omega⟩, by unfold inI64; omega, by first | rfl | trivial, ⟨by omega, by omega, by first | rfl | trivial, ?_⟩, by omega⟩
      rw [hAT]
      simp [q3, show zByte 44 = (44 : UInt8) by decide, show zByte 58 = (58 : UInt8) by decide]
    · have q2 : ¬ (0 : Int) < n := of_decide_eq_false q
      have q3 : n = 0 := by omega
      have hkz : Int.ofNat ks.length = (ks.length : Int) := rfl
      refine ⟨⟨by omega, by omega⟩, ⟨by omega, by simp only [List.length_append, List.length_cons, List.length_nil]; omega⟩, u8_1 (by omega) (by omega), by simp only [List.length_append, List.length_cons, List.length_nil, Int.ofNat_eq_natCast]; omega, ⟨by omega, by omega⟩, JV.pv_eq _, ⟨isJs_of _, y1, y2, by simp only [List.length_append, List.length_cons, List.length_nil]; omega⟩, by unfold inI64; omega, by first | rfl | trivial, ⟨by omega, by omega, by first | rfl | trivial, ?_⟩, by omega⟩
      rw [hAT]
      simp [q3, show zByte 44 = (44 : UInt8) by decide, show zByte 58 = (58 : UInt8) by decide]
  · have g1 : ¬ (n : Int) < js.length := of_decide_eq_false g
    have ht : js.take n = js := List.take_of_length_le (by omega)
    have hA2 := objJ_len true ks js
    rw [ht]
    refine ⟨u8_1 (by omega) (by omega), by simp only [List.length_append, List.length_cons, List.length_nil, Int.ofNat_eq_natCast]; omega, ?_⟩
    intro G w u hr
    have e : b ++ 123 :: objJ true ks js ++ [zByte 125] = b ++ 123 :: (objJ true ks js ++ [125]) := by simp [show zByte 125 = (125 : UInt8) by decide]
    rw [e] at hr
    exact hr)
def ent_appobj (dn : Nat) : List PV → Option CallR := fun xs => match xs with
  | [.row nb (.bytes b) 1, .agg [.int .i64 kd, .bool bv, .str sv, .row nk (.strs ks) 0, .vec nl 5 ls 0]] => some ⟨isJs ls ∧ okJ (dn + 1) (.mk kd bv sv nk ks nl (jdecs ls)) ∧ shapeJ (.mk kd bv sv nk ks nl (jdecs ls)) = true ∧ b.length + 7 * sizeJ (.mk kd bv sv nk ks nl (jdecs ls)) ≤ 600000 ∧ ls.length ≤ ks.length, .row false (.bytes (b ++ 123 :: (objJ true ks (jdecs ls) ++ [125]))) 1⟩
  | _ => none
theorem ent_appobj_ok (m : Nat) (h_appvalue : ∀ xs c, ent_appvalue m xs = some c → FuncOk Try.prog noT 22 xs c) : ∀ xs c, ent_appobj m xs = some c → FuncOk Try.prog noT 36 xs c := fun xs c h => by
  unfold ent_appobj at h
  split at h
  · injection h with h; subst h; exact ok_appobj m h_appvalue _ _ _ _ _ _ _ _ _
  · cases h
end
section
def X_appvalue (m : Nat) : Tbl := tblX [(34, ent_apptext), (35, ent_apparr m), (36, ent_appobj m)]
def H_appvalue (m : Nat) (nb : Bool) (b : Bs) (kd : Int) (bv : Bool) (sv : Bs) (nk : Bool) (ks : List Bs) (nl : Bool) (ls : List PV) : Loops := fun i => none
theorem X_appvalue_ok (m : Nat) (ih : ∀ xs c, ent_appvalue m xs = some c → FuncOk Try.prog noT 22 xs c) : XOk Try.prog noT (X_appvalue m) := tblX_cons ent_apptext_ok (tblX_cons (ent_apparr_ok m ih) (tblX_cons (ent_appobj_ok m ih) (tblX_nil)))
theorem vc_appvalue (m : Nat) (nb : Bool) (b : Bs) (kd : Int) (bv : Bool) (sv : Bs) (nk : Bool) (ks : List Bs) (nl : Bool) (ls : List PV) (k : PV → Prop) : evR Try.prog (X_appvalue m) noT (H_appvalue m nb b kd bv sv nk ks nl ls) 1000 Try.f22 [.row nb (.bytes b) 1, .agg [.int .i64 kd, .bool bv, .str sv, .row nk (.strs ks) 0, .vec nl 5 ls 0]] k = (
  (decide (kd = (1 : Int)) = true →
 (bv = true →
 Int.ofNat (List.length (b ++ (ByteArray.mk #[116, 114, 117, 101]).data.toList)) ≤ maxRow ∧
 k
 (PV.row false (BRow.bytes (b ++ (ByteArray.mk #[116, 114, 117, 101]).data.toList))
 (Nat.succ (nat_lit 0)))) ∧
 (bv = false →
 Int.ofNat (List.length (b ++ (ByteArray.mk #[102, 97, 108, 115, 101]).data.toList)) ≤ maxRow ∧
 k
 (PV.row false (BRow.bytes (b ++ (ByteArray.mk #[102, 97, 108, 115, 101]).data.toList))
 (Nat.succ (nat_lit 0))))) ∧
 (decide (kd = (1 : Int)) = false →
 (decide (kd = (2 : Int)) = true →
 Int.ofNat (List.length (b ++ sv)) ≤ maxRow ∧
 k
 (PV.row
 (bif List.rec true (fun (head : UInt8) (tail : List UInt8) (tail_ih : (fun (x : List UInt8) ↦ Bool) tail) ↦ false) sv then nb else false)
 (BRow.bytes (b ++ sv)) (Nat.succ (nat_lit 0)))) ∧
 (decide (kd = (2 : Int)) = false →
 (decide (kd = (3 : Int)) = true →
 (List.length sv ≤ (100000 : Nat) ∧ List.length b ≤ (12000000 : Nat)) ∧
 k (PV.row false (BRow.bytes (b ++ quoteJ sv)) (Nat.succ (nat_lit 0)))) ∧
 (decide (kd = (3 : Int)) = false →
 (decide (kd = (4 : Int)) = true →
 (isJs ls ∧
 okJ (m + (1 : Nat)) (JV.mk kd bv sv nk ks nl (jdecs ls)) ∧
 shapeJ (JV.mk kd bv sv nk ks nl (jdecs ls)) = true ∧
 List.length b + (7 : Nat) * sizeJ (JV.mk kd bv sv nk ks nl (jdecs ls)) ≤ (600000 : Nat)) ∧
 k
 (PV.row false (BRow.bytes (b ++ (91 : UInt8) :: (arrJ true (jdecs ls) ++ [(93 : UInt8)])))
 (Nat.succ (nat_lit 0)))) ∧
 (decide (kd = (4 : Int)) = false →
 (decide (kd = (5 : Int)) = true →
 (isJs ls ∧
 okJ (m + (1 : Nat)) (JV.mk kd bv sv nk ks nl (jdecs ls)) ∧
 shapeJ (JV.mk kd bv sv nk ks nl (jdecs ls)) = true ∧
 List.length b + (7 : Nat) * sizeJ (JV.mk kd bv sv nk ks nl (jdecs ls)) ≤ (600000 : Nat) ∧
 ls.length ≤ ks.length) ∧
 k
 (PV.row false (BRow.bytes (b ++ (123 : UInt8) :: (objJ true ks (jdecs ls) ++ [(125 : UInt8)])))
 (Nat.succ (nat_lit 0)))) ∧
 (decide (kd = (5 : Int)) = false →
 Int.ofNat (List.length (b ++ (ByteArray.mk #[110, 117, 108, 108]).data.toList)) ≤ maxRow ∧
 k
 (PV.row false (BRow.bytes (b ++ (ByteArray.mk #[110, 117, 108, 108]).data.toList))
 (Nat.succ (nat_lit 0))))))))) := by kernel_rfl
attribute [local irreducible] Go.Vc.evF Go.Vc.evR
theorem ok_appvalue (m : Nat) (ih : ∀ xs c, ent_appvalue m xs = some c → FuncOk Try.prog noT 22 xs c) (nb : Bool) (b : Bs) (kd : Int) (bv : Bool) (sv : Bs) (nk : Bool) (ks : List Bs) (nl : Bool) (ls : List PV) : FuncOk Try.prog noT 22 [.row nb (.bytes b) 1, .agg [.int .i64 kd, .bool bv, .str sv, .row nk (.strs ks) 0, .vec nl 5 ls 0]] ⟨isJs ls ∧ okJ ((m + 1)) (.mk kd bv sv nk ks nl (jdecs ls)) ∧ shapeJ (.mk kd bv sv nk ks nl (jdecs ls)) = true ∧ b.length + 7 * sizeJ (.mk kd bv sv nk ks nl (jdecs ls)) ≤ 600000, .row false (.bytes (b ++ textJ (.mk kd bv sv nk ks nl (jdecs ls)))) 1⟩ := evH_ok (by kernel_rfl) (X_appvalue_ok m ih) (H := H_appvalue m nb b kd bv sv nk ks nl ls) (fuel := 1000) Try.func22 (by kernel_rfl) fun hpre => (vc_appvalue m nb b kd bv sv nk ks nl ls _).mpr (by
  obtain ⟨⟨js, rfl⟩, hok, hsh, hsz⟩ := hpre
  rw [jdecs_pvs] at hok hsh hsz
  have hmr : maxRow = 16777216 := rfl
  have hsz2 := hsz
  rw [sizeJ] at hsz2
  have hsh2 := hsh
  rw [shapeJ, Bool.and_eq_true, Bool.and_eq_true] at hsh2
  have fin : ∀ (x : Bs) (k : PV → Prop), textJ (.mk kd bv sv nk ks nl js) = x → k (PV.row false (BRow.bytes (b ++ textJ (.mk kd bv sv nk ks nl js))) 1) → k (PV.row false (BRow.bytes (b ++ x)) 1) := fun x k e h => e ▸ h
  have hT : textJ (.mk kd bv sv nk ks nl js) = if kd = 1 then (if bv = true then [116, 114, 117, 101] else [102, 97, 108, 115, 101]) else if kd = 2 then sv else if kd = 3 then quoteJ sv else if kd = 4 then 91 :: (arrJ true js ++ [93]) else if kd = 5 then 123 :: (objJ true ks js ++ [125]) else [110, 117, 108, 108] := by rw [textJ]
  simp only [jdecs_pvs, pvs_length]
  have same : ∀ x, textJ (.mk kd bv sv nk ks nl js) = x → ∀ (G : Gh) (w : World) (u : Value), Rep (PV.row false (BRow.bytes (b ++ x)) 1) G w u → Rep (PV.row false (BRow.bytes (b ++ textJ (.mk kd bv sv nk ks nl js))) 1) G w u := fun x e G w u h => by rw [e]; exact h
  refine ⟨fun h1 => ?_, fun h1 => ?_⟩
  · have h1 := of_decide_eq_true h1
    refine ⟨fun h2 => ⟨by simp only [List.length_append, Int.ofNat_eq_natCast]; show ((b.length + 4 : Nat) : Int) ≤ _; omega, same _ ?_⟩, fun h2 => ⟨by simp only [List.length_append, Int.ofNat_eq_natCast]; show ((b.length + 5 : Nat) : Int) ≤ _; omega, same _ ?_⟩⟩
    · rw [hT, if_pos h1, if_pos h2]
    · rw [hT, if_pos h1, if_neg (by rw [h2]; simp)]
  have h1 := of_decide_eq_false h1
  rw [if_neg h1] at hT
  refine ⟨fun h2 => ⟨by simp only [List.length_append, Int.ofNat_eq_natCast]; omega, ?_⟩, fun h2 => ?_⟩
  · have h2 := of_decide_eq_true h2
    rw [if_pos h2] at hT
    have hne : sv ≠ [] := fun e => by
      have := hsh2.1.2
      rw [h2, e] at this
      cases this
    cases sv with
    | nil => exact absurd rfl hne
    | cons c l => exact same _ hT
  have h2 := of_decide_eq_false h2
  rw [if_neg h2] at hT
  refine ⟨fun h3 => ⟨⟨by omega, by omega⟩, same _ ?_⟩, fun h3 => ?_⟩
  · rw [hT, if_pos (of_decide_eq_true h3)]
  have h3 := of_decide_eq_false h3
  rw [if_neg h3] at hT
  refine ⟨fun h4 => ⟨⟨isJs_of _, hok, hsh, hsz⟩, same _ ?_⟩, fun h4 => ?_⟩
  · rw [hT, if_pos (of_decide_eq_true h4)]
  have h4 := of_decide_eq_false h4
  rw [if_neg h4] at hT
  refine ⟨fun h5 => ⟨⟨isJs_of _, hok, hsh, hsz, ?_⟩, same _ ?_⟩, fun h5 => ⟨by simp only [List.length_append, Int.ofNat_eq_natCast]; show ((b.length + 4 : Nat) : Int) ≤ _; omega, same _ ?_⟩⟩
  · have h6 := hsh2.1.1
    have h5 := of_decide_eq_true h5
    rw [h5] at h6
    simpa using h6
  · rw [hT, if_pos (of_decide_eq_true h5)]
  · rw [hT, if_neg (of_decide_eq_false h5)])
theorem ent_appvalue_ok : ∀ (n : Nat) xs c, ent_appvalue n xs = some c → FuncOk Try.prog noT 22 xs c
  | 0, xs, c, h => by
    unfold ent_appvalue at h
    split at h
    · injection h with h; subst h; exact .of_hand rfl (fun e => by cases e) fun hp => False.elim (hp.2.1)
    · cases h
  | m + 1, xs, c, h => by
    unfold ent_appvalue at h
    split at h
    · injection h with h; subst h; exact ok_appvalue m (ent_appvalue_ok m) _ _ _ _ _ _ _ _ _
    · cases h
def entA_appvalue : List PV → Option CallR := fun xs => match xs with
  | [.row nb (.bytes b) 1, .agg [.int .i64 kd, .bool bv, .str sv, .row nk (.strs ks) 0, .vec nl 5 ls 0]] => some ⟨∃ dn : Nat, isJs ls ∧ okJ (dn) (.mk kd bv sv nk ks nl (jdecs ls)) ∧ shapeJ (.mk kd bv sv nk ks nl (jdecs ls)) = true ∧ b.length + 7 * sizeJ (.mk kd bv sv nk ks nl (jdecs ls)) ≤ 600000, .row false (.bytes (b ++ textJ (.mk kd bv sv nk ks nl (jdecs ls)))) 1⟩
  | _ => none
theorem entA_appvalue_ok : ∀ xs c, entA_appvalue xs = some c → FuncOk Try.prog noT 22 xs c := fun xs c h => by
  unfold entA_appvalue at h
  split at h
  · injection h with h; subst h; exact exIH fun n => ent_appvalue_ok n _ _ rfl
  · cases h
end
section
def X_equal : Tbl := tblX []
def H_equal (na : Bool) (a : List Bs) (nb : Bool) (b : List Bs) : Loops := fun i => bif Nat.beq i 4 then some ⟨(Int), (fun s x => ((((s.put 13 (.int .i64 x)).put 5 .undef).put 14 .undef).put 24 .undef)), (fun s => s.int 13), (fun s x => let i := x; 0 ≤ i ∧ i ≤ a.length ∧ a.length = b.length ∧ a.take i.toNat = b.take i.toNat), (fun s x => let i := x; ((a.length : Int) - i).toNat), [5, 14, 24]⟩ else none
theorem X_equal_ok : XOk Try.prog noT X_equal := tblX_nil
theorem vc_equal (na : Bool) (a : List Bs) (nb : Bool) (b : List Bs) (k : PV → Prop) : evF Try.prog X_equal noT (H_equal na a nb b) 1000 Try.f38 [.row na (.strs a) 0, .row nb (.strs b) 0] k = (
  ((!decide (Int.ofNat a.length = Int.ofNat b.length)) = true → k (PV.bool false)) ∧
 ((!decide (Int.ofNat a.length = Int.ofNat b.length)) = false →
 VS.mk []
 [(0, PV.row na (BRow.strs a) (0 : Nat)), (1, PV.row nb (BRow.strs b) (0 : Nat)),
 (4, PV.bool false), ((5 : Nat), PV.undef), (10, PV.bool !decide (Int.ofNat a.length = Int.ofNat b.length)),
 (12, PV.int .i64 (Int.ofNat a.length)), (13, PV.int .i64 (0 : Int)), ((14 : Nat), PV.undef),
 ((24 : Nat), PV.undef)]
 [] =
 VS.mk []
 [(0, PV.row na (BRow.strs a) (0 : Nat)), (1, PV.row nb (BRow.strs b) (0 : Nat)),
 (4, PV.bool false), ((5 : Nat), PV.undef), (10, PV.bool !decide (Int.ofNat a.length = Int.ofNat b.length)),
 (12, PV.int .i64 (Int.ofNat a.length)), ((13 : Nat), PV.int .i64 (0 : Int)), ((14 : Nat), PV.undef),
 ((24 : Nat), PV.undef)]
 [] ∧
 ((0 : Int) ≤ (0 : Int) ∧ (0 : Int) ≤ ↑a.length ∧ a.length = b.length ∧ List.take (Int.toNat (0 : Int)) a = List.take (Int.toNat (0 : Int)) b) ∧
 ∀ (x : Int),
 (0 : Int) ≤ x ∧ x ≤ ↑a.length ∧ a.length = b.length ∧ List.take x.toNat a = List.take x.toNat b →
 (decide (x < Int.ofNat a.length) = true →
 within x (Int.ofNat a.length) ∧
 within x (Int.ofNat b.length) ∧
 ((!decide (strZ a x = strZ b x)) = true → k (PV.bool false)) ∧
 ((!decide (strZ a x = strZ b x)) = false →
 inI64 (x + (1 : Int)) ∧
 VS.mk []
 [(0, PV.row na (BRow.strs a) (0 : Nat)), (1, PV.row nb (BRow.strs b) (0 : Nat)),
 (4, PV.bool false), ((5 : Nat), PV.undef),
 (10, PV.bool !decide (Int.ofNat a.length = Int.ofNat b.length)),
 (12, PV.int .i64 (Int.ofNat a.length)), ((13 : Nat), PV.int .i64 (x + (1 : Int))),
 ((14 : Nat), PV.undef), ((24 : Nat), PV.undef)]
 [] =
 VS.mk []
 [(0, PV.row na (BRow.strs a) (0 : Nat)), (1, PV.row nb (BRow.strs b) (0 : Nat)),
 (4, PV.bool false), ((5 : Nat), PV.undef),
 (10, PV.bool !decide (Int.ofNat a.length = Int.ofNat b.length)),
 (12, PV.int .i64 (Int.ofNat a.length)), ((13 : Nat), PV.int .i64 (x + (1 : Int))),
 ((14 : Nat), PV.undef), ((24 : Nat), PV.undef)]
 [] ∧
 ((0 : Int) ≤ x + (1 : Int) ∧
 x + (1 : Int) ≤ ↑a.length ∧ a.length = b.length ∧ List.take (x + (1 : Int)).toNat a = List.take (x + (1 : Int)).toNat b) ∧
 (↑a.length - (x + (1 : Int))).toNat < (↑a.length - x).toNat)) ∧
 (decide (x < Int.ofNat a.length) = false → k (PV.bool true)))) := by kernel_rfl
attribute [local irreducible] Go.Vc.evF
theorem ok_equal (na : Bool) (a : List Bs) (nb : Bool) (b : List Bs) : FuncOk Try.prog noT 38 [.row na (.strs a) 0, .row nb (.strs b) 0] ⟨a.length ≤ bigJ ∧ b.length ≤ bigJ, .bool (decide (a = b))⟩ := evF_ok (by kernel_rfl) X_equal_ok (H := H_equal na a nb b) (fuel := 1000) Try.func38 (by kernel_rfl) fun hpre => (vc_equal na a nb b _).mpr (by
  obtain ⟨ha, hb⟩ := hpre
  have hml : bigJ = 140737488355328 := rfl
  have ea : Int.ofNat a.length = (a.length : Int) := rfl
  have eb : Int.ofNat b.length = (b.length : Int) := rfl
  refine ⟨fun h => ?_, fun h => ?_⟩
  · show PV.bool _ = PV.bool _
    congr 1
    symm
    refine decide_eq_false fun e => ?_
    rw [e] at h; simp at h
  have hl : a.length = b.length := by
    have : ((a.length : Int) = b.length) := by simpa using h
    omega
  refine ⟨rfl, ⟨by omega, by omega, hl, rfl⟩, fun x hx => ?_⟩
  obtain ⟨h0, h1, -, h2⟩ := hx
  obtain ⟨n, rfl⟩ := Int.eq_ofNat_of_zero_le h0
  rw [Int.toNat_natCast] at h2
  refine ⟨fun g => ?_, fun g => ?_⟩
  · have g1 : n < a.length := by have := of_decide_eq_true g; omega
    have e1 := str_at g1
    have e2 := str_at (l := b) (n := n) (by omega)
    rw [e1, e2]
    refine ⟨⟨by omega, by omega⟩, ⟨by omega, by omega⟩, fun d => ?_, fun d => ?_⟩
    · show PV.bool _ = PV.bool _
      congr 1
      symm
      refine decide_eq_false fun e => ?_
      subst e
      simp at d
    · refine ⟨by unfold inI64; omega, rfl, ⟨by omega, by omega, hl, ?_⟩, by omega⟩
      rw [show ((n : Int) + 1).toNat = n + 1 by omega, List.take_add_one, List.take_add_one, h2, List.getElem?_eq_getElem g1, List.getElem?_eq_getElem (show n < b.length by omega)]
      have : a[n] = b[n]'(by omega) := by simpa using d
      rw [this]
  · have : ¬ (n : Int) < Int.ofNat a.length := of_decide_eq_false g
    show PV.bool _ = PV.bool _
    congr 1
    symm
    rw [List.take_of_length_le (by omega), List.take_of_length_le (by omega)] at h2
    exact decide_eq_true h2)
def ent_equal : List PV → Option CallR := fun xs => match xs with
  | [.row na (.strs a) 0, .row nb (.strs b) 0] => some ⟨a.length ≤ bigJ ∧ b.length ≤ bigJ, .bool (decide (a = b))⟩
  | _ => none
theorem ent_equal_ok : ∀ xs c, ent_equal xs = some c → FuncOk Try.prog noT 38 xs c := fun xs c h => by
  unfold ent_equal at h
  split at h
  · injection h with h; subst h; exact ok_equal _ _ _ _
  · cases h
end
section
def ent_jsame (dn : Nat) : List PV → Option CallR := fun xs => match xs with
  | [.agg [.int .i64 kd, .bool bv, .str sv, .row nk (.strs ks) 0, .vec nl 5 ls 0], .agg [.int .i64 kd2, .bool bv2, .str sv2, .row nk2 (.strs ks2) 0, .vec nl2 5 ls2 0], .int .i64 d] => some ⟨isJs ls ∧ okJ dn (.mk kd bv sv nk ks nl (jdecs ls)) ∧ isJs ls2 ∧ (∃ q, okJ q (.mk kd2 bv2 sv2 nk2 ks2 nl2 (jdecs ls2))) ∧ ((dn : Int) ≤ d ∧ d ≤ 1000000), .bool (sameJ (.mk kd bv sv nk ks nl (jdecs ls)) (.mk kd2 bv2 sv2 nk2 ks2 nl2 (jdecs ls2)))⟩
  | _ => none
def X_jsame (m : Nat) : Tbl := tblX [(38, ent_equal), (24, ent_jsame m)]
def H_jsame (m : Nat) (kd : Int) (bv : Bool) (sv : Bs) (nk : Bool) (ks : List Bs) (nl : Bool) (ls : List PV) (kd2 : Int) (bv2 : Bool) (sv2 : Bs) (nk2 : Bool) (ks2 : List Bs) (nl2 : Bool) (ls2 : List PV) (d : Int) : Loops := fun i => bif Nat.beq i 6 then some ⟨(Int), (fun s x => ((((s.put 53 (.int .i64 x)).put 7 .undef).put 54 .undef).put 69 .undef)), (fun s => s.int 53), (fun s x => let i := x; 0 ≤ i ∧ i ≤ ls.length ∧ ls.length = ls2.length ∧ sameJs ((jdecs ls).drop i.toNat) ((jdecs ls2).drop i.toNat) = sameJs (jdecs ls) (jdecs ls2)), (fun s x => let i := x; ((ls.length : Int) - i).toNat), [7, 54, 69]⟩ else none
theorem X_jsame_ok (m : Nat) (ih : ∀ xs c, ent_jsame m xs = some c → FuncOk Try.prog noT 24 xs c) : XOk Try.prog noT (X_jsame m) := tblX_cons ent_equal_ok (tblX_cons ih (tblX_nil))
theorem vc_jsame (m : Nat) (kd : Int) (bv : Bool) (sv : Bs) (nk : Bool) (ks : List Bs) (nl : Bool) (ls : List PV) (kd2 : Int) (bv2 : Bool) (sv2 : Bs) (nk2 : Bool) (ks2 : List Bs) (nl2 : Bool) (ls2 : List PV) (d : Int) (k : PV → Prop) : evF Try.prog (X_jsame m) noT (H_jsame m kd bv sv nk ks nl ls kd2 bv2 sv2 nk2 ks2 nl2 ls2 d) 1000 Try.f24 [.agg [.int .i64 kd, .bool bv, .str sv, .row nk (.strs ks) 0, .vec nl 5 ls 0], .agg [.int .i64 kd2, .bool bv2, .str sv2, .row nk2 (.strs ks2) 0, .vec nl2 5 ls2 0], .int .i64 d] k = (
  ((bif bif bif !decide (kd = kd2) then true else Bool.rec true false (bv == bv2) then true else !decide (sv = sv2) then true
 else !decide (lenZ ls = lenZ ls2)) =
 false →
 ks.length ≤ bigJ ∧ ks2.length ≤ bigJ) ∧
 ((bif
 bif bif bif !decide (kd = kd2) then true else Bool.rec true false (bv == bv2) then true else !decide (sv = sv2) then true
 else !decide (lenZ ls = lenZ ls2) then
 true
 else !decide (ks = ks2)) =
 true →
 k (PV.bool false)) ∧
 ((bif
 bif bif bif !decide (kd = kd2) then true else Bool.rec true false (bv == bv2) then true else !decide (sv = sv2) then true
 else !decide (lenZ ls = lenZ ls2) then
 true
 else !decide (ks = ks2)) =
 false →
 (decide (d = (0 : Int)) = true → k (PV.bool (decide (lenZ ls = (0 : Int))))) ∧
 (decide (d = (0 : Int)) = false →
 VS.mk []
 [(0,
 PV.agg
 [PV.int .i64 kd, PV.bool bv, PV.str sv, PV.row nk (BRow.strs ks) (0 : Nat),
 PV.vec nl (5 : Nat) ls (0 : Nat)]),
 (1,
 PV.agg
 [PV.int .i64 kd2, PV.bool bv2, PV.str sv2, PV.row nk2 (BRow.strs ks2) (0 : Nat),
 PV.vec nl2 (5 : Nat) ls2 (0 : Nat)]),
 (2, PV.int .i64 d), (3, PV.ptr ((3 : Nat) + (32 : Nat)) (0 : Nat)),
 (4, PV.ptr ((4 : Nat) + (32 : Nat)) (0 : Nat)), (6, PV.bool false), ((7 : Nat), PV.undef),
 (43,
 PV.bool
 (bif
 bif bif bif !decide (kd = kd2) then true else Bool.rec true false (bv == bv2) then true else !decide (sv = sv2) then true
 else !decide (lenZ ls = lenZ ls2) then
 true
 else !decide (ks = ks2))),
 (45, PV.bool (decide (d = (0 : Int)))), (52, PV.int .i64 (lenZ ls)),
 (53, PV.int .i64 (0 : Int)), ((54 : Nat), PV.undef), ((69 : Nat), PV.undef)]
 [((4 : Nat) + (32 : Nat),
 PV.agg
 [PV.int .i64 kd2, PV.bool bv2, PV.str sv2, PV.row nk2 (BRow.strs ks2) (0 : Nat),
 PV.vec nl2 (5 : Nat) ls2 (0 : Nat)]),
 ((3 : Nat) + (32 : Nat),
 PV.agg
 [PV.int .i64 kd, PV.bool bv, PV.str sv, PV.row nk (BRow.strs ks) (0 : Nat),
 PV.vec nl (5 : Nat) ls (0 : Nat)])] =
 VS.mk []
 [(0,
 PV.agg
 [PV.int .i64 kd, PV.bool bv, PV.str sv, PV.row nk (BRow.strs ks) (0 : Nat),
 PV.vec nl (5 : Nat) ls (0 : Nat)]),
 (1,
 PV.agg
 [PV.int .i64 kd2, PV.bool bv2, PV.str sv2, PV.row nk2 (BRow.strs ks2) (0 : Nat),
 PV.vec nl2 (5 : Nat) ls2 (0 : Nat)]),
 (2, PV.int .i64 d), (3, PV.ptr ((3 : Nat) + (32 : Nat)) (0 : Nat)),
 (4, PV.ptr ((4 : Nat) + (32 : Nat)) (0 : Nat)), (6, PV.bool false), ((7 : Nat), PV.undef),
 (43,
 PV.bool
 (bif
 bif bif bif !decide (kd = kd2) then true else Bool.rec true false (bv == bv2) then true else !decide (sv = sv2) then true
 else !decide (lenZ ls = lenZ ls2) then
 true
 else !decide (ks = ks2))),
 (45, PV.bool (decide (d = (0 : Int)))), (52, PV.int .i64 (lenZ ls)),
 ((53 : Nat), PV.int .i64 (0 : Int)), ((54 : Nat), PV.undef), ((69 : Nat), PV.undef)]
 [((4 : Nat) + (32 : Nat),
 PV.agg
 [PV.int .i64 kd2, PV.bool bv2, PV.str sv2, PV.row nk2 (BRow.strs ks2) (0 : Nat),
 PV.vec nl2 (5 : Nat) ls2 (0 : Nat)]),
 ((3 : Nat) + (32 : Nat),
 PV.agg
 [PV.int .i64 kd, PV.bool bv, PV.str sv, PV.row nk (BRow.strs ks) (0 : Nat),
 PV.vec nl (5 : Nat) ls (0 : Nat)])] ∧
 ((0 : Int) ≤ (0 : Int) ∧
 (0 : Int) ≤ ↑ls.length ∧
 ls.length = ls2.length ∧
 sameJs (List.drop (Int.toNat (0 : Int)) (jdecs ls)) (List.drop (Int.toNat (0 : Int)) (jdecs ls2)) =
 sameJs (jdecs ls) (jdecs ls2)) ∧
 ∀ (x : Int),
 (0 : Int) ≤ x ∧
 x ≤ ↑ls.length ∧
 ls.length = ls2.length ∧
 sameJs (List.drop x.toNat (jdecs ls)) (List.drop x.toNat (jdecs ls2)) =
 sameJs (jdecs ls) (jdecs ls2) →
 (decide (x < lenZ ls) = true →
 within x (lenZ ls) ∧
 eltV ls x =
 PV.agg
 [PV.int .i64 ((eltV ls x).part (0 : Nat)).asInt,
 PV.bool ((eltV ls x).part (1 : Nat)).asBool,
 PV.str
 ((eltV ls x).part (2 : Nat)).asStr,
 PV.row
 ((eltV ls x).part
 (3 : Nat)).asNil
 (BRow.strs
 ((eltV ls x).part
 (3 : Nat)).asStrs)
 (0 : Nat),
 PV.vec
 ((eltV ls x).part
 (4 : Nat)).asNil
 (nat_lit 5)
 ((eltV ls x).part
 (4 : Nat)).asVec
 (0 : Nat)] ∧
 within x (lenZ ls2) ∧
 eltV ls2 x =
 PV.agg
 [PV.int .i64 ((eltV ls2 x).part (0 : Nat)).asInt,
 PV.bool ((eltV ls2 x).part (1 : Nat)).asBool,
 PV.str
 ((eltV ls2 x).part (2 : Nat)).asStr,
 PV.row
 ((eltV ls2 x).part
 (3 : Nat)).asNil
 (BRow.strs
 ((eltV ls2 x).part
 (3 : Nat)).asStrs)
 (0 : Nat),
 PV.vec
 ((eltV ls2 x).part
 (4 : Nat)).asNil
 (nat_lit 5)
 ((eltV ls2 x).part
 (4 : Nat)).asVec
 (0 : Nat)] ∧
 inI64 (d - (1 : Int)) ∧
 (isJs
 ((eltV ls x).part
 (4 : Nat)).asVec ∧
 okJ m
 (JV.mk ((eltV ls x).part (0 : Nat)).asInt
 ((eltV ls x).part (1 : Nat)).asBool
 ((eltV ls x).part
 (2 : Nat)).asStr
 ((eltV ls x).part
 (3 : Nat)).asNil
 ((eltV ls x).part
 (3 : Nat)).asStrs
 ((eltV ls x).part
 (4 : Nat)).asNil
 (jdecs
 ((eltV ls x).part
 (4 : Nat)).asVec)) ∧
 isJs
 ((eltV ls2 x).part
 (4 : Nat)).asVec ∧
 (∃ (q : Nat),
 okJ q
 (JV.mk ((eltV ls2 x).part (0 : Nat)).asInt
 ((eltV ls2 x).part (1 : Nat)).asBool
 ((eltV ls2 x).part
 (2 : Nat)).asStr
 ((eltV ls2 x).part
 (3 : Nat)).asNil
 ((eltV ls2 x).part
 (3 : Nat)).asStrs
 ((eltV ls2 x).part
 (4 : Nat)).asNil
 (jdecs
 ((eltV ls2 x).part
 (4 : Nat)).asVec))) ∧
 ↑m ≤ d - (1 : Int) ∧ d - (1 : Int) ≤ (1000000 : Int)) ∧
 ((!sameJ
 (JV.mk ((eltV ls x).part (0 : Nat)).asInt
 ((eltV ls x).part (1 : Nat)).asBool
 ((eltV ls x).part
 (2 : Nat)).asStr
 ((eltV ls x).part
 (3 : Nat)).asNil
 ((eltV ls x).part
 (3 : Nat)).asStrs
 ((eltV ls x).part
 (4 : Nat)).asNil
 (jdecs
 ((eltV ls x).part
 (4 : Nat)).asVec))
 (JV.mk ((eltV ls2 x).part (0 : Nat)).asInt
 ((eltV ls2 x).part (1 : Nat)).asBool
 ((eltV ls2 x).part
 (2 : Nat)).asStr
 ((eltV ls2 x).part
 (3 : Nat)).asNil
 ((eltV ls2 x).part
 (3 : Nat)).asStrs
 ((eltV ls2 x).part
 (4 : Nat)).asNil
 (jdecs
 ((eltV ls2 x).part
 (4 : Nat)).asVec))) =
 true →
 k (PV.bool false)) ∧
 ((!sameJ
 (JV.mk ((eltV ls x).part (0 : Nat)).asInt
 ((eltV ls x).part (1 : Nat)).asBool
 ((eltV ls x).part
 (2 : Nat)).asStr
 ((eltV ls x).part
 (3 : Nat)).asNil
 ((eltV ls x).part
 (3 : Nat)).asStrs
 ((eltV ls x).part
 (4 : Nat)).asNil
 (jdecs
 ((eltV ls x).part
 (4 : Nat)).asVec))
 (JV.mk ((eltV ls2 x).part (0 : Nat)).asInt
 ((eltV ls2 x).part (1 : Nat)).asBool
 ((eltV ls2 x).part
 (2 : Nat)).asStr
 ((eltV ls2 x).part
 (3 : Nat)).asNil
 ((eltV ls2 x).part
 (3 : Nat)).asStrs
 ((eltV ls2 x).part
 (4 : Nat)).asNil
 (jdecs
 ((eltV ls2 x).part
 (4 : Nat)).asVec))) =
 false →
 inI64 (x + (1 : Int)) ∧
 VS.mk []
 [(0,
 PV.agg
 [PV.int .i64 kd, PV.bool bv, PV.str sv,
 PV.row nk (BRow.strs ks) (0 : Nat), PV.vec nl (5 : Nat) ls (0 : Nat)]),
 (1,
 PV.agg
 [PV.int .i64 kd2, PV.bool bv2, PV.str sv2,
 PV.row nk2 (BRow.strs ks2) (0 : Nat), PV.vec nl2 (5 : Nat) ls2 (0 : Nat)]),
 (2, PV.int .i64 d), (3, PV.ptr ((3 : Nat) + (32 : Nat)) (0 : Nat)),
 (4, PV.ptr ((4 : Nat) + (32 : Nat)) (0 : Nat)), (6, PV.bool false),
 ((7 : Nat), PV.undef),
 (43,
 PV.bool
 (bif
 bif
 bif bif !decide (kd = kd2) then true else Bool.rec true false (bv == bv2) then true
 else !decide (sv = sv2) then
 true
 else !decide (lenZ ls = lenZ ls2) then
 true
 else !decide (ks = ks2))),
 (45, PV.bool (decide (d = (0 : Int)))), (52, PV.int .i64 (lenZ ls)),
 ((53 : Nat), PV.int .i64 (x + (1 : Int))), ((54 : Nat), PV.undef),
 ((69 : Nat), PV.undef)]
 [((4 : Nat) + (32 : Nat),
 PV.agg
 [PV.int .i64 kd2, PV.bool bv2, PV.str sv2,
 PV.row nk2 (BRow.strs ks2) (0 : Nat), PV.vec nl2 (5 : Nat) ls2 (0 : Nat)]),
 ((3 : Nat) + (32 : Nat),
 PV.agg
 [PV.int .i64 kd, PV.bool bv, PV.str sv,
 PV.row nk (BRow.strs ks) (0 : Nat), PV.vec nl (5 : Nat) ls (0 : Nat)])] =
 VS.mk []
 [(0,
 PV.agg
 [PV.int .i64 kd, PV.bool bv, PV.str sv,
 PV.row nk (BRow.strs ks) (0 : Nat), PV.vec nl (5 : Nat) ls (0 : Nat)]),
 (1,
 PV.agg
 [PV.int .i64 kd2, PV.bool bv2, PV.str sv2,
 PV.row nk2 (BRow.strs ks2) (0 : Nat), PV.vec nl2 (5 : Nat) ls2 (0 : Nat)]),
 (2, PV.int .i64 d), (3, PV.ptr ((3 : Nat) + (32 : Nat)) (0 : Nat)),
 (4, PV.ptr ((4 : Nat) + (32 : Nat)) (0 : Nat)), (6, PV.bool false),
 ((7 : Nat), PV.undef),
 (43,
 PV.bool
 (bif
 bif
 bif bif !decide (kd = kd2) then true else Bool.rec true false (bv == bv2) then true
 else !decide (sv = sv2) then
 true
 else !decide (lenZ ls = lenZ ls2) then
 true
 else !decide (ks = ks2))),
 (45, PV.bool (decide (d = (0 : Int)))), (52, PV.int .i64 (lenZ ls)),
 ((53 : Nat), PV.int .i64 (x + (1 : Int))), ((54 : Nat), PV.undef),
 ((69 : Nat), PV.undef)]
 [((4 : Nat) + (32 : Nat),
 PV.agg
 [PV.int .i64 kd2, PV.bool bv2, PV.str sv2,
 PV.row nk2 (BRow.strs ks2) (0 : Nat), PV.vec nl2 (5 : Nat) ls2 (0 : Nat)]),
 ((3 : Nat) + (32 : Nat),
 PV.agg
 [PV.int .i64 kd, PV.bool bv, PV.str sv,
 PV.row nk (BRow.strs ks) (0 : Nat), PV.vec nl (5 : Nat) ls (0 : Nat)])] ∧
 ((0 : Int) ≤ x + (1 : Int) ∧
 x + (1 : Int) ≤ ↑ls.length ∧
 ls.length = ls2.length ∧
 sameJs (List.drop (x + (1 : Int)).toNat (jdecs ls))
 (List.drop (x + (1 : Int)).toNat (jdecs ls2)) =
 sameJs (jdecs ls) (jdecs ls2)) ∧
 (↑ls.length - (x + (1 : Int))).toNat < (↑ls.length - x).toNat)) ∧
 (decide (x < lenZ ls) = false → k (PV.bool true))))) := by kernel_rfl
attribute [local irreducible] Go.Vc.evF
theorem ok_jsame (m : Nat) (ih : ∀ xs c, ent_jsame m xs = some c → FuncOk Try.prog noT 24 xs c) (kd : Int) (bv : Bool) (sv : Bs) (nk : Bool) (ks : List Bs) (nl : Bool) (ls : List PV) (kd2 : Int) (bv2 : Bool) (sv2 : Bs) (nk2 : Bool) (ks2 : List Bs) (nl2 : Bool) (ls2 : List PV) (d : Int) : FuncOk Try.prog noT 24 [.agg [.int .i64 kd, .bool bv, .str sv, .row nk (.strs ks) 0, .vec nl 5 ls 0], .agg [.int .i64 kd2, .bool bv2, .str sv2, .row nk2 (.strs ks2) 0, .vec nl2 5 ls2 0], .int .i64 d] ⟨isJs ls ∧ okJ (m + 1) (.mk kd bv sv nk ks nl (jdecs ls)) ∧ isJs ls2 ∧ (∃ q, okJ q (.mk kd2 bv2 sv2 nk2 ks2 nl2 (jdecs ls2))) ∧ (((m + 1) : Int) ≤ d ∧ d ≤ 1000000), .bool (sameJ (.mk kd bv sv nk ks nl (jdecs ls)) (.mk kd2 bv2 sv2 nk2 ks2 nl2 (jdecs ls2)))⟩ := evF_ok (by kernel_rfl) (X_jsame_ok m ih) (H := H_jsame m kd bv sv nk ks nl ls kd2 bv2 sv2 nk2 ks2 nl2 ls2 d) (fuel := 1000) Try.func24 (by kernel_rfl) fun hpre => (vc_jsame m kd bv sv nk ks nl ls kd2 bv2 sv2 nk2 ks2 nl2 ls2 d _).mpr (by
  obtain ⟨⟨js, rfl⟩, hok, ⟨js2, rfl⟩, ⟨q2, hok2⟩, hm, hd⟩ := hpre
  rw [jdecs_pvs] at hok hok2
  obtain ⟨hk, hs, hks, hkl, hls, hj⟩ := hok
  cases q2 with
  | zero => exact hok2.elim
  | succ q =>
  obtain ⟨hk2, hs2, hks2, hkl2, hls2, hj2⟩ := hok2
  simp only [JV.k, JV.s, JV.ks, JV.ls] at hk hs hks hkl hls hj hk2 hs2 hks2 hkl2 hls2 hj2
  have hml : bigJ = 140737488355328 := rfl
  simp only [jdecs_pvs, pvs_lenZ, pvs_length]
  refine ⟨fun _ => ⟨hks, hks2⟩, ?_⟩
  rw [head5]
  refine ⟨fun h => ?_, fun h => ?_⟩
  · show PV.bool _ = PV.bool _
    congr 1
    symm
    rw [Bool.eq_false_iff]
    intro e
    obtain ⟨e1, e2, e3, e4, e5⟩ := sameJ_e e
    have e6 := sameJs_len e5
    rw [decide_eq_true (show _ from ⟨e1, e2, e3, by omega, e4⟩)] at h; cases h
  have hE : kd = kd2 ∧ bv = bv2 ∧ sv = sv2 ∧ (js.length : Int) = js2.length ∧ ks = ks2 := by simpa using h
  obtain ⟨e1, e2, e3, e4, e5⟩ := hE
  rw [sameJ_r ⟨e1, e2, e3, e5⟩]
  refine ⟨fun h => ?_, fun h => ?_⟩
  · have hd0 : d = 0 := of_decide_eq_true h
    show PV.bool _ = PV.bool _
    omega
  have hd0 : ¬ d = 0 := of_decide_eq_false h
  refine ⟨trivial, ⟨by omega, by omega, by omega, rfl⟩, fun x hx => ?_⟩
  obtain ⟨h0, h1, h2, h3⟩ := hx
  obtain ⟨n, rfl⟩ := Int.eq_ofNat_of_zero_le h0
  rw [Int.toNat_natCast] at h3
  refine ⟨fun g => ?_, fun g => ?_⟩
  · have g1 : n < js.length := by have := of_decide_eq_true g; omega
    have g2 : n < js2.length := by omega
    have y1 := hj _ (List.getElem_mem g1)
    have y2 := hj2 _ (List.getElem_mem g2)
    simp only [elt_jv g1, elt_jv g2, jp0, jp1, jp2, jp3, jp3', jp4, jp4', jdecs_pvs, JV.eta']
    refine ⟨⟨by omega, by omega⟩, JV.pv_eq _, ⟨by omega, by omega⟩, JV.pv_eq _, by unfold inI64; omega, ⟨isJs_of _, y1, isJs_of _, ⟨_, y2⟩, by omega, by omega⟩, fun f => ?_, fun f => ?_⟩
    · show PV.bool _ = PV.bool _
      rw [← h3, sameJs_drop g1 g2, show sameJ js[n] js2[n] = false by simpa using f]; rfl
    · refine ⟨by unfold inI64; omega, trivial, ⟨by omega, by omega, by omega, ?_⟩, by omega⟩
      rw [show ((n : Int) + 1).toNat = n + 1 by omega, ← h3, sameJs_drop g1 g2, show sameJ js[n] js2[n] = true by simpa using f]; rfl
  · have : ¬ (n : Int) < js.length := of_decide_eq_false g
    show PV.bool _ = PV.bool _
    rw [← h3, List.drop_of_length_le (by omega), List.drop_of_length_le (by omega), sameJs])
theorem ent_jsame_ok : ∀ (n : Nat) xs c, ent_jsame n xs = some c → FuncOk Try.prog noT 24 xs c
  | 0, xs, c, h => by
    unfold ent_jsame at h
    split at h
    · injection h with h; subst h; exact .of_plain ⟨rfl, rfl⟩ fun hp => False.elim (hp.2.1)
    · cases h
  | m + 1, xs, c, h => by
    unfold ent_jsame at h
    split at h
    · injection h with h; subst h; exact ok_jsame m (ent_jsame_ok m) _ _ _ _ _ _ _ _ _ _ _ _ _ _ _
    · cases h
def entA_jsame : List PV → Option CallR := fun xs => match xs with
  | [.agg [.int .i64 kd, .bool bv, .str sv, .row nk (.strs ks) 0, .vec nl 5 ls 0], .agg [.int .i64 kd2, .bool bv2, .str sv2, .row nk2 (.strs ks2) 0, .vec nl2 5 ls2 0], .int .i64 d] => some ⟨∃ dn : Nat, isJs ls ∧ okJ dn (.mk kd bv sv nk ks nl (jdecs ls)) ∧ isJs ls2 ∧ (∃ q, okJ q (.mk kd2 bv2 sv2 nk2 ks2 nl2 (jdecs ls2))) ∧ ((dn : Int) ≤ d ∧ d ≤ 1000000), .bool (sameJ (.mk kd bv sv nk ks nl (jdecs ls)) (.mk kd2 bv2 sv2 nk2 ks2 nl2 (jdecs ls2)))⟩
  | _ => none
theorem entA_jsame_ok : ∀ xs c, entA_jsame xs = some c → FuncOk Try.prog noT 24 xs c := fun xs c h => by
  unfold entA_jsame at h
  split at h
  · injection h with h; subst h; exact exI fun n => ent_jsame_ok n _ _ rfl
  · cases h
end
section
def X_gsame : Tbl := tblX [(24, entA_jsame)]
def H_gsame (kd : Int) (bv : Bool) (sv : Bs) (nk : Bool) (ks : List Bs) (nl : Bool) (ls : List PV) (kd2 : Int) (bv2 : Bool) (sv2 : Bs) (nk2 : Bool) (ks2 : List Bs) (nl2 : Bool) (ls2 : List PV) : Loops := fun i => none
theorem X_gsame_ok : XOk Try.prog noT X_gsame := tblX_cons entA_jsame_ok (tblX_nil)
theorem vc_gsame (kd : Int) (bv : Bool) (sv : Bs) (nk : Bool) (ks : List Bs) (nl : Bool) (ls : List PV) (kd2 : Int) (bv2 : Bool) (sv2 : Bs) (nk2 : Bool) (ks2 : List Bs) (nl2 : Bool) (ls2 : List PV) (k : PV → Prop) : evF Try.prog X_gsame noT (H_gsame kd bv sv nk ks nl ls kd2 bv2 sv2 nk2 ks2 nl2 ls2) 1000 Try.f15 [.agg [.int .i64 kd, .bool bv, .str sv, .row nk (.strs ks) 0, .vec nl 5 ls 0], .agg [.int .i64 kd2, .bool bv2, .str sv2, .row nk2 (.strs ks2) 0, .vec nl2 5 ls2 0]] k = (
  (∃ (dn : Nat),
 isJs ls ∧
 okJ dn (JV.mk kd bv sv nk ks nl (jdecs ls)) ∧
 isJs ls2 ∧
 (∃ (q : Nat), okJ q (JV.mk kd2 bv2 sv2 nk2 ks2 nl2 (jdecs ls2))) ∧
 ↑dn ≤ (65536 : Int) ∧ (65536 : Int) ≤ (1000000 : Int)) ∧
 k
 (PV.bool
 (sameJ (JV.mk kd bv sv nk ks nl (jdecs ls)) (JV.mk kd2 bv2 sv2 nk2 ks2 nl2 (jdecs ls2))))) := by kernel_rfl
attribute [local irreducible] Go.Vc.evF
theorem ok_gsame (kd : Int) (bv : Bool) (sv : Bs) (nk : Bool) (ks : List Bs) (nl : Bool) (ls : List PV) (kd2 : Int) (bv2 : Bool) (sv2 : Bs) (nk2 : Bool) (ks2 : List Bs) (nl2 : Bool) (ls2 : List PV) : FuncOk Try.prog noT 15 [.agg [.int .i64 kd, .bool bv, .str sv, .row nk (.strs ks) 0, .vec nl 5 ls 0], .agg [.int .i64 kd2, .bool bv2, .str sv2, .row nk2 (.strs ks2) 0, .vec nl2 5 ls2 0]] ⟨isJs ls ∧ okJ 65536 (.mk kd bv sv nk ks nl (jdecs ls)) ∧ isJs ls2 ∧ (∃ q, okJ q (.mk kd2 bv2 sv2 nk2 ks2 nl2 (jdecs ls2))), .bool (sameJ (.mk kd bv sv nk ks nl (jdecs ls)) (.mk kd2 bv2 sv2 nk2 ks2 nl2 (jdecs ls2)))⟩ := evF_ok (by kernel_rfl) X_gsame_ok (H := H_gsame kd bv sv nk ks nl ls kd2 bv2 sv2 nk2 ks2 nl2 ls2) (fuel := 1000) Try.func15 (by kernel_rfl) fun hpre => (vc_gsame kd bv sv nk ks nl ls kd2 bv2 sv2 nk2 ks2 nl2 ls2 _).mpr (by
  obtain ⟨h1, h2, h3, h4⟩ := hpre
  exact ⟨⟨65536, h1, h2, h3, h4, by omega, by omega⟩, rfl⟩)
def ent_gsame : List PV → Option CallR := fun xs => match xs with
  | [.agg [.int .i64 kd, .bool bv, .str sv, .row nk (.strs ks) 0, .vec nl 5 ls 0], .agg [.int .i64 kd2, .bool bv2, .str sv2, .row nk2 (.strs ks2) 0, .vec nl2 5 ls2 0]] => some ⟨isJs ls ∧ okJ 65536 (.mk kd bv sv nk ks nl (jdecs ls)) ∧ isJs ls2 ∧ (∃ q, okJ q (.mk kd2 bv2 sv2 nk2 ks2 nl2 (jdecs ls2))), .bool (sameJ (.mk kd bv sv nk ks nl (jdecs ls)) (.mk kd2 bv2 sv2 nk2 ks2 nl2 (jdecs ls2)))⟩
  | _ => none
theorem ent_gsame_ok : ∀ xs c, ent_gsame xs = some c → FuncOk Try.prog noT 15 xs c := fun xs c h => by
  unfold ent_gsame at h
  split at h
  · injection h with h; subst h; exact ok_gsame _ _ _ _ _ _ _ _ _ _ _ _ _ _
  · cases h
end
end Go.Proofs.Ytaklcjnfjchebaa
