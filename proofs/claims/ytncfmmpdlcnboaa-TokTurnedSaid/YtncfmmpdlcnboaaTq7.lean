import Derived.Test.YtncfmmpdlcnboaaProg
import Derived.ProofKit
import Derived.Test.YtncfmmpdlcnboaaTq6
set_option linter.unusedVariables false
set_option maxRecDepth 100000
set_option linter.unusedSimpArgs false
set_option maxHeartbeats 4000000
namespace Go.Proofs.Ytncfmmpdlcnboaa
open Go Go.Proofs Go.RowKit Go.Vc Go.Proofs.Jv
instance wdJ : Wd := Go.Vc.noW
noncomputable abbrev eltV (ls : List PV) (i : Int) : PV := partV Try.prog (25 : Nat) (pvZ ls i) (0 : Nat)
theorem part_jv (y : JV) : partV Try.prog (25 : Nat) y.pv (0 : Nat) = y.pv := by cases y; kernel_rfl
theorem elt_jv {js : List JV} {i : Nat} (h : i < js.length) : eltV (JV.pvs js) (i : Int) = (js[i]).pv := by
  unfold eltV; rw [pvZ_pvs js i h, part_jv]
theorem jp0 (y : JV) : (y.pv.part 0).asInt = y.k := by cases y; rfl
theorem jp1 (y : JV) : (y.pv.part 1).asBool = y.b := by cases y; rfl
theorem jp2 (y : JV) : (y.pv.part 2).asStr = y.s := by cases y; rfl
theorem jp3 (y : JV) : (y.pv.part 3).asNil = y.nk := by cases y; rfl
theorem jp3' (y : JV) : (y.pv.part 3).asStrs = y.ks := by cases y; rfl
theorem jp4 (y : JV) : (y.pv.part 4).asNil = y.nl := by cases y; rfl
theorem jp4' (y : JV) : (y.pv.part 4).asVec = JV.pvs y.ls := by cases y; rfl
end Go.Proofs.Ytncfmmpdlcnboaa
namespace Go.Proofs.Ytncfmmpdlcnboaa
open Go Go.Proofs Go.RowKit Go.Vc
open Go.Proofs.Jv
section
def ent_weight (dn : Nat) : List PV → Option CallR := fun xs => match xs with
  | [.agg [.int .i64 kd, .bool bv, .str sv, .row nk (.strs ks) 0, .vec nl 5 ls 0], .int .i64 n0, .int .i64 d] => some ⟨isJs ls ∧ okJ dn (.mk kd bv sv nk ks nl (jdecs ls)) ∧ (-1 ≤ n0 ∧ n0 ≤ 1000000) ∧ (0 ≤ d ∧ d ≤ 201), .int .i64 (wJ (.mk kd bv sv nk ks nl (jdecs ls)) n0 d)⟩
  | _ => none
def X_weight (m : Nat) : Tbl := tblX [(10, ent_weight m)]
def H_weight (m : Nat) (kd : Int) (bv : Bool) (sv : Bs) (nk : Bool) (ks : List Bs) (nl : Bool) (ls : List PV) (n0 d : Int) : Loops := fun i => bif Nat.beq i 5 then some ⟨(Int) × (Int), (fun s x => (((s.put 1 (.int .i64 x.1)).put 7 (.int .i64 x.2)).put 33 .undef)), (fun s => (s.int 1, s.int 7)), (fun s x => let q := x.1; let i := x.2; 0 ≤ i ∧ i ≤ ks.length ∧ -1125899906842624 ≤ q ∧ q ≤ 1000000 ∧ wK (ks.drop i.toNat) q = wK ks (n0 - 1 - lenZ sv - lenZ ks)), (fun s x => let q := x.1; let i := x.2; ((ks.length : Int) - i).toNat), [33]⟩ else bif Nat.beq i 9 then some ⟨(Int) × (Int), (fun s x => (((s.put 1 (.int .i64 x.1)).put 8 (.int .i64 x.2)).put 52 .undef)), (fun s => (s.int 1, s.int 8)), (fun s x => let q := x.1; let i := x.2; 0 ≤ i ∧ i ≤ ls.length ∧ -1125899906842624 ≤ q ∧ q ≤ 1000000 ∧ wJs ((jdecs ls).drop i.toNat) q (d + 1) = wJs (jdecs ls) (wK ks (n0 - 1 - lenZ sv - lenZ ks)) (d + 1)), (fun s x => let q := x.1; let i := x.2; ((ls.length : Int) - i).toNat), [52]⟩ else none
theorem X_weight_ok (m : Nat) (ih : ∀ xs c, ent_weight m xs = some c → FuncOk Try.prog noT 10 xs c) : XOk Try.prog noT (X_weight m) := tblX_cons ih (tblX_nil)
theorem vc_weight (m : Nat) (kd : Int) (bv : Bool) (sv : Bs) (nk : Bool) (ks : List Bs) (nl : Bool) (ls : List PV) (n0 d : Int) (k : PV → Prop) : evF Try.prog (X_weight m) noT (H_weight m kd bv sv nk ks nl ls n0 d) 1000 Try.f10 [.agg [.int .i64 kd, .bool bv, .str sv, .row nk (.strs ks) 0, .vec nl 5 ls 0], .int .i64 n0, .int .i64 d] k = (
  ((bif decide (n0 < (0 : Int)) then true else decide ((200 : Int) < d)) = true → k (PV.int .i64 (-1 : Int))) ∧
 ((bif decide (n0 < (0 : Int)) then true else decide ((200 : Int) < d)) = false →
 inI64 (n0 - (1 : Int)) ∧
 inI64 (n0 - (1 : Int) - lenZ sv) ∧
 inI64 (n0 - (1 : Int) - lenZ sv - Int.ofNat ks.length) ∧
 VS.mk []
 [(0,
 PV.agg
 [PV.int .i64 kd, PV.bool bv, PV.str sv, PV.row nk (BRow.strs ks) (0 : Nat),
 PV.vec nl (5 : Nat) ls (0 : Nat)]),
 (1, PV.int .i64 (n0 - (1 : Int) - lenZ sv - Int.ofNat ks.length)), (2, PV.int .i64 d),
 (3, PV.ptr ((3 : Nat) + (32 : Nat)) (0 : Nat)), (6, PV.int .i64 (0 : Int)),
 (7, PV.int .i64 (0 : Int)), (8, PV.undef),
 (14, PV.bool (bif decide (n0 < (0 : Int)) then true else decide ((200 : Int) < d))), ((33 : Nat), PV.undef),
 (52, PV.undef)]
 [((3 : Nat) + (32 : Nat),
 PV.agg
 [PV.int .i64 kd, PV.bool bv, PV.str sv, PV.row nk (BRow.strs ks) (0 : Nat),
 PV.vec nl (5 : Nat) ls (0 : Nat)])] =
 VS.mk []
 [(0,
 PV.agg
 [PV.int .i64 kd, PV.bool bv, PV.str sv, PV.row nk (BRow.strs ks) (0 : Nat),
 PV.vec nl (5 : Nat) ls (0 : Nat)]),
 ((1 : Nat), PV.int .i64 (n0 - (1 : Int) - lenZ sv - Int.ofNat ks.length)), (2, PV.int .i64 d),
 (3, PV.ptr ((3 : Nat) + (32 : Nat)) (0 : Nat)), (6, PV.int .i64 (0 : Int)),
 ((7 : Nat), PV.int .i64 (0 : Int)), (8, PV.undef),
 (14, PV.bool (bif decide (n0 < (0 : Int)) then true else decide ((200 : Int) < d))), ((33 : Nat), PV.undef),
 (52, PV.undef)]
 [((3 : Nat) + (32 : Nat),
 PV.agg
 [PV.int .i64 kd, PV.bool bv, PV.str sv, PV.row nk (BRow.strs ks) (0 : Nat),
 PV.vec nl (5 : Nat) ls (0 : Nat)])] ∧
 ((0 : Int) ≤ (0 : Int) ∧
 (0 : Int) ≤ ↑ks.length ∧
 (-1125899906842624 : Int) ≤ n0 - (1 : Int) - lenZ sv - Int.ofNat ks.length ∧
 n0 - (1 : Int) - lenZ sv - Int.ofNat ks.length ≤ (1000000 : Int) ∧
 wK (List.drop (Int.toNat (0 : Int)) ks) (n0 - (1 : Int) - lenZ sv - Int.ofNat ks.length) =
 wK ks (n0 - (1 : Int) - lenZ sv - lenZ ks)) ∧
 ∀ (x : Int × Int),
 (0 : Int) ≤ x.2 ∧
 x.2 ≤ ↑ks.length ∧
 (-1125899906842624 : Int) ≤ x.1 ∧
 x.1 ≤ (1000000 : Int) ∧
 wK (List.drop x.2.toNat ks) x.1 = wK ks (n0 - (1 : Int) - lenZ sv - lenZ ks) →
 ((bif decide (x.2 < Int.ofNat ks.length) then decide ((0 : Int) ≤ x.1) else false) = true →
 within x.2 (Int.ofNat ks.length) ∧
 inI64 (x.1 - lenZ (strZ ks x.2)) ∧
 inI64 (x.2 + (1 : Int)) ∧
 VS.mk []
 [(0,
 PV.agg
 [PV.int .i64 kd, PV.bool bv, PV.str sv, PV.row nk (BRow.strs ks) (0 : Nat),
 PV.vec nl (5 : Nat) ls (0 : Nat)]),
 ((1 : Nat), PV.int .i64 (x.1 - lenZ (strZ ks x.2))),
 (2, PV.int .i64 d), (3, PV.ptr ((3 : Nat) + (32 : Nat)) (0 : Nat)),
 (6, PV.int .i64 (0 : Int)), ((7 : Nat), PV.int .i64 (x.2 + (1 : Int))),
 (8, PV.undef),
 (14, PV.bool (bif decide (n0 < (0 : Int)) then true else decide ((200 : Int) < d))),
 ((33 : Nat), PV.undef), (52, PV.undef)]
 [((3 : Nat) + (32 : Nat),
 PV.agg
 [PV.int .i64 kd, PV.bool bv, PV.str sv, PV.row nk (BRow.strs ks) (0 : Nat),
 PV.vec nl (5 : Nat) ls (0 : Nat)])] =
 VS.mk []
 [(0,
 PV.agg
 [PV.int .i64 kd, PV.bool bv, PV.str sv, PV.row nk (BRow.strs ks) (0 : Nat),
 PV.vec nl (5 : Nat) ls (0 : Nat)]),
 ((1 : Nat), PV.int .i64 (x.1 - lenZ (strZ ks x.2))),
 (2, PV.int .i64 d), (3, PV.ptr ((3 : Nat) + (32 : Nat)) (0 : Nat)),
 (6, PV.int .i64 (0 : Int)), ((7 : Nat), PV.int .i64 (x.2 + (1 : Int))),
 (8, PV.undef),
 (14, PV.bool (bif decide (n0 < (0 : Int)) then true else decide ((200 : Int) < d))),
 ((33 : Nat), PV.undef), (52, PV.undef)]
 [((3 : Nat) + (32 : Nat),
 PV.agg
 [PV.int .i64 kd, PV.bool bv, PV.str sv, PV.row nk (BRow.strs ks) (0 : Nat),
 PV.vec nl (5 : Nat) ls (0 : Nat)])] ∧
 ((0 : Int) ≤ x.2 + (1 : Int) ∧
 x.2 + (1 : Int) ≤ ↑ks.length ∧
 (-1125899906842624 : Int) ≤ x.1 - lenZ (strZ ks x.2) ∧
 x.1 - lenZ (strZ ks x.2) ≤ (1000000 : Int) ∧
 wK (List.drop (x.2 + (1 : Int)).toNat ks) (x.1 - lenZ (strZ ks x.2)) =
 wK ks (n0 - (1 : Int) - lenZ sv - lenZ ks)) ∧
 (↑ks.length - (x.2 + (1 : Int))).toNat < (↑ks.length - x.2).toNat) ∧
 ((bif decide (x.2 < Int.ofNat ks.length) then decide ((0 : Int) ≤ x.1) else false) = false →
 VS.mk []
 [(0,
 PV.agg
 [PV.int .i64 kd, PV.bool bv, PV.str sv, PV.row nk (BRow.strs ks) (0 : Nat),
 PV.vec nl (5 : Nat) ls (0 : Nat)]),
 ((1 : Nat), PV.int .i64 x.1), (2, PV.int .i64 d),
 (3, PV.ptr ((3 : Nat) + (32 : Nat)) (0 : Nat)), (6, PV.int .i64 (0 : Int)),
 ((7 : Nat), PV.int .i64 x.2), (8, PV.int .i64 (0 : Int)),
 (14, PV.bool (bif decide (n0 < (0 : Int)) then true else decide ((200 : Int) < d))),
 ((33 : Nat), PV.bool (bif decide (x.2 < Int.ofNat ks.length) then decide ((0 : Int) ≤ x.1) else false)),
 ((52 : Nat), PV.undef)]
 [((3 : Nat) + (32 : Nat),
 PV.agg
 [PV.int .i64 kd, PV.bool bv, PV.str sv, PV.row nk (BRow.strs ks) (0 : Nat),
 PV.vec nl (5 : Nat) ls (0 : Nat)])] =
 VS.mk []
 [(0,
 PV.agg
 [PV.int .i64 kd, PV.bool bv, PV.str sv, PV.row nk (BRow.strs ks) (0 : Nat),
 PV.vec nl (5 : Nat) ls (0 : Nat)]),
 ((1 : Nat), PV.int .i64 x.1), (2, PV.int .i64 d),
 (3, PV.ptr ((3 : Nat) + (32 : Nat)) (0 : Nat)), (6, PV.int .i64 (0 : Int)),
 ((7 : Nat), PV.int .i64 x.2), ((8 : Nat), PV.int .i64 (0 : Int)),
 (14, PV.bool (bif decide (n0 < (0 : Int)) then true else decide ((200 : Int) < d))),
 ((33 : Nat), PV.bool (bif decide (x.2 < Int.ofNat ks.length) then decide ((0 : Int) ≤ x.1) else false)),
 ((52 : Nat), PV.undef)]
 [((3 : Nat) + (32 : Nat),
 PV.agg
 [PV.int .i64 kd, PV.bool bv, PV.str sv, PV.row nk (BRow.strs ks) (0 : Nat),
 PV.vec nl (5 : Nat) ls (0 : Nat)])] ∧
 ((0 : Int) ≤ (0 : Int) ∧
 (0 : Int) ≤ ↑ls.length ∧
 (-1125899906842624 : Int) ≤ x.1 ∧
 x.1 ≤ (1000000 : Int) ∧
 wJs (List.drop (Int.toNat (0 : Int)) (jdecs ls)) x.1 (d + (1 : Int)) =
 wJs (jdecs ls) (wK ks (n0 - (1 : Int) - lenZ sv - lenZ ks))
 (d + (1 : Int))) ∧
 ∀ (x_1 : Int × Int),
 (0 : Int) ≤ x_1.2 ∧
 x_1.2 ≤ ↑ls.length ∧
 (-1125899906842624 : Int) ≤ x_1.1 ∧
 x_1.1 ≤ (1000000 : Int) ∧
 wJs (List.drop x_1.2.toNat (jdecs ls)) x_1.1 (d + (1 : Int)) =
 wJs (jdecs ls) (wK ks (n0 - (1 : Int) - lenZ sv - lenZ ks))
 (d + (1 : Int)) →
 ((bif decide (x_1.2 < lenZ ls) then decide ((0 : Int) ≤ x_1.1) else false) = true →
 within x_1.2 (lenZ ls) ∧
 eltV ls x_1.2 =
 PV.agg
 [PV.int .i64
 ((eltV ls x_1.2).part (0 : Nat)).asInt,
 PV.bool
 ((eltV ls x_1.2).part
 (1 : Nat)).asBool,
 PV.str
 ((eltV ls x_1.2).part
 (2 : Nat)).asStr,
 PV.row
 ((eltV ls x_1.2).part
 (3 : Nat)).asNil
 (BRow.strs
 ((eltV ls x_1.2).part
 (3 : Nat)).asStrs)
 (0 : Nat),
 PV.vec
 ((eltV ls x_1.2).part
 (4 : Nat)).asNil
 (nat_lit 5)
 ((eltV ls x_1.2).part
 (4 : Nat)).asVec
 (0 : Nat)] ∧
 inI64 (d + (1 : Int)) ∧
 (isJs
 ((eltV ls x_1.2).part
 (4 : Nat)).asVec ∧
 okJ m
 (JV.mk
 ((eltV ls x_1.2).part (0 : Nat)).asInt
 ((eltV ls x_1.2).part
 (1 : Nat)).asBool
 ((eltV ls x_1.2).part
 (2 : Nat)).asStr
 ((eltV ls x_1.2).part
 (3 : Nat)).asNil
 ((eltV ls x_1.2).part
 (3 : Nat)).asStrs
 ((eltV ls x_1.2).part
 (4 : Nat)).asNil
 (jdecs
 ((eltV ls x_1.2).part
 (4 : Nat)).asVec)) ∧
 ((-1 : Int) ≤ x_1.1 ∧ x_1.1 ≤ (1000000 : Int)) ∧ (0 : Int) ≤ d + (1 : Int) ∧ d + (1 : Int) ≤ (201 : Int)) ∧
 inI64 (x_1.2 + (1 : Int)) ∧
 VS.mk []
 [(0,
 PV.agg
 [PV.int .i64 kd, PV.bool bv, PV.str sv,
 PV.row nk (BRow.strs ks) (0 : Nat), PV.vec nl (5 : Nat) ls (0 : Nat)]),
 ((1 : Nat),
 PV.int .i64
 (wJ
 (JV.mk
 ((eltV ls x_1.2).part (0 : Nat)).asInt
 ((eltV ls x_1.2).part
 (1 : Nat)).asBool
 ((eltV ls x_1.2).part
 (2 : Nat)).asStr
 ((eltV ls x_1.2).part
 (3 : Nat)).asNil
 ((eltV ls x_1.2).part
 (3 : Nat)).asStrs
 ((eltV ls x_1.2).part
 (4 : Nat)).asNil
 (jdecs
 ((eltV ls x_1.2).part
 (4 : Nat)).asVec))
 x_1.1 (d + (1 : Int)))),
 (2, PV.int .i64 d), (3, PV.ptr ((3 : Nat) + (32 : Nat)) (0 : Nat)),
 (6, PV.int .i64 (0 : Int)), ((7 : Nat), PV.int .i64 x.2),
 ((8 : Nat), PV.int .i64 (x_1.2 + (1 : Int))),
 (14, PV.bool (bif decide (n0 < (0 : Int)) then true else decide ((200 : Int) < d))),
 ((33 : Nat),
 PV.bool (bif decide (x.2 < Int.ofNat ks.length) then decide ((0 : Int) ≤ x.1) else false)),
 ((52 : Nat), PV.undef)]
 [((3 : Nat) + (32 : Nat),
 PV.agg
 [PV.int .i64 kd, PV.bool bv, PV.str sv,
 PV.row nk (BRow.strs ks) (0 : Nat), PV.vec nl (5 : Nat) ls (0 : Nat)])] =
 VS.mk []
 [(0,
 PV.agg
 [PV.int .i64 kd, PV.bool bv, PV.str sv,
 PV.row nk (BRow.strs ks) (0 : Nat), PV.vec nl (5 : Nat) ls (0 : Nat)]),
 ((1 : Nat),
 PV.int .i64
 (wJ
 (JV.mk
 ((eltV ls x_1.2).part (0 : Nat)).asInt
 ((eltV ls x_1.2).part
 (1 : Nat)).asBool
 ((eltV ls x_1.2).part
 (2 : Nat)).asStr
 ((eltV ls x_1.2).part
 (3 : Nat)).asNil
 ((eltV ls x_1.2).part
 (3 : Nat)).asStrs
 ((eltV ls x_1.2).part
 (4 : Nat)).asNil
 (jdecs
 ((eltV ls x_1.2).part
 (4 : Nat)).asVec))
 x_1.1 (d + (1 : Int)))),
 (2, PV.int .i64 d), (3, PV.ptr ((3 : Nat) + (32 : Nat)) (0 : Nat)),
 (6, PV.int .i64 (0 : Int)), ((7 : Nat), PV.int .i64 x.2),
 ((8 : Nat), PV.int .i64 (x_1.2 + (1 : Int))),
 (14, PV.bool (bif decide (n0 < (0 : Int)) then true else decide ((200 : Int) < d))),
 ((33 : Nat),
 PV.bool (bif decide (x.2 < Int.ofNat ks.length) then decide ((0 : Int) ≤ x.1) else false)),
 ((52 : Nat), PV.undef)]
 [((3 : Nat) + (32 : Nat),
 PV.agg
 [PV.int .i64 kd, PV.bool bv, PV.str sv,
 PV.row nk (BRow.strs ks) (0 : Nat), PV.vec nl (5 : Nat) ls (0 : Nat)])] ∧
 ((0 : Int) ≤ x_1.2 + (1 : Int) ∧
 x_1.2 + (1 : Int) ≤ ↑ls.length ∧
 (-1125899906842624 : Int) ≤
 wJ
 (JV.mk
 ((eltV ls x_1.2).part (0 : Nat)).asInt
 ((eltV ls x_1.2).part
 (1 : Nat)).asBool
 ((eltV ls x_1.2).part
 (2 : Nat)).asStr
 ((eltV ls x_1.2).part
 (3 : Nat)).asNil
 ((eltV ls x_1.2).part
 (3 : Nat)).asStrs
 ((eltV ls x_1.2).part
 (4 : Nat)).asNil
 (jdecs
 ((eltV ls x_1.2).part
 (4 : Nat)).asVec))
 x_1.1 (d + (1 : Int)) ∧
 wJ
 (JV.mk
 ((eltV ls x_1.2).part
 (0 : Nat)).asInt
 ((eltV ls x_1.2).part
 (1 : Nat)).asBool
 ((eltV ls x_1.2).part
 (2 : Nat)).asStr
 ((eltV ls x_1.2).part
 (3 : Nat)).asNil
 ((eltV ls x_1.2).part
 (3 : Nat)).asStrs
 ((eltV ls x_1.2).part
 (4 : Nat)).asNil
 (jdecs
 ((eltV ls x_1.2).part
 (4 : Nat)).asVec))
 x_1.1 (d + (1 : Int)) ≤
 (1000000 : Int) ∧
 wJs (List.drop (x_1.2 + (1 : Int)).toNat (jdecs ls))
 (wJ
 (JV.mk
 ((eltV ls x_1.2).part
 (0 : Nat)).asInt
 ((eltV ls x_1.2).part
 (1 : Nat)).asBool
 ((eltV ls x_1.2).part
 (2 : Nat)).asStr
 ((eltV ls x_1.2).part
 (3 : Nat)).asNil
 ((eltV ls x_1.2).part
 (3 : Nat)).asStrs
 ((eltV ls x_1.2).part
 (4 : Nat)).asNil
 (jdecs
 ((eltV ls x_1.2).part
 (4 : Nat)).asVec))
 x_1.1 (d + (1 : Int)))
 (d + (1 : Int)) =
 wJs (jdecs ls)
 (wK ks (n0 - (1 : Int) - lenZ sv - lenZ ks)) (d + (1 : Int))) ∧
 (↑ls.length - (x_1.2 + (1 : Int))).toNat < (↑ls.length - x_1.2).toNat) ∧
 ((bif decide (x_1.2 < lenZ ls) then decide ((0 : Int) ≤ x_1.1) else false) = false →
 k (PV.int .i64 x_1.1))))) := by kernel_rfl
attribute [local irreducible] Go.Vc.evF
theorem ok_weight (m : Nat) (ih : ∀ xs c, ent_weight m xs = some c → FuncOk Try.prog noT 10 xs c) (kd : Int) (bv : Bool) (sv : Bs) (nk : Bool) (ks : List Bs) (nl : Bool) (ls : List PV) (n0 d : Int) : FuncOk Try.prog noT 10 [.agg [.int .i64 kd, .bool bv, .str sv, .row nk (.strs ks) 0, .vec nl 5 ls 0], .int .i64 n0, .int .i64 d] ⟨isJs ls ∧ okJ (m + 1) (.mk kd bv sv nk ks nl (jdecs ls)) ∧ (-1 ≤ n0 ∧ n0 ≤ 1000000) ∧ (0 ≤ d ∧ d ≤ 201), .int .i64 (wJ (.mk kd bv sv nk ks nl (jdecs ls)) n0 d)⟩ := evF_ok (by kernel_rfl) (X_weight_ok m ih) (H := H_weight m kd bv sv nk ks nl ls n0 d) (fuel := 1000) Try.func10 (by kernel_rfl) fun hpre => (vc_weight m kd bv sv nk ks nl ls n0 d _).mpr (by
  obtain ⟨⟨js, rfl⟩, hok, ⟨hn0, hn1⟩, hd0, hd1⟩ := hpre
  rw [jdecs_pvs] at hok
  have hok1 := hok
  obtain ⟨hk, hs, hks, hkl, hls, hj⟩ := hok1
  simp only [JV.k, JV.s, JV.ks, JV.ls] at hk hs hks hkl hls hj
  have hml : bigJ = 140737488355328 := rfl
  simp only [jdecs_pvs, pvs_lenZ, pvs_length]
  have hw : wJ (.mk kd bv sv nk ks nl js) n0 d = if n0 < 0 ∨ 200 < d then -1 else wJs js (wK ks (n0 - 1 - lenZ sv - lenZ ks)) (d + 1) := by rw [wJ]
  have hsl : lenZ sv = (sv.length : Int) := rfl
  have hkz : lenZ ks = (ks.length : Int) := rfl
  have hko : Int.ofNat ks.length = (ks.length : Int) := rfl
  refine ⟨fun h => ?_, fun h => ?_⟩
  · show PV.int _ _ = PV.int _ _
    rw [hw, if_pos (or_t h)]
  have hc := or_f h
  rw [if_neg hc] at hw
  refine ⟨by unfold inI64; omega, by unfold inI64; omega, by unfold inI64; omega, trivial, ⟨by omega, by omega, by omega, by omega, rfl⟩, fun x hx => ?_⟩
  obtain ⟨q, i⟩ := x
  obtain ⟨h0, h1, h2, h3, h4⟩ := hx
  simp only at h0 h1 h2 h3 h4
  obtain ⟨n, rfl⟩ := Int.eq_ofNat_of_zero_le h0
  rw [Int.toNat_natCast] at h4
  refine ⟨fun g => ?_, fun g => ?_⟩
  · have g1 : n < ks.length := by have := (and_t g).1; simp only at this; omega
    have g2 : 0 ≤ q := (and_t g).2
    have e := str_at g1
    have hl := hkl _ (List.getElem_mem g1)
    have hz : lenZ ks[n] = (ks[n].length : Int) := rfl
    simp only [e]
    refine ⟨⟨by omega, by omega⟩, by unfold inI64; omega, by unfold inI64; omega, trivial, ⟨by omega, by omega, by omega, by omega, ?_⟩, by omega⟩
    rw [show ((n : Int) + 1).toNat = n + 1 by omega, ← h4]; exact (wK_drop g1 g2).symm
  have hwk : wK ks (n0 - 1 - lenZ sv - lenZ ks) = q := by
    rw [← h4]
    by_cases c : n < ks.length
    · exact wK_neg (by have := and_f g; simp only at this; omega)
    · rw [List.drop_of_length_le (by omega)]; rfl
  rw [hwk] at hw
  refine ⟨trivial, ⟨by omega, by omega, h2, h3, by rw [hwk]; rfl⟩, fun y hy => ?_⟩
  obtain ⟨p, i⟩ := y
  obtain ⟨f0, f1, f2, f3, f4⟩ := hy
  simp only at f0 f1 f2 f3 f4
  obtain ⟨a, rfl⟩ := Int.eq_ofNat_of_zero_le f0
  rw [Int.toNat_natCast, hwk] at f4
  refine ⟨fun g => ?_, fun g => ?_⟩
  · have g1 : a < js.length := by have := (and_t g).1; simp only at this; omega
    have g2 : 0 ≤ p := (and_t g).2
    have hy := hj _ (List.getElem_mem g1)
    simp only [elt_jv g1, jp0, jp1, jp2, jp3, jp3', jp4, jp4', jdecs_pvs, JV.eta']
    have w1 := wJ_le js[a] p (d + 1) (by omega)
    have w2 := wJ_ge js[a] m p (d + 1) hy (by omega)
    refine ⟨⟨by omega, by omega⟩, JV.pv_eq _, by unfold inI64; omega, ⟨isJs_of _, hy, ⟨by omega, by omega⟩, by omega, by omega⟩, by unfold inI64; omega, trivial, ⟨by omega, by omega, by omega, by omega, ?_⟩, by omega⟩
    rw [show ((a : Int) + 1).toNat = a + 1 by omega, hwk, ← f4]; exact (wJs_drop g1 g2).symm
  show PV.int _ _ = PV.int _ _
  rw [hw, ← f4]
  by_cases c : a < js.length
  · rw [wJs_neg (by have := and_f g; simp only at this; omega)]
  · rw [List.drop_of_length_le (by omega), wJs])
theorem ent_weight_ok : ∀ (n : Nat) xs c, ent_weight n xs = some c → FuncOk Try.prog noT 10 xs c
  | 0, xs, c, h => by
    unfold ent_weight at h
    split at h
    · injection h with h; subst h; exact .of_plain ⟨rfl, rfl⟩ fun hp => False.elim (hp.2.1)
    · cases h
  | m + 1, xs, c, h => by
    unfold ent_weight at h
    split at h
    · injection h with h; subst h; exact ok_weight m (ent_weight_ok m) _ _ _ _ _ _ _ _ _
    · cases h
def entA_weight : List PV → Option CallR := fun xs => match xs with
  | [.agg [.int .i64 kd, .bool bv, .str sv, .row nk (.strs ks) 0, .vec nl 5 ls 0], .int .i64 n0, .int .i64 d] => some ⟨∃ dn : Nat, isJs ls ∧ okJ dn (.mk kd bv sv nk ks nl (jdecs ls)) ∧ (-1 ≤ n0 ∧ n0 ≤ 1000000) ∧ (0 ≤ d ∧ d ≤ 201), .int .i64 (wJ (.mk kd bv sv nk ks nl (jdecs ls)) n0 d)⟩
  | _ => none
theorem entA_weight_ok : ∀ xs c, entA_weight xs = some c → FuncOk Try.prog noT 10 xs c := fun xs c h => by
  unfold entA_weight at h
  split at h
  · injection h with h; subst h; exact exI fun n => ent_weight_ok n _ _ rfl
  · cases h
end
section
def X_heavy : Tbl := tblX [(10, entA_weight)]
def H_heavy (kd : Int) (bv : Bool) (sv : Bs) (nk : Bool) (ks : List Bs) (nl : Bool) (ls : List PV) (n0 : Int) : Loops := fun i => none
theorem X_heavy_ok : XOk Try.prog noT X_heavy := tblX_cons entA_weight_ok (tblX_nil)
theorem vc_heavy (kd : Int) (bv : Bool) (sv : Bs) (nk : Bool) (ks : List Bs) (nl : Bool) (ls : List PV) (n0 : Int) (k : PV → Prop) : evF Try.prog X_heavy noT (H_heavy kd bv sv nk ks nl ls n0) 1000 Try.f4 [.agg [.int .i64 kd, .bool bv, .str sv, .row nk (.strs ks) 0, .vec nl 5 ls 0], .int .i64 n0] k = (
  (∃ (dn : Nat),
 isJs ls ∧
 okJ dn (JV.mk kd bv sv nk ks nl (jdecs ls)) ∧
 ((-1 : Int) ≤ n0 ∧ n0 ≤ (1000000 : Int)) ∧ (0 : Int) ≤ (0 : Int) ∧ (0 : Int) ≤ (201 : Int)) ∧
 k (PV.bool (decide (wJ (JV.mk kd bv sv nk ks nl (jdecs ls)) n0 (0 : Int) < (0 : Int))))) := by kernel_rfl
attribute [local irreducible] Go.Vc.evF
theorem ok_heavy (kd : Int) (bv : Bool) (sv : Bs) (nk : Bool) (ks : List Bs) (nl : Bool) (ls : List PV) (n0 : Int) : FuncOk Try.prog noT 4 [.agg [.int .i64 kd, .bool bv, .str sv, .row nk (.strs ks) 0, .vec nl 5 ls 0], .int .i64 n0] ⟨isJs ls ∧ (∃ q, okJ q (.mk kd bv sv nk ks nl (jdecs ls))) ∧ 0 ≤ n0 ∧ n0 ≤ 1000000, .bool (decide (wJ (.mk kd bv sv nk ks nl (jdecs ls)) n0 0 < 0))⟩ := evF_ok (by kernel_rfl) X_heavy_ok (H := H_heavy kd bv sv nk ks nl ls n0) (fuel := 1000) Try.func4 (by kernel_rfl) fun hpre => (vc_heavy kd bv sv nk ks nl ls n0 _).mpr (by
  obtain ⟨⟨js, rfl⟩, ⟨q, hok⟩, hn0, hn1⟩ := hpre
  exact ⟨⟨q, isJs_of _, hok, ⟨by omega, by omega⟩, by omega, by omega⟩, rfl⟩)
def ent_heavy : List PV → Option CallR := fun xs => match xs with
  | [.agg [.int .i64 kd, .bool bv, .str sv, .row nk (.strs ks) 0, .vec nl 5 ls 0], .int .i64 n0] => some ⟨isJs ls ∧ (∃ q, okJ q (.mk kd bv sv nk ks nl (jdecs ls))) ∧ 0 ≤ n0 ∧ n0 ≤ 1000000, .bool (decide (wJ (.mk kd bv sv nk ks nl (jdecs ls)) n0 0 < 0))⟩
  | _ => none
theorem ent_heavy_ok : ∀ xs c, ent_heavy xs = some c → FuncOk Try.prog noT 4 xs c := fun xs c h => by
  unfold ent_heavy at h
  split at h
  · injection h with h; subst h; exact ok_heavy _ _ _ _ _ _ _ _
  · cases h
end
end Go.Proofs.Ytncfmmpdlcnboaa
namespace Go.Proofs.Ytncfmmpdlcnboaa
open Go Go.Proofs Go.RowKit Go.Vc
def ent_own : List PV → Option CallR := fun xs => match xs with
  | [] => some ⟨False, .undef⟩
  | _ => none
theorem ent_own_ok : ∀ xs c, ent_own xs = some c → FuncOk Try.prog noT 99999999 xs c := fun xs c h => by
  unfold ent_own at h
  split at h
  · injection h with h
    subst h
    exact FuncOk.of_plain ⟨rfl, rfl⟩ fun hp => hp.elim
  · cases h
def ent_eag : List PV → Option CallR := fun xs => match xs with
  | [] => some ⟨False, .undef⟩
  | _ => none
theorem ent_eag_ok : ∀ xs c, ent_eag xs = some c → FuncOk Try.prog noT 99999998 xs c := fun xs c h => by
  unfold ent_eag at h
  split at h
  · injection h with h
    subst h
    exact FuncOk.of_plain ⟨rfl, rfl⟩ fun hp => hp.elim
  · cases h
end Go.Proofs.Ytncfmmpdlcnboaa
namespace Go.Proofs.Ytncfmmpdlcnboaa
open Go Go.Proofs Go.RowKit Go.Vc
open Go.Proofs.Jv
section
theorem byte_at {l : Bs} {n : Nat} (h : n < l.length) : byteZ l (n : Int) = (l[n].toNat : Int) := by
  unfold byteZ; rw [Int.toNat_natCast, List.getD_eq_getElem?_getD, List.getElem?_eq_getElem h]; rfl
abbrev HX : Bs := (ByteArray.mk #[48, 49, 50, 51, 52, 53, 54, 55, 56, 57, 97, 98, 99, 100, 101, 102]).data.toList
theorem hexT : ∀ n : Fin 256, (0 ≤ shrZ .u8 (n.val : Int) 4 ∧ shrZ .u8 (n.val : Int) 4 < 16) ∧ (0 ≤ bitsZ .and .u8 (n.val : Int) 15 ∧ bitsZ .and .u8 (n.val : Int) 15 < 16) ∧ zByte (byteZ HX (shrZ .u8 (n.val : Int) 4)) = hexB (n.val / 16) ∧ zByte (byteZ HX (bitsZ .and .u8 (n.val : Int) 15)) = hexB (n.val % 16) := by decide +kernel
theorem hexC (c : UInt8) : (0 ≤ shrZ .u8 (c.toNat : Int) 4 ∧ shrZ .u8 (c.toNat : Int) 4 < 16) ∧ (0 ≤ bitsZ .and .u8 (c.toNat : Int) 15 ∧ bitsZ .and .u8 (c.toNat : Int) 15 < 16) ∧ zByte (byteZ HX (shrZ .u8 (c.toNat : Int) 4)) = hexB (c.toNat / 16) ∧ zByte (byteZ HX (bitsZ .and .u8 (c.toNat : Int) 15)) = hexB (c.toNat % 16) := hexT ⟨c.toNat, c.toNat_lt⟩
theorem esc_plain {c : UInt8} (h : 32 ≤ (c.toNat : Int) ∧ (c.toNat : Int) ≠ 34 ∧ (c.toNat : Int) ≠ 92) : escB c = [c] := by
  have e : shortZ c.toNat = 0 := by unfold shortZ; repeat' split <;> try omega
  unfold escB
  rw [e, if_neg (by simp), if_neg (by omega)]
theorem esc_hex {c : UInt8} (h : ¬ (32 ≤ (c.toNat : Int) ∧ (c.toNat : Int) ≠ 34 ∧ (c.toNat : Int) ≠ 92)) (hs : shortZ c.toNat = 0) : escB c = [92, 117, 48, 48, hexB (c.toNat / 16), hexB (c.toNat % 16)] := by
  unfold escB
  rw [hs, if_neg (by simp), if_pos]
  have h1 : ¬ (c.toNat : Int) = 34 := fun e => by rw [e] at hs; cases hs
  have h2 : ¬ (c.toNat : Int) = 92 := fun e => by rw [e] at hs; cases hs
  omega
theorem u8_1 {z : Int} (h0 : 0 ≤ z) (h1 : z ≤ 255) : allU8 [PV.int .u8 z] := ⟨h0, h1⟩
theorem u8_0 {z : Int} (h0 : 0 ≤ z) (h1 : z ≤ 255) : inU8 (PV.int .u8 z).asInt := ⟨h0, h1⟩
abbrev FRL : Bs := (ByteArray.mk #[34, 92, 8, 12, 10, 13, 9]).data.toList
abbrev TOL : Bs := (ByteArray.mk #[34, 92, 98, 102, 110, 114, 116]).data.toList
def lastI (c : Int) : Nat → Int
  | 0 => -1
  | n + 1 => if byteZ FRL n = c then n else lastI c n
theorem tabF : ∀ n : Fin 256, (0 ≤ lastI (n.val : Int) 7 → lastI (n.val : Int) 7 < 7 ∧ 0 ≤ byteZ TOL (lastI (n.val : Int) 7) ∧ byteZ TOL (lastI (n.val : Int) 7) ≤ 255 ∧ escB (UInt8.ofNat n.val) = [92, zByte (byteZ TOL (lastI (n.val : Int) 7))]) ∧ (¬ 0 ≤ lastI (n.val : Int) 7 → shortZ (n.val : Int) = 0) := by decide +kernel
theorem tabQ (c : UInt8) : (0 ≤ lastI (c.toNat : Int) 7 → lastI (c.toNat : Int) 7 < 7 ∧ 0 ≤ byteZ TOL (lastI (c.toNat : Int) 7) ∧ byteZ TOL (lastI (c.toNat : Int) 7) ≤ 255 ∧ escB c = [92, zByte (byteZ TOL (lastI (c.toNat : Int) 7))]) ∧ (¬ 0 ≤ lastI (c.toNat : Int) 7 → shortZ (c.toNat : Int) = 0) := by
  have h := tabF ⟨c.toNat, c.toNat_lt⟩
  rw [show UInt8.ofNat c.toNat = c by simp] at h
  exact h
def X_rquote : Tbl := tblX [(99999999, ent_own)]
def H_rquote (l : Bs) : Loops := fun i => bif Nat.beq i 5 then some ⟨(Bool × Bs) × (Int), (fun s x => (((((((((s.row s 3 x.1.1 (.bytes x.1.2)).put 7 (.int .i64 x.2)).put 8 .undef).put 9 .undef).put 14 .undef).put 20 .undef).put 29 .undef).put 37 .undef).put 46 .undef)), (fun s => ((s.nil 3, s.bytes 3), s.int 7)), (fun s x => let o := x.1; let i := x.2; 0 ≤ i ∧ i ≤ l.length ∧ o.1 = false ∧ o.2 = 34 :: escJ (l.take i.toNat)), (fun s x => let o := x.1; let i := x.2; ((l.length : Int) - i).toNat), [8, 9, 14, 20, 29, 37, 46]⟩ else bif Nat.beq i 9 then some ⟨(Int) × (Int), (fun s x => ((((s.put 8 (.int .i64 x.1)).put 9 (.int .i64 x.2)).put 20 .undef).put 29 .undef)), (fun s => (s.int 8, s.int 9)), (fun s x => let a := x.1; let k := x.2; 0 ≤ k ∧ k ≤ 7 ∧ a = lastI (byteZ l (s.int 7)) k.toNat), (fun s x => let a := x.1; let k := x.2; (7 - k).toNat), [20, 29]⟩ else none
theorem X_rquote_ok : XOk Try.prog noT X_rquote := tblX_cons ent_own_ok (tblX_nil)
theorem vc_rquote (l : Bs) (k : PV → Prop) : evF Try.prog X_rquote noT (H_rquote l) 1000 Try.f21 [.str l] k = (
  allU8 [PV.int .u8 (34 : Int)] ∧
 VS.mk []
 [(0, PV.str l), (2, PV.row true (BRow.bytes []) ((2 : Nat) + (32 : Nat))),
 (3, PV.row false (BRow.bytes [zByte (34 : Int)]) ((10 : Nat) + (32 : Nat))),
 (4,
 PV.str
 (ByteArray.mk
 #[48, 49, 50, 51, 52, 53, 54, 55, 56, 57, 97, 98, 99, 100, 101, 102]).data.toList),
 (5,
 PV.str (ByteArray.mk #[34, 92, 8, 12, 10, 13, 9]).data.toList),
 (6,
 PV.str (ByteArray.mk #[34, 92, 98, 102, 110, 114, 116]).data.toList),
 (7, PV.int .i64 (0 : Int)), ((8 : Nat), PV.undef), ((9 : Nat), PV.undef), ((14 : Nat), PV.undef),
 ((20 : Nat), PV.undef), ((29 : Nat), PV.undef), ((37 : Nat), PV.undef), ((46 : Nat), PV.undef)]
 [] =
 VS.mk []
 [(0, PV.str l), (2, PV.row true (BRow.bytes []) ((2 : Nat) + (32 : Nat))),
 ((3 : Nat), PV.row false (BRow.bytes [zByte (34 : Int)]) ((10 : Nat) + (32 : Nat))),
 (4,
 PV.str
 (ByteArray.mk
 #[48, 49, 50, 51, 52, 53, 54, 55, 56, 57, 97, 98, 99, 100, 101, 102]).data.toList),
 (5,
 PV.str (ByteArray.mk #[34, 92, 8, 12, 10, 13, 9]).data.toList),
 (6,
 PV.str (ByteArray.mk #[34, 92, 98, 102, 110, 114, 116]).data.toList),
 ((7 : Nat), PV.int .i64 (0 : Int)), ((8 : Nat), PV.undef), ((9 : Nat), PV.undef), ((14 : Nat), PV.undef),
 ((20 : Nat), PV.undef), ((29 : Nat), PV.undef), ((37 : Nat), PV.undef), ((46 : Nat), PV.undef)]
 [] ∧
 ((0 : Int) ≤ (0 : Int) ∧
 (0 : Int) ≤ ↑(List.length l) ∧ false = false ∧ [zByte (34 : Int)] = (34 : UInt8) :: escJ (List.take (Int.toNat (0 : Int)) l)) ∧
 ∀ (x : (Bool × Bs) × Int),
 (0 : Int) ≤ x.2 ∧ x.2 ≤ ↑(List.length l) ∧ x.1.1 = false ∧ x.1.2 = (34 : UInt8) :: escJ (List.take x.2.toNat l) →
 (decide (x.2 < lenZ l) = true →
 VS.mk []
 [(0, PV.str l), (2, PV.row true (BRow.bytes []) ((2 : Nat) + (32 : Nat))),
 ((3 : Nat), PV.row x.1.1 (BRow.bytes x.1.2) ((10 : Nat) + (32 : Nat))),
 (4,
 PV.str
 (ByteArray.mk
 #[48, 49, 50, 51, 52, 53, 54, 55, 56, 57, 97, 98, 99, 100, 101, 102]).data.toList),
 (5,
 PV.str
 (ByteArray.mk #[34, 92, 8, 12, 10, 13, 9]).data.toList),
 (6,
 PV.str
 (ByteArray.mk #[34, 92, 98, 102, 110, 114, 116]).data.toList),
 ((7 : Nat), PV.int .i64 x.2), ((8 : Nat), PV.int .i64 (-1 : Int)),
 ((9 : Nat), PV.int .i64 (0 : Int)), ((14 : Nat), PV.bool (decide (x.2 < lenZ l))),
 ((20 : Nat), PV.undef), ((29 : Nat), PV.undef), ((37 : Nat), PV.undef), ((46 : Nat), PV.undef)]
 [] =
 VS.mk []
 [(0, PV.str l), (2, PV.row true (BRow.bytes []) ((2 : Nat) + (32 : Nat))),
 ((3 : Nat), PV.row x.1.1 (BRow.bytes x.1.2) ((10 : Nat) + (32 : Nat))),
 (4,
 PV.str
 (ByteArray.mk
 #[48, 49, 50, 51, 52, 53, 54, 55, 56, 57, 97, 98, 99, 100, 101, 102]).data.toList),
 (5,
 PV.str
 (ByteArray.mk #[34, 92, 8, 12, 10, 13, 9]).data.toList),
 (6,
 PV.str
 (ByteArray.mk #[34, 92, 98, 102, 110, 114, 116]).data.toList),
 ((7 : Nat), PV.int .i64 x.2), ((8 : Nat), PV.int .i64 (-1 : Int)),
 ((9 : Nat), PV.int .i64 (0 : Int)), ((14 : Nat), PV.bool (decide (x.2 < lenZ l))),
 ((20 : Nat), PV.undef), ((29 : Nat), PV.undef), ((37 : Nat), PV.undef), ((46 : Nat), PV.undef)]
 [] ∧
 ((0 : Int) ≤ (0 : Int) ∧ (0 : Int) ≤ (7 : Int) ∧ (-1 : Int) = lastI (byteZ l x.2) (Int.toNat (0 : Int))) ∧
 ∀ (x_1 : Int × Int),
 (0 : Int) ≤ x_1.2 ∧ x_1.2 ≤ (7 : Int) ∧ x_1.1 = lastI (byteZ l x.2) x_1.2.toNat →
 (decide
 (x_1.2 <
 lenZ
 (ByteArray.mk
 #[34, 92, 8, 12, 10, 13, 9]).data.toList) =
 true →
 within x_1.2
 (lenZ
 (ByteArray.mk #[34, 92, 8, 12, 10, 13, 9]).data.toList) ∧
 within x.2 (lenZ l) ∧
 (decide
 (byteZ
 (ByteArray.mk
 #[34, 92, 8, 12, 10, 13, 9]).data.toList
 x_1.2 =
 byteZ l x.2) =
 true →
 inI64 (x_1.2 + (1 : Int)) ∧
 VS.mk []
 [(0, PV.str l), (2, PV.row true (BRow.bytes []) ((2 : Nat) + (32 : Nat))),
 ((3 : Nat), PV.row x.1.1 (BRow.bytes x.1.2) ((10 : Nat) + (32 : Nat))),
 (4,
 PV.str
 (ByteArray.mk
 #[48, 49, 50, 51, 52, 53, 54, 55, 56, 57, 97, 98, 99, 100, 101, 102]).data.toList),
 (5,
 PV.str
 (ByteArray.mk
 #[34, 92, 8, 12, 10, 13, 9]).data.toList),
 (6,
 PV.str
 (ByteArray.mk
 #[34, 92, 98, 102, 110, 114, 116]).data.toList),
 ((7 : Nat), PV.int .i64 x.2), ((8 : Nat), PV.int .i64 x_1.2),
 ((9 : Nat), PV.int .i64 (x_1.2 + (1 : Int))),
 ((14 : Nat), PV.bool (decide (x.2 < lenZ l))), ((20 : Nat), PV.undef),
 ((29 : Nat), PV.undef), ((37 : Nat), PV.undef), ((46 : Nat), PV.undef)]
 [] =
 VS.mk []
 [(0, PV.str l), (2, PV.row true (BRow.bytes []) ((2 : Nat) + (32 : Nat))),
 ((3 : Nat), PV.row x.1.1 (BRow.bytes x.1.2) ((10 : Nat) + (32 : Nat))),
 (4,
 PV.str
 (ByteArray.mk
 #[48, 49, 50, 51, 52, 53, 54, 55, 56, 57, 97, 98, 99, 100, 101, 102]).data.toList),
 (5,
 PV.str
 (ByteArray.mk
 #[34, 92, 8, 12, 10, 13, 9]).data.toList),
 (6,
 PV.str
 (ByteArray.mk
 #[34, 92, 98, 102, 110, 114, 116]).data.toList),
 ((7 : Nat), PV.int .i64 x.2), ((8 : Nat), PV.int .i64 x_1.2),
 ((9 : Nat), PV.int .i64 (x_1.2 + (1 : Int))),
 ((14 : Nat), PV.bool (decide (x.2 < lenZ l))), ((20 : Nat), PV.undef),
 ((29 : Nat), PV.undef), ((37 : Nat), PV.undef), ((46 : Nat), PV.undef)]
 [] ∧
 ((0 : Int) ≤ x_1.2 + (1 : Int) ∧
 x_1.2 + (1 : Int) ≤ (7 : Int) ∧
 x_1.2 = lastI (byteZ l x.2) (x_1.2 + (1 : Int)).toNat) ∧
 ((7 : Int) - (x_1.2 + (1 : Int))).toNat < ((7 : Int) - x_1.2).toNat) ∧
 (decide
 (byteZ
 (ByteArray.mk
 #[34, 92, 8, 12, 10, 13, 9]).data.toList
 x_1.2 =
 byteZ l x.2) =
 false →
 inI64 (x_1.2 + (1 : Int)) ∧
 VS.mk []
 [(0, PV.str l), (2, PV.row true (BRow.bytes []) ((2 : Nat) + (32 : Nat))),
 ((3 : Nat), PV.row x.1.1 (BRow.bytes x.1.2) ((10 : Nat) + (32 : Nat))),
 (4,
 PV.str
 (ByteArray.mk
 #[48, 49, 50, 51, 52, 53, 54, 55, 56, 57, 97, 98, 99, 100, 101, 102]).data.toList),
 (5,
 PV.str
 (ByteArray.mk
 #[34, 92, 8, 12, 10, 13, 9]).data.toList),
 (6,
 PV.str
 (ByteArray.mk
 #[34, 92, 98, 102, 110, 114, 116]).data.toList),
 ((7 : Nat), PV.int .i64 x.2), ((8 : Nat), PV.int .i64 x_1.1),
 ((9 : Nat), PV.int .i64 (x_1.2 + (1 : Int))),
 ((14 : Nat), PV.bool (decide (x.2 < lenZ l))), ((20 : Nat), PV.undef),
 ((29 : Nat), PV.undef), ((37 : Nat), PV.undef), ((46 : Nat), PV.undef)]
 [] =
 VS.mk []
 [(0, PV.str l), (2, PV.row true (BRow.bytes []) ((2 : Nat) + (32 : Nat))),
 ((3 : Nat), PV.row x.1.1 (BRow.bytes x.1.2) ((10 : Nat) + (32 : Nat))),
 (4,
 PV.str
 (ByteArray.mk
 #[48, 49, 50, 51, 52, 53, 54, 55, 56, 57, 97, 98, 99, 100, 101, 102]).data.toList),
 (5,
 PV.str
 (ByteArray.mk
 #[34, 92, 8, 12, 10, 13, 9]).data.toList),
 (6,
 PV.str
 (ByteArray.mk
 #[34, 92, 98, 102, 110, 114, 116]).data.toList),
 ((7 : Nat), PV.int .i64 x.2), ((8 : Nat), PV.int .i64 x_1.1),
 ((9 : Nat), PV.int .i64 (x_1.2 + (1 : Int))),
 ((14 : Nat), PV.bool (decide (x.2 < lenZ l))), ((20 : Nat), PV.undef),
 ((29 : Nat), PV.undef), ((37 : Nat), PV.undef), ((46 : Nat), PV.undef)]
 [] ∧
 ((0 : Int) ≤ x_1.2 + (1 : Int) ∧
 x_1.2 + (1 : Int) ≤ (7 : Int) ∧
 x_1.1 = lastI (byteZ l x.2) (x_1.2 + (1 : Int)).toNat) ∧
 ((7 : Int) - (x_1.2 + (1 : Int))).toNat < ((7 : Int) - x_1.2).toNat)) ∧
 (decide
 (x_1.2 <
 lenZ
 (ByteArray.mk
 #[34, 92, 8, 12, 10, 13, 9]).data.toList) =
 false →
 (decide ((0 : Int) ≤ x_1.1) = true →
 within x_1.1
 (lenZ
 (ByteArray.mk
 #[34, 92, 98, 102, 110, 114, 116]).data.toList) ∧
 allU8
 [PV.int .u8 (92 : Int),
 PV.int .u8
 (byteZ
 (ByteArray.mk
 #[34, 92, 98, 102, 110, 114, 116]).data.toList
 x_1.1)] ∧
 Int.ofNat
 (List.length
 (x.1.2 ++
 [zByte (92 : Int),
 zByte
 (byteZ
 (ByteArray.mk
 #[34, 92, 98, 102, 110, 114, 116]).data.toList
 x_1.1)])) ≤
 maxRow ∧
 inI64 (x.2 + (1 : Int)) ∧
 VS.mk []
 [(0, PV.str l), (2, PV.row true (BRow.bytes []) ((2 : Nat) + (32 : Nat))),
 ((3 : Nat),
 PV.row false
 (BRow.bytes
 (x.1.2 ++
 [zByte (92 : Int),
 zByte
 (byteZ
 (ByteArray.mk
 #[34, 92, 98, 102, 110, 114, 116]).data.toList
 x_1.1)]))
 (nat_lit 41 + (1 : Nat))),
 (4,
 PV.str
 (ByteArray.mk
 #[48, 49, 50, 51, 52, 53, 54, 55, 56, 57, 97, 98, 99, 100, 101, 102]).data.toList),
 (5,
 PV.str
 (ByteArray.mk
 #[34, 92, 8, 12, 10, 13, 9]).data.toList),
 (6,
 PV.str
 (ByteArray.mk
 #[34, 92, 98, 102, 110, 114, 116]).data.toList),
 ((7 : Nat), PV.int .i64 (x.2 + (1 : Int))), ((8 : Nat), PV.undef),
 ((9 : Nat), PV.undef), ((14 : Nat), PV.undef), ((20 : Nat), PV.undef),
 ((29 : Nat), PV.undef), ((37 : Nat), PV.undef), ((46 : Nat), PV.undef)]
 [] =
 VS.mk []
 [(0, PV.str l), (2, PV.row true (BRow.bytes []) ((2 : Nat) + (32 : Nat))),
 ((3 : Nat),
 PV.row false
 (BRow.bytes
 (x.1.2 ++
 [zByte (92 : Int),
 zByte
 (byteZ
 (ByteArray.mk
 #[34, 92, 98, 102, 110, 114, 116]).data.toList
 x_1.1)]))
 ((10 : Nat) + (32 : Nat))),
 (4,
 PV.str
 (ByteArray.mk
 #[48, 49, 50, 51, 52, 53, 54, 55, 56, 57, 97, 98, 99, 100, 101, 102]).data.toList),
 (5,
 PV.str
 (ByteArray.mk
 #[34, 92, 8, 12, 10, 13, 9]).data.toList),
 (6,
 PV.str
 (ByteArray.mk
 #[34, 92, 98, 102, 110, 114, 116]).data.toList),
 ((7 : Nat), PV.int .i64 (x.2 + (1 : Int))), ((8 : Nat), PV.undef),
 ((9 : Nat), PV.undef), ((14 : Nat), PV.undef), ((20 : Nat), PV.undef),
 ((29 : Nat), PV.undef), ((37 : Nat), PV.undef), ((46 : Nat), PV.undef)]
 [] ∧
 ((0 : Int) ≤ x.2 + (1 : Int) ∧
 x.2 + (1 : Int) ≤ ↑(List.length l) ∧
 false = false ∧
 x.1.2 ++
 [zByte (92 : Int),
 zByte
 (byteZ
 (ByteArray.mk
 #[34, 92, 98, 102, 110, 114, 116]).data.toList
 x_1.1)] =
 (34 : UInt8) :: escJ (List.take (x.2 + (1 : Int)).toNat l)) ∧
 (↑(List.length l) - (x.2 + (1 : Int))).toNat < (↑(List.length l) - x.2).toNat) ∧
 (decide ((0 : Int) ≤ x_1.1) = false →
 within x.2 (lenZ l) ∧
 (decide (byteZ l x.2 < (32 : Int)) = true →
 within x.2 (lenZ l) ∧
 (0 : Int) ≤ (4 : Int) ∧
 within (shrZ .u8 (byteZ l x.2) (4 : Int))
 (lenZ
 (ByteArray.mk
 #[48, 49, 50, 51, 52, 53, 54, 55, 56, 57, 97, 98, 99, 100, 101, 102]).data.toList) ∧
 within x.2 (lenZ l) ∧
 within (bitsZ Go.BinOp.and .u8 (byteZ l x.2) (15 : Int))
 (lenZ
 (ByteArray.mk
 #[48, 49, 50, 51, 52, 53, 54, 55, 56, 57, 97, 98, 99, 100, 101, 102]).data.toList) ∧
 allU8
 [PV.int .u8 (92 : Int), PV.int .u8 (117 : Int),
 PV.int .u8 (48 : Int), PV.int .u8 (48 : Int),
 PV.int .u8
 (byteZ
 (ByteArray.mk
 #[48, 49, 50, 51, 52, 53, 54, 55, 56, 57, 97, 98, 99, 100, 101, 102]).data.toList
 (shrZ .u8 (byteZ l x.2) (4 : Int))),
 PV.int .u8
 (byteZ
 (ByteArray.mk
 #[48, 49, 50, 51, 52, 53, 54, 55, 56, 57, 97, 98, 99, 100, 101, 102]).data.toList
 (bitsZ Go.BinOp.and .u8 (byteZ l x.2) (15 : Int)))] ∧
 Int.ofNat
 (List.length
 (x.1.2 ++
 [zByte (92 : Int), zByte (117 : Int), zByte (48 : Int), zByte (48 : Int),
 zByte
 (byteZ
 (ByteArray.mk
 #[48, 49, 50, 51, 52, 53, 54, 55, 56, 57, 97, 98, 99, 100, 101, 102]).data.toList
 (shrZ .u8 (byteZ l x.2) (4 : Int))),
 zByte
 (byteZ
 (ByteArray.mk
 #[48, 49, 50, 51, 52, 53, 54, 55, 56, 57, 97, 98, 99, 100, 101, 102]).data.toList
 (bitsZ Go.BinOp.and .u8 (byteZ l x.2) (15 : Int)))])) ≤
 maxRow ∧
 inI64 (x.2 + (1 : Int)) ∧
 VS.mk []
 [(0, PV.str l),
 (2, PV.row true (BRow.bytes []) ((2 : Nat) + (32 : Nat))),
 ((3 : Nat),
 PV.row false
 (BRow.bytes
 (x.1.2 ++
 [zByte (92 : Int), zByte (117 : Int), zByte (48 : Int),
 zByte (48 : Int),
 zByte
 (byteZ
 (ByteArray.mk
 #[48, 49, 50, 51, 52, 53, 54, 55, 56, 57, 97, 98, 99, 100, 101, 102]).data.toList
 (shrZ .u8 (byteZ l x.2) (4 : Int))),
 zByte
 (byteZ
 (ByteArray.mk
 #[48, 49, 50, 51, 52, 53, 54, 55, 56, 57, 97, 98, 99, 100, 101, 102]).data.toList
 (bitsZ Go.BinOp.and .u8 (byteZ l x.2) (15 : Int)))]))
 (nat_lit 41 + (1 : Nat))),
 (4,
 PV.str
 (ByteArray.mk
 #[48, 49, 50, 51, 52, 53, 54, 55, 56, 57, 97, 98, 99, 100, 101, 102]).data.toList),
 (5,
 PV.str
 (ByteArray.mk
 #[34, 92, 8, 12, 10, 13, 9]).data.toList),
 (6,
 PV.str
 (ByteArray.mk
 #[34, 92, 98, 102, 110, 114, 116]).data.toList),
 ((7 : Nat), PV.int .i64 (x.2 + (1 : Int))), ((8 : Nat), PV.undef),
 ((9 : Nat), PV.undef), ((14 : Nat), PV.undef), ((20 : Nat), PV.undef),
 ((29 : Nat), PV.undef), ((37 : Nat), PV.undef), ((46 : Nat), PV.undef)]
 [] =
 VS.mk []
 [(0, PV.str l),
 (2, PV.row true (BRow.bytes []) ((2 : Nat) + (32 : Nat))),
 ((3 : Nat),
 PV.row false
 (BRow.bytes
 (x.1.2 ++
 [zByte (92 : Int), zByte (117 : Int), zByte (48 : Int),
 zByte (48 : Int),
 zByte
 (byteZ
 (ByteArray.mk
 #[48, 49, 50, 51, 52, 53, 54, 55, 56, 57, 97, 98, 99, 100, 101, 102]).data.toList
 (shrZ .u8 (byteZ l x.2) (4 : Int))),
 zByte
 (byteZ
 (ByteArray.mk
 #[48, 49, 50, 51, 52, 53, 54, 55, 56, 57, 97, 98, 99, 100, 101, 102]).data.toList
 (bitsZ Go.BinOp.and .u8 (byteZ l x.2) (15 : Int)))]))
 ((10 : Nat) + (32 : Nat))),
 (4,
 PV.str
 (ByteArray.mk
 #[48, 49, 50, 51, 52, 53, 54, 55, 56, 57, 97, 98, 99, 100, 101, 102]).data.toList),
 (5,
 PV.str
 (ByteArray.mk
 #[34, 92, 8, 12, 10, 13, 9]).data.toList),
 (6,
 PV.str
 (ByteArray.mk
 #[34, 92, 98, 102, 110, 114, 116]).data.toList),
 ((7 : Nat), PV.int .i64 (x.2 + (1 : Int))), ((8 : Nat), PV.undef),
 ((9 : Nat), PV.undef), ((14 : Nat), PV.undef), ((20 : Nat), PV.undef),
 ((29 : Nat), PV.undef), ((37 : Nat), PV.undef), ((46 : Nat), PV.undef)]
 [] ∧
 ((0 : Int) ≤ x.2 + (1 : Int) ∧
 x.2 + (1 : Int) ≤ ↑(List.length l) ∧
 false = false ∧
 x.1.2 ++
 [zByte (92 : Int), zByte (117 : Int), zByte (48 : Int),
 zByte (48 : Int),
 zByte
 (byteZ
 (ByteArray.mk
 #[48, 49, 50, 51, 52, 53, 54, 55, 56, 57, 97, 98, 99, 100, 101, 102]).data.toList
 (shrZ .u8 (byteZ l x.2) (4 : Int))),
 zByte
 (byteZ
 (ByteArray.mk
 #[48, 49, 50, 51, 52, 53, 54, 55, 56, 57, 97, 98, 99, 100, 101, 102]).data.toList
 (bitsZ Go.BinOp.and .u8 (byteZ l x.2) (15 : Int)))] =
 (34 : UInt8) :: escJ (List.take (x.2 + (1 : Int)).toNat l)) ∧
 (↑(List.length l) - (x.2 + (1 : Int))).toNat < (↑(List.length l) - x.2).toNat) ∧
 (decide (byteZ l x.2 < (32 : Int)) = false →
 within x.2 (lenZ l) ∧
 allU8 [PV.int .u8 (byteZ l x.2)] ∧
 Int.ofNat (List.length (x.1.2 ++ [zByte (byteZ l x.2)])) ≤ maxRow ∧
 inI64 (x.2 + (1 : Int)) ∧
 VS.mk []
 [(0, PV.str l), (2, PV.row true (BRow.bytes []) ((2 : Nat) + (32 : Nat))),
 ((3 : Nat),
 PV.row false (BRow.bytes (x.1.2 ++ [zByte (byteZ l x.2)]))
 (nat_lit 41 + (1 : Nat))),
 (4,
 PV.str
 (ByteArray.mk
 #[48, 49, 50, 51, 52, 53, 54, 55, 56, 57, 97, 98, 99, 100, 101, 102]).data.toList),
 (5,
 PV.str
 (ByteArray.mk
 #[34, 92, 8, 12, 10, 13, 9]).data.toList),
 (6,
 PV.str
 (ByteArray.mk
 #[34, 92, 98, 102, 110, 114, 116]).data.toList),
 ((7 : Nat), PV.int .i64 (x.2 + (1 : Int))), ((8 : Nat), PV.undef),
 ((9 : Nat), PV.undef), ((14 : Nat), PV.undef), ((20 : Nat), PV.undef),
 ((29 : Nat), PV.undef), ((37 : Nat), PV.undef), ((46 : Nat), PV.undef)]
 [] =
 VS.mk []
 [(0, PV.str l), (2, PV.row true (BRow.bytes []) ((2 : Nat) + (32 : Nat))),
 ((3 : Nat),
 PV.row false (BRow.bytes (x.1.2 ++ [zByte (byteZ l x.2)]))
 ((10 : Nat) + (32 : Nat))),
 (4,
 PV.str
 (ByteArray.mk
 #[48, 49, 50, 51, 52, 53, 54, 55, 56, 57, 97, 98, 99, 100, 101, 102]).data.toList),
 (5,
 PV.str
 (ByteArray.mk
 #[34, 92, 8, 12, 10, 13, 9]).data.toList),
 (6,
 PV.str
 (ByteArray.mk
 #[34, 92, 98, 102, 110, 114, 116]).data.toList),
 ((7 : Nat), PV.int .i64 (x.2 + (1 : Int))), ((8 : Nat), PV.undef),
 ((9 : Nat), PV.undef), ((14 : Nat), PV.undef), ((20 : Nat), PV.undef),
 ((29 : Nat), PV.undef), ((37 : Nat), PV.undef), ((46 : Nat), PV.undef)]
 [] ∧
 ((0 : Int) ≤ x.2 + (1 : Int) ∧
 x.2 + (1 : Int) ≤ ↑(List.length l) ∧
 false = false ∧
 x.1.2 ++ [zByte (byteZ l x.2)] =
 (34 : UInt8) :: escJ (List.take (x.2 + (1 : Int)).toNat l)) ∧
 (↑(List.length l) - (x.2 + (1 : Int))).toNat < (↑(List.length l) - x.2).toNat)))) ∧
 (decide (x.2 < lenZ l) = false →
 allU8 [PV.int .u8 (34 : Int)] ∧
 Int.ofNat (List.length (x.1.2 ++ [zByte (34 : Int)])) ≤ maxRow ∧
 k (PV.row false (BRow.bytes (x.1.2 ++ [zByte (34 : Int)])) (0 : Nat)))) := by kernel_rfl
attribute [local irreducible] Go.Vc.evF
theorem ok_rquote (l : Bs) : FuncOk Try.prog noT 21 [.str l] ⟨l.length ≤ 100000, .row false (.bytes (quoteJ l)) 0⟩ := evF_ok (by kernel_rfl) X_rquote_ok (H := H_rquote l) (fuel := 1000) Try.func21 (by kernel_rfl) fun hpre => (vc_rquote l _).mpr (by
  have hl := hpre
  have hmr : maxRow = 16777216 := rfl
  have hlz : lenZ l = (l.length : Int) := rfl
  have hz : ∀ n, (escJ (l.take n)).length ≤ 600000 := fun n => by
    have h1 := (escJ_len (l.take n)).2
    have h2 : (l.take n).length ≤ l.length := by rw [List.length_take]; omega
    omega
  have hh : lenZ HX = 16 := by decide
  have hf : lenZ FRL = 7 := by decide
  have ht7 : lenZ TOL = 7 := by decide
  refine ⟨u8_1 (by omega) (by omega), by first | rfl | trivial, ⟨by omega, by omega, rfl, rfl⟩, fun x hx => ?_⟩
  obtain ⟨⟨nl, o⟩, i⟩ := x
  obtain ⟨h0, h1, h2, h3⟩ := hx
  simp only at h0 h1 h2 h3
  subst h2
  subst h3
  obtain ⟨n, rfl⟩ := Int.eq_ofNat_of_zero_le h0
  simp only [Int.toNat_natCast]
  have hn1 : ((n : Int) + 1).toNat = n + 1 := by omega
  simp only [hn1]
  have hq := hz n
  have hq1 := hz (n + 1)
  refine ⟨fun g => ?_, fun g => ?_⟩
  · have g1 : n < l.length := by have := of_decide_eq_true g; omega
    have hT := escJ_take g1
    have eb := byte_at g1
    obtain ⟨c, hc⟩ : ∃ c, c = l[n] := ⟨_, rfl⟩
    rw [← hc] at eb hT
    have c0 : (0 : Int) ≤ c.toNat := by omega
    have c1 : (c.toNat : Int) ≤ 255 := by have := c.toNat_lt; omega
    simp only [eb]
    refine ⟨by first | rfl | trivial, ⟨by omega, by omega, by first | rfl | trivial⟩, fun y hy => ?_⟩
    obtain ⟨a, j⟩ := y
    obtain ⟨f0, f1, f2⟩ := hy
    simp only at f0 f1 f2
    obtain ⟨j, rfl⟩ := Int.eq_ofNat_of_zero_le f0
    rw [Int.toNat_natCast] at f2
    subst f2
    have hj1 : ((j : Int) + 1).toNat = j + 1 := by omega
    simp only [hj1]
    refine ⟨fun d => ?_, fun d => ?_⟩
    · have d1 : (j : Int) < 7 := by have := of_decide_eq_true d; rw [hf] at this; exact this
      refine ⟨⟨by omega, by rw [hf]; omega⟩, ⟨by omega, by omega⟩, fun e => ?_, fun e => ?_⟩
      · have e1 := of_decide_eq_true e
        refine ⟨by unfold inI64; omega, by first | rfl | trivial, ⟨by omega, by omega, ?_⟩, by omega⟩
        show (j : Int) = if byteZ FRL j = (c.toNat : Int) then (j : Int) else lastI (c.toNat : Int) j
        rw [if_pos e1]
      · have e1 := of_decide_eq_false e
        refine ⟨by unfold inI64; omega, by first | rfl | trivial, ⟨by omega, by omega, ?_⟩, by omega⟩
        show _ = if byteZ FRL j = (c.toNat : Int) then (j : Int) else lastI (c.toNat : Int) j
        rw [if_neg e1]
    · have d1 : j = 7 := by have := of_decide_eq_false d; rw [hf] at this; omega
      subst d1
      obtain ⟨t1, t2⟩ := tabQ c
      refine ⟨fun e => ?_, fun e => ?_⟩
      · have e1 := of_decide_eq_true e
        obtain ⟨s1, s2, s3, s4⟩ := t1 e1
        refine ⟨⟨e1, by rw [ht7]; exact s1⟩, ⟨u8_0 (by omega) (by omega), u8_0 s2 s3⟩, by simp only [List.length_append, List.length_cons, List.length_nil, Int.ofNat_eq_natCast]; omega, by unfold inI64; omega, by first | rfl | trivial, ⟨by omega, by omega, by first | rfl | trivial, ?_⟩, by omega⟩
        rw [hT, s4]
        simp [show zByte 92 = (92 : UInt8) by decide]
      · have e1 := of_decide_eq_false e
        have hs := t2 e1
        refine ⟨⟨by omega, by omega⟩, fun u => ?_, fun u => ?_⟩
        · have u1 := of_decide_eq_true u
          have hp := esc_hex (c := c) (by omega) hs
          obtain ⟨x1, x2, x3, x4⟩ := hexC c
          have y1 := byteZ_range HX (shrZ .u8 (c.toNat : Int) 4)
          have y2 := byteZ_range HX (bitsZ .and .u8 (c.toNat : Int) 15)
          refine ⟨⟨by omega, by omega⟩, by omega, ⟨x1.1, by rw [hh]; exact x1.2⟩, ⟨by omega, by omega⟩, ⟨x2.1, by rw [hh]; exact x2.2⟩, ⟨u8_0 (by omega) (by omega), u8_0 (by omega) (by omega), u8_0 (by omega) (by omega), u8_0 (by omega) (by omega), u8_0 y1.1 y1.2, u8_0 y2.1 y2.2⟩, by simp only [List.length_append, List.length_cons, List.length_nil, Int.ofNat_eq_natCast]; omega, by unfold inI64; omega, by first | rfl | trivial, ⟨by omega, by omega, by first | rfl | trivial, ?_⟩, by omega⟩
          rw [hT, hp, x3, x4]
          simp [show zByte 92 = (92 : UInt8) by decide, show zByte 117 = (117 : UInt8) by decide, show zByte 48 = (48 : UInt8) by decide]
        · have u1 := of_decide_eq_false u
          have n34 : (c.toNat : Int) ≠ 34 := fun e => by rw [e] at hs; cases hs
          have n92 : (c.toNat : Int) ≠ 92 := fun e => by rw [e] at hs; cases hs
          have hp := esc_plain (c := c) ⟨by omega, n34, n92⟩
          refine ⟨⟨by omega, by omega⟩, u8_1 c0 c1, by simp only [List.length_append, List.length_cons, List.length_nil, Int.ofNat_eq_natCast]; omega, by unfold inI64; omega, by first | rfl | trivial, ⟨by omega, by omega, by first | rfl | trivial, ?_⟩, by omega⟩
          rw [hT, hp, show zByte (c.toNat : Int) = c by unfold zByte; simp]
          simp
  · have g1 : ¬ (n : Int) < l.length := of_decide_eq_false g
    have ht : l.take n = l := List.take_of_length_le (by omega)
    rw [ht] at hq ⊢
    refine ⟨u8_1 (by omega) (by omega), by simp only [List.length_append, List.length_cons, List.length_nil, Int.ofNat_eq_natCast]; omega, ?_⟩
    show PV.row _ _ _ = PV.row _ _ _
    have e : 34 :: escJ l ++ [zByte 34] = quoteJ l := by unfold quoteJ; simp [show zByte 34 = (34 : UInt8) by decide]
    rw [e])
def ent_rquote : List PV → Option CallR := fun xs => match xs with
  | [.str l] => some ⟨l.length ≤ 100000, .row false (.bytes (quoteJ l)) 0⟩
  | _ => none
theorem ent_rquote_ok : ∀ xs c, ent_rquote xs = some c → FuncOk Try.prog noT 21 xs c := fun xs c h => by
  unfold ent_rquote at h
  split at h
  · injection h with h; subst h; exact ok_rquote _
  · cases h
end
section
def ent_rtext (dn : Nat) : List PV → Option CallR := fun xs => match xs with
  | [.agg [.int .i64 kd, .bool bv, .str sv, .row nk (.strs ks) 0, .vec nl 5 ls 0]] => some ⟨isJs ls ∧ okJ dn (.mk kd bv sv nk ks nl (jdecs ls)) ∧ shapeJ (.mk kd bv sv nk ks nl (jdecs ls)) = true ∧ sizeJ (.mk kd bv sv nk ks nl (jdecs ls)) ≤ 10000, .row false (.bytes (textJ (.mk kd bv sv nk ks nl (jdecs ls)))) 0⟩
  | _ => none
def X_rtext (m : Nat) : Tbl := tblX [(99999999, ent_own), (99999998, ent_eag), (21, ent_rquote), (14, ent_rtext m)]
def H_rtext (m : Nat) (kd : Int) (bv : Bool) (sv : Bs) (nk : Bool) (ks : List Bs) (nl : Bool) (ls : List PV) : Loops := fun i => bif Nat.beq i 13 then some ⟨(Bool × Bs) × (Int), (fun s x => ((((s.row s 3 x.1.1 (.bytes x.1.2)).put 4 (.int .i64 x.2)).put 34 .undef).put 38 .undef)), (fun s => ((s.nil 3, s.bytes 3), s.int 4)), (fun s x => let o := x.1; let i := x.2; 0 ≤ i ∧ i ≤ ls.length ∧ o.1 = false ∧ o.2 = 91 :: arrJ true ((jdecs ls).take i.toNat)), (fun s x => let o := x.1; let i := x.2; ((ls.length : Int) - i).toNat), [34, 38]⟩ else bif Nat.beq i 22 then some ⟨(Bool × Bs) × (Int), (fun s x => ((((s.row s 5 x.1.1 (.bytes x.1.2)).put 6 (.int .i64 x.2)).put 60 .undef).put 64 .undef)), (fun s => ((s.nil 5, s.bytes 5), s.int 6)), (fun s x => let o := x.1; let i := x.2; 0 ≤ i ∧ i ≤ ls.length ∧ o.1 = false ∧ o.2 = 123 :: objJ true ks ((jdecs ls).take i.toNat)), (fun s x => let o := x.1; let i := x.2; ((ls.length : Int) - i).toNat), [60, 64]⟩ else none
theorem X_rtext_ok (m : Nat) (ih : ∀ xs c, ent_rtext m xs = some c → FuncOk Try.prog noT 14 xs c) : XOk Try.prog noT (X_rtext m) := tblX_cons ent_own_ok (tblX_cons ent_eag_ok (tblX_cons ent_rquote_ok (tblX_cons ih (tblX_nil))))
theorem vc_rtext (m : Nat) (kd : Int) (bv : Bool) (sv : Bs) (nk : Bool) (ks : List Bs) (nl : Bool) (ls : List PV) (k : PV → Prop) : evF Try.prog (X_rtext m) noT (H_rtext m kd bv sv nk ks nl ls) 1000 Try.f14 [.agg [.int .i64 kd, .bool bv, .str sv, .row nk (.strs ks) 0, .vec nl 5 ls 0]] k = (
  (decide (kd = (1 : Int)) = true →
 (bv = true →
 allU8
 [PV.int .u8 (116 : Int), PV.int .u8 (114 : Int), PV.int .u8 (117 : Int),
 PV.int .u8 (101 : Int)] ∧
 k
 (PV.row false (BRow.bytes [zByte (116 : Int), zByte (114 : Int), zByte (117 : Int), zByte (101 : Int)])
 (0 : Nat))) ∧
 (bv = false →
 allU8
 [PV.int .u8 (102 : Int), PV.int .u8 (97 : Int), PV.int .u8 (108 : Int),
 PV.int .u8 (115 : Int), PV.int .u8 (101 : Int)] ∧
 k
 (PV.row false
 (BRow.bytes [zByte (102 : Int), zByte (97 : Int), zByte (108 : Int), zByte (115 : Int), zByte (101 : Int)])
 (0 : Nat)))) ∧
 (decide (kd = (1 : Int)) = false →
 (decide (kd = (2 : Int)) = true → List.length sv ≤ Go.Vc.maxLen ∧ k (PV.row false (BRow.bytes sv) (0 : Nat))) ∧
 (decide (kd = (2 : Int)) = false →
 (decide (kd = (3 : Int)) = true → (List.length sv).le (100000 : Nat) ∧ k (PV.row false (BRow.bytes (quoteJ sv)) (0 : Nat))) ∧
 (decide (kd = (3 : Int)) = false →
 (decide (kd = (4 : Int)) = true →
 allU8 [PV.int .u8 (91 : Int)] ∧
 VS.mk []
 [(0,
 PV.agg
 [PV.int .i64 kd, PV.bool bv, PV.str sv, PV.row nk (BRow.strs ks) (0 : Nat),
 PV.vec nl (5 : Nat) ls (0 : Nat)]),
 (1, PV.ptr ((1 : Nat) + (32 : Nat)) (0 : Nat)),
 (2, PV.row true (BRow.bytes []) ((2 : Nat) + (32 : Nat))),
 (3, PV.row false (BRow.bytes [zByte (91 : Int)]) ((29 : Nat) + (32 : Nat))),
 (4, PV.int .i64 (0 : Int)), (5, PV.undef), (6, PV.undef),
 (8, PV.int .i64 kd), (9, PV.bool (decide (kd = (1 : Int)))), (12, PV.undef),
 (17, PV.bool (decide (kd = (2 : Int)))), (22, PV.bool (decide (kd = (3 : Int)))),
 (27, PV.bool (decide (kd = (4 : Int)))), ((34 : Nat), PV.undef), ((38 : Nat), PV.undef),
 (53, PV.undef), (60, PV.undef), (64, PV.undef)]
 [((1 : Nat) + (32 : Nat),
 PV.agg
 [PV.int .i64 kd, PV.bool bv, PV.str sv, PV.row nk (BRow.strs ks) (0 : Nat),
 PV.vec nl (5 : Nat) ls (0 : Nat)])] =
 VS.mk []
 [(0,
 PV.agg
 [PV.int .i64 kd, PV.bool bv, PV.str sv, PV.row nk (BRow.strs ks) (0 : Nat),
 PV.vec nl (5 : Nat) ls (0 : Nat)]),
 (1, PV.ptr ((1 : Nat) + (32 : Nat)) (0 : Nat)),
 (2, PV.row true (BRow.bytes []) ((2 : Nat) + (32 : Nat))),
 ((3 : Nat), PV.row false (BRow.bytes [zByte (91 : Int)]) ((29 : Nat) + (32 : Nat))),
 ((4 : Nat), PV.int .i64 (0 : Int)), (5, PV.undef), (6, PV.undef),
 (8, PV.int .i64 kd), (9, PV.bool (decide (kd = (1 : Int)))), (12, PV.undef),
 (17, PV.bool (decide (kd = (2 : Int)))), (22, PV.bool (decide (kd = (3 : Int)))),
 (27, PV.bool (decide (kd = (4 : Int)))), ((34 : Nat), PV.undef), ((38 : Nat), PV.undef),
 (53, PV.undef), (60, PV.undef), (64, PV.undef)]
 [((1 : Nat) + (32 : Nat),
 PV.agg
 [PV.int .i64 kd, PV.bool bv, PV.str sv, PV.row nk (BRow.strs ks) (0 : Nat),
 PV.vec nl (5 : Nat) ls (0 : Nat)])] ∧
 ((0 : Int) ≤ (0 : Int) ∧
 (0 : Int) ≤ ↑ls.length ∧
 false = false ∧
 [zByte (91 : Int)] = (91 : UInt8) :: arrJ true (List.take (Int.toNat (0 : Int)) (jdecs ls))) ∧
 ∀ (x : (Bool × Bs) × Int),
 (0 : Int) ≤ x.2 ∧
 x.2 ≤ ↑ls.length ∧
 x.1.1 = false ∧ x.1.2 = (91 : UInt8) :: arrJ true (List.take x.2.toNat (jdecs ls)) →
 (decide (x.2 < lenZ ls) = true →
 (decide ((0 : Int) < x.2) = true →
 allU8 [PV.int .u8 (44 : Int)] ∧
 Int.ofNat (List.length (x.1.2 ++ [zByte (44 : Int)])) ≤ maxRow ∧
 within x.2 (lenZ ls) ∧
 eltV ls x.2 =
 PV.agg
 [PV.int .i64
 ((eltV ls x.2).part (0 : Nat)).asInt,
 PV.bool
 ((eltV ls x.2).part
 (1 : Nat)).asBool,
 PV.str
 ((eltV ls x.2).part
 (2 : Nat)).asStr,
 PV.row
 ((eltV ls x.2).part
 (3 : Nat)).asNil
 (BRow.strs
 ((eltV ls x.2).part
 (3 : Nat)).asStrs)
 (0 : Nat),
 PV.vec
 ((eltV ls x.2).part
 (4 : Nat)).asNil
 (nat_lit 5)
 ((eltV ls x.2).part
 (4 : Nat)).asVec
 (0 : Nat)] ∧
 (isJs
 ((eltV ls x.2).part
 (4 : Nat)).asVec ∧
 okJ m
 (JV.mk
 ((eltV ls x.2).part (0 : Nat)).asInt
 ((eltV ls x.2).part
 (1 : Nat)).asBool
 ((eltV ls x.2).part
 (2 : Nat)).asStr
 ((eltV ls x.2).part
 (3 : Nat)).asNil
 ((eltV ls x.2).part
 (3 : Nat)).asStrs
 ((eltV ls x.2).part
 (4 : Nat)).asNil
 (jdecs
 ((eltV ls x.2).part
 (4 : Nat)).asVec)) ∧
 shapeJ
 (JV.mk
 ((eltV ls x.2).part (0 : Nat)).asInt
 ((eltV ls x.2).part
 (1 : Nat)).asBool
 ((eltV ls x.2).part
 (2 : Nat)).asStr
 ((eltV ls x.2).part
 (3 : Nat)).asNil
 ((eltV ls x.2).part
 (3 : Nat)).asStrs
 ((eltV ls x.2).part
 (4 : Nat)).asNil
 (jdecs
 ((eltV ls x.2).part
 (4 : Nat)).asVec)) =
 true ∧
 sizeJ
 (JV.mk
 ((eltV ls x.2).part (0 : Nat)).asInt
 ((eltV ls x.2).part
 (1 : Nat)).asBool
 ((eltV ls x.2).part
 (2 : Nat)).asStr
 ((eltV ls x.2).part
 (3 : Nat)).asNil
 ((eltV ls x.2).part
 (3 : Nat)).asStrs
 ((eltV ls x.2).part
 (4 : Nat)).asNil
 (jdecs
 ((eltV ls x.2).part
 (4 : Nat)).asVec)) ≤
 (10000 : Nat)) ∧
 Int.ofNat
 (List.length
 (x.1.2 ++ [zByte (44 : Int)] ++
 textJ
 (JV.mk
 ((eltV ls x.2).part (0 : Nat)).asInt
 ((eltV ls x.2).part
 (1 : Nat)).asBool
 ((eltV ls x.2).part
 (2 : Nat)).asStr
 ((eltV ls x.2).part
 (3 : Nat)).asNil
 ((eltV ls x.2).part
 (3 : Nat)).asStrs
 ((eltV ls x.2).part
 (4 : Nat)).asNil
 (jdecs
 ((eltV ls x.2).part
 (4 : Nat)).asVec)))) ≤
 maxRow ∧
 inI64 (x.2 + (1 : Int)) ∧
 VS.mk []
 [(0,
 PV.agg
 [PV.int .i64 kd, PV.bool bv, PV.str sv,
 PV.row nk (BRow.strs ks) (0 : Nat), PV.vec nl (5 : Nat) ls (0 : Nat)]),
 (1, PV.ptr ((1 : Nat) + (32 : Nat)) (0 : Nat)),
 (2, PV.row true (BRow.bytes []) ((2 : Nat) + (32 : Nat))),
 ((3 : Nat),
 PV.row
 (bif
 List.rec true
 (fun (head : UInt8) (tail : List UInt8) (tail_ih : (fun (x : List UInt8) ↦ Bool) tail) ↦
 false)
 (textJ
 (JV.mk
 ((eltV ls x.2).part
 (0 : Nat)).asInt
 ((eltV ls x.2).part
 (1 : Nat)).asBool
 ((eltV ls x.2).part
 (2 : Nat)).asStr
 ((eltV ls x.2).part
 (3 : Nat)).asNil
 ((eltV ls x.2).part
 (3 : Nat)).asStrs
 ((eltV ls x.2).part
 (4 : Nat)).asNil
 (jdecs
 ((eltV ls x.2).part
 (4 : Nat)).asVec))) then
 false
 else false)
 (BRow.bytes
 (x.1.2 ++ [zByte (44 : Int)] ++
 textJ
 (JV.mk
 ((eltV ls x.2).part
 (0 : Nat)).asInt
 ((eltV ls x.2).part
 (1 : Nat)).asBool
 ((eltV ls x.2).part
 (2 : Nat)).asStr
 ((eltV ls x.2).part
 (3 : Nat)).asNil
 ((eltV ls x.2).part
 (3 : Nat)).asStrs
 ((eltV ls x.2).part
 (4 : Nat)).asNil
 (jdecs
 ((eltV ls x.2).part
 (4 : Nat)).asVec))))
 (nat_lit 60 + (1 : Nat))),
 ((4 : Nat), PV.int .i64 (x.2 + (1 : Int))), (5, PV.undef),
 (6, PV.undef), (8, PV.int .i64 kd),
 (9, PV.bool (decide (kd = (1 : Int)))), (12, PV.undef),
 (17, PV.bool (decide (kd = (2 : Int)))),
 (22, PV.bool (decide (kd = (3 : Int)))),
 (27, PV.bool (decide (kd = (4 : Int)))), ((34 : Nat), PV.undef),
 ((38 : Nat), PV.undef), (53, PV.undef), (60, PV.undef),
 (64, PV.undef)]
 [((1 : Nat) + (32 : Nat),
 PV.agg
 [PV.int .i64 kd, PV.bool bv, PV.str sv,
 PV.row nk (BRow.strs ks) (0 : Nat), PV.vec nl (5 : Nat) ls (0 : Nat)])] =
 VS.mk []
 [(0,
 PV.agg
 [PV.int .i64 kd, PV.bool bv, PV.str sv,
 PV.row nk (BRow.strs ks) (0 : Nat), PV.vec nl (5 : Nat) ls (0 : Nat)]),
 (1, PV.ptr ((1 : Nat) + (32 : Nat)) (0 : Nat)),
 (2, PV.row true (BRow.bytes []) ((2 : Nat) + (32 : Nat))),
 ((3 : Nat),
 PV.row
 (bif
 List.rec true
 (fun (head : UInt8) (tail : List UInt8) (tail_ih : (fun (x : List UInt8) ↦ Bool) tail) ↦
 false)
 (textJ
 (JV.mk
 ((eltV ls x.2).part
 (0 : Nat)).asInt
 ((eltV ls x.2).part
 (1 : Nat)).asBool
 ((eltV ls x.2).part
 (2 : Nat)).asStr
 ((eltV ls x.2).part
 (3 : Nat)).asNil
 ((eltV ls x.2).part
 (3 : Nat)).asStrs
 ((eltV ls x.2).part
 (4 : Nat)).asNil
 (jdecs
 ((eltV ls x.2).part
 (4 : Nat)).asVec))) then
 false
 else false)
 (BRow.bytes
 (x.1.2 ++ [zByte (44 : Int)] ++
 textJ
 (JV.mk
 ((eltV ls x.2).part
 (0 : Nat)).asInt
 ((eltV ls x.2).part
 (1 : Nat)).asBool
 ((eltV ls x.2).part
 (2 : Nat)).asStr
 ((eltV ls x.2).part
 (3 : Nat)).asNil
 ((eltV ls x.2).part
 (3 : Nat)).asStrs
 ((eltV ls x.2).part
 (4 : Nat)).asNil
 (jdecs
 ((eltV ls x.2).part
 (4 : Nat)).asVec))))
 ((29 : Nat) + (32 : Nat))),
 ((4 : Nat), PV.int .i64 (x.2 + (1 : Int))), (5, PV.undef),
 (6, PV.undef), (8, PV.int .i64 kd),
 (9, PV.bool (decide (kd = (1 : Int)))), (12, PV.undef),
 (17, PV.bool (decide (kd = (2 : Int)))),
 (22, PV.bool (decide (kd = (3 : Int)))),
 (27, PV.bool (decide (kd = (4 : Int)))), ((34 : Nat), PV.undef),
 ((38 : Nat), PV.undef), (53, PV.undef), (60, PV.undef),
 (64, PV.undef)]
 [((1 : Nat) + (32 : Nat),
 PV.agg
 [PV.int .i64 kd, PV.bool bv, PV.str sv,
 PV.row nk (BRow.strs ks) (0 : Nat), PV.vec nl (5 : Nat) ls (0 : Nat)])] ∧
 ((0 : Int) ≤ x.2 + (1 : Int) ∧
 x.2 + (1 : Int) ≤ ↑ls.length ∧
 (bif
 List.rec true
 (fun (head : UInt8) (tail : List UInt8) (tail_ih : (fun (x : List UInt8) ↦ Bool) tail) ↦
 false)
 (textJ
 (JV.mk
 ((eltV ls x.2).part
 (0 : Nat)).asInt
 ((eltV ls x.2).part
 (1 : Nat)).asBool
 ((eltV ls x.2).part
 (2 : Nat)).asStr
 ((eltV ls x.2).part
 (3 : Nat)).asNil
 ((eltV ls x.2).part
 (3 : Nat)).asStrs
 ((eltV ls x.2).part
 (4 : Nat)).asNil
 (jdecs
 ((eltV ls x.2).part
 (4 : Nat)).asVec))) then
 false
 else false) =
 false ∧
 x.1.2 ++ [zByte (44 : Int)] ++
 textJ
 (JV.mk
 ((eltV ls x.2).part
 (0 : Nat)).asInt
 ((eltV ls x.2).part
 (1 : Nat)).asBool
 ((eltV ls x.2).part
 (2 : Nat)).asStr
 ((eltV ls x.2).part
 (3 : Nat)).asNil
 ((eltV ls x.2).part
 (3 : Nat)).asStrs
 ((eltV ls x.2).part
 (4 : Nat)).asNil
 (jdecs
 ((eltV ls x.2).part
 (4 : Nat)).asVec)) =
 (91 : UInt8) ::
 arrJ true (List.take (x.2 + (1 : Int)).toNat (jdecs ls))) ∧
 (↑ls.length - (x.2 + (1 : Int))).toNat < (↑ls.length - x.2).toNat) ∧
 (decide ((0 : Int) < x.2) = false →
 within x.2 (lenZ ls) ∧
 eltV ls x.2 =
 PV.agg
 [PV.int .i64
 ((eltV ls x.2).part (0 : Nat)).asInt,
 PV.bool
 ((eltV ls x.2).part (1 : Nat)).asBool,
 PV.str
 ((eltV ls x.2).part
 (2 : Nat)).asStr,
 PV.row
 ((eltV ls x.2).part
 (3 : Nat)).asNil
 (BRow.strs
 ((eltV ls x.2).part
 (3 : Nat)).asStrs)
 (0 : Nat),
 PV.vec
 ((eltV ls x.2).part
 (4 : Nat)).asNil
 (nat_lit 5)
 ((eltV ls x.2).part
 (4 : Nat)).asVec
 (0 : Nat)] ∧
 (isJs
 ((eltV ls x.2).part
 (4 : Nat)).asVec ∧
 okJ m
 (JV.mk
 ((eltV ls x.2).part (0 : Nat)).asInt
 ((eltV ls x.2).part (1 : Nat)).asBool
 ((eltV ls x.2).part
 (2 : Nat)).asStr
 ((eltV ls x.2).part
 (3 : Nat)).asNil
 ((eltV ls x.2).part
 (3 : Nat)).asStrs
 ((eltV ls x.2).part
 (4 : Nat)).asNil
 (jdecs
 ((eltV ls x.2).part
 (4 : Nat)).asVec)) ∧
 shapeJ
 (JV.mk
 ((eltV ls x.2).part (0 : Nat)).asInt
 ((eltV ls x.2).part
 (1 : Nat)).asBool
 ((eltV ls x.2).part
 (2 : Nat)).asStr
 ((eltV ls x.2).part
 (3 : Nat)).asNil
 ((eltV ls x.2).part
 (3 : Nat)).asStrs
 ((eltV ls x.2).part
 (4 : Nat)).asNil
 (jdecs
 ((eltV ls x.2).part
 (4 : Nat)).asVec)) =
 true ∧
 sizeJ
 (JV.mk
 ((eltV ls x.2).part (0 : Nat)).asInt
 ((eltV ls x.2).part
 (1 : Nat)).asBool
 ((eltV ls x.2).part
 (2 : Nat)).asStr
 ((eltV ls x.2).part
 (3 : Nat)).asNil
 ((eltV ls x.2).part
 (3 : Nat)).asStrs
 ((eltV ls x.2).part
 (4 : Nat)).asNil
 (jdecs
 ((eltV ls x.2).part
 (4 : Nat)).asVec)) ≤
 (10000 : Nat)) ∧
 Int.ofNat
 (List.length
 (x.1.2 ++
 textJ
 (JV.mk
 ((eltV ls x.2).part (0 : Nat)).asInt
 ((eltV ls x.2).part
 (1 : Nat)).asBool
 ((eltV ls x.2).part
 (2 : Nat)).asStr
 ((eltV ls x.2).part
 (3 : Nat)).asNil
 ((eltV ls x.2).part
 (3 : Nat)).asStrs
 ((eltV ls x.2).part
 (4 : Nat)).asNil
 (jdecs
 ((eltV ls x.2).part
 (4 : Nat)).asVec)))) ≤
 maxRow ∧
 inI64 (x.2 + (1 : Int)) ∧
 VS.mk []
 [(0,
 PV.agg
 [PV.int .i64 kd, PV.bool bv, PV.str sv,
 PV.row nk (BRow.strs ks) (0 : Nat), PV.vec nl (5 : Nat) ls (0 : Nat)]),
 (1, PV.ptr ((1 : Nat) + (32 : Nat)) (0 : Nat)),
 (2, PV.row true (BRow.bytes []) ((2 : Nat) + (32 : Nat))),
 ((3 : Nat),
 PV.row
 (bif
 List.rec true
 (fun (head : UInt8) (tail : List UInt8) (tail_ih : (fun (x : List UInt8) ↦ Bool) tail) ↦ false)
 (textJ
 (JV.mk
 ((eltV ls x.2).part
 (0 : Nat)).asInt
 ((eltV ls x.2).part
 (1 : Nat)).asBool
 ((eltV ls x.2).part
 (2 : Nat)).asStr
 ((eltV ls x.2).part
 (3 : Nat)).asNil
 ((eltV ls x.2).part
 (3 : Nat)).asStrs
 ((eltV ls x.2).part
 (4 : Nat)).asNil
 (jdecs
 ((eltV ls x.2).part
 (4 : Nat)).asVec))) then
 x.1.1
 else false)
 (BRow.bytes
 (x.1.2 ++
 textJ
 (JV.mk
 ((eltV ls x.2).part
 (0 : Nat)).asInt
 ((eltV ls x.2).part
 (1 : Nat)).asBool
 ((eltV ls x.2).part
 (2 : Nat)).asStr
 ((eltV ls x.2).part
 (3 : Nat)).asNil
 ((eltV ls x.2).part
 (3 : Nat)).asStrs
 ((eltV ls x.2).part
 (4 : Nat)).asNil
 (jdecs
 ((eltV ls x.2).part
 (4 : Nat)).asVec))))
 (nat_lit 60 + (1 : Nat))),
 ((4 : Nat), PV.int .i64 (x.2 + (1 : Int))), (5, PV.undef),
 (6, PV.undef), (8, PV.int .i64 kd),
 (9, PV.bool (decide (kd = (1 : Int)))), (12, PV.undef),
 (17, PV.bool (decide (kd = (2 : Int)))),
 (22, PV.bool (decide (kd = (3 : Int)))),
 (27, PV.bool (decide (kd = (4 : Int)))), ((34 : Nat), PV.undef),
 ((38 : Nat), PV.undef), (53, PV.undef), (60, PV.undef),
 (64, PV.undef)]
 [((1 : Nat) + (32 : Nat),
 PV.agg
 [PV.int .i64 kd, PV.bool bv, PV.str sv,
 PV.row nk (BRow.strs ks) (0 : Nat), PV.vec nl (5 : Nat) ls (0 : Nat)])] =
 VS.mk []
 [(0,
 PV.agg
 [PV.int .i64 kd, PV.bool bv, PV.str sv,
 PV.row nk (BRow.strs ks) (0 : Nat), PV.vec nl (5 : Nat) ls (0 : Nat)]),
 (1, PV.ptr ((1 : Nat) + (32 : Nat)) (0 : Nat)),
 (2, PV.row true (BRow.bytes []) ((2 : Nat) + (32 : Nat))),
 ((3 : Nat),
 PV.row
 (bif
 List.rec true
 (fun (head : UInt8) (tail : List UInt8) (tail_ih : (fun (x : List UInt8) ↦ Bool) tail) ↦ false)
 (textJ
 (JV.mk
 ((eltV ls x.2).part
 (0 : Nat)).asInt
 ((eltV ls x.2).part
 (1 : Nat)).asBool
 ((eltV ls x.2).part
 (2 : Nat)).asStr
 ((eltV ls x.2).part
 (3 : Nat)).asNil
 ((eltV ls x.2).part
 (3 : Nat)).asStrs
 ((eltV ls x.2).part
 (4 : Nat)).asNil
 (jdecs
 ((eltV ls x.2).part
 (4 : Nat)).asVec))) then
 x.1.1
 else false)
 (BRow.bytes
 (x.1.2 ++
 textJ
 (JV.mk
 ((eltV ls x.2).part
 (0 : Nat)).asInt
 ((eltV ls x.2).part
 (1 : Nat)).asBool
 ((eltV ls x.2).part
 (2 : Nat)).asStr
 ((eltV ls x.2).part
 (3 : Nat)).asNil
 ((eltV ls x.2).part
 (3 : Nat)).asStrs
 ((eltV ls x.2).part
 (4 : Nat)).asNil
 (jdecs
 ((eltV ls x.2).part
 (4 : Nat)).asVec))))
 ((29 : Nat) + (32 : Nat))),
 ((4 : Nat), PV.int .i64 (x.2 + (1 : Int))), (5, PV.undef),
 (6, PV.undef), (8, PV.int .i64 kd),
 (9, PV.bool (decide (kd = (1 : Int)))), (12, PV.undef),
 (17, PV.bool (decide (kd = (2 : Int)))),
 (22, PV.bool (decide (kd = (3 : Int)))),
 (27, PV.bool (decide (kd = (4 : Int)))), ((34 : Nat), PV.undef),
 ((38 : Nat), PV.undef), (53, PV.undef), (60, PV.undef),
 (64, PV.undef)]
 [((1 : Nat) + (32 : Nat),
 PV.agg
 [PV.int .i64 kd, PV.bool bv, PV.str sv,
 PV.row nk (BRow.strs ks) (0 : Nat), PV.vec nl (5 : Nat) ls (0 : Nat)])] ∧
 ((0 : Int) ≤ x.2 + (1 : Int) ∧
 x.2 + (1 : Int) ≤ ↑ls.length ∧
 (bif
 List.rec true
 (fun (head : UInt8) (tail : List UInt8) (tail_ih : (fun (x : List UInt8) ↦ Bool) tail) ↦ false)
 (textJ
 (JV.mk
 ((eltV ls x.2).part
 (0 : Nat)).asInt
 ((eltV ls x.2).part
 (1 : Nat)).asBool
 ((eltV ls x.2).part
 (2 : Nat)).asStr
 ((eltV ls x.2).part
 (3 : Nat)).asNil
 ((eltV ls x.2).part
 (3 : Nat)).asStrs
 ((eltV ls x.2).part
 (4 : Nat)).asNil
 (jdecs
 ((eltV ls x.2).part
 (4 : Nat)).asVec))) then
 x.1.1
 else false) =
 false ∧
 x.1.2 ++
 textJ
 (JV.mk
 ((eltV ls x.2).part (0 : Nat)).asInt
 ((eltV ls x.2).part
 (1 : Nat)).asBool
 ((eltV ls x.2).part
 (2 : Nat)).asStr
 ((eltV ls x.2).part
 (3 : Nat)).asNil
 ((eltV ls x.2).part
 (3 : Nat)).asStrs
 ((eltV ls x.2).part
 (4 : Nat)).asNil
 (jdecs
 ((eltV ls x.2).part
 (4 : Nat)).asVec)) =
 (91 : UInt8) :: arrJ true (List.take (x.2 + (1 : Int)).toNat (jdecs ls))) ∧
 (↑ls.length - (x.2 + (1 : Int))).toNat < (↑ls.length - x.2).toNat)) ∧
 (decide (x.2 < lenZ ls) = false →
 allU8 [PV.int .u8 (93 : Int)] ∧
 Int.ofNat (List.length (x.1.2 ++ [zByte (93 : Int)])) ≤ maxRow ∧
 k (PV.row false (BRow.bytes (x.1.2 ++ [zByte (93 : Int)])) (0 : Nat)))) ∧
 (decide (kd = (4 : Int)) = false →
 (decide (kd = (5 : Int)) = true →
 allU8 [PV.int .u8 (123 : Int)] ∧
 VS.mk []
 [(0,
 PV.agg
 [PV.int .i64 kd, PV.bool bv, PV.str sv, PV.row nk (BRow.strs ks) (0 : Nat),
 PV.vec nl (5 : Nat) ls (0 : Nat)]),
 (1, PV.ptr ((1 : Nat) + (32 : Nat)) (0 : Nat)),
 (2, PV.row true (BRow.bytes []) ((2 : Nat) + (32 : Nat))), (3, PV.undef),
 (4, PV.undef),
 (5, PV.row false (BRow.bytes [zByte (123 : Int)]) ((55 : Nat) + (32 : Nat))),
 (6, PV.int .i64 (0 : Int)), (8, PV.int .i64 kd),
 (9, PV.bool (decide (kd = (1 : Int)))), (12, PV.undef),
 (17, PV.bool (decide (kd = (2 : Int)))), (22, PV.bool (decide (kd = (3 : Int)))),
 (27, PV.bool (decide (kd = (4 : Int)))), (34, PV.undef), (38, PV.undef),
 (53, PV.bool (decide (kd = (5 : Int)))), ((60 : Nat), PV.undef), ((64 : Nat), PV.undef)]
 [((1 : Nat) + (32 : Nat),
 PV.agg
 [PV.int .i64 kd, PV.bool bv, PV.str sv, PV.row nk (BRow.strs ks) (0 : Nat),
 PV.vec nl (5 : Nat) ls (0 : Nat)])] =
 VS.mk []
 [(0,
 PV.agg
 [PV.int .i64 kd, PV.bool bv, PV.str sv, PV.row nk (BRow.strs ks) (0 : Nat),
 PV.vec nl (5 : Nat) ls (0 : Nat)]),
 (1, PV.ptr ((1 : Nat) + (32 : Nat)) (0 : Nat)),
 (2, PV.row true (BRow.bytes []) ((2 : Nat) + (32 : Nat))), (3, PV.undef),
 (4, PV.undef),
 ((5 : Nat), PV.row false (BRow.bytes [zByte (123 : Int)]) ((55 : Nat) + (32 : Nat))),
 ((6 : Nat), PV.int .i64 (0 : Int)), (8, PV.int .i64 kd),
 (9, PV.bool (decide (kd = (1 : Int)))), (12, PV.undef),
 (17, PV.bool (decide (kd = (2 : Int)))), (22, PV.bool (decide (kd = (3 : Int)))),
 (27, PV.bool (decide (kd = (4 : Int)))), (34, PV.undef), (38, PV.undef),
 (53, PV.bool (decide (kd = (5 : Int)))), ((60 : Nat), PV.undef), ((64 : Nat), PV.undef)]
 [((1 : Nat) + (32 : Nat),
 PV.agg
 [PV.int .i64 kd, PV.bool bv, PV.str sv, PV.row nk (BRow.strs ks) (0 : Nat),
 PV.vec nl (5 : Nat) ls (0 : Nat)])] ∧
 ((0 : Int) ≤ (0 : Int) ∧
 (0 : Int) ≤ ↑ls.length ∧
 false = false ∧
 [zByte (123 : Int)] =
 (123 : UInt8) :: objJ true ks (List.take (Int.toNat (0 : Int)) (jdecs ls))) ∧
 ∀ (x : (Bool × Bs) × Int),
 (0 : Int) ≤ x.2 ∧
 x.2 ≤ ↑ls.length ∧
 x.1.1 = false ∧ x.1.2 = (123 : UInt8) :: objJ true ks (List.take x.2.toNat (jdecs ls)) →
 (decide (x.2 < lenZ ls) = true →
 (decide ((0 : Int) < x.2) = true →
 allU8 [PV.int .u8 (44 : Int)] ∧
 Int.ofNat (List.length (x.1.2 ++ [zByte (44 : Int)])) ≤ maxRow ∧
 allU8 [PV.int .u8 (58 : Int)] ∧
 ((within x.2 (Int.ofNat ks.length) ∧
 (List.length (strZ ks x.2)).le (100000 : Nat) ∧
 (Int.ofNat
 (List.length (x.1.2 ++ [zByte (44 : Int)] ++ quoteJ (strZ ks x.2))) ≤
 maxRow ∧
 (Int.ofNat
 (List.length
 (x.1.2 ++ [zByte (44 : Int)] ++ quoteJ (strZ ks x.2) ++
 [zByte (58 : Int)])) ≤
 maxRow ∧
 within x.2 (lenZ ls) ∧
 eltV ls x.2 =
 PV.agg
 [PV.int .i64
 ((eltV ls x.2).part
 (0 : Nat)).asInt,
 PV.bool
 ((eltV ls x.2).part
 (1 : Nat)).asBool,
 PV.str
 ((eltV ls x.2).part
 (2 : Nat)).asStr,
 PV.row
 ((eltV ls x.2).part
 (3 : Nat)).asNil
 (BRow.strs
 ((eltV ls x.2).part
 (3 : Nat)).asStrs)
 (0 : Nat),
 PV.vec
 ((eltV ls x.2).part
 (4 : Nat)).asNil
 (nat_lit 5)
 ((eltV ls x.2).part
 (4 : Nat)).asVec
 (0 : Nat)] ∧
 (isJs
 ((eltV ls x.2).part
 (4 : Nat)).asVec ∧
 okJ m
 (JV.mk
 ((eltV ls x.2).part
 (0 : Nat)).asInt
 ((eltV ls x.2).part
 (1 : Nat)).asBool
 ((eltV ls x.2).part
 (2 : Nat)).asStr
 ((eltV ls x.2).part
 (3 : Nat)).asNil
 ((eltV ls x.2).part
 (3 : Nat)).asStrs
 ((eltV ls x.2).part
 (4 : Nat)).asNil
 (jdecs
 ((eltV ls x.2).part
 (4 : Nat)).asVec)) ∧
 shapeJ
 (JV.mk
 ((eltV ls x.2).part
 (0 : Nat)).asInt
 ((eltV ls x.2).part
 (1 : Nat)).asBool
 ((eltV ls x.2).part
 (2 : Nat)).asStr
 ((eltV ls x.2).part
 (3 : Nat)).asNil
 ((eltV ls x.2).part
 (3 : Nat)).asStrs
 ((eltV ls x.2).part
 (4 : Nat)).asNil
 (jdecs
 ((eltV ls x.2).part
 (4 : Nat)).asVec)) =
 true ∧
 sizeJ
 (JV.mk
 ((eltV ls x.2).part
 (0 : Nat)).asInt
 ((eltV ls x.2).part
 (1 : Nat)).asBool
 ((eltV ls x.2).part
 (2 : Nat)).asStr
 ((eltV ls x.2).part
 (3 : Nat)).asNil
 ((eltV ls x.2).part
 (3 : Nat)).asStrs
 ((eltV ls x.2).part
 (4 : Nat)).asNil
 (jdecs
 ((eltV ls x.2).part
 (4 : Nat)).asVec)) ≤
 (10000 : Nat)) ∧
 Int.ofNat
 (List.length
 (x.1.2 ++ [zByte (44 : Int)] ++ quoteJ (strZ ks x.2) ++
 [zByte (58 : Int)] ++
 textJ
 (JV.mk
 ((eltV ls x.2).part
 (0 : Nat)).asInt
 ((eltV ls x.2).part
 (1 : Nat)).asBool
 ((eltV ls x.2).part
 (2 : Nat)).asStr
 ((eltV ls x.2).part
 (3 : Nat)).asNil
 ((eltV ls x.2).part
 (3 : Nat)).asStrs
 ((eltV ls x.2).part
 (4 : Nat)).asNil
 (jdecs
 ((eltV ls x.2).part
 (4 : Nat)).asVec)))) ≤
 maxRow ∧
 inI64 (x.2 + (1 : Int)) ∧
 VS.mk []
 [(0,
 PV.agg
 [PV.int .i64 kd, PV.bool bv, PV.str sv,
 PV.row nk (BRow.strs ks) (0 : Nat),
 PV.vec nl (5 : Nat) ls (0 : Nat)]),
 (1, PV.ptr ((1 : Nat) + (32 : Nat)) (0 : Nat)),
 (2, PV.row true (BRow.bytes []) ((2 : Nat) + (32 : Nat))),
 (3, PV.undef), (4, PV.undef),
 ((5 : Nat),
 PV.row
 (bif
 List.rec true
 (fun (head : UInt8) (tail : List UInt8)
 (tail_ih : (fun (x : List UInt8) ↦ Bool) tail) ↦
 false)
 (textJ
 (JV.mk
 ((eltV ls x.2).part
 (0 : Nat)).asInt
 ((eltV ls x.2).part
 (1 : Nat)).asBool
 ((eltV ls x.2).part
 (2 : Nat)).asStr
 ((eltV ls x.2).part
 (3 : Nat)).asNil
 ((eltV ls x.2).part
 (3 : Nat)).asStrs
 ((eltV ls x.2).part
 (4 : Nat)).asNil
 (jdecs
 ((eltV ls x.2).part
 (4 : Nat)).asVec))) then
 false
 else false)
 (BRow.bytes
 (x.1.2 ++ [zByte (44 : Int)] ++
 quoteJ (strZ ks x.2) ++
 [zByte (58 : Int)] ++
 textJ
 (JV.mk
 ((eltV ls x.2).part
 (0 : Nat)).asInt
 ((eltV ls x.2).part
 (1 : Nat)).asBool
 ((eltV ls x.2).part
 (2 : Nat)).asStr
 ((eltV ls x.2).part
 (3 : Nat)).asNil
 ((eltV ls x.2).part
 (3 : Nat)).asStrs
 ((eltV ls x.2).part
 (4 : Nat)).asNil
 (jdecs
 ((eltV ls x.2).part
 (4 : Nat)).asVec))))
 (nat_lit 86 + (1 : Nat))),
 ((6 : Nat), PV.int .i64 (x.2 + (1 : Int))),
 (8, PV.int .i64 kd),
 (9, PV.bool (decide (kd = (1 : Int)))),
 (12, PV.undef),
 (17, PV.bool (decide (kd = (2 : Int)))),
 (22, PV.bool (decide (kd = (3 : Int)))),
 (27, PV.bool (decide (kd = (4 : Int)))),
 (34, PV.undef), (38, PV.undef),
 (53, PV.bool (decide (kd = (5 : Int)))),
 ((60 : Nat), PV.undef), ((64 : Nat), PV.undef)]
 [((1 : Nat) + (32 : Nat),
 PV.agg
 [PV.int .i64 kd, PV.bool bv, PV.str sv,
 PV.row nk (BRow.strs ks) (0 : Nat),
 PV.vec nl (5 : Nat) ls (0 : Nat)])] =
 VS.mk []
 [(0,
 PV.agg
 [PV.int .i64 kd, PV.bool bv, PV.str sv,
 PV.row nk (BRow.strs ks) (0 : Nat),
 PV.vec nl (5 : Nat) ls (0 : Nat)]),
 (1, PV.ptr ((1 : Nat) + (32 : Nat)) (0 : Nat)),
 (2, PV.row true (BRow.bytes []) ((2 : Nat) + (32 : Nat))),
 (3, PV.undef), (4, PV.undef),
 ((5 : Nat),
 PV.row
 (bif
 List.rec true
 (fun (head : UInt8) (tail : List UInt8)
 (tail_ih : (fun (x : List UInt8) ↦ Bool) tail) ↦
 false)
 (textJ
 (JV.mk
 ((eltV ls x.2).part
 (0 : Nat)).asInt
 ((eltV ls x.2).part
 (1 : Nat)).asBool
 ((eltV ls x.2).part
 (2 : Nat)).asStr
 ((eltV ls x.2).part
 (3 : Nat)).asNil
 ((eltV ls x.2).part
 (3 : Nat)).asStrs
 ((eltV ls x.2).part
 (4 : Nat)).asNil
 (jdecs
 ((eltV ls x.2).part
 (4 : Nat)).asVec))) then
 false
 else false)
 (BRow.bytes
 (x.1.2 ++ [zByte (44 : Int)] ++
 quoteJ (strZ ks x.2) ++
 [zByte (58 : Int)] ++
 textJ
 (JV.mk
 ((eltV ls x.2).part
 (0 : Nat)).asInt
 ((eltV ls x.2).part
 (1 : Nat)).asBool
 ((eltV ls x.2).part
 (2 : Nat)).asStr
 ((eltV ls x.2).part
 (3 : Nat)).asNil
 ((eltV ls x.2).part
 (3 : Nat)).asStrs
 ((eltV ls x.2).part
 (4 : Nat)).asNil
 (jdecs
 ((eltV ls x.2).part
 (4 : Nat)).asVec))))
 ((55 : Nat) + (32 : Nat))),
 ((6 : Nat), PV.int .i64 (x.2 + (1 : Int))),
 (8, PV.int .i64 kd),
 (9, PV.bool (decide (kd = (1 : Int)))),
 (12, PV.undef),
 (17, PV.bool (decide (kd = (2 : Int)))),
 (22, PV.bool (decide (kd = (3 : Int)))),
 (27, PV.bool (decide (kd = (4 : Int)))),
 (34, PV.undef), (38, PV.undef),
 (53, PV.bool (decide (kd = (5 : Int)))),
 ((60 : Nat), PV.undef), ((64 : Nat), PV.undef)]
 [((1 : Nat) + (32 : Nat),
 PV.agg
 [PV.int .i64 kd, PV.bool bv, PV.str sv,
 PV.row nk (BRow.strs ks) (0 : Nat),
 PV.vec nl (5 : Nat) ls (0 : Nat)])] ∧
 ((0 : Int) ≤ x.2 + (1 : Int) ∧
 x.2 + (1 : Int) ≤ ↑ls.length ∧
 (bif
 List.rec true
 (fun (head : UInt8) (tail : List UInt8)
 (tail_ih : (fun (x : List UInt8) ↦ Bool) tail) ↦
 false)
 (textJ
 (JV.mk
 ((eltV ls x.2).part
 (0 : Nat)).asInt
 ((eltV ls x.2).part
 (1 : Nat)).asBool
 ((eltV ls x.2).part
 (2 : Nat)).asStr
 ((eltV ls x.2).part
 (3 : Nat)).asNil
 ((eltV ls x.2).part
 (3 : Nat)).asStrs
 ((eltV ls x.2).part
 (4 : Nat)).asNil
 (jdecs
 ((eltV ls x.2).part
 (4 : Nat)).asVec))) then
 false
 else false) =
 false ∧
 x.1.2 ++ [zByte (44 : Int)] ++
 quoteJ (strZ ks x.2) ++
 [zByte (58 : Int)] ++
 textJ
 (JV.mk
 ((eltV ls x.2).part
 (0 : Nat)).asInt
 ((eltV ls x.2).part
 (1 : Nat)).asBool
 ((eltV ls x.2).part
 (2 : Nat)).asStr
 ((eltV ls x.2).part
 (3 : Nat)).asNil
 ((eltV ls x.2).part
 (3 : Nat)).asStrs
 ((eltV ls x.2).part
 (4 : Nat)).asNil
 (jdecs
 ((eltV ls x.2).part
 (4 : Nat)).asVec)) =
 (123 : UInt8) ::
 objJ true ks
 (List.take (x.2 + (1 : Int)).toNat (jdecs ls))) ∧
 (↑ls.length - (x.2 + (1 : Int))).toNat < (↑ls.length - x.2).toNat) ∧
 within x.2 (lenZ ls) ∧
 eltV ls x.2 =
 PV.agg
 [PV.int .i64
 ((eltV ls x.2).part
 (0 : Nat)).asInt,
 PV.bool
 ((eltV ls x.2).part
 (1 : Nat)).asBool,
 PV.str
 ((eltV ls x.2).part
 (2 : Nat)).asStr,
 PV.row
 ((eltV ls x.2).part
 (3 : Nat)).asNil
 (BRow.strs
 ((eltV ls x.2).part
 (3 : Nat)).asStrs)
 (0 : Nat),
 PV.vec
 ((eltV ls x.2).part
 (4 : Nat)).asNil
 (nat_lit 5)
 ((eltV ls x.2).part
 (4 : Nat)).asVec
 (0 : Nat)] ∧
 Int.ofNat
 (List.length
 (x.1.2 ++ [zByte (44 : Int)] ++ quoteJ (strZ ks x.2) ++
 [zByte (58 : Int)])) ≤
 maxRow ∧
 (isJs
 ((eltV ls x.2).part
 (4 : Nat)).asVec ∧
 okJ m
 (JV.mk
 ((eltV ls x.2).part
 (0 : Nat)).asInt
 ((eltV ls x.2).part
 (1 : Nat)).asBool
 ((eltV ls x.2).part
 (2 : Nat)).asStr
 ((eltV ls x.2).part
 (3 : Nat)).asNil
 ((eltV ls x.2).part
 (3 : Nat)).asStrs
 ((eltV ls x.2).part
 (4 : Nat)).asNil
 (jdecs
 ((eltV ls x.2).part
 (4 : Nat)).asVec)) ∧
 shapeJ
 (JV.mk
 ((eltV ls x.2).part
 (0 : Nat)).asInt
 ((eltV ls x.2).part
 (1 : Nat)).asBool
 ((eltV ls x.2).part
 (2 : Nat)).asStr
 ((eltV ls x.2).part
 (3 : Nat)).asNil
 ((eltV ls x.2).part
 (3 : Nat)).asStrs
 ((eltV ls x.2).part
 (4 : Nat)).asNil
 (jdecs
 ((eltV ls x.2).part
 (4 : Nat)).asVec)) =
 true ∧
 sizeJ
 (JV.mk
 ((eltV ls x.2).part
 (0 : Nat)).asInt
 ((eltV ls x.2).part
 (1 : Nat)).asBool
 ((eltV ls x.2).part
 (2 : Nat)).asStr
 ((eltV ls x.2).part
 (3 : Nat)).asNil
 ((eltV ls x.2).part
 (3 : Nat)).asStrs
 ((eltV ls x.2).part
 (4 : Nat)).asNil
 (jdecs
 ((eltV ls x.2).part
 (4 : Nat)).asVec)) ≤
 (10000 : Nat)) ∧
 Int.ofNat
 (List.length
 (x.1.2 ++ [zByte (44 : Int)] ++ quoteJ (strZ ks x.2) ++
 [zByte (58 : Int)] ++
 textJ
 (JV.mk
 ((eltV ls x.2).part
 (0 : Nat)).asInt
 ((eltV ls x.2).part
 (1 : Nat)).asBool
 ((eltV ls x.2).part
 (2 : Nat)).asStr
 ((eltV ls x.2).part
 (3 : Nat)).asNil
 ((eltV ls x.2).part
 (3 : Nat)).asStrs
 ((eltV ls x.2).part
 (4 : Nat)).asNil
 (jdecs
 ((eltV ls x.2).part
 (4 : Nat)).asVec)))) ≤
 maxRow ∧
 inI64 (x.2 + (1 : Int)) ∧
 VS.mk []
 [(0,
 PV.agg
 [PV.int .i64 kd, PV.bool bv, PV.str sv,
 PV.row nk (BRow.strs ks) (0 : Nat),
 PV.vec nl (5 : Nat) ls (0 : Nat)]),
 (1, PV.ptr ((1 : Nat) + (32 : Nat)) (0 : Nat)),
 (2, PV.row true (BRow.bytes []) ((2 : Nat) + (32 : Nat))),
 (3, PV.undef), (4, PV.undef),
 ((5 : Nat),
 PV.row
 (bif
 List.rec true
 (fun (head : UInt8) (tail : List UInt8)
 (tail_ih : (fun (x : List UInt8) ↦ Bool) tail) ↦
 false)
 (textJ
 (JV.mk
 ((eltV ls x.2).part
 (0 : Nat)).asInt
 ((eltV ls x.2).part
 (1 : Nat)).asBool
 ((eltV ls x.2).part
 (2 : Nat)).asStr
 ((eltV ls x.2).part
 (3 : Nat)).asNil
 ((eltV ls x.2).part
 (3 : Nat)).asStrs
 ((eltV ls x.2).part
 (4 : Nat)).asNil
 (jdecs
 ((eltV ls x.2).part
 (4 : Nat)).asVec))) then
 false
 else false)
 (BRow.bytes
 (x.1.2 ++ [zByte (44 : Int)] ++
 quoteJ (strZ ks x.2) ++
 [zByte (58 : Int)] ++
 textJ
 (JV.mk
 ((eltV ls x.2).part
 (0 : Nat)).asInt
 ((eltV ls x.2).part
 (1 : Nat)).asBool
 ((eltV ls x.2).part
 (2 : Nat)).asStr
 ((eltV ls x.2).part
 (3 : Nat)).asNil
 ((eltV ls x.2).part
 (3 : Nat)).asStrs
 ((eltV ls x.2).part
 (4 : Nat)).asNil
 (jdecs
 ((eltV ls x.2).part
 (4 : Nat)).asVec))))
 (nat_lit 86 + (1 : Nat))),
 ((6 : Nat), PV.int .i64 (x.2 + (1 : Int))),
 (8, PV.int .i64 kd),
 (9, PV.bool (decide (kd = (1 : Int)))),
 (12, PV.undef),
 (17, PV.bool (decide (kd = (2 : Int)))),
 (22, PV.bool (decide (kd = (3 : Int)))),
 (27, PV.bool (decide (kd = (4 : Int)))),
 (34, PV.undef), (38, PV.undef),
 (53, PV.bool (decide (kd = (5 : Int)))),
 ((60 : Nat), PV.undef), ((64 : Nat), PV.undef)]
 [((1 : Nat) + (32 : Nat),
 PV.agg
 [PV.int .i64 kd, PV.bool bv, PV.str sv,
 PV.row nk (BRow.strs ks) (0 : Nat),
 PV.vec nl (5 : Nat) ls (0 : Nat)])] =
 VS.mk []
 [(0,
 PV.agg
 [PV.int .i64 kd, PV.bool bv, PV.str sv,
 PV.row nk (BRow.strs ks) (0 : Nat),
 PV.vec nl (5 : Nat) ls (0 : Nat)]),
 (1, PV.ptr ((1 : Nat) + (32 : Nat)) (0 : Nat)),
 (2, PV.row true (BRow.bytes []) ((2 : Nat) + (32 : Nat))),
 (3, PV.undef), (4, PV.undef),
 ((5 : Nat),
 PV.row
 (bif
 List.rec true
 (fun (head : UInt8) (tail : List UInt8)
 (tail_ih : (fun (x : List UInt8) ↦ Bool) tail) ↦
 false)
 (textJ
 (JV.mk
 ((eltV ls x.2).part
 (0 : Nat)).asInt
 ((eltV ls x.2).part
 (1 : Nat)).asBool
 ((eltV ls x.2).part
 (2 : Nat)).asStr
 ((eltV ls x.2).part
 (3 : Nat)).asNil
 ((eltV ls x.2).part
 (3 : Nat)).asStrs
 ((eltV ls x.2).part
 (4 : Nat)).asNil
 (jdecs
 ((eltV ls x.2).part
 (4 : Nat)).asVec))) then
 false
 else false)
 (BRow.bytes
 (x.1.2 ++ [zByte (44 : Int)] ++
 quoteJ (strZ ks x.2) ++
 [zByte (58 : Int)] ++
 textJ
 (JV.mk
 ((eltV ls x.2).part
 (0 : Nat)).asInt
 ((eltV ls x.2).part
 (1 : Nat)).asBool
 ((eltV ls x.2).part
 (2 : Nat)).asStr
 ((eltV ls x.2).part
 (3 : Nat)).asNil
 ((eltV ls x.2).part
 (3 : Nat)).asStrs
 ((eltV ls x.2).part
 (4 : Nat)).asNil
 (jdecs
 ((eltV ls x.2).part
 (4 : Nat)).asVec))))
 ((55 : Nat) + (32 : Nat))),
 ((6 : Nat), PV.int .i64 (x.2 + (1 : Int))),
 (8, PV.int .i64 kd),
 (9, PV.bool (decide (kd = (1 : Int)))),
 (12, PV.undef),
 (17, PV.bool (decide (kd = (2 : Int)))),
 (22, PV.bool (decide (kd = (3 : Int)))),
 (27, PV.bool (decide (kd = (4 : Int)))),
 (34, PV.undef), (38, PV.undef),
 (53, PV.bool (decide (kd = (5 : Int)))),
 ((60 : Nat), PV.undef), ((64 : Nat), PV.undef)]
 [((1 : Nat) + (32 : Nat),
 PV.agg
 [PV.int .i64 kd, PV.bool bv, PV.str sv,
 PV.row nk (BRow.strs ks) (0 : Nat),
 PV.vec nl (5 : Nat) ls (0 : Nat)])] ∧
 ((0 : Int) ≤ x.2 + (1 : Int) ∧
 x.2 + (1 : Int) ≤ ↑ls.length ∧
 (bif
 List.rec true
 (fun (head : UInt8) (tail : List UInt8)
 (tail_ih : (fun (x : List UInt8) ↦ Bool) tail) ↦
 false)
 (textJ
 (JV.mk
 ((eltV ls x.2).part
 (0 : Nat)).asInt
 ((eltV ls x.2).part
 (1 : Nat)).asBool
 ((eltV ls x.2).part
 (2 : Nat)).asStr
 ((eltV ls x.2).part
 (3 : Nat)).asNil
 ((eltV ls x.2).part
 (3 : Nat)).asStrs
 ((eltV ls x.2).part
 (4 : Nat)).asNil
 (jdecs
 ((eltV ls x.2).part
 (4 : Nat)).asVec))) then
 false
 else false) =
 false ∧
 x.1.2 ++ [zByte (44 : Int)] ++
 quoteJ (strZ ks x.2) ++
 [zByte (58 : Int)] ++
 textJ
 (JV.mk
 ((eltV ls x.2).part
 (0 : Nat)).asInt
 ((eltV ls x.2).part
 (1 : Nat)).asBool
 ((eltV ls x.2).part
 (2 : Nat)).asStr
 ((eltV ls x.2).part
 (3 : Nat)).asNil
 ((eltV ls x.2).part
 (3 : Nat)).asStrs
 ((eltV ls x.2).part
 (4 : Nat)).asNil
 (jdecs
 ((eltV ls x.2).part
 (4 : Nat)).asVec)) =
 (123 : UInt8) ::
 objJ true ks
 (List.take (x.2 + (1 : Int)).toNat (jdecs ls))) ∧
 (↑ls.length - (x.2 + (1 : Int))).toNat < (↑ls.length - x.2).toNat) ∧
 within x.2 (lenZ ls) ∧
 eltV ls x.2 =
 PV.agg
 [PV.int .i64
 ((eltV ls x.2).part
 (0 : Nat)).asInt,
 PV.bool
 ((eltV ls x.2).part
 (1 : Nat)).asBool,
 PV.str
 ((eltV ls x.2).part
 (2 : Nat)).asStr,
 PV.row
 ((eltV ls x.2).part
 (3 : Nat)).asNil
 (BRow.strs
 ((eltV ls x.2).part
 (3 : Nat)).asStrs)
 (0 : Nat),
 PV.vec
 ((eltV ls x.2).part
 (4 : Nat)).asNil
 (nat_lit 5)
 ((eltV ls x.2).part
 (4 : Nat)).asVec
 (0 : Nat)] ∧
 Int.ofNat
 (List.length
 (x.1.2 ++ [zByte (44 : Int)] ++ quoteJ (strZ ks x.2))) ≤
 maxRow ∧
 Int.ofNat
 (List.length
 (x.1.2 ++ [zByte (44 : Int)] ++ quoteJ (strZ ks x.2) ++
 [zByte (58 : Int)])) ≤
 maxRow ∧
 (isJs
 ((eltV ls x.2).part
 (4 : Nat)).asVec ∧
 okJ m
 (JV.mk
 ((eltV ls x.2).part
 (0 : Nat)).asInt
 ((eltV ls x.2).part
 (1 : Nat)).asBool
 ((eltV ls x.2).part
 (2 : Nat)).asStr
 ((eltV ls x.2).part
 (3 : Nat)).asNil
 ((eltV ls x.2).part
 (3 : Nat)).asStrs
 ((eltV ls x.2).part
 (4 : Nat)).asNil
 (jdecs
 ((eltV ls x.2).part
 (4 : Nat)).asVec)) ∧
 shapeJ
 (JV.mk
 ((eltV ls x.2).part
 (0 : Nat)).asInt
 ((eltV ls x.2).part
 (1 : Nat)).asBool
 ((eltV ls x.2).part
 (2 : Nat)).asStr
 ((eltV ls x.2).part
 (3 : Nat)).asNil
 ((eltV ls x.2).part
 (3 : Nat)).asStrs
 ((eltV ls x.2).part
 (4 : Nat)).asNil
 (jdecs
 ((eltV ls x.2).part
 (4 : Nat)).asVec)) =
 true ∧
 sizeJ
 (JV.mk
 ((eltV ls x.2).part
 (0 : Nat)).asInt
 ((eltV ls x.2).part
 (1 : Nat)).asBool
 ((eltV ls x.2).part
 (2 : Nat)).asStr
 ((eltV ls x.2).part
 (3 : Nat)).asNil
 ((eltV ls x.2).part
 (3 : Nat)).asStrs
 ((eltV ls x.2).part
 (4 : Nat)).asNil
 (jdecs
 ((eltV ls x.2).part
 (4 : Nat)).asVec)) ≤
 (10000 : Nat)) ∧
 Int.ofNat
 (List.length
 (x.1.2 ++ [zByte (44 : Int)] ++ quoteJ (strZ ks x.2) ++
 [zByte (58 : Int)] ++
 textJ
 (JV.mk
 ((eltV ls x.2).part
 (0 : Nat)).asInt
 ((eltV ls x.2).part
 (1 : Nat)).asBool
 ((eltV ls x.2).part
 (2 : Nat)).asStr
 ((eltV ls x.2).part
 (3 : Nat)).asNil
 ((eltV ls x.2).part
 (3 : Nat)).asStrs
 ((eltV ls x.2).part
 (4 : Nat)).asNil
 (jdecs
 ((eltV ls x.2).part
 (4 : Nat)).asVec)))) ≤
 maxRow ∧
 inI64 (x.2 + (1 : Int)) ∧
 VS.mk []
 [(0,
 PV.agg
 [PV.int .i64 kd, PV.bool bv, PV.str sv,
 PV.row nk (BRow.strs ks) (0 : Nat),
 PV.vec nl (5 : Nat) ls (0 : Nat)]),
 (1, PV.ptr ((1 : Nat) + (32 : Nat)) (0 : Nat)),
 (2, PV.row true (BRow.bytes []) ((2 : Nat) + (32 : Nat))),
 (3, PV.undef), (4, PV.undef),
 ((5 : Nat),
 PV.row
 (bif
 List.rec true
 (fun (head : UInt8) (tail : List UInt8)
 (tail_ih : (fun (x : List UInt8) ↦ Bool) tail) ↦
 false)
 (textJ
 (JV.mk
 ((eltV ls x.2).part
 (0 : Nat)).asInt
 ((eltV ls x.2).part
 (1 : Nat)).asBool
 ((eltV ls x.2).part
 (2 : Nat)).asStr
 ((eltV ls x.2).part
 (3 : Nat)).asNil
 ((eltV ls x.2).part
 (3 : Nat)).asStrs
 ((eltV ls x.2).part
 (4 : Nat)).asNil
 (jdecs
 ((eltV ls x.2).part
 (4 : Nat)).asVec))) then
 false
 else false)
 (BRow.bytes
 (x.1.2 ++ [zByte (44 : Int)] ++
 quoteJ (strZ ks x.2) ++
 [zByte (58 : Int)] ++
 textJ
 (JV.mk
 ((eltV ls x.2).part
 (0 : Nat)).asInt
 ((eltV ls x.2).part
 (1 : Nat)).asBool
 ((eltV ls x.2).part
 (2 : Nat)).asStr
 ((eltV ls x.2).part
 (3 : Nat)).asNil
 ((eltV ls x.2).part
 (3 : Nat)).asStrs
 ((eltV ls x.2).part
 (4 : Nat)).asNil
 (jdecs
 ((eltV ls x.2).part
 (4 : Nat)).asVec))))
 (nat_lit 86 + (1 : Nat))),
 ((6 : Nat), PV.int .i64 (x.2 + (1 : Int))),
 (8, PV.int .i64 kd),
 (9, PV.bool (decide (kd = (1 : Int)))), (12, PV.undef),
 (17, PV.bool (decide (kd = (2 : Int)))),
 (22, PV.bool (decide (kd = (3 : Int)))),
 (27, PV.bool (decide (kd = (4 : Int)))), (34, PV.undef),
 (38, PV.undef), (53, PV.bool (decide (kd = (5 : Int)))),
 ((60 : Nat), PV.undef), ((64 : Nat), PV.undef)]
 [((1 : Nat) + (32 : Nat),
 PV.agg
 [PV.int .i64 kd, PV.bool bv, PV.str sv,
 PV.row nk (BRow.strs ks) (0 : Nat),
 PV.vec nl (5 : Nat) ls (0 : Nat)])] =
 VS.mk []
 [(0,
 PV.agg
 [PV.int .i64 kd, PV.bool bv, PV.str sv,
 PV.row nk (BRow.strs ks) (0 : Nat),
 PV.vec nl (5 : Nat) ls (0 : Nat)]),
 (1, PV.ptr ((1 : Nat) + (32 : Nat)) (0 : Nat)),
 (2, PV.row true (BRow.bytes []) ((2 : Nat) + (32 : Nat))),
 (3, PV.undef), (4, PV.undef),
 ((5 : Nat),
 PV.row
 (bif
 List.rec true
 (fun (head : UInt8) (tail : List UInt8)
 (tail_ih : (fun (x : List UInt8) ↦ Bool) tail) ↦
 false)
 (textJ
 (JV.mk
 ((eltV ls x.2).part
 (0 : Nat)).asInt
 ((eltV ls x.2).part
 (1 : Nat)).asBool
 ((eltV ls x.2).part
 (2 : Nat)).asStr
 ((eltV ls x.2).part
 (3 : Nat)).asNil
 ((eltV ls x.2).part
 (3 : Nat)).asStrs
 ((eltV ls x.2).part
 (4 : Nat)).asNil
 (jdecs
 ((eltV ls x.2).part
 (4 : Nat)).asVec))) then
 false
 else false)
 (BRow.bytes
 (x.1.2 ++ [zByte (44 : Int)] ++
 quoteJ (strZ ks x.2) ++
 [zByte (58 : Int)] ++
 textJ
 (JV.mk
 ((eltV ls x.2).part
 (0 : Nat)).asInt
 ((eltV ls x.2).part
 (1 : Nat)).asBool
 ((eltV ls x.2).part
 (2 : Nat)).asStr
 ((eltV ls x.2).part
 (3 : Nat)).asNil
 ((eltV ls x.2).part
 (3 : Nat)).asStrs
 ((eltV ls x.2).part
 (4 : Nat)).asNil
 (jdecs
 ((eltV ls x.2).part
 (4 : Nat)).asVec))))
 ((55 : Nat) + (32 : Nat))),
 ((6 : Nat), PV.int .i64 (x.2 + (1 : Int))),
 (8, PV.int .i64 kd),
 (9, PV.bool (decide (kd = (1 : Int)))), (12, PV.undef),
 (17, PV.bool (decide (kd = (2 : Int)))),
 (22, PV.bool (decide (kd = (3 : Int)))),
 (27, PV.bool (decide (kd = (4 : Int)))), (34, PV.undef),
 (38, PV.undef), (53, PV.bool (decide (kd = (5 : Int)))),
 ((60 : Nat), PV.undef), ((64 : Nat), PV.undef)]
 [((1 : Nat) + (32 : Nat),
 PV.agg
 [PV.int .i64 kd, PV.bool bv, PV.str sv,
 PV.row nk (BRow.strs ks) (0 : Nat),
 PV.vec nl (5 : Nat) ls (0 : Nat)])] ∧
 ((0 : Int) ≤ x.2 + (1 : Int) ∧
 x.2 + (1 : Int) ≤ ↑ls.length ∧
 (bif
 List.rec true
 (fun (head : UInt8) (tail : List UInt8)
 (tail_ih : (fun (x : List UInt8) ↦ Bool) tail) ↦
 false)
 (textJ
 (JV.mk
 ((eltV ls x.2).part
 (0 : Nat)).asInt
 ((eltV ls x.2).part
 (1 : Nat)).asBool
 ((eltV ls x.2).part
 (2 : Nat)).asStr
 ((eltV ls x.2).part
 (3 : Nat)).asNil
 ((eltV ls x.2).part
 (3 : Nat)).asStrs
 ((eltV ls x.2).part
 (4 : Nat)).asNil
 (jdecs
 ((eltV ls x.2).part
 (4 : Nat)).asVec))) then
 false
 else false) =
 false ∧
 x.1.2 ++ [zByte (44 : Int)] ++
 quoteJ (strZ ks x.2) ++
 [zByte (58 : Int)] ++
 textJ
 (JV.mk
 ((eltV ls x.2).part
 (0 : Nat)).asInt
 ((eltV ls x.2).part
 (1 : Nat)).asBool
 ((eltV ls x.2).part
 (2 : Nat)).asStr
 ((eltV ls x.2).part
 (3 : Nat)).asNil
 ((eltV ls x.2).part
 (3 : Nat)).asStrs
 ((eltV ls x.2).part
 (4 : Nat)).asNil
 (jdecs
 ((eltV ls x.2).part
 (4 : Nat)).asVec)) =
 (123 : UInt8) ::
 objJ true ks
 (List.take (x.2 + (1 : Int)).toNat (jdecs ls))) ∧
 (↑ls.length - (x.2 + (1 : Int))).toNat < (↑ls.length - x.2).toNat) ∧
 within x.2 (lenZ ls) ∧
 eltV ls x.2 =
 PV.agg
 [PV.int .i64
 ((eltV ls x.2).part (0 : Nat)).asInt,
 PV.bool
 ((eltV ls x.2).part
 (1 : Nat)).asBool,
 PV.str
 ((eltV ls x.2).part
 (2 : Nat)).asStr,
 PV.row
 ((eltV ls x.2).part
 (3 : Nat)).asNil
 (BRow.strs
 ((eltV ls x.2).part
 (3 : Nat)).asStrs)
 (0 : Nat),
 PV.vec
 ((eltV ls x.2).part
 (4 : Nat)).asNil
 (nat_lit 5)
 ((eltV ls x.2).part
 (4 : Nat)).asVec
 (0 : Nat)] ∧
 within x.2 (Int.ofNat ks.length) ∧
 (List.length (strZ ks x.2)).le (100000 : Nat) ∧
 Int.ofNat
 (List.length
 (x.1.2 ++ [zByte (44 : Int)] ++ quoteJ (strZ ks x.2))) ≤
 maxRow ∧
 Int.ofNat
 (List.length
 (x.1.2 ++ [zByte (44 : Int)] ++ quoteJ (strZ ks x.2) ++
 [zByte (58 : Int)])) ≤
 maxRow ∧
 (isJs
 ((eltV ls x.2).part
 (4 : Nat)).asVec ∧
 okJ m
 (JV.mk
 ((eltV ls x.2).part
 (0 : Nat)).asInt
 ((eltV ls x.2).part
 (1 : Nat)).asBool
 ((eltV ls x.2).part
 (2 : Nat)).asStr
 ((eltV ls x.2).part
 (3 : Nat)).asNil
 ((eltV ls x.2).part
 (3 : Nat)).asStrs
 ((eltV ls x.2).part
 (4 : Nat)).asNil
 (jdecs
 ((eltV ls x.2).part
 (4 : Nat)).asVec)) ∧
 shapeJ
 (JV.mk
 ((eltV ls x.2).part
 (0 : Nat)).asInt
 ((eltV ls x.2).part
 (1 : Nat)).asBool
 ((eltV ls x.2).part
 (2 : Nat)).asStr
 ((eltV ls x.2).part
 (3 : Nat)).asNil
 ((eltV ls x.2).part
 (3 : Nat)).asStrs
 ((eltV ls x.2).part
 (4 : Nat)).asNil
 (jdecs
 ((eltV ls x.2).part
 (4 : Nat)).asVec)) =
 true ∧
 sizeJ
 (JV.mk
 ((eltV ls x.2).part
 (0 : Nat)).asInt
 ((eltV ls x.2).part
 (1 : Nat)).asBool
 ((eltV ls x.2).part
 (2 : Nat)).asStr
 ((eltV ls x.2).part
 (3 : Nat)).asNil
 ((eltV ls x.2).part
 (3 : Nat)).asStrs
 ((eltV ls x.2).part
 (4 : Nat)).asNil
 (jdecs
 ((eltV ls x.2).part
 (4 : Nat)).asVec)) ≤
 (10000 : Nat)) ∧
 Int.ofNat
 (List.length
 (x.1.2 ++ [zByte (44 : Int)] ++ quoteJ (strZ ks x.2) ++
 [zByte (58 : Int)] ++
 textJ
 (JV.mk
 ((eltV ls x.2).part
 (0 : Nat)).asInt
 ((eltV ls x.2).part
 (1 : Nat)).asBool
 ((eltV ls x.2).part
 (2 : Nat)).asStr
 ((eltV ls x.2).part
 (3 : Nat)).asNil
 ((eltV ls x.2).part
 (3 : Nat)).asStrs
 ((eltV ls x.2).part
 (4 : Nat)).asNil
 (jdecs
 ((eltV ls x.2).part
 (4 : Nat)).asVec)))) ≤
 maxRow ∧
 inI64 (x.2 + (1 : Int)) ∧
 VS.mk []
 [(0,
 PV.agg
 [PV.int .i64 kd, PV.bool bv, PV.str sv,
 PV.row nk (BRow.strs ks) (0 : Nat),
 PV.vec nl (5 : Nat) ls (0 : Nat)]),
 (1, PV.ptr ((1 : Nat) + (32 : Nat)) (0 : Nat)),
 (2, PV.row true (BRow.bytes []) ((2 : Nat) + (32 : Nat))),
 (3, PV.undef), (4, PV.undef),
 ((5 : Nat),
 PV.row
 (bif
 List.rec true
 (fun (head : UInt8) (tail : List UInt8)
 (tail_ih : (fun (x : List UInt8) ↦ Bool) tail) ↦
 false)
 (textJ
 (JV.mk
 ((eltV ls x.2).part
 (0 : Nat)).asInt
 ((eltV ls x.2).part
 (1 : Nat)).asBool
 ((eltV ls x.2).part
 (2 : Nat)).asStr
 ((eltV ls x.2).part
 (3 : Nat)).asNil
 ((eltV ls x.2).part
 (3 : Nat)).asStrs
 ((eltV ls x.2).part
 (4 : Nat)).asNil
 (jdecs
 ((eltV ls x.2).part
 (4 : Nat)).asVec))) then
 false
 else false)
 (BRow.bytes
 (x.1.2 ++ [zByte (44 : Int)] ++
 quoteJ (strZ ks x.2) ++
 [zByte (58 : Int)] ++
 textJ
 (JV.mk
 ((eltV ls x.2).part
 (0 : Nat)).asInt
 ((eltV ls x.2).part
 (1 : Nat)).asBool
 ((eltV ls x.2).part
 (2 : Nat)).asStr
 ((eltV ls x.2).part
 (3 : Nat)).asNil
 ((eltV ls x.2).part
 (3 : Nat)).asStrs
 ((eltV ls x.2).part
 (4 : Nat)).asNil
 (jdecs
 ((eltV ls x.2).part
 (4 : Nat)).asVec))))
 (nat_lit 86 + (1 : Nat))),
 ((6 : Nat), PV.int .i64 (x.2 + (1 : Int))),
 (8, PV.int .i64 kd),
 (9, PV.bool (decide (kd = (1 : Int)))), (12, PV.undef),
 (17, PV.bool (decide (kd = (2 : Int)))),
 (22, PV.bool (decide (kd = (3 : Int)))),
 (27, PV.bool (decide (kd = (4 : Int)))), (34, PV.undef),
 (38, PV.undef), (53, PV.bool (decide (kd = (5 : Int)))),
 ((60 : Nat), PV.undef), ((64 : Nat), PV.undef)]
 [((1 : Nat) + (32 : Nat),
 PV.agg
 [PV.int .i64 kd, PV.bool bv, PV.str sv,
 PV.row nk (BRow.strs ks) (0 : Nat),
 PV.vec nl (5 : Nat) ls (0 : Nat)])] =
 VS.mk []
 [(0,
 PV.agg
 [PV.int .i64 kd, PV.bool bv, PV.str sv,
 PV.row nk (BRow.strs ks) (0 : Nat),
 PV.vec nl (5 : Nat) ls (0 : Nat)]),
 (1, PV.ptr ((1 : Nat) + (32 : Nat)) (0 : Nat)),
 (2, PV.row true (BRow.bytes []) ((2 : Nat) + (32 : Nat))),
 (3, PV.undef), (4, PV.undef),
 ((5 : Nat),
 PV.row
 (bif
 List.rec true
 (fun (head : UInt8) (tail : List UInt8)
 (tail_ih : (fun (x : List UInt8) ↦ Bool) tail) ↦
 false)
 (textJ
 (JV.mk
 ((eltV ls x.2).part
 (0 : Nat)).asInt
 ((eltV ls x.2).part
 (1 : Nat)).asBool
 ((eltV ls x.2).part
 (2 : Nat)).asStr
 ((eltV ls x.2).part
 (3 : Nat)).asNil
 ((eltV ls x.2).part
 (3 : Nat)).asStrs
 ((eltV ls x.2).part
 (4 : Nat)).asNil
 (jdecs
 ((eltV ls x.2).part
 (4 : Nat)).asVec))) then
 false
 else false)
 (BRow.bytes
 (x.1.2 ++ [zByte (44 : Int)] ++
 quoteJ (strZ ks x.2) ++
 [zByte (58 : Int)] ++
 textJ
 (JV.mk
 ((eltV ls x.2).part
 (0 : Nat)).asInt
 ((eltV ls x.2).part
 (1 : Nat)).asBool
 ((eltV ls x.2).part
 (2 : Nat)).asStr
 ((eltV ls x.2).part
 (3 : Nat)).asNil
 ((eltV ls x.2).part
 (3 : Nat)).asStrs
 ((eltV ls x.2).part
 (4 : Nat)).asNil
 (jdecs
 ((eltV ls x.2).part
 (4 : Nat)).asVec))))
 ((55 : Nat) + (32 : Nat))),
 ((6 : Nat), PV.int .i64 (x.2 + (1 : Int))),
 (8, PV.int .i64 kd),
 (9, PV.bool (decide (kd = (1 : Int)))), (12, PV.undef),
 (17, PV.bool (decide (kd = (2 : Int)))),
 (22, PV.bool (decide (kd = (3 : Int)))),
 (27, PV.bool (decide (kd = (4 : Int)))), (34, PV.undef),
 (38, PV.undef), (53, PV.bool (decide (kd = (5 : Int)))),
 ((60 : Nat), PV.undef), ((64 : Nat), PV.undef)]
 [((1 : Nat) + (32 : Nat),
 PV.agg
 [PV.int .i64 kd, PV.bool bv, PV.str sv,
 PV.row nk (BRow.strs ks) (0 : Nat),
 PV.vec nl (5 : Nat) ls (0 : Nat)])] ∧
 ((0 : Int) ≤ x.2 + (1 : Int) ∧
 x.2 + (1 : Int) ≤ ↑ls.length ∧
 (bif
 List.rec true
 (fun (head : UInt8) (tail : List UInt8)
 (tail_ih : (fun (x : List UInt8) ↦ Bool) tail) ↦
 false)
 (textJ
 (JV.mk
 ((eltV ls x.2).part
 (0 : Nat)).asInt
 ((eltV ls x.2).part
 (1 : Nat)).asBool
 ((eltV ls x.2).part
 (2 : Nat)).asStr
 ((eltV ls x.2).part
 (3 : Nat)).asNil
 ((eltV ls x.2).part
 (3 : Nat)).asStrs
 ((eltV ls x.2).part
 (4 : Nat)).asNil
 (jdecs
 ((eltV ls x.2).part
 (4 : Nat)).asVec))) then
 false
 else false) =
 false ∧
 x.1.2 ++ [zByte (44 : Int)] ++
 quoteJ (strZ ks x.2) ++
 [zByte (58 : Int)] ++
 textJ
 (JV.mk
 ((eltV ls x.2).part
 (0 : Nat)).asInt
 ((eltV ls x.2).part
 (1 : Nat)).asBool
 ((eltV ls x.2).part
 (2 : Nat)).asStr
 ((eltV ls x.2).part
 (3 : Nat)).asNil
 ((eltV ls x.2).part
 (3 : Nat)).asStrs
 ((eltV ls x.2).part
 (4 : Nat)).asNil
 (jdecs
 ((eltV ls x.2).part
 (4 : Nat)).asVec)) =
 (123 : UInt8) ::
 objJ true ks
 (List.take (x.2 + (1 : Int)).toNat (jdecs ls))) ∧
 (↑ls.length - (x.2 + (1 : Int))).toNat < (↑ls.length - x.2).toNat) ∧
 (within x.2 (Int.ofNat ks.length) ∧
 (List.length (strZ ks x.2)).le (100000 : Nat) ∧
 ((Int.ofNat
 (List.length
 (x.1.2 ++ [zByte (44 : Int)] ++ quoteJ (strZ ks x.2))) ≤
 maxRow ∧
 (Int.ofNat
 (List.length
 (x.1.2 ++ [zByte (44 : Int)] ++ quoteJ (strZ ks x.2) ++
 [zByte (58 : Int)])) ≤
 maxRow ∧
 within x.2 (lenZ ls) ∧
 eltV ls x.2 =
 PV.agg
 [PV.int .i64
 ((eltV ls x.2).part
 (0 : Nat)).asInt,
 PV.bool
 ((eltV ls x.2).part
 (1 : Nat)).asBool,
 PV.str
 ((eltV ls x.2).part
 (2 : Nat)).asStr,
 PV.row
 ((eltV ls x.2).part
 (3 : Nat)).asNil
 (BRow.strs
 ((eltV ls x.2).part
 (3 : Nat)).asStrs)
 (0 : Nat),
 PV.vec
 ((eltV ls x.2).part
 (4 : Nat)).asNil
 (nat_lit 5)
 ((eltV ls x.2).part
 (4 : Nat)).asVec
 (0 : Nat)] ∧
 (isJs
 ((eltV ls x.2).part
 (4 : Nat)).asVec ∧
 okJ m
 (JV.mk
 ((eltV ls x.2).part
 (0 : Nat)).asInt
 ((eltV ls x.2).part
 (1 : Nat)).asBool
 ((eltV ls x.2).part
 (2 : Nat)).asStr
 ((eltV ls x.2).part
 (3 : Nat)).asNil
 ((eltV ls x.2).part
 (3 : Nat)).asStrs
 ((eltV ls x.2).part
 (4 : Nat)).asNil
 (jdecs
 ((eltV ls x.2).part
 (4 : Nat)).asVec)) ∧
 shapeJ
 (JV.mk
 ((eltV ls x.2).part
 (0 : Nat)).asInt
 ((eltV ls x.2).part
 (1 : Nat)).asBool
 ((eltV ls x.2).part
 (2 : Nat)).asStr
 ((eltV ls x.2).part
 (3 : Nat)).asNil
 ((eltV ls x.2).part
 (3 : Nat)).asStrs
 ((eltV ls x.2).part
 (4 : Nat)).asNil
 (jdecs
 ((eltV ls x.2).part
 (4 : Nat)).asVec)) =
 true ∧
 sizeJ
 (JV.mk
 ((eltV ls x.2).part
 (0 : Nat)).asInt
 ((eltV ls x.2).part
 (1 : Nat)).asBool
 ((eltV ls x.2).part
 (2 : Nat)).asStr
 ((eltV ls x.2).part
 (3 : Nat)).asNil
 ((eltV ls x.2).part
 (3 : Nat)).asStrs
 ((eltV ls x.2).part
 (4 : Nat)).asNil
 (jdecs
 ((eltV ls x.2).part
 (4 : Nat)).asVec)) ≤
 (10000 : Nat)) ∧
 Int.ofNat
 (List.length
 (x.1.2 ++ [zByte (44 : Int)] ++
 quoteJ (strZ ks x.2) ++
 [zByte (58 : Int)] ++
 textJ
 (JV.mk
 ((eltV ls x.2).part
 (0 : Nat)).asInt
 ((eltV ls x.2).part
 (1 : Nat)).asBool
 ((eltV ls x.2).part
 (2 : Nat)).asStr
 ((eltV ls x.2).part
 (3 : Nat)).asNil
 ((eltV ls x.2).part
 (3 : Nat)).asStrs
 ((eltV ls x.2).part
 (4 : Nat)).asNil
 (jdecs
 ((eltV ls x.2).part
 (4 : Nat)).asVec)))) ≤
 maxRow ∧
 inI64 (x.2 + (1 : Int)) ∧
 VS.mk []
 [(0,
 PV.agg
 [PV.int .i64 kd, PV.bool bv, PV.str sv,
 PV.row nk (BRow.strs ks) (0 : Nat),
 PV.vec nl (5 : Nat) ls (0 : Nat)]),
 (1, PV.ptr ((1 : Nat) + (32 : Nat)) (0 : Nat)),
 (2, PV.row true (BRow.bytes []) ((2 : Nat) + (32 : Nat))),
 (3, PV.undef), (4, PV.undef),
 ((5 : Nat),
 PV.row
 (bif
 List.rec true
 (fun (head : UInt8) (tail : List UInt8)
 (tail_ih : (fun (x : List UInt8) ↦ Bool) tail) ↦
 false)
 (textJ
 (JV.mk
 ((eltV ls x.2).part
 (0 : Nat)).asInt
 ((eltV ls x.2).part
 (1 : Nat)).asBool
 ((eltV ls x.2).part
 (2 : Nat)).asStr
 ((eltV ls x.2).part
 (3 : Nat)).asNil
 ((eltV ls x.2).part
 (3 : Nat)).asStrs
 ((eltV ls x.2).part
 (4 : Nat)).asNil
 (jdecs
 ((eltV ls x.2).part
 (4 : Nat)).asVec))) then
 false
 else false)
 (BRow.bytes
 (x.1.2 ++ [zByte (44 : Int)] ++
 quoteJ (strZ ks x.2) ++
 [zByte (58 : Int)] ++
 textJ
 (JV.mk
 ((eltV ls x.2).part
 (0 : Nat)).asInt
 ((eltV ls x.2).part
 (1 : Nat)).asBool
 ((eltV ls x.2).part
 (2 : Nat)).asStr
 ((eltV ls x.2).part
 (3 : Nat)).asNil
 ((eltV ls x.2).part
 (3 : Nat)).asStrs
 ((eltV ls x.2).part
 (4 : Nat)).asNil
 (jdecs
 ((eltV ls x.2).part
 (4 : Nat)).asVec))))
 (nat_lit 86 + (1 : Nat))),
 ((6 : Nat), PV.int .i64 (x.2 + (1 : Int))),
 (8, PV.int .i64 kd),
 (9, PV.bool (decide (kd = (1 : Int)))),
 (12, PV.undef),
 (17, PV.bool (decide (kd = (2 : Int)))),
 (22, PV.bool (decide (kd = (3 : Int)))),
 (27, PV.bool (decide (kd = (4 : Int)))),
 (34, PV.undef), (38, PV.undef),
 (53, PV.bool (decide (kd = (5 : Int)))),
 ((60 : Nat), PV.undef), ((64 : Nat), PV.undef)]
 [((1 : Nat) + (32 : Nat),
 PV.agg
 [PV.int .i64 kd, PV.bool bv, PV.str sv,
 PV.row nk (BRow.strs ks) (0 : Nat),
 PV.vec nl (5 : Nat) ls (0 : Nat)])] =
 VS.mk []
 [(0,
 PV.agg
 [PV.int .i64 kd, PV.bool bv, PV.str sv,
 PV.row nk (BRow.strs ks) (0 : Nat),
 PV.vec nl (5 : Nat) ls (0 : Nat)]),
 (1, PV.ptr ((1 : Nat) + (32 : Nat)) (0 : Nat)),
 (2, PV.row true (BRow.bytes []) ((2 : Nat) + (32 : Nat))),
 (3, PV.undef), (4, PV.undef),
 ((5 : Nat),
 PV.row
 (bif
 List.rec true
 (fun (head : UInt8) (tail : List UInt8)
 (tail_ih : (fun (x : List UInt8) ↦ Bool) tail) ↦
 false)
 (textJ
 (JV.mk
 ((eltV ls x.2).part
 (0 : Nat)).asInt
 ((eltV ls x.2).part
 (1 : Nat)).asBool
 ((eltV ls x.2).part
 (2 : Nat)).asStr
 ((eltV ls x.2).part
 (3 : Nat)).asNil
 ((eltV ls x.2).part
 (3 : Nat)).asStrs
 ((eltV ls x.2).part
 (4 : Nat)).asNil
 (jdecs
 ((eltV ls x.2).part
 (4 : Nat)).asVec))) then
 false
 else false)
 (BRow.bytes
 (x.1.2 ++ [zByte (44 : Int)] ++
 quoteJ (strZ ks x.2) ++
 [zByte (58 : Int)] ++
 textJ
 (JV.mk
 ((eltV ls x.2).part
 (0 : Nat)).asInt
 ((eltV ls x.2).part
 (1 : Nat)).asBool
 ((eltV ls x.2).part
 (2 : Nat)).asStr
 ((eltV ls x.2).part
 (3 : Nat)).asNil
 ((eltV ls x.2).part
 (3 : Nat)).asStrs
 ((eltV ls x.2).part
 (4 : Nat)).asNil
 (jdecs
 ((eltV ls x.2).part
 (4 : Nat)).asVec))))
 ((55 : Nat) + (32 : Nat))),
 ((6 : Nat), PV.int .i64 (x.2 + (1 : Int))),
 (8, PV.int .i64 kd),
 (9, PV.bool (decide (kd = (1 : Int)))),
 (12, PV.undef),
 (17, PV.bool (decide (kd = (2 : Int)))),
 (22, PV.bool (decide (kd = (3 : Int)))),
 (27, PV.bool (decide (kd = (4 : Int)))),
 (34, PV.undef), (38, PV.undef),
 (53, PV.bool (decide (kd = (5 : Int)))),
 ((60 : Nat), PV.undef), ((64 : Nat), PV.undef)]
 [((1 : Nat) + (32 : Nat),
 PV.agg
 [PV.int .i64 kd, PV.bool bv, PV.str sv,
 PV.row nk (BRow.strs ks) (0 : Nat),
 PV.vec nl (5 : Nat) ls (0 : Nat)])] ∧
 ((0 : Int) ≤ x.2 + (1 : Int) ∧
 x.2 + (1 : Int) ≤ ↑ls.length ∧
 (bif
 List.rec true
 (fun (head : UInt8) (tail : List UInt8)
 (tail_ih : (fun (x : List UInt8) ↦ Bool) tail) ↦
 false)
 (textJ
 (JV.mk
 ((eltV ls x.2).part
 (0 : Nat)).asInt
 ((eltV ls x.2).part
 (1 : Nat)).asBool
 ((eltV ls x.2).part
 (2 : Nat)).asStr
 ((eltV ls x.2).part
 (3 : Nat)).asNil
 ((eltV ls x.2).part
 (3 : Nat)).asStrs
 ((eltV ls x.2).part
 (4 : Nat)).asNil
 (jdecs
 ((eltV ls x.2).part
 (4 : Nat)).asVec))) then
 false
 else false) =
 false ∧
 x.1.2 ++ [zByte (44 : Int)] ++
 quoteJ (strZ ks x.2) ++
 [zByte (58 : Int)] ++
 textJ
 (JV.mk
 ((eltV ls x.2).part
 (0 : Nat)).asInt
 ((eltV ls x.2).part
 (1 : Nat)).asBool
 ((eltV ls x.2).part
 (2 : Nat)).asStr
 ((eltV ls x.2).part
 (3 : Nat)).asNil
 ((eltV ls x.2).part
 (3 : Nat)).asStrs
 ((eltV ls x.2).part
 (4 : Nat)).asNil
 (jdecs
 ((eltV ls x.2).part
 (4 : Nat)).asVec)) =
 (123 : UInt8) ::
 objJ true ks
 (List.take (x.2 + (1 : Int)).toNat (jdecs ls))) ∧
 (↑ls.length - (x.2 + (1 : Int))).toNat < (↑ls.length - x.2).toNat) ∧
 within x.2 (lenZ ls) ∧
 eltV ls x.2 =
 PV.agg
 [PV.int .i64
 ((eltV ls x.2).part
 (0 : Nat)).asInt,
 PV.bool
 ((eltV ls x.2).part
 (1 : Nat)).asBool,
 PV.str
 ((eltV ls x.2).part
 (2 : Nat)).asStr,
 PV.row
 ((eltV ls x.2).part
 (3 : Nat)).asNil
 (BRow.strs
 ((eltV ls x.2).part
 (3 : Nat)).asStrs)
 (0 : Nat),
 PV.vec
 ((eltV ls x.2).part
 (4 : Nat)).asNil
 (nat_lit 5)
 ((eltV ls x.2).part
 (4 : Nat)).asVec
 (0 : Nat)] ∧
 Int.ofNat
 (List.length
 (x.1.2 ++ [zByte (44 : Int)] ++ quoteJ (strZ ks x.2) ++
 [zByte (58 : Int)])) ≤
 maxRow ∧
 (isJs
 ((eltV ls x.2).part
 (4 : Nat)).asVec ∧
 okJ m
 (JV.mk
 ((eltV ls x.2).part
 (0 : Nat)).asInt
 ((eltV ls x.2).part
 (1 : Nat)).asBool
 ((eltV ls x.2).part
 (2 : Nat)).asStr
 ((eltV ls x.2).part
 (3 : Nat)).asNil
 ((eltV ls x.2).part
 (3 : Nat)).asStrs
 ((eltV ls x.2).part
 (4 : Nat)).asNil
 (jdecs
 ((eltV ls x.2).part
 (4 : Nat)).asVec)) ∧
 shapeJ
 (JV.mk
 ((eltV ls x.2).part
 (0 : Nat)).asInt
 ((eltV ls x.2).part
 (1 : Nat)).asBool
 ((eltV ls x.2).part
 (2 : Nat)).asStr
 ((eltV ls x.2).part
 (3 : Nat)).asNil
 ((eltV ls x.2).part
 (3 : Nat)).asStrs
 ((eltV ls x.2).part
 (4 : Nat)).asNil
 (jdecs
 ((eltV ls x.2).part
 (4 : Nat)).asVec)) =
 true ∧
 sizeJ
 (JV.mk
 ((eltV ls x.2).part
 (0 : Nat)).asInt
 ((eltV ls x.2).part
 (1 : Nat)).asBool
 ((eltV ls x.2).part
 (2 : Nat)).asStr
 ((eltV ls x.2).part
 (3 : Nat)).asNil
 ((eltV ls x.2).part
 (3 : Nat)).asStrs
 ((eltV ls x.2).part
 (4 : Nat)).asNil
 (jdecs
 ((eltV ls x.2).part
 (4 : Nat)).asVec)) ≤
 (10000 : Nat)) ∧
 Int.ofNat
 (List.length
 (x.1.2 ++ [zByte (44 : Int)] ++
 quoteJ (strZ ks x.2) ++
 [zByte (58 : Int)] ++
 textJ
 (JV.mk
 ((eltV ls x.2).part
 (0 : Nat)).asInt
 ((eltV ls x.2).part
 (1 : Nat)).asBool
 ((eltV ls x.2).part
 (2 : Nat)).asStr
 ((eltV ls x.2).part
 (3 : Nat)).asNil
 ((eltV ls x.2).part
 (3 : Nat)).asStrs
 ((eltV ls x.2).part
 (4 : Nat)).asNil
 (jdecs
 ((eltV ls x.2).part
 (4 : Nat)).asVec)))) ≤
 maxRow ∧
 inI64 (x.2 + (1 : Int)) ∧
 VS.mk []
 [(0,
 PV.agg
 [PV.int .i64 kd, PV.bool bv, PV.str sv,
 PV.row nk (BRow.strs ks) (0 : Nat),
 PV.vec nl (5 : Nat) ls (0 : Nat)]),
 (1, PV.ptr ((1 : Nat) + (32 : Nat)) (0 : Nat)),
 (2, PV.row true (BRow.bytes []) ((2 : Nat) + (32 : Nat))),
 (3, PV.undef), (4, PV.undef),
 ((5 : Nat),
 PV.row
 (bif
 List.rec true
 (fun (head : UInt8) (tail : List UInt8)
 (tail_ih : (fun (x : List UInt8) ↦ Bool) tail) ↦
 false)
 (textJ
 (JV.mk
 ((eltV ls x.2).part
 (0 : Nat)).asInt
 ((eltV ls x.2).part
 (1 : Nat)).asBool
 ((eltV ls x.2).part
 (2 : Nat)).asStr
 ((eltV ls x.2).part
 (3 : Nat)).asNil
 ((eltV ls x.2).part
 (3 : Nat)).asStrs
 ((eltV ls x.2).part
 (4 : Nat)).asNil
 (jdecs
 ((eltV ls x.2).part
 (4 : Nat)).asVec))) then
 false
 else false)
 (BRow.bytes
 (x.1.2 ++ [zByte (44 : Int)] ++
 quoteJ (strZ ks x.2) ++
 [zByte (58 : Int)] ++
 textJ
 (JV.mk
 ((eltV ls x.2).part
 (0 : Nat)).asInt
 ((eltV ls x.2).part
 (1 : Nat)).asBool
 ((eltV ls x.2).part
 (2 : Nat)).asStr
 ((eltV ls x.2).part
 (3 : Nat)).asNil
 ((eltV ls x.2).part
 (3 : Nat)).asStrs
 ((eltV ls x.2).part
 (4 : Nat)).asNil
 (jdecs
 ((eltV ls x.2).part
 (4 : Nat)).asVec))))
 (nat_lit 86 + (1 : Nat))),
 ((6 : Nat), PV.int .i64 (x.2 + (1 : Int))),
 (8, PV.int .i64 kd),
 (9, PV.bool (decide (kd = (1 : Int)))),
 (12, PV.undef),
 (17, PV.bool (decide (kd = (2 : Int)))),
 (22, PV.bool (decide (kd = (3 : Int)))),
 (27, PV.bool (decide (kd = (4 : Int)))),
 (34, PV.undef), (38, PV.undef),
 (53, PV.bool (decide (kd = (5 : Int)))),
 ((60 : Nat), PV.undef), ((64 : Nat), PV.undef)]
 [((1 : Nat) + (32 : Nat),
 PV.agg
 [PV.int .i64 kd, PV.bool bv, PV.str sv,
 PV.row nk (BRow.strs ks) (0 : Nat),
 PV.vec nl (5 : Nat) ls (0 : Nat)])] =
 VS.mk []
 [(0,
 PV.agg
 [PV.int .i64 kd, PV.bool bv, PV.str sv,
 PV.row nk (BRow.strs ks) (0 : Nat),
 PV.vec nl (5 : Nat) ls (0 : Nat)]),
 (1, PV.ptr ((1 : Nat) + (32 : Nat)) (0 : Nat)),
 (2, PV.row true (BRow.bytes []) ((2 : Nat) + (32 : Nat))),
 (3, PV.undef), (4, PV.undef),
 ((5 : Nat),
 PV.row
 (bif
 List.rec true
 (fun (head : UInt8) (tail : List UInt8)
 (tail_ih : (fun (x : List UInt8) ↦ Bool) tail) ↦
 false)
 (textJ
 (JV.mk
 ((eltV ls x.2).part
 (0 : Nat)).asInt
 ((eltV ls x.2).part
 (1 : Nat)).asBool
 ((eltV ls x.2).part
 (2 : Nat)).asStr
 ((eltV ls x.2).part
 (3 : Nat)).asNil
 ((eltV ls x.2).part
 (3 : Nat)).asStrs
 ((eltV ls x.2).part
 (4 : Nat)).asNil
 (jdecs
 ((eltV ls x.2).part
 (4 : Nat)).asVec))) then
 false
 else false)
 (BRow.bytes
 (x.1.2 ++ [zByte (44 : Int)] ++
 quoteJ (strZ ks x.2) ++
 [zByte (58 : Int)] ++
 textJ
 (JV.mk
 ((eltV ls x.2).part
 (0 : Nat)).asInt
 ((eltV ls x.2).part
 (1 : Nat)).asBool
 ((eltV ls x.2).part
 (2 : Nat)).asStr
 ((eltV ls x.2).part
 (3 : Nat)).asNil
 ((eltV ls x.2).part
 (3 : Nat)).asStrs
 ((eltV ls x.2).part
 (4 : Nat)).asNil
 (jdecs
 ((eltV ls x.2).part
 (4 : Nat)).asVec))))
 ((55 : Nat) + (32 : Nat))),
 ((6 : Nat), PV.int .i64 (x.2 + (1 : Int))),
 (8, PV.int .i64 kd),
 (9, PV.bool (decide (kd = (1 : Int)))),
 (12, PV.undef),
 (17, PV.bool (decide (kd = (2 : Int)))),
 (22, PV.bool (decide (kd = (3 : Int)))),
 (27, PV.bool (decide (kd = (4 : Int)))),
 (34, PV.undef), (38, PV.undef),
 (53, PV.bool (decide (kd = (5 : Int)))),
 ((60 : Nat), PV.undef), ((64 : Nat), PV.undef)]
 [((1 : Nat) + (32 : Nat),
 PV.agg
 [PV.int .i64 kd, PV.bool bv, PV.str sv,
 PV.row nk (BRow.strs ks) (0 : Nat),
 PV.vec nl (5 : Nat) ls (0 : Nat)])] ∧
 ((0 : Int) ≤ x.2 + (1 : Int) ∧
 x.2 + (1 : Int) ≤ ↑ls.length ∧
 (bif
 List.rec true
 (fun (head : UInt8) (tail : List UInt8)
 (tail_ih : (fun (x : List UInt8) ↦ Bool) tail) ↦
 false)
 (textJ
 (JV.mk
 ((eltV ls x.2).part
 (0 : Nat)).asInt
 ((eltV ls x.2).part
 (1 : Nat)).asBool
 ((eltV ls x.2).part
 (2 : Nat)).asStr
 ((eltV ls x.2).part
 (3 : Nat)).asNil
 ((eltV ls x.2).part
 (3 : Nat)).asStrs
 ((eltV ls x.2).part
 (4 : Nat)).asNil
 (jdecs
 ((eltV ls x.2).part
 (4 : Nat)).asVec))) then
 false
 else false) =
 false ∧
 x.1.2 ++ [zByte (44 : Int)] ++
 quoteJ (strZ ks x.2) ++
 [zByte (58 : Int)] ++
 textJ
 (JV.mk
 ((eltV ls x.2).part
 (0 : Nat)).asInt
 ((eltV ls x.2).part
 (1 : Nat)).asBool
 ((eltV ls x.2).part
 (2 : Nat)).asStr
 ((eltV ls x.2).part
 (3 : Nat)).asNil
 ((eltV ls x.2).part
 (3 : Nat)).asStrs
 ((eltV ls x.2).part
 (4 : Nat)).asNil
 (jdecs
 ((eltV ls x.2).part
 (4 : Nat)).asVec)) =
 (123 : UInt8) ::
 objJ true ks
 (List.take (x.2 + (1 : Int)).toNat (jdecs ls))) ∧
 (↑ls.length - (x.2 + (1 : Int))).toNat < (↑ls.length - x.2).toNat) ∧
 within x.2 (lenZ ls) ∧
 eltV ls x.2 =
 PV.agg
 [PV.int .i64
 ((eltV ls x.2).part
 (0 : Nat)).asInt,
 PV.bool
 ((eltV ls x.2).part
 (1 : Nat)).asBool,
 PV.str
 ((eltV ls x.2).part
 (2 : Nat)).asStr,
 PV.row
 ((eltV ls x.2).part
 (3 : Nat)).asNil
 (BRow.strs
 ((eltV ls x.2).part
 (3 : Nat)).asStrs)
 (0 : Nat),
 PV.vec
 ((eltV ls x.2).part
 (4 : Nat)).asNil
 (nat_lit 5)
 ((eltV ls x.2).part
 (4 : Nat)).asVec
 (0 : Nat)] ∧
 Int.ofNat
 (List.length
 (x.1.2 ++ [zByte (44 : Int)] ++ quoteJ (strZ ks x.2))) ≤
 maxRow ∧
 Int.ofNat
 (List.length
 (x.1.2 ++ [zByte (44 : Int)] ++ quoteJ (strZ ks x.2) ++
 [zByte (58 : Int)])) ≤
 maxRow ∧
 (isJs
 ((eltV ls x.2).part
 (4 : Nat)).asVec ∧
 okJ m
 (JV.mk
 ((eltV ls x.2).part
 (0 : Nat)).asInt
 ((eltV ls x.2).part
 (1 : Nat)).asBool
 ((eltV ls x.2).part
 (2 : Nat)).asStr
 ((eltV ls x.2).part
 (3 : Nat)).asNil
 ((eltV ls x.2).part
 (3 : Nat)).asStrs
 ((eltV ls x.2).part
 (4 : Nat)).asNil
 (jdecs
 ((eltV ls x.2).part
 (4 : Nat)).asVec)) ∧
 shapeJ
 (JV.mk
 ((eltV ls x.2).part
 (0 : Nat)).asInt
 ((eltV ls x.2).part
 (1 : Nat)).asBool
 ((eltV ls x.2).part
 (2 : Nat)).asStr
 ((eltV ls x.2).part
 (3 : Nat)).asNil
 ((eltV ls x.2).part
 (3 : Nat)).asStrs
 ((eltV ls x.2).part
 (4 : Nat)).asNil
 (jdecs
 ((eltV ls x.2).part
 (4 : Nat)).asVec)) =
 true ∧
 sizeJ
 (JV.mk
 ((eltV ls x.2).part
 (0 : Nat)).asInt
 ((eltV ls x.2).part
 (1 : Nat)).asBool
 ((eltV ls x.2).part
 (2 : Nat)).asStr
 ((eltV ls x.2).part
 (3 : Nat)).asNil
 ((eltV ls x.2).part
 (3 : Nat)).asStrs
 ((eltV ls x.2).part
 (4 : Nat)).asNil
 (jdecs
 ((eltV ls x.2).part
 (4 : Nat)).asVec)) ≤
 (10000 : Nat)) ∧
 Int.ofNat
 (List.length
 (x.1.2 ++ [zByte (44 : Int)] ++ quoteJ (strZ ks x.2) ++
 [zByte (58 : Int)] ++
 textJ
 (JV.mk
 ((eltV ls x.2).part
 (0 : Nat)).asInt
 ((eltV ls x.2).part
 (1 : Nat)).asBool
 ((eltV ls x.2).part
 (2 : Nat)).asStr
 ((eltV ls x.2).part
 (3 : Nat)).asNil
 ((eltV ls x.2).part
 (3 : Nat)).asStrs
 ((eltV ls x.2).part
 (4 : Nat)).asNil
 (jdecs
 ((eltV ls x.2).part
 (4 : Nat)).asVec)))) ≤
 maxRow ∧
 inI64 (x.2 + (1 : Int)) ∧
 VS.mk []
 [(0,
 PV.agg
 [PV.int .i64 kd, PV.bool bv, PV.str sv,
 PV.row nk (BRow.strs ks) (0 : Nat),
 PV.vec nl (5 : Nat) ls (0 : Nat)]),
 (1, PV.ptr ((1 : Nat) + (32 : Nat)) (0 : Nat)),
 (2, PV.row true (BRow.bytes []) ((2 : Nat) + (32 : Nat))),
 (3, PV.undef), (4, PV.undef),
 ((5 : Nat),
 PV.row
 (bif
 List.rec true
 (fun (head : UInt8) (tail : List UInt8)
 (tail_ih : (fun (x : List UInt8) ↦ Bool) tail) ↦
 false)
 (textJ
 (JV.mk
 ((eltV ls x.2).part
 (0 : Nat)).asInt
 ((eltV ls x.2).part
 (1 : Nat)).asBool
 ((eltV ls x.2).part
 (2 : Nat)).asStr
 ((eltV ls x.2).part
 (3 : Nat)).asNil
 ((eltV ls x.2).part
 (3 : Nat)).asStrs
 ((eltV ls x.2).part
 (4 : Nat)).asNil
 (jdecs
 ((eltV ls x.2).part
 (4 : Nat)).asVec))) then
 false
 else false)
 (BRow.bytes
 (x.1.2 ++ [zByte (44 : Int)] ++
 quoteJ (strZ ks x.2) ++
 [zByte (58 : Int)] ++
 textJ
 (JV.mk
 ((eltV ls x.2).part
 (0 : Nat)).asInt
 ((eltV ls x.2).part
 (1 : Nat)).asBool
 ((eltV ls x.2).part
 (2 : Nat)).asStr
 ((eltV ls x.2).part
 (3 : Nat)).asNil
 ((eltV ls x.2).part
 (3 : Nat)).asStrs
 ((eltV ls x.2).part
 (4 : Nat)).asNil
 (jdecs
 ((eltV ls x.2).part
 (4 : Nat)).asVec))))
 (nat_lit 86 + (1 : Nat))),
 ((6 : Nat), PV.int .i64 (x.2 + (1 : Int))),
 (8, PV.int .i64 kd),
 (9, PV.bool (decide (kd = (1 : Int)))),
 (12, PV.undef),
 (17, PV.bool (decide (kd = (2 : Int)))),
 (22, PV.bool (decide (kd = (3 : Int)))),
 (27, PV.bool (decide (kd = (4 : Int)))),
 (34, PV.undef), (38, PV.undef),
 (53, PV.bool (decide (kd = (5 : Int)))),
 ((60 : Nat), PV.undef), ((64 : Nat), PV.undef)]
 [((1 : Nat) + (32 : Nat),
 PV.agg
 [PV.int .i64 kd, PV.bool bv, PV.str sv,
 PV.row nk (BRow.strs ks) (0 : Nat),
 PV.vec nl (5 : Nat) ls (0 : Nat)])] =
 VS.mk []
 [(0,
 PV.agg
 [PV.int .i64 kd, PV.bool bv, PV.str sv,
 PV.row nk (BRow.strs ks) (0 : Nat),
 PV.vec nl (5 : Nat) ls (0 : Nat)]),
 (1, PV.ptr ((1 : Nat) + (32 : Nat)) (0 : Nat)),
 (2, PV.row true (BRow.bytes []) ((2 : Nat) + (32 : Nat))),
 (3, PV.undef), (4, PV.undef),
 ((5 : Nat),
 PV.row
 (bif
 List.rec true
 (fun (head : UInt8) (tail : List UInt8)
 (tail_ih : (fun (x : List UInt8) ↦ Bool) tail) ↦
 false)
 (textJ
 (JV.mk
 ((eltV ls x.2).part
 (0 : Nat)).asInt
 ((eltV ls x.2).part
 (1 : Nat)).asBool
 ((eltV ls x.2).part
 (2 : Nat)).asStr
 ((eltV ls x.2).part
 (3 : Nat)).asNil
 ((eltV ls x.2).part
 (3 : Nat)).asStrs
 ((eltV ls x.2).part
 (4 : Nat)).asNil
 (jdecs
 ((eltV ls x.2).part
 (4 : Nat)).asVec))) then
 false
 else false)
 (BRow.bytes
 (x.1.2 ++ [zByte (44 : Int)] ++
 quoteJ (strZ ks x.2) ++
 [zByte (58 : Int)] ++
 textJ
 (JV.mk
 ((eltV ls x.2).part
 (0 : Nat)).asInt
 ((eltV ls x.2).part
 (1 : Nat)).asBool
 ((eltV ls x.2).part
 (2 : Nat)).asStr
 ((eltV ls x.2).part
 (3 : Nat)).asNil
 ((eltV ls x.2).part
 (3 : Nat)).asStrs
 ((eltV ls x.2).part
 (4 : Nat)).asNil
 (jdecs
 ((eltV ls x.2).part
 (4 : Nat)).asVec))))
 ((55 : Nat) + (32 : Nat))),
 ((6 : Nat), PV.int .i64 (x.2 + (1 : Int))),
 (8, PV.int .i64 kd),
 (9, PV.bool (decide (kd = (1 : Int)))),
 (12, PV.undef),
 (17, PV.bool (decide (kd = (2 : Int)))),
 (22, PV.bool (decide (kd = (3 : Int)))),
 (27, PV.bool (decide (kd = (4 : Int)))),
 (34, PV.undef), (38, PV.undef),
 (53, PV.bool (decide (kd = (5 : Int)))),
 ((60 : Nat), PV.undef), ((64 : Nat), PV.undef)]
 [((1 : Nat) + (32 : Nat),
 PV.agg
 [PV.int .i64 kd, PV.bool bv, PV.str sv,
 PV.row nk (BRow.strs ks) (0 : Nat),
 PV.vec nl (5 : Nat) ls (0 : Nat)])] ∧
 ((0 : Int) ≤ x.2 + (1 : Int) ∧
 x.2 + (1 : Int) ≤ ↑ls.length ∧
 (bif
 List.rec true
 (fun (head : UInt8) (tail : List UInt8)
 (tail_ih : (fun (x : List UInt8) ↦ Bool) tail) ↦
 false)
 (textJ
 (JV.mk
 ((eltV ls x.2).part
 (0 : Nat)).asInt
 ((eltV ls x.2).part
 (1 : Nat)).asBool
 ((eltV ls x.2).part
 (2 : Nat)).asStr
 ((eltV ls x.2).part
 (3 : Nat)).asNil
 ((eltV ls x.2).part
 (3 : Nat)).asStrs
 ((eltV ls x.2).part
 (4 : Nat)).asNil
 (jdecs
 ((eltV ls x.2).part
 (4 : Nat)).asVec))) then
 false
 else false) =
 false ∧
 x.1.2 ++ [zByte (44 : Int)] ++
 quoteJ (strZ ks x.2) ++
 [zByte (58 : Int)] ++
 textJ
 (JV.mk
 ((eltV ls x.2).part
 (0 : Nat)).asInt
 ((eltV ls x.2).part
 (1 : Nat)).asBool
 ((eltV ls x.2).part
 (2 : Nat)).asStr
 ((eltV ls x.2).part
 (3 : Nat)).asNil
 ((eltV ls x.2).part
 (3 : Nat)).asStrs
 ((eltV ls x.2).part
 (4 : Nat)).asNil
 (jdecs
 ((eltV ls x.2).part
 (4 : Nat)).asVec)) =
 (123 : UInt8) ::
 objJ true ks
 (List.take (x.2 + (1 : Int)).toNat (jdecs ls))) ∧
 (↑ls.length - (x.2 + (1 : Int))).toNat < (↑ls.length - x.2).toNat) ∧
 within x.2 (lenZ ls) ∧
 eltV ls x.2 =
 PV.agg
 [PV.int .i64
 ((eltV ls x.2).part
 (0 : Nat)).asInt,
 PV.bool
 ((eltV ls x.2).part
 (1 : Nat)).asBool,
 PV.str
 ((eltV ls x.2).part
 (2 : Nat)).asStr,
 PV.row
 ((eltV ls x.2).part
 (3 : Nat)).asNil
 (BRow.strs
 ((eltV ls x.2).part
 (3 : Nat)).asStrs)
 (0 : Nat),
 PV.vec
 ((eltV ls x.2).part
 (4 : Nat)).asNil
 (nat_lit 5)
 ((eltV ls x.2).part
 (4 : Nat)).asVec
 (0 : Nat)] ∧
 Int.ofNat
 (List.length
 (x.1.2 ++ [zByte (44 : Int)] ++ quoteJ (strZ ks x.2))) ≤
 maxRow ∧
 Int.ofNat
 (List.length
 (x.1.2 ++ [zByte (44 : Int)] ++ quoteJ (strZ ks x.2) ++
 [zByte (58 : Int)])) ≤
 maxRow ∧
 (isJs
 ((eltV ls x.2).part
 (4 : Nat)).asVec ∧
 okJ m
 (JV.mk
 ((eltV ls x.2).part
 (0 : Nat)).asInt
 ((eltV ls x.2).part
 (1 : Nat)).asBool
 ((eltV ls x.2).part
 (2 : Nat)).asStr
 ((eltV ls x.2).part
 (3 : Nat)).asNil
 ((eltV ls x.2).part
 (3 : Nat)).asStrs
 ((eltV ls x.2).part
 (4 : Nat)).asNil
 (jdecs
 ((eltV ls x.2).part
 (4 : Nat)).asVec)) ∧
 shapeJ
 (JV.mk
 ((eltV ls x.2).part
 (0 : Nat)).asInt
 ((eltV ls x.2).part
 (1 : Nat)).asBool
 ((eltV ls x.2).part
 (2 : Nat)).asStr
 ((eltV ls x.2).part
 (3 : Nat)).asNil
 ((eltV ls x.2).part
 (3 : Nat)).asStrs
 ((eltV ls x.2).part
 (4 : Nat)).asNil
 (jdecs
 ((eltV ls x.2).part
 (4 : Nat)).asVec)) =
 true ∧
 sizeJ
 (JV.mk
 ((eltV ls x.2).part
 (0 : Nat)).asInt
 ((eltV ls x.2).part
 (1 : Nat)).asBool
 ((eltV ls x.2).part
 (2 : Nat)).asStr
 ((eltV ls x.2).part
 (3 : Nat)).asNil
 ((eltV ls x.2).part
 (3 : Nat)).asStrs
 ((eltV ls x.2).part
 (4 : Nat)).asNil
 (jdecs
 ((eltV ls x.2).part
 (4 : Nat)).asVec)) ≤
 (10000 : Nat)) ∧
 Int.ofNat
 (List.length
 (x.1.2 ++ [zByte (44 : Int)] ++ quoteJ (strZ ks x.2) ++
 [zByte (58 : Int)] ++
 textJ
 (JV.mk
 ((eltV ls x.2).part
 (0 : Nat)).asInt
 ((eltV ls x.2).part
 (1 : Nat)).asBool
 ((eltV ls x.2).part
 (2 : Nat)).asStr
 ((eltV ls x.2).part
 (3 : Nat)).asNil
 ((eltV ls x.2).part
 (3 : Nat)).asStrs
 ((eltV ls x.2).part
 (4 : Nat)).asNil
 (jdecs
 ((eltV ls x.2).part
 (4 : Nat)).asVec)))) ≤
 maxRow ∧
 inI64 (x.2 + (1 : Int)) ∧
 VS.mk []
 [(0,
 PV.agg
 [PV.int .i64 kd, PV.bool bv, PV.str sv,
 PV.row nk (BRow.strs ks) (0 : Nat),
 PV.vec nl (5 : Nat) ls (0 : Nat)]),
 (1, PV.ptr ((1 : Nat) + (32 : Nat)) (0 : Nat)),
 (2, PV.row true (BRow.bytes []) ((2 : Nat) + (32 : Nat))),
 (3, PV.undef), (4, PV.undef),
 ((5 : Nat),
 PV.row
 (bif
 List.rec true
 (fun (head : UInt8) (tail : List UInt8)
 (tail_ih : (fun (x : List UInt8) ↦ Bool) tail) ↦
 false)
 (textJ
 (JV.mk
 ((eltV ls x.2).part
 (0 : Nat)).asInt
 ((eltV ls x.2).part
 (1 : Nat)).asBool
 ((eltV ls x.2).part
 (2 : Nat)).asStr
 ((eltV ls x.2).part
 (3 : Nat)).asNil
 ((eltV ls x.2).part
 (3 : Nat)).asStrs
 ((eltV ls x.2).part
 (4 : Nat)).asNil
 (jdecs
 ((eltV ls x.2).part
 (4 : Nat)).asVec))) then
 false
 else false)
 (BRow.bytes
 (x.1.2 ++ [zByte (44 : Int)] ++
 quoteJ (strZ ks x.2) ++
 [zByte (58 : Int)] ++
 textJ
 (JV.mk
 ((eltV ls x.2).part
 (0 : Nat)).asInt
 ((eltV ls x.2).part
 (1 : Nat)).asBool
 ((eltV ls x.2).part
 (2 : Nat)).asStr
 ((eltV ls x.2).part
 (3 : Nat)).asNil
 ((eltV ls x.2).part
 (3 : Nat)).asStrs
 ((eltV ls x.2).part
 (4 : Nat)).asNil
 (jdecs
 ((eltV ls x.2).part
 (4 : Nat)).asVec))))
 (nat_lit 86 + (1 : Nat))),
 ((6 : Nat), PV.int .i64 (x.2 + (1 : Int))),
 (8, PV.int .i64 kd),
 (9, PV.bool (decide (kd = (1 : Int)))), (12, PV.undef),
 (17, PV.bool (decide (kd = (2 : Int)))),
 (22, PV.bool (decide (kd = (3 : Int)))),
 (27, PV.bool (decide (kd = (4 : Int)))), (34, PV.undef),
 (38, PV.undef), (53, PV.bool (decide (kd = (5 : Int)))),
 ((60 : Nat), PV.undef), ((64 : Nat), PV.undef)]
 [((1 : Nat) + (32 : Nat),
 PV.agg
 [PV.int .i64 kd, PV.bool bv, PV.str sv,
 PV.row nk (BRow.strs ks) (0 : Nat),
 PV.vec nl (5 : Nat) ls (0 : Nat)])] =
 VS.mk []
 [(0,
 PV.agg
 [PV.int .i64 kd, PV.bool bv, PV.str sv,
 PV.row nk (BRow.strs ks) (0 : Nat),
 PV.vec nl (5 : Nat) ls (0 : Nat)]),
 (1, PV.ptr ((1 : Nat) + (32 : Nat)) (0 : Nat)),
 (2, PV.row true (BRow.bytes []) ((2 : Nat) + (32 : Nat))),
 (3, PV.undef), (4, PV.undef),
 ((5 : Nat),
 PV.row
 (bif
 List.rec true
 (fun (head : UInt8) (tail : List UInt8)
 (tail_ih : (fun (x : List UInt8) ↦ Bool) tail) ↦
 false)
 (textJ
 (JV.mk
 ((eltV ls x.2).part
 (0 : Nat)).asInt
 ((eltV ls x.2).part
 (1 : Nat)).asBool
 ((eltV ls x.2).part
 (2 : Nat)).asStr
 ((eltV ls x.2).part
 (3 : Nat)).asNil
 ((eltV ls x.2).part
 (3 : Nat)).asStrs
 ((eltV ls x.2).part
 (4 : Nat)).asNil
 (jdecs
 ((eltV ls x.2).part
 (4 : Nat)).asVec))) then
 false
 else false)
 (BRow.bytes
 (x.1.2 ++ [zByte (44 : Int)] ++
 quoteJ (strZ ks x.2) ++
 [zByte (58 : Int)] ++
 textJ
 (JV.mk
 ((eltV ls x.2).part
 (0 : Nat)).asInt
 ((eltV ls x.2).part
 (1 : Nat)).asBool
 ((eltV ls x.2).part
 (2 : Nat)).asStr
 ((eltV ls x.2).part
 (3 : Nat)).asNil
 ((eltV ls x.2).part
 (3 : Nat)).asStrs
 ((eltV ls x.2).part
 (4 : Nat)).asNil
 (jdecs
 ((eltV ls x.2).part
 (4 : Nat)).asVec))))
 ((55 : Nat) + (32 : Nat))),
 ((6 : Nat), PV.int .i64 (x.2 + (1 : Int))),
 (8, PV.int .i64 kd),
 (9, PV.bool (decide (kd = (1 : Int)))), (12, PV.undef),
 (17, PV.bool (decide (kd = (2 : Int)))),
 (22, PV.bool (decide (kd = (3 : Int)))),
 (27, PV.bool (decide (kd = (4 : Int)))), (34, PV.undef),
 (38, PV.undef), (53, PV.bool (decide (kd = (5 : Int)))),
 ((60 : Nat), PV.undef), ((64 : Nat), PV.undef)]
 [((1 : Nat) + (32 : Nat),
 PV.agg
 [PV.int .i64 kd, PV.bool bv, PV.str sv,
 PV.row nk (BRow.strs ks) (0 : Nat),
 PV.vec nl (5 : Nat) ls (0 : Nat)])] ∧
 ((0 : Int) ≤ x.2 + (1 : Int) ∧
 x.2 + (1 : Int) ≤ ↑ls.length ∧
 (bif
 List.rec true
 (fun (head : UInt8) (tail : List UInt8)
 (tail_ih : (fun (x : List UInt8) ↦ Bool) tail) ↦
 false)
 (textJ
 (JV.mk
 ((eltV ls x.2).part
 (0 : Nat)).asInt
 ((eltV ls x.2).part
 (1 : Nat)).asBool
 ((eltV ls x.2).part
 (2 : Nat)).asStr
 ((eltV ls x.2).part
 (3 : Nat)).asNil
 ((eltV ls x.2).part
 (3 : Nat)).asStrs
 ((eltV ls x.2).part
 (4 : Nat)).asNil
 (jdecs
 ((eltV ls x.2).part
 (4 : Nat)).asVec))) then
 false
 else false) =
 false ∧
 x.1.2 ++ [zByte (44 : Int)] ++
 quoteJ (strZ ks x.2) ++
 [zByte (58 : Int)] ++
 textJ
 (JV.mk
 ((eltV ls x.2).part
 (0 : Nat)).asInt
 ((eltV ls x.2).part
 (1 : Nat)).asBool
 ((eltV ls x.2).part
 (2 : Nat)).asStr
 ((eltV ls x.2).part
 (3 : Nat)).asNil
 ((eltV ls x.2).part
 (3 : Nat)).asStrs
 ((eltV ls x.2).part
 (4 : Nat)).asNil
 (jdecs
 ((eltV ls x.2).part
 (4 : Nat)).asVec)) =
 (123 : UInt8) ::
 objJ true ks
 (List.take (x.2 + (1 : Int)).toNat (jdecs ls))) ∧
 (↑ls.length - (x.2 + (1 : Int))).toNat < (↑ls.length - x.2).toNat) ∧
 within x.2 (lenZ ls) ∧
 eltV ls x.2 =
 PV.agg
 [PV.int .i64
 ((eltV ls x.2).part (0 : Nat)).asInt,
 PV.bool
 ((eltV ls x.2).part
 (1 : Nat)).asBool,
 PV.str
 ((eltV ls x.2).part
 (2 : Nat)).asStr,
 PV.row
 ((eltV ls x.2).part
 (3 : Nat)).asNil
 (BRow.strs
 ((eltV ls x.2).part
 (3 : Nat)).asStrs)
 (0 : Nat),
 PV.vec
 ((eltV ls x.2).part
 (4 : Nat)).asNil
 (nat_lit 5)
 ((eltV ls x.2).part
 (4 : Nat)).asVec
 (0 : Nat)] ∧
 (within x.2 (Int.ofNat ks.length) ∧
 (List.length (strZ ks x.2)).le (100000 : Nat) ∧
 Int.ofNat
 (List.length
 (x.1.2 ++ [zByte (44 : Int)] ++ quoteJ (strZ ks x.2))) ≤
 maxRow ∧
 Int.ofNat
 (List.length
 (x.1.2 ++ [zByte (44 : Int)] ++ quoteJ (strZ ks x.2) ++
 [zByte (58 : Int)])) ≤
 maxRow ∧
 (isJs
 ((eltV ls x.2).part
 (4 : Nat)).asVec ∧
 okJ m
 (JV.mk
 ((eltV ls x.2).part
 (0 : Nat)).asInt
 ((eltV ls x.2).part
 (1 : Nat)).asBool
 ((eltV ls x.2).part
 (2 : Nat)).asStr
 ((eltV ls x.2).part
 (3 : Nat)).asNil
 ((eltV ls x.2).part
 (3 : Nat)).asStrs
 ((eltV ls x.2).part
 (4 : Nat)).asNil
 (jdecs
 ((eltV ls x.2).part
 (4 : Nat)).asVec)) ∧
 shapeJ
 (JV.mk
 ((eltV ls x.2).part
 (0 : Nat)).asInt
 ((eltV ls x.2).part
 (1 : Nat)).asBool
 ((eltV ls x.2).part
 (2 : Nat)).asStr
 ((eltV ls x.2).part
 (3 : Nat)).asNil
 ((eltV ls x.2).part
 (3 : Nat)).asStrs
 ((eltV ls x.2).part
 (4 : Nat)).asNil
 (jdecs
 ((eltV ls x.2).part
 (4 : Nat)).asVec)) =
 true ∧
 sizeJ
 (JV.mk
 ((eltV ls x.2).part
 (0 : Nat)).asInt
 ((eltV ls x.2).part
 (1 : Nat)).asBool
 ((eltV ls x.2).part
 (2 : Nat)).asStr
 ((eltV ls x.2).part
 (3 : Nat)).asNil
 ((eltV ls x.2).part
 (3 : Nat)).asStrs
 ((eltV ls x.2).part
 (4 : Nat)).asNil
 (jdecs
 ((eltV ls x.2).part
 (4 : Nat)).asVec)) ≤
 (10000 : Nat)) ∧
 Int.ofNat
 (List.length
 (x.1.2 ++ [zByte (44 : Int)] ++ quoteJ (strZ ks x.2) ++
 [zByte (58 : Int)] ++
 textJ
 (JV.mk
 ((eltV ls x.2).part
 (0 : Nat)).asInt
 ((eltV ls x.2).part
 (1 : Nat)).asBool
 ((eltV ls x.2).part
 (2 : Nat)).asStr
 ((eltV ls x.2).part
 (3 : Nat)).asNil
 ((eltV ls x.2).part
 (3 : Nat)).asStrs
 ((eltV ls x.2).part
 (4 : Nat)).asNil
 (jdecs
 ((eltV ls x.2).part
 (4 : Nat)).asVec)))) ≤
 maxRow ∧
 inI64 (x.2 + (1 : Int)) ∧
 VS.mk []
 [(0,
 PV.agg
 [PV.int .i64 kd, PV.bool bv, PV.str sv,
 PV.row nk (BRow.strs ks) (0 : Nat),
 PV.vec nl (5 : Nat) ls (0 : Nat)]),
 (1, PV.ptr ((1 : Nat) + (32 : Nat)) (0 : Nat)),
 (2, PV.row true (BRow.bytes []) ((2 : Nat) + (32 : Nat))),
 (3, PV.undef), (4, PV.undef),
 ((5 : Nat),
 PV.row
 (bif
 List.rec true
 (fun (head : UInt8) (tail : List UInt8)
 (tail_ih : (fun (x : List UInt8) ↦ Bool) tail) ↦
 false)
 (textJ
 (JV.mk
 ((eltV ls x.2).part
 (0 : Nat)).asInt
 ((eltV ls x.2).part
 (1 : Nat)).asBool
 ((eltV ls x.2).part
 (2 : Nat)).asStr
 ((eltV ls x.2).part
 (3 : Nat)).asNil
 ((eltV ls x.2).part
 (3 : Nat)).asStrs
 ((eltV ls x.2).part
 (4 : Nat)).asNil
 (jdecs
 ((eltV ls x.2).part
 (4 : Nat)).asVec))) then
 false
 else false)
 (BRow.bytes
 (x.1.2 ++ [zByte (44 : Int)] ++
 quoteJ (strZ ks x.2) ++
 [zByte (58 : Int)] ++
 textJ
 (JV.mk
 ((eltV ls x.2).part
 (0 : Nat)).asInt
 ((eltV ls x.2).part
 (1 : Nat)).asBool
 ((eltV ls x.2).part
 (2 : Nat)).asStr
 ((eltV ls x.2).part
 (3 : Nat)).asNil
 ((eltV ls x.2).part
 (3 : Nat)).asStrs
 ((eltV ls x.2).part
 (4 : Nat)).asNil
 (jdecs
 ((eltV ls x.2).part
 (4 : Nat)).asVec))))
 (nat_lit 86 + (1 : Nat))),
 ((6 : Nat), PV.int .i64 (x.2 + (1 : Int))),
 (8, PV.int .i64 kd),
 (9, PV.bool (decide (kd = (1 : Int)))), (12, PV.undef),
 (17, PV.bool (decide (kd = (2 : Int)))),
 (22, PV.bool (decide (kd = (3 : Int)))),
 (27, PV.bool (decide (kd = (4 : Int)))), (34, PV.undef),
 (38, PV.undef), (53, PV.bool (decide (kd = (5 : Int)))),
 ((60 : Nat), PV.undef), ((64 : Nat), PV.undef)]
 [((1 : Nat) + (32 : Nat),
 PV.agg
 [PV.int .i64 kd, PV.bool bv, PV.str sv,
 PV.row nk (BRow.strs ks) (0 : Nat),
 PV.vec nl (5 : Nat) ls (0 : Nat)])] =
 VS.mk []
 [(0,
 PV.agg
 [PV.int .i64 kd, PV.bool bv, PV.str sv,
 PV.row nk (BRow.strs ks) (0 : Nat),
 PV.vec nl (5 : Nat) ls (0 : Nat)]),
 (1, PV.ptr ((1 : Nat) + (32 : Nat)) (0 : Nat)),
 (2, PV.row true (BRow.bytes []) ((2 : Nat) + (32 : Nat))),
 (3, PV.undef), (4, PV.undef),
 ((5 : Nat),
 PV.row
 (bif
 List.rec true
 (fun (head : UInt8) (tail : List UInt8)
 (tail_ih : (fun (x : List UInt8) ↦ Bool) tail) ↦
 false)
 (textJ
 (JV.mk
 ((eltV ls x.2).part
 (0 : Nat)).asInt
 ((eltV ls x.2).part
 (1 : Nat)).asBool
 ((eltV ls x.2).part
 (2 : Nat)).asStr
 ((eltV ls x.2).part
 (3 : Nat)).asNil
 ((eltV ls x.2).part
 (3 : Nat)).asStrs
 ((eltV ls x.2).part
 (4 : Nat)).asNil
 (jdecs
 ((eltV ls x.2).part
 (4 : Nat)).asVec))) then
 false
 else false)
 (BRow.bytes
 (x.1.2 ++ [zByte (44 : Int)] ++
 quoteJ (strZ ks x.2) ++
 [zByte (58 : Int)] ++
 textJ
 (JV.mk
 ((eltV ls x.2).part
 (0 : Nat)).asInt
 ((eltV ls x.2).part
 (1 : Nat)).asBool
 ((eltV ls x.2).part
 (2 : Nat)).asStr
 ((eltV ls x.2).part
 (3 : Nat)).asNil
 ((eltV ls x.2).part
 (3 : Nat)).asStrs
 ((eltV ls x.2).part
 (4 : Nat)).asNil
 (jdecs
 ((eltV ls x.2).part
 (4 : Nat)).asVec))))
 ((55 : Nat) + (32 : Nat))),
 ((6 : Nat), PV.int .i64 (x.2 + (1 : Int))),
 (8, PV.int .i64 kd),
 (9, PV.bool (decide (kd = (1 : Int)))), (12, PV.undef),
 (17, PV.bool (decide (kd = (2 : Int)))),
 (22, PV.bool (decide (kd = (3 : Int)))),
 (27, PV.bool (decide (kd = (4 : Int)))), (34, PV.undef),
 (38, PV.undef), (53, PV.bool (decide (kd = (5 : Int)))),
 ((60 : Nat), PV.undef), ((64 : Nat), PV.undef)]
 [((1 : Nat) + (32 : Nat),
 PV.agg
 [PV.int .i64 kd, PV.bool bv, PV.str sv,
 PV.row nk (BRow.strs ks) (0 : Nat),
 PV.vec nl (5 : Nat) ls (0 : Nat)])] ∧
 ((0 : Int) ≤ x.2 + (1 : Int) ∧
 x.2 + (1 : Int) ≤ ↑ls.length ∧
 (bif
 List.rec true
 (fun (head : UInt8) (tail : List UInt8)
 (tail_ih : (fun (x : List UInt8) ↦ Bool) tail) ↦
 false)
 (textJ
 (JV.mk
 ((eltV ls x.2).part
 (0 : Nat)).asInt
 ((eltV ls x.2).part
 (1 : Nat)).asBool
 ((eltV ls x.2).part
 (2 : Nat)).asStr
 ((eltV ls x.2).part
 (3 : Nat)).asNil
 ((eltV ls x.2).part
 (3 : Nat)).asStrs
 ((eltV ls x.2).part
 (4 : Nat)).asNil
 (jdecs
 ((eltV ls x.2).part
 (4 : Nat)).asVec))) then
 false
 else false) =
 false ∧
 x.1.2 ++ [zByte (44 : Int)] ++
 quoteJ (strZ ks x.2) ++
 [zByte (58 : Int)] ++
 textJ
 (JV.mk
 ((eltV ls x.2).part
 (0 : Nat)).asInt
 ((eltV ls x.2).part
 (1 : Nat)).asBool
 ((eltV ls x.2).part
 (2 : Nat)).asStr
 ((eltV ls x.2).part
 (3 : Nat)).asNil
 ((eltV ls x.2).part
 (3 : Nat)).asStrs
 ((eltV ls x.2).part
 (4 : Nat)).asNil
 (jdecs
 ((eltV ls x.2).part
 (4 : Nat)).asVec)) =
 (123 : UInt8) ::
 objJ true ks
 (List.take (x.2 + (1 : Int)).toNat (jdecs ls))) ∧
 (↑ls.length - (x.2 + (1 : Int))).toNat < (↑ls.length - x.2).toNat) ∧
 within x.2 (Int.ofNat ks.length) ∧
 (List.length (strZ ks x.2)).le (100000 : Nat) ∧
 Int.ofNat
 (List.length
 (x.1.2 ++ [zByte (44 : Int)] ++ quoteJ (strZ ks x.2))) ≤
 maxRow ∧
 Int.ofNat
 (List.length
 (x.1.2 ++ [zByte (44 : Int)] ++ quoteJ (strZ ks x.2) ++
 [zByte (58 : Int)])) ≤
 maxRow ∧
 (isJs
 ((eltV ls x.2).part
 (4 : Nat)).asVec ∧
 okJ m
 (JV.mk
 ((eltV ls x.2).part
 (0 : Nat)).asInt
 ((eltV ls x.2).part
 (1 : Nat)).asBool
 ((eltV ls x.2).part
 (2 : Nat)).asStr
 ((eltV ls x.2).part
 (3 : Nat)).asNil
 ((eltV ls x.2).part
 (3 : Nat)).asStrs
 ((eltV ls x.2).part
 (4 : Nat)).asNil
 (jdecs
 ((eltV ls x.2).part
 (4 : Nat)).asVec)) ∧
 shapeJ
 (JV.mk
 ((eltV ls x.2).part
 (0 : Nat)).asInt
 ((eltV ls x.2).part
 (1 : Nat)).asBool
 ((eltV ls x.2).part
 (2 : Nat)).asStr
 ((eltV ls x.2).part
 (3 : Nat)).asNil
 ((eltV ls x.2).part
 (3 : Nat)).asStrs
 ((eltV ls x.2).part
 (4 : Nat)).asNil
 (jdecs
 ((eltV ls x.2).part
 (4 : Nat)).asVec)) =
 true ∧
 sizeJ
 (JV.mk
 ((eltV ls x.2).part
 (0 : Nat)).asInt
 ((eltV ls x.2).part
 (1 : Nat)).asBool
 ((eltV ls x.2).part
 (2 : Nat)).asStr
 ((eltV ls x.2).part
 (3 : Nat)).asNil
 ((eltV ls x.2).part
 (3 : Nat)).asStrs
 ((eltV ls x.2).part
 (4 : Nat)).asNil
 (jdecs
 ((eltV ls x.2).part
 (4 : Nat)).asVec)) ≤
 (10000 : Nat)) ∧
 Int.ofNat
 (List.length
 (x.1.2 ++ [zByte (44 : Int)] ++ quoteJ (strZ ks x.2) ++
 [zByte (58 : Int)] ++
 textJ
 (JV.mk
 ((eltV ls x.2).part
 (0 : Nat)).asInt
 ((eltV ls x.2).part
 (1 : Nat)).asBool
 ((eltV ls x.2).part
 (2 : Nat)).asStr
 ((eltV ls x.2).part
 (3 : Nat)).asNil
 ((eltV ls x.2).part
 (3 : Nat)).asStrs
 ((eltV ls x.2).part
 (4 : Nat)).asNil
 (jdecs
 ((eltV ls x.2).part
 (4 : Nat)).asVec)))) ≤
 maxRow ∧
 inI64 (x.2 + (1 : Int)) ∧
 VS.mk []
 [(0,
 PV.agg
 [PV.int .i64 kd, PV.bool bv, PV.str sv,
 PV.row nk (BRow.strs ks) (0 : Nat),
 PV.vec nl (5 : Nat) ls (0 : Nat)]),
 (1, PV.ptr ((1 : Nat) + (32 : Nat)) (0 : Nat)),
 (2, PV.row true (BRow.bytes []) ((2 : Nat) + (32 : Nat))),
 (3, PV.undef), (4, PV.undef),
 ((5 : Nat),
 PV.row
 (bif
 List.rec true
 (fun (head : UInt8) (tail : List UInt8)
 (tail_ih : (fun (x : List UInt8) ↦ Bool) tail) ↦
 false)
 (textJ
 (JV.mk
 ((eltV ls x.2).part
 (0 : Nat)).asInt
 ((eltV ls x.2).part
 (1 : Nat)).asBool
 ((eltV ls x.2).part
 (2 : Nat)).asStr
 ((eltV ls x.2).part
 (3 : Nat)).asNil
 ((eltV ls x.2).part
 (3 : Nat)).asStrs
 ((eltV ls x.2).part
 (4 : Nat)).asNil
 (jdecs
 ((eltV ls x.2).part
 (4 : Nat)).asVec))) then
 false
 else false)
 (BRow.bytes
 (x.1.2 ++ [zByte (44 : Int)] ++
 quoteJ (strZ ks x.2) ++
 [zByte (58 : Int)] ++
 textJ
 (JV.mk
 ((eltV ls x.2).part
 (0 : Nat)).asInt
 ((eltV ls x.2).part
 (1 : Nat)).asBool
 ((eltV ls x.2).part
 (2 : Nat)).asStr
 ((eltV ls x.2).part
 (3 : Nat)).asNil
 ((eltV ls x.2).part
 (3 : Nat)).asStrs
 ((eltV ls x.2).part
 (4 : Nat)).asNil
 (jdecs
 ((eltV ls x.2).part
 (4 : Nat)).asVec))))
 (nat_lit 86 + (1 : Nat))),
 ((6 : Nat), PV.int .i64 (x.2 + (1 : Int))),
 (8, PV.int .i64 kd),
 (9, PV.bool (decide (kd = (1 : Int)))), (12, PV.undef),
 (17, PV.bool (decide (kd = (2 : Int)))),
 (22, PV.bool (decide (kd = (3 : Int)))),
 (27, PV.bool (decide (kd = (4 : Int)))), (34, PV.undef),
 (38, PV.undef), (53, PV.bool (decide (kd = (5 : Int)))),
 ((60 : Nat), PV.undef), ((64 : Nat), PV.undef)]
 [((1 : Nat) + (32 : Nat),
 PV.agg
 [PV.int .i64 kd, PV.bool bv, PV.str sv,
 PV.row nk (BRow.strs ks) (0 : Nat),
 PV.vec nl (5 : Nat) ls (0 : Nat)])] =
 VS.mk []
 [(0,
 PV.agg
 [PV.int .i64 kd, PV.bool bv, PV.str sv,
 PV.row nk (BRow.strs ks) (0 : Nat),
 PV.vec nl (5 : Nat) ls (0 : Nat)]),
 (1, PV.ptr ((1 : Nat) + (32 : Nat)) (0 : Nat)),
 (2, PV.row true (BRow.bytes []) ((2 : Nat) + (32 : Nat))),
 (3, PV.undef), (4, PV.undef),
 ((5 : Nat),
 PV.row
 (bif
 List.rec true
 (fun (head : UInt8) (tail : List UInt8)
 (tail_ih : (fun (x : List UInt8) ↦ Bool) tail) ↦
 false)
 (textJ
 (JV.mk
 ((eltV ls x.2).part
 (0 : Nat)).asInt
 ((eltV ls x.2).part
 (1 : Nat)).asBool
 ((eltV ls x.2).part
 (2 : Nat)).asStr
 ((eltV ls x.2).part
 (3 : Nat)).asNil
 ((eltV ls x.2).part
 (3 : Nat)).asStrs
 ((eltV ls x.2).part
 (4 : Nat)).asNil
 (jdecs
 ((eltV ls x.2).part
 (4 : Nat)).asVec))) then
 false
 else false)
 (BRow.bytes
 (x.1.2 ++ [zByte (44 : Int)] ++
 quoteJ (strZ ks x.2) ++
 [zByte (58 : Int)] ++
 textJ
 (JV.mk
 ((eltV ls x.2).part
 (0 : Nat)).asInt
 ((eltV ls x.2).part
 (1 : Nat)).asBool
 ((eltV ls x.2).part
 (2 : Nat)).asStr
 ((eltV ls x.2).part
 (3 : Nat)).asNil
 ((eltV ls x.2).part
 (3 : Nat)).asStrs
 ((eltV ls x.2).part
 (4 : Nat)).asNil
 (jdecs
 ((eltV ls x.2).part
 (4 : Nat)).asVec))))
 ((55 : Nat) + (32 : Nat))),
 ((6 : Nat), PV.int .i64 (x.2 + (1 : Int))),
 (8, PV.int .i64 kd),
 (9, PV.bool (decide (kd = (1 : Int)))), (12, PV.undef),
 (17, PV.bool (decide (kd = (2 : Int)))),
 (22, PV.bool (decide (kd = (3 : Int)))),
 (27, PV.bool (decide (kd = (4 : Int)))), (34, PV.undef),
 (38, PV.undef), (53, PV.bool (decide (kd = (5 : Int)))),
 ((60 : Nat), PV.undef), ((64 : Nat), PV.undef)]
 [((1 : Nat) + (32 : Nat),
 PV.agg
 [PV.int .i64 kd, PV.bool bv, PV.str sv,
 PV.row nk (BRow.strs ks) (0 : Nat),
 PV.vec nl (5 : Nat) ls (0 : Nat)])] ∧
 ((0 : Int) ≤ x.2 + (1 : Int) ∧
 x.2 + (1 : Int) ≤ ↑ls.length ∧
 (bif
 List.rec true
 (fun (head : UInt8) (tail : List UInt8)
 (tail_ih : (fun (x : List UInt8) ↦ Bool) tail) ↦
 false)
 (textJ
 (JV.mk
 ((eltV ls x.2).part
 (0 : Nat)).asInt
 ((eltV ls x.2).part
 (1 : Nat)).asBool
 ((eltV ls x.2).part
 (2 : Nat)).asStr
 ((eltV ls x.2).part
 (3 : Nat)).asNil
 ((eltV ls x.2).part
 (3 : Nat)).asStrs
 ((eltV ls x.2).part
 (4 : Nat)).asNil
 (jdecs
 ((eltV ls x.2).part
 (4 : Nat)).asVec))) then
 false
 else false) =
 false ∧
 x.1.2 ++ [zByte (44 : Int)] ++
 quoteJ (strZ ks x.2) ++
 [zByte (58 : Int)] ++
 textJ
 (JV.mk
 ((eltV ls x.2).part
 (0 : Nat)).asInt
 ((eltV ls x.2).part
 (1 : Nat)).asBool
 ((eltV ls x.2).part
 (2 : Nat)).asStr
 ((eltV ls x.2).part
 (3 : Nat)).asNil
 ((eltV ls x.2).part
 (3 : Nat)).asStrs
 ((eltV ls x.2).part
 (4 : Nat)).asNil
 (jdecs
 ((eltV ls x.2).part
 (4 : Nat)).asVec)) =
 (123 : UInt8) ::
 objJ true ks
 (List.take (x.2 + (1 : Int)).toNat (jdecs ls))) ∧
 (↑ls.length - (x.2 + (1 : Int))).toNat < (↑ls.length - x.2).toNat) ∧
 (decide ((0 : Int) < x.2) = false →
 allU8 [PV.int .u8 (58 : Int)] ∧
 ((within x.2 (Int.ofNat ks.length) ∧
 (List.length (strZ ks x.2)).le (100000 : Nat) ∧
 (Int.ofNat (List.length (x.1.2 ++ quoteJ (strZ ks x.2))) ≤ maxRow ∧
 (Int.ofNat
 (List.length (x.1.2 ++ quoteJ (strZ ks x.2) ++ [zByte (58 : Int)])) ≤
 maxRow ∧
 within x.2 (lenZ ls) ∧
 eltV ls x.2 =
 PV.agg
 [PV.int .i64
 ((eltV ls x.2).part
 (0 : Nat)).asInt,
 PV.bool
 ((eltV ls x.2).part
 (1 : Nat)).asBool,
 PV.str
 ((eltV ls x.2).part
 (2 : Nat)).asStr,
 PV.row
 ((eltV ls x.2).part
 (3 : Nat)).asNil
 (BRow.strs
 ((eltV ls x.2).part
 (3 : Nat)).asStrs)
 (0 : Nat),
 PV.vec
 ((eltV ls x.2).part
 (4 : Nat)).asNil
 (nat_lit 5)
 ((eltV ls x.2).part
 (4 : Nat)).asVec
 (0 : Nat)] ∧
 (isJs
 ((eltV ls x.2).part
 (4 : Nat)).asVec ∧
 okJ m
 (JV.mk
 ((eltV ls x.2).part
 (0 : Nat)).asInt
 ((eltV ls x.2).part
 (1 : Nat)).asBool
 ((eltV ls x.2).part
 (2 : Nat)).asStr
 ((eltV ls x.2).part
 (3 : Nat)).asNil
 ((eltV ls x.2).part
 (3 : Nat)).asStrs
 ((eltV ls x.2).part
 (4 : Nat)).asNil
 (jdecs
 ((eltV ls x.2).part
 (4 : Nat)).asVec)) ∧
 shapeJ
 (JV.mk
 ((eltV ls x.2).part
 (0 : Nat)).asInt
 ((eltV ls x.2).part
 (1 : Nat)).asBool
 ((eltV ls x.2).part
 (2 : Nat)).asStr
 ((eltV ls x.2).part
 (3 : Nat)).asNil
 ((eltV ls x.2).part
 (3 : Nat)).asStrs
 ((eltV ls x.2).part
 (4 : Nat)).asNil
 (jdecs
 ((eltV ls x.2).part
 (4 : Nat)).asVec)) =
 true ∧
 sizeJ
 (JV.mk
 ((eltV ls x.2).part
 (0 : Nat)).asInt
 ((eltV ls x.2).part
 (1 : Nat)).asBool
 ((eltV ls x.2).part
 (2 : Nat)).asStr
 ((eltV ls x.2).part
 (3 : Nat)).asNil
 ((eltV ls x.2).part
 (3 : Nat)).asStrs
 ((eltV ls x.2).part
 (4 : Nat)).asNil
 (jdecs
 ((eltV ls x.2).part
 (4 : Nat)).asVec)) ≤
 (10000 : Nat)) ∧
 Int.ofNat
 (List.length
 (x.1.2 ++ quoteJ (strZ ks x.2) ++ [zByte (58 : Int)] ++
 textJ
 (JV.mk
 ((eltV ls x.2).part
 (0 : Nat)).asInt
 ((eltV ls x.2).part
 (1 : Nat)).asBool
 ((eltV ls x.2).part
 (2 : Nat)).asStr
 ((eltV ls x.2).part
 (3 : Nat)).asNil
 ((eltV ls x.2).part
 (3 : Nat)).asStrs
 ((eltV ls x.2).part
 (4 : Nat)).asNil
 (jdecs
 ((eltV ls x.2).part
 (4 : Nat)).asVec)))) ≤
 maxRow ∧
 inI64 (x.2 + (1 : Int)) ∧
 VS.mk []
 [(0,
 PV.agg
 [PV.int .i64 kd, PV.bool bv, PV.str sv,
 PV.row nk (BRow.strs ks) (0 : Nat),
 PV.vec nl (5 : Nat) ls (0 : Nat)]),
 (1, PV.ptr ((1 : Nat) + (32 : Nat)) (0 : Nat)),
 (2, PV.row true (BRow.bytes []) ((2 : Nat) + (32 : Nat))),
 (3, PV.undef), (4, PV.undef),
 ((5 : Nat),
 PV.row
 (bif
 List.rec true
 (fun (head : UInt8) (tail : List UInt8)
 (tail_ih : (fun (x : List UInt8) ↦ Bool) tail) ↦
 false)
 (textJ
 (JV.mk
 ((eltV ls x.2).part
 (0 : Nat)).asInt
 ((eltV ls x.2).part
 (1 : Nat)).asBool
 ((eltV ls x.2).part
 (2 : Nat)).asStr
 ((eltV ls x.2).part
 (3 : Nat)).asNil
 ((eltV ls x.2).part
 (3 : Nat)).asStrs
 ((eltV ls x.2).part
 (4 : Nat)).asNil
 (jdecs
 ((eltV ls x.2).part
 (4 : Nat)).asVec))) then
 false
 else false)
 (BRow.bytes
 (x.1.2 ++ quoteJ (strZ ks x.2) ++
 [zByte (58 : Int)] ++
 textJ
 (JV.mk
 ((eltV ls x.2).part
 (0 : Nat)).asInt
 ((eltV ls x.2).part
 (1 : Nat)).asBool
 ((eltV ls x.2).part
 (2 : Nat)).asStr
 ((eltV ls x.2).part
 (3 : Nat)).asNil
 ((eltV ls x.2).part
 (3 : Nat)).asStrs
 ((eltV ls x.2).part
 (4 : Nat)).asNil
 (jdecs
 ((eltV ls x.2).part
 (4 : Nat)).asVec))))
 (nat_lit 86 + (1 : Nat))),
 ((6 : Nat), PV.int .i64 (x.2 + (1 : Int))),
 (8, PV.int .i64 kd),
 (9, PV.bool (decide (kd = (1 : Int)))), (12, PV.undef),
 (17, PV.bool (decide (kd = (2 : Int)))),
 (22, PV.bool (decide (kd = (3 : Int)))),
 (27, PV.bool (decide (kd = (4 : Int)))), (34, PV.undef),
 (38, PV.undef), (53, PV.bool (decide (kd = (5 : Int)))),
 ((60 : Nat), PV.undef), ((64 : Nat), PV.undef)]
 [((1 : Nat) + (32 : Nat),
 PV.agg
 [PV.int .i64 kd, PV.bool bv, PV.str sv,
 PV.row nk (BRow.strs ks) (0 : Nat),
 PV.vec nl (5 : Nat) ls (0 : Nat)])] =
 VS.mk []
 [(0,
 PV.agg
 [PV.int .i64 kd, PV.bool bv, PV.str sv,
 PV.row nk (BRow.strs ks) (0 : Nat),
 PV.vec nl (5 : Nat) ls (0 : Nat)]),
 (1, PV.ptr ((1 : Nat) + (32 : Nat)) (0 : Nat)),
 (2, PV.row true (BRow.bytes []) ((2 : Nat) + (32 : Nat))),
 (3, PV.undef), (4, PV.undef),
 ((5 : Nat),
 PV.row
 (bif
 List.rec true
 (fun (head : UInt8) (tail : List UInt8)
 (tail_ih : (fun (x : List UInt8) ↦ Bool) tail) ↦
 false)
 (textJ
 (JV.mk
 ((eltV ls x.2).part
 (0 : Nat)).asInt
 ((eltV ls x.2).part
 (1 : Nat)).asBool
 ((eltV ls x.2).part
 (2 : Nat)).asStr
 ((eltV ls x.2).part
 (3 : Nat)).asNil
 ((eltV ls x.2).part
 (3 : Nat)).asStrs
 ((eltV ls x.2).part
 (4 : Nat)).asNil
 (jdecs
 ((eltV ls x.2).part
 (4 : Nat)).asVec))) then
 false
 else false)
 (BRow.bytes
 (x.1.2 ++ quoteJ (strZ ks x.2) ++
 [zByte (58 : Int)] ++
 textJ
 (JV.mk
 ((eltV ls x.2).part
 (0 : Nat)).asInt
 ((eltV ls x.2).part
 (1 : Nat)).asBool
 ((eltV ls x.2).part
 (2 : Nat)).asStr
 ((eltV ls x.2).part
 (3 : Nat)).asNil
 ((eltV ls x.2).part
 (3 : Nat)).asStrs
 ((eltV ls x.2).part
 (4 : Nat)).asNil
 (jdecs
 ((eltV ls x.2).part
 (4 : Nat)).asVec))))
 ((55 : Nat) + (32 : Nat))),
 ((6 : Nat), PV.int .i64 (x.2 + (1 : Int))),
 (8, PV.int .i64 kd),
 (9, PV.bool (decide (kd = (1 : Int)))), (12, PV.undef),
 (17, PV.bool (decide (kd = (2 : Int)))),
 (22, PV.bool (decide (kd = (3 : Int)))),
 (27, PV.bool (decide (kd = (4 : Int)))), (34, PV.undef),
 (38, PV.undef), (53, PV.bool (decide (kd = (5 : Int)))),
 ((60 : Nat), PV.undef), ((64 : Nat), PV.undef)]
 [((1 : Nat) + (32 : Nat),
 PV.agg
 [PV.int .i64 kd, PV.bool bv, PV.str sv,
 PV.row nk (BRow.strs ks) (0 : Nat),
 PV.vec nl (5 : Nat) ls (0 : Nat)])] ∧
 ((0 : Int) ≤ x.2 + (1 : Int) ∧
 x.2 + (1 : Int) ≤ ↑ls.length ∧
 (bif
 List.rec true
 (fun (head : UInt8) (tail : List UInt8)
 (tail_ih : (fun (x : List UInt8) ↦ Bool) tail) ↦
 false)
 (textJ
 (JV.mk
 ((eltV ls x.2).part
 (0 : Nat)).asInt
 ((eltV ls x.2).part
 (1 : Nat)).asBool
 ((eltV ls x.2).part
 (2 : Nat)).asStr
 ((eltV ls x.2).part
 (3 : Nat)).asNil
 ((eltV ls x.2).part
 (3 : Nat)).asStrs
 ((eltV ls x.2).part
 (4 : Nat)).asNil
 (jdecs
 ((eltV ls x.2).part
 (4 : Nat)).asVec))) then
 false
 else false) =
 false ∧
 x.1.2 ++ quoteJ (strZ ks x.2) ++
 [zByte (58 : Int)] ++
 textJ
 (JV.mk
 ((eltV ls x.2).part
 (0 : Nat)).asInt
 ((eltV ls x.2).part
 (1 : Nat)).asBool
 ((eltV ls x.2).part
 (2 : Nat)).asStr
 ((eltV ls x.2).part
 (3 : Nat)).asNil
 ((eltV ls x.2).part
 (3 : Nat)).asStrs
 ((eltV ls x.2).part
 (4 : Nat)).asNil
 (jdecs
 ((eltV ls x.2).part
 (4 : Nat)).asVec)) =
 (123 : UInt8) ::
 objJ true ks
 (List.take (x.2 + (1 : Int)).toNat (jdecs ls))) ∧
 (↑ls.length - (x.2 + (1 : Int))).toNat < (↑ls.length - x.2).toNat) ∧
 within x.2 (lenZ ls) ∧
 eltV ls x.2 =
 PV.agg
 [PV.int .i64
 ((eltV ls x.2).part
 (0 : Nat)).asInt,
 PV.bool
 ((eltV ls x.2).part
 (1 : Nat)).asBool,
 PV.str
 ((eltV ls x.2).part
 (2 : Nat)).asStr,
 PV.row
 ((eltV ls x.2).part
 (3 : Nat)).asNil
 (BRow.strs
 ((eltV ls x.2).part
 (3 : Nat)).asStrs)
 (0 : Nat),
 PV.vec
 ((eltV ls x.2).part
 (4 : Nat)).asNil
 (nat_lit 5)
 ((eltV ls x.2).part
 (4 : Nat)).asVec
 (0 : Nat)] ∧
 Int.ofNat
 (List.length
 (x.1.2 ++ quoteJ (strZ ks x.2) ++ [zByte (58 : Int)])) ≤
 maxRow ∧
 (isJs
 ((eltV ls x.2).part
 (4 : Nat)).asVec ∧
 okJ m
 (JV.mk
 ((eltV ls x.2).part
 (0 : Nat)).asInt
 ((eltV ls x.2).part
 (1 : Nat)).asBool
 ((eltV ls x.2).part
 (2 : Nat)).asStr
 ((eltV ls x.2).part
 (3 : Nat)).asNil
 ((eltV ls x.2).part
 (3 : Nat)).asStrs
 ((eltV ls x.2).part
 (4 : Nat)).asNil
 (jdecs
 ((eltV ls x.2).part
 (4 : Nat)).asVec)) ∧
 shapeJ
 (JV.mk
 ((eltV ls x.2).part
 (0 : Nat)).asInt
 ((eltV ls x.2).part
 (1 : Nat)).asBool
 ((eltV ls x.2).part
 (2 : Nat)).asStr
 ((eltV ls x.2).part
 (3 : Nat)).asNil
 ((eltV ls x.2).part
 (3 : Nat)).asStrs
 ((eltV ls x.2).part
 (4 : Nat)).asNil
 (jdecs
 ((eltV ls x.2).part
 (4 : Nat)).asVec)) =
 true ∧
 sizeJ
 (JV.mk
 ((eltV ls x.2).part
 (0 : Nat)).asInt
 ((eltV ls x.2).part
 (1 : Nat)).asBool
 ((eltV ls x.2).part
 (2 : Nat)).asStr
 ((eltV ls x.2).part
 (3 : Nat)).asNil
 ((eltV ls x.2).part
 (3 : Nat)).asStrs
 ((eltV ls x.2).part
 (4 : Nat)).asNil
 (jdecs
 ((eltV ls x.2).part
 (4 : Nat)).asVec)) ≤
 (10000 : Nat)) ∧
 Int.ofNat
 (List.length
 (x.1.2 ++ quoteJ (strZ ks x.2) ++ [zByte (58 : Int)] ++
 textJ
 (JV.mk
 ((eltV ls x.2).part
 (0 : Nat)).asInt
 ((eltV ls x.2).part
 (1 : Nat)).asBool
 ((eltV ls x.2).part
 (2 : Nat)).asStr
 ((eltV ls x.2).part
 (3 : Nat)).asNil
 ((eltV ls x.2).part
 (3 : Nat)).asStrs
 ((eltV ls x.2).part
 (4 : Nat)).asNil
 (jdecs
 ((eltV ls x.2).part
 (4 : Nat)).asVec)))) ≤
 maxRow ∧
 inI64 (x.2 + (1 : Int)) ∧
 VS.mk []
 [(0,
 PV.agg
 [PV.int .i64 kd, PV.bool bv, PV.str sv,
 PV.row nk (BRow.strs ks) (0 : Nat),
 PV.vec nl (5 : Nat) ls (0 : Nat)]),
 (1, PV.ptr ((1 : Nat) + (32 : Nat)) (0 : Nat)),
 (2, PV.row true (BRow.bytes []) ((2 : Nat) + (32 : Nat))),
 (3, PV.undef), (4, PV.undef),
 ((5 : Nat),
 PV.row
 (bif
 List.rec true
 (fun (head : UInt8) (tail : List UInt8)
 (tail_ih : (fun (x : List UInt8) ↦ Bool) tail) ↦
 false)
 (textJ
 (JV.mk
 ((eltV ls x.2).part
 (0 : Nat)).asInt
 ((eltV ls x.2).part
 (1 : Nat)).asBool
 ((eltV ls x.2).part
 (2 : Nat)).asStr
 ((eltV ls x.2).part
 (3 : Nat)).asNil
 ((eltV ls x.2).part
 (3 : Nat)).asStrs
 ((eltV ls x.2).part
 (4 : Nat)).asNil
 (jdecs
 ((eltV ls x.2).part
 (4 : Nat)).asVec))) then
 false
 else false)
 (BRow.bytes
 (x.1.2 ++ quoteJ (strZ ks x.2) ++
 [zByte (58 : Int)] ++
 textJ
 (JV.mk
 ((eltV ls x.2).part
 (0 : Nat)).asInt
 ((eltV ls x.2).part
 (1 : Nat)).asBool
 ((eltV ls x.2).part
 (2 : Nat)).asStr
 ((eltV ls x.2).part
 (3 : Nat)).asNil
 ((eltV ls x.2).part
 (3 : Nat)).asStrs
 ((eltV ls x.2).part
 (4 : Nat)).asNil
 (jdecs
 ((eltV ls x.2).part
 (4 : Nat)).asVec))))
 (nat_lit 86 + (1 : Nat))),
 ((6 : Nat), PV.int .i64 (x.2 + (1 : Int))),
 (8, PV.int .i64 kd),
 (9, PV.bool (decide (kd = (1 : Int)))), (12, PV.undef),
 (17, PV.bool (decide (kd = (2 : Int)))),
 (22, PV.bool (decide (kd = (3 : Int)))),
 (27, PV.bool (decide (kd = (4 : Int)))), (34, PV.undef),
 (38, PV.undef), (53, PV.bool (decide (kd = (5 : Int)))),
 ((60 : Nat), PV.undef), ((64 : Nat), PV.undef)]
 [((1 : Nat) + (32 : Nat),
 PV.agg
 [PV.int .i64 kd, PV.bool bv, PV.str sv,
 PV.row nk (BRow.strs ks) (0 : Nat),
 PV.vec nl (5 : Nat) ls (0 : Nat)])] =
 VS.mk []
 [(0,
 PV.agg
 [PV.int .i64 kd, PV.bool bv, PV.str sv,
 PV.row nk (BRow.strs ks) (0 : Nat),
 PV.vec nl (5 : Nat) ls (0 : Nat)]),
 (1, PV.ptr ((1 : Nat) + (32 : Nat)) (0 : Nat)),
 (2, PV.row true (BRow.bytes []) ((2 : Nat) + (32 : Nat))),
 (3, PV.undef), (4, PV.undef),
 ((5 : Nat),
 PV.row
 (bif
 List.rec true
 (fun (head : UInt8) (tail : List UInt8)
 (tail_ih : (fun (x : List UInt8) ↦ Bool) tail) ↦
 false)
 (textJ
 (JV.mk
 ((eltV ls x.2).part
 (0 : Nat)).asInt
 ((eltV ls x.2).part
 (1 : Nat)).asBool
 ((eltV ls x.2).part
 (2 : Nat)).asStr
 ((eltV ls x.2).part
 (3 : Nat)).asNil
 ((eltV ls x.2).part
 (3 : Nat)).asStrs
 ((eltV ls x.2).part
 (4 : Nat)).asNil
 (jdecs
 ((eltV ls x.2).part
 (4 : Nat)).asVec))) then
 false
 else false)
 (BRow.bytes
 (x.1.2 ++ quoteJ (strZ ks x.2) ++
 [zByte (58 : Int)] ++
 textJ
 (JV.mk
 ((eltV ls x.2).part
 (0 : Nat)).asInt
 ((eltV ls x.2).part
 (1 : Nat)).asBool
 ((eltV ls x.2).part
 (2 : Nat)).asStr
 ((eltV ls x.2).part
 (3 : Nat)).asNil
 ((eltV ls x.2).part
 (3 : Nat)).asStrs
 ((eltV ls x.2).part
 (4 : Nat)).asNil
 (jdecs
 ((eltV ls x.2).part
 (4 : Nat)).asVec))))
 ((55 : Nat) + (32 : Nat))),
 ((6 : Nat), PV.int .i64 (x.2 + (1 : Int))),
 (8, PV.int .i64 kd),
 (9, PV.bool (decide (kd = (1 : Int)))), (12, PV.undef),
 (17, PV.bool (decide (kd = (2 : Int)))),
 (22, PV.bool (decide (kd = (3 : Int)))),
 (27, PV.bool (decide (kd = (4 : Int)))), (34, PV.undef),
 (38, PV.undef), (53, PV.bool (decide (kd = (5 : Int)))),
 ((60 : Nat), PV.undef), ((64 : Nat), PV.undef)]
 [((1 : Nat) + (32 : Nat),
 PV.agg
 [PV.int .i64 kd, PV.bool bv, PV.str sv,
 PV.row nk (BRow.strs ks) (0 : Nat),
 PV.vec nl (5 : Nat) ls (0 : Nat)])] ∧
 ((0 : Int) ≤ x.2 + (1 : Int) ∧
 x.2 + (1 : Int) ≤ ↑ls.length ∧
 (bif
 List.rec true
 (fun (head : UInt8) (tail : List UInt8)
 (tail_ih : (fun (x : List UInt8) ↦ Bool) tail) ↦
 false)
 (textJ
 (JV.mk
 ((eltV ls x.2).part
 (0 : Nat)).asInt
 ((eltV ls x.2).part
 (1 : Nat)).asBool
 ((eltV ls x.2).part
 (2 : Nat)).asStr
 ((eltV ls x.2).part
 (3 : Nat)).asNil
 ((eltV ls x.2).part
 (3 : Nat)).asStrs
 ((eltV ls x.2).part
 (4 : Nat)).asNil
 (jdecs
 ((eltV ls x.2).part
 (4 : Nat)).asVec))) then
 false
 else false) =
 false ∧
 x.1.2 ++ quoteJ (strZ ks x.2) ++
 [zByte (58 : Int)] ++
 textJ
 (JV.mk
 ((eltV ls x.2).part
 (0 : Nat)).asInt
 ((eltV ls x.2).part
 (1 : Nat)).asBool
 ((eltV ls x.2).part
 (2 : Nat)).asStr
 ((eltV ls x.2).part
 (3 : Nat)).asNil
 ((eltV ls x.2).part
 (3 : Nat)).asStrs
 ((eltV ls x.2).part
 (4 : Nat)).asNil
 (jdecs
 ((eltV ls x.2).part
 (4 : Nat)).asVec)) =
 (123 : UInt8) ::
 objJ true ks
 (List.take (x.2 + (1 : Int)).toNat (jdecs ls))) ∧
 (↑ls.length - (x.2 + (1 : Int))).toNat < (↑ls.length - x.2).toNat) ∧
 within x.2 (lenZ ls) ∧
 eltV ls x.2 =
 PV.agg
 [PV.int .i64
 ((eltV ls x.2).part (0 : Nat)).asInt,
 PV.bool
 ((eltV ls x.2).part
 (1 : Nat)).asBool,
 PV.str
 ((eltV ls x.2).part
 (2 : Nat)).asStr,
 PV.row
 ((eltV ls x.2).part
 (3 : Nat)).asNil
 (BRow.strs
 ((eltV ls x.2).part
 (3 : Nat)).asStrs)
 (0 : Nat),
 PV.vec
 ((eltV ls x.2).part
 (4 : Nat)).asNil
 (nat_lit 5)
 ((eltV ls x.2).part
 (4 : Nat)).asVec
 (0 : Nat)] ∧
 Int.ofNat (List.length (x.1.2 ++ quoteJ (strZ ks x.2))) ≤ maxRow ∧
 Int.ofNat
 (List.length
 (x.1.2 ++ quoteJ (strZ ks x.2) ++ [zByte (58 : Int)])) ≤
 maxRow ∧
 (isJs
 ((eltV ls x.2).part
 (4 : Nat)).asVec ∧
 okJ m
 (JV.mk
 ((eltV ls x.2).part
 (0 : Nat)).asInt
 ((eltV ls x.2).part
 (1 : Nat)).asBool
 ((eltV ls x.2).part
 (2 : Nat)).asStr
 ((eltV ls x.2).part
 (3 : Nat)).asNil
 ((eltV ls x.2).part
 (3 : Nat)).asStrs
 ((eltV ls x.2).part
 (4 : Nat)).asNil
 (jdecs
 ((eltV ls x.2).part
 (4 : Nat)).asVec)) ∧
 shapeJ
 (JV.mk
 ((eltV ls x.2).part
 (0 : Nat)).asInt
 ((eltV ls x.2).part
 (1 : Nat)).asBool
 ((eltV ls x.2).part
 (2 : Nat)).asStr
 ((eltV ls x.2).part
 (3 : Nat)).asNil
 ((eltV ls x.2).part
 (3 : Nat)).asStrs
 ((eltV ls x.2).part
 (4 : Nat)).asNil
 (jdecs
 ((eltV ls x.2).part
 (4 : Nat)).asVec)) =
 true ∧
 sizeJ
 (JV.mk
 ((eltV ls x.2).part
 (0 : Nat)).asInt
 ((eltV ls x.2).part
 (1 : Nat)).asBool
 ((eltV ls x.2).part
 (2 : Nat)).asStr
 ((eltV ls x.2).part
 (3 : Nat)).asNil
 ((eltV ls x.2).part
 (3 : Nat)).asStrs
 ((eltV ls x.2).part
 (4 : Nat)).asNil
 (jdecs
 ((eltV ls x.2).part
 (4 : Nat)).asVec)) ≤
 (10000 : Nat)) ∧
 Int.ofNat
 (List.length
 (x.1.2 ++ quoteJ (strZ ks x.2) ++ [zByte (58 : Int)] ++
 textJ
 (JV.mk
 ((eltV ls x.2).part
 (0 : Nat)).asInt
 ((eltV ls x.2).part
 (1 : Nat)).asBool
 ((eltV ls x.2).part
 (2 : Nat)).asStr
 ((eltV ls x.2).part
 (3 : Nat)).asNil
 ((eltV ls x.2).part
 (3 : Nat)).asStrs
 ((eltV ls x.2).part
 (4 : Nat)).asNil
 (jdecs
 ((eltV ls x.2).part
 (4 : Nat)).asVec)))) ≤
 maxRow ∧
 inI64 (x.2 + (1 : Int)) ∧
 VS.mk []
 [(0,
 PV.agg
 [PV.int .i64 kd, PV.bool bv, PV.str sv,
 PV.row nk (BRow.strs ks) (0 : Nat),
 PV.vec nl (5 : Nat) ls (0 : Nat)]),
 (1, PV.ptr ((1 : Nat) + (32 : Nat)) (0 : Nat)),
 (2, PV.row true (BRow.bytes []) ((2 : Nat) + (32 : Nat))),
 (3, PV.undef), (4, PV.undef),
 ((5 : Nat),
 PV.row
 (bif
 List.rec true
 (fun (head : UInt8) (tail : List UInt8)
 (tail_ih : (fun (x : List UInt8) ↦ Bool) tail) ↦
 false)
 (textJ
 (JV.mk
 ((eltV ls x.2).part
 (0 : Nat)).asInt
 ((eltV ls x.2).part
 (1 : Nat)).asBool
 ((eltV ls x.2).part
 (2 : Nat)).asStr
 ((eltV ls x.2).part
 (3 : Nat)).asNil
 ((eltV ls x.2).part
 (3 : Nat)).asStrs
 ((eltV ls x.2).part
 (4 : Nat)).asNil
 (jdecs
 ((eltV ls x.2).part
 (4 : Nat)).asVec))) then
 false
 else false)
 (BRow.bytes
 (x.1.2 ++ quoteJ (strZ ks x.2) ++
 [zByte (58 : Int)] ++
 textJ
 (JV.mk
 ((eltV ls x.2).part
 (0 : Nat)).asInt
 ((eltV ls x.2).part
 (1 : Nat)).asBool
 ((eltV ls x.2).part
 (2 : Nat)).asStr
 ((eltV ls x.2).part
 (3 : Nat)).asNil
 ((eltV ls x.2).part
 (3 : Nat)).asStrs
 ((eltV ls x.2).part
 (4 : Nat)).asNil
 (jdecs
 ((eltV ls x.2).part
 (4 : Nat)).asVec))))
 (nat_lit 86 + (1 : Nat))),
 ((6 : Nat), PV.int .i64 (x.2 + (1 : Int))),
 (8, PV.int .i64 kd),
 (9, PV.bool (decide (kd = (1 : Int)))), (12, PV.undef),
 (17, PV.bool (decide (kd = (2 : Int)))),
 (22, PV.bool (decide (kd = (3 : Int)))),
 (27, PV.bool (decide (kd = (4 : Int)))), (34, PV.undef),
 (38, PV.undef), (53, PV.bool (decide (kd = (5 : Int)))),
 ((60 : Nat), PV.undef), ((64 : Nat), PV.undef)]
 [((1 : Nat) + (32 : Nat),
 PV.agg
 [PV.int .i64 kd, PV.bool bv, PV.str sv,
 PV.row nk (BRow.strs ks) (0 : Nat),
 PV.vec nl (5 : Nat) ls (0 : Nat)])] =
 VS.mk []
 [(0,
 PV.agg
 [PV.int .i64 kd, PV.bool bv, PV.str sv,
 PV.row nk (BRow.strs ks) (0 : Nat),
 PV.vec nl (5 : Nat) ls (0 : Nat)]),
 (1, PV.ptr ((1 : Nat) + (32 : Nat)) (0 : Nat)),
 (2, PV.row true (BRow.bytes []) ((2 : Nat) + (32 : Nat))),
 (3, PV.undef), (4, PV.undef),
 ((5 : Nat),
 PV.row
 (bif
 List.rec true
 (fun (head : UInt8) (tail : List UInt8)
 (tail_ih : (fun (x : List UInt8) ↦ Bool) tail) ↦
 false)
 (textJ
 (JV.mk
 ((eltV ls x.2).part
 (0 : Nat)).asInt
 ((eltV ls x.2).part
 (1 : Nat)).asBool
 ((eltV ls x.2).part
 (2 : Nat)).asStr
 ((eltV ls x.2).part
 (3 : Nat)).asNil
 ((eltV ls x.2).part
 (3 : Nat)).asStrs
 ((eltV ls x.2).part
 (4 : Nat)).asNil
 (jdecs
 ((eltV ls x.2).part
 (4 : Nat)).asVec))) then
 false
 else false)
 (BRow.bytes
 (x.1.2 ++ quoteJ (strZ ks x.2) ++
 [zByte (58 : Int)] ++
 textJ
 (JV.mk
 ((eltV ls x.2).part
 (0 : Nat)).asInt
 ((eltV ls x.2).part
 (1 : Nat)).asBool
 ((eltV ls x.2).part
 (2 : Nat)).asStr
 ((eltV ls x.2).part
 (3 : Nat)).asNil
 ((eltV ls x.2).part
 (3 : Nat)).asStrs
 ((eltV ls x.2).part
 (4 : Nat)).asNil
 (jdecs
 ((eltV ls x.2).part
 (4 : Nat)).asVec))))
 ((55 : Nat) + (32 : Nat))),
 ((6 : Nat), PV.int .i64 (x.2 + (1 : Int))),
 (8, PV.int .i64 kd),
 (9, PV.bool (decide (kd = (1 : Int)))), (12, PV.undef),
 (17, PV.bool (decide (kd = (2 : Int)))),
 (22, PV.bool (decide (kd = (3 : Int)))),
 (27, PV.bool (decide (kd = (4 : Int)))), (34, PV.undef),
 (38, PV.undef), (53, PV.bool (decide (kd = (5 : Int)))),
 ((60 : Nat), PV.undef), ((64 : Nat), PV.undef)]
 [((1 : Nat) + (32 : Nat),
 PV.agg
 [PV.int .i64 kd, PV.bool bv, PV.str sv,
 PV.row nk (BRow.strs ks) (0 : Nat),
 PV.vec nl (5 : Nat) ls (0 : Nat)])] ∧
 ((0 : Int) ≤ x.2 + (1 : Int) ∧
 x.2 + (1 : Int) ≤ ↑ls.length ∧
 (bif
 List.rec true
 (fun (head : UInt8) (tail : List UInt8)
 (tail_ih : (fun (x : List UInt8) ↦ Bool) tail) ↦
 false)
 (textJ
 (JV.mk
 ((eltV ls x.2).part
 (0 : Nat)).asInt
 ((eltV ls x.2).part
 (1 : Nat)).asBool
 ((eltV ls x.2).part
 (2 : Nat)).asStr
 ((eltV ls x.2).part
 (3 : Nat)).asNil
 ((eltV ls x.2).part
 (3 : Nat)).asStrs
 ((eltV ls x.2).part
 (4 : Nat)).asNil
 (jdecs
 ((eltV ls x.2).part
 (4 : Nat)).asVec))) then
 false
 else false) =
 false ∧
 x.1.2 ++ quoteJ (strZ ks x.2) ++ [zByte (58 : Int)] ++
 textJ
 (JV.mk
 ((eltV ls x.2).part
 (0 : Nat)).asInt
 ((eltV ls x.2).part
 (1 : Nat)).asBool
 ((eltV ls x.2).part
 (2 : Nat)).asStr
 ((eltV ls x.2).part
 (3 : Nat)).asNil
 ((eltV ls x.2).part
 (3 : Nat)).asStrs
 ((eltV ls x.2).part
 (4 : Nat)).asNil
 (jdecs
 ((eltV ls x.2).part
 (4 : Nat)).asVec)) =
 (123 : UInt8) ::
 objJ true ks
 (List.take (x.2 + (1 : Int)).toNat (jdecs ls))) ∧
 (↑ls.length - (x.2 + (1 : Int))).toNat < (↑ls.length - x.2).toNat) ∧
 within x.2 (lenZ ls) ∧
 eltV ls x.2 =
 PV.agg
 [PV.int .i64
 ((eltV ls x.2).part (0 : Nat)).asInt,
 PV.bool
 ((eltV ls x.2).part
 (1 : Nat)).asBool,
 PV.str
 ((eltV ls x.2).part
 (2 : Nat)).asStr,
 PV.row
 ((eltV ls x.2).part
 (3 : Nat)).asNil
 (BRow.strs
 ((eltV ls x.2).part
 (3 : Nat)).asStrs)
 (0 : Nat),
 PV.vec
 ((eltV ls x.2).part
 (4 : Nat)).asNil
 (nat_lit 5)
 ((eltV ls x.2).part
 (4 : Nat)).asVec
 (0 : Nat)] ∧
 within x.2 (Int.ofNat ks.length) ∧
 (List.length (strZ ks x.2)).le (100000 : Nat) ∧
 Int.ofNat (List.length (x.1.2 ++ quoteJ (strZ ks x.2))) ≤ maxRow ∧
 Int.ofNat
 (List.length (x.1.2 ++ quoteJ (strZ ks x.2) ++ [zByte (58 : Int)])) ≤
 maxRow ∧
 (isJs
 ((eltV ls x.2).part
 (4 : Nat)).asVec ∧
 okJ m
 (JV.mk
 ((eltV ls x.2).part
 (0 : Nat)).asInt
 ((eltV ls x.2).part
 (1 : Nat)).asBool
 ((eltV ls x.2).part
 (2 : Nat)).asStr
 ((eltV ls x.2).part
 (3 : Nat)).asNil
 ((eltV ls x.2).part
 (3 : Nat)).asStrs
 ((eltV ls x.2).part
 (4 : Nat)).asNil
 (jdecs
 ((eltV ls x.2).part
 (4 : Nat)).asVec)) ∧
 shapeJ
 (JV.mk
 ((eltV ls x.2).part
 (0 : Nat)).asInt
 ((eltV ls x.2).part
 (1 : Nat)).asBool
 ((eltV ls x.2).part
 (2 : Nat)).asStr
 ((eltV ls x.2).part
 (3 : Nat)).asNil
 ((eltV ls x.2).part
 (3 : Nat)).asStrs
 ((eltV ls x.2).part
 (4 : Nat)).asNil
 (jdecs
 ((eltV ls x.2).part
 (4 : Nat)).asVec)) =
 true ∧
 sizeJ
 (JV.mk
 ((eltV ls x.2).part
 (0 : Nat)).asInt
 ((eltV ls x.2).part
 (1 : Nat)).asBool
 ((eltV ls x.2).part
 (2 : Nat)).asStr
 ((eltV ls x.2).part
 (3 : Nat)).asNil
 ((eltV ls x.2).part
 (3 : Nat)).asStrs
 ((eltV ls x.2).part
 (4 : Nat)).asNil
 (jdecs
 ((eltV ls x.2).part
 (4 : Nat)).asVec)) ≤
 (10000 : Nat)) ∧
 Int.ofNat
 (List.length
 (x.1.2 ++ quoteJ (strZ ks x.2) ++ [zByte (58 : Int)] ++
 textJ
 (JV.mk
 ((eltV ls x.2).part
 (0 : Nat)).asInt
 ((eltV ls x.2).part
 (1 : Nat)).asBool
 ((eltV ls x.2).part
 (2 : Nat)).asStr
 ((eltV ls x.2).part
 (3 : Nat)).asNil
 ((eltV ls x.2).part
 (3 : Nat)).asStrs
 ((eltV ls x.2).part
 (4 : Nat)).asNil
 (jdecs
 ((eltV ls x.2).part
 (4 : Nat)).asVec)))) ≤
 maxRow ∧
 inI64 (x.2 + (1 : Int)) ∧
 VS.mk []
 [(0,
 PV.agg
 [PV.int .i64 kd, PV.bool bv, PV.str sv,
 PV.row nk (BRow.strs ks) (0 : Nat),
 PV.vec nl (5 : Nat) ls (0 : Nat)]),
 (1, PV.ptr ((1 : Nat) + (32 : Nat)) (0 : Nat)),
 (2, PV.row true (BRow.bytes []) ((2 : Nat) + (32 : Nat))),
 (3, PV.undef), (4, PV.undef),
 ((5 : Nat),
 PV.row
 (bif
 List.rec true
 (fun (head : UInt8) (tail : List UInt8)
 (tail_ih : (fun (x : List UInt8) ↦ Bool) tail) ↦
 false)
 (textJ
 (JV.mk
 ((eltV ls x.2).part
 (0 : Nat)).asInt
 ((eltV ls x.2).part
 (1 : Nat)).asBool
 ((eltV ls x.2).part
 (2 : Nat)).asStr
 ((eltV ls x.2).part
 (3 : Nat)).asNil
 ((eltV ls x.2).part
 (3 : Nat)).asStrs
 ((eltV ls x.2).part
 (4 : Nat)).asNil
 (jdecs
 ((eltV ls x.2).part
 (4 : Nat)).asVec))) then
 false
 else false)
 (BRow.bytes
 (x.1.2 ++ quoteJ (strZ ks x.2) ++
 [zByte (58 : Int)] ++
 textJ
 (JV.mk
 ((eltV ls x.2).part
 (0 : Nat)).asInt
 ((eltV ls x.2).part
 (1 : Nat)).asBool
 ((eltV ls x.2).part
 (2 : Nat)).asStr
 ((eltV ls x.2).part
 (3 : Nat)).asNil
 ((eltV ls x.2).part
 (3 : Nat)).asStrs
 ((eltV ls x.2).part
 (4 : Nat)).asNil
 (jdecs
 ((eltV ls x.2).part
 (4 : Nat)).asVec))))
 (nat_lit 86 + (1 : Nat))),
 ((6 : Nat), PV.int .i64 (x.2 + (1 : Int))),
 (8, PV.int .i64 kd),
 (9, PV.bool (decide (kd = (1 : Int)))), (12, PV.undef),
 (17, PV.bool (decide (kd = (2 : Int)))),
 (22, PV.bool (decide (kd = (3 : Int)))),
 (27, PV.bool (decide (kd = (4 : Int)))), (34, PV.undef),
 (38, PV.undef), (53, PV.bool (decide (kd = (5 : Int)))),
 ((60 : Nat), PV.undef), ((64 : Nat), PV.undef)]
 [((1 : Nat) + (32 : Nat),
 PV.agg
 [PV.int .i64 kd, PV.bool bv, PV.str sv,
 PV.row nk (BRow.strs ks) (0 : Nat),
 PV.vec nl (5 : Nat) ls (0 : Nat)])] =
 VS.mk []
 [(0,
 PV.agg
 [PV.int .i64 kd, PV.bool bv, PV.str sv,
 PV.row nk (BRow.strs ks) (0 : Nat),
 PV.vec nl (5 : Nat) ls (0 : Nat)]),
 (1, PV.ptr ((1 : Nat) + (32 : Nat)) (0 : Nat)),
 (2, PV.row true (BRow.bytes []) ((2 : Nat) + (32 : Nat))),
 (3, PV.undef), (4, PV.undef),
 ((5 : Nat),
 PV.row
 (bif
 List.rec true
 (fun (head : UInt8) (tail : List UInt8)
 (tail_ih : (fun (x : List UInt8) ↦ Bool) tail) ↦
 false)
 (textJ
 (JV.mk
 ((eltV ls x.2).part
 (0 : Nat)).asInt
 ((eltV ls x.2).part
 (1 : Nat)).asBool
 ((eltV ls x.2).part
 (2 : Nat)).asStr
 ((eltV ls x.2).part
 (3 : Nat)).asNil
 ((eltV ls x.2).part
 (3 : Nat)).asStrs
 ((eltV ls x.2).part
 (4 : Nat)).asNil
 (jdecs
 ((eltV ls x.2).part
 (4 : Nat)).asVec))) then
 false
 else false)
 (BRow.bytes
 (x.1.2 ++ quoteJ (strZ ks x.2) ++
 [zByte (58 : Int)] ++
 textJ
 (JV.mk
 ((eltV ls x.2).part
 (0 : Nat)).asInt
 ((eltV ls x.2).part
 (1 : Nat)).asBool
 ((eltV ls x.2).part
 (2 : Nat)).asStr
 ((eltV ls x.2).part
 (3 : Nat)).asNil
 ((eltV ls x.2).part
 (3 : Nat)).asStrs
 ((eltV ls x.2).part
 (4 : Nat)).asNil
 (jdecs
 ((eltV ls x.2).part
 (4 : Nat)).asVec))))
 ((55 : Nat) + (32 : Nat))),
 ((6 : Nat), PV.int .i64 (x.2 + (1 : Int))),
 (8, PV.int .i64 kd),
 (9, PV.bool (decide (kd = (1 : Int)))), (12, PV.undef),
 (17, PV.bool (decide (kd = (2 : Int)))),
 (22, PV.bool (decide (kd = (3 : Int)))),
 (27, PV.bool (decide (kd = (4 : Int)))), (34, PV.undef),
 (38, PV.undef), (53, PV.bool (decide (kd = (5 : Int)))),
 ((60 : Nat), PV.undef), ((64 : Nat), PV.undef)]
 [((1 : Nat) + (32 : Nat),
 PV.agg
 [PV.int .i64 kd, PV.bool bv, PV.str sv,
 PV.row nk (BRow.strs ks) (0 : Nat),
 PV.vec nl (5 : Nat) ls (0 : Nat)])] ∧
 ((0 : Int) ≤ x.2 + (1 : Int) ∧
 x.2 + (1 : Int) ≤ ↑ls.length ∧
 (bif
 List.rec true
 (fun (head : UInt8) (tail : List UInt8)
 (tail_ih : (fun (x : List UInt8) ↦ Bool) tail) ↦
 false)
 (textJ
 (JV.mk
 ((eltV ls x.2).part
 (0 : Nat)).asInt
 ((eltV ls x.2).part
 (1 : Nat)).asBool
 ((eltV ls x.2).part
 (2 : Nat)).asStr
 ((eltV ls x.2).part
 (3 : Nat)).asNil
 ((eltV ls x.2).part
 (3 : Nat)).asStrs
 ((eltV ls x.2).part
 (4 : Nat)).asNil
 (jdecs
 ((eltV ls x.2).part
 (4 : Nat)).asVec))) then
 false
 else false) =
 false ∧
 x.1.2 ++ quoteJ (strZ ks x.2) ++ [zByte (58 : Int)] ++
 textJ
 (JV.mk
 ((eltV ls x.2).part
 (0 : Nat)).asInt
 ((eltV ls x.2).part
 (1 : Nat)).asBool
 ((eltV ls x.2).part
 (2 : Nat)).asStr
 ((eltV ls x.2).part
 (3 : Nat)).asNil
 ((eltV ls x.2).part
 (3 : Nat)).asStrs
 ((eltV ls x.2).part
 (4 : Nat)).asNil
 (jdecs
 ((eltV ls x.2).part
 (4 : Nat)).asVec)) =
 (123 : UInt8) ::
 objJ true ks
 (List.take (x.2 + (1 : Int)).toNat (jdecs ls))) ∧
 (↑ls.length - (x.2 + (1 : Int))).toNat < (↑ls.length - x.2).toNat) ∧
 (within x.2 (Int.ofNat ks.length) ∧
 (List.length (strZ ks x.2)).le (100000 : Nat) ∧
 ((Int.ofNat (List.length (x.1.2 ++ quoteJ (strZ ks x.2))) ≤ maxRow ∧
 (Int.ofNat
 (List.length
 (x.1.2 ++ quoteJ (strZ ks x.2) ++ [zByte (58 : Int)])) ≤
 maxRow ∧
 within x.2 (lenZ ls) ∧
 eltV ls x.2 =
 PV.agg
 [PV.int .i64
 ((eltV ls x.2).part
 (0 : Nat)).asInt,
 PV.bool
 ((eltV ls x.2).part
 (1 : Nat)).asBool,
 PV.str
 ((eltV ls x.2).part
 (2 : Nat)).asStr,
 PV.row
 ((eltV ls x.2).part
 (3 : Nat)).asNil
 (BRow.strs
 ((eltV ls x.2).part
 (3 : Nat)).asStrs)
 (0 : Nat),
 PV.vec
 ((eltV ls x.2).part
 (4 : Nat)).asNil
 (nat_lit 5)
 ((eltV ls x.2).part
 (4 : Nat)).asVec
 (0 : Nat)] ∧
 (isJs
 ((eltV ls x.2).part
 (4 : Nat)).asVec ∧
 okJ m
 (JV.mk
 ((eltV ls x.2).part
 (0 : Nat)).asInt
 ((eltV ls x.2).part
 (1 : Nat)).asBool
 ((eltV ls x.2).part
 (2 : Nat)).asStr
 ((eltV ls x.2).part
 (3 : Nat)).asNil
 ((eltV ls x.2).part
 (3 : Nat)).asStrs
 ((eltV ls x.2).part
 (4 : Nat)).asNil
 (jdecs
 ((eltV ls x.2).part
 (4 : Nat)).asVec)) ∧
 shapeJ
 (JV.mk
 ((eltV ls x.2).part
 (0 : Nat)).asInt
 ((eltV ls x.2).part
 (1 : Nat)).asBool
 ((eltV ls x.2).part
 (2 : Nat)).asStr
 ((eltV ls x.2).part
 (3 : Nat)).asNil
 ((eltV ls x.2).part
 (3 : Nat)).asStrs
 ((eltV ls x.2).part
 (4 : Nat)).asNil
 (jdecs
 ((eltV ls x.2).part
 (4 : Nat)).asVec)) =
 true ∧
 sizeJ
 (JV.mk
 ((eltV ls x.2).part
 (0 : Nat)).asInt
 ((eltV ls x.2).part
 (1 : Nat)).asBool
 ((eltV ls x.2).part
 (2 : Nat)).asStr
 ((eltV ls x.2).part
 (3 : Nat)).asNil
 ((eltV ls x.2).part
 (3 : Nat)).asStrs
 ((eltV ls x.2).part
 (4 : Nat)).asNil
 (jdecs
 ((eltV ls x.2).part
 (4 : Nat)).asVec)) ≤
 (10000 : Nat)) ∧
 Int.ofNat
 (List.length
 (x.1.2 ++ quoteJ (strZ ks x.2) ++ [zByte (58 : Int)] ++
 textJ
 (JV.mk
 ((eltV ls x.2).part
 (0 : Nat)).asInt
 ((eltV ls x.2).part
 (1 : Nat)).asBool
 ((eltV ls x.2).part
 (2 : Nat)).asStr
 ((eltV ls x.2).part
 (3 : Nat)).asNil
 ((eltV ls x.2).part
 (3 : Nat)).asStrs
 ((eltV ls x.2).part
 (4 : Nat)).asNil
 (jdecs
 ((eltV ls x.2).part
 (4 : Nat)).asVec)))) ≤
 maxRow ∧
 inI64 (x.2 + (1 : Int)) ∧
 VS.mk []
 [(0,
 PV.agg
 [PV.int .i64 kd, PV.bool bv, PV.str sv,
 PV.row nk (BRow.strs ks) (0 : Nat),
 PV.vec nl (5 : Nat) ls (0 : Nat)]),
 (1, PV.ptr ((1 : Nat) + (32 : Nat)) (0 : Nat)),
 (2, PV.row true (BRow.bytes []) ((2 : Nat) + (32 : Nat))),
 (3, PV.undef), (4, PV.undef),
 ((5 : Nat),
 PV.row
 (bif
 List.rec true
 (fun (head : UInt8) (tail : List UInt8)
 (tail_ih : (fun (x : List UInt8) ↦ Bool) tail) ↦
 false)
 (textJ
 (JV.mk
 ((eltV ls x.2).part
 (0 : Nat)).asInt
 ((eltV ls x.2).part
 (1 : Nat)).asBool
 ((eltV ls x.2).part
 (2 : Nat)).asStr
 ((eltV ls x.2).part
 (3 : Nat)).asNil
 ((eltV ls x.2).part
 (3 : Nat)).asStrs
 ((eltV ls x.2).part
 (4 : Nat)).asNil
 (jdecs
 ((eltV ls x.2).part
 (4 : Nat)).asVec))) then
 false
 else false)
 (BRow.bytes
 (x.1.2 ++ quoteJ (strZ ks x.2) ++
 [zByte (58 : Int)] ++
 textJ
 (JV.mk
 ((eltV ls x.2).part
 (0 : Nat)).asInt
 ((eltV ls x.2).part
 (1 : Nat)).asBool
 ((eltV ls x.2).part
 (2 : Nat)).asStr
 ((eltV ls x.2).part
 (3 : Nat)).asNil
 ((eltV ls x.2).part
 (3 : Nat)).asStrs
 ((eltV ls x.2).part
 (4 : Nat)).asNil
 (jdecs
 ((eltV ls x.2).part
 (4 : Nat)).asVec))))
 (nat_lit 86 + (1 : Nat))),
 ((6 : Nat), PV.int .i64 (x.2 + (1 : Int))),
 (8, PV.int .i64 kd),
 (9, PV.bool (decide (kd = (1 : Int)))), (12, PV.undef),
 (17, PV.bool (decide (kd = (2 : Int)))),
 (22, PV.bool (decide (kd = (3 : Int)))),
 (27, PV.bool (decide (kd = (4 : Int)))), (34, PV.undef),
 (38, PV.undef), (53, PV.bool (decide (kd = (5 : Int)))),
 ((60 : Nat), PV.undef), ((64 : Nat), PV.undef)]
 [((1 : Nat) + (32 : Nat),
 PV.agg
 [PV.int .i64 kd, PV.bool bv, PV.str sv,
 PV.row nk (BRow.strs ks) (0 : Nat),
 PV.vec nl (5 : Nat) ls (0 : Nat)])] =
 VS.mk []
 [(0,
 PV.agg
 [PV.int .i64 kd, PV.bool bv, PV.str sv,
 PV.row nk (BRow.strs ks) (0 : Nat),
 PV.vec nl (5 : Nat) ls (0 : Nat)]),
 (1, PV.ptr ((1 : Nat) + (32 : Nat)) (0 : Nat)),
 (2, PV.row true (BRow.bytes []) ((2 : Nat) + (32 : Nat))),
 (3, PV.undef), (4, PV.undef),
 ((5 : Nat),
 PV.row
 (bif
 List.rec true
 (fun (head : UInt8) (tail : List UInt8)
 (tail_ih : (fun (x : List UInt8) ↦ Bool) tail) ↦
 false)
 (textJ
 (JV.mk
 ((eltV ls x.2).part
 (0 : Nat)).asInt
 ((eltV ls x.2).part
 (1 : Nat)).asBool
 ((eltV ls x.2).part
 (2 : Nat)).asStr
 ((eltV ls x.2).part
 (3 : Nat)).asNil
 ((eltV ls x.2).part
 (3 : Nat)).asStrs
 ((eltV ls x.2).part
 (4 : Nat)).asNil
 (jdecs
 ((eltV ls x.2).part
 (4 : Nat)).asVec))) then
 false
 else false)
 (BRow.bytes
 (x.1.2 ++ quoteJ (strZ ks x.2) ++
 [zByte (58 : Int)] ++
 textJ
 (JV.mk
 ((eltV ls x.2).part
 (0 : Nat)).asInt
 ((eltV ls x.2).part
 (1 : Nat)).asBool
 ((eltV ls x.2).part
 (2 : Nat)).asStr
 ((eltV ls x.2).part
 (3 : Nat)).asNil
 ((eltV ls x.2).part
 (3 : Nat)).asStrs
 ((eltV ls x.2).part
 (4 : Nat)).asNil
 (jdecs
 ((eltV ls x.2).part
 (4 : Nat)).asVec))))
 ((55 : Nat) + (32 : Nat))),
 ((6 : Nat), PV.int .i64 (x.2 + (1 : Int))),
 (8, PV.int .i64 kd),
 (9, PV.bool (decide (kd = (1 : Int)))), (12, PV.undef),
 (17, PV.bool (decide (kd = (2 : Int)))),
 (22, PV.bool (decide (kd = (3 : Int)))),
 (27, PV.bool (decide (kd = (4 : Int)))), (34, PV.undef),
 (38, PV.undef), (53, PV.bool (decide (kd = (5 : Int)))),
 ((60 : Nat), PV.undef), ((64 : Nat), PV.undef)]
 [((1 : Nat) + (32 : Nat),
 PV.agg
 [PV.int .i64 kd, PV.bool bv, PV.str sv,
 PV.row nk (BRow.strs ks) (0 : Nat),
 PV.vec nl (5 : Nat) ls (0 : Nat)])] ∧
 ((0 : Int) ≤ x.2 + (1 : Int) ∧
 x.2 + (1 : Int) ≤ ↑ls.length ∧
 (bif
 List.rec true
 (fun (head : UInt8) (tail : List UInt8)
 (tail_ih : (fun (x : List UInt8) ↦ Bool) tail) ↦
 false)
 (textJ
 (JV.mk
 ((eltV ls x.2).part
 (0 : Nat)).asInt
 ((eltV ls x.2).part
 (1 : Nat)).asBool
 ((eltV ls x.2).part
 (2 : Nat)).asStr
 ((eltV ls x.2).part
 (3 : Nat)).asNil
 ((eltV ls x.2).part
 (3 : Nat)).asStrs
 ((eltV ls x.2).part
 (4 : Nat)).asNil
 (jdecs
 ((eltV ls x.2).part
 (4 : Nat)).asVec))) then
 false
 else false) =
 false ∧
 x.1.2 ++ quoteJ (strZ ks x.2) ++
 [zByte (58 : Int)] ++
 textJ
 (JV.mk
 ((eltV ls x.2).part
 (0 : Nat)).asInt
 ((eltV ls x.2).part
 (1 : Nat)).asBool
 ((eltV ls x.2).part
 (2 : Nat)).asStr
 ((eltV ls x.2).part
 (3 : Nat)).asNil
 ((eltV ls x.2).part
 (3 : Nat)).asStrs
 ((eltV ls x.2).part
 (4 : Nat)).asNil
 (jdecs
 ((eltV ls x.2).part
 (4 : Nat)).asVec)) =
 (123 : UInt8) ::
 objJ true ks
 (List.take (x.2 + (1 : Int)).toNat (jdecs ls))) ∧
 (↑ls.length - (x.2 + (1 : Int))).toNat < (↑ls.length - x.2).toNat) ∧
 within x.2 (lenZ ls) ∧
 eltV ls x.2 =
 PV.agg
 [PV.int .i64
 ((eltV ls x.2).part
 (0 : Nat)).asInt,
 PV.bool
 ((eltV ls x.2).part
 (1 : Nat)).asBool,
 PV.str
 ((eltV ls x.2).part
 (2 : Nat)).asStr,
 PV.row
 ((eltV ls x.2).part
 (3 : Nat)).asNil
 (BRow.strs
 ((eltV ls x.2).part
 (3 : Nat)).asStrs)
 (0 : Nat),
 PV.vec
 ((eltV ls x.2).part
 (4 : Nat)).asNil
 (nat_lit 5)
 ((eltV ls x.2).part
 (4 : Nat)).asVec
 (0 : Nat)] ∧
 Int.ofNat
 (List.length
 (x.1.2 ++ quoteJ (strZ ks x.2) ++ [zByte (58 : Int)])) ≤
 maxRow ∧
 (isJs
 ((eltV ls x.2).part
 (4 : Nat)).asVec ∧
 okJ m
 (JV.mk
 ((eltV ls x.2).part
 (0 : Nat)).asInt
 ((eltV ls x.2).part
 (1 : Nat)).asBool
 ((eltV ls x.2).part
 (2 : Nat)).asStr
 ((eltV ls x.2).part
 (3 : Nat)).asNil
 ((eltV ls x.2).part
 (3 : Nat)).asStrs
 ((eltV ls x.2).part
 (4 : Nat)).asNil
 (jdecs
 ((eltV ls x.2).part
 (4 : Nat)).asVec)) ∧
 shapeJ
 (JV.mk
 ((eltV ls x.2).part
 (0 : Nat)).asInt
 ((eltV ls x.2).part
 (1 : Nat)).asBool
 ((eltV ls x.2).part
 (2 : Nat)).asStr
 ((eltV ls x.2).part
 (3 : Nat)).asNil
 ((eltV ls x.2).part
 (3 : Nat)).asStrs
 ((eltV ls x.2).part
 (4 : Nat)).asNil
 (jdecs
 ((eltV ls x.2).part
 (4 : Nat)).asVec)) =
 true ∧
 sizeJ
 (JV.mk
 ((eltV ls x.2).part
 (0 : Nat)).asInt
 ((eltV ls x.2).part
 (1 : Nat)).asBool
 ((eltV ls x.2).part
 (2 : Nat)).asStr
 ((eltV ls x.2).part
 (3 : Nat)).asNil
 ((eltV ls x.2).part
 (3 : Nat)).asStrs
 ((eltV ls x.2).part
 (4 : Nat)).asNil
 (jdecs
 ((eltV ls x.2).part
 (4 : Nat)).asVec)) ≤
 (10000 : Nat)) ∧
 Int.ofNat
 (List.length
 (x.1.2 ++ quoteJ (strZ ks x.2) ++ [zByte (58 : Int)] ++
 textJ
 (JV.mk
 ((eltV ls x.2).part
 (0 : Nat)).asInt
 ((eltV ls x.2).part
 (1 : Nat)).asBool
 ((eltV ls x.2).part
 (2 : Nat)).asStr
 ((eltV ls x.2).part
 (3 : Nat)).asNil
 ((eltV ls x.2).part
 (3 : Nat)).asStrs
 ((eltV ls x.2).part
 (4 : Nat)).asNil
 (jdecs
 ((eltV ls x.2).part
 (4 : Nat)).asVec)))) ≤
 maxRow ∧
 inI64 (x.2 + (1 : Int)) ∧
 VS.mk []
 [(0,
 PV.agg
 [PV.int .i64 kd, PV.bool bv, PV.str sv,
 PV.row nk (BRow.strs ks) (0 : Nat),
 PV.vec nl (5 : Nat) ls (0 : Nat)]),
 (1, PV.ptr ((1 : Nat) + (32 : Nat)) (0 : Nat)),
 (2, PV.row true (BRow.bytes []) ((2 : Nat) + (32 : Nat))),
 (3, PV.undef), (4, PV.undef),
 ((5 : Nat),
 PV.row
 (bif
 List.rec true
 (fun (head : UInt8) (tail : List UInt8)
 (tail_ih : (fun (x : List UInt8) ↦ Bool) tail) ↦
 false)
 (textJ
 (JV.mk
 ((eltV ls x.2).part
 (0 : Nat)).asInt
 ((eltV ls x.2).part
 (1 : Nat)).asBool
 ((eltV ls x.2).part
 (2 : Nat)).asStr
 ((eltV ls x.2).part
 (3 : Nat)).asNil
 ((eltV ls x.2).part
 (3 : Nat)).asStrs
 ((eltV ls x.2).part
 (4 : Nat)).asNil
 (jdecs
 ((eltV ls x.2).part
 (4 : Nat)).asVec))) then
 false
 else false)
 (BRow.bytes
 (x.1.2 ++ quoteJ (strZ ks x.2) ++
 [zByte (58 : Int)] ++
 textJ
 (JV.mk
 ((eltV ls x.2).part
 (0 : Nat)).asInt
 ((eltV ls x.2).part
 (1 : Nat)).asBool
 ((eltV ls x.2).part
 (2 : Nat)).asStr
 ((eltV ls x.2).part
 (3 : Nat)).asNil
 ((eltV ls x.2).part
 (3 : Nat)).asStrs
 ((eltV ls x.2).part
 (4 : Nat)).asNil
 (jdecs
 ((eltV ls x.2).part
 (4 : Nat)).asVec))))
 (nat_lit 86 + (1 : Nat))),
 ((6 : Nat), PV.int .i64 (x.2 + (1 : Int))),
 (8, PV.int .i64 kd),
 (9, PV.bool (decide (kd = (1 : Int)))), (12, PV.undef),
 (17, PV.bool (decide (kd = (2 : Int)))),
 (22, PV.bool (decide (kd = (3 : Int)))),
 (27, PV.bool (decide (kd = (4 : Int)))), (34, PV.undef),
 (38, PV.undef), (53, PV.bool (decide (kd = (5 : Int)))),
 ((60 : Nat), PV.undef), ((64 : Nat), PV.undef)]
 [((1 : Nat) + (32 : Nat),
 PV.agg
 [PV.int .i64 kd, PV.bool bv, PV.str sv,
 PV.row nk (BRow.strs ks) (0 : Nat),
 PV.vec nl (5 : Nat) ls (0 : Nat)])] =
 VS.mk []
 [(0,
 PV.agg
 [PV.int .i64 kd, PV.bool bv, PV.str sv,
 PV.row nk (BRow.strs ks) (0 : Nat),
 PV.vec nl (5 : Nat) ls (0 : Nat)]),
 (1, PV.ptr ((1 : Nat) + (32 : Nat)) (0 : Nat)),
 (2, PV.row true (BRow.bytes []) ((2 : Nat) + (32 : Nat))),
 (3, PV.undef), (4, PV.undef),
 ((5 : Nat),
 PV.row
 (bif
 List.rec true
 (fun (head : UInt8) (tail : List UInt8)
 (tail_ih : (fun (x : List UInt8) ↦ Bool) tail) ↦
 false)
 (textJ
 (JV.mk
 ((eltV ls x.2).part
 (0 : Nat)).asInt
 ((eltV ls x.2).part
 (1 : Nat)).asBool
 ((eltV ls x.2).part
 (2 : Nat)).asStr
 ((eltV ls x.2).part
 (3 : Nat)).asNil
 ((eltV ls x.2).part
 (3 : Nat)).asStrs
 ((eltV ls x.2).part
 (4 : Nat)).asNil
 (jdecs
 ((eltV ls x.2).part
 (4 : Nat)).asVec))) then
 false
 else false)
 (BRow.bytes
 (x.1.2 ++ quoteJ (strZ ks x.2) ++
 [zByte (58 : Int)] ++
 textJ
 (JV.mk
 ((eltV ls x.2).part
 (0 : Nat)).asInt
 ((eltV ls x.2).part
 (1 : Nat)).asBool
 ((eltV ls x.2).part
 (2 : Nat)).asStr
 ((eltV ls x.2).part
 (3 : Nat)).asNil
 ((eltV ls x.2).part
 (3 : Nat)).asStrs
 ((eltV ls x.2).part
 (4 : Nat)).asNil
 (jdecs
 ((eltV ls x.2).part
 (4 : Nat)).asVec))))
 ((55 : Nat) + (32 : Nat))),
 ((6 : Nat), PV.int .i64 (x.2 + (1 : Int))),
 (8, PV.int .i64 kd),
 (9, PV.bool (decide (kd = (1 : Int)))), (12, PV.undef),
 (17, PV.bool (decide (kd = (2 : Int)))),
 (22, PV.bool (decide (kd = (3 : Int)))),
 (27, PV.bool (decide (kd = (4 : Int)))), (34, PV.undef),
 (38, PV.undef), (53, PV.bool (decide (kd = (5 : Int)))),
 ((60 : Nat), PV.undef), ((64 : Nat), PV.undef)]
 [((1 : Nat) + (32 : Nat),
 PV.agg
 [PV.int .i64 kd, PV.bool bv, PV.str sv,
 PV.row nk (BRow.strs ks) (0 : Nat),
 PV.vec nl (5 : Nat) ls (0 : Nat)])] ∧
 ((0 : Int) ≤ x.2 + (1 : Int) ∧
 x.2 + (1 : Int) ≤ ↑ls.length ∧
 (bif
 List.rec true
 (fun (head : UInt8) (tail : List UInt8)
 (tail_ih : (fun (x : List UInt8) ↦ Bool) tail) ↦
 false)
 (textJ
 (JV.mk
 ((eltV ls x.2).part
 (0 : Nat)).asInt
 ((eltV ls x.2).part
 (1 : Nat)).asBool
 ((eltV ls x.2).part
 (2 : Nat)).asStr
 ((eltV ls x.2).part
 (3 : Nat)).asNil
 ((eltV ls x.2).part
 (3 : Nat)).asStrs
 ((eltV ls x.2).part
 (4 : Nat)).asNil
 (jdecs
 ((eltV ls x.2).part
 (4 : Nat)).asVec))) then
 false
 else false) =
 false ∧
 x.1.2 ++ quoteJ (strZ ks x.2) ++
 [zByte (58 : Int)] ++
 textJ
 (JV.mk
 ((eltV ls x.2).part
 (0 : Nat)).asInt
 ((eltV ls x.2).part
 (1 : Nat)).asBool
 ((eltV ls x.2).part
 (2 : Nat)).asStr
 ((eltV ls x.2).part
 (3 : Nat)).asNil
 ((eltV ls x.2).part
 (3 : Nat)).asStrs
 ((eltV ls x.2).part
 (4 : Nat)).asNil
 (jdecs
 ((eltV ls x.2).part
 (4 : Nat)).asVec)) =
 (123 : UInt8) ::
 objJ true ks
 (List.take (x.2 + (1 : Int)).toNat (jdecs ls))) ∧
 (↑ls.length - (x.2 + (1 : Int))).toNat < (↑ls.length - x.2).toNat) ∧
 within x.2 (lenZ ls) ∧
 eltV ls x.2 =
 PV.agg
 [PV.int .i64
 ((eltV ls x.2).part
 (0 : Nat)).asInt,
 PV.bool
 ((eltV ls x.2).part
 (1 : Nat)).asBool,
 PV.str
 ((eltV ls x.2).part
 (2 : Nat)).asStr,
 PV.row
 ((eltV ls x.2).part
 (3 : Nat)).asNil
 (BRow.strs
 ((eltV ls x.2).part
 (3 : Nat)).asStrs)
 (0 : Nat),
 PV.vec
 ((eltV ls x.2).part
 (4 : Nat)).asNil
 (nat_lit 5)
 ((eltV ls x.2).part
 (4 : Nat)).asVec
 (0 : Nat)] ∧
 Int.ofNat (List.length (x.1.2 ++ quoteJ (strZ ks x.2))) ≤ maxRow ∧
 Int.ofNat
 (List.length
 (x.1.2 ++ quoteJ (strZ ks x.2) ++ [zByte (58 : Int)])) ≤
 maxRow ∧
 (isJs
 ((eltV ls x.2).part
 (4 : Nat)).asVec ∧
 okJ m
 (JV.mk
 ((eltV ls x.2).part
 (0 : Nat)).asInt
 ((eltV ls x.2).part
 (1 : Nat)).asBool
 ((eltV ls x.2).part
 (2 : Nat)).asStr
 ((eltV ls x.2).part
 (3 : Nat)).asNil
 ((eltV ls x.2).part
 (3 : Nat)).asStrs
 ((eltV ls x.2).part
 (4 : Nat)).asNil
 (jdecs
 ((eltV ls x.2).part
 (4 : Nat)).asVec)) ∧
 shapeJ
 (JV.mk
 ((eltV ls x.2).part
 (0 : Nat)).asInt
 ((eltV ls x.2).part
 (1 : Nat)).asBool
 ((eltV ls x.2).part
 (2 : Nat)).asStr
 ((eltV ls x.2).part
 (3 : Nat)).asNil
 ((eltV ls x.2).part
 (3 : Nat)).asStrs
 ((eltV ls x.2).part
 (4 : Nat)).asNil
 (jdecs
 ((eltV ls x.2).part
 (4 : Nat)).asVec)) =
 true ∧
 sizeJ
 (JV.mk
 ((eltV ls x.2).part
 (0 : Nat)).asInt
 ((eltV ls x.2).part
 (1 : Nat)).asBool
 ((eltV ls x.2).part
 (2 : Nat)).asStr
 ((eltV ls x.2).part
 (3 : Nat)).asNil
 ((eltV ls x.2).part
 (3 : Nat)).asStrs
 ((eltV ls x.2).part
 (4 : Nat)).asNil
 (jdecs
 ((eltV ls x.2).part
 (4 : Nat)).asVec)) ≤
 (10000 : Nat)) ∧
 Int.ofNat
 (List.length
 (x.1.2 ++ quoteJ (strZ ks x.2) ++ [zByte (58 : Int)] ++
 textJ
 (JV.mk
 ((eltV ls x.2).part
 (0 : Nat)).asInt
 ((eltV ls x.2).part
 (1 : Nat)).asBool
 ((eltV ls x.2).part
 (2 : Nat)).asStr
 ((eltV ls x.2).part
 (3 : Nat)).asNil
 ((eltV ls x.2).part
 (3 : Nat)).asStrs
 ((eltV ls x.2).part
 (4 : Nat)).asNil
 (jdecs
 ((eltV ls x.2).part
 (4 : Nat)).asVec)))) ≤
 maxRow ∧
 inI64 (x.2 + (1 : Int)) ∧
 VS.mk []
 [(0,
 PV.agg
 [PV.int .i64 kd, PV.bool bv, PV.str sv,
 PV.row nk (BRow.strs ks) (0 : Nat),
 PV.vec nl (5 : Nat) ls (0 : Nat)]),
 (1, PV.ptr ((1 : Nat) + (32 : Nat)) (0 : Nat)),
 (2, PV.row true (BRow.bytes []) ((2 : Nat) + (32 : Nat))),
 (3, PV.undef), (4, PV.undef),
 ((5 : Nat),
 PV.row
 (bif
 List.rec true
 (fun (head : UInt8) (tail : List UInt8)
 (tail_ih : (fun (x : List UInt8) ↦ Bool) tail) ↦
 false)
 (textJ
 (JV.mk
 ((eltV ls x.2).part
 (0 : Nat)).asInt
 ((eltV ls x.2).part
 (1 : Nat)).asBool
 ((eltV ls x.2).part
 (2 : Nat)).asStr
 ((eltV ls x.2).part
 (3 : Nat)).asNil
 ((eltV ls x.2).part
 (3 : Nat)).asStrs
 ((eltV ls x.2).part
 (4 : Nat)).asNil
 (jdecs
 ((eltV ls x.2).part
 (4 : Nat)).asVec))) then
 false
 else false)
 (BRow.bytes
 (x.1.2 ++ quoteJ (strZ ks x.2) ++
 [zByte (58 : Int)] ++
 textJ
 (JV.mk
 ((eltV ls x.2).part
 (0 : Nat)).asInt
 ((eltV ls x.2).part
 (1 : Nat)).asBool
 ((eltV ls x.2).part
 (2 : Nat)).asStr
 ((eltV ls x.2).part
 (3 : Nat)).asNil
 ((eltV ls x.2).part
 (3 : Nat)).asStrs
 ((eltV ls x.2).part
 (4 : Nat)).asNil
 (jdecs
 ((eltV ls x.2).part
 (4 : Nat)).asVec))))
 (nat_lit 86 + (1 : Nat))),
 ((6 : Nat), PV.int .i64 (x.2 + (1 : Int))),
 (8, PV.int .i64 kd),
 (9, PV.bool (decide (kd = (1 : Int)))), (12, PV.undef),
 (17, PV.bool (decide (kd = (2 : Int)))),
 (22, PV.bool (decide (kd = (3 : Int)))),
 (27, PV.bool (decide (kd = (4 : Int)))), (34, PV.undef),
 (38, PV.undef), (53, PV.bool (decide (kd = (5 : Int)))),
 ((60 : Nat), PV.undef), ((64 : Nat), PV.undef)]
 [((1 : Nat) + (32 : Nat),
 PV.agg
 [PV.int .i64 kd, PV.bool bv, PV.str sv,
 PV.row nk (BRow.strs ks) (0 : Nat),
 PV.vec nl (5 : Nat) ls (0 : Nat)])] =
 VS.mk []
 [(0,
 PV.agg
 [PV.int .i64 kd, PV.bool bv, PV.str sv,
 PV.row nk (BRow.strs ks) (0 : Nat),
 PV.vec nl (5 : Nat) ls (0 : Nat)]),
 (1, PV.ptr ((1 : Nat) + (32 : Nat)) (0 : Nat)),
 (2, PV.row true (BRow.bytes []) ((2 : Nat) + (32 : Nat))),
 (3, PV.undef), (4, PV.undef),
 ((5 : Nat),
 PV.row
 (bif
 List.rec true
 (fun (head : UInt8) (tail : List UInt8)
 (tail_ih : (fun (x : List UInt8) ↦ Bool) tail) ↦
 false)
 (textJ
 (JV.mk
 ((eltV ls x.2).part
 (0 : Nat)).asInt
 ((eltV ls x.2).part
 (1 : Nat)).asBool
 ((eltV ls x.2).part
 (2 : Nat)).asStr
 ((eltV ls x.2).part
 (3 : Nat)).asNil
 ((eltV ls x.2).part
 (3 : Nat)).asStrs
 ((eltV ls x.2).part
 (4 : Nat)).asNil
 (jdecs
 ((eltV ls x.2).part
 (4 : Nat)).asVec))) then
 false
 else false)
 (BRow.bytes
 (x.1.2 ++ quoteJ (strZ ks x.2) ++
 [zByte (58 : Int)] ++
 textJ
 (JV.mk
 ((eltV ls x.2).part
 (0 : Nat)).asInt
 ((eltV ls x.2).part
 (1 : Nat)).asBool
 ((eltV ls x.2).part
 (2 : Nat)).asStr
 ((eltV ls x.2).part
 (3 : Nat)).asNil
 ((eltV ls x.2).part
 (3 : Nat)).asStrs
 ((eltV ls x.2).part
 (4 : Nat)).asNil
 (jdecs
 ((eltV ls x.2).part
 (4 : Nat)).asVec))))
 ((55 : Nat) + (32 : Nat))),
 ((6 : Nat), PV.int .i64 (x.2 + (1 : Int))),
 (8, PV.int .i64 kd),
 (9, PV.bool (decide (kd = (1 : Int)))), (12, PV.undef),
 (17, PV.bool (decide (kd = (2 : Int)))),
 (22, PV.bool (decide (kd = (3 : Int)))),
 (27, PV.bool (decide (kd = (4 : Int)))), (34, PV.undef),
 (38, PV.undef), (53, PV.bool (decide (kd = (5 : Int)))),
 ((60 : Nat), PV.undef), ((64 : Nat), PV.undef)]
 [((1 : Nat) + (32 : Nat),
 PV.agg
 [PV.int .i64 kd, PV.bool bv, PV.str sv,
 PV.row nk (BRow.strs ks) (0 : Nat),
 PV.vec nl (5 : Nat) ls (0 : Nat)])] ∧
 ((0 : Int) ≤ x.2 + (1 : Int) ∧
 x.2 + (1 : Int) ≤ ↑ls.length ∧
 (bif
 List.rec true
 (fun (head : UInt8) (tail : List UInt8)
 (tail_ih : (fun (x : List UInt8) ↦ Bool) tail) ↦
 false)
 (textJ
 (JV.mk
 ((eltV ls x.2).part
 (0 : Nat)).asInt
 ((eltV ls x.2).part
 (1 : Nat)).asBool
 ((eltV ls x.2).part
 (2 : Nat)).asStr
 ((eltV ls x.2).part
 (3 : Nat)).asNil
 ((eltV ls x.2).part
 (3 : Nat)).asStrs
 ((eltV ls x.2).part
 (4 : Nat)).asNil
 (jdecs
 ((eltV ls x.2).part
 (4 : Nat)).asVec))) then
 false
 else false) =
 false ∧
 x.1.2 ++ quoteJ (strZ ks x.2) ++
 [zByte (58 : Int)] ++
 textJ
 (JV.mk
 ((eltV ls x.2).part
 (0 : Nat)).asInt
 ((eltV ls x.2).part
 (1 : Nat)).asBool
 ((eltV ls x.2).part
 (2 : Nat)).asStr
 ((eltV ls x.2).part
 (3 : Nat)).asNil
 ((eltV ls x.2).part
 (3 : Nat)).asStrs
 ((eltV ls x.2).part
 (4 : Nat)).asNil
 (jdecs
 ((eltV ls x.2).part
 (4 : Nat)).asVec)) =
 (123 : UInt8) ::
 objJ true ks
 (List.take (x.2 + (1 : Int)).toNat (jdecs ls))) ∧
 (↑ls.length - (x.2 + (1 : Int))).toNat < (↑ls.length - x.2).toNat) ∧
 within x.2 (lenZ ls) ∧
 eltV ls x.2 =
 PV.agg
 [PV.int .i64
 ((eltV ls x.2).part (0 : Nat)).asInt,
 PV.bool
 ((eltV ls x.2).part
 (1 : Nat)).asBool,
 PV.str
 ((eltV ls x.2).part
 (2 : Nat)).asStr,
 PV.row
 ((eltV ls x.2).part
 (3 : Nat)).asNil
 (BRow.strs
 ((eltV ls x.2).part
 (3 : Nat)).asStrs)
 (0 : Nat),
 PV.vec
 ((eltV ls x.2).part
 (4 : Nat)).asNil
 (nat_lit 5)
 ((eltV ls x.2).part
 (4 : Nat)).asVec
 (0 : Nat)] ∧
 Int.ofNat (List.length (x.1.2 ++ quoteJ (strZ ks x.2))) ≤ maxRow ∧
 Int.ofNat
 (List.length
 (x.1.2 ++ quoteJ (strZ ks x.2) ++ [zByte (58 : Int)])) ≤
 maxRow ∧
 (isJs
 ((eltV ls x.2).part
 (4 : Nat)).asVec ∧
 okJ m
 (JV.mk
 ((eltV ls x.2).part
 (0 : Nat)).asInt
 ((eltV ls x.2).part
 (1 : Nat)).asBool
 ((eltV ls x.2).part
 (2 : Nat)).asStr
 ((eltV ls x.2).part
 (3 : Nat)).asNil
 ((eltV ls x.2).part
 (3 : Nat)).asStrs
 ((eltV ls x.2).part
 (4 : Nat)).asNil
 (jdecs
 ((eltV ls x.2).part
 (4 : Nat)).asVec)) ∧
 shapeJ
 (JV.mk
 ((eltV ls x.2).part
 (0 : Nat)).asInt
 ((eltV ls x.2).part
 (1 : Nat)).asBool
 ((eltV ls x.2).part
 (2 : Nat)).asStr
 ((eltV ls x.2).part
 (3 : Nat)).asNil
 ((eltV ls x.2).part
 (3 : Nat)).asStrs
 ((eltV ls x.2).part
 (4 : Nat)).asNil
 (jdecs
 ((eltV ls x.2).part
 (4 : Nat)).asVec)) =
 true ∧
 sizeJ
 (JV.mk
 ((eltV ls x.2).part
 (0 : Nat)).asInt
 ((eltV ls x.2).part
 (1 : Nat)).asBool
 ((eltV ls x.2).part
 (2 : Nat)).asStr
 ((eltV ls x.2).part
 (3 : Nat)).asNil
 ((eltV ls x.2).part
 (3 : Nat)).asStrs
 ((eltV ls x.2).part
 (4 : Nat)).asNil
 (jdecs
 ((eltV ls x.2).part
 (4 : Nat)).asVec)) ≤
 (10000 : Nat)) ∧
 Int.ofNat
 (List.length
 (x.1.2 ++ quoteJ (strZ ks x.2) ++ [zByte (58 : Int)] ++
 textJ
 (JV.mk
 ((eltV ls x.2).part
 (0 : Nat)).asInt
 ((eltV ls x.2).part
 (1 : Nat)).asBool
 ((eltV ls x.2).part
 (2 : Nat)).asStr
 ((eltV ls x.2).part
 (3 : Nat)).asNil
 ((eltV ls x.2).part
 (3 : Nat)).asStrs
 ((eltV ls x.2).part
 (4 : Nat)).asNil
 (jdecs
 ((eltV ls x.2).part
 (4 : Nat)).asVec)))) ≤
 maxRow ∧
 inI64 (x.2 + (1 : Int)) ∧
 VS.mk []
 [(0,
 PV.agg
 [PV.int .i64 kd, PV.bool bv, PV.str sv,
 PV.row nk (BRow.strs ks) (0 : Nat),
 PV.vec nl (5 : Nat) ls (0 : Nat)]),
 (1, PV.ptr ((1 : Nat) + (32 : Nat)) (0 : Nat)),
 (2, PV.row true (BRow.bytes []) ((2 : Nat) + (32 : Nat))),
 (3, PV.undef), (4, PV.undef),
 ((5 : Nat),
 PV.row
 (bif
 List.rec true
 (fun (head : UInt8) (tail : List UInt8)
 (tail_ih : (fun (x : List UInt8) ↦ Bool) tail) ↦
 false)
 (textJ
 (JV.mk
 ((eltV ls x.2).part
 (0 : Nat)).asInt
 ((eltV ls x.2).part
 (1 : Nat)).asBool
 ((eltV ls x.2).part
 (2 : Nat)).asStr
 ((eltV ls x.2).part
 (3 : Nat)).asNil
 ((eltV ls x.2).part
 (3 : Nat)).asStrs
 ((eltV ls x.2).part
 (4 : Nat)).asNil
 (jdecs
 ((eltV ls x.2).part
 (4 : Nat)).asVec))) then
 false
 else false)
 (BRow.bytes
 (x.1.2 ++ quoteJ (strZ ks x.2) ++
 [zByte (58 : Int)] ++
 textJ
 (JV.mk
 ((eltV ls x.2).part
 (0 : Nat)).asInt
 ((eltV ls x.2).part
 (1 : Nat)).asBool
 ((eltV ls x.2).part
 (2 : Nat)).asStr
 ((eltV ls x.2).part
 (3 : Nat)).asNil
 ((eltV ls x.2).part
 (3 : Nat)).asStrs
 ((eltV ls x.2).part
 (4 : Nat)).asNil
 (jdecs
 ((eltV ls x.2).part
 (4 : Nat)).asVec))))
 (nat_lit 86 + (1 : Nat))),
 ((6 : Nat), PV.int .i64 (x.2 + (1 : Int))),
 (8, PV.int .i64 kd),
 (9, PV.bool (decide (kd = (1 : Int)))), (12, PV.undef),
 (17, PV.bool (decide (kd = (2 : Int)))),
 (22, PV.bool (decide (kd = (3 : Int)))),
 (27, PV.bool (decide (kd = (4 : Int)))), (34, PV.undef),
 (38, PV.undef), (53, PV.bool (decide (kd = (5 : Int)))),
 ((60 : Nat), PV.undef), ((64 : Nat), PV.undef)]
 [((1 : Nat) + (32 : Nat),
 PV.agg
 [PV.int .i64 kd, PV.bool bv, PV.str sv,
 PV.row nk (BRow.strs ks) (0 : Nat),
 PV.vec nl (5 : Nat) ls (0 : Nat)])] =
 VS.mk []
 [(0,
 PV.agg
 [PV.int .i64 kd, PV.bool bv, PV.str sv,
 PV.row nk (BRow.strs ks) (0 : Nat),
 PV.vec nl (5 : Nat) ls (0 : Nat)]),
 (1, PV.ptr ((1 : Nat) + (32 : Nat)) (0 : Nat)),
 (2, PV.row true (BRow.bytes []) ((2 : Nat) + (32 : Nat))),
 (3, PV.undef), (4, PV.undef),
 ((5 : Nat),
 PV.row
 (bif
 List.rec true
 (fun (head : UInt8) (tail : List UInt8)
 (tail_ih : (fun (x : List UInt8) ↦ Bool) tail) ↦
 false)
 (textJ
 (JV.mk
 ((eltV ls x.2).part
 (0 : Nat)).asInt
 ((eltV ls x.2).part
 (1 : Nat)).asBool
 ((eltV ls x.2).part
 (2 : Nat)).asStr
 ((eltV ls x.2).part
 (3 : Nat)).asNil
 ((eltV ls x.2).part
 (3 : Nat)).asStrs
 ((eltV ls x.2).part
 (4 : Nat)).asNil
 (jdecs
 ((eltV ls x.2).part
 (4 : Nat)).asVec))) then
 false
 else false)
 (BRow.bytes
 (x.1.2 ++ quoteJ (strZ ks x.2) ++
 [zByte (58 : Int)] ++
 textJ
 (JV.mk
 ((eltV ls x.2).part
 (0 : Nat)).asInt
 ((eltV ls x.2).part
 (1 : Nat)).asBool
 ((eltV ls x.2).part
 (2 : Nat)).asStr
 ((eltV ls x.2).part
 (3 : Nat)).asNil
 ((eltV ls x.2).part
 (3 : Nat)).asStrs
 ((eltV ls x.2).part
 (4 : Nat)).asNil
 (jdecs
 ((eltV ls x.2).part
 (4 : Nat)).asVec))))
 ((55 : Nat) + (32 : Nat))),
 ((6 : Nat), PV.int .i64 (x.2 + (1 : Int))),
 (8, PV.int .i64 kd),
 (9, PV.bool (decide (kd = (1 : Int)))), (12, PV.undef),
 (17, PV.bool (decide (kd = (2 : Int)))),
 (22, PV.bool (decide (kd = (3 : Int)))),
 (27, PV.bool (decide (kd = (4 : Int)))), (34, PV.undef),
 (38, PV.undef), (53, PV.bool (decide (kd = (5 : Int)))),
 ((60 : Nat), PV.undef), ((64 : Nat), PV.undef)]
 [((1 : Nat) + (32 : Nat),
 PV.agg
 [PV.int .i64 kd, PV.bool bv, PV.str sv,
 PV.row nk (BRow.strs ks) (0 : Nat),
 PV.vec nl (5 : Nat) ls (0 : Nat)])] ∧
 ((0 : Int) ≤ x.2 + (1 : Int) ∧
 x.2 + (1 : Int) ≤ ↑ls.length ∧
 (bif
 List.rec true
 (fun (head : UInt8) (tail : List UInt8)
 (tail_ih : (fun (x : List UInt8) ↦ Bool) tail) ↦
 false)
 (textJ
 (JV.mk
 ((eltV ls x.2).part
 (0 : Nat)).asInt
 ((eltV ls x.2).part
 (1 : Nat)).asBool
 ((eltV ls x.2).part
 (2 : Nat)).asStr
 ((eltV ls x.2).part
 (3 : Nat)).asNil
 ((eltV ls x.2).part
 (3 : Nat)).asStrs
 ((eltV ls x.2).part
 (4 : Nat)).asNil
 (jdecs
 ((eltV ls x.2).part
 (4 : Nat)).asVec))) then
 false
 else false) =
 false ∧
 x.1.2 ++ quoteJ (strZ ks x.2) ++ [zByte (58 : Int)] ++
 textJ
 (JV.mk
 ((eltV ls x.2).part
 (0 : Nat)).asInt
 ((eltV ls x.2).part
 (1 : Nat)).asBool
 ((eltV ls x.2).part
 (2 : Nat)).asStr
 ((eltV ls x.2).part
 (3 : Nat)).asNil
 ((eltV ls x.2).part
 (3 : Nat)).asStrs
 ((eltV ls x.2).part
 (4 : Nat)).asNil
 (jdecs
 ((eltV ls x.2).part
 (4 : Nat)).asVec)) =
 (123 : UInt8) ::
 objJ true ks
 (List.take (x.2 + (1 : Int)).toNat (jdecs ls))) ∧
 (↑ls.length - (x.2 + (1 : Int))).toNat < (↑ls.length - x.2).toNat) ∧
 within x.2 (lenZ ls) ∧
 eltV ls x.2 =
 PV.agg
 [PV.int .i64
 ((eltV ls x.2).part (0 : Nat)).asInt,
 PV.bool
 ((eltV ls x.2).part
 (1 : Nat)).asBool,
 PV.str
 ((eltV ls x.2).part
 (2 : Nat)).asStr,
 PV.row
 ((eltV ls x.2).part
 (3 : Nat)).asNil
 (BRow.strs
 ((eltV ls x.2).part
 (3 : Nat)).asStrs)
 (0 : Nat),
 PV.vec
 ((eltV ls x.2).part
 (4 : Nat)).asNil
 (nat_lit 5)
 ((eltV ls x.2).part
 (4 : Nat)).asVec
 (0 : Nat)] ∧
 (within x.2 (Int.ofNat ks.length) ∧
 (List.length (strZ ks x.2)).le (100000 : Nat) ∧
 Int.ofNat (List.length (x.1.2 ++ quoteJ (strZ ks x.2))) ≤ maxRow ∧
 Int.ofNat
 (List.length
 (x.1.2 ++ quoteJ (strZ ks x.2) ++ [zByte (58 : Int)])) ≤
 maxRow ∧
 (isJs
 ((eltV ls x.2).part
 (4 : Nat)).asVec ∧
 okJ m
 (JV.mk
 ((eltV ls x.2).part
 (0 : Nat)).asInt
 ((eltV ls x.2).part
 (1 : Nat)).asBool
 ((eltV ls x.2).part
 (2 : Nat)).asStr
 ((eltV ls x.2).part
 (3 : Nat)).asNil
 ((eltV ls x.2).part
 (3 : Nat)).asStrs
 ((eltV ls x.2).part
 (4 : Nat)).asNil
 (jdecs
 ((eltV ls x.2).part
 (4 : Nat)).asVec)) ∧
 shapeJ
 (JV.mk
 ((eltV ls x.2).part
 (0 : Nat)).asInt
 ((eltV ls x.2).part
 (1 : Nat)).asBool
 ((eltV ls x.2).part
 (2 : Nat)).asStr
 ((eltV ls x.2).part
 (3 : Nat)).asNil
 ((eltV ls x.2).part
 (3 : Nat)).asStrs
 ((eltV ls x.2).part
 (4 : Nat)).asNil
 (jdecs
 ((eltV ls x.2).part
 (4 : Nat)).asVec)) =
 true ∧
 sizeJ
 (JV.mk
 ((eltV ls x.2).part
 (0 : Nat)).asInt
 ((eltV ls x.2).part
 (1 : Nat)).asBool
 ((eltV ls x.2).part
 (2 : Nat)).asStr
 ((eltV ls x.2).part
 (3 : Nat)).asNil
 ((eltV ls x.2).part
 (3 : Nat)).asStrs
 ((eltV ls x.2).part
 (4 : Nat)).asNil
 (jdecs
 ((eltV ls x.2).part
 (4 : Nat)).asVec)) ≤
 (10000 : Nat)) ∧
 Int.ofNat
 (List.length
 (x.1.2 ++ quoteJ (strZ ks x.2) ++ [zByte (58 : Int)] ++
 textJ
 (JV.mk
 ((eltV ls x.2).part
 (0 : Nat)).asInt
 ((eltV ls x.2).part
 (1 : Nat)).asBool
 ((eltV ls x.2).part
 (2 : Nat)).asStr
 ((eltV ls x.2).part
 (3 : Nat)).asNil
 ((eltV ls x.2).part
 (3 : Nat)).asStrs
 ((eltV ls x.2).part
 (4 : Nat)).asNil
 (jdecs
 ((eltV ls x.2).part
 (4 : Nat)).asVec)))) ≤
 maxRow ∧
 inI64 (x.2 + (1 : Int)) ∧
 VS.mk []
 [(0,
 PV.agg
 [PV.int .i64 kd, PV.bool bv, PV.str sv,
 PV.row nk (BRow.strs ks) (0 : Nat),
 PV.vec nl (5 : Nat) ls (0 : Nat)]),
 (1, PV.ptr ((1 : Nat) + (32 : Nat)) (0 : Nat)),
 (2, PV.row true (BRow.bytes []) ((2 : Nat) + (32 : Nat))),
 (3, PV.undef), (4, PV.undef),
 ((5 : Nat),
 PV.row
 (bif
 List.rec true
 (fun (head : UInt8) (tail : List UInt8)
 (tail_ih : (fun (x : List UInt8) ↦ Bool) tail) ↦
 false)
 (textJ
 (JV.mk
 ((eltV ls x.2).part
 (0 : Nat)).asInt
 ((eltV ls x.2).part
 (1 : Nat)).asBool
 ((eltV ls x.2).part
 (2 : Nat)).asStr
 ((eltV ls x.2).part
 (3 : Nat)).asNil
 ((eltV ls x.2).part
 (3 : Nat)).asStrs
 ((eltV ls x.2).part
 (4 : Nat)).asNil
 (jdecs
 ((eltV ls x.2).part
 (4 : Nat)).asVec))) then
 false
 else false)
 (BRow.bytes
 (x.1.2 ++ quoteJ (strZ ks x.2) ++
 [zByte (58 : Int)] ++
 textJ
 (JV.mk
 ((eltV ls x.2).part
 (0 : Nat)).asInt
 ((eltV ls x.2).part
 (1 : Nat)).asBool
 ((eltV ls x.2).part
 (2 : Nat)).asStr
 ((eltV ls x.2).part
 (3 : Nat)).asNil
 ((eltV ls x.2).part
 (3 : Nat)).asStrs
 ((eltV ls x.2).part
 (4 : Nat)).asNil
 (jdecs
 ((eltV ls x.2).part
 (4 : Nat)).asVec))))
 (nat_lit 86 + (1 : Nat))),
 ((6 : Nat), PV.int .i64 (x.2 + (1 : Int))),
 (8, PV.int .i64 kd),
 (9, PV.bool (decide (kd = (1 : Int)))), (12, PV.undef),
 (17, PV.bool (decide (kd = (2 : Int)))),
 (22, PV.bool (decide (kd = (3 : Int)))),
 (27, PV.bool (decide (kd = (4 : Int)))), (34, PV.undef),
 (38, PV.undef), (53, PV.bool (decide (kd = (5 : Int)))),
 ((60 : Nat), PV.undef), ((64 : Nat), PV.undef)]
 [((1 : Nat) + (32 : Nat),
 PV.agg
 [PV.int .i64 kd, PV.bool bv, PV.str sv,
 PV.row nk (BRow.strs ks) (0 : Nat),
 PV.vec nl (5 : Nat) ls (0 : Nat)])] =
 VS.mk []
 [(0,
 PV.agg
 [PV.int .i64 kd, PV.bool bv, PV.str sv,
 PV.row nk (BRow.strs ks) (0 : Nat),
 PV.vec nl (5 : Nat) ls (0 : Nat)]),
 (1, PV.ptr ((1 : Nat) + (32 : Nat)) (0 : Nat)),
 (2, PV.row true (BRow.bytes []) ((2 : Nat) + (32 : Nat))),
 (3, PV.undef), (4, PV.undef),
 ((5 : Nat),
 PV.row
 (bif
 List.rec true
 (fun (head : UInt8) (tail : List UInt8)
 (tail_ih : (fun (x : List UInt8) ↦ Bool) tail) ↦
 false)
 (textJ
 (JV.mk
 ((eltV ls x.2).part
 (0 : Nat)).asInt
 ((eltV ls x.2).part
 (1 : Nat)).asBool
 ((eltV ls x.2).part
 (2 : Nat)).asStr
 ((eltV ls x.2).part
 (3 : Nat)).asNil
 ((eltV ls x.2).part
 (3 : Nat)).asStrs
 ((eltV ls x.2).part
 (4 : Nat)).asNil
 (jdecs
 ((eltV ls x.2).part
 (4 : Nat)).asVec))) then
 false
 else false)
 (BRow.bytes
 (x.1.2 ++ quoteJ (strZ ks x.2) ++
 [zByte (58 : Int)] ++
 textJ
 (JV.mk
 ((eltV ls x.2).part
 (0 : Nat)).asInt
 ((eltV ls x.2).part
 (1 : Nat)).asBool
 ((eltV ls x.2).part
 (2 : Nat)).asStr
 ((eltV ls x.2).part
 (3 : Nat)).asNil
 ((eltV ls x.2).part
 (3 : Nat)).asStrs
 ((eltV ls x.2).part
 (4 : Nat)).asNil
 (jdecs
 ((eltV ls x.2).part
 (4 : Nat)).asVec))))
 ((55 : Nat) + (32 : Nat))),
 ((6 : Nat), PV.int .i64 (x.2 + (1 : Int))),
 (8, PV.int .i64 kd),
 (9, PV.bool (decide (kd = (1 : Int)))), (12, PV.undef),
 (17, PV.bool (decide (kd = (2 : Int)))),
 (22, PV.bool (decide (kd = (3 : Int)))),
 (27, PV.bool (decide (kd = (4 : Int)))), (34, PV.undef),
 (38, PV.undef), (53, PV.bool (decide (kd = (5 : Int)))),
 ((60 : Nat), PV.undef), ((64 : Nat), PV.undef)]
 [((1 : Nat) + (32 : Nat),
 PV.agg
 [PV.int .i64 kd, PV.bool bv, PV.str sv,
 PV.row nk (BRow.strs ks) (0 : Nat),
 PV.vec nl (5 : Nat) ls (0 : Nat)])] ∧
 ((0 : Int) ≤ x.2 + (1 : Int) ∧
 x.2 + (1 : Int) ≤ ↑ls.length ∧
 (bif
 List.rec true
 (fun (head : UInt8) (tail : List UInt8)
 (tail_ih : (fun (x : List UInt8) ↦ Bool) tail) ↦
 false)
 (textJ
 (JV.mk
 ((eltV ls x.2).part
 (0 : Nat)).asInt
 ((eltV ls x.2).part
 (1 : Nat)).asBool
 ((eltV ls x.2).part
 (2 : Nat)).asStr
 ((eltV ls x.2).part
 (3 : Nat)).asNil
 ((eltV ls x.2).part
 (3 : Nat)).asStrs
 ((eltV ls x.2).part
 (4 : Nat)).asNil
 (jdecs
 ((eltV ls x.2).part
 (4 : Nat)).asVec))) then
 false
 else false) =
 false ∧
 x.1.2 ++ quoteJ (strZ ks x.2) ++ [zByte (58 : Int)] ++
 textJ
 (JV.mk
 ((eltV ls x.2).part
 (0 : Nat)).asInt
 ((eltV ls x.2).part
 (1 : Nat)).asBool
 ((eltV ls x.2).part
 (2 : Nat)).asStr
 ((eltV ls x.2).part
 (3 : Nat)).asNil
 ((eltV ls x.2).part
 (3 : Nat)).asStrs
 ((eltV ls x.2).part
 (4 : Nat)).asNil
 (jdecs
 ((eltV ls x.2).part
 (4 : Nat)).asVec)) =
 (123 : UInt8) ::
 objJ true ks
 (List.take (x.2 + (1 : Int)).toNat (jdecs ls))) ∧
 (↑ls.length - (x.2 + (1 : Int))).toNat < (↑ls.length - x.2).toNat) ∧
 within x.2 (Int.ofNat ks.length) ∧
 (List.length (strZ ks x.2)).le (100000 : Nat) ∧
 Int.ofNat (List.length (x.1.2 ++ quoteJ (strZ ks x.2))) ≤ maxRow ∧
 Int.ofNat
 (List.length
 (x.1.2 ++ quoteJ (strZ ks x.2) ++ [zByte (58 : Int)])) ≤
 maxRow ∧
 (isJs
 ((eltV ls x.2).part
 (4 : Nat)).asVec ∧
 okJ m
 (JV.mk
 ((eltV ls x.2).part
 (0 : Nat)).asInt
 ((eltV ls x.2).part
 (1 : Nat)).asBool
 ((eltV ls x.2).part
 (2 : Nat)).asStr
 ((eltV ls x.2).part
 (3 : Nat)).asNil
 ((eltV ls x.2).part
 (3 : Nat)).asStrs
 ((eltV ls x.2).part
 (4 : Nat)).asNil
 (jdecs
 ((eltV ls x.2).part
 (4 : Nat)).asVec)) ∧
 shapeJ
 (JV.mk
 ((eltV ls x.2).part
 (0 : Nat)).asInt
 ((eltV ls x.2).part
 (1 : Nat)).asBool
 ((eltV ls x.2).part
 (2 : Nat)).asStr
 ((eltV ls x.2).part
 (3 : Nat)).asNil
 ((eltV ls x.2).part
 (3 : Nat)).asStrs
 ((eltV ls x.2).part
 (4 : Nat)).asNil
 (jdecs
 ((eltV ls x.2).part
 (4 : Nat)).asVec)) =
 true ∧
 sizeJ
 (JV.mk
 ((eltV ls x.2).part
 (0 : Nat)).asInt
 ((eltV ls x.2).part
 (1 : Nat)).asBool
 ((eltV ls x.2).part
 (2 : Nat)).asStr
 ((eltV ls x.2).part
 (3 : Nat)).asNil
 ((eltV ls x.2).part
 (3 : Nat)).asStrs
 ((eltV ls x.2).part
 (4 : Nat)).asNil
 (jdecs
 ((eltV ls x.2).part
 (4 : Nat)).asVec)) ≤
 (10000 : Nat)) ∧
 Int.ofNat
 (List.length
 (x.1.2 ++ quoteJ (strZ ks x.2) ++ [zByte (58 : Int)] ++
 textJ
 (JV.mk
 ((eltV ls x.2).part
 (0 : Nat)).asInt
 ((eltV ls x.2).part
 (1 : Nat)).asBool
 ((eltV ls x.2).part
 (2 : Nat)).asStr
 ((eltV ls x.2).part
 (3 : Nat)).asNil
 ((eltV ls x.2).part
 (3 : Nat)).asStrs
 ((eltV ls x.2).part
 (4 : Nat)).asNil
 (jdecs
 ((eltV ls x.2).part
 (4 : Nat)).asVec)))) ≤
 maxRow ∧
 inI64 (x.2 + (1 : Int)) ∧
 VS.mk []
 [(0,
 PV.agg
 [PV.int .i64 kd, PV.bool bv, PV.str sv,
 PV.row nk (BRow.strs ks) (0 : Nat),
 PV.vec nl (5 : Nat) ls (0 : Nat)]),
 (1, PV.ptr ((1 : Nat) + (32 : Nat)) (0 : Nat)),
 (2, PV.row true (BRow.bytes []) ((2 : Nat) + (32 : Nat))),
 (3, PV.undef), (4, PV.undef),
 ((5 : Nat),
 PV.row
 (bif
 List.rec true
 (fun (head : UInt8) (tail : List UInt8)
 (tail_ih : (fun (x : List UInt8) ↦ Bool) tail) ↦
 false)
 (textJ
 (JV.mk
 ((eltV ls x.2).part
 (0 : Nat)).asInt
 ((eltV ls x.2).part
 (1 : Nat)).asBool
 ((eltV ls x.2).part
 (2 : Nat)).asStr
 ((eltV ls x.2).part
 (3 : Nat)).asNil
 ((eltV ls x.2).part
 (3 : Nat)).asStrs
 ((eltV ls x.2).part
 (4 : Nat)).asNil
 (jdecs
 ((eltV ls x.2).part
 (4 : Nat)).asVec))) then
 false
 else false)
 (BRow.bytes
 (x.1.2 ++ quoteJ (strZ ks x.2) ++
 [zByte (58 : Int)] ++
 textJ
 (JV.mk
 ((eltV ls x.2).part
 (0 : Nat)).asInt
 ((eltV ls x.2).part
 (1 : Nat)).asBool
 ((eltV ls x.2).part
 (2 : Nat)).asStr
 ((eltV ls x.2).part
 (3 : Nat)).asNil
 ((eltV ls x.2).part
 (3 : Nat)).asStrs
 ((eltV ls x.2).part
 (4 : Nat)).asNil
 (jdecs
 ((eltV ls x.2).part
 (4 : Nat)).asVec))))
 (nat_lit 86 + (1 : Nat))),
 ((6 : Nat), PV.int .i64 (x.2 + (1 : Int))),
 (8, PV.int .i64 kd),
 (9, PV.bool (decide (kd = (1 : Int)))), (12, PV.undef),
 (17, PV.bool (decide (kd = (2 : Int)))),
 (22, PV.bool (decide (kd = (3 : Int)))),
 (27, PV.bool (decide (kd = (4 : Int)))), (34, PV.undef),
 (38, PV.undef), (53, PV.bool (decide (kd = (5 : Int)))),
 ((60 : Nat), PV.undef), ((64 : Nat), PV.undef)]
 [((1 : Nat) + (32 : Nat),
 PV.agg
 [PV.int .i64 kd, PV.bool bv, PV.str sv,
 PV.row nk (BRow.strs ks) (0 : Nat),
 PV.vec nl (5 : Nat) ls (0 : Nat)])] =
 VS.mk []
 [(0,
 PV.agg
 [PV.int .i64 kd, PV.bool bv, PV.str sv,
 PV.row nk (BRow.strs ks) (0 : Nat),
 PV.vec nl (5 : Nat) ls (0 : Nat)]),
 (1, PV.ptr ((1 : Nat) + (32 : Nat)) (0 : Nat)),
 (2, PV.row true (BRow.bytes []) ((2 : Nat) + (32 : Nat))),
 (3, PV.undef), (4, PV.undef),
 ((5 : Nat),
 PV.row
 (bif
 List.rec true
 (fun (head : UInt8) (tail : List UInt8)
 (tail_ih : (fun (x : List UInt8) ↦ Bool) tail) ↦
 false)
 (textJ
 (JV.mk
 ((eltV ls x.2).part
 (0 : Nat)).asInt
 ((eltV ls x.2).part
 (1 : Nat)).asBool
 ((eltV ls x.2).part
 (2 : Nat)).asStr
 ((eltV ls x.2).part
 (3 : Nat)).asNil
 ((eltV ls x.2).part
 (3 : Nat)).asStrs
 ((eltV ls x.2).part
 (4 : Nat)).asNil
 (jdecs
 ((eltV ls x.2).part
 (4 : Nat)).asVec))) then
 false
 else false)
 (BRow.bytes
 (x.1.2 ++ quoteJ (strZ ks x.2) ++
 [zByte (58 : Int)] ++
 textJ
 (JV.mk
 ((eltV ls x.2).part
 (0 : Nat)).asInt
 ((eltV ls x.2).part
 (1 : Nat)).asBool
 ((eltV ls x.2).part
 (2 : Nat)).asStr
 ((eltV ls x.2).part
 (3 : Nat)).asNil
 ((eltV ls x.2).part
 (3 : Nat)).asStrs
 ((eltV ls x.2).part
 (4 : Nat)).asNil
 (jdecs
 ((eltV ls x.2).part
 (4 : Nat)).asVec))))
 ((55 : Nat) + (32 : Nat))),
 ((6 : Nat), PV.int .i64 (x.2 + (1 : Int))),
 (8, PV.int .i64 kd),
 (9, PV.bool (decide (kd = (1 : Int)))), (12, PV.undef),
 (17, PV.bool (decide (kd = (2 : Int)))),
 (22, PV.bool (decide (kd = (3 : Int)))),
 (27, PV.bool (decide (kd = (4 : Int)))), (34, PV.undef),
 (38, PV.undef), (53, PV.bool (decide (kd = (5 : Int)))),
 ((60 : Nat), PV.undef), ((64 : Nat), PV.undef)]
 [((1 : Nat) + (32 : Nat),
 PV.agg
 [PV.int .i64 kd, PV.bool bv, PV.str sv,
 PV.row nk (BRow.strs ks) (0 : Nat),
 PV.vec nl (5 : Nat) ls (0 : Nat)])] ∧
 ((0 : Int) ≤ x.2 + (1 : Int) ∧
 x.2 + (1 : Int) ≤ ↑ls.length ∧
 (bif
 List.rec true
 (fun (head : UInt8) (tail : List UInt8)
 (tail_ih : (fun (x : List UInt8) ↦ Bool) tail) ↦
 false)
 (textJ
 (JV.mk
 ((eltV ls x.2).part
 (0 : Nat)).asInt
 ((eltV ls x.2).part
 (1 : Nat)).asBool
 ((eltV ls x.2).part
 (2 : Nat)).asStr
 ((eltV ls x.2).part
 (3 : Nat)).asNil
 ((eltV ls x.2).part
 (3 : Nat)).asStrs
 ((eltV ls x.2).part
 (4 : Nat)).asNil
 (jdecs
 ((eltV ls x.2).part
 (4 : Nat)).asVec))) then
 false
 else false) =
 false ∧
 x.1.2 ++ quoteJ (strZ ks x.2) ++ [zByte (58 : Int)] ++
 textJ
 (JV.mk
 ((eltV ls x.2).part
 (0 : Nat)).asInt
 ((eltV ls x.2).part
 (1 : Nat)).asBool
 ((eltV ls x.2).part
 (2 : Nat)).asStr
 ((eltV ls x.2).part
 (3 : Nat)).asNil
 ((eltV ls x.2).part
 (3 : Nat)).asStrs
 ((eltV ls x.2).part
 (4 : Nat)).asNil
 (jdecs
 ((eltV ls x.2).part
 (4 : Nat)).asVec)) =
 (123 : UInt8) ::
 objJ true ks
 (List.take (x.2 + (1 : Int)).toNat (jdecs ls))) ∧
 (↑ls.length - (x.2 + (1 : Int))).toNat < (↑ls.length - x.2).toNat)) ∧
 (decide (x.2 < lenZ ls) = false →
 allU8 [PV.int .u8 (125 : Int)] ∧
 Int.ofNat (List.length (x.1.2 ++ [zByte (125 : Int)])) ≤ maxRow ∧
 k (PV.row false (BRow.bytes (x.1.2 ++ [zByte (125 : Int)])) (0 : Nat)))) ∧
 (decide (kd = (5 : Int)) = false →
 allU8
 [PV.int .u8 (110 : Int), PV.int .u8 (117 : Int), PV.int .u8 (108 : Int),
 PV.int .u8 (108 : Int)] ∧
 k
 (PV.row false
 (BRow.bytes [zByte (110 : Int), zByte (117 : Int), zByte (108 : Int), zByte (108 : Int)])
 (0 : Nat)))))))) := by kernel_rfl
attribute [local irreducible] Go.Vc.evF
theorem ok_rtext (m : Nat) (ih : ∀ xs c, ent_rtext m xs = some c → FuncOk Try.prog noT 14 xs c) (kd : Int) (bv : Bool) (sv : Bs) (nk : Bool) (ks : List Bs) (nl : Bool) (ls : List PV) : FuncOk Try.prog noT 14 [.agg [.int .i64 kd, .bool bv, .str sv, .row nk (.strs ks) 0, .vec nl 5 ls 0]] ⟨isJs ls ∧ okJ (m + 1) (.mk kd bv sv nk ks nl (jdecs ls)) ∧ shapeJ (.mk kd bv sv nk ks nl (jdecs ls)) = true ∧ sizeJ (.mk kd bv sv nk ks nl (jdecs ls)) ≤ 10000, .row false (.bytes (textJ (.mk kd bv sv nk ks nl (jdecs ls)))) 0⟩ := evF_ok (by kernel_rfl) (X_rtext_ok m ih) (H := H_rtext m kd bv sv nk ks nl ls) (fuel := 1000) Try.func14 (by kernel_rfl) fun hpre => (vc_rtext m kd bv sv nk ks nl ls _).mpr (by
  obtain ⟨⟨js, rfl⟩, hok, hsh, hsz⟩ := hpre
  rw [jdecs_pvs] at hok hsh hsz
  have hT : textJ (.mk kd bv sv nk ks nl js) = if kd = 1 then (if bv = true then [116, 114, 117, 101] else [102, 97, 108, 115, 101]) else if kd = 2 then sv else if kd = 3 then quoteJ sv else if kd = 4 then 91 :: (arrJ true js ++ [93]) else if kd = 5 then 123 :: (objJ true ks js ++ [125]) else [110, 117, 108, 108] := by rw [textJ]
  obtain ⟨hk, hs, hks, hkl, hls, hj⟩ := hok
  simp only [JV.k, JV.s, JV.ks, JV.ls] at hk hs hks hkl hls hj
  have hml : bigJ = 140737488355328 := rfl
  have hmr : maxRow = 16777216 := rfl
  have hmx : Go.Vc.maxLen = 1099511627776 := rfl
  rw [sizeJ] at hsz
  have hsh0 := hsh
  rw [shapeJ, Bool.and_eq_true, Bool.and_eq_true] at hsh0
  have hsh2 : shapeJs js = true := hsh0.2
  simp only [jdecs_pvs, pvs_lenZ, pvs_length]
  have fin : ∀ x : Bs, textJ (.mk kd bv sv nk ks nl js) = x → PV.row false (BRow.bytes x) 0 = PV.row false (BRow.bytes (textJ (.mk kd bv sv nk ks nl js))) 0 := fun x e => by rw [e]
  refine ⟨fun h1 => ⟨fun h2 => ⟨⟨u8_0 (by omega) (by omega), u8_0 (by omega) (by omega), u8_0 (by omega) (by omega), u8_0 (by omega) (by omega)⟩, fin _ ?_⟩, fun h2 => ⟨⟨u8_0 (by omega) (by omega), u8_0 (by omega) (by omega), u8_0 (by omega) (by omega), u8_0 (by omega) (by omega), u8_0 (by omega) (by omega)⟩, fin _ ?_⟩⟩, fun h1 => ?_⟩
  · rw [hT, if_pos (of_decide_eq_true h1), if_pos h2]; rfl
  · rw [hT, if_pos (of_decide_eq_true h1), if_neg (by rw [h2]; simp)]; rfl
  have h1 := of_decide_eq_false h1
  rw [if_neg h1] at hT
  refine ⟨fun h2 => ⟨by omega, fin _ ?_⟩, fun h2 => ?_⟩
  · rw [hT, if_pos (of_decide_eq_true h2)]
  have h2 := of_decide_eq_false h2
  rw [if_neg h2] at hT
  refine ⟨fun h3 => ⟨(by show sv.length ≤ 100000; omega), fin _ ?_⟩, fun h3 => ?_⟩
  · rw [hT, if_pos (of_decide_eq_true h3)]
  have h3 := of_decide_eq_false h3
  rw [if_neg h3] at hT
  refine ⟨fun h4 => ?_, fun h4 => ?_⟩
  · rw [if_pos (of_decide_eq_true h4)] at hT
    refine ⟨u8_1 (by omega) (by omega), by first | rfl | trivial, ⟨by omega, by omega, by first | rfl | trivial, by simp [arrJ, show zByte 91 = (91 : UInt8) by decide]⟩, fun x hx => ?_⟩
    obtain ⟨⟨nl', o⟩, i⟩ := x
    obtain ⟨f0, f1, f2, f3⟩ := hx
    simp only at f0 f1 f2 f3
    subst f2
    subst f3
    obtain ⟨n, rfl⟩ := Int.eq_ofNat_of_zero_le f0
    simp only [Int.toNat_natCast]
    have hn1 : ((n : Int) + 1).toNat = n + 1 := by omega
    simp only [hn1]
    have hst := sizeJs_take_le js n
    have hA := arrJ_len true (js.take n)
    refine ⟨fun g => ?_, fun g => ?_⟩
    · have g1 : n < js.length := by have := of_decide_eq_true g; omega
      have hT1 := sizeJs_take g1
      have hT2 := sizeJs_take_le js (n + 1)
      have y1 := hj _ (List.getElem_mem g1)
      have y2 := shapeJs_mem (List.getElem_mem g1) hsh2
      have y3 := textJ_len js[n]
      have hAT := arrJ_take g1 true
      simp only [elt_jv g1, jp0, jp1, jp2, jp3, jp3', jp4, jp4', jdecs_pvs, JV.eta']
      have eL : ∀ b : Bool, b = false → (bif List.rec (motive := fun _ => Bool) true (fun _ _ _ => false) (textJ js[n]) then b else false) = false := fun b hb => by rw [hb]; cases (List.rec (motive := fun _ => Bool) true (fun _ _ _ => false) (textJ js[n]) : Bool) <;> rfl
      refine ⟨fun q => ?_, fun q => ?_⟩
      · have q2 : (0 : Int) < n := of_decide_eq_true q
        have q3 : n ≠ 0 := by omega
        refine ⟨u8_1 (by omega) (by omega), by simp only [List.length_append, List.length_cons, List.length_nil, Int.ofNat_eq_natCast]; omega, ⟨by omega, by omega⟩, JV.pv_eq _, ⟨isJs_of _, y1, y2, by omega⟩, by simp only [List.length_append, List.length_cons, List.length_nil, Int.ofNat_eq_natCast]; omega, by unfold inI64; omega, by first | rfl | trivial, ⟨by omega, by omega, eL _ rfl, ?_⟩, by omega⟩
        rw [hAT]
        simp [q3, show zByte 44 = (44 : UInt8) by decide]
      · have q2 : ¬ (0 : Int) < n := of_decide_eq_false q
        have q3 : n = 0 := by omega
        refine ⟨⟨by omega, by omega⟩, JV.pv_eq _, ⟨isJs_of _, y1, y2, by omega⟩, by simp only [List.length_append, List.length_cons, List.length_nil, Int.ofNat_eq_natCast]; omega, by unfold inI64; omega, by first | rfl | trivial, ⟨by omega, by omega, eL _ rfl, ?_⟩, by omega⟩
        rw [hAT]
        simp [q3, show zByte 44 = (44 : UInt8) by decide]
    · have g1 : ¬ (n : Int) < js.length := of_decide_eq_false g
      have ht : js.take n = js := List.take_of_length_le (by omega)
      rw [ht] at hA ⊢
      refine ⟨u8_1 (by omega) (by omega), by simp only [List.length_append, List.length_cons, List.length_nil, Int.ofNat_eq_natCast]; omega, fin _ ?_⟩
      rw [hT]; simp [show zByte 93 = (93 : UInt8) by decide]
  have h4 := of_decide_eq_false h4
  rw [if_neg h4] at hT
  refine ⟨fun h5 => ?_, fun h5 => ?_⟩
  · have h5 := of_decide_eq_true h5
    have hkl2 : js.length ≤ ks.length := by have := hsh0.1.1; rw [h5] at this; simpa using this
    rw [if_pos h5] at hT
    refine ⟨u8_1 (by omega) (by omega), by first | rfl | trivial, ⟨by omega, by omega, by first | rfl | trivial, by simp [objJ, show zByte 123 = (123 : UInt8) by decide]⟩, fun x hx => ?_⟩
    obtain ⟨⟨nl', o⟩, i⟩ := x
    obtain ⟨f0, f1, f2, f3⟩ := hx
    simp only at f0 f1 f2 f3
    subst f2
    subst f3
    obtain ⟨n, rfl⟩ := Int.eq_ofNat_of_zero_le f0
    simp only [Int.toNat_natCast]
    have hn1 : ((n : Int) + 1).toNat = n + 1 := by omega
    simp only [hn1]
    have hst := sizeJs_take_le js n
    have hA := objJ_take_len (ks := ks) (l := js) (n := n) (by omega)
    refine ⟨fun g => ?_, fun g => ?_⟩
    · have g1 : n < js.length := by have := of_decide_eq_true g; omega
      have gk : n < ks.length := by omega
      have hT1 := sizeJs_take g1
      have hT2 := sizeJs_take_le js (n + 1)
      have hk1 := sumK_take gk
      have hk2 := sumK_take_le ks (n + 1)
      have y1 := hj _ (List.getElem_mem g1)
      have y2 := shapeJs_mem (List.getElem_mem g1) hsh2
      have y3 := textJ_len js[n]
      have y4 := quoteJ_len ks[n]
      have hAT := objJ_take g1 gk true
      have hes := str_at gk
      simp only [elt_jv g1, jp0, jp1, jp2, jp3, jp3', jp4, jp4', jdecs_pvs, JV.eta', hes]
      have eL : ∀ b : Bool, b = false → (bif List.rec (motive := fun _ => Bool) true (fun _ _ _ => false) (textJ js[n]) then b else false) = false := fun b hb => by rw [hb]; cases (List.rec (motive := fun _ => Bool) true (fun _ _ _ => false) (textJ js[n]) : Bool) <;> rfl
      have a1 : within (n : Int) (Int.ofNat ks.length) := ⟨by omega, by simp only [Int.ofNat_eq_natCast]; omega⟩
      have a2 : within (n : Int) (js.length : Int) := ⟨by omega, by omega⟩
      have a3 : (List.length ks[n]).le 100000 := by show ks[n].length ≤ 100000; omega
      have a4 : sizeJ js[n] ≤ 10000 := by omega
      have a5 : inI64 ((n : Int) + 1) := by unfold inI64; omega
      have a6 := isJs_of js[n].ls
      have a7 := JV.pv_eq js[n]
      have a8 : (0 : Int) ≤ (n : Int) + 1 := by omega
      have a9 : (n : Int) + 1 ≤ (js.length : Int) := by omega
      have b1 : ((js.length : Int) - ((n : Int) + 1)).toNat < ((js.length : Int) - (n : Int)).toNat := by omega
      have b2 : allU8 [PV.int .u8 58] := u8_1 (by omega) (by omega)
      have b3 : allU8 [PV.int .u8 44] := u8_1 (by omega) (by omega)
      have b4 := eL _ (rfl : false = false)
      refine ⟨fun q => ?_, fun q => ?_⟩
      · have q2 : (0 : Int) < n := of_decide_eq_true q
        have q3 : n ≠ 0 := by omega
        have c1 : Int.ofNat (List.length (123 :: objJ true ks (List.take n js) ++ [zByte 44])) ≤ maxRow := by simp only [List.length_append, List.length_cons, List.length_nil, Int.ofNat_eq_natCast]; omega
        have c2 : Int.ofNat (List.length (123 :: objJ true ks (List.take n js) ++ [zByte 44] ++ quoteJ ks[n])) ≤ maxRow := by simp only [List.length_append, List.length_cons, List.length_nil, Int.ofNat_eq_natCast]; omega
        have c3 : Int.ofNat (List.length (123 :: objJ true ks (List.take n js) ++ [zByte 44] ++ quoteJ ks[n] ++ [zByte 58])) ≤ maxRow := by simp only [List.length_append, List.length_cons, List.length_nil, Int.ofNat_eq_natCast]; omega
        have c4 : Int.ofNat (List.length (123 :: objJ true ks (List.take n js) ++ [zByte 44] ++ quoteJ ks[n] ++ [zByte 58] ++ textJ js[n])) ≤ maxRow := by simp only [List.length_append, List.length_cons, List.length_nil, Int.ofNat_eq_natCast]; omega
        have c5 : 123 :: objJ true ks (List.take n js) ++ [zByte 44] ++ quoteJ ks[n] ++ [zByte 58] ++ textJ js[n] = 123 :: objJ true ks (List.take (n + 1) js) := by rw [hAT]; simp [q3, show zByte 44 = (44 : UInt8) by decide, show zByte 58 = (58 : UInt8) by decide]
        (repeat' (with_reducible apply And.intro)) <;> first | with_reducible assumption | with_reducible rfl | trivial | rfl
      · have q2 : ¬ (0 : Int) < n := of_decide_eq_false q
        have q3 : n = 0 := by omega
        have c2 : Int.ofNat (List.length (123 :: objJ true ks (List.take n js) ++ quoteJ ks[n])) ≤ maxRow := by simp only [List.length_append, List.length_cons, List.length_nil, Int.ofNat_eq_natCast]; omega
        have c3 : Int.ofNat (List.length (123 :: objJ true ks (List.take n js) ++ quoteJ ks[n] ++ [zByte 58])) ≤ maxRow := by simp only [List.length_append, List.length_cons, List.length_nil, Int.ofNat_eq_natCast]; omega
        have c4 : Int.ofNat (List.length (123 :: objJ true ks (List.take n js) ++ quoteJ ks[n] ++ [zByte 58] ++ textJ js[n])) ≤ maxRow := by simp only [List.length_append, List.length_cons, List.length_nil, Int.ofNat_eq_natCast]; omega
        have c5 : 123 :: objJ true ks (List.take n js) ++ quoteJ ks[n] ++ [zByte 58] ++ textJ js[n] = 123 :: objJ true ks (List.take (n + 1) js) := by rw [hAT]; simp [q3, show zByte 44 = (44 : UInt8) by decide, show zByte 58 = (58 : UInt8) by decide]
        (repeat' (with_reducible apply And.intro)) <;> first | with_reducible assumption | with_reducible rfl | trivial | rfl
    · have g1 : ¬ (n : Int) < js.length := of_decide_eq_false g
      have ht : js.take n = js := List.take_of_length_le (by omega)
      have hA2 := objJ_len true ks js
      rw [ht]
      refine ⟨u8_1 (by omega) (by omega), by simp only [List.length_append, List.length_cons, List.length_nil, Int.ofNat_eq_natCast]; omega, fin _ ?_⟩
      rw [hT]; simp [show zByte 125 = (125 : UInt8) by decide]
  have h5 := of_decide_eq_false h5
  rw [if_neg h5] at hT
  refine ⟨⟨u8_0 (by omega) (by omega), u8_0 (by omega) (by omega), u8_0 (by omega) (by omega), u8_0 (by omega) (by omega)⟩, fin _ ?_⟩
  rw [hT]; rfl)
theorem ent_rtext_ok : ∀ (n : Nat) xs c, ent_rtext n xs = some c → FuncOk Try.prog noT 14 xs c
  | 0, xs, c, h => by
    unfold ent_rtext at h
    split at h
    · injection h with h; subst h; exact .of_plain ⟨rfl, rfl⟩ fun hp => False.elim (hp.2.1)
    · cases h
  | m + 1, xs, c, h => by
    unfold ent_rtext at h
    split at h
    · injection h with h; subst h; exact ok_rtext m (ent_rtext_ok m) _ _ _ _ _ _ _
    · cases h
def entA_rtext : List PV → Option CallR := fun xs => match xs with
  | [.agg [.int .i64 kd, .bool bv, .str sv, .row nk (.strs ks) 0, .vec nl 5 ls 0]] => some ⟨∃ dn : Nat, isJs ls ∧ okJ dn (.mk kd bv sv nk ks nl (jdecs ls)) ∧ shapeJ (.mk kd bv sv nk ks nl (jdecs ls)) = true ∧ sizeJ (.mk kd bv sv nk ks nl (jdecs ls)) ≤ 10000, .row false (.bytes (textJ (.mk kd bv sv nk ks nl (jdecs ls)))) 0⟩
  | _ => none
theorem entA_rtext_ok : ∀ xs c, entA_rtext xs = some c → FuncOk Try.prog noT 14 xs c := fun xs c h => by
  unfold entA_rtext at h
  split at h
  · injection h with h; subst h; exact exI fun n => ent_rtext_ok n _ _ rfl
  · cases h
end
section
def lowZ (x n : Int) : Int := (x % 18446744073709551616) % n
theorem lowZ_range {x n : Int} (h : 1 ≤ n) : 0 ≤ lowZ x n ∧ lowZ x n < n := ⟨Int.emod_nonneg _ (by omega), Int.emod_lt_of_pos _ (by omega)⟩
def X_low : Tbl := tblX []
def H_low (x0 m0 : Int) : Loops := fun i => none
theorem X_low_ok : XOk Try.prog noT X_low := tblX_nil
theorem vc_low (x0 m0 : Int) (k : PV → Prop) : evF Try.prog X_low noT (H_low x0 m0) 1000 Try.f9 [.int .i64 x0, .int .i64 m0] k = (
  ((0 : Int) ≤ Go.IntKind.u64.wrap x0 ∧ (0 : Int) < Go.IntKind.u64.wrap m0) ∧
 k (PV.int .i64 (Go.IntKind.i64.wrap (Go.IntKind.u64.wrap x0 % Go.IntKind.u64.wrap m0)))) := by kernel_rfl
attribute [local irreducible] Go.Vc.evF
theorem ok_low (x0 m0 : Int) : FuncOk Try.prog noT 9 [.int .i64 x0, .int .i64 m0] ⟨-9223372036854775808 ≤ x0 ∧ x0 ≤ 9223372036854775807 ∧ 1 ≤ m0 ∧ m0 ≤ 4611686018427387904, .int .i64 (lowZ x0 m0)⟩ := evF_ok (by kernel_rfl) X_low_ok (H := H_low x0 m0) (fuel := 1000) Try.func9 (by kernel_rfl) fun hpre => (vc_low x0 m0 _).mpr (by
  obtain ⟨h0, h1, h2, h3⟩ := hpre
  have e1 : IntKind.u64.wrap x0 = x0 % 18446744073709551616 := rfl
  have e2 : IntKind.u64.wrap m0 = m0 := by show m0 % 18446744073709551616 = m0; omega
  rw [e1, e2]
  have r := lowZ_range (x := x0) h2
  refine ⟨⟨by omega, by omega⟩, ?_⟩
  show PV.int _ (IntKind.i64.wrap (lowZ x0 m0)) = PV.int _ _
  rw [IntKind.wrap_i64]
  congr 1
  omega)
def ent_low : List PV → Option CallR := fun xs => match xs with
  | [.int .i64 x0, .int .i64 m0] => some ⟨-9223372036854775808 ≤ x0 ∧ x0 ≤ 9223372036854775807 ∧ 1 ≤ m0 ∧ m0 ≤ 4611686018427387904, .int .i64 (lowZ x0 m0)⟩
  | _ => none
theorem ent_low_ok : ∀ xs c, ent_low xs = some c → FuncOk Try.prog noT 9 xs c := fun xs c h => by
  unfold ent_low at h
  split at h
  · injection h with h; subst h; exact ok_low _ _
  · cases h
end
section
def turnM (l : Bs) (at_ by_ : Int) : Bs := if l = [] then [] else l.set (lowZ at_ l.length).toNat (zByte (IntKind.u8.wrap (byteZ l (lowZ at_ l.length) + by_)))
def X_turned : Tbl := tblX [(9, ent_low), (99999999, ent_own)]
def H_turned (l : Bs) (z0 b0 : Int) : Loops := fun i => none
theorem X_turned_ok : XOk Try.prog noT X_turned := tblX_cons ent_low_ok (tblX_cons ent_own_ok (tblX_nil))
theorem vc_turned (l : Bs) (z0 b0 : Int) (k : PV → Prop) : evF Try.prog X_turned noT (H_turned l z0 b0) 1000 Try.f6 [.str l, .int .i64 z0, .int .u8 b0] k = (
  List.length l ≤ Go.Vc.maxLen ∧
 (decide ((0 : Int) < Int.ofNat (List.length l)) = true →
 ((-9223372036854775808 : Int) ≤ z0 ∧
 z0 ≤ (9223372036854775807 : Int) ∧ (1 : Int) ≤ Int.ofNat (List.length l) ∧ Int.ofNat (List.length l) ≤ (4611686018427387904 : Int)) ∧
 within (lowZ z0 (Int.ofNat (List.length l))) (Int.ofNat (List.length l)) ∧
 within (lowZ z0 (Int.ofNat (List.length l))) (Int.ofNat (List.length l)) ∧
 ((0 : Int) ≤ Go.IntKind.u8.wrap (byteZ l (lowZ z0 (Int.ofNat (List.length l))) + b0) ∧
 Go.IntKind.u8.wrap (byteZ l (lowZ z0 (Int.ofNat (List.length l))) + b0) ≤ (255 : Int)) ∧
 k
 (PV.str
 (setZ l (lowZ z0 (Int.ofNat (List.length l)))
 (zByte (Go.IntKind.u8.wrap (byteZ l (lowZ z0 (Int.ofNat (List.length l))) + b0)))))) ∧
 (decide ((0 : Int) < Int.ofNat (List.length l)) = false → k (PV.str l))) := by kernel_rfl
attribute [local irreducible] Go.Vc.evF
theorem ok_turned (l : Bs) (z0 b0 : Int) : FuncOk Try.prog noT 6 [.str l, .int .i64 z0, .int .u8 b0] ⟨l.length ≤ 100000 ∧ -9223372036854775808 ≤ z0 ∧ z0 ≤ 9223372036854775807 ∧ 0 ≤ b0 ∧ b0 ≤ 255, .str (turnM l z0 b0)⟩ := evF_ok (by kernel_rfl) X_turned_ok (H := H_turned l z0 b0) (fuel := 1000) Try.func6 (by kernel_rfl) fun hpre => (vc_turned l z0 b0 _).mpr (by
  obtain ⟨hl, h0, h1, h2, h3⟩ := hpre
  have hmx : Go.Vc.maxLen = 1099511627776 := rfl
  have el : Int.ofNat l.length = (l.length : Int) := rfl
  rw [el]
  refine ⟨by omega, fun g => ?_, fun g => ?_⟩
  · have g := of_decide_eq_true g
    have r := lowZ_range (x := z0) (n := (l.length : Int)) (by omega)
    refine ⟨⟨h0, h1, by omega, by omega⟩, r, r, ⟨?_, ?_⟩, ?_⟩
    · show (0 : Int) ≤ (byteZ l (lowZ z0 (l.length : Int)) + b0) % 256; omega
    · show (byteZ l (lowZ z0 (l.length : Int)) + b0) % 256 ≤ 255; omega
    · show PV.str _ = PV.str _
      unfold turnM setZ
      rw [if_neg (fun e => by rw [e] at g; simp at g)]
  · have g := of_decide_eq_false g
    have : l = [] := List.eq_nil_of_length_eq_zero (by omega)
    subst this
    rfl)
def ent_turned : List PV → Option CallR := fun xs => match xs with
  | [.str l, .int .i64 z0, .int .u8 b0] => some ⟨l.length ≤ 100000 ∧ -9223372036854775808 ≤ z0 ∧ z0 ≤ 9223372036854775807 ∧ 0 ≤ b0 ∧ b0 ≤ 255, .str (turnM l z0 b0)⟩
  | _ => none
theorem ent_turned_ok : ∀ xs c, ent_turned xs = some c → FuncOk Try.prog noT 6 xs c := fun xs c h => by
  unfold ent_turned at h
  split at h
  · injection h with h; subst h; exact ok_turned _ _ _
  · cases h
end
end Go.Proofs.Ytncfmmpdlcnboaa
