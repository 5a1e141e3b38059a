import Derived.Test.YtaklcjnfjchebaaProg
import Derived.ProofKit
import Derived.Test.YtaklcjnfjchebaaSt96
import Derived.Test.YtaklcjnfjchebaaSt97
set_option linter.unusedVariables false
set_option linter.unusedSimpArgs false
set_option maxRecDepth 100000
set_option maxHeartbeats 4000000
namespace Go.Proofs.Ytaklcjnfjchebaa
open Go Go.Proofs Go.RowKit Go.Vc
open Go.Proofs.Jv
section
def ent_jsame (dn : Nat) : List PV → Option CallR := fun xs => match xs with
  | [.agg [.int .i64 kd, .bool bv, .str sv, .row nk (.strs ks) 0, .vec nl 5 ls 0], .agg [.int .i64 kd2, .bool bv2, .str sv2, .row nk2 (.strs ks2) 0, .vec nl2 5 ls2 0], .int .i64 d] => some ⟨isJs ls ∧ okJ dn (.mk kd bv sv nk ks nl (jdecs ls)) ∧ isJs ls2 ∧ (∃ q, okJ q (.mk kd2 bv2 sv2 nk2 ks2 nl2 (jdecs ls2))) ∧ ((dn : Int) ≤ d ∧ d ≤ 1000000), .bool (sameJ (.mk kd bv sv nk ks nl (jdecs ls)) (.mk kd2 bv2 sv2 nk2 ks2 nl2 (jdecs ls2)))⟩
  | _ => none
def X_jsame (m : Nat) : Tbl := tblX [(38, ent_equal), (24, ent_jsame m)]
def H_jsame (m : Nat) (kd : Int) (bv : Bool) (sv : Bs) (nk : Bool) (ks : List Bs) (nl : Bool) (ls : List PV) (kd2 : Int) (bv2 : Bool) (sv2 : Bs) (nk2 : Bool) (ks2 : List Bs) (nl2 : Bool) (ls2 : List PV) (d : Int) : Loops := fun i => bif Nat.beq i 6 then some ⟨(Int), (fun s x => ((((s.put 53 (.int .i64 x)).put 7 .undef).put 54 .undef).put 69 .undef)), (fun s => s.int 53), (fun s x => let i := x; 0 ≤ i ∧ i ≤ ls.length ∧ ls.length = ls2.length ∧ sameJs ((jdecs ls).drop i.toNat) ((jdecs ls2).drop i.toNat) = sameJs (jdecs ls) (jdecs ls2)), (fun s x => let i := x; ((ls.length : Int) - i).toNat), [7, 54, 69]⟩ else none
theorem X_jsame_ok (m : Nat) (ih : ∀ xs c, ent_jsame m xs = some c → FuncOk Try.prog noT 24 xs c) : XOk Try.prog noT (X_jsame m) := tblX_cons ent_equal_ok (tblX_cons ih (tblX_nil))
theorem vc_jsame (m : Nat) (kd : Int) (bv : Bool) (sv : Bs) (nk : Bool) (ks : List Bs) (nl : Bool) (ls : List PV) (kd2 : Int) (bv2 : Bool) (sv2 : Bs) (nk2 : Bool) (ks2 : List Bs) (nl2 : Bool) (ls2 : List PV) (d : Int) (k : PV → Prop) : evF Try.prog (X_jsame m) noT (H_jsame m kd bv sv nk ks nl ls kd2 bv2 sv2 nk2 ks2 nl2 ls2 d) 1000 Try.f24 [.agg [.int .i64 kd, .bool bv, .str sv, .row nk (.strs ks) 0, .vec nl 5 ls 0], .agg [.int .i64 kd2, .bool bv2, .str sv2, .row nk2 (.strs ks2) 0, .vec nl2 5 ls2 0], .int .i64 d] k = (
  ((bif bif bif !decide (kd = kd2) then true else Bool.rec true false (bv == bv2) then true else !decide (sv = sv2) then true
 else !decide (lenZ ls = lenZ ls2)) =
 false →
 ks.length ≤ bigJ ∧ ks2.length ≤ bigJ) ∧
 ((bif
 bif bif bif !decide (kd = kd2) then true else Bool.rec true false (bv == bv2) then true else !decide (sv = sv2) then true
 else !decide (lenZ ls = lenZ ls2) then
 true
 else !decide (ks = ks2)) =
 true →
 k (PV.bool false)) ∧
 ((bif
 bif bif bif !decide (kd = kd2) then true else Bool.rec true false (bv == bv2) then true else !decide (sv = sv2) then true
 else !decide (lenZ ls = lenZ ls2) then
 true
 else !decide (ks = ks2)) =
 false →
 (decide (d = (0 : Int)) = true → k (PV.bool (decide (lenZ ls = (0 : Int))))) ∧
 (decide (d = (0 : Int)) = false →
 VS.mk []
 [(0,
 PV.agg
 [PV.int .i64 kd, PV.bool bv, PV.str sv, PV.row nk (BRow.strs ks) (0 : Nat),
 PV.vec nl (5 : Nat) ls (0 : Nat)]),
 (1,
 PV.agg
 [PV.int .i64 kd2, PV.bool bv2, PV.str sv2, PV.row nk2 (BRow.strs ks2) (0 : Nat),
 PV.vec nl2 (5 : Nat) ls2 (0 : Nat)]),
 (2, PV.int .i64 d), (3, PV.ptr ((3 : Nat) + (32 : Nat)) (0 : Nat)),
 (4, PV.ptr ((4 : Nat) + (32 : Nat)) (0 : Nat)), (6, PV.bool false), ((7 : Nat), PV.undef),
 (43,
 PV.bool
 (bif
 bif bif bif !decide (kd = kd2) then true else Bool.rec true false (bv == bv2) then true else !decide (sv = sv2) then true
 else !decide (lenZ ls = lenZ ls2) then
 true
 else !decide (ks = ks2))),
 (45, PV.bool (decide (d = (0 : Int)))), (52, PV.int .i64 (lenZ ls)),
 (53, PV.int .i64 (0 : Int)), ((54 : Nat), PV.undef), ((69 : Nat), PV.undef)]
 [((4 : Nat) + (32 : Nat),
 PV.agg
 [PV.int .i64 kd2, PV.bool bv2, PV.str sv2, PV.row nk2 (BRow.strs ks2) (0 : Nat),
 PV.vec nl2 (5 : Nat) ls2 (0 : Nat)]),
 ((3 : Nat) + (32 : Nat),
 PV.agg
 [PV.int .i64 kd, PV.bool bv, PV.str sv, PV.row nk (BRow.strs ks) (0 : Nat),
 PV.vec nl (5 : Nat) ls (0 : Nat)])] =
 VS.mk []
 [(0,
 PV.agg
 [PV.int .i64 kd, PV.bool bv, PV.str sv, PV.row nk (BRow.strs ks) (0 : Nat),
 PV.vec nl (5 : Nat) ls (0 : Nat)]),
 (1,
 PV.agg
 [PV.int .i64 kd2, PV.bool bv2, PV.str sv2, PV.row nk2 (BRow.strs ks2) (0 : Nat),
 PV.vec nl2 (5 : Nat) ls2 (0 : Nat)]),
 (2, PV.int .i64 d), (3, PV.ptr ((3 : Nat) + (32 : Nat)) (0 : Nat)),
 (4, PV.ptr ((4 : Nat) + (32 : Nat)) (0 : Nat)), (6, PV.bool false), ((7 : Nat), PV.undef),
 (43,
 PV.bool
 (bif
 bif bif bif !decide (kd = kd2) then true else Bool.rec true false (bv == bv2) then true else !decide (sv = sv2) then true
 else !decide (lenZ ls = lenZ ls2) then
 true
 else !decide (ks = ks2))),
 (45, PV.bool (decide (d = (0 : Int)))), (52, PV.int .i64 (lenZ ls)),
 ((53 : Nat), PV.int .i64 (0 : Int)), ((54 : Nat), PV.undef), ((69 : Nat), PV.undef)]
 [((4 : Nat) + (32 : Nat),
 PV.agg
 [PV.int .i64 kd2, PV.bool bv2, PV.str sv2, PV.row nk2 (BRow.strs ks2) (0 : Nat),
 PV.vec nl2 (5 : Nat) ls2 (0 : Nat)]),
 ((3 : Nat) + (32 : Nat),
 PV.agg
 [PV.int .i64 kd, PV.bool bv, PV.str sv, PV.row nk (BRow.strs ks) (0 : Nat),
 PV.vec nl (5 : Nat) ls (0 : Nat)])] ∧
 ((0 : Int) ≤ (0 : Int) ∧
 (0 : Int) ≤ ↑ls.length ∧
 ls.length = ls2.length ∧
 sameJs (List.drop (Int.toNat (0 : Int)) (jdecs ls)) (List.drop (Int.toNat (0 : Int)) (jdecs ls2)) =
 sameJs (jdecs ls) (jdecs ls2)) ∧
 ∀ (x : Int),
 (0 : Int) ≤ x ∧
 x ≤ ↑ls.length ∧
 ls.length = ls2.length ∧
 sameJs (List.drop x.toNat (jdecs ls)) (List.drop x.toNat (jdecs ls2)) =
 sameJs (jdecs ls) (jdecs ls2) →
 (decide (x < lenZ ls) = true →
 within x (lenZ ls) ∧
 eltV ls x =
 PV.agg
 [PV.int .i64 ((eltV ls x).part (0 : Nat)).asInt,
 PV.bool ((eltV ls x).part (1 : Nat)).asBool,
 PV.str
 ((eltV ls x).part (2 : Nat)).asStr,
 PV.row
 ((eltV ls x).part
 (3 : Nat)).asNil
 (BRow.strs
 ((eltV ls x).part
 (3 : Nat)).asStrs)
 (0 : Nat),
 PV.vec
 ((eltV ls x).part
 (4 : Nat)).asNil
 (nat_lit 5)
 ((eltV ls x).part
 (4 : Nat)).asVec
 (0 : Nat)] ∧
 within x (lenZ ls2) ∧
 eltV ls2 x =
 PV.agg
 [PV.int .i64 ((eltV ls2 x).part (0 : Nat)).asInt,
 PV.bool ((eltV ls2 x).part (1 : Nat)).asBool,
 PV.str
 ((eltV ls2 x).part (2 : Nat)).asStr,
 PV.row
 ((eltV ls2 x).part
 (3 : Nat)).asNil
 (BRow.strs
 ((eltV ls2 x).part
 (3 : Nat)).asStrs)
 (0 : Nat),
 PV.vec
 ((eltV ls2 x).part
 (4 : Nat)).asNil
 (nat_lit 5)
 ((eltV ls2 x).part
 (4 : Nat)).asVec
 (0 : Nat)] ∧
 inI64 (d - (1 : Int)) ∧
 (isJs
 ((eltV ls x).part
 (4 : Nat)).asVec ∧
 okJ m
 (JV.mk ((eltV ls x).part (0 : Nat)).asInt
 ((eltV ls x).part (1 : Nat)).asBool
 ((eltV ls x).part
 (2 : Nat)).asStr
 ((eltV ls x).part
 (3 : Nat)).asNil
 ((eltV ls x).part
 (3 : Nat)).asStrs
 ((eltV ls x).part
 (4 : Nat)).asNil
 (jdecs
 ((eltV ls x).part
 (4 : Nat)).asVec)) ∧
 isJs
 ((eltV ls2 x).part
 (4 : Nat)).asVec ∧
 (∃ (q : Nat),
 okJ q
 (JV.mk ((eltV ls2 x).part (0 : Nat)).asInt
 ((eltV ls2 x).part (1 : Nat)).asBool
 ((eltV ls2 x).part
 (2 : Nat)).asStr
 ((eltV ls2 x).part
 (3 : Nat)).asNil
 ((eltV ls2 x).part
 (3 : Nat)).asStrs
 ((eltV ls2 x).part
 (4 : Nat)).asNil
 (jdecs
 ((eltV ls2 x).part
 (4 : Nat)).asVec))) ∧
 ↑m ≤ d - (1 : Int) ∧ d - (1 : Int) ≤ (1000000 : Int)) ∧
 ((!sameJ
 (JV.mk ((eltV ls x).part (0 : Nat)).asInt
 ((eltV ls x).part (1 : Nat)).asBool
 ((eltV ls x).part
 (2 : Nat)).asStr
 ((eltV ls x).part
 (3 : Nat)).asNil
 ((eltV ls x).part
 (3 : Nat)).asStrs
 ((eltV ls x).part
 (4 : Nat)).asNil
 (jdecs
 ((eltV ls x).part
 (4 : Nat)).asVec))
 (JV.mk ((eltV ls2 x).part (0 : Nat)).asInt
 ((eltV ls2 x).part (1 : Nat)).asBool
 ((eltV ls2 x).part
 (2 : Nat)).asStr
 ((eltV ls2 x).part
 (3 : Nat)).asNil
 ((eltV ls2 x).part
 (3 : Nat)).asStrs
 ((eltV ls2 x).part
 (4 : Nat)).asNil
 (jdecs
 ((eltV ls2 x).part
 (4 : Nat)).asVec))) =
 true →
 k (PV.bool false)) ∧
 ((!sameJ
 (JV.mk ((eltV ls x).part (0 : Nat)).asInt
 ((eltV ls x).part (1 : Nat)).asBool
 ((eltV ls x).part
 (2 : Nat)).asStr
 ((eltV ls x).part
 (3 : Nat)).asNil
 ((eltV ls x).part
 (3 : Nat)).asStrs
 ((eltV ls x).part
 (4 : Nat)).asNil
 (jdecs
 ((eltV ls x).part
 (4 : Nat)).asVec))
 (JV.mk ((eltV ls2 x).part (0 : Nat)).asInt
 ((eltV ls2 x).part (1 : Nat)).asBool
 ((eltV ls2 x).part
 (2 : Nat)).asStr
 ((eltV ls2 x).part
 (3 : Nat)).asNil
 ((eltV ls2 x).part
 (3 : Nat)).asStrs
 ((eltV ls2 x).part
 (4 : Nat)).asNil
 (jdecs
 ((eltV ls2 x).part
 (4 : Nat)).asVec))) =
 false →
 inI64 (x + (1 : Int)) ∧
 VS.mk []
 [(0,
 PV.agg
 [PV.int .i64 kd, PV.bool bv, PV.str sv,
 PV.row nk (BRow.strs ks) (0 : Nat), PV.vec nl (5 : Nat) ls (0 : Nat)]),
 (1,
 PV.agg
 [PV.int .i64 kd2, PV.bool bv2, PV.str sv2,
 PV.row nk2 (BRow.strs ks2) (0 : Nat), PV.vec nl2 (5 : Nat) ls2 (0 : Nat)]),
 (2, PV.int .i64 d), (3, PV.ptr ((3 : Nat) + (32 : Nat)) (0 : Nat)),
 (4, PV.ptr ((4 : Nat) + (32 : Nat)) (0 : Nat)), (6, PV.bool false),
 ((7 : Nat), PV.undef),
 (43,
 PV.bool
 (bif
 bif
 bif bif !decide (kd = kd2) then true else Bool.rec true false (bv == bv2) then true
 else !decide (sv = sv2) then
 true
 else !decide (lenZ ls = lenZ ls2) then
 true
 else !decide (ks = ks2))),
 (45, PV.bool (decide (d = (0 : Int)))), (52, PV.int .i64 (lenZ ls)),
 ((53 : Nat), PV.int .i64 (x + (1 : Int))), ((54 : Nat), PV.undef),
 ((69 : Nat), PV.undef)]
 [((4 : Nat) + (32 : Nat),
 PV.agg
 [PV.int .i64 kd2, PV.bool bv2, PV.str sv2,
 PV.row nk2 (BRow.strs ks2) (0 : Nat), PV.vec nl2 (5 : Nat) ls2 (0 : Nat)]),
 ((3 : Nat) + (32 : Nat),
 PV.agg
 [PV.int .i64 kd, PV.bool bv, PV.str sv,
 PV.row nk (BRow.strs ks) (0 : Nat), PV.vec nl (5 : Nat) ls (0 : Nat)])] =
 VS.mk []
 [(0,
 PV.agg
 [PV.int .i64 kd, PV.bool bv, PV.str sv,
 PV.row nk (BRow.strs ks) (0 : Nat), PV.vec nl (5 : Nat) ls (0 : Nat)]),
 (1,
 PV.agg
 [PV.int .i64 kd2, PV.bool bv2, PV.str sv2,
 PV.row nk2 (BRow.strs ks2) (0 : Nat), PV.vec nl2 (5 : Nat) ls2 (0 : Nat)]),
 (2, PV.int .i64 d), (3, PV.ptr ((3 : Nat) + (32 : Nat)) (0 : Nat)),
 (4, PV.ptr ((4 : Nat) + (32 : Nat)) (0 : Nat)), (6, PV.bool false),
 ((7 : Nat), PV.undef),
 (43,
 PV.bool
 (bif
 bif
 bif bif !decide (kd = kd2) then true else Bool.rec true false (bv == bv2) then true
 else !decide (sv = sv2) then
 true
 else !decide (lenZ ls = lenZ ls2) then
 true
 else !decide (ks = ks2))),
 (45, PV.bool (decide (d = (0 : Int)))), (52, PV.int .i64 (lenZ ls)),
 ((53 : Nat), PV.int .i64 (x + (1 : Int))), ((54 : Nat), PV.undef),
 ((69 : Nat), PV.undef)]
 [((4 : Nat) + (32 : Nat),
 PV.agg
 [PV.int .i64 kd2, PV.bool bv2, PV.str sv2,
 PV.row nk2 (BRow.strs ks2) (0 : Nat), PV.vec nl2 (5 : Nat) ls2 (0 : Nat)]),
 ((3 : Nat) + (32 : Nat),
 PV.agg
 [PV.int .i64 kd, PV.bool bv, PV.str sv,
 PV.row nk (BRow.strs ks) (0 : Nat), PV.vec nl (5 : Nat) ls (0 : Nat)])] ∧
 ((0 : Int) ≤ x + (1 : Int) ∧
 x + (1 : Int) ≤ ↑ls.length ∧
 ls.length = ls2.length ∧
 sameJs (List.drop (x + (1 : Int)).toNat (jdecs ls))
 (List.drop (x + (1 : Int)).toNat (jdecs ls2)) =
 sameJs (jdecs ls) (jdecs ls2)) ∧
 (↑ls.length - (x + (1 : Int))).toNat < (↑ls.length - x).toNat)) ∧
 (decide (x < lenZ ls) = false → k (PV.bool true))))) := by kernel_rfl
attribute [local irreducible] Go.Vc.evF
theorem ok_jsame (m : Nat) (ih : ∀ xs c, ent_jsame m xs = some c → FuncOk Try.prog noT 24 xs c) (kd : Int) (bv : Bool) (sv : Bs) (nk : Bool) (ks : List Bs) (nl : Bool) (ls : List PV) (kd2 : Int) (bv2 : Bool) (sv2 : Bs) (nk2 : Bool) (ks2 : List Bs) (nl2 : Bool) (ls2 : List PV) (d : Int) : FuncOk Try.prog noT 24 [.agg [.int .i64 kd, .bool bv, .str sv, .row nk (.strs ks) 0, .vec nl 5 ls 0], .agg [.int .i64 kd2, .bool bv2, .str sv2, .row nk2 (.strs ks2) 0, .vec nl2 5 ls2 0], .int .i64 d] ⟨isJs ls ∧ okJ (m + 1) (.mk kd bv sv nk ks nl (jdecs ls)) ∧ isJs ls2 ∧ (∃ q, okJ q (.mk kd2 bv2 sv2 nk2 ks2 nl2 (jdecs ls2))) ∧ (((m + 1) : Int) ≤ d ∧ d ≤ 1000000), .bool (sameJ (.mk kd bv sv nk ks nl (jdecs ls)) (.mk kd2 bv2 sv2 nk2 ks2 nl2 (jdecs ls2)))⟩ := evF_ok (by kernel_rfl) (X_jsame_ok m ih) (H := H_jsame m kd bv sv nk ks nl ls kd2 bv2 sv2 nk2 ks2 nl2 ls2 d) (fuel := 1000) Try.func24 (by kernel_rfl) fun hpre => (vc_jsame m kd bv sv nk ks nl ls kd2 bv2 sv2 nk2 ks2 nl2 ls2 d _).mpr (by
  obtain ⟨⟨js, rfl⟩, hok, ⟨js2, rfl⟩, ⟨q2, hok2⟩, hm, hd⟩ := hpre
  rw [jdecs_pvs] at hok hok2
  obtain ⟨hk, hs, hks, hkl, hls, hj⟩ := hok
  cases q2 with
  | zero => exact hok2.elim
  | succ q =>
  obtain ⟨hk2, hs2, hks2, hkl2, hls2, hj2⟩ := hok2
  simp only [JV.k, JV.s, JV.ks, JV.ls] at hk hs hks hkl hls hj hk2 hs2 hks2 hkl2 hls2 hj2
  have hml : bigJ = 140737488355328 := rfl
  simp only [jdecs_pvs, pvs_lenZ, pvs_length]
  refine ⟨fun _ => ⟨hks, hks2⟩, ?_⟩
  rw [head5]
  refine ⟨fun h => ?_, fun h => ?_⟩
  · show PV.bool _ = PV.bool _
    congr 1
    symm
    rw [Bool.eq_false_iff]
    intro e
    obtain ⟨e1, e2, e3, e4, e5⟩ := sameJ_e e
    have e6 := sameJs_len e5
    rw [decide_eq_true (show _ from ⟨e1, e2, e3, by omega, e4⟩)] at h; cases h
  have hE : kd = kd2 ∧ bv = bv2 ∧ sv = sv2 ∧ (js.length : Int) = js2.length ∧ ks = ks2 := by simpa using h
  obtain ⟨e1, e2, e3, e4, e5⟩ := hE
  rw [sameJ_r ⟨e1, e2, e3, e5⟩]
  refine ⟨fun h => ?_, fun h => ?_⟩
  · have hd0 : d = 0 := of_decide_eq_true h
    show PV.bool _ = PV.bool _
    omega
  have hd0 : ¬ d = 0 := of_decide_eq_false h
  refine ⟨trivial, ⟨by omega, by omega, by omega, rfl⟩, fun x hx => ?_⟩
  obtain ⟨h0, h1, h2, h3⟩ := hx
  obtain ⟨n, rfl⟩ := Int.eq_ofNat_of_zero_le h0
  rw [Int.toNat_natCast] at h3
  refine ⟨fun g => ?_, fun g => ?_⟩
  · have g1 : n < js.length := by have := of_decide_eq_true g; omega
    have g2 : n < js2.length := by omega
    have y1 := hj _ (List.getElem_mem g1)
    have y2 := hj2 _ (List.getElem_mem g2)
    simp only [elt_jv g1, elt_jv g2, jp0, jp1, jp2, jp3, jp3', jp4, jp4', jdecs_pvs, JV.eta']
    refine ⟨⟨by omega, by omega⟩, JV.pv_eq _, ⟨by omega, by omega⟩, JV.pv_eq _, by unfold inI64; omega, ⟨isJs_of _, y1, isJs_of _, ⟨_, y2⟩, by omega, by omega⟩, fun f => ?_, fun f => ?_⟩
    · show PV.bool _ = PV.bool _
      rw [← h3, sameJs_drop g1 g2, show sameJ js[n] js2[n] = false by simpa using f]; rfl
    · refine ⟨by unfold inI64; omega, trivial, ⟨by omega, by omega, by omega, ?_⟩, by omega⟩
      rw [show ((n : Int) + 1).toNat = n + 1 by omega, ← h3, sameJs_drop g1 g2, show sameJ js[n] js2[n] = true by simpa using f]; rfl
  · have : ¬ (n : Int) < js.length := of_decide_eq_false g
    show PV.bool _ = PV.bool _
    rw [← h3, List.drop_of_length_le (by omega), List.drop_of_length_le (by omega), sameJs])
theorem ent_jsame_ok : ∀ (n : Nat) xs c, ent_jsame n xs = some c → FuncOk Try.prog noT 24 xs c
  | 0, xs, c, h => by
    unfold ent_jsame at h
    split at h
    · injection h with h; subst h; exact .of_plain ⟨rfl, rfl⟩ fun hp => False.elim (hp.2.1)
    · cases h
  | m + 1, xs, c, h => by
    unfold ent_jsame at h
    split at h
    · injection h with h; subst h; exact ok_jsame m (ent_jsame_ok m) _ _ _ _ _ _ _ _ _ _ _ _ _ _ _
    · cases h
def entA_jsame : List PV → Option CallR := fun xs => match xs with
  | [.agg [.int .i64 kd, .bool bv, .str sv, .row nk (.strs ks) 0, .vec nl 5 ls 0], .agg [.int .i64 kd2, .bool bv2, .str sv2, .row nk2 (.strs ks2) 0, .vec nl2 5 ls2 0], .int .i64 d] => some ⟨∃ dn : Nat, isJs ls ∧ okJ dn (.mk kd bv sv nk ks nl (jdecs ls)) ∧ isJs ls2 ∧ (∃ q, okJ q (.mk kd2 bv2 sv2 nk2 ks2 nl2 (jdecs ls2))) ∧ ((dn : Int) ≤ d ∧ d ≤ 1000000), .bool (sameJ (.mk kd bv sv nk ks nl (jdecs ls)) (.mk kd2 bv2 sv2 nk2 ks2 nl2 (jdecs ls2)))⟩
  | _ => none
theorem entA_jsame_ok : ∀ xs c, entA_jsame xs = some c → FuncOk Try.prog noT 24 xs c := fun xs c h => by
  unfold entA_jsame at h
  split at h
  · injection h with h; subst h; exact exI fun n => ent_jsame_ok n _ _ rfl
  · cases h
end
section
def X_gsame : Tbl := tblX [(24, entA_jsame)]
def H_gsame (kd : Int) (bv : Bool) (sv : Bs) (nk : Bool) (ks : List Bs) (nl : Bool) (ls : List PV) (kd2 : Int) (bv2 : Bool) (sv2 : Bs) (nk2 : Bool) (ks2 : List Bs) (nl2 : Bool) (ls2 : List PV) : Loops := fun i => none
theorem X_gsame_ok : XOk Try.prog noT X_gsame := tblX_cons entA_jsame_ok (tblX_nil)
theorem vc_gsame (kd : Int) (bv : Bool) (sv : Bs) (nk : Bool) (ks : List Bs) (nl : Bool) (ls : List PV) (kd2 : Int) (bv2 : Bool) (sv2 : Bs) (nk2 : Bool) (ks2 : List Bs) (nl2 : Bool) (ls2 : List PV) (k : PV → Prop) : evF Try.prog X_gsame noT (H_gsame kd bv sv nk ks nl ls kd2 bv2 sv2 nk2 ks2 nl2 ls2) 1000 Try.f15 [.agg [.int .i64 kd, .bool bv, .str sv, .row nk (.strs ks) 0, .vec nl 5 ls 0], .agg [.int .i64 kd2, .bool bv2, .str sv2, .row nk2 (.strs ks2) 0, .vec nl2 5 ls2 0]] k = (
  (∃ (dn : Nat),
 isJs ls ∧
 okJ dn (JV.mk kd bv sv nk ks nl (jdecs ls)) ∧
 isJs ls2 ∧
 (∃ (q : Nat), okJ q (JV.mk kd2 bv2 sv2 nk2 ks2 nl2 (jdecs ls2))) ∧
 ↑dn ≤ (65536 : Int) ∧ (65536 : Int) ≤ (1000000 : Int)) ∧
 k
 (PV.bool
 (sameJ (JV.mk kd bv sv nk ks nl (jdecs ls)) (JV.mk kd2 bv2 sv2 nk2 ks2 nl2 (jdecs ls2))))) := by kernel_rfl
attribute [local irreducible] Go.Vc.evF
theorem ok_gsame (kd : Int) (bv : Bool) (sv : Bs) (nk : Bool) (ks : List Bs) (nl : Bool) (ls : List PV) (kd2 : Int) (bv2 : Bool) (sv2 : Bs) (nk2 : Bool) (ks2 : List Bs) (nl2 : Bool) (ls2 : List PV) : FuncOk Try.prog noT 15 [.agg [.int .i64 kd, .bool bv, .str sv, .row nk (.strs ks) 0, .vec nl 5 ls 0], .agg [.int .i64 kd2, .bool bv2, .str sv2, .row nk2 (.strs ks2) 0, .vec nl2 5 ls2 0]] ⟨isJs ls ∧ okJ 65536 (.mk kd bv sv nk ks nl (jdecs ls)) ∧ isJs ls2 ∧ (∃ q, okJ q (.mk kd2 bv2 sv2 nk2 ks2 nl2 (jdecs ls2))), .bool (sameJ (.mk kd bv sv nk ks nl (jdecs ls)) (.mk kd2 bv2 sv2 nk2 ks2 nl2 (jdecs ls2)))⟩ := evF_ok (by kernel_rfl) X_gsame_ok (H := H_gsame kd bv sv nk ks nl ls kd2 bv2 sv2 nk2 ks2 nl2 ls2) (fuel := 1000) Try.func15 (by kernel_rfl) fun hpre => (vc_gsame kd bv sv nk ks nl ls kd2 bv2 sv2 nk2 ks2 nl2 ls2 _).mpr (by
  obtain ⟨h1, h2, h3, h4⟩ := hpre
  exact ⟨⟨65536, h1, h2, h3, h4, by omega, by omega⟩, rfl⟩)
def ent_gsame : List PV → Option CallR := fun xs => match xs with
  | [.agg [.int .i64 kd, .bool bv, .str sv, .row nk (.strs ks) 0, .vec nl 5 ls 0], .agg [.int .i64 kd2, .bool bv2, .str sv2, .row nk2 (.strs ks2) 0, .vec nl2 5 ls2 0]] => some ⟨isJs ls ∧ okJ 65536 (.mk kd bv sv nk ks nl (jdecs ls)) ∧ isJs ls2 ∧ (∃ q, okJ q (.mk kd2 bv2 sv2 nk2 ks2 nl2 (jdecs ls2))), .bool (sameJ (.mk kd bv sv nk ks nl (jdecs ls)) (.mk kd2 bv2 sv2 nk2 ks2 nl2 (jdecs ls2)))⟩
  | _ => none
theorem ent_gsame_ok : ∀ xs c, ent_gsame xs = some c → FuncOk Try.prog noT 15 xs c := fun xs c h => by
  unfold ent_gsame at h
  split at h
  · injection h with h; subst h; exact ok_gsame _ _ _ _ _ _ _ _ _ _ _ _ _ _
  · cases h
end
end Go.Proofs.Ytaklcjnfjchebaa
