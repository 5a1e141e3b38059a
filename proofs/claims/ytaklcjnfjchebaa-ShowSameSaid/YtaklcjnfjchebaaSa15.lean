import Derived.Test.YtaklcjnfjchebaaProg
import Derived.ProofKit
import Derived.IntWalk
import Derived.Test.YtaklcjnfjchebaaSa6
import Derived.Test.YtaklcjnfjchebaaSa7
import Derived.Test.YtaklcjnfjchebaaSa14
set_option linter.unusedVariables false
set_option linter.unusedSectionVars false
set_option maxRecDepth 100000
set_option linter.unusedSimpArgs false
set_option maxHeartbeats 4000000
namespace Go.Proofs.Ytaklcjnfjchebaa
open Go Go.Proofs Go.RowKit Go.Ev
theorem names_of {P : Program} (h : P.funcs.toList.all (fun fn => fn.name != "runtime.NumGoroutine") = true) : ∀ (f : Nat) fn, P.funcs[f]? = some fn → fn.name ≠ "runtime.NumGoroutine" := fun f fn hf => by
  have := List.all_eq_true.1 h fn (by
    rw [← Array.getElem?_toList] at hf
    exact List.mem_of_getElem? hf)
  simpa using this
def X0 : Nat → Nat := fun f => 0
def X1 : Nat → Nat := fun f => cond (Nat.beq f 10) 7 (0)
theorem runs0 [Sg] [Sl] : Runs Try.prog X0 := by
  refine ⟨by kernel_rfl, names_of (by kernel_rfl), extOK fun f c h => ?_⟩
  have h2 : (X0 f : Nat) = c + 1 := h
  unfold X0 at h2
  cases h2
theorem runs1 [Sg] [Sl] (ha : AwakeAt Try.prog 10) : Runs Try.prog X1 := by
  refine ⟨by kernel_rfl, names_of (by kernel_rfl), extOK fun f c h => ?_⟩
  have h2 : (X1 f : Nat) = c + 1 := h
  unfold X1 at h2
  cases hb10 : Nat.beq f 10 with
  | true =>
    rw [hb10] at h2
    have h3 : 7 = c + 1 := h2
    obtain rfl := Nat.eq_of_beq_eq_true hb10
    exact .inr (.inr (.inr (.inr (.inr (.inr (.inl ⟨by omega, ha⟩))))))
  | false =>
  rw [hb10] at h2
  replace h2 : _ = c + 1 := h2
  cases h2
theorem awake_eval (i : Sl) : @callK i Try.prog X0 100000 60 10 [] (.mk .leaf 1 1) (fin 1) = .yes := by kernel_rfl
theorem awake_at (sg : Sg) (sl : Sl) (ht : sl.tabs = []) : @AwakeAt sg sl Try.prog 10 :=
  awakeAt_of (n := 1) (runs0) Try.func10 rfl (by decide +kernel) (fun e he => by rw [ht] at he; cases he) (fun tys => by rw [ht]; exact awake_eval sl)
instance sg0 : Sg := ⟨fun _ => .int .i64 0⟩
instance sl0 : Sl := ⟨fun _ _ => none, []⟩
theorem one {f : Nat} {fn : Func} {c : Code} (hf : Try.prog.funcs[f]? = some fn) (hb : fn.body = some c) {as_ : List AV} {vs : List Value} (hx : conL (globB 1) as_ = some vs) (H : callK Try.prog X1 100000 60 f as_ (.mk .leaf 1 1) (fin 1) = .yes) (w : World) :
    Calls Try.prog f vs.toArray w fun e w' => e = .returned (.bool true) ∧ Below w.heap.size w w' :=
  (runs1 (awake_at _ _ rfl)).plain (n := 1) hf hb (by decide +kernel) hx H w
end Go.Proofs.Ytaklcjnfjchebaa
namespace Go.Proofs.Ytaklcjnfjchebaa
open Go Go.Proofs Go.RowKit Go.Vc
 theorem awake_calls (w : World) : Calls Try.prog 10 (([] : List Value).toArray) w fun e w' => e = .returned (.bool true) ∧ Below w.heap.size w w' :=
  runs0.plain (n := 1) Try.func10 rfl (by decide +kernel) (xs := []) rfl (awake_eval _) w
theorem ok_awake : FuncOk Try.prog noT 10 [] ⟨True, .bool true⟩ :=
  FuncOk.of_calls (fn := Try.f10) Try.func10 (by kernel_rfl) rfl fun _ F w vs hF hT _ hx => ⟨.bool true, by rw [show vs = [] from hx]; exact awake_calls w, fun G w => rfl⟩
def ent_awake : List PV → Option CallR := fun xs => match xs with
  | [] => some ⟨True, .bool true⟩
  | _ => none
theorem ent_awake_ok : ∀ xs c, ent_awake xs = some c → FuncOk Try.prog noT 10 xs c := fun xs c h => by
  unfold ent_awake at h
  split at h
  · injection h with h; subst h; exact ok_awake
  · cases h
end Go.Proofs.Ytaklcjnfjchebaa
namespace Go.Proofs.Ytaklcjnfjchebaa
open Go Go.Proofs Go.RowKit Go.Vc
open Go.Proofs.Jv
section
def X_showsame : Tbl := tblX [(9, ent_heavy), (15, ent_gsame), (16, entA_rsame), (10, ent_awake)]
def H_showsame (kd : Int) (bv : Bool) (sv : Bs) (nk : Bool) (ks : List Bs) (nl : Bool) (ls : List PV) (kd2 : Int) (bv2 : Bool) (sv2 : Bs) (nk2 : Bool) (ks2 : List Bs) (nl2 : Bool) (ls2 : List PV) : Loops := fun i => none
theorem X_showsame_ok : XOk Try.prog noT X_showsame := tblX_cons ent_heavy_ok (tblX_cons ent_gsame_ok (tblX_cons entA_rsame_ok (tblX_cons ent_awake_ok (tblX_nil))))
theorem vc_showsame (kd : Int) (bv : Bool) (sv : Bs) (nk : Bool) (ks : List Bs) (nl : Bool) (ls : List PV) (kd2 : Int) (bv2 : Bool) (sv2 : Bs) (nk2 : Bool) (ks2 : List Bs) (nl2 : Bool) (ls2 : List PV) (k : PV → Prop) : evF Try.prog X_showsame noT (H_showsame kd bv sv nk ks nl ls kd2 bv2 sv2 nk2 ks2 nl2 ls2) 1000 Try.f4 [.agg [.int .i64 kd, .bool bv, .str sv, .row nk (.strs ks) 0, .vec nl 5 ls 0], .agg [.int .i64 kd2, .bool bv2, .str sv2, .row nk2 (.strs ks2) 0, .vec nl2 5 ls2 0]] k = (
  (isJs ls ∧
 (∃ (q : Nat), okJ q (JV.mk kd bv sv nk ks nl (jdecs ls))) ∧
 (0 : Int) ≤ (200 : Int) ∧ (200 : Int) ≤ (1000000 : Int)) ∧
 (decide (wJ (JV.mk kd bv sv nk ks nl (jdecs ls)) (200 : Int) (0 : Int) < (0 : Int)) = false →
 isJs ls2 ∧
 (∃ (q : Nat), okJ q (JV.mk kd2 bv2 sv2 nk2 ks2 nl2 (jdecs ls2))) ∧
 (0 : Int) ≤ (200 : Int) ∧ (200 : Int) ≤ (1000000 : Int)) ∧
 ((bif decide (wJ (JV.mk kd bv sv nk ks nl (jdecs ls)) (200 : Int) (0 : Int) < (0 : Int)) then true
 else decide (wJ (JV.mk kd2 bv2 sv2 nk2 ks2 nl2 (jdecs ls2)) (200 : Int) (0 : Int) < (0 : Int))) =
 true →
 True ∧ k (PV.bool true)) ∧
 ((bif decide (wJ (JV.mk kd bv sv nk ks nl (jdecs ls)) (200 : Int) (0 : Int) < (0 : Int)) then true
 else decide (wJ (JV.mk kd2 bv2 sv2 nk2 ks2 nl2 (jdecs ls2)) (200 : Int) (0 : Int) < (0 : Int))) =
 false →
 (isJs ls ∧
 okJ (65536 : Nat) (JV.mk kd bv sv nk ks nl (jdecs ls)) ∧
 isJs ls2 ∧ ∃ (q : Nat), okJ q (JV.mk kd2 bv2 sv2 nk2 ks2 nl2 (jdecs ls2))) ∧
 (∃ (dn : Nat),
 isJs ls ∧
 okJ dn (JV.mk kd bv sv nk ks nl (jdecs ls)) ∧
 isJs ls2 ∧ ∃ (q : Nat), okJ q (JV.mk kd2 bv2 sv2 nk2 ks2 nl2 (jdecs ls2))) ∧
 (decide
 (sameJ (JV.mk kd bv sv nk ks nl (jdecs ls))
 (JV.mk kd2 bv2 sv2 nk2 ks2 nl2 (jdecs ls2)) =
 sameJ (JV.mk kd bv sv nk ks nl (jdecs ls))
 (JV.mk kd2 bv2 sv2 nk2 ks2 nl2 (jdecs ls2))) =
 true →
 isJs ls2 ∧
 okJ (65536 : Nat) (JV.mk kd2 bv2 sv2 nk2 ks2 nl2 (jdecs ls2)) ∧
 isJs ls ∧ ∃ (q : Nat), okJ q (JV.mk kd bv sv nk ks nl (jdecs ls))) ∧
 (decide
 (sameJ (JV.mk kd bv sv nk ks nl (jdecs ls))
 (JV.mk kd2 bv2 sv2 nk2 ks2 nl2 (jdecs ls2)) =
 sameJ (JV.mk kd bv sv nk ks nl (jdecs ls))
 (JV.mk kd2 bv2 sv2 nk2 ks2 nl2 (jdecs ls2))) =
 true →
 ∃ (dn : Nat),
 isJs ls ∧
 okJ dn (JV.mk kd bv sv nk ks nl (jdecs ls)) ∧
 isJs ls2 ∧ ∃ (q : Nat), okJ q (JV.mk kd2 bv2 sv2 nk2 ks2 nl2 (jdecs ls2))) ∧
 ((bif
 decide
 (sameJ (JV.mk kd bv sv nk ks nl (jdecs ls))
 (JV.mk kd2 bv2 sv2 nk2 ks2 nl2 (jdecs ls2)) =
 sameJ (JV.mk kd bv sv nk ks nl (jdecs ls))
 (JV.mk kd2 bv2 sv2 nk2 ks2 nl2 (jdecs ls2))) then
 decide
 (sameJ (JV.mk kd2 bv2 sv2 nk2 ks2 nl2 (jdecs ls2))
 (JV.mk kd bv sv nk ks nl (jdecs ls)) =
 sameJ (JV.mk kd bv sv nk ks nl (jdecs ls))
 (JV.mk kd2 bv2 sv2 nk2 ks2 nl2 (jdecs ls2)))
 else false) =
 true →
 isJs ls ∧
 okJ (65536 : Nat) (JV.mk kd bv sv nk ks nl (jdecs ls)) ∧
 isJs ls ∧ ∃ (q : Nat), okJ q (JV.mk kd bv sv nk ks nl (jdecs ls))) ∧
 ((bif
 bif
 decide
 (sameJ (JV.mk kd bv sv nk ks nl (jdecs ls))
 (JV.mk kd2 bv2 sv2 nk2 ks2 nl2 (jdecs ls2)) =
 sameJ (JV.mk kd bv sv nk ks nl (jdecs ls))
 (JV.mk kd2 bv2 sv2 nk2 ks2 nl2 (jdecs ls2))) then
 decide
 (sameJ (JV.mk kd2 bv2 sv2 nk2 ks2 nl2 (jdecs ls2))
 (JV.mk kd bv sv nk ks nl (jdecs ls)) =
 sameJ (JV.mk kd bv sv nk ks nl (jdecs ls))
 (JV.mk kd2 bv2 sv2 nk2 ks2 nl2 (jdecs ls2)))
 else false then
 sameJ (JV.mk kd bv sv nk ks nl (jdecs ls))
 (JV.mk kd bv sv nk ks nl (jdecs ls))
 else false) =
 true →
 True) ∧
 k
 (PV.bool
 (bif
 bif
 bif
 decide
 (sameJ (JV.mk kd bv sv nk ks nl (jdecs ls))
 (JV.mk kd2 bv2 sv2 nk2 ks2 nl2 (jdecs ls2)) =
 sameJ (JV.mk kd bv sv nk ks nl (jdecs ls))
 (JV.mk kd2 bv2 sv2 nk2 ks2 nl2 (jdecs ls2))) then
 decide
 (sameJ (JV.mk kd2 bv2 sv2 nk2 ks2 nl2 (jdecs ls2))
 (JV.mk kd bv sv nk ks nl (jdecs ls)) =
 sameJ (JV.mk kd bv sv nk ks nl (jdecs ls))
 (JV.mk kd2 bv2 sv2 nk2 ks2 nl2 (jdecs ls2)))
 else false then
 sameJ (JV.mk kd bv sv nk ks nl (jdecs ls))
 (JV.mk kd bv sv nk ks nl (jdecs ls))
 else false then
 true
 else false)))) := by kernel_rfl
attribute [local irreducible] Go.Vc.evF
theorem ok_showsame (kd : Int) (bv : Bool) (sv : Bs) (nk : Bool) (ks : List Bs) (nl : Bool) (ls : List PV) (kd2 : Int) (bv2 : Bool) (sv2 : Bs) (nk2 : Bool) (ks2 : List Bs) (nl2 : Bool) (ls2 : List PV) : FuncOk Try.prog noT 4 [.agg [.int .i64 kd, .bool bv, .str sv, .row nk (.strs ks) 0, .vec nl 5 ls 0], .agg [.int .i64 kd2, .bool bv2, .str sv2, .row nk2 (.strs ks2) 0, .vec nl2 5 ls2 0]] ⟨isJs ls ∧ (∃ q, okJ q (.mk kd bv sv nk ks nl (jdecs ls))) ∧ isJs ls2 ∧ (∃ q, okJ q (.mk kd2 bv2 sv2 nk2 ks2 nl2 (jdecs ls2))), .bool true⟩ := evF_ok (by kernel_rfl) X_showsame_ok (H := H_showsame kd bv sv nk ks nl ls kd2 bv2 sv2 nk2 ks2 nl2 ls2) (fuel := 1000) Try.func4 (by kernel_rfl) fun hpre => (vc_showsame kd bv sv nk ks nl ls kd2 bv2 sv2 nk2 ks2 nl2 ls2 _).mpr (by
  obtain ⟨i1, ⟨q, hok⟩, i2, ⟨q2, hok2⟩⟩ := hpre
  refine ⟨⟨i1, ⟨q, hok⟩, by omega, by omega⟩, fun _ => ⟨i2, ⟨q2, hok2⟩, by omega, by omega⟩, fun _ => ⟨trivial, rfl⟩, fun h => ?_⟩
  have hc := or_f h
  have d1 := okJ.up (m := 65536) (by decide) (okJ_of_w _ q 200 0 hok (by omega) (by omega)).1
  have d2 := okJ.up (m := 65536) (by decide) (okJ_of_w _ q2 200 0 hok2 (by omega) (by omega)).1
  rw [sameJ_comm (.mk kd2 bv2 sv2 nk2 ks2 nl2 (jdecs ls2)), sameJ_self]
  refine ⟨⟨i1, d1, i2, _, d2⟩, ⟨_, i1, d1, i2, _, d2⟩, fun _ => ⟨i2, d2, i1, _, d1⟩, fun _ => ⟨_, i1, d1, i2, _, d2⟩, fun _ => ⟨i1, d1, i1, _, d1⟩, fun _ => trivial, ?_⟩
  show PV.bool _ = PV.bool _
  simp)
end
end Go.Proofs.Ytaklcjnfjchebaa
