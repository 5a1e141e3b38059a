import Derived.Test.YtaklcjnfjchebaaProg
import Derived.ProofKit
import Derived.Test.YtaklcjnfjchebaaSp6
import Derived.Test.YtaklcjnfjchebaaSp7
import Derived.Test.YtaklcjnfjchebaaSp12
import Derived.Test.YtaklcjnfjchebaaSp13
set_option linter.unusedVariables false
set_option linter.unusedSimpArgs false
set_option maxRecDepth 100000
set_option maxHeartbeats 4000000
namespace Go.Proofs.Ytaklcjnfjchebaa
open Go Go.Proofs Go.RowKit Go.Vc
open Go.Proofs.Jv
def X_showapart : Tbl := tblX [(9, ent_heavy), (11, ent_gmay), (13, ent_gshow0), (15, ent_gsame), (10, ent_awakeV)]
def H_showapart (kd : Int) (bv : Bool) (sv : Bs) (nk : Bool) (ks : List Bs) (nl : Bool) (ls : List PV) (kd2 : Int) (bv2 : Bool) (sv2 : Bs) (nk2 : Bool) (ks2 : List Bs) (nl2 : Bool) (ls2 : List PV) : Loops := fun i => none
theorem X_showapart_ok : XOk Try.prog noT X_showapart := tblX_cons ent_heavy_ok (tblX_cons ent_gmay_ok (tblX_cons ent_gshow0_ok (tblX_cons ent_gsame_ok (tblX_cons ent_awakeV_ok (tblX_nil)))))
theorem vc_showapart (kd : Int) (bv : Bool) (sv : Bs) (nk : Bool) (ks : List Bs) (nl : Bool) (ls : List PV) (kd2 : Int) (bv2 : Bool) (sv2 : Bs) (nk2 : Bool) (ks2 : List Bs) (nl2 : Bool) (ls2 : List PV) (k : PV → Prop) : evF Try.prog X_showapart noT (H_showapart kd bv sv nk ks nl ls kd2 bv2 sv2 nk2 ks2 nl2 ls2) 1000 Try.f6 [.agg [.int .i64 kd, .bool bv, .str sv, .row nk (.strs ks) 0, .vec nl 5 ls 0], .agg [.int .i64 kd2, .bool bv2, .str sv2, .row nk2 (.strs ks2) 0, .vec nl2 5 ls2 0]] k = (
  (isJs ls ∧
 (∃ (q : Nat), okJ q (JV.mk kd bv sv nk ks nl (jdecs ls))) ∧
 (0 : Int) ≤ (200 : Int) ∧ (200 : Int) ≤ (1000000 : Int)) ∧
 (decide (wJ (JV.mk kd bv sv nk ks nl (jdecs ls)) (200 : Int) (0 : Int) < (0 : Int)) = false →
 isJs ls2 ∧
 (∃ (q : Nat), okJ q (JV.mk kd2 bv2 sv2 nk2 ks2 nl2 (jdecs ls2))) ∧
 (0 : Int) ≤ (200 : Int) ∧ (200 : Int) ≤ (1000000 : Int)) ∧
 ((bif decide (wJ (JV.mk kd bv sv nk ks nl (jdecs ls)) (200 : Int) (0 : Int) < (0 : Int)) then true
 else decide (wJ (JV.mk kd2 bv2 sv2 nk2 ks2 nl2 (jdecs ls2)) (200 : Int) (0 : Int) < (0 : Int))) =
 false →
 isJs ls ∧
 (∃ (q : Nat), okJ q (JV.mk kd bv sv nk ks nl (jdecs ls))) ∧
 sizeJ (JV.mk kd bv sv nk ks nl (jdecs ls)) ≤ (600000 : Nat)) ∧
 ((bif
 bif decide (wJ (JV.mk kd bv sv nk ks nl (jdecs ls)) (200 : Int) (0 : Int) < (0 : Int)) then true
 else decide (wJ (JV.mk kd2 bv2 sv2 nk2 ks2 nl2 (jdecs ls2)) (200 : Int) (0 : Int) < (0 : Int)) then
 true
 else
 !mayJ isNumM validL
 (JV.mk kd bv sv nk ks nl (jdecs ls)) (128 : Nat)) =
 false →
 isJs ls2 ∧
 (∃ (q : Nat), okJ q (JV.mk kd2 bv2 sv2 nk2 ks2 nl2 (jdecs ls2))) ∧
 sizeJ (JV.mk kd2 bv2 sv2 nk2 ks2 nl2 (jdecs ls2)) ≤ (600000 : Nat)) ∧
 ((bif
 bif
 bif decide (wJ (JV.mk kd bv sv nk ks nl (jdecs ls)) (200 : Int) (0 : Int) < (0 : Int)) then true
 else decide (wJ (JV.mk kd2 bv2 sv2 nk2 ks2 nl2 (jdecs ls2)) (200 : Int) (0 : Int) < (0 : Int)) then
 true
 else
 !mayJ isNumM validL
 (JV.mk kd bv sv nk ks nl (jdecs ls)) (128 : Nat) then
 true
 else
 !mayJ isNumM validL
 (JV.mk kd2 bv2 sv2 nk2 ks2 nl2 (jdecs ls2)) (128 : Nat)) =
 true →
 True ∧ k (PV.bool true)) ∧
 ((bif
 bif
 bif decide (wJ (JV.mk kd bv sv nk ks nl (jdecs ls)) (200 : Int) (0 : Int) < (0 : Int)) then true
 else decide (wJ (JV.mk kd2 bv2 sv2 nk2 ks2 nl2 (jdecs ls2)) (200 : Int) (0 : Int) < (0 : Int)) then
 true
 else
 !mayJ isNumM validL
 (JV.mk kd bv sv nk ks nl (jdecs ls)) (128 : Nat) then
 true
 else
 !mayJ isNumM validL
 (JV.mk kd2 bv2 sv2 nk2 ks2 nl2 (jdecs ls2)) (128 : Nat)) =
 false →
 (isJs ls ∧
 (∃ (q : Nat), okJ q (JV.mk kd bv sv nk ks nl (jdecs ls))) ∧
 sizeJ (JV.mk kd bv sv nk ks nl (jdecs ls)) ≤ (80000 : Nat)) ∧
 (isJs ls2 ∧
 (∃ (q : Nat), okJ q (JV.mk kd2 bv2 sv2 nk2 ks2 nl2 (jdecs ls2))) ∧
 sizeJ (JV.mk kd2 bv2 sv2 nk2 ks2 nl2 (jdecs ls2)) ≤ (80000 : Nat)) ∧
 (isJs ls ∧
 okJ (65536 : Nat) (JV.mk kd bv sv nk ks nl (jdecs ls)) ∧
 isJs ls2 ∧ ∃ (q : Nat), okJ q (JV.mk kd2 bv2 sv2 nk2 ks2 nl2 (jdecs ls2))) ∧
 (decide
 (decide
 ((bif
 mayJ isNumM validL
 (JV.mk kd bv sv nk ks nl (jdecs ls)) (128 : Nat) then
 textJ (JV.mk kd bv sv nk ks nl (jdecs ls))
 else []) =
 bif
 mayJ isNumM validL
 (JV.mk kd2 bv2 sv2 nk2 ks2 nl2 (jdecs ls2)) (128 : Nat) then
 textJ (JV.mk kd2 bv2 sv2 nk2 ks2 nl2 (jdecs ls2))
 else []) =
 sameJ (JV.mk kd bv sv nk ks nl (jdecs ls))
 (JV.mk kd2 bv2 sv2 nk2 ks2 nl2 (jdecs ls2))) =
 true →
 True) ∧
 k
 (PV.bool
 (bif
 decide
 (decide
 ((bif
 mayJ isNumM validL
 (JV.mk kd bv sv nk ks nl (jdecs ls)) (128 : Nat) then
 textJ (JV.mk kd bv sv nk ks nl (jdecs ls))
 else []) =
 bif
 mayJ isNumM validL
 (JV.mk kd2 bv2 sv2 nk2 ks2 nl2 (jdecs ls2)) (128 : Nat) then
 textJ (JV.mk kd2 bv2 sv2 nk2 ks2 nl2 (jdecs ls2))
 else []) =
 sameJ (JV.mk kd bv sv nk ks nl (jdecs ls))
 (JV.mk kd2 bv2 sv2 nk2 ks2 nl2 (jdecs ls2))) then
 true
 else false)))) := by kernel_rfl
attribute [local irreducible] Go.Vc.evF
theorem ok_showapart (kd : Int) (bv : Bool) (sv : Bs) (nk : Bool) (ks : List Bs) (nl : Bool) (ls : List PV) (kd2 : Int) (bv2 : Bool) (sv2 : Bs) (nk2 : Bool) (ks2 : List Bs) (nl2 : Bool) (ls2 : List PV) : FuncOk Try.prog noT 6 [.agg [.int .i64 kd, .bool bv, .str sv, .row nk (.strs ks) 0, .vec nl 5 ls 0], .agg [.int .i64 kd2, .bool bv2, .str sv2, .row nk2 (.strs ks2) 0, .vec nl2 5 ls2 0]] ⟨isJs ls ∧ (∃ q, okJ q (.mk kd bv sv nk ks nl (jdecs ls))) ∧ isJs ls2 ∧ (∃ q, okJ q (.mk kd2 bv2 sv2 nk2 ks2 nl2 (jdecs ls2))), .bool true⟩ := evF_ok (by kernel_rfl) X_showapart_ok (H := H_showapart kd bv sv nk ks nl ls kd2 bv2 sv2 nk2 ks2 nl2 ls2) (fuel := 1000) Try.func6 (by kernel_rfl) fun hpre => (vc_showapart kd bv sv nk ks nl ls kd2 bv2 sv2 nk2 ks2 nl2 ls2 _).mpr (by
  obtain ⟨i1, ⟨q, hok⟩, i2, ⟨q2, hok2⟩⟩ := hpre
  have bf : ∀ a b : Bool, (bif a then true else b) = false → a = false ∧ b = false := by decide
  have s1 : ¬ wJ (.mk kd bv sv nk ks nl (jdecs ls)) 200 0 < 0 → sizeJ (.mk kd bv sv nk ks nl (jdecs ls)) ≤ 200 := fun h => by
    have := sizeJ_w (.mk kd bv sv nk ks nl (jdecs ls)) 200 0 (by omega); omega
  have s2 : ¬ wJ (.mk kd2 bv2 sv2 nk2 ks2 nl2 (jdecs ls2)) 200 0 < 0 → sizeJ (.mk kd2 bv2 sv2 nk2 ks2 nl2 (jdecs ls2)) ≤ 200 := fun h => by
    have := sizeJ_w (.mk kd2 bv2 sv2 nk2 ks2 nl2 (jdecs ls2)) 200 0 (by omega); omega
  refine ⟨⟨i1, ⟨q, hok⟩, by omega, by omega⟩, fun h => ⟨i2, ⟨q2, hok2⟩, by omega, by omega⟩, fun h => ⟨i1, ⟨q, hok⟩, ?_⟩, fun h => ⟨i2, ⟨q2, hok2⟩, ?_⟩, fun _ => ⟨trivial, rfl⟩, fun h => ?_⟩
  · obtain ⟨e1, e2⟩ := bf _ _ h
    have := s1 (of_decide_eq_false e1); omega
  · obtain ⟨e12, e3⟩ := bf _ _ h
    obtain ⟨e1, e2⟩ := bf _ _ e12
    have := s2 (of_decide_eq_false e2); omega
  obtain ⟨e123, e4⟩ := bf _ _ h
  obtain ⟨e12, e3⟩ := bf _ _ e123
  obtain ⟨e1, e2⟩ := bf _ _ e12
  have m1 : mayJ isNumM validL (.mk kd bv sv nk ks nl (jdecs ls)) 128 = true := by simpa using e3
  have m2 : mayJ isNumM validL (.mk kd2 bv2 sv2 nk2 ks2 nl2 (jdecs ls2)) 128 = true := by simpa using e4
  have z1 := s1 (of_decide_eq_false e1)
  have z2 := s2 (of_decide_eq_false e2)
  have d1 := okJ.up (m := 65536) (by decide) (okJ_of_w _ q 200 0 hok (by have := of_decide_eq_false e1; omega) (by omega)).1
  rw [m1, m2]
  refine ⟨⟨i1, ⟨q, hok⟩, by omega⟩, ⟨i2, ⟨q2, hok2⟩, by omega⟩, ⟨i1, d1, i2, ⟨q2, hok2⟩⟩, fun _ => trivial, ?_⟩
  show PV.bool _ = PV.bool _
  simp only [cond_true]
  have hI := text_iff (fun s h => numOk_num h) _ _ 128 m1 m2
  have hb : ∀ (p : Prop) [Decidable p], p → (bif decide p then true else false) = true := fun p _ h => by rw [decide_eq_true h]; rfl
  exact congrArg PV.bool (hb _ hI))
end Go.Proofs.Ytaklcjnfjchebaa
