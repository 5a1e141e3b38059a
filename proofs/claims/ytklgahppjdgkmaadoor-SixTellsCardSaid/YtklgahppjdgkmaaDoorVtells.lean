/- The function gossamer/gossamerlaw9.SixTells does what is told of it. -/
import Derived.Test.YtklgahppjdgkmaaDoorR4
import Derived.Test.YtklgahppjdgkmaaDoorProg
import Derived.ProofKit
import Derived.Test.YtklgahppjdgkmaaDoorVparse
import Derived.Test.YtklgahppjdgkmaaDoorVrparse
import Derived.Test.YtklgahppjdgkmaaDoorVsix0
import Derived.Test.YtklgahppjdgkmaaDoorSixT4
set_option linter.unusedVariables false
set_option linter.unusedSimpArgs false
set_option maxRecDepth 100000
set_option maxHeartbeats 4000000
namespace Go.Proofs.YtklgahppjdgkmaaDoor
open Go Go.Proofs Go.RowKit Go.Vc

def X_tells : Tbl := tblX [(8, ent_parse), (9, ent_rparse), (7, ent_awake)]
def H_tells (l : Bs) : Loops := fun i => none
theorem X_tells_ok : XOk Tryd.prog noT X_tells := tblX_cons ent_parse_ok (tblX_cons ent_rparse_ok (tblX_cons ent_awake_ok (tblX_nil)))
theorem vc_tells (l : Bs) (k : PV → Prop) : evF Tryd.prog X_tells noT (H_tells l) 1000 Tryd.f3 [.str l] k = (
  (decide ((80 : Int) < lenZ l) = true → True ∧ k (PV.bool true)) ∧
 (decide ((80 : Int) < lenZ l) = false →
 (List.length l).le (1000000 : Nat) ∧
 (List.length l).le (1000 : Nat) ∧
 ((bif decide ((six l).fst = (refSix l).fst) then
 decide ((six l).snd = (refSix l).snd)
 else false) =
 true →
 True) ∧
 k
 (PV.bool
 (bif
 bif decide ((six l).fst = (refSix l).fst) then
 decide ((six l).snd = (refSix l).snd)
 else false then
 true
 else false)))) := by kernel_rfl
attribute [local irreducible] Go.Vc.evF
theorem ok_tells (l : Bs) : FuncOk Tryd.prog noT 3 [.str l] ⟨True, .bool true⟩ := evF_ok (by kernel_rfl) X_tells_ok (H := H_tells l) (fuel := 1000) Tryd.func3 (by kernel_rfl) fun hpre => (vc_tells l _).mpr (by
  refine ⟨fun _ => ⟨trivial, rfl⟩, fun h => ?_⟩
  have h1 : ¬ (80 : Int) < (l.length : Int) := of_decide_eq_false h
  refine ⟨by show l.length ≤ 1000000; omega, by show l.length ≤ 1000; omega, fun _ => trivial, ?_⟩
  show PV.bool _ = PV.bool _
  congr 1
  rw [six_ref l]
  simp)
end Go.Proofs.YtklgahppjdgkmaaDoor
