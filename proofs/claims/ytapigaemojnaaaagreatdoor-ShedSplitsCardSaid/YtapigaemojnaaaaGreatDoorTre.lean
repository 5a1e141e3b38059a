/- tree.New's order, and what is asked of tree.New. -/
import Derived.Test.YtapigaemojnaaaaGreatDoorEvTK
import Derived.Test.YtapigaemojnaaaaGreatDoorSrt
import Derived.Test.YtapigaemojnaaaaGreatDoorProg
import Derived.ProofKit
set_option linter.unusedVariables false
set_option maxRecDepth 100000
namespace Go.Proofs.YtapigaemojnaaaaGreatDoor
open Go Go.Proofs Go.Shelf Go.RowKit Go.Lib Go.Sort Go.Ev
theorem nan_at (a : ByteArray) (w : World) : Calls Tryz.prog 78 #[.string a] w fun e w' => e = .returned (.bool false) ∧ w' = w := by
  go_enter Tryz.func78, Tryz.ntmps78
  go_wp2
  go_ret
  exact ⟨by simp, rfl⟩
theorem cmp_at (a b : ByteArray) (w : World) : Calls Tryz.prog 42 #[.string a, .string b] w fun e w' => e = .returned (.int .i64 (cmpS a b)) ∧ w' = w := by
  have hg : ∀ w, Sem.run Tryz.prog (binOp BinOp.gtr 9 (.string a) (.string b)) w = .ok (.bool !(Op.bytesLess a.toList b.toList || a.toList == b.toList)) w := fun w => by rfl
  unfold cmpS
  generalize (Op.bytesLess a.toList b.toList || a.toList == b.toList) = g at hg ⊢
  go_enter Tryz.func42, Tryz.ntmps42
  go_wp2_with (go_at_call 78; refine (nan_at _ _).mono ?_; rintro e w' ⟨rfl, rfl⟩)
  all_goals (go_ret; refine ⟨?_, rfl⟩; simp_all)
theorem clo_at (a b : ByteArray) (x1 x2 y1 y2 : Value) (hx1 : x1.oneCell' = true) (hx2 : x2.oneCell' = true) (hy1 : y1.oneCell' = true) (hy2 : y2.oneCell' = true) (W : World) : Calls Tryz.prog 41 #[.agg #[.string a, x1, x2], .agg #[.string b, y1, y2]] W fun e w' => e = .returned (.int .i64 (cmpS a b)) ∧ ∃ q os', w' = grow (W.drewN q) os' := by
  have hcon := fun W' => cmp_at a b W'
  generalize cmpS a b = r at hcon ⊢
  go_enter Tryz.func41, Tryz.ntmps41
  go_wp2_with (go_at_call 42; refine (hcon _).mono ?_; rintro e w' ⟨rfl, rfl⟩)
  go_ret
  exact ⟨rfl, 0, _, by rw [alloc_eq_grow, alloc_eq_grow, grow_grow]; rfl⟩
theorem sort_at : SortAt Tryz.prog 40 41 :=
  sortAt_of Tryz.sortN Tryz.isAgg34 Tryz.sizeOf34 (enters_of Tryz.func40 (by kernel_rfl) rfl) (enters_of Tryz.func41 (by kernel_rfl) rfl) clo_at
noncomputable def newParts : NewParts := (Tryz.f19.body.bind partsOf).get (by kernel_rfl)
theorem tree_at : TreeAt Tryz.prog 19 :=
  treeAt_of (p := newParts) (by kernel_rfl) sort_at Tryz.func19 (by kernel_rfl) (by kernel_rfl) (by kernel_rfl)
end Go.Proofs.YtapigaemojnaaaaGreatDoor
