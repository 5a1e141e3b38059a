/- slices.Clone of texts. -/
import Derived.Test.YtcdkojdjcifkpaaDoorStrs
set_option linter.unusedVariables false
set_option linter.unusedSimpArgs false
namespace Go.Proofs.YtcdkojdjcifkpaaDoor
open Go.RowKit

set_option maxHeartbeats 1000000 in
theorem clone_any (v : Value) (ls : List (List UInt8)) (w : World) (hv : IsStr w v ls) (hm : ls.length ≤ 1000000) :
    Calls Tryd.prog 31 #[v] w fun e w' => ∃ v', e = .returned v' ∧ Own w' w.heap.size 9 v' (ls.map strV) ∧ Below w.heap.size w w' := by
  have hv0 := hv
  obtain ⟨a, cap, rfl, hc1, hc2, hc0, hs⟩ := hv
  have HV := Lib.hid hv0
  clear hs hv0
  have hnil := fun (x : World) (a : Option Addr) (n c n' c' : Nat) => Lib.run_eql_slice_nil (P := Tryd.prog) x 40 9 a n c n' c' Tryd.underlying40
  cases a with
  | none =>
    obtain rfl : cap = 0 := hc0 rfl
    have hl : ls = [] := List.eq_nil_of_length_eq_zero (by omega)
    subst hl
    go_enter Tryd.func31, Tryd.ntmps31
    go_wp2
    go_ret
    exact ⟨_, rfl, Own.nil _ _ _, Below.refl _ _⟩
  | some a =>
    clear hc0
    go_enter Tryd.func31, Tryd.ntmps31
    go_wp2_with (at_builtin; refine wpList_appS _ rfl _ _ 40 rfl w.heap.size 9 (.string .empty) 16 ok16 _ _ rfl (Own.lit w w.heap.size 9 #[] 0 rfl (Nat.le_refl _) (by decide)) _ _ _ rfl (HV.out.below (ext_alloc _ _)) ?c1 ?c2 ?c3 ?c4 ?_)
    case c1 => intro i hi; rfl
    case c2 => first | omega | (simp; omega)
    case c3 => first | omega | (simp; omega)
    case c4 => simp
    intro v2 w2 hown2 hgr2
    rw [strAt_range] at hown2
    try rw [List.nil_append] at hown2
    go_wp2
    go_ret
    refine ⟨_, rfl, by simpa using hown2, (ext_alloc w _).grown hgr2 (by simp) (fun k hk => by simp [Value.ownBlock] at hk; omega)⟩
end Go.Proofs.YtcdkojdjcifkpaaDoor
