/- Law gossamerlaw28.EsmBars: its cases, all of them. -/
import Derived.Test.YtikdngmpnpkdnaaGreatDoorFin
import Derived.Test.YtikdngmpnpkdnaaGreatDoorEsmBarsC0
import Derived.Test.YtikdngmpnpkdnaaGreatDoorEsmBarsC1
import Derived.Test.YtikdngmpnpkdnaaGreatDoorEsmBarsC2
import Derived.Test.YtikdngmpnpkdnaaGreatDoorEsmBarsC3
set_option linter.unusedVariables false
set_option maxRecDepth 100000
namespace Go.Proofs.YtikdngmpnpkdnaaGreatDoor
open Go Go.Proofs Go.RowKit Go.Ev
theorem EsmBars_walk (a0 : Int) (a1 : Bool) (w : World) (w0 : (Lit.int .i64 a0).wf = true) (htab : Tab w) :
    Calls Tryz.prog 5 #[.int .i64 a0, .bool a1] w fun e w' => e = .returned (.bool true) ∧ Below w.heap.size w w' := by
  have b0 := wf64 w0
  obtain ⟨r0_4, e0_4, l0_4⟩ : ∃ r : Nat, lowN a0 4 = r ∧ r < 4 := by
    have := lowN_bd a0 4 (by omega)
    exact ⟨(lowN a0 4).toNat, by omega, by omega⟩
  rcases (show r0_4 = 0 ∨ r0_4 = 1 ∨ r0_4 = 2 ∨ r0_4 = 3 by omega) with rfl | rfl | rfl | rfl
  · cases a1
    · exact one [a0] [(0, 4, 0)] (fun e he => by
        simp only [List.mem_cons, List.not_mem_nil, or_false] at he
        subst he; exact ⟨b0, ⟨by decide, by decide⟩, e0_4⟩) (vs := [.int .i64 a0, .bool false]) Tryz.func5 rfl rfl esmBars_c0 w
    · exact one [a0] [(0, 4, 0)] (fun e he => by
        simp only [List.mem_cons, List.not_mem_nil, or_false] at he
        subst he; exact ⟨b0, ⟨by decide, by decide⟩, e0_4⟩) (vs := [.int .i64 a0, .bool true]) Tryz.func5 rfl rfl esmBars_c1 w
  · cases a1
    · exact one [a0] [(0, 4, 1)] (fun e he => by
        simp only [List.mem_cons, List.not_mem_nil, or_false] at he
        subst he; exact ⟨b0, ⟨by decide, by decide⟩, e0_4⟩) (vs := [.int .i64 a0, .bool false]) Tryz.func5 rfl rfl esmBars_c2 w
    · exact one [a0] [(0, 4, 1)] (fun e he => by
        simp only [List.mem_cons, List.not_mem_nil, or_false] at he
        subst he; exact ⟨b0, ⟨by decide, by decide⟩, e0_4⟩) (vs := [.int .i64 a0, .bool true]) Tryz.func5 rfl rfl esmBars_c3 w
  · cases a1
    · exact one [a0] [(0, 4, 2)] (fun e he => by
        simp only [List.mem_cons, List.not_mem_nil, or_false] at he
        subst he; exact ⟨b0, ⟨by decide, by decide⟩, e0_4⟩) (vs := [.int .i64 a0, .bool false]) Tryz.func5 rfl rfl esmBars_c4 w
    · exact one [a0] [(0, 4, 2)] (fun e he => by
        simp only [List.mem_cons, List.not_mem_nil, or_false] at he
        subst he; exact ⟨b0, ⟨by decide, by decide⟩, e0_4⟩) (vs := [.int .i64 a0, .bool true]) Tryz.func5 rfl rfl esmBars_c5 w
  · cases a1
    · exact one [a0] [(0, 4, 3)] (fun e he => by
        simp only [List.mem_cons, List.not_mem_nil, or_false] at he
        subst he; exact ⟨b0, ⟨by decide, by decide⟩, e0_4⟩) (vs := [.int .i64 a0, .bool false]) Tryz.func5 rfl rfl esmBars_c6 w
    · exact one [a0] [(0, 4, 3)] (fun e he => by
        simp only [List.mem_cons, List.not_mem_nil, or_false] at he
        subst he; exact ⟨b0, ⟨by decide, by decide⟩, e0_4⟩) (vs := [.int .i64 a0, .bool true]) Tryz.func5 rfl rfl esmBars_c7 w
end Go.Proofs.YtikdngmpnpkdnaaGreatDoor
