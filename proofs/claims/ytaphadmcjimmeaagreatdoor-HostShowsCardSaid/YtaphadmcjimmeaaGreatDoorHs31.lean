import Derived.Test.YtaphadmcjimmeaaGreatDoorHs28
import Derived.Test.YtaphadmcjimmeaaGreatDoorHs30
set_option linter.unusedVariables false
namespace Go.Proofs.YtaphadmcjimmeaaGreatDoor
open Go Go.Proofs Go.RowKit Go.Vc
theorem wfU16 {x : Int} (h : (Lit.int .u16 x).wf = true) : 0 ≤ x ∧ x ≤ 65535 := by
  simp [Lit.wf, IntKind.min, IntKind.max, IntKind.signed, IntKind.bits] at h; omega
theorem wfU32 {x : Int} (h : (Lit.int .u32 x).wf = true) : 0 ≤ x ∧ x < 4294967296 := by
  simp [Lit.wf, IntKind.min, IntKind.max, IntKind.signed, IntKind.bits] at h; omega
theorem isP_wf {z0 : List Int} (w0 : z0.length = 8 ∧ ∀ z ∈ z0, (Lit.int .u16 z).wf = true) : IsP z0 := ⟨w0.1, fun i => by
  rw [List.getD_eq_getElem?_getD]
  rcases Nat.lt_or_ge i z0.length with h | h
  · rw [List.getElem?_eq_getElem h]
    have := wfU16 (w0.2 _ (List.getElem_mem h))
    show 0 ≤ z0[i] ∧ z0[i] < 65536
    omega
  · rw [List.getElem?_eq_none h]; exact ⟨Int.le_refl _, by decide⟩⟩
theorem vals_len (z0 : List Int) (h : z0.length = 8) : (BRow.vals (.ints .u16 z0)).length = 8 := by unfold BRow.vals; rw [List.length_map]; exact h
theorem host_rep {a : Int} {s : ByteArray} {n : Int} {p : List Int} (h : p.length = 8) (G : Gh) (w : World) : Rep (.agg [.int .i64 a, .str s.data.toList, .int .u32 n, .arr 8 (.ints .u16 p)]) G w (.agg (hostVs a s n p).toArray) := by
  have one : ∀ u : Value, (u.cells.toList = [u]) → flatV u = true → ∀ c ∈ u.cells.toList, flatV c = true := fun u h1 h2 c hc => by
    rw [h1, List.mem_singleton] at hc; subst hc; exact h2
  refine ⟨[.int .i64 a, .string s, .int .u32 n, .agg (p.map fun z => .int .u16 z).toArray], ⟨_, _, rfl, rfl, rfl, one _ rfl rfl, _, _, rfl, rfl, rfl, one _ rfl rfl, _, _, rfl, rfl, rfl, one _ rfl rfl, _, _, rfl, ⟨vals_len p h, rfl⟩, ?_, ?_, rfl⟩, ?_⟩
  · show (p.map fun z => Value.int .u16 z).toArray.size = 8
    rw [List.size_toArray, List.length_map, h]
  · intro c hc
    have : c ∈ p.map fun z => Value.int .u16 z := hc
    obtain ⟨z, -, rfl⟩ := List.mem_map.1 this
    rfl
  · unfold hostVs
    rw [List.flatMap_cons, List.flatMap_cons, List.flatMap_cons, List.flatMap_cons, List.flatMap_nil, List.append_nil]
    rfl
theorem HostShows_walk (a0k : Int) (a0 : ByteArray) (a0n : Int) (a0p : List Int) (a1 : Bool) (w : World) (w0 : HostWf a0k a0 a0n a0p) (htab : TabH w) :
    Calls Tryz.prog 3 #[.agg (hostVs a0k a0 a0n a0p).toArray, .bool a1] w fun e w' => e = .returned (.bool true) ∧ Below w.heap.size w w' := by
  obtain ⟨-, -, h1, h2⟩ := w0
  have hx : RepL' [.agg [.int .i64 a0k, .str a0.data.toList, .int .u32 a0n, .arr 8 (.ints .u16 a0p)], .bool a1] (bareG fun _ _ => none) w [.agg (hostVs a0k a0 a0n a0p).toArray, .bool a1] :=
    ⟨_, _, rfl, host_rep h2.1 _ _, _, _, rfl, rfl, rfl⟩
  have hn := wfU32 h1
  exact FuncOk.yes (fn := Tryz.f3) Tryz.func3 (by kernel_rfl) rfl (FuncOk.of_plain ⟨rfl, rfl⟩ fun _ => (ok_hshows a0k a0.data.toList a0n a0p a1).plain ⟨rfl, rfl⟩ ⟨hn.1, hn.2, isP_wf h2⟩) htab hx
end Go.Proofs.YtaphadmcjimmeaaGreatDoor
