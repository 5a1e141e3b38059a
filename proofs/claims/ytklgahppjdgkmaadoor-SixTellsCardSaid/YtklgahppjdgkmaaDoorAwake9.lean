import Derived.Test.YtklgahppjdgkmaaDoorR4
import Derived.Test.YtklgahppjdgkmaaDoorProg
import Derived.ProofKit
set_option linter.unusedVariables false
set_option linter.unusedSectionVars false
set_option maxRecDepth 100000
namespace Go.Ev
open Go Go.Proofs Go.RowKit
instance sg0 : Sg := ⟨fun _ => .int .i64 0⟩
instance sl0 : Sl := ⟨fun _ _ => none, []⟩
theorem names_of {P : Program} (h : P.funcs.toList.all (fun fn => fn.name != "runtime.NumGoroutine") = true) : ∀ (f : Nat) fn, P.funcs[f]? = some fn → fn.name ≠ "runtime.NumGoroutine" := fun f fn hf => by
  have := List.all_eq_true.1 h fn (by
    rw [← Array.getElem?_toList] at hf
    exact List.mem_of_getElem? hf)
  simpa using this
def X9 : Nat → Nat := fun f => cond (Nat.beq f 61) 1 0
theorem runs9 : Runs Tryd.prog X9 := by
  refine ⟨by kernel_rfl, names_of (by kernel_rfl), extOK fun f c h => ?_⟩
  have h2 : (cond (Nat.beq f 61) 1 0 : Nat) = c + 1 := h
  cases hb : Nat.beq f 61 with
  | false => rw [hb] at h2; cases h2
  | true =>
    rw [hb] at h2
    have h2 : 1 = c + 1 := h2
    obtain rfl := Nat.eq_of_beq_eq_true hb
    exact .inl ⟨by omega, Tryd.f61, Tryd.func61, by kernel_rfl, by kernel_rfl, by kernel_rfl, by kernel_rfl⟩
def b0 : List AV := [.int .u64 1, .int .u64 10, .int .u64 100, .int .u64 1000, .int .u64 10000, .int .u64 100000, .int .u64 1000000, .int .u64 10000000, .int .u64 100000000, .int .u64 1000000000, .int .u64 10000000000, .int .u64 100000000000, .int .u64 1000000000000, .int .u64 10000000000000, .int .u64 100000000000000, .int .u64 1000000000000000, .int .u64 10000000000000000, .int .u64 100000000000000000, .int .u64 1000000000000000000, .int .u64 10000000000000000000]
def b2 : List AV := [.u8 0, .u8 1, .u8 28, .u8 2, .u8 29, .u8 14, .u8 24, .u8 3, .u8 30, .u8 22, .u8 20, .u8 15, .u8 25, .u8 17, .u8 4, .u8 8, .u8 31, .u8 27, .u8 13, .u8 23, .u8 21, .u8 19, .u8 16, .u8 7, .u8 26, .u8 12, .u8 18, .u8 6, .u8 11, .u8 5, .u8 10, .u8 9]
def b3 : List AV := [.u8 0, .u8 1, .u8 56, .u8 2, .u8 57, .u8 49, .u8 28, .u8 3, .u8 61, .u8 58, .u8 42, .u8 50, .u8 38, .u8 29, .u8 17, .u8 4, .u8 62, .u8 47, .u8 59, .u8 36, .u8 45, .u8 43, .u8 51, .u8 22, .u8 53, .u8 39, .u8 33, .u8 30, .u8 24, .u8 18, .u8 12, .u8 5, .u8 63, .u8 55, .u8 48, .u8 27, .u8 60, .u8 41, .u8 37, .u8 16, .u8 46, .u8 35, .u8 44, .u8 21, .u8 52, .u8 32, .u8 23, .u8 11, .u8 54, .u8 26, .u8 40, .u8 15, .u8 34, .u8 20, .u8 31, .u8 10, .u8 25, .u8 14, .u8 19, .u8 9, .u8 13, .u8 8, .u8 7, .u8 6]
def tabs9 (e0 e2 e3 : TypeId) : List Tb := [⟨0, e0, b0, 1⟩, ⟨2, e2, b2, 1⟩, ⟨3, e3, b3, 1⟩]

theorem eval9 (e0 e2 e3 : TypeId) : callK Tryd.prog X9 10000 40 7 [] (.mk (tabT (tabs9 e0 e2 e3)) 4 4) (fin 4) = .yes := by kernel_rfl
theorem awake9 (e0 e2 e3 : TypeId) (w : World) (ht : ∀ t ∈ tabs9 e0 e2 e3, t.At 4 w) : Calls Tryd.prog 7 #[] w fun e w' => e = .returned (.bool true) ∧ Below w.heap.size w w' :=
  runs9.tabs (vs := []) Tryd.func7 rfl (by decide +kernel) rfl ht (eval9 e0 e2 e3)
end Go.Ev
