/- An argument of type []api.Node: taken apart. -/
import Derived.Test.YtedfgikikjggaaaDoorNds
import Derived.Test.YtedfgikikjggaaaDoorProg
import Derived.ChangeArms
import Derived.OpenShut
import Derived.SliceStrings
set_option linter.unusedVariables false
set_option maxRecDepth 100000
namespace Go.Proofs.YtedfgikikjggaaaDoor
open Go Go.Proofs Go.RowKit Go.ChangeShapes Go.WideShapes
theorem cells_atN {w : World} {base n : Nat} {a : Addr} {cs : List Value} (h : w.cells? base a n = some cs) : cs.length = n ∧ ∀ i, i < n → w.cell? (a.add i) = cs[i]? := by
  unfold World.cells? at h
  split at h
  · have hl := mapM_some_length h
    rw [List.length_range] at hl
    refine ⟨hl, fun i hi => ?_⟩
    have := mapM_some_get h i i (by rw [List.getElem?_range hi])
    exact this
  · cases h
theorem spot_cellN {w : World} {a : Addr} {v : Value} (h : w.cell? a = some v) : a.spot = none := by
  unfold World.cell? at h
  split at h
  · split at h
    · cases h
    · rename_i hs; cases hp : a.spot with
      | none => rfl
      | some x => rw [hp] at hs; exact absurd rfl hs
  · cases h
section
variable {H : Type} {enc : TypeId × Value → H} {w : World} {base : Nat} {spare : Nat → Bool} {held : Bool}
theorem cc_int : Tryd.prog.cellsOf 3 = 1 := by kernel_rfl
theorem cc_str : Tryd.prog.cellsOf 9 = 1 := by kernel_rfl
theorem cc_nd : Tryd.prog.cellsOf 35 = 3 := by kernel_rfl
theorem open_nd {n : Nat} {cs : List Value} {x : DataW H × List MemPlace} (h : DataW.trod enc Tryd.prog w base spare held n 35 cs = some x) :
    ∃ nd : Nd, cs = ndC nd ∧ nd.p.length ≤ maxLen ∧ nd.d.length ≤ maxLen := by
  obtain ⟨xs, m, -, ex, hl, hlen, hq⟩ := DataW.trod_struct Tryd.underlying35 h
  rw [cc_nd] at hl
  match xs, hlen with
  | [y0, y1, y2], _ =>
    have h0 : DataW.trod enc Tryd.prog w base spare held m 9 ((cs.drop 0).take (Tryd.prog.cellsOf 9)) = some y0 := hq 0 _ rfl
    have h1 : DataW.trod enc Tryd.prog w base spare held m 3 ((cs.drop 1).take (Tryd.prog.cellsOf 3)) = some y1 := hq 1 _ rfl
    have h2 : DataW.trod enc Tryd.prog w base spare held m 9 ((cs.drop 2).take (Tryd.prog.cellsOf 9)) = some y2 := hq 2 _ rfl
    rw [cc_str] at h0 h2
    rw [cc_int] at h1
    match cs, hl with
    | [x0, x1, x2], _ =>
      obtain ⟨s, e0, -, w0⟩ := DataW.trod_string Tryd.underlying9 h0
      obtain ⟨k, e1, -, w1⟩ := DataW.trod_int Tryd.underlying3 h1
      obtain ⟨d, e2, -, w2⟩ := DataW.trod_string Tryd.underlying9 h2
      injection e0 with e0 _
      injection e1 with e1 _
      injection e2 with e2 _
      subst e0 e1 e2
      refine ⟨⟨s.data.toList, k, d.data.toList⟩, ?_, by simpa using w0, by simpa using w2⟩
      unfold ndC
      show [Value.string s, .int .i64 k, .string d] = [Value.string ⟨s.data.toList.toArray⟩, .int .i64 k, .string ⟨d.data.toList.toArray⟩]
      rw [Array.toArray_toList, Array.toArray_toList]
theorem open_nds {n : Nat} {a : Option Addr} {len cap : Nat} {x : DataW H × List MemPlace} (h : DataW.trod enc Tryd.prog w base spare held n 22 [.slice a len cap] = some x) :
    ∃ ns : List Nd, len = ns.length ∧ IsNds w (.slice a len cap) ns := by
  rcases DataW.trod_slice Tryd.underlying22 h with ⟨hc, -⟩ | ⟨a', len', cap', elems, rest, m, hn, hc, hx, -, hl, hm, hlen, hel, hsp, -⟩
  · injection hc with hc _
    injection hc with h1 h2 h3
    subst h1 h2 h3
    exact ⟨[], rfl, none, 0, rfl, Nat.le_refl _, by unfold maxLen; omega, fun _ => rfl, fun h => by simp at h⟩
  injection hc with hc _
  injection hc with h1 h2 h3
  subst h1 h2 h3
  rw [cc_nd] at hel
  have each : ∀ i, ∃ (nd : Nd), i < len → w.cells? base (a'.add (i * 3)) 3 = some (ndC nd) := fun i => by
    by_cases hi : i < len
    · have := hel i hi
      rw [List.getElem?_eq_getElem (by omega), Option.bind_eq_some_iff] at this
      obtain ⟨cs, h1, h2⟩ := this
      obtain ⟨nd, h3, -⟩ := open_nd h2
      exact ⟨nd, fun _ => by rw [← h3]; exact h1⟩
    · exact ⟨nd0, fun h => absurd h hi⟩
  obtain ⟨f, hf⟩ := Classical.axiomOfChoice each
  refine ⟨(List.range len).map f, by simp, some a', cap, by rw [List.length_map, List.length_range], by simpa using hl, hm, (fun h => by cases h), fun h0 => ?_⟩
  rw [List.length_map, List.length_range] at h0
  have hspot : a'.spot = none := by
    obtain ⟨h2, h3⟩ := cells_atN (hf 0 h0)
    have := h3 0 (by omega)
    exact spot_cellN (v := .string ⟨(f 0).p.toArray⟩) this
  obtain ⟨b, o, sp⟩ := a'
  subst hspot
  refine ⟨b, o, rfl, fun i hi => ?_⟩
  rw [List.length_map, List.length_range] at hi
  obtain ⟨h2, h3⟩ := cells_atN (hf i hi)
  rw [addr_add_off] at h3
  have e : ndAt ((List.range len).map f) i = f i := by
    unfold ndAt
    rw [List.getD_eq_getElem?_getD, List.getElem?_map, List.getElem?_range hi]; rfl
  rw [e]
  refine ⟨?_, ?_, ?_⟩
  · have := h3 0 (by omega); rw [addr_add_off] at this; exact this
  · have := h3 1 (by omega); rw [addr_add_off] at this; exact this
  · have := h3 2 (by omega); rw [addr_add_off] at this; exact this
end
end Go.Proofs.YtedfgikikjggaaaDoor
