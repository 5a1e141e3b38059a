import Derived.Test.YtaphadmcjimmeaaGreatDoorProg
import Derived.Test.YtaphadmcjimmeaaGreatDoorHs9
import Derived.Test.YtaphadmcjimmeaaGreatDoorHs29
set_option linter.unusedVariables false
namespace Go.Proofs.YtaphadmcjimmeaaGreatDoor
open Go Go.Proofs Go.RowKit Go.ChangeShapes Go.WideShapes
theorem okW_struct {P : Program} {w : World} {r : Reach} {base : Nat} {t : TypeId} {fs : Array Field} {v : Value} (ht : P.underlying t = some (.struct fs)) (h : Value.okWide P w r base t v) : ∃ cs, v = .agg cs := by
  unfold Value.okWide at h
  rw [ht] at h
  obtain ⟨cs, h, -⟩ := h
  exact ⟨cs, h⟩
def hostVs (a : Int) (s : ByteArray) (n : Int) (p : List Int) : List Value := .int .i64 a :: .string s :: .int .u32 n :: p.map fun z => .int .u16 z
def HostWf (a : Int) (s : ByteArray) (n : Int) (p : List Int) : Prop := (Lit.int .i64 a).wf = true ∧ s.size ≤ maxLen ∧ (Lit.int .u32 n).wf = true ∧ p.length = 8 ∧ ∀ z ∈ p, (Lit.int .u16 z).wf = true
section
variable {H : Type} {enc : TypeId × Value → H} {w : World} {base : Nat} {spare : Nat → Bool} {held : Bool}
theorem hc_int : Tryz.prog.cellsOf 3 = 1 := by kernel_rfl
theorem hc_str : Tryz.prog.cellsOf 9 = 1 := by kernel_rfl
theorem hc_u32 : Tryz.prog.cellsOf 22 = 1 := by kernel_rfl
theorem hc_u16 : Tryz.prog.cellsOf 23 = 1 := by kernel_rfl
theorem hc_arr : Tryz.prog.cellsOf 24 = 8 := by kernel_rfl
theorem hc_host : Tryz.prog.cellsOf 26 = 11 := by kernel_rfl
theorem open_host {v : Value} {d : DataW H} {ps : List MemPlace} (hval : ∃ cs, v = .agg cs) (hd : DataW.Trod enc Tryz.prog w base spare held 26 v d ps) :
    ∃ (a : Int) (s : ByteArray) (n : Int) (p : List Int), v = .agg (hostVs a s n p).toArray ∧ d = .agg [.lit (.int .i64 a), .lit (.string s.data.toList), .lit (.int .u32 n), .agg (p.map fun z => .lit (.int .u16 z))] ∧ ps = [] ∧ HostWf a s n p := by
  obtain ⟨cs, rfl⟩ := hval
  obtain ⟨fuel, hf⟩ := hd
  obtain ⟨xs, m, -, ex, hl, hlen, hq⟩ := DataW.trod_struct Tryz.underlying26 hf
  rw [hc_host] at hl
  have hl' : cs.toList.length = 11 := hl
  match xs, hlen with
  | [y0, y1, y2, y3], _ =>
    have h0 : DataW.trod enc Tryz.prog w base spare held m 3 ((cs.toList.drop 0).take (Tryz.prog.cellsOf 3)) = some y0 := hq 0 _ rfl
    have h1 : DataW.trod enc Tryz.prog w base spare held m 9 ((cs.toList.drop 1).take (Tryz.prog.cellsOf 9)) = some y1 := hq 1 _ rfl
    have h2 : DataW.trod enc Tryz.prog w base spare held m 22 ((cs.toList.drop 2).take (Tryz.prog.cellsOf 22)) = some y2 := hq 2 _ rfl
    have h3 : DataW.trod enc Tryz.prog w base spare held m 24 ((cs.toList.drop 3).take (Tryz.prog.cellsOf 24)) = some y3 := hq 3 _ rfl
    clear hq hf hl
    rw [hc_int] at h0
    rw [hc_str] at h1
    rw [hc_u32] at h2
    rw [hc_arr] at h3
    obtain ⟨l, el⟩ : ∃ l, cs.toList = l := ⟨_, rfl⟩
    rw [el] at h0 h1 h2 h3 hl'
    match l, hl' with
    | x0 :: x1 :: x2 :: rest, hl' =>
      have hr : rest.length = 8 := by simpa using hl'
      have h3' : DataW.trod enc Tryz.prog w base spare held m 24 (rest.take 8) = some y3 := h3
      rw [List.take_of_length_le (by omega)] at h3'
      obtain ⟨a, e0, rfl, w0⟩ := DataW.trod_int Tryz.underlying3 h0
      obtain ⟨s, e1, rfl, w1⟩ := DataW.trod_string Tryz.underlying9 h1
      obtain ⟨n, e2, rfl, w2⟩ := DataW.trod_int Tryz.underlying22 h2
      injection e0 with e0 _
      injection e1 with e1 _
      injection e2 with e2 _
      obtain ⟨zs, k, -, rfl, hlen, hz, hel⟩ := DataW.trod_array Tryz.underlying24 h3'
      rw [hc_u16] at hel
      obtain ⟨p, g1, g2, g3⟩ := uarr_cells Tryz.underlying23 rest zs (by omega) fun i hi => by
        have := hel i (by omega)
        rw [Nat.mul_one] at this
        exact this
      injection ex with ex1 ex2
      refine ⟨a, s, n, p, ?_, ?_, ?_, w0, w1, w2, ?_, g3⟩
      · congr 1
        rw [← Array.toArray_toList (xs := cs), el, e0, e1, e2, g1]; rfl
      · rw [ex1, g2, List.map_cons, List.map_cons, List.map_cons, List.map_cons, List.map_nil, List.map_map]; rfl
      · rw [ex2, g2]
        rw [List.flatMap_cons, List.flatMap_cons, List.flatMap_cons, List.flatMap_cons, List.flatMap_nil]
        show [] ++ ([] ++ ([] ++ ((List.map (fun z => ((.lit (.int .u16 z), []) : DataW H × List MemPlace)) p).flatMap (·.2) ++ []))) = []
        rw [no_placesU]; rfl
      · rw [g1, List.length_map] at hr; exact hr
theorem shut_host {a : Int} {s : ByteArray} {n : Int} {p : List Int} (h : HostWf a s n p) :
    DataW.Trod enc Tryz.prog w base spare held 26 (.agg (hostVs a s n p).toArray) (.agg [.lit (.int .i64 a), .lit (.string s.data.toList), .lit (.int .u32 n), .agg (p.map fun z => .lit (.int .u16 z))]) [] := by
  obtain ⟨w0, w1, w2, hl, w3⟩ := h
  obtain ⟨f0, g0⟩ := shut_int (enc := enc) (w := w) (base := base) (spare := spare) (held := held) Tryz.underlying3 w0
  obtain ⟨f1, g1⟩ := Go.ChangeMaps.shut_string (enc := enc) (w := w) (base := base) (sp := spare) (held := held) Tryz.underlying9 w1
  obtain ⟨f2, g2⟩ := shut_int (enc := enc) (w := w) (base := base) (spare := spare) (held := held) Tryz.underlying22 w2
  obtain ⟨f3, g3⟩ := shut_uarr (enc := enc) (P := Tryz.prog) (w := w) (base := base) (spare := spare) (held := held) (q := .u16) Tryz.underlying24 Tryz.underlying23 hc_u16 hc_arr hl w3
  have m0 := DataW.trod_le (Nat.le_max_left f0 (max f1 (max f2 f3))) g0
  have m1 := DataW.trod_le (Nat.le_trans (Nat.le_max_left f1 (max f2 f3)) (Nat.le_max_right f0 _)) g1
  have m2 := DataW.trod_le (Nat.le_trans (Nat.le_trans (Nat.le_max_left f2 f3) (Nat.le_max_right f1 _)) (Nat.le_max_right f0 _)) g2
  have m3 := DataW.trod_le (Nat.le_trans (Nat.le_trans (Nat.le_max_right f2 f3) (Nat.le_max_right f1 _)) (Nat.le_max_right f0 _)) g3
  generalize max f0 (max f1 (max f2 f3)) = m at m0 m1 m2 m3
  have hlen : (hostVs a s n p).length = 11 := by unfold hostVs; rw [List.length_cons, List.length_cons, List.length_cons, List.length_map, hl]
  refine ⟨m + 1, ?_⟩
  have := trod_struct_mk (enc := enc) (w := w) (base := base) (spare := spare) (held := held) (n := m) (cs := hostVs a s n p) (xs := [(.lit (.int .i64 a), []), (.lit (.string s.data.toList), []), (.lit (.int .u32 n), []), (.agg (p.map fun z => .lit (.int .u16 z)), [])]) Tryz.underlying26 (by rw [hc_host]; exact hlen) ?_
  · exact this
  · have e3 : ((hostVs a s n p).drop 3).take 8 = p.map fun z => Value.int .u16 z := List.take_of_length_le (by show (p.map fun z => Value.int .u16 z).length ≤ 8; rw [List.length_map, hl]; exact Nat.le_refl _)
    have k0 : DataW.trod enc Tryz.prog w base spare held m 3 (((hostVs a s n p).drop 0).take (Tryz.prog.cellsOf 3)) = some (.lit (.int .i64 a), []) := by rw [hc_int]; exact m0
    have k1 : DataW.trod enc Tryz.prog w base spare held m 9 (((hostVs a s n p).drop 1).take (Tryz.prog.cellsOf 9)) = some (.lit (.string s.data.toList), []) := by rw [hc_str]; exact m1
    have k2 : DataW.trod enc Tryz.prog w base spare held m 22 (((hostVs a s n p).drop 2).take (Tryz.prog.cellsOf 22)) = some (.lit (.int .u32 n), []) := by rw [hc_u32]; exact m2
    have k3 : DataW.trod enc Tryz.prog w base spare held m 24 (((hostVs a s n p).drop 3).take (Tryz.prog.cellsOf 24)) = some (.agg (p.map fun z => .lit (.int .u16 z)), []) := by rw [hc_arr, e3]; exact m3
    simp only [List.mapM_cons, List.mapM_nil, k0, k1, k2, k3]
    rfl
end
end Go.Proofs.YtaphadmcjimmeaaGreatDoor
