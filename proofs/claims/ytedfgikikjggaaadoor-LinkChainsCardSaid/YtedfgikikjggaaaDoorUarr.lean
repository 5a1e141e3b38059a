/- An array of numbers by value, as the reader reads it: taken apart, and put together. -/
import Derived.OpenShut
import Derived.RowKit
import Derived.ChangeSame
set_option linter.unusedVariables false
set_option linter.unusedSectionVars false
namespace Go.RowKit
open Go.ChangeShapes Go.WideShapes
section
variable {H : Type} {enc : TypeId × Value → H} {P : Program} {w : World} {base : Nat} {spare : Nat → Bool} {held : Bool} {q : IntKind}
theorem uarr_cells {m : Nat} {e : TypeId} (he : P.underlying e = some (.int q)) : ∀ (cs : List Value) (xs : List (DataW H × List MemPlace)), cs.length = xs.length →
    (∀ i, i < xs.length → DataW.trod enc P w base spare held m e ((cs.drop i).take 1) = xs[i]?) → ∃ l : List Int, cs = l.map (fun z => .int q z) ∧ (xs = l.map fun z => (.lit (.int q z), [])) ∧ ∀ z ∈ l, (Lit.int q z).wf = true
  | [], [], _, _ => ⟨[], rfl, rfl, fun z hz => by cases hz⟩
  | [], x :: xs, h, _ => by simp at h
  | c :: cs, [], h, _ => by simp at h
  | c :: cs, x :: xs, h, hh => by
    have h0 := hh 0 (by simp)
    simp only [List.drop_zero, List.take_succ_cons, List.take_zero, List.getElem?_cons_zero] at h0
    obtain ⟨b, hb, hx, hw⟩ := DataW.trod_int he h0
    injection hb with hb _
    obtain ⟨l, h1, h2, h3⟩ := uarr_cells he cs xs (by simpa using h) fun i hi => by
      have := hh (i + 1) (by simp; omega)
      simpa using this
    exact ⟨b :: l, by rw [hb, h1]; rfl, by rw [hx, h2]; rfl, fun z hz => by
      rcases List.mem_cons.1 hz with rfl | hz
      · exact hw
      · exact h3 z hz⟩
theorem no_placesU : ∀ l : List Int, (l.map fun z => ((.lit (.int q z), []) : DataW H × List MemPlace)).flatMap (·.2) = []
  | [] => rfl
  | b :: l => no_placesU l
theorem open_uarr {r : Reach} {b0 n : Nat} {t e : TypeId} {v : Value} {d : DataW H} {ps : List MemPlace} (ht : P.underlying t = some (.array n e)) (he : P.underlying e = some (.int q)) (hc : P.cellsOf e = 1) (hct : P.cellsOf t = n)
    (hval : Value.okWide P w r b0 t v) (hd : DataW.Trod enc P w base spare held t v d ps) : ∃ l : List Int, l.length = n ∧ v = .agg (l.map fun z => .int q z).toArray ∧ (d = .agg (l.map fun z => .lit (.int q z))) ∧ ps = [] ∧ ∀ z ∈ l, (Lit.int q z).wf = true := by
  obtain ⟨cs, rfl, hs, -⟩ : ∃ cs, v = .agg cs ∧ cs.size = P.cellsOf t ∧ Row.okWide P w r b0 t cs := by
    simpa [Value.okWide, ht] using hval
  obtain ⟨fuel, hf⟩ := hd
  obtain ⟨xs, m, -, ex, hlen, hl, hel⟩ := DataW.trod_array ht hf
  rw [hc] at hel
  have hcl : cs.toList.length = xs.length := by rw [hl, Array.length_toList, hs, hct]
  obtain ⟨l, h1, h2, h3⟩ := uarr_cells he cs.toList xs hcl fun i hi => by
    have := hel i (by omega)
    rw [Nat.mul_one] at this
    exact this
  injection ex with e1 e2
  refine ⟨l, ?_, ?_, ?_, ?_, h3⟩
  · rw [← hl, h2, List.length_map]
  · rw [← h1]
  · rw [e1, h2, List.map_map]; rfl
  · rw [e2, h2]; exact no_placesU l
theorem mapM_allU {α β : Type} {f : α → Option β} {g : α → β} : ∀ {L : List α}, (∀ i ∈ L, f i = some (g i)) → L.mapM f = some (L.map g)
  | [], _ => rfl
  | i :: L, h => by
    rw [List.mapM_cons, h i (List.mem_cons_self ..), mapM_allU fun j hj => h j (List.mem_cons_of_mem _ hj)]
    rfl
theorem shut_uarr {n : Nat} {t e : TypeId} (ht : P.underlying t = some (.array n e)) (he : P.underlying e = some (.int q)) (hc : P.cellsOf e = 1) (hct : P.cellsOf t = n) {l : List Int} (hl : l.length = n) (hw : ∀ z ∈ l, (Lit.int q z).wf = true) :
    DataW.Trod enc P w base spare held t (.agg (l.map fun z => .int q z).toArray) (.agg (l.map fun b => .lit (.int q b))) [] := by
  refine ⟨2, ?_⟩
  rw [DataW.trod_step]
  unfold DataW.trodStep
  rw [ht]
  have key : (List.range n).mapM (fun i => DataW.trod enc P w base spare held 1 e (((l.map fun z => Value.int q z).drop (i * P.cellsOf e)).take (P.cellsOf e))) = some ((List.range n).map fun i => ((.lit (.int q (l.getD i 0)), []) : DataW H × List MemPlace)) := by
    refine mapM_allU fun i hi => ?_
    have hi' := List.mem_range.1 hi
    rw [hc, Nat.mul_one]
    have hlt : i < l.length := by omega
    have : ((l.map fun z => Value.int q z).drop i).take 1 = [Value.int q (l.getD i 0)] := by
      rw [List.drop_eq_getElem_cons (by rw [List.length_map]; exact hlt), List.take_succ_cons, List.take_zero, List.getElem_map]
      simp [List.getD, hlt]
    rw [this, DataW.trod_step]
    unfold DataW.trodStep
    rw [he]
    have hwi : (Lit.int q (l.getD i 0)).wf = true := by
      rw [List.getD_eq_getElem?_getD, List.getElem?_eq_getElem hlt]
      exact hw _ (List.getElem_mem _)
    dsimp only
    rw [if_pos ⟨rfl, hwi⟩]
  have k2 : (List.range n).map (fun i => l.getD i 0) = l := by
    subst hl
    refine List.ext_getElem (by simp) fun i h1 h2 => ?_
    simp [List.getD, h2]
  have k3 : ((List.range n).map fun i => ((.lit (.int q (l.getD i 0)), []) : DataW H × List MemPlace)).map (·.1) = l.map fun b => .lit (.int q b) := by
    conv => rhs; rw [← k2]
    rw [List.map_map, List.map_map]; rfl
  have k4 : ((List.range n).map fun i => ((.lit (.int q (l.getD i 0)), []) : DataW H × List MemPlace)).flatMap (·.2) = [] := by
    generalize List.range n = L
    induction L with
    | nil => rfl
    | cons b l ih => simp
  have hlen : (l.map fun z => Value.int q z).length = P.cellsOf t := by rw [List.length_map, hl, hct]
  simp only [Value.cells, hlen, if_true, key]
  simp only [Option.map_some]
  rw [k3, k4]
theorem spot_of {r : Reach} {b0 : Nat} {t e : TypeId} {a : Option Addr} {n c : Nat} (ht : P.underlying t = some (.slice e)) (h : Value.okWide P w r b0 t (.slice a n c)) : ∀ x, a = some x → x.spot = none := fun x hx => by
  subst hx
  simp only [Value.okWide, ht, Cell.okWide, Cell.ok] at h
  exact h.2.2.2.1
end
end Go.RowKit
