/- An array of bools by value, as the reader reads it: taken apart, and put together. -/
import Derived.OpenShut
import Derived.RowKit
set_option linter.unusedVariables false
set_option linter.unusedSectionVars false
namespace Go.RowKit
open Go.ChangeShapes Go.WideShapes
section
variable {H : Type} {enc : TypeId × Value → H} {P : Program} {w : World} {base : Nat} {spare : Nat → Bool} {held : Bool}
theorem barr_cells {m : Nat} {e : TypeId} (he : P.underlying e = some .bool) : ∀ (cs : List Value) (xs : List (DataW H × List MemPlace)), cs.length = xs.length →
    (∀ i, i < xs.length → DataW.trod enc P w base spare held m e ((cs.drop i).take 1) = xs[i]?) → ∃ l : List Bool, cs = l.map .bool ∧ xs = l.map fun b => (.lit (.bool b), [])
  | [], [], _, _ => ⟨[], rfl, rfl⟩
  | [], x :: xs, h, _ => by simp at h
  | c :: cs, [], h, _ => by simp at h
  | c :: cs, x :: xs, h, hh => by
    have h0 := hh 0 (by simp)
    simp only [List.drop_zero, List.take_succ_cons, List.take_zero, List.getElem?_cons_zero] at h0
    obtain ⟨b, hb, hx⟩ := DataW.trod_bool he h0
    injection hb with hb _
    obtain ⟨l, h1, h2⟩ := barr_cells he cs xs (by simpa using h) fun i hi => by
      have := hh (i + 1) (by simp; omega)
      simpa using this
    exact ⟨b :: l, by rw [hb, h1]; rfl, by rw [hx, h2]; rfl⟩
theorem no_places : ∀ l : List Bool, (l.map fun b => ((.lit (.bool b), []) : DataW H × List MemPlace)).flatMap (·.2) = []
  | [] => rfl
  | b :: l => no_places l
theorem open_barr {r : Reach} {b0 n : Nat} {t e : TypeId} {v : Value} {d : DataW H} {ps : List MemPlace} (ht : P.underlying t = some (.array n e)) (he : P.underlying e = some .bool) (hc : P.cellsOf e = 1) (hct : P.cellsOf t = n)
    (hval : Value.okWide P w r b0 t v) (hd : DataW.Trod enc P w base spare held t v d ps) : ∃ l : List Bool, l.length = n ∧ v = .agg (l.map .bool).toArray ∧ d = .agg (l.map fun b => .lit (.bool b)) ∧ ps = [] := by
  obtain ⟨cs, rfl, hs, -⟩ : ∃ cs, v = .agg cs ∧ cs.size = P.cellsOf t ∧ Row.okWide P w r b0 t cs := by
    simpa [Value.okWide, ht] using hval
  obtain ⟨fuel, hf⟩ := hd
  obtain ⟨xs, m, -, ex, hlen, hl, hel⟩ := DataW.trod_array ht hf
  rw [hc] at hel
  have hcl : cs.toList.length = xs.length := by rw [hl, Array.length_toList, hs, hct]
  obtain ⟨l, h1, h2⟩ := barr_cells he cs.toList xs hcl fun i hi => by
    have := hel i (by omega)
    rw [Nat.mul_one] at this
    exact this
  injection ex with e1 e2
  refine ⟨l, ?_, ?_, ?_, ?_⟩
  · rw [← hl, h2, List.length_map]
  · rw [← h1]
  · rw [e1, h2, List.map_map]; rfl
  · rw [e2, h2]; exact no_places l
theorem mapM_all {α β : Type} {f : α → Option β} {g : α → β} : ∀ {L : List α}, (∀ i ∈ L, f i = some (g i)) → L.mapM f = some (L.map g)
  | [], _ => rfl
  | i :: L, h => by
    rw [List.mapM_cons, h i (List.mem_cons_self ..), mapM_all fun j hj => h j (List.mem_cons_of_mem _ hj)]
    rfl
theorem shut_barr {n : Nat} {t e : TypeId} (ht : P.underlying t = some (.array n e)) (he : P.underlying e = some .bool) (hc : P.cellsOf e = 1) (hct : P.cellsOf t = n) {l : List Bool} (hl : l.length = n) :
    DataW.Trod enc P w base spare held t (.agg (l.map .bool).toArray) (.agg (l.map fun b => .lit (.bool b))) [] := by
  refine ⟨2, ?_⟩
  rw [DataW.trod_step]
  unfold DataW.trodStep
  rw [ht]
  have key : (List.range n).mapM (fun i => DataW.trod enc P w base spare held 1 e (((l.map Value.bool).drop (i * P.cellsOf e)).take (P.cellsOf e))) = some ((List.range n).map fun i => ((.lit (.bool (l.getD i false)), []) : DataW H × List MemPlace)) := by
    refine mapM_all fun i hi => ?_
    have hi' := List.mem_range.1 hi
    rw [hc, Nat.mul_one]
    have hlt : i < l.length := by omega
    have : ((l.map Value.bool).drop i).take 1 = [Value.bool (l.getD i false)] := by
      rw [List.drop_eq_getElem_cons (by rw [List.length_map]; exact hlt), List.take_succ_cons, List.take_zero, List.getElem_map]
      simp [List.getD, hlt]
    rw [this, DataW.trod_step]
    unfold DataW.trodStep
    rw [he]
  have k2 : (List.range n).map (fun i => l.getD i false) = l := by
    subst hl
    refine List.ext_getElem (by simp) fun i h1 h2 => ?_
    simp [List.getD, h2]
  have k3 : ((List.range n).map fun i => ((.lit (.bool (l.getD i false)), []) : DataW H × List MemPlace)).map (·.1) = l.map fun b => .lit (.bool b) := by
    conv => rhs; rw [← k2]
    rw [List.map_map, List.map_map]; rfl
  have k4 : ((List.range n).map fun i => ((.lit (.bool (l.getD i false)), []) : DataW H × List MemPlace)).flatMap (·.2) = [] := by
    generalize List.range n = L
    induction L with
    | nil => rfl
    | cons b l ih => simp
  have hlen : (l.map Value.bool).length = P.cellsOf t := by rw [List.length_map, hl, hct]
  simp only [Value.cells, hlen, if_true, key]
  simp only [Option.map_some]
  rw [k3, k4]
theorem barr2 {l : List Bool} (h : l.length = 2) : ∃ a b, l = [a, b] := by
  obtain ⟨a, b, rfl⟩ : ∃ a b, l = [a, b] := by
    rcases l with _ | ⟨a, _ | ⟨b, _ | ⟨c, l⟩⟩⟩ <;> simp at h
    exact ⟨a, b, rfl⟩
  exact ⟨a, b, rfl⟩
theorem barr3 {l : List Bool} (h : l.length = 3) : ∃ a b c, l = [a, b, c] := by
  rcases l with _ | ⟨x, l⟩
  · simp at h
  · obtain ⟨a, b, rfl⟩ := barr2 (l := l) (by simpa using h)
    exact ⟨x, a, b, rfl⟩
theorem barr4 {l : List Bool} (h : l.length = 4) : ∃ a b c d, l = [a, b, c, d] := by
  rcases l with _ | ⟨x, l⟩
  · simp at h
  · obtain ⟨a, b, c, rfl⟩ := barr3 (l := l) (by simpa using h)
    exact ⟨x, a, b, c, rfl⟩
theorem barr5 {l : List Bool} (h : l.length = 5) : ∃ a b c d e, l = [a, b, c, d, e] := by
  rcases l with _ | ⟨x, l⟩
  · simp at h
  · obtain ⟨a, b, c, d, rfl⟩ := barr4 (l := l) (by simpa using h)
    exact ⟨x, a, b, c, d, rfl⟩
theorem barr6 {l : List Bool} (h : l.length = 6) : ∃ a b c d e f, l = [a, b, c, d, e, f] := by
  rcases l with _ | ⟨x, l⟩
  · simp at h
  · obtain ⟨a, b, c, d, e, rfl⟩ := barr5 (l := l) (by simpa using h)
    exact ⟨x, a, b, c, d, e, rfl⟩
theorem barr7 {l : List Bool} (h : l.length = 7) : ∃ a b c d e f g, l = [a, b, c, d, e, f, g] := by
  rcases l with _ | ⟨x, l⟩
  · simp at h
  · obtain ⟨a, b, c, d, e, f, rfl⟩ := barr6 (l := l) (by simpa using h)
    exact ⟨x, a, b, c, d, e, f, rfl⟩
theorem barr8 {l : List Bool} (h : l.length = 8) : ∃ a b c d e f g i, l = [a, b, c, d, e, f, g, i] := by
  rcases l with _ | ⟨x, l⟩
  · simp at h
  · obtain ⟨a, b, c, d, e, f, g, rfl⟩ := barr7 (l := l) (by simpa using h)
    exact ⟨x, a, b, c, d, e, f, g, rfl⟩
end
end Go.RowKit
