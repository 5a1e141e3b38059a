/- The evaluator: values that stand for themselves, one set for another. -/
import Derived.Test.YtniednnklbdciaaDoorEvZA
set_option linter.unusedVariables false
set_option linter.unusedSectionVars false
set_option linter.unusedSimpArgs false
namespace Go.Ev
open Go.RowKit
variable {P : Program}

/-- Whatever stands for something stands for it there, too. -/
def SgLe (s s' : Sg) : Prop := ∀ i, flatV (s.val i) = true → s'.val i = s.val i
section
variable {s s' : Sg}
mutual
theorem con_sg (hl : SgLe s s') {β : Bt} : ∀ {x : AV} {v : Value}, @con s β x = some v → @con s' β x = some v
  | .nat n, v, h => by simpa only [con] using h
  | .u8 n, v, h => by simpa only [con] using h
  | .int k z, v, h => by simpa only [con] using h
  | .bool b, v, h => by simpa only [con] using h
  | .str n l, v, h => by simpa only [con] using h
  | .raw u, v, h => by simpa only [con] using h
  | .ptr b off, v, h => by simpa only [con] using h
  | .slice b off len ex d, v, h => by simpa only [con] using h
  | .map b, v, h => by simpa only [con] using h
  | .iface t x, v, h => by
    simp only [con, Option.map_eq_some_iff] at h ⊢
    obtain ⟨c, hc, rfl⟩ := h
    exact ⟨c, con_sg hl hc, rfl⟩
  | .agg l, v, h => by
    simp only [con, Option.bind_eq_some_iff] at h ⊢
    obtain ⟨c, hc, hv⟩ := h
    exact ⟨c, conL_sg hl hc, hv⟩
  | .tup l, v, h => by
    simp only [con, Option.map_eq_some_iff] at h ⊢
    obtain ⟨c, hc, hv⟩ := h
    exact ⟨c, conL_sg hl hc, hv⟩
  | .fn f a b, v, h => by
    simp only [con, Option.bind_eq_some_iff, Option.map_eq_some_iff] at h ⊢
    obtain ⟨x, hx, y, hy, hv⟩ := h
    exact ⟨x, conL_sg hl hx, y, conL_sg hl hy, hv⟩
  | .sym i, v, h => by
    simp only [con] at h ⊢
    split at h
    · rename_i hf
      injection h with h
      rw [hl i hf, if_pos hf, h]
    · cases h
theorem conL_sg (hl : SgLe s s') {β : Bt} : ∀ {l : List AV} {vs : List Value}, @conL s β l = some vs → @conL s' β l = some vs
  | [], vs, h => by simpa only [conL] using h
  | x :: xs, vs, h => by
    simp only [conL, Option.bind_eq_some_iff, Option.map_eq_some_iff] at h ⊢
    obtain ⟨v, hv, us, hu, rfl⟩ := h
    exact ⟨v, con_sg hl hv, us, conL_sg hl hu, rfl⟩
end
theorem EntR.sg (hl : SgLe s s') {β : Bt} : ∀ {es : List (AV × AV × Nat)} {ms : List MapEntry}, @EntR s β es ms → @EntR s' β es ms
  | [], [], _ => trivial
  | [], _ :: _, h => h
  | _ :: _, [], h => h
  | e :: es, m :: ms, ⟨h1, h2, h3, h4⟩ => ⟨con_sg hl h1, con_sg hl h2, h3, EntR.sg hl h4⟩
theorem BlkR.sg (hl : SgLe s s') {β : Bt} {κ : Nat} {o : Option Obj} {b : Blk} (h : @BlkR s β κ o b) : @BlkR s' β κ o b := by
  cases b with
  | cells e len c ex esz =>
    obtain ⟨cs, fz, h1, h2, h3, h4⟩ := h
    refine ⟨cs, fz, h1, h2, fun i hi => ?_, h4⟩
    obtain ⟨av, u, a, b, c, d⟩ := h3 i hi
    exact ⟨av, u, a, b, con_sg hl c, d⟩
  | map es clock =>
    obtain ⟨ms, h1, h2⟩ := h
    exact ⟨ms, h1, h2.sg hl⟩
  | iter l pos => exact h
  | miter b since => exact h
theorem HR.sg (hl : SgLe s s') {β : Bt} {h : Hp} {w : World} (hr : @HR s β h w) : @HR s' β h w := by
  refine @HR.mk s' β h w (fun b x hb => ?_) (@HR.inj s β h w hr) (@HR.fresh s β h w hr) (@HR.low s β h w hr)
  obtain ⟨h1, c, κ, h2, h3⟩ := @HR.blk s β h w hr b x hb
  exact ⟨h1, c, κ, h2, h3.sg hl⟩
/-- What has no place, and stands for no other, is the same to all. -/
theorem flat1_sg {x : AV} (h : flatB.flat1 x = true) (β β' : Bt) : @con s β x = @con s' β' x := by
  unfold flatB.flat1 at h
  cases x <;> first | (simp only [con]; done) | (cases h; done)
/-- What tells of no block from a number on, and stands for no other. -/
theorem low_sg {n : Nat} {x : AV} {β β' : Bt} (h : lowA1 n x = true) (hb : ∀ b, b < n → ∀ y, β b = some y → β' b = some y) {v : Value} (hv : @con s β x = some v) : @con s' β' x = some v := by
  cases x with
  | nat n => simpa only [con] using hv
  | u8 n => simpa only [con] using hv
  | int k z => simpa only [con] using hv
  | bool b => simpa only [con] using hv
  | str n l => simpa only [con] using hv
  | raw u => simpa only [con] using hv
  | ptr b off =>
    simp only [con, Option.map_eq_some_iff] at hv ⊢
    obtain ⟨c, hc, rfl⟩ := hv
    exact ⟨c, hb b (Nat.le_of_ble_eq_true h) _ hc, rfl⟩
  | slice b off len ex d =>
    simp only [con, Option.bind_eq_some_iff] at hv ⊢
    obtain ⟨c, hc, hv⟩ := hv
    exact ⟨c, hb b (Nat.le_of_ble_eq_true h) _ hc, hv⟩
  | map b =>
    simp only [con, Option.map_eq_some_iff] at hv ⊢
    obtain ⟨c, hc, rfl⟩ := hv
    exact ⟨c, hb b (Nat.le_of_ble_eq_true h) _ hc, rfl⟩
  | fn f a b =>
    unfold lowA1 at h
    split at h <;> first | (cases h; done) | skip
    all_goals first | (rename_i e; cases e; done) | (rename_i e; injection e with e1 e2 e3; subst e1; subst e2; subst e3; simpa [con, conL] using hv)
  | iface t y => cases h
  | agg l => cases h
  | tup l => cases h
  | sym i => cases h
end
/-- A world that is the same where it is looked at. -/
theorem HR.same [Sg] {β : Bt} {h : Hp} {w w' : World} (hr : HR β h w) (hs : ∀ b x c κ, h.tr.get (path b) = some x → β b = some (c, κ) → w'.heap[c]? = w.heap[c]?) : HR β h w' := by
  refine ⟨fun b x hb => ?_, hr.inj, hr.fresh, hr.low⟩
  obtain ⟨h1, c, κ, h2, h3⟩ := hr.blk b x hb
  exact ⟨h1, c, κ, h2, by rw [hs b x c κ hb h2]; exact h3⟩
/-- What the nodes met stand for; the iterator. -/
noncomputable abbrev sgOf (ir : Nat) (vs : List MapEntry) : Sg := ⟨fun i => if i = itS then .pointer (some ⟨ir, 0, none⟩) else match vs[i / 4]? with
  | some e => (e.key :: e.val.cells.toList).getD (i % 4) (.agg #[])
  | none => .agg #[]⟩
theorem sgOf_le (ir : Nat) (vs : List MapEntry) (e : MapEntry) : SgLe (sgOf ir vs) (sgOf ir (vs ++ [e])) := by
  intro i hi
  unfold sgOf at hi ⊢
  dsimp only at hi ⊢
  by_cases h : i = itS
  · rw [if_pos h, if_pos h]
  · rw [if_neg h] at hi ⊢
    rw [if_neg h]
    cases hv : vs[i / 4]? with
    | none => rw [hv] at hi; cases hi
    | some x =>
      have hlt : i / 4 < vs.length := (List.getElem?_eq_some_iff.1 hv).1
      rw [List.getElem?_append_left hlt, hv]
theorem sgOf_it (ir : Nat) (vs : List MapEntry) (β : Bt) : @con (sgOf ir vs) β (.sym itS) = some (.pointer (some ⟨ir, 0, none⟩)) := by
  simp only [con, sgOf, if_pos rfl]; rfl
theorem sgOf_at (ir : Nat) {vs : List MapEntry} {j q : Nat} {e : MapEntry} {v : Value} (hj : vs[j]? = some e) (hq : q < 4) (hb : j < 100000) (hv : (e.key :: e.val.cells.toList)[q]? = some v) (hf : flatV v = true) (β : Bt) : @con (sgOf ir vs) β (.sym (4 * j + q)) = some v := by
  have h1 : (sgOf ir vs).val (4 * j + q) = v := by
    show (if 4 * j + q = itS then _ else _) = v
    rw [if_neg (by unfold itS; omega), show (4 * j + q) / 4 = j by omega, hj, show (4 * j + q) % 4 = q by omega]
    dsimp only
    rw [List.getD_eq_getElem?_getD, hv]; rfl
  simp only [con]
  rw [h1, if_pos hf]
end Go.Ev
