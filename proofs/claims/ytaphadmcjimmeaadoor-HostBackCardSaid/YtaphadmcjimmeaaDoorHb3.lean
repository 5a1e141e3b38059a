import Derived.Below
import Derived.WalkKit
import Derived.IntWalk
import Derived.Test.YtaphadmcjimmeaaDoorHb2
set_option linter.unusedVariables false
set_option linter.unusedSectionVars false
set_option linter.unusedSimpArgs false
namespace Go.Vc
open Go.RowKit
structure Gh where
  σ : Nat → Option Nat
  τ : Nat → Option Nat
  F : Nat → Nat → Option Value
def Gh.deep (G : Gh) : Gh := ⟨fun _ => none, fun _ => none, G.F⟩
abbrev flatV (v : Value) : Bool := v.oneCell'
theorem BRow.len_eq (r : BRow) : r.len = (r.vals.length : Int) := by
  cases r <;> simp [BRow.len, BRow.vals, lenZ]
def At (G : Gh) (w : World) (t sz b o cap : Nat) (cs : List Value) : Prop :=
  (t = 0 ∧ ∀ i c, cs[i]? = some c → G.F b (o + i) = some c) ∨
  (t ≠ 0 ∧ G.τ t = some b ∧ (∀ i c, cs[i]? = some c → w.cell? ⟨b, o + i, none⟩ = some c) ∧
    ∃ xs e fz, w.heap[b]? = some (.cells xs e fz) ∧ (o = 0 ∧ o + cap * sz ≤ xs.size) ∧ ∀ i, i < xs.size → ¬ (fz.1 ≤ i ∧ i < fz.2))
def Sl (G : Gh) (w : World) (nl : Bool) (t sz : Nat) (us : List Value) (v : Value) : Prop :=
  (us = [] ∧ ∃ a, v = .slice a 0 0 ∧ nl = a.isNone ∧ (a = none ∨ t = 0)) ∨
  (nl = false ∧ ∃ b o cap, v = .slice (some ⟨b, o, none⟩) us.length cap ∧ (us.length ≤ cap ∧ cap ≤ 9223372036854775807) ∧ At G w t sz b o cap (us.flatMap fun u => u.cells.toList))
theorem Sl.nil0 {G : Gh} {w : World} {t sz : Nat} {us : List Value} {v : Value} (h : us = []) (hv : v = .slice none 0 0) : Sl G w true t sz us v := .inl ⟨h, none, hv, rfl, .inl rfl⟩
def wideL (sz : Nat) (us : List Value) : Prop := ∀ u ∈ us, u.cells.size = sz ∧ ∀ c ∈ u.cells.toList, flatV c = true
mutual
def Rep : PV → Gh → World → Value → Prop
  | .undef, _, _, _ => True
  | .int k z, _, _, v => v = .int k z
  | .bool b, _, _, v => v = .bool b
  | .str l, _, _, v => v = .string ⟨l.toArray⟩
  | .raw u, _, _, v => v = u ∧ flatV u = true
  | .arr n r, _, _, v => r.vals.length = n ∧ v = .agg r.vals.toArray
  | .agg l, G, w, v => ∃ us, RepL l G w us ∧ v = .agg (us.flatMap fun u => u.cells.toList).toArray
  | .tup l, G, w, v => ∃ us, RepL' l G w us ∧ v = .tuple us.toArray
  | .row nl r t, G, w, v => Sl G w nl t 1 r.vals v
  | .vec nl sz l t, G, w, v => ∃ us, RepL' l G.deep w us ∧ wideL sz us ∧ Sl G w nl t sz us v
  | .ep r t i, G, w, v => ∃ b o cap, v = .pointer (some ⟨b, o + i.toNat, none⟩) ∧ 0 ≤ i ∧ i < r.len ∧ At G w t 1 b o cap r.vals
  | .epv sz l t i off, G, w, v => ∃ b o cap us, v = .pointer (some ⟨b, o + i.toNat * sz + off, none⟩) ∧ 0 ≤ i ∧ i < lenZ l ∧ RepL' l G.deep w us ∧ wideL sz us ∧ At G w t sz b o cap (us.flatMap fun u => u.cells.toList)
  | .ptr n off, G, _, v => ∃ b, G.σ n = some b ∧ v = .pointer (some ⟨b, off, none⟩)
  | .pix n off i, G, _, v => 0 ≤ i ∧ ∃ b, G.σ n = some b ∧ v = .pointer (some ⟨b, off + i.toNat, none⟩)
  | .asl n off lo len, G, _, v => 0 ≤ lo ∧ 0 ≤ len ∧ ∃ b o cap, G.σ n = some b ∧ v = .slice (some ⟨b, o, none⟩) len.toNat cap ∧ len.toNat ≤ cap ∧ (0 < cap → o = off + lo.toNat)
  | .gp g off, _, _, v => v = .pointer (some ⟨g, off, none⟩)
  | .gix g off i, _, _, v => 0 ≤ i ∧ v = .pointer (some ⟨g, off + i.toNat, none⟩)
  | .fn f a b, G, w, v => ∃ us vs, RepL' a G w us ∧ RepL' b G w vs ∧ v = .func f us.toArray vs.toArray
def RepL : List PV → Gh → World → List Value → Prop
  | [], _, _, us => us = []
  | x :: l, G, w, us => ∃ u us', us = u :: us' ∧ Rep x G w u ∧ u.cells.size = x.wid ∧ (∀ c ∈ u.cells.toList, flatV c = true) ∧ RepL l G w us'
def RepL' : List PV → Gh → World → List Value → Prop
  | [], _, _, us => us = []
  | x :: l, G, w, us => ∃ u us', us = u :: us' ∧ Rep x G w u ∧ RepL' l G w us'
end
def PV.leaf : PV → Bool
  | .agg _ => false
  | .tup _ => false
  | .fn _ _ _ => false
  | _ => true
theorem PV.mapL_leaf {f : PV → PV} {x : PV} (h : x.leaf = true) : x.mapL f = f x := by cases x <;> first | rfl | cases h
mutual
theorem Rep.map {f : PV → PV} {G G' : Gh} {w w' : World} (hf : ∀ y v, y.leaf = true → Rep y G w v → Rep (f y) G' w' v) (hw : ∀ y : PV, y.leaf = true → (f y).wid = y.wid) :
    ∀ {x : PV} {v : Value}, Rep x G w v → Rep (x.mapL f) G' w' v
  | .agg l, v, h => by
    obtain ⟨us, h1, h2⟩ := h
    exact ⟨us, (RepL.map hf hw h1).1, h2⟩
  | .tup l, v, h => by
    obtain ⟨us, h1, h2⟩ := h
    exact ⟨us, RepL'.map hf hw h1, h2⟩
  | .fn g a b, v, h => by
    obtain ⟨us, vs, h1, h2, h3⟩ := h
    exact ⟨us, vs, RepL'.map hf hw h1, RepL'.map hf hw h2, h3⟩
  | .undef, v, h => hf _ _ rfl h
  | .int k z, v, h => hf _ _ rfl h
  | .bool b, v, h => hf _ _ rfl h
  | .str l, v, h => hf _ _ rfl h
  | .raw u, v, h => hf _ _ rfl h
  | .arr n r, v, h => hf _ _ rfl h
  | .row nl r t, v, h => hf _ _ rfl h
  | .vec nl sz l t, v, h => hf _ _ rfl h
  | .ep r t i, v, h => hf _ _ rfl h
  | .epv sz l t i off, v, h => hf _ _ rfl h
  | .ptr n off, v, h => hf _ _ rfl h
  | .pix n off i, v, h => hf _ _ rfl h
  | .asl n off lo len, v, h => hf _ _ rfl h
  | .gp g off, v, h => hf _ _ rfl h
  | .gix g off i, v, h => hf _ _ rfl h
theorem RepL.map {f : PV → PV} {G G' : Gh} {w w' : World} (hf : ∀ y v, y.leaf = true → Rep y G w v → Rep (f y) G' w' v) (hw : ∀ y : PV, y.leaf = true → (f y).wid = y.wid) :
    ∀ {l : List PV} {us : List Value}, RepL l G w us → RepL (PV.mapLs f l) G' w' us ∧ PV.wids (PV.mapLs f l) = PV.wids l
  | [], us, h => ⟨h, rfl⟩
  | x :: l, us, h => by
    obtain ⟨u, us', rfl, h1, h2, h3, h4⟩ := h
    obtain ⟨i1, i2⟩ := RepL.map hf hw h4
    have hx := PV.wid_map hw x
    exact ⟨⟨u, us', rfl, Rep.map hf hw h1, by rw [hx]; exact h2, h3, i1⟩, by simp only [PV.mapLs, PV.wids, hx, i2]⟩
theorem RepL'.map {f : PV → PV} {G G' : Gh} {w w' : World} (hf : ∀ y v, y.leaf = true → Rep y G w v → Rep (f y) G' w' v) (hw : ∀ y : PV, y.leaf = true → (f y).wid = y.wid) :
    ∀ {l : List PV} {us : List Value}, RepL' l G w us → RepL' (PV.mapLs f l) G' w' us
  | [], us, h => h
  | x :: l, us, h => by
    obtain ⟨u, us', rfl, h1, h2⟩ := h
    exact ⟨u, us', rfl, Rep.map hf hw h1, RepL'.map hf hw h2⟩
theorem PV.wid_map {f : PV → PV} (hw : ∀ y : PV, y.leaf = true → (f y).wid = y.wid) : ∀ x : PV, (x.mapL f).wid = x.wid
  | .agg l => PV.wids_map hw l
  | .tup l => rfl
  | .fn g a b => rfl
  | .undef => hw _ rfl
  | .int k z => hw _ rfl
  | .bool b => hw _ rfl
  | .str l => hw _ rfl
  | .raw u => hw _ rfl
  | .arr n r => hw _ rfl
  | .row nl r t => hw _ rfl
  | .vec nl sz l t => hw _ rfl
  | .ep r t i => hw _ rfl
  | .epv sz l t i off => hw _ rfl
  | .ptr n off => hw _ rfl
  | .pix n off i => hw _ rfl
  | .asl n off lo len => hw _ rfl
  | .gp g off => hw _ rfl
  | .gix g off i => hw _ rfl
theorem PV.wids_map {f : PV → PV} (hw : ∀ y : PV, y.leaf = true → (f y).wid = y.wid) : ∀ l : List PV, PV.wids (PV.mapLs f l) = PV.wids l
  | [] => rfl
  | x :: l => by simp only [PV.mapLs, PV.wids, PV.wid_map hw x, PV.wids_map hw l]
end
mutual
theorem PV.mapL_id : ∀ x : PV, x.mapL id = x
  | .agg l => by simp only [PV.mapL, PV.mapLs_id l]
  | .tup l => by simp only [PV.mapL, PV.mapLs_id l]
  | .fn g a b => by simp only [PV.mapL, PV.mapLs_id a, PV.mapLs_id b]
  | .undef => rfl
  | .int k z => rfl
  | .bool b => rfl
  | .str l => rfl
  | .raw u => rfl
  | .arr n r => rfl
  | .row nl r t => rfl
  | .vec nl sz l t => rfl
  | .ep r t i => rfl
  | .epv sz l t i off => rfl
  | .ptr n off => rfl
  | .pix n off i => rfl
  | .asl n off lo len => rfl
  | .gp g off => rfl
  | .gix g off i => rfl
theorem PV.mapLs_id : ∀ l : List PV, PV.mapLs id l = l
  | [] => rfl
  | x :: l => by simp only [PV.mapLs, PV.mapL_id x, PV.mapLs_id l]
end
theorem Rep.to {G G' : Gh} {w w' : World} (hf : ∀ y v, y.leaf = true → Rep y G w v → Rep y G' w' v) {x : PV} {v : Value} (h : Rep x G w v) : Rep x G' w' v := by
  have := Rep.map (f := id) hf (fun _ _ => rfl) h
  rwa [PV.mapL_id] at this
def FLe (F F' : Nat → Nat → Option Value) : Prop := ∀ b o u, F b o = some u → F' b o = some u
theorem FLe.refl (F : Nat → Nat → Option Value) : FLe F F := fun _ _ _ h => h
theorem FLe.trans {F F' F'' : Nat → Nat → Option Value} (h : FLe F F') (h' : FLe F' F'') : FLe F F'' := fun b o u e => h' b o u (h b o u e)
theorem At.zero {G G' : Gh} {w w' : World} {sz b o cap : Nat} {cs : List Value} (hF : FLe G.F G'.F) (h : At G w 0 sz b o cap cs) : At G' w' 0 sz b o cap cs := by
  rcases h with ⟨h1, h2⟩ | ⟨h1, h2⟩
  · exact .inl ⟨rfl, fun i c hc => hF _ _ _ (h2 i c hc)⟩
  · exact absurd rfl h1
theorem At.deep {G : Gh} {w : World} {t sz b o cap : Nat} {cs : List Value} (h : At G.deep w t sz b o cap cs) : t = 0 := by
  rcases h with ⟨h1, -⟩ | ⟨-, h2, -⟩
  · exact h1
  · cases h2
theorem Sl.deep {G G' : Gh} {w w' : World} {nl : Bool} {t sz : Nat} {us : List Value} {v : Value} (hF : FLe G.F G'.F) (h : Sl G.deep w nl t sz us v) : Sl G'.deep w' nl t sz us v := by
  rcases h with h | ⟨h1, b, o, cap, h2, h3, h4⟩
  · exact .inl h
  · obtain rfl := h4.deep
    exact .inr ⟨h1, b, o, cap, h2, h3, At.zero (G := G.deep) (G' := G'.deep) hF h4⟩
mutual
theorem Rep.deep {G G' : Gh} {w w' : World} (hF : FLe G.F G'.F) : ∀ {x : PV} {v : Value}, Rep x G.deep w v → Rep x G'.deep w' v
  | .agg l, v, h => by
    obtain ⟨us, h1, h2⟩ := h
    exact ⟨us, RepL.deep hF h1, h2⟩
  | .tup l, v, h => by
    obtain ⟨us, h1, h2⟩ := h
    exact ⟨us, RepL'.deep hF h1, h2⟩
  | .fn g a b, v, h => by
    obtain ⟨us, vs, h1, h2, h3⟩ := h
    exact ⟨us, vs, RepL'.deep hF h1, RepL'.deep hF h2, h3⟩
  | .undef, v, h => trivial
  | .int k z, v, h => h
  | .bool b, v, h => h
  | .str l, v, h => h
  | .raw u, v, h => h
  | .arr n r, v, h => h
  | .row nl r t, v, h => Sl.deep hF h
  | .vec nl sz l t, v, h => by
    obtain ⟨us, h1, h2, h3⟩ := h
    exact ⟨us, RepL'.deep (G := G) (G' := G') hF h1, h2, h3.deep hF⟩
  | .ep r t i, v, h => by
    obtain ⟨b, o, cap, h1, h2, h3, h4⟩ := h
    obtain rfl := h4.deep
    exact ⟨b, o, cap, h1, h2, h3, At.zero (G := G.deep) (G' := G'.deep) hF h4⟩
  | .epv sz l t i off, v, h => by
    obtain ⟨b, o, cap, us, h1, h2, h3, h4, h5, h6⟩ := h
    obtain rfl := h6.deep
    exact ⟨b, o, cap, us, h1, h2, h3, RepL'.deep (G := G) (G' := G') hF h4, h5, At.zero (G := G.deep) (G' := G'.deep) hF h6⟩
  | .ptr n off, v, h => by obtain ⟨b, h, -⟩ := h; cases h
  | .pix n off i, v, h => by obtain ⟨-, b, h, -⟩ := h; cases h
  | .asl n off lo len, v, h => by obtain ⟨-, -, b, o, c, h, -⟩ := h; cases h
  | .gp g off, v, h => h
  | .gix g off i, v, h => h
theorem RepL.deep {G G' : Gh} {w w' : World} (hF : FLe G.F G'.F) : ∀ {l : List PV} {us : List Value}, RepL l G.deep w us → RepL l G'.deep w' us
  | [], us, h => h
  | x :: l, us, h => by
    obtain ⟨u, us', rfl, h1, h2, h3, h4⟩ := h
    exact ⟨u, us', rfl, Rep.deep hF h1, h2, h3, RepL.deep hF h4⟩
theorem RepL'.deep {G G' : Gh} {w w' : World} (hF : FLe G.F G'.F) : ∀ {l : List PV} {us : List Value}, RepL' l G.deep w us → RepL' l G'.deep w' us
  | [], us, h => h
  | x :: l, us, h => by
    obtain ⟨u, us', rfl, h1, h2⟩ := h
    exact ⟨u, us', rfl, Rep.deep hF h1, RepL'.deep hF h2⟩
end
theorem Rep.leaf_to {G G' : Gh} {w w' : World} {y : PV} {v : Value} (hl : y.leaf = true) (hF : FLe G.F G'.F) (hσ : ∀ n ∈ y.nam1, G'.σ n = G.σ n)
    (hτ : ∀ t ∈ y.tok1, G'.τ t = G.τ t ∧ ∀ b, G.τ t = some b → w'.heap[b]? = w.heap[b]?) (h : Rep y G w v) : Rep y G' w' v := by
  have at_ : ∀ {t sz b o cap : Nat} {cs : List Value}, (t ≠ 0 → G'.τ t = G.τ t ∧ ∀ b, G.τ t = some b → w'.heap[b]? = w.heap[b]?) → At G w t sz b o cap cs → At G' w' t sz b o cap cs := by
    intro t sz b o cap cs ht h
    rcases h with ⟨h1, h2⟩ | ⟨h1, h2, h3, xs, e, fz, h4, h5⟩
    · exact .inl ⟨h1, fun i c hc => hF _ _ _ (h2 i c hc)⟩
    · obtain ⟨e1, e2⟩ := ht h1
      have e3 := e2 b h2
      exact .inr ⟨h1, by rw [e1]; exact h2, fun i c hc => by rw [World.cell?_of_block (w := w) (a := ⟨b, o + i, none⟩) e3]; exact h3 i c hc, xs, e, fz, by rw [e3]; exact h4, h5⟩
  have sl_ : ∀ {nl : Bool} {t sz : Nat} {us : List Value} {v : Value}, (t ≠ 0 → G'.τ t = G.τ t ∧ ∀ b, G.τ t = some b → w'.heap[b]? = w.heap[b]?) → Sl G w nl t sz us v → Sl G' w' nl t sz us v := by
    intro nl t sz us v ht h
    rcases h with h | ⟨h1, b, o, cap, h2, h3, h4⟩
    · exact .inl h
    · exact .inr ⟨h1, b, o, cap, h2, h3, at_ ht h4⟩
  cases y with
  | undef => trivial
  | int k z => exact h
  | bool b => exact h
  | str l => exact h
  | raw u => exact h
  | arr n r => exact h
  | agg l => cases hl
  | tup l => cases hl
  | fn g a b => cases hl
  | row nl r t => exact sl_ (fun ht => by cases t with | zero => exact absurd rfl ht | succ t => exact hτ _ (List.mem_cons_self ..)) h
  | vec nl sz l t =>
    obtain ⟨us, h1, h2, h3⟩ := h
    exact ⟨us, RepL'.deep (G := G) (G' := G') hF h1, h2, sl_ (fun ht => by cases t with | zero => exact absurd rfl ht | succ t => exact hτ _ (List.mem_cons_self ..)) h3⟩
  | ep r t i =>
    obtain ⟨b, o, cap, h1, h2, h3, h4⟩ := h
    exact ⟨b, o, cap, h1, h2, h3, at_ (fun ht => by cases t with | zero => exact absurd rfl ht | succ t => exact hτ _ (List.mem_cons_self ..)) h4⟩
  | epv sz l t i off =>
    obtain ⟨b, o, cap, us, h1, h2, h3, h4, h5, h6⟩ := h
    exact ⟨b, o, cap, us, h1, h2, h3, RepL'.deep (G := G) (G' := G') hF h4, h5, at_ (fun ht => by cases t with | zero => exact absurd rfl ht | succ t => exact hτ _ (List.mem_cons_self ..)) h6⟩
  | ptr n off => obtain ⟨b, h1, h2⟩ := h; exact ⟨b, by rw [hσ n (List.mem_cons_self ..)]; exact h1, h2⟩
  | pix n off i => obtain ⟨h0, b, h1, h2⟩ := h; exact ⟨h0, b, by rw [hσ n (List.mem_cons_self ..)]; exact h1, h2⟩
  | asl n off lo len => obtain ⟨h0, h00, b, o, c, h1, h2⟩ := h; exact ⟨h0, h00, b, o, c, by rw [hσ n (List.mem_cons_self ..)]; exact h1, h2⟩
  | gp g off => exact h
  | gix g off i => exact h
def MarkOk (G G' : Gh) (w w' : World) (f : Nat → Option Nat) : Prop :=
  ∀ t, t ≠ 0 → match f t with
    | none => True
    | some 0 => ∀ b, G.τ t = some b → ∀ o u, w.cell? ⟨b, o, none⟩ = some u → G'.F b o = some u
    | some t' => t' = t ∧ G'.τ t = G.τ t ∧ ∀ b, G.τ t = some b → w'.heap[b]? = w.heap[b]?
theorem Rep.mark_leaf {G G' : Gh} {w w' : World} {f : Nat → Option Nat} (hF : FLe G.F G'.F) (hσ : ∀ n, G'.σ n = G.σ n) (f0 : f 0 = some 0) (hm : MarkOk G G' w w' f)
    {y : PV} {v : Value} (hl : y.leaf = true) (h : Rep y G w v) : Rep (y.mark1 f) G' w' v := by
  have at_ : ∀ {t t' sz b o cap : Nat} {cs : List Value}, f t = some t' → At G w t sz b o cap cs → At G' w' t' sz b o cap cs := by
    intro t t' sz b o cap cs ht h
    rcases h with ⟨rfl, h2⟩ | ⟨h1, h2, h3, xs, e, fz, h4, h5⟩
    · rw [f0] at ht; injection ht with ht; subst ht
      exact .inl ⟨rfl, fun i c hc => hF _ _ _ (h2 i c hc)⟩
    · have hmt := hm t h1
      rw [ht] at hmt
      cases t' with
      | zero => exact .inl ⟨rfl, fun i c hc => hmt b h2 _ _ (h3 i c hc)⟩
      | succ t' =>
        obtain ⟨e0, e1, e2⟩ := hmt
        have e3 := e2 b h2
        subst e0
        exact .inr ⟨h1, by rw [e1]; exact h2, fun i c hc => by rw [World.cell?_of_block (w := w) (a := ⟨b, o + i, none⟩) e3]; exact h3 i c hc, xs, e, fz, by rw [e3]; exact h4, h5⟩
  have sl_ : ∀ {nl : Bool} {t t' sz : Nat} {us : List Value} {v : Value}, f t = some t' → Sl G w nl t sz us v → Sl G' w' nl t' sz us v := by
    intro nl t t' sz us v ht h
    rcases h with ⟨i1, a, i2, i3, i4⟩ | ⟨h1, b, o, cap, h2, h3, h4⟩
    · exact .inl ⟨i1, a, i2, i3, i4.imp id fun e => by rw [e, f0] at ht; injection ht with ht; exact ht.symm⟩
    · exact .inr ⟨h1, b, o, cap, h2, h3, at_ ht h4⟩
  cases y with
  | undef => trivial
  | int k z => exact h
  | bool b => exact h
  | str l => exact h
  | raw u => exact h
  | arr n r => exact h
  | agg l => cases hl
  | tup l => cases hl
  | fn g a b => cases hl
  | row nl r t =>
    show Rep (match f t with | some u => .row nl r u | none => .undef) G' w' v
    cases ht : f t with
    | none => trivial
    | some t' => exact sl_ ht h
  | vec nl sz l t =>
    show Rep (match f t with | some u => .vec nl sz l u | none => .undef) G' w' v
    cases ht : f t with
    | none => trivial
    | some t' =>
      obtain ⟨us, h1, h2, h3⟩ := h
      exact ⟨us, RepL'.deep (G := G) (G' := G') hF h1, h2, sl_ ht h3⟩
  | ep r t i =>
    show Rep (match f t with | some u => .ep r u i | none => .undef) G' w' v
    cases ht : f t with
    | none => trivial
    | some t' =>
      obtain ⟨b, o, cap, h1, h2, h3, h4⟩ := h
      exact ⟨b, o, cap, h1, h2, h3, at_ ht h4⟩
  | epv sz l t i off =>
    show Rep (match f t with | some u => .epv sz l u i off | none => .undef) G' w' v
    cases ht : f t with
    | none => trivial
    | some t' =>
      obtain ⟨b, o, cap, us, h1, h2, h3, h4, h5, h6⟩ := h
      exact ⟨b, o, cap, us, h1, h2, h3, RepL'.deep (G := G) (G' := G') hF h4, h5, at_ ht h6⟩
  | ptr n off => obtain ⟨b, h1, h2⟩ := h; exact ⟨b, by rw [hσ n]; exact h1, h2⟩
  | pix n off i => obtain ⟨h0, b, h1, h2⟩ := h; exact ⟨h0, b, by rw [hσ n]; exact h1, h2⟩
  | asl n off lo len => obtain ⟨h0, h00, b, o, c, h1, h2⟩ := h; exact ⟨h0, h00, b, o, c, by rw [hσ n]; exact h1, h2⟩
  | gp g off => exact h
  | gix g off i => exact h
theorem wid_mark (f : Nat → Option Nat) (y : PV) (hl : y.leaf = true) : (y.mark1 f).wid = y.wid := by
  cases y with
  | row nl r t => show PV.wid (match f t with | some u => .row nl r u | none => .undef) = _; cases f t <;> rfl
  | vec nl sz l t => show PV.wid (match f t with | some u => .vec nl sz l u | none => .undef) = _; cases f t <;> rfl
  | ep r t i => show PV.wid (match f t with | some u => .ep r u i | none => .undef) = _; cases f t <;> rfl
  | epv sz l t i off => show PV.wid (match f t with | some u => .epv sz l u i off | none => .undef) = _; cases f t <;> rfl
  | _ => first | rfl | cases hl
section
structure Cx where
  ps : List Nat
  w0 : World
  F0 : Nat → Nat → Option Value
  m : Nat
  σ0 : Nat → Option Nat
def Own (cx : Cx) (b : Nat) : Prop := b ∈ cx.ps ∨ cx.w0.heap.size ≤ b
structure Kept (cx : Cx) (w : World) : Prop where
  os : w.os = cx.w0.os
  tape : w.tape = cx.w0.tape
  output : w.output = cx.w0.output
  size : cx.w0.heap.size ≤ w.heap.size
  block : ∀ k, k < cx.w0.heap.size → k ∉ cx.ps → w.heap[k]? = cx.w0.heap[k]?
def Flat (u : Value) : Prop := ∀ c ∈ u.cells.toList, flatV c = true
def Clear (fz : Nat × Nat) (n : Nat) : Prop := ∀ i, i < n → ¬ (fz.1 ≤ i ∧ i < fz.2)
def BoxAt (G : Gh) (w : World) (b : Nat) (x : PV) : Prop := ∃ u e fz, w.heap[b]? = some (.cells u.cells e fz) ∧ Clear fz u.cells.size ∧ Rep x G w u ∧ u.cells.size = x.wid ∧ Flat u
structure Inv (cx : Cx) (G : Gh) (lh : List (Nat × PV)) (w : World) : Prop where
  fits : ∀ b o u, G.F b o = some u → w.cell? ⟨b, o, none⟩ = some u
  base : FLe cx.F0 G.F
  ext : ∀ b o u, G.F b o = some u → cx.F0 b o = some u ∨ Own cx b
  box : ∀ n x, getN n lh = some x → ∃ b, G.σ n = some b ∧ BoxAt G w b x
  boxF : ∀ n b, G.σ n = some b → (∃ x, getN n lh = some x) ∧ (∀ o, G.F b o = none) ∧ Own cx b
  mark : ∀ t b, G.τ t = some b → t ≠ 0 ∧ b < w.heap.size ∧ (∀ o, G.F b o = none) ∧ Own cx b
  injσ : ∀ n n' b, G.σ n = some b → G.σ n' = some b → n = n'
  injτ : ∀ t t' b, G.τ t = some b → G.τ t' = some b → t = t'
  disj : ∀ n t b, G.σ n = some b → G.τ t ≠ some b
  par : ∀ i, i < cx.m → G.σ i = cx.σ0 i
  kept : Kept cx w
theorem cell_lt {w : World} {b o : Nat} {u : Value} (h : w.cell? ⟨b, o, none⟩ = some u) : b < w.heap.size := by
  unfold World.cell? at h
  cases hb : w.heap[b]? with
  | none => simp [hb] at h
  | some x => exact (Array.getElem?_eq_some_iff.1 hb).1
theorem BoxAt.lt {G : Gh} {w : World} {b : Nat} {x : PV} (h : BoxAt G w b x) : b < w.heap.size := by
  obtain ⟨u, e, fz, h, -⟩ := h
  exact (Array.getElem?_eq_some_iff.1 h).1
section
variable {cx : Cx} {G : Gh} {lh : List (Nat × PV)} {w : World}
theorem Inv.σlt (h : Inv cx G lh w) {n b : Nat} (hb : G.σ n = some b) : b < w.heap.size := by
  obtain ⟨⟨x, hx⟩, -⟩ := h.boxF n b hb
  obtain ⟨b', h1, h2⟩ := h.box n x hx
  rw [hb] at h1; injection h1 with h1; subst h1
  exact h2.lt
theorem Kept.step {w' : World} (h : Kept cx w) (h1 : w'.os = w.os) (h2 : w'.tape = w.tape) (h3 : w'.output = w.output) (h4 : w.heap.size ≤ w'.heap.size)
    (h5 : ∀ k, k < w.heap.size → ¬ Own cx k → w'.heap[k]? = w.heap[k]?) : Kept cx w' :=
  ⟨h1.trans h.os, h2.trans h.tape, h3.trans h.output, Nat.le_trans h.size h4, fun k hk hp => by
    rw [h5 k (Nat.lt_of_lt_of_le hk h.size) (fun ho => by rcases ho with ho | ho; exact hp ho; omega), h.block k hk hp]⟩
theorem At.same {G' : Gh} {w' : World} (hF : FLe G.F G'.F) (hτ : ∀ t b, G.τ t = some b → G'.τ t = some b ∧ w'.heap[b]? = w.heap[b]?) {t sz b o cap : Nat} {cs : List Value} (h : At G w t sz b o cap cs) : At G' w' t sz b o cap cs := by
  rcases h with ⟨h1, h2⟩ | ⟨h1, h2, h3, xs, e, fz, h4, h5⟩
  · exact .inl ⟨h1, fun i c hc => hF _ _ _ (h2 i c hc)⟩
  · obtain ⟨e1, e3⟩ := hτ t b h2
    exact .inr ⟨h1, e1, fun i c hc => by rw [World.cell?_of_block (w := w) (a := ⟨b, o + i, none⟩) e3]; exact h3 i c hc, xs, e, fz, by rw [e3]; exact h4, h5⟩
theorem Sl.same {G' : Gh} {w' : World} (hF : FLe G.F G'.F) (hτ : ∀ t b, G.τ t = some b → G'.τ t = some b ∧ w'.heap[b]? = w.heap[b]?) {nl : Bool} {t sz : Nat} {us : List Value} {v : Value} (h : Sl G w nl t sz us v) : Sl G' w' nl t sz us v := by
  rcases h with h | ⟨h1, b, o, cap, h2, h3, h4⟩
  · exact .inl h
  · exact .inr ⟨h1, b, o, cap, h2, h3, h4.same hF hτ⟩
theorem Rep.leaf_same {G' : Gh} {w' : World} {y : PV} (hl : y.leaf = true) (hF : FLe G.F G'.F) (hσ : ∀ n ∈ y.nam1, ∀ b, G.σ n = some b → G'.σ n = some b) (hτ : ∀ t b, G.τ t = some b → G'.τ t = some b ∧ w'.heap[b]? = w.heap[b]?) {v : Value} (h : Rep y G w v) : Rep y G' w' v := by
  cases y with
  | undef => trivial
  | int k z => exact h
  | bool b => exact h
  | str l => exact h
  | raw u => exact h
  | arr n r => exact h
  | agg l => cases hl
  | tup l => cases hl
  | fn g a b => cases hl
  | row nl r t => exact Sl.same hF hτ h
  | vec nl sz l t =>
    obtain ⟨us, h1, h2, h3⟩ := h
    exact ⟨us, RepL'.deep (G := G) (G' := G') hF h1, h2, h3.same hF hτ⟩
  | ep r t i =>
    obtain ⟨b, o, cap, h1, h2, h3, h4⟩ := h
    exact ⟨b, o, cap, h1, h2, h3, h4.same hF hτ⟩
  | epv sz l t i off =>
    obtain ⟨b, o, cap, us, h1, h2, h3, h4, h5, h6⟩ := h
    exact ⟨b, o, cap, us, h1, h2, h3, RepL'.deep (G := G) (G' := G') hF h4, h5, h6.same hF hτ⟩
  | ptr n off => obtain ⟨b, h1, h2⟩ := h; exact ⟨b, hσ n (by simp [PV.nam1]) b h1, h2⟩
  | pix n off i => obtain ⟨h0, b, h1, h2⟩ := h; exact ⟨h0, b, hσ n (by simp [PV.nam1]) b h1, h2⟩
  | asl n off lo len => obtain ⟨h0, h00, b, o, c, h1, h2⟩ := h; exact ⟨h0, h00, b, o, c, hσ n (by simp [PV.nam1]) b h1, h2⟩
  | gp g off => exact h
  | gix g off i => exact h
theorem Rep.same {G' : Gh} {w' : World} (hF : FLe G.F G'.F) (hσ : ∀ n b, G.σ n = some b → G'.σ n = some b) (hτ : ∀ t b, G.τ t = some b → G'.τ t = some b ∧ w'.heap[b]? = w.heap[b]?) {y : PV} {v : Value} (h : Rep y G w v) : Rep y G' w' v :=
  Rep.to (fun y v hl h => Rep.leaf_same hl hF (fun n _ b hb => hσ n b hb) hτ h) h
theorem BoxAt.same {G' : Gh} {w' : World} {b : Nat} {x : PV} (hb : w'.heap[b]? = w.heap[b]?) (hr : ∀ y v, Rep y G w v → Rep y G' w' v) (h : BoxAt G w b x) : BoxAt G' w' b x := by
  obtain ⟨u, e, fz, h1, h2, h3, h4⟩ := h
  exact ⟨u, e, fz, by rw [hb]; exact h1, h2, hr _ _ h3, h4⟩
theorem Inv.more {w' : World} (h : Inv cx G lh w) (hb : Below w.heap.size w w') : Inv cx G lh w' ∧ ∀ y v, Rep y G w v → Rep y G w' v := by
  have hr : ∀ y v, Rep y G w v → Rep y G w' v := fun y v => Rep.same (FLe.refl _) (fun _ _ h => h) (fun t b ht => ⟨ht, hb.block b (h.mark t b ht).2.1⟩)
  refine ⟨⟨fun b o u hu => ?_, h.base, h.ext, fun n x hx => ?_, h.boxF, fun t b ht => ?_, h.injσ, h.injτ, h.disj, h.par, h.kept.step hb.os hb.tape hb.output hb.size (fun k hk _ => hb.block k hk)⟩, hr⟩
  · have := h.fits b o u hu
    rw [hb.cell (p := ⟨b, o, none⟩) (cell_lt this)]; exact this
  · obtain ⟨b, h1, h2⟩ := h.box n x hx
    exact ⟨b, h1, h2.same (hb.block b h2.lt) hr⟩
  · obtain ⟨h1, h2, h3⟩ := h.mark t b ht
    exact ⟨h1, Nat.lt_of_lt_of_le h2 hb.size, h3⟩
theorem Inv.drew (h : Inv cx G lh w) : Inv cx G lh w.drew ∧ ∀ y v, Rep y G w v → Rep y G w.drew v := h.more ((Below.refl _ _).drew)
theorem Inv.still_block {w' : World} (h : Inv cx G lh w) (hb : Below w.heap.size w w') (b : Nat) (hb0 : w.heap.size ≤ b) (cs : Nat → Option Value) (hc : ∀ o u, cs o = some u → w'.cell? ⟨b, o, none⟩ = some u) :
    Inv cx ⟨G.σ, G.τ, fun b' o => if b' = b then cs o else G.F b' o⟩ lh w' ∧ (∀ y v, Rep y G w v → Rep y ⟨G.σ, G.τ, fun b' o => if b' = b then cs o else G.F b' o⟩ w' v) := by
  obtain ⟨h', hr⟩ := h.more hb
  have hne : ∀ {b' o u}, G.F b' o = some u → b' ≠ b := fun hu e => by have := cell_lt (h.fits _ _ _ hu); omega
  have hF : FLe G.F (fun b' o => if b' = b then cs o else G.F b' o) := fun b' o u hu => by
    show (if b' = b then cs o else G.F b' o) = some u
    rw [if_neg (hne hu)]; exact hu
  have hr2 : ∀ y v, Rep y G w' v → Rep y ⟨G.σ, G.τ, fun b' o => if b' = b then cs o else G.F b' o⟩ w' v := fun y v => Rep.same (G := G) (G' := ⟨G.σ, G.τ, fun b' o => if b' = b then cs o else G.F b' o⟩) (w := w') (w' := w') hF (fun _ _ h => h) (fun _ _ h => ⟨h, rfl⟩)
  have ho : Own cx b := .inr (Nat.le_trans h.kept.size hb0)
  refine ⟨⟨fun b' o u hu => ?_, h.base.trans hF, fun b' o u hu => ?_, fun n x hx => ?_, fun n b' hn => ?_, fun t b' ht => ?_, h.injσ, h.injτ, h.disj, h.par, h'.kept⟩, fun y v hy => hr2 y v (hr y v hy)⟩
  · replace hu : (if b' = b then cs o else G.F b' o) = some u := hu
    split at hu
    · rename_i e; subst e; exact hc o u hu
    · exact h'.fits b' o u hu
  · replace hu : (if b' = b then cs o else G.F b' o) = some u := hu
    split at hu
    · rename_i e; subst e; exact .inr ho
    · exact h.ext b' o u hu
  · obtain ⟨b', h1, h2⟩ := h'.box n x hx
    exact ⟨b', h1, h2.same rfl hr2⟩
  · obtain ⟨h1, h2, h3⟩ := h.boxF n b' hn
    refine ⟨h1, fun o => ?_, h3⟩
    show (if b' = b then cs o else G.F b' o) = none
    rw [if_neg (fun e => by have := h.σlt hn; omega)]; exact h2 o
  · obtain ⟨h1, h2, h3, h4⟩ := h'.mark t b' ht
    refine ⟨h1, h2, fun o => ?_, h4⟩
    show (if b' = b then cs o else G.F b' o) = none
    rw [if_neg (fun e => by have := (h.mark t b' ht).2.1; omega)]; exact h3 o
theorem Inv.store {w' : World} (h : Inv cx G lh w) {n b : Nat} {c c' : PV} {u' : Value} {e : TypeId} {fz : Nat × Nat} (hn : getN n lh = some c) (hb : G.σ n = some b)
    (h1 : w'.os = w.os) (h2 : w'.tape = w.tape) (h3 : w'.output = w.output) (h4 : w'.heap.size = w.heap.size) (h5 : ∀ k, k ≠ b → w'.heap[k]? = w.heap[k]?)
    (h6 : w'.heap[b]? = some (.cells u'.cells e fz)) (h7 : Clear fz u'.cells.size) (h8 : Rep c' G w u') (h9 : u'.cells.size = c'.wid) (h10 : Flat u') :
    Inv cx G (setN n c' lh) w' ∧ ∀ y v, Rep y G w v → Rep y G w' v := by
  obtain ⟨⟨x0, hx0⟩, hF0, hown⟩ := h.boxF n b hb
  have hr : ∀ y v, Rep y G w v → Rep y G w' v := fun y v => Rep.same (FLe.refl _) (fun _ _ h => h) (fun t b' ht => ⟨ht, h5 b' (fun e => h.disj n t b hb (by rw [← e]; exact ht))⟩)
  have gs : ∀ k l, getN k (setN n c' l) = if k = n then (getN n l).map (fun _ => c') else getN k l := by
    intro k l
    induction l with
    | nil => simp [setN, getN]
    | cons e l ih =>
      simp only [setN]
      by_cases hen : e.1 = n
      · subst hen
        simp only [Nat.beq_refl, cond_true, getN]
        by_cases hk : k = e.1
        · subst hk; simp
        · have : Nat.beq e.1 k = false := by rw [Bool.eq_false_iff]; exact fun hh => hk (Nat.eq_of_beq_eq_true hh).symm
          simp [this, hk]
      · have hf : Nat.beq e.1 n = false := by rw [Bool.eq_false_iff]; exact fun hh => hen (Nat.eq_of_beq_eq_true hh)
        simp only [hf, cond_false, getN]
        by_cases hk : k = n
        · subst hk
          simp only [hf, cond_false, if_true]
          rw [ih]; simp
        · rw [ih, if_neg hk, if_neg hk]
  refine ⟨⟨fun b' o u hu => ?_, h.base, h.ext, fun k x hx => ?_, fun k b' hk => ?_, fun t b' ht => ?_, h.injσ, h.injτ, h.disj, h.par, h.kept.step h1 h2 h3 (Nat.le_of_eq h4.symm) (fun k hk ho => h5 k (fun e => ho (by rw [e]; exact hown)))⟩, hr⟩
  · have := h.fits b' o u hu
    have hne : b' ≠ b := fun e => by rw [e, hF0] at hu; cases hu
    rw [World.cell?_of_block (w := w) (a := ⟨b', o, none⟩) (h5 b' hne)]; exact this
  · rw [gs] at hx
    by_cases hk : k = n
    · subst hk
      rw [if_pos rfl, hn] at hx
      injection hx with hx; subst hx
      exact ⟨b, hb, u', e, fz, h6, h7, hr _ _ h8, h9, h10⟩
    · rw [if_neg hk] at hx
      obtain ⟨b', q1, q2⟩ := h.box k x hx
      exact ⟨b', q1, q2.same (h5 b' (fun e => hk (h.injσ k n b (by rw [← e]; exact q1) hb))) hr⟩
  · obtain ⟨⟨x, hx⟩, q2, q3⟩ := h.boxF k b' hk
    refine ⟨?_, q2, q3⟩
    rw [gs]
    by_cases hkn : k = n
    · rw [if_pos hkn, hn]; exact ⟨c', rfl⟩
    · rw [if_neg hkn]; exact ⟨x, hx⟩
  · obtain ⟨q1, q2, q3⟩ := h.mark t b' ht
    exact ⟨q1, by rw [h4]; exact q2, q3⟩
theorem getN_turn (f : PV → PV) (n : Nat) : ∀ lh : List (Nat × PV), getN n (turnB f lh) = (getN n lh).map (PV.mapL f)
  | [] => rfl
  | e :: l => by
    show (bif Nat.beq e.1 n then some (e.2.mapL f) else getN n (turnB f l)) = (bif Nat.beq e.1 n then some e.2 else getN n l).map (PV.mapL f)
    cases Nat.beq e.1 n with
    | true => rfl
    | false => exact getN_turn f n l
theorem getN_set {α : Type} (n k : Nat) (x : α) : ∀ l : List (Nat × α), getN k (setN n x l) = if k = n then (getN n l).map (fun _ => x) else getN k l
  | [] => by simp [setN, getN]
  | e :: l => by
    have ih := getN_set n k x l
    simp only [setN]
    by_cases hen : e.1 = n
    · subst hen
      simp only [Nat.beq_refl, cond_true, getN]
      by_cases hk : k = e.1
      · subst hk; simp
      · have : Nat.beq e.1 k = false := by rw [Bool.eq_false_iff]; exact fun hh => hk (Nat.eq_of_beq_eq_true hh).symm
        simp [this, hk]
    · have hf : Nat.beq e.1 n = false := by rw [Bool.eq_false_iff]; exact fun hh => hen (Nat.eq_of_beq_eq_true hh)
      simp only [hf, cond_false, getN]
      by_cases hk : k = n
      · subst hk
        simp only [hf, cond_false, if_true]
        rw [ih]; simp
      · rw [ih, if_neg hk, if_neg hk]
theorem getN_put (n k : Nat) (x : PV) (lh : List (Nat × PV)) : getN k (putLH n x lh) = if k = n then some x else getN k lh := by
  unfold putLH
  cases hg : getN n lh with
  | some y =>
    dsimp only
    rw [getN_set]
    by_cases hk : k = n
    · rw [if_pos hk, if_pos hk, hg]; rfl
    · rw [if_neg hk, if_neg hk]
  | none =>
    show (bif Nat.beq n k then some x else getN k lh) = _
    by_cases hk : k = n
    · subst hk; rw [Nat.beq_refl, if_pos rfl]; rfl
    · rw [if_neg hk, show Nat.beq n k = false by rw [Bool.eq_false_iff]; exact fun hh => hk (Nat.eq_of_beq_eq_true hh).symm]; rfl
theorem Rep.lose_leaf {G' : Gh} {w' : World} {n : Nat} (hF : FLe G.F G'.F) (hσ : ∀ k b, k ≠ n → G.σ k = some b → G'.σ k = some b) (hτ : ∀ t b, G.τ t = some b → G'.τ t = some b ∧ w'.heap[b]? = w.heap[b]?)
    {y : PV} {v : Value} (hl : y.leaf = true) (h : Rep y G w v) : Rep (y.lose1 n) G' w' v := by
  have nb : ∀ {m : Nat}, Nat.beq m n = false → m ≠ n := fun hb e => by rw [e, Nat.beq_refl] at hb; cases hb
  cases y with
  | ptr m off =>
    show Rep (bif Nat.beq m n then .undef else .ptr m off) G' w' v
    cases hb : Nat.beq m n with
    | true => trivial
    | false => obtain ⟨b, h1, h2⟩ := h; exact ⟨b, hσ m b (nb hb) h1, h2⟩
  | pix m off i =>
    show Rep (bif Nat.beq m n then .undef else .pix m off i) G' w' v
    cases hb : Nat.beq m n with
    | true => trivial
    | false => obtain ⟨h0, b, h1, h2⟩ := h; exact ⟨h0, b, hσ m b (nb hb) h1, h2⟩
  | asl m off i k =>
    show Rep (bif Nat.beq m n then .undef else .asl m off i k) G' w' v
    cases hb : Nat.beq m n with
    | true => trivial
    | false => obtain ⟨h0, h00, b, o, c, h1, h2⟩ := h; exact ⟨h0, h00, b, o, c, hσ m b (nb hb) h1, h2⟩
  | _ => exact Rep.leaf_same hl hF (fun k hk => by simp [PV.nam1] at hk) hτ h
theorem wid_lose (n : Nat) (y : PV) (hl : y.leaf = true) : (y.lose1 n).wid = y.wid := by
  cases y with
  | ptr m off => show PV.wid (bif Nat.beq m n then .undef else .ptr m off) = _; cases Nat.beq m n <;> rfl
  | pix m off i => show PV.wid (bif Nat.beq m n then .undef else .pix m off i) = _; cases Nat.beq m n <;> rfl
  | asl m off i k => show PV.wid (bif Nat.beq m n then .undef else .asl m off i k) = _; cases Nat.beq m n <;> rfl
  | _ => first | rfl | cases hl
theorem Inv.newBox {w' : World} (h : Inv cx G lh w) {n : Nat} (hn : cx.m ≤ n) {x : PV} {u : Value} {e : TypeId} (hheap : w'.heap = w.heap.push (.cells u.cells e (0, 0))) (h1 : w'.os = w.os) (h2 : w'.tape = w.tape) (h3 : w'.output = w.output)
    (hx : Rep x ⟨fun k => if k = n then some w.heap.size else G.σ k, G.τ, G.F⟩ w' u) (hwid : u.cells.size = x.wid) (hfl : Flat u) :
    Inv cx ⟨fun k => if k = n then some w.heap.size else G.σ k, G.τ, G.F⟩ (putLH n x (turnB (PV.lose1 n) lh)) w' ∧
      ∀ y v, Rep y G w v → Rep (y.mapL (PV.lose1 n)) ⟨fun k => if k = n then some w.heap.size else G.σ k, G.τ, G.F⟩ w' v := by
  have hb : Below w.heap.size w w' := ⟨h1, h2, h3, by rw [hheap]; simp, fun k hk => by rw [hheap, Array.getElem?_push, if_neg (by omega)]⟩
  have hσ : ∀ k b, k ≠ n → G.σ k = some b → (fun k => if k = n then some w.heap.size else G.σ k) k = some b := fun k b hk hb => by
    show (if k = n then some w.heap.size else G.σ k) = some b
    rw [if_neg hk]; exact hb
  have hτ : ∀ t b, G.τ t = some b → G.τ t = some b ∧ w'.heap[b]? = w.heap[b]? := fun t b ht => ⟨ht, hb.block b (h.mark t b ht).2.1⟩
  have hr : ∀ y v, Rep y G w v → Rep (y.mapL (PV.lose1 n)) ⟨fun k => if k = n then some w.heap.size else G.σ k, G.τ, G.F⟩ w' v :=
    fun y v hy => Rep.map (f := PV.lose1 n) (G := G) (w := w) (G' := ⟨fun k => if k = n then some w.heap.size else G.σ k, G.τ, G.F⟩) (w' := w') (fun y v hl hy => Rep.lose_leaf (G := G) (w := w) (G' := ⟨fun k => if k = n then some w.heap.size else G.σ k, G.τ, G.F⟩) (FLe.refl _) hσ hτ hl hy) (wid_lose n) hy
  have hnew : w'.heap[w.heap.size]? = some (.cells u.cells e (0, 0)) := by rw [hheap]; simp
  have hFn : ∀ o, G.F w.heap.size o = none := fun o => by
    cases hF : G.F w.heap.size o with
    | none => rfl
    | some z => have := cell_lt (h.fits _ _ _ hF); omega
  refine ⟨⟨fun b o z hz => ?_, h.base, h.ext, fun k y hy => ?_, fun k b hk => ?_, fun t b ht => ?_, fun k k' b hk hk' => ?_, h.injτ, fun k t b hk ht => ?_, fun i hi => ?_, h.kept.step h1 h2 h3 hb.size (fun k hk _ => hb.block k hk)⟩, hr⟩
  · have := h.fits b o z hz
    rw [hb.cell (p := ⟨b, o, none⟩) (cell_lt this)]; exact this
  · rw [getN_put] at hy
    by_cases hk : k = n
    · rw [if_pos hk] at hy; injection hy with hy; subst hy
      exact ⟨w.heap.size, by show (if k = n then some w.heap.size else G.σ k) = _; rw [if_pos hk], u, e, (0, 0), hnew, (fun i _ hh => by have := hh.2; simp at this), hx, hwid, hfl⟩
    · rw [if_neg hk, getN_turn] at hy
      cases hg : getN k lh with
      | none => rw [hg] at hy; cases hy
      | some c =>
        rw [hg] at hy; injection hy with hy; subst hy
        obtain ⟨b, q1, u', e', fz, q2, q3, q4, q5, q6⟩ := h.box k c hg
        refine ⟨b, hσ k b hk q1, u', e', fz, ?_, q3, hr _ _ q4, by rw [PV.wid_map (wid_lose n)]; exact q5, q6⟩
        rw [hb.block b (h.σlt q1)]; exact q2
  · replace hk : (if k = n then some w.heap.size else G.σ k) = some b := hk
    rw [getN_put]
    by_cases e : k = n
    · rw [if_pos e] at hk; injection hk with hk; subst hk
      exact ⟨⟨x, by rw [if_pos e]⟩, hFn, .inr h.kept.size⟩
    · rw [if_neg e] at hk
      obtain ⟨⟨y, hy⟩, q2, q3⟩ := h.boxF k b hk
      exact ⟨⟨y.mapL (PV.lose1 n), by rw [if_neg e, getN_turn, hy]; rfl⟩, q2, q3⟩
  · obtain ⟨q1, q2, q3⟩ := h.mark t b ht
    exact ⟨q1, Nat.lt_of_lt_of_le q2 hb.size, q3⟩
  · replace hk : (if k = n then some w.heap.size else G.σ k) = some b := hk
    replace hk' : (if k' = n then some w.heap.size else G.σ k') = some b := hk'
    split at hk <;> split at hk'
    · rename_i e1 e2; rw [e1, e2]
    · injection hk with hk; have := h.σlt hk'; omega
    · injection hk' with hk'; have := h.σlt hk; omega
    · exact h.injσ k k' b hk hk'
  · replace hk : (if k = n then some w.heap.size else G.σ k) = some b := hk
    split at hk
    · injection hk with hk; have := (h.mark t b ht).2.1; omega
    · exact h.disj k t b hk ht
  · show (if i = n then some w.heap.size else G.σ i) = _
    rw [if_neg (by omega)]; exact h.par i hi
def Stilled (G : Gh) (f : Nat → Option Nat) (b : Nat) : Prop := ∃ t, t ≠ 0 ∧ f t = some 0 ∧ G.τ t = some b
open Classical in
noncomputable def Gh.turn (G : Gh) (w : World) (f : Nat → Option Nat) (n : Option (Nat × Nat)) : Gh :=
  ⟨G.σ, fun t => if n.map (·.1) = some t then n.map (·.2) else match f t with | some (u + 1) => G.τ t | _ => none,
   fun b o => if Stilled G f b then w.cell? ⟨b, o, none⟩ else G.F b o⟩
def MarkF (f : Nat → Option Nat) : Prop := f 0 = some 0 ∧ ∀ t, t ≠ 0 → f t = none ∨ f t = some 0 ∨ f t = some t
theorem Inv.turn {w' : World} (h : Inv cx G lh w) {f : Nat → Option Nat} (hf : MarkF f) (n : Option (Nat × Nat)) (h1 : w'.os = w.os) (h2 : w'.tape = w.tape) (h3 : w'.output = w.output) (h4 : w.heap.size ≤ w'.heap.size)
    (h5 : ∀ k, k < w.heap.size → (∀ t, t ≠ 0 → f t = none → n.map (·.1) = some t → G.τ t ≠ some k) → w'.heap[k]? = w.heap[k]?)
    (h6 : ∀ t b, n = some (t, b) → t ≠ 0 ∧ b < w'.heap.size ∧ f t ≠ some t ∧ (w.heap.size ≤ b ∨ (G.τ t = some b ∧ f t = none))) :
    Inv cx (G.turn w f n) (turnB (PV.mark1 f) lh) w' ∧ ∀ y v, Rep y G w v → Rep (y.mapL (PV.mark1 f)) (G.turn w f n) w' v := by
  classical
  have hst : ∀ {b}, Stilled G f b → b < w.heap.size ∧ Own cx b ∧ w'.heap[b]? = w.heap[b]? := fun ⟨t, t0, ft, ht⟩ => by
    obtain ⟨q1, q2, q3, q4⟩ := h.mark t _ ht
    refine ⟨q2, q4, h5 _ q2 fun t' t0' ft' hn ht' => ?_⟩
    have := h.injτ t t' _ ht ht'
    subst this
    rw [ft] at ft'; cases ft'
  have fF : ∀ b o, (G.turn w f n).F b o = if Stilled G f b then w.cell? ⟨b, o, none⟩ else G.F b o := fun b o => rfl
  have hF : FLe G.F (G.turn w f n).F := fun b o u hu => by
    rw [fF]
    split
    · rename_i hs
      obtain ⟨t, t0, ft, ht⟩ := hs
      rw [(h.mark t b ht).2.2.1] at hu; cases hu
    · exact hu
  have hτ : ∀ t, (G.turn w f n).τ t = if n.map (·.1) = some t then n.map (·.2) else match f t with | some (u + 1) => G.τ t | _ => none := fun t => rfl
  have keep : ∀ {t b}, f t = some t → t ≠ 0 → G.τ t = some b → (G.turn w f n).τ t = some b ∧ w'.heap[b]? = w.heap[b]? := fun {t b} ft t0 ht => by
    refine ⟨?_, h5 b (h.mark t b ht).2.1 fun t' t0' ft' hn ht' => ?_⟩
    · rw [hτ, if_neg, ft]
      · cases t with | zero => exact absurd rfl t0 | succ t => exact ht
      · intro hn
        cases n with
        | none => cases hn
        | some p => injection hn with hn; exact (h6 p.1 p.2 rfl).2.2.1 (by have hn' : p.1 = _ := hn; simp only [hn']; exact ft)
    · have := h.injτ t t' b ht ht'
      subst this; rw [ft] at ft'; cases ft'
  have hm : MarkOk G (G.turn w f n) w w' f := fun t t0 => by
    rcases hf.2 t t0 with ft | ft | ft
    · rw [ft]; trivial
    · rw [ft]
      intro b hb o u hu
      rw [fF, if_pos ⟨t, t0, ft, hb⟩]; exact hu
    · rw [ft]
      cases t with
      | zero => exact absurd rfl t0
      | succ t =>
        refine ⟨rfl, ?_, fun b hb => (keep ft t0 hb).2⟩
        rw [hτ, if_neg, ft]
        intro hn
        cases n with
        | none => cases hn
        | some p => injection hn with hn; exact (h6 p.1 p.2 rfl).2.2.1 (by have hn' : p.1 = _ := hn; simp only [hn']; exact ft)
  have hr : ∀ y v, Rep y G w v → Rep (y.mapL (PV.mark1 f)) (G.turn w f n) w' v := fun y v hy =>
    Rep.map (f := PV.mark1 f) (fun y v hl hy => Rep.mark_leaf (G := G) (G' := G.turn w f n) hF (fun _ => rfl) hf.1 hm hl hy) (wid_mark f) hy
  have tcase : ∀ {t b}, (G.turn w f n).τ t = some b → (n = some (t, b)) ∨ (n.map (·.1) ≠ some t ∧ f t = some t ∧ t ≠ 0 ∧ G.τ t = some b) := fun {t b} ht => by
    rw [hτ] at ht
    split at ht
    · rename_i hn
      cases n with
      | none => cases hn
      | some p => injection hn with hn; injection ht with ht; left; rw [← hn, ← ht]
    · rename_i hn
      by_cases t0 : t = 0
      · subst t0; rw [hf.1] at ht; cases ht
      · rcases hf.2 t t0 with ft | ft | ft
        · rw [ft] at ht; cases ht
        · rw [ft] at ht; cases ht
        · rw [ft] at ht
          cases t with
          | zero => exact absurd rfl t0
          | succ t => exact .inr ⟨hn, ft, t0, ht⟩
  have nF : ∀ {t b}, n = some (t, b) → ∀ o, (G.turn w f n).F b o = none := fun {t b} hn o => by
    obtain ⟨q1, q2, q3, q4⟩ := h6 t b hn
    rw [fF]
    rcases q4 with q4 | ⟨q4, q5⟩
    · rw [if_neg (fun hs => by have := (hst hs).1; omega)]
      cases hc : G.F b o with
      | none => rfl
      | some z => have := cell_lt (h.fits _ _ _ hc); omega
    · rw [if_neg (fun ⟨t', t0', ft', ht'⟩ => by
        have := h.injτ t t' b q4 ht'; subst this; rw [q5] at ft'; cases ft')]
      exact (h.mark t b q4).2.2.1 o
  have σF : ∀ {k b}, G.σ k = some b → w'.heap[b]? = w.heap[b]? := fun {k b} hk => h5 b (h.σlt hk) fun t _ _ _ ht => h.disj k t b hk ht
  refine ⟨⟨fun b o u hu => ?_, h.base.trans hF, fun b o u hu => ?_, fun k x hx => ?_, fun k b hk => ?_, fun t b ht => ?_, h.injσ, fun t t' b ht ht' => ?_, fun k t b hk ht => ?_, h.par, h.kept.step h1 h2 h3 h4 fun k hk ho => ?_⟩, hr⟩
  · rw [fF] at hu
    split at hu
    · rename_i hs
      rw [World.cell?_of_block (w := w) (a := ⟨b, o, none⟩) (hst hs).2.2]; exact hu
    · have := h.fits b o u hu
      rw [World.cell?_of_block (w := w) (a := ⟨b, o, none⟩) (h5 b (cell_lt this) fun t _ _ _ ht => by rw [(h.mark t b ht).2.2.1] at hu; cases hu)]; exact this
  · rw [fF] at hu
    split at hu
    · rename_i hs; exact .inr (hst hs).2.1
    · exact h.ext b o u hu
  · rw [getN_turn] at hx
    cases hg : getN k lh with
    | none => rw [hg] at hx; cases hx
    | some c =>
      rw [hg] at hx; injection hx with hx; subst hx
      obtain ⟨b, q1, u', e', fz, q2, q3, q4, q5, q6⟩ := h.box k c hg
      exact ⟨b, q1, u', e', fz, by rw [σF q1]; exact q2, q3, hr _ _ q4, by rw [PV.wid_map (wid_mark f)]; exact q5, q6⟩
  · obtain ⟨⟨x, hx⟩, q2, q3⟩ := h.boxF k b hk
    refine ⟨⟨_, by rw [getN_turn, hx]; rfl⟩, fun o => ?_, q3⟩
    rw [fF, if_neg (fun ⟨t, _, _, ht⟩ => h.disj k t b hk ht)]; exact q2 o
  · rcases tcase ht with hn | ⟨-, ft, t0, ht⟩
    · obtain ⟨q1, q2, q3, q4⟩ := h6 t b hn
      refine ⟨q1, q2, nF hn, ?_⟩
      rcases q4 with q4 | ⟨q4, -⟩
      · exact .inr (Nat.le_trans h.kept.size q4)
      · exact (h.mark t b q4).2.2.2
    · obtain ⟨q1, q2, q3, q4⟩ := h.mark t b ht
      refine ⟨q1, Nat.lt_of_lt_of_le q2 h4, fun o => ?_, q4⟩
      rw [fF, if_neg (fun ⟨t', t0', ft', ht'⟩ => by have := h.injτ t t' b ht ht'; subst this; rw [ft] at ft'; injection ft' with ft'; exact t0 ft')]; exact q3 o
  · rcases tcase ht with hn | ⟨hn, ft, t0, ht⟩ <;> rcases tcase ht' with hn' | ⟨hn', ft', t0', ht'⟩
    · rw [hn] at hn'; injection hn' with hn'; injection hn'
    · obtain ⟨q1, q2, q3, q4⟩ := h6 t b hn
      rcases q4 with q4 | ⟨q4, q5⟩
      · have := (h.mark t' b ht').2.1; omega
      · exact h.injτ t t' b q4 ht'
    · obtain ⟨q1, q2, q3, q4⟩ := h6 t' b hn'
      rcases q4 with q4 | ⟨q4, q5⟩
      · have := (h.mark t b ht).2.1; omega
      · exact h.injτ t t' b ht q4
    · exact h.injτ t t' b ht ht'
  · rcases tcase ht with hn | ⟨-, ft, t0, ht⟩
    · obtain ⟨q1, q2, q3, q4⟩ := h6 t b hn
      rcases q4 with q4 | ⟨q4, -⟩
      · have := h.σlt hk; omega
      · exact h.disj k t b hk q4
    · exact h.disj k t b hk ht
  · exact h5 k hk fun t _ _ _ ht => ho (h.mark t k ht).2.2.2
end
end
section
variable {P : Program} {G : Gh} {w : World}
theorem cells_one {u : Value} (h : flatV u = true) : u.cells = #[u] := by
  cases u <;> first | rfl | cases h
theorem flat_of_cells {u : Value} (h : flatV u = true) : Flat u := by
  intro c hc
  rw [cells_one h] at hc
  simp at hc; subst hc; exact h
theorem Rep.one {x : PV} {u : Value} (h : Rep x G w u) (ha : x.isAgg = false) (hu : x ≠ .undef) : flatV u = true := by
  cases x with
  | undef => exact absurd rfl hu
  | int k z => rw [show u = _ from h]; rfl
  | bool b => rw [show u = _ from h]; rfl
  | str l => rw [show u = _ from h]; rfl
  | raw v => rw [h.1]; exact h.2
  | arr n r => cases ha
  | agg l => cases ha
  | tup l => cases ha
  | row nl r t =>
    rcases h with ⟨-, a, h, -, -⟩ | ⟨-, b, o, c, h, -⟩ <;> rw [h] <;> rfl
  | vec nl sz l t =>
    obtain ⟨us, -, -, h⟩ := h
    rcases h with ⟨-, a, h, -, -⟩ | ⟨-, b, o, c, h, -⟩ <;> rw [h] <;> rfl
  | ep r t i => obtain ⟨b, o, c, h, -⟩ := h; rw [h]; rfl
  | epv sz l t i off => obtain ⟨b, o, c, us, h, -⟩ := h; rw [h]; rfl
  | ptr n off => obtain ⟨b, -, h⟩ := h; rw [h]; rfl
  | pix n off i => obtain ⟨-, b, -, h⟩ := h; rw [h]; rfl
  | asl n off lo len => obtain ⟨-, -, b, o, c, -, h, -⟩ := h; rw [h]; rfl
  | gp g off => rw [show u = _ from h]; rfl
  | gix g off i => rw [show u = _ from h.2]; rfl
  | fn f a b => obtain ⟨us, vs, -, -, h⟩ := h; rw [h]; rfl
theorem vals_flat (r : BRow) : ∀ c ∈ r.vals, flatV c = true := by
  intro c hc
  cases r with
  | bytes l => simp [BRow.vals] at hc; obtain ⟨z, -, rfl⟩ := hc; rfl
  | strs l => simp [BRow.vals] at hc; obtain ⟨z, -, rfl⟩ := hc; rfl
  | ints k l => simp [BRow.vals] at hc; obtain ⟨z, -, rfl⟩ := hc; rfl
theorem get_vals (r : BRow) (G : Gh) (w : World) {i : Nat} (h : i < r.vals.length) : Rep (r.get (i : Int)) G w (r.vals[i]) := by
  cases r with
  | bytes l =>
    have h' : i < l.length := by simpa [BRow.vals] using h
    show _ = _
    simp [BRow.vals, byteZ, List.getD, h']
  | strs l =>
    have h' : i < l.length := by simpa [BRow.vals] using h
    show _ = _
    simp [BRow.vals, strZ, List.getD, h']
  | ints k l =>
    have h' : i < l.length := by simpa [BRow.vals] using h
    show _ = _
    simp [BRow.vals, intZ, List.getD, h']
theorem RepL.wids {l : List PV} {us : List Value} (h : RepL l G w us) : (us.flatMap fun u => u.cells.toList).length = PV.wids l := by
  induction l generalizing us with
  | nil => rw [show us = [] from h]; rfl
  | cons x l ih =>
    obtain ⟨u, us', rfl, h1, h2, h3, h4⟩ := h
    simp only [List.flatMap_cons, List.length_append, Array.length_toList, ih h4, h2, PV.wids]
theorem RepL.flat {l : List PV} {us : List Value} (h : RepL l G w us) : ∀ c ∈ us.flatMap (fun u => u.cells.toList), flatV c = true := by
  induction l generalizing us with
  | nil => rw [show us = [] from h]; intro c hc; cases hc
  | cons x l ih =>
    obtain ⟨u, us', rfl, h1, h2, h3, h4⟩ := h
    intro c hc
    rw [List.flatMap_cons, List.mem_append] at hc
    rcases hc with hc | hc
    · exact h3 c hc
    · exact ih h4 c hc
structure Full (x : PV) (G : Gh) (w : World) (u : Value) : Prop where
  rep : Rep x G w u
  wid : u.cells.size = x.wid
  flat : Flat u
theorem Full.of_one {x : PV} {u : Value} (h : Rep x G w u) (h1 : flatV u = true) (ha : x.wid = 1) : Full x G w u :=
  ⟨h, by rw [cells_one h1, ha]; rfl, flat_of_cells h1⟩
theorem wid_one {x : PV} (ha : x.isAgg = false) : x.wid = 1 := by cases x <;> first | rfl | cases ha
theorem Full.of {x : PV} {u : Value} (h : Rep x G w u) (ht : ∀ l, x ≠ .tup l) (hu : x ≠ .undef) : Full x G w u := by
  cases hx : x.isAgg with
  | false => exact .of_one h (h.one hx hu) (wid_one hx)
  | true =>
    cases x with
    | arr n r =>
      obtain ⟨h1, rfl⟩ := h
      exact ⟨⟨h1, rfl⟩, by simp [Value.cells, h1, PV.wid], fun c hc => vals_flat r c (by simpa [Value.cells] using hc)⟩
    | agg l =>
      obtain ⟨us, h1, rfl⟩ := h
      exact ⟨⟨us, h1, rfl⟩, by simp only [Value.cells, List.size_toArray]; exact h1.wids, fun c hc => h1.flat c (by simpa [Value.cells] using hc)⟩
    | tup l => exact absurd rfl (ht l)
    | _ => cases hx
def Lies (u : Value) (off : Nat) (v : Value) : Prop := ∀ j, j < v.cells.size → u.cells[off + j]? = v.cells[j]?
theorem getAt_leaf {wh : Bool} {sz off : Nat} {x : PV} (h1 : ∀ l, x ≠ .agg l) (h2 : ∀ n r, x ≠ .arr n r) : x.getAt wh sz off = match Nat.beq off 0 with | true => x | false => .undef := by
  cases x <;> first | rfl | exact absurd rfl (h1 _) | exact absurd rfl (h2 _ _)
theorem leaf_rep {wh : Bool} {sz off : Nat} {x : PV} {u : Value} (h1 : ∀ l, x ≠ .agg l) (h2 : ∀ n r, x ≠ .arr n r) (h : Full x G w u) (hne : x.getAt wh sz off ≠ .undef) : ∃ v, Full (x.getAt wh sz off) G w v ∧ Lies u off v ∧ off + (x.getAt wh sz off).wid ≤ x.wid := by
  rw [getAt_leaf h1 h2] at hne ⊢
  cases ho : Nat.beq off 0 with
  | true =>
    have := Nat.eq_of_beq_eq_true ho
    subst this
    exact ⟨u, h, fun j hj => by rw [Nat.zero_add], by simp⟩
  | false => rw [ho] at hne; exact absurd rfl hne
mutual
theorem getAt_rep {wh : Bool} {sz : Nat} : ∀ {x : PV} {off : Nat} {u : Value}, Full x G w u → x.getAt wh sz off ≠ .undef → ∃ v, Full (x.getAt wh sz off) G w v ∧ Lies u off v ∧ off + (x.getAt wh sz off).wid ≤ x.wid
  | .agg l, off, u, h, hne => by
    cases hc : (wh && Nat.beq off 0 && Nat.beq (PV.wids l) sz) with
    | true =>
      have e : (PV.agg l).getAt wh sz off = .agg l := by rw [PV.getAt, hc]
      rw [e]
      simp only [Bool.and_eq_true] at hc
      have := Nat.eq_of_beq_eq_true hc.1.2
      subst this
      exact ⟨u, h, fun j hj => by rw [Nat.zero_add], by omega⟩
    | false =>
      have e : (PV.agg l).getAt wh sz off = PV.getAts wh sz l off := by rw [PV.getAt, hc]
      rw [e] at hne ⊢
      obtain ⟨us, h1, rfl⟩ := h.rep
      obtain ⟨v, q1, q2, q3⟩ := getAts_rep h1 hne
      refine ⟨v, q1, fun j hj => ?_, q3⟩
      rw [← q2 j hj]
      simp [Value.cells]
  | .arr n r, off, u, h, hne => by
    cases hc : (wh && Nat.beq off 0 && Nat.beq n sz) with
    | true =>
      have e : (PV.arr n r).getAt wh sz off = .arr n r := by rw [PV.getAt, hc]
      rw [e]
      simp only [Bool.and_eq_true] at hc
      have := Nat.eq_of_beq_eq_true hc.1.2
      subst this
      exact ⟨u, h, fun j hj => by rw [Nat.zero_add], by omega⟩
    | false =>
      cases hl : Nat.blt off n with
      | false =>
        have e : (PV.arr n r).getAt wh sz off = .undef := by rw [PV.getAt, hc]; dsimp only; rw [hl]
        exact absurd e hne
      | true =>
        have e : (PV.arr n r).getAt wh sz off = r.get (off : Int) := by rw [PV.getAt, hc]; dsimp only; rw [hl]
        rw [e]
        have hlt : off < n := by simpa using hl
        obtain ⟨h1, rfl⟩ := h.rep
        have hr := get_vals r G w (i := off) (by omega)
        have hf := vals_flat r r.vals[off] (List.getElem_mem _)
        have hw : (r.get (off : Int)).wid = 1 := by cases r <;> rfl
        refine ⟨_, .of_one hr hf hw, fun j hj => ?_, by rw [hw]; show off + 1 ≤ n; omega⟩
        rw [cells_one hf] at hj ⊢
        have : j = 0 := by simpa using hj
        subst this
        simp [Value.cells, h1, hlt]
  | .undef, off, u, h, hne => leaf_rep (fun _ e => by cases e) (fun _ _ e => by cases e) h hne
  | .int k z, off, u, h, hne => leaf_rep (fun _ e => by cases e) (fun _ _ e => by cases e) h hne
  | .bool b, off, u, h, hne => leaf_rep (fun _ e => by cases e) (fun _ _ e => by cases e) h hne
  | .str l, off, u, h, hne => leaf_rep (fun _ e => by cases e) (fun _ _ e => by cases e) h hne
  | .raw v, off, u, h, hne => leaf_rep (fun _ e => by cases e) (fun _ _ e => by cases e) h hne
  | .tup l, off, u, h, hne => leaf_rep (fun _ e => by cases e) (fun _ _ e => by cases e) h hne
  | .row nl r t, off, u, h, hne => leaf_rep (fun _ e => by cases e) (fun _ _ e => by cases e) h hne
  | .vec nl s l t, off, u, h, hne => leaf_rep (fun _ e => by cases e) (fun _ _ e => by cases e) h hne
  | .ep r t i, off, u, h, hne => leaf_rep (fun _ e => by cases e) (fun _ _ e => by cases e) h hne
  | .epv s l t i o, off, u, h, hne => leaf_rep (fun _ e => by cases e) (fun _ _ e => by cases e) h hne
  | .ptr n o, off, u, h, hne => leaf_rep (fun _ e => by cases e) (fun _ _ e => by cases e) h hne
  | .pix n o i, off, u, h, hne => leaf_rep (fun _ e => by cases e) (fun _ _ e => by cases e) h hne
  | .asl n o lo len, off, u, h, hne => leaf_rep (fun _ e => by cases e) (fun _ _ e => by cases e) h hne
  | .gp g o, off, u, h, hne => leaf_rep (fun _ e => by cases e) (fun _ _ e => by cases e) h hne
  | .gix g o i, off, u, h, hne => leaf_rep (fun _ e => by cases e) (fun _ _ e => by cases e) h hne
  | .fn f a b, off, u, h, hne => leaf_rep (fun _ e => by cases e) (fun _ _ e => by cases e) h hne
theorem getAts_rep {wh : Bool} {sz : Nat} : ∀ {l : List PV} {off : Nat} {us : List Value}, RepL l G w us → PV.getAts wh sz l off ≠ .undef → ∃ v, Full (PV.getAts wh sz l off) G w v ∧ (∀ j, j < v.cells.size → (us.flatMap fun u => u.cells.toList)[off + j]? = v.cells[j]?) ∧ off + (PV.getAts wh sz l off).wid ≤ PV.wids l
  | [], off, us, h, hne => absurd rfl hne
  | x :: l, off, us, h, hne => by
    obtain ⟨u, us', rfl, h1, h2, h3, h4⟩ := h
    cases hb : Nat.blt off x.wid with
    | true =>
      have e : PV.getAts wh sz (x :: l) off = x.getAt wh sz off := by rw [PV.getAts, hb]
      rw [e] at hne ⊢
      obtain ⟨v, q1, q2, q3⟩ := getAt_rep ⟨h1, h2, h3⟩ hne
      refine ⟨v, q1, fun j hj => ?_, by show _ ≤ x.wid + PV.wids l; omega⟩
      rw [List.flatMap_cons, List.getElem?_append_left (by rw [Array.length_toList, h2, ← q1.wid] at *; have := q1.wid; omega), Array.getElem?_toList]
      exact q2 j hj
    | false =>
      have e : PV.getAts wh sz (x :: l) off = PV.getAts wh sz l (off - x.wid) := by rw [PV.getAts, hb]
      rw [e] at hne ⊢
      have hge : x.wid ≤ off := by
        rcases Nat.lt_or_ge off x.wid with h | h
        · rw [show Nat.blt off x.wid = true by simpa using h] at hb; cases hb
        · exact h
      obtain ⟨v, q1, q2, q3⟩ := getAts_rep h4 hne
      refine ⟨v, q1, fun j hj => ?_, by show _ ≤ x.wid + PV.wids l; omega⟩
      rw [← q2 j hj, List.flatMap_cons, List.getElem?_append_right (by rw [Array.length_toList, h2]; omega), Array.length_toList, h2]
      congr 1; omega
end
end
end Go.Vc
