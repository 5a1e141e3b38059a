/- The evaluator's operations are the model's: loads, stores, new memory, slices. -/
import Derived.Test.YtbeoeghcmabemaaGreatDoorEvJ
set_option linter.unusedVariables false
set_option linter.unusedSectionVars false
set_option linter.unusedSimpArgs false
namespace Go.Ev
variable [Sg]
open Go.RowKit
variable {P : Program}

theorem loadK_run {t : TypeId} {x : AV} {h : Hp} {k : AV → Ans} (H : loadK P t x h k = .yes) : ∃ v, k v = .yes ∧ ∀ β w a, HR β h w → con β x = some a → ∃ u, (Instr.loadAt t a).run P w = .ok u w ∧ con β v = some u := by
  unfold loadK at H
  split at H
  · rename_i b off
    obtain ⟨h1, H⟩ := cnd_yes H
    obtain ⟨d, hd⟩ := knownB_some h1
    rw [cnd_eq] at H
    split at H
    · rename_i ha
      obtain ⟨i, hi, H⟩ := sizeK_yes H
      obtain ⟨l, e', m, c, ex, sz, g1, g2, g3, g4, H⟩ := getK_yes H
      refine ⟨_, H, fun β w a hr hx => ?_⟩
      obtain ⟨cb, κ, vs, e1, e2, e3, e4, e5⟩ := cells_of hr g1 g2 g3 g4
      obtain ⟨c', κ', e6, rfl⟩ := con_ptr hx
      rw [e1] at e6; injection e6 with e6; injection e6 with e6 e7; subst e6
      refine ⟨.agg vs.toArray, ?_, con_agg_mk e2 e3⟩
      have hl := run_loadCells_list (P := P) w ⟨cb, off, none⟩ vs (fun j v hv => by rw [Addr.add_lit]; exact e5 j v hv)
      rw [e4] at hl
      unfold Instr.loadAt loadVar
      simp only [Sem.run_bind, Instr.sureAddr, Sem.run_pure, Result.andThen_ok, aggB_run hd, ha, if_true, sizeOf, typeInfo, run_program, hi, hl]
    · rename_i ha
      obtain ⟨l, e', m, c, ex, sz, g1, g2, g3, g4, H⟩ := getK_yes H
      obtain ⟨v, hv, H⟩ := nthK_yes H
      refine ⟨_, H, fun β w a hr hx => ?_⟩
      obtain ⟨cb, κ, vs, e1, e2, e3, e4, e5⟩ := cells_of hr g1 g2 g3 g4
      obtain ⟨c', κ', e6, rfl⟩ := con_ptr hx
      rw [e1] at e6; injection e6 with e6; injection e6 with e6 e7; subst e6
      obtain ⟨u, h2, h3⟩ := conL_get e2 hv
      refine ⟨u, ?_, h3⟩
      have hc := e5 0 u h2
      unfold Instr.loadAt loadVar
      simp only [Sem.run_bind, Instr.sureAddr, Sem.run_pure, Result.andThen_ok, aggB_run hd, ha]
      simp only [Bool.false_eq_true, if_false, run_load]
      rw [show w.cell? ⟨cb, off, none⟩ = some u from hc]
  · cases H
theorem loadK_yes {t : TypeId} {x : AV} {h : Hp} {k : AV → Ans} (H : loadK P t x h k = .yes) : ∃ v, k v = .yes ∧ Sem1 P (Instr.loadAt t) x h v h := by
  obtain ⟨v, h1, h2⟩ := loadK_run H
  exact ⟨v, h1, fun β w a hr ha => let ⟨u, e1, e2⟩ := h2 β w a hr ha; ⟨β, w, u, e1, .refl hr, e2⟩⟩
theorem storeK_yes {t : TypeId} {x v : AV} {h : Hp} {k : Hp → Ans} (H : storeK P t x v h k = .yes) :
    ∃ h', k h' = .yes ∧ ∀ β w a b, HR β h w → con β x = some a → con β v = some b → ∃ β' w', (Instr.storeAt t a b).run P w = .ok () w' ∧ Stp β h w β' h' w' := by
  unfold storeK at H
  split at H
  · rename_i b off
    obtain ⟨l, H, hv⟩ := cells_yes H
    rw [lenK_eq] at H
    obtain ⟨i, hi, H⟩ := sizeK_yes H
    obtain ⟨h1, H⟩ := cnd_yes H
    have h1' := Nat.eq_of_beq_eq_true h1
    obtain ⟨t', n, low, e, m, c, ex, sz, rfl, g1, g2, H⟩ := putK_yes H
    refine ⟨_, H, fun β w a u hr hx hu => ?_⟩
    obtain ⟨vs, e1, e2, e3⟩ := hv β u hu
    obtain ⟨cb, κ, f1, f2, f3, f4⟩ := put_stp hr g1 g2 e1 e3
    obtain ⟨c', κ', e6, rfl⟩ := con_ptr hx
    rw [f1] at e6; injection e6 with e6; injection e6 with e6 e7; subst e6
    refine ⟨β, _, ?_, f4⟩
    have hst := run_storeCells_cells (P := P) cb off vs 0 w (by simpa using f2) (by simpa using f3) e3
    simp only [Nat.add_zero] at hst
    have hl := conL_len e1
    unfold Instr.storeAt storeVar
    simp only [Sem.run_bind, Instr.sureAddr, Sem.run_pure, Result.andThen_ok, sizeOf, typeInfo, run_program, hi, e2, List.size_toArray]
    rw [if_neg (by omega)]
    simpa using hst
  · cases H
/-- New memory for so many cells. -/
theorem newRow_of {t : Tr Blk} {n low : Nat} {e : TypeId} {l : List AV} {ex : Bool} {sz : Nat} {β : Bt} {w : World} {vs : List Value} (hr : HR β (.mk t n low) w) (hl : conL β l = some vs) (h1 : ∀ u ∈ vs, u.oneCell' = true) (hex : ex = true) :
    ∃ β' w', (newRow e vs.toArray).run P w = .ok ⟨w.heap.size, 0, none⟩ w' ∧ Stp β (.mk t n low) w β' (.mk (t.set (path n) (some (.cells e l.length (putL l 0 .leaf) ex sz))) (n + 1) low) w' ∧ β' n = some (w.heap.size, 0) := by
  refine ⟨upd β n w.heap.size 0, w.alloc (.cells vs.toArray e), ?_, ?_, upd_same ..⟩
  · rfl
  · exact new_stp (κ := 0) (fz := (0, 0)) [] hr hl h1 (by rw [List.append_nil]; rfl) rfl rfl rfl (fun i hi => by simp) (fun _ => rfl) (fun h => by rw [hex] at h; cases h)
theorem allocK_yes {e : TypeId} {h : Hp} {k : AK} (H : (zeroK P e fun z => sizeK P e fun sz => z.cells fun l => newK e l true sz h fun b h => k (.ptr b 0) h) = .yes) :
    ∃ v h', k v h' = .yes ∧ ∀ β w, HR β h w → ∃ β' w' u, (Instr.alloc e true (.tuple #[])).run P w = .ok u w' ∧ Stp β h w β' h' w' ∧ con β' v = some u := by
  obtain ⟨i, z, av, hi, hz, hc, H⟩ := zeroK_yes H
  obtain ⟨i2, hi2, H⟩ := sizeK_yes H
  obtain ⟨l, H, hv⟩ := cells_yes H
  cases h with
  | mk t n low =>
    rw [newK_eq] at H
    refine ⟨_, _, H, fun β w hr => ?_⟩
    obtain ⟨vs, e1, e2, e3⟩ := hv β z (hc β)
    obtain ⟨β', w', f1, f2, f3⟩ := newRow_of (P := P) (e := e) (sz := i2.size) hr e1 e3 (rfl : true = true)
    refine ⟨β', w', _, ?_, f2, by simp only [con, f3]; rfl⟩
    unfold Instr.alloc zeroValue typeInfo newVar
    simp only [Sem.run_bind, run_program, Result.andThen_ok, hi, hz, Sem.run_pure, e2, f1]
theorem boxK_yes {e : TypeId} {x : AV} {h : Hp} {k : AK} (H : (sizeK P e fun sz => x.cells fun l => newK e l true sz h fun b h => k (.ptr b 0) h) = .yes) :
    ∃ v h', k v h' = .yes ∧ Sem1 P (Instr.box e) x h v h' := by
  obtain ⟨i2, hi2, H⟩ := sizeK_yes H
  obtain ⟨l, H, hv⟩ := cells_yes H
  cases h with
  | mk t n low =>
    rw [newK_eq] at H
    refine ⟨_, _, H, fun β w a hr ha => ?_⟩
    obtain ⟨vs, e1, e2, e3⟩ := hv β a ha
    obtain ⟨β', w', f1, f2, f3⟩ := newRow_of (P := P) (e := e) (sz := i2.size) hr e1 e3 (rfl : true = true)
    refine ⟨β', w', _, ?_, f2, by simp only [con, f3]; rfl⟩
    unfold Instr.box newVar
    simp only [Sem.run_bind, Result.andThen_ok, Sem.run_pure, e2, f1]

/-- What lies in a tree is a list of values. -/
def TrR (β : Bt) (c : Tr AV) (cs : Array Value) : Prop := ∀ i, i < cs.size → ∃ av u, c.get (path i) = some av ∧ cs[i]? = some u ∧ con β av = some u ∧ u.oneCell' = true
theorem TrR.putL {β : Bt} {c : Tr AV} {cs : Array Value} (h : TrR β c cs) {l : List AV} {vs : List Value} {off : Nat} (hl : conL β l = some vs) (h1 : ∀ u ∈ vs, u.oneCell' = true) (ho : off + vs.length ≤ cs.size) : TrR β (putL l off c) (setA cs off vs) := by
  intro i hi
  rw [setA_size] at hi
  have hlen := conL_len hl
  rw [get_putL, setA_get vs cs off i ho, hlen]
  by_cases hb : off ≤ i ∧ i < off + vs.length
  · rw [if_pos hb, if_pos hb]
    have hi2 : i - off < l.length := by omega
    obtain ⟨u, u1, u2⟩ := conL_get hl (List.getElem?_eq_getElem hi2)
    exact ⟨_, u, List.getElem?_eq_getElem hi2, u1, u2, h1 u (List.mem_iff_getElem?.2 ⟨_, u1⟩)⟩
  · rw [if_neg hb, if_neg hb]; exact h i hi
theorem TrR.start {β : Bt} {l : List AV} {vs : List Value} (hl : conL β l = some vs) (h1 : ∀ u ∈ vs, u.oneCell' = true) : TrR β (Ev.putL l 0 .leaf) vs.toArray := by
  intro i hi
  have hlen := conL_len hl
  have hi' : i < l.length := by simp at hi; omega
  rw [get_putL, if_pos ⟨Nat.zero_le _, by omega⟩, Nat.sub_zero]
  obtain ⟨u, u1, u2⟩ := conL_get hl (List.getElem?_eq_getElem hi')
  exact ⟨_, u, List.getElem?_eq_getElem hi', by simpa using u1, u2, h1 u (List.mem_iff_getElem?.2 ⟨_, u1⟩)⟩
theorem TrR.read {β : Bt} {c : Tr AV} {cs : Array Value} (h : TrR β c cs) {l : List AV} {n : Nat} (hn : n = cs.size) (hl : l.length = n) (hc : ∀ i, i < n → c.get (path (0 + i)) = l[i]?) : conL β l = some cs.toList ∧ ∀ u ∈ cs.toList, u.oneCell' = true := by
  subst hn
  refine ⟨conL_of (by simpa using hl) (fun i x v hx hv => ?_), fun u hu => ?_⟩
  · have hi : i < cs.size := by
      rcases Nat.lt_or_ge i cs.toList.length with h1 | h1
      · simpa using h1
      · rw [List.getElem?_eq_none h1] at hv; cases hv
    obtain ⟨av, u, a1, a2, a3, -⟩ := h i hi
    have := hc i hi
    rw [Nat.zero_add, a1, hx] at this; injection this with this; subst this
    rw [Array.getElem?_toList, a2] at hv; injection hv with hv; subst hv
    exact a3
  · obtain ⟨i, hi, rfl⟩ := List.getElem_of_mem hu
    obtain ⟨av, u, a1, a2, a3, a4⟩ := h i (by simpa using hi)
    simp only [Array.getElem_toList]
    rw [Array.getElem?_eq_getElem (by simpa using hi)] at a2
    injection a2 with a2; rw [a2]; exact a4
theorem zipIdx_foldl (cs : Array Value) (off : Nat) (vs : Array Value) : vs.zipIdx.foldl (fun cs (c, j) => cs.setIfInBounds (off + j) c) cs = setA cs off vs.toList := by
  have key : ∀ (l : List Value) (k : Nat) (cs : Array Value), (l.zipIdx k).foldl (fun cs (p : Value × Nat) => cs.setIfInBounds (off + p.2) p.1) cs = setA cs (off + k) l := by
    intro l
    induction l with
    | nil => intro k cs; rfl
    | cons v l ih =>
      intro k cs
      rw [List.zipIdx_cons, List.foldl_cons, ih, setA, Nat.add_assoc]
  have := key vs.toList 0 cs
  rw [Nat.add_zero] at this
  rw [← this, ← Array.foldl_toList]
  congr 1
  simp
theorem fillK_yes {place : Nat → (Nat → Nat → Ans) → Ans} {pm : Nat → Option (Nat × Nat)} {size : Nat} (hp : ∀ i r, place i r = .yes → ∃ off n, pm i = some (off, n) ∧ off + n ≤ size ∧ r off n = .yes) :
    ∀ {ps : List Nat} {xs : List AV} {c : Tr AV} {k : Tr AV → Ans}, fillK place ps xs c k = .yes →
      ∃ c', k c' = .yes ∧ ∀ β vs (cs : Array Value), conL β xs = some vs → TrR β c cs → cs.size = size → ∃ cs', Instr.fill pm cs (ps.zip vs) = some cs' ∧ TrR β c' cs' ∧ cs'.size = size := by
  intro ps
  induction ps with
  | nil =>
    intro xs c k H
    exact ⟨c, H, fun β vs cs hx hc hs => ⟨cs, by simp [Instr.fill], hc, hs⟩⟩
  | cons i ps ih =>
    intro xs c k H
    cases xs with
    | nil => cases H
    | cons x xs =>
      obtain ⟨off, n, g1, g2, H⟩ := hp i _ H
      obtain ⟨l, H, hv⟩ := cells_yes H
      rw [lenK_eq] at H
      obtain ⟨h3, H⟩ := cnd_yes H
      have h3' := Nat.eq_of_beq_eq_true h3
      rw [writeL_eq] at H
      obtain ⟨c', a1, a2⟩ := ih H
      refine ⟨c', a1, fun β vs cs hx hc hs => ?_⟩
      obtain ⟨v, us, h1, h2, rfl⟩ := conL_cons hx
      obtain ⟨ws, e1, e2, e3⟩ := hv β v h1
      have hlen := conL_len e1
      obtain ⟨cs', b1, b2, b3⟩ := a2 β us _ h2 (hc.putL (off := off) e1 e3 (by omega)) (by rw [setA_size]; exact hs)
      refine ⟨cs', ?_, b2, b3⟩
      rw [List.zip_cons_cons, Instr.fill, g1]
      dsimp only
      rw [e2, List.size_toArray, zipIdx_foldl]
      rw [if_neg (by simp; omega)]
      exact b1
theorem aggOf_yes {c : Tr AV} {n : Nat} {k : List AV → Ans} (H : readN c n 0 k = .yes) : ∃ l, k l = .yes ∧ ∀ β (cs : Array Value), TrR β c cs → cs.size = n → conL β l = some cs.toList ∧ ∀ u ∈ cs.toList, u.oneCell' = true := by
  obtain ⟨l, h1, h2, h3⟩ := readN_yes H
  exact ⟨l, h3, fun β cs hc hs => hc.read hs.symm h1 h2⟩
def placesOf (P : Program) (fs : List Field) : List (Nat × Nat) := fs.map fun f => (f.offset, ((P.info? f.type).map (·.size)).getD 0)
theorem mapM_sizes (w : World) : ∀ (fs : List Field), (fs.all fun f => (P.info? f.type).isSome) = true → (fs.mapM (fun (f : Field) => do pure (f.offset, ← sizeOf f.type)) : Sem (List (Nat × Nat))).run P w = .ok (placesOf P fs) w
  | [], _ => rfl
  | f :: fs, h => by
    simp only [List.all_cons, Bool.and_eq_true] at h
    obtain ⟨ti, hti⟩ := Option.isSome_iff_exists.1 h.1
    have ih := mapM_sizes w fs h.2
    simp only [List.mapM_cons, Sem.run_bind, sizeOf, typeInfo, run_program, Result.andThen_ok, hti, Sem.run_pure] at ih ⊢
    rw [ih]
    simp [placesOf, hti]
theorem buildK_yes {t : TypeId} {ps : List Nat} {xs : List AV} {k : AV → Ans} (H : buildK P t ps xs k = .yes) :
    ∃ v, k v = .yes ∧ ∀ β w (vs : List Value), conL β xs = some vs → ∃ u, (Instr.build t (ps.zip vs).toArray).run P w = .ok u w ∧ con β v = some u := by
  unfold buildK at H
  obtain ⟨i, z, av, hi, hz, hc, H⟩ := zeroK_yes H
  obtain ⟨zl, H, hv⟩ := cells_yes H
  simp only [lenK_eq, writeL_eq] at H
  split at H
  · rename_i fs hd
    obtain ⟨hall, H⟩ := cnd_yes H
    obtain ⟨c', H, hf⟩ := fillK_yes (pm := fun j => (placesOf P fs.toList).toArray[j]?) (size := zl.length) (fun j r hr => by
      cases hj : fs[j]? with
      | none => rw [hj] at hr; cases hr
      | some f =>
        rw [hj] at hr
        obtain ⟨ti, hti, hr⟩ := sizeK_yes hr
        obtain ⟨h1, hr⟩ := cnd_yes hr
        refine ⟨f.offset, ti.size, ?_, by simpa using h1, hr⟩
        simp [placesOf, hj, hti]) H
    obtain ⟨l, H, hl⟩ := aggOf_yes H
    refine ⟨_, H, fun β w vs hx => ?_⟩
    obtain ⟨zs, e1, e2, e3⟩ := hv β z (hc β)
    have hzl := conL_len e1
    obtain ⟨cs', f1, f2, f3⟩ := hf β vs zs.toArray hx (TrR.start e1 e3) (by simp [hzl])
    obtain ⟨g1, g2⟩ := hl β cs' f2 f3
    refine ⟨.agg cs', ?_, con_agg_mk g1 g2⟩
    have hm := mapM_sizes (P := P) w fs.toList hall
    unfold Instr.build zeroValue typeInfo
    simp only [Sem.run_bind, run_program, Result.andThen_ok, hi, hz, Sem.run_pure, run_underlying hd, Array.mapM_eq_mapM_toList, Sem.run_map]
    rw [hm]
    simp only [Result.andThen_ok, e2, f1, Sem.run_pure]
  · rename_i q e hd
    obtain ⟨ti, hti, H⟩ := sizeK_yes H
    obtain ⟨c', H, hf⟩ := fillK_yes (pm := fun j => some (j * ti.size, ti.size)) (size := zl.length) (fun j r hr => by
      rw [fNat_eq] at hr
      obtain ⟨h1, hr⟩ := cnd_yes hr
      exact ⟨_, _, rfl, by simpa using h1, hr⟩) H
    obtain ⟨l, H, hl⟩ := aggOf_yes H
    refine ⟨_, H, fun β w vs hx => ?_⟩
    obtain ⟨zs, e1, e2, e3⟩ := hv β z (hc β)
    have hzl := conL_len e1
    obtain ⟨cs', f1, f2, f3⟩ := hf β vs zs.toArray hx (TrR.start e1 e3) (by simp [hzl])
    obtain ⟨g1, g2⟩ := hl β cs' f2 f3
    refine ⟨.agg cs', ?_, con_agg_mk g1 g2⟩
    unfold Instr.build zeroValue typeInfo sizeOf typeInfo
    simp only [Sem.run_bind, run_program, Result.andThen_ok, hi, hz, hti, Sem.run_pure, run_underlying hd, e2, f1]
  · cases H
end Go.Ev
namespace Go.Ev
variable [Sg]
open Go.RowKit
variable {P : Program}

theorem repK_eq (n : Nat) (zl : List AV) (k : List AV → Ans) : repK n zl k = k (List.replicate n zl).flatten := by
  induction n generalizing k with
  | zero => rfl
  | succ n ih =>
    show repK n zl (fun r => catK zl r k) = _
    rw [ih, catK_eq, List.replicate_succ, List.flatten_cons]
theorem range_rep (z : Array Value) (hz : 0 < z.size) : ∀ n : Nat, ((List.range (n * z.size)).map fun i => z[i % z.size]!) = (List.replicate n z.toList).flatten
  | 0 => by simp
  | n + 1 => by
    rw [List.replicate_succ', List.flatten_concat, ← range_rep z hz n, Nat.succ_mul, List.range_add, List.map_append, List.map_map]
    congr 1
    apply List.ext_getElem
    · simp
    · intro i h1 h2
      have hi : i < z.size := by simpa using h1
      simp [Function.comp_def, Nat.mod_eq_of_lt hi, hi]
theorem conL_rep {β : Bt} {l : List AV} {vs : List Value} (h : conL β l = some vs) : ∀ n, conL β (List.replicate n l).flatten = some (List.replicate n vs).flatten
  | 0 => rfl
  | n + 1 => by rw [List.replicate_succ, List.flatten_cons, List.replicate_succ, List.flatten_cons]; exact conL_append h (conL_rep h n)
/-- Zeros. -/
theorem zerosK_yes {e : TypeId} {sz n : Nat} {k : List AV → Ans} (H : zerosK P e sz n k = .yes) :
    ∃ l, k l = .yes ∧ l.length = n * sz ∧ ((n = 0 ∧ l = []) ∨ (0 < n ∧ 0 < sz ∧ ∃ i z, P.info? e = some i ∧ i.zero = some z ∧ z.cells.size = sz ∧ ∀ β, conL β l = some (List.replicate n z.cells.toList).flatten ∧ ∀ u ∈ (List.replicate n z.cells.toList).flatten, u.oneCell' = true)) := by
  cases n with
  | zero => exact ⟨[], H, by simp, .inl ⟨rfl, rfl⟩⟩
  | succ n =>
    obtain ⟨i, z, av, hi, hz, hc, H⟩ := zeroK_yes H
    obtain ⟨zl, H, hv⟩ := cells_yes H
    rw [lenK_eq] at H
    obtain ⟨h1, H⟩ := cnd_yes H
    obtain ⟨h2, H⟩ := cnd_yes H
    rw [repK_eq] at H
    have h1' := Nat.eq_of_beq_eq_true h1
    have h2' : 0 < sz := by simpa using h2
    obtain ⟨vs0, e1, e2, e3⟩ := hv (fun _ => none) z (hc _)
    have hl := conL_len e1
    refine ⟨_, H, by simp [List.length_flatten, h1'], .inr ⟨by omega, h2', i, z, hi, hz, by rw [e2]; simp; omega, fun β => ?_⟩⟩
    obtain ⟨vs, f1, f2, f3⟩ := hv β z (hc β)
    rw [f2]
    refine ⟨conL_rep f1 _, fun u hu => ?_⟩
    obtain ⟨l, hl1, hl2⟩ := List.mem_flatten.1 hu
    rw [(List.mem_replicate.1 hl1).2] at hl2
    exact f3 u (by simpa using hl2)
theorem buildSliceK_yes {t : TypeId} {n : Nat} {ps : List Nat} {xs : List AV} {h : Hp} {k : AK} (H : buildSliceK P t n ps xs h k = .yes) :
    ∃ v h', k v h' = .yes ∧ ∀ β w (vs : List Value), HR β h w → conL β xs = some vs → ∃ β' w' u, (Instr.buildSlice t n (ps.zip vs).toArray).run P w = .ok u w' ∧ Stp β h w β' h' w' ∧ con β' v = some u := by
  unfold buildSliceK at H
  split at H
  · rename_i e hd
    obtain ⟨ti, hti, H⟩ := sizeK_yes H
    obtain ⟨hsm, H⟩ := cnd_yes H
    have hsm' : n * ti.size ≤ 65536 := by simpa using hsm
    obtain ⟨zl, H, hzlen, hz⟩ := zerosK_yes H
    simp only [lenK_eq, writeL_eq] at H
    obtain ⟨c', H, hf⟩ := fillK_yes (pm := fun j => some (j * ti.size, ti.size)) (size := zl.length) (fun j r hr => by
      rw [fNat_eq] at hr
      obtain ⟨h1, hr⟩ := cnd_yes hr
      exact ⟨_, _, rfl, by simpa using h1, hr⟩) H
    obtain ⟨l, H, hl⟩ := aggOf_yes H
    cases h with
    | mk t' nx low =>
      rw [newK_eq] at H
      refine ⟨_, _, H, fun β w vs hr hx => ?_⟩
      have fin : ∀ zs : List Value, conL β zl = some zs → (∀ u ∈ zs, u.oneCell' = true) → (∀ cs', Instr.fill (fun i => some (i * ti.size, ti.size)) zs.toArray (ps.zip vs) = some cs' → (Instr.buildSlice t n (ps.zip vs).toArray).run P w = ((newRow e cs').run P w).andThen fun a w' => .ok (.slice (some a) n n) w') →
          ∃ β' w' u, (Instr.buildSlice t n (ps.zip vs).toArray).run P w = .ok u w' ∧ Stp β (.mk t' nx low) w β' (.mk (t'.set (path nx) (some (.cells e l.length (putL l 0 .leaf) true ti.size))) (nx + 1) low) w' ∧ con β' (.slice nx 0 n true n) = some u := by
        intro zs e1 e2 e3
        have hzl := conL_len e1
        obtain ⟨cs', f1, f2, f3⟩ := hf β vs zs.toArray hx (TrR.start e1 e2) (by simp [hzl])
        obtain ⟨g1, g2⟩ := hl β cs' f2 f3
        obtain ⟨β', w', r1, r2, r3⟩ := newRow_of (P := P) (e := e) (sz := ti.size) hr g1 g2 (rfl : true = true)
        refine ⟨β', w', _, ?_, r2, con_slice_mk r3 (.inl rfl)⟩
        rw [e3 cs' f1, show cs' = cs'.toList.toArray by simp, r1]
        rfl
      rcases hz with ⟨rfl, rfl⟩ | ⟨h0, h1, i, z, hi, hzz, hzs, hb⟩
      · refine fin [] rfl (fun u hu => by cases hu) fun cs' hcs => ?_
        unfold Instr.buildSlice sizeOf typeInfo
        simp only [Sem.run_bind, run_program, Result.andThen_ok, hti, Sem.run_pure, run_underlying hd]
        rw [if_neg (by omega), if_pos (by omega)]
        simp only [Sem.run_bind, Sem.run_pure, Result.andThen_ok]
        rw [show ((Array.range (0 * ti.size)).map fun x => (#[] : Array Value)[x % (#[] : Array Value).size]!) = ([] : List Value).toArray by simp, hcs]
        simp only [Sem.run_bind, Sem.run_pure, Result.andThen_ok]
      · rw [hti] at hi; injection hi with hi; subst hi
        refine fin _ (hb β).1 (hb β).2 fun cs' hcs => ?_
        have hr' : ((Array.range (n * ti.size)).map fun x => z.cells[x % z.cells.size]!) = (List.replicate n z.cells.toList).flatten.toArray := by
          apply Array.ext'
          rw [← range_rep z.cells (by omega) n, hzs]
          simp
        unfold Instr.buildSlice sizeOf zeroValue typeInfo
        simp only [Sem.run_bind, run_program, Result.andThen_ok, hti, Sem.run_pure, run_underlying hd]
        rw [if_neg (by omega), if_neg (Nat.mul_ne_zero (by omega) (by omega))]
        simp only [Sem.run_bind, Sem.run_pure, Result.andThen_ok, run_program, hti, hzz]
        rw [hr', hcs]
        simp only [Sem.run_bind, Sem.run_pure, Result.andThen_ok]
  · cases H
end Go.Ev
