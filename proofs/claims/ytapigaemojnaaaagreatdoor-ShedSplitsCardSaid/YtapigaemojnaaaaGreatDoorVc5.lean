/- The calculus by values, part 5. -/
import Derived.Deep.AppendSrc
import Derived.Deep.Upon
import Derived.Lib.ConvBytes
import Derived.Laws.BytesString
import Derived.Test.YtapigaemojnaaaaGreatDoorVc4
set_option linter.unusedVariables false
set_option linter.unusedSectionVars false
set_option linter.unusedSimpArgs false

/- A calculus of Go's functions by their values: what turns: new boxes, stores, rows that grow. -/
namespace Go.Vc
open Go.RowKit
variable {P : Program} {cx : Cx} {G : Gh} {lh : List (Nat × PV)} {w : World}

mutual
theorem mapL_comp {f g : PV → PV} (hf : ∀ y : PV, y.leaf = true → (f y).leaf = true) : ∀ x : PV, (x.mapL f).mapL g = x.mapL fun y => g (f y)
  | .agg l => by simp only [PV.mapL, mapLs_comp hf l]
  | .tup l => by simp only [PV.mapL, mapLs_comp hf l]
  | .fn h a b => by simp only [PV.mapL, mapLs_comp hf a, mapLs_comp hf b]
  | .undef => PV.mapL_leaf (hf _ rfl)
  | .int k z => PV.mapL_leaf (hf _ rfl)
  | .bool b => PV.mapL_leaf (hf _ rfl)
  | .str l => PV.mapL_leaf (hf _ rfl)
  | .raw u => PV.mapL_leaf (hf _ rfl)
  | .arr n r => PV.mapL_leaf (hf _ rfl)
  | .row nl r t => PV.mapL_leaf (hf _ rfl)
  | .vec nl sz l t => PV.mapL_leaf (hf _ rfl)
  | .ep r t i => PV.mapL_leaf (hf _ rfl)
  | .epv sz l t i off => PV.mapL_leaf (hf _ rfl)
  | .ptr n off => PV.mapL_leaf (hf _ rfl)
  | .pix n off i => PV.mapL_leaf (hf _ rfl)
  | .asl n off lo len => PV.mapL_leaf (hf _ rfl)
  | .gp g off => PV.mapL_leaf (hf _ rfl)
  | .gix g off i => PV.mapL_leaf (hf _ rfl)
theorem mapLs_comp {f g : PV → PV} (hf : ∀ y : PV, y.leaf = true → (f y).leaf = true) : ∀ l : List PV, PV.mapLs g (PV.mapLs f l) = PV.mapLs (fun y => g (f y)) l
  | [] => rfl
  | x :: l => by simp only [PV.mapLs, mapL_comp hf x, mapLs_comp hf l]
end
theorem mark_leaf (f : Nat → Option Nat) (y : PV) (h : y.leaf = true) : (y.mark1 f).leaf = true := by
  cases y with
  | row nl r t => show PV.leaf (match f t with | some u => .row nl r u | none => .undef) = true; cases f t <;> rfl
  | vec nl sz l t => show PV.leaf (match f t with | some u => .vec nl sz l u | none => .undef) = true; cases f t <;> rfl
  | ep r t i => show PV.leaf (match f t with | some u => .ep r u i | none => .undef) = true; cases f t <;> rfl
  | epv sz l t i off => show PV.leaf (match f t with | some u => .epv sz l u i off | none => .undef) = true; cases f t <;> rfl
  | _ => first | rfl | exact h
theorem turnB_comp {f g : PV → PV} (hf : ∀ y : PV, y.leaf = true → (f y).leaf = true) (lh : List (Nat × PV)) : turnB g (turnB f lh) = turnB (fun y => g (f y)) lh := by
  unfold turnB
  rw [List.map_map]
  refine List.map_congr_left fun e _ => ?_
  show (e.1, (e.2.mapL f).mapL g) = _
  rw [mapL_comp hf]
theorem loseF_eq (n lo hi : Nat) : loseF n lo hi = fun y => (y.mark1 (stillRF lo hi)).lose1 n := by
  funext y
  cases y <;> rfl
/-- What an operation turns. -/
structure Turns (cx : Cx) (G : Gh) (w : World) (f : Option (PV → PV)) (lh' : List (Nat × PV)) (G' : Gh) (w' : World) : Prop where
  inv : Inv cx G' lh' w'
  rep : ∀ y v, Rep y G w v → Rep (match f with | none => y | some f => y.mapL f) G' w' v
  le : FLe G.F G'.F
theorem Turns.refl (h : Inv cx G lh w) : Turns cx G w none lh G w := ⟨h, fun _ _ h => h, FLe.refl _⟩
theorem Inv.turn_le (h : Inv cx G lh w) (f : Nat → Option Nat) (n : Option (Nat × Nat)) : FLe G.F (G.turn w f n).F := by
  classical
  intro b o u hu
  show (if Stilled G f b then w.cell? ⟨b, o, none⟩ else G.F b o) = some u
  split
  · rename_i hs
    obtain ⟨t, t0, ft, ht⟩ := hs
    rw [(h.mark t b ht).2.2.1] at hu; cases hu
  · exact hu
theorem stillRF_ok (lo hi : Nat) : MarkF (stillRF lo hi) := by
  refine ⟨by unfold stillRF; cases (Nat.ble lo 0 && Nat.blt 0 hi) <;> rfl, fun t _ => .inr ?_⟩
  unfold stillRF
  cases (Nat.ble lo t && Nat.blt t hi) with
  | true => exact .inl rfl
  | false => exact .inr rfl
theorem stillF_ok (t : Nat) : MarkF (stillF t) := by
  refine ⟨by unfold stillF; cases (Nat.beq 0 t) <;> rfl, fun u _ => .inr ?_⟩
  unfold stillF
  cases (Nat.beq u t) with
  | true => exact .inl rfl
  | false => exact .inr rfl
theorem killF_ok {t : Nat} (ht : t ≠ 0) : MarkF (killF t) := by
  refine ⟨?_, fun u _ => ?_⟩
  · unfold killF
    have : Nat.beq 0 t = false := by rw [Bool.eq_false_iff]; exact fun hh => ht (Nat.eq_of_beq_eq_true hh).symm
    rw [this]; rfl
  · unfold killF
    cases (Nat.beq u t) with
    | true => exact .inl rfl
    | false => exact .inr (.inr rfl)
theorem newVar_run (e : TypeId) (z : Value) (w : World) : (newVar e z).run P w = .ok ⟨w.heap.size, 0, none⟩ (w.alloc (.cells z.cells e)) := rfl
theorem nameOf_ge {d : Option Tmp} {n : Nat} (h : nameOf d = some n) : 32 ≤ n := by
  unfold nameOf at h
  rw [Option.map_eq_some_iff] at h
  obtain ⟨q, -, rfl⟩ := h
  omega
/-- A new box, its marks stilled. -/
theorem alloc_ok {e : TypeId} {d : Option Tmp} {v : PV} {f : Option (PV → PV)} {lh' : List (Nat × PV)} (hi : Inv cx G lh w) (hm : cx.m ≤ 32) (h : allocS P e d lh = .ok v f lh') :
    ∃ u G' w', (Instr.alloc e true (.tuple #[])).run P w = .ok u w' ∧ Turns cx G w f lh' G' w' ∧ Rep v G' w' u := by
  unfold allocS at h
  split at h
  · rename_i n hn
    split at h
    · rename_i hz
      unfold boxS at h
      injection h with h1 h2 h3
      subst h1; subst h2; subst h3
      have hn' : cx.m ≤ n := Nat.le_trans hm (nameOf_ge hn)
      obtain ⟨i, z, hi1, hz1, fz, -, -⟩ := zero_ok hz
      obtain ⟨t1, t2⟩ := hi.turn (w' := w) (f := stillRF (markOf n) (markOf (n + 1))) (stillRF_ok _ _) none rfl rfl rfl (Nat.le_refl _) (fun _ _ _ => rfl) (fun t b e => by cases e)
      obtain ⟨s1, s2⟩ := t1.newBox (w' := w.alloc (.cells z.cells e)) (n := n) hn' (u := z) (e := e) rfl rfl rfl rfl (fz _ _).rep (fz ⟨fun _ => none, fun _ => none, fun _ _ => none⟩ w).wid (fz ⟨fun _ => none, fun _ => none, fun _ _ => none⟩ w).flat
      refine ⟨.pointer (some ⟨w.heap.size, 0, none⟩), ⟨fun k => if k = n then some w.heap.size else (G.turn w (stillRF (markOf n) (markOf (n + 1))) none).σ k, (G.turn w (stillRF (markOf n) (markOf (n + 1))) none).τ, (G.turn w (stillRF (markOf n) (markOf (n + 1))) none).F⟩, w.alloc (.cells z.cells e), ?_, ⟨?_, fun y v hv => ?_, hi.turn_le (stillRF (markOf n) (markOf (n + 1))) none⟩, ?_⟩
      · unfold Instr.alloc zeroValue typeInfo
        simp only [Sem.run_bind, run_program, Result.andThen_ok, hi1, hz1, Sem.run_pure, newVar_run]
      · rw [turnB_comp (mark_leaf _)] at s1
        rw [loseF_eq]; exact s1
      · have := s2 _ _ (t2 y v hv)
        rw [mapL_comp (mark_leaf _)] at this
        show Rep (y.mapL (loseF n _ _)) _ _ v
        rw [loseF_eq]; exact this
      · exact ⟨w.heap.size, by simp, rfl⟩
    · cases h
  · cases h
theorem typed_wid (t : TypeId) (tok : Nat) (x : PV) : (typed P t tok x).wid = x.wid := by
  unfold typed
  split
  · split
    · unfold emptyRow; split <;> rfl
    · rfl
  · rfl
theorem box_ok {e : TypeId} {x : PV} {d : Option Tmp} {v : PV} {f : Option (PV → PV)} {lh' : List (Nat × PV)} {a : Value} (hi : Inv cx G lh w) (hm : cx.m ≤ 32) (h : boxR P e x d lh = .ok v f lh') (ha : Rep x G w a) :
    ∃ u G' w', (Instr.box e a).run P w = .ok u w' ∧ Turns cx G w f lh' G' w' ∧ Rep v G' w' u := by
  unfold boxR at h
  split at h
  · rename_i n hn
    split at h
    · rename_i hc hw
      rw [Bool.and_eq_true] at hc
      unfold boxS at h
      injection h with h1 h2 h3
      subst h1; subst h2; subst h3
      have hn' : cx.m ≤ n := Nat.le_trans hm (nameOf_ge hn)
      have fx := Full.fit ha hc.2
      have hb : Below w.heap.size w (w.alloc (.cells a.cells e)) := (Below.refl _ w).alloc (Nat.le_refl _) _
      have key : Rep (typed P e 0 (x.mapL (PV.lose1 n))) ⟨fun k => if k = n then some w.heap.size else G.σ k, G.τ, G.F⟩ (w.alloc (.cells a.cells e)) a :=
        typed_ok (Rep.map (f := PV.lose1 n) (G := G) (w := w) (G' := ⟨fun k => if k = n then some w.heap.size else G.σ k, G.τ, G.F⟩) (w' := w.alloc (.cells a.cells e)) (fun y v hl hy => Rep.lose_leaf (G := G) (w := w) (G' := ⟨fun k => if k = n then some w.heap.size else G.σ k, G.τ, G.F⟩) (w' := w.alloc (.cells a.cells e)) (FLe.refl _) (fun k b hk hb => by
          show (if k = n then some w.heap.size else G.σ k) = some b
          rw [if_neg hk]; exact hb) (fun t b ht => ⟨ht, hb.block b (hi.mark t b ht).2.1⟩) hl hy) (wid_lose n) ha)
      obtain ⟨s1, s2⟩ := hi.newBox (w' := w.alloc (.cells a.cells e)) (n := n) hn' (u := a) (e := e) rfl rfl rfl rfl key (by rw [typed_wid, PV.wid_map (wid_lose n)]; exact fx.wid) fx.flat
      exact ⟨_, _, _, rfl, ⟨s1, s2, FLe.refl _⟩, w.heap.size, by simp, rfl⟩
    · cases h
  · cases h
theorem setCells_heap : ∀ (vs : List Value) (o : Nat) (w : World) (b : Nat) (cs : Array Value) (e : TypeId) (fz : Nat × Nat), w.heap[b]? = some (.cells cs e fz) → (w.setCells b o vs).heap[b]? = some (.cells (setA cs o vs) e fz)
  | [], o, w, b, cs, e, fz, h => h
  | v :: vs, o, w, b, cs, e, fz, h => by
    rw [World.setCells, setA]
    refine setCells_heap vs (o + 1) _ b _ e fz ?_
    simp only [World.setCell, Array.getElem?_modify, h]
    simp
theorem setCells_size : ∀ (vs : List Value) (o : Nat) (w : World) (b : Nat), (w.setCells b o vs).heap.size = w.heap.size
  | [], o, w, b => rfl
  | v :: vs, o, w, b => by rw [World.setCells, setCells_size vs]; simp [World.setCell]
theorem setCells_tape : ∀ (vs : List Value) (o : Nat) (w : World) (b : Nat), (w.setCells b o vs).tape = w.tape
  | [], o, w, b => rfl
  | v :: vs, o, w, b => by rw [World.setCells, setCells_tape vs]; rfl
theorem setA_size (vs : List Value) (cs : Array Value) (o : Nat) (h : o + vs.length ≤ cs.size) : (setA cs o vs).size = cs.size := by
  rw [← Array.length_toList, setA_over vs cs o h, overL_len (by simpa using h)]; simp
theorem setCells_other (w : World) (b o : Nat) (vs : List Value) (k : Nat) (hk : k ≠ b) : (w.setCells b o vs).heap[k]? = w.heap[k]? := by
  by_cases h : k < w.heap.size
  · exact World.heap_setCells_other w b o vs h hk
  · rw [Array.getElem?_eq_none (by rw [setCells_size]; omega), Array.getElem?_eq_none (by omega)]
/-- Cells are stored in a block. -/
theorem store_run {b off : Nat} {xs : Array Value} {e : TypeId} {fz : Nat × Nat} {vs : List Value} (h1 : w.heap[b]? = some (.cells xs e fz)) (h2 : Clear fz xs.size) (h3 : off + vs.length ≤ xs.size) (h4 : ∀ v ∈ vs, flatV v = true) :
    (storeCells ⟨b, off, none⟩ vs).run P w = .ok () (w.setCells b off vs) := by
  have := run_storeCells_cells (P := P) b off vs 0 w (fun j hj => by
    unfold World.cell?
    rw [h1]
    show (xs[off + 0 + j]?).isSome = true
    rw [Array.getElem?_eq_getElem (by omega)]; rfl) (fun j hj => by
    unfold World.frozen?
    rw [h1]
    have := h2 (off + 0 + j) (by omega)
    simp only [Bool.and_eq_false_iff, decide_eq_false_iff_not]
    omega) h4
  simpa using this
/-- What is written into a box. -/
theorem written {n b off : Nat} {c c' : PV} {u u' : Value} {e : TypeId} {fz : Nat × Nat} {vs : List Value} (hi : Inv cx G lh w) (hc : getN n lh = some c) (hb : G.σ n = some b) (h3 : w.heap[b]? = some (.cells u.cells e fz)) (h4 : Clear fz u.cells.size)
    (f : Full c' G w u') (hov : u'.cells.toList = overL u.cells.toList off vs) (hle : off + vs.length ≤ u.cells.size) : Turns cx G w none (setN n c' lh) G (w.setCells b off vs) := by
  have hA : setA u.cells off vs = u'.cells := by
    apply Array.ext'
    rw [setA_over _ _ _ hle, hov]
  have hs : u'.cells.size = u.cells.size := by rw [← hA, setA_size _ _ _ hle]
  obtain ⟨s1, s2⟩ := hi.store (w' := w.setCells b off vs) (n := n) (b := b) (c := c) (c' := c') (u' := u') (e := e) (fz := fz) hc hb (World.os_setCells ..) (setCells_tape ..) (World.output_setCells ..) (setCells_size ..)
    (fun k hk => setCells_other w b off vs k hk) (by rw [setCells_heap vs off w b _ e fz h3, hA]) (by rw [hs]; exact h4) f.rep f.wid f.flat
  exact ⟨s1, s2, FLe.refl _⟩
mutual
theorem putArr_ok {r q : BRow} {v : Value} {i m : Nat} (hq : q.vals = r.vals.set i v) (hf : flatV v = true) (him : i < r.vals.length) : ∀ {x x' : PV} {off : Nat} {u : Value}, Full x G w u → x.arrAt off = some (m, r) → x.putArr q off = some x' →
    ∃ u', Full x' G w u' ∧ u'.cells.toList = overL u.cells.toList (off + i) [v] ∧ off + i + 1 ≤ u.cells.size
  | .agg l, x', off, u, hx, h, hp => by
    unfold PV.arrAt at h
    unfold PV.putArr at hp
    rw [Option.map_eq_some_iff] at hp
    obtain ⟨l', h1, rfl⟩ := hp
    obtain ⟨us, g1, rfl⟩ := hx.rep
    obtain ⟨us', k1, k2, k3⟩ := putArrs_ok hq hf him g1 h h1
    exact ⟨_, Full.agg ⟨us', k1, rfl⟩, by simpa [Value.cells] using k2, by simpa [Value.cells] using k3⟩
  | .arr n s, x', off, u, hx, h, hp => by
    unfold PV.arrAt at h
    unfold PV.putArr at hp
    split at h
    · rename_i hb
      rw [hb] at hp
      have := Nat.eq_of_beq_eq_true hb
      subst this
      injection h with h; injection h with e1 e2; subst e1; subst e2
      replace hp : some (PV.arr n q) = some x' := hp
      injection hp with hp; subst hp
      obtain ⟨g1, rfl⟩ := hx.rep
      refine ⟨.agg q.vals.toArray, Full.of ⟨by rw [hq, List.length_set, g1], rfl⟩ (fun _ e => by cases e) (fun e => by cases e), ?_, by simp [Value.cells]; omega⟩
      simp only [Value.cells, Nat.zero_add]
      rw [hq, set_over him]
    · cases h
  | .undef, x', off, u, hx, h, hp => by unfold PV.arrAt at h; cases h
  | .int k z, x', off, u, hx, h, hp => by unfold PV.arrAt at h; cases h
  | .bool b, x', off, u, hx, h, hp => by unfold PV.arrAt at h; cases h
  | .str l, x', off, u, hx, h, hp => by unfold PV.arrAt at h; cases h
  | .raw z, x', off, u, hx, h, hp => by unfold PV.arrAt at h; cases h
  | .tup l, x', off, u, hx, h, hp => by unfold PV.arrAt at h; cases h
  | .row nl z t, x', off, u, hx, h, hp => by unfold PV.arrAt at h; cases h
  | .vec nl sz l t, x', off, u, hx, h, hp => by unfold PV.arrAt at h; cases h
  | .ep z t j, x', off, u, hx, h, hp => by unfold PV.arrAt at h; cases h
  | .epv sz l t j o, x', off, u, hx, h, hp => by unfold PV.arrAt at h; cases h
  | .ptr a o, x', off, u, hx, h, hp => by unfold PV.arrAt at h; cases h
  | .pix a o j, x', off, u, hx, h, hp => by unfold PV.arrAt at h; cases h
  | .asl a o lo len, x', off, u, hx, h, hp => by unfold PV.arrAt at h; cases h
  | .gp g o, x', off, u, hx, h, hp => by unfold PV.arrAt at h; cases h
  | .gix g o j, x', off, u, hx, h, hp => by unfold PV.arrAt at h; cases h
  | .fn f a b, x', off, u, hx, h, hp => by unfold PV.arrAt at h; cases h
theorem putArrs_ok {r q : BRow} {v : Value} {i m : Nat} (hq : q.vals = r.vals.set i v) (hf : flatV v = true) (him : i < r.vals.length) : ∀ {l l' : List PV} {off : Nat} {us : List Value}, RepL l G w us → PV.arrAts l off = some (m, r) → PV.putArrs q l off = some l' →
    ∃ us', RepL l' G w us' ∧ (us'.flatMap fun u => u.cells.toList) = overL (us.flatMap fun u => u.cells.toList) (off + i) [v] ∧ off + i + 1 ≤ (us.flatMap fun u => u.cells.toList).length
  | [], l', off, us, hx, h, hp => by unfold PV.arrAts at h; cases h
  | x :: l, l', off, us, hx, h, hp => by
    obtain ⟨u, us', rfl, h1, h2, h3, h4⟩ := hx
    unfold PV.arrAts at h
    unfold PV.putArrs at hp
    split at h
    · rename_i hb
      rw [hb] at hp
      replace hp : (PV.putArr q x off).map (· :: l) = some l' := hp
      rw [Option.map_eq_some_iff] at hp
      obtain ⟨x', k1, rfl⟩ := hp
      obtain ⟨u', q1, q2, q3⟩ := putArr_ok hq hf him ⟨h1, h2, h3⟩ h k1
      refine ⟨u' :: us', ⟨u', us', rfl, q1.rep, q1.wid, q1.flat, h4⟩, ?_, by simp; omega⟩
      rw [List.flatMap_cons, List.flatMap_cons, overL_left (by simp; omega), q2]
    · rename_i hb
      rw [hb] at hp
      replace hp : (PV.putArrs q l (off - PV.wid x)).map (x :: ·) = some l' := hp
      have hge : x.wid ≤ off := by
        rcases Nat.lt_or_ge off x.wid with h | h
        · rw [show Nat.blt off x.wid = true by simpa using h] at hb; cases hb
        · exact h
      rw [Option.map_eq_some_iff] at hp
      obtain ⟨l1, k1, rfl⟩ := hp
      obtain ⟨us1, q1, q2, q3⟩ := putArrs_ok hq hf him h4 h k1
      refine ⟨u :: us1, ⟨u, us1, rfl, h1, h2, h3, q1⟩, ?_, by simp at q3 ⊢; omega⟩
      rw [List.flatMap_cons, List.flatMap_cons, overL_right (by simp; omega), q2]
      simp only [Array.length_toList, h2]
      congr 2; omega
end
/-- A cell of a marked row is written. -/
theorem set_flat {r r' : BRow} {z : Int} {y : PV} {v : Value} (h : r.set z y = some r') (hv : Rep y G w v) : flatV v = true := by
  unfold BRow.set at h
  split at h
  · rw [show v = _ from hv]; rfl
  · rw [show v = _ from hv]; rfl
  · rw [show v = _ from hv]; rfl
  · cases h
theorem flat_vals {l : List Value} (hl : ∀ u ∈ l, flatV u = true) : (l.flatMap fun u => u.cells.toList) = l := by
  induction l with
  | nil => rfl
  | cons u l ih => rw [List.flatMap_cons, ih (fun v hv => hl v (List.mem_cons_of_mem _ hv)), cells_one (hl u (List.mem_cons_self ..))]; rfl
theorem setOf_wid (r : BRow) (i : Int) (x : PV) (k : BRow → PV) (hk : ∀ r, (k r).wid = 1) : (setOf r i x k).wid = 1 := by
  unfold setOf; split
  · exact hk _
  · rfl
theorem wid_laid (t : Nat) (i : Int) (x y : PV) (hl : y.leaf = true) : (laidV t i x y).wid = y.wid := by
  cases y with
  | row nl r u => show PV.wid (bif Nat.beq u t then setOf r i x (fun r' => .row nl r' u) else .row nl r u) = _; cases Nat.beq u t <;> first | rfl | exact setOf_wid _ _ _ _ fun _ => rfl
  | ep r u j => show PV.wid (bif Nat.beq u t then setOf r i x (fun r' => .ep r' u j) else .ep r u j) = _; cases Nat.beq u t <;> first | rfl | exact setOf_wid _ _ _ _ fun _ => rfl
  | vec nl sz l u => show PV.wid (bif Nat.beq u t then .undef else .vec nl sz l u) = _; cases Nat.beq u t <;> rfl
  | epv sz l u j off => show PV.wid (bif Nat.beq u t then .undef else .epv sz l u j off) = _; cases Nat.beq u t <;> rfl
  | _ => first | rfl | cases hl
/-- A marked row that begins its block, one of its cells written. -/
theorem At.laid {w' : World} {t i b o cap : Nat} {cs : List Value} {v : Value} {xs : Array Value} {e : TypeId} {fz : Nat × Nat} (hb : G.τ t = some b) (h6 : w.heap[b]? = some (.cells xs e fz)) (h7 : w'.heap[b]? = some (.cells (setA xs i [v]) e fz)) (hi : i < xs.size)
    (ht : t ≠ 0) (h : At G w t 1 b o cap cs) : At G w' t 1 b o cap (cs.set i v) := by
  rcases h with ⟨h1, -⟩ | ⟨h1, h2, h3, xs', e', fz', h4, ⟨h0, h5⟩, h5'⟩
  · exact absurd h1 ht
  · rw [h6] at h4; injection h4 with h4; injection h4 with e1 e2 e3; subst e1; subst e2; subst e3
    have hs : (setA xs i [v]).size = xs.size := setA_size _ _ _ (by simp; omega)
    refine .inr ⟨h1, h2, fun j c hj => ?_, _, _, _, h7, ⟨h0, by rw [hs]; exact h5⟩, by rw [hs]; exact h5'⟩
    subst h0
    unfold World.cell?
    rw [h7]
    show (setA xs i [v])[0 + j]? = some c
    rw [← Array.getElem?_toList, setA_over _ _ _ (by simp; omega), Nat.zero_add]
    have hset : overL xs.toList i [v] = xs.toList.set i v := (set_over (by simpa using hi)).symm
    rw [hset, List.getElem?_set]
    rw [List.getElem?_set] at hj
    have old : ∀ c, cs[j]? = some c → xs.toList[j]? = some c := fun c hc => by
      have := h3 j c hc
      unfold World.cell? at this
      rw [h6] at this
      have h5 : xs[0 + j]? = some c := this
      rw [Nat.zero_add] at h5
      rw [Array.getElem?_toList]; exact h5
    split
    · rename_i hij
      rw [if_pos hij] at hj
      split at hj
      · rw [if_pos (by simpa using hi)]; exact hj
      · cases hj
    · rename_i hij
      rw [if_neg hij] at hj
      exact old c hj
theorem laid_ok {w' : World} {t b : Nat} {z : Int} {x : PV} {v : Value} {xs : Array Value} {e : TypeId} {fz : Nat × Nat} (hi : Inv cx G lh w) (hb : G.τ t = some b) (h6 : w.heap[b]? = some (.cells xs e fz)) (h7 : w'.heap[b]? = some (.cells (setA xs z.toNat [v]) e fz)) (hz : z.toNat < xs.size)
    (h1 : w'.os = w.os) (h2 : w'.tape = w.tape) (h3 : w'.output = w.output) (h4 : w'.heap.size = w.heap.size) (h5 : ∀ k, k ≠ b → w'.heap[k]? = w.heap[k]?) (ho : okU x) (hx : Rep x G w v) :
    Turns cx G w (some (laidV t z x)) (turnB (laidV t z x) lh) G w' := by
  obtain ⟨ht, hlt, hF0, hown⟩ := hi.mark t b hb
  have vals : ∀ {r r' : BRow}, r.set z x = some r' → r'.vals = r.vals.set z.toNat v ∧ r'.len = r.len := fun {r r'} hr => by
    have hok : r.okAt x := by
      have hr0 := hr
      unfold BRow.set at hr0
      split at hr0
      · exact ho
      · trivial
      · trivial
      · cases hr0
    have := (set_vals hr hok hx).1
    exact ⟨this, by rw [BRow.len_eq, BRow.len_eq, this, List.length_set]⟩
  have other : ∀ {u sz b' o cap : Nat} {cs : List Value}, Nat.beq u t = false → At G w u sz b' o cap cs → At G w' u sz b' o cap cs := fun {u sz b' o cap cs} hu h => by
    rcases h with h | ⟨q1, q2, q3, ys, e', fz', q4, q5⟩
    · exact .inl h
    · have hne : b' ≠ b := fun he => by
        subst he
        have := hi.injτ u t _ q2 hb
        subst this
        rw [Nat.beq_refl] at hu; cases hu
      exact .inr ⟨q1, q2, fun i c hc => by rw [World.cell?_of_block (w := w) (a := ⟨b', o + i, none⟩) (h5 b' hne)]; exact q3 i c hc, ys, e', fz', by rw [h5 b' hne]; exact q4, q5⟩
  have leaf : ∀ y q, y.leaf = true → Rep y G w q → Rep (laidV t z x y) G w' q := fun y q hl h => by
    cases y with
    | undef => trivial
    | int k z => exact h
    | bool b => exact h
    | str l => exact h
    | raw u => exact h
    | arr n r => exact h
    | agg l => cases hl
    | tup l => cases hl
    | fn g a b => cases hl
    | ptr n off => exact h
    | pix n off i => exact h
    | asl n off lo len => exact h
    | gp g off => exact h
    | gix g off i => exact h
    | row nl r u =>
      show Rep (bif Nat.beq u t then setOf r z x (fun r' => .row nl r' u) else .row nl r u) G w' q
      cases hu : Nat.beq u t with
      | false =>
        rcases (show Sl G w nl u 1 r.vals q from h) with h | ⟨g1, b', o, cap, g2, g3, g4⟩
        · exact .inl h
        · exact .inr ⟨g1, b', o, cap, g2, g3, other hu g4⟩
      | true =>
        have := Nat.eq_of_beq_eq_true hu
        subst this
        show Rep (setOf r z x _) G w' q
        unfold setOf
        split
        · rename_i r' hr
          obtain ⟨v1, v2⟩ := vals hr
          show Sl G w' nl u 1 r'.vals q
          rw [v1]
          rcases (show Sl G w nl u 1 r.vals q from h) with ⟨g1, g2, g3⟩ | ⟨g1, b', o, cap, g2, g3, g4⟩
          · exact .inl ⟨g1, by rw [g2]; rfl, g3⟩
          · have hbb : b' = b := by
              rcases g4 with ⟨h, -⟩ | ⟨-, h, -⟩
              · exact absurd h ht
              · rw [hb] at h; injection h with h; exact h.symm
            subst hbb
            refine .inr ⟨g1, b', o, cap, by rw [List.length_set]; exact g2, by rw [List.length_set]; exact g3, ?_⟩
            rw [flat_vals (vals_flat r)] at g4
            rw [flat_vals (fun u hu => by
              rcases List.mem_or_eq_of_mem_set hu with h | h
              · exact vals_flat r u h
              · rw [h]; exact set_flat hr hx)]
            exact At.laid hb h6 h7 hz ht g4
        · trivial
    | ep r u j =>
      show Rep (bif Nat.beq u t then setOf r z x (fun r' => .ep r' u j) else .ep r u j) G w' q
      obtain ⟨b', o, cap, g1, g2, g3, g4⟩ := h
      cases hu : Nat.beq u t with
      | false => exact ⟨b', o, cap, g1, g2, g3, other hu g4⟩
      | true =>
        have := Nat.eq_of_beq_eq_true hu
        subst this
        show Rep (setOf r z x _) G w' q
        unfold setOf
        split
        · rename_i r' hr
          obtain ⟨v1, v2⟩ := vals hr
          have hbb : b' = b := by
            rcases g4 with ⟨h, -⟩ | ⟨-, h, -⟩
            · exact absurd h ht
            · rw [hb] at h; injection h with h; exact h.symm
          subst hbb
          refine ⟨b', o, cap, g1, g2, by rw [v2]; exact g3, ?_⟩
          rw [v1]
          exact At.laid hb h6 h7 hz ht g4
        · trivial
    | vec nl sz l u =>
      show Rep (bif Nat.beq u t then .undef else .vec nl sz l u) G w' q
      cases hu : Nat.beq u t with
      | true => trivial
      | false =>
        obtain ⟨us, k1, k2, k3⟩ := h
        refine ⟨us, RepL'.deep (G := G) (G' := G) (FLe.refl _) k1, k2, ?_⟩
        rcases k3 with h | ⟨g1, b', o, cap, g2, g3, g4⟩
        · exact .inl h
        · exact .inr ⟨g1, b', o, cap, g2, g3, other hu g4⟩
    | epv sz l u j off =>
      show Rep (bif Nat.beq u t then .undef else .epv sz l u j off) G w' q
      cases hu : Nat.beq u t with
      | true => trivial
      | false =>
        obtain ⟨b', o, cap, us, g1, g2, g3, g4, g5, g6⟩ := h
        exact ⟨b', o, cap, us, g1, g2, g3, RepL'.deep (G := G) (G' := G) (FLe.refl _) g4, g5, other hu g6⟩
  have hr : ∀ y q, Rep y G w q → Rep (y.mapL (laidV t z x)) G w' q := fun y q hy => Rep.map leaf (wid_laid t z x) hy
  refine ⟨⟨fun b' o u hu => ?_, hi.base, hi.ext, fun k y hy => ?_, fun k b' hk => ?_, fun s b' hs => ?_, hi.injσ, hi.injτ, hi.disj, hi.par, hi.kept.step h1 h2 h3 (Nat.le_of_eq h4.symm) (fun k hk hno => h5 k (fun he => hno (by rw [he]; exact hown)))⟩, hr, FLe.refl _⟩
  · have := hi.fits b' o u hu
    have hne : b' ≠ b := fun he => by rw [he, hF0] at hu; cases hu
    rw [World.cell?_of_block (w := w) (a := ⟨b', o, none⟩) (h5 b' hne)]; exact this
  · rw [getN_turn] at hy
    cases hg : getN k lh with
    | none => rw [hg] at hy; cases hy
    | some c =>
      rw [hg] at hy; injection hy with hy; subst hy
      obtain ⟨b', q1, u', e', fz', q2, q3, q4, q5, q6⟩ := hi.box k c hg
      refine ⟨b', q1, u', e', fz', ?_, q3, hr _ _ q4, by rw [PV.wid_map (wid_laid t z x)]; exact q5, q6⟩
      rw [h5 b' (fun he => hi.disj k t b' q1 (by rw [he]; exact hb))]; exact q2
  · obtain ⟨⟨y, hy⟩, q2, q3⟩ := hi.boxF k b' hk
    exact ⟨⟨y.mapL (laidV t z x), by rw [getN_turn, hy]; rfl⟩, q2, q3⟩
  · obtain ⟨q1, q2, q3⟩ := hi.mark s b' hs
    exact ⟨q1, by rw [h4]; exact q2, q3⟩
/-- What an operation's result says, if what it asks holds. -/
def OpS.Is (s : OpS) (v : PV) (f : Option (PV → PV)) (lh lh' : List (Nat × PV)) : Prop := match s with
  | .val x => x = v ∧ f = none ∧ lh' = lh
  | .vneed p x => p ∧ x = v ∧ f = none ∧ lh' = lh
  | .ok x g l => x = v ∧ g = f ∧ l = lh'
  | .need p x g l => p ∧ x = v ∧ g = f ∧ l = lh'
  | .bad _ => False
theorem store_ok {t : TypeId} {x y v : PV} {f : Option (PV → PV)} {lh' : List (Nat × PV)} {a b : Value} (hi : Inv cx G lh w) (h : (storeS P t x y lh).Is v f lh lh') (ha : Rep x G w a) (hb : Rep y G w b) :
    ∃ w', (Instr.storeAt t a b).run P w = .ok () w' ∧ Turns cx G w f lh' G w' ∧ v = .tup [] := by
  unfold storeS at h
  split at h
  · rename_i n off
    split at h
    · rename_i c hc
      split at h
      · rename_i c' hk hs
        obtain ⟨rfl, rfl, rfl⟩ := h
        simp only [Bool.and_eq_true] at hk
        obtain ⟨⟨⟨k1, k2⟩, k3⟩, k4⟩ := hk
        have fy : Full (typed P t 0 y) G w b := Full.fit (typed_ok hb) (typed_fit k2)
        obtain ⟨bk, h1, rfl⟩ := ha
        obtain ⟨b', h2, u, e, fz, h3, h4, h5, h6, h7⟩ := hi.box n c hc
        rw [h1] at h2; injection h2 with h2; subst h2
        obtain ⟨u', q1, q2, q3, -⟩ := setAt_ok fy (fit_of k4).2 ⟨h5, h6, h7⟩ hs
        have hvs : b.cells.size = sizeT P t := by rw [fy.wid]; exact Nat.eq_of_beq_eq_true k1
        refine ⟨_, ?_, written hi hc h1 h3 h4 q1 q2 (by simpa using q3), rfl⟩
        unfold Instr.storeAt storeVar
        simp only [Sem.run_bind, Instr.sureAddr, Sem.run_pure, Result.andThen_ok, run_size k3]
        rw [if_neg (by omega)]
        exact store_run h3 h4 (by simpa using q3) (fun q hq => fy.flat q hq)
      · exact h.elim
    · exact h.elim
  · rename_i n off z
    split at h
    · rename_i c hc
      split at h
      · rename_i m r hr
        split at h
        · rename_i r' hct hs
          split at h
          · rename_i c' hp
            obtain ⟨⟨hz, ho⟩, rfl, rfl, rfl⟩ := h
            obtain ⟨h0, bk, h1, rfl⟩ := ha
            obtain ⟨b', h2, u, e, fz, h3, h4, h5, h6, h7⟩ := hi.box n c hc
            rw [h1] at h2; injection h2 with h2; subst h2
            obtain ⟨k1, -⟩ := arrAt_ok ⟨h5, h6, h7⟩ hr
            obtain ⟨g1, g2, g3⟩ := set_vals hs ho hb
            have hlt : z.toNat < r.vals.length := by unfold within at hz; omega
            obtain ⟨u', q1, q2, q3⟩ := putArr_ok g1 g2 hlt ⟨h5, h6, h7⟩ hr hp
            obtain ⟨c1, c2, c3⟩ := cellT_of hct
            refine ⟨_, ?_, written hi hc h1 h3 h4 q1 q2 (by simpa using q3), rfl⟩
            unfold Instr.storeAt storeVar
            simp only [Sem.run_bind, Instr.sureAddr, Sem.run_pure, Result.andThen_ok, run_size c1, c2, cells_one g2]
            rw [if_neg (by simp)]
            exact store_run h3 h4 (by simpa using q3) (fun q hq => by
              have : q = b := by simpa using hq
              rw [this]; exact g2)
          · exact h.elim
        · exact h.elim
      · exact h.elim
    · exact h.elim
  · rename_i r u0 z
    split at h
    · rename_i u r' hct hs
      obtain ⟨ho, rfl, rfl, rfl⟩ := h
      obtain ⟨bk, o, cap, rfl, h0, hzl, hat⟩ := ha
      rcases hat with ⟨hu, -⟩ | ⟨hu, hτ, hcell, xs, e, fz, hbk, ⟨rfl, hsz⟩, hclr⟩
      · cases hu
      obtain ⟨c1, c2, c3⟩ := cellT_of hct
      have hzt : z.toNat < r.vals.length := by rw [BRow.len_eq] at hzl; omega
      have hzx : z.toNat < xs.size := by
        have h5 := hcell z.toNat _ (List.getElem?_eq_getElem hzt)
        unfold World.cell? at h5
        rw [hbk] at h5
        have h6 : xs[0 + z.toNat]? = some _ := h5
        have := (Array.getElem?_eq_some_iff.1 h6).1
        omega
      have hfl : flatV b = true := set_flat hs hb
      have hnew := setCells_heap [b] z.toNat w bk xs e fz hbk
      refine ⟨w.setCells bk z.toNat [b], ?_, laid_ok hi hτ hbk hnew hzx (World.os_setCells ..) (setCells_tape ..) (World.output_setCells ..) (setCells_size ..) (fun k hk => setCells_other w bk _ _ k hk) ho hb, rfl⟩
      unfold Instr.storeAt storeVar
      simp only [Sem.run_bind, Instr.sureAddr, Sem.run_pure, Result.andThen_ok, run_size c1, c2, cells_one hfl]
      rw [if_neg (by simp), Nat.zero_add]
      exact store_run hbk hclr (by simp; omega) (fun q hq => by
        have : q = b := by simpa using hq
        rw [this]; exact hfl)
    · exact h.elim
  · exact h.elim
end Go.Vc


/- A calculus of Go's functions by their values: rows that grow, new rows, conversions that ask memory. -/
namespace Go.Vc
open Go.RowKit
variable {P : Program} {cx : Cx} {G : Gh} {lh : List (Nat × PV)} {w : World}

def goM (new : Bool) (t : Nat) : Nat → Option Nat := match new with | true => stillF t | false => killF t
theorem goF_eq (new : Bool) (t : Nat) : goF new t = PV.mark1 (goM new t) := rfl
theorem goM_ok {new : Bool} {t : Nat} (ht : t ≠ 0) : MarkF (goM new t) ∧ goM new t t ≠ some t := by
  cases new with
  | true =>
    refine ⟨stillF_ok t, ?_⟩
    show some (bif Nat.beq t t then 0 else t) ≠ some t
    rw [Nat.beq_refl]
    intro e
    injection e with e
    exact ht e.symm
  | false =>
    refine ⟨killF_ok ht, ?_⟩
    show (bif Nat.beq t t then none else some t) ≠ some t
    rw [Nat.beq_refl]
    intro e
    cases e
theorem goOn_ok {nl : Bool} {t : Nat} {d : Option Tmp} {t' : Nat} {new : Bool} (h : goOn nl t d = some (t', new)) : t' ≠ 0 ∧ ((t ≠ 0 ∧ t' = t ∧ new = false) ∨ (t = 0 ∧ nl = true)) := by
  unfold goOn at h
  split at h
  · injection h with h; injection h with h1 h2; subst h1; subst h2
    exact ⟨Nat.succ_ne_zero _, .inl ⟨Nat.succ_ne_zero _, rfl, rfl⟩⟩
  · split at h
    · rw [Option.map_eq_some_iff] at h
      obtain ⟨n, hn, h⟩ := h
      injection h with h1 h2; subst h1
      have := nameOf_ge hn
      exact ⟨by omega, .inr ⟨rfl, rfl⟩⟩
    · cases h
/-- A row in a new block, beneath a mark. -/
theorem grown_ok {f : Nat → Option Nat} {t' : Nat} {w' : World} {xs : Array Value} {e : TypeId} {fz : Nat × Nat} (hi : Inv cx G lh w) (hf : MarkF f) (hft : f t' ≠ some t') (ht : t' ≠ 0) (hh : w'.heap = w.heap.push (.cells xs e fz)) (h1 : w'.os = w.os) (h2 : w'.tape = w.tape) (h3 : w'.output = w.output)
    (hz : Clear fz xs.size) {sz cap : Nat} {us : List Value} (hcap : cap * sz ≤ xs.size) (hus : us.length ≤ cap) (hc : ∀ (i : Nat) (c : Value), (us.flatMap fun u => u.cells.toList)[i]? = some c → xs[i]? = some c) :
    Turns cx G w (some (PV.mark1 f)) (turnB (PV.mark1 f) lh) (G.turn w f (some (t', w.heap.size))) w' ∧ Sl (G.turn w f (some (t', w.heap.size))) w' false t' sz us (.slice (some ⟨w.heap.size, 0, none⟩) us.length cap) := by
  have hnew : w'.heap[w.heap.size]? = some (.cells xs e fz) := by rw [hh]; simp
  obtain ⟨s1, s2⟩ := hi.turn (w' := w') hf (some (t', w.heap.size)) h1 h2 h3 (by rw [hh]; simp) (fun k hk _ => by rw [hh, Array.getElem?_push, if_neg (by omega)])
    (fun t b e => by injection e with e; injection e with e1 e2; subst e1; subst e2; exact ⟨ht, by rw [hh]; simp, hft, .inl (Nat.le_refl _)⟩)
  refine ⟨⟨s1, s2, hi.turn_le _ _⟩, .inr ⟨rfl, w.heap.size, 0, cap, rfl, hus, .inr ⟨ht, ?_, fun i c hi => ?_, xs, e, fz, hnew, by omega, hz⟩⟩⟩
  · show (if (some (t', w.heap.size)).map (·.1) = some t' then (some (t', w.heap.size)).map (·.2) else (match f t' with | some (u + 1) => G.τ t' | _ => none)) = _
    exact if_pos rfl
  · unfold World.cell?
    rw [hnew]
    have := hc i c hi
    simpa using this
theorem flat_len {us : List Value} {sz : Nat} (hw : ∀ u ∈ us, u.cells.size = sz) : (us.flatMap fun u => u.cells.toList).length = us.length * sz := by
  induction us with
  | nil => simp
  | cons u us ih =>
    rw [List.flatMap_cons, List.length_append, ih (fun v hv => hw v (List.mem_cons_of_mem _ hv)), List.length_cons, Nat.succ_mul, Array.length_toList, hw u (List.mem_cons_self ..)]
    omega
theorem elemOk_of {e : TypeId} {sz : Nat} (h : elemOk P e sz = true) : hasT P e = true ∧ sizeT P e = sz ∧ ∃ i z, P.info? e = some i ∧ i.zero = some z ∧ i.size = sz ∧ z.cells.size = sz ∧ i.bytes ≤ 65536 ∧ (∀ G w, Full (zeroV P 5 e 0) G w z) := by
  unfold elemOk at h
  simp only [Bool.and_eq_true] at h
  obtain ⟨⟨⟨h1, h2⟩, h3⟩, h4⟩ := h
  have e2 := Nat.eq_of_beq_eq_true h2
  obtain ⟨i, z, hi, hz, f, hw, -⟩ := zero_ok h3
  have hs : i.size = sz := by unfold sizeT at e2; rw [hi] at e2; exact e2
  refine ⟨h1, e2, i, z, hi, hz, hs, ?_, ?_, f⟩
  · rw [(f ⟨fun _ => none, fun _ => none, fun _ _ => none⟩ ⟨default, default, default, default, default⟩).wid, hw, hs]
  · unfold bytesT at h4; rw [hi] at h4; exact Nat.le_of_ble_eq_true h4
theorem zeroCells_len (z : Array Value) (n : Nat) : (Builtin.zeroCells z n).size = n * z.size := by simp [Builtin.zeroCells]
theorem append_sl {t tx ty e : TypeId} {sz : Nat} (hd : P.underlying t = some (.slice e)) (hel : elemOk P e sz = true) (hi : Inv cx G lh w) {nl : Bool} {tk : Nat} {us qs : List Value} {v y : Value} {d : Option Tmp} {t' : Nat} {new : Bool}
    (hs : Sl G w nl tk sz us v) (hw : wideL sz us) (hsrc : Src P sz tx y qs.length (qs.flatMap fun u => u.cells.toList) w) (hq : wideL sz qs) (hg : goOn nl tk d = some (t', new)) (hlen : us.length + qs.length ≤ 16777216) :
    ∃ u G' w', (Builtin.append_ #[t, tx] ty #[v, y]).run P w = .ok u w' ∧ Turns cx G w (some (goF new t')) (turnB (goF new t') lh) G' w' ∧ Sl G' w' (bif qs.isEmpty then nl else false) t' sz (us ++ qs) u := by
  obtain ⟨ht, hcase⟩ := goOn_ok hg
  obtain ⟨mf, mft⟩ := goM_ok (new := new) ht
  obtain ⟨e1, e2, i, z, hi1, hz1, hs1, hzs, hby, -⟩ := elemOk_of hel
  subst hs1
  have huw : ∀ u ∈ us ++ qs, u.cells.size = i.size := fun u hu => (List.mem_append.1 hu).elim (fun h => (hw u h).1) (fun h => (hq u h).1)
  have fl : (us ++ qs).flatMap (fun u => u.cells.toList) = (us.flatMap fun u => u.cells.toList) ++ qs.flatMap fun u => u.cells.toList := by rw [List.flatMap_append]
  have hul := flat_len (fun u hu => (hw u hu).1)
  have hql := flat_len (fun u hu => (hq u hu).1)
  have grow : ∀ (base : Option Addr) (cap : Nat), (Builtin.firstCells i.size us.length (.slice base us.length cap)).run P w.drew = .ok (us.flatMap fun u => u.cells.toList).toArray w.drew → cap < us.length + qs.length →
      ∃ u G' w', (Builtin.append_ #[t, tx] ty #[.slice base us.length cap, y]).run P w = .ok u w' ∧ Turns cx G w (some (goF new t')) (turnB (goF new t') lh) G' w' ∧ Sl G' w' false t' i.size (us ++ qs) u := by
    intro base cap hold hcap
    have hfit : Builtin.nextslicecap (us.length + qs.length) cap * i.bytes ≤ 281474976710656 := growslice_fits hcap (by
      have : (us.length + qs.length) * i.bytes ≤ 16777216 * 65536 := Nat.mul_le_mul hlen hby
      omega)
    have hrun := run_append_grow_src (P := P) w t tx ty e i z hd hi1 hz1 base us.length cap _ hold y qs.length _ hsrc hcap (by omega) hfit
    have hge := grownCap_ge w (us.length + qs.length) cap e
    obtain ⟨s1, s2⟩ := grown_ok (w' := w.drew.alloc (.cells ((((us.flatMap fun u => u.cells.toList) ++ qs.flatMap fun u => u.cells.toList)).toArray ++ Builtin.zeroCells z.cells (grownCap w (us.length + qs.length) cap e - (us.length + qs.length))) e)) (us := us ++ qs) (sz := i.size) (cap := grownCap w (us.length + qs.length) cap e) hi mf mft ht rfl rfl rfl rfl (fun j hj hh => by have := hh.2; simp at this)
      (by
        rw [Array.size_append, List.size_toArray, zeroCells_len, hzs, List.length_append, hul, hql, ← Nat.add_mul, ← Nat.add_mul]
        exact Nat.le_of_eq (by congr 1; omega)) (by rw [List.length_append]; exact hge) (fun j c hj => by
        rw [fl] at hj
        have hlt := (List.getElem?_eq_some_iff.1 hj).1
        rw [Array.getElem?_append_left (by simpa using hlt)]
        simpa using hj)
    refine ⟨_, _, _, hrun, s1, ?_⟩
    rw [List.length_append] at s2
    exact s2
  rcases hs with ⟨rfl, rfl, rfl⟩ | ⟨rfl, b, o, cap, rfl, hc, hat⟩
  · cases qs with
    | nil =>
      obtain ⟨s1, s2⟩ := hi.turn (w' := w) mf none rfl rfl rfl (Nat.le_refl _) (fun _ _ _ => rfl) (fun t b e => by cases e)
      exact ⟨_, _, w, run_append_nothing (P := P) w t tx ty e i hd hi1 none 0 0 (Nat.le_refl _) y hsrc, ⟨s1, s2, hi.turn_le _ _⟩, .inl ⟨rfl, rfl, rfl⟩⟩
    | cons q qs => exact grow none 0 (by simp [Builtin.firstCells]) (by simp)
  · obtain ⟨h0, rfl, rfl⟩ : tk ≠ 0 ∧ t' = tk ∧ new = false := by
      rcases hcase with h | ⟨-, h⟩
      · exact h
      · cases h
    have hnl : (bif qs.isEmpty then false else false) = false := by cases qs.isEmpty <;> rfl
    rw [hnl]
    rcases hat with ⟨h, -⟩ | ⟨-, hτ, hcell, xs, e', fz, hb, hsz, hclr⟩
    · exact absurd h h0
    · by_cases hroom : us.length + qs.length ≤ cap
      · have hle : o + us.length * i.size + (qs.flatMap fun u => u.cells.toList).length ≤ xs.size := by
          rw [hql]
          have : (us.length + qs.length) * i.size ≤ cap * i.size := Nat.mul_le_mul_right _ hroom
          rw [Nat.add_mul] at this
          omega
        have hrun := run_append_room_src (P := P) w t tx ty e i hd hi1 b o us.length cap y qs.length _ hsrc hroom (fun j hj => by
          unfold World.cell?; rw [hb]
          show (xs[o + us.length * i.size + j]?).isSome = true
          rw [Array.getElem?_eq_getElem (by omega)]; rfl) (fun j hj => by
          unfold World.frozen?; rw [hb]
          have := hclr (o + us.length * i.size + j) (by omega)
          simp only [Bool.and_eq_false_iff, decide_eq_false_iff_not]
          omega)
        have hkill : killF t' t' = none := by unfold killF; rw [Nat.beq_refl]; rfl
        have hblt : b < w.heap.size := (Array.getElem?_eq_some_iff.1 hb).1
        obtain ⟨s1, s2⟩ := hi.turn (w' := w.setCells b (o + us.length * i.size) (qs.flatMap fun u => u.cells.toList)) (f := killF t') mf (some (t', b)) (World.os_setCells ..) (setCells_tape ..) (World.output_setCells ..) (by rw [setCells_size]; exact Nat.le_refl _)
          (fun k hk hne => setCells_other w b _ _ k (fun e => hne t' h0 hkill rfl (by rw [e]; exact hτ)))
          (fun t b' e => by injection e with e; injection e with e1 e2; subst e1; subst e2; exact ⟨h0, by rw [setCells_size]; exact hblt, (by rw [hkill]; intro e; cases e), .inr ⟨hτ, hkill⟩⟩)
        have hnew := setCells_heap (qs.flatMap fun u => u.cells.toList) (o + us.length * i.size) w b xs e' fz hb
        refine ⟨_, _, _, hrun, ⟨s1, s2, hi.turn_le _ _⟩, .inr ⟨rfl, b, o, cap, by rw [List.length_append], by rw [List.length_append]; exact hroom, .inr ⟨h0, ?_, fun j c hj => ?_, _, e', fz, hnew, by rw [setA_size _ _ _ hle]; exact hsz, fun j hj => hclr j (by rw [setA_size _ _ _ hle] at hj; exact hj)⟩⟩⟩
        · show (if (some (t', b)).map (·.1) = some t' then (some (t', b)).map (·.2) else (match killF t' t' with | some (u + 1) => G.τ t' | _ => none)) = _
          exact if_pos rfl
        · rw [fl] at hj
          unfold World.cell?
          rw [hnew]
          show (setA xs (o + us.length * i.size) _)[o + j]? = some c
          rw [← Array.getElem?_toList, setA_over _ _ _ hle]
          unfold overL
          by_cases hju : j < (us.flatMap fun u => u.cells.toList).length
          · have hju' : j < us.length * i.size := Nat.lt_of_lt_of_eq hju hul
            rw [List.getElem?_append_left hju] at hj
            have := hcell j c hj
            unfold World.cell? at this
            rw [hb] at this
            have h5 : xs[o + j]? = some c := by simpa using this
            have h6 : o + j < xs.size := (Array.getElem?_eq_some_iff.1 h5).1
            have h7 : o + j < (xs.toList.take (o + us.length * i.size)).length := by have hx : xs.toList.length = xs.size := Array.length_toList; rw [List.length_take]; omega
            rw [List.append_assoc, List.getElem?_append_left h7, List.getElem?_take, if_pos (by omega), Array.getElem?_toList]
            exact h5
          · have hju' : us.length * i.size ≤ j := by have := Nat.le_of_not_lt hju; exact Nat.le_trans (Nat.le_of_eq hul.symm) this
            rw [List.getElem?_append_right (by omega), hul] at hj
            have hlt := (List.getElem?_eq_some_iff.1 hj).1
            have h6 : (xs.toList.take (o + us.length * i.size)).length = o + us.length * i.size := by have hx : xs.toList.length = xs.size := Array.length_toList; rw [List.length_take]; omega
            rw [List.getElem?_append_left (by rw [List.length_append, h6]; omega), List.getElem?_append_right (by rw [h6]; omega), h6]
            rw [← hj]
            congr 1
            omega
      · exact grow (some ⟨b, o, none⟩) cap (run_firstCells_some w.drew i.size us.length ⟨b, o, none⟩ us.length cap _ hul (fun j c hj => by
          rw [Addr.add_lit]
          have := hcell j c hj
          simpa using this)) (by omega)
/-- What is appended, as a row is. -/
theorem src_row (hi : Inv cx G lh w) {tx : TypeId} (htx : srcTy P tx = true) {y : PV} {q : BRow} {u : Value} (h : srcRow y = some q) (hu : Rep y G w u) : Src P 1 tx u q.vals.length (q.vals.flatMap fun u => u.cells.toList) w := by
  have hk : (∃ e', P.underlying tx = some (.slice e')) ∨ P.underlying tx = some .string := by
    unfold srcTy at htx
    split at htx
    · rename_i e hd; exact .inl ⟨e, hd⟩
    · rename_i hd; exact .inr hd
    · cases htx
  have hfl : (q.vals.flatMap fun u => u.cells.toList) = q.vals := by
    have h3 : ∀ l : List Value, (∀ u ∈ l, flatV u = true) → (l.flatMap fun u => u.cells.toList) = l := by
      intro l hl
      induction l with
      | nil => rfl
      | cons u l ih => rw [List.flatMap_cons, ih (fun v hv => hl v (List.mem_cons_of_mem _ hv)), cells_one (hl u (List.mem_cons_self ..))]; rfl
    exact h3 _ (vals_flat q)
  rw [hfl]
  unfold srcRow at h
  split at h
  · rename_i l
    injection h with h; subst h
    rw [show u = _ from hu]
    have e1 : (byteCells ⟨l.toArray⟩) = (BRow.bytes l).vals := by simp [byteCells, BRow.vals]
    have e2 : (BRow.bytes l).vals.length = (⟨l.toArray⟩ : ByteArray).size := by simp [BRow.vals, ByteArray.size]
    rw [e2, ← e1]
    exact ⟨hk, fun _ => rfl, firstCells_string _ w, firstCells_string _ w.drew, by rw [byteCells_length, Nat.mul_one], fun u hu => by
      obtain ⟨_, _, rfl⟩ := List.mem_map.1 hu
      rfl⟩
  · rename_i nl r t
    injection h with h; subst h
    rcases (show Sl G w nl t 1 r.vals u from hu) with ⟨-, hv, rfl⟩ | ⟨-, b, o, cap, rfl, h2, h3⟩
    · rw [hv]
      exact ⟨hk, fun _ => rfl, run_firstCells_none w 1 0 0 0, run_firstCells_none w.drew 1 0 0 0, rfl, fun _ h => by cases h⟩
    · have hc : ∀ j c, r.vals[j]? = some c → w.cell? ((⟨b, o, none⟩ : Addr).add j) = some c := fun j c hj => by
        rw [Addr.add_lit]
        rw [hfl] at h3
        exact h3.cell hi hj
      exact ⟨hk, fun _ => rfl, run_firstCells_some w 1 _ _ _ _ _ (by simp) hc, run_firstCells_some w.drew 1 _ _ _ _ _ (by simp) (by simpa using hc), by simp, vals_flat r⟩
  · cases h
theorem app_vals {r q r' : BRow} (h : r.app q = some r') : r'.vals = r.vals ++ q.vals := by
  unfold BRow.app at h
  split at h
  · injection h with h; subst h; simp [BRow.vals]
  · injection h with h; subst h; simp [BRow.vals]
  · split at h
    · rename_i hk
      have := sameKind_eq hk; subst this
      injection h with h; subst h; simp [BRow.vals]
    · cases h
  · cases h
theorem none_vals (r : BRow) : r.none? = r.vals.isEmpty := by
  cases r <;> (rename_i l; cases l <;> rfl)
theorem RepL'.append {l m : List PV} {us vs : List Value} (h : RepL' l G w us) (h' : RepL' m G w vs) : RepL' (l ++ m) G w (us ++ vs) := by
  induction l generalizing us with
  | nil => rw [show us = [] from h]; exact h'
  | cons x l ih =>
    obtain ⟨u, us', rfl, h1, h2⟩ := h
    exact ⟨u, us' ++ vs, rfl, h1, ih h2⟩
theorem vals_wide (r : BRow) : wideL 1 r.vals := fun u hu => ⟨vals_one r u hu, fun c hc => by
  have hf := vals_flat r u hu
  rw [cells_one hf] at hc
  have : c = u := by simpa using hc
  rw [this]; exact hf⟩
theorem append_any {ts : Array TypeId} {t tx ty : TypeId} {s x : Value} (h0 : ts[0]? = some t) (h1 : ts[1]? = some tx) : Builtin.append_ ts ty #[s, x] = Builtin.append_ #[t, tx] ty #[s, x] := by
  unfold Builtin.append_
  rw [h0, h1]
  rfl
theorem append_ok {t tx ty : TypeId} {ts : Array TypeId} (h0 : ts[0]? = some t) (h1 : ts[1]? = some tx) {x y v : PV} {d : Option Tmp} {f : Option (PV → PV)} {lh' : List (Nat × PV)} {a b : Value} (hi : Inv cx G lh w) (h : (appendS P t tx x y d lh).Is v f lh lh') (ha : Rep x G w a) (hb : Rep y G w b) :
    ∃ u G' w', (Builtin.append_ ts ty #[a, b]).run P w = .ok u w' ∧ Turns cx G w f lh' G' w' ∧ Rep v G' w' u := by
  rw [append_any h0 h1]
  unfold appendS at h
  split at h
  · rename_i e nl sz l tk nl2 sz2 q tk2 hd htx
    split at h
    · rename_i t' new hc hg
      obtain ⟨hlen, rfl, rfl, rfl⟩ := h
      rw [Bool.and_eq_true] at hc
      have := Nat.eq_of_beq_eq_true hc.2
      subst this
      obtain ⟨us, g1, g2, g3⟩ := ha
      obtain ⟨vs, k1, k2, k3⟩ := hb
      have l1 := g1.length
      have l2 := k1.length
      have hk : (∃ e', P.underlying tx = some (.slice e')) ∨ P.underlying tx = some .string := by
        unfold srcTy at htx
        split at htx
        · rename_i e hd; exact .inl ⟨e, hd⟩
        · rename_i hd; exact .inr hd
        · cases htx
      have hone : ∀ c ∈ vs.flatMap (fun u => u.cells.toList), flatV c = true := fun c hc => by
        obtain ⟨u, hu, hcu⟩ := List.mem_flatMap.1 hc
        exact (k2 u hu).2 c hcu
      have hvl := flat_len (fun u hu => (k2 u hu).1)
      have hsrc : Src P sz tx b vs.length (vs.flatMap fun u => u.cells.toList) w := by
        rcases k3 with ⟨-, rfl, rfl⟩ | ⟨-, bk, o, cap, rfl, h2, h3⟩
        · exact ⟨hk, fun _ => rfl, run_firstCells_none w sz 0 0 0, run_firstCells_none w.drew sz 0 0 0, by simp, fun _ h => by cases h⟩
        · have hc : ∀ j c, (vs.flatMap fun u => u.cells.toList)[j]? = some c → w.cell? ((⟨bk, o, none⟩ : Addr).add j) = some c := fun j c hj => by
            rw [Addr.add_lit]; exact h3.cell hi hj
          exact ⟨hk, fun _ => rfl, run_firstCells_some w sz _ _ _ _ _ hvl hc, run_firstCells_some w.drew sz _ _ _ _ _ hvl (by simpa using hc), hvl, hone⟩
      obtain ⟨u, G', w', r1, r2, r3⟩ := append_sl (ty := ty) hd hc.1 hi g3 g2 hsrc k2 hg (by
        have : lenZ (l ++ q) ≤ 16777216 := hlen
        unfold lenZ at this
        rw [List.length_append] at this
        omega)
      refine ⟨u, G', w', r1, r2, us ++ vs, ?_, fun u hu => (List.mem_append.1 hu).elim (g2 u) (k2 u), ?_⟩
      · exact RepL'.deep (G := G) (G' := G') r2.le (g1.append k1)
      · have : q.isEmpty = vs.isEmpty := by
          cases q with
          | nil => rw [show vs = [] from k1]; rfl
          | cons x q => obtain ⟨c, cs, rfl, -⟩ := k1; rfl
        rw [this]; exact r3
    · exact h.elim
  · rename_i x0 y0 e nl r tk hd htx
    split at h
    · rename_i q hq
      split at h
      · rename_i r' t' new hc happ hg
        obtain ⟨hlen, rfl, rfl, rfl⟩ := h
        have hv := app_vals happ
        obtain ⟨u, G', w', r1, r2, r3⟩ := append_sl (ty := ty) hd hc hi (show Sl G w nl tk 1 r.vals a from ha) (vals_wide r) (src_row hi htx hq hb) (vals_wide q) hg (by
          have : r'.len ≤ 16777216 := hlen
          rw [BRow.len_eq, hv, List.length_append] at this
          omega)
        refine ⟨u, G', w', r1, r2, ?_⟩
        show Sl G' w' _ t' 1 r'.vals u
        rw [hv, none_vals]; exact r3
      · exact h.elim
    · exact h.elim
  · exact h.elim
end Go.Vc


/- A calculus of Go's functions by their values: new rows, conversions that ask memory. -/
namespace Go.Vc
open Go.RowKit
variable {P : Program} {cx : Cx} {G : Gh} {lh : List (Nat × PV)} {w : World}

theorem append_nil2 {α : Type} {a b : List α} (h : a ++ b = []) : a = [] ∧ b = [] := List.append_eq_nil_iff.1 h
theorem leaf_deepen {y : PV} {v : Value} (hl : y.leaf = true) (h1 : y.tok1 = []) (h2 : y.nam1 = []) (h : Rep y G w v) : Rep y G.deep w v :=
  Rep.leaf_to (G := G) (G' := G.deep) (w := w) (w' := w) hl (FLe.refl _) (fun n hn => by rw [h2] at hn; cases hn) (fun t ht => by rw [h1] at ht; cases ht) h
mutual
/-- What bears no mark and no name hangs on cells that stay alone. -/
theorem Rep.deepen : ∀ {x : PV} {v : Value}, PV.allL PV.tok1 x = [] → PV.allL PV.nam1 x = [] → Rep x G w v → Rep x G.deep w v
  | .agg l, v, h1, h2, h => by
    obtain ⟨us, g1, g2⟩ := h
    exact ⟨us, RepL.deepen h1 h2 g1, g2⟩
  | .tup l, v, h1, h2, h => by
    obtain ⟨us, g1, g2⟩ := h
    exact ⟨us, RepL'.deepen h1 h2 g1, g2⟩
  | .fn g a b, v, h1, h2, h => by
    obtain ⟨us, vs, g1, g2, g3⟩ := h
    obtain ⟨p1, p2⟩ := append_nil2 h1
    obtain ⟨q1, q2⟩ := append_nil2 h2
    exact ⟨us, vs, RepL'.deepen p1 q1 g1, RepL'.deepen p2 q2 g2, g3⟩
  | .undef, v, h1, h2, h => leaf_deepen rfl h1 h2 h
  | .int k z, v, h1, h2, h => leaf_deepen rfl h1 h2 h
  | .bool b, v, h1, h2, h => leaf_deepen rfl h1 h2 h
  | .str l, v, h1, h2, h => leaf_deepen rfl h1 h2 h
  | .raw u, v, h1, h2, h => leaf_deepen rfl h1 h2 h
  | .arr n r, v, h1, h2, h => leaf_deepen rfl h1 h2 h
  | .row nl r t, v, h1, h2, h => leaf_deepen rfl h1 h2 h
  | .vec nl sz l t, v, h1, h2, h => leaf_deepen rfl h1 h2 h
  | .ep r t i, v, h1, h2, h => leaf_deepen rfl h1 h2 h
  | .epv sz l t i off, v, h1, h2, h => leaf_deepen rfl h1 h2 h
  | .ptr n off, v, h1, h2, h => leaf_deepen rfl h1 h2 h
  | .pix n off i, v, h1, h2, h => leaf_deepen rfl h1 h2 h
  | .asl n off lo len, v, h1, h2, h => leaf_deepen rfl h1 h2 h
  | .gp g off, v, h1, h2, h => leaf_deepen rfl h1 h2 h
  | .gix g off i, v, h1, h2, h => leaf_deepen rfl h1 h2 h
theorem RepL.deepen : ∀ {l : List PV} {us : List Value}, PV.allLs PV.tok1 l = [] → PV.allLs PV.nam1 l = [] → RepL l G w us → RepL l G.deep w us
  | [], us, h1, h2, h => h
  | x :: l, us, h1, h2, h => by
    obtain ⟨u, us', rfl, g1, g2, g3, g4⟩ := h
    obtain ⟨p1, p2⟩ := append_nil2 h1
    obtain ⟨q1, q2⟩ := append_nil2 h2
    exact ⟨u, us', rfl, Rep.deepen p1 q1 g1, g2, g3, RepL.deepen p2 q2 g4⟩
theorem RepL'.deepen : ∀ {l : List PV} {us : List Value}, PV.allLs PV.tok1 l = [] → PV.allLs PV.nam1 l = [] → RepL' l G w us → RepL' l G.deep w us
  | [], us, h1, h2, h => h
  | x :: l, us, h1, h2, h => by
    obtain ⟨u, us', rfl, g1, g4⟩ := h
    obtain ⟨p1, p2⟩ := append_nil2 h1
    obtain ⟨q1, q2⟩ := append_nil2 h2
    exact ⟨u, us', rfl, Rep.deepen p1 q1 g1, RepL'.deepen p2 q2 g4⟩
end
/-- A new row that stays as it is. -/
theorem still_row {w' : World} {xs : Array Value} {e : TypeId} {fz : Nat × Nat} (hi : Inv cx G lh w) (hb : Below w.heap.size w w') (hnew : w'.heap[w.heap.size]? = some (.cells xs e fz)) {sz : Nat} {us : List Value} {cap : Nat} (hus : us.length ≤ cap)
    (hc : ∀ (i : Nat) (c : Value), (us.flatMap fun u => u.cells.toList)[i]? = some c → xs[i]? = some c) :
    ∃ G', Turns cx G w none lh G' w' ∧ Sl G' w' false 0 sz us (.slice (some ⟨w.heap.size, 0, none⟩) us.length cap) := by
  obtain ⟨s1, s2⟩ := hi.still_block hb w.heap.size (Nat.le_refl _) (fun o => (us.flatMap fun u => u.cells.toList)[o]?) (fun o u hu => by
    unfold World.cell?; rw [hnew]
    show xs[o]? = some u
    exact hc o u hu)
  refine ⟨_, ⟨s1, s2, fun b o u hu => ?_⟩, .inr ⟨rfl, w.heap.size, 0, cap, rfl, hus, .inl ⟨rfl, fun i c hi => ?_⟩⟩⟩
  · show (if b = w.heap.size then _ else G.F b o) = some u
    rw [if_neg (fun e => by have := cell_lt (hi.fits _ _ _ hu); omega)]; exact hu
  · show (if w.heap.size = w.heap.size then (us.flatMap fun u => u.cells.toList)[0 + i]? else _) = some c
    rw [if_pos rfl, Nat.zero_add]; exact hi
/-- Parts laid one behind the other. -/
theorem fill_line {sz : Nat} : ∀ {ps : List Nat} {vs : List Value} {n : Nat} {cells : Array Value}, inLine ps n = true → ps.length = vs.length → (∀ u ∈ vs, u.cells.size = sz) → cells.size = (n + vs.length) * sz →
    ∃ cells', Instr.fill (fun i => some (i * sz, sz)) cells (ps.zip vs) = some cells' ∧ cells'.toList = cells.toList.take (n * sz) ++ vs.flatMap fun u => u.cells.toList
  | [], [], n, cells, h1, h2, h3, h4 => ⟨cells, by simp [Instr.fill], by
      have : cells.toList.length ≤ n * sz := by simp [h4]
      rw [List.take_of_length_le this]; simp⟩
  | [], _ :: _, n, cells, h1, h2, h3, h4 => by simp at h2
  | _ :: _, [], n, cells, h1, h2, h3, h4 => by simp at h2
  | i :: ps, v :: vs, n, cells, h1, h2, h3, h4 => by
    unfold inLine at h1
    rw [Bool.and_eq_true] at h1
    have := Nat.eq_of_beq_eq_true h1.1
    subst this
    have hv : v.cells.size = sz := h3 v (List.mem_cons_self ..)
    have hle : i * sz + v.cells.toList.length ≤ cells.size := by
      rw [h4, Array.length_toList, hv, List.length_cons, ← Nat.succ_mul]
      exact Nat.mul_le_mul_right _ (by omega)
    have hsz := setA_size v.cells.toList cells (i * sz) hle
    obtain ⟨cells', r1, r2⟩ := fill_line (sz := sz) (ps := ps) (vs := vs) (n := i + 1) (cells := setA cells (i * sz) v.cells.toList) h1.2 (by simpa using h2) (fun u hu => h3 u (List.mem_cons_of_mem _ hu)) (by rw [hsz, h4, List.length_cons]; congr 1; omega)
    refine ⟨cells', ?_, ?_⟩
    · rw [List.zip_cons_cons, Instr.fill]
      dsimp only
      have hle' : ¬ (i * sz + v.cells.size > cells.size) := by simpa using hle
      rw [if_neg (by simp [hv]; rw [hv] at hle'; omega), zipIdx_foldl]
      exact r1
    · rw [r2, setA_over _ _ _ hle]
      unfold overL
      have e1 : (cells.toList.take (i * sz)).length = i * sz := by
        rw [List.length_take, Array.length_toList]; simp at hle; omega
      have e2 : (v.cells.toList).length = sz := by simpa using hv
      have e3 : (cells.toList.take (i * sz) ++ v.cells.toList).length = i * sz + sz := by rw [List.length_append, e1, e2]
      rw [Nat.succ_mul, List.take_append_of_le_length (Nat.le_of_eq e3.symm), List.take_of_length_le (Nat.le_of_eq e3)]
      simp [List.append_assoc]
theorem allB_get {f : PV → Bool} : ∀ {xs : List PV}, allB f xs = true → ∀ x ∈ xs, f x = true
  | [], _, x, hx => by cases hx
  | y :: l, h, x, hx => by
    unfold allB at h
    rw [Bool.and_eq_true] at h
    rcases List.mem_cons.1 hx with rfl | hx
    · exact h.1
    · exact allB_get h.2 x hx
theorem allU8_get : ∀ {xs : List PV}, allU8 xs → ∀ x ∈ xs, inU8 x.asInt
  | [], _, x, hx => by cases hx
  | [y], h, x, hx => by
    have : x = y := by simpa using hx
    subst this; exact h
  | y :: z :: l, h, x, hx => by
    rcases List.mem_cons.1 hx with rfl | hx
    · exact h.1
    · exact allU8_get h.2 x hx
theorem RepL'.map_vals {f : PV → Value} {xs : List PV} {vs : List Value} (h : RepL' xs G w vs) (hf : ∀ x ∈ xs, ∀ v, Rep x G w v → v = f x) : vs = xs.map f := by
  induction xs generalizing vs with
  | nil => exact h
  | cons x l ih =>
    obtain ⟨u, us', rfl, h1, h2⟩ := h
    rw [List.map_cons, hf x (List.mem_cons_self ..) u h1, ih h2 fun y hy => hf y (List.mem_cons_of_mem _ hy)]
theorem typed_tok {t : TypeId} {x : PV} : PV.allL PV.tok1 (typed P t 0 x) = PV.allL PV.tok1 x ∧ PV.allL PV.nam1 (typed P t 0 x) = PV.allL PV.nam1 x := by
  unfold typed
  split
  · split
    · unfold emptyRow
      split <;> exact ⟨rfl, rfl⟩
    · exact ⟨rfl, rfl⟩
  · exact ⟨rfl, rfl⟩
theorem widE_get {e : TypeId} : ∀ {xs : List PV}, widE P e xs = true → ∀ x ∈ xs, (typed P e 0 x).wid = sizeT P e ∧ x.fit = true
  | [], _, x, hx => by cases hx
  | y :: l, h, x, hx => by
    unfold widE at h
    simp only [Bool.and_eq_true] at h
    rcases List.mem_cons.1 hx with rfl | hx
    · exact ⟨Nat.eq_of_beq_eq_true h.1.1, h.1.2⟩
    · exact widE_get h.2 x hx
theorem RepL'.mem {xs : List PV} {vs : List Value} (h : RepL' xs G w vs) : ∀ v ∈ vs, ∃ x ∈ xs, Rep x G w v := by
  induction xs generalizing vs with
  | nil => intro v hv; rw [show vs = [] from h] at hv; cases hv
  | cons x l ih =>
    obtain ⟨u, us', rfl, h1, h2⟩ := h
    intro v hv
    rcases List.mem_cons.1 hv with rfl | hv
    · exact ⟨x, List.mem_cons_self .., h1⟩
    · obtain ⟨y, hy, h3⟩ := ih h2 v hv
      exact ⟨y, List.mem_cons_of_mem _ hy, h3⟩
theorem buildSlice_ok {t : TypeId} {n : Nat} {ps : List Nat} {xs : List PV} {vs : List Value} {v : PV} (hi : Inv cx G lh w) (h : (buildSliceR P t n ps xs).Is v) (ht : PV.allLs PV.tok1 xs = []) (hn : PV.allLs PV.nam1 xs = []) (hx : RepL' xs G w vs) :
    ∃ u G' w', (Instr.buildSlice t n (ps.zip vs).toArray).run P w = .ok u w' ∧ Turns cx G w none lh G' w' ∧ Rep v G' w' u := by
  unfold buildSliceR at h
  split at h
  · rename_i e hd
    split at h
    · rename_i hc
      simp only [Bool.and_eq_true] at hc
      obtain ⟨⟨⟨⟨⟨⟨c1, c2⟩, c3⟩, c4⟩, c5⟩, c6⟩, c7⟩ := hc
      have e2 := Nat.eq_of_beq_eq_true c2
      have e3 := Nat.eq_of_beq_eq_true c3
      have e6 : n * sizeT P e ≤ 4096 := Nat.le_of_ble_eq_true c6
      have hl := hx.length
      obtain ⟨i, z, hi1, hz1, fz, hw, -⟩ := zero_ok c7
      have hvs : ∀ u ∈ vs, u.cells.size = sizeT P e ∧ Flat u := by
        intro u hu
        obtain ⟨x, hx1, hx2⟩ := hx.mem u hu
        obtain ⟨q1, q2⟩ := widE_get c5 x hx1
        have := Full.fit (typed_ok (P := P) (t := e) (tok := 0) hx2) (typed_fit q2)
        exact ⟨by rw [this.wid, q1], this.flat⟩
      have hfull : ∀ m : Array Value, m.size = n * sizeT P e → ∃ cells', Instr.fill (fun i => some (i * sizeT P e, sizeT P e)) m (ps.zip vs) = some cells' ∧ cells'.toList = vs.flatMap fun u => u.cells.toList := by
        intro m hm
        obtain ⟨cells', r1, r2⟩ := fill_line (n := 0) (cells := m) c1 (by omega) (fun u hu => (hvs u hu).1) (by rw [hm, Nat.zero_add]; congr 1; omega)
        refine ⟨cells', r1, ?_⟩
        rw [r2]; simp
      obtain ⟨u, w', r1, r2, r3⟩ : ∃ cells' w', (Instr.buildSlice t n (ps.zip vs).toArray).run P w = .ok (.slice (some ⟨w.heap.size, 0, none⟩) n n) w' ∧ cells'.toList = (vs.flatMap fun u => u.cells.toList) ∧ w' = w.alloc (.cells cells' e) := by
        have h16 : ¬ (n * sizeT P e > 2 ^ 24) := by
          have : (2 : Nat) ^ 24 = 16777216 := by decide
          omega
        by_cases h0 : n * sizeT P e = 0
        · obtain ⟨cells', k1, k2⟩ := hfull ((Array.range (n * sizeT P e)).map (fun x => (#[] : Array Value)[x % (#[] : Array Value).size]!)) (by simp)
          refine ⟨cells', _, ?_, k2, rfl⟩
          unfold Instr.buildSlice
          simp only [Sem.run_bind, run_underlying hd, Result.andThen_ok, run_size c4]
          rw [if_neg h16, if_pos h0]
          simp only [Sem.run_bind, Sem.run_pure, Result.andThen_ok]
          rw [k1]
          rfl
        · obtain ⟨cells', k1, k2⟩ := hfull ((Array.range (n * sizeT P e)).map (fun x => z.cells[x % z.cells.size]!)) (by simp)
          refine ⟨cells', _, ?_, k2, rfl⟩
          unfold Instr.buildSlice zeroValue typeInfo
          simp only [Sem.run_bind, run_underlying hd, Result.andThen_ok, run_size c4]
          rw [if_neg h16, if_neg h0]
          simp only [Sem.run_bind, run_program, hi1, hz1, Sem.run_pure, Result.andThen_ok]
          rw [k1]
          rfl
      subst r3
      have hb : Below w.heap.size w (w.alloc (.cells u e)) := (Below.refl _ w).alloc (Nat.le_refl _) _
      obtain ⟨G', t1, t2⟩ := still_row (sz := sizeT P e) (us := vs) (cap := n) hi hb (xs := u) (e := e) (fz := (0, 0)) (by show (w.heap.push _)[w.heap.size]? = _; simp) (by omega) (fun j c hj => by
        rw [← r2] at hj
        simpa using hj)
      rw [show vs.length = n by omega] at t2
      refine ⟨_, G', _, r1, t1, ?_⟩
      unfold rowOf at h
      split at h
      · rename_i l hr
        split at h
        · rename_i ha
          rw [Bool.and_eq_true] at ha
          have hs1 := Nat.eq_of_beq_eq_true ha.2
          obtain ⟨hu, rfl⟩ := h.need
          have : vs = (BRow.bytes (xs.map fun x => zByte x.asInt)).vals := by
            rw [RepL'.map_vals (f := fun x => Value.int .u8 ((zByte x.asInt).toNat : Int)) hx (fun x hx v hv => by
              have h1 := allB_get ha.1 x hx
              have h2 := allU8_get hu x hx
              cases x <;> first | (cases h1; done) | skip
              rename_i k z
              cases k <;> first | (cases h1; done) | skip
              rw [show v = _ from hv]
              have h3 : inU8 z := h2
              unfold inU8 at h3
              show Value.int .u8 z = .int .u8 ((zByte z).toNat : Int)
              congr 1
              unfold zByte
              simp
              omega)]
            simp [BRow.vals, Function.comp_def]
          show Sl G' _ false 0 1 _ _
          rw [← this, ← hs1]; exact t2
        · exact h.bad.elim
      · rename_i l hr
        split at h
        · rename_i ha
          rw [Bool.and_eq_true] at ha
          have hs1 := Nat.eq_of_beq_eq_true ha.2
          rw [← h.ok]
          have : vs = (BRow.strs (xs.map PV.asStr)).vals := by
            rw [RepL'.map_vals (f := fun x => Value.string ⟨x.asStr.toArray⟩) hx (fun x hx v hv => by
              have h1 := allB_get ha.1 x hx
              cases x <;> first | (cases h1; done) | skip
              rw [show v = _ from hv]; rfl)]
            simp [BRow.vals, Function.comp_def]
          show Sl G' _ false 0 1 _ _
          rw [← this, ← hs1]; exact t2
        · exact h.bad.elim
      · rename_i k l hr
        split at h
        · rename_i ha
          rw [Bool.and_eq_true] at ha
          have hs1 := Nat.eq_of_beq_eq_true ha.2
          rw [← h.ok]
          have : vs = (BRow.ints k (xs.map PV.asInt)).vals := by
            rw [RepL'.map_vals (f := fun x => Value.int k x.asInt) hx (fun x hx v hv => by
              have h1 := allB_get ha.1 x hx
              cases x <;> first | (cases h1; done) | skip
              rename_i j z
              have := sameKind_eq (show sameKind k j = true from h1)
              subst this
              rw [show v = _ from hv]; rfl)]
            simp [BRow.vals, Function.comp_def]
          show Sl G' _ false 0 1 _ _
          rw [← this, ← hs1]; exact t2
        · exact h.bad.elim
      · rw [← h.ok]
        refine ⟨vs, ?_, fun u hu => hvs u hu, t2⟩
        have h1 : RepL' (xs.map (typed P e 0)) G.deep w vs := by
          have : ∀ {l : List PV} {us : List Value}, PV.allLs PV.tok1 l = [] → PV.allLs PV.nam1 l = [] → RepL' l G w us → RepL' (l.map (typed P e 0)) G.deep w us := by
            intro l
            induction l with
            | nil => intro us _ _ h; exact h
            | cons x l ih =>
              intro us h1 h2 h
              obtain ⟨u, us', rfl, g1, g4⟩ := h
              obtain ⟨p1, p2⟩ := append_nil2 h1
              obtain ⟨q1, q2⟩ := append_nil2 h2
              exact ⟨u, us', rfl, Rep.deepen (by rw [typed_tok.1]; exact p1) (by rw [typed_tok.2]; exact q1) (typed_ok g1), ih p2 q2 g4⟩
          exact this ht hn hx
        exact RepL'.deep (G := G) (G' := G') t1.le h1
    · exact h.bad.elim
  · exact h.bad.elim
theorem run_replicate (z : Array Value) (hz : 0 < z.size) : ∀ n : Nat, ((List.range (n * z.size)).map fun i => z[i % z.size]!) = (List.replicate n z.toList).flatten
  | 0 => by simp
  | n + 1 => by
    rw [List.replicate_succ', List.flatten_concat, ← run_replicate z hz n, Nat.succ_mul, List.range_add, List.map_append, List.map_map]
    congr 1
    apply List.ext_getElem
    · simp
    · intro i h1 h2
      have hi : i < z.size := by simpa using h1
      simp [Function.comp_def, Nat.mod_eq_of_lt hi, hi]
theorem rep_replicate {x : PV} {u : Value} (h : Rep x G w u) : ∀ n, RepL' (List.replicate n x) G w (List.replicate n u)
  | 0 => rfl
  | n + 1 => ⟨u, List.replicate n u, rfl, h, rep_replicate h n⟩
/-- A row of zeros. -/
theorem makeSlice_ok {t : TypeId} {x y v : PV} {d : Option Tmp} {f : Option (PV → PV)} {lh' : List (Nat × PV)} {a b : Value} (hi : Inv cx G lh w) (h : (makeSliceS P t x y d lh).Is v f lh lh') (ha : Rep x G w a) (hb : Rep y G w b) :
    ∃ u G' w', (Instr.makeSlice t a b).run P w = .ok u w' ∧ Turns cx G w f lh' G' w' ∧ Rep v G' w' u := by
  unfold makeSliceS at h
  split at h
  · rename_i e k1 n k2 c tk hd hnm
    split at h
    · rename_i hel
      obtain ⟨e1, e2, i, z, hi1, hz1, hs1, hzs, hby, fz⟩ := elemOk_of hel
      have ht : tk ≠ 0 := by have := nameOf_ge hnm; omega
      have hft : stillF tk tk ≠ some tk := by
        show some (bif Nat.beq tk tk then 0 else tk) ≠ some tk
        rw [Nat.beq_refl]
        intro e; injection e with e; exact ht e.symm
      have main : 0 ≤ n ∧ n ≤ c ∧ c ≤ 16777216 → ∃ u G' w', (Instr.makeSlice t a b).run P w = .ok u w' ∧ Turns cx G w (some (PV.mark1 (stillF tk))) (turnB (PV.mark1 (stillF tk)) lh) G' w' ∧ Sl G' w' false tk (sizeT P e) (List.replicate n.toNat z) u := by
        intro hn
        rw [show a = _ from ha, show b = _ from hb]
        obtain ⟨N, rfl⟩ : ∃ N : Nat, n = N := ⟨n.toNat, by omega⟩
        obtain ⟨C, rfl⟩ : ∃ C : Nat, c = C := ⟨c.toNat, by omega⟩
        have hwn : IntKind.i64.wrap (N : Int) = N := IntWalk.i64_in _ ⟨by omega, by omega⟩
        have hwc : IntKind.i64.wrap (C : Int) = C := IntWalk.i64_in _ ⟨by omega, by omega⟩
        have hbb : (i.bytes : Int) * (C : Int) ≤ 1099511627776 := by
          have : i.bytes * C ≤ 65536 * 16777216 := Nat.mul_le_mul hby (by omega)
          have e : ((i.bytes * C : Nat) : Int) = (i.bytes : Int) * (C : Int) := by simp
          omega
        have hcond : ((((decide ((C : Int) < 0) || decide ((i.bytes : Int) * (C : Int) > 2 ^ 48)) || decide ((N : Int) < 0)) || decide ((N : Int) > (C : Int))) = true) = False := by
          have hbig : ¬ ((i.bytes : Int) * (C : Int) > 2 ^ 48) := by
            rw [show (2 : Int) ^ 48 = 281474976710656 by decide]
            omega
          have h1 : ¬ ((C : Int) < 0) := by omega
          have h2 : ¬ ((N : Int) < 0) := by omega
          have h3 : ¬ ((N : Int) > (C : Int)) := by omega
          simp only [decide_eq_false h1, decide_eq_false h2, decide_eq_false h3, decide_eq_false hbig]
          simp
        obtain ⟨cells, r1, r2, hcs⟩ : ∃ cells : Array Value, (Instr.makeSlice t (.int k1 N) (.int k2 C)).run P w = .ok (.slice (some ⟨w.heap.size, 0, none⟩) N C) (w.alloc (.cells cells e)) ∧ cells.toList = (List.replicate C z.cells.toList).flatten ∧ cells.size = C * sizeT P e := by
          by_cases h0 : C * sizeT P e = 0
          · refine ⟨(Array.range (C * sizeT P e)).map (fun x => (#[] : Array Value)[x % (#[] : Array Value).size]!), ?_, ?_, by simp⟩
            · unfold Instr.makeSlice typeInfo asInt
              simp only [Sem.run_bind, run_program, Result.andThen_ok, hi1, Sem.run_pure, run_underlying hd, run_asIntOf, hwn, hwc, Sem.run_ite, run_askRoom, run_size e1]
              rw [if_neg (by rw [hcond]; exact id)]
              simp only [Int.toNat_natCast]
              rw [if_pos h0]
              rfl
            · rw [h0]
              have : (List.replicate C z.cells.toList).flatten = [] := by
                rcases Nat.mul_eq_zero.1 h0 with h | h
                · subst h; rfl
                · have hz0 : z.cells.toList = [] := List.eq_nil_of_length_eq_zero (by rw [Array.length_toList, hzs]; exact h)
                  rw [hz0]; simp
              rw [this]; simp
          · refine ⟨(Array.range (C * sizeT P e)).map (fun x => z.cells[x % z.cells.size]!), ?_, ?_, by simp⟩
            · unfold Instr.makeSlice zeroValue typeInfo asInt
              simp only [Sem.run_bind, run_program, Result.andThen_ok, hi1, hz1, Sem.run_pure, run_underlying hd, run_asIntOf, hwn, hwc, Sem.run_ite, run_askRoom, run_size e1]
              rw [if_neg (by rw [hcond]; exact id)]
              simp only [Int.toNat_natCast]
              rw [if_neg h0]
              rfl
            · have hpos : 0 < z.cells.size := by
                rw [hzs]
                exact Nat.pos_of_ne_zero fun e => h0 (by rw [e, Nat.mul_zero])
              have hsz : z.cells.size = sizeT P e := hzs
              rw [← run_replicate z.cells hpos C, hsz]
              simp
        have hfl : ∀ m, ((List.replicate m z).flatMap fun u => u.cells.toList) = (List.replicate m z.cells.toList).flatten := by
          intro m
          induction m with
          | zero => rfl
          | succ m ih => rw [List.replicate_succ, List.flatMap_cons, ih, List.replicate_succ, List.flatten_cons]
        obtain ⟨s1, s2⟩ := grown_ok (w' := w.alloc (.cells cells e)) (us := List.replicate N z) (sz := sizeT P e) (cap := C) hi (stillF_ok tk) hft ht rfl rfl rfl rfl (fun j hj hh => by have := hh.2; simp at this) (Nat.le_of_eq hcs.symm) (by simp; omega) (fun j q hj => by
          rw [hfl] at hj
          rw [← Array.getElem?_toList, r2]
          have : (List.replicate C z.cells.toList).flatten = (List.replicate N z.cells.toList).flatten ++ (List.replicate (C - N) z.cells.toList).flatten := by
            rw [← List.flatten_append, List.replicate_append_replicate, show N + (C - N) = C by omega]
          rw [this, List.getElem?_append_left (List.getElem?_eq_some_iff.1 hj).1]
          exact hj)
        rw [List.length_replicate] at s2
        exact ⟨_, _, _, r1, s1, s2⟩
      have row : ∀ (r : BRow) (zv : Value), z = zv → sizeT P e = 1 → r.vals = List.replicate n.toNat zv → 0 ≤ n ∧ n ≤ c ∧ c ≤ 16777216 → ∃ u G' w', (Instr.makeSlice t a b).run P w = .ok u w' ∧ Turns cx G w (some (PV.mark1 (stillF tk))) (turnB (PV.mark1 (stillF tk)) lh) G' w' ∧ Rep (.row false r tk) G' w' u := by
        intro r zv hzv hsz hv hn
        obtain ⟨u, G', w', r1, r2, r3⟩ := main hn
        refine ⟨u, G', w', r1, r2, ?_⟩
        show Sl G' w' false tk 1 r.vals u
        rw [hv, ← hzv, ← hsz]; exact r3
      have zi : ∀ k, P.underlying e = some (.int k) → zeroV P 5 e 0 = .int k 0 → z = .int k 0 ∧ sizeT P e = 1 := fun k _ hz => by
        have := (fz G w).rep
        rw [hz] at this
        refine ⟨this, ?_⟩
        rw [← hzs, (fz G w).wid, hz]; rfl
      have zs : zeroV P 5 e 0 = .str [] → z = .string ⟨#[]⟩ ∧ sizeT P e = 1 := fun hz => by
        have := (fz G w).rep
        rw [hz] at this
        refine ⟨this, ?_⟩
        rw [← hzs, (fz G w).wid, hz]; rfl
      dsimp only at h
      split at h
      · rename_i l hr
        obtain ⟨hn, rfl, rfl, rfl⟩ := h
        unfold rowT at hr
        split at hr
        · rename_i hu
          obtain ⟨g1, g2⟩ := zi _ hu (by unfold zeroV; rw [hu])
          exact row _ _ g1 g2 (by simp [BRow.vals]) hn
        · cases hr
        · cases hr
        · cases hr
      · rename_i l hr
        obtain ⟨hn, rfl, rfl, rfl⟩ := h
        unfold rowT at hr
        split at hr
        · cases hr
        · rename_i hu
          obtain ⟨g1, g2⟩ := zs (by unfold zeroV; rw [hu])
          exact row _ _ g1 g2 (by simp [BRow.vals]) hn
        · cases hr
        · cases hr
      · rename_i k l hr
        obtain ⟨hn, rfl, rfl, rfl⟩ := h
        unfold rowT at hr
        split at hr
        · cases hr
        · cases hr
        · rename_i k' hne hu
          injection hr with hr; injection hr with hr1 hr2; subst hr1
          obtain ⟨g1, g2⟩ := zi _ hu (by unfold zeroV; rw [hu])
          exact row _ _ g1 g2 (by simp [BRow.vals]) hn
        · cases hr
      · obtain ⟨hn, rfl, rfl, rfl⟩ := h
        obtain ⟨u, G', w', r1, r2, r3⟩ := main hn
        exact ⟨u, G', w', r1, r2, _, rep_replicate (fz _ _).rep n.toNat, (fun u hu => by
          rw [List.eq_of_mem_replicate hu]
          exact ⟨hzs, (fz G w).flat⟩), r3⟩
    · exact h.elim
  · exact h.elim
theorem bytesWorld_push (w : World) (e : TypeId) (s : ByteArray) : (Lib.bytesWorld w e s).heap = w.heap.push (.cells (Lib.bytesCells w e s) e ((Lib.bytesCells w e s).size, (Lib.bytesCells w e s).size + 1)) := by
  apply Array.ext_getElem?
  intro i
  rw [Array.getElem?_push]
  by_cases h : i = w.heap.size
  · subst h; rw [if_pos rfl]; exact Lib.bytesWorld_at_new w e s
  · rw [if_neg h]
    by_cases h2 : i < w.heap.size
    · exact Lib.bytesWorld_at_old w e s i h2
    · rw [Array.getElem?_eq_none (by rw [Lib.bytesWorld_size]; omega), Array.getElem?_eq_none (by omega)]
theorem foldl_push (ns : List Int) : ∀ s : ByteArray, ns.foldl (fun r n => r.push (UInt8.ofNat n.toNat)) s = ⟨s.data ++ (ns.map fun n => UInt8.ofNat n.toNat).toArray⟩ := by
  induction ns with
  | nil => intro s; simp
  | cons n ns ih => intro s; rw [List.foldl_cons, ih]; congr 1; simp [ByteArray.push]
/-- Conversions between texts and bytes. -/
theorem convM_ok {s d : TypeId} {x v : PV} {a : Value} (hi : Inv cx G lh w) (h : (convR P s d x).Is v) (ha : Rep x G w a) : ∃ u G' w', (convert s d a).run P w = .ok u w' ∧ Turns cx G w none lh G' w' ∧ Rep v G' w' u := by
  cases hq : convQ P s d with
  | true =>
    obtain ⟨u, r1, r2⟩ := conv_ok hq h ha
    exact ⟨u, G, w, r1 w, .refl hi, r2⟩
  | false =>
    unfold convR at h
    split at h
    · rename_i k1 k k2 z h1 h2; unfold convQ at hq; rw [h1, h2] at hq; cases hq
    · rename_i l h1 h2; unfold convQ at hq; rw [h1, h2] at hq; cases hq
    · rename_i e l h1 h2
      split at h
      · rename_i q hr
        obtain ⟨hl, rfl⟩ := h.need
        rw [show a = _ from ha]
        have he : P.underlying e = some (.int .u8) := by
          unfold rowT at hr
          split at hr
          · assumption
          · cases hr
          · cases hr
          · cases hr
        have hb : Below w.heap.size w (Lib.bytesWorld w e ⟨l.toArray⟩) := ⟨rfl, rfl, rfl, by rw [Lib.bytesWorld_size]; omega, fun k hk => Lib.bytesWorld_at_old w e _ k hk⟩
        have hls : (⟨l.toArray⟩ : ByteArray).size = l.length := by simp [ByteArray.size]
        have hvl : (BRow.bytes l).vals.length = l.length := by simp [BRow.vals]
        have hge := grownCap_ge w (⟨l.toArray⟩ : ByteArray).size 0 e
        obtain ⟨G', t1, t2⟩ := still_row (sz := 1) (us := (BRow.bytes l).vals) (cap := grownCap w (⟨l.toArray⟩ : ByteArray).size 0 e) (xs := Lib.bytesCells w e ⟨l.toArray⟩) (e := e) (fz := ((Lib.bytesCells w e ⟨l.toArray⟩).size, (Lib.bytesCells w e ⟨l.toArray⟩).size + 1)) hi hb (by rw [bytesWorld_push]; simp) (by rw [hvl]; omega) (fun j c hj => by
          have hfl : ((BRow.bytes l).vals.flatMap fun u => u.cells.toList) = (BRow.bytes l).vals := by
            have h3 : ∀ l : List Value, (∀ u ∈ l, flatV u = true) → (l.flatMap fun u => u.cells.toList) = l := by
              intro l hl
              induction l with
              | nil => rfl
              | cons u l ih => rw [List.flatMap_cons, ih (fun v hv => hl v (List.mem_cons_of_mem _ hv)), cells_one (hl u (List.mem_cons_self ..))]; rfl
            exact h3 _ (vals_flat _)
          rw [hfl] at hj
          have hlt := (List.getElem?_eq_some_iff.1 hj).1
          unfold Lib.bytesCells
          rw [Array.getElem?_append_left (by simpa [BRow.vals] using hlt)]
          simpa [BRow.vals] using hj)
        refine ⟨_, G', _, Lib.run_convert_string_bytes w s d e ⟨l.toArray⟩ h1 h2 he, t1, ?_⟩
        show Sl G' _ false 0 1 _ _
        rw [hls]
        rw [hvl] at t2
        rw [hls] at t2
        exact t2
      · exact h.bad.elim
    · rename_i e nl l tk h1 h2
      split at h
      · rename_i q hr
        rw [← h.ok]
        have he : P.underlying e = some (.int .u8) := by
          unfold rowT at hr
          split at hr
          · assumption
          · cases hr
          · cases hr
          · cases hr
        rcases (show Sl G w nl tk 1 (BRow.bytes l).vals a from ha) with ⟨-, hv, rfl⟩ | ⟨-, b, o, cap, rfl, k2, k3⟩
        · have hl : l = [] := by cases l with | nil => rfl | cons x l => simp [BRow.vals] at hv
          subst hl
          refine ⟨.string ⟨#[]⟩, G, w, ?_, .refl hi, rfl⟩
          rw [run_convert_bytes_string w s d e _ _ _ h1 he h2]
          rfl
        · refine ⟨.string ⟨l.toArray⟩, G, w, ?_, .refl hi, rfl⟩
          have hfl : ((BRow.bytes l).vals.flatMap fun u => u.cells.toList) = (BRow.bytes l).vals := by
            have h3 : ∀ l : List Value, (∀ u ∈ l, flatV u = true) → (l.flatMap fun u => u.cells.toList) = l := by
              intro l hl
              induction l with
              | nil => rfl
              | cons u l ih => rw [List.flatMap_cons, ih (fun v hv => hl v (List.mem_cons_of_mem _ hv)), cells_one (hl u (List.mem_cons_self ..))]; rfl
            exact h3 _ (vals_flat _)
          rw [hfl] at k3
          have hld := run_loadCells_list (P := P) w ⟨b, o, none⟩ (BRow.bytes l).vals (fun j c hj => by rw [Addr.add_lit]; exact k3.cell hi hj)
          rw [run_convert_bytes_string w s d e _ _ _ h1 he h2, run_bytesToString w _ _ cap (l.map fun (c : UInt8) => ((c.toNat : Nat) : Int))]
          · rw [foldl_push]
            show Result.ok (Value.string ⟨#[] ++ _⟩) w = _
            rw [Array.empty_append, List.map_map]
            congr 3
            simp [Function.comp_def]
          · rw [hld]
            simp [BRow.vals, Function.comp_def]
      · exact h.bad.elim
    · exact h.bad.elim
theorem OpR.at_is {r : OpR} {v : PV} {f : Option (PV → PV)} {lh' : List (Nat × PV)} (h : r.at.Is v f lh lh') : r.Is v ∧ f = none ∧ lh' = lh := by
  cases r with
  | ok x => obtain ⟨rfl, h2, h3⟩ := h; exact ⟨.inl rfl, h2, h3⟩
  | need p x => obtain ⟨hp, rfl, h2, h3⟩ := h; exact ⟨.inr ⟨p, rfl, hp⟩, h2, h3⟩
  | bad n => exact h.elim
/-- Conversions, a text's bytes under a mark. -/
theorem convS_ok {s d : TypeId} {x v : PV} {t : Option Tmp} {f : Option (PV → PV)} {lh' : List (Nat × PV)} {a : Value} (hi : Inv cx G lh w) (h : (convS P s d x t lh).Is v f lh lh') (ha : Rep x G w a) : ∃ u G' w', (convert s d a).run P w = .ok u w' ∧ Turns cx G w f lh' G' w' ∧ Rep v G' w' u := by
  unfold convS at h
  split at h
  · rename_i p l n hr hnm
    obtain ⟨hp, rfl, rfl, rfl⟩ := h
    unfold convR at hr
    split at hr
    · cases hr
    · cases hr
    · rename_i e l' h1 h2
      split at hr
      · rename_i q hrt
        injection hr with e1 e2
        injection e2 with e3 e4 e5
        injection e4 with e4
        subst e4
        rw [show a = _ from ha]
        have he : P.underlying e = some (.int .u8) := by
          unfold rowT at hrt
          split at hrt
          · assumption
          · cases hrt
          · cases hrt
          · cases hrt
        have ht : n ≠ 0 := by have := nameOf_ge hnm; omega
        have hft : stillF n n ≠ some n := by
          show some (bif Nat.beq n n then 0 else n) ≠ some n
          rw [Nat.beq_refl]
          intro e; injection e with e; exact ht e.symm
        have hls : (⟨l'.toArray⟩ : ByteArray).size = l'.length := by simp [ByteArray.size]
        have hvl : (BRow.bytes l').vals.length = l'.length := by simp [BRow.vals]
        have hge := grownCap_ge w (⟨l'.toArray⟩ : ByteArray).size 0 e
        have hfl : ((BRow.bytes l').vals.flatMap fun u => u.cells.toList) = (BRow.bytes l').vals := flat_vals (vals_flat _)
        obtain ⟨s1, s2⟩ := grown_ok (w' := Lib.bytesWorld w e ⟨l'.toArray⟩) (us := (BRow.bytes l').vals) (sz := 1) (cap := grownCap w (⟨l'.toArray⟩ : ByteArray).size 0 e) (xs := Lib.bytesCells w e ⟨l'.toArray⟩) (e := e) (fz := ((Lib.bytesCells w e ⟨l'.toArray⟩).size, (Lib.bytesCells w e ⟨l'.toArray⟩).size + 1)) hi (stillF_ok n) hft ht (bytesWorld_push ..) rfl rfl rfl
          (fun j hj hh => by have := hh.1; dsimp only at this; omega) (by
            rw [Nat.mul_one]
            unfold Lib.bytesCells
            simp [hls]
            omega) (by rw [hvl]; omega) (fun j c hj => by
          rw [hfl] at hj
          have hlt := (List.getElem?_eq_some_iff.1 hj).1
          unfold Lib.bytesCells
          rw [Array.getElem?_append_left (by simpa [BRow.vals] using hlt)]
          simpa [BRow.vals] using hj)
        refine ⟨_, _, _, Lib.run_convert_string_bytes w s d e ⟨l'.toArray⟩ h1 h2 he, s1, ?_⟩
        show Sl _ _ false n 1 (BRow.bytes l').vals _
        rw [hls]
        rw [hvl, hls] at s2
        exact s2
      · cases hr
    · split at hr <;> cases hr
    · cases hr
  · obtain ⟨h3, rfl, rfl⟩ := OpR.at_is h
    exact convM_ok hi h3 ha
end Go.Vc


/- A calculus of Go's functions by their values: calls, every operation. -/
namespace Go.Vc
open Go.RowKit
variable {P : Program} {cx : Cx} {G : Gh} {lh : List (Nat × PV)} {w : World}

def Fits (F : Nat → Nat → Option Value) (w : World) : Prop := ∀ b o u, F b o = some u → w.cell? ⟨b, o, none⟩ = some u
def bareG (F : Nat → Nat → Option Value) : Gh := ⟨fun _ => none, fun _ => none, F⟩
/-- What a function answers. -/
def Came (F : Nat → Nat → Option Value) (w : World) (r : PV) (u : Value) (w' : World) : Prop :=
  ∃ F', Below w.heap.size w w' ∧ FLe F F' ∧ Fits F' w' ∧ (∀ b o u, F' b o = some u → F b o = some u ∨ w.heap.size ≤ b) ∧ Rep r (bareG F') w' u
/-- Boxes that are lent: no two alike, of cells that no one else tells of; so rows in them by their marks. -/
structure Lent (F : Nat → Nat → Option Value) (bs : List Nat) (τ : Nat → Option Nat) (w : World) (ins : List PV) : Prop where
  len : bs.length = ins.length
  nd : ∀ (i j b : Nat), bs[i]? = some b → bs[j]? = some b → i = j
  bF : ∀ b ∈ bs, ∀ o, F b o = none
  mks : ∀ t b, τ t = some b → t ≠ 0 ∧ t < 64 ∧ b < w.heap.size ∧ (∀ o, F b o = none) ∧ b ∉ bs
  inj : ∀ t t' b, τ t = some b → τ t' = some b → t = t'
  box : ∀ (i : Nat) (x : PV), ins[i]? = some x → ∃ b : Nat, bs[i]? = some b ∧ BoxAt ⟨fun i => bs[i]?, τ, F⟩ w b x
/-- What a function answers that was lent boxes. -/
def CameL (F : Nat → Nat → Option Value) (bs : List Nat) (τ : Nat → Option Nat) (w : World) (r : PV) (outs : List PV) (u : Value) (w' : World) : Prop :=
  ∃ F' τ', w'.os = w.os ∧ w'.tape = w.tape ∧ w'.output = w.output ∧ w.heap.size ≤ w'.heap.size ∧ (∀ k, k < w.heap.size → k ∉ bs → (∀ t, τ t ≠ some k) → w'.heap[k]? = w.heap[k]?) ∧ FLe F F' ∧ Fits F' w' ∧
    (∀ b o u, F' b o = some u → F b o = some u ∨ w.heap.size ≤ b ∨ ∃ t, τ t = some b) ∧ (∀ t b, τ' t = some b → w.heap.size ≤ b ∨ ∃ t', τ t' = some b) ∧ Lent F' bs τ' w' outs ∧ Rep r (bareG F') w' u
def LentOk [Wd] (P : Program) (T : Tabs) (f : FuncId) (args ins : List PV) (pre : Prop) (r : PV) (outs : List PV) : Prop :=
  pre → ∀ (F : Nat → Nat → Option Value) (w : World) (vs : List Value) (bs : List Nat) (τ : Nat → Option Nat), Fits F w → TabR T F → Wd.wd w → (∀ b ∈ bs, Wd.lim ≤ b) → (∀ t b, τ t = some b → Wd.lim ≤ b) → Lent F bs τ w ins → RepL' args ⟨fun i => bs[i]?, τ, F⟩ w vs →
    ((callFunc f vs.toArray).run P w = .ok (.enter f vs.toArray) w ∧ Calls P f vs.toArray w fun e w' => ∃ u, e = .returned u ∧ CameL F bs τ w r outs u w') ∨
    (∃ u w', (callFunc f vs.toArray).run P w = .ok (.value u) w' ∧ CameL F bs τ w r outs u w')
/-- A function does what is said; one that is lent boxes is told what they hold behind its arguments, and answers what they hold then. -/
def FuncOk [Wd] (P : Program) (T : Tabs) (f : FuncId) (xs : List PV) (c : CallR) : Prop := match PV.allLs PV.nam1 xs with
  | [] => c.pre → ∀ (F : Nat → Nat → Option Value) (w : World) (vs : List Value), Fits F w → TabR T F → Wd.wd w → RepL' xs (bareG F) w vs →
    ((callFunc f vs.toArray).run P w = .ok (.enter f vs.toArray) w ∧ Calls P f vs.toArray w fun e w' => ∃ u, e = .returned u ∧ Came F w c.r u w') ∨
    (∃ u w', (callFunc f vs.toArray).run P w = .ok (.value u) w' ∧ Came F w c.r u w')
  | _ => ∀ r outs, c.r = .tup (r :: outs) → LentOk P T f (xs.take (xs.length - outs.length)) (xs.drop (xs.length - outs.length)) c.pre r outs
theorem FuncOk.plain [Wd] {T : Tabs} {f : FuncId} {xs : List PV} {c : CallR} (h : FuncOk P T f xs c) (hn : PV.allLs PV.nam1 xs = []) : c.pre → ∀ (F : Nat → Nat → Option Value) (w : World) (vs : List Value), Fits F w → TabR T F → Wd.wd w → RepL' xs (bareG F) w vs →
    ((callFunc f vs.toArray).run P w = .ok (.enter f vs.toArray) w ∧ Calls P f vs.toArray w fun e w' => ∃ u, e = .returned u ∧ Came F w c.r u w') ∨
    (∃ u w', (callFunc f vs.toArray).run P w = .ok (.value u) w' ∧ Came F w c.r u w') := by
  unfold FuncOk at h
  rw [hn] at h; exact h
theorem FuncOk.of_plain [Wd] {T : Tabs} {f : FuncId} {xs : List PV} {c : CallR} (hn : PV.allLs PV.nam1 xs = []) (h : c.pre → ∀ (F : Nat → Nat → Option Value) (w : World) (vs : List Value), Fits F w → TabR T F → Wd.wd w → RepL' xs (bareG F) w vs →
    ((callFunc f vs.toArray).run P w = .ok (.enter f vs.toArray) w ∧ Calls P f vs.toArray w fun e w' => ∃ u, e = .returned u ∧ Came F w c.r u w') ∨
    (∃ u w', (callFunc f vs.toArray).run P w = .ok (.value u) w' ∧ Came F w c.r u w')) : FuncOk P T f xs c := by
  unfold FuncOk
  rw [hn]; exact h
theorem FuncOk.lent [Wd] {T : Tabs} {f : FuncId} {xs : List PV} {c : CallR} (h : FuncOk P T f xs c) (hn : PV.allLs PV.nam1 xs ≠ []) {r : PV} {outs : List PV} (hr : c.r = .tup (r :: outs)) : LentOk P T f (xs.take (xs.length - outs.length)) (xs.drop (xs.length - outs.length)) c.pre r outs := by
  unfold FuncOk at h
  split at h
  · rename_i hn'; exact absurd hn' hn
  · exact h r outs hr
theorem FuncOk.of_lent [Wd] {T : Tabs} {f : FuncId} {xs : List PV} {pre : Prop} {r : PV} {outs : List PV} (hn : PV.allLs PV.nam1 xs ≠ []) (h : LentOk P T f (xs.take (xs.length - outs.length)) (xs.drop (xs.length - outs.length)) pre r outs) : FuncOk P T f xs ⟨pre, .tup (r :: outs)⟩ := by
  unfold FuncOk
  split
  · rename_i hn'; exact absurd hn' hn
  · intro r' outs' e
    injection e with e
    injection e with e1 e2
    subst e1; subst e2; exact h
def XOk [Wd] (P : Program) (T : Tabs) (X : Tbl) : Prop := ∀ f xs c, X f xs = some c → FuncOk P T f xs c
theorem TabR.mono {T : Tabs} {F F' : Nat → Nat → Option Value} (h : TabR T F) (hl : FLe F F') : TabR T F' := fun g hg => by
  obtain ⟨u, h1, h2⟩ := h g hg
  exact ⟨u, fun G w hF => h1 G w (hl.trans hF), fun o c hc => hl _ _ _ (h2 o c hc)⟩
/-- More cells stay. -/
theorem Inv.widen {w' : World} {F' : Nat → Nat → Option Value} (h : Inv cx G lh w) (hb : Below w.heap.size w w') (hle : FLe G.F F') (hf : Fits F' w') (hn : ∀ b o u, F' b o = some u → G.F b o = some u ∨ w.heap.size ≤ b) : Turns cx G w none lh ⟨G.σ, G.τ, F'⟩ w' := by
  obtain ⟨h', hr⟩ := h.more hb
  have hr2 : ∀ y v, Rep y G w' v → Rep y ⟨G.σ, G.τ, F'⟩ w' v := fun y v => Rep.same (G := G) (G' := ⟨G.σ, G.τ, F'⟩) (w := w') (w' := w') hle (fun _ _ h => h) (fun t b ht => ⟨ht, rfl⟩)
  have hno : ∀ {b : Nat}, b < w.heap.size → (∀ o, G.F b o = none) → ∀ o, F' b o = none := fun {b} hlt hF o => by
    cases hu : F' b o with
    | none => rfl
    | some u =>
      rcases hn b o u hu with h1 | h1
      · rw [hF] at h1; cases h1
      · omega
  refine ⟨⟨hf, h.base.trans hle, fun b o u hu => ?_, fun n x hx => ?_, fun n b hb' => ?_, fun t b ht => ?_, h.injσ, h.injτ, h.disj, h.par, h'.kept⟩, fun y v hy => hr2 y v (hr y v hy), hle⟩
  · rcases hn b o u hu with h1 | h1
    · exact h.ext b o u h1
    · exact .inr (.inr (Nat.le_trans h.kept.size h1))
  · obtain ⟨b, h1, h2⟩ := h'.box n x hx
    exact ⟨b, h1, h2.same rfl hr2⟩
  · obtain ⟨h1, h2, h3⟩ := h.boxF n b hb'
    exact ⟨h1, hno (h.σlt hb') h2, h3⟩
  · obtain ⟨h1, h2, h3, h4⟩ := h'.mark t b ht
    exact ⟨h1, h2, hno (h.mark t b ht).2.1 h3, h4⟩
mutual
theorem mapL_agree {f g : PV → PV} (p : PV → Prop) : ∀ {x : PV}, (∀ y : PV, y.leaf = true → p y → f y = g y) → (∀ y : PV, y.leaf = true → (y.tok1 = [] ∨ ∀ t ∈ y.tok1, t ∈ PV.allL PV.tok1 x) → p y) → x.mapL f = x.mapL g
  | .agg l, h, hp => by simp only [PV.mapL]; rw [mapLs_agree p h hp]
  | .tup l, h, hp => by simp only [PV.mapL]; rw [mapLs_agree p h hp]
  | .fn q a b, h, hp => by
    simp only [PV.mapL]
    rw [mapLs_agree (l := a) p h (fun y hl ht => hp y hl (ht.imp id fun ht t hm => List.mem_append_left _ (ht t hm))), mapLs_agree (l := b) p h (fun y hl ht => hp y hl (ht.imp id fun ht t hm => List.mem_append_right _ (ht t hm)))]
  | .undef, h, hp => h _ rfl (hp _ rfl (.inl rfl))
  | .int k z, h, hp => h _ rfl (hp _ rfl (.inl rfl))
  | .bool b, h, hp => h _ rfl (hp _ rfl (.inl rfl))
  | .str l, h, hp => h _ rfl (hp _ rfl (.inl rfl))
  | .raw u, h, hp => h _ rfl (hp _ rfl (.inl rfl))
  | .arr n r, h, hp => h _ rfl (hp _ rfl (.inl rfl))
  | .row nl r t, h, hp => h _ rfl (hp _ rfl (.inr fun t ht => ht))
  | .vec nl sz l t, h, hp => h _ rfl (hp _ rfl (.inr fun t ht => ht))
  | .ep r t i, h, hp => h _ rfl (hp _ rfl (.inr fun t ht => ht))
  | .epv sz l t i off, h, hp => h _ rfl (hp _ rfl (.inr fun t ht => ht))
  | .ptr n off, h, hp => h _ rfl (hp _ rfl (.inl rfl))
  | .pix n off i, h, hp => h _ rfl (hp _ rfl (.inl rfl))
  | .asl n off lo len, h, hp => h _ rfl (hp _ rfl (.inl rfl))
  | .gp g off, h, hp => h _ rfl (hp _ rfl (.inl rfl))
  | .gix g off i, h, hp => h _ rfl (hp _ rfl (.inl rfl))
theorem mapLs_agree {f g : PV → PV} (p : PV → Prop) : ∀ {l : List PV}, (∀ y : PV, y.leaf = true → p y → f y = g y) → (∀ y : PV, y.leaf = true → (y.tok1 = [] ∨ ∀ t ∈ y.tok1, t ∈ PV.allLs PV.tok1 l) → p y) → PV.mapLs f l = PV.mapLs g l
  | [], h, hp => rfl
  | x :: l, h, hp => by
    simp only [PV.mapLs]
    rw [mapL_agree (x := x) p h (fun y hl ht => hp y hl (ht.imp id fun ht t hm => List.mem_append_left _ (ht t hm))), mapLs_agree (l := l) p h (fun y hl ht => hp y hl (ht.imp id fun ht t hm => List.mem_append_right _ (ht t hm)))]
end
mutual
theorem bare_tok : ∀ x : PV, PV.allL PV.tok1 (x.mapL (PV.mark1 bareF)) = [] ∧ PV.allL PV.nam1 (x.mapL (PV.mark1 bareF)) = PV.allL PV.nam1 x
  | .agg l => bare_toks l
  | .tup l => bare_toks l
  | .fn q a b => by
    obtain ⟨a1, a2⟩ := bare_toks a
    obtain ⟨b1, b2⟩ := bare_toks b
    exact ⟨by show _ ++ _ = _; rw [a1, b1]; rfl, by show _ ++ _ = _ ++ _; rw [a2, b2]⟩
  | .undef => ⟨rfl, rfl⟩
  | .int k z => ⟨rfl, rfl⟩
  | .bool b => ⟨rfl, rfl⟩
  | .str l => ⟨rfl, rfl⟩
  | .raw u => ⟨rfl, rfl⟩
  | .arr n r => ⟨rfl, rfl⟩
  | .row nl r t => ⟨rfl, rfl⟩
  | .vec nl sz l t => ⟨rfl, rfl⟩
  | .ep r t i => ⟨rfl, rfl⟩
  | .epv sz l t i off => ⟨rfl, rfl⟩
  | .ptr n off => ⟨rfl, rfl⟩
  | .pix n off i => ⟨rfl, rfl⟩
  | .asl n off lo len => ⟨rfl, rfl⟩
  | .gp g off => ⟨rfl, rfl⟩
  | .gix g off i => ⟨rfl, rfl⟩
theorem bare_toks : ∀ l : List PV, PV.allLs PV.tok1 (PV.mapLs (PV.mark1 bareF) l) = [] ∧ PV.allLs PV.nam1 (PV.mapLs (PV.mark1 bareF) l) = PV.allLs PV.nam1 l
  | [] => ⟨rfl, rfl⟩
  | x :: l => by
    obtain ⟨a1, a2⟩ := bare_tok x
    obtain ⟨b1, b2⟩ := bare_toks l
    exact ⟨by show _ ++ _ = _; rw [a1, b1]; rfl, by show _ ++ _ = _ ++ _; rw [a2, b2]⟩
end
theorem addNew_mem : ∀ (ms ns : List Nat), (∀ m ∈ ns, m ∈ addNew ns ms) ∧ ∀ m ∈ ms, m ∈ addNew ns ms
  | [], ns => ⟨fun m h => h, fun m h => by cases h⟩
  | x :: ms, ns => by
    obtain ⟨h1, h2⟩ := addNew_mem ms (bif ns.any (Nat.beq x) then ns else ns ++ [x])
    have hx : ∀ m, m ∈ ns ∨ m = x → m ∈ (bif ns.any (Nat.beq x) then ns else ns ++ [x]) := by
      intro m hm
      cases ha : ns.any (Nat.beq x) with
      | true =>
        rcases hm with hm | rfl
        · exact hm
        · obtain ⟨y, hy, he⟩ := List.any_eq_true.1 ha
          rw [Nat.eq_of_beq_eq_true he]; exact hy
      | false =>
        rcases hm with hm | rfl
        · exact List.mem_append_left _ hm
        · exact List.mem_append_right _ (List.mem_singleton.2 rfl)
    refine ⟨fun m hm => h1 m (hx m (.inl hm)), fun m hm => ?_⟩
    rcases List.mem_cons.1 hm with rfl | hm
    · exact h1 m (hx m (.inr rfl))
    · exact h2 m hm
theorem callF_ok (us : List Nat) : MarkF (callF us) := by
  refine ⟨by unfold callF; cases memN 0 us <;> rfl, fun t _ => .inr ?_⟩
  unfold callF
  cases memN t us with
  | true => exact .inl rfl
  | false => exact .inr rfl
theorem callF_bare {us : List Nat} {y : PV} (h : y.tok1 = [] ∨ ∀ t ∈ y.tok1, t ∈ us) : y.mark1 (callF us) = y.mark1 bareF := by
  have key : ∀ t, (t = 0 ∨ t ∈ us) → callF us t = bareF t := by
    intro t ht
    unfold callF bareF
    rcases ht with rfl | ht
    · cases memN 0 us <;> rfl
    · have : memN t us = true := List.any_eq_true.2 ⟨t, ht, Nat.beq_refl t⟩
      rw [this]; rfl
  have tk : ∀ t, (∀ u ∈ (match t with | 0 => ([] : List Nat) | t + 1 => [t + 1]), u ∈ us) ∨ (match t with | 0 => ([] : List Nat) | t + 1 => [t + 1]) = [] → t = 0 ∨ t ∈ us := by
    intro t ht
    cases t with
    | zero => exact .inl rfl
    | succ t =>
      rcases ht with ht | ht
      · exact .inr (ht _ (List.mem_singleton.2 rfl))
      · cases ht
  cases y with
  | row nl r t =>
    show (match callF us t with | some u => PV.row nl r u | none => .undef) = _
    rw [key t (tk t (by cases t <;> first | exact .inr rfl | exact h.symm))]; rfl
  | vec nl sz l t =>
    show (match callF us t with | some u => PV.vec nl sz l u | none => .undef) = _
    rw [key t (tk t (by cases t <;> first | exact .inr rfl | exact h.symm))]; rfl
  | ep r t i =>
    show (match callF us t with | some u => PV.ep r u i | none => .undef) = _
    rw [key t (tk t (by cases t <;> first | exact .inr rfl | exact h.symm))]; rfl
  | epv sz l t i off =>
    show (match callF us t with | some u => PV.epv sz l u i off | none => .undef) = _
    rw [key t (tk t (by cases t <;> first | exact .inr rfl | exact h.symm))]; rfl
  | _ => rfl
/-! Names and marks, turned. -/
theorem wid_both (fn ft : Nat → Option Nat) (y : PV) (hl : y.leaf = true) : (y.both1 fn ft).wid = y.wid := by
  cases y with
  | row nl r t => show PV.wid (match ft t with | some u => .row nl r u | none => .undef) = _; cases ft t <;> rfl
  | vec nl sz l t => show PV.wid (match ft t with | some u => .vec nl sz l u | none => .undef) = _; cases ft t <;> rfl
  | ep r t i => show PV.wid (match ft t with | some u => .ep r u i | none => .undef) = _; cases ft t <;> rfl
  | epv sz l t i off => show PV.wid (match ft t with | some u => .epv sz l u i off | none => .undef) = _; cases ft t <;> rfl
  | ptr n off => show PV.wid (match fn n with | some m => .ptr m off | none => .undef) = _; cases fn n <;> rfl
  | pix n off i => show PV.wid (match fn n with | some m => .pix m off i | none => .undef) = _; cases fn n <;> rfl
  | asl n off i k => show PV.wid (match fn n with | some m => .asl m off i k | none => .undef) = _; cases fn n <;> rfl
  | _ => first | rfl | cases hl
theorem Rep.both_leaf {G G' : Gh} {w w' : World} {fn ft : Nat → Option Nat} (hF : FLe G.F G'.F) (hn : ∀ n m, fn n = some m → ∀ b, G.σ n = some b → G'.σ m = some b) (f0 : ∀ u, ft 0 = some u → u = 0)
    (hm : ∀ t u, t ≠ 0 → ft t = some u → u ≠ 0 ∧ ∀ b, G.τ t = some b → G'.τ u = some b ∧ w'.heap[b]? = w.heap[b]?)
    {y : PV} {v : Value} (hl : y.leaf = true) (h : Rep y G w v) : Rep (y.both1 fn ft) G' w' v := by
  have at_ : ∀ {t t' sz b o cap : Nat} {cs : List Value}, ft t = some t' → At G w t sz b o cap cs → At G' w' t' sz b o cap cs := by
    intro t t' sz b o cap cs ht h
    rcases h with ⟨rfl, h2⟩ | ⟨h1, h2, h3, xs, e, fz, h4, h5⟩
    · obtain rfl := f0 t' ht
      exact .inl ⟨rfl, fun i c hc => hF _ _ _ (h2 i c hc)⟩
    · obtain ⟨e0, e1⟩ := hm t t' h1 ht
      obtain ⟨e2, e3⟩ := e1 b h2
      exact .inr ⟨e0, e2, fun i c hc => by rw [World.cell?_of_block (w := w) (a := ⟨b, o + i, none⟩) e3]; exact h3 i c hc, xs, e, fz, by rw [e3]; exact h4, h5⟩
  have sl_ : ∀ {nl : Bool} {t t' sz : Nat} {us : List Value} {v : Value}, ft t = some t' → Sl G w nl t sz us v → Sl G' w' nl t' sz us v := by
    intro nl t t' sz us v ht h
    rcases h with h | ⟨h1, b, o, cap, h2, h3, h4⟩
    · exact .inl h
    · exact .inr ⟨h1, b, o, cap, h2, h3, at_ ht h4⟩
  cases y with
  | undef => trivial
  | int k z => exact h
  | bool b => exact h
  | str l => exact h
  | raw u => exact h
  | arr n r => exact h
  | agg l => cases hl
  | tup l => cases hl
  | fn g a b => cases hl
  | row nl r t =>
    show Rep (match ft t with | some u => .row nl r u | none => .undef) G' w' v
    cases ht : ft t with
    | none => trivial
    | some t' => exact sl_ ht h
  | vec nl sz l t =>
    show Rep (match ft t with | some u => .vec nl sz l u | none => .undef) G' w' v
    cases ht : ft t with
    | none => trivial
    | some t' =>
      obtain ⟨us, h1, h2, h3⟩ := h
      exact ⟨us, RepL'.deep (G := G) (G' := G') hF h1, h2, sl_ ht h3⟩
  | ep r t i =>
    show Rep (match ft t with | some u => .ep r u i | none => .undef) G' w' v
    cases ht : ft t with
    | none => trivial
    | some t' =>
      obtain ⟨b, o, cap, h1, h2, h3, h4⟩ := h
      exact ⟨b, o, cap, h1, h2, h3, at_ ht h4⟩
  | epv sz l t i off =>
    show Rep (match ft t with | some u => .epv sz l u i off | none => .undef) G' w' v
    cases ht : ft t with
    | none => trivial
    | some t' =>
      obtain ⟨b, o, cap, us, h1, h2, h3, h4, h5, h6⟩ := h
      exact ⟨b, o, cap, us, h1, h2, h3, RepL'.deep (G := G) (G' := G') hF h4, h5, at_ ht h6⟩
  | ptr n off =>
    show Rep (match fn n with | some m => .ptr m off | none => .undef) G' w' v
    cases hk : fn n with
    | none => trivial
    | some m => obtain ⟨b, h1, h2⟩ := h; exact ⟨b, hn n m hk b h1, h2⟩
  | pix n off i =>
    show Rep (match fn n with | some m => .pix m off i | none => .undef) G' w' v
    cases hk : fn n with
    | none => trivial
    | some m => obtain ⟨h0, b, h1, h2⟩ := h; exact ⟨h0, b, hn n m hk b h1, h2⟩
  | asl n off lo len =>
    show Rep (match fn n with | some m => .asl m off lo len | none => .undef) G' w' v
    cases hk : fn n with
    | none => trivial
    | some m => obtain ⟨h0, h00, b, o, c, h1, h2⟩ := h; exact ⟨h0, h00, b, o, c, hn n m hk b h1, h2⟩
  | gp g off => exact h
  | gix g off i => exact h
theorem posN_get : ∀ {n : Nat} {l : List Nat}, memN n l = true → l[posN n l]? = some n ∧ posN n l < l.length
  | n, [], h => by cases h
  | n, m :: l, h => by
    unfold posN
    cases hb : Nat.beq m n with
    | true =>
      have := Nat.eq_of_beq_eq_true hb
      subst this
      exact ⟨rfl, by simp⟩
    | false =>
      have h' : memN n l = true := by
        unfold memN at h ⊢
        rw [List.any_cons] at h
        have : Nat.beq n m = false := by rw [Bool.eq_false_iff]; exact fun e => by rw [Nat.eq_of_beq_eq_true e, Nat.beq_refl] at hb; cases hb
        rw [this, Bool.false_or] at h; exact h
      obtain ⟨h1, h2⟩ := posN_get h'
      exact ⟨by simpa using h1, by simpa using h2⟩
theorem memN_iff {n : Nat} {l : List Nat} : memN n l = true ↔ n ∈ l := by
  unfold memN
  rw [List.any_eq_true]
  constructor
  · rintro ⟨x, h1, h2⟩; rw [Nat.eq_of_beq_eq_true h2]; exact h1
  · exact fun h => ⟨n, h, Nat.beq_refl n⟩
theorem nodupB_inj : ∀ {l : List Nat}, nodupB l = true → ∀ (i j n : Nat), l[i]? = some n → l[j]? = some n → i = j
  | [], _, i, j, n, h, _ => by simp at h
  | m :: l, hd, i, j, n, h, h' => by
    unfold nodupB at hd
    rw [Bool.and_eq_true] at hd
    have hno : n = m → n ∉ l := fun e hm => by
      have := memN_iff.2 (e ▸ hm)
      rw [this] at hd; cases hd.1
    cases i with
    | zero =>
      cases j with
      | zero => rfl
      | succ j =>
        simp at h h'
        exact absurd (List.mem_of_getElem? h') (hno h.symm)
    | succ i =>
      cases j with
      | zero =>
        simp at h h'
        exact absurd (List.mem_of_getElem? h) (hno h'.symm)
      | succ j =>
        have := nodupB_inj hd.2 i j n (by simpa using h) (by simpa using h')
        omega
theorem boxesOf_get : ∀ {ns : List Nat} {cs : List PV}, boxesOf lh ns = some cs → cs.length = ns.length ∧ ∀ (i n : Nat), ns[i]? = some n → ∃ c, cs[i]? = some c ∧ getN n lh = some c
  | [], cs, h => by
    injection h with h; subst h
    exact ⟨rfl, fun i n h => by simp at h⟩
  | n :: ns, cs, h => by
    unfold boxesOf at h
    split at h
    · rename_i c cs' h1 h2
      injection h with h; subst h
      obtain ⟨h3, h4⟩ := boxesOf_get h2
      refine ⟨by simp [h3], fun i m hm => ?_⟩
      cases i with
      | zero => simp at hm; subst hm; exact ⟨c, rfl, h1⟩
      | succ i => exact h4 i m (by simpa using hm)
    · cases h
theorem getN_setAll : ∀ {ns : List Nat} {cs : List PV} {l : List (Nat × PV)}, cs.length = ns.length → nodupB ns = true → (∀ n ∈ ns, ∃ x, getN n l = some x) →
    (∀ (i n : Nat) (c : PV), ns[i]? = some n → cs[i]? = some c → getN n (setAll ns cs l) = some c) ∧ ∀ k, k ∉ ns → getN k (setAll ns cs l) = getN k l
  | [], cs, l, _, _, _ => ⟨fun i n c h => by simp at h, fun k _ => by unfold setAll; rfl⟩
  | n :: ns, [], l, h, _, _ => by simp at h
  | n :: ns, c :: cs, l, h, hd, hx => by
    have hd' := hd
    unfold nodupB at hd'
    rw [Bool.and_eq_true] at hd'
    have hn : n ∉ ns := fun hm => by rw [memN_iff.2 hm] at hd'; cases hd'.1
    obtain ⟨i1, i2⟩ := getN_setAll (ns := ns) (cs := cs) (l := l) (by simpa using h) hd'.2 fun m hm => hx m (List.mem_cons_of_mem _ hm)
    refine ⟨fun i m d hm hdd => ?_, fun k hk => ?_⟩
    · show getN m (setN n c (setAll ns cs l)) = _
      rw [getN_set]
      cases i with
      | zero =>
        simp at hm hdd; subst hm; subst hdd
        obtain ⟨x, hx'⟩ := hx n (List.mem_cons_self ..)
        rw [if_pos rfl, i2 n hn, hx']; rfl
      | succ i =>
        have hm' : ns[i]? = some m := by simpa using hm
        rw [if_neg (fun e => hn (by rw [← e]; exact List.mem_of_getElem? hm'))]
        exact i1 i m d hm' (by simpa using hdd)
    · show getN k (setN n c (setAll ns cs l)) = _
      rw [getN_set, if_neg (fun e => hk (by rw [e]; exact List.mem_cons_self ..))]
      exact i2 k fun hm => hk (List.mem_cons_of_mem _ hm)
theorem mapLs_get (f : PV → PV) : ∀ {l : List PV} {i : Nat}, (PV.mapLs f l)[i]? = (l[i]?).map (PV.mapL f)
  | [], i => by simp [PV.mapLs]
  | x :: l, 0 => by simp [PV.mapLs]
  | x :: l, i + 1 => by simp [PV.mapLs, mapLs_get f]
theorem mapLs_len (f : PV → PV) : ∀ (l : List PV), (PV.mapLs f l).length = l.length
  | [] => rfl
  | x :: l => by simp [PV.mapLs, mapLs_len f]
theorem BoxAt.both {G G' : Gh} {w w' : World} {fn ft : Nat → Option Nat} {b : Nat} {x : PV} (hb : w'.heap[b]? = w.heap[b]?) (hF : FLe G.F G'.F) (hn : ∀ n m, fn n = some m → ∀ b, G.σ n = some b → G'.σ m = some b) (f0 : ∀ u, ft 0 = some u → u = 0)
    (hm : ∀ t u, t ≠ 0 → ft t = some u → u ≠ 0 ∧ ∀ b, G.τ t = some b → G'.τ u = some b ∧ w'.heap[b]? = w.heap[b]?) (h : BoxAt G w b x) : BoxAt G' w' b (x.mapL (PV.both1 fn ft)) := by
  obtain ⟨u, e, fz, h1, h2, h3, h4, h5⟩ := h
  exact ⟨u, e, fz, by rw [hb]; exact h1, h2, Rep.map (fun y v hl hy => Rep.both_leaf hF hn f0 hm hl hy) (wid_both fn ft) h3, by rw [PV.wid_map (wid_both fn ft)]; exact h4, h5⟩
theorem BoxAt.mark {G G' : Gh} {w w' : World} {f : Nat → Option Nat} {b : Nat} {x : PV} (hb : w'.heap[b]? = w.heap[b]?) (hF : FLe G.F G'.F) (hσ : ∀ n, G'.σ n = G.σ n) (f0 : f 0 = some 0) (hm : MarkOk G G' w w' f) (h : BoxAt G w b x) : BoxAt G' w' b (x.mapL (PV.mark1 f)) := by
  obtain ⟨u, e, fz, h1, h2, h3, h4, h5⟩ := h
  exact ⟨u, e, fz, by rw [hb]; exact h1, h2, Rep.map (fun y v hl hy => Rep.mark_leaf hF hσ f0 hm hl hy) (wid_mark f) h3, by rw [PV.wid_map (wid_mark f)]; exact h4, h5⟩
theorem lendF_ok {ms : List Nat} {n0 : Nat} : lendF ms n0 0 = some 0 ∧ ∀ t u, lendF ms n0 t = some u → u = t ∧ (t ≠ 0 → t ∉ ms ∧ ¬ (64 * n0 ≤ t ∧ t < 64 * n0 + 64)) := by
  refine ⟨rfl, fun t u h => ?_⟩
  unfold lendF at h
  cases h0 : Nat.beq t 0 with
  | true =>
    rw [h0] at h
    injection h with h
    have := Nat.eq_of_beq_eq_true h0
    exact ⟨by omega, fun hn => absurd this hn⟩
  | false =>
    rw [h0] at h
    replace h : (bif memN t ms || (Nat.ble (64 * n0) t && Nat.blt t (64 * n0 + 64)) then (none : Option Nat) else some t) = some u := h
    cases hc : (memN t ms || (Nat.ble (64 * n0) t && Nat.blt t (64 * n0 + 64))) with
    | true => rw [hc] at h; cases h
    | false =>
      rw [hc] at h
      injection h with h
      rw [Bool.or_eq_false_iff] at hc
      refine ⟨h.symm, fun _ => ⟨(fun hm => by rw [memN_iff.2 hm] at hc; cases hc.1), fun ⟨q1, q2⟩ => ?_⟩⟩
      have e1 : Nat.ble (64 * n0) t = true := Nat.ble_eq_true_of_le q1
      have e2 : Nat.blt t (64 * n0 + 64) = true := Nat.ble_eq_true_of_le q2
      rw [e1, e2] at hc; cases hc.2
theorem outT_ok {n0 t u : Nat} (h : outT n0 t = some u) : (t = 0 ∧ u = 0) ∨ (t ≠ 0 ∧ t < 64 ∧ u = 64 * n0 + t) := by
  unfold outT at h
  cases h0 : Nat.beq t 0 with
  | true =>
    rw [h0] at h; injection h with h
    exact .inl ⟨Nat.eq_of_beq_eq_true h0, h.symm⟩
  | false =>
    rw [h0] at h
    replace h : (bif Nat.blt t 64 then some (64 * n0 + t) else none) = some u := h
    cases hc : Nat.blt t 64 with
    | true =>
      rw [hc] at h; injection h with h
      exact .inr ⟨(fun e => by rw [e] at h0; cases h0), Nat.le_of_ble_eq_true hc, h.symm⟩
    | false => rw [hc] at h; cases h
theorem inT_ok {ms : List Nat} {t u : Nat} (h : inT ms t = some u) : (t = 0 ∧ u = 0) ∨ (t ≠ 0 ∧ ∃ i, u = i + 1 ∧ ms[i]? = some t) := by
  unfold inT at h
  cases h0 : Nat.beq t 0 with
  | true =>
    rw [h0] at h; injection h with h
    exact .inl ⟨Nat.eq_of_beq_eq_true h0, h.symm⟩
  | false =>
    rw [h0] at h
    replace h : (bif memN t ms then some (Nat.succ (posN t ms)) else none) = some u := h
    cases hc : memN t ms with
    | true =>
      rw [hc] at h; injection h with h
      exact .inr ⟨(fun e => by rw [e] at h0; cases h0), posN t ms, h.symm, (posN_get hc).1⟩
    | false => rw [hc] at h; cases h
theorem inN_ok {ns : List Nat} {n m : Nat} (h : inN ns n = some m) : ns[m]? = some n := by
  unfold inN at h
  cases hc : memN n ns with
  | true => rw [hc] at h; injection h with h; rw [← h]; exact (posN_get hc).1
  | false => rw [hc] at h; cases h
theorem addNew_nodup : ∀ (ms ns : List Nat), ns.Nodup → (addNew ns ms).Nodup
  | [], ns, h => h
  | x :: ms, ns, h => by
    refine addNew_nodup ms _ ?_
    cases ha : ns.any (Nat.beq x) with
    | true => exact h
    | false =>
      show (ns ++ [x]).Nodup
      refine List.nodup_append.2 ⟨h, by simp, fun a ha' b hb e => ?_⟩
      rw [List.mem_singleton] at hb
      subst hb; subst e
      rw [List.any_eq_true.2 ⟨a, ha', Nat.beq_refl a⟩] at ha; cases ha
/-- A call that is lent boxes does what is said. -/
theorem lend_ok [Wd] {T : Tabs} {X : Tbl} (hX : XOk P T X) (hi : Inv cx G lh w) (hT : TabC T cx) {f : FuncId} {us ns : List Nat} {xs : List PV} {v : PV} {g : Option (PV → PV)} {lh' : List (Nat × PV)} {vs : List Value} (h : (lendC X f us ns xs lh).Is v g lh lh') (hx : RepL' xs G w vs) :
    ∀ R : Value → World → Prop, (∀ ms n0 G' w' u, g = some (fun y => (y.mark1 (callF us)).mark1 (lendF ms n0)) → Turns cx G w (some (PV.mark1 (lendF ms n0))) lh' G' w' → Rep v G' w' u → R u w') →
      ((callFunc f vs.toArray).run P w = .ok (.enter f vs.toArray) w ∧ Calls P f vs.toArray w fun e w' => ∃ u, e = .returned u ∧ R u w') ∨ (∃ u w', (callFunc f vs.toArray).run P w = .ok (.value u) w' ∧ R u w') := by
  intro R hR
  unfold lendC at h
  split at h
  · rename_i cs n0 nr hcs
    obtain ⟨ns, hns⟩ : ∃ ns, ns = n0 :: nr := ⟨_, rfl⟩
    rw [← hns] at h hcs
    obtain ⟨ms, hms⟩ : ∃ ms, ms = addNew [] (PV.allLs PV.tok1 cs) := ⟨_, rfl⟩
    rw [← hms] at h
    have hmd : ms.Nodup := by rw [hms]; exact addNew_nodup _ _ List.nodup_nil
    split at h
    · exact h.elim
    · rename_i c hc
      split at h
      · rename_i r outs hr
        split at h
        · rename_i q1 q2 hb ht hn hnm
          obtain ⟨hpre, rfl, rfl, rfl⟩ := h
          rw [Bool.and_eq_true, Bool.and_eq_true] at hb
          obtain ⟨⟨hlen, hnd⟩, hm60⟩ := hb
          have hlen := Nat.eq_of_beq_eq_true hlen
          have hm60 : ms.length < 60 := Nat.le_of_ble_eq_true hm60
          obtain ⟨hcl, hcg⟩ := boxesOf_get hcs
          have hninj := nodupB_inj hnd
          -- where the boxes lie
          obtain ⟨bs, hbs⟩ : ∃ bs, bs = ns.map fun n => (G.σ n).getD 0 := ⟨_, rfl⟩
          have hbox : ∀ i n, ns[i]? = some n → ∃ b c, G.σ n = some b ∧ bs[i]? = some b ∧ cs[i]? = some c ∧ BoxAt G w b c := fun i n hn => by
            obtain ⟨c, h1, h2⟩ := hcg i n hn
            obtain ⟨b, h3, h4⟩ := hi.box n c h2
            exact ⟨b, c, h3, by rw [hbs, List.getElem?_map, hn]; simp [h3], h1, h4⟩
          have hbi : ∀ i b, bs[i]? = some b → ∃ n, ns[i]? = some n ∧ G.σ n = some b := fun i b hb => by
            have hb' := hb
            rw [hbs, List.getElem?_map] at hb'
            cases hn : ns[i]? with
            | none => rw [hn] at hb'; cases hb'
            | some n =>
              obtain ⟨b', c', h1, h2, -⟩ := hbox i n hn
              rw [hb] at h2; injection h2 with h2
              exact ⟨n, hn, by rw [h2]; exact h1⟩
          have hbm : ∀ b ∈ bs, ∃ n, n ∈ ns ∧ G.σ n = some b := fun b hb => by
            obtain ⟨i, hi'⟩ := List.mem_iff_getElem?.1 hb
            obtain ⟨n, h1, h2⟩ := hbi i b hi'
            exact ⟨n, List.mem_of_getElem? h1, h2⟩
          have hbn : ∀ n b, n ∈ ns → G.σ n = some b → b ∈ bs := fun n b hn hb => by
            obtain ⟨i, hi'⟩ := List.mem_iff_getElem?.1 hn
            obtain ⟨b', c', h1, h2, -⟩ := hbox i n hi'
            rw [hb] at h1; injection h1 with h1; rw [h1]; exact List.mem_of_getElem? h2
          obtain ⟨τ0, hτ0⟩ : ∃ τ0 : Nat → Option Nat, τ0 = fun t => match t with | 0 => none | t + 1 => (ms[t]?).bind G.τ := ⟨_, rfl⟩
          have hτ : ∀ t b, τ0 t = some b → ∃ i m, t = i + 1 ∧ ms[i]? = some m ∧ G.τ m = some b := fun t b ht => by
            rw [hτ0] at ht
            cases t with
            | zero => cases ht
            | succ t =>
              obtain ⟨m, h1, h2⟩ := Option.bind_eq_some_iff.1 (show (ms[t]?).bind G.τ = some b from ht)
              exact ⟨t, m, rfl, h1, h2⟩
          have hin : ∀ t u, t ≠ 0 → inT ms t = some u → u ≠ 0 ∧ ∀ b, G.τ t = some b → τ0 u = some b ∧ w.heap[b]? = w.heap[b]? := fun t u h0 ht => by
            rcases inT_ok ht with ⟨e, -⟩ | ⟨-, i, rfl, h1⟩
            · exact absurd e h0
            · refine ⟨by omega, fun b hb => ⟨?_, rfl⟩⟩
              rw [hτ0]
              show (ms[i]?).bind G.τ = _
              rw [h1]; exact hb
          have hin0 : ∀ u, inT ms 0 = some u → u = 0 := fun u hu => by
            rcases inT_ok hu with ⟨-, e⟩ | ⟨e, -⟩
            · exact e
            · exact absurd rfl e
          have hinN : ∀ n m, inN ns n = some m → ∀ b, G.σ n = some b → bs[m]? = some b := fun n m hm b hb => by
            obtain ⟨b', c', h1, h2, -⟩ := hbox m n (inN_ok hm)
            rw [hb] at h1; injection h1 with h1; rw [h1]; exact h2
          have hlent : Lent G.F bs τ0 w (PV.mapLs (PV.both1 (inN ns) (inT ms)) cs) := by
            refine ⟨by rw [mapLs_len, hbs, List.length_map, hcl], fun i j b h1 h2 => ?_, fun b hb o => ?_, fun t b htb => ?_, fun t t' b h1 h2 => ?_, fun i x hx => ?_⟩
            · obtain ⟨n, g1, g2⟩ := hbi i b h1
              obtain ⟨n', g3, g4⟩ := hbi j b h2
              have := hi.injσ n n' b g2 g4
              subst this
              exact hninj i j n g1 g3
            · obtain ⟨n, -, g2⟩ := hbm b hb
              exact (hi.boxF n b g2).2.1 o
            · obtain ⟨i, m, rfl, g1, g2⟩ := hτ t b htb
              obtain ⟨k1, k2, k3, k4⟩ := hi.mark m b g2
              have hil : i < ms.length := (List.getElem?_eq_some_iff.1 g1).1
              refine ⟨by omega, by omega, k2, k3, fun hb => ?_⟩
              obtain ⟨n, -, g3⟩ := hbm b hb
              exact hi.disj n m b g3 g2
            · obtain ⟨i, m, rfl, g1, g2⟩ := hτ t b h1
              obtain ⟨j, m', rfl, g3, g4⟩ := hτ t' b h2
              have := hi.injτ m m' b g2 g4
              subst this
              have h5 := (List.getElem?_eq_some_iff.1 g1)
              have h6 := (List.getElem?_eq_some_iff.1 g3)
              obtain ⟨a1, a2⟩ := h5
              obtain ⟨a3, a4⟩ := h6
              have := (List.getElem?_inj a1 hmd).1 (g1.trans g3.symm)
              omega
            · rw [mapLs_get] at hx
              cases hc' : cs[i]? with
              | none => rw [hc'] at hx; cases hx
              | some c0 =>
                rw [hc'] at hx
                injection hx with hx; subst hx
                have hil : i < ns.length := by rw [← hcl]; exact (List.getElem?_eq_some_iff.1 hc').1
                obtain ⟨b, c1, g1, g2, g3, g4⟩ := hbox i _ (List.getElem?_eq_getElem hil)
                rw [hc'] at g3; injection g3 with g3; subst g3
                exact ⟨b, g2, BoxAt.both (G := G) (G' := ⟨fun i => bs[i]?, τ0, G.F⟩) rfl (FLe.refl _) hinN hin0 hin g4⟩
          have hargs : RepL' (PV.mapLs (PV.both1 (inN ns) (inT ms)) xs) ⟨fun i => bs[i]?, τ0, G.F⟩ w vs :=
            RepL'.map (fun y v hl hy => Rep.both_leaf (G := G) (G' := ⟨fun i => bs[i]?, τ0, G.F⟩) (FLe.refl _) hinN hin0 hin hl hy) (wid_both _ _) hx
          have hlk := (hX f _ c hc).lent (by rw [hnm]; simp) hr
          have hlo : outs.length = (PV.mapLs (PV.both1 (inN ns) (inT ms)) cs).length := by rw [mapLs_len, hcl, hlen]
          rw [show (PV.mapLs (PV.both1 (inN ns) (inT ms)) xs ++ PV.mapLs (PV.both1 (inN ns) (inT ms)) cs).length - outs.length = (PV.mapLs (PV.both1 (inN ns) (inT ms)) xs).length by rw [List.length_append, hlo]; omega, List.take_left, List.drop_left] at hlk
          have hn0 : n0 ∈ ns := by rw [hns]; exact List.mem_cons_self ..
          -- what the call leaves
          have came : ∀ u w', CameL G.F bs τ0 w r outs u w' → R u w' := by
            intro u w' ⟨F', τ', c1, c2, c3, c4, c5, c6, c7, c8, c9, c10, c11⟩
            have hsame : ∀ b, b < w.heap.size → b ∉ bs → (∀ m ∈ ms, G.τ m ≠ some b) → w'.heap[b]? = w.heap[b]? := fun b h1 h2 h3 => c5 b h1 h2 fun t ht => by
              obtain ⟨i, m, -, g1, g2⟩ := hτ t b ht
              exact h3 m (List.mem_of_getElem? g1) g2
            let G' : Gh := ⟨G.σ, fun t => if 64 * n0 < t ∧ t < 64 * n0 + 64 then τ' (t - 64 * n0) else match lendF ms n0 t with | some (k + 1) => G.τ (k + 1) | _ => none, F'⟩
            have τcase : ∀ t b, G'.τ t = some b → (∃ k, k ≠ 0 ∧ k < 64 ∧ t = 64 * n0 + k ∧ τ' k = some b) ∨ (t ≠ 0 ∧ t ∉ ms ∧ ¬ (64 * n0 ≤ t ∧ t < 64 * n0 + 64) ∧ G.τ t = some b) := fun t b ht => by
              replace ht : (if 64 * n0 < t ∧ t < 64 * n0 + 64 then τ' (t - 64 * n0) else match lendF ms n0 t with | some (k + 1) => G.τ (k + 1) | _ => none) = some b := ht
              split at ht
              · rename_i hc'
                exact .inl ⟨t - 64 * n0, by omega, by omega, by omega, ht⟩
              · split at ht
                · rename_i k hk
                  obtain ⟨e1, e2⟩ := lendF_ok.2 t (k + 1) hk
                  obtain ⟨e3, e4⟩ := e2 (by omega)
                  exact .inr ⟨by omega, e3, e4, by rw [← e1]; exact ht⟩
                · cases ht
            have τnew : ∀ k b, k ≠ 0 → k < 64 → τ' k = some b → G'.τ (64 * n0 + k) = some b := fun k b h0 h1 h2 => by
              show (if 64 * n0 < 64 * n0 + k ∧ 64 * n0 + k < 64 * n0 + 64 then τ' (64 * n0 + k - 64 * n0) else _) = some b
              rw [if_pos ⟨by omega, by omega⟩, show 64 * n0 + k - 64 * n0 = k by omega]; exact h2
            have τold : ∀ t, t ≠ 0 → t ∉ ms → ¬ (64 * n0 ≤ t ∧ t < 64 * n0 + 64) → lendF ms n0 t = some t → G'.τ t = G.τ t := fun t h0 h1 h2 h3 => by
              show (if 64 * n0 < t ∧ t < 64 * n0 + 64 then τ' (t - 64 * n0) else match lendF ms n0 t with | some (k + 1) => G.τ (k + 1) | _ => none) = _
              rw [if_neg (by omega), h3]
              cases t with
              | zero => exact absurd rfl h0
              | succ t => rfl
            have keepM : ∀ t b, t ∉ ms → G.τ t = some b → w'.heap[b]? = w.heap[b]? := fun t b h1 h2 =>
              hsame b (hi.mark t b h2).2.1 (fun hb => by obtain ⟨n, -, g⟩ := hbm b hb; exact hi.disj n t b g h2) fun m hm hg => h1 (by rw [hi.injτ t m b h2 hg]; exact hm)
            have hmo : MarkOk G G' w w' (lendF ms n0) := fun t h0 => by
              cases hk : lendF ms n0 t with
              | none => trivial
              | some u =>
                obtain ⟨e1, e2⟩ := lendF_ok.2 t u hk
                obtain ⟨e3, e4⟩ := e2 h0
                subst e1
                cases u with
                | zero => exact absurd rfl h0
                | succ u => exact ⟨rfl, τold _ h0 e3 e4 hk, fun b hb => keepM _ b e3 hb⟩
            have f0 : lendF ms n0 0 = some 0 := lendF_ok.1
            have oldF : ∀ b o u, F' b o = some u → b < w.heap.size → (∀ t, τ0 t ≠ some b) → G.F b o = some u := fun b o u h1 h2 h3 => by
              rcases c8 b o u h1 with g | g | ⟨t, g⟩
              · exact g
              · omega
              · exact absurd g (h3 t)
            have outOk : ∀ t u, t ≠ 0 → outT n0 t = some u → u ≠ 0 ∧ ∀ b, τ' t = some b → G'.τ u = some b ∧ w'.heap[b]? = w'.heap[b]? := fun t u h0 hu => by
              rcases outT_ok hu with ⟨e, -⟩ | ⟨-, e1, rfl⟩
              · exact absurd e h0
              · exact ⟨by omega, fun b hb => ⟨τnew t b h0 e1 hb, rfl⟩⟩
            have out0 : ∀ u, outT n0 0 = some u → u = 0 := fun u hu => by
              rcases outT_ok hu with ⟨-, e⟩ | ⟨e, -⟩
              · exact e
              · exact absurd rfl e
            have hex : ∀ n ∈ ns, ∃ x, getN n (turnB (PV.mark1 (lendF ms n0)) lh) = some x := fun n hn => by
              obtain ⟨i, hi'⟩ := List.mem_iff_getElem?.1 hn
              obtain ⟨c', -, g⟩ := hcg i n hi'
              exact ⟨_, by rw [getN_turn, g]; rfl⟩
            obtain ⟨sa1, sa2⟩ := getN_setAll (ns := ns) (cs := PV.mapLs (PV.both1 (outN ns) (outT n0)) outs) (l := turnB (PV.mark1 (lendF ms n0)) lh) (by rw [mapLs_len, hlen]) hnd hex
            have hown : ∀ b, b ∈ bs ∨ (∃ t, τ0 t = some b) → Own cx b := fun b hb => by
              rcases hb with hb | ⟨t, ht⟩
              · obtain ⟨n, -, g⟩ := hbm b hb; exact (hi.boxF n b g).2.2
              · obtain ⟨i, m, -, -, g⟩ := hτ t b ht; exact (hi.mark m b g).2.2.2
            have ownNew : ∀ b, w.heap.size ≤ b ∨ (∃ t', τ0 t' = some b) → Own cx b := fun b hb => by
              rcases hb with hb | hb
              · exact .inr (Nat.le_trans hi.kept.size hb)
              · exact hown b (.inr hb)
            have inv' : Inv cx G' (setAll ns (PV.mapLs (PV.both1 (outN ns) (outT n0)) outs) (turnB (PV.mark1 (lendF ms n0)) lh)) w' := by
              refine ⟨c7, hi.base.trans c6, fun b o u hu => ?_, fun n x hx => ?_, fun n b hb => ?_, fun t b htb => ?_, hi.injσ, fun t t' b h1 h2 => ?_, fun n t b h1 h2 => ?_, hi.par, hi.kept.step c1 c2 c3 c4 fun k hk hno => c5 k hk (fun hb => hno (hown k (.inl hb))) fun t ht => hno (hown k (.inr ⟨t, ht⟩))⟩
              · rcases c8 b o u hu with g | g | g
                · exact hi.ext b o u g
                · exact .inr (ownNew b (.inl g))
                · exact .inr (ownNew b (.inr g))
              · by_cases hn : n ∈ ns
                · obtain ⟨i, hi'⟩ := List.mem_iff_getElem?.1 hn
                  obtain ⟨b, c', g1, g2, -⟩ := hbox i n hi'
                  have hil : i < outs.length := by rw [hlen]; exact (List.getElem?_eq_some_iff.1 hi').1
                  have ho : outs[i]? = some outs[i] := List.getElem?_eq_getElem hil
                  have := sa1 i n _ hi' (by rw [mapLs_get, ho]; rfl)
                  rw [this] at hx; injection hx with hx; subst hx
                  obtain ⟨b', g3, g4⟩ := c10.box i _ ho
                  rw [g2] at g3; injection g3 with g3; subst g3
                  refine ⟨b, g1, BoxAt.both (G := ⟨fun i => bs[i]?, τ', F'⟩) (G' := G') rfl (FLe.refl _) (fun k m hk b2 hb2 => ?_) out0 outOk g4⟩
                  obtain ⟨n2, g5, g6⟩ := hbi k b2 hb2
                  have hk' : ns[k]? = some m := hk
                  rw [hk'] at g5; injection g5 with g5; rw [g5]; exact g6
                · rw [sa2 n hn, getN_turn] at hx
                  cases hg : getN n lh with
                  | none => rw [hg] at hx; cases hx
                  | some c' =>
                    rw [hg] at hx; injection hx with hx; subst hx
                    obtain ⟨b, g1, g2⟩ := hi.box n c' hg
                    refine ⟨b, g1, g2.mark (G' := G') (hsame b (hi.σlt g1) (fun hb => ?_) fun m _ hm => hi.disj n m b g1 hm) c6 (fun _ => rfl) f0 hmo⟩
                    obtain ⟨n', g3, g4⟩ := hbm b hb
                    exact hn (by rw [hi.injσ n n' b g1 g4]; exact g3)
              · replace hb : G.σ n = some b := hb
                obtain ⟨⟨x, g1⟩, g2, g3⟩ := hi.boxF n b hb
                by_cases hn : n ∈ ns
                · obtain ⟨i, hi'⟩ := List.mem_iff_getElem?.1 hn
                  have hil : i < outs.length := by rw [hlen]; exact (List.getElem?_eq_some_iff.1 hi').1
                  exact ⟨⟨_, sa1 i n _ hi' (by rw [mapLs_get, List.getElem?_eq_getElem hil]; rfl)⟩, c10.bF b (hbn n b hn hb), g3⟩
                · refine ⟨⟨_, by rw [sa2 n hn, getN_turn, g1]; rfl⟩, fun o => ?_, g3⟩
                  cases hu : F' b o with
                  | none => exact hu
                  | some u =>
                    have := oldF b o u hu (hi.σlt hb) fun t ht => by
                      obtain ⟨i, m, -, -, g⟩ := hτ t b ht
                      exact hi.disj n m b hb g
                    rw [g2] at this; cases this
              · rcases τcase t b htb with ⟨k, h0, h1, rfl, g⟩ | ⟨h0, h1, h2, g⟩
                · obtain ⟨k1, k2, k3, k4, k5⟩ := c10.mks k b g
                  exact ⟨by omega, k3, k4, ownNew b (c9 k b g)⟩
                · obtain ⟨k1, k2, k3, k4⟩ := hi.mark t b g
                  refine ⟨k1, Nat.lt_of_lt_of_le k2 c4, fun o => ?_, k4⟩
                  cases hu : F' b o with
                  | none => exact hu
                  | some u =>
                    have := oldF b o u hu k2 fun t' ht' => by
                      obtain ⟨i, m, -, g1, g2⟩ := hτ t' b ht'
                      exact h1 (by rw [hi.injτ t m b g g2]; exact List.mem_of_getElem? g1)
                    rw [k3] at this; cases this
              · have mixed : ∀ k t b, τ' k = some b → t ∉ ms → G.τ t = some b → False := fun k t b g1 g2 g3 => by
                  rcases c9 k b g1 with g | ⟨t', g⟩
                  · have := (hi.mark t b g3).2.1; omega
                  · obtain ⟨i, m, -, g4, g5⟩ := hτ t' b g
                    exact g2 (by rw [hi.injτ t m b g3 g5]; exact List.mem_of_getElem? g4)
                rcases τcase t b h1 with ⟨k, -, -, rfl, g⟩ | ⟨-, g1, -, g⟩ <;> rcases τcase t' b h2 with ⟨k', -, -, rfl, g'⟩ | ⟨-, g1', -, g'⟩
                · rw [c10.inj k k' b g g']
                · exact (mixed k t' b g g1' g').elim
                · exact (mixed k' t b g' g1 g).elim
                · exact hi.injτ t t' b g g'
              · replace h1 : G.σ n = some b := h1
                rcases τcase t b h2 with ⟨k, -, -, rfl, g⟩ | ⟨-, g1, -, g⟩
                · by_cases hn : n ∈ ns
                  · exact (c10.mks k b g).2.2.2.2 (hbn n b hn h1)
                  · rcases c9 k b g with g' | ⟨t', g'⟩
                    · have := hi.σlt h1; omega
                    · obtain ⟨i, m, -, -, g5⟩ := hτ t' b g'
                      exact hi.disj n m b h1 g5
                · exact hi.disj n t b h1 g
            refine hR ms n0 G' w' u rfl ⟨inv', fun y q hy => Rep.map (fun y v hl hy => Rep.mark_leaf (G := G) (G' := G') c6 (fun _ => rfl) f0 hmo hl hy) (wid_mark _) hy, c6⟩ ?_
            exact Rep.undeep (G := G') c11
          rcases hlk hpre G.F w vs bs τ0 hi.fits (hT.1.mono hi.base) (hT.at hi.kept) (fun b hb => by obtain ⟨n, -, g⟩ := hbm b hb; exact hT.own (hi.boxF n b g).2.2) (fun t b ht => by obtain ⟨i, m, -, -, g⟩ := hτ t b ht; exact hT.own (hi.mark m b g).2.2.2) hlent hargs with ⟨r1, r2⟩ | ⟨u, w', r1, r2⟩
          · exact .inl ⟨r1, r2.mono fun e w' ⟨u, he, hcm⟩ => ⟨u, he, came u w' hcm⟩⟩
          · exact .inr ⟨u, w', r1, came u w' r2⟩
        · exact h.elim
      · exact h.elim
  · exact h.elim
theorem lendIs {X : Tbl} {f : FuncId} {us ns : List Nat} {xs : List PV} {v : PV} {g : Option (PV → PV)} {l lh lh' : List (Nat × PV)} (h : (lendC X f us ns xs l).Is v g lh lh') : (lendC X f us ns xs l).Is v g l lh' := by
  revert h
  unfold lendC
  split
  · split
    · exact fun h => h
    · split
      · split
        · exact fun h => h
        · exact fun h => h
      · exact fun h => h
  · exact fun h => h
/-- A call. -/
theorem call_ok [Wd] {T : Tabs} {X : Tbl} (hX : XOk P T X) (hi : Inv cx G lh w) (hT : TabC T cx) {f : FuncId} {xs : List PV} {v : PV} {g : Option (PV → PV)} {lh' : List (Nat × PV)} {vs : List Value} (h : (callS X f xs lh).Is v g lh lh') (hx : RepL' xs G w vs) :
    ∀ R : Value → World → Prop, (∀ G' w' u, Turns cx G w g lh' G' w' → Rep v G' w' u → R u w') →
      ((callFunc f vs.toArray).run P w = .ok (.enter f vs.toArray) w ∧ Calls P f vs.toArray w fun e w' => ∃ u, e = .returned u ∧ R u w') ∨ (∃ u w', (callFunc f vs.toArray).run P w = .ok (.value u) w' ∧ R u w') := by
  intro R hR
  unfold callS at h
  split at h
  · rename_i hnam
    split at h
    · exact h.elim
    · rename_i c hc
      -- what a call leaves
      have fin : ∀ (G1 : Gh) (lh1 : List (Nat × PV)), Inv cx G1 lh1 w → RepL' (PV.mapLs (PV.mark1 bareF) xs) G1 w vs → c.pre → PV.allL PV.tok1 c.r = [] → PV.allL PV.nam1 c.r = [] → (∀ G' w' u, Turns cx G1 w none lh1 G' w' → Rep c.r G' w' u → R u w') →
          ((callFunc f vs.toArray).run P w = .ok (.enter f vs.toArray) w ∧ Calls P f vs.toArray w fun e w' => ∃ u, e = .returned u ∧ R u w') ∨ (∃ u w', (callFunc f vs.toArray).run P w = .ok (.value u) w' ∧ R u w') := by
        intro G1 lh1 h1 hx1 hpre _ _ hR1
        obtain ⟨b1, b2⟩ := bare_toks xs
        have hx2 : RepL' (PV.mapLs (PV.mark1 bareF) xs) G1.deep w vs := RepL'.deepen b1 (by rw [b2]; exact hnam) hx1
        have came : ∀ u w', Came G1.F w c.r u w' → R u w' := by
          intro u w' ⟨F', c1, c2, c3, c4, c5⟩
          refine hR1 ⟨G1.σ, G1.τ, F'⟩ w' u (h1.widen c1 c2 c3 c4) ?_
          exact Rep.undeep (G := ⟨G1.σ, G1.τ, F'⟩) c5
        rcases (hX f _ c hc).plain (by rw [(bare_toks xs).2]; exact hnam) hpre G1.F w vs h1.fits (hT.1.mono h1.base) (hT.at h1.kept) hx2 with ⟨r1, r2⟩ | ⟨u, w', r1, r2⟩
        · exact .inl ⟨r1, r2.mono fun e w' ⟨u, he, hcm⟩ => ⟨u, he, came u w' hcm⟩⟩
        · exact .inr ⟨u, w', r1, came u w' r2⟩
      have agree : ∀ us, (∀ t ∈ PV.allLs PV.tok1 xs, t ∈ us) → PV.mapLs (PV.mark1 (callF us)) xs = PV.mapLs (PV.mark1 bareF) xs := by
        intro us hus
        refine mapLs_agree (fun y => y.tok1 = [] ∨ ∀ t ∈ y.tok1, t ∈ us) (fun y _ hp => callF_bare hp) (fun y _ ht => ?_)
        rcases ht with h1 | h1
        · exact .inl h1
        · exact .inr fun t htm => hus t (h1 t htm)
      split at h
      · rename_i hus ht hn
        obtain ⟨hpre, rfl, rfl, rfl⟩ := h
        have h0 : ∀ t ∈ PV.allLs PV.tok1 xs, t ∈ ([] : List Nat) := fun t hm => by
          have := (addNew_mem (PV.allLs PV.tok1 xs) []).2 t hm
          rw [hus] at this; exact this
        have hx1 : RepL' (PV.mapLs (PV.mark1 bareF) xs) G w vs := by
          rw [← agree [] h0]
          have : PV.mapLs (PV.mark1 (callF [])) xs = PV.mapLs id xs := by
            refine mapLs_agree (fun _ => True) (fun y hl _ => ?_) (fun _ _ _ => trivial)
            cases y <;> rfl
          rw [this, PV.mapLs_id]; exact hx
        exact fin G _ hi hx1 hpre ht hn hR
      · rename_i us ht hn hne
        obtain ⟨hpre, rfl, rfl, rfl⟩ := h
        obtain ⟨s1, s2⟩ := hi.turn (w' := w) (callF_ok (addNew [] (PV.allLs PV.tok1 xs))) none rfl rfl rfl (Nat.le_refl _) (fun _ _ _ => rfl) (fun t b e => by cases e)
        have hx1 : RepL' (PV.mapLs (PV.mark1 bareF) xs) (G.turn w (callF (addNew [] (PV.allLs PV.tok1 xs))) none) w vs := by
          rw [← agree _ (addNew_mem (PV.allLs PV.tok1 xs) []).2]
          have : ∀ {l : List PV} {us : List Value}, RepL' l G w us → RepL' (PV.mapLs (PV.mark1 (callF (addNew [] (PV.allLs PV.tok1 xs)))) l) (G.turn w (callF (addNew [] (PV.allLs PV.tok1 xs))) none) w us := by
            intro l
            induction l with
            | nil => intro us h; exact h
            | cons x l ih =>
              intro us h
              obtain ⟨u, us', rfl, h1, h2⟩ := h
              exact ⟨u, us', rfl, s2 _ _ h1, ih h2⟩
          exact this hx
        exact fin _ _ s1 hx1 hpre ht hn fun G' w' u tr hr => hR G' w' u ⟨tr.inv, fun y q hy => tr.rep _ _ (s2 y q hy), (hi.turn_le _ _).trans tr.le⟩ hr
      · exact h.elim
  · unfold lendS at h
    obtain ⟨s1, s2⟩ := hi.turn (w' := w) (callF_ok (addNew [] (PV.allLs PV.tok1 xs))) none rfl rfl rfl (Nat.le_refl _) (fun _ _ _ => rfl) (fun t b e => by cases e)
    have hx1 : ∀ {l : List PV} {us : List Value}, RepL' l G w us → RepL' (PV.mapLs (PV.mark1 (callF (addNew [] (PV.allLs PV.tok1 xs)))) l) (G.turn w (callF (addNew [] (PV.allLs PV.tok1 xs))) none) w us := by
      intro l
      induction l with
      | nil => intro us h; exact h
      | cons x l ih =>
        intro us h
        obtain ⟨u, us', rfl, h1, h2⟩ := h
        exact ⟨u, us', rfl, s2 _ _ h1, ih h2⟩
    refine lend_ok hX s1 hT (lendIs h) (hx1 hx) R fun ms n0 G' w' u hg tr hr => hR G' w' u ⟨tr.inv, fun y q hy => ?_, (hi.turn_le _ _).trans tr.le⟩ hr
    subst hg
    have := tr.rep _ _ (s2 y q hy)
    dsimp only at this ⊢
    rw [mapL_comp (mark_leaf _)] at this
    exact this
end Go.Vc

