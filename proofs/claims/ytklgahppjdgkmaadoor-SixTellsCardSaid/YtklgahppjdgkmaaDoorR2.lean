/- What the proof needs, part 2. -/
import Derived.Orders
import Derived.IntWalk
import Derived.Calls
import Derived.Test.YtklgahppjdgkmaaDoorR1
/- A calculus of Go's functions by their values: new rows, conversions that ask memory. -/
section
set_option linter.unusedVariables false
set_option linter.unusedSectionVars false
set_option linter.unusedSimpArgs false
namespace Go.Vc
open Go.RowKit
variable {P : Program} {cx : Cx} {G : Gh} {lh : List (Nat × PV)} {w : World}

theorem append_nil2 {α : Type} {a b : List α} (h : a ++ b = []) : a = [] ∧ b = [] := List.append_eq_nil_iff.1 h
theorem leaf_deepen {y : PV} {v : Value} (hl : y.leaf = true) (h1 : y.tok1 = []) (h2 : y.nam1 = []) (h : Rep y G w v) : Rep y G.deep w v :=
  Rep.leaf_to (G := G) (G' := G.deep) (w := w) (w' := w) hl (FLe.refl _) (fun n hn => by rw [h2] at hn; cases hn) (fun t ht => by rw [h1] at ht; cases ht) h
mutual
theorem Rep.deepen : ∀ {x : PV} {v : Value}, PV.allL PV.tok1 x = [] → PV.allL PV.nam1 x = [] → Rep x G w v → Rep x G.deep w v
  | .agg l, v, h1, h2, h => by
    obtain ⟨us, g1, g2⟩ := h
    exact ⟨us, RepL.deepen h1 h2 g1, g2⟩
  | .tup l, v, h1, h2, h => by
    obtain ⟨us, g1, g2⟩ := h
    exact ⟨us, RepL'.deepen h1 h2 g1, g2⟩
  | .fn g a b, v, h1, h2, h => by
    obtain ⟨us, vs, g1, g2, g3⟩ := h
    obtain ⟨p1, p2⟩ := append_nil2 h1
    obtain ⟨q1, q2⟩ := append_nil2 h2
    exact ⟨us, vs, RepL'.deepen p1 q1 g1, RepL'.deepen p2 q2 g2, g3⟩
  | .undef, v, h1, h2, h => leaf_deepen rfl h1 h2 h
  | .int k z, v, h1, h2, h => leaf_deepen rfl h1 h2 h
  | .bool b, v, h1, h2, h => leaf_deepen rfl h1 h2 h
  | .str l, v, h1, h2, h => leaf_deepen rfl h1 h2 h
  | .raw u, v, h1, h2, h => leaf_deepen rfl h1 h2 h
  | .arr n r, v, h1, h2, h => leaf_deepen rfl h1 h2 h
  | .row nl r t, v, h1, h2, h => leaf_deepen rfl h1 h2 h
  | .vec nl sz l t, v, h1, h2, h => leaf_deepen rfl h1 h2 h
  | .ep r t i, v, h1, h2, h => leaf_deepen rfl h1 h2 h
  | .epv sz l t i off, v, h1, h2, h => leaf_deepen rfl h1 h2 h
  | .ptr n off, v, h1, h2, h => leaf_deepen rfl h1 h2 h
  | .pix n off i, v, h1, h2, h => leaf_deepen rfl h1 h2 h
  | .asl n off lo len, v, h1, h2, h => leaf_deepen rfl h1 h2 h
  | .gp g off, v, h1, h2, h => leaf_deepen rfl h1 h2 h
  | .gix g off i, v, h1, h2, h => leaf_deepen rfl h1 h2 h
theorem RepL.deepen : ∀ {l : List PV} {us : List Value}, PV.allLs PV.tok1 l = [] → PV.allLs PV.nam1 l = [] → RepL l G w us → RepL l G.deep w us
  | [], us, h1, h2, h => h
  | x :: l, us, h1, h2, h => by
    obtain ⟨u, us', rfl, g1, g2, g3, g4⟩ := h
    obtain ⟨p1, p2⟩ := append_nil2 h1
    obtain ⟨q1, q2⟩ := append_nil2 h2
    exact ⟨u, us', rfl, Rep.deepen p1 q1 g1, g2, g3, RepL.deepen p2 q2 g4⟩
theorem RepL'.deepen : ∀ {l : List PV} {us : List Value}, PV.allLs PV.tok1 l = [] → PV.allLs PV.nam1 l = [] → RepL' l G w us → RepL' l G.deep w us
  | [], us, h1, h2, h => h
  | x :: l, us, h1, h2, h => by
    obtain ⟨u, us', rfl, g1, g4⟩ := h
    obtain ⟨p1, p2⟩ := append_nil2 h1
    obtain ⟨q1, q2⟩ := append_nil2 h2
    exact ⟨u, us', rfl, Rep.deepen p1 q1 g1, RepL'.deepen p2 q2 g4⟩
end
theorem still_row {w' : World} {xs : Array Value} {e : TypeId} {fz : Nat × Nat} (hi : Inv cx G lh w) (hb : Below w.heap.size w w') (hnew : w'.heap[w.heap.size]? = some (.cells xs e fz)) {sz : Nat} {us : List Value} {cap : Nat} (hus : us.length ≤ cap)
    (hc : ∀ (i : Nat) (c : Value), (us.flatMap fun u => u.cells.toList)[i]? = some c → xs[i]? = some c) :
    ∃ G', Turns cx G w none lh G' w' ∧ Sl G' w' false 0 sz us (.slice (some ⟨w.heap.size, 0, none⟩) us.length cap) := by
  obtain ⟨s1, s2⟩ := hi.still_block hb w.heap.size (Nat.le_refl _) (fun o => (us.flatMap fun u => u.cells.toList)[o]?) (fun o u hu => by
    unfold World.cell?; rw [hnew]
    show xs[o]? = some u
    exact hc o u hu)
  refine ⟨_, ⟨s1, s2, fun b o u hu => ?_⟩, .inr ⟨rfl, w.heap.size, 0, cap, rfl, hus, .inl ⟨rfl, fun i c hi => ?_⟩⟩⟩
  · show (if b = w.heap.size then _ else G.F b o) = some u
    rw [if_neg (fun e => by have := cell_lt (hi.fits _ _ _ hu); omega)]; exact hu
  · show (if w.heap.size = w.heap.size then (us.flatMap fun u => u.cells.toList)[0 + i]? else _) = some c
    rw [if_pos rfl, Nat.zero_add]; exact hi
theorem fill_line {sz : Nat} : ∀ {ps : List Nat} {vs : List Value} {n : Nat} {cells : Array Value}, inLine ps n = true → ps.length = vs.length → (∀ u ∈ vs, u.cells.size = sz) → cells.size = (n + vs.length) * sz →
    ∃ cells', Instr.fill (fun i => some (i * sz, sz)) cells (ps.zip vs) = some cells' ∧ cells'.toList = cells.toList.take (n * sz) ++ vs.flatMap fun u => u.cells.toList
  | [], [], n, cells, h1, h2, h3, h4 => ⟨cells, by simp [Instr.fill], by
      have : cells.toList.length ≤ n * sz := by simp [h4]
      rw [List.take_of_length_le this]; simp⟩
  | [], _ :: _, n, cells, h1, h2, h3, h4 => by simp at h2
  | _ :: _, [], n, cells, h1, h2, h3, h4 => by simp at h2
  | i :: ps, v :: vs, n, cells, h1, h2, h3, h4 => by
    unfold inLine at h1
    rw [Bool.and_eq_true] at h1
    have := Nat.eq_of_beq_eq_true h1.1
    subst this
    have hv : v.cells.size = sz := h3 v (List.mem_cons_self ..)
    have hle : i * sz + v.cells.toList.length ≤ cells.size := by
      rw [h4, Array.length_toList, hv, List.length_cons, ← Nat.succ_mul]
      exact Nat.mul_le_mul_right _ (by omega)
    have hsz := setA_size v.cells.toList cells (i * sz) hle
    obtain ⟨cells', r1, r2⟩ := fill_line (sz := sz) (ps := ps) (vs := vs) (n := i + 1) (cells := setA cells (i * sz) v.cells.toList) h1.2 (by simpa using h2) (fun u hu => h3 u (List.mem_cons_of_mem _ hu)) (by rw [hsz, h4, List.length_cons]; congr 1; omega)
    refine ⟨cells', ?_, ?_⟩
    · rw [List.zip_cons_cons, Instr.fill]
      dsimp only
      have hle' : ¬ (i * sz + v.cells.size > cells.size) := by simpa using hle
      rw [if_neg (by simp [hv]; rw [hv] at hle'; omega), zipIdx_foldl]
      exact r1
    · rw [r2, setA_over _ _ _ hle]
      unfold overL
      have e1 : (cells.toList.take (i * sz)).length = i * sz := by
        rw [List.length_take, Array.length_toList]; simp at hle; omega
      have e2 : (v.cells.toList).length = sz := by simpa using hv
      have e3 : (cells.toList.take (i * sz) ++ v.cells.toList).length = i * sz + sz := by rw [List.length_append, e1, e2]
      rw [Nat.succ_mul, List.take_append_of_le_length (Nat.le_of_eq e3.symm), List.take_of_length_le (Nat.le_of_eq e3)]
      simp [List.append_assoc]
theorem allB_get {f : PV → Bool} : ∀ {xs : List PV}, allB f xs = true → ∀ x ∈ xs, f x = true
  | [], _, x, hx => by cases hx
  | y :: l, h, x, hx => by
    unfold allB at h
    rw [Bool.and_eq_true] at h
    rcases List.mem_cons.1 hx with rfl | hx
    · exact h.1
    · exact allB_get h.2 x hx
theorem allU8_get : ∀ {xs : List PV}, allU8 xs → ∀ x ∈ xs, inU8 x.asInt
  | [], _, x, hx => by cases hx
  | [y], h, x, hx => by
    have : x = y := by simpa using hx
    subst this; exact h
  | y :: z :: l, h, x, hx => by
    rcases List.mem_cons.1 hx with rfl | hx
    · exact h.1
    · exact allU8_get h.2 x hx
theorem RepL'.map_vals {f : PV → Value} {xs : List PV} {vs : List Value} (h : RepL' xs G w vs) (hf : ∀ x ∈ xs, ∀ v, Rep x G w v → v = f x) : vs = xs.map f := by
  induction xs generalizing vs with
  | nil => exact h
  | cons x l ih =>
    obtain ⟨u, us', rfl, h1, h2⟩ := h
    rw [List.map_cons, hf x (List.mem_cons_self ..) u h1, ih h2 fun y hy => hf y (List.mem_cons_of_mem _ hy)]
theorem typed_tok {t : TypeId} {x : PV} : PV.allL PV.tok1 (typed P t 0 x) = PV.allL PV.tok1 x ∧ PV.allL PV.nam1 (typed P t 0 x) = PV.allL PV.nam1 x := by
  unfold typed
  split
  · split
    · unfold emptyRow
      split <;> exact ⟨rfl, rfl⟩
    · exact ⟨rfl, rfl⟩
  · exact ⟨rfl, rfl⟩
theorem widE_get {e : TypeId} : ∀ {xs : List PV}, widE P e xs = true → ∀ x ∈ xs, (typed P e 0 x).wid = sizeT P e ∧ x.fit = true
  | [], _, x, hx => by cases hx
  | y :: l, h, x, hx => by
    unfold widE at h
    simp only [Bool.and_eq_true] at h
    rcases List.mem_cons.1 hx with rfl | hx
    · exact ⟨Nat.eq_of_beq_eq_true h.1.1, h.1.2⟩
    · exact widE_get h.2 x hx
theorem RepL'.mem {xs : List PV} {vs : List Value} (h : RepL' xs G w vs) : ∀ v ∈ vs, ∃ x ∈ xs, Rep x G w v := by
  induction xs generalizing vs with
  | nil => intro v hv; rw [show vs = [] from h] at hv; cases hv
  | cons x l ih =>
    obtain ⟨u, us', rfl, h1, h2⟩ := h
    intro v hv
    rcases List.mem_cons.1 hv with rfl | hv
    · exact ⟨x, List.mem_cons_self .., h1⟩
    · obtain ⟨y, hy, h3⟩ := ih h2 v hv
      exact ⟨y, List.mem_cons_of_mem _ hy, h3⟩
theorem buildSlice_ok {t : TypeId} {n : Nat} {ps : List Nat} {xs : List PV} {vs : List Value} {v : PV} (hi : Inv cx G lh w) (h : (buildSliceR P t n ps xs).Is v) (ht : PV.allLs PV.tok1 xs = []) (hn : PV.allLs PV.nam1 xs = []) (hx : RepL' xs G w vs) :
    ∃ u G' w', (Instr.buildSlice t n (ps.zip vs).toArray).run P w = .ok u w' ∧ Turns cx G w none lh G' w' ∧ Rep v G' w' u := by
  unfold buildSliceR at h
  split at h
  · rename_i e hd
    split at h
    · rename_i hc
      simp only [Bool.and_eq_true] at hc
      obtain ⟨⟨⟨⟨⟨⟨c1, c2⟩, c3⟩, c4⟩, c5⟩, c6⟩, c7⟩ := hc
      have e2 := Nat.eq_of_beq_eq_true c2
      have e3 := Nat.eq_of_beq_eq_true c3
      have e6 : n * sizeT P e ≤ 4096 := Nat.le_of_ble_eq_true c6
      have hl := hx.length
      obtain ⟨i, z, hi1, hz1, fz, hw, -⟩ := zero_ok c7
      have hvs : ∀ u ∈ vs, u.cells.size = sizeT P e ∧ Flat u := by
        intro u hu
        obtain ⟨x, hx1, hx2⟩ := hx.mem u hu
        obtain ⟨q1, q2⟩ := widE_get c5 x hx1
        have := Full.fit (typed_ok (P := P) (t := e) (tok := 0) hx2) (typed_fit q2)
        exact ⟨by rw [this.wid, q1], this.flat⟩
      have hfull : ∀ m : Array Value, m.size = n * sizeT P e → ∃ cells', Instr.fill (fun i => some (i * sizeT P e, sizeT P e)) m (ps.zip vs) = some cells' ∧ cells'.toList = vs.flatMap fun u => u.cells.toList := by
        intro m hm
        obtain ⟨cells', r1, r2⟩ := fill_line (n := 0) (cells := m) c1 (by omega) (fun u hu => (hvs u hu).1) (by rw [hm, Nat.zero_add]; congr 1; omega)
        refine ⟨cells', r1, ?_⟩
        rw [r2]; simp
      obtain ⟨u, w', r1, r2, r3⟩ : ∃ cells' w', (Instr.buildSlice t n (ps.zip vs).toArray).run P w = .ok (.slice (some ⟨w.heap.size, 0, none⟩) n n) w' ∧ cells'.toList = (vs.flatMap fun u => u.cells.toList) ∧ w' = w.alloc (.cells cells' e) := by
        have h16 : ¬ (n * sizeT P e > 2 ^ 24) := by
          have : (2 : Nat) ^ 24 = 16777216 := by decide
          omega
        by_cases h0 : n * sizeT P e = 0
        · obtain ⟨cells', k1, k2⟩ := hfull ((Array.range (n * sizeT P e)).map (fun x => (#[] : Array Value)[x % (#[] : Array Value).size]!)) (by simp)
          refine ⟨cells', _, ?_, k2, rfl⟩
          unfold Instr.buildSlice
          simp only [Sem.run_bind, run_underlying hd, Result.andThen_ok, run_size c4]
          rw [if_neg h16, if_pos h0]
          simp only [Sem.run_bind, Sem.run_pure, Result.andThen_ok]
          rw [k1]
          rfl
        · obtain ⟨cells', k1, k2⟩ := hfull ((Array.range (n * sizeT P e)).map (fun x => z.cells[x % z.cells.size]!)) (by simp)
          refine ⟨cells', _, ?_, k2, rfl⟩
          unfold Instr.buildSlice zeroValue typeInfo
          simp only [Sem.run_bind, run_underlying hd, Result.andThen_ok, run_size c4]
          rw [if_neg h16, if_neg h0]
          simp only [Sem.run_bind, run_program, hi1, hz1, Sem.run_pure, Result.andThen_ok]
          rw [k1]
          rfl
      subst r3
      have hb : Below w.heap.size w (w.alloc (.cells u e)) := (Below.refl _ w).alloc (Nat.le_refl _) _
      obtain ⟨G', t1, t2⟩ := still_row (sz := sizeT P e) (us := vs) (cap := n) hi hb (xs := u) (e := e) (fz := (0, 0)) (by show (w.heap.push _)[w.heap.size]? = _; simp) (by omega) (fun j c hj => by
        rw [← r2] at hj
        simpa using hj)
      rw [show vs.length = n by omega] at t2
      refine ⟨_, G', _, r1, t1, ?_⟩
      unfold rowOf at h
      split at h
      · rename_i l hr
        split at h
        · rename_i ha
          rw [Bool.and_eq_true] at ha
          have hs1 := Nat.eq_of_beq_eq_true ha.2
          obtain ⟨hu, rfl⟩ := h.need
          have : vs = (BRow.bytes (xs.map fun x => zByte x.asInt)).vals := by
            rw [RepL'.map_vals (f := fun x => Value.int .u8 ((zByte x.asInt).toNat : Int)) hx (fun x hx v hv => by
              have h1 := allB_get ha.1 x hx
              have h2 := allU8_get hu x hx
              cases x <;> first | (cases h1; done) | skip
              rename_i k z
              cases k <;> first | (cases h1; done) | skip
              rw [show v = _ from hv]
              have h3 : inU8 z := h2
              unfold inU8 at h3
              show Value.int .u8 z = .int .u8 ((zByte z).toNat : Int)
              congr 1
              unfold zByte
              simp
              omega)]
            simp [BRow.vals, Function.comp_def]
          show Sl G' _ false 0 1 _ _
          rw [← this, ← hs1]; exact t2
        · exact h.bad.elim
      · rename_i l hr
        split at h
        · rename_i ha
          rw [Bool.and_eq_true] at ha
          have hs1 := Nat.eq_of_beq_eq_true ha.2
          rw [← h.ok]
          have : vs = (BRow.strs (xs.map PV.asStr)).vals := by
            rw [RepL'.map_vals (f := fun x => Value.string ⟨x.asStr.toArray⟩) hx (fun x hx v hv => by
              have h1 := allB_get ha.1 x hx
              cases x <;> first | (cases h1; done) | skip
              rw [show v = _ from hv]; rfl)]
            simp [BRow.vals, Function.comp_def]
          show Sl G' _ false 0 1 _ _
          rw [← this, ← hs1]; exact t2
        · exact h.bad.elim
      · rename_i k l hr
        split at h
        · rename_i ha
          rw [Bool.and_eq_true] at ha
          have hs1 := Nat.eq_of_beq_eq_true ha.2
          rw [← h.ok]
          have : vs = (BRow.ints k (xs.map PV.asInt)).vals := by
            rw [RepL'.map_vals (f := fun x => Value.int k x.asInt) hx (fun x hx v hv => by
              have h1 := allB_get ha.1 x hx
              cases x <;> first | (cases h1; done) | skip
              rename_i j z
              have := sameKind_eq (show sameKind k j = true from h1)
              subst this
              rw [show v = _ from hv]; rfl)]
            simp [BRow.vals, Function.comp_def]
          show Sl G' _ false 0 1 _ _
          rw [← this, ← hs1]; exact t2
        · exact h.bad.elim
      · rw [← h.ok]
        refine ⟨vs, ?_, fun u hu => hvs u hu, t2⟩
        have h1 : RepL' (xs.map (typed P e 0)) G.deep w vs := by
          have : ∀ {l : List PV} {us : List Value}, PV.allLs PV.tok1 l = [] → PV.allLs PV.nam1 l = [] → RepL' l G w us → RepL' (l.map (typed P e 0)) G.deep w us := by
            intro l
            induction l with
            | nil => intro us _ _ h; exact h
            | cons x l ih =>
              intro us h1 h2 h
              obtain ⟨u, us', rfl, g1, g4⟩ := h
              obtain ⟨p1, p2⟩ := append_nil2 h1
              obtain ⟨q1, q2⟩ := append_nil2 h2
              exact ⟨u, us', rfl, Rep.deepen (by rw [typed_tok.1]; exact p1) (by rw [typed_tok.2]; exact q1) (typed_ok g1), ih p2 q2 g4⟩
          exact this ht hn hx
        exact RepL'.deep (G := G) (G' := G') t1.le h1
    · exact h.bad.elim
  · exact h.bad.elim
theorem run_replicate (z : Array Value) (hz : 0 < z.size) : ∀ n : Nat, ((List.range (n * z.size)).map fun i => z[i % z.size]!) = (List.replicate n z.toList).flatten
  | 0 => by simp
  | n + 1 => by
    rw [List.replicate_succ', List.flatten_concat, ← run_replicate z hz n, Nat.succ_mul, List.range_add, List.map_append, List.map_map]
    congr 1
    apply List.ext_getElem
    · simp
    · intro i h1 h2
      have hi : i < z.size := by simpa using h1
      simp [Function.comp_def, Nat.mod_eq_of_lt hi, hi]
theorem rep_replicate {x : PV} {u : Value} (h : Rep x G w u) : ∀ n, RepL' (List.replicate n x) G w (List.replicate n u)
  | 0 => rfl
  | n + 1 => ⟨u, List.replicate n u, rfl, h, rep_replicate h n⟩
theorem makeSlice_ok {t : TypeId} {x y v : PV} {d : Option Tmp} {f : Option (PV → PV)} {lh' : List (Nat × PV)} {a b : Value} (hi : Inv cx G lh w) (h : (makeSliceS P t x y d lh).Is v f lh lh') (ha : Rep x G w a) (hb : Rep y G w b) :
    ∃ u G' w', (Instr.makeSlice t a b).run P w = .ok u w' ∧ Turns cx G w f lh' G' w' ∧ Rep v G' w' u := by
  unfold makeSliceS at h
  split at h
  · rename_i e k1 n k2 c tk hd hnm
    split at h
    · rename_i hel
      obtain ⟨e1, e2, i, z, hi1, hz1, hs1, hzs, hby, fz⟩ := elemOk_of hel
      have ht : tk ≠ 0 := by have := nameOf_ge hnm; omega
      have hft : stillF tk tk ≠ some tk := by
        show some (bif Nat.beq tk tk then 0 else tk) ≠ some tk
        rw [Nat.beq_refl]
        intro e; injection e with e; exact ht e.symm
      have main : 0 ≤ n ∧ n ≤ c ∧ c ≤ 16777216 → ∃ u G' w', (Instr.makeSlice t a b).run P w = .ok u w' ∧ Turns cx G w (some (PV.mark1 (stillF tk))) (turnB (PV.mark1 (stillF tk)) lh) G' w' ∧ Sl G' w' false tk (sizeT P e) (List.replicate n.toNat z) u := by
        intro hn
        rw [show a = _ from ha, show b = _ from hb]
        obtain ⟨N, rfl⟩ : ∃ N : Nat, n = N := ⟨n.toNat, by omega⟩
        obtain ⟨C, rfl⟩ : ∃ C : Nat, c = C := ⟨c.toNat, by omega⟩
        have hwn : IntKind.i64.wrap (N : Int) = N := IntWalk.i64_in _ ⟨by omega, by omega⟩
        have hwc : IntKind.i64.wrap (C : Int) = C := IntWalk.i64_in _ ⟨by omega, by omega⟩
        have hbb : (i.bytes : Int) * (C : Int) ≤ 1099511627776 := by
          have : i.bytes * C ≤ 65536 * 16777216 := Nat.mul_le_mul hby (by omega)
          have e : ((i.bytes * C : Nat) : Int) = (i.bytes : Int) * (C : Int) := by simp
          omega
        have hcond : ((((decide ((C : Int) < 0) || decide ((i.bytes : Int) * (C : Int) > 2 ^ 48)) || decide ((N : Int) < 0)) || decide ((N : Int) > (C : Int))) = true) = False := by
          have hbig : ¬ ((i.bytes : Int) * (C : Int) > 2 ^ 48) := by
            rw [show (2 : Int) ^ 48 = 281474976710656 by decide]
            omega
          have h1 : ¬ ((C : Int) < 0) := by omega
          have h2 : ¬ ((N : Int) < 0) := by omega
          have h3 : ¬ ((N : Int) > (C : Int)) := by omega
          simp only [decide_eq_false h1, decide_eq_false h2, decide_eq_false h3, decide_eq_false hbig]
          simp
        obtain ⟨cells, r1, r2, hcs⟩ : ∃ cells : Array Value, (Instr.makeSlice t (.int k1 N) (.int k2 C)).run P w = .ok (.slice (some ⟨w.heap.size, 0, none⟩) N C) (w.alloc (.cells cells e)) ∧ cells.toList = (List.replicate C z.cells.toList).flatten ∧ cells.size = C * sizeT P e := by
          by_cases h0 : C * sizeT P e = 0
          · refine ⟨(Array.range (C * sizeT P e)).map (fun x => (#[] : Array Value)[x % (#[] : Array Value).size]!), ?_, ?_, by simp⟩
            · unfold Instr.makeSlice typeInfo asInt
              simp only [Sem.run_bind, run_program, Result.andThen_ok, hi1, Sem.run_pure, run_underlying hd, run_asIntOf, hwn, hwc, Sem.run_ite, run_askRoom, run_size e1]
              rw [if_neg (by rw [hcond]; exact id)]
              simp only [Int.toNat_natCast]
              rw [if_pos h0]
              rfl
            · rw [h0]
              have : (List.replicate C z.cells.toList).flatten = [] := by
                rcases Nat.mul_eq_zero.1 h0 with h | h
                · subst h; rfl
                · have hz0 : z.cells.toList = [] := List.eq_nil_of_length_eq_zero (by rw [Array.length_toList, hzs]; exact h)
                  rw [hz0]; simp
              rw [this]; simp
          · refine ⟨(Array.range (C * sizeT P e)).map (fun x => z.cells[x % z.cells.size]!), ?_, ?_, by simp⟩
            · unfold Instr.makeSlice zeroValue typeInfo asInt
              simp only [Sem.run_bind, run_program, Result.andThen_ok, hi1, hz1, Sem.run_pure, run_underlying hd, run_asIntOf, hwn, hwc, Sem.run_ite, run_askRoom, run_size e1]
              rw [if_neg (by rw [hcond]; exact id)]
              simp only [Int.toNat_natCast]
              rw [if_neg h0]
              rfl
            · have hpos : 0 < z.cells.size := by
                rw [hzs]
                exact Nat.pos_of_ne_zero fun e => h0 (by rw [e, Nat.mul_zero])
              have hsz : z.cells.size = sizeT P e := hzs
              rw [← run_replicate z.cells hpos C, hsz]
              simp
        have hfl : ∀ m, ((List.replicate m z).flatMap fun u => u.cells.toList) = (List.replicate m z.cells.toList).flatten := by
          intro m
          induction m with
          | zero => rfl
          | succ m ih => rw [List.replicate_succ, List.flatMap_cons, ih, List.replicate_succ, List.flatten_cons]
        obtain ⟨s1, s2⟩ := grown_ok (w' := w.alloc (.cells cells e)) (us := List.replicate N z) (sz := sizeT P e) (cap := C) hi (stillF_ok tk) hft ht rfl rfl rfl rfl (fun j hj hh => by have := hh.2; simp at this) (Nat.le_of_eq hcs.symm) (by simp; omega) (fun j q hj => by
          rw [hfl] at hj
          rw [← Array.getElem?_toList, r2]
          have : (List.replicate C z.cells.toList).flatten = (List.replicate N z.cells.toList).flatten ++ (List.replicate (C - N) z.cells.toList).flatten := by
            rw [← List.flatten_append, List.replicate_append_replicate, show N + (C - N) = C by omega]
          rw [this, List.getElem?_append_left (List.getElem?_eq_some_iff.1 hj).1]
          exact hj)
        rw [List.length_replicate] at s2
        exact ⟨_, _, _, r1, s1, s2⟩
      have row : ∀ (r : BRow) (zv : Value), z = zv → sizeT P e = 1 → r.vals = List.replicate n.toNat zv → 0 ≤ n ∧ n ≤ c ∧ c ≤ 16777216 → ∃ u G' w', (Instr.makeSlice t a b).run P w = .ok u w' ∧ Turns cx G w (some (PV.mark1 (stillF tk))) (turnB (PV.mark1 (stillF tk)) lh) G' w' ∧ Rep (.row false r tk) G' w' u := by
        intro r zv hzv hsz hv hn
        obtain ⟨u, G', w', r1, r2, r3⟩ := main hn
        refine ⟨u, G', w', r1, r2, ?_⟩
        show Sl G' w' false tk 1 r.vals u
        rw [hv, ← hzv, ← hsz]; exact r3
      have zi : ∀ k, P.underlying e = some (.int k) → zeroV P 5 e 0 = .int k 0 → z = .int k 0 ∧ sizeT P e = 1 := fun k _ hz => by
        have := (fz G w).rep
        rw [hz] at this
        refine ⟨this, ?_⟩
        rw [← hzs, (fz G w).wid, hz]; rfl
      have zs : zeroV P 5 e 0 = .str [] → z = .string ⟨#[]⟩ ∧ sizeT P e = 1 := fun hz => by
        have := (fz G w).rep
        rw [hz] at this
        refine ⟨this, ?_⟩
        rw [← hzs, (fz G w).wid, hz]; rfl
      dsimp only at h
      split at h
      · rename_i l hr
        obtain ⟨hn, rfl, rfl, rfl⟩ := h
        unfold rowT at hr
        split at hr
        · rename_i hu
          obtain ⟨g1, g2⟩ := zi _ hu (by unfold zeroV; rw [hu])
          exact row _ _ g1 g2 (by simp [BRow.vals]) hn
        · cases hr
        · cases hr
        · cases hr
      · rename_i l hr
        obtain ⟨hn, rfl, rfl, rfl⟩ := h
        unfold rowT at hr
        split at hr
        · cases hr
        · rename_i hu
          obtain ⟨g1, g2⟩ := zs (by unfold zeroV; rw [hu])
          exact row _ _ g1 g2 (by simp [BRow.vals]) hn
        · cases hr
        · cases hr
      · rename_i k l hr
        obtain ⟨hn, rfl, rfl, rfl⟩ := h
        unfold rowT at hr
        split at hr
        · cases hr
        · cases hr
        · rename_i k' hne hu
          injection hr with hr; injection hr with hr1 hr2; subst hr1
          obtain ⟨g1, g2⟩ := zi _ hu (by unfold zeroV; rw [hu])
          exact row _ _ g1 g2 (by simp [BRow.vals]) hn
        · cases hr
      · obtain ⟨hn, rfl, rfl, rfl⟩ := h
        obtain ⟨u, G', w', r1, r2, r3⟩ := main hn
        exact ⟨u, G', w', r1, r2, _, rep_replicate (fz _ _).rep n.toNat, (fun u hu => by
          rw [List.eq_of_mem_replicate hu]
          exact ⟨hzs, (fz G w).flat⟩), r3⟩
    · exact h.elim
  · exact h.elim
theorem bytesWorld_push (w : World) (e : TypeId) (s : ByteArray) : (Lib.bytesWorld w e s).heap = w.heap.push (.cells (Lib.bytesCells w e s) e ((Lib.bytesCells w e s).size, (Lib.bytesCells w e s).size + 1)) := by
  apply Array.ext_getElem?
  intro i
  rw [Array.getElem?_push]
  by_cases h : i = w.heap.size
  · subst h; rw [if_pos rfl]; exact Lib.bytesWorld_at_new w e s
  · rw [if_neg h]
    by_cases h2 : i < w.heap.size
    · exact Lib.bytesWorld_at_old w e s i h2
    · rw [Array.getElem?_eq_none (by rw [Lib.bytesWorld_size]; omega), Array.getElem?_eq_none (by omega)]
theorem foldl_push (ns : List Int) : ∀ s : ByteArray, ns.foldl (fun r n => r.push (UInt8.ofNat n.toNat)) s = ⟨s.data ++ (ns.map fun n => UInt8.ofNat n.toNat).toArray⟩ := by
  induction ns with
  | nil => intro s; simp
  | cons n ns ih => intro s; rw [List.foldl_cons, ih]; congr 1; simp [ByteArray.push]
theorem convM_ok {s d : TypeId} {x v : PV} {a : Value} (hi : Inv cx G lh w) (h : (convR P s d x).Is v) (ha : Rep x G w a) : ∃ u G' w', (convert s d a).run P w = .ok u w' ∧ Turns cx G w none lh G' w' ∧ Rep v G' w' u := by
  cases hq : convQ P s d with
  | true =>
    obtain ⟨u, r1, r2⟩ := conv_ok hq h ha
    exact ⟨u, G, w, r1 w, .refl hi, r2⟩
  | false =>
    unfold convR at h
    split at h
    · rename_i k1 k k2 z h1 h2; unfold convQ at hq; rw [h1, h2] at hq; cases hq
    · rename_i l h1 h2; unfold convQ at hq; rw [h1, h2] at hq; cases hq
    · rename_i e l h1 h2
      split at h
      · rename_i q hr
        obtain ⟨hl, rfl⟩ := h.need
        rw [show a = _ from ha]
        have he : P.underlying e = some (.int .u8) := by
          unfold rowT at hr
          split at hr
          · assumption
          · cases hr
          · cases hr
          · cases hr
        have hb : Below w.heap.size w (Lib.bytesWorld w e ⟨l.toArray⟩) := ⟨rfl, rfl, rfl, by rw [Lib.bytesWorld_size]; omega, fun k hk => Lib.bytesWorld_at_old w e _ k hk⟩
        have hls : (⟨l.toArray⟩ : ByteArray).size = l.length := by simp [ByteArray.size]
        have hvl : (BRow.bytes l).vals.length = l.length := by simp [BRow.vals]
        have hge := grownCap_ge w (⟨l.toArray⟩ : ByteArray).size 0 e
        obtain ⟨G', t1, t2⟩ := still_row (sz := 1) (us := (BRow.bytes l).vals) (cap := grownCap w (⟨l.toArray⟩ : ByteArray).size 0 e) (xs := Lib.bytesCells w e ⟨l.toArray⟩) (e := e) (fz := ((Lib.bytesCells w e ⟨l.toArray⟩).size, (Lib.bytesCells w e ⟨l.toArray⟩).size + 1)) hi hb (by rw [bytesWorld_push]; simp) (by rw [hvl]; omega) (fun j c hj => by
          have hfl : ((BRow.bytes l).vals.flatMap fun u => u.cells.toList) = (BRow.bytes l).vals := by
            have h3 : ∀ l : List Value, (∀ u ∈ l, flatV u = true) → (l.flatMap fun u => u.cells.toList) = l := by
              intro l hl
              induction l with
              | nil => rfl
              | cons u l ih => rw [List.flatMap_cons, ih (fun v hv => hl v (List.mem_cons_of_mem _ hv)), cells_one (hl u (List.mem_cons_self ..))]; rfl
            exact h3 _ (vals_flat _)
          rw [hfl] at hj
          have hlt := (List.getElem?_eq_some_iff.1 hj).1
          unfold Lib.bytesCells
          rw [Array.getElem?_append_left (by simpa [BRow.vals] using hlt)]
          simpa [BRow.vals] using hj)
        refine ⟨_, G', _, Lib.run_convert_string_bytes w s d e ⟨l.toArray⟩ h1 h2 he, t1, ?_⟩
        show Sl G' _ false 0 1 _ _
        rw [hls]
        rw [hvl] at t2
        rw [hls] at t2
        exact t2
      · exact h.bad.elim
    · rename_i e nl l tk h1 h2
      split at h
      · rename_i q hr
        rw [← h.ok]
        have he : P.underlying e = some (.int .u8) := by
          unfold rowT at hr
          split at hr
          · assumption
          · cases hr
          · cases hr
          · cases hr
        rcases (show Sl G w nl tk 1 (BRow.bytes l).vals a from ha) with ⟨-, hv, rfl⟩ | ⟨-, b, o, cap, rfl, k2, k3⟩
        · have hl : l = [] := by cases l with | nil => rfl | cons x l => simp [BRow.vals] at hv
          subst hl
          refine ⟨.string ⟨#[]⟩, G, w, ?_, .refl hi, rfl⟩
          rw [run_convert_bytes_string w s d e _ _ _ h1 he h2]
          rfl
        · refine ⟨.string ⟨l.toArray⟩, G, w, ?_, .refl hi, rfl⟩
          have hfl : ((BRow.bytes l).vals.flatMap fun u => u.cells.toList) = (BRow.bytes l).vals := by
            have h3 : ∀ l : List Value, (∀ u ∈ l, flatV u = true) → (l.flatMap fun u => u.cells.toList) = l := by
              intro l hl
              induction l with
              | nil => rfl
              | cons u l ih => rw [List.flatMap_cons, ih (fun v hv => hl v (List.mem_cons_of_mem _ hv)), cells_one (hl u (List.mem_cons_self ..))]; rfl
            exact h3 _ (vals_flat _)
          rw [hfl] at k3
          have hld := run_loadCells_list (P := P) w ⟨b, o, none⟩ (BRow.bytes l).vals (fun j c hj => by rw [Addr.add_lit]; exact k3.cell hi hj)
          rw [run_convert_bytes_string w s d e _ _ _ h1 he h2, run_bytesToString w _ _ cap (l.map fun (c : UInt8) => ((c.toNat : Nat) : Int))]
          · rw [foldl_push]
            show Result.ok (Value.string ⟨#[] ++ _⟩) w = _
            rw [Array.empty_append, List.map_map]
            congr 3
            simp [Function.comp_def]
          · rw [hld]
            simp [BRow.vals, Function.comp_def]
      · exact h.bad.elim
    · exact h.bad.elim
theorem OpR.at_is {r : OpR} {v : PV} {f : Option (PV → PV)} {lh' : List (Nat × PV)} (h : r.at.Is v f lh lh') : r.Is v ∧ f = none ∧ lh' = lh := by
  cases r with
  | ok x => obtain ⟨rfl, h2, h3⟩ := h; exact ⟨.inl rfl, h2, h3⟩
  | need p x => obtain ⟨hp, rfl, h2, h3⟩ := h; exact ⟨.inr ⟨p, rfl, hp⟩, h2, h3⟩
  | bad n => exact h.elim
theorem convS_ok {s d : TypeId} {x v : PV} {t : Option Tmp} {f : Option (PV → PV)} {lh' : List (Nat × PV)} {a : Value} (hi : Inv cx G lh w) (h : (convS P s d x t lh).Is v f lh lh') (ha : Rep x G w a) : ∃ u G' w', (convert s d a).run P w = .ok u w' ∧ Turns cx G w f lh' G' w' ∧ Rep v G' w' u := by
  unfold convS at h
  split at h
  · rename_i p l n hr hnm
    obtain ⟨hp, rfl, rfl, rfl⟩ := h
    unfold convR at hr
    split at hr
    · cases hr
    · cases hr
    · rename_i e l' h1 h2
      split at hr
      · rename_i q hrt
        injection hr with e1 e2
        injection e2 with e3 e4 e5
        injection e4 with e4
        subst e4
        rw [show a = _ from ha]
        have he : P.underlying e = some (.int .u8) := by
          unfold rowT at hrt
          split at hrt
          · assumption
          · cases hrt
          · cases hrt
          · cases hrt
        have ht : n ≠ 0 := by have := nameOf_ge hnm; omega
        have hft : stillF n n ≠ some n := by
          show some (bif Nat.beq n n then 0 else n) ≠ some n
          rw [Nat.beq_refl]
          intro e; injection e with e; exact ht e.symm
        have hls : (⟨l'.toArray⟩ : ByteArray).size = l'.length := by simp [ByteArray.size]
        have hvl : (BRow.bytes l').vals.length = l'.length := by simp [BRow.vals]
        have hge := grownCap_ge w (⟨l'.toArray⟩ : ByteArray).size 0 e
        have hfl : ((BRow.bytes l').vals.flatMap fun u => u.cells.toList) = (BRow.bytes l').vals := flat_vals (vals_flat _)
        obtain ⟨s1, s2⟩ := grown_ok (w' := Lib.bytesWorld w e ⟨l'.toArray⟩) (us := (BRow.bytes l').vals) (sz := 1) (cap := grownCap w (⟨l'.toArray⟩ : ByteArray).size 0 e) (xs := Lib.bytesCells w e ⟨l'.toArray⟩) (e := e) (fz := ((Lib.bytesCells w e ⟨l'.toArray⟩).size, (Lib.bytesCells w e ⟨l'.toArray⟩).size + 1)) hi (stillF_ok n) hft ht (bytesWorld_push ..) rfl rfl rfl
          (fun j hj hh => by have := hh.1; dsimp only at this; omega) (by
            rw [Nat.mul_one]
            unfold Lib.bytesCells
            simp [hls]
            omega) (by rw [hvl]; omega) (fun j c hj => by
          rw [hfl] at hj
          have hlt := (List.getElem?_eq_some_iff.1 hj).1
          unfold Lib.bytesCells
          rw [Array.getElem?_append_left (by simpa [BRow.vals] using hlt)]
          simpa [BRow.vals] using hj)
        refine ⟨_, _, _, Lib.run_convert_string_bytes w s d e ⟨l'.toArray⟩ h1 h2 he, s1, ?_⟩
        show Sl _ _ false n 1 (BRow.bytes l').vals _
        rw [hls]
        rw [hvl, hls] at s2
        exact s2
      · cases hr
    · split at hr <;> cases hr
    · cases hr
  · obtain ⟨h3, rfl, rfl⟩ := OpR.at_is h
    exact convM_ok hi h3 ha
end Go.Vc
end
/- A calculus of Go's functions by their values: calls, every operation. -/
section
set_option linter.unusedVariables false
set_option linter.unusedSectionVars false
set_option linter.unusedSimpArgs false
namespace Go.Vc
open Go.RowKit
variable {P : Program} {cx : Cx} {G : Gh} {lh : List (Nat × PV)} {w : World}

def Fits (F : Nat → Nat → Option Value) (w : World) : Prop := ∀ b o u, F b o = some u → w.cell? ⟨b, o, none⟩ = some u
def bareG (F : Nat → Nat → Option Value) : Gh := ⟨fun _ => none, fun _ => none, F⟩
def Came (F : Nat → Nat → Option Value) (w : World) (r : PV) (u : Value) (w' : World) : Prop :=
  ∃ F', Below w.heap.size w w' ∧ FLe F F' ∧ Fits F' w' ∧ (∀ b o u, F' b o = some u → F b o = some u ∨ w.heap.size ≤ b) ∧ Rep r (bareG F') w' u
def FuncOk [Wd] (P : Program) (T : Tabs) (f : FuncId) (xs : List PV) (c : CallR) : Prop :=
  c.pre → ∀ (F : Nat → Nat → Option Value) (w : World) (vs : List Value), Fits F w → TabR T F → Wd.wd w → RepL' xs (bareG F) w vs →
    ((callFunc f vs.toArray).run P w = .ok (.enter f vs.toArray) w ∧ Calls P f vs.toArray w fun e w' => ∃ u, e = .returned u ∧ Came F w c.r u w') ∨
    (∃ u w', (callFunc f vs.toArray).run P w = .ok (.value u) w' ∧ Came F w c.r u w')
def XOk [Wd] (P : Program) (T : Tabs) (X : Tbl) : Prop := ∀ f xs c, X f xs = some c → FuncOk P T f xs c
theorem TabR.mono {T : Tabs} {F F' : Nat → Nat → Option Value} (h : TabR T F) (hl : FLe F F') : TabR T F' := fun g hg => by
  obtain ⟨u, h1, h2⟩ := h g hg
  exact ⟨u, fun G w hF => h1 G w (hl.trans hF), fun o c hc => hl _ _ _ (h2 o c hc)⟩
theorem Inv.widen {w' : World} {F' : Nat → Nat → Option Value} (h : Inv cx G lh w) (hb : Below w.heap.size w w') (hle : FLe G.F F') (hf : Fits F' w') (hn : ∀ b o u, F' b o = some u → G.F b o = some u ∨ w.heap.size ≤ b) : Turns cx G w none lh ⟨G.σ, G.τ, F'⟩ w' := by
  obtain ⟨h', hr⟩ := h.more hb
  have hr2 : ∀ y v, Rep y G w' v → Rep y ⟨G.σ, G.τ, F'⟩ w' v := fun y v => Rep.same (G := G) (G' := ⟨G.σ, G.τ, F'⟩) (w := w') (w' := w') hle (fun _ _ h => h) (fun t b ht => ⟨ht, rfl⟩)
  have hno : ∀ {b : Nat}, b < w.heap.size → (∀ o, G.F b o = none) → ∀ o, F' b o = none := fun {b} hlt hF o => by
    cases hu : F' b o with
    | none => rfl
    | some u =>
      rcases hn b o u hu with h1 | h1
      · rw [hF] at h1; cases h1
      · omega
  refine ⟨⟨hf, h.base.trans hle, fun b o u hu => ?_, fun n x hx => ?_, fun n b hb' => ?_, fun t b ht => ?_, h.injσ, h.injτ, h.disj, h.par, h'.kept⟩, fun y v hy => hr2 y v (hr y v hy), hle⟩
  · rcases hn b o u hu with h1 | h1
    · exact h.ext b o u h1
    · exact .inr (.inr (Nat.le_trans h.kept.size h1))
  · obtain ⟨b, h1, h2⟩ := h'.box n x hx
    exact ⟨b, h1, h2.same rfl hr2⟩
  · obtain ⟨h1, h2, h3⟩ := h.boxF n b hb'
    exact ⟨h1, hno (h.σlt hb') h2, h3⟩
  · obtain ⟨h1, h2, h3, h4⟩ := h'.mark t b ht
    exact ⟨h1, h2, hno (h.mark t b ht).2.1 h3, h4⟩
mutual
theorem mapL_agree {f g : PV → PV} (p : PV → Prop) : ∀ {x : PV}, (∀ y : PV, y.leaf = true → p y → f y = g y) → (∀ y : PV, y.leaf = true → (y.tok1 = [] ∨ ∀ t ∈ y.tok1, t ∈ PV.allL PV.tok1 x) → p y) → x.mapL f = x.mapL g
  | .agg l, h, hp => by simp only [PV.mapL]; rw [mapLs_agree p h hp]
  | .tup l, h, hp => by simp only [PV.mapL]; rw [mapLs_agree p h hp]
  | .fn q a b, h, hp => by
    simp only [PV.mapL]
    rw [mapLs_agree (l := a) p h (fun y hl ht => hp y hl (ht.imp id fun ht t hm => List.mem_append_left _ (ht t hm))), mapLs_agree (l := b) p h (fun y hl ht => hp y hl (ht.imp id fun ht t hm => List.mem_append_right _ (ht t hm)))]
  | .undef, h, hp => h _ rfl (hp _ rfl (.inl rfl))
  | .int k z, h, hp => h _ rfl (hp _ rfl (.inl rfl))
  | .bool b, h, hp => h _ rfl (hp _ rfl (.inl rfl))
  | .str l, h, hp => h _ rfl (hp _ rfl (.inl rfl))
  | .raw u, h, hp => h _ rfl (hp _ rfl (.inl rfl))
  | .arr n r, h, hp => h _ rfl (hp _ rfl (.inl rfl))
  | .row nl r t, h, hp => h _ rfl (hp _ rfl (.inr fun t ht => ht))
  | .vec nl sz l t, h, hp => h _ rfl (hp _ rfl (.inr fun t ht => ht))
  | .ep r t i, h, hp => h _ rfl (hp _ rfl (.inr fun t ht => ht))
  | .epv sz l t i off, h, hp => h _ rfl (hp _ rfl (.inr fun t ht => ht))
  | .ptr n off, h, hp => h _ rfl (hp _ rfl (.inl rfl))
  | .pix n off i, h, hp => h _ rfl (hp _ rfl (.inl rfl))
  | .asl n off lo len, h, hp => h _ rfl (hp _ rfl (.inl rfl))
  | .gp g off, h, hp => h _ rfl (hp _ rfl (.inl rfl))
  | .gix g off i, h, hp => h _ rfl (hp _ rfl (.inl rfl))
theorem mapLs_agree {f g : PV → PV} (p : PV → Prop) : ∀ {l : List PV}, (∀ y : PV, y.leaf = true → p y → f y = g y) → (∀ y : PV, y.leaf = true → (y.tok1 = [] ∨ ∀ t ∈ y.tok1, t ∈ PV.allLs PV.tok1 l) → p y) → PV.mapLs f l = PV.mapLs g l
  | [], h, hp => rfl
  | x :: l, h, hp => by
    simp only [PV.mapLs]
    rw [mapL_agree (x := x) p h (fun y hl ht => hp y hl (ht.imp id fun ht t hm => List.mem_append_left _ (ht t hm))), mapLs_agree (l := l) p h (fun y hl ht => hp y hl (ht.imp id fun ht t hm => List.mem_append_right _ (ht t hm)))]
end
mutual
theorem bare_tok : ∀ x : PV, PV.allL PV.tok1 (x.mapL (PV.mark1 bareF)) = [] ∧ PV.allL PV.nam1 (x.mapL (PV.mark1 bareF)) = PV.allL PV.nam1 x
  | .agg l => bare_toks l
  | .tup l => bare_toks l
  | .fn q a b => by
    obtain ⟨a1, a2⟩ := bare_toks a
    obtain ⟨b1, b2⟩ := bare_toks b
    exact ⟨by show _ ++ _ = _; rw [a1, b1]; rfl, by show _ ++ _ = _ ++ _; rw [a2, b2]⟩
  | .undef => ⟨rfl, rfl⟩
  | .int k z => ⟨rfl, rfl⟩
  | .bool b => ⟨rfl, rfl⟩
  | .str l => ⟨rfl, rfl⟩
  | .raw u => ⟨rfl, rfl⟩
  | .arr n r => ⟨rfl, rfl⟩
  | .row nl r t => ⟨rfl, rfl⟩
  | .vec nl sz l t => ⟨rfl, rfl⟩
  | .ep r t i => ⟨rfl, rfl⟩
  | .epv sz l t i off => ⟨rfl, rfl⟩
  | .ptr n off => ⟨rfl, rfl⟩
  | .pix n off i => ⟨rfl, rfl⟩
  | .asl n off lo len => ⟨rfl, rfl⟩
  | .gp g off => ⟨rfl, rfl⟩
  | .gix g off i => ⟨rfl, rfl⟩
theorem bare_toks : ∀ l : List PV, PV.allLs PV.tok1 (PV.mapLs (PV.mark1 bareF) l) = [] ∧ PV.allLs PV.nam1 (PV.mapLs (PV.mark1 bareF) l) = PV.allLs PV.nam1 l
  | [] => ⟨rfl, rfl⟩
  | x :: l => by
    obtain ⟨a1, a2⟩ := bare_tok x
    obtain ⟨b1, b2⟩ := bare_toks l
    exact ⟨by show _ ++ _ = _; rw [a1, b1]; rfl, by show _ ++ _ = _ ++ _; rw [a2, b2]⟩
end
theorem addNew_mem : ∀ (ms ns : List Nat), (∀ m ∈ ns, m ∈ addNew ns ms) ∧ ∀ m ∈ ms, m ∈ addNew ns ms
  | [], ns => ⟨fun m h => h, fun m h => by cases h⟩
  | x :: ms, ns => by
    obtain ⟨h1, h2⟩ := addNew_mem ms (bif ns.any (Nat.beq x) then ns else ns ++ [x])
    have hx : ∀ m, m ∈ ns ∨ m = x → m ∈ (bif ns.any (Nat.beq x) then ns else ns ++ [x]) := by
      intro m hm
      cases ha : ns.any (Nat.beq x) with
      | true =>
        rcases hm with hm | rfl
        · exact hm
        · obtain ⟨y, hy, he⟩ := List.any_eq_true.1 ha
          rw [Nat.eq_of_beq_eq_true he]; exact hy
      | false =>
        rcases hm with hm | rfl
        · exact List.mem_append_left _ hm
        · exact List.mem_append_right _ (List.mem_singleton.2 rfl)
    refine ⟨fun m hm => h1 m (hx m (.inl hm)), fun m hm => ?_⟩
    rcases List.mem_cons.1 hm with rfl | hm
    · exact h1 m (hx m (.inr rfl))
    · exact h2 m hm
theorem callF_ok (us : List Nat) : MarkF (callF us) := by
  refine ⟨by unfold callF; cases memN 0 us <;> rfl, fun t _ => .inr ?_⟩
  unfold callF
  cases memN t us with
  | true => exact .inl rfl
  | false => exact .inr rfl
theorem callF_bare {us : List Nat} {y : PV} (h : y.tok1 = [] ∨ ∀ t ∈ y.tok1, t ∈ us) : y.mark1 (callF us) = y.mark1 bareF := by
  have key : ∀ t, (t = 0 ∨ t ∈ us) → callF us t = bareF t := by
    intro t ht
    unfold callF bareF
    rcases ht with rfl | ht
    · cases memN 0 us <;> rfl
    · have : memN t us = true := List.any_eq_true.2 ⟨t, ht, Nat.beq_refl t⟩
      rw [this]; rfl
  have tk : ∀ t, (∀ u ∈ (match t with | 0 => ([] : List Nat) | t + 1 => [t + 1]), u ∈ us) ∨ (match t with | 0 => ([] : List Nat) | t + 1 => [t + 1]) = [] → t = 0 ∨ t ∈ us := by
    intro t ht
    cases t with
    | zero => exact .inl rfl
    | succ t =>
      rcases ht with ht | ht
      · exact .inr (ht _ (List.mem_singleton.2 rfl))
      · cases ht
  cases y with
  | row nl r t =>
    show (match callF us t with | some u => PV.row nl r u | none => .undef) = _
    rw [key t (tk t (by cases t <;> first | exact .inr rfl | exact h.symm))]; rfl
  | vec nl sz l t =>
    show (match callF us t with | some u => PV.vec nl sz l u | none => .undef) = _
    rw [key t (tk t (by cases t <;> first | exact .inr rfl | exact h.symm))]; rfl
  | ep r t i =>
    show (match callF us t with | some u => PV.ep r u i | none => .undef) = _
    rw [key t (tk t (by cases t <;> first | exact .inr rfl | exact h.symm))]; rfl
  | epv sz l t i off =>
    show (match callF us t with | some u => PV.epv sz l u i off | none => .undef) = _
    rw [key t (tk t (by cases t <;> first | exact .inr rfl | exact h.symm))]; rfl
  | _ => rfl
theorem call_ok [Wd] {T : Tabs} {X : Tbl} (hX : XOk P T X) (hi : Inv cx G lh w) (hT : TabC T cx) {f : FuncId} {xs : List PV} {v : PV} {g : Option (PV → PV)} {lh' : List (Nat × PV)} {vs : List Value} (h : (callS X f xs lh).Is v g lh lh') (hx : RepL' xs G w vs) :
    ∀ R : Value → World → Prop, (∀ G' w' u, Turns cx G w g lh' G' w' → Rep v G' w' u → R u w') →
      ((callFunc f vs.toArray).run P w = .ok (.enter f vs.toArray) w ∧ Calls P f vs.toArray w fun e w' => ∃ u, e = .returned u ∧ R u w') ∨ (∃ u w', (callFunc f vs.toArray).run P w = .ok (.value u) w' ∧ R u w') := by
  intro R hR
  unfold callS at h
  split at h
  · rename_i hnam
    split at h
    · exact h.elim
    · rename_i c hc
      -- what a call leaves
      have fin : ∀ (G1 : Gh) (lh1 : List (Nat × PV)), Inv cx G1 lh1 w → RepL' (PV.mapLs (PV.mark1 bareF) xs) G1 w vs → c.pre → PV.allL PV.tok1 c.r = [] → PV.allL PV.nam1 c.r = [] → (∀ G' w' u, Turns cx G1 w none lh1 G' w' → Rep c.r G' w' u → R u w') →
          ((callFunc f vs.toArray).run P w = .ok (.enter f vs.toArray) w ∧ Calls P f vs.toArray w fun e w' => ∃ u, e = .returned u ∧ R u w') ∨ (∃ u w', (callFunc f vs.toArray).run P w = .ok (.value u) w' ∧ R u w') := by
        intro G1 lh1 h1 hx1 hpre _ _ hR1
        obtain ⟨b1, b2⟩ := bare_toks xs
        have hx2 : RepL' (PV.mapLs (PV.mark1 bareF) xs) G1.deep w vs := RepL'.deepen b1 (by rw [b2]; exact hnam) hx1
        have came : ∀ u w', Came G1.F w c.r u w' → R u w' := by
          intro u w' ⟨F', c1, c2, c3, c4, c5⟩
          refine hR1 ⟨G1.σ, G1.τ, F'⟩ w' u (h1.widen c1 c2 c3 c4) ?_
          exact Rep.undeep (G := ⟨G1.σ, G1.τ, F'⟩) c5
        rcases hX f _ c hc hpre G1.F w vs h1.fits (hT.1.mono h1.base) (hT.at h1.kept) hx2 with ⟨r1, r2⟩ | ⟨u, w', r1, r2⟩
        · exact .inl ⟨r1, r2.mono fun e w' ⟨u, he, hcm⟩ => ⟨u, he, came u w' hcm⟩⟩
        · exact .inr ⟨u, w', r1, came u w' r2⟩
      have agree : ∀ us, (∀ t ∈ PV.allLs PV.tok1 xs, t ∈ us) → PV.mapLs (PV.mark1 (callF us)) xs = PV.mapLs (PV.mark1 bareF) xs := by
        intro us hus
        refine mapLs_agree (fun y => y.tok1 = [] ∨ ∀ t ∈ y.tok1, t ∈ us) (fun y _ hp => callF_bare hp) (fun y _ ht => ?_)
        rcases ht with h1 | h1
        · exact .inl h1
        · exact .inr fun t htm => hus t (h1 t htm)
      split at h
      · rename_i hus ht hn
        obtain ⟨hpre, rfl, rfl, rfl⟩ := h
        have h0 : ∀ t ∈ PV.allLs PV.tok1 xs, t ∈ ([] : List Nat) := fun t hm => by
          have := (addNew_mem (PV.allLs PV.tok1 xs) []).2 t hm
          rw [hus] at this; exact this
        have hx1 : RepL' (PV.mapLs (PV.mark1 bareF) xs) G w vs := by
          rw [← agree [] h0]
          have : PV.mapLs (PV.mark1 (callF [])) xs = PV.mapLs id xs := by
            refine mapLs_agree (fun _ => True) (fun y hl _ => ?_) (fun _ _ _ => trivial)
            cases y <;> rfl
          rw [this, PV.mapLs_id]; exact hx
        exact fin G _ hi hx1 hpre ht hn hR
      · rename_i us ht hn hne
        obtain ⟨hpre, rfl, rfl, rfl⟩ := h
        obtain ⟨s1, s2⟩ := hi.turn (w' := w) (callF_ok (addNew [] (PV.allLs PV.tok1 xs))) none rfl rfl rfl (Nat.le_refl _) (fun _ _ _ => rfl) (fun t b e => by cases e)
        have hx1 : RepL' (PV.mapLs (PV.mark1 bareF) xs) (G.turn w (callF (addNew [] (PV.allLs PV.tok1 xs))) none) w vs := by
          rw [← agree _ (addNew_mem (PV.allLs PV.tok1 xs) []).2]
          have : ∀ {l : List PV} {us : List Value}, RepL' l G w us → RepL' (PV.mapLs (PV.mark1 (callF (addNew [] (PV.allLs PV.tok1 xs)))) l) (G.turn w (callF (addNew [] (PV.allLs PV.tok1 xs))) none) w us := by
            intro l
            induction l with
            | nil => intro us h; exact h
            | cons x l ih =>
              intro us h
              obtain ⟨u, us', rfl, h1, h2⟩ := h
              exact ⟨u, us', rfl, s2 _ _ h1, ih h2⟩
          exact this hx
        exact fin _ _ s1 hx1 hpre ht hn fun G' w' u tr hr => hR G' w' u ⟨tr.inv, fun y q hy => tr.rep _ _ (s2 y q hy), (hi.turn_le _ _).trans tr.le⟩ hr
      · exact h.elim
  · exact h.elim
end Go.Vc
end
/- A calculus of Go's functions by their values: every operation. -/
section
set_option linter.unusedVariables false
set_option linter.unusedSectionVars false
set_option linter.unusedSimpArgs false
namespace Go.Vc
open Go.RowKit
variable [Wd] {P : Program} {cx : Cx} {G : Gh} {lh : List (Nat × PV)} {w : World}

theorem RepL'.one {xs : List PV} {u : Value} (h : RepL' xs G w [u]) : ∃ x, xs = [x] ∧ Rep x G w u := by
  cases xs with
  | nil => cases (show [u] = [] from h)
  | cons x l =>
    obtain ⟨u', us', e, h1, h2⟩ := h
    injection e with e1 e2; subst e1; subst e2
    cases l with
    | nil => exact ⟨x, rfl, h1⟩
    | cons y l => obtain ⟨_, _, e, _⟩ := h2; cases e
theorem RepL'.cons {xs : List PV} {u : Value} {us : List Value} (h : RepL' xs G w (u :: us)) : ∃ x l, xs = x :: l ∧ Rep x G w u ∧ RepL' l G w us := by
  cases xs with
  | nil => cases (show u :: us = [] from h)
  | cons x l =>
    obtain ⟨u', us', e, h1, h2⟩ := h
    injection e with e1 e2; subst e1; subst e2
    exact ⟨x, l, rfl, h1, h2⟩
theorem RepL'.two {xs : List PV} {u v : Value} (h : RepL' xs G w [u, v]) : ∃ x y, xs = [x, y] ∧ Rep x G w u ∧ Rep y G w v := by
  obtain ⟨x, l, rfl, h1, h2⟩ := h.cons
  obtain ⟨y, rfl, h3⟩ := h2.one
  exact ⟨x, y, rfl, h1, h3⟩
theorem RepL'.three {xs : List PV} {u v q : Value} (h : RepL' xs G w [u, v, q]) : ∃ x y z, xs = [x, y, z] ∧ Rep x G w u ∧ Rep y G w v ∧ Rep z G w q := by
  obtain ⟨x, l, rfl, h1, h2⟩ := h.cons
  obtain ⟨y, z, rfl, h3, h4⟩ := h2.two
  exact ⟨x, y, z, rfl, h1, h3, h4⟩
def Does (P : Program) (cx : Cx) (G : Gh) (w : World) (o : Oper) (a : Act) (v : PV) (f : Option (PV → PV)) (lh' : List (Nat × PV)) : Prop :=
  ∀ (K : Act → World → Prop) (Q : Exit → Act → World → Prop), (∀ G' w' u, Turns cx G w f lh' G' w' → Rep v G' w' u → K (a.put o.dst u) w') → o.wp P a w K Q
theorem Does.val {o : Oper} {a : Act} {v : PV} {f : Option (PV → PV)} {lh' : List (Nat × PV)} {s : Sem Value} (he : execOp a.eval o = (do Pure.pure (Next.value (← s)))) (h : ∃ u G' w', s.run P w = .ok u w' ∧ Turns cx G w f lh' G' w' ∧ Rep v G' w' u) : Does P cx G w o a v f lh' := by
  intro K Q hK
  obtain ⟨u, G', w', h1, h2, h3⟩ := h
  unfold Oper.wp
  rw [he, Sem.run_bind, h1]
  exact hK G' w' u h2 h3
theorem Does.quiet {o : Oper} {a : Act} {v : PV} {s : Sem Value} (hi : Inv cx G lh w) (he : execOp a.eval o = (do Pure.pure (Next.value (← s)))) (h : Gives P s v G w) : Does P cx G w o a v none lh := by
  obtain ⟨u, h1, h2⟩ := h
  exact .val he ⟨u, G, w, h1 w, .refl hi, h2⟩
theorem Does.pure {o : Oper} {a : Act} {v : PV} {u : Value} (hi : Inv cx G lh w) (he : execOp a.eval o = Pure.pure (Next.value u)) (h : Rep v G w u) : Does P cx G w o a v none lh := by
  intro K Q hK
  unfold Oper.wp
  rw [he]
  exact hK G w u (.refl hi) h
theorem allocS_ok {e : TypeId} {d : Option Tmp} {v : PV} {f : Option (PV → PV)} {lh' : List (Nat × PV)} (h : (allocS P e d lh).Is v f lh lh') : allocS P e d lh = .ok v f lh' := by
  unfold allocS at h ⊢
  split at h
  · split at h
    · obtain ⟨rfl, rfl, rfl⟩ := h; rfl
    · exact h.elim
  · exact h.elim
theorem boxR_ok {e : TypeId} {x : PV} {d : Option Tmp} {v : PV} {f : Option (PV → PV)} {lh' : List (Nat × PV)} (h : (boxR P e x d lh).Is v f lh lh') : boxR P e x d lh = .ok v f lh' := by
  unfold boxR at h ⊢
  split at h
  · split at h
    · obtain ⟨rfl, rfl, rfl⟩ := h; rfl
    · exact h.elim
  · exact h.elim
theorem map_parts (ρ : Operand → Value) (ps : Array (Nat × Operand)) : (ps.map fun (i, x) => (i, ρ x)) = ((ps.toList.map (·.1)).zip ((ps.toList.map (·.2)).map ρ)).toArray := by
  apply Array.ext'
  simp
  induction ps.toList with
  | nil => rfl
  | cons p l ih => simp [ih]
theorem typeds_ok : ∀ {ts : List TypeId} {xs : List PV} {us : List Value}, RepL' xs G w us → RepL' (typeds P ts xs) G w us
  | t :: ts, x :: xs, us, h => by
    obtain ⟨u, us', rfl, h1, h2⟩ := h
    exact ⟨u, us', rfl, typed_ok h1, typeds_ok h2⟩
  | [], xs, us, h => by unfold typeds; exact h
  | _ :: _, [], us, h => by unfold typeds; exact h
theorem opt1 {x : Operand} {a : Act} {y : PV} (h : Rep y G w (a.eval x)) : OptRep G w (some y) ((some x).map a.eval) := h
set_option maxHeartbeats 4000000 in
theorem evOp_ok {T : Tabs} {X : Tbl} (hX : XOk P T X) (hi : Inv cx G lh w) (hm : cx.m ≤ 32) (hT : TabC T cx) {o : Oper} (hnp : ∀ c x y, o.op ≠ .pick c x y) {a : Act} {xs : List PV} {v : PV} {f : Option (PV → PV)} {lh' : List (Nat × PV)}
    (hx : RepL' xs G w (o.op.operands.toList.map a.eval)) (h : (evOp P X T o xs lh).Is v f lh lh') : Does P cx G w o a v f lh' := by
  obtain ⟨dst, op, type, pos, after, guard⟩ := o
  cases op
  case move x =>
    obtain ⟨x0, rfl, h1⟩ := RepL'.one (u := a.eval x) hx
    obtain ⟨rfl, rfl, rfl⟩ := h
    exact .pure hi rfl (typed_ok h1)
  case assign x =>
    obtain ⟨x0, rfl, h1⟩ := RepL'.one (u := a.eval x) hx
    unfold evOp at h
    dsimp only at h
    split at h
    · rename_i e n hc hd hn
      obtain ⟨rfl, rfl, rfl⟩ := h
      have hx0 : a.eval x = .slice none 0 0 := by
        unfold nilConst at hc
        split at hc
        · rfl
        · cases hc
      obtain ⟨s1, s2⟩ := hi.turn (w' := w) (stillF_ok n) none rfl rfl rfl (Nat.le_refl _) (fun _ _ _ => rfl) (fun t b e => by cases e)
      intro K Q hK
      unfold Oper.wp
      show K (a.put dst (a.eval x)) w
      exact hK _ w _ ⟨s1, s2, hi.turn_le _ _⟩ (by rw [hx0]; exact empty_ok n)
    · obtain ⟨rfl, rfl, rfl⟩ := h
      exact .pure hi rfl h1
  case pick c x y => exact absurd rfl (hnp c x y)
  case alloc e =>
    obtain ⟨u, G', w', r1, r2, r3⟩ := alloc_ok hi hm (allocS_ok h)
    exact .val rfl ⟨u, G', w', r1, r2, r3⟩
  case box e x =>
    obtain ⟨x0, rfl, h1⟩ := RepL'.one (u := a.eval x) hx
    obtain ⟨u, G', w', r1, r2, r3⟩ := box_ok hi hm (boxR_ok h) h1
    exact .val rfl ⟨u, G', w', r1, r2, r3⟩
  case build t ps =>
    obtain ⟨h1, rfl, rfl⟩ := OpR.at_is h
    have hx' : RepL' xs G w ((ps.toList.map (·.2)).map a.eval) := by simpa [Op.operands] using hx
    refine .quiet hi (s := Instr.build t (ps.map fun (i, x) => (i, a.eval x))) rfl ?_
    rw [map_parts]
    exact build_ok h1 hx'
  case buildSlice t n ps =>
    have hx' : RepL' xs G w ((ps.toList.map (·.2)).map a.eval) := by simpa [Op.operands] using hx
    unfold evOp at h
    dsimp only at h
    split at h
    · rename_i ht hn
      obtain ⟨h1, rfl, rfl⟩ := OpR.at_is h
      obtain ⟨u, G', w', r1, r2, r3⟩ := buildSlice_ok hi h1 ht hn hx'
      refine .val (s := Instr.buildSlice t n (ps.map fun (i, x) => (i, a.eval x))) rfl ⟨u, G', w', ?_, r2, r3⟩
      rw [map_parts]; exact r1
    · exact h.elim
  case load t x =>
    obtain ⟨x0, rfl, h1⟩ := RepL'.one (u := a.eval x) hx
    obtain ⟨h2, rfl, rfl⟩ := OpR.at_is h
    obtain ⟨u, r1, r2⟩ := loadR_ok hi hT.1 h2 h1
    exact .val rfl ⟨u, G, w, r1, .refl hi, r2⟩
  case store t x y =>
    obtain ⟨x0, y0, rfl, h1, h2⟩ := RepL'.two (u := a.eval x) (v := a.eval y) hx
    obtain ⟨w', r1, r2, rfl⟩ := store_ok hi h h1 h2
    intro K Q hK
    unfold Oper.wp
    show Oper.upon P _ a K Q ((do Instr.storeAt t (a.eval x) (a.eval y); Pure.pure Next.skip : Sem Next).run P w)
    rw [Sem.run_bind, r1]
    exact hK G w' undef r2 ⟨[], rfl, rfl⟩
  case nilCheck x =>
    obtain ⟨x0, rfl, h1⟩ := RepL'.one (u := a.eval x) hx
    unfold evOp at h
    dsimp only at h
    split at h
    · rename_i n off he
      injection he with he; subst he
      obtain ⟨rfl, rfl, rfl⟩ := h
      obtain ⟨b, h2, h3⟩ := h1
      refine .pure hi (u := a.eval x) ?_ ⟨b, h2, h3⟩
      unfold execOp
      dsimp only
      rw [h3]
    · rename_i g p q he
      injection he with he; subst he
      obtain ⟨rfl, rfl, rfl⟩ := h
      obtain ⟨us, vs, h2, h3, h4⟩ := h1
      refine .pure hi (u := a.eval x) ?_ ⟨us, vs, h2, h3, h4⟩
      unfold execOp
      dsimp only
      rw [h4]
    · exact h.elim
  case binOp op t x y yt =>
    obtain ⟨x0, y0, rfl, h1, h2⟩ := RepL'.two (u := a.eval x) (v := a.eval y) hx
    obtain ⟨h3, rfl, rfl⟩ := OpR.at_is h
    exact .quiet hi (s := binSem op t x y (a.eval x) (a.eval y)) rfl (bin_ok h3 h1 h2 x y)
  case unOp op t x =>
    obtain ⟨x0, rfl, h1⟩ := RepL'.one (u := a.eval x) hx
    obtain ⟨h3, rfl, rfl⟩ := OpR.at_is h
    exact .quiet hi rfl (un_ok h3 h1)
  case convert s d x =>
    obtain ⟨x0, rfl, h1⟩ := RepL'.one (u := a.eval x) hx
    cases guard with
    | none => exact .val rfl (convS_ok hi (show (convS P s d x0 dst lh).Is v f lh lh' from h) h1)
    | some g =>
      obtain ⟨h3, rfl, rfl⟩ := OpR.at_is (show (convR P s d x0).at.Is v f lh lh' from h)
      exact .val rfl (convM_ok hi h3 h1)
  case makeSlice t x y =>
    obtain ⟨x0, y0, rfl, h1, h2⟩ := RepL'.two (u := a.eval x) (v := a.eval y) hx
    exact .val rfl (makeSlice_ok hi h h1 h2)
  case slice t x lo hi' mx =>
    cases mx with
    | some m => cases lo <;> cases hi' <;> exact h.elim
    | none =>
      cases lo with
      | none =>
        cases hi' with
        | none =>
          obtain ⟨x0, rfl, h1⟩ := RepL'.one (u := a.eval x) hx
          obtain ⟨h3, rfl, rfl⟩ := OpR.at_is h
          exact .quiet hi rfl (slice_ok h3 h1 trivial trivial)
        | some b =>
          obtain ⟨x0, y0, rfl, h1, h2⟩ := RepL'.two (u := a.eval x) (v := a.eval b) hx
          obtain ⟨h3, rfl, rfl⟩ := OpR.at_is h
          exact .quiet hi rfl (slice_ok h3 h1 trivial (opt1 h2))
      | some q =>
        cases hi' with
        | none =>
          obtain ⟨x0, y0, rfl, h1, h2⟩ := RepL'.two (u := a.eval x) (v := a.eval q) hx
          obtain ⟨h3, rfl, rfl⟩ := OpR.at_is h
          exact .quiet hi rfl (slice_ok h3 h1 (opt1 h2) trivial)
        | some b =>
          obtain ⟨x0, y0, z0, rfl, h1, h2, h4⟩ := RepL'.three (u := a.eval x) (v := a.eval q) (q := a.eval b) hx
          obtain ⟨h3, rfl, rfl⟩ := OpR.at_is h
          exact .quiet hi rfl (slice_ok h3 h1 (opt1 h2) (opt1 h4))
  case fieldAddr t x f =>
    obtain ⟨x0, rfl, h1⟩ := RepL'.one (u := a.eval x) hx
    obtain ⟨h3, rfl, rfl⟩ := OpR.at_is h
    exact .quiet hi rfl (fieldAddr_ok h3 h1)
  case field t x f =>
    obtain ⟨x0, rfl, h1⟩ := RepL'.one (u := a.eval x) hx
    obtain ⟨h3, rfl, rfl⟩ := OpR.at_is h
    exact .quiet hi rfl (field_ok h3 h1)
  case indexAddr t x y =>
    obtain ⟨x0, y0, rfl, h1, h2⟩ := RepL'.two (u := a.eval x) (v := a.eval y) hx
    obtain ⟨h3, rfl, rfl⟩ := OpR.at_is h
    exact .quiet hi rfl (indexAddr_ok h3 h1 h2)
  case index t x y =>
    obtain ⟨x0, y0, rfl, h1, h2⟩ := RepL'.two (u := a.eval x) (v := a.eval y) hx
    obtain ⟨h3, rfl, rfl⟩ := OpR.at_is h
    exact .quiet hi rfl (index_ok h3 h1 h2)
  case extract x i =>
    obtain ⟨x0, rfl, h1⟩ := RepL'.one (u := a.eval x) hx
    unfold evOp at h
    dsimp only at h
    split at h
    · rename_i l he
      injection he with he; subst he
      obtain ⟨h3, rfl, rfl⟩ := OpR.at_is h
      exact .quiet hi rfl (extract_ok h3 h1)
    · exact h.elim
  case call c =>
    obtain ⟨callee, args, argTypes⟩ := c
    cases callee
    case builtin b =>
      have hx' : RepL' xs G w (args.toList.map a.eval) := by simpa [Op.operands, Call.operands] using hx
      have ex : ∀ {us : List Value}, args.toList.map a.eval = us → ∀ (s : Sem Value), (∀ cs : Array Bool, builtin b argTypes type cs us.toArray = (do Pure.pure (Next.value (← s)))) → execOp a.eval ⟨dst, .call ⟨.builtin b, args, argTypes⟩, type, pos, after, guard⟩ = (do Pure.pure (Next.value (← s))) := by
        intro us hus s hs
        show (do let d ← resolve a.eval ⟨.builtin b, args, argTypes⟩ type; invoke d.target d.args) = _
        unfold resolve
        dsimp only
        have : args.map a.eval = us.toArray := by apply Array.ext'; simpa using hus
        rw [this]
        exact hs _
      unfold evOp at h
      dsimp only at h
      split at h
      · rename_i t h0
        split at h
        · rename_i x0
          obtain ⟨h3, rfl, rfl⟩ := OpR.at_is h
          obtain ⟨u, us, hl, h1, h2⟩ := hx'
          obtain rfl : us = [] := h2
          obtain ⟨q, g1, g2⟩ := len_ok (ty := type) h0 h3 (typed_ok (P := P) (t := t) (tok := 0) h1)
          exact .val (s := Builtin.len_ argTypes type #[u]) (ex hl _ fun cs => rfl) ⟨q, G, w, g1 w, .refl hi, g2⟩
        · exact h.elim
      · rename_i t h0
        split at h
        · rename_i tx h1x
          split at h
          · rename_i x0 y0
            obtain ⟨u, us, hl, h1, h2⟩ := hx'
            obtain ⟨u2, us2, rfl, h3, h4⟩ := h2
            obtain rfl : us2 = [] := h4
            obtain ⟨q, G', w', g1, g2, g3⟩ := append_ok (ty := type) h0 h1x hi h (typed_ok h1) (typed_ok h3)
            exact .val (s := Builtin.append_ argTypes type #[u, u2]) (ex hl _ fun cs => rfl) ⟨q, G', w', g1, g2, g3⟩
          · exact h.elim
        · exact h.elim
      · split at h
        · rename_i p q
          obtain ⟨rfl, rfl, rfl⟩ := h
          obtain ⟨u, us, hl, h1, h2⟩ := hx'
          obtain ⟨u2, us2, rfl, h3, h4⟩ := h2
          obtain rfl : us2 = [] := h4
          obtain rfl : u = .int .i64 p := h1
          obtain rfl : u2 = .int .i64 q := h3
          refine .val (s := Builtin.min_ argTypes type #[.int .i64 p, .int .i64 q]) (ex hl _ fun cs => rfl) ⟨_, G, w, rfl, .refl hi, ?_⟩
          show Value.int .i64 (if q < p then q else p) = _
          congr 1
          split <;> omega
        · exact h.elim
      · split at h
        · rename_i p q
          obtain ⟨rfl, rfl, rfl⟩ := h
          obtain ⟨u, us, hl, h1, h2⟩ := hx'
          obtain ⟨u2, us2, rfl, h3, h4⟩ := h2
          obtain rfl : us2 = [] := h4
          obtain rfl : u = .int .i64 p := h1
          obtain rfl : u2 = .int .i64 q := h3
          refine .val (s := Builtin.max_ argTypes type #[.int .i64 p, .int .i64 q]) (ex hl _ fun cs => rfl) ⟨_, G, w, rfl, .refl hi, ?_⟩
          show Value.int .i64 (if q > p then q else p) = _
          congr 1
          split <;> omega
        · exact h.elim
      · exact h.elim
    case value F =>
      have hx' : RepL' xs G w (a.eval F :: args.toList.map a.eval) := by simpa [Op.operands, Call.operands] using hx
      unfold evOp at h
      dsimp only at h
      split at h
      · rename_i g p q ys
        obtain ⟨u, us, e, h1, h2⟩ := hx'
        injection e with e1 e2
        obtain ⟨x1, x2, g1, g2, g3⟩ := h1
        intro K Q hK
        have hargs : RepL' (p ++ typeds P argTypes.toList ys ++ q) G w (x1 ++ us ++ x2) := (g1.append (typeds_ok h2)).append g2
        have hrun : (execOp a.eval ⟨dst, .call ⟨.value F, args, argTypes⟩, type, pos, after, guard⟩).run P w = (callFunc g ((x1 ++ us) ++ x2).toArray).run P w := by
          have : execOp a.eval ⟨dst, .call ⟨.value F, args, argTypes⟩, type, pos, after, guard⟩ = (do let d ← Go.resolve a.eval ⟨.value F, args, argTypes⟩ type; invoke d.target d.args) := rfl
          rw [this]
          unfold Go.resolve Deferred.ofValue invoke
          simp only [e1, g3, Sem.run_bind, Sem.run_pure, Result.andThen_ok]
          congr 2
          apply Array.ext'
          simp [← e2]
        unfold Oper.wp
        rw [hrun]
        rcases call_ok hX hi hT h hargs (fun u w' => K (a.put dst u) w') hK with ⟨r1, r2⟩ | ⟨u, w', r1, r2⟩
        · rw [r1]
          refine r2.mono fun e w' he => ?_
          obtain ⟨u, rfl, hk⟩ := he
          exact hk
        · rw [r1]
          exact r2
      · exact h.elim
    all_goals exact h.elim
  all_goals exact h.elim
theorem evOpD_ok {T : Tabs} {X : Tbl} (hX : XOk P T X) (hi : Inv cx G lh w) (hm : cx.m ≤ 32) (hT : TabC T cx) {o : Oper} (hnp : ∀ c x y, o.op ≠ .pick c x y) {a : Act} {xs : List PV} {v : PV} {f : Option (PV → PV)} {lh' : List (Nat × PV)}
    (hx : RepL' xs G w (o.op.operands.toList.map a.eval)) (h : (evOpD P X T o xs lh).Is v f lh lh') : Does P cx G w o a v f lh' := by
  by_cases hc : ∃ s d x, o.op = .convert s d x
  · obtain ⟨dst, op, type, pos, after, guard⟩ := o
    obtain ⟨s, d, x, rfl⟩ := hc
    obtain ⟨x0, rfl, h1⟩ := RepL'.one (u := a.eval x) hx
    obtain ⟨h3, rfl, rfl⟩ := OpR.at_is (show (convR P s d x0).at.Is v f lh lh' from h)
    exact .val rfl (convM_ok hi h3 h1)
  · have : evOpD P X T o xs lh = evOp P X T o xs lh := by
      unfold evOpD
      split
      · rename_i s d x e
        exact absurd ⟨s, d, x, e⟩ hc
      · rfl
    rw [this] at h
    exact evOp_ok hX hi hm hT hnp hx h
end Go.Vc
end
/- A calculus of Go's functions by their values: operations in line. -/
section
set_option linter.unusedVariables false
set_option linter.unusedSectionVars false
set_option linter.unusedSimpArgs false
namespace Go.Vc
open Go.RowKit
variable [Wd] {P : Program} {cx : Cx} {G : Gh} {w : World}

def GuardOn (ops : Array Oper) (tmps : Array Value) (g : Option (Nat × Bool)) : Prop := match g with
  | none => True
  | some (j, b) => yielded ops tmps j = some b
theorem wanted_iff (ops : Array Oper) (tmps : Array Value) (o : Oper) : Region.wanted o (yielded ops tmps) = true ↔ GuardOn ops tmps o.guard := by
  unfold Region.wanted GuardOn
  cases o.guard with
  | none => simp
  | some g => obtain ⟨j, b⟩ := g; simp
structure RegFit (ops : Array Oper) (N : Nat) : Prop where
  apart : ∀ (i j : Nat) o q d, ops[i]? = some o → ops[j]? = some q → i ≠ j → o.dst = some d → q.dst ≠ some d
  guard : ∀ (k : Nat) o, ops[k]? = some o → ∀ j b, o.guard = some (j, b) → j < k
  lt : ∀ (i : Nat) o d, ops[i]? = some o → o.dst = some d → d < N
theorem dstsOk_get : ∀ {l : List Oper}, dstsOk l = true → ∀ (i j : Nat) o q d, l[i]? = some o → l[j]? = some q → i < j → o.dst = some d → q.dst ≠ some d
  | [], h, i, j, o, q, d, h1, h2, hij, hd => by simp at h1
  | p :: l, h, i, j, o, q, d, h1, h2, hij, hd => by
    unfold dstsOk at h
    rw [Bool.and_eq_true] at h
    cases j with
    | zero => omega
    | succ j =>
      have h2' : l[j]? = some q := by simpa using h2
      cases i with
      | zero =>
        have : p = o := by simpa using h1
        subst this
        have h3 := h.1
        rw [hd] at h3
        have h4 := List.all_eq_true.1 h3 q (List.mem_of_getElem? h2')
        intro e
        rw [e] at h4
        simp at h4
      | succ i => exact dstsOk_get h.2 i j o q d (by simpa using h1) h2' (by omega) hd
theorem guardsOk_get {ops : List Oper} : ∀ {l : List Oper} {n : Nat}, guardsOk ops n l = true → ∀ (k : Nat) o, l[k]? = some o → ∀ j b, o.guard = some (j, b) → j < n + k
  | [], n, h, k, o, h1, j, b, hg => by simp at h1
  | p :: l, n, h, k, o, h1, j, b, hg => by
    unfold guardsOk at h
    rw [Bool.and_eq_true] at h
    cases k with
    | zero =>
      have : p = o := by simpa using h1
      subst this
      have h3 := h.1
      rw [hg] at h3
      rw [Bool.and_eq_true] at h3
      have := h3.1
      simpa using this
    | succ k =>
      have := guardsOk_get h.2 k o (by simpa using h1) j b hg
      omega
theorem regFit {ops : Array Oper} {N : Nat} (h : regOk N ops.toList = true) : RegFit ops N := by
  unfold regOk at h
  simp only [Bool.and_eq_true] at h
  obtain ⟨⟨h1, h2⟩, h3⟩ := h
  refine ⟨fun i j o q d hi hj hne hd => ?_, fun k o hk j b hg => ?_, fun i o d hi hd => ?_⟩
  · rw [← Array.getElem?_toList] at hi hj
    rcases Nat.lt_or_ge i j with hij | hij
    · exact dstsOk_get h1 i j o q d hi hj hij hd
    · intro e
      exact dstsOk_get h1 j i q o d hj hi (by omega) e hd
  · rw [← Array.getElem?_toList] at hk
    have := guardsOk_get h2 k o hk j b hg
    omega
  · rw [← Array.getElem?_toList] at hi
    have := List.all_eq_true.1 h3 o (List.mem_of_getElem? hi)
    rw [hd] at this
    simpa using this
structure LRel (cx : Cx) (G : Gh) (ops : Array Oper) (N k : Nat) (s : VS) (a : Act) (w : World) : Prop where
  inv : Inv cx G s.lh w
  env : ∀ t x, lookL t s.loc = none → getN t s.env = some x → Rep x G w (a.tmps.getD t undef)
  loc : ∀ t g v, lookL t s.loc = some (g, v) → (GuardOn ops a.tmps g → Rep v G w (a.tmps.getD t undef)) ∧ ∃ i o, i < k ∧ ops[i]? = some o ∧ o.guard = g ∧ o.dst = some t
  chain : ∀ i o, i < k → ops[i]? = some o → ∀ b, yielded ops a.tmps i = some b → GuardOn ops a.tmps o.guard
  size : N ≤ a.tmps.size
  defers : a.defers = []
section
variable {ops : Array Oper} {N k : Nat} {s : VS} {a : Act}
theorem guardIn_ok (hr : RegFit ops N) (hc : ∀ i o, i < k → ops[i]? = some o → ∀ b, yielded ops a.tmps i = some b → GuardOn ops a.tmps o.guard) : ∀ (n : Nat) (g h : Option (Nat × Bool)), guardIn ops.toList n g h = true → (∀ i b, g = some (i, b) → i < k) → GuardOn ops a.tmps g → GuardOn ops a.tmps h
  | 0, g, h, e, _, _ => by unfold guardIn at e; cases e
  | n + 1, g, h, e, hk, hg => by
    unfold guardIn at e
    split at e
    · trivial
    · rename_i j b
      split at e
      · cases e
      · rename_i i c
        rw [Bool.or_eq_true] at e
        rcases e with e | e
        · rw [Bool.and_eq_true] at e
          have h1 := Nat.eq_of_beq_eq_true e.1
          have h2 : c = b := by simpa using e.2
          subst h1; subst h2
          exact hg
        · have hik := hk i c rfl
          cases ho : ops[i]? with
          | none =>
            have : (ops.toList[i]?).bind (·.guard) = none := by rw [Array.getElem?_toList, ho]; rfl
            rw [this] at e
            cases n with
            | zero => unfold guardIn at e; cases e
            | succ n => unfold guardIn at e; cases e
          | some o =>
            have : (ops.toList[i]?).bind (·.guard) = o.guard := by rw [Array.getElem?_toList, ho]; rfl
            rw [this] at e
            exact guardIn_ok hr hc n o.guard _ e (fun i' b' hg' => by have := hr.guard i o ho i' b' hg'; omega) (hc i o hik ho c hg)
theorem ofValue_ok (v : Value) : Rep (ofValue v) G w v := by
  cases v with
  | agg _ => trivial
  | tuple _ => trivial
  | int k z => exact rfl
  | bool b => exact rfl
  | string s => exact rfl
  | _ => exact ⟨rfl, rfl⟩
theorem LRel.operand (h : LRel cx G ops N k s a w) (hr : RegFit ops N) {g : Option (Nat × Bool)} (hk : ∀ i b, g = some (i, b) → i < k) (hg : GuardOn ops a.tmps g) (x : Operand) : Rep (operandV ops.toList g s x) G w (a.eval x) := by
  cases x with
  | tmp t =>
    unfold operandV
    dsimp only
    cases hl : lookL t s.loc with
    | none =>
      dsimp only
      cases he : getN t s.env with
      | none => trivial
      | some x => exact h.env t x hl he
    | some p =>
      obtain ⟨q, v⟩ := p
      dsimp only
      cases hgi : guardIn ops.toList 9 g q with
      | false => trivial
      | true => exact (h.loc t q v hl).1 (guardIn_ok hr h.chain 9 g q hgi hk hg)
  | const v => exact ofValue_ok v
  | global g => exact rfl
  | func f => exact ⟨[], [], rfl, rfl, rfl⟩
theorem LRel.operands (h : LRel cx G ops N k s a w) (hr : RegFit ops N) {g : Option (Nat × Bool)} (hk : ∀ i b, g = some (i, b) → i < k) (hg : GuardOn ops a.tmps g) : ∀ xs : List Operand, RepL' (xs.map (operandV ops.toList g s)) G w (xs.map a.eval)
  | [] => rfl
  | x :: xs => ⟨_, _, rfl, h.operand hr hk hg x, h.operands hr hk hg xs⟩
def tv (f : Option (PV → PV)) (y : PV) : PV := match f with | none => y | some f => y.mapL f
theorem lookL_turn (f : Option (PV → PV)) (lh : List (Nat × PV)) (t : Nat) (s : VS) : lookL t (s.turn f lh).loc = (lookL t s.loc).map fun p => (p.1, tv f p.2) := by
  cases f with
  | none =>
    show lookL t s.loc = _
    cases lookL t s.loc <;> rfl
  | some f =>
    show lookL t (s.loc.map fun e => (e.1, e.2.1, e.2.2.mapL f)) = _
    induction s.loc with
    | nil => rfl
    | cons e l ih =>
      show (bif Nat.beq e.1 t then some (e.2.1, e.2.2.mapL f) else lookL t (l.map fun e => (e.1, e.2.1, e.2.2.mapL f))) = (bif Nat.beq e.1 t then some e.2 else lookL t l).map _
      cases Nat.beq e.1 t with
      | true => rfl
      | false => exact ih
theorem getN_turn_env (f : Option (PV → PV)) (lh : List (Nat × PV)) (t : Nat) (s : VS) : getN t (s.turn f lh).env = (getN t s.env).map (tv f) := by
  cases f with
  | none =>
    show getN t s.env = _
    cases getN t s.env <;> rfl
  | some f =>
    show getN t (s.env.map fun e => (e.1, e.2.mapL f)) = _
    exact getN_turn f t s.env
theorem turn_lh (f : Option (PV → PV)) (lh : List (Nat × PV)) (s : VS) : (s.turn f lh).lh = lh := by cases f <;> rfl
theorem yielded_put {o : Oper} {d : Option Tmp} {u : Value} {j : Nat} (h : ∀ q t, ops[j]? = some q → q.dst = some t → d ≠ some t) : yielded ops (a.put d u).tmps j = yielded ops a.tmps j := by
  unfold yielded
  cases hj : ops[j]? with
  | none => rfl
  | some q =>
    simp only [Option.bind_some]
    cases ht : q.dst with
    | none => rfl
    | some t =>
      simp only [Option.bind_some]
      cases d with
      | none => rfl
      | some d =>
        have hne : d ≠ t := fun e => h q t hj ht (by rw [e])
        have e : (a.put (some d) u).tmps[t]? = a.tmps[t]? := by
          show (a.tmps.setIfInBounds d u)[t]? = _
          rw [Array.getElem?_setIfInBounds, if_neg hne]
        rw [e]
theorem put_getD {d : Option Tmp} {u : Value} {t : Nat} (h : d ≠ some t) : (a.put d u).tmps.getD t undef = a.tmps.getD t undef := by
  cases d with
  | none => rfl
  | some d =>
    have hne : d ≠ t := fun e => h (by rw [e])
    show (a.tmps.setIfInBounds d u).getD t undef = _
    simp only [Array.getD_eq_getD_getElem?, Array.getElem?_setIfInBounds]
    rw [if_neg hne]
theorem put_same {u : Value} {t : Nat} (h : t < a.tmps.size) : (a.put (some t) u).tmps.getD t undef = u := by
  show (a.tmps.setIfInBounds t u).getD t undef = u
  simp [Array.getD, h]
theorem put_size (a : Act) (d : Option Tmp) (u : Value) : (a.put d u).tmps.size = a.tmps.size := by cases d <;> simp [Act.put]
theorem put_defers (a : Act) (d : Option Tmp) (u : Value) : (a.put d u).defers = a.defers := by cases d <;> rfl
theorem lookL_push {o : Oper} {v : PV} {s : VS} {t : Nat} : lookL t (pushL o v s).loc = if o.dst = some t then some (o.guard, v) else lookL t s.loc := by
  unfold pushL
  cases hd : o.dst with
  | none => simp
  | some d =>
    show (bif Nat.beq d t then some (o.guard, v) else lookL t s.loc) = _
    by_cases e : d = t
    · subst e; rw [Nat.beq_refl, if_pos rfl]; rfl
    · rw [if_neg (fun h => e (by injection h)), show Nat.beq d t = false by rw [Bool.eq_false_iff]; exact fun hh => e (Nat.eq_of_beq_eq_true hh)]; rfl
theorem push_env {o : Oper} {v : PV} {s : VS} : (pushL o v s).env = s.env ∧ (pushL o v s).lh = s.lh := by
  unfold pushL; cases o.dst <;> exact ⟨rfl, rfl⟩
theorem LRel.push (h : LRel cx G ops N k s a w) (hr : RegFit ops N) {o : Oper} (ho : ops[k]? = some o) {f : Option (PV → PV)} {lh' : List (Nat × PV)} {G' : Gh} {w' : World} (tr : Turns cx G w f lh' G' w') {v : PV} {u : Value}
    (hv : GuardOn ops a.tmps o.guard → Rep v G' w' u) (hb : ¬ GuardOn ops a.tmps o.guard → u = undef) : LRel cx G' ops N (k + 1) (pushL o v (s.turn f lh')) (a.put o.dst u) w' := by
  have gon : ∀ {i : Nat} {q : Oper}, i ≤ k → ops[i]? = some q → (GuardOn ops (a.put o.dst u).tmps q.guard ↔ GuardOn ops a.tmps q.guard) := by
    intro i q hik hq
    unfold GuardOn
    cases hg : q.guard with
    | none => exact Iff.rfl
    | some p =>
      obtain ⟨j, b⟩ := p
      have hj := hr.guard i q hq j b hg
      dsimp only
      rw [yielded_put (o := o) fun q' t hq' ht e => hr.apart k j o q' t ho hq' (by omega) e ht]
  refine ⟨by rw [push_env.2, turn_lh]; exact tr.inv, fun t x hl he => ?_, fun t g x hl => ?_, fun i q hi hq b hy => ?_, by rw [put_size]; exact h.size, by rw [put_defers]; exact h.defers⟩
  · rw [lookL_push] at hl
    split at hl
    · cases hl
    · rename_i hd
      rw [lookL_turn] at hl
      rw [push_env.1, getN_turn_env] at he
      rw [Option.map_eq_some_iff] at he
      obtain ⟨y, hy, rfl⟩ := he
      rw [put_getD hd]
      exact tr.rep _ _ (h.env t y (by simpa using hl) hy)
  · rw [lookL_push] at hl
    split at hl
    · rename_i hd
      injection hl with hl; injection hl with h1 h2; subst h1; subst h2
      have hlt : t < a.tmps.size := Nat.lt_of_lt_of_le (hr.lt k o t ho hd) h.size
      refine ⟨fun hg => ?_, k, o, by omega, ho, rfl, hd⟩
      rw [hd, put_same hlt]
      exact hv ((gon (Nat.le_refl k) ho).1 hg)
    · rename_i hd
      rw [lookL_turn, Option.map_eq_some_iff] at hl
      obtain ⟨⟨g', y⟩, hy, e⟩ := hl
      injection e with e1 e2; subst e1; subst e2
      obtain ⟨h1, i, q, hi, hq, hg1, hd1⟩ := h.loc t g' y hy
      refine ⟨fun hg => ?_, i, q, by omega, hq, hg1, hd1⟩
      rw [put_getD hd]
      refine tr.rep _ _ (h1 ?_)
      rw [← hg1] at hg ⊢
      exact (gon (by omega) hq).1 hg
  · by_cases hik : i = k
    · subst hik
      rw [ho] at hq; injection hq with hq; subst hq
      rw [gon (Nat.le_refl _) ho]
      refine Classical.byContradiction fun hng => ?_
      have hu := hb hng
      subst hu
      unfold yielded at hy
      rw [ho] at hy
      simp only [Option.bind_some] at hy
      cases hd : o.dst with
      | none => rw [hd] at hy; cases hy
      | some d =>
        rw [hd] at hy
        simp only [Option.bind_some] at hy
        have hlt : d < a.tmps.size := Nat.lt_of_lt_of_le (hr.lt _ o d ho hd) h.size
        replace hy : (match (a.tmps.setIfInBounds d undef)[d]? with | some (.bool b) => some b | _ => none) = some b := hy
        rw [Array.getElem?_setIfInBounds, if_pos rfl, if_pos hlt] at hy
        cases hy
    · rw [yielded_put (o := o) fun q' t hq' ht e => hr.apart k i o q' t ho hq' (by omega) e ht] at hy
      exact (gon (by omega) hq).2 (h.chain i q (by omega) hq b hy)
theorem underG_ok (h : LRel cx G ops N k s a w) (hr : RegFit ops N) : ∀ (n : Nat) (g : Option (Nat × Bool)) (p : Prop), underG ops.toList s n g p → (∀ i b, g = some (i, b) → i < k) → GuardOn ops a.tmps g → p
  | 0, g, p, hu, _, _ => by unfold underG at hu; exact hu.elim
  | n + 1, g, p, hu, hk, hg => by
    unfold underG at hu
    split at hu
    · exact hu
    · rename_i j wv
      split at hu
      · exact hu.elim
      · rename_i o ho
        have ho' : ops[j]? = some o := by rw [← Array.getElem?_toList]; exact ho
        split at hu
        · rename_i x g' b hl
          rw [Option.bind_eq_some_iff] at hl
          obtain ⟨t, ht, hl⟩ := hl
          have hjk := hk j wv rfl
          obtain ⟨h1, i, q, hi, hq, hg1, hd1⟩ := h.loc t g' (.bool b) hl
          have hij : i = j := Classical.byContradiction fun hne => hr.apart i j q o t hq ho' hne hd1 ht
          subst hij
          rw [ho'] at hq; injection hq with hq; subst hq
          have hgo := h.chain i o hi ho' wv hg
          have hrep := h1 (by rw [← hg1]; exact hgo)
          have hbw : b = wv := by
            have hy : yielded ops a.tmps i = some wv := hg
            unfold yielded at hy
            rw [ho'] at hy
            simp only [Option.bind_some, ht] at hy
            have hlt : t < a.tmps.size := Nat.lt_of_lt_of_le (hr.lt _ o t ho' ht) h.size
            have e : a.tmps[t]? = some (.bool b) := by
              have : a.tmps.getD t undef = .bool b := hrep
              rw [Array.getD, dif_pos hlt] at this
              rw [Array.getElem?_eq_getElem hlt]
              exact congrArg some this
            rw [e] at hy
            injection hy
          have := underG_ok h hr n o.guard _ hu (fun i' b' hg' => by have := hr.guard i o ho' i' b' hg'; omega) hgo
          subst hbw
          cases b with
          | true => exact this rfl
          | false => exact this rfl
        · exact hu.elim
theorem LRel.does {T : Tabs} {X : Tbl} (h : LRel cx G ops N k s a w) (hX : XOk P T X) (hm : cx.m ≤ 32) (hT : TabC T cx) (hr : RegFit ops N) {o : Oper} (ho : ops[k]? = some o) (hg : GuardOn ops a.tmps o.guard) {v : PV} {f : Option (PV → PV)} {lh' : List (Nat × PV)}
    (he : (evOp P X T o (operandsV ops.toList o s) s.lh).Is v f s.lh lh') : Does P cx G w o a v f lh' := by
  have hk : ∀ i b, o.guard = some (i, b) → i < k := hr.guard k o ho
  by_cases hp : ∃ c x y, o.op = .pick c x y
  · obtain ⟨c, x, y, hop⟩ := hp
    have base : RepL' ([c, x, y].map (operandV ops.toList o.guard s)) G w ([c, x, y].map a.eval) := h.operands hr hk hg _
    have hc : Rep (operandV ops.toList o.guard s c) G w (a.eval c) := h.operand hr hk hg c
    have fin : ∀ (b : Bool) (p q : PV), evOp P X T o [.bool b, p, q] s.lh = .val (pickV b p q) → a.eval c = .bool b → (b = true → Rep p G w (a.eval x)) → (b = false → Rep q G w (a.eval y)) → (evOp P X T o [.bool b, p, q] s.lh).Is v f s.lh lh' → Does P cx G w o a v f lh' := by
      intro b p q hev hcb h1 h2 hI
      rw [hev] at hI
      obtain ⟨rfl, rfl, rfl⟩ := hI
      refine .pure h.inv (u := if b = true then a.eval x else a.eval y) ?_ (pick_ok h1 h2)
      unfold execOp
      rw [hop]
      dsimp only
      rw [hcb]
      cases b <;> rfl
    have ev : ∀ b p q, evOp P X T o [.bool b, p, q] s.lh = .val (pickV b p q) := by
      intro b p q
      unfold evOp
      rw [hop]
    have evn : ∀ z p q, (∀ b, z ≠ PV.bool b) → ¬ (evOp P X T o [z, p, q] s.lh).Is v f s.lh lh' := by
      intro z p q hz hI
      unfold evOp at hI
      rw [hop] at hI
      dsimp only at hI
      cases z <;> first | exact hz _ rfl | exact hI
    unfold operandsV at he
    rw [hop] at he
    dsimp only at he
    cases hpg : pickGuard ops.toList s c with
    | none =>
      rw [hpg] at he
      dsimp only at he
      replace he : (evOp P X T o [operandV ops.toList o.guard s c, operandV ops.toList o.guard s x, operandV ops.toList o.guard s y] s.lh).Is v f s.lh lh' := he
      generalize hz : operandV ops.toList o.guard s c = z at he hc
      cases z with
      | bool b => exact fin b _ _ (ev b _ _) hc (fun _ => h.operand hr hk hg x) (fun _ => h.operand hr hk hg y) he
      | _ => exact absurd he (evn _ _ _ (fun b e => by cases e))
    | some j =>
      rw [hpg] at he
      dsimp only at he
      generalize hz : operandV ops.toList o.guard s c = z at he hc
      cases z with
      | bool b =>
        have hcb : a.eval c = .bool b := hc
        unfold pickGuard at hpg
        split at hpg
        · rename_i t
          split at hpg
          · rename_i q hl
            obtain ⟨h1, i, o', hi, ho', hg1, hd1⟩ := h.loc t q.1 q.2 hl
            have hj := List.findIdx?_eq_some_iff_getElem.1 hpg
            obtain ⟨hjl, hj2, -⟩ := hj
            have hjo : ops[j]? = some (ops.toList[j]) := by rw [← Array.getElem?_toList]; exact List.getElem?_eq_getElem hjl
            have hjd : (ops.toList[j]).dst = some t := by
              cases hd : (ops.toList[j]).dst with
              | none => rw [hd] at hj2; cases hj2
              | some d => rw [hd] at hj2; rw [Nat.eq_of_beq_eq_true hj2]
            have hij : i = j := Classical.byContradiction fun hne => hr.apart i j o' _ t ho' hjo hne hd1 hjd
            subst hij
            have hlt : t < a.tmps.size := Nat.lt_of_lt_of_le (hr.lt _ _ t hjo hjd) h.size
            have hy : yielded ops a.tmps i = some b := by
              unfold yielded
              rw [hjo]
              simp only [Option.bind_some, hjd]
              have e : a.tmps[t]? = some (.bool b) := by
                have : a.tmps.getD t undef = .bool b := hcb
                rw [Array.getD, dif_pos hlt] at this
                rw [Array.getElem?_eq_getElem hlt]
                exact congrArg some this
              rw [e]
            refine fin b _ _ (ev b _ _) hcb (fun hb => ?_) (fun hb => ?_) he
            · subst hb
              exact h.operand hr (g := some (i, true)) (fun i' b' e => by injection e with e; injection e with e1 e2; omega) hy x
            · subst hb
              exact h.operand hr (g := some (i, false)) (fun i' b' e => by injection e with e; injection e with e1 e2; omega) hy y
          · cases hpg
        · cases hpg
      | _ => exact absurd he (evn _ _ _ (fun b e => by cases e))
  · have hnp : ∀ c x y, o.op ≠ .pick c x y := fun c x y e => hp ⟨c, x, y, e⟩
    have : operandsV ops.toList o s = o.op.operands.toList.map (operandV ops.toList o.guard s) := by
      unfold operandsV
      split
      · rename_i c x y e
        exact absurd e (hnp c x y)
      · rfl
    rw [this] at he
    exact evOp_ok hX h.inv hm hT hnp (h.operands hr hk hg _) he
theorem forceL_eq {f : PV → (PV → Prop) → Prop} (hf : ∀ x k, f x k = k x) : ∀ (l : List PV) (k : List PV → Prop), forceL f l k = k l
  | [], k => rfl
  | x :: l, k => by unfold forceL; rw [hf, forceL_eq hf l]
theorem forceB_eq (r : BRow) (k : BRow → Prop) : forceB r k = k r := by cases r <;> rfl
theorem forceV_eq : ∀ (n : Nat) (x : PV) (k : PV → Prop), forceV n x k = k x
  | 0, x, k => rfl
  | n + 1, x, k => by
    cases x with
    | arr m r => show forceB r (fun r => k (.arr m r)) = _; exact forceB_eq r _
    | row nl r t => show forceB r (fun r => k (.row nl r t)) = _; exact forceB_eq r _
    | agg l => show forceL (forceV n) l (fun l => k (.agg l)) = _; exact forceL_eq (forceV_eq n) l _
    | tup l => show forceL (forceV n) l (fun l => k (.tup l)) = _; exact forceL_eq (forceV_eq n) l _
    | _ => rfl
theorem forceE_eq : ∀ (l : List (Nat × PV)) (k : List (Nat × PV) → Prop), forceE l k = k l
  | [], k => rfl
  | e :: l, k => by unfold forceE; rw [forceV_eq, forceE_eq l]
theorem evOps_ok {T : Tabs} {X : Tbl} (hX : XOk P T X) (hm : cx.m ≤ 32) (hT : TabC T cx) (hr : RegFit ops N) {Q : Exit → Act → World → Prop} {K : VS → Prop} (hQ : ∀ G s a w, LRel cx G ops N ops.size s a w → K s → Q .normal a w) :
    ∀ (rest : List Oper) (k : Nat) (s : VS) (a : Act) (w : World) (G : Gh), ops.toList.drop k = rest → k ≤ ops.size → LRel cx G ops N k s a w → evOps P X T ops.toList rest s K → wpList P ops Q rest a w
  | [], k, s, a, w, G, hd, hk, h, he => by
    have : k = ops.size := by
      have := List.drop_eq_nil_iff.1 hd
      simp at this; omega
    subst this
    exact hQ G s a w h he
  | o :: os, k, s, a, w, G, hd, hk, h, he => by
    have ho : ops[k]? = some o := by
      rw [← Array.getElem?_toList]
      have := congrArg (fun l => l[0]?) hd
      simpa using this
    have hd' : ops.toList.drop (k + 1) = os := by
      rw [← List.drop_drop, hd]; rfl
    have hk' : k + 1 ≤ ops.size := (Array.getElem?_eq_some_iff.1 ho).1
    have off : ∀ v, ¬ GuardOn ops a.tmps o.guard → evOps P X T ops.toList os (pushL o v s) K → wpList P ops Q (o :: os) a w := by
      intro v hng he'
      show if _ then _ else _
      rw [if_neg (by rw [wanted_iff]; exact hng)]
      exact evOps_ok hX hm hT hr hQ os (k + 1) _ _ w G hd' hk' (h.push hr ho (.refl h.inv) (v := v) (u := undef) (fun hg => absurd hg hng) (fun _ => rfl)) he'
    have on : ∀ v f lh', GuardOn ops a.tmps o.guard → (evOp P X T o (operandsV ops.toList o s) s.lh).Is v f s.lh lh' → evOps P X T ops.toList os (pushL o v (s.turn f lh')) K → wpList P ops Q (o :: os) a w := by
      intro v f lh' hg hI he'
      show if _ then _ else _
      rw [if_pos ((wanted_iff ops a.tmps o).2 hg)]
      left
      refine h.does hX hm hT hr ho hg hI _ _ fun G' w' u tr hv => ?_
      exact evOps_ok hX hm hT hr hQ os (k + 1) _ _ w' G' hd' hk' (h.push hr ho tr (fun _ => hv) (fun hng => absurd hg hng)) he'
    unfold evOps at he
    split at he
    · rename_i v hev
      rw [forceV_eq] at he
      by_cases hg : GuardOn ops a.tmps o.guard
      · exact on v none s.lh hg (by rw [hev]; exact ⟨rfl, rfl, rfl⟩) he
      · exact off v hg he
    · rename_i p v hev hgn
      rw [forceV_eq] at he
      have hg : GuardOn ops a.tmps o.guard := by rw [hgn]; trivial
      exact on v none s.lh hg (by rw [hev]; exact ⟨he.1, rfl, rfl, rfl⟩) he.2
    · rename_i p v g hev hgs
      rw [forceV_eq] at he
      by_cases hg : GuardOn ops a.tmps o.guard
      · have hp : p := underG_ok h hr 9 _ p (by rw [hgs] at *; exact he.1) (hr.guard k o ho) hg
        exact on v none s.lh hg (by rw [hev]; exact ⟨hp, rfl, rfl, rfl⟩) he.2
      · exact off v hg he.2
    · rename_i v f lh' hev hgn
      rw [forceV_eq] at he
      have hg : GuardOn ops a.tmps o.guard := by rw [hgn]; trivial
      exact on v f lh' hg (by rw [hev]; exact ⟨rfl, rfl, rfl⟩) he
    · rename_i p v f lh' hev hgn
      rw [forceV_eq] at he
      have hg : GuardOn ops a.tmps o.guard := by rw [hgn]; trivial
      exact on v f lh' hg (by rw [hev]; exact ⟨he.1, rfl, rfl, rfl⟩) he.2
    · exact he.elim
end
end Go.Vc
end
/- A calculus of Go's functions by their values: operations in any order. -/
section
set_option linter.unusedVariables false
set_option linter.unusedSectionVars false
set_option linter.unusedSimpArgs false
namespace Go.Vc
open Go.RowKit
variable [Wd] {P : Program} {cx : Cx} {G : Gh} {w : World}

theorem inMask_eq (a t : Nat) : inMask a t = a.testBit t := by
  unfold inMask
  show Nat.beq ((a >>> t) &&& 1) 1 = _
  rw [Nat.testBit, Nat.and_comm]
  have : (1 &&& (a >>> t)) = (a >>> t) % 2 := by rw [Nat.and_comm]; exact Nat.and_one_is_mod _
  rw [this]
  rcases Nat.mod_two_eq_zero_or_one (a >>> t) with h | h <;> rw [h] <;> rfl
theorem inMask_or (a t s : Nat) : inMask (orMask a t) s = (inMask a s || decide (t = s)) := by
  rw [inMask_eq, inMask_eq]
  show (a ||| 2 ^ t).testBit s = _
  rw [Nat.testBit_or, Nat.testBit_two_pow]
theorem inMask_lor (a b s : Nat) : inMask (Nat.lor a b) s = (inMask a s || inMask b s) := by
  rw [inMask_eq, inMask_eq, inMask_eq]
  exact Nat.testBit_or a b s
theorem inMask_zero (s : Nat) : inMask 0 s = false := by rw [inMask_eq]; exact Nat.zero_testBit s

def addS (S : Nat → Bool) (i : Nat) : Nat → Bool := fun k => S k || decide (k = i)
theorem addS_of {S : Nat → Bool} {i k : Nat} (h : k ≠ i) : addS S i k = S k := by unfold addS; rw [decide_eq_false h, Bool.or_false]
theorem addS_self {S : Nat → Bool} {i : Nat} : addS S i i = true := by unfold addS; simp
def cntS (S : Nat → Bool) : Nat → Nat
  | 0 => 0
  | k + 1 => cntS S k + (if S k = true then 0 else 1)
theorem cntS_zero {S : Nat → Bool} : ∀ {n}, cntS S n = 0 → ∀ j, j < n → S j = true
  | 0, _, j, h => by omega
  | n + 1, h, j, hj => by
    unfold cntS at h
    by_cases e : j = n
    · subst e
      cases hs : S j with
      | true => rfl
      | false => rw [hs] at h; simp at h
    · exact cntS_zero (n := n) (S := S) (Nat.eq_zero_of_add_eq_zero_right h) j (by omega)
theorem cntS_add {S : Nat → Bool} {i : Nat} (hi : S i = false) : ∀ n, cntS (addS S i) n + (if i < n then 1 else 0) = cntS S n
  | 0 => rfl
  | n + 1 => by
    have ih := cntS_add hi n
    unfold cntS
    by_cases e : n = i
    · subst e
      rw [addS_self, hi]
      rw [if_neg (Nat.lt_irrefl n)] at ih
      rw [if_pos (Nat.lt_succ_self n), if_pos rfl, if_neg (by simp)]
      omega
    · rw [addS_of e]
      by_cases h : i < n
      · rw [if_pos h] at ih; rw [if_pos (by omega : i < n + 1)]; omega
      · rw [if_neg h] at ih; rw [if_neg (by omega : ¬ i < n + 1)]; omega
theorem cntS_none : ∀ n, cntS (fun _ => false) n = n
  | 0 => rfl
  | n + 1 => by unfold cntS; rw [cntS_none n]; rfl
abbrev ofL (listed : Array Bool) : Nat → Bool := fun j => listed.getD j false
theorem ofL_set {listed : Array Bool} {i : Nat} (h : i < listed.size) : ofL (listed.setIfInBounds i true) = addS (ofL listed) i := by
  funext j
  unfold ofL addS
  simp only [Array.getD_eq_getD_getElem?, Array.getElem?_setIfInBounds]
  by_cases e : i = j
  · subst e; rw [if_pos rfl, if_pos h]; simp
  · rw [if_neg e, decide_eq_false (fun x => e x.symm), Bool.or_false]
def maskOf (acc : List Nat) (o : Oper) : Nat := o.after.toList.foldl (fun s e => if Region.binds .any e then Nat.lor (orMask s e.on) (acc.getD e.on 0) else s) 0
theorem mask_fold (acc : List Nat) : ∀ (l : List Edge) (s j : Nat), inMask (l.foldl (fun s e => if Region.binds .any e then Nat.lor (orMask s e.on) (acc.getD e.on 0) else s) s) j = true → inMask s j = true ∨ ∃ e ∈ l, Region.binds .any e = true ∧ (e.on = j ∨ inMask (acc.getD e.on 0) j = true)
  | [], s, j, h => .inl h
  | e :: l, s, j, h => by
    rw [List.foldl_cons] at h
    rcases mask_fold acc l _ j h with h | ⟨e', h1, h2⟩
    · split at h
      · rename_i hb
        rw [inMask_lor, inMask_or, Bool.or_eq_true, Bool.or_eq_true] at h
        rcases h with (h | h) | h
        · exact .inl h
        · exact .inr ⟨e, List.mem_cons_self .., hb, .inl (of_decide_eq_true h)⟩
        · exact .inr ⟨e, List.mem_cons_self .., hb, .inr h⟩
      · exact .inl h
    · exact .inr ⟨e', List.mem_cons_of_mem _ h1, h2⟩
theorem befores_go : ∀ (l : List Oper) (acc : List Nat), ∃ r, l.foldl (fun (acc : List Nat) o => acc ++ [maskOf acc o]) acc = acc ++ r ∧ r.length = l.length ∧ ∀ i o, l[i]? = some o → r[i]? = some (maskOf (acc ++ r.take i) o)
  | [], acc => ⟨[], by simp, rfl, fun i o h => by simp at h⟩
  | o :: l, acc => by
    obtain ⟨r, h1, h2, h3⟩ := befores_go l (acc ++ [maskOf acc o])
    refine ⟨maskOf acc o :: r, by rw [List.foldl_cons, h1, List.append_assoc]; rfl, by simp [h2], fun i o' h => ?_⟩
    cases i with
    | zero => simp at h; subst h; simp
    | succ i =>
      have := h3 i o' (by simpa using h)
      rw [List.getElem?_cons_succ, this, List.take_succ_cons, List.append_assoc]; rfl
theorem befores_spec (ops : List Oper) : (befores ops).length = ops.length ∧ ∀ i o j, ops[i]? = some o → inMask ((befores ops).getD i 0) j = true → ∃ e ∈ o.after, Region.binds .any e = true ∧ (e.on = j ∨ inMask ((befores ops).getD e.on 0) j = true) := by
  obtain ⟨r, h1, h2, h3⟩ := befores_go ops []
  have e : befores ops = r := h1
  rw [e]
  refine ⟨h2, fun i o j ho hm => ?_⟩
  have hr := h3 i o ho
  rw [List.getD_eq_getElem?_getD, hr] at hm
  rcases mask_fold _ _ _ _ (show inMask (o.after.toList.foldl _ 0) j = true from hm) with h | ⟨e, h4, h5, h6⟩
  · rw [inMask_zero] at h; cases h
  · refine ⟨e, Array.mem_toList_iff.1 h4, h5, h6.imp id fun h => ?_⟩
    rw [List.nil_append, List.getD_eq_getElem?_getD, List.getElem?_take] at h
    split at h
    · rw [List.getD_eq_getElem?_getD]; exact h
    · rw [Option.getD_none, inMask_zero] at h; cases h
structure Opn (ops : List Oper) (bf : List Nat) : Prop where
  len : bf.length = ops.length
  bfs : ∀ i o j, ops[i]? = some o → inMask (bf.getD i 0) j = true → ∃ e ∈ o.after, Region.binds .any e = true ∧ (e.on = j ∨ inMask (bf.getD e.on 0) j = true)
  dn : ∀ i o e, ops[i]? = some o → e ∈ o.after → Region.binds .any e = true → e.on < i
  ap : ∀ i j x y, i < j → ops[i]? = some x → ops[j]? = some y → inMask (bf.getD j 0) i = true ∨ apartB ops x y = true
theorem openOk_spec {ops : List Oper} (h : openOk ops (befores ops) = true) : Opn ops (befores ops) := by
  obtain ⟨h1, h2⟩ := befores_spec ops
  unfold openOk at h
  rw [Bool.and_eq_true] at h
  obtain ⟨ha, hb⟩ := h
  refine ⟨h1, h2, fun i o e ho he hbi => ?_, fun i j x y hij hx hy => ?_⟩
  · have := List.all_eq_true.1 ha (o, i) (List.mem_zipIdx_iff_getElem?.2 ho)
    have := List.all_eq_true.1 this e (Array.mem_toList_iff.2 he)
    rw [hbi] at this
    simpa using this
  · have hj : j < (befores ops).length := by rw [h1]; exact (List.getElem?_eq_some_iff.1 hy).1
    have hz : (ops.zip (befores ops))[j]? = some (y, (befores ops)[j]) := List.getElem?_zip_eq_some.2 ⟨hy, List.getElem?_eq_getElem hj⟩
    have := List.all_eq_true.1 hb ((y, (befores ops)[j]), j) (List.mem_zipIdx_iff_getElem?.2 hz)
    have := List.all_eq_true.1 this (x, i) (List.mem_zipIdx_iff_getElem?.2 (by rw [List.getElem?_take, if_pos hij]; exact hx))
    rw [Bool.or_eq_true] at this
    rw [List.getD_eq_getElem?_getD, List.getElem?_eq_getElem hj]
    exact this
theorem apartB_left {ops : List Oper} {x y : Oper} {d : Tmp} (h : apartB ops x y = true) (hd : x.dst = some d) : d ∉ readsOf ops y ∧ y.dst ≠ some d := by
  unfold apartB at h
  rw [hd] at h
  dsimp only at h
  rw [Bool.and_eq_true, Bool.and_eq_true] at h
  obtain ⟨⟨h1, h2⟩, -⟩ := h
  refine ⟨fun hm => ?_, by simpa using h2⟩
  simp [hm] at h1
theorem apartB_right {ops : List Oper} {x y : Oper} {d : Tmp} (h : apartB ops x y = true) (hd : y.dst = some d) : d ∉ readsOf ops x := by
  unfold apartB at h
  rw [hd] at h
  dsimp only at h
  rw [Bool.and_eq_true] at h
  intro hm
  have := h.2
  simp [hm] at this

theorem reads_operand {ops : List Oper} {o : Oper} {t : Tmp} (h : Operand.tmp t ∈ o.op.operands.toList) : t ∈ readsOf ops o :=
  List.mem_append_left _ (List.mem_filterMap.2 ⟨_, h, rfl⟩)
theorem reads_guard {ops : List Oper} {o q : Oper} {j : Nat} {b : Bool} {d : Tmp} (hg : o.guard = some (j, b)) (hq : ops[j]? = some q) (hd : q.dst = some d) : d ∈ readsOf ops o := by
  unfold readsOf
  rw [hg]
  refine List.mem_append_right _ ?_
  dsimp only
  rw [hq]
  simp [hd]
def StepOk (P : Program) (X : Tbl) (T : Tabs) (ops : List Oper) (o : Oper) (s : VS) (v : PV) : Prop :=
  evOpD P X T o (operandsV ops o s) s.lh = .val v ∨ ∃ p, evOpD P X T o (operandsV ops o s) s.lh = .vneed p v ∧ (match o.guard with | none => p | some g => underG ops s 9 (some g) p)
def BarOk (P : Program) (X : Tbl) (T : Tabs) (ops : List Oper) (o : Oper) (s : VS) (v : PV) (f : Option (PV → PV)) (lh : List (Nat × PV)) : Prop :=
  (o.guard = none ∧ (evOp P X T o (operandsV ops o s) s.lh).Is v f s.lh lh) ∨ (f = none ∧ lh = s.lh ∧ (evOp P X T o (operandsV ops o s) s.lh = .val v ∨ ∃ p, evOp P X T o (operandsV ops o s) s.lh = .vneed p v ∧ (match o.guard with | none => p | some g => underG ops s 9 (some g) p)))
def Line (P : Program) (X : Tbl) (T : Tabs) (ops : List Oper) (bf : List Nat) (j : Nat) (o : Oper) (s s' : VS) (v : PV) (f : Option (PV → PV)) (lh : List (Nat × PV)) : Prop :=
  (barB ops bf j = true ∧ s' = pushL o v (s.turn f lh) ∧ BarOk P X T ops o s v f lh) ∨ (barB ops bf j = false ∧ s' = pushL o v s ∧ StepOk P X T ops o s v)
theorem evD_trace {X : Tbl} {T : Tabs} {ops : List Oper} {bf : List Nat} {K : VS → Prop} : ∀ (rest : List Oper) (i : Nat) (s : VS), evD P X T ops bf rest i s K →
    ∃ (st : Nat → VS) (vl : Nat → PV), st 0 = s ∧ (∀ j o, rest[j]? = some o → ∃ f lh, Line P X T ops bf (i + j) o (st j) (st (j + 1)) (vl j) f lh) ∧ K (st rest.length)
  | [], i, s, h => ⟨fun _ => s, fun _ => .undef, rfl, fun j o hj => by simp at hj, h⟩
  | o :: os, i, s, h => by
    have go : ∀ v s' f lh, Line P X T ops bf i o s s' v f lh → evD P X T ops bf os (i + 1) s' K → ∃ (st : Nat → VS) (vl : Nat → PV), st 0 = s ∧ (∀ j q, (o :: os)[j]? = some q → ∃ f lh, Line P X T ops bf (i + j) q (st j) (st (j + 1)) (vl j) f lh) ∧ K (st (o :: os).length) := by
      intro v s' f lh hv he
      obtain ⟨st, vl, h1, h2, h3⟩ := evD_trace os (i + 1) _ he
      refine ⟨fun | 0 => s | j + 1 => st j, fun | 0 => v | j + 1 => vl j, rfl, fun j q hj => ?_, h3⟩
      cases j with
      | zero =>
        have : o = q := by simpa using hj
        subst this
        exact ⟨f, lh, by show Line P X T ops bf i o s (st 0) v f lh; rw [h1]; exact hv⟩
      | succ j =>
        obtain ⟨f, lh, h4⟩ := h2 j q (by simpa using hj)
        exact ⟨f, lh, by show Line P X T ops bf (i + (j + 1)) q (st j) (st (j + 1)) (vl j) f lh; rw [show i + (j + 1) = i + 1 + j by omega]; exact h4⟩
    unfold evD at h
    split at h
    · rename_i hb
      split at h
      · rename_i v hev
        rw [forceV_eq] at h
        exact go v _ none s.lh (.inl ⟨hb, rfl, .inr ⟨rfl, rfl, .inl hev⟩⟩) h
      · rename_i p v hev hg
        rw [forceV_eq] at h
        exact go v _ none s.lh (.inl ⟨hb, rfl, .inr ⟨rfl, rfl, .inr ⟨p, hev, by rw [hg]; exact h.1⟩⟩⟩) h.2
      · rename_i p v g hev hg
        rw [forceV_eq] at h
        exact go v _ none s.lh (.inl ⟨hb, rfl, .inr ⟨rfl, rfl, .inr ⟨p, hev, by rw [hg]; exact h.1⟩⟩⟩) h.2
      · rename_i v f lh hev hg
        rw [forceV_eq] at h
        exact go v _ f lh (.inl ⟨hb, rfl, .inl ⟨hg, by rw [hev]; exact ⟨rfl, rfl, rfl⟩⟩⟩) h
      · rename_i p v f lh hev hg
        rw [forceV_eq] at h
        exact go v _ f lh (.inl ⟨hb, rfl, .inl ⟨hg, by rw [hev]; exact ⟨h.1, rfl, rfl, rfl⟩⟩⟩) h.2
      · exact h.elim
    · rename_i hb
      split at h
      · rename_i v hev
        rw [forceV_eq] at h
        exact go v _ none s.lh (.inr ⟨hb, rfl, .inl hev⟩) h
      · rename_i p v hev hg
        rw [forceV_eq] at h
        exact go v _ none s.lh (.inr ⟨hb, rfl, .inr ⟨p, hev, by rw [hg]; exact h.1⟩⟩) h.2
      · rename_i p v g hev hg
        rw [forceV_eq] at h
        exact go v _ none s.lh (.inr ⟨hb, rfl, .inr ⟨p, hev, by rw [hg]; exact h.1⟩⟩) h.2
      · exact h.elim
structure Trc (P : Program) (X : Tbl) (T : Tabs) (ops : List Oper) (bf : List Nat) (s : VS) (st : Nat → VS) (vl : Nat → PV) : Prop where
  loc : s.loc = []
  zero : st 0 = s
  step : ∀ j o, ops[j]? = some o → ∃ f lh, Line P X T ops bf j o (st j) (st (j + 1)) (vl j) f lh
theorem Trc.far {X : Tbl} {T : Tabs} {ops : List Oper} {bf : List Nat} {s : VS} {st : Nat → VS} {vl : Nat → PV} (h : Trc P X T ops bf s st vl) : ∀ k, k ≤ ops.length →
    (∀ t g v, lookL t (st k).loc = some (g, v) → ∃ i o, i < k ∧ ops[i]? = some o ∧ o.guard = g ∧ o.dst = some t) ∧ (∀ t, lookL t (st k).loc = none → ∀ i o, i < k → ops[i]? = some o → o.dst ≠ some t)
  | 0, _ => by
    rw [h.zero]
    exact ⟨(fun t g v hl => by rw [h.loc] at hl; cases hl), fun t _ i o hi => by omega⟩
  | k + 1, hk => by
    obtain ⟨h3, h4⟩ := h.far k (by omega)
    obtain ⟨o, ho⟩ : ∃ o, ops[k]? = some o := ⟨_, List.getElem?_eq_getElem (by omega)⟩
    have main : ∀ f lh, st (k + 1) = pushL o (vl k) ((st k).turn f lh) → (∀ t g v, lookL t (st (k + 1)).loc = some (g, v) → ∃ i o, i < k + 1 ∧ ops[i]? = some o ∧ o.guard = g ∧ o.dst = some t) ∧ (∀ t, lookL t (st (k + 1)).loc = none → ∀ i o, i < k + 1 → ops[i]? = some o → o.dst ≠ some t) := by
      intro f lh e
      rw [e]
      refine ⟨fun t g v hl => ?_, fun t hl i q hi hq => ?_⟩
      · rw [lookL_push] at hl
        split at hl
        · rename_i hd
          injection hl with hl; injection hl with e1 e2; subst e1
          exact ⟨k, o, by omega, ho, rfl, hd⟩
        · rw [lookL_turn, Option.map_eq_some_iff] at hl
          obtain ⟨⟨g', y⟩, hy, e⟩ := hl
          injection e with e1 e2; subst e1
          obtain ⟨i, q, g1, g2, g3, g4⟩ := h3 t g' y hy
          exact ⟨i, q, by omega, g2, g3, g4⟩
      · rw [lookL_push] at hl
        split at hl
        · cases hl
        · rename_i hd
          by_cases hik : i = k
          · subst hik
            rw [ho] at hq; injection hq with hq; subst hq
            exact hd
          · rw [lookL_turn] at hl
            exact h4 t (by simpa using hl) i q (by omega) hq
    obtain ⟨f, lh, hL⟩ := h.step k o ho
    rcases hL with ⟨-, e, -⟩ | ⟨-, e, -⟩
    · exact main f lh e
    · exact main none (st k).lh (by rw [e]; rfl)
theorem Trc.near {X : Tbl} {T : Tabs} {ops : List Oper} {bf : List Nat} {s : VS} {st : Nat → VS} {vl : Nat → PV} (h : Trc P X T ops bf s st vl) {c : Nat} : ∀ k, c ≤ k → k ≤ ops.length → (∀ i, c ≤ i → i < k → barB ops bf i = false) →
    (st k).env = (st c).env ∧ (st k).lh = (st c).lh ∧ (∀ t g v, lookL t (st k).loc = some (g, v) → (∃ i o, c ≤ i ∧ i < k ∧ ops[i]? = some o ∧ o.guard = g ∧ o.dst = some t ∧ v = vl i) ∨ lookL t (st c).loc = some (g, v))
  | 0, hc, _, _ => by
    obtain rfl : c = 0 := by omega
    exact ⟨rfl, rfl, fun t g v hl => .inr hl⟩
  | k + 1, hc, hk, hb => by
    by_cases hck : c = k + 1
    · subst hck; exact ⟨rfl, rfl, fun t g v hl => .inr hl⟩
    · obtain ⟨h1, h2, h3⟩ := h.near k (by omega) (by omega) (fun i h1 h2 => hb i h1 (by omega))
      obtain ⟨o, ho⟩ : ∃ o, ops[k]? = some o := ⟨_, List.getElem?_eq_getElem (by omega)⟩
      obtain ⟨f, lh, hL⟩ := h.step k o ho
      have hbk := hb k (by omega) (by omega)
      rcases hL with ⟨hb', -, -⟩ | ⟨-, e, -⟩
      · rw [hbk] at hb'; cases hb'
      · rw [e]
        refine ⟨by rw [push_env.1]; exact h1, by rw [push_env.2]; exact h2, fun t g v hl => ?_⟩
        rw [lookL_push] at hl
        split at hl
        · rename_i hd
          injection hl with hl; injection hl with e1 e2; subst e1; subst e2
          exact .inl ⟨k, o, by omega, by omega, ho, rfl, hd, rfl⟩
        · rcases h3 t g v hl with ⟨i, q, g0, g1, g2, g3, g4, g5⟩ | hl
          · exact .inl ⟨i, q, g0, by omega, g2, g3, g4, g5⟩
          · exact .inr hl
structure DRel (cx : Cx) (G : Gh) (ops : Array Oper) (N c : Nat) (s : VS) (vl : Nat → PV) (S : Nat → Bool) (a : Act) (w : World) : Prop where
  inv : Inv cx G s.lh w
  old : ∀ t g v, lookL t s.loc = some (g, v) → GuardOn ops a.tmps g → Rep v G w (a.tmps.getD t undef)
  low : ∀ i, i < c → S i = true
  nobar : ∀ i, c ≤ i → S i = true → barB ops.toList (befores ops.toList) i = false
  env : ∀ t x, (∀ i o, S i = true → ops[i]? = some o → o.dst ≠ some t) → getN t s.env = some x → Rep x G w (a.tmps.getD t undef)
  val : ∀ i o t, c ≤ i → S i = true → ops[i]? = some o → o.dst = some t → GuardOn ops a.tmps o.guard → Rep (vl i) G w (a.tmps.getD t undef)
  chain : ∀ i o, S i = true → ops[i]? = some o → ∀ b, yielded ops a.tmps i = some b → GuardOn ops a.tmps o.guard
  down : ∀ i o e, S i = true → ops[i]? = some o → e ∈ o.after → Region.binds .any e = true → S e.on = true
  inb : ∀ i, S i = true → i < ops.size
  size : N ≤ a.tmps.size
  defers : a.defers = []
structure OFit (ops : Array Oper) (N : Nat) : Prop where
  fit : RegFit ops N
  opn : Opn ops.toList (befores ops.toList)
  gdst : ∀ (k : Nat) (o : Oper), ops[k]? = some o → ∀ j b, o.guard = some (j, b) → ∃ (q : Oper) (d : Tmp), ops[j]? = some q ∧ q.dst = some d
theorem guardsOk_dst {ops : List Oper} : ∀ {l : List Oper} {n : Nat}, guardsOk ops n l = true → ∀ (k : Nat) o, l[k]? = some o → ∀ j b, o.guard = some (j, b) → ∃ q d, ops[j]? = some q ∧ q.dst = some d
  | [], n, h, k, o, h1, j, b, hg => by simp at h1
  | p :: l, n, h, k, o, h1, j, b, hg => by
    unfold guardsOk at h
    rw [Bool.and_eq_true] at h
    cases k with
    | zero =>
      have : p = o := by simpa using h1
      subst this
      have h3 := h.1
      rw [hg] at h3
      rw [Bool.and_eq_true] at h3
      have h4 := h3.2
      split at h4
      · rename_i d hd
        obtain ⟨q, hq, hd⟩ := Option.bind_eq_some_iff.1 hd
        exact ⟨q, d, hq, hd⟩
      · cases h4
    | succ k => exact guardsOk_dst h.2 k o (by simpa using h1) j b hg
theorem oFit {ops : Array Oper} {N : Nat} (h : regOk N ops.toList = true) (ho : openOk ops.toList (befores ops.toList) = true) : OFit ops N := by
  refine ⟨regFit h, openOk_spec ho, fun k o hk j b hg => ?_⟩
  unfold regOk at h
  simp only [Bool.and_eq_true] at h
  rw [← Array.getElem?_toList] at hk
  obtain ⟨q, d, h1, h2⟩ := guardsOk_dst h.1.2 k o hk j b hg
  exact ⟨q, d, by rw [← Array.getElem?_toList]; exact h1, h2⟩
section
variable {ops : Array Oper} {N k c : Nat} {s s0 : VS} {a : Act} {vl : Nat → PV} {st : Nat → VS} {S : Nat → Bool} {X : Tbl} {T : Tabs}
theorem OFit.below (of : OFit ops N) (hd : ∀ i o e, S i = true → ops[i]? = some o → e ∈ o.after → Region.binds .any e = true → S e.on = true) : ∀ (i : Nat) (o : Oper) (j : Nat), ops[i]? = some o → (∀ e ∈ o.after, Region.binds .any e = true → S e.on = true) → inMask ((befores ops.toList).getD i 0) j = true → S j = true := by
  intro i
  induction i using Nat.strongRecOn with
  | _ i ih =>
    intro o j ho hok hm
    obtain ⟨e, he, hb, h⟩ := of.opn.bfs i o j (by rw [Array.getElem?_toList]; exact ho) hm
    have hs := hok e he hb
    rcases h with h | h
    · rw [← h]; exact hs
    · have hlt := of.opn.dn i o e (by rw [Array.getElem?_toList]; exact ho) he hb
      have hi : i < ops.size := (Array.getElem?_eq_some_iff.1 ho).1
      obtain ⟨o', ho'⟩ : ∃ o', ops[e.on]? = some o' := ⟨_, Array.getElem?_eq_getElem (by omega)⟩
      exact ih e.on hlt o' j ho' (fun e' he' hb' => hd e.on o' e' hs ho' he' hb') h
theorem DRel.reads (h : DRel cx G ops N c s vl S a w) (of : OFit ops N) {o : Oper} (ho : ops[k]? = some o) (hok : ∀ e ∈ o.after, Region.binds .any e = true → S e.on = true) {t : Tmp} (ht : t ∈ readsOf ops.toList o) :
    (∀ i q, i < k → ops[i]? = some q → q.dst = some t → S i = true) ∧ (S k = false → ∀ i q, S i = true → ops[i]? = some q → q.dst = some t → i < k) := by
  have ho' : ops.toList[k]? = some o := by rw [Array.getElem?_toList]; exact ho
  refine ⟨fun i q hi hq hd => ?_, fun hk i q hS hq hd => ?_⟩
  · have hq' : ops.toList[i]? = some q := by rw [Array.getElem?_toList]; exact hq
    rcases of.opn.ap i k q o hi hq' ho' with h1 | h1
    · exact of.below h.down k o i ho hok h1
    · exact absurd ht (apartB_left h1 hd).1
  · have hq' : ops.toList[i]? = some q := by rw [Array.getElem?_toList]; exact hq
    refine Classical.byContradiction fun hlt => ?_
    have hne : i ≠ k := fun e => by rw [e, hk] at hS; cases hS
    rcases of.opn.ap k i o q (by omega) ho' hq' with h1 | h1
    · have := of.below h.down i q k hq (fun e he hb => h.down i q e hS hq he hb) h1
      rw [hk] at this; cases this
    · exact absurd ht (apartB_right h1 hd)
theorem DRel.guard (h : DRel cx G ops N c s vl S a w) (of : OFit ops N) {o : Oper} (ho : ops[k]? = some o) (hok : ∀ e ∈ o.after, Region.binds .any e = true → S e.on = true) : ∀ j b, o.guard = some (j, b) → S j = true := by
  intro j b hg
  obtain ⟨q, d, hq, hd⟩ := of.gdst k o ho j b hg
  exact (h.reads of ho hok (reads_guard hg (by rw [Array.getElem?_toList]; exact hq) hd)).1 j q (of.fit.guard k o ho j b hg) hq hd
theorem DRel.guard' (h : DRel cx G ops N c s vl S a w) (of : OFit ops N) {o : Oper} (ho : ops[k]? = some o) (hS : S k = true) : ∀ j b, o.guard = some (j, b) → S j = true :=
  h.guard of ho fun e he hb => h.down k o e hS ho he hb
theorem DRel.guardIn (h : DRel cx G ops N c s vl S a w) (of : OFit ops N) : ∀ (n : Nat) (g q : Option (Nat × Bool)), guardIn ops.toList n g q = true → (∀ i b, g = some (i, b) → S i = true) → GuardOn ops a.tmps g → GuardOn ops a.tmps q
  | 0, g, q, e, _, _ => by unfold Go.Vc.guardIn at e; cases e
  | n + 1, g, q, e, hk, hg => by
    unfold Go.Vc.guardIn at e
    split at e
    · trivial
    · rename_i j b
      split at e
      · cases e
      · rename_i i c
        rw [Bool.or_eq_true] at e
        rcases e with e | e
        · rw [Bool.and_eq_true] at e
          have h1 := Nat.eq_of_beq_eq_true e.1
          have h2 : c = b := by simpa using e.2
          subst h1; subst h2
          exact hg
        · have hik := hk i c rfl
          cases ho : ops[i]? with
          | none =>
            have : (ops.toList[i]?).bind (·.guard) = none := by rw [Array.getElem?_toList, ho]; rfl
            rw [this] at e
            cases n with
            | zero => unfold Go.Vc.guardIn at e; cases e
            | succ n => unfold Go.Vc.guardIn at e; cases e
          | some o =>
            have : (ops.toList[i]?).bind (·.guard) = o.guard := by rw [Array.getElem?_toList, ho]; rfl
            rw [this] at e
            exact h.guardIn of n o.guard _ e (fun i' b' hg' => h.guard' of ho hik i' b' hg') (h.chain i o hik ho c hg)
theorem DRel.operand (h : DRel cx G ops N c s vl S a w) (of : OFit ops N) (tc : Trc P X T ops.toList (befores ops.toList) s0 st vl) (hs : s = st c) (hck : c ≤ k) (hnb : ∀ i, c ≤ i → i < k → barB ops.toList (befores ops.toList) i = false) (hkn : k ≤ ops.size) {g : Option (Nat × Bool)} (hk : ∀ i b, g = some (i, b) → S i = true) (hg : GuardOn ops a.tmps g) (x : Operand)
    (hx : ∀ t, x = .tmp t → (∀ i q, i < k → ops[i]? = some q → q.dst = some t → S i = true) ∧ ∀ i q, S i = true → ops[i]? = some q → q.dst = some t → i < k) : Rep (operandV ops.toList g (st k) x) G w (a.eval x) := by
  cases x with
  | tmp t =>
    obtain ⟨l1, l2, l3⟩ := tc.near k hck (by simpa using hkn) hnb
    have l4 := (tc.far k (by simpa using hkn)).2
    rw [← hs] at l1 l2 l3
    obtain ⟨x1, x2⟩ := hx t rfl
    unfold operandV
    dsimp only
    cases hl : lookL t (st k).loc with
    | none =>
      dsimp only
      rw [l1]
      cases he : getN t s.env with
      | none => trivial
      | some x => exact h.env t x (fun i o hS ho hd => l4 t hl i o (x2 i o hS ho hd) (by rw [Array.getElem?_toList]; exact ho) hd) he
    | some p =>
      obtain ⟨q, v⟩ := p
      dsimp only
      cases hgi : Go.Vc.guardIn ops.toList 9 g q with
      | false => trivial
      | true =>
        rcases l3 t q v hl with ⟨i, o, g0, g1, g2, rfl, g4, rfl⟩ | hl
        · rw [Array.getElem?_toList] at g2
          exact h.val i o t g0 (x1 i o g1 g2 g4) g2 g4 (h.guardIn of 9 g _ hgi hk hg)
        · exact h.old t q v hl (h.guardIn of 9 g _ hgi hk hg)
  | const v => exact ofValue_ok v
  | global g => exact rfl
  | func f => exact ⟨[], [], rfl, rfl, rfl⟩
theorem DRel.operands (h : DRel cx G ops N c s vl S a w) (of : OFit ops N) (tc : Trc P X T ops.toList (befores ops.toList) s0 st vl) (hs : s = st c) (hck : c ≤ k) (hnb : ∀ i, c ≤ i → i < k → barB ops.toList (befores ops.toList) i = false) (hkn : k ≤ ops.size) {g : Option (Nat × Bool)} (hk : ∀ i b, g = some (i, b) → S i = true) (hg : GuardOn ops a.tmps g) : ∀ xs : List Operand,
    (∀ t, Operand.tmp t ∈ xs → (∀ i q, i < k → ops[i]? = some q → q.dst = some t → S i = true) ∧ ∀ i q, S i = true → ops[i]? = some q → q.dst = some t → i < k) → RepL' (xs.map (operandV ops.toList g (st k))) G w (xs.map a.eval)
  | [], _ => rfl
  | x :: xs, hx => ⟨_, _, rfl, h.operand of tc hs hck hnb hkn hk hg x (fun t e => hx t (by rw [e]; exact List.mem_cons_self ..)), h.operands of tc hs hck hnb hkn hk hg xs fun t ht => hx t (List.mem_cons_of_mem _ ht)⟩
theorem DRel.underG (h : DRel cx G ops N c s vl S a w) (of : OFit ops N) (tc : Trc P X T ops.toList (befores ops.toList) s0 st vl) (hs : s = st c) (hck : c ≤ k) (hnb : ∀ i, c ≤ i → i < k → barB ops.toList (befores ops.toList) i = false) (hkn : k ≤ ops.size) : ∀ (n : Nat) (g : Option (Nat × Bool)) (p : Prop), underG ops.toList (st k) n g p → (∀ i b, g = some (i, b) → S i = true) → GuardOn ops a.tmps g → p
  | 0, g, p, hu, _, _ => by unfold Go.Vc.underG at hu; exact hu.elim
  | n + 1, g, p, hu, hk, hg => by
    unfold Go.Vc.underG at hu
    split at hu
    · exact hu
    · rename_i j wv
      split at hu
      · exact hu.elim
      · rename_i o ho
        have ho' : ops[j]? = some o := by rw [← Array.getElem?_toList]; exact ho
        split at hu
        · rename_i x g' b hl
          rw [Option.bind_eq_some_iff] at hl
          obtain ⟨t, ht, hl⟩ := hl
          have hjS := hk j wv rfl
          obtain ⟨i, q, hi, hq, hg1, hd1⟩ := (tc.far k (by simpa using hkn)).1 t g' (.bool b) hl
          rw [Array.getElem?_toList] at hq
          have hij : i = j := Classical.byContradiction fun hne => of.fit.apart i j q o t hq ho' hne hd1 ht
          subst hij
          rw [ho'] at hq; injection hq with hq; subst hq
          have hgo := h.chain i o hjS ho' wv hg
          have hrep : Rep (.bool b) G w (a.tmps.getD t undef) := by
            rcases (tc.near k hck (by simpa using hkn) hnb).2.2 t g' (.bool b) hl with ⟨i', o', g0, g1, g2, g3, g4, g5⟩ | hl
            · rw [Array.getElem?_toList] at g2
              have : i' = i := Classical.byContradiction fun hne => of.fit.apart i' i o' o t g2 ho' hne g4 ht
              subst this
              rw [g5]
              exact h.val i' o t g0 hjS ho' ht hgo
            · exact h.old t g' _ (by rw [hs]; exact hl) (by rw [← hg1]; exact hgo)
          have hbw : b = wv := by
            have hy : yielded ops a.tmps i = some wv := hg
            unfold yielded at hy
            rw [ho'] at hy
            simp only [Option.bind_some, ht] at hy
            have hlt : t < a.tmps.size := Nat.lt_of_lt_of_le (of.fit.lt _ o t ho' ht) h.size
            have e : a.tmps[t]? = some (.bool b) := by
              have : a.tmps.getD t undef = .bool b := hrep
              rw [Array.getD, dif_pos hlt] at this
              rw [Array.getElem?_eq_getElem hlt]
              exact congrArg some this
            rw [e] at hy
            injection hy
          have := h.underG of tc hs hck hnb hkn n o.guard _ hu (fun i' b' hg' => h.guard' of ho' hjS i' b' hg') hgo
          subst hbw
          cases b with
          | true => exact this rfl
          | false => exact this rfl
        · exact hu.elim
theorem DRel.does (h : DRel cx G ops N c s vl S a w) (hX : XOk P T X) (hm : cx.m ≤ 32) (hT : TabC T cx) (of : OFit ops N) (tc : Trc P X T ops.toList (befores ops.toList) s0 st vl) (hs : s = st c) (hck : c ≤ k) (hnb : ∀ i, c ≤ i → i < k → barB ops.toList (befores ops.toList) i = false) {o : Oper} (ho : ops[k]? = some o) (hno : S k = false) (hok : ∀ e ∈ o.after, Region.binds .any e = true → S e.on = true) (hg : GuardOn ops a.tmps o.guard) {v : PV} {f : Option (PV → PV)} {lh' : List (Nat × PV)}
    (he : (evOpD P X T o (operandsV ops.toList o (st k)) s.lh).Is v f s.lh lh') : Does P cx G w o a v f lh' := by
  have hk : ∀ i b, o.guard = some (i, b) → S i = true := h.guard of ho hok
  have hkn : k ≤ ops.size := Nat.le_of_lt (Array.getElem?_eq_some_iff.1 ho).1
  have hx : ∀ t, Operand.tmp t ∈ o.op.operands.toList → (∀ i q, i < k → ops[i]? = some q → q.dst = some t → S i = true) ∧ ∀ i q, S i = true → ops[i]? = some q → q.dst = some t → i < k := fun t ht => by
    obtain ⟨r1, r2⟩ := h.reads of ho hok (reads_operand (ops := ops.toList) ht)
    exact ⟨r1, r2 hno⟩
  by_cases hp : ∃ c x y, o.op = .pick c x y
  · obtain ⟨c, x, y, hop⟩ := hp
    have hops : o.op.operands.toList = [c, x, y] := by rw [hop]; rfl
    rw [hops] at hx
    have hxc : ∀ z ∈ [c, x, y], ∀ t, z = .tmp t → (∀ i q, i < k → ops[i]? = some q → q.dst = some t → S i = true) ∧ ∀ i q, S i = true → ops[i]? = some q → q.dst = some t → i < k := fun z hz t e => hx t (by rw [← e]; exact hz)
    have oc := h.operand of tc hs hck hnb hkn hk hg c (hxc c (by simp))
    have ev0 : ∀ xs, evOpD P X T o xs s.lh = evOp P X T o xs s.lh := fun xs => by unfold evOpD; rw [hop]
    have fin : ∀ (b : Bool) (p q : PV), evOpD P X T o [.bool b, p, q] s.lh = .val (pickV b p q) → a.eval c = .bool b → (b = true → Rep p G w (a.eval x)) → (b = false → Rep q G w (a.eval y)) → (evOpD P X T o [.bool b, p, q] s.lh).Is v f s.lh lh' → Does P cx G w o a v f lh' := by
      intro b p q hev hcb h1 h2 hI
      rw [hev] at hI
      obtain ⟨rfl, rfl, rfl⟩ := hI
      refine .pure h.inv (u := if b = true then a.eval x else a.eval y) ?_ (pick_ok h1 h2)
      unfold execOp
      rw [hop]
      dsimp only
      rw [hcb]
      cases b <;> rfl
    have ev : ∀ b p q, evOpD P X T o [.bool b, p, q] s.lh = .val (pickV b p q) := by
      intro b p q
      rw [ev0]
      unfold evOp
      rw [hop]
    have evn : ∀ z p q, (∀ b, z ≠ PV.bool b) → ¬ (evOpD P X T o [z, p, q] s.lh).Is v f s.lh lh' := by
      intro z p q hz hI
      rw [ev0] at hI
      unfold evOp at hI
      rw [hop] at hI
      dsimp only at hI
      cases z <;> first | exact hz _ rfl | exact hI
    unfold operandsV at he
    rw [hop] at he
    dsimp only at he
    cases hpg : pickGuard ops.toList (st k) c with
    | none =>
      rw [hpg] at he
      dsimp only at he
      replace he : (evOpD P X T o [operandV ops.toList o.guard (st k) c, operandV ops.toList o.guard (st k) x, operandV ops.toList o.guard (st k) y] s.lh).Is v f s.lh lh' := he
      generalize hz : operandV ops.toList o.guard (st k) c = z at he oc
      cases z with
      | bool b => exact fin b _ _ (ev b _ _) oc (fun _ => h.operand of tc hs hck hnb hkn hk hg x (hxc x (by simp))) (fun _ => h.operand of tc hs hck hnb hkn hk hg y (hxc y (by simp))) he
      | _ => exact absurd he (evn _ _ _ (fun b e => by cases e))
    | some j =>
      rw [hpg] at he
      dsimp only at he
      generalize hz : operandV ops.toList o.guard (st k) c = z at he oc
      cases z with
      | bool b =>
        have hcb : a.eval c = .bool b := oc
        unfold pickGuard at hpg
        split at hpg
        · rename_i t
          split at hpg
          · rename_i q hl
            obtain ⟨i, o', hi, ho', hg1, hd1⟩ := (tc.far k (by simpa using hkn)).1 t q.1 q.2 hl
            rw [Array.getElem?_toList] at ho'
            have hj := List.findIdx?_eq_some_iff_getElem.1 hpg
            obtain ⟨hjl, hj2, -⟩ := hj
            have hjo : ops[j]? = some (ops.toList[j]) := by rw [← Array.getElem?_toList]; exact List.getElem?_eq_getElem hjl
            have hjd : (ops.toList[j]).dst = some t := by
              cases hd : (ops.toList[j]).dst with
              | none => rw [hd] at hj2; cases hj2
              | some d => rw [hd] at hj2; rw [Nat.eq_of_beq_eq_true hj2]
            have hij : i = j := Classical.byContradiction fun hne => of.fit.apart i j o' _ t ho' hjo hne hd1 hjd
            subst hij
            have hS : S i = true := (hxc _ (by simp) t rfl).1 i _ hi hjo hjd
            have hlt : t < a.tmps.size := Nat.lt_of_lt_of_le (of.fit.lt _ _ t hjo hjd) h.size
            have hy : yielded ops a.tmps i = some b := by
              unfold yielded
              rw [hjo]
              simp only [Option.bind_some, hjd]
              have e : a.tmps[t]? = some (.bool b) := by
                have : a.tmps.getD t undef = .bool b := hcb
                rw [Array.getD, dif_pos hlt] at this
                rw [Array.getElem?_eq_getElem hlt]
                exact congrArg some this
              rw [e]
            refine fin b _ _ (ev b _ _) hcb (fun hb => ?_) (fun hb => ?_) he
            · subst hb
              exact h.operand of tc hs hck hnb hkn (g := some (i, true)) (fun i' b' e => by injection e with e; injection e with e1 e2; rw [← e1]; exact hS) hy x (hxc x (by simp))
            · subst hb
              exact h.operand of tc hs hck hnb hkn (g := some (i, false)) (fun i' b' e => by injection e with e; injection e with e1 e2; rw [← e1]; exact hS) hy y (hxc y (by simp))
          · cases hpg
        · cases hpg
      | _ => exact absurd he (evn _ _ _ (fun b e => by cases e))
  · have hnp : ∀ c x y, o.op ≠ .pick c x y := fun c x y e => hp ⟨c, x, y, e⟩
    have : operandsV ops.toList o (st k) = o.op.operands.toList.map (operandV ops.toList o.guard (st k)) := by
      unfold operandsV
      split
      · rename_i c x y e
        exact absurd e (hnp c x y)
      · rfl
    rw [this] at he
    exact evOpD_ok hX h.inv hm hT hnp (h.operands of tc hs hck hnb hkn hk hg _ hx) he
theorem DRel.push (h : DRel cx G ops N c s vl S a w) (of : OFit ops N) {o : Oper} (ho : ops[k]? = some o) (hno : S k = false) (hok : ∀ e ∈ o.after, Region.binds .any e = true → S e.on = true) {G' : Gh} {w' : World} (tr : Turns cx G w none s.lh G' w') {u : Value}
    (hv : GuardOn ops a.tmps o.guard → Rep (vl k) G' w' u) (hb : ¬ GuardOn ops a.tmps o.guard → u = undef) (hck : c ≤ k) (hbk : barB ops.toList (befores ops.toList) k = false) (hold : ∀ t g v, lookL t s.loc = some (g, v) → ∃ i q, i < c ∧ ops[i]? = some q ∧ q.guard = g ∧ q.dst = some t) : DRel cx G' ops N c s vl (addS S k) (a.put o.dst u) w' := by
  have inA : ∀ {i}, addS S k i = true → i = k ∨ (i ≠ k ∧ S i = true) := fun {i} hi => by
    by_cases e : i = k
    · exact .inl e
    · rw [addS_of e] at hi; exact .inr ⟨e, hi⟩
  have gon : ∀ {i : Nat} {q : Oper}, ops[i]? = some q → (i = k ∨ S i = true) → (GuardOn ops (a.put o.dst u).tmps q.guard ↔ GuardOn ops a.tmps q.guard) := by
    intro i q hq hi
    unfold GuardOn
    cases hg : q.guard with
    | none => exact Iff.rfl
    | some p =>
      obtain ⟨j, b⟩ := p
      have hjk : j ≠ k := by
        rcases hi with hi | hi
        · subst hi
          have := of.fit.guard i q hq j b hg
          omega
        · intro e
          have := h.guard' of hq hi j b hg
          rw [e, hno] at this; cases this
      dsimp only
      rw [yielded_put (o := o) fun q' t hq' ht e => of.fit.apart k j o q' t ho hq' (fun e => hjk e.symm) e ht]
  refine ⟨tr.inv, fun t g v hl hg => ?_, (fun i hi => by unfold addS; rw [h.low i hi]; rfl), (fun i hi hS => by
    rcases inA hS with rfl | ⟨-, hS⟩
    · exact hbk
    · exact h.nobar i hi hS), fun t x hn he => ?_, fun i q t hci hi hq hd hg => ?_, fun i q hi hq b hy => ?_, fun i q e hi hq he hbi => ?_, fun i hi => ?_, by rw [put_size]; exact h.size, by rw [put_defers]; exact h.defers⟩
  · obtain ⟨i, q, g1, g2, rfl, g4⟩ := hold t g v hl
    rw [put_getD (fun e => of.fit.apart k i o q t ho g2 (by omega) e g4)]
    exact tr.rep _ _ (h.old t _ v hl ((gon g2 (.inr (h.low i g1))).1 hg))
  · rw [put_getD (hn k o addS_self ho)]
    refine tr.rep _ _ (h.env t x (fun i q hi hq => hn i q ?_ hq) he)
    unfold addS; rw [hi]; rfl
  · rcases inA hi with rfl | ⟨hne, hS⟩
    · rw [ho] at hq; injection hq with hq; subst hq
      have hlt : t < a.tmps.size := Nat.lt_of_lt_of_le (of.fit.lt i o t ho hd) h.size
      rw [hd, put_same hlt]
      exact hv ((gon ho (.inl rfl)).1 hg)
    · rw [put_getD (fun e => of.fit.apart k i o q t ho hq (fun e => hne e.symm) e hd)]
      exact tr.rep _ _ (h.val i q t hci hS hq hd ((gon hq (.inr hS)).1 hg))
  · rcases inA hi with rfl | ⟨hne, hS⟩
    · rw [ho] at hq; injection hq with hq; subst hq
      rw [gon ho (.inl rfl)]
      refine Classical.byContradiction fun hng => ?_
      have hu := hb hng
      subst hu
      unfold yielded at hy
      rw [ho] at hy
      simp only [Option.bind_some] at hy
      cases hd : o.dst with
      | none => rw [hd] at hy; cases hy
      | some d =>
        rw [hd] at hy
        simp only [Option.bind_some] at hy
        have hlt : d < a.tmps.size := Nat.lt_of_lt_of_le (of.fit.lt _ o d ho hd) h.size
        replace hy : (match (a.tmps.setIfInBounds d undef)[d]? with | some (.bool b) => some b | _ => none) = some b := hy
        rw [Array.getElem?_setIfInBounds, if_pos rfl, if_pos hlt] at hy
        cases hy
    · rw [yielded_put (o := o) fun q' t hq' ht e => of.fit.apart k i o q' t ho hq' (fun e => hne e.symm) e ht] at hy
      exact (gon hq (.inr hS)).2 (h.chain i q hS hq b hy)
  · rcases inA hi with rfl | ⟨hne, hS⟩
    · rw [ho] at hq; injection hq with hq; subst hq
      have := hok e he hbi
      unfold addS; rw [this]; rfl
    · have := h.down i q e hS hq he hbi
      unfold addS; rw [this]; rfl
  · rcases inA hi with rfl | ⟨hne, hS⟩
    · exact (Array.getElem?_eq_some_iff.1 ho).1
    · exact h.inb i hS
theorem DRel.all (h : DRel cx G ops N c s vl S a w) (tc : Trc P X T ops.toList (befores ops.toList) s0 st vl) (hs : s = st c) (hck : c ≤ k) (hkn : k ≤ ops.size) (hall : ∀ i, i < k → S i = true) (hno : ∀ i, S i = true → i < k) : LRel cx G ops N k (st k) a w := by
  obtain ⟨l1, l2, l3⟩ := tc.near k hck (by simpa using hkn) (fun i h1 h2 => h.nobar i h1 (hall i h2))
  obtain ⟨l4, l5⟩ := tc.far k (by simpa using hkn)
  refine ⟨by rw [l2, ← hs]; exact h.inv, fun t x hl he => ?_, fun t g v hl => ?_, fun i o hi ho => h.chain i o (hall i hi) ho, h.size, h.defers⟩
  · rw [l1, ← hs] at he
    exact h.env t x (fun i o hS ho hd => l5 t hl i o (hno i hS) (by rw [Array.getElem?_toList]; exact ho) hd) he
  · obtain ⟨i, o, g1, g2, g3, g4⟩ := l4 t g v hl
    rw [Array.getElem?_toList] at g2
    refine ⟨fun hg => ?_, i, o, g1, g2, g3, g4⟩
    rcases l3 t g v hl with ⟨i, o, g0, g1, g2, rfl, g4, rfl⟩ | hl
    · rw [Array.getElem?_toList] at g2
      exact h.val i o t g0 (hall i g1) g2 g4 hg
    · exact h.old t g v (by rw [hs]; exact hl) hg
theorem DRel.start (h : LRel cx G ops N c (st c) a w) (tc : Trc P X T ops.toList (befores ops.toList) s0 st vl) (of : OFit ops N) (hcn : c ≤ ops.size) (hS : ∀ i, S i = true ↔ i < c) : DRel cx G ops N c (st c) vl S a w :=
  ⟨h.inv, fun t g v hl hg => (h.loc t g v hl).1 hg, fun i hi => (hS i).2 hi, fun i hi hs => by have := (hS i).1 hs; omega, fun t x hn he => by
      cases hl : lookL t (st c).loc with
      | none => exact h.env t x hl he
      | some p =>
        obtain ⟨g, v⟩ := p
        obtain ⟨-, i, o, h1, h2, -, h4⟩ := h.loc t g v hl
        exact absurd h4 (hn i o ((hS i).2 h1) h2),
    fun i o t hi hs => by have := (hS i).1 hs; omega, fun i o hs ho => h.chain i o ((hS i).1 hs) ho, fun i o e hs ho he hb => (hS _).2 (by have := of.opn.dn i o e (by rw [Array.getElem?_toList]; exact ho) he hb; have := (hS i).1 hs; omega), fun i hs => by have := (hS i).1 hs; omega, h.size, h.defers⟩
theorem bar_all {ops : List Oper} {bf : List Nat} {i : Nat} (h : barB ops bf i = true) : (∀ j, j < ops.length → j < i → inMask (bf.getD i 0) j = true) ∧ ∀ j, j < ops.length → i < j → inMask (bf.getD j 0) i = true := by
  unfold barB at h
  refine ⟨fun j hj hji => ?_, fun j hj hij => ?_⟩
  · have := List.all_eq_true.1 h j (List.mem_range.2 hj)
    rw [Bool.or_eq_true] at this
    rcases this with h1 | h1
    · have := Nat.eq_of_beq_eq_true h1; omega
    · rw [show Nat.blt j i = true by simpa using hji] at h1; exact h1
  · have := List.all_eq_true.1 h j (List.mem_range.2 hj)
    rw [Bool.or_eq_true] at this
    rcases this with h1 | h1
    · have := Nat.eq_of_beq_eq_true h1; omega
    · rw [show Nat.blt j i = false by rw [Bool.eq_false_iff]; intro hh; have : j < i := by simpa using hh
                                      omega] at h1; exact h1
theorem rdy_of {listed : Array Bool} (hsz : listed.size = ops.size) {i : Nat} (h : i ∈ Region.ready .any ops listed) : i < listed.size ∧ ofL listed i = false ∧ ∃ o, ops[i]? = some o ∧ ∀ e ∈ o.after, Region.binds .any e = true → ofL listed e.on = true := by
  obtain ⟨h1, o, h2, h3⟩ := mem_ready.1 h
  have hlt : i < listed.size := by rw [hsz]; exact (Array.getElem?_eq_some_iff.1 h2).1
  refine ⟨hlt, ?_, o, h2, h3⟩
  simp [Array.getD, hlt] at h1 ⊢
  exact h1
theorem all_of (of : OFit ops N) {listed : Array Bool} (hsz : listed.size = ops.size) (h : Region.ready .any ops listed = []) : ∀ j, j < ops.size → ofL listed j = true := by
  intro j
  induction j using Nat.strongRecOn with
  | _ j ih =>
    intro hj
    cases hs : ofL listed j with
    | true => rfl
    | false =>
      obtain ⟨o, ho⟩ : ∃ o, ops[j]? = some o := ⟨_, Array.getElem?_eq_getElem hj⟩
      have : j ∈ Region.ready .any ops listed := by
        refine mem_ready.2 ⟨?_, o, ho, fun e he hb => ?_⟩
        · have hlt : j < listed.size := by omega
          simp [ofL, Array.getD, hlt] at hs ⊢
          exact hs
        · have := of.opn.dn j o e (by rw [Array.getElem?_toList]; exact ho) he hb
          exact ih e.on this (by omega)
      rw [h] at this
      cases this
theorem bar_step (hX : XOk P T X) (hm : cx.m ≤ 32) (hT : TabC T cx) (hr : RegFit ops N) {s : VS} (h : LRel cx G ops N k s a w) {o : Oper} (ho : ops[k]? = some o) {v : PV} {f : Option (PV → PV)} {lh : List (Nat × PV)} (hb : BarOk P X T ops.toList o s v f lh) {Q : Exit → Act → World → Prop} {K : Act → World → Prop}
    (hK : ∀ G' w' u, LRel cx G' ops N (k + 1) (pushL o v (s.turn f lh)) (a.put o.dst u) w' → K (a.put o.dst u) w') : wpOp P ops Q k K a w := by
  unfold wpOp
  rw [ho]
  dsimp only
  by_cases hg : GuardOn ops a.tmps o.guard
  · rw [if_pos ((wanted_iff ops a.tmps o).2 hg)]
    left
    have hI : (evOp P X T o (operandsV ops.toList o s) s.lh).Is v f s.lh lh := by
      rcases hb with ⟨-, h1⟩ | ⟨rfl, rfl, h1 | ⟨p, h1, h2⟩⟩
      · exact h1
      · rw [h1]; exact ⟨rfl, rfl, rfl⟩
      · rw [h1]
        refine ⟨?_, rfl, rfl, rfl⟩
        cases hgd : o.guard with
        | none => rw [hgd] at h2; exact h2
        | some g =>
          rw [hgd] at h2 hg
          exact underG_ok h hr 9 (some g) p h2 (by rw [← hgd]; exact hr.guard k o ho) hg
    exact h.does hX hm hT hr ho hg hI _ _ fun G' w' u tr hv => hK G' w' u (h.push hr ho tr (fun _ => hv) (fun hng => absurd hg hng))
  · rw [if_neg (by rw [wanted_iff]; exact hg)]
    rcases hb with ⟨h1, -⟩ | ⟨rfl, rfl, -⟩
    · rw [h1] at hg; exact absurd trivial hg
    · exact hK G w undef (h.push hr ho (.refl h.inv) (fun h => absurd h hg) (fun _ => rfl))
theorem DRel.any (hX : XOk P T X) (hm : cx.m ≤ 32) (hT : TabC T cx) (of : OFit ops N) (tc : Trc P X T ops.toList (befores ops.toList) s0 st vl) {Q : Exit → Act → World → Prop} (hQ : ∀ G a w, LRel cx G ops N ops.size (st ops.size) a w → Q .normal a w) :
    ∀ (fuel c : Nat) (listed : Array Bool) (G : Gh) (a : Act) (w : World), c ≤ ops.size → listed.size = ops.size → cntS (ofL listed) ops.size ≤ fuel → DRel cx G ops N c (st c) vl (ofL listed) a w → wpAny P .any ops Q fuel listed a w
  | 0, c, listed, G, a, w, hcn, hsz, hc, iv => by
    have hall := cntS_zero (show cntS (ofL listed) ops.size = 0 by omega)
    refine ⟨?_, hQ G a w (iv.all tc rfl hcn (Nat.le_refl _) hall iv.inb)⟩
    cases hr : Region.ready .any ops listed with
    | nil => rfl
    | cons i rs =>
      obtain ⟨h1, h2, -⟩ := rdy_of hsz (show i ∈ Region.ready .any ops listed by rw [hr]; exact List.mem_cons_self ..)
      have := hall i (by omega)
      rw [h2] at this; cases this
  | fuel + 1, c, listed, G, a, w, hcn, hsz, hc, iv => by
    refine ⟨fun h => hQ G a w (iv.all tc rfl hcn (Nat.le_refl _) (all_of of hsz h) iv.inb), fun i hi => ?_⟩
    obtain ⟨h1, hno, o, ho, hok⟩ := rdy_of hsz hi
    have hin : i < ops.size := by omega
    have next : ∀ c' G' w' u, c' ≤ ops.size → DRel cx G' ops N c' (st c') vl (addS (ofL listed) i) (a.put o.dst u) w' → wpAny P .any ops Q fuel (listed.setIfInBounds i true) (a.put o.dst u) w' := fun c' G' w' u hc' iv' => by
      rw [← ofL_set h1] at iv'
      refine DRel.any hX hm hT of tc hQ fuel c' _ G' _ w' hc' (by simpa using hsz) ?_ iv'
      rw [ofL_set h1]
      have := cntS_add hno ops.size
      rw [if_pos (by omega)] at this
      omega
    have hci : c ≤ i := by
      refine Classical.byContradiction fun h => ?_
      have := iv.low i (by omega)
      rw [hno] at this; cases this
    obtain ⟨f, lh, hL⟩ := tc.step i o (by rw [Array.getElem?_toList]; exact ho)
    have hnb : ∀ b, c ≤ b → b < i → barB ops.toList (befores ops.toList) b = false := fun b h2 h3 => by
      cases hbb : barB ops.toList (befores ops.toList) b with
      | false => rfl
      | true =>
        have hm := (bar_all hbb).2 i (by simpa using hin) h3
        have := iv.nobar b h2 (of.below iv.down i o b ho hok hm)
        rw [hbb] at this; cases this
    rcases hL with ⟨hb, e, hB⟩ | ⟨hb, e, hst⟩
    · have low : ∀ j, j < i → ofL listed j = true := fun j hj => of.below iv.down i o j ho hok ((bar_all hb).1 j (by simp; omega) hj)
      have up : ∀ j, ofL listed j = true → j < i := fun j hj => by
        refine Classical.byContradiction fun h => ?_
        by_cases hji : j = i
        · rw [hji, hno] at hj; cases hj
        · have hjn := iv.inb j hj
          obtain ⟨q, hq⟩ : ∃ q, ops[j]? = some q := ⟨_, Array.getElem?_eq_getElem hjn⟩
          have hm := (bar_all hb).2 j (by simpa using hjn) (by omega)
          have := of.below iv.down j q i hq (fun e he hbi => iv.down j q e hj hq he hbi) hm
          rw [hno] at this; cases this
      have hl := iv.all (k := i) tc rfl hci (by omega) low up
      refine bar_step hX hm hT of.fit hl ho hB fun G' w' u hl' => next (i + 1) G' w' u (by omega) ?_
      rw [← e] at hl'
      refine DRel.start hl' tc of (by omega) fun j => ?_
      unfold addS
      rw [Bool.or_eq_true, decide_eq_true_iff]
      exact ⟨fun h => h.elim (fun h => by have := up j h; omega) (fun h => by omega), fun h => by
        by_cases hj : j = i
        · exact .inr hj
        · exact .inl (low j (by omega))⟩
    · have hold : ∀ t g v, lookL t (st c).loc = some (g, v) → ∃ i q, i < c ∧ ops[i]? = some q ∧ q.guard = g ∧ q.dst = some t := fun t g v hl => by
        obtain ⟨i, q, g1, g2, g3, g4⟩ := (tc.far c (by simpa using hcn)).1 t g v hl
        rw [Array.getElem?_toList] at g2
        exact ⟨i, q, g1, g2, g3, g4⟩
      unfold wpOp
      rw [ho]
      dsimp only
      have hlh : (st i).lh = (st c).lh := (tc.near i hci (by simp; omega) hnb).2.1
      by_cases hg : GuardOn ops a.tmps o.guard
      · rw [if_pos ((wanted_iff ops a.tmps o).2 hg)]
        left
        have hI : (evOpD P X T o (operandsV ops.toList o (st i)) (st c).lh).Is (vl i) none (st c).lh (st c).lh := by
          unfold StepOk at hst
          rw [hlh] at hst
          rcases hst with hst | ⟨p, hst, hp⟩
          · rw [hst]; exact ⟨rfl, rfl, rfl⟩
          · rw [hst]
            refine ⟨?_, rfl, rfl, rfl⟩
            cases hgd : o.guard with
            | none => rw [hgd] at hp; exact hp
            | some g =>
              rw [hgd] at hp hg
              exact iv.underG of tc rfl hci hnb (by omega) 9 (some g) p hp (fun j b e => iv.guard of ho hok j b (by rw [hgd]; exact e)) hg
        exact iv.does hX hm hT of tc rfl hci hnb ho hno hok hg hI _ _ fun G' w' u tr hv => next c G' w' u hcn (iv.push of ho hno hok tr (fun _ => hv) (fun hng => absurd hg hng) hci hb hold)
      · rw [if_neg (by rw [wanted_iff]; exact hg)]
        exact next c G w undef hcn (iv.push of ho hno hok (.refl iv.inv) (fun h => absurd h hg) (fun _ => rfl) hci hb hold)
theorem evD_ok (hmix : P.follows .mixedOrders = true) (hX : XOk P T X) (hm : cx.m ≤ 32) (hT : TabC T cx) (of : OFit ops N) {K : VS → Prop} {Q : Exit → Act → World → Prop} (hQ : ∀ G s a w, LRel cx G ops N ops.size s a w → K s → Q .normal a w) (hl : s.loc = []) (h : LRel cx G ops N 0 s a w) (he : evD P X T ops.toList (befores ops.toList) ops.toList 0 s K) (id : Nat) : (Code.region id ops true).wp P Q a w := by
  obtain ⟨st, vl, h1, h2, h3⟩ := evD_trace _ _ _ he
  have tc : Trc P X T ops.toList (befores ops.toList) s st vl := ⟨hl, h1, fun j o ho => by
    obtain ⟨f, lh, hL⟩ := h2 j o ho
    rw [Nat.zero_add] at hL
    exact ⟨f, lh, hL⟩⟩
  refine wp_region_any hmix ?_
  obtain ⟨i1, i2⟩ := h.inv.drew
  have hd : LRel cx G ops N 0 (st 0) a w.drew := by
    rw [h1]
    exact ⟨i1, fun t x g e => i2 _ _ (h.env t x g e), (fun t g v hlk => by rw [hl] at hlk; cases hlk), (fun i o hi => by omega), h.size, h.defers⟩
  have hnone : ofL (Array.replicate ops.size false) = fun _ => false := by
    funext j; unfold ofL
    by_cases h : j < ops.size <;> simp [Array.getD, h]
  refine DRel.any hX hm hT of tc (fun G a w hr => hQ G _ a w hr (by simpa using h3)) ops.size 0 (Array.replicate ops.size false) G a w.drew (Nat.zero_le _) (by simp) ?_ ?_
  · rw [hnone, cntS_none]; exact Nat.le_refl _
  · rw [hnone]; exact .start hd tc of (Nat.zero_le _) (fun i => by simp)
end
end Go.Vc
end
/- A calculus of Go's functions by their values: code. -/
section
set_option linter.unusedVariables false
set_option linter.unusedSectionVars false
set_option linter.unusedSimpArgs false
namespace Go.Vc
open Go.RowKit
variable [Wd] {P : Program} {cx : Cx} {G : Gh} {w : World}

structure CRel (cx : Cx) (G : Gh) (N : Nat) (s : VS) (a : Act) (w : World) : Prop where
  inv : Inv cx G s.lh w
  env : ∀ t x, getN t s.env = some x → Rep x G w (a.tmps.getD t undef)
  loc : s.loc = []
  size : N ≤ a.tmps.size
  defers : a.defers = []
def exOf : Ex → Exit
  | .normal => .normal
  | .exit id => .exit id
  | .goto l => .goto l
  | .ret => .ret
def Wp (P : Program) (items : List Item) (Q : Exit → Act → World → Prop) (a : Act) (w : World) : Prop :=
  ∀ (b : Frame) (k : List Item) (cs : List Frame), ∃ e a' w', Q e a' w' ∧ Arrives P (lone (b.at a (items ++ k)) cs w) b k cs e a' w'
theorem Wp.step {items items' : List Item} {Q : Exit → Act → World → Prop} {a : Act} {w : World} (hs : ∀ (b : Frame) (k : List Item) (cs : List Frame), Go.step P (lone (b.at a (items ++ k)) cs w) = .next (lone (b.at a (items' ++ k)) cs w)) (h : Wp P items' Q a w) : Wp P items Q a w := by
  intro b k cs
  obtain ⟨e, a', w', hq, har⟩ := h b k cs
  exact ⟨e, a', w', hq, .of_steps (.one (hs b k cs)) har⟩
theorem Wp.then {c : Code} {x : Item} (hx : x.plain = true) {Q : Exit → Act → World → Prop} {a : Act} {w : World} (h : c.wp P (fun e a' w' => match e with | .normal => Wp P [x] Q a' w' | e => Q e a' w') a w) : Wp P [.code c, x] Q a w := by
  intro b k cs
  obtain ⟨e, a1, w1, hq, har⟩ := h b (x :: k) cs
  cases e with
  | normal =>
    obtain ⟨e2, a2, w2, hq2, har2⟩ := hq b k cs
    exact ⟨e2, a2, w2, hq2, .of_steps har har2⟩
  | exit id => exact ⟨_, a1, w1, hq, .pass (x := x) hx (fun _ _ => .inl (by simp)) har⟩
  | goto l => exact ⟨_, a1, w1, hq, .pass (x := x) hx (fun _ _ => .inl (by simp)) har⟩
  | ret => exact ⟨_, a1, w1, hq, .pass (x := x) hx (fun _ _ => .inl (by simp)) har⟩
  | panic ch => exact ⟨_, a1, w1, hq, .pass (x := x) hx (fun _ _ => .inl (by simp)) har⟩
  | outgrown => exact ⟨_, a1, w1, hq, .pass (x := x) hx (fun _ _ => .inl (by simp)) har⟩
theorem Wp.scope {c c0 : Code} {Q : Exit → Act → World → Prop} {a : Act} {w : World} (h : c0.wp P (fun e a' w' => match e with
      | .goto l => (∃ rest, findLabel c l = some rest ∧ Wp P [.code rest, .inScope c] Q a' w') ∨ (findLabel c l = none ∧ Q (.goto l) a' w')
      | e => Q e a' w') a w) : Wp P [.code c0, .inScope c] Q a w := by
  intro b k cs
  obtain ⟨e, a1, w1, hq, har⟩ := h b (.inScope c :: k) cs
  cases e with
  | normal => exact ⟨.normal, a1, w1, hq, Steps.trans har (.one step_inScope)⟩
  | exit id => exact ⟨.exit id, a1, w1, hq, fun k' hk => har k' (by simp [exitTo, hk])⟩
  | goto l =>
    rcases hq with ⟨rest, hf, h2⟩ | ⟨hf, hq⟩
    · obtain ⟨e2, a2, w2, hq2, har2⟩ := h2 b k cs
      exact ⟨e2, a2, w2, hq2, .of_steps (har _ (by simp [gotoIn, hf])) har2⟩
    · exact ⟨.goto l, a1, w1, hq, fun k' hk => har k' (by simp [gotoIn, hf, hk])⟩
  | ret => exact ⟨_, a1, w1, hq, har⟩
  | panic ch => exact ⟨_, a1, w1, hq, har⟩
  | outgrown => exact ⟨_, a1, w1, hq, har⟩
theorem getN_keep (t : Nat) (s : VS) : getN t (keepL s).env = (getN t s.env).map fun x => match lookL t s.loc with | some (none, v) => v | some (some _, _) => .undef | none => x := by
  unfold keepL
  dsimp only
  induction s.env with
  | nil => rfl
  | cons e l ih =>
    show (bif Nat.beq e.1 t then some _ else getN t (l.map _)) = (bif Nat.beq e.1 t then some e.2 else getN t l).map _
    cases hb : Nat.beq e.1 t with
    | true =>
      have := Nat.eq_of_beq_eq_true hb
      subst this
      rfl
    | false => exact ih
theorem CRel.begin {N : Nat} {s : VS} {a : Act} (h : CRel cx G N s a w) (ops : Array Oper) : LRel cx G ops N 0 s a w :=
  ⟨h.inv, fun t x _ hx => h.env t x hx, (fun t g v hl => by rw [h.loc] at hl; cases hl), (fun i o hi => by omega), h.size, h.defers⟩
theorem LRel.finish {N k : Nat} {ops : Array Oper} {s : VS} {a : Act} (h : LRel cx G ops N k s a w) : CRel cx G N (keepL s) a w := by
  refine ⟨h.inv, fun t x hx => ?_, rfl, h.size, h.defers⟩
  rw [getN_keep, Option.map_eq_some_iff] at hx
  obtain ⟨y, hy, e⟩ := hx
  cases hl : lookL t s.loc with
  | none =>
    rw [hl] at e
    rw [← show y = x from e]
    exact h.env t y hl hy
  | some p =>
    obtain ⟨g, v⟩ := p
    rw [hl] at e
    cases g with
    | none =>
      rw [← show v = x from e]
      exact (h.loc t none v hl).1 trivial
    | some q =>
      rw [← show PV.undef = x from e]
      trivial
theorem cond_val {N : Nat} {s : VS} {a : Act} (h : CRel cx G N s a w) {c : Operand} {t : Bool} (hc : operandV [] none s c = .bool t) : a.eval c = .bool t := by
  cases c with
  | tmp i =>
    unfold operandV at hc
    dsimp only at hc
    rw [h.loc] at hc
    replace hc : (getN i s.env).getD .undef = .bool t := hc
    cases he : getN i s.env with
    | none => rw [he] at hc; cases hc
    | some x =>
      rw [he] at hc
      have : x = .bool t := hc
      subst this
      exact h.env i _ he
  | const v =>
    replace hc : ofValue v = .bool t := hc
    unfold ofValue at hc
    split at hc <;> first | (cases hc; done) | (injection hc with hc; subst hc; rfl)
  | global g => cases hc
  | func f => cases hc
theorem CRel.drop {N : Nat} {a : Act} : ∀ {s : VS} (h : CRel cx G N s a w) (ns : List Nat), CRel cx G N (s.drop ns) a w
  | s, h, [] => h
  | s, h, n :: ns => by
    refine CRel.drop (s := s.put n .undef) ⟨h.inv, fun t x hx => ?_, h.loc, h.size, h.defers⟩ ns
    replace hx : getN t (setN n .undef s.env) = some x := hx
    rw [getN_set] at hx
    split at hx
    · rw [Option.map_eq_some_iff] at hx
      obtain ⟨y, -, e⟩ := hx
      rw [← e]; trivial
    · exact h.env t x hx
theorem CRel.still {N : Nat} {s : VS} {a : Act} (h : CRel cx G N s a w) (us : List Nat) : ∃ G', CRel cx G' N (stillS us s) a w := by
  cases us with
  | nil => exact ⟨G, h⟩
  | cons u us =>
    obtain ⟨s1, s2⟩ := h.inv.turn (w' := w) (callF_ok (u :: us)) none rfl rfl rfl (Nat.le_refl _) (fun _ _ _ => rfl) (fun t b e => by cases e)
    refine ⟨G.turn w (callF (u :: us)) none, ⟨?_, fun t x hx => ?_, ?_, h.size, h.defers⟩⟩
    · show Inv cx _ (s.turn (some (PV.mark1 (callF (u :: us)))) (turnB (PV.mark1 (callF (u :: us))) s.lh)).lh w
      rw [turn_lh]; exact s1
    · replace hx : getN t (s.turn (some (PV.mark1 (callF (u :: us)))) (turnB (PV.mark1 (callF (u :: us))) s.lh)).env = some x := hx
      rw [getN_turn_env, Option.map_eq_some_iff] at hx
      obtain ⟨y, hy, rfl⟩ := hx
      exact s2 _ _ (h.env t y hy)
    · show s.loc.map _ = []
      rw [h.loc]; rfl
theorem evC_ok {T : Tabs} {X : Tbl} {H : Loops} {N : Nat} (hmix : P.follows .mixedOrders = true) (hX : XOk P T X) (hm : cx.m ≤ 32) (hT : TabC T cx) : ∀ fuel : Nat,
    (∀ (c : Code) (s : VS) (k : Kont) (G : Gh) (a : Act) (w : World) (Q : Exit → Act → World → Prop), CRel cx G N s a w → evC P X T H N fuel none c s k → (∀ e G s a w, CRel cx G N s a w → k e s → Q (exOf e) a w) → c.wp P Q a w) ∧
    (∀ (c0 : Code) (C : Nat → Option (VS → Prop)) (c : Code) (s : VS) (k : Kont) (G : Gh) (a : Act) (w : World) (Q : Exit → Act → World → Prop), CRel cx G N s a w → evC P X T H N fuel (some (c0, C)) c s k → (∀ e G s a w, CRel cx G N s a w → k e s → Q (exOf e) a w) →
      (∀ l J, C l = some J → ∀ G s a w, CRel cx G N s a w → J s → ∃ rest, findLabel c0 l = some rest ∧ Wp P [.code rest, .inScope c0] Q a w) → Wp P [.code c, .inScope c0] Q a w)
  | 0 => ⟨fun c s k G a w Q _ he _ => he.elim, fun c0 C c s k G a w Q _ he _ _ => he.elim⟩
  | fuel + 1 => by
    obtain ⟨ihA, ihB⟩ := evC_ok hmix hX hm hT fuel
    refine ⟨fun c s k G a w Q hr he hQ => ?_, fun c0 C c s k G a w Q hr he hQ hC => ?_⟩
    · cases c with
      | skip => exact wp_skip (hQ .normal G s a w hr he)
      | region id ops draw =>
        replace he : (match (generalizing := false) draw, regOk N ops.toList with
          | false, true => evOps P X T ops.toList ops.toList s fun s => forceE (keepL s).env fun env => forceE s.lh fun lh => k .normal ⟨[], env, lh⟩
          | true, true => match openOk ops.toList (befores ops.toList) with
            | true => evD P X T ops.toList (befores ops.toList) ops.toList 0 (stillS (callMarks ops.toList s) s) fun s => forceE (keepL s).env fun env => forceE s.lh fun lh => k .normal ⟨[], env, lh⟩
            | false => False
          | _, _ => False) := he
        split at he
        · rename_i hreg
          refine wp_region_list ?_
          exact evOps_ok (K := fun s => forceE (keepL s).env fun env => forceE s.lh fun lh => k .normal ⟨[], env, lh⟩) hX hm hT (regFit hreg) (fun G s a w hl hk => hQ .normal G _ a w hl.finish (by rw [forceE_eq, forceE_eq] at hk; exact hk)) ops.toList 0 s a w G (by simp) (Nat.zero_le _) (hr.begin ops) he
        · rename_i hreg
          split at he
          · rename_i hop
            obtain ⟨G', hr'⟩ := hr.still (callMarks ops.toList s)
            exact evD_ok (K := fun s => forceE (keepL s).env fun env => forceE s.lh fun lh => k .normal ⟨[], env, lh⟩) hmix hX hm hT (oFit hreg hop) (fun G s a w hl hk => hQ .normal G _ a w hl.finish (by rw [forceE_eq, forceE_eq] at hk; exact hk)) hr'.loc (hr'.begin ops) he id
          · exact he.elim
        · exact he.elim
      | seq x y =>
        replace he : evC P X T H N fuel none x s fun e s => match e with
          | .normal => evC P X T H N fuel none y s k
          | e => k e s := he
        refine wp_seq (ihA x s _ G a w _ hr he fun e G s a w hr he => ?_)
        cases e with
        | normal => exact ihA y s k G a w Q hr he hQ
        | exit id => exact hQ _ G s a w hr he
        | goto l => exact hQ _ G s a w hr he
        | ret => exact hQ _ G s a w hr he
      | cond c x y =>
        replace he : onBool (operandV [] none s c) (evC P X T H N fuel none x s k) (evC P X T H N fuel none y s k) := he
        unfold onBool at he
        split at he
        · rename_i t hc
          exact wp_cond_split (cond_val hr hc) (fun ht => ihA x s k G a w Q hr (he.1 ht) hQ) (fun ht => ihA y s k G a w Q hr (he.2 ht) hQ)
        · exact he.elim
      | block id x =>
        replace he : evC P X T H N fuel none x s fun e s => match e with
          | .exit i => bif Nat.beq i id then k .normal s else k (.exit i) s
          | e => k e s := he
        refine wp_block (ihA x s _ G a w _ hr he fun e G s a w hr he => ?_)
        cases e with
        | normal => exact hQ _ G s a w hr he
        | exit i =>
          show (if i = id then _ else _)
          replace he : (bif Nat.beq i id then k .normal s else k (.exit i) s) := he
          by_cases e : i = id
          · subst e
            rw [Nat.beq_refl] at he
            rw [if_pos rfl]
            exact hQ .normal G s a w hr he
          · rw [show Nat.beq i id = false by rw [Bool.eq_false_iff]; exact fun hh => e (Nat.eq_of_beq_eq_true hh)] at he
            rw [if_neg e]
            exact hQ (.exit i) G s a w hr he
        | goto l => exact hQ _ G s a w hr he
        | ret => exact hQ _ G s a w hr he
      | loop x =>
        replace he : (match H (firstId x) with
          | some h => h.into s fun n s' => evC P X T H N fuel none x s' fun e s'' => match e with
            | .normal => h.back s n s''
            | e => k e s''
          | none => False) := he
        split at he
        · rename_i h hh
          obtain ⟨hs, hi0, hb⟩ := he
          have key : ∀ n, ∀ y, h.mu s y = n → h.inv s y → ∀ G a w, CRel cx G N (h.at_ s y) a w → Wp P [.code x, .inLoop x] Q a w := by
            intro n
            induction n using Nat.strongRecOn with
            | _ n ih =>
              intro y hn hy G a w hr
              refine Wp.then rfl (ihA x _ _ G a w _ hr (hb y hy) fun e G s' a w hr he => ?_)
              cases e with
              | normal =>
                obtain ⟨hs', hz, hlt⟩ := he
                replace hr := hr.drop h.dead
                rw [hs'] at hr
                exact Wp.step (items' := [.code x, .inLoop x]) (fun b k cs => step_inLoop) (ih _ (by rw [← hn]; exact hlt) _ rfl hz G a w hr)
              | exit id => exact hQ _ G s' a w hr he
              | goto l => exact hQ _ G s' a w hr he
              | ret => exact hQ _ G s' a w hr he
          have := key _ _ rfl hi0 G a w (by rw [← hs]; exact hr.drop h.dead)
          show Wp P [.code (.loop x)] Q a w
          exact Wp.step (items' := [.code x, .inLoop x]) (fun b k cs => step_loop) this
        · exact he.elim
      | exit id => exact wp_exit (hQ (.exit id) G s a w hr he)
      | scope x =>
        have := ihB x (fun _ => none) x s k G a w Q hr he hQ (fun l J hJ => by cases hJ)
        show Wp P [.code (.scope x)] Q a w
        exact Wp.step (items' := [.code x, .inScope x]) (fun b k cs => step_scope) this
      | label l => exact wp_label (hQ .normal G s a w hr he)
      | goto l => exact wp_goto (hQ (.goto l) G s a w hr he)
      | ret => exact wp_ret (hQ .ret G s a w hr he)
      | rangeFunc _ _ _ _ => exact he.elim
      | refuse _ => exact he.elim
    · replace he : evC P X T H N fuel none c s fun e s => match e with
        | .goto l => match C l with
          | some J => J s
          | none => match findLabel c0 l with
            | none => k (.goto l) s
            | some r => match H (1000000 + l) with
              | some h => h.into s fun n s' => evC P X T H N fuel (some (c0, fun l' => bif Nat.beq l' l then some (h.back s n) else C l')) r s' k
              | none => evC P X T H N fuel (some (c0, C)) r s k
        | e => k e s := he
      refine Wp.scope (ihA c s _ G a w _ hr he fun e G s a w hr he => ?_)
      cases e with
      | normal => exact hQ _ G s a w hr he
      | exit id => exact hQ _ G s a w hr he
      | ret => exact hQ _ G s a w hr he
      | goto l =>
        replace he : (match C l with
          | some J => J s
          | none => match findLabel c0 l with
            | none => k (.goto l) s
            | some r => match H (1000000 + l) with
              | some h => h.into s fun n s' => evC P X T H N fuel (some (c0, fun l' => bif Nat.beq l' l then some (h.back s n) else C l')) r s' k
              | none => evC P X T H N fuel (some (c0, C)) r s k) := he
        split at he
        · rename_i J hJ
          exact .inl (hC l J hJ G s a w hr he)
        · rename_i hCl
          split at he
          · rename_i hf
            exact .inr ⟨hf, hQ (.goto l) G s a w hr he⟩
          · rename_i r hf
            split at he
            · rename_i h hh
              obtain ⟨hs, hi0, hb⟩ := he
              have key : ∀ n, ∀ y, h.mu s y = n → h.inv s y → ∀ G a w, CRel cx G N (h.at_ s y) a w → Wp P [.code r, .inScope c0] Q a w := by
                intro n
                induction n using Nat.strongRecOn with
                | _ n ih =>
                  intro y hn hy G a w hr
                  refine ihB c0 _ r _ k G a w Q hr (hb y hy) hQ fun l' J hJ G s' a w hr hj => ?_
                  replace hJ : (bif Nat.beq l' l then some (h.back s y) else C l') = some J := hJ
                  cases hb' : Nat.beq l' l with
                  | true =>
                    rw [hb'] at hJ
                    injection hJ with hJ; subst hJ
                    obtain ⟨hs', hz, hlt⟩ := hj
                    replace hr := hr.drop h.dead
                    rw [hs'] at hr
                    rw [Nat.eq_of_beq_eq_true hb']
                    exact ⟨r, hf, ih _ (by rw [← hn]; exact hlt) _ rfl hz G a w hr⟩
                  | false =>
                    rw [hb'] at hJ
                    exact hC l' J hJ G s' a w hr hj
              exact .inl ⟨r, hf, key _ _ rfl hi0 G a w (by rw [← hs]; exact hr.drop h.dead)⟩
            · exact .inl ⟨r, hf, ihB c0 C r s k G a w Q hr he hQ hC⟩
end Go.Vc
end
/- A calculus of Go's functions by their values: functions. -/
section
set_option linter.unusedVariables false
set_option linter.unusedSectionVars false
set_option linter.unusedSimpArgs false
namespace Go.Vc
open Go.RowKit
variable [Wd] {P : Program} {cx : Cx} {G : Gh} {w : World}

def resSem (tmps : Array Value) (r : ResultVar) : Sem Value := match r with
  | .tmp t => Pure.pure (tmps.getD t undef)
  | .cell a t => do loadVar t (← asAddr (tmps.getD a undef))
theorem results_eq (fn : Func) (tmps : Array Value) : results fn tmps = (do let vs ← fn.results.mapM (resSem tmps); Pure.pure (if h : vs.size = 1 then vs[0] else .tuple vs)) := rfl
theorem resV_ok {T : Tabs} (hT : TabR T cx.F0) {N : Nat} {s : VS} {a : Act} (h : CRel cx G N s a w) {r : ResultVar} {v : PV} (hv : resV P T s r = some v) : ∃ u, (resSem a.tmps r).run P w = .ok u w ∧ Rep v G w u := by
  unfold resV at hv
  split at hv
  · rename_i t
    injection hv with hv; subst hv
    refine ⟨_, rfl, ?_⟩
    cases he : getN t s.env with
    | none => trivial
    | some x => exact h.env t x he
  · rename_i t ty
    split at hv
    · rename_i n off he
      split at hv
      · rename_i x hl
        injection hv with hv; subst hv
        obtain ⟨b, h1, h2⟩ := h.env t _ he
        obtain ⟨u, r1, r2⟩ := loadR_ok (P := P) h.inv hT (t := ty) (x := .ptr n off) (.inl hl) (show Rep (.ptr n off) G w _ from ⟨b, h1, h2⟩)
        refine ⟨u, ?_, r2⟩
        show (do loadVar ty (← asAddr (a.tmps.getD t undef)) : Sem Value).run P w = _
        rw [h2] at r1 ⊢
        simpa [asAddr, Instr.loadAt, Instr.sureAddr] using r1
      · cases hv
    · cases hv
theorem resVs_ok {T : Tabs} (hT : TabR T cx.F0) {N : Nat} {s : VS} {a : Act} (h : CRel cx G N s a w) : ∀ {rs : List ResultVar} {xs : List PV}, resVs P T s rs = some xs → ∃ us : List Value, (rs.mapM (resSem a.tmps)).run P w = .ok us w ∧ RepL' xs G w us
  | [], xs, hv => by
    unfold resVs at hv; injection hv with hv; subst hv
    exact ⟨[], rfl, rfl⟩
  | r :: rs, xs, hv => by
    unfold resVs at hv
    split at hv
    · rename_i y ys h1 h2
      injection hv with hv; subst hv
      obtain ⟨u, r1, r2⟩ := resV_ok hT h h1
      obtain ⟨us, r3, r4⟩ := resVs_ok hT h h2
      refine ⟨u :: us, ?_, u, us, rfl, r2, r4⟩
      rw [List.mapM_cons, Sem.run_bind, r1, Result.andThen_ok, Sem.run_bind, r3]; rfl
    · cases hv
theorem results_ok {T : Tabs} (hT : TabR T cx.F0) {N : Nat} {s : VS} {a : Act} (h : CRel cx G N s a w) {fn : Func} {v : PV} (hv : resultsV P T s fn.results.toList = some v) : ∃ u, (results fn a.tmps).run P w = .ok u w ∧ Rep v G w u := by
  have gen : ∀ (us : List Value), ((fn.results.toList.mapM (resSem a.tmps)).run P w = .ok us w) →
      (results fn a.tmps).run P w = .ok (if h : us.toArray.size = 1 then us.toArray[0] else .tuple us.toArray) w := by
    intro us hu
    rw [results_eq]
    simp only [Array.mapM_eq_mapM_toList, Sem.run_bind, Sem.run_map]
    rw [hu]
    rfl
  unfold resultsV at hv
  split at hv
  · rename_i x hx
    injection hv with hv; subst hv
    obtain ⟨us, r1, r2⟩ := resVs_ok hT h hx
    obtain ⟨u, us', rfl, h1, h2⟩ := r2
    obtain rfl : us' = [] := h2
    exact ⟨u, by rw [gen _ r1]; rfl, h1⟩
  · rename_i xs hne hx
    injection hv with hv; subst hv
    obtain ⟨us, r1, r2⟩ := resVs_ok hT h hx
    refine ⟨.tuple us.toArray, ?_, us, r2, rfl⟩
    rw [gen _ r1, dif_neg]
    intro h1
    have h2 : us.length = 1 := by simpa using h1
    have h3 := r2.length
    match xs, (by omega : xs.length = 1) with
    | [x], _ => exact hne x rfl
  · cases hv
theorem getN_with {xs : List PV} {t : Nat} {x : PV} : ∀ {ts : List Nat}, getN t (withAt xs ts) = some x → x = xs.getD t .undef
  | [], h => by cases h
  | u :: ts, h => by
    replace h : (bif Nat.beq u t then some (xs.getD u .undef) else getN t (withAt xs ts)) = some x := h
    cases hb : Nat.beq u t with
    | true =>
      rw [hb] at h
      have := Nat.eq_of_beq_eq_true hb
      subst this
      injection h with h; exact h.symm
    | false => rw [hb] at h; exact getN_with h
theorem Inv.bare {F : Nat → Nat → Option Value} (h : Fits F w) : Inv ⟨[], w, F, 0, fun _ => none⟩ (bareG F) [] w :=
  ⟨h, FLe.refl _, fun b o u hu => .inl hu, (fun n x hx => by cases hx), (fun n b hb => by cases hb), (fun t b ht => by cases ht), (fun n n' b hb => by cases hb), (fun t t' b ht => by cases ht), (fun n t b hb => by cases hb), (fun i hi => by cases hi), ⟨rfl, rfl, rfl, Nat.le_refl _, fun _ _ _ => rfl⟩⟩
theorem evF_ok {T : Tabs} {X : Tbl} {H : Loops} {fuel : Nat} {f : FuncId} {fn : Func} (hmix : P.follows .mixedOrders = true) (hX : XOk P T X) (hf : P.funcs[f]? = some fn) (hn : (fn.name == "runtime.NumGoroutine") = false) {xs : List PV} {r : PV} {pre : Prop}
    (he : pre → evF P X T H fuel fn xs fun v => v = r) : FuncOk P T f xs ⟨pre, r⟩ := by
  intro hpre F w vs hfits htab hwd hx
  have he := he hpre
  unfold evF at he
  cases hb : fn.body with
  | none => rw [hb] at he; exact he.elim
  | some c =>
    rw [hb] at he
    replace he : evC P X T H fn.ntmps fuel none c ⟨[], withAt xs (slotsOf (keepF fn) fn.ntmps), []⟩ (fun e s => match e with
      | .normal => outL (resultsV P T s fn.results.toList) fun v => v = r
      | .ret => outL (resultsV P T s fn.results.toList) fun v => v = r
      | _ => False) := he
    left
    refine ⟨?_, ?_⟩
    · unfold callFunc
      simp only [Sem.run_bind, run_program, Result.andThen_ok, hf]
      rw [hn]
      simp [hb]
    · refine calls_of_wp hf hb ?_
      have hlen := hx.length
      have hrel : CRel ⟨[], w, F, 0, fun _ => none⟩ (bareG F) fn.ntmps ⟨[], withAt xs (slotsOf (keepF fn) fn.ntmps), []⟩ { tmps := vs.toArray ++ Array.replicate (fn.ntmps - vs.toArray.size) undef, defers := [] } w := by
        refine ⟨Inv.bare hfits, fun t x ht => ?_, rfl, by simp; omega, rfl⟩
        have := getN_with ht
        subst this
        by_cases hlt : t < xs.length
        · have hg : xs[t]? = some (xs.getD t .undef) := by rw [List.getD, List.getElem?_eq_getElem hlt]; rfl
          obtain ⟨u, u1, u2⟩ := hx.get hg
          have hlt2 : t < vs.length := by omega
          have : (vs.toArray ++ Array.replicate (fn.ntmps - vs.toArray.size) undef).getD t undef = u := by
            rw [List.getElem?_eq_getElem hlt2] at u1
            injection u1 with u1
            rw [Array.getD_eq_getD_getElem?, Array.getElem?_append_left (by simpa using hlt2)]
            rw [List.getElem?_toArray, List.getElem?_eq_getElem hlt2, u1]
            rfl
          show Rep _ _ _ ((vs.toArray ++ Array.replicate (fn.ntmps - vs.toArray.size) undef).getD t undef)
          rw [this]; exact u2
        · have : xs.getD t .undef = .undef := by rw [List.getD, List.getElem?_eq_none (by omega)]; rfl
          rw [this]; trivial
      have fin : ∀ G s (a : Act) w', CRel ⟨[], w, F, 0, fun _ => none⟩ G fn.ntmps s a w' → outL (resultsV P T s fn.results.toList) (fun v => v = r) → a.defers = [] ∧ ∃ u, (results fn a.tmps).run P w' = .ok u w' ∧ ∃ v, Ending.returned u = .returned v ∧ Came F w r v w' := by
        intro G s a w' hr ho
        unfold outL at ho
        split at ho
        · rename_i r0 hr0
          rw [forceV_eq] at ho
          split at ho
          · rename_i hnam
            obtain ⟨u, g1, g2⟩ := results_ok (cx := ⟨[], w, F, 0, fun _ => none⟩) htab hr hr0
            refine ⟨hr.defers, u, g1, u, rfl, ?_⟩
            obtain ⟨s1, s2⟩ := hr.inv.turn (w' := w') (callF_ok (addNew [] (PV.allL PV.tok1 r0))) none rfl rfl rfl (Nat.le_refl _) (fun _ _ _ => rfl) (fun t b e => by cases e)
            have h2 := s2 _ _ g2
            have hag : r0.mapL (PV.mark1 (callF (addNew [] (PV.allL PV.tok1 r0)))) = r0.mapL (PV.mark1 bareF) := by
              refine mapL_agree (fun y => y.tok1 = [] ∨ ∀ t ∈ y.tok1, t ∈ addNew [] (PV.allL PV.tok1 r0)) (fun y _ hp => callF_bare hp) (fun y _ ht => ?_)
              rcases ht with h1 | h1
              · exact .inl h1
              · exact .inr fun t htm => (addNew_mem (PV.allL PV.tok1 r0) []).2 t (h1 t htm)
            rw [hag] at h2
            obtain ⟨b1, b2⟩ := bare_tok r0
            have h3 := Rep.deepen b1 (by rw [b2]; exact hnam) h2
            rw [ho] at h3
            refine ⟨(G.turn w' (callF (addNew [] (PV.allL PV.tok1 r0))) none).F, ⟨s1.kept.os, s1.kept.tape, s1.kept.output, s1.kept.size, fun k hk => s1.kept.block k hk (by simp)⟩, s1.base, s1.fits, fun b o u hu => ?_, h3⟩
            rcases s1.ext b o u hu with h4 | h4
            · exact .inl h4
            · rcases h4 with h4 | h4
              · cases h4
              · exact .inr h4
          · exact ho.elim
        · exact ho.elim
      refine (evC_ok hmix hX (by show 0 ≤ 32; omega) (show TabC T ⟨[], w, F, 0, fun _ => none⟩ from ⟨htab, rfl, hwd⟩) fuel).1 c _ _ (bareG F) _ w _ hrel he fun e G s a w' hr hk => ?_
      cases e with
      | normal => exact fin G s a w' hr hk
      | ret => exact fin G s a w' hr hk
      | exit i => exact hk.elim
      | goto l => exact hk.elim
end Go.Vc
end
/- A calculus of Go's functions by their values: what is known of functions, and what comes of it. -/
section
set_option linter.unusedVariables false
set_option linter.unusedSectionVars false
set_option linter.unusedSimpArgs false
namespace Go.Vc
open Go.RowKit
variable [Wd] {P : Program} {T : Tabs}

def tblX : List (FuncId × (List PV → Option CallR)) → Tbl
  | [], _, _ => none
  | e :: l, f, xs => bif Nat.beq e.1 f then e.2 xs else tblX l f xs
theorem tblX_nil : XOk P T (tblX []) := fun f xs c h => by cases h
theorem tblX_cons {f : FuncId} {g : List PV → Option CallR} {l : List (FuncId × (List PV → Option CallR))} (h : ∀ xs c, g xs = some c → FuncOk P T f xs c) (hl : XOk P T (tblX l)) : XOk P T (tblX ((f, g) :: l)) := fun f' xs c hc => by
  replace hc : (bif Nat.beq f f' then g xs else tblX l f' xs) = some c := hc
  cases hb : Nat.beq f f' with
  | true =>
    rw [hb] at hc
    rw [← Nat.eq_of_beq_eq_true hb]
    exact h xs c hc
  | false => rw [hb] at hc; exact hl f' xs c hc
theorem enter_run {f : FuncId} {fn : Func} {c : Code} (hf : P.funcs[f]? = some fn) (hn : (fn.name == "runtime.NumGoroutine") = false) (hb : fn.body = some c) (vs : Array Value) (w : World) : (callFunc f vs).run P w = .ok (.enter f vs) w := by
  unfold callFunc
  simp only [Sem.run_bind, run_program, Result.andThen_ok, hf]
  rw [hn]
  simp [hb]
theorem FuncOk.of_calls {f : FuncId} {fn : Func} {c : Code} (hf : P.funcs[f]? = some fn) (hn : (fn.name == "runtime.NumGoroutine") = false) (hb : fn.body = some c) {xs : List PV} {r : PV} {pre : Prop}
    (h : pre → ∀ (F : Nat → Nat → Option Value) (w : World) (vs : List Value), Fits F w → TabR T F → Wd.wd w → RepL' xs (bareG F) w vs → ∃ u, (Calls P f vs.toArray w fun e w' => e = .returned u ∧ Below w.heap.size w w') ∧ ∀ G w, Rep r G w u) : FuncOk P T f xs ⟨pre, r⟩ := by
  intro hpre F w vs hF hT hwd hx
  obtain ⟨u, h1, h2⟩ := h hpre F w vs hF hT hwd hx
  refine .inl ⟨enter_run hf hn hb _ w, h1.mono fun e w' he => ?_⟩
  obtain ⟨rfl, hb⟩ := he
  exact ⟨u, rfl, F, hb, FLe.refl _, fun b o q hq => by
    have := hF b o q hq
    rw [hb.cell (p := ⟨b, o, none⟩) (cell_lt this)]; exact this, fun b o q hq => .inl hq, h2 _ _⟩
theorem FuncOk.walk {f : FuncId} {fn : Func} {c : Code} (hf : P.funcs[f]? = some fn) (hn : (fn.name == "runtime.NumGoroutine") = false) (hb : fn.body = some c) {xs : List PV} {r : PV} {pre : Prop} (h : FuncOk P T f xs ⟨pre, r⟩) (hp : pre)
    {F : Nat → Nat → Option Value} {w : World} {vs : List Value} (hF : Fits F w) (hT : TabR T F) (hwd : Wd.wd w) (hx : RepL' xs (bareG F) w vs) : Calls P f vs.toArray w fun e w' => ∃ u, e = .returned u ∧ Came F w r u w' := by
  rcases h hp F w vs hF hT hwd hx with ⟨-, h2⟩ | ⟨u, w', h1, -⟩
  · exact h2
  · rw [enter_run hf hn hb] at h1; cases h1
abbrev noW : Wd := ⟨fun _ => True, fun _ _ _ _ => trivial⟩
def noT : Tabs := fun _ => .undef
theorem noT_ok (F : Nat → Nat → Option Value) : TabR noT F := fun g hg => by cases hg
theorem fits_none (w : World) : Fits (fun _ _ => none) w := fun b o u h => by cases h
theorem FuncOk.yes {f : FuncId} {fn : Func} {c : Code} (hf : P.funcs[f]? = some fn) (hn : (fn.name == "runtime.NumGoroutine") = false) (hb : fn.body = some c) {xs : List PV} (h : FuncOk P noT f xs ⟨True, .bool true⟩)
    {w : World} {vs : List Value} (hwd : Wd.wd w) (hx : RepL' xs (bareG fun _ _ => none) w vs) : Calls P f vs.toArray w fun e w' => e = .returned (.bool true) ∧ Below w.heap.size w w' :=
  (h.walk hf hn hb trivial (fits_none w) (noT_ok _) hwd hx).mono fun e w' ⟨u, he, F', hb, _, _, _, hr⟩ => ⟨by rw [he]; exact congrArg _ hr, hb⟩
theorem FuncOk.to {f : FuncId} {xs : List PV} {c : CallR} {pre : Prop} {r : PV} (h : FuncOk P T f xs c) (hp : pre → c.pre) (hr : pre → c.r = r) : FuncOk P T f xs ⟨pre, r⟩ := fun hpre F w vs hF hT hwd hx => by
  have := h (hp hpre) F w vs hF hT hwd hx
  rw [hr hpre] at this
  exact this
end Go.Vc
end
/- A calculus of Go's functions by their values: what its conditions want. -/
section
namespace Go.Vc
theorem byteZ_range (l : Bs) (z : Int) : 0 ≤ byteZ l z ∧ byteZ l z ≤ 255 := by
  unfold byteZ
  have := (l.getD z.toNat 0).toNat_lt
  omega
theorem set_fill {α : Type} {L : List α} {i n : Nat} {z b : α} (hn : n = L.length) (hb : L[i]? = some b) : (L.take i ++ List.replicate (n - i) z).set i b = L.take (i + 1) ++ List.replicate (n - (i + 1)) z := by
  have hi : i < L.length := (List.getElem?_eq_some_iff.1 hb).1
  have h1 : (L.take i).length = i := by rw [List.length_take]; omega
  rw [List.set_append, if_neg (by omega), h1, Nat.sub_self, show n - i = (n - (i + 1)) + 1 by omega, List.replicate_succ, List.set_cons_zero, List.take_add_one, hb]
  simp
theorem set_over_tail {α : Type} {L M : List α} {i : Nat} {b : α} (hn : M.length = L.length) (hb : L[i]? = some b) : (L.take i ++ M.drop i).set i b = L.take (i + 1) ++ M.drop (i + 1) := by
  have hi : i < L.length := (List.getElem?_eq_some_iff.1 hb).1
  have h1 : (L.take i).length = i := by rw [List.length_take]; omega
  rw [List.set_append, if_neg (by omega), h1, Nat.sub_self, List.take_add_one, hb, List.drop_eq_getElem_cons (l := M) (i := i) (by omega), List.set_cons_zero]
  simp
theorem zByte_byteZ (l : Bs) (z : Int) : zByte (byteZ l z) = l.getD z.toNat 0 := by
  unfold zByte byteZ
  simp
end Go.Vc
end
/- An evaluator of closed runs: values and memory as it sees them, all in passing style, so that the kernel can run it. -/
section
set_option linter.unusedVariables false
set_option linter.unusedSectionVars false
namespace Go.Ev

inductive Ans where
  | yes | no (c : Nat)
inductive Tr (α : Type) where
  | leaf
  | node (v : Option α) (l r : Tr α)
inductive Pa where
  | e | o (p : Pa) | z (p : Pa)
  deriving DecidableEq
noncomputable def pathF (f : Nat) : Nat → Pa :=
  Nat.rec (motive := fun _ => Nat → Pa) (fun _ => .e) (fun _ ih n => Nat.rec (motive := fun _ => Pa) .e (fun m _ => Bool.rec (motive := fun _ => Pa) (.z (ih (Nat.div m 2))) (.o (ih (Nat.div m 2))) (Nat.beq (Nat.mod m 2) 0)) n) f
noncomputable def path (n : Nat) : Pa := pathF (Nat.succ n) n
noncomputable def Tr.getP {α : Type} (p : Pa) (t : Tr α) (no : Ans) (k : α → Ans) : Ans :=
  Pa.rec (motive := fun _ => Tr α → Ans)
    (fun t => Tr.rec (motive := fun _ => Ans) no (fun v _ _ _ _ => Option.rec (motive := fun _ => Ans) no k v) t)
    (fun _ ih t => Tr.rec (motive := fun _ => Ans) no (fun _ l _ _ _ => ih l) t)
    (fun _ ih t => Tr.rec (motive := fun _ => Ans) no (fun _ _ r _ _ => ih r) t) p t
noncomputable def Tr.setP {α : Type} (p : Pa) (x : Option α) (t : Tr α) (k : Tr α → Ans) : Ans :=
  Pa.rec (motive := fun _ => Tr α → (Tr α → Ans) → Ans)
    (fun t k => Tr.rec (motive := fun _ => Ans) (k (.node x .leaf .leaf)) (fun _ l r _ _ => k (.node x l r)) t)
    (fun _ ih t k => Tr.rec (motive := fun _ => Ans) (ih .leaf (fun t => k (.node none t .leaf))) (fun v l r _ _ => ih l (fun t => k (.node v t r))) t)
    (fun _ ih t k => Tr.rec (motive := fun _ => Ans) (ih .leaf (fun t => k (.node none .leaf t))) (fun v l r _ _ => ih r (fun t => k (.node v l t))) t) p t k

class Sg where
  val : Nat → Value
inductive AV where
  | nat (n : Nat)
  | u8 (n : Nat)
  | int (k : IntKind) (n : Int)
  | bool (b : Bool)
  | str (n : Nat) (l : List Nat)
  | raw (v : Value)
  | ptr (b off : Nat)
  | slice (b off len : Nat) (exact : Bool) (c : Nat)
  | map (b : Nat)
  | iface (t : TypeId) (v : AV)
  | agg (l : List AV)
  | tup (l : List AV)
  | fn (f : Fn) (first captured : List AV)
  | sym (i : Nat)
class Sl where
  low : Nat → Nat → Option Nat
  tabs : List (Nat × List AV)
inductive Blk where
  | cells (elem : TypeId) (len : Nat) (t : Tr AV) (exact : Bool) (esz : Nat)
  | map (es : List (AV × AV × Nat)) (clock : Nat)
  | iter (l : List Nat) (pos : Nat)
  | miter (b since : Nat)
inductive Hp where
  | mk (t : Tr Blk) (n low : Nat)

noncomputable def fNat (n : Nat) (k : Nat → Ans) : Ans := Nat.rec (motive := fun _ => Ans) (k 0) (fun m _ => k (Nat.succ m)) n
noncomputable def fInt (z : Int) (k : Int → Ans) : Ans := Int.rec (motive := fun _ => Ans) (fun n => fNat n fun m => k (.ofNat m)) (fun n => fNat n fun m => k (.negSucc m)) z
noncomputable def fBool (b : Bool) (k : Bool → Ans) : Ans := Bool.rec (motive := fun _ => Ans) (k false) (k true) b
noncomputable def fList (l : List Nat) (k : List Nat → Ans) : Ans :=
  List.rec (motive := fun _ => (List Nat → Ans) → Ans) (fun k => k []) (fun x _ ih k => fNat x fun y => ih fun ys => k (y :: ys)) l k
noncomputable def fBytes (l : List UInt8) (k : Nat → List Nat → Ans) : Ans :=
  List.rec (motive := fun _ => (Nat → List Nat → Ans) → Ans) (fun k => k 0 []) (fun x _ ih k => fNat x.toNat fun y => ih fun n ys => fNat (Nat.succ n) fun n => k n (y :: ys)) l k
noncomputable def cnd (b : Bool) (x y : Ans) : Ans := Bool.rec (motive := fun _ => Ans) y x b
noncomputable def intAV (q : IntKind) (z : Int) (k : AV → Ans) : Ans :=
  match q, z with
  | .i64, .ofNat n => fNat n fun n => k (.nat n)
  | .u8, .ofNat n => fNat n fun n => k (.u8 n)
  | q, z => fInt z fun z => k (.int q z)
noncomputable def fVal1 (v : Value) (k : AV → Ans) : Ans :=
  match v with
  | .int q n => intAV q n k
  | .bool b => fBool b fun b => k (.bool b)
  | .string s => fBytes s.data.toList fun n l => k (.str n l)
  | .complex q a b => fNat a fun a => fNat b fun b => k (.raw (.complex q a b))
  | .float q a => fNat a fun a => k (.raw (.float q a))
  | .agg _ => .no 2
  | .tuple _ => .no 2
  | v => k (.raw v)
noncomputable def fVals (l : List Value) (k : List AV → Ans) : Ans :=
  List.rec (motive := fun _ => (List AV → Ans) → Ans) (fun k => k []) (fun v _ ih k => fVal1 v fun a => ih fun as => k (a :: as)) l k
noncomputable def fVal (v : Value) (k : AV → Ans) : Ans :=
  match v with
  | .agg cs => fVals cs.toList fun l => k (.agg l)
  | .tuple cs => fVals cs.toList fun l => k (.tup l)
  | v => fVal1 v k
noncomputable def toAV1 (v : Value) : AV :=
  match v with
  | .int .i64 (.ofNat n) => .nat n
  | .int .u8 (.ofNat n) => .u8 n
  | .int q z => .int q z
  | .bool b => .bool b
  | .string s => .str s.data.toList.length (s.data.toList.map (·.toNat))
  | v => .raw v
noncomputable def toAV (v : Value) : AV :=
  match v with
  | .agg cs => .agg (cs.toList.map toAV1)
  | .tuple cs => .tup (cs.toList.map toAV1)
  | v => toAV1 v
noncomputable def semPure {α : Type} (P : Program) (s : Sem α) : Option α :=
  Sem.rec (motive := fun _ => Option α) (fun a => some a) (fun _ _ _ _ => none) (fun _ _ _ _ _ => none) (fun _ _ _ => none) (fun _ _ _ => none) (fun _ _ _ _ => none) (fun _ _ _ => none) (fun _ _ _ => none) (fun _ _ _ _ => none) (fun _ _ _ => none) (fun _ _ _ => none) (fun _ ih => ih P) (fun _ _ ih => ih) (fun _ => none) s
def bytesOf (l : List Nat) : ByteArray := ⟨(l.map UInt8.ofNat).toArray⟩
def AV.plain1 : AV → Option Value
  | .nat n => some (.int .i64 n)
  | .u8 n => some (.int .u8 n)
  | .int k n => some (.int k n)
  | .bool b => some (.bool b)
  | .str _ l => some (.string (bytesOf l))
  | .raw v => some v
  | _ => none
def plainL : List AV → Option (List Value)
  | [] => some []
  | x :: xs => match x.plain1, plainL xs with
    | some v, some vs => some (v :: vs)
    | _, _ => none
def AV.plain : AV → Option Value
  | .agg l => (plainL l).map fun vs => .agg vs.toArray
  | x => x.plain1
noncomputable def AV.cells (x : AV) (k : List AV → Ans) : Ans :=
  match x with
  | .agg l => k l
  | .tup _ => .no 1
  | x => k [x]
end Go.Ev
namespace Go.Ev

noncomputable def readN (t : Tr AV) (n : Nat) (off : Nat) (k : List AV → Ans) : Ans :=
  Nat.rec (motive := fun _ => Nat → (List AV → Ans) → Ans) (fun _ k => k [])
    (fun _ ih off k => t.getP (path off) (.no 10) fun v => fNat (Nat.succ off) fun off => ih off fun l => k (v :: l)) n off k
noncomputable def writeL (l : List AV) (off : Nat) (t : Tr AV) (k : Tr AV → Ans) : Ans :=
  List.rec (motive := fun _ => Nat → Tr AV → (Tr AV → Ans) → Ans) (fun _ t k => k t)
    (fun v _ ih off t k => t.setP (path off) (some v) fun t => fNat (Nat.succ off) fun off => ih off t k) l off t k
noncomputable def lenK (l : List AV) (k : Nat → Ans) : Ans :=
  List.rec (motive := fun _ => (Nat → Ans) → Ans) (fun k => k 0) (fun _ _ ih k => ih fun n => fNat (Nat.succ n) k) l k
noncomputable def catK (l m : List AV) (k : List AV → Ans) : Ans :=
  List.rec (motive := fun _ => (List AV → Ans) → Ans) (fun k => k m) (fun x _ ih k => ih fun r => k (x :: r)) l k
noncomputable def catN (l m : List Nat) (k : List Nat → Ans) : Ans :=
  List.rec (motive := fun _ => (List Nat → Ans) → Ans) (fun k => k m) (fun x _ ih k => ih fun r => k (x :: r)) l k
noncomputable def takeK {α : Type} (n : Nat) (l : List α) (k : List α → Ans) : Ans :=
  Nat.rec (motive := fun _ => List α → (List α → Ans) → Ans) (fun _ k => k [])
    (fun _ ih l k => List.rec (motive := fun _ => Ans) (k []) (fun x xs _ => ih xs fun r => k (x :: r)) l) n l k
noncomputable def dropK {α : Type} (n : Nat) (l : List α) (k : List α → Ans) : Ans :=
  Nat.rec (motive := fun _ => List α → Ans) (fun l => k l) (fun _ ih l => List.rec (motive := fun _ => Ans) (k []) (fun _ xs _ => ih xs) l) n l
noncomputable def nthK {α : Type} (n : Nat) (l : List α) (no : Ans) (k : α → Ans) : Ans :=
  Nat.rec (motive := fun _ => List α → Ans) (fun l => List.rec (motive := fun _ => Ans) no (fun x _ _ => k x) l)
    (fun _ ih l => List.rec (motive := fun _ => Ans) no (fun _ xs _ => ih xs) l) n l
noncomputable def newK (e : TypeId) (l : List AV) (exact : Bool) (esz : Nat) (h : Hp) (k : Nat → Hp → Ans) : Ans :=
  match h with
  | .mk t n low => lenK l fun m => writeL l 0 .leaf fun c => t.setP (path n) (some (.cells e m c exact esz)) fun t => fNat (Nat.succ n) fun n' => k n (.mk t n' low)
noncomputable def natMin (a b : Nat) (k : Nat → Ans) : Ans := cnd (Nat.ble a b) (k a) (k b)
noncomputable def putK (b off : Nat) (l : List AV) (h : Hp) (k : Hp → Ans) : Ans :=
  match h with
  | .mk t n low => t.getP (path b) (.no 11) fun bl =>
    match bl with
    | .cells e m c ex sz => lenK l fun q => cnd (Nat.ble (Nat.add off q) m) (writeL l off c fun c => t.setP (path b) (some (.cells e m c ex sz)) fun t => natMin low b fun low => k (.mk t n low)) (.no 12)
    | _ => .no 13
noncomputable def getK (b off n : Nat) (h : Hp) (k : List AV → Ans) : Ans :=
  match h with
  | .mk t _ _ => t.getP (path b) (.no (1400000 + b)) fun bl =>
    match bl with
    | .cells _ m c _ _ => cnd (Nat.ble (Nat.add off n) m) (readN c n off k) (.no 15)
    | _ => .no 16

section
variable (P : Program)
noncomputable def sizeK (t : TypeId) (k : Nat → Ans) : Ans := Option.rec (motive := fun _ => Ans) (.no 20) (fun (i : TypeInfo) => fNat i.size k) (P.info? t)
def aggB (P : Program) (t : TypeId) : Bool :=
  match P.underlying t with
  | some (.struct _) => true
  | some (.array _ _) => true
  | _ => false
def knownB (P : Program) (t : TypeId) : Bool := (P.underlying t).isSome
noncomputable def zeroK (t : TypeId) (k : AV → Ans) : Ans :=
  Option.rec (motive := fun _ => Ans) (.no 21) (fun (i : TypeInfo) => Option.rec (motive := fun _ => Ans) (.no 22) (fun v => fVal v k) i.zero) (P.info? t)

noncomputable def plainK (x : AV) (k : Value → Ans) : Ans := Option.rec (motive := fun _ => Ans) (.no 23) k x.plain
noncomputable def modelK (s : Sem Value) (k : AV → Ans) : Ans := Option.rec (motive := fun _ => Ans) (.no 24) (fun v => fVal v k) (semPure P s)

noncomputable def isNil (x : AV) (k : Nat → Bool → Ans) : Ans :=
  match x with
  | .raw (.pointer none) => k 0 true
  | .raw (.slice none _ _) => k 1 true
  | .raw (.map none) => k 2 true
  | .raw .nilFunc => k 3 true
  | .ptr _ _ => k 0 false
  | .slice _ _ _ _ _ => k 1 false
  | .map _ => k 2 false
  | .fn _ _ _ => k 3 false
  | _ => .no 25
noncomputable def nilOf (q : Nat) (x y : AV) (k : Bool → Ans) : Ans :=
  isNil x fun i a => isNil y fun j b => cnd (Nat.beq i q) (cnd (Nat.beq j q) (cnd a (k b) (cnd b (k false) (.no 27))) (.no 27)) (.no 27)
noncomputable def nilEq (t : TypeId) (x y : AV) (k : Bool → Ans) : Ans :=
  match P.underlying t with
  | some (.pointer _) => nilOf 0 x y k
  | some (.slice _) => nilOf 1 x y k
  | some (.map _ _) => nilOf 2 x y k
  | some (.func _ _ _) => nilOf 3 x y k
  | _ => .no 26
noncomputable def wrapK (q : IntKind) (z : Int) (k : AV → Ans) : Ans := fInt (q.wrap z) fun z => intAV q z k
noncomputable def two63 : Nat := 9223372036854775808
noncomputable def eqNat (l m : List Nat) (k : Bool → Ans) : Ans :=
  List.rec (motive := fun _ => List Nat → Ans) (fun m => List.rec (motive := fun _ => Ans) (k true) (fun _ _ _ => k false) m)
    (fun x _ ih m => List.rec (motive := fun _ => Ans) (k false) (fun y ys _ => cnd (Nat.beq x y) (ih ys) (k false)) m) l m
noncomputable def ltNat (l m : List Nat) (k : Bool → Ans) : Ans :=
  List.rec (motive := fun _ => List Nat → Ans) (fun m => List.rec (motive := fun _ => Ans) (k false) (fun _ _ _ => k true) m)
    (fun x _ ih m => List.rec (motive := fun _ => Ans) (k false) (fun y ys _ => cnd (Nat.blt x y) (k true) (cnd (Nat.beq x y) (ih ys) (k false))) m) l m
noncomputable def strK (op : BinOp) (n : Nat) (l : List Nat) (m : Nat) (r : List Nat) (k : AV → Ans) : Ans :=
  match op with
  | .add => fNat (n + m) fun s => cnd (Nat.blt s 9223372036854775808) (catN l r fun t => k (.str s t)) (.no 28)
  | .eql => eqNat l r fun b => k (.bool b)
  | .neq => eqNat l r fun b => fBool (!b) fun b => k (.bool b)
  | .lss => ltNat l r fun b => k (.bool b)
  | .gtr => ltNat r l fun b => k (.bool b)
  | .leq => ltNat r l fun b => fBool (!b) fun b => k (.bool b)
  | .geq => ltNat l r fun b => fBool (!b) fun b => k (.bool b)
  | _ => .no 29
noncomputable def genK (op : BinOp) (t : TypeId) (x y : AV) (k : AV → Ans) : Ans :=
  plainK x fun a => plainK y fun b => modelK P (do eqGuard op t (.tmp 0) (.tmp 0) a b; Go.binOp op t a b) k
inductive OpC where
  | c1 (f : AV → Hp → (AV → Hp → Ans) → Ans)
  | c2 (f : AV → AV → Hp → (AV → Hp → Ans) → Ans)
  | cn (f : List AV → Hp → (AV → Hp → Ans) → Ans)
  | bad (n : Nat)
noncomputable def AV.cas (x : AV) (a b : Nat → Ans) (c : Nat → List Nat → Ans) (o : Ans) : Ans :=
  AV.rec (motive_1 := fun _ => (Nat → Ans) → (Nat → Ans) → (Nat → List Nat → Ans) → Ans → Ans) (motive_2 := fun _ => Unit)
    (fun n a _ _ _ => a n) (fun n _ b _ _ => b n) (fun _ _ _ _ _ o => o) (fun _ _ _ _ o => o) (fun n l _ _ c _ => c n l) (fun _ _ _ _ o => o) (fun _ _ _ _ _ o => o) (fun _ _ _ _ _ _ _ _ o => o) (fun _ _ _ _ o => o) (fun _ _ _ _ _ _ o => o) (fun _ _ _ _ _ o => o) (fun _ _ _ _ _ o => o) (fun _ _ _ _ _ _ _ _ o => o) (fun _ _ _ _ o => o) () (fun _ _ _ _ => ()) x a b c o
noncomputable def AV.memo (x : AV) (p : Nat → Nat → Ans) (s : Nat → Nat → Nat → Bool → Nat → Ans) (o : Ans) : Ans :=
  AV.rec (motive_1 := fun _ => (Nat → Nat → Ans) → (Nat → Nat → Nat → Bool → Nat → Ans) → Ans → Ans) (motive_2 := fun _ => Unit)
    (fun _ _ _ o => o) (fun _ _ _ o => o) (fun _ _ _ _ o => o) (fun _ _ _ o => o) (fun _ _ _ _ o => o) (fun _ _ _ o => o) (fun b n p _ _ => p b n) (fun b n m e c _ s _ => s b n m e c) (fun _ _ _ o => o) (fun _ _ _ _ _ o => o) (fun _ _ _ _ o => o) (fun _ _ _ _ o => o) (fun _ _ _ _ _ _ _ o => o) (fun _ _ _ o => o) () (fun _ _ _ _ => ()) x p s o
noncomputable def onBool (x : AV) (f t : Ans) (o : Ans) : Ans :=
  AV.rec (motive_1 := fun _ => Ans → Ans → Ans → Ans) (motive_2 := fun _ => Unit)
    (fun _ _ _ o => o) (fun _ _ _ o => o) (fun _ _ _ _ o => o) (fun b f t _ => Bool.rec (motive := fun _ => Ans) f t b) (fun _ _ _ _ o => o) (fun _ _ _ o => o) (fun _ _ _ _ o => o) (fun _ _ _ _ _ _ _ o => o) (fun _ _ _ o => o) (fun _ _ _ _ _ o => o) (fun _ _ _ _ o => o) (fun _ _ _ _ o => o) (fun _ _ _ _ _ _ _ o => o) (fun _ _ _ o => o) () (fun _ _ _ _ => ()) x f t o
def ptrB (P : Program) (t : TypeId) : Bool := match P.underlying t with
  | some (.pointer e) => (P.info? e).isSome
  | _ => false
noncomputable def eqAll (t : TypeId) (x y : AV) (k : Bool → Ans) (gen : Ans) : Ans :=
  match x, y with
  | .bool a, .bool b => cnd (knownBool P t) (fBool (a == b) k) (.no 31)
  | .int .., _ => gen
  | _, .int .. => gen
  | .raw (.complex ..), .raw (.complex ..) => gen
  | .raw (.float ..), .raw (.float ..) => gen
  | .agg _, .agg _ => gen
  | .ptr b o, .ptr b' o' => cnd (Nat.beq b b') (cnd (Nat.beq o o') (cnd (ptrB P t) (k true) (.no 186)) (.no 187)) (.no 188)
  | x, y => nilEq P t x y k
where
  knownBool (P : Program) (t : TypeId) : Bool := match P.underlying t with | some .bool => true | _ => false
abbrev AK := AV → Hp → Ans
noncomputable def gen2 (op : BinOp) (t : TypeId) (x y : AV) (h : Hp) (k : AK) : Ans := genK P op t x y fun v => k v h
noncomputable def addK (t : TypeId) (x y : AV) (h : Hp) (k : AK) : Ans :=
  x.cas (fun a => y.cas (fun b => fNat (Nat.add a b) fun s => cnd (Nat.blt s two63) (k (.nat s) h) (.no 125)) (fun _ => .no 125) (fun _ _ => .no 125) (gen2 P .add t x y h k))
    (fun _ => gen2 P .add t x y h k) (fun n l => y.cas (fun _ => .no 125) (fun _ => .no 125) (fun m r => strK .add n l m r fun v => k v h) (.no 125)) (gen2 P .add t x y h k)
noncomputable def subK (t : TypeId) (x y : AV) (h : Hp) (k : AK) : Ans :=
  x.cas (fun a => y.cas (fun b => cnd (Nat.ble b a) (fNat (Nat.sub a b) fun s => cnd (Nat.blt s two63) (k (.nat s) h) (.no 126)) (gen2 P .sub t x y h k)) (fun _ => .no 126) (fun _ _ => .no 126) (gen2 P .sub t x y h k))
    (fun _ => gen2 P .sub t x y h k) (fun _ _ => .no 126) (gen2 P .sub t x y h k)
noncomputable def mulK (t : TypeId) (x y : AV) (h : Hp) (k : AK) : Ans :=
  x.cas (fun a => y.cas (fun b => fNat (Nat.mul a b) fun s => cnd (Nat.blt s two63) (k (.nat s) h) (.no 127)) (fun _ => .no 127) (fun _ _ => .no 127) (gen2 P .mul t x y h k))
    (fun _ => gen2 P .mul t x y h k) (fun _ _ => .no 127) (gen2 P .mul t x y h k)
noncomputable def boolTo (h : Hp) (k : AK) (b : Bool) : Ans := Bool.rec (motive := fun _ => Ans) (k (.bool false) h) (k (.bool true) h) b
noncomputable def notTo (h : Hp) (k : AK) (b : Bool) : Ans := Bool.rec (motive := fun _ => Ans) (k (.bool true) h) (k (.bool false) h) b
noncomputable def cmpK (num : Nat → Nat → Bool) (str : List Nat → List Nat → (Bool → Ans) → Ans) (other : (Bool → Ans) → Ans) (x y : AV) (k : Bool → Ans) : Ans :=
  x.cas (fun a => y.cas (fun b => k (num a b)) (fun _ => .no 128) (fun _ _ => .no 128) (other k)) (fun a => y.cas (fun _ => .no 128) (fun b => k (num a b)) (fun _ _ => .no 128) (other k))
    (fun _ l => y.cas (fun _ => .no 128) (fun _ => .no 128) (fun _ r => str l r k) (.no 128)) (other k)
noncomputable def genB (op : BinOp) (t : TypeId) (x y : AV) (k : Bool → Ans) : Ans := genK P op t x y fun v => match v with
  | .bool b => k b
  | _ => .no 129
noncomputable def binC (op : BinOp) (t : TypeId) : OpC :=
  match op with
  | .add => .c2 (addK P t)
  | .sub => .c2 (subK P t)
  | .mul => .c2 (mulK P t)
  | .eql => .c2 fun x y h k => cmpK Nat.beq eqNat (fun k => eqAll P t x y k (genB P .eql t x y k)) x y (boolTo h k)
  | .neq => .c2 fun x y h k => cmpK Nat.beq eqNat (fun k => eqAll P t x y k (genB P .neq t x y fun b => fBool (!b) k)) x y (notTo h k)
  | .lss => .c2 fun x y h k => cmpK Nat.blt ltNat (genB P .lss t x y) x y (boolTo h k)
  | .geq => .c2 fun x y h k => cmpK Nat.blt ltNat (fun k => genB P .geq t x y fun b => fBool (!b) k) x y (notTo h k)
  | .gtr => .c2 fun x y h k => cmpK Nat.blt ltNat (genB P .gtr t x y) y x (boolTo h k)
  | .leq => .c2 fun x y h k => cmpK Nat.blt ltNat (fun k => genB P .leq t x y fun b => fBool (!b) k) y x (notTo h k)
  | op => .c2 (gen2 P op t)
noncomputable def unK (op : UnOp) (x : AV) (k : AV → Ans) : Ans :=
  match op, x with
  | .not, .bool b => fBool (!b) fun b => k (.bool b)
  | op, x => plainK x fun v => modelK P (Op.unary op v) k
noncomputable def inK (b off : Nat) (h : Hp) (k : TypeId → Nat → Bool → Ans) : Ans :=
  match h with
  | .mk t _ _ => t.getP (path b) (.no 197) fun bl =>
    match bl with
    | .cells e m _ ex _ => cnd (Nat.blt off m) (k e m ex) (.no 198)
    | _ => .no 199
noncomputable def convK (src dst : TypeId) (x : AV) (h : Hp) (k : AV → Hp → Ans) : Ans :=
  match P.underlying dst, x with
  | some (.int q), .nat n => cnd (knownB P src) (wrapK q (.ofNat n) fun v => k v h) (.no 127)
  | some (.int q), .u8 n => cnd (knownB P src) (wrapK q (.ofNat n) fun v => k v h) (.no 127)
  | some (.int q), .int _ n => cnd (knownB P src) (wrapK q n fun v => k v h) (.no 127)
  | some .string, .str n l => cnd (knownB P src) (k x h) (.no 34)
  | some (.slice e), .str n l =>
    match P.underlying e with
    | some (.int .u8) => cnd (knownB P src) (List.rec (motive := fun _ => (List AV → Ans) → Ans) (fun k => k []) (fun c _ ih k => ih fun r => k (.u8 c :: r)) l fun cs => newK e cs false 1 h fun b h => k (.slice b 0 n false 0) h) (.no 35)
    | _ => .no 36
  | some .string, .slice b off len _ _ =>
    match P.underlying src with
    | some (.slice e) =>
      match P.underlying e with
      | some (.int .u8) => getK b off len h fun cs =>
          List.rec (motive := fun _ => (List Nat → Ans) → Ans) (fun k => k []) (fun c _ ih k => match c with
            | .u8 m => cnd (Nat.blt m 256) (ih fun r => k (m :: r)) (.no 37)
            | _ => .no 38) cs fun l => k (.str len l) h
      | _ => .no 39
    | _ => .no 40
  | some .string, .raw (.slice none _ _) =>
    match P.underlying src with
    | some (.slice e) =>
      match P.underlying e with
      | some (.int .u8) => k (.str 0 []) h
      | _ => .no 41
    | _ => .no 42
  | some .unsafePointer, .ptr b off =>
    match P.underlying src with
    | some (.pointer t) => sizeK P t fun n => cnd (Nat.blt 0 n) (inK b off h fun _ _ _ => k (.ptr b off) h) (.no 192)
    | _ => .no 193
  | some (.pointer u), .ptr b off =>
    match P.underlying src with
    | some .unsafePointer => inK b off h fun e m ex => cnd ex (cnd (liesAt P P.depth e (Nat.div m (P.cellsOf e)) off u 1) (sizeK P u fun _ => k (.ptr b off) h) (.no 194)) (.no 195)
    | _ => .no 196
  | _, x => plainK x fun v => modelK P (convert src dst v) fun v => k v h
noncomputable def partK (t : TypeId) (l : List AV) (off : Nat) (k : AV → Ans) : Ans :=
  cnd (knownB P t) (cnd (aggB P t) (sizeK P t fun n => dropK off l fun l => takeK n l fun l => k (.agg l)) (nthK off l (.no 43) k)) (.no 44)
noncomputable def natOf (x : AV) (k : Nat → Ans) : Ans :=
  match x with
  | .nat n => k n
  | .u8 n => k n
  | .int _ (.ofNat n) => k n
  | _ => .no 45
noncomputable def optOf (x : Option AV) (d : Nat) (k : Nat → Ans) : Ans :=
  match x with
  | none => k d
  | some x => natOf x k
noncomputable def sliceK (t : TypeId) (x : AV) (lo hi mx : Option AV) (k : AV → Ans) : Ans :=
  match P.underlying t, x with
  | some .string, .str n l => match mx with
    | some _ => .no 46
    | none => optOf lo 0 fun a => optOf hi n fun b => cnd (Nat.ble b n) (cnd (Nat.ble a b) (dropK a l fun l => fNat (b - a) fun m => takeK m l fun l => k (.str m l)) (.no 47)) (.no 48)
  | some (.slice e), .raw (.slice none 0 0) => sizeK P e fun _ => optOf lo 0 fun a => optOf hi 0 fun b => optOf mx 0 fun c => cnd (Nat.beq (a + b + c) 0) (k (.raw (.slice none 0 0))) (.no 49)
  | some (.slice e), .slice b off len true c => sizeK P e fun sz => optOf mx c fun m => optOf hi len fun q => optOf lo 0 fun a =>
      cnd (Nat.ble m c) (cnd (Nat.ble q m) (cnd (Nat.ble a q) (fNat (q - a) fun n => fNat (m - a) fun c => cnd (Nat.beq m a) (k (.slice b off n true c)) (fNat (off + a * sz) fun off => k (.slice b off n true c))) (.no 50)) (.no 51)) (.no 52)
  | some (.slice e), .slice b off len false c => sizeK P e fun sz => match mx with
    | some _ => .no 53
    | none => optOf hi len fun q => optOf lo 0 fun a =>
      cnd (Nat.ble q len) (cnd (Nat.ble a q) (cnd (Nat.beq a 0) (k (.slice b off q false c)) (cnd (Nat.blt a len) (fNat (q - a) fun n => fNat (off + a * sz) fun off => fNat (c + a) fun c => k (.slice b off n false c)) (.no 54))) (.no 55)) (.no 56)
  | some (.array n e), .ptr b off => sizeK P e fun sz => optOf mx n fun m => optOf hi n fun q => optOf lo 0 fun a =>
      cnd (Nat.ble m n) (cnd (Nat.ble q m) (cnd (Nat.ble a q) (fNat (q - a) fun l => fNat (m - a) fun c => cnd (Nat.beq m a) (k (.slice b off l true c)) (fNat (off + a * sz) fun off => k (.slice b off l true c))) (.no 57)) (.no 58)) (.no 59)
  | _, _ => .no 60
noncomputable def fieldAddrK (s : TypeId) (x : AV) (f : Nat) (k : AV → Ans) : Ans :=
  match P.underlying s, x with
  | some (.struct fs), .ptr b off => Option.rec (motive := fun _ => Ans) (.no 61) (fun (g : Field) => sizeK P g.type fun n => cnd (Nat.beq n 0) (.no 62) (fNat (off + g.offset) fun off => k (.ptr b off))) fs[f]?
  | _, _ => .no 63
noncomputable def fieldK (s : TypeId) (x : AV) (f : Nat) (k : AV → Ans) : Ans :=
  match P.underlying s, x with
  | some (.struct fs), .agg l => Option.rec (motive := fun _ => Ans) (.no 64) (fun (g : Field) => partK P g.type l g.offset k) fs[f]?
  | _, _ => .no 65
noncomputable def indexAddrK (t : TypeId) (x i : AV) (k : AV → Ans) : Ans :=
  natOf i fun i => match P.underlying t, x with
  | some (.array n e), .ptr b off => sizeK P e fun sz => cnd (Nat.blt i n) (fNat (off + i * sz) fun off => k (.ptr b off)) (.no 66)
  | some (.slice e), .slice b off len _ _ => sizeK P e fun sz => cnd (Nat.blt i len) (fNat (off + i * sz) fun off => k (.ptr b off)) (.no 67)
  | _, _ => .no 68
noncomputable def indexK (t : TypeId) (x i : AV) (k : AV → Ans) : Ans :=
  natOf i fun i => match P.underlying t, x with
  | some (.array n e), .agg l => sizeK P e fun sz => cnd (Nat.blt i n) (fNat (i * sz) fun off => partK P e l off k) (.no 69)
  | some .string, .str n l => nthK i l (.no 70) fun c => k (.u8 c)
  | _, _ => .no 71
noncomputable def loadK (t : TypeId) (x : AV) (h : Hp) (k : AV → Ans) : Ans :=
  match x with
  | .ptr b off => cnd (knownB P t) (cnd (aggB P t) (sizeK P t fun n => getK b off n h fun l => k (.agg l)) (getK b off 1 h fun l => nthK 0 l (.no 72) k)) (.no 73)
  | _ => .no 74
noncomputable def storeK (t : TypeId) (x v : AV) (h : Hp) (k : Hp → Ans) : Ans :=
  match x with
  | .ptr b off => v.cells fun l => lenK l fun n => sizeK P t fun m => cnd (Nat.beq n m) (putK b off l h k) (.no 75)
  | _ => .no 76
noncomputable def fillK (place : Nat → (Nat → Nat → Ans) → Ans) (ps : List Nat) (xs : List AV) (t : Tr AV) (k : Tr AV → Ans) : Ans :=
  List.rec (motive := fun _ => List AV → Tr AV → Ans) (fun _ t => k t)
    (fun i _ ih xs t => List.rec (motive := fun _ => Ans) (.no 77) (fun x xs _ => place i fun off n => x.cells fun l => lenK l fun m => cnd (Nat.beq n m) (writeL l off t fun t => ih xs t) (.no 78)) xs) ps xs t
def fieldsOk (P : Program) (fs : Array Field) : Bool := fs.toList.all fun f => (P.info? f.type).isSome
noncomputable def buildK (t : TypeId) (ps : List Nat) (xs : List AV) (k : AV → Ans) : Ans :=
  zeroK P t fun z => z.cells fun zl => lenK zl fun n => writeL zl 0 .leaf fun c =>
  match P.underlying t with
  | some (.struct fs) => cnd (fieldsOk P fs) (fillK (fun i r => Option.rec (motive := fun _ => Ans) (.no 79) (fun (g : Field) => sizeK P g.type fun m => cnd (Nat.ble (g.offset + m) n) (r g.offset m) (.no 80)) fs[i]?) ps xs c fun c => readN c n 0 fun l => k (.agg l)) (.no 82)
  | some (.array q e) => sizeK P e fun sz => fillK (fun i r => fNat (i * sz) fun off => cnd (Nat.ble (off + sz) n) (r off sz) (.no 81)) ps xs c fun c => readN c n 0 fun l => k (.agg l)
  | _ => .no 82
noncomputable def repK (n : Nat) (zl : List AV) (k : List AV → Ans) : Ans :=
  Nat.rec (motive := fun _ => (List AV → Ans) → Ans) (fun k => k []) (fun _ ih k => ih fun r => catK zl r k) n k
noncomputable def zerosK (e : TypeId) (sz n : Nat) (k : List AV → Ans) : Ans :=
  Nat.rec (motive := fun _ => Ans) (k []) (fun _ _ => zeroK P e fun z => z.cells fun zl => lenK zl fun m => cnd (Nat.beq m sz) (cnd (Nat.blt 0 sz) (repK n zl k) (.no 118)) (.no 119)) n
noncomputable def buildSliceK (t : TypeId) (len : Nat) (ps : List Nat) (xs : List AV) (h : Hp) (k : AV → Hp → Ans) : Ans :=
  match P.underlying t with
  | some (.slice e) => sizeK P e fun sz => cnd (Nat.ble (len * sz) 65536) (zerosK P e sz len fun zl => lenK zl fun n => writeL zl 0 .leaf fun c =>
      fillK (fun i r => fNat (i * sz) fun off => cnd (Nat.ble (off + sz) n) (r off sz) (.no 83)) ps xs c fun c => readN c n 0 fun l => newK e l true sz h fun b h => k (.slice b 0 len true len) h) (.no 84)
  | _ => .no 85
noncomputable def makeSliceK (t : TypeId) (x y : AV) (h : Hp) (k : AV → Hp → Ans) : Ans :=
  match P.underlying t with
  | some (.slice e) => natOf x fun n => natOf y fun c => sizeK P e fun sz => cnd (Nat.ble n c) (cnd (Nat.ble c 65536) (cnd (smallB P e) (zerosK P e sz c fun l => newK e l true sz h fun b h => k (.slice b 0 n true c) h) (.no 86)) (.no 87)) (.no 88)
  | _ => .no 89
where
  smallB (P : Program) (e : TypeId) : Bool := match P.info? e with | some i => Nat.ble i.bytes 65536 | none => false
noncomputable def sourceK (sz : Nat) (x : AV) (h : Hp) (k : Nat → List AV → Ans) : Ans :=
  match x with
  | .str n l => cnd (Nat.beq sz 1) (List.rec (motive := fun _ => (List AV → Ans) → Ans) (fun k => k []) (fun c _ ih k => ih fun r => k (.u8 c :: r)) l fun r => k n r) (.no 90)
  | .slice b off n _ _ => fNat (n * sz) fun m => getK b off m h fun l => k n l
  | .raw (.slice none n _) => cnd (Nat.beq n 0) (k 0 []) (.no 91)
  | _ => .no 92
noncomputable def growK (e : TypeId) (sz : Nat) (old new : List AV) (need : Nat) (h : Hp) (k : AV → Hp → Ans) : Ans :=
  catK old new fun l => cnd (Nat.ble need 65536) (cnd (makeSliceK.smallB P e) (zeroK P e fun z => z.cells fun zl => lenK zl fun q => cnd (Nat.beq q sz) (newK e l false sz h fun b h => k (.slice b 0 need false 0) h) (.no 93)) (.no 93)) (.no 94)
noncomputable def movedK (b sz at_ : Nat) (new : List AV) (need : Nat) (t : Tr Blk) (nx low : Nat) (e : TypeId) (k : AV → Hp → Ans) : Ans :=
  getK b 0 at_ (.mk t nx low) fun old => natMin low b fun low => t.setP (path b) none fun t => growK P e sz old new need (.mk t nx low) k
noncomputable def srcTy (P : Program) (ts : Array TypeId) : Bool := match (ts[1]?).bind P.underlying with
  | some (.slice _) => true
  | some .string => true
  | _ => false
noncomputable def appendK (ts : Array TypeId) (s x : AV) (h : Hp) (k : AV → Hp → Ans) : Ans :=
  match (ts[0]?).bind P.underlying with
  | some (.slice e) => cnd (srcTy P ts) (sizeK P e fun sz => sourceK sz x h fun n new =>
    match s with
    | .raw (.slice none 0 0) => cnd (Nat.beq n 0) (k s h) (growK P e sz [] new n h k)
    | .slice b off len true c => fNat (len + n) fun need => cnd (Nat.ble need c) (fNat (off + len * sz) fun at_ => putK b at_ new h fun h => k (.slice b off need true c) h)
        (fNat (len * sz) fun m => getK b off m h fun old => growK P e sz old new need h k)
    | .slice b off len false c => fNat (len + n) fun need => fNat (off + len * sz) fun at_ => match h with
      | .mk t nx low => t.getP (path b) (.no 96) fun bl => match bl with
        | .cells e' m _ ex sz' => cnd (okB sz sz' off c ex) (cnd (Nat.ble (at_ + n * sz) m) (putK b at_ new (.mk t nx low) fun h => k (.slice b off need false c) h)
            (cnd (Nat.beq at_ m) (cnd (Nat.beq off 0) (cnd (Nat.beq e' e) (movedK P b sz at_ new need t nx low e k) (.no 97)) (.no 97)) (.no 97))) (.no 97)
        | _ => .no 98
    | _ => .no 99) (.no 95)
  | _ => .no 100
where
  okB (sz sz' off c : Nat) (ex : Bool) : Bool := Bool.rec (motive := fun _ => Bool) (Bool.and (Nat.beq sz' sz) (Bool.and (Nat.blt 0 sz) (Nat.beq off (Nat.mul c sz)))) false ex
noncomputable def copyK (ts : Array TypeId) (d x : AV) (h : Hp) (k : AV → Hp → Ans) : Ans :=
  match (ts[0]?).bind P.underlying with
  | some (.slice e) => sizeK P e fun sz => sourceK sz x h fun n l =>
    match d with
    | .slice b off len _ _ => natMin n len fun m => fNat (m * sz) fun q => takeK q l fun l => putK b off l h fun h => k (.nat m) h
    | .raw (.slice none 0 _) => k (.nat 0) h
    | _ => .no 103
  | _ => .no 104
noncomputable def mapEs (b : Nat) (h : Hp) (k : List (AV × AV × Nat) → Nat → Ans) : Ans :=
  match h with
  | .mk t _ _ => t.getP (path b) (.no 105) fun bl => match bl with
    | .map es c => k es c
    | _ => .no 106
noncomputable def sameKey (d : TypeDesc) (x y : AV) (k : Bool → Ans) : Ans :=
  match d, x, y with
  | .string, .str _ l, .str _ m => eqNat l m k
  | .int _, .nat a, .nat b => fBool (Nat.beq a b) k
  | .int _, .u8 a, .u8 b => fBool (Nat.beq a b) k
  | .int _, .int q a, .int q' b => cnd (decide (q = q')) (fBool (decide (a = b)) k) (.no 107)
  | _, _, _ => .no 108
noncomputable def findK (d : TypeDesc) (x : AV) (es : List (AV × AV × Nat)) (no : Ans) (k : AV → Ans) : Ans :=
  List.rec (motive := fun _ => Ans) no (fun e _ ih => sameKey d x e.1 fun b => cnd b (k e.2.1) ih) es
noncomputable def lenOfK (t : TypeId) (x : AV) (h : Hp) (k : AV → Ans) : Ans :=
  match P.underlying t, x with
  | some .string, .str n _ => k (.nat n)
  | some (.slice _), .slice _ _ n _ _ => k (.nat n)
  | some (.slice _), .raw (.slice none n _) => fNat n fun n => k (.nat n)
  | some (.array n _), _ => fNat n fun n => k (.nat n)
  | some (.map _ _), .raw (.map none) => k (.nat 0)
  | some (.map _ _), .map b => mapEs b h fun es _ => fNat es.length fun n => k (.nat n)
  | _, _ => .no 109
def keyOk (d : TypeDesc) : Bool := match d with
  | .int _ => true
  | .string => true
  | _ => false
noncomputable def lookupK (t : TypeId) (x i : AV) (ok : Bool) (h : Hp) (k : AV → Ans) : Ans :=
  match P.underlying t with
  | some (.map q e) =>
    let fin (v : AV) (b : Bool) : Ans := cnd ok (k (.tup [v, .bool b])) (k v)
    match x, P.underlying q with
    | .raw (.map none), some d => cnd (keyOk d) (zeroK P e fun z => fin z false) (.no 110)
    | .map b, some d => cnd (keyOk d) (mapEs b h fun es _ => findK d i es (zeroK P e fun z => fin z false) fun v => fin v true) (.no 110)
    | _, _ => .no 110
  | _ => .no 111
noncomputable def setEs (d : TypeDesc) (x v : AV) (es : List (AV × AV × Nat)) (no : Ans) (k : List (AV × AV × Nat) → Ans) : Ans :=
  List.rec (motive := fun _ => (List (AV × AV × Nat) → Ans) → Ans) (fun _ => no) (fun e r ih k => sameKey d x e.1 fun b => cnd b (k ((e.1, v, e.2.2) :: r)) (ih fun r => k (e :: r))) es k
noncomputable def catE (l m : List (AV × AV × Nat)) (k : List (AV × AV × Nat) → Ans) : Ans :=
  List.rec (motive := fun _ => (List (AV × AV × Nat) → Ans) → Ans) (fun k => k m) (fun x _ ih k => ih fun r => k (x :: r)) l k
noncomputable def updateK (t : TypeId) (x i v : AV) (h : Hp) (k : Hp → Ans) : Ans :=
  match P.underlying t with
  | some (.map q _) =>
    match x, P.underlying q, h with
    | .map b, some d, .mk t n low => cnd (keyOk d) (mapEs b (.mk t n low) fun es c =>
      let fin (es : List (AV × AV × Nat)) (c : Nat) : Ans := t.setP (path b) (some (.map es c)) fun t => natMin low b fun low => k (.mk t n low)
      setEs d i v es (catE es [(i, v, c)] fun es => fNat (Nat.succ c) fun c => fin es c) fun es => fin es c) (.no 112)
    | _, _, _ => .no 112
  | _ => .no 113
noncomputable def newMapK (h : Hp) (k : AV → Hp → Ans) : Ans :=
  match h with
  | .mk t n low => t.setP (path n) (some (.map [] 0)) fun t => fNat (Nat.succ n) fun n' => k (.map n) (.mk t n' low)
noncomputable def unsafeTy (P : Program) (ts : Array TypeId) (x : Ans) : Ans := cnd (Nat.beq ts.size 2) x (.no 204)
noncomputable def unsafeStrK (P : Program) (ts : Array TypeId) (b n : Nat) (h : Hp) (k : AV → Hp → Ans) : Ans :=
  cnd (Nat.beq ts.size 2) (match (ts[0]?).bind P.underlying with
    | some (.pointer e) => getK b 0 n h fun cs => List.rec (motive := fun _ => (List Nat → Ans) → Ans) (fun k => k []) (fun c _ ih k => match c with
            | .u8 m => cnd (Nat.blt m 256) (ih fun r => k (m :: r)) (.no 37)
            | _ => .no 38) cs fun l => cnd (Nat.blt 0 n) (cnd (Nat.blt n two63) (cnd (Nat.beq (P.cellsOf e) 1) (match h with
              | .mk t nx low => t.getP (path b) (.no 205) fun bl => match bl with
                | .cells e' _ _ _ _ => cnd (Nat.beq e' e) (natMin low b fun low => t.setP (path b) none fun t => k (.str n l) (.mk t nx low)) (.no 206)
                | _ => .no 207) (.no 208)) (.no 209)) (.no 210)
    | _ => .no 211) (.no 212)
noncomputable def rangeStrK (P : Program) (t : TypeId) (x : AV) (h : Hp) (k : AV → Hp → Ans) : Ans :=
  match P.underlying t, x, h with
  | some .string, .str _ l, .mk tr nx low => tr.setP (path nx) (some (.iter l 0)) fun tr => fNat (Nat.succ nx) fun n' => k (.ptr nx 0) (.mk tr n' low)
  | some (.map _ _), .map b, .mk tr nx low => tr.getP (path b) (.no 246) fun bl => match bl with
    | .map _ c => tr.setP (path nx) (some (.miter b c)) fun tr => fNat (Nat.succ nx) fun n' => k (.ptr nx 0) (.mk tr n' low)
    | _ => .no 247
  | _, _, _ => .no 220
noncomputable def nextStrK (x : AV) (h : Hp) (k : AV → Hp → Ans) : Ans :=
  match x, h with
  | .ptr b 0, .mk t n low => t.getP (path b) (.no 221) fun bl => match bl with
    | .iter l pos => dropK pos l fun r => List.rec (motive := fun _ => Ans) (k (.tup [.bool false]) (.mk t n low))
        (fun c _ _ => cnd (Nat.blt c 128) (fNat (Nat.succ pos) fun p => natMin low b fun low' => t.setP (path b) (some (.iter l p)) fun t' => k (.tup [.bool true, .nat pos, .int .i32 c]) (.mk t' n low')) (.no 222)) r
    | _ => .no 223
  | _, _ => .no 224
noncomputable def builtinK (b : Builtin) (ts : Array TypeId) (ty : TypeId) (xs : List AV) (h : Hp) (k : AV → Hp → Ans) : Ans :=
  match b, xs with
  | .len, [x] => Option.rec (motive := fun _ => Ans) (.no 114) (fun t => lenOfK P t x h fun v => k v h) ts[0]?
  | .append, [s, x] => appendK P ts s x h k
  | .copy, [d, x] => copyK P ts d x h k
  | .cap, [.slice _ _ _ true c] => match (ts[0]?).bind P.underlying with
    | some (.slice _) => k (.nat c) h
    | _ => .no 115
  | .unsafeSliceData, [.slice b off n ex c] => cnd (Nat.blt 0 n) (cnd (Bool.or (!ex) (Nat.blt 0 c)) (k (.ptr b off) h) (.no 200)) (.no 201)
  | .unsafeSliceData, [.raw (.slice none _ _)] => k (.raw (.pointer none)) h
  | .unsafeString, [.raw (.pointer none), .nat n] => cnd (Nat.beq n 0) (unsafeTy P ts (k (.str 0 []) h)) (.no 202)
  | .unsafeString, [.ptr b off, .nat n] => cnd (Nat.beq off 0) (unsafeStrK P ts b n h k) (.no 203)
  | .max, xs => plainsK xs fun vs => modelK P (Builtin.max_ ts ty vs.toArray) fun v => k v h
  | .min, xs => plainsK xs fun vs => modelK P (Builtin.min_ ts ty vs.toArray) fun v => k v h
  | .real, xs => plainsK xs fun vs => modelK P (Builtin.real_ ts ty vs.toArray) fun v => k v h
  | .imag, xs => plainsK xs fun vs => modelK P (Builtin.imag_ ts ty vs.toArray) fun v => k v h
  | .complex, xs => plainsK xs fun vs => modelK P (Builtin.complex_ ts ty vs.toArray) fun v => k v h
  | _, _ => .no 116
where
  plainsK (xs : List AV) (k : List Value → Ans) : Ans := Option.rec (motive := fun _ => Ans) (.no 117) k (plainL xs)
end
end Go.Ev
end
/- The evaluator's code: regions made ready, statements, calls. -/
section
set_option linter.unusedVariables false
set_option linter.unusedSectionVars false
namespace Go.Ev

inductive Rf where
  | loc (n : Nat)
  | var (p : Pa)
  | cst (v : AV)
  | bad
inductive Cls where
  | quiet
  | bar (m : Nat)
  | free (anc : Nat)
  | rd (m : Nat)
abbrev AF1 := AV → Hp → AK → Ans
abbrev AF2 := AV → AV → Hp → AK → Ans
abbrev AFN := List AV → Hp → AK → Ans
inductive CO where
  | mv (r : Rf) (d : Option Pa)
  | o1 (f : AF1) (r : Rf) (d : Option Pa)
  | o2 (f : AF2) (r s : Rf) (d : Option Pa)
  | on (f : AFN) (rs : List Rf) (d : Option Pa)
  | call (rs : List Rf) (d : Option Pa)
  | grd (r : Rf) (want : Bool) (o : CO) (d : Option Pa)
  | free (i anc : Nat) (o : CO)
  | bar (i m : Nat) (o : CO)
  | rd (i m : Nat) (o : CO)
  | bad (n : Nat)

def okConst (v : Value) : Bool :=
  match v with
  | .agg cs => cs.toList.all fun c => flat c
  | .tuple cs => cs.toList.all fun c => flat c
  | _ => true
where
  flat (v : Value) : Bool := match v with
    | .agg _ => false
    | .tuple _ => false
    | _ => true
def pureOp : Op → Bool
  | .move _ | .assign _ | .pick .. | .nilCheck _ | .binOp .. | .unOp .. | .makeInterface .. | .makeFunc .. | .slice .. | .fieldAddr .. | .field .. | .indexAddr .. | .index .. | .extract .. | .build .. => true
  | .call { callee := .builtin b, .. } => match b with
    | .max | .min | .real | .imag | .complex => true
    | _ => false
  | _ => false
section
variable (P : Program)
def convQ (P : Program) (s d : TypeId) : Bool := match P.underlying s, P.underlying d with
  | some (.int _), some (.int _) => true
  | some .string, some .string => true
  | _, _ => false
noncomputable def convQK (src dst : TypeId) (x : AV) (k : AV → Ans) : Ans :=
  match P.underlying dst, x with
  | some (.int q), .nat n => cnd (knownB P src) (wrapK q (.ofNat n) k) (.no 127)
  | some (.int q), .u8 n => cnd (knownB P src) (wrapK q (.ofNat n) k) (.no 127)
  | some (.int q), .int _ n => cnd (knownB P src) (wrapK q n k) (.no 127)
  | some .string, .str n l => cnd (knownB P src) (k x) (.no 34)
  | _, _ => .no 190
def lenQ (P : Program) (t : TypeId) : Bool := match P.underlying t with
  | some .string => true
  | some (.slice _) => true
  | some (.array ..) => true
  | _ => false
noncomputable def lenQK (t : TypeId) (x : AV) (k : AV → Ans) : Ans :=
  match P.underlying t, x with
  | some .string, .str n _ => k (.nat n)
  | some (.slice _), .slice _ _ n _ _ => k (.nat n)
  | some (.slice _), .raw (.slice none n _) => fNat n fun n => k (.nat n)
  | some (.array n _), _ => fNat n fun n => k (.nat n)
  | _, _ => .no 191
def quietOp (o : Op) : Bool :=
  match o with
  | .call { callee := .builtin .len, argTypes, .. } => match argTypes[0]? with
    | some t => lenQ P t
    | none => false
  | .convert s d _ => convQ P s d
  | o => pureOp o
def mapB (P : Program) (t : TypeId) : Bool := match P.underlying t with | some (.map _ _) => true | _ => false
noncomputable def opC (o : Op) (ty : TypeId) : OpC :=
  match o with
  | .pick .. => .cn fun xs h k => match xs with
    | [c, a, b] => onBool c (k b h) (k a h) (.no 130)
    | _ => .no 130
  | .binOp op t _ _ _ => binC P op t
  | .unOp op _ _ => .c1 fun x h k => unK P op x fun v => k v h
  | .convert s d _ => match convQ P s d with
    | true => .c1 fun x h k => convQK P s d x fun v => k v h
    | false => .c1 fun x h k => convK P s d x h k
  | .alloc e => .cn fun _ h k => zeroK P e fun z => sizeK P e fun sz => z.cells fun l => newK e l true sz h fun b h => k (.ptr b 0) h
  | .box e _ => .c1 fun x h k => sizeK P e fun sz => x.cells fun l => newK e l true sz h fun b h => k (.ptr b 0) h
  | .build t ps => .cn fun xs h k => buildK P t (ps.toList.map (·.1)) xs fun v => k v h
  | .buildSlice t n ps => .cn fun xs h k => buildSliceK P t n (ps.toList.map (·.1)) xs h k
  | .load t _ => .c1 fun x h k => loadK P t x h fun v => k v h
  | .store t _ _ => .c2 fun x v h k => storeK P t x v h fun h => k (.tup []) h
  | .nilCheck _ => .c1 fun x h k => match x with
    | .ptr .. => k x h
    | .fn (.func f) l m => k x h
    | _ => .no 131
  | .makeInterface t _ => match P.underlying t with
    | some (.interface _) => .bad 132
    | some _ => .c1 fun x h k => k (.iface t x) h
    | none => .bad 133
  | .makeFunc fn first _ => .cn fun xs h k => takeK first.size xs fun a => dropK first.size xs fun b => k (.fn fn a b) h
  | .makeMap t none => .cn fun _ h k => newMapK h k
  | .makeMap t (some _) => .c1 fun x h k => natOf x fun _ => cnd (mapB P t) (newMapK h k) (.no 134)
  | .makeSlice t _ _ => .c2 fun x y h k => makeSliceK P t x y h k
  | .slice t _ none none none => .c1 fun x h k => sliceK P t x none none none fun v => k v h
  | .slice t _ (some _) none none => .c2 fun x a h k => sliceK P t x (some a) none none fun v => k v h
  | .slice t _ none (some _) none => .c2 fun x b h k => sliceK P t x none (some b) none fun v => k v h
  | .slice t _ (some _) (some _) none => .cn fun xs h k => match xs with
      | [x, a, b] => sliceK P t x (some a) (some b) none fun v => k v h
      | _ => .no 135
  | .slice t _ none (some _) (some _) => .cn fun xs h k => match xs with
      | [x, b, c] => sliceK P t x none (some b) (some c) fun v => k v h
      | _ => .no 136
  | .slice t _ (some _) (some _) (some _) => .cn fun xs h k => match xs with
      | [x, a, b, c] => sliceK P t x (some a) (some b) (some c) fun v => k v h
      | _ => .no 136
  | .fieldAddr s _ f => .c1 fun x h k => fieldAddrK P s x f fun v => k v h
  | .field s _ f => .c1 fun x h k => fieldK P s x f fun v => k v h
  | .indexAddr t _ _ => .c2 fun x i h k => indexAddrK P t x i fun v => k v h
  | .index t _ _ => .c2 fun x i h k => indexK P t x i fun v => k v h
  | .lookup t _ _ ok => .c2 fun x i h k => lookupK P t x i ok h fun v => k v h
  | .mapUpdate t _ _ _ => .cn fun xs h k => match xs with
    | [x, i, v] => updateK P t x i v h fun h => k (.tup []) h
    | _ => .no 138
  | .insert t _ _ _ => .cn fun xs h k => match xs with
    | [x, i, v] => updateK P t x i v h fun h => k (.tup []) h
    | _ => .no 138
  | .extract _ i => .c1 fun x h k => match x with
    | .tup l => nthK i l (.no 139) fun v => k v h
    | _ => .no 140
  | .call { callee := .builtin .len, argTypes, .. } => match argTypes[0]? with
    | some t => match lenQ P t with
      | true => .c1 fun x h k => lenQK P t x fun v => k v h
      | false => .c1 fun x h k => lenOfK P t x h fun v => k v h
    | none => .bad 114
  | .call { callee := .builtin b, argTypes, .. } => .cn fun xs h k => builtinK P b argTypes ty xs h k
  | .range t _ => .c1 fun x h k => rangeStrK P t x h k
  | .next _ s => match s with
    | true => .c1 fun x h k => nextStrK x h k
    | false => .bad 1412
  | _ => .bad 141

def orMask (a : Nat) (t : Nat) : Nat := Nat.lor a (Nat.pow 2 t)
def inMask (a : Nat) (t : Nat) : Bool := Nat.beq (Nat.land (Nat.shiftRight a t) 1) 1
def befores (ops : List Oper) : List Nat :=
  (ops.foldl (fun (acc : List Nat) o => acc ++ [o.after.toList.foldl (fun s e => if Region.binds .any e then Nat.lor (orMask s e.on) (acc.getD e.on 0) else s) 0]) [])
def readsOf (ops : List Oper) (o : Oper) : List Nat :=
  (o.op.operands.toList.filterMap fun | .tmp t => some t | _ => none) ++
  (match o.guard with
   | some (g, _) => ((ops[g]?).bind (·.dst)).toList
   | none => [])
def apartB (ops : List Oper) (x y : Oper) : Bool :=
  (match x.dst with
   | some d => !(readsOf ops y).contains d && y.dst != some d
   | none => true) &&
  (match y.dst with
   | some d => !(readsOf ops x).contains d
   | none => true)
def openOk (ops : List Oper) (bf : List Nat) : Bool :=
  (ops.zipIdx.all fun (o, i) => o.after.toList.all fun e => !Region.binds .any e || Nat.blt e.on i) && (ops.zip bf).zipIdx.all fun ((y, by_), j) => (ops.take j).zipIdx.all fun (x, i) => inMask by_ i || apartB ops x y
def isLd (o : Op) : Bool := match o with
  | .load .. => true
  | .lookup .. => true
  | _ => false
def wrOp (o : Op) : Bool := match o with
  | .store .. => true
  | .mapUpdate .. => true
  | .insert .. => true
  | .next .. => true
  | .call { callee := .value _, .. } => true
  | .call { callee := .builtin b, .. } => match b with
    | .append => true
    | .copy => true
    | .unsafeString => true
    | _ => false
  | _ => false
def rdB (ops : List Oper) (bf : List Nat) (j : Nat) (y : Oper) (bj : Nat) : Bool :=
  isLd y.op && y.guard.isNone && (ops.zip bf).zipIdx.any fun ((z, bz), k) => wrOp z.op && !(k == j) && !inMask bj k && !inMask bz j
def clsOf (ops : List Oper) (bf : List Nat) (i : Nat) (o : Oper) (bi : Nat) : Cls :=
  if quietOp P o.op then .quiet else
  if rdB ops bf i o bi then .rd bi else
  if (ops.zip bf).zipIdx.all fun ((y, by_), j) => quietOp P y.op || j == i || inMask by_ i || inMask bi j || rdB ops bf j y by_ then .bar bi else .free bi
abbrev Dl := List (Nat × (Nat ⊕ Rf))
noncomputable def resolveD (D : Dl) (now : Nat) (t : Nat) : Rf :=
  List.rec (motive := fun _ => Rf) (.var (path t)) (fun e _ ih => Bool.rec (motive := fun _ => Rf) ih (Sum.rec (motive := fun _ => Rf) (fun i => .loc (Nat.sub (Nat.sub now 1) i)) (fun r => r) e.2) (Nat.beq e.1 t)) D
noncomputable def rfOp (P : Program) (D : Dl) (now : Nat) (x : Operand) : Rf :=
  match x with
  | .tmp t => resolveD D now t
  | .const v => match okConst v with
    | true => .cst (toAV v)
    | false => .bad
  | .global g => match Nat.blt g P.globals.size with
    | true => .cst (.ptr g 0)
    | false => .bad
  | .func f => .cst (.fn (.func f) [] [])
def assigned (ops : List Oper) (t : Nat) : Bool := ops.any fun o => match o.dst with | some d => Nat.beq d t | none => false
noncomputable def aliasOf (keep : Nat) (later : List Oper) (D : Dl) (o : Oper) : Option (Nat × (Nat ⊕ Rf)) :=
  match o.dst, o.guard, o.op with
  | some d, none, .move (.tmp t) => match inMask keep d, D.find? (fun e => Nat.beq e.1 t), assigned later t with
    | false, some e, _ => some (d, e.2)
    | false, none, false => some (d, .inr (.var (path t)))
    | _, _, _ => none
  | _, _, _ => none
noncomputable def dstP (keep : Nat) (o : Oper) : Option Pa := match o.dst with
  | some d => Bool.rec (motive := fun _ => Option Pa) none (some (path d)) (inMask keep d)
  | none => none
noncomputable def bareOf (c : OpC) (args : List Rf) (dst : Option Pa) : CO := match c, args with
  | .c1 f, [r] => .o1 f r dst
  | .c2 f, [r, s] => .o2 f r s dst
  | .cn f, rs => .on f rs dst
  | .bad n, _ => .bad n
  | _, _ => .bad 181
noncomputable def bareCO (keep : Nat) (o : Oper) (D : Dl) (now : Nat) : CO :=
  match o.op with
  | .move x => .mv (rfOp P D now x) (dstP keep o)
  | .assign x => .mv (rfOp P D now x) (dstP keep o)
  | .call { callee := .value f, args, .. } => .call (rfOp P D now f :: args.toList.map (rfOp P D now)) (dstP keep o)
  | op => bareOf (opC P op o.type) (op.operands.toList.map (rfOp P D now)) (dstP keep o)
noncomputable def clCO (cls : Cls) (i : Nat) (bare : CO) : CO := match cls with
  | .quiet => bare
  | .bar m => .bar i m bare
  | .free anc => .free i anc bare
  | .rd m => .rd i m bare
noncomputable def mkCO (ops : List Oper) (keep : Nat) (o : Oper) (D : Dl) (now : Nat) (cls : Cls) (i : Nat) : CO :=
  match o.guard with
  | none => clCO cls i (bareCO P keep o D now)
  | some (g, want) => match (ops[g]?).bind (·.dst) with
    | some d => .grd (resolveD D now d) want (clCO cls i (bareCO P keep o D now)) (dstP keep o)
    | none => .bad 182
noncomputable def mkCOs (ops : List Oper) (keep : Nat) (draw : Bool) (bf : List Nat) : List CO :=
  go ops bf [] 0 0
where
  go : List Oper → List Nat → Dl → Nat → Nat → List CO
    | o :: rest, b :: bs, D, now, i => match aliasOf keep rest D o with
      | some e => go rest bs (e :: D) now (i + 1)
      | none => mkCO P ops keep o D now (match draw with | true => clsOf P ops bf i o b | false => .quiet) i :: go rest bs (match o.dst with | some d => (d, .inl now) :: D | none => D) (now + 1) (i + 1)
    | _, _, _, _, _ => []
def dstOk (N : Nat) (ops : List Oper) : Bool := ops.all fun o => match o.dst with | some d => Nat.blt d N | none => true
noncomputable def compR (N : Nat) (ops : Array Oper) (keep : Nat) (draw : Bool) : Option (List CO) :=
  match dstOk N ops.toList, draw with
  | false, _ => none
  | true, false => some (mkCOs P ops.toList keep false (ops.toList.map fun _ => 0))
  | true, true => match openOk ops.toList (befores ops.toList) with
    | true => some (mkCOs P ops.toList keep true (befores ops.toList))
    | false => none
def keepR (ops : List Oper) (acc : Nat) : Nat :=
  (ops.foldl (fun (s : Nat × Nat) o => ((o.op.operands.toList.foldl (fun a x => match x with | .tmp t => if inMask s.2 t then a else orMask a t | _ => a) s.1), match o.dst with | some d => orMask s.2 d | none => s.2)) (acc, 0)).1
def keepC : Code → Nat → Nat
  | .region _ ops _, a => keepR ops.toList a
  | .seq x y, a => keepC y (keepC x a)
  | .cond c x y, a => keepC y (keepC x (match c with | .tmp t => orMask a t | _ => a))
  | .block _ x, a => keepC x a
  | .loop x, a => keepC x a
  | .scope x, a => keepC x a
  | _, a => a
def keepF (fn : Func) : Nat :=
  match fn.body with
  | some c => (List.range (fn.params.size + fn.nfree)).foldl orMask (fn.results.toList.foldl (fun a r => match r with | .tmp t => orMask a t | .cell t _ => orMask a t) (keepC c 0))
  | none => 0
end

noncomputable def rfK (r : Rf) (L : List AV) (env : Tr AV) (k : AV → Ans) : Ans :=
  Rf.rec (motive := fun _ => Ans) (fun n => nthK n L (.no 150) k) (fun p => env.getP p (.no 151) k) (fun v => k v) (.no 152) r
noncomputable def rfsK (rs : List Rf) (L : List AV) (env : Tr AV) (k : List AV → Ans) : Ans :=
  List.rec (motive := fun _ => (List AV → Ans) → Ans) (fun k => k []) (fun r _ ih k => rfK r L env fun v => ih fun vs => k (v :: vs)) rs k
def bigN : Nat := 1000000000
def lowA1 (n : Nat) : AV → Bool
  | .nat _ => true
  | .u8 _ => true
  | .int .. => true
  | .bool _ => true
  | .str .. => true
  | .raw _ => true
  | .ptr b _ => Nat.blt b n
  | .slice b _ _ _ _ => Nat.blt b n
  | .map b => Nat.blt b n
  | .fn (.func _) [] [] => true
  | _ => false
def lowL (n : Nat) : List AV → Bool
  | [] => true
  | x :: xs => lowA1 n x && lowL n xs
def lowA (n : Nat) : AV → Bool
  | .agg l => lowL n l
  | .tup l => lowL n l
  | x => lowA1 n x
def eqNs : List Nat → List Nat → Bool
  | [], [] => true
  | x :: xs, y :: ys => Nat.beq x y && eqNs xs ys
  | _, _ => false
def eqA1 : AV → AV → Bool
  | .nat a, .nat b => Nat.beq a b
  | .u8 a, .u8 b => Nat.beq a b
  | .bool a, .bool b => a == b
  | .str n l, .str m r => Nat.beq n m && eqNs l r
  | .raw (.pointer none), .raw (.pointer none) => true
  | .raw (.map none), .raw (.map none) => true
  | .raw .nilFunc, .raw .nilFunc => true
  | .raw .nilIface, .raw .nilIface => true
  | .int k a, .int k' b => decide (k = k') && decide (a = b)
  | .fn (.func f) [] [], .fn (.func g) [] [] => Nat.beq f g
  | .raw (.slice none a b), .raw (.slice none c d) => Nat.beq a c && Nat.beq b d
  | .ptr a b, .ptr c d => Nat.beq a c && Nat.beq b d
  | .slice a b c d e, .slice a' b' c' d' e' => Nat.beq a a' && Nat.beq b b' && Nat.beq c c' && d == d' && Nat.beq e e'
  | .map a, .map b => Nat.beq a b
  | _, _ => false
def eqAL : List AV → List AV → Bool
  | [], [] => true
  | x :: xs, y :: ys => eqA1 x y && eqAL xs ys
  | _, _ => false
def eqA : AV → AV → Bool
  | .agg l, .agg m => eqAL l m
  | .tup l, .tup m => eqAL l m
  | x, y => eqA1 x y
abbrev Frees := List (Nat × List (Nat × Blk))
noncomputable def layK (d : List (Nat × Blk)) (t : Tr Blk) (k : Tr Blk → Ans) : Ans :=
  List.rec (motive := fun _ => Tr Blk → Ans) (fun t => k t) (fun e _ ih t => t.setP (path e.1) (some e.2) ih) d t
noncomputable def flushK (fs : Frees) (anc : Nat → Bool) (t : Tr Blk) (k : Tr Blk → Ans) : Ans :=
  List.rec (motive := fun _ => Tr Blk → Ans) (fun t => k t) (fun e _ ih t => cnd (anc e.1) (layK e.2 t ih) (ih t)) fs t
noncomputable def newsK (t : Tr Blk) (n m : Nat) (k : List (Nat × Blk) → Ans) : Ans :=
  Nat.rec (motive := fun _ => Nat → (List (Nat × Blk) → Ans) → Ans) (fun _ k => k [])
    (fun _ ih n k => fNat (Nat.succ n) fun n' => ih n' fun r => t.getP (path n) (k r) fun b => k ((n, b) :: r)) (Nat.sub m n) n k
abbrev CallF := FuncId → List AV → Hp → (AV → Hp → Ans) → Ans
noncomputable def applyK (callf : CallF) (xs : List AV) (h : Hp) (k : AV → Hp → Ans) : Ans :=
  match xs with
  | .fn (.func f) first captured :: xs => catK first xs fun a => catK a captured fun a => callf f a h k
  | _ => .no 153
noncomputable def putEnv (d : Option Pa) (v : AV) (env : Tr AV) (k : Tr AV → Ans) : Ans :=
  Option.rec (motive := fun _ => Tr AV → (Tr AV → Ans) → Ans) (fun env k => k env) (fun p env k => env.setP p (some v) k) d env k
abbrev OK := AV → Hp → Frees → Ans
noncomputable def doCO (callf : CallF) (o : CO) (L : List AV) (env : Tr AV) (h : Hp) (fs : Frees) (k : Option Pa → AV → Hp → Frees → Ans) : Ans :=
  CO.rec (motive := fun _ => CallF → List AV → Tr AV → Hp → Frees → (Option Pa → AV → Hp → Frees → Ans) → Ans)
    (fun r d _ L env h fs k => rfK r L env fun v => k d v h fs)
    (fun f r d _ L env h fs k => rfK r L env fun x => f x h fun v h => k d v h fs)
    (fun f r s d _ L env h fs k => rfK r L env fun x => rfK s L env fun y => f x y h fun v h => k d v h fs)
    (fun f rs d _ L env h fs k => rfsK rs L env fun xs => f xs h fun v h => k d v h fs)
    (fun rs d callf L env h fs k => rfsK rs L env fun xs => applyK callf xs h fun v h => k d v h fs)
    (fun r want _ d ih callf L env h fs k => rfK r L env fun v => onGuard v want (ih callf L env h fs k) (k d (.tup []) h fs))
    (fun i anc _ ih callf L env h fs k => freeK i anc h fs fun h' kk => ih callf L env h' [] fun d v h _ => kk v h fun h fs => k d v h fs)
    (fun _ _ _ ih callf L env h fs k => ih callf L env h fs fun d v h' fs => grown h h' (k d v h' fs))
    (fun _ _ _ ih callf L env h fs k => ih callf L env (bigH h) [] fun d v h' _ => sameBig h' (lowOk v h (k d v h fs)))
    (fun n _ _ _ _ _ _ => .no n) o callf L env h fs k
where
  grown (h h' : Hp) (x : Ans) : Ans := match h with | .mk _ n _ => match h' with | .mk _ n' _ => cnd (Nat.ble n n') x (.no 157)
  onGuard (v : AV) (want : Bool) (x y : Ans) : Ans := match v with
    | .bool b => cnd (b == want) x y
    | .tup _ => y
    | _ => .no 155
  bigH (h : Hp) : Hp := match h with | .mk t _ _ => .mk t bigN bigN
  sameBig (h : Hp) (x : Ans) : Ans := match h with | .mk _ n l => cnd (Nat.beq n bigN) (cnd (Nat.beq l bigN) x (.no 231)) (.no 232)
  lowOk (v : AV) (h : Hp) (x : Ans) : Ans := match h with | .mk _ n _ => cnd (Nat.ble n bigN) (cnd (lowA n v) x (.no 233)) (.no 234)
  /-- A free operation works behind those that must be ahead of it, and its blocks are laid aside. -/
  freeK (i anc : Nat) (h : Hp) (fs : Frees) (act : Hp → (AV → Hp → (Hp → Frees → Ans) → Ans) → Ans) : Ans := match h with
    | .mk t n low => flushK fs (fun j => inMask anc j) t fun t' => act (.mk t' n n) fun v h' k => match h' with
      | .mk t'' n' low' => cnd (Nat.beq low' n) (cnd (Nat.ble n n') (newsK t'' n n' fun d => k (.mk t n' low) ((i, d) :: fs)) (.no 156)) (.no 154)
noncomputable def isFree (o : CO) : Bool := CO.rec (motive := fun _ => Bool) (fun _ _ => false) (fun _ _ _ => false) (fun _ _ _ _ => false) (fun _ _ _ => false) (fun _ _ => false) (fun _ _ _ _ ih => ih) (fun _ _ _ _ => true) (fun _ _ _ ih => ih) (fun _ _ _ _ => true) (fun _ => false) o
noncomputable def isBar (o : CO) : Bool := CO.rec (motive := fun _ => Bool) (fun _ _ => false) (fun _ _ _ => false) (fun _ _ _ _ => false) (fun _ _ _ => false) (fun _ _ => false) (fun _ _ _ _ ih => ih) (fun _ _ _ _ => false) (fun _ _ _ _ => true) (fun _ _ _ _ => false) (fun _ => false) o
noncomputable def barM (o : CO) : Nat := CO.rec (motive := fun _ => Nat) (fun _ _ => 0) (fun _ _ _ => 0) (fun _ _ _ _ => 0) (fun _ _ _ => 0) (fun _ _ => 0) (fun _ _ _ _ ih => ih) (fun _ _ _ _ => 0) (fun _ m _ _ => m) (fun _ _ _ _ => 0) (fun _ => 0) o
noncomputable def barIx (o : CO) : Nat := CO.rec (motive := fun _ => Nat) (fun _ _ => 0) (fun _ _ _ => 0) (fun _ _ _ _ => 0) (fun _ _ _ => 0) (fun _ _ => 0) (fun _ _ _ _ ih => ih) (fun _ _ _ _ => 0) (fun i _ _ _ => i) (fun _ _ _ _ => 0) (fun _ => 0) o
noncomputable def isRd (o : CO) : Bool := CO.rec (motive := fun _ => Bool) (fun _ _ => false) (fun _ _ _ => false) (fun _ _ _ _ => false) (fun _ _ _ => false) (fun _ _ => false) (fun _ _ _ _ _ => false) (fun _ _ _ _ => false) (fun _ _ _ _ => false) (fun _ _ _ _ => true) (fun _ => false) o
noncomputable def rdIx (o : CO) : Nat := CO.rec (motive := fun _ => Nat) (fun _ _ => 0) (fun _ _ _ => 0) (fun _ _ _ _ => 0) (fun _ _ _ => 0) (fun _ _ => 0) (fun _ _ _ _ _ => 0) (fun _ _ _ _ => 0) (fun _ _ _ _ => 0) (fun i _ _ _ => i) (fun _ => 0) o
noncomputable def rdM (o : CO) : Nat := CO.rec (motive := fun _ => Nat) (fun _ _ => 0) (fun _ _ _ => 0) (fun _ _ _ _ => 0) (fun _ _ _ => 0) (fun _ _ => 0) (fun _ _ _ _ _ => 0) (fun _ _ _ _ => 0) (fun _ _ _ _ => 0) (fun _ m _ _ => m) (fun _ => 0) o
abbrev Rds := List (Nat × (Hp → Ans → Ans))
noncomputable def allHs (m : Nat) (Hs : List (Nat × Hp)) (c : Hp → Ans → Ans) (x : Ans) : Ans := List.rec (motive := fun _ => Ans) x (fun H _ ih => c H.2 (cnd (inMask m H.1) x ih)) Hs
noncomputable def allRs (m : Nat) (Rs : Rds) (h : Hp) (k : Rds → Ans) : Ans :=
  List.rec (motive := fun _ => (Rds → Ans) → Ans) (fun k => k []) (fun e _ ih k => cnd (inMask m e.1) (ih k) (e.2 h (ih fun r => k (e :: r)))) Rs k
noncomputable def chkRd (callf : CallF) (o : CO) (L : List AV) (env : Tr AV) (v : AV) (H : Hp) (x : Ans) : Ans := doCO callf o L env H [] fun _ v' _ _ => cnd (eqA v v') x (.no 235)
noncomputable def flushAll (fs : Frees) (h : Hp) (k : Hp → Ans) : Ans :=
  List.rec (motive := fun _ => Hp → (Hp → Ans) → Ans) (fun h k => k h) (fun e fs _ h k => match h with | .mk t n low => flushK (e :: fs) (fun _ => true) t fun t => k (.mk t n low)) fs h k
noncomputable def runSeq (callf : CallF) (os : List CO) (L : List AV) (env : Tr AV) (h : Hp) (k : Tr AV → Hp → Ans) : Ans :=
  List.rec (motive := fun _ => CallF → List AV → Tr AV → Hp → (Tr AV → Hp → Ans) → Ans) (fun _ _ env h k => k env h)
    (fun o _ ih callf L env h k => doCO callf o L env h [] fun d v h _ => putEnv d v env fun env => ih callf (v :: L) env h k) os callf L env h k
noncomputable def runFree (callf : CallF) (os : List CO) (L : List AV) (env : Tr AV) (h : Hp) (fs : Frees) (Hs : List (Nat × Hp)) (Rs : Rds) (k : Tr AV → Hp → Ans) : Ans :=
  List.rec (motive := fun _ => CallF → List AV → Tr AV → Hp → Frees → List (Nat × Hp) → Rds → (Tr AV → Hp → Ans) → Ans) (fun _ _ env h fs _ _ k => flushAll fs h fun h => k env h)
    (fun o _ ih callf L env h fs Hs Rs k => cnd (isBar o) (flushAll fs h fun h => doCO callf o L env h [] fun d v h _ => allRs (barM o) Rs h fun Rs => putEnv d v env fun env => ih callf (v :: L) env h [] ((barIx o, h) :: Hs) Rs k)
      (cnd (isRd o) (doCO callf o L env h fs fun d v h fs => allHs (rdM o) Hs (chkRd callf o L env v) (putEnv d v env fun env2 => ih callf (v :: L) env2 h fs Hs ((rdIx o, chkRd callf o L env v) :: Rs) k))
        (doCO callf o L env h fs fun d v h fs => putEnv d v env fun env => ih callf (v :: L) env h fs Hs Rs k))) os callf L env h fs Hs Rs k
inductive CC where
  | skip
  | seqR (os : List CO)
  | freeR (os : List CO)
  | seq (a b : CC)
  | cond (r : Rf) (a b : CC)
  | block (id : Nat) (a : CC)
  | loop (a : CC)
  | exit (id : Nat)
  | scope (c : Code) (a : CC)
  | goto (l : Nat)
  | ret
  | bad (n : Nat)
noncomputable def compC (P : Program) (N keep : Nat) (c : Code) : CC :=
  Code.rec (motive := fun _ => CC) .skip
    (fun _ ops draw => match compR P N ops keep draw with
      | some os => Bool.rec (motive := fun _ => CC) (.seqR os) (.freeR os) (os.any isFree)
      | none => .bad 161)
    (fun _ _ a b => .seq a b) (fun c _ _ a b => .cond (rfOp P [] 0 c) a b) (fun id _ a => .block id a) (fun _ a => .loop a) (fun _ _ _ _ _ _ => .bad 163) (fun id => .exit id)
    (fun c a => .scope c a) (fun _ => .skip) (fun l => .goto l) .ret (fun _ => .bad 164) c
inductive Ex where
  | normal | exit (id : Nat) | goto (l : Nat) | ret
abbrev Kont := Ex → Tr AV → Hp → Ans
noncomputable def onNormal (e : Ex) (x y : Ans) : Ans := Ex.rec (motive := fun _ => Ans → Ans → Ans) (fun x _ => x) (fun _ _ y => y) (fun _ _ y => y) (fun _ y => y) e x y
noncomputable def onExit (e : Ex) (id : Nat) (x y : Ans) : Ans := Ex.rec (motive := fun _ => Nat → Ans → Ans → Ans) (fun _ _ y => y) (fun i id x y => cnd (Nat.beq i id) x y) (fun _ _ _ y => y) (fun _ _ y => y) e id x y
noncomputable def onGoto (e : Ex) (x : Nat → Ans) (y : Ans) : Ans := Ex.rec (motive := fun _ => (Nat → Ans) → Ans → Ans) (fun _ y => y) (fun _ _ y => y) (fun l x _ => x l) (fun _ y => y) e x y
noncomputable def labelC (P : Program) (N keep : Nat) (c : Code) (l : Nat) : Option CC := (findLabel c l).map (compC P N keep)
abbrev Ih := CC → Tr AV → Hp → Kont → Ans
noncomputable def scopeK (ih : Ih) (P : Program) (N keep : Nat) (c : Code) (k : Kont) (e : Ex) (env : Tr AV) (h : Hp) : Ans :=
  onGoto e (fun l => Option.rec (motive := fun _ => Ans) (k e env h) (fun a => ih (.scope c a) env h k) (labelC P N keep c l)) (k e env h)
noncomputable def run (P : Program) (callf : CallF) (N keep : Nat) (fuel : Nat) : Ih :=
  Nat.rec (motive := fun _ => Ih) (fun _ _ _ _ => .no 160)
   (fun _ ih c env h k => CC.rec (motive := fun _ => Ih → CallF → Tr AV → Hp → Kont → Ans)
     (fun _ _ env h k => k .normal env h)
     (fun os _ callf env h k => runSeq callf os [] env h (k .normal))
     (fun os _ callf env h k => runFree callf os [] env h [] [(0, h)] [] (k .normal))
     (fun a b _ _ ih _ env h k => ih a env h fun e env h => onNormal e (ih b env h k) (k e env h))
     (fun r a b _ _ ih _ env h k => rfK r [] env fun v => onBool v (ih b env h k) (ih a env h k) (.no 162))
     (fun id a _ ih _ env h k => ih a env h fun e env h => onExit e id (k .normal env h) (k e env h))
     (fun a _ ih _ env h k => ih a env h fun e env h => onNormal e (ih (.loop a) env h k) (k e env h))
     (fun id _ _ env h k => k (.exit id) env h)
     (fun c a _ ih _ env h k => ih a env h (scopeK ih P N keep c k))
     (fun l _ _ env h k => k (.goto l) env h)
     (fun _ _ env h k => k .ret env h)
     (fun n _ _ _ _ _ => .no n) c ih callf env h k) fuel
noncomputable def argsOk (xs : List AV) (keep : Nat) : Bool := List.rec (motive := fun _ => Nat → Bool) (fun _ => true) (fun _ _ ih n => Bool.rec (motive := fun _ => Bool) false (ih (Nat.succ n)) (inMask keep n)) xs 0
noncomputable def initEnv (xs : List AV) (k : Tr AV → Ans) : Ans := writeL xs 0 .leaf k
noncomputable def resOne (r : ResultVar) (env : Tr AV) (h : Hp) (P : Program) (k : AV → Ans) : Ans :=
  match r with
  | .tmp t => env.getP (path t) (.no 165) k
  | .cell t ty => env.getP (path t) (.no 166) fun p => loadK P ty p h k
noncomputable def resK (P : Program) (rs : List ResultVar) (env : Tr AV) (h : Hp) (k : AV → Ans) : Ans :=
  match rs with
  | [r] => resOne r env h P k
  | rs => List.rec (motive := fun _ => (List AV → Ans) → Ans) (fun k => k []) (fun r _ ih k => resOne r env h P fun v => ih fun vs => k (v :: vs)) rs fun vs => k (.tup vs)
noncomputable def flatB (x : AV) : Bool :=
  match x with
  | .nat _ => true
  | .u8 _ => true
  | .int .. => true
  | .bool _ => true
  | .str .. => true
  | .raw _ => true
  | .agg l => flats l
  | .tup l => flats l
  | _ => false
where
  flat1 (x : AV) : Bool :=
    match x with
    | .nat _ => true
    | .u8 _ => true
    | .int .. => true
    | .bool _ => true
    | .str .. => true
    | .raw _ => true
    | _ => false
  flats (l : List AV) : Bool := List.rec (motive := fun _ => Bool) true (fun x _ ih => Bool.rec (motive := fun _ => Bool) false ih (flat1 x)) l
noncomputable def indexN (l : List Nat) (c : Nat) (k : AV → Ans) : Ans :=
  List.rec (motive := fun _ => Nat → Ans) (fun _ => k (.int .i64 (-1))) (fun x _ ih i => cnd (Nat.beq x c) (k (.nat i)) (fNat (Nat.succ i) ih)) l 0
noncomputable def countN (l : List Nat) (c : Nat) (k : Nat → Ans) : Ans :=
  List.rec (motive := fun _ => Nat → Ans) (fun n => k n) (fun x _ ih n => cnd (Nat.beq x c) (fNat (Nat.succ n) ih) (ih n)) l 0
structure NewParts where
  r0 : Code
  a1 : Code
  r3 : Code
  l1 : Code
  r12 : Code
  rest : Code
  i13 : Nat
  i14 : Nat
  i15 : Nat
  i16 : Nat
  i17 : Nat
  b2 : Nat
  b3 : Nat
  ops13 : Array Oper
  ops14 : Array Oper
  ops15 : Array Oper
  ops16 : Array Oper
  ops17 : Array Oper
def NewParts.loopC (p : NewParts) : Code := .seq (.region p.i14 p.ops14 false) (.seq (.cond (.tmp 62) .skip (.exit p.b2)) (.block p.b3 (.seq (.region p.i15 p.ops15 false) (.region p.i16 p.ops16 true))))
def NewParts.code (p : NewParts) : Code :=
  .seq p.r0 (.seq p.a1 (.seq p.r3 (.seq p.l1 (.seq p.r12 (.seq (.seq (.region p.i13 p.ops13 false) (.block p.b2 (.loop p.loopC))) (.seq (.region p.i17 p.ops17 false) p.rest))))))
def seqOf : Code → Option (Code × Code)
  | .seq a b => some (a, b)
  | _ => none
def regOf (draw : Bool) : Code → Option (Nat × Array Oper)
  | .region i ops d => cond (d == draw) (some (i, ops)) none
  | _ => none
def blkOf : Code → Option (Nat × Code)
  | .block i c => some (i, c)
  | _ => none
def loopOf : Code → Option Code
  | .loop c => some c
  | _ => none
def exitOf (b : Nat) : Code → Option Unit
  | .cond (.tmp t) .skip (.exit i) => cond (Nat.beq t 62 && Nat.beq i b) (some ()) none
  | _ => none
def partsOf (c : Code) : Option NewParts := do
  let (r0, c) ← seqOf c
  let (a1, c) ← seqOf c
  let (r3, c) ← seqOf c
  let (l1, c) ← seqOf c
  let (r12, c) ← seqOf c
  let (x, c) ← seqOf c
  let (y, rest) ← seqOf c
  let (i17, ops17) ← regOf false y
  let (z, x) ← seqOf x
  let (i13, ops13) ← regOf false z
  let (b2, x) ← blkOf x
  let x ← loopOf x
  let (z, x) ← seqOf x
  let (i14, ops14) ← regOf false z
  let (z, x) ← seqOf x
  let _ ← exitOf b2 z
  let (b3, x) ← blkOf x
  let (z, x) ← seqOf x
  let (i15, ops15) ← regOf false z
  let (i16, ops16) ← regOf true x
  pure ⟨r0, a1, r3, l1, r12, rest, i13, i14, i15, i16, i17, b2, b3, ops13, ops14, ops15, ops16, ops17⟩
structure NT where
  p : List Nat
  a : AV
  b : AV
  c : AV
noncomputable def ntOf : AV → Option NT
  | .agg [.str n l, b, c] => cond (flatB.flat1 b && flatB.flat1 c) (some ⟨l, .str n l, b, c⟩) none
  | _ => none
noncomputable def ntL : List (AV × AV × Nat) → Option (List NT)
  | [] => some []
  | e :: es => match e.1, ntOf e.2.1, ntL es with
    | .str _ _, some x, some xs => some (x :: xs)
    | _, _, _ => none
def bornsB (clock : Nat) : List (AV × AV × Nat) → Bool
  | [] => true
  | e :: es => Nat.blt e.2.2 clock && es.all (fun x => !(Nat.beq e.2.2 x.2.2)) && bornsB clock es
def ltN : List Nat → List Nat → Bool
  | [], [] => false
  | [], _ :: _ => true
  | _ :: _, [] => false
  | x :: xs, y :: ys => Nat.blt x y || (Nat.beq x y && ltN xs ys)
def insT (x : NT) : List NT → List NT
  | [] => [x]
  | y :: l => cond (ltN x.p y.p) (x :: y :: l) (y :: insT x l)
def srtT : List NT → List NT
  | [] => []
  | x :: l => insT x (srtT l)
def riseB : List NT → Bool
  | [] => true
  | x :: l => l.all (fun y => ltN x.p y.p) && riseB l
def NT.cells (x : NT) : List AV := [x.a, x.b, x.c]
def cellsT : List NT → List AV
  | [] => []
  | x :: l => x.cells ++ cellsT l
def itS : Nat := 999999
noncomputable def noCall : CallF := fun _ _ _ _ => .no 255
noncomputable def envSK (bt : Nat) (k : Tr AV → Ans) : Ans := Tr.setP (path 4) (some (.ptr bt 0)) .leaf fun t => t.setP (path 60) (some (.sym itS)) k
noncomputable def stillK (bt : Nat) (env : Tr AV) (x : Ans) : Ans :=
  env.getP (path 4) (.no 251) fun y => cnd (eqA1 y (.ptr bt 0)) (env.getP (path 60) (.no 253) fun z => match z with
    | .sym s => cnd (Nat.beq s itS) x (.no 254)
    | _ => .no 248) (.no 252)
noncomputable def pickK (n2 bt : Nat) (h : Hp) (k : Hp → Ans) : Ans := match h with
  | .mk t n low => t.getP (path bt) (.no 310) fun bl => match bl with
    | .cells ty m c ex sz => c.getP (path 2) (.no 311) fun s => match s with
      | .slice bg _ _ _ _ => cnd (Nat.ble n2 bg && Nat.ble bt low) (t.getP (path bg) (.no 312) fun blg => Tr.setP (path bt) (some (.cells ty m c ex sz)) .leaf fun u => u.setP (path bg) (some blg) fun u => k (.mk u n low)) (.no 313)
      | _ => .no 314
    | _ => .no 315
noncomputable def roundK (P : Program) (N keep fuel : Nat) (p : NewParts) (bt n2 i : Nat) (env : Tr AV) (h : Hp) (k : Hp → Ans) : Ans :=
  runSeq noCall (mkCOs.go P p.ops15.toList keep false (p.ops15.toList.map fun _ => 0) p.ops15.toList.tail (p.ops15.toList.tail.map fun _ => 0) [(63, .inl 0)] 1 1) [.tup [.sym (4 * i), .agg [.sym (4 * i + 1), .sym (4 * i + 2), .sym (4 * i + 3)]]] env h fun env1 h1 =>
    run P noCall N keep fuel (compC P N keep (.region p.i16 p.ops16 true)) env1 h1 fun e env2 h2 => onNormal e (stillK bt env2 (pickK n2 bt h2 k)) (.no 250)
noncomputable def loopK (P : Program) (N keep fuel : Nat) (p : NewParts) (bt n2 : Nat) (m : Nat) : Nat → Hp → (Hp → Ans) → Ans :=
  Nat.rec (motive := fun _ => Nat → Hp → (Hp → Ans) → Ans) (fun _ h k => k h) (fun _ ih i h k => envSK bt fun env => roundK P N keep fuel p bt n2 i env h fun h' => fNat (Nat.succ i) fun i' => ih i' h' k) m
noncomputable def symsK (c : Tr AV) (x : Ans) (m : Nat) : Nat → Ans :=
  Nat.rec (motive := fun _ => Nat → Ans) (fun _ => x) (fun _ ih j => c.getP (path (3 * j)) (.no 257) fun a => c.getP (path (3 * j + 1)) (.no 257) fun b => c.getP (path (3 * j + 2)) (.no 257) fun d => match a, b, d with
    | .sym a, .sym b, .sym d => cnd (Nat.beq a (4 * j + 1) && Nat.beq b (4 * j + 2) && Nat.beq d (4 * j + 3)) (fNat (Nat.succ j) ih) (.no 258)
    | _, _, _ => .no 259) m
def sortFs (p : NewParts) : Option (Nat × Nat) := match p.ops17.toList.getLast? with
  | some ⟨_, .call ⟨.value (.func fs), args, _⟩, _, _, _, _⟩ => match args.toList with
    | [.tmp t, .func fc] => cond (Nat.beq t 78) (some (fs, fc)) none
    | _ => none
  | _ => none
noncomputable def cellsK (n : Nat) (c : Tr AV) (m : Nat) : Nat → (List AV → Ans) → Ans :=
  Nat.rec (motive := fun _ => Nat → (List AV → Ans) → Ans) (fun _ k => k []) (fun _ ih j k => c.getP (path j) (.no 267) fun a => cnd (Nat.beq j 2 || lowA1 n a) (fNat (Nat.succ j) fun j' => ih j' fun r => k (a :: r)) (.no 268)) m
noncomputable def lowK (n : Nat) (c : Tr AV) (x : Ans) (m : Nat) : Nat → Ans :=
  Nat.rec (motive := fun _ => Nat → Ans) (fun _ => x) (fun _ ih j => c.getP (path j) (.no 318) fun a => cnd (lowA1 n a) (fNat (Nat.succ j) ih) (.no 319)) m
structure Res where
  ty : Nat
  sz : Nat
  l : List AV
  bg : Nat
  e3 : Nat
  n4 : Nat
def sameR (x y : Res) : Bool := Nat.beq x.ty y.ty && Nat.beq x.sz y.sz && eqAL x.l y.l && Nat.beq x.bg y.bg && Nat.beq x.e3 y.e3 && Nat.beq x.n4 y.n4
noncomputable def resK2 (n2 bt cnt : Nat) (h : Hp) (k : Res → Ans) : Ans := match h with
  | .mk t4 n4 low4 => t4.getP (path bt) (.no 277) fun bl => match bl with
    | .cells ty m c ex sz => cnd (ex && Nat.ble bt low4) (cellsK n2 c m 0 fun l => c.getP (path 2) (.no 278) fun s => match s with
      | .slice bg 0 len false 0 => t4.getP (path bg) (.no 279) fun blg => match blg with
        | .cells e3 m3 c3 ex3 sz3 => cnd (!ex3 && Nat.beq sz3 3 && Nat.beq len cnt && Nat.beq m3 (3 * cnt) && Nat.ble n2 bg && Nat.blt bg n4) (symsK c3 (k ⟨ty, sz, l, bg, e3, n4⟩) cnt 0) (.no 280)
        | _ => .no 281
      | _ => .no 282) (.no 283)
    | _ => .no 284
noncomputable def loopPart (P : Program) (N keep fuel : Nat) (p : NewParts) (bt n2 cnt : Nat) (h : Hp) (k : Res → Ans) : Ans := loopK P N keep fuel p bt n2 cnt 0 h fun h3 => resK2 n2 bt cnt h3 k
noncomputable def pre17 (P : Program) (keep : Nat) (p : NewParts) (bt : Nat) (x : Res) (cnt : Nat) (k : Ans) : Ans :=
  writeL x.l 0 .leaf fun c => Tr.setP (path bt) (some (.cells x.ty x.l.length c true x.sz)) .leaf fun t => envSK bt fun env =>
    runSeq noCall (mkCOs.go P p.ops17.toList (Nat.lor keep (Nat.pow 2 78)) false (p.ops17.toList.map fun _ => 0) p.ops17.toList.dropLast (p.ops17.toList.dropLast.map fun _ => 0) [] 0 0) [] env (.mk t x.n4 x.n4) fun env h =>
      match h with
      | .mk _ n low => cnd (Nat.beq n x.n4 && Nat.beq low x.n4) (env.getP (path 78) (.no 300) fun s => cnd (eqA1 s (.slice x.bg 0 cnt false 0)) (env.getP (path 4) (.no 301) fun y => cnd (eqA1 y (.ptr bt 0)) k (.no 302)) (.no 303)) (.no 304)
noncomputable def midK (P : Program) (N keep fuel : Nat) (p : NewParts) (env : Tr AV) (h : Hp) (k : Tr AV → Hp → Ans) : Ans :=
  run P noCall N keep fuel (compC P N keep (.region p.i13 p.ops13 false)) env h fun e env h2 => onNormal e
    (env.getP (path 60) (.no 270) fun y => match y, h2 with
      | .ptr ni 0, .mk t2 n2 low2 => t2.getP (path ni) (.no 271) fun bl => match bl with
        | .miter bm since => t2.getP (path bm) (.no 272) fun bl => match bl with
          | .map es clock => cnd (Nat.beq since clock && bornsB clock es) (env.getP (path 4) (.no 273) fun y => match y with
            | .ptr bt 0 => t2.getP (path bt) (.no 274) fun bl => match bl with
              | .cells ty m c ex sz => cnd (ex && Nat.blt bm bt && Nat.blt bt ni && Nat.ble P.globals.size bt && inMask keep 4 && inMask keep 60 && !inMask keep 63) (fNat (Nat.succ bt) fun bt1 => lowK bt1 c (
                  Option.rec (motive := fun _ => Ans) (.no 275) (fun nts => lenK (es.map (·.1)) fun cnt =>
                    cnd (riseB (srtT nts) && Nat.blt cnt 100000) (Tr.setP (path bt) (some (.cells ty m c ex sz)) .leaf fun ts =>
                      loopPart P N keep fuel p bt n2 cnt (.mk ts n2 n2) fun x => loopPart P N keep fuel p bt n2 cnt (.mk ts n2 n2) fun y => cnd (sameR x y) (pre17 P keep p bt x cnt (
                        writeL x.l 0 .leaf fun c1 => writeL (cellsT (srtT nts)) 0 .leaf fun c2 =>
                          t2.setP (path ni) none fun t => t.setP (path bt) (some (.cells x.ty x.l.length c1 true x.sz)) fun t => t.setP (path x.bg) (some (.cells x.e3 (3 * cnt) c2 false 3)) fun t => natMin low2 bt fun low =>
                            Tr.setP (path 4) (some (.ptr bt 0)) .leaf fun env5 => k env5 (.mk t x.n4 low))) (.no 305)) (.no 286)) (ntL es)) m 0) (.no 287)
              | _ => .no 288
            | _ => .no 289) (.no 290)
          | _ => .no 291
        | _ => .no 292
      | _, _ => .no 293) (.no 294)
noncomputable def chainK (P : Program) (callf : CallF) (N keep fuel : Nat) (cs : List Code) (env : Tr AV) (h : Hp) (k : Kont) : Ans :=
  List.rec (motive := fun _ => Tr AV → Hp → Kont → Ans) (fun env h k => k .normal env h) (fun c _ ih env h k => run P callf N keep fuel (compC P N keep c) env h fun e env h => onNormal e (ih env h k) (k e env h)) cs env h k
noncomputable def treeK (P : Program) (fuel : Nat) (ih : CallF) (f : FuncId) (xs : List AV) (h : Hp) (k : AV → Hp → Ans) : Ans :=
  Option.rec (motive := fun _ => Ans) (.no 297) (fun (fn : Func) => Option.rec (motive := fun _ => Ans) (.no 298) (fun (p : NewParts) =>
    match h with
    | .mk t n low => 
      let fin : Kont := fun e env h' => match e, h' with
        | .exit _, _ => .no 172
        | .goto _, _ => .no 173
        | _, .mk t' n' low' => resK P fn.results.toList env h' fun v => natMin low low' fun low'' => k v (.mk t' n' low'')
      cnd (argsOk xs (keepF fn)) (initEnv xs fun env => chainK P ih fn.ntmps (keepF fn) fuel [p.r0, p.a1, p.r3, p.l1, p.r12] env (.mk t n n) fun e env h1 =>
        onNormal e (midK P fn.ntmps (keepF fn) fuel p env h1 fun env h2 => run P ih fn.ntmps (keepF fn) fuel (compC P fn.ntmps (keepF fn) p.rest) env h2 fin) (fin e env h1)) (.no 174)) (fn.body.bind partsOf)) P.funcs[f]?
noncomputable def tabK (l : List AV) (c : Tr AV) (x : Ans) : Ans :=
  List.rec (motive := fun _ => Nat → Ans) (fun _ => x) (fun v _ ih i => c.getP (path i) (.no 240) fun u => cnd (eqA1 u v) (cnd (flatB v) (fNat (Nat.succ i) ih) (.no 239)) (.no 241)) l 0
noncomputable def tabsK (ts : List (Nat × List AV)) (h : Hp) (x : Ans) : Ans :=
  match h with
  | .mk t _ _ => List.rec (motive := fun _ => Ans) x (fun e _ ih => t.getP (path e.1) (.no 242) fun bl => match bl with
    | .cells _ m c ex _ => cnd ex (lenK e.2 fun n => cnd (Nat.beq m n) (tabK e.2 c ih) (.no 243)) (.no 244)
    | _ => .no 245) ts
noncomputable def extK [Sl] (P : Program) (fuel : Nat) (ih : CallF) (f : FuncId) (c : Nat) (xs : List AV) (h : Hp) (k : AV → Hp → Ans) : Ans :=
  match c, xs with
  | 1, [.str _ l, .u8 c] => cnd (Nat.blt c 256) (indexN l c fun v => k v h) (.no 168)
  | 2, [.str _ l, .u8 c] => cnd (Nat.blt c 256) (countN l c fun n => k (.nat n) h) (.no 168)
  | 3, [.sym i, .nat m] => match Sl.low i m with
    | some j => k (.nat j) h
    | none => .no 169
  | 4, [x] => k x h
  | 5, [.ptr b o] => getK b o 1 h fun l => nthK 0 l (.no 213) fun v => match v with
    | .nat n => k (.nat n) h
    | _ => .no 214
  | 6, [.ptr b o, .nat d] => getK b o 1 h fun l => nthK 0 l (.no 215) fun v => match v with
    | .nat n => fNat (Nat.add n d) fun m => cnd (Nat.blt m two63) (putK b o [.nat m] h fun h => k (.nat m) h) (.no 216)
    | _ => .no 217
  | 7, [] => tabsK Sl.tabs h (k (.bool true) h)
  | 8, xs => treeK P fuel ih f xs h k
  | _, _ => .no 167
noncomputable def callK [Sl] (P : Program) (X : Nat → Nat) (fuel : Nat) (depth : Nat) : CallF :=
  Nat.rec (motive := fun _ => CallF) (fun _ _ _ _ => .no 170)
    (fun _ ih f xs h k => Nat.rec (motive := fun _ => Ans) (Option.rec (motive := fun _ => Ans) (.no 171) (fun (fn : Func) => Option.rec (motive := fun _ => Ans) (.no (1000 + f)) (fun c =>
      match h with
      | .mk t n low => cnd (argsOk xs (keepF fn)) (initEnv xs fun env => run P ih fn.ntmps (keepF fn) fuel (compC P fn.ntmps (keepF fn) c) env (.mk t n n) fun e env h' =>
        match e, h' with
        | .exit _, _ => .no 172
        | .goto _, _ => .no 173
        | _, .mk t' n' low' => resK P fn.results.toList env h' fun v =>
          natMin low low' fun low'' => cnd (Nat.beq low' n) (cnd (flatB v) (k v h) (k v (.mk t' n' low''))) (k v (.mk t' n' low''))) (.no 174)) fn.body) P.funcs[f]?) (fun c _ => extK P fuel ih f (Nat.succ c) xs h k) (X f)) depth
end Go.Ev
end
