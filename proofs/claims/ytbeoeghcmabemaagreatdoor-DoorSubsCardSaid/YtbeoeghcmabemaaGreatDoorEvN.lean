/- The evaluator's operations are the model's: slices, on. -/
import Derived.Test.YtbeoeghcmabemaaGreatDoorEvL
set_option linter.unusedVariables false
set_option linter.unusedSectionVars false
set_option linter.unusedSimpArgs false
namespace Go.Ev
variable [Sg]
open Go.RowKit
variable {P : Program}

theorem makeSliceK_yes {t : TypeId} {x y : AV} {h : Hp} {k : AK} (H : makeSliceK P t x y h k = .yes) : ∃ v h', k v h' = .yes ∧ Sem2 P (Instr.makeSlice t) x y h v h' := by
  unfold makeSliceK at H
  split at H
  · rename_i e hd
    obtain ⟨n, hn, H⟩ := natOf_yes H
    obtain ⟨c, hc, H⟩ := natOf_yes H
    obtain ⟨ti, hti, H⟩ := sizeK_yes H
    obtain ⟨h1, H⟩ := cnd_yes H
    obtain ⟨h2, H⟩ := cnd_yes H
    obtain ⟨h3, H⟩ := cnd_yes H
    have h1' : n ≤ c := by simpa using h1
    have h2' : c ≤ 65536 := by simpa using h2
    have h3' : ti.bytes ≤ 65536 := by unfold makeSliceK.smallB at h3; rw [hti] at h3; simpa using h3
    obtain ⟨zl, H, hzlen, hz⟩ := zerosK_yes H
    cases h with
    | mk t' nx low =>
      rw [newK_eq] at H
      refine ⟨_, _, H, fun β w a b hr ha hb => ?_⟩
      obtain ⟨q, rfl⟩ := hn β a ha
      obtain ⟨q', rfl⟩ := hc β b hb
      have hwn : IntKind.i64.wrap (n : Int) = n := i64_lit (by omega)
      have hwc : IntKind.i64.wrap (c : Int) = c := i64_lit (by omega)
      have hbb : (ti.bytes : Int) * (c : Int) ≤ 4294967296 := by
        have : ti.bytes * c ≤ 65536 * 65536 := Nat.mul_le_mul h3' h2'
        have e : ((ti.bytes * c : Nat) : Int) = (ti.bytes : Int) * (c : Int) := by simp
        omega
      have fin : ∀ zs : List Value, conL β zl = some zs → (∀ u ∈ zs, u.oneCell' = true) → (Instr.makeSlice t (.int q n) (.int q' c)).run P w = ((newRow e zs.toArray).run P w).andThen (fun a w' => .ok (.slice (some a) n c) w') →
          ∃ β' w' u, (Instr.makeSlice t (.int q n) (.int q' c)).run P w = .ok u w' ∧ Stp β (.mk t' nx low) w β' (.mk (t'.set (path nx) (some (.cells e zl.length (putL zl 0 .leaf) true ti.size))) (nx + 1) low) w' ∧ con β' (.slice nx 0 n true c) = some u := by
        intro zs e1 e2 e3
        obtain ⟨β', w', r1, r2, r3⟩ := newRow_of (P := P) (e := e) (sz := ti.size) hr e1 e2 (rfl : true = true)
        refine ⟨β', w', _, ?_, r2, con_slice_mk r3 (.inl rfl)⟩
        rw [e3, r1]
        rfl
      have hbig : ¬ ((ti.bytes : Int) * (c : Int) > 2 ^ 48) := by
        have : (2 : Int) ^ 48 = 281474976710656 := by decide
        omega
      have hcond : ((((decide ((c : Int) < 0) || decide ((ti.bytes : Int) * (c : Int) > 2 ^ 48)) || decide ((n : Int) < 0)) || decide ((n : Int) > (c : Int))) = true) = False := by
        simp only [Bool.or_eq_true, decide_eq_true_eq, eq_iff_iff, iff_false]
        omega
      rcases hz with ⟨rfl, rfl⟩ | ⟨h0, h1, i, z, hi, hzz, hzs, hb⟩
      · refine fin [] rfl (fun u hu => by cases hu) ?_
        unfold Instr.makeSlice sizeOf typeInfo asInt
        simp only [Sem.run_bind, run_program, Result.andThen_ok, hti, Sem.run_pure, run_underlying hd, run_index_int, hwn, hwc, Sem.run_ite, run_askRoom]
        rw [if_neg (by rw [hcond]; exact id)]
        simp
        rw [show Array.range 0 = #[] from rfl, Array.map_empty]
      · rw [hti] at hi; injection hi with hi; subst hi
        refine fin _ (hb β).1 (hb β).2 ?_
        have hr' : ((Array.range (c * ti.size)).map fun x => z.cells[x % z.cells.size]!) = (List.replicate c z.cells.toList).flatten.toArray := by
          apply Array.ext'
          rw [← range_rep z.cells (by omega) c, hzs]
          simp
        unfold Instr.makeSlice sizeOf zeroValue typeInfo asInt
        simp only [Sem.run_bind, run_program, Result.andThen_ok, hti, Sem.run_pure, run_underlying hd, run_index_int, hwn, hwc, Sem.run_ite, run_askRoom]
        rw [if_neg (by rw [hcond]; exact id)]
        simp only [Int.toNat_natCast]
        rw [if_neg (Nat.mul_ne_zero (by omega) (by omega))]
        simp only [hzz, Sem.run_pure, Result.andThen_ok, hr']
  · cases H
theorem run_bound {x : Value} {q : IntKind} {i y : Nat} {c : BoundsCode} {w : World} (hx : x = .int q i) (h : i ≤ y) : (Instr.sliceBound x y c).run P w = .ok i w := by
  subst hx
  unfold Instr.sliceBound
  simp only [Sem.run_bind, run_index_int, Result.andThen_ok]
  rw [if_pos ⟨by omega, by omega⟩]
  simp
/-- Bounds, as they are told: each is a number, or is not told. -/
def BdR (x : Option Value) (n d : Nat) : Prop := (x = none ∧ n = d) ∨ ∃ q, x = some (.int q (n : Int))
/-- Operands of a cut. -/
def OptR (β : Bt) (x : Option AV) (v : Option Value) : Prop := match x, v with | none, none => True | some y, some v => con β y = some v | _, _ => False
theorem bd_of {β : Bt} {x : Option AV} {n d : Nat} (h : (x = none ∧ n = d) ∨ ∃ y, x = some y ∧ ∀ β v, con β y = some v → ∃ q, v = .int q n) {v : Option Value} (hv : OptR β x v) : BdR v n d := by
  rcases h with ⟨rfl, rfl⟩ | ⟨y, rfl, h⟩
  · cases v with
    | none => exact .inl ⟨rfl, rfl⟩
    | some v => exact hv.elim
  · cases v with
    | none => exact hv.elim
    | some v =>
      obtain ⟨q, rfl⟩ := h β v hv
      exact .inr ⟨q, rfl⟩
theorem run_bounds {isS : Bool} {len cap l h m : Nat} {lo hi mx : Option Value} {w : World} (hlo : BdR lo l 0) (hhi : BdR hi h len) (hmx : BdR mx m cap) (h1 : m ≤ cap) (h2 : h ≤ m) (h3 : l ≤ h) (hm : mx.isSome = true → hi.isSome = true) :
    (Instr.sliceBounds isS len cap lo hi mx).run P w = .ok (l, h, m) w := by
  unfold Instr.sliceBounds
  rcases hlo with ⟨rfl, rfl⟩ | ⟨q1, rfl⟩ <;> rcases hhi with ⟨rfl, rfl⟩ | ⟨q2, rfl⟩ <;> rcases hmx with ⟨rfl, rfl⟩ | ⟨q3, rfl⟩ <;>
    first
      | (simp at hm; done)
      | (simp only [Sem.run_bind, Sem.run_pure, Result.andThen_ok, run_bound rfl h1, run_bound rfl h2, run_bound rfl h3])
theorem extract_bytes (l : List Nat) (a b : Nat) (hb : b ≤ l.length) (hab : a ≤ b) : (bytesOf l).extract a b = bytesOf ((l.drop a).take (b - a)) := by
  unfold bytesOf
  apply ByteArray.ext
  simp [ByteArray.extract, ByteArray.copySlice, List.extract_eq_take_drop]
theorem sliceK_yes {t : TypeId} {x : AV} {lo hi mx : Option AV} {k : AV → Ans} (hm : mx.isSome = true → hi.isSome = true) (H : sliceK P t x lo hi mx k = .yes) :
    ∃ v, k v = .yes ∧ ∀ β w a (lo' hi' mx' : Option Value), con β x = some a → OptR β lo lo' → OptR β hi hi' → OptR β mx mx' → ∃ u, (Instr.sliceAt t a lo' hi' mx').run P w = .ok u w ∧ con β v = some u := by
  have hm' : ∀ {β : Bt} {hi' mx' : Option Value}, OptR β hi hi' → OptR β mx mx' → mx'.isSome = true → hi'.isSome = true := by
    intro β hi' mx' h1 h2 h3
    cases mx' with
    | none => cases h3
    | some v =>
      cases mx with
      | none => exact h2.elim
      | some y =>
        have := hm rfl
        cases hi with
        | none => cases this
        | some z =>
          cases hi' with
          | none => exact h1.elim
          | some z' => rfl
  unfold sliceK at H
  split at H
  · rename_i n l hd
    split at H
    · cases H
    · obtain ⟨a, H, ha⟩ := optOf_yes H
      obtain ⟨b, H, hb⟩ := optOf_yes H
      obtain ⟨h1, H⟩ := cnd_yes H
      obtain ⟨h2, H⟩ := cnd_yes H
      have h1' : b ≤ n := by simpa using h1
      have h2' : a ≤ b := by simpa using h2
      simp only [dropK_eq, fNat_eq, takeK_eq] at H
      refine ⟨_, H, fun β w v lo' hi' mx' hv r1 r2 r3 => ?_⟩
      obtain ⟨rfl, h3, h4⟩ := con_str_inv hv
      have e3 : mx' = none := by cases mx' with | none => rfl | some _ => exact r3.elim
      subst e3
      refine ⟨.string ((bytesOf l).extract a b), ?_, ?_⟩
      · have hs := run_bounds (P := P) (isS := false) (len := (bytesOf l).size) (cap := (bytesOf l).size) (w := w) (bd_of ha r1) (by rw [bytesOf_size, ← h3]; exact bd_of hb r2) (mx := none) (m := (bytesOf l).size) (.inl ⟨rfl, rfl⟩) (Nat.le_refl _) (by rw [bytesOf_size]; omega) h2' (by simp)
        unfold Instr.sliceAt
        simp only [Sem.run_bind, run_underlying hd, Result.andThen_ok]
        unfold Instr.slice
        simp only [Sem.run_bind, run_underlying hd, Result.andThen_ok, Option.isSome_none, Bool.false_eq_true, if_false, hs, Sem.run_pure]
      · rw [extract_bytes l a b (by omega) h2']
        refine con_str_mk (by simp; omega) ?_
        rw [List.all_eq_true] at h4 ⊢
        exact fun y hy => h4 y (List.mem_of_mem_drop (List.mem_of_mem_take hy))
  · rename_i e hd
    obtain ⟨ti, hti, H⟩ := sizeK_yes H
    obtain ⟨a, H, ha⟩ := optOf_yes H
    obtain ⟨b, H, hb⟩ := optOf_yes H
    obtain ⟨m, H, hc⟩ := optOf_yes H
    obtain ⟨h1, H⟩ := cnd_yes H
    have h1' := Nat.eq_of_beq_eq_true h1
    obtain rfl : a = 0 := by omega
    obtain rfl : b = 0 := by omega
    obtain rfl : m = 0 := by omega
    refine ⟨_, H, fun β w v lo' hi' mx' hv r1 r2 r3 => ⟨.slice none 0 0, ?_, rfl⟩⟩
    obtain ⟨rfl, -⟩ := con_raw hv
    have hs := run_bounds (P := P) (isS := true) (len := 0) (cap := 0) (w := w) (bd_of ha r1) (bd_of hb r2) (bd_of hc r3) (Nat.le_refl _) (Nat.le_refl _) (Nat.le_refl _) (hm' r2 r3)
    unfold Instr.sliceAt
    simp only [Sem.run_bind, run_underlying hd, Result.andThen_ok]
    unfold Instr.slice
    simp only [Sem.run_bind, run_underlying hd, Result.andThen_ok, hs, sizeOf, typeInfo, run_program, hti, Sem.run_pure]
    rfl
  · rename_i e b off len c hd
    obtain ⟨ti, hti, H⟩ := sizeK_yes H
    obtain ⟨m, H, hc⟩ := optOf_yes H
    obtain ⟨q, H, hb⟩ := optOf_yes H
    obtain ⟨a, H, ha⟩ := optOf_yes H
    obtain ⟨h1, H⟩ := cnd_yes H
    obtain ⟨h2, H⟩ := cnd_yes H
    obtain ⟨h3, H⟩ := cnd_yes H
    have h1' : m ≤ c := by simpa using h1
    have h2' : q ≤ m := by simpa using h2
    have h3' : a ≤ q := by simpa using h3
    simp only [fNat_eq] at H
    have hrun : ∀ β w v lo' hi' mx', con β (.slice b off len true c) = some v → OptR β lo lo' → OptR β hi hi' → OptR β mx mx' → ∃ cb κ, β b = some (cb, κ) ∧ (Instr.sliceAt t v lo' hi' mx').run P w = .ok (.slice (some (if m = a then ⟨cb, off, none⟩ else ⟨cb, off + a * ti.size, none⟩)) (q - a) (m - a)) w := by
      intro β w v lo' hi' mx' hv r1 r2 r3
      obtain ⟨cb, κ, e1, rfl⟩ := con_slice hv
      refine ⟨cb, κ, e1, ?_⟩
      have hs := run_bounds (P := P) (isS := true) (len := len) (cap := c) (w := w) (bd_of ha r1) (bd_of hb r2) (bd_of hc r3) h1' h2' h3' (hm' r2 r3)
      unfold Instr.sliceAt
      simp only [Sem.run_bind, run_underlying hd, Result.andThen_ok]
      unfold Instr.slice
      simp only [Sem.run_bind, run_underlying hd, Result.andThen_ok, if_true, hs, sizeOf, typeInfo, run_program, hti, Sem.run_pure]
      congr 2
      split
      · rfl
      · simp [Addr.add_lit]
    rw [cnd_eq] at H
    split at H
    · rename_i hma
      have hma' := Nat.eq_of_beq_eq_true hma
      refine ⟨_, H, fun β w v lo' hi' mx' hv r1 r2 r3 => ?_⟩
      obtain ⟨cb, κ, e1, e2⟩ := hrun β w v lo' hi' mx' hv r1 r2 r3
      rw [if_pos hma'] at e2
      exact ⟨_, e2, con_slice_mk e1 (.inl rfl)⟩
    · rename_i hma
      have hma' : ¬ m = a := fun e => hma (by rw [e]; exact Nat.beq_refl a)
      refine ⟨_, H, fun β w v lo' hi' mx' hv r1 r2 r3 => ?_⟩
      obtain ⟨cb, κ, e1, e2⟩ := hrun β w v lo' hi' mx' hv r1 r2 r3
      rw [if_neg hma'] at e2
      exact ⟨_, e2, con_slice_mk e1 (.inl rfl)⟩
  · rename_i e b off len c hd
    obtain ⟨ti, hti, H⟩ := sizeK_yes H
    split at H
    · cases H
    obtain ⟨q, H, hb⟩ := optOf_yes H
    obtain ⟨a, H, ha⟩ := optOf_yes H
    obtain ⟨h2, H⟩ := cnd_yes H
    obtain ⟨h3, H⟩ := cnd_yes H
    have h2' : q ≤ len := by simpa using h2
    have h3' : a ≤ q := by simpa using h3
    have hrun : ∀ β w v lo' hi' mx', con β (.slice b off len false c) = some v → OptR β lo lo' → OptR β hi hi' → OptR β none mx' → ∃ cb κ, β b = some (cb, κ) ∧ c + len ≤ κ ∧ (Instr.sliceAt t v lo' hi' mx').run P w = .ok (.slice (some (if κ - c = a then ⟨cb, off, none⟩ else ⟨cb, off + a * ti.size, none⟩)) (q - a) (κ - c - a)) w := by
      intro β w v lo' hi' mx' hv r1 r2 r3
      obtain ⟨cb, κ, e1, rfl, e2⟩ := con_slice' hv
      have e2' : c + len ≤ κ := by rcases e2 with h | h; cases h; exact h
      refine ⟨cb, κ, e1, e2', ?_⟩
      have e3 : mx' = none := by cases mx' with | none => rfl | some _ => exact r3.elim
      subst e3
      have hs := run_bounds (P := P) (isS := true) (len := len) (cap := κ - c) (w := w) (bd_of ha r1) (bd_of hb r2) (mx := none) (m := κ - c) (.inl ⟨rfl, rfl⟩) (Nat.le_refl _) (by omega) h3' (by simp)
      unfold Instr.sliceAt
      simp only [Sem.run_bind, run_underlying hd, Result.andThen_ok]
      unfold Instr.slice
      simp only [Sem.run_bind, run_underlying hd, Result.andThen_ok, Bool.false_eq_true, if_false, hs, sizeOf, typeInfo, run_program, hti, Sem.run_pure]
      congr 2
      split
      · rfl
      · simp [Addr.add_lit]
    rw [cnd_eq] at H
    split at H
    · rename_i hma
      have hma' := Nat.eq_of_beq_eq_true hma
      refine ⟨_, H, fun β w v lo' hi' mx' hv r1 r2 r3 => ?_⟩
      obtain ⟨cb, κ, e1, e3, e2⟩ := hrun β w v lo' hi' mx' hv r1 r2 r3
      refine ⟨_, e2, ?_⟩
      rw [con_slice_mk e1 (.inr (by omega))]
      subst hma'
      simp
    · rename_i hma
      obtain ⟨h4, H⟩ := cnd_yes H
      have h4' : a < len := by simpa using h4
      simp only [fNat_eq] at H
      refine ⟨_, H, fun β w v lo' hi' mx' hv r1 r2 r3 => ?_⟩
      obtain ⟨cb, κ, e1, e3, e2⟩ := hrun β w v lo' hi' mx' hv r1 r2 r3
      rw [if_neg (by omega)] at e2
      refine ⟨_, e2, ?_⟩
      rw [con_slice_mk e1 (.inr (by omega))]
      simp; omega
  · rename_i n e b off hd
    obtain ⟨ti, hti, H⟩ := sizeK_yes H
    obtain ⟨m, H, hc⟩ := optOf_yes H
    obtain ⟨q, H, hb⟩ := optOf_yes H
    obtain ⟨a, H, ha⟩ := optOf_yes H
    obtain ⟨h1, H⟩ := cnd_yes H
    obtain ⟨h2, H⟩ := cnd_yes H
    obtain ⟨h3, H⟩ := cnd_yes H
    have h1' : m ≤ n := by simpa using h1
    have h2' : q ≤ m := by simpa using h2
    have h3' : a ≤ q := by simpa using h3
    simp only [fNat_eq] at H
    have hrun : ∀ β w v lo' hi' mx', con β (.ptr b off) = some v → OptR β lo lo' → OptR β hi hi' → OptR β mx mx' → ∃ cb κ, β b = some (cb, κ) ∧ (Instr.sliceAt t v lo' hi' mx').run P w = .ok (.slice (some (if m = a then ⟨cb, off, none⟩ else ⟨cb, off + a * ti.size, none⟩)) (q - a) (m - a)) w := by
      intro β w v lo' hi' mx' hv r1 r2 r3
      obtain ⟨cb, κ, e1, rfl⟩ := con_ptr hv
      refine ⟨cb, κ, e1, ?_⟩
      have hs := run_bounds (P := P) (isS := false) (len := n) (cap := n) (w := w) (bd_of ha r1) (bd_of hb r2) (bd_of hc r3) h1' h2' h3' (hm' r2 r3)
      unfold Instr.sliceAt
      simp only [Sem.run_bind, run_underlying hd, Result.andThen_ok, Instr.sureAddr, Sem.run_pure, hs, sizeOf, typeInfo, run_program, hti]
      congr 2
      split
      · rfl
      · simp [Addr.add_lit]
    rw [cnd_eq] at H
    split at H
    · rename_i hma
      have hma' := Nat.eq_of_beq_eq_true hma
      refine ⟨_, H, fun β w v lo' hi' mx' hv r1 r2 r3 => ?_⟩
      obtain ⟨cb, κ, e1, e2⟩ := hrun β w v lo' hi' mx' hv r1 r2 r3
      rw [if_pos hma'] at e2
      exact ⟨_, e2, con_slice_mk e1 (.inl rfl)⟩
    · rename_i hma
      have hma' : ¬ m = a := fun e => hma (by rw [e]; exact Nat.beq_refl a)
      refine ⟨_, H, fun β w v lo' hi' mx' hv r1 r2 r3 => ?_⟩
      obtain ⟨cb, κ, e1, e2⟩ := hrun β w v lo' hi' mx' hv r1 r2 r3
      rw [if_neg hma'] at e2
      exact ⟨_, e2, con_slice_mk e1 (.inl rfl)⟩
  · cases H
end Go.Ev
namespace Go.Ev
variable [Sg]
open Go.RowKit
variable {P : Program}

/-- What is appended, or copied. -/
structure SrcR (P : Program) (sz : Nat) (a : Value) (n : Nat) (vs : List Value) (w : World) : Prop where
  len : ∀ w' : World, (Builtin.lenOf a).run P w' = .ok n w'
  cells : ∀ m, m ≤ n → (Builtin.firstCells sz m a).run P w = .ok (vs.take (m * sz)).toArray w
  cellsD : ∀ m, m ≤ n → (Builtin.firstCells sz m a).run P w.drew = .ok (vs.take (m * sz)).toArray w.drew
  newsLen : vs.length = n * sz
  one : ∀ u ∈ vs, u.oneCell' = true
theorem SrcR.src {sz : Nat} {a : Value} {n : Nat} {vs : List Value} {w : World} (h : SrcR P sz a n vs w) {tx : TypeId} (hk : (∃ e', P.underlying tx = some (.slice e')) ∨ P.underlying tx = some .string) : Src P sz tx a n vs w := by
  have e : vs.take (n * sz) = vs := List.take_of_length_le (by rw [h.newsLen]; exact Nat.le_refl _)
  exact ⟨hk, h.len, by rw [h.cells n (Nat.le_refl _), e], by rw [h.cellsD n (Nat.le_refl _), e], h.newsLen, h.one⟩
theorem sourceK_yes {sz : Nat} {x : AV} {h : Hp} {k : Nat → List AV → Ans} (H : sourceK sz x h k = .yes) :
    ∃ n l, k n l = .yes ∧ ∀ β w a, HR β h w → con β x = some a → ∃ vs, conL β l = some vs ∧ SrcR P sz a n vs w := by
  unfold sourceK at H
  split at H
  · rename_i n l
    obtain ⟨h1, H⟩ := cnd_yes H
    obtain rfl := Nat.eq_of_beq_eq_true h1
    rw [u8L_eq] at H
    refine ⟨_, _, H, fun β w a hr ha => ?_⟩
    obtain ⟨rfl, h3, h4⟩ := con_str_inv ha
    have hfc : ∀ m, m ≤ n → ∀ w' : World, (Builtin.firstCells 1 m (.string (bytesOf l))).run P w' = .ok ((byteCells (bytesOf l)).take (m * 1)).toArray w' := by
      intro m hm w'
      simp only [Builtin.firstCells, Sem.run_pure]
      congr 1
      apply Array.ext'
      rw [extract_bytes l 0 m (by omega) (Nat.zero_le _)]
      simp [byteCells, bytesOf]
    refine ⟨_, conL_u8 β h4, ⟨fun w' => ?_, fun m hm => hfc m hm w, fun m hm => hfc m hm _, by rw [byteCells_length, bytesOf_size]; omega, fun u hu => by
      obtain ⟨_, _, rfl⟩ := List.mem_map.1 hu; rfl⟩⟩
    show Result.ok (bytesOf l).size w' = _
    rw [bytesOf_size, h3]
  · rename_i b off n ex d
    simp only [fNat_eq] at H
    obtain ⟨l, e', m, c, ex, sz', g1, g2, g3, g4, H⟩ := getK_yes H
    refine ⟨_, _, H, fun β w a hr ha => ?_⟩
    obtain ⟨cb, κ, vs, e1, e2, e3, e4, e5⟩ := cells_of hr g1 g2 g3 g4
    obtain ⟨c', κ', e6, rfl⟩ := con_slice ha
    rw [e1] at e6; injection e6 with e6; injection e6 with e6 e7; subst e6
    have hfc : ∀ w' : World, (∀ p, w'.cell? p = w.cell? p) → ∀ m, m ≤ n → (Builtin.firstCells sz m (.slice (some ⟨cb, off, none⟩) n (if ex = true then d else κ' - d))).run P w' = .ok (vs.take (m * sz)).toArray w' := by
      intro w' hw' m hm
      have hmn : m * sz ≤ n * sz := Nat.mul_le_mul_right _ hm
      refine run_firstCells_some w' sz m ⟨cb, off, none⟩ n _ (vs.take (m * sz)) (by rw [List.length_take, e4]; omega) fun j v hj => ?_
      rw [Addr.add_lit, hw']
      rw [List.getElem?_take] at hj
      split at hj
      · exact e5 j v hj
      · cases hj
    exact ⟨vs, e2, ⟨fun w' => rfl, hfc w (fun _ => rfl), hfc w.drew (fun p => by simp), e4, e3⟩⟩
  · rename_i n c
    obtain ⟨h1, H⟩ := cnd_yes H
    obtain rfl := Nat.eq_of_beq_eq_true h1
    refine ⟨_, _, H, fun β w a hr ha => ⟨[], rfl, ?_⟩⟩
    obtain ⟨rfl, -⟩ := con_raw ha
    refine ⟨fun w' => rfl, fun m hm => ?_, fun m hm => ?_, by simp, fun u hu => by cases hu⟩
    · simp [Builtin.firstCells]
    · simp [Builtin.firstCells]
  · cases H
theorem append_any {ts : Array TypeId} {t tx ty : TypeId} {s x : Value} (h0 : ts[0]? = some t) (h1 : ts[1]? = some tx) : Builtin.append_ ts ty #[s, x] = Builtin.append_ #[t, tx] ty #[s, x] := by
  unfold Builtin.append_
  rw [h0, h1]
  rfl
theorem zeroCells_len (z : Array Value) (n : Nat) : (Builtin.zeroCells z n).size = n * z.size := by simp [Builtin.zeroCells]
/-- A row that grew, in new memory. -/
theorem growK_yes {e : TypeId} {sz : Nat} {old new : List AV} {need : Nat} {h : Hp} {k : AK} (H : growK P e sz old new need h k = .yes) :
    ∃ v h' i z, k v h' = .yes ∧ (∀ t n low, h = .mk t n low → v = .slice n 0 need false 0 ∧ h' = .mk (t.set (path n) (some (.cells e (old ++ new).length (putL (old ++ new) 0 .leaf) false sz))) (n + 1) low) ∧ need ≤ 65536 ∧ P.info? e = some i ∧ i.bytes ≤ 65536 ∧ i.zero = some z ∧
      ∀ β w (os ns : List Value) (cap : Nat), HR β h w → conL β old = some os → conL β new = some ns → (∀ u ∈ os, u.oneCell' = true) → (∀ u ∈ ns, u.oneCell' = true) → os.length + ns.length = need * sz → need ≤ cap →
        ∃ β', Stp β h w β' h' (w.drew.alloc (.cells ((os ++ ns).toArray ++ Builtin.zeroCells z.cells (cap - need)) e)) ∧ con β' v = some (.slice (some ⟨w.heap.size, 0, none⟩) need cap) := by
  unfold growK at H
  rw [catK_eq] at H
  obtain ⟨h1, H⟩ := cnd_yes H
  obtain ⟨h2, H⟩ := cnd_yes H
  obtain ⟨i, z, av, hi, hz, hc, H⟩ := zeroK_yes H
  obtain ⟨zl, H, hv⟩ := cells_yes H
  rw [lenK_eq] at H
  obtain ⟨h3, H⟩ := cnd_yes H
  have h1' : need ≤ 65536 := by simpa using h1
  have h3' := Nat.eq_of_beq_eq_true h3
  have h2' : i.bytes ≤ 65536 := by unfold makeSliceK.smallB at h2; rw [hi] at h2; simpa using h2
  cases h with
  | mk t nx low =>
    rw [newK_eq] at H
    refine ⟨_, _, i, z, H, fun t2 n2 low2 e2 => by injection e2 with e3 e4 e5; subst e3; subst e4; subst e5; exact ⟨rfl, rfl⟩, h1', hi, h2', hz, fun β w os ns cap hr ho hn h4 h5 hlen hcap => ?_⟩
    obtain ⟨zs, f1, f2, f3⟩ := hv β z (hc β)
    have hzl := conL_len f1
    have hzs : z.cells.size = sz := by rw [f2]; simp; omega
    refine ⟨upd β nx w.heap.size cap, new_stp (κ := cap) (fz := (0, 0)) (Builtin.zeroCells z.cells (cap - need)).toList hr (conL_append ho hn) (fun u hu => (List.mem_append.1 hu).elim (h4 u) (h5 u)) ?_ rfl rfl rfl (fun i hi => by simp) (fun h => by cases h) (fun _ => ?_), ?_⟩
    · show (w.heap.push _) = _
      congr 2
      apply Array.ext'
      simp
    · have hz2 : (Builtin.zeroCells z.cells (cap - need)).toList.length = (cap - need) * sz := by rw [Array.length_toList, zeroCells_len, hzs]
      rw [List.length_append, List.length_append, hz2, hlen, ← Nat.add_mul]
      congr 1; omega
    · rw [con_slice_mk (upd_same ..) (.inr (by omega))]; simp
theorem srcTy_yes {ts : Array TypeId} (h : srcTy P ts = true) : ∃ tx, ts[1]? = some tx ∧ ((∃ e', P.underlying tx = some (.slice e')) ∨ P.underlying tx = some .string) := by
  unfold srcTy at h
  split at h
  · rename_i e hb
    obtain ⟨tx, h1, h2⟩ := Option.bind_eq_some_iff.1 hb
    exact ⟨tx, h1, .inl ⟨e, h2⟩⟩
  · rename_i hb
    obtain ⟨tx, h1, h2⟩ := Option.bind_eq_some_iff.1 hb
    exact ⟨tx, h1, .inr h2⟩
  · cases h
/-- The block goes on in its place, by another number. -/
theorem Stp.moved {β : Bt} {t : Tr Blk} {n low b cb κ : Nat} {w w' : World} {old blk : Blk} (hr : HR β (.mk t n low) w) (hold : t.get (path b) = some old) (hβ : β b = some (cb, κ)) (hsz : w'.heap.size = w.heap.size)
    (hoth : ∀ i, i < w.heap.size → i ≠ cb → w'.heap[i]? = w.heap[i]?) (h1 : w'.os = w.os) (h2 : w'.tape = w.tape) (h3 : w'.output = w.output) (hb : BlkR (upd β n cb κ) κ w'.heap[cb]? blk) :
    Stp β (.mk t n low) w (upd β n cb κ) (.mk ((t.set (path b) none).set (path n) (some blk)) (n + 1) (min low b)) w' := by
  have hlow : low ≤ n := hr.low
  have hbn : b < n := (hr.blk b old hold).1
  have hn : β n = none := hr.fresh n (Nat.le_refl _)
  have hlt : ∀ b x, t.get (path b) = some x → ∃ cb κ', β b = some (cb, κ') ∧ cb < w.heap.size := by
    intro b x hx
    obtain ⟨_, cb, κ', e, hB⟩ := hr.blk b x hx
    refine ⟨cb, κ', e, ?_⟩
    cases x with
    | cells e' len c ex esz => obtain ⟨cs, fz, e2, -⟩ := hB; exact (Array.getElem?_eq_some_iff.1 e2).1
    | map es clock => obtain ⟨ms, e2, -⟩ := hB; exact (Array.getElem?_eq_some_iff.1 e2).1
    | iter l p => exact (Array.getElem?_eq_some_iff.1 hB.1).1
    | miter b s => obtain ⟨_, _, _, e2⟩ := hB; exact (Array.getElem?_eq_some_iff.1 e2).1
  have go : ∀ b' x, ((t.set (path b) none).set (path n) (some blk)).get (path b') = some x → (b' = n ∧ x = blk) ∨ (b' ≠ n ∧ b' ≠ b ∧ t.get (path b') = some x) := by
    intro b' x hx
    rw [get_set, get_set] at hx
    by_cases e1 : b' = n
    · subst e1; rw [if_pos rfl] at hx; injection hx with hx; exact .inl ⟨rfl, hx.symm⟩
    · rw [if_neg (path_ne e1)] at hx
      by_cases e2 : b' = b
      · subst e2; rw [if_pos rfl] at hx; cases hx
      · rw [if_neg (path_ne e2)] at hx; exact .inr ⟨e1, e2, hx⟩
  refine ⟨⟨fun b' x hx => ?_, fun b1 b2 x x' c κ1 κ2 hx hx' e e' => ?_, fun i hi => ?_, ?_⟩, by show n ≤ n + 1; omega, Nat.min_le_left _ _, fun b' hb' => upd_ne (by intro e; subst e; exact Nat.lt_irrefl _ hb'), (fun b' x hb' e => by
    rcases go b' x e with ⟨rfl, -⟩ | ⟨-, -, e⟩
    · exact absurd hb' (Nat.lt_irrefl _)
    · exact ⟨x, e⟩), fun b' c κ' hb' e => ?_, ⟨h1, h2, h3, by omega, fun c hc hne => ?_⟩⟩
  · rcases go b' x hx with ⟨rfl, rfl⟩ | ⟨e1, e2, hx⟩
    · exact ⟨by show b' < b' + 1; omega, cb, κ, upd_same .., hb⟩
    · obtain ⟨h4, cb', κ', e, hB⟩ := hr.blk b' x hx
      have h4' : b' < n := h4
      obtain ⟨cb2, κ2, e2', hcb⟩ := hlt b' x hx
      rw [e] at e2'; injection e2' with e2'; injection e2' with e2' e3; subst e2'
      refine ⟨by show b' < n + 1; omega, cb', κ', by rw [upd_ne e1]; exact e, ?_⟩
      rw [hoth cb' hcb (fun ec => e2 (hr.inj b' b x old cb' κ' κ hx hold e (by rw [ec]; exact hβ)))]
      exact hB.mono (upd_le hn)
  · rcases go b1 x hx with ⟨rfl, rfl⟩ | ⟨e1, e2, gx⟩
    · rcases go b2 x' hx' with ⟨rfl, rfl⟩ | ⟨f1, f2, gx'⟩
      · rfl
      · rw [upd_same] at e; injection e with e; injection e with e _
        rw [upd_ne f1] at e'
        exact absurd (hr.inj b2 b x' old c κ2 κ gx' hold e' (by rw [← e]; exact hβ)) f2
    · rw [upd_ne e1] at e
      rcases go b2 x' hx' with ⟨rfl, rfl⟩ | ⟨f1, f2, gx'⟩
      · rw [upd_same] at e'; injection e' with e'; injection e' with e' _
        exact absurd (hr.inj b1 b x old c κ1 κ gx hold e (by rw [← e']; exact hβ)) e2
      · rw [upd_ne f1] at e'
        exact hr.inj b1 b2 x x' c κ1 κ2 gx gx' e e'
  · have hi' : n + 1 ≤ i := hi
    rw [upd_ne (by omega)]; exact hr.fresh i (show n ≤ i by omega)
  · show min low b ≤ n + 1; omega
  · have hb'' : n ≤ b' := hb'
    by_cases e1 : b' = n
    · subst e1
      rw [upd_same] at e; injection e with e; injection e with e _; subst e
      exact .inr ⟨b, κ, old, Nat.min_le_right low b, hbn, hold, hβ⟩
    · rw [upd_ne e1, hr.fresh b' hb''] at e; cases e
  · refine hoth c hc fun e => ?_
    subst e
    exact hne b κ old (Nat.min_le_right low b) hold hβ
/-- What is forgotten is not asked. -/
theorem HR.forget {β : Bt} {t : Tr Blk} {n low low' b : Nat} {w : World} (hr : HR β (.mk t n low) w) (hl : low' ≤ low) : HR β (.mk (t.set (path b) none) n low') w := by
  have go : ∀ b' x, (t.set (path b) none).get (path b') = some x → t.get (path b') = some x := by
    intro b' x hx
    rw [get_set] at hx
    by_cases e : path b' = path b
    · rw [if_pos e] at hx; cases hx
    · rw [if_neg e] at hx; exact hx
  exact ⟨fun b' x hx => hr.blk b' x (go b' x hx), fun b1 b2 x x' c κ κ' hx hx' e e' => hr.inj b1 b2 x x' c κ κ' (go b1 x hx) (go b2 x' hx') e e', hr.fresh, Nat.le_trans hl hr.low⟩
theorem Stp.forget {β : Bt} {t : Tr Blk} {n low low' b : Nat} {w : World} (hr : HR β (.mk t n low) w) (hl : low' ≤ low) : Stp β (.mk t n low) w β (.mk (t.set (path b) none) n low') w :=
  ⟨hr.forget hl, Nat.le_refl _, hl, fun _ _ => rfl, (fun b' x _ e => by
    replace e : (t.set (path b) none).get (path b') = some x := e
    rw [get_set] at e
    split at e
    · cases e
    · exact ⟨x, e⟩), (fun b c κ hb e => by rw [hr.fresh b hb] at e; cases e), Kept.refl _ _ _ _⟩
theorem run_first {w : World} {a : Addr} {size n cap : Nat} {os : List Value} (hl : os.length = n * size) (h : ∀ j v, os[j]? = some v → w.cell? (a.add j) = some v) : (Builtin.firstCells size n (.slice (some a) n cap)).run P w.drew = .ok os.toArray w.drew :=
  run_firstCells_some w.drew size n a n cap os hl (fun j v hv => by simpa using h j v hv)
theorem appendK_yes {ts : Array TypeId} {ty : TypeId} {s x : AV} {h : Hp} {k : AK} (H : appendK P ts s x h k = .yes) : ∃ v h', k v h' = .yes ∧ Sem2 P (fun a b => Builtin.append_ ts ty #[a, b]) s x h v h' := by
  unfold appendK at H
  split at H
  · rename_i e hts
    obtain ⟨t, h0, hd⟩ := Option.bind_eq_some_iff.1 hts
    obtain ⟨hsrc, Ha⟩ := cnd_yes H
    obtain ⟨tx, h1, hk⟩ := srcTy_yes hsrc
    obtain ⟨ti, hti, Hb⟩ := sizeK_yes Ha
    obtain ⟨n, new, Hc, hsr⟩ := sourceK_yes (P := P) Hb
    clear H Ha Hb
    have arg : ∀ a b, Builtin.append_ ts ty #[a, b] = Builtin.append_ #[t, tx] ty #[a, b] := fun a b => append_any h0 h1
    have room : ∀ {b off len cap : Nat} {β : Bt} {w : World} {y : Value} {vs : List Value} {cb : Nat}, SrcR P ti.size y n vs w → len + n ≤ cap → (∀ j, j < vs.length → (w.cell? ⟨cb, off + len * ti.size + j, none⟩).isSome = true) → (∀ j, j < vs.length → w.frozen? ⟨cb, off + len * ti.size + j, none⟩ = false) →
        (Builtin.append_ #[t, tx] ty #[.slice (some ⟨cb, off, none⟩) len cap, y]).run P w = .ok (.slice (some ⟨cb, off, none⟩) (len + n) cap) (w.setCells cb (off + len * ti.size) vs) := by
      intro b off len cap β w y vs cb hs hle f2 f3
      exact run_append_room_src (P := P) w t tx ty e ti hd hti cb off len cap y n vs (hs.src hk) hle f2 f3
    have grow : ∀ {old : List AV} {need : Nat} {h : Hp} {k : AK}, growK P e ti.size old new need h k = .yes → ∃ v h', k v h' = .yes ∧
        ∀ β w (base : Option Addr) (len cap : Nat) (os : List Value) (y : Value) (ns : List Value), HR β h w → conL β old = some os → conL β new = some ns → SrcR P ti.size y n ns w → len + n = need → cap < need → os.length = len * ti.size → (∀ u ∈ os, u.oneCell' = true) →
          (Builtin.firstCells ti.size len (.slice base len cap)).run P w.drew = .ok os.toArray w.drew → ∃ β' w' u, (Builtin.append_ #[t, tx] ty #[.slice base len cap, y]).run P w = .ok u w' ∧ Stp β h w β' h' w' ∧ con β' v = some u := by
      intro old need h k H
      obtain ⟨v, h', i, z, H, -, hneed, hi, hby, hz, hall⟩ := growK_yes H
      rw [hti] at hi; injection hi with hi; subst hi
      refine ⟨v, h', H, fun β w base len cap os y ns hr ho hn hs hle hcap hlo h1o hold => ?_⟩
      subst hle
      have hfit : Builtin.nextslicecap (len + n) cap * ti.bytes ≤ 281474976710656 := growslice_fits hcap (by
        have : (len + n) * ti.bytes ≤ 65536 * 65536 := Nat.mul_le_mul hneed hby
        omega)
      obtain ⟨β', g1, g2⟩ := hall β w os ns (grownCap w (len + n) cap e) hr ho hn h1o hs.one (by rw [hlo, hs.newsLen, ← Nat.add_mul]) (grownCap_ge ..)
      exact ⟨β', _, _, run_append_grow_src (P := P) w t tx ty e ti z hd hti hz base len cap os hold y n ns (hs.src hk) hcap (by omega) hfit, g1, g2⟩
    split at Hc
    · rw [cnd_eq] at Hc
      split at Hc
      · rename_i hn0
        have hn0' := Nat.eq_of_beq_eq_true hn0
        subst hn0'
        refine ⟨_, _, Hc, fun β w a b hr ha hb => ?_⟩
        obtain ⟨rfl, -⟩ := con_raw ha
        obtain ⟨vs, e1, hs⟩ := hsr β w b hr hb
        refine ⟨β, w, .slice none 0 0, ?_, .refl hr, rfl⟩
        show (Builtin.append_ ts ty #[_, b]).run P w = _
        rw [arg]
        exact run_append_nothing (P := P) w t tx ty e ti hd hti none 0 0 (Nat.le_refl _) b (by
          obtain rfl : vs = [] := List.eq_nil_of_length_eq_zero (by have := hs.newsLen; omega)
          exact hs.src hk)
      · rename_i hn0
        have hn0' : n ≠ 0 := fun e => hn0 (by rw [e]; rfl)
        obtain ⟨v, h', H, hg⟩ := grow Hc
        refine ⟨v, h', H, fun β w a b hr ha hb => ?_⟩
        obtain ⟨rfl, -⟩ := con_raw ha
        obtain ⟨vs, e1, hs⟩ := hsr β w b hr hb
        obtain ⟨β', w', u, r1, r2, r3⟩ := hg β w none 0 0 [] b vs hr rfl e1 hs (by omega) (by omega) (by simp) (fun u hu => by cases hu) (by simp [Builtin.firstCells])
        exact ⟨β', w', u, by show (Builtin.append_ ts ty #[_, b]).run P w = _; rw [arg]; exact r1, r2, r3⟩
    · rename_i b off len c
      simp only [fNat_eq] at Hc
      rw [cnd_eq] at Hc
      split at Hc
      · rename_i hroom
        have hroom' : len + n ≤ c := by simpa using hroom
        obtain ⟨t', nx, low, e', m, ct, ex, sz', rfl, g1, g2, H⟩ := putK_yes Hc
        refine ⟨_, _, H, fun β w a y hr ha hy => ?_⟩
        obtain ⟨vs, e1, hs⟩ := hsr β w y hr hy
        obtain ⟨cb, κ, f1, f2, f3, f4⟩ := put_stp hr g1 g2 e1 hs.one
        obtain ⟨c', κ', e6, rfl⟩ := con_slice ha
        rw [f1] at e6; injection e6 with e6; injection e6 with e6 e7; subst e6
        refine ⟨β, _, _, ?_, f4, con_slice_mk f1 (.inl rfl)⟩
        show (Builtin.append_ ts ty #[_, y]).run P w = _
        rw [arg]
        exact room (b := b) (β := β) hs hroom' f2 f3
      · rename_i hroom
        have hroom' : c < len + n := by simpa using hroom
        obtain ⟨old, e', m, ct, ex, sz', g1, g2, g3, g4, Hd⟩ := getK_yes Hc
        obtain ⟨v, h', H, hg⟩ := grow Hd
        refine ⟨v, h', H, fun β w a y hr ha hy => ?_⟩
        obtain ⟨vs, e1, hs⟩ := hsr β w y hr hy
        obtain ⟨cb, κ, os, o1, o2, o3, o4, o5⟩ := cells_of hr g1 g2 g3 g4
        obtain ⟨c', κ', e6, rfl⟩ := con_slice ha
        rw [o1] at e6; injection e6 with e6; injection e6 with e6 e7; subst e6
        obtain ⟨β', w', u, r1, r2, r3⟩ := hg β w (some ⟨cb, off, none⟩) len c os y vs hr o2 e1 hs rfl hroom' o4 o3 (run_first o4 (fun j v hv => by rw [Addr.add_lit]; exact o5 j v hv))
        exact ⟨β', w', u, by show (Builtin.append_ ts ty #[_, y]).run P w = _; rw [arg]; exact r1, r2, r3⟩
    · rename_i b off len c
      simp only [fNat_eq] at Hc
      cases h with
      | mk t' nx low =>
        obtain ⟨bl, hbl, Hd⟩ := getP_yes Hc
        clear Hc
        cases bl with
        | map es cl => cases Hd
        | iter l p => cases Hd
        | miter b s => cases Hd
        | cells e' m ct ex sz' =>
          obtain ⟨hok, H⟩ := cnd_yes Hd
          clear Hd
          have hok' : ex = false ∧ sz' = ti.size ∧ 0 < ti.size ∧ off = c * ti.size := by
            unfold appendK.okB at hok
            cases ex with
            | true => cases hok
            | false =>
              have := hok
              simp only [Bool.and_eq_true, Nat.beq_eq, Nat.blt_eq] at this
              exact ⟨rfl, this.1, this.2.1, this.2.2⟩
          obtain ⟨rfl, rfl, hpos, hoff⟩ := hok'
          rw [cnd_eq] at H
          split at H
          · rename_i hin
            have hin' : off + len * ti.size + n * ti.size ≤ m := by simpa using hin
            obtain ⟨t2, nx2, low2, e2, m2, ct2, ex2, sz2, e3, g1, g2, H⟩ := putK_yes H
            injection e3 with e3 e4 e5
            subst e3; subst e4; subst e5
            refine ⟨_, _, H, fun β w a y hr ha hy => ?_⟩
            obtain ⟨vs, e1, hs⟩ := hsr β w y hr hy
            obtain ⟨cb, κ, f1, f2, f3, f4⟩ := put_stp hr g1 g2 e1 hs.one
            obtain ⟨c', κ', e6, rfl, e7⟩ := con_slice' ha
            rw [f1] at e6; injection e6 with e6; injection e6 with e6 e8; subst e6; subst e8
            have hcap : c + (len + n) ≤ κ := by
              obtain ⟨-, cb2, κ2, hβ, cs, fz, q1, q2, q3, q4, q5, q6⟩ := hr.blk b _ hbl
              rw [f1] at hβ; injection hβ with hβ; injection hβ with _ hβ; subst hβ
              have q7 := q6 rfl
              have : (c + (len + n)) * ti.size ≤ κ * ti.size := by
                rw [Nat.add_mul, Nat.add_mul, ← hoff]; omega
              exact Nat.le_of_mul_le_mul_right this hpos
            refine ⟨β, _, _, ?_, f4, con_slice_mk f1 (.inr hcap)⟩
            show (Builtin.append_ ts ty #[_, y]).run P w = _
            rw [arg]
            exact room (b := b) (β := β) hs (by simp; omega) f2 f3
          · obtain ⟨hend, H⟩ := cnd_yes H
            obtain ⟨h00, H⟩ := cnd_yes H
            have hend' := Nat.eq_of_beq_eq_true hend
            have h00' := Nat.eq_of_beq_eq_true h00
            subst h00'
            have hc0 : c = 0 := by
              rcases Nat.mul_eq_zero.1 hoff.symm with h | h
              · exact h
              · omega
            subst hc0
            obtain ⟨hee, H⟩ := cnd_yes H
            have hee' := Nat.eq_of_beq_eq_true hee
            subst hee'
            unfold movedK at H
            obtain ⟨old, e2, m2, ct2, ex2, sz2, g1, g2, g3, g4, H⟩ := getK_yes H
            have g1' : t'.get (path b) = some (.cells e2 m2 ct2 ex2 sz2) := g1
            rw [hbl] at g1'; injection g1' with g1'; injection g1' with q1 q2 q3 q4 q5
            subst q1; subst q2; subst q3; subst q4; subst q5
            rw [natMin_eq, setP_eq] at H
            obtain ⟨v, h', i, z, H, hvh, hneed, hi, hby, hz, hall⟩ := growK_yes H
            rw [hti] at hi; injection hi with hi; subst hi
            obtain ⟨rfl, rfl⟩ := hvh _ _ _ rfl
            rw [Nat.zero_add] at g3 g4 hend'
            refine ⟨_, _, H, fun β w a y hr ha hy => ?_⟩
            obtain ⟨vs, e1, hs⟩ := hsr β w y hr hy
            obtain ⟨cb, κ, os, o1, o2, o3, o4, o5⟩ := cells_of hr hbl (off := 0) (n := len * ti.size) (l := old) (by omega) g3 g4
            obtain ⟨c', κ', e6, rfl, e7⟩ := con_slice' ha
            rw [o1] at e6; injection e6 with e6; injection e6 with e6 e8; subst e6; subst e8
            have harg : ∀ w', (Builtin.append_ ts ty #[.slice (some ⟨cb, 0, none⟩) len (if false = true then 0 else κ - 0), y]).run P w' = (Builtin.append_ #[t, tx] ty #[.slice (some ⟨cb, 0, none⟩) len κ, y]).run P w' := fun w' => by rw [arg]; rfl
            by_cases hcap : len + n ≤ κ
            · obtain ⟨-, cb2, κ2, hβ, cs, fz, p1, p2, p3, p4, p5, p6⟩ := hr.blk b _ hbl
              rw [o1] at hβ; injection hβ with hβ; injection hβ with hβ1 hβ2; subst hβ1; subst hβ2
              have p7 := p6 rfl
              have hfits : len * ti.size + vs.length ≤ cs.size := by
                have : (len + n) * ti.size ≤ κ * ti.size := Nat.mul_le_mul_right _ hcap
                rw [Nat.add_mul] at this
                rw [hs.newsLen]; omega
              have f2 : ∀ j, j < vs.length → (w.cell? ⟨cb, 0 + len * ti.size + j, none⟩).isSome = true := by
                intro j hj
                unfold World.cell?; rw [p1]
                show (cs[0 + len * ti.size + j]?).isSome = true
                rw [Array.getElem?_eq_getElem (by omega)]; rfl
              have f3 : ∀ j, j < vs.length → w.frozen? ⟨cb, 0 + len * ti.size + j, none⟩ = false := by
                intro j hj
                unfold World.frozen?; rw [p1]
                have := p2 (0 + len * ti.size + j) (by omega)
                simp only [Bool.and_eq_false_iff, decide_eq_false_iff_not]
                omega
              have hrun := room (b := b) (β := β) (off := 0) hs hcap f2 f3
              refine ⟨_, _, _, by show (Builtin.append_ ts ty #[_, y]).run P w = _; rw [harg]; exact hrun, Stp.moved hr hbl o1 (setCells_size ..) (fun i hi hne => World.heap_setCells_other w cb _ vs hi hne) (World.os_setCells ..) (setCells_tape ..) (World.output_setCells ..) ?_, ?_⟩
              · rw [Nat.zero_add, setCells_heap vs _ w cb cs _ fz p1]
                have hol : old.length = os.length := conL_len o2
                have hnl : new.length = vs.length := conL_len e1
                refine ⟨_, fz, rfl, fun i hi => p2 i (by rwa [setA_size] at hi), fun i hi => ?_, by rw [setA_size, List.length_append]; omega, (fun h => by cases h), fun _ => by rw [setA_size]; exact p7⟩
                rw [List.length_append] at hi
                rw [get_putL, if_pos ⟨Nat.zero_le _, by rw [List.length_append]; omega⟩, Nat.sub_zero, setA_get vs cs _ i hfits]
                by_cases h5 : i < old.length
                · rw [if_neg (by omega), List.getElem?_append_left h5]
                  obtain ⟨u, u1, u2⟩ := conL_get o2 (List.getElem?_eq_getElem h5)
                  refine ⟨_, u, List.getElem?_eq_getElem h5, ?_, con_mono (upd_le (hr.fresh nx (Nat.le_refl _))) u2, o3 u (List.mem_iff_getElem?.2 ⟨_, u1⟩)⟩
                  have := o5 i u u1
                  unfold World.cell? at this
                  rw [p1] at this
                  simpa using this
                · rw [if_pos (by omega), List.getElem?_append_right (by omega)]
                  have h6 : i - old.length < new.length := by omega
                  obtain ⟨u, u1, u2⟩ := conL_get e1 (List.getElem?_eq_getElem h6)
                  refine ⟨_, u, List.getElem?_eq_getElem h6, ?_, con_mono (upd_le (hr.fresh nx (Nat.le_refl _))) u2, hs.one u (List.mem_iff_getElem?.2 ⟨_, u1⟩)⟩
                  rw [← u1]; congr 1; omega
              · rw [con_slice_mk (upd_same ..) (.inr (by omega))]; rfl
            · have hfit : Builtin.nextslicecap (len + n) κ * ti.bytes ≤ 281474976710656 := growslice_fits (by omega) (by
                have : (len + n) * ti.bytes ≤ 65536 * 65536 := Nat.mul_le_mul hneed hby
                omega)
              have hr2 : HR β (.mk (t'.set (path b) none) nx (min low b)) w := hr.forget (Nat.min_le_left _ _)
              obtain ⟨β', s1, s2⟩ := hall β w os vs (grownCap w (len + n) κ e') hr2 o2 e1 o3 hs.one (by rw [o4, hs.newsLen, ← Nat.add_mul]) (grownCap_ge ..)
              refine ⟨β', _, _, by show (Builtin.append_ ts ty #[_, y]).run P w = _; rw [harg]; exact run_append_grow_src (P := P) w t tx ty e' ti z hd hti hz (some ⟨cb, 0, none⟩) len κ os (run_first o4 (fun j v hv => by rw [Addr.add_lit]; exact o5 j v hv)) y n vs (hs.src hk) (by omega) (by omega) hfit, (Stp.forget hr (Nat.min_le_left _ _)).trans hr s1, s2⟩
    · cases Hc
  · cases H
theorem copyK_yes {ts : Array TypeId} {ty : TypeId} {d x : AV} {h : Hp} {k : AK} (H : copyK P ts d x h k = .yes) : ∃ v h', k v h' = .yes ∧ Sem2 P (fun a b => Builtin.copy_ ts ty #[a, b]) d x h v h' := by
  unfold copyK at H
  split at H
  · rename_i e hts
    obtain ⟨t, h0, hd⟩ := Option.bind_eq_some_iff.1 hts
    obtain ⟨ti, hti, Ha⟩ := sizeK_yes H
    obtain ⟨n, l, Hb, hsr⟩ := sourceK_yes (P := P) Ha
    clear H Ha
    split at Hb
    · rename_i b off len ex c
      simp only [natMin_eq, fNat_eq, takeK_eq] at Hb
      obtain ⟨t', nx, low, e', m, ct, ex', sz', rfl, g1, g2, H⟩ := putK_yes Hb
      refine ⟨_, _, H, fun β w a y hr ha hy => ?_⟩
      obtain ⟨vs, e1, hs⟩ := hsr β w y hr hy
      have e1' := conL_take (min n len * ti.size) e1
      have hone : ∀ u ∈ vs.take (min n len * ti.size), u.oneCell' = true := fun u hu => hs.one u (List.mem_of_mem_take hu)
      obtain ⟨cb, κ, f1, f2, f3, f4⟩ := put_stp hr g1 g2 e1' hone
      obtain ⟨c', κ', e6, rfl⟩ := con_slice ha
      rw [f1] at e6; injection e6 with e6; injection e6 with e6 e7; subst e6
      refine ⟨β, _, .int .i64 ((min n len : Nat) : Int), ?_, f4, rfl⟩
      have hst := run_storeCells_cells (P := P) cb off (vs.take (min n len * ti.size)) 0 w (by simpa using f2) (by simpa using f3) hone
      simp only [Nat.add_zero] at hst
      show (Builtin.copy_ ts ty #[_, y]).run P w = _
      unfold Builtin.copy_
      rw [h0]
      simp only [Sem.run_bind, run_underlying hd, Result.andThen_ok, hs.len, sizeOf, typeInfo, run_program, hti, Sem.run_pure, List.getElem?_toArray, List.getElem?_cons_zero, List.getElem?_cons_succ]
      rw [show Nat.min n len = min n len from rfl, hs.cells _ (Nat.min_le_left _ _)]
      simp only [Result.andThen_ok, hst, goInt]
    · rename_i c'
      refine ⟨_, _, Hb, fun β w a y hr ha hy => ?_⟩
      obtain ⟨vs, e1, hs⟩ := hsr β w y hr hy
      obtain ⟨rfl, -⟩ := con_raw ha
      refine ⟨β, w, .int .i64 0, ?_, .refl hr, rfl⟩
      show (Builtin.copy_ ts ty #[_, y]).run P w = _
      unfold Builtin.copy_
      rw [h0]
      simp only [Sem.run_bind, run_underlying hd, Result.andThen_ok, hs.len, sizeOf, typeInfo, run_program, hti, Sem.run_pure, List.getElem?_toArray, List.getElem?_cons_zero, List.getElem?_cons_succ]
      rw [show Nat.min n 0 = 0 from Nat.min_zero n, hs.cells 0 (Nat.zero_le _)]
      rfl
    · cases Hb
  · cases H
end Go.Ev
