/- The evaluator's operations are the model's: slices, on. -/
import Derived.Test.YtniednnklbdciaaDoorEvL
set_option linter.unusedVariables false
set_option linter.unusedSectionVars false
set_option linter.unusedSimpArgs false
namespace Go.Ev
variable [Sg]
open Go.RowKit
variable {P : Program}

theorem makeSliceK_yes {t : TypeId} {x y : AV} {h : Hp} {k : AK} (H : makeSliceK P t x y h k = .yes) : ∃ v h', k v h' = .yes ∧ Sem2 P (Instr.makeSlice t) x y h v h' := by
  unfold makeSliceK at H
  split at H
  · rename_i e hd
    obtain ⟨n, hn, H⟩ := natOf_yes H
    obtain ⟨c, hc, H⟩ := natOf_yes H
    obtain ⟨ti, hti, H⟩ := sizeK_yes H
    obtain ⟨h1, H⟩ := cnd_yes H
    obtain ⟨h2, H⟩ := cnd_yes H
    obtain ⟨h3, H⟩ := cnd_yes H
    have h1' : n ≤ c := by simpa using h1
    have h2' : c ≤ 65536 := by simpa using h2
    have h3' : ti.bytes ≤ 65536 := by unfold makeSliceK.smallB at h3; rw [hti] at h3; simpa using h3
    obtain ⟨zl, H, hzlen, hz⟩ := zerosK_yes H
    cases h with
    | mk t' nx low =>
      rw [newK_eq] at H
      refine ⟨_, _, H, fun β w a b hr ha hb => ?_⟩
      obtain ⟨q, rfl⟩ := hn β a ha
      obtain ⟨q', rfl⟩ := hc β b hb
      have hwn : IntKind.i64.wrap (n : Int) = n := i64_lit (by omega)
      have hwc : IntKind.i64.wrap (c : Int) = c := i64_lit (by omega)
      have hbb : (ti.bytes : Int) * (c : Int) ≤ 4294967296 := by
        have : ti.bytes * c ≤ 65536 * 65536 := Nat.mul_le_mul h3' h2'
        have e : ((ti.bytes * c : Nat) : Int) = (ti.bytes : Int) * (c : Int) := by simp
        omega
      have fin : ∀ zs : List Value, conL β zl = some zs → (∀ u ∈ zs, u.oneCell' = true) → (Instr.makeSlice t (.int q n) (.int q' c)).run P w = ((newRow e zs.toArray).run P w).andThen (fun a w' => .ok (.slice (some a) n c) w') →
          ∃ β' w' u, (Instr.makeSlice t (.int q n) (.int q' c)).run P w = .ok u w' ∧ Stp β (.mk t' nx low) w β' (.mk (t'.set (path nx) (some (.cells e zl.length (putL zl 0 .leaf) true ti.size))) (nx + 1) low) w' ∧ con β' (.slice nx 0 n true c) = some u := by
        intro zs e1 e2 e3
        obtain ⟨β', w', r1, r2, r3⟩ := newRow_of (P := P) (e := e) (sz := ti.size) hr e1 e2 (rfl : true = true)
        refine ⟨β', w', _, ?_, r2, con_slice_mk r3 (.inl rfl)⟩
        rw [e3, r1]
        rfl
      have hbig : ¬ ((ti.bytes : Int) * (c : Int) > 2 ^ 48) := by
        have : (2 : Int) ^ 48 = 281474976710656 := by decide
        omega
      have hcond : ((((decide ((c : Int) < 0) || decide ((ti.bytes : Int) * (c : Int) > 2 ^ 48)) || decide ((n : Int) < 0)) || decide ((n : Int) > (c : Int))) = true) = False := by
        simp only [Bool.or_eq_true, decide_eq_true_eq, eq_iff_iff, iff_false]
        omega
      rcases hz with ⟨rfl, rfl⟩ | ⟨h0, h1, i, z, hi, hzz, hzs, hb⟩
      · refine fin [] rfl (fun u hu => by cases hu) ?_
        unfold Instr.makeSlice sizeOf typeInfo asInt
        simp only [Sem.run_bind, run_program, Result.andThen_ok, hti, Sem.run_pure, run_underlying hd, run_index_int, hwn, hwc, Sem.run_ite, run_askRoom]
        rw [if_neg (by rw [hcond]; exact id)]
        simp
        rw [show Array.range 0 = #[] from rfl, Array.map_empty]
      · rw [hti] at hi; injection hi with hi; subst hi
        refine fin _ (hb β).1 (hb β).2 ?_
        have hr' : ((Array.range (c * ti.size)).map fun x => z.cells[x % z.cells.size]!) = (List.replicate c z.cells.toList).flatten.toArray := by
          apply Array.ext'
          rw [← range_rep z.cells (by omega) c, hzs]
          simp
        unfold Instr.makeSlice sizeOf zeroValue typeInfo asInt
        simp only [Sem.run_bind, run_program, Result.andThen_ok, hti, Sem.run_pure, run_underlying hd, run_index_int, hwn, hwc, Sem.run_ite, run_askRoom]
        rw [if_neg (by rw [hcond]; exact id)]
        simp only [Int.toNat_natCast]
        rw [if_neg (Nat.mul_ne_zero (by omega) (by omega))]
        simp only [hzz, Sem.run_pure, Result.andThen_ok, hr']
  · cases H
theorem run_bound {x : Value} {q : IntKind} {i y : Nat} {c : BoundsCode} {w : World} (hx : x = .int q i) (h : i ≤ y) : (Instr.sliceBound x y c).run P w = .ok i w := by
  subst hx
  unfold Instr.sliceBound
  simp only [Sem.run_bind, run_index_int, Result.andThen_ok]
  rw [if_pos ⟨by omega, by omega⟩]
  simp
/-- Bounds, as they are told: each is a number, or is not told. -/
def BdR (x : Option Value) (n d : Nat) : Prop := (x = none ∧ n = d) ∨ ∃ q, x = some (.int q (n : Int))
/-- Operands of a cut. -/
def OptR (β : Bt) (x : Option AV) (v : Option Value) : Prop := match x, v with | none, none => True | some y, some v => con β y = some v | _, _ => False
theorem bd_of {β : Bt} {x : Option AV} {n d : Nat} (h : (x = none ∧ n = d) ∨ ∃ y, x = some y ∧ ∀ β v, con β y = some v → ∃ q, v = .int q n) {v : Option Value} (hv : OptR β x v) : BdR v n d := by
  rcases h with ⟨rfl, rfl⟩ | ⟨y, rfl, h⟩
  · cases v with
    | none => exact .inl ⟨rfl, rfl⟩
    | some v => exact hv.elim
  · cases v with
    | none => exact hv.elim
    | some v =>
      obtain ⟨q, rfl⟩ := h β v hv
      exact .inr ⟨q, rfl⟩
theorem run_bounds {isS : Bool} {len cap l h m : Nat} {lo hi mx : Option Value} {w : World} (hlo : BdR lo l 0) (hhi : BdR hi h len) (hmx : BdR mx m cap) (h1 : m ≤ cap) (h2 : h ≤ m) (h3 : l ≤ h) (hm : mx.isSome = true → hi.isSome = true) :
    (Instr.sliceBounds isS len cap lo hi mx).run P w = .ok (l, h, m) w := by
  unfold Instr.sliceBounds
  rcases hlo with ⟨rfl, rfl⟩ | ⟨q1, rfl⟩ <;> rcases hhi with ⟨rfl, rfl⟩ | ⟨q2, rfl⟩ <;> rcases hmx with ⟨rfl, rfl⟩ | ⟨q3, rfl⟩ <;>
    first
      | (simp at hm; done)
      | (simp only [Sem.run_bind, Sem.run_pure, Result.andThen_ok, run_bound rfl h1, run_bound rfl h2, run_bound rfl h3])
theorem extract_bytes (l : List Nat) (a b : Nat) (hb : b ≤ l.length) (hab : a ≤ b) : (bytesOf l).extract a b = bytesOf ((l.drop a).take (b - a)) := by
  unfold bytesOf
  apply ByteArray.ext
  simp [ByteArray.extract, ByteArray.copySlice, List.extract_eq_take_drop]
theorem sliceK_yes {t : TypeId} {x : AV} {lo hi mx : Option AV} {k : AV → Ans} (hm : mx.isSome = true → hi.isSome = true) (H : sliceK P t x lo hi mx k = .yes) :
    ∃ v, k v = .yes ∧ ∀ β w a (lo' hi' mx' : Option Value), con β x = some a → OptR β lo lo' → OptR β hi hi' → OptR β mx mx' → ∃ u, (Instr.sliceAt t a lo' hi' mx').run P w = .ok u w ∧ con β v = some u := by
  have hm' : ∀ {β : Bt} {hi' mx' : Option Value}, OptR β hi hi' → OptR β mx mx' → mx'.isSome = true → hi'.isSome = true := by
    intro β hi' mx' h1 h2 h3
    cases mx' with
    | none => cases h3
    | some v =>
      cases mx with
      | none => exact h2.elim
      | some y =>
        have := hm rfl
        cases hi with
        | none => cases this
        | some z =>
          cases hi' with
          | none => exact h1.elim
          | some z' => rfl
  unfold sliceK at H
  split at H
  · rename_i n l hd
    split at H
    · cases H
    · obtain ⟨a, H, ha⟩ := optOf_yes H
      obtain ⟨b, H, hb⟩ := optOf_yes H
      obtain ⟨h1, H⟩ := cnd_yes H
      obtain ⟨h2, H⟩ := cnd_yes H
      have h1' : b ≤ n := by simpa using h1
      have h2' : a ≤ b := by simpa using h2
      simp only [dropK_eq, fNat_eq, takeK_eq] at H
      refine ⟨_, H, fun β w v lo' hi' mx' hv r1 r2 r3 => ?_⟩
      obtain ⟨rfl, h3, h4⟩ := con_str_inv hv
      have e3 : mx' = none := by cases mx' with | none => rfl | some _ => exact r3.elim
      subst e3
      refine ⟨.string ((bytesOf l).extract a b), ?_, ?_⟩
      · have hs := run_bounds (P := P) (isS := false) (len := (bytesOf l).size) (cap := (bytesOf l).size) (w := w) (bd_of ha r1) (by rw [bytesOf_size, ← h3]; exact bd_of hb r2) (mx := none) (m := (bytesOf l).size) (.inl ⟨rfl, rfl⟩) (Nat.le_refl _) (by rw [bytesOf_size]; omega) h2' (by simp)
        unfold Instr.sliceAt
        simp only [Sem.run_bind, run_underlying hd, Result.andThen_ok]
        unfold Instr.slice
        simp only [Sem.run_bind, run_underlying hd, Result.andThen_ok, Option.isSome_none, Bool.false_eq_true, if_false, hs, Sem.run_pure]
      · rw [extract_bytes l a b (by omega) h2']
        refine con_str_mk (by simp; omega) ?_
        rw [List.all_eq_true] at h4 ⊢
        exact fun y hy => h4 y (List.mem_of_mem_drop (List.mem_of_mem_take hy))
  · rename_i e hd
    obtain ⟨ti, hti, H⟩ := sizeK_yes H
    obtain ⟨a, H, ha⟩ := optOf_yes H
    obtain ⟨b, H, hb⟩ := optOf_yes H
    obtain ⟨m, H, hc⟩ := optOf_yes H
    obtain ⟨h1, H⟩ := cnd_yes H
    have h1' := Nat.eq_of_beq_eq_true h1
    obtain rfl : a = 0 := by omega
    obtain rfl : b = 0 := by omega
    obtain rfl : m = 0 := by omega
    refine ⟨_, H, fun β w v lo' hi' mx' hv r1 r2 r3 => ⟨.slice none 0 0, ?_, rfl⟩⟩
    obtain ⟨rfl, -⟩ := con_raw hv
    have hs := run_bounds (P := P) (isS := true) (len := 0) (cap := 0) (w := w) (bd_of ha r1) (bd_of hb r2) (bd_of hc r3) (Nat.le_refl _) (Nat.le_refl _) (Nat.le_refl _) (hm' r2 r3)
    unfold Instr.sliceAt
    simp only [Sem.run_bind, run_underlying hd, Result.andThen_ok]
    unfold Instr.slice
    simp only [Sem.run_bind, run_underlying hd, Result.andThen_ok, hs, sizeOf, typeInfo, run_program, hti, Sem.run_pure]
    rfl
  · rename_i e b off len c hd
    obtain ⟨ti, hti, H⟩ := sizeK_yes H
    obtain ⟨m, H, hc⟩ := optOf_yes H
    obtain ⟨q, H, hb⟩ := optOf_yes H
    obtain ⟨a, H, ha⟩ := optOf_yes H
    obtain ⟨h1, H⟩ := cnd_yes H
    obtain ⟨h2, H⟩ := cnd_yes H
    obtain ⟨h3, H⟩ := cnd_yes H
    have h1' : m ≤ c := by simpa using h1
    have h2' : q ≤ m := by simpa using h2
    have h3' : a ≤ q := by simpa using h3
    simp only [fNat_eq] at H
    have hrun : ∀ β w v lo' hi' mx', con β (.slice b off len true c) = some v → OptR β lo lo' → OptR β hi hi' → OptR β mx mx' → ∃ cb κ, β b = some (cb, κ) ∧ (Instr.sliceAt t v lo' hi' mx').run P w = .ok (.slice (some (if m = a then ⟨cb, off, none⟩ else ⟨cb, off + a * ti.size, none⟩)) (q - a) (m - a)) w := by
      intro β w v lo' hi' mx' hv r1 r2 r3
      obtain ⟨cb, κ, e1, rfl⟩ := con_slice hv
      refine ⟨cb, κ, e1, ?_⟩
      have hs := run_bounds (P := P) (isS := true) (len := len) (cap := c) (w := w) (bd_of ha r1) (bd_of hb r2) (bd_of hc r3) h1' h2' h3' (hm' r2 r3)
      unfold Instr.sliceAt
      simp only [Sem.run_bind, run_underlying hd, Result.andThen_ok]
      unfold Instr.slice
      simp only [Sem.run_bind, run_underlying hd, Result.andThen_ok, if_true, hs, sizeOf, typeInfo, run_program, hti, Sem.run_pure]
      congr 2
      split
      · rfl
      · simp [Addr.add_lit]
    rw [cnd_eq] at H
    split at H
    · rename_i hma
      have hma' := Nat.eq_of_beq_eq_true hma
      refine ⟨_, H, fun β w v lo' hi' mx' hv r1 r2 r3 => ?_⟩
      obtain ⟨cb, κ, e1, e2⟩ := hrun β w v lo' hi' mx' hv r1 r2 r3
      rw [if_pos hma'] at e2
      exact ⟨_, e2, con_slice_mk e1 (.inl rfl)⟩
    · rename_i hma
      have hma' : ¬ m = a := fun e => hma (by rw [e]; exact Nat.beq_refl a)
      refine ⟨_, H, fun β w v lo' hi' mx' hv r1 r2 r3 => ?_⟩
      obtain ⟨cb, κ, e1, e2⟩ := hrun β w v lo' hi' mx' hv r1 r2 r3
      rw [if_neg hma'] at e2
      exact ⟨_, e2, con_slice_mk e1 (.inl rfl)⟩
  · rename_i e b off len c hd
    obtain ⟨ti, hti, H⟩ := sizeK_yes H
    split at H
    · cases H
    obtain ⟨q, H, hb⟩ := optOf_yes H
    obtain ⟨a, H, ha⟩ := optOf_yes H
    obtain ⟨h2, H⟩ := cnd_yes H
    obtain ⟨h3, H⟩ := cnd_yes H
    have h2' : q ≤ len := by simpa using h2
    have h3' : a ≤ q := by simpa using h3
    have hrun : ∀ β w v lo' hi' mx', con β (.slice b off len false c) = some v → OptR β lo lo' → OptR β hi hi' → OptR β none mx' → ∃ cb κ, β b = some (cb, κ) ∧ c + len ≤ κ ∧ (Instr.sliceAt t v lo' hi' mx').run P w = .ok (.slice (some (if κ - c = a then ⟨cb, off, none⟩ else ⟨cb, off + a * ti.size, none⟩)) (q - a) (κ - c - a)) w := by
      intro β w v lo' hi' mx' hv r1 r2 r3
      obtain ⟨cb, κ, e1, rfl, e2⟩ := con_slice' hv
      have e2' : c + len ≤ κ := by rcases e2 with h | h; cases h; exact h
      refine ⟨cb, κ, e1, e2', ?_⟩
      have e3 : mx' = none := by cases mx' with | none => rfl | some _ => exact r3.elim
      subst e3
      have hs := run_bounds (P := P) (isS := true) (len := len) (cap := κ - c) (w := w) (bd_of ha r1) (bd_of hb r2) (mx := none) (m := κ - c) (.inl ⟨rfl, rfl⟩) (Nat.le_refl _) (by omega) h3' (by simp)
      unfold Instr.sliceAt
      simp only [Sem.run_bind, run_underlying hd, Result.andThen_ok]
      unfold Instr.slice
      simp only [Sem.run_bind, run_underlying hd, Result.andThen_ok, Bool.false_eq_true, if_false, hs, sizeOf, typeInfo, run_program, hti, Sem.run_pure]
      congr 2
      split
      · rfl
      · simp [Addr.add_lit]
    rw [cnd_eq] at H
    split at H
    · rename_i hma
      have hma' := Nat.eq_of_beq_eq_true hma
      refine ⟨_, H, fun β w v lo' hi' mx' hv r1 r2 r3 => ?_⟩
      obtain ⟨cb, κ, e1, e3, e2⟩ := hrun β w v lo' hi' mx' hv r1 r2 r3
      refine ⟨_, e2, ?_⟩
      rw [con_slice_mk e1 (.inr (by omega))]
      subst hma'
      simp
    · rename_i hma
      obtain ⟨h4, H⟩ := cnd_yes H
      have h4' : a < len := by simpa using h4
      simp only [fNat_eq] at H
      refine ⟨_, H, fun β w v lo' hi' mx' hv r1 r2 r3 => ?_⟩
      obtain ⟨cb, κ, e1, e3, e2⟩ := hrun β w v lo' hi' mx' hv r1 r2 r3
      rw [if_neg (by omega)] at e2
      refine ⟨_, e2, ?_⟩
      rw [con_slice_mk e1 (.inr (by omega))]
      simp; omega
  · rename_i n e b off hd
    obtain ⟨ti, hti, H⟩ := sizeK_yes H
    obtain ⟨m, H, hc⟩ := optOf_yes H
    obtain ⟨q, H, hb⟩ := optOf_yes H
    obtain ⟨a, H, ha⟩ := optOf_yes H
    obtain ⟨h1, H⟩ := cnd_yes H
    obtain ⟨h2, H⟩ := cnd_yes H
    obtain ⟨h3, H⟩ := cnd_yes H
    have h1' : m ≤ n := by simpa using h1
    have h2' : q ≤ m := by simpa using h2
    have h3' : a ≤ q := by simpa using h3
    simp only [fNat_eq] at H
    have hrun : ∀ β w v lo' hi' mx', con β (.ptr b off) = some v → OptR β lo lo' → OptR β hi hi' → OptR β mx mx' → ∃ cb κ, β b = some (cb, κ) ∧ (Instr.sliceAt t v lo' hi' mx').run P w = .ok (.slice (some (if m = a then ⟨cb, off, none⟩ else ⟨cb, off + a * ti.size, none⟩)) (q - a) (m - a)) w := by
      intro β w v lo' hi' mx' hv r1 r2 r3
      obtain ⟨cb, κ, e1, rfl⟩ := con_ptr hv
      refine ⟨cb, κ, e1, ?_⟩
      have hs := run_bounds (P := P) (isS := false) (len := n) (cap := n) (w := w) (bd_of ha r1) (bd_of hb r2) (bd_of hc r3) h1' h2' h3' (hm' r2 r3)
      unfold Instr.sliceAt
      simp only [Sem.run_bind, run_underlying hd, Result.andThen_ok, Instr.sureAddr, Sem.run_pure, hs, sizeOf, typeInfo, run_program, hti]
      congr 2
      split
      · rfl
      · simp [Addr.add_lit]
    rw [cnd_eq] at H
    split at H
    · rename_i hma
      have hma' := Nat.eq_of_beq_eq_true hma
      refine ⟨_, H, fun β w v lo' hi' mx' hv r1 r2 r3 => ?_⟩
      obtain ⟨cb, κ, e1, e2⟩ := hrun β w v lo' hi' mx' hv r1 r2 r3
      rw [if_pos hma'] at e2
      exact ⟨_, e2, con_slice_mk e1 (.inl rfl)⟩
    · rename_i hma
      have hma' : ¬ m = a := fun e => hma (by rw [e]; exact Nat.beq_refl a)
      refine ⟨_, H, fun β w v lo' hi' mx' hv r1 r2 r3 => ?_⟩
      obtain ⟨cb, κ, e1, e2⟩ := hrun β w v lo' hi' mx' hv r1 r2 r3
      rw [if_neg hma'] at e2
      exact ⟨_, e2, con_slice_mk e1 (.inl rfl)⟩
  · cases H
end Go.Ev
