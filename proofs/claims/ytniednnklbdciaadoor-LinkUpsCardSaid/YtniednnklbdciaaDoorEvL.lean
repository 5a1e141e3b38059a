/- The evaluator's operations are the model's: slices that are made, cut, appended to. -/
import Derived.Test.YtniednnklbdciaaDoorEvK
set_option linter.unusedVariables false
set_option linter.unusedSectionVars false
set_option linter.unusedSimpArgs false
namespace Go.Ev
variable [Sg]
open Go.RowKit
variable {P : Program}

theorem repK_eq (n : Nat) (zl : List AV) (k : List AV → Ans) : repK n zl k = k (List.replicate n zl).flatten := by
  induction n generalizing k with
  | zero => rfl
  | succ n ih =>
    show repK n zl (fun r => catK zl r k) = _
    rw [ih, catK_eq, List.replicate_succ, List.flatten_cons]
theorem range_rep (z : Array Value) (hz : 0 < z.size) : ∀ n : Nat, ((List.range (n * z.size)).map fun i => z[i % z.size]!) = (List.replicate n z.toList).flatten
  | 0 => by simp
  | n + 1 => by
    rw [List.replicate_succ', List.flatten_concat, ← range_rep z hz n, Nat.succ_mul, List.range_add, List.map_append, List.map_map]
    congr 1
    apply List.ext_getElem
    · simp
    · intro i h1 h2
      have hi : i < z.size := by simpa using h1
      simp [Function.comp_def, Nat.mod_eq_of_lt hi, hi]
theorem conL_rep {β : Bt} {l : List AV} {vs : List Value} (h : conL β l = some vs) : ∀ n, conL β (List.replicate n l).flatten = some (List.replicate n vs).flatten
  | 0 => rfl
  | n + 1 => by rw [List.replicate_succ, List.flatten_cons, List.replicate_succ, List.flatten_cons]; exact conL_append h (conL_rep h n)
/-- Zeros. -/
theorem zerosK_yes {e : TypeId} {sz n : Nat} {k : List AV → Ans} (H : zerosK P e sz n k = .yes) :
    ∃ l, k l = .yes ∧ l.length = n * sz ∧ ((n = 0 ∧ l = []) ∨ (0 < n ∧ 0 < sz ∧ ∃ i z, P.info? e = some i ∧ i.zero = some z ∧ z.cells.size = sz ∧ ∀ β, conL β l = some (List.replicate n z.cells.toList).flatten ∧ ∀ u ∈ (List.replicate n z.cells.toList).flatten, u.oneCell' = true)) := by
  cases n with
  | zero => exact ⟨[], H, by simp, .inl ⟨rfl, rfl⟩⟩
  | succ n =>
    obtain ⟨i, z, av, hi, hz, hc, H⟩ := zeroK_yes H
    obtain ⟨zl, H, hv⟩ := cells_yes H
    rw [lenK_eq] at H
    obtain ⟨h1, H⟩ := cnd_yes H
    obtain ⟨h2, H⟩ := cnd_yes H
    rw [repK_eq] at H
    have h1' := Nat.eq_of_beq_eq_true h1
    have h2' : 0 < sz := by simpa using h2
    obtain ⟨vs0, e1, e2, e3⟩ := hv (fun _ => none) z (hc _)
    have hl := conL_len e1
    refine ⟨_, H, by simp [List.length_flatten, h1'], .inr ⟨by omega, h2', i, z, hi, hz, by rw [e2]; simp; omega, fun β => ?_⟩⟩
    obtain ⟨vs, f1, f2, f3⟩ := hv β z (hc β)
    rw [f2]
    refine ⟨conL_rep f1 _, fun u hu => ?_⟩
    obtain ⟨l, hl1, hl2⟩ := List.mem_flatten.1 hu
    rw [(List.mem_replicate.1 hl1).2] at hl2
    exact f3 u (by simpa using hl2)
theorem buildSliceK_yes {t : TypeId} {n : Nat} {ps : List Nat} {xs : List AV} {h : Hp} {k : AK} (H : buildSliceK P t n ps xs h k = .yes) :
    ∃ v h', k v h' = .yes ∧ ∀ β w (vs : List Value), HR β h w → conL β xs = some vs → ∃ β' w' u, (Instr.buildSlice t n (ps.zip vs).toArray).run P w = .ok u w' ∧ Stp β h w β' h' w' ∧ con β' v = some u := by
  unfold buildSliceK at H
  split at H
  · rename_i e hd
    obtain ⟨ti, hti, H⟩ := sizeK_yes H
    obtain ⟨hsm, H⟩ := cnd_yes H
    have hsm' : n * ti.size ≤ 65536 := by simpa using hsm
    obtain ⟨zl, H, hzlen, hz⟩ := zerosK_yes H
    simp only [lenK_eq, writeL_eq] at H
    obtain ⟨c', H, hf⟩ := fillK_yes (pm := fun j => some (j * ti.size, ti.size)) (size := zl.length) (fun j r hr => by
      rw [fNat_eq] at hr
      obtain ⟨h1, hr⟩ := cnd_yes hr
      exact ⟨_, _, rfl, by simpa using h1, hr⟩) H
    obtain ⟨l, H, hl⟩ := aggOf_yes H
    cases h with
    | mk t' nx low =>
      rw [newK_eq] at H
      refine ⟨_, _, H, fun β w vs hr hx => ?_⟩
      have fin : ∀ zs : List Value, conL β zl = some zs → (∀ u ∈ zs, u.oneCell' = true) → (∀ cs', Instr.fill (fun i => some (i * ti.size, ti.size)) zs.toArray (ps.zip vs) = some cs' → (Instr.buildSlice t n (ps.zip vs).toArray).run P w = ((newRow e cs').run P w).andThen fun a w' => .ok (.slice (some a) n n) w') →
          ∃ β' w' u, (Instr.buildSlice t n (ps.zip vs).toArray).run P w = .ok u w' ∧ Stp β (.mk t' nx low) w β' (.mk (t'.set (path nx) (some (.cells e l.length (putL l 0 .leaf) true ti.size))) (nx + 1) low) w' ∧ con β' (.slice nx 0 n true n) = some u := by
        intro zs e1 e2 e3
        have hzl := conL_len e1
        obtain ⟨cs', f1, f2, f3⟩ := hf β vs zs.toArray hx (TrR.start e1 e2) (by simp [hzl])
        obtain ⟨g1, g2⟩ := hl β cs' f2 f3
        obtain ⟨β', w', r1, r2, r3⟩ := newRow_of (P := P) (e := e) (sz := ti.size) hr g1 g2 (rfl : true = true)
        refine ⟨β', w', _, ?_, r2, con_slice_mk r3 (.inl rfl)⟩
        rw [e3 cs' f1, show cs' = cs'.toList.toArray by simp, r1]
        rfl
      rcases hz with ⟨rfl, rfl⟩ | ⟨h0, h1, i, z, hi, hzz, hzs, hb⟩
      · refine fin [] rfl (fun u hu => by cases hu) fun cs' hcs => ?_
        unfold Instr.buildSlice sizeOf typeInfo
        simp only [Sem.run_bind, run_program, Result.andThen_ok, hti, Sem.run_pure, run_underlying hd]
        rw [if_neg (by omega), if_pos (by omega)]
        simp only [Sem.run_bind, Sem.run_pure, Result.andThen_ok]
        rw [show ((Array.range (0 * ti.size)).map fun x => (#[] : Array Value)[x % (#[] : Array Value).size]!) = ([] : List Value).toArray by simp, hcs]
        simp only [Sem.run_bind, Sem.run_pure, Result.andThen_ok]
      · rw [hti] at hi; injection hi with hi; subst hi
        refine fin _ (hb β).1 (hb β).2 fun cs' hcs => ?_
        have hr' : ((Array.range (n * ti.size)).map fun x => z.cells[x % z.cells.size]!) = (List.replicate n z.cells.toList).flatten.toArray := by
          apply Array.ext'
          rw [← range_rep z.cells (by omega) n, hzs]
          simp
        unfold Instr.buildSlice sizeOf zeroValue typeInfo
        simp only [Sem.run_bind, run_program, Result.andThen_ok, hti, Sem.run_pure, run_underlying hd]
        rw [if_neg (by omega), if_neg (Nat.mul_ne_zero (by omega) (by omega))]
        simp only [Sem.run_bind, Sem.run_pure, Result.andThen_ok, run_program, hti, hzz]
        rw [hr', hcs]
        simp only [Sem.run_bind, Sem.run_pure, Result.andThen_ok]
  · cases H
end Go.Ev
