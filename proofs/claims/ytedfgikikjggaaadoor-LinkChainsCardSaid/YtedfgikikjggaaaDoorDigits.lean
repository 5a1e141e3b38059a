/- Contracts of ref8.Digits and law0.Digits: numbers in digits. -/
import Derived.Test.YtedfgikikjggaaaDoorStrs
import Derived.Lib.ItoaNum
import Derived.Deep.RegionWith
import Derived.IntWalk
set_option linter.unusedVariables false
set_option linter.unusedSimpArgs false
set_option maxRecDepth 100000
namespace Go.Proofs.YtedfgikikjggaaaDoor
open Go.RowKit

theorem lit8_one (w : World) (x : Int) (e : TypeId) (h0 : 0 ≤ x) (h1 : x ≤ 255) : Is8 (w.alloc (.cells #[.int .u8 x] e)) (.slice (some ⟨w.heap.size, 0, none⟩) 1 1) [mkB x] :=
  lit8 _ _ [mkB x] 1 e (0, 0) (by rw [heap_alloc_at, if_pos rfl, ← u8V_mk h0 h1]; rfl) rfl (by decide)
theorem mkB_dig (u : Nat) : mkB (48 + (u : Int)) = UInt8.ofNat (48 + u) := by unfold mkB; congr 1
theorem dec_small {u : Nat} (h : u < 10) : Lib.decDigits u = [mkB (48 + (u : Int))] := by rw [Lib.decDigits_one h, mkB_dig]
theorem dec_great {u : Nat} (h : ¬ u < 10) : Lib.decDigits u = Lib.decDigits (u / 10) ++ [mkB (48 + ((u % 10 : Nat) : Int))] := by
  rw [Lib.decDigits, dif_neg h, mkB_dig]
theorem dec_len (u : Nat) : 1 ≤ (Lib.decDigits u).length ∧ (Lib.decDigits u).length ≤ u + 1 := by
  induction u using Nat.strongRecOn with
  | _ u ih =>
    by_cases h : u < 10
    · rw [dec_small h]; simp
    · have := ih (u / 10) (by omega)
      rw [dec_great h]; simp; omega
theorem dec_len20 (u : Nat) (h : u < 18446744073709551616) : (Lib.decDigits u).length ≤ 100 := by
  have : ∀ (k u : Nat), u < 10 ^ (k + 1) → (Lib.decDigits u).length ≤ k + 1 := by
    intro k
    induction k with
    | zero => intro u h; rw [dec_small (by simpa using h)]; simp
    | succ k ih =>
      intro u h
      by_cases h2 : u < 10
      · rw [dec_small h2]; simp
      · have := ih (u / 10) (by rw [Nat.div_lt_iff_lt_mul (by decide), ← Nat.pow_succ]; exact h)
        rw [dec_great h2]; simp; omega
  have := this 99 u (by omega)
  omega
set_option maxHeartbeats 2000000 in
theorem lDigits_any : ∀ (k u : Nat) (w : World), u < k → u ≤ 9223372036854775807 →
    Calls Tryd.prog 17 #[.int .i64 u] w fun e w' => e = .returned (.string ⟨(Lib.decDigits u).toArray⟩) ∧ Below w.heap.size w w' := by
  intro k
  induction k with
  | zero => intro u w h; omega
  | succ k ih =>
    intro u w hk hm
    have u0 : (0 : Int) ≤ (u : Int) := by omega
    have hsh := fun (w' : World) (v : Value) (d : List UInt8) (h : Is8 w' v d) => run_toStr (P := Tryd.prog) w' 79 9 5 Tryd.underlying79 Tryd.underlying5 Tryd.underlying9 v d h
    have HSH := Lib.hid hsh
    clear hsh
    by_cases h : u < 10
    · have hI : (u : Int) < 10 := by omega
      have HE := Lib.hid (dec_small h)
      have HI := Lib.hid ih
      have H8 := Lib.hid (lit8_one w (48 + (u : Int)) 5 (by omega) (by omega))
      clear ih h
      go_enter Tryd.func17, Tryd.ntmps17
      go_wp2_with (refine wpList_toStr _ (by rfl) _ _ _ rfl 5 Tryd.underlying79 Tryd.underlying5 Tryd.underlying9 _ rfl _ H8.out ?_)
      go_ret
      exact ⟨by rw [HE.out]; rfl, ext_alloc _ _⟩
    · have hI : (10 : Int) ≤ (u : Int) := by omega
      have HE := Lib.hid (dec_great h)
      have HI : Hid (∀ w, Calls Tryd.prog 17 #[.int .i64 ((u / 10 : Nat) : Int)] w fun e w' => e = .returned (.string ⟨(Lib.decDigits (u / 10)).toArray⟩) ∧ Below w.heap.size w w') := Lib.hid (fun w => ih (u / 10) w (by omega) (by omega))
      have hl : (Lib.decDigits (u / 10)).length ≤ 100 := dec_len20 _ (by omega)
      obtain ⟨q, hq⟩ : ∃ q, u / 10 = q := ⟨_, rfl⟩
      obtain ⟨r, hr⟩ : ∃ r, u % 10 = r := ⟨_, rfl⟩
      have hr9 : r ≤ 9 := by omega
      have r0 : (0 : Int) ≤ (r : Int) := by omega
      rw [hq] at HE HI hl
      rw [hr] at HE
      have c1 : (u : Int) / 10 = (q : Int) := by omega
      have c2 : (u : Int) % 10 = (r : Int) := by omega
      have c3 : (u : Int).tdiv 10 = (q : Int) := by rw [Int.tdiv_eq_ediv_of_nonneg (by omega)]; exact c1
      have c4 : (u : Int).tmod 10 = (r : Int) := by rw [Int.tmod_eq_emod_of_nonneg (by omega)]; exact c2
      have c5 : IntKind.i64.wrap (q : Int) = (q : Int) := IntWalk.i64_in _ (by omega)
      have c6 : IntKind.i64.wrap (r : Int) = (r : Int) := IntWalk.i64_in _ (by omega)
      have c7 : IntKind.i64.wrap (48 + (r : Int)) = 48 + (r : Int) := IntWalk.i64_in _ (by omega)
      have c8 : IntKind.u8.wrap (48 + (r : Int)) = 48 + (r : Int) := by simp [IntKind.wrap, IntKind.bits, IntKind.signed]; omega
      have HL1 := Lib.hid (fun (W : World) => lit8_one W (48 + (r : Int)) 5 (by omega) (by omega))
      have hA : ∀ (W : World), (convert 79 9 (.slice (some ⟨W.heap.size, 0, none⟩) 1 1)).run Tryd.prog ((W.alloc (.cells #[.int .u8 (48 + (r : Int))] 5)).drew) = .ok (.string ⟨[mkB (48 + (r : Int))].toArray⟩) ((W.alloc (.cells #[.int .u8 (48 + (r : Int))] 5)).drew) := fun W => HSH.out _ _ _ (HL1.out W)
      have hB : ∀ (W : World), (convert 79 9 (.slice (some ⟨W.heap.size, 0, none⟩) 1 1)).run Tryd.prog (W.alloc (.cells #[.int .u8 (48 + (r : Int))] 5)) = .ok (.string ⟨[mkB (48 + (r : Int))].toArray⟩) (W.alloc (.cells #[.int .u8 (48 + (r : Int))] 5)) := fun W => HSH.out _ _ _ (HL1.out W)
      clear ih h hq hr hk
      have hl9 : (Lib.decDigits q).length + 1 ≤ 9223372036854775807 := by omega
      go_enter Tryd.func17, Tryd.ntmps17
      go_wp2_with fail
      go_region_with (go_at_call 17; (with_reducible refine (HI.out _).mono ?_); rintro e x1 ⟨rfl, hb1⟩; have HB1 := Lib.hid hb1; (first | (have g1 := HSH.out x1 (.slice (some ⟨w.heap.size, 0, none⟩) 1 1) [mkB (48 + (r : Int))] (by refine Is8.below ?_ hb1; exact HL1.out w)) | skip); clear hb1)
      all_goals
        go_wp2
        go_ret
        refine ⟨by rw [HE.out]; rfl, ?_⟩
        first
          | exact ext_trans (ext_drew w 1) (ext_trans HB1.out (ext_alloc _ _))
          | exact ext_trans (ext_trans (ext_alloc w _) (ext_drew _ 1)) HB1.out
end Go.Proofs.YtedfgikikjggaaaDoor
