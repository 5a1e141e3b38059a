/- Contracts of law8.digits and awake. -/
import Derived.Test.YtbjpmpijlddcpaaDoorIpN
import Derived.Test.YtbjpmpijlddcpaaDoorIpI
set_option linter.unusedVariables false
set_option linter.unusedSimpArgs false
namespace Go.Proofs.YtbjpmpijlddcpaaDoor
open Go.RowKit

set_option maxRecDepth 100000 in
set_option maxHeartbeats 2000000 in
theorem digits8_any : ∀ (k x : Nat) (w : World), x < k → x < 4294967296 →
    Calls Tryd.prog 15 #[.int .u32 x, .int .u32 8] w fun e w' => e = .returned (.string ⟨(digB 8 x).toArray⟩) ∧ ∃ m, w' = w.drewN m := by
  intro k
  induction k with
  | zero => intro x w h; omega
  | succ k ih =>
    intro x w hk hm
    have u0 : (0 : Int) ≤ (x : Int) := by omega
    by_cases h : x < 8
    · have hI : (x : Int) < 8 := by omega
      have HE := Lib.hid (digB_small (b := 8) h)
      have hsg : List.drop x (48 :: List.take x [49, 50, 51, 52, 53, 54, 55, 56, 57, 97, 66, 99, 68, 101, 70]) = [sgn x] := sgn_tab ⟨x, by omega⟩
      have c1 : (x : Int) + 1 ≤ 16 := by omega
      have c2 : ((x : Int) + 1).toNat = x + 1 := by omega
      clear ih h hk hm
      go_enter Tryd.func15, Tryd.ntmps15
      go_wp2_with fail
      go_ret
      exact ⟨by rw [HE.out]; first | rfl | simp, 0, rfl⟩
    · have hI : (8 : Int) ≤ (x : Int) := by omega
      have HE := Lib.hid (digB_great (b := 8) h (by decide))
      have HI : Hid (∀ w, Calls Tryd.prog 15 #[.int .u32 ((x / 8 : Nat) : Int), .int .u32 8] w fun e w' => e = .returned (.string ⟨(digB 8 (x / 8)).toArray⟩) ∧ ∃ m, w' = w.drewN m) := Lib.hid (fun w => ih (x / 8) w (by omega) (by omega))
      have hl := digB_100 (b := 8) (by unfold isBase; omega) (x / 8) (by omega)
      obtain ⟨q, hq⟩ : ∃ q, x / 8 = q := ⟨_, rfl⟩
      obtain ⟨r, hr⟩ : ∃ r, x % 8 = r := ⟨_, rfl⟩
      have hr9 : r < 8 := by omega
      have r0 : (0 : Int) ≤ (r : Int) := by omega
      rw [hq] at HE HI hl
      rw [hr] at HE
      have c1 : (x : Int) / 8 = (q : Int) := by omega
      have c2 : (x : Int) % 8 = (r : Int) := by omega
      have hsg : List.drop r (48 :: List.take r [49, 50, 51, 52, 53, 54, 55, 56, 57, 97, 66, 99, 68, 101, 70]) = [sgn r] := sgn_tab ⟨r, by omega⟩
      have c3 : (r : Int) + 1 ≤ 16 := by omega
      have c4 : ((r : Int) + 1).toNat = r + 1 := by omega
      have c5 : IntKind.u32.wrap ((r : Int) + 1) = (r : Int) + 1 := by simp [IntKind.wrap, IntKind.bits, IntKind.signed]; omega
      have c8 : IntKind.u32.wrap (q : Int) = (q : Int) := by simp [IntKind.wrap, IntKind.bits, IntKind.signed]; omega
      have c9 : IntKind.u32.wrap (r : Int) = (r : Int) := by simp [IntKind.wrap, IntKind.bits, IntKind.signed]; omega
      have d1 : r + 1 ≤ 16 := by omega
      have d2 : (r : Int) < 16 := by omega
      have d3 : r ≤ 15 := by omega
      have d4 : r < 16 := by omega
      have d5 : (r : Int) ≤ 16 := by omega
      have d6 : (r : Int) ≤ 15 := by omega
      have c6 : (r : Int) ≤ (r : Int) + 1 := by omega
      have c7 : (0 : Int) ≤ (r : Int) + 1 := by omega
      have hl9 : (digB 8 q).length + 1 ≤ 9223372036854775807 := by omega
      clear ih h hq hr hk hl
      go_enter Tryd.func15, Tryd.ntmps15
      go_wp2_with fail
      go_quiet ((go_at_call 15; exact Calls.quiet_of (HI.out _)))
      go_wp2
      go_ret
      exact ⟨by rw [HE.out]; first | rfl | simp, _, rfl⟩
set_option maxRecDepth 100000 in
set_option maxHeartbeats 2000000 in
theorem digits10_any : ∀ (k x : Nat) (w : World), x < k → x < 4294967296 →
    Calls Tryd.prog 15 #[.int .u32 x, .int .u32 10] w fun e w' => e = .returned (.string ⟨(digB 10 x).toArray⟩) ∧ ∃ m, w' = w.drewN m := by
  intro k
  induction k with
  | zero => intro x w h; omega
  | succ k ih =>
    intro x w hk hm
    have u0 : (0 : Int) ≤ (x : Int) := by omega
    by_cases h : x < 10
    · have hI : (x : Int) < 10 := by omega
      have HE := Lib.hid (digB_small (b := 10) h)
      have hsg : List.drop x (48 :: List.take x [49, 50, 51, 52, 53, 54, 55, 56, 57, 97, 66, 99, 68, 101, 70]) = [sgn x] := sgn_tab ⟨x, by omega⟩
      have c1 : (x : Int) + 1 ≤ 16 := by omega
      have c2 : ((x : Int) + 1).toNat = x + 1 := by omega
      clear ih h hk hm
      go_enter Tryd.func15, Tryd.ntmps15
      go_wp2_with fail
      go_ret
      exact ⟨by rw [HE.out]; first | rfl | simp, 0, rfl⟩
    · have hI : (10 : Int) ≤ (x : Int) := by omega
      have HE := Lib.hid (digB_great (b := 10) h (by decide))
      have HI : Hid (∀ w, Calls Tryd.prog 15 #[.int .u32 ((x / 10 : Nat) : Int), .int .u32 10] w fun e w' => e = .returned (.string ⟨(digB 10 (x / 10)).toArray⟩) ∧ ∃ m, w' = w.drewN m) := Lib.hid (fun w => ih (x / 10) w (by omega) (by omega))
      have hl := digB_100 (b := 10) (by unfold isBase; omega) (x / 10) (by omega)
      obtain ⟨q, hq⟩ : ∃ q, x / 10 = q := ⟨_, rfl⟩
      obtain ⟨r, hr⟩ : ∃ r, x % 10 = r := ⟨_, rfl⟩
      have hr9 : r < 10 := by omega
      have r0 : (0 : Int) ≤ (r : Int) := by omega
      rw [hq] at HE HI hl
      rw [hr] at HE
      have c1 : (x : Int) / 10 = (q : Int) := by omega
      have c2 : (x : Int) % 10 = (r : Int) := by omega
      have hsg : List.drop r (48 :: List.take r [49, 50, 51, 52, 53, 54, 55, 56, 57, 97, 66, 99, 68, 101, 70]) = [sgn r] := sgn_tab ⟨r, by omega⟩
      have c3 : (r : Int) + 1 ≤ 16 := by omega
      have c4 : ((r : Int) + 1).toNat = r + 1 := by omega
      have c5 : IntKind.u32.wrap ((r : Int) + 1) = (r : Int) + 1 := by simp [IntKind.wrap, IntKind.bits, IntKind.signed]; omega
      have c8 : IntKind.u32.wrap (q : Int) = (q : Int) := by simp [IntKind.wrap, IntKind.bits, IntKind.signed]; omega
      have c9 : IntKind.u32.wrap (r : Int) = (r : Int) := by simp [IntKind.wrap, IntKind.bits, IntKind.signed]; omega
      have d1 : r + 1 ≤ 16 := by omega
      have d2 : (r : Int) < 16 := by omega
      have d3 : r ≤ 15 := by omega
      have d4 : r < 16 := by omega
      have d5 : (r : Int) ≤ 16 := by omega
      have d6 : (r : Int) ≤ 15 := by omega
      have c6 : (r : Int) ≤ (r : Int) + 1 := by omega
      have c7 : (0 : Int) ≤ (r : Int) + 1 := by omega
      have hl9 : (digB 10 q).length + 1 ≤ 9223372036854775807 := by omega
      clear ih h hq hr hk hl
      go_enter Tryd.func15, Tryd.ntmps15
      go_wp2_with fail
      go_quiet ((go_at_call 15; exact Calls.quiet_of (HI.out _)))
      go_wp2
      go_ret
      exact ⟨by rw [HE.out]; first | rfl | simp, _, rfl⟩
set_option maxRecDepth 100000 in
set_option maxHeartbeats 2000000 in
theorem digits16_any : ∀ (k x : Nat) (w : World), x < k → x < 4294967296 →
    Calls Tryd.prog 15 #[.int .u32 x, .int .u32 16] w fun e w' => e = .returned (.string ⟨(digB 16 x).toArray⟩) ∧ ∃ m, w' = w.drewN m := by
  intro k
  induction k with
  | zero => intro x w h; omega
  | succ k ih =>
    intro x w hk hm
    have u0 : (0 : Int) ≤ (x : Int) := by omega
    by_cases h : x < 16
    · have hI : (x : Int) < 16 := by omega
      have HE := Lib.hid (digB_small (b := 16) h)
      have hsg : List.drop x (48 :: List.take x [49, 50, 51, 52, 53, 54, 55, 56, 57, 97, 66, 99, 68, 101, 70]) = [sgn x] := sgn_tab ⟨x, by omega⟩
      have c1 : (x : Int) + 1 ≤ 16 := by omega
      have c2 : ((x : Int) + 1).toNat = x + 1 := by omega
      clear ih h hk hm
      go_enter Tryd.func15, Tryd.ntmps15
      go_wp2_with fail
      go_ret
      exact ⟨by rw [HE.out]; first | rfl | simp, 0, rfl⟩
    · have hI : (16 : Int) ≤ (x : Int) := by omega
      have HE := Lib.hid (digB_great (b := 16) h (by decide))
      have HI : Hid (∀ w, Calls Tryd.prog 15 #[.int .u32 ((x / 16 : Nat) : Int), .int .u32 16] w fun e w' => e = .returned (.string ⟨(digB 16 (x / 16)).toArray⟩) ∧ ∃ m, w' = w.drewN m) := Lib.hid (fun w => ih (x / 16) w (by omega) (by omega))
      have hl := digB_100 (b := 16) (by unfold isBase; omega) (x / 16) (by omega)
      obtain ⟨q, hq⟩ : ∃ q, x / 16 = q := ⟨_, rfl⟩
      obtain ⟨r, hr⟩ : ∃ r, x % 16 = r := ⟨_, rfl⟩
      have hr9 : r < 16 := by omega
      have r0 : (0 : Int) ≤ (r : Int) := by omega
      rw [hq] at HE HI hl
      rw [hr] at HE
      have c1 : (x : Int) / 16 = (q : Int) := by omega
      have c2 : (x : Int) % 16 = (r : Int) := by omega
      have hsg : List.drop r (48 :: List.take r [49, 50, 51, 52, 53, 54, 55, 56, 57, 97, 66, 99, 68, 101, 70]) = [sgn r] := sgn_tab ⟨r, by omega⟩
      have c3 : (r : Int) + 1 ≤ 16 := by omega
      have c4 : ((r : Int) + 1).toNat = r + 1 := by omega
      have c5 : IntKind.u32.wrap ((r : Int) + 1) = (r : Int) + 1 := by simp [IntKind.wrap, IntKind.bits, IntKind.signed]; omega
      have c8 : IntKind.u32.wrap (q : Int) = (q : Int) := by simp [IntKind.wrap, IntKind.bits, IntKind.signed]; omega
      have c9 : IntKind.u32.wrap (r : Int) = (r : Int) := by simp [IntKind.wrap, IntKind.bits, IntKind.signed]; omega
      have d1 : r + 1 ≤ 16 := by omega
      have d2 : (r : Int) < 16 := by omega
      have d3 : r ≤ 15 := by omega
      have d4 : r < 16 := by omega
      have d5 : (r : Int) ≤ 16 := by omega
      have d6 : (r : Int) ≤ 15 := by omega
      have c6 : (r : Int) ≤ (r : Int) + 1 := by omega
      have c7 : (0 : Int) ≤ (r : Int) + 1 := by omega
      have hl9 : (digB 16 q).length + 1 ≤ 9223372036854775807 := by omega
      clear ih h hq hr hk hl
      go_enter Tryd.func15, Tryd.ntmps15
      go_wp2_with fail
      go_quiet ((go_at_call 15; exact Calls.quiet_of (HI.out _)))
      go_wp2
      go_ret
      exact ⟨by rw [HE.out]; first | rfl | simp, _, rfl⟩
theorem p1 : parseL (splitB 46 (trimL [48, 120, 55, 102, 46, 49])) 4 0 = (2130706433, true) := by decide +kernel
theorem p2 : parseL (splitB 46 (trimL [49, 46, 50, 46, 51, 46, 50, 53, 54])) 4 0 = (0, false) := by decide +kernel
theorem p3 : showL 2130706433 = [49, 50, 55, 46, 48, 46, 48, 46, 49] := by
  unfold showL
  rw [digB_dec, digB_dec, digB_dec, digB_dec]
  rw [show digB 10 (q0 2130706433) = [49, 50, 55] by unfold q0; rw [digB_great (by decide) (by decide), digB_great (by decide) (by decide), digB_small (by decide)]; decide +kernel]
  rw [show digB 10 (q1 2130706433) = [48] by unfold q1; rw [digB_small (by decide)]; decide +kernel]
  rw [show digB 10 (q2 2130706433) = [48] by unfold q2; rw [digB_small (by decide)]; decide +kernel]
  rw [show digB 10 (q3 2130706433) = [49] by unfold q3; rw [digB_small (by decide)]; decide +kernel]
  rfl
theorem ends_is (l : List UInt8) : endsB ((trimL l).drop (lastK (trimL l))) = endsB (lastP l) := by
  unfold lastP; rw [splitB_lastK]
theorem p4 : endsB (lastP [97, 46, 48, 120]) = true := by decide +kernel
theorem p5 : endsB (lastP [97, 46, 98]) = false := by decide +kernel
/-- Ends, in the words of the last part. -/
theorem Ends2_any (l : List UInt8) (w : World) (hm : l.length ≤ 1000000) :
    Calls Tryd.prog 10 #[.string ⟨l.toArray⟩] w fun e w' => e = .returned (.bool (endsB (lastP l))) ∧ w = w' := by
  rw [← ends_is]; exact Ends_any l w hm
set_option maxHeartbeats 1000000 in
theorem awake8_any (w : World) (htab : Tab w) :
    Calls Tryd.prog 7 #[] w fun e w' => e = .returned (.bool true) ∧ Below w.heap.size w w' := by
  have HT := Lib.hid htab
  clear htab
  go_enter Tryd.func7, Tryd.ntmps7
  go_wp2_with fail
  refine (Parse_any [48, 120, 55, 102, 46, 49] _ (by decide)).mono ?_
  rintro e w1 ⟨rfl, hb1⟩
  have HB1 := Lib.hid hb1
  clear hb1
  rw [p1]
  go_wp2_with fail
  refine (Parse_any [49, 46, 50, 46, 51, 46, 50, 53, 54] _ (by decide)).mono ?_
  rintro e w2 ⟨rfl, hb2⟩
  have HB2 := Lib.hid hb2
  clear hb2
  rw [p2]
  go_wp2_with fail
  refine (Show_any 2130706433 _ (by decide) ((HT.out.below HB1.out).below HB2.out)).mono ?_
  rintro e w3 ⟨rfl, hb3⟩
  have HB3 := Lib.hid hb3
  clear hb3
  rw [p3]
  go_wp2_with fail
  refine (Ends2_any [97, 46, 48, 120] _ (by decide)).mono ?_
  rintro e w' ⟨rfl, rfl⟩
  rw [p4]
  go_wp2_with fail
  refine (Ends2_any [97, 46, 98] _ (by decide)).mono ?_
  rintro e w' ⟨rfl, rfl⟩
  rw [p5]
  go_wp2_with fail
  go_ret
  exact ⟨rfl, ext_trans HB1.out (ext_trans HB2.out HB3.out)⟩
end Go.Proofs.YtbjpmpijlddcpaaDoor
