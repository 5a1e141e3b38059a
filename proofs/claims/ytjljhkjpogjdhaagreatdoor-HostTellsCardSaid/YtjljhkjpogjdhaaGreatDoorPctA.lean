/- Contracts of pct.more, in, In, of ref4.among, In. -/
import Derived.Test.YtjljhkjpogjdhaaGreatDoorB1
import Derived.Test.YtjljhkjpogjdhaaGreatDoorA1
import Derived.Test.YtjljhkjpogjdhaaGreatDoorShelf
import Derived.Lib.IndexLaws
set_option linter.unusedVariables false
set_option linter.unusedSimpArgs false
namespace Go.Proofs.YtjljhkjpogjdhaaGreatDoor
open Go.RowKit

theorem index_mem (l : List UInt8) (c : UInt8) : (0 ≤ Lib.indexByte l c) ↔ c ∈ l := by
  constructor
  · intro h
    obtain ⟨o, ho⟩ := Int.eq_ofNat_of_zero_le h
    exact List.mem_of_getElem? (Lib.indexByte_some ho).1
  · intro h
    have hge := Lib.indexByte_ge l c
    rcases Int.lt_or_le (Lib.indexByte l c) 0 with h2 | h2
    · have := Lib.indexByte_none (show Lib.indexByte l c = -1 by omega)
      obtain ⟨k, hk⟩ := List.mem_iff_getElem?.1 h
      exact absurd hk (this k)
    · exact h2

theorem tupSBp {s : List UInt8} {b : Bool} {s' : List UInt8} {b' : Bool} (h1 : s = s') (h2 : b = b') : Ending.returned (.tuple #[.string ⟨s.toArray⟩, .bool b]) = .returned (.tuple #[.string ⟨s'.toArray⟩, .bool b']) := by rw [h1, h2]
set_option maxHeartbeats 1000000 in
theorem more_any (k : Int) (w : World) (h0 : -9223372036854775808 ≤ k) (h1 : k ≤ 9223372036854775807) :
    Calls Tryz.prog 41 #[.int .i64 k] w fun e w' => e = .returned (.tuple #[.string ⟨(moreS k).toArray⟩, .bool (moreOk k)]) ∧ w = w' := by
  have HO := Lib.hid (@moreOk_t k)
  have HF := Lib.hid (@moreOk_f k)
  go_enter Tryz.func41, Tryz.ntmps41
  go_wp2
  all_goals
    go_ret2
    try simp only [beq_iff_eq, beq_eq_false_iff_ne] at *
    refine ⟨tupSBp ?_ ?_, by trivial⟩
    · unfold moreS
      first
        | (subst_vars; rfl)
        | (repeat rw [if_neg (by omega)])
    · first | exact (HO.out (by omega)).symm | exact (HF.out (by omega)).symm

set_option maxHeartbeats 1000000 in
theorem in_any (has : List UInt8) (r : Int) (w : World) (h0 : -2147483648 ≤ r) (h1 : r ≤ 2147483647) :
    Calls Tryz.prog 42 #[.string ⟨has.toArray⟩, .int .i32 r] w fun e w' => e = .returned (.bool (inB has r)) ∧ w = w' := by
  by_cases c1 : r < 0 ∨ 1114111 < r
  · have HR := Lib.hid (inB_out (has := has) c1)
    rcases c1 with c1 | c1
    all_goals
      go_enter Tryz.func42, Tryz.ntmps42
      go_wp2_with fail
      go_ret
      exact ⟨ret_b HR.out.symm, by trivial⟩
  by_cases c2 : r < 32 ∨ 126 < r
  · have HR := Lib.hid (inB_high (has := has) (r := r) (by omega) (by omega) c2)
    have c3 : 0 ≤ r := by omega
    have c4 : r ≤ 1114111 := by omega
    rcases c2 with c2 | c2
    all_goals
      go_enter Tryz.func42, Tryz.ntmps42
      go_wp2_with fail
      go_ret
      exact ⟨ret_b HR.out.symm, by trivial⟩
  · have c3 : 32 ≤ r := by omega
    have c4 : r ≤ 126 := by omega
    have HR := Lib.hid (inB_mid (has := has) c3 c4)
    have HM := Lib.hid (index_mem has (mkB r))
    clear c1 c2
    go_enter Tryz.func42, Tryz.ntmps42
    go_wp2_with (go_at_call 80; refine (Tryz.strings_IndexByte ⟨has.toArray⟩ r _).mono ?_; rintro e w' ⟨rfl, rfl⟩)
    all_goals
      go_ret
      refine ⟨ret_b ?_, by trivial⟩
      rw [HR.out, Bool.eq_iff_iff]
      simp only [decide_eq_true_eq]
      exact HM.out


theorem mem_byt (l : List UInt8) (r : Int) (h0 : 0 ≤ r) (h1 : r ≤ 255) : (mkB r ∈ l) ↔ ∃ i, i < l.length ∧ byt l i = r := by
  constructor
  · intro h
    obtain ⟨i, hi, he⟩ := List.mem_iff_getElem.1 h
    refine ⟨i, hi, ?_⟩
    unfold byt
    rw [List.getD_eq_getElem?_getD, List.getElem?_eq_getElem hi]
    show ((l[i]).toNat : Int) = r
    rw [he, mkB_val h0 h1]
  · rintro ⟨i, hi, he⟩
    have : mkB r = l[i] := by
      rw [← he, mkB_byt, List.getD_eq_getElem?_getD, List.getElem?_eq_getElem hi]; rfl
    rw [this]; exact List.getElem_mem _

set_option maxHeartbeats 1000000 in
theorem among_any (r : Int) (l : List UInt8) (w : World) (h0 : 0 ≤ r) (h1 : r ≤ 255) (hm : l.length ≤ 1000000) :
    Calls Tryz.prog 84 #[.int .i32 r, .string ⟨l.toArray⟩] w fun e w' => e = .returned (.bool (decide (mkB r ∈ l))) ∧ w = w' := by
  have HM := Lib.hid (mem_byt l r h0 h1)
  go_enter Tryz.func84, Tryz.ntmps84
  go_wp2
  go_loop [5] (fun ti => ∃ k : Nat, k ≤ l.length ∧ ti = .int .i64 k ∧ Hid (∀ i, i < k → ¬ byt l i = r)) (fun ti => l.length - (intOf ti).toNat)
  case atStart => exact ⟨0, by omega, rfl, Lib.hid (fun i h => by omega)⟩
  case round =>
    obtain ⟨k, hk, rfl, HN⟩ := hrel
    have b0 := byt_lo l k
    have b1 := byt_hi l k
    by_cases hlt : k < l.length
    · by_cases he : byt l k = r
      · have h2 : (byt l k == r) = true := by rw [beq_iff_eq]; exact he
        have HF : Hid (decide (mkB r ∈ l) = true) := Lib.hid (decide_eq_true (HM.out.2 ⟨k, hlt, he⟩))
        clear he
        go_wp2
        go_ret
        exact ⟨ret_b HF.out.symm, by trivial⟩
      · have h2 : (byt l k == r) = false := by rw [beq_eq_false_iff_ne]; exact he
        have HE := Lib.hid he
        clear he
        go_wp2
        go_round
        case rel => exact ⟨k + 1, by omega, by go_num, Lib.hid (fun i h => by
          by_cases hi : i = k
          · subst hi; exact HE.out
          · exact HN.out i (by omega))⟩
        case measure => simp [intOf]; omega
    · obtain rfl : k = l.length := by omega
      have HF : Hid (decide (mkB r ∈ l) = false) := Lib.hid (decide_eq_false (fun h => by obtain ⟨i, hi, he⟩ := HM.out.1 h; exact HN.out i hi he))
      go_wp2
      go_ret
      exact ⟨ret_b HF.out.symm, by trivial⟩

theorem pinB_out (k r : Int) (h : k < 0 ∨ 6 < k ∨ r < 0 ∨ 1114111 < r) : pinB k r = false := by
  unfold pinB
  by_cases h1 : 0 ≤ k ∧ k ≤ 6
  · rw [inB_out (by omega)]; simp
  · rw [moreOk_f h1]; rfl
theorem pinB_high (k r : Int) (h1 : 0 ≤ k ∧ k ≤ 6) (h2 : 0 ≤ r) (h3 : r ≤ 1114111) (h : r < 32 ∨ 126 < r) : pinB k r = true := by
  unfold pinB; rw [moreOk_t h1, inB_high h2 h3 h]; rfl
theorem pinB_mid (k r : Int) (h1 : 0 ≤ k ∧ k ≤ 6) (h2 : 32 ≤ r) (h3 : r ≤ 126) : pinB k r = decide (mkB r ∈ moreS k) := by
  unfold pinB; rw [moreOk_t h1, inB_mid h2 h3]; rfl

set_option maxHeartbeats 4000000 in
theorem rIn_any (k r : Int) (w : World) (h0 : -9223372036854775808 ≤ k) (h1 : k ≤ 9223372036854775807) (h2 : -2147483648 ≤ r) (h3 : r ≤ 2147483647) :
    Calls Tryz.prog 47 #[.int .i64 k, .int .i32 r] w fun e w' => e = .returned (.bool (pinB k r)) ∧ w = w' := by
  by_cases c : k < 0 ∨ 6 < k ∨ r < 0 ∨ 1114111 < r
  · have HF := Lib.hid (pinB_out k r c)
    by_cases c1 : k < 0
    · go_enter Tryz.func47, Tryz.ntmps47
      go_wp2_with fail
      go_ret
      exact ⟨ret_b HF.out.symm, by trivial⟩
    by_cases c2 : 6 < k
    · go_enter Tryz.func47, Tryz.ntmps47
      go_wp2_with fail
      go_ret
      exact ⟨ret_b HF.out.symm, by trivial⟩
    by_cases c3 : r < 0
    · go_enter Tryz.func47, Tryz.ntmps47
      go_wp2_with fail
      go_ret
      exact ⟨ret_b HF.out.symm, by trivial⟩
    · have c4 : 1114111 < r := by omega
      go_enter Tryz.func47, Tryz.ntmps47
      go_wp2_with fail
      go_ret
      exact ⟨ret_b HF.out.symm, by trivial⟩
  have k0 : 0 ≤ k := by omega
  have k6 : k ≤ 6 := by omega
  have r0 : 0 ≤ r := by omega
  have r1 : r ≤ 1114111 := by omega
  clear c
  by_cases d : r < 32 ∨ 126 < r
  · have HF := Lib.hid (pinB_high k r ⟨k0, k6⟩ r0 r1 d)
    rcases d with d | d
    all_goals
      go_enter Tryz.func47, Tryz.ntmps47
      go_wp2_with fail
      go_ret
      exact ⟨ret_b HF.out.symm, by trivial⟩
  have d0 : 32 ≤ r := by omega
  have d1 : r ≤ 126 := by omega
  have d2 : r ≤ 255 := by omega
  have HF := Lib.hid (pinB_mid k r ⟨k0, k6⟩ d0 d1)
  clear d
  obtain rfl | rfl | rfl | rfl | rfl | rfl | rfl : k = 0 ∨ k = 1 ∨ k = 2 ∨ k = 3 ∨ k = 4 ∨ k = 5 ∨ k = 6 := by omega
  · go_enter Tryz.func47, Tryz.ntmps47
    go_wp2_with fail
    go_ret
    exact ⟨ret_b (HF.out.trans (by simp [moreS])).symm, by trivial⟩
  · go_enter Tryz.func47, Tryz.ntmps47
    go_wp2_with (go_at_call 84; refine (among_any r mFrag _ r0 d2 (by decide)).mono ?_; rintro e w' ⟨rfl, rfl⟩)
    go_ret
    exact ⟨ret_b HF.out.symm, by trivial⟩
  · go_enter Tryz.func47, Tryz.ntmps47
    go_wp2_with (go_at_call 84; refine (among_any r mQuery _ r0 d2 (by decide)).mono ?_; rintro e w' ⟨rfl, rfl⟩)
    go_ret
    exact ⟨ret_b HF.out.symm, by trivial⟩
  · go_enter Tryz.func47, Tryz.ntmps47
    go_wp2_with (go_at_call 84; refine (among_any r mSpec _ r0 d2 (by decide)).mono ?_; rintro e w' ⟨rfl, rfl⟩)
    go_ret
    exact ⟨ret_b HF.out.symm, by trivial⟩
  · have hl1 : ([32, 34, 35, 60, 62, 63, 94, 96, 123, 125] : List UInt8).length ≤ 1000000 := by decide
    have hl2 : ([47, 58, 59, 61, 64, 91, 92, 93, 124] : List UInt8).length ≤ 1000000 := by decide
    have hl3 : ([36, 37, 38, 43, 44] : List UInt8).length ≤ 1000000 := by decide
    obtain ⟨m1, hm1⟩ : ∃ b, decide (mkB r ∈ ([32, 34, 35, 60, 62, 63, 94, 96, 123, 125] : List UInt8)) = b := ⟨_, rfl⟩
    obtain ⟨m2, hm2⟩ : ∃ b, decide (mkB r ∈ ([47, 58, 59, 61, 64, 91, 92, 93, 124] : List UInt8)) = b := ⟨_, rfl⟩
    obtain ⟨m3, hm3⟩ : ∃ b, decide (mkB r ∈ ([36, 37, 38, 43, 44] : List UInt8)) = b := ⟨_, rfl⟩
    have HG : Hid (decide (mkB r ∈ moreS 4) = (m1)) := Lib.hid (by
      rw [← hm1]
      try rw [← hm2]
      try rw [← hm3]
      rw [Bool.eq_iff_iff]
      simp only [Bool.or_eq_true, decide_eq_true_eq]
      unfold moreS
      simp only [show ¬ ((4 : Int) = 1) from by decide, show ¬ ((4 : Int) = 2) from by decide, show ¬ ((4 : Int) = 3) from by decide, if_false]
      simp only [if_true, List.mem_append, show ¬ ((5 : Int) = 4) from by decide, show ¬ ((6 : Int) = 4) from by decide, show ¬ ((6 : Int) = 5) from by decide, if_false]
      exact Iff.rfl)
    have M1 := Lib.hid hm1
    have M2 := Lib.hid hm2
    have M3 := Lib.hid hm3
    clear hm1 hm2 hm3
    cases m1 <;> cases m2 <;> cases m3
    all_goals
      go_enter Tryz.func47, Tryz.ntmps47
      go_wp2_with (first
        | (go_at_call 84; (with_reducible refine (among_any r [32, 34, 35, 60, 62, 63, 94, 96, 123, 125] _ r0 d2 hl1).mono ?_); rintro e w' ⟨rfl, rfl⟩; rw [M1.out])
        | (go_at_call 84; (with_reducible refine (among_any r [47, 58, 59, 61, 64, 91, 92, 93, 124] _ r0 d2 hl2).mono ?_); rintro e w' ⟨rfl, rfl⟩; rw [M2.out])
        | (go_at_call 84; (with_reducible refine (among_any r [36, 37, 38, 43, 44] _ r0 d2 hl3).mono ?_); rintro e w' ⟨rfl, rfl⟩; rw [M3.out]))
      all_goals (go_ret; exact ⟨ret_b (HF.out.trans HG.out).symm, by trivial⟩)
  · have hl1 : ([32, 34, 35, 60, 62, 63, 94, 96, 123, 125] : List UInt8).length ≤ 1000000 := by decide
    have hl2 : ([47, 58, 59, 61, 64, 91, 92, 93, 124] : List UInt8).length ≤ 1000000 := by decide
    have hl3 : ([36, 37, 38, 43, 44] : List UInt8).length ≤ 1000000 := by decide
    obtain ⟨m1, hm1⟩ : ∃ b, decide (mkB r ∈ ([32, 34, 35, 60, 62, 63, 94, 96, 123, 125] : List UInt8)) = b := ⟨_, rfl⟩
    obtain ⟨m2, hm2⟩ : ∃ b, decide (mkB r ∈ ([47, 58, 59, 61, 64, 91, 92, 93, 124] : List UInt8)) = b := ⟨_, rfl⟩
    obtain ⟨m3, hm3⟩ : ∃ b, decide (mkB r ∈ ([36, 37, 38, 43, 44] : List UInt8)) = b := ⟨_, rfl⟩
    have HG : Hid (decide (mkB r ∈ moreS 5) = (m1 || m2)) := Lib.hid (by
      rw [← hm1]
      try rw [← hm2]
      try rw [← hm3]
      rw [Bool.eq_iff_iff]
      simp only [Bool.or_eq_true, decide_eq_true_eq]
      unfold moreS
      simp only [show ¬ ((5 : Int) = 1) from by decide, show ¬ ((5 : Int) = 2) from by decide, show ¬ ((5 : Int) = 3) from by decide, if_false]
      simp only [if_true, List.mem_append, show ¬ ((5 : Int) = 4) from by decide, show ¬ ((6 : Int) = 4) from by decide, show ¬ ((6 : Int) = 5) from by decide, if_false]
      exact Iff.rfl)
    have M1 := Lib.hid hm1
    have M2 := Lib.hid hm2
    have M3 := Lib.hid hm3
    clear hm1 hm2 hm3
    cases m1 <;> cases m2 <;> cases m3
    all_goals
      go_enter Tryz.func47, Tryz.ntmps47
      go_wp2_with (first
        | (go_at_call 84; (with_reducible refine (among_any r [32, 34, 35, 60, 62, 63, 94, 96, 123, 125] _ r0 d2 hl1).mono ?_); rintro e w' ⟨rfl, rfl⟩; rw [M1.out])
        | (go_at_call 84; (with_reducible refine (among_any r [47, 58, 59, 61, 64, 91, 92, 93, 124] _ r0 d2 hl2).mono ?_); rintro e w' ⟨rfl, rfl⟩; rw [M2.out])
        | (go_at_call 84; (with_reducible refine (among_any r [36, 37, 38, 43, 44] _ r0 d2 hl3).mono ?_); rintro e w' ⟨rfl, rfl⟩; rw [M3.out]))
      all_goals (go_ret; exact ⟨ret_b (HF.out.trans HG.out).symm, by trivial⟩)
  · have hl1 : ([32, 34, 35, 60, 62, 63, 94, 96, 123, 125] : List UInt8).length ≤ 1000000 := by decide
    have hl2 : ([47, 58, 59, 61, 64, 91, 92, 93, 124] : List UInt8).length ≤ 1000000 := by decide
    have hl3 : ([36, 37, 38, 43, 44] : List UInt8).length ≤ 1000000 := by decide
    obtain ⟨m1, hm1⟩ : ∃ b, decide (mkB r ∈ ([32, 34, 35, 60, 62, 63, 94, 96, 123, 125] : List UInt8)) = b := ⟨_, rfl⟩
    obtain ⟨m2, hm2⟩ : ∃ b, decide (mkB r ∈ ([47, 58, 59, 61, 64, 91, 92, 93, 124] : List UInt8)) = b := ⟨_, rfl⟩
    obtain ⟨m3, hm3⟩ : ∃ b, decide (mkB r ∈ ([36, 37, 38, 43, 44] : List UInt8)) = b := ⟨_, rfl⟩
    have HG : Hid (decide (mkB r ∈ moreS 6) = (m1 || m2 || m3)) := Lib.hid (by
      rw [← hm1]
      try rw [← hm2]
      try rw [← hm3]
      rw [Bool.eq_iff_iff]
      simp only [Bool.or_eq_true, decide_eq_true_eq]
      unfold moreS
      simp only [show ¬ ((6 : Int) = 1) from by decide, show ¬ ((6 : Int) = 2) from by decide, show ¬ ((6 : Int) = 3) from by decide, if_false]
      simp only [if_true, List.mem_append, show ¬ ((5 : Int) = 4) from by decide, show ¬ ((6 : Int) = 4) from by decide, show ¬ ((6 : Int) = 5) from by decide, if_false]
      exact Iff.rfl)
    have M1 := Lib.hid hm1
    have M2 := Lib.hid hm2
    have M3 := Lib.hid hm3
    clear hm1 hm2 hm3
    cases m1 <;> cases m2 <;> cases m3
    all_goals
      go_enter Tryz.func47, Tryz.ntmps47
      go_wp2_with (first
        | (go_at_call 84; (with_reducible refine (among_any r [32, 34, 35, 60, 62, 63, 94, 96, 123, 125] _ r0 d2 hl1).mono ?_); rintro e w' ⟨rfl, rfl⟩; rw [M1.out])
        | (go_at_call 84; (with_reducible refine (among_any r [47, 58, 59, 61, 64, 91, 92, 93, 124] _ r0 d2 hl2).mono ?_); rintro e w' ⟨rfl, rfl⟩; rw [M2.out])
        | (go_at_call 84; (with_reducible refine (among_any r [36, 37, 38, 43, 44] _ r0 d2 hl3).mono ?_); rintro e w' ⟨rfl, rfl⟩; rw [M3.out]))
      all_goals (go_ret; exact ⟨ret_b (HF.out.trans HG.out).symm, by trivial⟩)
end Go.Proofs.YtjljhkjpogjdhaaGreatDoor
