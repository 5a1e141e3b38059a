/- Contracts of segs and ref11. -/
import Derived.Test.YtamnamnojbdfmaaStrs
set_option linter.unusedVariables false
set_option linter.unusedSimpArgs false
namespace Go.Proofs.Ytamnamnojbdfmaa
open Go.RowKit

def dotN (l : List UInt8) : Nat :=
  if 1 ≤ l.length ∧ byt l 0 = 46 then 1
  else if 3 ≤ l.length ∧ byt l 0 = 37 ∧ byt l 1 = 50 ∧ (byt l 2 = 101 ∨ byt l 2 = 69) then 3 else 0
def dotB (l : List UInt8) : Bool := decide (0 < l.length ∧ dotN l = l.length)
def dotsB (l : List UInt8) : Bool := decide (0 < dotN l) && dotB (l.drop (dotN l))
def driveB (l : List UInt8) : Bool := decide (l.length = 2) && letN (byt l 0) && (decide (byt l 1 = 58) || decide (byt l 1 = 124))
def fixedB (l : List UInt8) : Bool := driveB l && decide (byt l 1 = 58)
def endB (c : Int) : Bool := decide (c = 47 ∨ c = 92 ∨ c = 63 ∨ c = 35)
def beginsB (l : List UInt8) : Bool := decide (2 ≤ l.length) && driveB (l.take 2) && (decide (l.length = 2) || endB (byt l 2))
theorem dotN_le (l : List UInt8) : dotN l ≤ l.length ∧ dotN l ≤ 3 := by unfold dotN; (repeat' split) <;> omega
theorem take2 (l : List UInt8) (h : 2 ≤ l.length) : (l.take 2 = [37, 50]) = (byt l 0 = 37 ∧ byt l 1 = 50) := by
  match l, h with
  | a :: b :: t, _ =>
    have e0 : byt (a :: b :: t) 0 = (a.toNat : Int) := rfl
    have e1 : byt (a :: b :: t) 1 = (b.toNat : Int) := rfl
    rw [e0, e1]
    simp only [List.take_succ_cons, List.take_zero, List.cons.injEq, and_true]
    apply propext
    constructor
    · rintro ⟨rfl, rfl⟩; exact ⟨rfl, rfl⟩
    · intro ⟨h1, h2⟩
      exact ⟨UInt8.toNat_inj.1 (by show a.toNat = 37; omega), UInt8.toNat_inj.1 (by show b.toNat = 50; omega)⟩


set_option maxHeartbeats 1000000 in
theorem letter_any (c : Int) (w : World) (h0 : 0 ≤ c) (h1 : c ≤ 255) :
    Calls Try.prog 25 #[.int .u8 c] w fun e w' => e = .returned (.bool (letN c)) ∧ w = w' := by
  have HL := Lib.hid (letN_or c h0 h1)
  have hq := bits_or32 c h0 h1
  have hb := or32_bd c h0 h1
  generalize or32 c = q at *
  go_enter Try.func25, Try.ntmps25
  go_wp2
  all_goals
    go_ret
    refine ⟨ret_b ?_, by trivial⟩
    rw [HL.out]
    symm
    first | (rw [decide_eq_false_iff_not]; omega) | (rw [decide_eq_decide]; omega) | (simp; omega)

set_option maxHeartbeats 1000000 in
theorem rletter_any (c : Int) (w : World) (h0 : 0 ≤ c) (h1 : c ≤ 255) :
    Calls Try.prog 26 #[.int .u8 c] w fun e w' => e = .returned (.bool (letN c)) ∧ w = w' := by
  have HT := Lib.hid (@letN_t c)
  have HF := Lib.hid (@letN_f c)
  by_cases a : 97 ≤ c <;> by_cases b : c ≤ 122 <;> by_cases d : 65 ≤ c <;> by_cases e : c ≤ 90
  all_goals first
    | (exfalso; omega)
    | (go_enter Try.func26, Try.ntmps26
       go_wp2
       go_ret
       exact ⟨ret_b (by first | exact (HT.out (by omega)).symm | exact (HF.out (by omega)).symm), by trivial⟩)

set_option maxHeartbeats 1000000 in
theorem dotLength_any (l : List UInt8) (w : World) (hm : l.length ≤ 1000000) :
    Calls Try.prog 23 #[.string ⟨l.toArray⟩] w fun e w' => e = .returned (.int .i64 (dotN l)) ∧ w = w' := by
  have b0 := byt_lo l 0
  have b0' := byt_hi l 0
  have b1 := byt_lo l 2
  have b1' := byt_hi l 2
  have ho := bits_or32 (byt l 2) b1 b1'
  go_enter Try.func23, Try.ntmps23
  go_wp2
  all_goals
    go_ret
    refine ⟨ret_n ?_, by trivial⟩
    clear ho
    try simp only [beq_iff_eq, beq_eq_false_iff_ne] at *
    by_cases h2 : 2 ≤ l.length
    · try simp only [take2 l h2] at *
      unfold dotN
      try unfold or32 at *
      (repeat' split) <;> first | rfl | omega | (split at * <;> omega)
    · unfold dotN
      (repeat' split) <;> first | rfl | omega

set_option maxHeartbeats 1000000 in
theorem rdot_any (l : List UInt8) (w : World) (hm : l.length ≤ 1000000) :
    Calls Try.prog 24 #[.string ⟨l.toArray⟩] w fun e w' => e = .returned (.int .i64 (dotN l)) ∧ w = w' := by
  have b0 := byt_lo l 0
  go_enter Try.func24, Try.ntmps24
  go_wp2
  all_goals
    go_ret
    refine ⟨ret_n ?_, by trivial⟩
    try simp only [beq_iff_eq, beq_eq_false_iff_ne] at *
    unfold dotN
    (repeat' split) <;> first | rfl | omega

set_option maxHeartbeats 1000000 in
theorem Dot_any (l : List UInt8) (w : World) (hm : l.length ≤ 1000000) :
    Calls Try.prog 8 #[.string ⟨l.toArray⟩] w fun e w' => e = .returned (.bool (dotB l)) ∧ w = w' := by
  obtain ⟨n, hn⟩ : ∃ n, dotN l = n := ⟨_, rfl⟩
  have HN := Lib.hid hn
  cases l with
  | nil =>
    have E0 := Lib.hid (show dotB [] = false from rfl)
    clear hn HN
    go_enter Try.func8, Try.ntmps8
    go_wp2_with (go_at_call 23; refine (dotLength_any [] _ (by decide)).mono ?_; rintro e w' ⟨rfl, rfl⟩)
    all_goals (go_ret; exact ⟨ret_b E0.out.symm, by trivial⟩)
  | cons b t =>
    have hp : (0 : Int) < ((b :: t).length : Int) := by simp
    have hie : (b :: t).isEmpty = false := rfl
    have hpn : 0 < (b :: t).length := by simp
    generalize b :: t = l at *
    by_cases h : n = l.length
    · have h1 : ((n : Int) == (l.length : Int)) = true := by rw [beq_iff_eq]; omega
      have HF : Hid (dotB l = true) := Lib.hid (by unfold dotB; rw [hn]; exact decide_eq_true ⟨hpn, h⟩)
      clear h hn
      go_enter Try.func8, Try.ntmps8
      go_wp2_with (go_at_call 23; refine (dotLength_any l _ hm).mono ?_; rintro e w' ⟨rfl, rfl⟩; rw [HN.out])
      all_goals (go_ret; exact ⟨ret_b HF.out.symm, by trivial⟩)
    · have h1 : ((n : Int) == (l.length : Int)) = false := by rw [beq_eq_false_iff_ne]; omega
      have HF : Hid (dotB l = false) := Lib.hid (by unfold dotB; rw [hn]; exact decide_eq_false (fun k => h k.2))
      clear h hn
      go_enter Try.func8, Try.ntmps8
      go_wp2_with (go_at_call 23; refine (dotLength_any l _ hm).mono ?_; rintro e w' ⟨rfl, rfl⟩; rw [HN.out])
      all_goals (go_ret; exact ⟨ret_b HF.out.symm, by trivial⟩)

set_option maxHeartbeats 1000000 in
theorem Dots_any (l : List UInt8) (w : World) (hm : l.length ≤ 1000000) :
    Calls Try.prog 10 #[.string ⟨l.toArray⟩] w fun e w' => e = .returned (.bool (dotsB l)) ∧ w = w' := by
  have hd := dotN_le l
  have HB : Hid (dotsB l = (decide (0 < dotN l) && dotB (l.drop (dotN l)))) := Lib.hid rfl
  obtain ⟨n, hn⟩ : ∃ n, dotN l = n := ⟨_, rfl⟩
  have HN := Lib.hid hn
  rw [hn] at HB hd
  clear hn
  obtain ⟨hd1, hd2⟩ := hd
  by_cases h : 0 < n
  · have h1 : (0 : Int) < (n : Int) := by omega
    have h2 : (n : Int) ≤ (l.length : Int) := by omega
    have HF : Hid (dotsB l = dotB (l.drop n)) := Lib.hid (by rw [HB.out, decide_eq_true h]; rfl)
    clear HB
    go_enter Try.func10, Try.ntmps10
    go_wp2_with (first | (go_at_call 23; refine (dotLength_any l _ hm).mono ?_; rintro e w' ⟨rfl, rfl⟩; rw [HN.out]) | (go_at_call 8; (with_reducible refine (Dot_any (l.drop n) _ (by simp; omega)).mono ?_); rintro e w' ⟨rfl, rfl⟩))
    all_goals (go_ret; exact ⟨ret_b HF.out.symm, by trivial⟩)
  · have h1 : ¬ (0 : Int) < (n : Int) := by omega
    have HF : Hid (dotsB l = false) := Lib.hid (by rw [HB.out, decide_eq_false h]; rfl)
    clear HB
    go_enter Try.func10, Try.ntmps10
    go_wp2_with (first | (go_at_call 23; refine (dotLength_any l _ hm).mono ?_; rintro e w' ⟨rfl, rfl⟩; rw [HN.out]))
    all_goals (go_ret; exact ⟨ret_b HF.out.symm, by trivial⟩)

set_option maxHeartbeats 2000000 in
theorem Drive_any (l : List UInt8) (w : World) (hm : l.length ≤ 1000000) :
    Calls Try.prog 12 #[.string ⟨l.toArray⟩] w fun e w' => e = .returned (.bool (driveB l)) ∧ w = w' := by
  have b0 := byt_lo l 0
  have b0' := byt_hi l 0
  by_cases h2 : l.length = 2
  · have e2 : ((l.length : Int) == 2) = true := by rw [beq_iff_eq]; omega
    have p0 : (0 : Int) < (l.length : Int) := by omega
    have p1 : (1 : Int) < (l.length : Int) := by omega
    cases hl : letN (byt l 0) with
    | false =>
      have HF : Hid (driveB l = false) := Lib.hid (by unfold driveB; rw [hl]; simp)
      have HL := Lib.hid hl
      clear hl h2
      go_enter Try.func12, Try.ntmps12
      go_wp2_with (go_at_call 25; refine (letter_any _ _ b0 b0').mono ?_; rintro e w' ⟨rfl, rfl⟩; rw [HL.out])
      all_goals (go_ret; exact ⟨ret_b HF.out.symm, by trivial⟩)
    | true =>
      by_cases c1 : byt l 1 = 58
      · have HF : Hid (driveB l = true) := Lib.hid (by unfold driveB; rw [hl, c1, h2]; rfl)
        have HL := Lib.hid hl
        have d1 : (byt l 1 == 58) = true := by rw [beq_iff_eq]; exact c1
        clear hl h2 c1
        go_enter Try.func12, Try.ntmps12
        go_wp2_with (go_at_call 25; refine (letter_any _ _ b0 b0').mono ?_; rintro e w' ⟨rfl, rfl⟩; rw [HL.out])
        all_goals (go_ret; exact ⟨ret_b HF.out.symm, by trivial⟩)
      by_cases c2 : byt l 1 = 124
      · have HF : Hid (driveB l = true) := Lib.hid (by unfold driveB; rw [hl, c2, h2]; rfl)
        have HL := Lib.hid hl
        have d1 : (byt l 1 == 58) = false := by rw [beq_eq_false_iff_ne]; exact c1
        have d2 : (byt l 1 == 124) = true := by rw [beq_iff_eq]; exact c2
        clear hl h2 c1 c2
        go_enter Try.func12, Try.ntmps12
        go_wp2_with (go_at_call 25; refine (letter_any _ _ b0 b0').mono ?_; rintro e w' ⟨rfl, rfl⟩; rw [HL.out])
        all_goals (go_ret; exact ⟨ret_b HF.out.symm, by trivial⟩)
      · have HF : Hid (driveB l = false) := Lib.hid (by unfold driveB; simp [c1, c2])
        have HL := Lib.hid hl
        have d1 : (byt l 1 == 58) = false := by rw [beq_eq_false_iff_ne]; exact c1
        have d2 : (byt l 1 == 124) = false := by rw [beq_eq_false_iff_ne]; exact c2
        clear hl h2 c1 c2
        go_enter Try.func12, Try.ntmps12
        go_wp2_with (go_at_call 25; refine (letter_any _ _ b0 b0').mono ?_; rintro e w' ⟨rfl, rfl⟩; rw [HL.out])
        all_goals (go_ret; exact ⟨ret_b HF.out.symm, by trivial⟩)
  · have e2 : ((l.length : Int) == 2) = false := by rw [beq_eq_false_iff_ne]; omega
    have HF : Hid (driveB l = false) := Lib.hid (by unfold driveB; rw [decide_eq_false h2]; rfl)
    clear h2
    go_enter Try.func12, Try.ntmps12
    go_wp2_with fail
    all_goals (go_ret; exact ⟨ret_b HF.out.symm, by trivial⟩)

set_option maxHeartbeats 2000000 in
theorem Fixed_any (l : List UInt8) (w : World) (hm : l.length ≤ 1000000) :
    Calls Try.prog 14 #[.string ⟨l.toArray⟩] w fun e w' => e = .returned (.bool (fixedB l)) ∧ w = w' := by
  cases hd : driveB l with
  | false =>
    have HF : Hid (fixedB l = false) := Lib.hid (by unfold fixedB; rw [hd]; rfl)
    have HD := Lib.hid hd
    clear hd
    go_enter Try.func14, Try.ntmps14
    go_wp2_with (go_at_call 12; refine (Drive_any _ _ hm).mono ?_; rintro e w' ⟨rfl, rfl⟩; rw [HD.out])
    all_goals (go_ret; exact ⟨ret_b HF.out.symm, by trivial⟩)
  | true =>
    have HF : Hid (fixedB l = decide (byt l 1 = 58)) := Lib.hid (by unfold fixedB; rw [hd]; rfl)
    have h2 : (1 : Int) < (l.length : Int) := by
      unfold driveB at hd; simp only [Bool.and_eq_true, decide_eq_true_eq] at hd; omega
    have HD := Lib.hid hd
    clear hd
    go_enter Try.func14, Try.ntmps14
    go_wp2_with (go_at_call 12; refine (Drive_any _ _ hm).mono ?_; rintro e w' ⟨rfl, rfl⟩; rw [HD.out])
    all_goals (go_ret; exact ⟨ret_b (by rw [HF.out]; first | rfl | (rw [Bool.eq_iff_iff]; simp)), by trivial⟩)

set_option maxHeartbeats 2000000 in
theorem Begins_any (l : List UInt8) (w : World) (hm : l.length ≤ 1000000) :
    Calls Try.prog 16 #[.string ⟨l.toArray⟩] w fun e w' => e = .returned (.bool (beginsB l)) ∧ w = w' := by
  by_cases h2 : l.length < 2
  · have HF : Hid (beginsB l = false) := Lib.hid (by unfold beginsB; rw [decide_eq_false (by omega)]; rfl)
    go_enter Try.func16, Try.ntmps16
    go_wp2_with fail
    all_goals (go_ret; exact ⟨ret_b HF.out.symm, by trivial⟩)
  have p2 : (2 : Int) ≤ (l.length : Int) := by omega
  have hmt : (l.take 2).length ≤ 1000000 := by simp; omega
  cases hd : driveB (l.take 2) with
  | false =>
    have HF : Hid (beginsB l = false) := Lib.hid (by unfold beginsB; rw [hd]; simp)
    have HD := Lib.hid hd
    clear hd
    go_enter Try.func16, Try.ntmps16
    go_wp2_with (go_at_call 12; refine (Drive_any (l.take 2) _ hmt).mono ?_; rintro e w' ⟨rfl, rfl⟩; rw [HD.out])
    all_goals (go_ret; exact ⟨ret_b HF.out.symm, by trivial⟩)
  | true =>
    by_cases h3 : l.length = 2
    · have HF : Hid (beginsB l = true) := Lib.hid (by unfold beginsB; rw [hd, h3]; rfl)
      have HD := Lib.hid hd
      have e3 : ((l.length : Int) == 2) = true := by rw [beq_iff_eq]; omega
      clear hd h3
      go_enter Try.func16, Try.ntmps16
      go_wp2_with (go_at_call 12; refine (Drive_any (l.take 2) _ hmt).mono ?_; rintro e w' ⟨rfl, rfl⟩; rw [HD.out])
      all_goals (go_ret; exact ⟨ret_b HF.out.symm, by trivial⟩)
    · have HF : Hid (beginsB l = endB (byt l 2)) := Lib.hid (by unfold beginsB; rw [hd, decide_eq_false h3, decide_eq_true (by omega)]; rfl)
      have HD := Lib.hid hd
      have e3 : ((l.length : Int) == 2) = false := by rw [beq_eq_false_iff_ne]; omega
      have p3 : (2 : Int) < (l.length : Int) := by omega
      clear hd h3
      generalize hc : byt l 2 = c at *
      have HC := Lib.hid hc
      by_cases d1 : c = 47
      · subst d1
        go_enter Try.func16, Try.ntmps16
        go_wp2_with (go_at_call 12; refine (Drive_any (l.take 2) _ hmt).mono ?_; rintro e w' ⟨rfl, rfl⟩; rw [HD.out])
        all_goals (go_ret; exact ⟨ret_b HF.out.symm, by trivial⟩)
      by_cases d2 : c = 92
      · subst d2
        go_enter Try.func16, Try.ntmps16
        go_wp2_with (go_at_call 12; refine (Drive_any (l.take 2) _ hmt).mono ?_; rintro e w' ⟨rfl, rfl⟩; rw [HD.out])
        all_goals (go_ret; exact ⟨ret_b HF.out.symm, by trivial⟩)
      by_cases d3 : c = 63
      · subst d3
        go_enter Try.func16, Try.ntmps16
        go_wp2_with (go_at_call 12; refine (Drive_any (l.take 2) _ hmt).mono ?_; rintro e w' ⟨rfl, rfl⟩; rw [HD.out])
        all_goals (go_ret; exact ⟨ret_b HF.out.symm, by trivial⟩)
      by_cases d4 : c = 35
      · subst d4
        go_enter Try.func16, Try.ntmps16
        go_wp2_with (go_at_call 12; refine (Drive_any (l.take 2) _ hmt).mono ?_; rintro e w' ⟨rfl, rfl⟩; rw [HD.out])
        all_goals (go_ret; exact ⟨ret_b HF.out.symm, by trivial⟩)
      · have f1 : (c == 47) = false := by rw [beq_eq_false_iff_ne]; exact d1
        have f2 : (c == 92) = false := by rw [beq_eq_false_iff_ne]; exact d2
        have f3 : (c == 63) = false := by rw [beq_eq_false_iff_ne]; exact d3
        have f4 : (c == 35) = false := by rw [beq_eq_false_iff_ne]; exact d4
        have HG : Hid (endB c = false) := Lib.hid (by unfold endB; exact decide_eq_false (by omega))
        clear d1 d2 d3 d4
        go_enter Try.func16, Try.ntmps16
        go_wp2_with (go_at_call 12; refine (Drive_any (l.take 2) _ hmt).mono ?_; rintro e w' ⟨rfl, rfl⟩; rw [HD.out])
        all_goals (go_ret; exact ⟨ret_b (HF.out.trans HG.out).symm, by trivial⟩)

set_option maxHeartbeats 1000000 in
theorem rDot_any (l : List UInt8) (w : World) (hm : l.length ≤ 1000000) :
    Calls Try.prog 9 #[.string ⟨l.toArray⟩] w fun e w' => e = .returned (.bool (dotB l)) ∧ w = w' := by
  obtain ⟨n, hn⟩ : ∃ n, dotN l = n := ⟨_, rfl⟩
  have HN := Lib.hid hn
  cases l with
  | nil =>
    have E0 := Lib.hid (show dotB [] = false from rfl)
    clear hn HN
    go_enter Try.func9, Try.ntmps9
    go_wp2_with (go_at_call 24; refine (rdot_any [] _ (by decide)).mono ?_; rintro e w' ⟨rfl, rfl⟩)
    all_goals (go_ret; exact ⟨ret_b E0.out.symm, by trivial⟩)
  | cons b t =>
    have hp : (0 : Int) < ((b :: t).length : Int) := by simp
    have hie : (b :: t).isEmpty = false := rfl
    have hpn : 0 < (b :: t).length := by simp
    generalize b :: t = l at *
    by_cases h : n = l.length
    · have h1 : ((n : Int) == (l.length : Int)) = true := by rw [beq_iff_eq]; omega
      have HF : Hid (dotB l = true) := Lib.hid (by unfold dotB; rw [hn]; exact decide_eq_true ⟨hpn, h⟩)
      clear h hn
      go_enter Try.func9, Try.ntmps9
      go_wp2_with (go_at_call 24; refine (rdot_any l _ hm).mono ?_; rintro e w' ⟨rfl, rfl⟩; rw [HN.out])
      all_goals (go_ret; exact ⟨ret_b HF.out.symm, by trivial⟩)
    · have h1 : ((n : Int) == (l.length : Int)) = false := by rw [beq_eq_false_iff_ne]; omega
      have HF : Hid (dotB l = false) := Lib.hid (by unfold dotB; rw [hn]; exact decide_eq_false (fun k => h k.2))
      clear h hn
      go_enter Try.func9, Try.ntmps9
      go_wp2_with (go_at_call 24; refine (rdot_any l _ hm).mono ?_; rintro e w' ⟨rfl, rfl⟩; rw [HN.out])
      all_goals (go_ret; exact ⟨ret_b HF.out.symm, by trivial⟩)

set_option maxHeartbeats 1000000 in
theorem rDots_any (l : List UInt8) (w : World) (hm : l.length ≤ 1000000) :
    Calls Try.prog 11 #[.string ⟨l.toArray⟩] w fun e w' => e = .returned (.bool (dotsB l)) ∧ w = w' := by
  have hd := dotN_le l
  have HB : Hid (dotsB l = (decide (0 < dotN l) && dotB (l.drop (dotN l)))) := Lib.hid rfl
  obtain ⟨n, hn⟩ : ∃ n, dotN l = n := ⟨_, rfl⟩
  have HN := Lib.hid hn
  rw [hn] at HB hd
  clear hn
  obtain ⟨hd1, hd2⟩ := hd
  by_cases h : 0 < n
  · have h1 : (0 : Int) < (n : Int) := by omega
    have h2 : (n : Int) ≤ (l.length : Int) := by omega
    have HF : Hid (dotsB l = dotB (l.drop n)) := Lib.hid (by rw [HB.out, decide_eq_true h]; rfl)
    clear HB
    go_enter Try.func11, Try.ntmps11
    go_wp2_with (first | (go_at_call 24; refine (rdot_any l _ hm).mono ?_; rintro e w' ⟨rfl, rfl⟩; rw [HN.out]) | (go_at_call 9; (with_reducible refine (rDot_any (l.drop n) _ (by simp; omega)).mono ?_); rintro e w' ⟨rfl, rfl⟩))
    all_goals (go_ret; exact ⟨ret_b HF.out.symm, by trivial⟩)
  · have h1 : ¬ (0 : Int) < (n : Int) := by omega
    have HF : Hid (dotsB l = false) := Lib.hid (by rw [HB.out, decide_eq_false h]; rfl)
    clear HB
    go_enter Try.func11, Try.ntmps11
    go_wp2_with (first | (go_at_call 24; refine (rdot_any l _ hm).mono ?_; rintro e w' ⟨rfl, rfl⟩; rw [HN.out]))
    all_goals (go_ret; exact ⟨ret_b HF.out.symm, by trivial⟩)

set_option maxHeartbeats 2000000 in
theorem rDrive_any (l : List UInt8) (w : World) (hm : l.length ≤ 1000000) :
    Calls Try.prog 13 #[.string ⟨l.toArray⟩] w fun e w' => e = .returned (.bool (driveB l)) ∧ w = w' := by
  have b0 := byt_lo l 0
  have b0' := byt_hi l 0
  by_cases h2 : l.length = 2
  · have e2 : ((l.length : Int) == 2) = true := by rw [beq_iff_eq]; omega
    have p0 : (0 : Int) < (l.length : Int) := by omega
    have p1 : (1 : Int) < (l.length : Int) := by omega
    cases hl : letN (byt l 0) with
    | false =>
      have HF : Hid (driveB l = false) := Lib.hid (by unfold driveB; rw [hl]; simp)
      have HL := Lib.hid hl
      clear hl h2
      go_enter Try.func13, Try.ntmps13
      go_wp2_with (go_at_call 26; refine (rletter_any _ _ b0 b0').mono ?_; rintro e w' ⟨rfl, rfl⟩; rw [HL.out])
      all_goals (go_ret; exact ⟨ret_b HF.out.symm, by trivial⟩)
    | true =>
      by_cases c1 : byt l 1 = 58
      · have HF : Hid (driveB l = true) := Lib.hid (by unfold driveB; rw [hl, c1, h2]; rfl)
        have HL := Lib.hid hl
        have d1 : (byt l 1 == 58) = true := by rw [beq_iff_eq]; exact c1
        clear hl h2 c1
        go_enter Try.func13, Try.ntmps13
        go_wp2_with (go_at_call 26; refine (rletter_any _ _ b0 b0').mono ?_; rintro e w' ⟨rfl, rfl⟩; rw [HL.out])
        all_goals (go_ret; exact ⟨ret_b HF.out.symm, by trivial⟩)
      by_cases c2 : byt l 1 = 124
      · have HF : Hid (driveB l = true) := Lib.hid (by unfold driveB; rw [hl, c2, h2]; rfl)
        have HL := Lib.hid hl
        have d1 : (byt l 1 == 58) = false := by rw [beq_eq_false_iff_ne]; exact c1
        have d2 : (byt l 1 == 124) = true := by rw [beq_iff_eq]; exact c2
        clear hl h2 c1 c2
        go_enter Try.func13, Try.ntmps13
        go_wp2_with (go_at_call 26; refine (rletter_any _ _ b0 b0').mono ?_; rintro e w' ⟨rfl, rfl⟩; rw [HL.out])
        all_goals (go_ret; exact ⟨ret_b HF.out.symm, by trivial⟩)
      · have HF : Hid (driveB l = false) := Lib.hid (by unfold driveB; simp [c1, c2])
        have HL := Lib.hid hl
        have d1 : (byt l 1 == 58) = false := by rw [beq_eq_false_iff_ne]; exact c1
        have d2 : (byt l 1 == 124) = false := by rw [beq_eq_false_iff_ne]; exact c2
        clear hl h2 c1 c2
        go_enter Try.func13, Try.ntmps13
        go_wp2_with (go_at_call 26; refine (rletter_any _ _ b0 b0').mono ?_; rintro e w' ⟨rfl, rfl⟩; rw [HL.out])
        all_goals (go_ret; exact ⟨ret_b HF.out.symm, by trivial⟩)
  · have e2 : ((l.length : Int) == 2) = false := by rw [beq_eq_false_iff_ne]; omega
    have HF : Hid (driveB l = false) := Lib.hid (by unfold driveB; rw [decide_eq_false h2]; rfl)
    clear h2
    go_enter Try.func13, Try.ntmps13
    go_wp2_with fail
    all_goals (go_ret; exact ⟨ret_b HF.out.symm, by trivial⟩)

set_option maxHeartbeats 2000000 in
theorem rFixed_any (l : List UInt8) (w : World) (hm : l.length ≤ 1000000) :
    Calls Try.prog 15 #[.string ⟨l.toArray⟩] w fun e w' => e = .returned (.bool (fixedB l)) ∧ w = w' := by
  cases hd : driveB l with
  | false =>
    have HF : Hid (fixedB l = false) := Lib.hid (by unfold fixedB; rw [hd]; rfl)
    have HD := Lib.hid hd
    clear hd
    go_enter Try.func15, Try.ntmps15
    go_wp2_with (go_at_call 13; refine (rDrive_any _ _ hm).mono ?_; rintro e w' ⟨rfl, rfl⟩; rw [HD.out])
    all_goals (go_ret; exact ⟨ret_b HF.out.symm, by trivial⟩)
  | true =>
    have HF : Hid (fixedB l = decide (byt l 1 = 58)) := Lib.hid (by unfold fixedB; rw [hd]; rfl)
    have h2 : (1 : Int) < (l.length : Int) := by
      unfold driveB at hd; simp only [Bool.and_eq_true, decide_eq_true_eq] at hd; omega
    have HD := Lib.hid hd
    clear hd
    go_enter Try.func15, Try.ntmps15
    go_wp2_with (go_at_call 13; refine (rDrive_any _ _ hm).mono ?_; rintro e w' ⟨rfl, rfl⟩; rw [HD.out])
    all_goals (go_ret; exact ⟨ret_b (by rw [HF.out]; first | rfl | (rw [Bool.eq_iff_iff]; simp)), by trivial⟩)

set_option maxHeartbeats 2000000 in
theorem rBegins_any (l : List UInt8) (w : World) (hm : l.length ≤ 1000000) :
    Calls Try.prog 17 #[.string ⟨l.toArray⟩] w fun e w' => e = .returned (.bool (beginsB l)) ∧ w = w' := by
  by_cases h2 : l.length < 2
  · have HF : Hid (beginsB l = false) := Lib.hid (by unfold beginsB; rw [decide_eq_false (by omega)]; rfl)
    go_enter Try.func17, Try.ntmps17
    go_wp2_with fail
    all_goals (go_ret; exact ⟨ret_b HF.out.symm, by trivial⟩)
  have p2 : (2 : Int) ≤ (l.length : Int) := by omega
  have hmt : (l.take 2).length ≤ 1000000 := by simp; omega
  cases hd : driveB (l.take 2) with
  | false =>
    have HF : Hid (beginsB l = false) := Lib.hid (by unfold beginsB; rw [hd]; simp)
    have HD := Lib.hid hd
    clear hd
    go_enter Try.func17, Try.ntmps17
    go_wp2_with (go_at_call 13; refine (rDrive_any (l.take 2) _ hmt).mono ?_; rintro e w' ⟨rfl, rfl⟩; rw [HD.out])
    all_goals (go_ret; exact ⟨ret_b HF.out.symm, by trivial⟩)
  | true =>
    by_cases h3 : l.length = 2
    · have HF : Hid (beginsB l = true) := Lib.hid (by unfold beginsB; rw [hd, h3]; rfl)
      have HD := Lib.hid hd
      have e3 : ((l.length : Int) == 2) = true := by rw [beq_iff_eq]; omega
      clear hd h3
      go_enter Try.func17, Try.ntmps17
      go_wp2_with (go_at_call 13; refine (rDrive_any (l.take 2) _ hmt).mono ?_; rintro e w' ⟨rfl, rfl⟩; rw [HD.out])
      all_goals (go_ret; exact ⟨ret_b HF.out.symm, by trivial⟩)
    · have HF : Hid (beginsB l = endB (byt l 2)) := Lib.hid (by unfold beginsB; rw [hd, decide_eq_false h3, decide_eq_true (by omega)]; rfl)
      have HD := Lib.hid hd
      have e3 : ((l.length : Int) == 2) = false := by rw [beq_eq_false_iff_ne]; omega
      have p3 : (2 : Int) < (l.length : Int) := by omega
      clear hd h3
      generalize hc : byt l 2 = c at *
      have HC := Lib.hid hc
      by_cases d1 : c = 47
      · subst d1
        go_enter Try.func17, Try.ntmps17
        go_wp2_with (go_at_call 13; refine (rDrive_any (l.take 2) _ hmt).mono ?_; rintro e w' ⟨rfl, rfl⟩; rw [HD.out])
        all_goals (go_ret; exact ⟨ret_b HF.out.symm, by trivial⟩)
      by_cases d2 : c = 92
      · subst d2
        go_enter Try.func17, Try.ntmps17
        go_wp2_with (go_at_call 13; refine (rDrive_any (l.take 2) _ hmt).mono ?_; rintro e w' ⟨rfl, rfl⟩; rw [HD.out])
        all_goals (go_ret; exact ⟨ret_b HF.out.symm, by trivial⟩)
      by_cases d3 : c = 63
      · subst d3
        go_enter Try.func17, Try.ntmps17
        go_wp2_with (go_at_call 13; refine (rDrive_any (l.take 2) _ hmt).mono ?_; rintro e w' ⟨rfl, rfl⟩; rw [HD.out])
        all_goals (go_ret; exact ⟨ret_b HF.out.symm, by trivial⟩)
      by_cases d4 : c = 35
      · subst d4
        go_enter Try.func17, Try.ntmps17
        go_wp2_with (go_at_call 13; refine (rDrive_any (l.take 2) _ hmt).mono ?_; rintro e w' ⟨rfl, rfl⟩; rw [HD.out])
        all_goals (go_ret; exact ⟨ret_b HF.out.symm, by trivial⟩)
      · have f1 : (c == 47) = false := by rw [beq_eq_false_iff_ne]; exact d1
        have f2 : (c == 92) = false := by rw [beq_eq_false_iff_ne]; exact d2
        have f3 : (c == 63) = false := by rw [beq_eq_false_iff_ne]; exact d3
        have f4 : (c == 35) = false := by rw [beq_eq_false_iff_ne]; exact d4
        have HG : Hid (endB c = false) := Lib.hid (by unfold endB; exact decide_eq_false (by omega))
        clear d1 d2 d3 d4
        go_enter Try.func17, Try.ntmps17
        go_wp2_with (go_at_call 13; refine (rDrive_any (l.take 2) _ hmt).mono ?_; rintro e w' ⟨rfl, rfl⟩; rw [HD.out])
        all_goals (go_ret; exact ⟨ret_b (HF.out.trans HG.out).symm, by trivial⟩)

end Go.Proofs.Ytamnamnojbdfmaa
