/- Contracts of Compare and Match. -/
import Derived.Test.YtiomkjpgoehchaaGlobA
import Derived.Test.YtiomkjpgoehchaaCut
import Derived.Deep.RegionWith
set_option linter.unusedVariables false
set_option linter.unusedSimpArgs false
namespace Go.Proofs.Ytiomkjpgoehchaa
open Go.RowKit

theorem gcmp_or (a b : List UInt8) : orI (cmpI (aheadL b) (aheadL a)) (cmpI b.length a.length) = gcmp a b := by
  unfold orI cmpI gcmp
  (repeat' split) <;> omega
theorem aheadL_bd (a : List UInt8) : 0 ≤ aheadL a ∧ aheadL a ≤ a.length := by
  have := fstar_le a
  unfold aheadL; split <;> omega

set_option maxHeartbeats 1000000 in
theorem Compare_any (a b : List UInt8) (w : World) (ha : a.length < 1000) (hb : b.length < 1000) :
    Calls Try.prog 14 #[.string ⟨a.toArray⟩, .string ⟨b.toArray⟩] w fun e w' => e = .returned (.int .i64 (gcmp a b)) ∧ Below w.heap.size w w' := by
  have h1 := aheadL_bd a
  have h2 := aheadL_bd b
  have HG := Lib.hid (gcmp_or a b)
  have C1 : Hid (∀ w, Calls Try.prog 25 #[.float .f64 (F (aheadL b)), .float .f64 (F (aheadL a))] w fun e w' => e = .returned (.int .i64 (cmpI (aheadL b) (aheadL a))) ∧ w = w') := Lib.hid (fun w => cmpF_any _ _ w (by omega) (by omega) (by omega) (by omega))
  have C2 : Hid (∀ w, Calls Try.prog 25 #[.float .f64 (F b.length), .float .f64 (F a.length)] w fun e w' => e = .returned (.int .i64 (cmpI b.length a.length)) ∧ w = w') := Lib.hid (fun w => cmpF_any _ _ w (by omega) (by omega) (by omega) (by omega))
  go_enter Try.func14, Try.ntmps14
  go_wp2_with fail
  refine (Weight_any a _ (by omega)).mono ?_
  rintro e w' ⟨rfl, rfl⟩
  go_wp2_with fail
  refine (Weight_any b _ (by omega)).mono ?_
  rintro e w' ⟨rfl, rfl⟩
  generalize F (aheadL a) = f1 at *
  generalize F (aheadL b) = f2 at *
  generalize F a.length = f3 at *
  generalize F b.length = f4 at *
  generalize cmpI (aheadL b) (aheadL a) = c1 at *
  generalize cmpI b.length a.length = c2 at *
  go_wp2_with fail
  refine (C1.out _).mono ?_
  rintro e w' ⟨rfl, rfl⟩
  go_wp2_with fail
  refine (C2.out _).mono ?_
  rintro e w' ⟨rfl, rfl⟩
  go_wp2_with fail
  refine (or_any _ c1 c2 _ (IsSl.lit2 _ _ c1 c2 3 (0, 0) (by rw [heap_alloc_at, if_pos (by simp)])).1 (IsSl.lit2 _ _ c1 c2 3 (0, 0) (by rw [heap_alloc_at, if_pos (by simp)])).2).mono ?_
  rintro e w' ⟨rfl, rfl⟩
  go_wp2
  go_ret
  exact ⟨ret_n HG.out, ext_alloc _ _⟩

theorem gcmp_of {a b : List UInt8} {x p y q : Int} (hx : aheadL a = x) (hp : aheadL b = p) (hy : (a.length : Int) = y) (hq : (b.length : Int) = q) :
    gcmp a b = if p < x then -1 else if x < p then 1 else if q < y then -1 else if y < q then 1 else 0 := by
  unfold gcmp
  rw [hx, hp]
  (repeat' split) <;> omega
set_option maxHeartbeats 1000000 in
theorem rCompare_any (a b : List UInt8) (w : World) (ha : a.length < 1000) (hb : b.length < 1000) :
    Calls Try.prog 15 #[.string ⟨a.toArray⟩, .string ⟨b.toArray⟩] w fun e w' => e = .returned (.int .i64 (gcmp a b)) ∧ w = w' := by
  obtain ⟨x, hx⟩ : ∃ x, aheadL a = x := ⟨_, rfl⟩
  obtain ⟨p, hp⟩ : ∃ x, aheadL b = x := ⟨_, rfl⟩
  obtain ⟨y, hy⟩ : ∃ y : Int, (a.length : Int) = y := ⟨_, rfl⟩
  obtain ⟨q, hq⟩ : ∃ y : Int, (b.length : Int) = y := ⟨_, rfl⟩
  have HG := Lib.hid (gcmp_of hx hp hy hq)
  have C1 : Hid (∀ w, Calls Try.prog 10 #[.string ⟨a.toArray⟩] w fun e w' => e = .returned (.tuple #[.int .i64 x, .int .i64 y]) ∧ w = w') := Lib.hid (fun w => by rw [← hx, ← hy]; exact rWeight_any a w (by omega))
  have C2 : Hid (∀ w, Calls Try.prog 10 #[.string ⟨b.toArray⟩] w fun e w' => e = .returned (.tuple #[.int .i64 p, .int .i64 q]) ∧ w = w') := Lib.hid (fun w => by rw [← hp, ← hq]; exact rWeight_any b w (by omega))
  clear hx hp hy hq ha hb
  rcases Int.lt_trichotomy x p with c | c | c
  · have HR : Hid (gcmp a b = 1) := Lib.hid (by rw [HG.out, if_neg (by omega), if_pos c])
    have e1 : (x == p) = false := by rw [beq_eq_false_iff_ne]; omega
    go_enter Try.func15, Try.ntmps15
    go_wp2_with fail
    refine (C1.out _).mono ?_
    rintro e w' ⟨rfl, rfl⟩
    go_wp2_with fail
    refine (C2.out _).mono ?_
    rintro e w' ⟨rfl, rfl⟩
    go_wp2_with fail
    go_ret
    exact ⟨ret_n HR.out.symm, by trivial⟩
  · subst c
    rcases Int.lt_trichotomy y q with d | d | d
    · have HR : Hid (gcmp a b = 1) := Lib.hid (by rw [HG.out, if_neg (by omega), if_neg (by omega), if_neg (by omega), if_pos d])
      have e1 : (y == q) = false := by rw [beq_eq_false_iff_ne]; omega
      go_enter Try.func15, Try.ntmps15
      go_wp2_with fail
      refine (C1.out _).mono ?_
      rintro e w' ⟨rfl, rfl⟩
      go_wp2_with fail
      refine (C2.out _).mono ?_
      rintro e w' ⟨rfl, rfl⟩
      go_wp2_with fail
      go_ret
      exact ⟨ret_n HR.out.symm, by trivial⟩
    · subst d
      have HR : Hid (gcmp a b = 0) := Lib.hid (by rw [HG.out, if_neg (by omega), if_neg (by omega), if_neg (by omega), if_neg (by omega)])
      go_enter Try.func15, Try.ntmps15
      go_wp2_with fail
      refine (C1.out _).mono ?_
      rintro e w' ⟨rfl, rfl⟩
      go_wp2_with fail
      refine (C2.out _).mono ?_
      rintro e w' ⟨rfl, rfl⟩
      go_wp2_with fail
      go_ret
      exact ⟨ret_n HR.out.symm, by trivial⟩
    · have HR : Hid (gcmp a b = -1) := Lib.hid (by rw [HG.out, if_neg (by omega), if_neg (by omega), if_pos d])
      have e1 : (y == q) = false := by rw [beq_eq_false_iff_ne]; omega
      go_enter Try.func15, Try.ntmps15
      go_wp2_with fail
      refine (C1.out _).mono ?_
      rintro e w' ⟨rfl, rfl⟩
      go_wp2_with fail
      refine (C2.out _).mono ?_
      rintro e w' ⟨rfl, rfl⟩
      go_wp2_with fail
      go_ret
      exact ⟨ret_n HR.out.symm, by trivial⟩
  · have HR : Hid (gcmp a b = -1) := Lib.hid (by rw [HG.out, if_pos c])
    have e1 : (x == p) = false := by rw [beq_eq_false_iff_ne]; omega
    go_enter Try.func15, Try.ntmps15
    go_wp2_with fail
    refine (C1.out _).mono ?_
    rintro e w' ⟨rfl, rfl⟩
    go_wp2_with fail
    refine (C2.out _).mono ?_
    rintro e w' ⟨rfl, rfl⟩
    go_wp2_with fail
    go_ret
    exact ⟨ret_n HR.out.symm, by trivial⟩

theorem cut_star (l : List UInt8) : cutO l 42 = hasStar l ∧ cutA l 42 = l.take (fstar l) ∧ cutB l 42 = l.drop (fstar l + 1) := by
  obtain ⟨h1, h2, h3⟩ := index_ahead l
  have h4 := fstar_le l
  unfold aheadL at h1
  unfold cutO cutA cutB hasStar
  by_cases c : fstar l < l.length
  · rw [if_pos c] at h1
    have e : Lib.indexByte l 42 = fstar l := by omega
    rw [e, if_pos (by omega), if_pos (by omega), decide_eq_true (by omega), decide_eq_true c]
    simp
  · rw [if_neg c] at h1
    have e : Lib.indexByte l 42 = -1 := by omega
    rw [e, if_neg (by omega), if_neg (by omega), decide_eq_false (by omega), decide_eq_false c]
    refine ⟨rfl, ?_, ?_⟩
    · rw [List.take_of_length_le (by omega)]
    · rw [List.drop_of_length_le (by omega)]
theorem has_star (l : List UInt8) : decide (0 ≤ Lib.indexByte l 42) = hasStar l := (cut_star l).1
theorem suffix_iff (s b : List UInt8) (h : b.length ≤ s.length) : Lib.hasSuffix s b = decide (s.drop (s.length - b.length) = b) := by
  unfold Lib.hasSuffix
  rw [Bool.eq_iff_iff, decide_eq_true_eq, List.isSuffixOf_iff_suffix, List.suffix_iff_eq_drop]
  exact eq_comm
theorem prefix_iff (s b : List UInt8) : Lib.hasPrefix s b = decide (s.take b.length = b) := by
  unfold Lib.hasPrefix
  rw [Bool.eq_iff_iff, decide_eq_true_eq, List.isPrefixOf_iff_prefix, List.prefix_iff_eq_take]
  exact eq_comm
theorem tupSB {s : List UInt8} {b : Bool} {s' : List UInt8} {b' : Bool} (h1 : s = s') (h2 : b = b') : Ending.returned (.tuple #[.string ⟨s.toArray⟩, .bool b]) = .returned (.tuple #[.string ⟨s'.toArray⟩, .bool b']) := by rw [h1, h2]

set_option maxHeartbeats 2000000 in
theorem Match_any (key s : List UInt8) (w : World) (hk : key.length ≤ 1000000) (hs : s.length ≤ 1000000) :
    Calls Try.prog 11 #[.string ⟨key.toArray⟩, .string ⟨s.toArray⟩] w fun e w' => e = .returned (.tuple #[.string ⟨(mtchL key s).toArray⟩, .bool (fitsL key s)]) ∧ ∃ n, w' = w.drewN n := by
  obtain ⟨h1, h2, h3⟩ := cut_star key
  have hf := fstar_le key
  obtain ⟨ah, hah⟩ : ∃ x, key.take (fstar key) = x := ⟨_, rfl⟩
  obtain ⟨bh, hbh⟩ : ∃ x, key.drop (fstar key + 1) = x := ⟨_, rfl⟩
  have lah : ah.length = fstar key := by rw [← hah, List.length_take]; omega
  have lbh : bh.length = key.length - fstar key - 1 := by rw [← hbh, List.length_drop]; omega
  have HS : Hid (∀ w, Calls Try.prog 19 #[.string ⟨bh.toArray⟩, .string ⟨#[42]⟩] w fun e w' => e = .returned (.bool (hasStar bh)) ∧ w = w') := Lib.hid (fun w => by rw [← has_star bh]; exact (Try.strings_Contains_one ⟨bh.toArray⟩ 42 w).mono (fun _ _ ⟨p, q⟩ => ⟨p, q.symm⟩))
  have HC : Hid (∀ w, Calls Try.prog 18 #[.string ⟨key.toArray⟩, .string ⟨#[42]⟩] w fun e w' => e = .returned (.tuple #[.string ⟨ah.toArray⟩, .string ⟨bh.toArray⟩, .bool (hasStar key)]) ∧ ∃ n, w' = w.drewN n) := Lib.hid (fun w => by have := cut_any key 42 w hk; rw [h1, h2, h3, hah, hbh] at this; exact this)
  have HP : Hid (∀ w, Calls Try.prog 20 #[.string ⟨s.toArray⟩, .string ⟨ah.toArray⟩] w fun e w' => e = .returned (.bool (Lib.hasPrefix s ah)) ∧ w = w') := Lib.hid (fun w => (Try.strings_HasPrefix ⟨s.toArray⟩ ⟨ah.toArray⟩ w).mono (fun _ _ ⟨p, q⟩ => ⟨p, q.symm⟩))
  have HX : Hid (∀ w, Calls Try.prog 21 #[.string ⟨s.toArray⟩, .string ⟨bh.toArray⟩] w fun e w' => e = .returned (.bool (Lib.hasSuffix s bh)) ∧ w = w') := Lib.hid (fun w => (Try.strings_HasSuffix ⟨s.toArray⟩ ⟨bh.toArray⟩ w (by rw [str_size]; omega)).mono (fun _ _ ⟨p, q⟩ => ⟨p, q.symm⟩))
  have HFF : Hid (fitsL key s = (oneStar key && decide (key.length ≤ s.length ∧ s.take (fstar key) = ah ∧ s.drop (s.length - (key.length - fstar key - 1)) = bh))) := Lib.hid (by unfold fitsL; rw [hah, hbh])
  have HO : Hid (oneStar key = (hasStar key && !hasStar bh)) := Lib.hid (by
    unfold oneStar hasStar; rw [hbh, Bool.eq_iff_iff]; simp)
  have HM : Hid (mtchL key s = if fitsL key s then (s.take (s.length - bh.length)).drop ah.length else []) := Lib.hid (by unfold mtchL midL; rw [lah, lbh])
  have HN : Hid (hasStar key = true → fstar key < key.length) := Lib.hid (fun h => of_decide_eq_true h)
  have HPI := Lib.hid (prefix_iff s ah)
  have HSI := Lib.hid (suffix_iff s bh)
  clear h1 h2 h3 hah hbh
  cases c1 : hasStar key with
  | false =>
    have HR : Hid (fitsL key s = false) := Lib.hid (by rw [HFF.out, HO.out, c1]; rfl)
    have HMR : Hid (mtchL key s = []) := Lib.hid (by rw [HM.out, HR.out]; rfl)
    have HE := Lib.hid c1
    clear c1
    go_enter Try.func11, Try.ntmps11
    go_wp2_with fail
    refine (HC.out _).mono ?_
    rintro e w' ⟨rfl, n, rfl⟩
    rw [HE.out]
    go_wp2_with fail
    go_ret2
    exact ⟨tupSB HMR.out.symm HR.out.symm, n, rfl⟩
  | true =>
    have hlt := HN.out c1
    have hkl : key.length = ah.length + bh.length + 1 := by omega
    have HE := Lib.hid c1
    clear c1
    cases c2 : hasStar bh with
    | true =>
      have HR : Hid (fitsL key s = false) := Lib.hid (by rw [HFF.out, HO.out, c2, HE.out]; rfl)
      have HMR : Hid (mtchL key s = []) := Lib.hid (by rw [HM.out, HR.out]; rfl)
      have HE2 := Lib.hid c2
      clear c2 hkl
      go_enter Try.func11, Try.ntmps11
      go_wp2_with fail
      refine (HC.out _).mono ?_
      rintro e w' ⟨rfl, n, rfl⟩
      rw [HE.out]
      go_wp2_with fail
      refine (HS.out _).mono ?_
      rintro e w' ⟨rfl, rfl⟩
      rw [HE2.out]
      go_wp2_with fail
      go_ret2
      exact ⟨tupSB HMR.out.symm HR.out.symm, n, rfl⟩
    | false =>
      have HE2 := Lib.hid c2
      clear c2
      by_cases c3 : s.length < key.length
      · have HR : Hid (fitsL key s = false) := Lib.hid (by rw [HFF.out, decide_eq_false (by omega), Bool.and_false])
        have HMR : Hid (mtchL key s = []) := Lib.hid (by rw [HM.out, HR.out]; rfl)
        clear hkl lbh lah
        by_cases c4 : s.length ≤ ah.length
        all_goals
          go_enter Try.func11, Try.ntmps11
          go_wp2_with fail
          refine (HC.out _).mono ?_
          rintro e w' ⟨rfl, n, rfl⟩
          rw [HE.out]
          go_wp2_with fail
          refine (HS.out _).mono ?_
          rintro e w' ⟨rfl, rfl⟩
          rw [HE2.out]
          go_wp2_with fail
          go_ret2
          exact ⟨tupSB HMR.out.symm HR.out.symm, n, rfl⟩
      · have c4 : ah.length < s.length := by omega
        have c5 : key.length ≤ s.length := by omega
        have c6 : bh.length ≤ s.length := by omega
        have c7 : ah.length ≤ s.length - bh.length := by omega
        have d1 : decide (s.length ≤ ah.length) = false := by simp; omega
        have d2 : decide (s.length < key.length) = false := by simp; omega
        cases c8 : Lib.hasPrefix s ah with
        | false =>
          have HR : Hid (fitsL key s = false) := Lib.hid (by
            have := HPI.out
            rw [c8, lah] at this
            have h := of_decide_eq_false this.symm
            rw [HFF.out, decide_eq_false (fun k => h k.2.1), Bool.and_false])
          have HMR : Hid (mtchL key s = []) := Lib.hid (by rw [HM.out, HR.out]; rfl)
          have HE3 := Lib.hid c8
          clear c8 hkl lbh lah
          go_enter Try.func11, Try.ntmps11
          go_wp2_with fail
          refine (HC.out _).mono ?_
          rintro e w' ⟨rfl, n, rfl⟩
          rw [HE.out]
          go_wp2_with fail
          refine (HS.out _).mono ?_
          rintro e w' ⟨rfl, rfl⟩
          rw [HE2.out]
          go_wp2_with fail
          refine (HP.out _).mono ?_
          rintro e w' ⟨rfl, rfl⟩
          rw [HE3.out]
          go_wp2_with fail
          go_ret2
          exact ⟨tupSB HMR.out.symm HR.out.symm, n, rfl⟩
        | true =>
          have HE3 := Lib.hid c8
          cases c9 : Lib.hasSuffix s bh with
          | false =>
            have HR : Hid (fitsL key s = false) := Lib.hid (by
              have := HSI.out c6
              rw [c9, lbh] at this
              have h := of_decide_eq_false this.symm
              rw [HFF.out, decide_eq_false (fun k => h k.2.2), Bool.and_false])
            have HMR : Hid (mtchL key s = []) := Lib.hid (by rw [HM.out, HR.out]; rfl)
            have HE4 := Lib.hid c9
            clear c8 c9 hkl lbh lah
            go_enter Try.func11, Try.ntmps11
            go_wp2_with fail
            refine (HC.out _).mono ?_
            rintro e w' ⟨rfl, n, rfl⟩
            rw [HE.out]
            go_wp2_with fail
            refine (HS.out _).mono ?_
            rintro e w' ⟨rfl, rfl⟩
            rw [HE2.out]
            go_wp2_with fail
            refine (HP.out _).mono ?_
            rintro e w' ⟨rfl, rfl⟩
            rw [HE3.out]
            go_wp2_with fail
            refine (HX.out _).mono ?_
            rintro e w' ⟨rfl, rfl⟩
            rw [HE4.out]
            go_wp2_with fail
            go_ret2
            exact ⟨tupSB HMR.out.symm HR.out.symm, n, rfl⟩
          | true =>
            have HR : Hid (fitsL key s = true) := Lib.hid (by
              have h1 := HPI.out
              rw [c8, lah] at h1
              have h2 := HSI.out c6
              rw [c9, lbh] at h2
              rw [HFF.out, HO.out, HE.out, HE2.out, decide_eq_true ⟨c5, of_decide_eq_true h1.symm, of_decide_eq_true h2.symm⟩]; rfl)
            have HMR : Hid (mtchL key s = (s.take (s.length - bh.length)).drop ah.length) := Lib.hid (by rw [HM.out, HR.out]; rfl)
            have HE4 := Lib.hid c9
            clear c8 c9 hkl lbh lah
            have g1 : IntKind.i64.wrap ((s.length : Int) - bh.length) = (s.length : Int) - bh.length := IntWalk.i64_in _ (by omega)
            have g2 : (0 : Int) ≤ (s.length : Int) - bh.length := by omega
            have g3 : ((s.length : Int) - bh.length).toNat = s.length - bh.length := by omega
            have g4 : (ah.length : Int) ≤ (s.length : Int) - bh.length := by omega
            go_enter Try.func11, Try.ntmps11
            go_wp2_with fail
            refine (HC.out _).mono ?_
            rintro e w' ⟨rfl, n, rfl⟩
            rw [HE.out]
            go_wp2_with fail
            refine (HS.out _).mono ?_
            rintro e w' ⟨rfl, rfl⟩
            rw [HE2.out]
            go_wp2_with fail
            refine (HP.out _).mono ?_
            rintro e w' ⟨rfl, rfl⟩
            rw [HE3.out]
            go_wp2_with fail
            refine (HX.out _).mono ?_
            rintro e w' ⟨rfl, rfl⟩
            rw [HE4.out]
            go_wp2_with fail
            go_ret2
            exact ⟨tupSB HMR.out.symm HR.out.symm, n, rfl⟩
end Go.Proofs.Ytiomkjpgoehchaa
