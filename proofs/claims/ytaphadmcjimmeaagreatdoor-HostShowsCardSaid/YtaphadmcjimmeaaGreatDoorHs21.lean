import Derived.Test.YtaphadmcjimmeaaGreatDoorHs10
import Derived.Test.YtaphadmcjimmeaaGreatDoorHs13
import Derived.Test.YtaphadmcjimmeaaGreatDoorHs20
set_option linter.unusedVariables false
set_option linter.unusedSimpArgs false
namespace Go.Proofs.YtaphadmcjimmeaaGreatDoor
open Go.RowKit
theorem getLast_getD (ls : List (List UInt8)) (h : ls ≠ []) : ls.getLast h = ls.getD (ls.length - 1) [] := by
  rw [List.getLast_eq_getElem]
  simp [List.getD, show ls.length - 1 < ls.length by have := List.length_pos_iff.2 h; omega]
theorem dots_split (l : List UInt8) : (1 < (splitB 46 l).length ∧ (splitB 46 l).getD ((splitB 46 l).length - 1) [] = [] ∧ splitB 46 (trimL l) = (splitB 46 l).take ((splitB 46 l).length - 1)) ∨
    (¬ (1 < (splitB 46 l).length ∧ (splitB 46 l).getD ((splitB 46 l).length - 1) [] = []) ∧ splitB 46 (trimL l) = splitB 46 l) := by
  have hL := splitB_last 46 l
  rw [getLast_getD] at hL
  by_cases h : 0 < l.length ∧ byt l (l.length - 1) = 46
  · left
    have ht : trimL l = l.take (l.length - 1) := by unfold trimL; rw [if_pos h]
    have hne : l ≠ [] := List.length_pos_iff.1 h.1
    have e : l = l.take (l.length - 1) ++ [l[l.length - 1]'(by omega)] := by
      have h4 : l.drop (l.length - 1) = (l[l.length - 1]'(by omega)) :: l.drop (l.length - 1 + 1) := List.drop_eq_getElem_cons (by omega)
      rw [List.drop_of_length_le (show l.length ≤ l.length - 1 + 1 by omega)] at h4
      rw [← h4, List.take_append_drop]
    have hb : ((l[l.length - 1]'(by omega)).toNat : Int) = 46 := by
      rw [← h.2]; unfold byt; simp [List.getD, show l.length - 1 < l.length by omega]
    have hs : splitB 46 l = splitB 46 (trimL l) ++ [[]] := by
      rw [ht]
      conv => lhs; rw [e]
      exact splitB_snoc 46 _ hb _
    have hp := (splitB_len 46 (trimL l)).2
    refine ⟨by rw [hs]; simp; omega, hL.2 (.inr ⟨h.2, hne⟩), ?_⟩
    rw [hs]; simp
  · right
    have ht : trimL l = l := by unfold trimL; rw [if_neg h]
    refine ⟨?_, by rw [ht]⟩
    rintro ⟨h1, h2⟩
    rcases hL.1 h2 with h3 | ⟨h3, h4⟩
    · rw [h3] at h1; simp [splitB] at h1
    · exact h ⟨List.length_pos_iff.2 h4, h3⟩
set_option maxHeartbeats 2000000 in
theorem dots_any (l : List UInt8) (w : World) (hm : l.length ≤ 1000000) :
    Calls Tryz.prog 56 #[.string ⟨l.toArray⟩] w fun e w' => ∃ v', e = .returned v' ∧ IsStr w' v' (splitB 46 (trimL l)) ∧ Below w.heap.size w w' := by
  have HP := Lib.hid (Parts_any l 46 · hm (by decide) (by decide))
  have HD := Lib.hid (dots_split l)
  have hlen := splitB_len 46 l
  obtain ⟨ls, hls⟩ : ∃ ls, splitB 46 l = ls := ⟨_, rfl⟩
  rw [hls] at HP HD hlen
  clear hls
  obtain ⟨n1, n2⟩ := hlen
  obtain ⟨tr, htr⟩ : ∃ tr, splitB 46 (trimL l) = tr := ⟨_, rfl⟩
  rw [htr] at HD
  rw [htr]
  clear htr
  go_enter Tryz.func56, Tryz.ntmps56
  go_wp2_with fail
  refine (HP.out _).mono ?_
  rintro e w1 ⟨v1, rfl, hown1, hb1⟩
  have hi := hown1.isStr
  have HI := Lib.hid hi
  have HB1 := Lib.hid hb1
  obtain ⟨ad, cap, rfl, hc1, hc2, -, hs⟩ := hi
  unfold maxLen at hc2
  obtain ⟨b, off, rfl, hc⟩ := hs (by omega)
  have hcell : w1.cell? ⟨b, off + (ls.length - 1), none⟩ = some (.string ⟨(ls.getD (ls.length - 1) []).toArray⟩) := hc.at _ (by omega)
  have HT : Hid (IsStr w1 (.slice (some ⟨b, off, none⟩) (ls.length - 1) cap) (ls.take (ls.length - 1))) := Lib.hid (IsStr.takeAt hc _ (by omega) hc1 (by unfold maxLen; omega))
  obtain ⟨p, hp⟩ : ∃ p, ls.getD (ls.length - 1) [] = p := ⟨_, rfl⟩
  rw [hp] at hcell HD
  clear hp hc hs hown1 hb1
  have g1 : IntKind.i64.wrap ((ls.length : Int) - 1) = (ls.length : Int) - 1 := IntWalk.i64_in _ (by omega)
  have g2 : (0 : Int) ≤ (ls.length : Int) - 1 := by omega
  have g3 : ((ls.length : Int) - 1).toNat = ls.length - 1 := by omega
  have g4 : (ls.length : Int) - 1 < ls.length := by omega
  by_cases h1 : 1 < ls.length
  · have h1I : (1 : Int) < (ls.length : Int) := by omega
    by_cases h2 : p = []
    · have HR : Hid (tr = ls.take (ls.length - 1)) := Lib.hid (by rcases HD.out with ⟨_, _, h⟩ | ⟨h, _⟩; exact h; exact absurd ⟨h1, h2⟩ h)
      have g5 : (ls.length : Int) - 1 ≤ (cap : Int) := by omega
      subst h2
      go_wp2_with fail
      go_ret
      exact ⟨_, rfl, by rw [HR.out]; exact HT.out, HB1.out⟩
    · have HR : Hid (tr = ls) := Lib.hid (by rcases HD.out with ⟨_, h, _⟩ | ⟨_, h⟩; exact absurd h h2; exact h)
      have g5 : (p == []) = false := by rw [beq_eq_false_iff_ne]; exact h2
      have g6 : p.isEmpty = false := by rw [List.isEmpty_eq_false_iff]; exact h2
      clear h2
      go_wp2_with fail
      go_ret
      exact ⟨_, rfl, by rw [HR.out]; exact HI.out, HB1.out⟩
  · have HR : Hid (tr = ls) := Lib.hid (by rcases HD.out with ⟨h, _, _⟩ | ⟨_, h⟩; exact absurd h h1; exact h)
    have h1I : decide ((1 : Int) < (ls.length : Int)) = false := by simp; omega
    have h1J : ¬ (1 : Int) < (ls.length : Int) := by omega
    go_wp2_with fail
    go_ret
    exact ⟨_, rfl, by rw [HR.out]; exact HI.out, HB1.out⟩
theorem dig10 (c : Int) : (0 ≤ hexN c ∧ hexN c < 10) ↔ (48 ≤ c ∧ c ≤ 57) := by
  rcases hexN_class c with h | h | h | h | h | h | h <;> omega
theorem getD_lastD : ∀ (m : List (List UInt8)), m ≠ [] → m.getD (m.length - 1) [] = m.getLastD [] := by
  intro m h
  rw [← getLast_getD m h]
  cases m with
  | nil => exact absurd rfl h
  | cons a m => rfl
def lastP (l : List UInt8) : List UInt8 := (splitB 46 (trimL l)).getLastD []
theorem lastP_len (l : List UInt8) : (lastP l).length ≤ l.length := by
  unfold lastP
  rw [splitB_lastK]
  have : (trimL l).length ≤ l.length := by unfold trimL; split <;> simp
  simp; omega
theorem endsB_hex {t : List UInt8} (h : hexP t = true) : endsB t = numO t := by
  unfold endsB numO baseN bodyL
  rw [if_pos h, if_pos h, if_pos h, h]; rfl
theorem endsB_dec {t : List UInt8} (h : hexP t = false) : endsB t = (decide (0 < t.length) && onlyB 10 t) := by
  unfold endsB
  rw [if_neg (by rw [h]; simp)]
set_option maxHeartbeats 4000000 in
theorem rEnds_any (l : List UInt8) (w : World) (hm : l.length ≤ 1000000) :
    Calls Tryz.prog 31 #[.string ⟨l.toArray⟩] w fun e w' => e = .returned (.bool (endsB (lastP l))) ∧ Below w.heap.size w w' := by
  have HP := Lib.hid (dots_any l · hm)
  have hlen := (splitB_len 46 (trimL l)).2
  have htl := lastP_len l
  have HL : Hid ((splitB 46 (trimL l)).getD ((splitB 46 (trimL l)).length - 1) [] = lastP l) := Lib.hid (by
    unfold lastP
    exact getD_lastD _ (splitB_ne 46 (trimL l)))
  obtain ⟨ls, hls⟩ : ∃ ls, splitB 46 (trimL l) = ls := ⟨_, rfl⟩
  have hlm : ls.length ≤ 1000001 := by
    have := (splitB_len 46 (trimL l)).1
    have h2 : (trimL l).length ≤ l.length := by unfold trimL; split <;> simp
    rw [hls] at this; omega
  rw [hls] at HP HL hlen
  clear hls
  obtain ⟨t, ht⟩ : ∃ t, lastP l = t := ⟨_, rfl⟩
  rw [ht] at HL htl
  rw [ht]
  clear ht
  have HN := Lib.hid (rnumber_any t · (by omega))
  have b0 := byt_lo t 0
  have b1 := byt_hi t 0
  have b2 := byt_lo t 1
  have b3 := byt_hi t 1
  have HST := Lib.hid (onlyB_step 10 t)
  have tm : t.length ≤ 1000000 := by omega
  go_enter Tryz.func31, Tryz.ntmps31
  go_wp2_with fail
  refine (HP.out _).mono ?_
  rintro e w1 ⟨v1, rfl, hi, hb1⟩
  have HB1 := Lib.hid hb1
  obtain ⟨ad, cap, rfl, hc1, hc2, -, hs⟩ := hi
  unfold maxLen at hc2
  obtain ⟨b, off, rfl, hc⟩ := hs (by omega)
  have hcell : w1.cell? ⟨b, off + (ls.length - 1), none⟩ = some (.string ⟨(ls.getD (ls.length - 1) []).toArray⟩) := hc.at _ (by omega)
  rw [HL.out] at hcell
  clear hc hs hb1
  have g1 : IntKind.i64.wrap ((ls.length : Int) - 1) = (ls.length : Int) - 1 := IntWalk.i64_in _ (by omega)
  have g2 : (0 : Int) ≤ (ls.length : Int) - 1 := by omega
  have g3 : ((ls.length : Int) - 1).toNat = ls.length - 1 := by omega
  have g4 : (ls.length : Int) - 1 < ls.length := by omega
  cases hp : hexP t with
  | true =>
    have hq : 2 ≤ t.length ∧ byt t 0 = 48 ∧ (byt t 1 = 120 ∨ byt t 1 = 88) := by unfold hexP at hp; exact of_decide_eq_true hp
    have HE := Lib.hid (endsB_hex hp)
    obtain ⟨q1, q2, q3⟩ := hq
    have e2 : (byt t 0 == 48) = true := by rw [beq_iff_eq]; exact q2
    have c1 : (2 : Int) ≤ (t.length : Int) := by omega
    have c2 : 0 < t.length := by omega
    have c3 : 1 < t.length := by omega
    clear hp
    rcases q3 with q3 | q3
    · have e3 : (byt t 1 == 120) = true := by rw [beq_iff_eq]; exact q3
      clear q1 q2 q3 b0 b1 b2 b3
      go_wp2_with fail
      refine (HN.out _).mono ?_
      rintro e w' ⟨rfl, rfl⟩
      go_wp2_with fail
      go_ret
      exact ⟨ret_b HE.out.symm, HB1.out⟩
    · have e3 : (byt t 1 == 120) = false := by rw [beq_eq_false_iff_ne]; omega
      have e4 : (byt t 1 == 88) = true := by rw [beq_iff_eq]; exact q3
      clear q1 q2 q3 b0 b1 b2 b3
      go_wp2_with fail
      refine (HN.out _).mono ?_
      rintro e w' ⟨rfl, rfl⟩
      go_wp2_with fail
      go_ret
      exact ⟨ret_b HE.out.symm, HB1.out⟩
  | false =>
    have hq : ¬ (2 ≤ t.length ∧ byt t 0 = 48 ∧ (byt t 1 = 120 ∨ byt t 1 = 88)) := by unfold hexP at hp; exact of_decide_eq_false hp
    have HE := Lib.hid (endsB_dec hp)
    clear hp
    have hw : (t.length < 2) ∨ (2 ≤ t.length ∧ byt t 0 ≠ 48) ∨ (2 ≤ t.length ∧ byt t 0 = 48 ∧ byt t 1 ≠ 120 ∧ byt t 1 ≠ 88) := by omega
    have c1 : t.length < 2 ∨ (2 : Int) ≤ (t.length : Int) := by omega
    clear hq
    rcases hw with q1 | ⟨q1, q2⟩ | ⟨q1, q2, q3, q4⟩
    all_goals
      first
        | (have e2 : (byt t 0 == 48) = true := by (rw [beq_iff_eq]; exact q2)
           have e3 : (byt t 1 == 120) = false := by (rw [beq_eq_false_iff_ne]; exact q3)
           have e4 : (byt t 1 == 88) = false := by (rw [beq_eq_false_iff_ne]; exact q4)
           have c1 : (2 : Int) ≤ (t.length : Int) := by omega
           have c2 : 0 < t.length := by omega
           have c3 : 1 < t.length := by omega
           clear q2 q3 q4 b0 b1 b2 b3)
        | (have e2 : (byt t 0 == 48) = false := by (rw [beq_eq_false_iff_ne]; exact q2)
           have c1 : (2 : Int) ≤ (t.length : Int) := by omega
           have c2 : 0 < t.length := by omega
           clear q2 b0 b1 b2 b3)
        | (have c1 : ¬ (2 : Int) ≤ (t.length : Int) := by omega
           have c3 : (t.length : Int) < 2 := by omega
           clear b0 b1 b2 b3)
      clear q1
      go_wp2_with fail
      go_loopw [7] (fun ti wr => ∃ (i : Nat), i ≤ t.length ∧ ti = .int .i64 i ∧ Hid (onlyB 10 t = onlyB 10 (t.drop i)) ∧ wr = w1) (fun ti _ => t.length - (intOf ti).toNat)
      case atStart => exact ⟨0, by omega, rfl, Lib.hid rfl, rfl⟩
      case round =>
        obtain ⟨i, hi, rfl, HO, rfl⟩ := hrel
        by_cases hlt : i < t.length
        · have hltI : (i : Int) < (t.length : Int) := by omega
          have c0 := byt_lo t i
          have c1 := byt_hi t i
          have HS := Lib.hid (HO.out.trans (HST.out i hlt))
          have HDG := Lib.hid (dig10 (byt t i))
          obtain ⟨c, hcc⟩ : ∃ c, byt t i = c := ⟨_, rfl⟩
          rw [hcc] at c0 c1 HS HDG
          by_cases x1 : 48 ≤ c
          · by_cases x2 : c ≤ 57
            · have H3 : Hid (onlyB 10 t = onlyB 10 (t.drop (i + 1))) := Lib.hid (by rw [HS.out, decide_eq_true (HDG.out.2 ⟨x1, x2⟩)]; rfl)
              go_wp2_with fail
              exact ⟨⟨i + 1, by omega, by go_num, H3, by trivial⟩, by simp [intOf]; omega⟩
            · have x3 : 57 < c := by omega
              have H3 : Hid (onlyB 10 t = false) := Lib.hid (by rw [HS.out, decide_eq_false (fun h => x2 (HDG.out.1 h).2)]; rfl)
              go_wp2_with fail
              go_ret
              exact ⟨ret_b (by rw [HE.out, H3.out, Bool.and_false]), HB1.out⟩
          · have x3 : c < 48 := by omega
            have H3 : Hid (onlyB 10 t = false) := Lib.hid (by rw [HS.out, decide_eq_false (fun h => x1 (HDG.out.1 h).1)]; rfl)
            go_wp2_with fail
            go_ret
            exact ⟨ret_b (by rw [HE.out, H3.out, Bool.and_false]), HB1.out⟩
        · obtain rfl : i = t.length := by omega
          have H1 : Hid (onlyB 10 t = true) := Lib.hid (by rw [HO.out, List.drop_length]; rfl)
          by_cases hD0 : 0 < t.length
          · have hD0I : (0 : Int) < (t.length : Int) := by omega
            go_wp2_with fail
            go_ret
            exact ⟨ret_b (by rw [HE.out, H1.out, decide_eq_true hD0]; rfl), HB1.out⟩
          · have hD0I : (t.length : Int) = 0 := by omega
            go_wp2_with fail
            go_ret
            exact ⟨ret_b (by rw [HE.out, decide_eq_false hD0]; rfl), HB1.out⟩
end Go.Proofs.YtaphadmcjimmeaaGreatDoor
