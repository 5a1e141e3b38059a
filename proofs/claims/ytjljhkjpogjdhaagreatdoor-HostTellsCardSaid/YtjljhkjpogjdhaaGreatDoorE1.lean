/- What the proof needs, part 1. -/
import Derived.Test.YtjljhkjpogjdhaaGreatDoorIpE2
import Derived.Test.YtjljhkjpogjdhaaGreatDoorIpC
import Derived.Test.YtjljhkjpogjdhaaGreatDoorB1
import Derived.Test.YtjljhkjpogjdhaaGreatDoorIpD
/- Contracts of ref8.dots, Ends. -/
section
set_option linter.unusedVariables false
set_option linter.unusedSimpArgs false
namespace Go.Proofs.YtjljhkjpogjdhaaGreatDoor
open Go.RowKit

theorem getLast_getD (ls : List (List UInt8)) (h : ls ≠ []) : ls.getLast h = ls.getD (ls.length - 1) [] := by
  rw [List.getLast_eq_getElem]
  simp [List.getD, show ls.length - 1 < ls.length by have := List.length_pos_iff.2 h; omega]
theorem dots_split (l : List UInt8) : (1 < (splitB 46 l).length ∧ (splitB 46 l).getD ((splitB 46 l).length - 1) [] = [] ∧ splitB 46 (trimL l) = (splitB 46 l).take ((splitB 46 l).length - 1)) ∨
    (¬ (1 < (splitB 46 l).length ∧ (splitB 46 l).getD ((splitB 46 l).length - 1) [] = []) ∧ splitB 46 (trimL l) = splitB 46 l) := by
  have hL := splitB_last 46 l
  rw [getLast_getD] at hL
  by_cases h : 0 < l.length ∧ byt l (l.length - 1) = 46
  · left
    have ht : trimL l = l.take (l.length - 1) := by unfold trimL; rw [if_pos h]
    have hne : l ≠ [] := List.length_pos_iff.1 h.1
    have e : l = l.take (l.length - 1) ++ [l[l.length - 1]'(by omega)] := by
      have h4 : l.drop (l.length - 1) = (l[l.length - 1]'(by omega)) :: l.drop (l.length - 1 + 1) := List.drop_eq_getElem_cons (by omega)
      rw [List.drop_of_length_le (show l.length ≤ l.length - 1 + 1 by omega)] at h4
      rw [← h4, List.take_append_drop]
    have hb : ((l[l.length - 1]'(by omega)).toNat : Int) = 46 := by
      rw [← h.2]; unfold byt; simp [List.getD, show l.length - 1 < l.length by omega]
    have hs : splitB 46 l = splitB 46 (trimL l) ++ [[]] := by
      rw [ht]
      conv => lhs; rw [e]
      exact splitB_snoc 46 _ hb _
    have hp := (splitB_len 46 (trimL l)).2
    refine ⟨by rw [hs]; simp; omega, hL.2 (.inr ⟨h.2, hne⟩), ?_⟩
    rw [hs]; simp
  · right
    have ht : trimL l = l := by unfold trimL; rw [if_neg h]
    refine ⟨?_, by rw [ht]⟩
    rintro ⟨h1, h2⟩
    rcases hL.1 h2 with h3 | ⟨h3, h4⟩
    · rw [h3] at h1; simp [splitB] at h1
    · exact h ⟨List.length_pos_iff.2 h4, h3⟩
set_option maxHeartbeats 2000000 in
theorem dots_any (l : List UInt8) (w : World) (hm : l.length ≤ 1000000) :
    Calls Tryz.prog 51 #[.string ⟨l.toArray⟩] w fun e w' => ∃ v', e = .returned v' ∧ IsStr w' v' (splitB 46 (trimL l)) ∧ Below w.heap.size w w' := by
  have HP := Lib.hid (Parts_any l 46 · hm (by decide) (by decide))
  have HD := Lib.hid (dots_split l)
  have hlen := splitB_len 46 l
  obtain ⟨ls, hls⟩ : ∃ ls, splitB 46 l = ls := ⟨_, rfl⟩
  rw [hls] at HP HD hlen
  clear hls
  obtain ⟨n1, n2⟩ := hlen
  obtain ⟨tr, htr⟩ : ∃ tr, splitB 46 (trimL l) = tr := ⟨_, rfl⟩
  rw [htr] at HD
  rw [htr]
  clear htr
  go_enter Tryz.func51, Tryz.ntmps51
  go_wp2_with fail
  refine (HP.out _).mono ?_
  rintro e w1 ⟨v1, rfl, hown1, hb1⟩
  have hi := hown1.isStr
  have HI := Lib.hid hi
  have HB1 := Lib.hid hb1
  obtain ⟨ad, cap, rfl, hc1, hc2, -, hs⟩ := hi
  unfold maxLen at hc2
  obtain ⟨b, off, rfl, hc⟩ := hs (by omega)
  have hcell : w1.cell? ⟨b, off + (ls.length - 1), none⟩ = some (.string ⟨(ls.getD (ls.length - 1) []).toArray⟩) := hc.at _ (by omega)
  have HT : Hid (IsStr w1 (.slice (some ⟨b, off, none⟩) (ls.length - 1) cap) (ls.take (ls.length - 1))) := Lib.hid (IsStr.takeAt hc _ (by omega) hc1 (by unfold maxLen; omega))
  obtain ⟨p, hp⟩ : ∃ p, ls.getD (ls.length - 1) [] = p := ⟨_, rfl⟩
  rw [hp] at hcell HD
  clear hp hc hs hown1 hb1
  have g1 : IntKind.i64.wrap ((ls.length : Int) - 1) = (ls.length : Int) - 1 := IntWalk.i64_in _ (by omega)
  have g2 : (0 : Int) ≤ (ls.length : Int) - 1 := by omega
  have g3 : ((ls.length : Int) - 1).toNat = ls.length - 1 := by omega
  have g4 : (ls.length : Int) - 1 < ls.length := by omega
  by_cases h1 : 1 < ls.length
  · have h1I : (1 : Int) < (ls.length : Int) := by omega
    by_cases h2 : p = []
    · have HR : Hid (tr = ls.take (ls.length - 1)) := Lib.hid (by rcases HD.out with ⟨_, _, h⟩ | ⟨h, _⟩; exact h; exact absurd ⟨h1, h2⟩ h)
      have g5 : (ls.length : Int) - 1 ≤ (cap : Int) := by omega
      subst h2
      go_wp2_with fail
      go_ret
      exact ⟨_, rfl, by rw [HR.out]; exact HT.out, HB1.out⟩
    · have HR : Hid (tr = ls) := Lib.hid (by rcases HD.out with ⟨_, h, _⟩ | ⟨_, h⟩; exact absurd h h2; exact h)
      have g5 : (p == []) = false := by rw [beq_eq_false_iff_ne]; exact h2
      have g6 : p.isEmpty = false := by rw [List.isEmpty_eq_false_iff]; exact h2
      clear h2
      go_wp2_with fail
      go_ret
      exact ⟨_, rfl, by rw [HR.out]; exact HI.out, HB1.out⟩
  · have HR : Hid (tr = ls) := Lib.hid (by rcases HD.out with ⟨h, _, _⟩ | ⟨_, h⟩; exact absurd h h1; exact h)
    have h1I : decide ((1 : Int) < (ls.length : Int)) = false := by simp; omega
    have h1J : ¬ (1 : Int) < (ls.length : Int) := by omega
    go_wp2_with fail
    go_ret
    exact ⟨_, rfl, by rw [HR.out]; exact HI.out, HB1.out⟩
end Go.Proofs.YtjljhkjpogjdhaaGreatDoor
end
/- Contracts of ref8.Ends, Parse. -/
section
set_option linter.unusedVariables false
set_option linter.unusedSimpArgs false
namespace Go.Proofs.YtjljhkjpogjdhaaGreatDoor
open Go.RowKit

theorem dig10 (c : Int) : (0 ≤ hexN c ∧ hexN c < 10) ↔ (48 ≤ c ∧ c ≤ 57) := by
  rcases hexN_class c with h | h | h | h | h | h | h <;> omega
theorem getD_lastD : ∀ (m : List (List UInt8)), m ≠ [] → m.getD (m.length - 1) [] = m.getLastD [] := by
  intro m h
  rw [← getLast_getD m h]
  cases m with
  | nil => exact absurd rfl h
  | cons a m => rfl
def lastP (l : List UInt8) : List UInt8 := (splitB 46 (trimL l)).getLastD []
theorem lastP_len (l : List UInt8) : (lastP l).length ≤ l.length := by
  unfold lastP
  rw [splitB_lastK]
  have : (trimL l).length ≤ l.length := by unfold trimL; split <;> simp
  simp; omega
theorem endsB_hex {t : List UInt8} (h : hexP t = true) : endsB t = numO t := by
  unfold endsB numO baseN bodyL
  rw [if_pos h, if_pos h, if_pos h, h]; rfl
theorem endsB_dec {t : List UInt8} (h : hexP t = false) : endsB t = (decide (0 < t.length) && onlyB 10 t) := by
  unfold endsB
  rw [if_neg (by rw [h]; simp)]
set_option maxHeartbeats 4000000 in
theorem rEnds_any (l : List UInt8) (w : World) (hm : l.length ≤ 1000000) :
    Calls Tryz.prog 23 #[.string ⟨l.toArray⟩] w fun e w' => e = .returned (.bool (endsB (lastP l))) ∧ Below w.heap.size w w' := by
  have HP := Lib.hid (dots_any l · hm)
  have hlen := (splitB_len 46 (trimL l)).2
  have htl := lastP_len l
  have HL : Hid ((splitB 46 (trimL l)).getD ((splitB 46 (trimL l)).length - 1) [] = lastP l) := Lib.hid (by
    unfold lastP
    exact getD_lastD _ (splitB_ne 46 (trimL l)))
  obtain ⟨ls, hls⟩ : ∃ ls, splitB 46 (trimL l) = ls := ⟨_, rfl⟩
  have hlm : ls.length ≤ 1000001 := by
    have := (splitB_len 46 (trimL l)).1
    have h2 : (trimL l).length ≤ l.length := by unfold trimL; split <;> simp
    rw [hls] at this; omega
  rw [hls] at HP HL hlen
  clear hls
  obtain ⟨t, ht⟩ : ∃ t, lastP l = t := ⟨_, rfl⟩
  rw [ht] at HL htl
  rw [ht]
  clear ht
  have HN := Lib.hid (rnumber_any t · (by omega))
  have b0 := byt_lo t 0
  have b1 := byt_hi t 0
  have b2 := byt_lo t 1
  have b3 := byt_hi t 1
  have HST := Lib.hid (onlyB_step 10 t)
  have tm : t.length ≤ 1000000 := by omega
  go_enter Tryz.func23, Tryz.ntmps23
  go_wp2_with fail
  refine (HP.out _).mono ?_
  rintro e w1 ⟨v1, rfl, hi, hb1⟩
  have HB1 := Lib.hid hb1
  obtain ⟨ad, cap, rfl, hc1, hc2, -, hs⟩ := hi
  unfold maxLen at hc2
  obtain ⟨b, off, rfl, hc⟩ := hs (by omega)
  have hcell : w1.cell? ⟨b, off + (ls.length - 1), none⟩ = some (.string ⟨(ls.getD (ls.length - 1) []).toArray⟩) := hc.at _ (by omega)
  rw [HL.out] at hcell
  clear hc hs hb1
  have g1 : IntKind.i64.wrap ((ls.length : Int) - 1) = (ls.length : Int) - 1 := IntWalk.i64_in _ (by omega)
  have g2 : (0 : Int) ≤ (ls.length : Int) - 1 := by omega
  have g3 : ((ls.length : Int) - 1).toNat = ls.length - 1 := by omega
  have g4 : (ls.length : Int) - 1 < ls.length := by omega
  cases hp : hexP t with
  | true =>
    have hq : 2 ≤ t.length ∧ byt t 0 = 48 ∧ (byt t 1 = 120 ∨ byt t 1 = 88) := by unfold hexP at hp; exact of_decide_eq_true hp
    have HE := Lib.hid (endsB_hex hp)
    obtain ⟨q1, q2, q3⟩ := hq
    have e2 : (byt t 0 == 48) = true := by rw [beq_iff_eq]; exact q2
    have c1 : (2 : Int) ≤ (t.length : Int) := by omega
    have c2 : 0 < t.length := by omega
    have c3 : 1 < t.length := by omega
    clear hp
    rcases q3 with q3 | q3
    · have e3 : (byt t 1 == 120) = true := by rw [beq_iff_eq]; exact q3
      clear q1 q2 q3 b0 b1 b2 b3
      go_wp2_with fail
      refine (HN.out _).mono ?_
      rintro e w' ⟨rfl, rfl⟩
      go_wp2_with fail
      go_ret
      exact ⟨ret_b HE.out.symm, HB1.out⟩
    · have e3 : (byt t 1 == 120) = false := by rw [beq_eq_false_iff_ne]; omega
      have e4 : (byt t 1 == 88) = true := by rw [beq_iff_eq]; exact q3
      clear q1 q2 q3 b0 b1 b2 b3
      go_wp2_with fail
      refine (HN.out _).mono ?_
      rintro e w' ⟨rfl, rfl⟩
      go_wp2_with fail
      go_ret
      exact ⟨ret_b HE.out.symm, HB1.out⟩
  | false =>
    have hq : ¬ (2 ≤ t.length ∧ byt t 0 = 48 ∧ (byt t 1 = 120 ∨ byt t 1 = 88)) := by unfold hexP at hp; exact of_decide_eq_false hp
    have HE := Lib.hid (endsB_dec hp)
    clear hp
    have hw : (t.length < 2) ∨ (2 ≤ t.length ∧ byt t 0 ≠ 48) ∨ (2 ≤ t.length ∧ byt t 0 = 48 ∧ byt t 1 ≠ 120 ∧ byt t 1 ≠ 88) := by omega
    have c1 : t.length < 2 ∨ (2 : Int) ≤ (t.length : Int) := by omega
    clear hq
    rcases hw with q1 | ⟨q1, q2⟩ | ⟨q1, q2, q3, q4⟩
    all_goals
      first
        | (have e2 : (byt t 0 == 48) = true := by (rw [beq_iff_eq]; exact q2)
           have e3 : (byt t 1 == 120) = false := by (rw [beq_eq_false_iff_ne]; exact q3)
           have e4 : (byt t 1 == 88) = false := by (rw [beq_eq_false_iff_ne]; exact q4)
           have c1 : (2 : Int) ≤ (t.length : Int) := by omega
           have c2 : 0 < t.length := by omega
           have c3 : 1 < t.length := by omega
           clear q2 q3 q4 b0 b1 b2 b3)
        | (have e2 : (byt t 0 == 48) = false := by (rw [beq_eq_false_iff_ne]; exact q2)
           have c1 : (2 : Int) ≤ (t.length : Int) := by omega
           have c2 : 0 < t.length := by omega
           clear q2 b0 b1 b2 b3)
        | (have c1 : ¬ (2 : Int) ≤ (t.length : Int) := by omega
           have c3 : (t.length : Int) < 2 := by omega
           clear b0 b1 b2 b3)
      clear q1
      go_wp2_with fail
      go_loopw [7] (fun ti wr => ∃ (i : Nat), i ≤ t.length ∧ ti = .int .i64 i ∧ Hid (onlyB 10 t = onlyB 10 (t.drop i)) ∧ wr = w1) (fun ti _ => t.length - (intOf ti).toNat)
      case atStart => exact ⟨0, by omega, rfl, Lib.hid rfl, rfl⟩
      case round =>
        obtain ⟨i, hi, rfl, HO, rfl⟩ := hrel
        by_cases hlt : i < t.length
        · have hltI : (i : Int) < (t.length : Int) := by omega
          have c0 := byt_lo t i
          have c1 := byt_hi t i
          have HS := Lib.hid (HO.out.trans (HST.out i hlt))
          have HDG := Lib.hid (dig10 (byt t i))
          obtain ⟨c, hcc⟩ : ∃ c, byt t i = c := ⟨_, rfl⟩
          rw [hcc] at c0 c1 HS HDG
          by_cases x1 : 48 ≤ c
          · by_cases x2 : c ≤ 57
            · have H3 : Hid (onlyB 10 t = onlyB 10 (t.drop (i + 1))) := Lib.hid (by rw [HS.out, decide_eq_true (HDG.out.2 ⟨x1, x2⟩)]; rfl)
              go_wp2_with fail
              exact ⟨⟨i + 1, by omega, by go_num, H3, by trivial⟩, by simp [intOf]; omega⟩
            · have x3 : 57 < c := by omega
              have H3 : Hid (onlyB 10 t = false) := Lib.hid (by rw [HS.out, decide_eq_false (fun h => x2 (HDG.out.1 h).2)]; rfl)
              go_wp2_with fail
              go_ret
              exact ⟨ret_b (by rw [HE.out, H3.out, Bool.and_false]), HB1.out⟩
          · have x3 : c < 48 := by omega
            have H3 : Hid (onlyB 10 t = false) := Lib.hid (by rw [HS.out, decide_eq_false (fun h => x1 (HDG.out.1 h).1)]; rfl)
            go_wp2_with fail
            go_ret
            exact ⟨ret_b (by rw [HE.out, H3.out, Bool.and_false]), HB1.out⟩
        · obtain rfl : i = t.length := by omega
          have H1 : Hid (onlyB 10 t = true) := Lib.hid (by rw [HO.out, List.drop_length]; rfl)
          by_cases hD0 : 0 < t.length
          · have hD0I : (0 : Int) < (t.length : Int) := by omega
            go_wp2_with fail
            go_ret
            exact ⟨ret_b (by rw [HE.out, H1.out, decide_eq_true hD0]; rfl), HB1.out⟩
          · have hD0I : (t.length : Int) = 0 := by omega
            go_wp2_with fail
            go_ret
            exact ⟨ret_b (by rw [HE.out, decide_eq_false hD0]; rfl), HB1.out⟩
end Go.Proofs.YtjljhkjpogjdhaaGreatDoor
end
/- The contract of ref8.Parse. -/
section
set_option linter.unusedVariables false
set_option linter.unusedSimpArgs false
namespace Go.Proofs.YtjljhkjpogjdhaaGreatDoor
open Go.RowKit

theorem parseL_long : ∀ (ps : List (List UInt8)) (left : Nat) (sum : Int), 1 ≤ left → left < ps.length → parseL ps left sum = (0, false) := by
  intro ps
  induction ps with
  | nil => intro left sum _ h; simp at h
  | cons p ps ih =>
    intro left sum h1 h2
    cases hn : numO p with
    | false => exact parse_bad hn
    | true =>
      have hps : ps ≠ [] := by intro h; subst h; simp at h2; omega
      rw [parse_on hn hps]
      by_cases h : left = 1 ∨ 255 < numV p
      · rw [if_pos h]
      · rw [if_neg h]; exact ih _ _ (by omega) (by simp at h2; omega)
def ParseAt (ls : List (List UInt8)) (i : Nat) (n : Int) : Prop :=
  (i < ls.length → ∃ sum, parseL ls 4 0 = parseL (ls.drop i) (4 - i) sum ∧ n = sum * 2 ^ (8 * (4 - i)) ∧ 0 ≤ sum ∧ sum < 2 ^ (8 * i)) ∧ (i = ls.length → parseL ls 4 0 = (n, true))
theorem pa_start (ls : List (List UInt8)) (h : 0 < ls.length) : ParseAt ls 0 0 := ⟨fun _ => ⟨0, rfl, rfl, by decide, by decide⟩, fun h2 => by omega⟩
theorem drop_at {ls : List (List UInt8)} {i : Nat} (hi : i < ls.length) : ls.drop i = ls.getD i [] :: ls.drop (i + 1) := by
  rw [List.drop_eq_getElem_cons hi]; simp [List.getD, hi]
theorem pa_bad {ls : List (List UInt8)} {i : Nat} {n : Int} (h : ParseAt ls i n) (hi : i < ls.length) (hb : numO (ls.getD i []) = false) : parseL ls 4 0 = (0, false) := by
  obtain ⟨sum, h1, -⟩ := h.1 hi
  rw [h1, drop_at hi, parse_bad hb]
theorem pa_last {ls : List (List UInt8)} {i : Nat} {n : Int} (h : ParseAt ls i n) (hi : i + 1 = ls.length) (hb : numO (ls.getD i []) = true) :
    (2 ^ (8 * (4 - i)) ≤ numV (ls.getD i []) → parseL ls 4 0 = (0, false)) ∧ (numV (ls.getD i []) < 2 ^ (8 * (4 - i)) → ParseAt ls (i + 1) (n + numV (ls.getD i []))) := by
  obtain ⟨sum, h1, h2, h3, h4⟩ := h.1 (by omega)
  have hd : ls.drop i = [ls.getD i []] := by rw [drop_at (by omega), List.drop_of_length_le (by omega)]
  rw [hd, parse_end hb] at h1
  refine ⟨fun hc => by rw [h1, if_pos hc], fun hc => ⟨fun h => by omega, fun _ => ?_⟩⟩
  rw [h1, if_neg (by omega), h2]
theorem pa_mid {ls : List (List UInt8)} {i : Nat} {n : Int} (h : ParseAt ls i n) (hi : i + 1 < ls.length) (h4 : ls.length ≤ 4) (hb : numO (ls.getD i []) = true) :
    (256 ≤ numV (ls.getD i []) → parseL ls 4 0 = (0, false)) ∧ (numV (ls.getD i []) < 256 → ParseAt ls (i + 1) (n + numV (ls.getD i []) * 2 ^ (8 * (3 - i)))) := by
  obtain ⟨sum, h1, h2, h3, h5⟩ := h.1 (by omega)
  have hne : ls.drop (i + 1) ≠ [] := by rw [Ne, List.drop_eq_nil_iff]; omega
  obtain ⟨v0, -⟩ := numV_bd (ls.getD i [])
  rw [drop_at (by omega), parse_on hb hne] at h1
  generalize numV (ls.getD i []) = x at *
  refine ⟨fun hc => by rw [h1, if_pos (.inr (by omega))], fun hc => ⟨fun _ => ⟨sum * 256 + x, ?_, ?_, by omega, ?_⟩, fun h => by omega⟩⟩
  · rw [h1, if_neg (by omega), show 4 - i - 1 = 4 - (i + 1) by omega]
  · rw [h2]
    rcases (by omega : i = 0 ∨ i = 1 ∨ i = 2) with rfl | rfl | rfl <;> simp <;> omega
  · rcases (by omega : i = 0 ∨ i = 1 ∨ i = 2) with rfl | rfl | rfl <;> simp at h5 ⊢ <;> omega
set_option maxRecDepth 100000 in
set_option maxHeartbeats 4000000 in
theorem rParse_any (l : List UInt8) (w : World) (hm : l.length ≤ 1000000) :
    Calls Tryz.prog 24 #[.string ⟨l.toArray⟩] w fun e w' => e = .returned (.tuple #[.int .u32 (parseL (splitB 46 (trimL l)) 4 0).1, .bool (parseL (splitB 46 (trimL l)) 4 0).2]) ∧ Below w.heap.size w w' := by
  have HP := Lib.hid (dots_any l · hm)
  have hlen := (splitB_len 46 (trimL l)).2
  have hlm : (splitB 46 (trimL l)).length ≤ 1000001 := by
    have := (splitB_len 46 (trimL l)).1
    have h2 : (trimL l).length ≤ l.length := by unfold trimL; split <;> simp
    omega
  have hmem : ∀ p ∈ splitB 46 (trimL l), p.length ≤ 1000000 := fun p hp => by
    have := splitB_mem 46 _ p hp
    have h2 : (trimL l).length ≤ l.length := by unfold trimL; split <;> simp
    omega
  obtain ⟨ls, hls⟩ : ∃ ls, splitB 46 (trimL l) = ls := ⟨_, rfl⟩
  rw [hls] at HP hlen hlm hmem
  rw [hls]
  clear hls
  have HMM := Lib.hid hmem
  clear hmem
  go_enter Tryz.func24, Tryz.ntmps24
  go_wp2_with fail
  refine (HP.out _).mono ?_
  rintro e w1 ⟨v1, rfl, hi, hb1⟩
  have HB1 := Lib.hid hb1
  obtain ⟨ad, cap, rfl, hc1, hc2, -, hs⟩ := hi
  unfold maxLen at hc2
  obtain ⟨b, off, rfl, hc⟩ := hs (by omega)
  by_cases h4 : 4 < ls.length
  · have h4I : (4 : Int) < (ls.length : Int) := by omega
    have HR := Lib.hid (parseL_long ls 4 0 (by decide) h4)
    clear hc hs hb1 h4
    go_wp2_with fail
    go_ret2
    exact ⟨tupUB32 HR.out, HB1.out⟩
  · clear hs hb1
    have HC := Lib.hid hc
    clear hc
    rcases ls with _ | ⟨p0, _ | ⟨p1, _ | ⟨p2, _ | ⟨p3, _ | ⟨p4, ls⟩⟩⟩⟩⟩
    · simp at hlen
    · have hp := HMM.out p0 (by simp)
      have m0 := hp
      have hcell0 : w1.cell? ⟨b, off, none⟩ = some (.string ⟨p0.toArray⟩) := HC.out.at 0 (by simp)
      have HN0 := Lib.hid (rnumber_any p0 · m0)
      obtain ⟨x00, x01⟩ := numV_bd p0
      obtain ⟨n0, hn0⟩ : ∃ n, numV p0 = n := ⟨_, rfl⟩
      rw [hn0] at x00 x01 HN0
      obtain ⟨o0, ho0⟩ : ∃ o, numO p0 = o := ⟨_, rfl⟩
      rw [ho0] at HN0
      have HHN0 := Lib.hid hn0
      have HHO0 := Lib.hid ho0
      clear hn0 ho0
      obtain ⟨LS, hLS⟩ : ∃ LS, [p0] = LS := ⟨_, rfl⟩
      have HLS := Lib.hid hLS
      have PAB := fun (i : Nat) (n : Int) h => @pa_bad LS i n h
      simp only [List.length_cons, List.length_nil, Nat.zero_add, Nat.reduceAdd]
      clear hLS
      go_wp2_with fail
      go_loopw [5, 6, 7, 8, 9] (fun tn ti _ _ _ wr => ∃ (i : Nat) (n : Int), i ≤ 1 ∧ ti = .int .i64 i ∧ tn = .int .i64 n ∧ Hid (ParseAt LS i n) ∧ 0 ≤ n ∧ n < 4294967296 ∧ wr = w1) (fun _ ti _ _ _ _ => 1 - (intOf ti).toNat)
      case atStart => exact ⟨0, 0, by omega, rfl, rfl, Lib.hid (pa_start LS (by rw [← HLS.out]; simp)), by decide, by decide, rfl⟩
      case round =>
        obtain ⟨i, n, hi, rfl, rfl, HPA, q0, q1, rfl⟩ := hrel
        rcases (by omega : i = 0 ∨ i = 1) with rfl | rfl
        · have hgd : LS.getD 0 [] = p0 := by rw [← HLS.out]; rfl
          have hll : LS.length = 1 := by rw [← HLS.out]; rfl
          cases o0 with
          | false =>
            have HR : Hid (parseL LS 4 0 = (0, false)) := Lib.hid (pa_bad HPA.out (by omega) (by rw [hgd]; exact HHO0.out))
            clear hgd hll hi PAB
            go_wp2_with fail
            refine (HN0.out _).mono ?_
            rintro e w' ⟨rfl, rfl⟩
            go_wp2_with fail
            go_ret2
            exact ⟨tupUB32 (by rw [HLS.out]; exact HR.out), HB1.out⟩
          | true =>
            have hpl := pa_last HPA.out (by omega) (by rw [hgd]; exact HHO0.out)
            rw [hgd, HHN0.out] at hpl
            have HA : Hid (4294967296 ≤ n0 → parseL LS 4 0 = (0, false)) := Lib.hid hpl.1
            have HBB : Hid (n0 < 4294967296 → ParseAt LS (0 + 1) (n + n0)) := Lib.hid hpl.2
            obtain ⟨sum, -, hsna, hs0, hsb⟩ := HPA.out.1 (by omega)
            have hsn : n = sum * 4294967296 := hsna
            have hs1 : sum < 1 := hsb
            clear hgd hll hi hpl PAB
            by_cases hb : 4294967296 ≤ n0
            · have HR := Lib.hid (HA.out hb)
              clear hsn hs0 hs1 hsna hsb
              go_wp2_with fail
              refine (HN0.out _).mono ?_
              rintro e w' ⟨rfl, rfl⟩
              go_wp2_with fail
              go_ret2
              exact ⟨tupUB32 (by rw [HLS.out]; exact HR.out), HB1.out⟩
            · have hb2 : n0 < 4294967296 := by omega
              have HR := Lib.hid (HBB.out hb2)
              have hq : n + n0 < 4294967296 := by omega
              clear hsn hs0 hs1 hsna hsb
              go_wp2_with fail
              refine (HN0.out _).mono ?_
              rintro e w' ⟨rfl, rfl⟩
              go_wp2_with fail
              exact ⟨⟨0 + 1, _, by decide, by first | rfl | go_num, rfl, HR, by omega, hq, by trivial⟩, by simp [intOf]⟩
        · have HR := Lib.hid (HPA.out.2 (by rw [← HLS.out]; rfl))
          clear hi PAB
          have hwr : n % 4294967296 = n := by omega
          go_wp2_with fail
          go_ret2
          exact ⟨tupUB32 (by rw [HLS.out]; exact HR.out), HB1.out⟩
    · have hp : p0.length ≤ 1000000 ∧ p1.length ≤ 1000000 := ⟨HMM.out p0 (by simp), HMM.out p1 (by simp)⟩
      obtain ⟨m0, m1⟩ := hp
      have hcell0 : w1.cell? ⟨b, off, none⟩ = some (.string ⟨p0.toArray⟩) := HC.out.at 0 (by simp)
      have HN0 := Lib.hid (rnumber_any p0 · m0)
      obtain ⟨x00, x01⟩ := numV_bd p0
      obtain ⟨n0, hn0⟩ : ∃ n, numV p0 = n := ⟨_, rfl⟩
      rw [hn0] at x00 x01 HN0
      obtain ⟨o0, ho0⟩ : ∃ o, numO p0 = o := ⟨_, rfl⟩
      rw [ho0] at HN0
      have HHN0 := Lib.hid hn0
      have HHO0 := Lib.hid ho0
      clear hn0 ho0
      have hcell1 : w1.cell? ⟨b, off + 1, none⟩ = some (.string ⟨p1.toArray⟩) := HC.out.at 1 (by simp)
      have HN1 := Lib.hid (rnumber_any p1 · m1)
      obtain ⟨x10, x11⟩ := numV_bd p1
      obtain ⟨n1, hn1⟩ : ∃ n, numV p1 = n := ⟨_, rfl⟩
      rw [hn1] at x10 x11 HN1
      obtain ⟨o1, ho1⟩ : ∃ o, numO p1 = o := ⟨_, rfl⟩
      rw [ho1] at HN1
      have HHN1 := Lib.hid hn1
      have HHO1 := Lib.hid ho1
      clear hn1 ho1
      obtain ⟨LS, hLS⟩ : ∃ LS, [p0, p1] = LS := ⟨_, rfl⟩
      have HLS := Lib.hid hLS
      have PAB := fun (i : Nat) (n : Int) h => @pa_bad LS i n h
      simp only [List.length_cons, List.length_nil, Nat.zero_add, Nat.reduceAdd]
      clear hLS
      go_wp2_with fail
      go_loopw [5, 6, 7, 8, 9] (fun tn ti _ _ _ wr => ∃ (i : Nat) (n : Int), i ≤ 2 ∧ ti = .int .i64 i ∧ tn = .int .i64 n ∧ Hid (ParseAt LS i n) ∧ 0 ≤ n ∧ n < 4294967296 ∧ wr = w1) (fun _ ti _ _ _ _ => 2 - (intOf ti).toNat)
      case atStart => exact ⟨0, 0, by omega, rfl, rfl, Lib.hid (pa_start LS (by rw [← HLS.out]; simp)), by decide, by decide, rfl⟩
      case round =>
        obtain ⟨i, n, hi, rfl, rfl, HPA, q0, q1, rfl⟩ := hrel
        rcases (by omega : i = 0 ∨ i = 1 ∨ i = 2) with rfl | rfl | rfl
        · have hgd : LS.getD 0 [] = p0 := by rw [← HLS.out]; rfl
          have hll : LS.length = 2 := by rw [← HLS.out]; rfl
          cases o0 with
          | false =>
            have HR : Hid (parseL LS 4 0 = (0, false)) := Lib.hid (pa_bad HPA.out (by omega) (by rw [hgd]; exact HHO0.out))
            clear hgd hll hi PAB
            go_wp2_with fail
            refine (HN0.out _).mono ?_
            rintro e w' ⟨rfl, rfl⟩
            go_wp2_with fail
            go_ret2
            exact ⟨tupUB32 (by rw [HLS.out]; exact HR.out), HB1.out⟩
          | true =>
            have hpl := pa_mid HPA.out (by omega) (by omega) (by rw [hgd]; exact HHO0.out)
            rw [hgd, HHN0.out] at hpl
            have HA : Hid (256 ≤ n0 → parseL LS 4 0 = (0, false)) := Lib.hid hpl.1
            have HBB : Hid (n0 < 256 → ParseAt LS (0 + 1) (n + n0 * 16777216)) := Lib.hid hpl.2
            obtain ⟨sum, -, hsna, hs0, hsb⟩ := HPA.out.1 (by omega)
            have hsn : n = sum * 4294967296 := hsna
            have hs1 : sum < 1 := hsb
            clear hgd hll hi hpl PAB
            by_cases hb : 256 ≤ n0
            · have HR := Lib.hid (HA.out hb)
              clear hsn hs0 hs1 hsna hsb
              go_wp2_with fail
              refine (HN0.out _).mono ?_
              rintro e w' ⟨rfl, rfl⟩
              go_wp2_with fail
              go_ret2
              exact ⟨tupUB32 (by rw [HLS.out]; exact HR.out), HB1.out⟩
            · have hb2 : n0 < 256 := by omega
              have HR := Lib.hid (HBB.out hb2)
              have hq : n + n0 * 16777216 < 4294967296 := by omega
              clear hsn hs0 hs1 hsna hsb
              go_wp2_with fail
              refine (HN0.out _).mono ?_
              rintro e w' ⟨rfl, rfl⟩
              go_wp2_with fail
              exact ⟨⟨0 + 1, _, by decide, by first | rfl | go_num, rfl, HR, by omega, hq, by trivial⟩, by simp [intOf]⟩
        · have hgd : LS.getD 1 [] = p1 := by rw [← HLS.out]; rfl
          have hll : LS.length = 2 := by rw [← HLS.out]; rfl
          cases o1 with
          | false =>
            have HR : Hid (parseL LS 4 0 = (0, false)) := Lib.hid (pa_bad HPA.out (by omega) (by rw [hgd]; exact HHO1.out))
            clear hgd hll hi PAB
            go_wp2_with fail
            refine (HN1.out _).mono ?_
            rintro e w' ⟨rfl, rfl⟩
            go_wp2_with fail
            go_ret2
            exact ⟨tupUB32 (by rw [HLS.out]; exact HR.out), HB1.out⟩
          | true =>
            have hpl := pa_last HPA.out (by omega) (by rw [hgd]; exact HHO1.out)
            rw [hgd, HHN1.out] at hpl
            have HA : Hid (16777216 ≤ n1 → parseL LS 4 0 = (0, false)) := Lib.hid hpl.1
            have HBB : Hid (n1 < 16777216 → ParseAt LS (1 + 1) (n + n1)) := Lib.hid hpl.2
            obtain ⟨sum, -, hsna, hs0, hsb⟩ := HPA.out.1 (by omega)
            have hsn : n = sum * 16777216 := hsna
            have hs1 : sum < 256 := hsb
            clear hgd hll hi hpl PAB
            by_cases hb : 16777216 ≤ n1
            · have HR := Lib.hid (HA.out hb)
              clear hsn hs0 hs1 hsna hsb
              go_wp2_with fail
              refine (HN1.out _).mono ?_
              rintro e w' ⟨rfl, rfl⟩
              go_wp2_with fail
              go_ret2
              exact ⟨tupUB32 (by rw [HLS.out]; exact HR.out), HB1.out⟩
            · have hb2 : n1 < 16777216 := by omega
              have HR := Lib.hid (HBB.out hb2)
              have hq : n + n1 < 4294967296 := by omega
              clear hsn hs0 hs1 hsna hsb
              go_wp2_with fail
              refine (HN1.out _).mono ?_
              rintro e w' ⟨rfl, rfl⟩
              go_wp2_with fail
              exact ⟨⟨1 + 1, _, by decide, by first | rfl | go_num, rfl, HR, by omega, hq, by trivial⟩, by simp [intOf]⟩
        · have HR := Lib.hid (HPA.out.2 (by rw [← HLS.out]; rfl))
          clear hi PAB
          have hwr : n % 4294967296 = n := by omega
          go_wp2_with fail
          go_ret2
          exact ⟨tupUB32 (by rw [HLS.out]; exact HR.out), HB1.out⟩
    · have hp : p0.length ≤ 1000000 ∧ p1.length ≤ 1000000 ∧ p2.length ≤ 1000000 := ⟨HMM.out p0 (by simp), HMM.out p1 (by simp), HMM.out p2 (by simp)⟩
      obtain ⟨m0, m1, m2⟩ := hp
      have hcell0 : w1.cell? ⟨b, off, none⟩ = some (.string ⟨p0.toArray⟩) := HC.out.at 0 (by simp)
      have HN0 := Lib.hid (rnumber_any p0 · m0)
      obtain ⟨x00, x01⟩ := numV_bd p0
      obtain ⟨n0, hn0⟩ : ∃ n, numV p0 = n := ⟨_, rfl⟩
      rw [hn0] at x00 x01 HN0
      obtain ⟨o0, ho0⟩ : ∃ o, numO p0 = o := ⟨_, rfl⟩
      rw [ho0] at HN0
      have HHN0 := Lib.hid hn0
      have HHO0 := Lib.hid ho0
      clear hn0 ho0
      have hcell1 : w1.cell? ⟨b, off + 1, none⟩ = some (.string ⟨p1.toArray⟩) := HC.out.at 1 (by simp)
      have HN1 := Lib.hid (rnumber_any p1 · m1)
      obtain ⟨x10, x11⟩ := numV_bd p1
      obtain ⟨n1, hn1⟩ : ∃ n, numV p1 = n := ⟨_, rfl⟩
      rw [hn1] at x10 x11 HN1
      obtain ⟨o1, ho1⟩ : ∃ o, numO p1 = o := ⟨_, rfl⟩
      rw [ho1] at HN1
      have HHN1 := Lib.hid hn1
      have HHO1 := Lib.hid ho1
      clear hn1 ho1
      have hcell2 : w1.cell? ⟨b, off + 2, none⟩ = some (.string ⟨p2.toArray⟩) := HC.out.at 2 (by simp)
      have HN2 := Lib.hid (rnumber_any p2 · m2)
      obtain ⟨x20, x21⟩ := numV_bd p2
      obtain ⟨n2, hn2⟩ : ∃ n, numV p2 = n := ⟨_, rfl⟩
      rw [hn2] at x20 x21 HN2
      obtain ⟨o2, ho2⟩ : ∃ o, numO p2 = o := ⟨_, rfl⟩
      rw [ho2] at HN2
      have HHN2 := Lib.hid hn2
      have HHO2 := Lib.hid ho2
      clear hn2 ho2
      obtain ⟨LS, hLS⟩ : ∃ LS, [p0, p1, p2] = LS := ⟨_, rfl⟩
      have HLS := Lib.hid hLS
      have PAB := fun (i : Nat) (n : Int) h => @pa_bad LS i n h
      simp only [List.length_cons, List.length_nil, Nat.zero_add, Nat.reduceAdd]
      clear hLS
      go_wp2_with fail
      go_loopw [5, 6, 7, 8, 9] (fun tn ti _ _ _ wr => ∃ (i : Nat) (n : Int), i ≤ 3 ∧ ti = .int .i64 i ∧ tn = .int .i64 n ∧ Hid (ParseAt LS i n) ∧ 0 ≤ n ∧ n < 4294967296 ∧ wr = w1) (fun _ ti _ _ _ _ => 3 - (intOf ti).toNat)
      case atStart => exact ⟨0, 0, by omega, rfl, rfl, Lib.hid (pa_start LS (by rw [← HLS.out]; simp)), by decide, by decide, rfl⟩
      case round =>
        obtain ⟨i, n, hi, rfl, rfl, HPA, q0, q1, rfl⟩ := hrel
        rcases (by omega : i = 0 ∨ i = 1 ∨ i = 2 ∨ i = 3) with rfl | rfl | rfl | rfl
        · have hgd : LS.getD 0 [] = p0 := by rw [← HLS.out]; rfl
          have hll : LS.length = 3 := by rw [← HLS.out]; rfl
          cases o0 with
          | false =>
            have HR : Hid (parseL LS 4 0 = (0, false)) := Lib.hid (pa_bad HPA.out (by omega) (by rw [hgd]; exact HHO0.out))
            clear hgd hll hi PAB
            go_wp2_with fail
            refine (HN0.out _).mono ?_
            rintro e w' ⟨rfl, rfl⟩
            go_wp2_with fail
            go_ret2
            exact ⟨tupUB32 (by rw [HLS.out]; exact HR.out), HB1.out⟩
          | true =>
            have hpl := pa_mid HPA.out (by omega) (by omega) (by rw [hgd]; exact HHO0.out)
            rw [hgd, HHN0.out] at hpl
            have HA : Hid (256 ≤ n0 → parseL LS 4 0 = (0, false)) := Lib.hid hpl.1
            have HBB : Hid (n0 < 256 → ParseAt LS (0 + 1) (n + n0 * 16777216)) := Lib.hid hpl.2
            obtain ⟨sum, -, hsna, hs0, hsb⟩ := HPA.out.1 (by omega)
            have hsn : n = sum * 4294967296 := hsna
            have hs1 : sum < 1 := hsb
            clear hgd hll hi hpl PAB
            by_cases hb : 256 ≤ n0
            · have HR := Lib.hid (HA.out hb)
              clear hsn hs0 hs1 hsna hsb
              go_wp2_with fail
              refine (HN0.out _).mono ?_
              rintro e w' ⟨rfl, rfl⟩
              go_wp2_with fail
              go_ret2
              exact ⟨tupUB32 (by rw [HLS.out]; exact HR.out), HB1.out⟩
            · have hb2 : n0 < 256 := by omega
              have HR := Lib.hid (HBB.out hb2)
              have hq : n + n0 * 16777216 < 4294967296 := by omega
              clear hsn hs0 hs1 hsna hsb
              go_wp2_with fail
              refine (HN0.out _).mono ?_
              rintro e w' ⟨rfl, rfl⟩
              go_wp2_with fail
              exact ⟨⟨0 + 1, _, by decide, by first | rfl | go_num, rfl, HR, by omega, hq, by trivial⟩, by simp [intOf]⟩
        · have hgd : LS.getD 1 [] = p1 := by rw [← HLS.out]; rfl
          have hll : LS.length = 3 := by rw [← HLS.out]; rfl
          cases o1 with
          | false =>
            have HR : Hid (parseL LS 4 0 = (0, false)) := Lib.hid (pa_bad HPA.out (by omega) (by rw [hgd]; exact HHO1.out))
            clear hgd hll hi PAB
            go_wp2_with fail
            refine (HN1.out _).mono ?_
            rintro e w' ⟨rfl, rfl⟩
            go_wp2_with fail
            go_ret2
            exact ⟨tupUB32 (by rw [HLS.out]; exact HR.out), HB1.out⟩
          | true =>
            have hpl := pa_mid HPA.out (by omega) (by omega) (by rw [hgd]; exact HHO1.out)
            rw [hgd, HHN1.out] at hpl
            have HA : Hid (256 ≤ n1 → parseL LS 4 0 = (0, false)) := Lib.hid hpl.1
            have HBB : Hid (n1 < 256 → ParseAt LS (1 + 1) (n + n1 * 65536)) := Lib.hid hpl.2
            obtain ⟨sum, -, hsna, hs0, hsb⟩ := HPA.out.1 (by omega)
            have hsn : n = sum * 16777216 := hsna
            have hs1 : sum < 256 := hsb
            clear hgd hll hi hpl PAB
            by_cases hb : 256 ≤ n1
            · have HR := Lib.hid (HA.out hb)
              clear hsn hs0 hs1 hsna hsb
              go_wp2_with fail
              refine (HN1.out _).mono ?_
              rintro e w' ⟨rfl, rfl⟩
              go_wp2_with fail
              go_ret2
              exact ⟨tupUB32 (by rw [HLS.out]; exact HR.out), HB1.out⟩
            · have hb2 : n1 < 256 := by omega
              have HR := Lib.hid (HBB.out hb2)
              have hq : n + n1 * 65536 < 4294967296 := by omega
              clear hsn hs0 hs1 hsna hsb
              go_wp2_with fail
              refine (HN1.out _).mono ?_
              rintro e w' ⟨rfl, rfl⟩
              go_wp2_with fail
              exact ⟨⟨1 + 1, _, by decide, by first | rfl | go_num, rfl, HR, by omega, hq, by trivial⟩, by simp [intOf]⟩
        · have hgd : LS.getD 2 [] = p2 := by rw [← HLS.out]; rfl
          have hll : LS.length = 3 := by rw [← HLS.out]; rfl
          cases o2 with
          | false =>
            have HR : Hid (parseL LS 4 0 = (0, false)) := Lib.hid (pa_bad HPA.out (by omega) (by rw [hgd]; exact HHO2.out))
            clear hgd hll hi PAB
            go_wp2_with fail
            refine (HN2.out _).mono ?_
            rintro e w' ⟨rfl, rfl⟩
            go_wp2_with fail
            go_ret2
            exact ⟨tupUB32 (by rw [HLS.out]; exact HR.out), HB1.out⟩
          | true =>
            have hpl := pa_last HPA.out (by omega) (by rw [hgd]; exact HHO2.out)
            rw [hgd, HHN2.out] at hpl
            have HA : Hid (65536 ≤ n2 → parseL LS 4 0 = (0, false)) := Lib.hid hpl.1
            have HBB : Hid (n2 < 65536 → ParseAt LS (2 + 1) (n + n2)) := Lib.hid hpl.2
            obtain ⟨sum, -, hsna, hs0, hsb⟩ := HPA.out.1 (by omega)
            have hsn : n = sum * 65536 := hsna
            have hs1 : sum < 65536 := hsb
            clear hgd hll hi hpl PAB
            by_cases hb : 65536 ≤ n2
            · have HR := Lib.hid (HA.out hb)
              clear hsn hs0 hs1 hsna hsb
              go_wp2_with fail
              refine (HN2.out _).mono ?_
              rintro e w' ⟨rfl, rfl⟩
              go_wp2_with fail
              go_ret2
              exact ⟨tupUB32 (by rw [HLS.out]; exact HR.out), HB1.out⟩
            · have hb2 : n2 < 65536 := by omega
              have HR := Lib.hid (HBB.out hb2)
              have hq : n + n2 < 4294967296 := by omega
              clear hsn hs0 hs1 hsna hsb
              go_wp2_with fail
              refine (HN2.out _).mono ?_
              rintro e w' ⟨rfl, rfl⟩
              go_wp2_with fail
              exact ⟨⟨2 + 1, _, by decide, by first | rfl | go_num, rfl, HR, by omega, hq, by trivial⟩, by simp [intOf]⟩
        · have HR := Lib.hid (HPA.out.2 (by rw [← HLS.out]; rfl))
          clear hi PAB
          have hwr : n % 4294967296 = n := by omega
          go_wp2_with fail
          go_ret2
          exact ⟨tupUB32 (by rw [HLS.out]; exact HR.out), HB1.out⟩
    · have hp : p0.length ≤ 1000000 ∧ p1.length ≤ 1000000 ∧ p2.length ≤ 1000000 ∧ p3.length ≤ 1000000 := ⟨HMM.out p0 (by simp), HMM.out p1 (by simp), HMM.out p2 (by simp), HMM.out p3 (by simp)⟩
      obtain ⟨m0, m1, m2, m3⟩ := hp
      have hcell0 : w1.cell? ⟨b, off, none⟩ = some (.string ⟨p0.toArray⟩) := HC.out.at 0 (by simp)
      have HN0 := Lib.hid (rnumber_any p0 · m0)
      obtain ⟨x00, x01⟩ := numV_bd p0
      obtain ⟨n0, hn0⟩ : ∃ n, numV p0 = n := ⟨_, rfl⟩
      rw [hn0] at x00 x01 HN0
      obtain ⟨o0, ho0⟩ : ∃ o, numO p0 = o := ⟨_, rfl⟩
      rw [ho0] at HN0
      have HHN0 := Lib.hid hn0
      have HHO0 := Lib.hid ho0
      clear hn0 ho0
      have hcell1 : w1.cell? ⟨b, off + 1, none⟩ = some (.string ⟨p1.toArray⟩) := HC.out.at 1 (by simp)
      have HN1 := Lib.hid (rnumber_any p1 · m1)
      obtain ⟨x10, x11⟩ := numV_bd p1
      obtain ⟨n1, hn1⟩ : ∃ n, numV p1 = n := ⟨_, rfl⟩
      rw [hn1] at x10 x11 HN1
      obtain ⟨o1, ho1⟩ : ∃ o, numO p1 = o := ⟨_, rfl⟩
      rw [ho1] at HN1
      have HHN1 := Lib.hid hn1
      have HHO1 := Lib.hid ho1
      clear hn1 ho1
      have hcell2 : w1.cell? ⟨b, off + 2, none⟩ = some (.string ⟨p2.toArray⟩) := HC.out.at 2 (by simp)
      have HN2 := Lib.hid (rnumber_any p2 · m2)
      obtain ⟨x20, x21⟩ := numV_bd p2
      obtain ⟨n2, hn2⟩ : ∃ n, numV p2 = n := ⟨_, rfl⟩
      rw [hn2] at x20 x21 HN2
      obtain ⟨o2, ho2⟩ : ∃ o, numO p2 = o := ⟨_, rfl⟩
      rw [ho2] at HN2
      have HHN2 := Lib.hid hn2
      have HHO2 := Lib.hid ho2
      clear hn2 ho2
      have hcell3 : w1.cell? ⟨b, off + 3, none⟩ = some (.string ⟨p3.toArray⟩) := HC.out.at 3 (by simp)
      have HN3 := Lib.hid (rnumber_any p3 · m3)
      obtain ⟨x30, x31⟩ := numV_bd p3
      obtain ⟨n3, hn3⟩ : ∃ n, numV p3 = n := ⟨_, rfl⟩
      rw [hn3] at x30 x31 HN3
      obtain ⟨o3, ho3⟩ : ∃ o, numO p3 = o := ⟨_, rfl⟩
      rw [ho3] at HN3
      have HHN3 := Lib.hid hn3
      have HHO3 := Lib.hid ho3
      clear hn3 ho3
      obtain ⟨LS, hLS⟩ : ∃ LS, [p0, p1, p2, p3] = LS := ⟨_, rfl⟩
      have HLS := Lib.hid hLS
      have PAB := fun (i : Nat) (n : Int) h => @pa_bad LS i n h
      simp only [List.length_cons, List.length_nil, Nat.zero_add, Nat.reduceAdd]
      clear hLS
      go_wp2_with fail
      go_loopw [5, 6, 7, 8, 9] (fun tn ti _ _ _ wr => ∃ (i : Nat) (n : Int), i ≤ 4 ∧ ti = .int .i64 i ∧ tn = .int .i64 n ∧ Hid (ParseAt LS i n) ∧ 0 ≤ n ∧ n < 4294967296 ∧ wr = w1) (fun _ ti _ _ _ _ => 4 - (intOf ti).toNat)
      case atStart => exact ⟨0, 0, by omega, rfl, rfl, Lib.hid (pa_start LS (by rw [← HLS.out]; simp)), by decide, by decide, rfl⟩
      case round =>
        obtain ⟨i, n, hi, rfl, rfl, HPA, q0, q1, rfl⟩ := hrel
        rcases (by omega : i = 0 ∨ i = 1 ∨ i = 2 ∨ i = 3 ∨ i = 4) with rfl | rfl | rfl | rfl | rfl
        · have hgd : LS.getD 0 [] = p0 := by rw [← HLS.out]; rfl
          have hll : LS.length = 4 := by rw [← HLS.out]; rfl
          cases o0 with
          | false =>
            have HR : Hid (parseL LS 4 0 = (0, false)) := Lib.hid (pa_bad HPA.out (by omega) (by rw [hgd]; exact HHO0.out))
            clear hgd hll hi PAB
            go_wp2_with fail
            refine (HN0.out _).mono ?_
            rintro e w' ⟨rfl, rfl⟩
            go_wp2_with fail
            go_ret2
            exact ⟨tupUB32 (by rw [HLS.out]; exact HR.out), HB1.out⟩
          | true =>
            have hpl := pa_mid HPA.out (by omega) (by omega) (by rw [hgd]; exact HHO0.out)
            rw [hgd, HHN0.out] at hpl
            have HA : Hid (256 ≤ n0 → parseL LS 4 0 = (0, false)) := Lib.hid hpl.1
            have HBB : Hid (n0 < 256 → ParseAt LS (0 + 1) (n + n0 * 16777216)) := Lib.hid hpl.2
            obtain ⟨sum, -, hsna, hs0, hsb⟩ := HPA.out.1 (by omega)
            have hsn : n = sum * 4294967296 := hsna
            have hs1 : sum < 1 := hsb
            clear hgd hll hi hpl PAB
            by_cases hb : 256 ≤ n0
            · have HR := Lib.hid (HA.out hb)
              clear hsn hs0 hs1 hsna hsb
              go_wp2_with fail
              refine (HN0.out _).mono ?_
              rintro e w' ⟨rfl, rfl⟩
              go_wp2_with fail
              go_ret2
              exact ⟨tupUB32 (by rw [HLS.out]; exact HR.out), HB1.out⟩
            · have hb2 : n0 < 256 := by omega
              have HR := Lib.hid (HBB.out hb2)
              have hq : n + n0 * 16777216 < 4294967296 := by omega
              clear hsn hs0 hs1 hsna hsb
              go_wp2_with fail
              refine (HN0.out _).mono ?_
              rintro e w' ⟨rfl, rfl⟩
              go_wp2_with fail
              exact ⟨⟨0 + 1, _, by decide, by first | rfl | go_num, rfl, HR, by omega, hq, by trivial⟩, by simp [intOf]⟩
        · have hgd : LS.getD 1 [] = p1 := by rw [← HLS.out]; rfl
          have hll : LS.length = 4 := by rw [← HLS.out]; rfl
          cases o1 with
          | false =>
            have HR : Hid (parseL LS 4 0 = (0, false)) := Lib.hid (pa_bad HPA.out (by omega) (by rw [hgd]; exact HHO1.out))
            clear hgd hll hi PAB
            go_wp2_with fail
            refine (HN1.out _).mono ?_
            rintro e w' ⟨rfl, rfl⟩
            go_wp2_with fail
            go_ret2
            exact ⟨tupUB32 (by rw [HLS.out]; exact HR.out), HB1.out⟩
          | true =>
            have hpl := pa_mid HPA.out (by omega) (by omega) (by rw [hgd]; exact HHO1.out)
            rw [hgd, HHN1.out] at hpl
            have HA : Hid (256 ≤ n1 → parseL LS 4 0 = (0, false)) := Lib.hid hpl.1
            have HBB : Hid (n1 < 256 → ParseAt LS (1 + 1) (n + n1 * 65536)) := Lib.hid hpl.2
            obtain ⟨sum, -, hsna, hs0, hsb⟩ := HPA.out.1 (by omega)
            have hsn : n = sum * 16777216 := hsna
            have hs1 : sum < 256 := hsb
            clear hgd hll hi hpl PAB
            by_cases hb : 256 ≤ n1
            · have HR := Lib.hid (HA.out hb)
              clear hsn hs0 hs1 hsna hsb
              go_wp2_with fail
              refine (HN1.out _).mono ?_
              rintro e w' ⟨rfl, rfl⟩
              go_wp2_with fail
              go_ret2
              exact ⟨tupUB32 (by rw [HLS.out]; exact HR.out), HB1.out⟩
            · have hb2 : n1 < 256 := by omega
              have HR := Lib.hid (HBB.out hb2)
              have hq : n + n1 * 65536 < 4294967296 := by omega
              clear hsn hs0 hs1 hsna hsb
              go_wp2_with fail
              refine (HN1.out _).mono ?_
              rintro e w' ⟨rfl, rfl⟩
              go_wp2_with fail
              exact ⟨⟨1 + 1, _, by decide, by first | rfl | go_num, rfl, HR, by omega, hq, by trivial⟩, by simp [intOf]⟩
        · have hgd : LS.getD 2 [] = p2 := by rw [← HLS.out]; rfl
          have hll : LS.length = 4 := by rw [← HLS.out]; rfl
          cases o2 with
          | false =>
            have HR : Hid (parseL LS 4 0 = (0, false)) := Lib.hid (pa_bad HPA.out (by omega) (by rw [hgd]; exact HHO2.out))
            clear hgd hll hi PAB
            go_wp2_with fail
            refine (HN2.out _).mono ?_
            rintro e w' ⟨rfl, rfl⟩
            go_wp2_with fail
            go_ret2
            exact ⟨tupUB32 (by rw [HLS.out]; exact HR.out), HB1.out⟩
          | true =>
            have hpl := pa_mid HPA.out (by omega) (by omega) (by rw [hgd]; exact HHO2.out)
            rw [hgd, HHN2.out] at hpl
            have HA : Hid (256 ≤ n2 → parseL LS 4 0 = (0, false)) := Lib.hid hpl.1
            have HBB : Hid (n2 < 256 → ParseAt LS (2 + 1) (n + n2 * 256)) := Lib.hid hpl.2
            obtain ⟨sum, -, hsna, hs0, hsb⟩ := HPA.out.1 (by omega)
            have hsn : n = sum * 65536 := hsna
            have hs1 : sum < 65536 := hsb
            clear hgd hll hi hpl PAB
            by_cases hb : 256 ≤ n2
            · have HR := Lib.hid (HA.out hb)
              clear hsn hs0 hs1 hsna hsb
              go_wp2_with fail
              refine (HN2.out _).mono ?_
              rintro e w' ⟨rfl, rfl⟩
              go_wp2_with fail
              go_ret2
              exact ⟨tupUB32 (by rw [HLS.out]; exact HR.out), HB1.out⟩
            · have hb2 : n2 < 256 := by omega
              have HR := Lib.hid (HBB.out hb2)
              have hq : n + n2 * 256 < 4294967296 := by omega
              clear hsn hs0 hs1 hsna hsb
              go_wp2_with fail
              refine (HN2.out _).mono ?_
              rintro e w' ⟨rfl, rfl⟩
              go_wp2_with fail
              exact ⟨⟨2 + 1, _, by decide, by first | rfl | go_num, rfl, HR, by omega, hq, by trivial⟩, by simp [intOf]⟩
        · have hgd : LS.getD 3 [] = p3 := by rw [← HLS.out]; rfl
          have hll : LS.length = 4 := by rw [← HLS.out]; rfl
          cases o3 with
          | false =>
            have HR : Hid (parseL LS 4 0 = (0, false)) := Lib.hid (pa_bad HPA.out (by omega) (by rw [hgd]; exact HHO3.out))
            clear hgd hll hi PAB
            go_wp2_with fail
            refine (HN3.out _).mono ?_
            rintro e w' ⟨rfl, rfl⟩
            go_wp2_with fail
            go_ret2
            exact ⟨tupUB32 (by rw [HLS.out]; exact HR.out), HB1.out⟩
          | true =>
            have hpl := pa_last HPA.out (by omega) (by rw [hgd]; exact HHO3.out)
            rw [hgd, HHN3.out] at hpl
            have HA : Hid (256 ≤ n3 → parseL LS 4 0 = (0, false)) := Lib.hid hpl.1
            have HBB : Hid (n3 < 256 → ParseAt LS (3 + 1) (n + n3)) := Lib.hid hpl.2
            obtain ⟨sum, -, hsna, hs0, hsb⟩ := HPA.out.1 (by omega)
            have hsn : n = sum * 256 := hsna
            have hs1 : sum < 16777216 := hsb
            clear hgd hll hi hpl PAB
            by_cases hb : 256 ≤ n3
            · have HR := Lib.hid (HA.out hb)
              clear hsn hs0 hs1 hsna hsb
              go_wp2_with fail
              refine (HN3.out _).mono ?_
              rintro e w' ⟨rfl, rfl⟩
              go_wp2_with fail
              go_ret2
              exact ⟨tupUB32 (by rw [HLS.out]; exact HR.out), HB1.out⟩
            · have hb2 : n3 < 256 := by omega
              have HR := Lib.hid (HBB.out hb2)
              have hq : n + n3 < 4294967296 := by omega
              clear hsn hs0 hs1 hsna hsb
              go_wp2_with fail
              refine (HN3.out _).mono ?_
              rintro e w' ⟨rfl, rfl⟩
              go_wp2_with fail
              exact ⟨⟨3 + 1, _, by decide, by first | rfl | go_num, rfl, HR, by omega, hq, by trivial⟩, by simp [intOf]⟩
        · have HR := Lib.hid (HPA.out.2 (by rw [← HLS.out]; rfl))
          clear hi PAB
          have hwr : n % 4294967296 = n := by omega
          go_wp2_with fail
          go_ret2
          exact ⟨tupUB32 (by rw [HLS.out]; exact HR.out), HB1.out⟩
    · exfalso; simp at h4
end Go.Proofs.YtjljhkjpogjdhaaGreatDoor
end
