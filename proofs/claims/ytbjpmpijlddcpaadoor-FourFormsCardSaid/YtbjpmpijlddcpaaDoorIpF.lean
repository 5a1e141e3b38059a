/- Contracts of ref8.dots, Ends. -/
import Derived.Test.YtbjpmpijlddcpaaDoorIpE2
import Derived.Test.YtbjpmpijlddcpaaDoorIpC
import Derived.Test.YtbjpmpijlddcpaaDoorParts
set_option linter.unusedVariables false
set_option linter.unusedSimpArgs false
namespace Go.Proofs.YtbjpmpijlddcpaaDoor
open Go.RowKit

theorem getLast_getD (ls : List (List UInt8)) (h : ls ≠ []) : ls.getLast h = ls.getD (ls.length - 1) [] := by
  rw [List.getLast_eq_getElem]
  simp [List.getD, show ls.length - 1 < ls.length by have := List.length_pos_iff.2 h; omega]
theorem dots_split (l : List UInt8) : (1 < (splitB 46 l).length ∧ (splitB 46 l).getD ((splitB 46 l).length - 1) [] = [] ∧ splitB 46 (trimL l) = (splitB 46 l).take ((splitB 46 l).length - 1)) ∨
    (¬ (1 < (splitB 46 l).length ∧ (splitB 46 l).getD ((splitB 46 l).length - 1) [] = []) ∧ splitB 46 (trimL l) = splitB 46 l) := by
  have hL := splitB_last 46 l
  rw [getLast_getD] at hL
  by_cases h : 0 < l.length ∧ byt l (l.length - 1) = 46
  · left
    have ht : trimL l = l.take (l.length - 1) := by unfold trimL; rw [if_pos h]
    have hne : l ≠ [] := List.length_pos_iff.1 h.1
    have e : l = l.take (l.length - 1) ++ [l[l.length - 1]'(by omega)] := by
      have h4 : l.drop (l.length - 1) = (l[l.length - 1]'(by omega)) :: l.drop (l.length - 1 + 1) := List.drop_eq_getElem_cons (by omega)
      rw [List.drop_of_length_le (show l.length ≤ l.length - 1 + 1 by omega)] at h4
      rw [← h4, List.take_append_drop]
    have hb : ((l[l.length - 1]'(by omega)).toNat : Int) = 46 := by
      rw [← h.2]; unfold byt; simp [List.getD, show l.length - 1 < l.length by omega]
    have hs : splitB 46 l = splitB 46 (trimL l) ++ [[]] := by
      rw [ht]
      conv => lhs; rw [e]
      exact splitB_snoc 46 _ hb _
    have hp := (splitB_len 46 (trimL l)).2
    refine ⟨by rw [hs]; simp; omega, hL.2 (.inr ⟨h.2, hne⟩), ?_⟩
    rw [hs]; simp
  · right
    have ht : trimL l = l := by unfold trimL; rw [if_neg h]
    refine ⟨?_, by rw [ht]⟩
    rintro ⟨h1, h2⟩
    rcases hL.1 h2 with h3 | ⟨h3, h4⟩
    · rw [h3] at h1; simp [splitB] at h1
    · exact h ⟨List.length_pos_iff.2 h4, h3⟩
set_option maxHeartbeats 2000000 in
theorem dots_any (l : List UInt8) (w : World) (hm : l.length ≤ 1000000) :
    Calls Tryd.prog 20 #[.string ⟨l.toArray⟩] w fun e w' => ∃ v', e = .returned v' ∧ IsStr w' v' (splitB 46 (trimL l)) ∧ Below w.heap.size w w' := by
  have HP := Lib.hid (Parts_any l 46 · hm (by decide) (by decide))
  have HD := Lib.hid (dots_split l)
  have hlen := splitB_len 46 l
  obtain ⟨ls, hls⟩ : ∃ ls, splitB 46 l = ls := ⟨_, rfl⟩
  rw [hls] at HP HD hlen
  clear hls
  obtain ⟨n1, n2⟩ := hlen
  obtain ⟨tr, htr⟩ : ∃ tr, splitB 46 (trimL l) = tr := ⟨_, rfl⟩
  rw [htr] at HD
  rw [htr]
  clear htr
  go_enter Tryd.func20, Tryd.ntmps20
  go_wp2_with fail
  refine (HP.out _).mono ?_
  rintro e w1 ⟨v1, rfl, hown1, hb1⟩
  have hi := hown1.isStr
  have HI := Lib.hid hi
  have HB1 := Lib.hid hb1
  obtain ⟨ad, cap, rfl, hc1, hc2, -, hs⟩ := hi
  unfold maxLen at hc2
  obtain ⟨b, off, rfl, hc⟩ := hs (by omega)
  have hcell : w1.cell? ⟨b, off + (ls.length - 1), none⟩ = some (.string ⟨(ls.getD (ls.length - 1) []).toArray⟩) := hc.at _ (by omega)
  have HT : Hid (IsStr w1 (.slice (some ⟨b, off, none⟩) (ls.length - 1) cap) (ls.take (ls.length - 1))) := Lib.hid (IsStr.takeAt hc _ (by omega) hc1 (by unfold maxLen; omega))
  obtain ⟨p, hp⟩ : ∃ p, ls.getD (ls.length - 1) [] = p := ⟨_, rfl⟩
  rw [hp] at hcell HD
  clear hp hc hs hown1 hb1
  have g1 : IntKind.i64.wrap ((ls.length : Int) - 1) = (ls.length : Int) - 1 := IntWalk.i64_in _ (by omega)
  have g2 : (0 : Int) ≤ (ls.length : Int) - 1 := by omega
  have g3 : ((ls.length : Int) - 1).toNat = ls.length - 1 := by omega
  have g4 : (ls.length : Int) - 1 < ls.length := by omega
  by_cases h1 : 1 < ls.length
  · have h1I : (1 : Int) < (ls.length : Int) := by omega
    by_cases h2 : p = []
    · have HR : Hid (tr = ls.take (ls.length - 1)) := Lib.hid (by rcases HD.out with ⟨_, _, h⟩ | ⟨h, _⟩; exact h; exact absurd ⟨h1, h2⟩ h)
      have g5 : (ls.length : Int) - 1 ≤ (cap : Int) := by omega
      subst h2
      go_wp2_with fail
      go_ret
      exact ⟨_, rfl, by rw [HR.out]; exact HT.out, HB1.out⟩
    · have HR : Hid (tr = ls) := Lib.hid (by rcases HD.out with ⟨_, h, _⟩ | ⟨_, h⟩; exact absurd h h2; exact h)
      have g5 : (p == []) = false := by rw [beq_eq_false_iff_ne]; exact h2
      have g6 : p.isEmpty = false := by rw [List.isEmpty_eq_false_iff]; exact h2
      clear h2
      go_wp2_with fail
      go_ret
      exact ⟨_, rfl, by rw [HR.out]; exact HI.out, HB1.out⟩
  · have HR : Hid (tr = ls) := Lib.hid (by rcases HD.out with ⟨h, _, _⟩ | ⟨_, h⟩; exact absurd h h1; exact h)
    have h1I : decide ((1 : Int) < (ls.length : Int)) = false := by simp; omega
    have h1J : ¬ (1 : Int) < (ls.length : Int) := by omega
    go_wp2_with fail
    go_ret
    exact ⟨_, rfl, by rw [HR.out]; exact HI.out, HB1.out⟩
end Go.Proofs.YtbjpmpijlddcpaaDoor
