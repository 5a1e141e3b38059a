/- awake of layer 16. -/
import Derived.Test.YtedfgikikjggaaaDoorLnkP
import Derived.Test.YtedfgikikjggaaaDoorMg1
import Derived.Test.YtedfgikikjggaaaDoorTreeW
set_option linter.unusedVariables false
set_option linter.unusedSimpArgs false
namespace Go.Proofs.YtedfgikikjggaaaDoor
open Go.RowKit

def nsL : List Nd := [⟨[47, 97], 3, [47, 97]⟩, ⟨[47, 102], 1, []⟩, ⟨[47, 108], 3, [46, 47, 102]⟩]
def allL : List Nd := [rootN, ⟨[47, 97], 3, [47, 97]⟩, ⟨[47, 102], 1, []⟩, ⟨[47, 108], 3, [46, 47, 102]⟩]
theorem wholeL : Whole nsL allL := by
  refine ⟨?_, fun n => ?_⟩
  · unfold Rising; decide +kernel
  · unfold allL nsL
    simp only [List.mem_cons, List.not_mem_nil, or_false]
    constructor
    · rintro (h | h | h | h)
      · exact .inr h
      · exact .inl (.inl h)
      · exact .inl (.inr (.inl h))
      · exact .inl (.inr (.inr h))
    · rintro ((h | h | h) | h)
      · exact .inr (.inl h)
      · exact .inr (.inr (.inl h))
      · exact .inr (.inr (.inr h))
      · exact .inl h
theorem goodL : Good nsL := by
  refine ⟨fun n hn => ?_, by decide +kernel, fun n hn hp => ?_⟩
  · unfold nsL at hn
    simp only [List.mem_cons, List.not_mem_nil, or_false] at hn
    rcases hn with rfl | rfl | rfl <;> decide +kernel
  · unfold nsL at hn
    simp only [List.mem_cons, List.not_mem_nil, or_false] at hn
    rcases hn with rfl | rfl | rfl
    all_goals exact ⟨rootN, .inr rfl, by decide +kernel, rfl⟩
theorem loopL : ∀ n : Nat, goL allL n [[97]] [47] 2 = .loop
  | 0 => goL_loop allL [97] [] [47] ⟨[47, 97], 3, [47, 97]⟩ (by decide) rfl rfl
  | n + 1 => by
    rw [goL_link allL n [97] [] [47] ⟨[47, 97], 3, [47, 97]⟩ (by decide) rfl rfl]
    rw [show splitB 47 (⟨[47, 97], 3, [47, 97]⟩ : Nd).d ++ [] = [] :: [[97]] from rfl, goL_skip _ _ _ _ _ _ (.inl rfl), if_pos (by rfl)]
    exact loopL n
theorem realL1 : realV allL [47, 97] = .tuple #[.string ⟨#[]⟩, .int .i64 0, .int .i64 20] := by
  unfold realV
  rw [if_pos (by rfl), show splitB 47 [47, 97] = [] :: [[97]] from rfl, goL_skip _ _ _ _ _ _ (.inl rfl), loopL]; rfl
theorem realL2 : realV allL [47, 120, 47, 46, 46, 47, 108] = .tuple #[.string ⟨#[]⟩, .int .i64 0, .int .i64 13] := by
  unfold realV
  rw [if_pos (by rfl), show splitB 47 [47, 120, 47, 46, 46, 47, 108] = [] :: [120] :: [[46, 46], [108]] from rfl, goL_skip _ _ _ _ _ _ (.inl rfl), goL_gone _ _ _ _ _ (by decide) rfl]; rfl
theorem realL3 : realV allL [47, 47, 108, 47, 46] = .tuple #[.string ⟨#[47, 102]⟩, .int .i64 1, .int .i64 0] := by
  refine realV_ok (q := [47, 102]) rfl ?_
  rw [show splitB 47 [47, 47, 108, 47, 46] = [] :: [] :: [108] :: [[46]] from rfl, goL_skip _ _ _ _ _ _ (.inl rfl), goL_skip _ _ _ _ _ _ (.inl rfl), goL_link allL 39 [108] [[46]] [47] ⟨[47, 108], 3, [46, 47, 102]⟩ (by decide) rfl rfl]
  rw [show splitB 47 (⟨[47, 108], 3, [46, 47, 102]⟩ : Nd).d ++ [[46]] = [46] :: [102] :: [[46]] from rfl, goL_skip _ _ _ _ _ _ (.inr rfl), if_neg (by decide), goL_step allL 39 [102] [[46]] [47] ⟨[47, 102], 1, []⟩ (by decide) rfl (by decide), goL_skip _ _ _ _ _ _ (.inr rfl), goL_nil]; rfl
set_option maxRecDepth 100000 in
set_option maxHeartbeats 8000000 in
theorem awake16_any (w : World) (hM : MaxAt w) :
    Calls Tryd.prog 8 #[] w fun e w' => e = .returned (.bool true) ∧ Below w.heap.size w w' := by
  have HM := Lib.hid hM
  have hta := TreeOf.of wholeL goodL
  go_enter Tryd.func8, Tryd.ntmps8
  go_wp2_with fail
  refine (New_any _ nsL _ (litN _ _ nsL 3 35 _ (by rw [heap_alloc_at, if_pos (by simp)]; rfl) rfl (by decide)) (HM.out.below (ext_alloc w _)) (by intro n hn; unfold nsL at hn; simp only [List.mem_cons, List.not_mem_nil, or_false] at hn; rcases hn with rfl | rfl | rfl <;> decide) (by decide)).mono ?_
  rintro e w1 ⟨h1 | ⟨-, t, all, rfl, ht, hw, hle⟩, hb1⟩
  · exact absurd goodL h1.1
  obtain rfl := hw.eq wholeL
  have HT1 := Lib.hid ht
  have HB1 := Lib.hid (ext_trans (ext_alloc w _) hb1)
  have hle1 : w.heap.size ≤ t := by have := (ext_alloc w (.cells (nsL.flatMap ndC).toArray 35)).size; exact Nat.le_trans this hle
  clear ht hw hb1 hle
  go_wp2_with fail
  refine (Real_any t allL 0 [47, 97] w1 HT1.out hta (by decide) (by decide) (by decide)).mono ?_
  rintro e w2 ⟨rfl, ht2, hg2⟩
  rw [realL1]
  have HT2 := Lib.hid ht2
  have HB2 : Hid (Below w.heap.size w w2) := Lib.hid (HB1.out.grown hg2 HB1.out.size (fun j hj => by injection hj with hj; omega))
  clear ht2 hg2
  go_wp2_with fail
  refine (Real_any t allL (0 + 1) [47, 120, 47, 46, 46, 47, 108] w2 HT2.out hta (by decide) (by decide) (by decide)).mono ?_
  rintro e w3 ⟨rfl, ht3, hg3⟩
  rw [realL2]
  have HT3 := Lib.hid ht3
  have HB3 : Hid (Below w.heap.size w w3) := Lib.hid (HB2.out.grown hg3 HB2.out.size (fun j hj => by injection hj with hj; omega))
  clear ht3 hg3
  go_wp2_with fail
  refine (Real_any t allL (0 + 1 + 1) [47, 47, 108, 47, 46] w3 HT3.out hta (by decide) (by decide) (by decide)).mono ?_
  rintro e w4 ⟨rfl, ht4, hg4⟩
  rw [realL3]
  have HT4 := Lib.hid ht4
  have HB4 : Hid (Below w.heap.size w w4) := Lib.hid (HB3.out.grown hg4 HB3.out.size (fun j hj => by injection hj with hj; omega))
  have HA4 := Lib.hid (Asked_any t allL (0 + 1 + 1 + 1) w4 ht4 (by decide) (by decide))
  clear ht4 hg4
  go_wp2_with fail
  refine HA4.out.mono ?_
  rintro e w5 ⟨rfl, rfl⟩
  go_wp2
  go_ret
  exact ⟨by first | rfl | (simp; done), HB4.out⟩
end Go.Proofs.YtedfgikikjggaaaDoor
