/- The walk of TreeAsks. -/
import Derived.Test.YtcdkojdjcifkpaaDoorTreeW
import Derived.Test.YtcdkojdjcifkpaaDoorLow
import Derived.Test.YtcdkojdjcifkpaaDoorQuiet
set_option linter.unusedVariables false
set_option linter.unusedSimpArgs false
namespace Go.Proofs.YtcdkojdjcifkpaaDoor
open Go.RowKit

theorem goodNil : Good [] := And.intro (fun n hn => (by cases hn)) (And.intro List.nodup_nil (fun n hn => (by cases hn)))
theorem wholeNil : Whole [] [rootN] := by
  refine ⟨?_, fun n => ?_⟩
  · unfold Rising; exact List.pairwise_singleton _ _
  · simp
theorem isNds_nil (w : World) : IsNds w (.slice none 0 0) [] := ⟨none, 0, rfl, Nat.le_refl _, by unfold maxLen; omega, fun _ => rfl, fun h => by simp at h⟩
set_option maxRecDepth 100000 in
set_option maxHeartbeats 8000000 in
theorem asks_walk (n : Int) (p : List UInt8) (w : World) (h0 : -9223372036854775808 ≤ n) (h1 : n ≤ 9223372036854775807) (hp : p.length ≤ 9223372036854775807) (hM : MaxAt w) :
    Calls Tryd.prog 6 #[.int .i64 n, .string ⟨p.toArray⟩] w fun e w' => e = .returned (.bool true) ∧ Below w.heap.size w w' := by
  have HM := Lib.hid hM
  by_cases h60 : 60 < p.length
  · have hI : (60 : Int) < (p.length : Int) := by omega
    go_enter Tryd.func6, Tryd.ntmps6
    go_wp2_with fail
    refine (awake15_any _ HM.out).mono ?_
    rintro e w1 ⟨rfl, hb⟩
    go_wp2
    go_ret
    exact ⟨rfl, hb⟩
  · have hI : (p.length : Int) ≤ 60 := by omega
    have hpl : p.length ≤ 60 := by omega
    have HLW := Lib.hid (fun w => low_any n 30 w h0 h1 (by decide) (by decide))
    obtain ⟨b1, b2⟩ := lowN_bd n 30 (by decide)
    generalize lowN n 30 = L at *
    go_enter Tryd.func6, Tryd.ntmps6
    go_wp2_with fail
    refine (New_any _ [] _ (isNds_nil w) HM.out (fun n hn => by cases hn) (by decide)).mono ?_
    rintro e w1 ⟨h1, hb1⟩
    obtain ⟨-, t, all, rfl, ht, hw, hle⟩ := h1.resolve_left (fun h => h.1 goodNil)
    obtain rfl := hw.eq wholeNil
    have HT1 := Lib.hid ht
    have HB1 := Lib.hid hb1
    clear ht hw hb1
    go_wp2_with fail
    go_loopw [7] (fun ti wr => ∃ i : Nat, (i : Int) ≤ L ∧ ti = .int .i64 i ∧ Hid (TreeIs wr t [rootN] i) ∧ Hid (Below w.heap.size w wr)) (fun ti _ => 30 - (intOf ti).toNat)
    case atStart => exact ⟨0, by omega, rfl, HT1, HB1⟩
    case round =>
      obtain ⟨i, hi, rfl, HT, HB⟩ := hrel
      by_cases hlt : (i : Int) < L
      · have HAK := Lib.hid (Ask_any t [rootN] i wr HT.out (by omega) (by omega))
        go_wp2_with fail
        refine (HLW.out _).mono ?_
        rintro e w2 ⟨rfl, rfl⟩
        go_wp2_with fail
        refine HAK.out.mono ?_
        rintro e w3 ⟨rfl, ht3, hg3⟩
        have HT3 := Lib.hid ht3
        have HB3 : Hid (Below w.heap.size w w3) := Lib.hid (HB.out.grown hg3 HB.out.size (fun j hj => by injection hj with hj; omega))
        clear ht3 hg3
        go_wp2_with fail
        refine (Look_any t [rootN] (i + 1) p w3 HT3.out (by omega)).mono ?_
        rintro e w4 ⟨rfl, hb4⟩
        have HT4 := Lib.hid (HT3.out.below hb4)
        have HB4 := Lib.hid (HB3.out.trans (hb4.mono HB3.out.size))
        clear hb4
        generalize (lookN [rootN] p).isSome = q at *
        generalize (lookN [rootN] p).getD nd0 = nd at *
        simp only [ndV]
        go_wp2_with fail
        refine (Names_any t [rootN] (i + 1) [47] w4 HT4.out (by decide) (by decide)).mono ?_
        rintro e w5 ⟨v5, rfl, -, hb5⟩
        have HT5 := Lib.hid (HT4.out.below hb5)
        have HB5 := Lib.hid (HB4.out.trans (hb5.mono HB4.out.size))
        clear hb5
        go_wp2_with fail
        exact ⟨⟨i + 1, by omega, by go_num, Lib.hid (by have := HT5.out; push_cast; exact this), HB5⟩, by simp [intOf]; omega⟩
      · obtain rfl : L = (i : Int) := by omega
        have HAS := Lib.hid (fun w (h : TreeIs w t [rootN] i) => Asked_any t [rootN] i w h (by omega) (by omega))
        have HAL := Lib.hid (fun w (h : TreeIs w t [rootN] i) => All_any t [rootN] i w h (by decide))
        by_cases h47 : p = [47]
        · subst h47
          go_wp2_with fail
          refine (HLW.out _).mono ?_
          rintro e w2 ⟨rfl, rfl⟩
          go_wp2_with fail
          refine (Look_any t [rootN] i [47] wr HT.out (by decide)).mono ?_
          rintro e w4 ⟨rfl, hb4⟩
          have HT4 := Lib.hid (HT.out.below hb4)
          have HB4 := Lib.hid (HB.out.trans (hb4.mono HB.out.size))
          clear hb4
          rw [show lookN [rootN] [47] = some rootN from rfl]
          simp only [ndV, Option.getD_some, Option.isSome_some, rootN]
          go_wp2_with fail
          refine (HAS.out _ (HT4.out.below (ext_trans (ext_alloc w4 _) (ext_alloc _ _)))).mono ?_
          rintro e w5 ⟨rfl, rfl⟩
          go_wp2_with fail
          refine (HLW.out _).mono ?_
          rintro e w5 ⟨rfl, rfl⟩
          go_wp2_with fail
          refine (HAL.out _ (HT4.out.below (ext_trans (ext_alloc w4 _) (ext_alloc _ _)))).mono ?_
          rintro e w6 ⟨v6, rfl, hn6, hb6⟩
          obtain ⟨a6, c6, rfl, -⟩ := hn6
          have HB6 := Lib.hid (HB4.out.trans ((ext_trans (ext_trans (ext_alloc w4 _) (ext_alloc _ _)) hb6).mono HB4.out.size))
          clear hb6
          go_wp2_with fail
          refine (awake15_any _ (HM.out.below HB6.out)).mono ?_
          rintro e w7 ⟨rfl, hb7⟩
          go_wp2_with fail
          go_ret
          exact ⟨rfl, HB6.out.trans (hb7.mono HB6.out.size)⟩
        · have e1 : (p == [47]) = false := by rw [beq_eq_false_iff_ne]; exact h47
          have hlk : lookN [rootN] p = none := by
            cases hl : lookN [rootN] p with
            | none => rfl
            | some m =>
              obtain ⟨h2, h3⟩ := lookN_some hl
              rw [List.mem_singleton.1 h2] at h3
              exact absurd h3.symm h47
          go_wp2_with fail
          refine (HLW.out _).mono ?_
          rintro e w2 ⟨rfl, rfl⟩
          go_wp2_with fail
          refine (Look_any t [rootN] i p wr HT.out (by omega)).mono ?_
          rintro e w4 ⟨rfl, hb4⟩
          have HT4 := Lib.hid (HT.out.below hb4)
          have HB4 := Lib.hid (HB.out.trans (hb4.mono HB.out.size))
          clear hb4
          rw [hlk]
          simp only [ndV, Option.getD_none, Option.isSome_none, nd0]
          go_wp2_with fail
          refine (HAS.out _ (HT4.out.below (ext_trans (ext_alloc w4 _) (ext_alloc _ _)))).mono ?_
          rintro e w5 ⟨rfl, rfl⟩
          go_wp2_with fail
          refine (HLW.out _).mono ?_
          rintro e w5 ⟨rfl, rfl⟩
          go_wp2_with fail
          refine (HAL.out _ (HT4.out.below (ext_trans (ext_alloc w4 _) (ext_alloc _ _)))).mono ?_
          rintro e w6 ⟨v6, rfl, hn6, hb6⟩
          obtain ⟨a6, c6, rfl, -⟩ := hn6
          have HB6 := Lib.hid (HB4.out.trans ((ext_trans (ext_trans (ext_alloc w4 _) (ext_alloc _ _)) hb6).mono HB4.out.size))
          clear hb6
          go_wp2_with fail
          refine (awake15_any _ (HM.out.below HB6.out)).mono ?_
          rintro e w7 ⟨rfl, hb7⟩
          go_wp2_with fail
          go_ret
          exact ⟨rfl, HB6.out.trans (hb7.mono HB6.out.size)⟩
end Go.Proofs.YtcdkojdjcifkpaaDoor
