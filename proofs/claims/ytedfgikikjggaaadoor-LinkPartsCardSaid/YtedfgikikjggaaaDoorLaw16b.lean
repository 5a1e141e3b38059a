/- The walk of LinkParts. -/
import Derived.Test.YtedfgikikjggaaaDoorLnkW
import Derived.Test.YtedfgikikjggaaaDoorLaw15b
import Derived.Test.YtedfgikikjggaaaDoorLaw0S
set_option linter.unusedVariables false
set_option linter.unusedSimpArgs false
namespace Go.Proofs.YtedfgikikjggaaaDoor
open Go.RowKit

set_option maxRecDepth 100000 in
set_option maxHeartbeats 16000000 in
theorem parts_walk (v : Value) (ns : List Nd) (p q : Bts) (w : World) (hv : IsNds w v ns) (hpl : p.length ≤ 9223372036854775807) (hql : q.length ≤ 9223372036854775807) (hM : MaxAt w) :
    Calls Tryd.prog 6 #[v, .string ⟨p.toArray⟩, .string ⟨q.toArray⟩] w fun e w' => e = .returned (.bool true) ∧ Below w.heap.size w w' := by
  have HM := Lib.hid hM
  have HV := Lib.hid hv
  have HBG := Lib.hid (fun w' (h : IsNds w' v ns) => Big_any v ns 3000 w' h (by decide) (by decide))
  have HLG := Lib.hid (fun (v : Value) (W : World) (hs : IsStr W v [p, q]) => long_any 120 v [p, q] W hs (by decide) (by decide) (by simp) (by intro s hs; simp at hs; rcases hs with rfl | rfl <;> omega))
  obtain ⟨a, cap, rfl, -⟩ := hv
  cases hbg : bigN 3000 ns with
  | true =>
    rw [hbg] at HBG
    go_enter Tryd.func6, Tryd.ntmps6
    go_wp2_with fail
    refine (HBG.out _ HV.out).mono ?_
    rintro e w1 ⟨rfl, n1, rfl⟩
    go_wp2_with fail
    refine (awake16_any _ (HM.out.drew n1)).mono ?_
    rintro e w2 ⟨rfl, hb⟩
    go_wp2
    go_ret
    exact ⟨rfl, ext_trans (ext_drew w n1) hb⟩
  | false =>
    obtain ⟨h40, hnb⟩ := bigN_f hbg
    rw [hbg] at HBG
    have HLT : Hid (longB 120 [p, q] = false → p.length + q.length ≤ 118) := Lib.hid (fun h => by
      have := longB_tot [p, q] 120 h (by simp)
      simp [totL] at this; omega)
    have HNB : Hid (∀ n ∈ ns, n.p.length ≤ 1000000 ∧ n.d.length ≤ 1000000) := Lib.hid (fun n hn => by have := hnb n hn; omega)
    clear hnb hbg
    go_enter Tryd.func6, Tryd.ntmps6
    go_wp2_with fail
    refine (HBG.out _ HV.out).mono ?_
    rintro e w1 ⟨rfl, n1, rfl⟩
    go_wp2_with fail
    refine (HLG.out _ _ (litS _ _ [p, q] 2 9 _ (by rw [heap_alloc_at, if_pos (by simp)]; rfl) rfl (by decide))).mono ?_
    rintro e w2 ⟨rfl, n2, rfl⟩
    have HB2 : Hid (Below w.heap.size w (((w.drewN n1).alloc (.cells #[.string ⟨p.toArray⟩, .string ⟨q.toArray⟩] 9)).drewN n2)) := Lib.hid (below_dr ((below_dr (Below.refl _ _) n1).alloc (Nat.le_refl _) _) n2)
    cases hlg : longB 120 [p, q] with
    | true =>
      go_wp2_with fail
      refine (awake16_any _ (HM.out.below HB2.out)).mono ?_
      rintro e w3 ⟨rfl, hb⟩
      go_wp2
      go_ret
      exact ⟨rfl, HB2.out.trans (hb.mono HB2.out.size)⟩
    | false =>
      have hpq := HLT.out hlg
      have hl1 : ([47] : Bts).length + p.length ≤ 9223372036854775807 := by simp; omega
      have hl2 : (([47] : Bts) ++ p).length + ([47] : Bts).length ≤ 9223372036854775807 := by simp; omega
      have hl3 : (([47] : Bts) ++ p ++ [47]).length + q.length ≤ 9223372036854775807 := by simp; omega
      clear HLT hlg HLG
      obtain ⟨W2, hW2⟩ : ∃ W, ((w.drewN n1).alloc (.cells #[.string ⟨p.toArray⟩, .string ⟨q.toArray⟩] 9)).drewN n2 = W := ⟨_, rfl⟩
      rw [hW2] at HB2
      go_wp2_with fail
      have HB2' := HB2
      clear hW2
      refine (New_any _ ns _ (HV.out.below HB2.out) (HM.out.below HB2.out) HNB.out (by omega)).mono ?_
      rintro e w2 ⟨hr2, hb2⟩
      have HB2 := Lib.hid (HB2'.out.trans (hb2.mono HB2'.out.size))
      by_cases hg : Good ns
      · obtain ⟨-, t, all, rfl, ht, hwh, hle⟩ := hr2.resolve_left (fun h => h.1 hg)
        have hta := TreeOf.of hwh hg
        have HT2 := Lib.hid ht
        have htw : w.heap.size ≤ t := Nat.le_trans HB2'.out.size hle
        clear ht hwh hle hb2 hr2 hg HB2'
        go_wp2_with fail
        refine (Real_any t all 0 (47 :: (p ++ 47 :: q)) w2 HT2.out hta (by decide) (by decide) (by simp; omega)).mono ?_
        rintro e w3 ⟨rfl, ht3, hg3⟩
        have HT3 := Lib.hid ht3
        have HB3 : Hid (Below w.heap.size w w3) := Lib.hid (HB2.out.grown hg3 HB2.out.size (fun j hj => by injection hj with hj; omega))
        clear ht3 hg3
        rcases realV_cases all (47 :: (p ++ 47 :: q)) with ⟨a', k, -, hgo, hrv⟩ | ⟨er, her, hrv, -⟩
        · rw [hrv]
          obtain ⟨b, kb, hat, hv1, hv2⟩ := real_parts hta hgo
          obtain ⟨-, hbl, -, -⟩ := hat.clean hta
          have HV1 := Lib.hid hv1
          have HV2 := Lib.hid hv2
          have hl4 : b.length + ([47] : Bts).length ≤ 9223372036854775807 := by simp; omega
          have hl5 : (b ++ [47]).length + q.length ≤ 9223372036854775807 := by simp; omega
          clear hrv hgo hat hv1 hv2
          go_wp2_with fail
          refine (Real_any t all (0 + 1) (47 :: p) w3 HT3.out hta (by decide) (by decide) (by simp; omega)).mono ?_
          rintro e w4 ⟨rfl, ht4, hg4⟩
          rw [HV1.out]
          have HT4 := Lib.hid ht4
          have HB4 : Hid (Below w.heap.size w w4) := Lib.hid (HB3.out.grown hg4 HB3.out.size (fun j hj => by injection hj with hj; omega))
          clear ht4 hg4
          go_wp2_with fail
          refine (Real_any t all (0 + 1 + 1) (b ++ 47 :: q) w4 HT4.out hta (by decide) (by decide) (by simp; omega)).mono ?_
          rintro e w5 ⟨rfl, ht5, hg5⟩
          rw [HV2.out]
          have HB5 : Hid (Below w.heap.size w w5) := Lib.hid (HB4.out.grown hg5 HB4.out.size (fun j hj => by injection hj with hj; omega))
          clear ht5 hg5
          go_wp2_with fail
          refine (awake16_any _ (HM.out.below HB5.out)).mono ?_
          rintro e w7 ⟨rfl, hb7⟩
          go_wp2
          go_ret
          exact ⟨by first | rfl | (simp; done), HB5.out.trans (hb7.mono HB5.out.size)⟩
        · rw [hrv]
          have heb : (er != 0) = true := by simpa using her
          clear hrv
          go_wp2_with fail
          refine (awake16_any _ (HM.out.below HB3.out)).mono ?_
          rintro e w7 ⟨rfl, hb7⟩
          go_wp2
          go_ret
          exact ⟨by first | rfl | (simp; done), HB3.out.trans (hb7.mono HB3.out.size)⟩
      · obtain ⟨-, rfl⟩ := hr2.resolve_right (fun h => hg h.1)
        clear hb2 hr2 hg
        go_wp2_with fail
        refine (awake16_any _ (HM.out.below HB2.out)).mono ?_
        rintro e w7 ⟨rfl, hb7⟩
        go_wp2
        go_ret
        exact ⟨by first | rfl | (simp; done), HB2.out.trans (hb7.mono HB2.out.size)⟩
end Go.Proofs.YtedfgikikjggaaaDoor
