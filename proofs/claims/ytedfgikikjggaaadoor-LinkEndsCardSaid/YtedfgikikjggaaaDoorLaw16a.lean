/- The walk of LinkEnds. -/
import Derived.Test.YtedfgikikjggaaaDoorLnkW
import Derived.Test.YtedfgikikjggaaaDoorLaw15b
import Derived.Test.YtedfgikikjggaaaDoorRfA
set_option linter.unusedVariables false
set_option linter.unusedSimpArgs false
namespace Go.Proofs.YtedfgikikjggaaaDoor
open Go.RowKit

set_option maxRecDepth 100000 in
set_option maxHeartbeats 16000000 in
theorem ends_walk (v : Value) (ns : List Nd) (p : Bts) (w : World) (hv : IsNds w v ns) (hpl : p.length ≤ 9223372036854775807) (hM : MaxAt w) :
    Calls Tryd.prog 4 #[v, .string ⟨p.toArray⟩] w fun e w' => e = .returned (.bool true) ∧ Below w.heap.size w w' := by
  have HM := Lib.hid hM
  have HV := Lib.hid hv
  have HBG := Lib.hid (fun w' (h : IsNds w' v ns) => Big_any v ns 3000 w' h (by decide) (by decide))
  obtain ⟨a, cap, rfl, -⟩ := hv
  cases hbg : bigN 3000 ns with
  | true =>
    rw [hbg] at HBG
    go_enter Tryd.func4, Tryd.ntmps4
    go_wp2_with fail
    refine (HBG.out _ HV.out).mono ?_
    rintro e w1 ⟨rfl, n1, rfl⟩
    go_wp2_with fail
    refine (awake16_any _ (HM.out.drew n1)).mono ?_
    rintro e w2 ⟨rfl, hb⟩
    go_wp2
    go_ret
    exact ⟨rfl, ext_trans (ext_drew w n1) hb⟩
  | false =>
    obtain ⟨h40, hnb⟩ := bigN_f hbg
    rw [hbg] at HBG
    by_cases hp1 : 100 < p.length
    · have hpI : (100 : Int) < (p.length : Int) := by omega
      go_enter Tryd.func4, Tryd.ntmps4
      go_wp2_with fail
      refine (HBG.out _ HV.out).mono ?_
      rintro e w1 ⟨rfl, n1, rfl⟩
      go_wp2_with fail
      refine (awake16_any _ (HM.out.drew n1)).mono ?_
      rintro e w2 ⟨rfl, hb⟩
      go_wp2
      go_ret
      exact ⟨rfl, ext_trans (ext_drew w n1) hb⟩
    · have hpI : (p.length : Int) ≤ 100 := by omega
      have HNB : Hid (∀ n ∈ ns, n.p.length ≤ 1000000 ∧ n.d.length ≤ 1000000) := Lib.hid (fun n hn => by have := hnb n hn; omega)
      clear hnb hbg
      go_enter Tryd.func4, Tryd.ntmps4
      go_wp2_with fail
      refine (HBG.out _ HV.out).mono ?_
      rintro e w1 ⟨rfl, n1, rfl⟩
      go_wp2_with fail
      refine (New_any _ ns _ (HV.out.drew n1) (HM.out.drew n1) HNB.out (by omega)).mono ?_
      rintro e w2 ⟨hr2, hb2⟩
      have HB2 := Lib.hid (ext_trans (ext_drew w n1) hb2)
      by_cases hg : Good ns
      · obtain ⟨-, t, all, rfl, ht, hwh, hle⟩ := hr2.resolve_left (fun h => h.1 hg)
        have hta := TreeOf.of hwh hg
        have HT2 := Lib.hid ht
        have htw : w.heap.size ≤ t := hle
        clear ht hwh hle hb2 hr2 hg
        go_wp2_with fail
        refine (Real_any t all 0 p w2 HT2.out hta (by decide) (by decide) (by omega)).mono ?_
        rintro e w3 ⟨rfl, ht3, hg3⟩
        have HT3 := Lib.hid ht3
        have HB3 : Hid (Below w.heap.size w w3) := Lib.hid (HB2.out.grown hg3 HB2.out.size (fun j hj => by injection hj with hj; omega))
        clear ht3 hg3
        rcases realV_cases all p with ⟨q, k, -, hgo, hrv⟩ | ⟨er, her, hrv, -⟩
        · rw [hrv]
          have hat := goL_there hta _ _ _ _ hta.rootAt _ _ hgo
          obtain ⟨hcl, hql, hk, -⟩ := hat.clean hta
          have HDT := Lib.hid (real_dot hta hat)
          obtain ⟨nd, hnd1, hnd2, -⟩ := hat
          clear hrv hgo
          have HLK := Lib.hid (Look_any t all (0 + 1) q w3 HT3.out (by omega))
          rw [hnd1] at HLK
          simp only [Option.getD_some, Option.isSome_some, ndV] at HLK
          obtain ⟨nq, nk, ndd⟩ := nd
          simp only at hnd2
          subst hnd2
          have hl1 : ([47, 46] : Bts).length + q.length ≤ 9223372036854775807 := by simp; omega
          have hl2 : (([47, 46] : Bts) ++ q).length + ([47] : Bts).length ≤ 9223372036854775807 := by simp; omega
          have HCL := Lib.hid (fun w => rClean_any q w (by omega))
          rw [hcl] at HCL
          have hke : (nk == 1) = true ∨ ((nk == 1) = false ∧ (nk == 2) = true) := by
            rcases hk with rfl | rfl
            · exact .inl rfl
            · exact .inr ⟨rfl, rfl⟩
          clear hnd1 hcl hk
          go_wp2_with fail
          refine HLK.out.mono ?_
          rintro e w4 ⟨rfl, hb4⟩
          have HT4 := Lib.hid (HT3.out.below hb4)
          have HB4 := Lib.hid (HB3.out.trans (hb4.mono HB3.out.size))
          clear hb4
          have HT4a := Lib.hid (HT4.out.below (ext_alloc w4 (.cells #[.string ⟨nq.toArray⟩, .int .i64 nk, .string ⟨ndd.toArray⟩] 35)))
          have HBX := Lib.hid (Box.new w4 35 [.string ⟨nq.toArray⟩, .int .i64 nk, .string ⟨ndd.toArray⟩])
          have htl := HT4.out.lt
          go_wp2_with fail
          refine (Real_any t all (0 + 1) (47 :: 46 :: (q ++ [47])) _ HT4a.out hta (by decide) (by decide) (by simp; omega)).mono ?_
          rintro e w5 ⟨rfl, ht5, hg5⟩
          rw [HDT.out]
          have hbx5 := HBX.out.grown hg5 (fun e => by injection e with e; omega)
          have n1 : w5.cell? ⟨w4.heap.size, 1, none⟩ = some (.int .i64 nk) := by rw [hbx5.cell]; rfl
          have HB5 : Hid (Below w.heap.size w w5) := Lib.hid ((HB4.out.alloc HB4.out.size _).grown hg5 (HB4.out.alloc HB4.out.size (.cells #[.string ⟨nq.toArray⟩, .int .i64 nk, .string ⟨ndd.toArray⟩] 35)).size (fun j hj => by injection hj with hj; omega))
          clear ht5 hg5
          go_wp2_with fail
          refine (HCL.out _).mono ?_
          rintro e w6 ⟨rfl, hb6⟩
          have n2 : w6.cell? ⟨w4.heap.size, 1, none⟩ = some (.int .i64 nk) := by rw [(hbx5.below hb6 hbx5.lt).cell]; rfl
          have HB6 := Lib.hid (HB5.out.trans (hb6.mono HB5.out.size))
          clear hb6 hbx5 n1
          rcases hke with hk1 | ⟨hk1, hk2⟩
          all_goals
            go_wp2_with fail
            refine (awake16_any _ (HM.out.below HB6.out)).mono ?_
            rintro e w7 ⟨rfl, hb7⟩
            go_wp2
            go_ret
            exact ⟨by first | rfl | (simp; done), HB6.out.trans (hb7.mono HB6.out.size)⟩
        · rw [hrv]
          have heb : (er != 0) = true := by simpa using her
          clear hrv
          go_wp2_with fail
          refine (awake16_any _ (HM.out.below HB3.out)).mono ?_
          rintro e w7 ⟨rfl, hb7⟩
          go_wp2
          go_ret
          exact ⟨by first | rfl | (simp; done), HB3.out.trans (hb7.mono HB3.out.size)⟩
      · obtain ⟨-, rfl⟩ := hr2.resolve_right (fun h => hg h.1)
        clear hb2 hr2 hg
        go_wp2_with fail
        refine (awake16_any _ (HM.out.below HB2.out)).mono ?_
        rintro e w7 ⟨rfl, hb7⟩
        go_wp2
        go_ret
        exact ⟨by first | rfl | (simp; done), HB2.out.trans (hb7.mono HB2.out.size)⟩
end Go.Proofs.YtedfgikikjggaaaDoor
