/- The walk of TreeTells. -/
import Derived.Test.YtcdkojdjcifkpaaDoorRfG
import Derived.Test.YtcdkojdjcifkpaaDoorRfF
import Derived.Test.YtcdkojdjcifkpaaDoorLaw15b
import Derived.Test.YtcdkojdjcifkpaaDoorLaw0S
import Derived.Deep.RegionHeld3
set_option linter.unusedVariables false
set_option linter.unusedSimpArgs false
namespace Go.Proofs.YtcdkojdjcifkpaaDoor
open Go.RowKit

theorem cellKeepT {w w' : World} (hb : Below w.heap.size w w') {a : Addr} {v : Value} (h : w.cell? a = some v) : w'.cell? a = some v := by
  rw [hb.cell (World.block_lt_of_cell? w _ h)]; exact h
set_option maxRecDepth 100000 in
set_option maxHeartbeats 16000000 in
theorem tells15_walk (v : Value) (ns : List Nd) (p : Bts) (w : World) (hv : IsNds w v ns) (hpl : p.length ≤ 9223372036854775807) (hM : MaxAt w) :
    Calls Tryd.prog 3 #[v, .string ⟨p.toArray⟩] w fun e w' => e = .returned (.bool true) ∧ Below w.heap.size w w' := by
  have HM := Lib.hid hM
  have HV := Lib.hid hv
  have HBG := Lib.hid (fun w' (h : IsNds w' v ns) => Big_any v ns 3000 w' h (by decide) (by decide))
  obtain ⟨a, cap, rfl, -⟩ := hv
  cases hbg : bigN 3000 ns with
  | true =>
    rw [hbg] at HBG
    go_enter Tryd.func3, Tryd.ntmps3
    go_wp2_with fail
    refine (HBG.out _ HV.out).mono ?_
    rintro e w1 ⟨rfl, n1, rfl⟩
    go_wp2_with fail
    refine (awake15_any _ (HM.out.drew n1)).mono ?_
    rintro e w2 ⟨rfl, hb⟩
    go_wp2
    go_ret
    exact ⟨rfl, ext_trans (ext_drew w n1) hb⟩
  | false =>
    obtain ⟨h40, hnb⟩ := bigN_f hbg
    rw [hbg] at HBG
    by_cases hp1 : 100 < p.length
    · have hpI : (100 : Int) < (p.length : Int) := by omega
      go_enter Tryd.func3, Tryd.ntmps3
      go_wp2_with fail
      refine (HBG.out _ HV.out).mono ?_
      rintro e w1 ⟨rfl, n1, rfl⟩
      go_wp2_with fail
      refine (awake15_any _ (HM.out.drew n1)).mono ?_
      rintro e w2 ⟨rfl, hb⟩
      go_wp2
      go_ret
      exact ⟨rfl, ext_trans (ext_drew w n1) hb⟩
    · have hpI : (p.length : Int) ≤ 100 := by omega
      have HNB : Hid (∀ n ∈ ns, n.p.length ≤ 1000000 ∧ n.d.length ≤ 1000000) := Lib.hid (fun n hn => by have := hnb n hn; omega)
      clear hnb hbg
      go_enter Tryd.func3, Tryd.ntmps3
      go_wp2_with fail
      refine (HBG.out _ HV.out).mono ?_
      rintro e w1 ⟨rfl, n1, rfl⟩
      go_wp2_with fail
      refine (New_any _ ns _ (HV.out.drew n1) (HM.out.drew n1) HNB.out (by omega)).mono ?_
      rintro e w2 ⟨hr2, hb2⟩
      have HB2 := Lib.hid (ext_trans (ext_drew w n1) hb2)
      by_cases hg : Good ns
      · obtain ⟨-, t, all, rfl, ht, hwh, hle⟩ := hr2.resolve_left (fun h => h.1 hg)
        have HT2 := Lib.hid ht
        have HWH := Lib.hid hwh
        have hal : all.length ≤ 41 := by have := whole_len hwh; omega
        have HFT : Hid (∀ n ∈ all, fitN n = true) := Lib.hid (fun n hn => by
          rcases (hwh.2 n).1 hn with h | h
          · exact hg.1 n h
          · rw [h]; decide +kernel)
        have HRN := Lib.hid (rNew_any _ ns _ (HV.out.below HB2.out) HNB.out (by omega))
        clear ht hwh hle hb2 hr2
        go_wp2_with fail
        refine HRN.out.mono ?_
        rintro e w3 ⟨hr3, hb3⟩
        obtain ⟨-, rt, all2, rfl, ⟨rv, hrx, hro⟩, hwh2, hle2⟩ := hr3.resolve_left (fun h => h.1 hg)
        obtain rfl := hwh2.eq HWH.out
        have HT3 := Lib.hid (HT2.out.below hb3)
        have HB3 := Lib.hid (HB2.out.trans (hb3.mono HB2.out.size))
        have HX3 := Lib.hid hrx
        have HO3 := Lib.hid hro
        have HRI := Lib.hid hwh2.1
        have HAB : Hid (∀ n ∈ all2, n.p.length ≤ 1024) := Lib.hid (fun n hn => by
          have hf := HFT.out n hn
          unfold fitN at hf
          simp only [Bool.and_eq_true, decide_eq_true_eq] at hf
          exact hf.1.1.1.1)
        have HCLN : Hid (∀ n ∈ all2, cleanL n.p = true) := Lib.hid (fun n hn => fit_clean (HFT.out n hn))
        obtain ⟨ra, rc, e1⟩ := hro.slice
        subst e1
        have k0 : w3.cell? ⟨rt, 0, none⟩ = some (.slice ra all2.length rc) := by rw [hrx.cell]; rfl
        clear hrx hro hwh2 hle2 hb3 hr3 hg HRN HT2 HFT
        have HAL := Lib.hid (fun (W : World) (h : Below w3.heap.size w3 W) => All_any t all2 0 W (HT3.out.below h) (by omega))
        go_wp2_with fail
        go_region_held3 (fun w' => w'.cell? ⟨rt, 0, none⟩ = some (.slice ra all2.length rc)) (first | assumption | (simp [go_sem]; assumption))
          (first
          | (go_at_call 13; refine (HAL.out _ (below_dr (Below.refl _ _) 1)).mono ?_; rintro e w6 ⟨v6, rfl, hn6, hb6⟩; obtain ⟨a6, c6, rfl, h6⟩ := hn6; have HN6 : Hid (IsNds w6 (.slice a6 all2.length c6) all2) := Lib.hid ⟨a6, c6, rfl, h6⟩; have HB6 := Lib.hid (ext_trans (ext_drew w3 1) hb6); have k6 : w6.cell? ⟨rt, 0, none⟩ = some (.slice ra all2.length rc) := (cellKeepT HB6.out k0); clear hb6 h6)
          | (go_at_call 12; refine (Nodes_any _ _ all2 all2 _ HN6.out (HO3.out.below HB6.out).isNds (by omega) (by omega)).mono ?_; rintro e w7 ⟨⟨b, rfl, hb⟩, n7, rfl⟩; obtain rfl : b = true := hb.2 rfl; clear hb))
        have HT5 := Lib.hid (HT3.out.below (below_dr HB6.out n7))
        have HX5 := Lib.hid (HX3.out.below (below_dr HB6.out n7) HX3.out.lt)
        have HO5 := Lib.hid (HO3.out.below (below_dr HB6.out n7))
        have HB5 := Lib.hid (HB3.out.trans ((below_dr HB6.out n7).mono HB3.out.size))
        obtain ⟨w5, hw5⟩ : ∃ W, w6.drewN n7 = W := ⟨_, rfl⟩
        rw [hw5] at HT5 HX5 HO5 HB5
        go_wp2_with fail
        try rw [hw5]
        clear hw5 k6 HN6 HB6 k0 HT3 HX3 HO3 HB3 HAL
        obtain ⟨rv, hrv⟩ : ∃ rv, Value.slice ra all2.length rc = rv := ⟨_, rfl⟩
        rw [hrv] at HX5 HO5
        have HRV := Lib.hid hrv
        clear hrv
        go_loopw [9] (fun ti wr => ∃ j : Nat, j ≤ all2.length + 1 ∧ ti = .int .i64 ((j : Int) - 1) ∧ Hid (Below w5.heap.size w5 wr)) (fun ti _ => all2.length + 1 - (intOf ti + 1).toNat)
        case atStart => exact ⟨0, by omega, rfl, Lib.hid (Below.refl _ _)⟩
        case round =>
          obtain ⟨j, hj, rfl, HBW⟩ := hrel
          have HT := Lib.hid (HT5.out.below HBW.out)
          have HX := Lib.hid (HX5.out.below HBW.out HX5.out.lt)
          have HO := Lib.hid (HO5.out.below HBW.out)
          have hk0 : wr.cell? ⟨rt, 0, none⟩ = some (.slice ra all2.length rc) := by rw [HX.out.cell, HRV.out]; rfl
          by_cases hlt : j < all2.length + 1
          · have hltI : (j : Int) - 1 < (all2.length : Int) := by omega
            cases j with
            | zero =>
              have HLK := Lib.hid (Look_any t all2 0 (p) wr HT.out (by omega))
              have HRL := Lib.hid (fun (W : World) (hW : Below wr.heap.size wr W) => rLook_any rt rv _ all2 (p) W (HX.out.below hW HX.out.lt) (HO.out.isNds.below hW) HRI.out (by omega) (by omega))
              have HNM := Lib.hid (fun (W : World) (hW : Below wr.heap.size wr W) => Names_any t all2 0 (p) W (HT.out.below hW) (by omega) (by omega))
              have HRM := Lib.hid (fun (W : World) (hW : Below wr.heap.size wr W) => rNames_any rt rv _ all2 (p) W (HX.out.below hW HX.out.lt) (HO.out.isNds.below hW) HRI.out HCLN.out (fun n hn => Nat.le_trans (HAB.out n hn) (by decide)) (by omega) (by omega))
              have HNL : Hid ((namesD all2 (p)).length ≤ 100000000) := Lib.hid (by
                unfold namesD
                split
                · exact Nat.le_trans (namesIn_le _ _) (by omega)
                · exact Nat.zero_le _)
              obtain ⟨R, hR⟩ : ∃ R, (lookN all2 (p)).getD nd0 = R := ⟨_, rfl⟩
              obtain ⟨ok, hok⟩ : ∃ ok, (lookN all2 (p)).isSome = ok := ⟨_, rfl⟩
              rw [hR, hok] at HLK HRL
              obtain ⟨NS, hNS⟩ : ∃ NS, namesD all2 (p) = NS := ⟨_, rfl⟩
              obtain ⟨ID, hID⟩ : ∃ ID, isDir all2 (p) = ID := ⟨_, rfl⟩
              rw [hNS, hID] at HNM HRM
              rw [hNS] at HNL
              clear hR hok hNS hID HT HX HO
              obtain ⟨rq, rk, rd⟩ := R
              simp only [ndV] at HLK HRL
              have HNE : ∀ W, (binOp .neq 37 (.agg #[.string ⟨rq.toArray⟩, .int .i64 rk, .string ⟨rd.toArray⟩]) (.agg #[.string ⟨rq.toArray⟩, .int .i64 rk, .string ⟨rd.toArray⟩])).run Tryd.prog W = .ok (.bool false) W := fun W => by
                have := nd_neq_run ⟨rq, rk, rd⟩ ⟨rq, rk, rd⟩ W
                rw [Nd.beq_iff.2 rfl] at this
                exact this
              go_wp2_with fail
              refine HLK.out.mono ?_
              rintro e w4 ⟨rfl, hb4⟩
              have HB4 := Lib.hid (ext_trans hb4 (ext_alloc w4 (.cells #[.string ⟨rq.toArray⟩, .int .i64 rk, .string ⟨rd.toArray⟩] 37)))
              have HX4 := Lib.hid (Box.new w4 37 [.string ⟨rq.toArray⟩, .int .i64 rk, .string ⟨rd.toArray⟩])
              clear hb4
              go_wp2_with fail
              refine (HRL.out _ HB4.out).mono ?_
              rintro e w5 ⟨rfl, hb5⟩
              have HB5 := Lib.hid (ext_trans (ext_trans HB4.out hb5) (ext_alloc w5 (.cells #[.string ⟨rq.toArray⟩, .int .i64 rk, .string ⟨rd.toArray⟩] 37)))
              have HX5 := Lib.hid (Box.new w5 37 [.string ⟨rq.toArray⟩, .int .i64 rk, .string ⟨rd.toArray⟩])
              have HX4b := Lib.hid ((HX4.out.below hb5 HX4.out.lt).alloc (.cells #[.string ⟨rq.toArray⟩, .int .i64 rk, .string ⟨rd.toArray⟩] 37))
              clear hb5
              go_wp2_with fail
              refine (HNM.out _ HB5.out).mono ?_
              rintro e w6 ⟨v6, rfl, hs6, hb6⟩
              have HB6 := Lib.hid (ext_trans HB5.out hb6)
              have HX4c := Lib.hid (HX4b.out.below hb6 HX4b.out.lt)
              have HX5c := Lib.hid (HX5.out.below hb6 HX5.out.lt)
              have HS6 := Lib.hid hs6
              clear hb6 hs6
              go_wp2_with fail
              refine (HRM.out _ HB6.out).mono ?_
              rintro e w7 ⟨v7, rfl, hs7, hb7⟩
              have HB7 := Lib.hid (ext_trans HB6.out hb7)
              have hx4 := HX4c.out.below hb7 HX4c.out.lt
              have hx5 := HX5c.out.below hb7 HX5c.out.lt
              have n0 : w7.cell? ⟨w4.heap.size, 0, none⟩ = some (.string ⟨rq.toArray⟩) := by rw [hx4.cell]; rfl
              have n1 : w7.cell? ⟨w4.heap.size, 1, none⟩ = some (.int .i64 rk) := by rw [hx4.cell]; rfl
              have n2 : w7.cell? ⟨w4.heap.size, 2, none⟩ = some (.string ⟨rd.toArray⟩) := by rw [hx4.cell]; rfl
              have m0 : w7.cell? ⟨w5.heap.size, 0, none⟩ = some (.string ⟨rq.toArray⟩) := by rw [hx5.cell]; rfl
              have m1 : w7.cell? ⟨w5.heap.size, 1, none⟩ = some (.int .i64 rk) := by rw [hx5.cell]; rfl
              have m2 : w7.cell? ⟨w5.heap.size, 2, none⟩ = some (.string ⟨rd.toArray⟩) := by rw [hx5.cell]; rfl
              have HTX := Lib.hid (texts_eq v6 v7 NS w7 (HS6.out.below hb7) hs7 HNL.out)
              clear hb7 hs7 hx4 hx5
              go_wp2_with fail
              refine HTX.out.mono ?_
              rintro e w8 ⟨rfl, n8, rfl⟩
              go_wp2_with fail
              exact ⟨⟨1, by omega, by first | rfl | go_num | (congr 1; omega) | (simp; done), Lib.hid (below_dr (ext_trans HBW.out HB7.out) n8)⟩, by simp [intOf] <;> omega⟩

            | succ m =>
              have hm1 : ((m + 1 : Nat) : Int) - 1 = (m : Int) := by omega
              rw [hm1] at hltI ⊢
              have hml : m < all2.length := by omega
              have hho := HO.out
              rw [← HRV.out] at hho
              obtain ⟨g, cap, e2, -⟩ := hho.head (by omega)
              injection e2 with e2 _ e3
              subst e2; subst e3
              obtain ⟨c0, -, -⟩ := hho.at hml
              have hpb := HAB.out _ (ndAt_mem hml)
              clear hho
              generalize (ndAt all2 m).p = pp at *
              have HLK := Lib.hid (Look_any t all2 0 (pp) wr HT.out (by omega))
              have HRL := Lib.hid (fun (W : World) (hW : Below wr.heap.size wr W) => rLook_any rt rv _ all2 (pp) W (HX.out.below hW HX.out.lt) (HO.out.isNds.below hW) HRI.out (by omega) (by omega))
              have HNM := Lib.hid (fun (W : World) (hW : Below wr.heap.size wr W) => Names_any t all2 0 (pp) W (HT.out.below hW) (by omega) (by omega))
              have HRM := Lib.hid (fun (W : World) (hW : Below wr.heap.size wr W) => rNames_any rt rv _ all2 (pp) W (HX.out.below hW HX.out.lt) (HO.out.isNds.below hW) HRI.out HCLN.out (fun n hn => Nat.le_trans (HAB.out n hn) (by decide)) (by omega) (by omega))
              have HNL : Hid ((namesD all2 (pp)).length ≤ 100000000) := Lib.hid (by
                unfold namesD
                split
                · exact Nat.le_trans (namesIn_le _ _) (by omega)
                · exact Nat.zero_le _)
              obtain ⟨R, hR⟩ : ∃ R, (lookN all2 (pp)).getD nd0 = R := ⟨_, rfl⟩
              obtain ⟨ok, hok⟩ : ∃ ok, (lookN all2 (pp)).isSome = ok := ⟨_, rfl⟩
              rw [hR, hok] at HLK HRL
              obtain ⟨NS, hNS⟩ : ∃ NS, namesD all2 (pp) = NS := ⟨_, rfl⟩
              obtain ⟨ID, hID⟩ : ∃ ID, isDir all2 (pp) = ID := ⟨_, rfl⟩
              rw [hNS, hID] at HNM HRM
              rw [hNS] at HNL
              clear hR hok hNS hID HT HX HO
              obtain ⟨rq, rk, rd⟩ := R
              simp only [ndV] at HLK HRL
              have HNE : ∀ W, (binOp .neq 37 (.agg #[.string ⟨rq.toArray⟩, .int .i64 rk, .string ⟨rd.toArray⟩]) (.agg #[.string ⟨rq.toArray⟩, .int .i64 rk, .string ⟨rd.toArray⟩])).run Tryd.prog W = .ok (.bool false) W := fun W => by
                have := nd_neq_run ⟨rq, rk, rd⟩ ⟨rq, rk, rd⟩ W
                rw [Nd.beq_iff.2 rfl] at this
                exact this
              go_wp2_with fail
              refine HLK.out.mono ?_
              rintro e w4 ⟨rfl, hb4⟩
              have HB4 := Lib.hid (ext_trans hb4 (ext_alloc w4 (.cells #[.string ⟨rq.toArray⟩, .int .i64 rk, .string ⟨rd.toArray⟩] 37)))
              have HX4 := Lib.hid (Box.new w4 37 [.string ⟨rq.toArray⟩, .int .i64 rk, .string ⟨rd.toArray⟩])
              clear hb4
              go_wp2_with fail
              refine (HRL.out _ HB4.out).mono ?_
              rintro e w5 ⟨rfl, hb5⟩
              have HB5 := Lib.hid (ext_trans (ext_trans HB4.out hb5) (ext_alloc w5 (.cells #[.string ⟨rq.toArray⟩, .int .i64 rk, .string ⟨rd.toArray⟩] 37)))
              have HX5 := Lib.hid (Box.new w5 37 [.string ⟨rq.toArray⟩, .int .i64 rk, .string ⟨rd.toArray⟩])
              have HX4b := Lib.hid ((HX4.out.below hb5 HX4.out.lt).alloc (.cells #[.string ⟨rq.toArray⟩, .int .i64 rk, .string ⟨rd.toArray⟩] 37))
              clear hb5
              go_wp2_with fail
              refine (HNM.out _ HB5.out).mono ?_
              rintro e w6 ⟨v6, rfl, hs6, hb6⟩
              have HB6 := Lib.hid (ext_trans HB5.out hb6)
              have HX4c := Lib.hid (HX4b.out.below hb6 HX4b.out.lt)
              have HX5c := Lib.hid (HX5.out.below hb6 HX5.out.lt)
              have HS6 := Lib.hid hs6
              clear hb6 hs6
              go_wp2_with fail
              refine (HRM.out _ HB6.out).mono ?_
              rintro e w7 ⟨v7, rfl, hs7, hb7⟩
              have HB7 := Lib.hid (ext_trans HB6.out hb7)
              have hx4 := HX4c.out.below hb7 HX4c.out.lt
              have hx5 := HX5c.out.below hb7 HX5c.out.lt
              have n0 : w7.cell? ⟨w4.heap.size, 0, none⟩ = some (.string ⟨rq.toArray⟩) := by rw [hx4.cell]; rfl
              have n1 : w7.cell? ⟨w4.heap.size, 1, none⟩ = some (.int .i64 rk) := by rw [hx4.cell]; rfl
              have n2 : w7.cell? ⟨w4.heap.size, 2, none⟩ = some (.string ⟨rd.toArray⟩) := by rw [hx4.cell]; rfl
              have m0 : w7.cell? ⟨w5.heap.size, 0, none⟩ = some (.string ⟨rq.toArray⟩) := by rw [hx5.cell]; rfl
              have m1 : w7.cell? ⟨w5.heap.size, 1, none⟩ = some (.int .i64 rk) := by rw [hx5.cell]; rfl
              have m2 : w7.cell? ⟨w5.heap.size, 2, none⟩ = some (.string ⟨rd.toArray⟩) := by rw [hx5.cell]; rfl
              have HTX := Lib.hid (texts_eq v6 v7 NS w7 (HS6.out.below hb7) hs7 HNL.out)
              clear hb7 hs7 hx4 hx5
              go_wp2_with fail
              refine HTX.out.mono ?_
              rintro e w8 ⟨rfl, n8, rfl⟩
              go_wp2_with fail
              exact ⟨⟨m + 2, by omega, by first | rfl | go_num | (congr 1; omega) | (simp; done), Lib.hid (below_dr (ext_trans HBW.out HB7.out) n8)⟩, by simp [intOf] <;> omega⟩

          · obtain rfl : j = all2.length + 1 := by omega
            have hltI : ¬ ((all2.length + 1 : Nat) : Int) - 1 < (all2.length : Int) := by omega
            have HA := Lib.hid (Asked_any t all2 0 wr HT.out (by decide) (by decide))
            have HBE := Lib.hid (HB5.out.trans (HBW.out.mono HB5.out.size))
            clear HT HX HO
            go_wp2_with fail
            refine HA.out.mono ?_
            rintro e w6 ⟨rfl, rfl⟩
            go_wp2_with fail
            refine (awake15_any _ (HM.out.below HBE.out)).mono ?_
            rintro e w7 ⟨rfl, hb7⟩
            go_wp2
            go_ret
            exact ⟨by first | rfl | (simp; done), HBE.out.trans (hb7.mono HBE.out.size)⟩
      · obtain ⟨-, rfl⟩ := hr2.resolve_right (fun h => hg h.1)
        have HRN := Lib.hid (rNew_any _ ns _ (HV.out.below HB2.out) HNB.out (by omega))
        clear hb2 hr2
        go_wp2_with fail
        refine HRN.out.mono ?_
        rintro e w3 ⟨hr3, hb3⟩
        obtain ⟨-, rfl⟩ := hr3.resolve_right (fun h => hg h.1)
        have HB3 := Lib.hid (HB2.out.trans (hb3.mono HB2.out.size))
        clear hb3 hr3 hg
        go_wp2_with fail
        refine (awake15_any _ (HM.out.below HB3.out)).mono ?_
        rintro e w7 ⟨rfl, hb7⟩
        go_wp2
        go_ret
        exact ⟨by first | rfl | (simp; done), HB3.out.trans (hb7.mono HB3.out.size)⟩
end Go.Proofs.YtcdkojdjcifkpaaDoor
