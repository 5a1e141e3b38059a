/- The walk of LinkChains, its way. -/
import Derived.Test.YtedfgikikjggaaaDoorLaw16d
set_option linter.unusedVariables false
set_option linter.unusedSimpArgs false
namespace Go.Proofs.YtedfgikikjggaaaDoor
open Go.RowKit

theorem cellKeepB {w w' : World} (hb : Below w.heap.size w w') {a : Addr} {v : Value} (h : w.cell? a = some v) : w'.cell? a = some v := by
  rw [hb.cell (World.block_lt_of_cell? w _ h)]; exact h
set_option maxRecDepth 100000 in
set_option maxHeartbeats 16000000 in
theorem chains_walk (n : Int) (a : Option Addr) (len cap : Nat) (zs : List Bool) (w : World) (h0 : -9223372036854775808 ≤ n) (h1 : n ≤ 9223372036854775807) (hb : IsRowB w a len cap zs) (hM : MaxAt w) :
    Calls Tryd.prog 5 #[.int .i64 n, .slice a len cap] w fun e w' => e = .returned (.bool true) ∧ Below w.heap.size w w' := by
  have HM := Lib.hid hM
  have HLW := Lib.hid (fun w => low_any n 5 w h0 h1 (by decide) (by decide))
  obtain ⟨b1, b2⟩ := lowN_bd n 5 (by decide)
  obtain ⟨L, hL⟩ := Int.eq_ofNat_of_zero_le b1
  rw [hL] at HLW b2
  have hL5 : L < 5 := by omega
  obtain ⟨K, hK⟩ : ∃ K : Nat, 38 + L = K := ⟨_, rfl⟩
  have hKI : (38 : Int) + (L : Int) = (K : Int) := by omega
  have hK1 : 38 ≤ K := by omega
  have hK2 : K ≤ 42 := by omega
  obtain ⟨rfl, hsl⟩ := hb
  obtain ⟨a', cap', e, c1, c2, -, c3⟩ := hsl
  injection e with e1 _ e3
  subst e1; subst e3
  unfold maxLen at c2
  obtain ⟨ws, hws⟩ : ∃ ws : Nat → Bool, ws = fun i => decide (i < zs.length) && zs.getD i false := ⟨_, rfl⟩
  have HWS := Lib.hid hws
  have HDG : Hid (∀ i : Nat, i ≤ 42 → ∀ W, Calls Tryd.prog 17 #[.int .i64 (i : Int)] W fun e w' => e = .returned (.string ⟨(dgL i).toArray⟩) ∧ Below W.heap.size W w') := Lib.hid (fun i hi W => by
    have := lDigits_any (i + 1) i W (by omega) (by omega)
    rwa [dec_dgL (by omega)] at this)
  clear b1 b2 hL hws h0 h1 hM
  go_enter Tryd.func5, Tryd.ntmps5
  go_wp2_with fail
  refine (HLW.out _).mono ?_
  rintro e w1 ⟨rfl, rfl⟩
  go_wp2_with fail
  go_loopw [6, 7] (fun tv ti wr => ∃ (i : Nat) (v : Value), 1 ≤ i ∧ i ≤ K + 1 ∧ tv = v ∧ ti = .int .i64 i ∧ Hid (OwnN wr w.heap.size v (chL ws i)) ∧ Hid (Below w.heap.size w wr)) (fun _ ti _ => K + 1 - (intOf ti).toNat)
  case atStart => exact ⟨1, _, Nat.le_refl _, by omega, rfl, rfl, Lib.hid (OwnN.lit1 w (nodeC ws 0)), Lib.hid (ext_alloc _ _)⟩
  case round =>
    obtain ⟨i, v, hi0, hi, rfl, rfl, HO, HB⟩ := hrel
    by_cases hlt : i ≤ K
    · have hltI : (i : Int) ≤ (K : Int) := by omega
      obtain ⟨m, rfl⟩ : ∃ m, i = m + 1 := ⟨i - 1, by omega⟩
      have hm1 : ((m + 1 : Nat) : Int) - 1 = (m : Int) := by omega
      have HD1 := Lib.hid (HDG.out m (by omega))
      have HD2 := Lib.hid (HDG.out (m + 1) (by omega))
      have hdl1 : (dgL m).length ≤ 2 := by unfold dgL; split <;> simp
      have hdl2 : (dgL (m + 1)).length ≤ 2 := by unfold dgL; split <;> simp
      have HND : Hid (chL ws (m + 1 + 1) = chL ws (m + 1) ++ [⟨47 :: 102 :: dgL (m + 1), 3, if ws (m + 1) = true then 47 :: 46 :: 47 :: 102 :: dgL m else 102 :: dgL m⟩]) := Lib.hid (chL_succ ws (m + 1))
      have hml : (chL ws (m + 1)).length ≤ 10000000 := by rw [chL_len]; omega
      obtain ⟨D1, hD1⟩ : ∃ D, dgL m = D := ⟨_, rfl⟩
      obtain ⟨D2, hD2⟩ : ∃ D, dgL (m + 1) = D := ⟨_, rfl⟩
      rw [hD1] at HD1 HND hdl1
      rw [hD2] at HD2 HND hdl2
      clear hD1 hD2
      have q1 : ([102] : Bts).length + D1.length ≤ 9223372036854775807 := by simp; omega
      have q2 : ([47, 46, 47] : Bts).length + (([102] : Bts) ++ D1).length ≤ 9223372036854775807 := by simp; omega
      have q3 : ([47, 102] : Bts).length + D2.length ≤ 9223372036854775807 := by simp; omega
      have hcs : (m + 1 < zs.length ∧ zs.getD (m + 1) false = true ∧ ws (m + 1) = true) ∨ (m + 1 < zs.length ∧ zs.getD (m + 1) false = false ∧ ws (m + 1) = false) ∨ (¬ m + 1 < zs.length ∧ ws (m + 1) = false) := by
        rw [HWS.out]
        by_cases h : m + 1 < zs.length
        · cases h2 : zs.getD (m + 1) false
          · exact .inr (.inl ⟨h, rfl, by show (decide (m + 1 < zs.length) && zs.getD (m + 1) false) = false; rw [h2, Bool.and_false]⟩)
          · exact .inl ⟨h, rfl, by show (decide (m + 1 < zs.length) && zs.getD (m + 1) false) = true; rw [h2, decide_eq_true h]; rfl⟩
        · exact .inr (.inr ⟨h, by show (decide (m + 1 < zs.length) && zs.getD (m + 1) false) = false; rw [decide_eq_false h]; rfl⟩)
      rcases hcs with ⟨hz1, hz2, hz3⟩ | ⟨hz1, hz2, hz3⟩ | ⟨hz1, hz3⟩
      · obtain ⟨b, off, rfl, hcc⟩ := c3 (by omega)
        have hci := cellKeepB HB.out (hcc (m + 1) hz1)
        unfold boolAt at hci
        rw [hz2] at hci
        have hzI : ((m + 1 : Nat) : Int) < (zs.length : Int) := by omega
        have hzI2 : (m : Int) + 1 < (zs.length : Int) := by omega
        rw [if_pos hz3] at HND
        clear hcc c3 hz2
        go_wp2_with fail
        refine (HD1.out _).mono ?_
        rintro e w3 ⟨rfl, hb3⟩
        have HB3 := Lib.hid (HB.out.trans (hb3.mono HB.out.size))
        have HO3 := Lib.hid (HO.out.below hb3)
        have hci3 := cellKeep hb3 hci
        clear hb3
        go_wp2_with fail
        refine (HD2.out _).mono ?_
        rintro e w4 ⟨rfl, hb4⟩
        have HB4 := Lib.hid (HB3.out.trans (hb4.mono HB3.out.size))
        have HO4 := Lib.hid (HO3.out.below hb4)
        have hs4 := HB4.out.size
        clear hb4
        go_wp2_with (at_builtin; refine wpList_appN _ rfl _ _ rfl w.heap.size _ _ rfl HO4.out ⟨47 :: 102 :: D2, 3, 47 :: 46 :: 47 :: 102 :: D1⟩ _ rfl (by simp) hml hs4 ?_)
        intro v5 w5 hown5 hgr5
        have HO5 : Hid (OwnN w5 w.heap.size v5 (chL ws (m + 1 + 1))) := Lib.hid (by rw [HND.out]; exact hown5)
        have HB5 : Hid (Below w.heap.size w w5) := Lib.hid (HB4.out.grown hgr5 HB4.out.size (fun j hj => (HO4.out.row j hj).1))
        clear hown5 hgr5
        go_wp2_with fail
        exact ⟨⟨m + 1 + 1, v5, by omega, by omega, rfl, by go_num, HO5, HB5⟩, by simp [intOf]; omega⟩
      · obtain ⟨b, off, rfl, hcc⟩ := c3 (by omega)
        have hci := cellKeepB HB.out (hcc (m + 1) hz1)
        unfold boolAt at hci
        rw [hz2] at hci
        have hzI : ((m + 1 : Nat) : Int) < (zs.length : Int) := by omega
        have hzI2 : (m : Int) + 1 < (zs.length : Int) := by omega
        rw [if_neg (by rw [hz3]; decide)] at HND
        clear hcc c3 hz2
        go_wp2_with fail
        refine (HD1.out _).mono ?_
        rintro e w3 ⟨rfl, hb3⟩
        have HB3 := Lib.hid (HB.out.trans (hb3.mono HB.out.size))
        have HO3 := Lib.hid (HO.out.below hb3)
        have hci3 := cellKeep hb3 hci
        clear hb3
        go_wp2_with fail
        refine (HD2.out _).mono ?_
        rintro e w4 ⟨rfl, hb4⟩
        have HB4 := Lib.hid (HB3.out.trans (hb4.mono HB3.out.size))
        have HO4 := Lib.hid (HO3.out.below hb4)
        have hs4 := HB4.out.size
        clear hb4
        go_wp2_with (at_builtin; refine wpList_appN _ rfl _ _ rfl w.heap.size _ _ rfl HO4.out ⟨47 :: 102 :: D2, 3, 102 :: D1⟩ _ rfl (by simp) hml hs4 ?_)
        intro v5 w5 hown5 hgr5
        have HO5 : Hid (OwnN w5 w.heap.size v5 (chL ws (m + 1 + 1))) := Lib.hid (by rw [HND.out]; exact hown5)
        have HB5 : Hid (Below w.heap.size w w5) := Lib.hid (HB4.out.grown hgr5 HB4.out.size (fun j hj => (HO4.out.row j hj).1))
        clear hown5 hgr5
        go_wp2_with fail
        exact ⟨⟨m + 1 + 1, v5, by omega, by omega, rfl, by go_num, HO5, HB5⟩, by simp [intOf]; omega⟩
      · have hzI : ¬ ((m + 1 : Nat) : Int) < (zs.length : Int) := by omega
        have hzI2 : ¬ (m : Int) + 1 < (zs.length : Int) := by omega
        rw [if_neg (by rw [hz3]; decide)] at HND
        clear c3
        go_wp2_with fail
        refine (HD1.out _).mono ?_
        rintro e w3 ⟨rfl, hb3⟩
        have HB3 := Lib.hid (HB.out.trans (hb3.mono HB.out.size))
        have HO3 := Lib.hid (HO.out.below hb3)
        clear hb3
        go_wp2_with fail
        refine (HD2.out _).mono ?_
        rintro e w4 ⟨rfl, hb4⟩
        have HB4 := Lib.hid (HB3.out.trans (hb4.mono HB3.out.size))
        have HO4 := Lib.hid (HO3.out.below hb4)
        have hs4 := HB4.out.size
        clear hb4
        go_wp2_with (at_builtin; refine wpList_appN _ rfl _ _ rfl w.heap.size _ _ rfl HO4.out ⟨47 :: 102 :: D2, 3, 102 :: D1⟩ _ rfl (by simp) hml hs4 ?_)
        intro v5 w5 hown5 hgr5
        have HO5 : Hid (OwnN w5 w.heap.size v5 (chL ws (m + 1 + 1))) := Lib.hid (by rw [HND.out]; exact hown5)
        have HB5 : Hid (Below w.heap.size w w5) := Lib.hid (HB4.out.grown hgr5 HB4.out.size (fun j hj => (HO4.out.row j hj).1))
        clear hown5 hgr5
        go_wp2_with fail
        exact ⟨⟨m + 1 + 1, v5, by omega, by omega, rfl, by go_num, HO5, HB5⟩, by simp [intOf]; omega⟩
    · obtain rfl : i = K + 1 := by omega
      have hltI : ¬ ((K + 1 : Nat) : Int) ≤ (K : Int) := by omega
      have HD := Lib.hid (HDG.out K (by omega))
      have hsl := HO.out.slice
      have hnb : Hid (∀ x ∈ chL ws (K + 1), x.p.length ≤ 1000000 ∧ x.d.length ≤ 1000000) := Lib.hid (fun x hx => by
        obtain ⟨i, hi, rfl⟩ := mem_ch hx
        have h2 := (up_ch ⟨i, by omega⟩).2.2.2.1
        have h3 := (up_ch ⟨i - 1, by omega⟩).2.2.2.1
        simp only at h2 h3
        constructor
        · rw [nodeC_p, List.length_cons]; omega
        · unfold nodeC
          split
          · exact (by decide : (1 : Nat) ≤ 1000000)
          · show (if ws i = true then 47 :: 46 :: 47 :: fN (i - 1) else fN (i - 1)).length ≤ 1000000
            split
            · simp only [List.length_cons]; omega
            · omega)
      have hgd := good_ch ws (n := K + 1) (by omega)
      have hdl := (up_ch ⟨K, by omega⟩).2.2.2.1
      obtain ⟨na, nc, e5⟩ := hsl
      rw [e5] at HO ⊢
      rw [chL_len] at HO ⊢
      have HNW := Lib.hid (New_any _ (chL ws (K + 1)) wr HO.out.isNds (HM.out.below HB.out) hnb.out (by rw [chL_len]; omega))
      clear e5
      go_wp2_with fail
      refine HNW.out.mono ?_
      rintro e w2 ⟨hr2, hb2⟩
      have HB2 := Lib.hid (HB.out.trans (hb2.mono HB.out.size))
      obtain ⟨-, t, all, rfl, ht, hwh, hle⟩ := hr2.resolve_left (fun h => h.1 hgd)
      have hta := TreeOf.of hwh hgd
      have HT2 := Lib.hid ht
      have htw : w.heap.size ≤ t := Nat.le_trans HB.out.size hle
      have HRV := Lib.hid (real_chain (by omega) hwh (Nat.lt_succ_self K))
      clear ht hwh hle hb2 hr2 HNW hgd
      have hfl : fN K = 102 :: dgL K := rfl
      rw [hfl] at HRV hdl
      simp only [List.length_cons] at hdl
      obtain ⟨D, hD⟩ : ∃ D, dgL K = D := ⟨_, rfl⟩
      rw [hD] at HD HRV hdl
      have q3 : ([47, 102] : Bts).length + D.length ≤ 9223372036854775807 := by simp; omega
      clear hD hfl
      go_wp2_with fail
      refine (HD.out _).mono ?_
      rintro e w3 ⟨rfl, hb3⟩
      have HB3 := Lib.hid (HB2.out.trans (hb3.mono HB2.out.size))
      have HT3 := Lib.hid (HT2.out.below hb3)
      clear hb3
      go_wp2_with fail
      refine (Real_any t all 0 (47 :: 102 :: D) w3 HT3.out hta (by decide) (by decide) (by simp; omega)).mono ?_
      rintro e w4 ⟨rfl, ht4, hg4⟩
      have HB4 : Hid (Below w.heap.size w w4) := Lib.hid (HB3.out.grown hg4 HB3.out.size (fun j hj => by injection hj with hj; omega))
      clear ht4 hg4
      by_cases hk40 : K ≤ 40
      · have hkI : ¬ (40 : Int) < (K : Int) := by omega
        rw [HRV.out, if_pos hk40]
        go_wp2_with fail
        refine (awake16_any _ (HM.out.below HB4.out)).mono ?_
        rintro e w7 ⟨rfl, hb7⟩
        go_wp2
        go_ret
        exact ⟨by first | rfl | (simp; done), HB4.out.trans (hb7.mono HB4.out.size)⟩
      · have hkI : (40 : Int) < (K : Int) := by omega
        rw [HRV.out, if_neg hk40]
        go_wp2_with fail
        refine (awake16_any _ (HM.out.below HB4.out)).mono ?_
        rintro e w7 ⟨rfl, hb7⟩
        go_wp2
        go_ret
        exact ⟨by first | rfl | (simp; done), HB4.out.trans (hb7.mono HB4.out.size)⟩
end Go.Proofs.YtedfgikikjggaaaDoor
