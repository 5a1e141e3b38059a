/- The walk of TreeTurned. -/
import Derived.Test.YtcdkojdjcifkpaaDoorLaw15d0
import Derived.Deep.RegionHeld3
import Derived.Test.YtcdkojdjcifkpaaDoorTakeH
set_option linter.unusedVariables false
set_option linter.unusedSimpArgs false
namespace Go.Proofs.YtcdkojdjcifkpaaDoor
open Go.RowKit

set_option maxRecDepth 100000 in
set_option maxHeartbeats 32000000 in
theorem turned_walk (v : Value) (ns : List Nd) (wh how : Int) (s : List UInt8) (w : World) (hv : IsNds w v ns) (h0 : -9223372036854775808 ≤ wh) (h1 : wh ≤ 9223372036854775807) (g0 : -9223372036854775808 ≤ how) (g1 : how ≤ 9223372036854775807) (hsl : s.length ≤ 9223372036854775807) (hM : MaxAt w) :
    Calls Tryd.prog 4 #[v, .int .i64 wh, .int .i64 how, .string ⟨s.toArray⟩] w fun e w' => e = .returned (.bool true) ∧ Below w.heap.size w w' := by
  have HM := Lib.hid hM
  have HV := Lib.hid hv
  have HBG := Lib.hid (fun w' (h : IsNds w' v ns) => Big_any v ns 3000 w' h (by decide) (by decide))
  obtain ⟨a, cap, rfl, -⟩ := hv
  cases hbg : bigN 3000 ns with
  | true =>
    rw [hbg] at HBG
    go_enter Tryd.func4, Tryd.ntmps4
    go_wp2_with fail
    refine (HBG.out _ HV.out).mono ?_
    rintro e w1 ⟨rfl, n1, rfl⟩
    go_wp2_with fail
    refine (awake15_any _ (HM.out.drew n1)).mono ?_
    rintro e w2 ⟨rfl, hb⟩
    go_wp2
    go_ret
    exact ⟨rfl, ext_trans (ext_drew w n1) hb⟩
  | false =>
    obtain ⟨h40, hnb⟩ := bigN_f hbg
    rw [hbg] at HBG
    have HNB : Hid (∀ n ∈ ns, n.p.length ≤ 3000 ∧ n.d.length ≤ 3000) := Lib.hid hnb
    clear hnb hbg
    by_cases hn0 : ns.length = 0
    · obtain rfl : ns = [] := List.eq_nil_of_length_eq_zero hn0
      clear hn0 h40 HNB
      simp only [List.length_nil] at *
      go_enter Tryd.func4, Tryd.ntmps4
      go_wp2_with fail
      refine (HBG.out _ HV.out).mono ?_
      rintro e w1 ⟨rfl, n1, rfl⟩
      go_wp2_with fail
      refine (awake15_any _ (HM.out.drew n1)).mono ?_
      rintro e w2 ⟨rfl, hb⟩
      go_wp2
      go_ret
      exact ⟨rfl, ext_trans (ext_drew w n1) hb⟩
    · have hnI2 : ns.length ≠ 0 := hn0
      clear hn0
      by_cases hs6 : 60 < s.length
      · have hsI : (60 : Int) < (s.length : Int) := by omega
        go_enter Tryd.func4, Tryd.ntmps4
        go_wp2_with fail
        refine (HBG.out _ HV.out).mono ?_
        rintro e w1 ⟨rfl, n1, rfl⟩
        go_wp2_with fail
        refine (awake15_any _ (HM.out.drew n1)).mono ?_
        rintro e w2 ⟨rfl, hb⟩
        go_wp2
        go_ret
        exact ⟨rfl, ext_trans (ext_drew w n1) hb⟩
      · have hsI : (s.length : Int) ≤ 60 := by omega
        have hs60 : s.length ≤ 60 := by omega
        have hnB : ((ns.length : Int) == 0) = false := by rw [beq_eq_false_iff_ne]; omega
        have hsB : decide (60 < (s.length : Int)) = false := decide_eq_false (by omega)
        have hnI : ¬ (ns.length : Int) = 0 := by omega
        have hsN : ¬ 60 < s.length := by omega
        have hp : (0 : Int) < ns.length := by omega
        obtain ⟨q1, q2⟩ := lowN_bd wh ns.length hp
        obtain ⟨k, hk⟩ := Int.eq_ofNat_of_zero_le q1
        have HLW := Lib.hid (fun w => low_any wh ns.length w h0 h1 (by omega) (by omega))
        rw [hk] at HLW q2
        have hkl : k < ns.length := by omega
        have hkI : (k : Int) < (ns.length : Int) := by omega
        obtain ⟨r1, r2⟩ := lowN_bd how 5 (by decide)
        have HLH := Lib.hid (fun w => low_any how 5 w g0 g1 (by decide) (by decide))
        generalize lowN how 5 = hw at *
        obtain ⟨u1, u2⟩ := lowN_bd wh 6 (by decide)
        have HL6 := Lib.hid (fun w => low_any wh 6 w h0 h1 (by decide) (by decide))
        generalize lowN wh 6 = h6 at *
        clear q1 hk
        go_enter Tryd.func4, Tryd.ntmps4
        go_wp2_with fail
        refine (HBG.out _ HV.out).mono ?_
        rintro e w1 ⟨rfl, n1, rfl⟩
        go_wp2_with (at_builtin; refine wpList_appNS _ rfl _ _ rfl w.heap.size _ [] rfl (OwnN.nil _ _) _ ns rfl (HV.out.drew n1) ?c2 ?c4 ?_)
        case c2 => simp; omega
        case c4 => exact Nat.le_refl _
        intro v2 w2 hown2 hgr2
        try rw [List.nil_append] at hown2
        obtain ⟨g, vc, rfl, hgB⟩ := hown2.head (by omega)
        have HB2 : Hid (Below w.heap.size w w2) := Lib.hid ((ext_drew w n1).grown hgr2 (Nat.le_refl _) (fun k hk => by simp [Value.ownBlock] at hk))
        have HO2 := Lib.hid hown2
        obtain ⟨c0, c1, c2⟩ := hown2.at hkl
        have hth := hown2.there hkl
        obtain ⟨f0, f1, f2⟩ : w2.frozen? ⟨g, k * 3, none⟩ = false ∧ w2.frozen? ⟨g, k * 3 + 1, none⟩ = false ∧ w2.frozen? ⟨g, k * 3 + 2, none⟩ = false := ⟨(hth 0 (by decide)).2, (hth 1 (by decide)).2, (hth 2 (by decide)).2⟩
        clear hown2 hgr2 hth
        go_wp2_with fail
        refine (HLW.out _).mono ?_
        rintro e w3 ⟨rfl, rfl⟩
        go_wp2_with fail
        refine (HLH.out _).mono ?_
        rintro e w3 ⟨rfl, rfl⟩
        have hh : hw = 0 ∨ hw = 1 ∨ hw = 2 ∨ hw = 3 ∨ hw = 4 := by omega
        have HF0 := Lib.hid (flat_p hkl)
        have HF1 := Lib.hid (flat_k hkl)
        have HF2 := Lib.hid (flat_d hkl)
        obtain ⟨hpl, hdl⟩ := HNB.out _ (ndAt_mem hkl)
        generalize ndAt ns k = nd at *
        obtain ⟨p, kd, d⟩ := nd
        rcases hh with rfl | rfl | rfl | rfl | rfl
        · go_wp2_with fail
          have HO3 : Hid (OwnN (w2.setCell ⟨g, k * 3, none⟩ (.string ⟨s.toArray⟩)) w.heap.size (.slice (some ⟨g, 0, none⟩) ns.length vc) (ns.set k ⟨s, kd, d⟩)) := Lib.hid (HO2.out.cellset _ _ (by simp) (HF0.out s))
          have HB3 : Hid (Below w.heap.size w (w2.setCell ⟨g, k * 3, none⟩ (.string ⟨s.toArray⟩))) := Lib.hid (HB2.out.setCell hgB _)
          have HNM : Hid (∀ n ∈ ns.set k ⟨s, kd, d⟩, n.p.length ≤ 1000000 ∧ n.d.length ≤ 1000000) := Lib.hid (fun n hn => by
            rcases List.mem_or_eq_of_mem_set hn with h | h
            · have := HNB.out n h; omega
            · rw [h]; exact ⟨by show s.length ≤ _; omega, by show d.length ≤ _; exact Nat.le_trans hdl (by decide)⟩)
          have hml : (ns.set k ⟨s, kd, d⟩).length ≤ 4096 := by rw [List.length_set]; omega
          generalize ns.set k ⟨s, kd, d⟩ = ms at *
          clear c0 c1 c2 f0 f1 f2
          refine (New_any _ ms _ HO3.out.isNds (HM.out.below HB3.out) HNM.out hml).mono ?_
          rintro e w4 ⟨hr4, hb4⟩
          have HB4 : Hid (Below w.heap.size w w4) := Lib.hid (HB3.out.trans (hb4.mono HB3.out.size))
          have HO4 := Lib.hid (HO3.out.below hb4)
          by_cases hg : Good ms
          · obtain ⟨-, t, all, rfl, ht, hwh, hle⟩ := hr4.resolve_left (fun h => h.1 hg)
            have HT := Lib.hid ht
            have HWH := Lib.hid hwh
            clear ht hwh hle hb4 hr4
            go_wp2_with fail
            refine (rNew_any _ ms _ HO4.out.isNds HNM.out hml).mono ?_
            rintro e w5 ⟨hr5, hb5⟩
            obtain ⟨-, t2, all2, rfl, ⟨v5, hx5, ho5⟩, hwh2, hle2⟩ := hr5.resolve_left (fun h => h.1 hg)
            obtain rfl := hwh2.eq HWH.out
            have HT5 := Lib.hid (HT.out.below hb5)
            have HX5 := Lib.hid hx5
            have HO5 := Lib.hid ho5
            have HB5 : Hid (Below w.heap.size w w5) := Lib.hid (HB4.out.trans (hb5.mono HB4.out.size))
            have hal : all2.length ≤ 1000000 := by have := whole_len HWH.out; omega
            have k0 : ∀ m, (w5.drewN m).cell? ⟨t2, 0, none⟩ = some v5 := fun m => by rw [(hx5.drew m).cell]; rfl
            clear hx5 ho5 hwh2 hle2 hb5 hr5
            go_wp2_with fail
            clear hsI hs60 hnB hsB hnI hsN hnI2 h40 q2 hkl hkI u1 u2 r1 r2 hpl hdl hp g0 g1 h0 h1 hsl hg hml
            have HNX := Lib.hid (fun (W : World) (h : Below w5.heap.size w5 W) => All_any t all2 0 W (HT5.out.below h) hal)
            obtain ⟨a5, c5, rfl, -⟩ := HO5.out.isNds
            have k1 : w5.cell? ⟨t2, 0, none⟩ = some (.slice a5 all2.length c5) := k0 0
            clear k0
            go_region_held3 (fun w' => w'.cell? ⟨t2, 0, none⟩ = some (.slice a5 all2.length c5)) (first | assumption | (simp [go_sem]; assumption))
              (first
              | (go_at_call 13; refine (HNX.out _ (below_dr (Below.refl _ _) 1)).mono ?_; rintro e w6 ⟨v6, rfl, hn6, hb6⟩; obtain ⟨a6, c6, rfl, h6⟩ := hn6; have HN6 : Hid (IsNds w6 (.slice a6 all2.length c6) all2) := Lib.hid ⟨a6, c6, rfl, h6⟩; have HB6 := Lib.hid (ext_trans (ext_drew w5 1) hb6); have HX6 := Lib.hid (HX5.out.below HB6.out HX5.out.lt); have k6 : w6.cell? ⟨t2, 0, none⟩ = some (.slice a5 all2.length c5) := (by rw [HX6.out.cell]; rfl); clear hb6 h6)
              | (go_at_call 12; refine (Nodes_any _ _ all2 all2 _ HN6.out (HO5.out.below HB6.out).isNds hal hal).mono ?_; rintro e w7 ⟨⟨b, rfl, hb⟩, n7, rfl⟩; obtain rfl : b = true := hb.2 rfl; clear hb)
              | (go_at_call 9; refine (awake15_any _ ((HM.out.below (ext_trans HB5.out HB6.out)).drew _)).mono ?_; rintro e w8 ⟨rfl, hb8⟩; have HB8 := Lib.hid hb8; have k8 : w8.cell? ⟨t2, 0, none⟩ = some (.slice a5 all2.length c5) := (by rw [(Box.below (HX6.out.drew _) hb8 HX6.out.lt).cell]; rfl); clear hb8))
            go_wp2_with fail
            go_ret
            exact ⟨rfl, ext_trans (below_dr (ext_trans HB5.out HB6.out) _) HB8.out⟩
          · obtain ⟨-, rfl⟩ := hr4.resolve_right (fun h => hg h.1)
            clear hb4 hr4
            go_wp2_with fail
            refine (rNew_any _ ms _ HO4.out.isNds HNM.out hml).mono ?_
            rintro e w5 ⟨hr5, hb5⟩
            obtain ⟨-, rfl⟩ := hr5.resolve_right (fun h => hg h.1)
            have HB5 : Hid (Below w.heap.size w w5) := Lib.hid (HB4.out.trans (hb5.mono HB4.out.size))
            clear hb5 hr5
            go_wp2_with fail
            clear hsI hs60 hnB hsB hnI hsN hnI2 h40 q2 hkl hkI u1 u2 r1 r2 hpl hdl hp g0 g1 h0 h1 hsl hg hml
            refine wp_region_held_drew (S := fun _ => True) (by kernel_rfl) trivial (fun _ => ?_)
            refine takeH_on 0 (some 100) (.pointer none) rfl rfl (by kernel_rfl) (by kernel_rfl) (by kernel_rfl) (fun _ _ _ h => h) (by rfl) (fun w _ => by go_simp) trivial ?_
            simp only [Act.put, List.setIfInBounds_toArray, List.set_cons_zero, List.set_cons_succ]
            refine takeH_on 1 (some 101) (.bool true) rfl rfl (by kernel_rfl) (by kernel_rfl) (by kernel_rfl) (fun _ _ _ h => h) (by rfl) (fun w _ => by go_simp) trivial ?_
            simp only [Act.put, List.setIfInBounds_toArray, List.set_cons_zero, List.set_cons_succ]
            refine takeH_on 2 (some 102) (.bool true) rfl rfl (by kernel_rfl) (by kernel_rfl) (by kernel_rfl) (fun _ _ _ h => h) (by rfl) (fun w _ => by go_simp) trivial ?_
            simp only [Act.put, List.setIfInBounds_toArray, List.set_cons_zero, List.set_cons_succ]
            refine takeH_off 3 (some 103) rfl rfl (by kernel_rfl) (by kernel_rfl) (by kernel_rfl) (fun _ _ _ h => h) (by rfl) trivial ?_
            simp only [Act.put, List.setIfInBounds_toArray, List.set_cons_zero, List.set_cons_succ]
            refine takeH_off 4 (some 104) rfl rfl (by kernel_rfl) (by kernel_rfl) (by kernel_rfl) (fun _ _ _ h => h) (by rfl) trivial ?_
            simp only [Act.put, List.setIfInBounds_toArray, List.set_cons_zero, List.set_cons_succ]
            refine takeH_off 5 (some 105) rfl rfl (by kernel_rfl) (by kernel_rfl) (by kernel_rfl) (fun _ _ _ h => h) (by rfl) trivial ?_
            simp only [Act.put, List.setIfInBounds_toArray, List.set_cons_zero, List.set_cons_succ]
            refine takeH_off 6 (some 106) rfl rfl (by kernel_rfl) (by kernel_rfl) (by kernel_rfl) (fun _ _ _ h => h) (by rfl) trivial ?_
            simp only [Act.put, List.setIfInBounds_toArray, List.set_cons_zero, List.set_cons_succ]
            refine takeH_off 7 (some 107) rfl rfl (by kernel_rfl) (by kernel_rfl) (by kernel_rfl) (fun _ _ _ h => h) (by rfl) trivial ?_
            simp only [Act.put, List.setIfInBounds_toArray, List.set_cons_zero, List.set_cons_succ]
            refine takeH_off 8 (some 108) rfl rfl (by kernel_rfl) (by kernel_rfl) (by kernel_rfl) (fun _ _ _ h => h) (by rfl) trivial ?_
            simp only [Act.put, List.setIfInBounds_toArray, List.set_cons_zero, List.set_cons_succ]
            refine takeH_off 9 (some 109) rfl rfl (by kernel_rfl) (by kernel_rfl) (by kernel_rfl) (fun _ _ _ h => h) (by rfl) trivial ?_
            simp only [Act.put, List.setIfInBounds_toArray, List.set_cons_zero, List.set_cons_succ]
            refine takeH_on 10 (some 110) (.bool true) rfl rfl (by kernel_rfl) (by kernel_rfl) (by kernel_rfl) (fun _ _ _ h => h) (by rfl) (fun w _ => by go_simp) trivial ?_
            simp only [Act.put, List.setIfInBounds_toArray, List.set_cons_zero, List.set_cons_succ]
            refine takeH_on 11 (some 111) (.bool true) rfl rfl (by kernel_rfl) (by kernel_rfl) (by kernel_rfl) (fun _ _ _ h => h) (by rfl) (fun w _ => by go_simp) trivial ?_
            simp only [Act.put, List.setIfInBounds_toArray, List.set_cons_zero, List.set_cons_succ]
            refine wpAnyH_ready (rs := [12]) (by kernel_rfl) (by simp) ?_
            refine AllReadyH.cons rfl (fun K hK => ?_) AllReadyH.nil
            go_simp
            refine (awake15_any _ (MaxAt.drew (HM.out.below HB5.out) 1)).mono ?_
            rintro e w8 ⟨rfl, hb8⟩
            have HB8 := Lib.hid hb8
            clear hb8
            go_wp2_with fail
            refine hK.out _ _ trivial (fun _ => ?_)
            clear hK K
            refine takeH_on 13 (some 113) (.bool true) rfl rfl (by kernel_rfl) (by kernel_rfl) (by kernel_rfl) (fun _ _ _ h => h) (by rfl) (fun w _ => by go_simp) trivial ?_
            simp only [Act.put, List.setIfInBounds_toArray, List.set_cons_zero, List.set_cons_succ]
            refine takeH_on 14 (some 8) (.bool true) rfl rfl (by kernel_rfl) (by kernel_rfl) (by kernel_rfl) (fun _ _ _ h => h) (by rfl) (fun w _ => by go_simp) trivial ?_
            simp only [Act.put, List.setIfInBounds_toArray, List.set_cons_zero, List.set_cons_succ]
            refine wpAnyH_done (by kernel_rfl) ?_ _
            go_wp2_with fail
            go_ret
            exact ⟨rfl, ext_trans (below_dr HB5.out 1) HB8.out⟩
        · have hwr : IntKind.i64.wrap (h6 - 1) = h6 - 1 := IntWalk.i64_in _ (by omega)
          go_wp2_with fail
          refine (HL6.out _).mono ?_
          rintro e w3 ⟨rfl, rfl⟩
          go_wp2_with fail
          have HO3 : Hid (OwnN (w2.setCell ⟨g, k * 3 + 1, none⟩ (.int .i64 (h6 - 1))) w.heap.size (.slice (some ⟨g, 0, none⟩) ns.length vc) (ns.set k ⟨p, h6 - 1, d⟩)) := Lib.hid (HO2.out.cellset _ _ (by simp) (HF1.out _))
          have HB3 : Hid (Below w.heap.size w (w2.setCell ⟨g, k * 3 + 1, none⟩ (.int .i64 (h6 - 1)))) := Lib.hid (HB2.out.setCell hgB _)
          have HNM : Hid (∀ n ∈ ns.set k ⟨p, h6 - 1, d⟩, n.p.length ≤ 1000000 ∧ n.d.length ≤ 1000000) := Lib.hid (fun n hn => by
            rcases List.mem_or_eq_of_mem_set hn with h | h
            · have := HNB.out n h; omega
            · rw [h]; exact ⟨by show p.length ≤ _; exact Nat.le_trans hpl (by decide), by show d.length ≤ _; exact Nat.le_trans hdl (by decide)⟩)
          have hml : (ns.set k ⟨p, h6 - 1, d⟩).length ≤ 4096 := by rw [List.length_set]; omega
          generalize ns.set k ⟨p, h6 - 1, d⟩ = ms at *
          clear c0 c1 c2 f0 f1 f2
          refine (New_any _ ms _ HO3.out.isNds (HM.out.below HB3.out) HNM.out hml).mono ?_
          rintro e w4 ⟨hr4, hb4⟩
          have HB4 : Hid (Below w.heap.size w w4) := Lib.hid (HB3.out.trans (hb4.mono HB3.out.size))
          have HO4 := Lib.hid (HO3.out.below hb4)
          by_cases hg : Good ms
          · obtain ⟨-, t, all, rfl, ht, hwh, hle⟩ := hr4.resolve_left (fun h => h.1 hg)
            have HT := Lib.hid ht
            have HWH := Lib.hid hwh
            clear ht hwh hle hb4 hr4
            go_wp2_with fail
            refine (rNew_any _ ms _ HO4.out.isNds HNM.out hml).mono ?_
            rintro e w5 ⟨hr5, hb5⟩
            obtain ⟨-, t2, all2, rfl, ⟨v5, hx5, ho5⟩, hwh2, hle2⟩ := hr5.resolve_left (fun h => h.1 hg)
            obtain rfl := hwh2.eq HWH.out
            have HT5 := Lib.hid (HT.out.below hb5)
            have HX5 := Lib.hid hx5
            have HO5 := Lib.hid ho5
            have HB5 : Hid (Below w.heap.size w w5) := Lib.hid (HB4.out.trans (hb5.mono HB4.out.size))
            have hal : all2.length ≤ 1000000 := by have := whole_len HWH.out; omega
            have k0 : ∀ m, (w5.drewN m).cell? ⟨t2, 0, none⟩ = some v5 := fun m => by rw [(hx5.drew m).cell]; rfl
            clear hx5 ho5 hwh2 hle2 hb5 hr5
            go_wp2_with fail
            clear hsI hs60 hnB hsB hnI hsN hnI2 h40 q2 hkl hkI u1 u2 r1 r2 hpl hdl hp g0 g1 h0 h1 hsl hg hml
            have HNX := Lib.hid (fun (W : World) (h : Below w5.heap.size w5 W) => All_any t all2 0 W (HT5.out.below h) hal)
            obtain ⟨a5, c5, rfl, -⟩ := HO5.out.isNds
            have k1 : w5.cell? ⟨t2, 0, none⟩ = some (.slice a5 all2.length c5) := k0 0
            clear k0
            go_region_held3 (fun w' => w'.cell? ⟨t2, 0, none⟩ = some (.slice a5 all2.length c5)) (first | assumption | (simp [go_sem]; assumption))
              (first
              | (go_at_call 13; refine (HNX.out _ (below_dr (Below.refl _ _) 1)).mono ?_; rintro e w6 ⟨v6, rfl, hn6, hb6⟩; obtain ⟨a6, c6, rfl, h6⟩ := hn6; have HN6 : Hid (IsNds w6 (.slice a6 all2.length c6) all2) := Lib.hid ⟨a6, c6, rfl, h6⟩; have HB6 := Lib.hid (ext_trans (ext_drew w5 1) hb6); have HX6 := Lib.hid (HX5.out.below HB6.out HX5.out.lt); have k6 : w6.cell? ⟨t2, 0, none⟩ = some (.slice a5 all2.length c5) := (by rw [HX6.out.cell]; rfl); clear hb6 h6)
              | (go_at_call 12; refine (Nodes_any _ _ all2 all2 _ HN6.out (HO5.out.below HB6.out).isNds hal hal).mono ?_; rintro e w7 ⟨⟨b, rfl, hb⟩, n7, rfl⟩; obtain rfl : b = true := hb.2 rfl; clear hb)
              | (go_at_call 9; refine (awake15_any _ ((HM.out.below (ext_trans HB5.out HB6.out)).drew _)).mono ?_; rintro e w8 ⟨rfl, hb8⟩; have HB8 := Lib.hid hb8; have k8 : w8.cell? ⟨t2, 0, none⟩ = some (.slice a5 all2.length c5) := (by rw [(Box.below (HX6.out.drew _) hb8 HX6.out.lt).cell]; rfl); clear hb8))
            go_wp2_with fail
            go_ret
            exact ⟨rfl, ext_trans (below_dr (ext_trans HB5.out HB6.out) _) HB8.out⟩
          · obtain ⟨-, rfl⟩ := hr4.resolve_right (fun h => hg h.1)
            clear hb4 hr4
            go_wp2_with fail
            refine (rNew_any _ ms _ HO4.out.isNds HNM.out hml).mono ?_
            rintro e w5 ⟨hr5, hb5⟩
            obtain ⟨-, rfl⟩ := hr5.resolve_right (fun h => hg h.1)
            have HB5 : Hid (Below w.heap.size w w5) := Lib.hid (HB4.out.trans (hb5.mono HB4.out.size))
            clear hb5 hr5
            go_wp2_with fail
            clear hsI hs60 hnB hsB hnI hsN hnI2 h40 q2 hkl hkI u1 u2 r1 r2 hpl hdl hp g0 g1 h0 h1 hsl hg hml
            refine wp_region_held_drew (S := fun _ => True) (by kernel_rfl) trivial (fun _ => ?_)
            refine takeH_on 0 (some 100) (.pointer none) rfl rfl (by kernel_rfl) (by kernel_rfl) (by kernel_rfl) (fun _ _ _ h => h) (by rfl) (fun w _ => by go_simp) trivial ?_
            simp only [Act.put, List.setIfInBounds_toArray, List.set_cons_zero, List.set_cons_succ]
            refine takeH_on 1 (some 101) (.bool true) rfl rfl (by kernel_rfl) (by kernel_rfl) (by kernel_rfl) (fun _ _ _ h => h) (by rfl) (fun w _ => by go_simp) trivial ?_
            simp only [Act.put, List.setIfInBounds_toArray, List.set_cons_zero, List.set_cons_succ]
            refine takeH_on 2 (some 102) (.bool true) rfl rfl (by kernel_rfl) (by kernel_rfl) (by kernel_rfl) (fun _ _ _ h => h) (by rfl) (fun w _ => by go_simp) trivial ?_
            simp only [Act.put, List.setIfInBounds_toArray, List.set_cons_zero, List.set_cons_succ]
            refine takeH_off 3 (some 103) rfl rfl (by kernel_rfl) (by kernel_rfl) (by kernel_rfl) (fun _ _ _ h => h) (by rfl) trivial ?_
            simp only [Act.put, List.setIfInBounds_toArray, List.set_cons_zero, List.set_cons_succ]
            refine takeH_off 4 (some 104) rfl rfl (by kernel_rfl) (by kernel_rfl) (by kernel_rfl) (fun _ _ _ h => h) (by rfl) trivial ?_
            simp only [Act.put, List.setIfInBounds_toArray, List.set_cons_zero, List.set_cons_succ]
            refine takeH_off 5 (some 105) rfl rfl (by kernel_rfl) (by kernel_rfl) (by kernel_rfl) (fun _ _ _ h => h) (by rfl) trivial ?_
            simp only [Act.put, List.setIfInBounds_toArray, List.set_cons_zero, List.set_cons_succ]
            refine takeH_off 6 (some 106) rfl rfl (by kernel_rfl) (by kernel_rfl) (by kernel_rfl) (fun _ _ _ h => h) (by rfl) trivial ?_
            simp only [Act.put, List.setIfInBounds_toArray, List.set_cons_zero, List.set_cons_succ]
            refine takeH_off 7 (some 107) rfl rfl (by kernel_rfl) (by kernel_rfl) (by kernel_rfl) (fun _ _ _ h => h) (by rfl) trivial ?_
            simp only [Act.put, List.setIfInBounds_toArray, List.set_cons_zero, List.set_cons_succ]
            refine takeH_off 8 (some 108) rfl rfl (by kernel_rfl) (by kernel_rfl) (by kernel_rfl) (fun _ _ _ h => h) (by rfl) trivial ?_
            simp only [Act.put, List.setIfInBounds_toArray, List.set_cons_zero, List.set_cons_succ]
            refine takeH_off 9 (some 109) rfl rfl (by kernel_rfl) (by kernel_rfl) (by kernel_rfl) (fun _ _ _ h => h) (by rfl) trivial ?_
            simp only [Act.put, List.setIfInBounds_toArray, List.set_cons_zero, List.set_cons_succ]
            refine takeH_on 10 (some 110) (.bool true) rfl rfl (by kernel_rfl) (by kernel_rfl) (by kernel_rfl) (fun _ _ _ h => h) (by rfl) (fun w _ => by go_simp) trivial ?_
            simp only [Act.put, List.setIfInBounds_toArray, List.set_cons_zero, List.set_cons_succ]
            refine takeH_on 11 (some 111) (.bool true) rfl rfl (by kernel_rfl) (by kernel_rfl) (by kernel_rfl) (fun _ _ _ h => h) (by rfl) (fun w _ => by go_simp) trivial ?_
            simp only [Act.put, List.setIfInBounds_toArray, List.set_cons_zero, List.set_cons_succ]
            refine wpAnyH_ready (rs := [12]) (by kernel_rfl) (by simp) ?_
            refine AllReadyH.cons rfl (fun K hK => ?_) AllReadyH.nil
            go_simp
            refine (awake15_any _ (MaxAt.drew (HM.out.below HB5.out) 1)).mono ?_
            rintro e w8 ⟨rfl, hb8⟩
            have HB8 := Lib.hid hb8
            clear hb8
            go_wp2_with fail
            refine hK.out _ _ trivial (fun _ => ?_)
            clear hK K
            refine takeH_on 13 (some 113) (.bool true) rfl rfl (by kernel_rfl) (by kernel_rfl) (by kernel_rfl) (fun _ _ _ h => h) (by rfl) (fun w _ => by go_simp) trivial ?_
            simp only [Act.put, List.setIfInBounds_toArray, List.set_cons_zero, List.set_cons_succ]
            refine takeH_on 14 (some 8) (.bool true) rfl rfl (by kernel_rfl) (by kernel_rfl) (by kernel_rfl) (fun _ _ _ h => h) (by rfl) (fun w _ => by go_simp) trivial ?_
            simp only [Act.put, List.setIfInBounds_toArray, List.set_cons_zero, List.set_cons_succ]
            refine wpAnyH_done (by kernel_rfl) ?_ _
            go_wp2_with fail
            go_ret
            exact ⟨rfl, ext_trans (below_dr HB5.out 1) HB8.out⟩
        · go_wp2_with fail
          have HO3 : Hid (OwnN (w2.setCell ⟨g, k * 3 + 2, none⟩ (.string ⟨s.toArray⟩)) w.heap.size (.slice (some ⟨g, 0, none⟩) ns.length vc) (ns.set k ⟨p, kd, s⟩)) := Lib.hid (HO2.out.cellset _ _ (by simp) (HF2.out s))
          have HB3 : Hid (Below w.heap.size w (w2.setCell ⟨g, k * 3 + 2, none⟩ (.string ⟨s.toArray⟩))) := Lib.hid (HB2.out.setCell hgB _)
          have HNM : Hid (∀ n ∈ ns.set k ⟨p, kd, s⟩, n.p.length ≤ 1000000 ∧ n.d.length ≤ 1000000) := Lib.hid (fun n hn => by
            rcases List.mem_or_eq_of_mem_set hn with h | h
            · have := HNB.out n h; omega
            · rw [h]; exact ⟨by show p.length ≤ _; exact Nat.le_trans hpl (by decide), by show s.length ≤ _; omega⟩)
          have hml : (ns.set k ⟨p, kd, s⟩).length ≤ 4096 := by rw [List.length_set]; omega
          generalize ns.set k ⟨p, kd, s⟩ = ms at *
          clear c0 c1 c2 f0 f1 f2
          refine (New_any _ ms _ HO3.out.isNds (HM.out.below HB3.out) HNM.out hml).mono ?_
          rintro e w4 ⟨hr4, hb4⟩
          have HB4 : Hid (Below w.heap.size w w4) := Lib.hid (HB3.out.trans (hb4.mono HB3.out.size))
          have HO4 := Lib.hid (HO3.out.below hb4)
          by_cases hg : Good ms
          · obtain ⟨-, t, all, rfl, ht, hwh, hle⟩ := hr4.resolve_left (fun h => h.1 hg)
            have HT := Lib.hid ht
            have HWH := Lib.hid hwh
            clear ht hwh hle hb4 hr4
            go_wp2_with fail
            refine (rNew_any _ ms _ HO4.out.isNds HNM.out hml).mono ?_
            rintro e w5 ⟨hr5, hb5⟩
            obtain ⟨-, t2, all2, rfl, ⟨v5, hx5, ho5⟩, hwh2, hle2⟩ := hr5.resolve_left (fun h => h.1 hg)
            obtain rfl := hwh2.eq HWH.out
            have HT5 := Lib.hid (HT.out.below hb5)
            have HX5 := Lib.hid hx5
            have HO5 := Lib.hid ho5
            have HB5 : Hid (Below w.heap.size w w5) := Lib.hid (HB4.out.trans (hb5.mono HB4.out.size))
            have hal : all2.length ≤ 1000000 := by have := whole_len HWH.out; omega
            have k0 : ∀ m, (w5.drewN m).cell? ⟨t2, 0, none⟩ = some v5 := fun m => by rw [(hx5.drew m).cell]; rfl
            clear hx5 ho5 hwh2 hle2 hb5 hr5
            go_wp2_with fail
            clear hsI hs60 hnB hsB hnI hsN hnI2 h40 q2 hkl hkI u1 u2 r1 r2 hpl hdl hp g0 g1 h0 h1 hsl hg hml
            have HNX := Lib.hid (fun (W : World) (h : Below w5.heap.size w5 W) => All_any t all2 0 W (HT5.out.below h) hal)
            obtain ⟨a5, c5, rfl, -⟩ := HO5.out.isNds
            have k1 : w5.cell? ⟨t2, 0, none⟩ = some (.slice a5 all2.length c5) := k0 0
            clear k0
            go_region_held3 (fun w' => w'.cell? ⟨t2, 0, none⟩ = some (.slice a5 all2.length c5)) (first | assumption | (simp [go_sem]; assumption))
              (first
              | (go_at_call 13; refine (HNX.out _ (below_dr (Below.refl _ _) 1)).mono ?_; rintro e w6 ⟨v6, rfl, hn6, hb6⟩; obtain ⟨a6, c6, rfl, h6⟩ := hn6; have HN6 : Hid (IsNds w6 (.slice a6 all2.length c6) all2) := Lib.hid ⟨a6, c6, rfl, h6⟩; have HB6 := Lib.hid (ext_trans (ext_drew w5 1) hb6); have HX6 := Lib.hid (HX5.out.below HB6.out HX5.out.lt); have k6 : w6.cell? ⟨t2, 0, none⟩ = some (.slice a5 all2.length c5) := (by rw [HX6.out.cell]; rfl); clear hb6 h6)
              | (go_at_call 12; refine (Nodes_any _ _ all2 all2 _ HN6.out (HO5.out.below HB6.out).isNds hal hal).mono ?_; rintro e w7 ⟨⟨b, rfl, hb⟩, n7, rfl⟩; obtain rfl : b = true := hb.2 rfl; clear hb)
              | (go_at_call 9; refine (awake15_any _ ((HM.out.below (ext_trans HB5.out HB6.out)).drew _)).mono ?_; rintro e w8 ⟨rfl, hb8⟩; have HB8 := Lib.hid hb8; have k8 : w8.cell? ⟨t2, 0, none⟩ = some (.slice a5 all2.length c5) := (by rw [(Box.below (HX6.out.drew _) hb8 HX6.out.lt).cell]; rfl); clear hb8))
            go_wp2_with fail
            go_ret
            exact ⟨rfl, ext_trans (below_dr (ext_trans HB5.out HB6.out) _) HB8.out⟩
          · obtain ⟨-, rfl⟩ := hr4.resolve_right (fun h => hg h.1)
            clear hb4 hr4
            go_wp2_with fail
            refine (rNew_any _ ms _ HO4.out.isNds HNM.out hml).mono ?_
            rintro e w5 ⟨hr5, hb5⟩
            obtain ⟨-, rfl⟩ := hr5.resolve_right (fun h => hg h.1)
            have HB5 : Hid (Below w.heap.size w w5) := Lib.hid (HB4.out.trans (hb5.mono HB4.out.size))
            clear hb5 hr5
            go_wp2_with fail
            clear hsI hs60 hnB hsB hnI hsN hnI2 h40 q2 hkl hkI u1 u2 r1 r2 hpl hdl hp g0 g1 h0 h1 hsl hg hml
            refine wp_region_held_drew (S := fun _ => True) (by kernel_rfl) trivial (fun _ => ?_)
            refine takeH_on 0 (some 100) (.pointer none) rfl rfl (by kernel_rfl) (by kernel_rfl) (by kernel_rfl) (fun _ _ _ h => h) (by rfl) (fun w _ => by go_simp) trivial ?_
            simp only [Act.put, List.setIfInBounds_toArray, List.set_cons_zero, List.set_cons_succ]
            refine takeH_on 1 (some 101) (.bool true) rfl rfl (by kernel_rfl) (by kernel_rfl) (by kernel_rfl) (fun _ _ _ h => h) (by rfl) (fun w _ => by go_simp) trivial ?_
            simp only [Act.put, List.setIfInBounds_toArray, List.set_cons_zero, List.set_cons_succ]
            refine takeH_on 2 (some 102) (.bool true) rfl rfl (by kernel_rfl) (by kernel_rfl) (by kernel_rfl) (fun _ _ _ h => h) (by rfl) (fun w _ => by go_simp) trivial ?_
            simp only [Act.put, List.setIfInBounds_toArray, List.set_cons_zero, List.set_cons_succ]
            refine takeH_off 3 (some 103) rfl rfl (by kernel_rfl) (by kernel_rfl) (by kernel_rfl) (fun _ _ _ h => h) (by rfl) trivial ?_
            simp only [Act.put, List.setIfInBounds_toArray, List.set_cons_zero, List.set_cons_succ]
            refine takeH_off 4 (some 104) rfl rfl (by kernel_rfl) (by kernel_rfl) (by kernel_rfl) (fun _ _ _ h => h) (by rfl) trivial ?_
            simp only [Act.put, List.setIfInBounds_toArray, List.set_cons_zero, List.set_cons_succ]
            refine takeH_off 5 (some 105) rfl rfl (by kernel_rfl) (by kernel_rfl) (by kernel_rfl) (fun _ _ _ h => h) (by rfl) trivial ?_
            simp only [Act.put, List.setIfInBounds_toArray, List.set_cons_zero, List.set_cons_succ]
            refine takeH_off 6 (some 106) rfl rfl (by kernel_rfl) (by kernel_rfl) (by kernel_rfl) (fun _ _ _ h => h) (by rfl) trivial ?_
            simp only [Act.put, List.setIfInBounds_toArray, List.set_cons_zero, List.set_cons_succ]
            refine takeH_off 7 (some 107) rfl rfl (by kernel_rfl) (by kernel_rfl) (by kernel_rfl) (fun _ _ _ h => h) (by rfl) trivial ?_
            simp only [Act.put, List.setIfInBounds_toArray, List.set_cons_zero, List.set_cons_succ]
            refine takeH_off 8 (some 108) rfl rfl (by kernel_rfl) (by kernel_rfl) (by kernel_rfl) (fun _ _ _ h => h) (by rfl) trivial ?_
            simp only [Act.put, List.setIfInBounds_toArray, List.set_cons_zero, List.set_cons_succ]
            refine takeH_off 9 (some 109) rfl rfl (by kernel_rfl) (by kernel_rfl) (by kernel_rfl) (fun _ _ _ h => h) (by rfl) trivial ?_
            simp only [Act.put, List.setIfInBounds_toArray, List.set_cons_zero, List.set_cons_succ]
            refine takeH_on 10 (some 110) (.bool true) rfl rfl (by kernel_rfl) (by kernel_rfl) (by kernel_rfl) (fun _ _ _ h => h) (by rfl) (fun w _ => by go_simp) trivial ?_
            simp only [Act.put, List.setIfInBounds_toArray, List.set_cons_zero, List.set_cons_succ]
            refine takeH_on 11 (some 111) (.bool true) rfl rfl (by kernel_rfl) (by kernel_rfl) (by kernel_rfl) (fun _ _ _ h => h) (by rfl) (fun w _ => by go_simp) trivial ?_
            simp only [Act.put, List.setIfInBounds_toArray, List.set_cons_zero, List.set_cons_succ]
            refine wpAnyH_ready (rs := [12]) (by kernel_rfl) (by simp) ?_
            refine AllReadyH.cons rfl (fun K hK => ?_) AllReadyH.nil
            go_simp
            refine (awake15_any _ (MaxAt.drew (HM.out.below HB5.out) 1)).mono ?_
            rintro e w8 ⟨rfl, hb8⟩
            have HB8 := Lib.hid hb8
            clear hb8
            go_wp2_with fail
            refine hK.out _ _ trivial (fun _ => ?_)
            clear hK K
            refine takeH_on 13 (some 113) (.bool true) rfl rfl (by kernel_rfl) (by kernel_rfl) (by kernel_rfl) (fun _ _ _ h => h) (by rfl) (fun w _ => by go_simp) trivial ?_
            simp only [Act.put, List.setIfInBounds_toArray, List.set_cons_zero, List.set_cons_succ]
            refine takeH_on 14 (some 8) (.bool true) rfl rfl (by kernel_rfl) (by kernel_rfl) (by kernel_rfl) (fun _ _ _ h => h) (by rfl) (fun w _ => by go_simp) trivial ?_
            simp only [Act.put, List.setIfInBounds_toArray, List.set_cons_zero, List.set_cons_succ]
            refine wpAnyH_done (by kernel_rfl) ?_ _
            go_wp2_with fail
            go_ret
            exact ⟨rfl, ext_trans (below_dr HB5.out 1) HB8.out⟩
        · have hml0 : ns.length ≤ 10000000 := by omega
          have hsz := HB2.out.size
          go_wp2_with (at_builtin; refine wpList_appN _ rfl _ _ rfl w.heap.size _ ns rfl HO2.out ⟨p, kd, d⟩ _ rfl (by simp) hml0 hsz ?_)
          intro v3 w3 hown3 hgr3
          have HO3 := Lib.hid hown3
          have HB3 : Hid (Below w.heap.size w w3) := Lib.hid (HB2.out.grown hgr3 hsz (fun k hk => (HO2.out.row k hk).1))
          have HNM : Hid (∀ n ∈ ns ++ [⟨p, kd, d⟩], n.p.length ≤ 1000000 ∧ n.d.length ≤ 1000000) := Lib.hid (fun n hn => by
            rcases List.mem_append.1 hn with h | h
            · have := HNB.out n h; omega
            · have h : n = ⟨p, kd, d⟩ := by simpa using h
              rw [h]; exact ⟨Nat.le_trans hpl (by decide), Nat.le_trans hdl (by decide)⟩)
          have hml : (ns ++ [(⟨p, kd, d⟩ : Nd)]).length ≤ 4096 := by rw [List.length_append]; simp; omega
          generalize ns ++ [(⟨p, kd, d⟩ : Nd)] = ms at *
          clear c0 c1 c2 f0 f1 f2 hown3 hgr3
          go_wp2_with fail
          refine (New_any _ ms _ HO3.out.isNds (HM.out.below HB3.out) HNM.out hml).mono ?_
          rintro e w4 ⟨hr4, hb4⟩
          have HB4 : Hid (Below w.heap.size w w4) := Lib.hid (HB3.out.trans (hb4.mono HB3.out.size))
          have HO4 := Lib.hid (HO3.out.below hb4)
          by_cases hg : Good ms
          · obtain ⟨-, t, all, rfl, ht, hwh, hle⟩ := hr4.resolve_left (fun h => h.1 hg)
            have HT := Lib.hid ht
            have HWH := Lib.hid hwh
            clear ht hwh hle hb4 hr4
            go_wp2_with fail
            refine (rNew_any _ ms _ HO4.out.isNds HNM.out hml).mono ?_
            rintro e w5 ⟨hr5, hb5⟩
            obtain ⟨-, t2, all2, rfl, ⟨v5, hx5, ho5⟩, hwh2, hle2⟩ := hr5.resolve_left (fun h => h.1 hg)
            obtain rfl := hwh2.eq HWH.out
            have HT5 := Lib.hid (HT.out.below hb5)
            have HX5 := Lib.hid hx5
            have HO5 := Lib.hid ho5
            have HB5 : Hid (Below w.heap.size w w5) := Lib.hid (HB4.out.trans (hb5.mono HB4.out.size))
            have hal : all2.length ≤ 1000000 := by have := whole_len HWH.out; omega
            have k0 : ∀ m, (w5.drewN m).cell? ⟨t2, 0, none⟩ = some v5 := fun m => by rw [(hx5.drew m).cell]; rfl
            clear hx5 ho5 hwh2 hle2 hb5 hr5
            go_wp2_with fail
            clear hsI hs60 hnB hsB hnI hsN hnI2 h40 q2 hkl hkI u1 u2 r1 r2 hpl hdl hp g0 g1 h0 h1 hsl hg hml
            have HNX := Lib.hid (fun (W : World) (h : Below w5.heap.size w5 W) => All_any t all2 0 W (HT5.out.below h) hal)
            obtain ⟨a5, c5, rfl, -⟩ := HO5.out.isNds
            have k1 : w5.cell? ⟨t2, 0, none⟩ = some (.slice a5 all2.length c5) := k0 0
            clear k0
            go_region_held3 (fun w' => w'.cell? ⟨t2, 0, none⟩ = some (.slice a5 all2.length c5)) (first | assumption | (simp [go_sem]; assumption))
              (first
              | (go_at_call 13; refine (HNX.out _ (below_dr (Below.refl _ _) 1)).mono ?_; rintro e w6 ⟨v6, rfl, hn6, hb6⟩; obtain ⟨a6, c6, rfl, h6⟩ := hn6; have HN6 : Hid (IsNds w6 (.slice a6 all2.length c6) all2) := Lib.hid ⟨a6, c6, rfl, h6⟩; have HB6 := Lib.hid (ext_trans (ext_drew w5 1) hb6); have HX6 := Lib.hid (HX5.out.below HB6.out HX5.out.lt); have k6 : w6.cell? ⟨t2, 0, none⟩ = some (.slice a5 all2.length c5) := (by rw [HX6.out.cell]; rfl); clear hb6 h6)
              | (go_at_call 12; refine (Nodes_any _ _ all2 all2 _ HN6.out (HO5.out.below HB6.out).isNds hal hal).mono ?_; rintro e w7 ⟨⟨b, rfl, hb⟩, n7, rfl⟩; obtain rfl : b = true := hb.2 rfl; clear hb)
              | (go_at_call 9; refine (awake15_any _ ((HM.out.below (ext_trans HB5.out HB6.out)).drew _)).mono ?_; rintro e w8 ⟨rfl, hb8⟩; have HB8 := Lib.hid hb8; have k8 : w8.cell? ⟨t2, 0, none⟩ = some (.slice a5 all2.length c5) := (by rw [(Box.below (HX6.out.drew _) hb8 HX6.out.lt).cell]; rfl); clear hb8))
            go_wp2_with fail
            go_ret
            exact ⟨rfl, ext_trans (below_dr (ext_trans HB5.out HB6.out) _) HB8.out⟩
          · obtain ⟨-, rfl⟩ := hr4.resolve_right (fun h => hg h.1)
            clear hb4 hr4
            go_wp2_with fail
            refine (rNew_any _ ms _ HO4.out.isNds HNM.out hml).mono ?_
            rintro e w5 ⟨hr5, hb5⟩
            obtain ⟨-, rfl⟩ := hr5.resolve_right (fun h => hg h.1)
            have HB5 : Hid (Below w.heap.size w w5) := Lib.hid (HB4.out.trans (hb5.mono HB4.out.size))
            clear hb5 hr5
            go_wp2_with fail
            clear hsI hs60 hnB hsB hnI hsN hnI2 h40 q2 hkl hkI u1 u2 r1 r2 hpl hdl hp g0 g1 h0 h1 hsl hg hml
            refine wp_region_held_drew (S := fun _ => True) (by kernel_rfl) trivial (fun _ => ?_)
            refine takeH_on 0 (some 100) (.pointer none) rfl rfl (by kernel_rfl) (by kernel_rfl) (by kernel_rfl) (fun _ _ _ h => h) (by rfl) (fun w _ => by go_simp) trivial ?_
            simp only [Act.put, List.setIfInBounds_toArray, List.set_cons_zero, List.set_cons_succ]
            refine takeH_on 1 (some 101) (.bool true) rfl rfl (by kernel_rfl) (by kernel_rfl) (by kernel_rfl) (fun _ _ _ h => h) (by rfl) (fun w _ => by go_simp) trivial ?_
            simp only [Act.put, List.setIfInBounds_toArray, List.set_cons_zero, List.set_cons_succ]
            refine takeH_on 2 (some 102) (.bool true) rfl rfl (by kernel_rfl) (by kernel_rfl) (by kernel_rfl) (fun _ _ _ h => h) (by rfl) (fun w _ => by go_simp) trivial ?_
            simp only [Act.put, List.setIfInBounds_toArray, List.set_cons_zero, List.set_cons_succ]
            refine takeH_off 3 (some 103) rfl rfl (by kernel_rfl) (by kernel_rfl) (by kernel_rfl) (fun _ _ _ h => h) (by rfl) trivial ?_
            simp only [Act.put, List.setIfInBounds_toArray, List.set_cons_zero, List.set_cons_succ]
            refine takeH_off 4 (some 104) rfl rfl (by kernel_rfl) (by kernel_rfl) (by kernel_rfl) (fun _ _ _ h => h) (by rfl) trivial ?_
            simp only [Act.put, List.setIfInBounds_toArray, List.set_cons_zero, List.set_cons_succ]
            refine takeH_off 5 (some 105) rfl rfl (by kernel_rfl) (by kernel_rfl) (by kernel_rfl) (fun _ _ _ h => h) (by rfl) trivial ?_
            simp only [Act.put, List.setIfInBounds_toArray, List.set_cons_zero, List.set_cons_succ]
            refine takeH_off 6 (some 106) rfl rfl (by kernel_rfl) (by kernel_rfl) (by kernel_rfl) (fun _ _ _ h => h) (by rfl) trivial ?_
            simp only [Act.put, List.setIfInBounds_toArray, List.set_cons_zero, List.set_cons_succ]
            refine takeH_off 7 (some 107) rfl rfl (by kernel_rfl) (by kernel_rfl) (by kernel_rfl) (fun _ _ _ h => h) (by rfl) trivial ?_
            simp only [Act.put, List.setIfInBounds_toArray, List.set_cons_zero, List.set_cons_succ]
            refine takeH_off 8 (some 108) rfl rfl (by kernel_rfl) (by kernel_rfl) (by kernel_rfl) (fun _ _ _ h => h) (by rfl) trivial ?_
            simp only [Act.put, List.setIfInBounds_toArray, List.set_cons_zero, List.set_cons_succ]
            refine takeH_off 9 (some 109) rfl rfl (by kernel_rfl) (by kernel_rfl) (by kernel_rfl) (fun _ _ _ h => h) (by rfl) trivial ?_
            simp only [Act.put, List.setIfInBounds_toArray, List.set_cons_zero, List.set_cons_succ]
            refine takeH_on 10 (some 110) (.bool true) rfl rfl (by kernel_rfl) (by kernel_rfl) (by kernel_rfl) (fun _ _ _ h => h) (by rfl) (fun w _ => by go_simp) trivial ?_
            simp only [Act.put, List.setIfInBounds_toArray, List.set_cons_zero, List.set_cons_succ]
            refine takeH_on 11 (some 111) (.bool true) rfl rfl (by kernel_rfl) (by kernel_rfl) (by kernel_rfl) (fun _ _ _ h => h) (by rfl) (fun w _ => by go_simp) trivial ?_
            simp only [Act.put, List.setIfInBounds_toArray, List.set_cons_zero, List.set_cons_succ]
            refine wpAnyH_ready (rs := [12]) (by kernel_rfl) (by simp) ?_
            refine AllReadyH.cons rfl (fun K hK => ?_) AllReadyH.nil
            go_simp
            refine (awake15_any _ (MaxAt.drew (HM.out.below HB5.out) 1)).mono ?_
            rintro e w8 ⟨rfl, hb8⟩
            have HB8 := Lib.hid hb8
            clear hb8
            go_wp2_with fail
            refine hK.out _ _ trivial (fun _ => ?_)
            clear hK K
            refine takeH_on 13 (some 113) (.bool true) rfl rfl (by kernel_rfl) (by kernel_rfl) (by kernel_rfl) (fun _ _ _ h => h) (by rfl) (fun w _ => by go_simp) trivial ?_
            simp only [Act.put, List.setIfInBounds_toArray, List.set_cons_zero, List.set_cons_succ]
            refine takeH_on 14 (some 8) (.bool true) rfl rfl (by kernel_rfl) (by kernel_rfl) (by kernel_rfl) (fun _ _ _ h => h) (by rfl) (fun w _ => by go_simp) trivial ?_
            simp only [Act.put, List.setIfInBounds_toArray, List.set_cons_zero, List.set_cons_succ]
            refine wpAnyH_done (by kernel_rfl) ?_ _
            go_wp2_with fail
            go_ret
            exact ⟨rfl, ext_trans (below_dr HB5.out 1) HB8.out⟩
        · have hpl2 : p.length ≤ 3000 := hpl
          have hb1 : p.length + ([47] : Bts).length ≤ 9223372036854775807 := by simp; omega
          have hb2 : (p ++ [47]).length + s.length ≤ 9223372036854775807 := by simp; omega
          go_wp2_with fail
          have HO3 : Hid (OwnN (w2.setCell ⟨g, k * 3, none⟩ (.string ⟨(p ++ 47 :: s).toArray⟩)) w.heap.size (.slice (some ⟨g, 0, none⟩) ns.length vc) (ns.set k ⟨p ++ 47 :: s, kd, d⟩)) := Lib.hid (HO2.out.cellset _ _ (by simp) (HF0.out _))
          have HB3 : Hid (Below w.heap.size w (w2.setCell ⟨g, k * 3, none⟩ (.string ⟨(p ++ 47 :: s).toArray⟩))) := Lib.hid (HB2.out.setCell hgB _)
          clear hb1 hb2 hpl2
          have HNM : Hid (∀ n ∈ ns.set k ⟨p ++ 47 :: s, kd, d⟩, n.p.length ≤ 1000000 ∧ n.d.length ≤ 1000000) := Lib.hid (fun n hn => by
            rcases List.mem_or_eq_of_mem_set hn with h | h
            · have := HNB.out n h; omega
            · rw [h]; exact ⟨by show (p ++ 47 :: s).length ≤ _; have hpl2 : p.length ≤ 3000 := hpl; simp; omega, by show d.length ≤ _; exact Nat.le_trans hdl (by decide)⟩)
          have hml : (ns.set k ⟨p ++ 47 :: s, kd, d⟩).length ≤ 4096 := by rw [List.length_set]; omega
          generalize ns.set k ⟨p ++ 47 :: s, kd, d⟩ = ms at *
          clear c0 c1 c2 f0 f1 f2
          refine (New_any _ ms _ HO3.out.isNds (HM.out.below HB3.out) HNM.out hml).mono ?_
          rintro e w4 ⟨hr4, hb4⟩
          have HB4 : Hid (Below w.heap.size w w4) := Lib.hid (HB3.out.trans (hb4.mono HB3.out.size))
          have HO4 := Lib.hid (HO3.out.below hb4)
          by_cases hg : Good ms
          · obtain ⟨-, t, all, rfl, ht, hwh, hle⟩ := hr4.resolve_left (fun h => h.1 hg)
            have HT := Lib.hid ht
            have HWH := Lib.hid hwh
            clear ht hwh hle hb4 hr4
            go_wp2_with fail
            refine (rNew_any _ ms _ HO4.out.isNds HNM.out hml).mono ?_
            rintro e w5 ⟨hr5, hb5⟩
            obtain ⟨-, t2, all2, rfl, ⟨v5, hx5, ho5⟩, hwh2, hle2⟩ := hr5.resolve_left (fun h => h.1 hg)
            obtain rfl := hwh2.eq HWH.out
            have HT5 := Lib.hid (HT.out.below hb5)
            have HX5 := Lib.hid hx5
            have HO5 := Lib.hid ho5
            have HB5 : Hid (Below w.heap.size w w5) := Lib.hid (HB4.out.trans (hb5.mono HB4.out.size))
            have hal : all2.length ≤ 1000000 := by have := whole_len HWH.out; omega
            have k0 : ∀ m, (w5.drewN m).cell? ⟨t2, 0, none⟩ = some v5 := fun m => by rw [(hx5.drew m).cell]; rfl
            clear hx5 ho5 hwh2 hle2 hb5 hr5
            go_wp2_with fail
            clear hsI hs60 hnB hsB hnI hsN hnI2 h40 q2 hkl hkI u1 u2 r1 r2 hpl hdl hp g0 g1 h0 h1 hsl hg hml
            have HNX := Lib.hid (fun (W : World) (h : Below w5.heap.size w5 W) => All_any t all2 0 W (HT5.out.below h) hal)
            obtain ⟨a5, c5, rfl, -⟩ := HO5.out.isNds
            have k1 : w5.cell? ⟨t2, 0, none⟩ = some (.slice a5 all2.length c5) := k0 0
            clear k0
            go_region_held3 (fun w' => w'.cell? ⟨t2, 0, none⟩ = some (.slice a5 all2.length c5)) (first | assumption | (simp [go_sem]; assumption))
              (first
              | (go_at_call 13; refine (HNX.out _ (below_dr (Below.refl _ _) 1)).mono ?_; rintro e w6 ⟨v6, rfl, hn6, hb6⟩; obtain ⟨a6, c6, rfl, h6⟩ := hn6; have HN6 : Hid (IsNds w6 (.slice a6 all2.length c6) all2) := Lib.hid ⟨a6, c6, rfl, h6⟩; have HB6 := Lib.hid (ext_trans (ext_drew w5 1) hb6); have HX6 := Lib.hid (HX5.out.below HB6.out HX5.out.lt); have k6 : w6.cell? ⟨t2, 0, none⟩ = some (.slice a5 all2.length c5) := (by rw [HX6.out.cell]; rfl); clear hb6 h6)
              | (go_at_call 12; refine (Nodes_any _ _ all2 all2 _ HN6.out (HO5.out.below HB6.out).isNds hal hal).mono ?_; rintro e w7 ⟨⟨b, rfl, hb⟩, n7, rfl⟩; obtain rfl : b = true := hb.2 rfl; clear hb)
              | (go_at_call 9; refine (awake15_any _ ((HM.out.below (ext_trans HB5.out HB6.out)).drew _)).mono ?_; rintro e w8 ⟨rfl, hb8⟩; have HB8 := Lib.hid hb8; have k8 : w8.cell? ⟨t2, 0, none⟩ = some (.slice a5 all2.length c5) := (by rw [(Box.below (HX6.out.drew _) hb8 HX6.out.lt).cell]; rfl); clear hb8))
            go_wp2_with fail
            go_ret
            exact ⟨rfl, ext_trans (below_dr (ext_trans HB5.out HB6.out) _) HB8.out⟩
          · obtain ⟨-, rfl⟩ := hr4.resolve_right (fun h => hg h.1)
            clear hb4 hr4
            go_wp2_with fail
            refine (rNew_any _ ms _ HO4.out.isNds HNM.out hml).mono ?_
            rintro e w5 ⟨hr5, hb5⟩
            obtain ⟨-, rfl⟩ := hr5.resolve_right (fun h => hg h.1)
            have HB5 : Hid (Below w.heap.size w w5) := Lib.hid (HB4.out.trans (hb5.mono HB4.out.size))
            clear hb5 hr5
            go_wp2_with fail
            clear hsI hs60 hnB hsB hnI hsN hnI2 h40 q2 hkl hkI u1 u2 r1 r2 hpl hdl hp g0 g1 h0 h1 hsl hg hml
            refine wp_region_held_drew (S := fun _ => True) (by kernel_rfl) trivial (fun _ => ?_)
            refine takeH_on 0 (some 100) (.pointer none) rfl rfl (by kernel_rfl) (by kernel_rfl) (by kernel_rfl) (fun _ _ _ h => h) (by rfl) (fun w _ => by go_simp) trivial ?_
            simp only [Act.put, List.setIfInBounds_toArray, List.set_cons_zero, List.set_cons_succ]
            refine takeH_on 1 (some 101) (.bool true) rfl rfl (by kernel_rfl) (by kernel_rfl) (by kernel_rfl) (fun _ _ _ h => h) (by rfl) (fun w _ => by go_simp) trivial ?_
            simp only [Act.put, List.setIfInBounds_toArray, List.set_cons_zero, List.set_cons_succ]
            refine takeH_on 2 (some 102) (.bool true) rfl rfl (by kernel_rfl) (by kernel_rfl) (by kernel_rfl) (fun _ _ _ h => h) (by rfl) (fun w _ => by go_simp) trivial ?_
            simp only [Act.put, List.setIfInBounds_toArray, List.set_cons_zero, List.set_cons_succ]
            refine takeH_off 3 (some 103) rfl rfl (by kernel_rfl) (by kernel_rfl) (by kernel_rfl) (fun _ _ _ h => h) (by rfl) trivial ?_
            simp only [Act.put, List.setIfInBounds_toArray, List.set_cons_zero, List.set_cons_succ]
            refine takeH_off 4 (some 104) rfl rfl (by kernel_rfl) (by kernel_rfl) (by kernel_rfl) (fun _ _ _ h => h) (by rfl) trivial ?_
            simp only [Act.put, List.setIfInBounds_toArray, List.set_cons_zero, List.set_cons_succ]
            refine takeH_off 5 (some 105) rfl rfl (by kernel_rfl) (by kernel_rfl) (by kernel_rfl) (fun _ _ _ h => h) (by rfl) trivial ?_
            simp only [Act.put, List.setIfInBounds_toArray, List.set_cons_zero, List.set_cons_succ]
            refine takeH_off 6 (some 106) rfl rfl (by kernel_rfl) (by kernel_rfl) (by kernel_rfl) (fun _ _ _ h => h) (by rfl) trivial ?_
            simp only [Act.put, List.setIfInBounds_toArray, List.set_cons_zero, List.set_cons_succ]
            refine takeH_off 7 (some 107) rfl rfl (by kernel_rfl) (by kernel_rfl) (by kernel_rfl) (fun _ _ _ h => h) (by rfl) trivial ?_
            simp only [Act.put, List.setIfInBounds_toArray, List.set_cons_zero, List.set_cons_succ]
            refine takeH_off 8 (some 108) rfl rfl (by kernel_rfl) (by kernel_rfl) (by kernel_rfl) (fun _ _ _ h => h) (by rfl) trivial ?_
            simp only [Act.put, List.setIfInBounds_toArray, List.set_cons_zero, List.set_cons_succ]
            refine takeH_off 9 (some 109) rfl rfl (by kernel_rfl) (by kernel_rfl) (by kernel_rfl) (fun _ _ _ h => h) (by rfl) trivial ?_
            simp only [Act.put, List.setIfInBounds_toArray, List.set_cons_zero, List.set_cons_succ]
            refine takeH_on 10 (some 110) (.bool true) rfl rfl (by kernel_rfl) (by kernel_rfl) (by kernel_rfl) (fun _ _ _ h => h) (by rfl) (fun w _ => by go_simp) trivial ?_
            simp only [Act.put, List.setIfInBounds_toArray, List.set_cons_zero, List.set_cons_succ]
            refine takeH_on 11 (some 111) (.bool true) rfl rfl (by kernel_rfl) (by kernel_rfl) (by kernel_rfl) (fun _ _ _ h => h) (by rfl) (fun w _ => by go_simp) trivial ?_
            simp only [Act.put, List.setIfInBounds_toArray, List.set_cons_zero, List.set_cons_succ]
            refine wpAnyH_ready (rs := [12]) (by kernel_rfl) (by simp) ?_
            refine AllReadyH.cons rfl (fun K hK => ?_) AllReadyH.nil
            go_simp
            refine (awake15_any _ (MaxAt.drew (HM.out.below HB5.out) 1)).mono ?_
            rintro e w8 ⟨rfl, hb8⟩
            have HB8 := Lib.hid hb8
            clear hb8
            go_wp2_with fail
            refine hK.out _ _ trivial (fun _ => ?_)
            clear hK K
            refine takeH_on 13 (some 113) (.bool true) rfl rfl (by kernel_rfl) (by kernel_rfl) (by kernel_rfl) (fun _ _ _ h => h) (by rfl) (fun w _ => by go_simp) trivial ?_
            simp only [Act.put, List.setIfInBounds_toArray, List.set_cons_zero, List.set_cons_succ]
            refine takeH_on 14 (some 8) (.bool true) rfl rfl (by kernel_rfl) (by kernel_rfl) (by kernel_rfl) (fun _ _ _ h => h) (by rfl) (fun w _ => by go_simp) trivial ?_
            simp only [Act.put, List.setIfInBounds_toArray, List.set_cons_zero, List.set_cons_succ]
            refine wpAnyH_done (by kernel_rfl) ?_ _
            go_wp2_with fail
            go_ret
            exact ⟨rfl, ext_trans (below_dr HB5.out 1) HB8.out⟩
end Go.Proofs.YtcdkojdjcifkpaaDoor
