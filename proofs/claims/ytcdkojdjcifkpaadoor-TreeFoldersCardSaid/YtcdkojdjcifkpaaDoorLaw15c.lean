/- The walk of TreeFolders. -/
import Derived.Test.YtcdkojdjcifkpaaDoorLaw15b
import Derived.Test.YtcdkojdjcifkpaaDoorTreeP
set_option linter.unusedVariables false
set_option linter.unusedSimpArgs false
namespace Go.Proofs.YtcdkojdjcifkpaaDoor
open Go.RowKit

theorem rising_at {all : List Nd} (hr : Rising all) {i : Nat} (h0 : 0 < i) (hi : i < all.length) : ltS (ndAt all (i - 1)).p (ndAt all i).p = true := by
  have h := List.pairwise_iff_getElem.1 hr (i - 1) i (by omega) hi (by omega)
  have e : ∀ j (hj : j < all.length), ndAt all j = all[j] := fun j hj => by unfold ndAt; rw [List.getD_eq_getElem?_getD, List.getElem?_eq_getElem hj]; rfl
  rw [e _ (by omega), e _ hi]
  exact h
theorem rise_at {l : List Bts} (hr : l.Pairwise (fun a b => ltS a b = true)) {i : Nat} (h0 : 0 < i) (hi : i < l.length) : ltS (l.getD (i - 1) []) (l.getD i []) = true := by
  have h := List.pairwise_iff_getElem.1 hr (i - 1) i (by omega) hi (by omega)
  rw [List.getD_eq_getElem?_getD, List.getD_eq_getElem?_getD, List.getElem?_eq_getElem hi, List.getElem?_eq_getElem (by omega)]
  exact h
theorem IsNds.at {w : World} {g off c : Nat} {all : List Nd} (h : IsNds w (.slice (some ⟨g, off, none⟩) all.length c) all) (h0 : 0 < all.length) : NdsAt w g off all := by
  obtain ⟨a', cap', e, -, -, -, h3⟩ := h
  obtain ⟨g', off', e2, h4⟩ := h3 h0
  injection e with e1 _ _
  rw [e2] at e1
  injection e1 with e1
  injection e1 with e1 e3 _
  subst e1 e3
  exact h4
theorem namesD_sub {all : List Nd} {p s : Bts} (h : s ∈ namesD all p) : s ∈ namesIn all p := by
  unfold namesD at h
  split at h
  · exact h
  · cases h
theorem namesD_rise {all : List Nd} {p : Bts} (h : (namesIn all p).Pairwise (fun a b => ltS a b = true)) : (namesD all p).Pairwise (fun a b => ltS a b = true) := by
  unfold namesD
  split
  · exact h
  · exact List.Pairwise.nil
set_option maxRecDepth 100000 in
set_option maxHeartbeats 16000000 in
theorem folders_walk (v : Value) (ns : List Nd) (w : World) (hv : IsNds w v ns) (hM : MaxAt w) :
    Calls Tryd.prog 5 #[v] w fun e w' => e = .returned (.bool true) ∧ Below w.heap.size w w' := by
  have HM := Lib.hid hM
  have HV := Lib.hid hv
  have HBG := Lib.hid (fun w' (h : IsNds w' v ns) => Big_any v ns 3000 w' h (by decide) (by decide))
  obtain ⟨a, cap, rfl, -⟩ := hv
  cases hbg : bigN 3000 ns with
  | true =>
    rw [hbg] at HBG
    go_enter Tryd.func5, Tryd.ntmps5
    go_wp2_with fail
    refine (HBG.out _ HV.out).mono ?_
    rintro e w1 ⟨rfl, n1, rfl⟩
    go_wp2_with fail
    refine (awake15_any _ (HM.out.drew n1)).mono ?_
    rintro e w2 ⟨rfl, hb⟩
    go_wp2
    go_ret
    exact ⟨rfl, ext_trans (ext_drew w n1) hb⟩
  | false =>
    obtain ⟨h40, hnb⟩ := bigN_f hbg
    rw [hbg] at HBG
    have HNB : Hid (∀ n ∈ ns, n.p.length ≤ 3000 ∧ n.d.length ≤ 3000) := Lib.hid hnb
    have HNB2 : Hid (∀ n ∈ ns, n.p.length ≤ 1000000 ∧ n.d.length ≤ 1000000) := Lib.hid (fun n hn => by have := hnb n hn; omega)
    clear hnb hbg
    go_enter Tryd.func5, Tryd.ntmps5
    go_wp2_with fail
    refine (HBG.out _ HV.out).mono ?_
    rintro e w1 ⟨rfl, n1, rfl⟩
    go_wp2_with fail
    refine (New_any _ ns _ (HV.out.drew n1) (HM.out.drew n1) HNB2.out (by omega)).mono ?_
    rintro e w3 ⟨hr3, hb3⟩
    have HB3 := Lib.hid (ext_trans (ext_drew w n1) hb3)
    by_cases hg : Good ns
    · obtain ⟨-, t, all, rfl, ht, hwh, hle⟩ := hr3.resolve_left (fun h => h.1 hg)
      have hal := whole_len hwh
      have hal2 : all.length ≤ 41 := by omega
      have HWH := Lib.hid hwh
      have HLY : Hid (laysOk all) := Lib.hid ((laysOk_good hwh hg.1 hg.2.1).2 hg)
      have HCL : Hid (∀ n ∈ all, cleanL n.p = true) := Lib.hid (fun n hn => by
        rcases (hwh.2 n).1 hn with h | h
        · exact fit_clean (hg.1 n h)
        · rw [h]; rfl)
      have HPL : Hid (∀ n ∈ all, n.p.length ≤ 3000) := Lib.hid (fun n hn => by
        rcases (hwh.2 n).1 hn with h | h
        · exact (HNB.out n h).1
        · rw [h]; decide)
      have HRT : Hid (sumN all all + 1 = all.length) := Lib.hid (names_total hwh.1 HLY.out ((hwh.2 rootN).2 (.inr rfl)))
      have HT := Lib.hid ht
      clear ht hwh hle hb3 hr3
      go_wp2_with fail
      refine (All_any t all 0 w3 HT.out (by omega)).mono ?_
      rintro e w5 ⟨v5, rfl, hn5, hb5⟩
      obtain ⟨a5, c5, rfl, h5⟩ := hn5
      have HN5 : Hid (IsNds w5 (.slice a5 all.length c5) all) := Lib.hid ⟨a5, c5, rfl, h5⟩
      have HT5 := Lib.hid (HT.out.below hb5)
      have HB5 := Lib.hid (ext_trans HB3.out hb5)
      obtain ⟨g, off, rfl⟩ : ∃ g off, a5 = some ⟨g, off, none⟩ := by
        obtain ⟨-, -, -, h6⟩ := h5
        obtain ⟨g, off, e, -⟩ := h6 (by have := HRT.out; omega)
        exact ⟨g, off, e⟩
      clear hb5 h5 HT HB3
      go_wp2_with fail
      go_loopw [6, 7] (fun tn ti wr => ∃ i : Nat, i ≤ all.length ∧ ti = .int .i64 i ∧ tn = .int .i64 (sumN all (all.take i)) ∧ Hid (TreeIs wr t all 0) ∧ Hid (IsNds wr (.slice (some ⟨g, off, none⟩) all.length c5) all) ∧ Hid (Below w.heap.size w wr)) (fun _ ti _ => all.length - (intOf ti).toNat)
      case atStart => exact ⟨0, Nat.zero_le _, rfl, rfl, HT5, HN5, HB5⟩
      case round =>
        obtain ⟨i, hi, rfl, rfl, HT, HN, HB⟩ := hrel
        by_cases hlt : i < all.length
        · have hltI : (i : Int) < (all.length : Int) := by omega
          have hcells : NdsAt wr g off all := HN.out.at (by omega)
          obtain ⟨c0, c1, c2⟩ := hcells i hlt
          have hnd := ndAt_mem hlt
          have hpl := HPL.out _ hnd
          have HDIR : Hid (isDir all (ndAt all i).p = ((ndAt all i).k == 2)) := Lib.hid (isDir_at HWH.out.1 hnd)
          have HNL : Hid ((namesD all (ndAt all i).p).length = all.countP (qN (ndAt all i))) := Lib.hid (namesD_len HWH.out.1 hnd)
          have HST := Lib.hid (sumN_take all all i hlt)
          have HNM := Lib.hid (fun W h => Names_any t all 0 (ndAt all i).p W h (by omega) (by omega))
          have HRI : Hid ((namesD all (ndAt all i).p).Pairwise (fun a b => ltS a b = true)) := Lib.hid (namesD_rise (names_rise HWH.out.1 HCL.out _))
          have HLK : Hid (∀ s ∈ namesD all (ndAt all i).p, (lookN all (joinL (ndAt all i).p s)).isSome = true) := Lib.hid (fun s hs => names_look HWH.out.1 HCL.out (namesD_sub hs))
          have HSB : Hid (∀ s ∈ namesD all (ndAt all i).p, s.length ≤ 3000) := Lib.hid (fun s hs => by
            obtain ⟨m, h1, -, -, rfl⟩ := namesIn_mem (namesD_sub hs)
            have := HPL.out m h1
            unfold partN; rw [List.length_drop]; omega)
          have hgo : (decide (0 < i) = false) ∨ (decide (0 < i) = true ∧ ∃ j : Nat, j < all.length ∧ (i : Int) - 1 = (j : Int) ∧ Op.bytesLess (ndAt all j).p (ndAt all i).p = true ∧ w.heap.size = w.heap.size ∧ wr.cell? ⟨g, off + j * 3, none⟩ = some (.string ⟨(ndAt all j).p.toArray⟩)) := by
            cases i with
            | zero => exact .inl (decide_eq_false (by omega))
            | succ j => exact .inr ⟨decide_eq_true (by omega), j, by omega, by omega, rising_at HWH.out.1 (by omega) hlt, rfl, (hcells j (by omega)).1⟩
          have hPl : (ndAt all i).p.length ≤ 3000 := hpl
          clear hcells hnd hpl
          rcases hgo with h00 | hgo2
          · go_wp2_with fail
            go_quiet (fail)
            go_wp2_with fail
            refine (HNM.out _ (HT.out.below (ext_drew wr nq))).mono ?_
            rintro e w8 ⟨v8, rfl, hs8, hb8⟩
            have hb8w := ext_trans (ext_drew wr nq) hb8
            have HT8 := Lib.hid (HT.out.below hb8w)
            have HN8 := Lib.hid (HN.out.below hb8w)
            have HB8 : Hid (Below w.heap.size w w8) := Lib.hid (HB.out.trans (hb8w.mono HB.out.size))
            rw [HDIR.out]
            obtain ⟨a8, c8, rfl, s8⟩ := hs8
            have HS8 : Hid (IsStr w8 (.slice a8 (namesD all (ndAt all i).p).length c8) (namesD all (ndAt all i).p)) := Lib.hid ⟨a8, c8, rfl, s8⟩
            obtain ⟨-, q1, -⟩ := HN8.out.at (by omega) i hlt
            clear hb8 hb8w s8 HNM HDIR c0 c1 c2
            have HSL : Hid (sumN all (all.take i) + (namesD all (ndAt all i).p).length ≤ 41) := Lib.hid (by
              have h1 := HST.out
              have h2 := sumN_le all all (i + 1)
              have h3 := HRT.out
              have h4 := HNL.out
              omega)
            have HST2 : Hid (sumN all (all.take (i + 1)) = sumN all (all.take i) + (namesD all (ndAt all i).p).length) := Lib.hid (by rw [HNL.out]; exact HST.out)
            clear HST HNL
            generalize namesD all (ndAt all i).p = L at *
            obtain ⟨kb, hkb⟩ : ∃ kb : Bool, ((ndAt all i).k == 2) = kb := ⟨_, rfl⟩
            rw [hkb]
            have hq1 : ((ndAt all i).k == 2) = kb := hkb
            clear hkb
            obtain ⟨P, hP⟩ : ∃ P, (ndAt all i).p = P := ⟨_, rfl⟩
            have HP := Lib.hid hP
            rw [hP] at HLK hPl
            clear hP
            obtain ⟨kk, hkk⟩ : ∃ kk, (ndAt all i).k = kk := ⟨_, rfl⟩
            rw [hkk] at q1 hq1
            clear hkk
            generalize hS : sumN all (all.take i) = S at *
            clear hS
            obtain ⟨wo, rfl⟩ : ∃ x, x = wr := ⟨_, rfl⟩
            have hSL := HSL.out
            go_wp2_with fail
            go_loopw [6, 10] (fun tn tk wr => ∃ k : Nat, k ≤ L.length ∧ tk = .int .i64 k ∧ tn = .int .i64 ((S : Int) + k) ∧ Hid (TreeIs wr t all 0) ∧ Hid (IsNds wr (.slice (some ⟨g, off, none⟩) all.length c5) all) ∧ Hid (IsStr wr (.slice a8 L.length c8) L) ∧ Hid (Below w.heap.size w wr)) (fun _ tk _ => L.length - (intOf tk).toNat)
            case atStart => exact ⟨0, Nat.zero_le _, rfl, by simp, HT8, HN8, HS8, HB8⟩
            case round =>
              obtain ⟨k, hk, rfl, rfl, HT9, HN9, HS9, HB9⟩ := hrel
              by_cases hkl : k < L.length
              · have hklI : (k : Int) < (L.length : Int) := by omega
                obtain ⟨p0, -, -⟩ := HN9.out.at (by omega) i hlt
                rw [HP.out] at p0
                obtain ⟨g8, o8, e8, hc8⟩ : ∃ g8 o8, a8 = some ⟨g8, o8, none⟩ ∧ Cells wr g8 o8 L.length (strAt L) := by
                  obtain ⟨a', cap', e, -, -, -, h3⟩ := HS9.out
                  injection e with e1 _ _
                  rw [e1]
                  exact h3 (by omega)
                subst e8
                have r0 := hc8.at k hkl
                rw [strAt_eq] at r0
                have hsm : L.getD k [] ∈ L := by rw [List.getD_eq_getElem?_getD, List.getElem?_eq_getElem hkl]; exact List.getElem_mem hkl
                have hsl := HSB.out _ hsm
                have HLS := Lib.hid (HLK.out _ hsm)
                have hgk : (decide (0 < k) = false) ∨ (decide (0 < k) = true ∧ ∃ j : Nat, j < L.length ∧ (k : Int) - 1 = (j : Int) ∧ Op.bytesLess (L.getD j []) (L.getD k []) = true ∧ Hid (∀ W, Below wr.heap.size wr W → W.cell? ⟨g8, o8 + j, none⟩ = some (.string ⟨(L.getD j []).toArray⟩))) := by
                  cases k with
                  | zero => exact .inl (decide_eq_false (by omega))
                  | succ j => exact .inr ⟨decide_eq_true (by omega), j, by omega, by omega, rise_at HRI.out (by omega) hkl, Lib.hid (fun W hW => by rw [hW.cell (p := ⟨g8, o8 + j, none⟩) (hc8.lt (by omega)), hc8.at j (by omega)]; rfl)⟩
                have HCK : Hid (∀ W, Below wr.heap.size wr W → W.cell? ⟨g8, o8 + k, none⟩ = some (.string ⟨(L.getD k []).toArray⟩)) := Lib.hid (fun W hW => by rw [hW.cell (p := ⟨g8, o8 + k, none⟩) (hc8.lt (by omega))]; exact r0)
                have hSk : (S : Int) + k + 1 ≤ 41 := by omega
                clear hc8 hsm
                generalize L.getD k [] = s at *
                have hl1 : P.length + 1 ≤ 9223372036854775807 := by omega
                have hl2 : P.length + 1 + s.length ≤ 9223372036854775807 := by omega
                have hl3 : 1 + s.length ≤ 9223372036854775807 := by omega
                by_cases hp47 : P = [47]
                · subst hp47
                  have HLS2 : Hid ((lookN all (47 :: s)).isSome = true) := Lib.hid (by have := HLS.out; unfold joinL at this; rw [if_pos rfl] at this; exact this)
                  clear HLS
                  go_wp2_with fail
                  go_quiet (fail)
                  go_wp2_with fail
                  refine (Look_any t all 0 _ _ (HT9.out.below (ext_drew wr nq)) (by simp; omega)).mono ?_
                  rintro e w9 ⟨rfl, hb9⟩
                  rw [HLS2.out]
                  have hb9w := ext_trans (ext_drew wr nq) hb9
                  have HBW : Hid (∀ o n, Below wr.heap.size wr ((w9.alloc o).drewN n)) := Lib.hid (fun o n => below_dr (ext_trans hb9w (ext_alloc _ _)) n)
                  have kc : ∀ o, (w9.alloc o).cell? ⟨g8, o8 + k, none⟩ = some (.string ⟨s.toArray⟩) := fun o => HCK.out _ (HBW.out o 0)
                  simp only [ndV]
                  generalize (lookN all (47 :: s)).getD nd0 = R at *
                  clear HLS2 hb9 hb9w HCK
                  rcases hgk with h00 | ⟨hpos, j, hjl, hji, hbl, HJ⟩
                  · go_wp2_with fail
                    go_quiet (fail)
                    go_wp2_with fail
                    exact ⟨⟨k + 1, by omega, by go_num, by first | go_num | (congr 1; omega), Lib.hid (HT9.out.below (HBW.out _ _)), Lib.hid (HN9.out.below (HBW.out _ _)), Lib.hid (HS9.out.below (HBW.out _ _)), Lib.hid (HB9.out.trans ((HBW.out _ _).mono HB9.out.size))⟩, by simp [intOf]; omega⟩
                  · have kj : ∀ o, (w9.alloc o).cell? ⟨g8, o8 + j, none⟩ = some (.string ⟨(L.getD j []).toArray⟩) := fun o => HJ.out _ (HBW.out o 0)
                    generalize L.getD j [] = sj at *
                    have hjI : (j : Int) < (L.length : Int) := by omega
                    go_wp2_with fail
                    go_quiet (fail)
                    go_wp2_with fail
                    exact ⟨⟨k + 1, by omega, by go_num, by first | go_num | (congr 1; omega), Lib.hid (HT9.out.below (HBW.out _ _)), Lib.hid (HN9.out.below (HBW.out _ _)), Lib.hid (HS9.out.below (HBW.out _ _)), Lib.hid (HB9.out.trans ((HBW.out _ _).mono HB9.out.size))⟩, by simp [intOf]; omega⟩
                · have e47 : (P == [47]) = false := by rw [beq_eq_false_iff_ne]; exact hp47
                  have HLS2 : Hid ((lookN all (P ++ 47 :: s)).isSome = true) := Lib.hid (by have := HLS.out; unfold joinL at this; rw [if_neg hp47] at this; exact this)
                  clear HLS
                  go_wp2_with fail
                  go_quiet (fail)
                  go_wp2_with fail
                  refine (Look_any t all 0 _ _ (HT9.out.below (ext_drew wr nq)) (by simp; omega)).mono ?_
                  rintro e w9 ⟨rfl, hb9⟩
                  rw [HLS2.out]
                  have hb9w := ext_trans (ext_drew wr nq) hb9
                  have HBW : Hid (∀ o n, Below wr.heap.size wr ((w9.alloc o).drewN n)) := Lib.hid (fun o n => below_dr (ext_trans hb9w (ext_alloc _ _)) n)
                  have kc : ∀ o, (w9.alloc o).cell? ⟨g8, o8 + k, none⟩ = some (.string ⟨s.toArray⟩) := fun o => HCK.out _ (HBW.out o 0)
                  simp only [ndV]
                  generalize (lookN all (P ++ 47 :: s)).getD nd0 = R at *
                  clear HLS2 hb9 hb9w HCK
                  rcases hgk with h00 | ⟨hpos, j, hjl, hji, hbl, HJ⟩
                  · go_wp2_with fail
                    go_quiet (fail)
                    go_wp2_with fail
                    exact ⟨⟨k + 1, by omega, by go_num, by first | go_num | (congr 1; omega), Lib.hid (HT9.out.below (HBW.out _ _)), Lib.hid (HN9.out.below (HBW.out _ _)), Lib.hid (HS9.out.below (HBW.out _ _)), Lib.hid (HB9.out.trans ((HBW.out _ _).mono HB9.out.size))⟩, by simp [intOf]; omega⟩
                  · have kj : ∀ o, (w9.alloc o).cell? ⟨g8, o8 + j, none⟩ = some (.string ⟨(L.getD j []).toArray⟩) := fun o => HJ.out _ (HBW.out o 0)
                    generalize L.getD j [] = sj at *
                    have hjI : (j : Int) < (L.length : Int) := by omega
                    go_wp2_with fail
                    go_quiet (fail)
                    go_wp2_with fail
                    exact ⟨⟨k + 1, by omega, by go_num, by first | go_num | (congr 1; omega), Lib.hid (HT9.out.below (HBW.out _ _)), Lib.hid (HN9.out.below (HBW.out _ _)), Lib.hid (HS9.out.below (HBW.out _ _)), Lib.hid (HB9.out.trans ((HBW.out _ _).mono HB9.out.size))⟩, by simp [intOf]; omega⟩
              · obtain rfl : k = L.length := by omega
                have HST3 := Lib.hid HST2.out
                clear HLK HRI HSB
                go_wp2_with fail
                exact ⟨⟨i + 1, by omega, by go_num, by rw [HST3.out]; go_num, HT9, HN9, HB9⟩, by simp [intOf]; omega⟩
          · obtain ⟨hpos, j, hjl, hji, hbl, -, d0⟩ := hgo2
            have hjlt : (j : Int) < (all.length : Int) := by omega
            go_wp2_with fail
            go_quiet (fail)
            go_wp2_with fail
            refine (HNM.out _ (HT.out.below (ext_drew wr nq))).mono ?_
            rintro e w8 ⟨v8, rfl, hs8, hb8⟩
            have hb8w := ext_trans (ext_drew wr nq) hb8
            have HT8 := Lib.hid (HT.out.below hb8w)
            have HN8 := Lib.hid (HN.out.below hb8w)
            have HB8 : Hid (Below w.heap.size w w8) := Lib.hid (HB.out.trans (hb8w.mono HB.out.size))
            rw [HDIR.out]
            obtain ⟨a8, c8, rfl, s8⟩ := hs8
            have HS8 : Hid (IsStr w8 (.slice a8 (namesD all (ndAt all i).p).length c8) (namesD all (ndAt all i).p)) := Lib.hid ⟨a8, c8, rfl, s8⟩
            obtain ⟨-, q1, -⟩ := HN8.out.at (by omega) i hlt
            clear hb8 hb8w s8 HNM HDIR c0 c1 c2
            have HSL : Hid (sumN all (all.take i) + (namesD all (ndAt all i).p).length ≤ 41) := Lib.hid (by
              have h1 := HST.out
              have h2 := sumN_le all all (i + 1)
              have h3 := HRT.out
              have h4 := HNL.out
              omega)
            have HST2 : Hid (sumN all (all.take (i + 1)) = sumN all (all.take i) + (namesD all (ndAt all i).p).length) := Lib.hid (by rw [HNL.out]; exact HST.out)
            clear HST HNL
            generalize namesD all (ndAt all i).p = L at *
            obtain ⟨kb, hkb⟩ : ∃ kb : Bool, ((ndAt all i).k == 2) = kb := ⟨_, rfl⟩
            rw [hkb]
            have hq1 : ((ndAt all i).k == 2) = kb := hkb
            clear hkb
            obtain ⟨P, hP⟩ : ∃ P, (ndAt all i).p = P := ⟨_, rfl⟩
            have HP := Lib.hid hP
            rw [hP] at HLK hPl
            clear hP
            obtain ⟨kk, hkk⟩ : ∃ kk, (ndAt all i).k = kk := ⟨_, rfl⟩
            rw [hkk] at q1 hq1
            clear hkk
            generalize hS : sumN all (all.take i) = S at *
            clear hS
            obtain ⟨wo, rfl⟩ : ∃ x, x = wr := ⟨_, rfl⟩
            have hSL := HSL.out
            go_wp2_with fail
            go_loopw [6, 10] (fun tn tk wr => ∃ k : Nat, k ≤ L.length ∧ tk = .int .i64 k ∧ tn = .int .i64 ((S : Int) + k) ∧ Hid (TreeIs wr t all 0) ∧ Hid (IsNds wr (.slice (some ⟨g, off, none⟩) all.length c5) all) ∧ Hid (IsStr wr (.slice a8 L.length c8) L) ∧ Hid (Below w.heap.size w wr)) (fun _ tk _ => L.length - (intOf tk).toNat)
            case atStart => exact ⟨0, Nat.zero_le _, rfl, by simp, HT8, HN8, HS8, HB8⟩
            case round =>
              obtain ⟨k, hk, rfl, rfl, HT9, HN9, HS9, HB9⟩ := hrel
              by_cases hkl : k < L.length
              · have hklI : (k : Int) < (L.length : Int) := by omega
                obtain ⟨p0, -, -⟩ := HN9.out.at (by omega) i hlt
                rw [HP.out] at p0
                obtain ⟨g8, o8, e8, hc8⟩ : ∃ g8 o8, a8 = some ⟨g8, o8, none⟩ ∧ Cells wr g8 o8 L.length (strAt L) := by
                  obtain ⟨a', cap', e, -, -, -, h3⟩ := HS9.out
                  injection e with e1 _ _
                  rw [e1]
                  exact h3 (by omega)
                subst e8
                have r0 := hc8.at k hkl
                rw [strAt_eq] at r0
                have hsm : L.getD k [] ∈ L := by rw [List.getD_eq_getElem?_getD, List.getElem?_eq_getElem hkl]; exact List.getElem_mem hkl
                have hsl := HSB.out _ hsm
                have HLS := Lib.hid (HLK.out _ hsm)
                have hgk : (decide (0 < k) = false) ∨ (decide (0 < k) = true ∧ ∃ j : Nat, j < L.length ∧ (k : Int) - 1 = (j : Int) ∧ Op.bytesLess (L.getD j []) (L.getD k []) = true ∧ Hid (∀ W, Below wr.heap.size wr W → W.cell? ⟨g8, o8 + j, none⟩ = some (.string ⟨(L.getD j []).toArray⟩))) := by
                  cases k with
                  | zero => exact .inl (decide_eq_false (by omega))
                  | succ j => exact .inr ⟨decide_eq_true (by omega), j, by omega, by omega, rise_at HRI.out (by omega) hkl, Lib.hid (fun W hW => by rw [hW.cell (p := ⟨g8, o8 + j, none⟩) (hc8.lt (by omega)), hc8.at j (by omega)]; rfl)⟩
                have HCK : Hid (∀ W, Below wr.heap.size wr W → W.cell? ⟨g8, o8 + k, none⟩ = some (.string ⟨(L.getD k []).toArray⟩)) := Lib.hid (fun W hW => by rw [hW.cell (p := ⟨g8, o8 + k, none⟩) (hc8.lt (by omega))]; exact r0)
                have hSk : (S : Int) + k + 1 ≤ 41 := by omega
                clear hc8 hsm
                generalize L.getD k [] = s at *
                have hl1 : P.length + 1 ≤ 9223372036854775807 := by omega
                have hl2 : P.length + 1 + s.length ≤ 9223372036854775807 := by omega
                have hl3 : 1 + s.length ≤ 9223372036854775807 := by omega
                by_cases hp47 : P = [47]
                · subst hp47
                  have HLS2 : Hid ((lookN all (47 :: s)).isSome = true) := Lib.hid (by have := HLS.out; unfold joinL at this; rw [if_pos rfl] at this; exact this)
                  clear HLS
                  go_wp2_with fail
                  go_quiet (fail)
                  go_wp2_with fail
                  refine (Look_any t all 0 _ _ (HT9.out.below (ext_drew wr nq)) (by simp; omega)).mono ?_
                  rintro e w9 ⟨rfl, hb9⟩
                  rw [HLS2.out]
                  have hb9w := ext_trans (ext_drew wr nq) hb9
                  have HBW : Hid (∀ o n, Below wr.heap.size wr ((w9.alloc o).drewN n)) := Lib.hid (fun o n => below_dr (ext_trans hb9w (ext_alloc _ _)) n)
                  have kc : ∀ o, (w9.alloc o).cell? ⟨g8, o8 + k, none⟩ = some (.string ⟨s.toArray⟩) := fun o => HCK.out _ (HBW.out o 0)
                  simp only [ndV]
                  generalize (lookN all (47 :: s)).getD nd0 = R at *
                  clear HLS2 hb9 hb9w HCK
                  rcases hgk with h00 | ⟨hpos, j, hjl, hji, hbl, HJ⟩
                  · go_wp2_with fail
                    go_quiet (fail)
                    go_wp2_with fail
                    exact ⟨⟨k + 1, by omega, by go_num, by first | go_num | (congr 1; omega), Lib.hid (HT9.out.below (HBW.out _ _)), Lib.hid (HN9.out.below (HBW.out _ _)), Lib.hid (HS9.out.below (HBW.out _ _)), Lib.hid (HB9.out.trans ((HBW.out _ _).mono HB9.out.size))⟩, by simp [intOf]; omega⟩
                  · have kj : ∀ o, (w9.alloc o).cell? ⟨g8, o8 + j, none⟩ = some (.string ⟨(L.getD j []).toArray⟩) := fun o => HJ.out _ (HBW.out o 0)
                    generalize L.getD j [] = sj at *
                    have hjI : (j : Int) < (L.length : Int) := by omega
                    go_wp2_with fail
                    go_quiet (fail)
                    go_wp2_with fail
                    exact ⟨⟨k + 1, by omega, by go_num, by first | go_num | (congr 1; omega), Lib.hid (HT9.out.below (HBW.out _ _)), Lib.hid (HN9.out.below (HBW.out _ _)), Lib.hid (HS9.out.below (HBW.out _ _)), Lib.hid (HB9.out.trans ((HBW.out _ _).mono HB9.out.size))⟩, by simp [intOf]; omega⟩
                · have e47 : (P == [47]) = false := by rw [beq_eq_false_iff_ne]; exact hp47
                  have HLS2 : Hid ((lookN all (P ++ 47 :: s)).isSome = true) := Lib.hid (by have := HLS.out; unfold joinL at this; rw [if_neg hp47] at this; exact this)
                  clear HLS
                  go_wp2_with fail
                  go_quiet (fail)
                  go_wp2_with fail
                  refine (Look_any t all 0 _ _ (HT9.out.below (ext_drew wr nq)) (by simp; omega)).mono ?_
                  rintro e w9 ⟨rfl, hb9⟩
                  rw [HLS2.out]
                  have hb9w := ext_trans (ext_drew wr nq) hb9
                  have HBW : Hid (∀ o n, Below wr.heap.size wr ((w9.alloc o).drewN n)) := Lib.hid (fun o n => below_dr (ext_trans hb9w (ext_alloc _ _)) n)
                  have kc : ∀ o, (w9.alloc o).cell? ⟨g8, o8 + k, none⟩ = some (.string ⟨s.toArray⟩) := fun o => HCK.out _ (HBW.out o 0)
                  simp only [ndV]
                  generalize (lookN all (P ++ 47 :: s)).getD nd0 = R at *
                  clear HLS2 hb9 hb9w HCK
                  rcases hgk with h00 | ⟨hpos, j, hjl, hji, hbl, HJ⟩
                  · go_wp2_with fail
                    go_quiet (fail)
                    go_wp2_with fail
                    exact ⟨⟨k + 1, by omega, by go_num, by first | go_num | (congr 1; omega), Lib.hid (HT9.out.below (HBW.out _ _)), Lib.hid (HN9.out.below (HBW.out _ _)), Lib.hid (HS9.out.below (HBW.out _ _)), Lib.hid (HB9.out.trans ((HBW.out _ _).mono HB9.out.size))⟩, by simp [intOf]; omega⟩
                  · have kj : ∀ o, (w9.alloc o).cell? ⟨g8, o8 + j, none⟩ = some (.string ⟨(L.getD j []).toArray⟩) := fun o => HJ.out _ (HBW.out o 0)
                    generalize L.getD j [] = sj at *
                    have hjI : (j : Int) < (L.length : Int) := by omega
                    go_wp2_with fail
                    go_quiet (fail)
                    go_wp2_with fail
                    exact ⟨⟨k + 1, by omega, by go_num, by first | go_num | (congr 1; omega), Lib.hid (HT9.out.below (HBW.out _ _)), Lib.hid (HN9.out.below (HBW.out _ _)), Lib.hid (HS9.out.below (HBW.out _ _)), Lib.hid (HB9.out.trans ((HBW.out _ _).mono HB9.out.size))⟩, by simp [intOf]; omega⟩
              · obtain rfl : k = L.length := by omega
                have HST3 := Lib.hid HST2.out
                clear HLK HRI HSB
                go_wp2_with fail
                exact ⟨⟨i + 1, by omega, by go_num, by rw [HST3.out]; go_num, HT9, HN9, HB9⟩, by simp [intOf]; omega⟩
        · obtain rfl : i = all.length := by omega
          have HTO : Hid ((sumN all (all.take all.length) : Int) = (all.length : Int) - 1) := Lib.hid (by rw [List.take_length]; have := HRT.out; omega)
          have hlen1 : 1 ≤ all.length := by have := HRT.out; omega
          rw [HTO.out]
          go_wp2_with fail
          refine (awake15_any _ (HM.out.below HB.out)).mono ?_
          rintro e w4 ⟨rfl, hb4⟩
          go_wp2_with fail
          go_ret
          exact ⟨rfl, HB.out.trans (hb4.mono HB.out.size)⟩
    · obtain ⟨-, rfl⟩ := hr3.resolve_right (fun h => hg h.1)
      clear hb3 hr3
      go_wp2_with fail
      refine (awake15_any _ (HM.out.below HB3.out)).mono ?_
      rintro e w4 ⟨rfl, hb4⟩
      go_wp2_with fail
      go_ret
      exact ⟨rfl, ext_trans HB3.out hb4⟩
end Go.Proofs.YtcdkojdjcifkpaaDoor
