/- The contract of ref15.may. -/
import Derived.Test.YtcdkojdjcifkpaaDoorRfA
import Derived.Test.YtcdkojdjcifkpaaDoorLit
set_option linter.unusedVariables false
set_option linter.unusedSimpArgs false
namespace Go.Proofs.YtcdkojdjcifkpaaDoor
open Go.RowKit

set_option maxRecDepth 100000 in
set_option maxHeartbeats 8000000 in
theorem may_any (n : Nd) (w : World) (hp : n.p.length ≤ 1000000) (hd : n.d.length ≤ 1000000) :
    Calls Tryd.prog 27 #[.agg #[.string ⟨n.p.toArray⟩, .int .i64 n.k, .string ⟨n.d.toArray⟩]] w fun e w' => e = .returned (.bool (fitN n)) ∧ Below w.heap.size w w' := by
  have HE := Lib.hid (fitN_eq n)
  obtain ⟨p, k, d⟩ := n
  have HC := Lib.hid (fun w => rClean_any p w hp)
  have HI := Lib.hid (fun w => nul_any p w hp)
  have HL : Hid (long1 ⟨p, k, d⟩ = (decide (p.length ≤ 1024) && cleanL p && !(p.contains 0))) := Lib.hid rfl
  have HBX : Hid (∀ W, Below (w.alloc (.cells (ndC ⟨p, k, d⟩).toArray 37)).heap.size (w.alloc (.cells (ndC ⟨p, k, d⟩).toArray 37)) W → W.cell? ⟨w.heap.size, 0, none⟩ = some (.string ⟨p.toArray⟩) ∧ W.cell? ⟨w.heap.size, 1, none⟩ = some (.int .i64 k) ∧ W.cell? ⟨w.heap.size, 2, none⟩ = some (.string ⟨d.toArray⟩)) := Lib.hid (fun W hW => by
    have h1 := (Box.new w 37 (ndC ⟨p, k, d⟩)).below hW (by simp)
    exact ⟨by rw [h1.cell]; rfl, by rw [h1.cell]; rfl, by rw [h1.cell]; rfl⟩)
  cases hcl : cleanL p with
  | false =>
    have HF : Hid (fitN ⟨p, k, d⟩ = false) := Lib.hid (by rw [HE.out, HL.out, hcl]; simp)
    rw [hcl] at HC
    clear HE HI HL hcl
    go_enter Tryd.func27, Tryd.ntmps27
    go_wp2_with fail
    refine (HC.out _).mono ?_
    rintro e w2 ⟨rfl, hb⟩
    go_wp2_with fail
    go_ret
    exact ⟨ret_b HF.out.symm, ext_trans (ext_alloc _ _) hb⟩
  | true =>
    rw [hcl] at HC
    by_cases h1 : 1024 < p.length
    · have hI : (1024 : Int) < (p.length : Int) := by omega
      have HF : Hid (fitN ⟨p, k, d⟩ = false) := Lib.hid (by rw [HE.out, HL.out, hcl, decide_eq_false (by omega)]; simp)
      clear HE HI HL hcl
      go_enter Tryd.func27, Tryd.ntmps27
      go_wp2_with fail
      refine (HC.out _).mono ?_
      rintro e w2 ⟨rfl, hb⟩
      obtain ⟨c0, c1, c2⟩ := HBX.out w2 hb
      have HB := Lib.hid (ext_trans (ext_alloc w _) hb)
      clear hb
      go_wp2_with fail
      go_ret
      exact ⟨ret_b HF.out.symm, HB.out⟩
    · have hI : (p.length : Int) ≤ 1024 := by omega
      have hl1 : p.length ≤ 1024 := by omega
      cases hz : p.contains 0 with
      | true =>
        have HF : Hid (fitN ⟨p, k, d⟩ = false) := Lib.hid (by rw [HE.out, HL.out, hcl, hz]; simp)
        rw [hz] at HI
        clear HE HL hcl hz
        go_enter Tryd.func27, Tryd.ntmps27
        go_wp2_with fail
        refine (HC.out _).mono ?_
        rintro e w2 ⟨rfl, hb⟩
        obtain ⟨c0, c1, c2⟩ := HBX.out w2 hb
        have HB := Lib.hid (ext_trans (ext_alloc w _) hb)
        clear hb
        go_wp2_with fail
        refine (HI.out _).mono ?_
        rintro e w' ⟨rfl, rfl⟩
        go_wp2_with fail
        go_ret
        exact ⟨ret_b HF.out.symm, HB.out⟩
      | false =>
        have HX : Hid (fitN ⟨p, k, d⟩ = ((splitB 47 p).all (fun s => decide (s.length ≤ 255)) && kindOk ⟨p, k, d⟩)) := Lib.hid (by rw [HE.out, HL.out, hcl, hz, decide_eq_true hl1]; rfl)
        rw [hz] at HI
        have HS2 : Hid (∀ w, Calls Tryd.prog 43 #[.string ⟨p.toArray⟩, .int .u8 47] w fun e w' => ∃ v', e = .returned v' ∧ IsStr w' v' (splitB 47 p) ∧ Below w.heap.size w w') := Lib.hid (fun w => (Parts_any p 47 w hp (by decide) (by decide)).mono fun e w' ⟨v', h1, h2, h3⟩ => ⟨v', h1, h2.isStr, h3⟩)
        have hlen := (splitB_len 47 p).1
        obtain ⟨ls, hls⟩ : ∃ ls, splitB 47 p = ls := ⟨_, rfl⟩
        rw [hls] at HX HS2 hlen
        clear HE HL hcl hz hls
        have HI2 := Lib.hid (fun w => nul_any d w hd)
        have hlen1 : ls.length ≤ 1000001 := by omega
        go_enter Tryd.func27, Tryd.ntmps27
        go_wp2_with fail
        refine (HC.out _).mono ?_
        rintro e w1 ⟨rfl, hb1⟩
        obtain ⟨d0, d1, d2⟩ := HBX.out w1 hb1
        go_wp2_with fail
        refine (HI.out _).mono ?_
        rintro e w' ⟨rfl, rfl⟩
        go_wp2_with fail
        refine (HS2.out _).mono ?_
        rintro e w2 ⟨v', rfl, hs, hb⟩
        have hb12 := ext_trans hb1 hb
        have HB := Lib.hid (ext_trans (ext_alloc w _) hb12)
        obtain ⟨c0, c1, c2⟩ := HBX.out w2 hb12
        obtain ⟨a, cap, rfl, s1, s2, -, s3⟩ := hs
        clear hb hb1 hb12 HC HI HS2 d0 d1 d2
        go_wp2_with fail
        go_loopw [4] (fun ti wr => ∃ i : Nat, i ≤ ls.length ∧ ti = .int .i64 i ∧ Hid ((ls.take i).all (fun s => decide (s.length ≤ 255)) = true) ∧ wr = w2) (fun ti _ => ls.length - (intOf ti).toNat)
        case atStart => exact ⟨0, Nat.zero_le _, rfl, Lib.hid rfl, rfl⟩
        case round =>
          obtain ⟨i, hi2, rfl, HA, rfl⟩ := hrel
          by_cases hlt : i < ls.length
          · have hltI : (i : Int) < (ls.length : Int) := by omega
            obtain ⟨b, off, rfl, hc⟩ := s3 (by omega)
            have hci := hc.at i hlt
            rw [strAt_eq] at hci
            have HT : Hid ((ls.take (i + 1)).all (fun s => decide (s.length ≤ 255)) = ((ls.take i).all (fun s => decide (s.length ≤ 255)) && decide ((ls.getD i []).length ≤ 255))) := Lib.hid (by rw [List.take_add_one, List.getElem?_eq_getElem hlt, List.getD_eq_getElem?_getD, List.getElem?_eq_getElem hlt, List.all_append]; simp)
            have HF1 : Hid (255 < (ls.getD i []).length → ls.all (fun s => decide (s.length ≤ 255)) = false) := Lib.hid fun h => by
              rw [List.all_eq_false]
              exact ⟨_, List.getElem_mem hlt, by rw [List.getD_eq_getElem?_getD, List.getElem?_eq_getElem hlt] at h; simp at h; simp; omega⟩
            generalize ls.getD i [] = x at *
            clear hc s3
            by_cases hx : 255 < x.length
            · have hxI : (255 : Int) < (x.length : Int) := by omega
              have HF : Hid (fitN ⟨p, k, d⟩ = false) := Lib.hid (by rw [HX.out, HF1.out hx]; rfl)
              clear HX HF1 HT HA
              go_wp2_with fail
              go_ret
              exact ⟨ret_b HF.out.symm, HB.out⟩
            · have hxI : (x.length : Int) ≤ 255 := by omega
              have HN : Hid ((ls.take (i + 1)).all (fun s => decide (s.length ≤ 255)) = true) := Lib.hid (by rw [HT.out, HA.out, decide_eq_true (by omega)]; rfl)
              clear HX HF1 HT HA hx
              go_wp2_with fail
              exact ⟨⟨i + 1, by omega, by go_num, HN, trivial⟩, by simp [intOf]; omega⟩
          · obtain rfl : i = ls.length := by omega
            have HA2 : Hid (ls.all (fun s => decide (s.length ≤ 255)) = true) := Lib.hid (by have := HA.out; rwa [List.take_length] at this)
            have HX2 : Hid (fitN ⟨p, k, d⟩ = kindOk ⟨p, k, d⟩) := Lib.hid (by rw [HX.out, HA2.out]; rfl)
            have HKO : Hid (kindOk ⟨p, k, d⟩ = (if k = 1 then !(p == [47]) && decide (d.length ≤ 1048576) else if k = 2 then d == [] else if k = 3 then !(p == [47]) && !(d == []) && decide (d.length ≤ 1024) && !(d.contains 0) else false)) := Lib.hid rfl
            clear HX HA2 HA s3 s1 s2
            have hp47 : p = [47] ∨ (p == [47]) = false ∧ (p != [47]) = true := by
              by_cases h : p = [47]
              · exact .inl h
              · exact .inr ⟨by rw [beq_eq_false_iff_ne]; exact h, by simp [h]⟩
            have hd0 : d = [] ∨ (d == []) = false ∧ (d != []) = true ∧ d.isEmpty = false := by
              cases d with
              | nil => exact .inl rfl
              | cons b l => exact .inr ⟨rfl, rfl, rfl⟩
            have hdI : (d.length : Int) ≤ 1048576 := by omega
            by_cases k1 : k = 1
            · subst k1
              rcases hp47 with rfl | ⟨q1, q2⟩
              · have HF : Hid (fitN ⟨[47], 1, d⟩ = false) := Lib.hid (by rw [HX2.out, HKO.out]; rfl)
                clear HX2 HKO
                go_wp2_with fail
                go_ret
                exact ⟨ret_b HF.out.symm, HB.out⟩
              · have HF : Hid (fitN ⟨p, 1, d⟩ = true) := Lib.hid (by rw [HX2.out, HKO.out, if_pos rfl, q1, decide_eq_true (by omega)]; rfl)
                clear HX2 HKO
                go_wp2_with fail
                go_ret
                exact ⟨ret_b HF.out.symm, HB.out⟩
            · have k1b : (k == 1) = false := by rw [beq_eq_false_iff_ne]; exact k1
              by_cases k2 : k = 2
              · subst k2
                have HF : Hid (fitN ⟨p, 2, d⟩ = (d == [])) := Lib.hid (by rw [HX2.out, HKO.out]; rfl)
                clear HX2 HKO
                go_wp2_with fail
                go_ret
                exact ⟨ret_b (by rw [HF.out]; cases d <;> rfl), HB.out⟩
              · have k2b : (k == 2) = false := by rw [beq_eq_false_iff_ne]; exact k2
                by_cases k3 : k = 3
                · subst k3
                  have HF0 : Hid (fitN ⟨p, 3, d⟩ = (!(p == [47]) && !(d == []) && decide (d.length ≤ 1024) && !(d.contains 0))) := Lib.hid (by rw [HX2.out, HKO.out]; rfl)
                  clear HX2 HKO
                  rcases hd0 with rfl | ⟨r1, r2, r3⟩
                  · have HF : Hid (fitN ⟨p, 3, []⟩ = false) := Lib.hid (by rw [HF0.out]; simp)
                    clear HF0
                    go_wp2_with fail
                    go_ret
                    exact ⟨ret_b HF.out.symm, HB.out⟩
                  · have hd1 : (1 : Int) ≤ (d.length : Int) := by
                      cases d with
                      | nil => cases r1
                      | cons b l => simp; omega
                    by_cases hdl : 1024 < d.length
                    · have hdlI : (1024 : Int) < (d.length : Int) := by omega
                      have HF : Hid (fitN ⟨p, 3, d⟩ = false) := Lib.hid (by rw [HF0.out, decide_eq_false (by omega)]; simp)
                      clear HF0
                      go_wp2_with fail
                      go_ret
                      exact ⟨ret_b HF.out.symm, HB.out⟩
                    · have hdlI : (d.length : Int) ≤ 1024 := by omega
                      have HF : Hid (fitN ⟨p, 3, d⟩ = (!(p == [47]) && !(d.contains 0))) := Lib.hid (by
                        rw [HF0.out, r1, decide_eq_true (by omega)]; simp)
                      clear HF0
                      cases hdc : d.contains 0 with
                      | true =>
                        have HF2 : Hid (fitN ⟨p, 3, d⟩ = false) := Lib.hid (by rw [HF.out, hdc]; simp)
                        rw [hdc] at HI2
                        clear HF hdc
                        go_wp2_with fail
                        refine (HI2.out _).mono ?_
                        rintro e w' ⟨rfl, rfl⟩
                        go_wp2_with fail
                        go_ret
                        exact ⟨ret_b HF2.out.symm, HB.out⟩
                      | false =>
                        have HF2 : Hid (fitN ⟨p, 3, d⟩ = !(p == [47])) := Lib.hid (by rw [HF.out, hdc]; simp)
                        rw [hdc] at HI2
                        clear HF hdc
                        rcases hp47 with rfl | ⟨q1, q2⟩
                        · have HF3 : Hid (fitN ⟨[47], 3, d⟩ = false) := Lib.hid (by rw [HF2.out]; rfl)
                          clear HF2
                          go_wp2_with fail
                          refine (HI2.out _).mono ?_
                          rintro e w' ⟨rfl, rfl⟩
                          go_wp2_with fail
                          go_ret
                          exact ⟨ret_b HF3.out.symm, HB.out⟩
                        · have HF3 : Hid (fitN ⟨p, 3, d⟩ = true) := Lib.hid (by rw [HF2.out, q1]; rfl)
                          clear HF2
                          go_wp2_with fail
                          refine (HI2.out _).mono ?_
                          rintro e w' ⟨rfl, rfl⟩
                          go_wp2_with fail
                          go_ret
                          exact ⟨ret_b HF3.out.symm, HB.out⟩
                · have k3b : (k == 3) = false := by rw [beq_eq_false_iff_ne]; exact k3
                  have HF : Hid (fitN ⟨p, k, d⟩ = false) := Lib.hid (by rw [HX2.out, HKO.out, if_neg k1, if_neg k2, if_neg k3])
                  clear HX2 HKO
                  go_wp2_with fail
                  go_ret
                  exact ⟨ret_b HF.out.symm, HB.out⟩
end Go.Proofs.YtcdkojdjcifkpaaDoor
