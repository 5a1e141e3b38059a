/- The contract of tree.fit. -/
import Derived.Test.YtedfgikikjggaaaDoorTreeD
import Derived.Test.YtedfgikikjggaaaDoorTreeB
set_option linter.unusedVariables false
set_option linter.unusedSimpArgs false
namespace Go.Proofs.YtedfgikikjggaaaDoor
open Go.RowKit

theorem contains_iff (l : Bts) : (l.contains 0 = true ↔ 0 ≤ Lib.indexByte l 0) := by
  rcases Int.lt_or_le (Lib.indexByte l 0) 0 with h | h
  · have h1 : Lib.indexByte l 0 = -1 := by have := Lib.indexByte_ge l 0; omega
    have h2 := Lib.indexByte_none h1
    constructor
    · intro hc
      rw [List.contains_iff_mem] at hc
      obtain ⟨i, hi, e⟩ := List.getElem_of_mem hc
      exact absurd (by rw [List.getElem?_eq_getElem hi, e]) (h2 i)
    · intro h3; omega
  · obtain ⟨o, ho⟩ := Int.eq_ofNat_of_zero_le h
    have h1 := (Lib.indexByte_some ho).1
    exact ⟨fun _ => h, fun _ => by rw [List.contains_iff_mem]; exact List.mem_of_getElem? h1⟩
theorem idx0_any (p : Bts) (w : World) : Calls Tryd.prog 38 #[.string ⟨p.toArray⟩, .int .u8 0] w fun e w' => e = .returned (.int .i64 (Lib.indexByte p 0)) ∧ w = w' :=
  (Tryd.strings_IndexByte ⟨p.toArray⟩ 0 w).mono fun _ _ ⟨h1, h2⟩ => ⟨h1, h2.symm⟩
def long1 (n : Nd) : Bool := decide (n.p.length ≤ 1024) && cleanL n.p && !(n.p.contains 0)
theorem fitN_eq (n : Nd) : fitN n = (long1 n && ((splitB 47 n.p).all (fun s => decide (s.length ≤ 255)) && kindOk n)) := by
  unfold fitN long1
  rw [Bool.and_assoc]
set_option maxRecDepth 100000 in
set_option maxHeartbeats 8000000 in
theorem fit_any (n : Nd) (w : World) (hM : MaxAt w) (hp : n.p.length ≤ 1000000) (hd : n.d.length ≤ 1000000) :
    Calls Tryd.prog 19 #[.agg #[.string ⟨n.p.toArray⟩, .int .i64 n.k, .string ⟨n.d.toArray⟩]] w fun e w' => e = .returned (.bool (fitN n)) ∧ Below w.heap.size w w' := by
  have HE := Lib.hid (fitN_eq n)
  have HM := Lib.hid hM
  obtain ⟨p, k, d⟩ := n
  have HC := Lib.hid (fun w => Clean_any p w hp)
  have HI := Lib.hid (fun w => idx0_any p w)
  have HL : Hid (long1 ⟨p, k, d⟩ = (decide (p.length ≤ 1024) && cleanL p && !(p.contains 0))) := Lib.hid rfl
  have HK := Lib.hid (contains_iff p)
  by_cases h1 : 1024 < p.length
  · have hI : (1024 : Int) < (p.length : Int) := by omega
    have HF : Hid (fitN ⟨p, k, d⟩ = false) := Lib.hid (by rw [HE.out, HL.out, decide_eq_false (by omega)]; rfl)
    clear HE HM HC HI HL HK
    go_enter Tryd.func19, Tryd.ntmps19
    go_wp2_with fail
    go_ret
    exact ⟨ret_b HF.out.symm, ext_alloc _ _⟩
  · have hI : (p.length : Int) ≤ 1024 := by omega
    have hl1 : p.length ≤ 1024 := by omega
    cases hcl : cleanL p with
    | false =>
      have HF : Hid (fitN ⟨p, k, d⟩ = false) := Lib.hid (by rw [HE.out, HL.out, hcl]; simp)
      rw [hcl] at HC
      clear HE HM HI HL HK hcl
      go_enter Tryd.func19, Tryd.ntmps19
      go_wp2_with fail
      refine (HC.out _).mono ?_
      rintro e w' ⟨rfl, n2, rfl⟩
      go_wp2_with fail
      go_ret
      exact ⟨ret_b HF.out.symm, below_dr (ext_alloc _ _) _⟩
    | true =>
      rw [hcl] at HC
      cases hz : p.contains 0 with
      | true =>
        have hi := HK.out.1 hz
        have HF : Hid (fitN ⟨p, k, d⟩ = false) := Lib.hid (by rw [HE.out, HL.out, hcl, hz]; simp)
        generalize Lib.indexByte p 0 = z at *
        clear HE HM HL HK hcl hz
        go_enter Tryd.func19, Tryd.ntmps19
        go_wp2_with fail
        refine (HC.out _).mono ?_
        rintro e w' ⟨rfl, n2, rfl⟩
        go_wp2_with fail
        refine (HI.out _).mono ?_
        rintro e w' ⟨rfl, rfl⟩
        go_wp2_with fail
        go_ret
        exact ⟨ret_b HF.out.symm, below_dr (ext_alloc _ _) _⟩
      | false =>
        have hi : Lib.indexByte p 0 < 0 := by
          rcases Int.lt_or_le (Lib.indexByte p 0) 0 with h | h
          · exact h
          · have := HK.out.2 h; rw [hz] at this; cases this
        have HX : Hid (fitN ⟨p, k, d⟩ = ((splitB 47 p).all (fun s => decide (s.length ≤ 255)) && kindOk ⟨p, k, d⟩)) := Lib.hid (by rw [HE.out, HL.out, hcl, hz, decide_eq_true hl1]; rfl)
        have HS := Lib.hid (fun w hM => Split_any p 47 w hp hM)
        have hlen := (splitB_len 47 p).1
        have HS2 : Hid (∀ w, MaxAt w → Calls Tryd.prog 39 #[.string ⟨p.toArray⟩, .string ⟨#[47]⟩] w fun e w' => ∃ v', e = .returned v' ∧ IsStr w' v' (splitB 47 p) ∧ Below w.heap.size w w') := HS
        generalize Lib.indexByte p 0 = z at *
        obtain ⟨ls, hls⟩ : ∃ ls, splitB 47 p = ls := ⟨_, rfl⟩
        rw [hls] at HX HS2 hlen
        clear HE HL HK hcl hz HS hls
        have HI2 := Lib.hid (fun w => idx0_any d w)
        have HK2 := Lib.hid (contains_iff d)
        have hlen1 : ls.length ≤ 1000001 := by omega
        go_enter Tryd.func19, Tryd.ntmps19
        go_wp2_with fail
        refine (HC.out _).mono ?_
        rintro e w' ⟨rfl, n2, rfl⟩
        go_wp2_with fail
        refine (HI.out _).mono ?_
        rintro e w' ⟨rfl, rfl⟩
        go_wp2_with fail
        refine (HS2.out _ (HM.out.below (below_dr (ext_alloc w _) n2))).mono ?_
        rintro e w2 ⟨v', rfl, hs, hb⟩
        have HB := Lib.hid (ext_trans (below_dr (ext_alloc w (.cells #[.string ⟨p.toArray⟩, .int .i64 k, .string ⟨d.toArray⟩] 35)) n2) hb)
        have hbx : Box w2 w.heap.size 35 (ndC ⟨p, k, d⟩) := (((Box.new w 35 (ndC ⟨p, k, d⟩)).drew n2)).below hb (by show w.heap.size < (w.alloc _).heap.size; simp)
        have c0 : w2.cell? ⟨w.heap.size, 0, none⟩ = some (.string ⟨p.toArray⟩) := by rw [hbx.cell]; rfl
        have c1 : w2.cell? ⟨w.heap.size, 1, none⟩ = some (.int .i64 k) := by rw [hbx.cell]; rfl
        have c2 : w2.cell? ⟨w.heap.size, 2, none⟩ = some (.string ⟨d.toArray⟩) := by rw [hbx.cell]; rfl
        obtain ⟨a, cap, rfl, s1, s2, -, s3⟩ := hs
        clear hb hbx HM HC HI HS2
        go_wp2_with fail
        go_loopw [4, 25] (fun t4 ti wr => ∃ i : Nat, i ≤ ls.length ∧ ti = .int .i64 i ∧ Hid ((ls.take i).all (fun s => decide (s.length ≤ 255)) = true) ∧ wr = w2) (fun _ ti _ => ls.length - (intOf ti).toNat)
        case atStart => exact ⟨0, Nat.zero_le _, rfl, Lib.hid rfl, rfl⟩
        case round =>
          obtain ⟨i, hi2, rfl, HA, rfl⟩ := hrel
          by_cases hlt : i < ls.length
          · have hltI : (i : Int) < (ls.length : Int) := by omega
            obtain ⟨b, off, rfl, hc⟩ := s3 (by omega)
            have hci := hc.at i hlt
            rw [strAt_eq] at hci
            have HT : Hid ((ls.take (i + 1)).all (fun s => decide (s.length ≤ 255)) = ((ls.take i).all (fun s => decide (s.length ≤ 255)) && decide ((ls.getD i []).length ≤ 255))) := Lib.hid (by rw [List.take_add_one, List.getElem?_eq_getElem hlt, List.getD_eq_getElem?_getD, List.getElem?_eq_getElem hlt, List.all_append]; simp)
            have HF1 : Hid (255 < (ls.getD i []).length → ls.all (fun s => decide (s.length ≤ 255)) = false) := Lib.hid fun h => by
              rw [List.all_eq_false]
              exact ⟨_, List.getElem_mem hlt, by rw [List.getD_eq_getElem?_getD, List.getElem?_eq_getElem hlt] at h; simp at h; simp; omega⟩
            generalize ls.getD i [] = x at *
            clear hc s3
            by_cases hx : 255 < x.length
            · have hxI : (255 : Int) < (x.length : Int) := by omega
              have HF : Hid (fitN ⟨p, k, d⟩ = false) := Lib.hid (by rw [HX.out, HF1.out hx]; rfl)
              clear HX HF1 HT HA
              go_wp2_with fail
              go_ret
              exact ⟨ret_b HF.out.symm, HB.out⟩
            · have hxI : (x.length : Int) ≤ 255 := by omega
              have HN : Hid ((ls.take (i + 1)).all (fun s => decide (s.length ≤ 255)) = true) := Lib.hid (by rw [HT.out, HA.out, decide_eq_true (by omega)]; rfl)
              clear HX HF1 HT HA hx
              go_wp2_with fail
              exact ⟨⟨i + 1, by omega, by go_num, HN, trivial⟩, by simp [intOf]; omega⟩
          · obtain rfl : i = ls.length := by omega
            have HA2 : Hid (ls.all (fun s => decide (s.length ≤ 255)) = true) := Lib.hid (by have := HA.out; rwa [List.take_length] at this)
            have HX2 : Hid (fitN ⟨p, k, d⟩ = kindOk ⟨p, k, d⟩) := Lib.hid (by rw [HX.out, HA2.out]; rfl)
            have HKO : Hid (kindOk ⟨p, k, d⟩ = (if k = 1 then !(p == [47]) && decide (d.length ≤ 1048576) else if k = 2 then d == [] else if k = 3 then !(p == [47]) && !(d == []) && decide (d.length ≤ 1024) && !(d.contains 0) else false)) := Lib.hid rfl
            clear HX HA2 HA s3 s1 s2
            have hp47 : p = [47] ∨ (p == [47]) = false ∧ (p != [47]) = true := by
              by_cases h : p = [47]
              · exact .inl h
              · exact .inr ⟨by rw [beq_eq_false_iff_ne]; exact h, by simp [h]⟩
            have hd0 : d = [] ∨ (d == []) = false ∧ (d != []) = true ∧ d.isEmpty = false := by
              cases d with
              | nil => exact .inl rfl
              | cons b l => exact .inr ⟨rfl, rfl, rfl⟩
            have hdI : (d.length : Int) ≤ 1048576 := by omega
            by_cases k1 : k = 1
            · subst k1
              rcases hp47 with rfl | ⟨q1, q2⟩
              · have HF : Hid (fitN ⟨[47], 1, d⟩ = false) := Lib.hid (by rw [HX2.out, HKO.out]; rfl)
                clear HX2 HKO
                go_wp2_with fail
                go_ret
                exact ⟨ret_b HF.out.symm, HB.out⟩
              · have HF : Hid (fitN ⟨p, 1, d⟩ = true) := Lib.hid (by rw [HX2.out, HKO.out, if_pos rfl, q1, decide_eq_true (by omega)]; rfl)
                clear HX2 HKO
                go_wp2_with fail
                go_ret
                exact ⟨ret_b HF.out.symm, HB.out⟩
            · have k1b : (k == 1) = false := by rw [beq_eq_false_iff_ne]; exact k1
              by_cases k2 : k = 2
              · subst k2
                have HF : Hid (fitN ⟨p, 2, d⟩ = (d == [])) := Lib.hid (by rw [HX2.out, HKO.out]; rfl)
                clear HX2 HKO
                go_wp2_with fail
                go_ret
                exact ⟨ret_b (by rw [HF.out]; cases d <;> rfl), HB.out⟩
              · have k2b : (k == 2) = false := by rw [beq_eq_false_iff_ne]; exact k2
                by_cases k3 : k = 3
                · subst k3
                  have HF0 : Hid (fitN ⟨p, 3, d⟩ = (!(p == [47]) && !(d == []) && decide (d.length ≤ 1024) && !(d.contains 0))) := Lib.hid (by rw [HX2.out, HKO.out]; rfl)
                  clear HX2 HKO
                  rcases hp47 with rfl | ⟨q1, q2⟩
                  · have HF : Hid (fitN ⟨[47], 3, d⟩ = false) := Lib.hid (by rw [HF0.out]; rfl)
                    clear HF0
                    go_wp2_with fail
                    go_ret
                    exact ⟨ret_b HF.out.symm, HB.out⟩
                  · rcases hd0 with rfl | ⟨r1, r2, r3⟩
                    · have HF : Hid (fitN ⟨p, 3, []⟩ = false) := Lib.hid (by rw [HF0.out]; simp)
                      clear HF0
                      go_wp2_with fail
                      go_ret
                      exact ⟨ret_b HF.out.symm, HB.out⟩
                    · by_cases hdl : 1024 < d.length
                      · have hdlI : (1024 : Int) < (d.length : Int) := by omega
                        have HF : Hid (fitN ⟨p, 3, d⟩ = false) := Lib.hid (by rw [HF0.out, decide_eq_false (by omega)]; simp)
                        clear HF0
                        go_wp2_with fail
                        go_ret
                        exact ⟨ret_b HF.out.symm, HB.out⟩
                      · have hdlI : (d.length : Int) ≤ 1024 := by omega
                        have HF : Hid (fitN ⟨p, 3, d⟩ = decide (Lib.indexByte d 0 < 0)) := Lib.hid (by
                          rw [HF0.out, q1, r1, decide_eq_true (by omega)]
                          cases hc : d.contains 0 with
                          | true => rw [decide_eq_false (by have := HK2.out.1 hc; omega)]; rfl
                          | false =>
                            rw [decide_eq_true]; rfl
                            rcases Int.lt_or_le (Lib.indexByte d 0) 0 with h | h
                            · exact h
                            · have := HK2.out.2 h; rw [hc] at this; cases this)
                        clear HF0 HK2
                        generalize Lib.indexByte d 0 = z2 at *
                        go_wp2_with fail
                        refine (HI2.out _).mono ?_
                        rintro e w' ⟨rfl, rfl⟩
                        go_wp2_with fail
                        go_ret
                        exact ⟨ret_b HF.out.symm, HB.out⟩
                · have k3b : (k == 3) = false := by rw [beq_eq_false_iff_ne]; exact k3
                  have HF : Hid (fitN ⟨p, k, d⟩ = false) := Lib.hid (by rw [HX2.out, HKO.out, if_neg k1, if_neg k2, if_neg k3])
                  clear HX2 HKO
                  go_wp2_with fail
                  go_ret
                  exact ⟨ret_b HF.out.symm, HB.out⟩
end Go.Proofs.YtedfgikikjggaaaDoor
