/- The contract of ref15's Names. -/
import Derived.Test.YtcdkojdjcifkpaaDoorRfA
import Derived.Test.YtcdkojdjcifkpaaDoorRfC
import Derived.Test.YtcdkojdjcifkpaaDoorTreeP
import Derived.Test.YtcdkojdjcifkpaaDoorStrs
set_option linter.unusedVariables false
set_option linter.unusedSimpArgs false
namespace Go.Proofs.YtcdkojdjcifkpaaDoor
open Go.RowKit

/-- One element stored. -/
theorem Own.putS {w : World} {B : Nat} {e : TypeId} {xs : List Value} {g n cap : Nat} (h : Own w B e (.slice (some ⟨g, 0, none⟩) n cap) xs) (j : Nat) (u : Value) : Own (w.setCell ⟨g, j, none⟩ u) B e (.slice (some ⟨g, 0, none⟩) n cap) (xs.set j u) := by
  rcases h.2 with ⟨hv, hn⟩ | ⟨g2, cap2, cur, hv, hg, hb, hnc, hcm, hcs, ht⟩
  · cases hv
  · have hv' := hv
    injection hv with h1 h2 h3
    injection h1 with h1
    injection h1 with h1 _ _
    subst h1
    have b1 := heap_setCell_same w g j cur e u hb
    refine ⟨by simp, .inr ⟨g, cap2, _, by rw [List.length_set]; exact hv', hg, b1, by rw [List.length_set]; exact hnc, hcm, by simpa using hcs, ?_⟩⟩
    rw [← ht]
    simp only [Array.toList_setIfInBounds, List.length_set]
    rw [List.take_set]
    congr 1
    simp [ht]
theorem Own.addrS {w : World} {B : Nat} {e : TypeId} {v : Value} {xs : List Value} (h : Own w B e v xs) (h0 : xs ≠ []) : ∃ g cap, v = .slice (some ⟨g, 0, none⟩) xs.length cap ∧ B ≤ g ∧ g < w.heap.size ∧ xs.length ≤ cap ∧ cap ≤ maxLen ∧ (∀ j u, xs[j]? = some u → w.cell? ⟨g, j, none⟩ = some u) ∧ ∀ j, w.frozen? ⟨g, j, none⟩ = false := by
  have hh := h
  rcases h.2 with ⟨hv, hn⟩ | ⟨g2, cap2, cur, hv, hg, hb, hnc, hcm, hcs, ht⟩
  · exact absurd (List.eq_nil_of_length_eq_zero hn) h0
  · subst hv
    exact ⟨g2, cap2, rfl, hg, (Array.getElem?_eq_some_iff.1 hb).1, hnc, hcm, fun j u hj => by
      have := World.ownsRow.cells hh (g := g2) rfl j u hj
      rwa [addr_add] at this, fun j => by simp [World.frozen?, hb]⟩
theorem partN_ne {p : Bts} (hc : cleanL p = true) (hne : p ≠ [47]) : partN p ≠ [] := by
  intro h0
  have hj := join_part hc hne
  obtain ⟨r, rfl, hr⟩ := (clean_cases hc).resolve_left hne
  rw [h0] at hj
  unfold joinL at hj
  split at hj
  · exact hne hj.symm
  · generalize partF (47 :: r) = f at *
    cases f with
    | nil => simp at hj; subst hj; exact hne rfl
    | cons b f =>
      injection hj with _ hj
      have h5 : splitB 47 r = splitB 47 f ++ [[]] := by rw [← hj]; exact splitB_snoc 47 47 rfl f
      rw [h5, List.all_append] at hr
      simp [okPart] at hr
theorem take_succN {ns : List Nd} {i : Nat} (h : i < ns.length) : ns.take (i + 1) = ns.take i ++ [ndAt ns i] := by
  rw [List.take_add_one, ndAt_get h]; rfl
/-- The next name is behind all names that there are. -/
theorem name_last {all : List Nd} (hr : Rising all) (hc : ∀ n ∈ all, cleanL n.p = true) {i : Nat} (hi : i < all.length) {f : Bts} (h1 : (ndAt all i).p ≠ [47]) (h2 : partF (ndAt all i).p = f) : namesIn (all.take (i + 1)) f = namesIn (all.take i) f ++ [partN (ndAt all i).p] ∧ ∀ a ∈ namesIn (all.take i) f, ltS a (partN (ndAt all i).p) = true := by
  have e : namesIn (all.take (i + 1)) f = namesIn (all.take i) f ++ [partN (ndAt all i).p] := by
    rw [take_succN hi, namesIn_snoc]
    congr 1
    rw [if_pos (by simp [h1, h2])]
  refine ⟨e, fun a ha => ?_⟩
  have hp := names_rise (all := all.take (i + 1)) (hr.take) (fun n hn => hc n (List.mem_of_mem_take hn)) f
  rw [e, List.pairwise_append] at hp
  exact hp.2.2 a ha _ (by simp)
theorem name_skip {all : List Nd} {i : Nat} (hi : i < all.length) {f : Bts} (h : (ndAt all i).p = [47] ∨ partF (ndAt all i).p ≠ f) : namesIn (all.take (i + 1)) f = namesIn (all.take i) f := by
  rw [take_succN hi, namesIn_snoc, if_neg, List.append_nil]
  rcases h with h | h <;> simp [h]
theorem namesIn_le (l : List Nd) (f : Bts) : (namesIn l f).length ≤ l.length := by
  unfold namesIn
  rw [List.length_map]; exact List.length_filter_le _ _
set_option maxRecDepth 100000 in
set_option maxHeartbeats 16000000 in
theorem rNames_any (t : Nat) (sl x : Value) (all : List Nd) (p : Bts) (w : World) (hb : Box w t 35 [sl, x]) (hs : IsNds w sl all) (hr : Rising all) (hc : ∀ n ∈ all, cleanL n.p = true) (hlen : ∀ n ∈ all, n.p.length ≤ 1000000) (hp : p.length ≤ 1000000) (hl : all.length ≤ 1000000) :
    Calls Tryd.prog 17 #[.pointer (some ⟨t, 0, none⟩), .string ⟨p.toArray⟩] w fun e w' => ∃ v, e = .returned (.tuple #[v, .bool (isDir all p)]) ∧ IsStr w' v (namesD all p) ∧ Below w.heap.size w w' := by
  have HLK := Lib.hid (rLook_any t sl x all p w hb hs hr hp hl)
  have HRI := Lib.hid hr
  have HCL := Lib.hid hc
  have HLE := Lib.hid hlen
  have HSL := Lib.hid hs
  obtain ⟨sa, sc, rfl, a1, a2, -, a3⟩ := hs
  unfold maxLen at a2
  have k0 : w.cell? ⟨t, 0, none⟩ = some (.slice sa all.length sc) := by rw [hb.cell]; rfl
  have HNIL : Hid (∀ W, isDir all p = false → IsStr W (.slice none 0 0) (namesD all p)) := Lib.hid (fun W h => by rw [namesD_f h]; exact (Own.nil W 0 9).isStr (ls := []))
  clear hb hr hc hlen
  cases hlk : lookN all p with
  | none =>
    have HD : Hid (isDir all p = false) := Lib.hid (by unfold isDir; rw [hlk])
    rw [hlk] at HLK
    simp only [Option.getD_none, Option.isSome_none, ndV, nd0] at HLK
    clear hlk
    go_enter Tryd.func17, Tryd.ntmps17
    go_wp2_with fail
    refine HLK.out.mono ?_
    rintro e w1 ⟨rfl, hb1⟩
    have HB1 := Lib.hid hb1
    clear hb1
    go_wp2_with fail
    go_ret2
    exact ⟨_, by rw [HD.out]; rfl, HNIL.out _ HD.out, ext_trans HB1.out (ext_alloc _ _)⟩
  | some nd =>
    by_cases hk : nd.k = 2
    · have HD : Hid (isDir all p = true) := Lib.hid (by unfold isDir; rw [hlk]; simp [hk])
      rw [hlk] at HLK
      obtain ⟨q, kd, d⟩ := nd
      simp only at hk
      subst hk
      simp only [Option.getD_some, Option.isSome_some, ndV] at HLK
      clear hlk HNIL
      go_enter Tryd.func17, Tryd.ntmps17
      go_wp2_with fail
      refine HLK.out.mono ?_
      rintro e w1 ⟨rfl, hb1⟩
      have HB1 := Lib.hid (ext_trans hb1 (ext_alloc w1 (.cells #[.string ⟨q.toArray⟩, .int .i64 2, .string ⟨d.toArray⟩] 37)))
      clear hb1
      go_wp2_with fail
      go_loopw [8, 9] (fun tv ti wr => ∃ i : Nat, i ≤ all.length ∧ ti = .int .i64 i ∧ Hid (Own wr w.heap.size 9 tv ((namesIn (all.take i) p).map strV)) ∧ Hid (Below w.heap.size w wr)) (fun _ ti _ => all.length - (intOf ti).toNat)
      case atStart => exact ⟨0, Nat.zero_le _, rfl, Lib.hid (Own.nil _ _ _), HB1⟩
      case round =>
        obtain ⟨i, hi, rfl, HO, HB⟩ := hrel
        have j0 : wr.cell? ⟨t, 0, none⟩ = some (.slice sa all.length sc) := by
          rw [HB.out.cell (World.block_lt_of_cell? w _ k0)]; exact k0
        by_cases hlt : i < all.length
        · have hltI : (i : Int) < (all.length : Int) := by omega
          obtain ⟨b, off, rfl, hcc⟩ := a3 (by omega)
          obtain ⟨c0, -, -⟩ := (hcc.below HB.out) i hlt
          have hcl := HCL.out _ (ndAt_mem hlt)
          have hln := HLE.out _ (ndAt_mem hlt)
          obtain ⟨rr, hrr⟩ : ∃ rr, (ndAt all i).p = 47 :: rr := by
            rcases clean_cases hcl with h | ⟨r, h, -⟩
            · exact ⟨[], h⟩
            · exact ⟨r, h⟩
          have HCT := Lib.hid (fun w => rCut_any rr w (by rw [← hrr]; exact hln))
          rw [← hrr] at HCT
          have HSK : Hid ((ndAt all i).p = [47] ∨ partF (ndAt all i).p ≠ p → namesIn (all.take (i + 1)) p = namesIn (all.take i) p) := Lib.hid (name_skip hlt)
          have HLA : Hid ((ndAt all i).p ≠ [47] → partF (ndAt all i).p = p → namesIn (all.take (i + 1)) p = namesIn (all.take i) p ++ [partN (ndAt all i).p] ∧ ∀ a ∈ namesIn (all.take i) p, ltS a (partN (ndAt all i).p) = true) := Lib.hid (fun h1 h2 => name_last HRI.out HCL.out hlt h1 h2)
          have HNE : Hid ((ndAt all i).p ≠ [47] → partN (ndAt all i).p ≠ []) := Lib.hid (partN_ne hcl)
          clear hcc a3 hrr hcl
          generalize (ndAt all i).p = pp at *
          by_cases h47 : pp = [47]
          · subst h47
            have HE := Lib.hid (HSK.out (.inl rfl))
            rw [show cutF [47] = [47] from rfl, show cutN [47] = [] from rfl] at HCT
            clear HSK HLA HNE
            have hpc : (([47] : Bts) == p) = true ∨ (([47] : Bts) == p) = false := by cases (([47] : Bts) == p) <;> simp
            rcases hpc with hpc | hpc
            all_goals
              go_wp2_with fail
              refine (HCT.out _).mono ?_
              rintro e w3 ⟨rfl, nn, rfl⟩
              go_wp2_with fail
              exact ⟨⟨i + 1, by omega, by go_num, Lib.hid (by rw [HE.out]; exact HO.out.drew nn), Lib.hid (below_dr HB.out nn)⟩, by simp [intOf]; omega⟩
          · have hcF : cutF pp = partF pp := if_neg h47
            have hcN : cutN pp = partN pp := if_neg h47
            rw [hcF, hcN] at HCT
            have hne := HNE.out h47
            by_cases hF : partF pp = p
            · obtain ⟨he, hlast⟩ := HLA.out h47 hF
              have HE := Lib.hid he
              have hLl := namesIn_le (all.take i) p
              rw [List.length_take] at hLl
              obtain ⟨L, hL⟩ : ∃ L, namesIn (all.take i) p = L := ⟨_, rfl⟩
              rw [hL] at HE HO hlast hLl
              have e1 : (partF pp == p) = true := by rw [hF]; exact beq_self_eq_true _
              have e2 : (partN pp != []) = true := by simpa using hne
              have e3 : (partN pp).isEmpty = false := by cases h : partN pp with | nil => exact absurd h hne | cons _ _ => rfl
              obtain ⟨a8, c8, rfl, -⟩ := HO.out.isStr
              have hc1 : ∀ u ∈ (#[Value.string ⟨#[]⟩] : Array Value).toList, u.oneCell' = true := by intro u hu; simp at hu; subst hu; rfl
              have hc2 : ((L.map strV).length + 1) * 16 ≤ 140737488355328 := by rw [List.length_map]; omega
              have hc3 : (L.map strV).length + 1 ≤ 9223372036854775807 := by rw [List.length_map]; omega
              have hsz := HB.out.size
              generalize partN pp = nm at *
              clear HSK HLA HNE h47 hF he hne hcF hcN hL
              go_wp2_with fail
              refine (HCT.out _).mono ?_
              rintro e w3 ⟨rfl, nn, rfl⟩
              go_wp2_with (at_builtin; refine wpList_appL _ rfl _ _ 40 rfl w.heap.size 9 (.string .empty) 16 ok16 _ _ rfl (HO.out.drew nn) #[.string ⟨#[]⟩] 1 1 rfl rfl hc1 hc2 hc3 hsz ?_)
              intro v4 w4 hown4 hgr4
              have HB4 : Hid (Below w.heap.size w w4) := Lib.hid ((below_dr HB.out nn).grown hgr4 HB.out.size (fun j hj => (HO.out.row j hj).1))
              obtain ⟨g, cap, rfl, hg0, hg1, hg2, hg3, hcell, hfr⟩ := hown4.addrS (by simp)
              have HO4 := Lib.hid hown4
              unfold maxLen at hg3
              have hlen4 : (L.map strV ++ (#[Value.string ⟨#[]⟩] : Array Value).toList).length = L.length + 1 := by simp
              rw [hlen4] at hg2 HO4 ⊢
              have q1 : w4.cell? ⟨g, L.length, none⟩ = some (.string ⟨#[]⟩) := hcell _ _ (by rw [List.getElem?_append_right (by simp)]; simp)
              have q2 : w4.frozen? ⟨g, L.length, none⟩ = false := hfr _
              have hLI : (L.length : Int) < (L.length : Int) + 1 := by omega
              have hLI2 : (L.length : Int) < ((L.length + 1 : Nat) : Int) := by omega
              have HFIN : Hid (Own (w4.setCell ⟨g, L.length, none⟩ (.string ⟨nm.toArray⟩)) w.heap.size 9 (.slice (some ⟨g, 0, none⟩) (L.length + 1) cap) ((namesIn (all.take (i + 1)) p).map strV) ∧ Below w.heap.size w (w4.setCell ⟨g, L.length, none⟩ (.string ⟨nm.toArray⟩))) := Lib.hid ⟨by
                have h5 := HO4.out.putS L.length (strV nm)
                rw [HE.out]
                have h6 : (L.map strV ++ (#[Value.string ⟨#[]⟩] : Array Value).toList).set L.length (strV nm) = (L ++ [nm]).map strV := by
                  have e : L.length = (L.map strV).length := (List.length_map ..).symm
                  conv => lhs; rw [e]
                  rw [List.map_append, List.set_append_right _ _ (Nat.le_refl _), Nat.sub_self]; rfl
                rw [h6] at h5
                exact h5, HB4.out.setCell (p := ⟨g, L.length, none⟩) hg0 _⟩
              by_cases hL0 : L = []
              · subst hL0
                simp only [List.length_nil] at *
                clear hcell hfr hown4 hgr4 hlast HO HO4
                go_wp2_with fail
                go_loopw [12] (fun t12 wx => t12 = .int .i64 0 ∧ wx = w4) (fun _ _ => 0)
                case atStart => exact ⟨rfl, rfl⟩
                case round =>
                  obtain ⟨rfl, rfl⟩ := hrel
                  go_wp2_with fail
                  exact ⟨⟨i + 1, by omega, by go_num, Lib.hid HFIN.out.1, Lib.hid HFIN.out.2⟩, by simp [intOf]; omega⟩
              · obtain ⟨m, hm⟩ : ∃ m, L.length = m + 1 := ⟨L.length - 1, by cases L with | nil => exact absurd rfl hL0 | cons _ _ => simp⟩
                have hla : L[m]? = some (L.getD m []) := by rw [List.getD_eq_getElem?_getD, List.getElem?_eq_getElem (by omega)]; rfl
                have hlt2 : Op.bytesLess (L.getD m []) nm = true := hlast _ (List.mem_of_getElem? hla)
                have q3 : w4.cell? ⟨g, m, none⟩ = some (.string ⟨(L.getD m []).toArray⟩) := hcell _ _ (by rw [List.getElem?_append_left (by simp; omega), List.getElem?_map, hla]; rfl)
                generalize L.getD m [] = la at *
                rw [hm] at q1 q2 hLI hLI2 HFIN
                have hm2 : (0 : Int) < (m : Int) + 1 := by omega
                have hm3 : (m : Int) < (m : Int) + 1 + 1 := by omega
                have hm4 : (m : Int) + 1 < (m : Int) + 1 + 1 := by omega
                clear hcell hfr hown4 hgr4 hlast HO HO4 hla hL0
                go_wp2_with fail
                go_loopw [12] (fun t12 wx => t12 = .int .i64 ((m : Int) + 1) ∧ wx = w4) (fun _ _ => 0)
                case atStart => exact ⟨rfl, rfl⟩
                case round =>
                  obtain ⟨rfl, rfl⟩ := hrel
                  go_wp2_with fail
                  exact ⟨⟨i + 1, by omega, by go_num, Lib.hid HFIN.out.1, Lib.hid HFIN.out.2⟩, by simp [intOf]; omega⟩
            · have HE := Lib.hid (HSK.out (.inr hF))
              have e1 : (partF pp == p) = false := by rw [beq_eq_false_iff_ne]; exact hF
              clear HSK HLA HNE
              go_wp2_with fail
              refine (HCT.out _).mono ?_
              rintro e w3 ⟨rfl, nn, rfl⟩
              go_wp2_with fail
              exact ⟨⟨i + 1, by omega, by go_num, Lib.hid (by rw [HE.out]; exact HO.out.drew nn), Lib.hid (below_dr HB.out nn)⟩, by simp [intOf]; omega⟩
        · have hltI : ¬ (i : Int) < (all.length : Int) := by omega
          obtain rfl : i = all.length := by omega
          have HST : Hid (IsStr wr u8 (namesD all p)) := Lib.hid (by
            have := HO.out.isStr
            rw [List.take_length] at this
            rw [namesD_t HD.out]; exact this)
          go_wp2_with fail
          go_ret2
          exact ⟨_, by rw [HD.out]; rfl, HST.out, HB.out⟩
    · have HD : Hid (isDir all p = false) := Lib.hid (by unfold isDir; rw [hlk]; simp [hk])
      rw [hlk] at HLK
      obtain ⟨q, kd, d⟩ := nd
      simp only [Option.getD_some, Option.isSome_some, ndV] at HLK hk
      have hkb : (kd != 2) = true := by simpa using hk
      clear hlk
      go_enter Tryd.func17, Tryd.ntmps17
      go_wp2_with fail
      refine HLK.out.mono ?_
      rintro e w1 ⟨rfl, hb1⟩
      have HB1 := Lib.hid hb1
      clear hb1
      go_wp2_with fail
      go_ret2
      exact ⟨_, by rw [HD.out]; rfl, HNIL.out _ HD.out, ext_trans HB1.out (ext_alloc _ _)⟩
end Go.Proofs.YtcdkojdjcifkpaaDoor
