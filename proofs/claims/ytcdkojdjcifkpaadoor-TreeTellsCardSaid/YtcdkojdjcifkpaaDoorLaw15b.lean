/- The walk of TreeTurns. -/
import Derived.Test.YtcdkojdjcifkpaaDoorLaw15a
import Derived.Test.YtcdkojdjcifkpaaDoorNdA
set_option linter.unusedVariables false
set_option linter.unusedSimpArgs false
namespace Go.Proofs.YtcdkojdjcifkpaaDoor
open Go.RowKit

theorem bigZ_le : ∀ (ns : List Nd) (z : Int), bigZ z ns ≤ z ∧ (0 ≤ bigZ z ns → ∀ n ∈ ns, min (n.p.length : Int) 10000 ≤ z ∧ min (n.d.length : Int) 10000 ≤ z) := by
  intro ns
  induction ns with
  | nil => intro z; exact ⟨Int.le_refl _, fun _ n hn => by cases hn⟩
  | cons n l ih =>
    intro z
    unfold bigZ
    by_cases hz : z < 0
    · rw [if_pos hz]
      exact ⟨Int.le_refl _, fun h => by omega⟩
    · rw [if_neg hz]
      obtain ⟨h1, h2⟩ := ih (z - min (n.p.length : Int) 10000 - min (n.d.length : Int) 10000)
      refine ⟨by omega, fun h m hm => ?_⟩
      rcases List.mem_cons.1 hm with rfl | hm
      · omega
      · have := h2 h m hm; omega
theorem bigN_f {ns : List Nd} (h : bigN 3000 ns = false) : ns.length ≤ 40 ∧ ∀ n ∈ ns, n.p.length ≤ 3000 ∧ n.d.length ≤ 3000 := by
  unfold bigN at h
  rw [Bool.or_eq_false_iff, decide_eq_false_iff_not, decide_eq_false_iff_not] at h
  refine ⟨by omega, fun n hn => ?_⟩
  have := (bigZ_le ns 3000).2 (by omega) n hn
  omega
theorem nodup_len : ∀ (l m : List Bts), l.Nodup → (∀ x ∈ l, x ∈ m) → l.length ≤ m.length
  | [], m, _, _ => Nat.zero_le _
  | a :: l, m, h, hs => by
    rw [List.nodup_cons] at h
    have ha := hs a (List.mem_cons_self ..)
    have h1 := nodup_len l (m.erase a) h.2 (fun x hx => (List.mem_erase_of_ne (by intro e; subst e; exact h.1 hx)).2 (hs x (List.mem_cons_of_mem _ hx)))
    rw [List.length_erase_of_mem ha] at h1
    have := List.length_pos_of_mem ha
    rw [List.length_cons]; omega
theorem whole_len {ns all : List Nd} (h : Whole ns all) : all.length ≤ ns.length + 1 := by
  have h1 : (all.map (·.p)).Nodup := by
    rw [List.nodup_iff_pairwise_ne, List.pairwise_map]
    exact h.1.imp fun {a b} hl e => by rw [e, ltS_irrefl] at hl; cases hl
  have h2 := nodup_len (all.map (·.p)) ((ns ++ [rootN]).map (·.p)) h1 (fun x hx => by
    obtain ⟨n, hn, rfl⟩ := List.mem_map.1 hx
    refine List.mem_map_of_mem (List.mem_append.2 ?_)
    rcases (h.2 n).1 hn with h3 | h3
    · exact .inl h3
    · exact .inr (List.mem_singleton.2 h3))
  simpa using h2
/-- Turned: from a place on, then from the beginning. -/
def turnL (L : Nat) (xs : List Nd) : List Nd := xs.drop L ++ xs.take L
theorem turnL_perm (L : Nat) (xs : List Nd) : (turnL L xs).Perm xs := by
  unfold turnL
  refine List.perm_append_comm.trans ?_
  rw [List.take_append_drop]
theorem turnL_len (L : Nat) (xs : List Nd) : (turnL L xs).length = xs.length := (turnL_perm L xs).length_eq
theorem turnL_at {L i : Nat} {xs : List Nd} (hL : L < xs.length) (hi : i < xs.length) : ndAt (turnL L xs) i = ndAt xs ((i + L) % xs.length) := by
  unfold turnL ndAt
  rw [List.getD_eq_getElem?_getD, List.getD_eq_getElem?_getD]
  congr 1
  by_cases h : i < xs.length - L
  · rw [List.getElem?_append_left (by rw [List.length_drop]; exact h), List.getElem?_drop, Nat.mod_eq_of_lt (by omega), Nat.add_comm]
  · rw [List.getElem?_append_right (by rw [List.length_drop]; omega), List.length_drop, List.getElem?_take, if_pos (by omega)]
    congr 1
    rw [Nat.mod_eq_sub_mod (by omega), Nat.mod_eq_of_lt (by omega)]
    omega
theorem rev_at {xs : List Nd} {k : Nat} (hk : k < xs.length) : ndAt xs.reverse k = ndAt xs (xs.length - 1 - k) := by
  unfold ndAt
  rw [List.getD_eq_getElem?_getD, List.getD_eq_getElem?_getD, List.getElem?_reverse hk]
def turnB (back : Bool) (xs : List Nd) : List Nd := if back = true then xs.reverse else xs
set_option maxRecDepth 100000 in
set_option maxHeartbeats 16000000 in
theorem turns_walk (v : Value) (ns : List Nd) (by' : Int) (back : Bool) (w : World) (hv : IsNds w v ns) (h0 : -9223372036854775808 ≤ by') (h1 : by' ≤ 9223372036854775807) (hM : MaxAt w) :
    Calls Tryd.prog 7 #[v, .int .i64 by', .bool back] w fun e w' => e = .returned (.bool true) ∧ Below w.heap.size w w' := by
  have HM := Lib.hid hM
  have HV := Lib.hid hv
  have HBG := Lib.hid (fun w' (h : IsNds w' v ns) => Big_any v ns 3000 w' h (by decide) (by decide))
  obtain ⟨a, cap, rfl, -⟩ := hv
  cases hbg : bigN 3000 ns with
  | true =>
    rw [hbg] at HBG
    go_enter Tryd.func7, Tryd.ntmps7
    go_wp2_with fail
    refine (HBG.out _ HV.out).mono ?_
    rintro e w1 ⟨rfl, n1, rfl⟩
    go_wp2_with fail
    refine (awake15_any _ (HM.out.drew n1)).mono ?_
    rintro e w2 ⟨rfl, hb⟩
    go_wp2
    go_ret
    exact ⟨rfl, ext_trans (ext_drew w n1) hb⟩
  | false =>
    obtain ⟨h40, hnb⟩ := bigN_f hbg
    rw [hbg] at HBG
    have HNB : Hid (∀ n ∈ ns, n.p.length ≤ 1000000 ∧ n.d.length ≤ 1000000) := Lib.hid (fun n hn => by have := hnb n hn; omega)
    clear hnb hbg
    go_enter Tryd.func7, Tryd.ntmps7
    go_wp2_with fail
    refine (HBG.out _ HV.out).mono ?_
    rintro e w1 ⟨rfl, n1, rfl⟩
    go_wp2_with fail
    go_loopw [7, 8] (fun tm ti wr => ∃ (i : Nat) (ms : List Nd), i ≤ ns.length ∧ ti = .int .i64 i ∧ Hid (ms = (turnL (lowN by' ns.length).toNat (turnB back ns)).take i) ∧ Hid (OwnN wr w.heap.size tm ms) ∧ Hid (Below w.heap.size w wr)) (fun _ ti _ => ns.length - (intOf ti).toNat)
    case atStart => exact ⟨0, [], Nat.zero_le _, rfl, Lib.hid (by simp), Lib.hid (OwnN.nil _ _), Lib.hid (ext_drew w n1)⟩
    case round =>
      obtain ⟨i, ms, hi, rfl, HL, HO, HB⟩ := hrel
      by_cases hlt : i < ns.length
      · have hltI : (i : Int) < (ns.length : Int) := by omega
        have hp : (0 : Int) < ns.length := by omega
        obtain ⟨q1, q2⟩ := lowN_bd by' ns.length hp
        obtain ⟨L, hL⟩ := Int.eq_ofNat_of_zero_le q1
        have HLW := Lib.hid (fun w => low_any by' ns.length w h0 h1 (by omega) (by omega))
        have HLn : Hid ((lowN by' ns.length).toNat = L) := Lib.hid (by rw [hL]; rfl)
        rw [HLn.out] at HL
        rw [hL] at HLW q2
        have hLl : L < ns.length := by omega
        have HNX : Hid ((turnL L (turnB back ns)).take (i + 1) = (turnL L (turnB back ns)).take i ++ [ndAt (turnB back ns) ((i + L) % ns.length)]) := Lib.hid (by
          have hbl : (turnB back ns).length = ns.length := by unfold turnB; split <;> simp
          rw [take_succ' (by rw [turnL_len, hbl]; exact hlt), turnL_at (by rw [hbl]; exact hLl) (by rw [hbl]; exact hlt), hbl])
        obtain ⟨k, hk⟩ : ∃ k, (i + L) % ns.length = k := ⟨_, rfl⟩
        have hkl : k < ns.length := by rw [← hk]; exact Nat.mod_lt _ (by omega)
        have hrem : ((i : Int) + (L : Int)).tmod (ns.length : Int) = (k : Int) := by
          rw [← hk, ← Int.natCast_add]; rfl
        rw [hk] at HNX
        obtain ⟨g, off, e2, hc⟩ : ∃ g off, a = some ⟨g, off, none⟩ ∧ NdsAt w g off ns := by
          obtain ⟨a', cap', e, -, -, -, h3⟩ := HV.out
          injection e with e1 _ e3
          subst e1
          exact h3 (by omega)
        subst e2
        have hcw := hc.below HB.out
        have hne : ns.length ≠ 0 := by omega
        have hml : ms.length ≤ 10000000 := by
          rw [HL.out, List.length_take]; omega
        have hsz := HB.out.size
        cases back with
        | false =>
          obtain ⟨c0, c1, c2⟩ := hcw k hkl
          have HMS : Hid (ms ++ [ndAt ns k] = (turnL L (turnB false ns)).take (i + 1)) := Lib.hid (by rw [HNX.out, HL.out]; rfl)
          have hsl := HO.out.slice
          clear HNX hcw hc HL
          obtain ⟨nd, hnd⟩ : ∃ nd, ndAt ns k = nd := ⟨_, rfl⟩
          rw [hnd] at c0 c1 c2 HMS
          clear hnd hk
          go_wp2_with fail
          refine (HLW.out _).mono ?_
          rintro e w2 ⟨rfl, rfl⟩
          go_wp2_with (at_builtin; refine wpList_appN _ rfl _ _ rfl w.heap.size _ ms rfl HO.out nd _ rfl (by simp) hml hsz ?_)
          intro v' w3 hown3 hgr3
          have HO3 := Lib.hid hown3
          have HB3 : Hid (Below w.heap.size w w3) := Lib.hid (HB.out.grown hgr3 hsz (fun k hk => (HO.out.row k hk).1))
          clear hown3 hgr3
          go_wp2_with fail
          exact ⟨⟨i + 1, _, by omega, by go_num, Lib.hid (by rw [HLn.out]; exact HMS.out), HO3, HB3⟩, by simp [intOf]; omega⟩
        | true =>
          obtain ⟨c0, c1, c2⟩ := hcw (ns.length - 1 - k) (by omega)
          have HMS : Hid (ms ++ [ndAt ns (ns.length - 1 - k)] = (turnL L (turnB true ns)).take (i + 1)) := Lib.hid (by
            rw [HNX.out, HL.out, ← rev_at hkl]; rfl)
          have hsub : (ns.length : Int) - 1 - (k : Int) = ((ns.length - 1 - k : Nat) : Int) := by omega
          have hj : ns.length - 1 - k < ns.length := by omega
          generalize ns.length - 1 - k = j at *
          have hjI : (j : Int) < (ns.length : Int) := by omega
          clear HNX hcw hc HL
          obtain ⟨nd, hnd⟩ : ∃ nd, ndAt ns j = nd := ⟨_, rfl⟩
          rw [hnd] at c0 c1 c2 HMS
          clear hnd hk
          go_wp2_with fail
          refine (HLW.out _).mono ?_
          rintro e w2 ⟨rfl, rfl⟩
          go_wp2_with (at_builtin; refine wpList_appN _ rfl _ _ rfl w.heap.size _ ms rfl HO.out nd _ rfl (by simp) hml hsz ?_)
          intro v' w3 hown3 hgr3
          have HO3 := Lib.hid hown3
          have HB3 : Hid (Below w.heap.size w w3) := Lib.hid (HB.out.grown hgr3 hsz (fun k hk => (HO.out.row k hk).1))
          clear hown3 hgr3
          go_wp2_with fail
          exact ⟨⟨i + 1, _, by omega, by go_num, Lib.hid (by rw [HLn.out]; exact HMS.out), HO3, HB3⟩, by simp [intOf]; omega⟩
      · obtain rfl : i = ns.length := by omega
        have hbl : (turnB back ns).length = ns.length := by unfold turnB; split <;> simp
        have hpm : ms.Perm ns := by
          rw [HL.out, List.take_of_length_le (by rw [turnL_len, hbl]; exact Nat.le_refl _)]
          refine (turnL_perm _ _).trans ?_
          unfold turnB; split
          · exact List.reverse_perm ns
          · exact List.Perm.refl _
        have HPM := Lib.hid hpm
        have hml : ms.length ≤ 4096 := by have := hpm.length_eq; omega
        have HNB2 : Hid (∀ n ∈ ms, n.p.length ≤ 1000000 ∧ n.d.length ≤ 1000000) := Lib.hid (fun n hn => HNB.out n (hpm.mem_iff.1 hn))
        have HV2 := Lib.hid (HV.out.below HB.out)
        have HO2 := Lib.hid HO.out
        have HM2 := Lib.hid (HM.out.below HB.out)
        clear hpm hbl HL
        go_wp2_with fail
        refine (New_any _ ns _ HV2.out HM2.out HNB.out (by omega)).mono ?_
        rintro e w3 ⟨hr3, hb3⟩
        by_cases hg : Good ns
        · obtain ⟨-, t, all, rfl, ht, hwh, hle⟩ := hr3.resolve_left (fun h => h.1 hg)
          have HT := Lib.hid ht
          have HWH := Lib.hid hwh
          have HO3 := HO2.out.below hb3
          have HBW3 : Hid (Below w.heap.size w w3) := Lib.hid (HB.out.trans (hb3.mono HB.out.size))
          have HM3 := HM2.out.below hb3
          have HR2 := Lib.hid (New_any _ ms w3 HO3.isNds HM3 HNB2.out hml)
          have hal : all.length ≤ 1000000 := by have := whole_len HWH.out; omega
          clear ht hwh hle hb3 hr3
          go_wp2_with fail
          refine HR2.out.mono ?_
          rintro e w4 ⟨hr4, hb4⟩
          obtain ⟨-, t2, all2, rfl, ht2, hwh2, hle2⟩ := hr4.resolve_left (fun h => h.1 (hg.perm HPM.out))
          obtain rfl := hwh2.eq (HWH.out.perm HPM.out)
          have HT4 := Lib.hid (HT.out.below hb4)
          have HT24 := Lib.hid ht2
          have HBW4 : Hid (Below w.heap.size w w4) := Lib.hid (HBW3.out.trans (hb4.mono HBW3.out.size))
          clear ht2 hwh2 hb4 hr4 hle2
          go_wp2_with fail
          refine (All_any t all2 0 w4 HT4.out hal).mono ?_
          rintro e w5 ⟨v5, rfl, hn5, hb5⟩
          obtain ⟨a5, c5, rfl, h5⟩ := hn5
          have HN5 : Hid (IsNds w5 (.slice a5 all2.length c5) all2) := Lib.hid ⟨a5, c5, rfl, h5⟩
          have HT25 := Lib.hid (HT24.out.below hb5)
          have HBW5 : Hid (Below w.heap.size w w5) := Lib.hid (HBW4.out.trans (hb5.mono HBW4.out.size))
          clear hb5 h5
          go_wp2_with fail
          refine (All_any t2 all2 0 w5 HT25.out hal).mono ?_
          rintro e w6 ⟨v6, rfl, hn6, hb6⟩
          obtain ⟨a6, c6, rfl, h6⟩ := hn6
          have HN6 : Hid (IsNds w6 (.slice a6 all2.length c6) all2) := Lib.hid ⟨a6, c6, rfl, h6⟩
          have HN56 := Lib.hid (HN5.out.below hb6)
          have HBW6 : Hid (Below w.heap.size w w6) := Lib.hid (HBW5.out.trans (hb6.mono HBW5.out.size))
          clear hb6 h6
          go_wp2_with fail
          refine (Nodes_any _ _ all2 all2 w6 HN56.out HN6.out hal hal).mono ?_
          rintro e w7 ⟨⟨b, rfl, hb⟩, n7, rfl⟩
          obtain rfl : b = true := hb.2 rfl
          go_wp2_with fail
          refine (awake15_any _ ((HM.out.below HBW6.out).drew n7)).mono ?_
          rintro e w8 ⟨rfl, hb8⟩
          go_wp2_with fail
          go_ret
          exact ⟨rfl, (below_dr HBW6.out n7).trans (hb8.mono HBW6.out.size)⟩
        · obtain ⟨-, rfl⟩ := hr3.resolve_right (fun h => hg h.1)
          have HO3 := HO2.out.below hb3
          have HBW3 : Hid (Below w.heap.size w w3) := Lib.hid (HB.out.trans (hb3.mono HB.out.size))
          have HM3 := HM2.out.below hb3
          have HR2 := Lib.hid (New_any _ ms w3 HO3.isNds HM3 HNB2.out hml)
          clear hb3 hr3
          go_wp2_with fail
          refine HR2.out.mono ?_
          rintro e w4 ⟨hr4, hb4⟩
          obtain ⟨-, rfl⟩ := hr4.resolve_right (fun h => hg (h.1.perm HPM.out.symm))
          have HBW4 : Hid (Below w.heap.size w w4) := Lib.hid (HBW3.out.trans (hb4.mono HBW3.out.size))
          clear hb4 hr4
          go_wp2_with fail
          refine (awake15_any _ (HM.out.below HBW4.out)).mono ?_
          rintro e w8 ⟨rfl, hb8⟩
          go_wp2_with fail
          go_ret
          exact ⟨rfl, HBW4.out.trans (hb8.mono HBW4.out.size)⟩
end Go.Proofs.YtcdkojdjcifkpaaDoor
