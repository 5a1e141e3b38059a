/- Contracts of ref15.nul, ref14.Clean, ref15.Cut. -/
import Derived.Test.YtcdkojdjcifkpaaDoorTreeA
import Derived.Test.YtcdkojdjcifkpaaDoorTreeD
import Derived.Test.YtcdkojdjcifkpaaDoorTreeE
import Derived.Test.YtcdkojdjcifkpaaDoorParts
set_option linter.unusedVariables false
set_option linter.unusedSimpArgs false
namespace Go.Proofs.YtcdkojdjcifkpaaDoor
open Go.RowKit

theorem byt_contains {p : Bts} {i : Nat} (hi : i < p.length) (h : byt p i = 0) : p.contains 0 = true := by
  rw [List.contains_iff_mem]
  have : p[i]? = some 0 := by
    rw [List.getElem?_eq_getElem hi]
    congr 1
    apply UInt8.toNat_inj.1
    unfold byt at h
    rw [List.getD_eq_getElem?_getD, List.getElem?_eq_getElem hi] at h
    show p[i].toNat = 0
    simp at h
    simp [h]
  exact List.mem_of_getElem? this
theorem byt_not_contains {p : Bts} (h : ∀ i, i < p.length → byt p i ≠ 0) : p.contains 0 = false := by
  rw [Bool.eq_false_iff]
  intro hc
  rw [List.contains_iff_mem] at hc
  obtain ⟨i, hi, e⟩ := List.getElem_of_mem hc
  apply h i hi
  unfold byt
  rw [List.getD_eq_getElem?_getD, List.getElem?_eq_getElem hi, e]
  rfl
set_option maxHeartbeats 2000000 in
theorem nul_any (p : Bts) (w : World) (hm : p.length ≤ 1000000) :
    Calls Tryd.prog 42 #[.string ⟨p.toArray⟩] w fun e w' => e = .returned (.bool (p.contains 0)) ∧ w = w' := by
  go_enter Tryd.func42, Tryd.ntmps42
  go_wp2_with fail
  go_loopw [3] (fun ti wr => ∃ i : Nat, i ≤ p.length ∧ ti = .int .i64 i ∧ Hid (∀ j, j < i → byt p j ≠ 0) ∧ wr = w) (fun ti _ => p.length - (intOf ti).toNat)
  case atStart => exact ⟨0, Nat.zero_le _, rfl, Lib.hid (fun j hj => by omega), rfl⟩
  case round =>
    obtain ⟨i, hi, rfl, HI, rfl⟩ := hrel
    by_cases hlt : i < p.length
    · have hltI : (i : Int) < (p.length : Int) := by omega
      by_cases hz : byt p i = 0
      · have HF := Lib.hid (byt_contains hlt hz)
        have hb : (byt p i == 0) = true := by rw [hz]; rfl
        clear hz
        go_wp2_with fail
        go_ret
        exact ⟨ret_b HF.out.symm, rfl⟩
      · have hb : (byt p i == 0) = false := by rw [beq_eq_false_iff_ne]; exact hz
        have HN : Hid (∀ j, j < i + 1 → byt p j ≠ 0) := Lib.hid (fun j hj => by
          rcases Nat.lt_or_ge j i with h | h
          · exact HI.out j h
          · obtain rfl : j = i := by omega
            exact hz)
        clear HI hz
        go_wp2_with fail
        exact ⟨⟨i + 1, by omega, by go_num, HN, trivial⟩, by simp [intOf]; omega⟩
    · obtain rfl : i = p.length := by omega
      have HF := Lib.hid (byt_not_contains HI.out)
      clear HI
      go_wp2_with fail
      go_ret
      exact ⟨ret_b HF.out.symm, rfl⟩
set_option maxRecDepth 100000 in
set_option maxHeartbeats 4000000 in
theorem rClean_any (p : Bts) (w : World) (hm : p.length ≤ 1000000) :
    Calls Tryd.prog 41 #[.string ⟨p.toArray⟩] w fun e w' => e = .returned (.bool (cleanL p)) ∧ Below w.heap.size w w' := by
  have HD : Hid (cleanL p = (p == [47] || (p.head? == some 47 && (splitB 47 (p.drop 1)).all okPart))) := Lib.hid rfl
  by_cases h1 : p = [47]
  · have HT : Hid (cleanL p = true) := Lib.hid (by rw [HD.out, h1]; rfl)
    subst h1
    clear HD
    go_enter Tryd.func41, Tryd.ntmps41
    go_wp2_with fail
    go_ret
    exact ⟨ret_b HT.out.symm, Below.refl _ _⟩
  · have e1 : (p == [47]) = false := by rw [beq_eq_false_iff_ne]; exact h1
    cases p with
    | nil =>
      have HT : Hid (cleanL [] = false) := Lib.hid rfl
      clear HD
      go_enter Tryd.func41, Tryd.ntmps41
      go_wp2_with fail
      go_ret
      exact ⟨ret_b HT.out.symm, Below.refl _ _⟩
    | cons b r =>
      by_cases hb : b = 47
      · subst hb
        have HT : Hid (cleanL (47 :: r) = (splitB 47 r).all okPart) := Lib.hid (by rw [HD.out, e1]; rfl)
        have hrl : r.length ≤ 1000000 := by simp at hm; omega
        have HP := Lib.hid (fun w => Parts_any r 47 w hrl (by decide) (by decide))
        have hb0 : (byt (47 :: r) 0 == 47) = true := rfl
        have hb1 : (byt (47 :: r) 0 != 47) = false := rfl
        obtain ⟨ls, hls⟩ : ∃ ls, splitB 47 r = ls := ⟨_, rfl⟩
        have hlen := (splitB_len 47 r).1
        rw [hls] at HT HP hlen
        have hl1 : (1 : Int) ≤ ((r.length : Int) + 1) := by omega
        clear HD hls
        go_enter Tryd.func41, Tryd.ntmps41
        go_wp2_with fail
        refine (HP.out _).mono ?_
        rintro e w2 ⟨v', rfl, ho, hb⟩
        have HB := Lib.hid hb
        obtain ⟨a, cap, rfl, s1, s2, -, s3⟩ := ho.isStr
        clear ho hb
        go_wp2_with fail
        go_loopw [4] (fun ti wr => ∃ i : Nat, i ≤ ls.length ∧ ti = .int .i64 i ∧ Hid ((ls.take i).all okPart = true) ∧ wr = w2) (fun ti _ => ls.length - (intOf ti).toNat)
        case atStart => exact ⟨0, Nat.zero_le _, rfl, Lib.hid rfl, rfl⟩
        case round =>
          obtain ⟨i, hi, rfl, HA, rfl⟩ := hrel
          by_cases hlt : i < ls.length
          · have hltI : (i : Int) < (ls.length : Int) := by omega
            obtain ⟨bb, off, rfl, hc⟩ := s3 (by omega)
            have hci := hc.at i hlt
            rw [strAt_eq] at hci
            have HTK : Hid ((ls.take (i + 1)).all okPart = ((ls.take i).all okPart && okPart (ls.getD i []))) := Lib.hid (by rw [List.take_add_one, List.getElem?_eq_getElem hlt, List.getD_eq_getElem?_getD, List.getElem?_eq_getElem hlt, List.all_append]; simp)
            have HF1 : Hid (okPart (ls.getD i []) = false → ls.all okPart = false) := Lib.hid fun h => by
              rw [List.all_eq_false]
              exact ⟨_, List.getElem_mem hlt, by rw [List.getD_eq_getElem?_getD, List.getElem?_eq_getElem hlt] at h; simpa using h⟩
            generalize ls.getD i [] = A at *
            clear hc s3
            rcases okPart_cases A with ⟨ho, hA⟩ | ⟨ho, hA1, hA2, hA3⟩
            · have HF : Hid (cleanL (47 :: r) = false) := Lib.hid (by rw [HT.out, HF1.out ho])
              clear HT HF1 HTK HA ho
              rcases hA with rfl | rfl | rfl
              all_goals
                go_wp2_with fail
                go_ret
                exact ⟨ret_b HF.out.symm, HB.out⟩
            · have HN : Hid ((ls.take (i + 1)).all okPart = true) := Lib.hid (by rw [HTK.out, HA.out, ho]; rfl)
              have b1 : (A == []) = false := by rw [beq_eq_false_iff_ne]; exact hA1
              have b2 : (A == [46]) = false := by rw [beq_eq_false_iff_ne]; exact hA2
              have b3 : (A == [46, 46]) = false := by rw [beq_eq_false_iff_ne]; exact hA3
              have b4 : A.isEmpty = false := by cases A with | nil => exact absurd rfl hA1 | cons => rfl
              clear HT HF1 HTK HA ho hA1 hA2 hA3
              go_wp2_with fail
              exact ⟨⟨i + 1, by omega, by go_num, HN, by first | rfl | trivial⟩, by simp [intOf]; omega⟩
          · obtain rfl : i = ls.length := by omega
            have HF : Hid (cleanL (47 :: r) = true) := Lib.hid (by rw [HT.out]; have := HA.out; rwa [List.take_length] at this)
            clear HT HA s3
            go_wp2_with fail
            go_ret
            exact ⟨ret_b HF.out.symm, HB.out⟩
      · have HT : Hid (cleanL (b :: r) = false) := Lib.hid (by rw [HD.out, e1]; simp [hb])
        have hb0 : (byt (b :: r) 0 == 47) = false := by
          rw [beq_eq_false_iff_ne]
          intro e
          exact hb (UInt8.toNat_inj.1 (by show b.toNat = 47; have e2 : (b.toNat : Int) = 47 := e; omega))
        have hb1 : (byt (b :: r) 0 != 47) = true := by rw [bne, hb0]; rfl
        clear HD
        go_enter Tryd.func41, Tryd.ntmps41
        go_wp2_with fail
        go_ret
        exact ⟨ret_b HT.out.symm, Below.refl _ _⟩
/-- What ref15.Cut tells of a clean path. -/
def cutF (p : Bts) : Bts := if p = [47] then [47] else partF p
def cutN (p : Bts) : Bts := if p = [47] then [] else partN p
set_option maxRecDepth 100000 in
set_option maxHeartbeats 4000000 in
theorem rCut_any (r : Bts) (w : World) (hm : (47 :: r).length ≤ 1000000) :
    Calls Tryd.prog 29 #[.string ⟨(47 :: r).toArray⟩] w fun e w' => e = .returned (.tuple #[.string ⟨(cutF (47 :: r)).toArray⟩, .string ⟨(cutN (47 :: r)).toArray⟩]) ∧ ∃ n, w' = w.drewN n := by
  obtain ⟨p, hp⟩ : ∃ p, 47 :: r = p := ⟨_, rfl⟩
  have hl0 : 1 ≤ p.length := by rw [← hp]; simp
  have HLS : Hid (0 ≤ lastSl p) := Lib.hid (by rw [← hp]; exact (by unfold lastSl; split; omega; simp))
  have HP := Lib.hid hp
  rw [hp] at hm ⊢
  clear hp
  have hbd := lastSl_bd p
  go_enter Tryd.func29, Tryd.ntmps29
  go_wp2_with fail
  go_loopw [4, 5] (fun tk ti wr => ∃ i k : Nat, i ≤ p.length ∧ ti = .int .i64 i ∧ tk = .int .i64 k ∧ Hid ((k : Int) = max 0 (lastSl (p.take i))) ∧ wr = w) (fun _ ti _ => p.length - (intOf ti).toNat)
  case atStart => exact ⟨0, 0, Nat.zero_le _, rfl, rfl, Lib.hid rfl, rfl⟩
  case round =>
    obtain ⟨i, k, hi, rfl, rfl, HK, rfl⟩ := hrel
    by_cases hlt : i < p.length
    · have hltI : (i : Int) < (p.length : Int) := by omega
      have HT : Hid (lastSl (p.take (i + 1)) = if p[i] = 47 then (i : Int) else lastSl (p.take i)) := Lib.hid (by
        rw [List.take_add_one, List.getElem?_eq_getElem hlt]
        show lastSl (p.take i ++ [p[i]]) = _
        rw [lastSl_append, List.length_take, Nat.min_eq_left (by omega)])
      have HBY : Hid (byt p i = (p[i].toNat : Int)) := Lib.hid (by unfold byt; rw [List.getD_eq_getElem?_getD, List.getElem?_eq_getElem hlt]; rfl)
      by_cases h47 : p[i] = 47
      · have hb : (byt p i == 47) = true := by rw [HBY.out, h47]; rfl
        have HN : Hid ((i : Int) = max 0 (lastSl (p.take (i + 1)))) := Lib.hid (by rw [HT.out, if_pos h47]; omega)
        clear HT HBY h47 HK
        go_wp2_with fail
        exact ⟨⟨i + 1, i, by omega, by go_num, rfl, HN, trivial⟩, by simp [intOf]; omega⟩
      · have hb : (byt p i == 47) = false := by
          rw [HBY.out, beq_eq_false_iff_ne]
          intro e
          exact h47 (UInt8.toNat_inj.1 (by show p[i].toNat = 47; omega))
        have HN : Hid ((k : Int) = max 0 (lastSl (p.take (i + 1)))) := Lib.hid (by rw [HT.out, if_neg h47]; exact HK.out)
        clear HT HBY h47 HK
        go_wp2_with fail
        exact ⟨⟨i + 1, k, by omega, by go_num, rfl, HN, trivial⟩, by simp [intOf]; omega⟩
    · obtain rfl : i = p.length := by omega
      have hk : (k : Int) = lastSl p := by
        have h1 := HK.out
        have h2 := HLS.out
        rw [List.take_length] at h1
        omega
      by_cases h1 : p = [47]
      · have HF : Hid (cutF p = [47] ∧ cutN p = []) := Lib.hid (by unfold cutF cutN; rw [if_pos h1, if_pos h1]; exact ⟨rfl, rfl⟩)
        have e1 : (p == [47]) = true := by rw [h1]; rfl
        subst h1
        clear HK hk
        go_wp2_with fail
        go_ret2
        exact ⟨tupSS HF.out.1.symm HF.out.2.symm, 0, rfl⟩
      · have e1 : (p == [47]) = false := by rw [beq_eq_false_iff_ne]; exact h1
        have e2 : (p == []) = false := by
          rw [beq_eq_false_iff_ne]; rintro rfl; simp at hl0
        have e3 : p.isEmpty = false := by
          cases p with | nil => simp at hl0 | cons => rfl
        have HF : Hid (cutF p = p.take (max (k : Int) (min 1 (p.length : Int))).toNat ∧ cutN p = p.drop (k + 1)) := Lib.hid (by
          unfold cutF cutN partF partN
          rw [if_neg h1, if_neg h1, ← hk]
          exact ⟨rfl, by rw [show ((k : Int) + 1).toNat = k + 1 by omega]⟩)
        have hkl : k < p.length := by omega
        have hpl1 : (1 : Int) ≤ (p.length : Int) := by omega
        by_cases hk0 : k = 0
        · subst hk0
          have HF2 : Hid (cutF p = [47] ∧ cutN p = p.drop 1) := Lib.hid (by
            refine ⟨?_, HF.out.2⟩
            rw [HF.out.1, show (max ((0 : Nat) : Int) (min 1 (p.length : Int))).toNat = 1 by omega, ← HP.out]; rfl)
          clear HF HK hk
          go_wp2_with fail
          go_quiet (fail)
          go_wp2_with fail
          go_ret2
          exact ⟨tupSS HF2.out.1.symm (by rw [HF2.out.2]; simp), _, by first | rfl | (rw [World.drewN_drewN])⟩
        · have HF2 : Hid (cutF p = p.take k ∧ cutN p = p.drop (k + 1)) := Lib.hid (by
            refine ⟨?_, HF.out.2⟩
            rw [HF.out.1, show (max (k : Int) (min 1 (p.length : Int))).toNat = k by omega])
          have hk0b : ((k : Int) == 0) = false := by rw [beq_eq_false_iff_ne]; omega
          have g1 : IntKind.i64.wrap ((k : Int) + 1) = (k : Int) + 1 := IntWalk.i64_in _ (by omega)
          have g3 : ((k : Int) + 1).toNat = k + 1 := by omega
          have g4 : (k : Int) + 1 ≤ p.length := by omega
          have g5 : k + 1 ≤ p.length := by omega
          have g6 : k ≤ p.length := by omega
          clear HF HK hk
          go_wp2_with fail
          go_quiet (fail)
          go_wp2_with fail
          go_ret2
          exact ⟨tupSS (by rw [HF2.out.1]) (by rw [HF2.out.2]), _, by first | rfl | (rw [World.drewN_drewN])⟩
end Go.Proofs.YtcdkojdjcifkpaaDoor
