/- The contract of ref1.Next. -/
import Derived.Test.YtjljhkjpogjdhaaGreatDoorUtfA
set_option linter.unusedVariables false
set_option linter.unusedSimpArgs false
namespace Go.Proofs.YtjljhkjpogjdhaaGreatDoor
open Go.RowKit

theorem i32_and (i : Nat) (hi : i ≤ 31) (x : Int) (h0 : 0 ≤ x) (h1 : x < 2147483648) : bits .and .i32 x (2 ^ i - 1) = x % 2 ^ i := bits_mask .i32 31 (by decide) wraps_i32 i hi x h0 h1

set_option maxHeartbeats 2000000 in
theorem rnext_any (v : Value) (l : List UInt8) (w : World) (hv : Is8 w v l) (hm : l.length ≤ 1000000) :
    Calls Tryz.prog 83 #[v] w fun e w' => e = .returned (.tuple #[.int .i32 (nextL l).1, .int .i64 ((nextL l).2.1 : Nat), .bool (nextL l).2.2]) ∧ ∃ n, w' = w.drewN n := by
  suffices hsuf : Calls Tryz.prog 83 #[v] w fun e w' => NextEnd l e ∧ ∃ n, w' = w.drewN n from hsuf
  obtain ⟨a, cap, rfl, hc1, hc2, -, hs⟩ := hv
  by_cases hn : l.length = 0
  · have hN : nextL l = (0, 0, false) := by unfold nextL; rw [if_pos hn]
    rw [hn]
    have hE := fun n (h : n = _) => nxV_eq (n := n) hN h
    clear hs hN
    have HE := Lib.hid hE
    clear hE
    go_enter Tryz.func83, Tryz.ntmps83
    go_wp2
    go_ret3
    exact ⟨HE.out _ rfl, 0, rfl⟩
  obtain ⟨b, off, rfl, hc⟩ := hs (by omega)
  have hne : ((l.length : Int) == 0) = false := by rw [beq_eq_false_iff_ne]; omega
  have hp : (0 : Int) < (l.length : Int) := by omega
  have h0 : w.cell? ⟨b, off, none⟩ = some (.int .u8 (byt l 0)) := by simpa [u8At] using hc.at 0 (by omega)
  have hb := byt_hi l 0
  have hb0 := byt_lo l 0
  have hlm : l.length ≤ 9223372036854775807 := by unfold maxLen at hc2; omega
  by_cases hlow : byt l 0 ≤ 127
  · have hN : nextL l = (byt l 0, 1, true) := by unfold nextL; rw [if_neg hn, if_pos hlow]
    have hE := fun n (h : n = _) => nxV_eq (n := n) hN h
    clear hs hN
    have HE := Lib.hid hE
    clear hE
    have hq : sqp (byt l 0) = (1, 0, 0) := by unfold sqp; rw [if_pos hlow]
    go_enter Tryz.func83, Tryz.ntmps83
    go_wp2_with (go_at_call 100; refine (seq_any _ _ (by omega) (by omega)).mono ?_; rintro e w' ⟨rfl, rfl⟩; rw [hq]; clear hq)
    go_ret3
    exact ⟨HE.out _ rfl, 0, rfl⟩
  unfold maxLen at hc2
  rcases shp_cases (byt l 0) with h | ⟨m, lo, hi, h, h1, h2, h3, h4, h5, h6⟩
  · have hN : nextL l = (65533, 1, false) := by unfold nextL; rw [if_neg hn, if_neg hlow, h, if_pos rfl]
    have hE := fun n (h : n = _) => nxV_eq (n := n) hN h
    have hq : sqp (byt l 0) = (0, 0, 0) := by unfold sqp; rw [if_neg hlow, h]; rfl
    clear hs hN h
    have HE := Lib.hid hE
    clear hE
    go_enter Tryz.func83, Tryz.ntmps83
    go_wp2_with (go_at_call 100; refine (seq_any _ _ (by omega) (by omega)).mono ?_; rintro e w' ⟨rfl, rfl⟩; rw [hq]; clear hq)
    go_ret3
    exact ⟨HE.out _ rfl, 0, rfl⟩
  have h7 : (m == 0) = false := by simp; omega
  obtain ⟨J, hJ⟩ : ∃ J : Nat, m = (J : Int) := ⟨m.toNat, by omega⟩
  have hJ1 : 1 ≤ J := by omega
  have hJ3 : J ≤ 3 := by omega
  have HC := Lib.hid hc
  obtain ⟨q, hqm⟩ : ∃ q, q = m + 1 := ⟨_, rfl⟩
  have HQ : Hid (q = (J : Int) + 1) := Lib.hid (by omega)
  have HN : Hid (nextL l = nl l (q - 1).toNat 1 (byt l 0 % 2 ^ (7 - q.toNat)) lo hi) := by
    unfold nextL; rw [if_neg hn, if_neg hlow, h, if_neg (show ¬ m = 0 by omega)]
    have e1 : (q - 1).toNat = m.toNat := by omega
    have e2 : 7 - q.toNat = 6 - m.toNat := by omega
    rw [e1, e2]; exact Lib.hid rfl
  have hq : sqp (byt l 0) = (q, lo, hi) := by unfold sqp; rw [if_neg hlow, h]; show (if m = 0 then 0 else m + 1, lo, hi) = _; rw [if_neg (by omega), hqm]
  have h8 : (q == 0) = false := by rw [beq_eq_false_iff_ne]; omega
  have h9 : (q == 1) = false := by rw [beq_eq_false_iff_ne]; omega
  have b31 : bits .and .i32 (byt l 0) 31 = byt l 0 % 32 := i32_and 5 (by decide) _ hb0 (by omega)
  have b15 : bits .and .i32 (byt l 0) 15 = byt l 0 % 16 := i32_and 4 (by decide) _ hb0 (by omega)
  have b7 : bits .and .i32 (byt l 0) 7 = byt l 0 % 8 := i32_and 3 (by decide) _ hb0 (by omega)
  clear hs hc hJ h h7
  have hq1 : 2 ≤ q := by omega
  have hq4 : q ≤ 4 := by omega
  clear hqm
  go_enter Tryz.func83, Tryz.ntmps83
  go_wp2_with (go_at_call 100; refine (seq_any _ _ (by omega) (by omega)).mono ?_; rintro e w' ⟨rfl, rfl⟩; rw [hq]; clear hq)
  obtain rfl | rfl | rfl : q = 2 ∨ q = 3 ∨ q = 4 := by omega
  all_goals
    go_quiet (fail)
    clear b31 b15 b7
    go_wp2
    go_loop [6, 7, 8, 9] (fun tl th tr ti => ∃ (j k : Nat) (R L H : Int), 1 ≤ k ∧ k + j = J + 1 ∧ ti = .int .i64 k ∧ tr = .int .i32 R ∧ tl = .int .u8 L ∧ th = .int .u8 H ∧
        0 ≤ R ∧ R < rbd k ∧ 0 ≤ L ∧ L ≤ 255 ∧ 0 ≤ H ∧ H ≤ 255 ∧ Hid (nextL l = nl l j k R L H)) (fun _ _ _ ti => 5 - (intOf ti).toNat)
    case atStart =>
      have hQ := HQ.out
      exact ⟨_, 1, _, _, _, by omega, by omega, rfl, rfl, rfl, rfl, by omega, by unfold rbd; rw [if_pos (by omega)]; omega, by omega, by omega, by omega, by omega, HN.out⟩
    case round =>
      obtain ⟨j, k, R, L, H, hk1, hkj, rfl, rfl, rfl, rfl, hR0, hR, hL0, hL1, hH0, hH1, HR⟩ := hrel
      have hk5 : k < 5 := by omega
      have hbk := byt_lo l k
      have hbk1 := byt_hi l k
      rcases j with _ | j
      · have hlt : ¬ (k : Int) < J + 1 := by omega
        have hd := HQ.out
        rw [← hd] at hlt
        have HK := Lib.hid hkj
        clear hd hkj
        go_wp2
        go_ret3
        exact ⟨nxV_eq (HR.out.trans nl_zero) (by have := HK.out; have := HQ.out; omega), nq, rfl⟩
      · have hlt : (k : Int) < J + 1 := by omega
        have hd := HQ.out
        rw [← hd] at hlt
        clear hd
        have hR2 := Int.lt_of_lt_of_le hR (rbd_le (show k ≤ 3 by omega))
        have HS := rbd_step (x := byt l k) hk1 (show k ≤ 3 by omega) hR
        clear hR
        by_cases hlen : k < l.length
        · have hcell : w.cell? ⟨b, off + k, none⟩ = some (.int .u8 (byt l k)) := HC.out.at k hlen
          by_cases hlo : L ≤ byt l k
          · by_cases hhi : byt l k ≤ H
            · go_wp2
              go_round
              case rel => exact ⟨j, k + 1, _, _, _, by omega, by omega, by go_num, rfl, rfl, rfl, by omega, HS, by omega, by omega, by omega, by omega, HR.out.trans (nl_yes ⟨hlen, hlo, hhi⟩)⟩
              case measure => simp [intOf]; omega
            · go_wp2
              go_ret3
              exact ⟨nxV_eq (HR.out.trans (nl_no (by omega))) rfl, nq, rfl⟩
          · go_wp2
            go_ret3
            exact ⟨nxV_eq (HR.out.trans (nl_no (by omega))) rfl, nq, rfl⟩
        · go_wp2
          go_ret3
          exact ⟨nxV_eq (HR.out.trans (nl_no (by omega))) rfl, nq, rfl⟩
end Go.Proofs.YtjljhkjpogjdhaaGreatDoor
