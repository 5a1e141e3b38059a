/- ip6: behindHex and number. -/
import Derived.Test.YtjljhkjpogjdhaaDoorSixM
import Derived.Test.YtjljhkjpogjdhaaDoorBox
set_option linter.unusedVariables false
set_option linter.unusedSimpArgs false
namespace Go.Proofs.YtjljhkjpogjdhaaDoor
open Go.RowKit

set_option maxHeartbeats 1000000 in
theorem behind_any (l : List UInt8) (i : Nat) (w : World) (hm : l.length ≤ 1000000) (hi : i ≤ l.length) :
    Calls Tryd.prog 37 #[.string ⟨l.toArray⟩, .int .i64 i] w fun e w' => e = .returned (.int .i64 ((i + hexLen (l.drop i) : Nat) : Int)) ∧ w = w' := by
  have HD := Lib.hid (hexLen_drop l)
  have HS := Lib.hid (hexLen_stop l)
  obtain ⟨R, hR⟩ : ∃ R : Nat, i + hexLen (l.drop i) = R := ⟨_, rfl⟩
  rw [hR]
  have HR := Lib.hid hR
  clear hR
  go_enter Tryd.func37, Tryd.ntmps37
  go_wp2_with fail
  go_loopw [1] (fun t1 wr => ∃ j : Nat, j ≤ l.length ∧ t1 = .int .i64 j ∧ Hid (j + hexLen (l.drop j) = R) ∧ wr = w) (fun t1 _ => l.length - (intOf t1).toNat)
  case atStart => exact ⟨i, hi, rfl, HR, rfl⟩
  case round =>
    obtain ⟨j, hj, rfl, HI, rfl⟩ := hrel
    by_cases hlt : j < l.length
    · have hltI : (j : Int) < (l.length : Int) := by omega
      have b0 := byt_lo l j
      have b1 := byt_hi l j
      obtain ⟨x0, x1⟩ := hexN_bd (byt l j)
      have HX := Lib.hid (hex_any (byt l j) · b0 b1)
      have HDj := Lib.hid (HD.out j hlt)
      have HSj := Lib.hid (HS.out j)
      obtain ⟨x, hx⟩ : ∃ x, hexN (byt l j) = x := ⟨_, rfl⟩
      rw [hx] at x0 x1 HX HDj HSj
      clear hx
      by_cases h1 : x < 0
      · have H1 : Hid (R = j) := Lib.hid (by rw [← HI.out, HSj.out (fun _ => h1)]; rfl)
        go_wp2_with fail
        refine (HX.out _).mono ?_
        rintro e w' ⟨rfl, rfl⟩
        go_wp2_with fail
        go_ret
        exact ⟨by rw [H1.out]; rfl, by trivial⟩
      · have H1 : Hid ((j + 1) + hexLen (l.drop (j + 1)) = R) := Lib.hid (by rw [← HDj.out (by omega)]; exact HI.out)
        go_wp2_with fail
        refine (HX.out _).mono ?_
        rintro e w' ⟨rfl, rfl⟩
        go_wp2_with fail
        exact ⟨⟨j + 1, by omega, by go_num, H1, by trivial⟩, by simp [intOf]; omega⟩
    · have H1 : Hid (R = j) := Lib.hid (by rw [← HI.out, HS.out j (fun h => absurd h hlt)]; rfl)
      obtain rfl : j = l.length := by omega
      go_wp2_with fail
      go_ret
      exact ⟨by rw [H1.out]; rfl, by trivial⟩

theorem wraps_u16 (n : Int) (h0 : 0 ≤ n) (h1 : n < 2 ^ 16) : IntKind.u16.wrap n = n := by
  simp [IntKind.wrap, IntKind.bits, IntKind.signed]; omega
theorem u16_or4 (x y : Int) (hx0 : 0 ≤ x) (hx1 : x < 4096) (hy : 0 ≤ y) (h : y < 16) : bits .or .u16 (x * 16) y = x * 16 + y :=
  bits_join .u16 16 (by decide) wraps_u16 4 _ _ (by omega) (by omega) (by omega) hy (by omega) (by omega)
theorem pow16_le {i : Nat} (h : i ≤ 3) : (16 : Int) ^ i ≤ 4096 := by
  have : i = 0 ∨ i = 1 ∨ i = 2 ∨ i = 3 := by omega
  rcases this with rfl | rfl | rfl | rfl <;> decide
set_option maxHeartbeats 1000000 in
theorem num16_any (l : List UInt8) (w : World) (hm : l.length ≤ 4) (hh : ∀ i, i < l.length → 0 ≤ hexN (byt l i)) :
    Calls Tryd.prog 38 #[.string ⟨l.toArray⟩] w fun e w' => e = .returned (.int .u16 (hexW l)) ∧ w = w' := by
  have HT := Lib.hid (hexW_take l)
  have HB := Lib.hid (hexW_bd l hh)
  have HH := Lib.hid hh
  clear hh
  go_enter Tryd.func38, Tryd.ntmps38
  go_wp2_with fail
  go_loopw [3, 4, 7] (fun tn t4 ti wr => ∃ i : Nat, i ≤ l.length ∧ ti = .int .i64 i ∧ tn = .int .u16 (hexW (l.take i)) ∧ wr = w) (fun _ _ ti _ => l.length - (intOf ti).toNat)
  case atStart => exact ⟨0, by omega, rfl, rfl, rfl⟩
  case round =>
    obtain ⟨i, hi, rfl, rfl, rfl⟩ := hrel
    by_cases hlt : i < l.length
    · have hltI : (i : Int) < (l.length : Int) := by omega
      have b0 := byt_lo l i
      have b1 := byt_hi l i
      obtain ⟨x0, x1⟩ := hexN_bd (byt l i)
      have x2 := HH.out i hlt
      have HX := Lib.hid (hex_any (byt l i) · b0 b1)
      have HTi := Lib.hid (HT.out i hlt)
      obtain ⟨v0, v1⟩ := HB.out i hi
      have v2 := pow16_le (show i ≤ 3 by omega)
      have v3 : hexW (l.take i) < 4096 := by omega
      obtain ⟨x, hx⟩ : ∃ x, hexN (byt l i) = x := ⟨_, rfl⟩
      rw [hx] at x0 x1 x2 HX HTi
      clear hx
      obtain ⟨v, hv⟩ : ∃ v, hexW (l.take i) = v := ⟨_, rfl⟩
      rw [hv] at v0 v3 HTi
      rw [hv]
      clear hv v1 v2
      have hor : bits .or .u16 (v * 16) x = v * 16 + x := u16_or4 v x v0 v3 x2 (by omega)
      go_wp2_with fail
      refine (HX.out _).mono ?_
      rintro e w' ⟨rfl, rfl⟩
      go_wp2_with fail
      exact ⟨⟨i + 1, by omega, by go_num, by rw [HTi.out], by trivial⟩, by simp [intOf]; omega⟩
    · obtain rfl : i = l.length := by omega
      rw [List.take_length]
      go_wp2_with fail
      go_ret
      exact ⟨by first | rfl | trivial, by trivial⟩
end Go.Proofs.YtjljhkjpogjdhaaDoor
