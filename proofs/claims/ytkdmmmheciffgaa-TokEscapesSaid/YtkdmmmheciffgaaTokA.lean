/- Contracts of jtok's functions on numbers. -/
import Derived.Test.YtkdmmmheciffgaaTokM
import Derived.Test.YtkdmmmheciffgaaStrs
import Derived.Test.YtkdmmmheciffgaaScope
import Derived.IntWalk
import Derived.Outline
set_option linter.unusedVariables false
set_option linter.unusedSimpArgs false
namespace Go.Proofs.Ytkdmmmheciffgaa
open Go.RowKit

theorem tupIB {a a' : Int} {c c' : Bool} (h1 : a = a') (h3 : c = c') : Ending.returned (.tuple #[.int .i64 a, .bool c]) = .returned (.tuple #[.int .i64 a', .bool c']) := by rw [h1, h3]
set_option maxHeartbeats 1000000 in
theorem digit_any (c : Int) (w : World) :
    Calls Try.prog 36 #[.int .u8 c] w fun e w' => e = .returned (.bool (digC c)) ∧ w = w' := by
  by_cases h1 : 48 ≤ c
  · by_cases h2 : c ≤ 57
    · have HD := Lib.hid (digC_t ⟨h1, h2⟩)
      go_enter Try.func36, Try.ntmps36
      go_wp2_with fail
      go_ret
      exact ⟨ret_b HD.out.symm, by trivial⟩
    · have HD := Lib.hid (digC_f (c := c) (by omega))
      have h3 : 57 < c := by omega
      go_enter Try.func36, Try.ntmps36
      go_wp2_with fail
      go_ret
      exact ⟨ret_b HD.out.symm, by trivial⟩
  · have HD := Lib.hid (digC_f (c := c) (by omega))
    have h3 : c < 48 := by omega
    go_enter Try.func36, Try.ntmps36
    go_wp2_with fail
    go_ret
    exact ⟨ret_b HD.out.symm, by trivial⟩
set_option maxHeartbeats 1000000 in
theorem here_any (vb : Value) (b : List UInt8) (i : Nat) (w : World) (hv : Is8 w vb b) (hm : b.length ≤ 1000000) (hi : i ≤ 2000000) :
    Calls Try.prog 35 #[vb, .int .i64 i] w fun e w' => e = .returned (.int .u8 (byt b i)) ∧ w = w' := by
  obtain ⟨a, cap, rfl, hc1, hc2, -, hs⟩ := hv
  unfold maxLen at hc2
  by_cases h : i < b.length
  · obtain ⟨bb, off, rfl, hc⟩ := hs (by omega)
    have hcell : w.cell? ⟨bb, off + i, none⟩ = some (.int .u8 (byt b i)) := hc.at i h
    have hI : (i : Int) < (b.length : Int) := by omega
    obtain ⟨c, hcc⟩ : ∃ c, byt b i = c := ⟨_, rfl⟩
    rw [hcc] at hcell ⊢
    clear hcc hc hs
    go_enter Try.func35, Try.ntmps35
    go_wp2_with fail
    go_ret
    exact ⟨rfl, by trivial⟩
  · have HO := Lib.hid (byt_over (b := b) (i := i) (by omega))
    have hI : (b.length : Int) ≤ (i : Int) := by omega
    clear hs
    go_enter Try.func35, Try.ntmps35
    go_wp2_with fail
    go_ret
    exact ⟨by rw [HO.out]; rfl, by trivial⟩
set_option maxHeartbeats 1000000 in
theorem behind_any (vb : Value) (b : List UInt8) (i : Nat) (w : World) (hv : Is8 w vb b) (hm : b.length ≤ 1000000) (hi : i ≤ b.length) :
    Calls Try.prog 37 #[vb, .int .i64 i] w fun e w' => e = .returned (.int .i64 (digE b i)) ∧ w = w' := by
  have HH := Lib.hid (fun j (hj : j ≤ b.length) => here_any vb b j w hv hm (by omega))
  go_enter Try.func37, Try.ntmps37
  go_wp2_with fail
  go_loopw [1] (fun ti wr => ∃ j : Nat, j ≤ b.length ∧ ti = .int .i64 j ∧ Hid (digE b i = digE b j) ∧ wr = w) (fun ti _ => b.length - (intOf ti).toNat)
  case atStart => exact ⟨i, hi, rfl, Lib.hid rfl, rfl⟩
  case round =>
    obtain ⟨j, hj, rfl, HE, rfl⟩ := hrel
    have H1 := Lib.hid (HH.out j hj)
    have HD := Lib.hid (digit_any (byt b j))
    cases hd : digC (byt b j) with
    | true =>
      have hl := digC_lt hd
      have H2 := Lib.hid (HE.out.trans (digE_on hd))
      rw [hd] at HD
      clear hd
      go_wp2_with fail
      refine H1.out.mono ?_
      rintro e w' ⟨rfl, rfl⟩
      go_wp2_with fail
      refine (HD.out _).mono ?_
      rintro e w' ⟨rfl, rfl⟩
      go_wp2_with fail
      exact ⟨⟨j + 1, by omega, by go_num, H2, by trivial⟩, by simp [intOf]; omega⟩
    | false =>
      have H2 := Lib.hid (HE.out.trans (digE_off hd))
      rw [hd] at HD
      clear hd
      go_wp2_with fail
      refine H1.out.mono ?_
      rintro e w' ⟨rfl, rfl⟩
      go_wp2_with fail
      refine (HD.out _).mono ?_
      rintro e w' ⟨rfl, rfl⟩
      go_wp2_with fail
      go_ret
      exact ⟨ret_n (by rw [H2.out]), by trivial⟩
end Go.Proofs.Ytkdmmmheciffgaa
