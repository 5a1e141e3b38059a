/- The walk of SegsShorter. -/
import Derived.Test.YtamnamnojbdfmaaLaw11
import Derived.Test.YtamnamnojbdfmaaRowS
set_option linter.unusedVariables false
set_option linter.unusedSimpArgs false
namespace Go.Proofs.Ytamnamnojbdfmaa
open Go.RowKit

theorem totL_mem (ls : List (List UInt8)) (s : List UInt8) (h : s ∈ ls) : s.length + 1 ≤ totL ls := by
  induction ls with
  | nil => simp at h
  | cons x t ih =>
    rcases List.mem_cons.1 h with rfl | h
    · simp [totL]
    · have := ih h; simp [totL] at this ⊢; omega
theorem shortL_len (s : List UInt8) (ls : List (List UInt8)) : (shortL s ls).length ≤ ls.length := by unfold shortL; split <;> simp

set_option maxHeartbeats 4000000 in
theorem shorter_law (s : List UInt8) (a1 : Option Addr) (cap1 : Nat) (ls : List (List UInt8)) (w : World) (hs : s.length ≤ 9223372036854775807) (hv : IsStr w (.slice a1 ls.length cap1) ls) (hms : ∀ s ∈ ls, s.length ≤ 9223372036854775807) :
    Calls Try.prog 4 #[.string ⟨s.toArray⟩, .slice a1 ls.length cap1] w fun e w' => e = .returned (.bool true) ∧ Below w.heap.size w w' := by
  have HV := Lib.hid hv
  have HMS := Lib.hid hms
  clear hv hms
  by_cases h20 : 20 < ls.length
  · go_enter Try.func4, Try.ntmps4
    go_wp2_with (go_at_call 7; refine (awake_any _).mono ?_; rintro e w1 ⟨rfl, hb⟩)
    go_ret
    exact ⟨rfl, by assumption⟩
  have hm : ls.length ≤ 1000000 := by omega
  cases hl : longB 200 ls with
  | true =>
    have HLG := Lib.hid hl
    clear hl
    go_enter Try.func4, Try.ntmps4
    go_wp2_with fail
    refine (long_any 200 _ ls _ HV.out (by decide) (by decide) hm (fun s h => by have := HMS.out s h; omega)).mono ?_
    rintro e w1 ⟨rfl, k1, rfl⟩
    rw [HLG.out]
    go_wp2_with (go_at_call 7; refine (awake_any _).mono ?_; rintro e w1 ⟨rfl, hb⟩)
    go_ret
    exact ⟨rfl, ext_trans (ext_drew _ _) (by assumption)⟩
  | false =>
    have HLG := Lib.hid hl
    have HMS2 : Hid (∀ s ∈ ls, s.length ≤ 1000000) := Lib.hid (by
      intro s h
      have hne : ls ≠ [] := by intro h0; rw [h0] at h; simp at h
      have := longB_tot ls 200 hl hne
      have := totL_mem ls s h
      omega)
    clear hl
    by_cases h21 : 20 < s.length
    · go_enter Try.func4, Try.ntmps4
      go_wp2_with fail
      refine (long_any 200 _ ls _ HV.out (by decide) (by decide) hm (fun s h => by have := HMS.out s h; omega)).mono ?_
      rintro e w1 ⟨rfl, k1, rfl⟩
      rw [HLG.out]
      go_wp2_with (go_at_call 7; refine (awake_any _).mono ?_; rintro e w1 ⟨rfl, hb⟩)
      go_ret
      exact ⟨rfl, ext_trans (ext_drew _ _) (by assumption)⟩
    · have hq1 := shortL_len s ls
      have hq2 := shortL_len [102, 105, 108, 101] ls
      go_enter Try.func4, Try.ntmps4
      go_wp2_with fail
      refine (long_any 200 _ ls _ HV.out (by decide) (by decide) hm (fun s h => by have := HMS.out s h; omega)).mono ?_
      rintro e w1 ⟨rfl, k1, rfl⟩
      rw [HLG.out]
      go_wp2_with fail
      refine (Shorter_any s _ ls _ (HV.out.drew _) hm HMS2.out).mono ?_
      rintro e w2 ⟨v2, rfl, hown2, hb2⟩
      have HO2 := Lib.hid hown2
      have HB2 := Lib.hid (ext_trans (ext_drew w k1) hb2)
      clear hown2 hb2
      go_wp2_with fail
      refine (rShorter_any s _ ls _ (HV.out.below HB2.out) hm HMS2.out).mono ?_
      rintro e w3 ⟨v3, rfl, hown3, hb3⟩
      have HO3 := Lib.hid hown3
      have HB3 := Lib.hid hb3
      clear hown3 hb3
      go_wp2_with fail
      refine (texts_eq _ _ (shortL s ls) _ (HO2.out.isStr.below HB3.out) HO3.out.isStr (by omega)).mono ?_
      rintro e w4 ⟨rfl, k4, rfl⟩
      have HB4 := Lib.hid (ext_trans (ext_trans HB2.out HB3.out) (ext_drew w3 k4))
      go_wp2_with fail
      refine (Shorter_any [102, 105, 108, 101] _ ls _ (HV.out.below HB4.out) hm HMS2.out).mono ?_
      rintro e w5 ⟨v5, rfl, hown5, hb5⟩
      have HO5 := Lib.hid hown5
      have HB5 := Lib.hid hb5
      clear hown5 hb5
      go_wp2_with fail
      refine (rShorter_any [102, 105, 108, 101] _ ls _ (HV.out.below (ext_trans HB4.out HB5.out)) hm HMS2.out).mono ?_
      rintro e w6 ⟨v6, rfl, hown6, hb6⟩
      have HO6 := Lib.hid hown6
      have HB6 := Lib.hid hb6
      clear hown6 hb6
      go_wp2_with fail
      refine (texts_eq _ _ (shortL [102, 105, 108, 101] ls) _ (HO5.out.isStr.below HB6.out) HO6.out.isStr (by omega)).mono ?_
      rintro e w7 ⟨rfl, k7, rfl⟩
      go_wp2_with fail
      refine (awake_any _).mono ?_
      rintro e w8 ⟨rfl, hb⟩
      go_wp2
      go_ret
      exact ⟨rfl, ext_trans HB4.out (ext_trans HB5.out (ext_trans HB6.out (ext_trans (ext_drew _ _) hb)))⟩

theorem SegsShorter_walk (a0 : ByteArray) (a1 : Option Addr) (len1 cap1 : Nat) (z1 : List (List UInt8)) (w : World) (w0 : a0.size ≤ maxLen) (w1 : IsRowS w a1 len1 cap1 z1) :
    Calls Try.prog 4 #[.string a0, .slice a1 len1 cap1] w fun e w' => e = .returned (.bool true) ∧ Below w.heap.size w w' := by
  obtain ⟨rfl, h2, h3⟩ := w1
  rw [str_is a0]
  unfold maxLen at w0 h3
  exact shorter_law _ a1 cap1 z1 w (by rw [Array.length_toList]; exact w0) h2 h3
end Go.Proofs.Ytamnamnojbdfmaa
