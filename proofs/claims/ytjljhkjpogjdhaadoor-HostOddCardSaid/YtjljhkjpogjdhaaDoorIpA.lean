/- Contracts of ip4's small functions. -/
import Derived.Test.YtjljhkjpogjdhaaDoorIpM
import Derived.Test.YtjljhkjpogjdhaaDoorHex
import Derived.Test.YtjljhkjpogjdhaaDoorStrs
import Derived.IntWalk
set_option linter.unusedVariables false
set_option linter.unusedSimpArgs false
namespace Go.Proofs.YtjljhkjpogjdhaaDoor
open Go.RowKit

theorem tupSB {a a' : List UInt8} {c c' : Bool} (h1 : a = a') (h3 : c = c') : Ending.returned (.tuple #[.string ⟨a.toArray⟩, .bool c]) = .returned (.tuple #[.string ⟨a'.toArray⟩, .bool c']) := by rw [h1, h3]
theorem retS {a a' : List UInt8} (h1 : a = a') : Ending.returned (.string ⟨a.toArray⟩) = .returned (.string ⟨a'.toArray⟩) := by rw [h1]
theorem retB {c c' : Bool} (h3 : c = c') : Ending.returned (.bool c) = .returned (.bool c') := by rw [h3]
set_option maxHeartbeats 1000000 in
theorem hasSuf_any (l : List UInt8) (w : World) (hm : l.length ≤ 1000000) :
    Calls Tryd.prog 60 #[.string ⟨l.toArray⟩, .string ⟨#[46]⟩] w fun e w' => e = .returned (.bool (decide (0 < l.length ∧ byt l (l.length - 1) = 46))) ∧ w = w' := by
  by_cases h0 : l.length = 0
  · have HE : Hid (decide (0 < l.length ∧ byt l (l.length - 1) = 46) = false) := Lib.hid (by rw [decide_eq_false_iff_not]; omega)
    rw [HE.out]
    obtain rfl : l = [] := List.eq_nil_of_length_eq_zero h0
    clear h0 hm
    go_enter Tryd.func60, Tryd.ntmps60
    go_wp2_with fail
    go_ret
    exact ⟨rfl, by trivial⟩
  · obtain ⟨k, hk⟩ : ∃ k, l.length = k + 1 := ⟨l.length - 1, by omega⟩
    have hd : l.drop k = [l.getD k 0] := by
      rw [List.drop_eq_getElem_cons (show k < l.length by omega), List.drop_eq_nil_of_le (by omega)]
      simp [List.getD, show k < l.length by omega]
    have e : byt l k = ((l.getD k 0).toNat : Int) := rfl
    have HE : Hid (decide (0 < l.length ∧ byt l (l.length - 1) = 46) = (l.drop k == [46])) := Lib.hid (by
      rw [hd, hk, show k + 1 - 1 = k from rfl, e]
      generalize l.getD k 0 = b
      by_cases hb : b = 46
      · subst hb; simp
      · have : (b.toNat : Int) ≠ 46 := fun h => hb (by apply UInt8.toNat_inj.1; show b.toNat = 46; omega)
        simp [hb, this])
    have HL := Lib.hid hk
    rw [HE.out]
    have c1 : (1 : Int) ≤ (l.length : Int) := by omega
    have c2 : IntKind.i64.wrap ((l.length : Int) - 1) = (k : Int) := by rw [IntWalk.i64_in _ (by omega)]; omega
    have c3 : (l.length : Int) - 1 = (k : Int) := by omega
    have c4 : k ≤ l.length := by omega
    clear hd e h0 hk HE
    go_enter Tryd.func60, Tryd.ntmps60
    go_wp2_with fail
    go_ret
    exact ⟨by first | rfl | (simp; done), by trivial⟩
set_option maxHeartbeats 1000000 in
theorem trimS_any (l : List UInt8) (w : World) (hm : l.length ≤ 1000000) :
    Calls Tryd.prog 78 #[.string ⟨l.toArray⟩, .string ⟨#[46]⟩] w fun e w' => e = .returned (.string ⟨(trimL l).toArray⟩) ∧ w = w' := by
  have HS := Lib.hid (hasSuf_any l · hm)
  by_cases h : 0 < l.length ∧ byt l (l.length - 1) = 46
  · have HE : Hid (trimL l = l.take (l.length - 1)) := Lib.hid (by unfold trimL; rw [if_pos h])
    rw [HE.out]
    rw [decide_eq_true h] at HS
    obtain ⟨h1, -⟩ := h
    obtain ⟨k, hk⟩ : ∃ k, l.length = k + 1 := ⟨l.length - 1, by omega⟩
    have c2 : IntKind.i64.wrap ((l.length : Int) - 1) = (k : Int) := by rw [IntWalk.i64_in _ (by omega)]; omega
    have c3 : (l.length : Int) - 1 = (k : Int) := by omega
    have c4 : k ≤ l.length := by omega
    rw [show l.length - 1 = k by omega]
    clear HE hk
    go_enter Tryd.func78, Tryd.ntmps78
    go_wp2_with fail
    refine (HS.out _).mono ?_
    rintro e w' ⟨rfl, rfl⟩
    go_wp2_with fail
    go_ret
    exact ⟨by first | rfl | (simp; done), by trivial⟩
  · have HE : Hid (trimL l = l) := Lib.hid (by unfold trimL; rw [if_neg h])
    rw [HE.out]
    rw [decide_eq_false h] at HS
    clear h
    go_enter Tryd.func78, Tryd.ntmps78
    go_wp2_with fail
    refine (HS.out _).mono ?_
    rintro e w' ⟨rfl, rfl⟩
    go_wp2_with fail
    go_ret
    exact ⟨rfl, by trivial⟩
theorem trim_any (l : List UInt8) (w : World) (hm : l.length ≤ 1000000) :
    Calls Tryd.prog 45 #[.string ⟨l.toArray⟩] w fun e w' => e = .returned (.string ⟨(trimL l).toArray⟩) ∧ w = w' := by
  have HS := Lib.hid (trimS_any l · hm)
  have HT : Hid (∀ w, Calls Tryd.prog 64 #[.string ⟨l.toArray⟩, .string ⟨#[46]⟩] w fun e w' => e = .returned (.string ⟨(trimL l).toArray⟩) ∧ w = w') := Lib.hid (fun w => by
    go_enter Tryd.func64, Tryd.ntmps64
    go_wp2_with fail
    refine (HS.out _).mono ?_
    rintro e w' ⟨rfl, rfl⟩
    go_wp2_with fail
    go_ret
    exact ⟨rfl, by trivial⟩)
  go_enter Tryd.func45, Tryd.ntmps45
  go_wp2_with fail
  refine (HT.out _).mono ?_
  rintro e w' ⟨rfl, rfl⟩
  go_wp2_with fail
  go_ret
  exact ⟨rfl, by trivial⟩
set_option maxHeartbeats 1000000 in
theorem hexRest_any (l : List UInt8) (w : World) (hm : l.length ≤ 1000000) :
    Calls Tryd.prog 47 #[.string ⟨l.toArray⟩] w fun e w' => e = .returned (.tuple #[.string ⟨(hexR l).toArray⟩, .bool (hexP l)]) ∧ w = w' := by
  have b0 := byt_lo l 0
  have b1 := byt_hi l 0
  have b2 := byt_lo l 1
  have b3 := byt_hi l 1
  by_cases h1 : 2 ≤ l.length
  · have c1 : (2 : Int) ≤ (l.length : Int) := by omega
    have c2 : 0 < l.length := by omega
    have c3 : 1 < l.length := by omega
    by_cases h2 : byt l 0 = 48
    · have e2 : (byt l 0 == 48) = true := by rw [beq_iff_eq]; exact h2
      by_cases h3 : byt l 1 = 120
      · have HP : Hid (hexP l = true) := Lib.hid (by unfold hexP; exact decide_eq_true ⟨h1, h2, .inl h3⟩)
        have HR : Hid (hexR l = l.drop 2) := Lib.hid (by unfold hexR; rw [if_pos HP.out])
        have e3 : (byt l 1 == 120) = true := by rw [beq_iff_eq]; exact h3
        rw [HP.out, HR.out]
        clear h2 h3
        go_enter Tryd.func47, Tryd.ntmps47
        go_wp2_with fail
        go_ret2
        exact ⟨by first | rfl | (simp; done), by trivial⟩
      · have e3 : (byt l 1 == 120) = false := by rw [beq_eq_false_iff_ne]; exact h3
        by_cases h4 : byt l 1 = 88
        · have HP : Hid (hexP l = true) := Lib.hid (by unfold hexP; exact decide_eq_true ⟨h1, h2, .inr h4⟩)
          have HR : Hid (hexR l = l.drop 2) := Lib.hid (by unfold hexR; rw [if_pos HP.out])
          have e4 : (byt l 1 == 88) = true := by rw [beq_iff_eq]; exact h4
          rw [HP.out, HR.out]
          clear h2 h3 h4
          go_enter Tryd.func47, Tryd.ntmps47
          go_wp2_with fail
          go_ret2
          exact ⟨by first | rfl | (simp; done), by trivial⟩
        · have HP : Hid (hexP l = false) := Lib.hid (by unfold hexP; rw [decide_eq_false_iff_not]; omega)
          have HR : Hid (hexR l = []) := Lib.hid (by unfold hexR; rw [if_neg (by rw [HP.out]; simp)])
          have e4 : (byt l 1 == 88) = false := by rw [beq_eq_false_iff_ne]; exact h4
          rw [HP.out, HR.out]
          clear h2 h3 h4
          go_enter Tryd.func47, Tryd.ntmps47
          go_wp2_with fail
          go_ret2
          exact ⟨by first | rfl | (simp; done), by trivial⟩
    · have e2 : (byt l 0 == 48) = false := by rw [beq_eq_false_iff_ne]; exact h2
      have HP : Hid (hexP l = false) := Lib.hid (by unfold hexP; rw [decide_eq_false_iff_not]; omega)
      have HR : Hid (hexR l = []) := Lib.hid (by unfold hexR; rw [if_neg (by rw [HP.out]; simp)])
      rw [HP.out, HR.out]
      clear h2
      go_enter Tryd.func47, Tryd.ntmps47
      go_wp2_with fail
      go_ret2
      exact ⟨by first | rfl | (simp; done), by trivial⟩
  · have HP : Hid (hexP l = false) := Lib.hid (by unfold hexP; rw [decide_eq_false_iff_not]; omega)
    have HR : Hid (hexR l = []) := Lib.hid (by unfold hexR; rw [if_neg (by rw [HP.out]; simp)])
    rw [HP.out, HR.out]
    have c1 : ¬ (2 : Int) ≤ (l.length : Int) := by omega
    go_enter Tryd.func47, Tryd.ntmps47
    go_wp2_with fail
    go_ret2
    exact ⟨by first | rfl | (simp; done), by trivial⟩
set_option maxHeartbeats 1000000 in
theorem only_any (l : List UInt8) (n : Int) (w : World) (hm : l.length ≤ 1000000) (hn : 0 ≤ n) (hn2 : n ≤ 100) :
    Calls Tryd.prog 48 #[.string ⟨l.toArray⟩, .int .i64 n] w fun e w' => e = .returned (.bool (onlyB n l)) ∧ w = w' := by
  have HS := Lib.hid (onlyB_step n l)
  go_enter Tryd.func48, Tryd.ntmps48
  go_wp2_with fail
  go_loopw [5, 6, 9] (fun t5 t6 ti wr => ∃ i : Nat, i ≤ l.length ∧ ti = .int .i64 i ∧ Hid (onlyB n l = onlyB n (l.drop i)) ∧ wr = w) (fun _ _ ti _ => l.length - (intOf ti).toNat)
  case atStart => exact ⟨0, by omega, rfl, Lib.hid rfl, rfl⟩
  case round =>
    obtain ⟨i, hi, rfl, HI, rfl⟩ := hrel
    by_cases hlt : i < l.length
    · have hltI : (i : Int) < (l.length : Int) := by omega
      have b0 := byt_lo l i
      have b1 := byt_hi l i
      obtain ⟨x0, x1⟩ := hexN_bd (byt l i)
      have HX := Lib.hid (hex_any (byt l i) · b0 b1)
      have HT := Lib.hid (HS.out i hlt)
      obtain ⟨x, hx⟩ : ∃ x, hexN (byt l i) = x := ⟨_, rfl⟩
      rw [hx] at x0 x1 HX HT
      clear hx
      by_cases h1 : x < 0
      · have H1 : Hid (onlyB n l = false) := Lib.hid (by rw [HI.out, HT.out, decide_eq_false (by omega)]; rfl)
        go_wp2_with fail
        refine (HX.out _).mono ?_
        rintro e w' ⟨rfl, rfl⟩
        go_wp2_with fail
        go_ret
        exact ⟨retB H1.out.symm, by trivial⟩
      · by_cases h2 : n ≤ x
        · have H1 : Hid (onlyB n l = false) := Lib.hid (by rw [HI.out, HT.out, decide_eq_false (by omega)]; rfl)
          go_wp2_with fail
          refine (HX.out _).mono ?_
          rintro e w' ⟨rfl, rfl⟩
          go_wp2_with fail
          go_ret
          exact ⟨retB H1.out.symm, by trivial⟩
        · have H1 : Hid (onlyB n l = onlyB n (l.drop (i + 1))) := Lib.hid (by rw [HI.out, HT.out, decide_eq_true (by omega)]; rfl)
          go_wp2_with fail
          refine (HX.out _).mono ?_
          rintro e w' ⟨rfl, rfl⟩
          go_wp2_with fail
          exact ⟨⟨i + 1, by omega, by go_num, H1, by trivial⟩, by simp [intOf]; omega⟩
    · obtain rfl : i = l.length := by omega
      have H1 : Hid (onlyB n l = true) := Lib.hid (by rw [HI.out, List.drop_length]; rfl)
      go_wp2_with fail
      go_ret
      exact ⟨retB H1.out.symm, by trivial⟩
end Go.Proofs.YtjljhkjpogjdhaaDoor
