/- The contract of ip4.Ends. -/
import Derived.Test.YtjljhkjpogjdhaaDoorIpC
set_option linter.unusedVariables false
set_option linter.unusedSimpArgs false
namespace Go.Proofs.YtjljhkjpogjdhaaDoor
open Go.RowKit

set_option maxHeartbeats 1000000 in
theorem Ends_any (l : List UInt8) (w : World) (hm : l.length ≤ 1000000) :
    Calls Tryd.prog 28 #[.string ⟨l.toArray⟩] w fun e w' => e = .returned (.bool (endsB ((trimL l).drop (lastK (trimL l))))) ∧ w = w' := by
  have htl : (trimL l).length ≤ l.length := by unfold trimL; split <;> simp
  have HT := Lib.hid (trim_any l · hm)
  obtain ⟨s, hs⟩ : ∃ s, trimL l = s := ⟨_, rfl⟩
  rw [hs] at HT htl
  rw [hs]
  clear hs
  obtain ⟨k1, -, -, k4⟩ := lastK_spec s
  have HI : Hid (∀ w, Calls Tryd.prog 46 #[.string ⟨s.toArray⟩, .int .u8 46] w fun e w' => e = .returned (.int .i64 ((lastK s : Int) - 1)) ∧ w = w') := Lib.hid (fun w => by
    rw [← k4]
    exact (Tryd.strings_LastIndexByte ⟨s.toArray⟩ 46 (by rw [str_size]; omega) w).mono (fun _ _ ⟨p, q⟩ => ⟨p, q.symm⟩))
  clear k4
  obtain ⟨k, hk⟩ : ∃ k, lastK s = k := ⟨_, rfl⟩
  rw [hk] at HI k1
  rw [hk]
  clear hk
  have c1 : IntKind.i64.wrap ((k : Int) - 1 + 1) = (k : Int) := by rw [IntWalk.i64_in _ (by omega)]; omega
  have c2 : (k : Int) - 1 + 1 = (k : Int) := by omega
  obtain ⟨t, ht⟩ : ∃ t, s.drop k = t := ⟨_, rfl⟩
  have htl2 : t.length ≤ 1000000 := by rw [← ht]; simp; omega
  have HD := Lib.hid ht
  rw [ht]
  clear ht
  have HR := Lib.hid (hexRest_any t · htl2)
  cases hp : hexP t with
  | true =>
    have HR2 : Hid (hexR t = t.drop 2) := Lib.hid (by unfold hexR; rw [if_pos hp])
    have HE : Hid (endsB t = onlyB 16 (t.drop 2)) := Lib.hid (by unfold endsB; rw [if_pos hp])
    rw [hp, HR2.out] at HR
    rw [HE.out]
    have HO := Lib.hid (only_any (t.drop 2) 16 · (by simp; omega) (by decide) (by decide))
    obtain ⟨d, hd⟩ : ∃ d, t.drop 2 = d := ⟨_, rfl⟩
    rw [hd] at HO HR
    rw [hd]
    clear hp HR2 HE hd
    go_enter Tryd.func28, Tryd.ntmps28
    go_wp2_with fail
    refine (HT.out _).mono ?_
    rintro e w' ⟨rfl, rfl⟩
    go_wp2_with fail
    refine (HI.out _).mono ?_
    rintro e w' ⟨rfl, rfl⟩
    go_wp2_with fail
    rw [HD.out]
    refine (HR.out _).mono ?_
    rintro e w' ⟨rfl, rfl⟩
    go_wp2_with fail
    refine (HO.out _).mono ?_
    rintro e w' ⟨rfl, rfl⟩
    go_wp2_with fail
    go_ret
    exact ⟨rfl, by trivial⟩
  | false =>
    have HR2 : Hid (hexR t = []) := Lib.hid (by unfold hexR; rw [if_neg (by rw [hp]; simp)])
    have HE : Hid (endsB t = (decide (0 < t.length) && onlyB 10 t)) := Lib.hid (by unfold endsB; rw [if_neg (by rw [hp]; simp)])
    rw [hp, HR2.out] at HR
    rw [HE.out]
    have HO := Lib.hid (only_any t 10 · htl2 (by decide) (by decide))
    clear hp HR2 HE
    by_cases h0 : t = []
    · subst h0
      go_enter Tryd.func28, Tryd.ntmps28
      go_wp2_with fail
      refine (HT.out _).mono ?_
      rintro e w' ⟨rfl, rfl⟩
      go_wp2_with fail
      refine (HI.out _).mono ?_
      rintro e w' ⟨rfl, rfl⟩
      go_wp2_with fail
      rw [HD.out]
      refine (HR.out _).mono ?_
      rintro e w' ⟨rfl, rfl⟩
      go_wp2_with fail
      go_ret
      exact ⟨rfl, by trivial⟩
    · have hlen : 0 < t.length := List.length_pos_iff.2 h0
      have g1 : (t == []) = false := by rw [beq_eq_false_iff_ne]; exact h0
      have g2 : t.isEmpty = false := by rw [List.isEmpty_eq_false_iff]; exact h0
      rw [decide_eq_true hlen, Bool.true_and]
      clear h0
      go_enter Tryd.func28, Tryd.ntmps28
      go_wp2_with fail
      refine (HT.out _).mono ?_
      rintro e w' ⟨rfl, rfl⟩
      go_wp2_with fail
      refine (HI.out _).mono ?_
      rintro e w' ⟨rfl, rfl⟩
      go_wp2_with fail
      rw [HD.out]
      refine (HR.out _).mono ?_
      rintro e w' ⟨rfl, rfl⟩
      go_wp2_with fail
      refine (HO.out _).mono ?_
      rintro e w' ⟨rfl, rfl⟩
      go_wp2_with fail
      go_ret
      exact ⟨rfl, by trivial⟩
end Go.Proofs.YtjljhkjpogjdhaaDoor
