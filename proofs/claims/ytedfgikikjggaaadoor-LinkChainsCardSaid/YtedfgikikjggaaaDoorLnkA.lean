/- Below, TrimLeft, plainEnds, Search: contracts. -/
import Derived.Test.YtedfgikikjggaaaDoorLnkM
import Derived.Test.YtedfgikikjggaaaDoorCut
import Derived.Test.YtedfgikikjggaaaDoorTreeA
import Derived.Test.YtedfgikikjggaaaDoorTreeD
import Derived.Test.YtedfgikikjggaaaDoorQuiet
set_option linter.unusedVariables false
set_option linter.unusedSimpArgs false
namespace Go.Proofs.YtedfgikikjggaaaDoor
open Go.RowKit

theorem str_is1 {a b : Bts} (h : a = b) : Ending.returned (.string ⟨a.toArray⟩) = .returned (.string ⟨b.toArray⟩) := by rw [h]
theorem hasPreS_any (p : Bts) (c : UInt8) (w : World) (hm : p.length ≤ 1000000) :
    Calls Tryd.prog 29 #[.string ⟨p.toArray⟩, .string ⟨#[c]⟩] w fun e w' => e = .returned (.bool (p.head? == some c)) ∧ w = w' := by
  have H := Lib.hid (hasPre_any p c w hm)
  go_enter Tryd.func29, Tryd.ntmps29
  go_wp2_with fail
  refine H.out.mono ?_
  rintro e w1 ⟨rfl, rfl⟩
  go_wp2
  go_ret
  exact ⟨rfl, rfl⟩
theorem below_any (h s : Bts) (w : World) (h1 : h.length ≤ 2000000) (h2 : s.length ≤ 2000000) :
    Calls Tryd.prog 33 #[.string ⟨h.toArray⟩, .string ⟨s.toArray⟩] w fun e w' => e = .returned (.string ⟨(joinL h s).toArray⟩) ∧ w = w' := by
  by_cases hh : h = [47]
  · subst hh
    have e1 : (([47] : Bts) == [47]) = true := by decide
    have b1 : ([47] : Bts).length + s.length ≤ 9223372036854775807 := by simp; omega
    go_enter Tryd.func33, Tryd.ntmps33
    go_wp2_with fail
    go_ret
    exact ⟨str_is1 (by unfold joinL; rw [if_pos rfl]), rfl⟩
  · have e1 : (h == [47]) = false := by rw [beq_eq_false_iff_ne]; exact hh
    have b1 : h.length + ([47] : Bts).length ≤ 9223372036854775807 := by simp; omega
    have b2 : (h ++ [47]).length + s.length ≤ 9223372036854775807 := by simp; omega
    have HE : Hid (joinL h s = h ++ [47] ++ s) := Lib.hid (by unfold joinL; rw [if_neg hh]; simp)
    clear hh
    go_enter Tryd.func33, Tryd.ntmps33
    go_wp2_with fail
    go_ret
    exact ⟨str_is1 (by rw [HE.out]; simp), rfl⟩
theorem trimSl_cons (b : UInt8) (t : Bts) : trimSl (b :: t) = if b = 47 then trimSl t else b :: t := rfl
theorem byt_cons0 (b : UInt8) (t : Bts) : byt (b :: t) 0 = (b.toNat : Int) := rfl
set_option maxHeartbeats 1000000 in
theorem trimByte_any (l : Bts) (w : World) (hm : l.length ≤ 2000000) :
    Calls Tryd.prog 68 #[.string ⟨l.toArray⟩, .int .u8 47] w fun e w' => e = .returned (.string ⟨(trimSl l).toArray⟩) ∧ ∃ n, w' = w.drewN n := by
  go_enter Tryd.func68, Tryd.ntmps68
  go_wp2_with fail
  go_loopw [0] (fun ts wr => ∃ (t : Bts), t.length ≤ l.length ∧ ts = .string ⟨t.toArray⟩ ∧ trimSl t = trimSl l ∧ ∃ n, wr = w.drewN n) (fun ts _ => match ts with | .string s => s.size | _ => 0)
  case atStart => exact ⟨l, Nat.le_refl _, rfl, rfl, 0, rfl⟩
  case round =>
    obtain ⟨t, hl, rfl, hs, n, rfl⟩ := hrel
    have HS := Lib.hid hs
    clear hs
    cases t with
    | nil =>
      go_wp2_with fail
      go_ret
      exact ⟨str_is1 HS.out, n, rfl⟩
    | cons b t =>
      have hl0 : (0 : Int) < ((b :: t).length : Int) := by rw [List.length_cons]; omega
      have hl1 : 1 ≤ (b :: t).length := by simp
      have hl2 : (1 : Int) ≤ ((b :: t).length : Int) := by rw [List.length_cons]; omega
      by_cases hb : b = 47
      · subst hb
        have e1 : (byt (47 :: t) 0 == 47) = true := by rw [byt_cons0]; decide
        have e2 : byt (47 :: t) 0 = 47 := rfl
        have HT : Hid (trimSl t = trimSl l) := Lib.hid (by rw [← HS.out, trimSl_cons, if_pos rfl])
        have HD : Hid ((47 :: t).drop 1 = t) := Lib.hid rfl
        have HL : Hid (t.length ≤ l.length) := Lib.hid (by simp at hl; omega)
        have HL2 : Hid (t.length < (47 :: t).length) := Lib.hid (by simp)
        obtain ⟨q, hq⟩ : ∃ q, (47 :: t : Bts) = q := ⟨_, rfl⟩
        rw [hq] at e1 e2 hl0 hl1 hl2 HD HL2
        rw [hq]
        clear hq HS hl
        go_wp2_with fail
        refine ⟨⟨t, HL.out, ?_, HT.out, _, rfl⟩, ?_⟩
        · rw [← HD.out]; simp
        · rw [← HD.out] at HL2; simpa using HL2.out
      · have e1 : (byt (b :: t) 0 == 47) = false := by
          rw [byt_cons0, beq_eq_false_iff_ne]
          intro e
          exact hb (UInt8.toNat_inj.1 (by have : b.toNat = 47 := by omega
                                          exact this))
        have e2 : ¬ byt (b :: t) 0 = 47 := by simpa using e1
        have HE : Hid (b :: t = trimSl l) := Lib.hid (by rw [← HS.out, trimSl_cons, if_neg hb])
        obtain ⟨q, hq⟩ : ∃ q, (b :: t : Bts) = q := ⟨_, rfl⟩
        rw [hq] at e1 e2 hl0 hl1 hl2 HE
        rw [hq]
        clear hq HS hl
        go_wp2_with fail
        go_ret
        exact ⟨str_is1 HE.out, _, rfl⟩
set_option maxRecDepth 100000 in
set_option maxHeartbeats 1000000 in
theorem trimLeft_any (l : Bts) (w : World) (hm : l.length ≤ 2000000) :
    Calls Tryd.prog 46 #[.string ⟨l.toArray⟩, .string ⟨#[47]⟩] w fun e w' => e = .returned (.string ⟨(trimSl l).toArray⟩) ∧ ∃ n, w' = w.drewN n := by
  have H := Lib.hid (fun w => trimByte_any l w hm)
  by_cases hl : l = []
  · subst hl
    go_enter Tryd.func46, Tryd.ntmps46
    go_wp2_with fail
    go_ret
    exact ⟨rfl, 0, rfl⟩
  · have e1 : (l == []) = false := by rw [beq_eq_false_iff_ne]; exact hl
    have e2 : l.isEmpty = false := by cases l with | nil => exact absurd rfl hl | cons _ _ => rfl
    clear hl
    go_enter Tryd.func46, Tryd.ntmps46
    go_wp2_with fail
    refine (H.out _).mono ?_
    rintro e w1 ⟨rfl, n, rfl⟩
    go_wp2
    go_ret
    exact ⟨rfl, n, rfl⟩
end Go.Proofs.YtedfgikikjggaaaDoor
