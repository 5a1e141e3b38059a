/- ip6: dotted. -/
import Derived.Test.YtjljhkjpogjdhaaDoorSixM
set_option linter.unusedVariables false
set_option linter.unusedSimpArgs false
namespace Go.Proofs.YtjljhkjpogjdhaaDoor
open Go.RowKit

theorem tupU32B {a a' : Int} {c c' : Bool} (h1 : a = a') (h3 : c = c') : Ending.returned (.tuple #[.int .u32 a, .bool c]) = .returned (.tuple #[.int .u32 a', .bool c']) := by rw [h1, h3]
set_option maxHeartbeats 1000000 in
theorem dotted_any (l : List UInt8) (w : World) (hm : l.length ≤ 1000000) (htab : Tab w) :
    Calls Tryd.prog 39 #[.string ⟨l.toArray⟩] w fun e w' => e = .returned (.tuple #[.int .u32 (dotV l), .bool (dotO l)]) ∧ Below w.heap.size w w' := by
  have HP : Hid (∀ w, Calls Tryd.prog 29 #[.string ⟨l.toArray⟩] w fun e w' => e = .returned (.tuple #[.int .u32 (dotV l), .bool (parseL (splitB 46 (trimL l)) 4 0).2]) ∧ Below w.heap.size w w') := Lib.hid (fun w => Parse_any l w hm)
  obtain ⟨v0, v1⟩ := dotV_bd l
  have HT := Lib.hid htab
  clear htab
  have HO : Hid (dotO l = ((parseL (splitB 46 (trimL l)) 4 0).2 && (showL (dotV l).toNat == l))) := Lib.hid rfl
  obtain ⟨v, hv⟩ := Int.eq_ofNat_of_zero_le v0
  rw [hv] at HP HO v1 ⊢
  clear v0 hv
  have HS : Hid (∀ w', Below w.heap.size w w' → Calls Tryd.prog 19 #[.int .u32 v] w' fun e w2 => e = .returned (.string ⟨(showL v).toArray⟩) ∧ Below w'.heap.size w' w2) := Lib.hid (fun w' hb => Show_any v w' (by omega) (HT.out.below hb))
  rw [show ((v : Int)).toNat = v by omega] at HO
  obtain ⟨t, ht⟩ : ∃ t, showL v = t := ⟨_, rfl⟩
  rw [ht] at HO HS
  clear ht
  cases hk : (parseL (splitB 46 (trimL l)) 4 0).2 with
  | false =>
    rw [hk] at HP HO
    clear hk
    go_enter Tryd.func39, Tryd.ntmps39
    go_wp2_with fail
    refine (HP.out _).mono ?_
    rintro e w1 ⟨rfl, hb1⟩
    have HB1 := Lib.hid hb1
    clear hb1
    go_wp2_with fail
    go_ret2
    exact ⟨tupU32B rfl HO.out.symm, HB1.out⟩
  | true =>
    rw [hk] at HP HO
    clear hk
    cases ht : (t == l) with
    | false =>
      rw [ht] at HO
      go_enter Tryd.func39, Tryd.ntmps39
      go_wp2_with fail
      refine (HP.out _).mono ?_
      rintro e w1 ⟨rfl, hb1⟩
      have HB1 := Lib.hid hb1
      clear hb1
      go_wp2_with fail
      refine (HS.out _ HB1.out).mono ?_
      rintro e w2 ⟨rfl, hb2⟩
      have HB2 := Lib.hid (ext_trans HB1.out hb2)
      clear hb2
      go_wp2_with fail
      go_ret2
      exact ⟨tupU32B rfl HO.out.symm, HB2.out⟩
    | true =>
      rw [ht] at HO
      go_enter Tryd.func39, Tryd.ntmps39
      go_wp2_with fail
      refine (HP.out _).mono ?_
      rintro e w1 ⟨rfl, hb1⟩
      have HB1 := Lib.hid hb1
      clear hb1
      go_wp2_with fail
      refine (HS.out _ HB1.out).mono ?_
      rintro e w2 ⟨rfl, hb2⟩
      have HB2 := Lib.hid (ext_trans HB1.out hb2)
      clear hb2
      go_wp2_with fail
      go_ret2
      exact ⟨tupU32B rfl HO.out.symm, HB2.out⟩
end Go.Proofs.YtjljhkjpogjdhaaDoor
