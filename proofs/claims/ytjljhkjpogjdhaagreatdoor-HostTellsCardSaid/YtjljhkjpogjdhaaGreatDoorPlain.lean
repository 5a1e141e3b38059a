/- walk.Plain. -/
import Derived.Test.YtjljhkjpogjdhaaGreatDoorB1
import Derived.Test.YtjljhkjpogjdhaaGreatDoorA1
import Derived.Test.YtjljhkjpogjdhaaGreatDoorBytes
set_option linter.unusedVariables false
set_option linter.unusedSimpArgs false
namespace Go.Proofs.YtjljhkjpogjdhaaGreatDoor
open Go.RowKit

/-- A text as UTF-8. -/
def plainL (l : List UInt8) : List UInt8 := encL (decL l)
theorem plainL_valid {l : List UInt8} (h : validL l = true) : plainL l = l := encL_decL _ l (Nat.le_refl _) h
theorem decL_r : ∀ (n : Nat) (l : List UInt8), l.length ≤ n → ∀ r ∈ decL l, 0 ≤ r ∧ r ≤ 1114111 := by
  intro n
  induction n with
  | zero => intro l h r hr; rw [decL_nil (by omega)] at hr; simp at hr
  | succ n ih =>
    intro l h r hr
    by_cases h0 : l.length = 0
    · rw [decL_nil h0] at hr; simp at hr
    · have hn := nextL_n l (by omega)
      rw [decL_cons (by omega)] at hr
      rcases List.mem_cons.1 hr with rfl | hr
      · exact nextL_r l
      · exact ih _ (by simp; omega) r hr
theorem decL_bd (l : List UInt8) (i : Nat) (hi : i < (decL l).length) : -2147483648 ≤ (decL l).getD i 0 ∧ (decL l).getD i 0 ≤ 2147483647 := by
  have := decL_r _ l (Nat.le_refl _) ((decL l)[i]) (List.getElem_mem _)
  rw [List.getD_eq_getElem?_getD, List.getElem?_eq_getElem hi]
  show _ ≤ (decL l)[i] ∧ (decL l)[i] ≤ _
  omega

set_option maxHeartbeats 1000000 in
theorem plain_any (l : List UInt8) (w : World) (hm : l.length ≤ 1000000) :
    Calls Tryz.prog 40 #[.string ⟨l.toArray⟩] w fun e w' => e = .returned (.string ⟨(plainL l).toArray⟩) ∧ Below w.heap.size w w' := by
  cases hv : validL l with
  | true =>
    have HP := Lib.hid (plainL_valid hv)
    have HV := Lib.hid hv
    clear hv
    go_enter Tryz.func40, Tryz.ntmps40
    go_wp2_with (refine wpList_toBytes _ (by rfl) 9 43 _ rfl 5 Tryz.underlying9 Tryz.underlying43 Tryz.underlying5 l rfl (by omega) ?_)
    intro b cap w1 h8 hb1 hbe
    have H8 := Lib.hid h8
    have HB1 := Lib.hid hb1
    clear h8 hb1 hbe
    go_wp2_with fail
    refine (valid_any _ l _ H8.out hm).mono ?_
    rintro e w2 ⟨rfl, k, rfl⟩
    rw [HV.out]
    go_wp2_with fail
    go_ret
    exact ⟨by rw [HP.out]; rfl, ext_trans HB1.out (ext_drew _ _)⟩
  | false =>
    have HV := Lib.hid hv
    have hd := decL_len _ l (Nat.le_refl _)
    clear hv
    go_enter Tryz.func40, Tryz.ntmps40
    go_wp2_with (refine wpList_toBytes _ (by rfl) 9 43 _ rfl 5 Tryz.underlying9 Tryz.underlying43 Tryz.underlying5 l rfl (by omega) ?_)
    intro b cap w1 h8 hb1 hbe
    have H8 := Lib.hid h8
    have HB1 := Lib.hid hb1
    clear h8 hb1 hbe
    go_wp2_with fail
    refine (valid_any _ l _ H8.out hm).mono ?_
    rintro e w2 ⟨rfl, k, rfl⟩
    rw [HV.out]
    go_wp2_with (refine wpList_toBytes _ (by rfl) 9 43 _ rfl 5 Tryz.underlying9 Tryz.underlying43 Tryz.underlying5 l rfl (by omega) ?_)
    intro b2 cap2 w3 h83 hb3 hbe3
    have H83 := Lib.hid h83
    have HB3 := Lib.hid hb3
    clear h83 hb3 hbe3
    go_wp2_with fail
    refine (decode_any _ l _ H83.out hm).mono ?_
    rintro e w4 ⟨v4, rfl, hown4, hb4⟩
    have HO4 := Lib.hid hown4
    have HB4 := Lib.hid hb4
    clear hown4 hb4
    go_wp2_with fail
    refine (encode_any _ (decL l) _ HO4.out.is32 (by omega) (decL_bd l)).mono ?_
    rintro e w5 ⟨v5, rfl, hown5, hb5⟩
    have H85 := Lib.hid hown5.is8
    have HB5 := Lib.hid hb5
    clear hown5 hb5
    go_wp2_with (refine wpList_toStr _ (by rfl) 43 9 _ rfl 5 Tryz.underlying43 Tryz.underlying5 Tryz.underlying9 _ rfl (encL (decL l)) H85.out ?_)
    go_ret
    exact ⟨rfl, ext_trans (ext_trans HB1.out (ext_drew _ k)) (ext_trans HB3.out (ext_trans HB4.out HB5.out))⟩
end Go.Proofs.YtjljhkjpogjdhaaGreatDoor
