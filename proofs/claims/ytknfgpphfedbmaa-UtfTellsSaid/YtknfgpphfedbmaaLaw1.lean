/- The walks of layer 1's laws. -/
import Derived.Test.YtknfgpphfedbmaaUtfD
set_option linter.unusedVariables false
set_option linter.unusedSimpArgs false
namespace Go.Proofs.Ytknfgpphfedbmaa
open Go.RowKit

theorem Is8.drew {w : World} {v : Value} {l : List UInt8} (h : Is8 w v l) (k : Nat) : Is8 (w.drewN k) v l := h
theorem Is32.drew {w : World} {v : Value} {l : List Int} (h : Is32 w v l) (k : Nat) : Is32 (w.drewN k) v l := h

set_option maxHeartbeats 1000000 in
theorem UtfTells_walk (a0 : Option Addr) (len0 cap0 : Nat) (z0 : List Int) (w : World) (w0 : IsRow .u8 w a0 len0 cap0 z0) :
    Calls Try.prog 3 #[.slice a0 len0 cap0] w fun e w' => e = .returned (.bool true) ∧ Below w.heap.size w w' := by
  obtain ⟨l, rfl, h8⟩ := isRow8 w0
  have H8 := Lib.hid h8
  clear w0 h8
  by_cases hlen : 400 < l.length
  · go_enter Try.func3, Try.ntmps3
    go_wp2_with fail
    refine (awake_any _).mono ?_
    rintro e w1 ⟨rfl, hb⟩
    go_wp2
    go_ret
    exact ⟨rfl, hb⟩
  · have hm : l.length ≤ 1000000 := by omega
    go_enter Try.func3, Try.ntmps3
    go_wp2_with fail
    refine (next_any _ l _ H8.out hm).mono ?_
    rintro e w1 ⟨rfl, k1, rfl⟩
    go_wp2_with fail
    refine (rnext_any _ l _ (H8.out.drew _) hm).mono ?_
    rintro e w1 ⟨rfl, k2, rfl⟩
    go_wp2_with fail
    refine (valid_any _ l _ (H8.out.drew _) hm).mono ?_
    rintro e w1 ⟨rfl, k3, rfl⟩
    go_wp2_with fail
    refine (rvalid_any _ l _ (H8.out.drew _) hm).mono ?_
    rintro e w1 ⟨rfl, k4, rfl⟩
    go_wp2_with fail
    refine (decode_any _ l _ (H8.out.drew _) hm).mono ?_
    rintro e w1 ⟨v1, rfl, hown1, hb1⟩
    have HO1 := Lib.hid hown1
    have HB1 := Lib.hid hb1
    clear hown1 hb1
    go_wp2_with fail
    refine (rdecode_any _ l _ ((H8.out.drew _).below HB1.out) hm).mono ?_
    rintro e w2 ⟨v2, rfl, hown2, hb2⟩
    have HO2 := Lib.hid hown2
    have HB2 := Lib.hid hb2
    clear hown2 hb2
    have hd := decL_len _ l (Nat.le_refl _)
    go_wp2_with fail
    refine (runes_eq _ _ (decL l) _ (HO1.out.is32.below HB2.out) HO2.out.is32 (by omega)).mono ?_
    rintro e w3 ⟨rfl, k5, rfl⟩
    go_wp2_with fail
    refine (awake_any _).mono ?_
    rintro e w4 ⟨rfl, hb⟩
    go_wp2
    go_ret
    refine ⟨rfl, ?_⟩
    repeat (first | refine ext_trans ?_ hb | refine ext_trans ?_ HB2.out | refine ext_trans ?_ HB1.out | refine ext_trans ?_ (ext_drew _ _) | exact Below.refl _ _)
end Go.Proofs.Ytknfgpphfedbmaa
