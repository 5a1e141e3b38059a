import Derived.Deep.DeepCutAuto
import Derived.Test.YtaphadmcjimmeaaGreatDoorHs11
set_option linter.unusedVariables false
set_option linter.unusedSimpArgs false
namespace Go.Proofs.YtaphadmcjimmeaaGreatDoor
open Go.RowKit
theorem tupIB {a a' : Int} {c c' : Bool} (h1 : a = a') (h3 : c = c') : Ending.returned (.tuple #[.int .i64 a, .bool c]) = .returned (.tuple #[.int .i64 a', .bool c']) := by rw [h1, h3]
theorem oct_drop (l : List UInt8) (h : 0 < l.length) (h0 : byt l 0 = 48) : onlyB 8 l = onlyB 8 (l.drop 1) ∧ valV 8 0 l = valV 8 0 (l.drop 1) := by
  match l, h with
  | b :: t, _ =>
    rw [byt0] at h0
    constructor
    · show (decide (0 ≤ hexN (b.toNat : Int) ∧ hexN (b.toNat : Int) < 8) && onlyB 8 t) = onlyB 8 t
      rw [h0]; rfl
    · show valV 8 (stepV 8 0 (b.toNat : Int)) t = valV 8 0 t
      rw [h0]; rfl
def NumJ (l D : List UInt8) (N : Int) : Prop := numO l = (decide (0 < D.length) && onlyB N D) ∧ (numO l = true → numV l = valV N 0 D) ∧ (numO l = false → numV l = 0)
theorem numJ_no (l : List UInt8) : numO l = false → numV l = 0 := fun h => by unfold numV; rw [if_neg (by rw [h]; simp)]
theorem numJ_hex {l : List UInt8} (hp : hexP l = true) (hl : 2 < l.length) : NumJ l (l.drop 2) 16 := by
  have h1 : baseN l = 16 := by unfold baseN; rw [if_pos hp]
  have h2 : bodyL l = l.drop 2 := by unfold bodyL; rw [if_pos hp]
  refine ⟨?_, fun h => by unfold numV; rw [if_pos h, h1, h2], numJ_no l⟩
  unfold numO
  rw [h1, h2, hp, decide_eq_true (show 0 < (l.drop 2).length by simp; omega)]; simp
theorem numJ_oct {l : List UInt8} (hp : hexP l = false) (hl : 2 ≤ l.length) (h0 : byt l 0 = 48) : NumJ l (l.drop 1) 8 := by
  have h1 : baseN l = 8 := by unfold baseN; rw [if_neg (by rw [hp]; simp), if_pos ⟨by omega, h0⟩]
  have h2 : bodyL l = l := by unfold bodyL; rw [if_neg (by rw [hp]; simp)]
  obtain ⟨o1, o2⟩ := oct_drop l (by omega) h0
  refine ⟨?_, fun h => by unfold numV; rw [if_pos h, h1, h2, o2], numJ_no l⟩
  unfold numO
  rw [h1, h2, hp, o1, decide_eq_true (show 0 < l.length by omega), decide_eq_true (show 0 < (l.drop 1).length by simp; omega)]; rfl
theorem numJ_dec {l : List UInt8} (h : l.length < 2 ∨ byt l 0 ≠ 48) : NumJ l l 10 := by
  have hp : hexP l = false := by unfold hexP; rw [decide_eq_false_iff_not]; omega
  have h1 : baseN l = 10 := by unfold baseN; rw [if_neg (by rw [hp]; simp), if_neg (by omega)]
  have h2 : bodyL l = l := by unfold bodyL; rw [if_neg (by rw [hp]; simp)]
  refine ⟨?_, fun h => by unfold numV; rw [if_pos h, h1, h2], numJ_no l⟩
  unfold numO
  rw [h1, h2, hp]; simp
set_option maxRecDepth 100000 in
set_option maxHeartbeats 4000000 in
theorem rnumber_hexa (l : List UInt8) (w : World) (hm : l.length ≤ 1000000) (hl : 2 < l.length) (h2 : byt l 0 = 48) (h3 : byt l 1 = 120) :
    Calls Tryz.prog 57 #[.string ⟨l.toArray⟩] w fun e w' => e = .returned (.tuple #[.int .i64 (numV l), .bool (numO l)]) ∧ w = w' := by
  have c1 : (2 : Int) ≤ (l.length : Int) := by omega
  have c2 : 0 < l.length := by omega
  have c3 : 1 < l.length := by omega
  have e2 : (byt l 0 == 48) = true := by rw [beq_iff_eq]; exact h2
  have hp : hexP l = true := by unfold hexP; exact decide_eq_true ⟨by omega, h2, .inl h3⟩
  have HJ := Lib.hid (numJ_hex hp hl)
  have e3 : (byt l 1 == 120) = true := by rw [beq_iff_eq]; exact h3
  have hDl : (l.drop 2).length ≤ 1000000 := by simp; omega
  have hDp : 0 < (l.drop 2).length := by simp; omega
  obtain ⟨D, dd⟩ : ∃ D, l.drop 2 = D := ⟨_, rfl⟩
  rw [dd] at HJ hDl hDp
  have g0 : D ≠ [] := List.length_pos_iff.1 hDp
  have g1 : (D == []) = false := by rw [beq_eq_false_iff_ne]; exact g0
  have g2 : D.isEmpty = false := by rw [List.isEmpty_eq_false_iff]; exact g0
  clear hp h2 h3 g0 hDp
  have HST := Lib.hid (onlyB_step 16 D)
  have HTK := Lib.hid (valV_take 16 D)
  go_enter Tryz.func57, Tryz.ntmps57
  go_wp2_with fail
  go_loopw [5, 6, 7] (fun tv ti td wr => ∃ (i : Nat) (v : Int), i ≤ D.length ∧ ti = .int .i64 i ∧ tv = .int .i64 v ∧ 0 ≤ v ∧ v ≤ 4294967296 ∧ Hid (valV 16 0 (D.take i) = v) ∧ Hid (onlyB 16 D = onlyB 16 (D.drop i)) ∧ wr = w) (fun _ ti _ _ => D.length - (intOf ti).toNat)
  case atStart => exact ⟨0, 0, by omega, rfl, rfl, by decide, by decide, Lib.hid rfl, Lib.hid rfl, rfl⟩
  case round =>
    obtain ⟨i, v, hi, rfl, rfl, v0, v1, HV, HO, rfl⟩ := hrel
    by_cases hlt : i < D.length
    · have hltI : (i : Int) < (D.length : Int) := by omega
      have c0 := byt_lo D i
      have c1 := byt_hi D i
      have HDG := Lib.hid (rdigit_any (byt D i) 16 · c0 c1 (by decide) (by decide))
      have HS := Lib.hid (HO.out.trans (HST.out i hlt))
      have HT := Lib.hid (HTK.out i hlt)
      obtain ⟨x0, x1⟩ := hexN_bd (byt D i)
      obtain ⟨c, hc⟩ : ∃ c, byt D i = c := ⟨_, rfl⟩
      rw [hc] at c0 c1 HDG HS HT x0 x1
      rw [HV.out] at HT
      have HSV : Hid (stepV 16 v c = min (v * 16 + hexN c) 4294967296) := Lib.hid rfl
      have HDN : Hid (digN c 16 = if 16 ≤ hexN c then -1 else hexN c) := Lib.hid rfl
      obtain ⟨x, hx⟩ : ∃ x, hexN c = x := ⟨_, rfl⟩
      rw [hx] at HS HSV HDN x0 x1
      clear hx
      by_cases hb : 0 ≤ x ∧ x < 16
      · obtain ⟨hb1, hb2⟩ := hb
        rw [HDN.out, if_neg (by omega)] at HDG
        have H3 : Hid (onlyB 16 D = onlyB 16 (D.drop (i + 1))) := Lib.hid (by rw [HS.out, decide_eq_true ⟨hb1, hb2⟩]; rfl)
        by_cases hmn : v * 16 + x ≤ 4294967296
        · have H4 : Hid (valV 16 0 (D.take (i + 1)) = v * 16 + x) := Lib.hid (by rw [HT.out, HSV.out]; omega)
          go_wp2_with fail
          refine (HDG.out _).mono ?_
          rintro e w' ⟨rfl, rfl⟩
          go_wp2_with fail
          exact ⟨⟨i + 1, _, by omega, by go_num, rfl, by omega, by omega, H4, H3, by trivial⟩, by simp [intOf]; omega⟩
        · have H4 : Hid (valV 16 0 (D.take (i + 1)) = 4294967296) := Lib.hid (by rw [HT.out, HSV.out]; omega)
          go_wp2_with fail
          refine (HDG.out _).mono ?_
          rintro e w' ⟨rfl, rfl⟩
          go_wp2_with fail
          exact ⟨⟨i + 1, _, by omega, by go_num, rfl, by omega, by omega, H4, H3, by trivial⟩, by simp [intOf]; omega⟩
      · have hdn : digN c 16 = -1 := by rw [HDN.out]; split <;> omega
        rw [hdn] at HDG
        have H1 : Hid (onlyB 16 D = false) := Lib.hid (by rw [HS.out, decide_eq_false hb]; rfl)
        have H2 := Lib.hid (HJ.out.1.trans (by rw [H1.out, Bool.and_false]))
        have H5 := Lib.hid (HJ.out.2.2 H2.out)
        clear hb hdn
        go_wp2_with fail
        refine (HDG.out _).mono ?_
        rintro e w' ⟨rfl, rfl⟩
        go_wp2_with fail
        go_ret2
        exact ⟨tupIB H5.out.symm H2.out.symm, by trivial⟩
    · obtain rfl : i = D.length := by omega
      rw [List.take_length] at HV
      have H1 : Hid (onlyB 16 D = true) := Lib.hid (by rw [HO.out, List.drop_length]; rfl)
      have H2 := Lib.hid (HJ.out.1.trans (by rw [H1.out, Bool.and_true]))
      by_cases hD0 : 0 < D.length
      · have hD0I : (0 : Int) < (D.length : Int) := by omega
        have H5 := Lib.hid (HJ.out.2.1 (H2.out.trans (decide_eq_true hD0)))
        go_wp2_with fail
        go_ret2
        exact ⟨tupIB (by rw [H5.out, HV.out]) (by rw [H2.out, decide_eq_true hD0]), by trivial⟩
      · have hD0I : (D.length : Int) = 0 := by omega
        have H5 := Lib.hid (HJ.out.2.2 (H2.out.trans (decide_eq_false hD0)))
        obtain rfl : v = 0 := by rw [← HV.out, List.eq_nil_of_length_eq_zero (show D.length = 0 by omega)]; rfl
        go_wp2_with fail
        go_ret2
        exact ⟨tupIB (by rw [H5.out]) (by rw [H2.out, decide_eq_false hD0]), by trivial⟩
set_option maxRecDepth 100000 in
set_option maxHeartbeats 4000000 in
theorem rnumber_hexb (l : List UInt8) (w : World) (hm : l.length ≤ 1000000) (hl : 2 < l.length) (h2 : byt l 0 = 48) (h3 : byt l 1 = 88) :
    Calls Tryz.prog 57 #[.string ⟨l.toArray⟩] w fun e w' => e = .returned (.tuple #[.int .i64 (numV l), .bool (numO l)]) ∧ w = w' := by
  have c1 : (2 : Int) ≤ (l.length : Int) := by omega
  have c2 : 0 < l.length := by omega
  have c3 : 1 < l.length := by omega
  have e2 : (byt l 0 == 48) = true := by rw [beq_iff_eq]; exact h2
  have hp : hexP l = true := by unfold hexP; exact decide_eq_true ⟨by omega, h2, .inr h3⟩
  have HJ := Lib.hid (numJ_hex hp hl)
  have e3 : (byt l 1 == 120) = false := by rw [beq_eq_false_iff_ne]; omega
  have e4 : (byt l 1 == 88) = true := by rw [beq_iff_eq]; exact h3
  have hDl : (l.drop 2).length ≤ 1000000 := by simp; omega
  have hDp : 0 < (l.drop 2).length := by simp; omega
  obtain ⟨D, dd⟩ : ∃ D, l.drop 2 = D := ⟨_, rfl⟩
  rw [dd] at HJ hDl hDp
  have g0 : D ≠ [] := List.length_pos_iff.1 hDp
  have g1 : (D == []) = false := by rw [beq_eq_false_iff_ne]; exact g0
  have g2 : D.isEmpty = false := by rw [List.isEmpty_eq_false_iff]; exact g0
  clear hp h2 h3 g0 hDp
  have HST := Lib.hid (onlyB_step 16 D)
  have HTK := Lib.hid (valV_take 16 D)
  go_enter Tryz.func57, Tryz.ntmps57
  go_wp2_with fail
  go_loopw [5, 6, 7] (fun tv ti td wr => ∃ (i : Nat) (v : Int), i ≤ D.length ∧ ti = .int .i64 i ∧ tv = .int .i64 v ∧ 0 ≤ v ∧ v ≤ 4294967296 ∧ Hid (valV 16 0 (D.take i) = v) ∧ Hid (onlyB 16 D = onlyB 16 (D.drop i)) ∧ wr = w) (fun _ ti _ _ => D.length - (intOf ti).toNat)
  case atStart => exact ⟨0, 0, by omega, rfl, rfl, by decide, by decide, Lib.hid rfl, Lib.hid rfl, rfl⟩
  case round =>
    obtain ⟨i, v, hi, rfl, rfl, v0, v1, HV, HO, rfl⟩ := hrel
    by_cases hlt : i < D.length
    · have hltI : (i : Int) < (D.length : Int) := by omega
      have c0 := byt_lo D i
      have c1 := byt_hi D i
      have HDG := Lib.hid (rdigit_any (byt D i) 16 · c0 c1 (by decide) (by decide))
      have HS := Lib.hid (HO.out.trans (HST.out i hlt))
      have HT := Lib.hid (HTK.out i hlt)
      obtain ⟨x0, x1⟩ := hexN_bd (byt D i)
      obtain ⟨c, hc⟩ : ∃ c, byt D i = c := ⟨_, rfl⟩
      rw [hc] at c0 c1 HDG HS HT x0 x1
      rw [HV.out] at HT
      have HSV : Hid (stepV 16 v c = min (v * 16 + hexN c) 4294967296) := Lib.hid rfl
      have HDN : Hid (digN c 16 = if 16 ≤ hexN c then -1 else hexN c) := Lib.hid rfl
      obtain ⟨x, hx⟩ : ∃ x, hexN c = x := ⟨_, rfl⟩
      rw [hx] at HS HSV HDN x0 x1
      clear hx
      by_cases hb : 0 ≤ x ∧ x < 16
      · obtain ⟨hb1, hb2⟩ := hb
        rw [HDN.out, if_neg (by omega)] at HDG
        have H3 : Hid (onlyB 16 D = onlyB 16 (D.drop (i + 1))) := Lib.hid (by rw [HS.out, decide_eq_true ⟨hb1, hb2⟩]; rfl)
        by_cases hmn : v * 16 + x ≤ 4294967296
        · have H4 : Hid (valV 16 0 (D.take (i + 1)) = v * 16 + x) := Lib.hid (by rw [HT.out, HSV.out]; omega)
          go_wp2_with fail
          refine (HDG.out _).mono ?_
          rintro e w' ⟨rfl, rfl⟩
          go_wp2_with fail
          exact ⟨⟨i + 1, _, by omega, by go_num, rfl, by omega, by omega, H4, H3, by trivial⟩, by simp [intOf]; omega⟩
        · have H4 : Hid (valV 16 0 (D.take (i + 1)) = 4294967296) := Lib.hid (by rw [HT.out, HSV.out]; omega)
          go_wp2_with fail
          refine (HDG.out _).mono ?_
          rintro e w' ⟨rfl, rfl⟩
          go_wp2_with fail
          exact ⟨⟨i + 1, _, by omega, by go_num, rfl, by omega, by omega, H4, H3, by trivial⟩, by simp [intOf]; omega⟩
      · have hdn : digN c 16 = -1 := by rw [HDN.out]; split <;> omega
        rw [hdn] at HDG
        have H1 : Hid (onlyB 16 D = false) := Lib.hid (by rw [HS.out, decide_eq_false hb]; rfl)
        have H2 := Lib.hid (HJ.out.1.trans (by rw [H1.out, Bool.and_false]))
        have H5 := Lib.hid (HJ.out.2.2 H2.out)
        clear hb hdn
        go_wp2_with fail
        refine (HDG.out _).mono ?_
        rintro e w' ⟨rfl, rfl⟩
        go_wp2_with fail
        go_ret2
        exact ⟨tupIB H5.out.symm H2.out.symm, by trivial⟩
    · obtain rfl : i = D.length := by omega
      rw [List.take_length] at HV
      have H1 : Hid (onlyB 16 D = true) := Lib.hid (by rw [HO.out, List.drop_length]; rfl)
      have H2 := Lib.hid (HJ.out.1.trans (by rw [H1.out, Bool.and_true]))
      by_cases hD0 : 0 < D.length
      · have hD0I : (0 : Int) < (D.length : Int) := by omega
        have H5 := Lib.hid (HJ.out.2.1 (H2.out.trans (decide_eq_true hD0)))
        go_wp2_with fail
        go_ret2
        exact ⟨tupIB (by rw [H5.out, HV.out]) (by rw [H2.out, decide_eq_true hD0]), by trivial⟩
      · have hD0I : (D.length : Int) = 0 := by omega
        have H5 := Lib.hid (HJ.out.2.2 (H2.out.trans (decide_eq_false hD0)))
        obtain rfl : v = 0 := by rw [← HV.out, List.eq_nil_of_length_eq_zero (show D.length = 0 by omega)]; rfl
        go_wp2_with fail
        go_ret2
        exact ⟨tupIB (by rw [H5.out]) (by rw [H2.out, decide_eq_false hD0]), by trivial⟩
set_option maxRecDepth 100000 in
set_option maxHeartbeats 4000000 in
theorem rnumber_oct (l : List UInt8) (w : World) (hm : l.length ≤ 1000000) (hl : 2 ≤ l.length) (h2 : byt l 0 = 48) (h3 : byt l 1 ≠ 120) (h4 : byt l 1 ≠ 88) :
    Calls Tryz.prog 57 #[.string ⟨l.toArray⟩] w fun e w' => e = .returned (.tuple #[.int .i64 (numV l), .bool (numO l)]) ∧ w = w' := by
  have c1 : (2 : Int) ≤ (l.length : Int) := by omega
  have c2 : 0 < l.length := by omega
  have c3 : 1 < l.length := by omega
  have e2 : (byt l 0 == 48) = true := by rw [beq_iff_eq]; exact h2
  have e3 : (byt l 1 == 120) = false := by rw [beq_eq_false_iff_ne]; exact h3
  have e4 : (byt l 1 == 88) = false := by rw [beq_eq_false_iff_ne]; exact h4
  have HJ := Lib.hid (numJ_oct (show hexP l = false by unfold hexP; rw [decide_eq_false_iff_not]; omega) hl h2)
  have hDl : (l.drop 1).length ≤ 1000000 := by simp; omega
  obtain ⟨D, dd⟩ : ∃ D, l.drop 1 = D := ⟨_, rfl⟩
  rw [dd] at HJ hDl
  clear h2 h3 h4
  have HST := Lib.hid (onlyB_step 8 D)
  have HTK := Lib.hid (valV_take 8 D)
  go_enter Tryz.func57, Tryz.ntmps57
  go_wp2_with fail
  go_loopw [5, 6, 7] (fun tv ti td wr => ∃ (i : Nat) (v : Int), i ≤ D.length ∧ ti = .int .i64 i ∧ tv = .int .i64 v ∧ 0 ≤ v ∧ v ≤ 4294967296 ∧ Hid (valV 8 0 (D.take i) = v) ∧ Hid (onlyB 8 D = onlyB 8 (D.drop i)) ∧ wr = w) (fun _ ti _ _ => D.length - (intOf ti).toNat)
  case atStart => exact ⟨0, 0, by omega, rfl, rfl, by decide, by decide, Lib.hid rfl, Lib.hid rfl, rfl⟩
  case round =>
    obtain ⟨i, v, hi, rfl, rfl, v0, v1, HV, HO, rfl⟩ := hrel
    by_cases hlt : i < D.length
    · have hltI : (i : Int) < (D.length : Int) := by omega
      have c0 := byt_lo D i
      have c1 := byt_hi D i
      have HDG := Lib.hid (rdigit_any (byt D i) 8 · c0 c1 (by decide) (by decide))
      have HS := Lib.hid (HO.out.trans (HST.out i hlt))
      have HT := Lib.hid (HTK.out i hlt)
      obtain ⟨x0, x1⟩ := hexN_bd (byt D i)
      obtain ⟨c, hc⟩ : ∃ c, byt D i = c := ⟨_, rfl⟩
      rw [hc] at c0 c1 HDG HS HT x0 x1
      rw [HV.out] at HT
      have HSV : Hid (stepV 8 v c = min (v * 8 + hexN c) 4294967296) := Lib.hid rfl
      have HDN : Hid (digN c 8 = if 8 ≤ hexN c then -1 else hexN c) := Lib.hid rfl
      obtain ⟨x, hx⟩ : ∃ x, hexN c = x := ⟨_, rfl⟩
      rw [hx] at HS HSV HDN x0 x1
      clear hx
      by_cases hb : 0 ≤ x ∧ x < 8
      · obtain ⟨hb1, hb2⟩ := hb
        rw [HDN.out, if_neg (by omega)] at HDG
        have H3 : Hid (onlyB 8 D = onlyB 8 (D.drop (i + 1))) := Lib.hid (by rw [HS.out, decide_eq_true ⟨hb1, hb2⟩]; rfl)
        by_cases hmn : v * 8 + x ≤ 4294967296
        · have H4 : Hid (valV 8 0 (D.take (i + 1)) = v * 8 + x) := Lib.hid (by rw [HT.out, HSV.out]; omega)
          go_wp2_with fail
          refine (HDG.out _).mono ?_
          rintro e w' ⟨rfl, rfl⟩
          go_wp2_with fail
          exact ⟨⟨i + 1, _, by omega, by go_num, rfl, by omega, by omega, H4, H3, by trivial⟩, by simp [intOf]; omega⟩
        · have H4 : Hid (valV 8 0 (D.take (i + 1)) = 4294967296) := Lib.hid (by rw [HT.out, HSV.out]; omega)
          go_wp2_with fail
          refine (HDG.out _).mono ?_
          rintro e w' ⟨rfl, rfl⟩
          go_wp2_with fail
          exact ⟨⟨i + 1, _, by omega, by go_num, rfl, by omega, by omega, H4, H3, by trivial⟩, by simp [intOf]; omega⟩
      · have hdn : digN c 8 = -1 := by rw [HDN.out]; split <;> omega
        rw [hdn] at HDG
        have H1 : Hid (onlyB 8 D = false) := Lib.hid (by rw [HS.out, decide_eq_false hb]; rfl)
        have H2 := Lib.hid (HJ.out.1.trans (by rw [H1.out, Bool.and_false]))
        have H5 := Lib.hid (HJ.out.2.2 H2.out)
        clear hb hdn
        go_wp2_with fail
        refine (HDG.out _).mono ?_
        rintro e w' ⟨rfl, rfl⟩
        go_wp2_with fail
        go_ret2
        exact ⟨tupIB H5.out.symm H2.out.symm, by trivial⟩
    · obtain rfl : i = D.length := by omega
      rw [List.take_length] at HV
      have H1 : Hid (onlyB 8 D = true) := Lib.hid (by rw [HO.out, List.drop_length]; rfl)
      have H2 := Lib.hid (HJ.out.1.trans (by rw [H1.out, Bool.and_true]))
      by_cases hD0 : 0 < D.length
      · have hD0I : (0 : Int) < (D.length : Int) := by omega
        have H5 := Lib.hid (HJ.out.2.1 (H2.out.trans (decide_eq_true hD0)))
        go_wp2_with fail
        go_ret2
        exact ⟨tupIB (by rw [H5.out, HV.out]) (by rw [H2.out, decide_eq_true hD0]), by trivial⟩
      · have hD0I : (D.length : Int) = 0 := by omega
        have H5 := Lib.hid (HJ.out.2.2 (H2.out.trans (decide_eq_false hD0)))
        obtain rfl : v = 0 := by rw [← HV.out, List.eq_nil_of_length_eq_zero (show D.length = 0 by omega)]; rfl
        go_wp2_with fail
        go_ret2
        exact ⟨tupIB (by rw [H5.out]) (by rw [H2.out, decide_eq_false hD0]), by trivial⟩
set_option maxRecDepth 100000 in
set_option maxHeartbeats 4000000 in
theorem rnumber_dec (l : List UInt8) (w : World) (hm : l.length ≤ 1000000) (hl : 2 ≤ l.length) (h2 : byt l 0 ≠ 48) :
    Calls Tryz.prog 57 #[.string ⟨l.toArray⟩] w fun e w' => e = .returned (.tuple #[.int .i64 (numV l), .bool (numO l)]) ∧ w = w' := by
  have c1 : (2 : Int) ≤ (l.length : Int) := by omega
  have c2 : 0 < l.length := by omega
  have e2 : (byt l 0 == 48) = false := by rw [beq_eq_false_iff_ne]; exact h2
  have HJ := Lib.hid (numJ_dec (.inr h2))
  clear h2
  have HST := Lib.hid (onlyB_step 10 l)
  have HTK := Lib.hid (valV_take 10 l)
  go_enter Tryz.func57, Tryz.ntmps57
  go_wp2_with fail
  go_loopw [5, 6, 7] (fun tv ti td wr => ∃ (i : Nat) (v : Int), i ≤ l.length ∧ ti = .int .i64 i ∧ tv = .int .i64 v ∧ 0 ≤ v ∧ v ≤ 4294967296 ∧ Hid (valV 10 0 (l.take i) = v) ∧ Hid (onlyB 10 l = onlyB 10 (l.drop i)) ∧ wr = w) (fun _ ti _ _ => l.length - (intOf ti).toNat)
  case atStart => exact ⟨0, 0, by omega, rfl, rfl, by decide, by decide, Lib.hid rfl, Lib.hid rfl, rfl⟩
  case round =>
    obtain ⟨i, v, hi, rfl, rfl, v0, v1, HV, HO, rfl⟩ := hrel
    by_cases hlt : i < l.length
    · have hltI : (i : Int) < (l.length : Int) := by omega
      have c0 := byt_lo l i
      have c1 := byt_hi l i
      have HDG := Lib.hid (rdigit_any (byt l i) 10 · c0 c1 (by decide) (by decide))
      have HS := Lib.hid (HO.out.trans (HST.out i hlt))
      have HT := Lib.hid (HTK.out i hlt)
      obtain ⟨x0, x1⟩ := hexN_bd (byt l i)
      obtain ⟨c, hc⟩ : ∃ c, byt l i = c := ⟨_, rfl⟩
      rw [hc] at c0 c1 HDG HS HT x0 x1
      rw [HV.out] at HT
      have HSV : Hid (stepV 10 v c = min (v * 10 + hexN c) 4294967296) := Lib.hid rfl
      have HDN : Hid (digN c 10 = if 10 ≤ hexN c then -1 else hexN c) := Lib.hid rfl
      obtain ⟨x, hx⟩ : ∃ x, hexN c = x := ⟨_, rfl⟩
      rw [hx] at HS HSV HDN x0 x1
      clear hx
      by_cases hb : 0 ≤ x ∧ x < 10
      · obtain ⟨hb1, hb2⟩ := hb
        rw [HDN.out, if_neg (by omega)] at HDG
        have H3 : Hid (onlyB 10 l = onlyB 10 (l.drop (i + 1))) := Lib.hid (by rw [HS.out, decide_eq_true ⟨hb1, hb2⟩]; rfl)
        by_cases hmn : v * 10 + x ≤ 4294967296
        · have H4 : Hid (valV 10 0 (l.take (i + 1)) = v * 10 + x) := Lib.hid (by rw [HT.out, HSV.out]; omega)
          go_wp2_with fail
          refine (HDG.out _).mono ?_
          rintro e w' ⟨rfl, rfl⟩
          go_wp2_with fail
          exact ⟨⟨i + 1, _, by omega, by go_num, rfl, by omega, by omega, H4, H3, by trivial⟩, by simp [intOf]; omega⟩
        · have H4 : Hid (valV 10 0 (l.take (i + 1)) = 4294967296) := Lib.hid (by rw [HT.out, HSV.out]; omega)
          go_wp2_with fail
          refine (HDG.out _).mono ?_
          rintro e w' ⟨rfl, rfl⟩
          go_wp2_with fail
          exact ⟨⟨i + 1, _, by omega, by go_num, rfl, by omega, by omega, H4, H3, by trivial⟩, by simp [intOf]; omega⟩
      · have hdn : digN c 10 = -1 := by rw [HDN.out]; split <;> omega
        rw [hdn] at HDG
        have H1 : Hid (onlyB 10 l = false) := Lib.hid (by rw [HS.out, decide_eq_false hb]; rfl)
        have H2 := Lib.hid (HJ.out.1.trans (by rw [H1.out, Bool.and_false]))
        have H5 := Lib.hid (HJ.out.2.2 H2.out)
        clear hb hdn
        go_wp2_with fail
        refine (HDG.out _).mono ?_
        rintro e w' ⟨rfl, rfl⟩
        go_wp2_with fail
        go_ret2
        exact ⟨tupIB H5.out.symm H2.out.symm, by trivial⟩
    · obtain rfl : i = l.length := by omega
      rw [List.take_length] at HV
      have H1 : Hid (onlyB 10 l = true) := Lib.hid (by rw [HO.out, List.drop_length]; rfl)
      have H2 := Lib.hid (HJ.out.1.trans (by rw [H1.out, Bool.and_true]))
      by_cases hD0 : 0 < l.length
      · have hD0I : (0 : Int) < (l.length : Int) := by omega
        have H5 := Lib.hid (HJ.out.2.1 (H2.out.trans (decide_eq_true hD0)))
        go_wp2_with fail
        go_ret2
        exact ⟨tupIB (by rw [H5.out, HV.out]) (by rw [H2.out, decide_eq_true hD0]), by trivial⟩
      · have hD0I : (l.length : Int) = 0 := by omega
        have H5 := Lib.hid (HJ.out.2.2 (H2.out.trans (decide_eq_false hD0)))
        obtain rfl : v = 0 := by rw [← HV.out, List.eq_nil_of_length_eq_zero (show l.length = 0 by omega)]; rfl
        go_wp2_with fail
        go_ret2
        exact ⟨tupIB (by rw [H5.out]) (by rw [H2.out, decide_eq_false hD0]), by trivial⟩
set_option maxRecDepth 100000 in
set_option maxHeartbeats 4000000 in
theorem rnumber_short (l : List UInt8) (w : World) (hm : l.length ≤ 1000000) (hl : l.length < 2) :
    Calls Tryz.prog 57 #[.string ⟨l.toArray⟩] w fun e w' => e = .returned (.tuple #[.int .i64 (numV l), .bool (numO l)]) ∧ w = w' := by
  have c1 : ¬ (2 : Int) ≤ (l.length : Int) := by omega
  have c2 : decide ((2 : Int) ≤ (l.length : Int)) = false := by simpa using c1
  have c3 : (l.length : Int) < 2 := by omega
  have HJ := Lib.hid (numJ_dec (.inl hl))
  have HST := Lib.hid (onlyB_step 10 l)
  have HTK := Lib.hid (valV_take 10 l)
  go_enter Tryz.func57, Tryz.ntmps57
  go_wp2_with fail
  go_loopw [5, 6, 7] (fun tv ti td wr => ∃ (i : Nat) (v : Int), i ≤ l.length ∧ ti = .int .i64 i ∧ tv = .int .i64 v ∧ 0 ≤ v ∧ v ≤ 4294967296 ∧ Hid (valV 10 0 (l.take i) = v) ∧ Hid (onlyB 10 l = onlyB 10 (l.drop i)) ∧ wr = w) (fun _ ti _ _ => l.length - (intOf ti).toNat)
  case atStart => exact ⟨0, 0, by omega, rfl, rfl, by decide, by decide, Lib.hid rfl, Lib.hid rfl, rfl⟩
  case round =>
    obtain ⟨i, v, hi, rfl, rfl, v0, v1, HV, HO, rfl⟩ := hrel
    by_cases hlt : i < l.length
    · have hltI : (i : Int) < (l.length : Int) := by omega
      have c0 := byt_lo l i
      have c1 := byt_hi l i
      have HDG := Lib.hid (rdigit_any (byt l i) 10 · c0 c1 (by decide) (by decide))
      have HS := Lib.hid (HO.out.trans (HST.out i hlt))
      have HT := Lib.hid (HTK.out i hlt)
      obtain ⟨x0, x1⟩ := hexN_bd (byt l i)
      obtain ⟨c, hc⟩ : ∃ c, byt l i = c := ⟨_, rfl⟩
      rw [hc] at c0 c1 HDG HS HT x0 x1
      rw [HV.out] at HT
      have HSV : Hid (stepV 10 v c = min (v * 10 + hexN c) 4294967296) := Lib.hid rfl
      have HDN : Hid (digN c 10 = if 10 ≤ hexN c then -1 else hexN c) := Lib.hid rfl
      obtain ⟨x, hx⟩ : ∃ x, hexN c = x := ⟨_, rfl⟩
      rw [hx] at HS HSV HDN x0 x1
      clear hx
      by_cases hb : 0 ≤ x ∧ x < 10
      · obtain ⟨hb1, hb2⟩ := hb
        rw [HDN.out, if_neg (by omega)] at HDG
        have H3 : Hid (onlyB 10 l = onlyB 10 (l.drop (i + 1))) := Lib.hid (by rw [HS.out, decide_eq_true ⟨hb1, hb2⟩]; rfl)
        by_cases hmn : v * 10 + x ≤ 4294967296
        · have H4 : Hid (valV 10 0 (l.take (i + 1)) = v * 10 + x) := Lib.hid (by rw [HT.out, HSV.out]; omega)
          go_wp2_with fail
          refine (HDG.out _).mono ?_
          rintro e w' ⟨rfl, rfl⟩
          go_wp2_with fail
          exact ⟨⟨i + 1, _, by omega, by go_num, rfl, by omega, by omega, H4, H3, by trivial⟩, by simp [intOf]; omega⟩
        · have H4 : Hid (valV 10 0 (l.take (i + 1)) = 4294967296) := Lib.hid (by rw [HT.out, HSV.out]; omega)
          go_wp2_with fail
          refine (HDG.out _).mono ?_
          rintro e w' ⟨rfl, rfl⟩
          go_wp2_with fail
          exact ⟨⟨i + 1, _, by omega, by go_num, rfl, by omega, by omega, H4, H3, by trivial⟩, by simp [intOf]; omega⟩
      · have hdn : digN c 10 = -1 := by rw [HDN.out]; split <;> omega
        rw [hdn] at HDG
        have H1 : Hid (onlyB 10 l = false) := Lib.hid (by rw [HS.out, decide_eq_false hb]; rfl)
        have H2 := Lib.hid (HJ.out.1.trans (by rw [H1.out, Bool.and_false]))
        have H5 := Lib.hid (HJ.out.2.2 H2.out)
        clear hb hdn
        go_wp2_with fail
        refine (HDG.out _).mono ?_
        rintro e w' ⟨rfl, rfl⟩
        go_wp2_with fail
        go_ret2
        exact ⟨tupIB H5.out.symm H2.out.symm, by trivial⟩
    · obtain rfl : i = l.length := by omega
      rw [List.take_length] at HV
      have H1 : Hid (onlyB 10 l = true) := Lib.hid (by rw [HO.out, List.drop_length]; rfl)
      have H2 := Lib.hid (HJ.out.1.trans (by rw [H1.out, Bool.and_true]))
      by_cases hD0 : 0 < l.length
      · have hD0I : (0 : Int) < (l.length : Int) := by omega
        have H5 := Lib.hid (HJ.out.2.1 (H2.out.trans (decide_eq_true hD0)))
        go_wp2_with fail
        go_ret2
        exact ⟨tupIB (by rw [H5.out, HV.out]) (by rw [H2.out, decide_eq_true hD0]), by trivial⟩
      · have hD0I : (l.length : Int) = 0 := by omega
        have H5 := Lib.hid (HJ.out.2.2 (H2.out.trans (decide_eq_false hD0)))
        obtain rfl : v = 0 := by rw [← HV.out, List.eq_nil_of_length_eq_zero (show l.length = 0 by omega)]; rfl
        go_wp2_with fail
        go_ret2
        exact ⟨tupIB (by rw [H5.out]) (by rw [H2.out, decide_eq_false hD0]), by trivial⟩
set_option maxRecDepth 100000 in
set_option maxHeartbeats 4000000 in
theorem rnumber_any (l : List UInt8) (w : World) (hm : l.length ≤ 1000000) :
    Calls Tryz.prog 57 #[.string ⟨l.toArray⟩] w fun e w' => e = .returned (.tuple #[.int .i64 (numV l), .bool (numO l)]) ∧ w = w' := by
  by_cases hl : 2 ≤ l.length
  · by_cases h2 : byt l 0 = 48
    · by_cases h5 : 2 < l.length
      · by_cases h3 : byt l 1 = 120
        · exact rnumber_hexa l w hm h5 h2 h3
        · by_cases h4 : byt l 1 = 88
          · exact rnumber_hexb l w hm h5 h2 h4
          · exact rnumber_oct l w hm hl h2 h3 h4
      · by_cases h3 : byt l 1 = 120 ∨ byt l 1 = 88
        · have hp : hexP l = true := by unfold hexP; exact decide_eq_true ⟨hl, h2, h3⟩
          have hd : l.drop 2 = [] := List.drop_of_length_le (by omega)
          have H2 : Hid (numO l = true) := Lib.hid (by unfold numO bodyL; rw [if_pos hp, hd, hp]; rfl)
          have H5 : Hid (numV l = 0) := Lib.hid (by unfold numV bodyL; rw [if_pos H2.out, if_pos hp, hd]; rfl)
          have e2 : (byt l 0 == 48) = true := by rw [beq_iff_eq]; exact h2
          have c1 : (2 : Int) ≤ (l.length : Int) := by omega
          have c2 : 0 < l.length := by omega
          have c3 : 1 < l.length := by omega
          have b2 := byt_lo l 1
          clear h5
          rcases h3 with h3 | h3
          · have e3 : (byt l 1 == 120) = true := by rw [beq_iff_eq]; exact h3
            clear hp h2 h3
            go_enter Tryz.func57, Tryz.ntmps57
            go_wp2_with fail
            go_ret2
            exact ⟨tupIB H5.out.symm H2.out.symm, by trivial⟩
          · have e3 : (byt l 1 == 120) = false := by rw [beq_eq_false_iff_ne]; omega
            have e4 : (byt l 1 == 88) = true := by rw [beq_iff_eq]; exact h3
            clear hp h2 h3
            go_enter Tryz.func57, Tryz.ntmps57
            go_wp2_with fail
            go_ret2
            exact ⟨tupIB H5.out.symm H2.out.symm, by trivial⟩
        · exact rnumber_oct l w hm hl h2 (fun h => h3 (.inl h)) (fun h => h3 (.inr h))
    · exact rnumber_dec l w hm hl h2
  · exact rnumber_short l w hm (by omega)
end Go.Proofs.YtaphadmcjimmeaaGreatDoor
