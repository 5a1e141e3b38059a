/- The walk of OrderApart. -/
import Derived.Test.YtjpofnpcmonmmaaLaw2a
import Derived.Test.YtjpofnpcmonmmaaRefBy
import Derived.Test.YtjpofnpcmonmmaaScalar
import Derived.Deep.DeepCutAuto
import Derived.Deep.RegionWith
set_option linter.unusedVariables false
set_option linter.unusedSimpArgs false
namespace Go.Proofs.Ytjpofnpcmonmmaa
open Go.RowKit

theorem dec_apart (p a : List UInt8) (r : Int) (h : validL p = true) (hr : okR r) : decL (p ++ (encR r ++ a)) = decL p ++ r :: decL a := by
  rw [(dec_append _ p _ (Nat.le_refl _) h).1, (dec_enc r hr a).1]
theorem apart_pts (p a b : List UInt8) (r s : Int) (h : validL p = true) (hr : okR r) (hs : okR s) (hne : r ≠ s) : ptsS (p ++ (encR r ++ a)) (p ++ (encR s ++ b)) = cmpI r s := by
  unfold ptsS
  rw [dec_apart p a r h hr, dec_apart p b s h hs, cmpL_app, cmpL_cons hne]
theorem apart_cmp (p a b : List UInt8) (r s : Int) (h : validL p = true) (hr : okR r) (hs : okR s) (hne : r ≠ s) : cmpS (p ++ (encR r ++ a)) (p ++ (encR s ++ b)) = cmpD (r, s, 0) := by
  unfold cmpS
  rw [dec_apart p a r h hr, dec_apart p b s h hs]
  have e : ∀ x y : List Int, unitsL (x ++ y) = unitsL x ++ unitsL y := fun x y => by unfold unitsL; rw [List.flatMap_append]
  rw [e, e, cmpL_app, unitsL_cons, unitsL_cons]
  exact (cmp_head hr hs hne _ _).symm
theorem pts_val (r s : Int) (hne : r ≠ s) : (r < s ∧ cmpI r s = -1) ∨ (s < r ∧ cmpI r s = 1) := by unfold cmpI; (repeat' split) <;> omega
theorem cmp_val (r s : Int) (hr : okR r) (hs : okR s) (hne : r ≠ s) :
    (cmpD (r, s, 0) = -cmpI r s ∧ ((65535 < r ∧ 57344 ≤ s ∧ s ≤ 65535) ∨ (65535 < s ∧ 57344 ≤ r ∧ r ≤ 65535))) ∨ (cmpD (r, s, 0) = cmpI r s ∧ ¬ (65535 < r ∧ 57344 ≤ s ∧ s ≤ 65535) ∧ ¬ (65535 < s ∧ 57344 ≤ r ∧ r ≤ 65535)) := by
  unfold okR at hr hs
  have e : cmpD (r, s, 0) = if r = s then 0 else if cmpI (leadN r) (leadN s) ≠ 0 then cmpI (leadN r) (leadN s) else cmpI r s := rfl
  rw [e, if_neg hne]
  rcases Int.lt_or_le r 65536 with c1 | c1 <;> rcases Int.lt_or_le s 65536 with c2 | c2
  · rw [leadN_lo c1, leadN_lo c2, if_pos (cmpI_ne hne)]; right; exact ⟨rfl, by omega, by omega⟩
  · have h1 : r ≠ 55296 + (s - 65536) / 1024 := by omega
    rw [leadN_lo c1, leadN_hi c2, if_pos (cmpI_ne h1)]
    unfold cmpI; (repeat' split) <;> omega
  · have h1 : 55296 + (r - 65536) / 1024 ≠ s := by omega
    rw [leadN_hi c1, leadN_lo c2, if_pos (cmpI_ne h1)]
    unfold cmpI; (repeat' split) <;> omega
  · right
    refine ⟨?_, by omega, by omega⟩
    rw [leadN_hi c1, leadN_hi c2]
    by_cases h1 : 55296 + (r - 65536) / 1024 = 55296 + (s - 65536) / 1024
    · rw [if_neg (by rw [h1, cmpI_self]; decide)]
    · rw [if_pos (cmpI_ne h1)]
      unfold cmpI; (repeat' split) <;> omega

set_option maxRecDepth 100000 in
set_option maxHeartbeats 8000000 in
theorem apart_walk (p : List UInt8) (m n : Int) (a b : List UInt8) (w : World) (hp9 : p.length ≤ 9223372036854775807) (ha9 : a.length ≤ 9223372036854775807) (hb9 : b.length ≤ 9223372036854775807) (n00 : -9223372036854775808 ≤ m) (n01 : m ≤ 9223372036854775807) (n10 : -9223372036854775808 ≤ n) (n11 : n ≤ 9223372036854775807) :
    Calls Try.prog 7 #[.string ⟨p.toArray⟩, .int .i64 m, .int .i64 n, .string ⟨a.toArray⟩, .string ⟨b.toArray⟩] w fun e w' => e = .returned (.bool true) ∧ Below w.heap.size w w' := by
  cases hl : longB 200 [p, a, b] with
  | true =>
    have HL := Lib.hid hl
    clear hl
    go_enter Try.func7, Try.ntmps7
    go_wp2_with fail
    refine (long_any 200 _ [p, a, b] _ (litS _ _ [p, a, b] 3 9 _ (by rw [heap_alloc_at, if_pos (by simp)]; rfl) rfl (by decide)) (by decide) (by decide) (by simp) (by intro s hs; simp at hs; rcases hs with rfl | rfl | rfl <;> omega)).mono ?_
    rintro e w1 ⟨rfl, k, rfl⟩
    rw [HL.out]
    go_wp2_with fail
    refine (awake2_any _).mono ?_
    rintro e w1 ⟨rfl, hb⟩
    go_wp2
    go_ret
    exact ⟨rfl, ext_trans (below_drewN (ext_alloc _ _) k) hb⟩
  | false =>
    have hT := longB_tot [p, a, b] 200 hl (by simp)
    have hT2 : p.length + a.length + b.length ≤ 200 := by simp [totL] at hT; omega
    have HL := Lib.hid hl
    clear hl hT
    cases hv : validL p with
    | false =>
      have HV := Lib.hid hv
      clear hv
      go_enter Try.func7, Try.ntmps7
      go_wp2_with fail
      refine (long_any 200 _ [p, a, b] _ (litS _ _ [p, a, b] 3 9 _ (by rw [heap_alloc_at, if_pos (by simp)]; rfl) rfl (by decide)) (by decide) (by decide) (by simp) (by intro s hs; simp at hs; rcases hs with rfl | rfl | rfl <;> omega)).mono ?_
      rintro e w1 ⟨rfl, k, rfl⟩
      rw [HL.out]
      go_wp2_with (refine wpList_toBytes _ (by rfl) 9 37 _ rfl 5 Try.underlying9 Try.underlying37 Try.underlying5 p rfl (by omega) ?_)
      intro b' cap w1 h8 hb1 hbe
      have H8 := Lib.hid h8
      have HB1 := Lib.hid hb1
      clear h8 hb1 hbe
      go_wp2_with fail
      refine (rvalid_any _ p _ H8.out (by omega)).mono ?_
      rintro e w2 ⟨rfl, k2, rfl⟩
      rw [HV.out]
      go_wp2_with fail
      refine (awake2_any _).mono ?_
      rintro e w3 ⟨rfl, hb⟩
      go_wp2
      go_ret
      exact ⟨rfl, ext_trans ((below_drewN (ext_alloc _ _) k).trans (HB1.out.mono (Nat.le_succ _))) (ext_trans (ext_drew _ k2) hb)⟩
    | true =>
      have HV := Lib.hid hv
      have S1 := Lib.hid (scalar_any m · n00 n01)
      have S2 := Lib.hid (scalar_any n · n10 n11)
      have ok1 := scalarN_ok m
      have ok2 := scalarN_ok n
      generalize scalarN m = r at *
      generalize scalarN n = s at *
      by_cases hrs : r = s
      · have e0 : (r == s) = true := by rw [beq_iff_eq]; exact hrs
        clear hv hrs ok1 ok2
        go_enter Try.func7, Try.ntmps7
        go_wp2_with fail
        refine (long_any 200 _ [p, a, b] _ (litS _ _ [p, a, b] 3 9 _ (by rw [heap_alloc_at, if_pos (by simp)]; rfl) rfl (by decide)) (by decide) (by decide) (by simp) (by intro s hs; simp at hs; rcases hs with rfl | rfl | rfl <;> omega)).mono ?_
        rintro e w1 ⟨rfl, k, rfl⟩
        rw [HL.out]
        go_wp2_with (refine wpList_toBytes _ (by rfl) 9 37 _ rfl 5 Try.underlying9 Try.underlying37 Try.underlying5 p rfl (by omega) ?_)
        intro b' cap w1 h8 hb1 hbe
        have H8 := Lib.hid h8
        have HB1 := Lib.hid hb1
        clear h8 hb1 hbe
        go_wp2_with fail
        refine (rvalid_any _ p _ H8.out (by omega)).mono ?_
        rintro e w2 ⟨rfl, k2, rfl⟩
        rw [HV.out]
        go_wp2_with fail
        refine (S1.out _).mono ?_
        rintro e w' ⟨rfl, rfl⟩
        go_wp2_with fail
        refine (S2.out _).mono ?_
        rintro e w' ⟨rfl, rfl⟩
        go_wp2_with fail
        refine (awake2_any _).mono ?_
        rintro e w3 ⟨rfl, hb⟩
        go_wp2
        go_ret
        exact ⟨rfl, ext_trans ((below_drewN (ext_alloc _ _) k).trans (HB1.out.mono (Nat.le_succ _))) (ext_trans (ext_drew _ k2) hb)⟩
      · have e0 : (r == s) = false := by rw [beq_eq_false_iff_ne]; exact hrs
        have hP := pts_val r s hrs
        have hQ := cmp_val r s ok1 ok2 hrs
        have el1 := (encR_len r).2
        have el2 := (encR_len s).2
        have B1 : Hid (∀ w, Calls Try.prog 25 #[.int .i32 r] w fun e w' => ∃ v', e = .returned v' ∧ Own w' w.heap.size 5 v' ((encR r).map u8V) ∧ Below w.heap.size w w') := Lib.hid (fun w => by
          have := bytes_any r w (by unfold okR at ok1; omega) (by unfold okR at ok1; omega)
          rw [fixR_of ok1] at this; exact this)
        have B2 : Hid (∀ w, Calls Try.prog 25 #[.int .i32 s] w fun e w' => ∃ v', e = .returned v' ∧ Own w' w.heap.size 5 v' ((encR s).map u8V) ∧ Below w.heap.size w w') := Lib.hid (fun w => by
          have := bytes_any s w (by unfold okR at ok2; omega) (by unfold okR at ok2; omega)
          rw [fixR_of ok2] at this; exact this)
        have C3 : Hid (∀ w, Calls Try.prog 17 #[.string ⟨(p ++ (encR r ++ a)).toArray⟩, .string ⟨(p ++ (encR s ++ b)).toArray⟩] w fun e w' => e = .returned (.int .i64 (cmpI r s)) ∧ Laid w w') := Lib.hid (fun w => by
          rw [← apart_pts p a b r s HV.out ok1 ok2 hrs]; exact Points_any _ _ w (by simp; omega) (by simp; omega))
        have C4 : Hid (∀ w, Calls Try.prog 15 #[.string ⟨(p ++ (encR r ++ a)).toArray⟩, .string ⟨(p ++ (encR s ++ b)).toArray⟩] w fun e w' => e = .returned (.int .i64 (cmpD (r, s, 0))) ∧ Laid w w') := Lib.hid (fun w => by
          rw [← apart_cmp p a b r s HV.out ok1 ok2 hrs]; exact Compare_any _ _ w (by simp; omega) (by simp; omega))
        generalize encR r = R at *
        generalize encR s = S at *
        generalize cmpI r s = P at *
        generalize cmpD (r, s, 0) = Q at *
        have l1 : p.length + R.length ≤ 9223372036854775807 := by omega
        have l2 : p.length + R.length + a.length ≤ 9223372036854775807 := by omega
        have l3 : p.length + S.length ≤ 9223372036854775807 := by omega
        have l4 : p.length + S.length + b.length ≤ 9223372036854775807 := by omega
        have l5 : p.length + (R.length + a.length) ≤ 9223372036854775807 := by omega
        have l6 : p.length + (S.length + b.length) ≤ 9223372036854775807 := by omega
        have HPP := Lib.hid hP
        have HQQ := Lib.hid hQ
        unfold okR at ok1 ok2
        have r0 : 0 ≤ r := ok1.1
        have r1 : r ≤ 1114111 := ok1.2.1
        have s0 : 0 ≤ s := ok2.1
        have s1 : s ≤ 1114111 := ok2.2.1
        have HSH := Lib.hid (fun (w' : World) (v : Value) (d : List UInt8) (h : Is8 w' v d) => run_toStr (P := Try.prog) w' 37 9 5 Try.underlying37 Try.underlying5 Try.underlying9 v d h)
        clear hv hrs ok1 ok2 hP hQ
        go_enter Try.func7, Try.ntmps7
        go_wp2_with fail
        refine (long_any 200 _ [p, a, b] _ (litS _ _ [p, a, b] 3 9 _ (by rw [heap_alloc_at, if_pos (by simp)]; rfl) rfl (by decide)) (by decide) (by decide) (by simp) (by intro s hs; simp at hs; rcases hs with rfl | rfl | rfl <;> omega)).mono ?_
        rintro e w1 ⟨rfl, k, rfl⟩
        rw [HL.out]
        go_wp2_with (refine wpList_toBytes _ (by rfl) 9 37 _ rfl 5 Try.underlying9 Try.underlying37 Try.underlying5 p rfl (by omega) ?_)
        intro b' cap w1 h8 hb1 hbe
        have H8 := Lib.hid h8
        have HB1 := Lib.hid hb1
        clear h8 hb1 hbe
        go_wp2_with fail
        refine (rvalid_any _ p _ H8.out (by omega)).mono ?_
        rintro e w2 ⟨rfl, k2, rfl⟩
        rw [HV.out]
        go_wp2_with fail
        refine (S1.out _).mono ?_
        rintro e w' ⟨rfl, rfl⟩
        go_wp2_with fail
        refine (S2.out _).mono ?_
        rintro e w' ⟨rfl, rfl⟩
        go_upto_region 6 with fail
        go_cut [13, 14] (fun s13 s14 wx => s13 = .string ⟨(p ++ (R ++ a)).toArray⟩ ∧ s14 = .string ⟨(p ++ (S ++ b)).toArray⟩ ∧ Below w1.heap.size w1 wx)
        case first =>
          go_region_with (first
            | (go_at_call 25; (with_reducible refine (B1.out _).mono ?_); rintro e x1 ⟨v1, rfl, hown1, hc1⟩; have HX1 := Lib.hid hc1; have G1 := Lib.hid hown1.is8; have g11 := HSH.out x1 v1 _ G1.out; clear hown1 hc1)
            | (go_at_call 25; (with_reducible refine (B2.out _).mono ?_); rintro e x2 ⟨v2, rfl, hown2, hc2⟩; have HX2 := Lib.hid hc2; have G2 := Lib.hid hown2.is8; have g22 := HSH.out x2 v2 _ G2.out; have g12 := HSH.out x2 v1 _ (G1.out.below HX2.out); clear hown2 hc2))
          all_goals
            go_wp2
            go_meet
            exact ⟨rfl, rfl, ext_trans (ext_drew _ _) (ext_trans HX1.out HX2.out)⟩
        case rest =>
          obtain ⟨rfl, rfl, hbx⟩ := hcut
          have HBX := Lib.hid hbx
          clear hbx
          rcases HPP.out with ⟨hlt, rfl⟩ | ⟨hlt, rfl⟩ <;> rcases HQQ.out with ⟨rfl, hodd⟩ | ⟨rfl, hod1, hod2⟩ <;> rcases (show r < 57344 ∨ (57344 ≤ r ∧ r ≤ 65535) ∨ 65535 < r by omega) with hr | ⟨hr1, hr2⟩ | hr <;> rcases (show s < 57344 ∨ (57344 ≤ s ∧ s ≤ 65535) ∨ 65535 < s by omega) with hs | ⟨hs1, hs2⟩ | hs
          all_goals first
            | (exfalso; omega)
            | (try clear hodd
               try clear hod1 hod2
               go_wp2_with fail
               refine (C3.out _).mono ?_
               rintro e w6 ⟨rfl, l6⟩
               have L6 := Lib.hid l6.1
               clear l6
               go_wp2_with fail
               refine (C4.out _).mono ?_
               rintro e w7 ⟨rfl, l7⟩
               have L7 := Lib.hid l7.1
               clear l7
               go_wp2_with fail
               refine (awake2_any _).mono ?_
               rintro e w8 ⟨rfl, hb⟩
               go_wp2
               go_ret
               exact ⟨rfl, ext_trans (ext_trans ((below_drewN (ext_alloc _ _) k).trans (HB1.out.mono (Nat.le_succ _))) HBX.out) (ext_trans L6.out (ext_trans L7.out hb))⟩)
theorem OrderApart_walk (s0 : ByteArray) (a1 a2 : Int) (s3 s4 : ByteArray) (w : World) (w0 : s0.size ≤ maxLen) (w1 : (Lit.int .i64 a1).wf = true) (w2 : (Lit.int .i64 a2).wf = true) (w3 : s3.size ≤ maxLen) (w4 : s4.size ≤ maxLen) :
    Calls Try.prog 7 #[.string s0, .int .i64 a1, .int .i64 a2, .string s3, .string s4] w fun e w' => e = .returned (.bool true) ∧ Below w.heap.size w w' := by
  obtain ⟨n00, n01⟩ := wf64 w1
  obtain ⟨n10, n11⟩ := wf64 w2
  rw [str_is s0, str_is s3, str_is s4]
  exact apart_walk _ a1 a2 _ _ w (str_len w0) (str_len w3) (str_len w4) n00 n01 n10 n11
end Go.Proofs.Ytjpofnpcmonmmaa
