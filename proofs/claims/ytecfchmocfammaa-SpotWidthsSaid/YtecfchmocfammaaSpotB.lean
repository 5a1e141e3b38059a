/- Contracts of spot.Wide and of ref3. -/
import Derived.Test.YtecfchmocfammaaSpotA
import Derived.Test.YtecfchmocfammaaRef2U
set_option linter.unusedVariables false
set_option linter.unusedSimpArgs false
namespace Go.Proofs.Ytecfchmocfammaa
open Go.RowKit

def cpL (ls : List (List UInt8)) : Nat := (ls.map fun l => (decL l).length).sum
def uuL (ls : List (List UInt8)) : Nat := (ls.map fun l => unL (decL l)).sum
def lenL (ls : List (List UInt8)) : Nat := (ls.map List.length).sum
theorem cpL_take (ls : List (List UInt8)) (i : Nat) (h : i < ls.length) : cpL (ls.take (i + 1)) = cpL (ls.take i) + (decL (ls.getD i [])).length := by
  unfold cpL; rw [List.take_succ_eq_append_getElem h, List.map_append, List.sum_append]; congr 1; simp [List.getD, h]
theorem uuL_take (ls : List (List UInt8)) (i : Nat) (h : i < ls.length) : uuL (ls.take (i + 1)) = uuL (ls.take i) + unL (decL (ls.getD i [])) := by
  unfold uuL; rw [List.take_succ_eq_append_getElem h, List.map_append, List.sum_append]; congr 1; simp [List.getD, h]
theorem wide_bd (ls : List (List UInt8)) : cpL ls ≤ lenL ls ∧ uuL ls ≤ 2 * lenL ls := by
  induction ls with
  | nil => simp [cpL, uuL, lenL]
  | cons l t ih =>
    have h1 := decL_len _ l (Nat.le_refl _)
    have h2 := (unL_bd (decL l)).2
    have e1 : cpL (l :: t) = (decL l).length + cpL t := by simp [cpL]
    have e2 : uuL (l :: t) = unL (decL l) + uuL t := by simp [uuL]
    have e3 : lenL (l :: t) = l.length + lenL t := by simp [lenL]
    omega
theorem lenL_take (ls : List (List UInt8)) (i : Nat) (h : i < ls.length) : lenL (ls.take i) + (ls.getD i []).length ≤ lenL ls := by
  have e : lenL ls = lenL (ls.take (i + 1)) + lenL (ls.drop (i + 1)) := by
    conv => lhs; rw [← List.take_append_drop (i + 1) ls]
    unfold lenL; rw [List.map_append, List.sum_append]
  have e2 : lenL (ls.take (i + 1)) = lenL (ls.take i) + (ls.getD i []).length := by
    unfold lenL; rw [List.take_succ_eq_append_getElem h, List.map_append, List.sum_append]; congr 1; simp [List.getD, h]
  omega

set_option maxRecDepth 100000 in
set_option maxHeartbeats 2000000 in
theorem Wide_any (v : Value) (ls : List (List UInt8)) (w : World) (hv : IsStr w v ls) (hm : ls.length ≤ 1000000) (ht : lenL ls ≤ 1000000) :
    Calls Try.prog 12 #[v] w fun e w' => e = .returned (.complex .f64 (F (cpL ls)) (F (uuL ls))) ∧ Below w.heap.size w w' := by
  obtain ⟨a, cap, rfl, hc1, hc2, -, hsl⟩ := hv
  unfold maxLen at hc2
  have HC : Hid (0 < ls.length → ∃ b off, a = some ⟨b, off, none⟩ ∧ Cells w b off ls.length (strAt ls)) := Lib.hid hsl
  have HW := Lib.hid (wide_bd)
  have HL := Lib.hid (lenL_take ls)
  clear hsl
  go_enter Try.func12, Try.ntmps12
  go_wp2_with fail
  go_loopw [3, 11] (fun ts ti wr => ∃ (i : Nat), i ≤ ls.length ∧ ti = .int .i64 i ∧ ts = .complex .f64 (F (cpL (ls.take i))) (F (uuL (ls.take i))) ∧ Below w.heap.size w wr) (fun _ ti _ => ls.length - (intOf ti).toNat)
  case atStart => exact ⟨0, by omega, rfl, cpx_eq F0_eq.symm F0_eq.symm, Below.refl _ _⟩
  case round =>
    obtain ⟨i, hi, rfl, rfl, hbel⟩ := hrel
    by_cases hlt : i < ls.length
    · obtain ⟨b, off, rfl, hc⟩ := HC.out (by omega)
      have hcell : wr.cell? ⟨b, off + i, none⟩ = some (.string ⟨(ls.getD i []).toArray⟩) := (hc.below hbel (hc.lt (by omega))).at i hlt
      have HT1 := Lib.hid (cpL_take ls i hlt)
      have HT2 := Lib.hid (uuL_take ls i hlt)
      have hbd := HW.out (ls.take i)
      have hll := HL.out i hlt
      clear hc HC
      obtain ⟨s, hs⟩ : ∃ s, ls.getD i [] = s := ⟨_, rfl⟩
      rw [hs] at hcell HT1 HT2 hll
      clear hs
      have hds := decL_len _ s (Nat.le_refl _)
      have hus := (unL_bd (decL s)).2
      obtain ⟨p, hp⟩ : ∃ p, cpL (ls.take i) = p := ⟨_, rfl⟩
      obtain ⟨q, hq⟩ : ∃ q, uuL (ls.take i) = q := ⟨_, rfl⟩
      rw [hp] at hbd HT1
      rw [hq] at hbd HT2
      rw [hp, hq]
      clear hp hq
      obtain ⟨hbd1, hbd2⟩ := hbd
      obtain ⟨wo, rfl⟩ : ∃ wo : World, wo = wr := ⟨_, rfl⟩
      go_wp2_with fail
      go_loopw [3, 6] (fun ts tk wr => ∃ (k x y : Nat), k ≤ s.length ∧ tk = .int .i64 k ∧ ts = .complex .f64 (F x) (F y) ∧ Hid (x + (decL (s.drop k)).length = p + (decL s).length) ∧ Hid (y + unL (decL (s.drop k)) = q + unL (decL s)) ∧ x ≤ 3000000 ∧ y ≤ 5000000 ∧ Below w.heap.size w wr) (fun _ tk _ => s.length - (intOf tk).toNat)
      case atStart => exact ⟨0, p, q, by omega, rfl, rfl, Lib.hid (by simp), Lib.hid (by simp), by omega, by omega, hbel⟩
      case round =>
        obtain ⟨k, x, y, hk, rfl, rfl, HX, HY, hx, hy, hbel2⟩ := hrel
        by_cases hlk : k < s.length
        · obtain ⟨n1, n2, n3⟩ := atN_bd s k hlk
          obtain ⟨r1, r2⟩ := atR_bd s k
          have HD := decL_at s k hlk
          have hkl : (k : Int) < s.length := by omega
          have HAT := Lib.hid (at_any s k · (by omega) (by omega))
          obtain ⟨r, hr⟩ : ∃ r, atR s k = r := ⟨_, rfl⟩
          obtain ⟨n, hn⟩ : ∃ n, atN s k = n := ⟨_, rfl⟩
          rw [hn] at n1 n2 n3 HD HAT
          rw [hr] at r1 r2 HD HAT
          have HX2 := HX.out
          have HY2 := HY.out
          rw [HD, List.length_cons] at HX2
          rw [HD, unL_cons] at HY2
          clear hr hn HD HX HY hcell
          by_cases h6 : r < 65536
          · have hq1 : Hid ((x + 1) + (decL (s.drop (k + n))).length = p + (decL s).length) := Lib.hid (by omega)
            have hq2 : Hid ((y + 1) + unL (decL (s.drop (k + n))) = q + unL (decL s)) := Lib.hid (by unfold unR at HY2; rw [if_pos h6] at HY2; omega)
            have hxb : x + 1 ≤ 3000000 := by have := hq1.out; omega
            have hyb : y + 1 ≤ 5000000 := by have := hq2.out; omega
            have e1 : ∀ w, (binOp .add 26 (.complex .f64 (F x) (F y)) (.complex .f64 4607182418800017408 4607182418800017408)).run Try.prog w = .ok (.complex .f64 (F (x + 1)) (F (y + 1))) w := fun w => by
              have := run_cadd Try.prog 26 x y 1 1 (by omega) (by omega) (by omega) w
              rw [F1_eq] at this; exact this
            clear HX2 HY2
            go_wp2_with fail
            refine (HAT.out _).mono ?_
            rintro e w1 ⟨rfl, hb1⟩
            have HB1 := Lib.hid hb1
            clear hb1
            go_wp2_with fail
            exact ⟨⟨k + n, x + 1, y + 1, by omega, by go_num, cpx_eq rfl rfl, hq1, hq2, hxb, hyb, ext_trans hbel2 HB1.out⟩, by simp [intOf]; omega⟩
          · have hq1 : Hid ((x + 1) + (decL (s.drop (k + n))).length = p + (decL s).length) := Lib.hid (by omega)
            have hq2 : Hid ((y + 2) + unL (decL (s.drop (k + n))) = q + unL (decL s)) := Lib.hid (by unfold unR at HY2; rw [if_neg h6] at HY2; omega)
            have hxb : x + 1 ≤ 3000000 := by have := hq1.out; omega
            have hyb : y + 2 ≤ 5000000 := by have := hq2.out; omega
            have e1 : ∀ w, (binOp .add 26 (.complex .f64 (F x) (F y)) (.complex .f64 4607182418800017408 4611686018427387904)).run Try.prog w = .ok (.complex .f64 (F (x + 1)) (F (y + 2))) w := fun w => by
              have := run_cadd Try.prog 26 x y 1 2 (by omega) (by omega) (by omega) w
              rw [F1_eq, F2_eq] at this; exact this
            clear HX2 HY2
            go_wp2_with fail
            refine (HAT.out _).mono ?_
            rintro e w1 ⟨rfl, hb1⟩
            have HB1 := Lib.hid hb1
            clear hb1
            go_wp2_with fail
            exact ⟨⟨k + n, x + 1, y + 2, by omega, by go_num, cpx_eq rfl rfl, hq1, hq2, hxb, hyb, ext_trans hbel2 HB1.out⟩, by simp [intOf]; omega⟩
        · obtain rfl : k = s.length := by omega
          have hx3 : Hid (x = cpL (ls.take (i + 1))) := Lib.hid (by have := HX.out; rw [List.drop_length] at this; rw [HT1.out]; simpa [decL_nil] using this)
          have hy3 : Hid (y = uuL (ls.take (i + 1))) := Lib.hid (by have := HY.out; rw [List.drop_length] at this; rw [HT2.out]; simpa [decL_nil, unL] using this)
          clear hcell
          go_wp2_with fail
          exact ⟨⟨i + 1, by omega, by go_num, by rw [← hx3.out, ← hy3.out], hbel2⟩, by simp [intOf]; omega⟩
    · obtain rfl : i = ls.length := by omega
      go_wp2_with fail
      go_ret
      exact ⟨ret_c (by rw [List.take_length]) (by rw [List.take_length]), hbel⟩

theorem tupNN {a b a' b' : Int} (h1 : a = a') (h2 : b = b') : Ending.returned (.tuple #[.int .i64 a, .int .i64 b]) = .returned (.tuple #[.int .i64 a', .int .i64 b']) := by rw [h1, h2]
set_option maxHeartbeats 2000000 in
theorem rBehind_any (a b : Int) (l : List UInt8) (w : World) (hm : l.length ≤ 1000000) (ha : 1 ≤ a) (hb : 1 ≤ b) (ha2 : a ≤ 4503599627370496) (hb2 : b ≤ 4503599627370496) :
    Calls Try.prog 19 #[.int .i64 a, .int .i64 b, .string ⟨l.toArray⟩] w fun e w' => e = .returned (.tuple #[.int .i64 (posL (a, b) (decL l)).1, .int .i64 (posL (a, b) (decL l)).2]) ∧ Below w.heap.size w w' := by
  have hd := decL_len _ l (Nat.le_refl _)
  go_enter Try.func19, Try.ntmps19
  go_wp2_with (refine wpList_toBytes _ (by rfl) 9 37 _ rfl 5 Try.underlying9 Try.underlying37 Try.underlying5 l rfl (by omega) ?_)
  intro b1 cap w1 h8 hb1 hbe
  have H8 := Lib.hid h8
  have HB1 := Lib.hid hb1
  clear h8 hb1 hbe
  go_wp2_with fail
  refine (rdecode_any _ l _ H8.out (by omega)).mono ?_
  rintro e w2 ⟨v2, rfl, hown2, hbb⟩
  have hs2 := hown2.is32
  have hB2 := ext_trans HB1.out hbb
  have HBD := Lib.hid (decL_bd2 l)
  obtain ⟨rs, hrs⟩ : ∃ rs, decL l = rs := ⟨_, rfl⟩
  rw [hrs] at hd hs2 hown2 HBD
  have HD := Lib.hid hrs
  obtain ⟨ad, cap2, rfl, hc1, hc2, -, hs⟩ := hs2
  unfold maxLen at hc2
  have HC : Hid (0 < rs.length → ∃ b off, ad = some ⟨b, off, none⟩ ∧ Cells w2 b off rs.length (i32At rs)) := Lib.hid hs
  have HB2 := Lib.hid hB2
  clear hrs hs hown2 hbb hB2
  go_wp2_with fail
  go_loop [0, 1, 9] (fun tx ty ti => ∃ (i : Nat) (x y : Int), i ≤ rs.length ∧ ti = .int .i64 i ∧ tx = .int .i64 x ∧ ty = .int .i64 y ∧ 1 ≤ x ∧ x ≤ a + i ∧ 1 ≤ y ∧ y ≤ b + i ∧ Hid (posL (a, b) (rs.take i) = (x, y))) (fun _ _ ti => rs.length - (intOf ti).toNat)
  case atStart => exact ⟨0, a, b, by omega, rfl, rfl, rfl, by omega, by omega, by omega, by omega, Lib.hid rfl⟩
  case round =>
    obtain ⟨i, x, y, hi, rfl, rfl, rfl, hx1, hx2, hy1, hy2, HP⟩ := hrel
    by_cases hlt : i < rs.length
    · obtain ⟨b', off, rfl, hc⟩ := HC.out (by omega)
      have hcell : w2.cell? ⟨b', off + i, none⟩ = some (.int .i32 (rs.getD i 0)) := hc.at i hlt
      have HT := posL_take (a, b) rs i hlt
      rw [HP.out] at HT
      obtain ⟨hr1, hr2⟩ := HBD.out i hlt
      clear hc HC
      obtain ⟨r, hr⟩ : ∃ r, rs.getD i 0 = r := ⟨_, rfl⟩
      rw [hr] at hcell hr1 hr2 HT
      have HT := Lib.hid HT
      clear hr
      by_cases h10 : r = 10
      · have HN : Hid (posL (a, b) (rs.take (i + 1)) = (x + 1, 1)) := Lib.hid (by rw [HT.out]; unfold posS; rw [if_pos h10])
        have e0 : (r == 10) = true := by rw [beq_iff_eq]; exact h10
        clear h10
        go_wp2_with fail
        exact ⟨⟨i + 1, x + 1, 1, by omega, by go_num, rfl, rfl, by omega, by push_cast; omega, by omega, by omega, HN⟩, by simp [intOf]; omega⟩
      · have HN : Hid (posL (a, b) (rs.take (i + 1)) = (x, y + 1)) := Lib.hid (by rw [HT.out]; unfold posS; rw [if_neg h10])
        have e0 : (r == 10) = false := by rw [beq_eq_false_iff_ne]; exact h10
        clear h10
        go_wp2_with fail
        exact ⟨⟨i + 1, x, y + 1, by omega, by go_num, rfl, rfl, by omega, by push_cast; omega, by omega, by push_cast; omega, HN⟩, by simp [intOf]; omega⟩
    · obtain rfl : i = rs.length := by omega
      have HE : Hid (posL (a, b) rs = (x, y)) := Lib.hid (by have := HP.out; rwa [List.take_length] at this)
      go_wp2_with fail
      go_ret2
      exact ⟨by rw [HD.out]; exact tupNN (by rw [HE.out]) (by rw [HE.out]), HB2.out⟩

set_option maxHeartbeats 1000000 in
theorem rAt_any (l : List UInt8) (k : Int) (w : World) (hm : l.length ≤ 1000000) (h0 : -9223372036854775808 ≤ k) (h1 : k ≤ 9223372036854775807) :
    Calls Try.prog 10 #[.string ⟨l.toArray⟩, .int .i64 k] w fun e w' => e = .returned (.tuple #[.int .i64 (plcL l k).1, .int .i64 (plcL l k).2]) ∧ Below w.heap.size w w' := by
  obtain ⟨c1, c2, c3⟩ := cutK_bd l k
  have HC : Hid (∀ t, l.take (cutK l k) = t → ∀ w, Calls Try.prog 19 #[.int .i64 1, .int .i64 1, .string ⟨t.toArray⟩] w fun e w' => e = .returned (.tuple #[.int .i64 (plcL l k).1, .int .i64 (plcL l k).2]) ∧ Below w.heap.size w w') := Lib.hid (fun t ht w => by
    rw [← ht]
    unfold plcL
    exact rBehind_any 1 1 (l.take (cutK l k)) w (by rw [List.length_take]; omega) (by decide) (by decide) (by decide) (by decide))
  by_cases c1 : k < 0
  · have HT : Hid (∀ w, Calls Try.prog 19 #[.int .i64 1, .int .i64 1, .string ByteArray.empty] w fun e w' => e = .returned (.tuple #[.int .i64 (plcL l k).1, .int .i64 (plcL l k).2]) ∧ Below w.heap.size w w') := Lib.hid (HC.out [] (by rw [show cutK l k = 0 from by unfold cutK; omega]; rfl))
    clear HC
    go_enter Try.func10, Try.ntmps10
    go_wp2_with fail
    all_goals
      refine (HT.out _).mono ?_
      rintro e w1 ⟨rfl, hb⟩
      go_wp2
      go_ret2
      exact ⟨tupNN rfl rfl, hb⟩
  · obtain ⟨n, rfl⟩ := Int.eq_ofNat_of_zero_le (show 0 ≤ k by omega)
    by_cases c2 : n ≤ l.length
    · by_cases c4 : 0 < n
      · have HT := Lib.hid (HC.out (l.take n) (by rw [show cutK l n = n from by unfold cutK; omega]))
        clear HC
        have c3 : (n : Int) ≤ l.length := by omega
        go_enter Try.func10, Try.ntmps10
        go_wp2_with fail
        all_goals
          refine (HT.out _).mono ?_
          rintro e w1 ⟨rfl, hb⟩
          go_wp2
          go_ret2
          exact ⟨tupNN rfl rfl, hb⟩
      · have HT := Lib.hid (HC.out [] (by rw [show cutK l n = 0 from by unfold cutK; omega]; rfl))
        clear HC
        have c3 : (n : Int) ≤ l.length := by omega
        go_enter Try.func10, Try.ntmps10
        go_wp2_with fail
        all_goals
          refine (HT.out _).mono ?_
          rintro e w1 ⟨rfl, hb⟩
          go_wp2
          go_ret2
          exact ⟨tupNN rfl rfl, hb⟩
    · by_cases c4 : 0 < l.length
      · have HT := Lib.hid (HC.out l (by rw [show cutK l n = l.length from by unfold cutK; omega, List.take_length]))
        clear HC
        have c3 : (l.length : Int) < n := by omega
        go_enter Try.func10, Try.ntmps10
        go_wp2_with fail
        all_goals
          refine (HT.out _).mono ?_
          rintro e w1 ⟨rfl, hb⟩
          go_wp2
          go_ret2
          exact ⟨tupNN rfl rfl, hb⟩
      · have HT := Lib.hid (HC.out [] (by rw [show cutK l n = 0 from by unfold cutK; omega]; rfl))
        clear HC
        have c3 : (l.length : Int) < n := by omega
        go_enter Try.func10, Try.ntmps10
        go_wp2_with fail
        all_goals
          refine (HT.out _).mono ?_
          rintro e w1 ⟨rfl, hb⟩
          go_wp2
          go_ret2
          exact ⟨tupNN rfl rfl, hb⟩

theorem units_un (rs : List Int) (h : ∀ r ∈ rs, 0 ≤ r ∧ r ≤ 1114111) : (unitsL rs).length = unL rs := by
  induction rs with
  | nil => rfl
  | cons r t ih =>
    show (unitsR r ++ unitsL t).length = unR r + unL t
    rw [List.length_append, ih fun r hr => h r (List.mem_cons_of_mem _ hr)]
    congr 1
    unfold unitsR unR
    by_cases c : r < 65536
    · rw [if_neg (by omega), if_pos c]; rfl
    · rw [if_pos (by omega), if_neg c]; rfl
set_option maxHeartbeats 1000000 in
theorem rWide_any (l : List UInt8) (w : World) (hm : l.length ≤ 1000000) :
    Calls Try.prog 9 #[.string ⟨l.toArray⟩] w fun e w' => e = .returned (.tuple #[.int .i64 (decL l).length, .int .i64 (unL (decL l))]) ∧ Below w.heap.size w w' := by
  have hu := units_un (decL l) (fun r hr => decL_r2 _ l (Nat.le_refl _) r hr)
  have HU := Lib.hid hu
  clear hu
  go_enter Try.func9, Try.ntmps9
  go_wp2_with (refine wpList_toBytes _ (by rfl) 9 37 _ rfl 5 Try.underlying9 Try.underlying37 Try.underlying5 l rfl (by omega) ?_)
  intro b1 cap w1 h8 hb1 hbe
  have H8 := Lib.hid h8
  have HB1 := Lib.hid hb1
  clear h8 hb1 hbe
  go_wp2_with fail
  refine (rdecode_any _ l _ H8.out (by omega)).mono ?_
  rintro e w2 ⟨v2, rfl, hown2, hbb⟩
  obtain ⟨a2, c2, hv2, -⟩ := hown2.is32
  have HB2 := Lib.hid hbb
  clear hown2 hbb
  subst hv2
  go_wp2_with fail
  refine (rUnits_any l _ hm).mono ?_
  rintro e w3 ⟨v3, rfl, hown3, hb3⟩
  obtain ⟨a3, c3, hv3, -⟩ := hown3.isSl (f := fun i => u16V ((unitsL (decL l)).getD i 0)) (by intro i hi; simp at hi; simp [hi, List.getD])
  rw [List.length_map, HU.out] at hv3
  have HB3 := Lib.hid hb3
  clear hown3 hb3
  subst hv3
  go_wp2
  go_ret2
  exact ⟨tupNN rfl rfl, ext_trans (ext_trans HB1.out HB2.out) HB3.out⟩
end Go.Proofs.Ytecfchmocfammaa
