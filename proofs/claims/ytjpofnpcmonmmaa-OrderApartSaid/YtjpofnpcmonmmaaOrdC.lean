/- Contracts of order.differ, Compare, Points. -/
import Derived.Test.YtjpofnpcmonmmaaOrdB
set_option linter.unusedVariables false
set_option linter.unusedSimpArgs false
namespace Go.Proofs.Ytjpofnpcmonmmaa
open Go.RowKit

theorem tup3R {a b c : Int} {d : Int × Int × Int} (h : d = (a, b, c)) : Ending.returned (.tuple #[.int .i32 a, .int .i32 b, .int .i64 c]) = .returned (.tuple #[.int .i32 d.1, .int .i32 d.2.1, .int .i64 d.2.2]) := by rw [h]
theorem dif_end (a b : List UInt8) (x y : Nat) (hx : x ≤ a.length) (hy : y ≤ b.length) (h : x = a.length ∨ y = b.length) : dif (decL (a.drop x)) (decL (b.drop y)) = (0, 0, cmpI ((a.length : Int) - x) 0 - cmpI ((b.length : Int) - y) 0) := by
  by_cases h1 : x = a.length <;> by_cases h2 : y = b.length
  · rw [decL_nil (by simp; omega), decL_nil (by simp; omega)]
    rw [show (a.length : Int) - x = 0 from by omega, show (b.length : Int) - y = 0 from by omega, cmpI_self]; rfl
  · rw [decL_nil (by simp; omega), decL_cons (l := b.drop y) (by simp; omega)]
    rw [show (a.length : Int) - x = 0 from by omega, cmpI_self, show cmpI ((b.length : Int) - y) 0 = 1 from by unfold cmpI; rw [if_neg (by omega), if_pos (by omega)]]; rfl
  · rw [decL_nil (l := b.drop y) (by simp; omega), decL_cons (l := a.drop x) (by simp; omega)]
    rw [show (b.length : Int) - y = 0 from by omega, cmpI_self, show cmpI ((a.length : Int) - x) 0 = 1 from by unfold cmpI; rw [if_neg (by omega), if_pos (by omega)]]; rfl
  · omega
theorem dif_go (a b : List UInt8) (x y : Nat) (hx : x < a.length) (hy : y < b.length) (h : atR a x = atR b y) : dif (decL (a.drop x)) (decL (b.drop y)) = dif (decL (a.drop (x + atN a x))) (decL (b.drop (y + atN b y))) := by
  rw [decL_at a x hx, decL_at b y hy, h, dif_cons]
theorem dif_ne (a b : List UInt8) (x y : Nat) (hx : x < a.length) (hy : y < b.length) (h : atR a x ≠ atR b y) : dif (decL (a.drop x)) (decL (b.drop y)) = (atR a x, atR b y, 0) := by
  rw [decL_at a x hx, decL_at b y hy]
  show (if atR a x = atR b y then _ else _) = _
  rw [if_neg h]
set_option maxHeartbeats 2000000 in
theorem differ_any (a b : List UInt8) (w : World) (hma : a.length ≤ 1000000) (hmb : b.length ≤ 1000000) :
    Calls Try.prog 29 #[.string ⟨a.toArray⟩, .string ⟨b.toArray⟩] w fun e w' => e = .returned (.tuple #[.int .i32 (difS a b).1, .int .i32 (difS a b).2.1, .int .i64 (difS a b).2.2]) ∧ Laid w w' := by
  have HS := Lib.hid (same_any a b · hma hmb)
  go_enter Try.func29, Try.ntmps29
  go_wp2_with fail
  refine (HS.out _).mono ?_
  rintro e w' ⟨⟨n0, rfl, hn0a, hn0b, h0⟩, q0, rfl⟩
  have H0 := Lib.hid h0
  clear h0
  go_wp2_with fail
  go_loopw [7, 8, 9, 10, 11, 12] (fun tx ty t9 t10 t11 t12 wr => ∃ (x y : Nat), x ≤ a.length ∧ y ≤ b.length ∧ tx = .int .i64 x ∧ ty = .int .i64 y ∧ Hid (difS a b = dif (decL (a.drop x)) (decL (b.drop y))) ∧ Laid w wr) (fun tx _ _ _ _ _ _ => a.length - (intOf tx).toNat)
  case atStart => exact ⟨n0, n0, hn0a, hn0b, rfl, rfl, H0, laid_drew w q0⟩
  case round =>
    obtain ⟨x, y, hxa, hyb, rfl, rfl, HI, hl⟩ := hrel
    have HL := Lib.hid hl
    clear hl H0
    by_cases hx : x < a.length
    · have hxI : (x : Int) < (a.length : Int) := by omega
      by_cases hy : y < b.length
      · have hyI : (y : Int) < (b.length : Int) := by omega
        obtain ⟨n1, n2, n3⟩ := atN_bd a x hx
        obtain ⟨m1, m2, m3⟩ := atN_bd b y hy
        have CA := Lib.hid (at_laid a x · (by omega) hma)
        have CB := Lib.hid (at_laid b y · (by omega) hmb)
        have HG := Lib.hid (dif_go a b x y hx hy)
        have HN := Lib.hid (dif_ne a b x y hx hy)
        obtain ⟨r, hr⟩ : ∃ r, atR a x = r := ⟨_, rfl⟩
        obtain ⟨s, hs⟩ : ∃ s, atR b y = s := ⟨_, rfl⟩
        obtain ⟨n, hn⟩ : ∃ n, atN a x = n := ⟨_, rfl⟩
        obtain ⟨m, hm⟩ : ∃ m, atN b y = m := ⟨_, rfl⟩
        rw [hr, hn] at CA
        rw [hs, hm] at CB
        rw [hr, hs, hn, hm] at HG
        rw [hr, hs] at HN
        rw [hn] at n1 n2 n3
        rw [hm] at m1 m2 m3
        clear hr hs hn hm
        by_cases hrs : r = s
        · have e0 : (r == s) = true := by rw [beq_iff_eq]; exact hrs
          have e1 : (r != s) = false := by rw [bne, e0]; rfl
          have H1 := Lib.hid (HI.out.trans (HG.out hrs))
          clear hrs
          go_wp2_with fail
          refine (CA.out _).mono ?_
          rintro e w1 ⟨rfl, l1⟩
          have L1 := Lib.hid l1
          clear l1
          go_wp2_with fail
          refine (CB.out _).mono ?_
          rintro e w2 ⟨rfl, l2⟩
          have L2 := Lib.hid l2
          clear l2
          go_wp2_with fail
          exact ⟨⟨x + n, y + m, by omega, by omega, by go_num, by go_num, H1, (HL.out.trans L1.out).trans L2.out⟩, by simp [intOf]; omega⟩
        · have e0 : (r == s) = false := by rw [beq_eq_false_iff_ne]; exact hrs
          have e1 : (r != s) = true := by rw [bne, e0]; rfl
          have H1 := Lib.hid (HI.out.trans (HN.out hrs))
          clear hrs
          go_wp2_with fail
          refine (CA.out _).mono ?_
          rintro e w1 ⟨rfl, l1⟩
          have L1 := Lib.hid l1
          clear l1
          go_wp2_with fail
          refine (CB.out _).mono ?_
          rintro e w2 ⟨rfl, l2⟩
          have L2 := Lib.hid l2
          clear l2
          go_wp2_with fail
          go_ret3
          exact ⟨tup3R H1.out, (HL.out.trans L1.out).trans L2.out⟩
      · have hyI : ¬ (y : Int) < (b.length : Int) := by omega
        have H1 := Lib.hid (HI.out.trans (dif_end a b x y hxa hyb (.inr (by omega))))
        go_wp2_with fail
        refine (cmp_int _ _ _).mono ?_
        rintro e w1 ⟨rfl, rfl⟩
        go_wp2_with fail
        refine (cmp_int _ _ _).mono ?_
        rintro e w1 ⟨rfl, rfl⟩
        have g1 := cmpI_bd ((a.length : Int) - x) 0
        have g2 := cmpI_bd ((b.length : Int) - y) 0
        obtain ⟨u, hu⟩ : ∃ u, cmpI ((a.length : Int) - x) 0 = u := ⟨_, rfl⟩
        obtain ⟨v, hv⟩ : ∃ v, cmpI ((b.length : Int) - y) 0 = v := ⟨_, rfl⟩
        rw [hu, hv] at H1
        rw [hu] at g1
        rw [hv] at g2
        rw [hu, hv]
        clear hu hv
        go_wp2_with fail
        go_ret3
        exact ⟨tup3R H1.out, HL.out⟩
    · have hxI : ¬ (x : Int) < (a.length : Int) := by omega
      have H1 := Lib.hid (HI.out.trans (dif_end a b x y hxa hyb (.inl (by omega))))
      go_wp2_with fail
      refine (cmp_int _ _ _).mono ?_
      rintro e w1 ⟨rfl, rfl⟩
      go_wp2_with fail
      refine (cmp_int _ _ _).mono ?_
      rintro e w1 ⟨rfl, rfl⟩
      have g1 := cmpI_bd ((a.length : Int) - x) 0
      have g2 := cmpI_bd ((b.length : Int) - y) 0
      obtain ⟨u, hu⟩ : ∃ u, cmpI ((a.length : Int) - x) 0 = u := ⟨_, rfl⟩
      obtain ⟨v, hv⟩ : ∃ v, cmpI ((b.length : Int) - y) 0 = v := ⟨_, rfl⟩
      rw [hu, hv] at H1
      rw [hu] at g1
      rw [hv] at g2
      rw [hu, hv]
      clear hu hv
      go_wp2_with fail
      go_ret3
      exact ⟨tup3R H1.out, HL.out⟩
set_option maxHeartbeats 1000000 in
theorem Compare_any (a b : List UInt8) (w : World) (hma : a.length ≤ 1000000) (hmb : b.length ≤ 1000000) :
    Calls Try.prog 15 #[.string ⟨a.toArray⟩, .string ⟨b.toArray⟩] w fun e w' => e = .returned (.int .i64 (cmpS a b)) ∧ Laid w w' := by
  have HD := Lib.hid (differ_any a b · hma hmb)
  obtain ⟨⟨x0, x1⟩, ⟨y0, y1⟩, z0, z1⟩ := difS_bd a b
  have HE := cmpS_eq a b
  obtain ⟨x, y, z, hd⟩ : ∃ x y z, difS a b = (x, y, z) := ⟨_, _, _, rfl⟩
  rw [hd] at HD HE x0 x1 y0 y1 z0 z1
  clear hd
  simp only at x0 x1 y0 y1 z0 z1
  obtain ⟨c, hc⟩ : ∃ c, cmpS a b = c := ⟨_, rfl⟩
  rw [hc] at HE
  rw [hc]
  clear hc
  have HE2 : Hid ((if x = y then z else if cmpI (leadN x) (leadN y) ≠ 0 then cmpI (leadN x) (leadN y) else cmpI x y) = c) := Lib.hid HE
  clear HE
  have CX := Lib.hid (lead_any x · x0 x1)
  have CY := Lib.hid (lead_any y · y0 y1)
  by_cases hxy : x = y
  · have e0 : (x == y) = true := by rw [beq_iff_eq]; exact hxy
    have H1 : Hid (z = c) := Lib.hid (by rw [← HE2.out, if_pos hxy])
    clear hxy
    go_enter Try.func15, Try.ntmps15
    go_wp2_with fail
    refine (HD.out _).mono ?_
    rintro e w1 ⟨rfl, l1⟩
    have L1 := Lib.hid l1
    clear l1
    go_wp2_with fail
    go_ret
    exact ⟨retI H1.out, L1.out⟩
  · have e0 : (x == y) = false := by rw [beq_eq_false_iff_ne]; exact hxy
    have HE3 : Hid ((if cmpI (leadN x) (leadN y) ≠ 0 then cmpI (leadN x) (leadN y) else cmpI x y) = c) := Lib.hid (by rw [← HE2.out, if_neg hxy])
    obtain ⟨u, hu⟩ : ∃ u, cmpI (leadN x) (leadN y) = u := ⟨_, rfl⟩
    have CC : Hid (∀ w, Calls Try.prog 30 #[.int .u16 (leadN x), .int .u16 (leadN y)] w fun e w' => e = .returned (.int .i64 u) ∧ w = w') := Lib.hid (fun w => by rw [← hu]; exact cmp_uint16 _ _ w)
    rw [hu] at HE3
    clear hu hxy
    by_cases h0 : u = 0
    · have e1 : (u == 0) = true := by rw [beq_iff_eq]; exact h0
      have e2 : (u != 0) = false := by rw [bne, e1]; rfl
      have H1 : Hid (cmpI x y = c) := Lib.hid (by rw [← HE3.out, if_neg (by omega)])
      clear h0
      go_enter Try.func15, Try.ntmps15
      go_wp2_with fail
      refine (HD.out _).mono ?_
      rintro e w1 ⟨rfl, l1⟩
      have L1 := Lib.hid l1
      clear l1
      go_wp2_with fail
      refine (CX.out _).mono ?_
      rintro e w' ⟨rfl, rfl⟩
      go_wp2_with fail
      refine (CY.out _).mono ?_
      rintro e w' ⟨rfl, rfl⟩
      go_wp2_with fail
      refine (CC.out _).mono ?_
      rintro e w' ⟨rfl, rfl⟩
      go_wp2_with fail
      refine (cmp_rune x y _).mono ?_
      rintro e w' ⟨rfl, rfl⟩
      go_wp2_with fail
      go_ret
      exact ⟨retI H1.out, L1.out⟩
    · have e1 : (u == 0) = false := by rw [beq_eq_false_iff_ne]; exact h0
      have e2 : (u != 0) = true := by rw [bne, e1]; rfl
      have H1 : Hid (u = c) := Lib.hid (by rw [← HE3.out, if_pos h0])
      clear h0
      go_enter Try.func15, Try.ntmps15
      go_wp2_with fail
      refine (HD.out _).mono ?_
      rintro e w1 ⟨rfl, l1⟩
      have L1 := Lib.hid l1
      clear l1
      go_wp2_with fail
      refine (CX.out _).mono ?_
      rintro e w' ⟨rfl, rfl⟩
      go_wp2_with fail
      refine (CY.out _).mono ?_
      rintro e w' ⟨rfl, rfl⟩
      go_wp2_with fail
      refine (CC.out _).mono ?_
      rintro e w' ⟨rfl, rfl⟩
      go_wp2_with fail
      go_ret
      exact ⟨retI H1.out, L1.out⟩
set_option maxHeartbeats 1000000 in
theorem Points_any (a b : List UInt8) (w : World) (hma : a.length ≤ 1000000) (hmb : b.length ≤ 1000000) :
    Calls Try.prog 17 #[.string ⟨a.toArray⟩, .string ⟨b.toArray⟩] w fun e w' => e = .returned (.int .i64 (ptsS a b)) ∧ Laid w w' := by
  have HD := Lib.hid (differ_any a b · hma hmb)
  have HE := ptsS_eq a b
  obtain ⟨x, y, z, hd⟩ : ∃ x y z, difS a b = (x, y, z) := ⟨_, _, _, rfl⟩
  rw [hd] at HD HE
  clear hd
  obtain ⟨c, hc⟩ : ∃ c, ptsS a b = c := ⟨_, rfl⟩
  rw [hc] at HE
  rw [hc]
  clear hc
  have HE2 : Hid ((if x = y then z else cmpI x y) = c) := Lib.hid HE
  clear HE
  by_cases hxy : x = y
  · have e0 : (x == y) = true := by rw [beq_iff_eq]; exact hxy
    have H1 : Hid (z = c) := Lib.hid (by rw [← HE2.out, if_pos hxy])
    clear hxy
    go_enter Try.func17, Try.ntmps17
    go_wp2_with fail
    refine (HD.out _).mono ?_
    rintro e w1 ⟨rfl, l1⟩
    have L1 := Lib.hid l1
    clear l1
    go_wp2_with fail
    go_ret
    exact ⟨retI H1.out, L1.out⟩
  · have e0 : (x == y) = false := by rw [beq_eq_false_iff_ne]; exact hxy
    have H1 : Hid (cmpI x y = c) := Lib.hid (by rw [← HE2.out, if_neg hxy])
    clear hxy
    go_enter Try.func17, Try.ntmps17
    go_wp2_with fail
    refine (HD.out _).mono ?_
    rintro e w1 ⟨rfl, l1⟩
    have L1 := Lib.hid l1
    clear l1
    go_wp2_with fail
    refine (cmp_rune x y _).mono ?_
    rintro e w' ⟨rfl, rfl⟩
    go_wp2_with fail
    go_ret
    exact ⟨retI H1.out, L1.out⟩
end Go.Proofs.Ytjpofnpcmonmmaa
