import Derived.Lib.EndianBits
import Derived.Laws.StructEq
import Derived.Test.YtncfmmpdlcnboaaTq9
import Derived.Test.YtncfmmpdlcnboaaTq10
set_option linter.unusedVariables false
set_option linter.unusedSimpArgs false
namespace Go.Proofs.Ytncfmmpdlcnboaa
open Go.RowKit
theorem wraps_i32t (n : Int) (h0 : 0 ≤ n) (h1 : n < 2 ^ 31) : IntKind.i32.wrap n = n := by
  simp [IntKind.wrap, IntKind.bits, IntKind.signed]; omega
theorem i32_or4 (x y : Int) (hx0 : 0 ≤ x) (hx1 : x < 4096) (hy : 0 ≤ y) (h : y < 16) : bits .or .i32 (x * 16) y = x * 16 + y :=
  bits_join .i32 31 (by decide) wraps_i32t 4 _ _ (by omega) (by omega) (by omega) hy (by omega) (by omega)
theorem tup32B {a a' : Int} {c c' : Bool} (h1 : a = a') (h3 : c = c') : Ending.returned (.tuple #[.int .i32 a, .bool c]) = .returned (.tuple #[.int .i32 a', .bool c']) := by rw [h1, h3]
theorem here_q (vb : Value) (b : List UInt8) (w : World) (hv : Is8 w vb b) (hm : b.length ≤ 1000000) (x : Int) (h0 : 0 ≤ x) (h1 : x ≤ 2000000) (n : Nat) :
    Calls Try.prog 28 #[vb, .int .i64 x] (w.drewN n) fun e w' => e = .returned (.int .u8 (byt b x.toNat)) ∧ w' = w.drewN n := by
  obtain ⟨i, rfl⟩ := Int.eq_ofNat_of_zero_le h0
  exact (here_any vb b i (w.drewN n) hv hm (by omega)).mono fun _ _ ⟨p, q⟩ => ⟨p, q.symm⟩
set_option maxRecDepth 100000 in
set_option maxHeartbeats 4000000 in
theorem unit_any (g : Nat) (vb : Value) (b : List UInt8) (i : Nat) (keep : Bool) (n : Int) (vt : Value) (w : World) (hs : Scan w g vb i keep n vt) (ht : Text w g vb b) (hi : i ≤ b.length) :
    Calls Try.prog 51 #[.pointer (some ⟨g, 0, none⟩)] w fun e w' => e = .returned (.tuple #[.int .i32 (hexM b 4 i 0).1, .bool (hexM b 4 i 0).2.2]) ∧ Scan w' g vb (hexM b 4 i 0).2.1 keep n vt ∧ w.grownBy w' (some g) := by
  have HT := Lib.hid ht
  have hm := ht.le
  have HS := Lib.hid hs
  clear ht hs
  go_enter Try.func51, Try.ntmps51
  go_wp2_with fail
  go_loopw [4, 5, 6] (fun tu td tk wr => ∃ (k j : Nat) (u : Int), (k = 0 ∧ u < 1 ∨ k = 1 ∧ u < 16 ∨ k = 2 ∧ u < 256 ∨ k = 3 ∧ u < 4096 ∨ k = 4 ∧ u < 65536) ∧ 0 ≤ u ∧ tk = .int .i64 k ∧ tu = .int .i32 u ∧ j ≤ b.length ∧ Hid (hexM b 4 i 0 = hexM b (4 - k) j u) ∧ Scan wr g vb j keep n vt ∧ w.grownBy wr (some g)) (fun _ _ tk _ => 4 - (intOf tk).toNat)
  case atStart => exact ⟨0, i, 0, .inl ⟨rfl, by decide⟩, by decide, rfl, rfl, hi, Lib.hid rfl, HS.out, grown_refl _ _⟩
  case round =>
    obtain ⟨k, j, u, hk, hu0, rfl, rfl, hj, HE, hs, hg⟩ := hrel
    have HTr := Lib.hid (HT.out.grown hg)
    have HSr := Lib.hid hs
    have HG := Lib.hid hg
    have c0 : wr.cell? ⟨g, 0, none⟩ = some vb := by rw [hs.cell]; rfl
    have c1 : wr.cell? ⟨g, 1, none⟩ = some (.int .i64 j) := by rw [hs.cell]; rfl
    have fz : wr.frozen? ⟨g, 1, none⟩ = false := hs.frozen 1
    have HQ := Lib.hid (here_q vb b wr HTr.out.is hm (j : Int) (by omega) (by omega))
    have b0 := byt_lo b j
    have b1 := byt_hi b j
    have HX := Lib.hid (fun W => hex_any (byt b j) W b0 b1)
    obtain ⟨x0, x1⟩ := hexN_bd (byt b j)
    have HN := Lib.hid (fun k (h : hexN (byt b j) < 0) => hexM_no (k := k) (n := u) h)
    have HY := Lib.hid (fun k (h : ¬ hexN (byt b j) < 0) => hexM_yes (k := k) (n := u) h)
    have HL := Lib.hid (fun (h : ¬ hexN (byt b j) < 0) => hexN_lt h)
    have ej : ((j : Int)).toNat = j := by omega
    rw [ej] at HQ
    obtain ⟨x, hx⟩ : ∃ x, hexN (byt b j) = x := ⟨_, rfl⟩
    rw [hx] at HX x0 x1 HN HY HL
    clear hs hg hx ej
    rcases hk with ⟨rfl, hu⟩ | ⟨rfl, hu⟩ | ⟨rfl, hu⟩ | ⟨rfl, hu⟩ | ⟨rfl, hu⟩
    · by_cases hx : x < 0
      · have HF := Lib.hid (HE.out.trans (HN.out 3 hx))
        go_wp2_with fail
        go_quiet ((first | (go_at_call 28; exact Calls.quiet_of_same (HQ.out _)) | (go_at_call 56; exact Calls.quiet_of_same ((HX.out _).mono fun _ _ ⟨p, q⟩ => ⟨p, q.symm⟩))))
        go_wp2_with fail
        go_ret2
        exact ⟨tup32B (by rw [HF.out]) (by rw [HF.out]), by rw [HF.out]; exact Box.drew HSr.out _, grownBy_trans HG.out (grownBy_drew _ _ _)⟩
      · have HF := Lib.hid (HE.out.trans (HY.out 3 hx))
        have hl := HL.out hx
        have hor : bits .or .i32 (u * 16) x = u * 16 + x := i32_or4 u x hu0 (by omega) (by omega) (by omega)
        go_wp2_with fail
        go_quiet ((first | (go_at_call 28; exact Calls.quiet_of_same (HQ.out _)) | (go_at_call 56; exact Calls.quiet_of_same ((HX.out _).mono fun _ _ ⟨p, q⟩ => ⟨p, q.symm⟩))))
        go_wp2_with fail
        exact ⟨⟨1, j + 1, u * 16 + x, .inr (.inl ⟨rfl, by omega⟩), by omega, by first | rfl | go_num, rfl, by omega, HF, HSr.out.to _ _ _ (by omega), grown_to HG.out _ _ _⟩, by simp [intOf]⟩
    · by_cases hx : x < 0
      · have HF := Lib.hid (HE.out.trans (HN.out 2 hx))
        go_wp2_with fail
        go_quiet ((first | (go_at_call 28; exact Calls.quiet_of_same (HQ.out _)) | (go_at_call 56; exact Calls.quiet_of_same ((HX.out _).mono fun _ _ ⟨p, q⟩ => ⟨p, q.symm⟩))))
        go_wp2_with fail
        go_ret2
        exact ⟨tup32B (by rw [HF.out]) (by rw [HF.out]), by rw [HF.out]; exact Box.drew HSr.out _, grownBy_trans HG.out (grownBy_drew _ _ _)⟩
      · have HF := Lib.hid (HE.out.trans (HY.out 2 hx))
        have hl := HL.out hx
        have hor : bits .or .i32 (u * 16) x = u * 16 + x := i32_or4 u x hu0 (by omega) (by omega) (by omega)
        go_wp2_with fail
        go_quiet ((first | (go_at_call 28; exact Calls.quiet_of_same (HQ.out _)) | (go_at_call 56; exact Calls.quiet_of_same ((HX.out _).mono fun _ _ ⟨p, q⟩ => ⟨p, q.symm⟩))))
        go_wp2_with fail
        exact ⟨⟨2, j + 1, u * 16 + x, .inr (.inr (.inl ⟨rfl, by omega⟩)), by omega, by first | rfl | go_num, rfl, by omega, HF, HSr.out.to _ _ _ (by omega), grown_to HG.out _ _ _⟩, by simp [intOf]⟩
    · by_cases hx : x < 0
      · have HF := Lib.hid (HE.out.trans (HN.out 1 hx))
        go_wp2_with fail
        go_quiet ((first | (go_at_call 28; exact Calls.quiet_of_same (HQ.out _)) | (go_at_call 56; exact Calls.quiet_of_same ((HX.out _).mono fun _ _ ⟨p, q⟩ => ⟨p, q.symm⟩))))
        go_wp2_with fail
        go_ret2
        exact ⟨tup32B (by rw [HF.out]) (by rw [HF.out]), by rw [HF.out]; exact Box.drew HSr.out _, grownBy_trans HG.out (grownBy_drew _ _ _)⟩
      · have HF := Lib.hid (HE.out.trans (HY.out 1 hx))
        have hl := HL.out hx
        have hor : bits .or .i32 (u * 16) x = u * 16 + x := i32_or4 u x hu0 (by omega) (by omega) (by omega)
        go_wp2_with fail
        go_quiet ((first | (go_at_call 28; exact Calls.quiet_of_same (HQ.out _)) | (go_at_call 56; exact Calls.quiet_of_same ((HX.out _).mono fun _ _ ⟨p, q⟩ => ⟨p, q.symm⟩))))
        go_wp2_with fail
        exact ⟨⟨3, j + 1, u * 16 + x, .inr (.inr (.inr (.inl ⟨rfl, by omega⟩))), by omega, by first | rfl | go_num, rfl, by omega, HF, HSr.out.to _ _ _ (by omega), grown_to HG.out _ _ _⟩, by simp [intOf]⟩
    · by_cases hx : x < 0
      · have HF := Lib.hid (HE.out.trans (HN.out 0 hx))
        go_wp2_with fail
        go_quiet ((first | (go_at_call 28; exact Calls.quiet_of_same (HQ.out _)) | (go_at_call 56; exact Calls.quiet_of_same ((HX.out _).mono fun _ _ ⟨p, q⟩ => ⟨p, q.symm⟩))))
        go_wp2_with fail
        go_ret2
        exact ⟨tup32B (by rw [HF.out]) (by rw [HF.out]), by rw [HF.out]; exact Box.drew HSr.out _, grownBy_trans HG.out (grownBy_drew _ _ _)⟩
      · have HF := Lib.hid (HE.out.trans (HY.out 0 hx))
        have hl := HL.out hx
        have hor : bits .or .i32 (u * 16) x = u * 16 + x := i32_or4 u x hu0 (by omega) (by omega) (by omega)
        go_wp2_with fail
        go_quiet ((first | (go_at_call 28; exact Calls.quiet_of_same (HQ.out _)) | (go_at_call 56; exact Calls.quiet_of_same ((HX.out _).mono fun _ _ ⟨p, q⟩ => ⟨p, q.symm⟩))))
        go_wp2_with fail
        exact ⟨⟨4, j + 1, u * 16 + x, .inr (.inr (.inr (.inr (⟨rfl, by omega⟩)))), by omega, by first | rfl | go_num, rfl, by omega, HF, HSr.out.to _ _ _ (by omega), grown_to HG.out _ _ _⟩, by simp [intOf]⟩
    · have HF : Hid (hexM b 4 i 0 = (u, j, true)) := Lib.hid HE.out
      go_wp2_with fail
      go_ret2
      exact ⟨tup32B (by rw [HF.out]) (by rw [HF.out]), by rw [HF.out]; exact HSr.out, HG.out⟩
theorem ret_i32 {a b : Int} (h : a = b) : Ending.returned (.int .i32 a) = .returned (.int .i32 b) := by rw [h]
theorem ret_u8 {a b : Int} (h : a = b) : Ending.returned (.int .u8 a) = .returned (.int .u8 b) := by rw [h]
theorem Scan.to0 {w : World} {g : Nat} {vb vt : Value} {i : Nat} {keep : Bool} {n : Int} (h : Scan w g vb i keep n vt) (j : Nat) (x : Int) (hx : x = (j : Int)) : Scan (w.setCell ⟨g, 1, none⟩ (.int .i64 x)) g vb j keep n vt := by
  subst hx
  exact Box.set h 1 (by simp) _
theorem grown_to0 {w wr : World} {g : Nat} (h : w.grownBy wr (some g)) (i : Nat) (v : Value) : w.grownBy (wr.setCell ⟨g, i, none⟩ v) (some g) :=
  grownBy_trans h (grownBy_set _ g i v)
set_option maxRecDepth 100000 in
set_option maxHeartbeats 4000000 in
theorem point_any (g : Nat) (vb : Value) (b : List UInt8) (p : Nat) (u : Int) (keep : Bool) (n : Int) (vt : Value) (w : World) (hs : Scan w g vb p keep n vt) (ht : Text w g vb b) (hp : p ≤ b.length) (u0 : 0 ≤ u) (u1 : u < 65536) :
    Calls Try.prog 53 #[.pointer (some ⟨g, 0, none⟩), .int .i32 u] w fun e w' => e = .returned (.int .i32 (pointM b u p).1) ∧ Scan w' g vb (pointM b u p).2 keep n vt ∧ w.grownBy w' (some g) := by
  have hm := ht.le
  have HT := Lib.hid ht
  have HS := Lib.hid hs
  have c0 : w.cell? ⟨g, 0, none⟩ = some vb := by rw [hs.cell]; rfl
  have c1 : w.cell? ⟨g, 1, none⟩ = some (.int .i64 p) := by rw [hs.cell]; rfl
  have fz : w.frozen? ⟨g, 1, none⟩ = false := hs.frozen 1
  have HQ := Lib.hid (here_q vb b w ht.is hm)
  have HNO := Lib.hid (@pointM_no b u p)
  have HYE := Lib.hid (@pointM_yes b u p)
  have t0 : ((p : Int)).toNat = p := by omega
  have t1 : ((p : Int) + 1).toNat = p + 1 := by omega
  have HLB : Hid (lowB b p = decide (byt b p = 92 ∧ byt b (p + 1) = 117 ∧ (hexM b 4 (p + 2) 0).2.2 = true ∧ 56320 ≤ (hexM b 4 (p + 2) 0).1 ∧ (hexM b 4 (p + 2) 0).1 < 57344)) := Lib.hid rfl
  clear hs ht
  by_cases h1 : u < 55296
  · have HP := Lib.hid (HNO.out (.inl h1))
    go_enter Try.func53, Try.ntmps53
    have d1 : decide (u < 55296) = true := by simpa using h1
    go_wp2_with fail
    go_quiet (fail)
    go_wp2_with fail
    go_ret
    exact ⟨ret_i32 (by rw [HP.out]), by rw [HP.out]; exact Box.drew HS.out _, grownBy_drew _ _ _⟩
  have h1' : 55296 ≤ u := by omega
  have d1 : decide (u < 55296) = false := by simpa using h1'
  by_cases h2 : 56320 ≤ u
  · have HP := Lib.hid (HNO.out (.inr (.inl h2)))
    have d2 : decide (56320 ≤ u) = true := by simpa using h2
    go_enter Try.func53, Try.ntmps53
    go_wp2_with fail
    go_quiet (fail)
    go_wp2_with fail
    go_ret
    exact ⟨ret_i32 (by rw [HP.out]), by rw [HP.out]; exact Box.drew HS.out _, grownBy_drew _ _ _⟩
  have h2' : u < 56320 := by omega
  have d2 : decide (56320 ≤ u) = false := by simpa using h2'
  by_cases h3 : byt b p = 92
  · have g1 : (byt b p != 92) = false := by rw [h3]; rfl
    have hl := byt_lt h3 (by decide)
    by_cases h4 : byt b (p + 1) = 117
    · have g2 : (byt b (p + 1) != 117) = false := by rw [h4]; rfl
      have hl2 := byt_lt h4 (by decide)
      have HU := Lib.hid (fun w' (hs' : Scan w' g vb (p + 2) keep n vt) (ht' : Text w' g vb b) => unit_any g vb b (p + 2) keep n vt w' hs' ht' (by omega))
      obtain ⟨v0, v1⟩ := hexM_val b 4 (p + 2) 0 (by decide)
      have HQB := Lib.hid (hexM_bd b 4 (p + 2) 0 (by omega))
      obtain ⟨R, hR⟩ : ∃ R, hexM b 4 (p + 2) 0 = R := ⟨_, rfl⟩
      rw [hR] at HU HLB HYE v0 v1 HQB
      clear hR
      obtain ⟨l, q, ok⟩ := R
      have v0 : 0 ≤ l := v0
      have v1 : l < 65536 := by have : l < (0 + 1) * 16 ^ 4 := v1; omega
      have HU2 : Hid (∀ w', Scan w' g vb (p + 2) keep n vt → Text w' g vb b → Calls Try.prog 51 #[.pointer (some ⟨g, 0, none⟩)] w' fun e w'' => e = .returned (.tuple #[.int .i32 l, .bool ok]) ∧ Scan w'' g vb q keep n vt ∧ w'.grownBy w'' (some g)) := Lib.hid HU.out
      have HY2 : Hid (lowB b p = true → pointM b u p = (65536 + (u - 55296) * 1024 + (l - 56320), q)) := Lib.hid (HYE.out h1' h2')
      have HL2 : Hid (lowB b p = decide (ok = true ∧ 56320 ≤ l ∧ l < 57344)) := Lib.hid (by
        rw [HLB.out]
        have a1 := h3
        have a2 := h4
        show decide (byt b p = 92 ∧ byt b (p + 1) = 117 ∧ ok = true ∧ 56320 ≤ l ∧ l < 57344) = _
        simp [a1, a2])
      clear HU HYE HLB h3 h4 hl
      go_enter Try.func53, Try.ntmps53
      go_wp2_with fail
      go_quiet ((go_at_call 28; exact Calls.quiet_of_same (HQ.out _ (by omega) (by omega) _)))
      have HS1 := Lib.hid (fun k => HS.out.to k (p + 2) ((p : Int) + 2) (by omega))
      have HG1 := Lib.hid (fun k => grown_to (grown_refl w (some g)) k 1 (.int .i64 ((p : Int) + 2)))
      go_wp2_with fail
      refine (HU2.out _ (HS1.out _) (HT.out.grown (HG1.out _))).mono ?_
      rintro e x1 ⟨rfl, hs2, hg2⟩
      have f1 : x1.cell? ⟨g, 1, none⟩ = some (.int .i64 q) := hs2.c1
      have f2 : x1.frozen? ⟨g, 1, none⟩ = false := hs2.frozen 1
      have HS2 := Lib.hid hs2
      have HG2 := Lib.hid (grownBy_trans (HG1.out _) hg2)
      clear hs2 hg2
      by_cases hok : ok = true ∧ 56320 ≤ l ∧ l < 57344
      · have HP := Lib.hid (HY2.out (by rw [HL2.out]; exact decide_eq_true hok))
        obtain ⟨rfl, k1, k2⟩ := hok
        go_wp2_with fail
        go_ret
        exact ⟨ret_i32 (by rw [HP.out]), by rw [HP.out]; exact HS2.out, HG2.out⟩
      · have HP := Lib.hid (HNO.out (.inr (.inr (by rw [HL2.out]; exact decide_eq_false hok))))
        cases ok with
        | false =>
          go_wp2_with fail
          go_ret
          exact ⟨ret_i32 (by rw [HP.out]), by rw [HP.out]; exact HS2.out.to0 _ _ rfl, grown_to0 HG2.out _ _⟩
        | true =>
          by_cases k1 : l < 56320
          · go_wp2_with fail
            go_ret
            exact ⟨ret_i32 (by rw [HP.out]), by rw [HP.out]; exact HS2.out.to0 _ _ rfl, grown_to0 HG2.out _ _⟩
          · have k1' : 56320 ≤ l := by omega
            have k2 : 57344 ≤ l := by
              rcases Int.lt_or_le l 57344 with h | h
              · exact absurd ⟨rfl, k1', h⟩ hok
              · exact h
            clear hok
            go_wp2_with fail
            go_ret
            exact ⟨ret_i32 (by rw [HP.out]), by rw [HP.out]; exact HS2.out.to0 _ _ rfl, grown_to0 HG2.out _ _⟩
    · have g2 : (byt b (p + 1) != 117) = true := by simpa using h4
      have HP := Lib.hid (HNO.out (.inr (.inr (by rw [HLB.out, decide_eq_false_iff_not]; rintro ⟨_, h, _⟩; exact h4 h))))
      clear h3 h4 HLB HYE
      go_enter Try.func53, Try.ntmps53
      go_wp2_with fail
      go_quiet ((go_at_call 28; exact Calls.quiet_of_same (HQ.out _ (by omega) (by omega) _)))
      go_wp2_with fail
      go_ret
      exact ⟨ret_i32 (by rw [HP.out]), by rw [HP.out]; exact Box.drew HS.out _, grownBy_drew _ _ _⟩
  · have g1 : (byt b p != 92) = true := by simpa using h3
    have HP := Lib.hid (HNO.out (.inr (.inr (by rw [HLB.out, decide_eq_false_iff_not]; rintro ⟨h, _⟩; exact h3 h))))
    clear h3 HLB HYE
    go_enter Try.func53, Try.ntmps53
    go_wp2_with fail
    go_quiet ((go_at_call 28; exact Calls.quiet_of_same (HQ.out _ (by omega) (by omega) _)))
    go_wp2_with fail
    go_ret
    exact ⟨ret_i32 (by rw [HP.out]), by rw [HP.out]; exact Box.drew HS.out _, grownBy_drew _ _ _⟩
set_option maxHeartbeats 2000000 in
theorem short_any (c : Int) (w : World) (h0 : 0 ≤ c) (h1 : c ≤ 255) :
    Calls Try.prog 54 #[.int .u8 c] w fun e w' => e = .returned (.int .u8 (shortN c)) ∧ w = w' := by
  have HX : Hid (shortN c = if c = 34 ∨ c = 92 ∨ c = 47 then c else if c = 98 then 8 else if c = 102 then 12 else if c = 110 then 10 else if c = 114 then 13 else if c = 116 then 9 else 0) := Lib.hid rfl
  rcases (by omega : c = 34 ∨ c = 92 ∨ c = 47 ∨ c = 98 ∨ c = 102 ∨ c = 110 ∨ c = 114 ∨ c = 116 ∨ (c ≠ 34 ∧ c ≠ 92 ∧ c ≠ 47 ∧ c ≠ 98 ∧ c ≠ 102 ∧ c ≠ 110 ∧ c ≠ 114 ∧ c ≠ 116)) with h | h | h | h | h | h | h | h | ⟨k1, k2, k3, k4, k5, k6, k7, k8⟩
  all_goals first
    | (subst h
       go_enter Try.func54, Try.ntmps54
       go_wp2_with fail
       go_ret
       exact ⟨rfl, by trivial⟩)
    | (have e1 : (c == 34) = false := by simpa using k1
       have e2 : (c == 92) = false := by simpa using k2
       have e3 : (c == 47) = false := by simpa using k3
       have e4 : (c == 98) = false := by simpa using k4
       have e5 : (c == 102) = false := by simpa using k5
       have e6 : (c == 110) = false := by simpa using k6
       have e7 : (c == 114) = false := by simpa using k7
       have e8 : (c == 116) = false := by simpa using k8
       have HZ : Hid (shortN c = 0) := Lib.hid (by rw [HX.out]; (repeat' split) <;> first | rfl | omega)
       clear k1 k2 k3 k4 k5 k6 k7 k8
       go_enter Try.func54, Try.ntmps54
       go_wp2_with fail
       go_ret
       exact ⟨ret_u8 HZ.out.symm, by trivial⟩)
theorem escM_u {b : List UInt8} {i : Nat} (h : byt b (i + 1) = 117) (u : Int) (p : Nat) (ok : Bool) (hR : hexM b 4 (i + 2) 0 = (u, p, ok)) :
    escM b i = (if ok = true then encR (fixR (pointM b u p).1) else [], (pointM b u p).2, ok) := by
  unfold escM
  rw [if_pos h, hR]
  cases ok with
  | true => rfl
  | false =>
    have h0 := hexM_zero b 4 (i + 2) 0 (by rw [hR])
    rw [hR] at h0
    have h0 : u = 0 := h0
    subst h0
    rw [pointM_no (.inl (show (0 : Int) < 55296 by decide))]; rfl
theorem tupVB {v : Value} {c c' : Bool} (h : c = c') : Ending.returned (.tuple #[v, .bool c]) = .returned (.tuple #[v, .bool c']) := by rw [h]
set_option maxRecDepth 100000 in
set_option maxHeartbeats 4000000 in
theorem escape_any (g : Nat) (vb : Value) (b : List UInt8) (i : Nat) (keep : Bool) (n : Int) (vt : Value) (w : World) (hs : Scan w g vb i keep n vt) (ht : Text w g vb b) (hi : i < b.length) :
    Calls Try.prog 47 #[.pointer (some ⟨g, 0, none⟩)] w fun e w' => ∃ v', e = .returned (.tuple #[v', .bool (escM b i).2.2]) ∧ ((escM b i).2.2 = true → Own w' w.heap.size 5 v' ((escM b i).1.map u8V)) ∧ Scan w' g vb (escM b i).2.1 keep n vt ∧ w.grownBy w' (some g) := by
  have hm := ht.le
  have HT := Lib.hid ht
  have HS := Lib.hid hs
  have c0 : w.cell? ⟨g, 0, none⟩ = some vb := by rw [hs.cell]; rfl
  have c1 : w.cell? ⟨g, 1, none⟩ = some (.int .i64 i) := by rw [hs.cell]; rfl
  have fz : w.frozen? ⟨g, 1, none⟩ = false := hs.frozen 1
  have HT1 := Lib.hid (ht.grown (grown_to0 (grown_refl w (some g)) 1 (.int .i64 ((i : Int) + 1))))
  have HG1 := Lib.hid (grown_to0 (grown_refl w (some g)) 1 (.int .i64 ((i : Int) + 1)))
  have HS1 := Lib.hid (hs.to0 (i + 1) ((i : Int) + 1) (by omega))
  have HQ := Lib.hid (here_q vb b _ HT1.out.is hm)
  have t1 : ((i : Int) + 1).toNat = i + 1 := by omega
  have b0 := byt_lo b (i + 1)
  have b1 := byt_hi b (i + 1)
  clear hs ht
  by_cases hu : byt b (i + 1) = 117
  · have g1 : (byt b (i + 1) == 117) = true := by rw [hu]; rfl
    have hl := byt_lt hu (by decide)
    have HU := Lib.hid (fun w' (hs' : Scan w' g vb (i + 2) keep n vt) (ht' : Text w' g vb b) => unit_any g vb b (i + 2) keep n vt w' hs' ht' (by omega))
    obtain ⟨v0, v1⟩ := hexM_val b 4 (i + 2) 0 (by decide)
    have hqb := hexM_bd b 4 (i + 2) 0 (by omega)
    have HES := Lib.hid (escM_u hu)
    obtain ⟨R, hR⟩ : ∃ R, hexM b 4 (i + 2) 0 = R := ⟨_, rfl⟩
    rw [hR] at HU v0 v1 hqb HES
    clear hR
    obtain ⟨u, p, ok⟩ := R
    have v0 : 0 ≤ u := v0
    have v1 : u < 65536 := by have : u < (0 + 1) * 16 ^ 4 := v1; omega
    have hpb : p ≤ b.length := hqb.2
    have HU2 : Hid (∀ w', Scan w' g vb (i + 2) keep n vt → Text w' g vb b → Calls Try.prog 51 #[.pointer (some ⟨g, 0, none⟩)] w' fun e w'' => e = .returned (.tuple #[.int .i32 u, .bool ok]) ∧ Scan w'' g vb p keep n vt ∧ w'.grownBy w'' (some g)) := Lib.hid HU.out
    have HE2 := Lib.hid (HES.out u p ok rfl)
    have HPT := Lib.hid (fun w' hs' ht' => point_any g vb b p u keep n vt w' hs' ht' hpb v0 v1)
    have hptb : 0 ≤ (pointM b u p).1 ∧ (pointM b u p).1 ≤ 1114111 := by
      unfold pointM
      split
      · rename_i hc
        have h2 := of_decide_eq_true hc.2.2
        show 0 ≤ 65536 + (u - 55296) * 1024 + ((hexM b 4 (p + 2) 0).1 - 56320) ∧ _ ≤ _
        omega
      · show 0 ≤ u ∧ u ≤ _; omega
    obtain ⟨pt, hpt⟩ : ∃ pt, pointM b u p = pt := ⟨_, rfl⟩
    rw [hpt] at HE2 HPT hptb
    clear hpt HU HES hqb hu
    obtain ⟨r, q⟩ := pt
    have hptb : 0 ≤ r ∧ r ≤ 1114111 := hptb
    have HPT2 : Hid (∀ w', Scan w' g vb p keep n vt → Text w' g vb b → Calls Try.prog 53 #[.pointer (some ⟨g, 0, none⟩), .int .i32 u] w' fun e w'' => e = .returned (.int .i32 r) ∧ Scan w'' g vb q keep n vt ∧ w'.grownBy w'' (some g)) := Lib.hid HPT.out
    have HE3 : Hid (escM b i = (if ok = true then encR (fixR r) else [], q, ok)) := Lib.hid HE2.out
    obtain ⟨r0, r1⟩ := hptb
    clear HPT HE2 v0 v1
    go_enter Try.func47, Try.ntmps47
    go_wp2_with fail
    go_quiet ((go_at_call 28; exact Calls.quiet_of_same (HQ.out _ (by omega) (by omega) _)))
    go_wp2_with fail
    refine (HU2.out _ (HS1.out.to _ (i + 2) _ (by omega)) (HT1.out.grown (grown_to (grown_refl _ _) _ 1 _))).mono ?_
    rintro e x1 ⟨rfl, hs2, hg2⟩
    have HS2 := Lib.hid hs2
    have HG2 := Lib.hid (grownBy_trans (grownBy_trans HG1.out (grown_to (grown_refl _ (some g)) _ 1 _)) hg2)
    have HT2 := Lib.hid (HT.out.grown HG2.out)
    clear hs2 hg2
    go_wp2_with fail
    refine (HPT2.out _ HS2.out HT2.out).mono ?_
    rintro e x2 ⟨rfl, hs3, hg3⟩
    have HS3 := Lib.hid hs3
    have HG3 := Lib.hid (grownBy_trans HG2.out hg3)
    clear hs3 hg3
    have H32 := Lib.hid (lit32 (x2.alloc (.cells #[.int .i32 r] 21)) x2.heap.size [r] 1 21 (by rw [heap_alloc_at, if_pos rfl]; rfl) rfl (by decide))
    go_wp2_with fail
    refine (encode_any _ [r] _ H32.out (by simp) (fun k hk => by
      have : k = 0 := by simpa using hk
      subst this
      show -2147483648 ≤ r ∧ r ≤ 2147483647
      omega)).mono ?_
    rintro e x3 ⟨v3, rfl, hown3, hb3⟩
    have HB3 := Lib.hid (ext_trans (ext_alloc x2 _) hb3)
    have HO3 := Lib.hid (Own.base hown3 (show w.heap.size ≤ _ by have := HG3.out.size; simp; omega))
    clear hown3 hb3
    go_wp2_with fail
    go_ret2
    refine ⟨v3, tupVB (by rw [HE3.out]), fun hok => ?_, ?_, ?_⟩
    · rw [HE3.out] at hok ⊢
      have hok : ok = true := hok
      subst hok
      have e1 : encL [r] = encR (fixR r) := by simp [encL]
      rw [e1] at HO3
      exact HO3.out
    · rw [HE3.out]; exact HS3.out.below HB3.out (Box.lt HS3.out)
    · exact grownBy_trans HG3.out (grownBy_below HB3.out _)
  · have g1 : (byt b (i + 1) == 117) = false := by simpa using hu
    have HSH := Lib.hid (short_any (byt b (i + 1)) · b0 b1)
    have hsb := shortN_bd (byt b (i + 1))
    have HE : Hid (escM b i = if shortN (byt b (i + 1)) = 0 then ([], i + 1, false) else ([mkB (shortN (byt b (i + 1)))], i + 2, true)) := Lib.hid (by unfold escM; rw [if_neg hu])
    have HLL : Hid (shortN (byt b (i + 1)) ≠ 0 → i + 1 < b.length) := Lib.hid (fun h3 => by
      rcases Nat.lt_or_ge (i + 1) b.length with h4 | h4
      · exact h4
      · rw [byt_over h4] at h3; exact absurd (by decide) h3)
    obtain ⟨c, hc⟩ : ∃ c, shortN (byt b (i + 1)) = c := ⟨_, rfl⟩
    rw [hc] at HSH HE HLL hsb
    obtain ⟨s0, s1⟩ := hsb
    clear hc hu
    by_cases hz : c = 0
    · have HE3 : Hid (escM b i = ([], i + 1, false)) := Lib.hid (by rw [HE.out, if_pos hz])
      subst hz
      go_enter Try.func47, Try.ntmps47
      go_wp2_with fail
      go_quiet ((go_at_call 28; exact Calls.quiet_of_same (HQ.out _ (by omega) (by omega) _)))
      go_wp2_with fail
      refine (HSH.out _).mono ?_
      rintro e w' ⟨rfl, rfl⟩
      go_wp2_with fail
      go_ret2
      exact ⟨.slice none 0 0, tupVB (by rw [HE3.out]), (fun h => by rw [HE3.out] at h; cases h), by rw [HE3.out]; exact Box.drew HS1.out _, grownBy_trans HG1.out (grownBy_drew _ _ _)⟩
    · have HE3 : Hid (escM b i = ([mkB c], i + 2, true)) := Lib.hid (by rw [HE.out, if_neg hz])
      have z1 : (c == 0) = false := by simpa using hz
      have hl := HLL.out hz
      clear hz
      go_enter Try.func47, Try.ntmps47
      go_wp2_with fail
      go_quiet ((go_at_call 28; exact Calls.quiet_of_same (HQ.out _ (by omega) (by omega) _)))
      go_wp2_with fail
      refine (HSH.out _).mono ?_
      rintro e w' ⟨rfl, rfl⟩
      go_wp2_with fail
      go_ret2
      have HOW := Lib.hid (fun (W : World) (hW : w.heap.size ≤ W.heap.size) => Own.lit W w.heap.size 5 #[.int .u8 c] 1 rfl hW (by decide))
      have HGW := Lib.hid (fun k x => grown_to HG1.out k 1 x)
      refine ⟨.slice (some ⟨_, 0, none⟩) 1 1, tupVB (by rw [HE3.out]), fun _ => ?_, ?_, ?_⟩
      rotate_left
      · rw [HE3.out]; exact Box.alloc (HS1.out.to _ (i + 2) _ (by omega)) _
      · exact grownBy_trans (HGW.out _ _) (grownBy_none (World.grownBy_alloc _ _ none))
      · rw [HE3.out]
        have e1 : [mkB c].map u8V = [Value.int .u8 c] := by simp [u8V_mk s0 s1]
        show Own _ _ _ _ ([mkB c].map u8V)
        rw [e1]
        simpa using HOW.out _ (HGW.out _ _).size
section
abbrev Tk := Int × Nat × List UInt8
def tokC (t : Tk) : List Value := [.int .i64 t.1, .int .i64 t.2.1, .string ⟨t.2.2.toArray⟩]
def OwnT (w : World) (B : Nat) (v : Value) (ts : List Tk) : Prop := w.ownsRow B 40 3 v ts.length (ts.flatMap tokC)
theorem OwnT.nil (w : World) (B : Nat) : OwnT w B (.slice none 0 0) [] := World.ownsRow_nil w B _ 3
theorem OwnT.row {w : World} {B : Nat} {v : Value} {ts : List Tk} (h : OwnT w B v ts) : ∀ k, v.ownBlock = some k → B ≤ k ∧ k < w.heap.size := World.ownsRow.lt h
theorem OwnT.kept {w w' : World} {B : Nat} {v : Value} {ts : List Tk} {row : Option Nat} (h : OwnT w B v ts) (hg : w.grownBy w' row) (hne : v.ownBlock = none ∨ v.ownBlock ≠ row) : OwnT w' B v ts := World.ownsRow.kept h hg hne
theorem OwnT.below {w w' : World} {B : Nat} {v : Value} {ts : List Tk} (h : OwnT w B v ts) (hw : Below w.heap.size w w') : OwnT w' B v ts :=
  h.kept (grownBy_below hw none) (by cases v.ownBlock <;> simp)
theorem OwnT.slice {w : World} {B : Nat} {v : Value} {ts : List Tk} (h : OwnT w B v ts) : ∃ a c, v = .slice a ts.length c := by
  rcases h.2 with ⟨rfl, hn⟩ | ⟨g, cap, cur, rfl, _⟩
  · exact ⟨none, 0, by rw [hn]⟩
  · exact ⟨_, cap, rfl⟩
theorem OwnT.ne {w : World} {B : Nat} {v : Value} {ts : List Tk} (h : OwnT w B v ts) {g : Nat} {cs : List Value} (hb : Box w g 48 cs) : v.ownBlock ≠ some g := by
  rcases h.2 with ⟨rfl, _⟩ | ⟨g2, cap, cur, rfl, _, hh, _⟩
  · simp [Value.ownBlock]
  · intro e
    have e : g2 = g := by simpa [Value.ownBlock] using e
    subst e
    have hb2 : w.heap[g2]? = some (.cells cs.toArray 48 (0, 0)) := hb
    rw [hh] at hb2
    injection hb2 with hb3
    injection hb3 with _ h4 _
    exact absurd h4 (by decide)
theorem okT : ∃ i : TypeInfo, Try.prog.info? 40 = some i ∧ i.zero = some (.agg #[.int .i64 0, .int .i64 0, .string .empty]) ∧ i.size = 3 ∧ i.bytes = 32 := by
  obtain ⟨i, h1, h2, h3, h4⟩ := info_parts (P := Try.prog) (e := 40) (z := .agg #[.int .i64 0, .int .i64 0, .string .empty]) (size := 3) (bytes := 32) (by kernel_rfl)
  exact ⟨i, h1, h2, h3, h4⟩
section
variable {ops : Array Oper} {rest : List Oper} {o : Oper} {a : Act} {Q : Exit → Act → World → Prop}
theorem wpList_appT (w : World) (hw : Region.wanted o (yielded ops a.tmps) = true) (s x : Operand) (ho : o.op = .call { callee := .builtin .append, args := #[s, x], argTypes := #[35, 35] })
    (B : Nat) (v : Value) (ts : List Tk) (hs : a.eval s = v) (hown : OwnT w B v ts) (t : Tk) (bk : Nat) (hx : a.eval x = .slice (some ⟨bk, 0, none⟩) 1 1) (hbk : bk = w.heap.size)
    (hlen : ts.length ≤ 10000000) (hB : B ≤ w.heap.size)
    (h : ∀ v' w', OwnT w' B v' (ts ++ [t]) → w.grownBy w' v.ownBlock → wpList Try.prog ops Q rest (a.put o.dst v') w') : wpList Try.prog ops Q (o :: rest) a (w.alloc (.cells (tokC t).toArray 40)) := by
  subst hbk
  obtain ⟨i, hi, hz, hs1, hby⟩ := okT
  refine wpList_met hw fun K hK => wp_append_own _ s x 35 ho B 40 i _ 3 32 Try.underlying35 hi hz hs1 hby rfl (by decide) v ts.length (ts.flatMap tokC) hs (World.ownsRow.alloc hown _) ⟨w.heap.size, 0, none⟩ 1 1 (tokC t) hx rfl ?_ ?_ ?_ ?_ ?_ ?_
  · intro j u hj
    have := cell_of_row (w.alloc (.cells (tokC t).toArray 40)) w.heap.size j (tokC t).toArray 40 (0, 0) (heap_alloc_new w _)
    rw [addr_add, this]
    simpa using hj
  · intro u hu
    simp [tokC] at hu
    rcases hu with rfl | rfl | rfl <;> rfl
  · unfold maxLen; omega
  · omega
  · simp; omega
  · intro v' w' h2 h3 _
    refine hK _ _ (h v' w' ?_ (grownBy_trans (World.grownBy_alloc w _ _) h3))
    unfold OwnT
    rw [List.length_append, List.flatMap_append]
    simpa using h2
end
set_option maxRecDepth 100000 in
set_option maxHeartbeats 4000000 in
theorem put_any (g : Nat) (vb : Value) (i : Nat) (keep : Bool) (n : Int) (vt : Value) (ts : List Tk) (B : Nat) (k : Int) (at' : Nat) (s : List UInt8) (w : World) (hs : Scan w g vb i keep n vt) (ho : OwnT w B vt ts) (hB : B ≤ g) (hn0 : 0 ≤ n) (hn1 : n ≤ 5000000) (hl : ts.length ≤ 5000000) :
    Calls Try.prog 38 #[.pointer (some ⟨g, 0, none⟩), .int .i64 k, .int .i64 at', .string ⟨s.toArray⟩] w fun e w' => e = .returned (.tuple #[]) ∧ ∃ vt', Scan w' g vb i keep (n + 1) vt' ∧ OwnT w' B vt' (if keep = true then ts ++ [(k, at', s)] else ts) ∧ Below B w w' := by
  have hne := ho.ne hs
  have c2 : w.cell? ⟨g, 2, none⟩ = some (.bool keep) := by rw [Box.cell hs]; rfl
  have c3 : w.cell? ⟨g, 3, none⟩ = some (.int .i64 n) := by rw [Box.cell hs]; rfl
  have c4 : w.cell? ⟨g, 4, none⟩ = some vt := by rw [Box.cell hs]; rfl
  have f3 : w.frozen? ⟨g, 3, none⟩ = false := Box.frozen hs 3
  have HS1 : Hid (Scan (w.setCell ⟨g, 3, none⟩ (.int .i64 (n + 1))) g vb i keep (n + 1) vt) := Lib.hid (Box.set hs 3 (by simp) _)
  have hlt := Box.lt hs
  have HO1 : Hid (OwnT (w.setCell ⟨g, 3, none⟩ (.int .i64 (n + 1))) B vt ts) := Lib.hid (ho.kept (grownBy_set w g 3 _) (.inr hne))
  have HB1 : Hid (Below B w (w.setCell ⟨g, 3, none⟩ (.int .i64 (n + 1)))) := Lib.hid ((Below.refl B w).setCell hB _)
  clear hs ho
  cases keep with
  | false =>
    go_enter Try.func38, Try.ntmps38
    go_wp2_with fail
    go_end0
    exact ⟨rfl, vt, HS1.out, HO1.out, HB1.out⟩
  | true =>
    have HSZ : Hid (B ≤ (w.setCell ⟨g, 3, none⟩ (.int .i64 (n + 1))).heap.size) := Lib.hid (by have := HB1.out.size; omega)
    have HR := Lib.hid (OwnT.row HO1.out)
    go_enter Try.func38, Try.ntmps38
    go_wp2_with (at_builtin; refine wpList_appT _ rfl _ _ rfl B _ ts rfl HO1.out (k, at', s) _ rfl (by simp) (by omega) HSZ.out ?_)
    intro v' w2 hown2 hgr2
    obtain ⟨va, vc, rfl⟩ := hown2.slice
    have HS2 := Lib.hid (Box.grown HS1.out hgr2 hne)
    have HO2 := Lib.hid hown2
    have HB2 := Lib.hid (HB1.out.grown hgr2 HSZ.out (fun k hk => (HR.out k hk).1))
    have d4 : w2.cell? ⟨g, 4, none⟩ = some vt := by rw [Box.cell HS2.out]; rfl
    have f4 : w2.frozen? ⟨g, 4, none⟩ = false := Box.frozen HS2.out 4
    clear hown2 hgr2
    go_wp2_with fail
    go_end0
    have HOF := Lib.hid (fun x => HO2.out.kept (grownBy_set w2 g 4 x) (.inr (HO2.out.ne HS2.out)))
    rw [show (ts ++ [(k, at', s)]).length = ts.length + 1 by simp] at HOF
    exact ⟨rfl, _, Box.set HS2.out 4 (by simp) _, HOF.out _, HB2.out.setCell hB _⟩
end
theorem byt_sub {b : List UInt8} {f t i : Nat} (h1 : f ≤ t) (h2 : t ≤ b.length) (hi : i < t - f) : byt (sub8 b f t) i = byt b (f + i) := by
  unfold sub8 byt
  simp [List.getD, List.getElem?_drop, List.getElem?_take, show f + i < t by omega]
theorem Is8.subAt {w : World} {bb off cap : Nat} {b : List UInt8} (h : Cells w bb off b.length (u8At b)) (f t : Nat) (h1 : f ≤ t) (h2 : t ≤ b.length) (hc : b.length ≤ cap) (hm : cap ≤ maxLen) :
    Is8 w (.slice (some ⟨bb, off + f, none⟩) (t - f) (cap - f)) (sub8 b f t) := by
  have hl := sub8_len h1 h2
  refine ⟨_, _, by rw [hl], by rw [hl]; omega, by omega, (fun h => by cases h), fun _ => ⟨bb, off + f, rfl, ?_⟩⟩
  intro i hi
  rw [hl] at hi
  have := h (f + i) (by omega)
  rw [show off + f + i = off + (f + i) by omega, this]
  simp [u8At, byt_sub h1 h2 hi]
theorem Is8.sub0 {w : World} {a : Option Addr} {cap : Nat} {b : List UInt8} (h : Is8 w (.slice a b.length cap) b) (f t : Nat) (h1 : f ≤ t) (h2 : t ≤ b.length) (hc : cap - f = 0) : Is8 w (.slice a (t - f) 0) (sub8 b f t) := by
  obtain ⟨a', cap', e, q1, q2, q3, q4⟩ := h
  cases e
  have hl := sub8_len h1 h2
  refine ⟨a, 0, by rw [hl], by rw [hl]; omega, by unfold maxLen; omega, fun _ => rfl, fun hp => ?_⟩
  rw [hl] at hp
  omega
theorem Is8.subN {w : World} {a : Option Addr} {cap : Nat} {b : List UInt8} (h : Is8 w (.slice a b.length cap) b) (f t : Nat) (h1 : f ≤ t) (h2 : t ≤ b.length) : Is8 w (.slice (Option.map (fun x => x.add f) a) (t - f) (cap - f)) (sub8 b f t) := by
  obtain ⟨a', cap', e, q1, q2, q3, q4⟩ := h
  cases e
  have hl := sub8_len h1 h2
  refine ⟨_, cap - f, by rw [hl], by rw [hl]; omega, by omega, fun e => ?_, fun hp => ?_⟩
  · cases a with
    | none => rw [q3 rfl]; omega
    | some x => cases e
  · rw [hl] at hp
    obtain ⟨bb, off, rfl, hc⟩ := q4 (by omega)
    refine ⟨bb, off + f, by show some ((⟨bb, off, none⟩ : Addr).add f) = _; rw [addr_add_off], ?_⟩
    intro i hi
    rw [hl] at hi
    have := hc (f + i) (by omega)
    rw [show off + f + i = off + (f + i) by omega, this]
    simp [u8At, byt_sub h1 h2 hi]
set_option maxRecDepth 100000 in
set_option maxHeartbeats 4000000 in
theorem kept_any (g : Nat) (vb : Value) (b : List UInt8) (i : Nat) (keep : Bool) (n : Int) (vt : Value) (vr : Value) (r : List UInt8) (B : Nat) (f t : Nat) (w : World) (hs : Scan w g vb i keep n vt) (ht : Text w g vb b) (ho : Own w B 5 vr (r.map u8V)) (hB : B ≤ w.heap.size) (h1 : f ≤ t) (h2 : t ≤ b.length) (hr : r.length ≤ 10000000) :
    Calls Try.prog 46 #[.pointer (some ⟨g, 0, none⟩), vr, .int .i64 f, .int .i64 t] w fun e w' => e = .returned (.string ⟨(if keep = true then r ++ sub8 b f t else []).toArray⟩) ∧ w.grownBy w' vr.ownBlock := by
  have c0 : w.cell? ⟨g, 0, none⟩ = some vb := by rw [Box.cell hs]; rfl
  have c2 : w.cell? ⟨g, 2, none⟩ = some (.bool keep) := by rw [Box.cell hs]; rfl
  have HS := Lib.hid hs
  have HT := Lib.hid ht
  have HO := Lib.hid ho
  have hm := ht.le
  clear hs ht ho
  cases keep with
  | false =>
    go_enter Try.func46, Try.ntmps46
    go_wp2_with fail
    go_ret
    exact ⟨rfl, grown_refl _ _⟩
  | true =>
    obtain ⟨a, cap, e, q1, q2, q3, q4⟩ := HT.out.is
    subst e
    have hq2 := q2
    unfold maxLen at q2
    have f1I : (f : Int) ≤ (t : Int) := by omega
    have f2I : (t : Int) ≤ (cap : Int) := by omega
    have f0I : (0 : Int) ≤ (f : Int) := by omega
    obtain ⟨ra, rcap, e⟩ : ∃ ra rc, vr = .slice ra r.length rc := by
      rcases HO.out.2 with ⟨rfl, hn⟩ | ⟨g2, cap2, cur, rfl, _⟩
      · exact ⟨none, 0, by simp at hn; rw [hn]; rfl⟩
      · exact ⟨some ⟨g2, 0, none⟩, cap2, by simp⟩
    subst e
    have HA := Lib.hid (Is8.sub0 HT.out.is f t h1 h2)
    have HN := Lib.hid (Is8.subN HT.out.is f t h1 h2)
    by_cases hcf : cap - f = 0
    · have HV := Lib.hid (HA.out hcf)
      by_cases hr0 : r = []
      · subst hr0
        go_enter Try.func46, Try.ntmps46
        go_wp2_with (refine wpList_toStr _ (by rfl) _ _ _ rfl 5 Try.underlying29 Try.underlying5 Try.underlying9 _ rfl _ HV.out ?_)
        go_ret
        exact ⟨rfl, grown_refl _ _⟩
      · have hlr : 0 < r.length := List.length_pos_iff.2 hr0
        have e0 : ((r.length : Int) == 0) = false := by rw [beq_eq_false_iff_ne]; omega
        have hsl := sub8_len h1 h2
        have hc2 : ((r.map u8V).length + (sub8 b f t).length) * 1 ≤ 140737488355328 := by simp; omega
        have hc3 : (r.map u8V).length + (sub8 b f t).length ≤ 9223372036854775807 := by simp; omega
        have hone : ∀ i, i < (sub8 b f t).length → (u8At (sub8 b f t) i).oneCell' = true := fun _ _ => rfl
        clear hr0 hsl
        go_enter Try.func46, Try.ntmps46
        go_wp2_with (at_builtin; refine wpList_appS _ rfl _ _ 29 rfl B 5 (.int .u8 0) 1 ok8 _ _ rfl HO.out _ _ _ rfl HV.out hone hc2 hc3 hB ?_)
        intro v' w2 hown2 hgr2
        rw [u8At_range, ← List.map_append] at hown2
        have H8 := Lib.hid hown2.is8
        have HG2 := Lib.hid hgr2
        clear hown2 hgr2
        go_wp2_with (refine wpList_toStr _ (by rfl) _ _ _ rfl 5 Try.underlying29 Try.underlying5 Try.underlying9 _ rfl _ H8.out ?_)
        go_ret
        exact ⟨rfl, HG2.out⟩
    · have HV := Lib.hid HN.out
      by_cases hr0 : r = []
      · subst hr0
        go_enter Try.func46, Try.ntmps46
        go_wp2_with (refine wpList_toStr _ (by rfl) _ _ _ rfl 5 Try.underlying29 Try.underlying5 Try.underlying9 _ rfl _ HV.out ?_)
        go_ret
        exact ⟨rfl, grown_refl _ _⟩
      · have hlr : 0 < r.length := List.length_pos_iff.2 hr0
        have e0 : ((r.length : Int) == 0) = false := by rw [beq_eq_false_iff_ne]; omega
        have hsl := sub8_len h1 h2
        have hc2 : ((r.map u8V).length + (sub8 b f t).length) * 1 ≤ 140737488355328 := by simp; omega
        have hc3 : (r.map u8V).length + (sub8 b f t).length ≤ 9223372036854775807 := by simp; omega
        have hone : ∀ i, i < (sub8 b f t).length → (u8At (sub8 b f t) i).oneCell' = true := fun _ _ => rfl
        clear hr0 hsl
        go_enter Try.func46, Try.ntmps46
        go_wp2_with (at_builtin; refine wpList_appS _ rfl _ _ 29 rfl B 5 (.int .u8 0) 1 ok8 _ _ rfl HO.out _ _ _ rfl HV.out hone hc2 hc3 hB ?_)
        intro v' w2 hown2 hgr2
        rw [u8At_range, ← List.map_append] at hown2
        have H8 := Lib.hid hown2.is8
        have HG2 := Lib.hid hgr2
        clear hown2 hgr2
        go_wp2_with (refine wpList_toStr _ (by rfl) _ _ _ rfl 5 Try.underlying29 Try.underlying5 Try.underlying9 _ rfl _ H8.out ?_)
        go_ret
        exact ⟨rfl, HG2.out⟩
structure TextB (w : World) (B : Nat) (vb : Value) (b : List UInt8) : Prop where
  is : Is8 w vb b
  lt : 0 < b.length → ∀ bb off l c, vb = .slice (some ⟨bb, off, none⟩) l c → bb < B
  le : b.length ≤ 1000000
theorem TextB.at {w : World} {B : Nat} {vb : Value} {b : List UInt8} (h : TextB w B vb b) {g : Nat} (hg : B ≤ g) : Text w g vb b :=
  ⟨h.is, fun hn bb off l c e => by have := h.lt hn bb off l c e; omega, h.le⟩
theorem TextB.below {w w' : World} {B : Nat} {vb : Value} {b : List UInt8} (h : TextB w B vb b) (hb : Below B w w') : TextB w' B vb b := by
  refine ⟨?_, h.lt, h.le⟩
  obtain ⟨a, cap, rfl, h1, h2, h3, h4⟩ := h.is
  refine ⟨a, cap, rfl, h1, h2, h3, fun hn => ?_⟩
  obtain ⟨bb, off, rfl, hc⟩ := h4 hn
  exact ⟨bb, off, rfl, Cells.below hc hb (h.lt hn bb off _ _ rfl)⟩
theorem below_grown {w w' : World} {B : Nat} {row : Option Nat} (hg : w.grownBy w' row) (hB : B ≤ w.heap.size) (hr : ∀ k, row = some k → B ≤ k) : Below B w w' := (Below.refl B w).grown hg hB hr
def addT (ok keep : Bool) (ts : List Tk) (t : Tk) : List Tk := if ok = true then (if keep = true then ts ++ [t] else ts) else ts
def addN (ok : Bool) (n : Int) : Int := if ok = true then n + 1 else n
def Behind (w w' : World) (g B : Nat) (vb : Value) (keep : Bool) (n : Int) (ts : List Tk) (t : Tk) (p : Nat) (ok : Bool) : Prop :=
  ∃ vt', Scan w' g vb p keep (addN ok n) vt' ∧ OwnT w' B vt' (addT ok keep ts t) ∧ Below B w w'
set_option maxHeartbeats 2000000 in
theorem sign_any (c : Int) (w : World) (h : c = 123 ∨ c = 125 ∨ c = 91 ∨ c = 93 ∨ c = 58 ∨ c = 44) :
    Calls Try.prog 39 #[.int .u8 c] w fun e w' => e = .returned (.int .i64 (signN c)) ∧ w = w' := by
  rcases h with rfl | rfl | rfl | rfl | rfl | rfl
  all_goals
    go_enter Try.func39, Try.ntmps39
    go_wp2_with fail
    go_ret
    exact ⟨rfl, by trivial⟩
set_option maxRecDepth 100000 in
set_option maxHeartbeats 4000000 in
theorem nmeth_any (g : Nat) (vb : Value) (b : List UInt8) (i : Nat) (keep : Bool) (n : Int) (vt : Value) (ts : List Tk) (B : Nat) (w : World) (hs : Scan w g vb i keep n vt) (ht : TextB w B vb b) (ho : OwnT w B vt ts) (hB : B ≤ g) (hn0 : 0 ≤ n) (hn1 : n ≤ 5000000) (hl : ts.length ≤ 5000000) (hi : i ≤ b.length) :
    Calls Try.prog 42 #[.pointer (some ⟨g, 0, none⟩)] w fun e w' => e = .returned (.bool (numM b i).2) ∧ Behind w w' g B vb keep n ts (8, i, sub8 b i (numM b i).1) (numM b i).1 (numM b i).2 := by
  have c0 : w.cell? ⟨g, 0, none⟩ = some vb := by rw [Box.cell hs]; rfl
  have c1 : w.cell? ⟨g, 1, none⟩ = some (.int .i64 i) := hs.c1
  have f1 : w.frozen? ⟨g, 1, none⟩ = false := Box.frozen hs 1
  have hne := ho.ne hs
  have hlt := Box.lt hs
  have HN := Lib.hid (number_any vb b i w ht.is ht.le hi)
  obtain ⟨q1, q2⟩ := numM_bd b i hi
  obtain ⟨R, hR⟩ : ∃ R, numM b i = R := ⟨_, rfl⟩
  rw [hR] at HN q1 q2
  rw [hR]
  clear hR
  obtain ⟨p, ok⟩ := R
  have q1 : i ≤ p := q1
  have q2 : p ≤ b.length := q2
  have HN2 : Hid (Calls Try.prog 19 #[vb, .int .i64 i] w fun e w' => e = .returned (.tuple #[.int .i64 p, .bool ok]) ∧ w = w') := Lib.hid HN.out
  have HS1 := Lib.hid (hs.to0 p (p : Int) rfl)
  have HG1 := Lib.hid (grown_to0 (grown_refl w (some g)) 1 (.int .i64 (p : Int)))
  have HT1 := Lib.hid ((ht.at hB).grown HG1.out)
  have HO1 := Lib.hid (ho.kept HG1.out (.inr hne))
  have HB1 := Lib.hid (below_grown HG1.out (by omega) (fun k hk => by injection hk with hk; omega) : Below B w _)
  clear hs ht ho HN
  show Calls _ _ _ _ fun e w' => e = .returned (.bool ok) ∧ Behind w w' g B vb keep n ts (8, i, sub8 b i p) p ok
  cases ok with
  | false =>
    go_enter Try.func42, Try.ntmps42
    go_wp2_with fail
    refine HN2.out.mono ?_
    rintro e w' ⟨rfl, rfl⟩
    go_wp2_with fail
    go_ret
    exact ⟨rfl, vt, HS1.out, HO1.out, HB1.out⟩
  | true =>
    have HSZ := Lib.hid HB1.out.size
    have HK := Lib.hid (kept_any g vb b p keep n vt (.slice none 0 0) [] 0 i p _ HS1.out HT1.out (Own.nil _ 0 _) (Nat.zero_le _) q1 q2 (by simp))
    obtain ⟨sv, hsv⟩ : ∃ sv : List UInt8, (if keep = true then [] ++ sub8 b i p else []) = sv := ⟨_, rfl⟩
    rw [hsv] at HK
    have HSV := Lib.hid hsv
    clear hsv
    go_enter Try.func42, Try.ntmps42
    go_wp2_with fail
    refine HN2.out.mono ?_
    rintro e w' ⟨rfl, rfl⟩
    go_wp2_with fail
    refine HK.out.mono ?_
    rintro e x1 ⟨rfl, hg1⟩
    have HS2 := Lib.hid (Box.grown HS1.out hg1 (by simp [Value.ownBlock]))
    have HO2 := Lib.hid (HO1.out.kept hg1 (by cases vt.ownBlock <;> simp [Value.ownBlock]))
    have HB2 := Lib.hid (HB1.out.grown hg1 (by have := HSZ.out; omega) (fun k hk => by simp [Value.ownBlock] at hk))
    clear hg1
    go_wp2_with fail
    refine (put_any g vb p keep n vt ts B 8 i sv x1 HS2.out HO2.out hB hn0 hn1 hl).mono ?_
    rintro e x2 ⟨rfl, vt2, hs3, ho3, hb3⟩
    have HS3 := Lib.hid hs3
    have HO3 := Lib.hid ho3
    have HB3 := Lib.hid hb3
    clear hs3 ho3 hb3
    go_wp2_with fail
    go_ret
    refine ⟨rfl, vt2, HS3.out, ?_, HB2.out.trans HB3.out⟩
    have h := HO3.out
    rw [← HSV.out] at h
    cases keep with
    | true => exact h
    | false => exact h
theorem wordM_step {b l : List UInt8} {j i : Nat} (h : j < l.length) : wordM b (l.drop j) i = if byt b i = byt l j then wordM b (l.drop (j + 1)) (i + 1) else (i, false) := by
  rw [List.drop_eq_getElem_cons h]
  have e : byt l j = ((l[j]).toNat : Int) := by unfold byt; simp [List.getD, h]
  rw [e]
  conv => lhs; unfold wordM
set_option maxRecDepth 100000 in
set_option maxHeartbeats 4000000 in
theorem word_any (g : Nat) (vb : Value) (b : List UInt8) (i : Nat) (keep : Bool) (n : Int) (vt : Value) (ts : List Tk) (B : Nat) (wd : List UInt8) (k : Int) (w : World) (hs : Scan w g vb i keep n vt) (ht : TextB w B vb b) (ho : OwnT w B vt ts) (hB : B ≤ g) (hn0 : 0 ≤ n) (hn1 : n ≤ 5000000) (hl : ts.length ≤ 5000000) (hi : i ≤ b.length) (hw : wd.length ≤ 10) :
    Calls Try.prog 40 #[.pointer (some ⟨g, 0, none⟩), .string ⟨wd.toArray⟩, .int .i64 k] w fun e w' => e = .returned (.bool (wordM b wd i).2) ∧ Behind w w' g B vb keep n ts (k, i, []) (wordM b wd i).1 (wordM b wd i).2 := by
  have hm := ht.le
  have c1 : w.cell? ⟨g, 1, none⟩ = some (.int .i64 i) := hs.c1
  have hne := ho.ne hs
  have hlt := Box.lt hs
  have HS := Lib.hid hs
  have HT := Lib.hid (ht.at hB)
  have HO := Lib.hid ho
  have HBG := Lib.hid (fun (wr : World) (hg : w.grownBy wr (some g)) => (below_grown hg (by omega) (fun k hk => by injection hk with hk; omega) : Below B w wr))
  have HOG := Lib.hid (fun (wr : World) (hg : w.grownBy wr (some g)) => ho.kept hg (.inr hne))
  have HWS := Lib.hid (fun j i (h : j < wd.length) => @wordM_step b wd j i h)
  clear hs ht ho
  go_enter Try.func40, Try.ntmps40
  go_wp2_with fail
  go_loopw [8, 15] (fun t8 tj wr => ∃ j : Nat, j ≤ wd.length ∧ i + j ≤ b.length + 10 ∧ tj = .int .i64 j ∧ Hid (wordM b wd i = wordM b (wd.drop j) (i + j)) ∧ Scan wr g vb (i + j) keep n vt ∧ w.grownBy wr (some g)) (fun _ tj _ => wd.length - (intOf tj).toNat)
  case atStart => exact ⟨0, Nat.zero_le _, by omega, rfl, Lib.hid rfl, HS.out, grown_refl _ _⟩
  case round =>
    obtain ⟨j, hj, hij, rfl, HE, hs, hg⟩ := hrel
    have HTr := Lib.hid (HT.out.grown hg)
    have HSr := Lib.hid hs
    have HG := Lib.hid hg
    have d0 : wr.cell? ⟨g, 0, none⟩ = some vb := by rw [Box.cell hs]; rfl
    have d1 : wr.cell? ⟨g, 1, none⟩ = some (.int .i64 ((i + j : Nat) : Int)) := hs.c1
    have fz : wr.frozen? ⟨g, 1, none⟩ = false := Box.frozen hs 1
    clear hs hg
    obtain ⟨q, hq⟩ : ∃ q, i + j = q := ⟨_, rfl⟩
    rw [hq] at HE HSr d1 hij
    have HQQ := Lib.hid hq
    clear hq
    have HQ := Lib.hid (here_q vb b wr HTr.out.is hm (q : Int) (by omega) (by omega))
    have t0 : ((q : Int)).toNat = q := by omega
    by_cases hlt2 : j < wd.length
    · have hltI : (j : Int) < (wd.length : Int) := by omega
      have HW := Lib.hid (HE.out.trans (HWS.out j q hlt2))
      by_cases hc : byt b q = byt wd j
      · have g1 : (byt b q != byt wd j) = false := by rw [hc]; simp
        have HF : Hid (wordM b wd i = wordM b (wd.drop (j + 1)) (i + (j + 1))) := Lib.hid (by rw [HW.out, if_pos hc, ← HQQ.out, Nat.add_assoc])
        have HS' := Lib.hid (fun k => HSr.out.to k (i + (j + 1)) ((q : Int) + 1) (by have := HQQ.out; omega))
        have hq2 : i + (j + 1) ≤ b.length + 10 := by omega
        clear hc
        go_wp2_with fail
        go_quiet ((go_at_call 28; exact Calls.quiet_of_same (HQ.out _)))
        go_wp2_with fail
        exact ⟨⟨j + 1, by omega, hq2, by go_num, HF, HS'.out _, grown_to HG.out _ _ _⟩, by simp [intOf]; omega⟩
      · have g1 : (byt b q != byt wd j) = true := by simpa using hc
        have HF : Hid (wordM b wd i = (q, false)) := Lib.hid (by rw [HW.out, if_neg hc])
        clear hc
        go_wp2_with fail
        go_quiet ((go_at_call 28; exact Calls.quiet_of_same (HQ.out _)))
        go_wp2_with fail
        go_ret
        refine ⟨ret_b (by rw [HF.out]), ?_⟩
        rw [HF.out]
        exact ⟨vt, Box.drew HSr.out _, HOG.out _ (grownBy_trans HG.out (grownBy_drew _ _ _)), HBG.out _ (grownBy_trans HG.out (grownBy_drew _ _ _))⟩
    · obtain rfl : j = wd.length := by omega
      have HF : Hid (wordM b wd i = (q, true)) := Lib.hid (by rw [HE.out, List.drop_length]; rfl)
      have HOr := Lib.hid (HOG.out _ HG.out)
      have HBr := Lib.hid (HBG.out _ HG.out)
      go_wp2_with fail
      refine (put_any g vb q keep n vt ts B k i [] wr HSr.out HOr.out hB hn0 hn1 hl).mono ?_
      rintro e x2 ⟨rfl, vt2, hs3, ho3, hb3⟩
      have HS3 := Lib.hid hs3
      have HO3 := Lib.hid ho3
      have HB3 := Lib.hid hb3
      clear hs3 ho3 hb3
      go_wp2_with fail
      go_ret
      refine ⟨ret_b (by rw [HF.out]), ?_⟩
      rw [HF.out]
      exact ⟨vt2, HS3.out, HO3.out, HBr.out.trans HB3.out⟩
theorem Text.drew {w : World} {g : Nat} {vb : Value} {b : List UInt8} (h : Text w g vb b) (k : Nat) : Text (w.drewN k) g vb b := ⟨h.is, h.ne, h.le⟩
theorem Own.neBox {w : World} {B : Nat} {v : Value} {xs : List Value} (h : Own w B 5 v xs) {g : Nat} {cs : List Value} (hb : Box w g 48 cs) : v.ownBlock ≠ some g := by
  rcases h.2 with ⟨rfl, _⟩ | ⟨g2, cap, cur, rfl, _, hh, _⟩
  · simp [Value.ownBlock]
  · intro e
    have e : g2 = g := by simpa [Value.ownBlock] using e
    subst e
    have hb2 : w.heap[g2]? = some (.cells cs.toArray 48 (0, 0)) := hb
    rw [hh] at hb2
    injection hb2 with hb3
    injection hb3 with _ h4 _
    exact absurd h4 (by decide)
theorem Own.neT {w : World} {B B' : Nat} {v vt : Value} {xs : List Value} {ts : List Tk} (h : Own w B 5 v xs) (ht : OwnT w B' vt ts) : vt.ownBlock = none ∨ vt.ownBlock ≠ v.ownBlock := by
  rcases ht.2 with ⟨rfl, _⟩ | ⟨g1, cap1, cur1, rfl, _, hh1, _⟩
  · exact .inl rfl
  · right
    rcases h.2 with ⟨rfl, _⟩ | ⟨g2, cap, cur, rfl, _, hh, _⟩
    · simp [Value.ownBlock]
    · intro e
      have e : g1 = g2 := by simpa [Value.ownBlock] using e
      subst e
      rw [hh] at hh1
      injection hh1 with hb3
      injection hb3 with _ h4 _
      exact absurd h4 (by decide)
set_option maxRecDepth 100000 in
set_option maxHeartbeats 16000000 in
theorem text_any (g : Nat) (vb : Value) (b : List UInt8) (i : Nat) (keep : Bool) (n : Int) (vt : Value) (ts : List Tk) (B : Nat) (w : World) (hs : Scan w g vb i keep n vt) (ht : TextB w B vb b) (ho : OwnT w B vt ts) (hB : B ≤ g) (hn0 : 0 ≤ n) (hn1 : n ≤ 5000000) (hl : ts.length ≤ 5000000) (hi : i < b.length) :
    Calls Try.prog 41 #[.pointer (some ⟨g, 0, none⟩)] w fun e w' => e = .returned (.bool (strM b (i + 1) []).2.2) ∧ Behind w w' g B vb keep n ts (7, i, (strM b (i + 1) []).1) (strM b (i + 1) []).2.1 (strM b (i + 1) []).2.2 := by
  have hm := ht.le
  have c1 : w.cell? ⟨g, 1, none⟩ = some (.int .i64 i) := hs.c1
  have fz : w.frozen? ⟨g, 1, none⟩ = false := Box.frozen hs 1
  have hne := ho.ne hs
  have hlt := Box.lt hs
  have HS1 := Lib.hid (hs.to0 (i + 1) ((i : Int) + 1) (by omega))
  have HG1 := Lib.hid (grown_to0 (grown_refl w (some g)) 1 (.int .i64 ((i : Int) + 1)))
  have HO1 := Lib.hid (ho.kept HG1.out (.inr hne))
  have HB1 := Lib.hid (below_grown HG1.out (by omega) (fun k hk => by injection hk with hk; omega) : Below B w _)
  have HT := Lib.hid ht
  clear hs ht ho
  go_enter Try.func41, Try.ntmps41
  go_wp2_with fail
  go_loopw [4, 5, 6, 7, 8, 9, 10, 11, 12] (fun t4 t5 _ _ _ _ _ _ _ wr => ∃ (f p : Nat) (pre : List UInt8), f ≤ p ∧ p ≤ b.length ∧ t4 = .int .i64 f ∧ pre.length + (p - f) ≤ 4 * p ∧ Hid (strM b (i + 1) [] = strM b p (pre ++ sub8 b f p)) ∧ Own wr B 5 t5 ((if keep = true then pre else []).map u8V) ∧ Scan wr g vb p keep n vt ∧ OwnT wr B vt ts ∧ Below B w wr) (fun _ _ _ _ _ _ _ _ _ wr => leftOf g (b.length + 1) wr)
  case atStart => exact ⟨i + 1, i + 1, [], Nat.le_refl _, by omega, by first | rfl | go_num, by simp, Lib.hid (by rw [sub8_self]; rfl), by cases keep <;> exact Own.nil _ _ _, HS1.out, HO1.out, HB1.out⟩
  case round =>
    obtain ⟨f, p, pre, hfp, hpl, rfl, hpre, HE, how, hs, hot, hbw⟩ := hrel
    have HOW := Lib.hid how
    have HSr := Lib.hid hs
    have HOr := Lib.hid hot
    have HBr := Lib.hid hbw
    have HTr := Lib.hid (HT.out.below hbw)
    have d0 : wr.cell? ⟨g, 0, none⟩ = some vb := by rw [Box.cell hs]; rfl
    have d1 : wr.cell? ⟨g, 1, none⟩ = some (.int .i64 p) := hs.c1
    have f1 : wr.frozen? ⟨g, 1, none⟩ = false := Box.frozen hs 1
    have hgw := Box.lt hs
    clear how hs hot hbw
    obtain ⟨a, cap, e, h1, h2, -, h4⟩ := HTr.out.is
    subst e
    have hmaxc := h2
    unfold maxLen at h2
    by_cases hlt2 : p < b.length
    · obtain ⟨bb, off, rfl, hc⟩ := h4 (by omega)
      have hcell : wr.cell? ⟨bb, off + p, none⟩ = some (.int .u8 (byt b p)) := hc.at p hlt2
      have hltI : (p : Int) < (b.length : Int) := by omega
      have HC := Lib.hid hc
      have HST := Lib.hid (HE.out.trans (strM_step b p _ hlt2))
      clear hc h4
      by_cases k1 : byt b p = 34
      · have HF : Hid (strM b (i + 1) [] = (pre ++ sub8 b f p, p + 1, true)) := Lib.hid (by rw [HST.out, if_pos k1])
        have g1 : (byt b p == 34) = true := by rw [k1]; rfl
        have HK := Lib.hid (fun k => kept_any g _ b p keep n vt u5 (if keep = true then pre else []) B f p (wr.drewN k) (Box.drew HSr.out k) ((HTr.out.at hB).drew k) HOW.out (by show B ≤ wr.heap.size; omega) hfp hpl (by cases keep <;> simp; omega))
        obtain ⟨sv, hsv⟩ : ∃ sv : List UInt8, (if keep = true then (if keep = true then pre else []) ++ sub8 b f p else []) = sv := ⟨_, rfl⟩
        rw [hsv] at HK
        have HSV := Lib.hid hsv
        clear k1 hsv
        go_wp2_with fail
        go_quiet (fail)
        go_wp2_with fail
        go_quiet (fail)
        go_wp2_with fail
        refine (HK.out _).mono ?_
        rintro e x1 ⟨rfl, hg1⟩
        have HS2 := Lib.hid (Box.grown HSr.out (grownBy_trans (grownBy_drew _ _ _) hg1) (HOW.out.neBox HSr.out))
        have HO2 := Lib.hid (HOr.out.kept (grownBy_trans (grownBy_drew _ _ _) hg1) (HOW.out.neT HOr.out))
        have HB2 := Lib.hid (HBr.out.grown (grownBy_trans (grownBy_drew _ _ _) hg1) (by omega) (fun k hk => (HOW.out.row k hk).1))
        clear hg1
        go_wp2_with fail
        refine (put_any g _ p keep n vt ts B 7 i sv x1 HS2.out HO2.out hB hn0 hn1 hl).mono ?_
        rintro e x2 ⟨rfl, vt2, hs3, ho3, hb3⟩
        have HS3 := Lib.hid hs3
        have HO3 := Lib.hid ho3
        have HB3 := Lib.hid hb3
        have e1 : x2.cell? ⟨g, 1, none⟩ = some (.int .i64 p) := hs3.c1
        have e2 : x2.frozen? ⟨g, 1, none⟩ = false := Box.frozen hs3 1
        clear hs3 ho3 hb3
        go_wp2_with fail
        go_ret
        refine ⟨ret_b (by rw [HF.out]), ?_⟩
        rw [HF.out]
        refine ⟨vt2, HS3.out.to0 (p + 1) _ (by omega), ?_, (HB2.out.trans HB3.out).setCell hB _⟩
        have h := HO3.out.kept (grownBy_set x2 g 1 (.int .i64 ((p : Int) + 1))) (.inr (HO3.out.ne HS3.out))
        rw [← HSV.out] at h
        cases keep with
        | true => exact h
        | false => exact h
      have g1 : (byt b p == 34) = false := by simpa using k1
      by_cases k2 : byt b p = 92
      · have he := escM_bd b p hlt2
        have HES := Lib.hid (fun k => escape_any g _ b p keep n vt (wr.drewN k) (Box.drew HSr.out k) ((HTr.out.at hB).drew k) hlt2)
        have HEL : Hid ((escM b p).1.length ≤ 4) := Lib.hid (by
          unfold escM
          split
          · split
            · exact (encR_len _).2
            · simp
          · split <;> simp)
        have HNF : Hid ((escM b p).2.2 = true → strM b (i + 1) [] = strM b (escM b p).2.1 (pre ++ sub8 b f p ++ (escM b p).1)) := Lib.hid (fun ho => by
          rw [HST.out, if_neg k1, if_pos k2, if_pos ho])
        have HNO : Hid ((escM b p).2.2 = false → strM b (i + 1) [] = ([], (escM b p).2.1, false)) := Lib.hid (fun ho => by
          rw [HST.out, if_neg k1, if_pos k2, if_neg (by rw [ho]; simp)])
        obtain ⟨R, hR⟩ : ∃ R, escM b p = R := ⟨_, rfl⟩
        rw [hR] at HES HEL HNF HNO he
        have g2 : (byt b p == 92) = true := by rw [k2]; rfl
        clear hR k1 k2
        obtain ⟨eb, q, ok⟩ := R
        have he1 : p < q := he.1
        have he2 : q ≤ b.length := he.2
        have HX2 : Hid (∀ k, Calls Try.prog 47 #[.pointer (some ⟨g, 0, none⟩)] (wr.drewN k) fun e w' => ∃ v', e = .returned (.tuple #[v', .bool ok]) ∧ (ok = true → Own w' (wr.drewN k).heap.size 5 v' (eb.map u8V)) ∧ Scan w' g (.slice (some ⟨bb, off, none⟩) b.length cap) q keep n vt ∧ (wr.drewN k).grownBy w' (some g)) := Lib.hid HES.out
        have HF2 : Hid (ok = true → strM b (i + 1) [] = strM b q (pre ++ sub8 b f p ++ eb)) := Lib.hid HNF.out
        have HO2' : Hid (ok = false → strM b (i + 1) [] = ([], q, false)) := Lib.hid HNO.out
        have HEL2 : Hid (eb.length ≤ 4) := Lib.hid HEL.out
        have q1 : ¬ cap - f = 0 := by omega
        have q2 : ¬ cap ≤ f := by omega
        have q3 : (f : Int) ≤ (p : Int) := by omega
        have q4 : (p : Int) ≤ (cap : Int) := by omega
        clear he HES HNF HNO HEL
        go_wp2_with fail
        go_quiet (fail)
        go_wp2_with fail
        go_quiet (fail)
        go_wp2_with fail
        go_quiet (fail)
        go_wp2_with fail
        refine (HX2.out _).mono ?_
        rintro e x1 ⟨v1, rfl, hov, hs2, hg2⟩
        have HGX := Lib.hid (grownBy_trans (grownBy_drew wr _ (some g)) hg2)
        have HS2 := Lib.hid hs2
        have HO2 := Lib.hid (HOr.out.kept HGX.out (.inr (HOr.out.ne HSr.out)))
        have HB2 := Lib.hid (HBr.out.grown HGX.out (by omega) (fun k hk => by injection hk with hk; omega))
        have d2 : x1.cell? ⟨g, 2, none⟩ = some (.bool keep) := by rw [Box.cell hs2]; rfl
        have e1 : x1.cell? ⟨g, 1, none⟩ = some (.int .i64 q) := hs2.c1
        have HOV := Lib.hid hov
        clear hs2 hg2 hov
        cases ok with
        | false =>
          have HF := Lib.hid (HO2'.out rfl)
          go_wp2_with fail
          go_ret
          refine ⟨ret_b (by rw [HF.out]), ?_⟩
          rw [HF.out]
          exact ⟨vt, HS2.out, HO2.out, HB2.out⟩
        | true =>
          have HF : Hid (strM b (i + 1) [] = strM b q (pre ++ sub8 b f p ++ eb ++ sub8 b q q)) := Lib.hid (by rw [HF2.out rfl, sub8_self, List.append_nil])
          have HEL3 := HEL2.out
          have hsl := sub8_len hfp hpl
          have hpre2 : (pre ++ sub8 b f p ++ eb).length + (q - q) ≤ 4 * q := by simp; omega
          have HW2 := Lib.hid (Own.kept HOW.out HGX.out (.inr (HOW.out.neBox HSr.out)))
          cases keep with
          | false =>
            go_wp2_with fail
            exact ⟨⟨q, q, pre ++ sub8 b f p ++ eb, Nat.le_refl _, he2, rfl, hpre2, HF, HW2.out, HS2.out, HO2.out, HB2.out⟩, by rw [leftOf_eq HS2.out, leftOf_eq HSr.out]; omega⟩
          | true =>
            have HT2 := Lib.hid (HT.out.below HB2.out)
            have HCX : Hid (Cells x1 bb off b.length (u8At b)) := Lib.hid (HC.out.grown (by omega) HGX.out (by
              intro e
              injection e with e
              have := HTr.out.lt (by omega) bb off _ _ rfl
              omega))
            have H8 := Lib.hid (Is8.subAt HCX.out f p hfp hpl h1 hmaxc)
            have hsz := HB2.out.size
            have hszg := HGX.out.size
            have hone : ∀ j, j < (sub8 b f p).length → (u8At (sub8 b f p) j).oneCell' = true := fun _ _ => rfl
            have hc2 : ((pre.map u8V).length + (sub8 b f p).length) * 1 ≤ 140737488355328 := by simp; omega
            have hc3 : (pre.map u8V).length + (sub8 b f p).length ≤ 9223372036854775807 := by simp; omega
            have hone2 : ∀ j, j < eb.length → (u8At eb j).oneCell' = true := fun _ _ => rfl
            have hc4 : (((pre ++ sub8 b f p).map u8V).length + eb.length) * 1 ≤ 140737488355328 := by simp; omega
            have hc5 : ((pre ++ sub8 b f p).map u8V).length + eb.length ≤ 9223372036854775807 := by simp; omega
            clear hsl
            go_wp2_with (at_builtin; refine wpList_appS _ rfl _ _ 29 rfl B 5 (.int .u8 0) 1 ok8 _ _ rfl HW2.out _ _ _ rfl H8.out hone hc2 hc3 (by omega) ?_)
            intro v3 w3 hown3 hgr3
            rw [u8At_range, ← List.map_append] at hown3
            have HW3 := Lib.hid hown3
            have HG3 := Lib.hid hgr3
            have HS3 := Lib.hid (Box.grown HS2.out hgr3 (HW2.out.neBox HS2.out))
            have HO3 := Lib.hid (HO2.out.kept hgr3 (HW2.out.neT HO2.out))
            have HB3 := Lib.hid (HB2.out.grown hgr3 (by omega) (fun k hk => (HW2.out.row k hk).1))
            have HV3 : Hid (Own w3 wr.heap.size 5 v1 (eb.map u8V)) := Lib.hid (Own.kept (HOV.out (by first | trivial | rfl)) hgr3 (by
              cases hv : v1.ownBlock with
              | none => exact .inl rfl
              | some k1 =>
                right
                intro e
                have b1 := ((HOV.out (by first | trivial | rfl)).row k1 hv).1
                have b2 := (HOW.out.row k1 e.symm).2
                have b1 : wr.heap.size ≤ k1 := b1
                omega))
            have hsz3 := HB3.out.size
            clear hown3 hgr3
            go_wp2_with (at_builtin; refine wpList_appS _ rfl _ _ 29 rfl B 5 (.int .u8 0) 1 ok8 _ _ rfl HW3.out _ _ _ rfl HV3.out.is8 hone2 hc4 hc5 (by omega) ?_)
            intro v4 w4 hown4 hgr4
            rw [u8At_range, ← List.map_append] at hown4
            have HW4 : Hid (Own w4 B 5 v4 ((pre ++ sub8 b f p ++ eb).map u8V)) := Lib.hid (by simpa [List.map_append, List.append_assoc] using hown4)
            have HS4 := Lib.hid (Box.grown HS3.out hgr4 (HW3.out.neBox HS3.out))
            have HO4 := Lib.hid (HO3.out.kept hgr4 (HW3.out.neT HO3.out))
            have HB4 := Lib.hid (HB3.out.grown hgr4 (by omega) (fun k hk => (HW3.out.row k hk).1))
            have e4 : w4.cell? ⟨g, 1, none⟩ = some (.int .i64 q) := Scan.c1 HS4.out
            clear hown4 hgr4
            go_wp2_with fail
            exact ⟨⟨q, q, pre ++ sub8 b f p ++ eb, Nat.le_refl _, he2, rfl, hpre2, HF, HW4.out, HS4.out, HO4.out, HB4.out⟩, by rw [leftOf_eq HS4.out, leftOf_eq HSr.out]; omega⟩
      have g2 : (byt b p == 92) = false := by simpa using k2
      by_cases k3 : byt b p < 32
      · have HF : Hid (strM b (i + 1) [] = ([], p, false)) := Lib.hid (by rw [HST.out, if_neg k1, if_neg k2, if_pos k3])
        clear k1 k2
        go_wp2_with fail
        go_quiet (fail)
        go_wp2_with fail
        go_quiet (fail)
        go_wp2_with fail
        go_ret
        refine ⟨ret_b (by rw [HF.out]), ?_⟩
        rw [HF.out]
        exact ⟨vt, Box.drew HSr.out _, HOr.out, below_dr HBr.out _⟩
      have k3' : 32 ≤ byt b p := by omega
      by_cases k4 : byt b p < 128
      · have hnx : nextL (b.drop p) = (byt b p, 1, true) := by
          have e0 : byt (b.drop p) 0 = byt b p := by rw [byt_drop]; rfl
          unfold nextL
          rw [if_neg (by simp; omega), e0, if_pos (by omega)]
        have HF : Hid (strM b (i + 1) [] = strM b (p + 1) (pre ++ sub8 b f (p + 1))) := Lib.hid (by
          rw [HST.out, if_neg k1, if_neg k2, if_neg k3, hnx, if_pos rfl]
          show strM b (p + 1) (pre ++ sub8 b f p ++ sub8 b p (p + 1)) = _
          rw [List.append_assoc, sub8_join hfp (by omega) (by omega)])
        clear k1 k2 hnx
        go_wp2_with fail
        go_quiet (fail)
        go_wp2_with fail
        go_quiet (fail)
        go_wp2_with fail
        refine ⟨⟨f, p + 1, pre, by omega, by omega, rfl, by omega, HF, ?_, HSr.out.to _ (p + 1) _ (by omega), ?_, ?_⟩, by rw [leftOf_eq (HSr.out.to _ (p + 1) _ (by omega)), leftOf_eq HSr.out]; omega⟩
        · exact Own.kept HOW.out (grown_to (grown_refl _ (some g)) _ 1 _) (.inr (HOW.out.neBox HSr.out))
        · exact HOr.out.kept (grown_to (grown_refl _ (some g)) _ 1 _) (.inr (HOr.out.ne HSr.out))
        · exact (below_dr HBr.out _).setCell hB _
      · have k4' : 128 ≤ byt b p := by omega
        have hnb := nextL_n (b.drop p) (by simp; omega)
        have hll : (b.drop p).length = b.length - p := by simp
        have hcp : p < cap := by omega
        have H8 : Hid (Is8 wr (.slice (some ⟨bb, off + p, none⟩) (b.length - p) (cap - p)) (b.drop p)) := Lib.hid (Is8.dropAt HC.out p hlt2 h1 hmaxc)
        have HNX := Lib.hid (fun k => next_any _ (b.drop p) (wr.drewN k) H8.out (by simp; omega))
        have HNF : Hid ((nextL (b.drop p)).2.2 = true → strM b (i + 1) [] = strM b (p + (nextL (b.drop p)).2.1) (pre ++ sub8 b f (p + (nextL (b.drop p)).2.1))) := Lib.hid (fun ho => by
          rw [HST.out, if_neg k1, if_neg k2, if_neg k3, if_pos ho, List.append_assoc, sub8_join hfp (by omega) (by omega)])
        have HNO : Hid ((nextL (b.drop p)).2.2 = false → strM b (i + 1) [] = ([], p, false)) := Lib.hid (fun ho => by
          rw [HST.out, if_neg k1, if_neg k2, if_neg k3, if_neg (by rw [ho]; simp)])
        obtain ⟨R, hR⟩ : ∃ R, nextL (b.drop p) = R := ⟨_, rfl⟩
        rw [hR] at HNX HNF HNO hnb
        clear hR k1 k2
        obtain ⟨r, m, ok⟩ := R
        have hnb1 : 1 ≤ m := hnb.1
        have hnb2 : m ≤ b.length - p := by have : m ≤ (b.drop p).length := hnb.2.1; omega
        have HX2 : Hid (∀ k, Calls Try.prog 27 #[.slice (some ⟨bb, off + p, none⟩) (b.length - p) (cap - p)] (wr.drewN k) fun e w' => e = .returned (.tuple #[.int .i32 r, .int .i64 (m : Nat), .bool ok]) ∧ ∃ n, w' = (wr.drewN k).drewN n) := Lib.hid HNX.out
        have HF2 : Hid (ok = true → strM b (i + 1) [] = strM b (p + m) (pre ++ sub8 b f (p + m))) := Lib.hid HNF.out
        have HO2' : Hid (ok = false → strM b (i + 1) [] = ([], p, false)) := Lib.hid HNO.out
        have q0 : (cap - p == 0) = false := by rw [beq_eq_false_iff_ne]; omega
        have q1 : ¬ cap - p = 0 := by omega
        have q2 : ¬ cap ≤ p := by omega
        clear hnb HNX HNF HNO
        cases ok with
        | false =>
          have HF := Lib.hid (HO2'.out rfl)
          go_wp2_with fail
          go_quiet (fail)
          go_wp2_with fail
          go_quiet (fail)
          go_wp2_with fail
          go_quiet ((go_at_call 27; exact quietD (HX2.out _)))
          go_wp2_with fail
          go_ret
          refine ⟨ret_b (by rw [HF.out]), ?_⟩
          rw [HF.out]
          exact ⟨vt, Box.drew HSr.out _, HOr.out, below_dr HBr.out _⟩
        | true =>
          have HF := Lib.hid (HF2.out rfl)
          go_wp2_with fail
          go_quiet (fail)
          go_wp2_with fail
          go_quiet (fail)
          go_wp2_with fail
          go_quiet ((go_at_call 27; exact quietD (HX2.out _)))
          go_wp2_with fail
          refine ⟨⟨f, p + m, pre, by omega, by omega, rfl, by omega, HF, ?_, HSr.out.to _ (p + m) _ (by omega), ?_, ?_⟩, by rw [leftOf_eq (HSr.out.to _ (p + m) _ (by omega)), leftOf_eq HSr.out]; omega⟩
          · exact Own.kept HOW.out (grown_to (grown_refl _ (some g)) _ 1 _) (.inr (HOW.out.neBox HSr.out))
          · exact HOr.out.kept (grown_to (grown_refl _ (some g)) _ 1 _) (.inr (HOr.out.ne HSr.out))
          · exact (below_dr HBr.out _).setCell hB _
    · have HF : Hid (strM b (i + 1) [] = ([], p, false)) := Lib.hid (by rw [HE.out, strM_end b p _ (by omega)])
      have hltI : (b.length : Int) ≤ (p : Int) := by omega
      clear h4
      go_wp2_with fail
      go_quiet (fail)
      go_wp2_with fail
      go_ret
      refine ⟨ret_b (by rw [HF.out]), ?_⟩
      rw [HF.out]
      exact ⟨vt, Box.drew HSr.out _, HOr.out, below_dr HBr.out _⟩
def tkAt (ts : List Tk) (i : Nat) : Tk := ts.getD i (0, 0, [])
def IsT (w : World) (v : Value) (ts : List Tk) : Prop :=
  ∃ a cap, v = .slice a ts.length cap ∧ ts.length ≤ cap ∧ cap ≤ maxLen ∧ (0 < ts.length → ∃ g, a = some ⟨g, 0, none⟩ ∧ ∀ i, i < ts.length → w.cell? ⟨g, i * 3, none⟩ = some (.int .i64 (tkAt ts i).1) ∧ w.cell? ⟨g, i * 3 + 1, none⟩ = some (.int .i64 (tkAt ts i).2.1) ∧ w.cell? ⟨g, i * 3 + 2, none⟩ = some (.string ⟨(tkAt ts i).2.2.toArray⟩))
theorem flat_at : ∀ (ts : List Tk) (i : Nat), i < ts.length → (ts.flatMap tokC)[i * 3]? = some (.int .i64 (tkAt ts i).1) ∧ (ts.flatMap tokC)[i * 3 + 1]? = some (.int .i64 (tkAt ts i).2.1) ∧ (ts.flatMap tokC)[i * 3 + 2]? = some (.string ⟨(tkAt ts i).2.2.toArray⟩) := by
  intro ts
  induction ts with
  | nil => intro i h; simp at h
  | cons t ts ih =>
    intro i h
    cases i with
    | zero => exact ⟨rfl, rfl, rfl⟩
    | succ i =>
      have h2 := ih i (by simpa using h)
      have e : ∀ k, ((t :: ts).flatMap tokC)[(i + 1) * 3 + k]? = (ts.flatMap tokC)[i * 3 + k]? := by
        intro k
        rw [show (t :: ts).flatMap tokC = tokC t ++ ts.flatMap tokC from rfl, List.getElem?_append_right (by simp [tokC]; omega)]
        congr 1
        simp [tokC]; omega
      have e0 := e 0
      rw [Nat.add_zero, Nat.add_zero] at e0
      rw [e0, e 1, e 2]
      exact h2
theorem OwnT.isT {w : World} {B : Nat} {v : Value} {ts : List Tk} (h : OwnT w B v ts) : IsT w v ts := by
  have hh := h
  rcases h.2 with ⟨hv, hn⟩ | ⟨g, cap, cur, hv, hg, hb, hnc, hcm, hcs, ht⟩
  · exact ⟨none, 0, by rw [hv, hn], by omega, by unfold maxLen; omega, fun h0 => by omega⟩
  · refine ⟨some ⟨g, 0, none⟩, cap, hv, hnc, hcm, fun h0 => ⟨g, rfl, fun i hi => ?_⟩⟩
    obtain ⟨f0, f1, f2⟩ := flat_at ts i hi
    have c : ∀ k u, (ts.flatMap tokC)[k]? = some u → w.cell? ⟨g, k, none⟩ = some u := by
      intro k u hk
      have := World.ownsRow.cells hh (g := g) (by rw [hv]; rfl) k u hk
      rw [addr_add] at this
      simpa using this
    exact ⟨c _ _ f0, c _ _ f1, c _ _ f2⟩
theorem IsT.below {w w' : World} {v : Value} {ts : List Tk} (h : IsT w v ts) (hb : Below w.heap.size w w') : IsT w' v ts := by
  obtain ⟨a, cap, e, h1, h2, h3⟩ := h
  refine ⟨a, cap, e, h1, h2, fun h0 => ?_⟩
  obtain ⟨g, ha, hc⟩ := h3 h0
  refine ⟨g, ha, fun i hi => ?_⟩
  obtain ⟨c0, c1, c2⟩ := hc i hi
  have hg : g < w.heap.size := World.block_lt_of_cell? w _ c0
  rw [hb.cell (p := ⟨g, i * 3, none⟩) hg, hb.cell (p := ⟨g, i * 3 + 1, none⟩) hg, hb.cell (p := ⟨g, i * 3 + 2, none⟩) hg]
  exact ⟨c0, c1, c2⟩
def tkEq (s t : Tk) : Bool := (s.1 == t.1) && (((s.2.1 : Int) == t.2.1) && (s.2.2 == t.2.2))
theorem tkEq_iff {s t : Tk} : tkEq s t = true ↔ s = t := by
  obtain ⟨a, b, c⟩ := s
  obtain ⟨a', b', c'⟩ := t
  unfold tkEq
  simp
  omega
set_option maxHeartbeats 1000000 in
theorem tk_neq_run (a a' : Int) (b b' : Nat) (c c' : List UInt8) (w : World) : (binOp .neq 40 (.agg #[.int .i64 a, .int .i64 b, .string ⟨c.toArray⟩]) (.agg #[.int .i64 a', .int .i64 b', .string ⟨c'.toArray⟩])).run Try.prog w = .ok (.bool (!tkEq (a, b, c) (a', b', c'))) w := by
  unfold tkEq
  go_simp
  by_cases h1 : a = a'
  · subst h1
    by_cases h2 : (b : Int) = (b' : Int)
    · rw [if_pos rfl, if_pos h2]
      by_cases h3 : c = c'
      · subst h3; simp [h2]
      · rw [if_neg h3]; simp [h2, h3]
    · rw [if_pos rfl, if_neg h2]; simp; omega
  · rw [if_neg h1]; simp [h1]
theorem tk_ext {ts us : List Tk} (h : ts.length = us.length) (h2 : ∀ k, k < ts.length → tkAt ts k = tkAt us k) : ts = us := by
  apply List.ext_getElem h
  intro i h3 h4
  have := h2 i h3
  simpa [tkAt, List.getD, h3, h4] using this
theorem ret_bool {a b : Bool} (h : a = b) : Ending.returned (.bool a) = .returned (.bool b) := by rw [h]
set_option maxRecDepth 100000 in
set_option maxHeartbeats 4000000 in
theorem Toks_any (va vb : Value) (ts us : List Tk) (w : World) (ha : IsT w va ts) (hb : IsT w vb us) (hm : ts.length ≤ 1000000) (hn : us.length ≤ 1000000) :
    Calls Try.prog 16 #[va, vb] w fun e w' => e = .returned (.bool (decide (ts = us))) ∧ ∃ n, w' = w.drewN n := by
  obtain ⟨a, capa, rfl, a1, a2, a3⟩ := ha
  obtain ⟨b, capb, rfl, b1, b2, b3⟩ := hb
  by_cases hl : ts.length = us.length
  · rw [← hl] at b1 b3
    have HX := Lib.hid (fun h => @tk_ext ts us hl h)
    have e1 : ((ts.length : Int) != (us.length : Int)) = false := by rw [hl]; simp
    have HL := Lib.hid hl
    rw [← hl]
    clear hl e1
    go_enter Try.func16, Try.ntmps16
    go_wp2_with fail
    go_loopw [5] (fun tj wr => ∃ j : Nat, j ≤ ts.length ∧ tj = .int .i64 j ∧ Hid (∀ k, k < j → tkAt ts k = tkAt us k) ∧ ∃ m, wr = w.drewN m) (fun tj _ => ts.length - (intOf tj).toNat)
    case atStart => exact ⟨0, Nat.zero_le _, rfl, Lib.hid (fun k hk => by omega), 0, rfl⟩
    case round =>
      obtain ⟨j, hj, rfl, HE, m, rfl⟩ := hrel
      by_cases hlt : j < ts.length
      · have hltI : (j : Int) < (ts.length : Int) := by omega
        obtain ⟨ga, rfl, ca⟩ := a3 (by omega)
        obtain ⟨gb, rfl, cb⟩ := b3 (by omega)
        obtain ⟨a0', a1', a2'⟩ := ca j hlt
        obtain ⟨b0', b1', b2'⟩ := cb j hlt
        have HRN := Lib.hid (fun w => tk_neq_run (tkAt ts j).1 (tkAt us j).1 (tkAt ts j).2.1 (tkAt us j).2.1 (tkAt ts j).2.2 (tkAt us j).2.2 w)
        by_cases hq : tkAt ts j = tkAt us j
        · have HN : Hid (∀ k, k < j + 1 → tkAt ts k = tkAt us k) := Lib.hid (fun k hk => by
            rcases Nat.lt_or_ge k j with h3 | h3
            · exact HE.out k h3
            · obtain rfl : k = j := by omega
              exact hq)
          have HQ : Hid (tkEq (tkAt ts j) (tkAt us j) = true) := Lib.hid (tkEq_iff.2 hq)
          have hrun : ∀ w, (binOp .neq 40 (.agg #[.int .i64 (tkAt ts j).1, .int .i64 (tkAt ts j).2.1, .string ⟨(tkAt ts j).2.2.toArray⟩]) (.agg #[.int .i64 (tkAt us j).1, .int .i64 (tkAt us j).2.1, .string ⟨(tkAt us j).2.2.toArray⟩])).run Try.prog w = .ok (.bool false) w := fun w => by
            rw [HRN.out]; rw [show tkEq ((tkAt ts j).1, (tkAt ts j).2.1, (tkAt ts j).2.2) ((tkAt us j).1, (tkAt us j).2.1, (tkAt us j).2.2) = true from HQ.out]; rfl
          clear hq ca cb a3 b3
          go_wp2_with fail
          go_quiet (fail)
          go_wp2_with fail
          exact ⟨⟨j + 1, by omega, by go_num, HN, _, by first | rfl | (rw [World.drewN_drewN])⟩, by simp [intOf]; omega⟩
        · have HQ : Hid (tkEq (tkAt ts j) (tkAt us j) = false) := Lib.hid (by rw [Bool.eq_false_iff]; exact fun h => hq (tkEq_iff.1 h))
          have HF : Hid (decide (ts = us) = false) := Lib.hid (by rw [decide_eq_false_iff_not]; exact fun h => hq (by rw [h]))
          have hrun : ∀ w, (binOp .neq 40 (.agg #[.int .i64 (tkAt ts j).1, .int .i64 (tkAt ts j).2.1, .string ⟨(tkAt ts j).2.2.toArray⟩]) (.agg #[.int .i64 (tkAt us j).1, .int .i64 (tkAt us j).2.1, .string ⟨(tkAt us j).2.2.toArray⟩])).run Try.prog w = .ok (.bool true) w := fun w => by
            rw [HRN.out]; rw [show tkEq ((tkAt ts j).1, (tkAt ts j).2.1, (tkAt ts j).2.2) ((tkAt us j).1, (tkAt us j).2.1, (tkAt us j).2.2) = false from HQ.out]; rfl
          clear hq ca cb a3 b3
          go_wp2_with fail
          go_quiet (fail)
          go_wp2_with fail
          go_ret
          exact ⟨ret_bool HF.out.symm, _, by first | rfl | (rw [World.drewN_drewN])⟩
      · have hltI : (ts.length : Int) ≤ (j : Int) := by omega
        have HF : Hid (decide (ts = us) = true) := Lib.hid (decide_eq_true (HX.out (fun k hk => HE.out k (by omega))))
        clear a3 b3
        go_wp2_with fail
        go_ret
        exact ⟨ret_bool HF.out.symm, _, rfl⟩
  · have HF : Hid (decide (ts = us) = false) := Lib.hid (by rw [decide_eq_false_iff_not]; exact fun h => hl (by rw [h]))
    have e1 : ((ts.length : Int) != (us.length : Int)) = true := by simpa using (fun h => hl (by omega))
    have e2 : ((ts.length : Int) == (us.length : Int)) = false := by rw [beq_eq_false_iff_ne]; omega
    clear a3 b3
    go_enter Try.func16, Try.ntmps16
    go_wp2_with fail
    go_ret
    exact ⟨ret_bool HF.out.symm, 0, rfl⟩
end Go.Proofs.Ytncfmmpdlcnboaa
