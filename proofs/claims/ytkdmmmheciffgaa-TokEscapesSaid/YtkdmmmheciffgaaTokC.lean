/- Contracts of jtok's scanner: unit. -/
import Derived.Test.YtkdmmmheciffgaaTokB
import Derived.Lib.EndianBits
import Derived.Test.YtkdmmmheciffgaaQuiet
set_option linter.unusedVariables false
set_option linter.unusedSimpArgs false
namespace Go.Proofs.Ytkdmmmheciffgaa
open Go.RowKit

theorem wraps_i32t (n : Int) (h0 : 0 ≤ n) (h1 : n < 2 ^ 31) : IntKind.i32.wrap n = n := by
  simp [IntKind.wrap, IntKind.bits, IntKind.signed]; omega
theorem i32_or4 (x y : Int) (hx0 : 0 ≤ x) (hx1 : x < 4096) (hy : 0 ≤ y) (h : y < 16) : bits .or .i32 (x * 16) y = x * 16 + y :=
  bits_join .i32 31 (by decide) wraps_i32t 4 _ _ (by omega) (by omega) (by omega) hy (by omega) (by omega)
theorem tup32B {a a' : Int} {c c' : Bool} (h1 : a = a') (h3 : c = c') : Ending.returned (.tuple #[.int .i32 a, .bool c]) = .returned (.tuple #[.int .i32 a', .bool c']) := by rw [h1, h3]
/-- here, where the world has drawn. -/
theorem here_q (vb : Value) (b : List UInt8) (w : World) (hv : Is8 w vb b) (hm : b.length ≤ 1000000) (x : Int) (h0 : 0 ≤ x) (h1 : x ≤ 2000000) (n : Nat) :
    Calls Try.prog 35 #[vb, .int .i64 x] (w.drewN n) fun e w' => e = .returned (.int .u8 (byt b x.toNat)) ∧ w' = w.drewN n := by
  obtain ⟨i, rfl⟩ := Int.eq_ofNat_of_zero_le h0
  exact (here_any vb b i (w.drewN n) hv hm (by omega)).mono fun _ _ ⟨p, q⟩ => ⟨p, q.symm⟩
set_option maxRecDepth 100000 in
set_option maxHeartbeats 4000000 in
theorem unit_any (g : Nat) (vb : Value) (b : List UInt8) (i : Nat) (keep : Bool) (n : Int) (vt : Value) (w : World) (hs : Scan w g vb i keep n vt) (ht : Text w g vb b) (hi : i ≤ b.length) :
    Calls Try.prog 57 #[.pointer (some ⟨g, 0, none⟩)] w fun e w' => e = .returned (.tuple #[.int .i32 (hexM b 4 i 0).1, .bool (hexM b 4 i 0).2.2]) ∧ Scan w' g vb (hexM b 4 i 0).2.1 keep n vt ∧ w.grownBy w' (some g) := by
  have HT := Lib.hid ht
  have hm := ht.le
  have HS := Lib.hid hs
  clear ht hs
  go_enter Try.func57, Try.ntmps57
  go_wp2_with fail
  go_loopw [4, 5, 6] (fun tu td tk wr => ∃ (k j : Nat) (u : Int), (k = 0 ∧ u < 1 ∨ k = 1 ∧ u < 16 ∨ k = 2 ∧ u < 256 ∨ k = 3 ∧ u < 4096 ∨ k = 4 ∧ u < 65536) ∧ 0 ≤ u ∧ tk = .int .i64 k ∧ tu = .int .i32 u ∧ j ≤ b.length ∧ Hid (hexM b 4 i 0 = hexM b (4 - k) j u) ∧ Scan wr g vb j keep n vt ∧ w.grownBy wr (some g)) (fun _ _ tk _ => 4 - (intOf tk).toNat)
  case atStart => exact ⟨0, i, 0, .inl ⟨rfl, by decide⟩, by decide, rfl, rfl, hi, Lib.hid rfl, HS.out, grown_refl _ _⟩
  case round =>
    obtain ⟨k, j, u, hk, hu0, rfl, rfl, hj, HE, hs, hg⟩ := hrel
    have HTr := Lib.hid (HT.out.grown hg)
    have HSr := Lib.hid hs
    have HG := Lib.hid hg
    have c0 : wr.cell? ⟨g, 0, none⟩ = some vb := by rw [hs.cell]; rfl
    have c1 : wr.cell? ⟨g, 1, none⟩ = some (.int .i64 j) := by rw [hs.cell]; rfl
    have fz : wr.frozen? ⟨g, 1, none⟩ = false := hs.frozen 1
    have HQ := Lib.hid (here_q vb b wr HTr.out.is hm (j : Int) (by omega) (by omega))
    have b0 := byt_lo b j
    have b1 := byt_hi b j
    have HX := Lib.hid (fun W => hex_any (byt b j) W b0 b1)
    obtain ⟨x0, x1⟩ := hexN_bd (byt b j)
    have HN := Lib.hid (fun k (h : hexN (byt b j) < 0) => hexM_no (k := k) (n := u) h)
    have HY := Lib.hid (fun k (h : ¬ hexN (byt b j) < 0) => hexM_yes (k := k) (n := u) h)
    have HL := Lib.hid (fun (h : ¬ hexN (byt b j) < 0) => hexN_lt h)
    have ej : ((j : Int)).toNat = j := by omega
    rw [ej] at HQ
    obtain ⟨x, hx⟩ : ∃ x, hexN (byt b j) = x := ⟨_, rfl⟩
    rw [hx] at HX x0 x1 HN HY HL
    clear hs hg hx ej
    rcases hk with ⟨rfl, hu⟩ | ⟨rfl, hu⟩ | ⟨rfl, hu⟩ | ⟨rfl, hu⟩ | ⟨rfl, hu⟩
    · by_cases hx : x < 0
      · have HF := Lib.hid (HE.out.trans (HN.out 3 hx))
        go_wp2_with fail
        go_quiet ((first | (go_at_call 35; exact Calls.quiet_of_same (HQ.out _)) | (go_at_call 62; exact Calls.quiet_of_same ((HX.out _).mono fun _ _ ⟨p, q⟩ => ⟨p, q.symm⟩))))
        go_wp2_with fail
        go_ret2
        exact ⟨tup32B (by rw [HF.out]) (by rw [HF.out]), by rw [HF.out]; exact Box.drew HSr.out _, grownBy_trans HG.out (grownBy_drew _ _ _)⟩
      · have HF := Lib.hid (HE.out.trans (HY.out 3 hx))
        have hl := HL.out hx
        have hor : bits .or .i32 (u * 16) x = u * 16 + x := i32_or4 u x hu0 (by omega) (by omega) (by omega)
        go_wp2_with fail
        go_quiet ((first | (go_at_call 35; exact Calls.quiet_of_same (HQ.out _)) | (go_at_call 62; exact Calls.quiet_of_same ((HX.out _).mono fun _ _ ⟨p, q⟩ => ⟨p, q.symm⟩))))
        go_wp2_with fail
        exact ⟨⟨1, j + 1, u * 16 + x, .inr (.inl ⟨rfl, by omega⟩), by omega, by first | rfl | go_num, rfl, by omega, HF, HSr.out.to _ _ _ (by omega), grown_to HG.out _ _ _⟩, by simp [intOf]⟩
    · by_cases hx : x < 0
      · have HF := Lib.hid (HE.out.trans (HN.out 2 hx))
        go_wp2_with fail
        go_quiet ((first | (go_at_call 35; exact Calls.quiet_of_same (HQ.out _)) | (go_at_call 62; exact Calls.quiet_of_same ((HX.out _).mono fun _ _ ⟨p, q⟩ => ⟨p, q.symm⟩))))
        go_wp2_with fail
        go_ret2
        exact ⟨tup32B (by rw [HF.out]) (by rw [HF.out]), by rw [HF.out]; exact Box.drew HSr.out _, grownBy_trans HG.out (grownBy_drew _ _ _)⟩
      · have HF := Lib.hid (HE.out.trans (HY.out 2 hx))
        have hl := HL.out hx
        have hor : bits .or .i32 (u * 16) x = u * 16 + x := i32_or4 u x hu0 (by omega) (by omega) (by omega)
        go_wp2_with fail
        go_quiet ((first | (go_at_call 35; exact Calls.quiet_of_same (HQ.out _)) | (go_at_call 62; exact Calls.quiet_of_same ((HX.out _).mono fun _ _ ⟨p, q⟩ => ⟨p, q.symm⟩))))
        go_wp2_with fail
        exact ⟨⟨2, j + 1, u * 16 + x, .inr (.inr (.inl ⟨rfl, by omega⟩)), by omega, by first | rfl | go_num, rfl, by omega, HF, HSr.out.to _ _ _ (by omega), grown_to HG.out _ _ _⟩, by simp [intOf]⟩
    · by_cases hx : x < 0
      · have HF := Lib.hid (HE.out.trans (HN.out 1 hx))
        go_wp2_with fail
        go_quiet ((first | (go_at_call 35; exact Calls.quiet_of_same (HQ.out _)) | (go_at_call 62; exact Calls.quiet_of_same ((HX.out _).mono fun _ _ ⟨p, q⟩ => ⟨p, q.symm⟩))))
        go_wp2_with fail
        go_ret2
        exact ⟨tup32B (by rw [HF.out]) (by rw [HF.out]), by rw [HF.out]; exact Box.drew HSr.out _, grownBy_trans HG.out (grownBy_drew _ _ _)⟩
      · have HF := Lib.hid (HE.out.trans (HY.out 1 hx))
        have hl := HL.out hx
        have hor : bits .or .i32 (u * 16) x = u * 16 + x := i32_or4 u x hu0 (by omega) (by omega) (by omega)
        go_wp2_with fail
        go_quiet ((first | (go_at_call 35; exact Calls.quiet_of_same (HQ.out _)) | (go_at_call 62; exact Calls.quiet_of_same ((HX.out _).mono fun _ _ ⟨p, q⟩ => ⟨p, q.symm⟩))))
        go_wp2_with fail
        exact ⟨⟨3, j + 1, u * 16 + x, .inr (.inr (.inr (.inl ⟨rfl, by omega⟩))), by omega, by first | rfl | go_num, rfl, by omega, HF, HSr.out.to _ _ _ (by omega), grown_to HG.out _ _ _⟩, by simp [intOf]⟩
    · by_cases hx : x < 0
      · have HF := Lib.hid (HE.out.trans (HN.out 0 hx))
        go_wp2_with fail
        go_quiet ((first | (go_at_call 35; exact Calls.quiet_of_same (HQ.out _)) | (go_at_call 62; exact Calls.quiet_of_same ((HX.out _).mono fun _ _ ⟨p, q⟩ => ⟨p, q.symm⟩))))
        go_wp2_with fail
        go_ret2
        exact ⟨tup32B (by rw [HF.out]) (by rw [HF.out]), by rw [HF.out]; exact Box.drew HSr.out _, grownBy_trans HG.out (grownBy_drew _ _ _)⟩
      · have HF := Lib.hid (HE.out.trans (HY.out 0 hx))
        have hl := HL.out hx
        have hor : bits .or .i32 (u * 16) x = u * 16 + x := i32_or4 u x hu0 (by omega) (by omega) (by omega)
        go_wp2_with fail
        go_quiet ((first | (go_at_call 35; exact Calls.quiet_of_same (HQ.out _)) | (go_at_call 62; exact Calls.quiet_of_same ((HX.out _).mono fun _ _ ⟨p, q⟩ => ⟨p, q.symm⟩))))
        go_wp2_with fail
        exact ⟨⟨4, j + 1, u * 16 + x, .inr (.inr (.inr (.inr (⟨rfl, by omega⟩)))), by omega, by first | rfl | go_num, rfl, by omega, HF, HSr.out.to _ _ _ (by omega), grown_to HG.out _ _ _⟩, by simp [intOf]⟩
    · have HF : Hid (hexM b 4 i 0 = (u, j, true)) := Lib.hid HE.out
      go_wp2_with fail
      go_ret2
      exact ⟨tup32B (by rw [HF.out]) (by rw [HF.out]), by rw [HF.out]; exact HSr.out, HG.out⟩
end Go.Proofs.Ytkdmmmheciffgaa
