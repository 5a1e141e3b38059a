/- The contracts of ref4.Digit and of ref5's scan.hex. -/
import Derived.Test.YtkdmmmheciffgaaScnC
import Derived.Test.YtkdmmmheciffgaaTokC
import Derived.Test.YtkdmmmheciffgaaTokD
set_option linter.unusedVariables false
set_option linter.unusedSimpArgs false
namespace Go.Proofs.Ytkdmmmheciffgaa
open Go.RowKit

set_option maxHeartbeats 1000000 in
theorem digit4_any (c : Int) (w : World) (h0 : 0 ≤ c) (h1 : c ≤ 255) :
    Calls Try.prog 61 #[.int .u8 c] w fun e w' => e = .returned (.int .i64 (hexN c)) ∧ w' = w := by
  have HX : Hid (hexN c = if 48 ≤ c ∧ c ≤ 57 then c - 48 else if 97 ≤ c ∧ c ≤ 102 then c - 87 else if 65 ≤ c ∧ c ≤ 70 then c - 55 else -1) := Lib.hid rfl
  by_cases a : 48 ≤ c <;> by_cases b : c ≤ 57 <;> by_cases d : 97 ≤ c <;> by_cases e : c ≤ 102 <;> by_cases f : 65 ≤ c <;> by_cases g : c ≤ 70
  all_goals first
    | (exfalso; omega)
    | (go_enter Try.func61, Try.ntmps61
       go_wp2
       go_ret
       refine ⟨ret_n ?_, by trivial⟩
       rw [HX.out]
       (repeat' split) <;> first | rfl | omega)
theorem hexN_over {b : List UInt8} {i : Nat} (h : b.length ≤ i) : hexN (byt b i) < 0 := by rw [byt_over h]; decide
def notB (t : Bool) : Bool := !t
set_option maxRecDepth 100000 in
set_option maxHeartbeats 4000000 in
theorem rhex_any (g : Nat) (vb : Value) (b : List UInt8) (i : Nat) (w : World) (hs : Scn w g vb i false) (ht : Text w g vb b) (hi : i ≤ b.length) :
    Calls Try.prog 55 #[.pointer (some ⟨g, 0, none⟩)] w fun e w' => e = .returned (.int .i32 (hexM b 4 i 0).1) ∧ Scn w' g vb (hexM b 4 i 0).2.1 (notB (hexM b 4 i 0).2.2) ∧ w.grownBy w' (some g) := by
  have HT := Lib.hid ht
  have hm := ht.le
  have HS := Lib.hid hs
  clear ht hs
  go_enter Try.func55, Try.ntmps55
  go_wp2_with fail
  go_loopw [3, 4] (fun tu tk wr => ∃ (k j : Nat) (u : Int), (k = 0 ∧ u < 1 ∨ k = 1 ∧ u < 16 ∨ k = 2 ∧ u < 256 ∨ k = 3 ∧ u < 4096 ∨ k = 4 ∧ u < 65536) ∧ 0 ≤ u ∧ tk = .int .i64 k ∧ tu = .int .i32 u ∧ j ≤ b.length ∧ Hid (hexM b 4 i 0 = hexM b (4 - k) j u) ∧ Scn wr g vb j false ∧ w.grownBy wr (some g)) (fun _ tk _ => 4 - (intOf tk).toNat)
  case atStart => exact ⟨0, i, 0, .inl ⟨rfl, by decide⟩, by decide, rfl, rfl, hi, Lib.hid rfl, HS.out, grown_refl _ _⟩
  case round =>
    obtain ⟨k, j, u, hk, hu0, rfl, rfl, hj, HE, hs, hg⟩ := hrel
    have HTr := Lib.hid (HT.out.grown hg)
    have HSr := Lib.hid hs
    have HG := Lib.hid hg
    have c0 : wr.cell? ⟨g, 0, none⟩ = some vb := hs.c0
    have c1 : wr.cell? ⟨g, 1, none⟩ = some (.int .i64 j) := hs.c1
    have c2 : wr.cell? ⟨g, 2, none⟩ = some (.bool false) := hs.c2
    have fz : wr.frozen? ⟨g, 1, none⟩ = false := Box.frozen hs 1
    have fz2 : wr.frozen? ⟨g, 2, none⟩ = false := Box.frozen hs 2
    have HN := Lib.hid (fun k (h : hexN (byt b j) < 0) => hexM_no (k := k) (n := u) h)
    have HY := Lib.hid (fun k (h : ¬ hexN (byt b j) < 0) => hexM_yes (k := k) (n := u) h)
    have HO := Lib.hid (fun (h : b.length ≤ j) => hexN_over h)
    obtain ⟨a, cap, e, h1, h2, -, h4⟩ := HTr.out.is
    unfold maxLen at h2
    clear hs hg
    by_cases hlt : j < b.length
    · obtain ⟨bb, off, rfl, hc⟩ := h4 (by omega)
      have hcell : wr.cell? ⟨bb, off + j, none⟩ = some (.int .u8 (byt b j)) := hc.at j hlt
      have hltI : (j : Int) < (b.length : Int) := by omega
      have hgd : decide ((b.length : Int) ≤ (j : Int)) = false := by simp; omega
      have HC0 := Lib.hid c0
      subst e
      have b0 := byt_lo b j
      have b1 := byt_hi b j
      have HX := Lib.hid (fun W => digit4_any (byt b j) W b0 b1)
      obtain ⟨x0, x1⟩ := hexN_bd (byt b j)
      obtain ⟨c, hcc⟩ : ∃ c, byt b j = c := ⟨_, rfl⟩
      rw [hcc] at hcell HX b0 b1 HN HY x0 x1 HO
      obtain ⟨x, hx⟩ : ∃ x, hexN c = x := ⟨_, rfl⟩
      rw [hx] at HX x0 x1 HN HY HO
      clear hx hcc hc h4 HC0
      rcases hk with ⟨rfl, hu⟩ | ⟨rfl, hu⟩ | ⟨rfl, hu⟩ | ⟨rfl, hu⟩ | ⟨rfl, hu⟩
      · by_cases hx : x < 0
        · have HF := Lib.hid (HE.out.trans (HN.out 3 hx))
          have hxd : decide (x < 0) = true := by simp; omega
          go_wp2_with fail
          go_quiet ((go_at_call 61; exact Calls.quiet_of_same (HX.out _)))
          go_wp2_with fail
          go_ret
          exact ⟨ret_i32 (by rw [HF.out]), by rw [HF.out]; exact Scn.bad HSr.out _, grown_to HG.out _ _ _⟩
        · have HF := Lib.hid (HE.out.trans (HY.out 3 hx))
          have hxd : decide (x < 0) = false := by simp; omega
          go_wp2_with fail
          go_quiet ((go_at_call 61; exact Calls.quiet_of_same (HX.out _)))
          go_wp2_with fail
          go_quiet ((go_at_call 61; exact quietA HX.out))
          go_wp2_with fail
          exact ⟨⟨1, j + 1, u * 16 + x, .inr (.inl ⟨rfl, by omega⟩), by omega, by first | rfl | go_num, rfl, by omega, HF, HSr.out.to _ _ _ (by omega), grown_to HG.out _ _ _⟩, by simp [intOf]⟩
      · by_cases hx : x < 0
        · have HF := Lib.hid (HE.out.trans (HN.out 2 hx))
          have hxd : decide (x < 0) = true := by simp; omega
          go_wp2_with fail
          go_quiet ((go_at_call 61; exact Calls.quiet_of_same (HX.out _)))
          go_wp2_with fail
          go_ret
          exact ⟨ret_i32 (by rw [HF.out]), by rw [HF.out]; exact Scn.bad HSr.out _, grown_to HG.out _ _ _⟩
        · have HF := Lib.hid (HE.out.trans (HY.out 2 hx))
          have hxd : decide (x < 0) = false := by simp; omega
          go_wp2_with fail
          go_quiet ((go_at_call 61; exact Calls.quiet_of_same (HX.out _)))
          go_wp2_with fail
          go_quiet ((go_at_call 61; exact quietA HX.out))
          go_wp2_with fail
          exact ⟨⟨2, j + 1, u * 16 + x, .inr (.inr (.inl ⟨rfl, by omega⟩)), by omega, by first | rfl | go_num, rfl, by omega, HF, HSr.out.to _ _ _ (by omega), grown_to HG.out _ _ _⟩, by simp [intOf]⟩
      · by_cases hx : x < 0
        · have HF := Lib.hid (HE.out.trans (HN.out 1 hx))
          have hxd : decide (x < 0) = true := by simp; omega
          go_wp2_with fail
          go_quiet ((go_at_call 61; exact Calls.quiet_of_same (HX.out _)))
          go_wp2_with fail
          go_ret
          exact ⟨ret_i32 (by rw [HF.out]), by rw [HF.out]; exact Scn.bad HSr.out _, grown_to HG.out _ _ _⟩
        · have HF := Lib.hid (HE.out.trans (HY.out 1 hx))
          have hxd : decide (x < 0) = false := by simp; omega
          go_wp2_with fail
          go_quiet ((go_at_call 61; exact Calls.quiet_of_same (HX.out _)))
          go_wp2_with fail
          go_quiet ((go_at_call 61; exact quietA HX.out))
          go_wp2_with fail
          exact ⟨⟨3, j + 1, u * 16 + x, .inr (.inr (.inr (.inl ⟨rfl, by omega⟩))), by omega, by first | rfl | go_num, rfl, by omega, HF, HSr.out.to _ _ _ (by omega), grown_to HG.out _ _ _⟩, by simp [intOf]⟩
      · by_cases hx : x < 0
        · have HF := Lib.hid (HE.out.trans (HN.out 0 hx))
          have hxd : decide (x < 0) = true := by simp; omega
          go_wp2_with fail
          go_quiet ((go_at_call 61; exact Calls.quiet_of_same (HX.out _)))
          go_wp2_with fail
          go_ret
          exact ⟨ret_i32 (by rw [HF.out]), by rw [HF.out]; exact Scn.bad HSr.out _, grown_to HG.out _ _ _⟩
        · have HF := Lib.hid (HE.out.trans (HY.out 0 hx))
          have hxd : decide (x < 0) = false := by simp; omega
          go_wp2_with fail
          go_quiet ((go_at_call 61; exact Calls.quiet_of_same (HX.out _)))
          go_wp2_with fail
          go_quiet ((go_at_call 61; exact quietA HX.out))
          go_wp2_with fail
          exact ⟨⟨4, j + 1, u * 16 + x, .inr (.inr (.inr (.inr (⟨rfl, by omega⟩)))), by omega, by first | rfl | go_num, rfl, by omega, HF, HSr.out.to _ _ _ (by omega), grown_to HG.out _ _ _⟩, by simp [intOf]⟩
      · have HF : Hid (hexM b 4 i 0 = (u, j, true)) := Lib.hid HE.out
        go_wp2_with fail
        go_ret
        exact ⟨ret_i32 (by rw [HF.out]), by rw [HF.out]; exact HSr.out, HG.out⟩
    · have hgd : decide ((b.length : Int) ≤ (j : Int)) = true := by simp; omega
      have hx := HO.out (by omega)
      subst e
      clear h4
      rcases hk with ⟨rfl, hu⟩ | ⟨rfl, hu⟩ | ⟨rfl, hu⟩ | ⟨rfl, hu⟩ | ⟨rfl, hu⟩
      · have HF := Lib.hid (HE.out.trans (HN.out 3 hx))
        clear hx
        go_wp2_with fail
        go_quiet (fail)
        go_wp2_with fail
        go_ret
        exact ⟨ret_i32 (by rw [HF.out]), by rw [HF.out]; exact Scn.bad HSr.out _, grown_to HG.out _ _ _⟩
      · have HF := Lib.hid (HE.out.trans (HN.out 2 hx))
        clear hx
        go_wp2_with fail
        go_quiet (fail)
        go_wp2_with fail
        go_ret
        exact ⟨ret_i32 (by rw [HF.out]), by rw [HF.out]; exact Scn.bad HSr.out _, grown_to HG.out _ _ _⟩
      · have HF := Lib.hid (HE.out.trans (HN.out 1 hx))
        clear hx
        go_wp2_with fail
        go_quiet (fail)
        go_wp2_with fail
        go_ret
        exact ⟨ret_i32 (by rw [HF.out]), by rw [HF.out]; exact Scn.bad HSr.out _, grown_to HG.out _ _ _⟩
      · have HF := Lib.hid (HE.out.trans (HN.out 0 hx))
        clear hx
        go_wp2_with fail
        go_quiet (fail)
        go_wp2_with fail
        go_ret
        exact ⟨ret_i32 (by rw [HF.out]), by rw [HF.out]; exact Scn.bad HSr.out _, grown_to HG.out _ _ _⟩
      · clear hx
        have HF : Hid (hexM b 4 i 0 = (u, j, true)) := Lib.hid HE.out
        go_wp2_with fail
        go_ret
        exact ⟨ret_i32 (by rw [HF.out]), by rw [HF.out]; exact HSr.out, HG.out⟩
end Go.Proofs.Ytkdmmmheciffgaa
