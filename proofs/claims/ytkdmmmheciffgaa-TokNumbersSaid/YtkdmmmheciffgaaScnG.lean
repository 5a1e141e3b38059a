/- The contract of ref5's scan.word. -/
import Derived.Test.YtkdmmmheciffgaaScnD
import Derived.Test.YtkdmmmheciffgaaTokS
set_option linter.unusedVariables false
set_option linter.unusedSimpArgs false
namespace Go.Proofs.Ytkdmmmheciffgaa
open Go.RowKit

theorem isB_w1 {b wd : List UInt8} {q j : Nat} (hj : j < wd.length) (hz : ∀ c ∈ wd, c ≠ 0) : isB b false q ((wd.take (j + 1)).drop j) = decide (byt b q = byt wd j) := by
  have e : byt wd j = ((wd[j]).toNat : Int) := by unfold byt; simp [List.getD, hj]
  have e2 : (wd.take (j + 1)).drop j = [wd[j]] := by rw [List.drop_take, List.drop_eq_getElem_cons hj, show j + 1 - j = 1 by omega]; rfl
  have hc : wd[j] ≠ 0 := hz _ (List.getElem_mem hj)
  have hn : ((wd[j]).toNat : Int) ≠ 0 := by
    intro h0; apply hc; apply UInt8.toNat_inj.1; show (wd[j]).toNat = 0; omega
  rw [e2, e]
  unfold isB memB
  rw [Bool.eq_iff_iff]
  simp
  constructor
  · rintro ⟨-, h⟩; exact h.symm
  · intro h; exact ⟨byt_lt h hn, h.symm⟩
set_option maxRecDepth 100000 in
set_option maxHeartbeats 4000000 in
theorem rword_any (g : Nat) (vb : Value) (b : List UInt8) (i : Nat) (wd : List UInt8) (w : World) (hs : Scn w g vb i false) (ht : Text w g vb b) (hi : i ≤ b.length) (hw : wd.length ≤ 10) (hz : ∀ c ∈ wd, c ≠ 0) :
    Calls Try.prog 43 #[.pointer (some ⟨g, 0, none⟩), .string ⟨wd.toArray⟩] w fun e w' => e = .returned (.tuple #[]) ∧ Scn w' g vb (wordM b wd i).1 (notB (wordM b wd i).2) ∧ w.grownBy w' (some g) := by
  have hm := ht.le
  have HS := Lib.hid hs
  have HT := Lib.hid ht
  have HWS := Lib.hid (fun j i (h : j < wd.length) => @wordM_step b wd j i h)
  have HIO := Lib.hid (fun q j (h : j < wd.length) => isB_w1 (b := b) (q := q) h hz)
  clear hs ht hz
  go_enter Try.func43, Try.ntmps43
  go_wp2_with fail
  go_loopw [4] (fun tj wr => ∃ (j q : Nat) (bad : Bool), j ≤ wd.length ∧ q ≤ b.length + 10 ∧ tj = .int .i64 j ∧ Hid ((bad = false ∧ q = i + j ∧ wordM b wd i = wordM b (wd.drop j) q) ∨ (bad = true ∧ wordM b wd i = (q, false))) ∧ Scn wr g vb q bad ∧ w.grownBy wr (some g)) (fun tj _ => wd.length - (intOf tj).toNat)
  case atStart => exact ⟨0, i, false, Nat.zero_le _, by omega, rfl, Lib.hid (.inl ⟨rfl, rfl, rfl⟩), HS.out, grown_refl _ _⟩
  case round =>
    obtain ⟨j, q, bad, hj, hqb, rfl, HE, hs, hg⟩ := hrel
    have HTr := Lib.hid (HT.out.grown hg)
    have HSr := Lib.hid hs
    have HG := Lib.hid hg
    have d2 : wr.cell? ⟨g, 2, none⟩ = some (.bool bad) := hs.c2
    clear hs hg
    by_cases hlt2 : j < wd.length
    · have hltI : (j : Int) < (wd.length : Int) := by omega
      cases bad with
      | true =>
        have HF : Hid (wordM b wd i = (q, false)) := Lib.hid (by
          rcases HE.out with ⟨h, -⟩ | ⟨-, h⟩
          · cases h
          · exact h)
        go_wp2_with fail
        go_end0
        exact ⟨rfl, by rw [HF.out]; exact HSr.out, HG.out⟩
      | false =>
        have HE2 : Hid (q = i + j ∧ wordM b wd i = wordM b (wd.drop j) q) := Lib.hid (by
          rcases HE.out with ⟨-, h⟩ | ⟨h, -⟩
          · exact h
          · cases h)
        have HTK := Lib.hid (take_any g vb b q false ((wd.take (j + 1)).drop j) wr HSr.out HTr.out (by simp; omega) (by omega))
        rw [HIO.out q j hlt2] at HTK
        have HW := Lib.hid (HE2.out.2.trans (HWS.out j q hlt2))
        have hq2 : q < b.length + 10 := by have := HE2.out.1; omega
        by_cases hc : byt b q = byt wd j
        · have HF : Hid (wordM b wd i = wordM b (wd.drop (j + 1)) (q + 1)) := Lib.hid (by rw [HW.out, if_pos hc])
          have HTK2 : Hid (Calls Try.prog 30 #[.pointer (some ⟨g, 0, none⟩), .string ⟨((wd.take (j + 1)).drop j).toArray⟩] wr fun e w' => e = .returned (.bool true) ∧ Scn w' g vb (q + 1) false ∧ wr.grownBy w' (some g)) := Lib.hid (by have h := HTK.out; rw [decide_eq_true hc] at h; exact h)
          clear hc HTK
          go_wp2_with fail
          refine HTK2.out.mono ?_
          rintro e x1 ⟨rfl, hs1, hg1⟩
          have HS1 := Lib.hid hs1
          have HG1 := Lib.hid (grownBy_trans HG.out hg1)
          clear hs1 hg1
          go_wp2_with fail
          exact ⟨⟨j + 1, q + 1, false, by omega, by omega, by go_num, Lib.hid (.inl ⟨rfl, by have := HE2.out.1; omega, HF.out⟩), HS1.out, HG1.out⟩, by simp [intOf]; omega⟩
        · have HF : Hid (wordM b wd i = (q, false)) := Lib.hid (by rw [HW.out, if_neg hc])
          have HTK2 : Hid (Calls Try.prog 30 #[.pointer (some ⟨g, 0, none⟩), .string ⟨((wd.take (j + 1)).drop j).toArray⟩] wr fun e w' => e = .returned (.bool false) ∧ Scn w' g vb q false ∧ wr.grownBy w' (some g)) := Lib.hid (by have h := HTK.out; rw [decide_eq_false hc] at h; exact h)
          clear hc HTK
          go_wp2_with fail
          refine HTK2.out.mono ?_
          rintro e x1 ⟨rfl, hs1, hg1⟩
          have HS1 := Lib.hid hs1
          have HG1 := Lib.hid (grownBy_trans HG.out hg1)
          have e2 : x1.cell? ⟨g, 2, none⟩ = some (.bool false) := hs1.c2
          have f2 : x1.frozen? ⟨g, 2, none⟩ = false := Box.frozen hs1 2
          clear hs1 hg1
          go_wp2_with fail
          exact ⟨⟨j + 1, q, true, by omega, by omega, by go_num, Lib.hid (.inr ⟨rfl, HF.out⟩), (by unfold Scn; exact Box.set HS1.out 2 (by simp) _), grown_to0 HG1.out 2 _⟩, by simp [intOf]; omega⟩
    · obtain rfl : j = wd.length := by omega
      have HF : Hid (Scn wr g vb (wordM b wd i).1 (notB (wordM b wd i).2)) := Lib.hid (by
        rcases HE.out with ⟨rfl, h1, h2⟩ | ⟨rfl, h2⟩
        · rw [h2, List.drop_length]; exact HSr.out
        · rw [h2]; exact HSr.out)
      go_wp2_with fail
      go_end0
      exact ⟨rfl, HF.out, HG.out⟩
end Go.Proofs.Ytkdmmmheciffgaa
