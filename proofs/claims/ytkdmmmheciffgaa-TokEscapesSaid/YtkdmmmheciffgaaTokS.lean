/- Contracts of jtok's scanner: word. -/
import Derived.Test.YtkdmmmheciffgaaTokR
set_option linter.unusedVariables false
set_option linter.unusedSimpArgs false
namespace Go.Proofs.Ytkdmmmheciffgaa
open Go.RowKit

theorem wordM_step {b l : List UInt8} {j i : Nat} (h : j < l.length) : wordM b (l.drop j) i = if byt b i = byt l j then wordM b (l.drop (j + 1)) (i + 1) else (i, false) := by
  rw [List.drop_eq_getElem_cons h]
  have e : byt l j = ((l[j]).toNat : Int) := by unfold byt; simp [List.getD, h]
  rw [e]
  conv => lhs; unfold wordM
set_option maxRecDepth 100000 in
set_option maxHeartbeats 4000000 in
theorem word_any (g : Nat) (vb : Value) (b : List UInt8) (i : Nat) (keep : Bool) (n : Int) (vt : Value) (ts : List Tk) (B : Nat) (wd : List UInt8) (k : Int) (w : World) (hs : Scan w g vb i keep n vt) (ht : TextB w B vb b) (ho : OwnT w B vt ts) (hB : B ≤ g) (hn0 : 0 ≤ n) (hn1 : n ≤ 5000000) (hl : ts.length ≤ 5000000) (hi : i ≤ b.length) (hw : wd.length ≤ 10) :
    Calls Try.prog 48 #[.pointer (some ⟨g, 0, none⟩), .string ⟨wd.toArray⟩, .int .i64 k] w fun e w' => e = .returned (.bool (wordM b wd i).2) ∧ Behind w w' g B vb keep n ts (k, i, []) (wordM b wd i).1 (wordM b wd i).2 := by
  have hm := ht.le
  have c1 : w.cell? ⟨g, 1, none⟩ = some (.int .i64 i) := hs.c1
  have hne := ho.ne hs
  have hlt := Box.lt hs
  have HS := Lib.hid hs
  have HT := Lib.hid (ht.at hB)
  have HO := Lib.hid ho
  have HBG := Lib.hid (fun (wr : World) (hg : w.grownBy wr (some g)) => (below_grown hg (by omega) (fun k hk => by injection hk with hk; omega) : Below B w wr))
  have HOG := Lib.hid (fun (wr : World) (hg : w.grownBy wr (some g)) => ho.kept hg (.inr hne))
  have HWS := Lib.hid (fun j i (h : j < wd.length) => @wordM_step b wd j i h)
  clear hs ht ho
  go_enter Try.func48, Try.ntmps48
  go_wp2_with fail
  go_loopw [8, 15] (fun t8 tj wr => ∃ j : Nat, j ≤ wd.length ∧ i + j ≤ b.length + 10 ∧ tj = .int .i64 j ∧ Hid (wordM b wd i = wordM b (wd.drop j) (i + j)) ∧ Scan wr g vb (i + j) keep n vt ∧ w.grownBy wr (some g)) (fun _ tj _ => wd.length - (intOf tj).toNat)
  case atStart => exact ⟨0, Nat.zero_le _, by omega, rfl, Lib.hid rfl, HS.out, grown_refl _ _⟩
  case round =>
    obtain ⟨j, hj, hij, rfl, HE, hs, hg⟩ := hrel
    have HTr := Lib.hid (HT.out.grown hg)
    have HSr := Lib.hid hs
    have HG := Lib.hid hg
    have d0 : wr.cell? ⟨g, 0, none⟩ = some vb := by rw [Box.cell hs]; rfl
    have d1 : wr.cell? ⟨g, 1, none⟩ = some (.int .i64 ((i + j : Nat) : Int)) := hs.c1
    have fz : wr.frozen? ⟨g, 1, none⟩ = false := Box.frozen hs 1
    clear hs hg
    obtain ⟨q, hq⟩ : ∃ q, i + j = q := ⟨_, rfl⟩
    rw [hq] at HE HSr d1 hij
    have HQQ := Lib.hid hq
    clear hq
    have HQ := Lib.hid (here_q vb b wr HTr.out.is hm (q : Int) (by omega) (by omega))
    have t0 : ((q : Int)).toNat = q := by omega
    by_cases hlt2 : j < wd.length
    · have hltI : (j : Int) < (wd.length : Int) := by omega
      have HW := Lib.hid (HE.out.trans (HWS.out j q hlt2))
      by_cases hc : byt b q = byt wd j
      · have g1 : (byt b q != byt wd j) = false := by rw [hc]; simp
        have HF : Hid (wordM b wd i = wordM b (wd.drop (j + 1)) (i + (j + 1))) := Lib.hid (by rw [HW.out, if_pos hc, ← HQQ.out, Nat.add_assoc])
        have HS' := Lib.hid (fun k => HSr.out.to k (i + (j + 1)) ((q : Int) + 1) (by have := HQQ.out; omega))
        have hq2 : i + (j + 1) ≤ b.length + 10 := by omega
        clear hc
        go_wp2_with fail
        go_quiet ((go_at_call 35; exact Calls.quiet_of_same (HQ.out _)))
        go_wp2_with fail
        exact ⟨⟨j + 1, by omega, hq2, by go_num, HF, HS'.out _, grown_to HG.out _ _ _⟩, by simp [intOf]; omega⟩
      · have g1 : (byt b q != byt wd j) = true := by simpa using hc
        have HF : Hid (wordM b wd i = (q, false)) := Lib.hid (by rw [HW.out, if_neg hc])
        clear hc
        go_wp2_with fail
        go_quiet ((go_at_call 35; exact Calls.quiet_of_same (HQ.out _)))
        go_wp2_with fail
        go_ret
        refine ⟨ret_b (by rw [HF.out]), ?_⟩
        rw [HF.out]
        exact ⟨vt, Box.drew HSr.out _, HOG.out _ (grownBy_trans HG.out (grownBy_drew _ _ _)), HBG.out _ (grownBy_trans HG.out (grownBy_drew _ _ _))⟩
    · obtain rfl : j = wd.length := by omega
      have HF : Hid (wordM b wd i = (q, true)) := Lib.hid (by rw [HE.out, List.drop_length]; rfl)
      have HOr := Lib.hid (HOG.out _ HG.out)
      have HBr := Lib.hid (HBG.out _ HG.out)
      go_wp2_with fail
      refine (put_any g vb q keep n vt ts B k i [] wr HSr.out HOr.out hB hn0 hn1 hl).mono ?_
      rintro e x2 ⟨rfl, vt2, hs3, ho3, hb3⟩
      have HS3 := Lib.hid hs3
      have HO3 := Lib.hid ho3
      have HB3 := Lib.hid hb3
      clear hs3 ho3 hb3
      go_wp2_with fail
      go_ret
      refine ⟨ret_b (by rw [HF.out]), ?_⟩
      rw [HF.out]
      exact ⟨vt2, HS3.out, HO3.out, HBr.out.trans HB3.out⟩
end Go.Proofs.Ytkdmmmheciffgaa
