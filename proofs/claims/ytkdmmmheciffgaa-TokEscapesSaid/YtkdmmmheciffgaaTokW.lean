/- Contracts of jtok's all, fault, Tokens. -/
import Derived.Test.YtkdmmmheciffgaaTokV
import Derived.Test.YtkdmmmheciffgaaUtfA
set_option linter.unusedVariables false
set_option linter.unusedSimpArgs false
namespace Go.Proofs.Ytkdmmmheciffgaa
open Go.RowKit

/-- What is kept of tokens. -/
def kT (keep : Bool) (l : List Tk) : List Tk := if keep = true then l else []
theorem kT_len (keep : Bool) (l : List Tk) : (kT keep l).length ≤ l.length := by cases keep <;> simp [kT]
theorem kT_add (keep : Bool) (l : List Tk) (t : Tk) : addT true keep (kT keep l) t = kT keep (l ++ [t]) := by cases keep <;> rfl
theorem allF_fuel (b : List UInt8) : ∀ (n m i : Nat) (acc : List Tk), i ≤ b.length → b.length < n + i → b.length < m + i → allF b n i acc = allF b m i acc := by
  intro n
  induction n with
  | zero => intro m i acc h h1; omega
  | succ n ih =>
    intro m i acc h h1 h2
    cases m with
    | zero => omega
    | succ m =>
      unfold allF
      by_cases c1 : b.length ≤ i
      · rw [if_pos c1, if_pos c1]
      rw [if_neg c1, if_neg c1]
      by_cases c2 : (tokM b i).2.2 = true
      · rw [if_pos c2, if_pos c2]
        obtain ⟨q1, q2⟩ := tokM_bd (b := b) (i := i) (by omega)
        have := q2 c2
        have := skipE_bd b (tokM b i).2.1 q1
        exact ih m _ _ (by omega) (by omega) (by omega)
      · rw [if_neg c2, if_neg c2]
theorem allM_end {b : List UInt8} {i : Nat} {acc : List Tk} (h : i = b.length) : allM b i acc = (acc, i, true) := by
  unfold allM
  rw [show b.length + 1 - i = 0 + 1 by omega]
  unfold allF
  rw [if_pos (by omega)]
theorem allM_step {b : List UInt8} {i : Nat} {acc : List Tk} (h : i < b.length) : allM b i acc = if (tokM b i).2.2 = true then allM b (skipE b (tokM b i).2.1) (acc ++ [(tokM b i).1]) else (acc, (tokM b i).2.1, false) := by
  unfold allM
  rw [show b.length + 1 - i = (b.length - i) + 1 by omega]
  conv => lhs; unfold allF
  rw [if_neg (by omega)]
  by_cases c2 : (tokM b i).2.2 = true
  · rw [if_pos c2, if_pos c2]
    obtain ⟨q1, q2⟩ := tokM_bd (b := b) (i := i) h
    have := q2 c2
    have := skipE_bd b (tokM b i).2.1 q1
    exact allF_fuel b _ _ _ _ (by omega) (by omega) (by omega)
  · rw [if_neg c2, if_neg c2]
set_option maxRecDepth 100000 in
set_option maxHeartbeats 4000000 in
theorem all_any (g : Nat) (vb : Value) (b : List UInt8) (keep : Bool) (vt : Value) (B : Nat) (w : World) (hs : Scan w g vb 0 keep 0 vt) (ht : TextB w B vb b) (ho : OwnT w B vt []) (hB : B ≤ g) :
    Calls Try.prog 28 #[.pointer (some ⟨g, 0, none⟩)] w fun e w' => e = .returned (.bool (allM b (skipE b 0) []).2.2) ∧ ∃ vt', Scan w' g vb (allM b (skipE b 0) []).2.1 keep ((allM b (skipE b 0) []).1.length : Nat) vt' ∧ OwnT w' B vt' (kT keep (allM b (skipE b 0) []).1) ∧ Below B w w' := by
  have hm := ht.le
  have hlt := Box.lt hs
  have hne := ho.ne hs
  have HT := Lib.hid ht
  have HSK := Lib.hid (skip_any g vb b 0 keep 0 vt w hs (ht.at hB) (by omega))
  have HO := Lib.hid ho
  have HBG := Lib.hid (fun (wr : World) (hg : w.grownBy wr (some g)) => (below_grown hg (by omega) (fun k hk => by injection hk with hk; omega) : Below B w wr))
  obtain ⟨R, hR⟩ : ∃ R, allM b (skipE b 0) [] = R := ⟨_, rfl⟩
  have HR := Lib.hid hR
  rw [hR]
  have hsb := skipE_bd b 0 (by omega)
  clear hs ht ho hR
  go_enter Try.func28, Try.ntmps28
  go_wp2_with fail
  refine HSK.out.mono ?_
  rintro e x0 ⟨rfl, hs0, hg0⟩
  have HS0 := Lib.hid hs0
  have HG0 := Lib.hid hg0
  clear hs0 hg0
  go_wp2_with fail
  go_loopw [] (fun wr => ∃ (i : Nat) (acc : List Tk) (vt' : Value), i ≤ b.length ∧ acc.length ≤ i ∧ Hid (R = allM b i acc) ∧ Scan wr g vb i keep (acc.length : Nat) vt' ∧ OwnT wr B vt' (kT keep acc) ∧ Below B w wr) (fun wr => leftOf g (b.length + 1) wr)
  case atStart => exact ⟨skipE b 0, [], vt, hsb.2, by simp, Lib.hid HR.out.symm, HS0.out, by cases keep <;> exact HO.out.kept HG0.out (.inr hne), HBG.out _ HG0.out⟩
  case round =>
    obtain ⟨i, acc, vt', hi, hal, HE, hs, hot, hbw⟩ := hrel
    have HSr := Lib.hid hs
    have HOr := Lib.hid hot
    have HBr := Lib.hid hbw
    have HTr := Lib.hid (HT.out.below hbw)
    have d0 : wr.cell? ⟨g, 0, none⟩ = some vb := by rw [Box.cell hs]; rfl
    have d1 : wr.cell? ⟨g, 1, none⟩ = some (.int .i64 i) := hs.c1
    clear hs hot hbw
    obtain ⟨a, cap, e, h1, h2, -, h4⟩ := HTr.out.is
    subst e
    clear h4
    by_cases hlt2 : i < b.length
    · have hltI : (i : Int) < (b.length : Int) := by omega
      have HTK := Lib.hid (fun k => token_any g _ b i keep (acc.length : Nat) vt' (kT keep acc) B (wr.drewN k) (Box.drew HSr.out k) ⟨HTr.out.is, HTr.out.lt, HTr.out.le⟩ HOr.out hB (by omega) (by omega) (by have := kT_len keep acc; omega) hlt2)
      obtain ⟨q1, q2⟩ := tokM_bd (b := b) (i := i) hlt2
      have HST := Lib.hid (HE.out.trans (allM_step hlt2))
      obtain ⟨T, hT⟩ : ∃ T, tokM b i = T := ⟨_, rfl⟩
      rw [hT] at HTK HST q1 q2
      clear hT
      obtain ⟨t, p, ok⟩ := T
      have q1 : p ≤ b.length := q1
      have q2 : ok = true → i < p := q2
      have HX2 : Hid (∀ k, Calls Try.prog 40 #[.pointer (some ⟨g, 0, none⟩)] (wr.drewN k) fun e w' => e = .returned (.bool ok) ∧ Behind (wr.drewN k) w' g B (.slice a b.length cap) keep (acc.length : Nat) (kT keep acc) t p ok) := Lib.hid HTK.out
      have HST2 : Hid (R = if ok = true then allM b (skipE b p) (acc ++ [t]) else (acc, p, false)) := Lib.hid HST.out
      clear HTK HST
      go_wp2_with fail
      go_quiet (fail)
      go_wp2_with fail
      refine (HX2.out _).mono ?_
      rintro e x1 ⟨rfl, v1, hs1, ho1, hb1⟩
      have HB1 := Lib.hid ((below_drewN HBr.out _).trans hb1)
      have HS1 := Lib.hid hs1
      have HO1 := Lib.hid ho1
      clear hs1 ho1 hb1
      cases ok with
      | false =>
        have HF : Hid (R = (acc, p, false)) := Lib.hid HST2.out
        go_wp2_with fail
        go_ret
        refine ⟨ret_b (by rw [HF.out]), v1, ?_, ?_, HB1.out⟩
        · rw [HF.out]; exact HS1.out
        · rw [HF.out]; exact HO1.out
      | true =>
        have HF : Hid (R = allM b (skipE b p) (acc ++ [t])) := Lib.hid HST2.out
        have q3 := q2 rfl
        have hsp := skipE_bd b p q1
        have HT1 := Lib.hid (HT.out.below HB1.out)
        have hlt1 := Box.lt HS1.out
        go_wp2_with fail
        refine (skip_any g _ b p keep (addN true (acc.length : Nat)) v1 x1 HS1.out (HT1.out.at hB) q1).mono ?_
        rintro e x2 ⟨rfl, hs2, hg2⟩
        have HS2 := Lib.hid hs2
        have HO2 := Lib.hid (HO1.out.kept hg2 (.inr (HO1.out.ne HS1.out)))
        have HB2 := Lib.hid (HB1.out.grown hg2 (by omega) (fun k hk => by injection hk with hk; omega))
        clear hs2 hg2
        go_wp2_with fail
        have HS3 : Hid (Scan x2 g (.slice a b.length cap) (skipE b p) keep ((acc ++ [t]).length : Nat) v1) := Lib.hid (by
          have h := HS2.out
          have e1 : addN true (acc.length : Nat) = (((acc ++ [t]).length : Nat) : Int) := by simp [addN]
          rw [e1] at h
          exact h)
        exact ⟨⟨skipE b p, acc ++ [t], v1, hsp.2, by simp; omega, HF, HS3.out, by rw [← kT_add]; exact HO2.out, HB2.out⟩, by rw [leftOf_eq HS3.out, leftOf_eq HSr.out]; omega⟩
    · obtain rfl : i = b.length := by omega
      have HF : Hid (R = (acc, b.length, true)) := Lib.hid (by rw [HE.out, allM_end rfl])
      go_wp2_with fail
      go_quiet (fail)
      go_wp2_with fail
      go_ret
      refine ⟨ret_b (by rw [HF.out]), vt', ?_, ?_, below_drewN HBr.out _⟩
      · rw [HF.out]; exact Box.drew HSr.out _
      · rw [HF.out]; exact HOr.out
end Go.Proofs.Ytkdmmmheciffgaa
