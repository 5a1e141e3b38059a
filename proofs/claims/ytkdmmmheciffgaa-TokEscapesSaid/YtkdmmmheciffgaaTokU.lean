/- Contracts of jtok's token. -/
import Derived.Test.YtkdmmmheciffgaaTokT
import Derived.Deep.RegionWith
set_option linter.unusedVariables false
set_option linter.unusedSimpArgs false
namespace Go.Proofs.Ytkdmmmheciffgaa
open Go.RowKit

/-- What a byte begins. -/
def sigB (c : Int) : Bool := decide (c = 123 ∨ c = 125 ∨ c = 91 ∨ c = 93 ∨ c = 58 ∨ c = 44)
/-- A token that begins there, where it ends, whether it is one. -/
def tokM (b : List UInt8) (i : Nat) : Tk × Nat × Bool :=
  if sigB (byt b i) = true then ((signN (byt b i), i, []), i + 1, true)
  else if byt b i = 116 then ((9, i, []), (wordM b [116, 114, 117, 101] i).1, (wordM b [116, 114, 117, 101] i).2)
  else if byt b i = 102 then ((10, i, []), (wordM b [102, 97, 108, 115, 101] i).1, (wordM b [102, 97, 108, 115, 101] i).2)
  else if byt b i = 110 then ((11, i, []), (wordM b [110, 117, 108, 108] i).1, (wordM b [110, 117, 108, 108] i).2)
  else if byt b i = 34 then ((7, i, (strM b (i + 1) []).1), (strM b (i + 1) []).2.1, (strM b (i + 1) []).2.2)
  else if byt b i = 45 ∨ digC (byt b i) = true then ((8, i, sub8 b i (numM b i).1), (numM b i).1, (numM b i).2)
  else ((0, i, []), i, false)
set_option maxRecDepth 100000 in
set_option maxHeartbeats 16000000 in
theorem token_any (g : Nat) (vb : Value) (b : List UInt8) (i : Nat) (keep : Bool) (n : Int) (vt : Value) (ts : List Tk) (B : Nat) (w : World) (hs : Scan w g vb i keep n vt) (ht : TextB w B vb b) (ho : OwnT w B vt ts) (hB : B ≤ g) (hn0 : 0 ≤ n) (hn1 : n ≤ 5000000) (hl : ts.length ≤ 5000000) (hi : i < b.length) :
    Calls Try.prog 40 #[.pointer (some ⟨g, 0, none⟩)] w fun e w' => e = .returned (.bool (tokM b i).2.2) ∧ Behind w w' g B vb keep n ts (tokM b i).1 (tokM b i).2.1 (tokM b i).2.2 := by
  have hm := ht.le
  have d0 : w.cell? ⟨g, 0, none⟩ = some vb := by rw [Box.cell hs]; rfl
  have d1 : w.cell? ⟨g, 1, none⟩ = some (.int .i64 i) := hs.c1
  have hgw := Box.lt hs
  have HS := Lib.hid hs
  have HO := Lib.hid ho
  have HT := Lib.hid ht
  have HW := Lib.hid (fun k wd kd (hw : wd.length ≤ 10) => word_any g vb b i keep n vt ts B wd kd (w.drewN k) (Box.drew hs k) ⟨ht.is, ht.lt, ht.le⟩ ho hB hn0 hn1 hl (by omega) hw)
  have HTX := Lib.hid (fun k => text_any g vb b i keep n vt ts B (w.drewN k) (Box.drew hs k) ⟨ht.is, ht.lt, ht.le⟩ ho hB hn0 hn1 hl hi)
  have HNM := Lib.hid (fun k => nmeth_any g vb b i keep n vt ts B (w.drewN k) (Box.drew hs k) ⟨ht.is, ht.lt, ht.le⟩ ho hB hn0 hn1 hl (by omega))
  have HBE : Hid (∀ (k : Nat) (w' : World) t p ok, Behind (w.drewN k) w' g B vb keep n ts t p ok → Behind w w' g B vb keep n ts t p ok) := Lib.hid (fun k w' t p ok ⟨v, a1, a2, a3⟩ => ⟨v, a1, a2, (below_drewN (Below.refl B w) k).trans a3⟩)
  have HTM : Hid (tokM b i = if sigB (byt b i) = true then ((signN (byt b i), i, []), i + 1, true)
    else if byt b i = 116 then ((9, i, []), (wordM b [116, 114, 117, 101] i).1, (wordM b [116, 114, 117, 101] i).2)
    else if byt b i = 102 then ((10, i, []), (wordM b [102, 97, 108, 115, 101] i).1, (wordM b [102, 97, 108, 115, 101] i).2)
    else if byt b i = 110 then ((11, i, []), (wordM b [110, 117, 108, 108] i).1, (wordM b [110, 117, 108, 108] i).2)
    else if byt b i = 34 then ((7, i, (strM b (i + 1) []).1), (strM b (i + 1) []).2.1, (strM b (i + 1) []).2.2)
    else if byt b i = 45 ∨ digC (byt b i) = true then ((8, i, sub8 b i (numM b i).1), (numM b i).1, (numM b i).2)
    else ((0, i, []), i, false)) := Lib.hid rfl
  clear hs ho ht
  obtain ⟨a, cap, e, h1, h2, -, h4⟩ := HT.out.is
  subst e
  unfold maxLen at h2
  obtain ⟨bb, off, rfl, hc⟩ := h4 (by omega)
  have hcell : w.cell? ⟨bb, off + i, none⟩ = some (.int .u8 (byt b i)) := hc.at i hi
  have hiI : (i : Int) < (b.length : Int) := by omega
  clear hc h4
  obtain ⟨c, hcc⟩ : ∃ c, byt b i = c := ⟨_, rfl⟩
  rw [hcc] at hcell HTM
  clear hcc
  by_cases k0 : c = 123 ∨ c = 125 ∨ c = 91 ∨ c = 93 ∨ c = 58 ∨ c = 44
  · have HF : Hid (tokM b i = ((signN c, i, []), i + 1, true)) := Lib.hid (by rw [HTM.out, if_pos (show sigB c = true from decide_eq_true k0)])
    have HSG := Lib.hid (fun W => sign_any c W k0)
    have HPUT := Lib.hid (fun W (q1 : Scan W g (.slice (some ⟨bb, off, none⟩) b.length cap) i keep n vt) (q2 : OwnT W B vt ts) => put_any g _ i keep n vt ts B (signN c) i [] W q1 q2 hB hn0 hn1 hl)
    clear HTM HW HTX HNM
    rcases k0 with rfl | rfl | rfl | rfl | rfl | rfl
    all_goals
      go_enter Try.func40, Try.ntmps40
      go_wp2_with fail
      go_quiet (fail)
      go_wp2_with fail
      go_region_with (first
        | (go_at_call 47; refine (HSG.out _).mono ?_; rintro e w' ⟨rfl, rfl⟩)
        | (go_at_call 46; refine (HPUT.out _ (by exact HS.out) (by exact HO.out)).mono ?_; rintro e x2 ⟨rfl, vt2, hs3, ho3, hb3⟩; have HS3 := Lib.hid hs3; have HO3 := Lib.hid ho3; have HB3 := Lib.hid hb3; have e1 := Scan.c1 hs3; have e2 := Box.frozen hs3 1; clear hs3 ho3 hb3))
      all_goals
        go_wp2_with fail
        go_ret
        refine ⟨ret_b (by rw [HF.out]), ?_⟩
        rw [HF.out]
        refine ⟨vt2, HS3.out.to0 (i + 1) _ (by omega), ?_, ?_⟩
        · have h := HO3.out.kept (grownBy_set x2 g 1 (.int .i64 ((i : Int) + 1))) (.inr (HO3.out.ne HS3.out))
          cases keep with
          | true => exact h
          | false => exact h
        · exact ((below_drewN (below_drewN (Below.refl B w) _) 1).trans HB3.out).setCell hB _
  have k0' : sigB c = false := decide_eq_false k0
  by_cases k1 : c = 116
  · subst k1
    have HF : Hid (tokM b i = ((9, i, []), (wordM b [116, 114, 117, 101] i).1, (wordM b [116, 114, 117, 101] i).2)) := Lib.hid (by rw [HTM.out, if_neg (by rw [k0']; simp), if_pos rfl])
    clear HTM k0 k0'
    go_enter Try.func40, Try.ntmps40
    go_wp2_with fail
    go_quiet (fail)
    go_wp2_with fail
    refine (HW.out _ _ _ (by decide)).mono ?_
    rintro e w' ⟨rfl, hbe⟩
    have HB := Lib.hid (HBE.out _ _ _ _ _ hbe)
    clear hbe
    go_wp2_with fail
    go_ret
    exact ⟨ret_b (by rw [HF.out]), by rw [HF.out]; exact HB.out⟩
  by_cases k2 : c = 102
  · subst k2
    have HF : Hid (tokM b i = ((10, i, []), (wordM b [102, 97, 108, 115, 101] i).1, (wordM b [102, 97, 108, 115, 101] i).2)) := Lib.hid (by rw [HTM.out, if_neg (by rw [k0']; simp), if_neg k1, if_pos rfl])
    clear HTM k0 k0' k1
    go_enter Try.func40, Try.ntmps40
    go_wp2_with fail
    go_quiet (fail)
    go_wp2_with fail
    refine (HW.out _ _ _ (by decide)).mono ?_
    rintro e w' ⟨rfl, hbe⟩
    have HB := Lib.hid (HBE.out _ _ _ _ _ hbe)
    clear hbe
    go_wp2_with fail
    go_ret
    exact ⟨ret_b (by rw [HF.out]), by rw [HF.out]; exact HB.out⟩
  by_cases k3 : c = 110
  · subst k3
    have HF : Hid (tokM b i = ((11, i, []), (wordM b [110, 117, 108, 108] i).1, (wordM b [110, 117, 108, 108] i).2)) := Lib.hid (by rw [HTM.out, if_neg (by rw [k0']; simp), if_neg k1, if_neg k2, if_pos rfl])
    clear HTM k0 k0' k1 k2
    go_enter Try.func40, Try.ntmps40
    go_wp2_with fail
    go_quiet (fail)
    go_wp2_with fail
    refine (HW.out _ _ _ (by decide)).mono ?_
    rintro e w' ⟨rfl, hbe⟩
    have HB := Lib.hid (HBE.out _ _ _ _ _ hbe)
    clear hbe
    go_wp2_with fail
    go_ret
    exact ⟨ret_b (by rw [HF.out]), by rw [HF.out]; exact HB.out⟩
  by_cases k4 : c = 34
  · subst k4
    have HF : Hid (tokM b i = ((7, i, (strM b (i + 1) []).1), (strM b (i + 1) []).2.1, (strM b (i + 1) []).2.2)) := Lib.hid (by rw [HTM.out, if_neg (by rw [k0']; simp), if_neg k1, if_neg k2, if_neg k3, if_pos rfl])
    clear HTM k0 k0' k1 k2 k3
    go_enter Try.func40, Try.ntmps40
    go_wp2_with fail
    go_quiet (fail)
    go_wp2_with fail
    refine (HTX.out _).mono ?_
    rintro e w' ⟨rfl, hbe⟩
    have HB := Lib.hid (HBE.out _ _ _ _ _ hbe)
    clear hbe
    go_wp2_with fail
    go_ret
    exact ⟨ret_b (by rw [HF.out]), by rw [HF.out]; exact HB.out⟩
  have k0n : c ≠ 123 ∧ c ≠ 125 ∧ c ≠ 91 ∧ c ≠ 93 ∧ c ≠ 58 ∧ c ≠ 44 := by omega
  obtain ⟨n1, n2, n3, n4, n5, n6⟩ := k0n
  have g01 : (c == 123) = false := by simpa using n1
  have g02 : (c == 125) = false := by simpa using n2
  have g03 : (c == 91) = false := by simpa using n3
  have g04 : (c == 93) = false := by simpa using n4
  have g05 : (c == 58) = false := by simpa using n5
  have g06 : (c == 44) = false := by simpa using n6
  have g07 : (c == 116) = false := by simpa using k1
  have g08 : (c == 102) = false := by simpa using k2
  have g09 : (c == 110) = false := by simpa using k3
  have g10 : (c == 34) = false := by simpa using k4
  clear n1 n2 n3 n4 n5 n6
  by_cases k5 : c = 45
  · have HF : Hid (tokM b i = ((8, i, sub8 b i (numM b i).1), (numM b i).1, (numM b i).2)) := Lib.hid (by rw [HTM.out, if_neg (by rw [k0']; simp), if_neg k1, if_neg k2, if_neg k3, if_neg k4, if_pos (.inl k5)])
    have g11 : (c == 45) = true := by simpa using k5
    clear HTM k0 k0' k1 k2 k3 k4 k5
    go_enter Try.func40, Try.ntmps40
    go_wp2_with fail
    go_quiet (fail)
    go_wp2_with fail
    refine (HNM.out _).mono ?_
    rintro e w' ⟨rfl, hbe⟩
    have HB := Lib.hid (HBE.out _ _ _ _ _ hbe)
    clear hbe
    go_wp2_with fail
    go_ret
    exact ⟨ret_b (by rw [HF.out]), by rw [HF.out]; exact HB.out⟩
  have g11 : (c == 45) = false := by simpa using k5
  have HDG := Lib.hid (digit_any c)
  cases hd : digC c with
  | true =>
    have HF : Hid (tokM b i = ((8, i, sub8 b i (numM b i).1), (numM b i).1, (numM b i).2)) := Lib.hid (by rw [HTM.out, if_neg (by rw [k0']; simp), if_neg k1, if_neg k2, if_neg k3, if_neg k4, if_pos (.inr hd)])
    rw [hd] at HDG
    clear HTM k0 k0' k1 k2 k3 k4 k5 hd
    go_enter Try.func40, Try.ntmps40
    go_wp2_with fail
    go_quiet (fail)
    go_wp2_with fail
    refine (HDG.out _).mono ?_
    rintro e w' ⟨rfl, rfl⟩
    go_wp2_with fail
    refine (HNM.out _).mono ?_
    rintro e w' ⟨rfl, hbe⟩
    have HB := Lib.hid (HBE.out _ _ _ _ _ hbe)
    clear hbe
    go_wp2_with fail
    go_ret
    exact ⟨ret_b (by rw [HF.out]), by rw [HF.out]; exact HB.out⟩
  | false =>
    have HF : Hid (tokM b i = ((0, i, []), i, false)) := Lib.hid (by rw [HTM.out, if_neg (by rw [k0']; simp), if_neg k1, if_neg k2, if_neg k3, if_neg k4, if_neg (by rintro (h | h); exact k5 h; rw [hd] at h; cases h)])
    rw [hd] at HDG
    clear HTM k0 k0' k1 k2 k3 k4 k5 hd
    go_enter Try.func40, Try.ntmps40
    go_wp2_with fail
    go_quiet (fail)
    go_wp2_with fail
    refine (HDG.out _).mono ?_
    rintro e w' ⟨rfl, rfl⟩
    go_wp2_with fail
    go_ret
    refine ⟨ret_b (by rw [HF.out]), ?_⟩
    rw [HF.out]
    exact ⟨vt, Box.drew HS.out _, HO.out, below_drewN (Below.refl B w) _⟩
end Go.Proofs.Ytkdmmmheciffgaa
