/- The contract of ref5's scan.number. -/
import Derived.Test.YtkdmmmheciffgaaScnB
set_option linter.unusedVariables false
set_option linter.unusedSimpArgs false
namespace Go.Proofs.Ytkdmmmheciffgaa
open Go.RowKit

set_option maxRecDepth 100000 in
set_option maxHeartbeats 8000000 in
theorem rnum_any (g : Nat) (vb : Value) (b : List UInt8) (i : Nat) (w : World) (hs : Scn w g vb i false) (ht : Text w g vb b) (hi : i ≤ b.length) :
    Calls Try.prog 27 #[.pointer (some ⟨g, 0, none⟩)] w fun e w' => e = .returned (.tuple #[]) ∧ Scn w' g vb (numR b i).1 (numR b i).2 ∧ w.grownBy w' (some g) := by
  have hm := ht.le
  have HT := Lib.hid ht
  have HS := Lib.hid hs
  have HG := Lib.hid (grown_refl w (some g))
  obtain ⟨h1a, h1b⟩ := step_bd b i false [45] hi
  have HN : Hid (numR b i = nr4 b (nr3 b (if isB b false (stepI (isB b false i [45]) i) [48] = true then (stepI (isB b false i [45]) i + 1, false) else dgS b (stepI (isB b false i [45]) i) false))) := Lib.hid rfl
  clear hs ht
  go_enter Try.func27, Try.ntmps27
  go_wp2_with fail
  refine (take_any g vb b i false [45] _ HS.out (HT.out.grown HG.out) (by decide) (by omega)).mono ?_
  rintro e y1 ⟨rfl, hs1, hg1⟩
  have HS1 := Lib.hid hs1
  have HG1 := Lib.hid (grownBy_trans HG.out hg1)
  clear hs1 hg1
  obtain ⟨p, hp⟩ : ∃ p, stepI (isB b false i [45]) i = p := ⟨_, rfl⟩
  rw [hp] at HN h1a h1b HS1
  clear hp
  have HLT1 : Hid (isB b false p [48] = true → p < b.length) := Lib.hid isB_lt
  go_wp2_with fail
  refine (take_any g vb b p false [48] _ HS1.out (HT.out.grown HG1.out) (by decide) (by omega)).mono ?_
  rintro e y2 ⟨rfl, hs2, hg2⟩
  have HS2 := Lib.hid hs2
  have HG2 := Lib.hid (grownBy_trans HG1.out hg2)
  clear hs2 hg2
  obtain ⟨t1, ht1⟩ : ∃ t, isB b false p [48] = t := ⟨_, rfl⟩
  rw [ht1] at HN HLT1 HS2
  rw [ht1]
  clear ht1
  cases t1 with
  | true =>
    have hp1 := HLT1.out rfl
    obtain ⟨m, hme⟩ : ∃ m, p + 1 = m := ⟨_, rfl⟩
    obtain ⟨bd2, hbe⟩ : ∃ x, false = x := ⟨_, rfl⟩
    have H2 : Hid (numR b i = nr4 b (nr3 b (m, bd2))) := Lib.hid (by rw [HN.out, ← hme, ← hbe]; rfl)
    have HS2b : Hid (Scn _ g vb m bd2) := Lib.hid (by rw [← hme, ← hbe]; exact HS2.out)
    have hmm : m ≤ b.length := by omega
    clear hme hbe
    have H3 : Hid (nr3 b (m, bd2) = if isB b bd2 m [46] = true then dgS b (m + 1) bd2 else (m, bd2)) := Lib.hid rfl
    have HLT3 : Hid (isB b bd2 m [46] = true → m < b.length) := Lib.hid isB_lt
    go_wp2_with fail
    refine (take_any g vb b m bd2 [46] _ HS2b.out (HT.out.grown HG2.out) (by decide) (by omega)).mono ?_
    rintro e y4 ⟨rfl, hs4, hg4⟩
    have HS4 := Lib.hid hs4
    have HG4 := Lib.hid (grownBy_trans HG2.out hg4)
    clear hs4 hg4
    obtain ⟨t2, ht2⟩ : ∃ t, isB b bd2 m [46] = t := ⟨_, rfl⟩
    rw [ht2] at H3 HLT3 HS4
    rw [ht2]
    clear ht2
    cases t2 with
    | false =>
      obtain ⟨r, hre⟩ : ∃ r, m = r := ⟨_, rfl⟩
      obtain ⟨bd3, hbe⟩ : ∃ x, bd2 = x := ⟨_, rfl⟩
      have H3' : Hid (numR b i = nr4 b (r, bd3)) := Lib.hid (by rw [H2.out, H3.out, hre, hbe]; rfl)
      have HS4b : Hid (Scn _ g vb r bd3) := Lib.hid (by rw [← hre, ← hbe]; exact HS4.out)
      have hr : r ≤ b.length := by omega
      clear hre hbe
      have H4 : Hid (nr4 b (r, bd3) = if isB b bd3 r [101, 69] = true then dgS b (stepI (isB b bd3 (r + 1) [43, 45]) (r + 1)) bd3 else (r, bd3)) := Lib.hid rfl
      have HLT : Hid (isB b bd3 r [101, 69] = true → r < b.length) := Lib.hid isB_lt
      go_wp2_with fail
      refine (take_any g vb b r bd3 [101, 69] _ HS4b.out (HT.out.grown HG4.out) (by decide) (by omega)).mono ?_
      rintro e y6 ⟨rfl, hs6, hg6⟩
      have HS6 := Lib.hid hs6
      have HG6 := Lib.hid (grownBy_trans HG4.out hg6)
      clear hs6 hg6
      obtain ⟨t3, ht3⟩ : ∃ t, isB b bd3 r [101, 69] = t := ⟨_, rfl⟩
      rw [ht3] at H4 HLT HS6
      rw [ht3]
      clear ht3
      cases t3 with
      | false =>
        have HF : Hid (numR b i = (r, bd3)) := Lib.hid (H3'.out.trans H4.out)
        go_wp2_with fail
        go_end0
        exact ⟨rfl, by rw [HF.out]; exact HS6.out, HG6.out⟩
      | true =>
        have hr1 := HLT.out rfl
        have HF0 : Hid (numR b i = dgS b (stepI (isB b bd3 (r + 1) [43, 45]) (r + 1)) bd3) := Lib.hid (H3'.out.trans H4.out)
        obtain ⟨h5a, h5b⟩ := step_bd b (r + 1) bd3 [43, 45] (by omega)
        have HS6b : Hid (Scn _ g vb (r + 1) bd3) := HS6
        go_wp2_with fail
        refine (take_any g vb b (r + 1) bd3 [43, 45] _ HS6b.out (HT.out.grown HG6.out) (by decide) (by omega)).mono ?_
        rintro e y7 ⟨rfl, hs7, hg7⟩
        have HS7 := Lib.hid hs7
        have HG7 := Lib.hid (grownBy_trans HG6.out hg7)
        clear hs7 hg7
        obtain ⟨q, hq⟩ : ∃ q, stepI (isB b bd3 (r + 1) [43, 45]) (r + 1) = q := ⟨_, rfl⟩
        rw [hq] at HF0 h5a h5b HS7
        clear hq
        go_wp2_with fail
        refine (digits_any g vb b q bd3 _ HS7.out (HT.out.grown HG7.out) (by omega)).mono ?_
        rintro e y8 ⟨rfl, hs8, hg8⟩
        have HS8 := Lib.hid hs8
        have HG8 := Lib.hid (grownBy_trans HG7.out hg8)
        clear hs8 hg8
        go_wp2_with fail
        go_end0
        exact ⟨rfl, by rw [HF0.out]; exact HS8.out, HG8.out⟩
    | true =>
      have hm1 := HLT3.out rfl
      have HS4b : Hid (Scn _ g vb (m + 1) bd2) := HS4
      obtain ⟨h3a, h3b⟩ := digits_bd b (m + 1) bd2 (by omega)
      go_wp2_with fail
      refine (digits_any g vb b (m + 1) bd2 _ HS4b.out (HT.out.grown HG4.out) (by omega)).mono ?_
      rintro e y5 ⟨rfl, hs5, hg5⟩
      have HS5 := Lib.hid hs5
      have HG5 := Lib.hid (grownBy_trans HG4.out hg5)
      clear hs5 hg5
      obtain ⟨R3, hR3⟩ : ∃ R, dgS b (m + 1) bd2 = R := ⟨_, rfl⟩
      have H3' : Hid (numR b i = nr4 b R3) := Lib.hid (by rw [H2.out, H3.out, ← hR3]; rfl)
      rw [hR3] at h3a h3b HS5
      clear hR3
      obtain ⟨r, bd3⟩ := R3
      have hr : r ≤ b.length := h3b
      have HS5c : Hid (Scn _ g vb r bd3) := HS5
      have H4 : Hid (nr4 b (r, bd3) = if isB b bd3 r [101, 69] = true then dgS b (stepI (isB b bd3 (r + 1) [43, 45]) (r + 1)) bd3 else (r, bd3)) := Lib.hid rfl
      have HLT : Hid (isB b bd3 r [101, 69] = true → r < b.length) := Lib.hid isB_lt
      go_wp2_with fail
      refine (take_any g vb b r bd3 [101, 69] _ HS5c.out (HT.out.grown HG5.out) (by decide) (by omega)).mono ?_
      rintro e y9 ⟨rfl, hs9, hg9⟩
      have HS9 := Lib.hid hs9
      have HG9 := Lib.hid (grownBy_trans HG5.out hg9)
      clear hs9 hg9
      obtain ⟨t3, ht3⟩ : ∃ t, isB b bd3 r [101, 69] = t := ⟨_, rfl⟩
      rw [ht3] at H4 HLT HS9
      rw [ht3]
      clear ht3
      cases t3 with
      | false =>
        have HF : Hid (numR b i = (r, bd3)) := Lib.hid (H3'.out.trans H4.out)
        go_wp2_with fail
        go_end0
        exact ⟨rfl, by rw [HF.out]; exact HS9.out, HG9.out⟩
      | true =>
        have hr1 := HLT.out rfl
        have HF0 : Hid (numR b i = dgS b (stepI (isB b bd3 (r + 1) [43, 45]) (r + 1)) bd3) := Lib.hid (H3'.out.trans H4.out)
        obtain ⟨h5a, h5b⟩ := step_bd b (r + 1) bd3 [43, 45] (by omega)
        have HS9b : Hid (Scn _ g vb (r + 1) bd3) := HS9
        go_wp2_with fail
        refine (take_any g vb b (r + 1) bd3 [43, 45] _ HS9b.out (HT.out.grown HG9.out) (by decide) (by omega)).mono ?_
        rintro e y10 ⟨rfl, hs10, hg10⟩
        have HS10 := Lib.hid hs10
        have HG10 := Lib.hid (grownBy_trans HG9.out hg10)
        clear hs10 hg10
        obtain ⟨q, hq⟩ : ∃ q, stepI (isB b bd3 (r + 1) [43, 45]) (r + 1) = q := ⟨_, rfl⟩
        rw [hq] at HF0 h5a h5b HS10
        clear hq
        go_wp2_with fail
        refine (digits_any g vb b q bd3 _ HS10.out (HT.out.grown HG10.out) (by omega)).mono ?_
        rintro e y11 ⟨rfl, hs11, hg11⟩
        have HS11 := Lib.hid hs11
        have HG11 := Lib.hid (grownBy_trans HG10.out hg11)
        clear hs11 hg11
        go_wp2_with fail
        go_end0
        exact ⟨rfl, by rw [HF0.out]; exact HS11.out, HG11.out⟩
  | false =>
    have HS2b : Hid (Scn _ g vb p false) := HS2
    obtain ⟨h2a, h2b⟩ := digits_bd b p false h1b
    go_wp2_with fail
    refine (digits_any g vb b p false _ HS2b.out (HT.out.grown HG2.out) (by omega)).mono ?_
    rintro e y3 ⟨rfl, hs3, hg3⟩
    have HS3 := Lib.hid hs3
    have HG3 := Lib.hid (grownBy_trans HG2.out hg3)
    clear hs3 hg3
    obtain ⟨R2, hR2⟩ : ∃ R, dgS b p false = R := ⟨_, rfl⟩
    have H2 : Hid (numR b i = nr4 b (nr3 b R2)) := Lib.hid (by rw [HN.out, ← hR2]; rfl)
    rw [hR2] at h2a h2b HS3
    clear hR2
    obtain ⟨m, bd2⟩ := R2
    have hmm : m ≤ b.length := h2b
    have HS3c : Hid (Scn _ g vb m bd2) := HS3
    have H3 : Hid (nr3 b (m, bd2) = if isB b bd2 m [46] = true then dgS b (m + 1) bd2 else (m, bd2)) := Lib.hid rfl
    have HLT3 : Hid (isB b bd2 m [46] = true → m < b.length) := Lib.hid isB_lt
    go_wp2_with fail
    refine (take_any g vb b m bd2 [46] _ HS3c.out (HT.out.grown HG3.out) (by decide) (by omega)).mono ?_
    rintro e y12 ⟨rfl, hs12, hg12⟩
    have HS12 := Lib.hid hs12
    have HG12 := Lib.hid (grownBy_trans HG3.out hg12)
    clear hs12 hg12
    obtain ⟨t2, ht2⟩ : ∃ t, isB b bd2 m [46] = t := ⟨_, rfl⟩
    rw [ht2] at H3 HLT3 HS12
    rw [ht2]
    clear ht2
    cases t2 with
    | false =>
      obtain ⟨r, hre⟩ : ∃ r, m = r := ⟨_, rfl⟩
      obtain ⟨bd3, hbe⟩ : ∃ x, bd2 = x := ⟨_, rfl⟩
      have H3' : Hid (numR b i = nr4 b (r, bd3)) := Lib.hid (by rw [H2.out, H3.out, hre, hbe]; rfl)
      have HS12b : Hid (Scn _ g vb r bd3) := Lib.hid (by rw [← hre, ← hbe]; exact HS12.out)
      have hr : r ≤ b.length := by omega
      clear hre hbe
      have H4 : Hid (nr4 b (r, bd3) = if isB b bd3 r [101, 69] = true then dgS b (stepI (isB b bd3 (r + 1) [43, 45]) (r + 1)) bd3 else (r, bd3)) := Lib.hid rfl
      have HLT : Hid (isB b bd3 r [101, 69] = true → r < b.length) := Lib.hid isB_lt
      go_wp2_with fail
      refine (take_any g vb b r bd3 [101, 69] _ HS12b.out (HT.out.grown HG12.out) (by decide) (by omega)).mono ?_
      rintro e y14 ⟨rfl, hs14, hg14⟩
      have HS14 := Lib.hid hs14
      have HG14 := Lib.hid (grownBy_trans HG12.out hg14)
      clear hs14 hg14
      obtain ⟨t3, ht3⟩ : ∃ t, isB b bd3 r [101, 69] = t := ⟨_, rfl⟩
      rw [ht3] at H4 HLT HS14
      rw [ht3]
      clear ht3
      cases t3 with
      | false =>
        have HF : Hid (numR b i = (r, bd3)) := Lib.hid (H3'.out.trans H4.out)
        go_wp2_with fail
        go_end0
        exact ⟨rfl, by rw [HF.out]; exact HS14.out, HG14.out⟩
      | true =>
        have hr1 := HLT.out rfl
        have HF0 : Hid (numR b i = dgS b (stepI (isB b bd3 (r + 1) [43, 45]) (r + 1)) bd3) := Lib.hid (H3'.out.trans H4.out)
        obtain ⟨h5a, h5b⟩ := step_bd b (r + 1) bd3 [43, 45] (by omega)
        have HS14b : Hid (Scn _ g vb (r + 1) bd3) := HS14
        go_wp2_with fail
        refine (take_any g vb b (r + 1) bd3 [43, 45] _ HS14b.out (HT.out.grown HG14.out) (by decide) (by omega)).mono ?_
        rintro e y15 ⟨rfl, hs15, hg15⟩
        have HS15 := Lib.hid hs15
        have HG15 := Lib.hid (grownBy_trans HG14.out hg15)
        clear hs15 hg15
        obtain ⟨q, hq⟩ : ∃ q, stepI (isB b bd3 (r + 1) [43, 45]) (r + 1) = q := ⟨_, rfl⟩
        rw [hq] at HF0 h5a h5b HS15
        clear hq
        go_wp2_with fail
        refine (digits_any g vb b q bd3 _ HS15.out (HT.out.grown HG15.out) (by omega)).mono ?_
        rintro e y16 ⟨rfl, hs16, hg16⟩
        have HS16 := Lib.hid hs16
        have HG16 := Lib.hid (grownBy_trans HG15.out hg16)
        clear hs16 hg16
        go_wp2_with fail
        go_end0
        exact ⟨rfl, by rw [HF0.out]; exact HS16.out, HG16.out⟩
    | true =>
      have hm1 := HLT3.out rfl
      have HS12b : Hid (Scn _ g vb (m + 1) bd2) := HS12
      obtain ⟨h3a, h3b⟩ := digits_bd b (m + 1) bd2 (by omega)
      go_wp2_with fail
      refine (digits_any g vb b (m + 1) bd2 _ HS12b.out (HT.out.grown HG12.out) (by omega)).mono ?_
      rintro e y13 ⟨rfl, hs13, hg13⟩
      have HS13 := Lib.hid hs13
      have HG13 := Lib.hid (grownBy_trans HG12.out hg13)
      clear hs13 hg13
      obtain ⟨R3, hR3⟩ : ∃ R, dgS b (m + 1) bd2 = R := ⟨_, rfl⟩
      have H3' : Hid (numR b i = nr4 b R3) := Lib.hid (by rw [H2.out, H3.out, ← hR3]; rfl)
      rw [hR3] at h3a h3b HS13
      clear hR3
      obtain ⟨r, bd3⟩ := R3
      have hr : r ≤ b.length := h3b
      have HS13c : Hid (Scn _ g vb r bd3) := HS13
      have H4 : Hid (nr4 b (r, bd3) = if isB b bd3 r [101, 69] = true then dgS b (stepI (isB b bd3 (r + 1) [43, 45]) (r + 1)) bd3 else (r, bd3)) := Lib.hid rfl
      have HLT : Hid (isB b bd3 r [101, 69] = true → r < b.length) := Lib.hid isB_lt
      go_wp2_with fail
      refine (take_any g vb b r bd3 [101, 69] _ HS13c.out (HT.out.grown HG13.out) (by decide) (by omega)).mono ?_
      rintro e y17 ⟨rfl, hs17, hg17⟩
      have HS17 := Lib.hid hs17
      have HG17 := Lib.hid (grownBy_trans HG13.out hg17)
      clear hs17 hg17
      obtain ⟨t3, ht3⟩ : ∃ t, isB b bd3 r [101, 69] = t := ⟨_, rfl⟩
      rw [ht3] at H4 HLT HS17
      rw [ht3]
      clear ht3
      cases t3 with
      | false =>
        have HF : Hid (numR b i = (r, bd3)) := Lib.hid (H3'.out.trans H4.out)
        go_wp2_with fail
        go_end0
        exact ⟨rfl, by rw [HF.out]; exact HS17.out, HG17.out⟩
      | true =>
        have hr1 := HLT.out rfl
        have HF0 : Hid (numR b i = dgS b (stepI (isB b bd3 (r + 1) [43, 45]) (r + 1)) bd3) := Lib.hid (H3'.out.trans H4.out)
        obtain ⟨h5a, h5b⟩ := step_bd b (r + 1) bd3 [43, 45] (by omega)
        have HS17b : Hid (Scn _ g vb (r + 1) bd3) := HS17
        go_wp2_with fail
        refine (take_any g vb b (r + 1) bd3 [43, 45] _ HS17b.out (HT.out.grown HG17.out) (by decide) (by omega)).mono ?_
        rintro e y18 ⟨rfl, hs18, hg18⟩
        have HS18 := Lib.hid hs18
        have HG18 := Lib.hid (grownBy_trans HG17.out hg18)
        clear hs18 hg18
        obtain ⟨q, hq⟩ : ∃ q, stepI (isB b bd3 (r + 1) [43, 45]) (r + 1) = q := ⟨_, rfl⟩
        rw [hq] at HF0 h5a h5b HS18
        clear hq
        go_wp2_with fail
        refine (digits_any g vb b q bd3 _ HS18.out (HT.out.grown HG18.out) (by omega)).mono ?_
        rintro e y19 ⟨rfl, hs19, hg19⟩
        have HS19 := Lib.hid hs19
        have HG19 := Lib.hid (grownBy_trans HG18.out hg19)
        clear hs19 hg19
        go_wp2_with fail
        go_end0
        exact ⟨rfl, by rw [HF0.out]; exact HS19.out, HG19.out⟩
end Go.Proofs.Ytkdmmmheciffgaa
