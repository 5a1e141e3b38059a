/- Contracts of ref5's scan: digits, number. -/
import Derived.Test.YtkdmmmheciffgaaScnA
set_option linter.unusedVariables false
set_option linter.unusedSimpArgs false
namespace Go.Proofs.Ytkdmmmheciffgaa
open Go.RowKit

def digL : List UInt8 := [48, 49, 50, 51, 52, 53, 54, 55, 56, 57]
theorem memB_dig (c : Int) : memB c digL = digC c := by
  unfold memB digC digL
  rw [Bool.eq_iff_iff]
  simp
  omega
theorem isB_dig {b : List UInt8} {i : Nat} : isB b false i digL = digC (byt b i) := by
  unfold isB
  rw [memB_dig]
  cases h : digC (byt b i) with
  | true => have := digC_lt h; simp [this]
  | false => simp
theorem isB_bad (b : List UInt8) (i : Nat) (l : List UInt8) : isB b true i l = false := rfl
def dgS (b : List UInt8) (i : Nat) (bad : Bool) : Nat × Bool := if isB b bad i digL = true then (digE b (i + 1), bad) else (i, true)
theorem Text.to {w w' : World} {g : Nat} {vb : Value} {b : List UInt8} (h : Text w g vb b) (hg : w.grownBy w' (some g)) : Text w' g vb b := h.grown hg
set_option maxRecDepth 100000 in
set_option maxHeartbeats 4000000 in
theorem digits_any (g : Nat) (vb : Value) (b : List UInt8) (i : Nat) (bad : Bool) (w : World) (hs : Scn w g vb i bad) (ht : Text w g vb b) (hi : i ≤ b.length) :
    Calls Try.prog 38 #[.pointer (some ⟨g, 0, none⟩)] w fun e w' => e = .returned (.tuple #[]) ∧ Scn w' g vb (dgS b i bad).1 (dgS b i bad).2 ∧ w.grownBy w' (some g) := by
  have hm := ht.le
  have HT := Lib.hid ht
  have HS := Lib.hid hs
  have HTK := Lib.hid (take_any g vb b i bad digL w hs ht (by decide) (by omega))
  have HD : Hid (dgS b i bad = if isB b bad i digL = true then (digE b (i + 1), bad) else (i, true)) := Lib.hid rfl
  clear hs ht
  cases htb : isB b bad i digL with
  | false =>
    have HF : Hid (dgS b i bad = (i, true)) := Lib.hid (by rw [HD.out, htb]; rfl)
    rw [htb] at HTK
    clear htb HD
    go_enter Try.func38, Try.ntmps38
    go_wp2_with fail
    refine HTK.out.mono ?_
    rintro e x1 ⟨rfl, hs1, hg1⟩
    have HS1 := Lib.hid hs1
    have HG1 := Lib.hid hg1
    have e2 : x1.cell? ⟨g, 2, none⟩ = some (.bool bad) := Scn.c2 hs1
    have f2 : x1.frozen? ⟨g, 2, none⟩ = false := Box.frozen hs1 2
    clear hs1 hg1
    go_wp2_with fail
    go_loopw [] (fun wr => Scn wr g vb i true ∧ w.grownBy wr (some g)) (fun wr => 0)
    case atStart => exact ⟨Scn.bad HS1.out 0, grown_to HG1.out 0 2 _⟩
    case round =>
      obtain ⟨hsr, hgr⟩ := hrel
      have HSR := Lib.hid hsr
      have HGR := Lib.hid hgr
      have HTK2 := Lib.hid (take_any g vb b i true digL wr hsr (HT.out.grown hgr) (by decide) (by omega))
      rw [isB_bad] at HTK2
      clear hsr hgr
      go_wp2_with fail
      refine HTK2.out.mono ?_
      rintro e x2 ⟨rfl, hs2, hg2⟩
      have HS2 := Lib.hid hs2
      have HG2 := Lib.hid (grownBy_trans HGR.out hg2)
      clear hs2 hg2
      go_wp2_with fail
      go_end0
      exact ⟨rfl, by rw [HF.out]; exact HS2.out, HG2.out⟩
  | true =>
    have hlt := isB_lt htb
    have hbad : bad = false := by cases bad with
      | false => rfl
      | true => cases htb
    subst hbad
    have HF : Hid (dgS b i false = (digE b (i + 1), false)) := Lib.hid (by rw [HD.out, htb]; rfl)
    rw [htb] at HTK
    clear htb HD
    go_enter Try.func38, Try.ntmps38
    go_wp2_with fail
    refine HTK.out.mono ?_
    rintro e x1 ⟨rfl, hs1, hg1⟩
    have HS1 := Lib.hid hs1
    have HG1 := Lib.hid hg1
    clear hs1 hg1
    go_wp2_with fail
    go_loopw [] (fun wr => ∃ j, j ≤ b.length ∧ Hid (digE b (i + 1) = digE b j) ∧ Scn wr g vb j false ∧ w.grownBy wr (some g)) (fun wr => leftOf g (b.length + 1) wr)
    case atStart => exact ⟨i + 1, by omega, Lib.hid rfl, HS1.out, HG1.out⟩
    case round =>
      obtain ⟨j, hj, HE, hsr, hgr⟩ := hrel
      have HSR := Lib.hid hsr
      have HGR := Lib.hid hgr
      have HTK2 := Lib.hid (take_any g vb b j false digL wr hsr (HT.out.grown hgr) (by decide) (by omega))
      rw [isB_dig] at HTK2
      have HLJ : Hid (leftOf g (b.length + 1) wr = b.length + 1 - j) := Lib.hid (by unfold leftOf; rw [Scn.c1 hsr]; simp)
      clear hsr hgr
      cases hd : digC (byt b j) with
      | true =>
        have hl := digC_lt hd
        have H2 := Lib.hid (HE.out.trans (digE_on hd))
        rw [hd] at HTK2
        clear hd
        go_wp2_with fail
        refine HTK2.out.mono ?_
        rintro e x2 ⟨rfl, hs2, hg2⟩
        have HS2 := Lib.hid hs2
        have HG2 := Lib.hid (grownBy_trans HGR.out hg2)
        clear hs2 hg2
        go_wp2_with fail
        exact ⟨⟨j + 1, by omega, H2, HS2.out, HG2.out⟩, by rw [HLJ.out, show leftOf g (b.length + 1) x2 = b.length + 1 - (j + 1) by unfold leftOf; rw [Scn.c1 HS2.out]; simp [stepI]]; omega⟩
      | false =>
        have H2 := Lib.hid (HE.out.trans (digE_off hd))
        rw [hd] at HTK2
        clear hd
        go_wp2_with fail
        refine HTK2.out.mono ?_
        rintro e x2 ⟨rfl, hs2, hg2⟩
        have HS2 := Lib.hid hs2
        have HG2 := Lib.hid (grownBy_trans HGR.out hg2)
        clear hs2 hg2
        go_wp2_with fail
        go_end0
        exact ⟨rfl, by rw [HF.out, H2.out]; exact HS2.out, HG2.out⟩
theorem digits_bd (b : List UInt8) (i : Nat) (bad : Bool) (h : i ≤ b.length) : i ≤ (dgS b i bad).1 ∧ (dgS b i bad).1 ≤ b.length := by
  unfold dgS
  split
  · rename_i h1
    have := isB_lt h1
    have := digE_bd b (i + 1) (by omega)
    show i ≤ digE b (i + 1) ∧ _; omega
  · exact ⟨Nat.le_refl _, h⟩
theorem step_bd (b : List UInt8) (i : Nat) (bad : Bool) (l : List UInt8) (h : i ≤ b.length) : i ≤ stepI (isB b bad i l) i ∧ stepI (isB b bad i l) i ≤ b.length := by
  unfold stepI
  split
  · rename_i h1
    have := isB_lt h1; omega
  · exact ⟨Nat.le_refl _, h⟩
/-- ref5's number, step by step. -/
def nr1 (b : List UInt8) (i : Nat) : Nat := stepI (isB b false i [45]) i
def nr2 (b : List UInt8) (i : Nat) : Nat × Bool := if isB b false (nr1 b i) [48] = true then (nr1 b i + 1, false) else dgS b (nr1 b i) false
def nr3 (b : List UInt8) (s : Nat × Bool) : Nat × Bool := if isB b s.2 s.1 [46] = true then dgS b (s.1 + 1) s.2 else s
def nr4 (b : List UInt8) (s : Nat × Bool) : Nat × Bool := if isB b s.2 s.1 [101, 69] = true then dgS b (stepI (isB b s.2 (s.1 + 1) [43, 45]) (s.1 + 1)) s.2 else s
def numR (b : List UInt8) (i : Nat) : Nat × Bool := nr4 b (nr3 b (nr2 b i))
theorem isB_one {b : List UInt8} {i : Nat} {c : UInt8} (hc : (c.toNat : Int) ≠ 0) : isB b false i [c] = (byt b i == (c.toNat : Int)) := by
  unfold isB memB
  rw [Bool.eq_iff_iff]
  simp
  constructor
  · rintro ⟨_, h⟩; exact h.symm
  · intro h; exact ⟨byt_lt h hc, h.symm⟩
theorem isB_two {b : List UInt8} {i : Nat} {c d : UInt8} (hc : (c.toNat : Int) ≠ 0) (hd : (d.toNat : Int) ≠ 0) : isB b false i [c, d] = ((byt b i == (c.toNat : Int)) || (byt b i == (d.toNat : Int))) := by
  unfold isB memB
  rw [Bool.eq_iff_iff]
  simp
  constructor
  · rintro ⟨_, h | h⟩
    · exact .inl h.symm
    · exact .inr h.symm
  · rintro (h | h)
    · exact ⟨byt_lt h hc, .inl h.symm⟩
    · exact ⟨byt_lt h hd, .inr h.symm⟩
theorem nr4_eq (b : List UInt8) (i : Nat) : nr4 b (i, false) = ((expM b i).1, !(expM b i).2) := by
  show (if isB b false i [101, 69] = true then dgS b (stepI (isB b false (i + 1) [43, 45]) (i + 1)) false else (i, false)) = _
  rw [isB_two (by decide) (by decide), isB_two (by decide) (by decide)]
  unfold expM
  by_cases h1 : byt b i = 101 ∨ byt b i = 69
  · rw [if_pos h1, if_pos (by simpa using h1)]
    have hs : stepI ((byt b (i + 1) == ((43 : UInt8).toNat : Int)) || (byt b (i + 1) == ((45 : UInt8).toNat : Int))) (i + 1) = (if byt b (i + 1) = 43 ∨ byt b (i + 1) = 45 then i + 2 else i + 1) := by
      unfold stepI
      by_cases h2 : byt b (i + 1) = 43 ∨ byt b (i + 1) = 45
      · rw [if_pos h2, if_pos (by simpa using h2)]
      · rw [if_neg h2, if_neg (by simpa using h2)]
    rw [hs]
    generalize (if byt b (i + 1) = 43 ∨ byt b (i + 1) = 45 then i + 2 else i + 1) = j
    unfold dgS
    rw [isB_dig]
    by_cases h3 : digC (byt b j) = true
    · rw [if_pos h3, if_pos h3, digE_on h3]; rfl
    · rw [if_neg h3, if_neg h3]; rfl
  · rw [if_neg h1, if_neg (by simpa using h1)]; rfl
theorem nr4_bad (b : List UInt8) (i : Nat) : nr4 b (i, true) = (i, true) := rfl
theorem nr3_eq (b : List UInt8) (i : Nat) : nr4 b (nr3 b (i, false)) = ((fracM b i).1, !(fracM b i).2) := by
  show nr4 b (if isB b false i [46] = true then dgS b (i + 1) false else (i, false)) = _
  rw [isB_one (by decide)]
  unfold fracM
  by_cases h1 : byt b i = 46
  · rw [if_pos h1, if_pos (by simpa using h1)]
    unfold dgS
    rw [isB_dig]
    by_cases h3 : digC (byt b (i + 1)) = true
    · rw [if_pos h3, if_pos h3, digE_on h3, nr4_eq]
    · rw [if_neg h3, if_neg h3, nr4_bad]; rfl
  · rw [if_neg h1, if_neg (by simpa using h1), nr4_eq]
theorem numR_eq (b : List UInt8) (i : Nat) : numR b i = ((numM b i).1, !(numM b i).2) := by
  unfold numR numM
  have h1 : nr1 b i = (if byt b i = 45 then i + 1 else i) := by
    unfold nr1 stepI
    rw [isB_one (by decide)]
    by_cases h : byt b i = 45
    · rw [if_pos h, if_pos (by simpa using h)]
    · rw [if_neg h, if_neg (by simpa using h)]
  unfold nr2
  rw [h1]
  generalize (if byt b i = 45 then i + 1 else i) = p
  unfold intM
  rw [isB_one (by decide)]
  by_cases h2 : byt b p = 48
  · rw [if_pos h2, if_pos (by simpa using h2), nr3_eq]
  · rw [if_neg h2, if_neg (by simpa using h2)]
    unfold dgS
    rw [isB_dig]
    by_cases h3 : digC (byt b p) = true
    · rw [if_pos h3, if_pos h3, ← digE_on h3, nr3_eq]
    · rw [if_neg h3, if_neg h3]; rfl
end Go.Proofs.Ytkdmmmheciffgaa
