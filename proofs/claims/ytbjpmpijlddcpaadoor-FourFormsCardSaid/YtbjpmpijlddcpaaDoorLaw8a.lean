/- The walks of FourTells, FourBack. -/
import Derived.Test.YtbjpmpijlddcpaaDoorIpP
set_option linter.unusedVariables false
set_option linter.unusedSimpArgs false
namespace Go.Proofs.YtbjpmpijlddcpaaDoor
open Go.RowKit

theorem str_is (s : ByteArray) : s = ⟨s.data.toList.toArray⟩ := by
  apply ByteArray.ext; simp
theorem str_len {s : ByteArray} (h : s.size ≤ maxLen) : s.data.toList.length ≤ 9223372036854775807 := by unfold maxLen at h; rw [Array.length_toList]; exact h
set_option maxHeartbeats 2000000 in
theorem FourTells_walk (s0 : ByteArray) (w : World) (w0 : s0.size ≤ maxLen) (htab : Tab w) :
    Calls Tryd.prog 3 #[.string s0] w fun e w' => e = .returned (.bool true) ∧ Below w.heap.size w w' := by
  rw [str_is s0]
  have hm9 := str_len w0
  obtain ⟨l, hl⟩ : ∃ l, s0.data.toList = l := ⟨_, rfl⟩
  rw [hl] at hm9 ⊢
  have HT := Lib.hid htab
  clear w0 hl htab
  by_cases hlen : 80 < l.length
  · have hlenI : (80 : Int) < (l.length : Int) := by omega
    go_enter Tryd.func3, Tryd.ntmps3
    go_wp2_with fail
    refine (awake8_any _ HT.out).mono ?_
    rintro e w1 ⟨rfl, hb⟩
    go_wp2
    go_ret
    exact ⟨rfl, hb⟩
  · have hlenI : (l.length : Int) ≤ 80 := by omega
    have C1 := Lib.hid (Parse_any l · (by omega))
    have C2 := Lib.hid (rParse_any l · (by omega))
    have C3 := Lib.hid (Ends2_any l · (by omega))
    have C4 := Lib.hid (rEnds_any l · (by omega))
    obtain ⟨p, hp⟩ : ∃ p, parseL (splitB 46 (trimL l)) 4 0 = p := ⟨_, rfl⟩
    rw [hp] at C1 C2
    obtain ⟨p1, p2⟩ := p
    obtain ⟨b, hb⟩ : ∃ b, endsB (lastP l) = b := ⟨_, rfl⟩
    rw [hb] at C3 C4
    clear hp hb
    go_enter Tryd.func3, Tryd.ntmps3
    go_wp2_with fail
    refine (C1.out _).mono ?_
    rintro e w1 ⟨rfl, hb1⟩
    have HB1 := Lib.hid hb1
    clear hb1
    go_wp2_with fail
    refine (C2.out _).mono ?_
    rintro e w2 ⟨rfl, hb2⟩
    have HB2 := Lib.hid hb2
    clear hb2
    go_wp2_with fail
    refine (C3.out _).mono ?_
    rintro e w' ⟨rfl, rfl⟩
    go_wp2_with fail
    refine (C4.out _).mono ?_
    rintro e w4 ⟨rfl, hb4⟩
    have HB4 := Lib.hid hb4
    clear hb4
    go_wp2_with fail
    refine (awake8_any _ (((HT.out.below HB1.out).below HB2.out).below HB4.out)).mono ?_
    rintro e w5 ⟨rfl, hb5⟩
    go_wp2
    go_ret
    exact ⟨rfl, ext_trans HB1.out (ext_trans HB2.out (ext_trans HB4.out hb5))⟩
/-- What Show tells is read as it was. -/
theorem show_join (n : Nat) : showL n = joinD ([digB 10 (q0 n), digB 10 (q1 n), digB 10 (q2 n)] ++ [digB 10 (q3 n)]) := by
  unfold showL
  rw [digB_dec, digB_dec, digB_dec, digB_dec]
  show _ = digB 10 (q0 n) ++ 46 :: (digB 10 (q1 n) ++ 46 :: (digB 10 (q2 n) ++ 46 :: digB 10 (q3 n)))
  simp
theorem show_parts (n : Nat) (hn : n < 4294967296) : splitB 46 (trimL (showL n)) = [digB 10 (q0 n), digB 10 (q1 n), digB 10 (q2 n), digB 10 (q3 n)] := by
  have a0 := numT_dec (q0 n) (by unfold q0; omega)
  have a1 := numT_dec (q1 n) (by unfold q1; omega)
  have a2 := numT_dec (q2 n) (by unfold q2; omega)
  have a3 := numT_dec (q3 n) (by unfold q3; omega)
  have := parts_of [digB 10 (q0 n), digB 10 (q1 n), digB 10 (q2 n)] (digB 10 (q3 n)) false (by
    intro r hr
    simp at hr
    rcases hr with rfl | rfl | rfl | rfl
    · exact a0.d
    · exact a1.d
    · exact a2.d
    · exact a3.d) a3.l
  rw [← show_join] at this
  simpa using this
theorem show_reads (n : Nat) (hn : n < 4294967296) : parseL (splitB 46 (trimL (showL n))) 4 0 = ((n : Int), true) ∧ endsB (lastP (showL n)) = true := by
  have a0 := numT_dec (q0 n) (by unfold q0; omega)
  have a1 := numT_dec (q1 n) (by unfold q1; omega)
  have a2 := numT_dec (q2 n) (by unfold q2; omega)
  have a3 := numT_dec (q3 n) (by unfold q3; omega)
  have hs := show_parts n hn
  constructor
  · rw [hs, parse_on a0.o (by simp), if_neg (by rw [a0.v]; unfold q0; omega), parse_on a1.o (by simp), if_neg (by rw [a1.v]; unfold q1; omega), parse_on a2.o (by simp), if_neg (by rw [a2.v]; unfold q2; omega),
      parse_end a3.o, if_neg (by rw [a3.v]; unfold q3; simp; omega), a0.v, a1.v, a2.v, a3.v]
    congr 1
    unfold q0 q1 q2 q3
    simp; omega
  · unfold lastP
    rw [hs]
    exact a3.e
theorem wfu32 {x : Int} (h : (Lit.int .u32 x).wf = true) : 0 ≤ x ∧ x ≤ 4294967295 := by
  simp [Lit.wf, IntKind.min, IntKind.max, IntKind.signed, IntKind.bits] at h; omega
set_option maxHeartbeats 2000000 in
theorem FourBack_walk (a0 : Int) (w : World) (w0 : (Lit.int .u32 a0).wf = true) (htab : Tab w) :
    Calls Tryd.prog 4 #[.int .u32 a0] w fun e w' => e = .returned (.bool true) ∧ Below w.heap.size w w' := by
  obtain ⟨h0, h1⟩ := wfu32 w0
  obtain ⟨n, rfl⟩ := Int.eq_ofNat_of_zero_le h0
  have hn : n < 4294967296 := by omega
  have HT := Lib.hid htab
  have hl : (showL n).length ≤ 1000 := showK_len n 4 hn
  obtain ⟨r1, r2⟩ := show_reads n hn
  have C1 := Lib.hid (Show_any n · hn)
  have C2 := Lib.hid (Parse_any (showL n) · (by omega))
  have C3 := Lib.hid (rShow_any n · hn)
  have C4 := Lib.hid (Ends2_any (showL n) · (by omega))
  rw [r1] at C2
  rw [r2] at C4
  obtain ⟨s, hs⟩ : ∃ s, showL n = s := ⟨_, rfl⟩
  rw [hs] at C1 C2 C3 C4
  clear htab w0 h0 h1 hn hl r1 r2 hs
  go_enter Tryd.func4, Tryd.ntmps4
  go_wp2_with fail
  refine (C1.out _ HT.out).mono ?_
  rintro e w1 ⟨rfl, hb1⟩
  have HB1 := Lib.hid hb1
  clear hb1
  go_wp2_with fail
  refine (C2.out _).mono ?_
  rintro e w2 ⟨rfl, hb2⟩
  have HB2 := Lib.hid hb2
  clear hb2
  go_wp2_with fail
  refine (C3.out _).mono ?_
  rintro e w3 ⟨rfl, hb3⟩
  have HB3 := Lib.hid hb3
  clear hb3
  go_wp2_with fail
  refine (C4.out _).mono ?_
  rintro e w' ⟨rfl, rfl⟩
  go_wp2_with fail
  refine (awake8_any _ (((HT.out.below HB1.out).below HB2.out).below HB3.out)).mono ?_
  rintro e w5 ⟨rfl, hb5⟩
  go_wp2
  go_ret
  exact ⟨rfl, ext_trans HB1.out (ext_trans HB2.out (ext_trans HB3.out hb5))⟩
end Go.Proofs.YtbjpmpijlddcpaaDoor
