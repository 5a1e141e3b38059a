/- FourMore; FourForms. -/
import Derived.Test.YtbjpmpijlddcpaaDoorLaw8b
set_option linter.unusedVariables false
set_option linter.unusedSimpArgs false
namespace Go.Proofs.YtbjpmpijlddcpaaDoor
open Go.RowKit

/-- A text with a dot behind it, so many times. -/
def repD (d : List UInt8) : Nat → List UInt8
  | 0 => []
  | j + 1 => d ++ 46 :: repD d j
theorem repD_snoc (d : List UInt8) : ∀ j, repD d j ++ (d ++ [46]) = repD d (j + 1) := by
  intro j
  induction j with
  | zero => simp [repD]
  | succ j ih => show (d ++ 46 :: repD d j) ++ (d ++ [46]) = d ++ 46 :: repD d (j + 1); rw [← ih]; simp
theorem repD_join (d x : List UInt8) : ∀ j, joinD (List.replicate j d ++ [x]) = repD d j ++ x := by
  intro j
  induction j with
  | zero => rfl
  | succ j ih => rw [List.replicate_succ, List.cons_append, joinD_cons d (by simp), ih]; simp [repD]
theorem repD_len (d : List UInt8) : ∀ j, (repD d j).length = j * (d.length + 1) := by
  intro j
  induction j with
  | zero => simp [repD]
  | succ j ih => simp [repD, ih]; rw [Nat.succ_mul]; omega
theorem parse_rep {d x : List UInt8} {a : Int} (hd : NumT d a) (ha : a ≤ 255) (hx : numO x = true) : ∀ (j left : Nat) (sum : Int), j < left →
    (2 ^ (8 * (left - j)) ≤ numV x → parseL (List.replicate j d ++ [x]) left sum = (0, false)) ∧ (numV x < 2 ^ (8 * (left - j)) → ∃ v, parseL (List.replicate j d ++ [x]) left sum = (v, true)) := by
  intro j
  induction j with
  | zero =>
    intro left sum _
    refine ⟨fun h => ?_, fun h => ⟨sum * 2 ^ (8 * left) + numV x, ?_⟩⟩
    · show parseL [x] left sum = _
      rw [parse_end hx]; exact if_pos h
    · show parseL [x] left sum = _
      rw [parse_end hx]; exact if_neg (fun h2 => by have h3 : numV x < 2 ^ (8 * left) := h; omega)
  | succ j ih =>
    intro left sum hj
    have e : parseL (List.replicate (j + 1) d ++ [x]) left sum = parseL (List.replicate j d ++ [x]) (left - 1) (sum * 256 + numV d) := by
      rw [List.replicate_succ, List.cons_append, parse_on hd.o (by simp), if_neg (by rw [hd.v]; omega)]
    rw [e]
    have := ih (left - 1) (sum * 256 + numV d) (by omega)
    rwa [show left - 1 - j = left - (j + 1) by omega] at this
theorem more_parts {d x : List UInt8} {a : Int} {b : Int} (hd : NumT d a) (hx : NumT x b) (j : Nat) : splitB 46 (trimL (repD d j ++ x)) = List.replicate j d ++ [x] := by
  have := parts_of (List.replicate j d) x false (by
    intro r hr
    rcases List.mem_append.1 hr with h | h
    · rw [List.eq_of_mem_replicate h]; exact hd.d
    · simp at h; subst h; exact hx.d) hx.l
  rw [repD_join] at this
  simpa using this
theorem more_no (a : Nat) (ha : a ≤ 255) (j : Nat) (hj : j < 4) (x : Nat) (hx : x < 1000000000000) (h : (2 : Int) ^ (8 * (4 - j)) ≤ x) : parseL (splitB 46 (trimL (repD (digB 10 a) j ++ digB 10 x))) 4 0 = (0, false) := by
  have hd := numT_dec a (by omega)
  have hn := numT_dec x hx
  rw [more_parts hd hn j]
  refine (parse_rep hd (by omega) hn.o j 4 0 hj).1 ?_
  rw [hn.v]
  have : (2 : Int) ^ (8 * (4 - j)) ≤ 4294967296 := by rcases (by omega : j = 0 ∨ j = 1 ∨ j = 2 ∨ j = 3) with rfl | rfl | rfl | rfl <;> simp
  omega
theorem more_yes (a : Nat) (ha : a ≤ 255) (j : Nat) (hj : j < 4) (x : Nat) (hx : x < 1000000000000) (h : (x : Int) < 2 ^ (8 * (4 - j))) : ∃ v, parseL (splitB 46 (trimL (repD (digB 10 a) j ++ digB 10 x))) 4 0 = (v, true) := by
  have hd := numT_dec a (by omega)
  have hn := numT_dec x hx
  rw [more_parts hd hn j]
  refine (parse_rep hd (by omega) hn.o j 4 0 hj).2 ?_
  rw [hn.v]
  omega
theorem big_no (x : Nat) (hx : x < 1000000000000) (h : 256 ≤ x) : parseL (splitB 46 (trimL (digB 10 x ++ [46, 49]))) 4 0 = (0, false) := by
  have hn := numT_dec x hx
  have h1 : NumT [49] (min ((1 : Nat) : Int) 4294967296) := by have := numT_dec 1 (by omega); rwa [digB_small (by decide)] at this
  have hs : splitB 46 (trimL (joinD ([digB 10 x] ++ [[49]]))) = [digB 10 x] ++ [[49]] := by
    have := parts_of [digB 10 x] [49] false (by
      intro r hr
      simp at hr
      rcases hr with rfl | rfl
      · exact hn.d
      · exact h1.d) h1.l
    simpa using this
  have e : digB 10 x ++ [46, 49] = joinD ([digB 10 x] ++ [[49]]) := rfl
  rw [e, hs]
  show parseL [digB 10 x, [49]] 4 0 = _
  rw [parse_on hn.o (by simp), if_pos]
  right; rw [hn.v]; omega
theorem five_no : parseL (splitB 46 (trimL [49, 46, 50, 46, 51, 46, 52, 46, 53])) 4 0 = (0, false) := by decide +kernel
theorem gap_no : parseL (splitB 46 (trimL [49, 46, 46, 50])) 4 0 = (0, false) := by decide +kernel
theorem wfu16 {x : Int} (h : (Lit.int .u16 x).wf = true) : 0 ≤ x ∧ x ≤ 65535 := by
  simp [Lit.wf, IntKind.min, IntKind.max, IntKind.signed, IntKind.bits] at h; omega
set_option maxRecDepth 100000 in
set_option maxHeartbeats 4000000 in
theorem more_walk1 (a0 : Int) (y a : Nat) (w : World) (h0 : -9223372036854775808 ≤ a0) (h1 : a0 ≤ 9223372036854775807) (hlow : lowN a0 4 = 0) (hy : y ≤ 65535) (ha : a ≤ 255) (htab : Tab w) :
    Calls Tryd.prog 6 #[.int .i64 a0, .int .u16 y, .int .u8 a] w fun e w' => e = .returned (.bool true) ∧ Below w.heap.size w w' := by
  have HT := Lib.hid htab
  have C0 := Lib.hid (low_any a0 4 · h0 h1 (by decide) (by decide))
  rw [hlow] at C0
  have DA := Lib.hid (digits10_any (a + 1) a · (by omega) (by omega))
  have D1 := Lib.hid (lDigits_any (4294967296 + y + 1) (4294967296 + y) · (by omega) (by omega))
  have D2 := Lib.hid (lDigits_any 4294967296 4294967295 · (by omega) (by omega))
  have D3 := Lib.hid (lDigits_any (256 + y + 1) (256 + y) · (by omega) (by omega))
  rw [digB_dec] at D1 D2 D3
  have e1 : ((4294967296 + y : Nat) : Int) = 4294967296 + (y : Int) := by omega
  have e2 : ((4294967295 : Nat) : Int) = 4294967295 := by omega
  have e3 : ((256 + y : Nat) : Int) = 256 + (y : Int) := by omega
  rw [e1] at D1
  rw [e2] at D2
  rw [e3] at D3
  have lA := digB_100 (b := 10) (by unfold isBase; omega) a (by omega)
  have l1 := digB_100 (b := 10) (by unfold isBase; omega) (4294967296 + y) (by omega)
  have l2 := digB_100 (b := 10) (by unfold isBase; omega) 4294967295 (by omega)
  have l3 := digB_100 (b := 10) (by unfold isBase; omega) (256 + y) (by omega)
  have lR : (repD (digB 10 a) 0).length ≤ 153 := by rw [repD_len]; simp
  have LR := Lib.hid (fun j (h : j ≤ 3) => show (repD (digB 10 a) j).length ≤ 153 by rw [repD_len]; have : j * ((digB 10 a).length + 1) ≤ 3 * 51 := Nat.mul_le_mul h (by omega); omega)
  have P1 := Lib.hid (Parse_any (repD (digB 10 a) 0 ++ digB 10 (4294967296 + y)) · (by simp; omega))
  have P2 := Lib.hid (Parse_any (repD (digB 10 a) 0 ++ digB 10 4294967295) · (by simp; omega))
  have P3 := Lib.hid (Parse_any [49, 46, 50, 46, 51, 46, 52, 46, 53] · (by decide))
  have P4 := Lib.hid (Parse_any [49, 46, 46, 50] · (by decide))
  have P5 := Lib.hid (Parse_any (digB 10 (256 + y) ++ [46, 49]) · (by simp; omega))
  rw [more_no a ha 0 (by decide) (4294967296 + y) (by omega) (by simp; omega)] at P1
  obtain ⟨v, hv⟩ := more_yes a ha 0 (by decide) 4294967295 (by omega) (by simp)
  rw [hv] at P2
  rw [five_no] at P3
  rw [gap_no] at P4
  rw [big_no (256 + y) (by omega) (by omega)] at P5
  have RS := Lib.hid (repD_snoc (digB 10 a))
  obtain ⟨dA, hdA⟩ : ∃ d, digB 10 a = d := ⟨_, rfl⟩
  obtain ⟨d1, hd1⟩ : ∃ d, digB 10 (4294967296 + y) = d := ⟨_, rfl⟩
  obtain ⟨d2, hd2⟩ : ∃ d, digB 10 4294967295 = d := ⟨_, rfl⟩
  obtain ⟨d3, hd3⟩ : ∃ d, digB 10 (256 + y) = d := ⟨_, rfl⟩
  rw [hdA] at DA lA lR P1 P2 RS LR
  rw [hd1] at D1 l1 P1
  rw [hd2] at D2 l2 P2
  rw [hd3] at D3 l3 P5
  have y0 : (0 : Int) ≤ (y : Int) := by omega
  have y1 : (y : Int) ≤ 65535 := by omega
  have a00 : (0 : Int) ≤ (a : Int) := by omega
  have a01 : (a : Int) ≤ 255 := by omega
  clear htab hlow h0 h1 e1 e2 e3 hv hdA hd1 hd2 hd3 hy ha
  go_enter Tryd.func6, Tryd.ntmps6
  go_wp2_with fail
  refine (C0.out _).mono ?_
  rintro e w' ⟨rfl, rfl⟩
  go_wp2_with fail
  go_loopw [8, 9] (fun ts ti wr => ∃ (j : Nat), j ≤ 0 ∧ ti = .int .i64 ((j : Int) + 1) ∧ ts = .string ⟨(repD dA j).toArray⟩ ∧ ∃ m, wr = w.drewN m) (fun _ ti _ => 1 - (intOf ti).toNat)
  case atStart => exact ⟨0, by decide, rfl, rfl, 0, rfl⟩
  case round =>
    obtain ⟨j, hj, rfl, rfl, m, rfl⟩ := hrel
    by_cases hlt : j < 0
    · exact absurd hlt (by omega)
    · obtain rfl : j = 0 := by omega
      have c1 : (repD dA 0).length + d1.length ≤ 9223372036854775807 := by omega
      have c2 : (repD dA 0).length + d2.length ≤ 9223372036854775807 := by omega
      have c3 : d3.length + 2 ≤ 9223372036854775807 := by omega
      obtain ⟨s, hs⟩ : ∃ s, repD dA 0 = s := ⟨_, rfl⟩
      rw [hs] at c1 c2 P1 P2
      rw [hs]
      clear hs hj hlt
      go_wp2_with fail
      refine (D1.out _).mono ?_
      rintro e w1 ⟨rfl, hb1⟩
      have HB1 := Lib.hid hb1
      clear hb1
      go_wp2_with fail
      refine (P1.out _).mono ?_
      rintro e w2 ⟨rfl, hb2⟩
      have HB2 := Lib.hid hb2
      clear hb2
      go_wp2_with fail
      refine (D2.out _).mono ?_
      rintro e w3 ⟨rfl, hb3⟩
      have HB3 := Lib.hid hb3
      clear hb3
      go_wp2_with fail
      refine (P2.out _).mono ?_
      rintro e w4 ⟨rfl, hb4⟩
      have HB4 := Lib.hid hb4
      clear hb4
      go_wp2_with fail
      refine (P3.out _).mono ?_
      rintro e w5 ⟨rfl, hb5⟩
      have HB5 := Lib.hid hb5
      clear hb5
      go_wp2_with fail
      refine (P4.out _).mono ?_
      rintro e w6 ⟨rfl, hb6⟩
      have HB6 := Lib.hid hb6
      clear hb6
      go_wp2_with fail
      refine (D3.out _).mono ?_
      rintro e w7 ⟨rfl, hb7⟩
      have HB7 := Lib.hid hb7
      clear hb7
      go_wp2_with fail
      refine (P5.out _).mono ?_
      rintro e w8 ⟨rfl, hb8⟩
      have HB8 := Lib.hid hb8
      clear hb8
      have HB : Hid (Below w.heap.size w w8) := Lib.hid (ext_trans (ext_drew w m) (ext_trans HB1.out (ext_trans HB2.out (ext_trans HB3.out (ext_trans HB4.out (ext_trans HB5.out (ext_trans HB6.out (ext_trans HB7.out HB8.out))))))))
      go_wp2_with fail
      refine (awake8_any _ (HT.out.below HB.out)).mono ?_
      rintro e w9 ⟨rfl, hb9⟩
      go_wp2
      go_ret
      exact ⟨rfl, ext_trans HB.out hb9⟩
set_option maxRecDepth 100000 in
set_option maxHeartbeats 4000000 in
theorem more_walk2 (a0 : Int) (y a : Nat) (w : World) (h0 : -9223372036854775808 ≤ a0) (h1 : a0 ≤ 9223372036854775807) (hlow : lowN a0 4 = 1) (hy : y ≤ 65535) (ha : a ≤ 255) (htab : Tab w) :
    Calls Tryd.prog 6 #[.int .i64 a0, .int .u16 y, .int .u8 a] w fun e w' => e = .returned (.bool true) ∧ Below w.heap.size w w' := by
  have HT := Lib.hid htab
  have C0 := Lib.hid (low_any a0 4 · h0 h1 (by decide) (by decide))
  rw [hlow] at C0
  have DA := Lib.hid (digits10_any (a + 1) a · (by omega) (by omega))
  have D1 := Lib.hid (lDigits_any (16777216 + y + 1) (16777216 + y) · (by omega) (by omega))
  have D2 := Lib.hid (lDigits_any 16777216 16777215 · (by omega) (by omega))
  have D3 := Lib.hid (lDigits_any (256 + y + 1) (256 + y) · (by omega) (by omega))
  rw [digB_dec] at D1 D2 D3
  have e1 : ((16777216 + y : Nat) : Int) = 16777216 + (y : Int) := by omega
  have e2 : ((16777215 : Nat) : Int) = 16777215 := by omega
  have e3 : ((256 + y : Nat) : Int) = 256 + (y : Int) := by omega
  rw [e1] at D1
  rw [e2] at D2
  rw [e3] at D3
  have lA := digB_100 (b := 10) (by unfold isBase; omega) a (by omega)
  have l1 := digB_100 (b := 10) (by unfold isBase; omega) (16777216 + y) (by omega)
  have l2 := digB_100 (b := 10) (by unfold isBase; omega) 16777215 (by omega)
  have l3 := digB_100 (b := 10) (by unfold isBase; omega) (256 + y) (by omega)
  have lR : (repD (digB 10 a) 1).length ≤ 153 := by rw [repD_len]; omega
  have LR := Lib.hid (fun j (h : j ≤ 3) => show (repD (digB 10 a) j).length ≤ 153 by rw [repD_len]; have : j * ((digB 10 a).length + 1) ≤ 3 * 51 := Nat.mul_le_mul h (by omega); omega)
  have P1 := Lib.hid (Parse_any (repD (digB 10 a) 1 ++ digB 10 (16777216 + y)) · (by simp; omega))
  have P2 := Lib.hid (Parse_any (repD (digB 10 a) 1 ++ digB 10 16777215) · (by simp; omega))
  have P3 := Lib.hid (Parse_any [49, 46, 50, 46, 51, 46, 52, 46, 53] · (by decide))
  have P4 := Lib.hid (Parse_any [49, 46, 46, 50] · (by decide))
  have P5 := Lib.hid (Parse_any (digB 10 (256 + y) ++ [46, 49]) · (by simp; omega))
  rw [more_no a ha 1 (by decide) (16777216 + y) (by omega) (by simp; omega)] at P1
  obtain ⟨v, hv⟩ := more_yes a ha 1 (by decide) 16777215 (by omega) (by simp)
  rw [hv] at P2
  rw [five_no] at P3
  rw [gap_no] at P4
  rw [big_no (256 + y) (by omega) (by omega)] at P5
  have RS := Lib.hid (repD_snoc (digB 10 a))
  obtain ⟨dA, hdA⟩ : ∃ d, digB 10 a = d := ⟨_, rfl⟩
  obtain ⟨d1, hd1⟩ : ∃ d, digB 10 (16777216 + y) = d := ⟨_, rfl⟩
  obtain ⟨d2, hd2⟩ : ∃ d, digB 10 16777215 = d := ⟨_, rfl⟩
  obtain ⟨d3, hd3⟩ : ∃ d, digB 10 (256 + y) = d := ⟨_, rfl⟩
  rw [hdA] at DA lA lR P1 P2 RS LR
  rw [hd1] at D1 l1 P1
  rw [hd2] at D2 l2 P2
  rw [hd3] at D3 l3 P5
  have y0 : (0 : Int) ≤ (y : Int) := by omega
  have y1 : (y : Int) ≤ 65535 := by omega
  have a00 : (0 : Int) ≤ (a : Int) := by omega
  have a01 : (a : Int) ≤ 255 := by omega
  clear htab hlow h0 h1 e1 e2 e3 hv hdA hd1 hd2 hd3 hy ha
  go_enter Tryd.func6, Tryd.ntmps6
  go_wp2_with fail
  refine (C0.out _).mono ?_
  rintro e w' ⟨rfl, rfl⟩
  go_wp2_with fail
  go_loopw [8, 9] (fun ts ti wr => ∃ (j : Nat), j ≤ 1 ∧ ti = .int .i64 ((j : Int) + 1) ∧ ts = .string ⟨(repD dA j).toArray⟩ ∧ ∃ m, wr = w.drewN m) (fun _ ti _ => 2 - (intOf ti).toNat)
  case atStart => exact ⟨0, by decide, rfl, rfl, 0, rfl⟩
  case round =>
    obtain ⟨j, hj, rfl, rfl, m, rfl⟩ := hrel
    by_cases hlt : j < 1
    · have hlt2 : (j : Int) + 1 < 2 := by omega
      have hlj := LR.out j (by omega)
      have c1 : (repD dA j).length + dA.length ≤ 9223372036854775807 := by omega
      have c2 : (repD dA j).length + dA.length + 1 ≤ 9223372036854775807 := by omega
      have c3 : (repD dA j).length + (dA.length + 1) ≤ 9223372036854775807 := by omega
      have RJ := Lib.hid (RS.out j)
      obtain ⟨s, hs⟩ : ∃ s, repD dA j = s := ⟨_, rfl⟩
      rw [hs] at c1 c2 c3 RJ
      rw [hs]
      clear hs hlj
      go_wp2_with fail
      refine (DA.out _).mono ?_
      rintro e w' ⟨rfl, m2, rfl⟩
      go_wp2_with fail
      refine ⟨⟨j + 1, by omega, by first | rfl | go_num, ?_, _, by first | rfl | (rw [World.drewN_drewN])⟩, by simp [intOf]; omega⟩
      first | (rw [← RJ.out]; done) | (rw [← RJ.out]; simp)
    · obtain rfl : j = 1 := by omega
      have c1 : (repD dA 1).length + d1.length ≤ 9223372036854775807 := by omega
      have c2 : (repD dA 1).length + d2.length ≤ 9223372036854775807 := by omega
      have c3 : d3.length + 2 ≤ 9223372036854775807 := by omega
      obtain ⟨s, hs⟩ : ∃ s, repD dA 1 = s := ⟨_, rfl⟩
      rw [hs] at c1 c2 P1 P2
      rw [hs]
      clear hs hj hlt
      go_wp2_with fail
      refine (D1.out _).mono ?_
      rintro e w1 ⟨rfl, hb1⟩
      have HB1 := Lib.hid hb1
      clear hb1
      go_wp2_with fail
      refine (P1.out _).mono ?_
      rintro e w2 ⟨rfl, hb2⟩
      have HB2 := Lib.hid hb2
      clear hb2
      go_wp2_with fail
      refine (D2.out _).mono ?_
      rintro e w3 ⟨rfl, hb3⟩
      have HB3 := Lib.hid hb3
      clear hb3
      go_wp2_with fail
      refine (P2.out _).mono ?_
      rintro e w4 ⟨rfl, hb4⟩
      have HB4 := Lib.hid hb4
      clear hb4
      go_wp2_with fail
      refine (P3.out _).mono ?_
      rintro e w5 ⟨rfl, hb5⟩
      have HB5 := Lib.hid hb5
      clear hb5
      go_wp2_with fail
      refine (P4.out _).mono ?_
      rintro e w6 ⟨rfl, hb6⟩
      have HB6 := Lib.hid hb6
      clear hb6
      go_wp2_with fail
      refine (D3.out _).mono ?_
      rintro e w7 ⟨rfl, hb7⟩
      have HB7 := Lib.hid hb7
      clear hb7
      go_wp2_with fail
      refine (P5.out _).mono ?_
      rintro e w8 ⟨rfl, hb8⟩
      have HB8 := Lib.hid hb8
      clear hb8
      have HB : Hid (Below w.heap.size w w8) := Lib.hid (ext_trans (ext_drew w m) (ext_trans HB1.out (ext_trans HB2.out (ext_trans HB3.out (ext_trans HB4.out (ext_trans HB5.out (ext_trans HB6.out (ext_trans HB7.out HB8.out))))))))
      go_wp2_with fail
      refine (awake8_any _ (HT.out.below HB.out)).mono ?_
      rintro e w9 ⟨rfl, hb9⟩
      go_wp2
      go_ret
      exact ⟨rfl, ext_trans HB.out hb9⟩
set_option maxRecDepth 100000 in
set_option maxHeartbeats 4000000 in
theorem more_walk3 (a0 : Int) (y a : Nat) (w : World) (h0 : -9223372036854775808 ≤ a0) (h1 : a0 ≤ 9223372036854775807) (hlow : lowN a0 4 = 2) (hy : y ≤ 65535) (ha : a ≤ 255) (htab : Tab w) :
    Calls Tryd.prog 6 #[.int .i64 a0, .int .u16 y, .int .u8 a] w fun e w' => e = .returned (.bool true) ∧ Below w.heap.size w w' := by
  have HT := Lib.hid htab
  have C0 := Lib.hid (low_any a0 4 · h0 h1 (by decide) (by decide))
  rw [hlow] at C0
  have DA := Lib.hid (digits10_any (a + 1) a · (by omega) (by omega))
  have D1 := Lib.hid (lDigits_any (65536 + y + 1) (65536 + y) · (by omega) (by omega))
  have D2 := Lib.hid (lDigits_any 65536 65535 · (by omega) (by omega))
  have D3 := Lib.hid (lDigits_any (256 + y + 1) (256 + y) · (by omega) (by omega))
  rw [digB_dec] at D1 D2 D3
  have e1 : ((65536 + y : Nat) : Int) = 65536 + (y : Int) := by omega
  have e2 : ((65535 : Nat) : Int) = 65535 := by omega
  have e3 : ((256 + y : Nat) : Int) = 256 + (y : Int) := by omega
  rw [e1] at D1
  rw [e2] at D2
  rw [e3] at D3
  have lA := digB_100 (b := 10) (by unfold isBase; omega) a (by omega)
  have l1 := digB_100 (b := 10) (by unfold isBase; omega) (65536 + y) (by omega)
  have l2 := digB_100 (b := 10) (by unfold isBase; omega) 65535 (by omega)
  have l3 := digB_100 (b := 10) (by unfold isBase; omega) (256 + y) (by omega)
  have lR : (repD (digB 10 a) 2).length ≤ 153 := by rw [repD_len]; omega
  have LR := Lib.hid (fun j (h : j ≤ 3) => show (repD (digB 10 a) j).length ≤ 153 by rw [repD_len]; have : j * ((digB 10 a).length + 1) ≤ 3 * 51 := Nat.mul_le_mul h (by omega); omega)
  have P1 := Lib.hid (Parse_any (repD (digB 10 a) 2 ++ digB 10 (65536 + y)) · (by simp; omega))
  have P2 := Lib.hid (Parse_any (repD (digB 10 a) 2 ++ digB 10 65535) · (by simp; omega))
  have P3 := Lib.hid (Parse_any [49, 46, 50, 46, 51, 46, 52, 46, 53] · (by decide))
  have P4 := Lib.hid (Parse_any [49, 46, 46, 50] · (by decide))
  have P5 := Lib.hid (Parse_any (digB 10 (256 + y) ++ [46, 49]) · (by simp; omega))
  rw [more_no a ha 2 (by decide) (65536 + y) (by omega) (by simp; omega)] at P1
  obtain ⟨v, hv⟩ := more_yes a ha 2 (by decide) 65535 (by omega) (by simp)
  rw [hv] at P2
  rw [five_no] at P3
  rw [gap_no] at P4
  rw [big_no (256 + y) (by omega) (by omega)] at P5
  have RS := Lib.hid (repD_snoc (digB 10 a))
  obtain ⟨dA, hdA⟩ : ∃ d, digB 10 a = d := ⟨_, rfl⟩
  obtain ⟨d1, hd1⟩ : ∃ d, digB 10 (65536 + y) = d := ⟨_, rfl⟩
  obtain ⟨d2, hd2⟩ : ∃ d, digB 10 65535 = d := ⟨_, rfl⟩
  obtain ⟨d3, hd3⟩ : ∃ d, digB 10 (256 + y) = d := ⟨_, rfl⟩
  rw [hdA] at DA lA lR P1 P2 RS LR
  rw [hd1] at D1 l1 P1
  rw [hd2] at D2 l2 P2
  rw [hd3] at D3 l3 P5
  have y0 : (0 : Int) ≤ (y : Int) := by omega
  have y1 : (y : Int) ≤ 65535 := by omega
  have a00 : (0 : Int) ≤ (a : Int) := by omega
  have a01 : (a : Int) ≤ 255 := by omega
  clear htab hlow h0 h1 e1 e2 e3 hv hdA hd1 hd2 hd3 hy ha
  go_enter Tryd.func6, Tryd.ntmps6
  go_wp2_with fail
  refine (C0.out _).mono ?_
  rintro e w' ⟨rfl, rfl⟩
  go_wp2_with fail
  go_loopw [8, 9] (fun ts ti wr => ∃ (j : Nat), j ≤ 2 ∧ ti = .int .i64 ((j : Int) + 1) ∧ ts = .string ⟨(repD dA j).toArray⟩ ∧ ∃ m, wr = w.drewN m) (fun _ ti _ => 3 - (intOf ti).toNat)
  case atStart => exact ⟨0, by decide, rfl, rfl, 0, rfl⟩
  case round =>
    obtain ⟨j, hj, rfl, rfl, m, rfl⟩ := hrel
    by_cases hlt : j < 2
    · have hlt2 : (j : Int) + 1 < 3 := by omega
      have hlj := LR.out j (by omega)
      have c1 : (repD dA j).length + dA.length ≤ 9223372036854775807 := by omega
      have c2 : (repD dA j).length + dA.length + 1 ≤ 9223372036854775807 := by omega
      have c3 : (repD dA j).length + (dA.length + 1) ≤ 9223372036854775807 := by omega
      have RJ := Lib.hid (RS.out j)
      obtain ⟨s, hs⟩ : ∃ s, repD dA j = s := ⟨_, rfl⟩
      rw [hs] at c1 c2 c3 RJ
      rw [hs]
      clear hs hlj
      go_wp2_with fail
      refine (DA.out _).mono ?_
      rintro e w' ⟨rfl, m2, rfl⟩
      go_wp2_with fail
      refine ⟨⟨j + 1, by omega, by first | rfl | go_num, ?_, _, by first | rfl | (rw [World.drewN_drewN])⟩, by simp [intOf]; omega⟩
      first | (rw [← RJ.out]; done) | (rw [← RJ.out]; simp)
    · obtain rfl : j = 2 := by omega
      have c1 : (repD dA 2).length + d1.length ≤ 9223372036854775807 := by omega
      have c2 : (repD dA 2).length + d2.length ≤ 9223372036854775807 := by omega
      have c3 : d3.length + 2 ≤ 9223372036854775807 := by omega
      obtain ⟨s, hs⟩ : ∃ s, repD dA 2 = s := ⟨_, rfl⟩
      rw [hs] at c1 c2 P1 P2
      rw [hs]
      clear hs hj hlt
      go_wp2_with fail
      refine (D1.out _).mono ?_
      rintro e w1 ⟨rfl, hb1⟩
      have HB1 := Lib.hid hb1
      clear hb1
      go_wp2_with fail
      refine (P1.out _).mono ?_
      rintro e w2 ⟨rfl, hb2⟩
      have HB2 := Lib.hid hb2
      clear hb2
      go_wp2_with fail
      refine (D2.out _).mono ?_
      rintro e w3 ⟨rfl, hb3⟩
      have HB3 := Lib.hid hb3
      clear hb3
      go_wp2_with fail
      refine (P2.out _).mono ?_
      rintro e w4 ⟨rfl, hb4⟩
      have HB4 := Lib.hid hb4
      clear hb4
      go_wp2_with fail
      refine (P3.out _).mono ?_
      rintro e w5 ⟨rfl, hb5⟩
      have HB5 := Lib.hid hb5
      clear hb5
      go_wp2_with fail
      refine (P4.out _).mono ?_
      rintro e w6 ⟨rfl, hb6⟩
      have HB6 := Lib.hid hb6
      clear hb6
      go_wp2_with fail
      refine (D3.out _).mono ?_
      rintro e w7 ⟨rfl, hb7⟩
      have HB7 := Lib.hid hb7
      clear hb7
      go_wp2_with fail
      refine (P5.out _).mono ?_
      rintro e w8 ⟨rfl, hb8⟩
      have HB8 := Lib.hid hb8
      clear hb8
      have HB : Hid (Below w.heap.size w w8) := Lib.hid (ext_trans (ext_drew w m) (ext_trans HB1.out (ext_trans HB2.out (ext_trans HB3.out (ext_trans HB4.out (ext_trans HB5.out (ext_trans HB6.out (ext_trans HB7.out HB8.out))))))))
      go_wp2_with fail
      refine (awake8_any _ (HT.out.below HB.out)).mono ?_
      rintro e w9 ⟨rfl, hb9⟩
      go_wp2
      go_ret
      exact ⟨rfl, ext_trans HB.out hb9⟩
set_option maxRecDepth 100000 in
set_option maxHeartbeats 4000000 in
theorem more_walk4 (a0 : Int) (y a : Nat) (w : World) (h0 : -9223372036854775808 ≤ a0) (h1 : a0 ≤ 9223372036854775807) (hlow : lowN a0 4 = 3) (hy : y ≤ 65535) (ha : a ≤ 255) (htab : Tab w) :
    Calls Tryd.prog 6 #[.int .i64 a0, .int .u16 y, .int .u8 a] w fun e w' => e = .returned (.bool true) ∧ Below w.heap.size w w' := by
  have HT := Lib.hid htab
  have C0 := Lib.hid (low_any a0 4 · h0 h1 (by decide) (by decide))
  rw [hlow] at C0
  have DA := Lib.hid (digits10_any (a + 1) a · (by omega) (by omega))
  have D1 := Lib.hid (lDigits_any (256 + y + 1) (256 + y) · (by omega) (by omega))
  have D2 := Lib.hid (lDigits_any 256 255 · (by omega) (by omega))
  have D3 := Lib.hid (lDigits_any (256 + y + 1) (256 + y) · (by omega) (by omega))
  rw [digB_dec] at D1 D2 D3
  have e1 : ((256 + y : Nat) : Int) = 256 + (y : Int) := by omega
  have e2 : ((255 : Nat) : Int) = 255 := by omega
  have e3 : ((256 + y : Nat) : Int) = 256 + (y : Int) := by omega
  rw [e1] at D1
  rw [e2] at D2
  rw [e3] at D3
  have lA := digB_100 (b := 10) (by unfold isBase; omega) a (by omega)
  have l1 := digB_100 (b := 10) (by unfold isBase; omega) (256 + y) (by omega)
  have l2 := digB_100 (b := 10) (by unfold isBase; omega) 255 (by omega)
  have l3 := digB_100 (b := 10) (by unfold isBase; omega) (256 + y) (by omega)
  have lR : (repD (digB 10 a) 3).length ≤ 153 := by rw [repD_len]; omega
  have LR := Lib.hid (fun j (h : j ≤ 3) => show (repD (digB 10 a) j).length ≤ 153 by rw [repD_len]; have : j * ((digB 10 a).length + 1) ≤ 3 * 51 := Nat.mul_le_mul h (by omega); omega)
  have P1 := Lib.hid (Parse_any (repD (digB 10 a) 3 ++ digB 10 (256 + y)) · (by simp; omega))
  have P2 := Lib.hid (Parse_any (repD (digB 10 a) 3 ++ digB 10 255) · (by simp; omega))
  have P3 := Lib.hid (Parse_any [49, 46, 50, 46, 51, 46, 52, 46, 53] · (by decide))
  have P4 := Lib.hid (Parse_any [49, 46, 46, 50] · (by decide))
  have P5 := Lib.hid (Parse_any (digB 10 (256 + y) ++ [46, 49]) · (by simp; omega))
  rw [more_no a ha 3 (by decide) (256 + y) (by omega) (by simp; omega)] at P1
  obtain ⟨v, hv⟩ := more_yes a ha 3 (by decide) 255 (by omega) (by simp)
  rw [hv] at P2
  rw [five_no] at P3
  rw [gap_no] at P4
  rw [big_no (256 + y) (by omega) (by omega)] at P5
  have RS := Lib.hid (repD_snoc (digB 10 a))
  obtain ⟨dA, hdA⟩ : ∃ d, digB 10 a = d := ⟨_, rfl⟩
  obtain ⟨d1, hd1⟩ : ∃ d, digB 10 (256 + y) = d := ⟨_, rfl⟩
  obtain ⟨d2, hd2⟩ : ∃ d, digB 10 255 = d := ⟨_, rfl⟩
  obtain ⟨d3, hd3⟩ : ∃ d, digB 10 (256 + y) = d := ⟨_, rfl⟩
  rw [hdA] at DA lA lR P1 P2 RS LR
  rw [hd1] at D1 l1 P1
  rw [hd2] at D2 l2 P2
  rw [hd3] at D3 l3 P5
  have y0 : (0 : Int) ≤ (y : Int) := by omega
  have y1 : (y : Int) ≤ 65535 := by omega
  have a00 : (0 : Int) ≤ (a : Int) := by omega
  have a01 : (a : Int) ≤ 255 := by omega
  clear htab hlow h0 h1 e1 e2 e3 hv hdA hd1 hd2 hd3 hy ha
  go_enter Tryd.func6, Tryd.ntmps6
  go_wp2_with fail
  refine (C0.out _).mono ?_
  rintro e w' ⟨rfl, rfl⟩
  go_wp2_with fail
  go_loopw [8, 9] (fun ts ti wr => ∃ (j : Nat), j ≤ 3 ∧ ti = .int .i64 ((j : Int) + 1) ∧ ts = .string ⟨(repD dA j).toArray⟩ ∧ ∃ m, wr = w.drewN m) (fun _ ti _ => 4 - (intOf ti).toNat)
  case atStart => exact ⟨0, by decide, rfl, rfl, 0, rfl⟩
  case round =>
    obtain ⟨j, hj, rfl, rfl, m, rfl⟩ := hrel
    by_cases hlt : j < 3
    · have hlt2 : (j : Int) + 1 < 4 := by omega
      have hlj := LR.out j (by omega)
      have c1 : (repD dA j).length + dA.length ≤ 9223372036854775807 := by omega
      have c2 : (repD dA j).length + dA.length + 1 ≤ 9223372036854775807 := by omega
      have c3 : (repD dA j).length + (dA.length + 1) ≤ 9223372036854775807 := by omega
      have RJ := Lib.hid (RS.out j)
      obtain ⟨s, hs⟩ : ∃ s, repD dA j = s := ⟨_, rfl⟩
      rw [hs] at c1 c2 c3 RJ
      rw [hs]
      clear hs hlj
      go_wp2_with fail
      refine (DA.out _).mono ?_
      rintro e w' ⟨rfl, m2, rfl⟩
      go_wp2_with fail
      refine ⟨⟨j + 1, by omega, by first | rfl | go_num, ?_, _, by first | rfl | (rw [World.drewN_drewN])⟩, by simp [intOf]; omega⟩
      first | (rw [← RJ.out]; done) | (rw [← RJ.out]; simp)
    · obtain rfl : j = 3 := by omega
      have c1 : (repD dA 3).length + d1.length ≤ 9223372036854775807 := by omega
      have c2 : (repD dA 3).length + d2.length ≤ 9223372036854775807 := by omega
      have c3 : d3.length + 2 ≤ 9223372036854775807 := by omega
      obtain ⟨s, hs⟩ : ∃ s, repD dA 3 = s := ⟨_, rfl⟩
      rw [hs] at c1 c2 P1 P2
      rw [hs]
      clear hs hj hlt
      go_wp2_with fail
      refine (D1.out _).mono ?_
      rintro e w1 ⟨rfl, hb1⟩
      have HB1 := Lib.hid hb1
      clear hb1
      go_wp2_with fail
      refine (P1.out _).mono ?_
      rintro e w2 ⟨rfl, hb2⟩
      have HB2 := Lib.hid hb2
      clear hb2
      go_wp2_with fail
      refine (D2.out _).mono ?_
      rintro e w3 ⟨rfl, hb3⟩
      have HB3 := Lib.hid hb3
      clear hb3
      go_wp2_with fail
      refine (P2.out _).mono ?_
      rintro e w4 ⟨rfl, hb4⟩
      have HB4 := Lib.hid hb4
      clear hb4
      go_wp2_with fail
      refine (P3.out _).mono ?_
      rintro e w5 ⟨rfl, hb5⟩
      have HB5 := Lib.hid hb5
      clear hb5
      go_wp2_with fail
      refine (P4.out _).mono ?_
      rintro e w6 ⟨rfl, hb6⟩
      have HB6 := Lib.hid hb6
      clear hb6
      go_wp2_with fail
      refine (D3.out _).mono ?_
      rintro e w7 ⟨rfl, hb7⟩
      have HB7 := Lib.hid hb7
      clear hb7
      go_wp2_with fail
      refine (P5.out _).mono ?_
      rintro e w8 ⟨rfl, hb8⟩
      have HB8 := Lib.hid hb8
      clear hb8
      have HB : Hid (Below w.heap.size w w8) := Lib.hid (ext_trans (ext_drew w m) (ext_trans HB1.out (ext_trans HB2.out (ext_trans HB3.out (ext_trans HB4.out (ext_trans HB5.out (ext_trans HB6.out (ext_trans HB7.out HB8.out))))))))
      go_wp2_with fail
      refine (awake8_any _ (HT.out.below HB.out)).mono ?_
      rintro e w9 ⟨rfl, hb9⟩
      go_wp2
      go_ret
      exact ⟨rfl, ext_trans HB.out hb9⟩
theorem FourMore_walk (a0 a1 a2 : Int) (w : World) (w0 : (Lit.int .i64 a0).wf = true) (w1 : (Lit.int .u16 a1).wf = true) (w2 : (Lit.int .u8 a2).wf = true) (htab : Tab w) :
    Calls Tryd.prog 6 #[.int .i64 a0, .int .u16 a1, .int .u8 a2] w fun e w' => e = .returned (.bool true) ∧ Below w.heap.size w w' := by
  obtain ⟨h0, h1⟩ := wf64 w0
  obtain ⟨b0, b1⟩ := wfu16 w1
  obtain ⟨c0, c1⟩ := wf8 w2
  obtain ⟨y, rfl⟩ := Int.eq_ofNat_of_zero_le b0
  obtain ⟨a, rfl⟩ := Int.eq_ofNat_of_zero_le c0
  have hl := lowN_bd a0 4 (by decide)
  rcases (by omega : lowN a0 4 = 0 ∨ lowN a0 4 = 1 ∨ lowN a0 4 = 2 ∨ lowN a0 4 = 3) with h | h | h | h
  · exact more_walk1 a0 y a w h0 h1 h (by omega) (by omega) htab
  · exact more_walk2 a0 y a w h0 h1 h (by omega) (by omega) htab
  · exact more_walk3 a0 y a w h0 h1 h (by omega) (by omega) htab
  · exact more_walk4 a0 y a w h0 h1 h (by omega) (by omega) htab
end Go.Proofs.YtbjpmpijlddcpaaDoor
