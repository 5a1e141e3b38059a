import Derived.Lib.ConvBytes
import Derived.Test.YtaphadmcjimmeaaDoorHb8
import Derived.Test.YtaphadmcjimmeaaDoorHb10
set_option linter.unusedVariables false
set_option linter.unusedSimpArgs false
namespace Go.Proofs.YtaphadmcjimmeaaDoor
open Go.RowKit
section
theorem bytesWorld_below (w : World) (e : TypeId) (s : ByteArray) : Below w.heap.size w (Lib.bytesWorld w e s) :=
  ⟨rfl, rfl, rfl, by rw [Lib.bytesWorld_size]; omega, fun k hk => Lib.bytesWorld_at_old w e s k hk⟩
theorem bytesWorld_is8 (w : World) (e : TypeId) (l : List UInt8) (hl : l.length ≤ 4611686018427387904) : Is8 (Lib.bytesWorld w e ⟨l.toArray⟩) (.slice (some ⟨w.heap.size, 0, none⟩) l.length (grownCap w l.length 0 e)) l := by
  refine ⟨_, _, rfl, grownCap_ge _ _ _ _, grownCap_le_maxLen _ _ _ _ (by unfold maxLen; omega), (fun h => by cases h), fun _ => ⟨w.heap.size, 0, rfl, fun i hi => ?_⟩⟩
  rw [Nat.zero_add, Lib.bytesWorld_cell w e ⟨l.toArray⟩ i (by rw [str_size]; exact hi)]
  rfl
section
variable {P : Program} {ops : Array Oper} {rest : List Oper} {o : Oper} {a : Act} {Q : Exit → Act → World → Prop}
theorem wpList_toBytes (w : World) (hw : Region.wanted o (yielded ops a.tmps) = true) (s d : TypeId) (x : Operand) (hop : o.op = Op.convert s d x) (e : TypeId)
    (hs : P.underlying s = some .string) (hd : P.underlying d = some (.slice e)) (he : P.underlying e = some (.int .u8)) (l : List UInt8) (hx : a.eval x = .string ⟨l.toArray⟩) (hl : l.length ≤ 4611686018427387904)
    (h : ∀ b cap w', Is8 w' (.slice (some ⟨b, 0, none⟩) l.length cap) l → Below w.heap.size w w' → b = w.heap.size → wpList P ops Q rest (a.put o.dst (.slice (some ⟨b, 0, none⟩) l.length cap)) w') : wpList P ops Q (o :: rest) a w := by
  refine wpList_met hw fun K hK => ?_
  have hrun := Lib.run_convert_string_bytes (P := P) w s d e ⟨l.toArray⟩ hs hd he
  rw [str_size] at hrun
  unfold Oper.wp
  simp [execOp, hop, hx, hrun, Result.andThen]
  exact hK _ _ (h _ _ _ (bytesWorld_is8 w e l hl) (bytesWorld_below w e _) rfl)
end
end
theorem tupUB {a a' : Int} {c c' : Bool} (h1 : a = a') (h3 : c = c') : Ending.returned (.tuple #[.int .u64 a, .bool c]) = .returned (.tuple #[.int .u64 a', .bool c']) := by rw [h1, h3]
set_option maxRecDepth 100000 in
set_option maxHeartbeats 4000000 in
theorem number_any (l : List UInt8) (w : World) (hm : l.length ≤ 1000000) :
    Calls Tryd.prog 45 #[.string ⟨l.toArray⟩] w fun e w' => e = .returned (.tuple #[.int .u64 (numV l), .bool (numO l)]) ∧ Below w.heap.size w w' := by
  have HR := Lib.hid (hexRest_any l · hm)
  have hl0 := byt_lo l 0
  have hl1 := byt_hi l 0
  cases hp : hexP l with
  | true =>
    have HR2 : Hid (hexR l = l.drop 2) := Lib.hid (by unfold hexR; rw [if_pos hp])
    have HBA : Hid (baseN l = 16) := Lib.hid (by unfold baseN; rw [if_pos hp])
    have HBO : Hid (bodyL l = l.drop 2) := Lib.hid (by unfold bodyL; rw [if_pos hp])
    have HFR : Hid ((hexP l || decide (0 < l.length)) = true) := Lib.hid (by rw [hp]; rfl)
    rw [hp, HR2.out] at HR
    have hDl : (l.drop 2).length ≤ 1000000 := by simp; omega
    obtain ⟨D, hD⟩ : ∃ D, l.drop 2 = D := ⟨_, rfl⟩
    rw [hD] at HR HBO hDl
    clear hp hD HR2
    have hBl : D.length ≤ 1000000 := by first | omega | (simp; omega)
    have HO := Lib.hid (only_any D 16 · hBl (by decide) (by decide))
    cases hob : onlyB 16 D with
    | false =>
      have H1 : Hid (numO l = false) := Lib.hid (by unfold numO; rw [HBA.out, HBO.out, hob, Bool.and_false])
      have H2 : Hid (numV l = 0) := Lib.hid (by unfold numV; rw [if_neg (by rw [H1.out]; simp)])
      rw [hob] at HO
      clear hob
      go_enter Tryd.func45, Tryd.ntmps45
      go_wp2_with fail
      refine (HR.out _).mono ?_
      rintro e w' ⟨rfl, rfl⟩
      go_wp2_with fail
      refine (HO.out _).mono ?_
      rintro e w' ⟨rfl, rfl⟩
      go_wp2_with fail
      go_ret2
      exact ⟨tupUB H2.out.symm H1.out.symm, Below.refl _ _⟩
    | true =>
      have H1 : Hid (numO l = true) := Lib.hid (by unfold numO; rw [HFR.out, HBA.out, HBO.out, hob]; rfl)
      have H2 : Hid (numV l = valV 16 0 D) := Lib.hid (by unfold numV; rw [if_pos H1.out, HBA.out, HBO.out])
      have HAT := Lib.hid (onlyB_at 16 D hob)
      have HBD := Lib.hid (valV_bd 16 (by decide) D (fun i hi => (HAT.out i hi).1))
      have HTK := Lib.hid (valV_take 16 D)
      rw [hob] at HO
      clear hob
      go_enter Tryd.func45, Tryd.ntmps45
      go_wp2_with fail
      refine (HR.out _).mono ?_
      rintro e w' ⟨rfl, rfl⟩
      go_wp2_with fail
      refine (HO.out _).mono ?_
      rintro e w' ⟨rfl, rfl⟩
      go_wp2_with (refine wpList_toBytes _ (by rfl) 9 44 _ rfl 5 Tryd.underlying9 Tryd.underlying44 Tryd.underlying5 D rfl (by omega) ?_)
      intro b cap w1 h8 hb1 hbe
      have HB1 := Lib.hid hb1
      obtain ⟨pa, pc, hpe, q1, q2, -, q3⟩ := h8
      injection hpe with e1 e2 e3
      subst e3
      unfold maxLen at q2
      have HC8 : Hid (0 < D.length → Cells w1 b 0 D.length (u8At D)) := Lib.hid (fun h => by
        obtain ⟨b2, o2, hh, hc⟩ := q3 h
        rw [← e1] at hh
        injection hh with hh
        injection hh with g1 g2
        subst g1; subst g2
        exact hc)
      clear hb1 hbe q3 e1 e2
      go_wp2_with fail
      go_loopw [7, 9, 34] (fun tv tc ti wr => ∃ i : Nat, i ≤ D.length ∧ ti = .int .i64 i ∧ tv = .int .u64 (valV 16 0 (D.take i)) ∧ wr = w1) (fun _ _ ti _ => D.length - (intOf ti).toNat)
      case atStart => exact ⟨0, by omega, rfl, rfl, rfl⟩
      case round =>
        obtain ⟨i, hi, rfl, rfl, rfl⟩ := hrel
        by_cases hlt : i < D.length
        · have hcell : wr.cell? ⟨b, 0 + i, none⟩ = some (.int .u8 (byt D i)) := (HC8.out (by omega)).at i hlt
          rw [Nat.zero_add] at hcell
          have b0 := byt_lo D i
          have b1 := byt_hi D i
          obtain ⟨v0, v1⟩ := HBD.out i (by omega)
          obtain ⟨x0, x1⟩ := HAT.out i hlt
          have HT := Lib.hid (HTK.out i hlt)
          have HX := Lib.hid (hex_any (byt D i) · b0 b1)
          obtain ⟨c, hc⟩ : ∃ c, byt D i = c := ⟨_, rfl⟩
          rw [hc] at hcell b0 b1 x0 x1 HT HX
          clear hc
          obtain ⟨v, hv⟩ : ∃ v, valV 16 0 (D.take i) = v := ⟨_, rfl⟩
          rw [hv] at v0 v1 HT
          rw [hv]
          clear hv
          have HST : Hid (stepV 16 v c = min (v * 16 + hexN c) 4294967296) := Lib.hid rfl
          obtain ⟨x, hx⟩ : ∃ x, hexN c = x := ⟨_, rfl⟩
          rw [hx] at x0 x1 HX HST
          clear hx
          by_cases hmn : v * 16 + x ≤ 4294967296
          · have H3 : Hid (valV 16 0 (D.take (i + 1)) = v * 16 + x) := Lib.hid (by rw [HT.out, HST.out]; omega)
            go_wp2_with fail
            refine (HX.out _).mono ?_
            rintro e w' ⟨rfl, rfl⟩
            go_wp2_with fail
            exact ⟨⟨i + 1, by omega, by go_num, by rw [H3.out], by trivial⟩, by simp [intOf]; omega⟩
          · have H3 : Hid (valV 16 0 (D.take (i + 1)) = 4294967296) := Lib.hid (by rw [HT.out, HST.out]; omega)
            go_wp2_with fail
            refine (HX.out _).mono ?_
            rintro e w' ⟨rfl, rfl⟩
            go_wp2_with fail
            exact ⟨⟨i + 1, by omega, by go_num, by rw [H3.out], by trivial⟩, by simp [intOf]; omega⟩
        · obtain rfl : i = D.length := by omega
          rw [List.take_length]
          go_wp2_with fail
          go_ret2
          exact ⟨tupUB H2.out.symm H1.out.symm, HB1.out⟩
  | false =>
    have HR2 : Hid (hexR l = []) := Lib.hid (by unfold hexR; rw [if_neg (by rw [hp]; simp)])
    have HBO : Hid (bodyL l = l) := Lib.hid (by unfold bodyL; rw [if_neg (by rw [hp]; simp)])
    have HP := Lib.hid hp
    rw [hp, HR2.out] at HR
    clear hp
    by_cases h0 : l = []
    · subst h0
      have H1 : Hid (numO [] = false) := Lib.hid (by decide)
      have H2 : Hid (numV [] = 0) := Lib.hid (by unfold numV; rw [if_neg (by rw [H1.out]; simp)])
      clear hl0 hl1
      go_enter Tryd.func45, Tryd.ntmps45
      go_wp2_with fail
      refine (HR.out _).mono ?_
      rintro e w' ⟨rfl, rfl⟩
      go_wp2_with fail
      go_ret2
      exact ⟨tupUB H2.out.symm H1.out.symm, Below.refl _ _⟩
    · have hlen : 0 < l.length := List.length_pos_iff.2 h0
      have g1 : (l == []) = false := by rw [beq_eq_false_iff_ne]; exact h0
      have g2 : l.isEmpty = false := by rw [List.isEmpty_eq_false_iff]; exact h0
      have HFR : Hid ((hexP l || decide (0 < l.length)) = true) := Lib.hid (by rw [HP.out, decide_eq_true hlen]; rfl)
      clear h0
      by_cases h1 : 1 < l.length
      · have h1I : (1 : Int) < (l.length : Int) := by omega
        by_cases h2 : byt l 0 = 48
        · have HBA : Hid (baseN l = 8) := Lib.hid (by unfold baseN; rw [if_neg (by rw [HP.out]; simp), if_pos ⟨h1, h2⟩])
          have e2 : (byt l 0 == 48) = true := by rw [beq_iff_eq]; exact h2
          clear h2
          have hBl : l.length ≤ 1000000 := by first | omega | (simp; omega)
          have HO := Lib.hid (only_any l 8 · hBl (by decide) (by decide))
          cases hob : onlyB 8 l with
          | false =>
            have H1 : Hid (numO l = false) := Lib.hid (by unfold numO; rw [HBA.out, HBO.out, hob, Bool.and_false])
            have H2 : Hid (numV l = 0) := Lib.hid (by unfold numV; rw [if_neg (by rw [H1.out]; simp)])
            rw [hob] at HO
            clear hob
            go_enter Tryd.func45, Tryd.ntmps45
            go_wp2_with fail
            refine (HR.out _).mono ?_
            rintro e w' ⟨rfl, rfl⟩
            go_wp2_with fail
            refine (HO.out _).mono ?_
            rintro e w' ⟨rfl, rfl⟩
            go_wp2_with fail
            go_ret2
            exact ⟨tupUB H2.out.symm H1.out.symm, Below.refl _ _⟩
          | true =>
            have H1 : Hid (numO l = true) := Lib.hid (by unfold numO; rw [HFR.out, HBA.out, HBO.out, hob]; rfl)
            have H2 : Hid (numV l = valV 8 0 l) := Lib.hid (by unfold numV; rw [if_pos H1.out, HBA.out, HBO.out])
            have HAT := Lib.hid (onlyB_at 8 l hob)
            have HBD := Lib.hid (valV_bd 8 (by decide) l (fun i hi => (HAT.out i hi).1))
            have HTK := Lib.hid (valV_take 8 l)
            rw [hob] at HO
            clear hob
            go_enter Tryd.func45, Tryd.ntmps45
            go_wp2_with fail
            refine (HR.out _).mono ?_
            rintro e w' ⟨rfl, rfl⟩
            go_wp2_with fail
            refine (HO.out _).mono ?_
            rintro e w' ⟨rfl, rfl⟩
            go_wp2_with (refine wpList_toBytes _ (by rfl) 9 44 _ rfl 5 Tryd.underlying9 Tryd.underlying44 Tryd.underlying5 l rfl (by omega) ?_)
            intro b cap w1 h8 hb1 hbe
            have HB1 := Lib.hid hb1
            obtain ⟨pa, pc, hpe, q1, q2, -, q3⟩ := h8
            injection hpe with e1 e2 e3
            subst e3
            unfold maxLen at q2
            have HC8 : Hid (0 < l.length → Cells w1 b 0 l.length (u8At l)) := Lib.hid (fun h => by
              obtain ⟨b2, o2, hh, hc⟩ := q3 h
              rw [← e1] at hh
              injection hh with hh
              injection hh with g1 g2
              subst g1; subst g2
              exact hc)
            clear hb1 hbe q3 e1 e2
            go_wp2_with fail
            go_loopw [7, 9, 34] (fun tv tc ti wr => ∃ i : Nat, i ≤ l.length ∧ ti = .int .i64 i ∧ tv = .int .u64 (valV 8 0 (l.take i)) ∧ wr = w1) (fun _ _ ti _ => l.length - (intOf ti).toNat)
            case atStart => exact ⟨0, by omega, rfl, rfl, rfl⟩
            case round =>
              obtain ⟨i, hi, rfl, rfl, rfl⟩ := hrel
              by_cases hlt : i < l.length
              · have hcell : wr.cell? ⟨b, 0 + i, none⟩ = some (.int .u8 (byt l i)) := (HC8.out (by omega)).at i hlt
                rw [Nat.zero_add] at hcell
                have b0 := byt_lo l i
                have b1 := byt_hi l i
                obtain ⟨v0, v1⟩ := HBD.out i (by omega)
                obtain ⟨x0, x1⟩ := HAT.out i hlt
                have HT := Lib.hid (HTK.out i hlt)
                have HX := Lib.hid (hex_any (byt l i) · b0 b1)
                obtain ⟨c, hc⟩ : ∃ c, byt l i = c := ⟨_, rfl⟩
                rw [hc] at hcell b0 b1 x0 x1 HT HX
                clear hc
                obtain ⟨v, hv⟩ : ∃ v, valV 8 0 (l.take i) = v := ⟨_, rfl⟩
                rw [hv] at v0 v1 HT
                rw [hv]
                clear hv
                have HST : Hid (stepV 8 v c = min (v * 8 + hexN c) 4294967296) := Lib.hid rfl
                obtain ⟨x, hx⟩ : ∃ x, hexN c = x := ⟨_, rfl⟩
                rw [hx] at x0 x1 HX HST
                clear hx
                by_cases hmn : v * 8 + x ≤ 4294967296
                · have H3 : Hid (valV 8 0 (l.take (i + 1)) = v * 8 + x) := Lib.hid (by rw [HT.out, HST.out]; omega)
                  go_wp2_with fail
                  refine (HX.out _).mono ?_
                  rintro e w' ⟨rfl, rfl⟩
                  go_wp2_with fail
                  exact ⟨⟨i + 1, by omega, by go_num, by rw [H3.out], by trivial⟩, by simp [intOf]; omega⟩
                · have H3 : Hid (valV 8 0 (l.take (i + 1)) = 4294967296) := Lib.hid (by rw [HT.out, HST.out]; omega)
                  go_wp2_with fail
                  refine (HX.out _).mono ?_
                  rintro e w' ⟨rfl, rfl⟩
                  go_wp2_with fail
                  exact ⟨⟨i + 1, by omega, by go_num, by rw [H3.out], by trivial⟩, by simp [intOf]; omega⟩
              · obtain rfl : i = l.length := by omega
                rw [List.take_length]
                go_wp2_with fail
                go_ret2
                exact ⟨tupUB H2.out.symm H1.out.symm, HB1.out⟩
        · have HBA : Hid (baseN l = 10) := Lib.hid (by unfold baseN; rw [if_neg (by rw [HP.out]; simp), if_neg (by omega)])
          have e2 : (byt l 0 == 48) = false := by rw [beq_eq_false_iff_ne]; exact h2
          clear h2
          have hBl : l.length ≤ 1000000 := by first | omega | (simp; omega)
          have HO := Lib.hid (only_any l 10 · hBl (by decide) (by decide))
          cases hob : onlyB 10 l with
          | false =>
            have H1 : Hid (numO l = false) := Lib.hid (by unfold numO; rw [HBA.out, HBO.out, hob, Bool.and_false])
            have H2 : Hid (numV l = 0) := Lib.hid (by unfold numV; rw [if_neg (by rw [H1.out]; simp)])
            rw [hob] at HO
            clear hob
            go_enter Tryd.func45, Tryd.ntmps45
            go_wp2_with fail
            refine (HR.out _).mono ?_
            rintro e w' ⟨rfl, rfl⟩
            go_wp2_with fail
            refine (HO.out _).mono ?_
            rintro e w' ⟨rfl, rfl⟩
            go_wp2_with fail
            go_ret2
            exact ⟨tupUB H2.out.symm H1.out.symm, Below.refl _ _⟩
          | true =>
            have H1 : Hid (numO l = true) := Lib.hid (by unfold numO; rw [HFR.out, HBA.out, HBO.out, hob]; rfl)
            have H2 : Hid (numV l = valV 10 0 l) := Lib.hid (by unfold numV; rw [if_pos H1.out, HBA.out, HBO.out])
            have HAT := Lib.hid (onlyB_at 10 l hob)
            have HBD := Lib.hid (valV_bd 10 (by decide) l (fun i hi => (HAT.out i hi).1))
            have HTK := Lib.hid (valV_take 10 l)
            rw [hob] at HO
            clear hob
            go_enter Tryd.func45, Tryd.ntmps45
            go_wp2_with fail
            refine (HR.out _).mono ?_
            rintro e w' ⟨rfl, rfl⟩
            go_wp2_with fail
            refine (HO.out _).mono ?_
            rintro e w' ⟨rfl, rfl⟩
            go_wp2_with (refine wpList_toBytes _ (by rfl) 9 44 _ rfl 5 Tryd.underlying9 Tryd.underlying44 Tryd.underlying5 l rfl (by omega) ?_)
            intro b cap w1 h8 hb1 hbe
            have HB1 := Lib.hid hb1
            obtain ⟨pa, pc, hpe, q1, q2, -, q3⟩ := h8
            injection hpe with e1 e2 e3
            subst e3
            unfold maxLen at q2
            have HC8 : Hid (0 < l.length → Cells w1 b 0 l.length (u8At l)) := Lib.hid (fun h => by
              obtain ⟨b2, o2, hh, hc⟩ := q3 h
              rw [← e1] at hh
              injection hh with hh
              injection hh with g1 g2
              subst g1; subst g2
              exact hc)
            clear hb1 hbe q3 e1 e2
            go_wp2_with fail
            go_loopw [7, 9, 34] (fun tv tc ti wr => ∃ i : Nat, i ≤ l.length ∧ ti = .int .i64 i ∧ tv = .int .u64 (valV 10 0 (l.take i)) ∧ wr = w1) (fun _ _ ti _ => l.length - (intOf ti).toNat)
            case atStart => exact ⟨0, by omega, rfl, rfl, rfl⟩
            case round =>
              obtain ⟨i, hi, rfl, rfl, rfl⟩ := hrel
              by_cases hlt : i < l.length
              · have hcell : wr.cell? ⟨b, 0 + i, none⟩ = some (.int .u8 (byt l i)) := (HC8.out (by omega)).at i hlt
                rw [Nat.zero_add] at hcell
                have b0 := byt_lo l i
                have b1 := byt_hi l i
                obtain ⟨v0, v1⟩ := HBD.out i (by omega)
                obtain ⟨x0, x1⟩ := HAT.out i hlt
                have HT := Lib.hid (HTK.out i hlt)
                have HX := Lib.hid (hex_any (byt l i) · b0 b1)
                obtain ⟨c, hc⟩ : ∃ c, byt l i = c := ⟨_, rfl⟩
                rw [hc] at hcell b0 b1 x0 x1 HT HX
                clear hc
                obtain ⟨v, hv⟩ : ∃ v, valV 10 0 (l.take i) = v := ⟨_, rfl⟩
                rw [hv] at v0 v1 HT
                rw [hv]
                clear hv
                have HST : Hid (stepV 10 v c = min (v * 10 + hexN c) 4294967296) := Lib.hid rfl
                obtain ⟨x, hx⟩ : ∃ x, hexN c = x := ⟨_, rfl⟩
                rw [hx] at x0 x1 HX HST
                clear hx
                by_cases hmn : v * 10 + x ≤ 4294967296
                · have H3 : Hid (valV 10 0 (l.take (i + 1)) = v * 10 + x) := Lib.hid (by rw [HT.out, HST.out]; omega)
                  go_wp2_with fail
                  refine (HX.out _).mono ?_
                  rintro e w' ⟨rfl, rfl⟩
                  go_wp2_with fail
                  exact ⟨⟨i + 1, by omega, by go_num, by rw [H3.out], by trivial⟩, by simp [intOf]; omega⟩
                · have H3 : Hid (valV 10 0 (l.take (i + 1)) = 4294967296) := Lib.hid (by rw [HT.out, HST.out]; omega)
                  go_wp2_with fail
                  refine (HX.out _).mono ?_
                  rintro e w' ⟨rfl, rfl⟩
                  go_wp2_with fail
                  exact ⟨⟨i + 1, by omega, by go_num, by rw [H3.out], by trivial⟩, by simp [intOf]; omega⟩
              · obtain rfl : i = l.length := by omega
                rw [List.take_length]
                go_wp2_with fail
                go_ret2
                exact ⟨tupUB H2.out.symm H1.out.symm, HB1.out⟩
      · have h1I : ¬ (1 : Int) < (l.length : Int) := by omega
        have HBA : Hid (baseN l = 10) := Lib.hid (by unfold baseN; rw [if_neg (by rw [HP.out]; simp), if_neg (by omega)])
        have hBl : l.length ≤ 1000000 := by first | omega | (simp; omega)
        have HO := Lib.hid (only_any l 10 · hBl (by decide) (by decide))
        cases hob : onlyB 10 l with
        | false =>
          have H1 : Hid (numO l = false) := Lib.hid (by unfold numO; rw [HBA.out, HBO.out, hob, Bool.and_false])
          have H2 : Hid (numV l = 0) := Lib.hid (by unfold numV; rw [if_neg (by rw [H1.out]; simp)])
          rw [hob] at HO
          clear hob
          go_enter Tryd.func45, Tryd.ntmps45
          go_wp2_with fail
          refine (HR.out _).mono ?_
          rintro e w' ⟨rfl, rfl⟩
          go_wp2_with fail
          refine (HO.out _).mono ?_
          rintro e w' ⟨rfl, rfl⟩
          go_wp2_with fail
          go_ret2
          exact ⟨tupUB H2.out.symm H1.out.symm, Below.refl _ _⟩
        | true =>
          have H1 : Hid (numO l = true) := Lib.hid (by unfold numO; rw [HFR.out, HBA.out, HBO.out, hob]; rfl)
          have H2 : Hid (numV l = valV 10 0 l) := Lib.hid (by unfold numV; rw [if_pos H1.out, HBA.out, HBO.out])
          have HAT := Lib.hid (onlyB_at 10 l hob)
          have HBD := Lib.hid (valV_bd 10 (by decide) l (fun i hi => (HAT.out i hi).1))
          have HTK := Lib.hid (valV_take 10 l)
          rw [hob] at HO
          clear hob
          go_enter Tryd.func45, Tryd.ntmps45
          go_wp2_with fail
          refine (HR.out _).mono ?_
          rintro e w' ⟨rfl, rfl⟩
          go_wp2_with fail
          refine (HO.out _).mono ?_
          rintro e w' ⟨rfl, rfl⟩
          go_wp2_with (refine wpList_toBytes _ (by rfl) 9 44 _ rfl 5 Tryd.underlying9 Tryd.underlying44 Tryd.underlying5 l rfl (by omega) ?_)
          intro b cap w1 h8 hb1 hbe
          have HB1 := Lib.hid hb1
          obtain ⟨pa, pc, hpe, q1, q2, -, q3⟩ := h8
          injection hpe with e1 e2 e3
          subst e3
          unfold maxLen at q2
          have HC8 : Hid (0 < l.length → Cells w1 b 0 l.length (u8At l)) := Lib.hid (fun h => by
            obtain ⟨b2, o2, hh, hc⟩ := q3 h
            rw [← e1] at hh
            injection hh with hh
            injection hh with g1 g2
            subst g1; subst g2
            exact hc)
          clear hb1 hbe q3 e1 e2
          go_wp2_with fail
          go_loopw [7, 9, 34] (fun tv tc ti wr => ∃ i : Nat, i ≤ l.length ∧ ti = .int .i64 i ∧ tv = .int .u64 (valV 10 0 (l.take i)) ∧ wr = w1) (fun _ _ ti _ => l.length - (intOf ti).toNat)
          case atStart => exact ⟨0, by omega, rfl, rfl, rfl⟩
          case round =>
            obtain ⟨i, hi, rfl, rfl, rfl⟩ := hrel
            by_cases hlt : i < l.length
            · have hcell : wr.cell? ⟨b, 0 + i, none⟩ = some (.int .u8 (byt l i)) := (HC8.out (by omega)).at i hlt
              rw [Nat.zero_add] at hcell
              have b0 := byt_lo l i
              have b1 := byt_hi l i
              obtain ⟨v0, v1⟩ := HBD.out i (by omega)
              obtain ⟨x0, x1⟩ := HAT.out i hlt
              have HT := Lib.hid (HTK.out i hlt)
              have HX := Lib.hid (hex_any (byt l i) · b0 b1)
              obtain ⟨c, hc⟩ : ∃ c, byt l i = c := ⟨_, rfl⟩
              rw [hc] at hcell b0 b1 x0 x1 HT HX
              clear hc
              obtain ⟨v, hv⟩ : ∃ v, valV 10 0 (l.take i) = v := ⟨_, rfl⟩
              rw [hv] at v0 v1 HT
              rw [hv]
              clear hv
              have HST : Hid (stepV 10 v c = min (v * 10 + hexN c) 4294967296) := Lib.hid rfl
              obtain ⟨x, hx⟩ : ∃ x, hexN c = x := ⟨_, rfl⟩
              rw [hx] at x0 x1 HX HST
              clear hx
              by_cases hmn : v * 10 + x ≤ 4294967296
              · have H3 : Hid (valV 10 0 (l.take (i + 1)) = v * 10 + x) := Lib.hid (by rw [HT.out, HST.out]; omega)
                go_wp2_with fail
                refine (HX.out _).mono ?_
                rintro e w' ⟨rfl, rfl⟩
                go_wp2_with fail
                exact ⟨⟨i + 1, by omega, by go_num, by rw [H3.out], by trivial⟩, by simp [intOf]; omega⟩
              · have H3 : Hid (valV 10 0 (l.take (i + 1)) = 4294967296) := Lib.hid (by rw [HT.out, HST.out]; omega)
                go_wp2_with fail
                refine (HX.out _).mono ?_
                rintro e w' ⟨rfl, rfl⟩
                go_wp2_with fail
                exact ⟨⟨i + 1, by omega, by go_num, by rw [H3.out], by trivial⟩, by simp [intOf]; omega⟩
            · obtain rfl : i = l.length := by omega
              rw [List.take_length]
              go_wp2_with fail
              go_ret2
              exact ⟨tupUB H2.out.symm H1.out.symm, HB1.out⟩
def plainL (l : List UInt8) : List UInt8 := encL (decL l)
theorem plainL_valid {l : List UInt8} (h : validL l = true) : plainL l = l := encL_decL _ l (Nat.le_refl _) h
theorem decL_r : ∀ (n : Nat) (l : List UInt8), l.length ≤ n → ∀ r ∈ decL l, 0 ≤ r ∧ r ≤ 1114111 := by
  intro n
  induction n with
  | zero => intro l h r hr; rw [decL_nil (by omega)] at hr; simp at hr
  | succ n ih =>
    intro l h r hr
    by_cases h0 : l.length = 0
    · rw [decL_nil h0] at hr; simp at hr
    · have hn := nextL_n l (by omega)
      rw [decL_cons (by omega)] at hr
      rcases List.mem_cons.1 hr with rfl | hr
      · exact nextL_r l
      · exact ih _ (by simp; omega) r hr
theorem decL_bd (l : List UInt8) (i : Nat) (hi : i < (decL l).length) : -2147483648 ≤ (decL l).getD i 0 ∧ (decL l).getD i 0 ≤ 2147483647 := by
  have := decL_r _ l (Nat.le_refl _) ((decL l)[i]) (List.getElem_mem _)
  rw [List.getD_eq_getElem?_getD, List.getElem?_eq_getElem hi]
  show _ ≤ (decL l)[i] ∧ (decL l)[i] ≤ _
  omega
set_option maxHeartbeats 1000000 in
theorem plain_any (l : List UInt8) (w : World) (hm : l.length ≤ 1000000) :
    Calls Tryd.prog 26 #[.string ⟨l.toArray⟩] w fun e w' => e = .returned (.string ⟨(plainL l).toArray⟩) ∧ Below w.heap.size w w' := by
  cases hv : validL l with
  | true =>
    have HP := Lib.hid (plainL_valid hv)
    have HV := Lib.hid hv
    clear hv
    go_enter Tryd.func26, Tryd.ntmps26
    go_wp2_with (refine wpList_toBytes _ (by rfl) 9 44 _ rfl 5 Tryd.underlying9 Tryd.underlying44 Tryd.underlying5 l rfl (by omega) ?_)
    intro b cap w1 h8 hb1 hbe
    have H8 := Lib.hid h8
    have HB1 := Lib.hid hb1
    clear h8 hb1 hbe
    go_wp2_with fail
    refine (valid_any _ l _ H8.out hm).mono ?_
    rintro e w2 ⟨rfl, k, rfl⟩
    rw [HV.out]
    go_wp2_with fail
    go_ret
    exact ⟨by rw [HP.out]; rfl, ext_trans HB1.out (ext_drew _ _)⟩
  | false =>
    have HV := Lib.hid hv
    have hd := decL_len _ l (Nat.le_refl _)
    clear hv
    go_enter Tryd.func26, Tryd.ntmps26
    go_wp2_with (refine wpList_toBytes _ (by rfl) 9 44 _ rfl 5 Tryd.underlying9 Tryd.underlying44 Tryd.underlying5 l rfl (by omega) ?_)
    intro b cap w1 h8 hb1 hbe
    have H8 := Lib.hid h8
    have HB1 := Lib.hid hb1
    clear h8 hb1 hbe
    go_wp2_with fail
    refine (valid_any _ l _ H8.out hm).mono ?_
    rintro e w2 ⟨rfl, k, rfl⟩
    rw [HV.out]
    go_wp2_with (refine wpList_toBytes _ (by rfl) 9 44 _ rfl 5 Tryd.underlying9 Tryd.underlying44 Tryd.underlying5 l rfl (by omega) ?_)
    intro b2 cap2 w3 h83 hb3 hbe3
    have H83 := Lib.hid h83
    have HB3 := Lib.hid hb3
    clear h83 hb3 hbe3
    go_wp2_with fail
    refine (decode_any _ l _ H83.out hm).mono ?_
    rintro e w4 ⟨v4, rfl, hown4, hb4⟩
    have HO4 := Lib.hid hown4
    have HB4 := Lib.hid hb4
    clear hown4 hb4
    go_wp2_with fail
    refine (encode_any _ (decL l) _ HO4.out.is32 (by omega) (decL_bd l)).mono ?_
    rintro e w5 ⟨v5, rfl, hown5, hb5⟩
    have H85 := Lib.hid hown5.is8
    have HB5 := Lib.hid hb5
    clear hown5 hb5
    go_wp2_with (refine wpList_toStr _ (by rfl) 44 9 _ rfl 5 Tryd.underlying44 Tryd.underlying5 Tryd.underlying9 _ rfl (encL (decL l)) H85.out ?_)
    go_ret
    exact ⟨rfl, ext_trans (ext_trans HB1.out (ext_drew _ k)) (ext_trans HB3.out (ext_trans HB4.out HB5.out))⟩
end Go.Proofs.YtaphadmcjimmeaaDoor
