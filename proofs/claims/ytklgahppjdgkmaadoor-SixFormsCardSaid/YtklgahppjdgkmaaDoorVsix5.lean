/- SixForms: what holds at each piece. -/
import Derived.Test.YtklgahppjdgkmaaDoorVsix4
set_option linter.unusedVariables false
set_option linter.unusedSimpArgs false
set_option maxRecDepth 100000
namespace Go.Proofs.YtklgahppjdgkmaaDoor
open Go Go.Proofs Go.RowKit Go.Vc
def bodyF (k : PV → Prop) (J1 J2 J3 : Prop) (q : List Int) (shp : List PV) (four : Bool) (F M : Int) (t : Bs) (i : Int) : Prop :=
  (decide (i < (8 : Int)) = true → ((bif decide (i = F) then decide ((0 : Int) < M) else false) = true → List.length t + (ByteArray.mk #[(58 : UInt8), (58 : UInt8)]).data.toList.length ≤ Go.Vc.maxLen ∧ inI64 (i + M) ∧ inI64 (i + M - (1 : Int)) ∧ inI64 (i + M - (1 : Int) + (1 : Int)) ∧ J1) ∧ ((bif decide (i = F) then decide ((0 : Int) < M) else false) = false → ((!decide (t = (ByteArray.mk #[]).data.toList)) = true → inI64 (lenZ t - (1 : Int))) ∧ ((!decide (t = (ByteArray.mk #[]).data.toList)) = true → within (lenZ t - (1 : Int)) (lenZ t)) ∧ ((bif !decide (t = (ByteArray.mk #[]).data.toList) then !decide (byteZ t (lenZ t - (1 : Int)) = (58 : Int)) else false) = true → List.length t + (ByteArray.mk #[(58 : UInt8)]).data.toList.length ≤ Go.Vc.maxLen ∧ ((bif four then decide (i = (6 : Int)) else false) = true → within (6 : Int) ↑(8 : Nat) ∧ within (6 : Int) ↑(8 : Nat) ∧ (0 : Int) ≤ (16 : Int) ∧ within (7 : Int) ↑(8 : Nat) ∧ within (7 : Int) ↑(8 : Nat) ∧ ((0 : Int) ≤ bitsZ Go.BinOp.or Go.IntKind.u32 (shlZ Go.IntKind.u32 (Go.IntKind.u32.wrap (intZ q (6 : Int))) (16 : Int)) (Go.IntKind.u32.wrap (intZ q (7 : Int))) ∧ bitsZ Go.BinOp.or Go.IntKind.u32 (shlZ Go.IntKind.u32 (Go.IntKind.u32.wrap (intZ q (6 : Int))) (16 : Int)) (Go.IntKind.u32.wrap (intZ q (7 : Int))) < (4294967296 : Int)) ∧ List.length (t ++ (ByteArray.mk #[(58 : UInt8)]).data.toList) + (showL (bitsZ Go.BinOp.or Go.IntKind.u32 (shlZ Go.IntKind.u32 (Go.IntKind.u32.wrap (intZ q (6 : Int))) (16 : Int)) (Go.IntKind.u32.wrap (intZ q (7 : Int)))).toNat).length ≤ Go.Vc.maxLen ∧ (List.length (t ++ (ByteArray.mk #[(58 : UInt8)]).data.toList ++ showL (bitsZ Go.BinOp.or Go.IntKind.u32 (shlZ Go.IntKind.u32 (Go.IntKind.u32.wrap (intZ q (6 : Int))) (16 : Int)) (Go.IntKind.u32.wrap (intZ q (7 : Int)))).toNat)).le (1000000 : Nat) ∧ ((bif (six (t ++ (ByteArray.mk #[(58 : UInt8)]).data.toList ++ showL (bitsZ Go.BinOp.or Go.IntKind.u32 (shlZ Go.IntKind.u32 (Go.IntKind.u32.wrap (intZ q (6 : Int))) (16 : Int)) (Go.IntKind.u32.wrap (intZ q (7 : Int)))).toNat)).snd then decide ((six (t ++ (ByteArray.mk #[(58 : UInt8)]).data.toList ++ showL (bitsZ Go.BinOp.or Go.IntKind.u32 (shlZ Go.IntKind.u32 (Go.IntKind.u32.wrap (intZ q (6 : Int))) (16 : Int)) (Go.IntKind.u32.wrap (intZ q (7 : Int)))).toNat)).fst = q) else false) = true → True) ∧ k (PV.bool (bif bif (six (t ++ (ByteArray.mk #[(58 : UInt8)]).data.toList ++ showL (bitsZ Go.BinOp.or Go.IntKind.u32 (shlZ Go.IntKind.u32 (Go.IntKind.u32.wrap (intZ q (6 : Int))) (16 : Int)) (Go.IntKind.u32.wrap (intZ q (7 : Int)))).toNat)).snd then decide ((six (t ++ (ByteArray.mk #[(58 : UInt8)]).data.toList ++ showL (bitsZ Go.BinOp.or Go.IntKind.u32 (shlZ Go.IntKind.u32 (Go.IntKind.u32.wrap (intZ q (6 : Int))) (16 : Int)) (Go.IntKind.u32.wrap (intZ q (7 : Int)))).toNat)).fst = q) else false then true else false))) ∧ ((bif four then decide (i = (6 : Int)) else false) = false → within i ↑(8 : Nat) ∧ within i ↑(8 : Nat) ∧ (decide (i < lenZ shp) = true → within i (lenZ shp)) ∧ (decide (i < lenZ shp) = true → partV Tryd.prog (4 : Nat) (pvZ shp i) (0 : Nat) = PV.bool (partV Tryd.prog (4 : Nat) (pvZ shp i) (0 : Nat)).asBool) ∧ ((0 : Int) ≤ intZ q i ∧ intZ q i ≤ (65535 : Int)) ∧ List.length (t ++ (ByteArray.mk #[(58 : UInt8)]).data.toList) + List.length (hexS (intZ q i) (bif decide (i < lenZ shp) then (partV Tryd.prog (4 : Nat) (pvZ shp i) (0 : Nat)).asBool else false)) ≤ Go.Vc.maxLen ∧ inI64 (i + (1 : Int)) ∧ J2)) ∧ ((bif !decide (t = (ByteArray.mk #[]).data.toList) then !decide (byteZ t (lenZ t - (1 : Int)) = (58 : Int)) else false) = false → ((bif four then decide (i = (6 : Int)) else false) = true → within (6 : Int) ↑(8 : Nat) ∧ within (6 : Int) ↑(8 : Nat) ∧ (0 : Int) ≤ (16 : Int) ∧ within (7 : Int) ↑(8 : Nat) ∧ within (7 : Int) ↑(8 : Nat) ∧ ((0 : Int) ≤ bitsZ Go.BinOp.or Go.IntKind.u32 (shlZ Go.IntKind.u32 (Go.IntKind.u32.wrap (intZ q (6 : Int))) (16 : Int)) (Go.IntKind.u32.wrap (intZ q (7 : Int))) ∧ bitsZ Go.BinOp.or Go.IntKind.u32 (shlZ Go.IntKind.u32 (Go.IntKind.u32.wrap (intZ q (6 : Int))) (16 : Int)) (Go.IntKind.u32.wrap (intZ q (7 : Int))) < (4294967296 : Int)) ∧ List.length t + (showL (bitsZ Go.BinOp.or Go.IntKind.u32 (shlZ Go.IntKind.u32 (Go.IntKind.u32.wrap (intZ q (6 : Int))) (16 : Int)) (Go.IntKind.u32.wrap (intZ q (7 : Int)))).toNat).length ≤ Go.Vc.maxLen ∧ (List.length (t ++ showL (bitsZ Go.BinOp.or Go.IntKind.u32 (shlZ Go.IntKind.u32 (Go.IntKind.u32.wrap (intZ q (6 : Int))) (16 : Int)) (Go.IntKind.u32.wrap (intZ q (7 : Int)))).toNat)).le (1000000 : Nat) ∧ ((bif (six (t ++ showL (bitsZ Go.BinOp.or Go.IntKind.u32 (shlZ Go.IntKind.u32 (Go.IntKind.u32.wrap (intZ q (6 : Int))) (16 : Int)) (Go.IntKind.u32.wrap (intZ q (7 : Int)))).toNat)).snd then decide ((six (t ++ showL (bitsZ Go.BinOp.or Go.IntKind.u32 (shlZ Go.IntKind.u32 (Go.IntKind.u32.wrap (intZ q (6 : Int))) (16 : Int)) (Go.IntKind.u32.wrap (intZ q (7 : Int)))).toNat)).fst = q) else false) = true → True) ∧ k (PV.bool (bif bif (six (t ++ showL (bitsZ Go.BinOp.or Go.IntKind.u32 (shlZ Go.IntKind.u32 (Go.IntKind.u32.wrap (intZ q (6 : Int))) (16 : Int)) (Go.IntKind.u32.wrap (intZ q (7 : Int)))).toNat)).snd then decide ((six (t ++ showL (bitsZ Go.BinOp.or Go.IntKind.u32 (shlZ Go.IntKind.u32 (Go.IntKind.u32.wrap (intZ q (6 : Int))) (16 : Int)) (Go.IntKind.u32.wrap (intZ q (7 : Int)))).toNat)).fst = q) else false then true else false))) ∧ ((bif four then decide (i = (6 : Int)) else false) = false → within i ↑(8 : Nat) ∧ within i ↑(8 : Nat) ∧ (decide (i < lenZ shp) = true → within i (lenZ shp)) ∧ (decide (i < lenZ shp) = true → partV Tryd.prog (4 : Nat) (pvZ shp i) (0 : Nat) = PV.bool (partV Tryd.prog (4 : Nat) (pvZ shp i) (0 : Nat)).asBool) ∧ ((0 : Int) ≤ intZ q i ∧ intZ q i ≤ (65535 : Int)) ∧ List.length t + List.length (hexS (intZ q i) (bif decide (i < lenZ shp) then (partV Tryd.prog (4 : Nat) (pvZ shp i) (0 : Nat)).asBool else false)) ≤ Go.Vc.maxLen ∧ inI64 (i + (1 : Int)) ∧ J3)))) ∧ (decide (i < (8 : Int)) = false → (List.length t).le (1000000 : Nat) ∧ ((bif (six t).snd then decide ((six t).fst = q) else false) = true → True) ∧ k (PV.bool (bif bif (six t).snd then decide ((six t).fst = q) else false then true else false)))
def orV (q : List Int) : Int := bitsZ Go.BinOp.or Go.IntKind.u32 (shlZ Go.IntKind.u32 (Go.IntKind.u32.wrap (intZ q (6 : Int))) (16 : Int)) (Go.IntKind.u32.wrap (intZ q (7 : Int)))
theorem or_nat (a b : Nat) (ha : a < 65536) (hb : b < 65536) : bitsZ Go.BinOp.or Go.IntKind.u32 (shlZ Go.IntKind.u32 (Go.IntKind.u32.wrap (a : Int)) 16) (Go.IntKind.u32.wrap (b : Int)) = ((a * 65536 + b : Nat) : Int) := by
  have w : ∀ x : Int, 0 ≤ x → x < 4294967296 → Go.IntKind.u32.wrap x = x := fun x h0 h1 => wraps_u32b x h0 (by rw [show (2 : Int) ^ 32 = 4294967296 by decide]; exact h1)
  rw [w (b : Int) (by omega) (by omega), w (a : Int) (by omega) (by omega)]
  have e1 : shlZ Go.IntKind.u32 (a : Int) 16 = ((a * 65536 : Nat) : Int) := by
    unfold shlZ
    rw [show (2 : Int) ^ min (Int.toNat 16) IntKind.u32.bits = 65536 by decide, w _ (by omega) (by omega)]
    omega
  rw [e1, show bitsZ BinOp.or IntKind.u32 ((a * 65536 : Nat) : Int) (b : Int) = IntKind.u32.wrap ((BitVec.ofInt 32 ((a * 65536 : Nat) : Int) ||| BitVec.ofInt 32 (b : Int)).toNat : Int) from rfl, BitVec.ofInt_natCast, BitVec.ofInt_natCast, BitVec.toNat_or, BitVec.toNat_ofNat, BitVec.toNat_ofNat, Nat.mod_eq_of_lt (by omega), Nat.mod_eq_of_lt (by omega)]
  have e2 : a * 65536 ||| b = a * 65536 + b := by
    have := Nat.shiftLeft_add_eq_or_of_lt (i := 16) (b := b) (by omega) a
    rw [Nat.shiftLeft_eq] at this
    exact this.symm
  rw [e2]
  exact w _ (by omega) (by omega)
theorem part_bool (b : Bool) : partV Tryd.prog (4 : Nat) (.bool b) (0 : Nat) = .bool b := by cases b <;> kernel_rfl
theorem sh_at (sh : List Bool) (n : Nat) : (bif decide ((n : Int) < lenZ (sh.map fun b => PV.bool b)) then (partV Tryd.prog (4 : Nat) (pvZ (sh.map fun b => PV.bool b) (n : Int)) (0 : Nat)).asBool else false) = sh.getD n false := by
  have hl : lenZ (sh.map fun b => PV.bool b) = (sh.length : Int) := by unfold lenZ; rw [List.length_map]
  rw [hl]
  by_cases h : n < sh.length
  · have e : pvZ (sh.map fun b => PV.bool b) (n : Int) = .bool (sh.getD n false) := by
      unfold pvZ
      rw [Int.toNat_natCast, List.getD_eq_getElem?_getD, List.getD_eq_getElem?_getD, List.getElem?_map, List.getElem?_eq_getElem h]; rfl
    rw [e, part_bool, decide_eq_true (by omega)]; rfl
  · rw [decide_eq_false (by omega), List.getD_eq_getElem?_getD, List.getElem?_eq_none (by omega)]; rfl
theorem bodyF_ok (k : PV → Prop) (J1 J2 J3 : Prop) {q : List Int} (sh : List Bool) (four : Bool) (f m n : Nat) (hq8 : q.length = 8) (hqb : ∀ x ∈ q, 0 ≤ x ∧ x ≤ 65535) (hz : q = q.take f ++ List.replicate m 0 ++ q.drop (f + m)) (hm : four = false → 0 < m) (hf7 : f ≤ 7) (hfm : f + m ≤ 8) (hfm6 : four = true → m = 0 ∨ f + m ≤ 6)
    (hn8 : n ≤ 8) (hn6 : four = true → n ≤ 6) (h1 : n ≤ f ∨ f + m ≤ n) (hk : k (.bool true))
    (H1 : n = f → 0 < m → textN q sh f m n ++ [58, 58] = textN q sh f m (f + m) → J1)
    (H2 : n < 8 → (four = true → n ≠ 6) → ¬ (n = f ∧ 0 < m) → textN q sh f m n ++ [58] ++ hx q sh n = textN q sh f m (n + 1) → J2)
    (H3 : n < 8 → (four = true → n ≠ 6) → ¬ (n = f ∧ 0 < m) → textN q sh f m n ++ hx q sh n = textN q sh f m (n + 1) → J3) :
    bodyF k J1 J2 J3 q (sh.map fun b => PV.bool b) four f m (textN q sh f m n) n := by
  unfold bodyF
  have hlen := text_len (sh := sh) hq8 hqb f m n (by omega) hn8
  have hml : Go.Vc.maxLen = 1099511627776 := rfl
  have q6 := qb hq8 hqb 6
  have q7 := qb hq8 hqb 7
  obtain ⟨a, ha⟩ := Int.eq_ofNat_of_zero_le q6.1
  obtain ⟨b, hb⟩ := Int.eq_ofNat_of_zero_le q7.1
  have hv : bitsZ Go.BinOp.or Go.IntKind.u32 (shlZ Go.IntKind.u32 (Go.IntKind.u32.wrap (intZ q (6 : Int))) (16 : Int)) (Go.IntKind.u32.wrap (intZ q (7 : Int))) = ((a * 65536 + b : Nat) : Int) := by
    rw [show intZ q 6 = (a : Int) from ha, show intZ q 7 = (b : Int) from hb]
    exact or_nat a b (by omega) (by omega)
  have hv32 : a * 65536 + b < 4294967296 := by omega
  have hsl := showK_len (a * 65536 + b) 4 hv32
  rw [show showK (a * 65536 + b) 4 = showL (a * 65536 + b) from rfl] at hsl
  have hh := sh_at sh n
  have hpn := hx_piece hq8 hqb (sh := sh) n
  have hhx : hexS (intZ q (n : Int)) (sh.getD n false) = hx q sh n := by unfold hx intZ; rw [Int.toNat_natCast]
  have hphi := hpn.hi
  have qn := qb hq8 hqb n
  have hin : intZ q (n : Int) = q.getD n 0 := by unfold intZ; rw [Int.toNat_natCast]
  have need : ∀ x : Bool, decide ((n : Int) < lenZ (sh.map fun b => PV.bool b)) = true → partV Tryd.prog (4 : Nat) (pvZ (sh.map fun b => PV.bool b) (n : Int)) (0 : Nat) = PV.bool (partV Tryd.prog (4 : Nat) (pvZ (sh.map fun b => PV.bool b) (n : Int)) (0 : Nat)).asBool := fun _ h => by
    have h2 : (n : Int) < ((sh.map fun b => PV.bool b).length : Int) := of_decide_eq_true h
    rw [List.length_map] at h2
    have e : pvZ (sh.map fun b => PV.bool b) (n : Int) = .bool (sh.getD n false) := by
      unfold pvZ
      rw [Int.toNat_natCast, List.getD_eq_getElem?_getD, List.getD_eq_getElem?_getD, List.getElem?_map, List.getElem?_eq_getElem (by omega)]; rfl
    rw [e, part_bool]; rfl
  have leaf : ∀ t : Bs, six t = (q, true) → (((bif (six t).2 then decide ((six t).1 = q) else false) = true → True) ∧ k (PV.bool (bif bif (six t).2 then decide ((six t).1 = q) else false then true else false))) := fun t h => ⟨fun _ => trivial, by
    rw [h]
    rw [show (bif bif (q, true).2 then decide ((q, true).1 = q) else false then true else false) = true by simp]
    exact hk⟩
  rw [hh, hhx, hv, Int.toNat_natCast, hin]
  refine ⟨fun h8 => ⟨fun hg => ?_, fun hg => ?_⟩, fun h8 => ?_⟩
  · simp only [andB6, Bool.and_eq_true, decide_eq_true_eq] at hg
    refine ⟨?_, ⟨by omega, by omega⟩, ⟨by omega, by omega⟩, ⟨by omega, by omega⟩, H1 (by omega) (by omega) ?_⟩
    · show _ + 2 ≤ _; omega
    · rw [show n = f by omega]; exact text_gap q sh f m (by omega)
  · have h8' : n < 8 := by have := of_decide_eq_true h8; omega
    have hg' : ¬ (n = f ∧ 0 < m) := by
      simp only [andB6, falB6, Bool.and_eq_true, decide_eq_true_eq] at hg
      omega
    have hon := text_on (sh := sh) hq8 hqb f m n h1 hg'
    have hcond : ∀ t : Bs, (bif !decide (t = ([] : Bs)) then !decide (byteZ t (lenZ t - (1 : Int)) = (58 : Int)) else false) = true ↔ (t ≠ [] ∧ lastZ t ≠ 58) := fun t => by
      unfold lastZ
      rw [andB6, Bool.and_eq_true, notB6, notB6, decide_eq_true_eq, decide_eq_true_eq]
    have hfour : (bif four then decide ((n : Int) = (6 : Int)) else false) = true ↔ (four = true ∧ n = 6) := by
      rw [andB6, Bool.and_eq_true, decide_eq_true_eq]
      constructor <;> intro ⟨x, y⟩ <;> exact ⟨x, by omega⟩
    have hd := fun h6 : four = true => dots_read (sh := sh) hq8 hqb f m (a * 65536 + b) (hfm6 h6) hz hv32 (by rw [ha]; congr 1; omega) (by rw [hb]; congr 1; omega)
    have w68 : within (6 : Int) ((8 : Nat) : Int) := ⟨by omega, by omega⟩
    have w78 : within (7 : Int) ((8 : Nat) : Int) := ⟨by omega, by omega⟩
    have wn8 : within (n : Int) ((8 : Nat) : Int) := ⟨by omega, by omega⟩
    have v32 : (0 : Int) ≤ ((a * 65536 + b : Nat) : Int) ∧ ((a * 65536 + b : Nat) : Int) < 4294967296 := ⟨by omega, by omega⟩
    have hi1 : inI64 ((n : Int) + 1) := ⟨by omega, by omega⟩
    generalize hgt : textN q sh f m n = t at *
    refine ⟨fun hne => ?_, fun hne => ?_, fun hc => ?_, fun hc => ?_⟩
    · unfold lenZ; exact ⟨by omega, by omega⟩
    · have : t ≠ [] := by
        rw [notB6, decide_eq_true_eq] at hne
        exact hne
      have := List.length_pos_iff.2 this
      unfold lenZ; exact ⟨by omega, by omega⟩
    · have hc2 := (hcond t).1 hc
      rcases hon with ⟨h3, -, -⟩ | ⟨-, hcase, hst⟩
      · rcases h3 with h3 | h3
        · exact absurd h3 hc2.1
        · exact absurd h3 hc2.2
      · refine ⟨by show _ + 1 ≤ _; omega, fun h6 => ?_, fun h6 => ?_⟩
        · obtain ⟨g4, rfl⟩ := hfour.1 h6
          have hr := (hd g4).2 (by have := hfm6 g4; omega)
          rw [hgt] at hr
          refine ⟨w68, w68, by omega, w78, w78, v32, ?_, ?_, leaf _ hr⟩
          · rw [List.length_append]; show t.length + 1 + _ ≤ _; omega
          · show (t ++ [58] ++ showL (a * 65536 + b)).length ≤ 1000000
            rw [List.length_append, List.length_append]; show t.length + 1 + _ ≤ _; omega
        · refine ⟨wn8, wn8, fun h => ⟨by omega, of_decide_eq_true h⟩, need true, qn, ?_, hi1, H2 h8' (fun g4 h => by have h9 := hfour.2 ⟨g4, h⟩; rw [h9] at h6; cases h6) hg' hst.symm⟩
          rw [List.length_append]; show t.length + 1 + _ ≤ _; omega
    · have hc2 : ¬ (t ≠ [] ∧ lastZ t ≠ 58) := fun h => by
        rw [(hcond t).2 h] at hc; cases hc
      rcases hon with ⟨-, hcase, hst⟩ | ⟨h3, -, -⟩
      · refine ⟨fun h6 => ?_, fun h6 => ?_⟩
        · obtain ⟨g4, rfl⟩ := hfour.1 h6
          have hr := (hd g4).1 (by omega) (by omega)
          rw [hgt] at hr
          refine ⟨w68, w68, by omega, w78, w78, v32, by omega, ?_, leaf _ hr⟩
          show (t ++ showL (a * 65536 + b)).length ≤ 1000000
          rw [List.length_append]; omega
        · exact ⟨wn8, wn8, fun h => ⟨by omega, of_decide_eq_true h⟩, need true, qn, by omega, hi1, H3 h8' (fun g4 h => by have h9 := hfour.2 ⟨g4, h⟩; rw [h9] at h6; cases h6) hg' hst.symm⟩
      · exact absurd h3 hc2
  · have hn : n = 8 := by have := of_decide_eq_false h8; omega
    have h4 : four = false := by
      cases hf : four with
      | false => rfl
      | true => have := hn6 hf; omega
    subst hn
    exact ⟨by show _ ≤ 1000000; omega, leaf _ (text_reads hq8 hqb f m (hm h4) hfm hz)⟩
end Go.Proofs.YtklgahppjdgkmaaDoor
