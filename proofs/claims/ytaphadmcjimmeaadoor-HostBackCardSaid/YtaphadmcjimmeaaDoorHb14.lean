import Derived.Lib.EndianBits
import Derived.Lib.IndexLaws
import Derived.Test.YtaphadmcjimmeaaDoorHb11
import Derived.Test.YtaphadmcjimmeaaDoorHb13
set_option linter.unusedVariables false
set_option linter.unusedSimpArgs false
namespace Go.Proofs.YtaphadmcjimmeaaDoor
open Go.RowKit
def parseL : List (List UInt8) → Nat → Int → Int × Bool
  | [], _, _ => (0, false)
  | p :: ps, left, sum =>
    if numO p = false then (0, false)
    else if ps.isEmpty = true then (if 2 ^ (8 * left) ≤ numV p then (0, false) else (sum * 2 ^ (8 * left) + numV p, true))
    else if left = 1 ∨ 255 < numV p then (0, false) else parseL ps (left - 1) (sum * 256 + numV p)
theorem parse_bad {p : List UInt8} {ps : List (List UInt8)} {left : Nat} {sum : Int} (h : numO p = false) : parseL (p :: ps) left sum = (0, false) := by
  unfold parseL; rw [if_pos h]
theorem parse_end {p : List UInt8} {left : Nat} {sum : Int} (h : numO p = true) : parseL [p] left sum = if 2 ^ (8 * left) ≤ numV p then (0, false) else (sum * 2 ^ (8 * left) + numV p, true) := by
  unfold parseL; rw [if_neg (by rw [h]; simp)]; rfl
theorem parse_on {p : List UInt8} {ps : List (List UInt8)} {left : Nat} {sum : Int} (h : numO p = true) (hps : ps ≠ []) : parseL (p :: ps) left sum = if left = 1 ∨ 255 < numV p then (0, false) else parseL ps (left - 1) (sum * 256 + numV p) := by
  conv => lhs; unfold parseL
  rw [if_neg (by rw [h]; simp), if_neg (by rw [List.isEmpty_iff]; exact hps)]
theorem byt_opt {l : List UInt8} {q : Nat} (hq : q < l.length) (h : byt l q = 46) : l[q]? = some 46 := by
  rw [List.getElem?_eq_getElem hq]
  congr 1
  have e : byt l q = ((l[q]).toNat : Int) := by unfold byt; simp [List.getD, hq]
  apply UInt8.toNat_inj.1
  show (l[q]).toNat = 46
  omega
theorem cut_split (l : List UInt8) : (cutO l 46 = true ∧ splitB 46 l = cutA l 46 :: splitB 46 (cutB l 46)) ∨ (cutO l 46 = false ∧ splitB 46 l = [cutA l 46]) := by
  by_cases h : 0 ≤ Lib.indexByte l 46
  · left
    obtain ⟨o, ho⟩ := Int.eq_ofNat_of_zero_le h
    obtain ⟨h1, h2⟩ := Lib.indexByte_some ho
    obtain ⟨h3, h4⟩ := List.getElem?_eq_some_iff.1 h1
    refine ⟨decide_eq_true h, ?_⟩
    unfold cutA cutB
    rw [if_pos h, if_pos h, ho]
    show _ = l.take o :: splitB 46 (l.drop (o + 1))
    refine splitB_hit 46 o l h3 (fun q hq hb => h2 q hq (byt_opt (by omega) hb)) ?_
    unfold byt
    simp [List.getD, h3, h4]
  · right
    have hn : Lib.indexByte l 46 = -1 := by have := Lib.indexByte_ge l 46; omega
    refine ⟨decide_eq_false h, ?_⟩
    unfold cutA
    rw [if_neg h]
    exact splitB_end 46 l (fun q hq hb => Lib.indexByte_none hn q (byt_opt hq hb))
theorem numV_bd (l : List UInt8) : 0 ≤ numV l ∧ numV l ≤ 4294967296 := by
  unfold numV
  split
  · rename_i h
    have h2 : onlyB (baseN l) (bodyL l) = true := by
      unfold numO at h; rw [Bool.and_eq_true] at h; exact h.2
    have hb : 0 ≤ baseN l := by unfold baseN; (repeat' split) <;> decide
    have := valV_bd (baseN l) hb (bodyL l) (fun i hi => (onlyB_at _ _ h2 i hi).1) (bodyL l).length (Nat.le_refl _)
    rwa [List.take_length] at this
  · decide
theorem cut_len (l : List UInt8) : (cutA l 46).length ≤ l.length ∧ (cutB l 46).length ≤ l.length := by
  unfold cutA cutB
  constructor <;> split <;> first | (simp; done) | (simp; omega)
theorem u64_or (i : Nat) (x y : Int) (hx0 : 0 ≤ x) (hx : x % 2 ^ i = 0) (hx1 : x < 18446744073709551616) (hy : 0 ≤ y) (h : y < 2 ^ i) (hy1 : y < 18446744073709551616) : bits .or .u64 x y = x + y :=
  bits_join .u64 64 (by decide) wraps_u64 i x y hx0 hx hx1 hy h hy1
theorem tupUB32 {a : Int} {c : Bool} {d : Int × Bool} (h : d = (a, c)) : Ending.returned (.tuple #[.int .u32 a, .bool c]) = .returned (.tuple #[.int .u32 d.1, .bool d.2]) := by rw [h]
set_option maxRecDepth 100000 in
set_option maxHeartbeats 4000000 in
theorem Parse_any (l : List UInt8) (w : World) (hm : l.length ≤ 1000000) :
    Calls Tryd.prog 24 #[.string ⟨l.toArray⟩] w fun e w' => e = .returned (.tuple #[.int .u32 (parseL (splitB 46 (trimL l)) 4 0).1, .bool (parseL (splitB 46 (trimL l)) 4 0).2]) ∧ Below w.heap.size w w' := by
  have htl : (trimL l).length ≤ l.length := by unfold trimL; split <;> simp
  have HT := Lib.hid (trim_any l · hm)
  obtain ⟨s, hs⟩ : ∃ s, trimL l = s := ⟨_, rfl⟩
  rw [hs] at HT htl
  rw [hs]
  clear hs
  go_enter Tryd.func24, Tryd.ntmps24
  go_wp2_with fail
  refine (HT.out _).mono ?_
  rintro e w' ⟨rfl, rfl⟩
  go_wp2_with fail
  go_loopw [0, 4, 5, 6, 7, 8, 9, 10] (fun t0 t4 t5 t6 t7 t8 t9 t10 wr => ∃ (t : List UInt8) (left : Nat) (sum : Int), 1 ≤ left ∧ left ≤ 4 ∧ t.length ≤ 1000000 ∧ t0 = .string ⟨t.toArray⟩ ∧ t4 = .int .i64 left ∧ t5 = .int .u64 sum ∧ 0 ≤ sum ∧ ((left = 4 ∧ sum < 1) ∨ (left = 3 ∧ sum < 256) ∨ (left = 2 ∧ sum < 65536) ∨ (left = 1 ∧ sum < 16777216)) ∧ Hid (parseL (splitB 46 s) 4 0 = parseL (splitB 46 t) left sum) ∧ Below w.heap.size w wr) (fun _ t4 _ _ _ _ _ _ _ => (intOf t4).toNat)
  case atStart => exact ⟨s, 4, 0, by decide, by decide, by omega, rfl, rfl, rfl, by decide, .inl ⟨rfl, by decide⟩, Lib.hid rfl, Below.refl _ _⟩
  case round =>
    obtain ⟨t, left, sum, hl1, hl4, htl', rfl, rfl, rfl, hs0, hs1, HP, hbel⟩ := hrel
    have HB := Lib.hid hbel
    have CS := cut_split t
    obtain ⟨ca, cb⟩ := cut_len t
    have CC := Lib.hid (cut_any t 46 · htl')
    have CN := Lib.hid (number_any (cutA t 46) · (by omega))
    obtain ⟨n0, n1⟩ := numV_bd (cutA t 46)
    have hne := splitB_ne 46 (cutB t 46)
    have PB : Hid (∀ ps sum left, numO (cutA t 46) = false → parseL (cutA t 46 :: ps) left sum = (0, false)) := Lib.hid (fun ps sum left h => parse_bad h)
    have PE : Hid (∀ sum left, numO (cutA t 46) = true → parseL [cutA t 46] left sum = if 2 ^ (8 * left) ≤ numV (cutA t 46) then (0, false) else (sum * 2 ^ (8 * left) + numV (cutA t 46), true)) := Lib.hid (fun sum left h => parse_end h)
    have PO : Hid (∀ sum left, numO (cutA t 46) = true → parseL (cutA t 46 :: splitB 46 (cutB t 46)) left sum = if left = 1 ∨ 255 < numV (cutA t 46) then (0, false) else parseL (splitB 46 (cutB t 46)) (left - 1) (sum * 256 + numV (cutA t 46))) := Lib.hid (fun sum left h => parse_on h hne)
    obtain ⟨A, hA⟩ : ∃ A, cutA t 46 = A := ⟨_, rfl⟩
    obtain ⟨B, hB⟩ : ∃ B, cutB t 46 = B := ⟨_, rfl⟩
    obtain ⟨n, hn⟩ : ∃ n, numV A = n := ⟨_, rfl⟩
    rw [hA, hB] at CS CC
    rw [hA] at ca CN n0 n1 PB PE PO
    rw [hB] at cb PO
    rw [hn] at CN n0 n1 PE PO
    clear hA hB hn hne hbel
    rcases CS with ⟨ho, hsp⟩ | ⟨ho, hsp⟩
    · rw [ho] at CC
      rw [hsp] at HP
      clear ho hsp PE
      cases hno : numO A with
      | false =>
        have H1 := Lib.hid (HP.out.trans (PB.out _ _ _ hno))
        rw [hno] at CN
        clear hno
        go_wp2_with fail
        refine (CC.out _).mono ?_
        rintro e w1 ⟨rfl, k, rfl⟩
        go_wp2_with fail
        refine (CN.out _).mono ?_
        rintro e w2 ⟨rfl, hb2⟩
        have HB2 := Lib.hid (HB.out.trans ((ext_trans (ext_drew _ k) hb2).mono HB.out.size))
        clear hb2
        go_wp2_with fail
        go_ret2
        exact ⟨tupUB32 H1.out, HB2.out⟩
      | true =>
        have H1 := Lib.hid (HP.out.trans (PO.out _ _ hno))
        rw [hno] at CN
        clear hno PO PB HP
        rcases hs1 with ⟨rfl, hs1⟩ | ⟨rfl, hs1⟩ | ⟨rfl, hs1⟩ | ⟨rfl, hs1⟩
        · by_cases hn : 255 < n
          · have H2 := Lib.hid (H1.out.trans (if_pos (.inr hn)))
            go_wp2_with fail
            refine (CC.out _).mono ?_
            rintro e w1 ⟨rfl, k, rfl⟩
            go_wp2_with fail
            refine (CN.out _).mono ?_
            rintro e w2 ⟨rfl, hb2⟩
            have HB2 := Lib.hid (HB.out.trans ((ext_trans (ext_drew _ k) hb2).mono HB.out.size))
            clear hb2
            go_wp2_with fail
            go_ret2
            exact ⟨tupUB32 H2.out, HB2.out⟩
          · have H2 := Lib.hid (H1.out.trans (if_neg (by omega)))
            have p1 : bits .or .u64 (sum * 256) n = sum * 256 + n := u64_or 8 _ _ (by omega) (by omega) (by omega) n0 (by omega) (by omega)
            go_wp2_with fail
            refine (CC.out _).mono ?_
            rintro e w1 ⟨rfl, k, rfl⟩
            go_wp2_with fail
            refine (CN.out _).mono ?_
            rintro e w2 ⟨rfl, hb2⟩
            have HB2 := Lib.hid (HB.out.trans ((ext_trans (ext_drew _ k) hb2).mono HB.out.size))
            clear hb2
            go_wp2_with fail
            exact ⟨⟨B, 3, sum * 256 + n, by decide, by decide, by omega, rfl, by first | rfl | go_num, by first | rfl | go_num, by omega, by omega, H2, HB2.out⟩, by simp [intOf]⟩
        · by_cases hn : 255 < n
          · have H2 := Lib.hid (H1.out.trans (if_pos (.inr hn)))
            go_wp2_with fail
            refine (CC.out _).mono ?_
            rintro e w1 ⟨rfl, k, rfl⟩
            go_wp2_with fail
            refine (CN.out _).mono ?_
            rintro e w2 ⟨rfl, hb2⟩
            have HB2 := Lib.hid (HB.out.trans ((ext_trans (ext_drew _ k) hb2).mono HB.out.size))
            clear hb2
            go_wp2_with fail
            go_ret2
            exact ⟨tupUB32 H2.out, HB2.out⟩
          · have H2 := Lib.hid (H1.out.trans (if_neg (by omega)))
            have p1 : bits .or .u64 (sum * 256) n = sum * 256 + n := u64_or 8 _ _ (by omega) (by omega) (by omega) n0 (by omega) (by omega)
            go_wp2_with fail
            refine (CC.out _).mono ?_
            rintro e w1 ⟨rfl, k, rfl⟩
            go_wp2_with fail
            refine (CN.out _).mono ?_
            rintro e w2 ⟨rfl, hb2⟩
            have HB2 := Lib.hid (HB.out.trans ((ext_trans (ext_drew _ k) hb2).mono HB.out.size))
            clear hb2
            go_wp2_with fail
            exact ⟨⟨B, 2, sum * 256 + n, by decide, by decide, by omega, rfl, by first | rfl | go_num, by first | rfl | go_num, by omega, by omega, H2, HB2.out⟩, by simp [intOf]⟩
        · by_cases hn : 255 < n
          · have H2 := Lib.hid (H1.out.trans (if_pos (.inr hn)))
            go_wp2_with fail
            refine (CC.out _).mono ?_
            rintro e w1 ⟨rfl, k, rfl⟩
            go_wp2_with fail
            refine (CN.out _).mono ?_
            rintro e w2 ⟨rfl, hb2⟩
            have HB2 := Lib.hid (HB.out.trans ((ext_trans (ext_drew _ k) hb2).mono HB.out.size))
            clear hb2
            go_wp2_with fail
            go_ret2
            exact ⟨tupUB32 H2.out, HB2.out⟩
          · have H2 := Lib.hid (H1.out.trans (if_neg (by omega)))
            have p1 : bits .or .u64 (sum * 256) n = sum * 256 + n := u64_or 8 _ _ (by omega) (by omega) (by omega) n0 (by omega) (by omega)
            go_wp2_with fail
            refine (CC.out _).mono ?_
            rintro e w1 ⟨rfl, k, rfl⟩
            go_wp2_with fail
            refine (CN.out _).mono ?_
            rintro e w2 ⟨rfl, hb2⟩
            have HB2 := Lib.hid (HB.out.trans ((ext_trans (ext_drew _ k) hb2).mono HB.out.size))
            clear hb2
            go_wp2_with fail
            exact ⟨⟨B, 1, sum * 256 + n, by decide, by decide, by omega, rfl, by first | rfl | go_num, by first | rfl | go_num, by omega, by omega, H2, HB2.out⟩, by simp [intOf]⟩
        · have H2 := Lib.hid (H1.out.trans (if_pos (.inl rfl)))
          go_wp2_with fail
          refine (CC.out _).mono ?_
          rintro e w1 ⟨rfl, k, rfl⟩
          go_wp2_with fail
          refine (CN.out _).mono ?_
          rintro e w2 ⟨rfl, hb2⟩
          have HB2 := Lib.hid (HB.out.trans ((ext_trans (ext_drew _ k) hb2).mono HB.out.size))
          clear hb2
          go_wp2_with fail
          go_ret2
          exact ⟨tupUB32 H2.out, HB2.out⟩
    · rw [ho] at CC
      rw [hsp] at HP
      clear ho hsp PO
      cases hno : numO A with
      | false =>
        have H1 := Lib.hid (HP.out.trans (PB.out _ _ _ hno))
        rw [hno] at CN
        clear hno
        go_wp2_with fail
        refine (CC.out _).mono ?_
        rintro e w1 ⟨rfl, k, rfl⟩
        go_wp2_with fail
        refine (CN.out _).mono ?_
        rintro e w2 ⟨rfl, hb2⟩
        have HB2 := Lib.hid (HB.out.trans ((ext_trans (ext_drew _ k) hb2).mono HB.out.size))
        clear hb2
        go_wp2_with fail
        go_ret2
        exact ⟨tupUB32 H1.out, HB2.out⟩
      | true =>
        have H1 := Lib.hid (HP.out.trans (PE.out _ _ hno))
        rw [hno] at CN
        clear hno PE PB HP
        rcases hs1 with ⟨rfl, hs1⟩ | ⟨rfl, hs1⟩ | ⟨rfl, hs1⟩ | ⟨rfl, hs1⟩
        · have H1' : Hid (parseL (splitB 46 s) 4 0 = if 4294967296 ≤ n then (0, false) else (sum * 4294967296 + n, true)) := Lib.hid H1.out
          clear H1
          by_cases hn : 4294967296 ≤ n
          · have H2 := Lib.hid (H1'.out.trans (if_pos hn))
            go_wp2_with fail
            refine (CC.out _).mono ?_
            rintro e w1 ⟨rfl, k, rfl⟩
            go_wp2_with fail
            refine (CN.out _).mono ?_
            rintro e w2 ⟨rfl, hb2⟩
            have HB2 := Lib.hid (HB.out.trans ((ext_trans (ext_drew _ k) hb2).mono HB.out.size))
            clear hb2
            go_wp2_with fail
            go_ret2
            exact ⟨tupUB32 H2.out, HB2.out⟩
          · have H2 := Lib.hid (H1'.out.trans (if_neg hn))
            have p1 : bits .or .u64 (sum * 4294967296) n = sum * 4294967296 + n := u64_or 32 _ _ (by omega) (by omega) (by omega) n0 (by omega) (by omega)
            go_wp2_with fail
            refine (CC.out _).mono ?_
            rintro e w1 ⟨rfl, k, rfl⟩
            go_wp2_with fail
            refine (CN.out _).mono ?_
            rintro e w2 ⟨rfl, hb2⟩
            have HB2 := Lib.hid (HB.out.trans ((ext_trans (ext_drew _ k) hb2).mono HB.out.size))
            clear hb2
            go_wp2_with fail
            go_ret2
            exact ⟨tupUB32 H2.out, HB2.out⟩
        · have H1' : Hid (parseL (splitB 46 s) 4 0 = if 16777216 ≤ n then (0, false) else (sum * 16777216 + n, true)) := Lib.hid H1.out
          clear H1
          by_cases hn : 16777216 ≤ n
          · have H2 := Lib.hid (H1'.out.trans (if_pos hn))
            go_wp2_with fail
            refine (CC.out _).mono ?_
            rintro e w1 ⟨rfl, k, rfl⟩
            go_wp2_with fail
            refine (CN.out _).mono ?_
            rintro e w2 ⟨rfl, hb2⟩
            have HB2 := Lib.hid (HB.out.trans ((ext_trans (ext_drew _ k) hb2).mono HB.out.size))
            clear hb2
            go_wp2_with fail
            go_ret2
            exact ⟨tupUB32 H2.out, HB2.out⟩
          · have H2 := Lib.hid (H1'.out.trans (if_neg hn))
            have p1 : bits .or .u64 (sum * 16777216) n = sum * 16777216 + n := u64_or 24 _ _ (by omega) (by omega) (by omega) n0 (by omega) (by omega)
            go_wp2_with fail
            refine (CC.out _).mono ?_
            rintro e w1 ⟨rfl, k, rfl⟩
            go_wp2_with fail
            refine (CN.out _).mono ?_
            rintro e w2 ⟨rfl, hb2⟩
            have HB2 := Lib.hid (HB.out.trans ((ext_trans (ext_drew _ k) hb2).mono HB.out.size))
            clear hb2
            go_wp2_with fail
            go_ret2
            exact ⟨tupUB32 H2.out, HB2.out⟩
        · have H1' : Hid (parseL (splitB 46 s) 4 0 = if 65536 ≤ n then (0, false) else (sum * 65536 + n, true)) := Lib.hid H1.out
          clear H1
          by_cases hn : 65536 ≤ n
          · have H2 := Lib.hid (H1'.out.trans (if_pos hn))
            go_wp2_with fail
            refine (CC.out _).mono ?_
            rintro e w1 ⟨rfl, k, rfl⟩
            go_wp2_with fail
            refine (CN.out _).mono ?_
            rintro e w2 ⟨rfl, hb2⟩
            have HB2 := Lib.hid (HB.out.trans ((ext_trans (ext_drew _ k) hb2).mono HB.out.size))
            clear hb2
            go_wp2_with fail
            go_ret2
            exact ⟨tupUB32 H2.out, HB2.out⟩
          · have H2 := Lib.hid (H1'.out.trans (if_neg hn))
            have p1 : bits .or .u64 (sum * 65536) n = sum * 65536 + n := u64_or 16 _ _ (by omega) (by omega) (by omega) n0 (by omega) (by omega)
            go_wp2_with fail
            refine (CC.out _).mono ?_
            rintro e w1 ⟨rfl, k, rfl⟩
            go_wp2_with fail
            refine (CN.out _).mono ?_
            rintro e w2 ⟨rfl, hb2⟩
            have HB2 := Lib.hid (HB.out.trans ((ext_trans (ext_drew _ k) hb2).mono HB.out.size))
            clear hb2
            go_wp2_with fail
            go_ret2
            exact ⟨tupUB32 H2.out, HB2.out⟩
        · have H1' : Hid (parseL (splitB 46 s) 4 0 = if 256 ≤ n then (0, false) else (sum * 256 + n, true)) := Lib.hid H1.out
          clear H1
          by_cases hn : 256 ≤ n
          · have H2 := Lib.hid (H1'.out.trans (if_pos hn))
            go_wp2_with fail
            refine (CC.out _).mono ?_
            rintro e w1 ⟨rfl, k, rfl⟩
            go_wp2_with fail
            refine (CN.out _).mono ?_
            rintro e w2 ⟨rfl, hb2⟩
            have HB2 := Lib.hid (HB.out.trans ((ext_trans (ext_drew _ k) hb2).mono HB.out.size))
            clear hb2
            go_wp2_with fail
            go_ret2
            exact ⟨tupUB32 H2.out, HB2.out⟩
          · have H2 := Lib.hid (H1'.out.trans (if_neg hn))
            have p1 : bits .or .u64 (sum * 256) n = sum * 256 + n := u64_or 8 _ _ (by omega) (by omega) (by omega) n0 (by omega) (by omega)
            go_wp2_with fail
            refine (CC.out _).mono ?_
            rintro e w1 ⟨rfl, k, rfl⟩
            go_wp2_with fail
            refine (CN.out _).mono ?_
            rintro e w2 ⟨rfl, hb2⟩
            have HB2 := Lib.hid (HB.out.trans ((ext_trans (ext_drew _ k) hb2).mono HB.out.size))
            clear hb2
            go_wp2_with fail
            go_ret2
            exact ⟨tupUB32 H2.out, HB2.out⟩
end Go.Proofs.YtaphadmcjimmeaaDoor
