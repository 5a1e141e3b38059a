import Derived.Test.YtaphadmcjimmeaaGreatDoorHs14
import Derived.Test.YtaphadmcjimmeaaGreatDoorHs21
set_option linter.unusedVariables false
set_option linter.unusedSimpArgs false
namespace Go.Proofs.YtaphadmcjimmeaaGreatDoor
open Go.RowKit
theorem parseL_long : ∀ (ps : List (List UInt8)) (left : Nat) (sum : Int), 1 ≤ left → left < ps.length → parseL ps left sum = (0, false) := by
  intro ps
  induction ps with
  | nil => intro left sum _ h; simp at h
  | cons p ps ih =>
    intro left sum h1 h2
    cases hn : numO p with
    | false => exact parse_bad hn
    | true =>
      have hps : ps ≠ [] := by intro h; subst h; simp at h2; omega
      rw [parse_on hn hps]
      by_cases h : left = 1 ∨ 255 < numV p
      · rw [if_pos h]
      · rw [if_neg h]; exact ih _ _ (by omega) (by simp at h2; omega)
def ParseAt (ls : List (List UInt8)) (i : Nat) (n : Int) : Prop :=
  (i < ls.length → ∃ sum, parseL ls 4 0 = parseL (ls.drop i) (4 - i) sum ∧ n = sum * 2 ^ (8 * (4 - i)) ∧ 0 ≤ sum ∧ sum < 2 ^ (8 * i)) ∧ (i = ls.length → parseL ls 4 0 = (n, true))
theorem pa_start (ls : List (List UInt8)) (h : 0 < ls.length) : ParseAt ls 0 0 := ⟨fun _ => ⟨0, rfl, rfl, by decide, by decide⟩, fun h2 => by omega⟩
theorem drop_at {ls : List (List UInt8)} {i : Nat} (hi : i < ls.length) : ls.drop i = ls.getD i [] :: ls.drop (i + 1) := by
  rw [List.drop_eq_getElem_cons hi]; simp [List.getD, hi]
theorem pa_bad {ls : List (List UInt8)} {i : Nat} {n : Int} (h : ParseAt ls i n) (hi : i < ls.length) (hb : numO (ls.getD i []) = false) : parseL ls 4 0 = (0, false) := by
  obtain ⟨sum, h1, -⟩ := h.1 hi
  rw [h1, drop_at hi, parse_bad hb]
theorem pa_last {ls : List (List UInt8)} {i : Nat} {n : Int} (h : ParseAt ls i n) (hi : i + 1 = ls.length) (hb : numO (ls.getD i []) = true) :
    (2 ^ (8 * (4 - i)) ≤ numV (ls.getD i []) → parseL ls 4 0 = (0, false)) ∧ (numV (ls.getD i []) < 2 ^ (8 * (4 - i)) → ParseAt ls (i + 1) (n + numV (ls.getD i []))) := by
  obtain ⟨sum, h1, h2, h3, h4⟩ := h.1 (by omega)
  have hd : ls.drop i = [ls.getD i []] := by rw [drop_at (by omega), List.drop_of_length_le (by omega)]
  rw [hd, parse_end hb] at h1
  refine ⟨fun hc => by rw [h1, if_pos hc], fun hc => ⟨fun h => by omega, fun _ => ?_⟩⟩
  rw [h1, if_neg (by omega), h2]
theorem pa_mid {ls : List (List UInt8)} {i : Nat} {n : Int} (h : ParseAt ls i n) (hi : i + 1 < ls.length) (h4 : ls.length ≤ 4) (hb : numO (ls.getD i []) = true) :
    (256 ≤ numV (ls.getD i []) → parseL ls 4 0 = (0, false)) ∧ (numV (ls.getD i []) < 256 → ParseAt ls (i + 1) (n + numV (ls.getD i []) * 2 ^ (8 * (3 - i)))) := by
  obtain ⟨sum, h1, h2, h3, h5⟩ := h.1 (by omega)
  have hne : ls.drop (i + 1) ≠ [] := by rw [Ne, List.drop_eq_nil_iff]; omega
  obtain ⟨v0, -⟩ := numV_bd (ls.getD i [])
  rw [drop_at (by omega), parse_on hb hne] at h1
  generalize numV (ls.getD i []) = x at *
  refine ⟨fun hc => by rw [h1, if_pos (.inr (by omega))], fun hc => ⟨fun _ => ⟨sum * 256 + x, ?_, ?_, by omega, ?_⟩, fun h => by omega⟩⟩
  · rw [h1, if_neg (by omega), show 4 - i - 1 = 4 - (i + 1) by omega]
  · rw [h2]
    rcases (by omega : i = 0 ∨ i = 1 ∨ i = 2) with rfl | rfl | rfl <;> simp <;> omega
  · rcases (by omega : i = 0 ∨ i = 1 ∨ i = 2) with rfl | rfl | rfl <;> simp at h5 ⊢ <;> omega
set_option maxRecDepth 100000 in
set_option maxHeartbeats 4000000 in
theorem rParse_any (l : List UInt8) (w : World) (hm : l.length ≤ 1000000) :
    Calls Tryz.prog 32 #[.string ⟨l.toArray⟩] w fun e w' => e = .returned (.tuple #[.int .u32 (parseL (splitB 46 (trimL l)) 4 0).1, .bool (parseL (splitB 46 (trimL l)) 4 0).2]) ∧ Below w.heap.size w w' := by
  have HP := Lib.hid (dots_any l · hm)
  have hlen := (splitB_len 46 (trimL l)).2
  have hlm : (splitB 46 (trimL l)).length ≤ 1000001 := by
    have := (splitB_len 46 (trimL l)).1
    have h2 : (trimL l).length ≤ l.length := by unfold trimL; split <;> simp
    omega
  have hmem : ∀ p ∈ splitB 46 (trimL l), p.length ≤ 1000000 := fun p hp => by
    have := splitB_mem 46 _ p hp
    have h2 : (trimL l).length ≤ l.length := by unfold trimL; split <;> simp
    omega
  obtain ⟨ls, hls⟩ : ∃ ls, splitB 46 (trimL l) = ls := ⟨_, rfl⟩
  rw [hls] at HP hlen hlm hmem
  rw [hls]
  clear hls
  have HMM := Lib.hid hmem
  clear hmem
  go_enter Tryz.func32, Tryz.ntmps32
  go_wp2_with fail
  refine (HP.out _).mono ?_
  rintro e w1 ⟨v1, rfl, hi, hb1⟩
  have HB1 := Lib.hid hb1
  obtain ⟨ad, cap, rfl, hc1, hc2, -, hs⟩ := hi
  unfold maxLen at hc2
  obtain ⟨b, off, rfl, hc⟩ := hs (by omega)
  by_cases h4 : 4 < ls.length
  · have h4I : (4 : Int) < (ls.length : Int) := by omega
    have HR := Lib.hid (parseL_long ls 4 0 (by decide) h4)
    clear hc hs hb1 h4
    go_wp2_with fail
    go_ret2
    exact ⟨tupUB32 HR.out, HB1.out⟩
  · clear hs hb1
    have HC := Lib.hid hc
    clear hc
    rcases ls with _ | ⟨p0, _ | ⟨p1, _ | ⟨p2, _ | ⟨p3, _ | ⟨p4, ls⟩⟩⟩⟩⟩
    · simp at hlen
    · have hp := HMM.out p0 (by simp)
      have m0 := hp
      have hcell0 : w1.cell? ⟨b, off, none⟩ = some (.string ⟨p0.toArray⟩) := HC.out.at 0 (by simp)
      have HN0 := Lib.hid (rnumber_any p0 · m0)
      obtain ⟨x00, x01⟩ := numV_bd p0
      obtain ⟨n0, hn0⟩ : ∃ n, numV p0 = n := ⟨_, rfl⟩
      rw [hn0] at x00 x01 HN0
      obtain ⟨o0, ho0⟩ : ∃ o, numO p0 = o := ⟨_, rfl⟩
      rw [ho0] at HN0
      have HHN0 := Lib.hid hn0
      have HHO0 := Lib.hid ho0
      clear hn0 ho0
      obtain ⟨LS, hLS⟩ : ∃ LS, [p0] = LS := ⟨_, rfl⟩
      have HLS := Lib.hid hLS
      have PAB := fun (i : Nat) (n : Int) h => @pa_bad LS i n h
      simp only [List.length_cons, List.length_nil, Nat.zero_add, Nat.reduceAdd]
      clear hLS
      go_wp2_with fail
      go_loopw [5, 6, 7, 8, 9] (fun tn ti _ _ _ wr => ∃ (i : Nat) (n : Int), i ≤ 1 ∧ ti = .int .i64 i ∧ tn = .int .i64 n ∧ Hid (ParseAt LS i n) ∧ 0 ≤ n ∧ n < 4294967296 ∧ wr = w1) (fun _ ti _ _ _ _ => 1 - (intOf ti).toNat)
      case atStart => exact ⟨0, 0, by omega, rfl, rfl, Lib.hid (pa_start LS (by rw [← HLS.out]; simp)), by decide, by decide, rfl⟩
      case round =>
        obtain ⟨i, n, hi, rfl, rfl, HPA, q0, q1, rfl⟩ := hrel
        rcases (by omega : i = 0 ∨ i = 1) with rfl | rfl
        · have hgd : LS.getD 0 [] = p0 := by rw [← HLS.out]; rfl
          have hll : LS.length = 1 := by rw [← HLS.out]; rfl
          cases o0 with
          | false =>
            have HR : Hid (parseL LS 4 0 = (0, false)) := Lib.hid (pa_bad HPA.out (by omega) (by rw [hgd]; exact HHO0.out))
            clear hgd hll hi PAB
            go_wp2_with fail
            refine (HN0.out _).mono ?_
            rintro e w' ⟨rfl, rfl⟩
            go_wp2_with fail
            go_ret2
            exact ⟨tupUB32 (by rw [HLS.out]; exact HR.out), HB1.out⟩
          | true =>
            have hpl := pa_last HPA.out (by omega) (by rw [hgd]; exact HHO0.out)
            rw [hgd, HHN0.out] at hpl
            have HA : Hid (4294967296 ≤ n0 → parseL LS 4 0 = (0, false)) := Lib.hid hpl.1
            have HBB : Hid (n0 < 4294967296 → ParseAt LS (0 + 1) (n + n0)) := Lib.hid hpl.2
            obtain ⟨sum, -, hsna, hs0, hsb⟩ := HPA.out.1 (by omega)
            have hsn : n = sum * 4294967296 := hsna
            have hs1 : sum < 1 := hsb
            clear hgd hll hi hpl PAB
            by_cases hb : 4294967296 ≤ n0
            · have HR := Lib.hid (HA.out hb)
              clear hsn hs0 hs1 hsna hsb
              go_wp2_with fail
              refine (HN0.out _).mono ?_
              rintro e w' ⟨rfl, rfl⟩
              go_wp2_with fail
              go_ret2
              exact ⟨tupUB32 (by rw [HLS.out]; exact HR.out), HB1.out⟩
            · have hb2 : n0 < 4294967296 := by omega
              have HR := Lib.hid (HBB.out hb2)
              have hq : n + n0 < 4294967296 := by omega
              clear hsn hs0 hs1 hsna hsb
              go_wp2_with fail
              refine (HN0.out _).mono ?_
              rintro e w' ⟨rfl, rfl⟩
              go_wp2_with fail
              exact ⟨⟨0 + 1, _, by decide, by first | rfl | go_num, rfl, HR, by omega, hq, by trivial⟩, by simp [intOf]⟩
        · have HR := Lib.hid (HPA.out.2 (by rw [← HLS.out]; rfl))
          clear hi PAB
          have hwr : n % 4294967296 = n := by omega
          go_wp2_with fail
          go_ret2
          exact ⟨tupUB32 (by rw [HLS.out]; exact HR.out), HB1.out⟩
    · have hp : p0.length ≤ 1000000 ∧ p1.length ≤ 1000000 := ⟨HMM.out p0 (by simp), HMM.out p1 (by simp)⟩
      obtain ⟨m0, m1⟩ := hp
      have hcell0 : w1.cell? ⟨b, off, none⟩ = some (.string ⟨p0.toArray⟩) := HC.out.at 0 (by simp)
      have HN0 := Lib.hid (rnumber_any p0 · m0)
      obtain ⟨x00, x01⟩ := numV_bd p0
      obtain ⟨n0, hn0⟩ : ∃ n, numV p0 = n := ⟨_, rfl⟩
      rw [hn0] at x00 x01 HN0
      obtain ⟨o0, ho0⟩ : ∃ o, numO p0 = o := ⟨_, rfl⟩
      rw [ho0] at HN0
      have HHN0 := Lib.hid hn0
      have HHO0 := Lib.hid ho0
      clear hn0 ho0
      have hcell1 : w1.cell? ⟨b, off + 1, none⟩ = some (.string ⟨p1.toArray⟩) := HC.out.at 1 (by simp)
      have HN1 := Lib.hid (rnumber_any p1 · m1)
      obtain ⟨x10, x11⟩ := numV_bd p1
      obtain ⟨n1, hn1⟩ : ∃ n, numV p1 = n := ⟨_, rfl⟩
      rw [hn1] at x10 x11 HN1
      obtain ⟨o1, ho1⟩ : ∃ o, numO p1 = o := ⟨_, rfl⟩
      rw [ho1] at HN1
      have HHN1 := Lib.hid hn1
      have HHO1 := Lib.hid ho1
      clear hn1 ho1
      obtain ⟨LS, hLS⟩ : ∃ LS, [p0, p1] = LS := ⟨_, rfl⟩
      have HLS := Lib.hid hLS
      have PAB := fun (i : Nat) (n : Int) h => @pa_bad LS i n h
      simp only [List.length_cons, List.length_nil, Nat.zero_add, Nat.reduceAdd]
      clear hLS
      go_wp2_with fail
      go_loopw [5, 6, 7, 8, 9] (fun tn ti _ _ _ wr => ∃ (i : Nat) (n : Int), i ≤ 2 ∧ ti = .int .i64 i ∧ tn = .int .i64 n ∧ Hid (ParseAt LS i n) ∧ 0 ≤ n ∧ n < 4294967296 ∧ wr = w1) (fun _ ti _ _ _ _ => 2 - (intOf ti).toNat)
      case atStart => exact ⟨0, 0, by omega, rfl, rfl, Lib.hid (pa_start LS (by rw [← HLS.out]; simp)), by decide, by decide, rfl⟩
      case round =>
        obtain ⟨i, n, hi, rfl, rfl, HPA, q0, q1, rfl⟩ := hrel
        rcases (by omega : i = 0 ∨ i = 1 ∨ i = 2) with rfl | rfl | rfl
        · have hgd : LS.getD 0 [] = p0 := by rw [← HLS.out]; rfl
          have hll : LS.length = 2 := by rw [← HLS.out]; rfl
          cases o0 with
          | false =>
            have HR : Hid (parseL LS 4 0 = (0, false)) := Lib.hid (pa_bad HPA.out (by omega) (by rw [hgd]; exact HHO0.out))
            clear hgd hll hi PAB
            go_wp2_with fail
            refine (HN0.out _).mono ?_
            rintro e w' ⟨rfl, rfl⟩
            go_wp2_with fail
            go_ret2
            exact ⟨tupUB32 (by rw [HLS.out]; exact HR.out), HB1.out⟩
          | true =>
            have hpl := pa_mid HPA.out (by omega) (by omega) (by rw [hgd]; exact HHO0.out)
            rw [hgd, HHN0.out] at hpl
            have HA : Hid (256 ≤ n0 → parseL LS 4 0 = (0, false)) := Lib.hid hpl.1
            have HBB : Hid (n0 < 256 → ParseAt LS (0 + 1) (n + n0 * 16777216)) := Lib.hid hpl.2
            obtain ⟨sum, -, hsna, hs0, hsb⟩ := HPA.out.1 (by omega)
            have hsn : n = sum * 4294967296 := hsna
            have hs1 : sum < 1 := hsb
            clear hgd hll hi hpl PAB
            by_cases hb : 256 ≤ n0
            · have HR := Lib.hid (HA.out hb)
              clear hsn hs0 hs1 hsna hsb
              go_wp2_with fail
              refine (HN0.out _).mono ?_
              rintro e w' ⟨rfl, rfl⟩
              go_wp2_with fail
              go_ret2
              exact ⟨tupUB32 (by rw [HLS.out]; exact HR.out), HB1.out⟩
            · have hb2 : n0 < 256 := by omega
              have HR := Lib.hid (HBB.out hb2)
              have hq : n + n0 * 16777216 < 4294967296 := by omega
              clear hsn hs0 hs1 hsna hsb
              go_wp2_with fail
              refine (HN0.out _).mono ?_
              rintro e w' ⟨rfl, rfl⟩
              go_wp2_with fail
              exact ⟨⟨0 + 1, _, by decide, by first | rfl | go_num, rfl, HR, by omega, hq, by trivial⟩, by simp [intOf]⟩
        · have hgd : LS.getD 1 [] = p1 := by rw [← HLS.out]; rfl
          have hll : LS.length = 2 := by rw [← HLS.out]; rfl
          cases o1 with
          | false =>
            have HR : Hid (parseL LS 4 0 = (0, false)) := Lib.hid (pa_bad HPA.out (by omega) (by rw [hgd]; exact HHO1.out))
            clear hgd hll hi PAB
            go_wp2_with fail
            refine (HN1.out _).mono ?_
            rintro e w' ⟨rfl, rfl⟩
            go_wp2_with fail
            go_ret2
            exact ⟨tupUB32 (by rw [HLS.out]; exact HR.out), HB1.out⟩
          | true =>
            have hpl := pa_last HPA.out (by omega) (by rw [hgd]; exact HHO1.out)
            rw [hgd, HHN1.out] at hpl
            have HA : Hid (16777216 ≤ n1 → parseL LS 4 0 = (0, false)) := Lib.hid hpl.1
            have HBB : Hid (n1 < 16777216 → ParseAt LS (1 + 1) (n + n1)) := Lib.hid hpl.2
            obtain ⟨sum, -, hsna, hs0, hsb⟩ := HPA.out.1 (by omega)
            have hsn : n = sum * 16777216 := hsna
            have hs1 : sum < 256 := hsb
            clear hgd hll hi hpl PAB
            by_cases hb : 16777216 ≤ n1
            · have HR := Lib.hid (HA.out hb)
              clear hsn hs0 hs1 hsna hsb
              go_wp2_with fail
              refine (HN1.out _).mono ?_
              rintro e w' ⟨rfl, rfl⟩
              go_wp2_with fail
              go_ret2
              exact ⟨tupUB32 (by rw [HLS.out]; exact HR.out), HB1.out⟩
            · have hb2 : n1 < 16777216 := by omega
              have HR := Lib.hid (HBB.out hb2)
              have hq : n + n1 < 4294967296 := by omega
              clear hsn hs0 hs1 hsna hsb
              go_wp2_with fail
              refine (HN1.out _).mono ?_
              rintro e w' ⟨rfl, rfl⟩
              go_wp2_with fail
              exact ⟨⟨1 + 1, _, by decide, by first | rfl | go_num, rfl, HR, by omega, hq, by trivial⟩, by simp [intOf]⟩
        · have HR := Lib.hid (HPA.out.2 (by rw [← HLS.out]; rfl))
          clear hi PAB
          have hwr : n % 4294967296 = n := by omega
          go_wp2_with fail
          go_ret2
          exact ⟨tupUB32 (by rw [HLS.out]; exact HR.out), HB1.out⟩
    · have hp : p0.length ≤ 1000000 ∧ p1.length ≤ 1000000 ∧ p2.length ≤ 1000000 := ⟨HMM.out p0 (by simp), HMM.out p1 (by simp), HMM.out p2 (by simp)⟩
      obtain ⟨m0, m1, m2⟩ := hp
      have hcell0 : w1.cell? ⟨b, off, none⟩ = some (.string ⟨p0.toArray⟩) := HC.out.at 0 (by simp)
      have HN0 := Lib.hid (rnumber_any p0 · m0)
      obtain ⟨x00, x01⟩ := numV_bd p0
      obtain ⟨n0, hn0⟩ : ∃ n, numV p0 = n := ⟨_, rfl⟩
      rw [hn0] at x00 x01 HN0
      obtain ⟨o0, ho0⟩ : ∃ o, numO p0 = o := ⟨_, rfl⟩
      rw [ho0] at HN0
      have HHN0 := Lib.hid hn0
      have HHO0 := Lib.hid ho0
      clear hn0 ho0
      have hcell1 : w1.cell? ⟨b, off + 1, none⟩ = some (.string ⟨p1.toArray⟩) := HC.out.at 1 (by simp)
      have HN1 := Lib.hid (rnumber_any p1 · m1)
      obtain ⟨x10, x11⟩ := numV_bd p1
      obtain ⟨n1, hn1⟩ : ∃ n, numV p1 = n := ⟨_, rfl⟩
      rw [hn1] at x10 x11 HN1
      obtain ⟨o1, ho1⟩ : ∃ o, numO p1 = o := ⟨_, rfl⟩
      rw [ho1] at HN1
      have HHN1 := Lib.hid hn1
      have HHO1 := Lib.hid ho1
      clear hn1 ho1
      have hcell2 : w1.cell? ⟨b, off + 2, none⟩ = some (.string ⟨p2.toArray⟩) := HC.out.at 2 (by simp)
      have HN2 := Lib.hid (rnumber_any p2 · m2)
      obtain ⟨x20, x21⟩ := numV_bd p2
      obtain ⟨n2, hn2⟩ : ∃ n, numV p2 = n := ⟨_, rfl⟩
      rw [hn2] at x20 x21 HN2
      obtain ⟨o2, ho2⟩ : ∃ o, numO p2 = o := ⟨_, rfl⟩
      rw [ho2] at HN2
      have HHN2 := Lib.hid hn2
      have HHO2 := Lib.hid ho2
      clear hn2 ho2
      obtain ⟨LS, hLS⟩ : ∃ LS, [p0, p1, p2] = LS := ⟨_, rfl⟩
      have HLS := Lib.hid hLS
      have PAB := fun (i : Nat) (n : Int) h => @pa_bad LS i n h
      simp only [List.length_cons, List.length_nil, Nat.zero_add, Nat.reduceAdd]
      clear hLS
      go_wp2_with fail
      go_loopw [5, 6, 7, 8, 9] (fun tn ti _ _ _ wr => ∃ (i : Nat) (n : Int), i ≤ 3 ∧ ti = .int .i64 i ∧ tn = .int .i64 n ∧ Hid (ParseAt LS i n) ∧ 0 ≤ n ∧ n < 4294967296 ∧ wr = w1) (fun _ ti _ _ _ _ => 3 - (intOf ti).toNat)
      case atStart => exact ⟨0, 0, by omega, rfl, rfl, Lib.hid (pa_start LS (by rw [← HLS.out]; simp)), by decide, by decide, rfl⟩
      case round =>
        obtain ⟨i, n, hi, rfl, rfl, HPA, q0, q1, rfl⟩ := hrel
        rcases (by omega : i = 0 ∨ i = 1 ∨ i = 2 ∨ i = 3) with rfl | rfl | rfl | rfl
        · have hgd : LS.getD 0 [] = p0 := by rw [← HLS.out]; rfl
          have hll : LS.length = 3 := by rw [← HLS.out]; rfl
          cases o0 with
          | false =>
            have HR : Hid (parseL LS 4 0 = (0, false)) := Lib.hid (pa_bad HPA.out (by omega) (by rw [hgd]; exact HHO0.out))
            clear hgd hll hi PAB
            go_wp2_with fail
            refine (HN0.out _).mono ?_
            rintro e w' ⟨rfl, rfl⟩
            go_wp2_with fail
            go_ret2
            exact ⟨tupUB32 (by rw [HLS.out]; exact HR.out), HB1.out⟩
          | true =>
            have hpl := pa_mid HPA.out (by omega) (by omega) (by rw [hgd]; exact HHO0.out)
            rw [hgd, HHN0.out] at hpl
            have HA : Hid (256 ≤ n0 → parseL LS 4 0 = (0, false)) := Lib.hid hpl.1
            have HBB : Hid (n0 < 256 → ParseAt LS (0 + 1) (n + n0 * 16777216)) := Lib.hid hpl.2
            obtain ⟨sum, -, hsna, hs0, hsb⟩ := HPA.out.1 (by omega)
            have hsn : n = sum * 4294967296 := hsna
            have hs1 : sum < 1 := hsb
            clear hgd hll hi hpl PAB
            by_cases hb : 256 ≤ n0
            · have HR := Lib.hid (HA.out hb)
              clear hsn hs0 hs1 hsna hsb
              go_wp2_with fail
              refine (HN0.out _).mono ?_
              rintro e w' ⟨rfl, rfl⟩
              go_wp2_with fail
              go_ret2
              exact ⟨tupUB32 (by rw [HLS.out]; exact HR.out), HB1.out⟩
            · have hb2 : n0 < 256 := by omega
              have HR := Lib.hid (HBB.out hb2)
              have hq : n + n0 * 16777216 < 4294967296 := by omega
              clear hsn hs0 hs1 hsna hsb
              go_wp2_with fail
              refine (HN0.out _).mono ?_
              rintro e w' ⟨rfl, rfl⟩
              go_wp2_with fail
              exact ⟨⟨0 + 1, _, by decide, by first | rfl | go_num, rfl, HR, by omega, hq, by trivial⟩, by simp [intOf]⟩
        · have hgd : LS.getD 1 [] = p1 := by rw [← HLS.out]; rfl
          have hll : LS.length = 3 := by rw [← HLS.out]; rfl
          cases o1 with
          | false =>
            have HR : Hid (parseL LS 4 0 = (0, false)) := Lib.hid (pa_bad HPA.out (by omega) (by rw [hgd]; exact HHO1.out))
            clear hgd hll hi PAB
            go_wp2_with fail
            refine (HN1.out _).mono ?_
            rintro e w' ⟨rfl, rfl⟩
            go_wp2_with fail
            go_ret2
            exact ⟨tupUB32 (by rw [HLS.out]; exact HR.out), HB1.out⟩
          | true =>
            have hpl := pa_mid HPA.out (by omega) (by omega) (by rw [hgd]; exact HHO1.out)
            rw [hgd, HHN1.out] at hpl
            have HA : Hid (256 ≤ n1 → parseL LS 4 0 = (0, false)) := Lib.hid hpl.1
            have HBB : Hid (n1 < 256 → ParseAt LS (1 + 1) (n + n1 * 65536)) := Lib.hid hpl.2
            obtain ⟨sum, -, hsna, hs0, hsb⟩ := HPA.out.1 (by omega)
            have hsn : n = sum * 16777216 := hsna
            have hs1 : sum < 256 := hsb
            clear hgd hll hi hpl PAB
            by_cases hb : 256 ≤ n1
            · have HR := Lib.hid (HA.out hb)
              clear hsn hs0 hs1 hsna hsb
              go_wp2_with fail
              refine (HN1.out _).mono ?_
              rintro e w' ⟨rfl, rfl⟩
              go_wp2_with fail
              go_ret2
              exact ⟨tupUB32 (by rw [HLS.out]; exact HR.out), HB1.out⟩
            · have hb2 : n1 < 256 := by omega
              have HR := Lib.hid (HBB.out hb2)
              have hq : n + n1 * 65536 < 4294967296 := by omega
              clear hsn hs0 hs1 hsna hsb
              go_wp2_with fail
              refine (HN1.out _).mono ?_
              rintro e w' ⟨rfl, rfl⟩
              go_wp2_with fail
              exact ⟨⟨1 + 1, _, by decide, by first | rfl | go_num, rfl, HR, by omega, hq, by trivial⟩, by simp [intOf]⟩
        · have hgd : LS.getD 2 [] = p2 := by rw [← HLS.out]; rfl
          have hll : LS.length = 3 := by rw [← HLS.out]; rfl
          cases o2 with
          | false =>
            have HR : Hid (parseL LS 4 0 = (0, false)) := Lib.hid (pa_bad HPA.out (by omega) (by rw [hgd]; exact HHO2.out))
            clear hgd hll hi PAB
            go_wp2_with fail
            refine (HN2.out _).mono ?_
            rintro e w' ⟨rfl, rfl⟩
            go_wp2_with fail
            go_ret2
            exact ⟨tupUB32 (by rw [HLS.out]; exact HR.out), HB1.out⟩
          | true =>
            have hpl := pa_last HPA.out (by omega) (by rw [hgd]; exact HHO2.out)
            rw [hgd, HHN2.out] at hpl
            have HA : Hid (65536 ≤ n2 → parseL LS 4 0 = (0, false)) := Lib.hid hpl.1
            have HBB : Hid (n2 < 65536 → ParseAt LS (2 + 1) (n + n2)) := Lib.hid hpl.2
            obtain ⟨sum, -, hsna, hs0, hsb⟩ := HPA.out.1 (by omega)
            have hsn : n = sum * 65536 := hsna
            have hs1 : sum < 65536 := hsb
            clear hgd hll hi hpl PAB
            by_cases hb : 65536 ≤ n2
            · have HR := Lib.hid (HA.out hb)
              clear hsn hs0 hs1 hsna hsb
              go_wp2_with fail
              refine (HN2.out _).mono ?_
              rintro e w' ⟨rfl, rfl⟩
              go_wp2_with fail
              go_ret2
              exact ⟨tupUB32 (by rw [HLS.out]; exact HR.out), HB1.out⟩
            · have hb2 : n2 < 65536 := by omega
              have HR := Lib.hid (HBB.out hb2)
              have hq : n + n2 < 4294967296 := by omega
              clear hsn hs0 hs1 hsna hsb
              go_wp2_with fail
              refine (HN2.out _).mono ?_
              rintro e w' ⟨rfl, rfl⟩
              go_wp2_with fail
              exact ⟨⟨2 + 1, _, by decide, by first | rfl | go_num, rfl, HR, by omega, hq, by trivial⟩, by simp [intOf]⟩
        · have HR := Lib.hid (HPA.out.2 (by rw [← HLS.out]; rfl))
          clear hi PAB
          have hwr : n % 4294967296 = n := by omega
          go_wp2_with fail
          go_ret2
          exact ⟨tupUB32 (by rw [HLS.out]; exact HR.out), HB1.out⟩
    · have hp : p0.length ≤ 1000000 ∧ p1.length ≤ 1000000 ∧ p2.length ≤ 1000000 ∧ p3.length ≤ 1000000 := ⟨HMM.out p0 (by simp), HMM.out p1 (by simp), HMM.out p2 (by simp), HMM.out p3 (by simp)⟩
      obtain ⟨m0, m1, m2, m3⟩ := hp
      have hcell0 : w1.cell? ⟨b, off, none⟩ = some (.string ⟨p0.toArray⟩) := HC.out.at 0 (by simp)
      have HN0 := Lib.hid (rnumber_any p0 · m0)
      obtain ⟨x00, x01⟩ := numV_bd p0
      obtain ⟨n0, hn0⟩ : ∃ n, numV p0 = n := ⟨_, rfl⟩
      rw [hn0] at x00 x01 HN0
      obtain ⟨o0, ho0⟩ : ∃ o, numO p0 = o := ⟨_, rfl⟩
      rw [ho0] at HN0
      have HHN0 := Lib.hid hn0
      have HHO0 := Lib.hid ho0
      clear hn0 ho0
      have hcell1 : w1.cell? ⟨b, off + 1, none⟩ = some (.string ⟨p1.toArray⟩) := HC.out.at 1 (by simp)
      have HN1 := Lib.hid (rnumber_any p1 · m1)
      obtain ⟨x10, x11⟩ := numV_bd p1
      obtain ⟨n1, hn1⟩ : ∃ n, numV p1 = n := ⟨_, rfl⟩
      rw [hn1] at x10 x11 HN1
      obtain ⟨o1, ho1⟩ : ∃ o, numO p1 = o := ⟨_, rfl⟩
      rw [ho1] at HN1
      have HHN1 := Lib.hid hn1
      have HHO1 := Lib.hid ho1
      clear hn1 ho1
      have hcell2 : w1.cell? ⟨b, off + 2, none⟩ = some (.string ⟨p2.toArray⟩) := HC.out.at 2 (by simp)
      have HN2 := Lib.hid (rnumber_any p2 · m2)
      obtain ⟨x20, x21⟩ := numV_bd p2
      obtain ⟨n2, hn2⟩ : ∃ n, numV p2 = n := ⟨_, rfl⟩
      rw [hn2] at x20 x21 HN2
      obtain ⟨o2, ho2⟩ : ∃ o, numO p2 = o := ⟨_, rfl⟩
      rw [ho2] at HN2
      have HHN2 := Lib.hid hn2
      have HHO2 := Lib.hid ho2
      clear hn2 ho2
      have hcell3 : w1.cell? ⟨b, off + 3, none⟩ = some (.string ⟨p3.toArray⟩) := HC.out.at 3 (by simp)
      have HN3 := Lib.hid (rnumber_any p3 · m3)
      obtain ⟨x30, x31⟩ := numV_bd p3
      obtain ⟨n3, hn3⟩ : ∃ n, numV p3 = n := ⟨_, rfl⟩
      rw [hn3] at x30 x31 HN3
      obtain ⟨o3, ho3⟩ : ∃ o, numO p3 = o := ⟨_, rfl⟩
      rw [ho3] at HN3
      have HHN3 := Lib.hid hn3
      have HHO3 := Lib.hid ho3
      clear hn3 ho3
      obtain ⟨LS, hLS⟩ : ∃ LS, [p0, p1, p2, p3] = LS := ⟨_, rfl⟩
      have HLS := Lib.hid hLS
      have PAB := fun (i : Nat) (n : Int) h => @pa_bad LS i n h
      simp only [List.length_cons, List.length_nil, Nat.zero_add, Nat.reduceAdd]
      clear hLS
      go_wp2_with fail
      go_loopw [5, 6, 7, 8, 9] (fun tn ti _ _ _ wr => ∃ (i : Nat) (n : Int), i ≤ 4 ∧ ti = .int .i64 i ∧ tn = .int .i64 n ∧ Hid (ParseAt LS i n) ∧ 0 ≤ n ∧ n < 4294967296 ∧ wr = w1) (fun _ ti _ _ _ _ => 4 - (intOf ti).toNat)
      case atStart => exact ⟨0, 0, by omega, rfl, rfl, Lib.hid (pa_start LS (by rw [← HLS.out]; simp)), by decide, by decide, rfl⟩
      case round =>
        obtain ⟨i, n, hi, rfl, rfl, HPA, q0, q1, rfl⟩ := hrel
        rcases (by omega : i = 0 ∨ i = 1 ∨ i = 2 ∨ i = 3 ∨ i = 4) with rfl | rfl | rfl | rfl | rfl
        · have hgd : LS.getD 0 [] = p0 := by rw [← HLS.out]; rfl
          have hll : LS.length = 4 := by rw [← HLS.out]; rfl
          cases o0 with
          | false =>
            have HR : Hid (parseL LS 4 0 = (0, false)) := Lib.hid (pa_bad HPA.out (by omega) (by rw [hgd]; exact HHO0.out))
            clear hgd hll hi PAB
            go_wp2_with fail
            refine (HN0.out _).mono ?_
            rintro e w' ⟨rfl, rfl⟩
            go_wp2_with fail
            go_ret2
            exact ⟨tupUB32 (by rw [HLS.out]; exact HR.out), HB1.out⟩
          | true =>
            have hpl := pa_mid HPA.out (by omega) (by omega) (by rw [hgd]; exact HHO0.out)
            rw [hgd, HHN0.out] at hpl
            have HA : Hid (256 ≤ n0 → parseL LS 4 0 = (0, false)) := Lib.hid hpl.1
            have HBB : Hid (n0 < 256 → ParseAt LS (0 + 1) (n + n0 * 16777216)) := Lib.hid hpl.2
            obtain ⟨sum, -, hsna, hs0, hsb⟩ := HPA.out.1 (by omega)
            have hsn : n = sum * 4294967296 := hsna
            have hs1 : sum < 1 := hsb
            clear hgd hll hi hpl PAB
            by_cases hb : 256 ≤ n0
            · have HR := Lib.hid (HA.out hb)
              clear hsn hs0 hs1 hsna hsb
              go_wp2_with fail
              refine (HN0.out _).mono ?_
              rintro e w' ⟨rfl, rfl⟩
              go_wp2_with fail
              go_ret2
              exact ⟨tupUB32 (by rw [HLS.out]; exact HR.out), HB1.out⟩
            · have hb2 : n0 < 256 := by omega
              have HR := Lib.hid (HBB.out hb2)
              have hq : n + n0 * 16777216 < 4294967296 := by omega
              clear hsn hs0 hs1 hsna hsb
              go_wp2_with fail
              refine (HN0.out _).mono ?_
              rintro e w' ⟨rfl, rfl⟩
              go_wp2_with fail
              exact ⟨⟨0 + 1, _, by decide, by first | rfl | go_num, rfl, HR, by omega, hq, by trivial⟩, by simp [intOf]⟩
        · have hgd : LS.getD 1 [] = p1 := by rw [← HLS.out]; rfl
          have hll : LS.length = 4 := by rw [← HLS.out]; rfl
          cases o1 with
          | false =>
            have HR : Hid (parseL LS 4 0 = (0, false)) := Lib.hid (pa_bad HPA.out (by omega) (by rw [hgd]; exact HHO1.out))
            clear hgd hll hi PAB
            go_wp2_with fail
            refine (HN1.out _).mono ?_
            rintro e w' ⟨rfl, rfl⟩
            go_wp2_with fail
            go_ret2
            exact ⟨tupUB32 (by rw [HLS.out]; exact HR.out), HB1.out⟩
          | true =>
            have hpl := pa_mid HPA.out (by omega) (by omega) (by rw [hgd]; exact HHO1.out)
            rw [hgd, HHN1.out] at hpl
            have HA : Hid (256 ≤ n1 → parseL LS 4 0 = (0, false)) := Lib.hid hpl.1
            have HBB : Hid (n1 < 256 → ParseAt LS (1 + 1) (n + n1 * 65536)) := Lib.hid hpl.2
            obtain ⟨sum, -, hsna, hs0, hsb⟩ := HPA.out.1 (by omega)
            have hsn : n = sum * 16777216 := hsna
            have hs1 : sum < 256 := hsb
            clear hgd hll hi hpl PAB
            by_cases hb : 256 ≤ n1
            · have HR := Lib.hid (HA.out hb)
              clear hsn hs0 hs1 hsna hsb
              go_wp2_with fail
              refine (HN1.out _).mono ?_
              rintro e w' ⟨rfl, rfl⟩
              go_wp2_with fail
              go_ret2
              exact ⟨tupUB32 (by rw [HLS.out]; exact HR.out), HB1.out⟩
            · have hb2 : n1 < 256 := by omega
              have HR := Lib.hid (HBB.out hb2)
              have hq : n + n1 * 65536 < 4294967296 := by omega
              clear hsn hs0 hs1 hsna hsb
              go_wp2_with fail
              refine (HN1.out _).mono ?_
              rintro e w' ⟨rfl, rfl⟩
              go_wp2_with fail
              exact ⟨⟨1 + 1, _, by decide, by first | rfl | go_num, rfl, HR, by omega, hq, by trivial⟩, by simp [intOf]⟩
        · have hgd : LS.getD 2 [] = p2 := by rw [← HLS.out]; rfl
          have hll : LS.length = 4 := by rw [← HLS.out]; rfl
          cases o2 with
          | false =>
            have HR : Hid (parseL LS 4 0 = (0, false)) := Lib.hid (pa_bad HPA.out (by omega) (by rw [hgd]; exact HHO2.out))
            clear hgd hll hi PAB
            go_wp2_with fail
            refine (HN2.out _).mono ?_
            rintro e w' ⟨rfl, rfl⟩
            go_wp2_with fail
            go_ret2
            exact ⟨tupUB32 (by rw [HLS.out]; exact HR.out), HB1.out⟩
          | true =>
            have hpl := pa_mid HPA.out (by omega) (by omega) (by rw [hgd]; exact HHO2.out)
            rw [hgd, HHN2.out] at hpl
            have HA : Hid (256 ≤ n2 → parseL LS 4 0 = (0, false)) := Lib.hid hpl.1
            have HBB : Hid (n2 < 256 → ParseAt LS (2 + 1) (n + n2 * 256)) := Lib.hid hpl.2
            obtain ⟨sum, -, hsna, hs0, hsb⟩ := HPA.out.1 (by omega)
            have hsn : n = sum * 65536 := hsna
            have hs1 : sum < 65536 := hsb
            clear hgd hll hi hpl PAB
            by_cases hb : 256 ≤ n2
            · have HR := Lib.hid (HA.out hb)
              clear hsn hs0 hs1 hsna hsb
              go_wp2_with fail
              refine (HN2.out _).mono ?_
              rintro e w' ⟨rfl, rfl⟩
              go_wp2_with fail
              go_ret2
              exact ⟨tupUB32 (by rw [HLS.out]; exact HR.out), HB1.out⟩
            · have hb2 : n2 < 256 := by omega
              have HR := Lib.hid (HBB.out hb2)
              have hq : n + n2 * 256 < 4294967296 := by omega
              clear hsn hs0 hs1 hsna hsb
              go_wp2_with fail
              refine (HN2.out _).mono ?_
              rintro e w' ⟨rfl, rfl⟩
              go_wp2_with fail
              exact ⟨⟨2 + 1, _, by decide, by first | rfl | go_num, rfl, HR, by omega, hq, by trivial⟩, by simp [intOf]⟩
        · have hgd : LS.getD 3 [] = p3 := by rw [← HLS.out]; rfl
          have hll : LS.length = 4 := by rw [← HLS.out]; rfl
          cases o3 with
          | false =>
            have HR : Hid (parseL LS 4 0 = (0, false)) := Lib.hid (pa_bad HPA.out (by omega) (by rw [hgd]; exact HHO3.out))
            clear hgd hll hi PAB
            go_wp2_with fail
            refine (HN3.out _).mono ?_
            rintro e w' ⟨rfl, rfl⟩
            go_wp2_with fail
            go_ret2
            exact ⟨tupUB32 (by rw [HLS.out]; exact HR.out), HB1.out⟩
          | true =>
            have hpl := pa_last HPA.out (by omega) (by rw [hgd]; exact HHO3.out)
            rw [hgd, HHN3.out] at hpl
            have HA : Hid (256 ≤ n3 → parseL LS 4 0 = (0, false)) := Lib.hid hpl.1
            have HBB : Hid (n3 < 256 → ParseAt LS (3 + 1) (n + n3)) := Lib.hid hpl.2
            obtain ⟨sum, -, hsna, hs0, hsb⟩ := HPA.out.1 (by omega)
            have hsn : n = sum * 256 := hsna
            have hs1 : sum < 16777216 := hsb
            clear hgd hll hi hpl PAB
            by_cases hb : 256 ≤ n3
            · have HR := Lib.hid (HA.out hb)
              clear hsn hs0 hs1 hsna hsb
              go_wp2_with fail
              refine (HN3.out _).mono ?_
              rintro e w' ⟨rfl, rfl⟩
              go_wp2_with fail
              go_ret2
              exact ⟨tupUB32 (by rw [HLS.out]; exact HR.out), HB1.out⟩
            · have hb2 : n3 < 256 := by omega
              have HR := Lib.hid (HBB.out hb2)
              have hq : n + n3 < 4294967296 := by omega
              clear hsn hs0 hs1 hsna hsb
              go_wp2_with fail
              refine (HN3.out _).mono ?_
              rintro e w' ⟨rfl, rfl⟩
              go_wp2_with fail
              exact ⟨⟨3 + 1, _, by decide, by first | rfl | go_num, rfl, HR, by omega, hq, by trivial⟩, by simp [intOf]⟩
        · have HR := Lib.hid (HPA.out.2 (by rw [← HLS.out]; rfl))
          clear hi PAB
          have hwr : n % 4294967296 = n := by omega
          go_wp2_with fail
          go_ret2
          exact ⟨tupUB32 (by rw [HLS.out]; exact HR.out), HB1.out⟩
    · exfalso; simp at h4
end Go.Proofs.YtaphadmcjimmeaaGreatDoor
