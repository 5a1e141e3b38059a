/- The walk of SpotLines. -/
import Derived.Test.YtecfchmocfammaaLaw3a
import Derived.Test.YtecfchmocfammaaRefBy
import Derived.Test.YtecfchmocfammaaScalar
set_option linter.unusedVariables false
set_option linter.unusedSimpArgs false
namespace Go.Proofs.Ytecfchmocfammaa
open Go.RowKit

/-- A text of code points, and the place behind it. -/
def Txt (t : List UInt8) (p : Int × Int) : Prop := ∃ rs : List Int, (∀ r ∈ rs, okR r) ∧ t = encL rs ∧ posL (1, 1) rs = p
theorem txt_nil : Txt [] (1, 1) := ⟨[], by simp, rfl, rfl⟩
theorem txt_app {t : List UInt8} {p : Int × Int} (h : Txt t p) {r : Int} (hr : okR r) : Txt (t ++ encR r) (posS p r) := by
  obtain ⟨rs, h1, rfl, h2⟩ := h
  refine ⟨rs ++ [r], ?_, ?_, ?_⟩
  · intro x hx
    rcases List.mem_append.1 hx with hx | hx
    · exact h1 x hx
    · simp at hx; subst hx; exact hr
  · rw [encL_append]
    congr 1
    show encR r = encR (fixR r) ++ []
    rw [fixR_of hr, List.append_nil]
  · rw [posL_append, h2]; rfl
theorem txt_place {t : List UInt8} {p : Int × Int} (h : Txt t p) : posL (1, 1) (decL t) = p := by
  obtain ⟨rs, h1, rfl, h2⟩ := h
  rw [(decL_encL rs).1, ← h2]
  congr 1
  have : rs.map fixR = rs.map id := List.map_congr_left (fun r hr => fixR_of (h1 r hr))
  rw [this, List.map_id]
theorem txt_end {t : List UInt8} {p : Int × Int} (h : Txt t p) (k : Int) (hk : t.length ≤ k) : plcL t k = p := by
  unfold plcL
  rw [show cutK t k = t.length from by unfold cutK; omega, List.take_length]
  exact txt_place h
theorem plc_neg (t : List UInt8) (k : Int) (hk : k < 0) : plcL t k = (1, 1) := by
  unfold plcL
  rw [show cutK t k = 0 from by unfold cutK; omega]
  rfl

set_option maxRecDepth 100000 in
set_option maxHeartbeats 4000000 in
theorem lines_walk (a0 : Option Addr) (n cap0 : Nat) (zs : List Int) (x y : Int) (w : World) (hzl : zs.length = n) (hz : ∀ z ∈ zs, -9223372036854775808 ≤ z ∧ z ≤ 9223372036854775807) (hv : IsSl w (.slice a0 n cap0) n (fun i => .int .i64 (zs.getD i 0)))
    (n00 : -9223372036854775808 ≤ x) (n01 : x ≤ 9223372036854775807) (n10 : -9223372036854775808 ≤ y) (n11 : y ≤ 9223372036854775807) :
    Calls Try.prog 6 #[.slice a0 n cap0, .int .i64 x, .int .i64 y] w fun e w' => e = .returned (.bool true) ∧ Below w.heap.size w w' := by
  obtain ⟨a', c', hv', q1, q2, q3, q4⟩ := hv
  injection hv' with e1 e2 e3
  subst e1; subst e3
  unfold maxLen at q2
  have HC : Hid (0 < n → ∃ b off, a0 = some ⟨b, off, none⟩ ∧ Cells w b off n (fun i => .int .i64 (zs.getD i 0))) := Lib.hid q4
  clear q3 q4 e2
  by_cases hlen : 12 < n
  · go_enter Try.func6, Try.ntmps6
    go_wp2_with fail
    refine (awake3_any _).mono ?_
    rintro e w1 ⟨rfl, hb⟩
    go_wp2
    go_ret
    exact ⟨rfl, hb⟩
  · have SC := Lib.hid (scalar_any x · n00 n01)
    have hok := scalarN_ok x
    generalize scalarN x = r at *
    have HZ : Hid (∀ i, i < n → ∀ w, Calls Try.prog 18 #[.int .i64 (zs.getD i 0), .int .i64 21] w fun e w' => e = .returned (.int .i64 (lowN (zs.getD i 0) 21)) ∧ w = w') := Lib.hid (fun i hi w => by
      have := hz (zs[i]'(by omega)) (List.getElem_mem _)
      rw [List.getD_eq_getElem?_getD, List.getElem?_eq_getElem (by omega)]
      exact low_any _ 21 w this.1 this.2 (by decide) (by decide))
    have HZB : Hid (∀ i, 0 ≤ lowN (zs.getD i 0) 21 ∧ lowN (zs.getD i 0) 21 < 21) := Lib.hid (fun i => lowN_bd _ 21 (by decide))
    have L30 := Lib.hid (low_any y 30 · n10 n11 (by decide) (by decide))
    have L9 := Lib.hid (low_any y 9 · n10 n11 (by decide) (by decide))
    obtain ⟨c1, c2⟩ := lowN_bd y 30 (by decide)
    obtain ⟨c3, c4⟩ := lowN_bd y 9 (by decide)
    generalize lowN y 30 = N at *
    generalize lowN y 9 = M at *
    have c2' : N ≤ 29 := by omega
    have c4' : M ≤ 8 := by omega
    clear c2 c4 hz
    have HNL : Hid (∀ t p, Txt t p → Txt (t ++ [10]) (p.1 + 1, 1)) := Lib.hid (fun t p h => by
      have := txt_app (r := 10) h (by unfold okR; omega)
      exact this)
    have HAT : Hid (∀ (t : List UInt8) (p : Int × Int) (k : Int) w, Txt t p → t.length ≤ 2000 → (t.length : Int) ≤ k → k ≤ 3000 → Calls Try.prog 11 #[.string ⟨t.toArray⟩, .int .i64 k] w fun e w' => e = .returned (.complex .f64 (F p.1) (F p.2)) ∧ Below w.heap.size w w') := Lib.hid (fun t p k w h h1 h2 h3 => by
      have := At_any t k w (by omega) (by omega) (by omega)
      rw [txt_end h k h2] at this
      exact this)
    have HAN : Hid (∀ (t : List UInt8) (k : Int) w, t.length ≤ 2000 → k < 0 → -100 ≤ k → Calls Try.prog 11 #[.string ⟨t.toArray⟩, .int .i64 k] w fun e w' => e = .returned (.complex .f64 4607182418800017408 4607182418800017408) ∧ Below w.heap.size w w') := Lib.hid (fun t k w h1 h2 h3 => by
      have := At_any t k w (by omega) (by omega) (by omega)
      rw [plc_neg t k h2, F1_eq] at this
      exact this)
    obtain ⟨R, hokR, hne, hc⟩ : ∃ R, okR R ∧ R ≠ 10 ∧ ((r = 10 ∧ R = 13) ∨ (r ≠ 10 ∧ R = r)) := by
      by_cases h10 : r = 10
      · exact ⟨13, by unfold okR; omega, by decide, .inl ⟨h10, rfl⟩⟩
      · exact ⟨r, hok, h10, .inr ⟨h10, rfl⟩⟩
    have HA : Hid (∀ t p, Txt t p → Txt (t ++ encR R) (p.1, p.2 + 1)) := Lib.hid (fun t p h => by
      have := txt_app (r := R) h hokR
      unfold posS at this
      rw [if_neg hne] at this
      exact this)
    have hE := (encR_len R).2
    have HB : Hid (∀ w, Calls Try.prog 22 #[.int .i32 R] w fun e w' => ∃ v', e = .returned v' ∧ Own w' w.heap.size 5 v' ((encR R).map u8V) ∧ Below w.heap.size w w') := Lib.hid (fun w => by
      have := bytes_any R w (by unfold okR at hokR; omega) (by unfold okR at hokR; omega)
      rw [fixR_of hokR] at this; exact this)
    generalize encR R = E at *
    clear hok hokR hne
    rcases hc with ⟨h10, rfl⟩ | ⟨h10, rfl⟩
    all_goals
      first
        | (have e0 : (r == 10) = true := by rw [beq_iff_eq]; exact h10)
        | (have e0 : (R == 10) = false := by rw [beq_eq_false_iff_ne]; exact h10)
      clear h10
      go_enter Try.func6, Try.ntmps6
      go_wp2_with fail
      refine (SC.out _).mono ?_
      rintro e w' ⟨rfl, rfl⟩
      go_wp2_with fail
      refine (HB.out _).mono ?_
      rintro e w1 ⟨v1, rfl, ho, hb⟩
      have H1 := Lib.hid ho.is8
      have HB1 := Lib.hid hb
      clear ho hb
      go_wp2_with (refine wpList_toStr _ (by rfl) _ _ _ rfl 5 Try.underlying37 Try.underlying5 Try.underlying9 _ rfl E H1.out ?_)
      go_loopw [9, 10, 11] (fun ts ti tk wr => ∃ (i : Nat) (t : List UInt8), i ≤ n ∧ ti = .int .i64 i ∧ ts = .string ⟨t.toArray⟩ ∧ Hid (Txt t (1 + i, 1)) ∧ t.length ≤ 81 * i ∧ wr = w1) (fun _ ti _ _ => n - (intOf ti).toNat)
      case atStart => exact ⟨0, [], by omega, rfl, rfl, Lib.hid txt_nil, by simp, rfl⟩
      case round =>
        obtain ⟨i, t, hi, rfl, rfl, HT, htl, rfl⟩ := hrel
        by_cases hlt : i < n
        · obtain ⟨b, off, rfl, hc⟩ := HC.out (by omega)
          have hcell : wr.cell? ⟨b, off + i, none⟩ = some (.int .i64 (zs.getD i 0)) := (hc.below HB1.out (hc.lt (by omega))).at i hlt
          have HL := Lib.hid (HZ.out i hlt)
          have hlb := HZB.out i
          clear hc HC HZ HZB
          obtain ⟨z, hz⟩ : ∃ z, zs.getD i 0 = z := ⟨_, rfl⟩
          rw [hz] at hcell HL hlb
          clear hz
          obtain ⟨q, hq⟩ : ∃ q, lowN z 21 = q := ⟨_, rfl⟩
          rw [hq] at HL hlb
          clear hq
          obtain ⟨q0, q21⟩ := hlb
          go_wp2_with fail
          go_loopw [9, 11] (fun ts tk wr' => ∃ (k : Nat) (t' : List UInt8), (k : Int) ≤ q ∧ tk = .int .i64 k ∧ ts = .string ⟨t'.toArray⟩ ∧ Hid (Txt t' (1 + i, 1 + k)) ∧ t'.length ≤ 81 * i + 4 * k ∧ wr' = wr) (fun _ tk _ => q.toNat - (intOf tk).toNat)
          case atStart => exact ⟨0, t, by omega, rfl, rfl, HT, by omega, rfl⟩
          case round =>
            obtain ⟨k, t', hk, rfl, rfl, HT', htl', rfl⟩ := hrel
            have hap := Lib.hid (HA.out _ _ HT'.out)
            have hnl := Lib.hid (HNL.out _ _ HT'.out)
            have hcat : t'.length + E.length ≤ 9223372036854775807 := by omega
            have hcat2 : t'.length + [(10 : UInt8)].length ≤ 9223372036854775807 := by simp; omega
            by_cases hkq : (k : Int) < q
            · go_wp2_with fail
              refine (HL.out _).mono ?_
              rintro e w' ⟨rfl, rfl⟩
              go_wp2_with fail
              exact ⟨⟨k + 1, _, by push_cast; omega, by go_num, rfl, Lib.hid (by have := hap.out; push_cast; rw [← Int.add_assoc]; exact this), by simp; omega, by trivial⟩, by simp [intOf]; omega⟩
            · obtain rfl : q = (k : Int) := by omega
              go_wp2_with fail
              refine (HL.out _).mono ?_
              rintro e w' ⟨rfl, rfl⟩
              go_wp2_with fail
              exact ⟨⟨i + 1, _, by omega, by go_num, rfl, Lib.hid (by have := hnl.out; push_cast; rw [← Int.add_assoc]; simpa using this), by simp; omega, by trivial⟩, by simp [intOf]; omega⟩
        · obtain rfl : i = n := by omega
          clear HZ HZB HC HNL HB
          have CA := Lib.hid (HAT.out t _ (t.length : Int) · HT.out (by omega) (Int.le_refl _) (by omega))
          have CN := Lib.hid (lnumber_any (1 + (i : Int)) 1 · (by omega) (by omega) (by omega) (by omega))
          have o1 := F_self 1 (by omega) (by omega)
          have oi := F_self (1 + (i : Int)) (by omega) (by omega)
          rw [F1_eq] at o1 CN
          have CA2 := CA.out
          simp only [F1_eq] at CA2
          have CAH := Lib.hid CA2
          clear CA CA2
          go_wp2_with fail
          refine (CAH.out _).mono ?_
          rintro e w2 ⟨rfl, hb2⟩
          have HB2 := Lib.hid hb2
          clear hb2
          go_wp2_with fail
          refine (CN.out _).mono ?_
          rintro e w' ⟨rfl, rfl⟩
          go_wp2_with fail
          refine (L30.out _).mono ?_
          rintro e w' ⟨rfl, rfl⟩
          go_wp2_with fail
          go_loopw [9, 13] (fun ts tk wr' => ∃ (k : Nat) (t' : List UInt8), (k : Int) ≤ N ∧ tk = .int .i64 k ∧ ts = .string ⟨t'.toArray⟩ ∧ Hid (Txt t' (1 + i, 1 + k)) ∧ t'.length ≤ 81 * i + 4 * k ∧ wr' = w2) (fun _ tk _ => N.toNat - (intOf tk).toNat)
          case atStart => exact ⟨0, t, by omega, rfl, rfl, HT, by omega, rfl⟩
          case round =>
            obtain ⟨k, t', hk, rfl, rfl, HT', htl', rfl⟩ := hrel
            have hcat : t'.length + E.length ≤ 9223372036854775807 := by omega
            by_cases hkq : (k : Int) < N
            · have hap := Lib.hid (HA.out _ _ HT'.out)
              go_wp2_with fail
              exact ⟨⟨k + 1, _, by push_cast; omega, by go_num, rfl, Lib.hid (by have := hap.out; push_cast; rw [← Int.add_assoc]; exact this), by simp; omega, by trivial⟩, by simp [intOf]; omega⟩
            · obtain rfl : N = (k : Int) := by omega
              have C1 := Lib.hid (HAT.out t' _ (t'.length : Int) · HT'.out (by omega) (Int.le_refl _) (by omega))
              have C2 := Lib.hid (HAT.out t' _ ((t'.length : Int) + M) · HT'.out (by omega) (by omega) (by omega))
              have C3 := Lib.hid (HAN.out t' (-1 - M) · (by omega) (by omega) (by omega))
              have CK := Lib.hid (lnumber_any (1 + (i : Int)) (1 + (k : Int)) · (by omega) (by omega) (by omega) (by omega))
              have ok := F_self (1 + (k : Int)) (by omega) (by omega)
              generalize F (1 + (i : Int)) = fi at *
              generalize F (1 + (k : Int)) = fk at *
              go_wp2_with fail
              refine (C1.out _).mono ?_
              rintro e w3 ⟨rfl, hb3⟩
              have HB3 := Lib.hid hb3
              clear hb3
              go_wp2_with fail
              refine (CK.out _).mono ?_
              rintro e w' ⟨rfl, rfl⟩
              go_wp2_with fail
              refine (L9.out _).mono ?_
              rintro e w' ⟨rfl, rfl⟩
              go_wp2_with fail
              refine (C2.out _).mono ?_
              rintro e w4 ⟨rfl, hb4⟩
              have HB4 := Lib.hid hb4
              clear hb4
              go_wp2_with fail
              refine (CK.out _).mono ?_
              rintro e w' ⟨rfl, rfl⟩
              go_wp2_with fail
              refine (L9.out _).mono ?_
              rintro e w' ⟨rfl, rfl⟩
              go_wp2_with fail
              refine (C3.out _).mono ?_
              rintro e w5 ⟨rfl, hb5⟩
              have HB5 := Lib.hid hb5
              clear hb5
              go_wp2_with fail
              refine (awake3_any _).mono ?_
              rintro e w6 ⟨rfl, hb⟩
              go_wp2
              go_ret
              exact ⟨rfl, ext_trans (ext_trans (ext_trans (ext_trans (ext_trans HB1.out HB2.out) HB3.out) HB4.out) HB5.out) hb⟩
theorem SpotLines_walk (a0 : Option Addr) (len0 cap0 : Nat) (z0 : List Int) (a1 a2 : Int) (w : World) (w0 : IsRow .i64 w a0 len0 cap0 z0) (w1 : (Lit.int .i64 a1).wf = true) (w2 : (Lit.int .i64 a2).wf = true) :
    Calls Try.prog 6 #[.slice a0 len0 cap0, .int .i64 a1, .int .i64 a2] w fun e w' => e = .returned (.bool true) ∧ Below w.heap.size w w' := by
  obtain ⟨n00, n01⟩ := wf64 w1
  obtain ⟨n10, n11⟩ := wf64 w2
  obtain ⟨h1, h2, h3⟩ := isRow_sl w0
  exact lines_walk a0 len0 cap0 _ a1 a2 w h1 (fun z hz => wf64 (h2 z hz)) h3 n00 n01 n10 n11
end Go.Proofs.Ytecfchmocfammaa
