/- The walk of SegsDrives. -/
import Derived.Test.YtamnamnojbdfmaaLaw11
import Derived.Deep.DeepCutAuto
set_option linter.unusedVariables false
set_option linter.unusedSimpArgs false
namespace Go.Proofs.Ytamnamnojbdfmaa
open Go.RowKit

theorem lit8 (W : World) (b : Nat) (l : List UInt8) (n : Nat) (e : TypeId) (m : Nat × Nat) (hb : W.heap[b]? = some (.cells (l.map u8V).toArray e m)) (hn : l.length = n) (h4 : n ≤ 1000) :
    Is8 W (.slice (some ⟨b, 0, none⟩) n n) l := by
  subst hn
  refine ⟨_, _, rfl, Nat.le_refl _, by unfold maxLen; omega, (fun h => by cases h), fun _ => ⟨b, 0, rfl, fun i hi => ?_⟩⟩
  rw [Nat.zero_add, cell_of_row W b i _ e m hb]
  simp [u8At, byt, u8V, List.getD, hi]

def isD (a b : Int) : Bool := letN a && (decide (b = 58) || decide (b = 124))
theorem drives_facts (a b c : Int) (ha : 0 ≤ a ∧ a ≤ 255) (hb : 0 ≤ b ∧ b ≤ 255) (hc : 0 ≤ c ∧ c ≤ 255) :
    driveB [mkB a, mkB b] = isD a b ∧ fixedB [mkB a, mkB b] = (isD a b && decide (b = 58)) ∧ beginsB [mkB a, mkB b] = isD a b ∧ driveB [mkB a, mkB b, mkB c] = false ∧
    beginsB [mkB a, mkB b, mkB c] = (isD a b && endB c) ∧ beginsB [mkB a] = false := by
  have e0 : ∀ t, byt (mkB a :: t) 0 = a := fun t => mkB_val ha.1 ha.2
  have e1 : ∀ t, byt (mkB a :: mkB b :: t) 1 = b := fun t => mkB_val hb.1 hb.2
  have e2 : ∀ t, byt (mkB a :: mkB b :: mkB c :: t) 2 = c := fun t => mkB_val hc.1 hc.2
  have d1 : driveB [mkB a, mkB b] = isD a b := by unfold driveB isD; rw [e0, e1]; rfl
  refine ⟨d1, ?_, ?_, rfl, ?_, rfl⟩
  · unfold fixedB; rw [d1, e1]
  · show (decide (2 ≤ 2) && driveB [mkB a, mkB b] && (decide (2 = 2) || _)) = _
    rw [d1]; simp
  · show (decide (2 ≤ 3) && driveB [mkB a, mkB b] && (decide (3 = 2) || endB (byt [mkB a, mkB b, mkB c] 2))) = _
    rw [d1, e2]; simp

set_option maxRecDepth 100000 in
set_option maxHeartbeats 4000000 in
theorem SegsDrives_walk (a0 a1 a2 : Int) (w : World) (w0 : (Lit.int .u8 a0).wf = true) (w1 : (Lit.int .u8 a1).wf = true) (w2 : (Lit.int .u8 a2).wf = true) :
    Calls Try.prog 6 #[.int .u8 a0, .int .u8 a1, .int .u8 a2] w fun e w' => e = .returned (.bool true) ∧ Below w.heap.size w w' := by
  have n0 := wf8 w0
  have n1 := wf8 w1
  have n2 := wf8 w2
  clear w0 w1 w2
  have HA := Lib.hid (drives_facts a0 a1 a2 n0 n1 n2)
  have hv0 := Lib.hid (u8V_mk n0.1 n0.2)
  have hv1 := Lib.hid (u8V_mk n1.1 n1.2)
  have hv2 := Lib.hid (u8V_mk n2.1 n2.2)
  have l1 : [mkB a0].length ≤ 1000000 := by simp
  have l2 : [mkB a0, mkB a1].length ≤ 1000000 := by simp
  have l3 : [mkB a0, mkB a1, mkB a2].length ≤ 1000000 := by simp
  have hl : (97 ≤ a0 ∧ a0 ≤ 122 ∧ Hid (letN a0 = true)) ∨ (65 ≤ a0 ∧ a0 ≤ 90 ∧ Hid (letN a0 = true)) ∨ (a0 < 65 ∧ Hid (letN a0 = false)) ∨ (90 < a0 ∧ a0 < 97 ∧ Hid (letN a0 = false)) ∨ (122 < a0 ∧ Hid (letN a0 = false)) := by
    unfold Hid
    by_cases p : (97 ≤ a0 ∧ a0 ≤ 122) ∨ (65 ≤ a0 ∧ a0 ≤ 90)
    · rw [letN_t p]; simp; omega
    · rw [letN_f p]; simp; omega
  have hb : ((a1 == 58) = true ∧ (a1 == 124) = false ∧ Hid (isD a0 a1 = letN a0)) ∨ ((a1 == 58) = false ∧ (a1 == 124) = true ∧ Hid (isD a0 a1 = letN a0)) ∨ ((a1 == 58) = false ∧ (a1 == 124) = false ∧ Hid (isD a0 a1 = false)) := by
    unfold isD Hid
    by_cases p : a1 = 58
    · left; simp [p]
    · by_cases q : a1 = 124
      · right; left; simp [q]
      · right; right; simp [p, q]
  have hc : ((a2 == 47) = true ∧ Hid (endB a2 = true)) ∨ ((a2 == 47) = false ∧ (a2 == 92) = true ∧ Hid (endB a2 = true)) ∨ ((a2 == 47) = false ∧ (a2 == 92) = false ∧ (a2 == 63) = true ∧ Hid (endB a2 = true)) ∨ ((a2 == 47) = false ∧ (a2 == 92) = false ∧ (a2 == 63) = false ∧ (a2 == 35) = true ∧ Hid (endB a2 = true)) ∨ ((a2 == 47) = false ∧ (a2 == 92) = false ∧ (a2 == 63) = false ∧ (a2 == 35) = false ∧ Hid (endB a2 = false)) := by
    unfold endB Hid
    by_cases p : a2 = 47
    · left; simp [p]
    by_cases q : a2 = 92
    · right; left; simp [q]
    by_cases r : a2 = 63
    · right; right; left; simp [r]
    by_cases t : a2 = 35
    · right; right; right; left; simp [t]
    · right; right; right; right; simp [p, q, r, t]
  have HLc := Lib.hid hl
  have HBc := Lib.hid hb
  have HCc := Lib.hid hc
  clear hl hb hc
  generalize isD a0 a1 = I at *
  generalize endB a2 = E at *
  generalize letN a0 = L at *
  obtain ⟨n00, n01⟩ := n0
  obtain ⟨n10, n11⟩ := n1
  obtain ⟨n20, n21⟩ := n2
  have hv := fun (x : World) (b : Nat) (m : Nat × Nat) (h : x.heap[b]? = some (.cells #[.int .u8 a0, .int .u8 a1] 5 m)) => lit8 x b [mkB a0, mkB a1] 2 5 m (by rw [h, ← hv0.out, ← hv1.out]; rfl) rfl (by decide)
  have hv' := fun (x : World) (b : Nat) (m : Nat × Nat) (h : x.heap[b]? = some (.cells #[.int .u8 a0, .int .u8 a1, .int .u8 a2] 5 m)) => lit8 x b [mkB a0, mkB a1, mkB a2] 3 5 m (by rw [h, ← hv0.out, ← hv1.out, ← hv2.out]; rfl) rfl (by decide)
  have HV := Lib.hid hv
  have HV' := Lib.hid hv'
  clear hv hv' hv0 hv1 hv2
  go_enter Try.func6, Try.ntmps6
  go_upto_region 1 with fail
  go_cut [7] (fun s7 wx => s7 = .bool L ∧ wx = w)
  case first =>
    rcases HLc.out with ⟨p1, p2, pl⟩ | ⟨p1, p2, pl⟩ | ⟨p1, pl⟩ | ⟨p1, p2, pl⟩ | ⟨p1, pl⟩
    all_goals
      go_wp2
      go_meet
      exact ⟨by first | (rw [pl.out]; done) | (rw [pl.out]; simp; omega), rfl⟩
  case rest =>
    obtain ⟨rfl, rfl⟩ := hcut
    go_upto_region 4 with (first
      | (refine wpList_toStr _ (by rfl) _ _ _ rfl 5 Try.underlying31 Try.underlying5 Try.underlying9 _ rfl _ (HV.out _ _ (0, 0) (by rw [heap_alloc_at, if_pos (by simp)])) ?_)
      | (refine wpList_toStr _ (by rfl) _ _ _ rfl 5 Try.underlying31 Try.underlying5 Try.underlying9 _ rfl _ (HV'.out _ _ (0, 0) (by rw [heap_alloc_at, if_pos (by simp)])) ?_))
    go_cut [10] (fun s10 wy => s10 = .bool I ∧ ExtC wc wy)
    case first =>
      cases hL : L with
      | true =>
        subst hL
        rcases HBc.out with ⟨p1, p2, pl⟩ | ⟨p1, p2, pl⟩ | ⟨p1, p2, pl⟩
        all_goals
          go_wp2
          go_meet
          exact ⟨by rw [pl.out], by repeat (first | exact extC_refl _ | refine ext_trans ?_ (ext_alloc _ _))⟩
      | false =>
        subst hL
        have hI : I = false := by rcases HBc.out with ⟨p1, p2, pl⟩ | ⟨p1, p2, pl⟩ | ⟨p1, p2, pl⟩ <;> exact pl.out
        have HI := Lib.hid hI
        clear hI
        go_wp2
        go_meet
        exact ⟨by rw [HI.out], by repeat (first | exact extC_refl _ | refine ext_trans ?_ (ext_alloc _ _))⟩
    case rest =>
      obtain ⟨rfl, hx⟩ := hcut
      have HX := Lib.hid hx
      clear hx
      go_upto_region 5 with fail
      go_cut [11] (fun s11 wz => s11 = .bool E ∧ wz = wc)
      case first =>
        rcases HCc.out with ⟨p1, pl⟩ | ⟨p1, p2, pl⟩ | ⟨p1, p2, p3, pl⟩ | ⟨p1, p2, p3, p4, pl⟩ | ⟨p1, p2, p3, p4, pl⟩
        all_goals
          go_wp2
          go_meet
          exact ⟨by rw [pl.out], rfl⟩
      case rest =>
        obtain ⟨rfl, rfl⟩ := hcut
        have hb58 : (a1 == 58) = true ∨ (a1 == 58) = false := by cases (a1 == 58) <;> simp
        have HF2 : Hid (fixedB [mkB a0, mkB a1] = (I && (a1 == 58))) := Lib.hid (by rw [HA.out.2.1]; rfl)
        clear HLc HBc HCc
        cases I <;> cases E <;> rcases hb58 with p | p
        all_goals
          rw [p] at HF2
          go_wp2_with (first
            | (go_at_call 12; (with_reducible refine (Drive_any ([mkB a0, mkB a1]) _ l2).mono ?_); rintro e w' ⟨rfl, rfl⟩; rw [HA.out.1])
            | (go_at_call 14; (with_reducible refine (Fixed_any ([mkB a0, mkB a1]) _ l2).mono ?_); rintro e w' ⟨rfl, rfl⟩; rw [HF2.out])
            | (go_at_call 16; (with_reducible refine (Begins_any ([mkB a0, mkB a1]) _ l2).mono ?_); rintro e w' ⟨rfl, rfl⟩; rw [HA.out.2.2.1])
            | (go_at_call 12; (with_reducible refine (Drive_any ([mkB a0, mkB a1, mkB a2]) _ l3).mono ?_); rintro e w' ⟨rfl, rfl⟩; rw [HA.out.2.2.2.1])
            | (go_at_call 16; (with_reducible refine (Begins_any ([mkB a0, mkB a1, mkB a2]) _ l3).mono ?_); rintro e w' ⟨rfl, rfl⟩; rw [HA.out.2.2.2.2.1])
            | (go_at_call 16; (with_reducible refine (Begins_any ([mkB a0]) _ l1).mono ?_); rintro e w' ⟨rfl, rfl⟩; rw [HA.out.2.2.2.2.2])
            | (go_at_call 7; refine (awake_any _).mono ?_; rintro e w1 ⟨rfl, hb⟩))
          go_ret
          exact ⟨rfl, ext_trans HX.out (by assumption)⟩
end Go.Proofs.Ytamnamnojbdfmaa
