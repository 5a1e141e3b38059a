/- Contracts of spot. -/
import Derived.Test.YtecfchmocfammaaWalkAt
import Derived.Test.YtecfchmocfammaaSpotM
import Derived.Test.YtecfchmocfammaaFloatN
set_option linter.unusedVariables false
set_option linter.unusedSimpArgs false
namespace Go.Proofs.Ytecfchmocfammaa
open Go.RowKit

theorem F0_eq : F 0 = 0 := by decide +kernel
theorem F1_eq : F 1 = 4607182418800017408 := by decide +kernel
theorem F2_eq : F 2 = 4611686018427387904 := by decide +kernel
def cpx (a b : Int) : Value := .complex .f64 (F a) (F b)
theorem run_cadd (P : Program) (t : TypeId) (a b c d : Int) (h : 0 ≤ a ∧ 0 ≤ b ∧ 0 ≤ c ∧ 0 ≤ d) (h1 : a + c < 9007199254740992) (h2 : b + d < 9007199254740992) (w : World) :
    (binOp .add t (.complex .f64 (F a) (F b)) (.complex .f64 (F c) (F d))).run P w = .ok (.complex .f64 (F (a + c)) (F (b + d))) w := by
  refine run_complex_sum w .add (.inl rfl) t .f64 _ _ _ _ _ _ ?_
  unfold cSumBits floatBits
  simp only [F_add a c h.1 h.2.2.1 h1, F_add b d h.2.1 h.2.2.2 h2]
  rfl
theorem run_fadd (P : Program) (t : TypeId) (a c : Int) (h : 0 ≤ a ∧ 0 ≤ c) (h1 : a + c < 9007199254740992) (w : World) :
    (binOp .add t (.float .f64 (F a)) (.float .f64 (F c))).run P w = .ok (.float .f64 (F (a + c))) w :=
  run_float_arith w .add t .f64 _ _ _ (F_add a c h.1 h.2 h1)
theorem ret_c {a b c d : Nat} (h1 : a = c) (h2 : b = d) : Ending.returned (.complex .f64 a b) = .returned (.complex .f64 c d) := by rw [h1, h2]
theorem cpx_eq {a b c d : Nat} (h1 : a = c) (h2 : b = d) : Value.complex .f64 a b = .complex .f64 c d := by rw [h1, h2]

set_option maxHeartbeats 2000000 in
theorem Behind_any (a b : Int) (l : List UInt8) (w : World) (hm : l.length ≤ 1000000) (ha : 1 ≤ a) (hb : 1 ≤ b) (ha2 : a ≤ 4503599627370496) (hb2 : b ≤ 4503599627370496) :
    Calls Try.prog 20 #[.complex .f64 (F a) (F b), .string ⟨l.toArray⟩] w fun e w' => e = .returned (.complex .f64 (F (posL (a, b) (decL l)).1) (F (posL (a, b) (decL l)).2)) ∧ Below w.heap.size w w' := by
  go_enter Try.func20, Try.ntmps20
  go_wp2_with fail
  go_loopw [0, 5] (fun tp tk wr => ∃ (k : Nat) (x y : Int), k ≤ l.length ∧ tk = .int .i64 k ∧ tp = .complex .f64 (F x) (F y) ∧ 1 ≤ x ∧ x ≤ a + k ∧ 1 ≤ y ∧ y ≤ b + k ∧ Hid (posL (a, b) (decL l) = posL (x, y) (decL (l.drop k))) ∧ Below w.heap.size w wr) (fun _ tk _ => l.length - (intOf tk).toNat)
  case atStart => exact ⟨0, a, b, by omega, rfl, rfl, by omega, by omega, by omega, by omega, Lib.hid (by simp), Below.refl _ _⟩
  case round =>
    obtain ⟨k, x, y, hk, rfl, rfl, hx1, hx2, hy1, hy2, HP, hbel⟩ := hrel
    by_cases hlt : k < l.length
    · obtain ⟨n1, n2, n3⟩ := atN_bd l k hlt
      obtain ⟨r1, r2⟩ := atR_bd l k
      have HD := decL_at l k hlt
      have hkl : (k : Int) < l.length := by omega
      have HAT := Lib.hid (at_any l k · (by omega) hm)
      obtain ⟨r, hr⟩ : ∃ r, atR l k = r := ⟨_, rfl⟩
      obtain ⟨n, hn⟩ : ∃ n, atN l k = n := ⟨_, rfl⟩
      rw [hn] at n1 n2 n3 HD HAT
      rw [hr] at r1 r2 HD HAT
      have HP2 := HP.out
      rw [HD, posL_cons] at HP2
      clear hr hn HD
      by_cases h10 : r = 10
      · have hq : Hid (posL (a, b) (decL l) = posL (x + 1, 1) (decL (l.drop (k + n)))) := Lib.hid (by rw [HP2]; unfold posS; rw [if_pos h10])
        have e0 : (r == 10) = true := by rw [beq_iff_eq]; exact h10
        have e1 : ∀ w, (binOp .add 34 (.float .f64 (F x)) (.float .f64 4607182418800017408)).run Try.prog w = .ok (.float .f64 (F (x + 1))) w := fun w => by rw [← F1_eq]; exact run_fadd _ _ x 1 (by omega) (by omega) w
        clear HP2 h10 HP
        go_wp2_with fail
        refine (HAT.out _).mono ?_
        rintro e w1 ⟨rfl, hb1⟩
        have HB1 := Lib.hid hb1
        clear hb1
        go_wp2_with fail
        exact ⟨⟨k + n, x + 1, 1, by omega, by go_num, cpx_eq rfl F1_eq.symm, by omega, by push_cast; omega, by omega, by omega, hq, ext_trans hbel HB1.out⟩, by simp [intOf]; omega⟩
      · have hq : Hid (posL (a, b) (decL l) = posL (x, y + 1) (decL (l.drop (k + n)))) := Lib.hid (by rw [HP2]; unfold posS; rw [if_neg h10])
        have e0 : (r == 10) = false := by rw [beq_eq_false_iff_ne]; exact h10
        have e1 : ∀ w, (binOp .add 26 (.complex .f64 (F x) (F y)) (.complex .f64 0 4607182418800017408)).run Try.prog w = .ok (.complex .f64 (F x) (F (y + 1))) w := fun w => by
          have := run_cadd Try.prog 26 x y 0 1 (by omega) (by omega) (by omega) w
          rw [F0_eq, F1_eq, Int.add_zero] at this; exact this
        clear HP2 h10 HP
        go_wp2_with fail
        refine (HAT.out _).mono ?_
        rintro e w1 ⟨rfl, hb1⟩
        have HB1 := Lib.hid hb1
        clear hb1
        go_wp2_with fail
        exact ⟨⟨k + n, x, y + 1, by omega, by go_num, rfl, by omega, by push_cast; omega, by omega, by push_cast; omega, hq, ext_trans hbel HB1.out⟩, by simp [intOf]; omega⟩
    · obtain rfl : k = l.length := by omega
      have HE : Hid (posL (a, b) (decL l) = (x, y)) := Lib.hid (by rw [HP.out, List.drop_length]; rfl)
      go_wp2_with fail
      go_ret
      exact ⟨ret_c (by rw [HE.out]) (by rw [HE.out]), hbel⟩

/-- The place of byte k. -/
def cutK (l : List UInt8) (k : Int) : Nat := (min (max k 0) (l.length : Int)).toNat
theorem cutK_bd (l : List UInt8) (k : Int) : 0 ≤ min (max k 0) (l.length : Int) ∧ min (max k 0) (l.length : Int) ≤ l.length ∧ cutK l k ≤ l.length := by unfold cutK; omega
def plcL (l : List UInt8) (k : Int) : Int × Int := posL (1, 1) (decL (l.take (cutK l k)))
set_option maxHeartbeats 1000000 in
theorem At_any (l : List UInt8) (k : Int) (w : World) (hm : l.length ≤ 1000000) (h0 : -9223372036854775808 ≤ k) (h1 : k ≤ 9223372036854775807) :
    Calls Try.prog 11 #[.string ⟨l.toArray⟩, .int .i64 k] w fun e w' => e = .returned (.complex .f64 (F (plcL l k).1) (F (plcL l k).2)) ∧ Below w.heap.size w w' := by
  have HC : Hid (∀ t, l.take (cutK l k) = t → ∀ w, Calls Try.prog 20 #[.complex .f64 4607182418800017408 4607182418800017408, .string ⟨t.toArray⟩] w fun e w' => e = .returned (.complex .f64 (F (plcL l k).1) (F (plcL l k).2)) ∧ Below w.heap.size w w') := Lib.hid (fun t ht w => by
    rw [← F1_eq, ← ht]
    unfold plcL
    exact Behind_any 1 1 (l.take (cutK l k)) w (by rw [List.length_take]; omega) (by decide) (by decide) (by decide) (by decide))
  by_cases c1 : k < 0
  · have HT := Lib.hid (HC.out [] (by rw [show cutK l k = 0 from by unfold cutK; omega]; rfl))
    clear HC
    go_enter Try.func11, Try.ntmps11
    go_wp2_with fail
    all_goals
      refine (HT.out _).mono ?_
      rintro e w1 ⟨rfl, hb⟩
      go_wp2
      go_ret
      exact ⟨rfl, hb⟩
  · obtain ⟨n, rfl⟩ := Int.eq_ofNat_of_zero_le (show 0 ≤ k by omega)
    by_cases c2 : n ≤ l.length
    · have HT := Lib.hid (HC.out (l.take n) (by rw [show cutK l n = n from by unfold cutK; omega]))
      clear HC
      have c3 : (n : Int) ≤ l.length := by omega
      go_enter Try.func11, Try.ntmps11
      go_wp2_with fail
      all_goals
        refine (HT.out _).mono ?_
        rintro e w1 ⟨rfl, hb⟩
        go_wp2
        go_ret
        exact ⟨rfl, hb⟩
    · have HT := Lib.hid (HC.out l (by rw [show cutK l n = l.length from by unfold cutK; omega, List.take_length]))
      clear HC
      have c3 : (l.length : Int) < n := by omega
      go_enter Try.func11, Try.ntmps11
      go_wp2_with fail
      all_goals
        refine (HT.out _).mono ?_
        rintro e w1 ⟨rfl, hb⟩
        go_wp2
        go_ret
        exact ⟨rfl, hb⟩

theorem floatVal (n : Int) (h0 : 0 ≤ n) (h1 : n < 9007199254740992) : floatToIntVal .f64 (F n) .i64 = some n := by
  unfold floatToIntVal
  rw [F_toInt n h0 h1]
  show (if _ then _ else _) = _
  rw [if_pos]
  simp [IntKind.min, IntKind.max, IntKind.signed, IntKind.bits]; omega
theorem read_whole : Ieee.double.read 4845873199050653696 = .number false (2 ^ 52) 1 ∧ Ieee.double.read 14069245235905429504 = .number true (2 ^ 52) 1 := by decide +kernel
theorem order_whole (n : Int) (h0 : 0 ≤ n) (h1 : n < 9007199254740992) : FloatKind.f64.format.order (F n) 14069245235905429504 = some .gt ∧ FloatKind.f64.format.order (F n) 4845873199050653696 = some .lt := by
  obtain ⟨a, rfl⟩ := Int.eq_ofNat_of_zero_le h0
  obtain ⟨t, ht, _, e⟩ := F_rep a (by omega)
  have ha : a < 2 ^ 53 := by omega
  have hp : 0 < 2 ^ t := Nat.two_pow_pos t
  constructor
  · show (Ieee.double.read (F a)).order (Ieee.double.read 14069245235905429504) = _
    rw [e, read_whole.2]
    unfold Ieee.Datum.order
    have b1 : min (-(t : Int)) 1 = -(t : Int) := by omega
    simp only [b1]
    rw [show (-(t : Int) - -(t : Int)).toNat = 0 from by omega, show ((1 : Int) - -(t : Int)).toNat = t + 1 from by omega]
    unfold Ieee.signed
    rw [if_neg (by decide), if_pos rfl, Nat.shiftLeft_zero, Nat.shiftLeft_eq, Int.compare_eq_ite_lt, if_neg, if_pos]
    · have : 0 < 2 ^ 52 * 2 ^ (t + 1) := Nat.mul_pos (by decide) (Nat.two_pow_pos _)
      generalize 2 ^ 52 * 2 ^ (t + 1) = M at *
      omega
    · have : 0 < 2 ^ 52 * 2 ^ (t + 1) := Nat.mul_pos (by decide) (Nat.two_pow_pos _)
      generalize 2 ^ 52 * 2 ^ (t + 1) = M at *
      omega
  · show (Ieee.double.read (F a)).order (Ieee.double.read 4845873199050653696) = _
    rw [e, read_whole.1]
    unfold Ieee.Datum.order
    have b1 : min (-(t : Int)) 1 = -(t : Int) := by omega
    simp only [b1]
    rw [show (-(t : Int) - -(t : Int)).toNat = 0 from by omega, show ((1 : Int) - -(t : Int)).toNat = t + 1 from by omega]
    rw [signed_f, signed_f, Nat.pow_zero, Nat.mul_one, Int.compare_eq_ite_lt, if_pos]
    rw [Int.ofNat_lt]
    have e3 : 2 ^ 52 * 2 ^ (t + 1) = 2 ^ 53 * 2 ^ t := by rw [← Nat.pow_add, ← Nat.pow_add]; congr 1; omega
    rw [e3]
    exact Nat.mul_lt_mul_of_pos_right ha hp
set_option maxHeartbeats 1000000 in
theorem number_any (n : Int) (w : World) (h0 : 0 ≤ n) (h1 : n < 9007199254740992) :
    Calls Try.prog 26 #[.float .f64 (F n)] w fun e w' => e = .returned (.int .i64 n) ∧ w = w' := by
  obtain ⟨o1, o2⟩ := order_whole n h0 h1
  have e1 : ∀ w, (convert 34 3 (.float .f64 (F n))).run Try.prog w = .ok (.int .i64 n) w := fun w => run_convert_float_int w _ _ .f64 .i64 _ n (by rw [Try.underlying34]; rfl) Try.underlying3 (floatVal n h0 h1)
  generalize F n = f at *
  go_enter Try.func26, Try.ntmps26
  go_wp2
  go_ret
  exact ⟨rfl, by trivial⟩
theorem Line_any (m n : Int) (w : World) (h0 : 0 ≤ m) (h1 : m < 9007199254740992) :
    Calls Try.prog 14 #[.complex .f64 (F m) (F n)] w fun e w' => e = .returned (.int .i64 m) ∧ w = w' := by
  have HN := Lib.hid (number_any m · h0 h1)
  generalize F m = f at *
  go_enter Try.func14, Try.ntmps14
  go_wp2_with fail
  refine (HN.out _).mono ?_
  rintro e w' ⟨rfl, rfl⟩
  go_wp2
  go_ret
  exact ⟨rfl, by trivial⟩
theorem Column_any (m n : Int) (w : World) (h0 : 0 ≤ n) (h1 : n < 9007199254740992) :
    Calls Try.prog 15 #[.complex .f64 (F m) (F n)] w fun e w' => e = .returned (.int .i64 n) ∧ w = w' := by
  have HN := Lib.hid (number_any n · h0 h1)
  generalize F n = f at *
  go_enter Try.func15, Try.ntmps15
  go_wp2_with fail
  refine (HN.out _).mono ?_
  rintro e w' ⟨rfl, rfl⟩
  go_wp2
  go_ret
  exact ⟨rfl, by trivial⟩
theorem lnumber_any (m n : Int) (w : World) (h0 : -9007199254740992 < m) (h1 : m < 9007199254740992) (h2 : -9007199254740992 < n) (h3 : n < 9007199254740992) :
    Calls Try.prog 13 #[.int .i64 m, .int .i64 n] w fun e w' => e = .returned (.complex .f64 (F m) (F n)) ∧ w = w' := by
  go_enter Try.func13, Try.ntmps13
  go_wp2
  go_ret
  exact ⟨ret_c rfl rfl, by trivial⟩
end Go.Proofs.Ytecfchmocfammaa
