/- Whole numbers below 2^53 as floats: what they are read as, their order, their sum. No program. -/
import GoSem.Core.Float
import Derived.Lib.Hide
set_option linter.unusedVariables false
set_option linter.unusedSimpArgs false
namespace Go.Proofs.Ytecfchmocfammaa
open Ieee

/-- A whole number as a float of 64 bits. -/
def F (n : Int) : Nat := FloatKind.f64.nearest n
def Rep (d : Datum) (n : Nat) : Prop := ∃ t : Nat, t ≤ 1074 ∧ (n ≠ 0 → t ≤ 52) ∧ d = .number false (n * 2 ^ t) (-(t : Int))

theorem log2_scale (n t : Nat) (h : n ≠ 0) : (n * 2 ^ t).log2 = n.log2 + t := by
  have hp : 0 < 2 ^ t := Nat.two_pow_pos t
  have h2 : n * 2 ^ t ≠ 0 := by
    have := Nat.mul_pos (Nat.pos_of_ne_zero h) hp; omega
  have a := Nat.log2_self_le h
  have b := @Nat.lt_log2_self n
  rw [Nat.log2_eq_iff h2]
  refine ⟨?_, ?_⟩
  · rw [Nat.pow_add]; exact Nat.mul_le_mul_right _ a
  · rw [show n.log2 + t + 1 = (n.log2 + 1) + t from by omega, Nat.pow_add]; exact Nat.mul_lt_mul_of_pos_right b hp
theorem cut_exact (way : Toward) (neg : Bool) (q d : Nat) (hq : q ≠ 0) : way.cut neg (q * 2 ^ d) d = q := by
  have hl := log2_scale q d hq
  have hd : min d ((q * 2 ^ d).log2 + 2) = d := by rw [hl]; omega
  have hp : 0 < 2 ^ d := Nat.two_pow_pos d
  unfold Toward.cut
  simp only [hd, Nat.one_shiftLeft, Nat.mul_div_cancel _ hp, Nat.mul_mod_left]
  cases way <;> simp
theorem fb : double.fractionBits = 52 := rfl
theorem lp : double.leastPlace = -1074 := by decide
theorem bin : double.binade = 2 ^ 52 := rfl
theorem inf : double.infRung = 2047 * 2 ^ 52 := by decide
theorem sw : double.signWeight = 2 ^ 63 := rfl
/-- The rung of a whole number. -/
def rungN (n : Nat) : Nat := if n = 0 then 0 else (n.log2 + 1022) * 2 ^ 52 + n * 2 ^ (52 - n.log2)
theorem log_lt {n : Nat} (h : n ≠ 0) (h1 : n < 2 ^ 53) : n.log2 ≤ 52 := by
  have := Nat.log2_self_le h
  rcases Nat.lt_or_ge 52 n.log2 with c | c
  · exfalso
    have : 2 ^ 53 ≤ 2 ^ n.log2 := Nat.pow_le_pow_right (by decide) c
    omega
  · exact c
theorem mant_bd {n : Nat} (h : n ≠ 0) (h1 : n < 2 ^ 53) : 2 ^ 52 ≤ n * 2 ^ (52 - n.log2) ∧ n * 2 ^ (52 - n.log2) < 2 ^ 53 := by
  have hl := log_lt h h1
  have a := Nat.log2_self_le h
  have b := @Nat.lt_log2_self n
  have hp : 0 < 2 ^ (52 - n.log2) := Nat.two_pow_pos _
  constructor
  · have := Nat.mul_le_mul_right (2 ^ (52 - n.log2)) a
    rw [← Nat.pow_add, show n.log2 + (52 - n.log2) = 52 from by omega] at this
    exact this
  · have := Nat.mul_lt_mul_of_pos_right b hp
    rw [← Nat.pow_add, show n.log2 + 1 + (52 - n.log2) = 53 from by omega] at this
    exact this
theorem nearest_eq (N t : Nat) (h : N < 2 ^ 53) (ht : t ≤ 1074) : double.nearest false (N * 2 ^ t) (-(t : Int)) = rungN N := by
  unfold Format.nearest rungN
  by_cases h0 : N = 0
  · subst h0
    rw [if_pos (by simp), if_pos rfl]; rfl
  · have hp : 0 < 2 ^ t := Nat.two_pow_pos t
    have hne : N * 2 ^ t ≠ 0 := by have := Nat.mul_pos (Nat.pos_of_ne_zero h0) hp; omega
    have hl := log_lt h0 h
    have hm := mant_bd h0 h
    rw [if_neg hne, if_neg h0]
    have hlast : max (-(t : Int) + ((N * 2 ^ t).log2 : Int) - (double.fractionBits : Int)) double.leastPlace = (N.log2 : Int) - 52 := by
      rw [log2_scale N t h0, fb, lp]; push_cast; omega
    simp only [hlast]
    simp only [lp, bin, inf]
    have hk : Toward.even.cut false ((N * 2 ^ t) <<< (-(t : Int) - ((N.log2 : Int) - 52)).toNat) (((N.log2 : Int) - 52) - -(t : Int)).toNat = N * 2 ^ (52 - N.log2) := by
      rcases Nat.le_total (N.log2 + t) 52 with c | c
      · have e1 : (-(t : Int) - ((N.log2 : Int) - 52)).toNat = 52 - N.log2 - t := by omega
        have e2 : (((N.log2 : Int) - 52) - -(t : Int)).toNat = 0 := by omega
        rw [e1, e2, Nat.shiftLeft_eq, Nat.mul_assoc, ← Nat.pow_add, show t + (52 - N.log2 - t) = 52 - N.log2 from by omega]
        have := cut_exact .even false (N * 2 ^ (52 - N.log2)) 0 (by omega)
        rwa [Nat.pow_zero, Nat.mul_one] at this
      · have e1 : (-(t : Int) - ((N.log2 : Int) - 52)).toNat = 0 := by omega
        have e2 : (((N.log2 : Int) - 52) - -(t : Int)).toNat = N.log2 + t - 52 := by omega
        rw [e1, e2, Nat.shiftLeft_zero]
        have e3 : N * 2 ^ t = N * 2 ^ (52 - N.log2) * 2 ^ (N.log2 + t - 52) := by
          rw [Nat.mul_assoc, ← Nat.pow_add, show 52 - N.log2 + (N.log2 + t - 52) = t from by omega]
        rw [e3]
        exact cut_exact .even false (N * 2 ^ (52 - N.log2)) (N.log2 + t - 52) (by omega)
    rw [hk]
    have e4 : ((N.log2 : Int) - 52 - -1074).toNat = N.log2 + 1022 := by omega
    rw [e4]
    unfold Format.word
    rw [if_neg (by decide)]
    generalize N * 2 ^ (52 - N.log2) = M at *
    omega
theorem F_rung (n : Nat) (h : n < 2 ^ 53) : F n = rungN n := by
  have := nearest_eq n 0 h (by decide)
  rw [Nat.pow_zero, Nat.mul_one] at this
  rw [← this]
  unfold F FloatKind.nearest FloatKind.encode FloatKind.format Format.write
  have e : decide ((n : Int) < 0) = false := by simp
  simp only [e, Int.natAbs_natCast]
  rfl
theorem read_rung (n : Nat) (h : n < 2 ^ 53) : Rep (double.read (rungN n)) n := by
  by_cases h0 : n = 0
  · subst h0
    exact ⟨1074, by decide, fun h => absurd rfl h, by decide +kernel⟩
  · have hl := log_lt h0 h
    have hm := mant_bd h0 h
    refine ⟨52 - n.log2, by omega, fun _ => by omega, ?_⟩
    unfold rungN
    rw [if_neg h0]
    generalize n * 2 ^ (52 - n.log2) = M at *
    generalize n.log2 = k at *
    unfold Format.read
    simp only [sw, bin, inf, lp]
    have e1 : ((k + 1022) * 2 ^ 52 + M) / 2 ^ 63 = 0 := by omega
    have e2 : ((k + 1022) * 2 ^ 52 + M) % 2 ^ 63 = (k + 1022) * 2 ^ 52 + M := by omega
    have e3 : ((k + 1022) * 2 ^ 52 + M) % 2 ^ 52 = M - 2 ^ 52 := by omega
    have e4 : ((k + 1022) * 2 ^ 52 + M) / 2 ^ 52 = k + 1023 := by omega
    rw [e1, e2, e3, e4, if_neg (by omega), if_pos (by omega)]
    have g1 : 2 ^ 52 + (M - 2 ^ 52) = M := by omega
    have g2 : (-1074 : Int) + ((k + 1023 - 1 : Nat) : Int) = -((52 - k : Nat) : Int) := by omega
    rw [g1, g2]; rfl
theorem F_rep (n : Nat) (h : n < 2 ^ 53) : Rep (double.read (F n)) n := by rw [F_rung n h]; exact read_rung n h
theorem signed_f (m u : Nat) : signed false m u = ((m * 2 ^ u : Nat) : Int) := by simp [signed, Nat.shiftLeft_eq]
theorem scale2 (m t u : Nat) : m * 2 ^ t * 2 ^ (u - t) = m * 2 ^ (t + (u - t)) := by rw [Nat.mul_assoc, ← Nat.pow_add]
theorem rep_base (t u : Nat) : min (-(t : Int)) (-(u : Int)) = -((max t u : Nat) : Int) := by omega
theorem rep_shift (t M : Nat) (h : t ≤ M) : (-(t : Int) - -(M : Int)).toNat = M - t := by omega
theorem rep_order {d e : Datum} {m n : Nat} (hd : Rep d m) (he : Rep e n) : d.order e = some (compare m n) := by
  obtain ⟨t, _, _, rfl⟩ := hd
  obtain ⟨u, _, _, rfl⟩ := he
  unfold Datum.order
  simp only [signed_f, rep_base, rep_shift t (max t u) (by omega), rep_shift u (max t u) (by omega)]
  rw [scale2, scale2, show t + (max t u - t) = max t u from by omega, show u + (max t u - u) = max t u from by omega]
  congr 1
  have hp : 0 < 2 ^ max t u := Nat.two_pow_pos _
  rw [Int.compare_eq_ite_lt, Nat.compare_eq_ite_lt]
  have h1 : ((m * 2 ^ max t u : Nat) : Int) < ((n * 2 ^ max t u : Nat) : Int) ↔ m < n := by
    rw [Int.ofNat_lt]; exact Nat.mul_lt_mul_right hp
  have h2 : ((n * 2 ^ max t u : Nat) : Int) < ((m * 2 ^ max t u : Nat) : Int) ↔ n < m := by
    rw [Int.ofNat_lt]; exact Nat.mul_lt_mul_right hp
  simp only [h1, h2]
theorem rep_sum {d e : Datum} {m n : Nat} (hd : Rep d m) (he : Rep e n) : ∃ M : Nat, M ≤ 1074 ∧ d.sum e = some (.number false ((m + n) * 2 ^ M) (-(M : Int))) := by
  obtain ⟨t, ht, _, rfl⟩ := hd
  obtain ⟨u, hu, _, rfl⟩ := he
  refine ⟨max t u, by omega, ?_⟩
  unfold Datum.sum
  simp only [signed_f, rep_base, rep_shift t (max t u) (by omega), rep_shift u (max t u) (by omega)]
  rw [scale2, scale2, show t + (max t u - t) = max t u from by omega, show u + (max t u - u) = max t u from by omega]
  have e : ((m * 2 ^ max t u : Nat) : Int) + ((n * 2 ^ max t u : Nat) : Int) = (((m + n) * 2 ^ max t u : Nat) : Int) := by rw [Nat.add_mul]; push_cast; rfl
  rw [e, Int.natAbs_natCast]
  have e2 : (if (((m + n) * 2 ^ max t u : Nat) : Int) = 0 then (false && false) else decide ((((m + n) * 2 ^ max t u : Nat) : Int) < 0)) = false := by
    split
    · rfl
    · exact decide_eq_false (Int.not_lt.2 (Int.natCast_nonneg _))
  rw [e2]
theorem F_add (m n : Int) (h0 : 0 ≤ m) (h1 : 0 ≤ n) (h : m + n < 9007199254740992) : FloatKind.f64.format.add (F m) (F n) = some (F (m + n)) := by
  obtain ⟨a, rfl⟩ := Int.eq_ofNat_of_zero_le h0
  obtain ⟨b, rfl⟩ := Int.eq_ofNat_of_zero_le h1
  obtain ⟨M, hM, e⟩ := rep_sum (F_rep a (by omega)) (F_rep b (by omega))
  show ((double.read (F a)).sum (double.read (F b))).map double.write = _
  rw [e]
  show some (double.nearest false _ _) = some (F ((a : Int) + (b : Int)))
  rw [nearest_eq (a + b) M (by omega) hM, ← F_rung (a + b) (by omega)]
  push_cast; rfl
theorem F_order (m n : Int) (h0 : 0 ≤ m) (h1 : m < 9007199254740992) (h2 : 0 ≤ n) (h3 : n < 9007199254740992) : FloatKind.f64.format.order (F m) (F n) = some (compare m n) := by
  obtain ⟨a, rfl⟩ := Int.eq_ofNat_of_zero_le h0
  obtain ⟨b, rfl⟩ := Int.eq_ofNat_of_zero_le h2
  have := rep_order (F_rep a (by omega)) (F_rep b (by omega))
  rw [show compare (a : Int) (b : Int) = compare a b from by rw [Int.compare_eq_ite_lt, Nat.compare_eq_ite_lt]; simp]
  exact this
theorem F_self (n : Int) (h0 : 0 ≤ n) (h1 : n < 9007199254740992) : FloatKind.f64.format.order (F n) (F n) = some .eq := by
  rw [F_order n n h0 h1 h0 h1, Int.compare_eq_ite_lt, if_neg (by omega), if_neg (by omega)]
theorem F_toInt (n : Int) (h0 : 0 ≤ n) (h1 : n < 9007199254740992) : (FloatKind.f64.decode (F n)).toInt .zero = some n := by
  obtain ⟨a, rfl⟩ := Int.eq_ofNat_of_zero_le h0
  obtain ⟨t, ht, ht2, e⟩ := F_rep a (by omega)
  show (double.read (F a)).toInt .zero = _
  rw [e]
  unfold Datum.toInt Datum.integral
  have e1 : (-(t : Int)).toNat = 0 := by omega
  have e2 : (- -(t : Int)).toNat = t := by omega
  simp only [e1, e2, Nat.shiftLeft_zero]
  have e3 : Toward.zero.cut false (a * 2 ^ t) t = a := by
    by_cases ha : a = 0
    · subst ha
      simp [Toward.cut]
    · exact cut_exact .zero false a t ha
  rw [e3, signed_f]; simp
end Go.Proofs.Ytecfchmocfammaa
