/- Small whole numbers as floats: how they stand to each other. No program. -/
import GoSem.Core.Float
import Derived.Lib.Hide
set_option linter.unusedVariables false
set_option linter.unusedSimpArgs false
namespace Go.Proofs.Ytiomkjpgoehchaa

/-- A whole number as a float of 64 bits. -/
def F (n : Int) : Nat := FloatKind.f64.nearest n
def Q74 : Nat := (2 ^ 179) ^ 6
theorem Q74_pos : 0 < Q74 := Nat.pow_pos (Nat.pow_pos (by decide))
/-- What stands for n: a number whose digits, from place -1074 on, are n's. -/
def isN (d : Ieee.Datum) (n : Nat) : Bool := match d with
  | .number false m i => decide (-1074 ≤ i ∧ m * 2 ^ (i + 1074).toNat = n * Q74)
  | _ => false
theorem isN_F : ∀ n : Fin 1024, isN (Ieee.double.read (F (n.val : Int))) n.val = true := by decide +kernel
theorem signed_false (m u : Nat) : Ieee.signed false m u = ((m * 2 ^ u : Nat) : Int) := by simp [Ieee.signed, Nat.shiftLeft_eq]
theorem order_of (x y : Ieee.Datum) (m n : Nat) (hx : isN x m = true) (hy : isN y n = true) : x.order y = some (compare m n) := by
  unfold isN at hx hy
  split at hx
  · rename_i a i
    split at hy
    · rename_i b j
      have hx := of_decide_eq_true hx
      have hy := of_decide_eq_true hy
      unfold Ieee.Datum.order
      simp only [signed_false]
      congr 1
      have key : ∀ (p q : Nat), compare (p : Int) (q : Int) = compare p q := by
        intro p q
        rw [Int.compare_eq_ite_lt, Nat.compare_eq_ite_lt]
        simp
      rw [key]
      have e1 : (a * 2 ^ (i - min i j).toNat) * 2 ^ (min i j + 1074).toNat = m * Q74 := by
        rw [Nat.mul_assoc, ← Nat.pow_add, ← hx.2]
        congr 2
        omega
      have e2 : (b * 2 ^ (j - min i j).toNat) * 2 ^ (min i j + 1074).toNat = n * Q74 := by
        rw [Nat.mul_assoc, ← Nat.pow_add, ← hy.2]
        congr 2
        omega
      generalize a * 2 ^ (i - min i j).toNat = A at *
      generalize b * 2 ^ (j - min i j).toNat = B at *
      have hp : 0 < 2 ^ (min i j + 1074).toNat := Nat.pow_pos (by decide)
      have hq := Q74_pos
      generalize 2 ^ (min i j + 1074).toNat = P at *
      generalize Q74 = Q at *
      rw [Nat.compare_eq_ite_lt, Nat.compare_eq_ite_lt]
      have h1 : A < B ↔ m < n := by
        exact (Nat.mul_lt_mul_right hp).symm.trans (by rw [e1, e2]; exact Nat.mul_lt_mul_right hq)
      have h2 : B < A ↔ n < m := by
        exact (Nat.mul_lt_mul_right hp).symm.trans (by rw [e1, e2]; exact Nat.mul_lt_mul_right hq)
      simp only [h1, h2]
    · cases hy
  · cases hx
theorem order_F (m n : Int) (h0 : 0 ≤ m) (h1 : m < 1024) (h2 : 0 ≤ n) (h3 : n < 1024) : FloatKind.f64.format.order (F m) (F n) = some (compare m n) := by
  obtain ⟨a, rfl⟩ := Int.eq_ofNat_of_zero_le h0
  obtain ⟨b, rfl⟩ := Int.eq_ofNat_of_zero_le h2
  have := order_of _ _ a b (isN_F ⟨a, by omega⟩) (isN_F ⟨b, by omega⟩)
  rw [show compare (a : Int) (b : Int) = compare a b from by rw [Int.compare_eq_ite_lt, Nat.compare_eq_ite_lt]; simp]
  exact this
end Go.Proofs.Ytiomkjpgoehchaa
