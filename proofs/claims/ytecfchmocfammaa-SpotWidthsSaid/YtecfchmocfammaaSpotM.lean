/- The plain mathematics of spot. No program. -/
import Derived.Test.YtecfchmocfammaaUtfM
set_option linter.unusedVariables false
set_option linter.unusedSimpArgs false
namespace Go.Proofs.Ytecfchmocfammaa

def posS (p : Int × Int) (r : Int) : Int × Int := if r = 10 then (p.1 + 1, 1) else (p.1, p.2 + 1)
def posL (p : Int × Int) (rs : List Int) : Int × Int := rs.foldl posS p
theorem posL_cons (p : Int × Int) (r : Int) (rs : List Int) : posL p (r :: rs) = posL (posS p r) rs := rfl
theorem posL_append (p : Int × Int) (a b : List Int) : posL p (a ++ b) = posL (posL p a) b := List.foldl_append
theorem posL_take (p : Int × Int) (rs : List Int) (i : Nat) (h : i < rs.length) : posL p (rs.take (i + 1)) = posS (posL p (rs.take i)) (rs.getD i 0) := by
  unfold posL
  rw [List.take_succ_eq_append_getElem h, List.foldl_append]
  simp [List.getD, h]
theorem posL_bd (rs : List Int) : ∀ (p : Int × Int), 1 ≤ p.1 → 1 ≤ p.2 → p.1 ≤ (posL p rs).1 ∧ (posL p rs).1 ≤ p.1 + rs.length ∧ 1 ≤ (posL p rs).2 ∧ (posL p rs).2 ≤ p.2 + rs.length := by
  induction rs with
  | nil => intro p h1 h2; simp [posL]; omega
  | cons r t ih =>
    intro p h1 h2
    rw [posL_cons]
    unfold posS
    split
    · have := ih (p.1 + 1, 1) (by show 1 ≤ p.1 + 1; omega) (Int.le_refl 1)
      simp only [List.length_cons] at *
      push_cast
      omega
    · have := ih (p.1, p.2 + 1) h1 (by show 1 ≤ p.2 + 1; omega)
      simp only [List.length_cons] at *
      push_cast
      omega
/-- How many units. -/
def unR (r : Int) : Nat := if r < 65536 then 1 else 2
def unL (rs : List Int) : Nat := (rs.map unR).sum
theorem unL_cons (r : Int) (rs : List Int) : unL (r :: rs) = unR r + unL rs := rfl
theorem unL_append (a b : List Int) : unL (a ++ b) = unL a + unL b := by unfold unL; simp
theorem unL_bd (rs : List Int) : rs.length ≤ unL rs ∧ unL rs ≤ 2 * rs.length := by
  induction rs with
  | nil => simp [unL]
  | cons r t ih =>
    rw [unL_cons, List.length_cons]
    have : 1 ≤ unR r ∧ unR r ≤ 2 := by unfold unR; split <;> omega
    omega
theorem unL_take (rs : List Int) (i : Nat) (h : i < rs.length) : unL (rs.take (i + 1)) = unL (rs.take i) + unR (rs.getD i 0) := by
  rw [List.take_succ_eq_append_getElem h, unL_append]
  simp [unL, List.getD, h]
end Go.Proofs.Ytecfchmocfammaa
