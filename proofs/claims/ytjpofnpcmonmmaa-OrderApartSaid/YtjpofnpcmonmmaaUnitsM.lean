/- Units of 16 bits. No program. -/
import Derived.Test.YtjpofnpcmonmmaaUtfM
set_option linter.unusedVariables false
set_option linter.unusedSimpArgs false
namespace Go.Proofs.Ytjpofnpcmonmmaa

def unitsR (r : Int) : List Int := if 65535 < r then [55296 + (r - 65536) / 1024, 56320 + (r - 65536) % 1024] else [r]
def unitsL (rs : List Int) : List Int := rs.flatMap unitsR
theorem unitsL_take (rs : List Int) (i : Nat) (h : i < rs.length) : unitsL (rs.take (i + 1)) = unitsL (rs.take i) ++ unitsR (rs.getD i 0) := by
  unfold unitsL
  rw [List.take_succ_eq_append_getElem h, List.flatMap_append]
  simp [List.getD, h]
theorem unitsL_len (rs : List Int) : rs.length ≤ (unitsL rs).length ∧ (unitsL rs).length ≤ 2 * rs.length := by
  unfold unitsL
  induction rs with
  | nil => simp
  | cons r t ih =>
    have : 1 ≤ (unitsR r).length ∧ (unitsR r).length ≤ 2 := by unfold unitsR; split <;> simp
    rw [List.flatMap_cons, List.length_append, List.length_cons]; omega
theorem decL_r2 : ∀ (n : Nat) (l : List UInt8), l.length ≤ n → ∀ r ∈ decL l, 0 ≤ r ∧ r ≤ 1114111 := by
  intro n
  induction n with
  | zero => intro l h r hr; rw [decL_nil (by omega)] at hr; simp at hr
  | succ n ih =>
    intro l h r hr
    by_cases h0 : l.length = 0
    · rw [decL_nil h0] at hr; simp at hr
    · have hn := nextL_n l (by omega)
      rw [decL_cons (by omega)] at hr
      rcases List.mem_cons.1 hr with rfl | hr
      · exact nextL_r l
      · exact ih _ (by simp; omega) r hr
theorem decL_bd2 (l : List UInt8) (i : Nat) (hi : i < (decL l).length) : 0 ≤ (decL l).getD i 0 ∧ (decL l).getD i 0 ≤ 1114111 := by
  have := decL_r2 _ l (Nat.le_refl _) ((decL l)[i]) (List.getElem_mem _)
  rw [List.getD_eq_getElem?_getD, List.getElem?_eq_getElem hi]
  show _ ≤ (decL l)[i] ∧ (decL l)[i] ≤ _
  omega
end Go.Proofs.Ytjpofnpcmonmmaa
