/- Strings as lists of bytes, in the walk's words; over any program. -/
import Derived.Test.YtedfgikikjggaaaDoorOwn
set_option linter.unusedVariables false
set_option linter.unusedSimpArgs false
namespace Go.Proofs.YtedfgikikjggaaaDoor
open Go.RowKit

theorem str_at (l : List UInt8) (i : Nat) (h : i < (⟨l.toArray⟩ : ByteArray).size) : (((⟨l.toArray⟩ : ByteArray)[i]'h).toNat : Int) = byt l i := by
  have hi : i < l.length := by simpa [ByteArray.size] using h
  unfold byt
  have e : (⟨l.toArray⟩ : ByteArray)[i]'h = l[i] := by
    show (l.toArray)[i]'_ = _
    simp
  rw [e]; simp [List.getD, hi]
theorem str_extract (l : List UInt8) (a b : Nat) : (⟨l.toArray⟩ : ByteArray).extract a b = ⟨((l.take b).drop a).toArray⟩ := by
  apply ByteArray.ext
  simp [ByteArray.data_extract, List.extract_eq_take_drop, List.drop_take]
theorem str_loop (l : List UInt8) : ∀ (n i : Nat) (r : List UInt8), l.length - i = n → i ≤ l.length → ByteArray.toList.loop ⟨l.toArray⟩ i r = r.reverse ++ l.drop i := by
  intro n
  induction n with
  | zero =>
    intro i r h1 h2
    rw [ByteArray.toList.loop, if_neg (by simp [ByteArray.size]; omega), List.drop_of_length_le (by omega), List.append_nil]
  | succ n ih =>
    intro i r h1 h2
    have hi : i < l.length := by omega
    rw [ByteArray.toList.loop, if_pos (by simp [ByteArray.size]; omega), ih (i + 1) _ (by omega) (by omega), List.drop_eq_getElem_cons hi]
    have e : (⟨l.toArray⟩ : ByteArray).get! i = l[i] := by
      show (l.toArray)[i]! = _
      simp [hi]
    rw [e]; simp
theorem str_toList (l : List UInt8) : (⟨l.toArray⟩ : ByteArray).toList = l := by
  unfold ByteArray.toList
  rw [str_loop l l.length 0 [] (by omega) (by omega)]; rfl
theorem str_size (l : List UInt8) : (⟨l.toArray⟩ : ByteArray).size = l.length := by simp [ByteArray.size]
theorem str_append (a b : List UInt8) : (⟨a.toArray⟩ : ByteArray) ++ ⟨b.toArray⟩ = ⟨(a ++ b).toArray⟩ := by
  apply ByteArray.ext; simp
attribute [simp, go_sem] str_at str_extract str_toList str_size str_append
/-- c | 0x20. -/
def or32 (c : Int) : Int := if c / 32 % 2 = 1 then c else c + 32
theorem bits_or32 (c : Int) (h0 : 0 ≤ c) (h1 : c ≤ 255) : bits .or .u8 c 32 = or32 c := by
  rw [u8_or c 32 h0 (by omega) (by decide) (by decide)]
  obtain ⟨n, rfl⟩ := Int.eq_ofNat_of_zero_le h0
  have hn : n < 256 := by omega
  have key : ∀ m : Fin 256, ((m.val ||| 32 : Nat) : Int) = or32 (m.val : Int) := by decide +kernel
  exact key ⟨n, hn⟩
theorem or32_bd (c : Int) (h0 : 0 ≤ c) (h1 : c ≤ 255) : 0 ≤ or32 c ∧ or32 c ≤ 255 := by unfold or32; split <;> omega
/-- A letter of ASCII. -/
def letN (c : Int) : Bool := decide (97 ≤ c ∧ c ≤ 122) || decide (65 ≤ c ∧ c ≤ 90)
theorem letN_t {c : Int} (h : (97 ≤ c ∧ c ≤ 122) ∨ (65 ≤ c ∧ c ≤ 90)) : letN c = true := by unfold letN; simpa using h
theorem letN_f {c : Int} (h : ¬ ((97 ≤ c ∧ c ≤ 122) ∨ (65 ≤ c ∧ c ≤ 90))) : letN c = false := by
  unfold letN; rw [Bool.or_eq_false_iff]; simp only [decide_eq_false_iff_not]; exact ⟨fun k => h (.inl k), fun k => h (.inr k)⟩
theorem letN_or (c : Int) (h0 : 0 ≤ c) (h1 : c ≤ 255) : letN c = decide (97 ≤ or32 c ∧ or32 c ≤ 122) := by
  unfold letN or32
  rw [Bool.eq_iff_iff]
  simp only [Bool.or_eq_true, decide_eq_true_eq]
  split <;> omega
end Go.Proofs.YtedfgikikjggaaaDoor
