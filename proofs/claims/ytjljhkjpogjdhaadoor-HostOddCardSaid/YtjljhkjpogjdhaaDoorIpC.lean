/- The contract of ip4.Ends. -/
import Derived.Test.YtjljhkjpogjdhaaDoorIpA
import Derived.Test.YtjljhkjpogjdhaaDoorShelf
import Derived.Lib.LastIndexByte
set_option linter.unusedVariables false
set_option linter.unusedSimpArgs false
namespace Go.Proofs.YtjljhkjpogjdhaaDoor
open Go.RowKit

/-- Where the last part begins. -/
def lastK (l : List UInt8) : Nat := (Lib.lastIndexByte ⟨l.toArray⟩ 46 + 1).toNat
theorem data_at (l : List UInt8) (j : Nat) (h : j < l.length) : ((((⟨l.toArray⟩ : ByteArray).data[j]!).toNat : Int)) = byt l j := by
  have h2 : j < l.toArray.size := by simpa using h
  show ((l.toArray[j]!).toNat : Int) = _
  rw [getElem!_pos l.toArray j h2]
  unfold byt
  simp [List.getD, h]
theorem lastK_spec (l : List UInt8) : lastK l ≤ l.length ∧ (lastK l = 0 ∨ byt l (lastK l - 1) = 46) ∧ (∀ j, lastK l ≤ j → j < l.length → byt l j ≠ 46) ∧ Lib.lastIndexByte ⟨l.toArray⟩ 46 = (lastK l : Int) - 1 := by
  have hs : (⟨l.toArray⟩ : ByteArray).size = l.length := str_size l
  rcases Lib.lastIdx_spec ⟨l.toArray⟩ 46 l.length with ⟨h1, h2⟩ | ⟨i, h1, h2, h3, h4⟩
  · have e : Lib.lastIndexByte ⟨l.toArray⟩ 46 = -1 := by unfold Lib.lastIndexByte; rw [hs]; exact h1
    have ek : lastK l = 0 := by unfold lastK; rw [e]; rfl
    refine ⟨by omega, .inl ek, fun j _ hj => ?_, by rw [e, ek]; rfl⟩
    rw [← data_at l j hj]; exact h2 j hj
  · have e : Lib.lastIndexByte ⟨l.toArray⟩ 46 = i := by unfold Lib.lastIndexByte; rw [hs]; exact h2
    have ek : lastK l = i + 1 := by unfold lastK; rw [e]; omega
    refine ⟨by omega, .inr ?_, fun j hj hj2 => ?_, by rw [e, ek]; omega⟩
    · rw [ek, show i + 1 - 1 = i from rfl, ← data_at l i h1]; exact h3
    · rw [← data_at l j hj2]; exact h4 j (by omega) hj2
theorem splitB_yes {c : Int} {b : UInt8} (hb : (b.toNat : Int) = c) (t : List UInt8) : splitB c (b :: t) = [] :: splitB c t := by
  conv => lhs; unfold splitB
  rw [if_pos hb]
theorem splitB_no {c : Int} {b : UInt8} (hb : (b.toNat : Int) ≠ c) {t : List UInt8} {p : List UInt8} {ps : List (List UInt8)} (h : splitB c t = p :: ps) : splitB c (b :: t) = (b :: p) :: ps := by
  conv => lhs; unfold splitB
  rw [if_neg hb, h]
theorem splitB_joins (c : Int) (b : UInt8) (hb : (b.toNat : Int) = c) (m : List UInt8) : ∀ (l : List UInt8), splitB c (l ++ b :: m) = splitB c l ++ splitB c m := by
  intro l
  induction l with
  | nil => exact splitB_yes hb m
  | cons x t ih =>
    show splitB c (x :: (t ++ b :: m)) = _
    by_cases hx : (x.toNat : Int) = c
    · rw [splitB_yes hx, splitB_yes hx, ih]; rfl
    · cases h : splitB c t with
      | nil => exact absurd h (splitB_ne c t)
      | cons p ps =>
        rw [splitB_no hx h]
        exact splitB_no hx (by rw [ih, h]; rfl)
theorem splitB_lastK (l : List UInt8) : (splitB 46 l).getLastD [] = l.drop (lastK l) := by
  obtain ⟨h1, h2, h3, -⟩ := lastK_spec l
  have hend : splitB 46 (l.drop (lastK l)) = [l.drop (lastK l)] := splitB_end 46 _ (fun q hq => by
    have hq2 : lastK l + q < l.length := by simp at hq; omega
    have := h3 (lastK l + q) (by omega) hq2
    rwa [← byt_drop l (lastK l) q] at this)
  rcases h2 with h2 | h2
  · rw [h2, List.drop_zero] at hend ⊢
    rw [hend]; rfl
  · by_cases h0 : lastK l = 0
    · rw [h0, List.drop_zero] at hend ⊢
      rw [hend]; rfl
    · have hk : lastK l - 1 < l.length := by omega
      have e : l = l.take (lastK l - 1) ++ (l[lastK l - 1]'hk) :: l.drop (lastK l) := by
        have h4 : l.drop (lastK l - 1) = (l[lastK l - 1]'hk) :: l.drop (lastK l - 1 + 1) := List.drop_eq_getElem_cons hk
        rw [show lastK l - 1 + 1 = lastK l by omega] at h4
        rw [← h4, List.take_append_drop]
      have hb : ((l[lastK l - 1]'hk).toNat : Int) = 46 := by
        rw [← h2]; unfold byt; simp [List.getD, hk]
      generalize hd : l.drop (lastK l) = d at *
      generalize l[lastK l - 1]'hk = b at *
      generalize l.take (lastK l - 1) = p at *
      rw [e, splitB_joins 46 b hb d p, hend]
      simp
/-- Is a part one that ends an address? -/
def endsB (t : List UInt8) : Bool := if hexP t = true then onlyB 16 (t.drop 2) else decide (0 < t.length) && onlyB 10 t
end Go.Proofs.YtjljhkjpogjdhaaDoor
