/- strings.Cut at a sign of one byte. -/
import Derived.Test.YtedfgikikjggaaaDoorStrs
import Derived.Test.YtedfgikikjggaaaDoorShelf
import Derived.Lib.IndexLaws
import Derived.IntWalk
set_option linter.unusedVariables false
set_option linter.unusedSimpArgs false
namespace Go.Proofs.YtedfgikikjggaaaDoor
open Go.RowKit

def cutO (l : List UInt8) (c : UInt8) : Bool := decide (0 ≤ Lib.indexByte l c)
def cutA (l : List UInt8) (c : UInt8) : List UInt8 := if 0 ≤ Lib.indexByte l c then l.take (Lib.indexByte l c).toNat else l
def cutB (l : List UInt8) (c : UInt8) : List UInt8 := if 0 ≤ Lib.indexByte l c then l.drop ((Lib.indexByte l c).toNat + 1) else []
theorem indexByte_lt (l : List UInt8) (c : UInt8) : -1 ≤ Lib.indexByte l c ∧ Lib.indexByte l c < l.length := by
  refine ⟨Lib.indexByte_ge l c, ?_⟩
  rcases Int.lt_or_le (Lib.indexByte l c) 0 with h | h
  · omega
  · obtain ⟨o, ho⟩ := Int.eq_ofNat_of_zero_le h
    have h1 := (Lib.indexByte_some ho).1
    have := (List.getElem?_eq_some_iff.1 h1).1
    omega
theorem tupSSB {a b a' b' : List UInt8} {c c' : Bool} (h1 : a = a') (h2 : b = b') (h3 : c = c') : Ending.returned (.tuple #[.string ⟨a.toArray⟩, .string ⟨b.toArray⟩, .bool c]) = .returned (.tuple #[.string ⟨a'.toArray⟩, .string ⟨b'.toArray⟩, .bool c']) := by rw [h1, h2, h3]
set_option maxHeartbeats 1000000 in
theorem lcut_any (l : List UInt8) (c : UInt8) (w : World) (hm : l.length ≤ 1000000) :
    Calls Tryd.prog 73 #[.string ⟨l.toArray⟩, .string ⟨#[c]⟩] w fun e w' => e = .returned (.tuple #[.string ⟨(cutA l c).toArray⟩, .string ⟨(cutB l c).toArray⟩, .bool (cutO l c)]) ∧ ∃ n, w' = w.drewN n := by
  obtain ⟨h1, h2⟩ := indexByte_lt l c
  have HI : Hid (∀ w, Calls Tryd.prog 89 #[.string ⟨l.toArray⟩, .string ⟨#[c]⟩] w fun e w' => e = .returned (.int .i64 (Lib.indexByte l c)) ∧ w = w') := Lib.hid (fun w => (Tryd.stringslite_Index_one ⟨l.toArray⟩ c w).mono (fun _ _ ⟨p, q⟩ => ⟨p, q.symm⟩))
  by_cases h0 : 0 ≤ Lib.indexByte l c
  · have HA : Hid (cutA l c = l.take (Lib.indexByte l c).toNat) := Lib.hid (by unfold cutA; rw [if_pos h0])
    have HB : Hid (cutB l c = l.drop ((Lib.indexByte l c).toNat + 1)) := Lib.hid (by unfold cutB; rw [if_pos h0])
    have HO : Hid (cutO l c = true) := Lib.hid (decide_eq_true h0)
    obtain ⟨k, hk⟩ := Int.eq_ofNat_of_zero_le h0
    rw [hk] at HA HB HI h1 h2
    clear h0 hk
    have HK : Hid ((k : Int).toNat = k) := Lib.hid (by omega)
    go_enter Tryd.func73, Tryd.ntmps73
    go_wp2_with fail
    refine (HI.out _).mono ?_
    rintro e w' ⟨rfl, rfl⟩
    go_wp2_with fail
    have g1 : IntKind.i64.wrap ((k : Int) + 1) = (k : Int) + 1 := IntWalk.i64_in _ (by omega)
    have g2 : (0 : Int) ≤ (k : Int) + 1 := by omega
    have g3 : ((k : Int) + 1).toNat = k + 1 := by omega
    have g4 : (k : Int) + 1 ≤ l.length := by omega
    have g5 : k + 1 ≤ l.length := by omega
    go_quiet (fail)
    go_wp2
    go_ret3
    refine ⟨tupSSB ?_ ?_ ?_, ?_⟩
    · rw [HA.out, HK.out]
    · rw [HB.out, HK.out]
    · rw [HO.out]
    · first | exact ⟨_, rfl⟩ | trivial
  · have HA : Hid (cutA l c = l) := Lib.hid (by unfold cutA; rw [if_neg h0])
    have HB : Hid (cutB l c = []) := Lib.hid (by unfold cutB; rw [if_neg h0])
    have HO : Hid (cutO l c = false) := Lib.hid (decide_eq_false h0)
    generalize Lib.indexByte l c = k at *
    go_enter Tryd.func73, Tryd.ntmps73
    go_wp2_with fail
    refine (HI.out _).mono ?_
    rintro e w' ⟨rfl, rfl⟩
    go_wp2_with fail
    go_ret3
    refine ⟨tupSSB HA.out.symm HB.out.symm HO.out.symm, ?_⟩
    first | exact ⟨0, rfl⟩ | trivial
set_option maxHeartbeats 1000000 in
theorem cut_any (l : List UInt8) (c : UInt8) (w : World) (hm : l.length ≤ 1000000) :
    Calls Tryd.prog 51 #[.string ⟨l.toArray⟩, .string ⟨#[c]⟩] w fun e w' => e = .returned (.tuple #[.string ⟨(cutA l c).toArray⟩, .string ⟨(cutB l c).toArray⟩, .bool (cutO l c)]) ∧ ∃ n, w' = w.drewN n := by
  have HC := Lib.hid (lcut_any l c · hm)
  go_enter Tryd.func51, Tryd.ntmps51
  go_wp2_with fail
  refine (HC.out _).mono ?_
  rintro e w' ⟨rfl, n, rfl⟩
  go_wp2
  go_ret3
  exact ⟨tupSSB rfl rfl rfl, n, rfl⟩
end Go.Proofs.YtedfgikikjggaaaDoor
