/- The contract of ref1.Valid. -/
import Derived.Test.YtjpofnpcmonmmaaOwn
import Derived.Test.YtjpofnpcmonmmaaOk
import Derived.Test.YtjpofnpcmonmmaaRef1A
set_option linter.unusedVariables false
set_option linter.unusedSimpArgs false
namespace Go.Proofs.Ytjpofnpcmonmmaa
open Go.RowKit

set_option maxHeartbeats 1000000 in
theorem rvalid_any (v : Value) (l : List UInt8) (w : World) (hv : Is8 w v l) (hm : l.length ≤ 1000000) :
    Calls Try.prog 23 #[v] w fun e w' => e = .returned (.bool (validL l)) ∧ ∃ n, w' = w.drewN n := by
  obtain ⟨a, cap, rfl, hc1, hc2, -, hs⟩ := hv
  unfold maxLen at hc2
  by_cases hn : l.length = 0
  · have hN := validL_nil hn
    rw [hN, hn]
    clear hs hN
    go_enter Try.func23, Try.ntmps23
    go_wp2
    go_loopw [3] (fun ti wr => ti = .int .i64 0 ∧ wr = w) (fun _ _ => 0)
    case atStart => exact ⟨rfl, rfl⟩
    case round =>
      obtain ⟨rfl, rfl⟩ := hrel
      go_wp2
      go_ret
      exact ⟨rfl, 0, rfl⟩
  obtain ⟨b, off, rfl, hc⟩ := hs (by omega)
  have HC := Lib.hid hc
  clear hs hc
  go_enter Try.func23, Try.ntmps23
  go_wp2
  go_loopw [3] (fun ti wr => ∃ k : Nat, k ≤ l.length ∧ ti = .int .i64 k ∧ (∃ n, wr = w.drewN n) ∧ Hid (validL l = validL (l.drop k))) (fun ti _ => l.length - (intOf ti).toNat)
  case atStart => exact ⟨0, by omega, rfl, ⟨0, rfl⟩, Lib.hid (by simp)⟩
  case round =>
    obtain ⟨k, hk, rfl, ⟨n, rfl⟩, HR⟩ := hrel
    by_cases hlt : k < l.length
    · have hkc : ¬ k = cap := by omega
      have hkc' : k < cap := by omega
      have HI : Hid (Is8 w (.slice (some ⟨b, off + k, none⟩) (l.length - k) (cap - k)) (l.drop k)) := Lib.hid (Is8.dropAt HC.out k hlt hc1 (by unfold maxLen; omega))
      have hnn := nextL_n (l.drop k) (by simp; omega)
      have HV := Lib.hid (validL_cons (l := l.drop k) (by simp; omega))
      simp only [List.length_drop] at hnn
      obtain ⟨hn1, hn2, -⟩ := hnn
      go_wp2_with fail
      refine (rnext_any _ (l.drop k) _ (IsSl.drew HI.out) (by simp; omega)).mono ?_
      rintro e w' ⟨rfl, n2, rfl⟩
      rw [List.drop_drop] at HV
      generalize nextL (l.drop k) = t at *
      obtain ⟨r, nn, ok⟩ := t
      cases ok
      · go_wp2
        go_ret
        exact ⟨by rw [HR.out, HV.out]; rfl, _, rfl⟩
      · go_wp2
        go_roundw
        case rel => exact ⟨k + nn, by omega, by go_num, ⟨_, rfl⟩, Lib.hid (by rw [HR.out, HV.out]; simp)⟩
        case measure => simp [intOf]; omega
    · obtain rfl : k = l.length := by omega
      go_wp2
      go_ret
      exact ⟨by rw [HR.out, validL_nil (l := l.drop l.length) (by simp)]; rfl, _, rfl⟩


end Go.Proofs.Ytjpofnpcmonmmaa
