/- The contract of ref1.Decode. -/
import Derived.Test.YtjpofnpcmonmmaaOwn
import Derived.Test.YtjpofnpcmonmmaaOk
import Derived.Test.YtjpofnpcmonmmaaRef1A
set_option linter.unusedVariables false
set_option linter.unusedSimpArgs false
namespace Go.Proofs.Ytjpofnpcmonmmaa
open Go.RowKit

set_option maxHeartbeats 1000000 in
theorem rdecode_any (v : Value) (l : List UInt8) (w : World) (hv : Is8 w v l) (hm : l.length ≤ 1000000) :
    Calls Try.prog 28 #[v] w fun e w' => ∃ v', e = .returned v' ∧ Own w' w.heap.size 21 v' ((decL l).map (Value.int .i32)) ∧ Below w.heap.size w w' := by
  obtain ⟨a, cap, rfl, hc1, hc2, -, hs⟩ := hv
  unfold maxLen at hc2
  by_cases hn : l.length = 0
  · have hN := decL_nil hn
    rw [hN, hn]
    clear hs hN
    go_enter Try.func28, Try.ntmps28
    go_wp2
    go_loopw [3, 4] (fun tv ti wr => tv = .slice none 0 0 ∧ ti = .int .i64 0 ∧ wr = w) (fun _ _ _ => 0)
    case atStart => exact ⟨rfl, rfl, rfl⟩
    case round =>
      obtain ⟨rfl, rfl, rfl⟩ := hrel
      go_wp2
      go_ret
      exact ⟨_, rfl, by simpa using Own.nil _ _ _, Below.refl _ _⟩
  obtain ⟨b, off, rfl, hc⟩ := hs (by omega)
  have HC := Lib.hid hc
  have hbw := hc.lt (by omega)
  clear hs hc
  go_enter Try.func28, Try.ntmps28
  go_wp2
  go_loopw [3, 4] (fun tv ti wr => ∃ (k : Nat) (ds : List Int), k ≤ l.length ∧ ti = .int .i64 k ∧ Own wr w.heap.size 21 tv (ds.map (Value.int .i32)) ∧ ds.length ≤ k ∧ Below w.heap.size w wr ∧ Hid (decL l = ds ++ decL (l.drop k))) (fun _ ti _ => l.length - (intOf ti).toNat)
  case atStart => exact ⟨0, [], by omega, rfl, by simpa using Own.nil _ _ _, by simp, Below.refl _ _, Lib.hid (by simp)⟩
  case round =>
    obtain ⟨k, ds, hk, rfl, hown, hdk, hbel, HR⟩ := hrel
    by_cases hlt : k < l.length
    · have hkc : ¬ k = cap := by omega
      have hkc' : k < cap := by omega
      have HI : Hid (Is8 wr (.slice (some ⟨b, off + k, none⟩) (l.length - k) (cap - k)) (l.drop k)) := Lib.hid (Is8.dropAt (HC.out.below hbel hbw) k hlt hc1 (by unfold maxLen; omega))
      have hnn := nextL_n (l.drop k) (by simp; omega)
      have HV := Lib.hid (decL_cons (l := l.drop k) (by simp; omega))
      have hsz := hbel.size
      simp only [List.length_drop] at hnn
      obtain ⟨hn1, hn2, -⟩ := hnn
      have HB := Lib.hid hbel
      clear hbel
      go_wp2_with fail
      refine (rnext_any _ (l.drop k) _ HI.out (by simp; omega)).mono ?_
      rintro e w' ⟨rfl, n2, rfl⟩
      rw [List.drop_drop] at HV
      generalize nextL (l.drop k) = t at *
      obtain ⟨r, nn, ok⟩ := t
      go_wp2_with (at_builtin; refine wpList_appL _ rfl _ _ 46 rfl w.heap.size 21 (.int .i32 0) 4 ok32 _ _ rfl (hown.drew n2) #[.int .i32 r] 1 1 rfl rfl ?c1 ?c2 ?c3 ?c4 ?_)
      case c1 => rfl
      case c2 => simp; omega
      case c3 => simp; omega
      case c4 => simpa using hsz
      intro v' w2 hown2 hgr
      have hb2 : Below w.heap.size w w2 := (below_drewN HB.out n2).grown hgr (by simpa using hsz) (fun k hk => (hown.row k hk).1)
      go_wp2
      go_roundw
      case rel => exact ⟨k + nn, ds ++ [r], by omega, by go_num, by simpa using hown2, by simp; omega, hb2, Lib.hid (by rw [HR.out, HV.out]; simp)⟩
      case measure => simp [intOf]; omega
    · obtain rfl : k = l.length := by omega
      go_wp2
      go_ret
      refine ⟨_, rfl, ?_, hbel⟩
      rw [HR.out, decL_nil (l := l.drop l.length) (by simp)]
      simpa using hown
end Go.Proofs.Ytjpofnpcmonmmaa
