/- Long, Texts. -/
import Derived.Test.YtcdkojdjcifkpaaDoorStrs
set_option linter.unusedVariables false
set_option linter.unusedSimpArgs false
namespace Go.Proofs.YtcdkojdjcifkpaaDoor
open Go.RowKit

set_option maxHeartbeats 1000000 in
theorem texts_eq (va vb : Value) (ls : List (List UInt8)) (w : World) (ha : IsStr w va ls) (hb : IsStr w vb ls) (hm : ls.length ≤ 100000000) :
    Calls Tryd.prog 18 #[va, vb] w fun e w' => e = .returned (.bool true) ∧ ∃ n, w' = w.drewN n := by
  obtain ⟨a, cap, rfl, hc1, hc2, -, hs⟩ := ha
  obtain ⟨a', cap', rfl, hc1', hc2', -, hs'⟩ := hb
  have HC : Hid (0 < ls.length → ∃ b off, a = some ⟨b, off, none⟩ ∧ Cells w b off ls.length (strAt ls)) := Lib.hid hs
  have HC' : Hid (0 < ls.length → ∃ b off, a' = some ⟨b, off, none⟩ ∧ Cells w b off ls.length (strAt ls)) := Lib.hid hs'
  clear hs hs'
  go_enter Tryd.func18, Tryd.ntmps18
  go_wp2
  go_loopw [5] (fun ti wr => ∃ k : Nat, k ≤ ls.length ∧ ti = .int .i64 k ∧ ∃ n, wr = w.drewN n) (fun ti _ => ls.length - (intOf ti).toNat)
  case atStart => exact ⟨0, by omega, rfl, 0, rfl⟩
  case round =>
    obtain ⟨k, hk, rfl, n, rfl⟩ := hrel
    by_cases hlt : k < ls.length
    · obtain ⟨b, off, rfl, hc⟩ := HC.out (by omega)
      obtain ⟨b', off', rfl, hc'⟩ := HC'.out (by omega)
      have h1 : w.cell? ⟨b, off + k, none⟩ = some (.string ⟨(ls.getD k []).toArray⟩) := hc.at k hlt
      have h2 : w.cell? ⟨b', off' + k, none⟩ = some (.string ⟨(ls.getD k []).toArray⟩) := hc'.at k hlt
      clear hc hc' HC HC'
      generalize ls.getD k [] = r at *
      go_wp2
      go_quiet (fail)
      go_wp2
      go_roundw
      case rel => exact ⟨k + 1, by omega, by go_num, _, rfl⟩
      case measure => simp [intOf]; omega
    · obtain rfl : k = ls.length := by omega
      go_wp2
      go_ret
      exact ⟨rfl, _, rfl⟩
end Go.Proofs.YtcdkojdjcifkpaaDoor
