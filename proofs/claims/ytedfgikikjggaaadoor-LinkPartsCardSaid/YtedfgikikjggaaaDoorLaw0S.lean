/- Long, Texts. -/
import Derived.Test.YtedfgikikjggaaaDoorStrs
set_option linter.unusedVariables false
set_option linter.unusedSimpArgs false
namespace Go.Proofs.YtedfgikikjggaaaDoor
open Go.RowKit

set_option maxHeartbeats 1000000 in
theorem long_any (n0 : Int) (v : Value) (ls : List (List UInt8)) (w : World) (hv : IsStr w v ls) (hn0 : -1000000000 ≤ n0) (hn : n0 ≤ 1000000000) (hm : ls.length ≤ 1000000) (hms : ∀ s ∈ ls, (s.length : Int) ≤ 9223372036854775807) :
    Calls Tryd.prog 18 #[.int .i64 n0, v] w fun e w' => e = .returned (.bool (longB n0 ls)) ∧ ∃ n, w' = w.drewN n := by
  obtain ⟨a, cap, rfl, hc1, hc2, -, hs⟩ := hv
  unfold maxLen at hc2
  have HC : Hid (0 < ls.length → ∃ b off, a = some ⟨b, off, none⟩ ∧ Cells w b off ls.length (strAt ls)) := Lib.hid hs
  have HMS := Lib.hid hms
  clear hs hms
  go_enter Tryd.func18, Tryd.ntmps18
  go_wp2
  go_loopw [0, 5] (fun tn ti wr => ∃ (k : Nat) (n : Int), k ≤ ls.length ∧ ti = .int .i64 k ∧ tn = .int .i64 n ∧ n ≤ 1000000000 ∧ (k = 0 → -1000000000 ≤ n) ∧ (0 < k → 0 ≤ n) ∧ Hid (longB n0 ls = longB n (ls.drop k)) ∧ ∃ m, wr = w.drewN m) (fun _ ti _ => ls.length - (intOf ti).toNat)
  case atStart => exact ⟨0, n0, by omega, rfl, rfl, hn, fun _ => hn0, fun h => by omega, Lib.hid rfl, 0, rfl⟩
  case round =>
    obtain ⟨k, n, hk, rfl, rfl, hn1, hn2, hn3, HR, m, rfl⟩ := hrel
    have hn4 : -1000000000 ≤ n := by
      rcases Nat.eq_zero_or_pos k with h | h
      · exact hn2 h
      · have := hn3 h; omega
    clear hn2 hn3
    by_cases hlt : k < ls.length
    · obtain ⟨b, off, rfl, hc⟩ := HC.out (by omega)
      have hcell : w.cell? ⟨b, off + k, none⟩ = some (.string ⟨(ls.getD k []).toArray⟩) := hc.at k hlt
      have hsl := HMS.out (ls.getD k []) (by simp [List.getD, hlt])
      have hdk : ls.drop k = ls.getD k [] :: ls.drop (k + 1) := by rw [List.drop_eq_getElem_cons hlt]; simp [List.getD, hlt]
      rw [hdk] at HR
      clear hc HC HMS hdk
      generalize ls.getD k [] = s at *
      by_cases hle : n ≤ (s.length : Int)
      · have HF : Hid (longB n0 ls = true) := Lib.hid (by rw [HR.out]; unfold longB; rw [if_pos hle])
        go_wp2
        go_ret
        exact ⟨ret_b HF.out.symm, _, rfl⟩
      · have HF : Hid (longB n0 ls = longB (n - s.length - 1) (ls.drop (k + 1))) := Lib.hid (by rw [HR.out]; conv => lhs; unfold longB; rw [if_neg hle])
        have hq : (s.length : Int) < n := by omega
        go_wp2
        go_roundw
        case rel => exact ⟨k + 1, _, by omega, by go_num, rfl, by omega, fun h => by omega, fun _ => by omega, HF, _, rfl⟩
        case measure => simp [intOf]; omega
    · obtain rfl : k = ls.length := by omega
      have HF : Hid (longB n0 ls = false) := Lib.hid (by rw [HR.out]; simp [longB])
      go_wp2
      go_ret
      exact ⟨ret_b HF.out.symm, _, rfl⟩

end Go.Proofs.YtedfgikikjggaaaDoor
