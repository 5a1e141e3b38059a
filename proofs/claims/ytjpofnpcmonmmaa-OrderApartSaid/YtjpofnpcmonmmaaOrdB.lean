/- Contracts of order.same, differ, Compare, Points. -/
import Derived.Test.YtjpofnpcmonmmaaOrdA
set_option linter.unusedVariables false
set_option linter.unusedSimpArgs false
namespace Go.Proofs.Ytjpofnpcmonmmaa
open Go.RowKit

theorem dif_cons (x : Int) (s t : List Int) : dif (x :: s) (x :: t) = dif s t := by
  show (if x = x then dif s t else (x, x, 0)) = _
  rw [if_pos rfl]
theorem drop_ascii (l : List UInt8) (i : Nat) (h : i < l.length) (h7 : byt l i ≤ 127) : decL (l.drop i) = byt l i :: decL (l.drop (i + 1)) := by
  have hd : byt (l.drop i) 0 = byt l i := byt_drop l i 0
  rw [decL_cons (by simp; omega), nextL_1 (by simp; omega) (by rw [hd]; exact h7), hd, List.drop_drop]
theorem dif_step (a b : List UInt8) (i : Nat) (ha : i < a.length) (hb : i < b.length) (h : byt a i = byt b i) (h7 : byt a i ≤ 127) : dif (decL (a.drop i)) (decL (b.drop i)) = dif (decL (a.drop (i + 1))) (decL (b.drop (i + 1))) := by
  rw [drop_ascii a i ha h7, drop_ascii b i hb (by omega), ← h, dif_cons]
theorem drewN2 (w : World) (a b : Nat) : (w.drewN a).drewN b = w.drewN (a + b) := by simp [World.drewN, Nat.add_assoc]
set_option maxHeartbeats 1000000 in
theorem same_any (a b : List UInt8) (w : World) (hma : a.length ≤ 1000000) (hmb : b.length ≤ 1000000) :
    Calls Try.prog 38 #[.string ⟨a.toArray⟩, .string ⟨b.toArray⟩] w fun e w' => (∃ n : Nat, e = .returned (.int .i64 n) ∧ n ≤ a.length ∧ n ≤ b.length ∧ difS a b = dif (decL (a.drop n)) (decL (b.drop n))) ∧ ∃ q, w' = w.drewN q := by
  have HS := Lib.hid (dif_step a b)
  have H0 : Hid (difS a b = dif (decL (a.drop 0)) (decL (b.drop 0))) := Lib.hid rfl
  rcases Nat.lt_or_ge b.length a.length with c | c
  · have cI : (b.length : Int) < (a.length : Int) := by omega
    go_enter Try.func38, Try.ntmps38
    go_wp2_with fail
    go_loopw [6, 13] (fun tk ti wr => ∃ i : Nat, i ≤ a.length ∧ i ≤ b.length ∧ ti = .int .i64 i ∧ Hid (difS a b = dif (decL (a.drop i)) (decL (b.drop i))) ∧ ∃ q, wr = w.drewN q) (fun _ ti _ => a.length - (intOf ti).toNat)
    case atStart => exact ⟨0, by omega, by omega, rfl, H0, 0, rfl⟩
    case round =>
      obtain ⟨i, hia, hib, rfl, HI, q, rfl⟩ := hrel
      have a0 := byt_lo a i
      have a1 := byt_hi a i
      have b0 := byt_lo b i
      have b1 := byt_hi b i
      by_cases hlt : i < a.length ∧ i < b.length
      · obtain ⟨ha, hb⟩ := hlt
        have hs := HS.out i ha hb
        have hda : (i : Int) < (a.length : Int) := by omega
        have hdb : (i : Int) < (b.length : Int) := by omega
        by_cases he : byt a i = byt b i
        · have e0 : (byt a i == byt b i) = true := by rw [beq_iff_eq]; exact he
          have e1 : (byt a i != byt b i) = false := by rw [bne, e0]; rfl
          by_cases h7 : byt a i ≤ 127
          · have H1 := Lib.hid (HI.out.trans (hs he h7))
            clear hs he
            go_wp2_with fail
            go_quiet (fail)
            go_wp2_with fail
            exact ⟨⟨i + 1, by omega, by omega, by go_num, H1, _, by first | rfl | exact drewN2 _ _ _⟩, by simp [intOf]; omega⟩
          · clear hs he
            go_wp2_with fail
            go_quiet (fail)
            go_wp2_with fail
            go_ret
            exact ⟨⟨i, rfl, by omega, by omega, HI.out⟩, _, drewN2 _ _ _⟩
        · have e0 : (byt a i == byt b i) = false := by rw [beq_eq_false_iff_ne]; exact he
          have e1 : (byt a i != byt b i) = true := by rw [bne, e0]; rfl
          clear hs he
          go_wp2_with fail
          go_quiet (fail)
          go_wp2_with fail
          go_ret
          exact ⟨⟨i, rfl, by omega, by omega, HI.out⟩, _, drewN2 _ _ _⟩
      · have HI2 := Lib.hid HI.out
        obtain rfl : i = b.length := by omega
        go_wp2_with fail
        go_ret
        exact ⟨⟨_, rfl, by omega, by omega, HI2.out⟩, _, rfl⟩
  · have cI : (a.length : Int) ≤ (b.length : Int) := by omega
    go_enter Try.func38, Try.ntmps38
    go_wp2_with fail
    go_loopw [6, 13] (fun tk ti wr => ∃ i : Nat, i ≤ a.length ∧ i ≤ b.length ∧ ti = .int .i64 i ∧ Hid (difS a b = dif (decL (a.drop i)) (decL (b.drop i))) ∧ ∃ q, wr = w.drewN q) (fun _ ti _ => a.length - (intOf ti).toNat)
    case atStart => exact ⟨0, by omega, by omega, rfl, H0, 0, rfl⟩
    case round =>
      obtain ⟨i, hia, hib, rfl, HI, q, rfl⟩ := hrel
      have a0 := byt_lo a i
      have a1 := byt_hi a i
      have b0 := byt_lo b i
      have b1 := byt_hi b i
      by_cases hlt : i < a.length ∧ i < b.length
      · obtain ⟨ha, hb⟩ := hlt
        have hs := HS.out i ha hb
        have hda : (i : Int) < (a.length : Int) := by omega
        have hdb : (i : Int) < (b.length : Int) := by omega
        by_cases he : byt a i = byt b i
        · have e0 : (byt a i == byt b i) = true := by rw [beq_iff_eq]; exact he
          have e1 : (byt a i != byt b i) = false := by rw [bne, e0]; rfl
          by_cases h7 : byt a i ≤ 127
          · have H1 := Lib.hid (HI.out.trans (hs he h7))
            clear hs he
            go_wp2_with fail
            go_quiet (fail)
            go_wp2_with fail
            exact ⟨⟨i + 1, by omega, by omega, by go_num, H1, _, by first | rfl | exact drewN2 _ _ _⟩, by simp [intOf]; omega⟩
          · clear hs he
            go_wp2_with fail
            go_quiet (fail)
            go_wp2_with fail
            go_ret
            exact ⟨⟨i, rfl, by omega, by omega, HI.out⟩, _, drewN2 _ _ _⟩
        · have e0 : (byt a i == byt b i) = false := by rw [beq_eq_false_iff_ne]; exact he
          have e1 : (byt a i != byt b i) = true := by rw [bne, e0]; rfl
          clear hs he
          go_wp2_with fail
          go_quiet (fail)
          go_wp2_with fail
          go_ret
          exact ⟨⟨i, rfl, by omega, by omega, HI.out⟩, _, drewN2 _ _ _⟩
      · have HI2 := Lib.hid HI.out
        obtain rfl : i = a.length := by omega
        go_wp2_with fail
        go_ret
        exact ⟨⟨_, rfl, by omega, by omega, HI2.out⟩, _, rfl⟩
end Go.Proofs.Ytjpofnpcmonmmaa
