/- walk.At. -/
import Derived.Test.YtjpofnpcmonmmaaUtfA
import Derived.Test.YtjpofnpcmonmmaaUtfM
import Derived.Test.YtjpofnpcmonmmaaBytes
import Derived.Test.YtjpofnpcmonmmaaStrs
import Derived.Test.YtjpofnpcmonmmaaLaid
import Derived.IntWalk
set_option linter.unusedVariables false
set_option linter.unusedSimpArgs false
namespace Go.Proofs.Ytjpofnpcmonmmaa
open Go.RowKit

theorem byt_take_lt (l : List UInt8) (n i : Nat) (h : i < n) : byt (l.take n) i = byt l i := by
  unfold byt; simp [List.getD, List.getElem?_take, h]
theorem nl_take (l : List UInt8) (n : Nat) : ∀ (j i : Nat) (r lo hi : Int), i + j ≤ n → nl (l.take n) j i r lo hi = nl l j i r lo hi := by
  intro j
  induction j with
  | zero => intro i r lo hi h; rfl
  | succ j ih =>
    intro i r lo hi h
    by_cases hi' : i < l.length
    · by_cases hc : lo ≤ byt l i ∧ byt l i ≤ hi
      · rw [nl_yes ⟨hi', hc⟩, nl_yes ⟨by rw [List.length_take]; omega, by rw [byt_take_lt l n i (by omega)]; exact hc⟩, byt_take_lt l n i (by omega), ih _ _ _ _ (by omega)]
      · rw [nl_no (fun h => hc h.2), nl_no (fun h => hc (by have := h.2; rwa [byt_take_lt l n i (by omega)] at this))]
    · rw [nl_no (fun h => hi' h.1), nl_no (fun h => hi' (by have := h.1; rw [List.length_take] at this; omega))]
theorem nextL_take (l : List UInt8) (n : Nat) (h : 4 ≤ n) : nextL (l.take n) = nextL l := by
  by_cases h0 : l.length = 0
  · rw [List.eq_nil_of_length_eq_zero h0]; simp
  · have hm : (shp (byt l 0)).1.toNat ≤ 3 := by
      rcases shp_cases (byt l 0) with h | ⟨m, lo, hi, h, h1, h2, _⟩ <;> rw [h]
      · decide
      · show m.toNat ≤ 3; omega
    unfold nextL
    rw [byt_take_lt l n 0 (by omega), if_neg h0, if_neg (by rw [List.length_take]; omega), nl_take l n _ _ _ _ _ (by omega)]
/-- What stands in l at k. -/
def atR (l : List UInt8) (k : Nat) : Int := (nextL (l.drop k)).1
def atN (l : List UInt8) (k : Nat) : Nat := (nextL (l.drop k)).2.1
theorem atN_bd (l : List UInt8) (k : Nat) (h : k < l.length) : 1 ≤ atN l k ∧ k + atN l k ≤ l.length ∧ atN l k ≤ 4 := by
  have := nextL_n (l.drop k) (by simp; omega)
  simp only [List.length_drop] at this
  unfold atN; omega
theorem atR_bd (l : List UInt8) (k : Nat) : 0 ≤ atR l k ∧ atR l k ≤ 1114111 := nextL_r _
theorem decL_at (l : List UInt8) (k : Nat) (h : k < l.length) : decL (l.drop k) = atR l k :: decL (l.drop (k + atN l k)) := by
  rw [decL_cons (by simp; omega), List.drop_drop]; rfl
theorem tupRN {a b a' b' : Int} (h1 : a = a') (h2 : b = b') : Ending.returned (.tuple #[.int .i32 a, .int .i64 b]) = .returned (.tuple #[.int .i32 a', .int .i64 b']) := by rw [h1, h2]

set_option maxHeartbeats 1000000 in
theorem at_laid (l : List UInt8) (k : Nat) (w : World) (hk : k ≤ l.length) (hm : l.length ≤ 1000000) :
    Calls Try.prog 26 #[.string ⟨l.toArray⟩, .int .i64 k] w fun e w' => e = .returned (.tuple #[.int .i32 (atR l k), .int .i64 (atN l k)]) ∧ Laid w w' := by
  by_cases h0 : k < l.length
  · have b0 := byt_lo l k
    have b1 := byt_hi l k
    have hb : byt (l.drop k) 0 = byt l k := byt_drop l k 0
    have hkl : (k : Int) < l.length := by omega
    by_cases h1 : byt l k ≤ 127
    · have hn := nextL_1 (l := l.drop k) (by simp; omega) (by rw [hb]; exact h1)
      have HR : Hid (atR l k = byt l k) := Lib.hid (by unfold atR; rw [hn, hb])
      have HN : Hid ((atN l k : Int) = 1) := Lib.hid (by unfold atN; rw [hn]; rfl)
      clear hn hb
      go_enter Try.func26, Try.ntmps26
      go_wp2
      go_ret2
      exact ⟨tupRN HR.out.symm HN.out.symm, Laid.refl _⟩
    · have HR : Hid (nextL ((l.take (k + 4)).drop k) = nextL (l.drop k)) := Lib.hid (by
        rw [List.drop_take, show k + 4 - k = 4 from by omega]; exact nextL_take _ 4 (by decide))
      have g1 : IntKind.i64.wrap ((k : Int) + 4) = (k : Int) + 4 := IntWalk.i64_in _ (by omega)
      clear hb
      by_cases h4 : k + 4 ≤ l.length
      · have g2 : min ((k : Int) + 4) (l.length : Int) = (k : Int) + 4 := by omega
        have g3 : (0 : Int) ≤ (k : Int) + 4 := by omega
        have g4 : ((k : Int) + 4).toNat = k + 4 := by omega
        have g5 : (k : Int) ≤ (k : Int) + 4 := by omega
        have g6 : (k : Int) + 4 ≤ l.length := by omega
        go_enter Try.func26, Try.ntmps26
        go_wp2_with (refine wpList_toBytesL _ (by rfl) 9 37 _ rfl 5 Try.underlying9 Try.underlying37 Try.underlying5 ((l.take (k + 4)).drop k) rfl (by simp; omega) ?_)
        intro b cap w1 h8 hb1 hbe
        have H8 := Lib.hid h8
        have HB1 := Lib.hid hb1
        clear h8 hb1 hbe g1 g2 g4
        go_wp2_with fail
        refine (next_any _ ((l.take (k + 4)).drop k) _ H8.out (by simp; omega)).mono ?_
        rintro e w2 ⟨rfl, n2, rfl⟩
        rw [HR.out]
        go_wp2
        go_ret2
        exact ⟨tupRN rfl rfl, HB1.out.trans (laid_drew _ n2)⟩
      · have g2 : min ((k : Int) + 4) (l.length : Int) = (l.length : Int) := by omega
        go_enter Try.func26, Try.ntmps26
        go_wp2_with (refine wpList_toBytesL _ (by rfl) 9 37 _ rfl 5 Try.underlying9 Try.underlying37 Try.underlying5 (l.drop k) rfl (by simp; omega) ?_)
        intro b cap w1 h8 hb1 hbe
        have H8 := Lib.hid h8
        have HB1 := Lib.hid hb1
        clear h8 hb1 hbe g1 g2
        go_wp2_with fail
        refine (next_any _ (l.drop k) _ H8.out (by simp; omega)).mono ?_
        rintro e w2 ⟨rfl, n2, rfl⟩
        go_wp2
        go_ret2
        exact ⟨tupRN rfl rfl, HB1.out.trans (laid_drew _ n2)⟩
  · obtain rfl : k = l.length := by omega
    have hn : nextL (l.drop l.length) = (0, 0, false) := by rw [List.drop_length]; rfl
    have HR : Hid (atR l l.length = 0) := Lib.hid (by unfold atR; rw [hn])
    have HN : Hid ((atN l l.length : Int) = 0) := Lib.hid (by unfold atN; rw [hn]; rfl)
    clear hn
    go_enter Try.func26, Try.ntmps26
    go_wp2
    go_ret2
    exact ⟨tupRN HR.out.symm HN.out.symm, Laid.refl _⟩
theorem at_any (l : List UInt8) (k : Nat) (w : World) (hk : k ≤ l.length) (hm : l.length ≤ 1000000) :
    Calls Try.prog 26 #[.string ⟨l.toArray⟩, .int .i64 k] w fun e w' => e = .returned (.tuple #[.int .i32 (atR l k), .int .i64 (atN l k)]) ∧ Below w.heap.size w w' :=
  (at_laid l k w hk hm).mono fun _ _ ⟨h1, h2⟩ => ⟨h1, h2.1⟩
end Go.Proofs.Ytjpofnpcmonmmaa
