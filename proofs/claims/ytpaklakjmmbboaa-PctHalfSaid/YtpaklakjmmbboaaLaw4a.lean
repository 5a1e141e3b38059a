/- awake of layer 4; the first walks of its laws. -/
import Derived.Test.YtpaklakjmmbboaaPctE
import Derived.Test.YtpaklakjmmbboaaLow
set_option linter.unusedVariables false
set_option linter.unusedSimpArgs false
namespace Go.Proofs.Ytpaklakjmmbboaa
open Go.RowKit

set_option maxRecDepth 100000 in
set_option maxHeartbeats 2000000 in
theorem awake4_any (w : World) :
    Calls Try.prog 13 #[] w fun e w' => e = .returned (.bool true) ∧ Below w.heap.size w w' := by
  have N1 : Hid (pencL 4 [97, 32, 98, 195, 169] = [97, 37, 50, 48, 98, 37, 67, 51, 37, 65, 57]) := Lib.hid (by decide +kernel)
  have N2 : Hid (pdec [47, 97, 37, 50, 70, 37, 122, 122] = [47, 97, 47, 37, 122, 122]) := Lib.hid (by decide +kernel)
  have N3 : Hid (pinB 4 63 = true) := Lib.hid (by decide)
  have N4 : Hid (pinB 2 63 = false) := Lib.hid (by decide)
  have N5 : Hid (pinB 0 97 = false) := Lib.hid (by decide)
  go_enter Try.func13, Try.ntmps13
  go_wp2_with fail
  refine (pencode_any [97, 32, 98, 195, 169] 4 _ (by decide) (by decide) (by decide)).mono ?_
  rintro e w1 ⟨rfl, hb1⟩
  rw [N1.out]
  have HB1 := Lib.hid hb1
  clear hb1
  go_wp2_with fail
  refine (decodeP_any [47, 97, 37, 50, 70, 37, 122, 122] _ (by decide)).mono ?_
  rintro e w2 ⟨v2, rfl, hown2, hb2⟩
  rw [N2.out] at hown2
  have H2 := Lib.hid hown2.is8
  have HB2 := Lib.hid hb2
  clear hown2 hb2
  go_wp2_with (refine wpList_toStr _ (by rfl) _ _ _ rfl 5 Try.underlying27 Try.underlying5 Try.underlying9 _ rfl [47, 97, 47, 37, 122, 122] H2.out ?_)
  refine (In_any 4 63 _ (by decide) (by decide) (by decide) (by decide)).mono ?_
  rintro e w' ⟨rfl, rfl⟩
  rw [N3.out]
  go_wp2_with fail
  refine (In_any 2 63 _ (by decide) (by decide) (by decide) (by decide)).mono ?_
  rintro e w' ⟨rfl, rfl⟩
  rw [N4.out]
  go_wp2_with fail
  refine (In_any 0 97 _ (by decide) (by decide) (by decide) (by decide)).mono ?_
  rintro e w' ⟨rfl, rfl⟩
  rw [N5.out]
  go_wp2_with fail
  go_ret
  exact ⟨rfl, ext_trans HB1.out HB2.out⟩
end Go.Proofs.Ytpaklakjmmbboaa
