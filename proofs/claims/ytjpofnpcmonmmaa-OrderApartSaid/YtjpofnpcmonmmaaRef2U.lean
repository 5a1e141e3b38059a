/- The contract of ref2.Units. -/
import Derived.Test.YtjpofnpcmonmmaaUtfM
import Derived.Test.YtjpofnpcmonmmaaUnitsM
import Derived.Test.YtjpofnpcmonmmaaBytes
import Derived.Test.YtjpofnpcmonmmaaOk
import Derived.Test.YtjpofnpcmonmmaaRefD
set_option linter.unusedVariables false
set_option linter.unusedSimpArgs false
namespace Go.Proofs.Ytjpofnpcmonmmaa
open Go.RowKit

def u16V (r : Int) : Value := .int .u16 r
theorem i32_and10 (x : Int) (h0 : 0 ≤ x) (h1 : x < 2147483648) : bits .and .i32 x 1023 = x % 1024 := bits_mask .i32 31 (by decide) wraps_i32 10 (by decide) x h0 h1
set_option maxRecDepth 100000 in
set_option maxHeartbeats 2000000 in
theorem rUnits_any (l : List UInt8) (w : World) (hm : l.length ≤ 1000000) :
    Calls Try.prog 14 #[.string ⟨l.toArray⟩] w fun e w' => ∃ v', e = .returned v' ∧ Own w' w.heap.size 41 v' ((unitsL (decL l)).map u16V) ∧ Below w.heap.size w w' := by
  have hd := decL_len _ l (Nat.le_refl _)
  have HBD := Lib.hid (decL_bd2 l)
  go_enter Try.func14, Try.ntmps14
  go_wp2_with (refine wpList_toBytes _ (by rfl) 9 37 _ rfl 5 Try.underlying9 Try.underlying37 Try.underlying5 l rfl (by omega) ?_)
  intro b cap w1 h8 hb1 hbe
  have H8 := Lib.hid h8
  have HB1 := Lib.hid hb1
  clear h8 hb1 hbe
  go_wp2_with fail
  refine (rdecode_any _ l _ H8.out (by omega)).mono ?_
  rintro e w2 ⟨v2, rfl, hown2, hb2⟩
  have hs2 := hown2.is32
  have hB2 := ext_trans HB1.out hb2
  obtain ⟨rs, hrs⟩ : ∃ rs, decL l = rs := ⟨_, rfl⟩
  rw [hrs] at hd HBD hs2 hown2
  have HD := Lib.hid hrs
  obtain ⟨a, cap2, rfl, hc1, hc2, -, hs⟩ := hs2
  unfold maxLen at hc2
  have HC : Hid (0 < rs.length → ∃ b off, a = some ⟨b, off, none⟩ ∧ Cells w2 b off rs.length (i32At rs)) := Lib.hid hs
  have HB2 := Lib.hid hB2
  clear hrs hs hown2 hb2 hB2
  go_wp2_with fail
  go_loopw [3, 5] (fun tv ti wr => ∃ i : Nat, i ≤ rs.length ∧ ti = .int .i64 i ∧ Own wr w2.heap.size 41 tv ((unitsL (rs.take i)).map u16V) ∧ Below w2.heap.size w2 wr) (fun _ ti _ => rs.length - (intOf ti).toNat)
  case atStart => exact ⟨0, by omega, rfl, by simpa [unitsL] using Own.nil _ _ _, Below.refl _ _⟩
  case round =>
    obtain ⟨i, hi, rfl, hown, hbel⟩ := hrel
    by_cases hlt : i < rs.length
    · obtain ⟨b', off, rfl, hc⟩ := HC.out (by omega)
      have hcell : wr.cell? ⟨b', off + i, none⟩ = some (.int .i32 (rs.getD i 0)) := (hc.below hbel (hc.lt (by omega))).at i hlt
      have HT := Lib.hid (unitsL_take rs i hlt)
      obtain ⟨hr1, hr2⟩ := HBD.out i hlt
      have hul := (unitsL_len (rs.take i)).2
      rw [List.length_take] at hul
      clear hc HC
      obtain ⟨r, hr⟩ : ∃ r, rs.getD i 0 = r := ⟨_, rfl⟩
      rw [hr] at hcell hr1 hr2 HT
      clear hr
      have hsz := hbel.size
      by_cases h1 : 65535 < r
      · have HE : Hid (unitsR r = [55296 + (r - 65536) / 1024, 56320 + (r - 65536) % 1024]) := Lib.hid (by unfold unitsR; rw [if_pos h1])
        obtain ⟨x, hx⟩ : ∃ x, r - 65536 = x := ⟨_, rfl⟩
        have x0 : 0 ≤ x := by omega
        have x1 : x ≤ 1048575 := by omega
        rw [hx] at HE
        have HX := Lib.hid hx
        have p1 : bits .and .i32 x 1023 = x % 1024 := i32_and10 x x0 (by omega)
        have hxx : r - 65536 = x := hx
        clear hx
        have hc1 : ∀ u ∈ (#[.int .u16 (55296 + x / 1024), .int .u16 (56320 + x % 1024)] : Array Value).toList, u.oneCell' = true := by intro u hu; simp at hu; rcases hu with rfl | rfl <;> rfl
        have hc2 : (((unitsL (rs.take i)).map u16V).length + 2) * 2 ≤ 140737488355328 := by rw [List.length_map]; omega
        have hc3 : ((unitsL (rs.take i)).map u16V).length + 2 ≤ 9223372036854775807 := by rw [List.length_map]; omega
        clear hul
        go_wp2_with (at_builtin; refine wpList_appL _ rfl _ _ 25 rfl w2.heap.size 41 (.int .u16 0) 2 ok16u _ _ rfl hown #[.int .u16 (55296 + x / 1024), .int .u16 (56320 + x % 1024)] 2 2 rfl rfl hc1 hc2 hc3 hsz ?_)
        intro v' w3 hown3 hgr3
        have hb3 : Below w2.heap.size w2 w3 := hbel.grown hgr3 hsz (fun k hk => (hown.row k hk).1)
        clear p1 hxx
        go_wp2
        exact ⟨⟨i + 1, by omega, by go_num, by rw [HT.out, HE.out, List.map_append]; simpa [u16V] using hown3, hb3⟩, by simp [intOf]; omega⟩
      · have HE : Hid (unitsR r = [r]) := Lib.hid (by unfold unitsR; rw [if_neg h1])
        have hc1 : ∀ u ∈ (#[.int .u16 r] : Array Value).toList, u.oneCell' = true := by intro u hu; simp at hu; subst hu; rfl
        have hc2 : (((unitsL (rs.take i)).map u16V).length + 1) * 2 ≤ 140737488355328 := by rw [List.length_map]; omega
        have hc3 : ((unitsL (rs.take i)).map u16V).length + 1 ≤ 9223372036854775807 := by rw [List.length_map]; omega
        clear hul
        go_wp2_with (at_builtin; refine wpList_appL _ rfl _ _ 25 rfl w2.heap.size 41 (.int .u16 0) 2 ok16u _ _ rfl hown #[.int .u16 r] 1 1 rfl rfl hc1 hc2 hc3 hsz ?_)
        intro v' w3 hown3 hgr3
        have hb3 : Below w2.heap.size w2 w3 := hbel.grown hgr3 hsz (fun k hk => (hown.row k hk).1)
        go_wp2
        exact ⟨⟨i + 1, by omega, by go_num, by rw [HT.out, HE.out, List.map_append]; simpa [u16V] using hown3, hb3⟩, by simp [intOf]; omega⟩
    · obtain rfl : i = rs.length := by omega
      go_wp2_with fail
      go_ret
      refine ⟨_, rfl, ?_, HB2.out.trans (hbel.mono HB2.out.size)⟩
      rw [HD.out]
      have := hown.base HB2.out.size
      simpa using this
end Go.Proofs.Ytjpofnpcmonmmaa
