/- Contracts of utf.tail, appendPoint, Encode. -/
import Derived.Test.YtkdmmmheciffgaaOwn
import Derived.Test.YtkdmmmheciffgaaOk
import Derived.Test.YtkdmmmheciffgaaUtfA
set_option linter.unusedVariables false
set_option linter.unusedSimpArgs false
namespace Go.Proofs.Ytkdmmmheciffgaa
open Go.RowKit

def shd (r s : Int) : Int := if s = 0 then r else if s = 6 then r / 64 else r / 4096
set_option maxHeartbeats 1000000 in
theorem tail_any (r s : Int) (w : World) (h0 : 0 ≤ r) (h1 : r ≤ 1114111) (hs : s = 0 ∨ s = 6 ∨ s = 12) :
    Calls Try.prog 64 #[.int .i32 r, .int .i64 s] w fun e w' => e = .returned (.int .u8 (128 + shd r s % 64)) ∧ w = w' := by
  rcases hs with rfl | rfl | rfl
  all_goals
    go_enter Try.func64, Try.ntmps64
    go_wp2
    go_ret
    refine ⟨?_, by trivial⟩
    simp [shd]
    try omega

theorem app_end {w' : World} {B : Nat} {e : TypeId} {v : Value} {xs : List Value} {r : Int} {cs : List Value} (hown : Own w' B e v (xs ++ cs)) (h : (encR r).map u8V = cs) : Own w' B e v (xs ++ (encR r).map u8V) := by rw [h]; exact hown

set_option maxHeartbeats 1000000 in
theorem appendPoint_any (vb : Value) (xs : List Value) (B : Nat) (r : Int) (w : World) (h0 : 0 ≤ r) (h1 : r ≤ 1114111) (hown : Own w B 5 vb xs) (hB : B ≤ w.heap.size) (hx : xs.length ≤ 100000000) :
    Calls Try.prog 63 #[vb, .int .i32 r] w fun e w' => ∃ v', e = .returned v' ∧ Own w' B 5 v' (xs ++ (encR r).map u8V) ∧ w.grownBy w' vb.ownBlock := by
  by_cases h2 : r < 128
  · have he : (encR r).map u8V = [.int .u8 r] := by unfold encR; rw [if_pos h2]; simp [u8V_mk h0 (show r ≤ 255 by omega)]
    have HE := Lib.hid he
    clear he
    go_enter Try.func63, Try.ntmps63
    go_wp2_with (first | (go_at_call 64; refine (tail_any _ _ _ (by omega) (by omega) (by omega)).mono ?_; rintro e w' ⟨rfl, rfl⟩) | (at_builtin; refine wpList_appL _ rfl _ _ 22 rfl B 5 (.int .u8 0) 1 ok8 _ _ rfl hown _ 1 1 rfl rfl ?c1 (by omega) (by omega) hB ?_))
    case c1 => simp [Value.oneCell']
    intro v' w' hown' hgr
    go_wp2
    go_ret
    exact ⟨_, rfl, app_end hown' (by rw [HE.out]; try simp [shd]), hgr⟩
  by_cases h3 : r < 2048
  · have he : (encR r).map u8V = [.int .u8 (192 + r / 64), .int .u8 (128 + r % 64)] := by unfold encR; rw [if_neg h2, if_pos h3]; simp [u8V_mk (show 0 ≤ 192 + r / 64 by omega) (by omega), u8V_mk (show 0 ≤ 128 + r % 64 by omega) (by omega)]
    have HE := Lib.hid he
    clear he
    go_enter Try.func63, Try.ntmps63
    go_wp2_with (first | (go_at_call 64; refine (tail_any _ _ _ (by omega) (by omega) (by omega)).mono ?_; rintro e w' ⟨rfl, rfl⟩) | (at_builtin; refine wpList_appL _ rfl _ _ 22 rfl B 5 (.int .u8 0) 1 ok8 _ _ rfl hown _ 2 2 rfl rfl ?c1 (by omega) (by omega) hB ?_))
    case c1 => simp [Value.oneCell']
    intro v' w' hown' hgr
    go_wp2
    go_ret
    exact ⟨_, rfl, app_end hown' (by rw [HE.out]; try simp [shd]), hgr⟩
  by_cases h4 : r < 65536
  · have he : (encR r).map u8V = [.int .u8 (224 + r / 4096), .int .u8 (128 + r / 64 % 64), .int .u8 (128 + r % 64)] := by
      unfold encR; rw [if_neg h2, if_neg h3, if_pos h4]; simp [u8V_mk (show 0 ≤ 224 + r / 4096 by omega) (by omega), u8V_mk (show 0 ≤ 128 + r / 64 % 64 by omega) (by omega), u8V_mk (show 0 ≤ 128 + r % 64 by omega) (by omega)]
    have HE := Lib.hid he
    clear he
    go_enter Try.func63, Try.ntmps63
    go_wp2_with (first | (go_at_call 64; refine (tail_any _ _ _ (by omega) (by omega) (by omega)).mono ?_; rintro e w' ⟨rfl, rfl⟩) | (at_builtin; refine wpList_appL _ rfl _ _ 22 rfl B 5 (.int .u8 0) 1 ok8 _ _ rfl hown _ 3 3 rfl rfl ?c1 (by omega) (by omega) hB ?_))
    case c1 => simp [Value.oneCell']
    intro v' w' hown' hgr
    go_wp2
    go_ret
    exact ⟨_, rfl, app_end hown' (by rw [HE.out]; try simp [shd]), hgr⟩
  · have he : (encR r).map u8V = [.int .u8 (240 + r / 262144), .int .u8 (128 + r / 4096 % 64), .int .u8 (128 + r / 64 % 64), .int .u8 (128 + r % 64)] := by
      unfold encR; rw [if_neg h2, if_neg h3, if_neg h4]; simp [u8V_mk (show 0 ≤ 240 + r / 262144 by omega) (by omega), u8V_mk (show 0 ≤ 128 + r / 4096 % 64 by omega) (by omega), u8V_mk (show 0 ≤ 128 + r / 64 % 64 by omega) (by omega), u8V_mk (show 0 ≤ 128 + r % 64 by omega) (by omega)]
    have HE := Lib.hid he
    clear he
    go_enter Try.func63, Try.ntmps63
    go_wp2_with (first | (go_at_call 64; refine (tail_any _ _ _ (by omega) (by omega) (by omega)).mono ?_; rintro e w' ⟨rfl, rfl⟩) | (at_builtin; refine wpList_appL _ rfl _ _ 22 rfl B 5 (.int .u8 0) 1 ok8 _ _ rfl hown _ 4 4 rfl rfl ?c1 (by omega) (by omega) hB ?_))
    case c1 => simp [Value.oneCell']
    intro v' w' hown' hgr
    go_wp2
    go_ret
    exact ⟨_, rfl, app_end hown' (by rw [HE.out]; try simp [shd]), hgr⟩

set_option maxHeartbeats 1000000 in
theorem encode_any (v : Value) (l : List Int) (w : World) (hv : Is32 w v l) (hm : l.length ≤ 1000000) (hr : ∀ i, i < l.length → -2147483648 ≤ l.getD i 0 ∧ l.getD i 0 ≤ 2147483647) :
    Calls Try.prog 58 #[v] w fun e w' => ∃ v', e = .returned v' ∧ Own w' w.heap.size 5 v' ((encL l).map u8V) ∧ Below w.heap.size w w' := by
  obtain ⟨a, cap, rfl, hc1, hc2, -, hs⟩ := hv
  unfold maxLen at hc2
  have HC : Hid (0 < l.length → ∃ b off, a = some ⟨b, off, none⟩ ∧ Cells w b off l.length (i32At l)) := Lib.hid hs
  have HRG := Lib.hid hr
  clear hs hr
  go_enter Try.func58, Try.ntmps58
  go_wp2_with (at_make; refine wpList_make0 _ rfl _ _ 22 rfl w.heap.size 5 (.int .u8 0) 1 ok8 _ _ _ l.length rfl rfl rfl (by omega) (by omega) (Nat.le_refl _) ?_)
  intro w0 hown0 hg0
  go_wp2
  go_loopw [3, 11] (fun tv ti wr => ∃ (k : Nat), k ≤ l.length ∧ ti = .int .i64 k ∧ Own wr w.heap.size 5 tv ((encL (l.take k)).map u8V) ∧ Below w.heap.size w wr) (fun _ ti _ => l.length - (intOf ti).toNat)
  case atStart => exact ⟨0, by omega, rfl, by simpa [encL] using hown0, (Below.refl _ _).grown hg0 (Nat.le_refl _) (fun k h => by cases h)⟩
  case round =>
    obtain ⟨k, hk, rfl, hown, hbel⟩ := hrel
    by_cases hlt : k < l.length
    · obtain ⟨b, off, rfl, hc⟩ := HC.out (by omega)
      have hcell : wr.cell? ⟨b, off + k, none⟩ = some (.int .i32 (l.getD k 0)) := (hc.below hbel (hc.lt (by omega))).at k hlt
      have ht := Lib.hid (encL_take l k hlt)
      have hf := fixR_bd (l.getD k 0)
      have hln := (encL_len (l.take k)).2
      obtain ⟨hr1, hr2⟩ := HRG.out k hlt
      simp only [List.length_take] at hln
      have HFX : Hid (fixR (l.getD k 0) = if l.getD k 0 < 0 ∨ 1114111 < l.getD k 0 ∨ (55296 ≤ l.getD k 0 ∧ l.getD k 0 ≤ 57343) then 65533 else l.getD k 0) := Lib.hid rfl
      clear hc HC HRG
      have hsz := hbel.size
      generalize fixR (l.getD k 0) = R at *
      generalize l.getD k 0 = r at *
      by_cases c1 : r < 0
      · have hRr : R = 65533 := by have := HFX.out; rw [this, if_pos (by omega)]
        subst hRr
        go_wp2_with fail
        refine (appendPoint_any _ _ w.heap.size _ _ (by omega) (by omega) hown (by simpa using hsz) (by simp; omega)).mono ?_
        rintro e w2 ⟨v', rfl, hown2, hgr⟩
        have hb2 : Below w.heap.size w w2 := hbel.grown hgr hsz (fun k hk => (hown.row k hk).1)
        go_wp2
        go_roundw
        case rel => exact ⟨k + 1, by omega, by go_num, by rw [ht.out]; simpa using hown2, hb2⟩
        case measure => simp [intOf]; omega
      by_cases c2 : 1114111 < r
      · have hRr : R = 65533 := by have := HFX.out; rw [this, if_pos (by omega)]
        subst hRr
        go_wp2_with fail
        refine (appendPoint_any _ _ w.heap.size _ _ (by omega) (by omega) hown (by simpa using hsz) (by simp; omega)).mono ?_
        rintro e w2 ⟨v', rfl, hown2, hgr⟩
        have hb2 : Below w.heap.size w w2 := hbel.grown hgr hsz (fun k hk => (hown.row k hk).1)
        go_wp2
        go_roundw
        case rel => exact ⟨k + 1, by omega, by go_num, by rw [ht.out]; simpa using hown2, hb2⟩
        case measure => simp [intOf]; omega
      by_cases c3 : r / 2048 = 27
      · have hRr : R = 65533 := by have := HFX.out; rw [this, if_pos (by omega)]
        subst hRr
        go_wp2_with fail
        refine (appendPoint_any _ _ w.heap.size _ _ (by omega) (by omega) hown (by simpa using hsz) (by simp; omega)).mono ?_
        rintro e w2 ⟨v', rfl, hown2, hgr⟩
        have hb2 : Below w.heap.size w w2 := hbel.grown hgr hsz (fun k hk => (hown.row k hk).1)
        go_wp2
        go_roundw
        case rel => exact ⟨k + 1, by omega, by go_num, by rw [ht.out]; simpa using hown2, hb2⟩
        case measure => simp [intOf]; omega
      · have hRr : R = r := by have := HFX.out; rw [this, if_neg (by omega)]
        subst hRr
        go_wp2_with fail
        refine (appendPoint_any _ _ w.heap.size _ _ (by omega) (by omega) hown (by simpa using hsz) (by simp; omega)).mono ?_
        rintro e w2 ⟨v', rfl, hown2, hgr⟩
        have hb2 : Below w.heap.size w w2 := hbel.grown hgr hsz (fun k hk => (hown.row k hk).1)
        go_wp2
        go_roundw
        case rel => exact ⟨k + 1, by omega, by go_num, by rw [ht.out]; simpa using hown2, hb2⟩
        case measure => simp [intOf]; omega
    · obtain rfl : k = l.length := by omega
      go_wp2
      go_ret
      refine ⟨_, rfl, ?_, hbel⟩
      simpa using hown

end Go.Proofs.Ytkdmmmheciffgaa
