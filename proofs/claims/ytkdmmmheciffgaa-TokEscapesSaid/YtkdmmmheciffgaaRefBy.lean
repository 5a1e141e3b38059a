/- The contract of ref1.Bytes. -/
import Derived.Test.YtkdmmmheciffgaaOwn
import Derived.Test.YtkdmmmheciffgaaLit
import Derived.Test.YtkdmmmheciffgaaRef1A
set_option linter.unusedVariables false
set_option linter.unusedSimpArgs false
namespace Go.Proofs.Ytkdmmmheciffgaa
open Go.RowKit

theorem i32_or (i : Nat) (x y : Int) (hx0 : 0 ≤ x) (hx : x % 2 ^ i = 0) (hx1 : x < 2147483648) (hy : 0 ≤ y) (h : y < 2 ^ i) (hy1 : y < 2147483648) : bits .or .i32 x y = x + y :=
  bits_join .i32 31 (by decide) wraps_i32 i x y hx0 hx hx1 hy h hy1
theorem lit_end {w : World} {e : TypeId} {r : Int} {cs : Array Value} (n : Nat) (h : (encR r).map u8V = cs.toList) (hn : cs.toList.length = n) (hn4 : n ≤ 4) :
    Own (w.alloc (.cells cs e)) w.heap.size e (.slice (some ⟨w.heap.size, 0, none⟩) n n) ((encR r).map u8V) := by
  rw [h]; exact Own.lit w _ e cs n hn (Nat.le_refl _) (by omega)

set_option maxHeartbeats 1000000 in
theorem bytes_any (r : Int) (w : World) (h0 : -2147483648 ≤ r) (h1 : r ≤ 2147483647) :
    Calls Try.prog 19 #[.int .i32 r] w fun e w' => ∃ v', e = .returned v' ∧ Own w' w.heap.size 5 v' ((encR (fixR r)).map u8V) ∧ Below w.heap.size w w' := by
  have b63 : ∀ x : Int, 0 ≤ x → x < 2147483648 → bits .and .i32 x 63 = x % 64 := fun x a b => i32_and 6 (by decide) x a b
  by_cases h2 : r < 0
  · have hf : fixR r = 65533 := by unfold fixR; rw [if_pos (by omega)]
    rw [hf]
    clear hf b63
    go_enter Try.func19, Try.ntmps19
    go_wp2
    go_ret
    exact ⟨_, rfl, Own.lit _ _ _ _ 3 rfl (Nat.le_refl _) (by omega), (Below.refl _ _).alloc (Nat.le_refl _) _⟩
  by_cases h3 : 1114111 < r
  · have hf : fixR r = 65533 := by unfold fixR; rw [if_pos (by omega)]
    rw [hf]
    clear hf b63
    go_enter Try.func19, Try.ntmps19
    go_wp2
    go_ret
    exact ⟨_, rfl, Own.lit _ _ _ _ 3 rfl (Nat.le_refl _) (by omega), (Below.refl _ _).alloc (Nat.le_refl _) _⟩
  by_cases h4 : 55296 ≤ r ∧ r ≤ 57343
  · have hf : fixR r = 65533 := by unfold fixR; rw [if_pos (by omega)]
    rw [hf]
    obtain ⟨h41, h42⟩ := h4
    clear hf b63
    go_enter Try.func19, Try.ntmps19
    go_wp2
    go_ret
    exact ⟨_, rfl, Own.lit _ _ _ _ 3 rfl (Nat.le_refl _) (by omega), (Below.refl _ _).alloc (Nat.le_refl _) _⟩
  have hf : fixR r = r := by unfold fixR; rw [if_neg (by omega)]
  rw [hf]
  clear hf
  by_cases h5 : r < 128
  · have he : (encR r).map u8V = [.int .u8 r] := by unfold encR; rw [if_pos h5]; simp [u8V_mk (show 0 ≤ r by omega) (show r ≤ 255 by omega)]
    have HE := Lib.hid he
    clear he b63
    go_enter Try.func19, Try.ntmps19
    go_wp2
    go_ret
    exact ⟨_, rfl, lit_end 1 (by rw [HE.out]) rfl (by decide), (Below.refl _ _).alloc (Nat.le_refl _) _⟩
  by_cases h6 : r < 2048
  · have he : (encR r).map u8V = [.int .u8 (192 + r / 64), .int .u8 (128 + r % 64)] := by unfold encR; rw [if_neg h5, if_pos h6]; simp [u8V_mk (show 0 ≤ 192 + r / 64 by omega) (by omega), u8V_mk (show 0 ≤ 128 + r % 64 by omega) (by omega)]
    have HE := Lib.hid he
    have p1 : bits .and .i32 (r) 63 = r % 64 := b63 _ (by omega) (by omega)
    have q2 : bits .or .i32 128 (r % 64) = 128 + r % 64 := i32_or 6 _ _ (by decide) (by decide) (by decide) (by omega) (by omega) (by omega)
    have q3 : bits .or .i32 192 (r / 64) = 192 + r / 64 := i32_or 5 _ _ (by decide) (by decide) (by decide) (by omega) (by omega) (by omega)
    clear he b63
    go_enter Try.func19, Try.ntmps19
    go_wp2
    go_ret
    exact ⟨_, rfl, lit_end 2 (by rw [HE.out]) rfl (by decide), (Below.refl _ _).alloc (Nat.le_refl _) _⟩
  by_cases h7 : r < 65536
  · have he : (encR r).map u8V = [.int .u8 (224 + r / 4096), .int .u8 (128 + r / 64 % 64), .int .u8 (128 + r % 64)] := by
      unfold encR; rw [if_neg h5, if_neg h6, if_pos h7]; simp [u8V_mk (show 0 ≤ 224 + r / 4096 by omega) (by omega), u8V_mk (show 0 ≤ 128 + r / 64 % 64 by omega) (by omega), u8V_mk (show 0 ≤ 128 + r % 64 by omega) (by omega)]
    have HE := Lib.hid he
    have p1 : bits .and .i32 (r) 63 = r % 64 := b63 _ (by omega) (by omega)
    have q2 : bits .or .i32 128 (r % 64) = 128 + r % 64 := i32_or 6 _ _ (by decide) (by decide) (by decide) (by omega) (by omega) (by omega)
    have p3 : bits .and .i32 (r / 64) 63 = r / 64 % 64 := b63 _ (by omega) (by omega)
    have q4 : bits .or .i32 128 (r / 64 % 64) = 128 + r / 64 % 64 := i32_or 6 _ _ (by decide) (by decide) (by decide) (by omega) (by omega) (by omega)
    have q5 : bits .or .i32 224 (r / 4096) = 224 + r / 4096 := i32_or 4 _ _ (by decide) (by decide) (by decide) (by omega) (by omega) (by omega)
    clear he b63
    by_cases h8 : 55296 ≤ r
    · have h9 : 57343 < r := by omega
      go_enter Try.func19, Try.ntmps19
      go_wp2
      go_ret
      exact ⟨_, rfl, lit_end 3 (by rw [HE.out]) rfl (by decide), (Below.refl _ _).alloc (Nat.le_refl _) _⟩
    · have h9 : r < 55296 := by omega
      go_enter Try.func19, Try.ntmps19
      go_wp2
      go_ret
      exact ⟨_, rfl, lit_end 3 (by rw [HE.out]) rfl (by decide), (Below.refl _ _).alloc (Nat.le_refl _) _⟩
  · have he : (encR r).map u8V = [.int .u8 (240 + r / 262144), .int .u8 (128 + r / 4096 % 64), .int .u8 (128 + r / 64 % 64), .int .u8 (128 + r % 64)] := by
      unfold encR; rw [if_neg h5, if_neg h6, if_neg h7]; simp [u8V_mk (show 0 ≤ 240 + r / 262144 by omega) (by omega), u8V_mk (show 0 ≤ 128 + r / 4096 % 64 by omega) (by omega), u8V_mk (show 0 ≤ 128 + r / 64 % 64 by omega) (by omega), u8V_mk (show 0 ≤ 128 + r % 64 by omega) (by omega)]
    have HE := Lib.hid he
    have p1 : bits .and .i32 (r) 63 = r % 64 := b63 _ (by omega) (by omega)
    have q2 : bits .or .i32 128 (r % 64) = 128 + r % 64 := i32_or 6 _ _ (by decide) (by decide) (by decide) (by omega) (by omega) (by omega)
    have p3 : bits .and .i32 (r / 64) 63 = r / 64 % 64 := b63 _ (by omega) (by omega)
    have q4 : bits .or .i32 128 (r / 64 % 64) = 128 + r / 64 % 64 := i32_or 6 _ _ (by decide) (by decide) (by decide) (by omega) (by omega) (by omega)
    have p5 : bits .and .i32 (r / 4096) 63 = r / 4096 % 64 := b63 _ (by omega) (by omega)
    have q6 : bits .or .i32 128 (r / 4096 % 64) = 128 + r / 4096 % 64 := i32_or 6 _ _ (by decide) (by decide) (by decide) (by omega) (by omega) (by omega)
    have q7 : bits .or .i32 240 (r / 262144) = 240 + r / 262144 := i32_or 3 _ _ (by decide) (by decide) (by decide) (by omega) (by omega) (by omega)
    clear he b63
    have h9 : 57343 < r := by omega
    go_enter Try.func19, Try.ntmps19
    go_wp2
    go_ret
    exact ⟨_, rfl, lit_end 4 (by rw [HE.out]) rfl (by decide), (Below.refl _ _).alloc (Nat.le_refl _) _⟩

end Go.Proofs.Ytkdmmmheciffgaa
