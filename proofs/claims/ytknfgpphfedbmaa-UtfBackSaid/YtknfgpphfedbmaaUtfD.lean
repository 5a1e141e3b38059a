/- Runes, Scalar, Low, awake. -/
import Derived.Test.YtknfgpphfedbmaaUtfC
import Derived.IntWalk
set_option linter.unusedVariables false
set_option linter.unusedSimpArgs false
namespace Go.Proofs.Ytknfgpphfedbmaa
open Go.RowKit

set_option maxHeartbeats 1000000 in
theorem runes_eq (va vb : Value) (l : List Int) (w : World) (ha : Is32 w va l) (hb : Is32 w vb l) (hm : l.length ≤ 100000000) :
    Calls Try.prog 14 #[va, vb] w fun e w' => e = .returned (.bool true) ∧ ∃ n, w' = w.drewN n := by
  obtain ⟨a, cap, rfl, hc1, hc2, -, hs⟩ := ha
  obtain ⟨a', cap', rfl, hc1', hc2', -, hs'⟩ := hb
  have HC : Hid (0 < l.length → ∃ b off, a = some ⟨b, off, none⟩ ∧ Cells w b off l.length (i32At l)) := Lib.hid hs
  have HC' : Hid (0 < l.length → ∃ b off, a' = some ⟨b, off, none⟩ ∧ Cells w b off l.length (i32At l)) := Lib.hid hs'
  clear hs hs'
  go_enter Try.func14, Try.ntmps14
  go_wp2
  go_loopw [5] (fun ti wr => ∃ k : Nat, k ≤ l.length ∧ ti = .int .i64 k ∧ ∃ n, wr = w.drewN n) (fun ti _ => l.length - (intOf ti).toNat)
  case atStart => exact ⟨0, by omega, rfl, 0, rfl⟩
  case round =>
    obtain ⟨k, hk, rfl, n, rfl⟩ := hrel
    by_cases hlt : k < l.length
    · obtain ⟨b, off, rfl, hc⟩ := HC.out (by omega)
      obtain ⟨b', off', rfl, hc'⟩ := HC'.out (by omega)
      have h1 : w.cell? ⟨b, off + k, none⟩ = some (.int .i32 (l.getD k 0)) := hc.at k hlt
      have h2 : w.cell? ⟨b', off' + k, none⟩ = some (.int .i32 (l.getD k 0)) := hc'.at k hlt
      clear hc hc' HC HC'
      generalize l.getD k 0 = r at *
      go_wp2
      go_quiet (fail)
      go_wp2
      go_roundw
      case rel => exact ⟨k + 1, by omega, by go_num, _, rfl⟩
      case measure => simp [intOf]; omega
    · obtain rfl : k = l.length := by omega
      go_wp2
      go_ret
      exact ⟨rfl, _, rfl⟩

def lowN (x n : Int) : Int := (x % 18446744073709551616) % n
theorem lowN_bd (x n : Int) (hn : 0 < n) : 0 ≤ lowN x n ∧ lowN x n < n := ⟨Int.emod_nonneg _ (by omega), Int.emod_lt_of_pos _ hn⟩
set_option maxHeartbeats 400000 in
theorem low_any (x n : Int) (w : World) (h0 : -9223372036854775808 ≤ x) (h1 : x ≤ 9223372036854775807) (h2 : 1 ≤ n) (h3 : n ≤ 4611686018427387904) :
    Calls Try.prog 20 #[.int .i64 x, .int .i64 n] w fun e w' => e = .returned (.int .i64 (lowN x n)) ∧ w = w' := by
  go_enter Try.func20, Try.ntmps20
  go_wp2
  go_ret
  refine ⟨?_, by trivial⟩
  have e1 : IntKind.u64.wrap x = x % 18446744073709551616 := by simp [IntKind.wrap, IntKind.bits, IntKind.signed]
  have h5 : 0 ≤ x % 18446744073709551616 := Int.emod_nonneg _ (by decide)
  have h6 := lowN_bd x n (by omega)
  have e2 : wrap64 ((IntKind.u64.wrap x).tmod n) = lowN x n := by
    rw [e1, IntWalk.rem_in _ _ h5]
    exact IntWalk.wrap64_in _ (by unfold lowN at h6; omega)
  show Ending.returned (Value.int .i64 (wrap64 ((IntKind.u64.wrap x).tmod n))) = _
  rw [e2]

theorem heap_alloc_at (w : World) (o : Obj) (n : Nat) : (w.alloc o).heap[n]? = if n = w.heap.size then some o else w.heap[n]? := by
  show (w.heap.push o)[n]? = _
  rw [Array.getElem?_push]
theorem lit8 (W : World) (b : Nat) (l : List UInt8) (n : Nat) (e : TypeId) (m : Nat × Nat) (hb : W.heap[b]? = some (.cells (l.map u8V).toArray e m)) (hn : l.length = n) (h4 : n ≤ 1000) :
    Is8 W (.slice (some ⟨b, 0, none⟩) n n) l := by
  subst hn
  refine ⟨_, _, rfl, Nat.le_refl _, by unfold maxLen; omega, (fun h => by cases h), fun _ => ⟨b, 0, rfl, fun i hi => ?_⟩⟩
  rw [Nat.zero_add, cell_of_row W b i _ e m hb]
  simp [u8At, byt, u8V, List.getD, hi]
theorem lit32 (W : World) (b : Nat) (l : List Int) (n : Nat) (e : TypeId) (hb : W.heap[b]? = some (.cells (l.map (Value.int .i32)).toArray e (0, 0))) (hn : l.length = n) (h4 : n ≤ 1000) :
    Is32 W (.slice (some ⟨b, 0, none⟩) n n) l := by
  subst hn
  refine ⟨_, _, rfl, Nat.le_refl _, by unfold maxLen; omega, (fun h => by cases h), fun _ => ⟨b, 0, rfl, fun i hi => ?_⟩⟩
  rw [Nat.zero_add, cell_of_row W b i _ e (0, 0) hb]
  simp [i32At, List.getD, hi]

set_option maxHeartbeats 1000000 in
theorem awake_any (w : World) :
    Calls Try.prog 9 #[] w fun e w' => e = .returned (.bool true) ∧ Below w.heap.size w w' := by
  have n1 : nextL [226, 130, 172] = (8364, 3, true) := by decide
  have n2 : nextL [226, 130] = (65533, 2, false) := by decide
  have n3 : validL [97] = true := by decide
  have n4 : decL [97, 98] = [97, 98] := by decide
  have n5 : encL [65] = [65] := by decide
  have N1 := Lib.hid n1
  have N2 := Lib.hid n2
  have N3 := Lib.hid n3
  have N4 := Lib.hid n4
  have N5 := Lib.hid n5
  clear n1 n2 n3 n4 n5
  go_enter Try.func9, Try.ntmps9
  go_wp2_with fail
  refine (next_any _ [226, 130, 172] _ (lit8 _ _ _ 3 5 _ (by rw [heap_alloc_at, if_pos (by simp)]; rfl) rfl (by decide)) (by decide)).mono ?_
  rintro e w1 ⟨rfl, k1, rfl⟩
  rw [N1.out]
  go_wp2_with fail
  refine (next_any _ [226, 130] _ (lit8 _ _ _ 2 5 _ (by rw [heap_alloc_at, if_pos (by simp)]; rfl) rfl (by decide)) (by decide)).mono ?_
  rintro e w1 ⟨rfl, k2, rfl⟩
  rw [N2.out]
  go_wp2_with (refine wpList_constBytes _ (by rfl) 22 _ rfl 5 Try.underlying22 Try.underlying5 _ _ _ _ rfl (by simp) ?_)
  refine (valid_any _ [97] _ (lit8 _ _ _ 1 5 _ (by rw [heap_alloc_at, if_pos (by simp)]; rfl) rfl (by decide)) (by decide)).mono ?_
  rintro e w1 ⟨rfl, k3, rfl⟩
  rw [N3.out]
  go_wp2_with (refine wpList_constBytes _ (by rfl) 22 _ rfl 5 Try.underlying22 Try.underlying5 _ _ _ _ rfl (by simp) ?_)
  refine (decode_any _ [97, 98] _ (lit8 _ _ _ 2 5 _ (by rw [heap_alloc_at, if_pos (by simp)]; rfl) rfl (by decide)) (by decide)).mono ?_
  rintro e w1 ⟨v1, rfl, hown1, hb1⟩
  rw [N4.out] at hown1
  obtain ⟨a1, c1, rfl, -⟩ := hown1.is32
  have hz := hb1.size
  have HB := Lib.hid hb1
  clear hown1 hb1
  go_wp2_with fail
  refine (encode_any _ [65] _ (lit32 _ _ _ 1 21 (by rw [heap_alloc_at, if_pos (by simp)]; rfl) rfl (by decide)) (by decide) (by intro i hi; match i, hi with | 0, _ => exact ⟨by decide, by decide⟩)).mono ?_
  rintro e w2 ⟨v2, rfl, hown2, hb2⟩
  rw [N5.out] at hown2
  have hv2 := Lib.hid hown2.is8
  have HB2 := Lib.hid hb2
  clear hown2 hb2
  go_wp2_with (refine wpList_toStr _ (by rfl) _ _ _ rfl 5 Try.underlying22 Try.underlying5 Try.underlying9 _ rfl [65] hv2.out ?_)
  go_ret
  refine ⟨rfl, ?_⟩
  repeat (first | refine ext_trans ?_ HB2.out | refine ext_trans ?_ HB.out | refine ext_trans ?_ (ext_alloc _ _) | refine ext_trans ?_ (ext_drew _ _) | exact Below.refl _ _)
end Go.Proofs.Ytknfgpphfedbmaa
