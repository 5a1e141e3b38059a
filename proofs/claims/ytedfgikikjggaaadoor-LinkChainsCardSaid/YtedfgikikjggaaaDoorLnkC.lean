/- sort.Search over leap's closure; there; the closure: contracts. -/
import Derived.Test.YtedfgikikjggaaaDoorLnkB
import Derived.Test.YtedfgikikjggaaaDoorTreeB
import Derived.Test.YtedfgikikjggaaaDoorBox
import Derived.Deep.RegionHeld3
set_option linter.unusedVariables false
set_option linter.unusedSimpArgs false
namespace Go.Proofs.YtedfgikikjggaaaDoor
open Go.RowKit

set_option maxRecDepth 100000 in
set_option maxHeartbeats 4000000 in
theorem search_any (n : Nat) (a b c : Value) (g : Nat → Bool) (w : World) (hn : n ≤ 10000000)
    (hc : ∀ i, i < n → ∀ W, Below w.heap.size w W → Calls Tryd.prog 49 #[.int .i64 (i : Int), a, b, c] W fun e w' => e = .returned (.bool (g i)) ∧ Below W.heap.size W w') :
    Calls Tryd.prog 48 #[.int .i64 (n : Int), .func (.func 49) #[] #[a, b, c]] w fun e w' => ∃ r : Nat, r ≤ n ∧ e = .returned (.int .i64 (r : Int)) ∧ (0 < r → g (r - 1) = false) ∧ Below w.heap.size w w' := by
  have HC := Lib.hid hc
  clear hc
  go_enter Tryd.func48, Tryd.ntmps48
  go_wp2_with fail
  go_loopw [5, 6] (fun tl th wr => ∃ lo hi : Nat, lo ≤ hi ∧ hi ≤ n ∧ tl = .int .i64 lo ∧ th = .int .i64 hi ∧ Hid (0 < lo → g (lo - 1) = false) ∧ Hid (Below w.heap.size w wr)) (fun tl th _ => (intOf th).toNat - (intOf tl).toNat)
  case atStart => exact ⟨0, n, Nat.zero_le _, Nat.le_refl _, rfl, rfl, Lib.hid (fun h => absurd h (by omega)), Lib.hid (Below.refl _ _)⟩
  case round =>
    obtain ⟨lo, hi, h1, h2, rfl, rfl, HG, HB⟩ := hrel
    by_cases hlt : lo < hi
    · have hltI : (lo : Int) < (hi : Int) := by omega
      obtain ⟨mid, hmid⟩ : ∃ mid, (lo + hi) / 2 = mid := ⟨_, rfl⟩
      have hm2 : lo ≤ mid := by omega
      have hm3 : mid < hi := by omega
      have gs : IntKind.i64.wrap ((lo : Int) + (hi : Int)) = (lo : Int) + (hi : Int) := IntWalk.i64_in _ (by omega)
      have gu : IntKind.u64.wrap ((lo : Int) + (hi : Int)) = (lo : Int) + (hi : Int) := IntWalk.u64_in _ (by omega)
      have gd : ((lo : Int) + (hi : Int)) / 2 = (mid : Int) := by omega
      have HCM := Lib.hid (HC.out mid (by omega))
      cases hg : g mid with
      | true =>
        rw [hg] at HCM
        clear hg
        go_wp2_with fail
        refine (HCM.out wr HB.out).mono ?_
        rintro e w2 ⟨rfl, hb2⟩
        have HB2 := Lib.hid (ext_trans HB.out hb2)
        clear hb2
        go_wp2_with fail
        exact ⟨⟨lo, mid, hm2, by omega, rfl, rfl, HG, HB2⟩, by simp [intOf]; omega⟩
      | false =>
        have HG2 : Hid (0 < mid + 1 → g (mid + 1 - 1) = false) := Lib.hid (fun _ => hg)
        rw [hg] at HCM
        clear hg
        go_wp2_with fail
        refine (HCM.out wr HB.out).mono ?_
        rintro e w2 ⟨rfl, hb2⟩
        have HB2 := Lib.hid (ext_trans HB.out hb2)
        clear hb2
        go_wp2_with fail
        exact ⟨⟨mid + 1, hi, by omega, h2, by go_num, rfl, HG2, HB2⟩, by simp [intOf]; omega⟩
    · obtain rfl : lo = hi := by omega
      go_wp2_with fail
      go_ret
      exact ⟨lo, h2, rfl, HG.out, HB.out⟩
theorem cellKeep {w w' : World} (hb : Below w.heap.size w w') {a : Addr} {v : Value} (h : w.cell? a = some v) : w'.cell? a = some v := by
  rw [hb.cell (World.block_lt_of_cell? w _ h)]; exact h
theorem there_any (t : Nat) (all : List Nd) (c : Int) (p : Bts) (w : World) (h : TreeIs w t all c) (hp : p.length ≤ 1000000) :
    Calls Tryd.prog 50 #[.pointer (some ⟨t, 0, none⟩), .string ⟨p.toArray⟩] w fun e w' => e = .returned (.bool (lookN all p).isSome) ∧ Below w.heap.size w w' := by
  have HL := Lib.hid (Look_any t all c p w h hp)
  clear h
  generalize (lookN all p).getD nd0 = R at *
  generalize (lookN all p).isSome = ok at *
  obtain ⟨q, k, d⟩ := R
  go_enter Tryd.func50, Tryd.ntmps50
  go_wp2_with fail
  refine HL.out.mono ?_
  rintro e w1 ⟨rfl, hb⟩
  have HB := Lib.hid hb
  clear hb
  simp only [ndV]
  go_wp2_with fail
  go_ret
  exact ⟨rfl, ext_trans HB.out (ext_alloc _ _)⟩
set_option maxRecDepth 100000 in
set_option maxHeartbeats 4000000 in
theorem clo_leap (bt bp be t : Nat) (all : List Nd) (c : Int) (p : Bts) (es : List Nat) (v : Value) (i : Nat) (w : World) (h : TreeIs w t all c) (hp : p.length ≤ 1000000) (hi : i < es.length) (he : es.getD i 0 ≤ p.length)
    (ht : w.cell? ⟨bt, 0, none⟩ = some (.pointer (some ⟨t, 0, none⟩))) (hs : w.cell? ⟨bp, 0, none⟩ = some (.string ⟨p.toArray⟩)) (hv : w.cell? ⟨be, 0, none⟩ = some v) (hI : IsI w v es) :
    Calls Tryd.prog 49 #[.int .i64 (i : Int), .pointer (some ⟨bt, 0, none⟩), .pointer (some ⟨bp, 0, none⟩), .pointer (some ⟨be, 0, none⟩)] w fun e w' => e = .returned (.bool (!(lookN all (p.take (es.getD i 0))).isSome)) ∧ Below w.heap.size w w' := by
  have HT := Lib.hid (there_any t all c (p.take (es.getD i 0)) (w.drewN 1) (h.below (ext_drew w 1)) (by rw [List.length_take]; omega))
  obtain ⟨a, cap, rfl, h1, h2, -, h3⟩ := hI
  obtain ⟨g, off, rfl, hc⟩ := h3 (by omega)
  have hci := hc i hi
  unfold iAt at hci
  unfold maxLen at h2
  have hiI : (i : Int) < (es.length : Int) := by omega
  have HE : Hid ((lookN all (p.take (es.getD i 0))).isSome = (lookN all (p.take (es.getD i 0))).isSome) := Lib.hid rfl
  generalize es.getD i 0 = e at *
  have heI : (e : Int) ≤ (p.length : Int) := by omega
  generalize (lookN all (p.take e)).isSome = ok at *
  clear hc h
  go_enter Tryd.func49, Tryd.ntmps49
  go_wp2_with fail
  go_region_held3 (fun w' => w'.cell? ⟨bt, 0, none⟩ = some (.pointer (some ⟨t, 0, none⟩)) ∧ w'.cell? ⟨bp, 0, none⟩ = some (.string ⟨p.toArray⟩) ∧ w'.cell? ⟨be, 0, none⟩ = some (.slice (some ⟨g, off, none⟩) es.length cap) ∧ w'.cell? ⟨g, off + i, none⟩ = some (.int .i64 (e : Int))) (first | trivial | (simp [go_sem]; done) | (refine ⟨?_, ?_, ?_, ?_⟩ <;> assumption))
    (first
    | (go_at_call 50; refine HT.out.mono ?_; rintro e w6 ⟨rfl, hb6⟩; have HB6 := Lib.hid (ext_trans (ext_drew w 1) hb6); have k1 : w6.cell? ⟨bt, 0, none⟩ = some (.pointer (some ⟨t, 0, none⟩)) := cellKeep HB6.out ht; have k2 : w6.cell? ⟨bp, 0, none⟩ = some (.string ⟨p.toArray⟩) := cellKeep HB6.out hs; have k3 : w6.cell? ⟨be, 0, none⟩ = some (.slice (some ⟨g, off, none⟩) es.length cap) := cellKeep HB6.out hv; have k4 : w6.cell? ⟨g, off + i, none⟩ = some (.int .i64 (e : Int)) := cellKeep HB6.out hci; clear hb6))
  go_wp2_with fail
  go_ret
  exact ⟨rfl, HB6.out⟩
end Go.Proofs.YtedfgikikjggaaaDoor
