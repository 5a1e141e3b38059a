/- The contract of ref8.Parts: a text in parts, by a sign. -/
import Derived.Test.YtedfgikikjggaaaDoorMa1
import Derived.Test.YtedfgikikjggaaaDoorStrs
import Derived.IntWalk
set_option linter.unusedVariables false
set_option linter.unusedSimpArgs false
namespace Go.Proofs.YtedfgikikjggaaaDoor
open Go.RowKit

/-- Where Parts stands: what is told, from where on, up to where. -/
def PartsAt (c : Int) (l : List UInt8) (i at' : Nat) (done : List (List UInt8)) : Prop :=
  (i ≤ l.length → at' ≤ i ∧ splitB c l = done ++ splitB c (l.drop at') ∧ ∀ q, at' ≤ q → q < i → byt l q ≠ c) ∧ (i = l.length + 1 → splitB c l = done)
theorem partsAt_start (c : Int) (l : List UInt8) : PartsAt c l 0 0 [] := ⟨fun _ => ⟨Nat.le_refl _, rfl, fun q h1 h2 => by omega⟩, fun h => by omega⟩
theorem partsAt_hit {c : Int} {l : List UInt8} {i at' : Nat} {done : List (List UInt8)} (h : PartsAt c l i at' done) (hi : i < l.length) (hc : byt l i = c) :
    PartsAt c l (i + 1) (i + 1) (done ++ [(l.take i).drop at']) := by
  obtain ⟨h1, h2, h3⟩ := h.1 (by omega)
  refine ⟨fun _ => ⟨Nat.le_refl _, ?_, fun q h4 h5 => by omega⟩, fun h => by omega⟩
  have hs := splitB_hit c (i - at') (l.drop at') (by simp; omega) (fun q hq => by rw [byt_drop]; exact h3 _ (by omega) (by omega)) (by rw [byt_drop, show at' + (i - at') = i by omega]; exact hc)
  rw [h2, hs, List.drop_take, List.drop_drop, show at' + (i - at' + 1) = i + 1 by omega]
  simp
theorem partsAt_miss {c : Int} {l : List UInt8} {i at' : Nat} {done : List (List UInt8)} (h : PartsAt c l i at' done) (hi : i < l.length) (hc : byt l i ≠ c) :
    PartsAt c l (i + 1) at' done := by
  obtain ⟨h1, h2, h3⟩ := h.1 (by omega)
  refine ⟨fun _ => ⟨by omega, h2, fun q h4 h5 => ?_⟩, fun h => by omega⟩
  rcases Nat.lt_or_ge q i with h | h
  · exact h3 q h4 h
  · obtain rfl : q = i := by omega
    exact hc
theorem partsAt_end {c : Int} {l : List UInt8} {at' : Nat} {done : List (List UInt8)} (h : PartsAt c l l.length at' done) :
    PartsAt c l (l.length + 1) (l.length + 1) (done ++ [l.drop at']) := by
  obtain ⟨h1, h2, h3⟩ := h.1 (Nat.le_refl _)
  refine ⟨fun h => by omega, fun _ => ?_⟩
  have hs := splitB_end c (l.drop at') (fun q hq => by rw [byt_drop]; simp at hq; exact h3 _ (by omega) (by omega))
  rw [h2, hs]
theorem partsAt_done_len {c : Int} {l : List UInt8} {i at' : Nat} {done : List (List UInt8)} (h : PartsAt c l i at' done) (hi : i ≤ l.length) : done.length ≤ l.length + 1 := by
  obtain ⟨h1, h2, h3⟩ := h.1 hi
  have := (splitB_len c l).1
  rw [h2] at this
  simp at this; omega
set_option maxHeartbeats 2000000 in
theorem Parts_any (l : List UInt8) (c : Int) (w : World) (hm : l.length ≤ 1000000) (h0 : 0 ≤ c) (h1 : c ≤ 255) :
    Calls Tryd.prog 35 #[.string ⟨l.toArray⟩, .int .u8 c] w fun e w' => ∃ v', e = .returned v' ∧ Own w' w.heap.size 9 v' ((splitB c l).map strV) ∧ Below w.heap.size w w' := by
  go_enter Tryd.func35, Tryd.ntmps35
  go_wp2_with fail
  go_loopw [5, 6, 7] (fun tv ta ti wr => ∃ (i at' : Nat) (done : List (List UInt8)), i ≤ l.length + 1 ∧ ti = .int .i64 i ∧ ta = .int .i64 at' ∧ Hid (PartsAt c l i at' done) ∧ Own wr w.heap.size 9 tv (done.map strV) ∧ Below w.heap.size w wr) (fun _ _ ti _ => l.length + 1 - (intOf ti).toNat)
  case atStart => exact ⟨0, 0, [], by omega, rfl, rfl, Lib.hid (partsAt_start c l), by simpa using Own.nil _ _ _, Below.refl _ _⟩
  case round =>
    obtain ⟨i, at', done, hi, rfl, rfl, HP, hown, hbel⟩ := hrel
    have hsz := hbel.size
    by_cases hle : i ≤ l.length
    · have hdl := partsAt_done_len HP.out hle
      have hat := (HP.out.1 hle).1
      have hc1 : ∀ x, ∀ u ∈ (#[strV x] : Array Value).toList, u.oneCell' = true := by intro x u hu; simp at hu; subst hu; rfl
      have hc2 : ((done.map strV).length + 1) * 16 ≤ 140737488355328 := by simp; omega
      have hc3 : (done.map strV).length + 1 ≤ 9223372036854775807 := by simp; omega
      have hleI : (i : Int) ≤ (l.length : Int) := by omega
      by_cases hlt : i < l.length
      · have hltI : (i : Int) < (l.length : Int) := by omega
        have hne : ((i : Int) == (l.length : Int)) = false := by rw [beq_eq_false_iff_ne]; omega
        by_cases hc : byt l i = c
        · have hcb : (byt l i == c) = true := by rw [beq_iff_eq]; exact hc
          have HN := Lib.hid (partsAt_hit HP.out hlt hc)
          have HC1 := hc1 ((l.take i).drop at')
          clear hc hc1 hi
          go_wp2_with (at_builtin; refine wpList_appL _ rfl _ _ 67 rfl w.heap.size 9 (.string .empty) 16 ok16 _ _ rfl hown #[strV ((l.take i).drop at')] 1 1 rfl rfl HC1 hc2 hc3 hsz ?_)
          intro v' w2 hown2 hgr
          have hb2 : Below w.heap.size w w2 := hbel.grown hgr hsz (fun k hk => (hown.row k hk).1)
          go_wp2_with fail
          exact ⟨⟨i + 1, i + 1, _, by omega, by go_num, by go_num, HN, by simpa using hown2, hb2⟩, by simp [intOf]; omega⟩
        · have hcb : (byt l i == c) = false := by rw [beq_eq_false_iff_ne]; exact hc
          have HN := Lib.hid (partsAt_miss HP.out hlt hc)
          clear hc hc1 hi
          go_wp2_with fail
          exact ⟨⟨i + 1, at', _, by omega, by go_num, rfl, HN, hown, hbel⟩, by simp [intOf]; omega⟩
      · obtain rfl : i = l.length := by omega
        have hne : ((l.length : Int) == (l.length : Int)) = true := by simp
        have HN := Lib.hid (partsAt_end HP.out)
        have HC1 := hc1 (l.drop at')
        clear hc1 hi
        go_wp2_with (at_builtin; refine wpList_appL _ rfl _ _ 67 rfl w.heap.size 9 (.string .empty) 16 ok16 _ _ rfl hown #[strV (l.drop at')] 1 1 rfl rfl HC1 hc2 hc3 hsz ?_)
        intro v' w2 hown2 hgr
        have hb2 : Below w.heap.size w w2 := hbel.grown hgr hsz (fun k hk => (hown.row k hk).1)
        go_wp2_with fail
        exact ⟨⟨l.length + 1, l.length + 1, _, by omega, by go_num, by go_num, HN, by simpa using hown2, hb2⟩, by first | (simp [intOf]; done) | (simp [intOf]; omega)⟩
    · obtain rfl : i = l.length + 1 := by omega
      have HE := Lib.hid (HP.out.2 rfl)
      clear HP
      go_wp2_with fail
      go_ret
      exact ⟨_, rfl, by rw [HE.out]; exact hown, hbel⟩
end Go.Proofs.YtedfgikikjggaaaDoor
