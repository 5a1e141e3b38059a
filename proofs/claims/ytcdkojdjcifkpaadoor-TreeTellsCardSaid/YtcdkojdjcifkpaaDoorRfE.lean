/- The contract of (*ref15.Tree).lay. -/
import Derived.Test.YtcdkojdjcifkpaaDoorRfE0
import Derived.StillTailTactics
set_option linter.unusedVariables false
set_option linter.unusedSimpArgs false
namespace Go.Proofs.YtcdkojdjcifkpaaDoor
open Go.RowKit

def Laid1 (ns : List Nd) (n : Nd) (ns' : List Nd) : Prop := Rising ns' ∧ ns'.length ≤ ns.length + 1 ∧ ((lookN ns n.p).isNone = true → ∀ m, m ∈ ns' ↔ m ∈ ns ∨ m = n) ∧ ((lookN ns n.p).isNone = false → ns' = ns)
theorem laid1_hit {ns : List Nd} {n : Nd} (hr : Rising ns) (h : (lookN ns n.p).isNone = false) : Laid1 ns n ns := ⟨hr, by omega, fun h2 => (by rw [h] at h2; cases h2), fun _ => rfl⟩
theorem laid1_gap {ns : List Nd} {n : Nd} {k : Nat} (hr : Rising ns) (hk : k ≤ ns.length) (h1 : ∀ j, j < k → j < ns.length → ltS (ndAt ns j).p n.p = true) (h2 : ∀ j, k ≤ j → j < ns.length → ltS n.p (ndAt ns j).p = true) : Laid1 ns n (gapN ns k n) :=
  ⟨gap_rising hr h1 h2, by rw [gap_len _ hk]; omega, fun _ m => gap_mem ns k n m, fun h => (by rw [gap_miss h1 h2] at h; cases h)⟩
theorem ret_boolE {a b : Bool} (h : a = b) : Ending.returned (.bool a) = .returned (.bool b) := by rw [h]
set_option maxRecDepth 100000 in
set_option maxHeartbeats 8000000 in
theorem rlay_any (t : Nat) (v x : Value) (ns : List Nd) (n : Nd) (B : Nat) (w : World) (hb : Box w t 35 [v, x]) (ho : OwnN w B v ns) (hBt : B ≤ t) (hr : Rising ns) (hl : ns.length ≤ 1000000) (hp : n.p.length ≤ 1000000) (hn : n.p ≠ []) :
    Calls Tryd.prog 28 #[.pointer (some ⟨t, 0, none⟩), .agg #[.string ⟨n.p.toArray⟩, .int .i64 n.k, .string ⟨n.d.toArray⟩]] w fun e w' => e = .returned (.bool (lookN ns n.p).isNone) ∧ ∃ v' ns', Box w' t 35 [v', x] ∧ OwnN w' B v' ns' ∧ Laid1 ns n ns' ∧ Below B w w' := by
  have hlt := hb.lt
  have hBw : B ≤ w.heap.size := by omega
  have HNE := Lib.hid (ho.ne15 hb)
  have HRW := Lib.hid ho.row
  obtain ⟨a, cap, rfl⟩ := ho.slice
  have HS := Lib.hid ho.isNds
  have HR := Lib.hid hr
  have HNP := Lib.hid hn
  have HWB : Hid (∀ m, Below w.heap.size w ((w.alloc (.cells (ndC n).toArray 37)).drewN m)) := Lib.hid (fun m => below_dr (ext_alloc _ _) m)
  have HO : Hid (∀ m, OwnN ((w.alloc (.cells (ndC n).toArray 37)).drewN m) B (.slice a ns.length cap) ns) := Lib.hid (fun m => ho.below (HWB.out m))
  have HT : Hid (∀ m, Box ((w.alloc (.cells (ndC n).toArray 37)).drewN m) t 35 [.slice a ns.length cap, x]) := Lib.hid (fun m => (hb.alloc _).drew m)
  have HN : Hid (∀ m, Box ((w.alloc (.cells (ndC n).toArray 37)).drewN m) w.heap.size 37 (ndC n)) := Lib.hid (fun m => (Box.new w 37 (ndC n)).drew m)
  have k1 : ∀ o, (w.alloc o).cell? ⟨t, 0, none⟩ = some (.slice a ns.length cap) := fun o => by rw [(hb.alloc o).cell]; rfl
  have HSZ : Hid (∀ m, B ≤ ((w.alloc (.cells (ndC n).toArray 37)).drewN m).heap.size) := Lib.hid (fun m => by have := (HWB.out m).size; omega)
  clear hb ho hr hn
  go_enter Tryd.func28, Tryd.ntmps28
  go_wp2_with fail
  clear k1
  go_loopw [5] (fun t5 wr => ∃ i : Nat, i ≤ ns.length ∧ t5 = .int .i64 i ∧ Hid (∀ j, i ≤ j → j < ns.length → ltS n.p (ndAt ns j).p = true) ∧ ∃ m, wr = (w.alloc (.cells (ndC n).toArray 37)).drewN m) (fun t5 _ => (intOf t5).toNat)
  case atStart => exact ⟨ns.length, Nat.le_refl _, rfl, Lib.hid (fun j h1 h2 => by omega), 0, rfl⟩
  case round =>
    obtain ⟨i, hi, rfl, HH, m, rfl⟩ := hrel
    have k1 : ∀ m, ((w.alloc (.cells (ndC n).toArray 37)).drewN m).cell? ⟨t, 0, none⟩ = some (.slice a ns.length cap) := fun m => by rw [(HT.out m).cell]; rfl
    have n0 : ∀ m, ((w.alloc (.cells (ndC n).toArray 37)).drewN m).cell? ⟨w.heap.size, 0, none⟩ = some (.string ⟨n.p.toArray⟩) := fun m => by rw [(HN.out m).cell]; rfl
    cases i with
    | zero =>
      have hg1 : decide (0 < 0) = false := rfl
      have HLO : Hid (∀ j, j < 0 → j < ns.length → ltS (ndAt ns j).p n.p = true) := Lib.hid (fun j h _ => by omega)
      go_wp2_with (first | (at_builtin; refine wpList_appN _ rfl _ _ rfl B _ ns rfl (HO.out _) nd0 _ rfl (by simp) (by omega) (HSZ.out _) ?_) | go_quiet (fail))
      intro v' w2 hown2 hgr2
      obtain ⟨g, vc, rfl, hgB⟩ := hown2.head (by simp)
      rw [show (ns ++ [nd0]).length = ns.length + 1 by simp] at hown2
      have HT2 := Lib.hid ((HT.out _).grown hgr2 HNE.out)
      have HN2 := Lib.hid ((HN.out _).grown hgr2 (fun e => by have := (HRW.out _ e).2; omega))
      have hgn := hown2.ne_box HN2.out HNP.out
      have hgt : g ≠ t := fun e => by have := hown2.ne15 HT2.out; simp [Value.ownBlock] at this; exact this e
      have HB2 := Lib.hid ((((HWB.out _).mono hBw)).grown hgr2 (HSZ.out _) (fun k hk => (HRW.out k hk).1))
      have HO2 := Lib.hid hown2
      have d0 : w2.cell? ⟨t, 0, none⟩ = some (.slice a ns.length cap) := by rw [HT2.out.cell]; rfl
      have f0 : w2.frozen? ⟨t, 0, none⟩ = false := HT2.out.frozen 0
      clear hown2 hgr2 k1 n0
      rw [show (ns ++ [nd0]).length = ns.length + 1 by simp]
      go_wp2_with fail
      clear d0 f0
      go_loopw [6] (fun t6 wr => ∃ k x', 0 ≤ k ∧ k ≤ ns.length ∧ t6 = .int .i64 (k : Nat) ∧ Hid (Box wr t 35 [.slice (some ⟨g, 0, none⟩) (ns.length + 1) vc, x]) ∧ Hid (Box wr w.heap.size 37 (ndC n)) ∧ Hid (OwnN wr B (.slice (some ⟨g, 0, none⟩) (ns.length + 1) vc) (gapN ns k x')) ∧ Hid (Below B w wr)) (fun t6 _ => (intOf t6).toNat)
      case atStart =>
        refine ⟨ns.length, nd0, hi, Nat.le_refl _, by go_num, Lib.hid (HT2.out.set 0 (by simp) _), Lib.hid (HN2.out.grown (grownBy_set _ t 0 _) (by intro e; injection e with e; omega)), Lib.hid ?_, Lib.hid (HB2.out.setCell hBt _)⟩
        rw [gap_end]
        exact HO2.out.kept (grownBy_set _ t 0 _) (.inr (by simp [Value.ownBlock]; exact hgt))
      case round =>
        obtain ⟨k, x', hk1, hk2, rfl, HT3, HN3, HO3, HB3⟩ := hrel
        have e0 : wr.cell? ⟨t, 0, none⟩ = some (.slice (some ⟨g, 0, none⟩) (ns.length + 1) vc) := by rw [HT3.out.cell]; rfl
        by_cases hk : 0 < k
        · obtain ⟨j, rfl⟩ : ∃ j, k = j + 1 := ⟨k - 1, by omega⟩
          obtain ⟨c0, c1, c2⟩ := HO3.out.at (i := j) (by rw [gap_len _ hk2]; omega)
          rw [gap_at _ hk2] at c0 c1 c2
          have hjI : (j : Int) + 1 < ((ns.length + 1 : Nat) : Int) := by omega
          have hkI : (0 : Int) < (j : Int) + 1 := by omega
          have hj1 : (j : Int) < (ns.length : Int) + 1 := by omega
          have hj2 : (j : Int) < (ns.length : Int) := by omega
          have hj3 : j < ns.length := by omega
          have hj5 : (0 : Int) ≤ (j : Int) + 1 := by omega
          have hwj : IntKind.i64.wrap (j : Int) = (j : Int) := IntWalk.i64_in _ (by omega)
          have hj4 : j < ns.length + 1 := by omega
          go_wp2_with fail
          go_still_tail 14, (by kernel_rfl)
          refine (wpList_storeN _ rfl _ _ rfl B g vc (ns.length + 1) (gapN ns (j + 1) x') (j + 1) (ndAt ns j) HO3.out (by rw [gap_len _ hk2]; omega) rfl rfl ?_)
          intro w3 hO4 hg3
          have hg3 := grownBy_trans (grownBy_drew wr 1 (some g)) hg3
          rw [gap_step _ hk2] at hO4
          have HO4 := Lib.hid hO4
          have HT4 := Lib.hid (HT3.out.grown hg3 (by intro e; injection e with e; exact hgt e))
          have HN4 := Lib.hid (HN3.out.grown hg3 (by intro e; injection e with e; exact hgn e))
          have HB4 := Lib.hid (HB3.out.grown hg3 (by have := HB3.out.size; omega) (fun k hk => by injection hk with hk; omega))
          clear hO4 hg3 c0 c1 c2 e0
          go_wp2_with fail
          exact ⟨⟨j, ndAt ns j, by omega, by omega, by go_num, HT4, HN4, HO4, HB4⟩, by first | (simp [intOf]; done) | (simp [intOf]; omega)⟩
        · obtain rfl : 0 = k := by omega
          obtain ⟨m0, m1, m2⟩ : wr.cell? ⟨w.heap.size, 0, none⟩ = some (.string ⟨n.p.toArray⟩) ∧ wr.cell? ⟨w.heap.size, 1, none⟩ = some (.int .i64 n.k) ∧ wr.cell? ⟨w.heap.size, 2, none⟩ = some (.string ⟨n.d.toArray⟩) := ⟨by rw [HN3.out.cell]; rfl, by rw [HN3.out.cell]; rfl, by rw [HN3.out.cell]; rfl⟩
          have hjI : (0 : Int) < ((ns.length + 1 : Nat) : Int) := by omega
          have hji : (0 : Int) < (ns.length : Int) + 1 := by omega
          go_wp2_with (go_still_tail 7, (by kernel_rfl); refine wpList_storeN _ rfl _ _ rfl B g vc (ns.length + 1) (gapN ns 0 x') 0 n HO3.out (by rw [gap_len _ hi]; omega) rfl rfl ?_)
          intro w3 hO4 hg3
          have hg3 := grownBy_trans (grownBy_drew wr 1 (some g)) hg3
          rw [gap_set _ _ hi] at hO4
          have HO4 := Lib.hid hO4
          have HT4 := Lib.hid (HT3.out.grown hg3 (by intro e; injection e with e; exact hgt e))
          have HB4 := Lib.hid (HB3.out.grown hg3 (by have := HB3.out.size; omega) (fun k hk => by injection hk with hk; omega))
          clear hO4 hg3 m0 m1 m2 e0
          go_wp2_with fail
          go_ret
          exact ⟨ret_boolE (gap_miss HLO.out HH.out).symm, _, _, HT4.out, HO4.out, laid1_gap HR.out hi HLO.out HH.out, HB4.out⟩
    | succ i =>
      obtain ⟨g0, off, rfl, hc⟩ : ∃ g0 off, a = some ⟨g0, off, none⟩ ∧ NdsAt w g0 off ns := by
        obtain ⟨a', cap', e, -, -, -, h3⟩ := HS.out
        injection e with e1
        subst e1
        exact h3 (by omega)
      have c0 : ∀ m, ((w.alloc (.cells (ndC n).toArray 37)).drewN m).cell? ⟨g0, off + i * 3, none⟩ = some (.string ⟨(ndAt ns i).p.toArray⟩) := fun m => ((hc.below (HWB.out m)) i hi).1
      clear hc
      have hdc : decide (0 < i + 1) = true := by simp
      have hiI : (i : Int) < (ns.length : Int) := by omega
      have hwi : IntKind.i64.wrap (i : Int) = (i : Int) := IntWalk.i64_in _ (by omega)
      have hi1 : IntKind.i64.wrap ((i : Int) + 1) = (i : Int) + 1 := IntWalk.i64_in _ (by omega)
      have hi0 : (0 : Int) < (i : Int) + 1 := by omega
      have hi5 : (0 : Int) ≤ (i : Int) + 1 := by omega
      cases hec : ((ndAt ns i).p == n.p) with
      | true =>
        have he := eq_of_beq hec
        have HF := Lib.hid (gap_hit HR.out hi he)
        have HFL := Lib.hid (laid1_hit HR.out HF.out)
        have hbl : Op.bytesLess (ndAt ns i).p n.p = false := by rw [he]; exact ltS_irrefl _
        clear he
        generalize (ndAt ns i).p = q at c0 hbl hec
        clear HH
        go_wp2_with (go_quiet (fail))
        go_ret
        exact ⟨ret_boolE HF.out.symm, _, _, HT.out m, HO.out m, HFL.out, below_dr (below_dr ((HWB.out m).mono hBw) _) _⟩
      | false =>
        cases hls : ltS (ndAt ns i).p n.p with
        | false =>
          have hbl : Op.bytesLess (ndAt ns i).p n.p = false := hls
          have HH2 : Hid (∀ j, i ≤ j → j < ns.length → ltS n.p (ndAt ns j).p = true) := Lib.hid (fun j hj hjl => by
            rcases Nat.lt_or_ge i j with h | h
            · exact HH.out j h hjl
            · obtain rfl : j = i := by omega
              cases h4 : ltS n.p (ndAt ns j).p with
              | true => rfl
              | false =>
                have := ltS_total hls h4
                rw [this] at hec; simp at hec)
          generalize (ndAt ns i).p = q at c0 hbl hec
          clear hls HH
          go_wp2_with (go_quiet (fail))
          exact ⟨⟨i, by omega, by go_num, HH2, _, rfl⟩, by first | (simp [intOf]; done) | (simp [intOf]; omega)⟩
        | true =>
          have hbl : Op.bytesLess (ndAt ns i).p n.p = true := hls
          have HLO : Hid (∀ j, j < i + 1 → j < ns.length → ltS (ndAt ns j).p n.p = true) := Lib.hid (gap_below HR.out hi hls)
          clear hls
          generalize (ndAt ns i).p = q at c0 hbl hec
          go_wp2_with (first | (at_builtin; refine wpList_appN _ rfl _ _ rfl B _ ns rfl (HO.out _) nd0 _ rfl (by simp) (by omega) (HSZ.out _) ?_) | go_quiet (fail))
          intro v' w2 hown2 hgr2
          obtain ⟨g, vc, rfl, hgB⟩ := hown2.head (by simp)
          rw [show (ns ++ [nd0]).length = ns.length + 1 by simp] at hown2
          have HT2 := Lib.hid ((HT.out _).grown hgr2 HNE.out)
          have HN2 := Lib.hid ((HN.out _).grown hgr2 (fun e => by have := (HRW.out _ e).2; omega))
          have hgn := hown2.ne_box HN2.out HNP.out
          have hgt : g ≠ t := fun e => by have := hown2.ne15 HT2.out; simp [Value.ownBlock] at this; exact this e
          have HB2 := Lib.hid ((((HWB.out _).mono hBw)).grown hgr2 (HSZ.out _) (fun k hk => (HRW.out k hk).1))
          have HO2 := Lib.hid hown2
          have d0 : w2.cell? ⟨t, 0, none⟩ = some (.slice (some ⟨g0, off, none⟩) ns.length cap) := by rw [HT2.out.cell]; rfl
          have f0 : w2.frozen? ⟨t, 0, none⟩ = false := HT2.out.frozen 0
          clear hown2 hgr2 k1 n0
          rw [show (ns ++ [nd0]).length = ns.length + 1 by simp]
          go_wp2_with fail
          clear d0 f0
          go_loopw [6] (fun t6 wr => ∃ k x', (i + 1) ≤ k ∧ k ≤ ns.length ∧ t6 = .int .i64 (k : Nat) ∧ Hid (Box wr t 35 [.slice (some ⟨g, 0, none⟩) (ns.length + 1) vc, x]) ∧ Hid (Box wr w.heap.size 37 (ndC n)) ∧ Hid (OwnN wr B (.slice (some ⟨g, 0, none⟩) (ns.length + 1) vc) (gapN ns k x')) ∧ Hid (Below B w wr)) (fun t6 _ => (intOf t6).toNat)
          case atStart =>
            refine ⟨ns.length, nd0, hi, Nat.le_refl _, by go_num, Lib.hid (HT2.out.set 0 (by simp) _), Lib.hid (HN2.out.grown (grownBy_set _ t 0 _) (by intro e; injection e with e; omega)), Lib.hid ?_, Lib.hid (HB2.out.setCell hBt _)⟩
            rw [gap_end]
            exact HO2.out.kept (grownBy_set _ t 0 _) (.inr (by simp [Value.ownBlock]; exact hgt))
          case round =>
            obtain ⟨k, x', hk1, hk2, rfl, HT3, HN3, HO3, HB3⟩ := hrel
            have e0 : wr.cell? ⟨t, 0, none⟩ = some (.slice (some ⟨g, 0, none⟩) (ns.length + 1) vc) := by rw [HT3.out.cell]; rfl
            by_cases hk : (i + 1) < k
            · obtain ⟨j, rfl⟩ : ∃ j, k = j + 1 := ⟨k - 1, by omega⟩
              obtain ⟨c0, c1, c2⟩ := HO3.out.at (i := j) (by rw [gap_len _ hk2]; omega)
              rw [gap_at _ hk2] at c0 c1 c2
              have hjI : (j : Int) + 1 < ((ns.length + 1 : Nat) : Int) := by omega
              have hkI : ((i : Int) + 1 : Int) < (j : Int) + 1 := by omega
              have hj1 : (j : Int) < (ns.length : Int) + 1 := by omega
              have hj2 : (j : Int) < (ns.length : Int) := by omega
              have hj3 : j < ns.length := by omega
              have hj5 : (0 : Int) ≤ (j : Int) + 1 := by omega
              have hwj : IntKind.i64.wrap (j : Int) = (j : Int) := IntWalk.i64_in _ (by omega)
              have hj4 : j < ns.length + 1 := by omega
              go_wp2_with fail
              go_still_tail 14, (by kernel_rfl)
              refine (wpList_storeN _ rfl _ _ rfl B g vc (ns.length + 1) (gapN ns (j + 1) x') (j + 1) (ndAt ns j) HO3.out (by rw [gap_len _ hk2]; omega) rfl rfl ?_)
              intro w3 hO4 hg3
              have hg3 := grownBy_trans (grownBy_drew wr 1 (some g)) hg3
              rw [gap_step _ hk2] at hO4
              have HO4 := Lib.hid hO4
              have HT4 := Lib.hid (HT3.out.grown hg3 (by intro e; injection e with e; exact hgt e))
              have HN4 := Lib.hid (HN3.out.grown hg3 (by intro e; injection e with e; exact hgn e))
              have HB4 := Lib.hid (HB3.out.grown hg3 (by have := HB3.out.size; omega) (fun k hk => by injection hk with hk; omega))
              clear hO4 hg3 c0 c1 c2 e0
              go_wp2_with fail
              exact ⟨⟨j, ndAt ns j, by omega, by omega, by go_num, HT4, HN4, HO4, HB4⟩, by first | (simp [intOf]; done) | (simp [intOf]; omega)⟩
            · obtain rfl : (i + 1) = k := by omega
              obtain ⟨m0, m1, m2⟩ : wr.cell? ⟨w.heap.size, 0, none⟩ = some (.string ⟨n.p.toArray⟩) ∧ wr.cell? ⟨w.heap.size, 1, none⟩ = some (.int .i64 n.k) ∧ wr.cell? ⟨w.heap.size, 2, none⟩ = some (.string ⟨n.d.toArray⟩) := ⟨by rw [HN3.out.cell]; rfl, by rw [HN3.out.cell]; rfl, by rw [HN3.out.cell]; rfl⟩
              have hjI : ((i : Int) + 1 : Int) < ((ns.length + 1 : Nat) : Int) := by omega
              have hji : ((i : Int) + 1 : Int) < (ns.length : Int) + 1 := by omega
              go_wp2_with (go_still_tail 7, (by kernel_rfl); refine wpList_storeN _ rfl _ _ rfl B g vc (ns.length + 1) (gapN ns (i + 1) x') (i + 1) n HO3.out (by rw [gap_len _ hi]; omega) rfl rfl ?_)
              intro w3 hO4 hg3
              have hg3 := grownBy_trans (grownBy_drew wr 1 (some g)) hg3
              rw [gap_set _ _ hi] at hO4
              have HO4 := Lib.hid hO4
              have HT4 := Lib.hid (HT3.out.grown hg3 (by intro e; injection e with e; exact hgt e))
              have HB4 := Lib.hid (HB3.out.grown hg3 (by have := HB3.out.size; omega) (fun k hk => by injection hk with hk; omega))
              clear hO4 hg3 m0 m1 m2 e0
              go_wp2_with fail
              go_ret
              exact ⟨ret_boolE (gap_miss HLO.out HH.out).symm, _, _, HT4.out, HO4.out, laid1_gap HR.out hi HLO.out HH.out, HB4.out⟩
end Go.Proofs.YtcdkojdjcifkpaaDoor
