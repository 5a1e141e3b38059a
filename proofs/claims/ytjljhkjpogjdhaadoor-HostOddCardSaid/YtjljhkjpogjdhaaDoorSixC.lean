/- ip6: spread. -/
import Derived.Test.YtjljhkjpogjdhaaDoorSixM
import Derived.Test.YtjljhkjpogjdhaaDoorArr
set_option linter.unusedVariables false
set_option linter.unusedSimpArgs false
namespace Go.Proofs.YtjljhkjpogjdhaaDoor
open Go.RowKit

theorem one16 (l : List Int) : ∀ v ∈ l.map u16V, v.oneCell' = true := by
  intro v hv; obtain ⟨x, -, rfl⟩ := List.mem_map.1 hv; rfl
set_option maxRecDepth 100000 in
set_option maxHeartbeats 1000000 in
theorem spread_any (p : List Int) (c g : Nat) (w : World) (hp : p.length = 8) (hg : g ≤ c) (hc : c ≤ 7) :
    Calls Tryd.prog 40 #[.agg (p.map u16V).toArray, .int .i64 c, .int .i64 g] w fun e w' => e = .returned (.agg ((spreadM p c g).map u16V).toArray) ∧ Below w.heap.size w w' := by
  obtain ⟨cs, hcs⟩ : ∃ cs, p.map u16V = cs := ⟨_, rfl⟩
  have HCS := Lib.hid hcs
  rw [hcs]
  clear hcs
  have hql : (spreadM p c g).length = 8 := by unfold spreadM; simp; omega
  obtain ⟨q, hq⟩ : ∃ q, spreadM p c g = q := ⟨_, rfl⟩
  have HQ := Lib.hid hq
  rw [hq] at hql ⊢
  clear hq
  go_enter Tryd.func40, Tryd.ntmps40
  go_wp2_with fail
  obtain ⟨W, hW⟩ : ∃ W, ((w.alloc (.cells cs.toArray 25)).alloc (.cells #[.int .u16 0, .int .u16 0, .int .u16 0, .int .u16 0, .int .u16 0, .int .u16 0, .int .u16 0, .int .u16 0] 25)).alloc (.cells #[.int .u16 0, .int .u16 0, .int .u16 0, .int .u16 0, .int .u16 0, .int .u16 0, .int .u16 0, .int .u16 0] 25) = W := ⟨_, rfl⟩
  have B0 : Hid (Box W w.heap.size 25 cs) := Lib.hid (by rw [← hW]; exact ((Box.new w _ cs).alloc _).alloc _)
  have B1 : Hid (Box W (w.heap.size + 1) 25 ((List.replicate 8 0).map u16V)) := Lib.hid (by
    rw [← hW]
    have := (Box.new (w.alloc (.cells cs.toArray 25)) 25 ((List.replicate 8 0).map u16V)).alloc (.cells #[.int .u16 0, .int .u16 0, .int .u16 0, .int .u16 0, .int .u16 0, .int .u16 0, .int .u16 0, .int .u16 0] 25)
    rw [show (w.alloc (.cells cs.toArray 25)).heap.size = w.heap.size + 1 from hsz_alloc _ _] at this
    exact this)
  have B2 : Hid (Box W (w.heap.size + 1 + 1) 25 ((List.replicate 8 0).map u16V)) := Lib.hid (by
    rw [← hW]
    have := (Box.new ((w.alloc (.cells cs.toArray 25)).alloc (.cells #[.int .u16 0, .int .u16 0, .int .u16 0, .int .u16 0, .int .u16 0, .int .u16 0, .int .u16 0, .int .u16 0] 25)) 25 ((List.replicate 8 0).map u16V))
    rw [show ((w.alloc (.cells cs.toArray 25)).alloc (.cells #[.int .u16 0, .int .u16 0, .int .u16 0, .int .u16 0, .int .u16 0, .int .u16 0, .int .u16 0, .int .u16 0] 25)).heap.size = w.heap.size + 1 + 1 by rw [hsz_alloc, hsz_alloc]] at this
    exact this)
  have BB : Hid (Below w.heap.size w W) := Lib.hid (by rw [← hW]; exact ((((Below.refl _ _).alloc (Nat.le_refl _) _).alloc (by rw [hsz_alloc]; omega) _).alloc (by rw [hsz_alloc, hsz_alloc]; omega) _))
  rw [hW]
  clear hW
  obtain ⟨b0, hb0⟩ : ∃ b, w.heap.size = b := ⟨_, rfl⟩
  have HB0 := Lib.hid hb0
  rw [hb0] at B0 B1 B2 BB ⊢
  clear hb0
  obtain ⟨b1, hb1⟩ : ∃ b, b0 + 1 = b := ⟨_, rfl⟩
  rw [hb1] at B1 B2 ⊢
  obtain ⟨b2, hb2⟩ : ∃ b, b1 + 1 = b := ⟨_, rfl⟩
  rw [hb2] at B2 ⊢
  have HN : Hid (b0 < b1 ∧ b1 < b2) := Lib.hid (by omega)
  clear hb1 hb2
  have hc1 : (Builtin.copy_ #[91, 91] 3 #[.slice (some ⟨b2, 0, none⟩) 8 8, .slice (some ⟨b0, 0, none⟩) g 8]).run Tryd.prog W.drew = .ok (goInt g) (W.drew.setRow b2 (((p.take g ++ List.replicate (8 - g) 0).map u16V)).toArray) := by
    have hl : ((p.take g).map u16V).length = g := by simp; omega
    have := run_copy_row (P := Tryd.prog) W.drew 91 91 3 24 b2 0 8 8 ⟨b0, 0, none⟩ g 8 ((List.replicate 8 0).map u16V).toArray 25 ((p.take g).map u16V) (by first | exact Tryd.underlying91 | kernel_rfl) (by kernel_rfl) (B2.out.drew 1) (by rw [hl]; show g = min g 8; omega)
      (fun j v hj => by
        rw [addr_add, show W.drew.cell? ⟨b0, j, none⟩ = cs[j]? from (B0.out.drew 1).cell j, ← HCS.out]
        have hjl : j < g := by have := (List.getElem?_eq_some_iff.1 hj).1; omega
        rw [← hj]; simp [List.getElem?_take, hjl]) (by rw [hl]; simp; omega) (one16 _)
    rw [hl] at this
    rw [this]
    congr 2
    rw [List.map_append, List.map_replicate, List.map_replicate]
    simp only [List.take_zero, List.nil_append, List.drop_replicate, Nat.zero_add]
  obtain ⟨W2, hW2⟩ : ∃ W2, W.drew.setRow b2 (((p.take g ++ List.replicate (8 - g) 0).map u16V)).toArray = W2 := ⟨_, rfl⟩
  have D0 : Hid (Box W2 b0 25 cs) := Lib.hid (by rw [← hW2]; exact setRow_box (B0.out.drew 1) _ (by have := HN.out; omega))
  have D1 : Hid (Box W2 b1 25 ((List.replicate 8 0).map u16V)) := Lib.hid (by rw [← hW2]; exact setRow_box (B1.out.drew 1) _ (by have := HN.out; omega))
  have D2 : Hid (Box W2 b2 25 ((p.take g ++ List.replicate (8 - g) 0).map u16V)) := Lib.hid (by rw [← hW2]; exact setRow_box_self (B2.out.drew 1) _)
  have DB : Hid (Below b0 w W2) := Lib.hid (by rw [← hW2]; exact setRow_below (below_dr BB.out 1) _ (by have := HN.out; omega))
  rw [hW2] at hc1
  clear hW2
  have cg : (g : Int) ≤ 8 := by omega
  go_region
  clear hc1
  have HF0 : Hid (p.map u16V = cs) := HCS
  by_cases hd : c = g
  · subst hd
    have hc2 : (Builtin.copy_ #[91, 91] 3 #[.slice (some ⟨b2, 0, none⟩) 0 0, .slice (some ⟨b0, c, none⟩) 0 (8 - c)]).run Tryd.prog W2.drew = .ok (goInt 0) W2.drew :=
      run_copy_none (P := Tryd.prog) W2.drew 91 91 3 24 _ _ 0 0 0 (8 - c) (by first | exact Tryd.underlying91 | kernel_rfl) (by kernel_rfl) (by rfl)
    have HS : Hid (spreadM p c c = p.take c ++ List.replicate (8 - c) 0) := Lib.hid (by unfold spreadM; rw [List.drop_eq_nil_of_le (by simp; omega), List.append_nil])
    have D2n := D2.out
    rw [← HS.out, HQ.out] at D2n
    go_wp2_with fail
    go_region
    clear hc2
    obtain ⟨W3, hW3⟩ : ∃ W3, W2.drew = W3 := ⟨_, rfl⟩
    have C2 : Box W3 b2 25 (q.map u16V) := by rw [← hW3]; exact D2n.drew 1
    have C1 : Box W3 b1 25 ((List.replicate 8 0).map u16V) := by rw [← hW3]; exact D1.out.drew 1
    have CB := Lib.hid (show Below b0 w W3 by rw [← hW3]; exact below_dr DB.out 1)
    rw [hW3]
    clear hW3 D2n
    have HI : Hid ((Tryd.prog.info? 25).map (·.size) = some (q.map u16V).length) := Lib.hid (by rw [List.length_map, hql]; kernel_rfl)
    have HC2 := Lib.hid C2
    have HC1 := Lib.hid C1
    have HO := Lib.hid (one16 q)
    have HL : Hid (((List.replicate 8 (0 : Int)).map u16V).length = (q.map u16V).length) := Lib.hid (by simp; exact hql.symm)
    have E1 := Lib.hid (setRow_box_self C1 (q.map u16V))
    have EB := Lib.hid (setRow_below CB.out (q.map u16V).toArray (by have := HN.out; omega : b0 ≤ b1))
    clear C1 C2
    obtain ⟨vs, hvs⟩ : ∃ vs, q.map u16V = vs := ⟨_, rfl⟩
    rw [hvs] at HI HC2 HO HL E1 EB
    have HV := Lib.hid hvs
    clear hvs
    go_wp2_with (first
      | (refine wpList_loadRow (by rfl) 25 _ rfl b2 vs rfl 8 24 (by first | exact Tryd.underlying25 | kernel_rfl) HI.out HC2.out ?_)
      | (refine wpList_storeRow (by rfl) 25 _ _ rfl rfl b1 _ vs rfl rfl HI.out HC1.out HL.out HO.out ?_))
    refine bodyPost_ret (v := .agg vs.toArray) ?_ rfl ⟨by rw [HV.out], by rw [HB0.out]; exact EB.out⟩
    exact results_cell_row rfl _ _ b1 25 vs.toArray (0, 0) _ (by rfl) E1.out (by first | exact Tryd.underlying25 | kernel_rfl) rfl (by simpa using HI.out)
  · obtain ⟨d, hd2⟩ : ∃ d, c - g = d := ⟨_, rfl⟩
    obtain ⟨k, hk2⟩ : ∃ k, 8 - d = k := ⟨_, rfl⟩
    have d1 : (c : Int) - g = d := by omega
    have d2 : (8 : Int) - d = k := by omega
    have k1 : (k : Int) ≤ 8 := by omega
    have k2 : (g : Int) ≤ c := by omega
    have k3 : (c : Int) ≤ 8 := by omega
    have k4 : k < 8 := by omega
    have k5 : g < 8 := by omega
    have hc2 : (Builtin.copy_ #[91, 91] 3 #[.slice (some ⟨b2, k, none⟩) (8 - k) (8 - k), .slice (some ⟨b0, g, none⟩) d (8 - g)]).run Tryd.prog W2.drew = .ok (goInt d) (W2.drew.setRow b2 ((spreadM p c g).map u16V).toArray) := by
      have hl : (((p.take c).drop g).map u16V).length = d := by simp; omega
      have hbx : W2.drew.heap[b2]? = some (.cells ((p.take g ++ List.replicate (8 - g) 0).map u16V).toArray 25 (0, 0)) := D2.out.drew 1
      have := run_copy_row (P := Tryd.prog) W2.drew 91 91 3 24 b2 k (8 - k) (8 - k) ⟨b0, g, none⟩ d (8 - g) _ 25 (((p.take c).drop g).map u16V) (by first | exact Tryd.underlying91 | kernel_rfl) (by kernel_rfl) hbx (by rw [hl]; show d = min d (8 - k); omega)
        (fun j v hj => by
          rw [addr_add_off, show W2.drew.cell? ⟨b0, g + j, none⟩ = cs[g + j]? from (D0.out.drew 1).cell (g + j), ← HCS.out]
          have hjl : j < d := by have := (List.getElem?_eq_some_iff.1 hj).1; omega
          rw [← hj]; simp [List.getElem?_take, show g + j < c by omega]) (by rw [hl]; simp; omega) (one16 _)
      rw [hl] at this
      rw [this]
      congr 2
      unfold spreadM
      have e1 : ((p.take g ++ List.replicate (8 - g) (0 : Int)).map u16V).take k = (p.take g ++ List.replicate (8 - c) (0 : Int)).map u16V := by
        rw [← List.map_take, List.take_append, List.take_of_length_le (by simp; omega), List.take_replicate]
        congr 3
        simp; omega
      have e2 : ((p.take g ++ List.replicate (8 - g) (0 : Int)).map u16V).drop (k + d) = [] := List.drop_eq_nil_of_le (by simp; omega)
      rw [List.toList_toArray, e1, e2, List.append_nil, ← List.map_append]
    have HB := Lib.hid (setRow_box_self (D2.out.drew 1) ((spreadM p c g).map u16V))
    rw [HQ.out] at hc2 HB
    go_wp2_with fail
    go_region
    clear hc2
    obtain ⟨W3, hW3⟩ : ∃ W3, W2.drew.setRow b2 (q.map u16V).toArray = W3 := ⟨_, rfl⟩
    have C2 : Box W3 b2 25 (q.map u16V) := by rw [← hW3]; exact HB.out
    have C1 : Box W3 b1 25 ((List.replicate 8 0).map u16V) := by rw [← hW3]; exact setRow_box (D1.out.drew 1) _ (by have := HN.out; omega)
    have CB := Lib.hid (show Below b0 w W3 by rw [← hW3]; exact setRow_below (below_dr DB.out 1) _ (by have := HN.out; omega))
    rw [hW3]
    clear hW3 HB
    have HI : Hid ((Tryd.prog.info? 25).map (·.size) = some (q.map u16V).length) := Lib.hid (by rw [List.length_map, hql]; kernel_rfl)
    have HC2 := Lib.hid C2
    have HC1 := Lib.hid C1
    have HO := Lib.hid (one16 q)
    have HL : Hid (((List.replicate 8 (0 : Int)).map u16V).length = (q.map u16V).length) := Lib.hid (by simp; exact hql.symm)
    have E1 := Lib.hid (setRow_box_self C1 (q.map u16V))
    have EB := Lib.hid (setRow_below CB.out (q.map u16V).toArray (by have := HN.out; omega : b0 ≤ b1))
    clear C1 C2
    obtain ⟨vs, hvs⟩ : ∃ vs, q.map u16V = vs := ⟨_, rfl⟩
    rw [hvs] at HI HC2 HO HL E1 EB
    have HV := Lib.hid hvs
    clear hvs
    go_wp2_with (first
      | (refine wpList_loadRow (by rfl) 25 _ rfl b2 vs rfl 8 24 (by first | exact Tryd.underlying25 | kernel_rfl) HI.out HC2.out ?_)
      | (refine wpList_storeRow (by rfl) 25 _ _ rfl rfl b1 _ vs rfl rfl HI.out HC1.out HL.out HO.out ?_))
    refine bodyPost_ret (v := .agg vs.toArray) ?_ rfl ⟨by rw [HV.out], by rw [HB0.out]; exact EB.out⟩
    exact results_cell_row rfl _ _ b1 25 vs.toArray (0, 0) _ (by rfl) E1.out (by first | exact Tryd.underlying25 | kernel_rfl) rfl (by simpa using HI.out)
end Go.Proofs.YtjljhkjpogjdhaaDoor
