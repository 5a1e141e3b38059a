/- awake and the walks of layer 11's laws. -/
import Derived.Test.YtamnamnojbdfmaaSegsB
import Derived.Deep.RegionWith
set_option linter.unusedVariables false
set_option linter.unusedSimpArgs false
namespace Go.Proofs.Ytamnamnojbdfmaa
open Go.RowKit

theorem Own.shape {w : World} {B : Nat} {e : TypeId} {v : Value} {xs : List Value} (h : Own w B e v xs) (hn : 0 < xs.length) : ∃ g cap, v = .slice (some ⟨g, 0, none⟩) xs.length cap ∧ B ≤ g ∧ xs.length ≤ cap ∧ cap ≤ maxLen := by
  rcases h.2 with ⟨_, h0⟩ | ⟨g, cap, cur, hv, hg, hb, hnc, hcm, _⟩
  · omega
  · exact ⟨g, cap, hv, hg, hnc, hcm⟩

/-- Which of the segs' answers for constants: one line each, by the kernel. -/
theorem segs_consts : dotsB [46, 37, 50, 69] = true ∧ dotsB [46] = false ∧ dotB [37, 50, 101] = true ∧ driveB [99, 124] = true ∧ fixedB [99, 124] = false ∧ beginsB [99, 124, 47, 120] = true ∧
    shortL [102, 105, 108, 101] [[67, 58], [120]] = [[67, 58]] := by decide

set_option maxHeartbeats 2000000 in
theorem awake_any (w : World) :
    Calls Try.prog 7 #[] w fun e w' => e = .returned (.bool true) ∧ Below w.heap.size w w' := by
  have HK := Lib.hid segs_consts
  go_enter Try.func7, Try.ntmps7
  go_wp2_with fail
  refine (Shorter_any [102, 105, 108, 101] _ [[67, 58], [120]] _ (litS _ _ _ 2 9 _ (by rw [heap_alloc_at, if_pos (by simp)]; rfl) rfl (by decide)) (by decide) (by decide)).mono ?_
  rintro e w1 ⟨v1, rfl, hown1, hb1⟩
  rw [HK.out.2.2.2.2.2.2] at hown1
  obtain ⟨g, cap, hv, hg, hc1, hc2⟩ := hown1.shape (by decide)
  have hcell : w1.cell? ⟨g, 0, none⟩ = some (.string ⟨[67, 58].toArray⟩) := by
    have := hown1.isStr
    obtain ⟨a, c, h1, _, _, _, h5⟩ := this
    rw [hv] at h1
    simp only [Value.slice.injEq] at h1
    obtain ⟨b, off, h6, h7⟩ := h5 (by decide)
    rw [← h1.1] at h6
    simp only [Option.some.injEq, Addr.mk.injEq] at h6
    have := h7 0 (by decide)
    rw [← h6.1, ← h6.2.1] at this
    exact this
  subst hv
  have HB := Lib.hid (ext_trans (ext_alloc w _) hb1)
  clear hown1 hb1 hg
  go_wp2_with (first
    | (go_at_call 10; (with_reducible refine (Dots_any [46, 37, 50, 69] _ (by decide)).mono ?_); rintro e w' ⟨rfl, rfl⟩; rw [HK.out.1])
    | (go_at_call 10; (with_reducible refine (Dots_any [46] _ (by decide)).mono ?_); rintro e w' ⟨rfl, rfl⟩; rw [HK.out.2.1])
    | (go_at_call 8; (with_reducible refine (Dot_any [37, 50, 101] _ (by decide)).mono ?_); rintro e w' ⟨rfl, rfl⟩; rw [HK.out.2.2.1])
    | (go_at_call 12; (with_reducible refine (Drive_any [99, 124] _ (by decide)).mono ?_); rintro e w' ⟨rfl, rfl⟩; rw [HK.out.2.2.2.1])
    | (go_at_call 14; (with_reducible refine (Fixed_any [99, 124] _ (by decide)).mono ?_); rintro e w' ⟨rfl, rfl⟩; rw [HK.out.2.2.2.2.1])
    | (go_at_call 16; (with_reducible refine (Begins_any [99, 124, 47, 120] _ (by decide)).mono ?_); rintro e w' ⟨rfl, rfl⟩; rw [HK.out.2.2.2.2.2.1]))
  all_goals (go_ret; exact ⟨rfl, HB.out⟩)

set_option maxHeartbeats 2000000 in
theorem tells_walk (l : List UInt8) (w : World) (hm9 : l.length ≤ 9223372036854775807) :
    Calls Try.prog 3 #[.string ⟨l.toArray⟩] w fun e w' => e = .returned (.bool true) ∧ Below w.heap.size w w' := by
  by_cases hlen : 40 < l.length
  · go_enter Try.func3, Try.ntmps3
    go_wp2_with (go_at_call 7; refine (awake_any _).mono ?_; rintro e w1 ⟨rfl, hb⟩)
    go_ret
    exact ⟨rfl, by assumption⟩
  · have hm : l.length ≤ 1000000 := by omega
    go_enter Try.func3, Try.ntmps3
    go_wp2_with (first
      | (go_at_call 8; refine (Dot_any l _ hm).mono ?_; rintro e w' ⟨rfl, rfl⟩)
      | (go_at_call 9; refine (rDot_any l _ hm).mono ?_; rintro e w' ⟨rfl, rfl⟩)
      | (go_at_call 10; refine (Dots_any l _ hm).mono ?_; rintro e w' ⟨rfl, rfl⟩)
      | (go_at_call 11; refine (rDots_any l _ hm).mono ?_; rintro e w' ⟨rfl, rfl⟩)
      | (go_at_call 12; refine (Drive_any l _ hm).mono ?_; rintro e w' ⟨rfl, rfl⟩)
      | (go_at_call 13; refine (rDrive_any l _ hm).mono ?_; rintro e w' ⟨rfl, rfl⟩)
      | (go_at_call 14; refine (Fixed_any l _ hm).mono ?_; rintro e w' ⟨rfl, rfl⟩)
      | (go_at_call 15; refine (rFixed_any l _ hm).mono ?_; rintro e w' ⟨rfl, rfl⟩)
      | (go_at_call 16; refine (Begins_any l _ hm).mono ?_; rintro e w' ⟨rfl, rfl⟩)
      | (go_at_call 17; refine (rBegins_any l _ hm).mono ?_; rintro e w' ⟨rfl, rfl⟩)
      | (go_at_call 7; refine (awake_any _).mono ?_; rintro e w1 ⟨rfl, hb⟩))
    all_goals (go_ret; exact ⟨rfl, by assumption⟩)
theorem str_is (s : ByteArray) : s = ⟨s.data.toList.toArray⟩ := by simp
theorem SegsTells_walk (s0 : ByteArray) (w : World) (w0 : s0.size ≤ maxLen) :
    Calls Try.prog 3 #[.string s0] w fun e w' => e = .returned (.bool true) ∧ Below w.heap.size w w' := by
  rw [str_is s0]
  exact tells_walk _ w (by unfold maxLen at w0; rw [Array.length_toList]; exact w0)

def dotsD : List (List UInt8) := [[46], [37, 50, 101], [37, 50, 69]]
theorem dots_all : ∀ x ∈ dotsD, ∀ y ∈ dotsD, ∀ z ∈ dotsD, dotB x = true ∧ dotsB x = false ∧ dotsB (x ++ y) = true ∧ dotB (x ++ y) = false ∧ dotsB (x ++ y ++ z) = false ∧ dotB (x ++ [97]) = false ∧ dotsB ([97] ++ x) = false ∧
    x.length ≤ 3 := by decide

set_option maxHeartbeats 4000000 in
theorem SegsDots_walk (a0 a1 a2 : Int) (w : World) (w0 : (Lit.int .i64 a0).wf = true) (w1 : (Lit.int .i64 a1).wf = true) (w2 : (Lit.int .i64 a2).wf = true) :
    Calls Try.prog 5 #[.int .i64 a0, .int .i64 a1, .int .i64 a2] w fun e w' => e = .returned (.bool true) ∧ Below w.heap.size w w' := by
  obtain ⟨n00, n01⟩ := wf64 w0
  obtain ⟨n10, n11⟩ := wf64 w1
  obtain ⟨n20, n21⟩ := wf64 w2
  clear w0 w1 w2
  have k0 := lowN_bd a0 3 (by decide)
  have k1 := lowN_bd a1 3 (by decide)
  have k2 := lowN_bd a2 3 (by decide)
  obtain ⟨i0, hi0⟩ : ∃ i : Nat, lowN a0 3 = i := ⟨(lowN a0 3).toNat, by omega⟩
  obtain ⟨i1, hi1⟩ : ∃ i : Nat, lowN a1 3 = i := ⟨(lowN a1 3).toNat, by omega⟩
  obtain ⟨i2, hi2⟩ : ∃ i : Nat, lowN a2 3 = i := ⟨(lowN a2 3).toNat, by omega⟩
  have HI0 := Lib.hid hi0
  have HI1 := Lib.hid hi1
  have HI2 := Lib.hid hi2
  have l0 : i0 < 3 := by omega
  have l1 : i1 < 3 := by omega
  have l2 : i2 < 3 := by omega
  clear k0 k1 k2 hi0 hi1 hi2
  go_enter Try.func5, Try.ntmps5
  go_wp2_with fail
  generalize hW : w.alloc (.cells #[.string ⟨#[46]⟩, .string ⟨#[37, 50, 101]⟩, .string ⟨#[37, 50, 69]⟩] 9) = W
  have hcs : ∀ i, i < 3 → W.cell? ⟨w.heap.size, i, none⟩ = some (.string ⟨(dotsD.getD i []).toArray⟩) := by
    intro i hi
    rw [← hW, cell_of_row _ w.heap.size i _ 9 (0, 0) (heap_alloc_new w _)]
    match i, hi with
    | 0, _ => rfl
    | 1, _ => rfl
    | 2, _ => rfl
  have HE : Hid (Below w.heap.size w W) := Lib.hid (by rw [← hW]; exact ext_alloc _ _)
  have c0 := hcs i0 l0
  have c1 := hcs i1 l1
  have c2 := hcs i2 l2
  clear hW hcs
  have hx : dotsD.getD i0 [] ∈ dotsD := by
    rw [List.getD_eq_getElem?_getD, List.getElem?_eq_getElem (show i0 < dotsD.length from l0)]; exact List.getElem_mem _
  have hy : dotsD.getD i1 [] ∈ dotsD := by
    rw [List.getD_eq_getElem?_getD, List.getElem?_eq_getElem (show i1 < dotsD.length from l1)]; exact List.getElem_mem _
  have hz : dotsD.getD i2 [] ∈ dotsD := by
    rw [List.getD_eq_getElem?_getD, List.getElem?_eq_getElem (show i2 < dotsD.length from l2)]; exact List.getElem_mem _
  have HA := Lib.hid (dots_all _ hx _ hy _ hz)
  have lx := HA.out.2.2.2.2.2.2.2
  have ly := (dots_all _ hy _ hy _ hz).2.2.2.2.2.2.2
  have lz := (dots_all _ hz _ hy _ hz).2.2.2.2.2.2.2
  clear hx hy hz
  generalize dotsD.getD i0 [] = x at *
  generalize dotsD.getD i1 [] = y at *
  generalize dotsD.getD i2 [] = z at *
  have j0 : (i0 : Int) < 3 := by omega
  have j1 : (i1 : Int) < 3 := by omega
  have j2 : (i2 : Int) < 3 := by omega
  have L0 : Hid (∀ w, Calls Try.prog 22 #[.int .i64 a0, .int .i64 3] w fun e w' => e = .returned (.int .i64 i0) ∧ w' = w) := Lib.hid (fun w => (low_any a0 3 w n00 n01 (by decide) (by decide)).mono (fun _ _ ⟨p, q⟩ => ⟨by rw [p, HI0.out], q.symm⟩))
  have L1 : Hid (∀ w, Calls Try.prog 22 #[.int .i64 a1, .int .i64 3] w fun e w' => e = .returned (.int .i64 i1) ∧ w' = w) := Lib.hid (fun w => (low_any a1 3 w n10 n11 (by decide) (by decide)).mono (fun _ _ ⟨p, q⟩ => ⟨by rw [p, HI1.out], q.symm⟩))
  have L2 : Hid (∀ w, Calls Try.prog 22 #[.int .i64 a2, .int .i64 3] w fun e w' => e = .returned (.int .i64 i2) ∧ w' = w) := Lib.hid (fun w => (low_any a2 3 w n20 n21 (by decide) (by decide)).mono (fun _ _ ⟨p, q⟩ => ⟨by rw [p, HI2.out], q.symm⟩))
  go_quiet (first
    | (go_at_call_of 22 (a0); exact Calls.quiet_of_same (L0.out _))
    | (go_at_call_of 22 (a1); exact Calls.quiet_of_same (L1.out _))
    | (go_at_call_of 22 (a2); exact Calls.quiet_of_same (L2.out _)))
  clear c0 c1 c2 L0 L1 L2 j0 j1 j2
  have ln1 : x.length ≤ 1000000 := by omega
  have ln2 : (x ++ y).length ≤ 1000000 := by simp; omega
  have ln3 : (x ++ y ++ z).length ≤ 1000000 := by simp; omega
  have ln3' : (x ++ (y ++ z)).length ≤ 1000000 := by simp; omega
  have ln4 : (x ++ [97]).length ≤ 1000000 := by simp; omega
  have ln5 : (97 :: x).length ≤ 1000000 := by simp; omega
  have HZ := Lib.hid (show dotB [] = false ∧ dotsB [] = false from by decide)
  go_wp2_with (first
    | (go_at_call 8; (with_reducible refine (Dot_any (x) _ ln1).mono ?_); rintro e w' ⟨rfl, rfl⟩; rw [HA.out.1])
    | (go_at_call 10; (with_reducible refine (Dots_any (x) _ ln1).mono ?_); rintro e w' ⟨rfl, rfl⟩; rw [HA.out.2.1])
    | (go_at_call 10; (with_reducible refine (Dots_any (x ++ y) _ ln2).mono ?_); rintro e w' ⟨rfl, rfl⟩; rw [HA.out.2.2.1])
    | (go_at_call 8; (with_reducible refine (Dot_any (x ++ y) _ ln2).mono ?_); rintro e w' ⟨rfl, rfl⟩; rw [HA.out.2.2.2.1])
    | (go_at_call 10; (with_reducible refine (Dots_any (x ++ y ++ z) _ ln3).mono ?_); rintro e w' ⟨rfl, rfl⟩; rw [HA.out.2.2.2.2.1])
    | (go_at_call 10; (with_reducible refine (Dots_any (x ++ (y ++ z)) _ ln3').mono ?_); rintro e w' ⟨rfl, rfl⟩; rw [← List.append_assoc, HA.out.2.2.2.2.1])
    | (go_at_call 8; (with_reducible refine (Dot_any (x ++ [97]) _ ln4).mono ?_); rintro e w' ⟨rfl, rfl⟩; rw [HA.out.2.2.2.2.2.1])
    | (go_at_call 10; (with_reducible refine (Dots_any (97 :: x) _ ln5).mono ?_); rintro e w' ⟨rfl, rfl⟩; rw [show dotsB (97 :: x) = false from HA.out.2.2.2.2.2.2.1])
    | (go_at_call 8; (with_reducible refine (Dot_any ([]) _ (by decide)).mono ?_); rintro e w' ⟨rfl, rfl⟩; rw [HZ.out.1])
    | (go_at_call 10; (with_reducible refine (Dots_any ([]) _ (by decide)).mono ?_); rintro e w' ⟨rfl, rfl⟩; rw [HZ.out.2])
    | (go_at_call 7; refine (awake_any _).mono ?_; rintro e w1 ⟨rfl, hb⟩))
  go_ret
  exact ⟨rfl, ext_trans (ext_trans HE.out (ext_drew _ _)) (by assumption)⟩
end Go.Proofs.Ytamnamnojbdfmaa
