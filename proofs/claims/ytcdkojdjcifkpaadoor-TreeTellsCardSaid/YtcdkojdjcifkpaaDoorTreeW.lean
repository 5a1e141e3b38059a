/- awake of layer 15. -/
import Derived.Test.YtcdkojdjcifkpaaDoorTreeN
import Derived.Test.YtcdkojdjcifkpaaDoorLit
set_option linter.unusedVariables false
set_option linter.unusedSimpArgs false
namespace Go.Proofs.YtcdkojdjcifkpaaDoor
open Go.RowKit

theorem litN (W : World) (b : Nat) (ns : List Nd) (n : Nat) (e : TypeId) (m : Nat × Nat) (hb : W.heap[b]? = some (.cells (ns.flatMap ndC).toArray e m)) (hn : ns.length = n) (h4 : n ≤ 1000) : IsNds W (.slice (some ⟨b, 0, none⟩) n n) ns := by
  subst hn
  refine ⟨_, _, rfl, Nat.le_refl _, by unfold maxLen; omega, (fun h => by cases h), fun h0 => ⟨b, 0, rfl, fun i hi => ?_⟩⟩
  obtain ⟨f0, f1, f2⟩ := ndsflat_at ns i hi
  have c : ∀ k u, (ns.flatMap ndC)[k]? = some u → W.cell? ⟨b, k, none⟩ = some u := fun k u hk => by
    rw [cell_of_row W b k _ _ _ hb]; simpa using hk
  rw [Nat.zero_add]
  exact ⟨c _ _ f0, c _ _ f1, c _ _ f2⟩
theorem MaxAt.drew {w : World} (h : MaxAt w) (n : Nat) : MaxAt (w.drewN n) := h
def nsA : List Nd := [⟨[47, 97], 2, []⟩, ⟨[47, 97, 47, 98], 1, [120]⟩]
def nsB : List Nd := [⟨[47, 97, 47, 98], 1, []⟩]
def allA : List Nd := [rootN, ⟨[47, 97], 2, []⟩, ⟨[47, 97, 47, 98], 1, [120]⟩]
theorem wholeA : Whole nsA allA := by
  refine ⟨?_, fun n => ?_⟩
  · unfold Rising; decide +kernel
  · unfold allA nsA
    simp only [List.mem_cons, List.not_mem_nil, or_false]
    constructor
    · rintro (h | h | h)
      · exact .inr h
      · exact .inl (.inl h)
      · exact .inl (.inr h)
    · rintro ((h | h) | h)
      · exact .inr (.inl h)
      · exact .inr (.inr h)
      · exact .inl h
theorem goodA : Good nsA := by
  refine ⟨fun n hn => ?_, by decide +kernel, fun n hn hp => ?_⟩
  · unfold nsA at hn
    simp only [List.mem_cons, List.not_mem_nil, or_false] at hn
    rcases hn with rfl | rfl <;> decide +kernel
  · unfold nsA at hn
    simp only [List.mem_cons, List.not_mem_nil, or_false] at hn
    rcases hn with rfl | rfl
    · exact ⟨rootN, .inr rfl, by decide +kernel, rfl⟩
    · exact ⟨⟨[47, 97], 2, []⟩, .inl (by unfold nsA; simp), by decide +kernel, rfl⟩
theorem not_goodB : ¬ Good nsB := fun h => by
  obtain ⟨m, hm, h1, h2⟩ := h.2.2 ⟨[47, 97, 47, 98], 1, []⟩ (by unfold nsB; simp) (by decide)
  have e : partF [47, 97, 47, 98] = [47, 97] := by decide +kernel
  rw [show partF (⟨[47, 97, 47, 98], 1, []⟩ : Nd).p = [47, 97] from e] at h1
  rcases hm with hm | hm
  · unfold nsB at hm
    simp only [List.mem_cons, List.not_mem_nil, or_false] at hm
    rw [hm] at h1; exact absurd h1 (by decide)
  · rw [hm] at h1; exact absurd h1 (by decide)
set_option maxRecDepth 100000 in
set_option maxHeartbeats 8000000 in
theorem awake15_any (w : World) (hM : MaxAt w) :
    Calls Tryd.prog 9 #[] w fun e w' => e = .returned (.bool true) ∧ Below w.heap.size w w' := by
  have HM := Lib.hid hM
  go_enter Tryd.func9, Tryd.ntmps9
  go_wp2_with fail
  refine (New_any _ nsA _ (litN _ _ nsA 2 37 _ (by rw [heap_alloc_at, if_pos (by simp)]; rfl) rfl (by decide)) (HM.out.below (ext_alloc w _)) (by intro n hn; unfold nsA at hn; simp only [List.mem_cons, List.not_mem_nil, or_false] at hn; rcases hn with rfl | rfl <;> decide) (by decide)).mono ?_
  rintro e w1 ⟨h1 | ⟨-, t, all, rfl, ht, hw, hle⟩, hb1⟩
  · exact absurd goodA h1.1
  obtain rfl := hw.eq wholeA
  have HT1 := Lib.hid ht
  have HB1 := Lib.hid (ext_trans (ext_alloc w _) hb1)
  have hle1 : w.heap.size ≤ t := by have := (ext_alloc w (.cells (nsA.flatMap ndC).toArray 37)).size; exact Nat.le_trans this hle
  clear ht hw hb1 hle
  go_wp2_with fail
  refine (New_any _ nsB _ (litN _ _ nsB 1 37 _ (by rw [heap_alloc_at, if_pos (by simp)]; rfl) rfl (by decide)) (HM.out.below (ext_trans HB1.out (ext_alloc w1 _))) (by intro n hn; unfold nsB at hn; simp only [List.mem_cons, List.not_mem_nil, or_false] at hn; rcases hn with rfl; decide) (by decide)).mono ?_
  rintro e w2 ⟨h1, hb2⟩
  obtain ⟨-, rfl⟩ := h1.resolve_right (fun h => absurd h.1 not_goodB)
  have hb12 := ext_trans (ext_alloc w1 _) hb2
  have HT2 := Lib.hid (HT1.out.below hb12)
  have HB2 := Lib.hid (ext_trans HB1.out hb12)
  clear hb2 hb12
  go_wp2_with fail
  refine (Look_any t allA 0 [47, 97, 47, 98] w2 HT2.out (by decide)).mono ?_
  rintro e w3 ⟨rfl, hb3⟩
  have HB3 := Lib.hid (ext_trans HB2.out hb3)
  have HT3 := Lib.hid (HT2.out.below hb3)
  clear hb3
  rw [show lookN allA [47, 97, 47, 98] = some ⟨[47, 97, 47, 98], 1, [120]⟩ from rfl]
  simp only [ndV, Option.getD_some, Option.isSome_some]
  go_wp2_with fail
  refine (Names_any t allA 0 [47, 97] _ (HT3.out.below (ext_alloc w3 _)) (by decide) (by decide)).mono ?_
  rintro e w4 ⟨v4, rfl, hs4, hb4⟩
  rw [show namesD allA [47, 97] = [[98]] by decide +kernel] at hs4
  rw [show isDir allA [47, 97] = true by decide +kernel]
  have hb34 := ext_trans (ext_alloc w3 (.cells #[.string ⟨#[47, 97, 47, 98]⟩, .int .i64 1, .string ⟨#[120]⟩] 37)) hb4
  have hbx : Box w4 w3.heap.size 37 [.string ⟨#[47, 97, 47, 98]⟩, .int .i64 1, .string ⟨#[120]⟩] := (Box.new w3 37 [.string ⟨#[47, 97, 47, 98]⟩, .int .i64 1, .string ⟨#[120]⟩]).below hb4 (by simp)
  have HT4 := Lib.hid (HT3.out.below hb34)
  have HB4 := Lib.hid (ext_trans HB3.out hb34)
  have hlt5 := hbx.lt
  have hne5 : w3.heap.size ≠ t := fun e => by have := HT3.out.lt; omega
  have HS4 := Lib.hid hs4
  have HBX := Lib.hid hbx
  clear hb4 hb34 hs4 hbx
  go_wp2_with fail
  refine (Ask_any t allA 0 w4 HT4.out (by decide) (by decide)).mono ?_
  rintro e w5 ⟨rfl, ht5, hg5⟩
  have hbx5 := HBX.out.grown hg5 (fun e => hne5 (by injection e with e; exact e.symm))
  have q2 : w5.cell? ⟨w3.heap.size, 2, none⟩ = some (.string ⟨#[120]⟩) := by rw [hbx5.cell]; rfl
  obtain ⟨sa, cap, rfl, s1, s2, -, s3⟩ := HS4.out
  obtain ⟨sb, off, rfl, hc⟩ := s3 (by decide)
  have q3 : w4.cell? ⟨sb, off, none⟩ = some (.string ⟨#[98]⟩) := hc 0 (by decide)
  have hsb : sb ≠ t := fun e => by
    subst e
    obtain ⟨m1, m2, sl, n, h1, -, -, ⟨a, cap, rfl, -⟩⟩ := HT4.out
    rw [h1.cell] at q3
    have : off = 0 ∨ off = 1 ∨ off = 2 ∨ off = 3 ∨ 4 ≤ off := by omega
    rcases this with rfl | rfl | rfl | rfl | h
    · cases q3
    · cases q3
    · cases q3
    · cases q3
    · rw [List.getElem?_eq_none (by simpa using h)] at q3; cases q3
  have q4 : w5.cell? ⟨sb, off, none⟩ = some (.string ⟨#[98]⟩) := by
    rw [World.cell?_of_block (w := w4) (hg5.block sb (World.block_lt_of_cell? w4 _ q3) (fun e => hsb (by injection e with e)))]; exact q3
  have HA5 := Lib.hid (Asked_any t allA (0 + 1) w5 ht5 (by decide) (by decide))
  have HL5 := Lib.hid (All_any t allA (0 + 1) w5 ht5 (by decide))
  have HB5 : Hid (Below w.heap.size w w5) := Lib.hid (HB4.out.grown hg5 HB4.out.size (fun j hj => by injection hj with hj; omega))
  clear ht5 hg5 hbx5 hc s3 q3
  go_wp2_with fail
  refine HA5.out.mono ?_
  rintro e w6 ⟨rfl, rfl⟩
  go_wp2_with fail
  refine HL5.out.mono ?_
  rintro e w7 ⟨v7, rfl, hn7, hb7⟩
  obtain ⟨a7, c7, rfl, -⟩ := hn7
  go_wp2_with fail
  go_ret
  exact ⟨rfl, HB5.out.trans (hb7.mono HB5.out.size)⟩
end Go.Proofs.YtcdkojdjcifkpaaDoor
