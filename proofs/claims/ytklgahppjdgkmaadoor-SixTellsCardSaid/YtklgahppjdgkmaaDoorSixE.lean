/- ip6: the document's own answer is the program's: four numbers. -/
import Derived.Test.YtklgahppjdgkmaaDoorVrparse
import Derived.Test.YtklgahppjdgkmaaDoorSixG
set_option linter.unusedVariables false
set_option linter.unusedSimpArgs false
set_option maxRecDepth 100000
namespace Go.Proofs.YtklgahppjdgkmaaDoor
open Go Go.Proofs Go.RowKit Go.Vc
def dig3 (x : Nat) : Bs := if x < 10 then [sgn x] else if x < 100 then [sgn (x / 10), sgn (x % 10)] else [sgn (x / 100), sgn (x / 10 % 10), sgn (x % 10)]
theorem dig3_dig (x : Nat) (hx : x < 1000) : digB 10 x = dig3 x := by
  unfold dig3
  by_cases h1 : x < 10
  · rw [if_pos h1, digB_small h1]
  · rw [if_neg h1, digB_great h1 (by decide)]
    by_cases h2 : x < 100
    · rw [if_pos h2, digB_small (by omega)]; rfl
    · rw [if_neg h2, digB_great (x := x / 10) (by omega) (by decide), digB_small (by omega), show x / 10 / 10 = x / 100 by omega]; rfl
theorem dig3_good : ∀ x : Fin 256, goodP (dig3 x.val) = true ∧ decVal (dig3 x.val) = (x.val : Int) := by decide +kernel
def dg (k : Nat) : UInt8 := UInt8.ofNat (48 + k)
theorem one3 : ∀ i : Fin 10, goodP [dg i.val] = true → [dg i.val] = dig3 (decVal [dg i.val]).toNat := by decide +kernel
theorem two3 : ∀ i j : Fin 10, goodP [dg i.val, dg j.val] = true → [dg i.val, dg j.val] = dig3 (decVal [dg i.val, dg j.val]).toNat := by decide +kernel
theorem three3 : ∀ i j k : Fin 10, goodP [dg i.val, dg j.val, dg k.val] = true → [dg i.val, dg j.val, dg k.val] = dig3 (decVal [dg i.val, dg j.val, dg k.val]).toNat := by decide +kernel
theorem dg_of {c : UInt8} (h : digB10 c = true) : ∃ k : Fin 10, c = dg k.val := by
  have := of_decide_eq_true h
  refine ⟨⟨c.toNat - 48, by omega⟩, ?_⟩
  unfold dg
  apply UInt8.toNat_inj.1
  show c.toNat = (UInt8.ofNat (48 + (c.toNat - 48))).toNat
  rw [show 48 + (c.toNat - 48) = c.toNat by omega]
  simp
theorem good_dig {p : Bs} (h : goodP p = true) : p = dig3 (decVal p).toNat ∧ 0 ≤ decVal p ∧ decVal p ≤ 255 := by
  have h0 := h
  unfold goodP at h0
  rw [Bool.and_eq_true, Bool.and_eq_true, List.all_eq_true, decide_eq_true_eq] at h0
  obtain ⟨⟨hs, hd⟩, hv⟩ := h0
  refine ⟨?_, (decVal_bd _ p rfl hd).1, hv⟩
  unfold shapeP at hs
  rw [Bool.and_eq_true, decide_eq_true_eq] at hs
  match p, hd, h, hs.1 with
  | [a], hd, h, _ =>
    obtain ⟨i, rfl⟩ := dg_of (hd a (by simp))
    exact one3 i h
  | [a, b], hd, h, _ =>
    obtain ⟨i, rfl⟩ := dg_of (hd a (by simp))
    obtain ⟨j, rfl⟩ := dg_of (hd b (by simp))
    exact two3 i j h
  | [a, b, c], hd, h, _ =>
    obtain ⟨i, rfl⟩ := dg_of (hd a (by simp))
    obtain ⟨j, rfl⟩ := dg_of (hd b (by simp))
    obtain ⟨k, rfl⟩ := dg_of (hd c (by simp))
    exact three3 i j k h
  | [], _, _, h => exact absurd h.1 (by simp)
  | _ :: _ :: _ :: _ :: _, _, _, h => exact absurd h.2 (by simp)
theorem joinD_split : ∀ l : Bs, joinD (splitB 46 l) = l
  | [] => rfl
  | b :: t => by
    obtain ⟨h, r, e⟩ := splitB_some 46 t
    have ih := joinD_split t
    by_cases hb : (b.toNat : Int) = 46
    · have : b = 46 := by apply UInt8.toNat_inj.1; show b.toNat = 46; omega
      rw [splitB_yes hb, joinD_cons _ (by rw [e]; simp), ih, this]; rfl
    · rw [splitB_no hb e]
      rw [e] at ih
      cases r with
      | nil =>
        have h1 : joinD [h] = h := rfl
        have h2 : joinD [b :: h] = b :: h := rfl
        rw [h1] at ih; rw [h2, ih]
      | cons q qs =>
        rw [joinD_cons _ (by simp)] at ih ⊢
        rw [List.cons_append, ih]
/-- Four numbers with dots between: as the program reads them, as the document does. -/
theorem dot_four (l : Bs) : dotO l = (fourR l).2.2 ∧ ((fourR l).2.2 = true → (fourR l).1 * 65536 + (fourR l).2.1 = dotV l ∧ 0 ≤ (fourR l).1 ∧ (fourR l).1 ≤ 65535 ∧ 0 ≤ (fourR l).2.1 ∧ (fourR l).2.1 ≤ 65535) := by
  have key : (fourR l).2.2 = true → dotO l = true ∧ (fourR l).1 * 65536 + (fourR l).2.1 = dotV l ∧ 0 ≤ (fourR l).1 ∧ (fourR l).1 ≤ 65535 ∧ 0 ≤ (fourR l).2.1 ∧ (fourR l).2.1 ≤ 65535 := fun h => by
    by_cases h4 : (splitB 46 l).length = 4
    · match hq : splitB 46 l, h4 with
      | [a, b, c, d], _ =>
        have hf : fourR l = if (goodP a && goodP b && goodP c && goodP d) = true then (decVal a * 256 + decVal b, decVal c * 256 + decVal d, true) else (0, 0, false) := by unfold fourR; rw [hq]
        by_cases hg : (goodP a && goodP b && goodP c && goodP d) = true
        · rw [if_pos hg] at hf
          simp only [Bool.and_eq_true] at hg
          obtain ⟨⟨⟨ga, gb⟩, gc⟩, gd⟩ := hg
          obtain ⟨ea, a0, a1⟩ := good_dig ga
          obtain ⟨eb, b0, b1⟩ := good_dig gb
          obtain ⟨ec, c0, c1⟩ := good_dig gc
          obtain ⟨ed, d0, d1⟩ := good_dig gd
          obtain ⟨x, hx⟩ := Int.eq_ofNat_of_zero_le a0
          obtain ⟨y, hy⟩ := Int.eq_ofNat_of_zero_le b0
          obtain ⟨z, hz⟩ := Int.eq_ofNat_of_zero_le c0
          obtain ⟨u, hu⟩ := Int.eq_ofNat_of_zero_le d0
          rw [hx, Int.toNat_natCast] at ea
          rw [hy, Int.toNat_natCast] at eb
          rw [hz, Int.toNat_natCast] at ec
          rw [hu, Int.toNat_natCast] at ed
          have hl : l = showL (((x * 256 + y) * 256 + z) * 256 + u) := by
            rw [show_join, ← joinD_split l, hq]
            rw [show q0 (((x * 256 + y) * 256 + z) * 256 + u) = x by unfold q0; omega, show q1 (((x * 256 + y) * 256 + z) * 256 + u) = y by unfold q1; omega, show q2 (((x * 256 + y) * 256 + z) * 256 + u) = z by unfold q2; omega, show q3 (((x * 256 + y) * 256 + z) * 256 + u) = u by unfold q3; omega]
            rw [dig3_dig x (by omega), dig3_dig y (by omega), dig3_dig z (by omega), dig3_dig u (by omega), ← ea, ← eb, ← ec, ← ed]
            rfl
          obtain ⟨d2, d3⟩ := dot_show (((x * 256 + y) * 256 + z) * 256 + u) (by omega)
          rw [← hl] at d2 d3
          rw [hf]
          refine ⟨d2, ?_, ?_, ?_, ?_, ?_⟩ <;> dsimp only <;> omega
        · rw [if_neg hg] at hf
          rw [hf] at h; cases h
    · rw [four_len h4] at h; cases h
  refine ⟨?_, fun h => (key h).2⟩
  cases hd : dotO l with
  | false =>
    cases hf : (fourR l).2.2 with
    | false => rfl
    | true => rw [(key hf).1] at hd; cases hd
  | true =>
    unfold dotO at hd
    rw [Bool.and_eq_true] at hd
    have hl : showL (dotV l).toNat = l := by simpa using hd.2
    obtain ⟨v0, v1⟩ := dotV_bd l
    obtain ⟨n, hn⟩ := Int.eq_ofNat_of_zero_le v0
    rw [hn, Int.toNat_natCast] at hl
    have b0 : q0 n < 256 := by unfold q0; omega
    have b1 : q1 n < 256 := by unfold q1; omega
    have b2 : q2 n < 256 := by unfold q2; omega
    have b3 : q3 n < 256 := by unfold q3; omega
    have hs : splitB 46 l = [digB 10 (q0 n), digB 10 (q1 n), digB 10 (q2 n), digB 10 (q3 n)] := by
      rw [← hl, show_join]
      refine splitB_joinD _ (by simp) fun p hp q hq => ?_
      simp only [List.cons_append, List.nil_append, List.mem_cons, List.not_mem_nil, or_false] at hp
      rcases hp with rfl | rfl | rfl | rfl <;> exact (digB_signs (.inr (.inl rfl)) _ q hq).1
    have g : ∀ x, x < 256 → goodP (digB 10 x) = true := fun x hx => by rw [dig3_dig x (by omega)]; exact (dig3_good ⟨x, hx⟩).1
    unfold fourR
    rw [hs]
    dsimp only
    rw [if_pos (by rw [g _ b0, g _ b1, g _ b2, g _ b3]; rfl)]
end Go.Proofs.YtklgahppjdgkmaaDoor
