/- Shorter, awake. -/
import Derived.Test.YtamnamnojbdfmaaSegsA
import Derived.Test.YtamnamnojbdfmaaClone
import Derived.Test.YtamnamnojbdfmaaLaw0S
import Derived.Test.YtamnamnojbdfmaaLow
set_option linter.unusedVariables false
set_option linter.unusedSimpArgs false
namespace Go.Proofs.Ytamnamnojbdfmaa
open Go.RowKit

def shortL (s : List UInt8) (ls : List (List UInt8)) : List (List UInt8) :=
  if ls.length = 0 ∨ (s = [102, 105, 108, 101] ∧ ls.length = 1 ∧ fixedB (ls.getD 0 []) = true) then ls else ls.take (ls.length - 1)
theorem str_eq_true {a b : List UInt8} (h : a = b) : (a == b) = true := by rw [h]; simp
theorem str_eq_false {a b : List UInt8} (h : ¬ a = b) : (a == b) = false := by rw [beq_eq_false_iff_ne]; exact h

set_option maxHeartbeats 2000000 in
theorem Shorter_any (s : List UInt8) (v : Value) (ls : List (List UInt8)) (w : World) (hv : IsStr w v ls) (hm : ls.length ≤ 1000000) (hms : ∀ s ∈ ls, s.length ≤ 1000000) :
    Calls Try.prog 20 #[.string ⟨s.toArray⟩, v] w fun e w' => ∃ v', e = .returned v' ∧ Own w' w.heap.size 9 v' ((shortL s ls).map strV) ∧ Below w.heap.size w w' := by
  have hv0 := hv
  obtain ⟨a, cap, rfl, hc1, hc2, hc0, hs⟩ := hv
  by_cases h0 : ls.length = 0
  · have hl : ls = [] := List.eq_nil_of_length_eq_zero h0
    subst hl
    have HV := Lib.hid hv0
    have HS : Hid (shortL s [] = []) := Lib.hid (by unfold shortL; rw [if_pos (.inl rfl)])
    clear hs hv0 hc0 h0
    go_enter Try.func20, Try.ntmps20
    go_wp2_with fail
    refine (clone_any _ [] _ HV.out (by decide)).mono ?_
    rintro e w1 ⟨v1, rfl, hown1, hb1⟩
    go_wp2
    go_ret
    exact ⟨_, rfl, by rw [HS.out]; exact hown1, hb1⟩
  have HV := Lib.hid hv0
  have HC : Hid (0 < ls.length → ∃ b off, a = some ⟨b, off, none⟩ ∧ Cells w b off ls.length (strAt ls)) := Lib.hid hs
  unfold maxLen at hc2
  clear hs hv0 hc0
  have e0 : ((ls.length : Int) == 0) = false := by rw [beq_eq_false_iff_ne]; omega
  obtain ⟨b, off, rfl, hc⟩ := HC.out (by omega)
  obtain ⟨L, hL⟩ : ∃ L, ls.take (ls.length - 1) = L := ⟨_, rfl⟩
  have HI : Hid (IsStr w (.slice (some ⟨b, off, none⟩) (ls.length - 1) cap) L) := Lib.hid (by rw [← hL]; exact IsStr.takeAt hc _ (by omega) hc1 (by unfold maxLen; omega))
  have hLl : L.length ≤ 1000000 := by rw [← hL]; simp; omega
  have HL := Lib.hid hL
  clear hL
  have hlt1 : ((ls.length : Int) - 1) ≤ (cap : Int) := by omega
  have hlt0 : (0 : Int) ≤ (ls.length : Int) - 1 := by omega
  have htn : ((ls.length : Int) - 1).toNat = ls.length - 1 := by omega
  by_cases hf : s = [102, 105, 108, 101]
  · have ef := str_eq_true hf
    by_cases h1 : ls.length = 1
    · have e1 : ((ls.length : Int) == 1) = true := by rw [beq_iff_eq]; omega
      have hcell : w.cell? ⟨b, off, none⟩ = some (.string ⟨(ls.getD 0 []).toArray⟩) := by simpa [strAt_eq] using hc.at 0 (by omega)
      have hp : (0 : Int) < (ls.length : Int) := by omega
      have hm0 : (ls.getD 0 []).length ≤ 1000000 := hms _ (by simp [List.getD, show 0 < ls.length by omega])
      cases hfx : fixedB (ls.getD 0 []) with
      | true =>
        have HS : Hid (shortL s ls = ls) := Lib.hid (by unfold shortL; rw [if_pos (.inr ⟨hf, h1, hfx⟩)])
        have HF := Lib.hid hfx
        clear hfx hf h1 hc htn
        generalize ls.getD 0 [] = p at *
        go_enter Try.func20, Try.ntmps20
        go_wp2_with fail
        refine (Fixed_any p _ hm0).mono ?_
        rintro e w' ⟨rfl, rfl⟩
        rw [HF.out]
        go_wp2_with fail
        refine (clone_any _ ls _ HV.out hm).mono ?_
        rintro e w1 ⟨v1, rfl, hown1, hb1⟩
        go_wp2
        go_ret
        exact ⟨_, rfl, by rw [HS.out]; exact hown1, hb1⟩
      | false =>
        have HS : Hid (shortL s ls = L) := Lib.hid (by rw [← HL.out]; unfold shortL; rw [if_neg (by rintro (h | ⟨_, _, h⟩); exact h0 h; rw [hfx] at h; cases h)])
        have HF := Lib.hid hfx
        clear hfx hf h1 hc
        generalize ls.getD 0 [] = p at *
        go_enter Try.func20, Try.ntmps20
        go_wp2_with fail
        refine (Fixed_any p _ hm0).mono ?_
        rintro e w' ⟨rfl, rfl⟩
        rw [HF.out]
        go_wp2_with fail
        refine (clone_any _ L _ HI.out hLl).mono ?_
        rintro e w1 ⟨v1, rfl, hown1, hb1⟩
        go_wp2
        go_ret
        exact ⟨_, rfl, by rw [HS.out]; exact hown1, hb1⟩
    · have e1 : ((ls.length : Int) == 1) = false := by rw [beq_eq_false_iff_ne]; omega
      have HS : Hid (shortL s ls = L) := Lib.hid (by rw [← HL.out]; unfold shortL; rw [if_neg (by rintro (h | ⟨_, h, _⟩); exact h0 h; exact h1 h)])
      clear h1 hf hc
      go_enter Try.func20, Try.ntmps20
      go_wp2_with fail
      refine (clone_any _ L _ HI.out hLl).mono ?_
      rintro e w1 ⟨v1, rfl, hown1, hb1⟩
      go_wp2
      go_ret
      exact ⟨_, rfl, by rw [HS.out]; exact hown1, hb1⟩
  · have ef := str_eq_false hf
    have HS : Hid (shortL s ls = L) := Lib.hid (by rw [← HL.out]; unfold shortL; rw [if_neg (by rintro (h | ⟨h, _, _⟩); exact h0 h; exact hf h)])
    clear hf hc
    go_enter Try.func20, Try.ntmps20
    go_wp2_with fail
    refine (clone_any _ L _ HI.out hLl).mono ?_
    rintro e w1 ⟨v1, rfl, hown1, hb1⟩
    go_wp2
    go_ret
    exact ⟨_, rfl, by rw [HS.out]; exact hown1, hb1⟩

set_option maxHeartbeats 2000000 in
theorem rShorter_any (s : List UInt8) (v : Value) (ls : List (List UInt8)) (w : World) (hv : IsStr w v ls) (hm : ls.length ≤ 1000000) (hms : ∀ s ∈ ls, s.length ≤ 1000000) :
    Calls Try.prog 21 #[.string ⟨s.toArray⟩, v] w fun e w' => ∃ v', e = .returned v' ∧ Own w' w.heap.size 9 v' ((shortL s ls).map strV) ∧ Below w.heap.size w w' := by
  have hv0 := hv
  obtain ⟨a, cap, rfl, hc1, hc2, hc0, hs⟩ := hv
  by_cases h0 : ls.length = 0
  · have hl : ls = [] := List.eq_nil_of_length_eq_zero h0
    subst hl
    have HV := Lib.hid hv0
    have HS : Hid (shortL s [] = []) := Lib.hid (by unfold shortL; rw [if_pos (.inl rfl)])
    clear hs hv0 hc0 h0
    go_enter Try.func21, Try.ntmps21
    go_wp2
    go_ret
    exact ⟨_, rfl, by rw [HS.out]; exact Own.nil _ _ _, Below.refl _ _⟩
  have HV := Lib.hid hv0
  have HC : Hid (0 < ls.length → ∃ b off, a = some ⟨b, off, none⟩ ∧ Cells w b off ls.length (strAt ls)) := Lib.hid hs
  unfold maxLen at hc2
  clear hs hv0 hc0
  have e0 : ((ls.length : Int) == 0) = false := by rw [beq_eq_false_iff_ne]; omega
  obtain ⟨b, off, rfl, hc⟩ := HC.out (by omega)
  obtain ⟨L, hL⟩ : ∃ L, ls.take (ls.length - 1) = L := ⟨_, rfl⟩
  have HI : Hid (IsStr w (.slice (some ⟨b, off, none⟩) (ls.length - 1) cap) L) := Lib.hid (by rw [← hL]; exact IsStr.takeAt hc _ (by omega) hc1 (by unfold maxLen; omega))
  have hLl : L.length ≤ 1000000 := by rw [← hL]; simp; omega
  have HL := Lib.hid hL
  clear hL
  have hlt1 : ((ls.length : Int) - 1) ≤ (cap : Int) := by omega
  have hlt0 : (0 : Int) ≤ (ls.length : Int) - 1 := by omega
  have htn : ((ls.length : Int) - 1).toNat = ls.length - 1 := by omega
  by_cases hf : s = [102, 105, 108, 101]
  · have ef := str_eq_true hf
    by_cases h1 : ls.length = 1
    · have e1 : ((ls.length : Int) == 1) = true := by rw [beq_iff_eq]; omega
      have hcell : w.cell? ⟨b, off, none⟩ = some (.string ⟨(ls.getD 0 []).toArray⟩) := by simpa [strAt_eq] using hc.at 0 (by omega)
      have hp : (0 : Int) < (ls.length : Int) := by omega
      have hm0 : (ls.getD 0 []).length ≤ 1000000 := hms _ (by simp [List.getD, show 0 < ls.length by omega])
      cases hfx : fixedB (ls.getD 0 []) with
      | true =>
        have HS : Hid (shortL s ls = ls) := Lib.hid (by unfold shortL; rw [if_pos (.inr ⟨hf, h1, hfx⟩)])
        have HF := Lib.hid hfx
        clear hfx hf h1 hc htn
        generalize ls.getD 0 [] = p at *
        go_enter Try.func21, Try.ntmps21
        go_wp2_with fail
        refine (rFixed_any p _ hm0).mono ?_
        rintro e w' ⟨rfl, rfl⟩
        rw [HF.out]
        go_wp2_with (at_builtin; refine wpList_appS _ rfl _ _ 24 rfl w.heap.size 9 (.string .empty) 16 ok16 _ _ rfl (Own.nil _ _ _) _ _ _ rfl HV.out ?c1 ?c2 ?c3 ?c4 ?_)
        case c1 => intro i hi; rfl
        case c2 => first | omega | (simp; omega)
        case c3 => first | omega | (simp; omega)
        case c4 => exact Nat.le_refl _
        intro v2 w2 hown2 hgr2
        rw [strAt_range] at hown2
        try rw [List.nil_append] at hown2
        go_wp2
        go_ret
        exact ⟨_, rfl, by rw [HS.out]; exact hown2, (Below.refl _ _).grown hgr2 (Nat.le_refl _) (fun k hk => by simp [Value.ownBlock] at hk)⟩
      | false =>
        have HS : Hid (shortL s ls = L) := Lib.hid (by rw [← HL.out]; unfold shortL; rw [if_neg (by rintro (h | ⟨_, _, h⟩); exact h0 h; rw [hfx] at h; cases h)])
        have HF := Lib.hid hfx
        clear hfx hf h1 hc
        generalize ls.getD 0 [] = p at *
        go_enter Try.func21, Try.ntmps21
        go_wp2_with fail
        refine (rFixed_any p _ hm0).mono ?_
        rintro e w' ⟨rfl, rfl⟩
        rw [HF.out]
        go_wp2_with (at_builtin; refine wpList_appS _ rfl _ _ 24 rfl w.heap.size 9 (.string .empty) 16 ok16 _ _ rfl (Own.nil _ _ _) _ _ _ rfl HI.out ?c1 ?c2 ?c3 ?c4 ?_)
        case c1 => intro i hi; rfl
        case c2 => first | omega | (simp; omega)
        case c3 => first | omega | (simp; omega)
        case c4 => exact Nat.le_refl _
        intro v2 w2 hown2 hgr2
        rw [strAt_range] at hown2
        try rw [List.nil_append] at hown2
        go_wp2
        go_ret
        exact ⟨_, rfl, by rw [HS.out]; exact hown2, (Below.refl _ _).grown hgr2 (Nat.le_refl _) (fun k hk => by simp [Value.ownBlock] at hk)⟩
    · have e1 : ((ls.length : Int) == 1) = false := by rw [beq_eq_false_iff_ne]; omega
      have HS : Hid (shortL s ls = L) := Lib.hid (by rw [← HL.out]; unfold shortL; rw [if_neg (by rintro (h | ⟨_, h, _⟩); exact h0 h; exact h1 h)])
      clear h1 hf hc
      go_enter Try.func21, Try.ntmps21
      go_wp2_with (at_builtin; refine wpList_appS _ rfl _ _ 24 rfl w.heap.size 9 (.string .empty) 16 ok16 _ _ rfl (Own.nil _ _ _) _ _ _ rfl HI.out ?c1 ?c2 ?c3 ?c4 ?_)
      case c1 => intro i hi; rfl
      case c2 => first | omega | (simp; omega)
      case c3 => first | omega | (simp; omega)
      case c4 => exact Nat.le_refl _
      intro v2 w2 hown2 hgr2
      rw [strAt_range] at hown2
      try rw [List.nil_append] at hown2
      go_wp2
      go_ret
      exact ⟨_, rfl, by rw [HS.out]; exact hown2, (Below.refl _ _).grown hgr2 (Nat.le_refl _) (fun k hk => by simp [Value.ownBlock] at hk)⟩
  · have ef := str_eq_false hf
    have HS : Hid (shortL s ls = L) := Lib.hid (by rw [← HL.out]; unfold shortL; rw [if_neg (by rintro (h | ⟨h, _, _⟩); exact h0 h; exact hf h)])
    clear hf hc
    go_enter Try.func21, Try.ntmps21
    go_wp2_with (at_builtin; refine wpList_appS _ rfl _ _ 24 rfl w.heap.size 9 (.string .empty) 16 ok16 _ _ rfl (Own.nil _ _ _) _ _ _ rfl HI.out ?c1 ?c2 ?c3 ?c4 ?_)
    case c1 => intro i hi; rfl
    case c2 => first | omega | (simp; omega)
    case c3 => first | omega | (simp; omega)
    case c4 => exact Nat.le_refl _
    intro v2 w2 hown2 hgr2
    rw [strAt_range] at hown2
    try rw [List.nil_append] at hown2
    go_wp2
    go_ret
    exact ⟨_, rfl, by rw [HS.out]; exact hown2, (Below.refl _ _).grown hgr2 (Nat.le_refl _) (fun k hk => by simp [Value.ownBlock] at hk)⟩
end Go.Proofs.Ytamnamnojbdfmaa
