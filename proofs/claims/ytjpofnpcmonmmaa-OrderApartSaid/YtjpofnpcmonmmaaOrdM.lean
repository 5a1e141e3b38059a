/- The plain mathematics of order. No program. -/
import Derived.Test.YtjpofnpcmonmmaaUtfM
import Derived.Test.YtjpofnpcmonmmaaUnitsM
set_option linter.unusedVariables false
set_option linter.unusedSimpArgs false
namespace Go.Proofs.Ytjpofnpcmonmmaa

def cmpI (x y : Int) : Int := if x < y then -1 else if y < x then 1 else 0
/-- Number by number. -/
def cmpL : List Int → List Int → Int
  | [], [] => 0
  | [], _ :: _ => -1
  | _ :: _, [] => 1
  | x :: s, y :: t => if x = y then cmpL s t else cmpI x y
/-- The first two that are unlike; or which list goes on. -/
def dif : List Int → List Int → Int × Int × Int
  | [], [] => (0, 0, 0)
  | [], _ :: _ => (0, 0, -1)
  | _ :: _, [] => (0, 0, 1)
  | x :: s, y :: t => if x = y then dif s t else (x, y, 0)
def leadN (r : Int) : Int := if r < 65536 then r else 55296 + (r - 65536) / 1024
theorem leadN_bd (r : Int) (h0 : 0 ≤ r) (h1 : r ≤ 1114111) : 0 ≤ leadN r ∧ leadN r ≤ 65535 := by unfold leadN; split <;> omega
def ptsD (d : Int × Int × Int) : Int := if d.1 = d.2.1 then d.2.2 else cmpI d.1 d.2.1
def cmpD (d : Int × Int × Int) : Int := if d.1 = d.2.1 then d.2.2 else if cmpI (leadN d.1) (leadN d.2.1) ≠ 0 then cmpI (leadN d.1) (leadN d.2.1) else cmpI d.1 d.2.1
theorem cmpI_self (x : Int) : cmpI x x = 0 := by unfold cmpI; rw [if_neg (by omega), if_neg (by omega)]
theorem cmpI_zero {x y : Int} : cmpI x y = 0 ↔ x = y := by unfold cmpI; (repeat' split) <;> omega
theorem cmpI_swap (x y : Int) : cmpI x y = -cmpI y x := by unfold cmpI; (repeat' split) <;> omega
theorem cmpI_bd (x y : Int) : -1 ≤ cmpI x y ∧ cmpI x y ≤ 1 := by unfold cmpI; (repeat' split) <;> omega
theorem dif_bd : ∀ a b : List Int, (∀ r ∈ a, 0 ≤ r ∧ r ≤ 1114111) → (∀ r ∈ b, 0 ≤ r ∧ r ≤ 1114111) → (0 ≤ (dif a b).1 ∧ (dif a b).1 ≤ 1114111) ∧ (0 ≤ (dif a b).2.1 ∧ (dif a b).2.1 ≤ 1114111) ∧ -1 ≤ (dif a b).2.2 ∧ (dif a b).2.2 ≤ 1
  | [], [], _, _ => by simp [dif]
  | [], _ :: _, _, _ => by simp [dif]
  | _ :: _, [], _, _ => by simp [dif]
  | x :: s, y :: t, h, k => by
    unfold dif
    split
    · exact dif_bd s t (fun r hr => h r (List.mem_cons_of_mem _ hr)) (fun r hr => k r (List.mem_cons_of_mem _ hr))
    · exact ⟨h x List.mem_cons_self, k y List.mem_cons_self, by show (-1 : Int) ≤ 0; omega, by show (0 : Int) ≤ 1; omega⟩
theorem pts_eq : ∀ a b : List Int, ptsD (dif a b) = cmpL a b
  | [], [] => by simp [dif, ptsD, cmpL]
  | [], _ :: _ => by simp [dif, ptsD, cmpL]
  | _ :: _, [] => by simp [dif, ptsD, cmpL]
  | x :: s, y :: t => by
    unfold dif cmpL
    split
    · exact pts_eq s t
    · rename_i h; unfold ptsD; rw [if_neg h]
theorem nl_r {l : List UInt8} : ∀ (k i : Nat) (r lo hi : Int), (nl l k i r lo hi).2.2 = false → (nl l k i r lo hi).1 = 65533
  | 0, i, r, lo, hi, h => by simp [nl] at h
  | k + 1, i, r, lo, hi, h => by
    unfold nl at h ⊢
    split
    · rename_i c; rw [if_pos c] at h; exact nl_r k _ _ _ _ h
    · rfl
theorem next_none {l : List UInt8} (hl : 0 < l.length) (h : (nextL l).2.2 = false) : (nextL l).1 = 65533 := by
  unfold nextL at h ⊢
  rw [if_neg (by omega)] at h ⊢
  split
  · rename_i c; rw [if_pos c] at h; simp at h
  · rename_i c
    rw [if_neg c] at h
    split
    · rfl
    · rename_i c2; rw [if_neg c2] at h; exact nl_r _ _ _ _ _ h
theorem decL_ok : ∀ (n : Nat) (l : List UInt8), l.length ≤ n → ∀ r ∈ decL l, okR r := by
  intro n
  induction n with
  | zero => intro l h r hr; rw [decL_nil (by omega)] at hr; simp at hr
  | succ n ih =>
    intro l h r hr
    by_cases h0 : l.length = 0
    · rw [decL_nil h0] at hr; simp at hr
    · have hn := nextL_n l (by omega)
      rw [decL_cons (by omega)] at hr
      rcases List.mem_cons.1 hr with rfl | hr
      · obtain ⟨r, n, b, e⟩ : ∃ r n b, nextL l = (r, n, b) := ⟨_, _, _, rfl⟩
        cases b with
        | false => have := next_none (l := l) (by omega) (by rw [e]); rw [this]; unfold okR; omega
        | true => rw [e]; exact (next_valid e).1
      · exact ih _ (by simp; omega) r hr
theorem unitsL_cons (r : Int) (t : List Int) : unitsL (r :: t) = unitsR r ++ unitsL t := rfl
theorem cmpL_same (x : Int) (s t : List Int) : cmpL (x :: s) (x :: t) = cmpL s t := by
  show (if x = x then cmpL s t else cmpI x x) = _
  rw [if_pos rfl]
theorem cmpL_app (p s t : List Int) : cmpL (p ++ s) (p ++ t) = cmpL s t := by
  induction p with
  | nil => rfl
  | cons x p ih => rw [List.cons_append, List.cons_append, cmpL_same]; exact ih
theorem cmpL_cons {x y : Int} (h : x ≠ y) (s t : List Int) : cmpL (x :: s) (y :: t) = cmpI x y := by unfold cmpL; rw [if_neg h]
theorem cmpL_nil_r (x : Int) (s : List Int) : cmpL (x :: s) [] = 1 := by unfold cmpL; rfl
theorem cmpL_nil_l (x : Int) (s : List Int) : cmpL [] (x :: s) = -1 := by unfold cmpL; rfl
theorem unitsR_ne (r : Int) : ∃ x t, unitsR r = x :: t := by unfold unitsR; split <;> exact ⟨_, _, rfl⟩
theorem leadN_lo {r : Int} (h : r < 65536) : leadN r = r := by unfold leadN; rw [if_pos h]
theorem leadN_hi {r : Int} (h : 65536 ≤ r) : leadN r = 55296 + (r - 65536) / 1024 := by unfold leadN; rw [if_neg (by omega)]
theorem unitsR_lo {r : Int} (h : r < 65536) : unitsR r = [r] := by unfold unitsR; rw [if_neg (by omega)]
theorem unitsR_hi {r : Int} (h : 65536 ≤ r) : unitsR r = [55296 + (r - 65536) / 1024, 56320 + (r - 65536) % 1024] := by unfold unitsR; rw [if_pos (by omega)]
theorem cmpI_ne {x y : Int} (h : x ≠ y) : cmpI x y ≠ 0 := fun e => h (cmpI_zero.1 e)
theorem cmp_head {x y : Int} (hx : okR x) (hy : okR y) (h : x ≠ y) (s t : List Int) : cmpD (x, y, 0) = cmpL (unitsR x ++ s) (unitsR y ++ t) := by
  unfold okR at hx hy
  show (if x = y then (0 : Int) else if cmpI (leadN x) (leadN y) ≠ 0 then cmpI (leadN x) (leadN y) else cmpI x y) = _
  rw [if_neg h]
  rcases Int.lt_or_le x 65536 with c1 | c1 <;> rcases Int.lt_or_le y 65536 with c2 | c2
  · rw [leadN_lo c1, leadN_lo c2, unitsR_lo c1, unitsR_lo c2, if_pos (cmpI_ne h)]
    exact (cmpL_cons h _ _).symm
  · have h1 : x ≠ 55296 + (y - 65536) / 1024 := by omega
    rw [leadN_lo c1, leadN_hi c2, unitsR_lo c1, unitsR_hi c2, if_pos (cmpI_ne h1)]
    exact (cmpL_cons h1 _ _).symm
  · have h1 : 55296 + (x - 65536) / 1024 ≠ y := by omega
    rw [leadN_hi c1, leadN_lo c2, unitsR_hi c1, unitsR_lo c2, if_pos (cmpI_ne h1)]
    exact (cmpL_cons h1 _ _).symm
  · rw [leadN_hi c1, leadN_hi c2, unitsR_hi c1, unitsR_hi c2]
    by_cases h1 : 55296 + (x - 65536) / 1024 = 55296 + (y - 65536) / 1024
    · have h2 : 56320 + (x - 65536) % 1024 ≠ 56320 + (y - 65536) % 1024 := by omega
      have h3 : cmpI (56320 + (x - 65536) % 1024) (56320 + (y - 65536) % 1024) = cmpI x y := by unfold cmpI; (repeat' split) <;> omega
      rw [← h1, if_neg (by rw [cmpI_self]; decide)]
      exact (show cmpI x y = _ from by
        rw [← h3]
        exact ((cmpL_same _ _ _).trans (cmpL_cons h2 _ _)).symm)
    · rw [if_pos (cmpI_ne h1)]
      exact (cmpL_cons h1 _ _).symm
theorem cmp_eq : ∀ a b : List Int, (∀ r ∈ a, okR r) → (∀ r ∈ b, okR r) → cmpD (dif a b) = cmpL (unitsL a) (unitsL b)
  | [], [], _, _ => by simp [dif, cmpD, cmpL, unitsL]
  | [], y :: t, _, _ => by
    rw [unitsL_cons]
    obtain ⟨x, u, e⟩ := unitsR_ne y
    rw [e]
    show cmpD (0, 0, -1) = cmpL [] (x :: (u ++ unitsL t))
    rw [cmpL_nil_l]; rfl
  | x :: s, [], _, _ => by
    rw [unitsL_cons]
    obtain ⟨y, u, e⟩ := unitsR_ne x
    rw [e]
    show cmpD (0, 0, 1) = cmpL (y :: (u ++ unitsL s)) []
    rw [cmpL_nil_r]; rfl
  | x :: s, y :: t, h, k => by
    unfold dif
    split
    · rename_i e; subst e
      rw [unitsL_cons, unitsL_cons, cmpL_app]
      exact cmp_eq s t (fun r hr => h r (List.mem_cons_of_mem _ hr)) (fun r hr => k r (List.mem_cons_of_mem _ hr))
    · rename_i e
      exact cmp_head (h x List.mem_cons_self) (k y List.mem_cons_self) e _ _
/-- What stands between two texts. -/
def difS (a b : List UInt8) : Int × Int × Int := dif (decL a) (decL b)
def cmpS (a b : List UInt8) : Int := cmpL (unitsL (decL a)) (unitsL (decL b))
def ptsS (a b : List UInt8) : Int := cmpL (decL a) (decL b)
theorem ptsS_eq (a b : List UInt8) : ptsD (difS a b) = ptsS a b := pts_eq _ _
theorem cmpS_eq (a b : List UInt8) : cmpD (difS a b) = cmpS a b := cmp_eq _ _ (decL_ok _ a (Nat.le_refl _)) (decL_ok _ b (Nat.le_refl _))
theorem difS_bd (a b : List UInt8) : (0 ≤ (difS a b).1 ∧ (difS a b).1 ≤ 1114111) ∧ (0 ≤ (difS a b).2.1 ∧ (difS a b).2.1 ≤ 1114111) ∧ -1 ≤ (difS a b).2.2 ∧ (difS a b).2.2 ≤ 1 := dif_bd _ _ (decL_r2 _ a (Nat.le_refl _)) (decL_r2 _ b (Nat.le_refl _))
theorem cmpL_bd : ∀ a b : List Int, -1 ≤ cmpL a b ∧ cmpL a b ≤ 1
  | [], [] => by simp [cmpL]
  | [], _ :: _ => by simp [cmpL]
  | _ :: _, [] => by simp [cmpL]
  | x :: s, y :: t => by unfold cmpL; split; exact cmpL_bd s t; exact cmpI_bd _ _
theorem cmpL_swap : ∀ a b : List Int, cmpL a b = -cmpL b a
  | [], [] => by simp [cmpL]
  | [], _ :: _ => by simp [cmpL]
  | _ :: _, [] => by simp [cmpL]
  | x :: s, y :: t => by
    unfold cmpL
    by_cases h : x = y
    · rw [if_pos h, if_pos h.symm]; exact cmpL_swap s t
    · rw [if_neg h, if_neg (Ne.symm h)]; exact cmpI_swap _ _
theorem cmpL_self (a : List Int) : cmpL a a = 0 := by have := cmpL_swap a a; omega
theorem cmpL_zero : ∀ {a b : List Int}, cmpL a b = 0 → a = b
  | [], [], _ => rfl
  | [], _ :: _, h => by simp [cmpL] at h
  | _ :: _, [], h => by simp [cmpL] at h
  | x :: s, y :: t, h => by
    unfold cmpL at h
    by_cases e : x = y
    · rw [if_pos e] at h; rw [e, cmpL_zero h]
    · rw [if_neg e, cmpI_zero] at h; exact absurd h e
theorem cmpL_trans : ∀ a b c : List Int, cmpL a b ≤ 0 → cmpL b c ≤ 0 → cmpL a c ≤ 0
  | [], _, [], _, _ => by simp [cmpL]
  | [], _, _ :: _, _, _ => by simp [cmpL]
  | _ :: _, [], _, h, _ => by simp [cmpL] at h
  | _ :: _, _ :: _, [], _, h => by simp [cmpL] at h
  | x :: s, y :: t, z :: u, h, k => by
    unfold cmpL at h k ⊢
    by_cases e : x = y
    · subst e
      rw [if_pos rfl] at h
      by_cases f : x = z
      · rw [if_pos f] at k ⊢; exact cmpL_trans s t u h k
      · rw [if_neg f] at k ⊢; exact k
    · rw [if_neg e] at h
      have h1 : x < y := by unfold cmpI at h; (repeat' split at h) <;> omega
      by_cases f : y = z
      · subst f; rw [if_neg e]; exact h
      · rw [if_neg f] at k
        have h2 : y < z := by unfold cmpI at k; (repeat' split at k) <;> omega
        rw [if_neg (by omega)]
        unfold cmpI
        rw [if_pos (by omega)]; omega
end Go.Proofs.Ytjpofnpcmonmmaa
