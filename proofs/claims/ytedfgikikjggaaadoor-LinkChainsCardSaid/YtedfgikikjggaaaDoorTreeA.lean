/- Contracts of strings.CutPrefix by one sign, paths.Part. -/
import Derived.Test.YtedfgikikjggaaaDoorStrs
import Derived.Test.YtedfgikikjggaaaDoorMa1
import Derived.Test.YtedfgikikjggaaaDoorShelf
import Derived.Test.YtedfgikikjggaaaDoorQuiet
import Derived.Lib.LastIndexByte
import Derived.IntWalk
set_option linter.unusedVariables false
set_option linter.unusedSimpArgs false
namespace Go.Proofs.YtedfgikikjggaaaDoor
open Go.RowKit

theorem cons_of_head {p : Bts} {c : UInt8} (h : p.head? = some c) : ∃ r, p = c :: r := by
  cases p with
  | nil => cases h
  | cons b l => injection h with h; subst h; exact ⟨l, rfl⟩
set_option maxHeartbeats 1000000 in
theorem hasPre_any (p : Bts) (c : UInt8) (w : World) (hm : p.length ≤ 1000000) :
    Calls Tryd.prog 45 #[.string ⟨p.toArray⟩, .string ⟨#[c]⟩] w fun e w' => e = .returned (.bool (p.head? == some c)) ∧ w = w' := by
  cases p with
  | nil =>
    go_enter Tryd.func45, Tryd.ntmps45
    go_wp2_with fail
    go_ret
    exact ⟨ret_b rfl, rfl⟩
  | cons b l =>
    have hl : (1 : Int) ≤ ((l.length : Int) + 1) := by omega
    by_cases hb : b = c
    · subst hb
      go_enter Tryd.func45, Tryd.ntmps45
      go_wp2_with fail
      go_ret
      exact ⟨ret_b (by simp), rfl⟩
    · have hb2 : (b == c) = false := by rw [beq_eq_false_iff_ne]; exact hb
      go_enter Tryd.func45, Tryd.ntmps45
      go_wp2_with fail
      go_ret
      exact ⟨ret_b (by simp [hb]), rfl⟩
theorem tupSB {a a' : Bts} {c c' : Bool} (h1 : a = a') (h3 : c = c') : Ending.returned (.tuple #[.string ⟨a.toArray⟩, .bool c]) = .returned (.tuple #[.string ⟨a'.toArray⟩, .bool c']) := by rw [h1, h3]
theorem tupSS {a a' b b' : Bts} (h1 : a = a') (h3 : b = b') : Ending.returned (.tuple #[.string ⟨a.toArray⟩, .string ⟨b.toArray⟩]) = .returned (.tuple #[.string ⟨a'.toArray⟩, .string ⟨b'.toArray⟩]) := by rw [h1, h3]
set_option maxHeartbeats 1000000 in
theorem lcutPre_any (p : Bts) (c : UInt8) (w : World) (hm : p.length ≤ 1000000) :
    Calls Tryd.prog 75 #[.string ⟨p.toArray⟩, .string ⟨#[c]⟩] w fun e w' => e = .returned (.tuple #[.string ⟨(if p.head? == some c then p.drop 1 else p).toArray⟩, .bool (p.head? == some c)]) ∧ w = w' := by
  have HP := Lib.hid (hasPre_any p c w hm)
  cases hh : (p.head? == some c) with
  | false =>
    rw [hh] at HP
    go_enter Tryd.func75, Tryd.ntmps75
    go_wp2_with fail
    refine HP.out.mono ?_
    rintro e w' ⟨rfl, rfl⟩
    go_wp2_with fail
    go_ret2
    exact ⟨tupSB (by simp) rfl, rfl⟩
  | true =>
    rw [hh] at HP
    obtain ⟨r, rfl⟩ := cons_of_head (by simpa using hh)
    have hl : (1 : Int) ≤ ((r.length : Int) + 1) := by omega
    go_enter Tryd.func75, Tryd.ntmps75
    go_wp2_with fail
    refine HP.out.mono ?_
    rintro e w' ⟨rfl, rfl⟩
    go_wp2_with fail
    go_ret2
    exact ⟨tupSB (by simp) rfl, rfl⟩
set_option maxHeartbeats 1000000 in
theorem cutPre_any (p : Bts) (c : UInt8) (w : World) (hm : p.length ≤ 1000000) :
    Calls Tryd.prog 54 #[.string ⟨p.toArray⟩, .string ⟨#[c]⟩] w fun e w' => e = .returned (.tuple #[.string ⟨(if p.head? == some c then p.drop 1 else p).toArray⟩, .bool (p.head? == some c)]) ∧ w = w' := by
  have HP := Lib.hid (lcutPre_any p c w hm)
  generalize (if p.head? == some c then p.drop 1 else p) = q at *
  generalize (p.head? == some c) = b at *
  go_enter Tryd.func54, Tryd.ntmps54
  go_wp2_with fail
  refine HP.out.mono ?_
  rintro e w' ⟨rfl, rfl⟩
  go_wp2
  go_ret2
  exact ⟨tupSB rfl rfl, rfl⟩
theorem lastSl_append (l : Bts) (b : UInt8) : lastSl (l ++ [b]) = if b = 47 then (l.length : Int) else lastSl l := by
  induction l with
  | nil => show lastSl [b] = _; unfold lastSl lastSl; simp
  | cons x l ih =>
    rw [List.cons_append]
    unfold lastSl
    rw [ih, List.length_cons]
    have := (lastSl_bd l).1
    by_cases hb : b = 47
    · rw [if_pos hb, if_pos hb, if_pos (by omega)]; omega
    · rw [if_neg hb, if_neg hb]
theorem lastIdx_take (p : Bts) : ∀ k : Nat, k ≤ p.length → Lib.lastIdx ⟨p.toArray⟩ 47 k = lastSl (p.take k) := by
  intro k
  induction k with
  | zero => intro _; rfl
  | succ k ih =>
    intro hk
    have hlt : k < p.length := by omega
    rw [List.take_add_one, List.getElem?_eq_getElem hlt]
    show _ = lastSl (p.take k ++ [p[k]])
    rw [lastSl_append]
    have hg : (p.toArray)[k]! = p[k] := by simp [hlt]
    by_cases hb : p[k] = 47
    · rw [if_pos hb, Lib.lastIdx_hit _ _ _ (by show (((p.toArray)[k]!).toNat : Int) = 47; rw [hg, hb]; rfl), List.length_take, Nat.min_eq_left (by omega)]
    · rw [if_neg hb, Lib.lastIdx_miss _ _ _ (by
        show (((p.toArray)[k]!).toNat : Int) ≠ 47
        rw [hg]; intro h; apply hb; apply UInt8.toNat_inj.1; show p[k].toNat = 47; omega), ih (by omega)]
theorem lastIdx_eq (p : Bts) : Lib.lastIndexByte ⟨p.toArray⟩ 47 = lastSl p := by
  unfold Lib.lastIndexByte
  rw [str_size, lastIdx_take p p.length (Nat.le_refl _), List.take_length]
set_option maxRecDepth 100000 in
set_option maxHeartbeats 1000000 in
theorem Part_any (p : Bts) (w : World) (hm : p.length ≤ 1000000) :
    Calls Tryd.prog 32 #[.string ⟨p.toArray⟩] w fun e w' => e = .returned (.tuple #[.string ⟨(partF p).toArray⟩, .string ⟨(partN p).toArray⟩]) ∧ ∃ n, w' = w.drewN n := by
  have HI : Hid (∀ w, Calls Tryd.prog 52 #[.string ⟨p.toArray⟩, .int .u8 47] w fun e w' => e = .returned (.int .i64 (lastSl p)) ∧ w = w') := Lib.hid (fun w => by
    rw [← lastIdx_eq]
    exact (Tryd.strings_LastIndexByte ⟨p.toArray⟩ 47 (by rw [str_size]; omega) w).mono (fun _ _ ⟨p, q⟩ => ⟨p, q.symm⟩))
  obtain ⟨b1, b2⟩ := lastSl_bd p
  have HF : Hid (partF p = p.take (max (lastSl p) (min 1 (p.length : Int))).toNat) := Lib.hid rfl
  have HN : Hid (partN p = p.drop (lastSl p + 1).toNat) := Lib.hid rfl
  generalize lastSl p = z at *
  obtain ⟨x, hx⟩ : ∃ x : Int, min 1 (p.length : Int) = x := ⟨_, rfl⟩
  obtain ⟨y, hy⟩ : ∃ y : Int, max z x = y := ⟨_, rfl⟩
  have mx : ∀ w ty, (Builtin.min_ #[3, 3] ty #[.int .i64 1, .int .i64 (p.length : Int)]).run Tryd.prog w = .ok (.int .i64 x) w := fun w ty => by
    rw [← hx]; go_simp; try (split <;> simp <;> omega)
  have my : ∀ w ty, (Builtin.max_ #[3, 3] ty #[.int .i64 z, .int .i64 x]).run Tryd.prog w = .ok (.int .i64 y) w := fun w ty => by
    rw [← hy]; go_simp; try (split <;> simp <;> omega)
  rw [hx, hy] at HF
  have y1 : 0 ≤ y := by omega
  have y2 : y ≤ p.length := by omega
  have z1 : 0 ≤ z + 1 := by omega
  have z2 : z + 1 ≤ p.length := by omega
  obtain ⟨yn, rfl⟩ := Int.eq_ofNat_of_zero_le y1
  obtain ⟨zn, hzn⟩ := Int.eq_ofNat_of_zero_le z1
  have hzw : IntKind.i64.wrap (z + 1) = z + 1 := IntWalk.i64_in _ (by omega)
  have hz3 : (z + 1).toNat ≤ p.length := by omega
  have hy3 : yn ≤ p.length := by omega
  clear hx hy
  go_enter Tryd.func32, Tryd.ntmps32
  go_wp2_with fail
  refine (HI.out _).mono ?_
  rintro e w' ⟨rfl, rfl⟩
  go_wp2_with fail
  go_region
  go_wp2_with fail
  go_ret2
  exact ⟨tupSS (by rw [HF.out]; simp) (by rw [HN.out, show (z + 1).toNat = zn by omega]), _, rfl⟩
end Go.Proofs.YtedfgikikjggaaaDoor
