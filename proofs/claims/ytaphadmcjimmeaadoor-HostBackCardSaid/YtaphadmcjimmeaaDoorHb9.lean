import Derived.Test.YtaphadmcjimmeaaDoorRows
import Derived.WalkKit
import Derived.WalkSpells
import Derived.WalkLawsBesides
import Derived.Lib.Hide
import Derived.Deep.QuietTactic
import Derived.BigQuiet
import Derived.WalkSmall
import Derived.Test.YtaphadmcjimmeaaDoorHb8
set_option linter.unusedVariables false
set_option linter.unusedSimpArgs false
namespace Go.Proofs.YtaphadmcjimmeaaDoor
open Go.RowKit
def u8V (b : UInt8) : Value := .int .u8 (b.toNat : Int)
theorem u8V_mk {n : Int} (h0 : 0 ≤ n) (h1 : n ≤ 255) : u8V (mkB n) = .int .u8 n := by unfold u8V; rw [mkB_val h0 h1]
def Cells (w : World) (b off n : Nat) (f : Nat → Value) : Prop := ∀ i, i < n → w.cell? ⟨b, off + i, none⟩ = some (f i)
theorem Cells.at {w : World} {b off n : Nat} {f : Nat → Value} (h : Cells w b off n f) (i : Nat) (hi : i < n) : w.cell? ⟨b, off + i, none⟩ = some (f i) := h i hi
theorem Cells.lt {w : World} {b off n : Nat} {f : Nat → Value} (h : Cells w b off n f) (hn : 0 < n) : b < w.heap.size :=
  World.block_lt_of_cell? w _ (h 0 hn)
def IsSl (w : World) (v : Value) (n : Nat) (f : Nat → Value) : Prop :=
  ∃ a cap, v = .slice a n cap ∧ n ≤ cap ∧ cap ≤ maxLen ∧ (a = none → cap = 0) ∧ (0 < n → ∃ b off, a = some ⟨b, off, none⟩ ∧ Cells w b off n f)
def u8At (l : List UInt8) (i : Nat) : Value := .int .u8 (byt l i)
def Is8 (w : World) (v : Value) (l : List UInt8) : Prop := IsSl w v l.length (u8At l)
def i32At (l : List Int) (i : Nat) : Value := .int .i32 (l.getD i 0)
def Is32 (w : World) (v : Value) (l : List Int) : Prop := IsSl w v l.length (i32At l)
theorem Cells.below {w w' : World} {B b off n : Nat} {f : Nat → Value} (h : Cells w b off n f) (hw : Below B w w') (hb : b < B) : Cells w' b off n f := by
  intro i hi
  rw [hw.cell (p := ⟨b, off + i, none⟩) hb]; exact h i hi
theorem Cells.drop {w : World} {b off n : Nat} {f : Nat → Value} (h : Cells w b off n f) (k m : Nat) (hm : k + m ≤ n) : Cells w b (off + k) m (fun i => f (k + i)) := by
  intro i hi
  have := h (k + i) (by omega)
  rwa [← Nat.add_assoc] at this
theorem IsSl.drew {w : World} {v : Value} {n k : Nat} {f : Nat → Value} (h : IsSl w v n f) : IsSl (w.drewN k) v n f := h
theorem Is8.drew {w : World} {v : Value} {l : List UInt8} (h : Is8 w v l) (k : Nat) : Is8 (w.drewN k) v l := h
theorem ext_trans {a b c : World} (h : Below a.heap.size a b) (k : Below b.heap.size b c) : Below a.heap.size a c := h.trans (k.mono h.size)
theorem below_dr {B : Nat} {a w : World} (h : RowKit.Below B a w) (n : Nat) : RowKit.Below B a (w.drewN n) := h.trans ⟨rfl, rfl, rfl, Nat.le_refl _, fun _ _ => rfl⟩
theorem ext_drew (w : World) (n : Nat) : Below w.heap.size w (w.drewN n) := below_dr (Below.refl _ _) n
theorem addr_add (g j : Nat) : Addr.add ⟨g, 0, none⟩ j = ⟨g, j, none⟩ := by unfold Addr.add; split <;> simp_all
theorem addr_add_off (g o j : Nat) : Addr.add ⟨g, o, none⟩ j = ⟨g, o + j, none⟩ := by unfold Addr.add; split <;> simp_all
theorem Is8.dropAt {w : World} {b off cap : Nat} {l : List UInt8} (h : Cells w b off l.length (u8At l)) (k : Nat) (hk : k < l.length) (hc : l.length ≤ cap) (hm : cap ≤ maxLen) :
    Is8 w (.slice (some ⟨b, off + k, none⟩) (l.length - k) (cap - k)) (l.drop k) := by
  refine ⟨_, _, by rw [List.length_drop], by simp; omega, by omega, (fun h => by cases h), fun _ => ⟨b, off + k, rfl, ?_⟩⟩
  have := h.drop k (l.drop k).length (by simp; omega)
  intro i hi
  rw [this i hi]
  simp [u8At, byt_drop]
theorem tup3 {a b c a' b' c' : Int} (h : (a, b, c) = (a', b', c')) : Ending.returned (.tuple #[.int .i64 a, .int .u8 b, .int .u8 c]) = Ending.returned (.tuple #[.int .i64 a', .int .u8 b', .int .u8 c']) := by
  cases h; rfl
set_option maxHeartbeats 400000 in
theorem shape_any (c : Int) (w : World) (h0 : 0 ≤ c) (h1 : c ≤ 255) :
    Calls Tryd.prog 74 #[.int .u8 c] w fun e w' => e = .returned (.tuple #[.int .i64 (shp c).1, .int .u8 (shp c).2.1, .int .u8 (shp c).2.2]) ∧ w = w' := by
  go_enter Tryd.func74, Tryd.ntmps74
  go_wp2
  all_goals
    go_ret3
    simp only [beq_iff_eq, beq_eq_false_iff_ne] at *
    refine ⟨tup3 ?_, by trivial⟩
    unfold shp
    (repeat' split) <;> first | rfl | (exfalso; omega)
def NextEnd (l : List UInt8) (e : Ending) : Prop := e = .returned (.tuple #[.int .i32 (nextL l).1, .int .i64 ((nextL l).2.1 : Nat), .bool (nextL l).2.2])
theorem nxV_eq {l : List UInt8} {r : Int} {n : Int} {m : Nat} {b : Bool} (h : nextL l = (r, m, b)) (hn : n = m) : NextEnd l (.returned (.tuple #[.int .i32 r, .int .i64 n, .bool b])) := by unfold NextEnd; rw [h, hn]
set_option maxHeartbeats 2000000 in
theorem next_any (v : Value) (l : List UInt8) (w : World) (hv : Is8 w v l) (hm : l.length ≤ 1000000) :
    Calls Tryd.prog 65 #[v] w fun e w' => e = .returned (.tuple #[.int .i32 (nextL l).1, .int .i64 ((nextL l).2.1 : Nat), .bool (nextL l).2.2]) ∧ ∃ n, w' = w.drewN n := by
  suffices hsuf : Calls Tryd.prog 65 #[v] w fun e w' => NextEnd l e ∧ ∃ n, w' = w.drewN n from hsuf
  obtain ⟨a, cap, rfl, hc1, hc2, -, hs⟩ := hv
  by_cases hn : l.length = 0
  · have hN : nextL l = (0, 0, false) := by unfold nextL; rw [if_pos hn]
    rw [hn]
    have hE := fun n (h : n = _) => nxV_eq (n := n) hN h
    clear hs hN
    have HE := Lib.hid hE
    clear hE
    go_enter Tryd.func65, Tryd.ntmps65
    go_wp2
    go_ret3
    exact ⟨HE.out _ rfl, 0, rfl⟩
  obtain ⟨b, off, rfl, hc⟩ := hs (by omega)
  have hne : ((l.length : Int) == 0) = false := by rw [beq_eq_false_iff_ne]; omega
  have hp : (0 : Int) < (l.length : Int) := by omega
  have h0 : w.cell? ⟨b, off, none⟩ = some (.int .u8 (byt l 0)) := by simpa [u8At] using hc.at 0 (by omega)
  have hb := byt_hi l 0
  have hb0 := byt_lo l 0
  have hlm : l.length ≤ 9223372036854775807 := by unfold maxLen at hc2; omega
  by_cases hlow : byt l 0 ≤ 127
  · have hN : nextL l = (byt l 0, 1, true) := by unfold nextL; rw [if_neg hn, if_pos hlow]
    have hE := fun n (h : n = _) => nxV_eq (n := n) hN h
    clear hs hN
    have HE := Lib.hid hE
    clear hE
    go_enter Tryd.func65, Tryd.ntmps65
    go_wp2
    go_ret3
    exact ⟨HE.out _ rfl, 0, rfl⟩
  unfold maxLen at hc2
  rcases shp_cases (byt l 0) with h | ⟨m, lo, hi, h, h1, h2, h3, h4, h5, h6⟩
  · have hN : nextL l = (65533, 1, false) := by unfold nextL; rw [if_neg hn, if_neg hlow, h, if_pos rfl]
    have hE := fun n (h : n = _) => nxV_eq (n := n) hN h
    clear hs hN
    have HE := Lib.hid hE
    clear hE
    go_enter Tryd.func65, Tryd.ntmps65
    go_wp2_with (go_at_call 74; refine (shape_any _ _ (by omega) (by omega)).mono ?_; rintro e w' ⟨rfl, rfl⟩; rw [h]; clear h)
    go_ret3
    exact ⟨HE.out _ rfl, 0, rfl⟩
  have h7 : (m == 0) = false := by simp; omega
  obtain ⟨J, hJ⟩ : ∃ J : Nat, m = (J : Int) := ⟨m.toNat, by omega⟩
  have HJ := Lib.hid hJ
  have hJ1 : 1 ≤ J := by omega
  have hJ3 : J ≤ 3 := by omega
  have HN : Hid (nextL l = nl l m.toNat 1 (byt l 0 % 2 ^ (6 - m.toNat)) lo hi) := by unfold nextL; rw [if_neg hn, if_neg hlow, h, if_neg (show ¬ m = 0 by omega)]; exact Lib.hid rfl
  have HC := Lib.hid hc
  clear hs hc hJ
  go_enter Tryd.func65, Tryd.ntmps65
  go_wp2_with (go_at_call 74; refine (shape_any _ _ (by omega) (by omega)).mono ?_; rintro e w' ⟨rfl, rfl⟩; rw [h]; clear h)
  obtain rfl | rfl | rfl : m = 1 ∨ m = 2 ∨ m = 3 := by omega
  all_goals
    go_quiet (fail)
    go_wp2
    go_loop [6, 7, 8, 9] (fun tl th tr ti => ∃ (j k : Nat) (R L H : Int), 1 ≤ k ∧ k + j = J + 1 ∧ ti = .int .i64 k ∧ tr = .int .i32 R ∧ tl = .int .u8 L ∧ th = .int .u8 H ∧
        0 ≤ R ∧ R < rbd k ∧ 0 ≤ L ∧ L ≤ 255 ∧ 0 ≤ H ∧ H ≤ 255 ∧ Hid (nextL l = nl l j k R L H)) (fun _ _ _ ti => 5 - (intOf ti).toNat)
    case atStart =>
      have hJ := HJ.out
      obtain rfl := Int.ofNat_inj.1 hJ
      exact ⟨_, 1, _, _, _, by omega, by omega, rfl, rfl, rfl, rfl, by omega, by unfold rbd; rw [if_pos (by omega)]; omega, by omega, by omega, by omega, by omega, HN.out⟩
    case round =>
      obtain ⟨j, k, R, L, H, hk1, hkj, rfl, rfl, rfl, rfl, hR0, hR, hL0, hL1, hH0, hH1, HR⟩ := hrel
      have hk5 : k < 5 := by omega
      have hbk := byt_lo l k
      have hbk1 := byt_hi l k
      rcases j with _ | j
      · have hlt : ¬ (k : Int) ≤ J := by omega
        have hd := HJ.out
        rw [← hd] at hlt
        have HK := Lib.hid hkj
        clear hd hkj
        go_wp2
        go_ret3
        exact ⟨nxV_eq (HR.out.trans nl_zero) (by have := HJ.out; have := HK.out; omega), nq, rfl⟩
      · have hlt : (k : Int) ≤ J := by omega
        have hd := HJ.out
        rw [← hd] at hlt
        clear hd
        have hR2 := Int.lt_of_lt_of_le hR (rbd_le (show k ≤ 3 by omega))
        have HS := rbd_step (x := byt l k) hk1 (show k ≤ 3 by omega) hR
        clear hR
        by_cases hlen : k < l.length
        · have hcell : w.cell? ⟨b, off + k, none⟩ = some (.int .u8 (byt l k)) := HC.out.at k hlen
          by_cases hlo : L ≤ byt l k
          · by_cases hhi : byt l k ≤ H
            · go_wp2
              go_round
              case rel => exact ⟨j, k + 1, _, _, _, by omega, by omega, by go_num, rfl, rfl, rfl, by omega, HS, by omega, by omega, by omega, by omega, HR.out.trans (nl_yes ⟨hlen, hlo, hhi⟩)⟩
              case measure => simp [intOf]; omega
            · go_wp2
              go_ret3
              exact ⟨nxV_eq (HR.out.trans (nl_no (by omega))) rfl, nq, rfl⟩
          · go_wp2
            go_ret3
            exact ⟨nxV_eq (HR.out.trans (nl_no (by omega))) rfl, nq, rfl⟩
        · go_wp2
          go_ret3
          exact ⟨nxV_eq (HR.out.trans (nl_no (by omega))) rfl, nq, rfl⟩
end Go.Proofs.YtaphadmcjimmeaaDoor
