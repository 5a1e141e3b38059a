/- The walk of PctBytes. -/
import Derived.Test.YtpaklakjmmbboaaLaw4b
import Derived.Test.YtpaklakjmmbboaaPctF
import Derived.Test.YtpaklakjmmbboaaRowB
set_option linter.unusedVariables false
set_option linter.unusedSimpArgs false
namespace Go.Proofs.Ytpaklakjmmbboaa
open Go.RowKit

def loS : List UInt8 := [48, 49, 50, 51, 52, 53, 54, 55, 56, 57, 97, 98, 99, 100, 101, 102]
def digS (g : Bool) : List UInt8 := if g then upS else loS
def toldB (g : Bool) (c : Int) : List UInt8 := [37, (digS g).getD (c / 16).toNat 0, (digS g).getD (c % 16).toNat 0]
def toldL : List UInt8 → List Bool → List UInt8
  | [], _ => []
  | b :: t, gs => toldB (gs.getD 0 false) b.toNat ++ toldL t (gs.drop 1)
theorem toldL_take : ∀ (l : List UInt8) (gs : List Bool) (i : Nat), i < l.length → toldL (l.take (i + 1)) gs = toldL (l.take i) gs ++ toldB (gs.getD i false) (byt l i) := by
  intro l
  induction l with
  | nil => intro gs i h; simp at h
  | cons b t ih =>
    intro gs i h
    cases i with
    | zero => simp [toldL, byt]
    | succ i =>
      show toldB _ _ ++ toldL (t.take (i + 1)) (gs.drop 1) = toldB _ _ ++ toldL (t.take i) (gs.drop 1) ++ _
      rw [ih (gs.drop 1) i (by simpa using h), List.append_assoc, byt_succ]
      simp [List.getD, List.getElem?_drop, Nat.add_comm]
theorem dig_hex (g : Bool) (n : Int) (h0 : 0 ≤ n) (h1 : n < 16) : hexN (((digS g).getD n.toNat 0).toNat : Int) = n := by
  obtain ⟨m, rfl⟩ := Int.eq_ofNat_of_zero_le h0
  have key : ∀ (g : Bool) (m : Fin 16), hexN (((digS g).getD (m.val : Int).toNat 0).toNat : Int) = (m.val : Int) := by decide +kernel
  exact key g ⟨m, by omega⟩
theorem pdec_told (g : Bool) (b : UInt8) (t : List UInt8) : pdec (toldB g b.toNat ++ t) = b :: pdec t := by
  have hb := b.toNat_lt
  have e1 := dig_hex g ((b.toNat : Int) / 16) (by omega) (by omega)
  have e2 := dig_hex g ((b.toNat : Int) % 16) (by omega) (by omega)
  show pdec (37 :: (digS g).getD ((b.toNat : Int) / 16).toNat 0 :: (digS g).getD ((b.toNat : Int) % 16).toNat 0 :: t) = _
  generalize (digS g).getD ((b.toNat : Int) / 16).toNat 0 = x at *
  generalize (digS g).getD ((b.toNat : Int) % 16).toNat 0 = y at *
  have hp : isPair (37 :: x :: y :: t) 0 := by
    refine ⟨rfl, by simp, ?_, ?_⟩
    · show 0 ≤ hexN (x.toNat : Int); rw [e1]; omega
    · show 0 ≤ hexN (y.toNat : Int); rw [e2]; omega
  have := pdec_pair hp
  rw [List.drop_zero] at this
  rw [this]
  show mkB (hexN (x.toNat : Int) * 16 + hexN (y.toNat : Int)) :: pdec t = _
  rw [e1, e2, show (b.toNat : Int) / 16 * 16 + (b.toNat : Int) % 16 = (b.toNat : Int) from by omega, mkB_toNat]
theorem pdec_toldL : ∀ (l : List UInt8) (gs : List Bool), pdec (toldL l gs) = l := by
  intro l
  induction l with
  | nil => intro gs; rfl
  | cons b t ih => intro gs; show pdec (toldB _ _ ++ toldL t (gs.drop 1)) = _; rw [pdec_told, ih]
theorem toldL_len : ∀ (l : List UInt8) (gs : List Bool), (toldL l gs).length = 3 * l.length := by
  intro l
  induction l with
  | nil => intro gs; rfl
  | cons b t ih => intro gs; show (toldB _ _ ++ toldL t (gs.drop 1)).length = _; rw [List.length_append, ih, List.length_cons]; show 3 + _ = _; omega
theorem cut1 (l : List UInt8) (n : Nat) (h : n < l.length) : (l.take (n + 1)).drop n = [l.getD n 0] := by
  rw [List.take_succ_eq_append_getElem h, List.drop_append_of_le_length (by simp; omega)]
  simp [List.getD, h]

theorem told_end {l : List UInt8} {gs : List Bool} {i : Nat} {g0 : Bool} {c : Int} {T : List UInt8} (hT : toldL (l.take (i + 1)) gs = toldL (l.take i) gs ++ toldB (gs.getD i false) c) (hg : gs.getD i false = g0)
    (h1 : ∀ S : List UInt8, S.length = 16 → (S.take ((c / 16).toNat + 1)).drop (c / 16).toNat = [S.getD (c / 16).toNat 0]) (h2 : ∀ S : List UInt8, S.length = 16 → (S.take ((c % 16).toNat + 1)).drop (c % 16).toNat = [S.getD (c % 16).toNat 0])
    (g : Bool) (e : T = toldL (l.take i) gs ++ 37 :: (((digS g).take ((c / 16).toNat + 1)).drop (c / 16).toNat ++ ((digS g).take ((c % 16).toNat + 1)).drop (c % 16).toNat)) (hgg : g = g0 := by rfl) : T = toldL (l.take (i + 1)) gs := by
  subst hgg
  have hl : (digS g).length = 16 := by cases g <;> rfl
  rw [hT, hg, e, h1 _ hl, h2 _ hl]; rfl

set_option maxRecDepth 100000 in
set_option maxHeartbeats 4000000 in
theorem PctBytes_walk (a0 : Option Addr) (len0 cap0 : Nat) (z0 : List Int) (a1 : Option Addr) (len1 cap1 : Nat) (z1 : List Bool) (w : World) (w0 : IsRow .u8 w a0 len0 cap0 z0) (w1 : IsRowB w a1 len1 cap1 z1) :
    Calls Try.prog 7 #[.slice a0 len0 cap0, .slice a1 len1 cap1] w fun e w' => e = .returned (.bool true) ∧ Below w.heap.size w w' := by
  obtain ⟨l, rfl, h8⟩ := isRow8 w0
  obtain ⟨rfl, hB⟩ := w1
  have H8 := Lib.hid h8
  have hB2 := hB
  obtain ⟨a', c', hv, q1, q2, q3, q4⟩ := hB2
  injection hv with e1 e2 e3
  subst e1; subst e3
  unfold maxLen at q2
  have HCB : Hid (0 < z1.length → ∃ b off, a1 = some ⟨b, off, none⟩ ∧ Cells w b off z1.length (boolAt z1)) := Lib.hid q4
  obtain ⟨a'', c'', hv2, p1, p2, p3, p4⟩ := h8
  injection hv2 with f1 f2 f3
  subst f1; subst f3
  unfold maxLen at p2
  have HC8 : Hid (0 < l.length → ∃ b off, a0 = some ⟨b, off, none⟩ ∧ Cells w b off l.length (u8At l)) := Lib.hid p4
  clear w0 hB q3 q4 p3 p4
  by_cases hlen : 60 < l.length
  · go_enter Try.func7, Try.ntmps7
    go_wp2_with fail
    refine (awake4_any _).mono ?_
    rintro e w1 ⟨rfl, hb⟩
    go_wp2
    go_ret
    exact ⟨rfl, hb⟩
  · go_enter Try.func7, Try.ntmps7
    go_wp2_with fail
    go_loopw [5, 6] (fun ts ti wr => ∃ (i n : Nat), i ≤ l.length ∧ ti = .int .i64 i ∧ ts = .string ⟨(toldL (l.take i) z1).toArray⟩ ∧ wr = w.drewN n) (fun _ ti _ => l.length - (intOf ti).toNat)
    case atStart => exact ⟨0, 0, by omega, rfl, by simp [toldL], rfl⟩
    case round =>
      obtain ⟨i, n, hi, rfl, rfl, rfl⟩ := hrel
      by_cases hlt : i < l.length
      · obtain ⟨b, off, rfl, hc⟩ := HC8.out (by omega)
        have hcell : w.cell? ⟨b, off + i, none⟩ = some (.int .u8 (byt l i)) := hc.at i hlt
        have b0 := byt_lo l i
        have b1 := byt_hi l i
        have HT := Lib.hid (toldL_take l z1 i hlt)
        have hL0 := toldL_len (l.take i) z1
        rw [List.length_take] at hL0
        obtain ⟨c, hcc⟩ : ∃ c, byt l i = c := ⟨_, rfl⟩
        rw [hcc] at hcell b0 b1 HT
        clear hc HC8 hcc
        have d0 : 0 ≤ c / 16 := by omega
        have d1 : c / 16 < 16 := by omega
        have d2 : 0 ≤ c % 16 := by omega
        have d3 : c % 16 < 16 := by omega
        have HK1 : Hid (∀ S : List UInt8, S.length = 16 → (S.take ((c / 16).toNat + 1)).drop (c / 16).toNat = [S.getD (c / 16).toNat 0]) := Lib.hid (fun S h => cut1 S _ (by omega))
        have HK2 : Hid (∀ S : List UInt8, S.length = 16 → (S.take ((c % 16).toNat + 1)).drop (c % 16).toNat = [S.getD (c % 16).toNat 0]) := Lib.hid (fun S h => cut1 S _ (by omega))
        have hg : (∃ g, z1.getD i false = g) := ⟨_, rfl⟩
        obtain ⟨g, hg⟩ := hg
        by_cases hz : i < z1.length
        · obtain ⟨b', off', rfl, hcB⟩ := HCB.out (by omega)
          have hcellB : w.cell? ⟨b', off' + i, none⟩ = some (.bool g) := by rw [← hg]; exact hcB.at i hz
          clear hcB HCB
          cases g
          all_goals
            have HG := Lib.hid hg
            clear hg
            have d4 : bits BinOp.and IntKind.u8 c 15 = c % 16 := u8_and15 c (by omega) (by omega)
            have d5 : IntKind.u8.wrap (c / 16 + 1) = c / 16 + 1 := IntWalk.u8_in _ (by omega)
            have d6 : IntKind.u8.wrap (c % 16 + 1) = c % 16 + 1 := IntWalk.u8_in _ (by omega)
            have d7 : (c / 16 + 1).toNat = (c / 16).toNat + 1 := by omega
            have d8 : (c % 16 + 1).toNat = (c % 16).toNat + 1 := by omega
            have d9 : 0 ≤ c / 16 + 1 := by omega
            have d10 : 0 ≤ c % 16 + 1 := by omega
            have hL1 : (toldL (l.take i) z1).length + 1 ≤ 9223372036854775807 := by omega
            have hL2 : (toldL (l.take i) z1).length + 1 + 1 ≤ 9223372036854775807 := by omega
            have hL3 : (toldL (l.take i) z1).length + 1 + 1 + 1 ≤ 9223372036854775807 := by omega
            go_wp2_with fail
            go_quiet (fail)
            clear d4 d5 d6 d7 d8
            go_wp2
            go_roundw
            case rel => exact ⟨i + 1, n + nq, by omega, by go_num, congrArg (fun x : List UInt8 => Value.string ⟨x.toArray⟩) (by first | exact told_end HT.out HG.out HK1.out HK2.out false rfl | exact told_end HT.out HG.out HK1.out HK2.out true rfl), by simp [World.drewN, Nat.add_assoc]⟩
            case measure => simp [intOf]; omega
        · have hg2 : g = false := by rw [← hg, List.getD_eq_getElem?_getD, List.getElem?_eq_none (by omega)]; rfl
          subst hg2
          have HG := Lib.hid hg
          clear hg
          have d4 : bits BinOp.and IntKind.u8 c 15 = c % 16 := u8_and15 c (by omega) (by omega)
          have d5 : IntKind.u8.wrap (c / 16 + 1) = c / 16 + 1 := IntWalk.u8_in _ (by omega)
          have d6 : IntKind.u8.wrap (c % 16 + 1) = c % 16 + 1 := IntWalk.u8_in _ (by omega)
          have d7 : (c / 16 + 1).toNat = (c / 16).toNat + 1 := by omega
          have d8 : (c % 16 + 1).toNat = (c % 16).toNat + 1 := by omega
          have d9 : 0 ≤ c / 16 + 1 := by omega
          have d10 : 0 ≤ c % 16 + 1 := by omega
          have hL1 : (toldL (l.take i) z1).length + 1 ≤ 9223372036854775807 := by omega
          have hL2 : (toldL (l.take i) z1).length + 1 + 1 ≤ 9223372036854775807 := by omega
          have hL3 : (toldL (l.take i) z1).length + 1 + 1 + 1 ≤ 9223372036854775807 := by omega
          have hzz : decide (i < z1.length) = false := by simp; omega
          go_wp2_with fail
          go_quiet (fail)
          clear d4 d5 d6 d7 d8
          go_wp2
          go_roundw
          case rel => exact ⟨i + 1, n + nq, by omega, by go_num, congrArg (fun x : List UInt8 => Value.string ⟨x.toArray⟩) (told_end HT.out HG.out HK1.out HK2.out false rfl), by simp [World.drewN, Nat.add_assoc]⟩
          case measure => simp [intOf]; omega
      · obtain rfl : i = l.length := by omega
        have HD := Lib.hid (pdec_toldL l z1)
        have hL0 := toldL_len l z1
        rw [List.take_length]
        have C1 : Hid (∀ w, Calls Try.prog 16 #[.string ⟨(toldL l z1).toArray⟩] w fun e w' => ∃ v', e = .returned v' ∧ Own w' w.heap.size 5 v' (l.map u8V) ∧ Below w.heap.size w w') := Lib.hid (fun w => by have := decodeP_any (toldL l z1) w (by omega); rw [HD.out] at this; exact this)
        generalize toldL l z1 = t at *
        have H80 : Hid (Is8 w (.slice a0 l.length cap0) l) := H8
        have HSH := Lib.hid (fun (w' : World) (v : Value) (d : List UInt8) (h : Is8 w' v d) => run_toStr (P := Try.prog) w' 27 9 5 Try.underlying27 Try.underlying5 Try.underlying9 v d h)
        have g0 := HSH.out (w.drewN (n + 1)) (.slice a0 l.length cap0) l (H80.out.drew (n + 1))
        clear hL0 HC8 HCB
        go_wp2_with fail
        go_region_with (first
          | (go_at_call 16; (with_reducible refine (C1.out _).mono ?_); rintro e x1 ⟨v1, rfl, hown1, hc1⟩; have HX1 := Lib.hid hc1; have G1 := Lib.hid hown1.is8; have g11 := HSH.out x1 v1 _ G1.out; have g12 := HSH.out x1 (.slice a0 l.length cap0) l ((H80.out.drew (n + 1)).below HX1.out); clear hown1 hc1)
          | (go_at_call 13; (with_reducible refine (awake4_any _).mono ?_); rintro e x5 ⟨rfl, hb5⟩; have HX5 := Lib.hid hb5; clear hb5))
        all_goals
          go_wp2
          go_ret
          exact ⟨rfl, ext_trans (ext_drew _ (n + 1)) (ext_trans HX1.out HX5.out)⟩
end Go.Proofs.Ytpaklakjmmbboaa
