/- Contracts of ref4.Hex, ref4.Encode. -/
import Derived.Test.YtpaklakjmmbboaaPctC
set_option linter.unusedVariables false
set_option linter.unusedSimpArgs false
namespace Go.Proofs.Ytpaklakjmmbboaa
open Go.RowKit

def hexS (c : Int) : List UInt8 := [37, up (c / 16), up (c % 16)]
set_option maxHeartbeats 1000000 in
theorem hexS_any (c : Int) (w : World) (h0 : 0 ≤ c) (h1 : c ≤ 255) :
    Calls Try.prog 27 #[.int .u8 c] w fun e w' => e = .returned (.string ⟨(hexS c).toArray⟩) ∧ Below w.heap.size w w' := by
  have d0 : 0 ≤ c / 16 := by omega
  have d1 : c / 16 < 16 := by omega
  have d2 : 0 ≤ c % 16 := by omega
  have d3 : c % 16 < 16 := by omega
  have d4 : bits BinOp.and IntKind.u8 c 15 = c % 16 := u8_and15 c (by omega) (by omega)
  have hcv : (convert 27 9 (.slice (some ⟨w.heap.size, 0, none⟩) 3 3)).run Try.prog (w.alloc (.cells #[.int .u8 37, .int .u8 (byt [48, 49, 50, 51, 52, 53, 54, 55, 56, 57, 65, 66, 67, 68, 69, 70] (c / 16).toNat), .int .u8 (byt [48, 49, 50, 51, 52, 53, 54, 55, 56, 57, 65, 66, 67, 68, 69, 70] (c % 16).toNat)] 5)).drew =
      .ok (.string ⟨(hexS c).toArray⟩) (w.alloc (.cells #[.int .u8 37, .int .u8 (byt [48, 49, 50, 51, 52, 53, 54, 55, 56, 57, 65, 66, 67, 68, 69, 70] (c / 16).toNat), .int .u8 (byt [48, 49, 50, 51, 52, 53, 54, 55, 56, 57, 65, 66, 67, 68, 69, 70] (c % 16).toNat)] 5)).drew :=
    run_toStr _ _ _ 5 Try.underlying27 Try.underlying5 Try.underlying9 _ (hexS c) (lit8 _ _ (hexS c) 3 5 (0, 0) (by show (w.alloc _).heap[_]? = _; rw [heap_alloc_at, if_pos (by rfl)]; rfl) rfl (by decide))
  go_enter Try.func27, Try.ntmps27
  go_wp2_with fail
  go_region
  all_goals
    go_wp2
    go_ret
    exact ⟨rfl, (below_drewN (Below.refl _ _) 1).alloc (Nat.le_refl _) _⟩

def rpe (k r : Int) : List UInt8 := if pinB k r then (encR (fixR r)).flatMap (fun b => hexS b.toNat) else encR (fixR r)
def rencF (k : Int) (rs : List Int) : List UInt8 := rs.flatMap (rpe k)
theorem rencF_take (k : Int) (rs : List Int) (i : Nat) (hi : i < rs.length) : rencF k (rs.take (i + 1)) = rencF k (rs.take i) ++ rpe k (rs.getD i 0) := by
  unfold rencF
  rw [List.take_succ_eq_append_getElem hi, List.flatMap_append]
  simp [List.getD, hi]
theorem rpe_len (k r : Int) : (rpe k r).length ≤ 12 := by
  have h := encR_len (fixR r)
  have h3 : ∀ bs : List UInt8, (bs.flatMap (fun b => hexS b.toNat)).length = 3 * bs.length := by
    intro bs
    induction bs with
    | nil => rfl
    | cons b t ih => rw [List.flatMap_cons, List.length_append, ih, List.length_cons]; show 3 + _ = _; omega
  unfold rpe
  split
  · rw [h3]; omega
  · omega
theorem rencF_len (k : Int) (rs : List Int) : (rencF k rs).length ≤ 12 * rs.length := by
  unfold rencF
  induction rs with
  | nil => simp
  | cons r t ih => have := rpe_len k r; rw [List.flatMap_cons, List.length_append, List.length_cons]; omega
def hexsL (bs : List UInt8) : List UInt8 := bs.flatMap (fun b => hexS b.toNat)
theorem hexsL_take (bs : List UInt8) (i : Nat) (hi : i < bs.length) : hexsL (bs.take (i + 1)) = hexsL (bs.take i) ++ hexS (byt bs i) := by
  unfold hexsL byt
  rw [List.take_succ_eq_append_getElem hi, List.flatMap_append]
  simp [List.getD, hi]
theorem hexsL_len (bs : List UInt8) : (hexsL bs).length = 3 * bs.length := by
  unfold hexsL
  induction bs with
  | nil => rfl
  | cons b t ih => rw [List.flatMap_cons, List.length_append, ih, List.length_cons]; show 3 + _ = _; omega
theorem str_add (a b : List UInt8) : Value.string ((⟨a.toArray⟩ : ByteArray) ++ ⟨b.toArray⟩) = .string ⟨(a ++ b).toArray⟩ := by rw [str_append]

theorem IsSl.cell {w : World} {a : Option Addr} {n cap : Nat} {f : Nat → Value} (h : IsSl w (.slice a n cap) n f) (hn : 0 < n) : ∃ b off, a = some ⟨b, off, none⟩ ∧ Cells w b off n f := by
  obtain ⟨a', cap', hv, _, _, _, hc⟩ := h
  injection hv with e1 e2 e3
  subst e1
  exact hc hn

set_option maxRecDepth 100000 in
set_option maxHeartbeats 4000000 in
theorem rencodeS_any (l : List UInt8) (k : Int) (w : World) (hm : l.length ≤ 300000) (h0 : -9223372036854775808 ≤ k) (h1 : k ≤ 9223372036854775807) :
    Calls Try.prog 15 #[.string ⟨l.toArray⟩, .int .i64 k] w fun e w' => e = .returned (.string ⟨(rencF k (decL l)).toArray⟩) ∧ Below w.heap.size w w' := by
  have hd := decL_len _ l (Nat.le_refl _)
  have HBD := Lib.hid (decL_bd l)
  go_enter Try.func15, Try.ntmps15
  go_wp2_with (refine wpList_toBytes _ (by rfl) 9 27 _ rfl 5 Try.underlying9 Try.underlying27 Try.underlying5 l rfl (by omega) ?_)
  intro b cap w1 h8 hb1 hbe
  have H8 := Lib.hid h8
  have HB1 := Lib.hid hb1
  clear h8 hb1 hbe
  go_wp2_with fail
  refine (rdecode_any _ l _ H8.out (by omega)).mono ?_
  rintro e w2 ⟨v2, rfl, hown2, hb2⟩
  have hs2 := hown2.is32
  have hB2 := ext_trans HB1.out hb2
  obtain ⟨rs, hrs⟩ : ∃ rs, decL l = rs := ⟨_, rfl⟩
  rw [hrs] at hd HBD hs2 hown2
  have HD := Lib.hid hrs
  clear hrs
  obtain ⟨a, cap2, rfl, hc1, hc2, -, hs⟩ := hs2
  unfold maxLen at hc2
  have HC : Hid (0 < rs.length → ∃ b off, a = some ⟨b, off, none⟩ ∧ Cells w2 b off rs.length (i32At rs)) := Lib.hid hs
  have HB2 := Lib.hid hB2
  clear hs hown2 hb2 hB2
  go_wp2_with fail
  go_loopw [5, 7] (fun ts ti wr => ∃ i : Nat, i ≤ rs.length ∧ ti = .int .i64 i ∧ ts = .string ⟨(rencF k (rs.take i)).toArray⟩ ∧ Below w2.heap.size w2 wr) (fun _ ti _ => rs.length - (intOf ti).toNat)
  case atStart => exact ⟨0, by omega, rfl, by simp [rencF], Below.refl _ _⟩
  case round =>
    obtain ⟨i, hi, rfl, rfl, hbel⟩ := hrel
    by_cases hlt : i < rs.length
    · obtain ⟨b', off, rfl, hc⟩ := HC.out (by omega)
      have hcell : wr.cell? ⟨b', off + i, none⟩ = some (.int .i32 (rs.getD i 0)) := (hc.below hbel (hc.lt (by omega))).at i hlt
      have HT := Lib.hid (rencF_take k rs i hlt)
      obtain ⟨hr1, hr2⟩ := HBD.out i hlt
      have HCC := Lib.hid (hc.lt (by omega))
      have hcc := hc
      clear hc HC
      obtain ⟨r, hr⟩ : ∃ r, rs.getD i 0 = r := ⟨_, rfl⟩
      rw [hr] at hcell hr1 hr2
      have HR := Lib.hid hr
      clear hr
      go_wp2_with fail
      refine (bytes_any r _ hr1 hr2).mono ?_
      rintro e w3 ⟨v3, rfl, hown3, hb3⟩
      have hs3 := hown3.is8
      have hB3 : Below w2.heap.size w2 w3 := ext_trans hbel hb3
      have hcell3 : w3.cell? ⟨b', off + i, none⟩ = some (.int .i32 r) := by rw [← HR.out]; exact (hcc.below hB3 HCC.out).at i hlt
      have hbl := encR_len (fixR r)
      cases hp : pinB k r with
      | false =>
        have HP := Lib.hid hp
        have HE : Hid (rpe k (rs.getD i 0) = encR (fixR r)) := Lib.hid (by unfold rpe; rw [HR.out, hp]; rfl)
        have HS3 := Lib.hid hs3
        have HB3 := Lib.hid hB3
        clear hp hs3 hown3 hb3 hcell hB3 hcc
        have hL0 := rencF_len k (rs.take i)
        rw [List.length_take] at hL0
        have hL : (rencF k (rs.take i)).length + (encR (fixR r)).length ≤ 9223372036854775807 := by omega
        clear hL0
        go_wp2_with fail
        refine (rIn_any k r _ h0 h1 hr1 hr2).mono ?_
        rintro e w' ⟨rfl, rfl⟩
        rw [HP.out]
        go_wp2_with (refine wpList_toStr _ (by rfl) 27 9 _ rfl 5 Try.underlying27 Try.underlying5 Try.underlying9 _ rfl _ HS3.out ?_)
        exact ⟨⟨i + 1, by omega, by go_num, by rw [HT.out, HE.out], HB3.out⟩, by simp [intOf]; omega⟩
      | true =>
        have HP := Lib.hid hp
        have HE : Hid (rpe k (rs.getD i 0) = hexsL (encR (fixR r))) := Lib.hid (by unfold rpe; rw [HR.out, hp]; rfl)
        generalize encR (fixR r) = bs at *
        obtain ⟨a3, cap3, rfl, hc31, hc32, -, hs3⟩ := hs3
        unfold maxLen at hc32
        have HC3 : Hid (0 < bs.length → ∃ b off, a3 = some ⟨b, off, none⟩ ∧ Cells w3 b off bs.length (u8At bs)) := Lib.hid hs3
        have HB3 := Lib.hid hB3
        clear hp hs3 hown3 hb3 hcell hcc hB3
        obtain ⟨wo, rfl⟩ : ∃ wo : World, wo = wr := ⟨_, rfl⟩
        go_wp2_with fail
        refine (rIn_any k r _ h0 h1 hr1 hr2).mono ?_
        rintro e w' ⟨rfl, rfl⟩
        rw [HP.out]
        go_wp2_with fail
        go_loopw [5, 9] (fun ts tm wr => ∃ m : Nat, m ≤ bs.length ∧ tm = .int .i64 m ∧ ts = .string ⟨(rencF k (rs.take i) ++ hexsL (bs.take m)).toArray⟩ ∧ Below w3.heap.size w3 wr) (fun _ tm _ => bs.length - (intOf tm).toNat)
        case atStart => exact ⟨0, by omega, rfl, by simp [hexsL], Below.refl _ _⟩
        case round =>
          obtain ⟨m, hm, rfl, rfl, hbel3⟩ := hrel
          by_cases hlm : m < bs.length
          · obtain ⟨b3, off3, rfl, hc3⟩ := HC3.out (by omega)
            have hcell4 : wr.cell? ⟨b3, off3 + m, none⟩ = some (.int .u8 (byt bs m)) := (hc3.below hbel3 (hc3.lt (by omega))).at m hlm
            have HX := Lib.hid (hexsL_take bs m hlm)
            have c0 := byt_lo bs m
            have c1 := byt_hi bs m
            clear hc3 HC3 hcell3
            have hL0 := rencF_len k (rs.take i)
            rw [List.length_take] at hL0
            have hL1 := hexsL_len (bs.take m)
            rw [List.length_take] at hL1
            have hL2 : (hexS (byt bs m)).length ≤ 3 := Nat.le_refl 3
            have hL : (rencF k (rs.take i)).length + (hexsL (bs.take m)).length + (hexS (byt bs m)).length ≤ 9223372036854775807 := by omega
            clear hL0 hL1 hL2
            go_wp2_with fail
            refine (hexS_any _ _ c0 c1).mono ?_
            rintro e w4 ⟨rfl, hb4⟩
            go_wp2_with fail
            exact ⟨⟨m + 1, by omega, by go_num, by rw [HX.out]; try simp, ext_trans hbel3 hb4⟩, by simp [intOf]; omega⟩
          · obtain rfl : m = bs.length := by omega
            go_wp2_with fail
            go_roundw
            case rel => exact ⟨i + 1, by omega, by go_num, by rw [HT.out, HE.out]; simp, HB3.out.trans (hbel3.mono HB3.out.size)⟩
            case measure => simp [intOf]; omega
    · obtain rfl : i = rs.length := by omega
      go_wp2_with fail
      go_ret
      exact ⟨by rw [HD.out]; simp, HB2.out.trans (hbel.mono HB2.out.size)⟩
end Go.Proofs.Ytpaklakjmmbboaa
