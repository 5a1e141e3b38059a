import Derived.IntWalk
import Derived.Deep.RegionWith
import Derived.Test.YtaphadmcjimmeaaGreatDoorHs10
import Derived.Test.YtaphadmcjimmeaaGreatDoorHs11
import Derived.Test.YtaphadmcjimmeaaGreatDoorHs13
import Derived.Test.YtaphadmcjimmeaaGreatDoorHs23
set_option linter.unusedVariables false
set_option linter.unusedSimpArgs false
set_option maxRecDepth 100000
namespace Go.Proofs.YtaphadmcjimmeaaGreatDoor
open Go.RowKit
def pencL (k : Int) (l : List UInt8) : List UInt8 := if moreOk k = true then penc (moreS k) (plainL l) else plainL l
theorem ret_s {a b : List UInt8} (h : a = b) : Ending.returned (.string ⟨a.toArray⟩) = .returned (.string ⟨b.toArray⟩) := by rw [h]
theorem byt_take (l : List UInt8) (k i : Nat) (h : i < k) : byt (l.take k) i = byt l i := by
  unfold byt; simp [List.getD, List.getElem?_take, h]
theorem is8_lt {w : World} {b n cap : Nat} {l : List UInt8} (h : Is8 w (.slice (some ⟨b, 0, none⟩) n cap) l) (hn : 0 < n) : b < w.heap.size := by
  obtain ⟨a0, c0, hv, _, _, _, hc⟩ := h
  injection hv with e1 e2 e3
  obtain ⟨b', o', ha, hcs⟩ := hc (by omega)
  rw [ha] at e1
  injection e1 with e1
  injection e1 with e4 e5 e6
  subst e4; subst e5
  exact hcs.lt (by omega)
theorem is8_grown {w w' : World} {b n cap : Nat} {l : List UInt8} {row : Option Nat} (h : Is8 w (.slice (some ⟨b, 0, none⟩) n cap) l) (hg : w.grownBy w' row) (hne : row ≠ some b) : Is8 w' (.slice (some ⟨b, 0, none⟩) n cap) l := by
  obtain ⟨a0, c0, hv, k1, k2, k3, hc⟩ := h
  refine ⟨a0, c0, hv, k1, k2, k3, fun hn => ?_⟩
  obtain ⟨b', o', ha, hcs⟩ := hc hn
  refine ⟨b', o', ha, fun i hi => ?_⟩
  have hb : b' = b := by
    injection hv with e1 e2 e3
    rw [ha] at e1
    injection e1 with e1
    injection e1 with e4 e5 e6
    exact e4.symm
  subst hb
  have hlt := hcs.lt hn
  unfold World.cell?
  rw [hg.block b' hlt (fun h => hne h.symm)]
  exact hcs i hi
set_option maxHeartbeats 4000000 in
theorem pencode_any (l : List UInt8) (k : Int) (w : World) (hm : l.length ≤ 300000) (h0 : -9223372036854775808 ≤ k) (h1 : k ≤ 9223372036854775807) :
    Calls Tryz.prog 19 #[.string ⟨l.toArray⟩, .int .i64 k] w fun e w' => e = .returned (.string ⟨(pencL k l).toArray⟩) ∧ Below w.heap.size w w' := by
  have hpl : (plainL l).length ≤ 1200000 := by
    have a := (encL_len (decL l)).2
    have b := decL_len _ l (Nat.le_refl _)
    unfold plainL; omega
  have hm1 : l.length ≤ 1000000 := by omega
  cases hk : moreOk k with
  | false =>
    have HF : Hid (pencL k l = plainL l) := Lib.hid (by unfold pencL; rw [hk, if_neg (by decide)])
    have HK := Lib.hid hk
    clear hk
    go_enter Tryz.func19, Tryz.ntmps19
    go_wp2_with fail
    refine (plain_any l _ hm1).mono ?_
    rintro e w1 ⟨rfl, hb1⟩
    have HB1 := Lib.hid hb1
    clear hb1
    go_wp2_with fail
    refine (more_any k _ h0 h1).mono ?_
    rintro e w' ⟨rfl, rfl⟩
    rw [HK.out]
    go_wp2_with fail
    go_ret
    exact ⟨ret_s HF.out.symm, HB1.out⟩
  | true =>
    have HF : Hid (pencL k l = penc (moreS k) (plainL l)) := Lib.hid (by unfold pencL; rw [hk, if_pos rfl])
    have HK := Lib.hid hk
    clear hk
    go_enter Tryz.func19, Tryz.ntmps19
    go_wp2_with fail
    refine (plain_any l _ hm1).mono ?_
    rintro e w1 ⟨rfl, hb1⟩
    have HB1 := Lib.hid hb1
    clear hb1
    go_wp2_with fail
    refine (more_any k _ h0 h1).mono ?_
    rintro e w' ⟨rfl, rfl⟩
    rw [HK.out]
    generalize plainL l = p at *
    generalize moreS k = has at *
    go_wp2_with fail
    go_loop [7] (fun ti => ∃ j : Nat, j ≤ p.length ∧ ti = .int .i64 j ∧ Hid (∀ i, i < j → inB has (byt p i) = false)) (fun ti => p.length - (intOf ti).toNat)
    case atStart => exact ⟨0, by omega, rfl, Lib.hid (fun i h => by omega)⟩
    case round =>
      obtain ⟨j, hj, rfl, HN⟩ := hrel
      have b0 := byt_lo p j
      have b1 := byt_hi p j
      by_cases hlt : j < p.length
      · cases hin : inB has (byt p j) with
        | false =>
          have HI := Lib.hid hin
          clear hin
          go_wp2_with (go_at_call 46; refine (in_any has (byt p j) _ (by omega) (by omega)).mono ?_; rintro e w' ⟨rfl, rfl⟩; rw [HI.out])
          go_round
          case rel => exact ⟨j + 1, by omega, by go_num, Lib.hid (fun i h => by
            by_cases hi : i = j
            · subst hi; exact HI.out
            · exact HN.out i (by omega))⟩
          case measure => simp [intOf]; omega
        | true =>
          have HI := Lib.hid hin
          clear hin
          have e1 : ((j : Int) == p.length) = false := by rw [beq_eq_false_iff_ne]; omega
          go_wp2_with (go_at_call 46; refine (in_any has (byt p j) _ (by omega) (by omega)).mono ?_; rintro e w' ⟨rfl, rfl⟩; rw [HI.out])
          have g2 : IntKind.i64.wrap ((p.length : Int) / 2) = (p.length : Int) / 2 := IntWalk.i64_in _ (by omega)
          have g1 : IntKind.i64.wrap ((p.length : Int) + (p.length : Int) / 2) = (p.length : Int) + (p.length : Int) / 2 := IntWalk.i64_in _ (by omega)
          obtain ⟨w2, hmk, hown1, hgr1⟩ := make0_run (P := Tryz.prog) w1.drew 42 w.heap.size 5 (.int .u8 0) 1 ok8 .i64 .i64 ((p.length : Int) + (p.length : Int) / 2) (p.length + p.length / 2) (by omega) (by omega) (by omega) HB1.out.size
          have hsz1 : w.heap.size ≤ w2.heap.size := Nat.le_trans HB1.out.size hgr1.size
          have hlen1 : ([] : List Value).length + (p.take j).length ≤ 140737488355328 := by rw [List.length_take]; simp only [List.length_nil]; omega
          go_region_law (refine step_appStr _ rfl _ _ 42 9 rfl w.heap.size 5 ok8 rfl _ _ (by simp [Act.eval, Act.put]) hown1 (p.take j) (by simp [Act.eval, Act.put]) hlen1 hsz1 ?_; intro v' w3 hown2 hgr2)
          all_goals
            have hb2 : Below w.heap.size w w2 := (below_dr HB1.out 1).grown hgr1 HB1.out.size (fun k hk => by simp at hk)
            have hb3 : Below w.heap.size w w3 := hb2.grown hgr2 hsz1 (fun k hk => (hown1.row k hk).1)
            have hs3 : w.heap.size ≤ w3.heap.size := Nat.le_trans hsz1 hgr2.size
            have hown3 : Own w3 w.heap.size 5 v' ((p.take j).map u8V) := hown2
            clear hmk hown1 hown2 hgr1 hgr2 g1 g2 hlen1 hsz1 hb2
            go_wp2_with (refine wpList_toBytes _ (by rfl) 9 42 _ rfl 5 Tryz.underlying9 Tryz.underlying42 Tryz.underlying5 (p.drop j) (by simp [Act.eval, Act.put]) (by simp; omega) ?_)
            intro b cap w4 h8 hbl hbe
            go_wp2_with fail
            have hb4 : Below w.heap.size w w4 := hb3.trans (hbl.mono hs3)
            have hown4 : Own w4 w.heap.size 5 v' ((p.take j).map u8V) := hown3.below hbl
            have hlb0 : b < w4.heap.size := is8_lt h8 (by omega)
            have hnb : v'.ownBlock ≠ some b := fun h => by have := (hown3.row b h).2; omega
            clear hbe
            go_loopw [8, 57] (fun tv ti wr => ∃ i : Nat, i ≤ p.length - j ∧ ti = .int .i64 i ∧ Own wr w.heap.size 5 tv ((p.take j ++ penc has ((p.drop j).take i)).map u8V) ∧ tv.ownBlock ≠ some b ∧ b < wr.heap.size ∧
              Is8 wr (.slice (some ⟨b, 0, none⟩) (p.length - j) cap) (p.drop j) ∧ Below w.heap.size w wr) (fun _ ti _ => p.length - j - (intOf ti).toNat)
            case atStart => exact ⟨0, by omega, rfl, by simpa [penc] using hown4, hnb, hlb0, h8, hb4⟩
            case round =>
              obtain ⟨i, hi, rfl, hown, hnb, hlb, h8, hbel⟩ := hrel
              by_cases hl2 : i < p.length - j
              · have hdl : (p.drop j).length = p.length - j := List.length_drop
                have b2 := byt_lo (p.drop j) i
                have b3 := byt_hi (p.drop j) i
                have hcell : wr.cell? ⟨b, i, none⟩ = some (.int .u8 (byt (p.drop j) i)) := by
                  obtain ⟨a0, c0, hv, _, _, _, hc⟩ := h8
                  obtain ⟨b', o', ha, hcs⟩ := hc (by omega)
                  injection hv with e1 e2 e3
                  rw [ha] at e1
                  injection e1 with e1
                  injection e1 with e4 e5 e6
                  subst e4; subst e5
                  simpa [u8At] using hcs.at i (by omega)
                have hpt := penc_len has ((p.drop j).take i)
                have hpt1 : ((p.drop j).take i).length = i := by rw [List.length_take]; omega
                have hpt2 : (p.take j).length ≤ p.length := by rw [List.length_take]; omega
                cases hin2 : inB has (byt (p.drop j) i) with
                | false =>
                  have HI2 := Lib.hid hin2
                  have HP := Lib.hid (penc_take has (p.drop j) i (by omega))
                  have HE : Hid (pe has ((p.drop j).getD i 0) = [(p.drop j).getD i 0]) := Lib.hid (by unfold pe; rw [show ((((p.drop j).getD i 0).toNat : Int)) = byt (p.drop j) i from rfl, hin2]; rfl)
                  clear hin2
                  have hsz := hbel.size
                  have hc2 : ((((p.take j ++ penc has ((p.drop j).take i)).map u8V)).length + 1) * 1 ≤ 140737488355328 := by rw [List.length_map, List.length_append]; omega
                  have hc3 : (((p.take j ++ penc has ((p.drop j).take i)).map u8V)).length + 1 ≤ 9223372036854775807 := by rw [List.length_map, List.length_append]; omega
                  have hc1 : ∀ u ∈ (#[Value.int .u8 (byt (p.drop j) i)] : Array Value).toList, u.oneCell' = true := by intro u hu; simp at hu; subst hu; rfl
                  clear hpt hpt1 hpt2 hdl
                  go_wp2_with (first
                    | (go_at_call 46; (with_reducible refine (in_any has (byt (p.drop j) i) _ (by omega) (by omega)).mono ?_); rintro e w' ⟨rfl, rfl⟩; rw [HI2.out])
                    | (at_builtin; refine wpList_appB _ rfl _ _ 42 rfl w.heap.size 5 (.int .u8 0) 1 ok8 _ _ rfl hown #[.int .u8 (byt (p.drop j) i)] 1 1 rfl rfl hc1 hc2 hc3 hsz ?_))
                  intro v' w2 hown2 hgr2 hob2
                  have hb2 : Below w.heap.size w w2 := hbel.grown hgr2 hsz (fun k hk => (hown.row k hk).1)
                  have h82 : Is8 w2 (.slice (some ⟨b, 0, none⟩) (p.length - j) cap) (p.drop j) := is8_grown h8 hgr2 hnb
                  have hnb2 : v'.ownBlock ≠ some b := fun h => by rcases hob2 b h with q | q <;> first | exact hnb q | omega
                  have hlb2 : b < w2.heap.size := Nat.lt_of_lt_of_le hlb hgr2.size
                  go_wp2
                  go_roundw
                  case rel => exact ⟨i + 1, by omega, by go_num, (congrArg (Own w2 w.heap.size 5 v') (by rw [HP.out, HE.out, List.map_append, List.map_append, List.map_take]; rfl)).mp hown2, hnb2, hlb2, h82, hb2⟩
                  case measure => simp [intOf]; omega
                | true =>
                  have HI2 := Lib.hid hin2
                  have HP := Lib.hid (penc_take has (p.drop j) i (by omega))
                  obtain ⟨c, hc⟩ : ∃ c, byt (p.drop j) i = c := ⟨_, rfl⟩
                  have HE : Hid (pe has ((p.drop j).getD i 0) = [37, up (c / 16), up (c % 16)]) := Lib.hid (by unfold pe; rw [show ((((p.drop j).getD i 0).toNat : Int)) = byt (p.drop j) i from rfl, hin2, hc]; rfl)
                  clear hin2
                  rw [hc] at b2 b3 hcell
                  have HC := Lib.hid hc
                  clear hc
                  have hsz := hbel.size
                  have hc2 : ((((p.take j ++ penc has ((p.drop j).take i)).map u8V)).length + 3) * 1 ≤ 140737488355328 := by rw [List.length_map, List.length_append]; omega
                  have hc3 : (((p.take j ++ penc has ((p.drop j).take i)).map u8V)).length + 3 ≤ 9223372036854775807 := by rw [List.length_map, List.length_append]; omega
                  clear hpt hpt1 hpt2 hdl
                  go_wp2_with (go_at_call 46; (with_reducible refine (in_any has c _ (by omega) (by omega)).mono ?_); rintro e w' ⟨rfl, rfl⟩; rw [show inB has c = true by rw [← HC.out]; exact HI2.out])
                  have hc1 : ∀ u ∈ (#[.int .u8 37, u8V (up (c / 16)), u8V (up (c % 16))] : Array Value).toList, u.oneCell' = true := by
                    intro u hu; simp at hu; rcases hu with rfl | rfl | rfl <;> rfl
                  have d0 : 0 ≤ c / 16 := by omega
                  have d1 : c / 16 < 16 := by omega
                  have d2 : 0 ≤ c % 16 := by omega
                  have d3 : c % 16 < 16 := by omega
                  have d4 : bits BinOp.and IntKind.u8 c 15 = c % 16 := u8_and15 c (by omega) (by omega)
                  go_region_law (refine step_appB _ rfl _ _ 42 rfl w.heap.size 5 (.int .u8 0) 1 ok8 _ _ (by simp [Act.eval, Act.put]) (hown.drew 1) #[.int .u8 37, u8V (up (c / 16)), u8V (up (c % 16))] 3 3 (by simp [Act.eval, Act.put]) rfl hc1 hc2 hc3 hsz ?_; intro v' w2 hown2 hgr2 hob2)
                  all_goals
                    have hb2 : Below w.heap.size w w2 := (below_dr hbel 1).grown hgr2 hsz (fun k hk => (hown.row k hk).1)
                    have h82 : Is8 w2 (.slice (some ⟨b, 0, none⟩) (p.length - j) cap) (p.drop j) := is8_grown (h8.drew 1) hgr2 hnb
                    have hnb2 : v'.ownBlock ≠ some b := fun h => by
                      rcases hob2 b h with q | q
                      · exact hnb q
                      · have q2 : wr.heap.size ≤ b := q
                        omega
                    have hlb2 : b < w2.heap.size := Nat.lt_of_lt_of_le hlb hgr2.size
                    clear d4
                    go_wp2
                    go_roundw
                    case rel => exact ⟨i + 1, by omega, by go_num, (congrArg (Own w2 w.heap.size 5 v') (by rw [HP.out, HE.out, List.map_append, List.map_append, List.map_append, List.map_take]; simp [u8V])).mp hown2, hnb2, hlb2, h82, hb2⟩
                    case measure => simp [intOf]; omega
              · have hdl : (p.drop j).length = p.length - j := List.length_drop
                have hall : (p.drop j).take i = p.drop j := List.take_of_length_le (by omega)
                have hpp : p.take j ++ penc has ((p.drop j).take i) = penc has p := by
                  rw [hall]
                  have h1 := penc_none has (p.take j) (fun q hq => by
                    rw [List.length_take] at hq
                    rw [byt_take p j q (by omega)]
                    exact HN.out q (by omega))
                  conv => rhs; rw [← List.take_append_drop j p, penc_append, h1]
                rw [hpp] at hown
                have H85 := Lib.hid hown.is8
                clear hown hall hpp hdl h8
                go_wp2_with (refine wpList_toStr _ (by rfl) 42 9 _ rfl 5 Tryz.underlying42 Tryz.underlying5 Tryz.underlying9 _ rfl (penc has p) H85.out ?_)
                all_goals go_wp2_with fail
                all_goals go_ret
                all_goals exact ⟨ret_s HF.out.symm, hbel⟩
      · obtain rfl : j = p.length := by omega
        have HG : Hid (penc has p = p) := Lib.hid (penc_none has p HN.out)
        go_wp2
        go_ret
        exact ⟨ret_s (HF.out.trans HG.out).symm, HB1.out⟩
def hexS (c : Int) : List UInt8 := [37, up (c / 16), up (c % 16)]
set_option maxHeartbeats 1000000 in
theorem hexS_any (c : Int) (w : World) (h0 : 0 ≤ c) (h1 : c ≤ 255) :
    Calls Tryz.prog 53 #[.int .u8 c] w fun e w' => e = .returned (.string ⟨(hexS c).toArray⟩) ∧ Below w.heap.size w w' := by
  have d0 : 0 ≤ c / 16 := by omega
  have d1 : c / 16 < 16 := by omega
  have d2 : 0 ≤ c % 16 := by omega
  have d3 : c % 16 < 16 := by omega
  have d4 : bits BinOp.and IntKind.u8 c 15 = c % 16 := u8_and15 c (by omega) (by omega)
  have hcv : (convert 42 9 (.slice (some ⟨w.heap.size, 0, none⟩) 3 3)).run Tryz.prog (w.alloc (.cells #[.int .u8 37, .int .u8 (byt [48, 49, 50, 51, 52, 53, 54, 55, 56, 57, 65, 66, 67, 68, 69, 70] (c / 16).toNat), .int .u8 (byt [48, 49, 50, 51, 52, 53, 54, 55, 56, 57, 65, 66, 67, 68, 69, 70] (c % 16).toNat)] 5)).drew =
      .ok (.string ⟨(hexS c).toArray⟩) (w.alloc (.cells #[.int .u8 37, .int .u8 (byt [48, 49, 50, 51, 52, 53, 54, 55, 56, 57, 65, 66, 67, 68, 69, 70] (c / 16).toNat), .int .u8 (byt [48, 49, 50, 51, 52, 53, 54, 55, 56, 57, 65, 66, 67, 68, 69, 70] (c % 16).toNat)] 5)).drew :=
    run_toStr _ _ _ 5 Tryz.underlying42 Tryz.underlying5 Tryz.underlying9 _ (hexS c) (lit8 _ _ (hexS c) 3 5 (0, 0) (by show (w.alloc _).heap[_]? = _; rw [heap_alloc_at, if_pos (by rfl)]; rfl) rfl (by decide))
  go_enter Tryz.func53, Tryz.ntmps53
  go_wp2_with fail
  go_region
  all_goals
    go_wp2
    go_ret
    exact ⟨rfl, (below_dr (Below.refl _ _) 1).alloc (Nat.le_refl _) _⟩
def rpe (k r : Int) : List UInt8 := if pinB k r then (encR (fixR r)).flatMap (fun b => hexS b.toNat) else encR (fixR r)
def rencF (k : Int) (rs : List Int) : List UInt8 := rs.flatMap (rpe k)
theorem rencF_take (k : Int) (rs : List Int) (i : Nat) (hi : i < rs.length) : rencF k (rs.take (i + 1)) = rencF k (rs.take i) ++ rpe k (rs.getD i 0) := by
  unfold rencF
  rw [List.take_succ_eq_append_getElem hi, List.flatMap_append]
  simp [List.getD, hi]
theorem rpe_len (k r : Int) : (rpe k r).length ≤ 12 := by
  have h := encR_len (fixR r)
  have h3 : ∀ bs : List UInt8, (bs.flatMap (fun b => hexS b.toNat)).length = 3 * bs.length := by
    intro bs
    induction bs with
    | nil => rfl
    | cons b t ih => rw [List.flatMap_cons, List.length_append, ih, List.length_cons]; show 3 + _ = _; omega
  unfold rpe
  split
  · rw [h3]; omega
  · omega
theorem rencF_len (k : Int) (rs : List Int) : (rencF k rs).length ≤ 12 * rs.length := by
  unfold rencF
  induction rs with
  | nil => simp
  | cons r t ih => have := rpe_len k r; rw [List.flatMap_cons, List.length_append, List.length_cons]; omega
def hexsL (bs : List UInt8) : List UInt8 := bs.flatMap (fun b => hexS b.toNat)
theorem hexsL_take (bs : List UInt8) (i : Nat) (hi : i < bs.length) : hexsL (bs.take (i + 1)) = hexsL (bs.take i) ++ hexS (byt bs i) := by
  unfold hexsL byt
  rw [List.take_succ_eq_append_getElem hi, List.flatMap_append]
  simp [List.getD, hi]
theorem hexsL_len (bs : List UInt8) : (hexsL bs).length = 3 * bs.length := by
  unfold hexsL
  induction bs with
  | nil => rfl
  | cons b t ih => rw [List.flatMap_cons, List.length_append, ih, List.length_cons]; show 3 + _ = _; omega
set_option maxRecDepth 100000 in
set_option maxHeartbeats 4000000 in
theorem rencodeS_any (l : List UInt8) (k : Int) (w : World) (hm : l.length ≤ 300000) (h0 : -9223372036854775808 ≤ k) (h1 : k ≤ 9223372036854775807) :
    Calls Tryz.prog 27 #[.string ⟨l.toArray⟩, .int .i64 k] w fun e w' => e = .returned (.string ⟨(rencF k (decL l)).toArray⟩) ∧ Below w.heap.size w w' := by
  have hd := decL_len _ l (Nat.le_refl _)
  have HBD := Lib.hid (decL_bd l)
  go_enter Tryz.func27, Tryz.ntmps27
  go_wp2_with (refine wpList_toBytes _ (by rfl) 9 42 _ rfl 5 Tryz.underlying9 Tryz.underlying42 Tryz.underlying5 l rfl (by omega) ?_)
  intro b cap w1 h8 hb1 hbe
  have H8 := Lib.hid h8
  have HB1 := Lib.hid hb1
  clear h8 hb1 hbe
  go_wp2_with fail
  refine (rdecode_any _ l _ H8.out (by omega)).mono ?_
  rintro e w2 ⟨v2, rfl, hown2, hb2⟩
  have hs2 := hown2.is32
  have hB2 := ext_trans HB1.out hb2
  obtain ⟨rs, hrs⟩ : ∃ rs, decL l = rs := ⟨_, rfl⟩
  rw [hrs] at hd HBD hs2 hown2
  have HD := Lib.hid hrs
  clear hrs
  obtain ⟨a, cap2, rfl, hc1, hc2, -, hs⟩ := hs2
  unfold maxLen at hc2
  have HC : Hid (0 < rs.length → ∃ b off, a = some ⟨b, off, none⟩ ∧ Cells w2 b off rs.length (i32At rs)) := Lib.hid hs
  have HB2 := Lib.hid hB2
  clear hs hown2 hb2 hB2
  go_wp2_with fail
  go_loopw [5, 7] (fun ts ti wr => ∃ i : Nat, i ≤ rs.length ∧ ti = .int .i64 i ∧ ts = .string ⟨(rencF k (rs.take i)).toArray⟩ ∧ Below w2.heap.size w2 wr) (fun _ ti _ => rs.length - (intOf ti).toNat)
  case atStart => exact ⟨0, by omega, rfl, by simp [rencF], Below.refl _ _⟩
  case round =>
    obtain ⟨i, hi, rfl, rfl, hbel⟩ := hrel
    by_cases hlt : i < rs.length
    · obtain ⟨b', off, rfl, hc⟩ := HC.out (by omega)
      have hcell : wr.cell? ⟨b', off + i, none⟩ = some (.int .i32 (rs.getD i 0)) := (hc.below hbel (hc.lt (by omega))).at i hlt
      have HT := Lib.hid (rencF_take k rs i hlt)
      obtain ⟨hr1, hr2⟩ := HBD.out i hlt
      have HCC := Lib.hid (hc.lt (by omega))
      have hcc := hc
      clear hc HC
      obtain ⟨r, hr⟩ : ∃ r, rs.getD i 0 = r := ⟨_, rfl⟩
      rw [hr] at hcell hr1 hr2
      have HR := Lib.hid hr
      clear hr
      go_wp2_with fail
      refine (bytes_any r _ hr1 hr2).mono ?_
      rintro e w3 ⟨v3, rfl, hown3, hb3⟩
      have hs3 := hown3.is8
      have hB3 : Below w2.heap.size w2 w3 := ext_trans hbel hb3
      have hcell3 : w3.cell? ⟨b', off + i, none⟩ = some (.int .i32 r) := by rw [← HR.out]; exact (hcc.below hB3 HCC.out).at i hlt
      have hbl := encR_len (fixR r)
      cases hp : pinB k r with
      | false =>
        have HP := Lib.hid hp
        have HE : Hid (rpe k (rs.getD i 0) = encR (fixR r)) := Lib.hid (by unfold rpe; rw [HR.out, hp]; rfl)
        have HS3 := Lib.hid hs3
        have HB3 := Lib.hid hB3
        clear hp hs3 hown3 hb3 hcell hB3 hcc
        have hL0 := rencF_len k (rs.take i)
        rw [List.length_take] at hL0
        have hL : (rencF k (rs.take i)).length + (encR (fixR r)).length ≤ 9223372036854775807 := by omega
        clear hL0
        go_wp2_with fail
        refine (rIn_any k r _ h0 h1 hr1 hr2).mono ?_
        rintro e w' ⟨rfl, rfl⟩
        rw [HP.out]
        go_wp2_with (refine wpList_toStr _ (by rfl) 42 9 _ rfl 5 Tryz.underlying42 Tryz.underlying5 Tryz.underlying9 _ rfl _ HS3.out ?_)
        exact ⟨⟨i + 1, by omega, by go_num, by rw [HT.out, HE.out], HB3.out⟩, by simp [intOf]; omega⟩
      | true =>
        have HP := Lib.hid hp
        have HE : Hid (rpe k (rs.getD i 0) = hexsL (encR (fixR r))) := Lib.hid (by unfold rpe; rw [HR.out, hp]; rfl)
        generalize encR (fixR r) = bs at *
        obtain ⟨a3, cap3, rfl, hc31, hc32, -, hs3⟩ := hs3
        unfold maxLen at hc32
        have HC3 : Hid (0 < bs.length → ∃ b off, a3 = some ⟨b, off, none⟩ ∧ Cells w3 b off bs.length (u8At bs)) := Lib.hid hs3
        have HB3 := Lib.hid hB3
        clear hp hs3 hown3 hb3 hcell hcc hB3
        obtain ⟨wo, rfl⟩ : ∃ wo : World, wo = wr := ⟨_, rfl⟩
        go_wp2_with fail
        refine (rIn_any k r _ h0 h1 hr1 hr2).mono ?_
        rintro e w' ⟨rfl, rfl⟩
        rw [HP.out]
        go_wp2_with fail
        go_loopw [5, 9] (fun ts tm wr => ∃ m : Nat, m ≤ bs.length ∧ tm = .int .i64 m ∧ ts = .string ⟨(rencF k (rs.take i) ++ hexsL (bs.take m)).toArray⟩ ∧ Below w3.heap.size w3 wr) (fun _ tm _ => bs.length - (intOf tm).toNat)
        case atStart => exact ⟨0, by omega, rfl, by simp [hexsL], Below.refl _ _⟩
        case round =>
          obtain ⟨m, hm, rfl, rfl, hbel3⟩ := hrel
          by_cases hlm : m < bs.length
          · obtain ⟨b3, off3, rfl, hc3⟩ := HC3.out (by omega)
            have hcell4 : wr.cell? ⟨b3, off3 + m, none⟩ = some (.int .u8 (byt bs m)) := (hc3.below hbel3 (hc3.lt (by omega))).at m hlm
            have HX := Lib.hid (hexsL_take bs m hlm)
            have c0 := byt_lo bs m
            have c1 := byt_hi bs m
            clear hc3 HC3 hcell3
            have hL0 := rencF_len k (rs.take i)
            rw [List.length_take] at hL0
            have hL1 := hexsL_len (bs.take m)
            rw [List.length_take] at hL1
            have hL2 : (hexS (byt bs m)).length ≤ 3 := Nat.le_refl 3
            have hL : (rencF k (rs.take i)).length + (hexsL (bs.take m)).length + (hexS (byt bs m)).length ≤ 9223372036854775807 := by omega
            clear hL0 hL1 hL2
            go_wp2_with fail
            refine (hexS_any _ _ c0 c1).mono ?_
            rintro e w4 ⟨rfl, hb4⟩
            go_wp2_with fail
            exact ⟨⟨m + 1, by omega, by go_num, by rw [HX.out]; try simp, ext_trans hbel3 hb4⟩, by simp [intOf]; omega⟩
          · obtain rfl : m = bs.length := by omega
            go_wp2_with fail
            go_roundw
            case rel => exact ⟨i + 1, by omega, by go_num, by rw [HT.out, HE.out]; simp, HB3.out.trans (hbel3.mono HB3.out.size)⟩
            case measure => simp [intOf]; omega
    · obtain rfl : i = rs.length := by omega
      go_wp2_with fail
      go_ret
      exact ⟨by rw [HD.out]; simp, HB2.out.trans (hbel.mono HB2.out.size)⟩
theorem nextL_ok (l : List UInt8) : okR (nextL l).1 := by
  by_cases h0 : l.length = 0
  · unfold nextL okR; rw [if_pos h0]; show _ ∧ _; exact ⟨by show (0:Int) ≤ 0; omega, by show (0:Int) ≤ 1114111; omega, by show ¬ (_ ∧ _); intro h; exact absurd h.1 (by decide)⟩
  · have hn := nextL_n l (by omega)
    cases hv : (nextL l).2.2 with
    | true => exact (next_valid (l := l) (r := (nextL l).1) (n := (nextL l).2.1) (by rw [← hv])).1
    | false => rw [(hn.2.2.2 hv).1]; unfold okR; decide
theorem decL_ok : ∀ (n : Nat) (l : List UInt8), l.length ≤ n → ∀ r ∈ decL l, okR r := by
  intro n
  induction n with
  | zero => intro l h r hr; rw [decL_nil (by omega)] at hr; simp at hr
  | succ n ih =>
    intro l h r hr
    by_cases h0 : l.length = 0
    · rw [decL_nil h0] at hr; simp at hr
    · have hn := nextL_n l (by omega)
      rw [decL_cons (by omega)] at hr
      rcases List.mem_cons.1 hr with rfl | hr
      · exact nextL_ok l
      · exact ih _ (by simp; omega) r hr
theorem okR_r {r : Int} (h : okR r) : 0 ≤ r ∧ r ≤ 1114111 := by unfold okR at h; omega
theorem encR_high {r : Int} (h : okR r) (h1 : 128 ≤ r) : ∀ b ∈ encR r, 128 ≤ (b.toNat : Int) ∧ (b.toNat : Int) ≤ 255 := by
  have h2 := okR_r h
  intro b hb
  have hb2 := b.toNat_lt
  refine ⟨?_, by omega⟩
  unfold encR at hb
  rw [if_neg (by omega)] at hb
  split at hb
  · simp only [List.mem_cons, List.not_mem_nil, or_false] at hb
    rcases hb with rfl | rfl <;> rw [mkB_val (by omega) (by omega)] <;> omega
  · split at hb
    · simp only [List.mem_cons, List.not_mem_nil, or_false] at hb
      rcases hb with rfl | rfl | rfl <;> rw [mkB_val (by omega) (by omega)] <;> omega
    · simp only [List.mem_cons, List.not_mem_nil, or_false] at hb
      rcases hb with rfl | rfl | rfl | rfl <;> rw [mkB_val (by omega) (by omega)] <;> omega
theorem penc_hexs (has bs : List UInt8) (h : ∀ b ∈ bs, inB has b.toNat = true) : penc has bs = hexsL bs := by
  induction bs with
  | nil => rfl
  | cons b t ih =>
    show pe has b ++ penc has t = hexS b.toNat ++ hexsL t
    rw [ih fun b hb => h b (List.mem_cons_of_mem _ hb)]
    unfold pe; rw [h b List.mem_cons_self]; rfl
theorem rpe_pe (k r : Int) (hr : okR r) (hk : moreOk k = true) : rpe k r = penc (moreS k) (encR r) := by
  have hb := okR_r hr
  have hk2 : 0 ≤ k ∧ k ≤ 6 := of_decide_eq_true hk
  unfold rpe
  rw [fixR_of hr]
  by_cases h1 : r < 128
  · have he : encR r = [mkB r] := by unfold encR; rw [if_pos h1]
    have hv : ((mkB r).toNat : Int) = r := mkB_val hb.1 (by omega)
    have hp : pinB k r = inB (moreS k) r := by unfold pinB; rw [hk]; rfl
    rw [he, hp]
    show _ = pe (moreS k) (mkB r) ++ []
    unfold pe
    rw [hv]
    cases hi : inB (moreS k) r
    · rfl
    · show hexS _ ++ [] = _ ++ []
      rw [hv]; rfl
  · rw [pinB_high k r hk2 hb.1 hb.2 (by omega), if_pos rfl]
    rw [penc_hexs _ _ fun b hbm => ?_]
    · rfl
    · have := encR_high hr (by omega) b hbm
      exact inB_high (by omega) (by omega) (by omega)
theorem renc_eq (k : Int) (l : List UInt8) : rencF k (decL l) = pencL k l := by
  have hok := decL_ok _ l (Nat.le_refl _)
  unfold pencL rencF plainL
  generalize decL l = rs at *
  cases hk : moreOk k with
  | true =>
    rw [if_pos rfl]
    induction rs with
    | nil => rfl
    | cons r t ih =>
      rw [List.flatMap_cons, ih fun r hr => hok r (List.mem_cons_of_mem _ hr), rpe_pe k r (hok r List.mem_cons_self) hk]
      show _ = penc _ (encR (fixR r) ++ encL t)
      rw [penc_append, fixR_of (hok r List.mem_cons_self)]
  | false =>
    rw [if_neg (by decide)]
    induction rs with
    | nil => rfl
    | cons r t ih =>
      rw [List.flatMap_cons, ih fun r hr => hok r (List.mem_cons_of_mem _ hr)]
      have hp : pinB k r = false := by unfold pinB; rw [hk]; rfl
      unfold rpe; rw [hp]; rfl
end Go.Proofs.YtaphadmcjimmeaaGreatDoor
