import Derived.IntWalk
import Derived.Deep.RegionWith
import Derived.Test.YtaphadmcjimmeaaDoorHb10
import Derived.Test.YtaphadmcjimmeaaDoorHb11
import Derived.Test.YtaphadmcjimmeaaDoorHb13
import Derived.Test.YtaphadmcjimmeaaDoorHb20
set_option linter.unusedVariables false
set_option linter.unusedSimpArgs false
set_option maxRecDepth 100000
namespace Go.Proofs.YtaphadmcjimmeaaDoor
open Go.RowKit
def pencL (k : Int) (l : List UInt8) : List UInt8 := if moreOk k = true then penc (moreS k) (plainL l) else plainL l
theorem ret_s {a b : List UInt8} (h : a = b) : Ending.returned (.string ⟨a.toArray⟩) = .returned (.string ⟨b.toArray⟩) := by rw [h]
theorem byt_take (l : List UInt8) (k i : Nat) (h : i < k) : byt (l.take k) i = byt l i := by
  unfold byt; simp [List.getD, List.getElem?_take, h]
theorem is8_lt {w : World} {b n cap : Nat} {l : List UInt8} (h : Is8 w (.slice (some ⟨b, 0, none⟩) n cap) l) (hn : 0 < n) : b < w.heap.size := by
  obtain ⟨a0, c0, hv, _, _, _, hc⟩ := h
  injection hv with e1 e2 e3
  obtain ⟨b', o', ha, hcs⟩ := hc (by omega)
  rw [ha] at e1
  injection e1 with e1
  injection e1 with e4 e5 e6
  subst e4; subst e5
  exact hcs.lt (by omega)
theorem is8_grown {w w' : World} {b n cap : Nat} {l : List UInt8} {row : Option Nat} (h : Is8 w (.slice (some ⟨b, 0, none⟩) n cap) l) (hg : w.grownBy w' row) (hne : row ≠ some b) : Is8 w' (.slice (some ⟨b, 0, none⟩) n cap) l := by
  obtain ⟨a0, c0, hv, k1, k2, k3, hc⟩ := h
  refine ⟨a0, c0, hv, k1, k2, k3, fun hn => ?_⟩
  obtain ⟨b', o', ha, hcs⟩ := hc hn
  refine ⟨b', o', ha, fun i hi => ?_⟩
  have hb : b' = b := by
    injection hv with e1 e2 e3
    rw [ha] at e1
    injection e1 with e1
    injection e1 with e4 e5 e6
    exact e4.symm
  subst hb
  have hlt := hcs.lt hn
  unfold World.cell?
  rw [hg.block b' hlt (fun h => hne h.symm)]
  exact hcs i hi
set_option maxHeartbeats 4000000 in
theorem pencode_any (l : List UInt8) (k : Int) (w : World) (hm : l.length ≤ 300000) (h0 : -9223372036854775808 ≤ k) (h1 : k ≤ 9223372036854775807) :
    Calls Tryd.prog 12 #[.string ⟨l.toArray⟩, .int .i64 k] w fun e w' => e = .returned (.string ⟨(pencL k l).toArray⟩) ∧ Below w.heap.size w w' := by
  have hpl : (plainL l).length ≤ 1200000 := by
    have a := (encL_len (decL l)).2
    have b := decL_len _ l (Nat.le_refl _)
    unfold plainL; omega
  have hm1 : l.length ≤ 1000000 := by omega
  cases hk : moreOk k with
  | false =>
    have HF : Hid (pencL k l = plainL l) := Lib.hid (by unfold pencL; rw [hk, if_neg (by decide)])
    have HK := Lib.hid hk
    clear hk
    go_enter Tryd.func12, Tryd.ntmps12
    go_wp2_with fail
    refine (plain_any l _ hm1).mono ?_
    rintro e w1 ⟨rfl, hb1⟩
    have HB1 := Lib.hid hb1
    clear hb1
    go_wp2_with fail
    refine (more_any k _ h0 h1).mono ?_
    rintro e w' ⟨rfl, rfl⟩
    rw [HK.out]
    go_wp2_with fail
    go_ret
    exact ⟨ret_s HF.out.symm, HB1.out⟩
  | true =>
    have HF : Hid (pencL k l = penc (moreS k) (plainL l)) := Lib.hid (by unfold pencL; rw [hk, if_pos rfl])
    have HK := Lib.hid hk
    clear hk
    go_enter Tryd.func12, Tryd.ntmps12
    go_wp2_with fail
    refine (plain_any l _ hm1).mono ?_
    rintro e w1 ⟨rfl, hb1⟩
    have HB1 := Lib.hid hb1
    clear hb1
    go_wp2_with fail
    refine (more_any k _ h0 h1).mono ?_
    rintro e w' ⟨rfl, rfl⟩
    rw [HK.out]
    generalize plainL l = p at *
    generalize moreS k = has at *
    go_wp2_with fail
    go_loop [7] (fun ti => ∃ j : Nat, j ≤ p.length ∧ ti = .int .i64 j ∧ Hid (∀ i, i < j → inB has (byt p i) = false)) (fun ti => p.length - (intOf ti).toNat)
    case atStart => exact ⟨0, by omega, rfl, Lib.hid (fun i h => by omega)⟩
    case round =>
      obtain ⟨j, hj, rfl, HN⟩ := hrel
      have b0 := byt_lo p j
      have b1 := byt_hi p j
      by_cases hlt : j < p.length
      · cases hin : inB has (byt p j) with
        | false =>
          have HI := Lib.hid hin
          clear hin
          go_wp2_with (go_at_call 28; refine (in_any has (byt p j) _ (by omega) (by omega)).mono ?_; rintro e w' ⟨rfl, rfl⟩; rw [HI.out])
          go_round
          case rel => exact ⟨j + 1, by omega, by go_num, Lib.hid (fun i h => by
            by_cases hi : i = j
            · subst hi; exact HI.out
            · exact HN.out i (by omega))⟩
          case measure => simp [intOf]; omega
        | true =>
          have HI := Lib.hid hin
          clear hin
          have e1 : ((j : Int) == p.length) = false := by rw [beq_eq_false_iff_ne]; omega
          go_wp2_with (go_at_call 28; refine (in_any has (byt p j) _ (by omega) (by omega)).mono ?_; rintro e w' ⟨rfl, rfl⟩; rw [HI.out])
          have g2 : IntKind.i64.wrap ((p.length : Int) / 2) = (p.length : Int) / 2 := IntWalk.i64_in _ (by omega)
          have g1 : IntKind.i64.wrap ((p.length : Int) + (p.length : Int) / 2) = (p.length : Int) + (p.length : Int) / 2 := IntWalk.i64_in _ (by omega)
          obtain ⟨w2, hmk, hown1, hgr1⟩ := make0_run (P := Tryd.prog) w1.drew 44 w.heap.size 5 (.int .u8 0) 1 ok8 .i64 .i64 ((p.length : Int) + (p.length : Int) / 2) (p.length + p.length / 2) (by omega) (by omega) (by omega) HB1.out.size
          have hsz1 : w.heap.size ≤ w2.heap.size := Nat.le_trans HB1.out.size hgr1.size
          have hlen1 : ([] : List Value).length + (p.take j).length ≤ 140737488355328 := by rw [List.length_take]; simp only [List.length_nil]; omega
          go_region_law (refine step_appStr _ rfl _ _ 44 9 rfl w.heap.size 5 ok8 rfl _ _ (by simp [Act.eval, Act.put]) hown1 (p.take j) (by simp [Act.eval, Act.put]) hlen1 hsz1 ?_; intro v' w3 hown2 hgr2)
          all_goals
            have hb2 : Below w.heap.size w w2 := (below_dr HB1.out 1).grown hgr1 HB1.out.size (fun k hk => by simp at hk)
            have hb3 : Below w.heap.size w w3 := hb2.grown hgr2 hsz1 (fun k hk => (hown1.row k hk).1)
            have hs3 : w.heap.size ≤ w3.heap.size := Nat.le_trans hsz1 hgr2.size
            have hown3 : Own w3 w.heap.size 5 v' ((p.take j).map u8V) := hown2
            clear hmk hown1 hown2 hgr1 hgr2 g1 g2 hlen1 hsz1 hb2
            go_wp2_with (refine wpList_toBytes _ (by rfl) 9 44 _ rfl 5 Tryd.underlying9 Tryd.underlying44 Tryd.underlying5 (p.drop j) (by simp [Act.eval, Act.put]) (by simp; omega) ?_)
            intro b cap w4 h8 hbl hbe
            go_wp2_with fail
            have hb4 : Below w.heap.size w w4 := hb3.trans (hbl.mono hs3)
            have hown4 : Own w4 w.heap.size 5 v' ((p.take j).map u8V) := hown3.below hbl
            have hlb0 : b < w4.heap.size := is8_lt h8 (by omega)
            have hnb : v'.ownBlock ≠ some b := fun h => by have := (hown3.row b h).2; omega
            clear hbe
            go_loopw [8, 57] (fun tv ti wr => ∃ i : Nat, i ≤ p.length - j ∧ ti = .int .i64 i ∧ Own wr w.heap.size 5 tv ((p.take j ++ penc has ((p.drop j).take i)).map u8V) ∧ tv.ownBlock ≠ some b ∧ b < wr.heap.size ∧
              Is8 wr (.slice (some ⟨b, 0, none⟩) (p.length - j) cap) (p.drop j) ∧ Below w.heap.size w wr) (fun _ ti _ => p.length - j - (intOf ti).toNat)
            case atStart => exact ⟨0, by omega, rfl, by simpa [penc] using hown4, hnb, hlb0, h8, hb4⟩
            case round =>
              obtain ⟨i, hi, rfl, hown, hnb, hlb, h8, hbel⟩ := hrel
              by_cases hl2 : i < p.length - j
              · have hdl : (p.drop j).length = p.length - j := List.length_drop
                have b2 := byt_lo (p.drop j) i
                have b3 := byt_hi (p.drop j) i
                have hcell : wr.cell? ⟨b, i, none⟩ = some (.int .u8 (byt (p.drop j) i)) := by
                  obtain ⟨a0, c0, hv, _, _, _, hc⟩ := h8
                  obtain ⟨b', o', ha, hcs⟩ := hc (by omega)
                  injection hv with e1 e2 e3
                  rw [ha] at e1
                  injection e1 with e1
                  injection e1 with e4 e5 e6
                  subst e4; subst e5
                  simpa [u8At] using hcs.at i (by omega)
                have hpt := penc_len has ((p.drop j).take i)
                have hpt1 : ((p.drop j).take i).length = i := by rw [List.length_take]; omega
                have hpt2 : (p.take j).length ≤ p.length := by rw [List.length_take]; omega
                cases hin2 : inB has (byt (p.drop j) i) with
                | false =>
                  have HI2 := Lib.hid hin2
                  have HP := Lib.hid (penc_take has (p.drop j) i (by omega))
                  have HE : Hid (pe has ((p.drop j).getD i 0) = [(p.drop j).getD i 0]) := Lib.hid (by unfold pe; rw [show ((((p.drop j).getD i 0).toNat : Int)) = byt (p.drop j) i from rfl, hin2]; rfl)
                  clear hin2
                  have hsz := hbel.size
                  have hc2 : ((((p.take j ++ penc has ((p.drop j).take i)).map u8V)).length + 1) * 1 ≤ 140737488355328 := by rw [List.length_map, List.length_append]; omega
                  have hc3 : (((p.take j ++ penc has ((p.drop j).take i)).map u8V)).length + 1 ≤ 9223372036854775807 := by rw [List.length_map, List.length_append]; omega
                  have hc1 : ∀ u ∈ (#[Value.int .u8 (byt (p.drop j) i)] : Array Value).toList, u.oneCell' = true := by intro u hu; simp at hu; subst hu; rfl
                  clear hpt hpt1 hpt2 hdl
                  go_wp2_with (first
                    | (go_at_call 28; (with_reducible refine (in_any has (byt (p.drop j) i) _ (by omega) (by omega)).mono ?_); rintro e w' ⟨rfl, rfl⟩; rw [HI2.out])
                    | (at_builtin; refine wpList_appB _ rfl _ _ 44 rfl w.heap.size 5 (.int .u8 0) 1 ok8 _ _ rfl hown #[.int .u8 (byt (p.drop j) i)] 1 1 rfl rfl hc1 hc2 hc3 hsz ?_))
                  intro v' w2 hown2 hgr2 hob2
                  have hb2 : Below w.heap.size w w2 := hbel.grown hgr2 hsz (fun k hk => (hown.row k hk).1)
                  have h82 : Is8 w2 (.slice (some ⟨b, 0, none⟩) (p.length - j) cap) (p.drop j) := is8_grown h8 hgr2 hnb
                  have hnb2 : v'.ownBlock ≠ some b := fun h => by rcases hob2 b h with q | q <;> first | exact hnb q | omega
                  have hlb2 : b < w2.heap.size := Nat.lt_of_lt_of_le hlb hgr2.size
                  go_wp2
                  go_roundw
                  case rel => exact ⟨i + 1, by omega, by go_num, (congrArg (Own w2 w.heap.size 5 v') (by rw [HP.out, HE.out, List.map_append, List.map_append, List.map_take]; rfl)).mp hown2, hnb2, hlb2, h82, hb2⟩
                  case measure => simp [intOf]; omega
                | true =>
                  have HI2 := Lib.hid hin2
                  have HP := Lib.hid (penc_take has (p.drop j) i (by omega))
                  obtain ⟨c, hc⟩ : ∃ c, byt (p.drop j) i = c := ⟨_, rfl⟩
                  have HE : Hid (pe has ((p.drop j).getD i 0) = [37, up (c / 16), up (c % 16)]) := Lib.hid (by unfold pe; rw [show ((((p.drop j).getD i 0).toNat : Int)) = byt (p.drop j) i from rfl, hin2, hc]; rfl)
                  clear hin2
                  rw [hc] at b2 b3 hcell
                  have HC := Lib.hid hc
                  clear hc
                  have hsz := hbel.size
                  have hc2 : ((((p.take j ++ penc has ((p.drop j).take i)).map u8V)).length + 3) * 1 ≤ 140737488355328 := by rw [List.length_map, List.length_append]; omega
                  have hc3 : (((p.take j ++ penc has ((p.drop j).take i)).map u8V)).length + 3 ≤ 9223372036854775807 := by rw [List.length_map, List.length_append]; omega
                  clear hpt hpt1 hpt2 hdl
                  go_wp2_with (go_at_call 28; (with_reducible refine (in_any has c _ (by omega) (by omega)).mono ?_); rintro e w' ⟨rfl, rfl⟩; rw [show inB has c = true by rw [← HC.out]; exact HI2.out])
                  have hc1 : ∀ u ∈ (#[.int .u8 37, u8V (up (c / 16)), u8V (up (c % 16))] : Array Value).toList, u.oneCell' = true := by
                    intro u hu; simp at hu; rcases hu with rfl | rfl | rfl <;> rfl
                  have d0 : 0 ≤ c / 16 := by omega
                  have d1 : c / 16 < 16 := by omega
                  have d2 : 0 ≤ c % 16 := by omega
                  have d3 : c % 16 < 16 := by omega
                  have d4 : bits BinOp.and IntKind.u8 c 15 = c % 16 := u8_and15 c (by omega) (by omega)
                  go_region_law (refine step_appB _ rfl _ _ 44 rfl w.heap.size 5 (.int .u8 0) 1 ok8 _ _ (by simp [Act.eval, Act.put]) (hown.drew 1) #[.int .u8 37, u8V (up (c / 16)), u8V (up (c % 16))] 3 3 (by simp [Act.eval, Act.put]) rfl hc1 hc2 hc3 hsz ?_; intro v' w2 hown2 hgr2 hob2)
                  all_goals
                    have hb2 : Below w.heap.size w w2 := (below_dr hbel 1).grown hgr2 hsz (fun k hk => (hown.row k hk).1)
                    have h82 : Is8 w2 (.slice (some ⟨b, 0, none⟩) (p.length - j) cap) (p.drop j) := is8_grown (h8.drew 1) hgr2 hnb
                    have hnb2 : v'.ownBlock ≠ some b := fun h => by
                      rcases hob2 b h with q | q
                      · exact hnb q
                      · have q2 : wr.heap.size ≤ b := q
                        omega
                    have hlb2 : b < w2.heap.size := Nat.lt_of_lt_of_le hlb hgr2.size
                    clear d4
                    go_wp2
                    go_roundw
                    case rel => exact ⟨i + 1, by omega, by go_num, (congrArg (Own w2 w.heap.size 5 v') (by rw [HP.out, HE.out, List.map_append, List.map_append, List.map_append, List.map_take]; simp [u8V])).mp hown2, hnb2, hlb2, h82, hb2⟩
                    case measure => simp [intOf]; omega
              · have hdl : (p.drop j).length = p.length - j := List.length_drop
                have hall : (p.drop j).take i = p.drop j := List.take_of_length_le (by omega)
                have hpp : p.take j ++ penc has ((p.drop j).take i) = penc has p := by
                  rw [hall]
                  have h1 := penc_none has (p.take j) (fun q hq => by
                    rw [List.length_take] at hq
                    rw [byt_take p j q (by omega)]
                    exact HN.out q (by omega))
                  conv => rhs; rw [← List.take_append_drop j p, penc_append, h1]
                rw [hpp] at hown
                have H85 := Lib.hid hown.is8
                clear hown hall hpp hdl h8
                go_wp2_with (refine wpList_toStr _ (by rfl) 44 9 _ rfl 5 Tryd.underlying44 Tryd.underlying5 Tryd.underlying9 _ rfl (penc has p) H85.out ?_)
                all_goals go_wp2_with fail
                all_goals go_ret
                all_goals exact ⟨ret_s HF.out.symm, hbel⟩
      · obtain rfl : j = p.length := by omega
        have HG : Hid (penc has p = p) := Lib.hid (penc_none has p HN.out)
        go_wp2
        go_ret
        exact ⟨ret_s (HF.out.trans HG.out).symm, HB1.out⟩
end Go.Proofs.YtaphadmcjimmeaaDoor
