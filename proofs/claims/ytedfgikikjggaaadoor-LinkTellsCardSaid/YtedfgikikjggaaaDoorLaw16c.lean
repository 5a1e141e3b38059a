/- The walk of LinkTells. -/
import Derived.Test.YtedfgikikjggaaaDoorLnkW
import Derived.Test.YtedfgikikjggaaaDoorLnkG
import Derived.Test.YtedfgikikjggaaaDoorMe1
import Derived.Test.YtedfgikikjggaaaDoorMd1
import Derived.Deep.RegionHeld3
set_option linter.unusedVariables false
set_option linter.unusedSimpArgs false
namespace Go.Proofs.YtedfgikikjggaaaDoor
open Go.RowKit

theorem TreeIs.apart {w w' : World} {t g : Nat} {all : List Nd} {c : Int} {v : Value} {z : Int} (h : TreeIs w t all c) (hb : Box w g 33 [v, .int .i64 z]) (hv : ∃ a n k, v = .slice a n k) (hg : w.grownBy w' (some g)) : TreeIs w' t all c := by
  obtain ⟨m1, m2, sl, n, h1, h2, ⟨n2, f, h3, h3'⟩, h4⟩ := h
  have hb2 : w.heap[g]? = some (.cells #[v, .int .i64 z] 33 (0, 0)) := hb
  have ht : t ≠ g := by
    rintro rfl
    have h5 : w.heap[t]? = some (.cells #[.map (some m1), .map (some m2), sl, .int .i64 c] 59 (0, 0)) := h1
    rw [hb2] at h5
    injection h5 with h5
    injection h5 with _ h6 _
    exact absurd h6 (by decide)
  refine ⟨m1, m2, sl, n, h1.grown hg (fun e => ht (by injection e with e; exact e.symm)), h2.kept hg (fun e => h2.ne_cells hb2 (by injection e)), ⟨n2, f, h3.kept hg (fun e => h3.ne_cells hb2 (by injection e)), h3'.grown hg fun q u hu => .inr fun e => ?_⟩, ?_⟩
  · have h5 := h3' q
    rw [hu] at h5
    exact h5.notBox hb (by decide) e
  · obtain ⟨a, cap, e1, e2, e3, e5, e4⟩ := h4
    refine ⟨a, cap, e1, e2, e3, e5, fun h0 => ?_⟩
    obtain ⟨g3, off, e6, e7⟩ := e4 h0
    refine ⟨g3, off, e6, fun i hi => ?_⟩
    obtain ⟨q0, q1, q2⟩ := e7 i hi
    have hne : g3 ≠ g := by
      rintro rfl
      obtain ⟨a', n', k', rfl⟩ := hv
      rw [hb.cell] at q0
      have h01 : off + i * 3 = 0 ∨ off + i * 3 = 1 ∨ 2 ≤ off + i * 3 := by omega
      rcases h01 with h01 | h01 | h01
      · rw [h01] at q0; cases q0
      · rw [h01] at q0; cases q0
      · rw [List.getElem?_eq_none (by simpa using h01)] at q0; cases q0
    have hc : ∀ o, w'.cell? ⟨g3, o, none⟩ = w.cell? ⟨g3, o, none⟩ := fun o => by
      refine World.cell?_of_block (hg.block g3 (World.block_lt_of_cell? w _ q0) (fun e => hne (by injection e)))
    rw [hc, hc, hc]
    exact ⟨q0, q1, q2⟩
theorem RAt.apart {w w' : World} {B t r : Nat} {all all' : List Nd} {z c : Int} (h : RAt w B r all z) (ht : TreeIs w t all' c) (hg : w.grownBy w' (some t)) : RAt w' B r all z := by
  obtain ⟨v, h1, h2⟩ := h
  obtain ⟨m1, m2, sl, n, h3, -⟩ := ht
  refine ⟨v, h1.grown hg (fun e => ?_), h2.kept hg (.inr (h2.ne h3))⟩
  injection e with e
  subst e
  have h4 : w.heap[t]? = some (.cells #[v, .int .i64 z] 33 (0, 0)) := h1
  have h5 : w.heap[t]? = some (.cells #[.map (some m1), .map (some m2), sl, .int .i64 c] 59 (0, 0)) := h3
  rw [h4] at h5
  injection h5 with h5
  injection h5 with _ h6 _
  exact absurd h6 (by decide)
theorem TreeIs.asked {w w' : World} {B t r : Nat} {all all' : List Nd} {z c : Int} (h : TreeIs w t all c) (hr : RAt w B r all' z) (hg : w.grownBy w' (some r)) : TreeIs w' t all c := by
  obtain ⟨v, h1, h2⟩ := hr
  obtain ⟨a, k, e⟩ := h2.slice
  exact h.apart h1 ⟨a, _, k, e⟩ hg
set_option maxRecDepth 100000 in
set_option maxHeartbeats 16000000 in
theorem tells_walk (v : Value) (ns : List Nd) (p : Bts) (w : World) (hv : IsNds w v ns) (hpl : p.length ≤ 9223372036854775807) (hM : MaxAt w) :
    Calls Tryd.prog 3 #[v, .string ⟨p.toArray⟩] w fun e w' => e = .returned (.bool true) ∧ Below w.heap.size w w' := by
  have HM := Lib.hid hM
  have HV := Lib.hid hv
  have HBG := Lib.hid (fun w' (h : IsNds w' v ns) => Big_any v ns 3000 w' h (by decide) (by decide))
  obtain ⟨a, cap, rfl, -⟩ := hv
  cases hbg : bigN 3000 ns with
  | true =>
    rw [hbg] at HBG
    go_enter Tryd.func3, Tryd.ntmps3
    go_wp2_with fail
    refine (HBG.out _ HV.out).mono ?_
    rintro e w1 ⟨rfl, n1, rfl⟩
    go_wp2_with fail
    refine (awake16_any _ (HM.out.drew n1)).mono ?_
    rintro e w2 ⟨rfl, hb⟩
    go_wp2
    go_ret
    exact ⟨rfl, ext_trans (ext_drew w n1) hb⟩
  | false =>
    obtain ⟨h40, hnb⟩ := bigN_f hbg
    rw [hbg] at HBG
    by_cases hp1 : 100 < p.length
    · have hpI : (100 : Int) < (p.length : Int) := by omega
      go_enter Tryd.func3, Tryd.ntmps3
      go_wp2_with fail
      refine (HBG.out _ HV.out).mono ?_
      rintro e w1 ⟨rfl, n1, rfl⟩
      go_wp2_with fail
      refine (awake16_any _ (HM.out.drew n1)).mono ?_
      rintro e w2 ⟨rfl, hb⟩
      go_wp2
      go_ret
      exact ⟨rfl, ext_trans (ext_drew w n1) hb⟩
    · have hpI : (p.length : Int) ≤ 100 := by omega
      have HNB : Hid (∀ n ∈ ns, n.p.length ≤ 1000000 ∧ n.d.length ≤ 1000000) := Lib.hid (fun n hn => by have := hnb n hn; omega)
      clear hnb hbg
      go_enter Tryd.func3, Tryd.ntmps3
      go_wp2_with fail
      refine (HBG.out _ HV.out).mono ?_
      rintro e w1 ⟨rfl, n1, rfl⟩
      go_wp2_with fail
      refine (New_any _ ns _ (HV.out.drew n1) (HM.out.drew n1) HNB.out (by omega)).mono ?_
      rintro e w2 ⟨hr2, hb2⟩
      have HB2 := Lib.hid (ext_trans (ext_drew w n1) hb2)
      by_cases hg : Good ns
      · obtain ⟨-, t, all, rfl, ht, hwh, hle⟩ := hr2.resolve_left (fun h => h.1 hg)
        have hta := TreeOf.of hwh hg
        have HT2 := Lib.hid ht
        have HWH := Lib.hid hwh
        have htw : w.heap.size ≤ t := hle
        have hal : all.length ≤ 41 := by have := whole_len hwh; omega
        have HM2 := HM.out.below HB2.out
        have HRN := Lib.hid (rNew_any _ ns _ (HV.out.below HB2.out) HNB.out (by omega))
        clear ht hwh hle hb2 hr2 HM2
        go_wp2_with fail
        refine HRN.out.mono ?_
        rintro e w3 ⟨hr3, hb3⟩
        obtain ⟨-, rt, all2, rfl, ⟨rv, hrx, hro⟩, hwh2, hle2⟩ := hr3.resolve_left (fun h => h.1 hg)
        obtain rfl := hwh2.eq HWH.out
        have HT3 := Lib.hid (HT2.out.below hb3)
        have HR3 : Hid (RAt w3 w2.heap.size rt all2 0) := Lib.hid ⟨rv, hrx, hro⟩
        have HB3 := Lib.hid (HB2.out.trans (hb3.mono HB2.out.size))
        have hrw : w.heap.size ≤ rt := Nat.le_trans HB2.out.size hle2
        have HAB : Hid (∀ n ∈ all2, n.p.length ≤ 1024) := Lib.hid (fun n hn => hta.short hn)
        obtain ⟨B, hB⟩ : ∃ B, w2.heap.size = B := ⟨_, rfl⟩
        rw [hB] at HR3
        clear hrx hro hwh2 hle2 hb3 hr3 hg HRN hB HT2
        go_wp2_with fail
        go_loopw [9] (fun ti wr => ∃ j : Nat, j ≤ all2.length + 1 ∧ ti = .int .i64 ((j : Int) - 1) ∧ Hid (TreeIs wr t all2 j) ∧ Hid (RAt wr B rt all2 j) ∧ Hid (Below w.heap.size w wr)) (fun ti _ => all2.length + 1 - (intOf ti + 1).toNat)
        case atStart => exact ⟨0, by omega, rfl, HT3, HR3, HB3⟩
        case round =>
          obtain ⟨j, hj, rfl, HT, HR, HB⟩ := hrel
          obtain ⟨sv, hsx, hso⟩ := HR.out
          obtain ⟨sa, sc, e1⟩ := hso.slice
          subst e1
          have k0 : wr.cell? ⟨rt, 0, none⟩ = some (.slice sa all2.length sc) := by rw [hsx.cell]; rfl
          have k1 : wr.cell? ⟨rt, 1, none⟩ = some (.int .i64 (j : Int)) := by rw [hsx.cell]; rfl
          by_cases hlt : j < all2.length + 1
          · have hltI : (j : Int) - 1 < (all2.length : Int) := by omega
            cases j with
            | zero =>

              have HRA := Lib.hid (Real_any t all2 0 (p) wr HT.out hta (by omega) (by omega) (by omega))
              have HNX : Hid (∀ W, TreeIs W t all2 (0 + 1) → RAt W B rt all2 0 → Calls Tryd.prog 12 #[.pointer (some ⟨rt, 0, none⟩), .string ⟨(p).toArray⟩] W fun e w' => e = .returned (realV all2 (p)) ∧ RAt w' B rt all2 (0 + 1) ∧ W.grownBy w' (some rt)) := Lib.hid (fun W h1 h2 => rReal_any rt B all2 0 (p) W h2 hta (by omega) (by omega) (by omega) (by omega))
              have HRP : Hid (∀ W, wr.grownBy W (some t) → RAt W B rt all2 0) := Lib.hid (fun W hg => HR.out.apart HT.out hg)
              have HVC := realV_cases all2 (p)
              have htR := HT.out.lt
              have hrR := HR.out.lt
              clear HT HR
              go_wp2_with fail
              refine HRA.out.mono ?_
              rintro e w4 ⟨rfl, ht4, hg4⟩
              have HR4 := Lib.hid (HRP.out _ hg4)
              have HT4 := Lib.hid ht4
              have HB4 : Hid (Below w.heap.size w w4) := Lib.hid (HB.out.grown hg4 HB.out.size (fun j hj => by injection hj with hj; omega))
              clear ht4 hg4 HRA HRP
              rcases HVC with ⟨q', k', -, -, hrv⟩ | ⟨er, -, hrv, -⟩
              all_goals
                rw [hrv] at HNX ⊢
                clear hrv
                go_wp2_with fail
                refine (HNX.out _ HT4.out HR4.out).mono ?_
                rintro e w5 ⟨rfl, hr5, hg5⟩
                have HT5 := Lib.hid (HT4.out.asked HR4.out hg5)
                have HR5 := Lib.hid hr5
                have HB5 : Hid (Below w.heap.size w w5) := Lib.hid (HB4.out.grown hg5 HB4.out.size (fun j hj => by injection hj with hj; omega))
                clear hr5 hg5 HNX
                go_wp2_with fail
                exact ⟨⟨1, by omega, by first | rfl | go_num | (congr 1; omega) | (simp; done), HT5, HR5, HB5⟩, by simp [intOf] <;> omega⟩

            | succ m =>
              have hm1 : ((m + 1 : Nat) : Int) - 1 = (m : Int) := by omega
              rw [hm1] at hltI ⊢
              have hml : m < all2.length := by omega
              obtain ⟨g, cap, e2, -⟩ := hso.head (by omega)
              injection e2 with e2 _ e3
              subst e2; subst e3
              obtain ⟨c0, -, -⟩ := hso.at hml
              have hpb := HAB.out _ (ndAt_mem hml)
              have hz1 : (ndAt all2 m).p.length + ([47] : Bts).length ≤ 9223372036854775807 := by simp; omega
              have hz2 : ((ndAt all2 m).p ++ [47]).length + p.length ≤ 9223372036854775807 := by simp; omega
              generalize (ndAt all2 m).p = pp at *

              have HRA := Lib.hid (Real_any t all2 ((m + 1 : Nat) : Int) (pp ++ 47 :: p) wr HT.out hta (by omega) (by omega) (by rw [List.length_append, List.length_cons]; omega))
              have HNX : Hid (∀ W, TreeIs W t all2 (((m + 1 : Nat) : Int) + 1) → RAt W B rt all2 ((m + 1 : Nat) : Int) → Calls Tryd.prog 12 #[.pointer (some ⟨rt, 0, none⟩), .string ⟨(pp ++ 47 :: p).toArray⟩] W fun e w' => e = .returned (realV all2 (pp ++ 47 :: p)) ∧ RAt w' B rt all2 (((m + 1 : Nat) : Int) + 1) ∧ W.grownBy w' (some rt)) := Lib.hid (fun W h1 h2 => rReal_any rt B all2 ((m + 1 : Nat) : Int) (pp ++ 47 :: p) W h2 hta (by omega) (by omega) (by omega) (by rw [List.length_append, List.length_cons]; omega))
              have HRP : Hid (∀ W, wr.grownBy W (some t) → RAt W B rt all2 ((m + 1 : Nat) : Int)) := Lib.hid (fun W hg => HR.out.apart HT.out hg)
              have HVC := realV_cases all2 (pp ++ 47 :: p)
              have htR := HT.out.lt
              have hrR := HR.out.lt
              clear HT HR
              go_wp2_with fail
              refine HRA.out.mono ?_
              rintro e w4 ⟨rfl, ht4, hg4⟩
              have HR4 := Lib.hid (HRP.out _ hg4)
              have HT4 := Lib.hid ht4
              have HB4 : Hid (Below w.heap.size w w4) := Lib.hid (HB.out.grown hg4 HB.out.size (fun j hj => by injection hj with hj; omega))
              clear ht4 hg4 HRA HRP
              rcases HVC with ⟨q', k', -, -, hrv⟩ | ⟨er, -, hrv, -⟩
              all_goals
                rw [hrv] at HNX ⊢
                clear hrv
                go_wp2_with fail
                refine (HNX.out _ HT4.out HR4.out).mono ?_
                rintro e w5 ⟨rfl, hr5, hg5⟩
                have HT5 := Lib.hid (HT4.out.asked HR4.out hg5)
                have HR5 := Lib.hid hr5
                have HB5 : Hid (Below w.heap.size w w5) := Lib.hid (HB4.out.grown hg5 HB4.out.size (fun j hj => by injection hj with hj; omega))
                clear hr5 hg5 HNX
                go_wp2_with fail
                exact ⟨⟨m + 2, by omega, by first | rfl | go_num | (congr 1; omega) | (simp; done), HT5, HR5, HB5⟩, by simp [intOf] <;> omega⟩

          · obtain rfl : j = all2.length + 1 := by omega
            have hltI : ¬ ((all2.length + 1 : Nat) : Int) - 1 < (all2.length : Int) := by omega
            have HA := Lib.hid (Asked_any t all2 ((all2.length + 1 : Nat) : Int) (wr.drewN 1) (HT.out.below (ext_drew wr 1)) (by omega) (by omega))
            obtain ⟨N, hN⟩ : ∃ N : Int, ((all2.length + 1 : Nat) : Int) = N := ⟨_, rfl⟩
            rw [hN] at hltI k1 HA ⊢
            have hNN : (N == N) = true := beq_self_eq_true N
            clear HT HR hso hsx
            go_wp2_with fail
            go_region_held3 (fun w' => w'.cell? ⟨rt, 1, none⟩ = some (.int .i64 N)) (first | assumption | (simp [go_sem]; assumption))
              (first
              | (go_at_call 13; refine HA.out.mono ?_; rintro e w6 ⟨rfl, rfl⟩)
              | (go_at_call 8; refine (awake16_any _ ((HM.out.below HB.out).drew 1)).mono ?_; rintro e w8 ⟨rfl, hb8⟩; have HB8 := Lib.hid hb8; have k8 : w8.cell? ⟨rt, 1, none⟩ = some (.int .i64 N) := (by have := cellKeep hb8 (a := ⟨rt, 1, none⟩) (v := .int .i64 N) k1; exact this); clear hb8))
            go_wp2_with fail
            go_ret
            exact ⟨by first | rfl | (simp; done), ext_trans (below_dr HB.out 1) HB8.out⟩
      · obtain ⟨-, rfl⟩ := hr2.resolve_right (fun h => hg h.1)
        have HRN := Lib.hid (rNew_any _ ns _ (HV.out.below HB2.out) HNB.out (by omega))
        clear hb2 hr2
        go_wp2_with fail
        refine HRN.out.mono ?_
        rintro e w3 ⟨hr3, hb3⟩
        obtain ⟨-, rfl⟩ := hr3.resolve_right (fun h => hg h.1)
        have HB3 := Lib.hid (HB2.out.trans (hb3.mono HB2.out.size))
        clear hb3 hr3 hg
        go_wp2_with fail
        refine (awake16_any _ (HM.out.below HB3.out)).mono ?_
        rintro e w7 ⟨rfl, hb7⟩
        go_wp2
        go_ret
        exact ⟨by first | rfl | (simp; done), HB3.out.trans (hb7.mono HB3.out.size)⟩
end Go.Proofs.YtedfgikikjggaaaDoor
