/- The walks of GlobFits, GlobTurns. -/
import Derived.Test.YtiomkjpgoehchaaLaw24a
import Derived.Test.YtiomkjpgoehchaaGlobF
set_option linter.unusedVariables false
set_option linter.unusedSimpArgs false
namespace Go.Proofs.Ytiomkjpgoehchaa
open Go.RowKit

theorem eq_t {a b : List UInt8} (h : a = b) : (a == b) = true := by rw [beq_iff_eq]; exact h
theorem eq_f {a b : List UInt8} (h : a ≠ b) : (a == b) = false := by rw [beq_eq_false_iff_ne]; exact h

set_option maxRecDepth 100000 in
set_option maxHeartbeats 4000000 in
theorem fits_walk (a t b : List UInt8) (w : World) (ha : a.length ≤ 9223372036854775807) (hb : t.length ≤ 9223372036854775807) (hs : b.length ≤ 9223372036854775807) :
    Calls Try.prog 5 #[.string ⟨a.toArray⟩, .string ⟨t.toArray⟩, .string ⟨b.toArray⟩] w fun e w' => e = .returned (.bool true) ∧ Below w.heap.size w w' := by
  cases hl : longB 120 [a, t, b] with
  | true =>
    have HL := Lib.hid hl
    clear hl
    go_enter Try.func5, Try.ntmps5
    go_wp2_with fail
    refine (long_any 120 _ [a, t, b] _ (litS _ _ [a, t, b] 3 9 _ (by rw [heap_alloc_at, if_pos (by simp)]; rfl) rfl (by decide)) (by decide) (by decide) (by simp) (by intro x hx; simp at hx; rcases hx with rfl | rfl | rfl <;> omega)).mono ?_
    rintro e w1 ⟨rfl, k, rfl⟩
    rw [HL.out]
    go_wp2_with fail
    refine (awake24_any _).mono ?_
    rintro e w1 ⟨rfl, hb⟩
    go_wp2
    go_ret
    exact ⟨rfl, ext_trans (below_drewN (ext_alloc _ _) k) hb⟩
  | false =>
    have hT := longB_tot [a, t, b] 120 hl (by simp)
    have hT2 : a.length + t.length + b.length ≤ 120 := by simp [totL] at hT; omega
    have HL := Lib.hid hl
    clear hl hT
    have hab : a.length + b.length ≤ 9223372036854775807 := by omega
    go_enter Try.func5, Try.ntmps5
    go_wp2_with fail
    refine (long_any 120 _ [a, t, b] _ (litS _ _ [a, t, b] 3 9 _ (by rw [heap_alloc_at, if_pos (by simp)]; rfl) rfl (by decide)) (by decide) (by decide) (by simp) (by intro x hx; simp at hx; rcases hx with rfl | rfl | rfl <;> omega)).mono ?_
    rintro e w1 ⟨rfl, k, rfl⟩
    rw [HL.out]
    go_wp2_with fail
    obtain ⟨W, hW⟩ : ∃ W, (w.alloc (.cells #[.string ⟨a.toArray⟩, .string ⟨t.toArray⟩, .string ⟨b.toArray⟩] 9)).drewN k = W := ⟨_, rfl⟩
    have HBW : Hid (Below w.heap.size w W) := Lib.hid (by rw [← hW]; exact below_drewN (ext_alloc w _) k)
    rw [hW]
    clear hW
    go_loop [7] (fun ti => ∃ i : Nat, i ≤ a.length + b.length ∧ ti = .int .i64 i ∧ Hid (∀ q, q < i → byt (a ++ b) q ≠ 42)) (fun ti => a.length + b.length - (intOf ti).toNat)
    case atStart => exact ⟨0, by omega, rfl, Lib.hid (fun q h => by omega)⟩
    case round =>
      obtain ⟨i, hi, rfl, HN⟩ := hrel
      have b0 := byt_lo (a ++ b) i
      have b1 := byt_hi (a ++ b) i
      by_cases hlt : i < a.length + b.length
      · by_cases h42 : byt (a ++ b) i = 42
        · have h2 : (byt (a ++ b) i == 42) = true := by rw [beq_iff_eq]; exact h42
          clear h42
          go_wp2_with fail
          refine (awake24_any _).mono ?_
          rintro e w1 ⟨rfl, hb⟩
          go_wp2
          go_ret
          exact ⟨rfl, ext_trans HBW.out hb⟩
        · have h2 : (byt (a ++ b) i == 42) = false := by rw [beq_eq_false_iff_ne]; exact h42
          have HE := Lib.hid h42
          clear h42
          go_wp2
          go_round
          case rel => exact ⟨i + 1, by omega, by go_num, Lib.hid (fun q hq => by
            by_cases hqi : q = i
            · subst hqi; exact HE.out
            · exact HN.out q (by omega))⟩
          case measure => simp [intOf]; omega
      · obtain rfl : i = a.length + b.length := by omega
        have hno : ∀ q, q < (a ++ b).length → byt (a ++ b) q ≠ 42 := fun q hq => HN.out q (by rwa [List.length_append] at hq)
        have F1 := fits_one (t := t) hno
        have M1 : Hid (∀ w, Calls Try.prog 11 #[.string ⟨(a ++ 42 :: b).toArray⟩, .string ⟨(a ++ (t ++ b)).toArray⟩] w fun e w' => e = .returned (.tuple #[.string ⟨t.toArray⟩, .bool (decide (0 < t.length))]) ∧ ∃ n, w' = w.drewN n) := Lib.hid (fun w => by
          have := Match_any (a ++ 42 :: b) (a ++ (t ++ b)) w (by simp; omega) (by simp; omega)
          rw [F1.1, F1.2] at this; exact this)
        have F2 := fits_two (a ++ (t ++ b)) hno
        have M2 : Hid (∀ w, Calls Try.prog 11 #[.string ⟨(a ++ 42 :: 42 :: b).toArray⟩, .string ⟨(a ++ (t ++ b)).toArray⟩] w fun e w' => e = .returned (.tuple #[.string ⟨#[]⟩, .bool false]) ∧ ∃ n, w' = w.drewN n) := Lib.hid (fun w => by
          have := Match_any (a ++ 42 :: 42 :: b) (a ++ (t ++ b)) w (by simp; omega) (by simp; omega)
          rw [F2, mtch_no F2] at this; exact this)
        have F3 := fits_none (a ++ b) hno
        have M3 : Hid (∀ w, Calls Try.prog 11 #[.string ⟨(a ++ b).toArray⟩, .string ⟨(a ++ b).toArray⟩] w fun e w' => e = .returned (.tuple #[.string ⟨#[]⟩, .bool false]) ∧ ∃ n, w' = w.drewN n) := Lib.hid (fun w => by
          have := Match_any (a ++ b) (a ++ b) w (by simp; omega) (by simp; omega)
          rw [F3, mtch_no F3] at this; exact this)
        clear F1 F2 F3 hno HN
        have g1 : a.length + 1 ≤ 9223372036854775807 := by omega
        have g2 : a.length + 1 + b.length ≤ 9223372036854775807 := by omega
        have g3 : a.length + t.length ≤ 9223372036854775807 := by omega
        have g4 : a.length + t.length + b.length ≤ 9223372036854775807 := by omega
        have g5 : a.length + 2 ≤ 9223372036854775807 := by omega
        have g6 : a.length + 2 + b.length ≤ 9223372036854775807 := by omega
        by_cases ht : t = []
        · subst ht
          rw [List.nil_append] at M1 M2
          have hd : decide (0 < ([] : List UInt8).length) = false := rfl
          go_wp2_with fail
          refine (M1.out _).mono ?_
          rintro e w1 ⟨rfl, n1, rfl⟩
          rw [hd]
          go_wp2_with fail
          refine (M2.out _).mono ?_
          rintro e w1 ⟨rfl, n2, rfl⟩
          go_wp2_with fail
          refine (M3.out _).mono ?_
          rintro e w1 ⟨rfl, n3, rfl⟩
          go_wp2_with fail
          refine (awake24_any _).mono ?_
          rintro e w2 ⟨rfl, hb⟩
          go_wp2
          go_ret
          exact ⟨by first | rfl | (simp; done), ext_trans (below_drewN HBW.out _) hb⟩
        · have hd : decide (0 < t.length) = true := decide_eq_true (by cases t with | nil => exact absurd rfl ht | cons x y => simp)
          have ht2 : t.isEmpty = false := by cases t with | nil => exact absurd rfl ht | cons x y => rfl
          have ht3 : (t == []) = false := by rw [beq_eq_false_iff_ne]; exact ht
          go_wp2_with fail
          refine (M1.out _).mono ?_
          rintro e w1 ⟨rfl, n1, rfl⟩
          rw [hd]
          go_wp2_with fail
          refine (M2.out _).mono ?_
          rintro e w1 ⟨rfl, n2, rfl⟩
          go_wp2_with fail
          refine (M3.out _).mono ?_
          rintro e w1 ⟨rfl, n3, rfl⟩
          go_wp2_with fail
          refine (awake24_any _).mono ?_
          rintro e w2 ⟨rfl, hb⟩
          go_wp2
          go_ret
          exact ⟨by first | rfl | (simp; done), ext_trans (below_drewN HBW.out _) hb⟩
theorem GlobFits_walk (s0 s1 s2 : ByteArray) (w : World) (w0 : s0.size ≤ maxLen) (w1 : s1.size ≤ maxLen) (w2 : s2.size ≤ maxLen) :
    Calls Try.prog 5 #[.string s0, .string s1, .string s2] w fun e w' => e = .returned (.bool true) ∧ Below w.heap.size w w' := by
  rw [str_is s0, str_is s1, str_is s2]
  exact fits_walk _ _ _ w (str_len w0) (str_len w1) (str_len w2)

set_option maxRecDepth 100000 in
set_option maxHeartbeats 4000000 in
theorem turns_walk (a0 : Option Addr) (cap0 : Nat) (ks : List (List UInt8)) (s : List UInt8) (w : World) (hv : IsStr w (.slice a0 ks.length cap0) ks) (hks : ∀ k ∈ ks, k.length ≤ 9223372036854775807) (hs : s.length ≤ 9223372036854775807) :
    Calls Try.prog 7 #[.slice a0 ks.length cap0, .string ⟨s.toArray⟩] w fun e w' => e = .returned (.bool true) ∧ Below w.heap.size w w' := by
  have HV := Lib.hid hv
  have HMS := Lib.hid hks
  obtain ⟨a', c', hv', q1, q2, q3, q4⟩ := hv
  injection hv' with e1 e2 e3
  subst e1; subst e3
  unfold maxLen at q2
  have HC : Hid (0 < ks.length → ∃ b off, a0 = some ⟨b, off, none⟩ ∧ Cells w b off ks.length (strAt ks)) := Lib.hid q4
  clear hks q3 q4
  by_cases h20 : 20 < ks.length
  · go_enter Try.func7, Try.ntmps7
    go_wp2_with fail
    refine (awake24_any _).mono ?_
    rintro e w1 ⟨rfl, hb⟩
    go_wp2
    go_ret
    exact ⟨rfl, hb⟩
  · have hd0 : decide ((20 : Int) < (ks.length : Int)) = false := by simp; omega
    cases hl : longB 300 ks with
    | true =>
      have HL := Lib.hid hl
      clear hl
      go_enter Try.func7, Try.ntmps7
      go_wp2_with fail
      refine (long_any 300 _ ks _ HV.out (by decide) (by decide) (by omega) (fun s h => by have := HMS.out s h; omega)).mono ?_
      rintro e w1 ⟨rfl, k, rfl⟩
      rw [HL.out]
      go_wp2_with fail
      refine (awake24_any _).mono ?_
      rintro e w1 ⟨rfl, hb⟩
      go_wp2
      go_ret
      exact ⟨rfl, ext_trans (ext_drew _ k) hb⟩
    | false =>
      have HKS := Lib.hid (long_mem (n := 300) hl)
      have HL := Lib.hid hl
      clear hl
      by_cases h60 : 60 < s.length
      · go_enter Try.func7, Try.ntmps7
        go_wp2_with fail
        refine (long_any 300 _ ks _ HV.out (by decide) (by decide) (by omega) (fun s h => by have := HMS.out s h; omega)).mono ?_
        rintro e w1 ⟨rfl, k, rfl⟩
        rw [HL.out]
        go_wp2_with fail
        refine (awake24_any _).mono ?_
        rintro e w1 ⟨rfl, hb⟩
        go_wp2
        go_ret
        exact ⟨rfl, ext_trans (ext_drew _ k) hb⟩
      · have HKG : Hid (∀ i, i < ks.length → (ks.getD i []).length < 300 ∧ ks.getD i [] ∈ ks) := Lib.hid (fun i hi => by
          have : ks.getD i [] ∈ ks := by rw [List.getD_eq_getElem?_getD, List.getElem?_eq_getElem hi]; exact List.getElem_mem _
          exact ⟨HKS.out _ this, this⟩)
        go_enter Try.func7, Try.ntmps7
        go_wp2_with fail
        refine (long_any 300 _ ks _ HV.out (by decide) (by decide) (by omega) (fun s h => by have := HMS.out s h; omega)).mono ?_
        rintro e w1 ⟨rfl, k, rfl⟩
        rw [HL.out]
        go_wp2_with fail
        go_loopw [5, 6] (fun tv ti wr => ∃ (i : Int) (m : Nat), (i = (ks.length : Int) - 1 - m) ∧ m ≤ ks.length ∧ ti = .int .i64 i ∧ Own wr w.heap.size 9 tv ((ks.reverse.take m).map strV) ∧ Below w.heap.size w wr) (fun _ ti _ => (intOf ti + 1).toNat)
        case atStart => exact ⟨_, 0, by omega, by omega, rfl, by simpa using Own.nil _ _ _, ext_drew w k⟩
        case round =>
          obtain ⟨i, m, him, hm, rfl, hown, hbel⟩ := hrel
          by_cases hge : 0 ≤ i
          · obtain ⟨p, hp⟩ := Int.eq_ofNat_of_zero_le hge
            subst hp
            have hpk : p < ks.length := by omega
            obtain ⟨b, off, rfl, hc⟩ := HC.out (by omega)
            have hcell : wr.cell? ⟨b, off + p, none⟩ = some (.string ⟨(ks.getD p []).toArray⟩) := (hc.below hbel (hc.lt (by omega))).at p hpk
            have HT : Hid ((ks.reverse.take (m + 1)).map strV = (ks.reverse.take m).map strV ++ [strV (ks.getD p [])]) := Lib.hid (by
              rw [List.take_succ_eq_append_getElem (by simp; omega), List.map_append, List.getElem_reverse]
              simp only [List.map_cons, List.map_nil]
              congr 2
              rw [List.getD_eq_getElem?_getD, List.getElem?_eq_getElem hpk, Option.getD_some]
              congr 1
              congr 1
              omega)
            obtain ⟨x, hx⟩ : ∃ x, ks.getD p [] = x := ⟨_, rfl⟩
            rw [hx] at hcell HT
            clear hx
            have hc1 : ∀ u ∈ (#[strV x] : Array Value).toList, u.oneCell' = true := by intro u hu; simp at hu; subst hu; rfl
            have hc2 : (((ks.reverse.take m).map strV).length + 1) * 16 ≤ 140737488355328 := by simp; omega
            have hc3 : ((ks.reverse.take m).map strV).length + 1 ≤ 9223372036854775807 := by simp; omega
            have HIM := Lib.hid him
            have hi2 : (p : Int) < ks.length := by omega
            have hsz := hbel.size
            clear hc HC him
            go_wp2_with (at_builtin; refine wpList_appL _ rfl _ _ 33 rfl w.heap.size 9 (.string .empty) 16 ok16 _ _ rfl hown #[strV x] 1 1 rfl rfl hc1 hc2 hc3 hsz ?_)
            intro v' w2 hown2 hgr
            have hb2 : Below w.heap.size w w2 := hbel.grown hgr hsz (fun k hk => (hown.row k hk).1)
            go_wp2
            exact ⟨⟨(p : Int) - 1, m + 1, by have := HIM.out; push_cast; omega, by have := HIM.out; omega, rfl, (congrArg (Own w2 w.heap.size 9 v') (by rw [HT.out, List.map_take, List.map_reverse])).mp hown2, hb2⟩, by first | (simp [intOf]; done) | (simp [intOf]; omega)⟩
          · obtain rfl : m = ks.length := by omega
            obtain rfl : i = -1 := by omega
            rw [show ks.reverse.take ks.length = ks.reverse from List.take_of_length_le (by simp)] at hown
            have HR := Lib.hid hown.isStr
            have HBE := Lib.hid hbel
            have HV1 := Lib.hid (HV.out.below hbel)
            clear hown hbel him
            have HBR := Lib.hid (best_rev s ks)
            go_wp2_with fail
            refine (Best_any _ ks s _ HV1.out (by omega) (fun k h => by have := HKS.out k h; omega) (by omega)).mono ?_
            rintro e x1 ⟨rfl, hb1⟩
            have HB1 := Lib.hid hb1
            have HR1 := Lib.hid (HR.out.below hb1)
            clear hb1
            go_wp2_with fail
            refine (Best_any _ ks.reverse s _ HR1.out (by simp; omega) (fun k h => by have := HKS.out k (by simpa using h); omega) (by omega)).mono ?_
            rintro e x2 ⟨rfl, hb2⟩
            rw [HBR.out]
            have HB2 := Lib.hid hb2
            clear hb2
            have HBB : Hid (Below w.heap.size w x2) := Lib.hid (ext_trans (ext_trans HBE.out HB1.out) HB2.out)
            obtain ⟨st, hst⟩ : ∃ st, bestO s ks = st := ⟨_, rfl⟩
            have HST := Lib.hid hst
            rw [hst]
            clear hst HB1 HB2 HR HR1 HBR
            cases st with
            | none =>
              rw [show bK none = [] from rfl, show bM s none = [] from rfl]
              go_wp2_with fail
              go_loopw [13] (fun ti wq => ∃ (q : Nat), q ≤ ks.length ∧ ti = .int .i64 q ∧ Below w.heap.size w wq) (fun ti _ => ks.length - (intOf ti).toNat)
              case atStart => exact ⟨0, by omega, rfl, HBB.out⟩
              case round =>
                obtain ⟨q, hq, rfl, hbq⟩ := hrel
                by_cases hlt : q < ks.length
                · obtain ⟨b, off, rfl, hc⟩ := HC.out (by omega)
                  have hb0 := hc.lt (by omega)
                  have hcell0 : w.cell? ⟨b, off + q, none⟩ = some (.string ⟨(ks.getD q []).toArray⟩) := hc.at q hlt
                  have hcell : ∀ n, (wr.drewN n).cell? ⟨b, off + q, none⟩ = some (.string ⟨(ks.getD q []).toArray⟩) := fun n => (hc.below hbq hb0).at q hlt
                  have hcell1 := hcell 0
                  have HCK := Lib.hid hcell0
                  obtain ⟨hkl, hkm⟩ := HKG.out q hlt
                  obtain ⟨key, hkey⟩ : ∃ key, ks.getD q [] = key := ⟨_, rfl⟩
                  rw [hkey] at hcell1 hkl hkm HCK
                  have hcell2 : wr.cell? ⟨b, off + q, none⟩ = some (.string ⟨key.toArray⟩) := hcell1
                  clear hc HC hcell hcell1 hkey hcell0
                  cases hf : fitsL key s with
                  | false =>
                    have HF := Lib.hid hf
                    clear hf
                    go_wp2_with fail
                    refine (Match_any key s _ (by omega) (by omega)).mono ?_
                    rintro e y1 ⟨rfl, n, rfl⟩
                    rw [HF.out]
                    go_wp2_with fail
                    exact ⟨⟨q + 1, by omega, by go_num, below_drewN hbq n⟩, by simp [intOf]; omega⟩
                  | true =>
                    obtain ⟨bb, hbo, hbf, hge⟩ := best_of hkm hf
                    exact absurd (HST.out.symm.trans hbo) (by simp)
                · obtain rfl : q = ks.length := by omega
                  go_wp2_with fail
                  refine (awake24_any _).mono ?_
                  rintro e x3 ⟨rfl, hb⟩
                  go_wp2
                  go_ret
                  exact ⟨rfl, ext_trans hbq hb⟩
            | some bb =>
              rw [show bK (some bb) = bb from rfl, show bM s (some bb) = midL bb s from rfl]
              go_wp2_with fail
              go_loopw [13] (fun ti wq => ∃ (q : Nat), q ≤ ks.length ∧ ti = .int .i64 q ∧ Below w.heap.size w wq) (fun ti _ => ks.length - (intOf ti).toNat)
              case atStart => exact ⟨0, by omega, rfl, HBB.out⟩
              case round =>
                obtain ⟨q, hq, rfl, hbq⟩ := hrel
                by_cases hlt : q < ks.length
                · obtain ⟨b, off, rfl, hc⟩ := HC.out (by omega)
                  have hb0 := hc.lt (by omega)
                  have hcell0 : w.cell? ⟨b, off + q, none⟩ = some (.string ⟨(ks.getD q []).toArray⟩) := hc.at q hlt
                  have hcell : ∀ n, (wr.drewN n).cell? ⟨b, off + q, none⟩ = some (.string ⟨(ks.getD q []).toArray⟩) := fun n => (hc.below hbq hb0).at q hlt
                  have hcell1 := hcell 0
                  have HCK := Lib.hid hcell0
                  obtain ⟨hkl, hkm⟩ := HKG.out q hlt
                  obtain ⟨key, hkey⟩ : ∃ key, ks.getD q [] = key := ⟨_, rfl⟩
                  rw [hkey] at hcell1 hkl hkm HCK
                  have hcell2 : wr.cell? ⟨b, off + q, none⟩ = some (.string ⟨key.toArray⟩) := hcell1
                  clear hc HC hcell hcell1 hkey hcell0
                  cases hf : fitsL key s with
                  | false =>
                    have HF := Lib.hid hf
                    clear hf
                    go_wp2_with fail
                    refine (Match_any key s _ (by omega) (by omega)).mono ?_
                    rintro e y1 ⟨rfl, n, rfl⟩
                    rw [HF.out]
                    go_wp2_with fail
                    exact ⟨⟨q + 1, by omega, by go_num, below_drewN hbq n⟩, by simp [intOf]; omega⟩
                  | true =>
                    obtain ⟨bb', hbo, hbf, hge⟩ := best_of hkm hf
                    obtain rfl : bb = bb' := by have := HST.out.symm.trans hbo; injection this
                    have hbbl : bb.length < 300 := by
                      rcases isBest_best s ks with ⟨h, _⟩ | ⟨b', hb', hm', _⟩
                      · rw [h] at hbo; cases hbo
                      · rw [hbo] at hb'; injection hb' with hb'; rw [hb']; exact HKS.out _ hm'
                    have HF := Lib.hid hf
                    have HMT := Lib.hid (mtch_fits hf)
                    have hge2 : 0 ≤ gcmp key bb := by omega
                    clear hf hbo hbf hge
                    by_cases hkb : key = bb
                    · subst hkb
                      go_wp2_with fail
                      refine (Match_any key s _ (by omega) (by omega)).mono ?_
                      rintro e y1 ⟨rfl, n, rfl⟩
                      rw [HF.out, HMT.out]
                      go_wp2_with fail
                      refine (Compare_any key key _ (by omega) (by omega)).mono ?_
                      rintro e y2 ⟨rfl, hb2⟩
                      have hcell3 : y2.cell? ⟨b, off + q, none⟩ = some (.string ⟨key.toArray⟩) := by
                        rw [hb2.cell (p := ⟨b, off + q, none⟩) (by show b < wr.heap.size; have := hbq.size; omega)]; exact hcell2
                      have HB2 := Lib.hid hb2
                      clear hb2
                      go_wp2_with fail
                      exact ⟨⟨q + 1, by omega, by go_num, ext_trans (below_drewN hbq n) HB2.out⟩, by simp [intOf]; omega⟩
                    · have hkb2 := eq_f hkb
                      clear hkb
                      go_wp2_with fail
                      refine (Match_any key s _ (by omega) (by omega)).mono ?_
                      rintro e y1 ⟨rfl, n, rfl⟩
                      rw [HF.out, HMT.out]
                      go_wp2_with fail
                      refine (Compare_any key bb _ (by omega) (by omega)).mono ?_
                      rintro e y2 ⟨rfl, hb2⟩
                      have hcell3 : y2.cell? ⟨b, off + q, none⟩ = some (.string ⟨key.toArray⟩) := by
                        rw [hb2.cell (p := ⟨b, off + q, none⟩) (by show b < wr.heap.size; have := hbq.size; omega)]; exact hcell2
                      have HB2 := Lib.hid hb2
                      clear hb2
                      go_wp2_with fail
                      exact ⟨⟨q + 1, by omega, by go_num, ext_trans (below_drewN hbq n) HB2.out⟩, by simp [intOf]; omega⟩
                · obtain rfl : q = ks.length := by omega
                  go_wp2_with fail
                  refine (awake24_any _).mono ?_
                  rintro e x3 ⟨rfl, hb⟩
                  go_wp2
                  go_ret
                  exact ⟨rfl, ext_trans hbq hb⟩
theorem GlobTurns_walk (a0 : Option Addr) (len0 cap0 : Nat) (z0 : List (List UInt8)) (a1 : ByteArray) (w : World) (w0 : IsRowS w a0 len0 cap0 z0) (w1 : a1.size ≤ maxLen) :
    Calls Try.prog 7 #[.slice a0 len0 cap0, .string a1] w fun e w' => e = .returned (.bool true) ∧ Below w.heap.size w w' := by
  obtain ⟨rfl, h2, h3⟩ := w0
  rw [str_is a1]
  exact turns_walk a0 cap0 z0 _ w h2 (fun k hk => by have := h3 k hk; unfold maxLen at this; omega) (str_len w1)
end Go.Proofs.Ytiomkjpgoehchaa
