/- Contracts of ref24.Match, glob.Best, ref24.Best. -/
import Derived.Test.YtiomkjpgoehchaaGlobB
import Derived.Test.YtiomkjpgoehchaaQuiet
set_option linter.unusedVariables false
set_option linter.unusedSimpArgs false
namespace Go.Proofs.Ytiomkjpgoehchaa
open Go.RowKit

set_option maxHeartbeats 2000000 in
theorem rMatch_any (key s : List UInt8) (w : World) (hk : key.length ≤ 1000000) (hs : s.length ≤ 1000000) :
    Calls Try.prog 12 #[.string ⟨key.toArray⟩, .string ⟨s.toArray⟩] w fun e w' => e = .returned (.tuple #[.string ⟨(mtchL key s).toArray⟩, .bool (fitsL key s)]) ∧ ∃ n, w' = w.drewN n := by
  have hf := fstar_le key
  cases ho : oneStar key with
  | false =>
    have HR : Hid (fitsL key s = false) := Lib.hid (by unfold fitsL; rw [ho]; rfl)
    have HMR : Hid (mtchL key s = []) := Lib.hid (by unfold mtchL; rw [HR.out]; rfl)
    have HN : Hid (starN key = -1) := Lib.hid (by unfold starN; rw [ho]; rfl)
    clear ho
    go_enter Try.func12, Try.ntmps12
    go_wp2_with fail
    refine (star_any key _ hk).mono ?_
    rintro e w' ⟨rfl, rfl⟩
    rw [HN.out]
    go_wp2_with fail
    go_ret2
    exact ⟨tupSB HMR.out.symm HR.out.symm, 0, rfl⟩
  | true =>
    have HN : Hid (starN key = fstar key) := Lib.hid (by unfold starN; rw [ho]; rfl)
    have hlt : fstar key < key.length := by
      unfold oneStar at ho
      have := of_decide_eq_true ho
      exact this.1
    have HFF : Hid (fitsL key s = decide (key.length ≤ s.length ∧ s.take (fstar key) = key.take (fstar key) ∧ s.drop (s.length - (key.length - fstar key - 1)) = key.drop (fstar key + 1))) := Lib.hid (by unfold fitsL; rw [ho]; rfl)
    have HM : Hid (mtchL key s = if fitsL key s then (s.take (s.length - (key.length - fstar key - 1))).drop (fstar key) else []) := Lib.hid rfl
    generalize fstar key = k at *
    clear ho
    by_cases c3 : s.length < key.length
    · have HR : Hid (fitsL key s = false) := Lib.hid (by rw [HFF.out, decide_eq_false (by omega)])
      have HMR : Hid (mtchL key s = []) := Lib.hid (by rw [HM.out, HR.out]; rfl)
      go_enter Try.func12, Try.ntmps12
      go_wp2_with fail
      refine (star_any key _ hk).mono ?_
      rintro e w' ⟨rfl, rfl⟩
      rw [HN.out]
      go_wp2_with fail
      go_ret2
      exact ⟨tupSB HMR.out.symm HR.out.symm, 0, rfl⟩
    · have c5 : key.length ≤ s.length := by omega
      have c6 : k ≤ s.length := by omega
      have c7 : k ≤ key.length := by omega
      have c8 : k + 1 ≤ key.length := by omega
      have d2 : decide (s.length < key.length) = false := by simp; omega
      by_cases e1 : s.take k = key.take k
      · have f1 : (s.take k == key.take k) = true := by rw [beq_iff_eq]; exact e1
        by_cases e2 : s.drop (s.length - (key.length - k - 1)) = key.drop (k + 1)
        · have f2 : (s.drop (s.length - (key.length - k - 1)) == key.drop (k + 1)) = true := by rw [beq_iff_eq]; exact e2
          have HR : Hid (fitsL key s = true) := Lib.hid (by rw [HFF.out, decide_eq_true ⟨c5, e1, e2⟩])
          have HMR : Hid (mtchL key s = (s.take (s.length - (key.length - k - 1))).drop k) := Lib.hid (by rw [HM.out, HR.out]; rfl)
          clear e1 e2
          go_enter Try.func12, Try.ntmps12
          go_wp2_with fail
          refine (star_any key _ hk).mono ?_
          rintro e w' ⟨rfl, rfl⟩
          rw [HN.out]
          go_wp2_with fail
          have lb : (key.drop (k + 1)).length = key.length - k - 1 := by rw [List.length_drop]; omega
          rw [← lb] at f2 HMR
          generalize key.drop (k + 1) = bh at *
          have HL := Lib.hid lb
          have g0 : bh.length ≤ s.length := by omega
          have g5 : k ≤ s.length - bh.length := by omega
          have g1 : IntKind.i64.wrap ((s.length : Int) - bh.length) = (s.length : Int) - bh.length := IntWalk.i64_in _ (by omega)
          have g2 : (0 : Int) ≤ (s.length : Int) - bh.length := by omega
          have g3 : ((s.length : Int) - bh.length).toNat = s.length - bh.length := by omega
          have g4 : (k : Int) ≤ (s.length : Int) - bh.length := by omega
          clear lb
          go_quiet (fail)
          go_wp2_with fail
          go_ret2
          exact ⟨tupSB HMR.out.symm HR.out.symm, _, rfl⟩
        · have f2 : (s.drop (s.length - (key.length - k - 1)) == key.drop (k + 1)) = false := by rw [beq_eq_false_iff_ne]; exact e2
          have HR : Hid (fitsL key s = false) := Lib.hid (by rw [HFF.out, decide_eq_false (fun h => e2 h.2.2)])
          have HMR : Hid (mtchL key s = []) := Lib.hid (by rw [HM.out, HR.out]; rfl)
          clear e1 e2
          go_enter Try.func12, Try.ntmps12
          go_wp2_with fail
          refine (star_any key _ hk).mono ?_
          rintro e w' ⟨rfl, rfl⟩
          rw [HN.out]
          go_wp2_with fail
          have lb : (key.drop (k + 1)).length = key.length - k - 1 := by rw [List.length_drop]; omega
          rw [← lb] at f2
          generalize key.drop (k + 1) = bh at *
          have g0 : bh.length ≤ s.length := by omega
          have g1 : IntKind.i64.wrap ((s.length : Int) - bh.length) = (s.length : Int) - bh.length := IntWalk.i64_in _ (by omega)
          have g2 : (0 : Int) ≤ (s.length : Int) - bh.length := by omega
          have g3 : ((s.length : Int) - bh.length).toNat = s.length - bh.length := by omega
          clear lb
          go_quiet (fail)
          go_wp2_with fail
          go_ret2
          exact ⟨tupSB HMR.out.symm HR.out.symm, _, rfl⟩
      · have f1 : (s.take k == key.take k) = false := by rw [beq_eq_false_iff_ne]; exact e1
        have HR : Hid (fitsL key s = false) := Lib.hid (by rw [HFF.out, decide_eq_false (fun h => e1 h.2.1)])
        have HMR : Hid (mtchL key s = []) := Lib.hid (by rw [HM.out, HR.out]; rfl)
        clear e1
        go_enter Try.func12, Try.ntmps12
        go_wp2_with fail
        refine (star_any key _ hk).mono ?_
        rintro e w' ⟨rfl, rfl⟩
        rw [HN.out]
        go_wp2_with fail
        generalize key.drop (k + 1) = bh at *
        go_quiet (fail)
        go_wp2_with fail
        go_ret2
        exact ⟨tupSB HMR.out.symm HR.out.symm, _, rfl⟩

def bK (st : Option (List UInt8)) : List UInt8 := st.getD []
def bM (s : List UInt8) (st : Option (List UInt8)) : List UInt8 := match st with | none => [] | some k => midL k s
theorem step_no {s key : List UInt8} (st : Option (List UInt8)) (h : fitsL key s = false) : stepB s st key = st := by
  unfold stepB; cases st <;> simp [h]
theorem step_none {s key : List UInt8} (h : fitsL key s = true) : stepB s none key = some key := by unfold stepB; simp [h]
theorem step_lt {s key b : List UInt8} (h : fitsL key s = true) (hc : gcmp key b < 0) : stepB s (some b) key = some key := by unfold stepB; simp [h, hc]
theorem step_ge {s key b : List UInt8} (hc : ¬ gcmp key b < 0) : stepB s (some b) key = some b := by unfold stepB; simp [hc]
theorem mtch_fits {s key : List UInt8} (h : fitsL key s = true) : mtchL key s = midL key s := by unfold mtchL; rw [if_pos h]

set_option maxRecDepth 100000 in
set_option maxHeartbeats 2000000 in
theorem Best_any (v : Value) (ks : List (List UInt8)) (s : List UInt8) (w : World) (hv : IsStr w v ks) (hm : ks.length ≤ 1000000) (hk : ∀ k ∈ ks, k.length < 1000) (hs : s.length ≤ 1000000) :
    Calls Try.prog 16 #[v, .string ⟨s.toArray⟩] w fun e w' => e = .returned (.tuple #[.string ⟨(bK (bestO s ks)).toArray⟩, .string ⟨(bM s (bestO s ks)).toArray⟩, .bool (bestO s ks).isSome]) ∧ Below w.heap.size w w' := by
  obtain ⟨a, cap, rfl, hc1, hc2, -, hsl⟩ := hv
  unfold maxLen at hc2
  have HC : Hid (0 < ks.length → ∃ b off, a = some ⟨b, off, none⟩ ∧ Cells w b off ks.length (strAt ks)) := Lib.hid hsl
  have HK := Lib.hid hk
  clear hsl hk
  go_enter Try.func16, Try.ntmps16
  go_wp2
  go_loopw [7, 8, 9, 16] (fun tb ts tf ti wr => ∃ (i : Nat) (st : Option (List UInt8)), i ≤ ks.length ∧ ti = .int .i64 i ∧ tb = .string ⟨(bK st).toArray⟩ ∧ ts = .string ⟨(bM s st).toArray⟩ ∧ tf = .bool st.isSome ∧ Hid (bestO s (ks.take i) = st) ∧ Hid (∀ b, st = some b → b.length < 1000) ∧ Below w.heap.size w wr) (fun _ _ _ ti _ => ks.length - (intOf ti).toNat)
  case atStart => exact ⟨0, none, by omega, rfl, rfl, rfl, rfl, Lib.hid rfl, Lib.hid (fun b h => by cases h), Below.refl _ _⟩
  case round =>
    obtain ⟨i, st, hi, rfl, rfl, rfl, rfl, HS, HB, hbel⟩ := hrel
    by_cases hlt : i < ks.length
    · obtain ⟨b, off, rfl, hc⟩ := HC.out (by omega)
      have hcell : wr.cell? ⟨b, off + i, none⟩ = some (.string ⟨(ks.getD i []).toArray⟩) := (hc.below hbel (hc.lt (by omega))).at i hlt
      have hkl : (ks.getD i []).length < 1000 := HK.out _ (by rw [List.getD_eq_getElem?_getD, List.getElem?_eq_getElem hlt]; exact List.getElem_mem _)
      have HT := bestO_take s ks i hlt
      rw [HS.out] at HT
      have HT := Lib.hid HT
      clear hc HC HK
      generalize ks.getD i [] = key at *
      cases hf : fitsL key s with
      | false =>
        have HF := Lib.hid hf
        have HST := Lib.hid (step_no st hf)
        clear hf
        go_wp2_with fail
        refine (Match_any key s _ (by omega) hs).mono ?_
        rintro e w1 ⟨rfl, n, rfl⟩
        rw [HF.out]
        go_wp2_with fail
        exact ⟨⟨i + 1, st, by omega, by go_num, rfl, rfl, rfl, Lib.hid (HT.out.trans HST.out), HB, below_drewN hbel n⟩, by simp [intOf]; omega⟩
      | true =>
        have HF := Lib.hid hf
        have HMT := Lib.hid (mtch_fits hf)
        cases st with
        | none =>
          have HST := Lib.hid (step_none hf)
          clear hf
          go_wp2_with fail
          refine (Match_any key s _ (by omega) hs).mono ?_
          rintro e w1 ⟨rfl, n, rfl⟩
          rw [HF.out, HMT.out]
          go_wp2_with fail
          exact ⟨⟨i + 1, some key, by omega, by go_num, rfl, rfl, rfl, Lib.hid (HT.out.trans HST.out), Lib.hid (fun b h => by injection h with h; rw [← h]; exact hkl), below_drewN hbel n⟩, by simp [intOf]; omega⟩
        | some bb =>
          have hbb := HB.out bb rfl
          show Code.wp _ _ _ ⟨_, _⟩ _
          by_cases hg : gcmp key bb < 0
          · have HST := Lib.hid (step_lt hf hg)
            clear hf
            go_wp2_with fail
            refine (Match_any key s _ (by omega) hs).mono ?_
            rintro e w1 ⟨rfl, n, rfl⟩
            rw [HF.out, HMT.out]
            go_wp2_with fail
            refine (Compare_any key bb _ hkl hbb).mono ?_
            rintro e w2 ⟨rfl, hb2⟩
            go_wp2_with fail
            exact ⟨⟨i + 1, some key, by omega, by go_num, rfl, rfl, rfl, Lib.hid (HT.out.trans HST.out), Lib.hid (fun b h => by injection h with h; rw [← h]; exact hkl), ext_trans (below_drewN hbel n) hb2⟩, by simp [intOf]; omega⟩
          · have HST := Lib.hid (step_ge (s := s) hg)
            have hg2 : 0 ≤ gcmp key bb := by omega
            clear hf hg
            go_wp2_with fail
            refine (Match_any key s _ (by omega) hs).mono ?_
            rintro e w1 ⟨rfl, n, rfl⟩
            rw [HF.out, HMT.out]
            go_wp2_with fail
            refine (Compare_any key bb _ hkl hbb).mono ?_
            rintro e w2 ⟨rfl, hb2⟩
            go_wp2_with fail
            exact ⟨⟨i + 1, some bb, by omega, by go_num, rfl, rfl, rfl, Lib.hid (HT.out.trans HST.out), HB, ext_trans (below_drewN hbel n) hb2⟩, by simp [intOf]; omega⟩
    · obtain rfl : i = ks.length := by omega
      have HS2 : Hid (bestO s ks = st) := Lib.hid (by have := HS.out; rwa [List.take_length] at this)
      go_wp2_with fail
      go_ret3
      exact ⟨by rw [HS2.out]; exact tupSSB rfl rfl rfl, hbel⟩

set_option maxRecDepth 100000 in
set_option maxHeartbeats 2000000 in
theorem rBest_any (v : Value) (ks : List (List UInt8)) (s : List UInt8) (w : World) (hv : IsStr w v ks) (hm : ks.length ≤ 1000000) (hk : ∀ k ∈ ks, k.length < 1000) (hs : s.length ≤ 1000000) :
    Calls Try.prog 17 #[v, .string ⟨s.toArray⟩] w fun e w' => e = .returned (.tuple #[.string ⟨(bK (bestO s ks)).toArray⟩, .string ⟨(bM s (bestO s ks)).toArray⟩, .bool (bestO s ks).isSome]) ∧ ∃ n, w' = w.drewN n := by
  obtain ⟨a, cap, rfl, hc1, hc2, -, hsl⟩ := hv
  unfold maxLen at hc2
  have HC : Hid (0 < ks.length → ∃ b off, a = some ⟨b, off, none⟩ ∧ Cells w b off ks.length (strAt ks)) := Lib.hid hsl
  have HK : Hid (∀ i, i < ks.length → (ks.getD i []).length < 1000) := Lib.hid (fun i hi => hk _ (by rw [List.getD_eq_getElem?_getD, List.getElem?_eq_getElem hi]; exact List.getElem_mem _))
  clear hsl hk
  go_enter Try.func17, Try.ntmps17
  go_wp2
  go_loopw [7, 8] (fun ta ti wr => ∃ (i : Nat) (at_ : Int) (st : Option (List UInt8)) (m : Nat), i ≤ ks.length ∧ ti = .int .i64 i ∧ ta = .int .i64 at_ ∧ Hid (bestO s (ks.take i) = st) ∧ ((at_ = -1 ∧ Hid (st = none)) ∨ (∃ p : Nat, p < i ∧ Hid (at_ = p) ∧ Hid (st = some (ks.getD p [])))) ∧ -1 ≤ at_ ∧ at_ < i ∧ wr = w.drewN m) (fun _ ti _ => ks.length - (intOf ti).toNat)
  case atStart => exact ⟨0, -1, none, 0, by omega, rfl, rfl, Lib.hid rfl, .inl ⟨rfl, Lib.hid rfl⟩, by omega, by omega, rfl⟩
  case round =>
    obtain ⟨i, at_, st, m, hi, rfl, rfl, HS, hat, ha1, ha2, rfl⟩ := hrel
    by_cases hlt : i < ks.length
    · obtain ⟨b, off, rfl, hc⟩ := HC.out (by omega)
      have hcell : w.cell? ⟨b, off + i, none⟩ = some (.string ⟨(ks.getD i []).toArray⟩) := hc.at i hlt
      have hkl : (ks.getD i []).length < 1000 := HK.out i hlt
      have HT := bestO_take s ks i hlt
      rw [HS.out] at HT
      have HT := Lib.hid HT
      have HCC := Lib.hid hc
      clear hc HC
      obtain ⟨key, hkey⟩ : ∃ key, ks.getD i [] = key := ⟨_, rfl⟩
      rw [hkey] at hcell hkl HT
      have HKEY := Lib.hid hkey
      clear hkey
      cases hf : fitsL key s with
      | false =>
        have HF := Lib.hid hf
        have HST := Lib.hid (step_no st hf)
        have HAT := Lib.hid hat
        clear hf hat
        go_wp2_with fail
        refine (rMatch_any key s _ (by omega) hs).mono ?_
        rintro e w1 ⟨rfl, n, rfl⟩
        rw [HF.out]
        go_wp2_with fail
        go_quiet (fail)
        go_wp2_with fail
        refine ⟨⟨i + 1, at_, st, _, by omega, by go_num, rfl, Lib.hid (HT.out.trans HST.out), ?_, by omega, by omega, rfl⟩, by simp [intOf]; omega⟩
        rcases HAT.out with h | ⟨p, hp, h1, h2⟩
        · exact .inl h
        · exact .inr ⟨p, by omega, h1, h2⟩
      | true =>
        have HF := Lib.hid hf
        have HMT := Lib.hid (mtch_fits hf)
        rcases hat with ⟨rfl, HN⟩ | ⟨p, hp, HP, HB⟩
        · have HST : Hid (stepB s st key = some key) := Lib.hid (by rw [HN.out]; exact step_none hf)
          clear hf
          go_wp2_with fail
          refine (rMatch_any key s _ (by omega) hs).mono ?_
          rintro e w1 ⟨rfl, n, rfl⟩
          rw [HF.out, HMT.out]
          go_wp2_with fail
          go_quiet (fail)
          go_wp2_with fail
          exact ⟨⟨i + 1, i, some key, _, by omega, by go_num, rfl, Lib.hid (HT.out.trans HST.out), .inr ⟨i, by omega, Lib.hid rfl, Lib.hid (by rw [HKEY.out])⟩, by omega, by omega, rfl⟩, by simp [intOf]; omega⟩
        · obtain rfl := HP.out
          have hcellp : w.cell? ⟨b, off + p, none⟩ = some (.string ⟨(ks.getD p []).toArray⟩) := HCC.out.at p (by omega)
          have hkp : (ks.getD p []).length < 1000 := HK.out p (by omega)
          obtain ⟨bb, hbb⟩ : ∃ key, ks.getD p [] = key := ⟨_, rfl⟩
          rw [hbb] at hcellp hkp HB
          have HBB := Lib.hid hbb
          clear hbb HP
          have Q : Hid (∀ w, Calls Try.prog 15 #[.string ⟨key.toArray⟩, .string ⟨bb.toArray⟩] w fun e w' => e = .returned (.int .i64 (gcmp key bb)) ∧ w' = w) := Lib.hid (fun w => (rCompare_any key bb w hkl hkp).mono (fun _ _ ⟨p, q⟩ => ⟨p, q.symm⟩))
          have hd1 : decide ((p : Int) < 0) = false := by simp
          have hd3 : p < ks.length := by omega
          have hd2 : (0 : Int) ≤ p := by omega
          by_cases hg : gcmp key bb < 0
          · have HST : Hid (stepB s st key = some key) := Lib.hid (by rw [HB.out]; exact step_lt hf hg)
            have hd : decide (gcmp key bb < 0) = true := by simpa using hg
            clear hf
            go_wp2_with fail
            refine (rMatch_any key s _ (by omega) hs).mono ?_
            rintro e w1 ⟨rfl, n, rfl⟩
            rw [HF.out, HMT.out]
            go_wp2_with fail
            go_quiet ((go_at_call 15; exact quietA Q.out))
            go_wp2_with fail
            exact ⟨⟨i + 1, i, some key, _, by omega, by go_num, rfl, Lib.hid (HT.out.trans HST.out), .inr ⟨i, by omega, Lib.hid rfl, Lib.hid (by rw [HKEY.out])⟩, by omega, by omega, rfl⟩, by simp [intOf]; omega⟩
          · have HST : Hid (stepB s st key = st) := Lib.hid (by rw [HB.out]; exact step_ge hg)
            have hd : decide (gcmp key bb < 0) = false := by simpa using hg
            have hg2 : 0 ≤ gcmp key bb := by omega
            clear hf hg
            go_wp2_with fail
            refine (rMatch_any key s _ (by omega) hs).mono ?_
            rintro e w1 ⟨rfl, n, rfl⟩
            rw [HF.out, HMT.out]
            go_wp2_with fail
            go_quiet ((go_at_call 15; exact quietA Q.out))
            go_wp2_with fail
            exact ⟨⟨i + 1, p, st, _, by omega, by go_num, rfl, Lib.hid (HT.out.trans HST.out), .inr ⟨p, by omega, Lib.hid rfl, Lib.hid (by rw [HB.out, HBB.out])⟩, by omega, by omega, rfl⟩, by simp [intOf]; omega⟩
    · obtain rfl : i = ks.length := by omega
      have HS2 : Hid (bestO s ks = st) := Lib.hid (by have := HS.out; rwa [List.take_length] at this)
      rcases hat with ⟨rfl, HN⟩ | ⟨p, hp, HP, HB⟩
      · have HR : Hid (bestO s ks = none) := Lib.hid (HS2.out.trans HN.out)
        go_wp2_with fail
        go_ret3
        exact ⟨by rw [HR.out]; exact tupSSB rfl rfl rfl, _, rfl⟩
      · obtain rfl := HP.out
        obtain ⟨b, off, rfl, hc⟩ := HC.out (by omega)
        have hcellp : w.cell? ⟨b, off + p, none⟩ = some (.string ⟨(ks.getD p []).toArray⟩) := hc.at p hp
        have hkp : (ks.getD p []).length < 1000 := HK.out p hp
        have HR : Hid (bestO s ks = some (ks.getD p [])) := Lib.hid (HS2.out.trans HB.out)
        clear hc HC HB HP
        generalize ks.getD p [] = bb at *
        have HMT : Hid (mtchL bb s = midL bb s) := Lib.hid (mtch_fits (bestO_fits s ks none (fun k h => by cases h) bb HR.out))
        have hd2 : (0 : Int) ≤ p := by omega
        go_wp2_with fail
        refine (rMatch_any bb s _ (by omega) hs).mono ?_
        rintro e w1 ⟨rfl, n, rfl⟩
        rw [HMT.out]
        go_wp2_with fail
        go_ret3
        exact ⟨by rw [HR.out]; exact tupSSB rfl rfl rfl, _, rfl⟩
end Go.Proofs.Ytiomkjpgoehchaa
