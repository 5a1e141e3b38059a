/- What the proof needs, part 1. -/
import Derived.Test.YtedfgikikjggaaaDoorRfE
import Derived.Test.YtedfgikikjggaaaDoorRfB
import Derived.Test.YtedfgikikjggaaaDoorTreeN
import Derived.Test.YtedfgikikjggaaaDoorTreeP
/- What ref15.New lays: the rows, and when it says no. -/
section
set_option linter.unusedVariables false
set_option linter.unusedSimpArgs false
namespace Go.Proofs.YtedfgikikjggaaaDoor
open Go.RowKit

def rState (ns : List Nd) (i : Nat) (all : List Nd) : Prop := Rising all ∧ all.length ≤ i ∧ ∀ m, m ∈ all ↔ m ∈ ns.take i
theorem lookN_of_none {all : List Nd} {p : Bts} (h : ∀ n ∈ all, n.p ≠ p) : lookN all p = none := by
  cases hl : lookN all p with
  | none => rfl
  | some m => obtain ⟨h1, h2⟩ := lookN_some hl; exact absurd h2 (h m h1)
theorem isNone_none {all : List Nd} {p : Bts} (h : (lookN all p).isNone = true) : lookN all p = none := by
  cases hl : lookN all p with
  | none => rfl
  | some m => rw [hl] at h; cases h
theorem isNone_some {all : List Nd} {p : Bts} (h : (lookN all p).isNone = false) : ∃ m, lookN all p = some m := by
  cases hl : lookN all p with
  | none => rw [hl] at h; cases h
  | some m => exact ⟨m, rfl⟩
theorem rState_next {ns all all' : List Nd} {i : Nat} (hi : i < ns.length) (h1 : stateOk ns i) (h2 : rState ns i all) (hf : fitN (ndAt ns i) = true) (hn : (lookN all (ndAt ns i).p).isNone = true) (hl : Laid1 all (ndAt ns i) all') : stateOk ns (i + 1) ∧ rState ns (i + 1) all' := by
  refine ⟨stateOk_succ hi h1 hf (lookN_of_none fun n hn2 => lookN_none (isNone_none hn) n ((h2.2.2 n).2 hn2)), hl.1, by have := hl.2.1; have := h2.2.1; omega, fun m => ?_⟩
  rw [hl.2.2.1 hn m, h2.2.2 m, take_succ' hi, List.mem_append, List.mem_singleton]
theorem rState_twice {ns all : List Nd} {i : Nat} (hi : i < ns.length) (h2 : rState ns i all) (hn : (lookN all (ndAt ns i).p).isNone = false) : ¬ Good ns := by
  obtain ⟨m, hm⟩ := isNone_some hn
  obtain ⟨h3, h4⟩ := lookN_some hm
  cases hk : lookN (ns.take i) (ndAt ns i).p with
  | none => exact absurd h4 (lookN_none hk m ((h2.2.2 m).1 h3))
  | some q => exact not_good_twice hi hk
theorem rState_whole {ns all all' : List Nd} (h1 : stateOk ns ns.length) (h2 : rState ns ns.length all) (hl : Laid1 all rootN all') : Whole ns all' ∧ all'.length ≤ ns.length + 1 := by
  have ht : ns.take ns.length = ns := List.take_length
  refine ⟨⟨hl.1, fun n => ?_⟩, by have := hl.2.1; have := h2.2.1; omega⟩
  have hm := h2.2.2 n
  rw [ht] at hm
  cases hn : (lookN all rootN.p).isNone with
  | true => rw [hl.2.2.1 hn n, hm]
  | false =>
    rw [hl.2.2.2 hn, hm]
    refine ⟨.inl, fun h => h.elim id fun h => ?_⟩
    obtain ⟨m, hk⟩ := isNone_some hn
    obtain ⟨h3, h4⟩ := lookN_some hk
    have h5 := (h2.2.2 m).1 h3
    have h6 := fit_root (h1.1 m h5) h4
    rw [ht] at h5
    rw [h, ← h6]; exact h5
theorem stateOk_all {ns : List Nd} (h : stateOk ns ns.length) : (∀ n ∈ ns, fitN n = true) ∧ (ns.map (·.p)).Nodup := by
  unfold stateOk at h
  rw [List.take_length] at h; exact h
theorem chk_root {ns all : List Nd} (h : Whole ns all) : kindAt all [47] = 2 := (kindAt_iff h.1 _).2 ⟨rootN, (h.2 _).2 (.inr rfl), rfl, rfl⟩
theorem chk_good {ns all : List Nd} (h1 : stateOk ns ns.length) (h : Whole ns all) (hc : ∀ j, j < all.length → kindAt all (cutF (ndAt all j).p) = 2) : Good ns := by
  obtain ⟨h2, h3⟩ := stateOk_all h1
  refine (laysOk_good h h2 h3).1 fun n hn hp => ?_
  obtain ⟨j, hj, rfl⟩ := mem_at hn
  have := hc j hj
  unfold cutF at this
  rwa [if_neg hp] at this
theorem chk_bad {ns all : List Nd} (h1 : stateOk ns ns.length) (h : Whole ns all) {j : Nat} (hj : j < all.length) (hc : kindAt all (cutF (ndAt all j).p) ≠ 2) : ¬ Good ns := fun hg => by
  obtain ⟨h2, h3⟩ := stateOk_all h1
  have hl := (laysOk_good h h2 h3).2 hg
  unfold cutF at hc
  by_cases hp : (ndAt all j).p = [47]
  · rw [if_pos hp] at hc; exact hc (chk_root h)
  · rw [if_neg hp] at hc; exact hc (hl _ (ndAt_mem hj) hp)
theorem clean_head {p : Bts} (h : cleanL p = true) : ∃ r, p = 47 :: r := by
  rcases clean_cases h with h | ⟨r, h, -⟩
  · exact ⟨[], h⟩
  · exact ⟨r, h⟩
theorem whole_path {ns all : List Nd} (h1 : stateOk ns ns.length) (h : Whole ns all) {n : Nd} (hn : n ∈ all) : (∃ r, n.p = 47 :: r) ∧ n.p.length ≤ 1024 := by
  rcases (h.2 n).1 hn with h2 | h2
  · have hf := (stateOk_all h1).1 n h2
    refine ⟨clean_head (fit_clean hf), ?_⟩
    unfold fitN at hf
    simp only [Bool.and_eq_true, decide_eq_true_eq] at hf
    exact hf.1.1.1.1
  · rw [h2]; exact ⟨⟨[], rfl⟩, by decide⟩
theorem cutF_len (p : Bts) (h : p.length ≤ 1024) : (cutF p).length ≤ 1024 := by
  unfold cutF partF
  split
  · decide
  · rw [List.length_take]; omega
theorem kind_ok {all : List Nd} {f : Bts} {ok : Bool} {R : Nd} (h1 : (lookN all f).getD nd0 = R) (h2 : (lookN all f).isSome = ok) : (kindAt all f = 2 → ok = true ∧ R.k = 2) ∧ (ok = true → R.k = 2 → kindAt all f = 2) := by
  unfold kindAt
  rw [h1]
  refine ⟨fun h => ⟨?_, h⟩, fun _ h => h⟩
  cases hl : lookN all f with
  | none => rw [hl] at h1; rw [← h1] at h; cases h
  | some m => rw [hl] at h2; rw [← h2]; rfl
theorem tupPI {a b : Value} : Ending.returned (.tuple #[a, b]) = .returned (.tuple #[a, b]) := rfl
end Go.Proofs.YtedfgikikjggaaaDoor
end
/- The contract of ref15.New. -/
section
set_option linter.unusedVariables false
set_option linter.unusedSimpArgs false
namespace Go.Proofs.YtedfgikikjggaaaDoor
open Go.RowKit

/-- A tree of the answer's: its rows are its own, in a block from B on. -/
def RTreeIs (w : World) (B t : Nat) (all : List Nd) : Prop := ∃ v', Box w t 33 [v', .int .i64 0] ∧ OwnN w B v' all
set_option maxRecDepth 100000 in
set_option maxHeartbeats 16000000 in
theorem rNew_any (v : Value) (ns : List Nd) (w : World) (hv : IsNds w v ns) (hb : ∀ n ∈ ns, n.p.length ≤ 1000000 ∧ n.d.length ≤ 1000000) (hl : ns.length ≤ 4096) :
    Calls Tryd.prog 10 #[v] w fun e w' => ((¬ Good ns ∧ e = .returned (.tuple #[.pointer none, .int .i64 21])) ∨ (Good ns ∧ ∃ t all, e = .returned (.tuple #[.pointer (some ⟨t, 0, none⟩), .int .i64 0]) ∧ RTreeIs w' w.heap.size t all ∧ Whole ns all ∧ w.heap.size ≤ t)) ∧ Below w.heap.size w w' := by
  have HV := Lib.hid hv
  have HB := Lib.hid hb
  obtain ⟨a, cap, rfl, a1, a2, -, a3⟩ := hv
  unfold maxLen at a2
  have hI : (ns.length : Int) ≤ 4096 := by omega
  clear hb
  go_enter Tryd.func10, Tryd.ntmps10
  go_wp2_with fail
  go_loopw [5] (fun ti wr => ∃ (i : Nat) (all : List Nd) (v' : Value), i ≤ ns.length ∧ ti = .int .i64 i ∧ Hid (stateOk ns i) ∧ Hid (rState ns i all) ∧ Hid (Box wr w.heap.size 33 [v', .int .i64 0]) ∧ Hid (OwnN wr w.heap.size v' all) ∧ Hid (Below w.heap.size w wr)) (fun ti _ => ns.length - (intOf ti).toNat)
  case atStart => exact ⟨0, [], .slice none 0 0, Nat.zero_le _, rfl, Lib.hid (show stateOk ns 0 from And.intro (fun n hn => by simp at hn) List.nodup_nil), Lib.hid ⟨List.Pairwise.nil, Nat.le_refl _, fun m => by simp⟩, Lib.hid (Box.new w 33 [.slice none 0 0, .int .i64 0]), Lib.hid (OwnN.nil _ _), Lib.hid (ext_alloc _ _)⟩
  case round =>
    obtain ⟨i, all, v', hi, rfl, HS, HRS, HBX, HOW, HBL⟩ := hrel
    by_cases hlt : i < ns.length
    · have hltI : (i : Int) < (ns.length : Int) := by omega
      obtain ⟨b, off, rfl, hc⟩ := a3 (by omega)
      obtain ⟨c0, c1, c2⟩ := (hc.below HBL.out) i hlt
      obtain ⟨hpl, hdl⟩ := HB.out _ (ndAt_mem hlt)
      have HGF := Lib.hid (not_good_fit hlt)
      have HGT := Lib.hid (rState_twice (all := all) hlt HRS.out)
      have HNX := Lib.hid (fun all' => rState_next (all' := all') hlt HS.out HRS.out)
      have HMY := Lib.hid (fun w => may_any (ndAt ns i) w hpl hdl)
      have hal : all.length ≤ 1000000 := by have := HRS.out.2.1; omega
      have HNP : Hid (fitN (ndAt ns i) = true → (ndAt ns i).p ≠ []) := Lib.hid (fun hf he => by
        obtain ⟨r, hr⟩ := clean_head (fit_clean hf)
        rw [hr] at he; cases he)
      have HLY := Lib.hid (fun W h1 h2 h3 => rlay_any w.heap.size v' (.int .i64 0) all (ndAt ns i) w.heap.size W h1 h2 (Nat.le_refl _) HRS.out.1 hal hpl (HNP.out h3))
      have HCC : Hid (∀ W, Below wr.heap.size wr W → W.cell? ⟨b, off + i * 3, none⟩ = some (.string ⟨(ndAt ns i).p.toArray⟩) ∧ W.cell? ⟨b, off + i * 3 + 1, none⟩ = some (.int .i64 (ndAt ns i).k) ∧ W.cell? ⟨b, off + i * 3 + 2, none⟩ = some (.string ⟨(ndAt ns i).d.toArray⟩)) := Lib.hid (fun W hW => (((hc.below HBL.out).below hW) i hlt))
      clear hc a3
      generalize ndAt ns i = nd at *
      cases hf : fitN nd with
      | false =>
        have HG := Lib.hid (HGF.out hf)
        rw [hf] at HMY
        go_wp2_with fail
        refine (HMY.out _).mono ?_
        rintro e w2 ⟨rfl, hb2⟩
        have HBE := Lib.hid (ext_trans HBL.out hb2)
        clear HGF HGT HNX HLY HCC HNP hb2
        go_wp2_with fail
        go_ret2
        exact ⟨.inl ⟨HG.out, rfl⟩, HBE.out⟩
      | true =>
        rw [hf] at HMY
        go_wp2_with fail
        refine (HMY.out _).mono ?_
        rintro e w2 ⟨rfl, hb2⟩
        obtain ⟨d0, d1, d2⟩ := HCC.out w2 hb2
        have HBE := Lib.hid (ext_trans HBL.out hb2)
        have HBX2 := Lib.hid (HBX.out.below hb2 HBX.out.lt)
        have HOW2 := Lib.hid (HOW.out.below hb2)
        clear c0 c1 c2 hb2 HGF HCC HNP
        go_wp2_with fail
        refine (HLY.out _ HBX2.out HOW2.out hf).mono ?_
        rintro e w3 ⟨rfl, v3, all3, hb3, ho3, hl3, hw3⟩
        have HBE3 := Lib.hid (HBE.out.trans hw3)
        have HB3 := Lib.hid hb3
        have HO3 := Lib.hid ho3
        clear hb3 ho3 hw3 d0 d1 d2
        cases hno : (lookN all nd.p).isNone with
        | false =>
          have HG := Lib.hid (HGT.out hno)
          clear HGT HNX HLY
          go_wp2_with fail
          go_ret2
          exact ⟨.inl ⟨HG.out, rfl⟩, HBE3.out⟩
        | true =>
          have HN3 := Lib.hid (HNX.out all3 hf hno hl3)
          clear HGT HNX HLY hl3
          go_wp2_with fail
          exact ⟨⟨i + 1, all3, v3, by omega, by go_num, Lib.hid HN3.out.1, Lib.hid HN3.out.2, HB3, HO3, HBE3⟩, by simp [intOf]; omega⟩
    · obtain rfl : i = ns.length := by omega
      have hltI : ¬ (ns.length : Int) < (ns.length : Int) := by omega
      have hal : all.length ≤ 1000000 := by have := HRS.out.2.1; omega
      have HLY := Lib.hid (rlay_any w.heap.size v' (.int .i64 0) all rootN w.heap.size wr HBX.out HOW.out (Nat.le_refl _) HRS.out.1 hal (by decide) (by decide))
      clear a3
      go_wp2_with fail
      refine HLY.out.mono ?_
      rintro e w2 ⟨rfl, v2, al, hb2, ho2, hl2, hw2⟩
      have HW := Lib.hid (rState_whole HS.out HRS.out hl2)
      have HBE := Lib.hid (HBL.out.trans hw2)
      have HB2 := Lib.hid hb2
      have HO2 := Lib.hid ho2
      obtain ⟨a4, cap4, rfl, e1, e2, -, e3⟩ := ho2.isNds
      unfold maxLen at e2
      have HALL := Lib.hid ho2.isNds
      have hal2 : al.length ≤ 4097 := by have := HW.out.2; omega
      have halI : (al.length : Int) ≤ 4097 := by omega
      clear hb2 ho2 hl2 hw2 HLY
      go_wp2_with fail
      go_loopw [6] (fun ti wr => ∃ i : Nat, i ≤ al.length ∧ ti = .int .i64 i ∧ Hid (∀ j, j < i → kindAt al (cutF (ndAt al j).p) = 2) ∧ Hid (Below w2.heap.size w2 wr)) (fun ti _ => al.length - (intOf ti).toNat)
      case atStart => exact ⟨0, Nat.zero_le _, rfl, Lib.hid (fun j hj => by omega), Lib.hid (Below.refl _ _)⟩
      case round =>
        obtain ⟨j, hj, rfl, HCK, HBR⟩ := hrel
        have HBX3 := Lib.hid (HB2.out.below HBR.out HB2.out.lt)
        have HOW3 := Lib.hid (HO2.out.below HBR.out)
        have HBE3 := Lib.hid (ext_trans HBE.out HBR.out)
        have k0 : wr.cell? ⟨w.heap.size, 0, none⟩ = some (.slice a4 al.length cap4) := by rw [HBX3.out.cell]; rfl
        by_cases hjl : j < al.length
        · have hjI : (j : Int) < (al.length : Int) := by omega
          obtain ⟨b, off, rfl, hc⟩ := e3 (by omega)
          obtain ⟨c0, -, -⟩ := (hc.below HBR.out) j hjl
          clear hc e3
          obtain ⟨⟨r, hr⟩, hr2⟩ := whole_path HS.out HW.out.1 (ndAt_mem hjl)
          have HBAD := Lib.hid (chk_bad HS.out HW.out.1 hjl)
          have HCN : Hid (kindAt al (cutF (ndAt al j).p) = 2 → ∀ k, k < j + 1 → kindAt al (cutF (ndAt al k).p) = 2) := Lib.hid (fun h k hk => by
            rcases Nat.lt_or_ge k j with h2 | h2
            · exact HCK.out k h2
            · obtain rfl : k = j := by omega
              exact h)
          have HCL := Lib.hid (cutF_len _ hr2)
          rw [hr] at c0 HBAD HCN HCL hr2
          have HCUT := Lib.hid (fun w => rCut_any r w (by omega))
          clear hr
          go_wp2_with fail
          refine (HCUT.out _).mono ?_
          rintro e w3 ⟨rfl, m, rfl⟩
          generalize cutF (47 :: r) = up at *
          generalize cutN (47 :: r) = lo at *
          have hup : up.length ≤ 1000000 := by have := HCL.out; omega
          have HLK := Lib.hid (rLook_any w.heap.size _ _ al up (wr.drewN m) (HBX3.out.drew m) (HALL.out.below (below_dr HBR.out m)) HW.out.1.1 hup (by omega))
          go_wp2_with fail
          refine HLK.out.mono ?_
          rintro e w4 ⟨rfl, hb4⟩
          have HB4 := Lib.hid hb4
          have HKO := Lib.hid (kind_ok (all := al) (f := up) rfl rfl)
          clear hb4 HLK HCUT k0 c0
          generalize (lookN al up).getD nd0 = R at *
          generalize (lookN al up).isSome = ok at *
          have HBA := Lib.hid (fun o => ext_trans HB4.out (ext_alloc w4 o))
          have HB2A : Hid (∀ o, Below w2.heap.size w2 (w4.alloc o)) := Lib.hid (fun o => ext_trans (below_dr HBR.out m) (HBA.out o))
          obtain ⟨rp, rk, rd⟩ := R
          simp only [ndV]
          cases ok with
          | false =>
            have HG := Lib.hid (HBAD.out (fun h => by have := (HKO.out.1 h).1; cases this))
            clear HKO HBAD HCN
            go_wp2_with fail
            go_ret2
            exact ⟨.inl ⟨HG.out, rfl⟩, ext_trans HBE.out (HB2A.out _)⟩
          | true =>
            by_cases hk : rk = 2
            · subst hk
              have HN2 := Lib.hid (HCN.out (HKO.out.2 rfl rfl))
              clear HKO HBAD HCN
              go_wp2_with fail
              exact ⟨⟨j + 1, by omega, by go_num, HN2, Lib.hid (HB2A.out _)⟩, by simp [intOf]; omega⟩
            · have hkb : (rk == 2) = false := by rw [beq_eq_false_iff_ne]; exact hk
              have HG := Lib.hid (HBAD.out (fun h => hk (HKO.out.1 h).2))
              clear HKO HBAD HCN
              go_wp2_with fail
              go_ret2
              exact ⟨.inl ⟨HG.out, rfl⟩, ext_trans HBE.out (HB2A.out _)⟩
        · obtain rfl : j = al.length := by omega
          have hjI : ¬ (al.length : Int) < (al.length : Int) := by omega
          clear e3
          go_wp2_with fail
          go_ret2
          exact ⟨.inr ⟨chk_good HS.out HW.out.1 HCK.out, _, rfl, al, ⟨_, HBX3.out, HOW3.out⟩, HW.out.1, Nat.le_refl _⟩, HBE3.out⟩
end Go.Proofs.YtedfgikikjggaaaDoor
end
