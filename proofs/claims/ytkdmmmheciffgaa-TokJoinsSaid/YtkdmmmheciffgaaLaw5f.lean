/- TokJoins. -/
import Derived.Test.YtkdmmmheciffgaaLaw5n
import Derived.Test.YtkdmmmheciffgaaJoinN
import Derived.Test.YtkdmmmheciffgaaLow
import Derived.Test.YtkdmmmheciffgaaStrs
set_option linter.unusedVariables false
set_option linter.unusedSimpArgs false
namespace Go.Proofs.Ytkdmmmheciffgaa
open Go.RowKit

def gapB (m : Nat) : UInt8 := ([32, 10, 9, 13] : List UInt8).getD m 32
theorem gapB_ok (m : Nat) : blkC ((gapB m).toNat : Int) = true := by
  unfold gapB
  rcases Nat.lt_or_ge m 4 with h | h
  · rcases (by omega : m = 0 ∨ m = 1 ∨ m = 2 ∨ m = 3) with rfl | rfl | rfl | rfl <;> decide
  · rw [List.getD_eq_getElem?_getD, List.getElem?_eq_none (by simpa using h)]; decide
theorem gap_cell (x : World) (m : Nat) (h : m < 4) : (x.alloc (.cells #[.string ⟨#[32]⟩, .string ⟨#[10]⟩, .string ⟨#[9]⟩, .string ⟨#[13]⟩] 9)).cell? ⟨x.heap.size, m, none⟩ = some (.string ⟨[gapB m].toArray⟩) := by
  rw [cell_of_row _ x.heap.size m _ _ (0, 0) (heap_alloc_new x _)]
  rcases (by omega : m = 0 ∨ m = 1 ∨ m = 2 ∨ m = 3) with rfl | rfl | rfl | rfl <;> rfl
theorem lowNat (x n : Int) (hn : 0 < n) : ∃ k : Nat, (k : Int) < n ∧ lowN x n = (k : Int) := by
  have := lowN_bd x n hn
  exact ⟨(lowN x n).toNat, by omega, by omega⟩
theorem i64_wf {x : Int} (h : (Lit.int .i64 x).wf = true) : -9223372036854775808 ≤ x ∧ x ≤ 9223372036854775807 := by
  simp [Lit.wf, IntKind.min, IntKind.max, IntKind.signed, IntKind.bits] at h; omega
theorem tkAt_l {ts us : List Tk} {i : Nat} (h : i < ts.length) : tkAt (ts ++ us) i = tkAt ts i := by
  unfold tkAt; rw [List.getD_eq_getElem?_getD, List.getD_eq_getElem?_getD, List.getElem?_append_left h]
theorem tkAt_r {ts us : List Tk} {n q : Nat} (h : q < us.length) : tkAt (ts ++ us.map (shT n)) (ts.length + q) = shT n (tkAt us q) := by
  unfold tkAt; rw [List.getD_eq_getElem?_getD, List.getD_eq_getElem?_getD, List.getElem?_append_right (by omega), Nat.add_sub_cancel_left, List.getElem?_map, List.getElem?_eq_getElem h]; rfl
/-- What a call of Tokens tells. -/
abbrev TokC (v : Value) (b : List UInt8) (ts : List Tk) (p : Nat) (c : Int) : Prop :=
  ∀ W, Is8 W v b → Calls Try.prog 17 #[v] W fun e w' => ∃ vt, e = .returned (.tuple #[vt, .int .i64 p, .int .i64 c]) ∧ OwnT w' W.heap.size vt ts ∧ Below W.heap.size W w'
set_option maxRecDepth 100000 in
set_option maxHeartbeats 16000000 in
theorem TokJoins_walk (a0 : Option Addr) (len0 cap0 : Nat) (z0 : List Int) (a1 : Option Addr) (len1 cap1 : Nat) (z1 : List Int) (a2 : Int) (w : World) (w0 : IsRow .u8 w a0 len0 cap0 z0) (w1 : IsRow .u8 w a1 len1 cap1 z1) (w2 : (Lit.int .i64 a2).wf = true) :
    Calls Try.prog 8 #[.slice a0 len0 cap0, .slice a1 len1 cap1, .int .i64 a2] w fun e w' => e = .returned (.bool true) ∧ Below w.heap.size w w' := by
  obtain ⟨a, rfl, ha8⟩ := isRow8 w0
  obtain ⟨b, rfl, hb8⟩ := isRow8 w1
  have HA := Lib.hid ha8
  have HB := Lib.hid hb8
  obtain ⟨x0, x1⟩ := i64_wf w2
  clear w0 w1 w2 ha8 hb8
  by_cases hm0 : a.length ≤ 200
  · by_cases hm1 : b.length ≤ 200
    · have hmd0 : decide ((200 : Int) < (a.length : Int)) = false := by simp; omega
      have hmd1 : decide ((200 : Int) < (b.length : Int)) = false := by simp; omega
      obtain ⟨m, hm4, hmx⟩ := lowNat a2 4 (by decide)
      have HLW := Lib.hid (fun W => low_any a2 4 W x0 x1 (by decide) (by decide))
      rw [hmx] at HLW
      have hm4' : m < 4 := by omega
      have HTA := Lib.hid (fun W (h : Is8 W (.slice a0 a.length cap0) a) => Tokens_any (.slice a0 a.length cap0) a W h (by omega))
      have HTB := Lib.hid (fun W (h : Is8 W (.slice a1 b.length cap1) b) => Tokens_any (.slice a1 b.length cap1) b W h (by omega))
      have HTC := Lib.hid (fun v W (h : Is8 W v (a ++ gapB m :: b)) => Tokens_any v _ W h (by simp; omega))
      have HJ := Lib.hid (toks_join a b (gapB m) (gapB_ok m))
      have HNA := Lib.hid (@toks_none a)
      have HNB := Lib.hid (@toks_none b)
      have hla := toks_len a
      have hlb := toks_len b
      have hpb := toks_at b
      have HPS := Lib.hid (fun q (h : q < (toksM b).1.length) => toks_pos b q h)
      obtain ⟨RA, hRA⟩ : ∃ R, toksM a = R := ⟨_, rfl⟩
      obtain ⟨RB, hRB⟩ : ∃ R, toksM b = R := ⟨_, rfl⟩
      rw [hRA] at HTA HJ HNA hla
      rw [hRB] at HTB HJ HNB hlb hpb HPS
      clear hRA hRB hmx x0 x1
      obtain ⟨ts, pa, ca⟩ := RA
      obtain ⟨us, pb, cb⟩ := RB
      have hla : ts.length ≤ a.length := hla
      have hlb : us.length ≤ b.length := hlb
      have hpb : pb ≤ b.length := hpb
      have HTA2 : Hid (TokC (.slice a0 a.length cap0) a ts pa ca) := Lib.hid HTA.out
      have HTB2 : Hid (TokC (.slice a1 b.length cap1) b us pb cb) := Lib.hid HTB.out
      have HJ2 : Hid (ca = 0 → toksM (a ++ gapB m :: b) = if cb = 0 then (ts ++ us.map (shT (a.length + 1)), a.length + 1 + b.length, 0) else ([], a.length + 1 + pb, cb)) := Lib.hid HJ.out
      have HNA2 : Hid (ca ≠ 0 → ts = []) := Lib.hid HNA.out
      have HNB2 : Hid (cb ≠ 0 → us = []) := Lib.hid HNB.out
      clear HTA HTB HJ HNA HNB
      by_cases hca : ca = 0
      · subst hca
        have hgc := fun x => gap_cell x m hm4'
        by_cases hcb : cb = 0
        · subst hcb
          have HF : Hid (toksM (a ++ gapB m :: b) = (ts ++ us.map (shT (a.length + 1)), a.length + 1 + b.length, 0)) := Lib.hid (by rw [HJ2.out rfl, if_pos rfl])
          rw [HF.out] at HTC
          have HTC2 : Hid (∀ v, TokC v (a ++ gapB m :: b) (ts ++ us.map (shT (a.length + 1))) (a.length + 1 + b.length) 0) := Lib.hid HTC.out
          clear HTC HJ2
          go_enter Try.func8, Try.ntmps8
          go_wp2_with fail
          refine (HTA2.out _ HA.out).mono ?_
          rintro e x1 ⟨v1, rfl, ho1, hb1⟩
          have HB1 := Lib.hid hb1
          have HI1 := Lib.hid ho1.isT
          clear ho1 hb1
          go_wp2_with fail
          refine (HTB2.out _ (HB.out.below HB1.out)).mono ?_
          rintro e x2 ⟨v2, rfl, ho2, hb2⟩
          have HB2 := Lib.hid (HB1.out.trans (hb2.mono HB1.out.size))
          have HI12 := Lib.hid (HI1.out.below hb2)
          have HI2 := Lib.hid ho2.isT
          clear ho2 hb2
          go_wp2_with fail
          refine (HLW.out _).mono ?_
          rintro e w' ⟨rfl, rfl⟩
          have HA2 := Lib.hid (fun o => HA.out.below (ext_trans HB2.out (ext_alloc x2 o)))
          have HB2' := Lib.hid (fun o => HB.out.below (ext_trans HB2.out (ext_alloc x2 o)))
          have hcva : ∀ o, (convert 22 9 (.slice a0 a.length cap0)).run Try.prog (x2.alloc o) = .ok (.string ⟨a.toArray⟩) (x2.alloc o) := fun o => run_toStr _ _ _ 5 Try.underlying22 Try.underlying5 Try.underlying9 _ _ (HA2.out o)
          have hcvb : ∀ o, (convert 22 9 (.slice a1 b.length cap1)).run Try.prog (x2.alloc o) = .ok (.string ⟨b.toArray⟩) (x2.alloc o) := fun o => run_toStr _ _ _ 5 Try.underlying22 Try.underlying5 Try.underlying9 _ _ (HB2'.out o)
          have hcat1 : a.length + 1 ≤ 9223372036854775807 := by omega
          have hcat2 : a.length + 1 + b.length ≤ 9223372036854775807 := by omega
          go_wp2_with (refine wpList_toBytes _ (by rfl) 9 22 _ rfl 5 Try.underlying9 Try.underlying22 Try.underlying5 (a ++ gapB m :: b) (by simp [Act.eval, Act.put]) (by simp; omega) ?_)
          intro bb cap x3 h8 hb3 hbe
          have HB23 := Lib.hid ((ext_alloc x2 _).trans (hb3.mono (Nat.le_succ _)))
          have HB3 := Lib.hid (ext_trans HB2.out HB23.out)
          clear hbe hb3 hcva hcvb hcat1 hcat2 hgc
          go_wp2_with fail
          refine (HTC2.out _ _ h8).mono ?_
          rintro e x4 ⟨v4, rfl, ho4, hb4⟩
          have HB4 := Lib.hid (ext_trans HB3.out hb4)
          have HI14 := Lib.hid (IsT.below HI12.out (ext_trans HB23.out hb4))
          have HI24 := Lib.hid (IsT.below HI2.out (ext_trans HB23.out hb4))
          have HI4 := Lib.hid ho4.isT
          clear ho4 hb4 h8
          obtain ⟨y1, c1, rfl, q1, q2, q3⟩ := HI14.out
          obtain ⟨y2, c2, rfl, r1, r2, r3⟩ := HI24.out
          obtain ⟨y4, c4, rfl, s1, s2, s3⟩ := HI4.out
          have hn4 : (ts ++ us.map (shT (a.length + 1))).length = ts.length + us.length := by simp
          have htl := fun (i : Nat) (h : i < ts.length) => @tkAt_l ts (us.map (shT (a.length + 1))) i h
          have htr := fun (q : Nat) (h : q < us.length) => @tkAt_r ts us (a.length + 1) q h
          obtain ⟨VS, hVS⟩ : ∃ VS, ts ++ us.map (shT (a.length + 1)) = VS := ⟨_, rfl⟩
          rw [hVS] at s1 s3 hn4 htl htr
          rw [hVS]
          have HTL := Lib.hid htl
          have HTR := Lib.hid htr
          have HQ3 := Lib.hid q3
          have HR3 := Lib.hid r3
          have HS3 := Lib.hid s3
          clear htl htr q3 r3 s3 hVS
          obtain ⟨n4, hn5⟩ : ∃ n4, VS.length = n4 := ⟨_, rfl⟩
          rw [hn5] at s1 HS3 hn4
          rw [hn5]
          clear hn5
          obtain ⟨P, hP⟩ : ∃ P, a.length + 1 + b.length = P := ⟨_, rfl⟩
          have hsumP : (a.length : Int) + 1 + (b.length : Int) = (P : Int) := by omega
          rw [hP]
          clear hP
          have hsum4 : (ts.length : Int) + (us.length : Int) = (n4 : Int) := by omega
          have HN4 := Lib.hid hn4
          clear hn4
          go_wp2_with fail
          clear hsumP hsum4
          go_loopw [17] (fun tj wr => ∃ i : Nat, i ≤ n4 ∧ tj = .int .i64 i ∧ Below x4.heap.size x4 wr) (fun tj _ => n4 - (intOf tj).toNat)
          case atStart => exact ⟨0, Nat.zero_le _, rfl, Below.refl _ _⟩
          case round =>
            obtain ⟨i, hi, rfl, hbw⟩ := hrel
            have HBW := Lib.hid hbw
            have HCL := Lib.hid (fun g k v (h : x4.cell? ⟨g, k, none⟩ = some v) => (show wr.cell? ⟨g, k, none⟩ = some v by rw [hbw.cell (p := ⟨g, k, none⟩) (World.block_lt_of_cell? x4 _ h)]; exact h))
            clear hbw
            by_cases hlt : i < n4
            · have hltI : (i : Int) < (n4 : Int) := by omega
              obtain ⟨g4, rfl, k4⟩ := HS3.out (by omega)
              obtain ⟨d0, d1, d2⟩ := k4 i hlt
              have d0 := HCL.out _ _ _ d0
              have d1 := HCL.out _ _ _ d1
              have d2 := HCL.out _ _ _ d2
              clear k4
              by_cases hl : i < ts.length
              · have hlI : (i : Int) < (ts.length : Int) := by omega
                have hld : decide (i < ts.length) = true := by simp; omega
                have hgd : decide (ts.length ≤ i) = false := by simp; omega
                obtain ⟨g1, rfl, k1⟩ := HQ3.out (by omega)
                obtain ⟨b0, b1, b2⟩ := k1 i hl
                have b0 := HCL.out _ _ _ b0
                have b1 := HCL.out _ _ _ b1
                have b2 := HCL.out _ _ _ b2
                rw [HTL.out i hl] at d0 d1 d2
                obtain ⟨t, ht⟩ : ∃ t, tkAt ts i = t := ⟨_, rfl⟩
                rw [ht] at d0 d1 d2 b0 b1 b2
                obtain ⟨tk, tp, tu⟩ := t
                have hrun : ∀ w, (binOp .neq 40 (.agg #[.int .i64 tk, .int .i64 tp, .string ⟨tu.toArray⟩]) (.agg #[.int .i64 tk, .int .i64 tp, .string ⟨tu.toArray⟩])).run Try.prog w = .ok (.bool false) w := fun w => by
                  have h := tk_neq_run tk tk tp tp tu tu w
                  rw [tkEq_iff.2 rfl] at h
                  exact h
                clear k1 ht
                go_wp2_with fail
                go_quiet (fail)
                go_wp2_with fail
                exact ⟨⟨i + 1, by omega, by go_num, below_drewN HBW.out _⟩, by simp [intOf]; omega⟩
              · obtain ⟨q, hq⟩ : ∃ q, i = ts.length + q := ⟨i - ts.length, by omega⟩
                have hlI : (ts.length : Int) ≤ (i : Int) := by omega
                have hld : decide (i < ts.length) = false := by simp; omega
                have hgd : decide (ts.length ≤ i) = true := by simp; omega
                have hsub : (i : Int) - (ts.length : Int) = (q : Int) := by omega
                have hql : q < us.length := by have := HN4.out; omega
                have hqI : (q : Int) < (us.length : Int) := by omega
                obtain ⟨g2, rfl, k2⟩ := HR3.out (by omega)
                obtain ⟨b0, b1, b2⟩ := k2 q hql
                have b0 := HCL.out _ _ _ b0
                have b1 := HCL.out _ _ _ b1
                have b2 := HCL.out _ _ _ b2
                have e := HTR.out q hql
                rw [← hq] at e
                rw [e] at d0 d1 d2
                obtain ⟨t, ht⟩ : ∃ t, tkAt us q = t := ⟨_, rfl⟩
                rw [ht] at d0 d1 d2 b0 b1 b2
                obtain ⟨tk, tp, tu⟩ := t
                have d0 : wr.cell? ⟨g4, i * 3, none⟩ = some (.int .i64 tk) := d0
                have d1 : wr.cell? ⟨g4, i * 3 + 1, none⟩ = some (.int .i64 ((a.length + 1 + tp : Nat) : Int)) := d1
                have d2 : wr.cell? ⟨g4, i * 3 + 2, none⟩ = some (.string ⟨tu.toArray⟩) := d2
                obtain ⟨P2, hP2⟩ : ∃ P2, a.length + 1 + tp = P2 := ⟨_, rfl⟩
                rw [hP2] at d1
                have hsumT : (tp : Int) + (a.length : Int) + 1 = (P2 : Int) := by omega
                have htb : (tp : Int) ≤ 1000000 := by
                  have h : (tkAt us q).2.1 ≤ b.length := HPS.out q hql
                  rw [ht] at h
                  have h : tp ≤ b.length := h
                  omega
                have hrun : ∀ w, (binOp .neq 40 (.agg #[.int .i64 tk, .int .i64 P2, .string ⟨tu.toArray⟩]) (.agg #[.int .i64 tk, .int .i64 P2, .string ⟨tu.toArray⟩])).run Try.prog w = .ok (.bool false) w := fun w => by
                  have h := tk_neq_run tk tk P2 P2 tu tu w
                  rw [tkEq_iff.2 rfl] at h
                  exact h
                clear k2 ht e hq hP2
                go_wp2_with fail
                go_quiet (fail)
                have HBX : Below x4.heap.size x4 (wr.drewN nq) := below_drewN HBW.out _
                have d0' : (wr.drewN nq).cell? ⟨g4, i * 3, none⟩ = some (.int .i64 tk) := d0
                have d1' : (wr.drewN nq).cell? ⟨g4, i * 3 + 1, none⟩ = some (.int .i64 P2) := d1
                have d2' : (wr.drewN nq).cell? ⟨g4, i * 3 + 2, none⟩ = some (.string ⟨tu.toArray⟩) := d2
                have b0' : (wr.drewN nq).cell? ⟨g2, q * 3, none⟩ = some (.int .i64 tk) := b0
                have b1' : (wr.drewN nq).cell? ⟨g2, q * 3 + 1, none⟩ = some (.int .i64 tp) := b1
                have b2' : (wr.drewN nq).cell? ⟨g2, q * 3 + 2, none⟩ = some (.string ⟨tu.toArray⟩) := b2
                generalize wr.drewN nq = x at HBX d0' d1' d2' b0' b1' b2' ⊢
                have HBX2 := Lib.hid HBX
                have hsz := HBX.size
                have HCO := Lib.hid (fun o g k v (h : x.cell? ⟨g, k, none⟩ = some v) => (show (x.alloc o).cell? ⟨g, k, none⟩ = some v by rw [(ext_alloc x o).cell (p := ⟨g, k, none⟩) (World.block_lt_of_cell? x _ h)]; exact h))
                have f0 := fun o => HCO.out o _ _ _ d0'
                have f1 := fun o => HCO.out o _ _ _ d1'
                have f2 := fun o => HCO.out o _ _ _ d2'
                clear d0 d1 d2 b0 b1 b2 HBX d0' d1' d2'
                go_wp2_with fail
                go_quiet (fail)
                go_wp2_with fail
                exact ⟨⟨i + 1, by omega, by go_num, below_drewN (HBX2.out.alloc hsz _) _⟩, by simp [intOf]; omega⟩
            · have hge : decide ((i : Int) < (n4 : Int)) = false := by simp; omega
              have hge2 : decide (i < n4) = false := by simp; omega
              go_wp2_with fail
              refine (awake_any _).mono ?_
              rintro e x5 ⟨rfl, hb5⟩
              have HB5 := Lib.hid (ext_trans (HB4.out.trans (HBW.out.mono HB4.out.size)) hb5)
              clear hb5
              go_wp2_with fail
              go_ret
              exact ⟨rfl, HB5.out⟩
        · have HF : Hid (toksM (a ++ gapB m :: b) = ([], a.length + 1 + pb, cb)) := Lib.hid (by rw [HJ2.out rfl, if_neg hcb])
          rw [HF.out] at HTC
          have HTC2 : Hid (∀ v, TokC v (a ++ gapB m :: b) [] (a.length + 1 + pb) cb) := Lib.hid HTC.out
          have hcbd : (cb == 0) = false := by simpa using hcb
          have hcbd2 : (cb != 0) = true := by simpa using hcb
          clear HTC HJ2 hcb
          go_enter Try.func8, Try.ntmps8
          go_wp2_with fail
          refine (HTA2.out _ HA.out).mono ?_
          rintro e x1 ⟨v1, rfl, ho1, hb1⟩
          have HB1 := Lib.hid hb1
          clear ho1 hb1
          go_wp2_with fail
          refine (HTB2.out _ (HB.out.below HB1.out)).mono ?_
          rintro e x2 ⟨v2, rfl, ho2, hb2⟩
          have HB2 := Lib.hid (HB1.out.trans (hb2.mono HB1.out.size))
          clear ho2 hb2
          go_wp2_with fail
          refine (HLW.out _).mono ?_
          rintro e w' ⟨rfl, rfl⟩
          have HA2 := Lib.hid (fun o => HA.out.below (ext_trans HB2.out (ext_alloc x2 o)))
          have HB2' := Lib.hid (fun o => HB.out.below (ext_trans HB2.out (ext_alloc x2 o)))
          have hcva : ∀ o, (convert 22 9 (.slice a0 a.length cap0)).run Try.prog (x2.alloc o) = .ok (.string ⟨a.toArray⟩) (x2.alloc o) := fun o => run_toStr _ _ _ 5 Try.underlying22 Try.underlying5 Try.underlying9 _ _ (HA2.out o)
          have hcvb : ∀ o, (convert 22 9 (.slice a1 b.length cap1)).run Try.prog (x2.alloc o) = .ok (.string ⟨b.toArray⟩) (x2.alloc o) := fun o => run_toStr _ _ _ 5 Try.underlying22 Try.underlying5 Try.underlying9 _ _ (HB2'.out o)
          have hcat1 : a.length + 1 ≤ 9223372036854775807 := by omega
          have hcat2 : a.length + 1 + b.length ≤ 9223372036854775807 := by omega
          go_wp2_with (refine wpList_toBytes _ (by rfl) 9 22 _ rfl 5 Try.underlying9 Try.underlying22 Try.underlying5 (a ++ gapB m :: b) (by simp [Act.eval, Act.put]) (by simp; omega) ?_)
          intro bb cap x3 h8 hb3 hbe
          have HB3 := Lib.hid (ext_trans HB2.out ((ext_alloc x2 _).trans (hb3.mono (Nat.le_succ _))))
          clear hbe hb3
          go_wp2_with fail
          refine (HTC2.out _ _ h8).mono ?_
          rintro e x4 ⟨v4, rfl, ho4, hb4⟩
          have HB4 := Lib.hid (ext_trans HB3.out hb4)
          obtain ⟨va, vc, e4⟩ := ho4.slice
          subst e4
          clear ho4 hb4 h8
          obtain ⟨P, hP⟩ : ∃ P, a.length + 1 + pb = P := ⟨_, rfl⟩
          have hsum : (a.length : Int) + 1 + (pb : Int) = (P : Int) := by omega
          rw [hP]
          clear hP
          go_wp2_with fail
          refine (awake_any _).mono ?_
          rintro e x5 ⟨rfl, hb5⟩
          have HB5 := Lib.hid (ext_trans HB4.out hb5)
          clear hb5
          go_wp2_with fail
          go_ret
          exact ⟨rfl, HB5.out⟩
      · have hts : ts = [] := HNA2.out hca
        have hcad : (ca == 0) = false := by simpa using hca
        have hcad2 : (ca != 0) = true := by simpa using hca
        subst hts
        clear hca HJ2 HTC
        go_enter Try.func8, Try.ntmps8
        go_wp2_with fail
        refine (HTA2.out _ HA.out).mono ?_
        rintro e x1 ⟨v1, rfl, ho1, hb1⟩
        have HB1 := Lib.hid hb1
        obtain ⟨va, vc, e1⟩ := ho1.slice
        subst e1
        clear ho1 hb1
        go_wp2_with fail
        refine (awake_any _).mono ?_
        rintro e x5 ⟨rfl, hb5⟩
        have HB5 := Lib.hid (HB1.out.trans (hb5.mono HB1.out.size))
        clear hb5
        go_wp2_with fail
        go_ret
        exact ⟨rfl, HB5.out⟩
    · have h1 : (200 : Int) < (b.length : Int) := by omega
      have hmd0 : decide ((200 : Int) < (a.length : Int)) = false := by simp; omega
      go_enter Try.func8, Try.ntmps8
      go_wp2_with fail
      refine (awake_any _).mono ?_
      rintro e x2 ⟨rfl, hb2⟩
      go_wp2_with fail
      go_ret
      exact ⟨rfl, hb2⟩
  · have h1 : (200 : Int) < (a.length : Int) := by omega
    go_enter Try.func8, Try.ntmps8
    go_wp2_with fail
    refine (awake_any _).mono ?_
    rintro e x2 ⟨rfl, hb2⟩
    go_wp2_with fail
    go_ret
    exact ⟨rfl, hb2⟩
end Go.Proofs.Ytkdmmmheciffgaa
