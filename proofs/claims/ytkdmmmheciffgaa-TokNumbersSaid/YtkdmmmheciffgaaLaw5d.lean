/- TokNumbers. -/
import Derived.Test.YtkdmmmheciffgaaLaw5c
set_option linter.unusedVariables false
set_option linter.unusedSimpArgs false
namespace Go.Proofs.Ytkdmmmheciffgaa
open Go.RowKit

set_option maxHeartbeats 4000000 in
theorem TokNumbers_walk (sa : ByteArray) (w : World) (hs : sa.size ≤ maxLen) :
    Calls Try.prog 5 #[.string sa] w fun e w' => e = .returned (.bool true) ∧ Below w.heap.size w w' := by
  obtain ⟨s, rfl⟩ : ∃ s : List UInt8, sa = ⟨s.toArray⟩ := ⟨sa.data.toList, by cases sa; simp⟩
  clear hs
  by_cases hm : s.length ≤ 60
  · have HNA := Lib.hid (fun W => isNum_any s W (by omega))
    have HNB := Lib.hid (fun W => risNum_any s W (by omega))
    have HT := Lib.hid (fun v W h => Tokens_any v s W h (by omega))
    have HFW := Lib.hid (@isNum_toks s)
    have HBW := Lib.hid (@toks_isNum s)
    obtain ⟨R, hR⟩ : ∃ R, toksM s = R := ⟨_, rfl⟩
    rw [hR] at HT HFW HBW
    clear hR
    obtain ⟨ts, p, c⟩ := R
    have HT2 : Hid (∀ v W, Is8 W v s → Calls Try.prog 17 #[v] W fun e w' => ∃ vt, e = .returned (.tuple #[vt, .int .i64 p, .int .i64 c]) ∧ OwnT w' W.heap.size vt ts ∧ Below W.heap.size W w') := Lib.hid HT.out
    have HF2 : Hid (isNumM s = true → (ts, p, c) = ([((8 : Int), 0, s)], s.length, (0 : Int))) := Lib.hid HFW.out
    have HB2' : Hid (c = 0 → ts = [(8, 0, s)] → isNumM s = true) := Lib.hid HBW.out
    clear HT HFW HBW
    have hmd : decide ((60 : Int) < (s.length : Int)) = false := by simp; omega
    cases hn : isNumM s with
    | true =>
      rw [hn] at HNA HNB
      have h := HF2.out hn
      injection h with h1 h2
      injection h2 with h3 h4
      subst h1 h3 h4
      clear hn HF2 HB2'
      have hrun : ∀ w, (binOp .eql 40 (.agg #[.int .i64 8, .int .i64 0, .string ⟨s.toArray⟩]) (.agg #[.int .i64 8, .int .i64 0, .string ⟨s.toArray⟩])).run Try.prog w = .ok (.bool true) w := fun w => by
        have h := tk_eq_run 8 8 0 0 s s w
        rw [tkEq_iff.2 rfl] at h
        exact h
      go_enter Try.func5, Try.ntmps5
      go_wp2_with fail
      refine (HNA.out _).mono ?_
      rintro e x1 ⟨rfl, hb1⟩
      have HB1 := Lib.hid hb1
      clear hb1
      go_wp2_with fail
      refine (HNB.out _).mono ?_
      rintro e x2 ⟨rfl, hb2⟩
      have HB2 := Lib.hid (HB1.out.trans (hb2.mono HB1.out.size))
      clear hb2
      go_wp2_with (refine wpList_toBytes _ (by rfl) 9 22 _ rfl 5 Try.underlying9 Try.underlying22 Try.underlying5 s rfl (by omega) ?_)
      intro b cap x3 h8 hb3 hbe
      have HB3 := Lib.hid (HB2.out.trans (hb3.mono HB2.out.size))
      clear hbe hb3
      go_wp2_with fail
      refine (HT2.out _ _ h8).mono ?_
      rintro e x4 ⟨v4, rfl, ho4, hb4⟩
      have HB4 := Lib.hid (HB3.out.trans (hb4.mono HB3.out.size))
      obtain ⟨a1, c1, rfl, k1, k2, k3⟩ := ho4.isT
      obtain ⟨g, rfl, k4⟩ := k3 (by simp)
      obtain ⟨t0, t1, t2⟩ := k4 0 (by simp)
      have t0' : x4.cell? ⟨g, 0, none⟩ = some (.int .i64 8) := t0
      have t1' : x4.cell? ⟨g, 1, none⟩ = some (.int .i64 0) := t1
      have t2' : x4.cell? ⟨g, 2, none⟩ = some (.string ⟨s.toArray⟩) := t2
      clear ho4 hb4 k3 k4 t0 t1 t2 h8
      go_wp2_with fail
      refine (awake_any _).mono ?_
      rintro e x5 ⟨rfl, hb5⟩
      have HB5 := Lib.hid (HB4.out.trans (hb5.mono HB4.out.size))
      clear hb5
      go_wp2_with fail
      go_ret
      exact ⟨rfl, HB5.out⟩
    | false =>
      rw [hn] at HNA HNB
      have hne : ¬ (c = 0 ∧ ts = [(8, 0, s)]) := fun h => by rw [HB2'.out h.1 h.2] at hn; cases hn
      clear hn HF2 HB2'
      by_cases hc : c = 0
      · subst hc
        have hts : ts ≠ [(8, 0, s)] := fun h => hne ⟨rfl, h⟩
        by_cases hl : ts.length = 1
        · obtain ⟨t, rfl⟩ := List.length_eq_one_iff.1 hl
          obtain ⟨k, a, u⟩ := t
          have hq : tkEq (k, a, u) (8, 0, s) = false := by rw [Bool.eq_false_iff]; intro h; exact hts (by rw [tkEq_iff.1 h])
          have hrun : ∀ w, (binOp .eql 40 (.agg #[.int .i64 k, .int .i64 a, .string ⟨u.toArray⟩]) (.agg #[.int .i64 8, .int .i64 0, .string ⟨s.toArray⟩])).run Try.prog w = .ok (.bool false) w := fun w => by
            have h := tk_eq_run k 8 a 0 u s w
            rw [hq] at h
            exact h
          clear hne hts hl hq
          go_enter Try.func5, Try.ntmps5
          go_wp2_with fail
          refine (HNA.out _).mono ?_
          rintro e x1 ⟨rfl, hb1⟩
          have HB1 := Lib.hid hb1
          clear hb1
          go_wp2_with fail
          refine (HNB.out _).mono ?_
          rintro e x2 ⟨rfl, hb2⟩
          have HB2 := Lib.hid (HB1.out.trans (hb2.mono HB1.out.size))
          clear hb2
          go_wp2_with (refine wpList_toBytes _ (by rfl) 9 22 _ rfl 5 Try.underlying9 Try.underlying22 Try.underlying5 s rfl (by omega) ?_)
          intro b cap x3 h8 hb3 hbe
          have HB3 := Lib.hid (HB2.out.trans (hb3.mono HB2.out.size))
          clear hbe hb3
          go_wp2_with fail
          refine (HT2.out _ _ h8).mono ?_
          rintro e x4 ⟨v4, rfl, ho4, hb4⟩
          have HB4 := Lib.hid (HB3.out.trans (hb4.mono HB3.out.size))
          obtain ⟨a1, c1, rfl, k1, k2, k3⟩ := ho4.isT
          obtain ⟨g, rfl, k4⟩ := k3 (by simp)
          obtain ⟨t0, t1, t2⟩ := k4 0 (by simp)
          have t0' : x4.cell? ⟨g, 0, none⟩ = some (.int .i64 k) := t0
          have t1' : x4.cell? ⟨g, 1, none⟩ = some (.int .i64 a) := t1
          have t2' : x4.cell? ⟨g, 2, none⟩ = some (.string ⟨u.toArray⟩) := t2
          clear ho4 hb4 k3 k4 t0 t1 t2 h8
          go_wp2_with fail
          refine (awake_any _).mono ?_
          rintro e x5 ⟨rfl, hb5⟩
          have HB5 := Lib.hid (HB4.out.trans (hb5.mono HB4.out.size))
          clear hb5
          go_wp2_with fail
          go_ret
          exact ⟨rfl, HB5.out⟩
        · have hld : ((ts.length : Int) == 1) = false := by rw [beq_eq_false_iff_ne]; omega
          clear hne hts hl
          go_enter Try.func5, Try.ntmps5
          go_wp2_with fail
          refine (HNA.out _).mono ?_
          rintro e x1 ⟨rfl, hb1⟩
          have HB1 := Lib.hid hb1
          clear hb1
          go_wp2_with fail
          refine (HNB.out _).mono ?_
          rintro e x2 ⟨rfl, hb2⟩
          have HB2 := Lib.hid (HB1.out.trans (hb2.mono HB1.out.size))
          clear hb2
          go_wp2_with (refine wpList_toBytes _ (by rfl) 9 22 _ rfl 5 Try.underlying9 Try.underlying22 Try.underlying5 s rfl (by omega) ?_)
          intro b cap x3 h8 hb3 hbe
          have HB3 := Lib.hid (HB2.out.trans (hb3.mono HB2.out.size))
          clear hbe hb3
          go_wp2_with fail
          refine (HT2.out _ _ h8).mono ?_
          rintro e x4 ⟨v4, rfl, ho4, hb4⟩
          have HB4 := Lib.hid (HB3.out.trans (hb4.mono HB3.out.size))
          obtain ⟨va, vc, e4⟩ := ho4.slice
          subst e4
          clear ho4 hb4 h8
          go_wp2_with fail
          refine (awake_any _).mono ?_
          rintro e x5 ⟨rfl, hb5⟩
          have HB5 := Lib.hid (HB4.out.trans (hb5.mono HB4.out.size))
          clear hb5
          go_wp2_with fail
          go_ret
          exact ⟨rfl, HB5.out⟩
      · have hcd : (c == 0) = false := by simpa using hc
        clear hne hc
        go_enter Try.func5, Try.ntmps5
        go_wp2_with fail
        refine (HNA.out _).mono ?_
        rintro e x1 ⟨rfl, hb1⟩
        have HB1 := Lib.hid hb1
        clear hb1
        go_wp2_with fail
        refine (HNB.out _).mono ?_
        rintro e x2 ⟨rfl, hb2⟩
        have HB2 := Lib.hid (HB1.out.trans (hb2.mono HB1.out.size))
        clear hb2
        go_wp2_with (refine wpList_toBytes _ (by rfl) 9 22 _ rfl 5 Try.underlying9 Try.underlying22 Try.underlying5 s rfl (by omega) ?_)
        intro b cap x3 h8 hb3 hbe
        have HB3 := Lib.hid (HB2.out.trans (hb3.mono HB2.out.size))
        clear hbe hb3
        go_wp2_with fail
        refine (HT2.out _ _ h8).mono ?_
        rintro e x4 ⟨v4, rfl, ho4, hb4⟩
        have HB4 := Lib.hid (HB3.out.trans (hb4.mono HB3.out.size))
        obtain ⟨va, vc, e4⟩ := ho4.slice
        subst e4
        clear ho4 hb4 h8
        go_wp2_with fail
        refine (awake_any _).mono ?_
        rintro e x5 ⟨rfl, hb5⟩
        have HB5 := Lib.hid (HB4.out.trans (hb5.mono HB4.out.size))
        clear hb5
        go_wp2_with fail
        go_ret
        exact ⟨rfl, HB5.out⟩
  · have hmI : (60 : Int) < (s.length : Int) := by omega
    go_enter Try.func5, Try.ntmps5
    go_wp2_with fail
    refine (awake_any _).mono ?_
    rintro e x2 ⟨rfl, hb2⟩
    go_wp2_with fail
    go_ret
    exact ⟨rfl, hb2⟩
end Go.Proofs.Ytkdmmmheciffgaa
