import Derived.Test.YtncfmmpdlcnboaaTq15
import Derived.Test.YtncfmmpdlcnboaaTq16
set_option linter.unusedVariables false
set_option linter.unusedSimpArgs false
namespace Go.Proofs.Ytncfmmpdlcnboaa
open Go.RowKit
theorem OwnT.neScn {w : World} {B : Nat} {v : Value} {ts : List Tk} (h : OwnT w B v ts) {g : Nat} {cs : List Value} (hb : Box w g 55 cs) : v.ownBlock ≠ some g := by
  rcases h.2 with ⟨rfl, _⟩ | ⟨g2, cap, cur, rfl, _, hh, _⟩
  · simp [Value.ownBlock]
  · intro e
    have e : g2 = g := by simpa [Value.ownBlock] using e
    subst e
    have hb2 : w.heap[g2]? = some (.cells cs.toArray 55 (0, 0)) := hb
    rw [hh] at hb2
    injection hb2 with hb3
    injection hb3 with _ h4 _
    exact absurd h4 (by decide)
theorem isB_blk {b : List UInt8} {i : Nat} : isB b false i [32, 9, 10, 13] = (decide (i < b.length) && blkC (byt b i)) := by
  unfold isB memB blkC
  rw [Bool.eq_iff_iff]
  simp
  intro _
  constructor
  · rintro (h | h | h | h) <;> omega
  · rintro (h | h | h | h) <;> omega
set_option maxRecDepth 100000 in
set_option maxHeartbeats 16000000 in
theorem rTokens_any (vb : Value) (b : List UInt8) (w : World) (hv : Is8 w vb b) (hm : b.length ≤ 1000000) :
    Calls Try.prog 15 #[vb] w fun e w' => ∃ vt, e = .returned (.tuple #[vt, .int .i64 (toksM b).2.1, .int .i64 (toksM b).2.2]) ∧ OwnT w' w.heap.size vt (toksM b).1 ∧ Below w.heap.size w w' := by
  have HTB := Lib.hid (textB_of hv hm)
  have HTM : Hid (toksM b = if (allM b (skipE b 0) []).2.2 = true then ((allM b (skipE b 0) []).1, b.length, 0) else ([], (allM b (skipE b 0) []).2.1, faultN b (allM b (skipE b 0) []).2.1)) := Lib.hid rfl
  obtain ⟨sa, scap, e, h1, h2, -, -⟩ := hv
  subst e
  have hmaxc := h2
  unfold maxLen at h2
  go_enter Try.func15, Try.ntmps15
  go_wp2_with fail
  have HS0 := Lib.hid (Box.new w 55 [.slice sa b.length scap, .int .i64 0, .bool false])
  go_loopw [6] (fun t6 wr => ∃ (i : Nat) (acc : List Tk), i ≤ b.length ∧ acc.length ≤ i ∧ Hid (allM b (skipE b 0) [] = allM b (skipE b i) acc) ∧ OwnT wr w.heap.size t6 acc ∧ Scn wr w.heap.size (.slice sa b.length scap) i false ∧ Below w.heap.size w wr) (fun _ wr => leftS w.heap.size b.length wr)
  case atStart => exact ⟨0, [], Nat.zero_le _, by simp, Lib.hid rfl, OwnT.nil _ _, HS0.out, (Below.refl _ _).alloc (Nat.le_refl _) _⟩
  case round =>
    obtain ⟨wo, rfl⟩ : ∃ x, x = wr := ⟨wr, rfl⟩
    obtain ⟨i, acc, hi, hal, HE, hot, hs, hbw⟩ := hrel
    have HSr := Lib.hid hs
    have HOr := Lib.hid hot
    have HBr := Lib.hid hbw
    have HTr := Lib.hid ((HTB.out.below hbw).at (Nat.le_refl _))
    clear hot hs hbw
    go_wp2_with fail
    go_loopw [] (fun w2 => ∃ j : Nat, i ≤ j ∧ j ≤ b.length ∧ Hid (skipE b i = skipE b j) ∧ Scn w2 w.heap.size (.slice sa b.length scap) j false ∧ wo.grownBy w2 (some w.heap.size)) (fun w2 => leftS w.heap.size b.length w2)
    case atStart => exact ⟨i, Nat.le_refl _, hi, Lib.hid rfl, HSr.out, grown_refl _ _⟩
    case round =>
      obtain ⟨j, hij, hj, HJ, hs2, hg2⟩ := hrel
      have HS2 := Lib.hid hs2
      have HG2 := Lib.hid hg2
      have HT2 := Lib.hid (HTr.out.grown hg2)
      have d1 : wr.cell? ⟨w.heap.size, 1, none⟩ = some (.int .i64 j) := hs2.c1
      have hlt2 := Box.lt hs2
      have HTK := Lib.hid (take_any w.heap.size _ b j false [32, 9, 10, 13] wr hs2 HT2.out (by decide) (by omega))
      rw [isB_blk] at HTK
      clear hs2 hg2
      cases hb : (decide (j < b.length) && blkC (byt b j)) with
      | true =>
        rw [hb] at HTK
        have hb2 : j < b.length ∧ blkC (byt b j) = true := by simpa using hb
        have HJ2 := Lib.hid (HJ.out.trans (skipE_on hb2.1 hb2.2))
        have hjl := hb2.1
        have HTK2 : Hid (Calls Try.prog 22 #[.pointer (some ⟨w.heap.size, 0, none⟩), .string ⟨[32, 9, 10, 13].toArray⟩] wr fun e w' => e = .returned (.bool true) ∧ Scn w' w.heap.size (.slice sa b.length scap) (j + 1) false ∧ wr.grownBy w' (some w.heap.size)) := Lib.hid HTK.out
        clear hb hb2 HTK
        go_wp2_with fail
        refine HTK2.out.mono ?_
        rintro e x1 ⟨rfl, hs3, hg3⟩
        have HS3 := Lib.hid hs3
        have HG3 := Lib.hid (grownBy_trans HG2.out hg3)
        clear hs3 hg3
        go_wp2_with fail
        exact ⟨⟨j + 1, by omega, by omega, HJ2, HS3.out, HG3.out⟩, by rw [leftS_eq HS3.out, leftS_eq HS2.out]; simp; omega⟩
      | false =>
        rw [hb] at HTK
        have HJ2 : Hid (skipE b i = j) := Lib.hid (by
          rw [HJ.out]
          by_cases hjl : j < b.length
          · exact skipE_off (by simpa [hjl] using hb)
          · exact skipE_end (by omega))
        have HTK2 : Hid (Calls Try.prog 22 #[.pointer (some ⟨w.heap.size, 0, none⟩), .string ⟨[32, 9, 10, 13].toArray⟩] wr fun e w' => e = .returned (.bool false) ∧ Scn w' w.heap.size (.slice sa b.length scap) j false ∧ wr.grownBy w' (some w.heap.size)) := Lib.hid HTK.out
        clear hb HTK
        go_wp2_with fail
        refine HTK2.out.mono ?_
        rintro e x1 ⟨rfl, hs3, hg3⟩
        have HS3 := Lib.hid hs3
        have HG3 := Lib.hid (grownBy_trans HG2.out hg3)
        have e1 : x1.cell? ⟨w.heap.size, 1, none⟩ = some (.int .i64 j) := hs3.c1
        have e2 : x1.cell? ⟨w.heap.size, 2, none⟩ = some (.bool false) := hs3.c2
        have HT3 := Lib.hid (HTr.out.grown HG3.out)
        have HO3 := Lib.hid (HOr.out.kept HG3.out (.inr (HOr.out.neScn HSr.out)))
        have HB3 := Lib.hid (HBr.out.grown HG3.out (by have := HBr.out.size; omega) (fun k hk => by injection hk with hk; omega))
        clear hs3 hg3
        by_cases hjl : j < b.length
        · have hgd : decide (b.length ≤ j) = false := by simp; omega
          have HE3 : Hid (allM b (skipE b 0) [] = allM b j acc) := Lib.hid (by rw [HE.out, HJ2.out])
          have HST := Lib.hid (HE3.out.trans (allM_step hjl))
          obtain ⟨q1, q2⟩ := tokM_bd (b := b) (i := j) hjl
          have HTT := Lib.hid (rtok_any w.heap.size _ b j x1 HS3.out HT3.out hjl)
          unfold TokPost at HTT
          obtain ⟨T, hT⟩ : ∃ T, tokM b j = T := ⟨_, rfl⟩
          rw [hT] at HTT HST q1 q2
          clear hT
          obtain ⟨t0, q, ok⟩ := T
          have q1 : q ≤ b.length := q1
          have q2 : ok = true → j < q := q2
          have HTT2 : Hid (Calls Try.prog 23 #[.pointer (some ⟨w.heap.size, 0, none⟩)] x1 fun e w' => ∃ t : Tk, e = .returned (.agg #[.int .i64 t.1, .int .i64 t.2.1, .string ⟨t.2.2.toArray⟩]) ∧ (ok = true → t = t0) ∧ Scn w' w.heap.size (.slice sa b.length scap) q (notB ok) ∧ x1.grownBy w' (some w.heap.size)) := Lib.hid HTT.out
          have HST2 : Hid (allM b (skipE b 0) [] = if ok = true then allM b (skipE b q) (acc ++ [t0]) else (acc, q, false)) := Lib.hid HST.out
          clear HTT HST
          cases ok with
          | true =>
            have hjq := q2 rfl
            have HF : Hid (allM b (skipE b 0) [] = allM b (skipE b q) (acc ++ [t0])) := Lib.hid HST2.out
            go_wp2_with fail
            refine HTT2.out.mono ?_
            rintro e x2 ⟨t, rfl, ht, hs4, hg4⟩
            obtain rfl := ht (by trivial)
            have HS4 := Lib.hid hs4
            have HO4 := Lib.hid (HO3.out.kept hg4 (.inr (HO3.out.neScn HS3.out)))
            have HB4 := Lib.hid (HB3.out.grown hg4 (by have := HB3.out.size; omega) (fun k hk => by injection hk with hk; omega))
            have e4 : ∀ o, (x2.alloc o).cell? ⟨w.heap.size, 2, none⟩ = some (.bool false) := fun o => Scn.c2 (Box.alloc hs4 o)
            have hsz := HB4.out.size
            clear hs4 hg4
            go_wp2_with (at_builtin; refine wpList_appT _ rfl _ _ rfl w.heap.size _ acc rfl (HO4.out.below (ext_alloc _ _)) (t.1, t.2.1, t.2.2) _ rfl (by simp) (by omega) (by simp; omega) ?_)
            intro v5 x5 ho5 hg5
            have HS5 := Lib.hid (Box.grown (Box.alloc HS4.out _) hg5 (HO4.out.neScn HS4.out))
            have HB5 := Lib.hid ((HB4.out.alloc hsz _).grown hg5 (by simp; omega) (fun k hk => (HO4.out.row k hk).1))
            have HO5 : Hid (OwnT x5 w.heap.size v5 (acc ++ [t])) := Lib.hid ho5
            clear ho5 hg5 e4
            go_wp2_with fail
            exact ⟨⟨q, acc ++ [t], q1, by simp; omega, HF, HO5.out, HS5.out, HB5.out⟩, by rw [leftS_eq (show Scn x5 _ _ q false from HS5.out), leftS_eq HSr.out]; simp; omega⟩
          | false =>
            have HF : Hid (toksM b = ([], q, faultN b q)) := Lib.hid (by rw [HTM.out, HST2.out]; rfl)
            by_cases hql : q < b.length
            · have hqd : decide ((q : Int) < (b.length : Int)) = true := by simp; omega
              have hqd2 : decide (q < b.length) = true := by simp; omega
              have HNX := Lib.hid (fun v W (h : Is8 W v (b.drop q)) => rnext_any v (b.drop q) W h (by simp; omega))
              have HFN : Hid (faultN b q = if (nextL (b.drop q)).2.2 = false then 3 else 4) := Lib.hid (by unfold faultN; simp [hql])
              obtain ⟨R, hR⟩ : ∃ R, nextL (b.drop q) = R := ⟨_, rfl⟩
              rw [hR] at HNX HFN
              clear hR
              obtain ⟨r, m, ok⟩ := R
              have HX2 : Hid (∀ v W, Is8 W v (b.drop q) → Calls Try.prog 24 #[v] W fun e w' => e = .returned (.tuple #[.int .i32 r, .int .i64 (m : Nat), .bool ok]) ∧ ∃ n, w' = W.drewN n) := Lib.hid HNX.out
              have HFN2 : Hid (faultN b q = if ok = false then 3 else 4) := Lib.hid HFN.out
              clear HNX HFN
              obtain ⟨sa2, cap2, e5, g1, g2, g3, g4⟩ := HTB.out.is
              injection e5 with e6 e7 e8
              subst e6 e8
              obtain ⟨bb, off, rfl, -⟩ := g4 (by omega)
              have q3 : ¬ scap = q := by omega
              have q4 : ¬ scap - q = 0 := by omega
              have q5 : ¬ scap ≤ q := by omega
              clear g3 g4
              have HSL := Lib.hid (fun W (hb : Below w.heap.size w W) => (by
                obtain ⟨a', c', e9, -, -, -, k4⟩ := (HTB.out.below hb).is
                injection e9 with e10 e11 e12
                subst e10 e12
                obtain ⟨bb2, off2, e13, k5⟩ := k4 (by omega)
                injection e13 with e14
                injection e14 with e15 e16
                subst e15 e16
                exact Is8.dropAt k5 q hql h1 hmaxc : Is8 W (.slice (some ⟨bb, off + q, none⟩) (b.length - q) (scap - q)) (b.drop q)))
              go_wp2_with fail
              refine HTT2.out.mono ?_
              rintro e x2 ⟨t, rfl, ht, hs4, hg4⟩
              have HS4 := Lib.hid hs4
              have HB4 := Lib.hid (HB3.out.grown hg4 (by have := HB3.out.size; omega) (fun k hk => by injection hk with hk; omega))
              have e4 : ∀ o, (x2.alloc o).cell? ⟨w.heap.size, 2, none⟩ = some (.bool true) := fun o => Scn.c2 (Box.alloc hs4 o)
              have e5 : ∀ o, (x2.alloc o).cell? ⟨w.heap.size, 1, none⟩ = some (.int .i64 q) := fun o => Scn.c1 (Box.alloc hs4 o)
              have hsz := HB4.out.size
              clear hs4 hg4 ht
              cases ok with
              | true =>
                have HF2 : Hid (toksM b = ([], q, 4)) := Lib.hid (by rw [HF.out, HFN2.out]; rfl)
                go_wp2_with fail
                refine (HX2.out _ _ (HSL.out _ (HB4.out.alloc hsz _))).mono ?_
                rintro e w' ⟨rfl, k, rfl⟩
                go_wp2_with fail
                go_quiet (fail)
                go_wp2_with fail
                go_ret3
                exact ⟨_, tup3T (by rw [HF2.out]) (by rw [HF2.out]), by rw [HF2.out]; exact OwnT.nil _ _, by first | exact below_dr (HB4.out.alloc hsz _) _ | exact below_dr (below_dr (HB4.out.alloc hsz _) _) _⟩
              | false =>
                have HF2 : Hid (toksM b = ([], q, 3)) := Lib.hid (by rw [HF.out, HFN2.out]; rfl)
                go_wp2_with fail
                refine (HX2.out _ _ (HSL.out _ (HB4.out.alloc hsz _))).mono ?_
                rintro e w' ⟨rfl, k, rfl⟩
                go_wp2_with fail
                go_quiet (fail)
                go_wp2_with fail
                go_ret3
                exact ⟨_, tup3T (by rw [HF2.out]) (by rw [HF2.out]), by rw [HF2.out]; exact OwnT.nil _ _, by first | exact below_dr (HB4.out.alloc hsz _) _ | exact below_dr (below_dr (HB4.out.alloc hsz _) _) _⟩
            · have hqd : decide (q < b.length) = false := by simp; omega
              have hqd2 : decide ((q : Int) < (b.length : Int)) = false := by simp; omega
              have HF2 : Hid (toksM b = ([], q, 4)) := Lib.hid (by rw [HF.out]; unfold faultN; simp [hql])
              go_wp2_with fail
              refine HTT2.out.mono ?_
              rintro e x2 ⟨t, rfl, ht, hs4, hg4⟩
              have HS4 := Lib.hid hs4
              have HB4 := Lib.hid (HB3.out.grown hg4 (by have := HB3.out.size; omega) (fun k hk => by injection hk with hk; omega))
              have e4 : ∀ o, (x2.alloc o).cell? ⟨w.heap.size, 2, none⟩ = some (.bool true) := fun o => Scn.c2 (Box.alloc hs4 o)
              have e5 : ∀ o, (x2.alloc o).cell? ⟨w.heap.size, 1, none⟩ = some (.int .i64 q) := fun o => Scn.c1 (Box.alloc hs4 o)
              have hsz := HB4.out.size
              clear hs4 hg4 ht
              go_wp2_with fail
              go_quiet (fail)
              go_wp2_with fail
              go_ret3
              exact ⟨_, tup3T (by rw [HF2.out]) (by rw [HF2.out]), by rw [HF2.out]; exact OwnT.nil _ _, by first | exact below_dr (HB4.out.alloc hsz _) _ | exact below_dr (below_dr (HB4.out.alloc hsz _) _) _⟩
        · obtain rfl : j = b.length := by omega
          have hgd : decide (b.length ≤ b.length) = true := by simp
          have HF : Hid (toksM b = (acc, b.length, 0)) := Lib.hid (by rw [HTM.out, HE.out, HJ2.out, allM_end rfl]; rfl)
          go_wp2_with fail
          go_ret3
          exact ⟨_, tup3T (by rw [HF.out]) (by rw [HF.out]), by rw [HF.out]; exact HO3.out, HB3.out⟩
end Go.Proofs.Ytncfmmpdlcnboaa
