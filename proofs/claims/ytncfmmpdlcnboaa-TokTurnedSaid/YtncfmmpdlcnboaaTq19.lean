import Derived.Test.YtncfmmpdlcnboaaTq17
import Derived.Test.YtncfmmpdlcnboaaTq18
set_option linter.unusedVariables false
set_option linter.unusedSimpArgs false
namespace Go.Proofs.Ytncfmmpdlcnboaa
open Go.RowKit
set_option maxHeartbeats 4000000 in
theorem risNum_any (s : List UInt8) (w : World) (hm : s.length ≤ 1000000) :
    Calls Try.prog 31 #[.string ⟨s.toArray⟩] w fun e w' => e = .returned (.bool (isNumM s)) ∧ Below w.heap.size w w' := by
  have HI := Lib.hid (fun g vb W h1 h2 => is_any g vb s 0 false [45, 48, 49, 50, 51, 52, 53, 54, 55, 56, 57] W h1 h2 (by decide) (by omega))
  rw [isB_num] at HI
  by_cases hd : byt s 0 = 45 ∨ digC (byt s 0) = true
  · rw [decide_eq_true hd] at HI
    have HN := Lib.hid (fun g vb W h1 h2 => rnum_any g vb s 0 W h1 h2 (by omega))
    rw [numR_eq] at HN
    have HF : Hid (isNumM s = ((numM s 0).2 && ((numM s 0).1 == s.length))) := Lib.hid rfl
    obtain ⟨R, hR⟩ : ∃ R, numM s 0 = R := ⟨_, rfl⟩
    rw [hR] at HN HF
    clear hR hd
    obtain ⟨q, ok⟩ := R
    have HN2 : Hid (∀ g vb W, Scn W g vb 0 false → Text W g vb s → Calls Try.prog 35 #[.pointer (some ⟨g, 0, none⟩)] W fun e w' => e = .returned (.tuple #[]) ∧ Scn w' g vb q (notB ok) ∧ W.grownBy w' (some g)) := Lib.hid HN.out
    have HF2 : Hid (isNumM s = (ok && (q == s.length))) := Lib.hid HF.out
    clear HN HF
    go_enter Try.func31, Try.ntmps31
    go_wp2_with (refine wpList_toBytes _ (by rfl) 9 29 _ rfl 5 Try.underlying9 Try.underlying29 Try.underlying5 s rfl (by omega) ?_)
    intro b cap w1 h8 hbl hbe
    have H8 := Lib.hid h8
    have HB1 := Lib.hid hbl
    have HTB := Lib.hid (textB_of h8 hm)
    have hsz := hbl.size
    clear h8 hbl hbe
    go_wp2_with fail
    have HSX := Lib.hid (Box.new w1 55 [.slice (some ⟨b, 0, none⟩) s.length cap, .int .i64 0, .bool false])
    have HTX := Lib.hid ((HTB.out.below (ext_alloc w1 (.cells #[.slice (some ⟨b, 0, none⟩) s.length cap, .int .i64 0, .bool false] 55))).at (Nat.le_refl _))
    refine (HI.out _ _ _ (by exact HSX.out) (by exact HTX.out)).mono ?_
    rintro e w' ⟨rfl, k, rfl⟩
    go_wp2_with fail
    refine (HN2.out _ _ _ (by exact Box.drew HSX.out _) (HTX.out.grown (grownBy_drew _ _ _))).mono ?_
    rintro e x2 ⟨rfl, hs2, hg2⟩
    have HB2 := Lib.hid ((below_dr (HB1.out.alloc hsz _) k).grown hg2 (by simp; omega) (fun j hj => by injection hj with hj; omega))
    have e1 : x2.cell? ⟨w1.heap.size, 1, none⟩ = some (.int .i64 q) := Scn.c1 hs2
    have e2 : x2.cell? ⟨w1.heap.size, 2, none⟩ = some (.bool (notB ok)) := Scn.c2 hs2
    clear hs2 hg2
    cases ok with
    | false =>
      have e3 : x2.cell? ⟨w1.heap.size, 2, none⟩ = some (.bool true) := e2
      clear e2
      go_wp2_with fail
      go_ret
      exact ⟨ret_bool HF2.out.symm, HB2.out⟩
    | true =>
      have e3 : x2.cell? ⟨w1.heap.size, 2, none⟩ = some (.bool false) := e2
      clear e2
      by_cases hql : q = s.length
      · have HF3 : Hid (isNumM s = true) := Lib.hid (by rw [HF2.out, hql]; simp)
        have e4 : ((q : Int) == (s.length : Int)) = true := by rw [hql]; simp
        clear hql
        go_wp2_with fail
        go_ret
        exact ⟨ret_bool HF3.out.symm, HB2.out⟩
      · have HF3 : Hid (isNumM s = false) := Lib.hid (by rw [HF2.out]; simp [hql])
        have e4 : ((q : Int) == (s.length : Int)) = false := by rw [beq_eq_false_iff_ne]; omega
        clear hql
        go_wp2_with fail
        go_ret
        exact ⟨ret_bool HF3.out.symm, HB2.out⟩
  · rw [decide_eq_false hd] at HI
    have HF : Hid (isNumM s = false) := Lib.hid (by unfold isNumM; rw [numM_no hd]; rfl)
    clear hd
    go_enter Try.func31, Try.ntmps31
    go_wp2_with (refine wpList_toBytes _ (by rfl) 9 29 _ rfl 5 Try.underlying9 Try.underlying29 Try.underlying5 s rfl (by omega) ?_)
    intro b cap w1 h8 hbl hbe
    have HB1 := Lib.hid hbl
    have HTB := Lib.hid (textB_of h8 hm)
    have hsz := hbl.size
    clear h8 hbl hbe
    go_wp2_with fail
    have HSX := Lib.hid (Box.new w1 55 [.slice (some ⟨b, 0, none⟩) s.length cap, .int .i64 0, .bool false])
    have HTX := Lib.hid ((HTB.out.below (ext_alloc w1 (.cells #[.slice (some ⟨b, 0, none⟩) s.length cap, .int .i64 0, .bool false] 55))).at (Nat.le_refl _))
    refine (HI.out _ _ _ (by exact HSX.out) (by exact HTX.out)).mono ?_
    rintro e w' ⟨rfl, k, rfl⟩
    go_wp2_with fail
    go_ret
    exact ⟨ret_bool HF.out.symm, below_dr (HB1.out.alloc hsz _) _⟩
set_option maxHeartbeats 2000000 in
theorem same_any (v : Value) (b : List UInt8) (w : World) (hv : Is8 w v b) (hm : b.length ≤ 1000000) :
    Calls Try.prog 8 #[v] w fun e w' => e = .returned (.bool true) ∧ Below w.heap.size w w' := by
  have HV := Lib.hid hv
  have HTA := Lib.hid (fun W (h : Is8 W v b) => Tokens_any v b W h hm)
  have HTB := Lib.hid (fun W (h : Is8 W v b) => rTokens_any v b W h hm)
  have hl : (toksM b).1.length ≤ b.length := by
    unfold toksM
    split
    · exact allM_bd b |>.2
    · exact Nat.zero_le _
  have HTK := Lib.hid (fun va vb W ha hb => Toks_any va vb (toksM b).1 (toksM b).1 W ha hb (by omega) (by omega))
  obtain ⟨R, hR⟩ : ∃ R, toksM b = R := ⟨_, rfl⟩
  rw [hR] at HTA HTB HTK
  clear hR hv hl
  obtain ⟨ts, p, c⟩ := R
  have HTA2 : Hid (∀ W, Is8 W v b → Calls Try.prog 11 #[v] W fun e w' => ∃ vt, e = .returned (.tuple #[vt, .int .i64 p, .int .i64 c]) ∧ OwnT w' W.heap.size vt ts ∧ Below W.heap.size W w') := Lib.hid HTA.out
  have HTB2 : Hid (∀ W, Is8 W v b → Calls Try.prog 15 #[v] W fun e w' => ∃ vt, e = .returned (.tuple #[vt, .int .i64 p, .int .i64 c]) ∧ OwnT w' W.heap.size vt ts ∧ Below W.heap.size W w') := Lib.hid HTB.out
  have HTK2 : Hid (∀ va vb W, IsT W va ts → IsT W vb ts → Calls Try.prog 16 #[va, vb] W fun e w' => e = .returned (.bool true) ∧ ∃ n, w' = W.drewN n) := Lib.hid (by have h := HTK.out; simp only [decide_true] at h; exact h)
  clear HTA HTB HTK
  go_enter Try.func8, Try.ntmps8
  go_wp2_with fail
  refine (HTA2.out _ HV.out).mono ?_
  rintro e x1 ⟨v1, rfl, ho1, hb1⟩
  have HB1 := Lib.hid hb1
  have HI1 := Lib.hid ho1.isT
  clear ho1 hb1
  go_wp2_with fail
  refine (HTB2.out _ (HV.out.below HB1.out)).mono ?_
  rintro e x2 ⟨v2, rfl, ho2, hb2⟩
  have HB2 := Lib.hid (HB1.out.trans (hb2.mono HB1.out.size))
  have HI2 := Lib.hid (HI1.out.below hb2)
  have HI3 := Lib.hid ho2.isT
  clear ho2 hb2
  go_wp2_with fail
  refine (HTK2.out _ _ _ HI2.out HI3.out).mono ?_
  rintro e w' ⟨rfl, k, rfl⟩
  go_wp2_with fail
  go_ret
  exact ⟨rfl, below_dr HB2.out _⟩
end Go.Proofs.Ytncfmmpdlcnboaa
