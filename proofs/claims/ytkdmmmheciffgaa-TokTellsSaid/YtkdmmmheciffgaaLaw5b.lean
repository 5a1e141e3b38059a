/- IsNumber, of both; awake and same of layer 5. -/
import Derived.Test.YtkdmmmheciffgaaScnJ
import Derived.Test.YtkdmmmheciffgaaLaw5a
import Derived.Test.YtkdmmmheciffgaaTokY
import Derived.Test.YtkdmmmheciffgaaBytes
import Derived.Test.YtkdmmmheciffgaaLit
set_option linter.unusedVariables false
set_option linter.unusedSimpArgs false
namespace Go.Proofs.Ytkdmmmheciffgaa
open Go.RowKit

set_option maxHeartbeats 2000000 in
theorem isNum_any (s : List UInt8) (w : World) (hm : s.length ≤ 1000000) :
    Calls Try.prog 15 #[.string ⟨s.toArray⟩] w fun e w' => e = .returned (.bool (isNumM s)) ∧ Below w.heap.size w w' := by
  have HN := Lib.hid (fun v W (h : Is8 W v s) => number_any v s 0 W h hm (by omega))
  have HF : Hid (isNumM s = ((numM s 0).2 && ((numM s 0).1 == s.length))) := Lib.hid rfl
  have hb := numM_bd s 0 (by omega)
  obtain ⟨R, hR⟩ : ∃ R, numM s 0 = R := ⟨_, rfl⟩
  rw [hR] at HN HF hb
  clear hR
  obtain ⟨q, ok⟩ := R
  have hq : q ≤ s.length := hb.2
  have HN2 : Hid (∀ v W, Is8 W v s → Calls Try.prog 25 #[v, .int .i64 0] W fun e w' => e = .returned (.tuple #[.int .i64 q, .bool ok]) ∧ W = w') := Lib.hid HN.out
  have HF2 : Hid (isNumM s = (ok && (q == s.length))) := Lib.hid HF.out
  clear HN HF hb
  cases ok with
  | false =>
    go_enter Try.func15, Try.ntmps15
    go_wp2_with (refine wpList_toBytes _ (by rfl) 9 22 _ rfl 5 Try.underlying9 Try.underlying22 Try.underlying5 s rfl (by omega) ?_)
    intro b cap w1 h8 hbl hbe
    clear hbe
    go_wp2_with fail
    refine (HN2.out _ _ h8).mono ?_
    rintro e w' ⟨rfl, rfl⟩
    go_wp2_with fail
    go_ret
    exact ⟨ret_bool HF2.out.symm, hbl⟩
  | true =>
    by_cases hql : q = s.length
    · have HF3 : Hid (isNumM s = true) := Lib.hid (by rw [HF2.out, hql]; simp)
      have e1 : ((q : Int) == (s.length : Int)) = true := by rw [hql]; simp
      clear hql
      go_enter Try.func15, Try.ntmps15
      go_wp2_with (refine wpList_toBytes _ (by rfl) 9 22 _ rfl 5 Try.underlying9 Try.underlying22 Try.underlying5 s rfl (by omega) ?_)
      intro b cap w1 h8 hbl hbe
      clear hbe
      go_wp2_with fail
      refine (HN2.out _ _ h8).mono ?_
      rintro e w' ⟨rfl, rfl⟩
      go_wp2_with fail
      go_ret
      exact ⟨ret_bool HF3.out.symm, hbl⟩
    · have HF3 : Hid (isNumM s = false) := Lib.hid (by rw [HF2.out]; simp [hql])
      have e1 : ((q : Int) == (s.length : Int)) = false := by rw [beq_eq_false_iff_ne]; omega
      clear hql
      go_enter Try.func15, Try.ntmps15
      go_wp2_with (refine wpList_toBytes _ (by rfl) 9 22 _ rfl 5 Try.underlying9 Try.underlying22 Try.underlying5 s rfl (by omega) ?_)
      intro b cap w1 h8 hbl hbe
      clear hbe
      go_wp2_with fail
      refine (HN2.out _ _ h8).mono ?_
      rintro e w' ⟨rfl, rfl⟩
      go_wp2_with fail
      go_ret
      exact ⟨ret_bool HF3.out.symm, hbl⟩
set_option maxHeartbeats 4000000 in
theorem risNum_any (s : List UInt8) (w : World) (hm : s.length ≤ 1000000) :
    Calls Try.prog 16 #[.string ⟨s.toArray⟩] w fun e w' => e = .returned (.bool (isNumM s)) ∧ Below w.heap.size w w' := by
  have HI := Lib.hid (fun g vb W h1 h2 => is_any g vb s 0 false [45, 48, 49, 50, 51, 52, 53, 54, 55, 56, 57] W h1 h2 (by decide) (by omega))
  rw [isB_num] at HI
  by_cases hd : byt s 0 = 45 ∨ digC (byt s 0) = true
  · rw [decide_eq_true hd] at HI
    have HN := Lib.hid (fun g vb W h1 h2 => rnum_any g vb s 0 W h1 h2 (by omega))
    rw [numR_eq] at HN
    have HF : Hid (isNumM s = ((numM s 0).2 && ((numM s 0).1 == s.length))) := Lib.hid rfl
    obtain ⟨R, hR⟩ : ∃ R, numM s 0 = R := ⟨_, rfl⟩
    rw [hR] at HN HF
    clear hR hd
    obtain ⟨q, ok⟩ := R
    have HN2 : Hid (∀ g vb W, Scn W g vb 0 false → Text W g vb s → Calls Try.prog 27 #[.pointer (some ⟨g, 0, none⟩)] W fun e w' => e = .returned (.tuple #[]) ∧ Scn w' g vb q (notB ok) ∧ W.grownBy w' (some g)) := Lib.hid HN.out
    have HF2 : Hid (isNumM s = (ok && (q == s.length))) := Lib.hid HF.out
    clear HN HF
    go_enter Try.func16, Try.ntmps16
    go_wp2_with (refine wpList_toBytes _ (by rfl) 9 22 _ rfl 5 Try.underlying9 Try.underlying22 Try.underlying5 s rfl (by omega) ?_)
    intro b cap w1 h8 hbl hbe
    have H8 := Lib.hid h8
    have HB1 := Lib.hid hbl
    have HTB := Lib.hid (textB_of h8 hm)
    have hsz := hbl.size
    clear h8 hbl hbe
    go_wp2_with fail
    have HSX := Lib.hid (Box.new w1 58 [.slice (some ⟨b, 0, none⟩) s.length cap, .int .i64 0, .bool false])
    have HTX := Lib.hid ((HTB.out.below (ext_alloc w1 (.cells #[.slice (some ⟨b, 0, none⟩) s.length cap, .int .i64 0, .bool false] 58))).at (Nat.le_refl _))
    refine (HI.out _ _ _ (by exact HSX.out) (by exact HTX.out)).mono ?_
    rintro e w' ⟨rfl, k, rfl⟩
    go_wp2_with fail
    refine (HN2.out _ _ _ (by exact Box.drew HSX.out _) (HTX.out.grown (grownBy_drew _ _ _))).mono ?_
    rintro e x2 ⟨rfl, hs2, hg2⟩
    have HB2 := Lib.hid ((below_drewN (HB1.out.alloc hsz _) k).grown hg2 (by simp; omega) (fun j hj => by injection hj with hj; omega))
    have e1 : x2.cell? ⟨w1.heap.size, 1, none⟩ = some (.int .i64 q) := Scn.c1 hs2
    have e2 : x2.cell? ⟨w1.heap.size, 2, none⟩ = some (.bool (notB ok)) := Scn.c2 hs2
    clear hs2 hg2
    cases ok with
    | false =>
      have e3 : x2.cell? ⟨w1.heap.size, 2, none⟩ = some (.bool true) := e2
      clear e2
      go_wp2_with fail
      go_ret
      exact ⟨ret_bool HF2.out.symm, HB2.out⟩
    | true =>
      have e3 : x2.cell? ⟨w1.heap.size, 2, none⟩ = some (.bool false) := e2
      clear e2
      by_cases hql : q = s.length
      · have HF3 : Hid (isNumM s = true) := Lib.hid (by rw [HF2.out, hql]; simp)
        have e4 : ((q : Int) == (s.length : Int)) = true := by rw [hql]; simp
        clear hql
        go_wp2_with fail
        go_ret
        exact ⟨ret_bool HF3.out.symm, HB2.out⟩
      · have HF3 : Hid (isNumM s = false) := Lib.hid (by rw [HF2.out]; simp [hql])
        have e4 : ((q : Int) == (s.length : Int)) = false := by rw [beq_eq_false_iff_ne]; omega
        clear hql
        go_wp2_with fail
        go_ret
        exact ⟨ret_bool HF3.out.symm, HB2.out⟩
  · rw [decide_eq_false hd] at HI
    have HF : Hid (isNumM s = false) := Lib.hid (by unfold isNumM; rw [numM_no hd]; rfl)
    clear hd
    go_enter Try.func16, Try.ntmps16
    go_wp2_with (refine wpList_toBytes _ (by rfl) 9 22 _ rfl 5 Try.underlying9 Try.underlying22 Try.underlying5 s rfl (by omega) ?_)
    intro b cap w1 h8 hbl hbe
    have HB1 := Lib.hid hbl
    have HTB := Lib.hid (textB_of h8 hm)
    have hsz := hbl.size
    clear h8 hbl hbe
    go_wp2_with fail
    have HSX := Lib.hid (Box.new w1 58 [.slice (some ⟨b, 0, none⟩) s.length cap, .int .i64 0, .bool false])
    have HTX := Lib.hid ((HTB.out.below (ext_alloc w1 (.cells #[.slice (some ⟨b, 0, none⟩) s.length cap, .int .i64 0, .bool false] 58))).at (Nat.le_refl _))
    refine (HI.out _ _ _ (by exact HSX.out) (by exact HTX.out)).mono ?_
    rintro e w' ⟨rfl, k, rfl⟩
    go_wp2_with fail
    go_ret
    exact ⟨ret_bool HF.out.symm, below_drewN (HB1.out.alloc hsz _) _⟩
theorem toks_a : toksM [91, 49, 44, 32] = ([(3, 0, []), (8, 1, [49]), (6, 2, [])], 4, 0) := by decide +kernel
theorem toks_b : toksM [116, 114, 117, 32] = ([], 3, 4) := by decide +kernel
theorem isNum_a : isNumM [45, 49, 46, 53, 101, 51] = true := by decide +kernel
theorem isNum_b : isNumM [48, 49] = false := by decide +kernel
end Go.Proofs.Ytkdmmmheciffgaa
