import Derived.Test.YtncfmmpdlcnboaaTq10
import Derived.Test.YtncfmmpdlcnboaaTq12
import Derived.Test.YtncfmmpdlcnboaaTq13
import Derived.Test.YtncfmmpdlcnboaaTq16
set_option linter.unusedVariables false
set_option linter.unusedSimpArgs false
namespace Go.Proofs.Ytncfmmpdlcnboaa
open Go.RowKit
set_option maxHeartbeats 2000000 in
theorem isNum_any (s : List UInt8) (w : World) (hm : s.length ≤ 1000000) :
    Calls Try.prog 12 #[.string ⟨s.toArray⟩] w fun e w' => e = .returned (.bool (isNumM s)) ∧ Below w.heap.size w w' := by
  have HN := Lib.hid (fun v W (h : Is8 W v s) => number_any v s 0 W h hm (by omega))
  have HF : Hid (isNumM s = ((numM s 0).2 && ((numM s 0).1 == s.length))) := Lib.hid rfl
  have hb := numM_bd s 0 (by omega)
  obtain ⟨R, hR⟩ : ∃ R, numM s 0 = R := ⟨_, rfl⟩
  rw [hR] at HN HF hb
  clear hR
  obtain ⟨q, ok⟩ := R
  have hq : q ≤ s.length := hb.2
  have HN2 : Hid (∀ v W, Is8 W v s → Calls Try.prog 19 #[v, .int .i64 0] W fun e w' => e = .returned (.tuple #[.int .i64 q, .bool ok]) ∧ W = w') := Lib.hid HN.out
  have HF2 : Hid (isNumM s = (ok && (q == s.length))) := Lib.hid HF.out
  clear HN HF hb
  cases ok with
  | false =>
    go_enter Try.func12, Try.ntmps12
    go_wp2_with (refine wpList_toBytes _ (by rfl) 9 29 _ rfl 5 Try.underlying9 Try.underlying29 Try.underlying5 s rfl (by omega) ?_)
    intro b cap w1 h8 hbl hbe
    clear hbe
    go_wp2_with fail
    refine (HN2.out _ _ h8).mono ?_
    rintro e w' ⟨rfl, rfl⟩
    go_wp2_with fail
    go_ret
    exact ⟨ret_bool HF2.out.symm, hbl⟩
  | true =>
    by_cases hql : q = s.length
    · have HF3 : Hid (isNumM s = true) := Lib.hid (by rw [HF2.out, hql]; simp)
      have e1 : ((q : Int) == (s.length : Int)) = true := by rw [hql]; simp
      clear hql
      go_enter Try.func12, Try.ntmps12
      go_wp2_with (refine wpList_toBytes _ (by rfl) 9 29 _ rfl 5 Try.underlying9 Try.underlying29 Try.underlying5 s rfl (by omega) ?_)
      intro b cap w1 h8 hbl hbe
      clear hbe
      go_wp2_with fail
      refine (HN2.out _ _ h8).mono ?_
      rintro e w' ⟨rfl, rfl⟩
      go_wp2_with fail
      go_ret
      exact ⟨ret_bool HF3.out.symm, hbl⟩
    · have HF3 : Hid (isNumM s = false) := Lib.hid (by rw [HF2.out]; simp [hql])
      have e1 : ((q : Int) == (s.length : Int)) = false := by rw [beq_eq_false_iff_ne]; omega
      clear hql
      go_enter Try.func12, Try.ntmps12
      go_wp2_with (refine wpList_toBytes _ (by rfl) 9 29 _ rfl 5 Try.underlying9 Try.underlying29 Try.underlying5 s rfl (by omega) ?_)
      intro b cap w1 h8 hbl hbe
      clear hbe
      go_wp2_with fail
      refine (HN2.out _ _ h8).mono ?_
      rintro e w' ⟨rfl, rfl⟩
      go_wp2_with fail
      go_ret
      exact ⟨ret_bool HF3.out.symm, hbl⟩
theorem toks_a : toksM [91, 49, 44, 32] = ([(3, 0, []), (8, 1, [49]), (6, 2, [])], 4, 0) := by decide +kernel
theorem toks_b : toksM [116, 114, 117, 32] = ([], 3, 4) := by decide +kernel
theorem isNum_a : isNumM [45, 49, 46, 53, 101, 51] = true := by decide +kernel
theorem isNum_b : isNumM [48, 49] = false := by decide +kernel
set_option maxRecDepth 100000 in
set_option maxHeartbeats 4000000 in
theorem awake_any (w : World) : Calls Try.prog 5 #[] w fun e w' => e = .returned (.bool true) ∧ Below w.heap.size w w' := by
  have HTA := Lib.hid (fun v W (h : Is8 W v [91, 49, 44, 32]) => Tokens_any v _ W h (by decide))
  rw [toks_a] at HTA
  have HTB := Lib.hid (fun v W (h : Is8 W v [116, 114, 117, 32]) => Tokens_any v _ W h (by decide))
  rw [toks_b] at HTB
  have HNA := Lib.hid (fun W => isNum_any [45, 49, 46, 53, 101, 51] W (by decide))
  rw [isNum_a] at HNA
  have HNB := Lib.hid (fun W => isNum_any [48, 49] W (by decide))
  rw [isNum_b] at HNB
  have HL1 := Lib.hid (lit8 (w.alloc (.cells #[.int .u8 91, .int .u8 49, .int .u8 44, .int .u8 32] 5 (4, 5))) w.heap.size [91, 49, 44, 32] 4 5 (4, 5) (by rw [heap_alloc_at, if_pos rfl]; rfl) rfl (by decide))
  go_enter Try.func5, Try.ntmps5
  go_wp2_with (refine wpList_constBytes _ (by rfl) 29 _ rfl 5 Try.underlying29 Try.underlying5 _ _ _ _ rfl rfl ?_)
  go_wp2_with fail
  refine (HTA.out _ _ HL1.out).mono ?_
  rintro e x1 ⟨v1, rfl, ho1, hb1⟩
  have HB1 := Lib.hid (((Below.refl w.heap.size w).alloc (Nat.le_refl _) _).trans (hb1.mono (by simp)))
  have HI1 := Lib.hid ho1.isT
  have HL2 := Lib.hid (lit8 (x1.alloc (.cells #[.int .u8 116, .int .u8 114, .int .u8 117, .int .u8 32] 5 (4, 5))) x1.heap.size [116, 114, 117, 32] 4 5 (4, 5) (by rw [heap_alloc_at, if_pos rfl]; rfl) rfl (by decide))
  clear ho1 hb1
  go_wp2_with (refine wpList_constBytes _ (by rfl) 29 _ rfl 5 Try.underlying29 Try.underlying5 _ _ _ _ rfl rfl ?_)
  go_wp2_with fail
  refine (HTB.out _ _ HL2.out).mono ?_
  rintro e x2 ⟨v2, rfl, ho2, hb2⟩
  have HB12 := Lib.hid (((Below.refl x1.heap.size x1).alloc (Nat.le_refl _) _).trans (hb2.mono (by simp)))
  have HB2 := Lib.hid (HB1.out.trans (HB12.out.mono HB1.out.size))
  have HI2 := Lib.hid (HI1.out.below HB12.out)
  obtain ⟨va, vc, e2⟩ := ho2.slice
  subst e2
  obtain ⟨a1, c1, rfl, k1, k2, k3⟩ := HI2.out
  obtain ⟨g, rfl, k4⟩ := k3 (by decide)
  obtain ⟨t0, t1, t2⟩ := k4 1 (by decide)
  have t0' : x2.cell? ⟨g, 3, none⟩ = some (.int .i64 8) := t0
  have t2' : x2.cell? ⟨g, 5, none⟩ = some (.string ⟨#[49]⟩) := t2
  clear ho2 hb2 k3 k4 t0 t1 t2
  go_wp2_with fail
  refine (HNA.out _).mono ?_
  rintro e x3 ⟨rfl, hb3⟩
  have HB3 := Lib.hid (HB2.out.trans (hb3.mono HB2.out.size))
  clear hb3
  go_wp2_with fail
  refine (HNB.out _).mono ?_
  rintro e x4 ⟨rfl, hb4⟩
  have HB4 := Lib.hid (HB3.out.trans (hb4.mono HB3.out.size))
  clear hb4
  go_wp2_with fail
  go_ret
  exact ⟨rfl, HB4.out⟩
end Go.Proofs.Ytncfmmpdlcnboaa
