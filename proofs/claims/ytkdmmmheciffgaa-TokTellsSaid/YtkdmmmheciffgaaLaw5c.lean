/- awake and same of layer 5; TokTells, TokNumbers. -/
import Derived.Test.YtkdmmmheciffgaaLaw5b
set_option linter.unusedVariables false
set_option linter.unusedSimpArgs false
namespace Go.Proofs.Ytkdmmmheciffgaa
open Go.RowKit

set_option maxRecDepth 100000 in
set_option maxHeartbeats 4000000 in
theorem awake_any (w : World) : Calls Try.prog 10 #[] w fun e w' => e = .returned (.bool true) ∧ Below w.heap.size w w' := by
  have HTA := Lib.hid (fun v W (h : Is8 W v [91, 49, 44, 32]) => Tokens_any v _ W h (by decide))
  rw [toks_a] at HTA
  have HTB := Lib.hid (fun v W (h : Is8 W v [116, 114, 117, 32]) => Tokens_any v _ W h (by decide))
  rw [toks_b] at HTB
  have HNA := Lib.hid (fun W => isNum_any [45, 49, 46, 53, 101, 51] W (by decide))
  rw [isNum_a] at HNA
  have HNB := Lib.hid (fun W => isNum_any [48, 49] W (by decide))
  rw [isNum_b] at HNB
  have HL1 := Lib.hid (lit8 (w.alloc (.cells #[.int .u8 91, .int .u8 49, .int .u8 44, .int .u8 32] 5 (4, 5))) w.heap.size [91, 49, 44, 32] 4 5 (4, 5) (by rw [heap_alloc_at, if_pos rfl]; rfl) rfl (by decide))
  go_enter Try.func10, Try.ntmps10
  go_wp2_with (refine wpList_constBytes _ (by rfl) 22 _ rfl 5 Try.underlying22 Try.underlying5 _ _ _ _ rfl rfl ?_)
  go_wp2_with fail
  refine (HTA.out _ _ HL1.out).mono ?_
  rintro e x1 ⟨v1, rfl, ho1, hb1⟩
  have HB1 := Lib.hid (((Below.refl w.heap.size w).alloc (Nat.le_refl _) _).trans (hb1.mono (by simp)))
  have HI1 := Lib.hid ho1.isT
  have HL2 := Lib.hid (lit8 (x1.alloc (.cells #[.int .u8 116, .int .u8 114, .int .u8 117, .int .u8 32] 5 (4, 5))) x1.heap.size [116, 114, 117, 32] 4 5 (4, 5) (by rw [heap_alloc_at, if_pos rfl]; rfl) rfl (by decide))
  clear ho1 hb1
  go_wp2_with (refine wpList_constBytes _ (by rfl) 22 _ rfl 5 Try.underlying22 Try.underlying5 _ _ _ _ rfl rfl ?_)
  go_wp2_with fail
  refine (HTB.out _ _ HL2.out).mono ?_
  rintro e x2 ⟨v2, rfl, ho2, hb2⟩
  have HB12 := Lib.hid (((Below.refl x1.heap.size x1).alloc (Nat.le_refl _) _).trans (hb2.mono (by simp)))
  have HB2 := Lib.hid (HB1.out.trans (HB12.out.mono HB1.out.size))
  have HI2 := Lib.hid (HI1.out.below HB12.out)
  obtain ⟨va, vc, e2⟩ := ho2.slice
  subst e2
  obtain ⟨a1, c1, rfl, k1, k2, k3⟩ := HI2.out
  obtain ⟨g, rfl, k4⟩ := k3 (by decide)
  obtain ⟨t0, t1, t2⟩ := k4 1 (by decide)
  have t0' : x2.cell? ⟨g, 3, none⟩ = some (.int .i64 8) := t0
  have t2' : x2.cell? ⟨g, 5, none⟩ = some (.string ⟨#[49]⟩) := t2
  clear ho2 hb2 k3 k4 t0 t1 t2
  go_wp2_with fail
  refine (HNA.out _).mono ?_
  rintro e x3 ⟨rfl, hb3⟩
  have HB3 := Lib.hid (HB2.out.trans (hb3.mono HB2.out.size))
  clear hb3
  go_wp2_with fail
  refine (HNB.out _).mono ?_
  rintro e x4 ⟨rfl, hb4⟩
  have HB4 := Lib.hid (HB3.out.trans (hb4.mono HB3.out.size))
  clear hb4
  go_wp2_with fail
  go_ret
  exact ⟨rfl, HB4.out⟩
set_option maxHeartbeats 2000000 in
theorem same_any (v : Value) (b : List UInt8) (w : World) (hv : Is8 w v b) (hm : b.length ≤ 1000000) :
    Calls Try.prog 9 #[v] w fun e w' => e = .returned (.bool true) ∧ Below w.heap.size w w' := by
  have HV := Lib.hid hv
  have HTA := Lib.hid (fun W (h : Is8 W v b) => Tokens_any v b W h hm)
  have HTB := Lib.hid (fun W (h : Is8 W v b) => rTokens_any v b W h hm)
  have hl : (toksM b).1.length ≤ b.length := by
    unfold toksM
    split
    · exact allM_bd b |>.2
    · exact Nat.zero_le _
  have HTK := Lib.hid (fun va vb W ha hb => Toks_any va vb (toksM b).1 (toksM b).1 W ha hb (by omega) (by omega))
  obtain ⟨R, hR⟩ : ∃ R, toksM b = R := ⟨_, rfl⟩
  rw [hR] at HTA HTB HTK
  clear hR hv hl
  obtain ⟨ts, p, c⟩ := R
  have HTA2 : Hid (∀ W, Is8 W v b → Calls Try.prog 17 #[v] W fun e w' => ∃ vt, e = .returned (.tuple #[vt, .int .i64 p, .int .i64 c]) ∧ OwnT w' W.heap.size vt ts ∧ Below W.heap.size W w') := Lib.hid HTA.out
  have HTB2 : Hid (∀ W, Is8 W v b → Calls Try.prog 21 #[v] W fun e w' => ∃ vt, e = .returned (.tuple #[vt, .int .i64 p, .int .i64 c]) ∧ OwnT w' W.heap.size vt ts ∧ Below W.heap.size W w') := Lib.hid HTB.out
  have HTK2 : Hid (∀ va vb W, IsT W va ts → IsT W vb ts → Calls Try.prog 20 #[va, vb] W fun e w' => e = .returned (.bool true) ∧ ∃ n, w' = W.drewN n) := Lib.hid (by have h := HTK.out; simp only [decide_true] at h; exact h)
  clear HTA HTB HTK
  go_enter Try.func9, Try.ntmps9
  go_wp2_with fail
  refine (HTA2.out _ HV.out).mono ?_
  rintro e x1 ⟨v1, rfl, ho1, hb1⟩
  have HB1 := Lib.hid hb1
  have HI1 := Lib.hid ho1.isT
  clear ho1 hb1
  go_wp2_with fail
  refine (HTB2.out _ (HV.out.below HB1.out)).mono ?_
  rintro e x2 ⟨v2, rfl, ho2, hb2⟩
  have HB2 := Lib.hid (HB1.out.trans (hb2.mono HB1.out.size))
  have HI2 := Lib.hid (HI1.out.below hb2)
  have HI3 := Lib.hid ho2.isT
  clear ho2 hb2
  go_wp2_with fail
  refine (HTK2.out _ _ _ HI2.out HI3.out).mono ?_
  rintro e w' ⟨rfl, k, rfl⟩
  go_wp2_with fail
  go_ret
  exact ⟨rfl, below_drewN HB2.out _⟩
set_option maxHeartbeats 2000000 in
theorem TokTells_walk (a : Option Addr) (len cap : Nat) (z : List Int) (w : World) (hr : IsRow .u8 w a len cap z) :
    Calls Try.prog 3 #[.slice a len cap] w fun e w' => e = .returned (.bool true) ∧ Below w.heap.size w w' := by
  obtain ⟨b, rfl, hb⟩ := isRow8 hr
  have HV := Lib.hid hb
  clear hb hr
  by_cases hm : b.length ≤ 400
  · have hmd : decide ((400 : Int) < (b.length : Int)) = false := by simp; omega
    have HS := Lib.hid (same_any _ b w HV.out (by omega))
    go_enter Try.func3, Try.ntmps3
    go_wp2_with fail
    refine HS.out.mono ?_
    rintro e x1 ⟨rfl, hb1⟩
    have HB1 := Lib.hid hb1
    clear hb1
    go_wp2_with fail
    refine (awake_any _).mono ?_
    rintro e x2 ⟨rfl, hb2⟩
    have HB2 := Lib.hid (HB1.out.trans (hb2.mono HB1.out.size))
    clear hb2
    go_wp2_with fail
    go_ret
    exact ⟨rfl, HB2.out⟩
  · have hmI : (400 : Int) < (b.length : Int) := by omega
    go_enter Try.func3, Try.ntmps3
    go_wp2_with fail
    refine (awake_any _).mono ?_
    rintro e x2 ⟨rfl, hb2⟩
    go_wp2_with fail
    go_ret
    exact ⟨rfl, hb2⟩
end Go.Proofs.Ytkdmmmheciffgaa
