/- The walks of layer 1's laws. -/
import Derived.Test.YtknfgpphfedbmaaUtfD
import Derived.Test.YtknfgpphfedbmaaUtfM
set_option linter.unusedVariables false
set_option linter.unusedSimpArgs false
namespace Go.Proofs.Ytknfgpphfedbmaa
open Go.RowKit


set_option maxHeartbeats 1000000 in
theorem UtfTells_walk (a0 : Option Addr) (len0 cap0 : Nat) (z0 : List Int) (w : World) (w0 : IsRow .u8 w a0 len0 cap0 z0) :
    Calls Try.prog 3 #[.slice a0 len0 cap0] w fun e w' => e = .returned (.bool true) ∧ Below w.heap.size w w' := by
  obtain ⟨l, rfl, h8⟩ := isRow8 w0
  have H8 := Lib.hid h8
  clear w0 h8
  by_cases hlen : 400 < l.length
  · go_enter Try.func3, Try.ntmps3
    go_wp2_with fail
    refine (awake_any _).mono ?_
    rintro e w1 ⟨rfl, hb⟩
    go_wp2
    go_ret
    exact ⟨rfl, hb⟩
  · have hm : l.length ≤ 1000000 := by omega
    go_enter Try.func3, Try.ntmps3
    go_wp2_with fail
    refine (next_any _ l _ H8.out hm).mono ?_
    rintro e w1 ⟨rfl, k1, rfl⟩
    go_wp2_with fail
    refine (rnext_any _ l _ (H8.out.drew _) hm).mono ?_
    rintro e w1 ⟨rfl, k2, rfl⟩
    go_wp2_with fail
    refine (valid_any _ l _ (H8.out.drew _) hm).mono ?_
    rintro e w1 ⟨rfl, k3, rfl⟩
    go_wp2_with fail
    refine (rvalid_any _ l _ (H8.out.drew _) hm).mono ?_
    rintro e w1 ⟨rfl, k4, rfl⟩
    go_wp2_with fail
    refine (decode_any _ l _ (H8.out.drew _) hm).mono ?_
    rintro e w1 ⟨v1, rfl, hown1, hb1⟩
    have HO1 := Lib.hid hown1
    have HB1 := Lib.hid hb1
    clear hown1 hb1
    go_wp2_with fail
    refine (rdecode_any _ l _ ((H8.out.drew _).below HB1.out) hm).mono ?_
    rintro e w2 ⟨v2, rfl, hown2, hb2⟩
    have HO2 := Lib.hid hown2
    have HB2 := Lib.hid hb2
    clear hown2 hb2
    have hd := decL_len _ l (Nat.le_refl _)
    go_wp2_with fail
    refine (runes_eq _ _ (decL l) _ (HO1.out.is32.below HB2.out) HO2.out.is32 (by omega)).mono ?_
    rintro e w3 ⟨rfl, k5, rfl⟩
    go_wp2_with fail
    refine (awake_any _).mono ?_
    rintro e w4 ⟨rfl, hb⟩
    go_wp2
    go_ret
    refine ⟨rfl, ?_⟩
    repeat (first | refine ext_trans ?_ hb | refine ext_trans ?_ HB2.out | refine ext_trans ?_ HB1.out | refine ext_trans ?_ (ext_drew _ _) | exact Below.refl _ _)

theorem decL_r : ∀ (n : Nat) (l : List UInt8), l.length ≤ n → ∀ r ∈ decL l, 0 ≤ r ∧ r ≤ 1114111 := by
  intro n
  induction n with
  | zero => intro l h r hr; rw [decL_nil (by omega)] at hr; simp at hr
  | succ n ih =>
    intro l h r hr
    by_cases h0 : l.length = 0
    · rw [decL_nil h0] at hr; simp at hr
    · have hn := nextL_n l (by omega)
      rw [decL_cons (by omega)] at hr
      rcases List.mem_cons.1 hr with rfl | hr
      · exact nextL_r l
      · exact ih _ (by simp; omega) r hr
theorem decL_bd (l : List UInt8) (i : Nat) (hi : i < (decL l).length) : -2147483648 ≤ (decL l).getD i 0 ∧ (decL l).getD i 0 ≤ 2147483647 := by
  have := decL_r _ l (Nat.le_refl _) ((decL l)[i]) (List.getElem_mem _)
  rw [List.getD_eq_getElem?_getD, List.getElem?_eq_getElem hi]
  show _ ≤ (decL l)[i] ∧ (decL l)[i] ≤ _
  omega

set_option maxHeartbeats 1000000 in
theorem UtfWhole_walk (a0 : Option Addr) (len0 cap0 : Nat) (z0 : List Int) (w : World) (w0 : IsRow .u8 w a0 len0 cap0 z0) :
    Calls Try.prog 5 #[.slice a0 len0 cap0] w fun e w' => e = .returned (.bool true) ∧ Below w.heap.size w w' := by
  obtain ⟨l, rfl, h8⟩ := isRow8 w0
  have H8 := Lib.hid h8
  clear w0 h8
  by_cases hlen : 300 < l.length
  · go_enter Try.func5, Try.ntmps5
    go_wp2_with fail
    refine (awake_any _).mono ?_
    rintro e w1 ⟨rfl, hb⟩
    go_wp2
    go_ret
    exact ⟨rfl, hb⟩
  · have hm : l.length ≤ 1000000 := by omega
    have hd := decL_len _ l (Nat.le_refl _)
    go_enter Try.func5, Try.ntmps5
    go_wp2_with fail
    refine (decode_any _ l _ H8.out hm).mono ?_
    rintro e w1 ⟨v1, rfl, hown1, hb1⟩
    have HO1 := Lib.hid hown1
    have HB1 := Lib.hid hb1
    clear hown1 hb1
    go_wp2_with fail
    refine (encode_any _ (decL l) _ HO1.out.is32 (by omega) (decL_bd l)).mono ?_
    rintro e w2 ⟨v2, rfl, hown2, hb2⟩
    have HO2 := Lib.hid hown2
    have HB2 := Lib.hid hb2
    clear hown2 hb2
    have hD := encL_len (decL l)
    have HS1 := Lib.hid HO2.out.is8
    have HS2 : Hid (Is8 w2 (.slice a0 l.length cap0) l) := Lib.hid ((H8.out.below HB1.out).below HB2.out)
    have hw1 := whole_iff l
    have hw2 := (decL_encL (decL l)).2
    generalize hE : encL (decL l) = E at *
    have HV1 : Hid (∀ w', ExtC w2 w' → Is8 w' v2 E) := Lib.hid (fun w' h => HS1.out.below h)
    have HV2 : Hid (∀ w', ExtC w2 w' → Is8 w' (.slice a0 l.length cap0) l) := Lib.hid (fun w' h => HS2.out.below h)
    by_cases hv : validL l = true
    · have hEl : E = l := by rw [hv] at hw1; exact of_decide_eq_true hw1
      clear hE hw1
      subst hEl
      clear hw2
      go_wp2_with fail
      refine wp_region_ext (by kernel_rfl) (by kernel_rfl) ?_
      repeat (first
        | (refine wpQuiet_toStr (by rfl) _ _ _ rfl 5 Try.underlying22 Try.underlying5 Try.underlying9 v2 rfl E (fun w' hw' => HS1.out.below hw') ?_)
        | (refine wpQuiet_toStr (by rfl) _ _ _ rfl 5 Try.underlying22 Try.underlying5 Try.underlying9 (.slice a0 E.length cap0) rfl E (fun w' hw' => HS2.out.below hw') ?_)
        | (refine wpQuiet_step (fun K hK => ?_); go_simp; refine hK _ ?_; clear hK K)
        | (refine wpQuiet_step (fun K hK => ?_); go_simp; apply Exists.intro; refine ⟨fun w' hw' => ?_, hK _ ?_⟩; (first | (go_at_call 12; (with_reducible refine (valid_any (.slice a0 E.length cap0) E w' (HV2.out w' hw') hm).mono ?_); rintro e w'' ⟨rfl, n, rfl⟩; exact ⟨rfl, ext_trans hw' (ext_drew _ _)⟩) | (go_at_call 12; (with_reducible refine (valid_any v2 E w' (HV1.out w' hw') (by omega)).mono ?_); rintro e w'' ⟨rfl, n, rfl⟩; exact ⟨rfl, ext_trans hw' (ext_drew _ _)⟩) | (go_at_call 9; (with_reducible refine (awake_any w').mono ?_); rintro e w'' ⟨rfl, hb⟩; exact ⟨rfl, ext_trans hw' hb⟩)); clear hK K))
      refine wpQuiet_nil ?_
      intro w3 hw3
      go_wp2
      go_ret
      exact ⟨rfl, ext_trans (ext_trans HB1.out HB2.out) hw3⟩
    · have hv' : validL l = false := by simpa using hv
      have hEl : ¬ E = l := by rw [hv'] at hw1; exact of_decide_eq_false hw1
      have hEl2 : (E == l) = false := by rw [beq_eq_false_iff_ne]; exact hEl
      clear hE hw1 hv
      go_wp2_with fail
      refine wp_region_ext (by kernel_rfl) (by kernel_rfl) ?_
      repeat (first
        | (refine wpQuiet_toStr (by rfl) _ _ _ rfl 5 Try.underlying22 Try.underlying5 Try.underlying9 v2 rfl E (fun w' hw' => HS1.out.below hw') ?_)
        | (refine wpQuiet_toStr (by rfl) _ _ _ rfl 5 Try.underlying22 Try.underlying5 Try.underlying9 (.slice a0 l.length cap0) rfl l (fun w' hw' => HS2.out.below hw') ?_)
        | (refine wpQuiet_step (fun K hK => ?_); go_simp; refine hK _ ?_; clear hK K)
        | (refine wpQuiet_step (fun K hK => ?_); go_simp; apply Exists.intro; refine ⟨fun w' hw' => ?_, hK _ ?_⟩; (first | (go_at_call 12; (with_reducible refine (valid_any (.slice a0 l.length cap0) l w' (HV2.out w' hw') hm).mono ?_); rintro e w'' ⟨rfl, n, rfl⟩; exact ⟨rfl, ext_trans hw' (ext_drew _ _)⟩) | (go_at_call 12; (with_reducible refine (valid_any v2 E w' (HV1.out w' hw') (by omega)).mono ?_); rintro e w'' ⟨rfl, n, rfl⟩; exact ⟨rfl, ext_trans hw' (ext_drew _ _)⟩) | (go_at_call 9; (with_reducible refine (awake_any w').mono ?_); rintro e w'' ⟨rfl, hb⟩; exact ⟨rfl, ext_trans hw' hb⟩)); clear hK K))
      refine wpQuiet_nil ?_
      intro w3 hw3
      go_wp2
      go_ret
      exact ⟨rfl, ext_trans (ext_trans HB1.out HB2.out) hw3⟩
end Go.Proofs.Ytknfgpphfedbmaa
