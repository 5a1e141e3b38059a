/- The plain mathematics that ref4.Encode is pct.Encode. No program. -/
import Derived.Test.YtpaklakjmmbboaaPctD
set_option linter.unusedVariables false
set_option linter.unusedSimpArgs false
namespace Go.Proofs.Ytpaklakjmmbboaa
open Go.RowKit

theorem nextL_ok (l : List UInt8) : okR (nextL l).1 := by
  by_cases h0 : l.length = 0
  · unfold nextL okR; rw [if_pos h0]; show _ ∧ _; exact ⟨by show (0:Int) ≤ 0; omega, by show (0:Int) ≤ 1114111; omega, by show ¬ (_ ∧ _); intro h; exact absurd h.1 (by decide)⟩
  · have hn := nextL_n l (by omega)
    cases hv : (nextL l).2.2 with
    | true => exact (next_valid (l := l) (r := (nextL l).1) (n := (nextL l).2.1) (by rw [← hv])).1
    | false => rw [(hn.2.2.2 hv).1]; unfold okR; decide
theorem decL_ok : ∀ (n : Nat) (l : List UInt8), l.length ≤ n → ∀ r ∈ decL l, okR r := by
  intro n
  induction n with
  | zero => intro l h r hr; rw [decL_nil (by omega)] at hr; simp at hr
  | succ n ih =>
    intro l h r hr
    by_cases h0 : l.length = 0
    · rw [decL_nil h0] at hr; simp at hr
    · have hn := nextL_n l (by omega)
      rw [decL_cons (by omega)] at hr
      rcases List.mem_cons.1 hr with rfl | hr
      · exact nextL_ok l
      · exact ih _ (by simp; omega) r hr
theorem okR_r {r : Int} (h : okR r) : 0 ≤ r ∧ r ≤ 1114111 := by unfold okR at h; omega
theorem encR_high {r : Int} (h : okR r) (h1 : 128 ≤ r) : ∀ b ∈ encR r, 128 ≤ (b.toNat : Int) ∧ (b.toNat : Int) ≤ 255 := by
  have h2 := okR_r h
  intro b hb
  have hb2 := b.toNat_lt
  refine ⟨?_, by omega⟩
  unfold encR at hb
  rw [if_neg (by omega)] at hb
  split at hb
  · simp only [List.mem_cons, List.not_mem_nil, or_false] at hb
    rcases hb with rfl | rfl <;> rw [mkB_val (by omega) (by omega)] <;> omega
  · split at hb
    · simp only [List.mem_cons, List.not_mem_nil, or_false] at hb
      rcases hb with rfl | rfl | rfl <;> rw [mkB_val (by omega) (by omega)] <;> omega
    · simp only [List.mem_cons, List.not_mem_nil, or_false] at hb
      rcases hb with rfl | rfl | rfl | rfl <;> rw [mkB_val (by omega) (by omega)] <;> omega
theorem penc_hexs (has bs : List UInt8) (h : ∀ b ∈ bs, inB has b.toNat = true) : penc has bs = hexsL bs := by
  induction bs with
  | nil => rfl
  | cons b t ih =>
    show pe has b ++ penc has t = hexS b.toNat ++ hexsL t
    rw [ih fun b hb => h b (List.mem_cons_of_mem _ hb)]
    unfold pe; rw [h b List.mem_cons_self]; rfl
theorem rpe_pe (k r : Int) (hr : okR r) (hk : moreOk k = true) : rpe k r = penc (moreS k) (encR r) := by
  have hb := okR_r hr
  have hk2 : 0 ≤ k ∧ k ≤ 6 := of_decide_eq_true hk
  unfold rpe
  rw [fixR_of hr]
  by_cases h1 : r < 128
  · have he : encR r = [mkB r] := by unfold encR; rw [if_pos h1]
    have hv : ((mkB r).toNat : Int) = r := mkB_val hb.1 (by omega)
    have hp : pinB k r = inB (moreS k) r := by unfold pinB; rw [hk]; rfl
    rw [he, hp]
    show _ = pe (moreS k) (mkB r) ++ []
    unfold pe
    rw [hv]
    cases hi : inB (moreS k) r
    · rfl
    · show hexS _ ++ [] = _ ++ []
      rw [hv]; rfl
  · rw [pinB_high k r hk2 hb.1 hb.2 (by omega), if_pos rfl]
    rw [penc_hexs _ _ fun b hbm => ?_]
    · rfl
    · have := encR_high hr (by omega) b hbm
      exact inB_high (by omega) (by omega) (by omega)
theorem renc_eq (k : Int) (l : List UInt8) : rencF k (decL l) = pencL k l := by
  have hok := decL_ok _ l (Nat.le_refl _)
  unfold pencL rencF plainL
  generalize decL l = rs at *
  cases hk : moreOk k with
  | true =>
    rw [if_pos rfl]
    induction rs with
    | nil => rfl
    | cons r t ih =>
      rw [List.flatMap_cons, ih fun r hr => hok r (List.mem_cons_of_mem _ hr), rpe_pe k r (hok r List.mem_cons_self) hk]
      show _ = penc _ (encR (fixR r) ++ encL t)
      rw [penc_append, fixR_of (hok r List.mem_cons_self)]
  | false =>
    rw [if_neg (by decide)]
    induction rs with
    | nil => rfl
    | cons r t ih =>
      rw [List.flatMap_cons, ih fun r hr => hok r (List.mem_cons_of_mem _ hr)]
      have hp : pinB k r = false := by unfold pinB; rw [hk]; rfl
      unfold rpe; rw [hp]; rfl
end Go.Proofs.Ytpaklakjmmbboaa
