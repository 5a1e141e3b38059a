/- What ref15.New lays: the rows, and when it says no. -/
import Derived.Test.YtcdkojdjcifkpaaDoorRfE
import Derived.Test.YtcdkojdjcifkpaaDoorRfB
import Derived.Test.YtcdkojdjcifkpaaDoorTreeN
import Derived.Test.YtcdkojdjcifkpaaDoorTreeP
set_option linter.unusedVariables false
set_option linter.unusedSimpArgs false
namespace Go.Proofs.YtcdkojdjcifkpaaDoor
open Go.RowKit

def rState (ns : List Nd) (i : Nat) (all : List Nd) : Prop := Rising all ∧ all.length ≤ i ∧ ∀ m, m ∈ all ↔ m ∈ ns.take i
theorem lookN_of_none {all : List Nd} {p : Bts} (h : ∀ n ∈ all, n.p ≠ p) : lookN all p = none := by
  cases hl : lookN all p with
  | none => rfl
  | some m => obtain ⟨h1, h2⟩ := lookN_some hl; exact absurd h2 (h m h1)
theorem isNone_none {all : List Nd} {p : Bts} (h : (lookN all p).isNone = true) : lookN all p = none := by
  cases hl : lookN all p with
  | none => rfl
  | some m => rw [hl] at h; cases h
theorem isNone_some {all : List Nd} {p : Bts} (h : (lookN all p).isNone = false) : ∃ m, lookN all p = some m := by
  cases hl : lookN all p with
  | none => rw [hl] at h; cases h
  | some m => exact ⟨m, rfl⟩
theorem rState_next {ns all all' : List Nd} {i : Nat} (hi : i < ns.length) (h1 : stateOk ns i) (h2 : rState ns i all) (hf : fitN (ndAt ns i) = true) (hn : (lookN all (ndAt ns i).p).isNone = true) (hl : Laid1 all (ndAt ns i) all') : stateOk ns (i + 1) ∧ rState ns (i + 1) all' := by
  refine ⟨stateOk_succ hi h1 hf (lookN_of_none fun n hn2 => lookN_none (isNone_none hn) n ((h2.2.2 n).2 hn2)), hl.1, by have := hl.2.1; have := h2.2.1; omega, fun m => ?_⟩
  rw [hl.2.2.1 hn m, h2.2.2 m, take_succ' hi, List.mem_append, List.mem_singleton]
theorem rState_twice {ns all : List Nd} {i : Nat} (hi : i < ns.length) (h2 : rState ns i all) (hn : (lookN all (ndAt ns i).p).isNone = false) : ¬ Good ns := by
  obtain ⟨m, hm⟩ := isNone_some hn
  obtain ⟨h3, h4⟩ := lookN_some hm
  cases hk : lookN (ns.take i) (ndAt ns i).p with
  | none => exact absurd h4 (lookN_none hk m ((h2.2.2 m).1 h3))
  | some q => exact not_good_twice hi hk
theorem rState_whole {ns all all' : List Nd} (h1 : stateOk ns ns.length) (h2 : rState ns ns.length all) (hl : Laid1 all rootN all') : Whole ns all' ∧ all'.length ≤ ns.length + 1 := by
  have ht : ns.take ns.length = ns := List.take_length
  refine ⟨⟨hl.1, fun n => ?_⟩, by have := hl.2.1; have := h2.2.1; omega⟩
  have hm := h2.2.2 n
  rw [ht] at hm
  cases hn : (lookN all rootN.p).isNone with
  | true => rw [hl.2.2.1 hn n, hm]
  | false =>
    rw [hl.2.2.2 hn, hm]
    refine ⟨.inl, fun h => h.elim id fun h => ?_⟩
    obtain ⟨m, hk⟩ := isNone_some hn
    obtain ⟨h3, h4⟩ := lookN_some hk
    have h5 := (h2.2.2 m).1 h3
    have h6 := fit_root (h1.1 m h5) h4
    rw [ht] at h5
    rw [h, ← h6]; exact h5
theorem stateOk_all {ns : List Nd} (h : stateOk ns ns.length) : (∀ n ∈ ns, fitN n = true) ∧ (ns.map (·.p)).Nodup := by
  unfold stateOk at h
  rw [List.take_length] at h; exact h
theorem chk_root {ns all : List Nd} (h : Whole ns all) : kindAt all [47] = 2 := (kindAt_iff h.1 _).2 ⟨rootN, (h.2 _).2 (.inr rfl), rfl, rfl⟩
theorem chk_good {ns all : List Nd} (h1 : stateOk ns ns.length) (h : Whole ns all) (hc : ∀ j, j < all.length → kindAt all (cutF (ndAt all j).p) = 2) : Good ns := by
  obtain ⟨h2, h3⟩ := stateOk_all h1
  refine (laysOk_good h h2 h3).1 fun n hn hp => ?_
  obtain ⟨j, hj, rfl⟩ := mem_at hn
  have := hc j hj
  unfold cutF at this
  rwa [if_neg hp] at this
theorem chk_bad {ns all : List Nd} (h1 : stateOk ns ns.length) (h : Whole ns all) {j : Nat} (hj : j < all.length) (hc : kindAt all (cutF (ndAt all j).p) ≠ 2) : ¬ Good ns := fun hg => by
  obtain ⟨h2, h3⟩ := stateOk_all h1
  have hl := (laysOk_good h h2 h3).2 hg
  unfold cutF at hc
  by_cases hp : (ndAt all j).p = [47]
  · rw [if_pos hp] at hc; exact hc (chk_root h)
  · rw [if_neg hp] at hc; exact hc (hl _ (ndAt_mem hj) hp)
theorem clean_head {p : Bts} (h : cleanL p = true) : ∃ r, p = 47 :: r := by
  rcases clean_cases h with h | ⟨r, h, -⟩
  · exact ⟨[], h⟩
  · exact ⟨r, h⟩
theorem whole_path {ns all : List Nd} (h1 : stateOk ns ns.length) (h : Whole ns all) {n : Nd} (hn : n ∈ all) : (∃ r, n.p = 47 :: r) ∧ n.p.length ≤ 1024 := by
  rcases (h.2 n).1 hn with h2 | h2
  · have hf := (stateOk_all h1).1 n h2
    refine ⟨clean_head (fit_clean hf), ?_⟩
    unfold fitN at hf
    simp only [Bool.and_eq_true, decide_eq_true_eq] at hf
    exact hf.1.1.1.1
  · rw [h2]; exact ⟨⟨[], rfl⟩, by decide⟩
theorem cutF_len (p : Bts) (h : p.length ≤ 1024) : (cutF p).length ≤ 1024 := by
  unfold cutF partF
  split
  · decide
  · rw [List.length_take]; omega
theorem kind_ok {all : List Nd} {f : Bts} {ok : Bool} {R : Nd} (h1 : (lookN all f).getD nd0 = R) (h2 : (lookN all f).isSome = ok) : (kindAt all f = 2 → ok = true ∧ R.k = 2) ∧ (ok = true → R.k = 2 → kindAt all f = 2) := by
  unfold kindAt
  rw [h1]
  refine ⟨fun h => ⟨?_, h⟩, fun _ h => h⟩
  cases hl : lookN all f with
  | none => rw [hl] at h1; rw [← h1] at h; cases h
  | some m => rw [hl] at h2; rw [← h2]; rfl
theorem tupPI {a b : Value} : Ending.returned (.tuple #[a, b]) = .returned (.tuple #[a, b]) := rfl
end Go.Proofs.YtcdkojdjcifkpaaDoor
