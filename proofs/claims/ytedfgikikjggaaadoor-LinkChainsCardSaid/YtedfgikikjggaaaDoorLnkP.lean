/- Ways, and what they lead to: plain facts. -/
import Derived.Test.YtedfgikikjggaaaDoorMg1
set_option linter.unusedVariables false
set_option linter.unusedSimpArgs false
namespace Go.Proofs.YtedfgikikjggaaaDoor
open Go.RowKit

/-- A path that is there, and no link. -/
def AtN (all : List Nd) (h : Bts) (k : Int) : Prop := ∃ nd, lookN all h = some nd ∧ nd.k = k ∧ k ≠ 3
theorem okPart_of {s : Bts} (h1 : ¬ (s = [] ∨ s = [46])) (h2 : s ≠ [46, 46]) : okPart s = true := by
  rcases okPart_cases s with ⟨-, h | h | h⟩ | ⟨h, -⟩
  · exact absurd (.inl h) h1
  · exact absurd (.inr h) h1
  · exact absurd h h2
  · exact h
theorem TreeOf.rootAt {all : List Nd} (ht : TreeOf all) : AtN all [47] 2 := ⟨rootN, lookN_mem ht.rise ht.root, rfl, by decide⟩
theorem AtN.up {all : List Nd} (ht : TreeOf all) {h : Bts} {k : Int} (hs : AtN all h k) : AtN all (partF h) 2 := by
  obtain ⟨nd, h1, h2, h3⟩ := hs
  obtain ⟨h4, h5⟩ := lookN_some h1
  by_cases hr : h = [47]
  · subst hr; exact ht.rootAt
  · obtain ⟨m, h6, h7⟩ := ht.up h4 (by rw [h5]; exact hr)
    rw [h5] at h6
    exact ⟨m, h6, h7, by decide⟩
theorem goL_there {all : List Nd} (ht : TreeOf all) : ∀ (n : Nat) (l : List Bts) (h : Bts) (k : Int), AtN all h k → ∀ q k', goL all n l h k = .ok q k' → AtN all q k'
  | n, [], h, k, hs, q, k', e => by
    rw [goL_nil] at e
    injection e with e1 e2
    subst e1; subst e2; exact hs
  | n, s :: l, h, k, hs, q, k', e => by
    by_cases h1 : s = [] ∨ s = [46]
    · rw [goL_skip _ _ _ _ _ _ h1] at e
      exact goL_there ht n l h k hs q k' e
    · by_cases h2 : k = 2
      · subst h2
        by_cases h3 : s = [46, 46]
        · subst h3
          rw [goL_up] at e
          exact goL_there ht n l _ 2 (hs.up ht) q k' e
        · have hok := okPart_of h1 h3
          cases hl : lookN all (joinL h s) with
          | none => rw [goL_gone _ _ _ _ _ hok hl] at e; cases e
          | some nd =>
            by_cases hk : nd.k = 3
            · rcases Nat.eq_zero_or_pos n with hn | hn
              · subst hn; rw [goL_loop _ _ _ _ _ hok hl hk] at e; cases e
              · obtain ⟨m, rfl⟩ : ∃ m, n = m + 1 := ⟨n - 1, by omega⟩
                rw [goL_link _ _ _ _ _ _ hok hl hk] at e
                refine goL_there ht m _ _ 2 ?_ q k' e
                split
                · exact ht.rootAt
                · exact hs
            · rw [goL_step _ _ _ _ _ _ hok hl hk] at e
              exact goL_there ht n l _ _ ⟨nd, hl, rfl, hk⟩ q k' e
      · rw [goL_kind _ _ _ _ _ _ h1 h2] at e; cases e
termination_by n l => (n, l.length)
/-- With more links left it leads there too. -/
theorem goL_more {all : List Nd} (d : Nat) : ∀ (n : Nat) (l : List Bts) (h : Bts) (k : Int) (q : Bts) (k' : Int), goL all n l h k = .ok q k' → goL all (n + d) l h k = .ok q k'
  | n, [], h, k, q, k', e => by
    rw [goL_nil] at e ⊢; exact e
  | n, s :: l, h, k, q, k', e => by
    by_cases h1 : s = [] ∨ s = [46]
    · rw [goL_skip _ _ _ _ _ _ h1] at e ⊢
      exact goL_more d n l h k q k' e
    · by_cases h2 : k = 2
      · subst h2
        by_cases h3 : s = [46, 46]
        · subst h3
          rw [goL_up] at e ⊢
          exact goL_more d n l _ 2 q k' e
        · have hok := okPart_of h1 h3
          cases hl : lookN all (joinL h s) with
          | none => rw [goL_gone _ _ _ _ _ hok hl] at e; cases e
          | some nd =>
            by_cases hk : nd.k = 3
            · rcases Nat.eq_zero_or_pos n with hn | hn
              · subst hn; rw [goL_loop _ _ _ _ _ hok hl hk] at e; cases e
              · obtain ⟨m, rfl⟩ : ∃ m, n = m + 1 := ⟨n - 1, by omega⟩
                rw [goL_link _ _ _ _ _ _ hok hl hk] at e
                rw [show m + 1 + d = (m + d) + 1 by omega, goL_link _ _ _ _ _ _ hok hl hk]
                exact goL_more d m _ _ 2 q k' e
            · rw [goL_step _ _ _ _ _ _ hok hl hk] at e ⊢
              exact goL_more d n l _ _ q k' e
      · rw [goL_kind _ _ _ _ _ _ h1 h2] at e; cases e
termination_by n l => (n, l.length)
/-- A way of two parts. -/
theorem goL_parts {all : List Nd} (l2 : List Bts) : ∀ (n : Nat) (l : List Bts) (h : Bts) (k : Int) (q : Bts) (k' : Int), goL all n (l ++ l2) h k = .ok q k' → ∃ b kb m, m ≤ n ∧ goL all n l h k = .ok b kb ∧ goL all m l2 b kb = .ok q k'
  | n, [], h, k, q, k', e => ⟨h, k, n, Nat.le_refl _, goL_nil _ _ _ _, e⟩
  | n, s :: l, h, k, q, k', e => by
    rw [List.cons_append] at e
    by_cases h1 : s = [] ∨ s = [46]
    · rw [goL_skip _ _ _ _ _ _ h1] at e ⊢
      exact goL_parts l2 n l h k q k' e
    · by_cases h2 : k = 2
      · subst h2
        by_cases h3 : s = [46, 46]
        · subst h3
          rw [goL_up] at e ⊢
          exact goL_parts l2 n l _ 2 q k' e
        · have hok := okPart_of h1 h3
          cases hl : lookN all (joinL h s) with
          | none => rw [goL_gone _ _ _ _ _ hok hl] at e; cases e
          | some nd =>
            by_cases hk : nd.k = 3
            · rcases Nat.eq_zero_or_pos n with hn | hn
              · subst hn; rw [goL_loop _ _ _ _ _ hok hl hk] at e; cases e
              · obtain ⟨m, rfl⟩ : ∃ m, n = m + 1 := ⟨n - 1, by omega⟩
                rw [goL_link _ _ _ _ _ _ hok hl hk] at e ⊢
                rw [← List.append_assoc] at e
                obtain ⟨b, kb, m', g1, g2, g3⟩ := goL_parts l2 m _ _ 2 q k' e
                exact ⟨b, kb, m', by omega, g2, g3⟩
            · rw [goL_step _ _ _ _ _ _ hok hl hk] at e ⊢
              exact goL_parts l2 n l _ _ q k' e
      · rw [goL_kind _ _ _ _ _ _ h1 h2] at e; cases e
termination_by n l => (n, l.length)
theorem endsOf_all : ∀ (l : List Bts) (a : Nat), (∀ s ∈ l, okPart s = true) → (endsOf l a).length = l.length
  | [], _, _ => rfl
  | s :: l, a, h => by
    rw [show endsOf (s :: l) a = (a + s.length) :: endsOf l (a + s.length + 1) from if_pos (h s (List.mem_cons_self ..)), List.length_cons, endsOf_all l _ (fun x hx => h x (List.mem_cons_of_mem _ hx))]; rfl
/-- Names, laid together again. -/
theorem joins_all {r : Bts} (h : ∀ s ∈ splitB 47 r, okPart s = true) (y : Bts) : (splitB 47 r).foldl joinL y = joinL y r := by
  have hl := (splitB_len 47 r).2
  obtain ⟨l, e, -, h2, -, -, h5, h6, h7, h8⟩ := ends_at r.length r (Nat.le_refl _) 0 ((splitB 47 r).length - 1) (by rw [endsOf_all _ _ h]; omega)
  rw [show (splitB 47 r).length - 1 + 1 = (splitB 47 r).length by omega, List.take_length] at h8
  subst h8
  obtain ⟨ps, g1, g2⟩ := h7 _ h5
  rw [List.take_append_drop] at g1
  have hps : ps = [] := by
    have := congrArg List.length g1
    rw [List.length_append] at this
    exact List.eq_nil_of_length_eq_zero (by omega)
  subst hps
  have hd : r.drop e = [] := by
    rcases h5 with h5 | ⟨u, h5⟩
    · exact h5
    · rw [h5, splitB_sl] at g2
      injection g2 with _ g2
      exact absurd g2 (splitB_ne 47 u)
  rw [h6]
  congr 1
  have := congrArg List.length hd
  rw [List.length_drop, List.length_nil] at this
  exact List.take_of_length_le (by omega)
/-- A path that is there leads there. -/
theorem goL_to {all : List Nd} (ht : TreeOf all) {b : Bts} {k : Int} (hb : AtN all b k) (n : Nat) (rest : List Bts) : goL all n (splitB 47 b ++ rest) [47] 2 = goL all n rest b k := by
  obtain ⟨nd, h1, rfl, h3⟩ := hb
  obtain ⟨h4, h5⟩ := lookN_some h1
  have hc := ht.clean h4
  rw [h5] at hc
  by_cases hr : b = [47]
  · subst hr
    rw [splitB_sl]
    show goL all n ([] :: ([] :: rest)) [47] 2 = _
    rw [goL_skip _ _ _ _ _ _ (.inl rfl), goL_skip _ _ _ _ _ _ (.inl rfl)]
    have := lookN_mem ht.rise ht.root
    rw [show rootN.p = [47] from rfl, h1] at this
    injection this with this
    rw [this]; rfl
  · obtain ⟨r, rfl, hr2⟩ := (clean_cases hc).resolve_left hr
    have hall : ∀ s ∈ splitB 47 r, okPart s = true := by rw [List.all_eq_true] at hr2; exact hr2
    have hj := joins_all hall [47]
    have hj2 : joinL [47] r = 47 :: r := rfl
    rw [splitB_sl]
    show goL all n ([] :: (splitB 47 r ++ rest)) [47] 2 = _
    rw [goL_skip _ _ _ _ _ _ (.inl rfl), goL_names ht n rest nd h3 (splitB 47 r) [47] (splitB_ne 47 r) (by simp) (fun s hs => ⟨hall s hs, splitB_noSl r s hs⟩) (by rw [hj, hj2]; exact h1), hj, hj2]
/-- What Real tells, parted. -/
theorem realV_ok {all : List Nd} {p : Bts} {q : Bts} {k : Int} (hp : p.head? = some 47) (h : goL all 40 (splitB 47 p) [47] 2 = .ok q k) : realV all p = .tuple #[.string ⟨q.toArray⟩, .int .i64 k, .int .i64 0] := by
  unfold realV
  rw [if_pos hp, h]; rfl
theorem realV_cases (all : List Nd) (p : Bts) : (∃ q k, p.head? = some 47 ∧ goL all 40 (splitB 47 p) [47] 2 = .ok q k ∧ realV all p = .tuple #[.string ⟨q.toArray⟩, .int .i64 k, .int .i64 0]) ∨ (∃ e : Int, e ≠ 0 ∧ realV all p = .tuple #[.string ⟨#[]⟩, .int .i64 0, .int .i64 e] ∧ (p.head? = some 47 → ∀ q k, goL all 40 (splitB 47 p) [47] 2 ≠ .ok q k)) := by
  by_cases hp : p.head? = some 47
  · cases h : goL all 40 (splitB 47 p) [47] 2 with
    | ok q k => exact .inl ⟨q, k, hp, rfl, realV_ok hp h⟩
    | gone => exact .inr ⟨13, by decide, by unfold realV; rw [if_pos hp, h]; rfl, fun _ q k e => by cases e⟩
    | loop => exact .inr ⟨20, by decide, by unfold realV; rw [if_pos hp, h]; rfl, fun _ q k e => by cases e⟩
  · exact .inr ⟨2, by decide, by unfold realV; rw [if_neg hp], fun h => absurd h hp⟩
theorem AtN.clean {all : List Nd} (ht : TreeOf all) {q : Bts} {k : Int} (h : AtN all q k) : cleanL q = true ∧ q.length ≤ 1024 ∧ (k = 1 ∨ k = 2) ∧ ∃ r, q = 47 :: r := by
  obtain ⟨nd, h1, h2, h3⟩ := h
  obtain ⟨h4, h5⟩ := lookN_some h1
  have hc := ht.clean h4
  have hs := ht.short h4
  rw [h5] at hc hs
  have hk := ht.kind h4
  rw [h2] at hk
  refine ⟨hc, hs, by omega, ?_⟩
  rcases clean_cases hc with rfl | ⟨r, rfl, -⟩
  · exact ⟨[], rfl⟩
  · exact ⟨r, rfl⟩
/-- Where a path leads leads to itself, by . and behind a slash. -/
theorem real_dot {all : List Nd} (ht : TreeOf all) {q : Bts} {k : Int} (h : AtN all q k) : realV all (47 :: 46 :: (q ++ [47])) = .tuple #[.string ⟨q.toArray⟩, .int .i64 k, .int .i64 0] := by
  obtain ⟨-, -, -, r, rfl⟩ := h.clean ht
  refine realV_ok rfl ?_
  have h1 : splitB 47 (47 :: 46 :: (47 :: r ++ [47])) = [] :: [46] :: (splitB 47 r ++ [[]]) := by
    rw [splitB_sl, show 46 :: (47 :: r ++ [47]) = [46] ++ 47 :: (r ++ 47 :: []) by simp, (splitB_name (s := [46]) (fun b hb => by simp at hb; subst hb; decide) _).1, splitB_app]; rfl
  have h2 := goL_to ht h 40 [[]]
  rw [splitB_sl, List.cons_append, goL_skip _ _ _ _ _ _ (.inl rfl)] at h2
  rw [h1, goL_skip _ _ _ _ _ _ (.inl rfl), goL_skip _ _ _ _ _ _ (.inr rfl), h2, goL_skip _ _ _ _ _ _ (.inl rfl), goL_nil]
/-- A way, part by part. -/
theorem real_parts {all : List Nd} (ht : TreeOf all) {p q a : Bts} {k : Int} (h : goL all 40 (splitB 47 (47 :: (p ++ 47 :: q))) [47] 2 = .ok a k) :
    ∃ b kb, AtN all b kb ∧ realV all (47 :: p) = .tuple #[.string ⟨b.toArray⟩, .int .i64 kb, .int .i64 0] ∧ realV all (b ++ 47 :: q) = .tuple #[.string ⟨a.toArray⟩, .int .i64 k, .int .i64 0] := by
  rw [splitB_sl, splitB_app, goL_skip _ _ _ _ _ _ (.inl rfl)] at h
  obtain ⟨b, kb, m, h1, h2, h3⟩ := goL_parts _ 40 _ _ _ _ _ h
  have hb := goL_there ht _ _ _ _ ht.rootAt _ _ h2
  obtain ⟨-, -, -, r, hr⟩ := hb.clean ht
  refine ⟨b, kb, hb, realV_ok rfl ?_, realV_ok (by rw [hr]; rfl) ?_⟩
  · rw [splitB_sl, goL_skip _ _ _ _ _ _ (.inl rfl)]; exact h2
  · rw [splitB_app, goL_to ht hb]
    have := goL_more (40 - m) m _ _ _ _ _ h3
    rwa [show m + (40 - m) = 40 by omega] at this
end Go.Proofs.YtedfgikikjggaaaDoor
