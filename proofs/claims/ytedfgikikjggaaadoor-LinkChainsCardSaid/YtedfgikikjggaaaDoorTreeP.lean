/- Folders and names: plain facts. No program. -/
import Derived.Test.YtedfgikikjggaaaDoorTreeC
import Derived.Test.YtedfgikikjggaaaDoorTreeL
set_option linter.unusedVariables false
set_option linter.unusedSimpArgs false
namespace Go.Proofs.YtedfgikikjggaaaDoor
open Go.RowKit

def joinL (f n : Bts) : Bts := if f = [47] then 47 :: n else f ++ 47 :: n
theorem lastSl_get : ∀ (p : Bts) (j : Nat), lastSl p = (j : Int) → p[j]? = some 47
  | [], j, h => by unfold lastSl at h; omega
  | b :: l, j, h => by
    unfold lastSl at h
    split at h
    · rename_i h1
      obtain ⟨k, hk⟩ := Int.eq_ofNat_of_zero_le h1
      have := lastSl_get l k hk
      have hj : j = k + 1 := by omega
      subst hj
      exact this
    · split at h
      · rename_i h2
        have : j = 0 := by omega
        subst this
        rw [h2]; rfl
      · omega
theorem clean_cases {p : Bts} (h : cleanL p = true) : p = [47] ∨ ∃ r, p = 47 :: r ∧ (splitB 47 r).all okPart = true := by
  unfold cleanL at h
  rw [Bool.or_eq_true, beq_iff_eq, Bool.and_eq_true] at h
  rcases h with h | ⟨h1, h2⟩
  · exact .inl h
  · cases p with
    | nil => cases h1
    | cons b r =>
      have : b = 47 := by simpa using h1
      subst this
      exact .inr ⟨r, rfl, h2⟩
theorem lastSl_nonneg {r : Bts} : 0 ≤ lastSl (47 :: r) := by
  unfold lastSl
  split
  · omega
  · simp
/-- A clean path is its folder and its name. -/
theorem join_part {p : Bts} (hc : cleanL p = true) (hne : p ≠ [47]) : joinL (partF p) (partN p) = p := by
  obtain ⟨r, rfl, hr⟩ := (clean_cases hc).resolve_left hne
  obtain ⟨j, hj⟩ := Int.eq_ofNat_of_zero_le (lastSl_nonneg (r := r))
  have hg := lastSl_get _ j hj
  have hlt := (List.getElem?_eq_some_iff.1 hg).1
  unfold joinL partF partN
  rw [hj, show ((j : Int) + 1).toNat = j + 1 by omega]
  by_cases h0 : j = 0
  · subst h0
    have e : (max ((0 : Nat) : Int) (min 1 ((47 :: r).length : Int))).toNat = 1 := by rw [List.length_cons]; omega
    rw [e]
    exact if_pos rfl
  · have e : (max (j : Int) (min 1 ((47 :: r).length : Int))).toNat = j := by omega
    rw [e]
    have hne2 : (47 :: r).take j ≠ [47] := by
      intro he
      have hl := congrArg List.length he
      rw [List.length_take, Nat.min_eq_left (by omega)] at hl
      have h1 : j = 1 := hl
      subst h1
      have hr0 : r[0]? = some 47 := hg
      cases r with
      | nil => cases hr0
      | cons b l =>
        have hb : b = 47 := by simpa using hr0
        subst hb
        rw [show splitB 47 (47 :: l) = [] :: splitB 47 l by conv => lhs; unfold splitB; rw [if_pos (by rfl)]] at hr
        simp [okPart] at hr
    rw [if_neg hne2]
    have h2 : 47 :: (47 :: r).drop (j + 1) = (47 :: r).drop j := by
      rw [List.drop_eq_getElem_cons hlt]
      congr 1
      have := (List.getElem?_eq_some_iff.1 hg).2
      exact this.symm
    rw [h2, List.take_append_drop]
theorem joinL_lt {f a b : Bts} : ltS (joinL f a) (joinL f b) = ltS a b := by
  unfold joinL
  split
  · exact ltS_app [47] a b
  · rw [ltS_app]; exact ltS_app [47] a b
theorem joinL_ne {f n : Bts} (h : n ≠ []) : joinL f n ≠ [47] := by
  unfold joinL
  split
  · intro e; injection e with _ e; exact h e
  · intro e
    cases f with
    | nil => simp at e; exact h e
    | cons b f => simp at e
theorem namesIn_mem {all : List Nd} {f s : Bts} (h : s ∈ namesIn all f) : ∃ n ∈ all, n.p ≠ [47] ∧ partF n.p = f ∧ partN n.p = s := by
  unfold namesIn at h
  obtain ⟨n, hn, rfl⟩ := List.mem_map.1 h
  obtain ⟨h1, h2⟩ := List.mem_filter.1 hn
  rw [Bool.and_eq_true, Bool.not_eq_true', beq_eq_false_iff_ne, beq_iff_eq] at h2
  exact ⟨n, h1, h2.1, h2.2, rfl⟩
/-- What a name leads to. -/
theorem names_look {all : List Nd} (hr : Rising all) (hc : ∀ n ∈ all, cleanL n.p = true) {f s : Bts} (h : s ∈ namesIn all f) : (lookN all (joinL f s)).isSome = true := by
  obtain ⟨n, h1, h2, rfl, rfl⟩ := namesIn_mem h
  rw [join_part (hc n h1) h2, lookN_mem hr h1]; rfl
theorem names_rise {all : List Nd} (hr : Rising all) (hc : ∀ n ∈ all, cleanL n.p = true) (f : Bts) : (namesIn all f).Pairwise (fun a b => ltS a b = true) := by
  unfold namesIn
  rw [List.pairwise_map]
  refine List.Pairwise.imp_of_mem ?_ (hr.filter _)
  intro a b ha hb hab
  obtain ⟨a1, a2⟩ := List.mem_filter.1 ha
  obtain ⟨b1, b2⟩ := List.mem_filter.1 hb
  rw [Bool.and_eq_true, Bool.not_eq_true', beq_eq_false_iff_ne, beq_iff_eq] at a2 b2
  have e1 := join_part (hc a a1) a2.1
  have e2 := join_part (hc b b1) b2.1
  rw [a2.2] at e1
  rw [b2.2] at e2
  rw [← joinL_lt (f := f), e1, e2]
  exact hab
theorem isDir_at {all : List Nd} (hr : Rising all) {n : Nd} (h : n ∈ all) : isDir all n.p = (n.k == 2) := by
  unfold isDir
  rw [lookN_mem hr h]
/-- How many names all folders have. -/
def qN (a n : Nd) : Bool := (!(n.p == [47]) && partF n.p == a.p) && a.k == 2
theorem namesD_len {all : List Nd} (hr : Rising all) {a : Nd} (h : a ∈ all) : (namesD all a.p).length = all.countP (qN a) := by
  unfold namesD
  rw [isDir_at hr h]
  by_cases hk : a.k = 2
  · rw [if_pos (by simp [hk])]
    unfold namesIn
    rw [List.length_map, ← List.countP_eq_length_filter]
    congr 1
    funext n
    unfold qN
    simp [hk]
  · rw [if_neg (by simp [hk])]
    symm
    rw [List.length_nil, List.countP_eq_zero]
    intro n _
    unfold qN
    simp [hk]
def sumN (B : List Nd) : List Nd → Nat
  | [] => 0
  | a :: A => B.countP (qN a) + sumN B A
theorem sumN_nil : ∀ A, sumN [] A = 0
  | [] => rfl
  | a :: A => by unfold sumN; rw [sumN_nil A]; rfl
theorem sumN_cons (n : Nd) (B : List Nd) : ∀ A, sumN (n :: B) A = sumN B A + A.countP (fun a => qN a n)
  | [] => rfl
  | a :: A => by
    unfold sumN
    rw [sumN_cons n B A, List.countP_cons, List.countP_cons]
    omega
theorem sumN_all (A : List Nd) : ∀ B : List Nd, (∀ n ∈ B, A.countP (fun a => qN a n) = if n.p = [47] then 0 else 1) → sumN B A = B.countP (fun n => !(n.p == [47]))
  | [], _ => sumN_nil A
  | n :: B, h => by
    rw [sumN_cons, sumN_all A B (fun m hm => h m (List.mem_cons_of_mem _ hm)), h n (List.mem_cons_self ..), List.countP_cons]
    by_cases hp : n.p = [47]
    · simp [hp]
    · simp [hp]
theorem count_one {f : Bts} : ∀ {A : List Nd}, Rising A → (∃ m ∈ A, m.p = f ∧ m.k = 2) → A.countP (fun a => f == a.p && a.k == 2) = 1
  | [], _, h => by obtain ⟨m, hm, -⟩ := h; cases hm
  | a :: A, hr, h => by
    have hr' := hr
    rw [Rising, List.pairwise_cons] at hr
    rw [List.countP_cons]
    obtain ⟨m, hm, h1, h2⟩ := h
    by_cases hf : f = a.p
    · have hz : A.countP (fun a => f == a.p && a.k == 2) = 0 := by
        rw [List.countP_eq_zero]
        intro b hb
        have := hr.1 b hb
        have hne : f ≠ b.p := fun e => by rw [← hf, e, ltS_irrefl] at this; cases this
        simp [hne]
      have hma : m = a := Rising.inj hr' hm (List.mem_cons_self ..) (h1.trans hf)
      subst hma
      rw [hz, if_pos (by simp [hf, h2])]
    · rw [if_neg (by simp [hf]), Nat.add_zero]
      rcases List.mem_cons.1 hm with e | hm
      · exact absurd (by rw [← h1, e]) hf
      · exact count_one hr.2 ⟨m, hm, h1, h2⟩
theorem root_once : ∀ {A : List Nd}, Rising A → rootN ∈ A → A.countP (fun n => !(n.p == [47])) + 1 = A.length
  | [], _, h => by cases h
  | a :: A, hr, h => by
    have hr' := hr
    rw [Rising, List.pairwise_cons] at hr
    rw [List.countP_cons, List.length_cons]
    by_cases ha : a.p = [47]
    · have : A.countP (fun n => !(n.p == [47])) = A.length := by
        rw [List.countP_eq_length]
        intro b hb
        have h1 := hr.1 b hb
        have hne : b.p ≠ [47] := fun e => by rw [ha, e, ltS_irrefl] at h1; cases h1
        simp [hne]
      rw [this, if_neg (by simp [ha])]
    · rcases List.mem_cons.1 h with e | h
      · rw [← e] at ha; exact absurd rfl ha
      · have := root_once hr.2 h
        rw [if_pos (by simp [ha])]
        omega
/-- All but the root are names of folders, once each. -/
theorem names_total {all : List Nd} (hr : Rising all) (hl : laysOk all) (hroot : rootN ∈ all) : sumN all all + 1 = all.length := by
  rw [sumN_all all all (fun n hn => ?_), root_once hr hroot]
  by_cases hp : n.p = [47]
  · rw [if_pos hp, List.countP_eq_zero]
    intro a _
    unfold qN; simp [hp]
  · rw [if_neg hp]
    obtain ⟨m, h1, h2, h3⟩ := (kindAt_iff hr _).1 (hl n hn hp)
    have := count_one hr ⟨m, h1, h2, h3⟩
    have e : (n.p == [47]) = false := by rw [beq_eq_false_iff_ne]; exact hp
    have hq : (fun a => qN a n) = fun (a : Nd) => partF n.p == a.p && a.k == 2 := by
      funext a
      unfold qN
      rw [e]; rfl
    rw [hq]
    exact this
theorem sumN_take (B A : List Nd) (i : Nat) (h : i < A.length) : sumN B (A.take (i + 1)) = sumN B (A.take i) + B.countP (qN (ndAt A i)) := by
  induction A generalizing i with
  | nil => simp at h
  | cons a A ih =>
    cases i with
    | zero => simp [sumN, ndAt]
    | succ i =>
      rw [List.take_succ_cons, List.take_succ_cons]
      unfold sumN
      rw [ih i (by simpa using h)]
      have : ndAt (a :: A) (i + 1) = ndAt A i := rfl
      rw [this]; omega
theorem sumN_app (B : List Nd) : ∀ A A' : List Nd, sumN B (A ++ A') = sumN B A + sumN B A'
  | [], A' => by simp [sumN]
  | a :: A, A' => by
    rw [List.cons_append]
    show B.countP (qN a) + sumN B (A ++ A') = B.countP (qN a) + sumN B A + sumN B A'
    rw [sumN_app B A A']; omega
theorem sumN_le (B A : List Nd) (i : Nat) : sumN B (A.take i) ≤ sumN B A := by
  have h := sumN_app B (A.take i) (A.drop i)
  rw [List.take_append_drop] at h
  omega
end Go.Proofs.YtedfgikikjggaaaDoor
