/- The evaluator: nodes in order. -/
import Derived.Test.YtniednnklbdciaaDoorEvTD
set_option linter.unusedVariables false
set_option linter.unusedSectionVars false
set_option linter.unusedSimpArgs false
namespace Go.Ev
open Go.RowKit
variable {P : Program}

theorem blt_of {x y : Nat} (h : Nat.blt x y = true) : x < y := Nat.le_of_ble_eq_true h
theorem blt_not {x y : Nat} (h : ¬ x < y) : Nat.blt x y = false := by
  rw [Bool.eq_false_iff]; exact fun hb => h (blt_of hb)
theorem ltN_asymm : ∀ {x y : List Nat}, ltN x y = true → ltN y x = false
  | [], [], h => by cases h
  | [], _ :: _, h => rfl
  | _ :: _, [], h => by cases h
  | x :: xs, y :: ys, h => by
    unfold ltN at h ⊢
    rw [Bool.or_eq_true] at h
    rw [Bool.or_eq_false_iff]
    rcases h with h | h
    · have h1 : x < y := blt_of h
      refine ⟨blt_not (by omega), ?_⟩
      rw [Bool.and_eq_false_iff]; left
      rw [Bool.eq_false_iff]; exact fun hb => by have := Nat.eq_of_beq_eq_true hb; omega
    · rw [Bool.and_eq_true] at h
      have h1 := Nat.eq_of_beq_eq_true h.1
      subst h1
      refine ⟨blt_not (by omega), ?_⟩
      rw [Bool.and_eq_false_iff]; right; exact ltN_asymm h.2
theorem insT_perm (x : NT) : ∀ l : List NT, (insT x l).Perm (x :: l)
  | [] => .refl _
  | y :: l => by
    unfold insT
    cases ltN x.p y.p with
    | true => exact .refl _
    | false => exact ((insT_perm x l).cons y).trans (.swap x y l)
theorem srtT_perm : ∀ l : List NT, (srtT l).Perm l
  | [] => .refl _
  | x :: l => (insT_perm x (srtT l)).trans ((srtT_perm l).cons x)
theorem riseB_pw : ∀ {l : List NT}, riseB l = true → l.Pairwise fun x y => ltN x.p y.p = true
  | [], _ => .nil
  | x :: l, h => by
    unfold riseB at h
    rw [Bool.and_eq_true] at h
    exact .cons (fun y hy => List.all_eq_true.1 h.1 y hy) (riseB_pw h.2)
/-- What is told of a node. -/
abbrev Row3 := List Nat × Value × Value
/-- Rows in order are those rows in order. -/
theorem rows_eq {nts : List NT} {f : NT → Row3} (hf : ∀ x, (f x).1 = x.p) (hr : riseB (srtT nts) = true) {d' : List Row3} (hp : d'.Perm (nts.map f)) (hs : d'.Pairwise fun x y => ltN y.1 x.1 = false) : d' = (srtT nts).map f := by
  have pw := riseB_pw hr
  have hp2 : d'.Perm ((srtT nts).map f) := hp.trans ((srtT_perm nts).map f).symm
  refine List.Perm.eq_of_pairwise (le := fun x y => ltN y.1 x.1 = false) ?_ hs ?_ hp2
  · intro a b ha hb h1 h2
    have ha' := hp2.mem_iff.1 ha
    obtain ⟨x, hx, rfl⟩ := List.mem_map.1 ha'
    obtain ⟨y, hy, rfl⟩ := List.mem_map.1 hb
    rw [hf, hf] at h1 h2
    by_cases e : x = y
    · rw [e]
    · exfalso
      have : ∀ {l : List NT}, (l.Pairwise fun x y => ltN x.p y.p = true) → x ∈ l → y ∈ l → ltN x.p y.p = true ∨ ltN y.p x.p = true := by
        intro l hl
        induction hl with
        | nil => intro h; cases h
        | cons h hl ih =>
          intro h3 h4
          rcases List.mem_cons.1 h3 with e3 | h3
          · rcases List.mem_cons.1 h4 with e4 | h4
            · exact absurd (e3.trans e4.symm) e
            · rw [e3]; exact .inl (h _ h4)
          · rcases List.mem_cons.1 h4 with e4 | h4
            · rw [e4]; exact .inr (h _ h3)
            · exact ih h3 h4
      rcases this pw hx hy with h | h
      · rw [h] at h2; cases h2
      · rw [h] at h1; cases h1
  · rw [List.pairwise_map]
    exact pw.imp fun {x y} h => by rw [hf, hf]; exact ltN_asymm h
/-- A node in the map, and what is known of it. -/
structure NtR [Sg] (β : Bt) (x : NT) (m : MapEntry) : Prop where
  key : flatV m.key = true
  val : ∃ b c, m.val = .agg #[.string (bytesOf x.p), b, c] ∧ con β x.b = some b ∧ con β x.c = some c ∧ flatV b = true ∧ flatV c = true
  all : x.p.all (· < 256) = true
  a : ∃ n, x.a = .str n x.p ∧ con β x.a = some (.string (bytesOf x.p))
  fb : flatB.flat1 x.b = true
  fc : flatB.flat1 x.c = true
inductive All2 {α β : Type} (R : α → β → Prop) : List α → List β → Prop
  | nil : All2 R [] []
  | cons {a b l m} : R a b → All2 R l m → All2 R (a :: l) (b :: m)
theorem All2.len {α β : Type} {R : α → β → Prop} {l : List α} {m : List β} (h : All2 R l m) : l.length = m.length := by
  induction h with
  | nil => rfl
  | cons _ _ ih => simp [ih]
theorem All2.get {α β : Type} {R : α → β → Prop} {l : List α} {m : List β} (h : All2 R l m) : ∀ {i : Nat} {b : β}, m[i]? = some b → ∃ a, l[i]? = some a ∧ R a b := by
  induction h with
  | nil => intro i b h; simp at h
  | cons hr h ih =>
    intro i b hb
    cases i with
    | zero => injection hb with hb; subst hb; exact ⟨_, rfl, hr⟩
    | succ i => exact ih hb
theorem All2.mem {α β : Type} {R : α → β → Prop} {l : List α} {m : List β} (h : All2 R l m) {b : β} (hb : b ∈ m) : ∃ a, a ∈ l ∧ R a b := by
  obtain ⟨i, hi⟩ := List.mem_iff_getElem?.1 hb
  obtain ⟨a, h1, h2⟩ := h.get hi
  exact ⟨a, List.mem_of_getElem? h1, h2⟩
/-- Those of the one in another order: those of the other one. -/
theorem All2.perm {α β : Type} {R : α → β → Prop} {m m' : List β} (hp : m.Perm m') : ∀ {l : List α}, All2 R l m → ∃ l', l'.Perm l ∧ All2 R l' m' := by
  induction hp with
  | nil => exact fun h => ⟨_, .refl _, h⟩
  | cons x _ ih =>
    intro l h
    cases h with
    | cons hr h =>
      obtain ⟨l', h1, h2⟩ := ih h
      exact ⟨_, h1.cons _, .cons hr h2⟩
  | swap x y l0 =>
    intro l h
    cases h with
    | cons hr h =>
      cases h with
      | cons hr2 h => exact ⟨_, .swap _ _ _, .cons hr2 (.cons hr h)⟩
  | trans _ _ ih1 ih2 =>
    intro l h
    obtain ⟨l', h1, h2⟩ := ih1 h
    obtain ⟨l'', h3, h4⟩ := ih2 h2
    exact ⟨l'', h3.trans h1, h4⟩
theorem ntL_ents [Sg] {β : Bt} : ∀ {es : List (AV × AV × Nat)} {ms : List MapEntry} {nts : List NT}, EntR β es ms → ntL es = some nts → All2 (NtR β) nts ms
  | [], [], nts, _, h => by unfold ntL at h; injection h with h; subst h; exact .nil
  | [], _ :: _, nts, h, _ => h.elim
  | _ :: _, [], nts, h, _ => h.elim
  | e :: es, m :: ms, nts, ⟨h1, h2, h3, h4⟩, h => by
    unfold ntL at h
    split at h
    · rename_i n l x xs q1 q2 q3
      injection h with h
      subst h
      refine .cons ?_ (ntL_ents h4 q3)
      unfold ntOf at q2
      split at q2
      · rename_i n2 l2 b c q4
        rw [q4] at h2
        cases hfl : (flatB.flat1 b && flatB.flat1 c) with
        | false => rw [hfl] at q2; cases q2
        | true =>
          rw [hfl] at q2
          injection q2 with q2
          subst q2
          rw [Bool.and_eq_true] at hfl
          simp only [con, conL, Option.bind_eq_some_iff, Option.map_eq_some_iff] at h2
          obtain ⟨vs, ⟨va, ha, vs1, ⟨vb, hb, vs2, ⟨vc, hc, vs3, hd, rfl⟩, rfl⟩, rfl⟩, h2⟩ := h2
          split at ha
          · rename_i hstr
            injection ha with ha
            subst ha
            injection hd with hd
            subst hd
            split at h2
            · rename_i hall
              injection h2 with h2
              simp only [List.all_cons, Bool.and_eq_true] at hall
              rw [q1] at h1
              refine ⟨?_, ⟨vb, vc, h2.symm, hb, hc, hall.2.1, hall.2.2.1⟩, hstr.2, ⟨n2, rfl, by simp only [con]; rw [if_pos hstr]⟩, hfl.1, hfl.2⟩
              simp only [con] at h1
              split at h1
              · injection h1 with h1; rw [← h1]; rfl
              · cases h1
            · cases h2
          · cases ha
      · cases q2
    · cases h
end Go.Ev
