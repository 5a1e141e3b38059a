/- Where links lead: what it is, over lists. No program. -/
import Derived.Test.YtedfgikikjggaaaDoorTreeP
set_option linter.unusedVariables false
set_option linter.unusedSimpArgs false
namespace Go.Proofs.YtedfgikikjggaaaDoor

/-- Where a way leads: a path and its kind, nowhere, or too many links. -/
inductive LRes where
  | ok (p : Bts) (k : Int)
  | gone
  | loop
def goL (all : List Nd) : Nat → List Bts → Bts → Int → LRes
  | _, [], h, k => .ok h k
  | n, s :: l, h, k =>
    if s = [] ∨ s = [46] then goL all n l h k
    else if k ≠ 2 then .gone
    else if s = [46, 46] then goL all n l (partF h) k
    else match lookN all (joinL h s) with
      | none => .gone
      | some nd => if nd.k ≠ 3 then goL all n l (joinL h s) nd.k
        else match n with
          | 0 => .loop
          | m + 1 => goL all m (splitB 47 nd.d ++ l) (if nd.d.head? = some 47 then [47] else h) 2
termination_by n l => (n, l.length)
theorem goL_nil (all : List Nd) (n : Nat) (h : Bts) (k : Int) : goL all n [] h k = .ok h k := by unfold goL; rfl
theorem goL_skip (all : List Nd) (n : Nat) (s : Bts) (l : List Bts) (h : Bts) (k : Int) (hs : s = [] ∨ s = [46]) : goL all n (s :: l) h k = goL all n l h k := by
  conv => lhs; unfold goL
  rw [if_pos hs]
theorem goL_kind (all : List Nd) (n : Nat) (s : Bts) (l : List Bts) (h : Bts) (k : Int) (hs : ¬ (s = [] ∨ s = [46])) (hk : k ≠ 2) : goL all n (s :: l) h k = .gone := by
  unfold goL
  rw [if_neg hs, if_pos hk]
theorem goL_up (all : List Nd) (n : Nat) (l : List Bts) (h : Bts) : goL all n ([46, 46] :: l) h 2 = goL all n l (partF h) 2 := by
  conv => lhs; unfold goL
  rw [if_neg (by decide), if_neg (by decide), if_pos rfl]
theorem goL_gone (all : List Nd) (n : Nat) (s : Bts) (l : List Bts) (h : Bts) (hs : okPart s = true) (hl : lookN all (joinL h s) = none) : goL all n (s :: l) h 2 = .gone := by
  unfold okPart at hs
  simp at hs
  unfold goL
  rw [if_neg (by rintro (h1 | h1); exact hs.1.1 h1; exact hs.1.2 h1), if_neg (by decide), if_neg hs.2, hl]
theorem goL_step (all : List Nd) (n : Nat) (s : Bts) (l : List Bts) (h : Bts) (nd : Nd) (hs : okPart s = true) (hl : lookN all (joinL h s) = some nd) (hk : nd.k ≠ 3) : goL all n (s :: l) h 2 = goL all n l (joinL h s) nd.k := by
  unfold okPart at hs
  simp at hs
  conv => lhs; unfold goL
  rw [if_neg (by rintro (h1 | h1); exact hs.1.1 h1; exact hs.1.2 h1), if_neg (by decide), if_neg hs.2, hl]
  exact if_pos hk
theorem goL_loop (all : List Nd) (s : Bts) (l : List Bts) (h : Bts) (nd : Nd) (hs : okPart s = true) (hl : lookN all (joinL h s) = some nd) (hk : nd.k = 3) : goL all 0 (s :: l) h 2 = .loop := by
  unfold okPart at hs
  simp at hs
  unfold goL
  rw [if_neg (by rintro (h1 | h1); exact hs.1.1 h1; exact hs.1.2 h1), if_neg (by decide), if_neg hs.2, hl]
  exact if_neg (fun h => h hk)
theorem goL_link (all : List Nd) (n : Nat) (s : Bts) (l : List Bts) (h : Bts) (nd : Nd) (hs : okPart s = true) (hl : lookN all (joinL h s) = some nd) (hk : nd.k = 3) : goL all (n + 1) (s :: l) h 2 = goL all n (splitB 47 nd.d ++ l) (if nd.d.head? = some 47 then [47] else h) 2 := by
  unfold okPart at hs
  simp at hs
  conv => lhs; unfold goL
  rw [if_neg (by rintro (h1 | h1); exact hs.1.1 h1; exact hs.1.2 h1), if_neg (by decide), if_neg hs.2, hl]
  exact if_neg (fun h => h hk)

/-- What is known of a tree's nodes. -/
structure TreeOf (all : List Nd) : Prop where
  rise : Rising all
  root : rootN ∈ all
  lays : laysOk all
  fits : ∀ n ∈ all, fitN n = true
theorem fit_rootN : fitN rootN = true := by decide +kernel
theorem TreeOf.of {ns all : List Nd} (hw : Whole ns all) (hg : Good ns) : TreeOf all where
  rise := hw.1
  root := (hw.2 _).2 (.inr rfl)
  lays := (laysOk_good hw hg.1 hg.2.1).2 hg
  fits := fun n hn => by
    rcases (hw.2 n).1 hn with h | h
    · exact hg.1 n h
    · rw [h]; exact fit_rootN
theorem TreeOf.clean {all : List Nd} (h : TreeOf all) {n : Nd} (hn : n ∈ all) : cleanL n.p = true := fit_clean (h.fits n hn)
/-- What stands in a folder: it is there, and a folder. -/
theorem TreeOf.up {all : List Nd} (h : TreeOf all) {n : Nd} (hn : n ∈ all) (hp : n.p ≠ [47]) : ∃ m, lookN all (partF n.p) = some m ∧ m.k = 2 := by
  have h1 := h.lays n hn hp
  unfold kindAt at h1
  cases hl : lookN all (partF n.p) with
  | none => rw [hl] at h1; cases h1
  | some m => rw [hl] at h1; exact ⟨m, rfl, h1⟩

def noSl (s : Bts) : Prop := ∀ b ∈ s, b ≠ 47
theorem noSl_nil : noSl [] := fun b h => by cases h
theorem lastSl_noSl : ∀ {s : Bts}, noSl s → lastSl s = -1
  | [], _ => rfl
  | b :: s, h => by
    have := lastSl_noSl (s := s) (fun c hc => h c (List.mem_cons_of_mem _ hc))
    unfold lastSl
    rw [this, if_neg (by omega), if_neg (h b (List.mem_cons_self ..))]
theorem lastSl_cat : ∀ (y : Bts) {s : Bts}, noSl s → lastSl (y ++ 47 :: s) = (y.length : Int)
  | [], s, h => by
    show lastSl (47 :: s) = _
    unfold lastSl
    rw [lastSl_noSl h, if_neg (by omega), if_pos rfl]; rfl
  | b :: y, s, h => by
    have := lastSl_cat y h
    show lastSl (b :: (y ++ 47 :: s)) = _
    unfold lastSl
    rw [this, if_pos (by omega), List.length_cons]; omega
/-- The folder of what stands below a folder. -/
theorem partF_join {y s : Bts} (hy : y ≠ []) (hs : noSl s) : partF (joinL y s) = y := by
  unfold joinL
  split
  · rename_i h
    subst h
    unfold partF
    rw [show lastSl (47 :: s) = 0 from lastSl_cat [] hs]
    have : (max (0 : Int) (min 1 ((47 :: s).length : Int))).toNat = 1 := by rw [List.length_cons]; omega
    rw [this]; rfl
  · unfold partF
    rw [lastSl_cat y hs]
    have hl : 1 ≤ y.length := by cases y with | nil => exact absurd rfl hy | cons _ _ => simp
    have : (max (y.length : Int) (min 1 ((y ++ 47 :: s).length : Int))).toNat = y.length := by omega
    rw [this, List.take_left']; rfl
theorem okPart_ne {s : Bts} (h : okPart s = true) : s ≠ [] := by rintro rfl; cases h
theorem joinL_ne_nil {y s : Bts} : joinL y s ≠ [] := by
  unfold joinL; split <;> simp
theorem joins_ne : ∀ (l : List Bts) {h : Bts}, h ≠ [] → l.foldl joinL h ≠ []
  | [], _, hh => hh
  | s :: l, _, _ => joins_ne l joinL_ne_nil
/-- What is above a node is there, and a folder. -/
theorem TreeOf.above {all : List Nd} (ht : TreeOf all) : ∀ (m : List Bts) {l : List Bts} {h : Bts}, l.reverse = m → l ≠ [] → h ≠ [] → (∀ s ∈ l, okPart s = true ∧ noSl s) → (∃ nd, lookN all (l.foldl joinL h) = some nd) → ∃ nd, lookN all h = some nd ∧ nd.k = 2
  | [], l, h, e, hne, _, _, _ => absurd (List.reverse_eq_nil_iff.1 e) hne
  | z :: m, l, h, e, _, hh, hs, hn => by
    have e2 : l = m.reverse ++ [z] := by rw [← List.reverse_reverse l, e, List.reverse_cons]
    subst e2
    rw [List.foldl_append, List.foldl_cons, List.foldl_nil] at hn
    obtain ⟨nd, hn⟩ := hn
    obtain ⟨h1, h2⟩ := lookN_some hn
    have hz := hs z (by simp)
    have hyn : (m.reverse).foldl joinL h ≠ [] := joins_ne _ hh
    have h3 := ht.up h1 (by rw [h2]; exact joinL_ne (okPart_ne hz.1))
    rw [h2, partF_join hyn hz.2] at h3
    obtain ⟨nd2, h4, h5⟩ := h3
    by_cases hm : m = []
    · subst hm; exact ⟨nd2, h4, h5⟩
    · exact ht.above m (List.reverse_reverse m) (by simpa using hm) hh (fun s hs' => hs s (by simp at hs' ⊢; exact .inl hs')) ⟨nd2, h4⟩
/-- Names lead from folder to folder to where the last one is no link. -/
theorem goL_names {all : List Nd} (ht : TreeOf all) (n : Nat) (rest : List Bts) (nd : Nd) (hk : nd.k ≠ 3) : ∀ (l : List Bts) (h : Bts), l ≠ [] → h ≠ [] → (∀ s ∈ l, okPart s = true ∧ noSl s) → lookN all (l.foldl joinL h) = some nd → goL all n (l ++ rest) h 2 = goL all n rest (l.foldl joinL h) nd.k
  | [s], h, _, _, hs, hl => goL_step all n s rest h nd (hs s (by simp)).1 hl hk
  | s :: t :: l, h, _, hh, hs, hl => by
    obtain ⟨m, hm, hmk⟩ := ht.above _ (l := t :: l) (h := joinL h s) rfl (by simp) joinL_ne_nil (fun x hx => hs x (List.mem_cons_of_mem _ hx)) ⟨nd, hl⟩
    show goL all n (s :: ((t :: l) ++ rest)) h 2 = _
    rw [goL_step all n s _ h m (hs s (by simp)).1 hm (by rw [hmk]; decide), hmk]
    exact goL_names ht n rest nd hk (t :: l) (joinL h s) (by simp) joinL_ne_nil (fun x hx => hs x (List.mem_cons_of_mem _ hx)) hl

/-! Texts. -/
theorem splitB_noSl : ∀ (t : Bts), ∀ s ∈ splitB 47 t, noSl s
  | [], s, h => by
    have : s = [] := by simpa [splitB] using h
    subst this; exact noSl_nil
  | b :: t, s, h => by
    unfold splitB at h
    split at h
    · rcases List.mem_cons.1 h with rfl | h
      · exact noSl_nil
      · exact splitB_noSl t s h
    · rename_i hb
      have hne := splitB_ne 47 t
      match hsp : splitB 47 t, hne with
      | q :: qs, _ =>
        rw [hsp] at h
        rcases List.mem_cons.1 h with rfl | h
        · intro c hc
          rcases List.mem_cons.1 hc with rfl | hc
          · rintro rfl; exact hb rfl
          · exact splitB_noSl t q (by rw [hsp]; simp) c hc
        · exact splitB_noSl t s (by rw [hsp]; exact List.mem_cons_of_mem _ h)
theorem splitB_sl (t : Bts) : splitB 47 (47 :: t) = [] :: splitB 47 t := by
  conv => lhs; unfold splitB
  rw [if_pos (by rfl)]
theorem splitB_cons {b : UInt8} (hb : b ≠ 47) (t : Bts) {q : Bts} {qs : List Bts} (h : splitB 47 t = q :: qs) : splitB 47 (b :: t) = (b :: q) :: qs := by
  conv => lhs; unfold splitB
  rw [if_neg (fun e => hb (by have : b.toNat = 47 := by omega
                              exact UInt8.toNat_inj.1 this)), h]
/-- A name, and what is behind it. -/
theorem splitB_name : ∀ {s : Bts} (_ : noSl s) (r : Bts), splitB 47 (s ++ 47 :: r) = s :: splitB 47 r ∧ splitB 47 s = [s]
  | [], _, r => ⟨splitB_sl r, rfl⟩
  | b :: s, h, r => by
    obtain ⟨h1, h2⟩ := splitB_name (s := s) (fun c hc => h c (List.mem_cons_of_mem _ hc)) r
    have hb := h b (List.mem_cons_self ..)
    exact ⟨splitB_cons hb _ h1, splitB_cons hb _ h2⟩
theorem splitB_app (a b : Bts) : splitB 47 (a ++ 47 :: b) = splitB 47 a ++ splitB 47 b := by
  induction a with
  | nil => exact splitB_sl b
  | cons c a ih =>
    by_cases hc : c = 47
    · subst hc
      show splitB 47 (47 :: (a ++ 47 :: b)) = _
      rw [splitB_sl, splitB_sl, ih]; rfl
    · have hne := splitB_ne 47 a
      match h : splitB 47 a, hne with
      | q :: qs, _ =>
        rw [h] at ih
        rw [splitB_cons hc a h]
        exact splitB_cons hc _ ih
/-- Slashes ahead lead nowhere else. -/
def trimSl : Bts → Bts
  | [] => []
  | b :: t => if b = 47 then trimSl t else b :: t
theorem trimSl_drop : ∀ t : Bts, ∃ k, k ≤ t.length ∧ trimSl t = t.drop k
  | [] => ⟨0, Nat.le_refl _, rfl⟩
  | b :: t => by
    unfold trimSl
    split
    · obtain ⟨k, hk, e⟩ := trimSl_drop t
      exact ⟨k + 1, by simpa using hk, by rw [e]; rfl⟩
    · exact ⟨0, Nat.zero_le _, rfl⟩
theorem goL_trim (all : List Nd) (n : Nat) (rest : List Bts) (h : Bts) (k : Int) : ∀ t : Bts, goL all n (splitB 47 t ++ rest) h k = goL all n (splitB 47 (trimSl t) ++ rest) h k
  | [] => rfl
  | b :: t => by
    unfold trimSl
    split
    · rename_i hb
      subst hb
      rw [splitB_sl]
      show goL all n ([] :: (splitB 47 t ++ rest)) h k = _
      rw [goL_skip _ _ _ _ _ _ (.inl rfl)]
      exact goL_trim all n rest h k t
    · rfl
/-- Where names end. -/
def endsOf : List Bts → Nat → List Nat
  | [], _ => []
  | s :: l, a => if okPart s = true then (a + s.length) :: endsOf l (a + s.length + 1) else []
theorem endsOf_ge : ∀ (l : List Bts) (a : Nat), ∀ e ∈ endsOf l a, a ≤ e
  | [], _, e, h => by cases h
  | s :: l, a, e, h => by
    unfold endsOf at h
    split at h
    · rcases List.mem_cons.1 h with rfl | h
      · omega
      · have := endsOf_ge l _ e h; omega
    · cases h
theorem endsOf_len : ∀ (l : List Bts) (a : Nat), (endsOf l a).length ≤ l.length
  | [], _ => Nat.le_refl _
  | s :: l, a => by
    unfold endsOf
    split
    · have := endsOf_len l (a + s.length + 1); simp; omega
    · simp
/-- A text begins with its first part. -/
theorem split_head : ∀ (t s : Bts) (qs : List Bts), splitB 47 t = s :: qs → (t = s ∧ qs = []) ∨ ∃ r, t = s ++ 47 :: r ∧ qs = splitB 47 r
  | [], s, qs, h => by
    have h2 : [([] : Bts)] = s :: qs := h
    injection h2 with h3 h4
    exact .inl ⟨h3, h4.symm⟩
  | b :: t, s, qs, h => by
    by_cases hb : b = 47
    · subst hb
      rw [splitB_sl] at h
      injection h with h1 h2
      subst h1
      exact .inr ⟨t, rfl, h2.symm⟩
    · have hne := splitB_ne 47 t
      match hq : splitB 47 t, hne with
      | q :: qs', _ =>
        rw [splitB_cons hb t hq] at h
        injection h with h1 h2
        subst h1; subst h2
        rcases split_head t q qs' hq with ⟨h3, h4⟩ | ⟨r, h3, h4⟩
        · exact .inl ⟨by rw [h3], h4⟩
        · exact .inr ⟨r, by rw [h3]; rfl, h4⟩
/-- The names up to an end, and what is behind them. -/
theorem ends_at : ∀ (N : Nat) (t : Bts), t.length ≤ N → ∀ (a j : Nat), j < (endsOf (splitB 47 t) a).length → ∃ (l : List Bts) (e : Nat), (endsOf (splitB 47 t) a)[j]? = some (a + e) ∧ e ≤ t.length ∧ l ≠ [] ∧ (∀ s ∈ l, okPart s = true ∧ noSl s) ∧
    (t.drop e = [] ∨ ∃ u, t.drop e = 47 :: u) ∧ (∀ h : Bts, l.foldl joinL h = joinL h (t.take e)) ∧ (∀ v : Bts, (v = [] ∨ ∃ u, v = 47 :: u) → ∃ ps, splitB 47 (t.take e ++ v) = l ++ ps ∧ (splitB 47 v = [] :: ps)) ∧ l = (splitB 47 t).take (j + 1)
  | N, t, hN, a, j, hj => by
    have hne := splitB_ne 47 t
    match hsp : splitB 47 t, hne with
    | s :: qs, _ =>
      rw [hsp] at hj
      have hns : noSl s := splitB_noSl t s (by rw [hsp]; simp)
      unfold endsOf at hj ⊢
      by_cases hok : okPart s = true
      · rw [if_pos hok] at hj ⊢
        -- t is s, or s / r
        have hcase := split_head t s qs hsp
        match j with
        | 0 =>
          refine ⟨[s], s.length, rfl, ?_, by simp, fun x hx => ?_, ?_, fun h => ?_, fun v hv => ?_, rfl⟩
          · rcases hcase with ⟨rfl, -⟩ | ⟨r, rfl, -⟩
            · exact Nat.le_refl _
            · simp
          · have : x = s := by simpa using hx
            subst this; exact ⟨hok, hns⟩
          · rcases hcase with ⟨rfl, -⟩ | ⟨r, rfl, -⟩
            · left; simp
            · right; exact ⟨r, by rw [List.drop_left']; rfl⟩
          · have : t.take s.length = s := by
              rcases hcase with ⟨rfl, -⟩ | ⟨r, rfl, -⟩
              · simp
              · rw [List.take_left']; rfl
            rw [this]; rfl
          · have : t.take s.length = s := by
              rcases hcase with ⟨rfl, -⟩ | ⟨r, rfl, -⟩
              · simp
              · rw [List.take_left']; rfl
            rw [this]
            rcases hv with rfl | ⟨u, rfl⟩
            · exact ⟨[], by rw [List.append_nil]; exact (splitB_name hns []).2, rfl⟩
            · exact ⟨splitB 47 u, (splitB_name hns u).1, splitB_sl u⟩
        | j + 1 =>
          rcases hcase with ⟨rfl, rfl⟩ | ⟨r, rfl, rfl⟩
          · simp [endsOf] at hj
          · obtain ⟨l, e, h1, h2, h3, h4, h5, h6, h7, h8l⟩ := ends_at (N - 1) r (by simp at hN; omega) (a + s.length + 1) j (by simpa using hj)
            have htk : (s ++ 47 :: r).take (s.length + 1 + e) = s ++ 47 :: r.take e := by
              rw [List.take_append, List.take_of_length_le (by omega), show s.length + 1 + e - s.length = e + 1 by omega]; rfl
            refine ⟨s :: l, s.length + 1 + e, ?_, by simp; omega, by simp, fun x hx => ?_, ?_, fun h => ?_, fun v hv => ?_, by rw [h8l]; rfl⟩
            · rw [List.getElem?_cons_succ, h1]; congr 1; omega
            · rcases List.mem_cons.1 hx with rfl | hx
              · exact ⟨hok, hns⟩
              · exact h4 x hx
            · have : (s ++ 47 :: r).drop (s.length + 1 + e) = r.drop e := by
                rw [List.drop_append, List.drop_of_length_le (by omega), show s.length + 1 + e - s.length = e + 1 by omega]; rfl
              rw [this]; exact h5
            · rw [List.foldl_cons, h6, htk]
              have hj1 : joinL h s ≠ [47] := joinL_ne (okPart_ne hok)
              rw [show joinL (joinL h s) (r.take e) = joinL h s ++ 47 :: r.take e from if_neg hj1]
              unfold joinL
              split <;> simp
            · rw [htk]
              obtain ⟨ps, h8, h9⟩ := h7 v hv
              refine ⟨ps, ?_, h9⟩
              show splitB 47 ((s ++ 47 :: r.take e) ++ v) = _
              rw [List.append_assoc, List.cons_append, (splitB_name hns _).1, h8]; rfl
      · rw [if_neg hok] at hj; cases hj
/-- A name of more than 255 bytes is nowhere. -/
theorem TreeOf.long {all : List Nd} (ht : TreeOf all) {h s : Bts} (hs : noSl s) (hl : 255 < s.length) : lookN all (joinL h s) = none := by
  cases hlk : lookN all (joinL h s) with
  | none => rfl
  | some n =>
    exfalso
    obtain ⟨h1, h2⟩ := lookN_some hlk
    have hf := ht.fits n h1
    unfold fitN at hf
    simp only [Bool.and_eq_true] at hf
    have h3 := hf.1.2
    rw [h2, List.all_eq_true] at h3
    have hm : s ∈ splitB 47 (joinL h s) := by
      unfold joinL
      split
      · rw [splitB_sl, (splitB_name hs []).2]; simp
      · rw [splitB_app, (splitB_name hs []).2]; simp
    have := h3 s hm
    simp at this; omega
theorem TreeOf.short {all : List Nd} (ht : TreeOf all) {n : Nd} (hn : n ∈ all) : n.p.length ≤ 1024 := by
  have hf := ht.fits n hn
  unfold fitN at hf
  simp only [Bool.and_eq_true, decide_eq_true_eq] at hf
  exact hf.1.1.1.1
theorem TreeOf.kind {all : List Nd} (ht : TreeOf all) {n : Nd} (hn : n ∈ all) : n.k = 1 ∨ n.k = 2 ∨ n.k = 3 := by
  have hf := ht.fits n hn
  unfold fitN at hf
  simp only [Bool.and_eq_true] at hf
  have := hf.2
  unfold kindOk at this
  split at this
  · exact .inl ‹_›
  · split at this
    · exact .inr (.inl ‹_›)
    · split at this
      · exact .inr (.inr ‹_›)
      · cases this
theorem TreeOf.link {all : List Nd} (ht : TreeOf all) {n : Nd} (hn : n ∈ all) (hk : n.k = 3) : n.d ≠ [] ∧ n.d.length ≤ 1024 := by
  have hf := ht.fits n hn
  unfold fitN at hf
  simp only [Bool.and_eq_true] at hf
  have := hf.2
  unfold kindOk at this
  rw [hk, if_neg (by decide), if_neg (by decide), if_pos rfl] at this
  simp only [Bool.and_eq_true, Bool.not_eq_true', decide_eq_true_eq, beq_eq_false_iff_ne] at this
  exact ⟨this.1.1.2, this.1.2⟩
/-- The leap: names of a text, up to one of its ends, whose path is there and no link. -/
theorem goL_leap {all : List Nd} (ht : TreeOf all) (n : Nat) (rest : List Bts) (h t t0 : Bts) (hh : h ≠ []) (j e : Nat) (nd : Nd) (m : Nat) (h0 : t0 = t.take m)
    (hE : (endsOf (splitB 47 t0) (joinL h []).length)[j]? = some ((joinL h []).length + e)) (hnd : lookN all (joinL h (t0.take e)) = some nd) (hk : nd.k ≠ 3) (hcut : e < t0.length ∨ t0 = t) :
    goL all n (splitB 47 t ++ rest) h 2 = goL all n (splitB 47 (t.drop e) ++ rest) nd.p nd.k := by
  have hj := (List.getElem?_eq_some_iff.1 hE).1
  obtain ⟨l, e', h1, h2, h3, h4, h5, h6, h7, -⟩ := ends_at t0.length t0 (Nat.le_refl _) _ j hj
  rw [hE] at h1
  have : e' = e := by injection h1 with h1; omega
  subst this
  have h8 : t.take e' = t0.take e' := by
    rcases hcut with hc | hc
    · rw [h0, List.take_take]
      congr 1
      rw [h0, List.length_take] at hc; omega
    · rw [hc]
  have h9 : t.drop e' = [] ∨ ∃ u, t.drop e' = 47 :: u := by
    rcases hcut with hc | hc
    · rcases h5 with h5 | ⟨u, h5⟩
      · have := congrArg List.length h5; simp at this; omega
      · right
        rw [h0, List.drop_take] at h5
        cases ht' : t.drop e' with
        | nil => rw [ht'] at h5; simp at h5
        | cons b v =>
          rw [ht'] at h5
          cases hm : m - e' with
          | zero => rw [hm] at h5; cases h5
          | succ q => rw [hm, List.take_succ_cons] at h5; injection h5 with h5 _; exact ⟨v, by rw [h5]⟩
    · rw [← hc]; exact h5
  obtain ⟨ps, h10, h11⟩ := h7 _ h9
  rw [← h8, List.take_append_drop] at h10
  have h12 := h6 h
  rw [← h12] at hnd
  rw [h10, List.append_assoc, goL_names ht n _ nd hk l h h3 hh h4 hnd, h11]
  show _ = goL all n ([] :: (ps ++ rest)) nd.p nd.k
  rw [goL_skip _ _ _ _ _ _ (.inl rfl), (lookN_some hnd).2]
theorem joinL_app (h t : Bts) : joinL h t = joinL h [] ++ t := by
  unfold joinL; split <;> simp
theorem joinL_take (h t : Bts) (e : Nat) : (joinL h t).take ((joinL h []).length + e) = joinL h (t.take e) := by
  rw [joinL_app h t, joinL_app h (t.take e), List.take_append, List.take_of_length_le (by omega), show (joinL h []).length + e - (joinL h []).length = e by omega]
theorem joinL_len (h t : Bts) : (joinL h t).length = (joinL h []).length + t.length := by rw [joinL_app, List.length_append]
theorem joinL_nil_len (h : Bts) : h.length ≤ (joinL h []).length ∧ (joinL h []).length ≤ h.length + 1 := by
  unfold joinL
  split
  · rename_i e; subst e; simp
  · simp
theorem ends_get {t : Bts} {a j : Nat} (hj : j < (endsOf (splitB 47 t) a).length) : ∃ e, (endsOf (splitB 47 t) a)[j]? = some (a + e) ∧ e ≤ t.length := by
  obtain ⟨l, e, h1, h2, -⟩ := ends_at t.length t (Nat.le_refl _) a j hj
  exact ⟨e, h1, h2⟩
/-- What is there, is there part by part. -/
theorem ends_down {all : List Nd} (ht : TreeOf all) (t h : Bts) (hh : h ≠ []) (a j e e' : Nat) (h1 : (endsOf (splitB 47 t) a)[j]? = some (a + e)) (h2 : (endsOf (splitB 47 t) a)[j + 1]? = some (a + e')) (h3 : (lookN all (joinL h (t.take e'))).isSome = true) :
    ∃ nd, lookN all (joinL h (t.take e)) = some nd ∧ nd.k = 2 := by
  have hj := (List.getElem?_eq_some_iff.1 h2).1
  obtain ⟨l, q, a1, a2, a3, a4, a5, a6, -, a8⟩ := ends_at t.length t (Nat.le_refl _) a j (by omega)
  obtain ⟨l', q', b1, b2, b3, b4, b5, b6, -, b8⟩ := ends_at t.length t (Nat.le_refl _) a (j + 1) hj
  rw [h1] at a1
  rw [h2] at b1
  have e1 : q = e := by injection a1 with a1; omega
  have e2 : q' = e' := by injection b1 with b1; omega
  subst e1; subst e2
  have hlen : j + 1 < (splitB 47 t).length := Nat.lt_of_lt_of_le hj (endsOf_len _ _)
  have hl : l' = l ++ [(splitB 47 t)[j + 1]] := by
    rw [b8, a8, List.take_add_one, List.getElem?_eq_getElem hlen]; rfl
  have hz := b4 ((splitB 47 t)[j + 1]) (by rw [hl]; simp)
  obtain ⟨nd, hnd⟩ := Option.isSome_iff_exists.1 h3
  obtain ⟨c1, c2⟩ := lookN_some hnd
  rw [← b6, hl, List.foldl_append, List.foldl_cons, List.foldl_nil, a6] at c2
  have hup := ht.up c1 (by rw [c2]; exact joinL_ne (okPart_ne hz.1))
  rw [c2, partF_join joinL_ne_nil hz.2] at hup
  exact hup
/-- All parts of texts, of which the last one comes first. -/
def flatT (tx : List Bts) : List Bts := tx.reverse.flatMap (splitB 47)
def weighT (tx : List Bts) : Nat := (tx.map fun s => s.length + 1).sum
theorem flatT_snoc (tx : List Bts) (s : Bts) : flatT (tx ++ [s]) = splitB 47 s ++ flatT tx := by
  unfold flatT; simp
theorem weighT_snoc (tx : List Bts) (s : Bts) : weighT (tx ++ [s]) = weighT tx + (s.length + 1) := by
  unfold weighT; simp
theorem split_last {tx : List Bts} (h : tx ≠ []) : tx = tx.dropLast ++ [tx.getLastD []] := by
  have := List.dropLast_concat_getLast h
  rw [List.getLastD_eq_getLast?, List.getLast?_eq_some_getLast h]
  exact this.symm
/-- What a leap leaves. -/
def LeapTo (all : List Nd) (tx tx' : List Bts) (h h' : Bts) (k' : Int) : Prop :=
  (∀ n, goL all n (flatT tx) h 2 = goL all n (flatT tx') h' k') ∧ weighT tx' ≤ weighT tx ∧ tx'.length = tx.length ∧ (∀ s ∈ tx', s.length ≤ 1000000) ∧ (h' = h ∧ k' = 2 ∨ ∃ nd, lookN all h' = some nd ∧ nd.p = h' ∧ nd.k = k' ∧ k' ≠ 3)
theorem LeapTo.refl (all : List Nd) (tx : List Bts) (h : Bts) (hb : ∀ s ∈ tx, s.length ≤ 1000000) : LeapTo all tx tx h h 2 := ⟨fun _ => rfl, Nat.le_refl _, rfl, hb, .inl ⟨rfl, rfl⟩⟩
theorem LeapTo.to {all : List Nd} (ht : TreeOf all) {tx : List Bts} {h : Bts} (hh : h ≠ []) (htx : tx ≠ []) (hb : ∀ s ∈ tx, s.length ≤ 1000000) {m j e : Nat} {nd : Nd}
    (hE : (endsOf (splitB 47 ((trimSl (tx.getLastD [])).take m)) (joinL h []).length)[j]? = some ((joinL h []).length + e)) (hnd : lookN all (joinL h (((trimSl (tx.getLastD [])).take m).take e)) = some nd) (hk : nd.k ≠ 3)
    (hm : (trimSl (tx.getLastD [])).length ≤ m ∨ (joinL h []).length + m = 1025 ∧ m < (trimSl (tx.getLastD [])).length) : LeapTo all tx (tx.dropLast ++ [(trimSl (tx.getLastD [])).drop e]) h nd.p nd.k := by
  have hs := split_last htx
  have hmem : tx.getLastD [] ∈ tx := by
    have h0 : tx.getLastD [] ∈ tx.dropLast ++ [tx.getLastD []] := by simp
    rwa [← hs] at h0
  have hlt : (tx.getLastD []).length ≤ 1000000 := hb _ hmem
  obtain ⟨q, hq, htr⟩ := trimSl_drop (tx.getLastD [])
  have hlen : ((trimSl (tx.getLastD [])).drop e).length ≤ (tx.getLastD []).length := by rw [List.length_drop, htr, List.length_drop]; omega
  obtain ⟨hn1, hn2⟩ := lookN_some hnd
  refine ⟨fun n => ?_, ?_, ?_, fun s hs' => ?_, .inr ⟨nd, ?_, rfl, rfl, hk⟩⟩
  · conv => lhs; rw [hs]
    rw [flatT_snoc, flatT_snoc, goL_trim]
    refine goL_leap ht n _ h _ _ hh j e nd m rfl hE hnd hk ?_
    rcases hm with hm | ⟨hm1, hm2⟩
    · right; exact List.take_of_length_le hm
    · left
      have h1 := ht.short hn1
      obtain ⟨e', h2, h3⟩ := ends_get (List.getElem?_eq_some_iff.1 hE).1
      rw [hE] at h2
      have : e' = e := by injection h2 with h2; omega
      subst this
      rw [hn2, joinL_len] at h1
      simp only [List.length_take] at h1 h3 ⊢
      omega
  · have h0 := weighT_snoc tx.dropLast (tx.getLastD [])
    rw [← hs] at h0
    rw [weighT_snoc, h0]; omega
  · conv => rhs; rw [hs]
    rw [List.length_append, List.length_append]; rfl
  · rcases List.mem_append.1 hs' with h1 | h1
    · exact hb s (List.dropLast_subset _ h1)
    · have : s = (trimSl (tx.getLastD [])).drop e := by simpa using h1
      rw [this]; omega
  · rw [hn2]; exact hnd
end Go.Proofs.YtedfgikikjggaaaDoor
