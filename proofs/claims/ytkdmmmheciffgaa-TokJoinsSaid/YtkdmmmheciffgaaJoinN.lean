/- Two texts with a blank between: the plain mathematics of TokJoins, the end. -/
import Derived.Test.YtkdmmmheciffgaaJoinM
import Derived.Test.YtkdmmmheciffgaaTokY
set_option linter.unusedVariables false
set_option linter.unusedSimpArgs false
namespace Go.Proofs.Ytkdmmmheciffgaa

theorem byt_app_l {a b : List UInt8} {i : Nat} (h : i < a.length) : byt (a ++ b) i = byt a i := by
  unfold byt; rw [List.getD_eq_getElem?_getD, List.getD_eq_getElem?_getD, List.getElem?_append_left h]
theorem byt_app_r (a b : List UInt8) (i : Nat) : byt (a ++ b) (a.length + i) = byt b i := by
  unfold byt; rw [List.getD_eq_getElem?_getD, List.getD_eq_getElem?_getD, List.getElem?_append_right (by omega), Nat.add_sub_cancel_left]
theorem ends_app (p b : List UInt8) : Ends p.length b (p ++ b) := ⟨by simp, fun i => by rw [List.drop_append]; simp⟩
theorem sub_drop (b : List UInt8) (f t : Nat) : sub8 b f t = (b.drop f).take (t - f) := by unfold sub8; rw [List.drop_take]
theorem agree_end {n : Nat} {a c : List UInt8} (h : Ends n a c) : Agree n a c := by
  have hb : ∀ i, byt c (n + i) = byt a i := fun i => by
    have h1 := byt_drop c (n + i) 0
    have h2 := byt_drop a i 0
    rw [h.drop i] at h1
    rw [Nat.add_zero] at h1 h2
    rw [← h1, h2]
  refine ⟨fun i _ => hb i, ?_, by rw [h.len]; exact Nat.le_refl _, fun i _ _ => by rw [h.drop], fun f t _ => ?_⟩
  · rw [hb, byt_over (Nat.le_refl _)]; exact .inl rfl
  · rw [sub_drop, sub_drop, h.drop, show n + t - (n + f) = t - f by omega]
theorem next_app {l : List UInt8} (m : List UInt8) (h : (nextL l).2.2 = true) : nextL (l ++ m) = nextL l := by
  obtain ⟨⟨r, k, ok⟩, hn⟩ : ∃ R, nextL l = R := ⟨_, rfl⟩
  rw [hn] at h
  have h : ok = true := h
  subst h
  obtain ⟨h1, h2, h3⟩ := next_valid hn
  have hl : l = encR r ++ l.drop k := by rw [h2, List.take_append_drop]
  have hk : (encR r).length = k := by rw [h2]; simp; omega
  rw [hn]
  conv => lhs; rw [hl, List.append_assoc, next_enc r h1]
  rw [hk]
theorem agree_pre (a b : List UInt8) (g : UInt8) (hg : blkC (g.toNat : Int) = true) : Agree 0 a (a ++ g :: b) := by
  refine ⟨fun i hi => by rw [Nat.zero_add]; exact byt_app_l hi, ?_, by simp, fun i hi hok => ?_, fun f t ht => ?_⟩
  · rw [Nat.zero_add]
    have := byt_app_r a (g :: b) 0
    rw [Nat.add_zero] at this
    rw [this]
    have hg2 := of_decide_eq_true hg
    exact .inr hg2
  · rw [Nat.zero_add, List.drop_append_of_le_length (by omega)]
    exact next_app _ hok
  · rw [Nat.zero_add, Nat.zero_add]
    unfold sub8
    rw [List.take_append_of_le_length ht]
theorem skip_end {n : Nat} {a c : List UInt8} (h : Ends n a c) : ∀ (m i : Nat), a.length - i = m → i ≤ a.length → skipE c (n + i) = n + skipE a i := by
  have hag := agree_end h
  intro m
  induction m with
  | zero =>
    intro i hm hi
    rw [skipE_end (b := a) (by omega), skipE_end (b := c) (by have := h.len; omega)]
  | succ m ih =>
    intro i hm hi
    have e := hag.eq i (by omega)
    have hl := h.len
    by_cases h1 : blkC (byt a i) = true
    · rw [skipE_on (b := a) (by omega) h1, skipE_on (b := c) (by omega) (by rw [e]; exact h1), Nat.add_assoc]
      exact ih (i + 1) (by omega) (by omega)
    · have h1 : blkC (byt a i) = false := by simpa using h1
      rw [skipE_off h1, skipE_off (by rw [e]; exact h1)]
theorem skip_pre (a b : List UInt8) (g : UInt8) (hg : blkC (g.toNat : Int) = true) : ∀ (m i : Nat), a.length - i = m → i ≤ a.length → skipE (a ++ g :: b) i = if skipE a i = a.length then skipE (a ++ g :: b) (a.length + 1) else skipE a i := by
  intro m
  induction m with
  | zero =>
    intro i hm hi
    obtain rfl : i = a.length := by omega
    rw [skipE_end (b := a) (Nat.le_refl _), if_pos rfl]
    have := byt_app_r a (g :: b) 0
    rw [Nat.add_zero] at this
    rw [skipE_on (by simp) (by rw [this]; exact hg)]
  | succ m ih =>
    intro i hm hi
    have e : byt (a ++ g :: b) i = byt a i := byt_app_l (by omega)
    by_cases h1 : blkC (byt a i) = true
    · rw [skipE_on (b := a) (by omega) h1, skipE_on (b := a ++ g :: b) (by simp; omega) (by rw [e]; exact h1)]
      exact ih (i + 1) (by omega) (by omega)
    · have h1 : blkC (byt a i) = false := by simpa using h1
      rw [skipE_off h1, skipE_off (by rw [e]; exact h1), if_neg (by omega)]
theorem all_pre (a b : List UInt8) (g : UInt8) (hg : blkC (g.toNat : Int) = true) : ∀ (m i : Nat) (acc : List Tk), a.length - i = m → i ≤ a.length → (allM a i acc).2.2 = true →
    allM (a ++ g :: b) (if i = a.length then skipE (a ++ g :: b) (a.length + 1) else i) acc = allM (a ++ g :: b) (skipE (a ++ g :: b) (a.length + 1)) (allM a i acc).1 := by
  intro m
  induction m using Nat.strongRecOn with
  | _ m ih =>
    intro i acc hm hi hok
    rcases Nat.lt_or_ge i a.length with hlt | hge
    · rw [if_neg (by omega)]
      have s1 := allM_step (b := a) (i := i) (acc := acc) hlt
      have s2 := allM_step (b := a ++ g :: b) (i := i) (acc := acc) (by simp; omega)
      obtain ⟨q1, q2⟩ := tokM_bd hlt
      by_cases c1 : (tokM a i).2.2 = true
      · have ht := tok_ag (agree_pre a b g hg) hlt (.inl c1)
        rw [Nat.zero_add, c1] at ht
        have ht : tokM (a ++ g :: b) i = ((tokM a i).1, (tokM a i).2.1, true) := by
          rw [ht]; simp [shT]
        rw [if_pos c1] at s1
        rw [ht, if_pos rfl] at s2
        rw [s1] at hok ⊢
        rw [s2]
        have hsb := skipE_bd a (tokM a i).2.1 q1
        have := q2 c1
        show allM (a ++ g :: b) (skipE (a ++ g :: b) (tokM a i).2.1) (acc ++ [(tokM a i).1]) = _
        rw [skip_pre a b g hg _ _ rfl q1]
        exact ih (a.length - skipE a (tokM a i).2.1) (by omega) _ _ rfl hsb.2 hok
      · rw [if_neg c1] at s1
        rw [s1] at hok
        cases hok
    · obtain rfl : i = a.length := by omega
      rw [if_pos rfl, allM_end (b := a) rfl]
theorem all_end {n : Nat} {a c : List UInt8} (h : Ends n a c) (X : List Tk) : ∀ (m i : Nat) (acc : List Tk), a.length - i = m → i ≤ a.length →
    allM c (n + i) (X ++ acc.map (shT n)) = (X ++ (allM a i acc).1.map (shT n), n + (allM a i acc).2.1, (allM a i acc).2.2) := by
  have hag := agree_end h
  intro m
  induction m using Nat.strongRecOn with
  | _ m ih =>
    intro i acc hm hi
    have hl := h.len
    rcases Nat.lt_or_ge i a.length with hlt | hge
    · obtain ⟨q1, q2⟩ := tokM_bd hlt
      rw [allM_step (b := c) (by omega), allM_step (b := a) hlt, tok_ag hag hlt (.inr h)]
      by_cases c1 : (tokM a i).2.2 = true
      · have hsb := skipE_bd a (tokM a i).2.1 q1
        have := q2 c1
        rw [if_pos c1, if_pos c1]
        show allM c (skipE c (n + (tokM a i).2.1)) (X ++ acc.map (shT n) ++ [shT n (tokM a i).1]) = _
        rw [skip_end h _ _ rfl q1, List.append_assoc, ← List.map_singleton, ← List.map_append]
        exact ih (a.length - skipE a (tokM a i).2.1) (by omega) _ _ rfl hsb.2
      · rw [if_neg c1, if_neg c1]
    · obtain rfl : i = a.length := by omega
      rw [allM_end (b := a) rfl, allM_end (b := c) (by omega)]
theorem fault_end {n : Nat} {a c : List UInt8} (h : Ends n a c) (p : Nat) : faultN c (n + p) = faultN a p := by
  unfold faultN
  rw [h.drop, h.len]
  simp only [Nat.add_lt_add_iff_left]
theorem toks_ok {b : List UInt8} : (toksM b).2.2 = 0 ↔ (allM b (skipE b 0) []).2.2 = true := by
  unfold toksM
  split
  · rename_i h; exact ⟨fun _ => h, fun _ => rfl⟩
  · rename_i h; exact ⟨fun h2 => absurd h2 (faultN_ne _ _), fun h2 => absurd h2 h⟩
theorem toks_none {b : List UInt8} (h : (toksM b).2.2 ≠ 0) : (toksM b).1 = [] := by
  have h2 : ¬ (allM b (skipE b 0) []).2.2 = true := fun h3 => h (toks_ok.2 h3)
  unfold toksM
  rw [if_neg h2]
theorem toks_len (b : List UInt8) : (toksM b).1.length ≤ b.length := by
  unfold toksM
  split
  · exact allM_bd b |>.2
  · exact Nat.zero_le _
theorem toks_at (b : List UInt8) : (toksM b).2.1 ≤ b.length := by
  unfold toksM
  split
  · exact Nat.le_refl _
  · exact allM_bd b |>.1
theorem allF_pos (b : List UInt8) : ∀ (n i : Nat) (acc : List Tk), (∀ t ∈ acc, t.2.1 ≤ b.length) → ∀ t ∈ (allF b n i acc).1, t.2.1 ≤ b.length := by
  intro n
  induction n with
  | zero => intro i acc h; exact h
  | succ n ih =>
    intro i acc h
    unfold allF
    split
    · exact h
    · rename_i c1
      split
      · refine ih _ _ (fun t ht => ?_)
        rcases List.mem_append.1 ht with h1 | h1
        · exact h t h1
        · simp at h1; subst h1; rw [tokM_at]; omega
      · exact h
theorem toks_pos (b : List UInt8) (q : Nat) (h : q < (toksM b).1.length) : ((toksM b).1.getD q (0, 0, [])).2.1 ≤ b.length := by
  rw [List.getD_eq_getElem?_getD, List.getElem?_eq_getElem h]
  have hm := List.getElem_mem h
  have hall : ∀ t ∈ (toksM b).1, t.2.1 ≤ b.length := by
    unfold toksM
    split
    · exact allF_pos b _ _ _ (fun t ht => by cases ht)
    · intro t ht; cases ht
  exact hall _ hm
theorem toks_join (a b : List UInt8) (g : UInt8) (hg : blkC (g.toNat : Int) = true) (ha : (toksM a).2.2 = 0) :
    toksM (a ++ g :: b) = if (toksM b).2.2 = 0 then ((toksM a).1 ++ (toksM b).1.map (shT (a.length + 1)), a.length + 1 + b.length, 0) else ([], a.length + 1 + (toksM b).2.1, (toksM b).2.2) := by
  have ha2 := toks_ok.1 ha
  have hta : (toksM a).1 = (allM a (skipE a 0) []).1 := by unfold toksM; rw [if_pos ha2]
  have hE : Ends (a.length + 1) b (a ++ g :: b) := by
    have h := ends_app (a ++ [g]) b
    have e : a ++ g :: b = (a ++ [g]) ++ b := by simp
    rw [e]
    simpa using h
  have h1 : allM (a ++ g :: b) (skipE (a ++ g :: b) 0) [] = allM (a ++ g :: b) (skipE (a ++ g :: b) (a.length + 1)) (toksM a).1 := by
    rw [hta, skip_pre a b g hg _ 0 rfl (by omega)]
    exact all_pre a b g hg _ (skipE a 0) [] rfl (skipE_bd a 0 (by omega)).2 ha2
  have h2 := skip_end hE _ 0 rfl (by omega)
  rw [Nat.add_zero] at h2
  have h3 := all_end hE (toksM a).1 _ (skipE b 0) [] rfl (skipE_bd b 0 (by omega)).2
  rw [List.map_nil, List.append_nil] at h3
  rw [h2, h3] at h1
  have hl : (a ++ g :: b).length = a.length + 1 + b.length := by simp; omega
  by_cases c1 : (allM b (skipE b 0) []).2.2 = true
  · rw [if_pos (toks_ok.2 c1)]
    have htb : (toksM b).1 = (allM b (skipE b 0) []).1 := by unfold toksM; rw [if_pos c1]
    rw [htb]
    conv => lhs; unfold toksM
    rw [h1, c1, if_pos rfl, hl]
  · rw [if_neg (fun h => c1 (toks_ok.1 h))]
    have htb : toksM b = ([], (allM b (skipE b 0) []).2.1, faultN b (allM b (skipE b 0) []).2.1) := by unfold toksM; rw [if_neg c1]
    rw [htb]
    conv => lhs; unfold toksM
    rw [h1, if_neg c1]
    show ([], a.length + 1 + (allM b (skipE b 0) []).2.1, faultN (a ++ g :: b) (a.length + 1 + (allM b (skipE b 0) []).2.1)) = _
    rw [fault_end hE]
end Go.Proofs.Ytkdmmmheciffgaa
