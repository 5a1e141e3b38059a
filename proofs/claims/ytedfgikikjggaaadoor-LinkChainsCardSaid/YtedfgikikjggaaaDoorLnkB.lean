/- plainEnds and sort.Search: contracts. -/
import Derived.Test.YtedfgikikjggaaaDoorLnkA
set_option linter.unusedVariables false
set_option linter.unusedSimpArgs false
namespace Go.Proofs.YtedfgikikjggaaaDoor
open Go.RowKit

theorem okI : ElemOk Tryd.prog 86 3 (.int .i64 0) 8 := by
  obtain ⟨i, h1, h2, h3, h4⟩ := info_parts (P := Tryd.prog) (e := 3) (z := .int .i64 0) (size := 1) (bytes := 8) (by kernel_rfl)
  exact ⟨Tryd.underlying86, i, h1, h2, h3, h4, rfl⟩
def iV (e : Nat) : Value := .int .i64 (e : Int)
def iAt (es : List Nat) (i : Nat) : Value := .int .i64 ((es.getD i 0 : Nat) : Int)
def IsI (w : World) (v : Value) (es : List Nat) : Prop := IsSl w v es.length (iAt es)
theorem IsI.below {w w' : World} {v : Value} {es : List Nat} (h : IsI w v es) (hw : Below w.heap.size w w') : IsI w' v es := IsSl.below h hw
theorem Own.isI {w : World} {B : Nat} {v : Value} {es : List Nat} {e : TypeId} (h : Own w B e v (es.map iV)) : IsI w v es := by
  have := h.isSl (f := iAt es) (by intro i hi; simp at hi; simp [iAt, iV, hi, List.getD])
  exact (by simpa using this : IsSl w v es.length (iAt es))
theorem idx47_any (p : Bts) (w : World) : Calls Tryd.prog 38 #[.string ⟨p.toArray⟩, .int .u8 47] w fun e w' => e = .returned (.int .i64 (Lib.indexByte p 47)) ∧ w = w' :=
  (Tryd.strings_IndexByte ⟨p.toArray⟩ 47 w).mono fun _ _ ⟨h1, h2⟩ => ⟨h1, h2.symm⟩
theorem count_any (p : Bts) (w : World) : Calls Tryd.prog 72 #[.string ⟨p.toArray⟩, .string ⟨#[47]⟩] w fun e w' => e = .returned (.int .i64 (Lib.countByte p 47)) ∧ w = w' :=
  (Tryd.strings_Count_one ⟨p.toArray⟩ 47 w).mono fun _ _ ⟨h1, h2⟩ => ⟨h1, h2.symm⟩
theorem count_le (p : Bts) : Lib.countByte p 47 ≤ p.length := List.count_le_length
/-- One part more: where it ends, and what is left then. -/
theorem part_at (p : Bts) (k : Nat) (hk : k < p.length) : ∃ (n : Nat) (s : Bts), k + n ≤ p.length ∧ (p.take (k + n)).drop k = s ∧ s.length = n ∧ (Lib.indexByte (p.drop k) 47 = (n : Int) ∧ k + n < p.length ∧ splitB 47 (p.drop k) = s :: splitB 47 (p.drop (k + n + 1)) ∨ Lib.indexByte (p.drop k) 47 = -1 ∧ k + n = p.length ∧ splitB 47 (p.drop k) = [s]) := by
  obtain ⟨h1, h2⟩ := indexByte_lt (p.drop k) 47
  rw [List.length_drop] at h2
  have hc := cutO_iff (p.drop k) 47
  by_cases h0 : 0 ≤ Lib.indexByte (p.drop k) 47
  · obtain ⟨n, hn⟩ := Int.eq_ofNat_of_zero_le h0
    rw [hn] at h2
    have h3 := (hc.1 (decide_eq_true h0)).1
    unfold cutA cutB at h3
    rw [if_pos h0, if_pos h0, hn] at h3
    refine ⟨n, (p.take (k + n)).drop k, by omega, rfl, by simp; omega, .inl ⟨hn, by omega, ?_⟩⟩
    have e1 : (p.take (k + n)).drop k = (p.drop k).take n := by rw [List.drop_take]; congr 1; omega
    rw [e1, show p.drop (k + n + 1) = (p.drop k).drop (n + 1) by rw [List.drop_drop]; congr 1]
    have e2 : ((n : Int)).toNat = n := by omega
    rw [e2] at h3
    exact h3
  · have h3 := (hc.2 (decide_eq_false h0)).1
    refine ⟨p.length - k, p.drop k, by omega, ?_, by simp, .inr ⟨by omega, by omega, h3⟩⟩
    rw [show k + (p.length - k) = p.length by omega, List.take_length]
theorem endsOf_ok {s : Bts} (h : okPart s = true) (l : List Bts) (a : Nat) : endsOf (s :: l) a = (a + s.length) :: endsOf l (a + s.length + 1) := if_pos h
theorem endsOf_no {s : Bts} (h : okPart s = false) (l : List Bts) (a : Nat) : endsOf (s :: l) a = [] := if_neg (by rw [h]; decide)
theorem endsOf_nil (a : Nat) : endsOf [] a = [] := rfl
set_option maxRecDepth 100000 in
set_option maxHeartbeats 4000000 in
theorem plainEnds_any (p : Bts) (a : Nat) (w : World) (hm : p.length ≤ 1000000) (ha : a ≤ p.length) :
    Calls Tryd.prog 47 #[.string ⟨p.toArray⟩, .int .i64 (a : Int)] w fun e w' => ∃ v, e = .returned v ∧ Own w' w.heap.size 3 v ((endsOf (splitB 47 (p.drop a)) a).map iV) ∧ Below w.heap.size w w' := by
  have HI := Lib.hid (fun s w => idx47_any s w)
  have HC := Lib.hid (count_any (p.drop a))
  have hcl : Lib.countByte (p.drop a) 47 ≤ 1000000 := Nat.le_trans (count_le _) (by rw [List.length_drop]; omega)
  generalize Lib.countByte (p.drop a) 47 = C at *
  have haI : (a : Int) ≤ (p.length : Int) := by omega
  obtain ⟨E, hE⟩ : ∃ E, endsOf (splitB 47 (p.drop a)) a = E := ⟨_, rfl⟩
  have HE := Lib.hid hE
  rw [hE]
  clear hE
  go_enter Tryd.func47, Tryd.ntmps47
  go_wp2_with fail
  refine (HC.out _).mono ?_
  rintro e w' ⟨rfl, rfl⟩
  go_wp2_with (at_make; refine wpList_make0 _ rfl _ _ 86 rfl w.heap.size 3 (.int .i64 0) 8 okI _ _ _ (C + 1) rfl rfl (by omega) (by omega) (by omega) (Nat.le_refl _) ?_)
  intro w1 hown1 hgr1
  have HB1 : Hid (Below w.heap.size w w1) := Lib.hid ((Below.refl _ _).grown hgr1 (Nat.le_refl _) (fun k hk => by cases hk))
  have HO1 := Lib.hid hown1
  clear hown1 hgr1 HC hcl
  go_wp2_with fail
  go_loopw [1, 5] (fun tk tv wr => ∃ (k : Nat) (es : List Nat) (ps : List Bts), tk = .int .i64 (k : Int) ∧ k ≤ p.length + 1 ∧ Hid (es ++ endsOf ps k = E) ∧ Hid (k ≤ p.length ∧ ps = splitB 47 (p.drop k) ∨ k = p.length + 1 ∧ ps = []) ∧ es.length ≤ k ∧ Hid (Own wr w.heap.size 3 tv (es.map iV)) ∧ Hid (Below w.heap.size w wr)) (fun tk _ _ => p.length + 1 - (intOf tk).toNat)
  case atStart => exact ⟨a, [], _, rfl, by omega, Lib.hid HE.out, Lib.hid (.inl ⟨ha, rfl⟩), Nat.zero_le _, HO1, HB1⟩
  case round =>
    obtain ⟨k, es, ps, rfl, hk, HEE, HP, hel, HO, HB⟩ := hrel
    by_cases hlt : k < p.length
    · have hltI : (k : Int) < (p.length : Int) := by omega
      have hkl : (k : Int) ≤ (p.length : Int) := by omega
      obtain ⟨n, s, h1, h2, h3, h4⟩ := part_at p k hlt
      have HPS : Hid (ps = splitB 47 (p.drop k)) := Lib.hid (by
        rcases HP.out with h | h
        · exact h.2
        · omega)
      have hsl : s.length ≤ 1000000 := by omega
      have h1I : (k : Int) + (n : Int) ≤ (p.length : Int) := by omega
      have hkn : (k : Int) ≤ (k : Int) + (n : Int) := by omega
      have gs : IntKind.i64.wrap ((k : Int) + (n : Int)) = (k : Int) + (n : Int) := IntWalk.i64_in _ (by omega)
      have gt : ((k : Int) + (n : Int)).toNat = k + n := by omega
      have HS := Lib.hid h2
      have h4' := h4
      -- what is left behind this part
      have HN : Hid (okPart s = true → ∃ ps', es ++ [k + n] ++ endsOf ps' (k + n + 1) = E ∧ (k + n + 1 ≤ p.length ∧ ps' = splitB 47 (p.drop (k + n + 1)) ∨ k + n + 1 = p.length + 1 ∧ ps' = [])) := Lib.hid (fun hok => by
        rcases h4' with ⟨-, h5, h6⟩ | ⟨-, h5, h6⟩
        · refine ⟨_, ?_, .inl ⟨by omega, rfl⟩⟩
          rw [← HEE.out, HPS.out, h6, endsOf_ok hok, h3]; simp [endsOf_nil]
        · refine ⟨[], ?_, .inr ⟨by omega, rfl⟩⟩
          rw [← HEE.out, HPS.out, h6]
          unfold endsOf
          rw [if_pos hok, h3]; simp [endsOf])
      have HZ : Hid (okPart s = false → es = E) := Lib.hid (fun hok => by
        rw [← HEE.out, HPS.out]
        rcases h4' with ⟨-, h5, h6⟩ | ⟨-, h5, h6⟩
        · rw [h6, endsOf_no hok, List.append_nil]
        · rw [h6]; unfold endsOf; rw [if_neg (by rw [hok]; decide), List.append_nil])
      clear h4' HEE HP HPS HE
      have hsz := HB.out.size
      have hc1 : ∀ u ∈ (#[Value.int .i64 ((k : Int) + (n : Int))] : Array Value).toList, u.oneCell' = true := by intro u hu; simp at hu; subst hu; rfl
      have hc2 : ((es.map iV).length + 1) * 8 ≤ 140737488355328 := by rw [List.length_map]; omega
      have hc3 : (es.map iV).length + 1 ≤ 9223372036854775807 := by rw [List.length_map]; omega
      have hkb : k ≤ 1000000 := by omega
      have hnb : n ≤ 1000000 := by omega
      rcases h4 with ⟨hx, -, -⟩ | ⟨hx, hxe, -⟩
      · have hx0 : ¬ Lib.indexByte (p.drop k) 47 < 0 := by omega
        have HIX : Hid (∀ w, Calls Tryd.prog 38 #[.string ⟨(p.drop k).toArray⟩, .int .u8 47] w fun e w' => e = .returned (.int .i64 (n : Int)) ∧ w = w') := Lib.hid (fun w => (HI.out (p.drop k) w).mono (fun _ _ h => ⟨h.1.trans (by rw [hx]), h.2⟩))
        clear hx hx0 HI
        rcases okPart_cases s with ⟨hok, hs⟩ | ⟨hok, e1, e2, e3⟩
        · have HR := Lib.hid (HZ.out hok)
          clear HZ HN hok
          rcases hs with rfl | rfl | rfl
          all_goals
            go_wp2_with fail
            refine (HIX.out _).mono ?_
            rintro e w2 ⟨rfl, rfl⟩
            go_wp2_with fail
            go_ret
            exact ⟨_, rfl, by rw [← HR.out]; exact HO.out, HB.out⟩
        · have HR := Lib.hid (HN.out hok)
          have b1 : (s == []) = false := by rw [beq_eq_false_iff_ne]; exact e1
          have b2 : (s == [46]) = false := by rw [beq_eq_false_iff_ne]; exact e2
          have b3 : (s == [46, 46]) = false := by rw [beq_eq_false_iff_ne]; exact e3
          have b4 : s.isEmpty = false := by cases s with | nil => exact absurd rfl e1 | cons _ _ => rfl
          clear HZ HN hok e1 e2 e3
          go_wp2_with fail
          refine (HIX.out _).mono ?_
          rintro e w2 ⟨rfl, rfl⟩
          go_wp2_with (at_builtin; refine wpList_appL _ rfl _ _ 86 rfl w.heap.size 3 (.int .i64 0) 8 okI _ _ rfl HO.out #[.int .i64 ((k : Int) + (n : Int))] 1 1 rfl rfl hc1 hc2 hc3 hsz ?_)
          intro v' w3 hown3 hgr3
          have HB3 : Hid (Below w.heap.size w w3) := Lib.hid (HB.out.grown hgr3 hsz (fun k hk => (HO.out.row k hk).1))
          have HO3 : Hid (Own w3 w.heap.size 3 v' ((es ++ [k + n]).map iV)) := Lib.hid (by rw [List.map_append]; exact hown3)
          clear hown3 hgr3
          go_wp2_with fail
          obtain ⟨ps', q1, q2⟩ := HR.out
          exact ⟨⟨k + n + 1, es ++ [k + n], ps', by go_num, by omega, Lib.hid q1, Lib.hid q2, by simp; omega, HO3, HB3⟩, by simp [intOf]; omega⟩
      · have hxn : (p.length : Int) - (k : Int) = (n : Int) := by omega
        have HIX : Hid (∀ w, Calls Tryd.prog 38 #[.string ⟨(p.drop k).toArray⟩, .int .u8 47] w fun e w' => e = .returned (.int .i64 (-1)) ∧ w = w') := Lib.hid (fun w => (HI.out (p.drop k) w).mono (fun _ _ h => ⟨h.1.trans (by rw [hx]), h.2⟩))
        clear hx HI
        have hs0 : s ≠ [] := by rintro rfl; simp at h3; omega
        clear hxe
        rcases okPart_cases s with ⟨hok, hs⟩ | ⟨hok, e1, e2, e3⟩
        · have HR := Lib.hid (HZ.out hok)
          clear HZ HN hok
          rcases hs with hs | rfl | rfl
          · exact absurd hs hs0
          all_goals
            go_wp2_with fail
            refine (HIX.out _).mono ?_
            rintro e w2 ⟨rfl, rfl⟩
            go_wp2_with fail
            go_ret
            exact ⟨_, rfl, by rw [← HR.out]; exact HO.out, HB.out⟩
        · have HR := Lib.hid (HN.out hok)
          have b1 : (s == []) = false := by rw [beq_eq_false_iff_ne]; exact e1
          have b2 : (s == [46]) = false := by rw [beq_eq_false_iff_ne]; exact e2
          have b3 : (s == [46, 46]) = false := by rw [beq_eq_false_iff_ne]; exact e3
          have b4 : s.isEmpty = false := by cases s with | nil => exact absurd rfl e1 | cons _ _ => rfl
          clear HZ HN hok e1 e2 e3
          go_wp2_with fail
          refine (HIX.out _).mono ?_
          rintro e w2 ⟨rfl, rfl⟩
          go_wp2_with (at_builtin; refine wpList_appL _ rfl _ _ 86 rfl w.heap.size 3 (.int .i64 0) 8 okI _ _ rfl HO.out #[.int .i64 ((k : Int) + (n : Int))] 1 1 rfl rfl hc1 hc2 hc3 hsz ?_)
          intro v' w3 hown3 hgr3
          have HB3 : Hid (Below w.heap.size w w3) := Lib.hid (HB.out.grown hgr3 hsz (fun k hk => (HO.out.row k hk).1))
          have HO3 : Hid (Own w3 w.heap.size 3 v' ((es ++ [k + n]).map iV)) := Lib.hid (by rw [List.map_append]; exact hown3)
          clear hown3 hgr3
          go_wp2_with fail
          obtain ⟨ps', q1, q2⟩ := HR.out
          exact ⟨⟨k + n + 1, es ++ [k + n], ps', by go_num, by omega, Lib.hid q1, Lib.hid q2, by simp; omega, HO3, HB3⟩, by simp [intOf]; omega⟩
    · have hltI : ¬ (k : Int) < (p.length : Int) := by omega
      have HR : Hid (es = E) := Lib.hid (by
        rw [← HEE.out]
        rcases HP.out with ⟨h5, h6⟩ | ⟨h5, h6⟩
        · rw [h6, show k = p.length by omega, List.drop_length]
          simp [splitB, okPart, endsOf_no]
        · rw [h6, endsOf_nil, List.append_nil])
      clear HEE HP HE
      go_wp2_with fail
      go_ret
      exact ⟨_, rfl, by rw [← HR.out]; exact HO.out, HB.out⟩
end Go.Proofs.YtedfgikikjggaaaDoor
