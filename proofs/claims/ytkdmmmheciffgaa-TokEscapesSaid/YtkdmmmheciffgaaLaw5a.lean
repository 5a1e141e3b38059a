/- Two lists of tokens. -/
import Derived.Test.YtkdmmmheciffgaaTokP
import Derived.Laws.StructEq
set_option linter.unusedVariables false
set_option linter.unusedSimpArgs false
namespace Go.Proofs.Ytkdmmmheciffgaa
open Go.RowKit

def tkAt (ts : List Tk) (i : Nat) : Tk := ts.getD i (0, 0, [])
/-- A slice that reads as tokens. -/
def IsT (w : World) (v : Value) (ts : List Tk) : Prop :=
  ∃ a cap, v = .slice a ts.length cap ∧ ts.length ≤ cap ∧ cap ≤ maxLen ∧ (0 < ts.length → ∃ g, a = some ⟨g, 0, none⟩ ∧ ∀ i, i < ts.length → w.cell? ⟨g, i * 3, none⟩ = some (.int .i64 (tkAt ts i).1) ∧ w.cell? ⟨g, i * 3 + 1, none⟩ = some (.int .i64 (tkAt ts i).2.1) ∧ w.cell? ⟨g, i * 3 + 2, none⟩ = some (.string ⟨(tkAt ts i).2.2.toArray⟩))
theorem flat_at : ∀ (ts : List Tk) (i : Nat), i < ts.length → (ts.flatMap tokC)[i * 3]? = some (.int .i64 (tkAt ts i).1) ∧ (ts.flatMap tokC)[i * 3 + 1]? = some (.int .i64 (tkAt ts i).2.1) ∧ (ts.flatMap tokC)[i * 3 + 2]? = some (.string ⟨(tkAt ts i).2.2.toArray⟩) := by
  intro ts
  induction ts with
  | nil => intro i h; simp at h
  | cons t ts ih =>
    intro i h
    cases i with
    | zero => exact ⟨rfl, rfl, rfl⟩
    | succ i =>
      have h2 := ih i (by simpa using h)
      have e : ∀ k, ((t :: ts).flatMap tokC)[(i + 1) * 3 + k]? = (ts.flatMap tokC)[i * 3 + k]? := by
        intro k
        rw [show (t :: ts).flatMap tokC = tokC t ++ ts.flatMap tokC from rfl, List.getElem?_append_right (by simp [tokC]; omega)]
        congr 1
        simp [tokC]; omega
      have e0 := e 0
      rw [Nat.add_zero, Nat.add_zero] at e0
      rw [e0, e 1, e 2]
      exact h2
theorem OwnT.isT {w : World} {B : Nat} {v : Value} {ts : List Tk} (h : OwnT w B v ts) : IsT w v ts := by
  have hh := h
  rcases h.2 with ⟨hv, hn⟩ | ⟨g, cap, cur, hv, hg, hb, hnc, hcm, hcs, ht⟩
  · exact ⟨none, 0, by rw [hv, hn], by omega, by unfold maxLen; omega, fun h0 => by omega⟩
  · refine ⟨some ⟨g, 0, none⟩, cap, hv, hnc, hcm, fun h0 => ⟨g, rfl, fun i hi => ?_⟩⟩
    obtain ⟨f0, f1, f2⟩ := flat_at ts i hi
    have c : ∀ k u, (ts.flatMap tokC)[k]? = some u → w.cell? ⟨g, k, none⟩ = some u := by
      intro k u hk
      have := World.ownsRow.cells hh (g := g) (by rw [hv]; rfl) k u hk
      rw [addr_add] at this
      simpa using this
    exact ⟨c _ _ f0, c _ _ f1, c _ _ f2⟩
theorem IsT.below {w w' : World} {v : Value} {ts : List Tk} (h : IsT w v ts) (hb : Below w.heap.size w w') : IsT w' v ts := by
  obtain ⟨a, cap, e, h1, h2, h3⟩ := h
  refine ⟨a, cap, e, h1, h2, fun h0 => ?_⟩
  obtain ⟨g, ha, hc⟩ := h3 h0
  refine ⟨g, ha, fun i hi => ?_⟩
  obtain ⟨c0, c1, c2⟩ := hc i hi
  have hg : g < w.heap.size := World.block_lt_of_cell? w _ c0
  rw [hb.cell (p := ⟨g, i * 3, none⟩) hg, hb.cell (p := ⟨g, i * 3 + 1, none⟩) hg, hb.cell (p := ⟨g, i * 3 + 2, none⟩) hg]
  exact ⟨c0, c1, c2⟩
def tkEq (s t : Tk) : Bool := (s.1 == t.1) && (((s.2.1 : Int) == t.2.1) && (s.2.2 == t.2.2))
theorem tkEq_iff {s t : Tk} : tkEq s t = true ↔ s = t := by
  obtain ⟨a, b, c⟩ := s
  obtain ⟨a', b', c'⟩ := t
  unfold tkEq
  simp
  omega
set_option maxHeartbeats 1000000 in
theorem tk_neq_run (a a' : Int) (b b' : Nat) (c c' : List UInt8) (w : World) : (binOp .neq 40 (.agg #[.int .i64 a, .int .i64 b, .string ⟨c.toArray⟩]) (.agg #[.int .i64 a', .int .i64 b', .string ⟨c'.toArray⟩])).run Try.prog w = .ok (.bool (!tkEq (a, b, c) (a', b', c'))) w := by
  unfold tkEq
  go_simp
  by_cases h1 : a = a'
  · subst h1
    by_cases h2 : (b : Int) = (b' : Int)
    · rw [if_pos rfl, if_pos h2]
      by_cases h3 : c = c'
      · subst h3; simp [h2]
      · rw [if_neg h3]; simp [h2, h3]
    · rw [if_pos rfl, if_neg h2]; simp; omega
  · rw [if_neg h1]; simp [h1]
set_option maxHeartbeats 1000000 in
theorem tk_eq_run (a a' : Int) (b b' : Nat) (c c' : List UInt8) (w : World) : (binOp .eql 40 (.agg #[.int .i64 a, .int .i64 b, .string ⟨c.toArray⟩]) (.agg #[.int .i64 a', .int .i64 b', .string ⟨c'.toArray⟩])).run Try.prog w = .ok (.bool (tkEq (a, b, c) (a', b', c'))) w := by
  unfold tkEq
  go_simp
  by_cases h1 : a = a'
  · subst h1
    by_cases h2 : (b : Int) = (b' : Int)
    · rw [if_pos rfl, if_pos h2]
      by_cases h3 : c = c'
      · subst h3; simp [h2]
      · rw [if_neg h3]; simp [h2, h3]
    · rw [if_pos rfl, if_neg h2]; simp; omega
  · rw [if_neg h1]; simp [h1]
theorem tk_ext {ts us : List Tk} (h : ts.length = us.length) (h2 : ∀ k, k < ts.length → tkAt ts k = tkAt us k) : ts = us := by
  apply List.ext_getElem h
  intro i h3 h4
  have := h2 i h3
  simpa [tkAt, List.getD, h3, h4] using this
theorem ret_bool {a b : Bool} (h : a = b) : Ending.returned (.bool a) = .returned (.bool b) := by rw [h]
set_option maxRecDepth 100000 in
set_option maxHeartbeats 4000000 in
theorem Toks_any (va vb : Value) (ts us : List Tk) (w : World) (ha : IsT w va ts) (hb : IsT w vb us) (hm : ts.length ≤ 1000000) (hn : us.length ≤ 1000000) :
    Calls Try.prog 20 #[va, vb] w fun e w' => e = .returned (.bool (decide (ts = us))) ∧ ∃ n, w' = w.drewN n := by
  obtain ⟨a, capa, rfl, a1, a2, a3⟩ := ha
  obtain ⟨b, capb, rfl, b1, b2, b3⟩ := hb
  by_cases hl : ts.length = us.length
  · rw [← hl] at b1 b3
    have HX := Lib.hid (fun h => @tk_ext ts us hl h)
    have e1 : ((ts.length : Int) != (us.length : Int)) = false := by rw [hl]; simp
    have HL := Lib.hid hl
    rw [← hl]
    clear hl e1
    go_enter Try.func20, Try.ntmps20
    go_wp2_with fail
    go_loopw [5] (fun tj wr => ∃ j : Nat, j ≤ ts.length ∧ tj = .int .i64 j ∧ Hid (∀ k, k < j → tkAt ts k = tkAt us k) ∧ ∃ m, wr = w.drewN m) (fun tj _ => ts.length - (intOf tj).toNat)
    case atStart => exact ⟨0, Nat.zero_le _, rfl, Lib.hid (fun k hk => by omega), 0, rfl⟩
    case round =>
      obtain ⟨j, hj, rfl, HE, m, rfl⟩ := hrel
      by_cases hlt : j < ts.length
      · have hltI : (j : Int) < (ts.length : Int) := by omega
        obtain ⟨ga, rfl, ca⟩ := a3 (by omega)
        obtain ⟨gb, rfl, cb⟩ := b3 (by omega)
        obtain ⟨a0', a1', a2'⟩ := ca j hlt
        obtain ⟨b0', b1', b2'⟩ := cb j hlt
        have HRN := Lib.hid (fun w => tk_neq_run (tkAt ts j).1 (tkAt us j).1 (tkAt ts j).2.1 (tkAt us j).2.1 (tkAt ts j).2.2 (tkAt us j).2.2 w)
        by_cases hq : tkAt ts j = tkAt us j
        · have HN : Hid (∀ k, k < j + 1 → tkAt ts k = tkAt us k) := Lib.hid (fun k hk => by
            rcases Nat.lt_or_ge k j with h3 | h3
            · exact HE.out k h3
            · obtain rfl : k = j := by omega
              exact hq)
          have HQ : Hid (tkEq (tkAt ts j) (tkAt us j) = true) := Lib.hid (tkEq_iff.2 hq)
          have hrun : ∀ w, (binOp .neq 40 (.agg #[.int .i64 (tkAt ts j).1, .int .i64 (tkAt ts j).2.1, .string ⟨(tkAt ts j).2.2.toArray⟩]) (.agg #[.int .i64 (tkAt us j).1, .int .i64 (tkAt us j).2.1, .string ⟨(tkAt us j).2.2.toArray⟩])).run Try.prog w = .ok (.bool false) w := fun w => by
            rw [HRN.out]; rw [show tkEq ((tkAt ts j).1, (tkAt ts j).2.1, (tkAt ts j).2.2) ((tkAt us j).1, (tkAt us j).2.1, (tkAt us j).2.2) = true from HQ.out]; rfl
          clear hq ca cb a3 b3
          go_wp2_with fail
          go_quiet (fail)
          go_wp2_with fail
          exact ⟨⟨j + 1, by omega, by go_num, HN, _, by first | rfl | (rw [World.drewN_drewN])⟩, by simp [intOf]; omega⟩
        · have HQ : Hid (tkEq (tkAt ts j) (tkAt us j) = false) := Lib.hid (by rw [Bool.eq_false_iff]; exact fun h => hq (tkEq_iff.1 h))
          have HF : Hid (decide (ts = us) = false) := Lib.hid (by rw [decide_eq_false_iff_not]; exact fun h => hq (by rw [h]))
          have hrun : ∀ w, (binOp .neq 40 (.agg #[.int .i64 (tkAt ts j).1, .int .i64 (tkAt ts j).2.1, .string ⟨(tkAt ts j).2.2.toArray⟩]) (.agg #[.int .i64 (tkAt us j).1, .int .i64 (tkAt us j).2.1, .string ⟨(tkAt us j).2.2.toArray⟩])).run Try.prog w = .ok (.bool true) w := fun w => by
            rw [HRN.out]; rw [show tkEq ((tkAt ts j).1, (tkAt ts j).2.1, (tkAt ts j).2.2) ((tkAt us j).1, (tkAt us j).2.1, (tkAt us j).2.2) = false from HQ.out]; rfl
          clear hq ca cb a3 b3
          go_wp2_with fail
          go_quiet (fail)
          go_wp2_with fail
          go_ret
          exact ⟨ret_bool HF.out.symm, _, by first | rfl | (rw [World.drewN_drewN])⟩
      · have hltI : (ts.length : Int) ≤ (j : Int) := by omega
        have HF : Hid (decide (ts = us) = true) := Lib.hid (decide_eq_true (HX.out (fun k hk => HE.out k (by omega))))
        clear a3 b3
        go_wp2_with fail
        go_ret
        exact ⟨ret_bool HF.out.symm, _, rfl⟩
  · have HF : Hid (decide (ts = us) = false) := Lib.hid (by rw [decide_eq_false_iff_not]; exact fun h => hl (by rw [h]))
    have e1 : ((ts.length : Int) != (us.length : Int)) = true := by simpa using (fun h => hl (by omega))
    have e2 : ((ts.length : Int) == (us.length : Int)) = false := by rw [beq_eq_false_iff_ne]; omega
    clear a3 b3
    go_enter Try.func20, Try.ntmps20
    go_wp2_with fail
    go_ret
    exact ⟨ret_bool HF.out.symm, 0, rfl⟩
end Go.Proofs.Ytkdmmmheciffgaa
