/- Contracts of jtok's scanner: put. Slices of tokens. -/
import Derived.Test.YtkdmmmheciffgaaTokE
set_option linter.unusedVariables false
set_option linter.unusedSimpArgs false
namespace Go.Proofs.Ytkdmmmheciffgaa
open Go.RowKit

/-- A token: its kind, where it begins, its text. -/
abbrev Tk := Int × Nat × List UInt8
def tokC (t : Tk) : List Value := [.int .i64 t.1, .int .i64 t.2.1, .string ⟨t.2.2.toArray⟩]
def OwnT (w : World) (B : Nat) (v : Value) (ts : List Tk) : Prop := w.ownsRow B 40 3 v ts.length (ts.flatMap tokC)
theorem OwnT.nil (w : World) (B : Nat) : OwnT w B (.slice none 0 0) [] := World.ownsRow_nil w B _ 3
theorem OwnT.row {w : World} {B : Nat} {v : Value} {ts : List Tk} (h : OwnT w B v ts) : ∀ k, v.ownBlock = some k → B ≤ k ∧ k < w.heap.size := World.ownsRow.lt h
theorem OwnT.kept {w w' : World} {B : Nat} {v : Value} {ts : List Tk} {row : Option Nat} (h : OwnT w B v ts) (hg : w.grownBy w' row) (hne : v.ownBlock = none ∨ v.ownBlock ≠ row) : OwnT w' B v ts := World.ownsRow.kept h hg hne
theorem OwnT.below {w w' : World} {B : Nat} {v : Value} {ts : List Tk} (h : OwnT w B v ts) (hw : Below w.heap.size w w') : OwnT w' B v ts :=
  h.kept (grownBy_below hw none) (by cases v.ownBlock <;> simp)
theorem OwnT.slice {w : World} {B : Nat} {v : Value} {ts : List Tk} (h : OwnT w B v ts) : ∃ a c, v = .slice a ts.length c := by
  rcases h.2 with ⟨rfl, hn⟩ | ⟨g, cap, cur, rfl, _⟩
  · exact ⟨none, 0, by rw [hn]⟩
  · exact ⟨_, cap, rfl⟩
/-- Tokens' blocks are no scanner's. -/
theorem OwnT.ne {w : World} {B : Nat} {v : Value} {ts : List Tk} (h : OwnT w B v ts) {g : Nat} {cs : List Value} (hb : Box w g 60 cs) : v.ownBlock ≠ some g := by
  rcases h.2 with ⟨rfl, _⟩ | ⟨g2, cap, cur, rfl, _, hh, _⟩
  · simp [Value.ownBlock]
  · intro e
    have e : g2 = g := by simpa [Value.ownBlock] using e
    subst e
    have hb2 : w.heap[g2]? = some (.cells cs.toArray 60 (0, 0)) := hb
    rw [hh] at hb2
    injection hb2 with hb3
    injection hb3 with _ h4 _
    exact absurd h4 (by decide)
theorem okT : ∃ i : TypeInfo, Try.prog.info? 40 = some i ∧ i.zero = some (.agg #[.int .i64 0, .int .i64 0, .string .empty]) ∧ i.size = 3 ∧ i.bytes = 32 := by
  obtain ⟨i, h1, h2, h3, h4⟩ := info_parts (P := Try.prog) (e := 40) (z := .agg #[.int .i64 0, .int .i64 0, .string .empty]) (size := 3) (bytes := 32) (by kernel_rfl)
  exact ⟨i, h1, h2, h3, h4⟩
section
variable {ops : Array Oper} {rest : List Oper} {o : Oper} {a : Act} {Q : Exit → Act → World → Prop}
/-- append(s, t), the token in a block of its own. -/
theorem wpList_appT (w : World) (hw : Region.wanted o (yielded ops a.tmps) = true) (s x : Operand) (ho : o.op = .call { callee := .builtin .append, args := #[s, x], argTypes := #[35, 35] })
    (B : Nat) (v : Value) (ts : List Tk) (hs : a.eval s = v) (hown : OwnT w B v ts) (t : Tk) (bk : Nat) (hx : a.eval x = .slice (some ⟨bk, 0, none⟩) 1 1) (hbk : bk = w.heap.size)
    (hlen : ts.length ≤ 10000000) (hB : B ≤ w.heap.size)
    (h : ∀ v' w', OwnT w' B v' (ts ++ [t]) → w.grownBy w' v.ownBlock → wpList Try.prog ops Q rest (a.put o.dst v') w') : wpList Try.prog ops Q (o :: rest) a (w.alloc (.cells (tokC t).toArray 40)) := by
  subst hbk
  obtain ⟨i, hi, hz, hs1, hby⟩ := okT
  refine wpList_met hw fun K hK => wp_append_own _ s x 35 ho B 40 i _ 3 32 Try.underlying35 hi hz hs1 hby rfl (by decide) v ts.length (ts.flatMap tokC) hs (World.ownsRow.alloc hown _) ⟨w.heap.size, 0, none⟩ 1 1 (tokC t) hx rfl ?_ ?_ ?_ ?_ ?_ ?_
  · intro j u hj
    have := cell_of_row (w.alloc (.cells (tokC t).toArray 40)) w.heap.size j (tokC t).toArray 40 (0, 0) (heap_alloc_new w _)
    rw [addr_add, this]
    simpa using hj
  · intro u hu
    simp [tokC] at hu
    rcases hu with rfl | rfl | rfl <;> rfl
  · unfold maxLen; omega
  · omega
  · simp; omega
  · intro v' w' h2 h3 _
    refine hK _ _ (h v' w' ?_ (grownBy_trans (World.grownBy_alloc w _ _) h3))
    unfold OwnT
    rw [List.length_append, List.flatMap_append]
    simpa using h2
end
set_option maxRecDepth 100000 in
set_option maxHeartbeats 4000000 in
theorem put_any (g : Nat) (vb : Value) (i : Nat) (keep : Bool) (n : Int) (vt : Value) (ts : List Tk) (B : Nat) (k : Int) (at' : Nat) (s : List UInt8) (w : World) (hs : Scan w g vb i keep n vt) (ho : OwnT w B vt ts) (hB : B ≤ g) (hn0 : 0 ≤ n) (hn1 : n ≤ 5000000) (hl : ts.length ≤ 5000000) :
    Calls Try.prog 46 #[.pointer (some ⟨g, 0, none⟩), .int .i64 k, .int .i64 at', .string ⟨s.toArray⟩] w fun e w' => e = .returned (.tuple #[]) ∧ ∃ vt', Scan w' g vb i keep (n + 1) vt' ∧ OwnT w' B vt' (if keep = true then ts ++ [(k, at', s)] else ts) ∧ Below B w w' := by
  have hne := ho.ne hs
  have c2 : w.cell? ⟨g, 2, none⟩ = some (.bool keep) := by rw [Box.cell hs]; rfl
  have c3 : w.cell? ⟨g, 3, none⟩ = some (.int .i64 n) := by rw [Box.cell hs]; rfl
  have c4 : w.cell? ⟨g, 4, none⟩ = some vt := by rw [Box.cell hs]; rfl
  have f3 : w.frozen? ⟨g, 3, none⟩ = false := Box.frozen hs 3
  have HS1 : Hid (Scan (w.setCell ⟨g, 3, none⟩ (.int .i64 (n + 1))) g vb i keep (n + 1) vt) := Lib.hid (Box.set hs 3 (by simp) _)
  have hlt := Box.lt hs
  have HO1 : Hid (OwnT (w.setCell ⟨g, 3, none⟩ (.int .i64 (n + 1))) B vt ts) := Lib.hid (ho.kept (grownBy_set w g 3 _) (.inr hne))
  have HB1 : Hid (Below B w (w.setCell ⟨g, 3, none⟩ (.int .i64 (n + 1)))) := Lib.hid ((Below.refl B w).setCell hB _)
  clear hs ho
  cases keep with
  | false =>
    go_enter Try.func46, Try.ntmps46
    go_wp2_with fail
    go_end0
    exact ⟨rfl, vt, HS1.out, HO1.out, HB1.out⟩
  | true =>
    have HSZ : Hid (B ≤ (w.setCell ⟨g, 3, none⟩ (.int .i64 (n + 1))).heap.size) := Lib.hid (by have := HB1.out.size; omega)
    have HR := Lib.hid (OwnT.row HO1.out)
    go_enter Try.func46, Try.ntmps46
    go_wp2_with (at_builtin; refine wpList_appT _ rfl _ _ rfl B _ ts rfl HO1.out (k, at', s) _ rfl (by simp) (by omega) HSZ.out ?_)
    intro v' w2 hown2 hgr2
    obtain ⟨va, vc, rfl⟩ := hown2.slice
    have HS2 := Lib.hid (Box.grown HS1.out hgr2 hne)
    have HO2 := Lib.hid hown2
    have HB2 := Lib.hid (HB1.out.grown hgr2 HSZ.out (fun k hk => (HR.out k hk).1))
    have d4 : w2.cell? ⟨g, 4, none⟩ = some vt := by rw [Box.cell HS2.out]; rfl
    have f4 : w2.frozen? ⟨g, 4, none⟩ = false := Box.frozen HS2.out 4
    clear hown2 hgr2
    go_wp2_with fail
    go_end0
    have HOF := Lib.hid (fun x => HO2.out.kept (grownBy_set w2 g 4 x) (.inr (HO2.out.ne HS2.out)))
    rw [show (ts ++ [(k, at', s)]).length = ts.length + 1 by simp] at HOF
    exact ⟨rfl, _, Box.set HS2.out 4 (by simp) _, HOF.out _, HB2.out.setCell hB _⟩
end Go.Proofs.Ytkdmmmheciffgaa
