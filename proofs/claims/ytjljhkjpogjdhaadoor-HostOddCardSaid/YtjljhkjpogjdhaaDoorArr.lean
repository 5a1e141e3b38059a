/- Arrays that lie in blocks of their own: loaded and stored whole; over any program. -/
import Derived.Test.YtjljhkjpogjdhaaDoorBox
import Derived.Test.YtjljhkjpogjdhaaDoorOwn
import Derived.Laws.CopyRow
import Derived.Laws.IdiomCopy
import Derived.Laws.Rows
import Derived.Laws.Tables
import Derived.Laws.ResultCell
set_option linter.unusedVariables false
set_option linter.unusedSimpArgs false
namespace Go.Proofs.YtjljhkjpogjdhaaDoor
open Go.RowKit

theorem hsz_alloc (w : World) (o : Obj) : (w.alloc o).heap.size = w.heap.size + 1 := Array.size_push ..
theorem setRow_box {w : World} {g g' : Nat} {t : TypeId} {cs : List Value} (h : Box w g t cs) (cs' : Array Value) (hne : g ≠ g') : Box (w.setRow g' cs') g t cs := by
  unfold Box World.setRow at *
  rw [Array.getElem?_modify, if_neg (fun e => hne e.symm)]; exact h
theorem setRow_box_self {w : World} {g : Nat} {t : TypeId} {cs : List Value} (h : Box w g t cs) (cs' : List Value) : Box (w.setRow g cs'.toArray) g t cs' := by
  unfold Box World.setRow at *
  rw [Array.getElem?_modify, if_pos rfl, h]; rfl
theorem setRow_below {w w' : World} {B g : Nat} (h : Below B w w') (cs : Array Value) (hg : B ≤ g) : Below B w (w'.setRow g cs) := by
  refine ⟨h.os, h.tape, h.output, ?_, ?_⟩
  · have := h.size
    show _ ≤ (w'.heap.modify g _).size
    simpa using this
  · intro k hk
    show (w'.heap.modify g _)[k]? = _
    rw [Array.getElem?_modify, if_neg (by omega)]
    exact h.block k hk
theorem setRow_grown {w w' : World} {g : Nat} (h : w.grownBy w' (some g)) (cs : Array Value) : w.grownBy (w'.setRow g cs) (some g) := by
  refine ⟨h.os, h.tape, h.output, ?_, ?_⟩
  · have := h.size
    show _ ≤ (w'.heap.modify g _).size
    simpa using this
  · intro k hk hne
    show (w'.heap.modify g _)[k]? = _
    rw [Array.getElem?_modify, if_neg (fun e => hne (by rw [e]))]
    exact h.block k hk hne
section
variable {P : Program} {ops : Array Oper} {rest : List Oper} {o : Oper} {a : Act} {Q : Exit → Act → World → Prop}
/-- x := *p, the whole row. -/
theorem wpList_loadRow {w : World} (hw : Region.wanted o (yielded ops a.tmps) = true) (t : TypeId) (x : Operand) (hop : o.op = .load t x) (g : Nat) (cs : List Value) (hx : a.eval x = .pointer (some ⟨g, 0, none⟩))
    (n : Nat) (e : TypeId) (hu : P.underlying t = some (.array n e)) (hi : (P.info? t).map (·.size) = some cs.length) (hb : Box w g t cs)
    (h : wpList P ops Q rest (a.put o.dst (.agg cs.toArray)) w) : wpList P ops Q (o :: rest) a w := by
  refine wpList_met hw fun K hK => ?_
  have hrun := run_loadVar_row (P := P) w g t t cs.toArray (0, 0) _ hb hu rfl (by simpa using hi)
  unfold Oper.wp
  simp [execOp, hop, hx, Instr.loadAt, Instr.sureAddr, hrun, Result.andThen]
  exact hK _ _ h
/-- *p = x, the whole row. -/
theorem wpList_storeRow {w : World} (hw : Region.wanted o (yielded ops a.tmps) = true) (t : TypeId) (x y : Operand) (hop : o.op = .store t x y) (hd : o.dst = none) (g : Nat) (cs cs' : List Value) (hx : a.eval x = .pointer (some ⟨g, 0, none⟩))
    (hy : a.eval y = .agg cs'.toArray) (hi : (P.info? t).map (·.size) = some cs'.length) (hb : Box w g t cs) (ho : cs.length = cs'.length) (h1 : ∀ v ∈ cs', v.oneCell' = true)
    (h : wpList P ops Q rest a (w.setRow g cs'.toArray)) : wpList P ops Q (o :: rest) a w := by
  refine wpList_met hw fun K hK => ?_
  have hrun := run_storeVar_row (P := P) w g t t cs.toArray cs'.toArray hb (by simpa using hi) (by simpa using ho) (by simpa using h1)
  unfold Oper.wp
  simp [execOp, hop, hx, hy, Instr.storeAt, Instr.sureAddr, hrun, Result.andThen]
  exact hK _ _ (by rw [hd]; exact h)
end
/-- A whole row as a result. -/
theorem row_result {P : Program} {w : World} {g : Nat} {t : TypeId} {cs : List Value} (hb : Box w g t cs) (n : Nat) (e : TypeId) (hu : P.underlying t = some (.array n e)) (hi : (P.info? t).map (·.size) = some cs.length) :
    (loadVar t ⟨g, 0, none⟩).run P w = .ok (.agg cs.toArray) w := run_loadVar_row (P := P) w g t t cs.toArray (0, 0) _ hb hu rfl (by simpa using hi)
/-- A whole row and a value as results. -/
theorem results_row_tmp {P : Program} {fn : Func} {p u : Tmp} {ty : TypeId} (h : fn.results = #[.cell p ty, .tmp u]) (tmps : Array Value) {w : World} {g : Nat} {cs : List Value} (hp : tmps.getD p undef = .pointer (some ⟨g, 0, none⟩)) (hb : Box w g ty cs)
    (n : Nat) (e : TypeId) (hu : P.underlying ty = some (.array n e)) (hi : (P.info? ty).map (·.size) = some cs.length) :
    (results fn tmps).run P w = .ok (.tuple #[.agg cs.toArray, tmps.getD u undef]) w := by
  rw [results_cell_tmp h, hp]
  simp [asAddr, Result.andThen, row_result hb n e hu hi]
end Go.Proofs.YtjljhkjpogjdhaaDoor
