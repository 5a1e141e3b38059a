/- Worlds that have only grown and drawn. -/
import Derived.Test.YtjpofnpcmonmmaaBytes
import Derived.Sort.Grow
set_option linter.unusedVariables false
set_option linter.unusedSimpArgs false
namespace Go.Proofs.Ytjpofnpcmonmmaa
open Go.RowKit

def Laid (w w' : World) : Prop := Below w.heap.size w w' ∧ w.drawn ≤ w'.drawn
theorem Laid.refl (w : World) : Laid w w := ⟨Below.refl _ _, Nat.le_refl _⟩
theorem Laid.trans {a b c : World} (h : Laid a b) (k : Laid b c) : Laid a c := ⟨ext_trans h.1 k.1, Nat.le_trans h.2 k.2⟩
theorem laid_drew (w : World) (n : Nat) : Laid w (w.drewN n) := ⟨ext_drew w n, by show w.drawn ≤ w.drawn + n; omega⟩
theorem laid_alloc (w : World) (o : Obj) : Laid w (w.alloc o) := ⟨ext_alloc w o, Nat.le_refl _⟩
theorem laid_bytes (w : World) (e : TypeId) (s : ByteArray) : Laid w (Lib.bytesWorld w e s) := ⟨bytesWorld_below w e s, by show w.drawn ≤ w.drawn + 1; omega⟩
theorem Laid.grow {w w' : World} (h : Laid w w') : ∃ q os, w' = Go.Sort.grow (w.drewN q) os := by
  refine ⟨w'.drawn - w.drawn, w'.heap.extract w.heap.size w'.heap.size, ?_⟩
  obtain ⟨h1, h2⟩ := h
  obtain ⟨hp, tp, d, os, ou⟩ := w'
  obtain ⟨hp0, tp0, d0, os0, ou0⟩ := w
  have e1 := h1.os
  have e2 := h1.tape
  have e3 := h1.output
  have e4 := h1.size
  have e5 := h1.block
  simp only at e1 e2 e3 e4 e5 h2
  subst e1; subst e2; subst e3
  show World.mk _ _ _ _ _ = World.mk _ _ _ _ _
  have e6 : hp = hp0 ++ hp.extract hp0.size hp.size := by
    apply Array.ext_getElem?
    intro k
    rw [Array.getElem?_append]
    split
    · rename_i hk; exact e5 k hk
    · rename_i hk
      rw [Array.getElem?_extract]
      split
      · rename_i hk2; congr 1; omega
      · rename_i hk2; rw [Array.getElem?_eq_none]; simp at hk2; omega
  congr 1
  have h3 : d0 ≤ d := h2
  show d = d0 + (d - d0)
  omega
section
variable {P : Program} {ops : Array Oper} {rest : List Oper} {o : Oper} {a : Act} {Q : Exit → Act → World → Prop}
theorem wpList_toBytesL (w : World) (hw : Region.wanted o (yielded ops a.tmps) = true) (s d : TypeId) (x : Operand) (hop : o.op = Op.convert s d x) (e : TypeId)
    (hs : P.underlying s = some .string) (hd : P.underlying d = some (.slice e)) (he : P.underlying e = some (.int .u8)) (l : List UInt8) (hx : a.eval x = .string ⟨l.toArray⟩) (hl : l.length ≤ 4611686018427387904)
    (h : ∀ b cap w', Is8 w' (.slice (some ⟨b, 0, none⟩) l.length cap) l → Laid w w' → b = w.heap.size → wpList P ops Q rest (a.put o.dst (.slice (some ⟨b, 0, none⟩) l.length cap)) w') : wpList P ops Q (o :: rest) a w := by
  refine wpList_met hw fun K hK => ?_
  have hrun := Lib.run_convert_string_bytes (P := P) w s d e ⟨l.toArray⟩ hs hd he
  rw [str_size] at hrun
  unfold Oper.wp
  simp [execOp, hop, hx, hrun, Result.andThen]
  exact hK _ _ (h _ _ _ (bytesWorld_is8 w e l hl) (laid_bytes w e _) rfl)
end
end Go.Proofs.Ytjpofnpcmonmmaa
