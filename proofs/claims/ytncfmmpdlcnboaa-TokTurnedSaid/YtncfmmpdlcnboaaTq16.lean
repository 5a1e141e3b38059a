import Derived.Lib.ConvBytes
import Derived.Test.YtncfmmpdlcnboaaTq10
set_option linter.unusedVariables false
set_option linter.unusedSimpArgs false
namespace Go.Proofs.Ytncfmmpdlcnboaa
open Go.RowKit
theorem bytesWorld_below (w : World) (e : TypeId) (s : ByteArray) : Below w.heap.size w (Lib.bytesWorld w e s) :=
  ⟨rfl, rfl, rfl, by rw [Lib.bytesWorld_size]; omega, fun k hk => Lib.bytesWorld_at_old w e s k hk⟩
theorem bytesWorld_is8 (w : World) (e : TypeId) (l : List UInt8) (hl : l.length ≤ 4611686018427387904) : Is8 (Lib.bytesWorld w e ⟨l.toArray⟩) (.slice (some ⟨w.heap.size, 0, none⟩) l.length (grownCap w l.length 0 e)) l := by
  refine ⟨_, _, rfl, grownCap_ge _ _ _ _, grownCap_le_maxLen _ _ _ _ (by unfold maxLen; omega), (fun h => by cases h), fun _ => ⟨w.heap.size, 0, rfl, fun i hi => ?_⟩⟩
  rw [Nat.zero_add, Lib.bytesWorld_cell w e ⟨l.toArray⟩ i (by rw [str_size]; exact hi)]
  rfl
section
variable {P : Program} {ops : Array Oper} {rest : List Oper} {o : Oper} {a : Act} {Q : Exit → Act → World → Prop}
theorem wpList_toBytes (w : World) (hw : Region.wanted o (yielded ops a.tmps) = true) (s d : TypeId) (x : Operand) (hop : o.op = Op.convert s d x) (e : TypeId)
    (hs : P.underlying s = some .string) (hd : P.underlying d = some (.slice e)) (he : P.underlying e = some (.int .u8)) (l : List UInt8) (hx : a.eval x = .string ⟨l.toArray⟩) (hl : l.length ≤ 4611686018427387904)
    (h : ∀ b cap w', Is8 w' (.slice (some ⟨b, 0, none⟩) l.length cap) l → Below w.heap.size w w' → b = w.heap.size → wpList P ops Q rest (a.put o.dst (.slice (some ⟨b, 0, none⟩) l.length cap)) w') : wpList P ops Q (o :: rest) a w := by
  refine wpList_met hw fun K hK => ?_
  have hrun := Lib.run_convert_string_bytes (P := P) w s d e ⟨l.toArray⟩ hs hd he
  rw [str_size] at hrun
  unfold Oper.wp
  simp [execOp, hop, hx, hrun, Result.andThen]
  exact hK _ _ (h _ _ _ (bytesWorld_is8 w e l hl) (bytesWorld_below w e _) rfl)
end
end Go.Proofs.Ytncfmmpdlcnboaa
