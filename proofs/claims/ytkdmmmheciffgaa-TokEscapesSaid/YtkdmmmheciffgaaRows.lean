/-
  NARROWER THAN 'FOR EVERY INPUT', by the rows' own cells (each row's printed sentence says how): TokTurned: loops.
  DERIVED. THE GIVEN ROWS OF THIS SEAT. 6 by the template 'for every input the law returns true; each argument reads behind the call as it read before'; 0 by the template 'total and deterministic' (their statements: YtkdmmmheciffgaaTotals.lean).
  GIVEN WITH THE SEED: the statements are not yours to turn. If you find one false, say at which input.
  Laid BY PROGRAM, IN A SANDBOX (cutbox-rows.mjs): the forced cells as the released guide's own fill.sh prints them over the translation 8f767087cf9a53d2… (all of the seat's roots in one cut). By AI agents, Wed Nov 11 2026. No macro, syntax, notation, axiom, sorry.
-/
import Derived.Test.YtkdmmmheciffgaaChecked
import GoSem.Claim
import GoSem.ClaimJoined
import GoSem.ClaimMapViews
import Derived.JoinedTies
import Derived.KernelRfl
namespace Go.Proofs.Ytkdmmmheciffgaa
/- THE CELL 'sum', in the pinned program and in every row, IS THE sha256 OF THE DUMP (.gsa) THAT YtkdmmmheciffgaaProg.lean LOADS. Nothing in Lean hashes anything: it is a label: what it is worth is what the hold of that sum in a sandbox is worth. -/
noncomputable def Try.pinned : Pinned := { name := "ytkdmmmheciffgaa", sum := "8f767087cf9a53d281c3e74496863b628af6a35154b96609dddcb8a517180e12", checked := Try.checked }
namespace Rows
def none {H : Type} : Left H := { results := [], args := [] }

/-- 'gossamerlaw5.TokTells': WHATEVER THE INPUT: true; the input reads as it did. -/
def tokTellsSpec : ChangeSpec := { name := "tokTells", fn := fun _ => fun
  | [d] => { results := [.lit (.bool true)], args := [d] }
  | _ => none }
def tokTellsRow : OpenClaim := { program := "ytkdmmmheciffgaa", sum := "8f767087cf9a53d281c3e74496863b628af6a35154b96609dddcb8a517180e12", func := "gossamer/gossamerlaw5.TokTells", spec := "tokTells", apart := false }
def TokTellsSaid : Prop := tokTellsRow.holds Try.pinned (OpenSpec.ofChange tokTellsSpec)

/-- ITS FALSE NEIGHBOUR: 'it returns false'. Refute it at one input. -/
def tokTellsWrong : ChangeSpec := { name := "tokTells", fn := fun _ => fun
  | [d] => { results := [.lit (.bool false)], args := [d] }
  | _ => none }
def TokTellsWrongFalsely : Prop := tokTellsRow.holds Try.pinned (OpenSpec.ofChange tokTellsWrong)

/-- 'gossamerlaw5.TokTurned': WHATEVER THE INPUT: true; the input reads as it did. -/
def tokTurnedSpec : ChangeSpec := { name := "tokTurned", fn := fun _ => fun
  | [d1, d2, d3, d4] => { results := [.lit (.bool true)], args := [d1, d2, d3, d4] }
  | _ => none }
def tokTurnedRow : OpenClaim := { program := "ytkdmmmheciffgaa", sum := "8f767087cf9a53d281c3e74496863b628af6a35154b96609dddcb8a517180e12", func := "gossamer/gossamerlaw5.TokTurned", spec := "tokTurned", recurses := true, loops := true, apart := false }
def TokTurnedSaid : Prop := tokTurnedRow.holds Try.pinned (OpenSpec.ofChange tokTurnedSpec)

/-- ITS FALSE NEIGHBOUR: 'it returns false'. Refute it at one input. -/
def tokTurnedWrong : ChangeSpec := { name := "tokTurned", fn := fun _ => fun
  | [d1, d2, d3, d4] => { results := [.lit (.bool false)], args := [d1, d2, d3, d4] }
  | _ => none }
def TokTurnedWrongFalsely : Prop := tokTurnedRow.holds Try.pinned (OpenSpec.ofChange tokTurnedWrong)

/-- 'gossamerlaw5.TokNumbers': WHATEVER THE INPUT: true; the input reads as it did. -/
def tokNumbersSpec : ChangeSpec := { name := "tokNumbers", fn := fun _ => fun
  | [d] => { results := [.lit (.bool true)], args := [d] }
  | _ => none }
def tokNumbersRow : OpenClaim := { program := "ytkdmmmheciffgaa", sum := "8f767087cf9a53d281c3e74496863b628af6a35154b96609dddcb8a517180e12", func := "gossamer/gossamerlaw5.TokNumbers", spec := "tokNumbers", apart := false }
def TokNumbersSaid : Prop := tokNumbersRow.holds Try.pinned (OpenSpec.ofChange tokNumbersSpec)

/-- ITS FALSE NEIGHBOUR: 'it returns false'. Refute it at one input. -/
def tokNumbersWrong : ChangeSpec := { name := "tokNumbers", fn := fun _ => fun
  | [d] => { results := [.lit (.bool false)], args := [d] }
  | _ => none }
def TokNumbersWrongFalsely : Prop := tokNumbersRow.holds Try.pinned (OpenSpec.ofChange tokNumbersWrong)

/-- 'gossamerlaw5.TokEscapes': WHATEVER THE INPUT: true; the input reads as it did. -/
def tokEscapesSpec : ChangeSpec := { name := "tokEscapes", fn := fun _ => fun
  | [d1, d2] => { results := [.lit (.bool true)], args := [d1, d2] }
  | _ => none }
def tokEscapesRow : OpenClaim := { program := "ytkdmmmheciffgaa", sum := "8f767087cf9a53d281c3e74496863b628af6a35154b96609dddcb8a517180e12", func := "gossamer/gossamerlaw5.TokEscapes", spec := "tokEscapes", apart := false }
def TokEscapesSaid : Prop := tokEscapesRow.holds Try.pinned (OpenSpec.ofChange tokEscapesSpec)

/-- ITS FALSE NEIGHBOUR: 'it returns false'. Refute it at one input. -/
def tokEscapesWrong : ChangeSpec := { name := "tokEscapes", fn := fun _ => fun
  | [d1, d2] => { results := [.lit (.bool false)], args := [d1, d2] }
  | _ => none }
def TokEscapesWrongFalsely : Prop := tokEscapesRow.holds Try.pinned (OpenSpec.ofChange tokEscapesWrong)

/-- 'gossamerlaw5.TokRows': WHATEVER THE INPUT: true; the input reads as it did. -/
def tokRowsSpec : ChangeSpec := { name := "tokRows", fn := fun _ => fun
  | [d1, d2] => { results := [.lit (.bool true)], args := [d1, d2] }
  | _ => none }
def tokRowsRow : OpenClaim := { program := "ytkdmmmheciffgaa", sum := "8f767087cf9a53d281c3e74496863b628af6a35154b96609dddcb8a517180e12", func := "gossamer/gossamerlaw5.TokRows", spec := "tokRows", apart := false }
def TokRowsSaid : Prop := tokRowsRow.holds Try.pinned (OpenSpec.ofChange tokRowsSpec)

/-- ITS FALSE NEIGHBOUR: 'it returns false'. Refute it at one input. -/
def tokRowsWrong : ChangeSpec := { name := "tokRows", fn := fun _ => fun
  | [d1, d2] => { results := [.lit (.bool false)], args := [d1, d2] }
  | _ => none }
def TokRowsWrongFalsely : Prop := tokRowsRow.holds Try.pinned (OpenSpec.ofChange tokRowsWrong)

/-- 'gossamerlaw5.TokJoins': WHATEVER THE INPUT: true; the input reads as it did. -/
def tokJoinsSpec : ChangeSpec := { name := "tokJoins", fn := fun _ => fun
  | [d1, d2, d3] => { results := [.lit (.bool true)], args := [d1, d2, d3] }
  | _ => none }
def tokJoinsRow : OpenClaim := { program := "ytkdmmmheciffgaa", sum := "8f767087cf9a53d281c3e74496863b628af6a35154b96609dddcb8a517180e12", func := "gossamer/gossamerlaw5.TokJoins", spec := "tokJoins", apart := false }
def TokJoinsSaid : Prop := tokJoinsRow.holds Try.pinned (OpenSpec.ofChange tokJoinsSpec)

/-- ITS FALSE NEIGHBOUR: 'it returns false'. Refute it at one input. -/
def tokJoinsWrong : ChangeSpec := { name := "tokJoins", fn := fun _ => fun
  | [d1, d2, d3] => { results := [.lit (.bool false)], args := [d1, d2, d3] }
  | _ => none }
def TokJoinsWrongFalsely : Prop := tokJoinsRow.holds Try.pinned (OpenSpec.ofChange tokJoinsWrong)

/- THE SECOND FORM. 'bulk': how many values and letters a reading holds, each counted each time it is reached (what is shared counts as often as it is met; a slice's spare places count too). A statement '..UptoSaid' is the law's where the arguments, and the package variables that the reading takes, are together of bulk at most 1048576: NARROWER than '..Said'. Prove '..Said' where nothing that the law and all that it calls make is longer than what came in: it says more and counts as full. Else prove '..UptoSaid'. A law counts once. -/
mutual
def uptoBulk {H : Type} : DataW H → Nat
  | .lit (.string bytes) => bytes.length + 1
  | .lit _ => 1
  | .nil => 1
  | .ptr d => uptoBulk d + 1
  | .slice elems spare => uptoBulkAll elems + uptoBulkAll spare + 1
  | .agg parts => uptoBulkAll parts + 1
  | .iface _ d => uptoBulk d + 1
  | .map entries => uptoBulkEntries entries + 1
  | .held _ => 1
def uptoBulkAll {H : Type} : List (DataW H) → Nat
  | [] => 0
  | d :: r => uptoBulk d + uptoBulkAll r
def uptoBulkEntries {H : Type} : List (Lit × DataW H) → Nat
  | [] => 0
  | x :: r => uptoBulkEntry x + uptoBulkEntries r
def uptoBulkEntry {H : Type} : Lit × DataW H → Nat
  | (.string bytes, d) => bytes.length + uptoBulk d + 1
  | (_, d) => uptoBulk d + 1
 end
def uptoSmall : (H : Type) → List (DataW H) → Bool := fun _ ds => decide (uptoBulkAll ds ≤ 1048576)
def OpenSpec.upto (s : _root_.Go.ChangeSpec) : _root_.Go.OpenSpec := { _root_.Go.OpenSpec.ofChange s with cond := some uptoSmall }

/-- 'gossamerlaw5.TokTells', WHERE WHAT IT READS IS OF BULK AT MOST 1048576: true; the input reads as it did. -/
def tokTellsUptoRow : OpenClaim := { program := "ytkdmmmheciffgaa", sum := "8f767087cf9a53d281c3e74496863b628af6a35154b96609dddcb8a517180e12", func := "gossamer/gossamerlaw5.TokTells", spec := "tokTells", apart := false, narrowed := true }
def TokTellsUptoSaid : Prop := tokTellsUptoRow.holds Try.pinned (OpenSpec.upto tokTellsSpec)

/-- 'gossamerlaw5.TokTurned', WHERE WHAT IT READS IS OF BULK AT MOST 1048576: true; the input reads as it did. -/
def tokTurnedUptoRow : OpenClaim := { program := "ytkdmmmheciffgaa", sum := "8f767087cf9a53d281c3e74496863b628af6a35154b96609dddcb8a517180e12", func := "gossamer/gossamerlaw5.TokTurned", spec := "tokTurned", recurses := true, loops := true, apart := false, narrowed := true }
def TokTurnedUptoSaid : Prop := tokTurnedUptoRow.holds Try.pinned (OpenSpec.upto tokTurnedSpec)

/-- 'gossamerlaw5.TokNumbers', WHERE WHAT IT READS IS OF BULK AT MOST 1048576: true; the input reads as it did. -/
def tokNumbersUptoRow : OpenClaim := { program := "ytkdmmmheciffgaa", sum := "8f767087cf9a53d281c3e74496863b628af6a35154b96609dddcb8a517180e12", func := "gossamer/gossamerlaw5.TokNumbers", spec := "tokNumbers", apart := false, narrowed := true }
def TokNumbersUptoSaid : Prop := tokNumbersUptoRow.holds Try.pinned (OpenSpec.upto tokNumbersSpec)

/-- 'gossamerlaw5.TokEscapes', WHERE WHAT IT READS IS OF BULK AT MOST 1048576: true; the input reads as it did. -/
def tokEscapesUptoRow : OpenClaim := { program := "ytkdmmmheciffgaa", sum := "8f767087cf9a53d281c3e74496863b628af6a35154b96609dddcb8a517180e12", func := "gossamer/gossamerlaw5.TokEscapes", spec := "tokEscapes", apart := false, narrowed := true }
def TokEscapesUptoSaid : Prop := tokEscapesUptoRow.holds Try.pinned (OpenSpec.upto tokEscapesSpec)

/-- 'gossamerlaw5.TokRows', WHERE WHAT IT READS IS OF BULK AT MOST 1048576: true; the input reads as it did. -/
def tokRowsUptoRow : OpenClaim := { program := "ytkdmmmheciffgaa", sum := "8f767087cf9a53d281c3e74496863b628af6a35154b96609dddcb8a517180e12", func := "gossamer/gossamerlaw5.TokRows", spec := "tokRows", apart := false, narrowed := true }
def TokRowsUptoSaid : Prop := tokRowsUptoRow.holds Try.pinned (OpenSpec.upto tokRowsSpec)

/-- 'gossamerlaw5.TokJoins', WHERE WHAT IT READS IS OF BULK AT MOST 1048576: true; the input reads as it did. -/
def tokJoinsUptoRow : OpenClaim := { program := "ytkdmmmheciffgaa", sum := "8f767087cf9a53d281c3e74496863b628af6a35154b96609dddcb8a517180e12", func := "gossamer/gossamerlaw5.TokJoins", spec := "tokJoins", apart := false, narrowed := true }
def TokJoinsUptoSaid : Prop := tokJoinsUptoRow.holds Try.pinned (OpenSpec.upto tokJoinsSpec)

end Rows
end Go.Proofs.Ytkdmmmheciffgaa
