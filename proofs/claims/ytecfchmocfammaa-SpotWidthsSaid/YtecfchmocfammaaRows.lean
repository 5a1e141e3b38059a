/-
  No cell of these rows narrows 'for every input' (looked for: loops, veiled, ifaces, maps, wideKeys, modest, calm, conditions, laid).
  DERIVED. THE GIVEN ROWS OF THIS SEAT. 5 by the template 'for every input the law returns true; each argument reads behind the call as it read before'; 0 by the template 'total and deterministic' (their statements: YtecfchmocfammaaTotals.lean).
  GIVEN WITH THE SEED: the statements are not yours to turn. If you find one false, say at which input.
  Laid BY PROGRAM, IN A SANDBOX (cutbox-rows.mjs): the forced cells as the released guide's own fill.sh prints them over the translation df3517de14c51643… (all of the seat's roots in one cut). By AI agents, Wed Nov 11 2026. No macro, syntax, notation, axiom, sorry.
-/
import Derived.Test.YtecfchmocfammaaChecked
import GoSem.Claim
import GoSem.ClaimJoined
import GoSem.ClaimMapViews
import Derived.JoinedTies
import Derived.KernelRfl
namespace Go.Proofs.Ytecfchmocfammaa
/- THE CELL 'sum', in the pinned program and in every row, IS THE sha256 OF THE DUMP (.gsa) THAT YtecfchmocfammaaProg.lean LOADS. Nothing in Lean hashes anything: it is a label: what it is worth is what the hold of that sum in a sandbox is worth. -/
noncomputable def Try.pinned : Pinned := { name := "ytecfchmocfammaa", sum := "df3517de14c51643882056d27118f86b40e02f83c5d78b0d347b09e2efebe63b", checked := Try.checked }
namespace Rows
def none {H : Type} : Left H := { results := [], args := [] }

/-- 'gossamerlaw3.SpotTells': WHATEVER THE INPUT: true; the input reads as it did. -/
def spotTellsSpec : ChangeSpec := { name := "spotTells", fn := fun _ => fun
  | [d1, d2] => { results := [.lit (.bool true)], args := [d1, d2] }
  | _ => none }
def spotTellsRow : OpenClaim := { program := "ytecfchmocfammaa", sum := "df3517de14c51643882056d27118f86b40e02f83c5d78b0d347b09e2efebe63b", func := "gossamer/gossamerlaw3.SpotTells", spec := "spotTells", apart := false }
def SpotTellsSaid : Prop := spotTellsRow.holds Try.pinned (OpenSpec.ofChange spotTellsSpec)

/-- ITS FALSE NEIGHBOUR: 'it returns false'. Refute it at one input. -/
def spotTellsWrong : ChangeSpec := { name := "spotTells", fn := fun _ => fun
  | [d1, d2] => { results := [.lit (.bool false)], args := [d1, d2] }
  | _ => none }
def SpotTellsWrongFalsely : Prop := spotTellsRow.holds Try.pinned (OpenSpec.ofChange spotTellsWrong)

/-- 'gossamerlaw3.SpotSums': WHATEVER THE INPUT: true; the input reads as it did. -/
def spotSumsSpec : ChangeSpec := { name := "spotSums", fn := fun _ => fun
  | [d] => { results := [.lit (.bool true)], args := [d] }
  | _ => none }
def spotSumsRow : OpenClaim := { program := "ytecfchmocfammaa", sum := "df3517de14c51643882056d27118f86b40e02f83c5d78b0d347b09e2efebe63b", func := "gossamer/gossamerlaw3.SpotSums", spec := "spotSums", apart := false }
def SpotSumsSaid : Prop := spotSumsRow.holds Try.pinned (OpenSpec.ofChange spotSumsSpec)

/-- ITS FALSE NEIGHBOUR: 'it returns false'. Refute it at one input. -/
def spotSumsWrong : ChangeSpec := { name := "spotSums", fn := fun _ => fun
  | [d] => { results := [.lit (.bool false)], args := [d] }
  | _ => none }
def SpotSumsWrongFalsely : Prop := spotSumsRow.holds Try.pinned (OpenSpec.ofChange spotSumsWrong)

/-- 'gossamerlaw3.SpotGoes': WHATEVER THE INPUT: true; the input reads as it did. -/
def spotGoesSpec : ChangeSpec := { name := "spotGoes", fn := fun _ => fun
  | [d1, d2, d3, d4] => { results := [.lit (.bool true)], args := [d1, d2, d3, d4] }
  | _ => none }
def spotGoesRow : OpenClaim := { program := "ytecfchmocfammaa", sum := "df3517de14c51643882056d27118f86b40e02f83c5d78b0d347b09e2efebe63b", func := "gossamer/gossamerlaw3.SpotGoes", spec := "spotGoes", apart := false }
def SpotGoesSaid : Prop := spotGoesRow.holds Try.pinned (OpenSpec.ofChange spotGoesSpec)

/-- ITS FALSE NEIGHBOUR: 'it returns false'. Refute it at one input. -/
def spotGoesWrong : ChangeSpec := { name := "spotGoes", fn := fun _ => fun
  | [d1, d2, d3, d4] => { results := [.lit (.bool false)], args := [d1, d2, d3, d4] }
  | _ => none }
def SpotGoesWrongFalsely : Prop := spotGoesRow.holds Try.pinned (OpenSpec.ofChange spotGoesWrong)

/-- 'gossamerlaw3.SpotLines': WHATEVER THE INPUT: true; the input reads as it did. -/
def spotLinesSpec : ChangeSpec := { name := "spotLines", fn := fun _ => fun
  | [d1, d2, d3] => { results := [.lit (.bool true)], args := [d1, d2, d3] }
  | _ => none }
def spotLinesRow : OpenClaim := { program := "ytecfchmocfammaa", sum := "df3517de14c51643882056d27118f86b40e02f83c5d78b0d347b09e2efebe63b", func := "gossamer/gossamerlaw3.SpotLines", spec := "spotLines", apart := false }
def SpotLinesSaid : Prop := spotLinesRow.holds Try.pinned (OpenSpec.ofChange spotLinesSpec)

/-- ITS FALSE NEIGHBOUR: 'it returns false'. Refute it at one input. -/
def spotLinesWrong : ChangeSpec := { name := "spotLines", fn := fun _ => fun
  | [d1, d2, d3] => { results := [.lit (.bool false)], args := [d1, d2, d3] }
  | _ => none }
def SpotLinesWrongFalsely : Prop := spotLinesRow.holds Try.pinned (OpenSpec.ofChange spotLinesWrong)

/-- 'gossamerlaw3.SpotWidths': WHATEVER THE INPUT: true; the input reads as it did. -/
def spotWidthsSpec : ChangeSpec := { name := "spotWidths", fn := fun _ => fun
  | [d1, d2] => { results := [.lit (.bool true)], args := [d1, d2] }
  | _ => none }
def spotWidthsRow : OpenClaim := { program := "ytecfchmocfammaa", sum := "df3517de14c51643882056d27118f86b40e02f83c5d78b0d347b09e2efebe63b", func := "gossamer/gossamerlaw3.SpotWidths", spec := "spotWidths", apart := false }
def SpotWidthsSaid : Prop := spotWidthsRow.holds Try.pinned (OpenSpec.ofChange spotWidthsSpec)

/-- ITS FALSE NEIGHBOUR: 'it returns false'. Refute it at one input. -/
def spotWidthsWrong : ChangeSpec := { name := "spotWidths", fn := fun _ => fun
  | [d1, d2] => { results := [.lit (.bool false)], args := [d1, d2] }
  | _ => none }
def SpotWidthsWrongFalsely : Prop := spotWidthsRow.holds Try.pinned (OpenSpec.ofChange spotWidthsWrong)

/- THE SECOND FORM. 'bulk': how many values and letters a reading holds, each counted each time it is reached (what is shared counts as often as it is met; a slice's spare places count too). A statement '..UptoSaid' is the law's where the arguments, and the package variables that the reading takes, are together of bulk at most 1048576: NARROWER than '..Said'. Prove '..Said' where nothing that the law and all that it calls make is longer than what came in: it says more and counts as full. Else prove '..UptoSaid'. A law counts once. -/
mutual
def uptoBulk {H : Type} : DataW H → Nat
  | .lit (.string bytes) => bytes.length + 1
  | .lit _ => 1
  | .nil => 1
  | .ptr d => uptoBulk d + 1
  | .slice elems spare => uptoBulkAll elems + uptoBulkAll spare + 1
  | .agg parts => uptoBulkAll parts + 1
  | .iface _ d => uptoBulk d + 1
  | .map entries => uptoBulkEntries entries + 1
  | .held _ => 1
def uptoBulkAll {H : Type} : List (DataW H) → Nat
  | [] => 0
  | d :: r => uptoBulk d + uptoBulkAll r
def uptoBulkEntries {H : Type} : List (Lit × DataW H) → Nat
  | [] => 0
  | x :: r => uptoBulkEntry x + uptoBulkEntries r
def uptoBulkEntry {H : Type} : Lit × DataW H → Nat
  | (.string bytes, d) => bytes.length + uptoBulk d + 1
  | (_, d) => uptoBulk d + 1
 end
def uptoSmall : (H : Type) → List (DataW H) → Bool := fun _ ds => decide (uptoBulkAll ds ≤ 1048576)
def OpenSpec.upto (s : _root_.Go.ChangeSpec) : _root_.Go.OpenSpec := { _root_.Go.OpenSpec.ofChange s with cond := some uptoSmall }

/-- 'gossamerlaw3.SpotTells', WHERE WHAT IT READS IS OF BULK AT MOST 1048576: true; the input reads as it did. -/
def spotTellsUptoRow : OpenClaim := { program := "ytecfchmocfammaa", sum := "df3517de14c51643882056d27118f86b40e02f83c5d78b0d347b09e2efebe63b", func := "gossamer/gossamerlaw3.SpotTells", spec := "spotTells", apart := false, narrowed := true }
def SpotTellsUptoSaid : Prop := spotTellsUptoRow.holds Try.pinned (OpenSpec.upto spotTellsSpec)

/-- 'gossamerlaw3.SpotSums', WHERE WHAT IT READS IS OF BULK AT MOST 1048576: true; the input reads as it did. -/
def spotSumsUptoRow : OpenClaim := { program := "ytecfchmocfammaa", sum := "df3517de14c51643882056d27118f86b40e02f83c5d78b0d347b09e2efebe63b", func := "gossamer/gossamerlaw3.SpotSums", spec := "spotSums", apart := false, narrowed := true }
def SpotSumsUptoSaid : Prop := spotSumsUptoRow.holds Try.pinned (OpenSpec.upto spotSumsSpec)

/-- 'gossamerlaw3.SpotGoes', WHERE WHAT IT READS IS OF BULK AT MOST 1048576: true; the input reads as it did. -/
def spotGoesUptoRow : OpenClaim := { program := "ytecfchmocfammaa", sum := "df3517de14c51643882056d27118f86b40e02f83c5d78b0d347b09e2efebe63b", func := "gossamer/gossamerlaw3.SpotGoes", spec := "spotGoes", apart := false, narrowed := true }
def SpotGoesUptoSaid : Prop := spotGoesUptoRow.holds Try.pinned (OpenSpec.upto spotGoesSpec)

/-- 'gossamerlaw3.SpotLines', WHERE WHAT IT READS IS OF BULK AT MOST 1048576: true; the input reads as it did. -/
def spotLinesUptoRow : OpenClaim := { program := "ytecfchmocfammaa", sum := "df3517de14c51643882056d27118f86b40e02f83c5d78b0d347b09e2efebe63b", func := "gossamer/gossamerlaw3.SpotLines", spec := "spotLines", apart := false, narrowed := true }
def SpotLinesUptoSaid : Prop := spotLinesUptoRow.holds Try.pinned (OpenSpec.upto spotLinesSpec)

/-- 'gossamerlaw3.SpotWidths', WHERE WHAT IT READS IS OF BULK AT MOST 1048576: true; the input reads as it did. -/
def spotWidthsUptoRow : OpenClaim := { program := "ytecfchmocfammaa", sum := "df3517de14c51643882056d27118f86b40e02f83c5d78b0d347b09e2efebe63b", func := "gossamer/gossamerlaw3.SpotWidths", spec := "spotWidths", apart := false, narrowed := true }
def SpotWidthsUptoSaid : Prop := spotWidthsUptoRow.holds Try.pinned (OpenSpec.upto spotWidthsSpec)

end Rows
end Go.Proofs.Ytecfchmocfammaa
