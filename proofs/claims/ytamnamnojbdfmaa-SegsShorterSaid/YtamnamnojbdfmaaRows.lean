/-
  No cell of these rows narrows 'for every input' (looked for: loops, veiled, ifaces, maps, wideKeys, modest, calm, conditions, laid).
  DERIVED. THE GIVEN ROWS OF THIS SEAT. 4 by the template 'for every input the law returns true; each argument reads behind the call as it read before'; 0 by the template 'total and deterministic' (their statements: YtamnamnojbdfmaaTotals.lean).
  GIVEN WITH THE SEED: the statements are not yours to turn. If you find one false, say at which input.
  Laid BY PROGRAM, IN A SANDBOX (cutbox-rows.mjs): the forced cells as the released guide's own fill.sh prints them over the translation a3405436d767df04… (all of the seat's roots in one cut). By AI agents, Wed Nov 11 2026. No macro, syntax, notation, axiom, sorry.
-/
import Derived.Test.YtamnamnojbdfmaaChecked
import GoSem.Claim
import GoSem.ClaimJoined
import GoSem.ClaimMapViews
import Derived.JoinedTies
import Derived.KernelRfl
namespace Go.Proofs.Ytamnamnojbdfmaa
/- THE CELL 'sum', in the pinned program and in every row, IS THE sha256 OF THE DUMP (.gsa) THAT YtamnamnojbdfmaaProg.lean LOADS. Nothing in Lean hashes anything: it is a label: what it is worth is what the hold of that sum in a sandbox is worth. -/
noncomputable def Try.pinned : Pinned := { name := "ytamnamnojbdfmaa", sum := "a3405436d767df043213823d7895c430dd676972393c99a4944e931adea99a17", checked := Try.checked }
namespace Rows
def none {H : Type} : Left H := { results := [], args := [] }

/-- 'gossamerlaw11.SegsTells': WHATEVER THE INPUT: true; the input reads as it did. -/
def segsTellsSpec : ChangeSpec := { name := "segsTells", fn := fun _ => fun
  | [d] => { results := [.lit (.bool true)], args := [d] }
  | _ => none }
def segsTellsRow : OpenClaim := { program := "ytamnamnojbdfmaa", sum := "a3405436d767df043213823d7895c430dd676972393c99a4944e931adea99a17", func := "gossamer/gossamerlaw11.SegsTells", spec := "segsTells", apart := false }
def SegsTellsSaid : Prop := segsTellsRow.holds Try.pinned (OpenSpec.ofChange segsTellsSpec)

/-- ITS FALSE NEIGHBOUR: 'it returns false'. Refute it at one input. -/
def segsTellsWrong : ChangeSpec := { name := "segsTells", fn := fun _ => fun
  | [d] => { results := [.lit (.bool false)], args := [d] }
  | _ => none }
def SegsTellsWrongFalsely : Prop := segsTellsRow.holds Try.pinned (OpenSpec.ofChange segsTellsWrong)

/-- 'gossamerlaw11.SegsShorter': WHATEVER THE INPUT: true; the input reads as it did. -/
def segsShorterSpec : ChangeSpec := { name := "segsShorter", fn := fun _ => fun
  | [d1, d2] => { results := [.lit (.bool true)], args := [d1, d2] }
  | _ => none }
def segsShorterRow : OpenClaim := { program := "ytamnamnojbdfmaa", sum := "a3405436d767df043213823d7895c430dd676972393c99a4944e931adea99a17", func := "gossamer/gossamerlaw11.SegsShorter", spec := "segsShorter", apart := false }
def SegsShorterSaid : Prop := segsShorterRow.holds Try.pinned (OpenSpec.ofChange segsShorterSpec)

/-- ITS FALSE NEIGHBOUR: 'it returns false'. Refute it at one input. -/
def segsShorterWrong : ChangeSpec := { name := "segsShorter", fn := fun _ => fun
  | [d1, d2] => { results := [.lit (.bool false)], args := [d1, d2] }
  | _ => none }
def SegsShorterWrongFalsely : Prop := segsShorterRow.holds Try.pinned (OpenSpec.ofChange segsShorterWrong)

/-- 'gossamerlaw11.SegsDots': WHATEVER THE INPUT: true; the input reads as it did. -/
def segsDotsSpec : ChangeSpec := { name := "segsDots", fn := fun _ => fun
  | [d1, d2, d3] => { results := [.lit (.bool true)], args := [d1, d2, d3] }
  | _ => none }
def segsDotsRow : OpenClaim := { program := "ytamnamnojbdfmaa", sum := "a3405436d767df043213823d7895c430dd676972393c99a4944e931adea99a17", func := "gossamer/gossamerlaw11.SegsDots", spec := "segsDots", apart := false }
def SegsDotsSaid : Prop := segsDotsRow.holds Try.pinned (OpenSpec.ofChange segsDotsSpec)

/-- ITS FALSE NEIGHBOUR: 'it returns false'. Refute it at one input. -/
def segsDotsWrong : ChangeSpec := { name := "segsDots", fn := fun _ => fun
  | [d1, d2, d3] => { results := [.lit (.bool false)], args := [d1, d2, d3] }
  | _ => none }
def SegsDotsWrongFalsely : Prop := segsDotsRow.holds Try.pinned (OpenSpec.ofChange segsDotsWrong)

/-- 'gossamerlaw11.SegsDrives': WHATEVER THE INPUT: true; the input reads as it did. -/
def segsDrivesSpec : ChangeSpec := { name := "segsDrives", fn := fun _ => fun
  | [d1, d2, d3] => { results := [.lit (.bool true)], args := [d1, d2, d3] }
  | _ => none }
def segsDrivesRow : OpenClaim := { program := "ytamnamnojbdfmaa", sum := "a3405436d767df043213823d7895c430dd676972393c99a4944e931adea99a17", func := "gossamer/gossamerlaw11.SegsDrives", spec := "segsDrives", apart := false }
def SegsDrivesSaid : Prop := segsDrivesRow.holds Try.pinned (OpenSpec.ofChange segsDrivesSpec)

/-- ITS FALSE NEIGHBOUR: 'it returns false'. Refute it at one input. -/
def segsDrivesWrong : ChangeSpec := { name := "segsDrives", fn := fun _ => fun
  | [d1, d2, d3] => { results := [.lit (.bool false)], args := [d1, d2, d3] }
  | _ => none }
def SegsDrivesWrongFalsely : Prop := segsDrivesRow.holds Try.pinned (OpenSpec.ofChange segsDrivesWrong)

/- THE SECOND FORM. 'bulk': how many values and letters a reading holds, each counted each time it is reached (what is shared counts as often as it is met; a slice's spare places count too). A statement '..UptoSaid' is the law's where the arguments, and the package variables that the reading takes, are together of bulk at most 1048576: NARROWER than '..Said'. Prove '..Said' where nothing that the law and all that it calls make is longer than what came in: it says more and counts as full. Else prove '..UptoSaid'. A law counts once. -/
mutual
def uptoBulk {H : Type} : DataW H → Nat
  | .lit (.string bytes) => bytes.length + 1
  | .lit _ => 1
  | .nil => 1
  | .ptr d => uptoBulk d + 1
  | .slice elems spare => uptoBulkAll elems + uptoBulkAll spare + 1
  | .agg parts => uptoBulkAll parts + 1
  | .iface _ d => uptoBulk d + 1
  | .map entries => uptoBulkEntries entries + 1
  | .held _ => 1
def uptoBulkAll {H : Type} : List (DataW H) → Nat
  | [] => 0
  | d :: r => uptoBulk d + uptoBulkAll r
def uptoBulkEntries {H : Type} : List (Lit × DataW H) → Nat
  | [] => 0
  | x :: r => uptoBulkEntry x + uptoBulkEntries r
def uptoBulkEntry {H : Type} : Lit × DataW H → Nat
  | (.string bytes, d) => bytes.length + uptoBulk d + 1
  | (_, d) => uptoBulk d + 1
 end
def uptoSmall : (H : Type) → List (DataW H) → Bool := fun _ ds => decide (uptoBulkAll ds ≤ 1048576)
def OpenSpec.upto (s : _root_.Go.ChangeSpec) : _root_.Go.OpenSpec := { _root_.Go.OpenSpec.ofChange s with cond := some uptoSmall }

/-- 'gossamerlaw11.SegsTells', WHERE WHAT IT READS IS OF BULK AT MOST 1048576: true; the input reads as it did. -/
def segsTellsUptoRow : OpenClaim := { program := "ytamnamnojbdfmaa", sum := "a3405436d767df043213823d7895c430dd676972393c99a4944e931adea99a17", func := "gossamer/gossamerlaw11.SegsTells", spec := "segsTells", apart := false, narrowed := true }
def SegsTellsUptoSaid : Prop := segsTellsUptoRow.holds Try.pinned (OpenSpec.upto segsTellsSpec)

/-- 'gossamerlaw11.SegsShorter', WHERE WHAT IT READS IS OF BULK AT MOST 1048576: true; the input reads as it did. -/
def segsShorterUptoRow : OpenClaim := { program := "ytamnamnojbdfmaa", sum := "a3405436d767df043213823d7895c430dd676972393c99a4944e931adea99a17", func := "gossamer/gossamerlaw11.SegsShorter", spec := "segsShorter", apart := false, narrowed := true }
def SegsShorterUptoSaid : Prop := segsShorterUptoRow.holds Try.pinned (OpenSpec.upto segsShorterSpec)

/-- 'gossamerlaw11.SegsDots', WHERE WHAT IT READS IS OF BULK AT MOST 1048576: true; the input reads as it did. -/
def segsDotsUptoRow : OpenClaim := { program := "ytamnamnojbdfmaa", sum := "a3405436d767df043213823d7895c430dd676972393c99a4944e931adea99a17", func := "gossamer/gossamerlaw11.SegsDots", spec := "segsDots", apart := false, narrowed := true }
def SegsDotsUptoSaid : Prop := segsDotsUptoRow.holds Try.pinned (OpenSpec.upto segsDotsSpec)

/-- 'gossamerlaw11.SegsDrives', WHERE WHAT IT READS IS OF BULK AT MOST 1048576: true; the input reads as it did. -/
def segsDrivesUptoRow : OpenClaim := { program := "ytamnamnojbdfmaa", sum := "a3405436d767df043213823d7895c430dd676972393c99a4944e931adea99a17", func := "gossamer/gossamerlaw11.SegsDrives", spec := "segsDrives", apart := false, narrowed := true }
def SegsDrivesUptoSaid : Prop := segsDrivesUptoRow.holds Try.pinned (OpenSpec.upto segsDrivesSpec)

end Rows
end Go.Proofs.Ytamnamnojbdfmaa
