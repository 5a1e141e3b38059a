/-
  No cell of these rows narrows 'for every input' (looked for: loops, veiled, ifaces, maps, wideKeys, modest, calm, conditions, laid).
  DERIVED. THE GIVEN ROWS OF THIS SEAT. 5 by the template 'for every input the law returns true; each argument reads behind the call as it read before'; 0 by the template 'total and deterministic' (their statements: YtiomkjpgoehchaaTotals.lean).
  GIVEN WITH THE SEED: the statements are not yours to turn. If you find one false, say at which input.
  Laid BY PROGRAM, IN A SANDBOX (cutbox-rows.mjs): the forced cells as the released guide's own fill.sh prints them over the translation d3aa9719608195b0… (all of the seat's roots in one cut). By AI agents, Wed Nov 11 2026. No macro, syntax, notation, axiom, sorry.
-/
import Derived.Test.YtiomkjpgoehchaaChecked
import GoSem.Claim
import GoSem.ClaimJoined
import GoSem.ClaimMapViews
import Derived.JoinedTies
import Derived.KernelRfl
namespace Go.Proofs.Ytiomkjpgoehchaa
/- THE CELL 'sum', in the pinned program and in every row, IS THE sha256 OF THE DUMP (.gsa) THAT YtiomkjpgoehchaaProg.lean LOADS. Nothing in Lean hashes anything: it is a label: what it is worth is what the hold of that sum in a sandbox is worth. -/
noncomputable def Try.pinned : Pinned := { name := "ytiomkjpgoehchaa", sum := "d3aa9719608195b061ac8bcb28b0618c39d6214b501b848d571fb326eef6a23c", checked := Try.checked }
namespace Rows
def none {H : Type} : Left H := { results := [], args := [] }

/-- 'gossamerlaw24.GlobTells': WHATEVER THE INPUT: true; the input reads as it did. -/
def globTellsSpec : ChangeSpec := { name := "globTells", fn := fun _ => fun
  | [d1, d2, d3] => { results := [.lit (.bool true)], args := [d1, d2, d3] }
  | _ => none }
def globTellsRow : OpenClaim := { program := "ytiomkjpgoehchaa", sum := "d3aa9719608195b061ac8bcb28b0618c39d6214b501b848d571fb326eef6a23c", func := "gossamer/gossamerlaw24.GlobTells", spec := "globTells", inPlace := ["internal/bytealg.IndexByteString", "internal/bytealg.IndexString"], named := ["internal/bytealg.MaxLen"], apart := false }
def GlobTellsSaid : Prop := globTellsRow.holds Try.pinned (OpenSpec.ofChange globTellsSpec)

/-- ITS FALSE NEIGHBOUR: 'it returns false'. Refute it at one input. -/
def globTellsWrong : ChangeSpec := { name := "globTells", fn := fun _ => fun
  | [d1, d2, d3] => { results := [.lit (.bool false)], args := [d1, d2, d3] }
  | _ => none }
def GlobTellsWrongFalsely : Prop := globTellsRow.holds Try.pinned (OpenSpec.ofChange globTellsWrong)

/-- 'gossamerlaw24.GlobBest': WHATEVER THE INPUT: true; the input reads as it did. -/
def globBestSpec : ChangeSpec := { name := "globBest", fn := fun _ => fun
  | [d1, d2] => { results := [.lit (.bool true)], args := [d1, d2] }
  | _ => none }
def globBestRow : OpenClaim := { program := "ytiomkjpgoehchaa", sum := "d3aa9719608195b061ac8bcb28b0618c39d6214b501b848d571fb326eef6a23c", func := "gossamer/gossamerlaw24.GlobBest", spec := "globBest", inPlace := ["internal/bytealg.IndexByteString", "internal/bytealg.IndexString"], named := ["internal/bytealg.MaxLen"], apart := false }
def GlobBestSaid : Prop := globBestRow.holds Try.pinned (OpenSpec.ofChange globBestSpec)

/-- ITS FALSE NEIGHBOUR: 'it returns false'. Refute it at one input. -/
def globBestWrong : ChangeSpec := { name := "globBest", fn := fun _ => fun
  | [d1, d2] => { results := [.lit (.bool false)], args := [d1, d2] }
  | _ => none }
def GlobBestWrongFalsely : Prop := globBestRow.holds Try.pinned (OpenSpec.ofChange globBestWrong)

/-- 'gossamerlaw24.GlobFits': WHATEVER THE INPUT: true; the input reads as it did. -/
def globFitsSpec : ChangeSpec := { name := "globFits", fn := fun _ => fun
  | [d1, d2, d3] => { results := [.lit (.bool true)], args := [d1, d2, d3] }
  | _ => none }
def globFitsRow : OpenClaim := { program := "ytiomkjpgoehchaa", sum := "d3aa9719608195b061ac8bcb28b0618c39d6214b501b848d571fb326eef6a23c", func := "gossamer/gossamerlaw24.GlobFits", spec := "globFits", inPlace := ["internal/bytealg.IndexByteString", "internal/bytealg.IndexString"], named := ["internal/bytealg.MaxLen"], apart := false }
def GlobFitsSaid : Prop := globFitsRow.holds Try.pinned (OpenSpec.ofChange globFitsSpec)

/-- ITS FALSE NEIGHBOUR: 'it returns false'. Refute it at one input. -/
def globFitsWrong : ChangeSpec := { name := "globFits", fn := fun _ => fun
  | [d1, d2, d3] => { results := [.lit (.bool false)], args := [d1, d2, d3] }
  | _ => none }
def GlobFitsWrongFalsely : Prop := globFitsRow.holds Try.pinned (OpenSpec.ofChange globFitsWrong)

/-- 'gossamerlaw24.GlobOrders': WHATEVER THE INPUT: true; the input reads as it did. -/
def globOrdersSpec : ChangeSpec := { name := "globOrders", fn := fun _ => fun
  | [d1, d2, d3] => { results := [.lit (.bool true)], args := [d1, d2, d3] }
  | _ => none }
def globOrdersRow : OpenClaim := { program := "ytiomkjpgoehchaa", sum := "d3aa9719608195b061ac8bcb28b0618c39d6214b501b848d571fb326eef6a23c", func := "gossamer/gossamerlaw24.GlobOrders", spec := "globOrders", inPlace := ["internal/bytealg.IndexByteString", "internal/bytealg.IndexString"], named := ["internal/bytealg.MaxLen"], apart := false }
def GlobOrdersSaid : Prop := globOrdersRow.holds Try.pinned (OpenSpec.ofChange globOrdersSpec)

/-- ITS FALSE NEIGHBOUR: 'it returns false'. Refute it at one input. -/
def globOrdersWrong : ChangeSpec := { name := "globOrders", fn := fun _ => fun
  | [d1, d2, d3] => { results := [.lit (.bool false)], args := [d1, d2, d3] }
  | _ => none }
def GlobOrdersWrongFalsely : Prop := globOrdersRow.holds Try.pinned (OpenSpec.ofChange globOrdersWrong)

/-- 'gossamerlaw24.GlobTurns': WHATEVER THE INPUT: true; the input reads as it did. -/
def globTurnsSpec : ChangeSpec := { name := "globTurns", fn := fun _ => fun
  | [d1, d2] => { results := [.lit (.bool true)], args := [d1, d2] }
  | _ => none }
def globTurnsRow : OpenClaim := { program := "ytiomkjpgoehchaa", sum := "d3aa9719608195b061ac8bcb28b0618c39d6214b501b848d571fb326eef6a23c", func := "gossamer/gossamerlaw24.GlobTurns", spec := "globTurns", inPlace := ["internal/bytealg.IndexByteString", "internal/bytealg.IndexString"], named := ["internal/bytealg.MaxLen"], apart := false }
def GlobTurnsSaid : Prop := globTurnsRow.holds Try.pinned (OpenSpec.ofChange globTurnsSpec)

/-- ITS FALSE NEIGHBOUR: 'it returns false'. Refute it at one input. -/
def globTurnsWrong : ChangeSpec := { name := "globTurns", fn := fun _ => fun
  | [d1, d2] => { results := [.lit (.bool false)], args := [d1, d2] }
  | _ => none }
def GlobTurnsWrongFalsely : Prop := globTurnsRow.holds Try.pinned (OpenSpec.ofChange globTurnsWrong)

/- THE SECOND FORM. 'bulk': how many values and letters a reading holds, each counted each time it is reached (what is shared counts as often as it is met; a slice's spare places count too). A statement '..UptoSaid' is the law's where the arguments, and the package variables that the reading takes, are together of bulk at most 1048576: NARROWER than '..Said'. Prove '..Said' where nothing that the law and all that it calls make is longer than what came in: it says more and counts as full. Else prove '..UptoSaid'. A law counts once. -/
mutual
def uptoBulk {H : Type} : DataW H → Nat
  | .lit (.string bytes) => bytes.length + 1
  | .lit _ => 1
  | .nil => 1
  | .ptr d => uptoBulk d + 1
  | .slice elems spare => uptoBulkAll elems + uptoBulkAll spare + 1
  | .agg parts => uptoBulkAll parts + 1
  | .iface _ d => uptoBulk d + 1
  | .map entries => uptoBulkEntries entries + 1
  | .held _ => 1
def uptoBulkAll {H : Type} : List (DataW H) → Nat
  | [] => 0
  | d :: r => uptoBulk d + uptoBulkAll r
def uptoBulkEntries {H : Type} : List (Lit × DataW H) → Nat
  | [] => 0
  | x :: r => uptoBulkEntry x + uptoBulkEntries r
def uptoBulkEntry {H : Type} : Lit × DataW H → Nat
  | (.string bytes, d) => bytes.length + uptoBulk d + 1
  | (_, d) => uptoBulk d + 1
 end
def uptoSmall : (H : Type) → List (DataW H) → Bool := fun _ ds => decide (uptoBulkAll ds ≤ 1048576)
def OpenSpec.upto (s : _root_.Go.ChangeSpec) : _root_.Go.OpenSpec := { _root_.Go.OpenSpec.ofChange s with cond := some uptoSmall }

/-- 'gossamerlaw24.GlobTells', WHERE WHAT IT READS IS OF BULK AT MOST 1048576: true; the input reads as it did. -/
def globTellsUptoRow : OpenClaim := { program := "ytiomkjpgoehchaa", sum := "d3aa9719608195b061ac8bcb28b0618c39d6214b501b848d571fb326eef6a23c", func := "gossamer/gossamerlaw24.GlobTells", spec := "globTells", inPlace := ["internal/bytealg.IndexByteString", "internal/bytealg.IndexString"], named := ["internal/bytealg.MaxLen"], apart := false, narrowed := true }
def GlobTellsUptoSaid : Prop := globTellsUptoRow.holds Try.pinned (OpenSpec.upto globTellsSpec)

/-- 'gossamerlaw24.GlobBest', WHERE WHAT IT READS IS OF BULK AT MOST 1048576: true; the input reads as it did. -/
def globBestUptoRow : OpenClaim := { program := "ytiomkjpgoehchaa", sum := "d3aa9719608195b061ac8bcb28b0618c39d6214b501b848d571fb326eef6a23c", func := "gossamer/gossamerlaw24.GlobBest", spec := "globBest", inPlace := ["internal/bytealg.IndexByteString", "internal/bytealg.IndexString"], named := ["internal/bytealg.MaxLen"], apart := false, narrowed := true }
def GlobBestUptoSaid : Prop := globBestUptoRow.holds Try.pinned (OpenSpec.upto globBestSpec)

/-- 'gossamerlaw24.GlobFits', WHERE WHAT IT READS IS OF BULK AT MOST 1048576: true; the input reads as it did. -/
def globFitsUptoRow : OpenClaim := { program := "ytiomkjpgoehchaa", sum := "d3aa9719608195b061ac8bcb28b0618c39d6214b501b848d571fb326eef6a23c", func := "gossamer/gossamerlaw24.GlobFits", spec := "globFits", inPlace := ["internal/bytealg.IndexByteString", "internal/bytealg.IndexString"], named := ["internal/bytealg.MaxLen"], apart := false, narrowed := true }
def GlobFitsUptoSaid : Prop := globFitsUptoRow.holds Try.pinned (OpenSpec.upto globFitsSpec)

/-- 'gossamerlaw24.GlobOrders', WHERE WHAT IT READS IS OF BULK AT MOST 1048576: true; the input reads as it did. -/
def globOrdersUptoRow : OpenClaim := { program := "ytiomkjpgoehchaa", sum := "d3aa9719608195b061ac8bcb28b0618c39d6214b501b848d571fb326eef6a23c", func := "gossamer/gossamerlaw24.GlobOrders", spec := "globOrders", inPlace := ["internal/bytealg.IndexByteString", "internal/bytealg.IndexString"], named := ["internal/bytealg.MaxLen"], apart := false, narrowed := true }
def GlobOrdersUptoSaid : Prop := globOrdersUptoRow.holds Try.pinned (OpenSpec.upto globOrdersSpec)

/-- 'gossamerlaw24.GlobTurns', WHERE WHAT IT READS IS OF BULK AT MOST 1048576: true; the input reads as it did. -/
def globTurnsUptoRow : OpenClaim := { program := "ytiomkjpgoehchaa", sum := "d3aa9719608195b061ac8bcb28b0618c39d6214b501b848d571fb326eef6a23c", func := "gossamer/gossamerlaw24.GlobTurns", spec := "globTurns", inPlace := ["internal/bytealg.IndexByteString", "internal/bytealg.IndexString"], named := ["internal/bytealg.MaxLen"], apart := false, narrowed := true }
def GlobTurnsUptoSaid : Prop := globTurnsUptoRow.holds Try.pinned (OpenSpec.upto globTurnsSpec)

end Rows
end Go.Proofs.Ytiomkjpgoehchaa
