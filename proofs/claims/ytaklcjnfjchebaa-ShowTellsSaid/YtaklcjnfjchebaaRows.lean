/-
  NARROWER THAN 'FOR EVERY INPUT', by the rows' own cells (each row's printed sentence says how): ShowTells: loops · ShowSame: loops · ShowBack: loops · ShowApart: loops · ShowNests: loops.
  DERIVED. THE GIVEN ROWS OF THIS SEAT. 6 by the template 'for every input the law returns true; each argument reads behind the call as it read before'; 0 by the template 'total and deterministic' (their statements: YtaklcjnfjchebaaTotals.lean).
  GIVEN WITH THE SEED: the statements are not yours to turn. If you find one false, say at which input.
  Laid BY PROGRAM, IN A SANDBOX (cutbox-rows.mjs): the forced cells as the released guide's own fill.sh prints them over the translation 708f409b9bd5543a… (all of the seat's roots in one cut). By AI agents, Wed Nov 11 2026. No macro, syntax, notation, axiom, sorry.
-/
import Derived.Test.YtaklcjnfjchebaaChecked
import GoSem.Claim
import GoSem.ClaimJoined
import GoSem.ClaimMapViews
import Derived.JoinedTies
import Derived.KernelRfl
namespace Go.Proofs.Ytaklcjnfjchebaa
/- THE CELL 'sum', in the pinned program and in every row, IS THE sha256 OF THE DUMP (.gsa) THAT YtaklcjnfjchebaaProg.lean LOADS. Nothing in Lean hashes anything: it is a label: what it is worth is what the hold of that sum in a sandbox is worth. -/
noncomputable def Try.pinned : Pinned := { name := "ytaklcjnfjchebaa", sum := "708f409b9bd5543a22cbf67f1952e4c4d6dfbd77d34c4341af91963955e1c930", checked := Try.checked }
namespace Rows
def none {H : Type} : Left H := { results := [], args := [] }

/-- 'gossamerlaw7.ShowTells': WHATEVER THE INPUT: true; the input reads as it did. -/
def showTellsSpec : ChangeSpec := { name := "showTells", fn := fun _ => fun
  | [d] => { results := [.lit (.bool true)], args := [d] }
  | _ => none }
def showTellsRow : OpenClaim := { program := "ytaklcjnfjchebaa", sum := "708f409b9bd5543a22cbf67f1952e4c4d6dfbd77d34c4341af91963955e1c930", func := "gossamer/gossamerlaw7.ShowTells", spec := "showTells", recurses := true, loops := true, apart := false }
def ShowTellsSaid : Prop := showTellsRow.holds Try.pinned (OpenSpec.ofChange showTellsSpec)

/-- ITS FALSE NEIGHBOUR: 'it returns false'. Refute it at one input. -/
def showTellsWrong : ChangeSpec := { name := "showTells", fn := fun _ => fun
  | [d] => { results := [.lit (.bool false)], args := [d] }
  | _ => none }
def ShowTellsWrongFalsely : Prop := showTellsRow.holds Try.pinned (OpenSpec.ofChange showTellsWrong)

/-- 'gossamerlaw7.ShowSame': WHATEVER THE INPUT: true; the input reads as it did. -/
def showSameSpec : ChangeSpec := { name := "showSame", fn := fun _ => fun
  | [d1, d2] => { results := [.lit (.bool true)], args := [d1, d2] }
  | _ => none }
def showSameRow : OpenClaim := { program := "ytaklcjnfjchebaa", sum := "708f409b9bd5543a22cbf67f1952e4c4d6dfbd77d34c4341af91963955e1c930", func := "gossamer/gossamerlaw7.ShowSame", spec := "showSame", recurses := true, loops := true, apart := false }
def ShowSameSaid : Prop := showSameRow.holds Try.pinned (OpenSpec.ofChange showSameSpec)

/-- ITS FALSE NEIGHBOUR: 'it returns false'. Refute it at one input. -/
def showSameWrong : ChangeSpec := { name := "showSame", fn := fun _ => fun
  | [d1, d2] => { results := [.lit (.bool false)], args := [d1, d2] }
  | _ => none }
def ShowSameWrongFalsely : Prop := showSameRow.holds Try.pinned (OpenSpec.ofChange showSameWrong)

/-- 'gossamerlaw7.ShowBack': WHATEVER THE INPUT: true; the input reads as it did. -/
def showBackSpec : ChangeSpec := { name := "showBack", fn := fun _ => fun
  | [d] => { results := [.lit (.bool true)], args := [d] }
  | _ => none }
def showBackRow : OpenClaim := { program := "ytaklcjnfjchebaa", sum := "708f409b9bd5543a22cbf67f1952e4c4d6dfbd77d34c4341af91963955e1c930", func := "gossamer/gossamerlaw7.ShowBack", spec := "showBack", recurses := true, loops := true, apart := false }
def ShowBackSaid : Prop := showBackRow.holds Try.pinned (OpenSpec.ofChange showBackSpec)

/-- ITS FALSE NEIGHBOUR: 'it returns false'. Refute it at one input. -/
def showBackWrong : ChangeSpec := { name := "showBack", fn := fun _ => fun
  | [d] => { results := [.lit (.bool false)], args := [d] }
  | _ => none }
def ShowBackWrongFalsely : Prop := showBackRow.holds Try.pinned (OpenSpec.ofChange showBackWrong)

/-- 'gossamerlaw7.ShowApart': WHATEVER THE INPUT: true; the input reads as it did. -/
def showApartSpec : ChangeSpec := { name := "showApart", fn := fun _ => fun
  | [d1, d2] => { results := [.lit (.bool true)], args := [d1, d2] }
  | _ => none }
def showApartRow : OpenClaim := { program := "ytaklcjnfjchebaa", sum := "708f409b9bd5543a22cbf67f1952e4c4d6dfbd77d34c4341af91963955e1c930", func := "gossamer/gossamerlaw7.ShowApart", spec := "showApart", recurses := true, loops := true, apart := false }
def ShowApartSaid : Prop := showApartRow.holds Try.pinned (OpenSpec.ofChange showApartSpec)

/-- ITS FALSE NEIGHBOUR: 'it returns false'. Refute it at one input. -/
def showApartWrong : ChangeSpec := { name := "showApart", fn := fun _ => fun
  | [d1, d2] => { results := [.lit (.bool false)], args := [d1, d2] }
  | _ => none }
def ShowApartWrongFalsely : Prop := showApartRow.holds Try.pinned (OpenSpec.ofChange showApartWrong)

/-- 'gossamerlaw7.ShowRead': WHATEVER THE INPUT: true; the input reads as it did. -/
def showReadSpec : ChangeSpec := { name := "showRead", fn := fun _ => fun
  | [d] => { results := [.lit (.bool true)], args := [d] }
  | _ => none }
def showReadRow : OpenClaim := { program := "ytaklcjnfjchebaa", sum := "708f409b9bd5543a22cbf67f1952e4c4d6dfbd77d34c4341af91963955e1c930", func := "gossamer/gossamerlaw7.ShowRead", spec := "showRead", recurses := true, apart := false }
def ShowReadSaid : Prop := showReadRow.holds Try.pinned (OpenSpec.ofChange showReadSpec)

/-- ITS FALSE NEIGHBOUR: 'it returns false'. Refute it at one input. -/
def showReadWrong : ChangeSpec := { name := "showRead", fn := fun _ => fun
  | [d] => { results := [.lit (.bool false)], args := [d] }
  | _ => none }
def ShowReadWrongFalsely : Prop := showReadRow.holds Try.pinned (OpenSpec.ofChange showReadWrong)

/-- 'gossamerlaw7.ShowNests': WHATEVER THE INPUT: true; the input reads as it did. -/
def showNestsSpec : ChangeSpec := { name := "showNests", fn := fun _ => fun
  | [d] => { results := [.lit (.bool true)], args := [d] }
  | _ => none }
def showNestsRow : OpenClaim := { program := "ytaklcjnfjchebaa", sum := "708f409b9bd5543a22cbf67f1952e4c4d6dfbd77d34c4341af91963955e1c930", func := "gossamer/gossamerlaw7.ShowNests", spec := "showNests", recurses := true, loops := true, apart := false }
def ShowNestsSaid : Prop := showNestsRow.holds Try.pinned (OpenSpec.ofChange showNestsSpec)

/-- ITS FALSE NEIGHBOUR: 'it returns false'. Refute it at one input. -/
def showNestsWrong : ChangeSpec := { name := "showNests", fn := fun _ => fun
  | [d] => { results := [.lit (.bool false)], args := [d] }
  | _ => none }
def ShowNestsWrongFalsely : Prop := showNestsRow.holds Try.pinned (OpenSpec.ofChange showNestsWrong)

/- THE SECOND FORM. 'bulk': how many values and letters a reading holds, each counted each time it is reached (what is shared counts as often as it is met; a slice's spare places count too). A statement '..UptoSaid' is the law's where the arguments, and the package variables that the reading takes, are together of bulk at most 1048576: NARROWER than '..Said'. Prove '..Said' where nothing that the law and all that it calls make is longer than what came in: it says more and counts as full. Else prove '..UptoSaid'. A law counts once. -/
mutual
def uptoBulk {H : Type} : DataW H → Nat
  | .lit (.string bytes) => bytes.length + 1
  | .lit _ => 1
  | .nil => 1
  | .ptr d => uptoBulk d + 1
  | .slice elems spare => uptoBulkAll elems + uptoBulkAll spare + 1
  | .agg parts => uptoBulkAll parts + 1
  | .iface _ d => uptoBulk d + 1
  | .map entries => uptoBulkEntries entries + 1
  | .held _ => 1
def uptoBulkAll {H : Type} : List (DataW H) → Nat
  | [] => 0
  | d :: r => uptoBulk d + uptoBulkAll r
def uptoBulkEntries {H : Type} : List (Lit × DataW H) → Nat
  | [] => 0
  | x :: r => uptoBulkEntry x + uptoBulkEntries r
def uptoBulkEntry {H : Type} : Lit × DataW H → Nat
  | (.string bytes, d) => bytes.length + uptoBulk d + 1
  | (_, d) => uptoBulk d + 1
 end
def uptoSmall : (H : Type) → List (DataW H) → Bool := fun _ ds => decide (uptoBulkAll ds ≤ 1048576)
def OpenSpec.upto (s : _root_.Go.ChangeSpec) : _root_.Go.OpenSpec := { _root_.Go.OpenSpec.ofChange s with cond := some uptoSmall }

/-- 'gossamerlaw7.ShowTells', WHERE WHAT IT READS IS OF BULK AT MOST 1048576: true; the input reads as it did. -/
def showTellsUptoRow : OpenClaim := { program := "ytaklcjnfjchebaa", sum := "708f409b9bd5543a22cbf67f1952e4c4d6dfbd77d34c4341af91963955e1c930", func := "gossamer/gossamerlaw7.ShowTells", spec := "showTells", recurses := true, loops := true, apart := false, narrowed := true }
def ShowTellsUptoSaid : Prop := showTellsUptoRow.holds Try.pinned (OpenSpec.upto showTellsSpec)

/-- 'gossamerlaw7.ShowSame', WHERE WHAT IT READS IS OF BULK AT MOST 1048576: true; the input reads as it did. -/
def showSameUptoRow : OpenClaim := { program := "ytaklcjnfjchebaa", sum := "708f409b9bd5543a22cbf67f1952e4c4d6dfbd77d34c4341af91963955e1c930", func := "gossamer/gossamerlaw7.ShowSame", spec := "showSame", recurses := true, loops := true, apart := false, narrowed := true }
def ShowSameUptoSaid : Prop := showSameUptoRow.holds Try.pinned (OpenSpec.upto showSameSpec)

/-- 'gossamerlaw7.ShowBack', WHERE WHAT IT READS IS OF BULK AT MOST 1048576: true; the input reads as it did. -/
def showBackUptoRow : OpenClaim := { program := "ytaklcjnfjchebaa", sum := "708f409b9bd5543a22cbf67f1952e4c4d6dfbd77d34c4341af91963955e1c930", func := "gossamer/gossamerlaw7.ShowBack", spec := "showBack", recurses := true, loops := true, apart := false, narrowed := true }
def ShowBackUptoSaid : Prop := showBackUptoRow.holds Try.pinned (OpenSpec.upto showBackSpec)

/-- 'gossamerlaw7.ShowApart', WHERE WHAT IT READS IS OF BULK AT MOST 1048576: true; the input reads as it did. -/
def showApartUptoRow : OpenClaim := { program := "ytaklcjnfjchebaa", sum := "708f409b9bd5543a22cbf67f1952e4c4d6dfbd77d34c4341af91963955e1c930", func := "gossamer/gossamerlaw7.ShowApart", spec := "showApart", recurses := true, loops := true, apart := false, narrowed := true }
def ShowApartUptoSaid : Prop := showApartUptoRow.holds Try.pinned (OpenSpec.upto showApartSpec)

/-- 'gossamerlaw7.ShowRead', WHERE WHAT IT READS IS OF BULK AT MOST 1048576: true; the input reads as it did. -/
def showReadUptoRow : OpenClaim := { program := "ytaklcjnfjchebaa", sum := "708f409b9bd5543a22cbf67f1952e4c4d6dfbd77d34c4341af91963955e1c930", func := "gossamer/gossamerlaw7.ShowRead", spec := "showRead", recurses := true, apart := false, narrowed := true }
def ShowReadUptoSaid : Prop := showReadUptoRow.holds Try.pinned (OpenSpec.upto showReadSpec)

/-- 'gossamerlaw7.ShowNests', WHERE WHAT IT READS IS OF BULK AT MOST 1048576: true; the input reads as it did. -/
def showNestsUptoRow : OpenClaim := { program := "ytaklcjnfjchebaa", sum := "708f409b9bd5543a22cbf67f1952e4c4d6dfbd77d34c4341af91963955e1c930", func := "gossamer/gossamerlaw7.ShowNests", spec := "showNests", recurses := true, loops := true, apart := false, narrowed := true }
def ShowNestsUptoSaid : Prop := showNestsUptoRow.holds Try.pinned (OpenSpec.upto showNestsSpec)

end Rows
end Go.Proofs.Ytaklcjnfjchebaa
