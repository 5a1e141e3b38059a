/-
  DERIVED. GIVEN WITH THE SEED: THE CARDS: each row of YteiejlolgehgkaaGreatDoorRows.lean that lists a variable, with what it lists TIED to the program's text (the seventh form; the later family's looks); each row that meets fmt, with fmt's text TOLD by the authors' own Lean function (tested against real Go, not proved from fmt's source: count such statements apart). THE CARD IS WHAT COUNTS. Prove the row's statement (the work); the ties are given (YteiejlolgehgkaaGreatDoorTie.lean); close each card by the builder's one call (the guide's Derived/Test/ToyasCard.lean, 'card_holds'). Laid BY PROGRAM, IN A SANDBOX (cutbox-door.mjs). By AI agents, Wed Nov 11 2026. No macro, syntax, notation, axiom, sorry.
-/
import Derived.Test.YteiejlolgehgkaaGreatDoorRows
import GoSem.ClaimSeven
namespace Go.Proofs.YteiejlolgehgkaaGreatDoor
namespace Rows

/-- THE TIED CARD OF 'gossamerlaw14.FileOthers'. -/
def fileOthersCard : Claim7 := { stood := { row := fileOthersRow, standIns := [], harness := (true, "66590255db7bdc03f2770958efee6d48ba9915a25d80856f932c30de1d928b32"), looks := false }, kinds := [], alts := [], laidByText := true, laidKinds := [.data, .pinned], laidTests := true, laidLooks := .later }
def FileOthersCardSaid : Prop := Claim7.holds Tryz.pinned (.plain (OpenSpec.ofChange fileOthersSpec)) fileOthersCard

/-- THE SECOND FORM's CARD OF 'gossamerlaw14.FileOthers'. -/
def fileOthersUptoCard : Claim7 := { stood := { row := fileOthersUptoRow, standIns := [], harness := (true, "66590255db7bdc03f2770958efee6d48ba9915a25d80856f932c30de1d928b32"), looks := false }, kinds := [], alts := [], laidByText := true, laidKinds := [.data, .pinned], laidTests := true, laidLooks := .later }
def FileOthersUptoCardSaid : Prop := Claim7.holds Tryz.pinned (.plain (OpenSpec.upto fileOthersSpec)) fileOthersUptoCard
end Rows
end Go.Proofs.YteiejlolgehgkaaGreatDoor
