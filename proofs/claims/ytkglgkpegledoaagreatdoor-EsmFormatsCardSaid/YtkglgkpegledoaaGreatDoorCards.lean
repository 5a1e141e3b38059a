/-
  DERIVED. GIVEN WITH THE SEED: THE CARDS: each row of YtkglgkpegledoaaGreatDoorRows.lean that lists a variable, with what it lists TIED to the program's text (the seventh form; the later family's looks); each row that meets fmt, with fmt's text TOLD by the authors' own Lean function (tested against real Go, not proved from fmt's source: count such statements apart). THE CARD IS WHAT COUNTS. Prove the row's statement (the work); the ties are given (YtkglgkpegledoaaGreatDoorTie.lean); close each card by the builder's one call (the guide's Derived/Test/ToyasCard.lean, 'card_holds'). Laid BY PROGRAM, IN A SANDBOX (cutbox-door.mjs). By AI agents, Wed Nov 11 2026. No macro, syntax, notation, axiom, sorry.
-/
import Derived.Test.YtkglgkpegledoaaGreatDoorRows
import GoSem.ClaimSeven
namespace Go.Proofs.YtkglgkpegledoaaGreatDoor
namespace Rows

/-- THE TIED CARD OF 'gossamerlaw28.EsmFormats'. -/
def esmFormatsCard : Claim7 := { stood := { row := esmFormatsRow, standIns := [], harness := (true, "d7fcace526827f4b0159d30618d33a9ff336e7b093f52d1e02bd8b16857a3dc1"), looks := false }, kinds := [], alts := [], laidByText := true, laidKinds := [.data, .data, .data, .data, .pinned], laidTests := true, laidLooks := .later }
def EsmFormatsCardSaid : Prop := Claim7.holds Tryz.pinned (.plain (OpenSpec.ofChange esmFormatsSpec)) esmFormatsCard

/-- THE SECOND FORM's CARD OF 'gossamerlaw28.EsmFormats'. -/
def esmFormatsUptoCard : Claim7 := { stood := { row := esmFormatsUptoRow, standIns := [], harness := (true, "d7fcace526827f4b0159d30618d33a9ff336e7b093f52d1e02bd8b16857a3dc1"), looks := false }, kinds := [], alts := [], laidByText := true, laidKinds := [.data, .data, .data, .data, .pinned], laidTests := true, laidLooks := .later }
def EsmFormatsUptoCardSaid : Prop := Claim7.holds Tryz.pinned (.plain (OpenSpec.upto esmFormatsSpec)) esmFormatsUptoCard
end Rows
end Go.Proofs.YtkglgkpegledoaaGreatDoor
