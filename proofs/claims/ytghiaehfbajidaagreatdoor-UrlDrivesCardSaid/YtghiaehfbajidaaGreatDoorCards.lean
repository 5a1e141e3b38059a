/-
  DERIVED. GIVEN WITH THE SEED: THE CARDS: each row of YtghiaehfbajidaaGreatDoorRows.lean that lists a variable, with what it lists TIED to the program's text (the seventh form; the later family's looks); each row that meets fmt, with fmt's text TOLD by the authors' own Lean function (tested against real Go, not proved from fmt's source: count such statements apart). THE CARD IS WHAT COUNTS. Prove the row's statement (the work); the ties are given (YtghiaehfbajidaaGreatDoorTie.lean); close each card by the builder's one call (the guide's Derived/Test/ToyasCard.lean, 'card_holds'). Laid BY PROGRAM, IN A SANDBOX (cutbox-door.mjs). By AI agents, Wed Nov 11 2026. No macro, syntax, notation, axiom, sorry.
-/
import Derived.Test.YtghiaehfbajidaaGreatDoorRows
import GoSem.ClaimSeven
namespace Go.Proofs.YtghiaehfbajidaaGreatDoor
namespace Rows

/-- THE TIED CARD OF 'gossamerlaw12.UrlDrives'. -/
def urlDrivesCard : Claim7 := { stood := { row := urlDrivesRow, standIns := [], harness := (true, "3310df35ead395ecf60e1ef40b3dd646e513372ff8f1904270fa04175aee90d5"), looks := false }, kinds := [], alts := [], laidByText := true, laidKinds := [.data, .data, .data], laidTests := true, laidLooks := .later }
def UrlDrivesCardSaid : Prop := Claim7.holds Tryz.pinned (.plain (OpenSpec.ofChange urlDrivesSpec)) urlDrivesCard

/-- THE SECOND FORM's CARD OF 'gossamerlaw12.UrlDrives'. -/
def urlDrivesUptoCard : Claim7 := { stood := { row := urlDrivesUptoRow, standIns := [], harness := (true, "3310df35ead395ecf60e1ef40b3dd646e513372ff8f1904270fa04175aee90d5"), looks := false }, kinds := [], alts := [], laidByText := true, laidKinds := [.data, .data, .data], laidTests := true, laidLooks := .later }
def UrlDrivesUptoCardSaid : Prop := Claim7.holds Tryz.pinned (.plain (OpenSpec.upto urlDrivesSpec)) urlDrivesUptoCard
end Rows
end Go.Proofs.YtghiaehfbajidaaGreatDoor
