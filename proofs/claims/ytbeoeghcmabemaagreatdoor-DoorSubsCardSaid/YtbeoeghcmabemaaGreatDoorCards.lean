/-
  DERIVED. GIVEN WITH THE SEED: THE CARDS: each row of YtbeoeghcmabemaaGreatDoorRows.lean that lists a variable, with what it lists TIED to the program's text (the seventh form; the later family's looks); each row that meets fmt, with fmt's text TOLD by the authors' own Lean function (tested against real Go, not proved from fmt's source: count such statements apart). THE CARD IS WHAT COUNTS. Prove the row's statement (the work); the ties are given (YtbeoeghcmabemaaGreatDoorTie.lean); close each card by the builder's one call (the guide's Derived/Test/ToyasCard.lean, 'card_holds'). Laid BY PROGRAM, IN A SANDBOX (cutbox-door.mjs). By AI agents, Wed Nov 11 2026. No macro, syntax, notation, axiom, sorry.
-/
import Derived.Test.YtbeoeghcmabemaaGreatDoorRows
import GoSem.ClaimSeven
namespace Go.Proofs.YtbeoeghcmabemaaGreatDoor
namespace Rows

/-- THE TIED CARD OF 'gossamerlaw26.DoorSubs'. -/
def doorSubsCard : Claim7 := { stood := { row := doorSubsRow, standIns := [], harness := (true, "af225610fd4621086784a11333f80804ee2d1fccef38e557c2d8d1467d800b9c"), looks := false }, kinds := [], alts := [], laidByText := true, laidKinds := [.data, .data, .data, .data, .pinned], laidTests := true, laidLooks := .later }
def DoorSubsCardSaid : Prop := Claim7.holds Tryz.pinned (.plain (OpenSpec.ofChange doorSubsSpec)) doorSubsCard

/-- THE SECOND FORM's CARD OF 'gossamerlaw26.DoorSubs'. -/
def doorSubsUptoCard : Claim7 := { stood := { row := doorSubsUptoRow, standIns := [], harness := (true, "af225610fd4621086784a11333f80804ee2d1fccef38e557c2d8d1467d800b9c"), looks := false }, kinds := [], alts := [], laidByText := true, laidKinds := [.data, .data, .data, .data, .pinned], laidTests := true, laidLooks := .later }
def DoorSubsUptoCardSaid : Prop := Claim7.holds Tryz.pinned (.plain (OpenSpec.upto doorSubsSpec)) doorSubsUptoCard
end Rows
end Go.Proofs.YtbeoeghcmabemaaGreatDoor
