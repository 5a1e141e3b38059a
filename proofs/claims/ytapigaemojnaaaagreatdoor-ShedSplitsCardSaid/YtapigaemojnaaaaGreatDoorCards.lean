/-
  DERIVED. GIVEN WITH THE SEED: THE CARDS: each row of YtapigaemojnaaaaGreatDoorRows.lean that lists a variable, with what it lists TIED to the program's text (the seventh form; the later family's looks); each row that meets fmt, with fmt's text TOLD by the authors' own Lean function (tested against real Go, not proved from fmt's source: count such statements apart). THE CARD IS WHAT COUNTS. Prove the row's statement (the work); the ties are given (YtapigaemojnaaaaGreatDoorTie.lean); close each card by the builder's one call (the guide's Derived/Test/ToyasCard.lean, 'card_holds'). Laid BY PROGRAM, IN A SANDBOX (cutbox-door.mjs). By AI agents, Wed Nov 11 2026. No macro, syntax, notation, axiom, sorry.
-/
import Derived.Test.YtapigaemojnaaaaGreatDoorRows
import GoSem.ClaimSeven
namespace Go.Proofs.YtapigaemojnaaaaGreatDoor
namespace Rows

/-- THE TIED CARD OF 'gossamerlaw27.ShedSplits'. -/
def shedSplitsCard : Claim7 := { stood := { row := shedSplitsRow, standIns := [], harness := (true, "af67459b227dc9db5d11f1053c7ad8eb84bf83b07b80828fca285eb31eb37c51"), looks := false }, kinds := [], alts := [], laidByText := true, laidKinds := [.data, .data, .data, .data, .pinned], laidTests := true, laidLooks := .later }
def ShedSplitsCardSaid : Prop := Claim7.holds Tryz.pinned (.plain (OpenSpec.ofChange shedSplitsSpec)) shedSplitsCard

/-- THE SECOND FORM's CARD OF 'gossamerlaw27.ShedSplits'. -/
def shedSplitsUptoCard : Claim7 := { stood := { row := shedSplitsUptoRow, standIns := [], harness := (true, "af67459b227dc9db5d11f1053c7ad8eb84bf83b07b80828fca285eb31eb37c51"), looks := false }, kinds := [], alts := [], laidByText := true, laidKinds := [.data, .data, .data, .data, .pinned], laidTests := true, laidLooks := .later }
def ShedSplitsUptoCardSaid : Prop := Claim7.holds Tryz.pinned (.plain (OpenSpec.upto shedSplitsSpec)) shedSplitsUptoCard
end Rows
end Go.Proofs.YtapigaemojnaaaaGreatDoor
