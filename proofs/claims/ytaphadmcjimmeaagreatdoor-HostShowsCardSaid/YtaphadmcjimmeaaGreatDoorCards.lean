/-
  DERIVED. GIVEN WITH THE SEED: THE CARDS: each row of YtaphadmcjimmeaaGreatDoorRows.lean that lists a variable, with what it lists TIED to the program's text (the seventh form; the later family's looks); each row that meets fmt, with fmt's text TOLD by the authors' own Lean function (tested against real Go, not proved from fmt's source: count such statements apart). THE CARD IS WHAT COUNTS. Prove the row's statement (the work); the ties are given (YtaphadmcjimmeaaGreatDoorTie.lean); close each card by the builder's one call (the guide's Derived/Test/ToyasCard.lean, 'card_holds'). Laid BY PROGRAM, IN A SANDBOX (cutbox-door.mjs). By AI agents, Wed Nov 11 2026. No macro, syntax, notation, axiom, sorry.
-/
import Derived.Test.YtaphadmcjimmeaaGreatDoorRows
import GoSem.ClaimSeven
namespace Go.Proofs.YtaphadmcjimmeaaGreatDoor
namespace Rows

/-- THE TIED CARD OF 'gossamerlaw10.HostShows'. -/
def hostShowsCard : Claim7 := { stood := { row := hostShowsRow, standIns := [], harness := (true, "a61ad7df8b276cf6b4b3bf211678779aa9c0e6eeb357105588c6ce133dbe6177"), looks := false }, kinds := [], alts := [], laidByText := true, laidKinds := [.data, .data, .data], laidTests := true, laidLooks := .later }
def HostShowsCardSaid : Prop := Claim7.holds Tryz.pinned (.plain (OpenSpec.ofChange hostShowsSpec)) hostShowsCard

/-- THE SECOND FORM's CARD OF 'gossamerlaw10.HostShows'. -/
def hostShowsUptoCard : Claim7 := { stood := { row := hostShowsUptoRow, standIns := [], harness := (true, "a61ad7df8b276cf6b4b3bf211678779aa9c0e6eeb357105588c6ce133dbe6177"), looks := false }, kinds := [], alts := [], laidByText := true, laidKinds := [.data, .data, .data], laidTests := true, laidLooks := .later }
def HostShowsUptoCardSaid : Prop := Claim7.holds Tryz.pinned (.plain (OpenSpec.upto hostShowsSpec)) hostShowsUptoCard
end Rows
end Go.Proofs.YtaphadmcjimmeaaGreatDoor
