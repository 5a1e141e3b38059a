/-
  DERIVED. GIVEN WITH THE SEED: THE CARDS: each row of YtjljhkjpogjdhaaGreatDoorRows.lean that lists a variable, with what it lists TIED to the program's text (the seventh form; the later family's looks); each row that meets fmt, with fmt's text TOLD by the authors' own Lean function (tested against real Go, not proved from fmt's source: count such statements apart). THE CARD IS WHAT COUNTS. Prove the row's statement (the work); the ties are given (YtjljhkjpogjdhaaGreatDoorTie.lean); close each card by the builder's one call (the guide's Derived/Test/ToyasCard.lean, 'card_holds'). Laid BY PROGRAM, IN A SANDBOX (cutbox-door.mjs). By AI agents, Wed Nov 11 2026. No macro, syntax, notation, axiom, sorry.
-/
import Derived.Test.YtjljhkjpogjdhaaGreatDoorRows
import GoSem.ClaimSeven
namespace Go.Proofs.YtjljhkjpogjdhaaGreatDoor
namespace Rows

/-- THE TIED CARD OF 'gossamerlaw10.HostTells'. -/
def hostTellsCard : Claim7 := { stood := { row := hostTellsRow, standIns := [], harness := (true, "0dcd6c3e61d554fa9bdbf555ef8fcb5dc44e58f09f629b756c4fa1b321f2a8e0"), looks := false }, kinds := [], alts := [], laidByText := true, laidKinds := [.data, .data, .data], laidTests := true, laidLooks := .later }
def HostTellsCardSaid : Prop := Claim7.holds Tryz.pinned (.plain (OpenSpec.ofChange hostTellsSpec)) hostTellsCard

/-- THE TIED CARD OF 'gossamerlaw10.HostShows'. -/
def hostShowsCard : Claim7 := { stood := { row := hostShowsRow, standIns := [], harness := (true, "0dcd6c3e61d554fa9bdbf555ef8fcb5dc44e58f09f629b756c4fa1b321f2a8e0"), looks := false }, kinds := [], alts := [], laidByText := true, laidKinds := [.data, .data, .data], laidTests := true, laidLooks := .later }
def HostShowsCardSaid : Prop := Claim7.holds Tryz.pinned (.plain (OpenSpec.ofChange hostShowsSpec)) hostShowsCard

/-- THE SECOND FORM's CARD OF 'gossamerlaw10.HostTells'. -/
def hostTellsUptoCard : Claim7 := { stood := { row := hostTellsUptoRow, standIns := [], harness := (true, "0dcd6c3e61d554fa9bdbf555ef8fcb5dc44e58f09f629b756c4fa1b321f2a8e0"), looks := false }, kinds := [], alts := [], laidByText := true, laidKinds := [.data, .data, .data], laidTests := true, laidLooks := .later }
def HostTellsUptoCardSaid : Prop := Claim7.holds Tryz.pinned (.plain (OpenSpec.upto hostTellsSpec)) hostTellsUptoCard

/-- THE SECOND FORM's CARD OF 'gossamerlaw10.HostShows'. -/
def hostShowsUptoCard : Claim7 := { stood := { row := hostShowsUptoRow, standIns := [], harness := (true, "0dcd6c3e61d554fa9bdbf555ef8fcb5dc44e58f09f629b756c4fa1b321f2a8e0"), looks := false }, kinds := [], alts := [], laidByText := true, laidKinds := [.data, .data, .data], laidTests := true, laidLooks := .later }
def HostShowsUptoCardSaid : Prop := Claim7.holds Tryz.pinned (.plain (OpenSpec.upto hostShowsSpec)) hostShowsUptoCard
end Rows
end Go.Proofs.YtjljhkjpogjdhaaGreatDoor
