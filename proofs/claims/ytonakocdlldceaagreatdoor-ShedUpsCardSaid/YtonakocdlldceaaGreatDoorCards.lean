/-
  DERIVED. GIVEN WITH THE SEED: THE CARDS: each row of YtonakocdlldceaaGreatDoorRows.lean that lists a variable, with what it lists TIED to the program's text (the seventh form; the later family's looks); each row that meets fmt, with fmt's text TOLD by the authors' own Lean function (tested against real Go, not proved from fmt's source: count such statements apart). THE CARD IS WHAT COUNTS. Prove the row's statement (the work); the ties are given (YtonakocdlldceaaGreatDoorTie.lean); close each card by the builder's one call (the guide's Derived/Test/ToyasCard.lean, 'card_holds'). Laid BY PROGRAM, IN A SANDBOX (cutbox-door.mjs). By AI agents, Wed Nov 11 2026. No macro, syntax, notation, axiom, sorry.
-/
import Derived.Test.YtonakocdlldceaaGreatDoorRows
import GoSem.ClaimSeven
namespace Go.Proofs.YtonakocdlldceaaGreatDoor
namespace Rows

/-- THE TIED CARD OF 'gossamerlaw27.ShedUps'. -/
def shedUpsCard : Claim7 := { stood := { row := shedUpsRow, standIns := [], harness := (true, "36f0bbc25aecbbb6f7572d2c1ab07def99d6f799443ded139e690377191644fd"), looks := false }, kinds := [], alts := [], laidByText := true, laidKinds := [.data, .data, .data, .data, .pinned], laidTests := true, laidLooks := .later }
def ShedUpsCardSaid : Prop := Claim7.holds Tryz.pinned (.plain (OpenSpec.ofChange shedUpsSpec)) shedUpsCard

/-- THE TIED CARD OF 'gossamerlaw27.ShedScopes'. -/
def shedScopesCard : Claim7 := { stood := { row := shedScopesRow, standIns := [], harness := (true, "36f0bbc25aecbbb6f7572d2c1ab07def99d6f799443ded139e690377191644fd"), looks := false }, kinds := [], alts := [], laidByText := true, laidKinds := [.data, .data, .data, .data, .pinned], laidTests := true, laidLooks := .later }
def ShedScopesCardSaid : Prop := Claim7.holds Tryz.pinned (.plain (OpenSpec.ofChange shedScopesSpec)) shedScopesCard

/-- THE SECOND FORM's CARD OF 'gossamerlaw27.ShedUps'. -/
def shedUpsUptoCard : Claim7 := { stood := { row := shedUpsUptoRow, standIns := [], harness := (true, "36f0bbc25aecbbb6f7572d2c1ab07def99d6f799443ded139e690377191644fd"), looks := false }, kinds := [], alts := [], laidByText := true, laidKinds := [.data, .data, .data, .data, .pinned], laidTests := true, laidLooks := .later }
def ShedUpsUptoCardSaid : Prop := Claim7.holds Tryz.pinned (.plain (OpenSpec.upto shedUpsSpec)) shedUpsUptoCard

/-- THE SECOND FORM's CARD OF 'gossamerlaw27.ShedScopes'. -/
def shedScopesUptoCard : Claim7 := { stood := { row := shedScopesUptoRow, standIns := [], harness := (true, "36f0bbc25aecbbb6f7572d2c1ab07def99d6f799443ded139e690377191644fd"), looks := false }, kinds := [], alts := [], laidByText := true, laidKinds := [.data, .data, .data, .data, .pinned], laidTests := true, laidLooks := .later }
def ShedScopesUptoCardSaid : Prop := Claim7.holds Tryz.pinned (.plain (OpenSpec.upto shedScopesSpec)) shedScopesUptoCard
end Rows
end Go.Proofs.YtonakocdlldceaaGreatDoor
