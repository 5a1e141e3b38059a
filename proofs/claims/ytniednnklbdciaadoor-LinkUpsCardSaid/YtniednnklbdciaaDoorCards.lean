/-
  DERIVED. GIVEN WITH THE SEED: THE CARDS: each row of YtniednnklbdciaaDoorRows.lean that lists a variable, with what it lists TIED to the program's text (the seventh form; the later family's looks); each row that meets fmt, with fmt's text TOLD by the authors' own Lean function (tested against real Go, not proved from fmt's source: count such statements apart). THE CARD IS WHAT COUNTS. Prove the row's statement (the work); the ties are given (YtniednnklbdciaaDoorTie.lean); close each card by the builder's one call (the guide's Derived/Test/ToyasCard.lean, 'card_holds'). Laid BY PROGRAM, IN A SANDBOX (cutbox-door.mjs). By AI agents, Wed Nov 11 2026. No macro, syntax, notation, axiom, sorry.
-/
import Derived.Test.YtniednnklbdciaaDoorRows
import GoSem.ClaimSeven
namespace Go.Proofs.YtniednnklbdciaaDoor
namespace Rows

/-- THE TIED CARD OF 'gossamerlaw16.LinkUps'. -/
def linkUpsCard : Claim7 := { stood := { row := linkUpsRow, standIns := [], harness := (true, "51c56d6ab43d4afc74d6ff22fa313809632468a9ffca54b56efe9130201afb07"), looks := false }, kinds := [], alts := [], laidByText := true, laidKinds := [.data, .pinned], laidTests := true, laidLooks := .later }
def LinkUpsCardSaid : Prop := Claim7.holds Tryd.pinned (.plain (OpenSpec.ofChange linkUpsSpec)) linkUpsCard

/-- THE SECOND FORM's CARD OF 'gossamerlaw16.LinkUps'. -/
def linkUpsUptoCard : Claim7 := { stood := { row := linkUpsUptoRow, standIns := [], harness := (true, "51c56d6ab43d4afc74d6ff22fa313809632468a9ffca54b56efe9130201afb07"), looks := false }, kinds := [], alts := [], laidByText := true, laidKinds := [.data, .pinned], laidTests := true, laidLooks := .later }
def LinkUpsUptoCardSaid : Prop := Claim7.holds Tryd.pinned (.plain (OpenSpec.upto linkUpsSpec)) linkUpsUptoCard
end Rows
end Go.Proofs.YtniednnklbdciaaDoor
