/-
  DERIVED. GIVEN WITH THE SEED: THE CARDS: each row of YtojombahfmicbaaGreatDoorRows.lean that lists a variable, with what it lists TIED to the program's text (the seventh form; the later family's looks); each row that meets fmt, with fmt's text TOLD by the authors' own Lean function (tested against real Go, not proved from fmt's source: count such statements apart). THE CARD IS WHAT COUNTS. Prove the row's statement (the work); the ties are given (YtojombahfmicbaaGreatDoorTie.lean); close each card by the builder's one call (the guide's Derived/Test/ToyasCard.lean, 'card_holds'). Laid BY PROGRAM, IN A SANDBOX (cutbox-door.mjs). By AI agents, Wed Nov 11 2026. No macro, syntax, notation, axiom, sorry.
-/
import Derived.Test.YtojombahfmicbaaGreatDoorRows
import GoSem.ClaimSeven
namespace Go.Proofs.YtojombahfmicbaaGreatDoor
namespace Rows

/-- THE TIED CARD OF 'gossamerlaw12.UrlWords'. -/
def urlWordsCard : Claim7 := { stood := { row := urlWordsRow, standIns := [], harness := (true, "dff28b55c06e495ded8a52f920c434ce5988c92c0862c2a3fba23b3ed76af56e"), looks := false }, kinds := [], alts := [], laidByText := true, laidKinds := [.data, .data, .data], laidTests := true, laidLooks := .later }
def UrlWordsCardSaid : Prop := Claim7.holds Tryz.pinned (.plain (OpenSpec.ofChange urlWordsSpec)) urlWordsCard

/-- THE SECOND FORM's CARD OF 'gossamerlaw12.UrlWords'. -/
def urlWordsUptoCard : Claim7 := { stood := { row := urlWordsUptoRow, standIns := [], harness := (true, "dff28b55c06e495ded8a52f920c434ce5988c92c0862c2a3fba23b3ed76af56e"), looks := false }, kinds := [], alts := [], laidByText := true, laidKinds := [.data, .data, .data], laidTests := true, laidLooks := .later }
def UrlWordsUptoCardSaid : Prop := Claim7.holds Tryz.pinned (.plain (OpenSpec.upto urlWordsSpec)) urlWordsUptoCard
end Rows
end Go.Proofs.YtojombahfmicbaaGreatDoor
