/-
  DERIVED. GIVEN WITH THE SEED: THE CARDS: each row of YtedfgikikjggaaaDoorRows.lean that lists a variable, with what it lists TIED to the program's text (the seventh form; the later family's looks); each row that meets fmt, with fmt's text TOLD by the authors' own Lean function (tested against real Go, not proved from fmt's source: count such statements apart). THE CARD IS WHAT COUNTS. Prove the row's statement (the work); the ties are given (YtedfgikikjggaaaDoorTie.lean); close each card by the builder's one call (the guide's Derived/Test/ToyasCard.lean, 'card_holds'). Laid BY PROGRAM, IN A SANDBOX (cutbox-door.mjs). By AI agents, Wed Nov 11 2026. No macro, syntax, notation, axiom, sorry.
-/
import Derived.Test.YtedfgikikjggaaaDoorRows
import GoSem.ClaimSeven
namespace Go.Proofs.YtedfgikikjggaaaDoor
namespace Rows

/-- THE TIED CARD OF 'gossamerlaw16.LinkTells'. -/
def linkTellsCard : Claim7 := { stood := { row := linkTellsRow, standIns := [], harness := (true, "8df0d82c53a68a36200c50a2e340102756a5d26b06be891d1f844c2570994eba"), looks := false }, kinds := [], alts := [], laidByText := true, laidKinds := [.data, .pinned], laidTests := true, laidLooks := .later }
def LinkTellsCardSaid : Prop := Claim7.holds Tryd.pinned (.plain (OpenSpec.ofChange linkTellsSpec)) linkTellsCard

/-- THE TIED CARD OF 'gossamerlaw16.LinkEnds'. -/
def linkEndsCard : Claim7 := { stood := { row := linkEndsRow, standIns := [], harness := (true, "8df0d82c53a68a36200c50a2e340102756a5d26b06be891d1f844c2570994eba"), looks := false }, kinds := [], alts := [], laidByText := true, laidKinds := [.data, .pinned], laidTests := true, laidLooks := .later }
def LinkEndsCardSaid : Prop := Claim7.holds Tryd.pinned (.plain (OpenSpec.ofChange linkEndsSpec)) linkEndsCard

/-- THE TIED CARD OF 'gossamerlaw16.LinkChains'. -/
def linkChainsCard : Claim7 := { stood := { row := linkChainsRow, standIns := [], harness := (true, "8df0d82c53a68a36200c50a2e340102756a5d26b06be891d1f844c2570994eba"), looks := false }, kinds := [], alts := [], laidByText := true, laidKinds := [.data, .pinned], laidTests := true, laidLooks := .later }
def LinkChainsCardSaid : Prop := Claim7.holds Tryd.pinned (.plain (OpenSpec.ofChange linkChainsSpec)) linkChainsCard

/-- THE TIED CARD OF 'gossamerlaw16.LinkParts'. -/
def linkPartsCard : Claim7 := { stood := { row := linkPartsRow, standIns := [], harness := (true, "8df0d82c53a68a36200c50a2e340102756a5d26b06be891d1f844c2570994eba"), looks := false }, kinds := [], alts := [], laidByText := true, laidKinds := [.data, .pinned], laidTests := true, laidLooks := .later }
def LinkPartsCardSaid : Prop := Claim7.holds Tryd.pinned (.plain (OpenSpec.ofChange linkPartsSpec)) linkPartsCard

/-- THE SECOND FORM's CARD OF 'gossamerlaw16.LinkTells'. -/
def linkTellsUptoCard : Claim7 := { stood := { row := linkTellsUptoRow, standIns := [], harness := (true, "8df0d82c53a68a36200c50a2e340102756a5d26b06be891d1f844c2570994eba"), looks := false }, kinds := [], alts := [], laidByText := true, laidKinds := [.data, .pinned], laidTests := true, laidLooks := .later }
def LinkTellsUptoCardSaid : Prop := Claim7.holds Tryd.pinned (.plain (OpenSpec.upto linkTellsSpec)) linkTellsUptoCard

/-- THE SECOND FORM's CARD OF 'gossamerlaw16.LinkEnds'. -/
def linkEndsUptoCard : Claim7 := { stood := { row := linkEndsUptoRow, standIns := [], harness := (true, "8df0d82c53a68a36200c50a2e340102756a5d26b06be891d1f844c2570994eba"), looks := false }, kinds := [], alts := [], laidByText := true, laidKinds := [.data, .pinned], laidTests := true, laidLooks := .later }
def LinkEndsUptoCardSaid : Prop := Claim7.holds Tryd.pinned (.plain (OpenSpec.upto linkEndsSpec)) linkEndsUptoCard

/-- THE SECOND FORM's CARD OF 'gossamerlaw16.LinkChains'. -/
def linkChainsUptoCard : Claim7 := { stood := { row := linkChainsUptoRow, standIns := [], harness := (true, "8df0d82c53a68a36200c50a2e340102756a5d26b06be891d1f844c2570994eba"), looks := false }, kinds := [], alts := [], laidByText := true, laidKinds := [.data, .pinned], laidTests := true, laidLooks := .later }
def LinkChainsUptoCardSaid : Prop := Claim7.holds Tryd.pinned (.plain (OpenSpec.upto linkChainsSpec)) linkChainsUptoCard

/-- THE SECOND FORM's CARD OF 'gossamerlaw16.LinkParts'. -/
def linkPartsUptoCard : Claim7 := { stood := { row := linkPartsUptoRow, standIns := [], harness := (true, "8df0d82c53a68a36200c50a2e340102756a5d26b06be891d1f844c2570994eba"), looks := false }, kinds := [], alts := [], laidByText := true, laidKinds := [.data, .pinned], laidTests := true, laidLooks := .later }
def LinkPartsUptoCardSaid : Prop := Claim7.holds Tryd.pinned (.plain (OpenSpec.upto linkPartsSpec)) linkPartsUptoCard
end Rows
end Go.Proofs.YtedfgikikjggaaaDoor
