/-
  DERIVED. GIVEN WITH THE SEED: THE CARDS: each row of YtbjpmpijlddcpaaDoorRows.lean that lists a variable, with what it lists TIED to the program's text (the seventh form; the later family's looks); each row that meets fmt, with fmt's text TOLD by the authors' own Lean function (tested against real Go, not proved from fmt's source: count such statements apart). THE CARD IS WHAT COUNTS. Prove the row's statement (the work); the ties are given (YtbjpmpijlddcpaaDoorTie.lean); close each card by the builder's one call (the guide's Derived/Test/ToyasCard.lean, 'card_holds'). Laid BY PROGRAM, IN A SANDBOX (cutbox-door.mjs). By AI agents, Wed Nov 11 2026. No macro, syntax, notation, axiom, sorry.
-/
import Derived.Test.YtbjpmpijlddcpaaDoorRows
import GoSem.ClaimSeven
namespace Go.Proofs.YtbjpmpijlddcpaaDoor
namespace Rows

/-- THE TIED CARD OF 'gossamerlaw8.FourTells'. -/
def fourTellsCard : Claim7 := { stood := { row := fourTellsRow, standIns := [], harness := (true, "7faf8d20fb2cb3b1824b7a462dcad767ac14685df968a283057dba40a43fce09"), looks := false }, kinds := [], alts := [], laidByText := true, laidKinds := [.data, .data, .data], laidTests := true, laidLooks := .later }
def FourTellsCardSaid : Prop := Claim7.holds Tryd.pinned (.plain (OpenSpec.ofChange fourTellsSpec)) fourTellsCard

/-- THE TIED CARD OF 'gossamerlaw8.FourBack'. -/
def fourBackCard : Claim7 := { stood := { row := fourBackRow, standIns := [], harness := (true, "7faf8d20fb2cb3b1824b7a462dcad767ac14685df968a283057dba40a43fce09"), looks := false }, kinds := [], alts := [], laidByText := true, laidKinds := [.data, .data, .data], laidTests := true, laidLooks := .later }
def FourBackCardSaid : Prop := Claim7.holds Tryd.pinned (.plain (OpenSpec.ofChange fourBackSpec)) fourBackCard

/-- THE TIED CARD OF 'gossamerlaw8.FourForms'. -/
def fourFormsCard : Claim7 := { stood := { row := fourFormsRow, standIns := [], harness := (true, "7faf8d20fb2cb3b1824b7a462dcad767ac14685df968a283057dba40a43fce09"), looks := false }, kinds := [], alts := [], laidByText := true, laidKinds := [.data, .data, .data], laidTests := true, laidLooks := .later }
def FourFormsCardSaid : Prop := Claim7.holds Tryd.pinned (.plain (OpenSpec.ofChange fourFormsSpec)) fourFormsCard

/-- THE TIED CARD OF 'gossamerlaw8.FourMore'. -/
def fourMoreCard : Claim7 := { stood := { row := fourMoreRow, standIns := [], harness := (true, "7faf8d20fb2cb3b1824b7a462dcad767ac14685df968a283057dba40a43fce09"), looks := false }, kinds := [], alts := [], laidByText := true, laidKinds := [.data, .data, .data], laidTests := true, laidLooks := .later }
def FourMoreCardSaid : Prop := Claim7.holds Tryd.pinned (.plain (OpenSpec.ofChange fourMoreSpec)) fourMoreCard

/-- THE SECOND FORM's CARD OF 'gossamerlaw8.FourTells'. -/
def fourTellsUptoCard : Claim7 := { stood := { row := fourTellsUptoRow, standIns := [], harness := (true, "7faf8d20fb2cb3b1824b7a462dcad767ac14685df968a283057dba40a43fce09"), looks := false }, kinds := [], alts := [], laidByText := true, laidKinds := [.data, .data, .data], laidTests := true, laidLooks := .later }
def FourTellsUptoCardSaid : Prop := Claim7.holds Tryd.pinned (.plain (OpenSpec.upto fourTellsSpec)) fourTellsUptoCard

/-- THE SECOND FORM's CARD OF 'gossamerlaw8.FourBack'. -/
def fourBackUptoCard : Claim7 := { stood := { row := fourBackUptoRow, standIns := [], harness := (true, "7faf8d20fb2cb3b1824b7a462dcad767ac14685df968a283057dba40a43fce09"), looks := false }, kinds := [], alts := [], laidByText := true, laidKinds := [.data, .data, .data], laidTests := true, laidLooks := .later }
def FourBackUptoCardSaid : Prop := Claim7.holds Tryd.pinned (.plain (OpenSpec.upto fourBackSpec)) fourBackUptoCard

/-- THE SECOND FORM's CARD OF 'gossamerlaw8.FourForms'. -/
def fourFormsUptoCard : Claim7 := { stood := { row := fourFormsUptoRow, standIns := [], harness := (true, "7faf8d20fb2cb3b1824b7a462dcad767ac14685df968a283057dba40a43fce09"), looks := false }, kinds := [], alts := [], laidByText := true, laidKinds := [.data, .data, .data], laidTests := true, laidLooks := .later }
def FourFormsUptoCardSaid : Prop := Claim7.holds Tryd.pinned (.plain (OpenSpec.upto fourFormsSpec)) fourFormsUptoCard

/-- THE SECOND FORM's CARD OF 'gossamerlaw8.FourMore'. -/
def fourMoreUptoCard : Claim7 := { stood := { row := fourMoreUptoRow, standIns := [], harness := (true, "7faf8d20fb2cb3b1824b7a462dcad767ac14685df968a283057dba40a43fce09"), looks := false }, kinds := [], alts := [], laidByText := true, laidKinds := [.data, .data, .data], laidTests := true, laidLooks := .later }
def FourMoreUptoCardSaid : Prop := Claim7.holds Tryd.pinned (.plain (OpenSpec.upto fourMoreSpec)) fourMoreUptoCard
end Rows
end Go.Proofs.YtbjpmpijlddcpaaDoor
