/-
  DERIVED. GIVEN WITH THE SEED: THE CARDS: each row of YtnhbkfelfhhgjaaGreatDoorRows.lean that lists a variable, with what it lists TIED to the program's text (the seventh form; the later family's looks); each row that meets fmt, with fmt's text TOLD by the authors' own Lean function (tested against real Go, not proved from fmt's source: count such statements apart). THE CARD IS WHAT COUNTS. Prove the row's statement (the work); the ties are given (YtnhbkfelfhhgjaaGreatDoorTie.lean); close each card by the builder's one call (the guide's Derived/Test/ToyasCard.lean, 'card_holds'). Laid BY PROGRAM, IN A SANDBOX (cutbox-door.mjs). By AI agents, Wed Nov 11 2026. No macro, syntax, notation, axiom, sorry.
-/
import Derived.Test.YtnhbkfelfhhgjaaGreatDoorRows
import GoSem.ClaimSeven
namespace Go.Proofs.YtnhbkfelfhhgjaaGreatDoor
namespace Rows

/-- THE TIED CARD OF 'gossamerlaw29.CjsTries'. -/
def cjsTriesCard : Claim7 := { stood := { row := cjsTriesRow, standIns := [], harness := (true, "f0fc6ea792310cec045a6b067fc0b91ce9db8bcf8feaec7399e169588e95afe8"), looks := false }, kinds := [], alts := [], laidByText := true, laidKinds := [.data, .data, .data, .data, .pinned], laidTests := true, laidLooks := .later }
def CjsTriesCardSaid : Prop := Claim7.holds Tryz.pinned (.plain (OpenSpec.ofChange cjsTriesSpec)) cjsTriesCard

/-- THE TIED CARD OF 'gossamerlaw29.CjsMains'. -/
def cjsMainsCard : Claim7 := { stood := { row := cjsMainsRow, standIns := [], harness := (true, "f0fc6ea792310cec045a6b067fc0b91ce9db8bcf8feaec7399e169588e95afe8"), looks := false }, kinds := [], alts := [], laidByText := true, laidKinds := [.data, .data, .data, .data, .pinned], laidTests := true, laidLooks := .later }
def CjsMainsCardSaid : Prop := Claim7.holds Tryz.pinned (.plain (OpenSpec.ofChange cjsMainsSpec)) cjsMainsCard

/-- THE TIED CARD OF 'gossamerlaw29.CjsUps'. -/
def cjsUpsCard : Claim7 := { stood := { row := cjsUpsRow, standIns := [], harness := (true, "f0fc6ea792310cec045a6b067fc0b91ce9db8bcf8feaec7399e169588e95afe8"), looks := false }, kinds := [], alts := [], laidByText := true, laidKinds := [.data, .data, .data, .data, .pinned], laidTests := true, laidLooks := .later }
def CjsUpsCardSaid : Prop := Claim7.holds Tryz.pinned (.plain (OpenSpec.ofChange cjsUpsSpec)) cjsUpsCard

/-- THE SECOND FORM's CARD OF 'gossamerlaw29.CjsTries'. -/
def cjsTriesUptoCard : Claim7 := { stood := { row := cjsTriesUptoRow, standIns := [], harness := (true, "f0fc6ea792310cec045a6b067fc0b91ce9db8bcf8feaec7399e169588e95afe8"), looks := false }, kinds := [], alts := [], laidByText := true, laidKinds := [.data, .data, .data, .data, .pinned], laidTests := true, laidLooks := .later }
def CjsTriesUptoCardSaid : Prop := Claim7.holds Tryz.pinned (.plain (OpenSpec.upto cjsTriesSpec)) cjsTriesUptoCard

/-- THE SECOND FORM's CARD OF 'gossamerlaw29.CjsMains'. -/
def cjsMainsUptoCard : Claim7 := { stood := { row := cjsMainsUptoRow, standIns := [], harness := (true, "f0fc6ea792310cec045a6b067fc0b91ce9db8bcf8feaec7399e169588e95afe8"), looks := false }, kinds := [], alts := [], laidByText := true, laidKinds := [.data, .data, .data, .data, .pinned], laidTests := true, laidLooks := .later }
def CjsMainsUptoCardSaid : Prop := Claim7.holds Tryz.pinned (.plain (OpenSpec.upto cjsMainsSpec)) cjsMainsUptoCard

/-- THE SECOND FORM's CARD OF 'gossamerlaw29.CjsUps'. -/
def cjsUpsUptoCard : Claim7 := { stood := { row := cjsUpsUptoRow, standIns := [], harness := (true, "f0fc6ea792310cec045a6b067fc0b91ce9db8bcf8feaec7399e169588e95afe8"), looks := false }, kinds := [], alts := [], laidByText := true, laidKinds := [.data, .data, .data, .data, .pinned], laidTests := true, laidLooks := .later }
def CjsUpsUptoCardSaid : Prop := Claim7.holds Tryz.pinned (.plain (OpenSpec.upto cjsUpsSpec)) cjsUpsUptoCard
end Rows
end Go.Proofs.YtnhbkfelfhhgjaaGreatDoor
