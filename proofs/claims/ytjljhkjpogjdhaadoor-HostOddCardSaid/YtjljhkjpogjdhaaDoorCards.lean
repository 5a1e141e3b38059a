/-
  DERIVED. GIVEN WITH THE SEED: THE CARDS: each row of YtjljhkjpogjdhaaDoorRows.lean that lists a variable, with what it lists TIED to the program's text (the seventh form; the later family's looks); each row that meets fmt, with fmt's text TOLD by the authors' own Lean function (tested against real Go, not proved from fmt's source: count such statements apart). THE CARD IS WHAT COUNTS. Prove the row's statement (the work); the ties are given (YtjljhkjpogjdhaaDoorTie.lean); close each card by the builder's one call (the guide's Derived/Test/ToyasCard.lean, 'card_holds'). Laid BY PROGRAM, IN A SANDBOX (cutbox-door.mjs). By AI agents, Wed Nov 11 2026. No macro, syntax, notation, axiom, sorry.
-/
import Derived.Test.YtjljhkjpogjdhaaDoorRows
import GoSem.ClaimSeven
namespace Go.Proofs.YtjljhkjpogjdhaaDoor
namespace Rows

/-- THE TIED CARD OF 'gossamerlaw10.HostBack'. -/
def hostBackCard : Claim7 := { stood := { row := hostBackRow, standIns := [], harness := (true, "f58eab3a8f7e606230487f894cb3ef22181635e92707e5567860281d7b18923b"), looks := false }, kinds := [], alts := [], laidByText := true, laidKinds := [.data, .data, .data], laidTests := true, laidLooks := .later }
def HostBackCardSaid : Prop := Claim7.holds Tryd.pinned (.plain (OpenSpec.ofChange hostBackSpec)) hostBackCard

/-- THE TIED CARD OF 'gossamerlaw10.HostNames'. -/
def hostNamesCard : Claim7 := { stood := { row := hostNamesRow, standIns := [], harness := (true, "f58eab3a8f7e606230487f894cb3ef22181635e92707e5567860281d7b18923b"), looks := false }, kinds := [], alts := [], laidByText := true, laidKinds := [.data, .data, .data], laidTests := true, laidLooks := .later }
def HostNamesCardSaid : Prop := Claim7.holds Tryd.pinned (.plain (OpenSpec.ofChange hostNamesSpec)) hostNamesCard

/-- THE TIED CARD OF 'gossamerlaw10.HostOdd'. -/
def hostOddCard : Claim7 := { stood := { row := hostOddRow, standIns := [], harness := (true, "f58eab3a8f7e606230487f894cb3ef22181635e92707e5567860281d7b18923b"), looks := false }, kinds := [], alts := [], laidByText := true, laidKinds := [.data, .data, .data], laidTests := true, laidLooks := .later }
def HostOddCardSaid : Prop := Claim7.holds Tryd.pinned (.plain (OpenSpec.ofChange hostOddSpec)) hostOddCard

/-- THE TIED CARD OF 'gossamerlaw10.HostCases'. -/
def hostCasesCard : Claim7 := { stood := { row := hostCasesRow, standIns := [], harness := (true, "f58eab3a8f7e606230487f894cb3ef22181635e92707e5567860281d7b18923b"), looks := false }, kinds := [], alts := [], laidByText := true, laidKinds := [.data, .data, .data], laidTests := true, laidLooks := .later }
def HostCasesCardSaid : Prop := Claim7.holds Tryd.pinned (.plain (OpenSpec.ofChange hostCasesSpec)) hostCasesCard

/-- THE SECOND FORM's CARD OF 'gossamerlaw10.HostBack'. -/
def hostBackUptoCard : Claim7 := { stood := { row := hostBackUptoRow, standIns := [], harness := (true, "f58eab3a8f7e606230487f894cb3ef22181635e92707e5567860281d7b18923b"), looks := false }, kinds := [], alts := [], laidByText := true, laidKinds := [.data, .data, .data], laidTests := true, laidLooks := .later }
def HostBackUptoCardSaid : Prop := Claim7.holds Tryd.pinned (.plain (OpenSpec.upto hostBackSpec)) hostBackUptoCard

/-- THE SECOND FORM's CARD OF 'gossamerlaw10.HostNames'. -/
def hostNamesUptoCard : Claim7 := { stood := { row := hostNamesUptoRow, standIns := [], harness := (true, "f58eab3a8f7e606230487f894cb3ef22181635e92707e5567860281d7b18923b"), looks := false }, kinds := [], alts := [], laidByText := true, laidKinds := [.data, .data, .data], laidTests := true, laidLooks := .later }
def HostNamesUptoCardSaid : Prop := Claim7.holds Tryd.pinned (.plain (OpenSpec.upto hostNamesSpec)) hostNamesUptoCard

/-- THE SECOND FORM's CARD OF 'gossamerlaw10.HostOdd'. -/
def hostOddUptoCard : Claim7 := { stood := { row := hostOddUptoRow, standIns := [], harness := (true, "f58eab3a8f7e606230487f894cb3ef22181635e92707e5567860281d7b18923b"), looks := false }, kinds := [], alts := [], laidByText := true, laidKinds := [.data, .data, .data], laidTests := true, laidLooks := .later }
def HostOddUptoCardSaid : Prop := Claim7.holds Tryd.pinned (.plain (OpenSpec.upto hostOddSpec)) hostOddUptoCard

/-- THE SECOND FORM's CARD OF 'gossamerlaw10.HostCases'. -/
def hostCasesUptoCard : Claim7 := { stood := { row := hostCasesUptoRow, standIns := [], harness := (true, "f58eab3a8f7e606230487f894cb3ef22181635e92707e5567860281d7b18923b"), looks := false }, kinds := [], alts := [], laidByText := true, laidKinds := [.data, .data, .data], laidTests := true, laidLooks := .later }
def HostCasesUptoCardSaid : Prop := Claim7.holds Tryd.pinned (.plain (OpenSpec.upto hostCasesSpec)) hostCasesUptoCard
end Rows
end Go.Proofs.YtjljhkjpogjdhaaDoor
