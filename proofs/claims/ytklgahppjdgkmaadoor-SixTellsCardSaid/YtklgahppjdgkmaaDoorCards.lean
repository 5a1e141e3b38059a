/-
  DERIVED. GIVEN WITH THE SEED: THE CARDS: each row of YtklgahppjdgkmaaDoorRows.lean that lists a variable, with what it lists TIED to the program's text (the seventh form; the later family's looks); each row that meets fmt, with fmt's text TOLD by the authors' own Lean function (tested against real Go, not proved from fmt's source: count such statements apart). THE CARD IS WHAT COUNTS. Prove the row's statement (the work); the ties are given (YtklgahppjdgkmaaDoorTie.lean); close each card by the builder's one call (the guide's Derived/Test/ToyasCard.lean, 'card_holds'). Laid BY PROGRAM, IN A SANDBOX (cutbox-door.mjs). By AI agents, Wed Nov 11 2026. No macro, syntax, notation, axiom, sorry.
-/
import Derived.Test.YtklgahppjdgkmaaDoorRows
import GoSem.ClaimSeven
namespace Go.Proofs.YtklgahppjdgkmaaDoor
namespace Rows

/-- THE TIED CARD OF 'gossamerlaw9.SixTells'. -/
def sixTellsCard : Claim7 := { stood := { row := sixTellsRow, standIns := [], harness := (true, "b309da7e36f5ee9bf3317fd25aa336b3401b2e344380e6001a7453ddf1c6e16f"), looks := false }, kinds := [], alts := [], laidByText := true, laidKinds := [.data, .data, .data], laidTests := true, laidLooks := .later }
def SixTellsCardSaid : Prop := Claim7.holds Tryd.pinned (.plain (OpenSpec.ofChange sixTellsSpec)) sixTellsCard

/-- THE TIED CARD OF 'gossamerlaw9.SixBack'. -/
def sixBackCard : Claim7 := { stood := { row := sixBackRow, standIns := [], harness := (true, "b309da7e36f5ee9bf3317fd25aa336b3401b2e344380e6001a7453ddf1c6e16f"), looks := false }, kinds := [], alts := [], laidByText := true, laidKinds := [.data, .data, .data], laidTests := true, laidLooks := .later }
def SixBackCardSaid : Prop := Claim7.holds Tryd.pinned (.plain (OpenSpec.ofChange sixBackSpec)) sixBackCard

/-- THE TIED CARD OF 'gossamerlaw9.SixForms'. -/
def sixFormsCard : Claim7 := { stood := { row := sixFormsRow, standIns := [], harness := (true, "b309da7e36f5ee9bf3317fd25aa336b3401b2e344380e6001a7453ddf1c6e16f"), looks := false }, kinds := [], alts := [], laidByText := true, laidKinds := [.data, .data, .data], laidTests := true, laidLooks := .later }
def SixFormsCardSaid : Prop := Claim7.holds Tryd.pinned (.plain (OpenSpec.ofChange sixFormsSpec)) sixFormsCard

/-- THE TIED CARD OF 'gossamerlaw9.SixMore'. -/
def sixMoreCard : Claim7 := { stood := { row := sixMoreRow, standIns := [], harness := (true, "b309da7e36f5ee9bf3317fd25aa336b3401b2e344380e6001a7453ddf1c6e16f"), looks := false }, kinds := [], alts := [], laidByText := true, laidKinds := [.data, .data, .data], laidTests := true, laidLooks := .later }
def SixMoreCardSaid : Prop := Claim7.holds Tryd.pinned (.plain (OpenSpec.ofChange sixMoreSpec)) sixMoreCard

/-- THE SECOND FORM's CARD OF 'gossamerlaw9.SixTells'. -/
def sixTellsUptoCard : Claim7 := { stood := { row := sixTellsUptoRow, standIns := [], harness := (true, "b309da7e36f5ee9bf3317fd25aa336b3401b2e344380e6001a7453ddf1c6e16f"), looks := false }, kinds := [], alts := [], laidByText := true, laidKinds := [.data, .data, .data], laidTests := true, laidLooks := .later }
def SixTellsUptoCardSaid : Prop := Claim7.holds Tryd.pinned (.plain (OpenSpec.upto sixTellsSpec)) sixTellsUptoCard

/-- THE SECOND FORM's CARD OF 'gossamerlaw9.SixBack'. -/
def sixBackUptoCard : Claim7 := { stood := { row := sixBackUptoRow, standIns := [], harness := (true, "b309da7e36f5ee9bf3317fd25aa336b3401b2e344380e6001a7453ddf1c6e16f"), looks := false }, kinds := [], alts := [], laidByText := true, laidKinds := [.data, .data, .data], laidTests := true, laidLooks := .later }
def SixBackUptoCardSaid : Prop := Claim7.holds Tryd.pinned (.plain (OpenSpec.upto sixBackSpec)) sixBackUptoCard

/-- THE SECOND FORM's CARD OF 'gossamerlaw9.SixForms'. -/
def sixFormsUptoCard : Claim7 := { stood := { row := sixFormsUptoRow, standIns := [], harness := (true, "b309da7e36f5ee9bf3317fd25aa336b3401b2e344380e6001a7453ddf1c6e16f"), looks := false }, kinds := [], alts := [], laidByText := true, laidKinds := [.data, .data, .data], laidTests := true, laidLooks := .later }
def SixFormsUptoCardSaid : Prop := Claim7.holds Tryd.pinned (.plain (OpenSpec.upto sixFormsSpec)) sixFormsUptoCard

/-- THE SECOND FORM's CARD OF 'gossamerlaw9.SixMore'. -/
def sixMoreUptoCard : Claim7 := { stood := { row := sixMoreUptoRow, standIns := [], harness := (true, "b309da7e36f5ee9bf3317fd25aa336b3401b2e344380e6001a7453ddf1c6e16f"), looks := false }, kinds := [], alts := [], laidByText := true, laidKinds := [.data, .data, .data], laidTests := true, laidLooks := .later }
def SixMoreUptoCardSaid : Prop := Claim7.holds Tryd.pinned (.plain (OpenSpec.upto sixMoreSpec)) sixMoreUptoCard
end Rows
end Go.Proofs.YtklgahppjdgkmaaDoor
