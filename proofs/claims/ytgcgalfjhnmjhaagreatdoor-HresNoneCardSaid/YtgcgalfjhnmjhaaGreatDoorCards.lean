/-
  DERIVED. GIVEN WITH THE SEED: THE CARDS: each row of YtgcgalfjhnmjhaaGreatDoorRows.lean that lists a variable, with what it lists TIED to the program's text (the seventh form; the later family's looks); each row that meets fmt, with fmt's text TOLD by the authors' own Lean function (tested against real Go, not proved from fmt's source: count such statements apart). THE CARD IS WHAT COUNTS. Prove the row's statement (the work); the ties are given (YtgcgalfjhnmjhaaGreatDoorTie.lean); close each card by the builder's one call (the guide's Derived/Test/ToyasCard.lean, 'card_holds'). Laid BY PROGRAM, IN A SANDBOX (cutbox-door.mjs). By AI agents, Wed Nov 11 2026. No macro, syntax, notation, axiom, sorry.
-/
import Derived.Test.YtgcgalfjhnmjhaaGreatDoorRows
import GoSem.ClaimSeven
namespace Go.Proofs.YtgcgalfjhnmjhaaGreatDoor
namespace Rows

/-- THE TIED CARD OF 'gossamerlaw20.HresScopes'. -/
def hresScopesCard : Claim7 := { stood := { row := hresScopesRow, standIns := [], harness := (true, "f7aedbb453f31c00f119d54094a417445fd6f65d08b4144d02035d2546ceceaf"), looks := false }, kinds := [], alts := [], laidByText := true, laidKinds := [.data, .data, .data], laidTests := true, laidLooks := .later }
def HresScopesCardSaid : Prop := Claim7.holds Tryz.pinned (.plain (OpenSpec.ofChange hresScopesSpec)) hresScopesCard

/-- THE TIED CARD OF 'gossamerlaw20.HresNone'. -/
def hresNoneCard : Claim7 := { stood := { row := hresNoneRow, standIns := [], harness := (true, "f7aedbb453f31c00f119d54094a417445fd6f65d08b4144d02035d2546ceceaf"), looks := false }, kinds := [], alts := [], laidByText := true, laidKinds := [.data, .data, .data], laidTests := true, laidLooks := .later }
def HresNoneCardSaid : Prop := Claim7.holds Tryz.pinned (.plain (OpenSpec.ofChange hresNoneSpec)) hresNoneCard

/-- THE SECOND FORM's CARD OF 'gossamerlaw20.HresScopes'. -/
def hresScopesUptoCard : Claim7 := { stood := { row := hresScopesUptoRow, standIns := [], harness := (true, "f7aedbb453f31c00f119d54094a417445fd6f65d08b4144d02035d2546ceceaf"), looks := false }, kinds := [], alts := [], laidByText := true, laidKinds := [.data, .data, .data], laidTests := true, laidLooks := .later }
def HresScopesUptoCardSaid : Prop := Claim7.holds Tryz.pinned (.plain (OpenSpec.upto hresScopesSpec)) hresScopesUptoCard

/-- THE SECOND FORM's CARD OF 'gossamerlaw20.HresNone'. -/
def hresNoneUptoCard : Claim7 := { stood := { row := hresNoneUptoRow, standIns := [], harness := (true, "f7aedbb453f31c00f119d54094a417445fd6f65d08b4144d02035d2546ceceaf"), looks := false }, kinds := [], alts := [], laidByText := true, laidKinds := [.data, .data, .data], laidTests := true, laidLooks := .later }
def HresNoneUptoCardSaid : Prop := Claim7.holds Tryz.pinned (.plain (OpenSpec.upto hresNoneSpec)) hresNoneUptoCard
end Rows
end Go.Proofs.YtgcgalfjhnmjhaaGreatDoor
