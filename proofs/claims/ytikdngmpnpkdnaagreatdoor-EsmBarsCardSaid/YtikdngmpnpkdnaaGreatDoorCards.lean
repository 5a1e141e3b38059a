/-
  DERIVED. GIVEN WITH THE SEED: THE CARDS: each row of YtikdngmpnpkdnaaGreatDoorRows.lean that lists a variable, with what it lists TIED to the program's text (the seventh form; the later family's looks); each row that meets fmt, with fmt's text TOLD by the authors' own Lean function (tested against real Go, not proved from fmt's source: count such statements apart). THE CARD IS WHAT COUNTS. Prove the row's statement (the work); the ties are given (YtikdngmpnpkdnaaGreatDoorTie.lean); close each card by the builder's one call (the guide's Derived/Test/ToyasCard.lean, 'card_holds'). Laid BY PROGRAM, IN A SANDBOX (cutbox-door.mjs). By AI agents, Wed Nov 11 2026. No macro, syntax, notation, axiom, sorry.
-/
import Derived.Test.YtikdngmpnpkdnaaGreatDoorRows
import GoSem.ClaimSeven
namespace Go.Proofs.YtikdngmpnpkdnaaGreatDoor
namespace Rows

/-- THE TIED CARD OF 'gossamerlaw28.EsmFormats'. -/
def esmFormatsCard : Claim7 := { stood := { row := esmFormatsRow, standIns := [], harness := (true, "02fa90e29d69a738b00592e89a85f9963999a3745127a8994240b0df3b611f15"), looks := false }, kinds := [], alts := [], laidByText := true, laidKinds := [.data, .data, .data, .data, .pinned], laidTests := true, laidLooks := .later }
def EsmFormatsCardSaid : Prop := Claim7.holds Tryz.pinned (.plain (OpenSpec.ofChange esmFormatsSpec)) esmFormatsCard

/-- THE TIED CARD OF 'gossamerlaw28.EsmLinks'. -/
def esmLinksCard : Claim7 := { stood := { row := esmLinksRow, standIns := [], harness := (true, "02fa90e29d69a738b00592e89a85f9963999a3745127a8994240b0df3b611f15"), looks := false }, kinds := [], alts := [], laidByText := true, laidKinds := [.data, .data, .data, .data, .pinned], laidTests := true, laidLooks := .later }
def EsmLinksCardSaid : Prop := Claim7.holds Tryz.pinned (.plain (OpenSpec.ofChange esmLinksSpec)) esmLinksCard

/-- THE TIED CARD OF 'gossamerlaw28.EsmBars'. -/
def esmBarsCard : Claim7 := { stood := { row := esmBarsRow, standIns := [], harness := (true, "02fa90e29d69a738b00592e89a85f9963999a3745127a8994240b0df3b611f15"), looks := false }, kinds := [], alts := [], laidByText := true, laidKinds := [.data, .data, .data, .data, .pinned], laidTests := true, laidLooks := .later }
def EsmBarsCardSaid : Prop := Claim7.holds Tryz.pinned (.plain (OpenSpec.ofChange esmBarsSpec)) esmBarsCard

/-- THE SECOND FORM's CARD OF 'gossamerlaw28.EsmFormats'. -/
def esmFormatsUptoCard : Claim7 := { stood := { row := esmFormatsUptoRow, standIns := [], harness := (true, "02fa90e29d69a738b00592e89a85f9963999a3745127a8994240b0df3b611f15"), looks := false }, kinds := [], alts := [], laidByText := true, laidKinds := [.data, .data, .data, .data, .pinned], laidTests := true, laidLooks := .later }
def EsmFormatsUptoCardSaid : Prop := Claim7.holds Tryz.pinned (.plain (OpenSpec.upto esmFormatsSpec)) esmFormatsUptoCard

/-- THE SECOND FORM's CARD OF 'gossamerlaw28.EsmLinks'. -/
def esmLinksUptoCard : Claim7 := { stood := { row := esmLinksUptoRow, standIns := [], harness := (true, "02fa90e29d69a738b00592e89a85f9963999a3745127a8994240b0df3b611f15"), looks := false }, kinds := [], alts := [], laidByText := true, laidKinds := [.data, .data, .data, .data, .pinned], laidTests := true, laidLooks := .later }
def EsmLinksUptoCardSaid : Prop := Claim7.holds Tryz.pinned (.plain (OpenSpec.upto esmLinksSpec)) esmLinksUptoCard

/-- THE SECOND FORM's CARD OF 'gossamerlaw28.EsmBars'. -/
def esmBarsUptoCard : Claim7 := { stood := { row := esmBarsUptoRow, standIns := [], harness := (true, "02fa90e29d69a738b00592e89a85f9963999a3745127a8994240b0df3b611f15"), looks := false }, kinds := [], alts := [], laidByText := true, laidKinds := [.data, .data, .data, .data, .pinned], laidTests := true, laidLooks := .later }
def EsmBarsUptoCardSaid : Prop := Claim7.holds Tryz.pinned (.plain (OpenSpec.upto esmBarsSpec)) esmBarsUptoCard
end Rows
end Go.Proofs.YtikdngmpnpkdnaaGreatDoor
