/-
  DERIVED. GIVEN WITH THE SEED: THE CARDS: each row of YtmfapopclbnlpaaGreatDoorRows.lean that lists a variable, with what it lists TIED to the program's text (the seventh form; the later family's looks); each row that meets fmt, with fmt's text TOLD by the authors' own Lean function (tested against real Go, not proved from fmt's source: count such statements apart). THE CARD IS WHAT COUNTS. Prove the row's statement (the work); the ties are given (YtmfapopclbnlpaaGreatDoorTie.lean); close each card by the builder's one call (the guide's Derived/Test/ToyasCard.lean, 'card_holds'). Laid BY PROGRAM, IN A SANDBOX (cutbox-door.mjs). By AI agents, Wed Nov 11 2026. No macro, syntax, notation, axiom, sorry.
-/
import Derived.Test.YtmfapopclbnlpaaGreatDoorRows
import GoSem.ClaimSeven
namespace Go.Proofs.YtmfapopclbnlpaaGreatDoor
namespace Rows

/-- THE TIED CARD OF 'gossamerlaw12.UrlTells'. -/
def urlTellsCard : Claim7 := { stood := { row := urlTellsRow, standIns := [], harness := (true, "ac028c42f48d78bd2afabe420b7733aa8e908b599fc4e97ab2e0f6710d2be292"), looks := false }, kinds := [], alts := [], laidByText := true, laidKinds := [.data, .data, .data], laidTests := true, laidLooks := .later }
def UrlTellsCardSaid : Prop := Claim7.holds Tryz.pinned (.plain (OpenSpec.ofChange urlTellsSpec)) urlTellsCard

/-- THE TIED CARD OF 'gossamerlaw12.UrlTurned'. -/
def urlTurnedCard : Claim7 := { stood := { row := urlTurnedRow, standIns := [], harness := (true, "ac028c42f48d78bd2afabe420b7733aa8e908b599fc4e97ab2e0f6710d2be292"), looks := false }, kinds := [], alts := [], laidByText := true, laidKinds := [.data, .data, .data], laidTests := true, laidLooks := .later }
def UrlTurnedCardSaid : Prop := Claim7.holds Tryz.pinned (.plain (OpenSpec.ofChange urlTurnedSpec)) urlTurnedCard

/-- THE TIED CARD OF 'gossamerlaw12.UrlTrims'. -/
def urlTrimsCard : Claim7 := { stood := { row := urlTrimsRow, standIns := [], harness := (true, "ac028c42f48d78bd2afabe420b7733aa8e908b599fc4e97ab2e0f6710d2be292"), looks := false }, kinds := [], alts := [], laidByText := true, laidKinds := [.data, .data, .data], laidTests := true, laidLooks := .later }
def UrlTrimsCardSaid : Prop := Claim7.holds Tryz.pinned (.plain (OpenSpec.ofChange urlTrimsSpec)) urlTrimsCard

/-- THE TIED CARD OF 'gossamerlaw12.UrlDots'. -/
def urlDotsCard : Claim7 := { stood := { row := urlDotsRow, standIns := [], harness := (true, "ac028c42f48d78bd2afabe420b7733aa8e908b599fc4e97ab2e0f6710d2be292"), looks := false }, kinds := [], alts := [], laidByText := true, laidKinds := [.data, .data, .data], laidTests := true, laidLooks := .later }
def UrlDotsCardSaid : Prop := Claim7.holds Tryz.pinned (.plain (OpenSpec.ofChange urlDotsSpec)) urlDotsCard

/-- THE TIED CARD OF 'gossamerlaw12.UrlPorts'. -/
def urlPortsCard : Claim7 := { stood := { row := urlPortsRow, standIns := [], harness := (true, "ac028c42f48d78bd2afabe420b7733aa8e908b599fc4e97ab2e0f6710d2be292"), looks := false }, kinds := [], alts := [], laidByText := true, laidKinds := [.data, .data, .data], laidTests := true, laidLooks := .later }
def UrlPortsCardSaid : Prop := Claim7.holds Tryz.pinned (.plain (OpenSpec.ofChange urlPortsSpec)) urlPortsCard

/-- THE TIED CARD OF 'gossamerlaw12.UrlUsers'. -/
def urlUsersCard : Claim7 := { stood := { row := urlUsersRow, standIns := [], harness := (true, "ac028c42f48d78bd2afabe420b7733aa8e908b599fc4e97ab2e0f6710d2be292"), looks := false }, kinds := [], alts := [], laidByText := true, laidKinds := [.data, .data, .data], laidTests := true, laidLooks := .later }
def UrlUsersCardSaid : Prop := Claim7.holds Tryz.pinned (.plain (OpenSpec.ofChange urlUsersSpec)) urlUsersCard

/-- THE TIED CARD OF 'gossamerlaw12.UrlKeeps'. -/
def urlKeepsCard : Claim7 := { stood := { row := urlKeepsRow, standIns := [], harness := (true, "ac028c42f48d78bd2afabe420b7733aa8e908b599fc4e97ab2e0f6710d2be292"), looks := false }, kinds := [], alts := [], laidByText := true, laidKinds := [.data, .data, .data], laidTests := true, laidLooks := .later }
def UrlKeepsCardSaid : Prop := Claim7.holds Tryz.pinned (.plain (OpenSpec.ofChange urlKeepsSpec)) urlKeepsCard

/-- THE TIED CARD OF 'gossamerlaw12.UrlHosts'. -/
def urlHostsCard : Claim7 := { stood := { row := urlHostsRow, standIns := [], harness := (true, "ac028c42f48d78bd2afabe420b7733aa8e908b599fc4e97ab2e0f6710d2be292"), looks := false }, kinds := [], alts := [], laidByText := true, laidKinds := [.data, .data, .data], laidTests := true, laidLooks := .later }
def UrlHostsCardSaid : Prop := Claim7.holds Tryz.pinned (.plain (OpenSpec.ofChange urlHostsSpec)) urlHostsCard

/-- THE TIED CARD OF 'gossamerlaw12.UrlSlashes'. -/
def urlSlashesCard : Claim7 := { stood := { row := urlSlashesRow, standIns := [], harness := (true, "ac028c42f48d78bd2afabe420b7733aa8e908b599fc4e97ab2e0f6710d2be292"), looks := false }, kinds := [], alts := [], laidByText := true, laidKinds := [.data, .data, .data], laidTests := true, laidLooks := .later }
def UrlSlashesCardSaid : Prop := Claim7.holds Tryz.pinned (.plain (OpenSpec.ofChange urlSlashesSpec)) urlSlashesCard

/-- THE TIED CARD OF 'gossamerlaw12.UrlHashes'. -/
def urlHashesCard : Claim7 := { stood := { row := urlHashesRow, standIns := [], harness := (true, "ac028c42f48d78bd2afabe420b7733aa8e908b599fc4e97ab2e0f6710d2be292"), looks := false }, kinds := [], alts := [], laidByText := true, laidKinds := [.data, .data, .data], laidTests := true, laidLooks := .later }
def UrlHashesCardSaid : Prop := Claim7.holds Tryz.pinned (.plain (OpenSpec.ofChange urlHashesSpec)) urlHashesCard

/-- THE SECOND FORM's CARD OF 'gossamerlaw12.UrlTells'. -/
def urlTellsUptoCard : Claim7 := { stood := { row := urlTellsUptoRow, standIns := [], harness := (true, "ac028c42f48d78bd2afabe420b7733aa8e908b599fc4e97ab2e0f6710d2be292"), looks := false }, kinds := [], alts := [], laidByText := true, laidKinds := [.data, .data, .data], laidTests := true, laidLooks := .later }
def UrlTellsUptoCardSaid : Prop := Claim7.holds Tryz.pinned (.plain (OpenSpec.upto urlTellsSpec)) urlTellsUptoCard

/-- THE SECOND FORM's CARD OF 'gossamerlaw12.UrlTurned'. -/
def urlTurnedUptoCard : Claim7 := { stood := { row := urlTurnedUptoRow, standIns := [], harness := (true, "ac028c42f48d78bd2afabe420b7733aa8e908b599fc4e97ab2e0f6710d2be292"), looks := false }, kinds := [], alts := [], laidByText := true, laidKinds := [.data, .data, .data], laidTests := true, laidLooks := .later }
def UrlTurnedUptoCardSaid : Prop := Claim7.holds Tryz.pinned (.plain (OpenSpec.upto urlTurnedSpec)) urlTurnedUptoCard

/-- THE SECOND FORM's CARD OF 'gossamerlaw12.UrlTrims'. -/
def urlTrimsUptoCard : Claim7 := { stood := { row := urlTrimsUptoRow, standIns := [], harness := (true, "ac028c42f48d78bd2afabe420b7733aa8e908b599fc4e97ab2e0f6710d2be292"), looks := false }, kinds := [], alts := [], laidByText := true, laidKinds := [.data, .data, .data], laidTests := true, laidLooks := .later }
def UrlTrimsUptoCardSaid : Prop := Claim7.holds Tryz.pinned (.plain (OpenSpec.upto urlTrimsSpec)) urlTrimsUptoCard

/-- THE SECOND FORM's CARD OF 'gossamerlaw12.UrlDots'. -/
def urlDotsUptoCard : Claim7 := { stood := { row := urlDotsUptoRow, standIns := [], harness := (true, "ac028c42f48d78bd2afabe420b7733aa8e908b599fc4e97ab2e0f6710d2be292"), looks := false }, kinds := [], alts := [], laidByText := true, laidKinds := [.data, .data, .data], laidTests := true, laidLooks := .later }
def UrlDotsUptoCardSaid : Prop := Claim7.holds Tryz.pinned (.plain (OpenSpec.upto urlDotsSpec)) urlDotsUptoCard

/-- THE SECOND FORM's CARD OF 'gossamerlaw12.UrlPorts'. -/
def urlPortsUptoCard : Claim7 := { stood := { row := urlPortsUptoRow, standIns := [], harness := (true, "ac028c42f48d78bd2afabe420b7733aa8e908b599fc4e97ab2e0f6710d2be292"), looks := false }, kinds := [], alts := [], laidByText := true, laidKinds := [.data, .data, .data], laidTests := true, laidLooks := .later }
def UrlPortsUptoCardSaid : Prop := Claim7.holds Tryz.pinned (.plain (OpenSpec.upto urlPortsSpec)) urlPortsUptoCard

/-- THE SECOND FORM's CARD OF 'gossamerlaw12.UrlUsers'. -/
def urlUsersUptoCard : Claim7 := { stood := { row := urlUsersUptoRow, standIns := [], harness := (true, "ac028c42f48d78bd2afabe420b7733aa8e908b599fc4e97ab2e0f6710d2be292"), looks := false }, kinds := [], alts := [], laidByText := true, laidKinds := [.data, .data, .data], laidTests := true, laidLooks := .later }
def UrlUsersUptoCardSaid : Prop := Claim7.holds Tryz.pinned (.plain (OpenSpec.upto urlUsersSpec)) urlUsersUptoCard

/-- THE SECOND FORM's CARD OF 'gossamerlaw12.UrlKeeps'. -/
def urlKeepsUptoCard : Claim7 := { stood := { row := urlKeepsUptoRow, standIns := [], harness := (true, "ac028c42f48d78bd2afabe420b7733aa8e908b599fc4e97ab2e0f6710d2be292"), looks := false }, kinds := [], alts := [], laidByText := true, laidKinds := [.data, .data, .data], laidTests := true, laidLooks := .later }
def UrlKeepsUptoCardSaid : Prop := Claim7.holds Tryz.pinned (.plain (OpenSpec.upto urlKeepsSpec)) urlKeepsUptoCard

/-- THE SECOND FORM's CARD OF 'gossamerlaw12.UrlHosts'. -/
def urlHostsUptoCard : Claim7 := { stood := { row := urlHostsUptoRow, standIns := [], harness := (true, "ac028c42f48d78bd2afabe420b7733aa8e908b599fc4e97ab2e0f6710d2be292"), looks := false }, kinds := [], alts := [], laidByText := true, laidKinds := [.data, .data, .data], laidTests := true, laidLooks := .later }
def UrlHostsUptoCardSaid : Prop := Claim7.holds Tryz.pinned (.plain (OpenSpec.upto urlHostsSpec)) urlHostsUptoCard

/-- THE SECOND FORM's CARD OF 'gossamerlaw12.UrlSlashes'. -/
def urlSlashesUptoCard : Claim7 := { stood := { row := urlSlashesUptoRow, standIns := [], harness := (true, "ac028c42f48d78bd2afabe420b7733aa8e908b599fc4e97ab2e0f6710d2be292"), looks := false }, kinds := [], alts := [], laidByText := true, laidKinds := [.data, .data, .data], laidTests := true, laidLooks := .later }
def UrlSlashesUptoCardSaid : Prop := Claim7.holds Tryz.pinned (.plain (OpenSpec.upto urlSlashesSpec)) urlSlashesUptoCard

/-- THE SECOND FORM's CARD OF 'gossamerlaw12.UrlHashes'. -/
def urlHashesUptoCard : Claim7 := { stood := { row := urlHashesUptoRow, standIns := [], harness := (true, "ac028c42f48d78bd2afabe420b7733aa8e908b599fc4e97ab2e0f6710d2be292"), looks := false }, kinds := [], alts := [], laidByText := true, laidKinds := [.data, .data, .data], laidTests := true, laidLooks := .later }
def UrlHashesUptoCardSaid : Prop := Claim7.holds Tryz.pinned (.plain (OpenSpec.upto urlHashesSpec)) urlHashesUptoCard
end Rows
end Go.Proofs.YtmfapopclbnlpaaGreatDoor
