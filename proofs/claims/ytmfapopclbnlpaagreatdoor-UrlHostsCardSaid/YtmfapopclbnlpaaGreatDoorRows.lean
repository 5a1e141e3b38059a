/-
  NARROWER THAN 'FOR EVERY INPUT', by the rows' own cells (each row's printed sentence says how): UrlTells: laid · UrlTurned: laid · UrlTrims: laid · UrlDots: laid · UrlPorts: laid · UrlUsers: laid · UrlKeeps: laid · UrlHosts: laid · UrlSlashes: laid · UrlHashes: laid.
  DERIVED. THE GIVEN ROWS OF THIS SEAT. 10 by the template 'for every input the law returns true; each argument reads behind the call as it read before'; 0 by the template 'total and deterministic' (their statements: YtmfapopclbnlpaaGreatDoorTotals.lean).
  GIVEN WITH THE SEED: the statements are not yours to turn. If you find one false, say at which input.
  Laid BY PROGRAM, IN A SANDBOX (cutbox-rows.mjs): the forced cells as the released guide's own fill.sh prints them over the translation 1d81ea9cbf4b63b0… (all of the seat's roots in one cut). By AI agents, Wed Nov 11 2026. No macro, syntax, notation, axiom, sorry.
-/
import Derived.Test.YtmfapopclbnlpaaGreatDoorChecked
import GoSem.Claim
import GoSem.ClaimJoined
import GoSem.ClaimMapViews
import Derived.JoinedTies
import Derived.KernelRfl
namespace Go.Proofs.YtmfapopclbnlpaaGreatDoor
/- THE CELL 'sum', in the pinned program and in every row, IS THE sha256 OF THE DUMP (.gsa) THAT YtmfapopclbnlpaaGreatDoorProg.lean LOADS. Nothing in Lean hashes anything: it is a label: what it is worth is what the hold of that sum in a sandbox is worth. -/
noncomputable def Tryz.pinned : Pinned := { name := "ytmfapopclbnlpaagreatdoor", sum := "1d81ea9cbf4b63b0125fd3fec6a58de23545204f2f3c190e3334fa21101aa629", checked := Tryz.checked }
namespace Rows
def none {H : Type} : Left H := { results := [], args := [] }

/- WHAT THE LISTED PACKAGE-LEVEL VARIABLES READ AS WHEN THE CALL BEGINS. Each datum BY PROGRAM (the guide's laid-datum.mjs) off the statement by which the dump's own 'gosem.cut.vars' lays the variable. In a bare row this is a premise. The card (YtmfapopclbnlpaaGreatDoorCards.lean) ties it to the program's text. -/
def laid_math_bits_deBruijn32tab {H : Type} : DataW H := .agg [.lit (.int .u8 0), .lit (.int .u8 1), .lit (.int .u8 28), .lit (.int .u8 2), .lit (.int .u8 29), .lit (.int .u8 14), .lit (.int .u8 24), .lit (.int .u8 3), .lit (.int .u8 30), .lit (.int .u8 22), .lit (.int .u8 20), .lit (.int .u8 15), .lit (.int .u8 25), .lit (.int .u8 17), .lit (.int .u8 4), .lit (.int .u8 8), .lit (.int .u8 31), .lit (.int .u8 27), .lit (.int .u8 13), .lit (.int .u8 23), .lit (.int .u8 21), .lit (.int .u8 19), .lit (.int .u8 16), .lit (.int .u8 7), .lit (.int .u8 26), .lit (.int .u8 12), .lit (.int .u8 18), .lit (.int .u8 6), .lit (.int .u8 11), .lit (.int .u8 5), .lit (.int .u8 10), .lit (.int .u8 9)]
def laid_math_bits_deBruijn64tab {H : Type} : DataW H := .agg [.lit (.int .u8 0), .lit (.int .u8 1), .lit (.int .u8 56), .lit (.int .u8 2), .lit (.int .u8 57), .lit (.int .u8 49), .lit (.int .u8 28), .lit (.int .u8 3), .lit (.int .u8 61), .lit (.int .u8 58), .lit (.int .u8 42), .lit (.int .u8 50), .lit (.int .u8 38), .lit (.int .u8 29), .lit (.int .u8 17), .lit (.int .u8 4), .lit (.int .u8 62), .lit (.int .u8 47), .lit (.int .u8 59), .lit (.int .u8 36), .lit (.int .u8 45), .lit (.int .u8 43), .lit (.int .u8 51), .lit (.int .u8 22), .lit (.int .u8 53), .lit (.int .u8 39), .lit (.int .u8 33), .lit (.int .u8 30), .lit (.int .u8 24), .lit (.int .u8 18), .lit (.int .u8 12), .lit (.int .u8 5), .lit (.int .u8 63), .lit (.int .u8 55), .lit (.int .u8 48), .lit (.int .u8 27), .lit (.int .u8 60), .lit (.int .u8 41), .lit (.int .u8 37), .lit (.int .u8 16), .lit (.int .u8 46), .lit (.int .u8 35), .lit (.int .u8 44), .lit (.int .u8 21), .lit (.int .u8 52), .lit (.int .u8 32), .lit (.int .u8 23), .lit (.int .u8 11), .lit (.int .u8 54), .lit (.int .u8 26), .lit (.int .u8 40), .lit (.int .u8 15), .lit (.int .u8 34), .lit (.int .u8 20), .lit (.int .u8 31), .lit (.int .u8 10), .lit (.int .u8 25), .lit (.int .u8 14), .lit (.int .u8 19), .lit (.int .u8 9), .lit (.int .u8 13), .lit (.int .u8 8), .lit (.int .u8 7), .lit (.int .u8 6)]
def laid_internal_strconv_uint64pow10 {H : Type} : DataW H := .agg [.lit (.int .u64 1), .lit (.int .u64 10), .lit (.int .u64 100), .lit (.int .u64 1000), .lit (.int .u64 10000), .lit (.int .u64 100000), .lit (.int .u64 1000000), .lit (.int .u64 10000000), .lit (.int .u64 100000000), .lit (.int .u64 1000000000), .lit (.int .u64 10000000000), .lit (.int .u64 100000000000), .lit (.int .u64 1000000000000), .lit (.int .u64 10000000000000), .lit (.int .u64 100000000000000), .lit (.int .u64 1000000000000000), .lit (.int .u64 10000000000000000), .lit (.int .u64 100000000000000000), .lit (.int .u64 1000000000000000000), .lit (.int .u64 10000000000000000000)]

/-- 'gossamerlaw12.UrlTells': WHATEVER THE INPUT: true; the input reads as it did. -/
def urlTellsSpec : ChangeSpec := { name := "urlTells", fn := fun _ => fun
  | [d1, d2] => { results := [.lit (.bool true)], args := [d1, d2] }
  | _ => none }
def urlTellsRow : OpenClaim := { program := "ytmfapopclbnlpaagreatdoor", sum := "1d81ea9cbf4b63b0125fd3fec6a58de23545204f2f3c190e3334fa21101aa629", func := "gossamer/gossamerlaw12.UrlTells", spec := "urlTells", inPlace := ["internal/bytealg.IndexByteString", "internal/bytealg.IndexString"], unfollowed := true, recurses := true, named := ["internal/bytealg.MaxLen", "internal/strconv.uint64pow10", "math/bits.deBruijn32tab", "math/bits.deBruijn64tab"], apart := false, laid := [("math/bits.deBruijn32tab", laid_math_bits_deBruijn32tab), ("math/bits.deBruijn64tab", laid_math_bits_deBruijn64tab), ("internal/strconv.uint64pow10", laid_internal_strconv_uint64pow10)] }
def UrlTellsSaid : Prop := urlTellsRow.holds Tryz.pinned (OpenSpec.ofChange urlTellsSpec)

/-- ITS FALSE NEIGHBOUR: 'it returns false'. Refute it at one input. -/
def urlTellsWrong : ChangeSpec := { name := "urlTells", fn := fun _ => fun
  | [d1, d2] => { results := [.lit (.bool false)], args := [d1, d2] }
  | _ => none }
def UrlTellsWrongFalsely : Prop := urlTellsRow.holds Tryz.pinned (OpenSpec.ofChange urlTellsWrong)

/-- 'gossamerlaw12.UrlTurned': WHATEVER THE INPUT: true; the input reads as it did. -/
def urlTurnedSpec : ChangeSpec := { name := "urlTurned", fn := fun _ => fun
  | [d1, d2, d3, d4, d5, d6] => { results := [.lit (.bool true)], args := [d1, d2, d3, d4, d5, d6] }
  | _ => none }
def urlTurnedRow : OpenClaim := { program := "ytmfapopclbnlpaagreatdoor", sum := "1d81ea9cbf4b63b0125fd3fec6a58de23545204f2f3c190e3334fa21101aa629", func := "gossamer/gossamerlaw12.UrlTurned", spec := "urlTurned", inPlace := ["internal/bytealg.IndexByteString", "internal/bytealg.IndexString"], unfollowed := true, recurses := true, named := ["internal/bytealg.MaxLen", "internal/strconv.uint64pow10", "math/bits.deBruijn32tab", "math/bits.deBruijn64tab"], apart := false, laid := [("math/bits.deBruijn32tab", laid_math_bits_deBruijn32tab), ("math/bits.deBruijn64tab", laid_math_bits_deBruijn64tab), ("internal/strconv.uint64pow10", laid_internal_strconv_uint64pow10)] }
def UrlTurnedSaid : Prop := urlTurnedRow.holds Tryz.pinned (OpenSpec.ofChange urlTurnedSpec)

/-- ITS FALSE NEIGHBOUR: 'it returns false'. Refute it at one input. -/
def urlTurnedWrong : ChangeSpec := { name := "urlTurned", fn := fun _ => fun
  | [d1, d2, d3, d4, d5, d6] => { results := [.lit (.bool false)], args := [d1, d2, d3, d4, d5, d6] }
  | _ => none }
def UrlTurnedWrongFalsely : Prop := urlTurnedRow.holds Tryz.pinned (OpenSpec.ofChange urlTurnedWrong)

/-- 'gossamerlaw12.UrlTrims': WHATEVER THE INPUT: true; the input reads as it did. -/
def urlTrimsSpec : ChangeSpec := { name := "urlTrims", fn := fun _ => fun
  | [d1, d2, d3, d4] => { results := [.lit (.bool true)], args := [d1, d2, d3, d4] }
  | _ => none }
def urlTrimsRow : OpenClaim := { program := "ytmfapopclbnlpaagreatdoor", sum := "1d81ea9cbf4b63b0125fd3fec6a58de23545204f2f3c190e3334fa21101aa629", func := "gossamer/gossamerlaw12.UrlTrims", spec := "urlTrims", inPlace := ["internal/bytealg.IndexByteString", "internal/bytealg.IndexString"], unfollowed := true, recurses := true, named := ["internal/bytealg.MaxLen", "internal/strconv.uint64pow10", "math/bits.deBruijn32tab", "math/bits.deBruijn64tab"], apart := false, laid := [("math/bits.deBruijn32tab", laid_math_bits_deBruijn32tab), ("math/bits.deBruijn64tab", laid_math_bits_deBruijn64tab), ("internal/strconv.uint64pow10", laid_internal_strconv_uint64pow10)] }
def UrlTrimsSaid : Prop := urlTrimsRow.holds Tryz.pinned (OpenSpec.ofChange urlTrimsSpec)

/-- ITS FALSE NEIGHBOUR: 'it returns false'. Refute it at one input. -/
def urlTrimsWrong : ChangeSpec := { name := "urlTrims", fn := fun _ => fun
  | [d1, d2, d3, d4] => { results := [.lit (.bool false)], args := [d1, d2, d3, d4] }
  | _ => none }
def UrlTrimsWrongFalsely : Prop := urlTrimsRow.holds Tryz.pinned (OpenSpec.ofChange urlTrimsWrong)

/-- 'gossamerlaw12.UrlDots': WHATEVER THE INPUT: true; the input reads as it did. -/
def urlDotsSpec : ChangeSpec := { name := "urlDots", fn := fun _ => fun
  | [d1, d2] => { results := [.lit (.bool true)], args := [d1, d2] }
  | _ => none }
def urlDotsRow : OpenClaim := { program := "ytmfapopclbnlpaagreatdoor", sum := "1d81ea9cbf4b63b0125fd3fec6a58de23545204f2f3c190e3334fa21101aa629", func := "gossamer/gossamerlaw12.UrlDots", spec := "urlDots", inPlace := ["internal/bytealg.IndexByteString", "internal/bytealg.IndexString"], unfollowed := true, recurses := true, named := ["internal/bytealg.MaxLen", "internal/strconv.uint64pow10", "math/bits.deBruijn32tab", "math/bits.deBruijn64tab"], apart := false, laid := [("math/bits.deBruijn32tab", laid_math_bits_deBruijn32tab), ("math/bits.deBruijn64tab", laid_math_bits_deBruijn64tab), ("internal/strconv.uint64pow10", laid_internal_strconv_uint64pow10)] }
def UrlDotsSaid : Prop := urlDotsRow.holds Tryz.pinned (OpenSpec.ofChange urlDotsSpec)

/-- ITS FALSE NEIGHBOUR: 'it returns false'. Refute it at one input. -/
def urlDotsWrong : ChangeSpec := { name := "urlDots", fn := fun _ => fun
  | [d1, d2] => { results := [.lit (.bool false)], args := [d1, d2] }
  | _ => none }
def UrlDotsWrongFalsely : Prop := urlDotsRow.holds Tryz.pinned (OpenSpec.ofChange urlDotsWrong)

/-- 'gossamerlaw12.UrlPorts': WHATEVER THE INPUT: true; the input reads as it did. -/
def urlPortsSpec : ChangeSpec := { name := "urlPorts", fn := fun _ => fun
  | [d1, d2, d3] => { results := [.lit (.bool true)], args := [d1, d2, d3] }
  | _ => none }
def urlPortsRow : OpenClaim := { program := "ytmfapopclbnlpaagreatdoor", sum := "1d81ea9cbf4b63b0125fd3fec6a58de23545204f2f3c190e3334fa21101aa629", func := "gossamer/gossamerlaw12.UrlPorts", spec := "urlPorts", inPlace := ["internal/bytealg.IndexByteString", "internal/bytealg.IndexString"], unfollowed := true, recurses := true, named := ["internal/bytealg.MaxLen", "internal/strconv.uint64pow10", "math/bits.deBruijn32tab", "math/bits.deBruijn64tab"], apart := false, laid := [("math/bits.deBruijn32tab", laid_math_bits_deBruijn32tab), ("math/bits.deBruijn64tab", laid_math_bits_deBruijn64tab), ("internal/strconv.uint64pow10", laid_internal_strconv_uint64pow10)] }
def UrlPortsSaid : Prop := urlPortsRow.holds Tryz.pinned (OpenSpec.ofChange urlPortsSpec)

/-- ITS FALSE NEIGHBOUR: 'it returns false'. Refute it at one input. -/
def urlPortsWrong : ChangeSpec := { name := "urlPorts", fn := fun _ => fun
  | [d1, d2, d3] => { results := [.lit (.bool false)], args := [d1, d2, d3] }
  | _ => none }
def UrlPortsWrongFalsely : Prop := urlPortsRow.holds Tryz.pinned (OpenSpec.ofChange urlPortsWrong)

/-- 'gossamerlaw12.UrlUsers': WHATEVER THE INPUT: true; the input reads as it did. -/
def urlUsersSpec : ChangeSpec := { name := "urlUsers", fn := fun _ => fun
  | [d] => { results := [.lit (.bool true)], args := [d] }
  | _ => none }
def urlUsersRow : OpenClaim := { program := "ytmfapopclbnlpaagreatdoor", sum := "1d81ea9cbf4b63b0125fd3fec6a58de23545204f2f3c190e3334fa21101aa629", func := "gossamer/gossamerlaw12.UrlUsers", spec := "urlUsers", inPlace := ["internal/bytealg.IndexByteString", "internal/bytealg.IndexString"], unfollowed := true, recurses := true, named := ["internal/bytealg.MaxLen", "internal/strconv.uint64pow10", "math/bits.deBruijn32tab", "math/bits.deBruijn64tab"], apart := false, laid := [("math/bits.deBruijn32tab", laid_math_bits_deBruijn32tab), ("math/bits.deBruijn64tab", laid_math_bits_deBruijn64tab), ("internal/strconv.uint64pow10", laid_internal_strconv_uint64pow10)] }
def UrlUsersSaid : Prop := urlUsersRow.holds Tryz.pinned (OpenSpec.ofChange urlUsersSpec)

/-- ITS FALSE NEIGHBOUR: 'it returns false'. Refute it at one input. -/
def urlUsersWrong : ChangeSpec := { name := "urlUsers", fn := fun _ => fun
  | [d] => { results := [.lit (.bool false)], args := [d] }
  | _ => none }
def UrlUsersWrongFalsely : Prop := urlUsersRow.holds Tryz.pinned (OpenSpec.ofChange urlUsersWrong)

/-- 'gossamerlaw12.UrlKeeps': WHATEVER THE INPUT: true; the input reads as it did. -/
def urlKeepsSpec : ChangeSpec := { name := "urlKeeps", fn := fun _ => fun
  | [d1, d2, d3] => { results := [.lit (.bool true)], args := [d1, d2, d3] }
  | _ => none }
def urlKeepsRow : OpenClaim := { program := "ytmfapopclbnlpaagreatdoor", sum := "1d81ea9cbf4b63b0125fd3fec6a58de23545204f2f3c190e3334fa21101aa629", func := "gossamer/gossamerlaw12.UrlKeeps", spec := "urlKeeps", inPlace := ["internal/bytealg.IndexByteString", "internal/bytealg.IndexString"], unfollowed := true, recurses := true, named := ["internal/bytealg.MaxLen", "internal/strconv.uint64pow10", "math/bits.deBruijn32tab", "math/bits.deBruijn64tab"], apart := false, laid := [("math/bits.deBruijn32tab", laid_math_bits_deBruijn32tab), ("math/bits.deBruijn64tab", laid_math_bits_deBruijn64tab), ("internal/strconv.uint64pow10", laid_internal_strconv_uint64pow10)] }
def UrlKeepsSaid : Prop := urlKeepsRow.holds Tryz.pinned (OpenSpec.ofChange urlKeepsSpec)

/-- ITS FALSE NEIGHBOUR: 'it returns false'. Refute it at one input. -/
def urlKeepsWrong : ChangeSpec := { name := "urlKeeps", fn := fun _ => fun
  | [d1, d2, d3] => { results := [.lit (.bool false)], args := [d1, d2, d3] }
  | _ => none }
def UrlKeepsWrongFalsely : Prop := urlKeepsRow.holds Tryz.pinned (OpenSpec.ofChange urlKeepsWrong)

/-- 'gossamerlaw12.UrlHosts': WHATEVER THE INPUT: true; the input reads as it did. -/
def urlHostsSpec : ChangeSpec := { name := "urlHosts", fn := fun _ => fun
  | [d] => { results := [.lit (.bool true)], args := [d] }
  | _ => none }
def urlHostsRow : OpenClaim := { program := "ytmfapopclbnlpaagreatdoor", sum := "1d81ea9cbf4b63b0125fd3fec6a58de23545204f2f3c190e3334fa21101aa629", func := "gossamer/gossamerlaw12.UrlHosts", spec := "urlHosts", inPlace := ["internal/bytealg.IndexByteString", "internal/bytealg.IndexString"], unfollowed := true, recurses := true, named := ["internal/bytealg.MaxLen", "internal/strconv.uint64pow10", "math/bits.deBruijn32tab", "math/bits.deBruijn64tab"], apart := false, laid := [("math/bits.deBruijn32tab", laid_math_bits_deBruijn32tab), ("math/bits.deBruijn64tab", laid_math_bits_deBruijn64tab), ("internal/strconv.uint64pow10", laid_internal_strconv_uint64pow10)] }
def UrlHostsSaid : Prop := urlHostsRow.holds Tryz.pinned (OpenSpec.ofChange urlHostsSpec)

/-- ITS FALSE NEIGHBOUR: 'it returns false'. Refute it at one input. -/
def urlHostsWrong : ChangeSpec := { name := "urlHosts", fn := fun _ => fun
  | [d] => { results := [.lit (.bool false)], args := [d] }
  | _ => none }
def UrlHostsWrongFalsely : Prop := urlHostsRow.holds Tryz.pinned (OpenSpec.ofChange urlHostsWrong)

/-- 'gossamerlaw12.UrlSlashes': WHATEVER THE INPUT: true; the input reads as it did. -/
def urlSlashesSpec : ChangeSpec := { name := "urlSlashes", fn := fun _ => fun
  | [d1, d2, d3] => { results := [.lit (.bool true)], args := [d1, d2, d3] }
  | _ => none }
def urlSlashesRow : OpenClaim := { program := "ytmfapopclbnlpaagreatdoor", sum := "1d81ea9cbf4b63b0125fd3fec6a58de23545204f2f3c190e3334fa21101aa629", func := "gossamer/gossamerlaw12.UrlSlashes", spec := "urlSlashes", inPlace := ["internal/bytealg.IndexByteString", "internal/bytealg.IndexString"], unfollowed := true, recurses := true, named := ["internal/bytealg.MaxLen", "internal/strconv.uint64pow10", "math/bits.deBruijn32tab", "math/bits.deBruijn64tab"], apart := false, laid := [("math/bits.deBruijn32tab", laid_math_bits_deBruijn32tab), ("math/bits.deBruijn64tab", laid_math_bits_deBruijn64tab), ("internal/strconv.uint64pow10", laid_internal_strconv_uint64pow10)] }
def UrlSlashesSaid : Prop := urlSlashesRow.holds Tryz.pinned (OpenSpec.ofChange urlSlashesSpec)

/-- ITS FALSE NEIGHBOUR: 'it returns false'. Refute it at one input. -/
def urlSlashesWrong : ChangeSpec := { name := "urlSlashes", fn := fun _ => fun
  | [d1, d2, d3] => { results := [.lit (.bool false)], args := [d1, d2, d3] }
  | _ => none }
def UrlSlashesWrongFalsely : Prop := urlSlashesRow.holds Tryz.pinned (OpenSpec.ofChange urlSlashesWrong)

/-- 'gossamerlaw12.UrlHashes': WHATEVER THE INPUT: true; the input reads as it did. -/
def urlHashesSpec : ChangeSpec := { name := "urlHashes", fn := fun _ => fun
  | [d1, d2] => { results := [.lit (.bool true)], args := [d1, d2] }
  | _ => none }
def urlHashesRow : OpenClaim := { program := "ytmfapopclbnlpaagreatdoor", sum := "1d81ea9cbf4b63b0125fd3fec6a58de23545204f2f3c190e3334fa21101aa629", func := "gossamer/gossamerlaw12.UrlHashes", spec := "urlHashes", inPlace := ["internal/bytealg.IndexByteString", "internal/bytealg.IndexString"], unfollowed := true, recurses := true, named := ["internal/bytealg.MaxLen", "internal/strconv.uint64pow10", "math/bits.deBruijn32tab", "math/bits.deBruijn64tab"], apart := false, laid := [("math/bits.deBruijn32tab", laid_math_bits_deBruijn32tab), ("math/bits.deBruijn64tab", laid_math_bits_deBruijn64tab), ("internal/strconv.uint64pow10", laid_internal_strconv_uint64pow10)] }
def UrlHashesSaid : Prop := urlHashesRow.holds Tryz.pinned (OpenSpec.ofChange urlHashesSpec)

/-- ITS FALSE NEIGHBOUR: 'it returns false'. Refute it at one input. -/
def urlHashesWrong : ChangeSpec := { name := "urlHashes", fn := fun _ => fun
  | [d1, d2] => { results := [.lit (.bool false)], args := [d1, d2] }
  | _ => none }
def UrlHashesWrongFalsely : Prop := urlHashesRow.holds Tryz.pinned (OpenSpec.ofChange urlHashesWrong)

/- THE SECOND FORM. 'bulk': how many values and letters a reading holds, each counted each time it is reached (what is shared counts as often as it is met; a slice's spare places count too). A statement '..UptoSaid' is the law's where the arguments, and the package variables that the reading takes, are together of bulk at most 1048576: NARROWER than '..Said'. Prove '..Said' where nothing that the law and all that it calls make is longer than what came in: it says more and counts as full. Else prove '..UptoSaid'. A law counts once. -/
mutual
def uptoBulk {H : Type} : DataW H → Nat
  | .lit (.string bytes) => bytes.length + 1
  | .lit _ => 1
  | .nil => 1
  | .ptr d => uptoBulk d + 1
  | .slice elems spare => uptoBulkAll elems + uptoBulkAll spare + 1
  | .agg parts => uptoBulkAll parts + 1
  | .iface _ d => uptoBulk d + 1
  | .map entries => uptoBulkEntries entries + 1
  | .held _ => 1
def uptoBulkAll {H : Type} : List (DataW H) → Nat
  | [] => 0
  | d :: r => uptoBulk d + uptoBulkAll r
def uptoBulkEntries {H : Type} : List (Lit × DataW H) → Nat
  | [] => 0
  | x :: r => uptoBulkEntry x + uptoBulkEntries r
def uptoBulkEntry {H : Type} : Lit × DataW H → Nat
  | (.string bytes, d) => bytes.length + uptoBulk d + 1
  | (_, d) => uptoBulk d + 1
 end
def uptoSmall : (H : Type) → List (DataW H) → Bool := fun _ ds => decide (uptoBulkAll ds ≤ 1048576)
def OpenSpec.upto (s : _root_.Go.ChangeSpec) : _root_.Go.OpenSpec := { _root_.Go.OpenSpec.ofChange s with cond := some uptoSmall }

/-- 'gossamerlaw12.UrlTells', WHERE WHAT IT READS IS OF BULK AT MOST 1048576: true; the input reads as it did. -/
def urlTellsUptoRow : OpenClaim := { program := "ytmfapopclbnlpaagreatdoor", sum := "1d81ea9cbf4b63b0125fd3fec6a58de23545204f2f3c190e3334fa21101aa629", func := "gossamer/gossamerlaw12.UrlTells", spec := "urlTells", inPlace := ["internal/bytealg.IndexByteString", "internal/bytealg.IndexString"], unfollowed := true, recurses := true, named := ["internal/bytealg.MaxLen", "internal/strconv.uint64pow10", "math/bits.deBruijn32tab", "math/bits.deBruijn64tab"], apart := false, laid := [("math/bits.deBruijn32tab", laid_math_bits_deBruijn32tab), ("math/bits.deBruijn64tab", laid_math_bits_deBruijn64tab), ("internal/strconv.uint64pow10", laid_internal_strconv_uint64pow10)], narrowed := true }
def UrlTellsUptoSaid : Prop := urlTellsUptoRow.holds Tryz.pinned (OpenSpec.upto urlTellsSpec)

/-- 'gossamerlaw12.UrlTurned', WHERE WHAT IT READS IS OF BULK AT MOST 1048576: true; the input reads as it did. -/
def urlTurnedUptoRow : OpenClaim := { program := "ytmfapopclbnlpaagreatdoor", sum := "1d81ea9cbf4b63b0125fd3fec6a58de23545204f2f3c190e3334fa21101aa629", func := "gossamer/gossamerlaw12.UrlTurned", spec := "urlTurned", inPlace := ["internal/bytealg.IndexByteString", "internal/bytealg.IndexString"], unfollowed := true, recurses := true, named := ["internal/bytealg.MaxLen", "internal/strconv.uint64pow10", "math/bits.deBruijn32tab", "math/bits.deBruijn64tab"], apart := false, laid := [("math/bits.deBruijn32tab", laid_math_bits_deBruijn32tab), ("math/bits.deBruijn64tab", laid_math_bits_deBruijn64tab), ("internal/strconv.uint64pow10", laid_internal_strconv_uint64pow10)], narrowed := true }
def UrlTurnedUptoSaid : Prop := urlTurnedUptoRow.holds Tryz.pinned (OpenSpec.upto urlTurnedSpec)

/-- 'gossamerlaw12.UrlTrims', WHERE WHAT IT READS IS OF BULK AT MOST 1048576: true; the input reads as it did. -/
def urlTrimsUptoRow : OpenClaim := { program := "ytmfapopclbnlpaagreatdoor", sum := "1d81ea9cbf4b63b0125fd3fec6a58de23545204f2f3c190e3334fa21101aa629", func := "gossamer/gossamerlaw12.UrlTrims", spec := "urlTrims", inPlace := ["internal/bytealg.IndexByteString", "internal/bytealg.IndexString"], unfollowed := true, recurses := true, named := ["internal/bytealg.MaxLen", "internal/strconv.uint64pow10", "math/bits.deBruijn32tab", "math/bits.deBruijn64tab"], apart := false, laid := [("math/bits.deBruijn32tab", laid_math_bits_deBruijn32tab), ("math/bits.deBruijn64tab", laid_math_bits_deBruijn64tab), ("internal/strconv.uint64pow10", laid_internal_strconv_uint64pow10)], narrowed := true }
def UrlTrimsUptoSaid : Prop := urlTrimsUptoRow.holds Tryz.pinned (OpenSpec.upto urlTrimsSpec)

/-- 'gossamerlaw12.UrlDots', WHERE WHAT IT READS IS OF BULK AT MOST 1048576: true; the input reads as it did. -/
def urlDotsUptoRow : OpenClaim := { program := "ytmfapopclbnlpaagreatdoor", sum := "1d81ea9cbf4b63b0125fd3fec6a58de23545204f2f3c190e3334fa21101aa629", func := "gossamer/gossamerlaw12.UrlDots", spec := "urlDots", inPlace := ["internal/bytealg.IndexByteString", "internal/bytealg.IndexString"], unfollowed := true, recurses := true, named := ["internal/bytealg.MaxLen", "internal/strconv.uint64pow10", "math/bits.deBruijn32tab", "math/bits.deBruijn64tab"], apart := false, laid := [("math/bits.deBruijn32tab", laid_math_bits_deBruijn32tab), ("math/bits.deBruijn64tab", laid_math_bits_deBruijn64tab), ("internal/strconv.uint64pow10", laid_internal_strconv_uint64pow10)], narrowed := true }
def UrlDotsUptoSaid : Prop := urlDotsUptoRow.holds Tryz.pinned (OpenSpec.upto urlDotsSpec)

/-- 'gossamerlaw12.UrlPorts', WHERE WHAT IT READS IS OF BULK AT MOST 1048576: true; the input reads as it did. -/
def urlPortsUptoRow : OpenClaim := { program := "ytmfapopclbnlpaagreatdoor", sum := "1d81ea9cbf4b63b0125fd3fec6a58de23545204f2f3c190e3334fa21101aa629", func := "gossamer/gossamerlaw12.UrlPorts", spec := "urlPorts", inPlace := ["internal/bytealg.IndexByteString", "internal/bytealg.IndexString"], unfollowed := true, recurses := true, named := ["internal/bytealg.MaxLen", "internal/strconv.uint64pow10", "math/bits.deBruijn32tab", "math/bits.deBruijn64tab"], apart := false, laid := [("math/bits.deBruijn32tab", laid_math_bits_deBruijn32tab), ("math/bits.deBruijn64tab", laid_math_bits_deBruijn64tab), ("internal/strconv.uint64pow10", laid_internal_strconv_uint64pow10)], narrowed := true }
def UrlPortsUptoSaid : Prop := urlPortsUptoRow.holds Tryz.pinned (OpenSpec.upto urlPortsSpec)

/-- 'gossamerlaw12.UrlUsers', WHERE WHAT IT READS IS OF BULK AT MOST 1048576: true; the input reads as it did. -/
def urlUsersUptoRow : OpenClaim := { program := "ytmfapopclbnlpaagreatdoor", sum := "1d81ea9cbf4b63b0125fd3fec6a58de23545204f2f3c190e3334fa21101aa629", func := "gossamer/gossamerlaw12.UrlUsers", spec := "urlUsers", inPlace := ["internal/bytealg.IndexByteString", "internal/bytealg.IndexString"], unfollowed := true, recurses := true, named := ["internal/bytealg.MaxLen", "internal/strconv.uint64pow10", "math/bits.deBruijn32tab", "math/bits.deBruijn64tab"], apart := false, laid := [("math/bits.deBruijn32tab", laid_math_bits_deBruijn32tab), ("math/bits.deBruijn64tab", laid_math_bits_deBruijn64tab), ("internal/strconv.uint64pow10", laid_internal_strconv_uint64pow10)], narrowed := true }
def UrlUsersUptoSaid : Prop := urlUsersUptoRow.holds Tryz.pinned (OpenSpec.upto urlUsersSpec)

/-- 'gossamerlaw12.UrlKeeps', WHERE WHAT IT READS IS OF BULK AT MOST 1048576: true; the input reads as it did. -/
def urlKeepsUptoRow : OpenClaim := { program := "ytmfapopclbnlpaagreatdoor", sum := "1d81ea9cbf4b63b0125fd3fec6a58de23545204f2f3c190e3334fa21101aa629", func := "gossamer/gossamerlaw12.UrlKeeps", spec := "urlKeeps", inPlace := ["internal/bytealg.IndexByteString", "internal/bytealg.IndexString"], unfollowed := true, recurses := true, named := ["internal/bytealg.MaxLen", "internal/strconv.uint64pow10", "math/bits.deBruijn32tab", "math/bits.deBruijn64tab"], apart := false, laid := [("math/bits.deBruijn32tab", laid_math_bits_deBruijn32tab), ("math/bits.deBruijn64tab", laid_math_bits_deBruijn64tab), ("internal/strconv.uint64pow10", laid_internal_strconv_uint64pow10)], narrowed := true }
def UrlKeepsUptoSaid : Prop := urlKeepsUptoRow.holds Tryz.pinned (OpenSpec.upto urlKeepsSpec)

/-- 'gossamerlaw12.UrlHosts', WHERE WHAT IT READS IS OF BULK AT MOST 1048576: true; the input reads as it did. -/
def urlHostsUptoRow : OpenClaim := { program := "ytmfapopclbnlpaagreatdoor", sum := "1d81ea9cbf4b63b0125fd3fec6a58de23545204f2f3c190e3334fa21101aa629", func := "gossamer/gossamerlaw12.UrlHosts", spec := "urlHosts", inPlace := ["internal/bytealg.IndexByteString", "internal/bytealg.IndexString"], unfollowed := true, recurses := true, named := ["internal/bytealg.MaxLen", "internal/strconv.uint64pow10", "math/bits.deBruijn32tab", "math/bits.deBruijn64tab"], apart := false, laid := [("math/bits.deBruijn32tab", laid_math_bits_deBruijn32tab), ("math/bits.deBruijn64tab", laid_math_bits_deBruijn64tab), ("internal/strconv.uint64pow10", laid_internal_strconv_uint64pow10)], narrowed := true }
def UrlHostsUptoSaid : Prop := urlHostsUptoRow.holds Tryz.pinned (OpenSpec.upto urlHostsSpec)

/-- 'gossamerlaw12.UrlSlashes', WHERE WHAT IT READS IS OF BULK AT MOST 1048576: true; the input reads as it did. -/
def urlSlashesUptoRow : OpenClaim := { program := "ytmfapopclbnlpaagreatdoor", sum := "1d81ea9cbf4b63b0125fd3fec6a58de23545204f2f3c190e3334fa21101aa629", func := "gossamer/gossamerlaw12.UrlSlashes", spec := "urlSlashes", inPlace := ["internal/bytealg.IndexByteString", "internal/bytealg.IndexString"], unfollowed := true, recurses := true, named := ["internal/bytealg.MaxLen", "internal/strconv.uint64pow10", "math/bits.deBruijn32tab", "math/bits.deBruijn64tab"], apart := false, laid := [("math/bits.deBruijn32tab", laid_math_bits_deBruijn32tab), ("math/bits.deBruijn64tab", laid_math_bits_deBruijn64tab), ("internal/strconv.uint64pow10", laid_internal_strconv_uint64pow10)], narrowed := true }
def UrlSlashesUptoSaid : Prop := urlSlashesUptoRow.holds Tryz.pinned (OpenSpec.upto urlSlashesSpec)

/-- 'gossamerlaw12.UrlHashes', WHERE WHAT IT READS IS OF BULK AT MOST 1048576: true; the input reads as it did. -/
def urlHashesUptoRow : OpenClaim := { program := "ytmfapopclbnlpaagreatdoor", sum := "1d81ea9cbf4b63b0125fd3fec6a58de23545204f2f3c190e3334fa21101aa629", func := "gossamer/gossamerlaw12.UrlHashes", spec := "urlHashes", inPlace := ["internal/bytealg.IndexByteString", "internal/bytealg.IndexString"], unfollowed := true, recurses := true, named := ["internal/bytealg.MaxLen", "internal/strconv.uint64pow10", "math/bits.deBruijn32tab", "math/bits.deBruijn64tab"], apart := false, laid := [("math/bits.deBruijn32tab", laid_math_bits_deBruijn32tab), ("math/bits.deBruijn64tab", laid_math_bits_deBruijn64tab), ("internal/strconv.uint64pow10", laid_internal_strconv_uint64pow10)], narrowed := true }
def UrlHashesUptoSaid : Prop := urlHashesUptoRow.holds Tryz.pinned (OpenSpec.upto urlHashesSpec)

end Rows
end Go.Proofs.YtmfapopclbnlpaaGreatDoor
