import Derived.Test.YtaphadmcjimmeaaGreatDoorHs18
import Derived.Test.YtaphadmcjimmeaaGreatDoorHs21
import Derived.Test.YtaphadmcjimmeaaGreatDoorHs22
import Derived.Test.YtaphadmcjimmeaaGreatDoorHs24
set_option linter.unusedVariables false
namespace Go.Proofs.YtaphadmcjimmeaaGreatDoor
open Go Go.Proofs Go.RowKit Go.Vc
def pencS (l : Bs) : Bs := pencL 0 l
theorem ok_penc (l : Bs) : FuncOk Tryz.prog noT 19 [.str l, .int .i64 0] ⟨l.length ≤ 300000, .str (pencS l)⟩ :=
  FuncOk.of_calls Tryz.func19 (by kernel_rfl) rfl fun h F w vs _ _ hw hx => by
    obtain ⟨_, _, rfl, r1, _, _, rfl, r2, rfl⟩ := hx
    obtain rfl := r1
    obtain rfl := r2
    exact ⟨_, pencode_any l 0 w h (by decide) (by decide), fun G w => rfl⟩
def rencS (l : Bs) : Bs := rencF 0 (decL l)
theorem ok_renc (l : Bs) : FuncOk Tryz.prog noT 27 [.str l, .int .i64 0] ⟨l.length ≤ 300000, .str (rencS l)⟩ :=
  FuncOk.of_calls Tryz.func27 (by kernel_rfl) rfl fun h F w vs _ _ hw hx => by
    obtain ⟨_, _, rfl, r1, _, _, rfl, r2, rfl⟩ := hx
    obtain rfl := r1
    obtain rfl := r2
    exact ⟨_, rencodeS_any l 0 w h (by decide) (by decide), fun G w => rfl⟩
def rend4 (l : Bs) : Bool := endsB (lastP l)
theorem ok_rends (l : Bs) : FuncOk Tryz.prog noT 31 [.str l] ⟨l.length ≤ 1000000, .bool (rend4 l)⟩ :=
  FuncOk.of_calls Tryz.func31 (by kernel_rfl) rfl fun h F w vs _ _ hw hx => by
    obtain ⟨_, _, rfl, r1, rfl⟩ := hx
    obtain rfl := r1
    exact ⟨_, rEnds_any l w h, fun G w => rfl⟩
theorem ok_rfour (l : Bs) : FuncOk Tryz.prog noT 32 [.str l] ⟨l.length ≤ 1000000, .tup [.int .u32 (dotV l), .bool (fourO l)]⟩ :=
  FuncOk.of_calls Tryz.func32 (by kernel_rfl) rfl fun h F w vs _ _ hw hx => by
    obtain ⟨_, _, rfl, r1, rfl⟩ := hx
    obtain rfl := r1
    exact ⟨_, rParse_any l w h, fun G w => ⟨_, ⟨_, _, rfl, rfl, _, _, rfl, rfl, rfl⟩, rfl⟩⟩
theorem rend_is (l : Bs) : rend4 l = end4 l := by
  unfold rend4 end4 lastP
  rw [splitB_lastK]
def ent_penc : List PV → Option CallR := fun xs => match xs with | [.str l, .int .i64 0] => some ⟨l.length ≤ 300000, .str (pencS l)⟩ | _ => none
theorem ent_penc_ok : ∀ xs c, ent_penc xs = some c → FuncOk Tryz.prog noT 19 xs c := fun xs c h => by
  unfold ent_penc at h
  split at h
  · injection h with h; subst h; exact ok_penc _
  · cases h
def ent_renc : List PV → Option CallR := fun xs => match xs with | [.str l, .int .i64 0] => some ⟨l.length ≤ 300000, .str (rencS l)⟩ | _ => none
theorem ent_renc_ok : ∀ xs c, ent_renc xs = some c → FuncOk Tryz.prog noT 27 xs c := fun xs c h => by
  unfold ent_renc at h
  split at h
  · injection h with h; subst h; exact ok_renc _
  · cases h
def ent_rends : List PV → Option CallR := fun xs => match xs with | [.str l] => some ⟨l.length ≤ 1000000, .bool (rend4 l)⟩ | _ => none
theorem ent_rends_ok : ∀ xs c, ent_rends xs = some c → FuncOk Tryz.prog noT 31 xs c := fun xs c h => by
  unfold ent_rends at h
  split at h
  · injection h with h; subst h; exact ok_rends _
  · cases h
def ent_rfour : List PV → Option CallR := fun xs => match xs with | [.str l] => some ⟨l.length ≤ 1000000, .tup [.int .u32 (dotV l), .bool (fourO l)]⟩ | _ => none
theorem ent_rfour_ok : ∀ xs c, ent_rfour xs = some c → FuncOk Tryz.prog noT 32 xs c := fun xs c h => by
  unfold ent_rfour at h
  split at h
  · injection h with h; subst h; exact ok_rfour _
  · cases h
end Go.Proofs.YtaphadmcjimmeaaGreatDoor
