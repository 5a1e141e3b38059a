import Derived.Test.YtaphadmcjimmeaaDoorHb18
import Derived.Test.YtaphadmcjimmeaaDoorHb21
set_option linter.unusedVariables false
namespace Go.Proofs.YtaphadmcjimmeaaDoor
open Go Go.Proofs Go.RowKit Go.Vc
def pencS (l : Bs) : Bs := pencL 0 l
theorem ok_penc (l : Bs) : FuncOk Tryd.prog noT 12 [.str l, .int .i64 0] ⟨l.length ≤ 300000, .str (pencS l)⟩ :=
  FuncOk.of_calls Tryd.func12 (by kernel_rfl) rfl fun h F w vs _ _ hw hx => by
    obtain ⟨_, _, rfl, r1, _, _, rfl, r2, rfl⟩ := hx
    obtain rfl := r1
    obtain rfl := r2
    exact ⟨_, pencode_any l 0 w h (by decide) (by decide), fun G w => rfl⟩
def ent_penc : List PV → Option CallR := fun xs => match xs with | [.str l, .int .i64 0] => some ⟨l.length ≤ 300000, .str (pencS l)⟩ | _ => none
theorem ent_penc_ok : ∀ xs c, ent_penc xs = some c → FuncOk Tryd.prog noT 12 xs c := fun xs c h => by
  unfold ent_penc at h
  split at h
  · injection h with h; subst h; exact ok_penc _
  · cases h
end Go.Proofs.YtaphadmcjimmeaaDoor
