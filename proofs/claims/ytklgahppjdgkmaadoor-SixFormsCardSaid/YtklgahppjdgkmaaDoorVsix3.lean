/- ip6: what SixForms tells. -/
import Derived.Test.YtklgahppjdgkmaaDoorVsix2
import Derived.Test.YtklgahppjdgkmaaDoorSixG
set_option linter.unusedVariables false
set_option linter.unusedSimpArgs false
namespace Go.Proofs.YtklgahppjdgkmaaDoor
open Go Go.Proofs Go.RowKit Go.Vc
theorem ok_rshow (z : Int) : FuncOk Tryd.prog noT 13 [.int .u32 z] ⟨0 ≤ z ∧ z < 4294967296, .str (showL z.toNat)⟩ :=
  FuncOk.of_calls Tryd.func13 (by kernel_rfl) rfl fun ⟨h0, h1⟩ F w vs _ _ hw hx => by
    obtain ⟨_, _, rfl, r1, rfl⟩ := hx
    obtain rfl := r1
    obtain ⟨n, rfl⟩ := Int.eq_ofNat_of_zero_le h0
    exact ⟨_, rShow_any n w (by omega), fun G w => by show Value.string _ = Value.string _; rw [Int.toNat_natCast]⟩
def ent_rshow : List PV → Option CallR := fun xs => match xs with | [.int .u32 z] => some ⟨0 ≤ z ∧ z < 4294967296, .str (showL z.toNat)⟩ | _ => none
theorem ent_rshow_ok : ∀ xs c, ent_rshow xs = some c → FuncOk Tryd.prog noT 13 xs c := fun xs c h => by
  unfold ent_rshow at h
  split at h
  · injection h with h; subst h; exact ok_rshow _
  · cases h
/-- Pieces, some of which are 0. -/
def zer8 (p : List Int) (a b : Int) : List Int := p.take a.toNat ++ List.replicate (b.toNat - a.toNat) 0 ++ p.drop b.toNat
/-- Pieces' texts, from one to another. -/
def hexL (q : List Int) (sh : List Bool) (a b : Int) : List Bs := (List.range' a.toNat (b.toNat - a.toNat)).map fun j => hexS (q.getD j 0) (sh.getD j false)
/-- The text ahead of a place. -/
def textAt (q : List Int) (sh : List Bool) (F M i : Int) : Bs := if M ≤ 0 ∨ i ≤ F then jn (hexL q sh 0 i) else jn (hexL q sh 0 F) ++ 58 :: 58 :: jn (hexL q sh (F + M) i)
end Go.Proofs.YtklgahppjdgkmaaDoor
