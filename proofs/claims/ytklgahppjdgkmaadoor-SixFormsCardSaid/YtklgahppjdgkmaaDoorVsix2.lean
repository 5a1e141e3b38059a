/- ip6: pieces as the laws tell them; Low. -/
import Derived.Test.YtklgahppjdgkmaaDoorVsix0
import Derived.Test.YtklgahppjdgkmaaDoorVlhex
import Derived.Test.YtklgahppjdgkmaaDoorSixR
import Derived.Test.YtklgahppjdgkmaaDoorLow
set_option linter.unusedVariables false
set_option linter.unusedSimpArgs false
set_option linter.unusedSectionVars false
namespace Go.Proofs.YtklgahppjdgkmaaDoor
open Go Go.Proofs Go.RowKit Go.Vc
theorem ok_low (z m : Int) : FuncOk Tryd.prog noT 12 [.int .i64 z, .int .i64 m] ⟨-9223372036854775808 ≤ z ∧ z ≤ 9223372036854775807 ∧ 1 ≤ m ∧ m ≤ 4611686018427387904, .int .i64 (lowN z m)⟩ :=
  FuncOk.of_calls Tryd.func12 (by kernel_rfl) rfl fun ⟨h0, h1, h2, h3⟩ F w vs _ _ hw hx => by
    obtain ⟨_, _, rfl, r1, _, _, rfl, r2, rfl⟩ := hx
    obtain rfl := r1
    obtain rfl := r2
    exact ⟨_, (low_any z m w h0 h1 h2 h3).mono fun e w' ⟨he, hw'⟩ => ⟨he, hw' ▸ Below.refl _ _⟩, fun G w => rfl⟩
def ent_low : List PV → Option CallR := fun xs => match xs with | [.int .i64 z, .int .i64 m] => some ⟨-9223372036854775808 ≤ z ∧ z ≤ 9223372036854775807 ∧ 1 ≤ m ∧ m ≤ 4611686018427387904, .int .i64 (lowN z m)⟩ | _ => none
theorem ent_low_ok : ∀ xs c, ent_low xs = some c → FuncOk Tryd.prog noT 12 xs c := fun xs c h => by
  unfold ent_low at h
  split at h
  · injection h with h; subst h; exact ok_low _ _
  · cases h
theorem dig_hex : ∀ k : Fin 16, hexN ((zByte (byteZ dgB (k.val : Int))).toNat : Int) = (k.val : Int) := by decide +kernel
theorem dig_at {k : Int} (h0 : 0 ≤ k) (h1 : k < 16) : hexN ((zByte (byteZ dgB k)).toNat : Int) = k := by
  have := dig_hex ⟨k.toNat, by omega⟩
  rw [show ((⟨k.toNat, by omega⟩ : Fin 16).val : Int) = k by show (k.toNat : Int) = k; omega] at this
  exact this
section
variable {n : Int} (h0 : 0 ≤ n) (h1 : n ≤ 65535)
include h0 h1
theorem stepH_hex {b : Bool} {j : Int} {s : Bs} (hj : j = 12 ∨ j = 8 ∨ j = 4 ∨ j = 0) (hs : HexB s) : HexB (stepH n b j s) := by
  unfold stepH
  split
  · exact hs
  · intro c hc
    rw [List.mem_append, List.mem_singleton] at hc
    rcases hc with hc | rfl
    · exact hs c hc
    · obtain ⟨q0, q1⟩ := nib_bd n j hj h0 h1
      rw [dig_at q0 q1]; exact q0
theorem stepH_val {b : Bool} {j : Int} {s : Bs} (hj : j = 12 ∨ j = 8 ∨ j = 4 ∨ j = 0) : hexW (stepH n b j s) = hexW s * 16 + nibZ n j := by
  unfold stepH
  split
  · rename_i h
    rw [h.2.1, h.2.2.2]; rfl
  · obtain ⟨q0, q1⟩ := nib_bd n j hj h0 h1
    unfold hexW
    rw [List.foldl_append, List.foldl_cons, List.foldl_nil, dig_at q0 q1]
theorem hexS_eq (b : Bool) : hexS n b = stepH n b 0 (stepH n b 4 (stepH n b 8 (stepH n b 12 []))) := rfl
theorem hexS_val (b : Bool) : hexW (hexS n b) = n := by
  rw [hexS_eq h0 h1, stepH_val h0 h1 (by omega), stepH_val h0 h1 (by omega), stepH_val h0 h1 (by omega), stepH_val h0 h1 (by omega)]
  have a := nib_at n 12 (by decide) h0 h1
  have b := nib_at n 8 (by decide) h0 h1
  have c := nib_at n 4 (by decide) h0 h1
  have d := nib_at n 0 (by decide) h0 h1
  rw [show ((12 : Nat) : Int) = 12 from rfl] at a
  rw [show ((8 : Nat) : Int) = 8 from rfl] at b
  rw [show ((4 : Nat) : Int) = 4 from rfl] at c
  rw [show ((0 : Nat) : Int) = 0 from rfl] at d
  have e : hexW ([] : Bs) = 0 := rfl
  rw [a, b, c, d, e]
  obtain ⟨m, rfl⟩ := Int.eq_ofNat_of_zero_le h0
  rw [Int.toNat_natCast]
  simp only [Nat.reducePow]
  omega
theorem hexS_piece (b : Bool) : Piece (hexS n b) := by
  refine ⟨?_, ?_, preH_len n b (-4)⟩
  · rw [hexS_eq h0 h1]
    exact stepH_hex h0 h1 (by omega) (stepH_hex h0 h1 (by omega) (stepH_hex h0 h1 (by omega) (stepH_hex h0 h1 (by omega) (fun c hc => by cases hc))))
  · rw [hexS_eq h0 h1]
    obtain ⟨s, hs⟩ : ∃ s, stepH n b 4 (stepH n b 8 (stepH n b 12 [])) = s := ⟨_, rfl⟩
    rw [hs]
    unfold stepH
    rw [if_neg (fun h => absurd h.2.2.1 (by decide))]
    simp
end
theorem colons_len : ∀ (ps : List Bs), (∀ p ∈ ps, Piece p) → (colons ps).length ≤ 5 * ps.length
  | [], _ => by simp [colons]
  | p :: ps, h => by
    have h1 := (h p (List.mem_cons_self ..)).hi
    have h2 := colons_len ps (fun q hq => h q (List.mem_cons_of_mem _ hq))
    rw [colons_cons, List.length_append, List.length_append, List.length_singleton, List.length_cons]
    omega
theorem colons_snoc (ps : List Bs) (p : Bs) : colons (ps ++ [p]) = colons ps ++ (p ++ [58]) := by
  unfold colons; rw [List.flatMap_append]; simp
/-- The texts of pieces. -/
def hexA (p : List Int) : List Bs := p.map fun n => hexS n true
theorem hexA_piece {p : List Int} (h : ∀ x ∈ p, 0 ≤ x ∧ x ≤ 65535) : ∀ q ∈ hexA p, Piece q := fun q hq => by
  obtain ⟨n, hn, rfl⟩ := List.mem_map.1 hq
  exact hexS_piece (h n hn).1 (h n hn).2 true
theorem hexA_take {p : List Int} (k : Nat) (hk : k < p.length) : hexA (p.take (k + 1)) = hexA (p.take k) ++ [hexS (intZ p (k : Int)) true] := by
  unfold hexA intZ
  rw [List.take_add_one, List.getElem?_eq_getElem hk, List.map_append, Int.toNat_natCast, List.getD_eq_getElem?_getD, List.getElem?_eq_getElem hk]
  rfl
end Go.Proofs.YtklgahppjdgkmaaDoor
