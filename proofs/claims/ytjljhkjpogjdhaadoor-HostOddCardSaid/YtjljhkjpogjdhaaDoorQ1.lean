/- What the proof needs, part 1. -/
import Derived.Test.YtjljhkjpogjdhaaDoorR3
import Derived.Test.YtjljhkjpogjdhaaDoorSixA
import Derived.Test.YtjljhkjpogjdhaaDoorSixC
import Derived.Test.YtjljhkjpogjdhaaDoorSixD
import Derived.Test.YtjljhkjpogjdhaaDoorIpCe
import Derived.Test.YtjljhkjpogjdhaaDoorShelf
import Derived.ProofKit
import Derived.Test.YtjljhkjpogjdhaaDoorLow
import Derived.Test.YtjljhkjpogjdhaaDoorProg
import Derived.Test.YtjljhkjpogjdhaaDoorPure
import Derived.Shelf.Strings.FuncGrows
import Derived.Lib.TrimAscii
import Derived.Test.YtjljhkjpogjdhaaDoorDigits
/- host: what its callees do, for the calculus by values; what is known of the world: tables, and that MaxLen is a number. -/
section
set_option linter.unusedVariables false
namespace Go.Proofs.YtjljhkjpogjdhaaDoor
open Go Go.Proofs Go.RowKit Go.Vc

def TabZ (w : World) (g : Nat) (k : IntKind) (zs : List Int) : Prop := ∃ t, w.heap[g]? = some (.cells (zs.map fun z => Value.int k z).toArray t (0, 0))
theorem TabZ.lt {w : World} {g : Nat} {k : IntKind} {zs : List Int} (h : TabZ w g k zs) : g < w.heap.size := by
  obtain ⟨t, h⟩ := h
  exact (Array.getElem?_eq_some_iff.1 h).1
theorem TabZ.same {w w' : World} {g : Nat} {k : IntKind} {zs : List Int} (h : TabZ w g k zs) (hb : w'.heap[g]? = w.heap[g]?) : TabZ w' g k zs := by
  obtain ⟨t, h⟩ := h
  exact ⟨t, by rw [hb]; exact h⟩
def NumZ (w : World) (g : Nat) : Prop := ∃ m, w.cell? ⟨g, 0, none⟩ = some (.int .i64 m)
theorem NumZ.lt {w : World} {g : Nat} (h : NumZ w g) : g < w.heap.size := by
  obtain ⟨m, h⟩ := h
  refine Classical.byContradiction fun hn => ?_
  unfold World.cell? at h
  rw [Array.getElem?_eq_none (show w.heap.size ≤ g by omega)] at h
  cases h
theorem NumZ.same {w w' : World} {g : Nat} (h : NumZ w g) (hb : w'.heap[g]? = w.heap[g]?) : NumZ w' g := by
  obtain ⟨m, h⟩ := h
  refine ⟨m, ?_⟩
  unfold World.cell? at h ⊢
  rw [hb]
  exact h
def TabH (w : World) : Prop := TabZ w 1 .u64 Lib.pow10Tab ∧ NumZ w 0
instance wdH : Wd := ⟨TabH, max 1 0 + 1, fun w h => by have := h.1.lt; have := h.2.lt; omega, fun w w' _ _ _ _ hb h => ⟨h.1.same (hb _ (by omega)), h.2.same (hb _ (by omega))⟩⟩
theorem TabH.tab {w : World} (h : TabH w) : Tab w := by
  obtain ⟨⟨t, h⟩, -⟩ := h
  unfold Tab Lib.TabIs World.var?
  rw [show Program.globalNamed Tryd.prog "internal/strconv.uint64pow10" = some 1 by kernel_rfl]
  simp only [Option.bind_some, h]
theorem ok_behind (l : Bs) (i : Int) : FuncOk Tryd.prog noT 37 [.str l, .int .i64 i] ⟨0 ≤ i ∧ i ≤ l.length ∧ l.length ≤ 1000000, .int .i64 (i + (hexLen (l.drop i.toNat) : Int))⟩ :=
  FuncOk.of_calls Tryd.func37 (by kernel_rfl) rfl fun ⟨h0, h1, h2⟩ F w vs _ _ hw hx => by
    obtain ⟨_, _, rfl, r1, _, _, rfl, r2, rfl⟩ := hx
    obtain rfl := r1
    obtain rfl := r2
    obtain ⟨n, rfl⟩ := Int.eq_ofNat_of_zero_le h0
    refine ⟨_, (behind_any l n w h2 (by omega)).mono fun e w' ⟨he, hw'⟩ => ⟨he, hw' ▸ Below.refl _ _⟩, fun G w => ?_⟩
    show Value.int _ _ = Value.int _ _
    rw [Int.toNat_natCast]; push_cast; rfl
theorem ok_number (l : Bs) : FuncOk Tryd.prog noT 38 [.str l] ⟨l.length ≤ 4 ∧ ∀ i, i < l.length → 0 ≤ hexN (byt l i), .int .u16 (hexW l)⟩ :=
  FuncOk.of_calls Tryd.func38 (by kernel_rfl) rfl fun ⟨h0, h1⟩ F w vs _ _ hw hx => by
    obtain ⟨_, _, rfl, r1, rfl⟩ := hx
    obtain rfl := r1
    exact ⟨_, (num16_any l w h0 h1).mono fun e w' ⟨he, hw'⟩ => ⟨he, hw' ▸ Below.refl _ _⟩, fun G w => rfl⟩
theorem ok_dotted (l : Bs) : FuncOk Tryd.prog noT 39 [.str l] ⟨l.length ≤ 1000000, .tup [.int .u32 (dotV l), .bool (dotO l)]⟩ :=
  FuncOk.of_calls Tryd.func39 (by kernel_rfl) rfl fun h F w vs _ _ hw hx => by
    obtain ⟨_, _, rfl, r1, rfl⟩ := hx
    obtain rfl := r1
    exact ⟨_, dotted_any l w h (TabH.tab hw), fun G w => ⟨_, ⟨_, _, rfl, rfl, _, _, rfl, rfl, rfl⟩, rfl⟩⟩
theorem ok_spread (p : List Int) (c g : Int) : FuncOk Tryd.prog noT 40 [.arr 8 (.ints .u16 p), .int .i64 c, .int .i64 g] ⟨p.length = 8 ∧ 0 ≤ g ∧ g ≤ c ∧ c ≤ 7, .arr 8 (.ints .u16 (spreadM p c.toNat g.toNat))⟩ :=
  FuncOk.of_calls Tryd.func40 (by kernel_rfl) rfl fun ⟨hp, h0, h1, h2⟩ F w vs _ _ hw hx => by
    obtain ⟨_, _, rfl, r1, _, _, rfl, r2, _, _, rfl, r3, rfl⟩ := hx
    obtain ⟨-, rfl⟩ := r1
    obtain rfl := r2
    obtain rfl := r3
    have := spread_any p c.toNat g.toNat w hp (by omega) (by omega)
    rw [Int.toNat_of_nonneg (by omega), Int.toNat_of_nonneg h0] at this
    exact ⟨_, this, fun G w => ⟨by show List.length (List.map _ _) = 8; rw [List.length_map]; unfold spreadM; simp; omega, rfl⟩⟩
def preB (l m : Bs) : Bool := Lib.hasPrefix l m
theorem ok_prefix (l m : Bs) : FuncOk Tryd.prog noT 13 [.str l, .str m] ⟨True, .bool (preB l m)⟩ :=
  FuncOk.of_calls Tryd.func13 (by kernel_rfl) rfl fun _ F w vs _ _ hw hx => by
    obtain ⟨_, _, rfl, r1, _, _, rfl, r2, rfl⟩ := hx
    obtain rfl := r1
    obtain rfl := r2
    exact ⟨_, (Tryd.strings_HasPrefix ⟨l.toArray⟩ ⟨m.toArray⟩ w).mono fun e w' ⟨he, hw'⟩ => ⟨he, hw' ▸ Below.refl _ _⟩, fun G w => rfl⟩
def conB (l m : Bs) : Bool := Lib.containsAny l m
theorem ok_con (l m : Bs) : FuncOk Tryd.prog noT 16 [.str l, .str m] ⟨l.length ≤ 1000000 ∧ m.length ≤ 1000000 ∧ (∀ b ∈ m, b.toNat < 128), .bool (conB l m)⟩ :=
  FuncOk.of_calls Tryd.func16 (by kernel_rfl) rfl fun ⟨h0, h1, h2⟩ F w vs _ _ hw hx => by
    obtain ⟨_, _, rfl, r1, _, _, rfl, r2, rfl⟩ := hx
    obtain rfl := r1
    obtain rfl := r2
    exact ⟨_, conAny Tryd.lays150 (by kernel_rfl) ⟨l.toArray⟩ ⟨m.toArray⟩ w (by show l.length < 4294967281; omega) (by show m.length < 4294967281; omega) (fun j b hj => h2 b (List.mem_of_getElem? hj)), fun G w => rfl⟩
def hasB (l m : Bs) : Bool := Lib.contains l m
theorem ok_has (l m : Bs) : FuncOk Tryd.prog noT 42 [.str l, .str m] ⟨l.length ≤ 1000000, .bool (hasB l m)⟩ :=
  FuncOk.of_calls Tryd.func42 (by kernel_rfl) rfl fun h0 F w vs _ _ hw hx => by
    obtain ⟨_, _, rfl, r1, _, _, rfl, r2, rfl⟩ := hx
    obtain rfl := r1
    obtain rfl := r2
    obtain ⟨k, hk⟩ := (show TabH w from hw).2
    exact ⟨_, (Tryd.strings_Contains ⟨l.toArray⟩ ⟨m.toArray⟩ k w (by show l.length < 4294967281; omega) hk).mono fun e w' ⟨he, hw'⟩ => ⟨he, hw' ▸ Below.refl _ _⟩, fun G w => rfl⟩
def end4 (l : Bs) : Bool := endsB ((trimL l).drop (lastK (trimL l)))
theorem ok_ends (l : Bs) : FuncOk Tryd.prog noT 28 [.str l] ⟨l.length ≤ 1000000, .bool (end4 l)⟩ :=
  FuncOk.of_calls Tryd.func28 (by kernel_rfl) rfl fun h F w vs _ _ hw hx => by
    obtain ⟨_, _, rfl, r1, rfl⟩ := hx
    obtain rfl := r1
    exact ⟨_, (Ends_any l w h).mono fun e w' ⟨he, hw'⟩ => ⟨he, hw' ▸ Below.refl _ _⟩, fun G w => rfl⟩
def fourO (l : Bs) : Bool := (parseL (splitB 46 (trimL l)) 4 0).2
theorem ok_pfour (l : Bs) : FuncOk Tryd.prog noT 29 [.str l] ⟨l.length ≤ 1000000, .tup [.int .u32 (dotV l), .bool (fourO l)]⟩ :=
  FuncOk.of_calls Tryd.func29 (by kernel_rfl) rfl fun h F w vs _ _ hw hx => by
    obtain ⟨_, _, rfl, r1, rfl⟩ := hx
    obtain rfl := r1
    exact ⟨_, Parse_any l w h, fun G w => ⟨_, ⟨_, _, rfl, rfl, _, _, rfl, rfl, rfl⟩, rfl⟩⟩
def runB (l : Bs) (r : Int) : Bool := decide (r < 128) && decide (0 ≤ Lib.indexByte l r.toNat.toUInt8)
theorem ok_crune (l : Bs) (r : Int) : FuncOk Tryd.prog noT 44 [.str l, .int .i32 r] ⟨0 ≤ r ∧ r ≤ 2147483647 ∧ (∀ b ∈ l, b.toNat < 128), .bool (runB l r)⟩ :=
  FuncOk.of_calls Tryd.func44 (by kernel_rfl) rfl fun ⟨h0, h1, h2⟩ F w vs _ _ hw hx => by
    obtain ⟨_, _, rfl, r1, _, _, rfl, r2, rfl⟩ := hx
    obtain rfl := r1
    obtain rfl := r2
    by_cases h : r < 128
    · refine ⟨_, (Tryd.strings_ContainsRune_ascii ⟨l.toArray⟩ r w h0 h).mono fun e w' ⟨he, hw'⟩ => ⟨he, hw' ▸ Below.refl _ _⟩, fun G w => ?_⟩
      show Value.bool _ = Value.bool _
      unfold runB
      rw [decide_eq_true h]; rfl
    · refine ⟨_, conRune_far Tryd.lays151 ⟨l.toArray⟩ r w (fun j b hj => h2 b (List.mem_of_getElem? hj)) (by omega) h1, fun G w => ?_⟩
      show Value.bool _ = Value.bool _
      unfold runB
      rw [decide_eq_false h]; rfl
def ent_behind : List PV → Option CallR := fun xs => match xs with | [.str l, .int .i64 i] => some ⟨0 ≤ i ∧ i ≤ l.length ∧ l.length ≤ 1000000, .int .i64 (i + (hexLen (l.drop i.toNat) : Int))⟩ | _ => none
theorem ent_behind_ok : ∀ xs c, ent_behind xs = some c → FuncOk Tryd.prog noT 37 xs c := fun xs c h => by
  unfold ent_behind at h
  split at h
  · injection h with h; subst h; exact ok_behind _ _
  · cases h
def ent_number : List PV → Option CallR := fun xs => match xs with | [.str l] => some ⟨l.length ≤ 4 ∧ ∀ i, i < l.length → 0 ≤ hexN (byt l i), .int .u16 (hexW l)⟩ | _ => none
theorem ent_number_ok : ∀ xs c, ent_number xs = some c → FuncOk Tryd.prog noT 38 xs c := fun xs c h => by
  unfold ent_number at h
  split at h
  · injection h with h; subst h; exact ok_number _
  · cases h
def ent_dotted : List PV → Option CallR := fun xs => match xs with | [.str l] => some ⟨l.length ≤ 1000000, .tup [.int .u32 (dotV l), .bool (dotO l)]⟩ | _ => none
theorem ent_dotted_ok : ∀ xs c, ent_dotted xs = some c → FuncOk Tryd.prog noT 39 xs c := fun xs c h => by
  unfold ent_dotted at h
  split at h
  · injection h with h; subst h; exact ok_dotted _
  · cases h
def ent_spread : List PV → Option CallR := fun xs => match xs with | [.arr 8 (.ints .u16 p), .int .i64 c, .int .i64 g] => some ⟨p.length = 8 ∧ 0 ≤ g ∧ g ≤ c ∧ c ≤ 7, .arr 8 (.ints .u16 (spreadM p c.toNat g.toNat))⟩ | _ => none
theorem ent_spread_ok : ∀ xs c, ent_spread xs = some c → FuncOk Tryd.prog noT 40 xs c := fun xs c h => by
  unfold ent_spread at h
  split at h
  · injection h with h; subst h; exact ok_spread _ _ _
  · cases h
def ent_prefix : List PV → Option CallR := fun xs => match xs with | [.str l, .str m] => some ⟨True, .bool (preB l m)⟩ | _ => none
theorem ent_prefix_ok : ∀ xs c, ent_prefix xs = some c → FuncOk Tryd.prog noT 13 xs c := fun xs c h => by
  unfold ent_prefix at h
  split at h
  · injection h with h; subst h; exact ok_prefix _ _
  · cases h
def ent_con : List PV → Option CallR := fun xs => match xs with | [.str l, .str m] => some ⟨l.length ≤ 1000000 ∧ m.length ≤ 1000000 ∧ (∀ b ∈ m, b.toNat < 128), .bool (conB l m)⟩ | _ => none
theorem ent_con_ok : ∀ xs c, ent_con xs = some c → FuncOk Tryd.prog noT 16 xs c := fun xs c h => by
  unfold ent_con at h
  split at h
  · injection h with h; subst h; exact ok_con _ _
  · cases h
def ent_has : List PV → Option CallR := fun xs => match xs with | [.str l, .str m] => some ⟨l.length ≤ 1000000, .bool (hasB l m)⟩ | _ => none
theorem ent_has_ok : ∀ xs c, ent_has xs = some c → FuncOk Tryd.prog noT 42 xs c := fun xs c h => by
  unfold ent_has at h
  split at h
  · injection h with h; subst h; exact ok_has _ _
  · cases h
def ent_ends : List PV → Option CallR := fun xs => match xs with | [.str l] => some ⟨l.length ≤ 1000000, .bool (end4 l)⟩ | _ => none
theorem ent_ends_ok : ∀ xs c, ent_ends xs = some c → FuncOk Tryd.prog noT 28 xs c := fun xs c h => by
  unfold ent_ends at h
  split at h
  · injection h with h; subst h; exact ok_ends _
  · cases h
def ent_pfour : List PV → Option CallR := fun xs => match xs with | [.str l] => some ⟨l.length ≤ 1000000, .tup [.int .u32 (dotV l), .bool (fourO l)]⟩ | _ => none
theorem ent_pfour_ok : ∀ xs c, ent_pfour xs = some c → FuncOk Tryd.prog noT 29 xs c := fun xs c h => by
  unfold ent_pfour at h
  split at h
  · injection h with h; subst h; exact ok_pfour _
  · cases h
def ent_crune : List PV → Option CallR := fun xs => match xs with | [.str l, .int .i32 r] => some ⟨0 ≤ r ∧ r ≤ 2147483647 ∧ (∀ b ∈ l, b.toNat < 128), .bool (runB l r)⟩ | _ => none
theorem ent_crune_ok : ∀ xs c, ent_crune xs = some c → FuncOk Tryd.prog noT 44 xs c := fun xs c h => by
  unfold ent_crune at h
  split at h
  · injection h with h; subst h; exact ok_crune _ _
  · cases h
end Go.Proofs.YtjljhkjpogjdhaaDoor
end
/- host: Low, strings.IndexByte, for the calculus by values. -/
section
set_option linter.unusedVariables false
namespace Go.Proofs.YtjljhkjpogjdhaaDoor
open Go Go.Proofs Go.RowKit Go.Vc
theorem ok_low (z m : Int) : FuncOk Tryd.prog noT 11 [.int .i64 z, .int .i64 m] ⟨-9223372036854775808 ≤ z ∧ z ≤ 9223372036854775807 ∧ 1 ≤ m ∧ m ≤ 4611686018427387904, .int .i64 (lowN z m)⟩ :=
  FuncOk.of_calls Tryd.func11 (by kernel_rfl) rfl fun ⟨h0, h1, h2, h3⟩ F w vs _ _ hw hx => by
    obtain ⟨_, _, rfl, r1, _, _, rfl, r2, rfl⟩ := hx
    obtain rfl := r1
    obtain rfl := r2
    exact ⟨_, (low_any z m w h0 h1 h2 h3).mono fun e w' ⟨he, hw'⟩ => ⟨he, hw' ▸ Below.refl _ _⟩, fun G w => rfl⟩
def ent_low : List PV → Option CallR := fun xs => match xs with | [.int .i64 z, .int .i64 m] => some ⟨-9223372036854775808 ≤ z ∧ z ≤ 9223372036854775807 ∧ 1 ≤ m ∧ m ≤ 4611686018427387904, .int .i64 (lowN z m)⟩ | _ => none
theorem ent_low_ok : ∀ xs c, ent_low xs = some c → FuncOk Tryd.prog noT 11 xs c := fun xs c h => by
  unfold ent_low at h
  split at h
  · injection h with h; subst h; exact ok_low _ _
  · cases h
def sibB (l : Bs) (c : Int) : Int := Lib.indexByte l c.toNat.toUInt8
theorem ok_sib (l : Bs) (c : Int) : FuncOk Tryd.prog noT 58 [.str l, .int .u8 c] ⟨True, .int .i64 (sibB l c)⟩ :=
  FuncOk.of_calls Tryd.func58 (by kernel_rfl) rfl fun _ F w vs _ _ hw hx => by
    obtain ⟨_, _, rfl, r1, _, _, rfl, r2, rfl⟩ := hx
    obtain rfl := r1
    obtain rfl := r2
    exact ⟨_, (Tryd.strings_IndexByte ⟨l.toArray⟩ c w).mono fun e w' ⟨he, hw'⟩ => ⟨he, hw' ▸ Below.refl _ _⟩, fun G w => rfl⟩
def ent_sib : List PV → Option CallR := fun xs => match xs with | [.str l, .int .u8 c] => some ⟨True, .int .i64 (sibB l c)⟩ | _ => none
theorem ent_sib_ok : ∀ xs c, ent_sib xs = some c → FuncOk Tryd.prog noT 58 xs c := fun xs c h => by
  unfold ent_sib at h
  split at h
  · injection h with h; subst h; exact ok_sib _ _
  · cases h
end Go.Proofs.YtjljhkjpogjdhaaDoor
end
/- ip6.Parse: what holds at each piece. -/
section
set_option linter.unusedVariables false
set_option linter.unusedSimpArgs false
set_option maxRecDepth 100000
namespace Go.Proofs.YtjljhkjpogjdhaaDoor
open Go Go.Proofs Go.RowKit Go.Vc

def body6 (k : PV → Prop) (J1 J2 : Prop) (l : Bs) (C G A : Int) (p : List Int) : Prop :=
  ((0 : Int) ≤ A ∧ A ≤ ↑(List.length l) ∧ List.length l ≤ (1000000 : Nat)) ∧ (decide (A + ↑(hexLen (List.drop A.toNat l)) < lenZ l) = true → within (A + ↑(hexLen (List.drop A.toNat l))) (lenZ l)) ∧ ((bif decide (A + ↑(hexLen (List.drop A.toNat l)) < lenZ l) then decide (byteZ l (A + ↑(hexLen (List.drop A.toNat l))) = (46 : Int)) else false) = true → upto A (lenZ l) (lenZ l) ∧ (dropZ l A).length.le (1000000 : Nat) ∧ ((bif !dotO (dropZ l A) then true else decide ((6 : Int) < C)) = true → k (PV.tup [PV.arr (8 : Nat) (BRow.ints IntKind.u16 (List.replicate (8 : Nat) (0 : Int))), PV.bool false])) ∧ ((bif !dotO (dropZ l A) then true else decide ((6 : Int) < C)) = false → inI64 (C + (1 : Int)) ∧ (0 : Int) ≤ (16 : Int) ∧ within C ↑(8 : Nat) ∧ (within C ↑(8 : Nat) ∧ True) ∧ within (C + (1 : Int)) ↑(8 : Nat) ∧ (within (C + (1 : Int)) ↑(8 : Nat) ∧ True) ∧ inI64 (C + (2 : Int)) ∧ ((bif decide (G < (0 : Int)) then decide (C + (2 : Int) = (8 : Int)) else false) = true → k (PV.tup [PV.arr (8 : Nat) (BRow.ints IntKind.u16 (setZ (setZ p C (IntKind.u16.wrap (shrZ IntKind.u32 (dotV (dropZ l A)) (16 : Int)))) (C + (1 : Int)) (IntKind.u16.wrap (dotV (dropZ l A))))), PV.bool true])) ∧ ((bif decide (G < (0 : Int)) then decide (C + (2 : Int) = (8 : Int)) else false) = false → ((bif decide ((0 : Int) ≤ G) then decide (C + (2 : Int) < (8 : Int)) else false) = true → ((setZ (setZ p C (IntKind.u16.wrap (shrZ IntKind.u32 (dotV (dropZ l A)) (16 : Int)))) (C + (1 : Int)) (IntKind.u16.wrap (dotV (dropZ l A)))).length = (8 : Nat) ∧ (0 : Int) ≤ G ∧ G ≤ C + (2 : Int) ∧ C + (2 : Int) ≤ (7 : Int)) ∧ k (PV.tup [PV.arr (8 : Nat) (BRow.ints IntKind.u16 (spreadM (setZ (setZ p C (IntKind.u16.wrap (shrZ IntKind.u32 (dotV (dropZ l A)) (16 : Int)))) (C + (1 : Int)) (IntKind.u16.wrap (dotV (dropZ l A)))) (C + (2 : Int)).toNat G.toNat)), PV.bool true])) ∧ ((bif decide ((0 : Int) ≤ G) then decide (C + (2 : Int) < (8 : Int)) else false) = false → k (PV.tup [PV.arr (8 : Nat) (BRow.ints IntKind.u16 (List.replicate (8 : Nat) (0 : Int))), PV.bool false]))))) ∧ ((bif decide (A + ↑(hexLen (List.drop A.toNat l)) < lenZ l) then decide (byteZ l (A + ↑(hexLen (List.drop A.toNat l))) = (46 : Int)) else false) = false → ((bif decide (C = (8 : Int)) then true else decide (A + ↑(hexLen (List.drop A.toNat l)) = A)) = false → inI64 (A + (4 : Int))) ∧ ((bif bif decide (C = (8 : Int)) then true else decide (A + ↑(hexLen (List.drop A.toNat l)) = A) then true else decide (A + (4 : Int) < A + ↑(hexLen (List.drop A.toNat l)))) = true → k (PV.tup [PV.arr (8 : Nat) (BRow.ints IntKind.u16 (List.replicate (8 : Nat) (0 : Int))), PV.bool false])) ∧ ((bif bif decide (C = (8 : Int)) then true else decide (A + ↑(hexLen (List.drop A.toNat l)) = A) then true else decide (A + (4 : Int) < A + ↑(hexLen (List.drop A.toNat l)))) = false → upto A (A + ↑(hexLen (List.drop A.toNat l))) (lenZ l) ∧ ((cutZ l A (A + ↑(hexLen (List.drop A.toNat l)))).length ≤ (4 : Nat) ∧ ∀ (i : Nat), i < (cutZ l A (A + ↑(hexLen (List.drop A.toNat l)))).length → (0 : Int) ≤ hexN (byt (cutZ l A (A + ↑(hexLen (List.drop A.toNat l)))) i)) ∧ within C ↑(8 : Nat) ∧ (within C ↑(8 : Nat) ∧ True) ∧ inI64 (C + (1 : Int)) ∧ (decide (A + ↑(hexLen (List.drop A.toNat l)) = lenZ l) = true → ((bif decide (G < (0 : Int)) then decide (C + (1 : Int) = (8 : Int)) else false) = true → k (PV.tup [PV.arr (8 : Nat) (BRow.ints IntKind.u16 (setZ p C (hexW (cutZ l A (A + ↑(hexLen (List.drop A.toNat l))))))), PV.bool true])) ∧ ((bif decide (G < (0 : Int)) then decide (C + (1 : Int) = (8 : Int)) else false) = false → ((bif decide ((0 : Int) ≤ G) then decide (C + (1 : Int) < (8 : Int)) else false) = true → ((setZ p C (hexW (cutZ l A (A + ↑(hexLen (List.drop A.toNat l)))))).length = (8 : Nat) ∧ (0 : Int) ≤ G ∧ G ≤ C + (1 : Int) ∧ C + (1 : Int) ≤ (7 : Int)) ∧ k (PV.tup [PV.arr (8 : Nat) (BRow.ints IntKind.u16 (spreadM (setZ p C (hexW (cutZ l A (A + ↑(hexLen (List.drop A.toNat l)))))) (C + (1 : Int)).toNat G.toNat)), PV.bool true])) ∧ ((bif decide ((0 : Int) ≤ G) then decide (C + (1 : Int) < (8 : Int)) else false) = false → k (PV.tup [PV.arr (8 : Nat) (BRow.ints IntKind.u16 (List.replicate (8 : Nat) (0 : Int))), PV.bool false])))) ∧ (decide (A + ↑(hexLen (List.drop A.toNat l)) = lenZ l) = false → within (A + ↑(hexLen (List.drop A.toNat l))) (lenZ l) ∧ ((!decide (byteZ l (A + ↑(hexLen (List.drop A.toNat l))) = (58 : Int))) = false → inI64 (A + ↑(hexLen (List.drop A.toNat l)) + (1 : Int))) ∧ ((bif !decide (byteZ l (A + ↑(hexLen (List.drop A.toNat l))) = (58 : Int)) then true else decide (A + ↑(hexLen (List.drop A.toNat l)) + (1 : Int) = lenZ l)) = true → k (PV.tup [PV.arr (8 : Nat) (BRow.ints IntKind.u16 (List.replicate (8 : Nat) (0 : Int))), PV.bool false])) ∧ ((bif !decide (byteZ l (A + ↑(hexLen (List.drop A.toNat l))) = (58 : Int)) then true else decide (A + ↑(hexLen (List.drop A.toNat l)) + (1 : Int) = lenZ l)) = false → inI64 (A + ↑(hexLen (List.drop A.toNat l)) + (1 : Int)) ∧ within (A + ↑(hexLen (List.drop A.toNat l)) + (1 : Int)) (lenZ l) ∧ ((!decide (byteZ l (A + ↑(hexLen (List.drop A.toNat l)) + (1 : Int)) = (58 : Int))) = true → J1) ∧ ((!decide (byteZ l (A + ↑(hexLen (List.drop A.toNat l)) + (1 : Int)) = (58 : Int))) = false → (decide ((0 : Int) ≤ G) = true → k (PV.tup [PV.arr (8 : Nat) (BRow.ints IntKind.u16 (List.replicate (8 : Nat) (0 : Int))), PV.bool false])) ∧ (decide ((0 : Int) ≤ G) = false → inI64 (A + ↑(hexLen (List.drop A.toNat l)) + (1 : Int) + (1 : Int)) ∧ (decide (A + ↑(hexLen (List.drop A.toNat l)) + (1 : Int) + (1 : Int) < lenZ l) = true → J2) ∧ (decide (A + ↑(hexLen (List.drop A.toNat l)) + (1 : Int) + (1 : Int) < lenZ l) = false → ((bif decide (C + (1 : Int) < (0 : Int)) then decide (C + (1 : Int) = (8 : Int)) else false) = true → k (PV.tup [PV.arr (8 : Nat) (BRow.ints IntKind.u16 (setZ p C (hexW (cutZ l A (A + ↑(hexLen (List.drop A.toNat l))))))), PV.bool true])) ∧ ((bif decide (C + (1 : Int) < (0 : Int)) then decide (C + (1 : Int) = (8 : Int)) else false) = false → ((bif decide ((0 : Int) ≤ C + (1 : Int)) then decide (C + (1 : Int) < (8 : Int)) else false) = true → ((setZ p C (hexW (cutZ l A (A + ↑(hexLen (List.drop A.toNat l)))))).length = (8 : Nat) ∧ (0 : Int) ≤ C + (1 : Int) ∧ C + (1 : Int) ≤ C + (1 : Int) ∧ C + (1 : Int) ≤ (7 : Int)) ∧ k (PV.tup [PV.arr (8 : Nat) (BRow.ints IntKind.u16 (spreadM (setZ p C (hexW (cutZ l A (A + ↑(hexLen (List.drop A.toNat l)))))) (C + (1 : Int)).toNat (C + (1 : Int)).toNat)), PV.bool true])) ∧ ((bif decide ((0 : Int) ≤ C + (1 : Int)) then decide (C + (1 : Int) < (8 : Int)) else false) = false → k (PV.tup [PV.arr (8 : Nat) (BRow.ints IntKind.u16 (List.replicate (8 : Nat) (0 : Int))), PV.bool false]))))))))))
theorem andB6 (a b : Bool) : (bif a then b else false) = (a && b) := by cases a <;> rfl
theorem orB6 (a b : Bool) : (bif a then true else b) = (a || b) := by cases a <;> rfl
theorem notB6 (a : Bool) : ((!a) = true) = ¬ (a = true) := by cases a <;> simp
theorem falB6 (a : Bool) : (a = false) = ¬ (a = true) := by cases a <;> simp
theorem pad_setZ (acc : List Int) (x : Int) (h : acc.length < 8) : setZ (pad acc) (acc.length : Int) x = pad (acc ++ [x]) := by
  unfold setZ pad
  rw [Int.toNat_natCast, List.set_append_right _ _ (by simp), Nat.sub_self, show 8 - acc.length = (8 - (acc ++ [x]).length) + 1 by simp; omega, List.replicate_succ, List.set_cons_zero, List.append_assoc]
  rfl
theorem byteZ_byt (l : Bs) (e : Nat) : byteZ l (e : Int) = byt l e := by unfold byteZ byt; rw [Int.toNat_natCast]
theorem pad_full (acc : List Int) (h : acc.length = 8) : pad acc = acc := by unfold pad; rw [h]; simp
theorem body6_ok (k : PV → Prop) (J1 J2 : Prop) (l : Bs) (G : Int) (i e : Nat) (acc : List Int) (R : List Int × Bool) (hl : l.length ≤ 1000000) (h8 : acc.length ≤ 8) (g1 : -1 ≤ G) (g2 : G ≤ acc.length) (hi : i ≤ l.length) (he : i + hexLen (l.drop i) = e)
    (hs : six1 l (9 - acc.length) acc G i = R) (hk : k (.tup [.arr 8 (.ints .u16 R.1), .bool R.2]))
    (H1 : ∀ a, a.length = acc.length + 1 → setZ (pad acc) (acc.length : Int) (hexW (cutZ l (i : Int) (e : Int))) = pad a → a.length ≤ 8 → e + 1 ≤ l.length → six1 l (9 - a.length) a G (e + 1) = R → J1)
    (H2 : ∀ a, a.length = acc.length + 1 → setZ (pad acc) (acc.length : Int) (hexW (cutZ l (i : Int) (e : Int))) = pad a → a.length ≤ 8 → e + 2 ≤ l.length → six1 l (9 - a.length) a (acc.length + 1 : Nat) (e + 2) = R → J2) :
    body6 k J1 J2 l acc.length G i (pad acc) := by
  unfold body6
  have hE : (i : Int) + ((hexLen (l.drop i) : Nat) : Int) = (e : Int) := by omega
  have hcut : cutZ l (i : Int) (e : Int) = (l.take e).drop i := by unfold cutZ; rw [Int.toNat_natCast, Int.toNat_natCast]
  have hdr : dropZ l (i : Int) = l.drop i := by unfold dropZ; rw [Int.toNat_natCast]
  have hel : e ≤ l.length := by have := hexLen_le (l.drop i); rw [List.length_drop] at this; omega
  have hb2 : byteZ l ((e : Int) + 1) = byt l (e + 1) := by rw [← byteZ_byt]; push_cast; rfl
  rw [six1_step l acc G i e h8 he] at hs
  have leaf : ∀ (L : List Int) (b : Bool), R = (L, b) → k (.tup [.arr 8 (.ints .u16 L), .bool b]) := fun L b h => by rw [h] at hk; exact hk
  have lw : R = wrong6 → k (.tup [.arr 8 (.ints .u16 (List.replicate 8 0)), .bool false]) := fun h => leaf _ _ h
  simp only [Int.toNat_natCast, hE, hcut, hdr, byteZ_byt, hb2, andB6, orB6, falB6, notB6, Bool.and_eq_true, Bool.or_eq_true, decide_eq_true_eq, lenZ, within, upto, inI64] at H1 H2 ⊢
  have fin : ∀ (a : List Int) (g C' : Int) (P : List Int), a.length ≤ 8 → C' = a.length → P = pad a → g ≤ C' → fin6 a g = R → ((g < 0 ∧ C' = 8 → k (.tup [.arr 8 (.ints .u16 P), .bool true])) ∧ (¬ (g < 0 ∧ C' = 8) → ((0 ≤ g ∧ C' < 8 → (P.length = 8 ∧ 0 ≤ g ∧ g ≤ C' ∧ C' ≤ 7) ∧ k (.tup [.arr 8 (.ints .u16 (spreadM P C'.toNat g.toNat)), .bool true])) ∧ (¬ (0 ≤ g ∧ C' < 8) → k (.tup [.arr 8 (.ints .u16 (List.replicate 8 0)), .bool false]))))) := by
    intro a g C' P ha hC hP hg hf
    subst hC hP
    unfold fin6 at hf
    refine ⟨fun h => ?_, fun h => ⟨fun h2 => ⟨⟨pad_len ha, h2.1, hg, by omega⟩, ?_⟩, fun h2 => lw ?_⟩⟩
    · rw [if_pos ⟨h.1, by omega⟩] at hf
      rw [pad_full a (by omega)]
      exact leaf _ _ hf.symm
    · rw [if_neg (by omega), if_pos ⟨h2.1, by omega⟩] at hf
      rw [Int.toNat_natCast]
      exact leaf _ _ hf.symm
    · rw [if_neg (by omega), if_neg (by omega)] at hf
      exact hf.symm
  refine ⟨⟨by omega, by omega, hl⟩, fun h => ⟨by omega, h⟩, fun h46 => ?_, fun h46 => ?_⟩
  · rw [if_pos ⟨by omega, h46.2⟩] at hs
    unfold bytes6 at hs
    refine ⟨⟨by omega, by omega, by omega⟩, ?_, fun hd => ?_, fun hd => ?_⟩
    · show (l.drop i).length ≤ 1000000
      rw [List.length_drop]; omega
    · rw [if_pos (by rcases hd with hd | hd; exact .inl (by simpa using hd); exact .inr (by omega))] at hs
      exact lw hs.symm
    · have hd1 : dotO (l.drop i) = true := Classical.byContradiction fun h => hd (.inl h)
      have hd2 : acc.length ≤ 6 := by omega
      rw [if_neg (by rw [hd1]; intro h; rcases h with h | h; cases h; omega)] at hs
      obtain ⟨v0, v1⟩ := dotV_bd (l.drop i)
      have e1 : IntKind.u16.wrap (shrZ IntKind.u32 (dotV (l.drop i)) 16) = dotV (l.drop i) / 65536 := by
        have : shrZ IntKind.u32 (dotV (l.drop i)) 16 = dotV (l.drop i) / 65536 := by
          unfold shrZ
          rw [show (2 : Int) ^ min (Int.toNat 16) IntKind.u32.bits = 65536 by decide, Int.fdiv_eq_ediv_of_nonneg _ (by decide)]
        rw [this]
        exact IntWalk.u16_in _ (by omega)
      have e2 : IntKind.u16.wrap (dotV (l.drop i)) = dotV (l.drop i) % 65536 := by
        simp [IntKind.wrap, IntKind.bits, IntKind.signed]
      have e3 : setZ (setZ (pad acc) (acc.length : Int) (dotV (l.drop i) / 65536)) ((acc.length : Int) + 1) (dotV (l.drop i) % 65536) = pad (acc ++ [dotV (l.drop i) / 65536] ++ [dotV (l.drop i) % 65536]) := by
        rw [pad_setZ _ _ (by omega), show (acc.length : Int) + 1 = ((acc ++ [dotV (l.drop i) / 65536]).length : Int) by simp, pad_setZ _ _ (by simp; omega)]
      rw [e1, e2, e3]
      exact ⟨⟨by omega, by omega⟩, by omega, ⟨by omega, by omega⟩, ⟨⟨by omega, by omega⟩, trivial⟩, ⟨by omega, by omega⟩, ⟨⟨by omega, by omega⟩, trivial⟩, ⟨by omega, by omega⟩, fin _ G _ _ (by simp; omega) (by simp) rfl (by omega) hs⟩
  · rw [if_neg (by intro h; exact h46 ⟨by omega, h.2⟩)] at hs
    refine ⟨fun _ => ⟨by omega, by omega⟩, fun h => ?_, fun h => ?_⟩
    · rw [if_pos (by omega)] at hs
      exact lw hs.symm
    · rw [if_neg (by omega)] at hs
      have h7 : acc.length < 8 := by omega
      obtain ⟨d1, d2⟩ := piece_digits l i e he (by omega)
      have hl1 : (acc ++ [hexW ((l.take e).drop i)]).length = acc.length + 1 := by simp
      rw [pad_setZ _ _ h7]
      refine ⟨⟨by omega, by omega, by omega⟩, ⟨d1, d2⟩, ⟨by omega, by omega⟩, ⟨⟨by omega, by omega⟩, trivial⟩, ⟨by omega, by omega⟩, fun hq => ?_, fun hq => ?_⟩
      · rw [if_pos (by omega)] at hs
        exact fin _ G _ _ (by omega) (by rw [hl1]; push_cast; rfl) rfl (by omega) hs
      · rw [if_neg (by omega)] at hs
        refine ⟨⟨by omega, by omega⟩, fun _ => ⟨by omega, by omega⟩, fun h5 => ?_, fun h5 => ?_⟩
        · rw [if_pos (by rcases h5 with h5 | h5; exact .inl h5; exact .inr (by omega))] at hs
          exact lw hs.symm
        · rw [if_neg (by intro h6; exact h5 (by rcases h6 with h6 | h6; exact .inl h6; exact .inr (by omega)))] at hs
          refine ⟨⟨by omega, by omega⟩, ⟨by omega, by omega⟩, fun h9 => ?_, fun h9 => ⟨fun hg => ?_, fun hg => ⟨⟨by omega, by omega⟩, fun hlt => ?_, fun hlt => ?_⟩⟩⟩
          · rw [if_pos h9, ← hl1] at hs
            exact H1 _ hl1 (pad_setZ _ _ h7) (by omega) (by omega) hs
          · rw [if_neg h9, if_pos hg] at hs
            exact lw hs.symm
          · rw [if_neg h9, if_neg hg, if_pos (by omega)] at hs
            exact H2 _ hl1 (pad_setZ _ _ h7) (by omega) (by omega) (by rw [hl1]; exact hs)
          · rw [if_neg h9, if_neg hg, if_neg (by omega)] at hs
            exact fin _ _ _ _ (by omega) (by rw [hl1]; push_cast; rfl) rfl (by omega) hs
end Go.Proofs.YtjljhkjpogjdhaaDoor
end
/- The function gossamer/ip6.Parse does what is told of it. -/
section
set_option linter.unusedVariables false
set_option linter.unusedSimpArgs false
set_option maxRecDepth 100000
set_option maxHeartbeats 4000000
namespace Go.Proofs.YtjljhkjpogjdhaaDoor
open Go Go.Proofs Go.RowKit Go.Vc

theorem pre_len {l : Bs} (h : Lib.hasPrefix l [58, 58] = true) : 2 ≤ l.length := by
  match l, h with
  | [], h => cases h
  | [a], h => unfold Lib.hasPrefix at h; simp [List.isPrefixOf] at h
  | _ :: _ :: _, _ => simp

def X_parse6 : Tbl := tblX [(37, ent_behind), (38, ent_number), (39, ent_dotted), (40, ent_spread), (13, ent_prefix)]
def H_parse6 (l : Bs) : Loops := fun i => bif Nat.beq i 1000000 then some ⟨(Int) × (Int) × (Int) × (List Int), (fun s x => VS.mk [] [(0, .str l), (2, .ptr 34 0), (3, .bool false), (4, .ptr 36 0), (5, .int .u32 0), (6, .bool false), (7, .int .i64 x.1), (8, .int .i64 x.2.1), (9, .int .i64 x.2.2.1), (10, .undef), (13, .undef), (17, .undef), (30, .undef), (43, .undef), (56, .undef), (67, .undef), (73, .undef), (75, .undef), (82, .undef), (95, .undef), (113, .undef), (120, .undef)] [(36, .arr 8 (.ints .u16 x.2.2.2)), (34, .arr 8 (.ints .u16 (List.replicate 8 0)))]), (fun s => (s.int 7, s.int 8, s.int 9, VS.ints (VS.mk [] s.lh []) 36)), (fun s x => let c := x.1; let g := x.2.1; let a := x.2.2.1; let p := x.2.2.2; ∃ acc : List Int, c = acc.length ∧ acc.length ≤ 8 ∧ p = pad acc ∧ -1 ≤ g ∧ g ≤ c ∧ 0 ≤ a ∧ a ≤ l.length ∧ six1 l (9 - acc.length) acc g a.toNat = six l), (fun s x => let c := x.1; let g := x.2.1; let a := x.2.2.1; let p := x.2.2.2; (9 - c).toNat), [10, 13, 17, 30, 43, 56, 67, 73, 75, 82]⟩ else none
theorem X_parse6_ok : XOk Tryd.prog noT X_parse6 := tblX_cons ent_behind_ok (tblX_cons ent_number_ok (tblX_cons ent_dotted_ok (tblX_cons ent_spread_ok (tblX_cons ent_prefix_ok (tblX_nil)))))
theorem vc_parse6 (l : Bs) (k : PV → Prop) : evF Tryd.prog X_parse6 noT (H_parse6 l) 1000 Tryd.f22 [.str l] k = (
  True ∧
 ((!preB l (ByteArray.mk #[(58 : UInt8), (58 : UInt8)]).data.toList) = true →
 VS.mk []
 [(nat_lit 0, PV.str l), (nat_lit 2, PV.ptr ((2 : Nat) + (32 : Nat)) (0 : Nat)), (nat_lit 3, PV.bool false),
 (nat_lit 4, PV.ptr ((4 : Nat) + (32 : Nat)) (0 : Nat)), (nat_lit 5, PV.int Go.IntKind.u32 (0 : Int)),
 (nat_lit 6, PV.bool false), (nat_lit 7, PV.int Go.IntKind.i64 (0 : Int)), (nat_lit 8, PV.int Go.IntKind.i64 (-1 : Int)),
 (nat_lit 9, PV.int Go.IntKind.i64 (0 : Int)), ((10 : Nat), PV.undef), ((13 : Nat), PV.undef), ((17 : Nat), PV.undef),
 ((30 : Nat), PV.undef), ((43 : Nat), PV.undef), ((56 : Nat), PV.undef), ((67 : Nat), PV.undef),
 ((73 : Nat), PV.undef), ((75 : Nat), PV.undef), ((82 : Nat), PV.undef), (nat_lit 95, PV.undef),
 (nat_lit 113, PV.undef), (nat_lit 120, PV.undef)]
 [((4 : Nat) + (32 : Nat), PV.arr (8 : Nat) (BRow.ints Go.IntKind.u16 (List.replicate (8 : Nat) (0 : Int)))),
 ((2 : Nat) + (32 : Nat), PV.arr (8 : Nat) (BRow.ints Go.IntKind.u16 (List.replicate (8 : Nat) (0 : Int))))] =
 VS.mk []
 [((0 : Nat), PV.str l), ((2 : Nat), PV.ptr (34 : Nat) (0 : Nat)), ((3 : Nat), PV.bool false),
 ((4 : Nat), PV.ptr (36 : Nat) (0 : Nat)), ((5 : Nat), PV.int Go.IntKind.u32 (0 : Int)), ((6 : Nat), PV.bool false),
 ((7 : Nat), PV.int Go.IntKind.i64 (0 : Int)), ((8 : Nat), PV.int Go.IntKind.i64 (-1 : Int)),
 ((9 : Nat), PV.int Go.IntKind.i64 (0 : Int)), ((10 : Nat), PV.undef), ((13 : Nat), PV.undef), ((17 : Nat), PV.undef),
 ((30 : Nat), PV.undef), ((43 : Nat), PV.undef), ((56 : Nat), PV.undef), ((67 : Nat), PV.undef),
 ((73 : Nat), PV.undef), ((75 : Nat), PV.undef), ((82 : Nat), PV.undef), ((95 : Nat), PV.undef),
 ((113 : Nat), PV.undef), ((120 : Nat), PV.undef)]
 [((36 : Nat), PV.arr (8 : Nat) (BRow.ints Go.IntKind.u16 (List.replicate (8 : Nat) (0 : Int)))),
 ((34 : Nat), PV.arr (8 : Nat) (BRow.ints Go.IntKind.u16 (List.replicate (8 : Nat) (0 : Int))))] ∧
 (∃ (acc : List Int),
 (0 : Int) = ↑acc.length ∧
 acc.length ≤ (8 : Nat) ∧
 List.replicate (8 : Nat) (0 : Int) = pad acc ∧
 (-1 : Int) ≤ (-1 : Int) ∧
 (-1 : Int) ≤ (0 : Int) ∧
 (0 : Int) ≤ (0 : Int) ∧
 (0 : Int) ≤ ↑(List.length l) ∧
 six1 l ((9 : Nat) - acc.length) acc (-1 : Int) (Int.toNat (0 : Int)) =
 six l) ∧
 ∀ (x : Int × Int × Int × List Int),
 (∃ (acc : List Int),
 x.fst = ↑acc.length ∧
 acc.length ≤ (8 : Nat) ∧
 x.snd.snd.snd = pad acc ∧
 (-1 : Int) ≤ x.snd.fst ∧
 x.snd.fst ≤ x.fst ∧
 (0 : Int) ≤ x.snd.snd.fst ∧
 x.snd.snd.fst ≤ ↑(List.length l) ∧
 six1 l ((9 : Nat) - acc.length) acc x.snd.fst x.snd.snd.fst.toNat =
 six l) →
 ((0 : Int) ≤ x.snd.snd.fst ∧ x.snd.snd.fst ≤ ↑(List.length l) ∧ List.length l ≤ (1000000 : Nat)) ∧
 (decide (x.snd.snd.fst + ↑(hexLen (List.drop x.snd.snd.fst.toNat l)) < lenZ l) = true →
 within (x.snd.snd.fst + ↑(hexLen (List.drop x.snd.snd.fst.toNat l))) (lenZ l)) ∧
 ((bif decide (x.snd.snd.fst + ↑(hexLen (List.drop x.snd.snd.fst.toNat l)) < lenZ l) then
 decide (byteZ l (x.snd.snd.fst + ↑(hexLen (List.drop x.snd.snd.fst.toNat l))) = (46 : Int))
 else false) =
 true →
 upto x.snd.snd.fst (lenZ l) (lenZ l) ∧
 (dropZ l x.snd.snd.fst).length.le (1000000 : Nat) ∧
 ((bif !dotO (dropZ l x.snd.snd.fst) then true else decide ((6 : Int) < x.fst)) = true →
 k
 (PV.tup
 [PV.arr (8 : Nat) (BRow.ints Go.IntKind.u16 (List.replicate (8 : Nat) (0 : Int))), PV.bool false])) ∧
 ((bif !dotO (dropZ l x.snd.snd.fst) then true else decide ((6 : Int) < x.fst)) = false →
 inI64 (x.fst + (1 : Int)) ∧
 (0 : Int) ≤ (16 : Int) ∧
 within x.fst ↑(8 : Nat) ∧
 (within x.fst ↑(8 : Nat) ∧ True) ∧
 within (x.fst + (1 : Int)) ↑(8 : Nat) ∧
 (within (x.fst + (1 : Int)) ↑(8 : Nat) ∧ True) ∧
 inI64 (x.fst + (2 : Int)) ∧
 ((bif decide (x.snd.fst < (0 : Int)) then decide (x.fst + (2 : Int) = (8 : Int)) else false) = true →
 k
 (PV.tup
 [PV.arr (8 : Nat)
 (BRow.ints Go.IntKind.u16
 (setZ
 (setZ x.snd.snd.snd x.fst
 (Go.IntKind.u16.wrap
 (shrZ Go.IntKind.u32 (dotV (dropZ l x.snd.snd.fst))
 (16 : Int))))
 (x.fst + (1 : Int))
 (Go.IntKind.u16.wrap (dotV (dropZ l x.snd.snd.fst))))),
 PV.bool true])) ∧
 ((bif decide (x.snd.fst < (0 : Int)) then decide (x.fst + (2 : Int) = (8 : Int)) else false) = false →
 ((bif decide ((0 : Int) ≤ x.snd.fst) then decide (x.fst + (2 : Int) < (8 : Int)) else false) = true →
 ((setZ
 (setZ x.snd.snd.snd x.fst
 (Go.IntKind.u16.wrap
 (shrZ Go.IntKind.u32 (dotV (dropZ l x.snd.snd.fst))
 (16 : Int))))
 (x.fst + (1 : Int))
 (Go.IntKind.u16.wrap
 (dotV (dropZ l x.snd.snd.fst)))).length =
 (8 : Nat) ∧
 (0 : Int) ≤ x.snd.fst ∧ x.snd.fst ≤ x.fst + (2 : Int) ∧ x.fst + (2 : Int) ≤ (7 : Int)) ∧
 k
 (PV.tup
 [PV.arr (8 : Nat)
 (BRow.ints Go.IntKind.u16
 (spreadM
 (setZ
 (setZ x.snd.snd.snd x.fst
 (Go.IntKind.u16.wrap
 (shrZ Go.IntKind.u32
 (dotV (dropZ l x.snd.snd.fst)) (16 : Int))))
 (x.fst + (1 : Int))
 (Go.IntKind.u16.wrap (dotV (dropZ l x.snd.snd.fst))))
 (x.fst + (2 : Int)).toNat x.snd.fst.toNat)),
 PV.bool true])) ∧
 ((bif decide ((0 : Int) ≤ x.snd.fst) then decide (x.fst + (2 : Int) < (8 : Int)) else false) = false →
 k
 (PV.tup
 [PV.arr (8 : Nat) (BRow.ints Go.IntKind.u16 (List.replicate (8 : Nat) (0 : Int))),
 PV.bool false]))))) ∧
 ((bif decide (x.snd.snd.fst + ↑(hexLen (List.drop x.snd.snd.fst.toNat l)) < lenZ l) then
 decide (byteZ l (x.snd.snd.fst + ↑(hexLen (List.drop x.snd.snd.fst.toNat l))) = (46 : Int))
 else false) =
 false →
 ((bif decide (x.fst = (8 : Int)) then true
 else decide (x.snd.snd.fst + ↑(hexLen (List.drop x.snd.snd.fst.toNat l)) = x.snd.snd.fst)) =
 false →
 inI64 (x.snd.snd.fst + (4 : Int))) ∧
 ((bif
 bif decide (x.fst = (8 : Int)) then true
 else decide (x.snd.snd.fst + ↑(hexLen (List.drop x.snd.snd.fst.toNat l)) = x.snd.snd.fst) then
 true
 else
 decide
 (x.snd.snd.fst + (4 : Int) < x.snd.snd.fst + ↑(hexLen (List.drop x.snd.snd.fst.toNat l)))) =
 true →
 k
 (PV.tup
 [PV.arr (8 : Nat) (BRow.ints Go.IntKind.u16 (List.replicate (8 : Nat) (0 : Int))), PV.bool false])) ∧
 ((bif
 bif decide (x.fst = (8 : Int)) then true
 else decide (x.snd.snd.fst + ↑(hexLen (List.drop x.snd.snd.fst.toNat l)) = x.snd.snd.fst) then
 true
 else
 decide
 (x.snd.snd.fst + (4 : Int) < x.snd.snd.fst + ↑(hexLen (List.drop x.snd.snd.fst.toNat l)))) =
 false →
 upto x.snd.snd.fst (x.snd.snd.fst + ↑(hexLen (List.drop x.snd.snd.fst.toNat l)))
 (lenZ l) ∧
 ((cutZ l x.snd.snd.fst
 (x.snd.snd.fst + ↑(hexLen (List.drop x.snd.snd.fst.toNat l)))).length ≤
 (4 : Nat) ∧
 ∀ (i : Nat),
 i <
 (cutZ l x.snd.snd.fst
 (x.snd.snd.fst + ↑(hexLen (List.drop x.snd.snd.fst.toNat l)))).length →
 (0 : Int) ≤
 hexN
 (byt
 (cutZ l x.snd.snd.fst
 (x.snd.snd.fst + ↑(hexLen (List.drop x.snd.snd.fst.toNat l))))
 i)) ∧
 within x.fst ↑(8 : Nat) ∧
 (within x.fst ↑(8 : Nat) ∧ True) ∧
 inI64 (x.fst + (1 : Int)) ∧
 (decide (x.snd.snd.fst + ↑(hexLen (List.drop x.snd.snd.fst.toNat l)) = lenZ l) =
 true →
 ((bif decide (x.snd.fst < (0 : Int)) then decide (x.fst + (1 : Int) = (8 : Int)) else false) = true →
 k
 (PV.tup
 [PV.arr (8 : Nat)
 (BRow.ints Go.IntKind.u16
 (setZ x.snd.snd.snd x.fst
 (hexW
 (cutZ l x.snd.snd.fst
 (x.snd.snd.fst + ↑(hexLen (List.drop x.snd.snd.fst.toNat l))))))),
 PV.bool true])) ∧
 ((bif decide (x.snd.fst < (0 : Int)) then decide (x.fst + (1 : Int) = (8 : Int)) else false) = false →
 ((bif decide ((0 : Int) ≤ x.snd.fst) then decide (x.fst + (1 : Int) < (8 : Int)) else false) = true →
 ((setZ x.snd.snd.snd x.fst
 (hexW
 (cutZ l x.snd.snd.fst
 (x.snd.snd.fst +
 ↑(hexLen (List.drop x.snd.snd.fst.toNat l)))))).length =
 (8 : Nat) ∧
 (0 : Int) ≤ x.snd.fst ∧ x.snd.fst ≤ x.fst + (1 : Int) ∧ x.fst + (1 : Int) ≤ (7 : Int)) ∧
 k
 (PV.tup
 [PV.arr (8 : Nat)
 (BRow.ints Go.IntKind.u16
 (spreadM
 (setZ x.snd.snd.snd x.fst
 (hexW
 (cutZ l x.snd.snd.fst
 (x.snd.snd.fst +
 ↑(hexLen (List.drop x.snd.snd.fst.toNat l))))))
 (x.fst + (1 : Int)).toNat x.snd.fst.toNat)),
 PV.bool true])) ∧
 ((bif decide ((0 : Int) ≤ x.snd.fst) then decide (x.fst + (1 : Int) < (8 : Int)) else false) = false →
 k
 (PV.tup
 [PV.arr (8 : Nat) (BRow.ints Go.IntKind.u16 (List.replicate (8 : Nat) (0 : Int))),
 PV.bool false])))) ∧
 (decide (x.snd.snd.fst + ↑(hexLen (List.drop x.snd.snd.fst.toNat l)) = lenZ l) =
 false →
 within (x.snd.snd.fst + ↑(hexLen (List.drop x.snd.snd.fst.toNat l)))
 (lenZ l) ∧
 ((!decide
 (byteZ l
 (x.snd.snd.fst + ↑(hexLen (List.drop x.snd.snd.fst.toNat l))) =
 (58 : Int))) =
 false →
 inI64
 (x.snd.snd.fst + ↑(hexLen (List.drop x.snd.snd.fst.toNat l)) + (1 : Int))) ∧
 ((bif
 !decide
 (byteZ l
 (x.snd.snd.fst + ↑(hexLen (List.drop x.snd.snd.fst.toNat l))) =
 (58 : Int)) then
 true
 else
 decide
 (x.snd.snd.fst + ↑(hexLen (List.drop x.snd.snd.fst.toNat l)) +
 (1 : Int) =
 lenZ l)) =
 true →
 k
 (PV.tup
 [PV.arr (8 : Nat) (BRow.ints Go.IntKind.u16 (List.replicate (8 : Nat) (0 : Int))),
 PV.bool false])) ∧
 ((bif
 !decide
 (byteZ l
 (x.snd.snd.fst + ↑(hexLen (List.drop x.snd.snd.fst.toNat l))) =
 (58 : Int)) then
 true
 else
 decide
 (x.snd.snd.fst + ↑(hexLen (List.drop x.snd.snd.fst.toNat l)) +
 (1 : Int) =
 lenZ l)) =
 false →
 inI64
 (x.snd.snd.fst + ↑(hexLen (List.drop x.snd.snd.fst.toNat l)) + (1 : Int)) ∧
 within
 (x.snd.snd.fst + ↑(hexLen (List.drop x.snd.snd.fst.toNat l)) + (1 : Int))
 (lenZ l) ∧
 ((!decide
 (byteZ l
 (x.snd.snd.fst +
 ↑(hexLen (List.drop x.snd.snd.fst.toNat l)) +
 (1 : Int)) =
 (58 : Int))) =
 true →
 VS.mk []
 [((0 : Nat), PV.str l), ((2 : Nat), PV.ptr (34 : Nat) (0 : Nat)),
 ((3 : Nat), PV.bool false), ((4 : Nat), PV.ptr (36 : Nat) (0 : Nat)),
 ((5 : Nat), PV.int Go.IntKind.u32 (0 : Int)), ((6 : Nat), PV.bool false),
 ((7 : Nat), PV.int Go.IntKind.i64 (x.fst + (1 : Int))),
 ((8 : Nat), PV.int Go.IntKind.i64 x.snd.fst),
 ((9 : Nat),
 PV.int Go.IntKind.i64
 (x.snd.snd.fst +
 ↑(hexLen (List.drop x.snd.snd.fst.toNat l)) +
 (1 : Int))),
 ((10 : Nat), PV.undef), ((13 : Nat), PV.undef), ((17 : Nat), PV.undef),
 ((30 : Nat), PV.undef), ((43 : Nat), PV.undef), ((56 : Nat), PV.undef),
 ((67 : Nat), PV.undef), ((73 : Nat), PV.undef), ((75 : Nat), PV.undef),
 ((82 : Nat), PV.undef), ((95 : Nat), PV.undef), ((113 : Nat), PV.undef),
 ((120 : Nat), PV.undef)]
 [((36 : Nat),
 PV.arr (8 : Nat)
 (BRow.ints Go.IntKind.u16
 (setZ x.snd.snd.snd x.fst
 (hexW
 (cutZ l x.snd.snd.fst
 (x.snd.snd.fst +
 ↑(hexLen
 (List.drop x.snd.snd.fst.toNat l)))))))),
 ((34 : Nat),
 PV.arr (8 : Nat)
 (BRow.ints Go.IntKind.u16 (List.replicate (8 : Nat) (0 : Int))))] =
 VS.mk []
 [((0 : Nat), PV.str l), ((2 : Nat), PV.ptr (34 : Nat) (0 : Nat)),
 ((3 : Nat), PV.bool false), ((4 : Nat), PV.ptr (36 : Nat) (0 : Nat)),
 ((5 : Nat), PV.int Go.IntKind.u32 (0 : Int)), ((6 : Nat), PV.bool false),
 ((7 : Nat), PV.int Go.IntKind.i64 (x.fst + (1 : Int))),
 ((8 : Nat), PV.int Go.IntKind.i64 x.snd.fst),
 ((9 : Nat),
 PV.int Go.IntKind.i64
 (x.snd.snd.fst +
 ↑(hexLen (List.drop x.snd.snd.fst.toNat l)) +
 (1 : Int))),
 ((10 : Nat), PV.undef), ((13 : Nat), PV.undef), ((17 : Nat), PV.undef),
 ((30 : Nat), PV.undef), ((43 : Nat), PV.undef), ((56 : Nat), PV.undef),
 ((67 : Nat), PV.undef), ((73 : Nat), PV.undef), ((75 : Nat), PV.undef),
 ((82 : Nat), PV.undef), ((95 : Nat), PV.undef), ((113 : Nat), PV.undef),
 ((120 : Nat), PV.undef)]
 [((36 : Nat),
 PV.arr (8 : Nat)
 (BRow.ints Go.IntKind.u16
 (setZ x.snd.snd.snd x.fst
 (hexW
 (cutZ l x.snd.snd.fst
 (x.snd.snd.fst +
 ↑(hexLen
 (List.drop x.snd.snd.fst.toNat l)))))))),
 ((34 : Nat),
 PV.arr (8 : Nat)
 (BRow.ints Go.IntKind.u16 (List.replicate (8 : Nat) (0 : Int))))] ∧
 (∃ (acc : List Int),
 x.fst + (1 : Int) = ↑acc.length ∧
 acc.length ≤ (8 : Nat) ∧
 setZ x.snd.snd.snd x.fst
 (hexW
 (cutZ l x.snd.snd.fst
 (x.snd.snd.fst +
 ↑(hexLen (List.drop x.snd.snd.fst.toNat l))))) =
 pad acc ∧
 (-1 : Int) ≤ x.snd.fst ∧
 x.snd.fst ≤ x.fst + (1 : Int) ∧
 (0 : Int) ≤
 x.snd.snd.fst +
 ↑(hexLen (List.drop x.snd.snd.fst.toNat l)) +
 (1 : Int) ∧
 x.snd.snd.fst +
 ↑(hexLen (List.drop x.snd.snd.fst.toNat l)) +
 (1 : Int) ≤
 ↑(List.length l) ∧
 six1 l ((9 : Nat) - acc.length) acc x.snd.fst
 (x.snd.snd.fst +
 ↑(hexLen
 (List.drop x.snd.snd.fst.toNat l)) +
 (1 : Int)).toNat =
 six l) ∧
 ((9 : Int) - (x.fst + (1 : Int))).toNat < ((9 : Int) - x.fst).toNat) ∧
 ((!decide
 (byteZ l
 (x.snd.snd.fst +
 ↑(hexLen (List.drop x.snd.snd.fst.toNat l)) +
 (1 : Int)) =
 (58 : Int))) =
 false →
 (decide ((0 : Int) ≤ x.snd.fst) = true →
 k
 (PV.tup
 [PV.arr (8 : Nat) (BRow.ints Go.IntKind.u16 (List.replicate (8 : Nat) (0 : Int))),
 PV.bool false])) ∧
 (decide ((0 : Int) ≤ x.snd.fst) = false →
 inI64
 (x.snd.snd.fst + ↑(hexLen (List.drop x.snd.snd.fst.toNat l)) +
 (1 : Int) +
 (1 : Int)) ∧
 (decide
 (x.snd.snd.fst +
 ↑(hexLen (List.drop x.snd.snd.fst.toNat l)) +
 (1 : Int) +
 (1 : Int) <
 lenZ l) =
 true →
 VS.mk []
 [((0 : Nat), PV.str l), ((2 : Nat), PV.ptr (34 : Nat) (0 : Nat)),
 ((3 : Nat), PV.bool false), ((4 : Nat), PV.ptr (36 : Nat) (0 : Nat)),
 ((5 : Nat), PV.int Go.IntKind.u32 (0 : Int)),
 ((6 : Nat), PV.bool false),
 ((7 : Nat), PV.int Go.IntKind.i64 (x.fst + (1 : Int))),
 ((8 : Nat), PV.int Go.IntKind.i64 (x.fst + (1 : Int))),
 ((9 : Nat),
 PV.int Go.IntKind.i64
 (x.snd.snd.fst +
 ↑(hexLen
 (List.drop x.snd.snd.fst.toNat l)) +
 (1 : Int) +
 (1 : Int))),
 ((10 : Nat), PV.undef), ((13 : Nat), PV.undef),
 ((17 : Nat), PV.undef), ((30 : Nat), PV.undef),
 ((43 : Nat), PV.undef), ((56 : Nat), PV.undef),
 ((67 : Nat), PV.undef), ((73 : Nat), PV.undef),
 ((75 : Nat), PV.undef), ((82 : Nat), PV.undef),
 ((95 : Nat), PV.undef), ((113 : Nat), PV.undef),
 ((120 : Nat), PV.undef)]
 [((36 : Nat),
 PV.arr (8 : Nat)
 (BRow.ints Go.IntKind.u16
 (setZ x.snd.snd.snd x.fst
 (hexW
 (cutZ l x.snd.snd.fst
 (x.snd.snd.fst +
 ↑(hexLen
 (List.drop x.snd.snd.fst.toNat l)))))))),
 ((34 : Nat),
 PV.arr (8 : Nat)
 (BRow.ints Go.IntKind.u16 (List.replicate (8 : Nat) (0 : Int))))] =
 VS.mk []
 [((0 : Nat), PV.str l), ((2 : Nat), PV.ptr (34 : Nat) (0 : Nat)),
 ((3 : Nat), PV.bool false), ((4 : Nat), PV.ptr (36 : Nat) (0 : Nat)),
 ((5 : Nat), PV.int Go.IntKind.u32 (0 : Int)),
 ((6 : Nat), PV.bool false),
 ((7 : Nat), PV.int Go.IntKind.i64 (x.fst + (1 : Int))),
 ((8 : Nat), PV.int Go.IntKind.i64 (x.fst + (1 : Int))),
 ((9 : Nat),
 PV.int Go.IntKind.i64
 (x.snd.snd.fst +
 ↑(hexLen
 (List.drop x.snd.snd.fst.toNat l)) +
 (1 : Int) +
 (1 : Int))),
 ((10 : Nat), PV.undef), ((13 : Nat), PV.undef),
 ((17 : Nat), PV.undef), ((30 : Nat), PV.undef),
 ((43 : Nat), PV.undef), ((56 : Nat), PV.undef),
 ((67 : Nat), PV.undef), ((73 : Nat), PV.undef),
 ((75 : Nat), PV.undef), ((82 : Nat), PV.undef),
 ((95 : Nat), PV.undef), ((113 : Nat), PV.undef),
 ((120 : Nat), PV.undef)]
 [((36 : Nat),
 PV.arr (8 : Nat)
 (BRow.ints Go.IntKind.u16
 (setZ x.snd.snd.snd x.fst
 (hexW
 (cutZ l x.snd.snd.fst
 (x.snd.snd.fst +
 ↑(hexLen
 (List.drop x.snd.snd.fst.toNat l)))))))),
 ((34 : Nat),
 PV.arr (8 : Nat)
 (BRow.ints Go.IntKind.u16 (List.replicate (8 : Nat) (0 : Int))))] ∧
 (∃ (acc : List Int),
 x.fst + (1 : Int) = ↑acc.length ∧
 acc.length ≤ (8 : Nat) ∧
 setZ x.snd.snd.snd x.fst
 (hexW
 (cutZ l x.snd.snd.fst
 (x.snd.snd.fst +
 ↑(hexLen
 (List.drop x.snd.snd.fst.toNat l))))) =
 pad acc ∧
 (-1 : Int) ≤ x.fst + (1 : Int) ∧
 x.fst + (1 : Int) ≤ x.fst + (1 : Int) ∧
 (0 : Int) ≤
 x.snd.snd.fst +
 ↑(hexLen
 (List.drop x.snd.snd.fst.toNat l)) +
 (1 : Int) +
 (1 : Int) ∧
 x.snd.snd.fst +
 ↑(hexLen
 (List.drop x.snd.snd.fst.toNat l)) +
 (1 : Int) +
 (1 : Int) ≤
 ↑(List.length l) ∧
 six1 l ((9 : Nat) - acc.length) acc
 (x.fst + (1 : Int))
 (x.snd.snd.fst +
 ↑(hexLen
 (List.drop x.snd.snd.fst.toNat l)) +
 (1 : Int) +
 (1 : Int)).toNat =
 six l) ∧
 ((9 : Int) - (x.fst + (1 : Int))).toNat < ((9 : Int) - x.fst).toNat) ∧
 (decide
 (x.snd.snd.fst +
 ↑(hexLen (List.drop x.snd.snd.fst.toNat l)) +
 (1 : Int) +
 (1 : Int) <
 lenZ l) =
 false →
 ((bif decide (x.fst + (1 : Int) < (0 : Int)) then decide (x.fst + (1 : Int) = (8 : Int))
 else false) =
 true →
 k
 (PV.tup
 [PV.arr (8 : Nat)
 (BRow.ints Go.IntKind.u16
 (setZ x.snd.snd.snd x.fst
 (hexW
 (cutZ l x.snd.snd.fst
 (x.snd.snd.fst +
 ↑(hexLen
 (List.drop x.snd.snd.fst.toNat l))))))),
 PV.bool true])) ∧
 ((bif decide (x.fst + (1 : Int) < (0 : Int)) then decide (x.fst + (1 : Int) = (8 : Int))
 else false) =
 false →
 ((bif decide ((0 : Int) ≤ x.fst + (1 : Int)) then decide (x.fst + (1 : Int) < (8 : Int))
 else false) =
 true →
 ((setZ x.snd.snd.snd x.fst
 (hexW
 (cutZ l x.snd.snd.fst
 (x.snd.snd.fst +
 ↑(hexLen
 (List.drop x.snd.snd.fst.toNat l)))))).length =
 (8 : Nat) ∧
 (0 : Int) ≤ x.fst + (1 : Int) ∧
 x.fst + (1 : Int) ≤ x.fst + (1 : Int) ∧ x.fst + (1 : Int) ≤ (7 : Int)) ∧
 k
 (PV.tup
 [PV.arr (8 : Nat)
 (BRow.ints Go.IntKind.u16
 (spreadM
 (setZ x.snd.snd.snd x.fst
 (hexW
 (cutZ l x.snd.snd.fst
 (x.snd.snd.fst +
 ↑(hexLen
 (List.drop x.snd.snd.fst.toNat l))))))
 (x.fst + (1 : Int)).toNat (x.fst + (1 : Int)).toNat)),
 PV.bool true])) ∧
 ((bif decide ((0 : Int) ≤ x.fst + (1 : Int)) then
 decide (x.fst + (1 : Int) < (8 : Int))
 else false) =
 false →
 k
 (PV.tup
 [PV.arr (8 : Nat)
 (BRow.ints Go.IntKind.u16 (List.replicate (8 : Nat) (0 : Int))),
 PV.bool false]))))))))))) ∧
 ((!preB l (ByteArray.mk #[(58 : UInt8), (58 : UInt8)]).data.toList) = false →
 (decide ((2 : Int) = lenZ l) = true →
 (false = true → k (PV.tup [PV.arr (8 : Nat) (BRow.ints Go.IntKind.u16 (List.replicate (8 : Nat) (0 : Int))), PV.bool true])) ∧
 (false = false →
 (decide ((0 : Int) < (8 : Int)) = true →
 ((List.replicate (8 : Nat) (0 : Int)).length = (8 : Nat) ∧ (0 : Int) ≤ (0 : Int) ∧ (0 : Int) ≤ (0 : Int) ∧ (0 : Int) ≤ (7 : Int)) ∧
 k
 (PV.tup
 [PV.arr (8 : Nat)
 (BRow.ints Go.IntKind.u16
 (spreadM (List.replicate (8 : Nat) (0 : Int)) (Int.toNat (0 : Int)) (Int.toNat (0 : Int)))),
 PV.bool true])) ∧
 (decide ((0 : Int) < (8 : Int)) = false →
 k (PV.tup [PV.arr (8 : Nat) (BRow.ints Go.IntKind.u16 (List.replicate (8 : Nat) (0 : Int))), PV.bool false])))) ∧
 (decide ((2 : Int) = lenZ l) = false →
 ((0 : Int) ≤ (2 : Int) ∧ (2 : Int) ≤ ↑(List.length l) ∧ List.length l ≤ (1000000 : Nat)) ∧
 (decide ((2 : Int) + ↑(hexLen (List.drop (Int.toNat (2 : Int)) l)) < lenZ l) = true →
 within ((2 : Int) + ↑(hexLen (List.drop (Int.toNat (2 : Int)) l))) (lenZ l)) ∧
 ((bif decide ((2 : Int) + ↑(hexLen (List.drop (Int.toNat (2 : Int)) l)) < lenZ l) then
 decide (byteZ l ((2 : Int) + ↑(hexLen (List.drop (Int.toNat (2 : Int)) l))) = (46 : Int))
 else false) =
 true →
 upto (2 : Int) (lenZ l) (lenZ l) ∧
 (dropZ l (2 : Int)).length.le (1000000 : Nat) ∧
 ((bif !dotO (dropZ l (2 : Int)) then true else decide ((6 : Int) < (0 : Int))) = true →
 k
 (PV.tup
 [PV.arr (8 : Nat) (BRow.ints Go.IntKind.u16 (List.replicate (8 : Nat) (0 : Int))), PV.bool false])) ∧
 ((bif !dotO (dropZ l (2 : Int)) then true else decide ((6 : Int) < (0 : Int))) = false →
 inI64 ((0 : Int) + (1 : Int)) ∧
 (0 : Int) ≤ (16 : Int) ∧
 within (0 : Int) ↑(8 : Nat) ∧
 (within (0 : Int) ↑(8 : Nat) ∧ True) ∧
 within ((0 : Int) + (1 : Int)) ↑(8 : Nat) ∧
 (within ((0 : Int) + (1 : Int)) ↑(8 : Nat) ∧ True) ∧
 inI64 ((0 : Int) + (2 : Int)) ∧
 (false = true →
 k
 (PV.tup
 [PV.arr (8 : Nat)
 (BRow.ints Go.IntKind.u16
 (setZ
 (setZ (List.replicate (8 : Nat) (0 : Int)) (0 : Int)
 (Go.IntKind.u16.wrap
 (shrZ Go.IntKind.u32 (dotV (dropZ l (2 : Int)))
 (16 : Int))))
 ((0 : Int) + (1 : Int))
 (Go.IntKind.u16.wrap (dotV (dropZ l (2 : Int)))))),
 PV.bool true])) ∧
 (false = false →
 (decide ((0 : Int) + (2 : Int) < (8 : Int)) = true →
 ((setZ
 (setZ (List.replicate (8 : Nat) (0 : Int)) (0 : Int)
 (Go.IntKind.u16.wrap
 (shrZ Go.IntKind.u32 (dotV (dropZ l (2 : Int)))
 (16 : Int))))
 ((0 : Int) + (1 : Int))
 (Go.IntKind.u16.wrap (dotV (dropZ l (2 : Int))))).length =
 (8 : Nat) ∧
 (0 : Int) ≤ (0 : Int) ∧ (0 : Int) ≤ (0 : Int) + (2 : Int) ∧ (0 : Int) + (2 : Int) ≤ (7 : Int)) ∧
 k
 (PV.tup
 [PV.arr (8 : Nat)
 (BRow.ints Go.IntKind.u16
 (spreadM
 (setZ
 (setZ (List.replicate (8 : Nat) (0 : Int)) (0 : Int)
 (Go.IntKind.u16.wrap
 (shrZ Go.IntKind.u32 (dotV (dropZ l (2 : Int)))
 (16 : Int))))
 ((0 : Int) + (1 : Int))
 (Go.IntKind.u16.wrap (dotV (dropZ l (2 : Int)))))
 ((0 : Int) + (2 : Int)).toNat (Int.toNat (0 : Int)))),
 PV.bool true])) ∧
 (decide ((0 : Int) + (2 : Int) < (8 : Int)) = false →
 k
 (PV.tup
 [PV.arr (8 : Nat) (BRow.ints Go.IntKind.u16 (List.replicate (8 : Nat) (0 : Int))),
 PV.bool false]))))) ∧
 ((bif decide ((2 : Int) + ↑(hexLen (List.drop (Int.toNat (2 : Int)) l)) < lenZ l) then
 decide (byteZ l ((2 : Int) + ↑(hexLen (List.drop (Int.toNat (2 : Int)) l))) = (46 : Int))
 else false) =
 false →
 (decide ((2 : Int) + ↑(hexLen (List.drop (Int.toNat (2 : Int)) l)) = (2 : Int)) = false →
 inI64 ((2 : Int) + (4 : Int))) ∧
 ((bif decide ((2 : Int) + ↑(hexLen (List.drop (Int.toNat (2 : Int)) l)) = (2 : Int)) then true
 else decide ((2 : Int) + (4 : Int) < (2 : Int) + ↑(hexLen (List.drop (Int.toNat (2 : Int)) l)))) =
 true →
 k (PV.tup [PV.arr (8 : Nat) (BRow.ints Go.IntKind.u16 (List.replicate (8 : Nat) (0 : Int))), PV.bool false])) ∧
 ((bif decide ((2 : Int) + ↑(hexLen (List.drop (Int.toNat (2 : Int)) l)) = (2 : Int)) then true
 else decide ((2 : Int) + (4 : Int) < (2 : Int) + ↑(hexLen (List.drop (Int.toNat (2 : Int)) l)))) =
 false →
 upto (2 : Int) ((2 : Int) + ↑(hexLen (List.drop (Int.toNat (2 : Int)) l))) (lenZ l) ∧
 ((cutZ l (2 : Int) ((2 : Int) + ↑(hexLen (List.drop (Int.toNat (2 : Int)) l)))).length ≤
 (4 : Nat) ∧
 ∀ (i : Nat),
 i < (cutZ l (2 : Int) ((2 : Int) + ↑(hexLen (List.drop (Int.toNat (2 : Int)) l)))).length →
 (0 : Int) ≤
 hexN
 (byt
 (cutZ l (2 : Int) ((2 : Int) + ↑(hexLen (List.drop (Int.toNat (2 : Int)) l))))
 i)) ∧
 within (0 : Int) ↑(8 : Nat) ∧
 (within (0 : Int) ↑(8 : Nat) ∧ True) ∧
 inI64 ((0 : Int) + (1 : Int)) ∧
 (decide ((2 : Int) + ↑(hexLen (List.drop (Int.toNat (2 : Int)) l)) = lenZ l) = true →
 (false = true →
 k
 (PV.tup
 [PV.arr (8 : Nat)
 (BRow.ints Go.IntKind.u16
 (setZ (List.replicate (8 : Nat) (0 : Int)) (0 : Int)
 (hexW
 (cutZ l (2 : Int)
 ((2 : Int) + ↑(hexLen (List.drop (Int.toNat (2 : Int)) l))))))),
 PV.bool true])) ∧
 (false = false →
 (decide ((0 : Int) + (1 : Int) < (8 : Int)) = true →
 ((setZ (List.replicate (8 : Nat) (0 : Int)) (0 : Int)
 (hexW
 (cutZ l (2 : Int)
 ((2 : Int) +
 ↑(hexLen (List.drop (Int.toNat (2 : Int)) l)))))).length =
 (8 : Nat) ∧
 (0 : Int) ≤ (0 : Int) ∧ (0 : Int) ≤ (0 : Int) + (1 : Int) ∧ (0 : Int) + (1 : Int) ≤ (7 : Int)) ∧
 k
 (PV.tup
 [PV.arr (8 : Nat)
 (BRow.ints Go.IntKind.u16
 (spreadM
 (setZ (List.replicate (8 : Nat) (0 : Int)) (0 : Int)
 (hexW
 (cutZ l (2 : Int)
 ((2 : Int) + ↑(hexLen (List.drop (Int.toNat (2 : Int)) l))))))
 ((0 : Int) + (1 : Int)).toNat (Int.toNat (0 : Int)))),
 PV.bool true])) ∧
 (decide ((0 : Int) + (1 : Int) < (8 : Int)) = false →
 k
 (PV.tup
 [PV.arr (8 : Nat) (BRow.ints Go.IntKind.u16 (List.replicate (8 : Nat) (0 : Int))),
 PV.bool false])))) ∧
 (decide ((2 : Int) + ↑(hexLen (List.drop (Int.toNat (2 : Int)) l)) = lenZ l) = false →
 within ((2 : Int) + ↑(hexLen (List.drop (Int.toNat (2 : Int)) l))) (lenZ l) ∧
 ((!decide
 (byteZ l ((2 : Int) + ↑(hexLen (List.drop (Int.toNat (2 : Int)) l))) =
 (58 : Int))) =
 false →
 inI64
 ((2 : Int) + ↑(hexLen (List.drop (Int.toNat (2 : Int)) l)) + (1 : Int))) ∧
 ((bif
 !decide
 (byteZ l
 ((2 : Int) + ↑(hexLen (List.drop (Int.toNat (2 : Int)) l))) =
 (58 : Int)) then
 true
 else
 decide
 ((2 : Int) + ↑(hexLen (List.drop (Int.toNat (2 : Int)) l)) + (1 : Int) =
 lenZ l)) =
 true →
 k
 (PV.tup
 [PV.arr (8 : Nat) (BRow.ints Go.IntKind.u16 (List.replicate (8 : Nat) (0 : Int))),
 PV.bool false])) ∧
 ((bif
 !decide
 (byteZ l
 ((2 : Int) + ↑(hexLen (List.drop (Int.toNat (2 : Int)) l))) =
 (58 : Int)) then
 true
 else
 decide
 ((2 : Int) + ↑(hexLen (List.drop (Int.toNat (2 : Int)) l)) + (1 : Int) =
 lenZ l)) =
 false →
 inI64
 ((2 : Int) + ↑(hexLen (List.drop (Int.toNat (2 : Int)) l)) + (1 : Int)) ∧
 within
 ((2 : Int) + ↑(hexLen (List.drop (Int.toNat (2 : Int)) l)) + (1 : Int))
 (lenZ l) ∧
 ((!decide
 (byteZ l
 ((2 : Int) + ↑(hexLen (List.drop (Int.toNat (2 : Int)) l)) +
 (1 : Int)) =
 (58 : Int))) =
 true →
 VS.mk []
 [(nat_lit 0, PV.str l), (nat_lit 2, PV.ptr ((2 : Nat) + (32 : Nat)) (0 : Nat)),
 (nat_lit 3, PV.bool false), (nat_lit 4, PV.ptr ((4 : Nat) + (32 : Nat)) (0 : Nat)),
 (nat_lit 5, PV.int Go.IntKind.u32 (0 : Int)), (nat_lit 6, PV.bool false),
 (nat_lit 7, PV.int Go.IntKind.i64 ((0 : Int) + (1 : Int))),
 (nat_lit 8, PV.int Go.IntKind.i64 (0 : Int)),
 (nat_lit 9,
 PV.int Go.IntKind.i64
 ((2 : Int) + ↑(hexLen (List.drop (Int.toNat (2 : Int)) l)) +
 (1 : Int))),
 ((10 : Nat), PV.undef), ((13 : Nat), PV.undef), ((17 : Nat), PV.undef),
 ((30 : Nat), PV.undef), ((43 : Nat), PV.undef), ((56 : Nat), PV.undef),
 ((67 : Nat), PV.undef), ((73 : Nat), PV.undef), ((75 : Nat), PV.undef),
 ((82 : Nat), PV.undef), (nat_lit 95, PV.undef), (nat_lit 113, PV.undef),
 (nat_lit 120, PV.undef)]
 [((4 : Nat) + (32 : Nat),
 PV.arr (8 : Nat)
 (BRow.ints Go.IntKind.u16
 (setZ (List.replicate (8 : Nat) (0 : Int)) (0 : Int)
 (hexW
 (cutZ l (2 : Int)
 ((2 : Int) +
 ↑(hexLen (List.drop (Int.toNat (2 : Int)) l)))))))),
 ((2 : Nat) + (32 : Nat),
 PV.arr (8 : Nat) (BRow.ints Go.IntKind.u16 (List.replicate (8 : Nat) (0 : Int))))] =
 VS.mk []
 [((0 : Nat), PV.str l), ((2 : Nat), PV.ptr (34 : Nat) (0 : Nat)),
 ((3 : Nat), PV.bool false), ((4 : Nat), PV.ptr (36 : Nat) (0 : Nat)),
 ((5 : Nat), PV.int Go.IntKind.u32 (0 : Int)), ((6 : Nat), PV.bool false),
 ((7 : Nat), PV.int Go.IntKind.i64 ((0 : Int) + (1 : Int))),
 ((8 : Nat), PV.int Go.IntKind.i64 (0 : Int)),
 ((9 : Nat),
 PV.int Go.IntKind.i64
 ((2 : Int) + ↑(hexLen (List.drop (Int.toNat (2 : Int)) l)) +
 (1 : Int))),
 ((10 : Nat), PV.undef), ((13 : Nat), PV.undef), ((17 : Nat), PV.undef),
 ((30 : Nat), PV.undef), ((43 : Nat), PV.undef), ((56 : Nat), PV.undef),
 ((67 : Nat), PV.undef), ((73 : Nat), PV.undef), ((75 : Nat), PV.undef),
 ((82 : Nat), PV.undef), ((95 : Nat), PV.undef), ((113 : Nat), PV.undef),
 ((120 : Nat), PV.undef)]
 [((36 : Nat),
 PV.arr (8 : Nat)
 (BRow.ints Go.IntKind.u16
 (setZ (List.replicate (8 : Nat) (0 : Int)) (0 : Int)
 (hexW
 (cutZ l (2 : Int)
 ((2 : Int) +
 ↑(hexLen (List.drop (Int.toNat (2 : Int)) l)))))))),
 ((34 : Nat),
 PV.arr (8 : Nat) (BRow.ints Go.IntKind.u16 (List.replicate (8 : Nat) (0 : Int))))] ∧
 (∃ (acc : List Int),
 (0 : Int) + (1 : Int) = ↑acc.length ∧
 acc.length ≤ (8 : Nat) ∧
 setZ (List.replicate (8 : Nat) (0 : Int)) (0 : Int)
 (hexW
 (cutZ l (2 : Int)
 ((2 : Int) +
 ↑(hexLen (List.drop (Int.toNat (2 : Int)) l))))) =
 pad acc ∧
 (-1 : Int) ≤ (0 : Int) ∧
 (0 : Int) ≤ (0 : Int) + (1 : Int) ∧
 (0 : Int) ≤
 (2 : Int) +
 ↑(hexLen (List.drop (Int.toNat (2 : Int)) l)) +
 (1 : Int) ∧
 (2 : Int) +
 ↑(hexLen (List.drop (Int.toNat (2 : Int)) l)) +
 (1 : Int) ≤
 ↑(List.length l) ∧
 six1 l ((9 : Nat) - acc.length) acc (0 : Int)
 ((2 : Int) +
 ↑(hexLen
 (List.drop (Int.toNat (2 : Int)) l)) +
 (1 : Int)).toNat =
 six l) ∧
 ∀ (x : Int × Int × Int × List Int),
 (∃ (acc : List Int),
 x.fst = ↑acc.length ∧
 acc.length ≤ (8 : Nat) ∧
 x.snd.snd.snd = pad acc ∧
 (-1 : Int) ≤ x.snd.fst ∧
 x.snd.fst ≤ x.fst ∧
 (0 : Int) ≤ x.snd.snd.fst ∧
 x.snd.snd.fst ≤ ↑(List.length l) ∧
 six1 l ((9 : Nat) - acc.length) acc x.snd.fst
 x.snd.snd.fst.toNat =
 six l) →
 ((0 : Int) ≤ x.snd.snd.fst ∧ x.snd.snd.fst ≤ ↑(List.length l) ∧ List.length l ≤ (1000000 : Nat)) ∧
 (decide
 (x.snd.snd.fst +
 ↑(hexLen (List.drop x.snd.snd.fst.toNat l)) <
 lenZ l) =
 true →
 within
 (x.snd.snd.fst +
 ↑(hexLen (List.drop x.snd.snd.fst.toNat l)))
 (lenZ l)) ∧
 ((bif
 decide
 (x.snd.snd.fst +
 ↑(hexLen (List.drop x.snd.snd.fst.toNat l)) <
 lenZ l) then
 decide
 (byteZ l
 (x.snd.snd.fst +
 ↑(hexLen (List.drop x.snd.snd.fst.toNat l))) =
 (46 : Int))
 else false) =
 true →
 upto x.snd.snd.fst (lenZ l) (lenZ l) ∧
 (dropZ l x.snd.snd.fst).length.le (1000000 : Nat) ∧
 ((bif !dotO (dropZ l x.snd.snd.fst) then true
 else decide ((6 : Int) < x.fst)) =
 true →
 k
 (PV.tup
 [PV.arr (8 : Nat)
 (BRow.ints Go.IntKind.u16 (List.replicate (8 : Nat) (0 : Int))),
 PV.bool false])) ∧
 ((bif !dotO (dropZ l x.snd.snd.fst) then true
 else decide ((6 : Int) < x.fst)) =
 false →
 inI64 (x.fst + (1 : Int)) ∧
 (0 : Int) ≤ (16 : Int) ∧
 within x.fst ↑(8 : Nat) ∧
 (within x.fst ↑(8 : Nat) ∧ True) ∧
 within (x.fst + (1 : Int)) ↑(8 : Nat) ∧
 (within (x.fst + (1 : Int)) ↑(8 : Nat) ∧ True) ∧
 inI64 (x.fst + (2 : Int)) ∧
 ((bif decide (x.snd.fst < (0 : Int)) then
 decide (x.fst + (2 : Int) = (8 : Int))
 else false) =
 true →
 k
 (PV.tup
 [PV.arr (8 : Nat)
 (BRow.ints Go.IntKind.u16
 (setZ
 (setZ x.snd.snd.snd x.fst
 (Go.IntKind.u16.wrap
 (shrZ Go.IntKind.u32
 (dotV
 (dropZ l x.snd.snd.fst))
 (16 : Int))))
 (x.fst + (1 : Int))
 (Go.IntKind.u16.wrap
 (dotV
 (dropZ l x.snd.snd.fst))))),
 PV.bool true])) ∧
 ((bif decide (x.snd.fst < (0 : Int)) then
 decide (x.fst + (2 : Int) = (8 : Int))
 else false) =
 false →
 ((bif decide ((0 : Int) ≤ x.snd.fst) then
 decide (x.fst + (2 : Int) < (8 : Int))
 else false) =
 true →
 ((setZ
 (setZ x.snd.snd.snd x.fst
 (Go.IntKind.u16.wrap
 (shrZ Go.IntKind.u32
 (dotV
 (dropZ l x.snd.snd.fst))
 (16 : Int))))
 (x.fst + (1 : Int))
 (Go.IntKind.u16.wrap
 (dotV
 (dropZ l x.snd.snd.fst)))).length =
 (8 : Nat) ∧
 (0 : Int) ≤ x.snd.fst ∧
 x.snd.fst ≤ x.fst + (2 : Int) ∧
 x.fst + (2 : Int) ≤ (7 : Int)) ∧
 k
 (PV.tup
 [PV.arr (8 : Nat)
 (BRow.ints Go.IntKind.u16
 (spreadM
 (setZ
 (setZ x.snd.snd.snd x.fst
 (Go.IntKind.u16.wrap
 (shrZ Go.IntKind.u32
 (dotV
 (dropZ l x.snd.snd.fst))
 (16 : Int))))
 (x.fst + (1 : Int))
 (Go.IntKind.u16.wrap
 (dotV
 (dropZ l x.snd.snd.fst))))
 (x.fst + (2 : Int)).toNat x.snd.fst.toNat)),
 PV.bool true])) ∧
 ((bif decide ((0 : Int) ≤ x.snd.fst) then
 decide (x.fst + (2 : Int) < (8 : Int))
 else false) =
 false →
 k
 (PV.tup
 [PV.arr (8 : Nat)
 (BRow.ints Go.IntKind.u16
 (List.replicate (8 : Nat) (0 : Int))),
 PV.bool false]))))) ∧
 ((bif
 decide
 (x.snd.snd.fst +
 ↑(hexLen (List.drop x.snd.snd.fst.toNat l)) <
 lenZ l) then
 decide
 (byteZ l
 (x.snd.snd.fst +
 ↑(hexLen (List.drop x.snd.snd.fst.toNat l))) =
 (46 : Int))
 else false) =
 false →
 ((bif decide (x.fst = (8 : Int)) then true
 else
 decide
 (x.snd.snd.fst +
 ↑(hexLen (List.drop x.snd.snd.fst.toNat l)) =
 x.snd.snd.fst)) =
 false →
 inI64 (x.snd.snd.fst + (4 : Int))) ∧
 ((bif
 bif decide (x.fst = (8 : Int)) then true
 else
 decide
 (x.snd.snd.fst +
 ↑(hexLen
 (List.drop x.snd.snd.fst.toNat l)) =
 x.snd.snd.fst) then
 true
 else
 decide
 (x.snd.snd.fst + (4 : Int) <
 x.snd.snd.fst +
 ↑(hexLen
 (List.drop x.snd.snd.fst.toNat l)))) =
 true →
 k
 (PV.tup
 [PV.arr (8 : Nat)
 (BRow.ints Go.IntKind.u16 (List.replicate (8 : Nat) (0 : Int))),
 PV.bool false])) ∧
 ((bif
 bif decide (x.fst = (8 : Int)) then true
 else
 decide
 (x.snd.snd.fst +
 ↑(hexLen
 (List.drop x.snd.snd.fst.toNat l)) =
 x.snd.snd.fst) then
 true
 else
 decide
 (x.snd.snd.fst + (4 : Int) <
 x.snd.snd.fst +
 ↑(hexLen
 (List.drop x.snd.snd.fst.toNat l)))) =
 false →
 upto x.snd.snd.fst
 (x.snd.snd.fst +
 ↑(hexLen (List.drop x.snd.snd.fst.toNat l)))
 (lenZ l) ∧
 ((cutZ l x.snd.snd.fst
 (x.snd.snd.fst +
 ↑(hexLen
 (List.drop x.snd.snd.fst.toNat l)))).length ≤
 (4 : Nat) ∧
 ∀ (i : Nat),
 i <
 (cutZ l x.snd.snd.fst
 (x.snd.snd.fst +
 ↑(hexLen
 (List.drop x.snd.snd.fst.toNat l)))).length →
 (0 : Int) ≤
 hexN
 (byt
 (cutZ l x.snd.snd.fst
 (x.snd.snd.fst +
 ↑(hexLen
 (List.drop x.snd.snd.fst.toNat l))))
 i)) ∧
 within x.fst ↑(8 : Nat) ∧
 (within x.fst ↑(8 : Nat) ∧ True) ∧
 inI64 (x.fst + (1 : Int)) ∧
 (decide
 (x.snd.snd.fst +
 ↑(hexLen
 (List.drop x.snd.snd.fst.toNat l)) =
 lenZ l) =
 true →
 ((bif decide (x.snd.fst < (0 : Int)) then
 decide (x.fst + (1 : Int) = (8 : Int))
 else false) =
 true →
 k
 (PV.tup
 [PV.arr (8 : Nat)
 (BRow.ints Go.IntKind.u16
 (setZ x.snd.snd.snd x.fst
 (hexW
 (cutZ l x.snd.snd.fst
 (x.snd.snd.fst +
 ↑(hexLen
 (List.drop x.snd.snd.fst.toNat l))))))),
 PV.bool true])) ∧
 ((bif decide (x.snd.fst < (0 : Int)) then
 decide (x.fst + (1 : Int) = (8 : Int))
 else false) =
 false →
 ((bif decide ((0 : Int) ≤ x.snd.fst) then
 decide (x.fst + (1 : Int) < (8 : Int))
 else false) =
 true →
 ((setZ x.snd.snd.snd x.fst
 (hexW
 (cutZ l x.snd.snd.fst
 (x.snd.snd.fst +
 ↑(hexLen
 (List.drop x.snd.snd.fst.toNat
 l)))))).length =
 (8 : Nat) ∧
 (0 : Int) ≤ x.snd.fst ∧
 x.snd.fst ≤ x.fst + (1 : Int) ∧
 x.fst + (1 : Int) ≤ (7 : Int)) ∧
 k
 (PV.tup
 [PV.arr (8 : Nat)
 (BRow.ints Go.IntKind.u16
 (spreadM
 (setZ x.snd.snd.snd x.fst
 (hexW
 (cutZ l x.snd.snd.fst
 (x.snd.snd.fst +
 ↑(hexLen
 (List.drop x.snd.snd.fst.toNat
 l))))))
 (x.fst + (1 : Int)).toNat x.snd.fst.toNat)),
 PV.bool true])) ∧
 ((bif decide ((0 : Int) ≤ x.snd.fst) then
 decide (x.fst + (1 : Int) < (8 : Int))
 else false) =
 false →
 k
 (PV.tup
 [PV.arr (8 : Nat)
 (BRow.ints Go.IntKind.u16
 (List.replicate (8 : Nat) (0 : Int))),
 PV.bool false])))) ∧
 (decide
 (x.snd.snd.fst +
 ↑(hexLen
 (List.drop x.snd.snd.fst.toNat l)) =
 lenZ l) =
 false →
 within
 (x.snd.snd.fst +
 ↑(hexLen
 (List.drop x.snd.snd.fst.toNat l)))
 (lenZ l) ∧
 ((!decide
 (byteZ l
 (x.snd.snd.fst +
 ↑(hexLen
 (List.drop x.snd.snd.fst.toNat l))) =
 (58 : Int))) =
 false →
 inI64
 (x.snd.snd.fst +
 ↑(hexLen
 (List.drop x.snd.snd.fst.toNat l)) +
 (1 : Int))) ∧
 ((bif
 !decide
 (byteZ l
 (x.snd.snd.fst +
 ↑(hexLen
 (List.drop x.snd.snd.fst.toNat l))) =
 (58 : Int)) then
 true
 else
 decide
 (x.snd.snd.fst +
 ↑(hexLen
 (List.drop x.snd.snd.fst.toNat l)) +
 (1 : Int) =
 lenZ l)) =
 true →
 k
 (PV.tup
 [PV.arr (8 : Nat)
 (BRow.ints Go.IntKind.u16
 (List.replicate (8 : Nat) (0 : Int))),
 PV.bool false])) ∧
 ((bif
 !decide
 (byteZ l
 (x.snd.snd.fst +
 ↑(hexLen
 (List.drop x.snd.snd.fst.toNat l))) =
 (58 : Int)) then
 true
 else
 decide
 (x.snd.snd.fst +
 ↑(hexLen
 (List.drop x.snd.snd.fst.toNat l)) +
 (1 : Int) =
 lenZ l)) =
 false →
 inI64
 (x.snd.snd.fst +
 ↑(hexLen
 (List.drop x.snd.snd.fst.toNat l)) +
 (1 : Int)) ∧
 within
 (x.snd.snd.fst +
 ↑(hexLen
 (List.drop x.snd.snd.fst.toNat l)) +
 (1 : Int))
 (lenZ l) ∧
 ((!decide
 (byteZ l
 (x.snd.snd.fst +
 ↑(hexLen
 (List.drop x.snd.snd.fst.toNat l)) +
 (1 : Int)) =
 (58 : Int))) =
 true →
 VS.mk []
 [((0 : Nat), PV.str l),
 ((2 : Nat),
 PV.ptr (34 : Nat) (0 : Nat)),
 ((3 : Nat), PV.bool false),
 ((4 : Nat),
 PV.ptr (36 : Nat) (0 : Nat)),
 ((5 : Nat),
 PV.int Go.IntKind.u32 (0 : Int)),
 ((6 : Nat), PV.bool false),
 ((7 : Nat),
 PV.int Go.IntKind.i64
 (x.fst + (1 : Int))),
 ((8 : Nat),
 PV.int Go.IntKind.i64 x.snd.fst),
 ((9 : Nat),
 PV.int Go.IntKind.i64
 (x.snd.snd.fst +
 ↑(hexLen
 (List.drop x.snd.snd.fst.toNat
 l)) +
 (1 : Int))),
 ((10 : Nat), PV.undef),
 ((13 : Nat), PV.undef),
 ((17 : Nat), PV.undef),
 ((30 : Nat), PV.undef),
 ((43 : Nat), PV.undef),
 ((56 : Nat), PV.undef),
 ((67 : Nat), PV.undef),
 ((73 : Nat), PV.undef),
 ((75 : Nat), PV.undef),
 ((82 : Nat), PV.undef),
 ((95 : Nat), PV.undef),
 ((113 : Nat), PV.undef),
 ((120 : Nat), PV.undef)]
 [((36 : Nat),
 PV.arr (8 : Nat)
 (BRow.ints Go.IntKind.u16
 (setZ x.snd.snd.snd x.fst
 (hexW
 (cutZ l x.snd.snd.fst
 (x.snd.snd.fst +
 ↑(hexLen
 (List.drop
 x.snd.snd.fst.toNat
 l)))))))),
 ((34 : Nat),
 PV.arr (8 : Nat)
 (BRow.ints Go.IntKind.u16
 (List.replicate (8 : Nat)
 (0 : Int))))] =
 VS.mk []
 [((0 : Nat), PV.str l),
 ((2 : Nat),
 PV.ptr (34 : Nat) (0 : Nat)),
 ((3 : Nat), PV.bool false),
 ((4 : Nat),
 PV.ptr (36 : Nat) (0 : Nat)),
 ((5 : Nat),
 PV.int Go.IntKind.u32 (0 : Int)),
 ((6 : Nat), PV.bool false),
 ((7 : Nat),
 PV.int Go.IntKind.i64
 (x.fst + (1 : Int))),
 ((8 : Nat),
 PV.int Go.IntKind.i64 x.snd.fst),
 ((9 : Nat),
 PV.int Go.IntKind.i64
 (x.snd.snd.fst +
 ↑(hexLen
 (List.drop x.snd.snd.fst.toNat
 l)) +
 (1 : Int))),
 ((10 : Nat), PV.undef),
 ((13 : Nat), PV.undef),
 ((17 : Nat), PV.undef),
 ((30 : Nat), PV.undef),
 ((43 : Nat), PV.undef),
 ((56 : Nat), PV.undef),
 ((67 : Nat), PV.undef),
 ((73 : Nat), PV.undef),
 ((75 : Nat), PV.undef),
 ((82 : Nat), PV.undef),
 ((95 : Nat), PV.undef),
 ((113 : Nat), PV.undef),
 ((120 : Nat), PV.undef)]
 [((36 : Nat),
 PV.arr (8 : Nat)
 (BRow.ints Go.IntKind.u16
 (setZ x.snd.snd.snd x.fst
 (hexW
 (cutZ l x.snd.snd.fst
 (x.snd.snd.fst +
 ↑(hexLen
 (List.drop
 x.snd.snd.fst.toNat
 l)))))))),
 ((34 : Nat),
 PV.arr (8 : Nat)
 (BRow.ints Go.IntKind.u16
 (List.replicate (8 : Nat)
 (0 : Int))))] ∧
 (∃ (acc : List Int),
 x.fst + (1 : Int) = ↑acc.length ∧
 acc.length ≤ (8 : Nat) ∧
 setZ x.snd.snd.snd x.fst
 (hexW
 (cutZ l x.snd.snd.fst
 (x.snd.snd.fst +
 ↑(hexLen
 (List.drop
 x.snd.snd.fst.toNat
 l))))) =
 pad acc ∧
 (-1 : Int) ≤ x.snd.fst ∧
 x.snd.fst ≤ x.fst + (1 : Int) ∧
 (0 : Int) ≤
 x.snd.snd.fst +
 ↑(hexLen
 (List.drop
 x.snd.snd.fst.toNat
 l)) +
 (1 : Int) ∧
 x.snd.snd.fst +
 ↑(hexLen
 (List.drop
 x.snd.snd.fst.toNat
 l)) +
 (1 : Int) ≤
 ↑(List.length l) ∧
 six1
 l ((9 : Nat) - acc.length) acc
 x.snd.fst
 (x.snd.snd.fst +
 ↑(hexLen
 (List.drop
 x.snd.snd.fst.toNat
 l)) +
 (1 : Int)).toNat =
 six
 l) ∧
 ((9 : Int) - (x.fst + (1 : Int))).toNat <
 ((9 : Int) - x.fst).toNat) ∧
 ((!decide
 (byteZ l
 (x.snd.snd.fst +
 ↑(hexLen
 (List.drop x.snd.snd.fst.toNat l)) +
 (1 : Int)) =
 (58 : Int))) =
 false →
 (decide ((0 : Int) ≤ x.snd.fst) = true →
 k
 (PV.tup
 [PV.arr (8 : Nat)
 (BRow.ints Go.IntKind.u16
 (List.replicate (8 : Nat) (0 : Int))),
 PV.bool false])) ∧
 (decide ((0 : Int) ≤ x.snd.fst) = false →
 inI64
 (x.snd.snd.fst +
 ↑(hexLen
 (List.drop x.snd.snd.fst.toNat l)) +
 (1 : Int) +
 (1 : Int)) ∧
 (decide
 (x.snd.snd.fst +
 ↑(hexLen
 (List.drop
 x.snd.snd.fst.toNat l)) +
 (1 : Int) +
 (1 : Int) <
 lenZ l) =
 true →
 VS.mk []
 [((0 : Nat), PV.str l),
 ((2 : Nat),
 PV.ptr (34 : Nat)
 (0 : Nat)),
 ((3 : Nat), PV.bool false),
 ((4 : Nat),
 PV.ptr (36 : Nat)
 (0 : Nat)),
 ((5 : Nat),
 PV.int Go.IntKind.u32
 (0 : Int)),
 ((6 : Nat), PV.bool false),
 ((7 : Nat),
 PV.int Go.IntKind.i64
 (x.fst + (1 : Int))),
 ((8 : Nat),
 PV.int Go.IntKind.i64
 (x.fst + (1 : Int))),
 ((9 : Nat),
 PV.int Go.IntKind.i64
 (x.snd.snd.fst +
 ↑(hexLen
 (List.drop
 x.snd.snd.fst.toNat
 l)) +
 (1 : Int) +
 (1 : Int))),
 ((10 : Nat), PV.undef),
 ((13 : Nat), PV.undef),
 ((17 : Nat), PV.undef),
 ((30 : Nat), PV.undef),
 ((43 : Nat), PV.undef),
 ((56 : Nat), PV.undef),
 ((67 : Nat), PV.undef),
 ((73 : Nat), PV.undef),
 ((75 : Nat), PV.undef),
 ((82 : Nat), PV.undef),
 ((95 : Nat), PV.undef),
 ((113 : Nat), PV.undef),
 ((120 : Nat), PV.undef)]
 [((36 : Nat),
 PV.arr (8 : Nat)
 (BRow.ints Go.IntKind.u16
 (setZ x.snd.snd.snd
 x.fst
 (hexW
 (cutZ l
 x.snd.snd.fst
 (x.snd.snd.fst +
 ↑(hexLen
 (List.drop
 x.snd.snd.fst.toNat
 l)))))))),
 ((34 : Nat),
 PV.arr (8 : Nat)
 (BRow.ints Go.IntKind.u16
 (List.replicate (8 : Nat)
 (0 : Int))))] =
 VS.mk []
 [((0 : Nat), PV.str l),
 ((2 : Nat),
 PV.ptr (34 : Nat)
 (0 : Nat)),
 ((3 : Nat), PV.bool false),
 ((4 : Nat),
 PV.ptr (36 : Nat)
 (0 : Nat)),
 ((5 : Nat),
 PV.int Go.IntKind.u32
 (0 : Int)),
 ((6 : Nat), PV.bool false),
 ((7 : Nat),
 PV.int Go.IntKind.i64
 (x.fst + (1 : Int))),
 ((8 : Nat),
 PV.int Go.IntKind.i64
 (x.fst + (1 : Int))),
 ((9 : Nat),
 PV.int Go.IntKind.i64
 (x.snd.snd.fst +
 ↑(hexLen
 (List.drop
 x.snd.snd.fst.toNat
 l)) +
 (1 : Int) +
 (1 : Int))),
 ((10 : Nat), PV.undef),
 ((13 : Nat), PV.undef),
 ((17 : Nat), PV.undef),
 ((30 : Nat), PV.undef),
 ((43 : Nat), PV.undef),
 ((56 : Nat), PV.undef),
 ((67 : Nat), PV.undef),
 ((73 : Nat), PV.undef),
 ((75 : Nat), PV.undef),
 ((82 : Nat), PV.undef),
 ((95 : Nat), PV.undef),
 ((113 : Nat), PV.undef),
 ((120 : Nat), PV.undef)]
 [((36 : Nat),
 PV.arr (8 : Nat)
 (BRow.ints Go.IntKind.u16
 (setZ x.snd.snd.snd
 x.fst
 (hexW
 (cutZ l
 x.snd.snd.fst
 (x.snd.snd.fst +
 ↑(hexLen
 (List.drop
 x.snd.snd.fst.toNat
 l)))))))),
 ((34 : Nat),
 PV.arr (8 : Nat)
 (BRow.ints Go.IntKind.u16
 (List.replicate (8 : Nat)
 (0 : Int))))] ∧
 (∃ (acc : List Int),
 x.fst + (1 : Int) = ↑acc.length ∧
 acc.length ≤ (8 : Nat) ∧
 setZ x.snd.snd.snd x.fst
 (hexW
 (cutZ l
 x.snd.snd.fst
 (x.snd.snd.fst +
 ↑(hexLen
 (List.drop
 x.snd.snd.fst.toNat
 l))))) =
 pad
 acc ∧
 (-1 : Int) ≤ x.fst + (1 : Int) ∧
 x.fst + (1 : Int) ≤
 x.fst + (1 : Int) ∧
 (0 : Int) ≤
 x.snd.snd.fst +
 ↑(hexLen
 (List.drop
 x.snd.snd.fst.toNat
 l)) +
 (1 : Int) +
 (1 : Int) ∧
 x.snd.snd.fst +
 ↑(hexLen
 (List.drop
 x.snd.snd.fst.toNat
 l)) +
 (1 : Int) +
 (1 : Int) ≤
 ↑(List.length l) ∧
 six1
 l
 ((9 : Nat) -
 acc.length)
 acc
 (x.fst + (1 : Int))
 (x.snd.snd.fst +
 ↑(hexLen
 (List.drop
 x.snd.snd.fst.toNat
 l)) +
 (1 : Int) +
 (1 :
 Int)).toNat =
 six
 l) ∧
 ((9 : Int) -
 (x.fst + (1 : Int))).toNat <
 ((9 : Int) - x.fst).toNat) ∧
 (decide
 (x.snd.snd.fst +
 ↑(hexLen
 (List.drop
 x.snd.snd.fst.toNat l)) +
 (1 : Int) +
 (1 : Int) <
 lenZ l) =
 false →
 ((bif
 decide
 (x.fst + (1 : Int) <
 (0 : Int)) then
 decide
 (x.fst + (1 : Int) = (8 : Int))
 else false) =
 true →
 k
 (PV.tup
 [PV.arr (8 : Nat)
 (BRow.ints Go.IntKind.u16
 (setZ x.snd.snd.snd
 x.fst
 (hexW
 (cutZ l
 x.snd.snd.fst
 (x.snd.snd.fst +
 ↑(hexLen
 (List.drop
 x.snd.snd.fst.toNat
 l))))))),
 PV.bool true])) ∧
 ((bif
 decide
 (x.fst + (1 : Int) <
 (0 : Int)) then
 decide
 (x.fst + (1 : Int) = (8 : Int))
 else false) =
 false →
 ((bif
 decide
 ((0 : Int) ≤
 x.fst + (1 : Int)) then
 decide
 (x.fst + (1 : Int) <
 (8 : Int))
 else false) =
 true →
 ((setZ x.snd.snd.snd x.fst
 (hexW
 (cutZ l
 x.snd.snd.fst
 (x.snd.snd.fst +
 ↑(hexLen
 (List.drop
 x.snd.snd.fst.toNat
 l)))))).length =
 (8 : Nat) ∧
 (0 : Int) ≤ x.fst + (1 : Int) ∧
 x.fst + (1 : Int) ≤
 x.fst + (1 : Int) ∧
 x.fst + (1 : Int) ≤
 (7 : Int)) ∧
 k
 (PV.tup
 [PV.arr (8 : Nat)
 (BRow.ints
 Go.IntKind.u16
 (spreadM
 (setZ
 x.snd.snd.snd x.fst
 (hexW
 (cutZ l
 x.snd.snd.fst
 (x.snd.snd.fst +
 ↑(hexLen
 (List.drop
 x.snd.snd.fst.toNat
 l))))))
 (x.fst +
 (1 : Int)).toNat
 (x.fst +
 (1 :
 Int)).toNat)),
 PV.bool true])) ∧
 ((bif
 decide
 ((0 : Int) ≤
 x.fst + (1 : Int)) then
 decide
 (x.fst + (1 : Int) <
 (8 : Int))
 else false) =
 false →
 k
 (PV.tup
 [PV.arr (8 : Nat)
 (BRow.ints
 Go.IntKind.u16
 (List.replicate (8 : Nat)
 (0 : Int))),
 PV.bool
 false]))))))))))) ∧
 ((!decide
 (byteZ l
 ((2 : Int) + ↑(hexLen (List.drop (Int.toNat (2 : Int)) l)) +
 (1 : Int)) =
 (58 : Int))) =
 false →
 (decide ((0 : Int) ≤ (0 : Int)) = true →
 k
 (PV.tup
 [PV.arr (8 : Nat) (BRow.ints Go.IntKind.u16 (List.replicate (8 : Nat) (0 : Int))),
 PV.bool false])) ∧
 (decide ((0 : Int) ≤ (0 : Int)) = false →
 inI64
 ((2 : Int) + ↑(hexLen (List.drop (Int.toNat (2 : Int)) l)) +
 (1 : Int) +
 (1 : Int)) ∧
 (decide
 ((2 : Int) + ↑(hexLen (List.drop (Int.toNat (2 : Int)) l)) +
 (1 : Int) +
 (1 : Int) <
 lenZ l) =
 true →
 VS.mk []
 [(nat_lit 0, PV.str l),
 (nat_lit 2, PV.ptr ((2 : Nat) + (32 : Nat)) (0 : Nat)),
 (nat_lit 3, PV.bool false),
 (nat_lit 4, PV.ptr ((4 : Nat) + (32 : Nat)) (0 : Nat)),
 (nat_lit 5, PV.int Go.IntKind.u32 (0 : Int)), (nat_lit 6, PV.bool false),
 (nat_lit 7, PV.int Go.IntKind.i64 ((0 : Int) + (1 : Int))),
 (nat_lit 8, PV.int Go.IntKind.i64 ((0 : Int) + (1 : Int))),
 (nat_lit 9,
 PV.int Go.IntKind.i64
 ((2 : Int) +
 ↑(hexLen (List.drop (Int.toNat (2 : Int)) l)) +
 (1 : Int) +
 (1 : Int))),
 ((10 : Nat), PV.undef), ((13 : Nat), PV.undef),
 ((17 : Nat), PV.undef), ((30 : Nat), PV.undef),
 ((43 : Nat), PV.undef), ((56 : Nat), PV.undef),
 ((67 : Nat), PV.undef), ((73 : Nat), PV.undef),
 ((75 : Nat), PV.undef), ((82 : Nat), PV.undef),
 (nat_lit 95, PV.undef), (nat_lit 113, PV.undef),
 (nat_lit 120, PV.undef)]
 [((4 : Nat) + (32 : Nat),
 PV.arr (8 : Nat)
 (BRow.ints Go.IntKind.u16
 (setZ (List.replicate (8 : Nat) (0 : Int)) (0 : Int)
 (hexW
 (cutZ l (2 : Int)
 ((2 : Int) +
 ↑(hexLen
 (List.drop (Int.toNat (2 : Int)) l)))))))),
 ((2 : Nat) + (32 : Nat),
 PV.arr (8 : Nat)
 (BRow.ints Go.IntKind.u16 (List.replicate (8 : Nat) (0 : Int))))] =
 VS.mk []
 [((0 : Nat), PV.str l), ((2 : Nat), PV.ptr (34 : Nat) (0 : Nat)),
 ((3 : Nat), PV.bool false), ((4 : Nat), PV.ptr (36 : Nat) (0 : Nat)),
 ((5 : Nat), PV.int Go.IntKind.u32 (0 : Int)), ((6 : Nat), PV.bool false),
 ((7 : Nat), PV.int Go.IntKind.i64 ((0 : Int) + (1 : Int))),
 ((8 : Nat), PV.int Go.IntKind.i64 ((0 : Int) + (1 : Int))),
 ((9 : Nat),
 PV.int Go.IntKind.i64
 ((2 : Int) +
 ↑(hexLen (List.drop (Int.toNat (2 : Int)) l)) +
 (1 : Int) +
 (1 : Int))),
 ((10 : Nat), PV.undef), ((13 : Nat), PV.undef),
 ((17 : Nat), PV.undef), ((30 : Nat), PV.undef),
 ((43 : Nat), PV.undef), ((56 : Nat), PV.undef),
 ((67 : Nat), PV.undef), ((73 : Nat), PV.undef),
 ((75 : Nat), PV.undef), ((82 : Nat), PV.undef),
 ((95 : Nat), PV.undef), ((113 : Nat), PV.undef),
 ((120 : Nat), PV.undef)]
 [((36 : Nat),
 PV.arr (8 : Nat)
 (BRow.ints Go.IntKind.u16
 (setZ (List.replicate (8 : Nat) (0 : Int)) (0 : Int)
 (hexW
 (cutZ l (2 : Int)
 ((2 : Int) +
 ↑(hexLen
 (List.drop (Int.toNat (2 : Int)) l)))))))),
 ((34 : Nat),
 PV.arr (8 : Nat)
 (BRow.ints Go.IntKind.u16 (List.replicate (8 : Nat) (0 : Int))))] ∧
 (∃ (acc : List Int),
 (0 : Int) + (1 : Int) = ↑acc.length ∧
 acc.length ≤ (8 : Nat) ∧
 setZ (List.replicate (8 : Nat) (0 : Int)) (0 : Int)
 (hexW
 (cutZ l (2 : Int)
 ((2 : Int) +
 ↑(hexLen
 (List.drop (Int.toNat (2 : Int)) l))))) =
 pad acc ∧
 (-1 : Int) ≤ (0 : Int) + (1 : Int) ∧
 (0 : Int) + (1 : Int) ≤ (0 : Int) + (1 : Int) ∧
 (0 : Int) ≤
 (2 : Int) +
 ↑(hexLen
 (List.drop (Int.toNat (2 : Int)) l)) +
 (1 : Int) +
 (1 : Int) ∧
 (2 : Int) +
 ↑(hexLen
 (List.drop (Int.toNat (2 : Int)) l)) +
 (1 : Int) +
 (1 : Int) ≤
 ↑(List.length l) ∧
 six1 l ((9 : Nat) - acc.length) acc
 ((0 : Int) + (1 : Int))
 ((2 : Int) +
 ↑(hexLen
 (List.drop (Int.toNat (2 : Int)) l)) +
 (1 : Int) +
 (1 : Int)).toNat =
 six l) ∧
 ∀ (x : Int × Int × Int × List Int),
 (∃ (acc : List Int),
 x.fst = ↑acc.length ∧
 acc.length ≤ (8 : Nat) ∧
 x.snd.snd.snd = pad acc ∧
 (-1 : Int) ≤ x.snd.fst ∧
 x.snd.fst ≤ x.fst ∧
 (0 : Int) ≤ x.snd.snd.fst ∧
 x.snd.snd.fst ≤ ↑(List.length l) ∧
 six1 l ((9 : Nat) - acc.length) acc
 x.snd.fst x.snd.snd.fst.toNat =
 six l) →
 ((0 : Int) ≤ x.snd.snd.fst ∧
 x.snd.snd.fst ≤ ↑(List.length l) ∧ List.length l ≤ (1000000 : Nat)) ∧
 (decide
 (x.snd.snd.fst +
 ↑(hexLen
 (List.drop x.snd.snd.fst.toNat l)) <
 lenZ l) =
 true →
 within
 (x.snd.snd.fst +
 ↑(hexLen (List.drop x.snd.snd.fst.toNat l)))
 (lenZ l)) ∧
 ((bif
 decide
 (x.snd.snd.fst +
 ↑(hexLen
 (List.drop x.snd.snd.fst.toNat l)) <
 lenZ l) then
 decide
 (byteZ l
 (x.snd.snd.fst +
 ↑(hexLen
 (List.drop x.snd.snd.fst.toNat l))) =
 (46 : Int))
 else false) =
 true →
 upto x.snd.snd.fst (lenZ l) (lenZ l) ∧
 (dropZ l x.snd.snd.fst).length.le (1000000 : Nat) ∧
 ((bif
 !dotO
 (dropZ l x.snd.snd.fst) then
 true
 else decide ((6 : Int) < x.fst)) =
 true →
 k
 (PV.tup
 [PV.arr (8 : Nat)
 (BRow.ints Go.IntKind.u16
 (List.replicate (8 : Nat) (0 : Int))),
 PV.bool false])) ∧
 ((bif
 !dotO
 (dropZ l x.snd.snd.fst) then
 true
 else decide ((6 : Int) < x.fst)) =
 false →
 inI64 (x.fst + (1 : Int)) ∧
 (0 : Int) ≤ (16 : Int) ∧
 within x.fst ↑(8 : Nat) ∧
 (within x.fst ↑(8 : Nat) ∧ True) ∧
 within (x.fst + (1 : Int)) ↑(8 : Nat) ∧
 (within (x.fst + (1 : Int)) ↑(8 : Nat) ∧ True) ∧
 inI64 (x.fst + (2 : Int)) ∧
 ((bif decide (x.snd.fst < (0 : Int)) then
 decide (x.fst + (2 : Int) = (8 : Int))
 else false) =
 true →
 k
 (PV.tup
 [PV.arr (8 : Nat)
 (BRow.ints Go.IntKind.u16
 (setZ
 (setZ x.snd.snd.snd x.fst
 (Go.IntKind.u16.wrap
 (shrZ Go.IntKind.u32
 (dotV
 (dropZ l x.snd.snd.fst))
 (16 : Int))))
 (x.fst + (1 : Int))
 (Go.IntKind.u16.wrap
 (dotV
 (dropZ l x.snd.snd.fst))))),
 PV.bool true])) ∧
 ((bif decide (x.snd.fst < (0 : Int)) then
 decide (x.fst + (2 : Int) = (8 : Int))
 else false) =
 false →
 ((bif decide ((0 : Int) ≤ x.snd.fst) then
 decide (x.fst + (2 : Int) < (8 : Int))
 else false) =
 true →
 ((setZ
 (setZ x.snd.snd.snd x.fst
 (Go.IntKind.u16.wrap
 (shrZ Go.IntKind.u32
 (dotV
 (dropZ l x.snd.snd.fst))
 (16 : Int))))
 (x.fst + (1 : Int))
 (Go.IntKind.u16.wrap
 (dotV
 (dropZ l
 x.snd.snd.fst)))).length =
 (8 : Nat) ∧
 (0 : Int) ≤ x.snd.fst ∧
 x.snd.fst ≤ x.fst + (2 : Int) ∧
 x.fst + (2 : Int) ≤ (7 : Int)) ∧
 k
 (PV.tup
 [PV.arr (8 : Nat)
 (BRow.ints Go.IntKind.u16
 (spreadM
 (setZ
 (setZ x.snd.snd.snd x.fst
 (Go.IntKind.u16.wrap
 (shrZ Go.IntKind.u32
 (dotV
 (dropZ l
 x.snd.snd.fst))
 (16 : Int))))
 (x.fst + (1 : Int))
 (Go.IntKind.u16.wrap
 (dotV
 (dropZ l
 x.snd.snd.fst))))
 (x.fst + (2 : Int)).toNat
 x.snd.fst.toNat)),
 PV.bool true])) ∧
 ((bif decide ((0 : Int) ≤ x.snd.fst) then
 decide (x.fst + (2 : Int) < (8 : Int))
 else false) =
 false →
 k
 (PV.tup
 [PV.arr (8 : Nat)
 (BRow.ints Go.IntKind.u16
 (List.replicate (8 : Nat) (0 : Int))),
 PV.bool false]))))) ∧
 ((bif
 decide
 (x.snd.snd.fst +
 ↑(hexLen
 (List.drop x.snd.snd.fst.toNat l)) <
 lenZ l) then
 decide
 (byteZ l
 (x.snd.snd.fst +
 ↑(hexLen
 (List.drop x.snd.snd.fst.toNat l))) =
 (46 : Int))
 else false) =
 false →
 ((bif decide (x.fst = (8 : Int)) then true
 else
 decide
 (x.snd.snd.fst +
 ↑(hexLen
 (List.drop x.snd.snd.fst.toNat l)) =
 x.snd.snd.fst)) =
 false →
 inI64 (x.snd.snd.fst + (4 : Int))) ∧
 ((bif
 bif decide (x.fst = (8 : Int)) then true
 else
 decide
 (x.snd.snd.fst +
 ↑(hexLen
 (List.drop x.snd.snd.fst.toNat l)) =
 x.snd.snd.fst) then
 true
 else
 decide
 (x.snd.snd.fst + (4 : Int) <
 x.snd.snd.fst +
 ↑(hexLen
 (List.drop x.snd.snd.fst.toNat l)))) =
 true →
 k
 (PV.tup
 [PV.arr (8 : Nat)
 (BRow.ints Go.IntKind.u16
 (List.replicate (8 : Nat) (0 : Int))),
 PV.bool false])) ∧
 ((bif
 bif decide (x.fst = (8 : Int)) then true
 else
 decide
 (x.snd.snd.fst +
 ↑(hexLen
 (List.drop x.snd.snd.fst.toNat l)) =
 x.snd.snd.fst) then
 true
 else
 decide
 (x.snd.snd.fst + (4 : Int) <
 x.snd.snd.fst +
 ↑(hexLen
 (List.drop x.snd.snd.fst.toNat l)))) =
 false →
 upto x.snd.snd.fst
 (x.snd.snd.fst +
 ↑(hexLen
 (List.drop x.snd.snd.fst.toNat l)))
 (lenZ l) ∧
 ((cutZ l x.snd.snd.fst
 (x.snd.snd.fst +
 ↑(hexLen
 (List.drop x.snd.snd.fst.toNat l)))).length ≤
 (4 : Nat) ∧
 ∀ (i : Nat),
 i <
 (cutZ l x.snd.snd.fst
 (x.snd.snd.fst +
 ↑(hexLen
 (List.drop x.snd.snd.fst.toNat l)))).length →
 (0 : Int) ≤
 hexN
 (byt
 (cutZ l x.snd.snd.fst
 (x.snd.snd.fst +
 ↑(hexLen
 (List.drop x.snd.snd.fst.toNat l))))
 i)) ∧
 within x.fst ↑(8 : Nat) ∧
 (within x.fst ↑(8 : Nat) ∧ True) ∧
 inI64 (x.fst + (1 : Int)) ∧
 (decide
 (x.snd.snd.fst +
 ↑(hexLen
 (List.drop x.snd.snd.fst.toNat l)) =
 lenZ l) =
 true →
 ((bif decide (x.snd.fst < (0 : Int)) then
 decide (x.fst + (1 : Int) = (8 : Int))
 else false) =
 true →
 k
 (PV.tup
 [PV.arr (8 : Nat)
 (BRow.ints Go.IntKind.u16
 (setZ x.snd.snd.snd x.fst
 (hexW
 (cutZ l x.snd.snd.fst
 (x.snd.snd.fst +
 ↑(hexLen
 (List.drop x.snd.snd.fst.toNat
 l))))))),
 PV.bool true])) ∧
 ((bif decide (x.snd.fst < (0 : Int)) then
 decide (x.fst + (1 : Int) = (8 : Int))
 else false) =
 false →
 ((bif decide ((0 : Int) ≤ x.snd.fst) then
 decide (x.fst + (1 : Int) < (8 : Int))
 else false) =
 true →
 ((setZ x.snd.snd.snd x.fst
 (hexW
 (cutZ l x.snd.snd.fst
 (x.snd.snd.fst +
 ↑(hexLen
 (List.drop x.snd.snd.fst.toNat
 l)))))).length =
 (8 : Nat) ∧
 (0 : Int) ≤ x.snd.fst ∧
 x.snd.fst ≤ x.fst + (1 : Int) ∧
 x.fst + (1 : Int) ≤ (7 : Int)) ∧
 k
 (PV.tup
 [PV.arr (8 : Nat)
 (BRow.ints Go.IntKind.u16
 (spreadM
 (setZ x.snd.snd.snd x.fst
 (hexW
 (cutZ l x.snd.snd.fst
 (x.snd.snd.fst +
 ↑(hexLen
 (List.drop
 x.snd.snd.fst.toNat
 l))))))
 (x.fst + (1 : Int)).toNat
 x.snd.fst.toNat)),
 PV.bool true])) ∧
 ((bif decide ((0 : Int) ≤ x.snd.fst) then
 decide (x.fst + (1 : Int) < (8 : Int))
 else false) =
 false →
 k
 (PV.tup
 [PV.arr (8 : Nat)
 (BRow.ints Go.IntKind.u16
 (List.replicate (8 : Nat) (0 : Int))),
 PV.bool false])))) ∧
 (decide
 (x.snd.snd.fst +
 ↑(hexLen
 (List.drop x.snd.snd.fst.toNat l)) =
 lenZ l) =
 false →
 within
 (x.snd.snd.fst +
 ↑(hexLen
 (List.drop x.snd.snd.fst.toNat l)))
 (lenZ l) ∧
 ((!decide
 (byteZ l
 (x.snd.snd.fst +
 ↑(hexLen
 (List.drop x.snd.snd.fst.toNat l))) =
 (58 : Int))) =
 false →
 inI64
 (x.snd.snd.fst +
 ↑(hexLen
 (List.drop x.snd.snd.fst.toNat l)) +
 (1 : Int))) ∧
 ((bif
 !decide
 (byteZ l
 (x.snd.snd.fst +
 ↑(hexLen
 (List.drop x.snd.snd.fst.toNat
 l))) =
 (58 : Int)) then
 true
 else
 decide
 (x.snd.snd.fst +
 ↑(hexLen
 (List.drop x.snd.snd.fst.toNat l)) +
 (1 : Int) =
 lenZ l)) =
 true →
 k
 (PV.tup
 [PV.arr (8 : Nat)
 (BRow.ints Go.IntKind.u16
 (List.replicate (8 : Nat) (0 : Int))),
 PV.bool false])) ∧
 ((bif
 !decide
 (byteZ l
 (x.snd.snd.fst +
 ↑(hexLen
 (List.drop x.snd.snd.fst.toNat
 l))) =
 (58 : Int)) then
 true
 else
 decide
 (x.snd.snd.fst +
 ↑(hexLen
 (List.drop x.snd.snd.fst.toNat l)) +
 (1 : Int) =
 lenZ l)) =
 false →
 inI64
 (x.snd.snd.fst +
 ↑(hexLen
 (List.drop x.snd.snd.fst.toNat l)) +
 (1 : Int)) ∧
 within
 (x.snd.snd.fst +
 ↑(hexLen
 (List.drop x.snd.snd.fst.toNat l)) +
 (1 : Int))
 (lenZ l) ∧
 ((!decide
 (byteZ l
 (x.snd.snd.fst +
 ↑(hexLen
 (List.drop
 x.snd.snd.fst.toNat
 l)) +
 (1 : Int)) =
 (58 : Int))) =
 true →
 VS.mk []
 [((0 : Nat), PV.str l),
 ((2 : Nat),
 PV.ptr (34 : Nat)
 (0 : Nat)),
 ((3 : Nat), PV.bool false),
 ((4 : Nat),
 PV.ptr (36 : Nat)
 (0 : Nat)),
 ((5 : Nat),
 PV.int Go.IntKind.u32
 (0 : Int)),
 ((6 : Nat), PV.bool false),
 ((7 : Nat),
 PV.int Go.IntKind.i64
 (x.fst + (1 : Int))),
 ((8 : Nat),
 PV.int Go.IntKind.i64
 x.snd.fst),
 ((9 : Nat),
 PV.int Go.IntKind.i64
 (x.snd.snd.fst +
 ↑(hexLen
 (List.drop
 x.snd.snd.fst.toNat
 l)) +
 (1 : Int))),
 ((10 : Nat), PV.undef),
 ((13 : Nat), PV.undef),
 ((17 : Nat), PV.undef),
 ((30 : Nat), PV.undef),
 ((43 : Nat), PV.undef),
 ((56 : Nat), PV.undef),
 ((67 : Nat), PV.undef),
 ((73 : Nat), PV.undef),
 ((75 : Nat), PV.undef),
 ((82 : Nat), PV.undef),
 ((95 : Nat), PV.undef),
 ((113 : Nat), PV.undef),
 ((120 : Nat), PV.undef)]
 [((36 : Nat),
 PV.arr (8 : Nat)
 (BRow.ints Go.IntKind.u16
 (setZ x.snd.snd.snd
 x.fst
 (hexW
 (cutZ l
 x.snd.snd.fst
 (x.snd.snd.fst +
 ↑(hexLen
 (List.drop
 x.snd.snd.fst.toNat
 l)))))))),
 ((34 : Nat),
 PV.arr (8 : Nat)
 (BRow.ints Go.IntKind.u16
 (List.replicate (8 : Nat)
 (0 : Int))))] =
 VS.mk []
 [((0 : Nat), PV.str l),
 ((2 : Nat),
 PV.ptr (34 : Nat)
 (0 : Nat)),
 ((3 : Nat), PV.bool false),
 ((4 : Nat),
 PV.ptr (36 : Nat)
 (0 : Nat)),
 ((5 : Nat),
 PV.int Go.IntKind.u32
 (0 : Int)),
 ((6 : Nat), PV.bool false),
 ((7 : Nat),
 PV.int Go.IntKind.i64
 (x.fst + (1 : Int))),
 ((8 : Nat),
 PV.int Go.IntKind.i64
 x.snd.fst),
 ((9 : Nat),
 PV.int Go.IntKind.i64
 (x.snd.snd.fst +
 ↑(hexLen
 (List.drop
 x.snd.snd.fst.toNat
 l)) +
 (1 : Int))),
 ((10 : Nat), PV.undef),
 ((13 : Nat), PV.undef),
 ((17 : Nat), PV.undef),
 ((30 : Nat), PV.undef),
 ((43 : Nat), PV.undef),
 ((56 : Nat), PV.undef),
 ((67 : Nat), PV.undef),
 ((73 : Nat), PV.undef),
 ((75 : Nat), PV.undef),
 ((82 : Nat), PV.undef),
 ((95 : Nat), PV.undef),
 ((113 : Nat), PV.undef),
 ((120 : Nat), PV.undef)]
 [((36 : Nat),
 PV.arr (8 : Nat)
 (BRow.ints Go.IntKind.u16
 (setZ x.snd.snd.snd
 x.fst
 (hexW
 (cutZ l
 x.snd.snd.fst
 (x.snd.snd.fst +
 ↑(hexLen
 (List.drop
 x.snd.snd.fst.toNat
 l)))))))),
 ((34 : Nat),
 PV.arr (8 : Nat)
 (BRow.ints Go.IntKind.u16
 (List.replicate (8 : Nat)
 (0 : Int))))] ∧
 (∃ (acc : List Int),
 x.fst + (1 : Int) = ↑acc.length ∧
 acc.length ≤ (8 : Nat) ∧
 setZ x.snd.snd.snd x.fst
 (hexW
 (cutZ l
 x.snd.snd.fst
 (x.snd.snd.fst +
 ↑(hexLen
 (List.drop
 x.snd.snd.fst.toNat
 l))))) =
 pad
 acc ∧
 (-1 : Int) ≤ x.snd.fst ∧
 x.snd.fst ≤
 x.fst + (1 : Int) ∧
 (0 : Int) ≤
 x.snd.snd.fst +
 ↑(hexLen
 (List.drop
 x.snd.snd.fst.toNat
 l)) +
 (1 : Int) ∧
 x.snd.snd.fst +
 ↑(hexLen
 (List.drop
 x.snd.snd.fst.toNat
 l)) +
 (1 : Int) ≤
 ↑(List.length l) ∧
 six1
 l
 ((9 : Nat) -
 acc.length)
 acc x.snd.fst
 (x.snd.snd.fst +
 ↑(hexLen
 (List.drop
 x.snd.snd.fst.toNat
 l)) +
 (1 :
 Int)).toNat =
 six
 l) ∧
 ((9 : Int) -
 (x.fst + (1 : Int))).toNat <
 ((9 : Int) - x.fst).toNat) ∧
 ((!decide
 (byteZ l
 (x.snd.snd.fst +
 ↑(hexLen
 (List.drop
 x.snd.snd.fst.toNat
 l)) +
 (1 : Int)) =
 (58 : Int))) =
 false →
 (decide ((0 : Int) ≤ x.snd.fst) = true →
 k
 (PV.tup
 [PV.arr (8 : Nat)
 (BRow.ints Go.IntKind.u16
 (List.replicate (8 : Nat)
 (0 : Int))),
 PV.bool false])) ∧
 (decide ((0 : Int) ≤ x.snd.fst) = false →
 inI64
 (x.snd.snd.fst +
 ↑(hexLen
 (List.drop
 x.snd.snd.fst.toNat
 l)) +
 (1 : Int) +
 (1 : Int)) ∧
 (decide
 (x.snd.snd.fst +
 ↑(hexLen
 (List.drop
 x.snd.snd.fst.toNat
 l)) +
 (1 : Int) +
 (1 : Int) <
 lenZ l) =
 true →
 VS.mk []
 [((0 : Nat),
 PV.str l),
 ((2 : Nat),
 PV.ptr (34 : Nat)
 (0 : Nat)),
 ((3 : Nat),
 PV.bool false),
 ((4 : Nat),
 PV.ptr (36 : Nat)
 (0 : Nat)),
 ((5 : Nat),
 PV.int
 Go.IntKind.u32
 (0 : Int)),
 ((6 : Nat),
 PV.bool false),
 ((7 : Nat),
 PV.int
 Go.IntKind.i64
 (x.fst + (1 : Int))),
 ((8 : Nat),
 PV.int
 Go.IntKind.i64
 (x.fst + (1 : Int))),
 ((9 : Nat),
 PV.int
 Go.IntKind.i64
 (x.snd.snd.fst +
 ↑(hexLen
 (List.drop
 x.snd.snd.fst.toNat
 l)) +
 (1 : Int) +
 (1 : Int))),
 ((10 : Nat),
 PV.undef),
 ((13 : Nat),
 PV.undef),
 ((17 : Nat),
 PV.undef),
 ((30 : Nat),
 PV.undef),
 ((43 : Nat),
 PV.undef),
 ((56 : Nat),
 PV.undef),
 ((67 : Nat),
 PV.undef),
 ((73 : Nat),
 PV.undef),
 ((75 : Nat),
 PV.undef),
 ((82 : Nat),
 PV.undef),
 ((95 : Nat),
 PV.undef),
 ((113 : Nat),
 PV.undef),
 ((120 : Nat),
 PV.undef)]
 [((36 : Nat),
 PV.arr (8 : Nat)
 (BRow.ints
 Go.IntKind.u16
 (setZ
 x.snd.snd.snd
 x.fst
 (hexW
 (cutZ l
 x.snd.snd.fst
 (x.snd.snd.fst +
 ↑(hexLen
 (List.drop
 x.snd.snd.fst.toNat
 l)))))))),
 ((34 : Nat),
 PV.arr (8 : Nat)
 (BRow.ints
 Go.IntKind.u16
 (List.replicate
 (8 : Nat)
 (0 : Int))))] =
 VS.mk []
 [((0 : Nat),
 PV.str l),
 ((2 : Nat),
 PV.ptr (34 : Nat)
 (0 : Nat)),
 ((3 : Nat),
 PV.bool false),
 ((4 : Nat),
 PV.ptr (36 : Nat)
 (0 : Nat)),
 ((5 : Nat),
 PV.int
 Go.IntKind.u32
 (0 : Int)),
 ((6 : Nat),
 PV.bool false),
 ((7 : Nat),
 PV.int
 Go.IntKind.i64
 (x.fst + (1 : Int))),
 ((8 : Nat),
 PV.int
 Go.IntKind.i64
 (x.fst + (1 : Int))),
 ((9 : Nat),
 PV.int
 Go.IntKind.i64
 (x.snd.snd.fst +
 ↑(hexLen
 (List.drop
 x.snd.snd.fst.toNat
 l)) +
 (1 : Int) +
 (1 : Int))),
 ((10 : Nat),
 PV.undef),
 ((13 : Nat),
 PV.undef),
 ((17 : Nat),
 PV.undef),
 ((30 : Nat),
 PV.undef),
 ((43 : Nat),
 PV.undef),
 ((56 : Nat),
 PV.undef),
 ((67 : Nat),
 PV.undef),
 ((73 : Nat),
 PV.undef),
 ((75 : Nat),
 PV.undef),
 ((82 : Nat),
 PV.undef),
 ((95 : Nat),
 PV.undef),
 ((113 : Nat),
 PV.undef),
 ((120 : Nat),
 PV.undef)]
 [((36 : Nat),
 PV.arr (8 : Nat)
 (BRow.ints
 Go.IntKind.u16
 (setZ
 x.snd.snd.snd
 x.fst
 (hexW
 (cutZ l
 x.snd.snd.fst
 (x.snd.snd.fst +
 ↑(hexLen
 (List.drop
 x.snd.snd.fst.toNat
 l)))))))),
 ((34 : Nat),
 PV.arr (8 : Nat)
 (BRow.ints
 Go.IntKind.u16
 (List.replicate
 (8 : Nat)
 (0 : Int))))] ∧
 (∃ (acc : List Int),
 x.fst + (1 : Int) =
 ↑acc.length ∧
 acc.length ≤ (8 : Nat) ∧
 setZ x.snd.snd.snd
 x.fst
 (hexW
 (cutZ l
 x.snd.snd.fst
 (x.snd.snd.fst +
 ↑(hexLen
 (List.drop
 x.snd.snd.fst.toNat
 l))))) =
 pad
 acc ∧
 (-1 : Int) ≤
 x.fst +
 (1 : Int) ∧
 x.fst + (1 : Int) ≤
 x.fst +
 (1 : Int) ∧
 (0 : Int) ≤
 x.snd.snd.fst +
 ↑(hexLen
 (List.drop
 x.snd.snd.fst.toNat
 l)) +
 (1 :
 Int) +
 (1 : Int) ∧
 x.snd.snd.fst +
 ↑(hexLen
 (List.drop
 x.snd.snd.fst.toNat
 l)) +
 (1 :
 Int) +
 (1 :
 Int) ≤
 ↑(List.length
 l) ∧
 six1
 l
 ((9 :
 Nat) -
 acc.length)
 acc
 (x.fst +
 (1 :
 Int))
 (x.snd.snd.fst +
 ↑(hexLen
 (List.drop
 x.snd.snd.fst.toNat
 l)) +
 (1 :
 Int) +
 (1 :
 Int)).toNat =
 six
 l) ∧
 ((9 : Int) -
 (x.fst +
 (1 : Int))).toNat <
 ((9 : Int) - x.fst).toNat) ∧
 (decide
 (x.snd.snd.fst +
 ↑(hexLen
 (List.drop
 x.snd.snd.fst.toNat
 l)) +
 (1 : Int) +
 (1 : Int) <
 lenZ l) =
 false →
 ((bif
 decide
 (x.fst + (1 : Int) <
 (0 : Int)) then
 decide
 (x.fst + (1 : Int) =
 (8 : Int))
 else false) =
 true →
 k
 (PV.tup
 [PV.arr (8 : Nat)
 (BRow.ints
 Go.IntKind.u16
 (setZ
 x.snd.snd.snd
 x.fst
 (hexW
 (cutZ l
 x.snd.snd.fst
 (x.snd.snd.fst +
 ↑(hexLen
 (List.drop
 x.snd.snd.fst.toNat
 l))))))),
 PV.bool true])) ∧
 ((bif
 decide
 (x.fst + (1 : Int) <
 (0 : Int)) then
 decide
 (x.fst + (1 : Int) =
 (8 : Int))
 else false) =
 false →
 ((bif
 decide
 ((0 : Int) ≤
 x.fst +
 (1 :
 Int)) then
 decide
 (x.fst + (1 : Int) <
 (8 : Int))
 else false) =
 true →
 ((setZ x.snd.snd.snd
 x.fst
 (hexW
 (cutZ l
 x.snd.snd.fst
 (x.snd.snd.fst +
 ↑(hexLen
 (List.drop
 x.snd.snd.fst.toNat
 l)))))).length =
 (8 : Nat) ∧
 (0 : Int) ≤
 x.fst +
 (1 : Int) ∧
 x.fst + (1 : Int) ≤
 x.fst +
 (1 : Int) ∧
 x.fst +
 (1 : Int) ≤
 (7 : Int)) ∧
 k
 (PV.tup
 [PV.arr
 (8 : Nat)
 (BRow.ints
 Go.IntKind.u16
 (spreadM
 (setZ
 x.snd.snd.snd
 x.fst
 (hexW
 (cutZ
 l
 x.snd.snd.fst
 (x.snd.snd.fst +
 ↑(hexLen
 (List.drop
 x.snd.snd.fst.toNat
 l))))))
 (x.fst +
 (1 :
 Int)).toNat
 (x.fst +
 (1 :
 Int)).toNat)),
 PV.bool
 true])) ∧
 ((bif
 decide
 ((0 : Int) ≤
 x.fst +
 (1 :
 Int)) then
 decide
 (x.fst + (1 : Int) <
 (8 : Int))
 else false) =
 false →
 k
 (PV.tup
 [PV.arr
 (8 : Nat)
 (BRow.ints
 Go.IntKind.u16
 (List.replicate
 (8 : Nat)
 (0 : Int))),
 PV.bool
 false]))))))))))) ∧
 (decide
 ((2 : Int) + ↑(hexLen (List.drop (Int.toNat (2 : Int)) l)) +
 (1 : Int) +
 (1 : Int) <
 lenZ l) =
 false →
 (false = true →
 k
 (PV.tup
 [PV.arr (8 : Nat)
 (BRow.ints Go.IntKind.u16
 (setZ (List.replicate (8 : Nat) (0 : Int)) (0 : Int)
 (hexW
 (cutZ l (2 : Int)
 ((2 : Int) +
 ↑(hexLen
 (List.drop (Int.toNat (2 : Int)) l))))))),
 PV.bool true])) ∧
 (false = false →
 (decide ((0 : Int) + (1 : Int) < (8 : Int)) = true →
 ((setZ (List.replicate (8 : Nat) (0 : Int)) (0 : Int)
 (hexW
 (cutZ l (2 : Int)
 ((2 : Int) +
 ↑(hexLen
 (List.drop (Int.toNat (2 : Int)) l)))))).length =
 (8 : Nat) ∧
 (0 : Int) ≤ (0 : Int) + (1 : Int) ∧
 (0 : Int) + (1 : Int) ≤ (0 : Int) + (1 : Int) ∧
 (0 : Int) + (1 : Int) ≤ (7 : Int)) ∧
 k
 (PV.tup
 [PV.arr (8 : Nat)
 (BRow.ints Go.IntKind.u16
 (spreadM
 (setZ (List.replicate (8 : Nat) (0 : Int)) (0 : Int)
 (hexW
 (cutZ l (2 : Int)
 ((2 : Int) +
 ↑(hexLen
 (List.drop (Int.toNat (2 : Int)) l))))))
 ((0 : Int) + (1 : Int)).toNat ((0 : Int) + (1 : Int)).toNat)),
 PV.bool true])) ∧
 (decide ((0 : Int) + (1 : Int) < (8 : Int)) = false →
 k
 (PV.tup
 [PV.arr (8 : Nat)
 (BRow.ints Go.IntKind.u16 (List.replicate (8 : Nat) (0 : Int))),
 PV.bool false]))))))))))))) := by kernel_rfl
attribute [local irreducible] Go.Vc.evF
theorem ok_parse6 (l : Bs) : FuncOk Tryd.prog noT 22 [.str l] ⟨l.length ≤ 1000000, .tup [.arr 8 (.ints .u16 (six l).1), .bool (six l).2]⟩ := evF_ok (by kernel_rfl) X_parse6_ok (H := H_parse6 l) (fuel := 1000) Tryd.func22 (by kernel_rfl) fun hpre => (vc_parse6 l _).mpr (by
  refine ⟨trivial, fun hp => ⟨rfl, ⟨[], rfl, by decide, rfl, by omega, by omega, by omega, by omega, ?_⟩, fun x hx => ?_⟩, fun hp => ⟨fun h2 => ?_, fun h2 => ?_⟩⟩
  · rw [notB6] at hp
    have hp2 : ¬ Lib.hasPrefix l [58, 58] = true := hp
    show six1 l 9 [] (-1) 0 = six l
    unfold six
    rw [if_neg hp2]
  · obtain ⟨c, g, a, p⟩ := x
    obtain ⟨acc, hC, h8, hp', g1, g2, a0, a1, hs⟩ := hx
    dsimp only at hC hp' g1 g2 a0 a1 hs
    subst hC hp'
    obtain ⟨i, rfl⟩ := Int.eq_ofNat_of_zero_le a0
    rw [Int.toNat_natCast] at hs
    have hE : (i : Int) + ((hexLen (l.drop ((i : Int).toNat)) : Nat) : Int) = ((i + hexLen (l.drop i) : Nat) : Int) := by rw [Int.toNat_natCast]; push_cast; rfl
    refine body6_ok (fun v => v = .tup [.arr 8 (.ints .u16 (six l).1), .bool (six l).2]) _ _ l g i (i + hexLen (l.drop i)) acc (six l) hpre h8 g1 g2 (by omega) rfl hs rfl (fun a h1 h2 h3 h4 h5 => ?_) (fun a h1 h2 h3 h4 h5 => ?_)
    · exact ⟨rfl, ⟨a, by rw [h1]; push_cast; rfl, h3, by rw [hE]; exact h2, g1, by dsimp only; omega, by dsimp only; omega, by dsimp only; rw [hE]; omega, by rw [hE, show ((i + hexLen (l.drop i) : Nat) : Int) + 1 = ((i + hexLen (l.drop i) + 1 : Nat) : Int) by push_cast; rfl, Int.toNat_natCast]; exact h5⟩, by dsimp only; omega⟩
    · exact ⟨rfl, ⟨a, by rw [h1]; push_cast; rfl, h3, by rw [hE]; exact h2, by dsimp only; omega, by dsimp only; omega, by dsimp only; omega, by dsimp only; rw [hE]; omega, by rw [hE, show ((i + hexLen (l.drop i) : Nat) : Int) + 1 + 1 = ((i + hexLen (l.drop i) + 2 : Nat) : Int) by push_cast; omega, Int.toNat_natCast]; exact h5⟩, by dsimp only; omega⟩
  · have hp2 : Lib.hasPrefix l [58, 58] = true := by
      have hp3 : (!Lib.hasPrefix l [58, 58]) = false := hp
      rw [Bool.not_eq_false'] at hp3
      exact hp3
    have h3 : l.length = 2 := by have h4 : (2 : Int) = (l.length : Int) := of_decide_eq_true h2; omega
    have h5 : six l = (spreadM (pad []) 0 0, true) := by unfold six; rw [if_pos hp2, if_pos h3]; rfl
    refine ⟨(fun h => by cases h), fun _ => ⟨fun _ => ⟨⟨rfl, by omega, by omega, by omega⟩, ?_⟩, (fun h => by cases h)⟩⟩
    show PV.tup _ = PV.tup _
    rw [h5]
    rfl
  · have hp2 : Lib.hasPrefix l [58, 58] = true := by
      have hp3 : (!Lib.hasPrefix l [58, 58]) = false := hp
      rw [Bool.not_eq_false'] at hp3
      exact hp3
    have h3 : ¬ l.length = 2 := by have h4 : ¬ (2 : Int) = (l.length : Int) := of_decide_eq_false h2; omega
    have h5 : six1 l 9 [] 0 2 = six l := by unfold six; rw [if_pos hp2, if_neg h3]
    have h6 : 2 ≤ l.length := pre_len hp2
    refine body6_ok (fun v => v = .tup [.arr 8 (.ints .u16 (six l).1), .bool (six l).2]) _ _ l 0 2 (2 + hexLen (l.drop 2)) [] (six l) hpre (by decide) (by omega) (by simp) h6 rfl h5 rfl (fun a h1 h2 h3 h4 h5 => ?_) (fun a h1 h2 h3 h4 h5 => ?_)
    · refine ⟨rfl, ⟨a, by rw [h1]; rfl, h3, h2, by omega, by omega, by omega, by show (2 : Int) + ((hexLen (l.drop 2) : Nat) : Int) + 1 ≤ _; omega, ?_⟩, fun x hx => ?_⟩
      · rw [show ((2 : Int) + ((hexLen (l.drop (Int.toNat 2)) : Nat) : Int) + 1).toNat = 2 + hexLen (l.drop 2) + 1 by show ((2 : Int) + ((hexLen (l.drop 2) : Nat) : Int) + 1).toNat = _; omega]
        exact h5
      · obtain ⟨c, g, a, p⟩ := x
        obtain ⟨acc, hC, h8, hp', g1, g2, a0, a1, hs⟩ := hx
        dsimp only at hC hp' g1 g2 a0 a1 hs
        subst hC hp'
        obtain ⟨i, rfl⟩ := Int.eq_ofNat_of_zero_le a0
        rw [Int.toNat_natCast] at hs
        have hE : (i : Int) + ((hexLen (l.drop ((i : Int).toNat)) : Nat) : Int) = ((i + hexLen (l.drop i) : Nat) : Int) := by rw [Int.toNat_natCast]; push_cast; rfl
        refine body6_ok (fun v => v = .tup [.arr 8 (.ints .u16 (six l).1), .bool (six l).2]) _ _ l g i (i + hexLen (l.drop i)) acc (six l) hpre h8 g1 g2 (by omega) rfl hs rfl (fun a h1 h2 h3 h4 h5 => ?_) (fun a h1 h2 h3 h4 h5 => ?_)
        · exact ⟨rfl, ⟨a, by rw [h1]; push_cast; rfl, h3, by rw [hE]; exact h2, g1, by dsimp only; omega, by dsimp only; omega, by dsimp only; rw [hE]; omega, by rw [hE, show ((i + hexLen (l.drop i) : Nat) : Int) + 1 = ((i + hexLen (l.drop i) + 1 : Nat) : Int) by push_cast; rfl, Int.toNat_natCast]; exact h5⟩, by dsimp only; omega⟩
        · exact ⟨rfl, ⟨a, by rw [h1]; push_cast; rfl, h3, by rw [hE]; exact h2, by dsimp only; omega, by dsimp only; omega, by dsimp only; omega, by dsimp only; rw [hE]; omega, by rw [hE, show ((i + hexLen (l.drop i) : Nat) : Int) + 1 + 1 = ((i + hexLen (l.drop i) + 2 : Nat) : Int) by push_cast; omega, Int.toNat_natCast]; exact h5⟩, by dsimp only; omega⟩
    · refine ⟨rfl, ⟨a, by rw [h1]; rfl, h3, h2, by omega, by omega, by omega, by show (2 : Int) + ((hexLen (l.drop 2) : Nat) : Int) + 1 + 1 ≤ _; omega, ?_⟩, fun x hx => ?_⟩
      · rw [show ((2 : Int) + ((hexLen (l.drop (Int.toNat 2)) : Nat) : Int) + 1 + 1).toNat = 2 + hexLen (l.drop 2) + 2 by show ((2 : Int) + ((hexLen (l.drop 2) : Nat) : Int) + 1 + 1).toNat = _; omega]
        exact h5
      · obtain ⟨c, g, a, p⟩ := x
        obtain ⟨acc, hC, h8, hp', g1, g2, a0, a1, hs⟩ := hx
        dsimp only at hC hp' g1 g2 a0 a1 hs
        subst hC hp'
        obtain ⟨i, rfl⟩ := Int.eq_ofNat_of_zero_le a0
        rw [Int.toNat_natCast] at hs
        have hE : (i : Int) + ((hexLen (l.drop ((i : Int).toNat)) : Nat) : Int) = ((i + hexLen (l.drop i) : Nat) : Int) := by rw [Int.toNat_natCast]; push_cast; rfl
        refine body6_ok (fun v => v = .tup [.arr 8 (.ints .u16 (six l).1), .bool (six l).2]) _ _ l g i (i + hexLen (l.drop i)) acc (six l) hpre h8 g1 g2 (by omega) rfl hs rfl (fun a h1 h2 h3 h4 h5 => ?_) (fun a h1 h2 h3 h4 h5 => ?_)
        · exact ⟨rfl, ⟨a, by rw [h1]; push_cast; rfl, h3, by rw [hE]; exact h2, g1, by dsimp only; omega, by dsimp only; omega, by dsimp only; rw [hE]; omega, by rw [hE, show ((i + hexLen (l.drop i) : Nat) : Int) + 1 = ((i + hexLen (l.drop i) + 1 : Nat) : Int) by push_cast; rfl, Int.toNat_natCast]; exact h5⟩, by dsimp only; omega⟩
        · exact ⟨rfl, ⟨a, by rw [h1]; push_cast; rfl, h3, by rw [hE]; exact h2, by dsimp only; omega, by dsimp only; omega, by dsimp only; omega, by dsimp only; rw [hE]; omega, by rw [hE, show ((i + hexLen (l.drop i) : Nat) : Int) + 1 + 1 = ((i + hexLen (l.drop i) + 2 : Nat) : Int) by push_cast; omega, Int.toNat_natCast]; exact h5⟩, by dsimp only; omega⟩)
def ent_parse6 : List PV → Option CallR := fun xs => match xs with
  | [.str l] => some ⟨l.length ≤ 1000000, .tup [.arr 8 (.ints .u16 (six l).1), .bool (six l).2]⟩
  | _ => none
theorem ent_parse6_ok : ∀ xs c, ent_parse6 xs = some c → FuncOk Tryd.prog noT 22 xs c := fun xs c h => by
  unfold ent_parse6 at h
  split at h
  · injection h with h; subst h; exact ok_parse6 _
  · cases h
end Go.Proofs.YtjljhkjpogjdhaaDoor
end
/- The function gossamer/ascii.Digit does what is told of it. -/
section
set_option linter.unusedVariables false
set_option linter.unusedSimpArgs false
set_option maxRecDepth 100000
set_option maxHeartbeats 4000000
namespace Go.Proofs.YtjljhkjpogjdhaaDoor
open Go Go.Proofs Go.RowKit Go.Vc

def X_digit : Tbl := tblX []
def H_digit (z : Int) : Loops := fun i => none
theorem X_digit_ok : XOk Tryd.prog noT X_digit := tblX_nil
theorem vc_digit (z : Int) (k : PV → Prop) : evF Tryd.prog X_digit noT (H_digit z) 1000 Tryd.f61 [.int .u8 z] k = (
  k (PV.bool (bif decide ((48 : Int) ≤ z) then decide (z ≤ (57 : Int)) else false))) := by kernel_rfl
attribute [local irreducible] Go.Vc.evF
theorem ok_digit (z : Int) : FuncOk Tryd.prog noT 61 [.int .u8 z] ⟨True, .bool (decide (48 ≤ z ∧ z ≤ 57))⟩ := evF_ok (by kernel_rfl) X_digit_ok (H := H_digit z) (fuel := 1000) Tryd.func61 (by kernel_rfl) fun hpre => (vc_digit z _).mpr (by
  show PV.bool _ = PV.bool _
  congr 1
  by_cases h : 48 ≤ z <;> simp [h])
def ent_digit : List PV → Option CallR := fun xs => match xs with
  | [.int .u8 z] => some ⟨True, .bool (decide (48 ≤ z ∧ z ≤ 57))⟩
  | _ => none
theorem ent_digit_ok : ∀ xs c, ent_digit xs = some c → FuncOk Tryd.prog noT 61 xs c := fun xs c h => by
  unfold ent_digit at h
  split at h
  · injection h with h; subst h; exact ok_digit _
  · cases h
end Go.Proofs.YtjljhkjpogjdhaaDoor
end
/- The function gossamer/ascii.Hex does what is told of it. -/
section
set_option linter.unusedVariables false
set_option linter.unusedSimpArgs false
set_option maxRecDepth 100000
set_option maxHeartbeats 4000000
namespace Go.Proofs.YtjljhkjpogjdhaaDoor
open Go Go.Proofs Go.RowKit Go.Vc

theorem i64_lt' {n : Nat} {i : Int} (h : decide (i < (n : Int)) = true) : i < n := of_decide_eq_true h
def hxZ (z : Int) : Int := if 48 ≤ z ∧ z ≤ 57 then z - 48 else if 97 ≤ z ∧ z ≤ 102 then z - 87 else if 65 ≤ z ∧ z ≤ 70 then z - 55 else -1

def X_hex : Tbl := tblX [(61, ent_digit)]
def H_hex (z : Int) : Loops := fun i => none
theorem X_hex_ok : XOk Tryd.prog noT X_hex := tblX_cons ent_digit_ok (tblX_nil)
theorem vc_hex (z : Int) (k : PV → Prop) : evF Tryd.prog X_hex noT (H_hex z) 1000 Tryd.f41 [.int .u8 z] k = (
  True ∧
 (decide ((48 : Int) ≤ z ∧ z ≤ (57 : Int)) = true → k (PV.int Go.IntKind.i64 (Go.IntKind.i64.wrap (Go.IntKind.u8.wrap (z - (48 : Int)))))) ∧
 (decide ((48 : Int) ≤ z ∧ z ≤ (57 : Int)) = false →
 ((bif decide ((97 : Int) ≤ z) then decide (z ≤ (102 : Int)) else false) = true →
 inI64 (Go.IntKind.i64.wrap (Go.IntKind.u8.wrap (z - (97 : Int))) + (10 : Int)) ∧
 k (PV.int Go.IntKind.i64 (Go.IntKind.i64.wrap (Go.IntKind.u8.wrap (z - (97 : Int))) + (10 : Int)))) ∧
 ((bif decide ((97 : Int) ≤ z) then decide (z ≤ (102 : Int)) else false) = false →
 ((bif decide ((65 : Int) ≤ z) then decide (z ≤ (70 : Int)) else false) = true →
 inI64 (Go.IntKind.i64.wrap (Go.IntKind.u8.wrap (z - (65 : Int))) + (10 : Int)) ∧
 k (PV.int Go.IntKind.i64 (Go.IntKind.i64.wrap (Go.IntKind.u8.wrap (z - (65 : Int))) + (10 : Int)))) ∧
 ((bif decide ((65 : Int) ≤ z) then decide (z ≤ (70 : Int)) else false) = false → k (PV.int Go.IntKind.i64 (-1 : Int)))))) := by kernel_rfl
attribute [local irreducible] Go.Vc.evF
theorem ok_hex (z : Int) : FuncOk Tryd.prog noT 41 [.int .u8 z] ⟨0 ≤ z ∧ z ≤ 255, .int .i64 (hxZ z)⟩ := evF_ok (by kernel_rfl) X_hex_ok (H := H_hex z) (fuel := 1000) Tryd.func41 (by kernel_rfl) fun hpre => (vc_hex z _).mpr (by
  have w8 : ∀ a : Int, 0 ≤ a ∧ a ≤ 15 → IntKind.u8.wrap a = a := fun a h => IntWalk.u8_in _ (by omega)
  have w64 : ∀ a : Int, 0 ≤ a ∧ a ≤ 15 → IntKind.i64.wrap a = a := fun a h => IntWalk.i64_in _ (by omega)
  have yes : ∀ a b : Int, (bif decide (a ≤ z) then decide (z ≤ b) else false) = true → a ≤ z ∧ z ≤ b := fun a b h => by
    cases e : decide (a ≤ z) with
    | false => rw [e] at h; cases h
    | true => rw [e] at h; exact ⟨of_decide_eq_true e, of_decide_eq_true h⟩
  have no : ∀ a b : Int, (bif decide (a ≤ z) then decide (z ≤ b) else false) = false → ¬ (a ≤ z ∧ z ≤ b) := fun a b h g => by
    rw [decide_eq_true g.1, decide_eq_true g.2] at h
    cases h
  refine ⟨trivial, fun h => ?_, fun h => ⟨fun h2 => ?_, fun h2 => ⟨fun h3 => ?_, fun h3 => ?_⟩⟩⟩
  · have h1 := of_decide_eq_true h
    rw [w8 _ (by omega), w64 _ (by omega)]
    unfold hxZ; rw [if_pos h1]
  · have h1 := of_decide_eq_false h
    have h4 := yes _ _ h2
    rw [w8 _ (by omega), w64 _ (by omega)]
    refine ⟨by unfold inI64; omega, ?_⟩
    unfold hxZ; rw [if_neg h1, if_pos h4]; congr 1; omega
  · have h1 := of_decide_eq_false h
    have h5 := no _ _ h2
    have h4 := yes _ _ h3
    rw [w8 _ (by omega), w64 _ (by omega)]
    refine ⟨by unfold inI64; omega, ?_⟩
    unfold hxZ; rw [if_neg h1, if_neg h5, if_pos h4]; congr 1; omega
  · have h1 := of_decide_eq_false h
    unfold hxZ; rw [if_neg h1, if_neg (no _ _ h2), if_neg (no _ _ h3)])
def ent_hex : List PV → Option CallR := fun xs => match xs with
  | [.int .u8 z] => some ⟨0 ≤ z ∧ z ≤ 255, .int .i64 (hxZ z)⟩
  | _ => none
theorem ent_hex_ok : ∀ xs c, ent_hex xs = some c → FuncOk Tryd.prog noT 41 xs c := fun xs c h => by
  unfold ent_hex at h
  split at h
  · injection h with h; subst h; exact ok_hex _
  · cases h
end Go.Proofs.YtjljhkjpogjdhaaDoor
end
/- The function gossamer/pct.Decode does what is told of it. -/
section
set_option linter.unusedVariables false
set_option linter.unusedSimpArgs false
set_option maxRecDepth 100000
set_option maxHeartbeats 4000000
namespace Go.Proofs.YtjljhkjpogjdhaaDoor
open Go Go.Proofs Go.RowKit Go.Vc

def decP : Bs → Bs
  | [] => []
  | b :: r => match r with
    | h :: g :: t => if b.toNat = 37 ∧ 0 ≤ hxZ h.toNat ∧ 0 ≤ hxZ g.toNat then zByte (hxZ h.toNat * 16 + hxZ g.toNat) :: decP t else b :: decP (h :: g :: t)
    | [h] => [b, h]
    | [] => [b]
theorem decP_cons (b : UInt8) (r : Bs) : decP (b :: r) = if b.toNat = 37 ∧ 2 ≤ r.length ∧ 0 ≤ hxZ (byt r 0) ∧ 0 ≤ hxZ (byt r 1) then zByte (hxZ (byt r 0) * 16 + hxZ (byt r 1)) :: decP (r.drop 2) else b :: decP r := by
  match r with
  | [] => rw [if_neg (fun h => by have := h.2.1; simp at this)]; rfl
  | [h] => rw [if_neg (fun h => by have := h.2.1; simp at this)]; rfl
  | h :: g :: t =>
    show (if b.toNat = 37 ∧ 0 ≤ hxZ h.toNat ∧ 0 ≤ hxZ g.toNat then zByte (hxZ h.toNat * 16 + hxZ g.toNat) :: decP t else b :: decP (h :: g :: t)) = _
    have e0 : byt (h :: g :: t) 0 = (h.toNat : Int) := rfl
    have e1 : byt (h :: g :: t) 1 = (g.toNat : Int) := rfl
    rw [e0, e1]
    by_cases hc : b.toNat = 37 ∧ 0 ≤ hxZ h.toNat ∧ 0 ≤ hxZ g.toNat
    · rw [if_pos hc, if_pos ⟨hc.1, by simp, hc.2.1, hc.2.2⟩]; rfl
    · rw [if_neg hc, if_neg (fun h => hc ⟨h.1, h.2.2.1, h.2.2.2⟩)]
theorem hxZ_le (z : Int) : hxZ z ≤ 15 := by unfold hxZ; repeat' split; all_goals omega
theorem or_hex {h g : Int} (h0 : 0 ≤ h) (h1 : h ≤ 15) (g0 : 0 ≤ g) (g1 : g ≤ 15) : IntKind.u8.wrap (bitsZ .or .i64 (shlZ .i64 h 4) g) = h * 16 + g := by
  have key : ∀ a b : Fin 16, IntKind.u8.wrap (bitsZ .or .i64 (shlZ .i64 (a.val : Int) 4) (b.val : Int)) = (a.val : Int) * 16 + (b.val : Int) := by decide +kernel
  have := key ⟨h.toNat, by omega⟩ ⟨g.toNat, by omega⟩
  dsimp only at this
  rw [show ((h.toNat : Nat) : Int) = h by omega, show ((g.toNat : Nat) : Int) = g by omega] at this
  exact this
theorem byZ_at (l : Bs) (j : Nat) : byteZ l (j : Int) = byt l j := rfl
theorem drop_byt (l : Bs) (j : Nat) (h : j < l.length) : l.drop j = zByte (byt l j) :: l.drop (j + 1) := by
  rw [List.drop_eq_getElem_cons h]
  congr 1
  show _ = zByte (byteZ l (j : Int))
  rw [zByte_byteZ]
  rw [List.getD_eq_getElem?_getD, Int.toNat_natCast, List.getElem?_eq_getElem h]; rfl
theorem byt_drop' (l : Bs) (i j : Nat) : byt (l.drop i) j = byt l (i + j) := by unfold byt; rw [List.getD_eq_getElem?_getD, List.getD_eq_getElem?_getD, List.getElem?_drop]
theorem zB_nat {b : Int} (h0 : 0 ≤ b) (h1 : b ≤ 255) : (((zByte b).toNat : Nat) : Int) = b := by
  unfold zByte
  rw [show (UInt8.ofNat b.toNat).toNat = b.toNat % 256 from UInt8.toNat_ofNat' ..]
  omega
theorem byt_range (l : Bs) (j : Nat) : 0 ≤ byt l j ∧ byt l j ≤ 255 := byteZ_range l (j : Int)
theorem decP_at (l : Bs) (j : Nat) (h : j < l.length) : decP (l.drop j) = if byt l j = 37 ∧ j + 2 < l.length ∧ 0 ≤ hxZ (byt l (j + 1)) ∧ 0 ≤ hxZ (byt l (j + 2)) then zByte (hxZ (byt l (j + 1)) * 16 + hxZ (byt l (j + 2))) :: decP (l.drop (j + 3)) else zByte (byt l j) :: decP (l.drop (j + 1)) := by
  have hr := byt_range l j
  have e : ((zByte (byt l j)).toNat = 37) ↔ byt l j = 37 := by have := zB_nat hr.1 hr.2; omega
  rw [drop_byt l j h, decP_cons, byt_drop', byt_drop', List.length_drop, List.drop_drop]
  by_cases hc : byt l j = 37 ∧ j + 2 < l.length ∧ 0 ≤ hxZ (byt l (j + 1)) ∧ 0 ≤ hxZ (byt l (j + 2))
  · rw [if_pos hc, if_pos ⟨e.2 hc.1, by omega, hc.2.2.1, hc.2.2.2⟩]
  · rw [if_neg hc, if_neg (fun g => hc ⟨e.1 g.1, by omega, g.2.2.1, g.2.2.2⟩)]
def DecI (l : Bs) (o : Bool × Bs) (i : Int) : Prop := ∃ j : Nat, i = j ∧ j ≤ l.length ∧ o.1 = false ∧ o.2 ++ decP (l.drop j) = decP l ∧ o.2.length ≤ j

def X_pdec : Tbl := tblX [(41, ent_hex)]
def H_pdec (l : Bs) : Loops := fun i => bif Nat.beq i 3 then some ⟨(Bool × Bs) × (Int), (fun s x => (((((((s.row s 3 x.1.1 (.bytes x.1.2)).put 4 (.int .i64 x.2)).put 5 .undef).put 6 .undef).put 13 .undef).put 26 .undef).put 42 .undef)), (fun s => ((s.nil 3, s.bytes 3), s.int 4)), (fun s x => let b := x.1; let i := x.2; DecI l b i), (fun s x => let b := x.1; let i := x.2; ((l.length : Int) - i).toNat), [5, 6, 13, 26, 42]⟩ else none
theorem X_pdec_ok : XOk Tryd.prog noT X_pdec := tblX_cons ent_hex_ok (tblX_nil)
theorem vc_pdec (l : Bs) (k : PV → Prop) : evF Tryd.prog X_pdec noT (H_pdec l) 1000 Tryd.f24 [.str l] k = (
  ((0 : Int) ≤ (0 : Int) ∧ (0 : Int) ≤ lenZ l ∧ lenZ l ≤ maxRow) ∧
 VS.mk []
 [(nat_lit 0, PV.str l), (nat_lit 2, PV.row true (BRow.bytes []) ((2 : Nat) + (32 : Nat))),
 (nat_lit 3, PV.row false (BRow.bytes (List.replicate (Int.toNat (0 : Int)) (0 : UInt8))) ((9 : Nat) + (32 : Nat))),
 (nat_lit 4, PV.int Go.IntKind.i64 (0 : Int)), ((5 : Nat), PV.undef), ((6 : Nat), PV.undef), ((13 : Nat), PV.undef),
 ((26 : Nat), PV.undef), ((42 : Nat), PV.undef)]
 [] =
 VS.mk []
 [(nat_lit 0, PV.str l), (nat_lit 2, PV.row true (BRow.bytes []) ((2 : Nat) + (32 : Nat))),
 ((3 : Nat), PV.row false (BRow.bytes (List.replicate (Int.toNat (0 : Int)) (0 : UInt8))) ((9 : Nat) + (32 : Nat))),
 ((4 : Nat), PV.int Go.IntKind.i64 (0 : Int)), ((5 : Nat), PV.undef), ((6 : Nat), PV.undef), ((13 : Nat), PV.undef),
 ((26 : Nat), PV.undef), ((42 : Nat), PV.undef)]
 [] ∧
 DecI l (false, List.replicate (Int.toNat (0 : Int)) (0 : UInt8)) (0 : Int) ∧
 ∀ (x : (Bool × Bs) × Int),
 DecI l x.fst x.snd →
 (decide (x.snd < lenZ l) = true →
 within x.snd (lenZ l) ∧
 (decide (byteZ l x.snd = (37 : Int)) = true → inI64 (x.snd + (2 : Int))) ∧
 ((bif decide (byteZ l x.snd = (37 : Int)) then decide (x.snd + (2 : Int) < lenZ l) else false) = true →
 inI64 (x.snd + (1 : Int)) ∧
 within (x.snd + (1 : Int)) (lenZ l) ∧
 ((0 : Int) ≤ byteZ l (x.snd + (1 : Int)) ∧ byteZ l (x.snd + (1 : Int)) ≤ (255 : Int)) ∧
 inI64 (x.snd + (2 : Int)) ∧
 within (x.snd + (2 : Int)) (lenZ l) ∧
 ((0 : Int) ≤ byteZ l (x.snd + (2 : Int)) ∧ byteZ l (x.snd + (2 : Int)) ≤ (255 : Int)) ∧
 ((bif decide ((0 : Int) ≤ hxZ (byteZ l (x.snd + (1 : Int)))) then
 decide ((0 : Int) ≤ hxZ (byteZ l (x.snd + (2 : Int))))
 else false) =
 true →
 (0 : Int) ≤ (4 : Int) ∧
 allU8
 [PV.int Go.IntKind.u8
 (Go.IntKind.u8.wrap
 (bitsZ Go.BinOp.or Go.IntKind.i64
 (shlZ Go.IntKind.i64 (hxZ (byteZ l (x.snd + (1 : Int))))
 (4 : Int))
 (hxZ (byteZ l (x.snd + (2 : Int))))))] ∧
 Int.ofNat
 (List.length
 (x.fst.snd ++
 [zByte
 (Go.IntKind.u8.wrap
 (bitsZ Go.BinOp.or Go.IntKind.i64
 (shlZ Go.IntKind.i64 (hxZ (byteZ l (x.snd + (1 : Int))))
 (4 : Int))
 (hxZ (byteZ l (x.snd + (2 : Int))))))])) ≤
 maxRow ∧
 inI64 (x.snd + (2 : Int)) ∧
 inI64 (x.snd + (2 : Int) + (1 : Int)) ∧
 VS.mk []
 [(nat_lit 0, PV.str l),
 (nat_lit 2, PV.row true (BRow.bytes []) ((2 : Nat) + (32 : Nat))),
 ((3 : Nat),
 PV.row false
 (BRow.bytes
 (x.fst.snd ++
 [zByte
 (Go.IntKind.u8.wrap
 (bitsZ Go.BinOp.or Go.IntKind.i64
 (shlZ Go.IntKind.i64
 (hxZ (byteZ l (x.snd + (1 : Int)))) (4 : Int))
 (hxZ (byteZ l (x.snd + (2 : Int))))))]))
 (nat_lit 40 + (1 : Nat))),
 ((4 : Nat), PV.int Go.IntKind.i64 (x.snd + (2 : Int) + (1 : Int))), ((5 : Nat), PV.undef),
 ((6 : Nat), PV.undef), ((13 : Nat), PV.undef), ((26 : Nat), PV.undef),
 ((42 : Nat), PV.undef)]
 [] =
 VS.mk []
 [(nat_lit 0, PV.str l),
 (nat_lit 2, PV.row true (BRow.bytes []) ((2 : Nat) + (32 : Nat))),
 ((3 : Nat),
 PV.row false
 (BRow.bytes
 (x.fst.snd ++
 [zByte
 (Go.IntKind.u8.wrap
 (bitsZ Go.BinOp.or Go.IntKind.i64
 (shlZ Go.IntKind.i64
 (hxZ (byteZ l (x.snd + (1 : Int)))) (4 : Int))
 (hxZ (byteZ l (x.snd + (2 : Int))))))]))
 ((9 : Nat) + (32 : Nat))),
 ((4 : Nat), PV.int Go.IntKind.i64 (x.snd + (2 : Int) + (1 : Int))), ((5 : Nat), PV.undef),
 ((6 : Nat), PV.undef), ((13 : Nat), PV.undef), ((26 : Nat), PV.undef),
 ((42 : Nat), PV.undef)]
 [] ∧
 DecI l
 (false,
 x.fst.snd ++
 [zByte
 (Go.IntKind.u8.wrap
 (bitsZ Go.BinOp.or Go.IntKind.i64
 (shlZ Go.IntKind.i64
 (hxZ (byteZ l (x.snd + (1 : Int)))) (4 : Int))
 (hxZ (byteZ l (x.snd + (2 : Int))))))])
 (x.snd + (2 : Int) + (1 : Int)) ∧
 (↑(List.length l) - (x.snd + (2 : Int) + (1 : Int))).toNat < (↑(List.length l) - x.snd).toNat) ∧
 ((bif decide ((0 : Int) ≤ hxZ (byteZ l (x.snd + (1 : Int)))) then
 decide ((0 : Int) ≤ hxZ (byteZ l (x.snd + (2 : Int))))
 else false) =
 false →
 within x.snd (lenZ l) ∧
 allU8 [PV.int Go.IntKind.u8 (byteZ l x.snd)] ∧
 Int.ofNat (List.length (x.fst.snd ++ [zByte (byteZ l x.snd)])) ≤ maxRow ∧
 inI64 (x.snd + (1 : Int)) ∧
 VS.mk []
 [(nat_lit 0, PV.str l), (nat_lit 2, PV.row true (BRow.bytes []) ((2 : Nat) + (32 : Nat))),
 ((3 : Nat),
 PV.row false (BRow.bytes (x.fst.snd ++ [zByte (byteZ l x.snd)]))
 (nat_lit 40 + (1 : Nat))),
 ((4 : Nat), PV.int Go.IntKind.i64 (x.snd + (1 : Int))), ((5 : Nat), PV.undef),
 ((6 : Nat), PV.undef), ((13 : Nat), PV.undef), ((26 : Nat), PV.undef),
 ((42 : Nat), PV.undef)]
 [] =
 VS.mk []
 [(nat_lit 0, PV.str l), (nat_lit 2, PV.row true (BRow.bytes []) ((2 : Nat) + (32 : Nat))),
 ((3 : Nat),
 PV.row false (BRow.bytes (x.fst.snd ++ [zByte (byteZ l x.snd)]))
 ((9 : Nat) + (32 : Nat))),
 ((4 : Nat), PV.int Go.IntKind.i64 (x.snd + (1 : Int))), ((5 : Nat), PV.undef),
 ((6 : Nat), PV.undef), ((13 : Nat), PV.undef), ((26 : Nat), PV.undef),
 ((42 : Nat), PV.undef)]
 [] ∧
 DecI l (false, x.fst.snd ++ [zByte (byteZ l x.snd)])
 (x.snd + (1 : Int)) ∧
 (↑(List.length l) - (x.snd + (1 : Int))).toNat < (↑(List.length l) - x.snd).toNat)) ∧
 ((bif decide (byteZ l x.snd = (37 : Int)) then decide (x.snd + (2 : Int) < lenZ l) else false) = false →
 within x.snd (lenZ l) ∧
 allU8 [PV.int Go.IntKind.u8 (byteZ l x.snd)] ∧
 Int.ofNat (List.length (x.fst.snd ++ [zByte (byteZ l x.snd)])) ≤ maxRow ∧
 inI64 (x.snd + (1 : Int)) ∧
 VS.mk []
 [(nat_lit 0, PV.str l), (nat_lit 2, PV.row true (BRow.bytes []) ((2 : Nat) + (32 : Nat))),
 ((3 : Nat),
 PV.row false (BRow.bytes (x.fst.snd ++ [zByte (byteZ l x.snd)])) (nat_lit 40 + (1 : Nat))),
 ((4 : Nat), PV.int Go.IntKind.i64 (x.snd + (1 : Int))), ((5 : Nat), PV.undef), ((6 : Nat), PV.undef),
 ((13 : Nat), PV.undef), ((26 : Nat), PV.undef), ((42 : Nat), PV.undef)]
 [] =
 VS.mk []
 [(nat_lit 0, PV.str l), (nat_lit 2, PV.row true (BRow.bytes []) ((2 : Nat) + (32 : Nat))),
 ((3 : Nat),
 PV.row false (BRow.bytes (x.fst.snd ++ [zByte (byteZ l x.snd)])) ((9 : Nat) + (32 : Nat))),
 ((4 : Nat), PV.int Go.IntKind.i64 (x.snd + (1 : Int))), ((5 : Nat), PV.undef), ((6 : Nat), PV.undef),
 ((13 : Nat), PV.undef), ((26 : Nat), PV.undef), ((42 : Nat), PV.undef)]
 [] ∧
 DecI l (false, x.fst.snd ++ [zByte (byteZ l x.snd)]) (x.snd + (1 : Int)) ∧
 (↑(List.length l) - (x.snd + (1 : Int))).toNat < (↑(List.length l) - x.snd).toNat)) ∧
 (decide (x.snd < lenZ l) = false → k (PV.row x.fst.fst (BRow.bytes x.fst.snd) (0 : Nat)))) := by kernel_rfl
attribute [local irreducible] Go.Vc.evF
theorem ok_pdec (l : Bs) : FuncOk Tryd.prog noT 24 [.str l] ⟨l.length ≤ 1000000, .row false (.bytes (decP l)) 0⟩ := evF_ok (by kernel_rfl) X_pdec_ok (H := H_pdec l) (fuel := 1000) Tryd.func24 (by kernel_rfl) fun hpre => (vc_pdec l _).mpr (by
  obtain hl := hpre
  refine ⟨⟨by omega, by unfold lenZ; omega, by unfold lenZ; show _ ≤ (16777216 : Int); omega⟩, rfl, ⟨0, rfl, by omega, rfl, rfl, by show 0 ≤ 0; omega⟩, fun x hx => ?_⟩
  obtain ⟨⟨nl, o⟩, i⟩ := x
  obtain ⟨j, h1, h2, h3, h4, h5⟩ := hx
  dsimp only at h1 h2 h3 h4 h5 ⊢
  subst h1 h3
  have e1 : (j : Int) + 1 = ((j + 1 : Nat) : Int) := by push_cast; rfl
  have e2 : (j : Int) + 2 = ((j + 2 : Nat) : Int) := by push_cast; rfl
  have e3 : ((j + 2 : Nat) : Int) + 1 = ((j + 3 : Nat) : Int) := by push_cast; rfl
  have hu : ∀ z : Int, 0 ≤ z ∧ z ≤ 255 → allU8 [.int .u8 z] := fun z hz => by simp [allU8]; exact hz
  rw [e1, e2, e3, byZ_at l j, byZ_at l (j + 1), byZ_at l (j + 2)]
  have r0 := byt_range l j
  have r1 := byt_range l (j + 1)
  have r2 := byt_range l (j + 2)
  have hm : (o ++ [zByte 0]).length = o.length + 1 := by rw [List.length_append]; rfl
  have stay : j < l.length → (byt l j = 37 ∧ j + 2 < l.length ∧ 0 ≤ hxZ (byt l (j + 1)) ∧ 0 ≤ hxZ (byt l (j + 2)) → False) → DecI l (false, o ++ [zByte (byt l j)]) ((j + 1 : Nat) : Int) := fun hj hc => by
    refine ⟨j + 1, rfl, by omega, rfl, ?_, by show (o ++ [_]).length ≤ _; rw [List.length_append]; show o.length + 1 ≤ _; omega⟩
    show (o ++ [_]) ++ _ = _
    rw [← h4, decP_at l j hj, if_neg hc, List.append_assoc]; rfl
  refine ⟨fun h => ?_, fun h => ?_⟩
  · have hj : j < l.length := by have := of_decide_eq_true h; unfold lenZ at this; omega
    refine ⟨by unfold within lenZ; omega, fun _ => by unfold inI64; omega, fun hc => ?_, fun hc => ?_⟩
    · have hb : byt l j = 37 ∧ j + 2 < l.length := by
        cases e : decide (byt l j = 37) with
        | false => rw [e] at hc; cases hc
        | true => rw [e] at hc; exact ⟨of_decide_eq_true e, by have := of_decide_eq_true hc; unfold lenZ at this; omega⟩
      refine ⟨by unfold inI64; omega, by unfold within lenZ; omega, r1, by unfold inI64; omega, by unfold within lenZ; omega, r2, fun hd => ?_, fun hd => ?_⟩
      · have hh : 0 ≤ hxZ (byt l (j + 1)) ∧ 0 ≤ hxZ (byt l (j + 2)) := by
          cases e : decide (0 ≤ hxZ (byt l (j + 1))) with
          | false => rw [e] at hd; cases hd
          | true => rw [e] at hd; exact ⟨of_decide_eq_true e, of_decide_eq_true hd⟩
        have le1 := hxZ_le (byt l (j + 1))
        have le2 := hxZ_le (byt l (j + 2))
        rw [or_hex hh.1 le1 hh.2 le2]
        refine ⟨by omega, hu _ (by omega), ?_, by unfold inI64; omega, by unfold inI64; omega, rfl, ⟨j + 3, rfl, by omega, rfl, ?_, ?_⟩, by omega⟩
        · rw [List.length_append]; show ((o.length + 1 : Nat) : Int) ≤ 16777216; omega
        · show (o ++ [_]) ++ _ = _
          rw [← h4, decP_at l j hj, if_pos ⟨hb.1, hb.2, hh.1, hh.2⟩, List.append_assoc]; rfl
        · show (o ++ [_]).length ≤ _; rw [List.length_append]; show o.length + 1 ≤ _; omega
      · refine ⟨by unfold within lenZ; omega, hu _ r0, ?_, by unfold inI64; omega, rfl, stay hj (fun g => ?_), by omega⟩
        · rw [List.length_append]; show ((o.length + 1 : Nat) : Int) ≤ 16777216; omega
        · rw [decide_eq_true g.2.2.1, decide_eq_true g.2.2.2] at hd; cases hd
    · refine ⟨by unfold within lenZ; omega, hu _ r0, ?_, by unfold inI64; omega, rfl, stay hj (fun g => ?_), by omega⟩
      · rw [List.length_append]; show ((o.length + 1 : Nat) : Int) ≤ 16777216; omega
      · rw [decide_eq_true g.1, decide_eq_true (show ((j + 2 : Nat) : Int) < lenZ l by unfold lenZ; omega)] at hc; cases hc
  · have hj : j = l.length := by have := of_decide_eq_false h; unfold lenZ at this; omega
    subst hj
    rw [List.drop_length] at h4
    have : o = decP l := by rw [← h4]; exact (List.append_nil o).symm
    show PV.row false _ _ = PV.row false _ _
    rw [this])
def ent_pdec : List PV → Option CallR := fun xs => match xs with
  | [.str l] => some ⟨l.length ≤ 1000000, .row false (.bytes (decP l)) 0⟩
  | _ => none
theorem ent_pdec_ok : ∀ xs c, ent_pdec xs = some c → FuncOk Tryd.prog noT 24 xs c := fun xs c h => by
  unfold ent_pdec at h
  split at h
  · injection h with h; subst h; exact ok_pdec _
  · cases h
end Go.Proofs.YtjljhkjpogjdhaaDoor
end
/- The function gossamer/ascii.Lower does what is told of it. -/
section
set_option linter.unusedVariables false
set_option linter.unusedSimpArgs false
set_option maxRecDepth 100000
set_option maxHeartbeats 4000000
namespace Go.Proofs.YtjljhkjpogjdhaaDoor
open Go Go.Proofs Go.RowKit Go.Vc

theorem i64_lt {n : Nat} {i : Int} (h : decide (i < (n : Int)) = true) : i < n := of_decide_eq_true h
def lowB1 (c : UInt8) : UInt8 := if 65 ≤ c.toNat ∧ c.toNat ≤ 90 then c + 32 else c
def lowB (l : Bs) : Bs := l.map lowB1
theorem lowB_at {l : Bs} {z : Int} (h0 : 0 ≤ z) (h1 : z < (l.length : Int)) : (lowB l)[z.toNat]? = some (lowB1 (l.getD z.toNat 0)) := by
  have : z.toNat < l.length := by omega
  unfold lowB
  rw [List.getElem?_map, List.getElem?_eq_getElem this, List.getD_eq_getElem?_getD, List.getElem?_eq_getElem this]
  rfl
theorem low_yes {l : Bs} {z : Int} (h : (bif decide ((65 : Int) ≤ byteZ l z) then decide (byteZ l z ≤ (90 : Int)) else false) = true) : IntKind.u8.wrap (byteZ l z + (32 : Int)) = byteZ l z + 32 ∧ byteZ l z ≤ 90 ∧ zByte (byteZ l z + 32) = lowB1 (l.getD z.toNat 0) := by
  have hr := byteZ_range l z
  cases h1 : decide ((65 : Int) ≤ byteZ l z) with
  | false => rw [h1] at h; cases h
  | true =>
    rw [h1] at h
    have h2 : byteZ l z ≤ 90 := of_decide_eq_true h
    have h3 : 65 ≤ byteZ l z := of_decide_eq_true h1
    refine ⟨IntWalk.u8_in _ (by omega), h2, ?_⟩
    unfold byteZ at h2 h3
    unfold lowB1 zByte byteZ
    rw [if_pos (by omega)]
    apply UInt8.toNat_inj.1
    rw [UInt8.toNat_add]
    have e : (((l.getD z.toNat 0).toNat : Int) + 32).toNat = (l.getD z.toNat 0).toNat + 32 := by omega
    rw [e]
    simp
theorem low_no {l : Bs} {z : Int} (h : (bif decide ((65 : Int) ≤ byteZ l z) then decide (byteZ l z ≤ (90 : Int)) else false) = false) : zByte (byteZ l z) = lowB1 (l.getD z.toNat 0) := by
  rw [zByte_byteZ]
  unfold lowB1
  rw [if_neg]
  intro hh
  have h3 : (65 : Int) ≤ byteZ l z := by unfold byteZ; omega
  have h4 : byteZ l z ≤ (90 : Int) := by unfold byteZ; omega
  rw [decide_eq_true h3, decide_eq_true h4] at h
  cases h

def X_lower : Tbl := tblX []
def H_lower (nl : Bool) (l : Bs) : Loops := fun i => bif Nat.beq i 3 then some ⟨(Bool × Bs) × (Int), (fun s x => ((((((s.row s 3 x.1.1 (.bytes x.1.2)).put 11 (.int .i64 x.2)).put 4 .undef).put 5 .undef).put 12 .undef).put 21 .undef)), (fun s => ((s.nil 3, s.bytes 3), s.int 11)), (fun s x => let low := x.1; let i := x.2; 0 ≤ i ∧ i ≤ l.length ∧ low.1 = false ∧ low.2 = (lowB l).take i.toNat ++ List.replicate (l.length - i.toNat) 0), (fun s x => let low := x.1; let i := x.2; ((l.length : Int) - i).toNat), [4, 5, 12, 21]⟩ else none
theorem X_lower_ok : XOk Tryd.prog noT X_lower := tblX_nil
theorem vc_lower (nl : Bool) (l : Bs) (k : PV → Prop) : evF Tryd.prog X_lower noT (H_lower nl l) 1000 Tryd.f23 [.row nl (.bytes l) 0] k = (
  ((0 : Int) ≤ Int.ofNat (List.length l) ∧ Int.ofNat (List.length l) ≤ Int.ofNat (List.length l) ∧ Int.ofNat (List.length l) ≤ maxRow) ∧
 VS.mk []
 [(nat_lit 0, PV.row nl (BRow.bytes l) (0 : Nat)), (nat_lit 2, PV.str (ByteArray.mk #[]).data.toList),
 (nat_lit 3, PV.row false (BRow.bytes (List.replicate (Int.ofNat (List.length l)).toNat (0 : UInt8))) ((8 : Nat) + (32 : Nat))),
 ((4 : Nat), PV.undef), ((5 : Nat), PV.undef), (nat_lit 9, PV.row nl (BRow.bytes l) (0 : Nat)),
 (nat_lit 10, PV.int Go.IntKind.i64 (Int.ofNat (List.length l))), (nat_lit 11, PV.int Go.IntKind.i64 (0 : Int)),
 ((12 : Nat), PV.undef), ((21 : Nat), PV.undef)]
 [] =
 VS.mk []
 [(nat_lit 0, PV.row nl (BRow.bytes l) (0 : Nat)), (nat_lit 2, PV.str (ByteArray.mk #[]).data.toList),
 ((3 : Nat), PV.row false (BRow.bytes (List.replicate (Int.ofNat (List.length l)).toNat (0 : UInt8))) ((8 : Nat) + (32 : Nat))),
 ((4 : Nat), PV.undef), ((5 : Nat), PV.undef), (nat_lit 9, PV.row nl (BRow.bytes l) (0 : Nat)),
 (nat_lit 10, PV.int Go.IntKind.i64 (Int.ofNat (List.length l))), ((11 : Nat), PV.int Go.IntKind.i64 (0 : Int)),
 ((12 : Nat), PV.undef), ((21 : Nat), PV.undef)]
 [] ∧
 ((0 : Int) ≤ (0 : Int) ∧
 (0 : Int) ≤ ↑(List.length l) ∧
 false = false ∧
 List.replicate (Int.ofNat (List.length l)).toNat (0 : UInt8) =
 List.take (Int.toNat (0 : Int)) (lowB l) ++ List.replicate (List.length l - Int.toNat (0 : Int)) (0 : UInt8)) ∧
 ∀ (x : (Bool × Bs) × Int),
 (0 : Int) ≤ x.snd ∧
 x.snd ≤ ↑(List.length l) ∧
 x.fst.fst = false ∧
 x.fst.snd = List.take x.snd.toNat (lowB l) ++ List.replicate (List.length l - x.snd.toNat) (0 : UInt8) →
 (decide (x.snd < Int.ofNat (List.length l)) = true →
 within x.snd (Int.ofNat (List.length l)) ∧
 ((bif decide ((65 : Int) ≤ byteZ l x.snd) then decide (byteZ l x.snd ≤ (90 : Int)) else false) = true →
 within x.snd (Int.ofNat (List.length x.fst.snd)) ∧
 ((0 : Int) ≤ Go.IntKind.u8.wrap (byteZ l x.snd + (32 : Int)) ∧
 Go.IntKind.u8.wrap (byteZ l x.snd + (32 : Int)) ≤ (255 : Int)) ∧
 inI64 (x.snd + (1 : Int)) ∧
 VS.mk []
 [(nat_lit 0, PV.row nl (BRow.bytes l) (0 : Nat)), (nat_lit 2, PV.str (ByteArray.mk #[]).data.toList),
 ((3 : Nat),
 PV.row x.fst.fst
 (BRow.bytes (setZ x.fst.snd x.snd (zByte (Go.IntKind.u8.wrap (byteZ l x.snd + (32 : Int))))))
 ((8 : Nat) + (32 : Nat))),
 ((4 : Nat), PV.undef), ((5 : Nat), PV.undef), (nat_lit 9, PV.row nl (BRow.bytes l) (0 : Nat)),
 (nat_lit 10, PV.int Go.IntKind.i64 (Int.ofNat (List.length l))),
 ((11 : Nat), PV.int Go.IntKind.i64 (x.snd + (1 : Int))), ((12 : Nat), PV.undef), ((21 : Nat), PV.undef)]
 [] =
 VS.mk []
 [(nat_lit 0, PV.row nl (BRow.bytes l) (0 : Nat)), (nat_lit 2, PV.str (ByteArray.mk #[]).data.toList),
 ((3 : Nat),
 PV.row x.fst.fst
 (BRow.bytes (setZ x.fst.snd x.snd (zByte (Go.IntKind.u8.wrap (byteZ l x.snd + (32 : Int))))))
 ((8 : Nat) + (32 : Nat))),
 ((4 : Nat), PV.undef), ((5 : Nat), PV.undef), (nat_lit 9, PV.row nl (BRow.bytes l) (0 : Nat)),
 (nat_lit 10, PV.int Go.IntKind.i64 (Int.ofNat (List.length l))),
 ((11 : Nat), PV.int Go.IntKind.i64 (x.snd + (1 : Int))), ((12 : Nat), PV.undef), ((21 : Nat), PV.undef)]
 [] ∧
 ((0 : Int) ≤ x.snd + (1 : Int) ∧
 x.snd + (1 : Int) ≤ ↑(List.length l) ∧
 x.fst.fst = false ∧
 setZ x.fst.snd x.snd (zByte (Go.IntKind.u8.wrap (byteZ l x.snd + (32 : Int)))) =
 List.take (x.snd + (1 : Int)).toNat (lowB l) ++
 List.replicate (List.length l - (x.snd + (1 : Int)).toNat) (0 : UInt8)) ∧
 (↑(List.length l) - (x.snd + (1 : Int))).toNat < (↑(List.length l) - x.snd).toNat) ∧
 ((bif decide ((65 : Int) ≤ byteZ l x.snd) then decide (byteZ l x.snd ≤ (90 : Int)) else false) = false →
 within x.snd (Int.ofNat (List.length x.fst.snd)) ∧
 ((0 : Int) ≤ byteZ l x.snd ∧ byteZ l x.snd ≤ (255 : Int)) ∧
 inI64 (x.snd + (1 : Int)) ∧
 VS.mk []
 [(nat_lit 0, PV.row nl (BRow.bytes l) (0 : Nat)), (nat_lit 2, PV.str (ByteArray.mk #[]).data.toList),
 ((3 : Nat),
 PV.row x.fst.fst (BRow.bytes (setZ x.fst.snd x.snd (zByte (byteZ l x.snd))))
 ((8 : Nat) + (32 : Nat))),
 ((4 : Nat), PV.undef), ((5 : Nat), PV.undef), (nat_lit 9, PV.row nl (BRow.bytes l) (0 : Nat)),
 (nat_lit 10, PV.int Go.IntKind.i64 (Int.ofNat (List.length l))),
 ((11 : Nat), PV.int Go.IntKind.i64 (x.snd + (1 : Int))), ((12 : Nat), PV.undef), ((21 : Nat), PV.undef)]
 [] =
 VS.mk []
 [(nat_lit 0, PV.row nl (BRow.bytes l) (0 : Nat)), (nat_lit 2, PV.str (ByteArray.mk #[]).data.toList),
 ((3 : Nat),
 PV.row x.fst.fst (BRow.bytes (setZ x.fst.snd x.snd (zByte (byteZ l x.snd))))
 ((8 : Nat) + (32 : Nat))),
 ((4 : Nat), PV.undef), ((5 : Nat), PV.undef), (nat_lit 9, PV.row nl (BRow.bytes l) (0 : Nat)),
 (nat_lit 10, PV.int Go.IntKind.i64 (Int.ofNat (List.length l))),
 ((11 : Nat), PV.int Go.IntKind.i64 (x.snd + (1 : Int))), ((12 : Nat), PV.undef), ((21 : Nat), PV.undef)]
 [] ∧
 ((0 : Int) ≤ x.snd + (1 : Int) ∧
 x.snd + (1 : Int) ≤ ↑(List.length l) ∧
 x.fst.fst = false ∧
 setZ x.fst.snd x.snd (zByte (byteZ l x.snd)) =
 List.take (x.snd + (1 : Int)).toNat (lowB l) ++
 List.replicate (List.length l - (x.snd + (1 : Int)).toNat) (0 : UInt8)) ∧
 (↑(List.length l) - (x.snd + (1 : Int))).toNat < (↑(List.length l) - x.snd).toNat)) ∧
 (decide (x.snd < Int.ofNat (List.length l)) = false → k (PV.str x.fst.snd))) := by kernel_rfl
attribute [local irreducible] Go.Vc.evF
theorem ok_lower (nl : Bool) (l : Bs) : FuncOk Tryd.prog noT 23 [.row nl (.bytes l) 0] ⟨l.length ≤ 1000000, .str (lowB l)⟩ := evF_ok (by kernel_rfl) X_lower_ok (H := H_lower nl l) (fuel := 1000) Tryd.func23 (by kernel_rfl) fun hpre => (vc_lower nl l _).mpr (by
  have hll : (lowB l).length = l.length := by unfold lowB; simp
  simp only [Int.ofNat_eq_natCast] at *
  refine ⟨⟨by omega, by omega, by unfold maxRow; omega⟩, trivial, ⟨by omega, by omega, trivial, by simp⟩, fun x hx => ⟨fun h => ?_, fun h => ?_⟩⟩
  · obtain ⟨h0, h1, h2, h3⟩ := hx
    have hlt := i64_lt h
    have hbr := byteZ_range l x.2
    have hlen : x.1.2.length = l.length := by rw [h3, List.length_append, List.length_take, List.length_replicate, hll]; omega
    have step : ∀ b, b = lowB1 (l.getD x.2.toNat 0) → setZ x.1.2 x.2 b = List.take (x.2 + 1).toNat (lowB l) ++ List.replicate (List.length l - (x.2 + 1).toNat) 0 := fun b hb => by
      unfold setZ
      rw [show (x.2 + 1).toNat = x.2.toNat + 1 by omega, h3]
      exact set_fill hll.symm (by rw [lowB_at h0 hlt, hb])
    refine ⟨⟨h0, hlt⟩, fun hc => ?_, fun hc => ?_⟩
    · obtain ⟨c1, c2, c3⟩ := low_yes hc
      rw [c1]
      refine ⟨⟨h0, by rw [hlen]; exact hlt⟩, ⟨by omega, by omega⟩, ⟨by omega, by omega⟩, trivial, ⟨by omega, by omega, h2, step _ c3⟩, by omega⟩
    · refine ⟨⟨h0, by rw [hlen]; exact hlt⟩, ⟨by omega, by omega⟩, ⟨by omega, by omega⟩, trivial, ⟨by omega, by omega, h2, step _ (low_no hc)⟩, by omega⟩
  · obtain ⟨h0, h1, h2, h3⟩ := hx
    have hge : ¬ x.2 < (l.length : Int) := of_decide_eq_false h
    show PV.str _ = PV.str _
    rw [h3, show x.2.toNat = l.length by omega, ← hll, List.take_length]
    simp)
def ent_lower : List PV → Option CallR := fun xs => match xs with
  | [.row nl (.bytes l) 0] => some ⟨l.length ≤ 1000000, .str (lowB l)⟩
  | _ => none
theorem ent_lower_ok : ∀ xs c, ent_lower xs = some c → FuncOk Tryd.prog noT 23 xs c := fun xs c h => by
  unfold ent_lower at h
  split at h
  · injection h with h; subst h; exact ok_lower _ _
  · cases h
end Go.Proofs.YtjljhkjpogjdhaaDoor
end
/- The function gossamer/host.noDomain does what is told of it. -/
section
set_option linter.unusedVariables false
set_option linter.unusedSimpArgs false
set_option maxRecDepth 100000
set_option maxHeartbeats 4000000
namespace Go.Proofs.YtjljhkjpogjdhaaDoor
open Go Go.Proofs Go.RowKit Go.Vc

def neverL : Bs := [0, 9, 10, 13, 32, 35, 47, 58, 60, 62, 63, 64, 91, 92, 93, 94, 124]
def nodB (r : Int) : Bool := decide (r < 32) || decide (r = 37) || decide (r = 127) || runB neverL r

def X_nodom : Tbl := tblX [(44, ent_crune)]
def H_nodom (r : Int) : Loops := fun i => none
theorem X_nodom_ok : XOk Tryd.prog noT X_nodom := tblX_cons ent_crune_ok (tblX_nil)
theorem vc_nodom (r : Int) (k : PV → Prop) : evF Tryd.prog X_nodom noT (H_nodom r) 1000 Tryd.f27 [.int .i32 r] k = (
  ((bif bif decide (r < (32 : Int)) then true else decide (r = (37 : Int)) then true else decide (r = (127 : Int))) = false →
 (0 : Int) ≤ r ∧
 r ≤ (2147483647 : Int) ∧
 ∀ (b : UInt8),
 b ∈
 (ByteArray.mk
 #[(0 : UInt8), (9 : UInt8), (10 : UInt8), (13 : UInt8), (32 : UInt8), (35 : UInt8), (47 : UInt8), (58 : UInt8), (60 : UInt8), (62 : UInt8),
 (63 : UInt8), (64 : UInt8), (91 : UInt8), (92 : UInt8), (93 : UInt8), (94 : UInt8), (124 : UInt8)]).data.toList →
 b.toNat < (128 : Nat)) ∧
 k
 (PV.bool
 (bif bif bif decide (r < (32 : Int)) then true else decide (r = (37 : Int)) then true else decide (r = (127 : Int)) then true
 else
 runB
 (ByteArray.mk
 #[(0 : UInt8), (9 : UInt8), (10 : UInt8), (13 : UInt8), (32 : UInt8), (35 : UInt8), (47 : UInt8), (58 : UInt8), (60 : UInt8), (62 : UInt8),
 (63 : UInt8), (64 : UInt8), (91 : UInt8), (92 : UInt8), (93 : UInt8), (94 : UInt8), (124 : UInt8)]).data.toList
 r))) := by kernel_rfl
attribute [local irreducible] Go.Vc.evF
theorem ok_nodom (r : Int) : FuncOk Tryd.prog noT 27 [.int .i32 r] ⟨0 ≤ r ∧ r ≤ 1114111, .bool (nodB r)⟩ := evF_ok (by kernel_rfl) X_nodom_ok (H := H_nodom r) (fuel := 1000) Tryd.func27 (by kernel_rfl) fun hpre => (vc_nodom r _).mpr (by
  refine ⟨fun _ => ⟨by omega, by omega, by decide⟩, ?_⟩
  show PV.bool _ = PV.bool _
  unfold nodB neverL
  cases decide (r < 32) <;> cases decide (r = 37) <;> cases decide (r = 127) <;> rfl)
def ent_nodom : List PV → Option CallR := fun xs => match xs with
  | [.int .i32 r] => some ⟨0 ≤ r ∧ r ≤ 1114111, .bool (nodB r)⟩
  | _ => none
theorem ent_nodom_ok : ∀ xs c, ent_nodom xs = some c → FuncOk Tryd.prog noT 27 xs c := fun xs c h => by
  unfold ent_nodom at h
  split at h
  · injection h with h; subst h; exact ok_nodom _
  · cases h
end Go.Proofs.YtjljhkjpogjdhaaDoor
end
/- host: strings.ContainsFunc by noDomain. -/
section
set_option linter.unusedVariables false
namespace Go.Proofs.YtjljhkjpogjdhaaDoor
open Go Go.Proofs Go.RowKit Go.Vc

theorem TabH.below {w w' : World} (h : TabH w) (hb : Below w.heap.size w w') : TabH w' :=
  Wd.mono (self := wdH) w w' hb.os hb.tape hb.output hb.size (fun k hk => hb.block k (Nat.lt_of_lt_of_le hk (Wd.within (self := wdH) w h))) h
theorem nodom_grows (w : World) (hw : TabH w) : PredGrows Tryd.prog 27 #[] (fun x => nodB x) w := fun W x hx hb =>
  ((ok_nodom (x : Int)).walk Tryd.func27 (by kernel_rfl) rfl ⟨by omega, by omega⟩ (fits_none W) (noT_ok _) (hw.below hb) (vs := [.int .i32 x]) ⟨_, _, rfl, rfl, rfl⟩).mono fun e w' ⟨u, he, F', _, hb, _, _, _, _, hr⟩ => ⟨by rw [he]; exact congrArg _ hr, hb⟩
def cfB (l : Bs) : Bool := decide (0 ≤ Lib.idxFunc (fun x => nodB x) true ⟨l.toArray⟩)
theorem ok_cfunc (l : Bs) : FuncOk Tryd.prog noT 26 [.str l, .fn (.func 27) [] []] ⟨True, .bool (cfB l)⟩ :=
  FuncOk.of_calls Tryd.func26 (by kernel_rfl) rfl fun _ F w vs _ _ hw hx => by
    obtain ⟨_, _, rfl, r1, _, _, rfl, r2, rfl⟩ := hx
    obtain rfl := r1
    obtain ⟨us, vs, rfl, rfl, rfl⟩ := r2
    exact ⟨_, Any.strings_ContainsFunc_grows Tryd.laysCF 27 #[] (enters_of Tryd.func27 (by kernel_rfl) rfl) _ ⟨l.toArray⟩ w (nodom_grows w hw), fun G w => rfl⟩
def ent_cfunc : List PV → Option CallR := fun xs => match xs with | [.str l, .fn (.func 27) [] []] => some ⟨True, .bool (cfB l)⟩ | _ => none
theorem ent_cfunc_ok : ∀ xs c, ent_cfunc xs = some c → FuncOk Tryd.prog noT 26 xs c := fun xs c h => by
  unfold ent_cfunc at h
  split at h
  · injection h with h; subst h; exact ok_cfunc _
  · cases h
end Go.Proofs.YtjljhkjpogjdhaaDoor
end
/- The function internal/stringslite.HasSuffix does what is told of it. -/
section
set_option linter.unusedVariables false
set_option linter.unusedSimpArgs false
set_option maxRecDepth 100000
set_option maxHeartbeats 4000000
namespace Go.Proofs.YtjljhkjpogjdhaaDoor
open Go Go.Proofs Go.RowKit Go.Vc
def sufB (l m : Bs) : Bool := bif decide (lenZ m ≤ lenZ l) then decide (dropZ l (lenZ l - lenZ m) = m) else false

def X_lsuf : Tbl := tblX []
def H_lsuf (l m : Bs) : Loops := fun i => none
theorem X_lsuf_ok : XOk Tryd.prog noT X_lsuf := tblX_nil
theorem vc_lsuf (l m : Bs) (k : PV → Prop) : evF Tryd.prog X_lsuf noT (H_lsuf l m) 1000 Tryd.f60 [.str l, .str m] k = (
  (decide (lenZ m ≤ lenZ l) = true → inI64 (lenZ l - lenZ m)) ∧
 (decide (lenZ m ≤ lenZ l) = true → upto (lenZ l - lenZ m) (lenZ l) (lenZ l)) ∧
 k (PV.bool (bif decide (lenZ m ≤ lenZ l) then decide (dropZ l (lenZ l - lenZ m) = m) else false))) := by kernel_rfl
attribute [local irreducible] Go.Vc.evF
theorem ok_lsuf (l m : Bs) : FuncOk Tryd.prog noT 60 [.str l, .str m] ⟨l.length ≤ 1000000 ∧ m.length ≤ 1000000, .bool (sufB l m)⟩ := evF_ok (by kernel_rfl) X_lsuf_ok (H := H_lsuf l m) (fuel := 1000) Tryd.func60 (by kernel_rfl) fun hpre => (vc_lsuf l m _).mpr (by
  exact ⟨fun h => ⟨by unfold lenZ; omega, by unfold lenZ; omega⟩, fun h => ⟨by have := of_decide_eq_true h; omega, by unfold lenZ; omega, Int.le_refl _⟩, rfl⟩)
def ent_lsuf : List PV → Option CallR := fun xs => match xs with
  | [.str l, .str m] => some ⟨l.length ≤ 1000000 ∧ m.length ≤ 1000000, .bool (sufB l m)⟩
  | _ => none
theorem ent_lsuf_ok : ∀ xs c, ent_lsuf xs = some c → FuncOk Tryd.prog noT 60 xs c := fun xs c h => by
  unfold ent_lsuf at h
  split at h
  · injection h with h; subst h; exact ok_lsuf _ _
  · cases h
end Go.Proofs.YtjljhkjpogjdhaaDoor
end
/- The function internal/stringslite.CutSuffix does what is told of it. -/
section
set_option linter.unusedVariables false
set_option linter.unusedSimpArgs false
set_option maxRecDepth 100000
set_option maxHeartbeats 4000000
namespace Go.Proofs.YtjljhkjpogjdhaaDoor
open Go Go.Proofs Go.RowKit Go.Vc

def cutS (l m : Bs) : Bs × Bool := if sufB l m = true then (takeZ l (lenZ l - lenZ m), true) else (l, false)

def X_lcsuf : Tbl := tblX [(60, ent_lsuf)]
def H_lcsuf (l m : Bs) : Loops := fun i => none
theorem X_lcsuf_ok : XOk Tryd.prog noT X_lcsuf := tblX_cons ent_lsuf_ok (tblX_nil)
theorem vc_lcsuf (l m : Bs) (k : PV → Prop) : evF Tryd.prog X_lcsuf noT (H_lcsuf l m) 1000 Tryd.f36 [.str l, .str m] k = (
  (List.length l ≤ (1000000 : Nat) ∧ List.length m ≤ (1000000 : Nat)) ∧
 ((!sufB l m) = true → k (PV.tup [PV.str l, PV.bool false])) ∧
 ((!sufB l m) = false →
 inI64 (lenZ l - lenZ m) ∧
 upto (0 : Int) (lenZ l - lenZ m) (lenZ l) ∧
 k (PV.tup [PV.str (takeZ l (lenZ l - lenZ m)), PV.bool true]))) := by kernel_rfl
attribute [local irreducible] Go.Vc.evF
theorem ok_lcsuf (l m : Bs) : FuncOk Tryd.prog noT 36 [.str l, .str m] ⟨l.length ≤ 1000000 ∧ m.length ≤ 1000000, .tup [.str (cutS l m).1, .bool (cutS l m).2]⟩ := evF_ok (by kernel_rfl) X_lcsuf_ok (H := H_lcsuf l m) (fuel := 1000) Tryd.func36 (by kernel_rfl) fun hpre => (vc_lcsuf l m _).mpr (by
  obtain ⟨h1, h2⟩ := hpre
  refine ⟨⟨h1, h2⟩, fun h => ?_, fun h => ⟨by unfold inI64 lenZ; omega, ?_, ?_⟩⟩
  · have e : ¬ sufB l m = true := by intro e; rw [e] at h; cases h
    have : cutS l m = (l, false) := by unfold cutS; rw [if_neg e]
    rw [this]
  · have e : sufB l m = true := by cases e : sufB l m with | true => rfl | false => rw [e] at h; cases h
    unfold sufB at e
    cases e2 : decide (lenZ m ≤ lenZ l) with
    | false => rw [e2] at e; cases e
    | true => have := of_decide_eq_true e2; unfold upto; unfold lenZ at this ⊢; omega
  · have e : sufB l m = true := by cases e : sufB l m with | true => rfl | false => rw [e] at h; cases h
    have : cutS l m = (takeZ l (lenZ l - lenZ m), true) := by unfold cutS; rw [if_pos e]
    rw [this])
def ent_lcsuf : List PV → Option CallR := fun xs => match xs with
  | [.str l, .str m] => some ⟨l.length ≤ 1000000 ∧ m.length ≤ 1000000, .tup [.str (cutS l m).1, .bool (cutS l m).2]⟩
  | _ => none
theorem ent_lcsuf_ok : ∀ xs c, ent_lcsuf xs = some c → FuncOk Tryd.prog noT 36 xs c := fun xs c h => by
  unfold ent_lcsuf at h
  split at h
  · injection h with h; subst h; exact ok_lcsuf _ _
  · cases h
end Go.Proofs.YtjljhkjpogjdhaaDoor
end
/- The function strings.CutSuffix does what is told of it. -/
section
set_option linter.unusedVariables false
set_option linter.unusedSimpArgs false
set_option maxRecDepth 100000
set_option maxHeartbeats 4000000
namespace Go.Proofs.YtjljhkjpogjdhaaDoor
open Go Go.Proofs Go.RowKit Go.Vc

def X_csuf : Tbl := tblX [(36, ent_lcsuf)]
def H_csuf (l m : Bs) : Loops := fun i => none
theorem X_csuf_ok : XOk Tryd.prog noT X_csuf := tblX_cons ent_lcsuf_ok (tblX_nil)
theorem vc_csuf (l m : Bs) (k : PV → Prop) : evF Tryd.prog X_csuf noT (H_csuf l m) 1000 Tryd.f21 [.str l, .str m] k = (
  (List.length l ≤ (1000000 : Nat) ∧ List.length m ≤ (1000000 : Nat)) ∧
 k (PV.tup [PV.str (cutS l m).fst, PV.bool (cutS l m).snd])) := by kernel_rfl
attribute [local irreducible] Go.Vc.evF
theorem ok_csuf (l m : Bs) : FuncOk Tryd.prog noT 21 [.str l, .str m] ⟨l.length ≤ 1000000 ∧ m.length ≤ 1000000, .tup [.str (cutS l m).1, .bool (cutS l m).2]⟩ := evF_ok (by kernel_rfl) X_csuf_ok (H := H_csuf l m) (fuel := 1000) Tryd.func21 (by kernel_rfl) fun hpre => (vc_csuf l m _).mpr (by
  exact ⟨hpre, rfl⟩)
def ent_csuf : List PV → Option CallR := fun xs => match xs with
  | [.str l, .str m] => some ⟨l.length ≤ 1000000 ∧ m.length ≤ 1000000, .tup [.str (cutS l m).1, .bool (cutS l m).2]⟩
  | _ => none
theorem ent_csuf_ok : ∀ xs c, ent_csuf xs = some c → FuncOk Tryd.prog noT 21 xs c := fun xs c h => by
  unfold ent_csuf at h
  split at h
  · injection h with h; subst h; exact ok_csuf _ _
  · cases h
end Go.Proofs.YtjljhkjpogjdhaaDoor
end
/- The function gossamer/host.untold does what is told of it. -/
section
set_option linter.unusedVariables false
set_option linter.unusedSimpArgs false
set_option maxRecDepth 100000
set_option maxHeartbeats 4000000
namespace Go.Proofs.YtjljhkjpogjdhaaDoor
open Go Go.Proofs Go.RowKit Go.Vc

def xnL : Bs := [120, 110, 45, 45]
def dxnL : Bs := [46, 120, 110, 45, 45]
def ascC (b : UInt8) : Bool := decide (b.toNat ≤ 127)
def untB (l : Bs) : Bool := !l.all ascC || preB l xnL || hasB l dxnL
theorem all_step (p : UInt8 → Bool) (l : Bs) (j : Nat) (h : j < l.length) : (l.take (j + 1)).all p = ((l.take j).all p && p (l.getD j 0)) := by
  rw [List.take_add_one, List.getElem?_eq_getElem h, List.all_append, List.getD_eq_getElem?_getD, List.getElem?_eq_getElem h]
  simp
theorem getD_in (l : Bs) (j : Nat) (h : j < l.length) : l.getD j 0 ∈ l := by
  rw [List.getD_eq_getElem?_getD, List.getElem?_eq_getElem h]
  exact List.getElem_mem h
def UntI (l : Bs) (i : Int) : Prop := ∃ j : Nat, i = j ∧ j ≤ l.length ∧ (l.take j).all ascC = true

def X_untold : Tbl := tblX [(13, ent_prefix), (42, ent_has)]
def H_untold (l : Bs) : Loops := fun i => bif Nat.beq i 2 then some ⟨(Int), (fun s x => ((((s.put 6 (.int .i64 x)).put 3 .undef).put 7 .undef).put 12 .undef)), (fun s => s.int 6), (fun s x => let i := x; UntI l i), (fun s x => let i := x; ((l.length : Int) - i).toNat), [3, 7, 12]⟩ else none
theorem X_untold_ok : XOk Tryd.prog noT X_untold := tblX_cons ent_prefix_ok (tblX_cons ent_has_ok (tblX_nil))
theorem vc_untold (l : Bs) (k : PV → Prop) : evF Tryd.prog X_untold noT (H_untold l) 1000 Tryd.f25 [.str l] k = (
  VS.mk []
 [(nat_lit 0, PV.str l), (nat_lit 2, PV.bool false), ((3 : Nat), PV.undef), (nat_lit 5, PV.int Go.IntKind.i64 (lenZ l)),
 (nat_lit 6, PV.int Go.IntKind.i64 (0 : Int)), ((7 : Nat), PV.undef), ((12 : Nat), PV.undef)]
 [] =
 VS.mk []
 [(nat_lit 0, PV.str l), (nat_lit 2, PV.bool false), ((3 : Nat), PV.undef), (nat_lit 5, PV.int Go.IntKind.i64 (lenZ l)),
 ((6 : Nat), PV.int Go.IntKind.i64 (0 : Int)), ((7 : Nat), PV.undef), ((12 : Nat), PV.undef)]
 [] ∧
 UntI l (0 : Int) ∧
 ∀ (x : Int),
 UntI l x →
 (decide (x < lenZ l) = true →
 within x (lenZ l) ∧
 (decide ((127 : Int) < byteZ l x) = true → k (PV.bool true)) ∧
 (decide ((127 : Int) < byteZ l x) = false →
 inI64 (x + (1 : Int)) ∧
 VS.mk []
 [(nat_lit 0, PV.str l), (nat_lit 2, PV.bool false), ((3 : Nat), PV.undef),
 (nat_lit 5, PV.int Go.IntKind.i64 (lenZ l)), ((6 : Nat), PV.int Go.IntKind.i64 (x + (1 : Int))),
 ((7 : Nat), PV.undef), ((12 : Nat), PV.undef)]
 [] =
 VS.mk []
 [(nat_lit 0, PV.str l), (nat_lit 2, PV.bool false), ((3 : Nat), PV.undef),
 (nat_lit 5, PV.int Go.IntKind.i64 (lenZ l)), ((6 : Nat), PV.int Go.IntKind.i64 (x + (1 : Int))),
 ((7 : Nat), PV.undef), ((12 : Nat), PV.undef)]
 [] ∧
 UntI l (x + (1 : Int)) ∧ (↑(List.length l) - (x + (1 : Int))).toNat < (↑(List.length l) - x).toNat)) ∧
 (decide (x < lenZ l) = false →
 True ∧
 (preB l (ByteArray.mk #[(120 : UInt8), (110 : UInt8), (45 : UInt8), (45 : UInt8)]).data.toList = false →
 (List.length l).le (1000000 : Nat)) ∧
 k
 (PV.bool
 (bif preB l (ByteArray.mk #[(120 : UInt8), (110 : UInt8), (45 : UInt8), (45 : UInt8)]).data.toList then true
 else
 hasB l
 (ByteArray.mk #[(46 : UInt8), (120 : UInt8), (110 : UInt8), (45 : UInt8), (45 : UInt8)]).data.toList)))) := by kernel_rfl
attribute [local irreducible] Go.Vc.evF
theorem ok_untold (l : Bs) : FuncOk Tryd.prog noT 25 [.str l] ⟨l.length ≤ 1000000, .bool (untB l)⟩ := evF_ok (by kernel_rfl) X_untold_ok (H := H_untold l) (fuel := 1000) Tryd.func25 (by kernel_rfl) fun hpre => (vc_untold l _).mpr (by
  refine ⟨rfl, ⟨0, rfl, by omega, rfl⟩, fun x hx => ?_⟩
  obtain ⟨j, rfl, hj, ha⟩ := hx
  have e1 : (j : Int) + 1 = ((j + 1 : Nat) : Int) := by push_cast; rfl
  have hb : byteZ l (j : Int) = ((l.getD j 0).toNat : Int) := rfl
  rw [e1, hb]
  refine ⟨fun h => ?_, fun h => ?_⟩
  · have hjl : j < l.length := by have := of_decide_eq_true h; unfold lenZ at this; omega
    refine ⟨by unfold within lenZ; omega, fun h2 => ?_, fun h2 => ⟨by unfold inI64; omega, rfl, ⟨j + 1, rfl, by omega, ?_⟩, by omega⟩⟩
    · have hf : l.all ascC = false := by
        rw [Bool.eq_false_iff]
        intro g
        have g1 := List.all_eq_true.1 g _ (getD_in l j hjl)
        unfold ascC at g1
        have g2 := of_decide_eq_true g1
        have g3 := of_decide_eq_true h2
        omega
      show PV.bool true = PV.bool (untB l)
      unfold untB
      rw [hf]; rfl
    · have g3 := of_decide_eq_false h2
      rw [all_step ascC l j hjl, ha, Bool.true_and]
      unfold ascC
      exact decide_eq_true (by omega)
  · have hjl : j = l.length := by have := of_decide_eq_false h; unfold lenZ at this; omega
    rw [hjl, List.take_length] at ha
    refine ⟨trivial, fun _ => hpre, ?_⟩
    show PV.bool (bif preB l xnL then true else hasB l dxnL) = PV.bool (untB l)
    unfold untB
    rw [ha]
    cases preB l xnL <;> rfl)
def ent_untold : List PV → Option CallR := fun xs => match xs with
  | [.str l] => some ⟨l.length ≤ 1000000, .bool (untB l)⟩
  | _ => none
theorem ent_untold_ok : ∀ xs c, ent_untold xs = some c → FuncOk Tryd.prog noT 25 xs c := fun xs c h => by
  unfold ent_untold at h
  split at h
  · injection h with h; subst h; exact ok_untold _
  · cases h
end Go.Proofs.YtjljhkjpogjdhaaDoor
end
/- The function gossamer/host.parseDomain does what is told of it. -/
section
set_option linter.unusedVariables false
set_option linter.unusedSimpArgs false
set_option maxRecDepth 100000
set_option maxHeartbeats 4000000
namespace Go.Proofs.YtjljhkjpogjdhaaDoor
open Go Go.Proofs Go.RowKit Go.Vc

abbrev H5 := Int × Bs × Int × List Int × Int
def z8 : List Int := List.replicate 8 0
def noH (e : Int) : H5 := (0, [], 0, z8, e)
def domR (d : Bs) : H5 := if untB d = true then noH 9 else if d = [] ∨ cfB d = true then noH 8 else if end4 d = false then (2, d, 0, z8, 0) else if fourO d = true then (3, [], dotV d, z8, 0) else noH 8
theorem lowB_len (l : Bs) : (lowB l).length = l.length := by unfold lowB; rw [List.length_map]
theorem decP_len : ∀ l : Bs, (decP l).length ≤ l.length
  | [] => Nat.le_refl _
  | [b] => Nat.le_refl _
  | [b, h] => Nat.le_refl _
  | b :: h :: g :: t => by
    have h1 := decP_len t
    have h2 := decP_len (h :: g :: t)
    show (if b.toNat = 37 ∧ 0 ≤ hxZ h.toNat ∧ 0 ≤ hxZ g.toNat then zByte (hxZ h.toNat * 16 + hxZ g.toNat) :: decP t else b :: decP (h :: g :: t)).length ≤ _
    split
    · rw [List.length_cons]; simp only [List.length_cons]; omega
    · rw [List.length_cons]; simp only [List.length_cons] at h2 ⊢; omega

def X_pdom : Tbl := tblX [(24, ent_pdec), (23, ent_lower), (25, ent_untold), (26, ent_cfunc), (28, ent_ends), (29, ent_pfour)]
def H_pdom (l : Bs) : Loops := fun i => none
theorem X_pdom_ok : XOk Tryd.prog noT X_pdom := tblX_cons ent_pdec_ok (tblX_cons ent_lower_ok (tblX_cons ent_untold_ok (tblX_cons ent_cfunc_ok (tblX_cons ent_ends_ok (tblX_cons ent_pfour_ok (tblX_nil))))))
theorem vc_pdom (l : Bs) (k : PV → Prop) : evF Tryd.prog X_pdom noT (H_pdom l) 1000 Tryd.f15 [.str l] k = (
  (List.length l).le (1000000 : Nat) ∧
 (List.length (decP l)).le (1000000 : Nat) ∧
 (List.length (lowB (decP l))).le (1000000 : Nat) ∧
 (untB (lowB (decP l)) = true →
 k
 (PV.tup
 [PV.agg
 [PV.int Go.IntKind.i64 (0 : Int), PV.str [], PV.int Go.IntKind.u32 (0 : Int),
 PV.arr (8 : Nat) (BRow.ints Go.IntKind.u16 (List.replicate (8 : Nat) (0 : Int)))],
 PV.int Go.IntKind.i64 (9 : Int)])) ∧
 (untB (lowB (decP l)) = false →
 (decide (lowB (decP l) = (ByteArray.mk #[]).data.toList) = false → True) ∧
 ((bif decide (lowB (decP l) = (ByteArray.mk #[]).data.toList) then true
 else cfB (lowB (decP l))) =
 true →
 k
 (PV.tup
 [PV.agg
 [PV.int Go.IntKind.i64 (0 : Int), PV.str [], PV.int Go.IntKind.u32 (0 : Int),
 PV.arr (8 : Nat) (BRow.ints Go.IntKind.u16 (List.replicate (8 : Nat) (0 : Int)))],
 PV.int Go.IntKind.i64 (8 : Int)])) ∧
 ((bif decide (lowB (decP l) = (ByteArray.mk #[]).data.toList) then true
 else cfB (lowB (decP l))) =
 false →
 (List.length (lowB (decP l))).le (1000000 : Nat) ∧
 ((!end4 (lowB (decP l))) = true →
 k
 (PV.tup
 [PV.agg
 [PV.int Go.IntKind.i64 (2 : Int),
 PV.str (lowB (decP l)),
 PV.int Go.IntKind.u32 (0 : Int),
 PV.arr (8 : Nat) (BRow.ints Go.IntKind.u16 (List.replicate (8 : Nat) (0 : Int)))],
 PV.int Go.IntKind.i64 (0 : Int)])) ∧
 ((!end4 (lowB (decP l))) = false →
 (List.length (lowB (decP l))).le (1000000 : Nat) ∧
 ((!fourO (lowB (decP l))) = true →
 k
 (PV.tup
 [PV.agg
 [PV.int Go.IntKind.i64 (0 : Int), PV.str [], PV.int Go.IntKind.u32 (0 : Int),
 PV.arr (8 : Nat) (BRow.ints Go.IntKind.u16 (List.replicate (8 : Nat) (0 : Int)))],
 PV.int Go.IntKind.i64 (8 : Int)])) ∧
 ((!fourO (lowB (decP l))) = false →
 k
 (PV.tup
 [PV.agg
 [PV.int Go.IntKind.i64 (3 : Int), PV.str [],
 PV.int Go.IntKind.u32
 (dotV (lowB (decP l))),
 PV.arr (8 : Nat) (BRow.ints Go.IntKind.u16 (List.replicate (8 : Nat) (0 : Int)))],
 PV.int Go.IntKind.i64 (0 : Int)])))))) := by kernel_rfl
attribute [local irreducible] Go.Vc.evF
theorem ok_pdom (l : Bs) : FuncOk Tryd.prog noT 15 [.str l] ⟨l.length ≤ 1000000, .tup [.agg [.int .i64 (domR (lowB (decP l))).1, .str (domR (lowB (decP l))).2.1, .int .u32 (domR (lowB (decP l))).2.2.1, .arr 8 (.ints .u16 (domR (lowB (decP l))).2.2.2.1)], .int .i64 (domR (lowB (decP l))).2.2.2.2]⟩ := evF_ok (by kernel_rfl) X_pdom_ok (H := H_pdom l) (fuel := 1000) Tryd.func15 (by kernel_rfl) fun hpre => (vc_pdom l _).mpr (by
  have hd1 := decP_len l
  have hd2 := lowB_len (decP l)
  have hd : (lowB (decP l)).length ≤ 1000000 := by omega
  obtain ⟨d, hdd⟩ : ∃ d, lowB (decP l) = d := ⟨_, rfl⟩
  rw [hdd] at hd ⊢
  refine ⟨hpre, Nat.le_trans hd1 hpre, hd, fun h => ?_, fun h => ⟨fun _ => trivial, fun h2 => ?_, fun h2 => ?_⟩⟩
  · have : domR d = noH 9 := by unfold domR; rw [if_pos h]
    rw [this]; rfl
  · have h3 : d = [] ∨ cfB d = true := by
      cases e : decide (d = (ByteArray.mk #[]).data.toList) with
      | true => exact .inl (of_decide_eq_true e)
      | false => rw [e] at h2; exact .inr h2
    have : domR d = noH 8 := by unfold domR; rw [if_neg (by rw [h]; decide), if_pos h3]
    rw [this]; rfl
  · have h3 : ¬ (d = [] ∨ cfB d = true) := by
      cases e : decide (d = (ByteArray.mk #[]).data.toList) with
      | true => rw [e] at h2; cases h2
      | false =>
        rw [e] at h2
        have e2 : ¬ d = [] := of_decide_eq_false e
        have h4 : cfB d = false := h2
        rintro (g | g)
        · exact e2 g
        · rw [h4] at g; cases g
    have hu : ¬ untB d = true := by rw [h]; decide
    refine ⟨hd, fun h4 => ?_, fun h4 => ⟨hd, fun h5 => ?_, fun h5 => ?_⟩⟩
    · have e4 : end4 d = false := by cases e : end4 d with | false => rfl | true => rw [e] at h4; cases h4
      have : domR d = (2, d, 0, z8, 0) := by unfold domR; rw [if_neg hu, if_neg h3, if_pos e4]
      rw [this]; rfl
    · have e4 : ¬ end4 d = false := by intro e; rw [e] at h4; cases h4
      have e5 : ¬ fourO d = true := by intro e; rw [e] at h5; cases h5
      have : domR d = noH 8 := by unfold domR; rw [if_neg hu, if_neg h3, if_neg e4, if_neg e5]
      rw [this]; rfl
    · have e4 : ¬ end4 d = false := by intro e; rw [e] at h4; cases h4
      have e5 : fourO d = true := by cases e : fourO d with | true => rfl | false => rw [e] at h5; cases h5
      have : domR d = (3, [], dotV d, z8, 0) := by unfold domR; rw [if_neg hu, if_neg h3, if_neg e4, if_pos e5]
      rw [this]; rfl)
def ent_pdom : List PV → Option CallR := fun xs => match xs with
  | [.str l] => some ⟨l.length ≤ 1000000, .tup [.agg [.int .i64 (domR (lowB (decP l))).1, .str (domR (lowB (decP l))).2.1, .int .u32 (domR (lowB (decP l))).2.2.1, .arr 8 (.ints .u16 (domR (lowB (decP l))).2.2.2.1)], .int .i64 (domR (lowB (decP l))).2.2.2.2]⟩
  | _ => none
theorem ent_pdom_ok : ∀ xs c, ent_pdom xs = some c → FuncOk Tryd.prog noT 15 xs c := fun xs c h => by
  unfold ent_pdom at h
  split at h
  · injection h with h; subst h; exact ok_pdom _
  · cases h
end Go.Proofs.YtjljhkjpogjdhaaDoor
end
/- The function gossamer/host.parseIPv6 does what is told of it. -/
section
set_option linter.unusedVariables false
set_option linter.unusedSimpArgs false
set_option maxRecDepth 100000
set_option maxHeartbeats 4000000
namespace Go.Proofs.YtjljhkjpogjdhaaDoor
open Go Go.Proofs Go.RowKit Go.Vc

def sixR (t : Bs) : H5 := if (cutS t [93]).2 = true ∧ (six (cutS t [93]).1).2 = true then (4, [], 0, (six (cutS t [93]).1).1, 0) else noH 8
theorem cutS_len (l m : Bs) : (cutS l m).1.length ≤ l.length := by
  unfold cutS
  split
  · show (l.take _).length ≤ _
    rw [List.length_take]; omega
  · exact Nat.le_refl _

def X_pip6 : Tbl := tblX [(21, ent_csuf), (22, ent_parse6)]
def H_pip6 (l : Bs) : Loops := fun i => none
theorem X_pip6_ok : XOk Tryd.prog noT X_pip6 := tblX_cons ent_csuf_ok (tblX_cons ent_parse6_ok (tblX_nil))
theorem vc_pip6 (l : Bs) (k : PV → Prop) : evF Tryd.prog X_pip6 noT (H_pip6 l) 1000 Tryd.f14 [.str l] k = (
  upto (1 : Int) (lenZ l) (lenZ l) ∧
 ((dropZ l (1 : Int)).length ≤ (1000000 : Nat) ∧ (ByteArray.mk #[(93 : UInt8)]).data.toList.length ≤ (1000000 : Nat)) ∧
 ((cutS (dropZ l (1 : Int)) (ByteArray.mk #[(93 : UInt8)]).data.toList).snd = true →
 (List.length (cutS (dropZ l (1 : Int)) (ByteArray.mk #[(93 : UInt8)]).data.toList).fst).le (1000000 : Nat) ∧
 ((six
 (cutS (dropZ l (1 : Int)) (ByteArray.mk #[(93 : UInt8)]).data.toList).fst).snd =
 true →
 k
 (PV.tup
 [PV.agg
 [PV.int Go.IntKind.i64 (4 : Int), PV.str [], PV.int Go.IntKind.u32 (0 : Int),
 PV.arr (8 : Nat)
 (BRow.ints Go.IntKind.u16
 (six
 (cutS (dropZ l (1 : Int)) (ByteArray.mk #[(93 : UInt8)]).data.toList).fst).fst)],
 PV.int Go.IntKind.i64 (0 : Int)])) ∧
 ((six
 (cutS (dropZ l (1 : Int)) (ByteArray.mk #[(93 : UInt8)]).data.toList).fst).snd =
 false →
 k
 (PV.tup
 [PV.agg
 [PV.int Go.IntKind.i64 (0 : Int), PV.str [], PV.int Go.IntKind.u32 (0 : Int),
 PV.arr (8 : Nat) (BRow.ints Go.IntKind.u16 (List.replicate (8 : Nat) (0 : Int)))],
 PV.int Go.IntKind.i64 (8 : Int)]))) ∧
 ((cutS (dropZ l (1 : Int)) (ByteArray.mk #[(93 : UInt8)]).data.toList).snd = false →
 k
 (PV.tup
 [PV.agg
 [PV.int Go.IntKind.i64 (0 : Int), PV.str [], PV.int Go.IntKind.u32 (0 : Int),
 PV.arr (8 : Nat) (BRow.ints Go.IntKind.u16 (List.replicate (8 : Nat) (0 : Int)))],
 PV.int Go.IntKind.i64 (8 : Int)]))) := by kernel_rfl
attribute [local irreducible] Go.Vc.evF
theorem ok_pip6 (l : Bs) : FuncOk Tryd.prog noT 14 [.str l] ⟨1 ≤ l.length ∧ l.length ≤ 1000000, .tup [.agg [.int .i64 (sixR (l.drop 1)).1, .str (sixR (l.drop 1)).2.1, .int .u32 (sixR (l.drop 1)).2.2.1, .arr 8 (.ints .u16 (sixR (l.drop 1)).2.2.2.1)], .int .i64 (sixR (l.drop 1)).2.2.2.2]⟩ := evF_ok (by kernel_rfl) X_pip6_ok (H := H_pip6 l) (fuel := 1000) Tryd.func14 (by kernel_rfl) fun hpre => (vc_pip6 l _).mpr (by
  obtain ⟨h1, h2⟩ := hpre
  have hd : dropZ l 1 = l.drop 1 := rfl
  have hl : (l.drop 1).length ≤ 1000000 := by rw [List.length_drop]; omega
  have hc := cutS_len (l.drop 1) [93]
  rw [hd]
  refine ⟨⟨by omega, by unfold lenZ; omega, Int.le_refl _⟩, ⟨hl, by decide⟩, fun h => ⟨Nat.le_trans hc hl, fun h3 => ?_, fun h3 => ?_⟩, fun h => ?_⟩
  · have : sixR (l.drop 1) = (4, [], 0, (six (cutS (l.drop 1) [93]).1).1, 0) := by unfold sixR; rw [if_pos ⟨h, h3⟩]
    rw [this]
  · have : sixR (l.drop 1) = noH 8 := by unfold sixR; rw [if_neg (fun g => by have g2 : (six (cutS (l.drop 1) [93]).1).2 = false := h3; rw [g.2] at g2; cases g2)]
    rw [this]; rfl
  · have : sixR (l.drop 1) = noH 8 := by unfold sixR; rw [if_neg (fun g => by have g2 : (cutS (l.drop 1) [93]).2 = false := h; rw [g.1] at g2; cases g2)]
    rw [this]; rfl)
def ent_pip6 : List PV → Option CallR := fun xs => match xs with
  | [.str l] => some ⟨1 ≤ l.length ∧ l.length ≤ 1000000, .tup [.agg [.int .i64 (sixR (l.drop 1)).1, .str (sixR (l.drop 1)).2.1, .int .u32 (sixR (l.drop 1)).2.2.1, .arr 8 (.ints .u16 (sixR (l.drop 1)).2.2.2.1)], .int .i64 (sixR (l.drop 1)).2.2.2.2]⟩
  | _ => none
theorem ent_pip6_ok : ∀ xs c, ent_pip6 xs = some c → FuncOk Tryd.prog noT 14 xs c := fun xs c h => by
  unfold ent_pip6 at h
  split at h
  · injection h with h; subst h; exact ok_pip6 _
  · cases h
end Go.Proofs.YtjljhkjpogjdhaaDoor
end
/- The function gossamer/host.Parse does what is told of it. -/
section
set_option linter.unusedVariables false
set_option linter.unusedSimpArgs false
set_option maxRecDepth 100000
set_option maxHeartbeats 4000000
namespace Go.Proofs.YtjljhkjpogjdhaaDoor
open Go Go.Proofs Go.RowKit Go.Vc

def hostM (l : Bs) : H5 := if preB l [91] = true then sixR (l.drop 1) else domR (lowB (decP l))

def X_hparse : Tbl := tblX [(13, ent_prefix), (14, ent_pip6), (15, ent_pdom), (16, ent_con)]
def H_hparse (l : Bs) : Loops := fun i => none
theorem X_hparse_ok : XOk Tryd.prog noT X_hparse := tblX_cons ent_prefix_ok (tblX_cons ent_pip6_ok (tblX_cons ent_pdom_ok (tblX_cons ent_con_ok (tblX_nil))))
theorem vc_hparse (l : Bs) (k : PV → Prop) : evF Tryd.prog X_hparse noT (H_hparse l) 1000 Tryd.f8 [.str l, .bool true] k = (
  True ∧
 (preB l (ByteArray.mk #[(91 : UInt8)]).data.toList = true →
 ((1 : Nat) ≤ List.length l ∧ List.length l ≤ (1000000 : Nat)) ∧
 k
 (PV.tup
 [PV.agg
 [PV.int Go.IntKind.i64 (sixR (List.drop (1 : Nat) l)).fst,
 PV.str (sixR (List.drop (1 : Nat) l)).snd.fst,
 PV.int Go.IntKind.u32 (sixR (List.drop (1 : Nat) l)).snd.snd.fst,
 PV.arr (8 : Nat) (BRow.ints Go.IntKind.u16 (sixR (List.drop (1 : Nat) l)).snd.snd.snd.fst)],
 PV.int Go.IntKind.i64 (sixR (List.drop (1 : Nat) l)).snd.snd.snd.snd])) ∧
 (preB l (ByteArray.mk #[(91 : UInt8)]).data.toList = false →
 (true = true →
 (List.length l).le (1000000 : Nat) ∧
 k
 (PV.tup
 [PV.agg
 [PV.int Go.IntKind.i64
 (domR (lowB (decP l))).fst,
 PV.str (domR (lowB (decP l))).snd.fst,
 PV.int Go.IntKind.u32
 (domR (lowB (decP l))).snd.snd.fst,
 PV.arr (8 : Nat)
 (BRow.ints Go.IntKind.u16
 (domR (lowB (decP l))).snd.snd.snd.fst)],
 PV.int Go.IntKind.i64
 (domR (lowB (decP l))).snd.snd.snd.snd])) ∧
 (true = false →
 (List.length l ≤ (1000000 : Nat) ∧
 (ByteArray.mk
 #[(0 : UInt8), (9 : UInt8), (10 : UInt8), (13 : UInt8), (32 : UInt8), (35 : UInt8), (47 : UInt8), (58 : UInt8), (60 : UInt8),
 (62 : UInt8), (63 : UInt8), (64 : UInt8), (91 : UInt8), (92 : UInt8), (93 : UInt8), (94 : UInt8),
 (124 : UInt8)]).data.toList.length ≤
 (1000000 : Nat) ∧
 ∀ (b : UInt8),
 b ∈
 (ByteArray.mk
 #[(0 : UInt8), (9 : UInt8), (10 : UInt8), (13 : UInt8), (32 : UInt8), (35 : UInt8), (47 : UInt8), (58 : UInt8), (60 : UInt8),
 (62 : UInt8), (63 : UInt8), (64 : UInt8), (91 : UInt8), (92 : UInt8), (93 : UInt8), (94 : UInt8), (124 : UInt8)]).data.toList →
 b.toNat < (128 : Nat)) ∧
 (conB l
 (ByteArray.mk
 #[(0 : UInt8), (9 : UInt8), (10 : UInt8), (13 : UInt8), (32 : UInt8), (35 : UInt8), (47 : UInt8), (58 : UInt8), (60 : UInt8),
 (62 : UInt8), (63 : UInt8), (64 : UInt8), (91 : UInt8), (92 : UInt8), (93 : UInt8), (94 : UInt8), (124 : UInt8)]).data.toList =
 true →
 k
 (PV.tup
 [PV.agg
 [PV.int Go.IntKind.i64 (0 : Int), PV.str [], PV.int Go.IntKind.u32 (0 : Int),
 PV.arr (8 : Nat) (BRow.ints Go.IntKind.u16 (List.replicate (8 : Nat) (0 : Int)))],
 PV.int Go.IntKind.i64 (8 : Int)])) ∧
 (conB l
 (ByteArray.mk
 #[(0 : UInt8), (9 : UInt8), (10 : UInt8), (13 : UInt8), (32 : UInt8), (35 : UInt8), (47 : UInt8), (58 : UInt8), (60 : UInt8),
 (62 : UInt8), (63 : UInt8), (64 : UInt8), (91 : UInt8), (92 : UInt8), (93 : UInt8), (94 : UInt8), (124 : UInt8)]).data.toList =
 false →
 (decide (l = (ByteArray.mk #[]).data.toList) = true →
 k
 (PV.tup
 [PV.agg
 [PV.int Go.IntKind.i64 (1 : Int), PV.str [], PV.int Go.IntKind.u32 (0 : Int),
 PV.arr (8 : Nat) (BRow.ints Go.IntKind.u16 (List.replicate (8 : Nat) (0 : Int)))],
 PV.int Go.IntKind.i64 (0 : Int)])) ∧
 (decide (l = (ByteArray.mk #[]).data.toList) = false → False))))) := by kernel_rfl
attribute [local irreducible] Go.Vc.evF
theorem ok_hparse (l : Bs) : FuncOk Tryd.prog noT 8 [.str l, .bool true] ⟨l.length ≤ 1000000, .tup [.agg [.int .i64 (hostM l).1, .str (hostM l).2.1, .int .u32 (hostM l).2.2.1, .arr 8 (.ints .u16 (hostM l).2.2.2.1)], .int .i64 (hostM l).2.2.2.2]⟩ := evF_ok (by kernel_rfl) X_hparse_ok (H := H_hparse l) (fuel := 1000) Tryd.func8 (by kernel_rfl) fun hpre => (vc_hparse l _).mpr (by
  have e91 : (ByteArray.mk #[(91 : UInt8)]).data.toList = ([91] : Bs) := rfl
  rw [e91]
  refine ⟨trivial, fun h => ⟨⟨?_, hpre⟩, ?_⟩, fun h => ?_⟩
  · cases l with
    | nil => cases h
    | cons b r => rw [List.length_cons]; omega
  · have : hostM l = sixR (l.drop 1) := by unfold hostM; rw [if_pos h]
    rw [this]
  · have : hostM l = domR (lowB (decP l)) := by unfold hostM; rw [if_neg (by rw [h]; decide)]
    rw [this]
    exact ⟨fun _ => ⟨hpre, rfl⟩, fun h => by cases h⟩)
def ent_hparse : List PV → Option CallR := fun xs => match xs with
  | [.str l, .bool true] => some ⟨l.length ≤ 1000000, .tup [.agg [.int .i64 (hostM l).1, .str (hostM l).2.1, .int .u32 (hostM l).2.2.1, .arr 8 (.ints .u16 (hostM l).2.2.2.1)], .int .i64 (hostM l).2.2.2.2]⟩
  | _ => none
theorem ent_hparse_ok : ∀ xs c, ent_hparse xs = some c → FuncOk Tryd.prog noT 8 xs c := fun xs c h => by
  unfold ent_hparse at h
  split at h
  · injection h with h; subst h; exact ok_hparse _
  · cases h
end Go.Proofs.YtjljhkjpogjdhaaDoor
end
/- The function gossamer/host.Show does what is told of it. -/
section
set_option linter.unusedVariables false
set_option linter.unusedSimpArgs false
set_option maxRecDepth 100000
set_option maxHeartbeats 4000000
namespace Go.Proofs.YtjljhkjpogjdhaaDoor
open Go Go.Proofs Go.RowKit Go.Vc

def X_hshow : Tbl := tblX []
def H_hshow (kd : Int) (l : Bs) (n : Int) (p : List Int) : Loops := fun i => none
theorem X_hshow_ok : XOk Tryd.prog noT X_hshow := tblX_nil
theorem vc_hshow (kd : Int) (l : Bs) (n : Int) (p : List Int) (k : PV → Prop) : evF Tryd.prog X_hshow noT (H_hshow kd l n p) 1000 Tryd.f9 [.agg [.int .i64 kd, .str l, .int .u32 n, .arr 8 (.ints .u16 p)]] k = (
  (decide (kd = (4 : Int)) = true → False) ∧
 (decide (kd = (4 : Int)) = false →
 (decide (kd = (3 : Int)) = true → False) ∧
 (decide (kd = (3 : Int)) = false →
 (decide (kd = (2 : Int)) = true →
 (decide (kd = (2 : Int)) = true → k (PV.str l)) ∧ (decide (kd = (2 : Int)) = false → k (PV.str (ByteArray.mk #[]).data.toList))) ∧
 (decide (kd = (2 : Int)) = false →
 (decide (kd = (5 : Int)) = true → k (PV.str l)) ∧ (decide (kd = (5 : Int)) = false → k (PV.str (ByteArray.mk #[]).data.toList)))))) := by kernel_rfl
attribute [local irreducible] Go.Vc.evF
theorem ok_hshow (kd : Int) (l : Bs) (n : Int) (p : List Int) : FuncOk Tryd.prog noT 9 [.agg [.int .i64 kd, .str l, .int .u32 n, .arr 8 (.ints .u16 p)]] ⟨kd = 2, .str l⟩ := evF_ok (by kernel_rfl) X_hshow_ok (H := H_hshow kd l n p) (fuel := 1000) Tryd.func9 (by kernel_rfl) fun hpre => (vc_hshow kd l n p _).mpr (by
  subst hpre
  refine ⟨fun h => absurd h (by decide), fun _ => ⟨fun h => absurd h (by decide), fun _ => ⟨fun _ => ⟨fun _ => rfl, fun h => absurd h (by decide)⟩, fun h => absurd h (by decide)⟩⟩⟩)
def ent_hshow : List PV → Option CallR := fun xs => match xs with
  | [.agg [.int .i64 kd, .str l, .int .u32 n, .arr 8 (.ints .u16 p)]] => some ⟨kd = 2, .str l⟩
  | _ => none
theorem ent_hshow_ok : ∀ xs c, ent_hshow xs = some c → FuncOk Tryd.prog noT 9 xs c := fun xs c h => by
  unfold ent_hshow at h
  split at h
  · injection h with h; subst h; exact ok_hshow _ _ _ _
  · cases h
end Go.Proofs.YtjljhkjpogjdhaaDoor
end
/- The function gossamer/host.May does what is told of it. -/
section
set_option linter.unusedVariables false
set_option linter.unusedSimpArgs false
set_option maxRecDepth 100000
set_option maxHeartbeats 4000000
namespace Go.Proofs.YtjljhkjpogjdhaaDoor
open Go Go.Proofs Go.RowKit Go.Vc

def X_hmay : Tbl := tblX [(9, ent_hshow), (8, ent_hparse)]
def H_hmay (kd : Int) (l : Bs) (n : Int) (p : List Int) : Loops := fun i => none
theorem X_hmay_ok : XOk Tryd.prog noT X_hmay := tblX_cons ent_hshow_ok (tblX_cons ent_hparse_ok (tblX_nil))
theorem vc_hmay (kd : Int) (l : Bs) (n : Int) (p : List Int) (k : PV → Prop) : evF Tryd.prog X_hmay noT (H_hmay kd l n p) 1000 Tryd.f10 [.agg [.int .i64 kd, .str l, .int .u32 n, .arr 8 (.ints .u16 p)], .bool true] k = (
  kd = (2 : Int) ∧
 (List.length l).le (1000000 : Nat) ∧
 k
 (PV.bool
 (bif decide ((hostM l).snd.snd.snd.snd = (0 : Int)) then
 Bool.rec false
 (decide ((hostM l).snd.fst = l) &&
 (decide ((hostM l).snd.snd.fst = n) &&
 (decide ((hostM l).snd.snd.snd.fst = p) && true)))
 (decide ((hostM l).fst = kd))
 else false))) := by kernel_rfl
attribute [local irreducible] Go.Vc.evF
theorem ok_hmay (kd : Int) (l : Bs) (n : Int) (p : List Int) : FuncOk Tryd.prog noT 10 [.agg [.int .i64 kd, .str l, .int .u32 n, .arr 8 (.ints .u16 p)], .bool true] ⟨kd = 2 ∧ l.length ≤ 1000000 ∧ hostM l = (kd, l, n, p, 0), .bool true⟩ := evF_ok (by kernel_rfl) X_hmay_ok (H := H_hmay kd l n p) (fuel := 1000) Tryd.func10 (by kernel_rfl) fun hpre => (vc_hmay kd l n p _).mpr (by
  obtain ⟨h1, h2, h3⟩ := hpre
  refine ⟨h1, h2, ?_⟩
  rw [h3]
  dsimp only
  rw [decide_eq_true (rfl : kd = kd), decide_eq_true (rfl : l = l), decide_eq_true (rfl : n = n), decide_eq_true (rfl : p = p)]
  rfl)
def ent_hmay : List PV → Option CallR := fun xs => match xs with
  | [.agg [.int .i64 kd, .str l, .int .u32 n, .arr 8 (.ints .u16 p)], .bool true] => some ⟨kd = 2 ∧ l.length ≤ 1000000 ∧ hostM l = (kd, l, n, p, 0), .bool true⟩
  | _ => none
theorem ent_hmay_ok : ∀ xs c, ent_hmay xs = some c → FuncOk Tryd.prog noT 10 xs c := fun xs c h => by
  unfold ent_hmay at h
  split at h
  · injection h with h; subst h; exact ok_hmay _ _ _ _
  · cases h
end Go.Proofs.YtjljhkjpogjdhaaDoor
end
/- The function gossamer/gossamerlaw10.awake does what is told of it. -/
section
set_option linter.unusedVariables false
set_option linter.unusedSimpArgs false
set_option maxRecDepth 100000
set_option maxHeartbeats 4000000
namespace Go.Proofs.YtjljhkjpogjdhaaDoor
open Go Go.Proofs Go.RowKit Go.Vc

def X_awake : Tbl := tblX [(9, ent_hshow), (8, ent_hparse), (10, ent_hmay)]
def H_awake  : Loops := fun i => none
theorem X_awake_ok : XOk Tryd.prog noT X_awake := tblX_cons ent_hshow_ok (tblX_cons ent_hparse_ok (tblX_cons ent_hmay_ok (tblX_nil)))
theorem vc_awake  (k : PV → Prop) : evF Tryd.prog X_awake noT (H_awake ) 1000 Tryd.f7 [] k = (
  (ByteArray.mk
 #[(69 : UInt8), (88 : UInt8), (37 : UInt8), (52 : UInt8), (49 : UInt8), (109 : UInt8), (112 : UInt8), (108 : UInt8), (101 : UInt8), (46 : UInt8),
 (111 : UInt8), (114 : UInt8), (103 : UInt8)]).data.toList.length.le
 (1000000 : Nat) ∧
 (ByteArray.mk #[(97 : UInt8), (46 : UInt8), (98 : UInt8), (46 : UInt8), (55 : UInt8)]).data.toList.length.le (1000000 : Nat) ∧
 (ByteArray.mk #[(195 : UInt8), (169 : UInt8)]).data.toList.length.le (1000000 : Nat) ∧
 (decide ((9 : Int) = (9 : Int)) = true → (2 : Int) = (2 : Int)) ∧
 (decide
 (lowB
 (decP
 (ByteArray.mk
 #[(69 : UInt8), (88 : UInt8), (37 : UInt8), (52 : UInt8), (49 : UInt8), (109 : UInt8), (112 : UInt8), (108 : UInt8), (101 : UInt8),
 (46 : UInt8), (111 : UInt8), (114 : UInt8), (103 : UInt8)]).data.toList) =
 (ByteArray.mk
 #[(101 : UInt8), (120 : UInt8), (97 : UInt8), (109 : UInt8), (112 : UInt8), (108 : UInt8), (101 : UInt8), (46 : UInt8), (111 : UInt8),
 (114 : UInt8), (103 : UInt8)]).data.toList) =
 true →
 (2 : Int) = (2 : Int) ∧
 List.length
 (lowB
 (decP
 (ByteArray.mk
 #[(69 : UInt8), (88 : UInt8), (37 : UInt8), (52 : UInt8), (49 : UInt8), (109 : UInt8), (112 : UInt8), (108 : UInt8),
 (101 : UInt8), (46 : UInt8), (111 : UInt8), (114 : UInt8), (103 : UInt8)]).data.toList)) ≤
 (1000000 : Nat) ∧
 hostM
 (lowB
 (decP
 (ByteArray.mk
 #[(69 : UInt8), (88 : UInt8), (37 : UInt8), (52 : UInt8), (49 : UInt8), (109 : UInt8), (112 : UInt8), (108 : UInt8),
 (101 : UInt8), (46 : UInt8), (111 : UInt8), (114 : UInt8), (103 : UInt8)]).data.toList)) =
 ((2 : Int),
 lowB
 (decP
 (ByteArray.mk
 #[(69 : UInt8), (88 : UInt8), (37 : UInt8), (52 : UInt8), (49 : UInt8), (109 : UInt8), (112 : UInt8), (108 : UInt8),
 (101 : UInt8), (46 : UInt8), (111 : UInt8), (114 : UInt8), (103 : UInt8)]).data.toList),
 (0 : Int), z8, (0 : Int))) ∧
 k (PV.bool true)) := by kernel_rfl
attribute [local irreducible] Go.Vc.evF
theorem ok_awake  : FuncOk Tryd.prog noT 7 [] ⟨True, .bool true⟩ := evF_ok (by kernel_rfl) X_awake_ok (H := H_awake ) (fuel := 1000) Tryd.func7 (by kernel_rfl) fun hpre => (vc_awake  _).mpr (by
  refine ⟨Nat.le_of_ble_eq_true rfl, Nat.le_of_ble_eq_true rfl, Nat.le_of_ble_eq_true rfl, fun _ => rfl, fun _ => ⟨rfl, by decide, by kernel_rfl⟩, rfl⟩)
def ent_awake : List PV → Option CallR := fun xs => match xs with
  | [] => some ⟨True, .bool true⟩
  | _ => none
theorem ent_awake_ok : ∀ xs c, ent_awake xs = some c → FuncOk Tryd.prog noT 7 xs c := fun xs c h => by
  unfold ent_awake at h
  split at h
  · injection h with h; subst h; exact ok_awake 
  · cases h
end Go.Proofs.YtjljhkjpogjdhaaDoor
end
/- The function gossamer/utf.Next does what is told of it. -/
section
set_option linter.unusedVariables false
set_option linter.unusedSimpArgs false
set_option maxRecDepth 100000
set_option maxHeartbeats 4000000
namespace Go.Proofs.YtjljhkjpogjdhaaDoor
open Go Go.Proofs Go.RowKit Go.Vc

def X_unext : Tbl := tblX []
def H_unext (nl : Bool) (l : Bs) : Loops := fun i => none
theorem X_unext_ok : XOk Tryd.prog noT X_unext := tblX_nil
theorem vc_unext (nl : Bool) (l : Bs) (k : PV → Prop) : evF Tryd.prog X_unext noT (H_unext nl l) 1000 Tryd.f70 [.row nl (.bytes l) 0] k = (
  (decide (Int.ofNat (List.length l) = (0 : Int)) = true →
 k (PV.tup [PV.int Go.IntKind.i32 (0 : Int), PV.int Go.IntKind.i64 (0 : Int), PV.bool false])) ∧
 (decide (Int.ofNat (List.length l) = (0 : Int)) = false →
 within (0 : Int) (Int.ofNat (List.length l)) ∧
 (decide (byteZ l (0 : Int) ≤ (127 : Int)) = true →
 within (0 : Int) (Int.ofNat (List.length l)) ∧
 k
 (PV.tup
 [PV.int Go.IntKind.i32 (Go.IntKind.i32.wrap (byteZ l (0 : Int))), PV.int Go.IntKind.i64 (1 : Int), PV.bool true])) ∧
 (decide (byteZ l (0 : Int) ≤ (127 : Int)) = false → within (0 : Int) (Int.ofNat (List.length l)) ∧ False))) := by kernel_rfl
attribute [local irreducible] Go.Vc.evF
theorem ok_unext (nl : Bool) (l : Bs) : FuncOk Tryd.prog noT 70 [.row nl (.bytes l) 0] ⟨0 < l.length ∧ byteZ l 0 ≤ 127, .tup [.int .i32 (byteZ l 0), .int .i64 1, .bool true]⟩ := evF_ok (by kernel_rfl) X_unext_ok (H := H_unext nl l) (fuel := 1000) Tryd.func70 (by kernel_rfl) fun hpre => (vc_unext nl l _).mpr (by
  obtain ⟨h1, h2⟩ := hpre
  have hr := byteZ_range l 0
  have hof : Int.ofNat (List.length l) = (l.length : Int) := rfl
  rw [hof]
  refine ⟨fun h => ?_, fun _ => ⟨by unfold within; omega, fun _ => ⟨by unfold within; omega, ?_⟩, fun h => ?_⟩⟩
  · have := of_decide_eq_true h; omega
  · rw [IntWalk.i32_in _ (by omega)]
  · have := of_decide_eq_false h; omega)
def ent_unext : List PV → Option CallR := fun xs => match xs with
  | [.row nl (.bytes l) 0] => some ⟨0 < l.length ∧ byteZ l 0 ≤ 127, .tup [.int .i32 (byteZ l 0), .int .i64 1, .bool true]⟩
  | _ => none
theorem ent_unext_ok : ∀ xs c, ent_unext xs = some c → FuncOk Tryd.prog noT 70 xs c := fun xs c h => by
  unfold ent_unext at h
  split at h
  · injection h with h; subst h; exact ok_unext _ _
  · cases h
end Go.Proofs.YtjljhkjpogjdhaaDoor
end
/- The function gossamer/utf.Valid does what is told of it. -/
section
set_option linter.unusedVariables false
set_option linter.unusedSimpArgs false
set_option maxRecDepth 100000
set_option maxHeartbeats 4000000
namespace Go.Proofs.YtjljhkjpogjdhaaDoor
open Go Go.Proofs Go.RowKit Go.Vc

def visC (b : UInt8) : Bool := decide (32 ≤ b.toNat ∧ b.toNat ≤ 126)
def ValI (l : Bs) (i : Int) : Prop := ∃ j : Nat, i = j ∧ j ≤ l.length
theorem vis_at {l : Bs} (h : l.all visC = true) {j : Nat} (hj : j < l.length) : 32 ≤ (l.getD j 0).toNat ∧ (l.getD j 0).toNat ≤ 126 := by
  have := List.all_eq_true.1 h _ (getD_in l j hj)
  unfold visC at this
  exact of_decide_eq_true this

def X_uvalid : Tbl := tblX [(70, ent_unext)]
def H_uvalid (nl : Bool) (l : Bs) : Loops := fun i => bif Nat.beq i 2 then some ⟨(Int), (fun s x => (((((((s.put 3 (.int .i64 x)).put 4 .undef).put 5 .undef).put 6 .undef).put 10 .undef).put 11 .undef).put 20 .undef)), (fun s => s.int 3), (fun s x => let i := x; ValI l i), (fun s x => let i := x; ((l.length : Int) - i).toNat), [4, 5, 6, 10, 11, 20]⟩ else none
theorem X_uvalid_ok : XOk Tryd.prog noT X_uvalid := tblX_cons ent_unext_ok (tblX_nil)
theorem vc_uvalid (nl : Bool) (l : Bs) (k : PV → Prop) : evF Tryd.prog X_uvalid noT (H_uvalid nl l) 1000 Tryd.f55 [.row nl (.bytes l) 0] k = (
  VS.mk []
 [(nat_lit 0, PV.row nl (BRow.bytes l) (0 : Nat)), (nat_lit 2, PV.bool false), (nat_lit 3, PV.int Go.IntKind.i64 (0 : Int)),
 ((5 : Nat), PV.undef), ((6 : Nat), PV.undef), ((10 : Nat), PV.undef), ((20 : Nat), PV.undef)]
 [] =
 VS.mk []
 [(nat_lit 0, PV.row nl (BRow.bytes l) (0 : Nat)), (nat_lit 2, PV.bool false), ((3 : Nat), PV.int Go.IntKind.i64 (0 : Int)),
 ((5 : Nat), PV.undef), ((6 : Nat), PV.undef), ((10 : Nat), PV.undef), ((20 : Nat), PV.undef)]
 [] ∧
 ValI l (0 : Int) ∧
 ∀ (x : Int),
 ValI l x →
 (decide (x < Int.ofNat (List.length l)) = true →
 upto x (Int.ofNat (List.length l)) (Int.ofNat (List.length l)) ∧
 ((0 : Nat) < (dropZ l x).length ∧ byteZ (dropZ l x) (0 : Int) ≤ (127 : Int)) ∧
 ((!true) = true → k (PV.bool false)) ∧
 ((!true) = false →
 inI64 (x + (1 : Int)) ∧
 VS.mk []
 [(nat_lit 0, PV.row nl (BRow.bytes l) (0 : Nat)), (nat_lit 2, PV.bool false),
 ((3 : Nat), PV.int Go.IntKind.i64 (x + (1 : Int))), ((5 : Nat), PV.undef), ((6 : Nat), PV.undef),
 ((10 : Nat), PV.undef), ((20 : Nat), PV.undef)]
 [] =
 VS.mk []
 [(nat_lit 0, PV.row nl (BRow.bytes l) (0 : Nat)), (nat_lit 2, PV.bool false),
 ((3 : Nat), PV.int Go.IntKind.i64 (x + (1 : Int))), ((5 : Nat), PV.undef), ((6 : Nat), PV.undef),
 ((10 : Nat), PV.undef), ((20 : Nat), PV.undef)]
 [] ∧
 ValI l (x + (1 : Int)) ∧ (↑(List.length l) - (x + (1 : Int))).toNat < (↑(List.length l) - x).toNat)) ∧
 (decide (x < Int.ofNat (List.length l)) = false → k (PV.bool true))) := by kernel_rfl
attribute [local irreducible] Go.Vc.evF
theorem ok_uvalid (nl : Bool) (l : Bs) : FuncOk Tryd.prog noT 55 [.row nl (.bytes l) 0] ⟨l.length ≤ 1000000 ∧ l.all visC = true, .bool true⟩ := evF_ok (by kernel_rfl) X_uvalid_ok (H := H_uvalid nl l) (fuel := 1000) Tryd.func55 (by kernel_rfl) fun hpre => (vc_uvalid nl l _).mpr (by
  obtain ⟨hl, hv⟩ := hpre
  have hof : Int.ofNat (List.length l) = (l.length : Int) := rfl
  rw [hof]
  refine ⟨rfl, ⟨0, rfl, by omega⟩, fun x hx => ?_⟩
  obtain ⟨j, rfl, hj⟩ := hx
  have e1 : (j : Int) + 1 = ((j + 1 : Nat) : Int) := by push_cast; rfl
  refine ⟨fun h => ?_, fun h => rfl⟩
  have hjl : j < l.length := by have := of_decide_eq_true h; omega
  have hb := vis_at hv hjl
  have hd : byteZ (dropZ l (j : Int)) 0 = ((l.getD j 0).toNat : Int) := by
    unfold byteZ dropZ
    rw [Int.toNat_natCast, List.getD_eq_getElem?_getD, List.getD_eq_getElem?_getD, List.getElem?_drop]; rfl
  rw [hd]
  refine ⟨⟨by omega, by omega, Int.le_refl _⟩, ⟨?_, by omega⟩, fun h => (by cases h), fun _ => ⟨by unfold inI64; omega, rfl, ⟨j + 1, e1, by omega⟩, by omega⟩⟩
  unfold dropZ
  rw [List.length_drop]; omega)
def ent_uvalid : List PV → Option CallR := fun xs => match xs with
  | [.row nl (.bytes l) 0] => some ⟨l.length ≤ 1000000 ∧ l.all visC = true, .bool true⟩
  | _ => none
theorem ent_uvalid_ok : ∀ xs c, ent_uvalid xs = some c → FuncOk Tryd.prog noT 55 xs c := fun xs c h => by
  unfold ent_uvalid at h
  split at h
  · injection h with h; subst h; exact ok_uvalid _ _
  · cases h
end Go.Proofs.YtjljhkjpogjdhaaDoor
end
/- The function gossamer/walk.Plain does what is told of it. -/
section
set_option linter.unusedVariables false
set_option linter.unusedSimpArgs false
set_option maxRecDepth 100000
set_option maxHeartbeats 4000000
namespace Go.Proofs.YtjljhkjpogjdhaaDoor
open Go Go.Proofs Go.RowKit Go.Vc

def X_plain : Tbl := tblX [(55, ent_uvalid)]
def H_plain (l : Bs) : Loops := fun i => none
theorem X_plain_ok : XOk Tryd.prog noT X_plain := tblX_cons ent_uvalid_ok (tblX_nil)
theorem vc_plain (l : Bs) (k : PV → Prop) : evF Tryd.prog X_plain noT (H_plain l) 1000 Tryd.f31 [.str l] k = (
  List.length l ≤ Go.Vc.maxLen ∧
 (List.length l ≤ (1000000 : Nat) ∧ List.all l visC = true) ∧
 (true = true → k (PV.str l)) ∧ (true = false → List.length l ≤ Go.Vc.maxLen ∧ False)) := by kernel_rfl
attribute [local irreducible] Go.Vc.evF
theorem ok_plain (l : Bs) : FuncOk Tryd.prog noT 31 [.str l] ⟨l.length ≤ 1000000 ∧ l.all visC = true, .str l⟩ := evF_ok (by kernel_rfl) X_plain_ok (H := H_plain l) (fuel := 1000) Tryd.func31 (by kernel_rfl) fun hpre => (vc_plain l _).mpr (by
  have hml : Go.Vc.maxLen = 1099511627776 := rfl
  exact ⟨by omega, hpre, fun _ => rfl, fun h => by cases h⟩)
def ent_plain : List PV → Option CallR := fun xs => match xs with
  | [.str l] => some ⟨l.length ≤ 1000000 ∧ l.all visC = true, .str l⟩
  | _ => none
theorem ent_plain_ok : ∀ xs c, ent_plain xs = some c → FuncOk Tryd.prog noT 31 xs c := fun xs c h => by
  unfold ent_plain at h
  split at h
  · injection h with h; subst h; exact ok_plain _
  · cases h
end Go.Proofs.YtjljhkjpogjdhaaDoor
end
/- The function gossamer/pct.more does what is told of it. -/
section
set_option linter.unusedVariables false
set_option linter.unusedSimpArgs false
set_option maxRecDepth 100000
set_option maxHeartbeats 4000000
namespace Go.Proofs.YtjljhkjpogjdhaaDoor
open Go Go.Proofs Go.RowKit Go.Vc

def nilB : Bs := []

def X_pmore : Tbl := tblX []
def H_pmore  : Loops := fun i => none
theorem X_pmore_ok : XOk Tryd.prog noT X_pmore := tblX_nil
theorem vc_pmore  (k : PV → Prop) : evF Tryd.prog X_pmore noT (H_pmore ) 1000 Tryd.f32 [.int .i64 0] k = (
  (decide ((0 : Int) = (0 : Int)) = true → k (PV.tup [PV.str (ByteArray.mk #[]).data.toList, PV.bool true])) ∧
 (decide ((0 : Int) = (0 : Int)) = false →
 (decide ((0 : Int) = (1 : Int)) = true →
 k
 (PV.tup
 [PV.str (ByteArray.mk #[(32 : UInt8), (34 : UInt8), (60 : UInt8), (62 : UInt8), (96 : UInt8)]).data.toList, PV.bool true])) ∧
 (decide ((0 : Int) = (1 : Int)) = false →
 (decide ((0 : Int) = (2 : Int)) = true →
 k
 (PV.tup
 [PV.str (ByteArray.mk #[(32 : UInt8), (34 : UInt8), (35 : UInt8), (60 : UInt8), (62 : UInt8)]).data.toList, PV.bool true])) ∧
 (decide ((0 : Int) = (2 : Int)) = false →
 (decide ((0 : Int) = (3 : Int)) = true →
 k
 (PV.tup
 [PV.str (ByteArray.mk #[(32 : UInt8), (34 : UInt8), (35 : UInt8), (60 : UInt8), (62 : UInt8), (39 : UInt8)]).data.toList,
 PV.bool true])) ∧
 (decide ((0 : Int) = (3 : Int)) = false →
 (decide ((0 : Int) = (4 : Int)) = true →
 k
 (PV.tup
 [PV.str
 (ByteArray.mk
 #[(32 : UInt8), (34 : UInt8), (35 : UInt8), (60 : UInt8), (62 : UInt8), (63 : UInt8), (94 : UInt8), (96 : UInt8),
 (123 : UInt8), (125 : UInt8)]).data.toList,
 PV.bool true])) ∧
 (decide ((0 : Int) = (4 : Int)) = false →
 (decide ((0 : Int) = (5 : Int)) = true →
 k
 (PV.tup
 [PV.str
 (ByteArray.mk
 #[(32 : UInt8), (34 : UInt8), (35 : UInt8), (60 : UInt8), (62 : UInt8), (63 : UInt8), (94 : UInt8), (96 : UInt8),
 (123 : UInt8), (125 : UInt8), (47 : UInt8), (58 : UInt8), (59 : UInt8), (61 : UInt8), (64 : UInt8), (91 : UInt8),
 (92 : UInt8), (93 : UInt8), (124 : UInt8)]).data.toList,
 PV.bool true])) ∧
 (decide ((0 : Int) = (5 : Int)) = false →
 (decide ((0 : Int) = (6 : Int)) = true →
 k
 (PV.tup
 [PV.str
 (ByteArray.mk
 #[(32 : UInt8), (34 : UInt8), (35 : UInt8), (60 : UInt8), (62 : UInt8), (63 : UInt8), (94 : UInt8), (96 : UInt8),
 (123 : UInt8), (125 : UInt8), (47 : UInt8), (58 : UInt8), (59 : UInt8), (61 : UInt8), (64 : UInt8), (91 : UInt8),
 (92 : UInt8), (93 : UInt8), (124 : UInt8), (36 : UInt8), (37 : UInt8), (38 : UInt8), (43 : UInt8),
 (44 : UInt8)]).data.toList,
 PV.bool true])) ∧
 (decide ((0 : Int) = (6 : Int)) = false → k (PV.tup [PV.str (ByteArray.mk #[]).data.toList, PV.bool false]))))))))) := by kernel_rfl
attribute [local irreducible] Go.Vc.evF
theorem ok_pmore  : FuncOk Tryd.prog noT 32 [.int .i64 0] ⟨True, .tup [.str nilB, .bool true]⟩ := evF_ok (by kernel_rfl) X_pmore_ok (H := H_pmore ) (fuel := 1000) Tryd.func32 (by kernel_rfl) fun hpre => (vc_pmore  _).mpr (by
  exact ⟨fun _ => rfl, fun h => absurd h (by decide)⟩)
def ent_pmore : List PV → Option CallR := fun xs => match xs with
  | [.int .i64 0] => some ⟨True, .tup [.str nilB, .bool true]⟩
  | _ => none
theorem ent_pmore_ok : ∀ xs c, ent_pmore xs = some c → FuncOk Tryd.prog noT 32 xs c := fun xs c h => by
  unfold ent_pmore at h
  split at h
  · injection h with h; subst h; exact ok_pmore 
  · cases h
end Go.Proofs.YtjljhkjpogjdhaaDoor
end
/- The function gossamer/pct.in does what is told of it. -/
section
set_option linter.unusedVariables false
set_option linter.unusedSimpArgs false
set_option maxRecDepth 100000
set_option maxHeartbeats 4000000
namespace Go.Proofs.YtjljhkjpogjdhaaDoor
open Go Go.Proofs Go.RowKit Go.Vc

def X_pin : Tbl := tblX [(58, ent_sib)]
def H_pin (l : Bs) (r : Int) : Loops := fun i => none
theorem X_pin_ok : XOk Tryd.prog noT X_pin := tblX_cons ent_sib_ok (tblX_nil)
theorem vc_pin (l : Bs) (r : Int) (k : PV → Prop) : evF Tryd.prog X_pin noT (H_pin l r) 1000 Tryd.f33 [.str l, .int .i32 r] k = (
  ((bif decide (r < (0 : Int)) then true else decide ((1114111 : Int) < r)) = true → k (PV.bool false)) ∧
 ((bif decide (r < (0 : Int)) then true else decide ((1114111 : Int) < r)) = false →
 ((bif decide (r < (32 : Int)) then true else decide ((126 : Int) < r)) = true → k (PV.bool true)) ∧
 ((bif decide (r < (32 : Int)) then true else decide ((126 : Int) < r)) = false →
 True ∧ k (PV.bool (decide ((0 : Int) ≤ sibB l (Go.IntKind.u8.wrap r))))))) := by kernel_rfl
attribute [local irreducible] Go.Vc.evF
theorem ok_pin (l : Bs) (r : Int) : FuncOk Tryd.prog noT 33 [.str l, .int .i32 r] ⟨l = nilB ∧ 32 ≤ r ∧ r ≤ 126, .bool false⟩ := evF_ok (by kernel_rfl) X_pin_ok (H := H_pin l r) (fuel := 1000) Tryd.func33 (by kernel_rfl) fun hpre => (vc_pin l r _).mpr (by
  obtain ⟨rfl, h1, h2⟩ := hpre
  refine ⟨fun h => ?_, fun _ => ⟨fun h => ?_, fun _ => ⟨trivial, ?_⟩⟩⟩
  · rw [decide_eq_false (show ¬ r < 0 by omega), decide_eq_false (show ¬ (1114111 : Int) < r by omega)] at h; try cases h
  · rw [decide_eq_false (show ¬ r < 32 by omega), decide_eq_false (show ¬ (126 : Int) < r by omega)] at h; try cases h
  · rfl)
def ent_pin : List PV → Option CallR := fun xs => match xs with
  | [.str l, .int .i32 r] => some ⟨l = nilB ∧ 32 ≤ r ∧ r ≤ 126, .bool false⟩
  | _ => none
theorem ent_pin_ok : ∀ xs c, ent_pin xs = some c → FuncOk Tryd.prog noT 33 xs c := fun xs c h => by
  unfold ent_pin at h
  split at h
  · injection h with h; subst h; exact ok_pin _ _
  · cases h
end Go.Proofs.YtjljhkjpogjdhaaDoor
end
/- The function gossamer/pct.Encode does what is told of it. -/
section
set_option linter.unusedVariables false
set_option linter.unusedSimpArgs false
set_option maxRecDepth 100000
set_option maxHeartbeats 4000000
namespace Go.Proofs.YtjljhkjpogjdhaaDoor
open Go Go.Proofs Go.RowKit Go.Vc

def X_penc : Tbl := tblX [(31, ent_plain), (32, ent_pmore), (33, ent_pin)]
def H_penc (l : Bs) : Loops := fun i => bif Nat.beq i 6 then some ⟨(Int), (fun s x => (((s.put 7 (.int .i64 x)).put 24 .undef).put 33 .undef)), (fun s => s.int 7), (fun s x => let i := x; ValI l i), (fun s x => let i := x; ((l.length : Int) - i).toNat), [24, 33]⟩ else none
theorem X_penc_ok : XOk Tryd.prog noT X_penc := tblX_cons ent_plain_ok (tblX_cons ent_pmore_ok (tblX_cons ent_pin_ok (tblX_nil)))
theorem vc_penc (l : Bs) (k : PV → Prop) : evF Tryd.prog X_penc noT (H_penc l) 1000 Tryd.f17 [.str l, .int .i64 0] k = (
  (List.length l ≤ (1000000 : Nat) ∧ List.all l visC = true) ∧
 True ∧
 ((!true) = true → k (PV.str l)) ∧
 ((!true) = false →
 VS.mk []
 [(nat_lit 0, PV.str l), (nat_lit 1, PV.int Go.IntKind.i64 (0 : Int)), (nat_lit 4, PV.str (ByteArray.mk #[]).data.toList),
 (nat_lit 5, PV.str nilB), (nat_lit 6, PV.bool true),
 (nat_lit 7, PV.int Go.IntKind.i64 (0 : Int)), (nat_lit 8, PV.undef), (nat_lit 10, PV.undef),
 (nat_lit 19, PV.bool !true), ((33 : Nat), PV.undef), (nat_lit 39, PV.undef), (nat_lit 55, PV.undef),
 (nat_lit 56, PV.undef), (nat_lit 57, PV.undef), (nat_lit 58, PV.undef), (nat_lit 64, PV.undef)]
 [] =
 VS.mk []
 [(nat_lit 0, PV.str l), (nat_lit 1, PV.int Go.IntKind.i64 (0 : Int)), (nat_lit 4, PV.str (ByteArray.mk #[]).data.toList),
 (nat_lit 5, PV.str nilB), (nat_lit 6, PV.bool true),
 ((7 : Nat), PV.int Go.IntKind.i64 (0 : Int)), (nat_lit 8, PV.undef), (nat_lit 10, PV.undef),
 (nat_lit 19, PV.bool !true), ((33 : Nat), PV.undef), (nat_lit 39, PV.undef), (nat_lit 55, PV.undef),
 (nat_lit 56, PV.undef), (nat_lit 57, PV.undef), (nat_lit 58, PV.undef), (nat_lit 64, PV.undef)]
 [] ∧
 ValI l (0 : Int) ∧
 ∀ (x : Int),
 ValI l x →
 (decide (x < lenZ l) = true → within x (lenZ l)) ∧
 (decide (x < lenZ l) = true →
 nilB = nilB ∧
 (32 : Int) ≤ Go.IntKind.i32.wrap (byteZ l x) ∧ Go.IntKind.i32.wrap (byteZ l x) ≤ (126 : Int)) ∧
 ((bif decide (x < lenZ l) then !false else false) = true →
 inI64 (x + (1 : Int)) ∧
 VS.mk []
 [(nat_lit 0, PV.str l), (nat_lit 1, PV.int Go.IntKind.i64 (0 : Int)),
 (nat_lit 4, PV.str (ByteArray.mk #[]).data.toList), (nat_lit 5, PV.str nilB),
 (nat_lit 6, PV.bool true), ((7 : Nat), PV.int Go.IntKind.i64 (x + (1 : Int))), (nat_lit 8, PV.undef),
 (nat_lit 10, PV.undef), (nat_lit 19, PV.bool !true), ((33 : Nat), PV.undef), (nat_lit 39, PV.undef),
 (nat_lit 55, PV.undef), (nat_lit 56, PV.undef), (nat_lit 57, PV.undef), (nat_lit 58, PV.undef),
 (nat_lit 64, PV.undef)]
 [] =
 VS.mk []
 [(nat_lit 0, PV.str l), (nat_lit 1, PV.int Go.IntKind.i64 (0 : Int)),
 (nat_lit 4, PV.str (ByteArray.mk #[]).data.toList), (nat_lit 5, PV.str nilB),
 (nat_lit 6, PV.bool true), ((7 : Nat), PV.int Go.IntKind.i64 (x + (1 : Int))), (nat_lit 8, PV.undef),
 (nat_lit 10, PV.undef), (nat_lit 19, PV.bool !true), ((33 : Nat), PV.undef), (nat_lit 39, PV.undef),
 (nat_lit 55, PV.undef), (nat_lit 56, PV.undef), (nat_lit 57, PV.undef), (nat_lit 58, PV.undef),
 (nat_lit 64, PV.undef)]
 [] ∧
 ValI l (x + (1 : Int)) ∧ (↑(List.length l) - (x + (1 : Int))).toNat < (↑(List.length l) - x).toNat) ∧
 ((bif decide (x < lenZ l) then !false else false) = false →
 (decide (x = lenZ l) = true → k (PV.str l)) ∧
 (decide (x = lenZ l) = false →
 ((0 : Int) ≤ lenZ l ∧ (0 : Int) < (2 : Int) ∧ lenZ l ≤ (9223372036854775807 : Int)) ∧
 inI64 (lenZ l + lenZ l / (2 : Int)) ∧
 upto (0 : Int) x (lenZ l) ∧
 ((0 : Int) ≤ (0 : Int) ∧
 (0 : Int) ≤ lenZ l + lenZ l / (2 : Int) ∧ lenZ l + lenZ l / (2 : Int) ≤ maxRow) ∧
 Int.ofNat (List.length (List.replicate (Int.toNat (0 : Int)) (0 : UInt8) ++ takeZ l x)) ≤ maxRow ∧
 upto x (lenZ l) (lenZ l) ∧ (dropZ l x).length ≤ Go.Vc.maxLen ∧ False)))) := by kernel_rfl
attribute [local irreducible] Go.Vc.evF
theorem ok_penc (l : Bs) : FuncOk Tryd.prog noT 17 [.str l, .int .i64 0] ⟨l.length ≤ 1000000 ∧ l.all visC = true, .str l⟩ := evF_ok (by kernel_rfl) X_penc_ok (H := H_penc l) (fuel := 1000) Tryd.func17 (by kernel_rfl) fun hpre => (vc_penc l _).mpr (by
  obtain ⟨hl, hv⟩ := hpre
  refine ⟨⟨hl, hv⟩, trivial, fun h => (by cases h), fun _ => ⟨rfl, ⟨0, rfl, by omega⟩, fun x hx => ?_⟩⟩
  obtain ⟨j, rfl, hj⟩ := hx
  have e1 : (j : Int) + 1 = ((j + 1 : Nat) : Int) := by push_cast; rfl
  refine ⟨fun h => ?_, fun h => ?_, fun h => ?_, fun h => ?_⟩
  · have := of_decide_eq_true h; unfold within; unfold lenZ at this ⊢; omega
  · have hjl : j < l.length := by have := of_decide_eq_true h; unfold lenZ at this; omega
    have hb := vis_at hv hjl
    have hz : byteZ l (j : Int) = ((l.getD j 0).toNat : Int) := rfl
    rw [hz, IntWalk.i32_in _ (by omega)]
    exact ⟨rfl, by omega, by omega⟩
  · have hjl : j < l.length := by
      cases e : decide ((j : Int) < lenZ l) with
      | false => rw [e] at h; cases h
      | true => have := of_decide_eq_true e; unfold lenZ at this; omega
    exact ⟨by unfold inI64; omega, rfl, ⟨j + 1, e1, by omega⟩, by omega⟩
  · have hjl : j = l.length := by
      cases e : decide ((j : Int) < lenZ l) with
      | false => have := of_decide_eq_false e; unfold lenZ at this; omega
      | true => rw [e] at h; cases h
    refine ⟨fun _ => rfl, fun h => ?_⟩
    have := of_decide_eq_false h
    unfold lenZ at this
    exact absurd (by omega) this)
def ent_penc : List PV → Option CallR := fun xs => match xs with
  | [.str l, .int .i64 0] => some ⟨l.length ≤ 1000000 ∧ l.all visC = true, .str l⟩
  | _ => none
theorem ent_penc_ok : ∀ xs c, ent_penc xs = some c → FuncOk Tryd.prog noT 17 xs c := fun xs c h => by
  unfold ent_penc at h
  split at h
  · injection h with h; subst h; exact ok_penc _
  · cases h
end Go.Proofs.YtjljhkjpogjdhaaDoor
end
/- The function gossamer/host.Parse does what is told of it. -/
section
set_option linter.unusedVariables false
set_option linter.unusedSimpArgs false
set_option maxRecDepth 100000
set_option maxHeartbeats 4000000
namespace Go.Proofs.YtjljhkjpogjdhaaDoor
open Go Go.Proofs Go.RowKit Go.Vc

def hostZ (l : Bs) : H5 := if conB l neverL = true then noH 8 else (5, l, 0, z8, 0)

def X_hparse0 : Tbl := tblX [(13, ent_prefix), (16, ent_con), (14, ent_pip6), (15, ent_pdom), (17, ent_penc)]
def H_hparse0 (l : Bs) : Loops := fun i => none
theorem X_hparse0_ok : XOk Tryd.prog noT X_hparse0 := tblX_cons ent_prefix_ok (tblX_cons ent_con_ok (tblX_cons ent_pip6_ok (tblX_cons ent_pdom_ok (tblX_cons ent_penc_ok (tblX_nil)))))
theorem vc_hparse0 (l : Bs) (k : PV → Prop) : evF Tryd.prog X_hparse0 noT (H_hparse0 l) 1000 Tryd.f8 [.str l, .bool false] k = (
  True ∧
 (preB l (ByteArray.mk #[(91 : UInt8)]).data.toList = true →
 ((1 : Nat) ≤ List.length l ∧ List.length l ≤ (1000000 : Nat)) ∧
 k
 (PV.tup
 [PV.agg
 [PV.int Go.IntKind.i64 (sixR (List.drop (1 : Nat) l)).fst,
 PV.str (sixR (List.drop (1 : Nat) l)).snd.fst,
 PV.int Go.IntKind.u32 (sixR (List.drop (1 : Nat) l)).snd.snd.fst,
 PV.arr (8 : Nat) (BRow.ints Go.IntKind.u16 (sixR (List.drop (1 : Nat) l)).snd.snd.snd.fst)],
 PV.int Go.IntKind.i64 (sixR (List.drop (1 : Nat) l)).snd.snd.snd.snd])) ∧
 (preB l (ByteArray.mk #[(91 : UInt8)]).data.toList = false →
 (false = true →
 (List.length l).le (1000000 : Nat) ∧
 k
 (PV.tup
 [PV.agg
 [PV.int Go.IntKind.i64
 (domR (lowB (decP l))).fst,
 PV.str (domR (lowB (decP l))).snd.fst,
 PV.int Go.IntKind.u32
 (domR (lowB (decP l))).snd.snd.fst,
 PV.arr (8 : Nat)
 (BRow.ints Go.IntKind.u16
 (domR (lowB (decP l))).snd.snd.snd.fst)],
 PV.int Go.IntKind.i64
 (domR (lowB (decP l))).snd.snd.snd.snd])) ∧
 (false = false →
 (List.length l ≤ (1000000 : Nat) ∧
 (ByteArray.mk
 #[(0 : UInt8), (9 : UInt8), (10 : UInt8), (13 : UInt8), (32 : UInt8), (35 : UInt8), (47 : UInt8), (58 : UInt8), (60 : UInt8),
 (62 : UInt8), (63 : UInt8), (64 : UInt8), (91 : UInt8), (92 : UInt8), (93 : UInt8), (94 : UInt8),
 (124 : UInt8)]).data.toList.length ≤
 (1000000 : Nat) ∧
 ∀ (b : UInt8),
 b ∈
 (ByteArray.mk
 #[(0 : UInt8), (9 : UInt8), (10 : UInt8), (13 : UInt8), (32 : UInt8), (35 : UInt8), (47 : UInt8), (58 : UInt8), (60 : UInt8),
 (62 : UInt8), (63 : UInt8), (64 : UInt8), (91 : UInt8), (92 : UInt8), (93 : UInt8), (94 : UInt8), (124 : UInt8)]).data.toList →
 b.toNat < (128 : Nat)) ∧
 (conB l
 (ByteArray.mk
 #[(0 : UInt8), (9 : UInt8), (10 : UInt8), (13 : UInt8), (32 : UInt8), (35 : UInt8), (47 : UInt8), (58 : UInt8), (60 : UInt8),
 (62 : UInt8), (63 : UInt8), (64 : UInt8), (91 : UInt8), (92 : UInt8), (93 : UInt8), (94 : UInt8), (124 : UInt8)]).data.toList =
 true →
 k
 (PV.tup
 [PV.agg
 [PV.int Go.IntKind.i64 (0 : Int), PV.str [], PV.int Go.IntKind.u32 (0 : Int),
 PV.arr (8 : Nat) (BRow.ints Go.IntKind.u16 (List.replicate (8 : Nat) (0 : Int)))],
 PV.int Go.IntKind.i64 (8 : Int)])) ∧
 (conB l
 (ByteArray.mk
 #[(0 : UInt8), (9 : UInt8), (10 : UInt8), (13 : UInt8), (32 : UInt8), (35 : UInt8), (47 : UInt8), (58 : UInt8), (60 : UInt8),
 (62 : UInt8), (63 : UInt8), (64 : UInt8), (91 : UInt8), (92 : UInt8), (93 : UInt8), (94 : UInt8), (124 : UInt8)]).data.toList =
 false →
 (decide (l = (ByteArray.mk #[]).data.toList) = true →
 k
 (PV.tup
 [PV.agg
 [PV.int Go.IntKind.i64 (1 : Int), PV.str [], PV.int Go.IntKind.u32 (0 : Int),
 PV.arr (8 : Nat) (BRow.ints Go.IntKind.u16 (List.replicate (8 : Nat) (0 : Int)))],
 PV.int Go.IntKind.i64 (0 : Int)])) ∧
 (decide (l = (ByteArray.mk #[]).data.toList) = false →
 (List.length l ≤ (1000000 : Nat) ∧ List.all l visC = true) ∧
 k
 (PV.tup
 [PV.agg
 [PV.int Go.IntKind.i64 (5 : Int), PV.str l, PV.int Go.IntKind.u32 (0 : Int),
 PV.arr (8 : Nat) (BRow.ints Go.IntKind.u16 (List.replicate (8 : Nat) (0 : Int)))],
 PV.int Go.IntKind.i64 (0 : Int)])))))) := by kernel_rfl
attribute [local irreducible] Go.Vc.evF
theorem ok_hparse0 (l : Bs) : FuncOk Tryd.prog noT 8 [.str l, .bool false] ⟨l.length ≤ 1000000 ∧ l ≠ [] ∧ preB l [91] = false ∧ (conB l neverL = true ∨ l.all visC = true), .tup [.agg [.int .i64 (hostZ l).1, .str (hostZ l).2.1, .int .u32 (hostZ l).2.2.1, .arr 8 (.ints .u16 (hostZ l).2.2.2.1)], .int .i64 (hostZ l).2.2.2.2]⟩ := evF_ok (by kernel_rfl) X_hparse0_ok (H := H_hparse0 l) (fuel := 1000) Tryd.func8 (by kernel_rfl) fun hpre => (vc_hparse0 l _).mpr (by
  obtain ⟨hl, hne, hp, hc⟩ := hpre
  have e91 : (ByteArray.mk #[(91 : UInt8)]).data.toList = ([91] : Bs) := rfl
  rw [e91, hp]
  refine ⟨trivial, fun h => (by cases h), fun _ => ⟨fun h => (by cases h), fun _ => ⟨⟨hl, by decide, by decide⟩, fun h => ?_, fun h => ⟨fun h2 => ?_, fun h2 => ?_⟩⟩⟩⟩
  · have h' : conB l neverL = true := h
    have : hostZ l = noH 8 := by unfold hostZ; rw [if_pos h']
    rw [this]; rfl
  · exact absurd (of_decide_eq_true h2) hne
  · have h3 : ¬ conB l neverL = true := fun g => by have : conB l neverL = false := h; rw [g] at this; cases this
    have hv := hc.resolve_left h3
    have : hostZ l = (5, l, 0, z8, 0) := by unfold hostZ; rw [if_neg h3]
    rw [this]
    exact ⟨⟨hl, hv⟩, rfl⟩)
def ent_hparse0 : List PV → Option CallR := fun xs => match xs with
  | [.str l, .bool false] => some ⟨l.length ≤ 1000000 ∧ l ≠ [] ∧ preB l [91] = false ∧ (conB l neverL = true ∨ l.all visC = true), .tup [.agg [.int .i64 (hostZ l).1, .str (hostZ l).2.1, .int .u32 (hostZ l).2.2.1, .arr 8 (.ints .u16 (hostZ l).2.2.2.1)], .int .i64 (hostZ l).2.2.2.2]⟩
  | _ => none
theorem ent_hparse0_ok : ∀ xs c, ent_hparse0 xs = some c → FuncOk Tryd.prog noT 8 xs c := fun xs c h => by
  unfold ent_hparse0 at h
  split at h
  · injection h with h; subst h; exact ok_hparse0 _
  · cases h
end Go.Proofs.YtjljhkjpogjdhaaDoor
end
/- The function gossamer/gossamerref4.Hex does what is told of it. -/
section
set_option linter.unusedVariables false
set_option linter.unusedSimpArgs false
set_option maxRecDepth 100000
set_option maxHeartbeats 4000000
namespace Go.Proofs.YtjljhkjpogjdhaaDoor
open Go Go.Proofs Go.RowKit Go.Vc

def dgU : Bs := [48, 49, 50, 51, 52, 53, 54, 55, 56, 57, 65, 66, 67, 68, 69, 70]
def hexS (z : Int) : Bs := [37, zByte (byteZ dgU (shrZ IntKind.u8 z 4)), zByte (byteZ dgU (bitsZ BinOp.and IntKind.u8 z 15))]
theorem hexS_key : ∀ n : Fin 256, (0 ≤ shrZ IntKind.u8 (n.val : Int) 4 ∧ shrZ IntKind.u8 (n.val : Int) 4 < 16) ∧ (0 ≤ bitsZ BinOp.and IntKind.u8 (n.val : Int) 15 ∧ bitsZ BinOp.and IntKind.u8 (n.val : Int) 15 < 16) ∧ (0 ≤ byteZ dgU (shrZ IntKind.u8 (n.val : Int) 4) ∧ byteZ dgU (shrZ IntKind.u8 (n.val : Int) 4) ≤ 255) ∧ (0 ≤ byteZ dgU (bitsZ BinOp.and IntKind.u8 (n.val : Int) 15) ∧ byteZ dgU (bitsZ BinOp.and IntKind.u8 (n.val : Int) 15) ≤ 255) := by decide +kernel

def X_hexs : Tbl := tblX []
def H_hexs (z : Int) : Loops := fun i => none
theorem X_hexs_ok : XOk Tryd.prog noT X_hexs := tblX_nil
theorem vc_hexs (z : Int) (k : PV → Prop) : evF Tryd.prog X_hexs noT (H_hexs z) 1000 Tryd.f12 [.int .u8 z] k = (
  (0 : Int) ≤ (4 : Int) ∧
 within (shrZ Go.IntKind.u8 z (4 : Int))
 (lenZ
 (ByteArray.mk
 #[(48 : UInt8), (49 : UInt8), (50 : UInt8), (51 : UInt8), (52 : UInt8), (53 : UInt8), (54 : UInt8), (55 : UInt8), (56 : UInt8), (57 : UInt8),
 (65 : UInt8), (66 : UInt8), (67 : UInt8), (68 : UInt8), (69 : UInt8), (70 : UInt8)]).data.toList) ∧
 within (bitsZ Go.BinOp.and Go.IntKind.u8 z (15 : Int))
 (lenZ
 (ByteArray.mk
 #[(48 : UInt8), (49 : UInt8), (50 : UInt8), (51 : UInt8), (52 : UInt8), (53 : UInt8), (54 : UInt8), (55 : UInt8), (56 : UInt8), (57 : UInt8),
 (65 : UInt8), (66 : UInt8), (67 : UInt8), (68 : UInt8), (69 : UInt8), (70 : UInt8)]).data.toList) ∧
 allU8
 [PV.int Go.IntKind.u8 (37 : Int),
 PV.int Go.IntKind.u8
 (byteZ
 (ByteArray.mk
 #[(48 : UInt8), (49 : UInt8), (50 : UInt8), (51 : UInt8), (52 : UInt8), (53 : UInt8), (54 : UInt8), (55 : UInt8), (56 : UInt8),
 (57 : UInt8), (65 : UInt8), (66 : UInt8), (67 : UInt8), (68 : UInt8), (69 : UInt8), (70 : UInt8)]).data.toList
 (shrZ Go.IntKind.u8 z (4 : Int))),
 PV.int Go.IntKind.u8
 (byteZ
 (ByteArray.mk
 #[(48 : UInt8), (49 : UInt8), (50 : UInt8), (51 : UInt8), (52 : UInt8), (53 : UInt8), (54 : UInt8), (55 : UInt8), (56 : UInt8),
 (57 : UInt8), (65 : UInt8), (66 : UInt8), (67 : UInt8), (68 : UInt8), (69 : UInt8), (70 : UInt8)]).data.toList
 (bitsZ Go.BinOp.and Go.IntKind.u8 z (15 : Int)))] ∧
 k
 (PV.str
 [zByte (37 : Int),
 zByte
 (byteZ
 (ByteArray.mk
 #[(48 : UInt8), (49 : UInt8), (50 : UInt8), (51 : UInt8), (52 : UInt8), (53 : UInt8), (54 : UInt8), (55 : UInt8), (56 : UInt8),
 (57 : UInt8), (65 : UInt8), (66 : UInt8), (67 : UInt8), (68 : UInt8), (69 : UInt8), (70 : UInt8)]).data.toList
 (shrZ Go.IntKind.u8 z (4 : Int))),
 zByte
 (byteZ
 (ByteArray.mk
 #[(48 : UInt8), (49 : UInt8), (50 : UInt8), (51 : UInt8), (52 : UInt8), (53 : UInt8), (54 : UInt8), (55 : UInt8), (56 : UInt8),
 (57 : UInt8), (65 : UInt8), (66 : UInt8), (67 : UInt8), (68 : UInt8), (69 : UInt8), (70 : UInt8)]).data.toList
 (bitsZ Go.BinOp.and Go.IntKind.u8 z (15 : Int)))])) := by kernel_rfl
attribute [local irreducible] Go.Vc.evF
theorem ok_hexs (z : Int) : FuncOk Tryd.prog noT 12 [.int .u8 z] ⟨0 ≤ z ∧ z ≤ 255, .str (hexS z)⟩ := evF_ok (by kernel_rfl) X_hexs_ok (H := H_hexs z) (fuel := 1000) Tryd.func12 (by kernel_rfl) fun hpre => (vc_hexs z _).mpr (by
  have hk := hexS_key ⟨z.toNat, by omega⟩
  dsimp only at hk
  rw [show ((z.toNat : Nat) : Int) = z by omega] at hk
  obtain ⟨h1, h2, h3, h4⟩ := hk
  refine ⟨by omega, ⟨h1.1, h1.2⟩, ⟨h2.1, h2.2⟩, ?_, ?_⟩
  · simp [allU8]; exact ⟨⟨by show (0 : Int) ≤ 37; decide, by show (37 : Int) ≤ 255; decide⟩, ⟨h3.1, h3.2⟩, h4.1, h4.2⟩
  · rfl)
def ent_hexs : List PV → Option CallR := fun xs => match xs with
  | [.int .u8 z] => some ⟨0 ≤ z ∧ z ≤ 255, .str (hexS z)⟩
  | _ => none
theorem ent_hexs_ok : ∀ xs c, ent_hexs xs = some c → FuncOk Tryd.prog noT 12 xs c := fun xs c h => by
  unfold ent_hexs at h
  split at h
  · injection h with h; subst h; exact ok_hexs _
  · cases h
end Go.Proofs.YtjljhkjpogjdhaaDoor
end
/- The function gossamer/gossamerlaw10.HostOdd does what is told of it. -/
section
set_option linter.unusedVariables false
set_option linter.unusedSimpArgs false
set_option maxRecDepth 100000
set_option maxHeartbeats 4000000
namespace Go.Proofs.YtjljhkjpogjdhaaDoor
open Go Go.Proofs Go.RowKit Go.Vc

def oddL : Bs := (ByteArray.mk #[(0 : UInt8), (9 : UInt8), (10 : UInt8), (13 : UInt8), (32 : UInt8), (35 : UInt8), (47 : UInt8), (58 : UInt8), (60 : UInt8), (62 : UInt8), (63 : UInt8), (64 : UInt8), (91 : UInt8), (92 : UInt8), (93 : UInt8), (94 : UInt8), (124 : UInt8)]).data.toList
def hosL : Bs := (ByteArray.mk #[(104 : UInt8), (111 : UInt8), (115 : UInt8), (116 : UInt8)]).data.toList
def morL : Bs := (ByteArray.mk #[(1 : UInt8), (31 : UInt8), (37 : UInt8), (127 : UInt8)]).data.toList
def pctL : Bs := (ByteArray.mk #[(37 : UInt8)]).data.toList
def moreL : Bs := oddL ++ morL
def lenO : Int := lenZ oddL
def lenM : Int := lenZ moreL
def kA (a : Int) : Int := lowN a lenO
def jA (a : Int) : Int := lowN a lenM
def lB (b : Int) : Int := lowN b (3 : Int)
def hdB (b : Int) : Bs := takeZ hosL ((1 : Int) + lB b)
def tlB (b : Int) : Bs := dropZ hosL ((1 : Int) + lB b)
def chA (a : Int) : Bs := cutZ oddL (kA a) (kA a + (1 : Int))
def chJ (a : Int) : Bs := cutZ moreL (jA a) (jA a + (1 : Int))
def hxJ (a : Int) : Bs := hexS (byteZ moreL (jA a))
def sA (a b : Int) : Bs := hdB b ++ chA a ++ tlB b
def sJ (a b : Int) : Bs := hdB b ++ chJ a ++ tlB b
def sH (a b : Int) : Bs := hdB b ++ hxJ a ++ tlB b
def sP (b : Int) : Bs := hdB b ++ pctL ++ tlB b
def lensL (h c t : Bs) : Prop := h.length + c.length ≤ 1000 ∧ (h ++ c).length + t.length ≤ 1000 ∧ (h ++ c ++ t).length ≤ 1000
instance (h c t : Bs) : Decidable (lensL h c t) := by unfold lensL; infer_instance
theorem odd_keyA : ∀ k : Fin 17, ∀ i : Fin 3, lensL (takeZ hosL (1 + (i.val : Int))) (cutZ oddL (k.val : Int) ((k.val : Int) + 1)) (dropZ hosL (1 + (i.val : Int))) ∧ (takeZ hosL (1 + (i.val : Int)) ++ cutZ oddL (k.val : Int) ((k.val : Int) + 1) ++ dropZ hosL (1 + (i.val : Int))) ≠ [] ∧
    preB (takeZ hosL (1 + (i.val : Int)) ++ cutZ oddL (k.val : Int) ((k.val : Int) + 1) ++ dropZ hosL (1 + (i.val : Int))) [91] = false ∧ conB (takeZ hosL (1 + (i.val : Int)) ++ cutZ oddL (k.val : Int) ((k.val : Int) + 1) ++ dropZ hosL (1 + (i.val : Int))) neverL = true := by decide +kernel
theorem odd_keyJ : ∀ k : Fin 21, ∀ i : Fin 3, lensL (takeZ hosL (1 + (i.val : Int))) (cutZ moreL (k.val : Int) ((k.val : Int) + 1)) (dropZ hosL (1 + (i.val : Int))) ∧
    (hostM (takeZ hosL (1 + (i.val : Int)) ++ cutZ moreL (k.val : Int) ((k.val : Int) + 1) ++ dropZ hosL (1 + (i.val : Int)))).snd.snd.snd.snd = 8 := by decide +kernel
theorem odd_keyH : ∀ k : Fin 21, ∀ i : Fin 3, (0 ≤ byteZ moreL (k.val : Int) ∧ byteZ moreL (k.val : Int) ≤ 255) ∧ lensL (takeZ hosL (1 + (i.val : Int))) (hexS (byteZ moreL (k.val : Int))) (dropZ hosL (1 + (i.val : Int))) ∧
    (hostM (takeZ hosL (1 + (i.val : Int)) ++ hexS (byteZ moreL (k.val : Int)) ++ dropZ hosL (1 + (i.val : Int)))).snd.snd.snd.snd = 8 := by decide +kernel
theorem odd_keyP : ∀ i : Fin 3, lensL (takeZ hosL (1 + (i.val : Int))) pctL (dropZ hosL (1 + (i.val : Int))) ∧ (takeZ hosL (1 + (i.val : Int)) ++ pctL ++ dropZ hosL (1 + (i.val : Int))) ≠ [] ∧
    preB (takeZ hosL (1 + (i.val : Int)) ++ pctL ++ dropZ hosL (1 + (i.val : Int))) [91] = false ∧ List.all (takeZ hosL (1 + (i.val : Int)) ++ pctL ++ dropZ hosL (1 + (i.val : Int))) visC = true ∧ (hostZ (takeZ hosL (1 + (i.val : Int)) ++ pctL ++ dropZ hosL (1 + (i.val : Int)))).snd.snd.snd.snd = 0 := by decide +kernel
theorem fin_at {z : Int} {n : Nat} (h0 : 0 ≤ z) (h1 : z < n) : ∃ k : Fin n, z = (k.val : Int) := ⟨⟨z.toNat, by omega⟩, by show z = ((z.toNat : Nat) : Int); omega⟩

def X_odd : Tbl := tblX [(11, ent_low), (8, ent_hparse), (8, ent_hparse0), (12, ent_hexs), (7, ent_awake)]
def H_odd (a b : Int) (t : Bool) : Loops := fun i => none
theorem X_odd_ok : XOk Tryd.prog noT X_odd := tblX_cons ent_low_ok (tblX_cons ent_hparse_ok (tblX_cons ent_hparse0_ok (tblX_cons ent_hexs_ok (tblX_cons ent_awake_ok (tblX_nil)))))
theorem vc_odd (a b : Int) (t : Bool) (k : PV → Prop) : evF Tryd.prog X_odd noT (H_odd a b t) 1000 Tryd.f5 [.int .i64 a, .int .i64 b, .bool t] k = (
  ((-9223372036854775808 : Int) ≤ a ∧
 a ≤ (9223372036854775807 : Int) ∧
 (1 : Int) ≤ lenZ oddL ∧
 lenZ oddL ≤ (4611686018427387904 : Int)) ∧
 ((-9223372036854775808 : Int) ≤ b ∧
 b ≤ (9223372036854775807 : Int) ∧
 (1 : Int) ≤ (3 : Int) ∧
 (3 : Int) ≤ (4611686018427387904 : Int)) ∧
 inI64 ((1 : Int) + (lB b)) ∧
 upto (0 : Int) ((1 : Int) + (lB b)) (lenZ hosL) ∧
 inI64 ((kA a) + (1 : Int)) ∧
 upto (kA a) ((kA a) + (1 : Int)) lenO ∧
 (hdB b).length + (chA a).length ≤ Go.Vc.maxLen ∧
 upto ((1 : Int) + (lB b)) (lenZ hosL) (lenZ hosL) ∧
 List.length ((hdB b) ++ (chA a)) + (tlB b).length ≤ Go.Vc.maxLen ∧
 ((List.length (sA a b) ≤ (1000000 : Nat) ∧
 (sA a b) ≠ [] ∧
 preB (sA a b) [(91 : UInt8)] = false ∧
 (conB (sA a b) neverL = true ∨ List.all (sA a b) visC = true)) ∧
 oddL.length + morL.length ≤ Go.Vc.maxLen ∧
 ((-9223372036854775808 : Int) ≤ a ∧
 a ≤ (9223372036854775807 : Int) ∧
 (1 : Int) ≤ lenZ moreL ∧
 lenZ moreL ≤ (4611686018427387904 : Int)) ∧
 inI64 ((jA a) + (1 : Int)) ∧
 upto (jA a) ((jA a) + (1 : Int)) lenM ∧
 (t = true → within (jA a) lenM ∧
 ((0 : Int) ≤ byteZ moreL (jA a) ∧
 byteZ moreL (jA a) ≤ (255 : Int)) ∧
 upto (0 : Int) ((1 : Int) + (lB b)) (lenZ hosL) ∧
 (hdB b).length + List.length (hxJ a) ≤ Go.Vc.maxLen ∧
 upto ((1 : Int) + (lB b)) (lenZ hosL) (lenZ hosL) ∧
 List.length ((hdB b) ++ (hxJ a)) + (tlB b).length ≤ Go.Vc.maxLen ∧
 ((List.length (sH a b)).le (1000000 : Nat) ∧
 upto (0 : Int) ((1 : Int) + (lB b)) (lenZ hosL) ∧
 (hdB b).length + pctL.length ≤ Go.Vc.maxLen ∧
 upto ((1 : Int) + (lB b)) (lenZ hosL) (lenZ hosL) ∧
 List.length ((hdB b) ++ pctL) + (tlB b).length ≤ Go.Vc.maxLen ∧
 ((List.length (sP b) ≤ (1000000 : Nat) ∧
 (sP b) ≠ [] ∧
 preB (sP b) [(91 : UInt8)] = false ∧
 (conB (sP b) neverL = true ∨ List.all (sP b) visC = true)) ∧
 ((bif bif decide ((hostZ (sA a b)).snd.snd.snd.snd = (8 : Int)) then decide ((hostM (sH a b)).snd.snd.snd.snd = (8 : Int)) else false then decide ((hostZ (sP b)).snd.snd.snd.snd = (0 : Int)) else false) = true → True) ∧
 k (PV.bool (bif bif bif decide ((hostZ (sA a b)).snd.snd.snd.snd = (8 : Int)) then decide ((hostM (sH a b)).snd.snd.snd.snd = (8 : Int)) else false then decide ((hostZ (sP b)).snd.snd.snd.snd = (0 : Int)) else false then true else false))) ∧
 (List.length (sP b) ≤ (1000000 : Nat) ∧
 (sP b) ≠ [] ∧
 preB (sP b) [(91 : UInt8)] = false ∧
 (conB (sP b) neverL = true ∨ List.all (sP b) visC = true)) ∧
 ((bif bif decide ((hostZ (sA a b)).snd.snd.snd.snd = (8 : Int)) then decide ((hostM (sH a b)).snd.snd.snd.snd = (8 : Int)) else false then decide ((hostZ (sP b)).snd.snd.snd.snd = (0 : Int)) else false) = true → True) ∧
 k (PV.bool (bif bif bif decide ((hostZ (sA a b)).snd.snd.snd.snd = (8 : Int)) then decide ((hostM (sH a b)).snd.snd.snd.snd = (8 : Int)) else false then decide ((hostZ (sP b)).snd.snd.snd.snd = (0 : Int)) else false then true else false))) ∧
 (List.length (sH a b)).le (1000000 : Nat) ∧
 upto (0 : Int) ((1 : Int) + (lB b)) (lenZ hosL) ∧
 (hdB b).length + pctL.length ≤ Go.Vc.maxLen ∧
 upto ((1 : Int) + (lB b)) (lenZ hosL) (lenZ hosL) ∧
 List.length ((hdB b) ++ pctL) + (tlB b).length ≤ Go.Vc.maxLen ∧
 ((List.length (sP b) ≤ (1000000 : Nat) ∧
 (sP b) ≠ [] ∧
 preB (sP b) [(91 : UInt8)] = false ∧
 (conB (sP b) neverL = true ∨ List.all (sP b) visC = true)) ∧
 ((bif bif decide ((hostZ (sA a b)).snd.snd.snd.snd = (8 : Int)) then decide ((hostM (sH a b)).snd.snd.snd.snd = (8 : Int)) else false then decide ((hostZ (sP b)).snd.snd.snd.snd = (0 : Int)) else false) = true → True) ∧
 k (PV.bool (bif bif bif decide ((hostZ (sA a b)).snd.snd.snd.snd = (8 : Int)) then decide ((hostM (sH a b)).snd.snd.snd.snd = (8 : Int)) else false then decide ((hostZ (sP b)).snd.snd.snd.snd = (0 : Int)) else false then true else false))) ∧
 (List.length (sP b) ≤ (1000000 : Nat) ∧
 (sP b) ≠ [] ∧
 preB (sP b) [(91 : UInt8)] = false ∧
 (conB (sP b) neverL = true ∨ List.all (sP b) visC = true)) ∧
 ((bif bif decide ((hostZ (sA a b)).snd.snd.snd.snd = (8 : Int)) then decide ((hostM (sH a b)).snd.snd.snd.snd = (8 : Int)) else false then decide ((hostZ (sP b)).snd.snd.snd.snd = (0 : Int)) else false) = true → True) ∧
 k (PV.bool (bif bif bif decide ((hostZ (sA a b)).snd.snd.snd.snd = (8 : Int)) then decide ((hostM (sH a b)).snd.snd.snd.snd = (8 : Int)) else false then decide ((hostZ (sP b)).snd.snd.snd.snd = (0 : Int)) else false then true else false))) ∧
 (t = false → upto (0 : Int) ((1 : Int) + (lB b)) (lenZ hosL) ∧
 (hdB b).length + (chJ a).length ≤ Go.Vc.maxLen ∧
 upto ((1 : Int) + (lB b)) (lenZ hosL) (lenZ hosL) ∧
 List.length ((hdB b) ++ (chJ a)) + (tlB b).length ≤ Go.Vc.maxLen ∧
 ((List.length (sJ a b)).le (1000000 : Nat) ∧
 upto (0 : Int) ((1 : Int) + (lB b)) (lenZ hosL) ∧
 (hdB b).length + pctL.length ≤ Go.Vc.maxLen ∧
 upto ((1 : Int) + (lB b)) (lenZ hosL) (lenZ hosL) ∧
 List.length ((hdB b) ++ pctL) + (tlB b).length ≤ Go.Vc.maxLen ∧
 ((List.length (sP b) ≤ (1000000 : Nat) ∧
 (sP b) ≠ [] ∧
 preB (sP b) [(91 : UInt8)] = false ∧
 (conB (sP b) neverL = true ∨ List.all (sP b) visC = true)) ∧
 ((bif bif decide ((hostZ (sA a b)).snd.snd.snd.snd = (8 : Int)) then decide ((hostM (sJ a b)).snd.snd.snd.snd = (8 : Int)) else false then decide ((hostZ (sP b)).snd.snd.snd.snd = (0 : Int)) else false) = true → True) ∧
 k (PV.bool (bif bif bif decide ((hostZ (sA a b)).snd.snd.snd.snd = (8 : Int)) then decide ((hostM (sJ a b)).snd.snd.snd.snd = (8 : Int)) else false then decide ((hostZ (sP b)).snd.snd.snd.snd = (0 : Int)) else false then true else false))) ∧
 (List.length (sP b) ≤ (1000000 : Nat) ∧
 (sP b) ≠ [] ∧
 preB (sP b) [(91 : UInt8)] = false ∧
 (conB (sP b) neverL = true ∨ List.all (sP b) visC = true)) ∧
 ((bif bif decide ((hostZ (sA a b)).snd.snd.snd.snd = (8 : Int)) then decide ((hostM (sJ a b)).snd.snd.snd.snd = (8 : Int)) else false then decide ((hostZ (sP b)).snd.snd.snd.snd = (0 : Int)) else false) = true → True) ∧
 k (PV.bool (bif bif bif decide ((hostZ (sA a b)).snd.snd.snd.snd = (8 : Int)) then decide ((hostM (sJ a b)).snd.snd.snd.snd = (8 : Int)) else false then decide ((hostZ (sP b)).snd.snd.snd.snd = (0 : Int)) else false then true else false))) ∧
 (List.length (sJ a b)).le (1000000 : Nat) ∧
 upto (0 : Int) ((1 : Int) + (lB b)) (lenZ hosL) ∧
 (hdB b).length + pctL.length ≤ Go.Vc.maxLen ∧
 upto ((1 : Int) + (lB b)) (lenZ hosL) (lenZ hosL) ∧
 List.length ((hdB b) ++ pctL) + (tlB b).length ≤ Go.Vc.maxLen ∧
 ((List.length (sP b) ≤ (1000000 : Nat) ∧
 (sP b) ≠ [] ∧
 preB (sP b) [(91 : UInt8)] = false ∧
 (conB (sP b) neverL = true ∨ List.all (sP b) visC = true)) ∧
 ((bif bif decide ((hostZ (sA a b)).snd.snd.snd.snd = (8 : Int)) then decide ((hostM (sJ a b)).snd.snd.snd.snd = (8 : Int)) else false then decide ((hostZ (sP b)).snd.snd.snd.snd = (0 : Int)) else false) = true → True) ∧
 k (PV.bool (bif bif bif decide ((hostZ (sA a b)).snd.snd.snd.snd = (8 : Int)) then decide ((hostM (sJ a b)).snd.snd.snd.snd = (8 : Int)) else false then decide ((hostZ (sP b)).snd.snd.snd.snd = (0 : Int)) else false then true else false))) ∧
 (List.length (sP b) ≤ (1000000 : Nat) ∧
 (sP b) ≠ [] ∧
 preB (sP b) [(91 : UInt8)] = false ∧
 (conB (sP b) neverL = true ∨ List.all (sP b) visC = true)) ∧
 ((bif bif decide ((hostZ (sA a b)).snd.snd.snd.snd = (8 : Int)) then decide ((hostM (sJ a b)).snd.snd.snd.snd = (8 : Int)) else false then decide ((hostZ (sP b)).snd.snd.snd.snd = (0 : Int)) else false) = true → True) ∧
 k (PV.bool (bif bif bif decide ((hostZ (sA a b)).snd.snd.snd.snd = (8 : Int)) then decide ((hostM (sJ a b)).snd.snd.snd.snd = (8 : Int)) else false then decide ((hostZ (sP b)).snd.snd.snd.snd = (0 : Int)) else false then true else false)))) ∧
 (List.length (sA a b) ≤ (1000000 : Nat) ∧
 (sA a b) ≠ [] ∧
 preB (sA a b) [(91 : UInt8)] = false ∧
 (conB (sA a b) neverL = true ∨ List.all (sA a b) visC = true)) ∧
 oddL.length + morL.length ≤ Go.Vc.maxLen ∧
 ((-9223372036854775808 : Int) ≤ a ∧
 a ≤ (9223372036854775807 : Int) ∧
 (1 : Int) ≤ lenZ moreL ∧
 lenZ moreL ≤ (4611686018427387904 : Int)) ∧
 inI64 ((jA a) + (1 : Int)) ∧
 upto (jA a) ((jA a) + (1 : Int)) lenM ∧
 (t = true → within (jA a) lenM ∧
 ((0 : Int) ≤ byteZ moreL (jA a) ∧
 byteZ moreL (jA a) ≤ (255 : Int)) ∧
 upto (0 : Int) ((1 : Int) + (lB b)) (lenZ hosL) ∧
 (hdB b).length + List.length (hxJ a) ≤ Go.Vc.maxLen ∧
 upto ((1 : Int) + (lB b)) (lenZ hosL) (lenZ hosL) ∧
 List.length ((hdB b) ++ (hxJ a)) + (tlB b).length ≤ Go.Vc.maxLen ∧
 ((List.length (sH a b)).le (1000000 : Nat) ∧
 upto (0 : Int) ((1 : Int) + (lB b)) (lenZ hosL) ∧
 (hdB b).length + pctL.length ≤ Go.Vc.maxLen ∧
 upto ((1 : Int) + (lB b)) (lenZ hosL) (lenZ hosL) ∧
 List.length ((hdB b) ++ pctL) + (tlB b).length ≤ Go.Vc.maxLen ∧
 ((List.length (sP b) ≤ (1000000 : Nat) ∧
 (sP b) ≠ [] ∧
 preB (sP b) [(91 : UInt8)] = false ∧
 (conB (sP b) neverL = true ∨ List.all (sP b) visC = true)) ∧
 ((bif bif decide ((hostZ (sA a b)).snd.snd.snd.snd = (8 : Int)) then decide ((hostM (sH a b)).snd.snd.snd.snd = (8 : Int)) else false then decide ((hostZ (sP b)).snd.snd.snd.snd = (0 : Int)) else false) = true → True) ∧
 k (PV.bool (bif bif bif decide ((hostZ (sA a b)).snd.snd.snd.snd = (8 : Int)) then decide ((hostM (sH a b)).snd.snd.snd.snd = (8 : Int)) else false then decide ((hostZ (sP b)).snd.snd.snd.snd = (0 : Int)) else false then true else false))) ∧
 (List.length (sP b) ≤ (1000000 : Nat) ∧
 (sP b) ≠ [] ∧
 preB (sP b) [(91 : UInt8)] = false ∧
 (conB (sP b) neverL = true ∨ List.all (sP b) visC = true)) ∧
 ((bif bif decide ((hostZ (sA a b)).snd.snd.snd.snd = (8 : Int)) then decide ((hostM (sH a b)).snd.snd.snd.snd = (8 : Int)) else false then decide ((hostZ (sP b)).snd.snd.snd.snd = (0 : Int)) else false) = true → True) ∧
 k (PV.bool (bif bif bif decide ((hostZ (sA a b)).snd.snd.snd.snd = (8 : Int)) then decide ((hostM (sH a b)).snd.snd.snd.snd = (8 : Int)) else false then decide ((hostZ (sP b)).snd.snd.snd.snd = (0 : Int)) else false then true else false))) ∧
 (List.length (sH a b)).le (1000000 : Nat) ∧
 upto (0 : Int) ((1 : Int) + (lB b)) (lenZ hosL) ∧
 (hdB b).length + pctL.length ≤ Go.Vc.maxLen ∧
 upto ((1 : Int) + (lB b)) (lenZ hosL) (lenZ hosL) ∧
 List.length ((hdB b) ++ pctL) + (tlB b).length ≤ Go.Vc.maxLen ∧
 ((List.length (sP b) ≤ (1000000 : Nat) ∧
 (sP b) ≠ [] ∧
 preB (sP b) [(91 : UInt8)] = false ∧
 (conB (sP b) neverL = true ∨ List.all (sP b) visC = true)) ∧
 ((bif bif decide ((hostZ (sA a b)).snd.snd.snd.snd = (8 : Int)) then decide ((hostM (sH a b)).snd.snd.snd.snd = (8 : Int)) else false then decide ((hostZ (sP b)).snd.snd.snd.snd = (0 : Int)) else false) = true → True) ∧
 k (PV.bool (bif bif bif decide ((hostZ (sA a b)).snd.snd.snd.snd = (8 : Int)) then decide ((hostM (sH a b)).snd.snd.snd.snd = (8 : Int)) else false then decide ((hostZ (sP b)).snd.snd.snd.snd = (0 : Int)) else false then true else false))) ∧
 (List.length (sP b) ≤ (1000000 : Nat) ∧
 (sP b) ≠ [] ∧
 preB (sP b) [(91 : UInt8)] = false ∧
 (conB (sP b) neverL = true ∨ List.all (sP b) visC = true)) ∧
 ((bif bif decide ((hostZ (sA a b)).snd.snd.snd.snd = (8 : Int)) then decide ((hostM (sH a b)).snd.snd.snd.snd = (8 : Int)) else false then decide ((hostZ (sP b)).snd.snd.snd.snd = (0 : Int)) else false) = true → True) ∧
 k (PV.bool (bif bif bif decide ((hostZ (sA a b)).snd.snd.snd.snd = (8 : Int)) then decide ((hostM (sH a b)).snd.snd.snd.snd = (8 : Int)) else false then decide ((hostZ (sP b)).snd.snd.snd.snd = (0 : Int)) else false then true else false))) ∧
 (t = false → upto (0 : Int) ((1 : Int) + (lB b)) (lenZ hosL) ∧
 (hdB b).length + (chJ a).length ≤ Go.Vc.maxLen ∧
 upto ((1 : Int) + (lB b)) (lenZ hosL) (lenZ hosL) ∧
 List.length ((hdB b) ++ (chJ a)) + (tlB b).length ≤ Go.Vc.maxLen ∧
 ((List.length (sJ a b)).le (1000000 : Nat) ∧
 upto (0 : Int) ((1 : Int) + (lB b)) (lenZ hosL) ∧
 (hdB b).length + pctL.length ≤ Go.Vc.maxLen ∧
 upto ((1 : Int) + (lB b)) (lenZ hosL) (lenZ hosL) ∧
 List.length ((hdB b) ++ pctL) + (tlB b).length ≤ Go.Vc.maxLen ∧
 ((List.length (sP b) ≤ (1000000 : Nat) ∧
 (sP b) ≠ [] ∧
 preB (sP b) [(91 : UInt8)] = false ∧
 (conB (sP b) neverL = true ∨ List.all (sP b) visC = true)) ∧
 ((bif bif decide ((hostZ (sA a b)).snd.snd.snd.snd = (8 : Int)) then decide ((hostM (sJ a b)).snd.snd.snd.snd = (8 : Int)) else false then decide ((hostZ (sP b)).snd.snd.snd.snd = (0 : Int)) else false) = true → True) ∧
 k (PV.bool (bif bif bif decide ((hostZ (sA a b)).snd.snd.snd.snd = (8 : Int)) then decide ((hostM (sJ a b)).snd.snd.snd.snd = (8 : Int)) else false then decide ((hostZ (sP b)).snd.snd.snd.snd = (0 : Int)) else false then true else false))) ∧
 (List.length (sP b) ≤ (1000000 : Nat) ∧
 (sP b) ≠ [] ∧
 preB (sP b) [(91 : UInt8)] = false ∧
 (conB (sP b) neverL = true ∨ List.all (sP b) visC = true)) ∧
 ((bif bif decide ((hostZ (sA a b)).snd.snd.snd.snd = (8 : Int)) then decide ((hostM (sJ a b)).snd.snd.snd.snd = (8 : Int)) else false then decide ((hostZ (sP b)).snd.snd.snd.snd = (0 : Int)) else false) = true → True) ∧
 k (PV.bool (bif bif bif decide ((hostZ (sA a b)).snd.snd.snd.snd = (8 : Int)) then decide ((hostM (sJ a b)).snd.snd.snd.snd = (8 : Int)) else false then decide ((hostZ (sP b)).snd.snd.snd.snd = (0 : Int)) else false then true else false))) ∧
 (List.length (sJ a b)).le (1000000 : Nat) ∧
 upto (0 : Int) ((1 : Int) + (lB b)) (lenZ hosL) ∧
 (hdB b).length + pctL.length ≤ Go.Vc.maxLen ∧
 upto ((1 : Int) + (lB b)) (lenZ hosL) (lenZ hosL) ∧
 List.length ((hdB b) ++ pctL) + (tlB b).length ≤ Go.Vc.maxLen ∧
 ((List.length (sP b) ≤ (1000000 : Nat) ∧
 (sP b) ≠ [] ∧
 preB (sP b) [(91 : UInt8)] = false ∧
 (conB (sP b) neverL = true ∨ List.all (sP b) visC = true)) ∧
 ((bif bif decide ((hostZ (sA a b)).snd.snd.snd.snd = (8 : Int)) then decide ((hostM (sJ a b)).snd.snd.snd.snd = (8 : Int)) else false then decide ((hostZ (sP b)).snd.snd.snd.snd = (0 : Int)) else false) = true → True) ∧
 k (PV.bool (bif bif bif decide ((hostZ (sA a b)).snd.snd.snd.snd = (8 : Int)) then decide ((hostM (sJ a b)).snd.snd.snd.snd = (8 : Int)) else false then decide ((hostZ (sP b)).snd.snd.snd.snd = (0 : Int)) else false then true else false))) ∧
 (List.length (sP b) ≤ (1000000 : Nat) ∧
 (sP b) ≠ [] ∧
 preB (sP b) [(91 : UInt8)] = false ∧
 (conB (sP b) neverL = true ∨ List.all (sP b) visC = true)) ∧
 ((bif bif decide ((hostZ (sA a b)).snd.snd.snd.snd = (8 : Int)) then decide ((hostM (sJ a b)).snd.snd.snd.snd = (8 : Int)) else false then decide ((hostZ (sP b)).snd.snd.snd.snd = (0 : Int)) else false) = true → True) ∧
 k (PV.bool (bif bif bif decide ((hostZ (sA a b)).snd.snd.snd.snd = (8 : Int)) then decide ((hostM (sJ a b)).snd.snd.snd.snd = (8 : Int)) else false then decide ((hostZ (sP b)).snd.snd.snd.snd = (0 : Int)) else false then true else false)))) := by kernel_rfl
attribute [local irreducible] Go.Vc.evF
theorem ok_odd (a b : Int) (t : Bool) : FuncOk Tryd.prog noT 5 [.int .i64 a, .int .i64 b, .bool t] ⟨-9223372036854775808 ≤ a ∧ a ≤ 9223372036854775807 ∧ -9223372036854775808 ≤ b ∧ b ≤ 9223372036854775807, .bool true⟩ := evF_ok (by kernel_rfl) X_odd_ok (H := H_odd a b t) (fuel := 1000) Tryd.func5 (by kernel_rfl) fun hpre => (vc_odd a b t _).mpr (by
  obtain ⟨ha1, ha2, hb1, hb2⟩ := hpre
  have hml : Go.Vc.maxLen = 1099511627776 := rfl
  have eO : lenO = 17 := rfl
  have eM : lenM = 21 := rfl
  have eH : lenZ hosL = 4 := rfl
  obtain ⟨i, hi⟩ := fin_at (n := 3) (lowN_bd b 3 (by decide)).1 (lowN_bd b 3 (by decide)).2
  obtain ⟨k, hk⟩ := fin_at (n := 17) (lowN_bd a lenO (by decide)).1 (lowN_bd a lenO (by decide)).2
  obtain ⟨j, hj⟩ := fin_at (n := 21) (lowN_bd a lenM (by decide)).1 (lowN_bd a lenM (by decide)).2
  replace hi : lB b = (i.val : Int) := hi
  replace hk : kA a = (k.val : Int) := hk
  replace hj : jA a = (j.val : Int) := hj
  have hi3 := i.isLt
  have hk3 := k.isLt
  have hj3 := j.isLt
  have KA : lensL (hdB b) (chA a) (tlB b) ∧ sA a b ≠ [] ∧ preB (sA a b) [91] = false ∧ conB (sA a b) neverL = true := by
    unfold sA hdB chA tlB; rw [hi, hk]; exact odd_keyA k i
  have KJ : lensL (hdB b) (chJ a) (tlB b) ∧ (hostM (sJ a b)).snd.snd.snd.snd = 8 := by
    unfold sJ hdB chJ tlB; rw [hi, hj]; exact odd_keyJ j i
  have KH : (0 ≤ byteZ moreL (jA a) ∧ byteZ moreL (jA a) ≤ 255) ∧ lensL (hdB b) (hxJ a) (tlB b) ∧ (hostM (sH a b)).snd.snd.snd.snd = 8 := by
    unfold sH hdB hxJ tlB; rw [hi, hj]; exact odd_keyH j i
  have KP : lensL (hdB b) pctL (tlB b) ∧ sP b ≠ [] ∧ preB (sP b) [91] = false ∧ List.all (sP b) visC = true ∧ (hostZ (sP b)).snd.snd.snd.snd = 0 := by
    unfold sP hdB tlB; rw [hi]; exact odd_keyP i
  obtain ⟨⟨a1, a2, a3⟩, a4, a5, a6⟩ := KA
  obtain ⟨⟨j1, j2, j3⟩, j4⟩ := KJ
  obtain ⟨⟨h0, h00⟩, ⟨h1, h2, h3⟩, h4⟩ := KH
  obtain ⟨⟨p1, p2, p3⟩, p4, p5, p6, p7⟩ := KP
  have a8 : (hostZ (sA a b)).snd.snd.snd.snd = 8 := by unfold hostZ; rw [if_pos a6]; rfl
  have dA : decide ((hostZ (sA a b)).snd.snd.snd.snd = (8 : Int)) = true := decide_eq_true a8
  have dJ : decide ((hostM (sJ a b)).snd.snd.snd.snd = (8 : Int)) = true := decide_eq_true j4
  have dH : decide ((hostM (sH a b)).snd.snd.snd.snd = (8 : Int)) = true := decide_eq_true h4
  have dP : decide ((hostZ (sP b)).snd.snd.snd.snd = (0 : Int)) = true := decide_eq_true p7
  have q1 : (1 : Int) ≤ lenZ oddL := by decide
  have q2 : lenZ oddL ≤ (4611686018427387904 : Int) := by decide
  have q3 : (1 : Int) ≤ lenZ moreL := by decide
  have q4 : lenZ moreL ≤ (4611686018427387904 : Int) := by decide
  have q5 : (1 : Int) ≤ (3 : Int) := by decide
  have q6 : (3 : Int) ≤ (4611686018427387904 : Int) := by decide
  have q7 : inI64 ((1 : Int) + (lB b)) := by rw [hi]; unfold inI64; omega
  have q8 : upto (0 : Int) ((1 : Int) + (lB b)) (lenZ hosL) := by rw [hi, eH]; unfold upto; omega
  have q9 : inI64 ((kA a) + (1 : Int)) := by rw [hk]; unfold inI64; omega
  have q10 : upto (kA a) ((kA a) + (1 : Int)) lenO := by rw [hk, eO]; unfold upto; omega
  have q11 : upto ((1 : Int) + (lB b)) (lenZ hosL) (lenZ hosL) := by rw [hi, eH]; unfold upto; omega
  have q12 : inI64 ((jA a) + (1 : Int)) := by rw [hj]; unfold inI64; omega
  have q13 : upto (jA a) ((jA a) + (1 : Int)) lenM := by rw [hj, eM]; unfold upto; omega
  have q14 : within (jA a) lenM := by rw [hj, eM]; unfold within; omega
  have q15 : oddL.length + morL.length ≤ Go.Vc.maxLen := by decide
  have r1 : (hdB b).length + (chA a).length ≤ Go.Vc.maxLen := by omega
  have r2 : List.length ((hdB b) ++ (chA a)) + (tlB b).length ≤ Go.Vc.maxLen := by omega
  have r3 : List.length (sA a b) ≤ (1000000 : Nat) := Nat.le_trans a3 (by decide)
  have r4 : (hdB b).length + (chJ a).length ≤ Go.Vc.maxLen := by omega
  have r5 : List.length ((hdB b) ++ (chJ a)) + (tlB b).length ≤ Go.Vc.maxLen := by omega
  have r6 : (List.length (sJ a b)).le (1000000 : Nat) := Nat.le_trans j3 (by decide)
  have r7 : (hdB b).length + List.length (hxJ a) ≤ Go.Vc.maxLen := by omega
  have r8 : List.length ((hdB b) ++ (hxJ a)) + (tlB b).length ≤ Go.Vc.maxLen := by omega
  have r9 : (List.length (sH a b)).le (1000000 : Nat) := Nat.le_trans h3 (by decide)
  have r10 : (hdB b).length + pctL.length ≤ Go.Vc.maxLen := by omega
  have r11 : List.length ((hdB b) ++ pctL) + (tlB b).length ≤ Go.Vc.maxLen := by omega
  have r12 : List.length (sP b) ≤ (1000000 : Nat) := Nat.le_trans p3 (by decide)
  have r13 : (conB (sA a b) neverL = true ∨ List.all (sA a b) visC = true) := .inl a6
  have r14 : (conB (sP b) neverL = true ∨ List.all (sP b) visC = true) := .inr p6
  rw [dA, dJ, dH, dP]
  repeat' (first | with_reducible assumption | exact trivial | exact (rfl : PV.bool (bif bif bif true then true else false then true else false then true else false) = PV.bool true) | with_reducible refine ⟨?_, ?_⟩ | intro _))
end Go.Proofs.YtjljhkjpogjdhaaDoor
end
