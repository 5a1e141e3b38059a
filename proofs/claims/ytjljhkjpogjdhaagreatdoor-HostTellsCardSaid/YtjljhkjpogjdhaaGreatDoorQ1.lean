/- What the proof needs, part 1. -/
import Derived.Test.YtjljhkjpogjdhaaGreatDoorR3
import Derived.Test.YtjljhkjpogjdhaaGreatDoorC1
import Derived.Test.YtjljhkjpogjdhaaGreatDoorIpCe
import Derived.Test.YtjljhkjpogjdhaaGreatDoorShelf
import Derived.ProofKit
import Derived.Test.YtjljhkjpogjdhaaGreatDoorProg
import Derived.Test.YtjljhkjpogjdhaaGreatDoorA1
import Derived.Shelf.Strings.FuncGrows
import Derived.Lib.TrimAscii
import Derived.Test.YtjljhkjpogjdhaaGreatDoorE1
import Derived.Test.YtjljhkjpogjdhaaGreatDoorF1
/- host: what its callees do, for the calculus by values; what is known of the world: tables, and that MaxLen is a number. -/
section
set_option linter.unusedVariables false
namespace Go.Proofs.YtjljhkjpogjdhaaGreatDoor
open Go Go.Proofs Go.RowKit Go.Vc

def TabZ (w : World) (g : Nat) (k : IntKind) (zs : List Int) : Prop := ∃ t, w.heap[g]? = some (.cells (zs.map fun z => Value.int k z).toArray t (0, 0))
theorem TabZ.lt {w : World} {g : Nat} {k : IntKind} {zs : List Int} (h : TabZ w g k zs) : g < w.heap.size := by
  obtain ⟨t, h⟩ := h
  exact (Array.getElem?_eq_some_iff.1 h).1
theorem TabZ.same {w w' : World} {g : Nat} {k : IntKind} {zs : List Int} (h : TabZ w g k zs) (hb : w'.heap[g]? = w.heap[g]?) : TabZ w' g k zs := by
  obtain ⟨t, h⟩ := h
  exact ⟨t, by rw [hb]; exact h⟩
def NumZ (w : World) (g : Nat) : Prop := ∃ m, w.cell? ⟨g, 0, none⟩ = some (.int .i64 m)
theorem NumZ.lt {w : World} {g : Nat} (h : NumZ w g) : g < w.heap.size := by
  obtain ⟨m, h⟩ := h
  refine Classical.byContradiction fun hn => ?_
  unfold World.cell? at h
  rw [Array.getElem?_eq_none (show w.heap.size ≤ g by omega)] at h
  cases h
theorem NumZ.same {w w' : World} {g : Nat} (h : NumZ w g) (hb : w'.heap[g]? = w.heap[g]?) : NumZ w' g := by
  obtain ⟨m, h⟩ := h
  refine ⟨m, ?_⟩
  unfold World.cell? at h ⊢
  rw [hb]
  exact h
def TabH (w : World) : Prop := TabZ w 1 .u64 Lib.pow10Tab ∧ NumZ w 0
instance wdH : Wd := ⟨TabH, max 1 0 + 1, fun w h => by have := h.1.lt; have := h.2.lt; omega, fun w w' _ _ _ _ hb h => ⟨h.1.same (hb _ (by omega)), h.2.same (hb _ (by omega))⟩⟩
theorem TabH.tab {w : World} (h : TabH w) : Tab w := by
  obtain ⟨⟨t, h⟩, -⟩ := h
  unfold Tab Lib.TabIs World.var?
  rw [show Program.globalNamed Tryz.prog "internal/strconv.uint64pow10" = some 1 by kernel_rfl]
  simp only [Option.bind_some, h]
theorem ok_behind (l : Bs) (i : Int) : FuncOk Tryz.prog noT 59 [.str l, .int .i64 i] ⟨0 ≤ i ∧ i ≤ l.length ∧ l.length ≤ 1000000, .int .i64 (i + (hexLen (l.drop i.toNat) : Int))⟩ :=
  FuncOk.of_calls Tryz.func59 (by kernel_rfl) rfl fun ⟨h0, h1, h2⟩ F w vs _ _ hw hx => by
    obtain ⟨_, _, rfl, r1, _, _, rfl, r2, rfl⟩ := hx
    obtain rfl := r1
    obtain rfl := r2
    obtain ⟨n, rfl⟩ := Int.eq_ofNat_of_zero_le h0
    refine ⟨_, (behind_any l n w h2 (by omega)).mono fun e w' ⟨he, hw'⟩ => ⟨he, hw' ▸ Below.refl _ _⟩, fun G w => ?_⟩
    show Value.int _ _ = Value.int _ _
    rw [Int.toNat_natCast]; push_cast; rfl
theorem ok_number (l : Bs) : FuncOk Tryz.prog noT 60 [.str l] ⟨l.length ≤ 4 ∧ ∀ i, i < l.length → 0 ≤ hexN (byt l i), .int .u16 (hexW l)⟩ :=
  FuncOk.of_calls Tryz.func60 (by kernel_rfl) rfl fun ⟨h0, h1⟩ F w vs _ _ hw hx => by
    obtain ⟨_, _, rfl, r1, rfl⟩ := hx
    obtain rfl := r1
    exact ⟨_, (num16_any l w h0 h1).mono fun e w' ⟨he, hw'⟩ => ⟨he, hw' ▸ Below.refl _ _⟩, fun G w => rfl⟩
theorem ok_dotted (l : Bs) : FuncOk Tryz.prog noT 61 [.str l] ⟨l.length ≤ 1000000, .tup [.int .u32 (dotV l), .bool (dotO l)]⟩ :=
  FuncOk.of_calls Tryz.func61 (by kernel_rfl) rfl fun h F w vs _ _ hw hx => by
    obtain ⟨_, _, rfl, r1, rfl⟩ := hx
    obtain rfl := r1
    exact ⟨_, dotted_any l w h (TabH.tab hw), fun G w => ⟨_, ⟨_, _, rfl, rfl, _, _, rfl, rfl, rfl⟩, rfl⟩⟩
theorem ok_spread (p : List Int) (c g : Int) : FuncOk Tryz.prog noT 62 [.arr 8 (.ints .u16 p), .int .i64 c, .int .i64 g] ⟨p.length = 8 ∧ 0 ≤ g ∧ g ≤ c ∧ c ≤ 7, .arr 8 (.ints .u16 (spreadM p c.toNat g.toNat))⟩ :=
  FuncOk.of_calls Tryz.func62 (by kernel_rfl) rfl fun ⟨hp, h0, h1, h2⟩ F w vs _ _ hw hx => by
    obtain ⟨_, _, rfl, r1, _, _, rfl, r2, _, _, rfl, r3, rfl⟩ := hx
    obtain ⟨-, rfl⟩ := r1
    obtain rfl := r2
    obtain rfl := r3
    have := spread_any p c.toNat g.toNat w hp (by omega) (by omega)
    rw [Int.toNat_of_nonneg (by omega), Int.toNat_of_nonneg h0] at this
    exact ⟨_, this, fun G w => ⟨by show List.length (List.map _ _) = 8; rw [List.length_map]; unfold spreadM; simp; omega, rfl⟩⟩
def preB (l m : Bs) : Bool := Lib.hasPrefix l m
theorem ok_prefix (l m : Bs) : FuncOk Tryz.prog noT 12 [.str l, .str m] ⟨True, .bool (preB l m)⟩ :=
  FuncOk.of_calls Tryz.func12 (by kernel_rfl) rfl fun _ F w vs _ _ hw hx => by
    obtain ⟨_, _, rfl, r1, _, _, rfl, r2, rfl⟩ := hx
    obtain rfl := r1
    obtain rfl := r2
    exact ⟨_, (Tryz.strings_HasPrefix ⟨l.toArray⟩ ⟨m.toArray⟩ w).mono fun e w' ⟨he, hw'⟩ => ⟨he, hw' ▸ Below.refl _ _⟩, fun G w => rfl⟩
def conB (l m : Bs) : Bool := Lib.containsAny l m
theorem ok_con (l m : Bs) : FuncOk Tryz.prog noT 15 [.str l, .str m] ⟨l.length ≤ 1000000 ∧ m.length ≤ 1000000 ∧ (∀ b ∈ m, b.toNat < 128), .bool (conB l m)⟩ :=
  FuncOk.of_calls Tryz.func15 (by kernel_rfl) rfl fun ⟨h0, h1, h2⟩ F w vs _ _ hw hx => by
    obtain ⟨_, _, rfl, r1, _, _, rfl, r2, rfl⟩ := hx
    obtain rfl := r1
    obtain rfl := r2
    exact ⟨_, conAny Tryz.lays150 (by kernel_rfl) ⟨l.toArray⟩ ⟨m.toArray⟩ w (by show l.length < 4294967281; omega) (by show m.length < 4294967281; omega) (fun j b hj => h2 b (List.mem_of_getElem? hj)), fun G w => rfl⟩
def hasB (l m : Bs) : Bool := Lib.contains l m
theorem ok_has (l m : Bs) : FuncOk Tryz.prog noT 64 [.str l, .str m] ⟨l.length ≤ 1000000, .bool (hasB l m)⟩ :=
  FuncOk.of_calls Tryz.func64 (by kernel_rfl) rfl fun h0 F w vs _ _ hw hx => by
    obtain ⟨_, _, rfl, r1, _, _, rfl, r2, rfl⟩ := hx
    obtain rfl := r1
    obtain rfl := r2
    obtain ⟨k, hk⟩ := (show TabH w from hw).2
    exact ⟨_, (Tryz.strings_Contains ⟨l.toArray⟩ ⟨m.toArray⟩ k w (by show l.length < 4294967281; omega) hk).mono fun e w' ⟨he, hw'⟩ => ⟨he, hw' ▸ Below.refl _ _⟩, fun G w => rfl⟩
def end4 (l : Bs) : Bool := endsB ((trimL l).drop (lastK (trimL l)))
theorem ok_ends (l : Bs) : FuncOk Tryz.prog noT 37 [.str l] ⟨l.length ≤ 1000000, .bool (end4 l)⟩ :=
  FuncOk.of_calls Tryz.func37 (by kernel_rfl) rfl fun h F w vs _ _ hw hx => by
    obtain ⟨_, _, rfl, r1, rfl⟩ := hx
    obtain rfl := r1
    exact ⟨_, (Ends_any l w h).mono fun e w' ⟨he, hw'⟩ => ⟨he, hw' ▸ Below.refl _ _⟩, fun G w => rfl⟩
def fourO (l : Bs) : Bool := (parseL (splitB 46 (trimL l)) 4 0).2
theorem ok_pfour (l : Bs) : FuncOk Tryz.prog noT 38 [.str l] ⟨l.length ≤ 1000000, .tup [.int .u32 (dotV l), .bool (fourO l)]⟩ :=
  FuncOk.of_calls Tryz.func38 (by kernel_rfl) rfl fun h F w vs _ _ hw hx => by
    obtain ⟨_, _, rfl, r1, rfl⟩ := hx
    obtain rfl := r1
    exact ⟨_, Parse_any l w h, fun G w => ⟨_, ⟨_, _, rfl, rfl, _, _, rfl, rfl, rfl⟩, rfl⟩⟩
def runB (l : Bs) (r : Int) : Bool := decide (r < 128) && decide (0 ≤ Lib.indexByte l r.toNat.toUInt8)
theorem ok_crune (l : Bs) (r : Int) : FuncOk Tryz.prog noT 66 [.str l, .int .i32 r] ⟨0 ≤ r ∧ r ≤ 2147483647 ∧ (∀ b ∈ l, b.toNat < 128), .bool (runB l r)⟩ :=
  FuncOk.of_calls Tryz.func66 (by kernel_rfl) rfl fun ⟨h0, h1, h2⟩ F w vs _ _ hw hx => by
    obtain ⟨_, _, rfl, r1, _, _, rfl, r2, rfl⟩ := hx
    obtain rfl := r1
    obtain rfl := r2
    by_cases h : r < 128
    · refine ⟨_, (Tryz.strings_ContainsRune_ascii ⟨l.toArray⟩ r w h0 h).mono fun e w' ⟨he, hw'⟩ => ⟨he, hw' ▸ Below.refl _ _⟩, fun G w => ?_⟩
      show Value.bool _ = Value.bool _
      unfold runB
      rw [decide_eq_true h]; rfl
    · refine ⟨_, conRune_far Tryz.lays151 ⟨l.toArray⟩ r w (fun j b hj => h2 b (List.mem_of_getElem? hj)) (by omega) h1, fun G w => ?_⟩
      show Value.bool _ = Value.bool _
      unfold runB
      rw [decide_eq_false h]; rfl
def ent_behind : List PV → Option CallR := fun xs => match xs with | [.str l, .int .i64 i] => some ⟨0 ≤ i ∧ i ≤ l.length ∧ l.length ≤ 1000000, .int .i64 (i + (hexLen (l.drop i.toNat) : Int))⟩ | _ => none
theorem ent_behind_ok : ∀ xs c, ent_behind xs = some c → FuncOk Tryz.prog noT 59 xs c := fun xs c h => by
  unfold ent_behind at h
  split at h
  · injection h with h; subst h; exact ok_behind _ _
  · cases h
def ent_number : List PV → Option CallR := fun xs => match xs with | [.str l] => some ⟨l.length ≤ 4 ∧ ∀ i, i < l.length → 0 ≤ hexN (byt l i), .int .u16 (hexW l)⟩ | _ => none
theorem ent_number_ok : ∀ xs c, ent_number xs = some c → FuncOk Tryz.prog noT 60 xs c := fun xs c h => by
  unfold ent_number at h
  split at h
  · injection h with h; subst h; exact ok_number _
  · cases h
def ent_dotted : List PV → Option CallR := fun xs => match xs with | [.str l] => some ⟨l.length ≤ 1000000, .tup [.int .u32 (dotV l), .bool (dotO l)]⟩ | _ => none
theorem ent_dotted_ok : ∀ xs c, ent_dotted xs = some c → FuncOk Tryz.prog noT 61 xs c := fun xs c h => by
  unfold ent_dotted at h
  split at h
  · injection h with h; subst h; exact ok_dotted _
  · cases h
def ent_spread : List PV → Option CallR := fun xs => match xs with | [.arr 8 (.ints .u16 p), .int .i64 c, .int .i64 g] => some ⟨p.length = 8 ∧ 0 ≤ g ∧ g ≤ c ∧ c ≤ 7, .arr 8 (.ints .u16 (spreadM p c.toNat g.toNat))⟩ | _ => none
theorem ent_spread_ok : ∀ xs c, ent_spread xs = some c → FuncOk Tryz.prog noT 62 xs c := fun xs c h => by
  unfold ent_spread at h
  split at h
  · injection h with h; subst h; exact ok_spread _ _ _
  · cases h
def ent_prefix : List PV → Option CallR := fun xs => match xs with | [.str l, .str m] => some ⟨True, .bool (preB l m)⟩ | _ => none
theorem ent_prefix_ok : ∀ xs c, ent_prefix xs = some c → FuncOk Tryz.prog noT 12 xs c := fun xs c h => by
  unfold ent_prefix at h
  split at h
  · injection h with h; subst h; exact ok_prefix _ _
  · cases h
def ent_con : List PV → Option CallR := fun xs => match xs with | [.str l, .str m] => some ⟨l.length ≤ 1000000 ∧ m.length ≤ 1000000 ∧ (∀ b ∈ m, b.toNat < 128), .bool (conB l m)⟩ | _ => none
theorem ent_con_ok : ∀ xs c, ent_con xs = some c → FuncOk Tryz.prog noT 15 xs c := fun xs c h => by
  unfold ent_con at h
  split at h
  · injection h with h; subst h; exact ok_con _ _
  · cases h
def ent_has : List PV → Option CallR := fun xs => match xs with | [.str l, .str m] => some ⟨l.length ≤ 1000000, .bool (hasB l m)⟩ | _ => none
theorem ent_has_ok : ∀ xs c, ent_has xs = some c → FuncOk Tryz.prog noT 64 xs c := fun xs c h => by
  unfold ent_has at h
  split at h
  · injection h with h; subst h; exact ok_has _ _
  · cases h
def ent_ends : List PV → Option CallR := fun xs => match xs with | [.str l] => some ⟨l.length ≤ 1000000, .bool (end4 l)⟩ | _ => none
theorem ent_ends_ok : ∀ xs c, ent_ends xs = some c → FuncOk Tryz.prog noT 37 xs c := fun xs c h => by
  unfold ent_ends at h
  split at h
  · injection h with h; subst h; exact ok_ends _
  · cases h
def ent_pfour : List PV → Option CallR := fun xs => match xs with | [.str l] => some ⟨l.length ≤ 1000000, .tup [.int .u32 (dotV l), .bool (fourO l)]⟩ | _ => none
theorem ent_pfour_ok : ∀ xs c, ent_pfour xs = some c → FuncOk Tryz.prog noT 38 xs c := fun xs c h => by
  unfold ent_pfour at h
  split at h
  · injection h with h; subst h; exact ok_pfour _
  · cases h
def ent_crune : List PV → Option CallR := fun xs => match xs with | [.str l, .int .i32 r] => some ⟨0 ≤ r ∧ r ≤ 2147483647 ∧ (∀ b ∈ l, b.toNat < 128), .bool (runB l r)⟩ | _ => none
theorem ent_crune_ok : ∀ xs c, ent_crune xs = some c → FuncOk Tryz.prog noT 66 xs c := fun xs c h => by
  unfold ent_crune at h
  split at h
  · injection h with h; subst h; exact ok_crune _ _
  · cases h
end Go.Proofs.YtjljhkjpogjdhaaGreatDoor
end
/- ip6.Parse: what holds at each piece. -/
section
set_option linter.unusedVariables false
set_option linter.unusedSimpArgs false
set_option maxRecDepth 100000
namespace Go.Proofs.YtjljhkjpogjdhaaGreatDoor
open Go Go.Proofs Go.RowKit Go.Vc

def body6 (k : PV → Prop) (J1 J2 : Prop) (l : Bs) (C G A : Int) (p : List Int) : Prop :=
  ((0 : Int) ≤ A ∧ A ≤ ↑(List.length l) ∧ List.length l ≤ (1000000 : Nat)) ∧ (decide (A + ↑(hexLen (List.drop A.toNat l)) < lenZ l) = true → within (A + ↑(hexLen (List.drop A.toNat l))) (lenZ l)) ∧ ((bif decide (A + ↑(hexLen (List.drop A.toNat l)) < lenZ l) then decide (byteZ l (A + ↑(hexLen (List.drop A.toNat l))) = (46 : Int)) else false) = true → upto A (lenZ l) (lenZ l) ∧ (dropZ l A).length.le (1000000 : Nat) ∧ ((bif !dotO (dropZ l A) then true else decide ((6 : Int) < C)) = true → k (PV.tup [PV.arr (8 : Nat) (BRow.ints IntKind.u16 (List.replicate (8 : Nat) (0 : Int))), PV.bool false])) ∧ ((bif !dotO (dropZ l A) then true else decide ((6 : Int) < C)) = false → inI64 (C + (1 : Int)) ∧ (0 : Int) ≤ (16 : Int) ∧ within C ↑(8 : Nat) ∧ (within C ↑(8 : Nat) ∧ True) ∧ within (C + (1 : Int)) ↑(8 : Nat) ∧ (within (C + (1 : Int)) ↑(8 : Nat) ∧ True) ∧ inI64 (C + (2 : Int)) ∧ ((bif decide (G < (0 : Int)) then decide (C + (2 : Int) = (8 : Int)) else false) = true → k (PV.tup [PV.arr (8 : Nat) (BRow.ints IntKind.u16 (setZ (setZ p C (IntKind.u16.wrap (shrZ IntKind.u32 (dotV (dropZ l A)) (16 : Int)))) (C + (1 : Int)) (IntKind.u16.wrap (dotV (dropZ l A))))), PV.bool true])) ∧ ((bif decide (G < (0 : Int)) then decide (C + (2 : Int) = (8 : Int)) else false) = false → ((bif decide ((0 : Int) ≤ G) then decide (C + (2 : Int) < (8 : Int)) else false) = true → ((setZ (setZ p C (IntKind.u16.wrap (shrZ IntKind.u32 (dotV (dropZ l A)) (16 : Int)))) (C + (1 : Int)) (IntKind.u16.wrap (dotV (dropZ l A)))).length = (8 : Nat) ∧ (0 : Int) ≤ G ∧ G ≤ C + (2 : Int) ∧ C + (2 : Int) ≤ (7 : Int)) ∧ k (PV.tup [PV.arr (8 : Nat) (BRow.ints IntKind.u16 (spreadM (setZ (setZ p C (IntKind.u16.wrap (shrZ IntKind.u32 (dotV (dropZ l A)) (16 : Int)))) (C + (1 : Int)) (IntKind.u16.wrap (dotV (dropZ l A)))) (C + (2 : Int)).toNat G.toNat)), PV.bool true])) ∧ ((bif decide ((0 : Int) ≤ G) then decide (C + (2 : Int) < (8 : Int)) else false) = false → k (PV.tup [PV.arr (8 : Nat) (BRow.ints IntKind.u16 (List.replicate (8 : Nat) (0 : Int))), PV.bool false]))))) ∧ ((bif decide (A + ↑(hexLen (List.drop A.toNat l)) < lenZ l) then decide (byteZ l (A + ↑(hexLen (List.drop A.toNat l))) = (46 : Int)) else false) = false → ((bif decide (C = (8 : Int)) then true else decide (A + ↑(hexLen (List.drop A.toNat l)) = A)) = false → inI64 (A + (4 : Int))) ∧ ((bif bif decide (C = (8 : Int)) then true else decide (A + ↑(hexLen (List.drop A.toNat l)) = A) then true else decide (A + (4 : Int) < A + ↑(hexLen (List.drop A.toNat l)))) = true → k (PV.tup [PV.arr (8 : Nat) (BRow.ints IntKind.u16 (List.replicate (8 : Nat) (0 : Int))), PV.bool false])) ∧ ((bif bif decide (C = (8 : Int)) then true else decide (A + ↑(hexLen (List.drop A.toNat l)) = A) then true else decide (A + (4 : Int) < A + ↑(hexLen (List.drop A.toNat l)))) = false → upto A (A + ↑(hexLen (List.drop A.toNat l))) (lenZ l) ∧ ((cutZ l A (A + ↑(hexLen (List.drop A.toNat l)))).length ≤ (4 : Nat) ∧ ∀ (i : Nat), i < (cutZ l A (A + ↑(hexLen (List.drop A.toNat l)))).length → (0 : Int) ≤ hexN (byt (cutZ l A (A + ↑(hexLen (List.drop A.toNat l)))) i)) ∧ within C ↑(8 : Nat) ∧ (within C ↑(8 : Nat) ∧ True) ∧ inI64 (C + (1 : Int)) ∧ (decide (A + ↑(hexLen (List.drop A.toNat l)) = lenZ l) = true → ((bif decide (G < (0 : Int)) then decide (C + (1 : Int) = (8 : Int)) else false) = true → k (PV.tup [PV.arr (8 : Nat) (BRow.ints IntKind.u16 (setZ p C (hexW (cutZ l A (A + ↑(hexLen (List.drop A.toNat l))))))), PV.bool true])) ∧ ((bif decide (G < (0 : Int)) then decide (C + (1 : Int) = (8 : Int)) else false) = false → ((bif decide ((0 : Int) ≤ G) then decide (C + (1 : Int) < (8 : Int)) else false) = true → ((setZ p C (hexW (cutZ l A (A + ↑(hexLen (List.drop A.toNat l)))))).length = (8 : Nat) ∧ (0 : Int) ≤ G ∧ G ≤ C + (1 : Int) ∧ C + (1 : Int) ≤ (7 : Int)) ∧ k (PV.tup [PV.arr (8 : Nat) (BRow.ints IntKind.u16 (spreadM (setZ p C (hexW (cutZ l A (A + ↑(hexLen (List.drop A.toNat l)))))) (C + (1 : Int)).toNat G.toNat)), PV.bool true])) ∧ ((bif decide ((0 : Int) ≤ G) then decide (C + (1 : Int) < (8 : Int)) else false) = false → k (PV.tup [PV.arr (8 : Nat) (BRow.ints IntKind.u16 (List.replicate (8 : Nat) (0 : Int))), PV.bool false])))) ∧ (decide (A + ↑(hexLen (List.drop A.toNat l)) = lenZ l) = false → within (A + ↑(hexLen (List.drop A.toNat l))) (lenZ l) ∧ ((!decide (byteZ l (A + ↑(hexLen (List.drop A.toNat l))) = (58 : Int))) = false → inI64 (A + ↑(hexLen (List.drop A.toNat l)) + (1 : Int))) ∧ ((bif !decide (byteZ l (A + ↑(hexLen (List.drop A.toNat l))) = (58 : Int)) then true else decide (A + ↑(hexLen (List.drop A.toNat l)) + (1 : Int) = lenZ l)) = true → k (PV.tup [PV.arr (8 : Nat) (BRow.ints IntKind.u16 (List.replicate (8 : Nat) (0 : Int))), PV.bool false])) ∧ ((bif !decide (byteZ l (A + ↑(hexLen (List.drop A.toNat l))) = (58 : Int)) then true else decide (A + ↑(hexLen (List.drop A.toNat l)) + (1 : Int) = lenZ l)) = false → inI64 (A + ↑(hexLen (List.drop A.toNat l)) + (1 : Int)) ∧ within (A + ↑(hexLen (List.drop A.toNat l)) + (1 : Int)) (lenZ l) ∧ ((!decide (byteZ l (A + ↑(hexLen (List.drop A.toNat l)) + (1 : Int)) = (58 : Int))) = true → J1) ∧ ((!decide (byteZ l (A + ↑(hexLen (List.drop A.toNat l)) + (1 : Int)) = (58 : Int))) = false → (decide ((0 : Int) ≤ G) = true → k (PV.tup [PV.arr (8 : Nat) (BRow.ints IntKind.u16 (List.replicate (8 : Nat) (0 : Int))), PV.bool false])) ∧ (decide ((0 : Int) ≤ G) = false → inI64 (A + ↑(hexLen (List.drop A.toNat l)) + (1 : Int) + (1 : Int)) ∧ (decide (A + ↑(hexLen (List.drop A.toNat l)) + (1 : Int) + (1 : Int) < lenZ l) = true → J2) ∧ (decide (A + ↑(hexLen (List.drop A.toNat l)) + (1 : Int) + (1 : Int) < lenZ l) = false → ((bif decide (C + (1 : Int) < (0 : Int)) then decide (C + (1 : Int) = (8 : Int)) else false) = true → k (PV.tup [PV.arr (8 : Nat) (BRow.ints IntKind.u16 (setZ p C (hexW (cutZ l A (A + ↑(hexLen (List.drop A.toNat l))))))), PV.bool true])) ∧ ((bif decide (C + (1 : Int) < (0 : Int)) then decide (C + (1 : Int) = (8 : Int)) else false) = false → ((bif decide ((0 : Int) ≤ C + (1 : Int)) then decide (C + (1 : Int) < (8 : Int)) else false) = true → ((setZ p C (hexW (cutZ l A (A + ↑(hexLen (List.drop A.toNat l)))))).length = (8 : Nat) ∧ (0 : Int) ≤ C + (1 : Int) ∧ C + (1 : Int) ≤ C + (1 : Int) ∧ C + (1 : Int) ≤ (7 : Int)) ∧ k (PV.tup [PV.arr (8 : Nat) (BRow.ints IntKind.u16 (spreadM (setZ p C (hexW (cutZ l A (A + ↑(hexLen (List.drop A.toNat l)))))) (C + (1 : Int)).toNat (C + (1 : Int)).toNat)), PV.bool true])) ∧ ((bif decide ((0 : Int) ≤ C + (1 : Int)) then decide (C + (1 : Int) < (8 : Int)) else false) = false → k (PV.tup [PV.arr (8 : Nat) (BRow.ints IntKind.u16 (List.replicate (8 : Nat) (0 : Int))), PV.bool false]))))))))))
theorem andB6 (a b : Bool) : (bif a then b else false) = (a && b) := by cases a <;> rfl
theorem orB6 (a b : Bool) : (bif a then true else b) = (a || b) := by cases a <;> rfl
theorem notB6 (a : Bool) : ((!a) = true) = ¬ (a = true) := by cases a <;> simp
theorem falB6 (a : Bool) : (a = false) = ¬ (a = true) := by cases a <;> simp
theorem pad_setZ (acc : List Int) (x : Int) (h : acc.length < 8) : setZ (pad acc) (acc.length : Int) x = pad (acc ++ [x]) := by
  unfold setZ pad
  rw [Int.toNat_natCast, List.set_append_right _ _ (by simp), Nat.sub_self, show 8 - acc.length = (8 - (acc ++ [x]).length) + 1 by simp; omega, List.replicate_succ, List.set_cons_zero, List.append_assoc]
  rfl
theorem byteZ_byt (l : Bs) (e : Nat) : byteZ l (e : Int) = byt l e := by unfold byteZ byt; rw [Int.toNat_natCast]
theorem pad_full (acc : List Int) (h : acc.length = 8) : pad acc = acc := by unfold pad; rw [h]; simp
theorem body6_ok (k : PV → Prop) (J1 J2 : Prop) (l : Bs) (G : Int) (i e : Nat) (acc : List Int) (R : List Int × Bool) (hl : l.length ≤ 1000000) (h8 : acc.length ≤ 8) (g1 : -1 ≤ G) (g2 : G ≤ acc.length) (hi : i ≤ l.length) (he : i + hexLen (l.drop i) = e)
    (hs : six1 l (9 - acc.length) acc G i = R) (hk : k (.tup [.arr 8 (.ints .u16 R.1), .bool R.2]))
    (H1 : ∀ a, a.length = acc.length + 1 → setZ (pad acc) (acc.length : Int) (hexW (cutZ l (i : Int) (e : Int))) = pad a → a.length ≤ 8 → e + 1 ≤ l.length → six1 l (9 - a.length) a G (e + 1) = R → J1)
    (H2 : ∀ a, a.length = acc.length + 1 → setZ (pad acc) (acc.length : Int) (hexW (cutZ l (i : Int) (e : Int))) = pad a → a.length ≤ 8 → e + 2 ≤ l.length → six1 l (9 - a.length) a (acc.length + 1 : Nat) (e + 2) = R → J2) :
    body6 k J1 J2 l acc.length G i (pad acc) := by
  unfold body6
  have hE : (i : Int) + ((hexLen (l.drop i) : Nat) : Int) = (e : Int) := by omega
  have hcut : cutZ l (i : Int) (e : Int) = (l.take e).drop i := by unfold cutZ; rw [Int.toNat_natCast, Int.toNat_natCast]
  have hdr : dropZ l (i : Int) = l.drop i := by unfold dropZ; rw [Int.toNat_natCast]
  have hel : e ≤ l.length := by have := hexLen_le (l.drop i); rw [List.length_drop] at this; omega
  have hb2 : byteZ l ((e : Int) + 1) = byt l (e + 1) := by rw [← byteZ_byt]; push_cast; rfl
  rw [six1_step l acc G i e h8 he] at hs
  have leaf : ∀ (L : List Int) (b : Bool), R = (L, b) → k (.tup [.arr 8 (.ints .u16 L), .bool b]) := fun L b h => by rw [h] at hk; exact hk
  have lw : R = wrong6 → k (.tup [.arr 8 (.ints .u16 (List.replicate 8 0)), .bool false]) := fun h => leaf _ _ h
  simp only [Int.toNat_natCast, hE, hcut, hdr, byteZ_byt, hb2, andB6, orB6, falB6, notB6, Bool.and_eq_true, Bool.or_eq_true, decide_eq_true_eq, lenZ, within, upto, inI64] at H1 H2 ⊢
  have fin : ∀ (a : List Int) (g C' : Int) (P : List Int), a.length ≤ 8 → C' = a.length → P = pad a → g ≤ C' → fin6 a g = R → ((g < 0 ∧ C' = 8 → k (.tup [.arr 8 (.ints .u16 P), .bool true])) ∧ (¬ (g < 0 ∧ C' = 8) → ((0 ≤ g ∧ C' < 8 → (P.length = 8 ∧ 0 ≤ g ∧ g ≤ C' ∧ C' ≤ 7) ∧ k (.tup [.arr 8 (.ints .u16 (spreadM P C'.toNat g.toNat)), .bool true])) ∧ (¬ (0 ≤ g ∧ C' < 8) → k (.tup [.arr 8 (.ints .u16 (List.replicate 8 0)), .bool false]))))) := by
    intro a g C' P ha hC hP hg hf
    subst hC hP
    unfold fin6 at hf
    refine ⟨fun h => ?_, fun h => ⟨fun h2 => ⟨⟨pad_len ha, h2.1, hg, by omega⟩, ?_⟩, fun h2 => lw ?_⟩⟩
    · rw [if_pos ⟨h.1, by omega⟩] at hf
      rw [pad_full a (by omega)]
      exact leaf _ _ hf.symm
    · rw [if_neg (by omega), if_pos ⟨h2.1, by omega⟩] at hf
      rw [Int.toNat_natCast]
      exact leaf _ _ hf.symm
    · rw [if_neg (by omega), if_neg (by omega)] at hf
      exact hf.symm
  refine ⟨⟨by omega, by omega, hl⟩, fun h => ⟨by omega, h⟩, fun h46 => ?_, fun h46 => ?_⟩
  · rw [if_pos ⟨by omega, h46.2⟩] at hs
    unfold bytes6 at hs
    refine ⟨⟨by omega, by omega, by omega⟩, ?_, fun hd => ?_, fun hd => ?_⟩
    · show (l.drop i).length ≤ 1000000
      rw [List.length_drop]; omega
    · rw [if_pos (by rcases hd with hd | hd; exact .inl (by simpa using hd); exact .inr (by omega))] at hs
      exact lw hs.symm
    · have hd1 : dotO (l.drop i) = true := Classical.byContradiction fun h => hd (.inl h)
      have hd2 : acc.length ≤ 6 := by omega
      rw [if_neg (by rw [hd1]; intro h; rcases h with h | h; cases h; omega)] at hs
      obtain ⟨v0, v1⟩ := dotV_bd (l.drop i)
      have e1 : IntKind.u16.wrap (shrZ IntKind.u32 (dotV (l.drop i)) 16) = dotV (l.drop i) / 65536 := by
        have : shrZ IntKind.u32 (dotV (l.drop i)) 16 = dotV (l.drop i) / 65536 := by
          unfold shrZ
          rw [show (2 : Int) ^ min (Int.toNat 16) IntKind.u32.bits = 65536 by decide, Int.fdiv_eq_ediv_of_nonneg _ (by decide)]
        rw [this]
        exact IntWalk.u16_in _ (by omega)
      have e2 : IntKind.u16.wrap (dotV (l.drop i)) = dotV (l.drop i) % 65536 := by
        simp [IntKind.wrap, IntKind.bits, IntKind.signed]
      have e3 : setZ (setZ (pad acc) (acc.length : Int) (dotV (l.drop i) / 65536)) ((acc.length : Int) + 1) (dotV (l.drop i) % 65536) = pad (acc ++ [dotV (l.drop i) / 65536] ++ [dotV (l.drop i) % 65536]) := by
        rw [pad_setZ _ _ (by omega), show (acc.length : Int) + 1 = ((acc ++ [dotV (l.drop i) / 65536]).length : Int) by simp, pad_setZ _ _ (by simp; omega)]
      rw [e1, e2, e3]
      exact ⟨⟨by omega, by omega⟩, by omega, ⟨by omega, by omega⟩, ⟨⟨by omega, by omega⟩, trivial⟩, ⟨by omega, by omega⟩, ⟨⟨by omega, by omega⟩, trivial⟩, ⟨by omega, by omega⟩, fin _ G _ _ (by simp; omega) (by simp) rfl (by omega) hs⟩
  · rw [if_neg (by intro h; exact h46 ⟨by omega, h.2⟩)] at hs
    refine ⟨fun _ => ⟨by omega, by omega⟩, fun h => ?_, fun h => ?_⟩
    · rw [if_pos (by omega)] at hs
      exact lw hs.symm
    · rw [if_neg (by omega)] at hs
      have h7 : acc.length < 8 := by omega
      obtain ⟨d1, d2⟩ := piece_digits l i e he (by omega)
      have hl1 : (acc ++ [hexW ((l.take e).drop i)]).length = acc.length + 1 := by simp
      rw [pad_setZ _ _ h7]
      refine ⟨⟨by omega, by omega, by omega⟩, ⟨d1, d2⟩, ⟨by omega, by omega⟩, ⟨⟨by omega, by omega⟩, trivial⟩, ⟨by omega, by omega⟩, fun hq => ?_, fun hq => ?_⟩
      · rw [if_pos (by omega)] at hs
        exact fin _ G _ _ (by omega) (by rw [hl1]; push_cast; rfl) rfl (by omega) hs
      · rw [if_neg (by omega)] at hs
        refine ⟨⟨by omega, by omega⟩, fun _ => ⟨by omega, by omega⟩, fun h5 => ?_, fun h5 => ?_⟩
        · rw [if_pos (by rcases h5 with h5 | h5; exact .inl h5; exact .inr (by omega))] at hs
          exact lw hs.symm
        · rw [if_neg (by intro h6; exact h5 (by rcases h6 with h6 | h6; exact .inl h6; exact .inr (by omega)))] at hs
          refine ⟨⟨by omega, by omega⟩, ⟨by omega, by omega⟩, fun h9 => ?_, fun h9 => ⟨fun hg => ?_, fun hg => ⟨⟨by omega, by omega⟩, fun hlt => ?_, fun hlt => ?_⟩⟩⟩
          · rw [if_pos h9, ← hl1] at hs
            exact H1 _ hl1 (pad_setZ _ _ h7) (by omega) (by omega) hs
          · rw [if_neg h9, if_pos hg] at hs
            exact lw hs.symm
          · rw [if_neg h9, if_neg hg, if_pos (by omega)] at hs
            exact H2 _ hl1 (pad_setZ _ _ h7) (by omega) (by omega) (by rw [hl1]; exact hs)
          · rw [if_neg h9, if_neg hg, if_neg (by omega)] at hs
            exact fin _ _ _ _ (by omega) (by rw [hl1]; push_cast; rfl) rfl (by omega) hs
end Go.Proofs.YtjljhkjpogjdhaaGreatDoor
end
/- The function gossamer/ip6.Parse does what is told of it. -/
section
set_option linter.unusedVariables false
set_option linter.unusedSimpArgs false
set_option maxRecDepth 100000
set_option maxHeartbeats 4000000
namespace Go.Proofs.YtjljhkjpogjdhaaGreatDoor
open Go Go.Proofs Go.RowKit Go.Vc

theorem pre_len {l : Bs} (h : Lib.hasPrefix l [58, 58] = true) : 2 ≤ l.length := by
  match l, h with
  | [], h => cases h
  | [a], h => unfold Lib.hasPrefix at h; simp [List.isPrefixOf] at h
  | _ :: _ :: _, _ => simp

def X_parse6 : Tbl := tblX [(59, ent_behind), (60, ent_number), (61, ent_dotted), (62, ent_spread), (12, ent_prefix)]
def H_parse6 (l : Bs) : Loops := fun i => bif Nat.beq i 1000000 then some ⟨(Int) × (Int) × (Int) × (List Int), (fun s x => VS.mk [] [(0, .str l), (2, .ptr 34 0), (3, .bool false), (4, .ptr 36 0), (5, .int .u32 0), (6, .bool false), (7, .int .i64 x.1), (8, .int .i64 x.2.1), (9, .int .i64 x.2.2.1), (10, .undef), (13, .undef), (17, .undef), (30, .undef), (43, .undef), (56, .undef), (67, .undef), (73, .undef), (75, .undef), (82, .undef), (95, .undef), (113, .undef), (120, .undef)] [(36, .arr 8 (.ints .u16 x.2.2.2)), (34, .arr 8 (.ints .u16 (List.replicate 8 0)))]), (fun s => (s.int 7, s.int 8, s.int 9, VS.ints (VS.mk [] s.lh []) 36)), (fun s x => let c := x.1; let g := x.2.1; let a := x.2.2.1; let p := x.2.2.2; ∃ acc : List Int, c = acc.length ∧ acc.length ≤ 8 ∧ p = pad acc ∧ -1 ≤ g ∧ g ≤ c ∧ 0 ≤ a ∧ a ≤ l.length ∧ six1 l (9 - acc.length) acc g a.toNat = six l), (fun s x => let c := x.1; let g := x.2.1; let a := x.2.2.1; let p := x.2.2.2; (9 - c).toNat), [10, 13, 17, 30, 43, 56, 67, 73, 75, 82]⟩ else none
theorem X_parse6_ok : XOk Tryz.prog noT X_parse6 := tblX_cons ent_behind_ok (tblX_cons ent_number_ok (tblX_cons ent_dotted_ok (tblX_cons ent_spread_ok (tblX_cons ent_prefix_ok (tblX_nil)))))
theorem vc_parse6 (l : Bs) (k : PV → Prop) : evF Tryz.prog X_parse6 noT (H_parse6 l) 1000 Tryz.f31 [.str l] k = (
  True ∧
 ((!preB l (ByteArray.mk #[(58 : UInt8), (58 : UInt8)]).data.toList) = true →
 VS.mk []
 [(nat_lit 0, PV.str l), (nat_lit 2, PV.ptr ((2 : Nat) + (32 : Nat)) (0 : Nat)), (nat_lit 3, PV.bool false),
 (nat_lit 4, PV.ptr ((4 : Nat) + (32 : Nat)) (0 : Nat)), (nat_lit 5, PV.int Go.IntKind.u32 (0 : Int)),
 (nat_lit 6, PV.bool false), (nat_lit 7, PV.int Go.IntKind.i64 (0 : Int)), (nat_lit 8, PV.int Go.IntKind.i64 (-1 : Int)),
 (nat_lit 9, PV.int Go.IntKind.i64 (0 : Int)), ((10 : Nat), PV.undef), ((13 : Nat), PV.undef), ((17 : Nat), PV.undef),
 ((30 : Nat), PV.undef), ((43 : Nat), PV.undef), ((56 : Nat), PV.undef), ((67 : Nat), PV.undef),
 ((73 : Nat), PV.undef), ((75 : Nat), PV.undef), ((82 : Nat), PV.undef), (nat_lit 95, PV.undef),
 (nat_lit 113, PV.undef), (nat_lit 120, PV.undef)]
 [((4 : Nat) + (32 : Nat), PV.arr (8 : Nat) (BRow.ints Go.IntKind.u16 (List.replicate (8 : Nat) (0 : Int)))),
 ((2 : Nat) + (32 : Nat), PV.arr (8 : Nat) (BRow.ints Go.IntKind.u16 (List.replicate (8 : Nat) (0 : Int))))] =
 VS.mk []
 [((0 : Nat), PV.str l), ((2 : Nat), PV.ptr (34 : Nat) (0 : Nat)), ((3 : Nat), PV.bool false),
 ((4 : Nat), PV.ptr (36 : Nat) (0 : Nat)), ((5 : Nat), PV.int Go.IntKind.u32 (0 : Int)), ((6 : Nat), PV.bool false),
 ((7 : Nat), PV.int Go.IntKind.i64 (0 : Int)), ((8 : Nat), PV.int Go.IntKind.i64 (-1 : Int)),
 ((9 : Nat), PV.int Go.IntKind.i64 (0 : Int)), ((10 : Nat), PV.undef), ((13 : Nat), PV.undef), ((17 : Nat), PV.undef),
 ((30 : Nat), PV.undef), ((43 : Nat), PV.undef), ((56 : Nat), PV.undef), ((67 : Nat), PV.undef),
 ((73 : Nat), PV.undef), ((75 : Nat), PV.undef), ((82 : Nat), PV.undef), ((95 : Nat), PV.undef),
 ((113 : Nat), PV.undef), ((120 : Nat), PV.undef)]
 [((36 : Nat), PV.arr (8 : Nat) (BRow.ints Go.IntKind.u16 (List.replicate (8 : Nat) (0 : Int)))),
 ((34 : Nat), PV.arr (8 : Nat) (BRow.ints Go.IntKind.u16 (List.replicate (8 : Nat) (0 : Int))))] ∧
 (∃ (acc : List Int),
 (0 : Int) = ↑acc.length ∧
 acc.length ≤ (8 : Nat) ∧
 List.replicate (8 : Nat) (0 : Int) = pad acc ∧
 (-1 : Int) ≤ (-1 : Int) ∧
 (-1 : Int) ≤ (0 : Int) ∧
 (0 : Int) ≤ (0 : Int) ∧
 (0 : Int) ≤ ↑(List.length l) ∧
 six1 l ((9 : Nat) - acc.length) acc (-1 : Int) (Int.toNat (0 : Int)) =
 six l) ∧
 ∀ (x : Int × Int × Int × List Int),
 (∃ (acc : List Int),
 x.fst = ↑acc.length ∧
 acc.length ≤ (8 : Nat) ∧
 x.snd.snd.snd = pad acc ∧
 (-1 : Int) ≤ x.snd.fst ∧
 x.snd.fst ≤ x.fst ∧
 (0 : Int) ≤ x.snd.snd.fst ∧
 x.snd.snd.fst ≤ ↑(List.length l) ∧
 six1 l ((9 : Nat) - acc.length) acc x.snd.fst x.snd.snd.fst.toNat =
 six l) →
 ((0 : Int) ≤ x.snd.snd.fst ∧ x.snd.snd.fst ≤ ↑(List.length l) ∧ List.length l ≤ (1000000 : Nat)) ∧
 (decide (x.snd.snd.fst + ↑(hexLen (List.drop x.snd.snd.fst.toNat l)) < lenZ l) = true →
 within (x.snd.snd.fst + ↑(hexLen (List.drop x.snd.snd.fst.toNat l))) (lenZ l)) ∧
 ((bif decide (x.snd.snd.fst + ↑(hexLen (List.drop x.snd.snd.fst.toNat l)) < lenZ l) then
 decide (byteZ l (x.snd.snd.fst + ↑(hexLen (List.drop x.snd.snd.fst.toNat l))) = (46 : Int))
 else false) =
 true →
 upto x.snd.snd.fst (lenZ l) (lenZ l) ∧
 (dropZ l x.snd.snd.fst).length.le (1000000 : Nat) ∧
 ((bif !dotO (dropZ l x.snd.snd.fst) then true else decide ((6 : Int) < x.fst)) = true →
 k
 (PV.tup
 [PV.arr (8 : Nat) (BRow.ints Go.IntKind.u16 (List.replicate (8 : Nat) (0 : Int))), PV.bool false])) ∧
 ((bif !dotO (dropZ l x.snd.snd.fst) then true else decide ((6 : Int) < x.fst)) = false →
 inI64 (x.fst + (1 : Int)) ∧
 (0 : Int) ≤ (16 : Int) ∧
 within x.fst ↑(8 : Nat) ∧
 (within x.fst ↑(8 : Nat) ∧ True) ∧
 within (x.fst + (1 : Int)) ↑(8 : Nat) ∧
 (within (x.fst + (1 : Int)) ↑(8 : Nat) ∧ True) ∧
 inI64 (x.fst + (2 : Int)) ∧
 ((bif decide (x.snd.fst < (0 : Int)) then decide (x.fst + (2 : Int) = (8 : Int)) else false) = true →
 k
 (PV.tup
 [PV.arr (8 : Nat)
 (BRow.ints Go.IntKind.u16
 (setZ
 (setZ x.snd.snd.snd x.fst
 (Go.IntKind.u16.wrap
 (shrZ Go.IntKind.u32
 (dotV (dropZ l x.snd.snd.fst)) (16 : Int))))
 (x.fst + (1 : Int))
 (Go.IntKind.u16.wrap (dotV (dropZ l x.snd.snd.fst))))),
 PV.bool true])) ∧
 ((bif decide (x.snd.fst < (0 : Int)) then decide (x.fst + (2 : Int) = (8 : Int)) else false) = false →
 ((bif decide ((0 : Int) ≤ x.snd.fst) then decide (x.fst + (2 : Int) < (8 : Int)) else false) = true →
 ((setZ
 (setZ x.snd.snd.snd x.fst
 (Go.IntKind.u16.wrap
 (shrZ Go.IntKind.u32
 (dotV (dropZ l x.snd.snd.fst)) (16 : Int))))
 (x.fst + (1 : Int))
 (Go.IntKind.u16.wrap
 (dotV (dropZ l x.snd.snd.fst)))).length =
 (8 : Nat) ∧
 (0 : Int) ≤ x.snd.fst ∧ x.snd.fst ≤ x.fst + (2 : Int) ∧ x.fst + (2 : Int) ≤ (7 : Int)) ∧
 k
 (PV.tup
 [PV.arr (8 : Nat)
 (BRow.ints Go.IntKind.u16
 (spreadM
 (setZ
 (setZ x.snd.snd.snd x.fst
 (Go.IntKind.u16.wrap
 (shrZ Go.IntKind.u32
 (dotV (dropZ l x.snd.snd.fst)) (16 : Int))))
 (x.fst + (1 : Int))
 (Go.IntKind.u16.wrap
 (dotV (dropZ l x.snd.snd.fst))))
 (x.fst + (2 : Int)).toNat x.snd.fst.toNat)),
 PV.bool true])) ∧
 ((bif decide ((0 : Int) ≤ x.snd.fst) then decide (x.fst + (2 : Int) < (8 : Int)) else false) = false →
 k
 (PV.tup
 [PV.arr (8 : Nat) (BRow.ints Go.IntKind.u16 (List.replicate (8 : Nat) (0 : Int))),
 PV.bool false]))))) ∧
 ((bif decide (x.snd.snd.fst + ↑(hexLen (List.drop x.snd.snd.fst.toNat l)) < lenZ l) then
 decide (byteZ l (x.snd.snd.fst + ↑(hexLen (List.drop x.snd.snd.fst.toNat l))) = (46 : Int))
 else false) =
 false →
 ((bif decide (x.fst = (8 : Int)) then true
 else decide (x.snd.snd.fst + ↑(hexLen (List.drop x.snd.snd.fst.toNat l)) = x.snd.snd.fst)) =
 false →
 inI64 (x.snd.snd.fst + (4 : Int))) ∧
 ((bif
 bif decide (x.fst = (8 : Int)) then true
 else
 decide
 (x.snd.snd.fst + ↑(hexLen (List.drop x.snd.snd.fst.toNat l)) = x.snd.snd.fst) then
 true
 else
 decide
 (x.snd.snd.fst + (4 : Int) <
 x.snd.snd.fst + ↑(hexLen (List.drop x.snd.snd.fst.toNat l)))) =
 true →
 k
 (PV.tup
 [PV.arr (8 : Nat) (BRow.ints Go.IntKind.u16 (List.replicate (8 : Nat) (0 : Int))), PV.bool false])) ∧
 ((bif
 bif decide (x.fst = (8 : Int)) then true
 else
 decide
 (x.snd.snd.fst + ↑(hexLen (List.drop x.snd.snd.fst.toNat l)) = x.snd.snd.fst) then
 true
 else
 decide
 (x.snd.snd.fst + (4 : Int) <
 x.snd.snd.fst + ↑(hexLen (List.drop x.snd.snd.fst.toNat l)))) =
 false →
 upto x.snd.snd.fst (x.snd.snd.fst + ↑(hexLen (List.drop x.snd.snd.fst.toNat l)))
 (lenZ l) ∧
 ((cutZ l x.snd.snd.fst
 (x.snd.snd.fst + ↑(hexLen (List.drop x.snd.snd.fst.toNat l)))).length ≤
 (4 : Nat) ∧
 ∀ (i : Nat),
 i <
 (cutZ l x.snd.snd.fst
 (x.snd.snd.fst + ↑(hexLen (List.drop x.snd.snd.fst.toNat l)))).length →
 (0 : Int) ≤
 hexN
 (byt
 (cutZ l x.snd.snd.fst
 (x.snd.snd.fst + ↑(hexLen (List.drop x.snd.snd.fst.toNat l))))
 i)) ∧
 within x.fst ↑(8 : Nat) ∧
 (within x.fst ↑(8 : Nat) ∧ True) ∧
 inI64 (x.fst + (1 : Int)) ∧
 (decide (x.snd.snd.fst + ↑(hexLen (List.drop x.snd.snd.fst.toNat l)) = lenZ l) =
 true →
 ((bif decide (x.snd.fst < (0 : Int)) then decide (x.fst + (1 : Int) = (8 : Int)) else false) = true →
 k
 (PV.tup
 [PV.arr (8 : Nat)
 (BRow.ints Go.IntKind.u16
 (setZ x.snd.snd.snd x.fst
 (hexW
 (cutZ l x.snd.snd.fst
 (x.snd.snd.fst +
 ↑(hexLen (List.drop x.snd.snd.fst.toNat l))))))),
 PV.bool true])) ∧
 ((bif decide (x.snd.fst < (0 : Int)) then decide (x.fst + (1 : Int) = (8 : Int)) else false) = false →
 ((bif decide ((0 : Int) ≤ x.snd.fst) then decide (x.fst + (1 : Int) < (8 : Int)) else false) = true →
 ((setZ x.snd.snd.snd x.fst
 (hexW
 (cutZ l x.snd.snd.fst
 (x.snd.snd.fst +
 ↑(hexLen (List.drop x.snd.snd.fst.toNat l)))))).length =
 (8 : Nat) ∧
 (0 : Int) ≤ x.snd.fst ∧ x.snd.fst ≤ x.fst + (1 : Int) ∧ x.fst + (1 : Int) ≤ (7 : Int)) ∧
 k
 (PV.tup
 [PV.arr (8 : Nat)
 (BRow.ints Go.IntKind.u16
 (spreadM
 (setZ x.snd.snd.snd x.fst
 (hexW
 (cutZ l x.snd.snd.fst
 (x.snd.snd.fst +
 ↑(hexLen (List.drop x.snd.snd.fst.toNat l))))))
 (x.fst + (1 : Int)).toNat x.snd.fst.toNat)),
 PV.bool true])) ∧
 ((bif decide ((0 : Int) ≤ x.snd.fst) then decide (x.fst + (1 : Int) < (8 : Int)) else false) = false →
 k
 (PV.tup
 [PV.arr (8 : Nat) (BRow.ints Go.IntKind.u16 (List.replicate (8 : Nat) (0 : Int))),
 PV.bool false])))) ∧
 (decide
 (x.snd.snd.fst + ↑(hexLen (List.drop x.snd.snd.fst.toNat l)) = lenZ l) =
 false →
 within (x.snd.snd.fst + ↑(hexLen (List.drop x.snd.snd.fst.toNat l)))
 (lenZ l) ∧
 ((!decide
 (byteZ l
 (x.snd.snd.fst + ↑(hexLen (List.drop x.snd.snd.fst.toNat l))) =
 (58 : Int))) =
 false →
 inI64
 (x.snd.snd.fst + ↑(hexLen (List.drop x.snd.snd.fst.toNat l)) +
 (1 : Int))) ∧
 ((bif
 !decide
 (byteZ l
 (x.snd.snd.fst +
 ↑(hexLen (List.drop x.snd.snd.fst.toNat l))) =
 (58 : Int)) then
 true
 else
 decide
 (x.snd.snd.fst + ↑(hexLen (List.drop x.snd.snd.fst.toNat l)) +
 (1 : Int) =
 lenZ l)) =
 true →
 k
 (PV.tup
 [PV.arr (8 : Nat) (BRow.ints Go.IntKind.u16 (List.replicate (8 : Nat) (0 : Int))),
 PV.bool false])) ∧
 ((bif
 !decide
 (byteZ l
 (x.snd.snd.fst +
 ↑(hexLen (List.drop x.snd.snd.fst.toNat l))) =
 (58 : Int)) then
 true
 else
 decide
 (x.snd.snd.fst + ↑(hexLen (List.drop x.snd.snd.fst.toNat l)) +
 (1 : Int) =
 lenZ l)) =
 false →
 inI64
 (x.snd.snd.fst + ↑(hexLen (List.drop x.snd.snd.fst.toNat l)) +
 (1 : Int)) ∧
 within
 (x.snd.snd.fst + ↑(hexLen (List.drop x.snd.snd.fst.toNat l)) +
 (1 : Int))
 (lenZ l) ∧
 ((!decide
 (byteZ l
 (x.snd.snd.fst +
 ↑(hexLen (List.drop x.snd.snd.fst.toNat l)) +
 (1 : Int)) =
 (58 : Int))) =
 true →
 VS.mk []
 [((0 : Nat), PV.str l), ((2 : Nat), PV.ptr (34 : Nat) (0 : Nat)),
 ((3 : Nat), PV.bool false), ((4 : Nat), PV.ptr (36 : Nat) (0 : Nat)),
 ((5 : Nat), PV.int Go.IntKind.u32 (0 : Int)), ((6 : Nat), PV.bool false),
 ((7 : Nat), PV.int Go.IntKind.i64 (x.fst + (1 : Int))),
 ((8 : Nat), PV.int Go.IntKind.i64 x.snd.fst),
 ((9 : Nat),
 PV.int Go.IntKind.i64
 (x.snd.snd.fst +
 ↑(hexLen (List.drop x.snd.snd.fst.toNat l)) +
 (1 : Int))),
 ((10 : Nat), PV.undef), ((13 : Nat), PV.undef), ((17 : Nat), PV.undef),
 ((30 : Nat), PV.undef), ((43 : Nat), PV.undef), ((56 : Nat), PV.undef),
 ((67 : Nat), PV.undef), ((73 : Nat), PV.undef), ((75 : Nat), PV.undef),
 ((82 : Nat), PV.undef), ((95 : Nat), PV.undef), ((113 : Nat), PV.undef),
 ((120 : Nat), PV.undef)]
 [((36 : Nat),
 PV.arr (8 : Nat)
 (BRow.ints Go.IntKind.u16
 (setZ x.snd.snd.snd x.fst
 (hexW
 (cutZ l x.snd.snd.fst
 (x.snd.snd.fst +
 ↑(hexLen
 (List.drop x.snd.snd.fst.toNat l)))))))),
 ((34 : Nat),
 PV.arr (8 : Nat)
 (BRow.ints Go.IntKind.u16 (List.replicate (8 : Nat) (0 : Int))))] =
 VS.mk []
 [((0 : Nat), PV.str l), ((2 : Nat), PV.ptr (34 : Nat) (0 : Nat)),
 ((3 : Nat), PV.bool false), ((4 : Nat), PV.ptr (36 : Nat) (0 : Nat)),
 ((5 : Nat), PV.int Go.IntKind.u32 (0 : Int)), ((6 : Nat), PV.bool false),
 ((7 : Nat), PV.int Go.IntKind.i64 (x.fst + (1 : Int))),
 ((8 : Nat), PV.int Go.IntKind.i64 x.snd.fst),
 ((9 : Nat),
 PV.int Go.IntKind.i64
 (x.snd.snd.fst +
 ↑(hexLen (List.drop x.snd.snd.fst.toNat l)) +
 (1 : Int))),
 ((10 : Nat), PV.undef), ((13 : Nat), PV.undef), ((17 : Nat), PV.undef),
 ((30 : Nat), PV.undef), ((43 : Nat), PV.undef), ((56 : Nat), PV.undef),
 ((67 : Nat), PV.undef), ((73 : Nat), PV.undef), ((75 : Nat), PV.undef),
 ((82 : Nat), PV.undef), ((95 : Nat), PV.undef), ((113 : Nat), PV.undef),
 ((120 : Nat), PV.undef)]
 [((36 : Nat),
 PV.arr (8 : Nat)
 (BRow.ints Go.IntKind.u16
 (setZ x.snd.snd.snd x.fst
 (hexW
 (cutZ l x.snd.snd.fst
 (x.snd.snd.fst +
 ↑(hexLen
 (List.drop x.snd.snd.fst.toNat l)))))))),
 ((34 : Nat),
 PV.arr (8 : Nat)
 (BRow.ints Go.IntKind.u16 (List.replicate (8 : Nat) (0 : Int))))] ∧
 (∃ (acc : List Int),
 x.fst + (1 : Int) = ↑acc.length ∧
 acc.length ≤ (8 : Nat) ∧
 setZ x.snd.snd.snd x.fst
 (hexW
 (cutZ l x.snd.snd.fst
 (x.snd.snd.fst +
 ↑(hexLen
 (List.drop x.snd.snd.fst.toNat l))))) =
 pad acc ∧
 (-1 : Int) ≤ x.snd.fst ∧
 x.snd.fst ≤ x.fst + (1 : Int) ∧
 (0 : Int) ≤
 x.snd.snd.fst +
 ↑(hexLen
 (List.drop x.snd.snd.fst.toNat l)) +
 (1 : Int) ∧
 x.snd.snd.fst +
 ↑(hexLen
 (List.drop x.snd.snd.fst.toNat l)) +
 (1 : Int) ≤
 ↑(List.length l) ∧
 six1 l ((9 : Nat) - acc.length) acc x.snd.fst
 (x.snd.snd.fst +
 ↑(hexLen
 (List.drop x.snd.snd.fst.toNat l)) +
 (1 : Int)).toNat =
 six l) ∧
 ((9 : Int) - (x.fst + (1 : Int))).toNat < ((9 : Int) - x.fst).toNat) ∧
 ((!decide
 (byteZ l
 (x.snd.snd.fst +
 ↑(hexLen (List.drop x.snd.snd.fst.toNat l)) +
 (1 : Int)) =
 (58 : Int))) =
 false →
 (decide ((0 : Int) ≤ x.snd.fst) = true →
 k
 (PV.tup
 [PV.arr (8 : Nat) (BRow.ints Go.IntKind.u16 (List.replicate (8 : Nat) (0 : Int))),
 PV.bool false])) ∧
 (decide ((0 : Int) ≤ x.snd.fst) = false →
 inI64
 (x.snd.snd.fst +
 ↑(hexLen (List.drop x.snd.snd.fst.toNat l)) +
 (1 : Int) +
 (1 : Int)) ∧
 (decide
 (x.snd.snd.fst +
 ↑(hexLen
 (List.drop x.snd.snd.fst.toNat l)) +
 (1 : Int) +
 (1 : Int) <
 lenZ l) =
 true →
 VS.mk []
 [((0 : Nat), PV.str l), ((2 : Nat), PV.ptr (34 : Nat) (0 : Nat)),
 ((3 : Nat), PV.bool false), ((4 : Nat), PV.ptr (36 : Nat) (0 : Nat)),
 ((5 : Nat), PV.int Go.IntKind.u32 (0 : Int)),
 ((6 : Nat), PV.bool false),
 ((7 : Nat), PV.int Go.IntKind.i64 (x.fst + (1 : Int))),
 ((8 : Nat), PV.int Go.IntKind.i64 (x.fst + (1 : Int))),
 ((9 : Nat),
 PV.int Go.IntKind.i64
 (x.snd.snd.fst +
 ↑(hexLen
 (List.drop x.snd.snd.fst.toNat l)) +
 (1 : Int) +
 (1 : Int))),
 ((10 : Nat), PV.undef), ((13 : Nat), PV.undef),
 ((17 : Nat), PV.undef), ((30 : Nat), PV.undef),
 ((43 : Nat), PV.undef), ((56 : Nat), PV.undef),
 ((67 : Nat), PV.undef), ((73 : Nat), PV.undef),
 ((75 : Nat), PV.undef), ((82 : Nat), PV.undef),
 ((95 : Nat), PV.undef), ((113 : Nat), PV.undef),
 ((120 : Nat), PV.undef)]
 [((36 : Nat),
 PV.arr (8 : Nat)
 (BRow.ints Go.IntKind.u16
 (setZ x.snd.snd.snd x.fst
 (hexW
 (cutZ l x.snd.snd.fst
 (x.snd.snd.fst +
 ↑(hexLen
 (List.drop x.snd.snd.fst.toNat l)))))))),
 ((34 : Nat),
 PV.arr (8 : Nat)
 (BRow.ints Go.IntKind.u16 (List.replicate (8 : Nat) (0 : Int))))] =
 VS.mk []
 [((0 : Nat), PV.str l), ((2 : Nat), PV.ptr (34 : Nat) (0 : Nat)),
 ((3 : Nat), PV.bool false), ((4 : Nat), PV.ptr (36 : Nat) (0 : Nat)),
 ((5 : Nat), PV.int Go.IntKind.u32 (0 : Int)),
 ((6 : Nat), PV.bool false),
 ((7 : Nat), PV.int Go.IntKind.i64 (x.fst + (1 : Int))),
 ((8 : Nat), PV.int Go.IntKind.i64 (x.fst + (1 : Int))),
 ((9 : Nat),
 PV.int Go.IntKind.i64
 (x.snd.snd.fst +
 ↑(hexLen
 (List.drop x.snd.snd.fst.toNat l)) +
 (1 : Int) +
 (1 : Int))),
 ((10 : Nat), PV.undef), ((13 : Nat), PV.undef),
 ((17 : Nat), PV.undef), ((30 : Nat), PV.undef),
 ((43 : Nat), PV.undef), ((56 : Nat), PV.undef),
 ((67 : Nat), PV.undef), ((73 : Nat), PV.undef),
 ((75 : Nat), PV.undef), ((82 : Nat), PV.undef),
 ((95 : Nat), PV.undef), ((113 : Nat), PV.undef),
 ((120 : Nat), PV.undef)]
 [((36 : Nat),
 PV.arr (8 : Nat)
 (BRow.ints Go.IntKind.u16
 (setZ x.snd.snd.snd x.fst
 (hexW
 (cutZ l x.snd.snd.fst
 (x.snd.snd.fst +
 ↑(hexLen
 (List.drop x.snd.snd.fst.toNat l)))))))),
 ((34 : Nat),
 PV.arr (8 : Nat)
 (BRow.ints Go.IntKind.u16 (List.replicate (8 : Nat) (0 : Int))))] ∧
 (∃ (acc : List Int),
 x.fst + (1 : Int) = ↑acc.length ∧
 acc.length ≤ (8 : Nat) ∧
 setZ x.snd.snd.snd x.fst
 (hexW
 (cutZ l x.snd.snd.fst
 (x.snd.snd.fst +
 ↑(hexLen
 (List.drop x.snd.snd.fst.toNat l))))) =
 pad acc ∧
 (-1 : Int) ≤ x.fst + (1 : Int) ∧
 x.fst + (1 : Int) ≤ x.fst + (1 : Int) ∧
 (0 : Int) ≤
 x.snd.snd.fst +
 ↑(hexLen
 (List.drop x.snd.snd.fst.toNat l)) +
 (1 : Int) +
 (1 : Int) ∧
 x.snd.snd.fst +
 ↑(hexLen
 (List.drop x.snd.snd.fst.toNat l)) +
 (1 : Int) +
 (1 : Int) ≤
 ↑(List.length l) ∧
 six1 l ((9 : Nat) - acc.length) acc
 (x.fst + (1 : Int))
 (x.snd.snd.fst +
 ↑(hexLen
 (List.drop x.snd.snd.fst.toNat l)) +
 (1 : Int) +
 (1 : Int)).toNat =
 six l) ∧
 ((9 : Int) - (x.fst + (1 : Int))).toNat < ((9 : Int) - x.fst).toNat) ∧
 (decide
 (x.snd.snd.fst +
 ↑(hexLen
 (List.drop x.snd.snd.fst.toNat l)) +
 (1 : Int) +
 (1 : Int) <
 lenZ l) =
 false →
 ((bif decide (x.fst + (1 : Int) < (0 : Int)) then decide (x.fst + (1 : Int) = (8 : Int))
 else false) =
 true →
 k
 (PV.tup
 [PV.arr (8 : Nat)
 (BRow.ints Go.IntKind.u16
 (setZ x.snd.snd.snd x.fst
 (hexW
 (cutZ l x.snd.snd.fst
 (x.snd.snd.fst +
 ↑(hexLen
 (List.drop x.snd.snd.fst.toNat l))))))),
 PV.bool true])) ∧
 ((bif decide (x.fst + (1 : Int) < (0 : Int)) then decide (x.fst + (1 : Int) = (8 : Int))
 else false) =
 false →
 ((bif decide ((0 : Int) ≤ x.fst + (1 : Int)) then decide (x.fst + (1 : Int) < (8 : Int))
 else false) =
 true →
 ((setZ x.snd.snd.snd x.fst
 (hexW
 (cutZ l x.snd.snd.fst
 (x.snd.snd.fst +
 ↑(hexLen
 (List.drop x.snd.snd.fst.toNat l)))))).length =
 (8 : Nat) ∧
 (0 : Int) ≤ x.fst + (1 : Int) ∧
 x.fst + (1 : Int) ≤ x.fst + (1 : Int) ∧ x.fst + (1 : Int) ≤ (7 : Int)) ∧
 k
 (PV.tup
 [PV.arr (8 : Nat)
 (BRow.ints Go.IntKind.u16
 (spreadM
 (setZ x.snd.snd.snd x.fst
 (hexW
 (cutZ l x.snd.snd.fst
 (x.snd.snd.fst +
 ↑(hexLen
 (List.drop x.snd.snd.fst.toNat l))))))
 (x.fst + (1 : Int)).toNat (x.fst + (1 : Int)).toNat)),
 PV.bool true])) ∧
 ((bif decide ((0 : Int) ≤ x.fst + (1 : Int)) then
 decide (x.fst + (1 : Int) < (8 : Int))
 else false) =
 false →
 k
 (PV.tup
 [PV.arr (8 : Nat)
 (BRow.ints Go.IntKind.u16 (List.replicate (8 : Nat) (0 : Int))),
 PV.bool false]))))))))))) ∧
 ((!preB l (ByteArray.mk #[(58 : UInt8), (58 : UInt8)]).data.toList) = false →
 (decide ((2 : Int) = lenZ l) = true →
 (false = true → k (PV.tup [PV.arr (8 : Nat) (BRow.ints Go.IntKind.u16 (List.replicate (8 : Nat) (0 : Int))), PV.bool true])) ∧
 (false = false →
 (decide ((0 : Int) < (8 : Int)) = true →
 ((List.replicate (8 : Nat) (0 : Int)).length = (8 : Nat) ∧ (0 : Int) ≤ (0 : Int) ∧ (0 : Int) ≤ (0 : Int) ∧ (0 : Int) ≤ (7 : Int)) ∧
 k
 (PV.tup
 [PV.arr (8 : Nat)
 (BRow.ints Go.IntKind.u16
 (spreadM (List.replicate (8 : Nat) (0 : Int)) (Int.toNat (0 : Int)) (Int.toNat (0 : Int)))),
 PV.bool true])) ∧
 (decide ((0 : Int) < (8 : Int)) = false →
 k (PV.tup [PV.arr (8 : Nat) (BRow.ints Go.IntKind.u16 (List.replicate (8 : Nat) (0 : Int))), PV.bool false])))) ∧
 (decide ((2 : Int) = lenZ l) = false →
 ((0 : Int) ≤ (2 : Int) ∧ (2 : Int) ≤ ↑(List.length l) ∧ List.length l ≤ (1000000 : Nat)) ∧
 (decide ((2 : Int) + ↑(hexLen (List.drop (Int.toNat (2 : Int)) l)) < lenZ l) = true →
 within ((2 : Int) + ↑(hexLen (List.drop (Int.toNat (2 : Int)) l))) (lenZ l)) ∧
 ((bif decide ((2 : Int) + ↑(hexLen (List.drop (Int.toNat (2 : Int)) l)) < lenZ l) then
 decide (byteZ l ((2 : Int) + ↑(hexLen (List.drop (Int.toNat (2 : Int)) l))) = (46 : Int))
 else false) =
 true →
 upto (2 : Int) (lenZ l) (lenZ l) ∧
 (dropZ l (2 : Int)).length.le (1000000 : Nat) ∧
 ((bif !dotO (dropZ l (2 : Int)) then true else decide ((6 : Int) < (0 : Int))) = true →
 k
 (PV.tup
 [PV.arr (8 : Nat) (BRow.ints Go.IntKind.u16 (List.replicate (8 : Nat) (0 : Int))), PV.bool false])) ∧
 ((bif !dotO (dropZ l (2 : Int)) then true else decide ((6 : Int) < (0 : Int))) = false →
 inI64 ((0 : Int) + (1 : Int)) ∧
 (0 : Int) ≤ (16 : Int) ∧
 within (0 : Int) ↑(8 : Nat) ∧
 (within (0 : Int) ↑(8 : Nat) ∧ True) ∧
 within ((0 : Int) + (1 : Int)) ↑(8 : Nat) ∧
 (within ((0 : Int) + (1 : Int)) ↑(8 : Nat) ∧ True) ∧
 inI64 ((0 : Int) + (2 : Int)) ∧
 (false = true →
 k
 (PV.tup
 [PV.arr (8 : Nat)
 (BRow.ints Go.IntKind.u16
 (setZ
 (setZ (List.replicate (8 : Nat) (0 : Int)) (0 : Int)
 (Go.IntKind.u16.wrap
 (shrZ Go.IntKind.u32 (dotV (dropZ l (2 : Int)))
 (16 : Int))))
 ((0 : Int) + (1 : Int))
 (Go.IntKind.u16.wrap (dotV (dropZ l (2 : Int)))))),
 PV.bool true])) ∧
 (false = false →
 (decide ((0 : Int) + (2 : Int) < (8 : Int)) = true →
 ((setZ
 (setZ (List.replicate (8 : Nat) (0 : Int)) (0 : Int)
 (Go.IntKind.u16.wrap
 (shrZ Go.IntKind.u32 (dotV (dropZ l (2 : Int)))
 (16 : Int))))
 ((0 : Int) + (1 : Int))
 (Go.IntKind.u16.wrap (dotV (dropZ l (2 : Int))))).length =
 (8 : Nat) ∧
 (0 : Int) ≤ (0 : Int) ∧ (0 : Int) ≤ (0 : Int) + (2 : Int) ∧ (0 : Int) + (2 : Int) ≤ (7 : Int)) ∧
 k
 (PV.tup
 [PV.arr (8 : Nat)
 (BRow.ints Go.IntKind.u16
 (spreadM
 (setZ
 (setZ (List.replicate (8 : Nat) (0 : Int)) (0 : Int)
 (Go.IntKind.u16.wrap
 (shrZ Go.IntKind.u32
 (dotV (dropZ l (2 : Int))) (16 : Int))))
 ((0 : Int) + (1 : Int))
 (Go.IntKind.u16.wrap (dotV (dropZ l (2 : Int)))))
 ((0 : Int) + (2 : Int)).toNat (Int.toNat (0 : Int)))),
 PV.bool true])) ∧
 (decide ((0 : Int) + (2 : Int) < (8 : Int)) = false →
 k
 (PV.tup
 [PV.arr (8 : Nat) (BRow.ints Go.IntKind.u16 (List.replicate (8 : Nat) (0 : Int))),
 PV.bool false]))))) ∧
 ((bif decide ((2 : Int) + ↑(hexLen (List.drop (Int.toNat (2 : Int)) l)) < lenZ l) then
 decide (byteZ l ((2 : Int) + ↑(hexLen (List.drop (Int.toNat (2 : Int)) l))) = (46 : Int))
 else false) =
 false →
 (decide ((2 : Int) + ↑(hexLen (List.drop (Int.toNat (2 : Int)) l)) = (2 : Int)) = false →
 inI64 ((2 : Int) + (4 : Int))) ∧
 ((bif decide ((2 : Int) + ↑(hexLen (List.drop (Int.toNat (2 : Int)) l)) = (2 : Int)) then true
 else decide ((2 : Int) + (4 : Int) < (2 : Int) + ↑(hexLen (List.drop (Int.toNat (2 : Int)) l)))) =
 true →
 k (PV.tup [PV.arr (8 : Nat) (BRow.ints Go.IntKind.u16 (List.replicate (8 : Nat) (0 : Int))), PV.bool false])) ∧
 ((bif decide ((2 : Int) + ↑(hexLen (List.drop (Int.toNat (2 : Int)) l)) = (2 : Int)) then true
 else decide ((2 : Int) + (4 : Int) < (2 : Int) + ↑(hexLen (List.drop (Int.toNat (2 : Int)) l)))) =
 false →
 upto (2 : Int) ((2 : Int) + ↑(hexLen (List.drop (Int.toNat (2 : Int)) l))) (lenZ l) ∧
 ((cutZ l (2 : Int) ((2 : Int) + ↑(hexLen (List.drop (Int.toNat (2 : Int)) l)))).length ≤
 (4 : Nat) ∧
 ∀ (i : Nat),
 i <
 (cutZ l (2 : Int)
 ((2 : Int) + ↑(hexLen (List.drop (Int.toNat (2 : Int)) l)))).length →
 (0 : Int) ≤
 hexN
 (byt
 (cutZ l (2 : Int) ((2 : Int) + ↑(hexLen (List.drop (Int.toNat (2 : Int)) l))))
 i)) ∧
 within (0 : Int) ↑(8 : Nat) ∧
 (within (0 : Int) ↑(8 : Nat) ∧ True) ∧
 inI64 ((0 : Int) + (1 : Int)) ∧
 (decide ((2 : Int) + ↑(hexLen (List.drop (Int.toNat (2 : Int)) l)) = lenZ l) =
 true →
 (false = true →
 k
 (PV.tup
 [PV.arr (8 : Nat)
 (BRow.ints Go.IntKind.u16
 (setZ (List.replicate (8 : Nat) (0 : Int)) (0 : Int)
 (hexW
 (cutZ l (2 : Int)
 ((2 : Int) + ↑(hexLen (List.drop (Int.toNat (2 : Int)) l))))))),
 PV.bool true])) ∧
 (false = false →
 (decide ((0 : Int) + (1 : Int) < (8 : Int)) = true →
 ((setZ (List.replicate (8 : Nat) (0 : Int)) (0 : Int)
 (hexW
 (cutZ l (2 : Int)
 ((2 : Int) +
 ↑(hexLen (List.drop (Int.toNat (2 : Int)) l)))))).length =
 (8 : Nat) ∧
 (0 : Int) ≤ (0 : Int) ∧ (0 : Int) ≤ (0 : Int) + (1 : Int) ∧ (0 : Int) + (1 : Int) ≤ (7 : Int)) ∧
 k
 (PV.tup
 [PV.arr (8 : Nat)
 (BRow.ints Go.IntKind.u16
 (spreadM
 (setZ (List.replicate (8 : Nat) (0 : Int)) (0 : Int)
 (hexW
 (cutZ l (2 : Int)
 ((2 : Int) +
 ↑(hexLen (List.drop (Int.toNat (2 : Int)) l))))))
 ((0 : Int) + (1 : Int)).toNat (Int.toNat (0 : Int)))),
 PV.bool true])) ∧
 (decide ((0 : Int) + (1 : Int) < (8 : Int)) = false →
 k
 (PV.tup
 [PV.arr (8 : Nat) (BRow.ints Go.IntKind.u16 (List.replicate (8 : Nat) (0 : Int))),
 PV.bool false])))) ∧
 (decide ((2 : Int) + ↑(hexLen (List.drop (Int.toNat (2 : Int)) l)) = lenZ l) =
 false →
 within ((2 : Int) + ↑(hexLen (List.drop (Int.toNat (2 : Int)) l)))
 (lenZ l) ∧
 ((!decide
 (byteZ l
 ((2 : Int) + ↑(hexLen (List.drop (Int.toNat (2 : Int)) l))) =
 (58 : Int))) =
 false →
 inI64
 ((2 : Int) + ↑(hexLen (List.drop (Int.toNat (2 : Int)) l)) + (1 : Int))) ∧
 ((bif
 !decide
 (byteZ l
 ((2 : Int) + ↑(hexLen (List.drop (Int.toNat (2 : Int)) l))) =
 (58 : Int)) then
 true
 else
 decide
 ((2 : Int) + ↑(hexLen (List.drop (Int.toNat (2 : Int)) l)) + (1 : Int) =
 lenZ l)) =
 true →
 k
 (PV.tup
 [PV.arr (8 : Nat) (BRow.ints Go.IntKind.u16 (List.replicate (8 : Nat) (0 : Int))),
 PV.bool false])) ∧
 ((bif
 !decide
 (byteZ l
 ((2 : Int) + ↑(hexLen (List.drop (Int.toNat (2 : Int)) l))) =
 (58 : Int)) then
 true
 else
 decide
 ((2 : Int) + ↑(hexLen (List.drop (Int.toNat (2 : Int)) l)) + (1 : Int) =
 lenZ l)) =
 false →
 inI64
 ((2 : Int) + ↑(hexLen (List.drop (Int.toNat (2 : Int)) l)) + (1 : Int)) ∧
 within
 ((2 : Int) + ↑(hexLen (List.drop (Int.toNat (2 : Int)) l)) + (1 : Int))
 (lenZ l) ∧
 ((!decide
 (byteZ l
 ((2 : Int) + ↑(hexLen (List.drop (Int.toNat (2 : Int)) l)) +
 (1 : Int)) =
 (58 : Int))) =
 true →
 VS.mk []
 [(nat_lit 0, PV.str l), (nat_lit 2, PV.ptr ((2 : Nat) + (32 : Nat)) (0 : Nat)),
 (nat_lit 3, PV.bool false), (nat_lit 4, PV.ptr ((4 : Nat) + (32 : Nat)) (0 : Nat)),
 (nat_lit 5, PV.int Go.IntKind.u32 (0 : Int)), (nat_lit 6, PV.bool false),
 (nat_lit 7, PV.int Go.IntKind.i64 ((0 : Int) + (1 : Int))),
 (nat_lit 8, PV.int Go.IntKind.i64 (0 : Int)),
 (nat_lit 9,
 PV.int Go.IntKind.i64
 ((2 : Int) +
 ↑(hexLen (List.drop (Int.toNat (2 : Int)) l)) +
 (1 : Int))),
 ((10 : Nat), PV.undef), ((13 : Nat), PV.undef), ((17 : Nat), PV.undef),
 ((30 : Nat), PV.undef), ((43 : Nat), PV.undef), ((56 : Nat), PV.undef),
 ((67 : Nat), PV.undef), ((73 : Nat), PV.undef), ((75 : Nat), PV.undef),
 ((82 : Nat), PV.undef), (nat_lit 95, PV.undef), (nat_lit 113, PV.undef),
 (nat_lit 120, PV.undef)]
 [((4 : Nat) + (32 : Nat),
 PV.arr (8 : Nat)
 (BRow.ints Go.IntKind.u16
 (setZ (List.replicate (8 : Nat) (0 : Int)) (0 : Int)
 (hexW
 (cutZ l (2 : Int)
 ((2 : Int) +
 ↑(hexLen
 (List.drop (Int.toNat (2 : Int)) l)))))))),
 ((2 : Nat) + (32 : Nat),
 PV.arr (8 : Nat) (BRow.ints Go.IntKind.u16 (List.replicate (8 : Nat) (0 : Int))))] =
 VS.mk []
 [((0 : Nat), PV.str l), ((2 : Nat), PV.ptr (34 : Nat) (0 : Nat)),
 ((3 : Nat), PV.bool false), ((4 : Nat), PV.ptr (36 : Nat) (0 : Nat)),
 ((5 : Nat), PV.int Go.IntKind.u32 (0 : Int)), ((6 : Nat), PV.bool false),
 ((7 : Nat), PV.int Go.IntKind.i64 ((0 : Int) + (1 : Int))),
 ((8 : Nat), PV.int Go.IntKind.i64 (0 : Int)),
 ((9 : Nat),
 PV.int Go.IntKind.i64
 ((2 : Int) +
 ↑(hexLen (List.drop (Int.toNat (2 : Int)) l)) +
 (1 : Int))),
 ((10 : Nat), PV.undef), ((13 : Nat), PV.undef), ((17 : Nat), PV.undef),
 ((30 : Nat), PV.undef), ((43 : Nat), PV.undef), ((56 : Nat), PV.undef),
 ((67 : Nat), PV.undef), ((73 : Nat), PV.undef), ((75 : Nat), PV.undef),
 ((82 : Nat), PV.undef), ((95 : Nat), PV.undef), ((113 : Nat), PV.undef),
 ((120 : Nat), PV.undef)]
 [((36 : Nat),
 PV.arr (8 : Nat)
 (BRow.ints Go.IntKind.u16
 (setZ (List.replicate (8 : Nat) (0 : Int)) (0 : Int)
 (hexW
 (cutZ l (2 : Int)
 ((2 : Int) +
 ↑(hexLen
 (List.drop (Int.toNat (2 : Int)) l)))))))),
 ((34 : Nat),
 PV.arr (8 : Nat) (BRow.ints Go.IntKind.u16 (List.replicate (8 : Nat) (0 : Int))))] ∧
 (∃ (acc : List Int),
 (0 : Int) + (1 : Int) = ↑acc.length ∧
 acc.length ≤ (8 : Nat) ∧
 setZ (List.replicate (8 : Nat) (0 : Int)) (0 : Int)
 (hexW
 (cutZ l (2 : Int)
 ((2 : Int) +
 ↑(hexLen
 (List.drop (Int.toNat (2 : Int)) l))))) =
 pad acc ∧
 (-1 : Int) ≤ (0 : Int) ∧
 (0 : Int) ≤ (0 : Int) + (1 : Int) ∧
 (0 : Int) ≤
 (2 : Int) +
 ↑(hexLen
 (List.drop (Int.toNat (2 : Int)) l)) +
 (1 : Int) ∧
 (2 : Int) +
 ↑(hexLen
 (List.drop (Int.toNat (2 : Int)) l)) +
 (1 : Int) ≤
 ↑(List.length l) ∧
 six1 l ((9 : Nat) - acc.length) acc (0 : Int)
 ((2 : Int) +
 ↑(hexLen
 (List.drop (Int.toNat (2 : Int)) l)) +
 (1 : Int)).toNat =
 six l) ∧
 ∀ (x : Int × Int × Int × List Int),
 (∃ (acc : List Int),
 x.fst = ↑acc.length ∧
 acc.length ≤ (8 : Nat) ∧
 x.snd.snd.snd = pad acc ∧
 (-1 : Int) ≤ x.snd.fst ∧
 x.snd.fst ≤ x.fst ∧
 (0 : Int) ≤ x.snd.snd.fst ∧
 x.snd.snd.fst ≤ ↑(List.length l) ∧
 six1 l ((9 : Nat) - acc.length) acc x.snd.fst
 x.snd.snd.fst.toNat =
 six l) →
 ((0 : Int) ≤ x.snd.snd.fst ∧ x.snd.snd.fst ≤ ↑(List.length l) ∧ List.length l ≤ (1000000 : Nat)) ∧
 (decide
 (x.snd.snd.fst +
 ↑(hexLen (List.drop x.snd.snd.fst.toNat l)) <
 lenZ l) =
 true →
 within
 (x.snd.snd.fst +
 ↑(hexLen (List.drop x.snd.snd.fst.toNat l)))
 (lenZ l)) ∧
 ((bif
 decide
 (x.snd.snd.fst +
 ↑(hexLen
 (List.drop x.snd.snd.fst.toNat l)) <
 lenZ l) then
 decide
 (byteZ l
 (x.snd.snd.fst +
 ↑(hexLen
 (List.drop x.snd.snd.fst.toNat l))) =
 (46 : Int))
 else false) =
 true →
 upto x.snd.snd.fst (lenZ l) (lenZ l) ∧
 (dropZ l x.snd.snd.fst).length.le (1000000 : Nat) ∧
 ((bif !dotO (dropZ l x.snd.snd.fst) then
 true
 else decide ((6 : Int) < x.fst)) =
 true →
 k
 (PV.tup
 [PV.arr (8 : Nat)
 (BRow.ints Go.IntKind.u16 (List.replicate (8 : Nat) (0 : Int))),
 PV.bool false])) ∧
 ((bif !dotO (dropZ l x.snd.snd.fst) then
 true
 else decide ((6 : Int) < x.fst)) =
 false →
 inI64 (x.fst + (1 : Int)) ∧
 (0 : Int) ≤ (16 : Int) ∧
 within x.fst ↑(8 : Nat) ∧
 (within x.fst ↑(8 : Nat) ∧ True) ∧
 within (x.fst + (1 : Int)) ↑(8 : Nat) ∧
 (within (x.fst + (1 : Int)) ↑(8 : Nat) ∧ True) ∧
 inI64 (x.fst + (2 : Int)) ∧
 ((bif decide (x.snd.fst < (0 : Int)) then
 decide (x.fst + (2 : Int) = (8 : Int))
 else false) =
 true →
 k
 (PV.tup
 [PV.arr (8 : Nat)
 (BRow.ints Go.IntKind.u16
 (setZ
 (setZ x.snd.snd.snd x.fst
 (Go.IntKind.u16.wrap
 (shrZ Go.IntKind.u32
 (dotV
 (dropZ l x.snd.snd.fst))
 (16 : Int))))
 (x.fst + (1 : Int))
 (Go.IntKind.u16.wrap
 (dotV
 (dropZ l x.snd.snd.fst))))),
 PV.bool true])) ∧
 ((bif decide (x.snd.fst < (0 : Int)) then
 decide (x.fst + (2 : Int) = (8 : Int))
 else false) =
 false →
 ((bif decide ((0 : Int) ≤ x.snd.fst) then
 decide (x.fst + (2 : Int) < (8 : Int))
 else false) =
 true →
 ((setZ
 (setZ x.snd.snd.snd x.fst
 (Go.IntKind.u16.wrap
 (shrZ Go.IntKind.u32
 (dotV
 (dropZ l x.snd.snd.fst))
 (16 : Int))))
 (x.fst + (1 : Int))
 (Go.IntKind.u16.wrap
 (dotV
 (dropZ l x.snd.snd.fst)))).length =
 (8 : Nat) ∧
 (0 : Int) ≤ x.snd.fst ∧
 x.snd.fst ≤ x.fst + (2 : Int) ∧
 x.fst + (2 : Int) ≤ (7 : Int)) ∧
 k
 (PV.tup
 [PV.arr (8 : Nat)
 (BRow.ints Go.IntKind.u16
 (spreadM
 (setZ
 (setZ x.snd.snd.snd x.fst
 (Go.IntKind.u16.wrap
 (shrZ Go.IntKind.u32
 (dotV
 (dropZ l x.snd.snd.fst))
 (16 : Int))))
 (x.fst + (1 : Int))
 (Go.IntKind.u16.wrap
 (dotV
 (dropZ l x.snd.snd.fst))))
 (x.fst + (2 : Int)).toNat x.snd.fst.toNat)),
 PV.bool true])) ∧
 ((bif decide ((0 : Int) ≤ x.snd.fst) then
 decide (x.fst + (2 : Int) < (8 : Int))
 else false) =
 false →
 k
 (PV.tup
 [PV.arr (8 : Nat)
 (BRow.ints Go.IntKind.u16
 (List.replicate (8 : Nat) (0 : Int))),
 PV.bool false]))))) ∧
 ((bif
 decide
 (x.snd.snd.fst +
 ↑(hexLen
 (List.drop x.snd.snd.fst.toNat l)) <
 lenZ l) then
 decide
 (byteZ l
 (x.snd.snd.fst +
 ↑(hexLen
 (List.drop x.snd.snd.fst.toNat l))) =
 (46 : Int))
 else false) =
 false →
 ((bif decide (x.fst = (8 : Int)) then true
 else
 decide
 (x.snd.snd.fst +
 ↑(hexLen
 (List.drop x.snd.snd.fst.toNat l)) =
 x.snd.snd.fst)) =
 false →
 inI64 (x.snd.snd.fst + (4 : Int))) ∧
 ((bif
 bif decide (x.fst = (8 : Int)) then true
 else
 decide
 (x.snd.snd.fst +
 ↑(hexLen
 (List.drop x.snd.snd.fst.toNat l)) =
 x.snd.snd.fst) then
 true
 else
 decide
 (x.snd.snd.fst + (4 : Int) <
 x.snd.snd.fst +
 ↑(hexLen
 (List.drop x.snd.snd.fst.toNat l)))) =
 true →
 k
 (PV.tup
 [PV.arr (8 : Nat)
 (BRow.ints Go.IntKind.u16 (List.replicate (8 : Nat) (0 : Int))),
 PV.bool false])) ∧
 ((bif
 bif decide (x.fst = (8 : Int)) then true
 else
 decide
 (x.snd.snd.fst +
 ↑(hexLen
 (List.drop x.snd.snd.fst.toNat l)) =
 x.snd.snd.fst) then
 true
 else
 decide
 (x.snd.snd.fst + (4 : Int) <
 x.snd.snd.fst +
 ↑(hexLen
 (List.drop x.snd.snd.fst.toNat l)))) =
 false →
 upto x.snd.snd.fst
 (x.snd.snd.fst +
 ↑(hexLen
 (List.drop x.snd.snd.fst.toNat l)))
 (lenZ l) ∧
 ((cutZ l x.snd.snd.fst
 (x.snd.snd.fst +
 ↑(hexLen
 (List.drop x.snd.snd.fst.toNat l)))).length ≤
 (4 : Nat) ∧
 ∀ (i : Nat),
 i <
 (cutZ l x.snd.snd.fst
 (x.snd.snd.fst +
 ↑(hexLen
 (List.drop x.snd.snd.fst.toNat l)))).length →
 (0 : Int) ≤
 hexN
 (byt
 (cutZ l x.snd.snd.fst
 (x.snd.snd.fst +
 ↑(hexLen
 (List.drop x.snd.snd.fst.toNat l))))
 i)) ∧
 within x.fst ↑(8 : Nat) ∧
 (within x.fst ↑(8 : Nat) ∧ True) ∧
 inI64 (x.fst + (1 : Int)) ∧
 (decide
 (x.snd.snd.fst +
 ↑(hexLen
 (List.drop x.snd.snd.fst.toNat l)) =
 lenZ l) =
 true →
 ((bif decide (x.snd.fst < (0 : Int)) then
 decide (x.fst + (1 : Int) = (8 : Int))
 else false) =
 true →
 k
 (PV.tup
 [PV.arr (8 : Nat)
 (BRow.ints Go.IntKind.u16
 (setZ x.snd.snd.snd x.fst
 (hexW
 (cutZ l x.snd.snd.fst
 (x.snd.snd.fst +
 ↑(hexLen
 (List.drop x.snd.snd.fst.toNat l))))))),
 PV.bool true])) ∧
 ((bif decide (x.snd.fst < (0 : Int)) then
 decide (x.fst + (1 : Int) = (8 : Int))
 else false) =
 false →
 ((bif decide ((0 : Int) ≤ x.snd.fst) then
 decide (x.fst + (1 : Int) < (8 : Int))
 else false) =
 true →
 ((setZ x.snd.snd.snd x.fst
 (hexW
 (cutZ l x.snd.snd.fst
 (x.snd.snd.fst +
 ↑(hexLen
 (List.drop x.snd.snd.fst.toNat
 l)))))).length =
 (8 : Nat) ∧
 (0 : Int) ≤ x.snd.fst ∧
 x.snd.fst ≤ x.fst + (1 : Int) ∧
 x.fst + (1 : Int) ≤ (7 : Int)) ∧
 k
 (PV.tup
 [PV.arr (8 : Nat)
 (BRow.ints Go.IntKind.u16
 (spreadM
 (setZ x.snd.snd.snd x.fst
 (hexW
 (cutZ l x.snd.snd.fst
 (x.snd.snd.fst +
 ↑(hexLen
 (List.drop x.snd.snd.fst.toNat
 l))))))
 (x.fst + (1 : Int)).toNat x.snd.fst.toNat)),
 PV.bool true])) ∧
 ((bif decide ((0 : Int) ≤ x.snd.fst) then
 decide (x.fst + (1 : Int) < (8 : Int))
 else false) =
 false →
 k
 (PV.tup
 [PV.arr (8 : Nat)
 (BRow.ints Go.IntKind.u16
 (List.replicate (8 : Nat) (0 : Int))),
 PV.bool false])))) ∧
 (decide
 (x.snd.snd.fst +
 ↑(hexLen
 (List.drop x.snd.snd.fst.toNat l)) =
 lenZ l) =
 false →
 within
 (x.snd.snd.fst +
 ↑(hexLen
 (List.drop x.snd.snd.fst.toNat l)))
 (lenZ l) ∧
 ((!decide
 (byteZ l
 (x.snd.snd.fst +
 ↑(hexLen
 (List.drop x.snd.snd.fst.toNat l))) =
 (58 : Int))) =
 false →
 inI64
 (x.snd.snd.fst +
 ↑(hexLen
 (List.drop x.snd.snd.fst.toNat l)) +
 (1 : Int))) ∧
 ((bif
 !decide
 (byteZ l
 (x.snd.snd.fst +
 ↑(hexLen
 (List.drop x.snd.snd.fst.toNat l))) =
 (58 : Int)) then
 true
 else
 decide
 (x.snd.snd.fst +
 ↑(hexLen
 (List.drop x.snd.snd.fst.toNat l)) +
 (1 : Int) =
 lenZ l)) =
 true →
 k
 (PV.tup
 [PV.arr (8 : Nat)
 (BRow.ints Go.IntKind.u16
 (List.replicate (8 : Nat) (0 : Int))),
 PV.bool false])) ∧
 ((bif
 !decide
 (byteZ l
 (x.snd.snd.fst +
 ↑(hexLen
 (List.drop x.snd.snd.fst.toNat l))) =
 (58 : Int)) then
 true
 else
 decide
 (x.snd.snd.fst +
 ↑(hexLen
 (List.drop x.snd.snd.fst.toNat l)) +
 (1 : Int) =
 lenZ l)) =
 false →
 inI64
 (x.snd.snd.fst +
 ↑(hexLen
 (List.drop x.snd.snd.fst.toNat l)) +
 (1 : Int)) ∧
 within
 (x.snd.snd.fst +
 ↑(hexLen
 (List.drop x.snd.snd.fst.toNat l)) +
 (1 : Int))
 (lenZ l) ∧
 ((!decide
 (byteZ l
 (x.snd.snd.fst +
 ↑(hexLen
 (List.drop x.snd.snd.fst.toNat l)) +
 (1 : Int)) =
 (58 : Int))) =
 true →
 VS.mk []
 [((0 : Nat), PV.str l),
 ((2 : Nat),
 PV.ptr (34 : Nat) (0 : Nat)),
 ((3 : Nat), PV.bool false),
 ((4 : Nat),
 PV.ptr (36 : Nat) (0 : Nat)),
 ((5 : Nat),
 PV.int Go.IntKind.u32 (0 : Int)),
 ((6 : Nat), PV.bool false),
 ((7 : Nat),
 PV.int Go.IntKind.i64
 (x.fst + (1 : Int))),
 ((8 : Nat),
 PV.int Go.IntKind.i64 x.snd.fst),
 ((9 : Nat),
 PV.int Go.IntKind.i64
 (x.snd.snd.fst +
 ↑(hexLen
 (List.drop x.snd.snd.fst.toNat
 l)) +
 (1 : Int))),
 ((10 : Nat), PV.undef),
 ((13 : Nat), PV.undef),
 ((17 : Nat), PV.undef),
 ((30 : Nat), PV.undef),
 ((43 : Nat), PV.undef),
 ((56 : Nat), PV.undef),
 ((67 : Nat), PV.undef),
 ((73 : Nat), PV.undef),
 ((75 : Nat), PV.undef),
 ((82 : Nat), PV.undef),
 ((95 : Nat), PV.undef),
 ((113 : Nat), PV.undef),
 ((120 : Nat), PV.undef)]
 [((36 : Nat),
 PV.arr (8 : Nat)
 (BRow.ints Go.IntKind.u16
 (setZ x.snd.snd.snd x.fst
 (hexW
 (cutZ l x.snd.snd.fst
 (x.snd.snd.fst +
 ↑(hexLen
 (List.drop
 x.snd.snd.fst.toNat
 l)))))))),
 ((34 : Nat),
 PV.arr (8 : Nat)
 (BRow.ints Go.IntKind.u16
 (List.replicate (8 : Nat)
 (0 : Int))))] =
 VS.mk []
 [((0 : Nat), PV.str l),
 ((2 : Nat),
 PV.ptr (34 : Nat) (0 : Nat)),
 ((3 : Nat), PV.bool false),
 ((4 : Nat),
 PV.ptr (36 : Nat) (0 : Nat)),
 ((5 : Nat),
 PV.int Go.IntKind.u32 (0 : Int)),
 ((6 : Nat), PV.bool false),
 ((7 : Nat),
 PV.int Go.IntKind.i64
 (x.fst + (1 : Int))),
 ((8 : Nat),
 PV.int Go.IntKind.i64 x.snd.fst),
 ((9 : Nat),
 PV.int Go.IntKind.i64
 (x.snd.snd.fst +
 ↑(hexLen
 (List.drop x.snd.snd.fst.toNat
 l)) +
 (1 : Int))),
 ((10 : Nat), PV.undef),
 ((13 : Nat), PV.undef),
 ((17 : Nat), PV.undef),
 ((30 : Nat), PV.undef),
 ((43 : Nat), PV.undef),
 ((56 : Nat), PV.undef),
 ((67 : Nat), PV.undef),
 ((73 : Nat), PV.undef),
 ((75 : Nat), PV.undef),
 ((82 : Nat), PV.undef),
 ((95 : Nat), PV.undef),
 ((113 : Nat), PV.undef),
 ((120 : Nat), PV.undef)]
 [((36 : Nat),
 PV.arr (8 : Nat)
 (BRow.ints Go.IntKind.u16
 (setZ x.snd.snd.snd x.fst
 (hexW
 (cutZ l x.snd.snd.fst
 (x.snd.snd.fst +
 ↑(hexLen
 (List.drop
 x.snd.snd.fst.toNat
 l)))))))),
 ((34 : Nat),
 PV.arr (8 : Nat)
 (BRow.ints Go.IntKind.u16
 (List.replicate (8 : Nat)
 (0 : Int))))] ∧
 (∃ (acc : List Int),
 x.fst + (1 : Int) = ↑acc.length ∧
 acc.length ≤ (8 : Nat) ∧
 setZ x.snd.snd.snd x.fst
 (hexW
 (cutZ l x.snd.snd.fst
 (x.snd.snd.fst +
 ↑(hexLen
 (List.drop
 x.snd.snd.fst.toNat
 l))))) =
 pad
 acc ∧
 (-1 : Int) ≤ x.snd.fst ∧
 x.snd.fst ≤ x.fst + (1 : Int) ∧
 (0 : Int) ≤
 x.snd.snd.fst +
 ↑(hexLen
 (List.drop
 x.snd.snd.fst.toNat
 l)) +
 (1 : Int) ∧
 x.snd.snd.fst +
 ↑(hexLen
 (List.drop
 x.snd.snd.fst.toNat
 l)) +
 (1 : Int) ≤
 ↑(List.length l) ∧
 six1
 l ((9 : Nat) - acc.length) acc
 x.snd.fst
 (x.snd.snd.fst +
 ↑(hexLen
 (List.drop
 x.snd.snd.fst.toNat
 l)) +
 (1 : Int)).toNat =
 six
 l) ∧
 ((9 : Int) - (x.fst + (1 : Int))).toNat <
 ((9 : Int) - x.fst).toNat) ∧
 ((!decide
 (byteZ l
 (x.snd.snd.fst +
 ↑(hexLen
 (List.drop x.snd.snd.fst.toNat l)) +
 (1 : Int)) =
 (58 : Int))) =
 false →
 (decide ((0 : Int) ≤ x.snd.fst) = true →
 k
 (PV.tup
 [PV.arr (8 : Nat)
 (BRow.ints Go.IntKind.u16
 (List.replicate (8 : Nat) (0 : Int))),
 PV.bool false])) ∧
 (decide ((0 : Int) ≤ x.snd.fst) = false →
 inI64
 (x.snd.snd.fst +
 ↑(hexLen
 (List.drop x.snd.snd.fst.toNat l)) +
 (1 : Int) +
 (1 : Int)) ∧
 (decide
 (x.snd.snd.fst +
 ↑(hexLen
 (List.drop
 x.snd.snd.fst.toNat l)) +
 (1 : Int) +
 (1 : Int) <
 lenZ l) =
 true →
 VS.mk []
 [((0 : Nat), PV.str l),
 ((2 : Nat),
 PV.ptr (34 : Nat)
 (0 : Nat)),
 ((3 : Nat), PV.bool false),
 ((4 : Nat),
 PV.ptr (36 : Nat)
 (0 : Nat)),
 ((5 : Nat),
 PV.int Go.IntKind.u32
 (0 : Int)),
 ((6 : Nat), PV.bool false),
 ((7 : Nat),
 PV.int Go.IntKind.i64
 (x.fst + (1 : Int))),
 ((8 : Nat),
 PV.int Go.IntKind.i64
 (x.fst + (1 : Int))),
 ((9 : Nat),
 PV.int Go.IntKind.i64
 (x.snd.snd.fst +
 ↑(hexLen
 (List.drop
 x.snd.snd.fst.toNat
 l)) +
 (1 : Int) +
 (1 : Int))),
 ((10 : Nat), PV.undef),
 ((13 : Nat), PV.undef),
 ((17 : Nat), PV.undef),
 ((30 : Nat), PV.undef),
 ((43 : Nat), PV.undef),
 ((56 : Nat), PV.undef),
 ((67 : Nat), PV.undef),
 ((73 : Nat), PV.undef),
 ((75 : Nat), PV.undef),
 ((82 : Nat), PV.undef),
 ((95 : Nat), PV.undef),
 ((113 : Nat), PV.undef),
 ((120 : Nat), PV.undef)]
 [((36 : Nat),
 PV.arr (8 : Nat)
 (BRow.ints Go.IntKind.u16
 (setZ x.snd.snd.snd
 x.fst
 (hexW
 (cutZ l
 x.snd.snd.fst
 (x.snd.snd.fst +
 ↑(hexLen
 (List.drop
 x.snd.snd.fst.toNat
 l)))))))),
 ((34 : Nat),
 PV.arr (8 : Nat)
 (BRow.ints Go.IntKind.u16
 (List.replicate (8 : Nat)
 (0 : Int))))] =
 VS.mk []
 [((0 : Nat), PV.str l),
 ((2 : Nat),
 PV.ptr (34 : Nat)
 (0 : Nat)),
 ((3 : Nat), PV.bool false),
 ((4 : Nat),
 PV.ptr (36 : Nat)
 (0 : Nat)),
 ((5 : Nat),
 PV.int Go.IntKind.u32
 (0 : Int)),
 ((6 : Nat), PV.bool false),
 ((7 : Nat),
 PV.int Go.IntKind.i64
 (x.fst + (1 : Int))),
 ((8 : Nat),
 PV.int Go.IntKind.i64
 (x.fst + (1 : Int))),
 ((9 : Nat),
 PV.int Go.IntKind.i64
 (x.snd.snd.fst +
 ↑(hexLen
 (List.drop
 x.snd.snd.fst.toNat
 l)) +
 (1 : Int) +
 (1 : Int))),
 ((10 : Nat), PV.undef),
 ((13 : Nat), PV.undef),
 ((17 : Nat), PV.undef),
 ((30 : Nat), PV.undef),
 ((43 : Nat), PV.undef),
 ((56 : Nat), PV.undef),
 ((67 : Nat), PV.undef),
 ((73 : Nat), PV.undef),
 ((75 : Nat), PV.undef),
 ((82 : Nat), PV.undef),
 ((95 : Nat), PV.undef),
 ((113 : Nat), PV.undef),
 ((120 : Nat), PV.undef)]
 [((36 : Nat),
 PV.arr (8 : Nat)
 (BRow.ints Go.IntKind.u16
 (setZ x.snd.snd.snd
 x.fst
 (hexW
 (cutZ l
 x.snd.snd.fst
 (x.snd.snd.fst +
 ↑(hexLen
 (List.drop
 x.snd.snd.fst.toNat
 l)))))))),
 ((34 : Nat),
 PV.arr (8 : Nat)
 (BRow.ints Go.IntKind.u16
 (List.replicate (8 : Nat)
 (0 : Int))))] ∧
 (∃ (acc : List Int),
 x.fst + (1 : Int) = ↑acc.length ∧
 acc.length ≤ (8 : Nat) ∧
 setZ x.snd.snd.snd x.fst
 (hexW
 (cutZ l
 x.snd.snd.fst
 (x.snd.snd.fst +
 ↑(hexLen
 (List.drop
 x.snd.snd.fst.toNat
 l))))) =
 pad
 acc ∧
 (-1 : Int) ≤ x.fst + (1 : Int) ∧
 x.fst + (1 : Int) ≤
 x.fst + (1 : Int) ∧
 (0 : Int) ≤
 x.snd.snd.fst +
 ↑(hexLen
 (List.drop
 x.snd.snd.fst.toNat
 l)) +
 (1 : Int) +
 (1 : Int) ∧
 x.snd.snd.fst +
 ↑(hexLen
 (List.drop
 x.snd.snd.fst.toNat
 l)) +
 (1 : Int) +
 (1 : Int) ≤
 ↑(List.length l) ∧
 six1
 l
 ((9 : Nat) -
 acc.length)
 acc
 (x.fst + (1 : Int))
 (x.snd.snd.fst +
 ↑(hexLen
 (List.drop
 x.snd.snd.fst.toNat
 l)) +
 (1 : Int) +
 (1 :
 Int)).toNat =
 six
 l) ∧
 ((9 : Int) -
 (x.fst + (1 : Int))).toNat <
 ((9 : Int) - x.fst).toNat) ∧
 (decide
 (x.snd.snd.fst +
 ↑(hexLen
 (List.drop
 x.snd.snd.fst.toNat l)) +
 (1 : Int) +
 (1 : Int) <
 lenZ l) =
 false →
 ((bif
 decide
 (x.fst + (1 : Int) <
 (0 : Int)) then
 decide
 (x.fst + (1 : Int) = (8 : Int))
 else false) =
 true →
 k
 (PV.tup
 [PV.arr (8 : Nat)
 (BRow.ints Go.IntKind.u16
 (setZ x.snd.snd.snd
 x.fst
 (hexW
 (cutZ l
 x.snd.snd.fst
 (x.snd.snd.fst +
 ↑(hexLen
 (List.drop
 x.snd.snd.fst.toNat
 l))))))),
 PV.bool true])) ∧
 ((bif
 decide
 (x.fst + (1 : Int) <
 (0 : Int)) then
 decide
 (x.fst + (1 : Int) = (8 : Int))
 else false) =
 false →
 ((bif
 decide
 ((0 : Int) ≤
 x.fst + (1 : Int)) then
 decide
 (x.fst + (1 : Int) <
 (8 : Int))
 else false) =
 true →
 ((setZ x.snd.snd.snd x.fst
 (hexW
 (cutZ l
 x.snd.snd.fst
 (x.snd.snd.fst +
 ↑(hexLen
 (List.drop
 x.snd.snd.fst.toNat
 l)))))).length =
 (8 : Nat) ∧
 (0 : Int) ≤ x.fst + (1 : Int) ∧
 x.fst + (1 : Int) ≤
 x.fst + (1 : Int) ∧
 x.fst + (1 : Int) ≤
 (7 : Int)) ∧
 k
 (PV.tup
 [PV.arr (8 : Nat)
 (BRow.ints
 Go.IntKind.u16
 (spreadM
 (setZ
 x.snd.snd.snd x.fst
 (hexW
 (cutZ l
 x.snd.snd.fst
 (x.snd.snd.fst +
 ↑(hexLen
 (List.drop
 x.snd.snd.fst.toNat
 l))))))
 (x.fst +
 (1 : Int)).toNat
 (x.fst +
 (1 :
 Int)).toNat)),
 PV.bool true])) ∧
 ((bif
 decide
 ((0 : Int) ≤
 x.fst + (1 : Int)) then
 decide
 (x.fst + (1 : Int) <
 (8 : Int))
 else false) =
 false →
 k
 (PV.tup
 [PV.arr (8 : Nat)
 (BRow.ints
 Go.IntKind.u16
 (List.replicate (8 : Nat)
 (0 : Int))),
 PV.bool
 false]))))))))))) ∧
 ((!decide
 (byteZ l
 ((2 : Int) + ↑(hexLen (List.drop (Int.toNat (2 : Int)) l)) +
 (1 : Int)) =
 (58 : Int))) =
 false →
 (decide ((0 : Int) ≤ (0 : Int)) = true →
 k
 (PV.tup
 [PV.arr (8 : Nat) (BRow.ints Go.IntKind.u16 (List.replicate (8 : Nat) (0 : Int))),
 PV.bool false])) ∧
 (decide ((0 : Int) ≤ (0 : Int)) = false →
 inI64
 ((2 : Int) + ↑(hexLen (List.drop (Int.toNat (2 : Int)) l)) +
 (1 : Int) +
 (1 : Int)) ∧
 (decide
 ((2 : Int) +
 ↑(hexLen (List.drop (Int.toNat (2 : Int)) l)) +
 (1 : Int) +
 (1 : Int) <
 lenZ l) =
 true →
 VS.mk []
 [(nat_lit 0, PV.str l),
 (nat_lit 2, PV.ptr ((2 : Nat) + (32 : Nat)) (0 : Nat)),
 (nat_lit 3, PV.bool false),
 (nat_lit 4, PV.ptr ((4 : Nat) + (32 : Nat)) (0 : Nat)),
 (nat_lit 5, PV.int Go.IntKind.u32 (0 : Int)), (nat_lit 6, PV.bool false),
 (nat_lit 7, PV.int Go.IntKind.i64 ((0 : Int) + (1 : Int))),
 (nat_lit 8, PV.int Go.IntKind.i64 ((0 : Int) + (1 : Int))),
 (nat_lit 9,
 PV.int Go.IntKind.i64
 ((2 : Int) +
 ↑(hexLen
 (List.drop (Int.toNat (2 : Int)) l)) +
 (1 : Int) +
 (1 : Int))),
 ((10 : Nat), PV.undef), ((13 : Nat), PV.undef),
 ((17 : Nat), PV.undef), ((30 : Nat), PV.undef),
 ((43 : Nat), PV.undef), ((56 : Nat), PV.undef),
 ((67 : Nat), PV.undef), ((73 : Nat), PV.undef),
 ((75 : Nat), PV.undef), ((82 : Nat), PV.undef),
 (nat_lit 95, PV.undef), (nat_lit 113, PV.undef),
 (nat_lit 120, PV.undef)]
 [((4 : Nat) + (32 : Nat),
 PV.arr (8 : Nat)
 (BRow.ints Go.IntKind.u16
 (setZ (List.replicate (8 : Nat) (0 : Int)) (0 : Int)
 (hexW
 (cutZ l (2 : Int)
 ((2 : Int) +
 ↑(hexLen
 (List.drop (Int.toNat (2 : Int)) l)))))))),
 ((2 : Nat) + (32 : Nat),
 PV.arr (8 : Nat)
 (BRow.ints Go.IntKind.u16 (List.replicate (8 : Nat) (0 : Int))))] =
 VS.mk []
 [((0 : Nat), PV.str l), ((2 : Nat), PV.ptr (34 : Nat) (0 : Nat)),
 ((3 : Nat), PV.bool false), ((4 : Nat), PV.ptr (36 : Nat) (0 : Nat)),
 ((5 : Nat), PV.int Go.IntKind.u32 (0 : Int)), ((6 : Nat), PV.bool false),
 ((7 : Nat), PV.int Go.IntKind.i64 ((0 : Int) + (1 : Int))),
 ((8 : Nat), PV.int Go.IntKind.i64 ((0 : Int) + (1 : Int))),
 ((9 : Nat),
 PV.int Go.IntKind.i64
 ((2 : Int) +
 ↑(hexLen
 (List.drop (Int.toNat (2 : Int)) l)) +
 (1 : Int) +
 (1 : Int))),
 ((10 : Nat), PV.undef), ((13 : Nat), PV.undef),
 ((17 : Nat), PV.undef), ((30 : Nat), PV.undef),
 ((43 : Nat), PV.undef), ((56 : Nat), PV.undef),
 ((67 : Nat), PV.undef), ((73 : Nat), PV.undef),
 ((75 : Nat), PV.undef), ((82 : Nat), PV.undef),
 ((95 : Nat), PV.undef), ((113 : Nat), PV.undef),
 ((120 : Nat), PV.undef)]
 [((36 : Nat),
 PV.arr (8 : Nat)
 (BRow.ints Go.IntKind.u16
 (setZ (List.replicate (8 : Nat) (0 : Int)) (0 : Int)
 (hexW
 (cutZ l (2 : Int)
 ((2 : Int) +
 ↑(hexLen
 (List.drop (Int.toNat (2 : Int)) l)))))))),
 ((34 : Nat),
 PV.arr (8 : Nat)
 (BRow.ints Go.IntKind.u16 (List.replicate (8 : Nat) (0 : Int))))] ∧
 (∃ (acc : List Int),
 (0 : Int) + (1 : Int) = ↑acc.length ∧
 acc.length ≤ (8 : Nat) ∧
 setZ (List.replicate (8 : Nat) (0 : Int)) (0 : Int)
 (hexW
 (cutZ l (2 : Int)
 ((2 : Int) +
 ↑(hexLen
 (List.drop (Int.toNat (2 : Int)) l))))) =
 pad acc ∧
 (-1 : Int) ≤ (0 : Int) + (1 : Int) ∧
 (0 : Int) + (1 : Int) ≤ (0 : Int) + (1 : Int) ∧
 (0 : Int) ≤
 (2 : Int) +
 ↑(hexLen
 (List.drop (Int.toNat (2 : Int)) l)) +
 (1 : Int) +
 (1 : Int) ∧
 (2 : Int) +
 ↑(hexLen
 (List.drop (Int.toNat (2 : Int)) l)) +
 (1 : Int) +
 (1 : Int) ≤
 ↑(List.length l) ∧
 six1 l ((9 : Nat) - acc.length) acc
 ((0 : Int) + (1 : Int))
 ((2 : Int) +
 ↑(hexLen
 (List.drop (Int.toNat (2 : Int)) l)) +
 (1 : Int) +
 (1 : Int)).toNat =
 six l) ∧
 ∀ (x : Int × Int × Int × List Int),
 (∃ (acc : List Int),
 x.fst = ↑acc.length ∧
 acc.length ≤ (8 : Nat) ∧
 x.snd.snd.snd = pad acc ∧
 (-1 : Int) ≤ x.snd.fst ∧
 x.snd.fst ≤ x.fst ∧
 (0 : Int) ≤ x.snd.snd.fst ∧
 x.snd.snd.fst ≤ ↑(List.length l) ∧
 six1 l ((9 : Nat) - acc.length) acc
 x.snd.fst x.snd.snd.fst.toNat =
 six l) →
 ((0 : Int) ≤ x.snd.snd.fst ∧
 x.snd.snd.fst ≤ ↑(List.length l) ∧ List.length l ≤ (1000000 : Nat)) ∧
 (decide
 (x.snd.snd.fst +
 ↑(hexLen
 (List.drop x.snd.snd.fst.toNat l)) <
 lenZ l) =
 true →
 within
 (x.snd.snd.fst +
 ↑(hexLen
 (List.drop x.snd.snd.fst.toNat l)))
 (lenZ l)) ∧
 ((bif
 decide
 (x.snd.snd.fst +
 ↑(hexLen
 (List.drop x.snd.snd.fst.toNat l)) <
 lenZ l) then
 decide
 (byteZ l
 (x.snd.snd.fst +
 ↑(hexLen
 (List.drop x.snd.snd.fst.toNat l))) =
 (46 : Int))
 else false) =
 true →
 upto x.snd.snd.fst (lenZ l) (lenZ l) ∧
 (dropZ l x.snd.snd.fst).length.le (1000000 : Nat) ∧
 ((bif
 !dotO
 (dropZ l x.snd.snd.fst) then
 true
 else decide ((6 : Int) < x.fst)) =
 true →
 k
 (PV.tup
 [PV.arr (8 : Nat)
 (BRow.ints Go.IntKind.u16
 (List.replicate (8 : Nat) (0 : Int))),
 PV.bool false])) ∧
 ((bif
 !dotO
 (dropZ l x.snd.snd.fst) then
 true
 else decide ((6 : Int) < x.fst)) =
 false →
 inI64 (x.fst + (1 : Int)) ∧
 (0 : Int) ≤ (16 : Int) ∧
 within x.fst ↑(8 : Nat) ∧
 (within x.fst ↑(8 : Nat) ∧ True) ∧
 within (x.fst + (1 : Int)) ↑(8 : Nat) ∧
 (within (x.fst + (1 : Int)) ↑(8 : Nat) ∧ True) ∧
 inI64 (x.fst + (2 : Int)) ∧
 ((bif decide (x.snd.fst < (0 : Int)) then
 decide (x.fst + (2 : Int) = (8 : Int))
 else false) =
 true →
 k
 (PV.tup
 [PV.arr (8 : Nat)
 (BRow.ints Go.IntKind.u16
 (setZ
 (setZ x.snd.snd.snd x.fst
 (Go.IntKind.u16.wrap
 (shrZ Go.IntKind.u32
 (dotV
 (dropZ l x.snd.snd.fst))
 (16 : Int))))
 (x.fst + (1 : Int))
 (Go.IntKind.u16.wrap
 (dotV
 (dropZ l x.snd.snd.fst))))),
 PV.bool true])) ∧
 ((bif decide (x.snd.fst < (0 : Int)) then
 decide (x.fst + (2 : Int) = (8 : Int))
 else false) =
 false →
 ((bif decide ((0 : Int) ≤ x.snd.fst) then
 decide (x.fst + (2 : Int) < (8 : Int))
 else false) =
 true →
 ((setZ
 (setZ x.snd.snd.snd x.fst
 (Go.IntKind.u16.wrap
 (shrZ Go.IntKind.u32
 (dotV
 (dropZ l x.snd.snd.fst))
 (16 : Int))))
 (x.fst + (1 : Int))
 (Go.IntKind.u16.wrap
 (dotV
 (dropZ l
 x.snd.snd.fst)))).length =
 (8 : Nat) ∧
 (0 : Int) ≤ x.snd.fst ∧
 x.snd.fst ≤ x.fst + (2 : Int) ∧
 x.fst + (2 : Int) ≤ (7 : Int)) ∧
 k
 (PV.tup
 [PV.arr (8 : Nat)
 (BRow.ints Go.IntKind.u16
 (spreadM
 (setZ
 (setZ x.snd.snd.snd x.fst
 (Go.IntKind.u16.wrap
 (shrZ Go.IntKind.u32
 (dotV
 (dropZ l
 x.snd.snd.fst))
 (16 : Int))))
 (x.fst + (1 : Int))
 (Go.IntKind.u16.wrap
 (dotV
 (dropZ l
 x.snd.snd.fst))))
 (x.fst + (2 : Int)).toNat
 x.snd.fst.toNat)),
 PV.bool true])) ∧
 ((bif decide ((0 : Int) ≤ x.snd.fst) then
 decide (x.fst + (2 : Int) < (8 : Int))
 else false) =
 false →
 k
 (PV.tup
 [PV.arr (8 : Nat)
 (BRow.ints Go.IntKind.u16
 (List.replicate (8 : Nat) (0 : Int))),
 PV.bool false]))))) ∧
 ((bif
 decide
 (x.snd.snd.fst +
 ↑(hexLen
 (List.drop x.snd.snd.fst.toNat l)) <
 lenZ l) then
 decide
 (byteZ l
 (x.snd.snd.fst +
 ↑(hexLen
 (List.drop x.snd.snd.fst.toNat l))) =
 (46 : Int))
 else false) =
 false →
 ((bif decide (x.fst = (8 : Int)) then true
 else
 decide
 (x.snd.snd.fst +
 ↑(hexLen
 (List.drop x.snd.snd.fst.toNat l)) =
 x.snd.snd.fst)) =
 false →
 inI64 (x.snd.snd.fst + (4 : Int))) ∧
 ((bif
 bif decide (x.fst = (8 : Int)) then true
 else
 decide
 (x.snd.snd.fst +
 ↑(hexLen
 (List.drop x.snd.snd.fst.toNat l)) =
 x.snd.snd.fst) then
 true
 else
 decide
 (x.snd.snd.fst + (4 : Int) <
 x.snd.snd.fst +
 ↑(hexLen
 (List.drop x.snd.snd.fst.toNat l)))) =
 true →
 k
 (PV.tup
 [PV.arr (8 : Nat)
 (BRow.ints Go.IntKind.u16
 (List.replicate (8 : Nat) (0 : Int))),
 PV.bool false])) ∧
 ((bif
 bif decide (x.fst = (8 : Int)) then true
 else
 decide
 (x.snd.snd.fst +
 ↑(hexLen
 (List.drop x.snd.snd.fst.toNat l)) =
 x.snd.snd.fst) then
 true
 else
 decide
 (x.snd.snd.fst + (4 : Int) <
 x.snd.snd.fst +
 ↑(hexLen
 (List.drop x.snd.snd.fst.toNat l)))) =
 false →
 upto x.snd.snd.fst
 (x.snd.snd.fst +
 ↑(hexLen
 (List.drop x.snd.snd.fst.toNat l)))
 (lenZ l) ∧
 ((cutZ l x.snd.snd.fst
 (x.snd.snd.fst +
 ↑(hexLen
 (List.drop x.snd.snd.fst.toNat l)))).length ≤
 (4 : Nat) ∧
 ∀ (i : Nat),
 i <
 (cutZ l x.snd.snd.fst
 (x.snd.snd.fst +
 ↑(hexLen
 (List.drop x.snd.snd.fst.toNat l)))).length →
 (0 : Int) ≤
 hexN
 (byt
 (cutZ l x.snd.snd.fst
 (x.snd.snd.fst +
 ↑(hexLen
 (List.drop x.snd.snd.fst.toNat l))))
 i)) ∧
 within x.fst ↑(8 : Nat) ∧
 (within x.fst ↑(8 : Nat) ∧ True) ∧
 inI64 (x.fst + (1 : Int)) ∧
 (decide
 (x.snd.snd.fst +
 ↑(hexLen
 (List.drop x.snd.snd.fst.toNat l)) =
 lenZ l) =
 true →
 ((bif decide (x.snd.fst < (0 : Int)) then
 decide (x.fst + (1 : Int) = (8 : Int))
 else false) =
 true →
 k
 (PV.tup
 [PV.arr (8 : Nat)
 (BRow.ints Go.IntKind.u16
 (setZ x.snd.snd.snd x.fst
 (hexW
 (cutZ l x.snd.snd.fst
 (x.snd.snd.fst +
 ↑(hexLen
 (List.drop x.snd.snd.fst.toNat
 l))))))),
 PV.bool true])) ∧
 ((bif decide (x.snd.fst < (0 : Int)) then
 decide (x.fst + (1 : Int) = (8 : Int))
 else false) =
 false →
 ((bif decide ((0 : Int) ≤ x.snd.fst) then
 decide (x.fst + (1 : Int) < (8 : Int))
 else false) =
 true →
 ((setZ x.snd.snd.snd x.fst
 (hexW
 (cutZ l x.snd.snd.fst
 (x.snd.snd.fst +
 ↑(hexLen
 (List.drop x.snd.snd.fst.toNat
 l)))))).length =
 (8 : Nat) ∧
 (0 : Int) ≤ x.snd.fst ∧
 x.snd.fst ≤ x.fst + (1 : Int) ∧
 x.fst + (1 : Int) ≤ (7 : Int)) ∧
 k
 (PV.tup
 [PV.arr (8 : Nat)
 (BRow.ints Go.IntKind.u16
 (spreadM
 (setZ x.snd.snd.snd x.fst
 (hexW
 (cutZ l x.snd.snd.fst
 (x.snd.snd.fst +
 ↑(hexLen
 (List.drop
 x.snd.snd.fst.toNat
 l))))))
 (x.fst + (1 : Int)).toNat
 x.snd.fst.toNat)),
 PV.bool true])) ∧
 ((bif decide ((0 : Int) ≤ x.snd.fst) then
 decide (x.fst + (1 : Int) < (8 : Int))
 else false) =
 false →
 k
 (PV.tup
 [PV.arr (8 : Nat)
 (BRow.ints Go.IntKind.u16
 (List.replicate (8 : Nat) (0 : Int))),
 PV.bool false])))) ∧
 (decide
 (x.snd.snd.fst +
 ↑(hexLen
 (List.drop x.snd.snd.fst.toNat l)) =
 lenZ l) =
 false →
 within
 (x.snd.snd.fst +
 ↑(hexLen
 (List.drop x.snd.snd.fst.toNat l)))
 (lenZ l) ∧
 ((!decide
 (byteZ l
 (x.snd.snd.fst +
 ↑(hexLen
 (List.drop x.snd.snd.fst.toNat l))) =
 (58 : Int))) =
 false →
 inI64
 (x.snd.snd.fst +
 ↑(hexLen
 (List.drop x.snd.snd.fst.toNat l)) +
 (1 : Int))) ∧
 ((bif
 !decide
 (byteZ l
 (x.snd.snd.fst +
 ↑(hexLen
 (List.drop x.snd.snd.fst.toNat
 l))) =
 (58 : Int)) then
 true
 else
 decide
 (x.snd.snd.fst +
 ↑(hexLen
 (List.drop x.snd.snd.fst.toNat l)) +
 (1 : Int) =
 lenZ l)) =
 true →
 k
 (PV.tup
 [PV.arr (8 : Nat)
 (BRow.ints Go.IntKind.u16
 (List.replicate (8 : Nat) (0 : Int))),
 PV.bool false])) ∧
 ((bif
 !decide
 (byteZ l
 (x.snd.snd.fst +
 ↑(hexLen
 (List.drop x.snd.snd.fst.toNat
 l))) =
 (58 : Int)) then
 true
 else
 decide
 (x.snd.snd.fst +
 ↑(hexLen
 (List.drop x.snd.snd.fst.toNat l)) +
 (1 : Int) =
 lenZ l)) =
 false →
 inI64
 (x.snd.snd.fst +
 ↑(hexLen
 (List.drop x.snd.snd.fst.toNat l)) +
 (1 : Int)) ∧
 within
 (x.snd.snd.fst +
 ↑(hexLen
 (List.drop x.snd.snd.fst.toNat l)) +
 (1 : Int))
 (lenZ l) ∧
 ((!decide
 (byteZ l
 (x.snd.snd.fst +
 ↑(hexLen
 (List.drop
 x.snd.snd.fst.toNat
 l)) +
 (1 : Int)) =
 (58 : Int))) =
 true →
 VS.mk []
 [((0 : Nat), PV.str l),
 ((2 : Nat),
 PV.ptr (34 : Nat)
 (0 : Nat)),
 ((3 : Nat), PV.bool false),
 ((4 : Nat),
 PV.ptr (36 : Nat)
 (0 : Nat)),
 ((5 : Nat),
 PV.int Go.IntKind.u32
 (0 : Int)),
 ((6 : Nat), PV.bool false),
 ((7 : Nat),
 PV.int Go.IntKind.i64
 (x.fst + (1 : Int))),
 ((8 : Nat),
 PV.int Go.IntKind.i64
 x.snd.fst),
 ((9 : Nat),
 PV.int Go.IntKind.i64
 (x.snd.snd.fst +
 ↑(hexLen
 (List.drop
 x.snd.snd.fst.toNat
 l)) +
 (1 : Int))),
 ((10 : Nat), PV.undef),
 ((13 : Nat), PV.undef),
 ((17 : Nat), PV.undef),
 ((30 : Nat), PV.undef),
 ((43 : Nat), PV.undef),
 ((56 : Nat), PV.undef),
 ((67 : Nat), PV.undef),
 ((73 : Nat), PV.undef),
 ((75 : Nat), PV.undef),
 ((82 : Nat), PV.undef),
 ((95 : Nat), PV.undef),
 ((113 : Nat), PV.undef),
 ((120 : Nat), PV.undef)]
 [((36 : Nat),
 PV.arr (8 : Nat)
 (BRow.ints Go.IntKind.u16
 (setZ x.snd.snd.snd
 x.fst
 (hexW
 (cutZ l
 x.snd.snd.fst
 (x.snd.snd.fst +
 ↑(hexLen
 (List.drop
 x.snd.snd.fst.toNat
 l)))))))),
 ((34 : Nat),
 PV.arr (8 : Nat)
 (BRow.ints Go.IntKind.u16
 (List.replicate (8 : Nat)
 (0 : Int))))] =
 VS.mk []
 [((0 : Nat), PV.str l),
 ((2 : Nat),
 PV.ptr (34 : Nat)
 (0 : Nat)),
 ((3 : Nat), PV.bool false),
 ((4 : Nat),
 PV.ptr (36 : Nat)
 (0 : Nat)),
 ((5 : Nat),
 PV.int Go.IntKind.u32
 (0 : Int)),
 ((6 : Nat), PV.bool false),
 ((7 : Nat),
 PV.int Go.IntKind.i64
 (x.fst + (1 : Int))),
 ((8 : Nat),
 PV.int Go.IntKind.i64
 x.snd.fst),
 ((9 : Nat),
 PV.int Go.IntKind.i64
 (x.snd.snd.fst +
 ↑(hexLen
 (List.drop
 x.snd.snd.fst.toNat
 l)) +
 (1 : Int))),
 ((10 : Nat), PV.undef),
 ((13 : Nat), PV.undef),
 ((17 : Nat), PV.undef),
 ((30 : Nat), PV.undef),
 ((43 : Nat), PV.undef),
 ((56 : Nat), PV.undef),
 ((67 : Nat), PV.undef),
 ((73 : Nat), PV.undef),
 ((75 : Nat), PV.undef),
 ((82 : Nat), PV.undef),
 ((95 : Nat), PV.undef),
 ((113 : Nat), PV.undef),
 ((120 : Nat), PV.undef)]
 [((36 : Nat),
 PV.arr (8 : Nat)
 (BRow.ints Go.IntKind.u16
 (setZ x.snd.snd.snd
 x.fst
 (hexW
 (cutZ l
 x.snd.snd.fst
 (x.snd.snd.fst +
 ↑(hexLen
 (List.drop
 x.snd.snd.fst.toNat
 l)))))))),
 ((34 : Nat),
 PV.arr (8 : Nat)
 (BRow.ints Go.IntKind.u16
 (List.replicate (8 : Nat)
 (0 : Int))))] ∧
 (∃ (acc : List Int),
 x.fst + (1 : Int) = ↑acc.length ∧
 acc.length ≤ (8 : Nat) ∧
 setZ x.snd.snd.snd x.fst
 (hexW
 (cutZ l
 x.snd.snd.fst
 (x.snd.snd.fst +
 ↑(hexLen
 (List.drop
 x.snd.snd.fst.toNat
 l))))) =
 pad
 acc ∧
 (-1 : Int) ≤ x.snd.fst ∧
 x.snd.fst ≤
 x.fst + (1 : Int) ∧
 (0 : Int) ≤
 x.snd.snd.fst +
 ↑(hexLen
 (List.drop
 x.snd.snd.fst.toNat
 l)) +
 (1 : Int) ∧
 x.snd.snd.fst +
 ↑(hexLen
 (List.drop
 x.snd.snd.fst.toNat
 l)) +
 (1 : Int) ≤
 ↑(List.length l) ∧
 six1
 l
 ((9 : Nat) -
 acc.length)
 acc x.snd.fst
 (x.snd.snd.fst +
 ↑(hexLen
 (List.drop
 x.snd.snd.fst.toNat
 l)) +
 (1 :
 Int)).toNat =
 six
 l) ∧
 ((9 : Int) -
 (x.fst + (1 : Int))).toNat <
 ((9 : Int) - x.fst).toNat) ∧
 ((!decide
 (byteZ l
 (x.snd.snd.fst +
 ↑(hexLen
 (List.drop
 x.snd.snd.fst.toNat
 l)) +
 (1 : Int)) =
 (58 : Int))) =
 false →
 (decide ((0 : Int) ≤ x.snd.fst) = true →
 k
 (PV.tup
 [PV.arr (8 : Nat)
 (BRow.ints Go.IntKind.u16
 (List.replicate (8 : Nat)
 (0 : Int))),
 PV.bool false])) ∧
 (decide ((0 : Int) ≤ x.snd.fst) = false →
 inI64
 (x.snd.snd.fst +
 ↑(hexLen
 (List.drop
 x.snd.snd.fst.toNat
 l)) +
 (1 : Int) +
 (1 : Int)) ∧
 (decide
 (x.snd.snd.fst +
 ↑(hexLen
 (List.drop
 x.snd.snd.fst.toNat
 l)) +
 (1 : Int) +
 (1 : Int) <
 lenZ l) =
 true →
 VS.mk []
 [((0 : Nat),
 PV.str l),
 ((2 : Nat),
 PV.ptr (34 : Nat)
 (0 : Nat)),
 ((3 : Nat),
 PV.bool false),
 ((4 : Nat),
 PV.ptr (36 : Nat)
 (0 : Nat)),
 ((5 : Nat),
 PV.int
 Go.IntKind.u32
 (0 : Int)),
 ((6 : Nat),
 PV.bool false),
 ((7 : Nat),
 PV.int
 Go.IntKind.i64
 (x.fst + (1 : Int))),
 ((8 : Nat),
 PV.int
 Go.IntKind.i64
 (x.fst + (1 : Int))),
 ((9 : Nat),
 PV.int
 Go.IntKind.i64
 (x.snd.snd.fst +
 ↑(hexLen
 (List.drop
 x.snd.snd.fst.toNat
 l)) +
 (1 : Int) +
 (1 : Int))),
 ((10 : Nat),
 PV.undef),
 ((13 : Nat),
 PV.undef),
 ((17 : Nat),
 PV.undef),
 ((30 : Nat),
 PV.undef),
 ((43 : Nat),
 PV.undef),
 ((56 : Nat),
 PV.undef),
 ((67 : Nat),
 PV.undef),
 ((73 : Nat),
 PV.undef),
 ((75 : Nat),
 PV.undef),
 ((82 : Nat),
 PV.undef),
 ((95 : Nat),
 PV.undef),
 ((113 : Nat),
 PV.undef),
 ((120 : Nat),
 PV.undef)]
 [((36 : Nat),
 PV.arr (8 : Nat)
 (BRow.ints
 Go.IntKind.u16
 (setZ
 x.snd.snd.snd
 x.fst
 (hexW
 (cutZ l
 x.snd.snd.fst
 (x.snd.snd.fst +
 ↑(hexLen
 (List.drop
 x.snd.snd.fst.toNat
 l)))))))),
 ((34 : Nat),
 PV.arr (8 : Nat)
 (BRow.ints
 Go.IntKind.u16
 (List.replicate
 (8 : Nat)
 (0 : Int))))] =
 VS.mk []
 [((0 : Nat),
 PV.str l),
 ((2 : Nat),
 PV.ptr (34 : Nat)
 (0 : Nat)),
 ((3 : Nat),
 PV.bool false),
 ((4 : Nat),
 PV.ptr (36 : Nat)
 (0 : Nat)),
 ((5 : Nat),
 PV.int
 Go.IntKind.u32
 (0 : Int)),
 ((6 : Nat),
 PV.bool false),
 ((7 : Nat),
 PV.int
 Go.IntKind.i64
 (x.fst + (1 : Int))),
 ((8 : Nat),
 PV.int
 Go.IntKind.i64
 (x.fst + (1 : Int))),
 ((9 : Nat),
 PV.int
 Go.IntKind.i64
 (x.snd.snd.fst +
 ↑(hexLen
 (List.drop
 x.snd.snd.fst.toNat
 l)) +
 (1 : Int) +
 (1 : Int))),
 ((10 : Nat),
 PV.undef),
 ((13 : Nat),
 PV.undef),
 ((17 : Nat),
 PV.undef),
 ((30 : Nat),
 PV.undef),
 ((43 : Nat),
 PV.undef),
 ((56 : Nat),
 PV.undef),
 ((67 : Nat),
 PV.undef),
 ((73 : Nat),
 PV.undef),
 ((75 : Nat),
 PV.undef),
 ((82 : Nat),
 PV.undef),
 ((95 : Nat),
 PV.undef),
 ((113 : Nat),
 PV.undef),
 ((120 : Nat),
 PV.undef)]
 [((36 : Nat),
 PV.arr (8 : Nat)
 (BRow.ints
 Go.IntKind.u16
 (setZ
 x.snd.snd.snd
 x.fst
 (hexW
 (cutZ l
 x.snd.snd.fst
 (x.snd.snd.fst +
 ↑(hexLen
 (List.drop
 x.snd.snd.fst.toNat
 l)))))))),
 ((34 : Nat),
 PV.arr (8 : Nat)
 (BRow.ints
 Go.IntKind.u16
 (List.replicate
 (8 : Nat)
 (0 : Int))))] ∧
 (∃ (acc : List Int),
 x.fst + (1 : Int) =
 ↑acc.length ∧
 acc.length ≤ (8 : Nat) ∧
 setZ x.snd.snd.snd
 x.fst
 (hexW
 (cutZ l
 x.snd.snd.fst
 (x.snd.snd.fst +
 ↑(hexLen
 (List.drop
 x.snd.snd.fst.toNat
 l))))) =
 pad
 acc ∧
 (-1 : Int) ≤
 x.fst +
 (1 : Int) ∧
 x.fst + (1 : Int) ≤
 x.fst +
 (1 : Int) ∧
 (0 : Int) ≤
 x.snd.snd.fst +
 ↑(hexLen
 (List.drop
 x.snd.snd.fst.toNat
 l)) +
 (1 :
 Int) +
 (1 : Int) ∧
 x.snd.snd.fst +
 ↑(hexLen
 (List.drop
 x.snd.snd.fst.toNat
 l)) +
 (1 :
 Int) +
 (1 :
 Int) ≤
 ↑(List.length
 l) ∧
 six1
 l
 ((9 :
 Nat) -
 acc.length)
 acc
 (x.fst +
 (1 :
 Int))
 (x.snd.snd.fst +
 ↑(hexLen
 (List.drop
 x.snd.snd.fst.toNat
 l)) +
 (1 :
 Int) +
 (1 :
 Int)).toNat =
 six
 l) ∧
 ((9 : Int) -
 (x.fst +
 (1 : Int))).toNat <
 ((9 : Int) - x.fst).toNat) ∧
 (decide
 (x.snd.snd.fst +
 ↑(hexLen
 (List.drop
 x.snd.snd.fst.toNat
 l)) +
 (1 : Int) +
 (1 : Int) <
 lenZ l) =
 false →
 ((bif
 decide
 (x.fst + (1 : Int) <
 (0 : Int)) then
 decide
 (x.fst + (1 : Int) =
 (8 : Int))
 else false) =
 true →
 k
 (PV.tup
 [PV.arr (8 : Nat)
 (BRow.ints
 Go.IntKind.u16
 (setZ
 x.snd.snd.snd
 x.fst
 (hexW
 (cutZ l
 x.snd.snd.fst
 (x.snd.snd.fst +
 ↑(hexLen
 (List.drop
 x.snd.snd.fst.toNat
 l))))))),
 PV.bool true])) ∧
 ((bif
 decide
 (x.fst + (1 : Int) <
 (0 : Int)) then
 decide
 (x.fst + (1 : Int) =
 (8 : Int))
 else false) =
 false →
 ((bif
 decide
 ((0 : Int) ≤
 x.fst +
 (1 :
 Int)) then
 decide
 (x.fst + (1 : Int) <
 (8 : Int))
 else false) =
 true →
 ((setZ x.snd.snd.snd
 x.fst
 (hexW
 (cutZ l
 x.snd.snd.fst
 (x.snd.snd.fst +
 ↑(hexLen
 (List.drop
 x.snd.snd.fst.toNat
 l)))))).length =
 (8 : Nat) ∧
 (0 : Int) ≤
 x.fst +
 (1 : Int) ∧
 x.fst + (1 : Int) ≤
 x.fst +
 (1 : Int) ∧
 x.fst +
 (1 : Int) ≤
 (7 : Int)) ∧
 k
 (PV.tup
 [PV.arr
 (8 : Nat)
 (BRow.ints
 Go.IntKind.u16
 (spreadM
 (setZ
 x.snd.snd.snd
 x.fst
 (hexW
 (cutZ
 l
 x.snd.snd.fst
 (x.snd.snd.fst +
 ↑(hexLen
 (List.drop
 x.snd.snd.fst.toNat
 l))))))
 (x.fst +
 (1 :
 Int)).toNat
 (x.fst +
 (1 :
 Int)).toNat)),
 PV.bool
 true])) ∧
 ((bif
 decide
 ((0 : Int) ≤
 x.fst +
 (1 :
 Int)) then
 decide
 (x.fst + (1 : Int) <
 (8 : Int))
 else false) =
 false →
 k
 (PV.tup
 [PV.arr
 (8 : Nat)
 (BRow.ints
 Go.IntKind.u16
 (List.replicate
 (8 : Nat)
 (0 : Int))),
 PV.bool
 false]))))))))))) ∧
 (decide
 ((2 : Int) +
 ↑(hexLen (List.drop (Int.toNat (2 : Int)) l)) +
 (1 : Int) +
 (1 : Int) <
 lenZ l) =
 false →
 (false = true →
 k
 (PV.tup
 [PV.arr (8 : Nat)
 (BRow.ints Go.IntKind.u16
 (setZ (List.replicate (8 : Nat) (0 : Int)) (0 : Int)
 (hexW
 (cutZ l (2 : Int)
 ((2 : Int) +
 ↑(hexLen
 (List.drop (Int.toNat (2 : Int)) l))))))),
 PV.bool true])) ∧
 (false = false →
 (decide ((0 : Int) + (1 : Int) < (8 : Int)) = true →
 ((setZ (List.replicate (8 : Nat) (0 : Int)) (0 : Int)
 (hexW
 (cutZ l (2 : Int)
 ((2 : Int) +
 ↑(hexLen
 (List.drop (Int.toNat (2 : Int)) l)))))).length =
 (8 : Nat) ∧
 (0 : Int) ≤ (0 : Int) + (1 : Int) ∧
 (0 : Int) + (1 : Int) ≤ (0 : Int) + (1 : Int) ∧
 (0 : Int) + (1 : Int) ≤ (7 : Int)) ∧
 k
 (PV.tup
 [PV.arr (8 : Nat)
 (BRow.ints Go.IntKind.u16
 (spreadM
 (setZ (List.replicate (8 : Nat) (0 : Int)) (0 : Int)
 (hexW
 (cutZ l (2 : Int)
 ((2 : Int) +
 ↑(hexLen
 (List.drop (Int.toNat (2 : Int)) l))))))
 ((0 : Int) + (1 : Int)).toNat ((0 : Int) + (1 : Int)).toNat)),
 PV.bool true])) ∧
 (decide ((0 : Int) + (1 : Int) < (8 : Int)) = false →
 k
 (PV.tup
 [PV.arr (8 : Nat)
 (BRow.ints Go.IntKind.u16 (List.replicate (8 : Nat) (0 : Int))),
 PV.bool false]))))))))))))) := by kernel_rfl
attribute [local irreducible] Go.Vc.evF
theorem ok_parse6 (l : Bs) : FuncOk Tryz.prog noT 31 [.str l] ⟨l.length ≤ 1000000, .tup [.arr 8 (.ints .u16 (six l).1), .bool (six l).2]⟩ := evF_ok (by kernel_rfl) X_parse6_ok (H := H_parse6 l) (fuel := 1000) Tryz.func31 (by kernel_rfl) fun hpre => (vc_parse6 l _).mpr (by
  refine ⟨trivial, fun hp => ⟨rfl, ⟨[], rfl, by decide, rfl, by omega, by omega, by omega, by omega, ?_⟩, fun x hx => ?_⟩, fun hp => ⟨fun h2 => ?_, fun h2 => ?_⟩⟩
  · rw [notB6] at hp
    have hp2 : ¬ Lib.hasPrefix l [58, 58] = true := hp
    show six1 l 9 [] (-1) 0 = six l
    unfold six
    rw [if_neg hp2]
  · obtain ⟨c, g, a, p⟩ := x
    obtain ⟨acc, hC, h8, hp', g1, g2, a0, a1, hs⟩ := hx
    dsimp only at hC hp' g1 g2 a0 a1 hs
    subst hC hp'
    obtain ⟨i, rfl⟩ := Int.eq_ofNat_of_zero_le a0
    rw [Int.toNat_natCast] at hs
    have hE : (i : Int) + ((hexLen (l.drop ((i : Int).toNat)) : Nat) : Int) = ((i + hexLen (l.drop i) : Nat) : Int) := by rw [Int.toNat_natCast]; push_cast; rfl
    refine body6_ok (fun v => v = .tup [.arr 8 (.ints .u16 (six l).1), .bool (six l).2]) _ _ l g i (i + hexLen (l.drop i)) acc (six l) hpre h8 g1 g2 (by omega) rfl hs rfl (fun a h1 h2 h3 h4 h5 => ?_) (fun a h1 h2 h3 h4 h5 => ?_)
    · exact ⟨rfl, ⟨a, by rw [h1]; push_cast; rfl, h3, by rw [hE]; exact h2, g1, by dsimp only; omega, by dsimp only; omega, by dsimp only; rw [hE]; omega, by rw [hE, show ((i + hexLen (l.drop i) : Nat) : Int) + 1 = ((i + hexLen (l.drop i) + 1 : Nat) : Int) by push_cast; rfl, Int.toNat_natCast]; exact h5⟩, by dsimp only; omega⟩
    · exact ⟨rfl, ⟨a, by rw [h1]; push_cast; rfl, h3, by rw [hE]; exact h2, by dsimp only; omega, by dsimp only; omega, by dsimp only; omega, by dsimp only; rw [hE]; omega, by rw [hE, show ((i + hexLen (l.drop i) : Nat) : Int) + 1 + 1 = ((i + hexLen (l.drop i) + 2 : Nat) : Int) by push_cast; omega, Int.toNat_natCast]; exact h5⟩, by dsimp only; omega⟩
  · have hp2 : Lib.hasPrefix l [58, 58] = true := by
      have hp3 : (!Lib.hasPrefix l [58, 58]) = false := hp
      rw [Bool.not_eq_false'] at hp3
      exact hp3
    have h3 : l.length = 2 := by have h4 : (2 : Int) = (l.length : Int) := of_decide_eq_true h2; omega
    have h5 : six l = (spreadM (pad []) 0 0, true) := by unfold six; rw [if_pos hp2, if_pos h3]; rfl
    refine ⟨(fun h => by cases h), fun _ => ⟨fun _ => ⟨⟨rfl, by omega, by omega, by omega⟩, ?_⟩, (fun h => by cases h)⟩⟩
    show PV.tup _ = PV.tup _
    rw [h5]
    rfl
  · have hp2 : Lib.hasPrefix l [58, 58] = true := by
      have hp3 : (!Lib.hasPrefix l [58, 58]) = false := hp
      rw [Bool.not_eq_false'] at hp3
      exact hp3
    have h3 : ¬ l.length = 2 := by have h4 : ¬ (2 : Int) = (l.length : Int) := of_decide_eq_false h2; omega
    have h5 : six1 l 9 [] 0 2 = six l := by unfold six; rw [if_pos hp2, if_neg h3]
    have h6 : 2 ≤ l.length := pre_len hp2
    refine body6_ok (fun v => v = .tup [.arr 8 (.ints .u16 (six l).1), .bool (six l).2]) _ _ l 0 2 (2 + hexLen (l.drop 2)) [] (six l) hpre (by decide) (by omega) (by simp) h6 rfl h5 rfl (fun a h1 h2 h3 h4 h5 => ?_) (fun a h1 h2 h3 h4 h5 => ?_)
    · refine ⟨rfl, ⟨a, by rw [h1]; rfl, h3, h2, by omega, by omega, by omega, by show (2 : Int) + ((hexLen (l.drop 2) : Nat) : Int) + 1 ≤ _; omega, ?_⟩, fun x hx => ?_⟩
      · rw [show ((2 : Int) + ((hexLen (l.drop (Int.toNat 2)) : Nat) : Int) + 1).toNat = 2 + hexLen (l.drop 2) + 1 by show ((2 : Int) + ((hexLen (l.drop 2) : Nat) : Int) + 1).toNat = _; omega]
        exact h5
      · obtain ⟨c, g, a, p⟩ := x
        obtain ⟨acc, hC, h8, hp', g1, g2, a0, a1, hs⟩ := hx
        dsimp only at hC hp' g1 g2 a0 a1 hs
        subst hC hp'
        obtain ⟨i, rfl⟩ := Int.eq_ofNat_of_zero_le a0
        rw [Int.toNat_natCast] at hs
        have hE : (i : Int) + ((hexLen (l.drop ((i : Int).toNat)) : Nat) : Int) = ((i + hexLen (l.drop i) : Nat) : Int) := by rw [Int.toNat_natCast]; push_cast; rfl
        refine body6_ok (fun v => v = .tup [.arr 8 (.ints .u16 (six l).1), .bool (six l).2]) _ _ l g i (i + hexLen (l.drop i)) acc (six l) hpre h8 g1 g2 (by omega) rfl hs rfl (fun a h1 h2 h3 h4 h5 => ?_) (fun a h1 h2 h3 h4 h5 => ?_)
        · exact ⟨rfl, ⟨a, by rw [h1]; push_cast; rfl, h3, by rw [hE]; exact h2, g1, by dsimp only; omega, by dsimp only; omega, by dsimp only; rw [hE]; omega, by rw [hE, show ((i + hexLen (l.drop i) : Nat) : Int) + 1 = ((i + hexLen (l.drop i) + 1 : Nat) : Int) by push_cast; rfl, Int.toNat_natCast]; exact h5⟩, by dsimp only; omega⟩
        · exact ⟨rfl, ⟨a, by rw [h1]; push_cast; rfl, h3, by rw [hE]; exact h2, by dsimp only; omega, by dsimp only; omega, by dsimp only; omega, by dsimp only; rw [hE]; omega, by rw [hE, show ((i + hexLen (l.drop i) : Nat) : Int) + 1 + 1 = ((i + hexLen (l.drop i) + 2 : Nat) : Int) by push_cast; omega, Int.toNat_natCast]; exact h5⟩, by dsimp only; omega⟩
    · refine ⟨rfl, ⟨a, by rw [h1]; rfl, h3, h2, by omega, by omega, by omega, by show (2 : Int) + ((hexLen (l.drop 2) : Nat) : Int) + 1 + 1 ≤ _; omega, ?_⟩, fun x hx => ?_⟩
      · rw [show ((2 : Int) + ((hexLen (l.drop (Int.toNat 2)) : Nat) : Int) + 1 + 1).toNat = 2 + hexLen (l.drop 2) + 2 by show ((2 : Int) + ((hexLen (l.drop 2) : Nat) : Int) + 1 + 1).toNat = _; omega]
        exact h5
      · obtain ⟨c, g, a, p⟩ := x
        obtain ⟨acc, hC, h8, hp', g1, g2, a0, a1, hs⟩ := hx
        dsimp only at hC hp' g1 g2 a0 a1 hs
        subst hC hp'
        obtain ⟨i, rfl⟩ := Int.eq_ofNat_of_zero_le a0
        rw [Int.toNat_natCast] at hs
        have hE : (i : Int) + ((hexLen (l.drop ((i : Int).toNat)) : Nat) : Int) = ((i + hexLen (l.drop i) : Nat) : Int) := by rw [Int.toNat_natCast]; push_cast; rfl
        refine body6_ok (fun v => v = .tup [.arr 8 (.ints .u16 (six l).1), .bool (six l).2]) _ _ l g i (i + hexLen (l.drop i)) acc (six l) hpre h8 g1 g2 (by omega) rfl hs rfl (fun a h1 h2 h3 h4 h5 => ?_) (fun a h1 h2 h3 h4 h5 => ?_)
        · exact ⟨rfl, ⟨a, by rw [h1]; push_cast; rfl, h3, by rw [hE]; exact h2, g1, by dsimp only; omega, by dsimp only; omega, by dsimp only; rw [hE]; omega, by rw [hE, show ((i + hexLen (l.drop i) : Nat) : Int) + 1 = ((i + hexLen (l.drop i) + 1 : Nat) : Int) by push_cast; rfl, Int.toNat_natCast]; exact h5⟩, by dsimp only; omega⟩
        · exact ⟨rfl, ⟨a, by rw [h1]; push_cast; rfl, h3, by rw [hE]; exact h2, by dsimp only; omega, by dsimp only; omega, by dsimp only; omega, by dsimp only; rw [hE]; omega, by rw [hE, show ((i + hexLen (l.drop i) : Nat) : Int) + 1 + 1 = ((i + hexLen (l.drop i) + 2 : Nat) : Int) by push_cast; omega, Int.toNat_natCast]; exact h5⟩, by dsimp only; omega⟩)
def ent_parse6 : List PV → Option CallR := fun xs => match xs with
  | [.str l] => some ⟨l.length ≤ 1000000, .tup [.arr 8 (.ints .u16 (six l).1), .bool (six l).2]⟩
  | _ => none
theorem ent_parse6_ok : ∀ xs c, ent_parse6 xs = some c → FuncOk Tryz.prog noT 31 xs c := fun xs c h => by
  unfold ent_parse6 at h
  split at h
  · injection h with h; subst h; exact ok_parse6 _
  · cases h
end Go.Proofs.YtjljhkjpogjdhaaGreatDoor
end
/- The function gossamer/ascii.Digit does what is told of it. -/
section
set_option linter.unusedVariables false
set_option linter.unusedSimpArgs false
set_option maxRecDepth 100000
set_option maxHeartbeats 4000000
namespace Go.Proofs.YtjljhkjpogjdhaaGreatDoor
open Go Go.Proofs Go.RowKit Go.Vc

def X_digit : Tbl := tblX []
def H_digit (z : Int) : Loops := fun i => none
theorem X_digit_ok : XOk Tryz.prog noT X_digit := tblX_nil
theorem vc_digit (z : Int) (k : PV → Prop) : evF Tryz.prog X_digit noT (H_digit z) 1000 Tryz.f88 [.int .u8 z] k = (
  k (PV.bool (bif decide ((48 : Int) ≤ z) then decide (z ≤ (57 : Int)) else false))) := by kernel_rfl
attribute [local irreducible] Go.Vc.evF
theorem ok_digit (z : Int) : FuncOk Tryz.prog noT 88 [.int .u8 z] ⟨True, .bool (decide (48 ≤ z ∧ z ≤ 57))⟩ := evF_ok (by kernel_rfl) X_digit_ok (H := H_digit z) (fuel := 1000) Tryz.func88 (by kernel_rfl) fun hpre => (vc_digit z _).mpr (by
  show PV.bool _ = PV.bool _
  congr 1
  by_cases h : 48 ≤ z <;> simp [h])
def ent_digit : List PV → Option CallR := fun xs => match xs with
  | [.int .u8 z] => some ⟨True, .bool (decide (48 ≤ z ∧ z ≤ 57))⟩
  | _ => none
theorem ent_digit_ok : ∀ xs c, ent_digit xs = some c → FuncOk Tryz.prog noT 88 xs c := fun xs c h => by
  unfold ent_digit at h
  split at h
  · injection h with h; subst h; exact ok_digit _
  · cases h
end Go.Proofs.YtjljhkjpogjdhaaGreatDoor
end
/- The function gossamer/ascii.Hex does what is told of it. -/
section
set_option linter.unusedVariables false
set_option linter.unusedSimpArgs false
set_option maxRecDepth 100000
set_option maxHeartbeats 4000000
namespace Go.Proofs.YtjljhkjpogjdhaaGreatDoor
open Go Go.Proofs Go.RowKit Go.Vc

theorem i64_lt' {n : Nat} {i : Int} (h : decide (i < (n : Int)) = true) : i < n := of_decide_eq_true h
def hxZ (z : Int) : Int := if 48 ≤ z ∧ z ≤ 57 then z - 48 else if 97 ≤ z ∧ z ≤ 102 then z - 87 else if 65 ≤ z ∧ z ≤ 70 then z - 55 else -1

def X_hex : Tbl := tblX [(88, ent_digit)]
def H_hex (z : Int) : Loops := fun i => none
theorem X_hex_ok : XOk Tryz.prog noT X_hex := tblX_cons ent_digit_ok (tblX_nil)
theorem vc_hex (z : Int) (k : PV → Prop) : evF Tryz.prog X_hex noT (H_hex z) 1000 Tryz.f63 [.int .u8 z] k = (
  True ∧
 (decide ((48 : Int) ≤ z ∧ z ≤ (57 : Int)) = true → k (PV.int Go.IntKind.i64 (Go.IntKind.i64.wrap (Go.IntKind.u8.wrap (z - (48 : Int)))))) ∧
 (decide ((48 : Int) ≤ z ∧ z ≤ (57 : Int)) = false →
 ((bif decide ((97 : Int) ≤ z) then decide (z ≤ (102 : Int)) else false) = true →
 inI64 (Go.IntKind.i64.wrap (Go.IntKind.u8.wrap (z - (97 : Int))) + (10 : Int)) ∧
 k (PV.int Go.IntKind.i64 (Go.IntKind.i64.wrap (Go.IntKind.u8.wrap (z - (97 : Int))) + (10 : Int)))) ∧
 ((bif decide ((97 : Int) ≤ z) then decide (z ≤ (102 : Int)) else false) = false →
 ((bif decide ((65 : Int) ≤ z) then decide (z ≤ (70 : Int)) else false) = true →
 inI64 (Go.IntKind.i64.wrap (Go.IntKind.u8.wrap (z - (65 : Int))) + (10 : Int)) ∧
 k (PV.int Go.IntKind.i64 (Go.IntKind.i64.wrap (Go.IntKind.u8.wrap (z - (65 : Int))) + (10 : Int)))) ∧
 ((bif decide ((65 : Int) ≤ z) then decide (z ≤ (70 : Int)) else false) = false → k (PV.int Go.IntKind.i64 (-1 : Int)))))) := by kernel_rfl
attribute [local irreducible] Go.Vc.evF
theorem ok_hex (z : Int) : FuncOk Tryz.prog noT 63 [.int .u8 z] ⟨0 ≤ z ∧ z ≤ 255, .int .i64 (hxZ z)⟩ := evF_ok (by kernel_rfl) X_hex_ok (H := H_hex z) (fuel := 1000) Tryz.func63 (by kernel_rfl) fun hpre => (vc_hex z _).mpr (by
  have w8 : ∀ a : Int, 0 ≤ a ∧ a ≤ 15 → IntKind.u8.wrap a = a := fun a h => IntWalk.u8_in _ (by omega)
  have w64 : ∀ a : Int, 0 ≤ a ∧ a ≤ 15 → IntKind.i64.wrap a = a := fun a h => IntWalk.i64_in _ (by omega)
  have yes : ∀ a b : Int, (bif decide (a ≤ z) then decide (z ≤ b) else false) = true → a ≤ z ∧ z ≤ b := fun a b h => by
    cases e : decide (a ≤ z) with
    | false => rw [e] at h; cases h
    | true => rw [e] at h; exact ⟨of_decide_eq_true e, of_decide_eq_true h⟩
  have no : ∀ a b : Int, (bif decide (a ≤ z) then decide (z ≤ b) else false) = false → ¬ (a ≤ z ∧ z ≤ b) := fun a b h g => by
    rw [decide_eq_true g.1, decide_eq_true g.2] at h
    cases h
  refine ⟨trivial, fun h => ?_, fun h => ⟨fun h2 => ?_, fun h2 => ⟨fun h3 => ?_, fun h3 => ?_⟩⟩⟩
  · have h1 := of_decide_eq_true h
    rw [w8 _ (by omega), w64 _ (by omega)]
    unfold hxZ; rw [if_pos h1]
  · have h1 := of_decide_eq_false h
    have h4 := yes _ _ h2
    rw [w8 _ (by omega), w64 _ (by omega)]
    refine ⟨by unfold inI64; omega, ?_⟩
    unfold hxZ; rw [if_neg h1, if_pos h4]; congr 1; omega
  · have h1 := of_decide_eq_false h
    have h5 := no _ _ h2
    have h4 := yes _ _ h3
    rw [w8 _ (by omega), w64 _ (by omega)]
    refine ⟨by unfold inI64; omega, ?_⟩
    unfold hxZ; rw [if_neg h1, if_neg h5, if_pos h4]; congr 1; omega
  · have h1 := of_decide_eq_false h
    unfold hxZ; rw [if_neg h1, if_neg (no _ _ h2), if_neg (no _ _ h3)])
def ent_hex : List PV → Option CallR := fun xs => match xs with
  | [.int .u8 z] => some ⟨0 ≤ z ∧ z ≤ 255, .int .i64 (hxZ z)⟩
  | _ => none
theorem ent_hex_ok : ∀ xs c, ent_hex xs = some c → FuncOk Tryz.prog noT 63 xs c := fun xs c h => by
  unfold ent_hex at h
  split at h
  · injection h with h; subst h; exact ok_hex _
  · cases h
end Go.Proofs.YtjljhkjpogjdhaaGreatDoor
end
/- The function gossamer/pct.Decode does what is told of it. -/
section
set_option linter.unusedVariables false
set_option linter.unusedSimpArgs false
set_option maxRecDepth 100000
set_option maxHeartbeats 4000000
namespace Go.Proofs.YtjljhkjpogjdhaaGreatDoor
open Go Go.Proofs Go.RowKit Go.Vc

def decP : Bs → Bs
  | [] => []
  | b :: r => match r with
    | h :: g :: t => if b.toNat = 37 ∧ 0 ≤ hxZ h.toNat ∧ 0 ≤ hxZ g.toNat then zByte (hxZ h.toNat * 16 + hxZ g.toNat) :: decP t else b :: decP (h :: g :: t)
    | [h] => [b, h]
    | [] => [b]
theorem decP_cons (b : UInt8) (r : Bs) : decP (b :: r) = if b.toNat = 37 ∧ 2 ≤ r.length ∧ 0 ≤ hxZ (byt r 0) ∧ 0 ≤ hxZ (byt r 1) then zByte (hxZ (byt r 0) * 16 + hxZ (byt r 1)) :: decP (r.drop 2) else b :: decP r := by
  match r with
  | [] => rw [if_neg (fun h => by have := h.2.1; simp at this)]; rfl
  | [h] => rw [if_neg (fun h => by have := h.2.1; simp at this)]; rfl
  | h :: g :: t =>
    show (if b.toNat = 37 ∧ 0 ≤ hxZ h.toNat ∧ 0 ≤ hxZ g.toNat then zByte (hxZ h.toNat * 16 + hxZ g.toNat) :: decP t else b :: decP (h :: g :: t)) = _
    have e0 : byt (h :: g :: t) 0 = (h.toNat : Int) := rfl
    have e1 : byt (h :: g :: t) 1 = (g.toNat : Int) := rfl
    rw [e0, e1]
    by_cases hc : b.toNat = 37 ∧ 0 ≤ hxZ h.toNat ∧ 0 ≤ hxZ g.toNat
    · rw [if_pos hc, if_pos ⟨hc.1, by simp, hc.2.1, hc.2.2⟩]; rfl
    · rw [if_neg hc, if_neg (fun h => hc ⟨h.1, h.2.2.1, h.2.2.2⟩)]
theorem hxZ_le (z : Int) : hxZ z ≤ 15 := by unfold hxZ; repeat' split; all_goals omega
theorem or_hex {h g : Int} (h0 : 0 ≤ h) (h1 : h ≤ 15) (g0 : 0 ≤ g) (g1 : g ≤ 15) : IntKind.u8.wrap (bitsZ .or .i64 (shlZ .i64 h 4) g) = h * 16 + g := by
  have key : ∀ a b : Fin 16, IntKind.u8.wrap (bitsZ .or .i64 (shlZ .i64 (a.val : Int) 4) (b.val : Int)) = (a.val : Int) * 16 + (b.val : Int) := by decide +kernel
  have := key ⟨h.toNat, by omega⟩ ⟨g.toNat, by omega⟩
  dsimp only at this
  rw [show ((h.toNat : Nat) : Int) = h by omega, show ((g.toNat : Nat) : Int) = g by omega] at this
  exact this
theorem byZ_at (l : Bs) (j : Nat) : byteZ l (j : Int) = byt l j := rfl
theorem drop_byt (l : Bs) (j : Nat) (h : j < l.length) : l.drop j = zByte (byt l j) :: l.drop (j + 1) := by
  rw [List.drop_eq_getElem_cons h]
  congr 1
  show _ = zByte (byteZ l (j : Int))
  rw [zByte_byteZ]
  rw [List.getD_eq_getElem?_getD, Int.toNat_natCast, List.getElem?_eq_getElem h]; rfl
theorem byt_drop' (l : Bs) (i j : Nat) : byt (l.drop i) j = byt l (i + j) := by unfold byt; rw [List.getD_eq_getElem?_getD, List.getD_eq_getElem?_getD, List.getElem?_drop]
theorem zB_nat {b : Int} (h0 : 0 ≤ b) (h1 : b ≤ 255) : (((zByte b).toNat : Nat) : Int) = b := by
  unfold zByte
  rw [show (UInt8.ofNat b.toNat).toNat = b.toNat % 256 from UInt8.toNat_ofNat' ..]
  omega
theorem byt_range (l : Bs) (j : Nat) : 0 ≤ byt l j ∧ byt l j ≤ 255 := byteZ_range l (j : Int)
theorem decP_at (l : Bs) (j : Nat) (h : j < l.length) : decP (l.drop j) = if byt l j = 37 ∧ j + 2 < l.length ∧ 0 ≤ hxZ (byt l (j + 1)) ∧ 0 ≤ hxZ (byt l (j + 2)) then zByte (hxZ (byt l (j + 1)) * 16 + hxZ (byt l (j + 2))) :: decP (l.drop (j + 3)) else zByte (byt l j) :: decP (l.drop (j + 1)) := by
  have hr := byt_range l j
  have e : ((zByte (byt l j)).toNat = 37) ↔ byt l j = 37 := by have := zB_nat hr.1 hr.2; omega
  rw [drop_byt l j h, decP_cons, byt_drop', byt_drop', List.length_drop, List.drop_drop]
  by_cases hc : byt l j = 37 ∧ j + 2 < l.length ∧ 0 ≤ hxZ (byt l (j + 1)) ∧ 0 ≤ hxZ (byt l (j + 2))
  · rw [if_pos hc, if_pos ⟨e.2 hc.1, by omega, hc.2.2.1, hc.2.2.2⟩]
  · rw [if_neg hc, if_neg (fun g => hc ⟨e.1 g.1, by omega, g.2.2.1, g.2.2.2⟩)]
def DecI (l : Bs) (o : Bool × Bs) (i : Int) : Prop := ∃ j : Nat, i = j ∧ j ≤ l.length ∧ o.1 = false ∧ o.2 ++ decP (l.drop j) = decP l ∧ o.2.length ≤ j

def X_pdec : Tbl := tblX [(63, ent_hex)]
def H_pdec (l : Bs) : Loops := fun i => bif Nat.beq i 3 then some ⟨(Bool × Bs) × (Int), (fun s x => (((((((s.row s 3 x.1.1 (.bytes x.1.2)).put 4 (.int .i64 x.2)).put 5 .undef).put 6 .undef).put 13 .undef).put 26 .undef).put 42 .undef)), (fun s => ((s.nil 3, s.bytes 3), s.int 4)), (fun s x => let b := x.1; let i := x.2; DecI l b i), (fun s x => let b := x.1; let i := x.2; ((l.length : Int) - i).toNat), [5, 6, 13, 26, 42]⟩ else none
theorem X_pdec_ok : XOk Tryz.prog noT X_pdec := tblX_cons ent_hex_ok (tblX_nil)
theorem vc_pdec (l : Bs) (k : PV → Prop) : evF Tryz.prog X_pdec noT (H_pdec l) 1000 Tryz.f33 [.str l] k = (
  ((0 : Int) ≤ (0 : Int) ∧ (0 : Int) ≤ lenZ l ∧ lenZ l ≤ maxRow) ∧
 VS.mk []
 [(nat_lit 0, PV.str l), (nat_lit 2, PV.row true (BRow.bytes []) ((2 : Nat) + (32 : Nat))),
 (nat_lit 3, PV.row false (BRow.bytes (List.replicate (Int.toNat (0 : Int)) (0 : UInt8))) ((9 : Nat) + (32 : Nat))),
 (nat_lit 4, PV.int Go.IntKind.i64 (0 : Int)), ((5 : Nat), PV.undef), ((6 : Nat), PV.undef), ((13 : Nat), PV.undef),
 ((26 : Nat), PV.undef), ((42 : Nat), PV.undef)]
 [] =
 VS.mk []
 [(nat_lit 0, PV.str l), (nat_lit 2, PV.row true (BRow.bytes []) ((2 : Nat) + (32 : Nat))),
 ((3 : Nat), PV.row false (BRow.bytes (List.replicate (Int.toNat (0 : Int)) (0 : UInt8))) ((9 : Nat) + (32 : Nat))),
 ((4 : Nat), PV.int Go.IntKind.i64 (0 : Int)), ((5 : Nat), PV.undef), ((6 : Nat), PV.undef), ((13 : Nat), PV.undef),
 ((26 : Nat), PV.undef), ((42 : Nat), PV.undef)]
 [] ∧
 DecI l (false, List.replicate (Int.toNat (0 : Int)) (0 : UInt8)) (0 : Int) ∧
 ∀ (x : (Bool × Bs) × Int),
 DecI l x.fst x.snd →
 (decide (x.snd < lenZ l) = true →
 within x.snd (lenZ l) ∧
 (decide (byteZ l x.snd = (37 : Int)) = true → inI64 (x.snd + (2 : Int))) ∧
 ((bif decide (byteZ l x.snd = (37 : Int)) then decide (x.snd + (2 : Int) < lenZ l) else false) = true →
 inI64 (x.snd + (1 : Int)) ∧
 within (x.snd + (1 : Int)) (lenZ l) ∧
 ((0 : Int) ≤ byteZ l (x.snd + (1 : Int)) ∧ byteZ l (x.snd + (1 : Int)) ≤ (255 : Int)) ∧
 inI64 (x.snd + (2 : Int)) ∧
 within (x.snd + (2 : Int)) (lenZ l) ∧
 ((0 : Int) ≤ byteZ l (x.snd + (2 : Int)) ∧ byteZ l (x.snd + (2 : Int)) ≤ (255 : Int)) ∧
 ((bif decide ((0 : Int) ≤ hxZ (byteZ l (x.snd + (1 : Int)))) then
 decide ((0 : Int) ≤ hxZ (byteZ l (x.snd + (2 : Int))))
 else false) =
 true →
 (0 : Int) ≤ (4 : Int) ∧
 allU8
 [PV.int Go.IntKind.u8
 (Go.IntKind.u8.wrap
 (bitsZ Go.BinOp.or Go.IntKind.i64
 (shlZ Go.IntKind.i64 (hxZ (byteZ l (x.snd + (1 : Int))))
 (4 : Int))
 (hxZ (byteZ l (x.snd + (2 : Int))))))] ∧
 Int.ofNat
 (List.length
 (x.fst.snd ++
 [zByte
 (Go.IntKind.u8.wrap
 (bitsZ Go.BinOp.or Go.IntKind.i64
 (shlZ Go.IntKind.i64
 (hxZ (byteZ l (x.snd + (1 : Int)))) (4 : Int))
 (hxZ (byteZ l (x.snd + (2 : Int))))))])) ≤
 maxRow ∧
 inI64 (x.snd + (2 : Int)) ∧
 inI64 (x.snd + (2 : Int) + (1 : Int)) ∧
 VS.mk []
 [(nat_lit 0, PV.str l),
 (nat_lit 2, PV.row true (BRow.bytes []) ((2 : Nat) + (32 : Nat))),
 ((3 : Nat),
 PV.row false
 (BRow.bytes
 (x.fst.snd ++
 [zByte
 (Go.IntKind.u8.wrap
 (bitsZ Go.BinOp.or Go.IntKind.i64
 (shlZ Go.IntKind.i64
 (hxZ (byteZ l (x.snd + (1 : Int))))
 (4 : Int))
 (hxZ (byteZ l (x.snd + (2 : Int))))))]))
 (nat_lit 40 + (1 : Nat))),
 ((4 : Nat), PV.int Go.IntKind.i64 (x.snd + (2 : Int) + (1 : Int))), ((5 : Nat), PV.undef),
 ((6 : Nat), PV.undef), ((13 : Nat), PV.undef), ((26 : Nat), PV.undef),
 ((42 : Nat), PV.undef)]
 [] =
 VS.mk []
 [(nat_lit 0, PV.str l),
 (nat_lit 2, PV.row true (BRow.bytes []) ((2 : Nat) + (32 : Nat))),
 ((3 : Nat),
 PV.row false
 (BRow.bytes
 (x.fst.snd ++
 [zByte
 (Go.IntKind.u8.wrap
 (bitsZ Go.BinOp.or Go.IntKind.i64
 (shlZ Go.IntKind.i64
 (hxZ (byteZ l (x.snd + (1 : Int))))
 (4 : Int))
 (hxZ (byteZ l (x.snd + (2 : Int))))))]))
 ((9 : Nat) + (32 : Nat))),
 ((4 : Nat), PV.int Go.IntKind.i64 (x.snd + (2 : Int) + (1 : Int))), ((5 : Nat), PV.undef),
 ((6 : Nat), PV.undef), ((13 : Nat), PV.undef), ((26 : Nat), PV.undef),
 ((42 : Nat), PV.undef)]
 [] ∧
 DecI l
 (false,
 x.fst.snd ++
 [zByte
 (Go.IntKind.u8.wrap
 (bitsZ Go.BinOp.or Go.IntKind.i64
 (shlZ Go.IntKind.i64
 (hxZ (byteZ l (x.snd + (1 : Int)))) (4 : Int))
 (hxZ (byteZ l (x.snd + (2 : Int))))))])
 (x.snd + (2 : Int) + (1 : Int)) ∧
 (↑(List.length l) - (x.snd + (2 : Int) + (1 : Int))).toNat < (↑(List.length l) - x.snd).toNat) ∧
 ((bif decide ((0 : Int) ≤ hxZ (byteZ l (x.snd + (1 : Int)))) then
 decide ((0 : Int) ≤ hxZ (byteZ l (x.snd + (2 : Int))))
 else false) =
 false →
 within x.snd (lenZ l) ∧
 allU8 [PV.int Go.IntKind.u8 (byteZ l x.snd)] ∧
 Int.ofNat (List.length (x.fst.snd ++ [zByte (byteZ l x.snd)])) ≤ maxRow ∧
 inI64 (x.snd + (1 : Int)) ∧
 VS.mk []
 [(nat_lit 0, PV.str l), (nat_lit 2, PV.row true (BRow.bytes []) ((2 : Nat) + (32 : Nat))),
 ((3 : Nat),
 PV.row false (BRow.bytes (x.fst.snd ++ [zByte (byteZ l x.snd)]))
 (nat_lit 40 + (1 : Nat))),
 ((4 : Nat), PV.int Go.IntKind.i64 (x.snd + (1 : Int))), ((5 : Nat), PV.undef),
 ((6 : Nat), PV.undef), ((13 : Nat), PV.undef), ((26 : Nat), PV.undef),
 ((42 : Nat), PV.undef)]
 [] =
 VS.mk []
 [(nat_lit 0, PV.str l), (nat_lit 2, PV.row true (BRow.bytes []) ((2 : Nat) + (32 : Nat))),
 ((3 : Nat),
 PV.row false (BRow.bytes (x.fst.snd ++ [zByte (byteZ l x.snd)]))
 ((9 : Nat) + (32 : Nat))),
 ((4 : Nat), PV.int Go.IntKind.i64 (x.snd + (1 : Int))), ((5 : Nat), PV.undef),
 ((6 : Nat), PV.undef), ((13 : Nat), PV.undef), ((26 : Nat), PV.undef),
 ((42 : Nat), PV.undef)]
 [] ∧
 DecI l (false, x.fst.snd ++ [zByte (byteZ l x.snd)])
 (x.snd + (1 : Int)) ∧
 (↑(List.length l) - (x.snd + (1 : Int))).toNat < (↑(List.length l) - x.snd).toNat)) ∧
 ((bif decide (byteZ l x.snd = (37 : Int)) then decide (x.snd + (2 : Int) < lenZ l) else false) = false →
 within x.snd (lenZ l) ∧
 allU8 [PV.int Go.IntKind.u8 (byteZ l x.snd)] ∧
 Int.ofNat (List.length (x.fst.snd ++ [zByte (byteZ l x.snd)])) ≤ maxRow ∧
 inI64 (x.snd + (1 : Int)) ∧
 VS.mk []
 [(nat_lit 0, PV.str l), (nat_lit 2, PV.row true (BRow.bytes []) ((2 : Nat) + (32 : Nat))),
 ((3 : Nat),
 PV.row false (BRow.bytes (x.fst.snd ++ [zByte (byteZ l x.snd)])) (nat_lit 40 + (1 : Nat))),
 ((4 : Nat), PV.int Go.IntKind.i64 (x.snd + (1 : Int))), ((5 : Nat), PV.undef), ((6 : Nat), PV.undef),
 ((13 : Nat), PV.undef), ((26 : Nat), PV.undef), ((42 : Nat), PV.undef)]
 [] =
 VS.mk []
 [(nat_lit 0, PV.str l), (nat_lit 2, PV.row true (BRow.bytes []) ((2 : Nat) + (32 : Nat))),
 ((3 : Nat),
 PV.row false (BRow.bytes (x.fst.snd ++ [zByte (byteZ l x.snd)])) ((9 : Nat) + (32 : Nat))),
 ((4 : Nat), PV.int Go.IntKind.i64 (x.snd + (1 : Int))), ((5 : Nat), PV.undef), ((6 : Nat), PV.undef),
 ((13 : Nat), PV.undef), ((26 : Nat), PV.undef), ((42 : Nat), PV.undef)]
 [] ∧
 DecI l (false, x.fst.snd ++ [zByte (byteZ l x.snd)]) (x.snd + (1 : Int)) ∧
 (↑(List.length l) - (x.snd + (1 : Int))).toNat < (↑(List.length l) - x.snd).toNat)) ∧
 (decide (x.snd < lenZ l) = false → k (PV.row x.fst.fst (BRow.bytes x.fst.snd) (0 : Nat)))) := by kernel_rfl
attribute [local irreducible] Go.Vc.evF
theorem ok_pdec (l : Bs) : FuncOk Tryz.prog noT 33 [.str l] ⟨l.length ≤ 1000000, .row false (.bytes (decP l)) 0⟩ := evF_ok (by kernel_rfl) X_pdec_ok (H := H_pdec l) (fuel := 1000) Tryz.func33 (by kernel_rfl) fun hpre => (vc_pdec l _).mpr (by
  obtain hl := hpre
  refine ⟨⟨by omega, by unfold lenZ; omega, by unfold lenZ; show _ ≤ (16777216 : Int); omega⟩, rfl, ⟨0, rfl, by omega, rfl, rfl, by show 0 ≤ 0; omega⟩, fun x hx => ?_⟩
  obtain ⟨⟨nl, o⟩, i⟩ := x
  obtain ⟨j, h1, h2, h3, h4, h5⟩ := hx
  dsimp only at h1 h2 h3 h4 h5 ⊢
  subst h1 h3
  have e1 : (j : Int) + 1 = ((j + 1 : Nat) : Int) := by push_cast; rfl
  have e2 : (j : Int) + 2 = ((j + 2 : Nat) : Int) := by push_cast; rfl
  have e3 : ((j + 2 : Nat) : Int) + 1 = ((j + 3 : Nat) : Int) := by push_cast; rfl
  have hu : ∀ z : Int, 0 ≤ z ∧ z ≤ 255 → allU8 [.int .u8 z] := fun z hz => by simp [allU8]; exact hz
  rw [e1, e2, e3, byZ_at l j, byZ_at l (j + 1), byZ_at l (j + 2)]
  have r0 := byt_range l j
  have r1 := byt_range l (j + 1)
  have r2 := byt_range l (j + 2)
  have hm : (o ++ [zByte 0]).length = o.length + 1 := by rw [List.length_append]; rfl
  have stay : j < l.length → (byt l j = 37 ∧ j + 2 < l.length ∧ 0 ≤ hxZ (byt l (j + 1)) ∧ 0 ≤ hxZ (byt l (j + 2)) → False) → DecI l (false, o ++ [zByte (byt l j)]) ((j + 1 : Nat) : Int) := fun hj hc => by
    refine ⟨j + 1, rfl, by omega, rfl, ?_, by show (o ++ [_]).length ≤ _; rw [List.length_append]; show o.length + 1 ≤ _; omega⟩
    show (o ++ [_]) ++ _ = _
    rw [← h4, decP_at l j hj, if_neg hc, List.append_assoc]; rfl
  refine ⟨fun h => ?_, fun h => ?_⟩
  · have hj : j < l.length := by have := of_decide_eq_true h; unfold lenZ at this; omega
    refine ⟨by unfold within lenZ; omega, fun _ => by unfold inI64; omega, fun hc => ?_, fun hc => ?_⟩
    · have hb : byt l j = 37 ∧ j + 2 < l.length := by
        cases e : decide (byt l j = 37) with
        | false => rw [e] at hc; cases hc
        | true => rw [e] at hc; exact ⟨of_decide_eq_true e, by have := of_decide_eq_true hc; unfold lenZ at this; omega⟩
      refine ⟨by unfold inI64; omega, by unfold within lenZ; omega, r1, by unfold inI64; omega, by unfold within lenZ; omega, r2, fun hd => ?_, fun hd => ?_⟩
      · have hh : 0 ≤ hxZ (byt l (j + 1)) ∧ 0 ≤ hxZ (byt l (j + 2)) := by
          cases e : decide (0 ≤ hxZ (byt l (j + 1))) with
          | false => rw [e] at hd; cases hd
          | true => rw [e] at hd; exact ⟨of_decide_eq_true e, of_decide_eq_true hd⟩
        have le1 := hxZ_le (byt l (j + 1))
        have le2 := hxZ_le (byt l (j + 2))
        rw [or_hex hh.1 le1 hh.2 le2]
        refine ⟨by omega, hu _ (by omega), ?_, by unfold inI64; omega, by unfold inI64; omega, rfl, ⟨j + 3, rfl, by omega, rfl, ?_, ?_⟩, by omega⟩
        · rw [List.length_append]; show ((o.length + 1 : Nat) : Int) ≤ 16777216; omega
        · show (o ++ [_]) ++ _ = _
          rw [← h4, decP_at l j hj, if_pos ⟨hb.1, hb.2, hh.1, hh.2⟩, List.append_assoc]; rfl
        · show (o ++ [_]).length ≤ _; rw [List.length_append]; show o.length + 1 ≤ _; omega
      · refine ⟨by unfold within lenZ; omega, hu _ r0, ?_, by unfold inI64; omega, rfl, stay hj (fun g => ?_), by omega⟩
        · rw [List.length_append]; show ((o.length + 1 : Nat) : Int) ≤ 16777216; omega
        · rw [decide_eq_true g.2.2.1, decide_eq_true g.2.2.2] at hd; cases hd
    · refine ⟨by unfold within lenZ; omega, hu _ r0, ?_, by unfold inI64; omega, rfl, stay hj (fun g => ?_), by omega⟩
      · rw [List.length_append]; show ((o.length + 1 : Nat) : Int) ≤ 16777216; omega
      · rw [decide_eq_true g.1, decide_eq_true (show ((j + 2 : Nat) : Int) < lenZ l by unfold lenZ; omega)] at hc; cases hc
  · have hj : j = l.length := by have := of_decide_eq_false h; unfold lenZ at this; omega
    subst hj
    rw [List.drop_length] at h4
    have : o = decP l := by rw [← h4]; exact (List.append_nil o).symm
    show PV.row false _ _ = PV.row false _ _
    rw [this])
def ent_pdec : List PV → Option CallR := fun xs => match xs with
  | [.str l] => some ⟨l.length ≤ 1000000, .row false (.bytes (decP l)) 0⟩
  | _ => none
theorem ent_pdec_ok : ∀ xs c, ent_pdec xs = some c → FuncOk Tryz.prog noT 33 xs c := fun xs c h => by
  unfold ent_pdec at h
  split at h
  · injection h with h; subst h; exact ok_pdec _
  · cases h
end Go.Proofs.YtjljhkjpogjdhaaGreatDoor
end
/- The function gossamer/ascii.Lower does what is told of it. -/
section
set_option linter.unusedVariables false
set_option linter.unusedSimpArgs false
set_option maxRecDepth 100000
set_option maxHeartbeats 4000000
namespace Go.Proofs.YtjljhkjpogjdhaaGreatDoor
open Go Go.Proofs Go.RowKit Go.Vc

theorem i64_lt {n : Nat} {i : Int} (h : decide (i < (n : Int)) = true) : i < n := of_decide_eq_true h
def lowB1 (c : UInt8) : UInt8 := if 65 ≤ c.toNat ∧ c.toNat ≤ 90 then c + 32 else c
def lowB (l : Bs) : Bs := l.map lowB1
theorem lowB_at {l : Bs} {z : Int} (h0 : 0 ≤ z) (h1 : z < (l.length : Int)) : (lowB l)[z.toNat]? = some (lowB1 (l.getD z.toNat 0)) := by
  have : z.toNat < l.length := by omega
  unfold lowB
  rw [List.getElem?_map, List.getElem?_eq_getElem this, List.getD_eq_getElem?_getD, List.getElem?_eq_getElem this]
  rfl
theorem low_yes {l : Bs} {z : Int} (h : (bif decide ((65 : Int) ≤ byteZ l z) then decide (byteZ l z ≤ (90 : Int)) else false) = true) : IntKind.u8.wrap (byteZ l z + (32 : Int)) = byteZ l z + 32 ∧ byteZ l z ≤ 90 ∧ zByte (byteZ l z + 32) = lowB1 (l.getD z.toNat 0) := by
  have hr := byteZ_range l z
  cases h1 : decide ((65 : Int) ≤ byteZ l z) with
  | false => rw [h1] at h; cases h
  | true =>
    rw [h1] at h
    have h2 : byteZ l z ≤ 90 := of_decide_eq_true h
    have h3 : 65 ≤ byteZ l z := of_decide_eq_true h1
    refine ⟨IntWalk.u8_in _ (by omega), h2, ?_⟩
    unfold byteZ at h2 h3
    unfold lowB1 zByte byteZ
    rw [if_pos (by omega)]
    apply UInt8.toNat_inj.1
    rw [UInt8.toNat_add]
    have e : (((l.getD z.toNat 0).toNat : Int) + 32).toNat = (l.getD z.toNat 0).toNat + 32 := by omega
    rw [e]
    simp
theorem low_no {l : Bs} {z : Int} (h : (bif decide ((65 : Int) ≤ byteZ l z) then decide (byteZ l z ≤ (90 : Int)) else false) = false) : zByte (byteZ l z) = lowB1 (l.getD z.toNat 0) := by
  rw [zByte_byteZ]
  unfold lowB1
  rw [if_neg]
  intro hh
  have h3 : (65 : Int) ≤ byteZ l z := by unfold byteZ; omega
  have h4 : byteZ l z ≤ (90 : Int) := by unfold byteZ; omega
  rw [decide_eq_true h3, decide_eq_true h4] at h
  cases h

def X_lower : Tbl := tblX []
def H_lower (nl : Bool) (l : Bs) : Loops := fun i => bif Nat.beq i 3 then some ⟨(Bool × Bs) × (Int), (fun s x => ((((((s.row s 3 x.1.1 (.bytes x.1.2)).put 11 (.int .i64 x.2)).put 4 .undef).put 5 .undef).put 12 .undef).put 21 .undef)), (fun s => ((s.nil 3, s.bytes 3), s.int 11)), (fun s x => let low := x.1; let i := x.2; 0 ≤ i ∧ i ≤ l.length ∧ low.1 = false ∧ low.2 = (lowB l).take i.toNat ++ List.replicate (l.length - i.toNat) 0), (fun s x => let low := x.1; let i := x.2; ((l.length : Int) - i).toNat), [4, 5, 12, 21]⟩ else none
theorem X_lower_ok : XOk Tryz.prog noT X_lower := tblX_nil
theorem vc_lower (nl : Bool) (l : Bs) (k : PV → Prop) : evF Tryz.prog X_lower noT (H_lower nl l) 1000 Tryz.f32 [.row nl (.bytes l) 0] k = (
  ((0 : Int) ≤ Int.ofNat (List.length l) ∧ Int.ofNat (List.length l) ≤ Int.ofNat (List.length l) ∧ Int.ofNat (List.length l) ≤ maxRow) ∧
 VS.mk []
 [(nat_lit 0, PV.row nl (BRow.bytes l) (0 : Nat)), (nat_lit 2, PV.str (ByteArray.mk #[]).data.toList),
 (nat_lit 3, PV.row false (BRow.bytes (List.replicate (Int.ofNat (List.length l)).toNat (0 : UInt8))) ((8 : Nat) + (32 : Nat))),
 ((4 : Nat), PV.undef), ((5 : Nat), PV.undef), (nat_lit 9, PV.row nl (BRow.bytes l) (0 : Nat)),
 (nat_lit 10, PV.int Go.IntKind.i64 (Int.ofNat (List.length l))), (nat_lit 11, PV.int Go.IntKind.i64 (0 : Int)),
 ((12 : Nat), PV.undef), ((21 : Nat), PV.undef)]
 [] =
 VS.mk []
 [(nat_lit 0, PV.row nl (BRow.bytes l) (0 : Nat)), (nat_lit 2, PV.str (ByteArray.mk #[]).data.toList),
 ((3 : Nat), PV.row false (BRow.bytes (List.replicate (Int.ofNat (List.length l)).toNat (0 : UInt8))) ((8 : Nat) + (32 : Nat))),
 ((4 : Nat), PV.undef), ((5 : Nat), PV.undef), (nat_lit 9, PV.row nl (BRow.bytes l) (0 : Nat)),
 (nat_lit 10, PV.int Go.IntKind.i64 (Int.ofNat (List.length l))), ((11 : Nat), PV.int Go.IntKind.i64 (0 : Int)),
 ((12 : Nat), PV.undef), ((21 : Nat), PV.undef)]
 [] ∧
 ((0 : Int) ≤ (0 : Int) ∧
 (0 : Int) ≤ ↑(List.length l) ∧
 false = false ∧
 List.replicate (Int.ofNat (List.length l)).toNat (0 : UInt8) =
 List.take (Int.toNat (0 : Int)) (lowB l) ++
 List.replicate (List.length l - Int.toNat (0 : Int)) (0 : UInt8)) ∧
 ∀ (x : (Bool × Bs) × Int),
 (0 : Int) ≤ x.snd ∧
 x.snd ≤ ↑(List.length l) ∧
 x.fst.fst = false ∧
 x.fst.snd = List.take x.snd.toNat (lowB l) ++ List.replicate (List.length l - x.snd.toNat) (0 : UInt8) →
 (decide (x.snd < Int.ofNat (List.length l)) = true →
 within x.snd (Int.ofNat (List.length l)) ∧
 ((bif decide ((65 : Int) ≤ byteZ l x.snd) then decide (byteZ l x.snd ≤ (90 : Int)) else false) = true →
 within x.snd (Int.ofNat (List.length x.fst.snd)) ∧
 ((0 : Int) ≤ Go.IntKind.u8.wrap (byteZ l x.snd + (32 : Int)) ∧
 Go.IntKind.u8.wrap (byteZ l x.snd + (32 : Int)) ≤ (255 : Int)) ∧
 inI64 (x.snd + (1 : Int)) ∧
 VS.mk []
 [(nat_lit 0, PV.row nl (BRow.bytes l) (0 : Nat)), (nat_lit 2, PV.str (ByteArray.mk #[]).data.toList),
 ((3 : Nat),
 PV.row x.fst.fst
 (BRow.bytes (setZ x.fst.snd x.snd (zByte (Go.IntKind.u8.wrap (byteZ l x.snd + (32 : Int))))))
 ((8 : Nat) + (32 : Nat))),
 ((4 : Nat), PV.undef), ((5 : Nat), PV.undef), (nat_lit 9, PV.row nl (BRow.bytes l) (0 : Nat)),
 (nat_lit 10, PV.int Go.IntKind.i64 (Int.ofNat (List.length l))),
 ((11 : Nat), PV.int Go.IntKind.i64 (x.snd + (1 : Int))), ((12 : Nat), PV.undef), ((21 : Nat), PV.undef)]
 [] =
 VS.mk []
 [(nat_lit 0, PV.row nl (BRow.bytes l) (0 : Nat)), (nat_lit 2, PV.str (ByteArray.mk #[]).data.toList),
 ((3 : Nat),
 PV.row x.fst.fst
 (BRow.bytes (setZ x.fst.snd x.snd (zByte (Go.IntKind.u8.wrap (byteZ l x.snd + (32 : Int))))))
 ((8 : Nat) + (32 : Nat))),
 ((4 : Nat), PV.undef), ((5 : Nat), PV.undef), (nat_lit 9, PV.row nl (BRow.bytes l) (0 : Nat)),
 (nat_lit 10, PV.int Go.IntKind.i64 (Int.ofNat (List.length l))),
 ((11 : Nat), PV.int Go.IntKind.i64 (x.snd + (1 : Int))), ((12 : Nat), PV.undef), ((21 : Nat), PV.undef)]
 [] ∧
 ((0 : Int) ≤ x.snd + (1 : Int) ∧
 x.snd + (1 : Int) ≤ ↑(List.length l) ∧
 x.fst.fst = false ∧
 setZ x.fst.snd x.snd (zByte (Go.IntKind.u8.wrap (byteZ l x.snd + (32 : Int)))) =
 List.take (x.snd + (1 : Int)).toNat (lowB l) ++
 List.replicate (List.length l - (x.snd + (1 : Int)).toNat) (0 : UInt8)) ∧
 (↑(List.length l) - (x.snd + (1 : Int))).toNat < (↑(List.length l) - x.snd).toNat) ∧
 ((bif decide ((65 : Int) ≤ byteZ l x.snd) then decide (byteZ l x.snd ≤ (90 : Int)) else false) = false →
 within x.snd (Int.ofNat (List.length x.fst.snd)) ∧
 ((0 : Int) ≤ byteZ l x.snd ∧ byteZ l x.snd ≤ (255 : Int)) ∧
 inI64 (x.snd + (1 : Int)) ∧
 VS.mk []
 [(nat_lit 0, PV.row nl (BRow.bytes l) (0 : Nat)), (nat_lit 2, PV.str (ByteArray.mk #[]).data.toList),
 ((3 : Nat),
 PV.row x.fst.fst (BRow.bytes (setZ x.fst.snd x.snd (zByte (byteZ l x.snd))))
 ((8 : Nat) + (32 : Nat))),
 ((4 : Nat), PV.undef), ((5 : Nat), PV.undef), (nat_lit 9, PV.row nl (BRow.bytes l) (0 : Nat)),
 (nat_lit 10, PV.int Go.IntKind.i64 (Int.ofNat (List.length l))),
 ((11 : Nat), PV.int Go.IntKind.i64 (x.snd + (1 : Int))), ((12 : Nat), PV.undef), ((21 : Nat), PV.undef)]
 [] =
 VS.mk []
 [(nat_lit 0, PV.row nl (BRow.bytes l) (0 : Nat)), (nat_lit 2, PV.str (ByteArray.mk #[]).data.toList),
 ((3 : Nat),
 PV.row x.fst.fst (BRow.bytes (setZ x.fst.snd x.snd (zByte (byteZ l x.snd))))
 ((8 : Nat) + (32 : Nat))),
 ((4 : Nat), PV.undef), ((5 : Nat), PV.undef), (nat_lit 9, PV.row nl (BRow.bytes l) (0 : Nat)),
 (nat_lit 10, PV.int Go.IntKind.i64 (Int.ofNat (List.length l))),
 ((11 : Nat), PV.int Go.IntKind.i64 (x.snd + (1 : Int))), ((12 : Nat), PV.undef), ((21 : Nat), PV.undef)]
 [] ∧
 ((0 : Int) ≤ x.snd + (1 : Int) ∧
 x.snd + (1 : Int) ≤ ↑(List.length l) ∧
 x.fst.fst = false ∧
 setZ x.fst.snd x.snd (zByte (byteZ l x.snd)) =
 List.take (x.snd + (1 : Int)).toNat (lowB l) ++
 List.replicate (List.length l - (x.snd + (1 : Int)).toNat) (0 : UInt8)) ∧
 (↑(List.length l) - (x.snd + (1 : Int))).toNat < (↑(List.length l) - x.snd).toNat)) ∧
 (decide (x.snd < Int.ofNat (List.length l)) = false → k (PV.str x.fst.snd))) := by kernel_rfl
attribute [local irreducible] Go.Vc.evF
theorem ok_lower (nl : Bool) (l : Bs) : FuncOk Tryz.prog noT 32 [.row nl (.bytes l) 0] ⟨l.length ≤ 1000000, .str (lowB l)⟩ := evF_ok (by kernel_rfl) X_lower_ok (H := H_lower nl l) (fuel := 1000) Tryz.func32 (by kernel_rfl) fun hpre => (vc_lower nl l _).mpr (by
  have hll : (lowB l).length = l.length := by unfold lowB; simp
  simp only [Int.ofNat_eq_natCast] at *
  refine ⟨⟨by omega, by omega, by unfold maxRow; omega⟩, trivial, ⟨by omega, by omega, trivial, by simp⟩, fun x hx => ⟨fun h => ?_, fun h => ?_⟩⟩
  · obtain ⟨h0, h1, h2, h3⟩ := hx
    have hlt := i64_lt h
    have hbr := byteZ_range l x.2
    have hlen : x.1.2.length = l.length := by rw [h3, List.length_append, List.length_take, List.length_replicate, hll]; omega
    have step : ∀ b, b = lowB1 (l.getD x.2.toNat 0) → setZ x.1.2 x.2 b = List.take (x.2 + 1).toNat (lowB l) ++ List.replicate (List.length l - (x.2 + 1).toNat) 0 := fun b hb => by
      unfold setZ
      rw [show (x.2 + 1).toNat = x.2.toNat + 1 by omega, h3]
      exact set_fill hll.symm (by rw [lowB_at h0 hlt, hb])
    refine ⟨⟨h0, hlt⟩, fun hc => ?_, fun hc => ?_⟩
    · obtain ⟨c1, c2, c3⟩ := low_yes hc
      rw [c1]
      refine ⟨⟨h0, by rw [hlen]; exact hlt⟩, ⟨by omega, by omega⟩, ⟨by omega, by omega⟩, trivial, ⟨by omega, by omega, h2, step _ c3⟩, by omega⟩
    · refine ⟨⟨h0, by rw [hlen]; exact hlt⟩, ⟨by omega, by omega⟩, ⟨by omega, by omega⟩, trivial, ⟨by omega, by omega, h2, step _ (low_no hc)⟩, by omega⟩
  · obtain ⟨h0, h1, h2, h3⟩ := hx
    have hge : ¬ x.2 < (l.length : Int) := of_decide_eq_false h
    show PV.str _ = PV.str _
    rw [h3, show x.2.toNat = l.length by omega, ← hll, List.take_length]
    simp)
def ent_lower : List PV → Option CallR := fun xs => match xs with
  | [.row nl (.bytes l) 0] => some ⟨l.length ≤ 1000000, .str (lowB l)⟩
  | _ => none
theorem ent_lower_ok : ∀ xs c, ent_lower xs = some c → FuncOk Tryz.prog noT 32 xs c := fun xs c h => by
  unfold ent_lower at h
  split at h
  · injection h with h; subst h; exact ok_lower _ _
  · cases h
end Go.Proofs.YtjljhkjpogjdhaaGreatDoor
end
/- The function gossamer/host.noDomain does what is told of it. -/
section
set_option linter.unusedVariables false
set_option linter.unusedSimpArgs false
set_option maxRecDepth 100000
set_option maxHeartbeats 4000000
namespace Go.Proofs.YtjljhkjpogjdhaaGreatDoor
open Go Go.Proofs Go.RowKit Go.Vc

def neverL : Bs := [0, 9, 10, 13, 32, 35, 47, 58, 60, 62, 63, 64, 91, 92, 93, 94, 124]
def nodB (r : Int) : Bool := decide (r < 32) || decide (r = 37) || decide (r = 127) || runB neverL r

def X_nodom : Tbl := tblX [(66, ent_crune)]
def H_nodom (r : Int) : Loops := fun i => none
theorem X_nodom_ok : XOk Tryz.prog noT X_nodom := tblX_cons ent_crune_ok (tblX_nil)
theorem vc_nodom (r : Int) (k : PV → Prop) : evF Tryz.prog X_nodom noT (H_nodom r) 1000 Tryz.f36 [.int .i32 r] k = (
  ((bif bif decide (r < (32 : Int)) then true else decide (r = (37 : Int)) then true else decide (r = (127 : Int))) = false →
 (0 : Int) ≤ r ∧
 r ≤ (2147483647 : Int) ∧
 ∀ (b : UInt8),
 b ∈
 (ByteArray.mk
 #[(0 : UInt8), (9 : UInt8), (10 : UInt8), (13 : UInt8), (32 : UInt8), (35 : UInt8), (47 : UInt8), (58 : UInt8), (60 : UInt8), (62 : UInt8),
 (63 : UInt8), (64 : UInt8), (91 : UInt8), (92 : UInt8), (93 : UInt8), (94 : UInt8), (124 : UInt8)]).data.toList →
 b.toNat < (128 : Nat)) ∧
 k
 (PV.bool
 (bif bif bif decide (r < (32 : Int)) then true else decide (r = (37 : Int)) then true else decide (r = (127 : Int)) then true
 else
 runB
 (ByteArray.mk
 #[(0 : UInt8), (9 : UInt8), (10 : UInt8), (13 : UInt8), (32 : UInt8), (35 : UInt8), (47 : UInt8), (58 : UInt8), (60 : UInt8), (62 : UInt8),
 (63 : UInt8), (64 : UInt8), (91 : UInt8), (92 : UInt8), (93 : UInt8), (94 : UInt8), (124 : UInt8)]).data.toList
 r))) := by kernel_rfl
attribute [local irreducible] Go.Vc.evF
theorem ok_nodom (r : Int) : FuncOk Tryz.prog noT 36 [.int .i32 r] ⟨0 ≤ r ∧ r ≤ 1114111, .bool (nodB r)⟩ := evF_ok (by kernel_rfl) X_nodom_ok (H := H_nodom r) (fuel := 1000) Tryz.func36 (by kernel_rfl) fun hpre => (vc_nodom r _).mpr (by
  refine ⟨fun _ => ⟨by omega, by omega, by decide⟩, ?_⟩
  show PV.bool _ = PV.bool _
  unfold nodB neverL
  cases decide (r < 32) <;> cases decide (r = 37) <;> cases decide (r = 127) <;> rfl)
def ent_nodom : List PV → Option CallR := fun xs => match xs with
  | [.int .i32 r] => some ⟨0 ≤ r ∧ r ≤ 1114111, .bool (nodB r)⟩
  | _ => none
theorem ent_nodom_ok : ∀ xs c, ent_nodom xs = some c → FuncOk Tryz.prog noT 36 xs c := fun xs c h => by
  unfold ent_nodom at h
  split at h
  · injection h with h; subst h; exact ok_nodom _
  · cases h
end Go.Proofs.YtjljhkjpogjdhaaGreatDoor
end
/- host: strings.ContainsFunc by noDomain. -/
section
set_option linter.unusedVariables false
namespace Go.Proofs.YtjljhkjpogjdhaaGreatDoor
open Go Go.Proofs Go.RowKit Go.Vc

theorem TabH.below {w w' : World} (h : TabH w) (hb : Below w.heap.size w w') : TabH w' :=
  Wd.mono (self := wdH) w w' hb.os hb.tape hb.output hb.size (fun k hk => hb.block k (Nat.lt_of_lt_of_le hk (Wd.within (self := wdH) w h))) h
theorem nodom_grows (w : World) (hw : TabH w) : PredGrows Tryz.prog 36 #[] (fun x => nodB x) w := fun W x hx hb =>
  ((ok_nodom (x : Int)).walk Tryz.func36 (by kernel_rfl) rfl ⟨by omega, by omega⟩ (fits_none W) (noT_ok _) (hw.below hb) (vs := [.int .i32 x]) ⟨_, _, rfl, rfl, rfl⟩).mono fun e w' ⟨u, he, F', hb, _, _, _, hr⟩ => ⟨by rw [he]; exact congrArg _ hr, hb⟩
def cfB (l : Bs) : Bool := decide (0 ≤ Lib.idxFunc (fun x => nodB x) true ⟨l.toArray⟩)
theorem ok_cfunc (l : Bs) : FuncOk Tryz.prog noT 35 [.str l, .fn (.func 36) [] []] ⟨True, .bool (cfB l)⟩ :=
  FuncOk.of_calls Tryz.func35 (by kernel_rfl) rfl fun _ F w vs _ _ hw hx => by
    obtain ⟨_, _, rfl, r1, _, _, rfl, r2, rfl⟩ := hx
    obtain rfl := r1
    obtain ⟨us, vs, rfl, rfl, rfl⟩ := r2
    exact ⟨_, Any.strings_ContainsFunc_grows Tryz.laysCF 36 #[] (enters_of Tryz.func36 (by kernel_rfl) rfl) _ ⟨l.toArray⟩ w (nodom_grows w hw), fun G w => rfl⟩
def ent_cfunc : List PV → Option CallR := fun xs => match xs with | [.str l, .fn (.func 36) [] []] => some ⟨True, .bool (cfB l)⟩ | _ => none
theorem ent_cfunc_ok : ∀ xs c, ent_cfunc xs = some c → FuncOk Tryz.prog noT 35 xs c := fun xs c h => by
  unfold ent_cfunc at h
  split at h
  · injection h with h; subst h; exact ok_cfunc _
  · cases h
end Go.Proofs.YtjljhkjpogjdhaaGreatDoor
end
/- The function internal/stringslite.HasSuffix does what is told of it. -/
section
set_option linter.unusedVariables false
set_option linter.unusedSimpArgs false
set_option maxRecDepth 100000
set_option maxHeartbeats 4000000
namespace Go.Proofs.YtjljhkjpogjdhaaGreatDoor
open Go Go.Proofs Go.RowKit Go.Vc
def sufB (l m : Bs) : Bool := bif decide (lenZ m ≤ lenZ l) then decide (dropZ l (lenZ l - lenZ m) = m) else false

def X_lsuf : Tbl := tblX []
def H_lsuf (l m : Bs) : Loops := fun i => none
theorem X_lsuf_ok : XOk Tryz.prog noT X_lsuf := tblX_nil
theorem vc_lsuf (l m : Bs) (k : PV → Prop) : evF Tryz.prog X_lsuf noT (H_lsuf l m) 1000 Tryz.f87 [.str l, .str m] k = (
  (decide (lenZ m ≤ lenZ l) = true → inI64 (lenZ l - lenZ m)) ∧
 (decide (lenZ m ≤ lenZ l) = true → upto (lenZ l - lenZ m) (lenZ l) (lenZ l)) ∧
 k (PV.bool (bif decide (lenZ m ≤ lenZ l) then decide (dropZ l (lenZ l - lenZ m) = m) else false))) := by kernel_rfl
attribute [local irreducible] Go.Vc.evF
theorem ok_lsuf (l m : Bs) : FuncOk Tryz.prog noT 87 [.str l, .str m] ⟨l.length ≤ 1000000 ∧ m.length ≤ 1000000, .bool (sufB l m)⟩ := evF_ok (by kernel_rfl) X_lsuf_ok (H := H_lsuf l m) (fuel := 1000) Tryz.func87 (by kernel_rfl) fun hpre => (vc_lsuf l m _).mpr (by
  exact ⟨fun h => ⟨by unfold lenZ; omega, by unfold lenZ; omega⟩, fun h => ⟨by have := of_decide_eq_true h; omega, by unfold lenZ; omega, Int.le_refl _⟩, rfl⟩)
def ent_lsuf : List PV → Option CallR := fun xs => match xs with
  | [.str l, .str m] => some ⟨l.length ≤ 1000000 ∧ m.length ≤ 1000000, .bool (sufB l m)⟩
  | _ => none
theorem ent_lsuf_ok : ∀ xs c, ent_lsuf xs = some c → FuncOk Tryz.prog noT 87 xs c := fun xs c h => by
  unfold ent_lsuf at h
  split at h
  · injection h with h; subst h; exact ok_lsuf _ _
  · cases h
end Go.Proofs.YtjljhkjpogjdhaaGreatDoor
end
/- The function internal/stringslite.CutSuffix does what is told of it. -/
section
set_option linter.unusedVariables false
set_option linter.unusedSimpArgs false
set_option maxRecDepth 100000
set_option maxHeartbeats 4000000
namespace Go.Proofs.YtjljhkjpogjdhaaGreatDoor
open Go Go.Proofs Go.RowKit Go.Vc

def cutS (l m : Bs) : Bs × Bool := if sufB l m = true then (takeZ l (lenZ l - lenZ m), true) else (l, false)

def X_lcsuf : Tbl := tblX [(87, ent_lsuf)]
def H_lcsuf (l m : Bs) : Loops := fun i => none
theorem X_lcsuf_ok : XOk Tryz.prog noT X_lcsuf := tblX_cons ent_lsuf_ok (tblX_nil)
theorem vc_lcsuf (l m : Bs) (k : PV → Prop) : evF Tryz.prog X_lcsuf noT (H_lcsuf l m) 1000 Tryz.f58 [.str l, .str m] k = (
  (List.length l ≤ (1000000 : Nat) ∧ List.length m ≤ (1000000 : Nat)) ∧
 ((!sufB l m) = true → k (PV.tup [PV.str l, PV.bool false])) ∧
 ((!sufB l m) = false →
 inI64 (lenZ l - lenZ m) ∧
 upto (0 : Int) (lenZ l - lenZ m) (lenZ l) ∧
 k (PV.tup [PV.str (takeZ l (lenZ l - lenZ m)), PV.bool true]))) := by kernel_rfl
attribute [local irreducible] Go.Vc.evF
theorem ok_lcsuf (l m : Bs) : FuncOk Tryz.prog noT 58 [.str l, .str m] ⟨l.length ≤ 1000000 ∧ m.length ≤ 1000000, .tup [.str (cutS l m).1, .bool (cutS l m).2]⟩ := evF_ok (by kernel_rfl) X_lcsuf_ok (H := H_lcsuf l m) (fuel := 1000) Tryz.func58 (by kernel_rfl) fun hpre => (vc_lcsuf l m _).mpr (by
  obtain ⟨h1, h2⟩ := hpre
  refine ⟨⟨h1, h2⟩, fun h => ?_, fun h => ⟨by unfold inI64 lenZ; omega, ?_, ?_⟩⟩
  · have e : ¬ sufB l m = true := by intro e; rw [e] at h; cases h
    have : cutS l m = (l, false) := by unfold cutS; rw [if_neg e]
    rw [this]
  · have e : sufB l m = true := by cases e : sufB l m with | true => rfl | false => rw [e] at h; cases h
    unfold sufB at e
    cases e2 : decide (lenZ m ≤ lenZ l) with
    | false => rw [e2] at e; cases e
    | true => have := of_decide_eq_true e2; unfold upto; unfold lenZ at this ⊢; omega
  · have e : sufB l m = true := by cases e : sufB l m with | true => rfl | false => rw [e] at h; cases h
    have : cutS l m = (takeZ l (lenZ l - lenZ m), true) := by unfold cutS; rw [if_pos e]
    rw [this])
def ent_lcsuf : List PV → Option CallR := fun xs => match xs with
  | [.str l, .str m] => some ⟨l.length ≤ 1000000 ∧ m.length ≤ 1000000, .tup [.str (cutS l m).1, .bool (cutS l m).2]⟩
  | _ => none
theorem ent_lcsuf_ok : ∀ xs c, ent_lcsuf xs = some c → FuncOk Tryz.prog noT 58 xs c := fun xs c h => by
  unfold ent_lcsuf at h
  split at h
  · injection h with h; subst h; exact ok_lcsuf _ _
  · cases h
end Go.Proofs.YtjljhkjpogjdhaaGreatDoor
end
/- The function strings.CutSuffix does what is told of it. -/
section
set_option linter.unusedVariables false
set_option linter.unusedSimpArgs false
set_option maxRecDepth 100000
set_option maxHeartbeats 4000000
namespace Go.Proofs.YtjljhkjpogjdhaaGreatDoor
open Go Go.Proofs Go.RowKit Go.Vc

def X_csuf : Tbl := tblX [(58, ent_lcsuf)]
def H_csuf (l m : Bs) : Loops := fun i => none
theorem X_csuf_ok : XOk Tryz.prog noT X_csuf := tblX_cons ent_lcsuf_ok (tblX_nil)
theorem vc_csuf (l m : Bs) (k : PV → Prop) : evF Tryz.prog X_csuf noT (H_csuf l m) 1000 Tryz.f30 [.str l, .str m] k = (
  (List.length l ≤ (1000000 : Nat) ∧ List.length m ≤ (1000000 : Nat)) ∧
 k (PV.tup [PV.str (cutS l m).fst, PV.bool (cutS l m).snd])) := by kernel_rfl
attribute [local irreducible] Go.Vc.evF
theorem ok_csuf (l m : Bs) : FuncOk Tryz.prog noT 30 [.str l, .str m] ⟨l.length ≤ 1000000 ∧ m.length ≤ 1000000, .tup [.str (cutS l m).1, .bool (cutS l m).2]⟩ := evF_ok (by kernel_rfl) X_csuf_ok (H := H_csuf l m) (fuel := 1000) Tryz.func30 (by kernel_rfl) fun hpre => (vc_csuf l m _).mpr (by
  exact ⟨hpre, rfl⟩)
def ent_csuf : List PV → Option CallR := fun xs => match xs with
  | [.str l, .str m] => some ⟨l.length ≤ 1000000 ∧ m.length ≤ 1000000, .tup [.str (cutS l m).1, .bool (cutS l m).2]⟩
  | _ => none
theorem ent_csuf_ok : ∀ xs c, ent_csuf xs = some c → FuncOk Tryz.prog noT 30 xs c := fun xs c h => by
  unfold ent_csuf at h
  split at h
  · injection h with h; subst h; exact ok_csuf _ _
  · cases h
end Go.Proofs.YtjljhkjpogjdhaaGreatDoor
end
/- The function gossamer/host.untold does what is told of it. -/
section
set_option linter.unusedVariables false
set_option linter.unusedSimpArgs false
set_option maxRecDepth 100000
set_option maxHeartbeats 4000000
namespace Go.Proofs.YtjljhkjpogjdhaaGreatDoor
open Go Go.Proofs Go.RowKit Go.Vc

def xnL : Bs := [120, 110, 45, 45]
def dxnL : Bs := [46, 120, 110, 45, 45]
def ascC (b : UInt8) : Bool := decide (b.toNat ≤ 127)
def untB (l : Bs) : Bool := !l.all ascC || preB l xnL || hasB l dxnL
theorem all_step (p : UInt8 → Bool) (l : Bs) (j : Nat) (h : j < l.length) : (l.take (j + 1)).all p = ((l.take j).all p && p (l.getD j 0)) := by
  rw [List.take_add_one, List.getElem?_eq_getElem h, List.all_append, List.getD_eq_getElem?_getD, List.getElem?_eq_getElem h]
  simp
theorem getD_in (l : Bs) (j : Nat) (h : j < l.length) : l.getD j 0 ∈ l := by
  rw [List.getD_eq_getElem?_getD, List.getElem?_eq_getElem h]
  exact List.getElem_mem h
def UntI (l : Bs) (i : Int) : Prop := ∃ j : Nat, i = j ∧ j ≤ l.length ∧ (l.take j).all ascC = true

def X_untold : Tbl := tblX [(12, ent_prefix), (64, ent_has)]
def H_untold (l : Bs) : Loops := fun i => bif Nat.beq i 2 then some ⟨(Int), (fun s x => ((((s.put 6 (.int .i64 x)).put 3 .undef).put 7 .undef).put 12 .undef)), (fun s => s.int 6), (fun s x => let i := x; UntI l i), (fun s x => let i := x; ((l.length : Int) - i).toNat), [3, 7, 12]⟩ else none
theorem X_untold_ok : XOk Tryz.prog noT X_untold := tblX_cons ent_prefix_ok (tblX_cons ent_has_ok (tblX_nil))
theorem vc_untold (l : Bs) (k : PV → Prop) : evF Tryz.prog X_untold noT (H_untold l) 1000 Tryz.f34 [.str l] k = (
  VS.mk []
 [(nat_lit 0, PV.str l), (nat_lit 2, PV.bool false), ((3 : Nat), PV.undef), (nat_lit 5, PV.int Go.IntKind.i64 (lenZ l)),
 (nat_lit 6, PV.int Go.IntKind.i64 (0 : Int)), ((7 : Nat), PV.undef), ((12 : Nat), PV.undef)]
 [] =
 VS.mk []
 [(nat_lit 0, PV.str l), (nat_lit 2, PV.bool false), ((3 : Nat), PV.undef), (nat_lit 5, PV.int Go.IntKind.i64 (lenZ l)),
 ((6 : Nat), PV.int Go.IntKind.i64 (0 : Int)), ((7 : Nat), PV.undef), ((12 : Nat), PV.undef)]
 [] ∧
 UntI l (0 : Int) ∧
 ∀ (x : Int),
 UntI l x →
 (decide (x < lenZ l) = true →
 within x (lenZ l) ∧
 (decide ((127 : Int) < byteZ l x) = true → k (PV.bool true)) ∧
 (decide ((127 : Int) < byteZ l x) = false →
 inI64 (x + (1 : Int)) ∧
 VS.mk []
 [(nat_lit 0, PV.str l), (nat_lit 2, PV.bool false), ((3 : Nat), PV.undef),
 (nat_lit 5, PV.int Go.IntKind.i64 (lenZ l)), ((6 : Nat), PV.int Go.IntKind.i64 (x + (1 : Int))),
 ((7 : Nat), PV.undef), ((12 : Nat), PV.undef)]
 [] =
 VS.mk []
 [(nat_lit 0, PV.str l), (nat_lit 2, PV.bool false), ((3 : Nat), PV.undef),
 (nat_lit 5, PV.int Go.IntKind.i64 (lenZ l)), ((6 : Nat), PV.int Go.IntKind.i64 (x + (1 : Int))),
 ((7 : Nat), PV.undef), ((12 : Nat), PV.undef)]
 [] ∧
 UntI l (x + (1 : Int)) ∧ (↑(List.length l) - (x + (1 : Int))).toNat < (↑(List.length l) - x).toNat)) ∧
 (decide (x < lenZ l) = false →
 True ∧
 (preB l (ByteArray.mk #[(120 : UInt8), (110 : UInt8), (45 : UInt8), (45 : UInt8)]).data.toList = false →
 (List.length l).le (1000000 : Nat)) ∧
 k
 (PV.bool
 (bif preB l (ByteArray.mk #[(120 : UInt8), (110 : UInt8), (45 : UInt8), (45 : UInt8)]).data.toList then
 true
 else
 hasB l
 (ByteArray.mk #[(46 : UInt8), (120 : UInt8), (110 : UInt8), (45 : UInt8), (45 : UInt8)]).data.toList)))) := by kernel_rfl
attribute [local irreducible] Go.Vc.evF
theorem ok_untold (l : Bs) : FuncOk Tryz.prog noT 34 [.str l] ⟨l.length ≤ 1000000, .bool (untB l)⟩ := evF_ok (by kernel_rfl) X_untold_ok (H := H_untold l) (fuel := 1000) Tryz.func34 (by kernel_rfl) fun hpre => (vc_untold l _).mpr (by
  refine ⟨rfl, ⟨0, rfl, by omega, rfl⟩, fun x hx => ?_⟩
  obtain ⟨j, rfl, hj, ha⟩ := hx
  have e1 : (j : Int) + 1 = ((j + 1 : Nat) : Int) := by push_cast; rfl
  have hb : byteZ l (j : Int) = ((l.getD j 0).toNat : Int) := rfl
  rw [e1, hb]
  refine ⟨fun h => ?_, fun h => ?_⟩
  · have hjl : j < l.length := by have := of_decide_eq_true h; unfold lenZ at this; omega
    refine ⟨by unfold within lenZ; omega, fun h2 => ?_, fun h2 => ⟨by unfold inI64; omega, rfl, ⟨j + 1, rfl, by omega, ?_⟩, by omega⟩⟩
    · have hf : l.all ascC = false := by
        rw [Bool.eq_false_iff]
        intro g
        have g1 := List.all_eq_true.1 g _ (getD_in l j hjl)
        unfold ascC at g1
        have g2 := of_decide_eq_true g1
        have g3 := of_decide_eq_true h2
        omega
      show PV.bool true = PV.bool (untB l)
      unfold untB
      rw [hf]; rfl
    · have g3 := of_decide_eq_false h2
      rw [all_step ascC l j hjl, ha, Bool.true_and]
      unfold ascC
      exact decide_eq_true (by omega)
  · have hjl : j = l.length := by have := of_decide_eq_false h; unfold lenZ at this; omega
    rw [hjl, List.take_length] at ha
    refine ⟨trivial, fun _ => hpre, ?_⟩
    show PV.bool (bif preB l xnL then true else hasB l dxnL) = PV.bool (untB l)
    unfold untB
    rw [ha]
    cases preB l xnL <;> rfl)
def ent_untold : List PV → Option CallR := fun xs => match xs with
  | [.str l] => some ⟨l.length ≤ 1000000, .bool (untB l)⟩
  | _ => none
theorem ent_untold_ok : ∀ xs c, ent_untold xs = some c → FuncOk Tryz.prog noT 34 xs c := fun xs c h => by
  unfold ent_untold at h
  split at h
  · injection h with h; subst h; exact ok_untold _
  · cases h
end Go.Proofs.YtjljhkjpogjdhaaGreatDoor
end
/- The function gossamer/host.parseDomain does what is told of it. -/
section
set_option linter.unusedVariables false
set_option linter.unusedSimpArgs false
set_option maxRecDepth 100000
set_option maxHeartbeats 4000000
namespace Go.Proofs.YtjljhkjpogjdhaaGreatDoor
open Go Go.Proofs Go.RowKit Go.Vc

abbrev H5 := Int × Bs × Int × List Int × Int
def z8 : List Int := List.replicate 8 0
def noH (e : Int) : H5 := (0, [], 0, z8, e)
def domR (d : Bs) : H5 := if untB d = true then noH 9 else if d = [] ∨ cfB d = true then noH 8 else if end4 d = false then (2, d, 0, z8, 0) else if fourO d = true then (3, [], dotV d, z8, 0) else noH 8
theorem lowB_len (l : Bs) : (lowB l).length = l.length := by unfold lowB; rw [List.length_map]
theorem decP_len : ∀ l : Bs, (decP l).length ≤ l.length
  | [] => Nat.le_refl _
  | [b] => Nat.le_refl _
  | [b, h] => Nat.le_refl _
  | b :: h :: g :: t => by
    have h1 := decP_len t
    have h2 := decP_len (h :: g :: t)
    show (if b.toNat = 37 ∧ 0 ≤ hxZ h.toNat ∧ 0 ≤ hxZ g.toNat then zByte (hxZ h.toNat * 16 + hxZ g.toNat) :: decP t else b :: decP (h :: g :: t)).length ≤ _
    split
    · rw [List.length_cons]; simp only [List.length_cons]; omega
    · rw [List.length_cons]; simp only [List.length_cons] at h2 ⊢; omega

def X_pdom : Tbl := tblX [(33, ent_pdec), (32, ent_lower), (34, ent_untold), (35, ent_cfunc), (37, ent_ends), (38, ent_pfour)]
def H_pdom (l : Bs) : Loops := fun i => none
theorem X_pdom_ok : XOk Tryz.prog noT X_pdom := tblX_cons ent_pdec_ok (tblX_cons ent_lower_ok (tblX_cons ent_untold_ok (tblX_cons ent_cfunc_ok (tblX_cons ent_ends_ok (tblX_cons ent_pfour_ok (tblX_nil))))))
theorem vc_pdom (l : Bs) (k : PV → Prop) : evF Tryz.prog X_pdom noT (H_pdom l) 1000 Tryz.f14 [.str l] k = (
  (List.length l).le (1000000 : Nat) ∧
 (List.length (decP l)).le (1000000 : Nat) ∧
 (List.length (lowB (decP l))).le (1000000 : Nat) ∧
 (untB (lowB (decP l)) = true →
 k
 (PV.tup
 [PV.agg
 [PV.int Go.IntKind.i64 (0 : Int), PV.str [], PV.int Go.IntKind.u32 (0 : Int),
 PV.arr (8 : Nat) (BRow.ints Go.IntKind.u16 (List.replicate (8 : Nat) (0 : Int)))],
 PV.int Go.IntKind.i64 (9 : Int)])) ∧
 (untB (lowB (decP l)) = false →
 (decide (lowB (decP l) = (ByteArray.mk #[]).data.toList) = false → True) ∧
 ((bif decide (lowB (decP l) = (ByteArray.mk #[]).data.toList) then true
 else cfB (lowB (decP l))) =
 true →
 k
 (PV.tup
 [PV.agg
 [PV.int Go.IntKind.i64 (0 : Int), PV.str [], PV.int Go.IntKind.u32 (0 : Int),
 PV.arr (8 : Nat) (BRow.ints Go.IntKind.u16 (List.replicate (8 : Nat) (0 : Int)))],
 PV.int Go.IntKind.i64 (8 : Int)])) ∧
 ((bif decide (lowB (decP l) = (ByteArray.mk #[]).data.toList) then true
 else cfB (lowB (decP l))) =
 false →
 (List.length (lowB (decP l))).le (1000000 : Nat) ∧
 ((!end4 (lowB (decP l))) = true →
 k
 (PV.tup
 [PV.agg
 [PV.int Go.IntKind.i64 (2 : Int),
 PV.str (lowB (decP l)),
 PV.int Go.IntKind.u32 (0 : Int),
 PV.arr (8 : Nat) (BRow.ints Go.IntKind.u16 (List.replicate (8 : Nat) (0 : Int)))],
 PV.int Go.IntKind.i64 (0 : Int)])) ∧
 ((!end4 (lowB (decP l))) =
 false →
 (List.length (lowB (decP l))).le (1000000 : Nat) ∧
 ((!fourO (lowB (decP l))) =
 true →
 k
 (PV.tup
 [PV.agg
 [PV.int Go.IntKind.i64 (0 : Int), PV.str [], PV.int Go.IntKind.u32 (0 : Int),
 PV.arr (8 : Nat) (BRow.ints Go.IntKind.u16 (List.replicate (8 : Nat) (0 : Int)))],
 PV.int Go.IntKind.i64 (8 : Int)])) ∧
 ((!fourO
 (lowB (decP l))) =
 false →
 k
 (PV.tup
 [PV.agg
 [PV.int Go.IntKind.i64 (3 : Int), PV.str [],
 PV.int Go.IntKind.u32
 (dotV
 (lowB (decP l))),
 PV.arr (8 : Nat) (BRow.ints Go.IntKind.u16 (List.replicate (8 : Nat) (0 : Int)))],
 PV.int Go.IntKind.i64 (0 : Int)])))))) := by kernel_rfl
attribute [local irreducible] Go.Vc.evF
theorem ok_pdom (l : Bs) : FuncOk Tryz.prog noT 14 [.str l] ⟨l.length ≤ 1000000, .tup [.agg [.int .i64 (domR (lowB (decP l))).1, .str (domR (lowB (decP l))).2.1, .int .u32 (domR (lowB (decP l))).2.2.1, .arr 8 (.ints .u16 (domR (lowB (decP l))).2.2.2.1)], .int .i64 (domR (lowB (decP l))).2.2.2.2]⟩ := evF_ok (by kernel_rfl) X_pdom_ok (H := H_pdom l) (fuel := 1000) Tryz.func14 (by kernel_rfl) fun hpre => (vc_pdom l _).mpr (by
  have hd1 := decP_len l
  have hd2 := lowB_len (decP l)
  have hd : (lowB (decP l)).length ≤ 1000000 := by omega
  obtain ⟨d, hdd⟩ : ∃ d, lowB (decP l) = d := ⟨_, rfl⟩
  rw [hdd] at hd ⊢
  refine ⟨hpre, Nat.le_trans hd1 hpre, hd, fun h => ?_, fun h => ⟨fun _ => trivial, fun h2 => ?_, fun h2 => ?_⟩⟩
  · have : domR d = noH 9 := by unfold domR; rw [if_pos h]
    rw [this]; rfl
  · have h3 : d = [] ∨ cfB d = true := by
      cases e : decide (d = (ByteArray.mk #[]).data.toList) with
      | true => exact .inl (of_decide_eq_true e)
      | false => rw [e] at h2; exact .inr h2
    have : domR d = noH 8 := by unfold domR; rw [if_neg (by rw [h]; decide), if_pos h3]
    rw [this]; rfl
  · have h3 : ¬ (d = [] ∨ cfB d = true) := by
      cases e : decide (d = (ByteArray.mk #[]).data.toList) with
      | true => rw [e] at h2; cases h2
      | false =>
        rw [e] at h2
        have e2 : ¬ d = [] := of_decide_eq_false e
        have h4 : cfB d = false := h2
        rintro (g | g)
        · exact e2 g
        · rw [h4] at g; cases g
    have hu : ¬ untB d = true := by rw [h]; decide
    refine ⟨hd, fun h4 => ?_, fun h4 => ⟨hd, fun h5 => ?_, fun h5 => ?_⟩⟩
    · have e4 : end4 d = false := by cases e : end4 d with | false => rfl | true => rw [e] at h4; cases h4
      have : domR d = (2, d, 0, z8, 0) := by unfold domR; rw [if_neg hu, if_neg h3, if_pos e4]
      rw [this]; rfl
    · have e4 : ¬ end4 d = false := by intro e; rw [e] at h4; cases h4
      have e5 : ¬ fourO d = true := by intro e; rw [e] at h5; cases h5
      have : domR d = noH 8 := by unfold domR; rw [if_neg hu, if_neg h3, if_neg e4, if_neg e5]
      rw [this]; rfl
    · have e4 : ¬ end4 d = false := by intro e; rw [e] at h4; cases h4
      have e5 : fourO d = true := by cases e : fourO d with | true => rfl | false => rw [e] at h5; cases h5
      have : domR d = (3, [], dotV d, z8, 0) := by unfold domR; rw [if_neg hu, if_neg h3, if_neg e4, if_pos e5]
      rw [this]; rfl)
def ent_pdom : List PV → Option CallR := fun xs => match xs with
  | [.str l] => some ⟨l.length ≤ 1000000, .tup [.agg [.int .i64 (domR (lowB (decP l))).1, .str (domR (lowB (decP l))).2.1, .int .u32 (domR (lowB (decP l))).2.2.1, .arr 8 (.ints .u16 (domR (lowB (decP l))).2.2.2.1)], .int .i64 (domR (lowB (decP l))).2.2.2.2]⟩
  | _ => none
theorem ent_pdom_ok : ∀ xs c, ent_pdom xs = some c → FuncOk Tryz.prog noT 14 xs c := fun xs c h => by
  unfold ent_pdom at h
  split at h
  · injection h with h; subst h; exact ok_pdom _
  · cases h
end Go.Proofs.YtjljhkjpogjdhaaGreatDoor
end
/- The function gossamer/host.parseIPv6 does what is told of it. -/
section
set_option linter.unusedVariables false
set_option linter.unusedSimpArgs false
set_option maxRecDepth 100000
set_option maxHeartbeats 4000000
namespace Go.Proofs.YtjljhkjpogjdhaaGreatDoor
open Go Go.Proofs Go.RowKit Go.Vc

def sixR (t : Bs) : H5 := if (cutS t [93]).2 = true ∧ (six (cutS t [93]).1).2 = true then (4, [], 0, (six (cutS t [93]).1).1, 0) else noH 8
theorem cutS_len (l m : Bs) : (cutS l m).1.length ≤ l.length := by
  unfold cutS
  split
  · show (l.take _).length ≤ _
    rw [List.length_take]; omega
  · exact Nat.le_refl _

def X_pip6 : Tbl := tblX [(30, ent_csuf), (31, ent_parse6)]
def H_pip6 (l : Bs) : Loops := fun i => none
theorem X_pip6_ok : XOk Tryz.prog noT X_pip6 := tblX_cons ent_csuf_ok (tblX_cons ent_parse6_ok (tblX_nil))
theorem vc_pip6 (l : Bs) (k : PV → Prop) : evF Tryz.prog X_pip6 noT (H_pip6 l) 1000 Tryz.f13 [.str l] k = (
  upto (1 : Int) (lenZ l) (lenZ l) ∧
 ((dropZ l (1 : Int)).length ≤ (1000000 : Nat) ∧ (ByteArray.mk #[(93 : UInt8)]).data.toList.length ≤ (1000000 : Nat)) ∧
 ((cutS (dropZ l (1 : Int)) (ByteArray.mk #[(93 : UInt8)]).data.toList).snd = true →
 (List.length (cutS (dropZ l (1 : Int)) (ByteArray.mk #[(93 : UInt8)]).data.toList).fst).le (1000000 : Nat) ∧
 ((six
 (cutS (dropZ l (1 : Int)) (ByteArray.mk #[(93 : UInt8)]).data.toList).fst).snd =
 true →
 k
 (PV.tup
 [PV.agg
 [PV.int Go.IntKind.i64 (4 : Int), PV.str [], PV.int Go.IntKind.u32 (0 : Int),
 PV.arr (8 : Nat)
 (BRow.ints Go.IntKind.u16
 (six
 (cutS (dropZ l (1 : Int)) (ByteArray.mk #[(93 : UInt8)]).data.toList).fst).fst)],
 PV.int Go.IntKind.i64 (0 : Int)])) ∧
 ((six
 (cutS (dropZ l (1 : Int)) (ByteArray.mk #[(93 : UInt8)]).data.toList).fst).snd =
 false →
 k
 (PV.tup
 [PV.agg
 [PV.int Go.IntKind.i64 (0 : Int), PV.str [], PV.int Go.IntKind.u32 (0 : Int),
 PV.arr (8 : Nat) (BRow.ints Go.IntKind.u16 (List.replicate (8 : Nat) (0 : Int)))],
 PV.int Go.IntKind.i64 (8 : Int)]))) ∧
 ((cutS (dropZ l (1 : Int)) (ByteArray.mk #[(93 : UInt8)]).data.toList).snd = false →
 k
 (PV.tup
 [PV.agg
 [PV.int Go.IntKind.i64 (0 : Int), PV.str [], PV.int Go.IntKind.u32 (0 : Int),
 PV.arr (8 : Nat) (BRow.ints Go.IntKind.u16 (List.replicate (8 : Nat) (0 : Int)))],
 PV.int Go.IntKind.i64 (8 : Int)]))) := by kernel_rfl
attribute [local irreducible] Go.Vc.evF
theorem ok_pip6 (l : Bs) : FuncOk Tryz.prog noT 13 [.str l] ⟨1 ≤ l.length ∧ l.length ≤ 1000000, .tup [.agg [.int .i64 (sixR (l.drop 1)).1, .str (sixR (l.drop 1)).2.1, .int .u32 (sixR (l.drop 1)).2.2.1, .arr 8 (.ints .u16 (sixR (l.drop 1)).2.2.2.1)], .int .i64 (sixR (l.drop 1)).2.2.2.2]⟩ := evF_ok (by kernel_rfl) X_pip6_ok (H := H_pip6 l) (fuel := 1000) Tryz.func13 (by kernel_rfl) fun hpre => (vc_pip6 l _).mpr (by
  obtain ⟨h1, h2⟩ := hpre
  have hd : dropZ l 1 = l.drop 1 := rfl
  have hl : (l.drop 1).length ≤ 1000000 := by rw [List.length_drop]; omega
  have hc := cutS_len (l.drop 1) [93]
  rw [hd]
  refine ⟨⟨by omega, by unfold lenZ; omega, Int.le_refl _⟩, ⟨hl, by decide⟩, fun h => ⟨Nat.le_trans hc hl, fun h3 => ?_, fun h3 => ?_⟩, fun h => ?_⟩
  · have : sixR (l.drop 1) = (4, [], 0, (six (cutS (l.drop 1) [93]).1).1, 0) := by unfold sixR; rw [if_pos ⟨h, h3⟩]
    rw [this]
  · have : sixR (l.drop 1) = noH 8 := by unfold sixR; rw [if_neg (fun g => by have g2 : (six (cutS (l.drop 1) [93]).1).2 = false := h3; rw [g.2] at g2; cases g2)]
    rw [this]; rfl
  · have : sixR (l.drop 1) = noH 8 := by unfold sixR; rw [if_neg (fun g => by have g2 : (cutS (l.drop 1) [93]).2 = false := h; rw [g.1] at g2; cases g2)]
    rw [this]; rfl)
def ent_pip6 : List PV → Option CallR := fun xs => match xs with
  | [.str l] => some ⟨1 ≤ l.length ∧ l.length ≤ 1000000, .tup [.agg [.int .i64 (sixR (l.drop 1)).1, .str (sixR (l.drop 1)).2.1, .int .u32 (sixR (l.drop 1)).2.2.1, .arr 8 (.ints .u16 (sixR (l.drop 1)).2.2.2.1)], .int .i64 (sixR (l.drop 1)).2.2.2.2]⟩
  | _ => none
theorem ent_pip6_ok : ∀ xs c, ent_pip6 xs = some c → FuncOk Tryz.prog noT 13 xs c := fun xs c h => by
  unfold ent_pip6 at h
  split at h
  · injection h with h; subst h; exact ok_pip6 _
  · cases h
end Go.Proofs.YtjljhkjpogjdhaaGreatDoor
end
/- The function gossamer/host.Parse does what is told of it. -/
section
set_option linter.unusedVariables false
set_option linter.unusedSimpArgs false
set_option maxRecDepth 100000
set_option maxHeartbeats 4000000
namespace Go.Proofs.YtjljhkjpogjdhaaGreatDoor
open Go Go.Proofs Go.RowKit Go.Vc

def hostM (l : Bs) : H5 := if preB l [91] = true then sixR (l.drop 1) else domR (lowB (decP l))

def X_hparse : Tbl := tblX [(12, ent_prefix), (13, ent_pip6), (14, ent_pdom), (15, ent_con)]
def H_hparse (l : Bs) : Loops := fun i => none
theorem X_hparse_ok : XOk Tryz.prog noT X_hparse := tblX_cons ent_prefix_ok (tblX_cons ent_pip6_ok (tblX_cons ent_pdom_ok (tblX_cons ent_con_ok (tblX_nil))))
theorem vc_hparse (l : Bs) (k : PV → Prop) : evF Tryz.prog X_hparse noT (H_hparse l) 1000 Tryz.f6 [.str l, .bool true] k = (
  True ∧
 (preB l (ByteArray.mk #[(91 : UInt8)]).data.toList = true →
 ((1 : Nat) ≤ List.length l ∧ List.length l ≤ (1000000 : Nat)) ∧
 k
 (PV.tup
 [PV.agg
 [PV.int Go.IntKind.i64 (sixR (List.drop (1 : Nat) l)).fst,
 PV.str (sixR (List.drop (1 : Nat) l)).snd.fst,
 PV.int Go.IntKind.u32 (sixR (List.drop (1 : Nat) l)).snd.snd.fst,
 PV.arr (8 : Nat) (BRow.ints Go.IntKind.u16 (sixR (List.drop (1 : Nat) l)).snd.snd.snd.fst)],
 PV.int Go.IntKind.i64 (sixR (List.drop (1 : Nat) l)).snd.snd.snd.snd])) ∧
 (preB l (ByteArray.mk #[(91 : UInt8)]).data.toList = false →
 (true = true →
 (List.length l).le (1000000 : Nat) ∧
 k
 (PV.tup
 [PV.agg
 [PV.int Go.IntKind.i64
 (domR (lowB (decP l))).fst,
 PV.str
 (domR
 (lowB (decP l))).snd.fst,
 PV.int Go.IntKind.u32
 (domR
 (lowB (decP l))).snd.snd.fst,
 PV.arr (8 : Nat)
 (BRow.ints Go.IntKind.u16
 (domR
 (lowB (decP l))).snd.snd.snd.fst)],
 PV.int Go.IntKind.i64
 (domR
 (lowB (decP l))).snd.snd.snd.snd])) ∧
 (true = false →
 (List.length l ≤ (1000000 : Nat) ∧
 (ByteArray.mk
 #[(0 : UInt8), (9 : UInt8), (10 : UInt8), (13 : UInt8), (32 : UInt8), (35 : UInt8), (47 : UInt8), (58 : UInt8), (60 : UInt8),
 (62 : UInt8), (63 : UInt8), (64 : UInt8), (91 : UInt8), (92 : UInt8), (93 : UInt8), (94 : UInt8),
 (124 : UInt8)]).data.toList.length ≤
 (1000000 : Nat) ∧
 ∀ (b : UInt8),
 b ∈
 (ByteArray.mk
 #[(0 : UInt8), (9 : UInt8), (10 : UInt8), (13 : UInt8), (32 : UInt8), (35 : UInt8), (47 : UInt8), (58 : UInt8), (60 : UInt8),
 (62 : UInt8), (63 : UInt8), (64 : UInt8), (91 : UInt8), (92 : UInt8), (93 : UInt8), (94 : UInt8), (124 : UInt8)]).data.toList →
 b.toNat < (128 : Nat)) ∧
 (conB l
 (ByteArray.mk
 #[(0 : UInt8), (9 : UInt8), (10 : UInt8), (13 : UInt8), (32 : UInt8), (35 : UInt8), (47 : UInt8), (58 : UInt8), (60 : UInt8),
 (62 : UInt8), (63 : UInt8), (64 : UInt8), (91 : UInt8), (92 : UInt8), (93 : UInt8), (94 : UInt8), (124 : UInt8)]).data.toList =
 true →
 k
 (PV.tup
 [PV.agg
 [PV.int Go.IntKind.i64 (0 : Int), PV.str [], PV.int Go.IntKind.u32 (0 : Int),
 PV.arr (8 : Nat) (BRow.ints Go.IntKind.u16 (List.replicate (8 : Nat) (0 : Int)))],
 PV.int Go.IntKind.i64 (8 : Int)])) ∧
 (conB l
 (ByteArray.mk
 #[(0 : UInt8), (9 : UInt8), (10 : UInt8), (13 : UInt8), (32 : UInt8), (35 : UInt8), (47 : UInt8), (58 : UInt8), (60 : UInt8),
 (62 : UInt8), (63 : UInt8), (64 : UInt8), (91 : UInt8), (92 : UInt8), (93 : UInt8), (94 : UInt8), (124 : UInt8)]).data.toList =
 false →
 (decide (l = (ByteArray.mk #[]).data.toList) = true →
 k
 (PV.tup
 [PV.agg
 [PV.int Go.IntKind.i64 (1 : Int), PV.str [], PV.int Go.IntKind.u32 (0 : Int),
 PV.arr (8 : Nat) (BRow.ints Go.IntKind.u16 (List.replicate (8 : Nat) (0 : Int)))],
 PV.int Go.IntKind.i64 (0 : Int)])) ∧
 (decide (l = (ByteArray.mk #[]).data.toList) = false → False))))) := by kernel_rfl
attribute [local irreducible] Go.Vc.evF
theorem ok_hparse (l : Bs) : FuncOk Tryz.prog noT 6 [.str l, .bool true] ⟨l.length ≤ 1000000, .tup [.agg [.int .i64 (hostM l).1, .str (hostM l).2.1, .int .u32 (hostM l).2.2.1, .arr 8 (.ints .u16 (hostM l).2.2.2.1)], .int .i64 (hostM l).2.2.2.2]⟩ := evF_ok (by kernel_rfl) X_hparse_ok (H := H_hparse l) (fuel := 1000) Tryz.func6 (by kernel_rfl) fun hpre => (vc_hparse l _).mpr (by
  have e91 : (ByteArray.mk #[(91 : UInt8)]).data.toList = ([91] : Bs) := rfl
  rw [e91]
  refine ⟨trivial, fun h => ⟨⟨?_, hpre⟩, ?_⟩, fun h => ?_⟩
  · cases l with
    | nil => cases h
    | cons b r => rw [List.length_cons]; omega
  · have : hostM l = sixR (l.drop 1) := by unfold hostM; rw [if_pos h]
    rw [this]
  · have : hostM l = domR (lowB (decP l)) := by unfold hostM; rw [if_neg (by rw [h]; decide)]
    rw [this]
    exact ⟨fun _ => ⟨hpre, rfl⟩, fun h => by cases h⟩)
def ent_hparse : List PV → Option CallR := fun xs => match xs with
  | [.str l, .bool true] => some ⟨l.length ≤ 1000000, .tup [.agg [.int .i64 (hostM l).1, .str (hostM l).2.1, .int .u32 (hostM l).2.2.1, .arr 8 (.ints .u16 (hostM l).2.2.2.1)], .int .i64 (hostM l).2.2.2.2]⟩
  | _ => none
theorem ent_hparse_ok : ∀ xs c, ent_hparse xs = some c → FuncOk Tryz.prog noT 6 xs c := fun xs c h => by
  unfold ent_hparse at h
  split at h
  · injection h with h; subst h; exact ok_hparse _
  · cases h
end Go.Proofs.YtjljhkjpogjdhaaGreatDoor
end
/- host, and what the document says of it: encodings, addresses, for the calculus by values. -/
section
set_option linter.unusedVariables false
namespace Go.Proofs.YtjljhkjpogjdhaaGreatDoor
open Go Go.Proofs Go.RowKit Go.Vc
def pencS (l : Bs) : Bs := pencL 0 l
theorem ok_penc (l : Bs) : FuncOk Tryz.prog noT 16 [.str l, .int .i64 0] ⟨l.length ≤ 300000, .str (pencS l)⟩ :=
  FuncOk.of_calls Tryz.func16 (by kernel_rfl) rfl fun h F w vs _ _ hw hx => by
    obtain ⟨_, _, rfl, r1, _, _, rfl, r2, rfl⟩ := hx
    obtain rfl := r1
    obtain rfl := r2
    exact ⟨_, pencode_any l 0 w h (by decide) (by decide), fun G w => rfl⟩
def rencS (l : Bs) : Bs := rencF 0 (decL l)
theorem ok_renc (l : Bs) : FuncOk Tryz.prog noT 19 [.str l, .int .i64 0] ⟨l.length ≤ 300000, .str (rencS l)⟩ :=
  FuncOk.of_calls Tryz.func19 (by kernel_rfl) rfl fun h F w vs _ _ hw hx => by
    obtain ⟨_, _, rfl, r1, _, _, rfl, r2, rfl⟩ := hx
    obtain rfl := r1
    obtain rfl := r2
    exact ⟨_, rencodeS_any l 0 w h (by decide) (by decide), fun G w => rfl⟩
def rend4 (l : Bs) : Bool := endsB (lastP l)
theorem ok_rends (l : Bs) : FuncOk Tryz.prog noT 23 [.str l] ⟨l.length ≤ 1000000, .bool (rend4 l)⟩ :=
  FuncOk.of_calls Tryz.func23 (by kernel_rfl) rfl fun h F w vs _ _ hw hx => by
    obtain ⟨_, _, rfl, r1, rfl⟩ := hx
    obtain rfl := r1
    exact ⟨_, rEnds_any l w h, fun G w => rfl⟩
theorem ok_rfour (l : Bs) : FuncOk Tryz.prog noT 24 [.str l] ⟨l.length ≤ 1000000, .tup [.int .u32 (dotV l), .bool (fourO l)]⟩ :=
  FuncOk.of_calls Tryz.func24 (by kernel_rfl) rfl fun h F w vs _ _ hw hx => by
    obtain ⟨_, _, rfl, r1, rfl⟩ := hx
    obtain rfl := r1
    exact ⟨_, rParse_any l w h, fun G w => ⟨_, ⟨_, _, rfl, rfl, _, _, rfl, rfl, rfl⟩, rfl⟩⟩
theorem rend_is (l : Bs) : rend4 l = end4 l := by
  unfold rend4 end4 lastP
  rw [splitB_lastK]
def ent_penc : List PV → Option CallR := fun xs => match xs with | [.str l, .int .i64 0] => some ⟨l.length ≤ 300000, .str (pencS l)⟩ | _ => none
theorem ent_penc_ok : ∀ xs c, ent_penc xs = some c → FuncOk Tryz.prog noT 16 xs c := fun xs c h => by
  unfold ent_penc at h
  split at h
  · injection h with h; subst h; exact ok_penc _
  · cases h
def ent_renc : List PV → Option CallR := fun xs => match xs with | [.str l, .int .i64 0] => some ⟨l.length ≤ 300000, .str (rencS l)⟩ | _ => none
theorem ent_renc_ok : ∀ xs c, ent_renc xs = some c → FuncOk Tryz.prog noT 19 xs c := fun xs c h => by
  unfold ent_renc at h
  split at h
  · injection h with h; subst h; exact ok_renc _
  · cases h
def ent_rends : List PV → Option CallR := fun xs => match xs with | [.str l] => some ⟨l.length ≤ 1000000, .bool (rend4 l)⟩ | _ => none
theorem ent_rends_ok : ∀ xs c, ent_rends xs = some c → FuncOk Tryz.prog noT 23 xs c := fun xs c h => by
  unfold ent_rends at h
  split at h
  · injection h with h; subst h; exact ok_rends _
  · cases h
def ent_rfour : List PV → Option CallR := fun xs => match xs with | [.str l] => some ⟨l.length ≤ 1000000, .tup [.int .u32 (dotV l), .bool (fourO l)]⟩ | _ => none
theorem ent_rfour_ok : ∀ xs c, ent_rfour xs = some c → FuncOk Tryz.prog noT 24 xs c := fun xs c h => by
  unfold ent_rfour at h
  split at h
  · injection h with h; subst h; exact ok_rfour _
  · cases h
end Go.Proofs.YtjljhkjpogjdhaaGreatDoor
end
/- The function gossamer/host.Parse does what is told of it. -/
section
set_option linter.unusedVariables false
set_option linter.unusedSimpArgs false
set_option maxRecDepth 100000
set_option maxHeartbeats 4000000
namespace Go.Proofs.YtjljhkjpogjdhaaGreatDoor
open Go Go.Proofs Go.RowKit Go.Vc

def hostN (l : Bs) : H5 := if preB l [91] = true then sixR (l.drop 1) else if conB l neverL = true then noH 8 else if l = [] then (1, [], 0, z8, 0) else (5, pencS l, 0, z8, 0)

def X_hparseN : Tbl := tblX [(12, ent_prefix), (15, ent_con), (13, ent_pip6), (14, ent_pdom), (16, ent_penc)]
def H_hparseN (l : Bs) : Loops := fun i => none
theorem X_hparseN_ok : XOk Tryz.prog noT X_hparseN := tblX_cons ent_prefix_ok (tblX_cons ent_con_ok (tblX_cons ent_pip6_ok (tblX_cons ent_pdom_ok (tblX_cons ent_penc_ok (tblX_nil)))))
theorem vc_hparseN (l : Bs) (k : PV → Prop) : evF Tryz.prog X_hparseN noT (H_hparseN l) 1000 Tryz.f6 [.str l, .bool false] k = (
  True ∧
 (preB l (ByteArray.mk #[(91 : UInt8)]).data.toList = true →
 ((1 : Nat) ≤ List.length l ∧ List.length l ≤ (1000000 : Nat)) ∧
 k
 (PV.tup
 [PV.agg
 [PV.int Go.IntKind.i64 (sixR (List.drop (1 : Nat) l)).fst,
 PV.str (sixR (List.drop (1 : Nat) l)).snd.fst,
 PV.int Go.IntKind.u32 (sixR (List.drop (1 : Nat) l)).snd.snd.fst,
 PV.arr (8 : Nat) (BRow.ints Go.IntKind.u16 (sixR (List.drop (1 : Nat) l)).snd.snd.snd.fst)],
 PV.int Go.IntKind.i64 (sixR (List.drop (1 : Nat) l)).snd.snd.snd.snd])) ∧
 (preB l (ByteArray.mk #[(91 : UInt8)]).data.toList = false →
 (false = true →
 (List.length l).le (1000000 : Nat) ∧
 k
 (PV.tup
 [PV.agg
 [PV.int Go.IntKind.i64
 (domR (lowB (decP l))).fst,
 PV.str
 (domR
 (lowB (decP l))).snd.fst,
 PV.int Go.IntKind.u32
 (domR
 (lowB (decP l))).snd.snd.fst,
 PV.arr (8 : Nat)
 (BRow.ints Go.IntKind.u16
 (domR
 (lowB (decP l))).snd.snd.snd.fst)],
 PV.int Go.IntKind.i64
 (domR
 (lowB (decP l))).snd.snd.snd.snd])) ∧
 (false = false →
 (List.length l ≤ (1000000 : Nat) ∧
 (ByteArray.mk
 #[(0 : UInt8), (9 : UInt8), (10 : UInt8), (13 : UInt8), (32 : UInt8), (35 : UInt8), (47 : UInt8), (58 : UInt8), (60 : UInt8),
 (62 : UInt8), (63 : UInt8), (64 : UInt8), (91 : UInt8), (92 : UInt8), (93 : UInt8), (94 : UInt8),
 (124 : UInt8)]).data.toList.length ≤
 (1000000 : Nat) ∧
 ∀ (b : UInt8),
 b ∈
 (ByteArray.mk
 #[(0 : UInt8), (9 : UInt8), (10 : UInt8), (13 : UInt8), (32 : UInt8), (35 : UInt8), (47 : UInt8), (58 : UInt8), (60 : UInt8),
 (62 : UInt8), (63 : UInt8), (64 : UInt8), (91 : UInt8), (92 : UInt8), (93 : UInt8), (94 : UInt8), (124 : UInt8)]).data.toList →
 b.toNat < (128 : Nat)) ∧
 (conB l
 (ByteArray.mk
 #[(0 : UInt8), (9 : UInt8), (10 : UInt8), (13 : UInt8), (32 : UInt8), (35 : UInt8), (47 : UInt8), (58 : UInt8), (60 : UInt8),
 (62 : UInt8), (63 : UInt8), (64 : UInt8), (91 : UInt8), (92 : UInt8), (93 : UInt8), (94 : UInt8), (124 : UInt8)]).data.toList =
 true →
 k
 (PV.tup
 [PV.agg
 [PV.int Go.IntKind.i64 (0 : Int), PV.str [], PV.int Go.IntKind.u32 (0 : Int),
 PV.arr (8 : Nat) (BRow.ints Go.IntKind.u16 (List.replicate (8 : Nat) (0 : Int)))],
 PV.int Go.IntKind.i64 (8 : Int)])) ∧
 (conB l
 (ByteArray.mk
 #[(0 : UInt8), (9 : UInt8), (10 : UInt8), (13 : UInt8), (32 : UInt8), (35 : UInt8), (47 : UInt8), (58 : UInt8), (60 : UInt8),
 (62 : UInt8), (63 : UInt8), (64 : UInt8), (91 : UInt8), (92 : UInt8), (93 : UInt8), (94 : UInt8), (124 : UInt8)]).data.toList =
 false →
 (decide (l = (ByteArray.mk #[]).data.toList) = true →
 k
 (PV.tup
 [PV.agg
 [PV.int Go.IntKind.i64 (1 : Int), PV.str [], PV.int Go.IntKind.u32 (0 : Int),
 PV.arr (8 : Nat) (BRow.ints Go.IntKind.u16 (List.replicate (8 : Nat) (0 : Int)))],
 PV.int Go.IntKind.i64 (0 : Int)])) ∧
 (decide (l = (ByteArray.mk #[]).data.toList) = false →
 (List.length l).le (300000 : Nat) ∧
 k
 (PV.tup
 [PV.agg
 [PV.int Go.IntKind.i64 (5 : Int), PV.str (pencS l),
 PV.int Go.IntKind.u32 (0 : Int),
 PV.arr (8 : Nat) (BRow.ints Go.IntKind.u16 (List.replicate (8 : Nat) (0 : Int)))],
 PV.int Go.IntKind.i64 (0 : Int)])))))) := by kernel_rfl
attribute [local irreducible] Go.Vc.evF
theorem ok_hparseN (l : Bs) : FuncOk Tryz.prog noT 6 [.str l, .bool false] ⟨l.length ≤ 300000, .tup [.agg [.int .i64 (hostN l).1, .str (hostN l).2.1, .int .u32 (hostN l).2.2.1, .arr 8 (.ints .u16 (hostN l).2.2.2.1)], .int .i64 (hostN l).2.2.2.2]⟩ := evF_ok (by kernel_rfl) X_hparseN_ok (H := H_hparseN l) (fuel := 1000) Tryz.func6 (by kernel_rfl) fun hpre => (vc_hparseN l _).mpr (by
  have e91 : (ByteArray.mk #[(91 : UInt8)]).data.toList = ([91] : Bs) := rfl
  rw [e91]
  refine ⟨trivial, fun h => ⟨⟨?_, by omega⟩, ?_⟩, fun h => ⟨fun h => (by cases h), fun _ => ⟨⟨by omega, by decide, by decide⟩, fun h2 => ?_, fun h2 => ⟨fun h3 => ?_, fun h3 => ?_⟩⟩⟩⟩
  · cases l with
    | nil => cases h
    | cons b r => rw [List.length_cons]; omega
  · have : hostN l = sixR (l.drop 1) := by unfold hostN; rw [if_pos h]
    rw [this]
  · have h2' : conB l neverL = true := h2
    have : hostN l = noH 8 := by unfold hostN; rw [if_neg (by rw [h]; decide), if_pos h2']
    rw [this]; rfl
  · have h2' : conB l neverL = false := h2
    have h3' : l = [] := of_decide_eq_true h3
    have : hostN l = (1, [], 0, z8, 0) := by unfold hostN; rw [if_neg (by rw [h]; decide), if_neg (by rw [h2']; decide), if_pos h3']
    rw [this]; rfl
  · have h2' : conB l neverL = false := h2
    have h3' : ¬ l = [] := of_decide_eq_false h3
    have : hostN l = (5, pencS l, 0, z8, 0) := by unfold hostN; rw [if_neg (by rw [h]; decide), if_neg (by rw [h2']; decide), if_neg h3']
    rw [this]
    exact ⟨hpre, rfl⟩)
def ent_hparseN : List PV → Option CallR := fun xs => match xs with
  | [.str l, .bool false] => some ⟨l.length ≤ 300000, .tup [.agg [.int .i64 (hostN l).1, .str (hostN l).2.1, .int .u32 (hostN l).2.2.1, .arr 8 (.ints .u16 (hostN l).2.2.2.1)], .int .i64 (hostN l).2.2.2.2]⟩
  | _ => none
theorem ent_hparseN_ok : ∀ xs c, ent_hparseN xs = some c → FuncOk Tryz.prog noT 6 xs c := fun xs c h => by
  unfold ent_hparseN at h
  split at h
  · injection h with h; subst h; exact ok_hparseN _
  · cases h
end Go.Proofs.YtjljhkjpogjdhaaGreatDoor
end
/- The function gossamer/gossamerref4.Digit does what is told of it. -/
section
set_option linter.unusedVariables false
set_option linter.unusedSimpArgs false
set_option maxRecDepth 100000
set_option maxHeartbeats 4000000
namespace Go.Proofs.YtjljhkjpogjdhaaGreatDoor
open Go Go.Proofs Go.RowKit Go.Vc

def X_rdig : Tbl := tblX []
def H_rdig (z : Int) : Loops := fun i => none
theorem X_rdig_ok : XOk Tryz.prog noT X_rdig := tblX_nil
theorem vc_rdig (z : Int) (k : PV → Prop) : evF Tryz.prog X_rdig noT (H_rdig z) 1000 Tryz.f49 [.int .u8 z] k = (
  ((bif decide ((48 : Int) ≤ z) then decide (z ≤ (57 : Int)) else false) = true →
 k (PV.int Go.IntKind.i64 (Go.IntKind.i64.wrap (Go.IntKind.u8.wrap (z - (48 : Int)))))) ∧
 ((bif decide ((48 : Int) ≤ z) then decide (z ≤ (57 : Int)) else false) = false →
 ((bif decide ((97 : Int) ≤ z) then decide (z ≤ (102 : Int)) else false) = true →
 inI64 (Go.IntKind.i64.wrap (Go.IntKind.u8.wrap (z - (97 : Int))) + (10 : Int)) ∧
 k (PV.int Go.IntKind.i64 (Go.IntKind.i64.wrap (Go.IntKind.u8.wrap (z - (97 : Int))) + (10 : Int)))) ∧
 ((bif decide ((97 : Int) ≤ z) then decide (z ≤ (102 : Int)) else false) = false →
 ((bif decide ((65 : Int) ≤ z) then decide (z ≤ (70 : Int)) else false) = true →
 inI64 (Go.IntKind.i64.wrap (Go.IntKind.u8.wrap (z - (65 : Int))) + (10 : Int)) ∧
 k (PV.int Go.IntKind.i64 (Go.IntKind.i64.wrap (Go.IntKind.u8.wrap (z - (65 : Int))) + (10 : Int)))) ∧
 ((bif decide ((65 : Int) ≤ z) then decide (z ≤ (70 : Int)) else false) = false → k (PV.int Go.IntKind.i64 (-1 : Int)))))) := by kernel_rfl
attribute [local irreducible] Go.Vc.evF
theorem ok_rdig (z : Int) : FuncOk Tryz.prog noT 49 [.int .u8 z] ⟨0 ≤ z ∧ z ≤ 255, .int .i64 (hexN z)⟩ := evF_ok (by kernel_rfl) X_rdig_ok (H := H_rdig z) (fuel := 1000) Tryz.func49 (by kernel_rfl) fun hpre => (vc_rdig z _).mpr (by
  have w8 : ∀ x : Int, 0 ≤ x ∧ x ≤ 255 → IntKind.u8.wrap x = x := fun x h => IntWalk.u8_in x h
  have w64 : ∀ x : Int, -9223372036854775808 ≤ x ∧ x ≤ 9223372036854775807 → IntKind.i64.wrap x = x := fun x h => IntWalk.i64_in x h
  have leaf : ∀ a b : Int, a = b → PV.int .i64 a = PV.int .i64 b := fun a b h => by rw [h]
  simp only [andB6, falB6, Bool.and_eq_true, decide_eq_true_eq]
  refine ⟨fun h => leaf _ _ ?_, fun h => ⟨fun h2 => ?_, fun h2 => ⟨fun h3 => ?_, fun h3 => leaf _ _ ?_⟩⟩⟩
  · rw [w8 _ (by omega), w64 _ (by omega)]; unfold hexN; rw [if_pos h]
  · rw [w8 _ (by omega), w64 _ (by omega)]
    refine ⟨⟨by omega, by omega⟩, leaf _ _ ?_⟩
    unfold hexN; rw [if_neg h, if_pos h2]; omega
  · rw [w8 _ (by omega), w64 _ (by omega)]
    refine ⟨⟨by omega, by omega⟩, leaf _ _ ?_⟩
    unfold hexN; rw [if_neg h, if_neg h2, if_pos h3]; omega
  · unfold hexN; rw [if_neg h, if_neg h2, if_neg h3])
def ent_rdig : List PV → Option CallR := fun xs => match xs with
  | [.int .u8 z] => some ⟨0 ≤ z ∧ z ≤ 255, .int .i64 (hexN z)⟩
  | _ => none
theorem ent_rdig_ok : ∀ xs c, ent_rdig xs = some c → FuncOk Tryz.prog noT 49 xs c := fun xs c h => by
  unfold ent_rdig at h
  split at h
  · injection h with h; subst h; exact ok_rdig _
  · cases h
end Go.Proofs.YtjljhkjpogjdhaaGreatDoor
end
/- The function gossamer/gossamerref9.piece does what is told of it. -/
section
set_option linter.unusedVariables false
set_option linter.unusedSimpArgs false
set_option maxRecDepth 100000
set_option maxHeartbeats 4000000
namespace Go.Proofs.YtjljhkjpogjdhaaGreatDoor
open Go Go.Proofs Go.RowKit Go.Vc

def pieceV : Nat → Int → Bs → Int × Bool
  | 0, n, _ => (n, true)
  | _ + 1, n, [] => (n, true)
  | k + 1, n, c :: r => if hexN (c.toNat : Int) < 0 then (0, false) else pieceV k (n * 16 + hexN (c.toNat : Int)) r
def pieceR (l : Bs) : Int × Bool := ((pieceV 5 0 l).1, (pieceV 5 0 l).2 && decide (1 ≤ l.length ∧ l.length ≤ 4))
def PieceI (l : Bs) (n i : Int) : Prop := 0 ≤ i ∧ i ≤ 5 ∧ i ≤ l.length ∧ 0 ≤ n ∧ n < 16 ^ i.toNat ∧ pieceV (5 - i.toNat) n (l.drop i.toNat) = pieceV 5 0 l
theorem drop_one {l : Bs} {z : Int} (h0 : 0 ≤ z) (h1 : z < (l.length : Int)) : l.drop z.toNat = l.getD z.toNat 0 :: l.drop (z.toNat + 1) := by
  rw [List.drop_eq_getElem_cons (by omega), List.getD_eq_getElem?_getD, List.getElem?_eq_getElem (by omega)]
  rfl

def X_piece : Tbl := tblX [(49, ent_rdig)]
def H_piece (l : Bs) : Loops := fun i => bif Nat.beq i 3 then some ⟨(Int) × (Int), (fun s x => (((((s.put 4 (.int .i64 x.1)).put 5 (.int .i64 x.2)).put 6 .undef).put 14 .undef).put 22 .undef)), (fun s => (s.int 4, s.int 5)), (fun s x => let n := x.1; let i := x.2; PieceI l n i), (fun s x => let n := x.1; let i := x.2; (5 - i).toNat), [6, 14, 22]⟩ else none
theorem X_piece_ok : XOk Tryz.prog noT X_piece := tblX_cons ent_rdig_ok (tblX_nil)
theorem vc_piece (l : Bs) (k : PV → Prop) : evF Tryz.prog X_piece noT (H_piece l) 1000 Tryz.f82 [.str l] k = (
  VS.mk []
 [(nat_lit 0, PV.str l), (nat_lit 2, PV.int Go.IntKind.i64 (0 : Int)), (nat_lit 3, PV.bool false),
 (nat_lit 4, PV.int Go.IntKind.i64 (0 : Int)), (nat_lit 5, PV.int Go.IntKind.i64 (0 : Int)), ((6 : Nat), PV.undef),
 ((14 : Nat), PV.undef), ((22 : Nat), PV.undef)]
 [] =
 VS.mk []
 [(nat_lit 0, PV.str l), (nat_lit 2, PV.int Go.IntKind.i64 (0 : Int)), (nat_lit 3, PV.bool false),
 ((4 : Nat), PV.int Go.IntKind.i64 (0 : Int)), ((5 : Nat), PV.int Go.IntKind.i64 (0 : Int)), ((6 : Nat), PV.undef),
 ((14 : Nat), PV.undef), ((22 : Nat), PV.undef)]
 [] ∧
 PieceI l (0 : Int) (0 : Int) ∧
 ∀ (x : Int × Int),
 PieceI l x.fst x.snd →
 ((bif decide (x.snd < lenZ l) then decide (x.snd < (5 : Int)) else false) = true →
 within x.snd (lenZ l) ∧
 ((0 : Int) ≤ byteZ l x.snd ∧ byteZ l x.snd ≤ (255 : Int)) ∧
 (decide (hexN (byteZ l x.snd) < (0 : Int)) = true →
 k (PV.tup [PV.int Go.IntKind.i64 (0 : Int), PV.bool false])) ∧
 (decide (hexN (byteZ l x.snd) < (0 : Int)) = false →
 inI64 (x.fst * (16 : Int)) ∧
 inI64 (x.fst * (16 : Int) + hexN (byteZ l x.snd)) ∧
 inI64 (x.snd + (1 : Int)) ∧
 VS.mk []
 [(nat_lit 0, PV.str l), (nat_lit 2, PV.int Go.IntKind.i64 (0 : Int)), (nat_lit 3, PV.bool false),
 ((4 : Nat),
 PV.int Go.IntKind.i64 (x.fst * (16 : Int) + hexN (byteZ l x.snd))),
 ((5 : Nat), PV.int Go.IntKind.i64 (x.snd + (1 : Int))), ((6 : Nat), PV.undef), ((14 : Nat), PV.undef),
 ((22 : Nat), PV.undef)]
 [] =
 VS.mk []
 [(nat_lit 0, PV.str l), (nat_lit 2, PV.int Go.IntKind.i64 (0 : Int)), (nat_lit 3, PV.bool false),
 ((4 : Nat),
 PV.int Go.IntKind.i64 (x.fst * (16 : Int) + hexN (byteZ l x.snd))),
 ((5 : Nat), PV.int Go.IntKind.i64 (x.snd + (1 : Int))), ((6 : Nat), PV.undef), ((14 : Nat), PV.undef),
 ((22 : Nat), PV.undef)]
 [] ∧
 PieceI l (x.fst * (16 : Int) + hexN (byteZ l x.snd))
 (x.snd + (1 : Int)) ∧
 ((5 : Int) - (x.snd + (1 : Int))).toNat < ((5 : Int) - x.snd).toNat)) ∧
 ((bif decide (x.snd < lenZ l) then decide (x.snd < (5 : Int)) else false) = false →
 k
 (PV.tup
 [PV.int Go.IntKind.i64 x.fst, PV.bool (bif decide ((1 : Int) ≤ lenZ l) then decide (lenZ l ≤ (4 : Int)) else false)]))) := by kernel_rfl
attribute [local irreducible] Go.Vc.evF
theorem ok_piece (l : Bs) : FuncOk Tryz.prog noT 82 [.str l] ⟨l.length ≤ 1000000, .tup [.int .i64 (pieceR l).1, .bool (pieceR l).2]⟩ := evF_ok (by kernel_rfl) X_piece_ok (H := H_piece l) (fuel := 1000) Tryz.func82 (by kernel_rfl) fun hpre => (vc_piece l _).mpr (by
  refine ⟨rfl, ⟨by omega, by omega, by omega, by omega, by decide, rfl⟩, fun x hx => ⟨fun h => ?_, fun h => ?_⟩⟩
  · obtain ⟨n, i⟩ := x
    obtain ⟨h0, h1, h2, h3, h4, h5⟩ := hx
    dsimp only at h0 h1 h2 h3 h4 h5 h ⊢
    simp only [andB6, Bool.and_eq_true, decide_eq_true_eq] at h
    have hlt : i < (l.length : Int) := h.1
    obtain ⟨k, hk⟩ : ∃ k, 5 - i.toNat = k + 1 := ⟨4 - i.toNat, by omega⟩
    have hd := hexN_bd (byteZ l i)
    rw [hk, drop_one h0 hlt, pieceV] at h5
    have hby : byteZ l i = ((l.getD i.toNat 0).toNat : Int) := rfl
    have hp16 : n < 1048576 := Int.lt_of_lt_of_le h4 (by
      have : i.toNat = 0 ∨ i.toNat = 1 ∨ i.toNat = 2 ∨ i.toNat = 3 ∨ i.toNat = 4 := by omega
      rcases this with e | e | e | e | e <;> rw [e] <;> decide)
    refine ⟨⟨h0, hlt⟩, byteZ_range l i, fun hn => ?_, fun hn => ?_⟩
    · have hn' := of_decide_eq_true hn
      rw [if_pos (by rw [← hby]; exact hn')] at h5
      show PV.tup _ = PV.tup _
      unfold pieceR
      rw [← h5]
      rfl
    · have hn' := of_decide_eq_false hn
      rw [if_neg (by rw [← hby]; exact hn')] at h5
      refine ⟨⟨by omega, by omega⟩, ⟨by omega, by omega⟩, ⟨by omega, by omega⟩, rfl, ⟨by omega, by omega, by omega, by omega, ?_, ?_⟩, by omega⟩
      · rw [show (i + 1).toNat = i.toNat + 1 by omega, Int.pow_succ]
        omega
      · rw [show (i + 1).toNat = i.toNat + 1 by omega, show 5 - (i.toNat + 1) = k by omega, hby]
        exact h5
  · obtain ⟨n, i⟩ := x
    obtain ⟨h0, h1, h2, h3, h4, h5⟩ := hx
    dsimp only at h0 h1 h2 h3 h4 h5 h ⊢
    simp only [andB6, falB6, Bool.and_eq_true, decide_eq_true_eq] at h
    have h6 : pieceV 5 0 l = (n, true) := by
      rw [← h5]
      by_cases hi : i < (l.length : Int)
      · have : i = 5 := by have : ¬ i < 5 := fun e => h ⟨hi, e⟩; omega
        rw [this]; rfl
      · rw [List.drop_eq_nil_of_le (by omega)]
        cases hk : 5 - i.toNat <;> rfl
    show PV.tup _ = PV.tup _
    unfold pieceR
    rw [h6]
    show PV.tup [.int .i64 n, .bool (bif decide ((1 : Int) ≤ (l.length : Int)) then decide ((l.length : Int) ≤ 4) else false)] = PV.tup [.int .i64 n, .bool (true && decide (1 ≤ l.length ∧ l.length ≤ 4))]
    congr 3
    rw [andB6, Bool.true_and, ← Bool.decide_and]
    congr 2
    apply propext
    constructor <;> intro ⟨a, b⟩ <;> exact ⟨by omega, by omega⟩)
def ent_piece : List PV → Option CallR := fun xs => match xs with
  | [.str l] => some ⟨l.length ≤ 1000000, .tup [.int .i64 (pieceR l).1, .bool (pieceR l).2]⟩
  | _ => none
theorem ent_piece_ok : ∀ xs c, ent_piece xs = some c → FuncOk Tryz.prog noT 82 xs c := fun xs c h => by
  unfold ent_piece at h
  split at h
  · injection h with h; subst h; exact ok_piece _
  · cases h
end Go.Proofs.YtjljhkjpogjdhaaGreatDoor
end
/- The function gossamer/gossamerref8.Parts does what is told of it. -/
section
set_option linter.unusedVariables false
set_option linter.unusedSimpArgs false
set_option maxRecDepth 100000
set_option maxHeartbeats 4000000
namespace Go.Proofs.YtjljhkjpogjdhaaGreatDoor
open Go Go.Proofs Go.RowKit Go.Vc

def glueP (p : Bs) : List Bs → List Bs
  | [] => []
  | h :: t => (p ++ h) :: t
def PartsI (l : Bs) (z : Int) (nl : Bool) (o : List Bs) (a i : Int) : Prop := 0 ≤ a ∧ 0 ≤ i ∧ nl = decide (o = []) ∧ (o.length : Int) ≤ i ∧ ((i ≤ l.length ∧ a ≤ i ∧ splitB z l = o ++ glueP ((l.take i.toNat).drop a.toNat) (splitB z (l.drop i.toNat))) ∨ (i = l.length + 1 ∧ o = splitB z l))
theorem glue_nil (S : List Bs) : glueP [] S = S := by cases S <;> rfl
theorem splitB_some (c : Int) : ∀ l : Bs, ∃ h t, splitB c l = h :: t
  | [] => ⟨_, _, rfl⟩
  | b :: t => by
    obtain ⟨h, r, e⟩ := splitB_some c t
    by_cases hb : (b.toNat : Int) = c
    · exact ⟨_, _, splitB_yes hb t⟩
    · exact ⟨_, _, splitB_no hb e⟩

def X_parts : Tbl := tblX []
def H_parts (l : Bs) (z : Int) : Loops := fun i => bif Nat.beq i 4 then some ⟨(Bool × List Bs) × (Int) × (Int), (fun s x => (((((s.row s 5 x.1.1 (.strs x.1.2)).put 6 (.int .i64 x.2.1)).put 7 (.int .i64 x.2.2)).put 11 .undef).put 24 .undef)), (fun s => ((s.nil 5, s.strs 5), s.int 6, s.int 7)), (fun s x => let o := x.1; let a := x.2.1; let i := x.2.2; PartsI l z o.1 o.2 a i), (fun s x => let o := x.1; let a := x.2.1; let i := x.2.2; ((l.length : Int) + 1 - i).toNat), [11, 24]⟩ else none
theorem X_parts_ok : XOk Tryz.prog noT X_parts := tblX_nil
theorem vc_parts (l : Bs) (z : Int) (k : PV → Prop) : evF Tryz.prog X_parts noT (H_parts l z) 1000 Tryz.f50 [.str l, .int .u8 z] k = (
  VS.mk []
 [(nat_lit 0, PV.str l), (nat_lit 1, PV.int Go.IntKind.u8 z), (nat_lit 4, PV.row true (BRow.strs []) ((4 : Nat) + (32 : Nat))),
 (nat_lit 5, PV.row true (BRow.strs []) ((5 : Nat) + (32 : Nat))), (nat_lit 6, PV.int Go.IntKind.i64 (0 : Int)),
 (nat_lit 7, PV.int Go.IntKind.i64 (0 : Int)), ((11 : Nat), PV.undef), ((24 : Nat), PV.undef)]
 [] =
 VS.mk []
 [(nat_lit 0, PV.str l), (nat_lit 1, PV.int Go.IntKind.u8 z), (nat_lit 4, PV.row true (BRow.strs []) ((4 : Nat) + (32 : Nat))),
 ((5 : Nat), PV.row true (BRow.strs []) ((5 : Nat) + (32 : Nat))), ((6 : Nat), PV.int Go.IntKind.i64 (0 : Int)),
 ((7 : Nat), PV.int Go.IntKind.i64 (0 : Int)), ((11 : Nat), PV.undef), ((24 : Nat), PV.undef)]
 [] ∧
 PartsI l z true [] (0 : Int) (0 : Int) ∧
 ∀ (x : (Bool × List Bs) × Int × Int),
 PartsI l z x.fst.fst x.fst.snd x.snd.fst x.snd.snd →
 (decide (x.snd.snd ≤ lenZ l) = true →
 (decide (x.snd.snd = lenZ l) = false → within x.snd.snd (lenZ l)) ∧
 ((bif decide (x.snd.snd = lenZ l) then true else decide (byteZ l x.snd.snd = z)) = true →
 upto x.snd.fst x.snd.snd (lenZ l) ∧
 Int.ofNat (x.fst.snd ++ [cutZ l x.snd.fst x.snd.snd]).length ≤ maxRow ∧
 inI64 (x.snd.snd + (1 : Int)) ∧
 inI64 (x.snd.snd + (1 : Int)) ∧
 VS.mk []
 [(nat_lit 0, PV.str l), (nat_lit 1, PV.int Go.IntKind.u8 z),
 (nat_lit 4, PV.row true (BRow.strs []) ((4 : Nat) + (32 : Nat))),
 ((5 : Nat), PV.row false (BRow.strs (x.fst.snd ++ [cutZ l x.snd.fst x.snd.snd])) (nat_lit 36 + (1 : Nat))),
 ((6 : Nat), PV.int Go.IntKind.i64 (x.snd.snd + (1 : Int))),
 ((7 : Nat), PV.int Go.IntKind.i64 (x.snd.snd + (1 : Int))), ((11 : Nat), PV.undef), ((24 : Nat), PV.undef)]
 [] =
 VS.mk []
 [(nat_lit 0, PV.str l), (nat_lit 1, PV.int Go.IntKind.u8 z),
 (nat_lit 4, PV.row true (BRow.strs []) ((4 : Nat) + (32 : Nat))),
 ((5 : Nat), PV.row false (BRow.strs (x.fst.snd ++ [cutZ l x.snd.fst x.snd.snd])) ((5 : Nat) + (32 : Nat))),
 ((6 : Nat), PV.int Go.IntKind.i64 (x.snd.snd + (1 : Int))),
 ((7 : Nat), PV.int Go.IntKind.i64 (x.snd.snd + (1 : Int))), ((11 : Nat), PV.undef), ((24 : Nat), PV.undef)]
 [] ∧
 PartsI l z false (x.fst.snd ++ [cutZ l x.snd.fst x.snd.snd]) (x.snd.snd + (1 : Int))
 (x.snd.snd + (1 : Int)) ∧
 (↑(List.length l) + (1 : Int) - (x.snd.snd + (1 : Int))).toNat < (↑(List.length l) + (1 : Int) - x.snd.snd).toNat) ∧
 ((bif decide (x.snd.snd = lenZ l) then true else decide (byteZ l x.snd.snd = z)) = false →
 inI64 (x.snd.snd + (1 : Int)) ∧
 VS.mk []
 [(nat_lit 0, PV.str l), (nat_lit 1, PV.int Go.IntKind.u8 z),
 (nat_lit 4, PV.row true (BRow.strs []) ((4 : Nat) + (32 : Nat))),
 ((5 : Nat), PV.row x.fst.fst (BRow.strs x.fst.snd) ((5 : Nat) + (32 : Nat))),
 ((6 : Nat), PV.int Go.IntKind.i64 x.snd.fst), ((7 : Nat), PV.int Go.IntKind.i64 (x.snd.snd + (1 : Int))),
 ((11 : Nat), PV.undef), ((24 : Nat), PV.undef)]
 [] =
 VS.mk []
 [(nat_lit 0, PV.str l), (nat_lit 1, PV.int Go.IntKind.u8 z),
 (nat_lit 4, PV.row true (BRow.strs []) ((4 : Nat) + (32 : Nat))),
 ((5 : Nat), PV.row x.fst.fst (BRow.strs x.fst.snd) ((5 : Nat) + (32 : Nat))),
 ((6 : Nat), PV.int Go.IntKind.i64 x.snd.fst), ((7 : Nat), PV.int Go.IntKind.i64 (x.snd.snd + (1 : Int))),
 ((11 : Nat), PV.undef), ((24 : Nat), PV.undef)]
 [] ∧
 PartsI l z x.fst.fst x.fst.snd x.snd.fst (x.snd.snd + (1 : Int)) ∧
 (↑(List.length l) + (1 : Int) - (x.snd.snd + (1 : Int))).toNat < (↑(List.length l) + (1 : Int) - x.snd.snd).toNat)) ∧
 (decide (x.snd.snd ≤ lenZ l) = false → k (PV.row x.fst.fst (BRow.strs x.fst.snd) (0 : Nat)))) := by kernel_rfl
attribute [local irreducible] Go.Vc.evF
theorem ok_parts (l : Bs) (z : Int) : FuncOk Tryz.prog noT 50 [.str l, .int .u8 z] ⟨l.length ≤ 1000 ∧ 0 ≤ z ∧ z ≤ 255, .row false (.strs (splitB z l)) 0⟩ := evF_ok (by kernel_rfl) X_parts_ok (H := H_parts l z) (fuel := 1000) Tryz.func50 (by kernel_rfl) fun hpre => (vc_parts l z _).mpr (by
  refine ⟨rfl, ⟨by omega, by omega, rfl, by decide, .inl ⟨by omega, by omega, by show splitB z l = [] ++ glueP [] (splitB z l); rw [glue_nil]; rfl⟩⟩, fun x hx => ⟨fun h => ?_, fun h => ?_⟩⟩
  · obtain ⟨⟨nl, o⟩, a, i⟩ := x
    obtain ⟨h0, h1, h2, h3, h4⟩ := hx
    dsimp only at h0 h1 h2 h3 h4 h ⊢
    have hle : i ≤ (l.length : Int) := of_decide_eq_true h
    rcases h4 with ⟨-, hai, hs⟩ | ⟨h4, -⟩
    · have hcut : cutZ l a i = (l.take i.toNat).drop a.toNat := rfl
      have hne : ∀ p : Bs, false = decide (o ++ [p] = []) := fun p => by simp
      refine ⟨fun hq => ?_, fun hq => ?_, fun hq => ?_⟩
      · have : ¬ i = (l.length : Int) := of_decide_eq_false hq
        exact ⟨h1, by unfold lenZ; omega⟩
      · rw [orB6, Bool.or_eq_true, decide_eq_true_eq, decide_eq_true_eq] at hq
        refine ⟨⟨h0, hai, hle⟩, ?_, ⟨by omega, by omega⟩, ⟨by omega, by omega⟩, rfl, ⟨by omega, by omega, hne _, ?_, ?_⟩, by omega⟩
        · show ((o ++ [cutZ l a i]).length : Int) ≤ 16777216
          rw [List.length_append, List.length_singleton]; omega
        · rw [List.length_append, List.length_singleton]; omega
        · by_cases he : i = (l.length : Int)
          · refine .inr ⟨by omega, ?_⟩
            rw [hs, hcut, show l.drop i.toNat = [] from List.drop_eq_nil_of_le (by omega)]
            show _ = o ++ glueP _ [[]]
            simp [glueP]
          · have hlt : i < (l.length : Int) := by omega
            have hby : byteZ l i = z := by rcases hq with hq | hq; exact absurd hq he; exact hq
            refine .inl ⟨by omega, by omega, ?_⟩
            rw [hs, hcut, drop_one h1 hlt, splitB_yes (show ((l.getD i.toNat 0).toNat : Int) = z from hby)]
            rw [show (i + 1).toNat = i.toNat + 1 by omega, show (l.take (i.toNat + 1)).drop (i.toNat + 1) = [] from List.drop_eq_nil_of_le (by rw [List.length_take]; omega), glue_nil]
            simp [glueP]
      · rw [orB6, falB6, Bool.or_eq_true, decide_eq_true_eq, decide_eq_true_eq] at hq
        have hlt : i < (l.length : Int) := by have : ¬ i = lenZ l := fun e => hq (.inl e); unfold lenZ at this; omega
        refine ⟨⟨by omega, by omega⟩, rfl, ⟨by omega, by omega, h2, by omega, .inl ⟨by omega, by omega, ?_⟩⟩, by omega⟩
        obtain ⟨hh, tt, e⟩ := splitB_some z (l.drop (i.toNat + 1))
        rw [hs, drop_one h1 hlt, splitB_no (fun e2 => hq (.inr e2)) e, show (i + 1).toNat = i.toNat + 1 by omega, e]
        have ht : (l.take (i.toNat + 1)).drop a.toNat = (l.take i.toNat).drop a.toNat ++ [l.getD i.toNat 0] := by
          rw [List.take_add_one, List.getElem?_eq_getElem (by omega), List.drop_append_of_le_length (by rw [List.length_take]; omega), List.getD_eq_getElem?_getD, List.getElem?_eq_getElem (by omega)]
          rfl
        rw [ht]
        simp [glueP]
    · omega
  · obtain ⟨⟨nl, o⟩, a, i⟩ := x
    obtain ⟨h0, h1, h2, h3, h4⟩ := hx
    dsimp only at h0 h1 h2 h3 h4 h ⊢
    have hgt : ¬ i ≤ (l.length : Int) := of_decide_eq_false h
    rcases h4 with ⟨h4, -⟩ | ⟨-, h4⟩
    · omega
    · obtain ⟨hh, tt, e⟩ := splitB_some z l
      have hn : nl = false := by rw [h2, h4, e]; rfl
      show PV.row _ _ _ = PV.row _ _ _
      rw [hn, h4])
def ent_parts : List PV → Option CallR := fun xs => match xs with
  | [.str l, .int .u8 z] => some ⟨l.length ≤ 1000 ∧ 0 ≤ z ∧ z ≤ 255, .row false (.strs (splitB z l)) 0⟩
  | _ => none
theorem ent_parts_ok : ∀ xs c, ent_parts xs = some c → FuncOk Tryz.prog noT 50 xs c := fun xs c h => by
  unfold ent_parts at h
  split at h
  · injection h with h; subst h; exact ok_parts _ _
  · cases h
end Go.Proofs.YtjljhkjpogjdhaaGreatDoor
end
/- The function gossamer/gossamerref9.four does what is told of it. -/
section
set_option linter.unusedVariables false
set_option linter.unusedSimpArgs false
set_option maxRecDepth 100000
set_option maxHeartbeats 4000000
namespace Go.Proofs.YtjljhkjpogjdhaaGreatDoor
open Go Go.Proofs Go.RowKit Go.Vc

def digB10 (c : UInt8) : Bool := decide (48 ≤ c.toNat ∧ c.toNat ≤ 57)
def decVal (p : Bs) : Int := p.foldl (fun v c => v * 10 + ((c.toNat : Int) - 48)) 0
def shapeP (p : Bs) : Bool := decide (1 ≤ p.length ∧ p.length ≤ 3) && !(decide (1 < p.length) && decide (byteZ p 0 = 48))
def goodP (p : Bs) : Bool := shapeP p && p.all digB10 && decide (decVal p ≤ 255)
def fourR (l : Bs) : Int × Int × Bool := match splitB 46 l with
  | [a, b, c, d] => if (goodP a && goodP b && goodP c && goodP d) = true then (decVal a * 256 + decVal b, decVal c * 256 + decVal d, true) else (0, 0, false)
  | _ => (0, 0, false)
def FourI (L : List Bs) (n : List Int) (i : Int) : Prop := 0 ≤ i ∧ i ≤ 4 ∧ L.length = 4 ∧ n = (L.take i.toNat).map decVal ++ List.replicate (4 - i.toNat) 0 ∧ ∀ p ∈ L.take i.toNat, goodP p = true
def FourK (L : List Bs) (i : Int) (n : List Int) (k : Int) : Prop := 0 ≤ k ∧ k ≤ (strZ L i).length ∧ shapeP (strZ L i) = true ∧ n = (L.take i.toNat).map decVal ++ decVal ((strZ L i).take k.toNat) :: List.replicate (3 - i.toNat) 0 ∧ ∀ c ∈ (strZ L i).take k.toNat, digB10 c = true
theorem decVal_snoc (q : Bs) (c : UInt8) : decVal (q ++ [c]) = decVal q * 10 + ((c.toNat : Int) - 48) := by unfold decVal; rw [List.foldl_append]; rfl
theorem decVal_bd : ∀ (n : Nat) (p : Bs), p.length = n → (∀ c ∈ p, digB10 c = true) → 0 ≤ decVal p ∧ decVal p < 10 ^ n
  | 0, p, hn, _ => by rw [List.length_eq_zero_iff.1 hn]; exact ⟨by decide, by decide⟩
  | n + 1, p, hn, h => by
    rcases List.eq_nil_or_concat p with rfl | ⟨q, c, rfl⟩
    · simp at hn
    · rw [List.concat_eq_append] at h hn ⊢
      obtain ⟨a, b⟩ := decVal_bd n q (by simpa using hn) (fun d hd => h d (by simp [hd]))
      have hc := of_decide_eq_true (h c (by simp))
      rw [decVal_snoc, Int.pow_succ]
      omega
theorem four_bad {l : Bs} (h4 : (splitB 46 l).length = 4) {p : Bs} (hp : p ∈ splitB 46 l) (hg : ¬ goodP p = true) : fourR l = (0, 0, false) := by
  unfold fourR
  match hq : splitB 46 l, h4, hp with
  | [a, b, c, d], _, hp =>
    dsimp only
    rw [if_neg]
    intro h
    simp only [Bool.and_eq_true] at h
    simp only [List.mem_cons, List.not_mem_nil, or_false] at hp
    rcases hp with rfl | rfl | rfl | rfl
    · exact hg h.1.1.1
    · exact hg h.1.1.2
    · exact hg h.1.2
    · exact hg h.2
theorem four_len {l : Bs} (h4 : ¬ (splitB 46 l).length = 4) : fourR l = (0, 0, false) := by
  unfold fourR
  split
  · rename_i h; rw [h] at h4; exact absurd rfl h4
  · rfl
theorem or_i64 (a b : Int) (ha0 : 0 ≤ a) (ha : a ≤ 255) (hb0 : 0 ≤ b) (hb : b ≤ 255) : bitsZ BinOp.or IntKind.i64 (shlZ IntKind.i64 a 8) b = a * 256 + b := by
  obtain ⟨x, rfl⟩ := Int.eq_ofNat_of_zero_le ha0
  obtain ⟨y, rfl⟩ := Int.eq_ofNat_of_zero_le hb0
  have e1 : shlZ IntKind.i64 (x : Int) 8 = ((x * 256 : Nat) : Int) := by
    unfold shlZ
    rw [show (2 : Int) ^ min (Int.toNat 8) IntKind.i64.bits = 256 by decide]
    exact (IntWalk.i64_in _ (by omega)).trans (by omega)
  rw [e1, show bitsZ BinOp.or IntKind.i64 ((x * 256 : Nat) : Int) (y : Int) = IntKind.i64.wrap ((BitVec.ofInt 64 ((x * 256 : Nat) : Int) ||| BitVec.ofInt 64 (y : Int)).toNat : Int) from rfl, BitVec.ofInt_natCast, BitVec.ofInt_natCast, BitVec.toNat_or, BitVec.toNat_ofNat, BitVec.toNat_ofNat, Nat.mod_eq_of_lt (by omega), Nat.mod_eq_of_lt (by omega)]
  have e2 : x * 256 ||| y = x * 256 + y := by
    have := Nat.shiftLeft_add_eq_or_of_lt (i := 8) (b := y) (by omega) x
    rw [Nat.shiftLeft_eq] at this
    exact this.symm
  rw [e2, IntWalk.i64_in _ (by omega)]
  omega

def X_four : Tbl := tblX [(50, ent_parts)]
def H_four (l : Bs) : Loops := fun i => bif Nat.beq i 6 then some ⟨(List Int) × (Int), (fun s x => ((((((((VS.mk s.loc s.env (setN 38 (.arr 4 (.ints .i64 x.1)) s.lh)).put 7 (.int .i64 x.2)).put 8 .undef).put 15 .undef).put 47 .undef).put 54 .undef).put 72 .undef).put 91 .undef)), (fun s => (VS.ints (VS.mk [] s.lh []) 38, s.int 7)), (fun s x => let n := x.1; let i := x.2; FourI (s.strs 5) n i), (fun s x => let n := x.1; let i := x.2; (4 - i).toNat), [8, 15, 47, 54, 72, 91]⟩ else bif Nat.beq i 11 then some ⟨(List Int) × (Int), (fun s x => ((((VS.mk s.loc s.env (setN 38 (.arr 4 (.ints .i64 x.1)) s.lh)).put 8 (.int .i64 x.2)).put 54 .undef).put 72 .undef)), (fun s => (VS.ints (VS.mk [] s.lh []) 38, s.int 8)), (fun s x => let n := x.1; let k := x.2; FourK (s.strs 5) (s.int 7) n k), (fun s x => let n := x.1; let k := x.2; ((strZ (s.strs 5) (s.int 7)).length + 1 - k : Int).toNat), [54, 72]⟩ else none
theorem X_four_ok : XOk Tryz.prog noT X_four := tblX_cons ent_parts_ok (tblX_nil)
theorem vc_four (l : Bs) (k : PV → Prop) : evF Tryz.prog X_four noT (H_four l) 1000 Tryz.f81 [.str l] k = (
  (List.length l ≤ (1000 : Nat) ∧ (0 : Int) ≤ (46 : Int) ∧ (46 : Int) ≤ (255 : Int)) ∧
 ((!decide (Int.ofNat (splitB (46 : Int) l).length = (4 : Int))) = true →
 k (PV.tup [PV.int Go.IntKind.i64 (0 : Int), PV.int Go.IntKind.i64 (0 : Int), PV.bool false])) ∧
 ((!decide (Int.ofNat (splitB (46 : Int) l).length = (4 : Int))) = false →
 VS.mk []
 [(nat_lit 0, PV.str l), (nat_lit 2, PV.int Go.IntKind.i64 (0 : Int)), (nat_lit 3, PV.int Go.IntKind.i64 (0 : Int)),
 (nat_lit 4, PV.bool false),
 (nat_lit 5, PV.row false (BRow.strs (splitB (46 : Int) l)) (0 : Nat)),
 (nat_lit 6, PV.ptr ((6 : Nat) + (32 : Nat)) (0 : Nat)), (nat_lit 7, PV.int Go.IntKind.i64 (0 : Int)), ((8 : Nat), PV.undef),
 (nat_lit 13, PV.bool !decide (Int.ofNat (splitB (46 : Int) l).length = (4 : Int))),
 ((15 : Nat), PV.undef), ((47 : Nat), PV.undef), ((54 : Nat), PV.undef), ((72 : Nat), PV.undef),
 ((91 : Nat), PV.undef)]
 [((6 : Nat) + (32 : Nat), PV.arr (4 : Nat) (BRow.ints Go.IntKind.i64 (List.replicate (4 : Nat) (0 : Int))))] =
 VS.mk []
 [(nat_lit 0, PV.str l), (nat_lit 2, PV.int Go.IntKind.i64 (0 : Int)), (nat_lit 3, PV.int Go.IntKind.i64 (0 : Int)),
 (nat_lit 4, PV.bool false),
 (nat_lit 5, PV.row false (BRow.strs (splitB (46 : Int) l)) (0 : Nat)),
 (nat_lit 6, PV.ptr ((6 : Nat) + (32 : Nat)) (0 : Nat)), ((7 : Nat), PV.int Go.IntKind.i64 (0 : Int)), ((8 : Nat), PV.undef),
 (nat_lit 13, PV.bool !decide (Int.ofNat (splitB (46 : Int) l).length = (4 : Int))),
 ((15 : Nat), PV.undef), ((47 : Nat), PV.undef), ((54 : Nat), PV.undef), ((72 : Nat), PV.undef),
 ((91 : Nat), PV.undef)]
 [((38 : Nat), PV.arr (4 : Nat) (BRow.ints Go.IntKind.i64 (List.replicate (4 : Nat) (0 : Int))))] ∧
 FourI (splitB (46 : Int) l) (List.replicate (4 : Nat) (0 : Int)) (0 : Int) ∧
 ∀ (x : List Int × Int),
 FourI (splitB (46 : Int) l) x.fst x.snd →
 (decide (x.snd < (4 : Int)) = true →
 within x.snd (Int.ofNat (splitB (46 : Int) l).length) ∧
 (decide (lenZ (strZ (splitB (46 : Int) l) x.snd) < (1 : Int)) = false →
 within x.snd (Int.ofNat (splitB (46 : Int) l).length)) ∧
 ((bif decide (lenZ (strZ (splitB (46 : Int) l) x.snd) < (1 : Int)) then true
 else decide ((3 : Int) < lenZ (strZ (splitB (46 : Int) l) x.snd))) =
 false →
 within x.snd (Int.ofNat (splitB (46 : Int) l).length)) ∧
 ((bif decide (lenZ (strZ (splitB (46 : Int) l) x.snd) < (1 : Int)) then true
 else decide ((3 : Int) < lenZ (strZ (splitB (46 : Int) l) x.snd))) =
 false →
 decide ((1 : Int) < lenZ (strZ (splitB (46 : Int) l) x.snd)) = true →
 within x.snd (Int.ofNat (splitB (46 : Int) l).length)) ∧
 ((bif decide (lenZ (strZ (splitB (46 : Int) l) x.snd) < (1 : Int)) then true
 else decide ((3 : Int) < lenZ (strZ (splitB (46 : Int) l) x.snd))) =
 false →
 decide ((1 : Int) < lenZ (strZ (splitB (46 : Int) l) x.snd)) = true →
 within (0 : Int) (lenZ (strZ (splitB (46 : Int) l) x.snd))) ∧
 ((bif
 bif decide (lenZ (strZ (splitB (46 : Int) l) x.snd) < (1 : Int)) then true
 else decide ((3 : Int) < lenZ (strZ (splitB (46 : Int) l) x.snd)) then
 true
 else
 bif decide ((1 : Int) < lenZ (strZ (splitB (46 : Int) l) x.snd)) then
 decide (byteZ (strZ (splitB (46 : Int) l) x.snd) (0 : Int) = (48 : Int))
 else false) =
 true →
 k (PV.tup [PV.int Go.IntKind.i64 (0 : Int), PV.int Go.IntKind.i64 (0 : Int), PV.bool false])) ∧
 ((bif
 bif decide (lenZ (strZ (splitB (46 : Int) l) x.snd) < (1 : Int)) then true
 else decide ((3 : Int) < lenZ (strZ (splitB (46 : Int) l) x.snd)) then
 true
 else
 bif decide ((1 : Int) < lenZ (strZ (splitB (46 : Int) l) x.snd)) then
 decide (byteZ (strZ (splitB (46 : Int) l) x.snd) (0 : Int) = (48 : Int))
 else false) =
 false →
 VS.mk []
 [(nat_lit 0, PV.str l), (nat_lit 2, PV.int Go.IntKind.i64 (0 : Int)),
 (nat_lit 3, PV.int Go.IntKind.i64 (0 : Int)), (nat_lit 4, PV.bool false),
 (nat_lit 5, PV.row false (BRow.strs (splitB (46 : Int) l)) (0 : Nat)),
 (nat_lit 6, PV.ptr ((6 : Nat) + (32 : Nat)) (0 : Nat)), ((7 : Nat), PV.int Go.IntKind.i64 x.snd),
 ((8 : Nat), PV.int Go.IntKind.i64 (0 : Int)),
 (nat_lit 13,
 PV.bool !decide (Int.ofNat (splitB (46 : Int) l).length = (4 : Int))),
 ((15 : Nat), PV.bool (decide (x.snd < (4 : Int)))),
 ((47 : Nat),
 PV.bool
 (bif
 bif
 decide
 (lenZ (strZ (splitB (46 : Int) l) x.snd) < (1 : Int)) then
 true
 else
 decide
 ((3 : Int) < lenZ (strZ (splitB (46 : Int) l) x.snd)) then
 true
 else
 bif
 decide
 ((1 : Int) < lenZ (strZ (splitB (46 : Int) l) x.snd)) then
 decide
 (byteZ (strZ (splitB (46 : Int) l) x.snd) (0 : Int) =
 (48 : Int))
 else false)),
 ((54 : Nat), PV.undef), ((72 : Nat), PV.undef), ((91 : Nat), PV.undef)]
 [((38 : Nat), PV.arr (4 : Nat) (BRow.ints Go.IntKind.i64 x.fst))] =
 VS.mk []
 [(nat_lit 0, PV.str l), (nat_lit 2, PV.int Go.IntKind.i64 (0 : Int)),
 (nat_lit 3, PV.int Go.IntKind.i64 (0 : Int)), (nat_lit 4, PV.bool false),
 (nat_lit 5, PV.row false (BRow.strs (splitB (46 : Int) l)) (0 : Nat)),
 (nat_lit 6, PV.ptr ((6 : Nat) + (32 : Nat)) (0 : Nat)), ((7 : Nat), PV.int Go.IntKind.i64 x.snd),
 ((8 : Nat), PV.int Go.IntKind.i64 (0 : Int)),
 (nat_lit 13,
 PV.bool !decide (Int.ofNat (splitB (46 : Int) l).length = (4 : Int))),
 ((15 : Nat), PV.bool (decide (x.snd < (4 : Int)))),
 ((47 : Nat),
 PV.bool
 (bif
 bif
 decide
 (lenZ (strZ (splitB (46 : Int) l) x.snd) < (1 : Int)) then
 true
 else
 decide
 ((3 : Int) < lenZ (strZ (splitB (46 : Int) l) x.snd)) then
 true
 else
 bif
 decide
 ((1 : Int) < lenZ (strZ (splitB (46 : Int) l) x.snd)) then
 decide
 (byteZ (strZ (splitB (46 : Int) l) x.snd) (0 : Int) =
 (48 : Int))
 else false)),
 ((54 : Nat), PV.undef), ((72 : Nat), PV.undef), ((91 : Nat), PV.undef)]
 [((38 : Nat), PV.arr (4 : Nat) (BRow.ints Go.IntKind.i64 x.fst))] ∧
 FourK (splitB (46 : Int) l) x.snd x.fst (0 : Int) ∧
 ∀ (x_1 : List Int × Int),
 FourK (splitB (46 : Int) l) x.snd x_1.fst
 x_1.snd →
 within x.snd (Int.ofNat (splitB (46 : Int) l).length) ∧
 (decide (x_1.snd < lenZ (strZ (splitB (46 : Int) l) x.snd)) = true →
 within x.snd (Int.ofNat (splitB (46 : Int) l).length) ∧
 within x_1.snd (lenZ (strZ (splitB (46 : Int) l) x.snd)) ∧
 (decide
 (byteZ (strZ (splitB (46 : Int) l) x.snd) x_1.snd <
 (48 : Int)) =
 false →
 within x.snd (Int.ofNat (splitB (46 : Int) l).length)) ∧
 (decide
 (byteZ (strZ (splitB (46 : Int) l) x.snd) x_1.snd <
 (48 : Int)) =
 false →
 within x_1.snd
 (lenZ (strZ (splitB (46 : Int) l) x.snd))) ∧
 ((bif
 decide
 (byteZ (strZ (splitB (46 : Int) l) x.snd)
 x_1.snd <
 (48 : Int)) then
 true
 else
 decide
 ((57 : Int) <
 byteZ (strZ (splitB (46 : Int) l) x.snd)
 x_1.snd)) =
 true →
 k
 (PV.tup
 [PV.int Go.IntKind.i64 (0 : Int), PV.int Go.IntKind.i64 (0 : Int),
 PV.bool false])) ∧
 ((bif
 decide
 (byteZ (strZ (splitB (46 : Int) l) x.snd)
 x_1.snd <
 (48 : Int)) then
 true
 else
 decide
 ((57 : Int) <
 byteZ (strZ (splitB (46 : Int) l) x.snd)
 x_1.snd)) =
 false →
 within x.snd ↑(4 : Nat) ∧
 within x.snd ↑(4 : Nat) ∧
 inI64 (intZ x_1.fst x.snd * (10 : Int)) ∧
 within x.snd
 (Int.ofNat (splitB (46 : Int) l).length) ∧
 within x_1.snd
 (lenZ
 (strZ (splitB (46 : Int) l) x.snd)) ∧
 inI64
 (intZ x_1.fst x.snd * (10 : Int) +
 Go.IntKind.i64.wrap
 (Go.IntKind.u8.wrap
 (byteZ
 (strZ (splitB (46 : Int) l) x.snd)
 x_1.snd -
 (48 : Int)))) ∧
 within x.snd ↑(4 : Nat) ∧
 (within x.snd ↑(4 : Nat) ∧ True) ∧
 inI64 (x_1.snd + (1 : Int)) ∧
 VS.mk []
 [(nat_lit 0, PV.str l),
 (nat_lit 2, PV.int Go.IntKind.i64 (0 : Int)),
 (nat_lit 3, PV.int Go.IntKind.i64 (0 : Int)),
 (nat_lit 4, PV.bool false),
 (nat_lit 5,
 PV.row false
 (BRow.strs
 (splitB (46 : Int) l))
 (0 : Nat)),
 (nat_lit 6, PV.ptr ((6 : Nat) + (32 : Nat)) (0 : Nat)),
 ((7 : Nat), PV.int Go.IntKind.i64 x.snd),
 ((8 : Nat), PV.int Go.IntKind.i64 (x_1.snd + (1 : Int))),
 (nat_lit 13,
 PV.bool
 !decide
 (Int.ofNat
 (splitB (46 : Int)
 l).length =
 (4 : Int))),
 ((15 : Nat), PV.bool (decide (x.snd < (4 : Int)))),
 ((47 : Nat),
 PV.bool
 (bif
 bif
 decide
 (lenZ
 (strZ
 (splitB (46 : Int)
 l)
 x.snd) <
 (1 : Int)) then
 true
 else
 decide
 ((3 : Int) <
 lenZ
 (strZ
 (splitB (46 : Int) l)
 x.snd)) then
 true
 else
 bif
 decide
 ((1 : Int) <
 lenZ
 (strZ
 (splitB (46 : Int) l)
 x.snd)) then
 decide
 (byteZ
 (strZ
 (splitB (46 : Int) l)
 x.snd)
 (0 : Int) =
 (48 : Int))
 else false)),
 ((54 : Nat), PV.undef), ((72 : Nat), PV.undef),
 ((91 : Nat), PV.undef)]
 [((6 : Nat) + (32 : Nat),
 PV.arr (4 : Nat)
 (BRow.ints Go.IntKind.i64
 (setZ x_1.fst x.snd
 (intZ x_1.fst x.snd * (10 : Int) +
 Go.IntKind.i64.wrap
 (Go.IntKind.u8.wrap
 (byteZ
 (strZ
 (splitB (46 : Int)
 l)
 x.snd)
 x_1.snd -
 (48 : Int)))))))] =
 VS.mk []
 [(nat_lit 0, PV.str l),
 (nat_lit 2, PV.int Go.IntKind.i64 (0 : Int)),
 (nat_lit 3, PV.int Go.IntKind.i64 (0 : Int)),
 (nat_lit 4, PV.bool false),
 (nat_lit 5,
 PV.row false
 (BRow.strs
 (splitB (46 : Int) l))
 (0 : Nat)),
 (nat_lit 6, PV.ptr ((6 : Nat) + (32 : Nat)) (0 : Nat)),
 ((7 : Nat), PV.int Go.IntKind.i64 x.snd),
 ((8 : Nat), PV.int Go.IntKind.i64 (x_1.snd + (1 : Int))),
 (nat_lit 13,
 PV.bool
 !decide
 (Int.ofNat
 (splitB (46 : Int)
 l).length =
 (4 : Int))),
 ((15 : Nat), PV.bool (decide (x.snd < (4 : Int)))),
 ((47 : Nat),
 PV.bool
 (bif
 bif
 decide
 (lenZ
 (strZ
 (splitB (46 : Int)
 l)
 x.snd) <
 (1 : Int)) then
 true
 else
 decide
 ((3 : Int) <
 lenZ
 (strZ
 (splitB (46 : Int) l)
 x.snd)) then
 true
 else
 bif
 decide
 ((1 : Int) <
 lenZ
 (strZ
 (splitB (46 : Int) l)
 x.snd)) then
 decide
 (byteZ
 (strZ
 (splitB (46 : Int) l)
 x.snd)
 (0 : Int) =
 (48 : Int))
 else false)),
 ((54 : Nat), PV.undef), ((72 : Nat), PV.undef),
 ((91 : Nat), PV.undef)]
 [((38 : Nat),
 PV.arr (4 : Nat)
 (BRow.ints Go.IntKind.i64
 (setZ x_1.fst x.snd
 (intZ x_1.fst x.snd * (10 : Int) +
 Go.IntKind.i64.wrap
 (Go.IntKind.u8.wrap
 (byteZ
 (strZ
 (splitB (46 : Int)
 l)
 x.snd)
 x_1.snd -
 (48 : Int)))))))] ∧
 FourK
 (splitB (46 : Int) l) x.snd
 (setZ x_1.fst x.snd
 (intZ x_1.fst x.snd * (10 : Int) +
 Go.IntKind.i64.wrap
 (Go.IntKind.u8.wrap
 (byteZ
 (strZ
 (splitB (46 : Int) l) x.snd)
 x_1.snd -
 (48 : Int)))))
 (x_1.snd + (1 : Int)) ∧
 (↑(List.length
 (strZ
 (splitB (46 : Int) l)
 x.snd)) +
 (1 : Int) -
 (x_1.snd + (1 : Int))).toNat <
 (↑(List.length
 (strZ
 (splitB (46 : Int) l)
 x.snd)) +
 (1 : Int) -
 x_1.snd).toNat)) ∧
 (decide (x_1.snd < lenZ (strZ (splitB (46 : Int) l) x.snd)) =
 false →
 within x.snd ↑(4 : Nat) ∧
 within x.snd ↑(4 : Nat) ∧
 (decide ((255 : Int) < intZ x_1.fst x.snd) = true →
 k
 (PV.tup
 [PV.int Go.IntKind.i64 (0 : Int), PV.int Go.IntKind.i64 (0 : Int),
 PV.bool false])) ∧
 (decide ((255 : Int) < intZ x_1.fst x.snd) = false →
 inI64 (x.snd + (1 : Int)) ∧
 VS.mk []
 [(nat_lit 0, PV.str l), (nat_lit 2, PV.int Go.IntKind.i64 (0 : Int)),
 (nat_lit 3, PV.int Go.IntKind.i64 (0 : Int)), (nat_lit 4, PV.bool false),
 (nat_lit 5,
 PV.row false (BRow.strs (splitB (46 : Int) l))
 (0 : Nat)),
 (nat_lit 6, PV.ptr ((6 : Nat) + (32 : Nat)) (0 : Nat)),
 ((7 : Nat), PV.int Go.IntKind.i64 (x.snd + (1 : Int))), ((8 : Nat), PV.undef),
 (nat_lit 13,
 PV.bool
 !decide
 (Int.ofNat (splitB (46 : Int) l).length =
 (4 : Int))),
 ((15 : Nat), PV.undef), ((47 : Nat), PV.undef), ((54 : Nat), PV.undef),
 ((72 : Nat), PV.undef), ((91 : Nat), PV.undef)]
 [((38 : Nat), PV.arr (4 : Nat) (BRow.ints Go.IntKind.i64 x_1.fst))] =
 VS.mk []
 [(nat_lit 0, PV.str l), (nat_lit 2, PV.int Go.IntKind.i64 (0 : Int)),
 (nat_lit 3, PV.int Go.IntKind.i64 (0 : Int)), (nat_lit 4, PV.bool false),
 (nat_lit 5,
 PV.row false (BRow.strs (splitB (46 : Int) l))
 (0 : Nat)),
 (nat_lit 6, PV.ptr ((6 : Nat) + (32 : Nat)) (0 : Nat)),
 ((7 : Nat), PV.int Go.IntKind.i64 (x.snd + (1 : Int))), ((8 : Nat), PV.undef),
 (nat_lit 13,
 PV.bool
 !decide
 (Int.ofNat (splitB (46 : Int) l).length =
 (4 : Int))),
 ((15 : Nat), PV.undef), ((47 : Nat), PV.undef), ((54 : Nat), PV.undef),
 ((72 : Nat), PV.undef), ((91 : Nat), PV.undef)]
 [((38 : Nat), PV.arr (4 : Nat) (BRow.ints Go.IntKind.i64 x_1.fst))] ∧
 FourI (splitB (46 : Int) l)
 x_1.fst (x.snd + (1 : Int)) ∧
 ((4 : Int) - (x.snd + (1 : Int))).toNat < ((4 : Int) - x.snd).toNat)))) ∧
 (decide (x.snd < (4 : Int)) = false →
 within (0 : Int) ↑(4 : Nat) ∧
 within (0 : Int) ↑(4 : Nat) ∧
 (0 : Int) ≤ (8 : Int) ∧
 within (1 : Int) ↑(4 : Nat) ∧
 within (1 : Int) ↑(4 : Nat) ∧
 within (2 : Int) ↑(4 : Nat) ∧
 within (2 : Int) ↑(4 : Nat) ∧
 (0 : Int) ≤ (8 : Int) ∧
 within (3 : Int) ↑(4 : Nat) ∧
 within (3 : Int) ↑(4 : Nat) ∧
 k
 (PV.tup
 [PV.int Go.IntKind.i64
 (bitsZ Go.BinOp.or Go.IntKind.i64 (shlZ Go.IntKind.i64 (intZ x.fst (0 : Int)) (8 : Int))
 (intZ x.fst (1 : Int))),
 PV.int Go.IntKind.i64
 (bitsZ Go.BinOp.or Go.IntKind.i64 (shlZ Go.IntKind.i64 (intZ x.fst (2 : Int)) (8 : Int))
 (intZ x.fst (3 : Int))),
 PV.bool true])))) := by kernel_rfl
attribute [local irreducible] Go.Vc.evF
theorem ok_four (l : Bs) : FuncOk Tryz.prog noT 81 [.str l] ⟨l.length ≤ 1000, .tup [.int .i64 (fourR l).1, .int .i64 (fourR l).2.1, .bool (fourR l).2.2]⟩ := evF_ok (by kernel_rfl) X_four_ok (H := H_four l) (fuel := 1000) Tryz.func81 (by kernel_rfl) fun hpre => (vc_four l _).mpr (by
  have leaf0 : fourR l = (0, 0, false) → PV.tup [PV.int .i64 0, PV.int .i64 0, PV.bool false] = PV.tup [.int .i64 (fourR l).1, .int .i64 (fourR l).2.1, .bool (fourR l).2.2] := fun h => by rw [h]
  refine ⟨⟨hpre, by omega, by omega⟩, fun h => leaf0 ?_, fun h => ?_⟩
  · rw [notB6, decide_eq_true_eq] at h
    exact four_len (fun e => h (by rw [e]; rfl))
  · rw [falB6, notB6, decide_eq_true_eq] at h
    have h4 : (splitB 46 l).length = 4 := by
      exact Int.ofNat.inj (Classical.not_not.1 h : Int.ofNat (splitB 46 l).length = Int.ofNat 4)
    have hbad : ∀ p ∈ splitB 46 l, ¬ goodP p = true → fourR l = (0, 0, false) := fun p hp hg => four_bad h4 hp hg
    have hgood : (∀ p ∈ splitB 46 l, goodP p = true) → ∃ a b c d, splitB 46 l = [a, b, c, d] ∧ fourR l = (decVal a * 256 + decVal b, decVal c * 256 + decVal d, true) := fun hg => by
      match hq : splitB 46 l, h4, hg with
      | [a, b, c, d], _, hg =>
        refine ⟨a, b, c, d, rfl, ?_⟩
        unfold fourR
        rw [hq]
        dsimp only
        rw [if_pos (by rw [hg a (by simp), hg b (by simp), hg c (by simp), hg d (by simp)]; rfl)]
    generalize splitB 46 l = L at *
    clear h
    refine ⟨rfl, ⟨by omega, by omega, h4, rfl, fun p hp => by cases hp⟩, fun x hx => ⟨fun h => ?_, fun h => ?_⟩⟩
    · obtain ⟨n, i⟩ := x
      obtain ⟨i0, i4, -, hn, hg⟩ := hx
      dsimp only at i0 i4 hn hg h ⊢
      have hi : i < 4 := of_decide_eq_true h
      have wi : within i (Int.ofNat L.length) := ⟨i0, by show i < (L.length : Int); omega⟩
      have wi4 : within i ((4 : Nat) : Int) := ⟨i0, by omega⟩
      have hmem : strZ L i ∈ L := by
        unfold strZ
        rw [List.getD_eq_getElem?_getD, List.getElem?_eq_getElem (by omega)]
        exact List.getElem_mem _
      have htk : L.take (i + 1).toNat = L.take i.toNat ++ [strZ L i] := by
        unfold strZ
        rw [show (i + 1).toNat = i.toNat + 1 by omega, List.take_add_one, List.getElem?_eq_getElem (by omega), List.getD_eq_getElem?_getD, List.getElem?_eq_getElem (by omega)]
        rfl
      have hlA : ((L.take i.toNat).map decVal).length = i.toNat := by rw [List.length_map, List.length_take]; omega
      have hbp := hbad _ hmem
      generalize hP : strZ L i = P at *
      have hsh : shapeP P = true ↔ ¬ (((lenZ P < 1 ∨ 3 < lenZ P)) ∨ (1 < lenZ P ∧ byteZ P 0 = 48)) := by
        unfold shapeP lenZ
        rw [Bool.and_eq_true, decide_eq_true_eq, notB6, Bool.and_eq_true, decide_eq_true_eq, decide_eq_true_eq]
        constructor
        · intro ⟨a, b⟩ c
          rcases c with c | ⟨c, d⟩
          · omega
          · exact b ⟨by omega, d⟩
        · intro a
          refine ⟨?_, fun ⟨b, c⟩ => a (.inr ⟨by omega, c⟩)⟩
          have := fun b => a (.inl b)
          omega
      simp only [andB6, orB6, falB6, Bool.and_eq_true, Bool.or_eq_true, decide_eq_true_eq]
      refine ⟨wi, fun _ => wi, fun _ => wi, fun _ _ => wi, fun _ h1 => ⟨by omega, by omega⟩, fun hb => leaf0 (hbp fun hgp => ?_), fun hb => ?_⟩
      · unfold goodP at hgp
        rw [Bool.and_eq_true, Bool.and_eq_true] at hgp
        exact (hsh.1 hgp.1.1) hb
      · have hs := hsh.2 hb
        have hlp : P.length ≤ 3 := by have h3 : ¬ (3 < lenZ P) := fun c => hb (.inl (.inr c)); unfold lenZ at h3; omega
        refine ⟨trivial, ⟨by omega, by omega, by rw [hP]; exact hs, ?_, fun c hc => by cases hc⟩, fun y hy => ?_⟩
        · rw [hn, show 4 - i.toNat = (3 - i.toNat) + 1 by omega, List.replicate_succ]
          rfl
        · obtain ⟨n2, k⟩ := y
          obtain ⟨k0, k1, -, hn2, hd⟩ := hy
          dsimp only at k0 k1 hn2 hd ⊢
          rw [hP] at k1 hn2 hd
          have hget : intZ n2 i = decVal (P.take k.toNat) := by
            unfold intZ
            rw [hn2, List.getD_eq_getElem?_getD, List.getElem?_append_right (by omega), hlA, Nat.sub_self]; rfl
          have hset : ∀ v : Int, setZ n2 i v = (L.take i.toNat).map decVal ++ v :: List.replicate (3 - i.toNat) 0 := fun v => by
            unfold setZ
            rw [hn2, List.set_append_right _ _ (by omega), hlA, Nat.sub_self, List.set_cons_zero]
          obtain ⟨v0, v1⟩ := decVal_bd _ (P.take k.toNat) rfl hd
          have v2 : decVal (P.take k.toNat) < 1000 := Int.lt_of_lt_of_le v1 (by
            rw [List.length_take]
            have : min k.toNat P.length = 0 ∨ min k.toNat P.length = 1 ∨ min k.toNat P.length = 2 ∨ min k.toNat P.length = 3 := by omega
            rcases this with e | e | e | e <;> rw [e] <;> decide)
          rw [hget]
          refine ⟨wi, fun hlt => ?_, fun hge => ?_⟩
          · have hlt' : k < (P.length : Int) := hlt
            have wk : within k (lenZ P) := ⟨k0, hlt'⟩
            have hby : byteZ P k = ((P.getD k.toNat 0).toNat : Int) := rfl
            have hbr := byteZ_range P k
            have htk2 : P.take (k + 1).toNat = P.take k.toNat ++ [P.getD k.toNat 0] := by
              rw [show (k + 1).toNat = k.toNat + 1 by omega, List.take_add_one, List.getElem?_eq_getElem (by omega), List.getD_eq_getElem?_getD, List.getElem?_eq_getElem (by omega)]
              rfl
            refine ⟨wi, wk, fun _ => wi, fun _ => wk, fun hb2 => leaf0 (hbp fun hgp => ?_), fun hb2 => ?_⟩
            · unfold goodP at hgp
              rw [Bool.and_eq_true, Bool.and_eq_true, List.all_eq_true] at hgp
              have hm : P.getD k.toNat 0 ∈ P := by
                rw [List.getD_eq_getElem?_getD, List.getElem?_eq_getElem (by omega)]
                exact List.getElem_mem _
              have := of_decide_eq_true (hgp.1.2 _ hm)
              omega
            · have e8 : IntKind.i64.wrap (IntKind.u8.wrap (byteZ P k - 48)) = byteZ P k - 48 := by
                rw [IntWalk.u8_in _ (by omega), IntWalk.i64_in _ (by omega)]
              rw [e8, hset]
              refine ⟨wi4, wi4, ⟨by omega, by omega⟩, wi, wk, ⟨by omega, by omega⟩, wi4, ⟨wi4, trivial⟩, ⟨by omega, by omega⟩, trivial, ⟨by omega, by rw [hP]; omega, by rw [hP]; exact hs, ?_, ?_⟩, by omega⟩
              · rw [hP, htk2, decVal_snoc, hby]
              · rw [hP, htk2]
                intro c hc
                rw [List.mem_append, List.mem_singleton] at hc
                rcases hc with hc | rfl
                · exact hd c hc
                · exact decide_eq_true (by omega)
          · have hge' : ¬ k < (P.length : Int) := hge
            have hall : P.take k.toNat = P := List.take_of_length_le (by omega)
            rw [hall] at hd v0 v1 v2 hn2 ⊢
            refine ⟨wi4, wi4, fun hb2 => leaf0 (hbp fun hgp => ?_), fun hb2 => ⟨⟨by omega, by omega⟩, trivial, ⟨by omega, by omega, h4, ?_, ?_⟩, by omega⟩⟩
            · unfold goodP at hgp
              rw [Bool.and_eq_true, decide_eq_true_eq] at hgp
              omega
            · rw [htk, hn2, List.map_append, show 4 - (i + 1).toNat = 3 - i.toNat by omega]
              simp
            · rw [htk]
              intro p hp
              rw [List.mem_append, List.mem_singleton] at hp
              rcases hp with hp | rfl
              · exact hg p hp
              · unfold goodP
                rw [hs, List.all_eq_true.2 hd, decide_eq_true (by omega)]; rfl
    · obtain ⟨n, i⟩ := x
      obtain ⟨i0, i4, -, hn, hg⟩ := hx
      dsimp only at i0 i4 hn hg h ⊢
      have hi : ¬ i < 4 := of_decide_eq_false h
      obtain rfl : i = 4 := by omega
      have hg2 : ∀ p ∈ L, goodP p = true := by rw [show Int.toNat 4 = L.length by omega, List.take_length] at hg; exact hg
      obtain ⟨a, b, c, d, hL, hr⟩ := hgood hg2
      have bd : ∀ p, p ∈ L → 0 ≤ decVal p ∧ decVal p ≤ 255 := fun p hp => by
        have := hg2 p hp
        unfold goodP at this
        rw [Bool.and_eq_true, Bool.and_eq_true, List.all_eq_true, decide_eq_true_eq] at this
        exact ⟨(decVal_bd _ p rfl this.1.2).1, this.2⟩
      have ba := bd a (by rw [hL]; simp)
      have bb := bd b (by rw [hL]; simp)
      have bc := bd c (by rw [hL]; simp)
      have bdd := bd d (by rw [hL]; simp)
      rw [hL] at hn
      replace hn : n = [decVal a, decVal b, decVal c, decVal d] := hn
      have w : ∀ j : Int, 0 ≤ j → j < 4 → within j ((4 : Nat) : Int) := fun j a b => ⟨a, by omega⟩
      refine ⟨w _ (by omega) (by omega), w _ (by omega) (by omega), by omega, w _ (by omega) (by omega), w _ (by omega) (by omega), w _ (by omega) (by omega), w _ (by omega) (by omega), by omega, w _ (by omega) (by omega), w _ (by omega) (by omega), ?_⟩
      rw [hn, show intZ [decVal a, decVal b, decVal c, decVal d] 0 = decVal a from rfl, show intZ [decVal a, decVal b, decVal c, decVal d] 1 = decVal b from rfl, show intZ [decVal a, decVal b, decVal c, decVal d] 2 = decVal c from rfl, show intZ [decVal a, decVal b, decVal c, decVal d] 3 = decVal d from rfl,
        or_i64 _ _ ba.1 ba.2 bb.1 bb.2, or_i64 _ _ bc.1 bc.2 bdd.1 bdd.2]
      show PV.tup _ = PV.tup _
      rw [hr])
def ent_four : List PV → Option CallR := fun xs => match xs with
  | [.str l] => some ⟨l.length ≤ 1000, .tup [.int .i64 (fourR l).1, .int .i64 (fourR l).2.1, .bool (fourR l).2.2]⟩
  | _ => none
theorem ent_four_ok : ∀ xs c, ent_four xs = some c → FuncOk Tryz.prog noT 81 xs c := fun xs c h => by
  unfold ent_four at h
  split at h
  · injection h with h; subst h; exact ok_four _
  · cases h
end Go.Proofs.YtjljhkjpogjdhaaGreatDoor
end
/- The function gossamer/gossamerref9.row does what is told of it. -/
section
set_option linter.unusedVariables false
set_option linter.unusedSimpArgs false
set_option maxRecDepth 100000
set_option maxHeartbeats 4000000
namespace Go.Proofs.YtjljhkjpogjdhaaGreatDoor
open Go Go.Proofs Go.RowKit Go.Vc

def rowGo (last : Bool) : List Bs → List Int → List Int × Bool
  | [], out => (out, true)
  | p :: ps, out => if ((fourR p).2.2 = true ∧ last = true) ∧ ps = [] then (out ++ [(fourR p).1, (fourR p).2.1], true) else if (pieceR p).2 = true then rowGo last ps (out ++ [(pieceR p).1]) else (out, false)
def rowR (l : Bs) (last : Bool) : List Int × Bool := if l = [] then ([], true) else if 8 < (splitB 58 l).length then ([], false) else rowGo last (splitB 58 l) []
def RowI (l : Bs) (last : Bool) (nl : Bool) (o : List Int) (i : Int) : Prop := 0 ≤ i ∧ i ≤ (splitB 58 l).length ∧ nl = decide (o = []) ∧ o.length ≤ 2 * i.toNat ∧ rowGo last ((splitB 58 l).drop i.toNat) o = rowR l last
theorem splitB_each (c : Int) : ∀ (l : Bs), ∀ p ∈ splitB c l, p.length ≤ l.length
  | [], p, hp => by
    have : p = [] := by simpa [splitB] using hp
    rw [this]; simp
  | b :: t, p, hp => by
    obtain ⟨h, r, e⟩ := splitB_some c t
    have ih := splitB_each c t
    by_cases hb : (b.toNat : Int) = c
    · rw [splitB_yes hb, List.mem_cons] at hp
      rcases hp with rfl | hp
      · simp
      · have := ih p hp; rw [List.length_cons]; omega
    · rw [splitB_no hb e, List.mem_cons] at hp
      rw [e] at ih
      rcases hp with rfl | hp
      · have := ih h (by simp); rw [List.length_cons, List.length_cons]; omega
      · have := ih p (by simp [hp]); rw [List.length_cons]; omega

def X_row : Tbl := tblX [(50, ent_parts), (81, ent_four), (82, ent_piece)]
def H_row (l : Bs) (last : Bool) : Loops := fun i => bif Nat.beq i 8 then some ⟨(Bool × List Int) × (Int), (fun s x => ((((((((((s.row s 6 x.1.1 (.ints .i64 x.1.2)).put 8 (.int .i64 x.2)).put 9 .undef).put 10 .undef).put 11 .undef).put 12 .undef).put 13 .undef).put 26 .undef).put 48 .undef).put 63 .undef)), (fun s => ((s.nil 6, s.ints 6), s.int 8)), (fun s x => let o := x.1; let i := x.2; RowI l last o.1 o.2 i), (fun s x => let o := x.1; let i := x.2; ((splitB 58 l).length + 1 - i : Int).toNat), [9, 10, 11, 12, 13, 26, 48, 63]⟩ else none
theorem X_row_ok : XOk Tryz.prog noT X_row := tblX_cons ent_parts_ok (tblX_cons ent_four_ok (tblX_cons ent_piece_ok (tblX_nil)))
theorem vc_row (l : Bs) (last : Bool) (k : PV → Prop) : evF Tryz.prog X_row noT (H_row l last) 1000 Tryz.f43 [.str l, .bool last] k = (
  (decide (l = (ByteArray.mk #[]).data.toList) = true → k (PV.tup [PV.row true (BRow.ints Go.IntKind.i64 []) (0 : Nat), PV.bool true])) ∧
 (decide (l = (ByteArray.mk #[]).data.toList) = false →
 (List.length l ≤ (1000 : Nat) ∧ (0 : Int) ≤ (58 : Int) ∧ (58 : Int) ≤ (255 : Int)) ∧
 (decide ((8 : Int) < Int.ofNat (splitB (58 : Int) l).length) = true →
 k (PV.tup [PV.row true (BRow.ints Go.IntKind.i64 []) (0 : Nat), PV.bool false])) ∧
 (decide ((8 : Int) < Int.ofNat (splitB (58 : Int) l).length) = false →
 VS.mk []
 [(nat_lit 0, PV.str l), (nat_lit 1, PV.bool last),
 (nat_lit 4, PV.row true (BRow.ints Go.IntKind.i64 []) ((4 : Nat) + (32 : Nat))), (nat_lit 5, PV.bool false),
 (nat_lit 6, PV.row true (BRow.ints Go.IntKind.i64 []) ((6 : Nat) + (32 : Nat))),
 (nat_lit 7, PV.row false (BRow.strs (splitB (58 : Int) l)) (0 : Nat)),
 (nat_lit 8, PV.int Go.IntKind.i64 (0 : Int)), ((9 : Nat), PV.undef), ((10 : Nat), PV.undef), ((11 : Nat), PV.undef),
 ((12 : Nat), PV.undef), ((13 : Nat), PV.undef), (nat_lit 15, PV.bool (decide (l = (ByteArray.mk #[]).data.toList))),
 (nat_lit 21, PV.bool (decide ((8 : Int) < Int.ofNat (splitB (58 : Int) l).length))),
 ((26 : Nat), PV.undef), ((48 : Nat), PV.undef), ((63 : Nat), PV.undef)]
 [] =
 VS.mk []
 [(nat_lit 0, PV.str l), (nat_lit 1, PV.bool last),
 (nat_lit 4, PV.row true (BRow.ints Go.IntKind.i64 []) ((4 : Nat) + (32 : Nat))), (nat_lit 5, PV.bool false),
 ((6 : Nat), PV.row true (BRow.ints Go.IntKind.i64 []) ((6 : Nat) + (32 : Nat))),
 (nat_lit 7, PV.row false (BRow.strs (splitB (58 : Int) l)) (0 : Nat)),
 ((8 : Nat), PV.int Go.IntKind.i64 (0 : Int)), ((9 : Nat), PV.undef), ((10 : Nat), PV.undef), ((11 : Nat), PV.undef),
 ((12 : Nat), PV.undef), ((13 : Nat), PV.undef), (nat_lit 15, PV.bool (decide (l = (ByteArray.mk #[]).data.toList))),
 (nat_lit 21, PV.bool (decide ((8 : Int) < Int.ofNat (splitB (58 : Int) l).length))),
 ((26 : Nat), PV.undef), ((48 : Nat), PV.undef), ((63 : Nat), PV.undef)]
 [] ∧
 RowI l last true [] (0 : Int) ∧
 ∀ (x : (Bool × List Int) × Int),
 RowI l last x.fst.fst x.fst.snd x.snd →
 (decide (x.snd < Int.ofNat (splitB (58 : Int) l).length) = true →
 within x.snd (Int.ofNat (splitB (58 : Int) l).length) ∧
 (List.length (strZ (splitB (58 : Int) l) x.snd)).le (1000 : Nat) ∧
 ((bif
 (fourR
 (strZ (splitB (58 : Int) l) x.snd)).snd.snd then
 last
 else false) =
 true →
 inI64 (Int.ofNat (splitB (58 : Int) l).length - (1 : Int))) ∧
 ((bif
 bif
 (fourR
 (strZ (splitB (58 : Int) l) x.snd)).snd.snd then
 last
 else false then
 decide (x.snd = Int.ofNat (splitB (58 : Int) l).length - (1 : Int))
 else false) =
 true →
 Int.ofNat
 (x.fst.snd ++
 [(fourR
 (strZ (splitB (58 : Int) l) x.snd)).fst,
 (fourR
 (strZ (splitB (58 : Int) l) x.snd)).snd.fst]).length ≤
 maxRow ∧
 inI64 (x.snd + (1 : Int)) ∧
 VS.mk []
 [(nat_lit 0, PV.str l), (nat_lit 1, PV.bool last),
 (nat_lit 4, PV.row true (BRow.ints Go.IntKind.i64 []) ((4 : Nat) + (32 : Nat))),
 (nat_lit 5, PV.bool false),
 ((6 : Nat),
 PV.row false
 (BRow.ints Go.IntKind.i64
 (x.fst.snd ++
 [(fourR
 (strZ (splitB (58 : Int) l) x.snd)).fst,
 (fourR
 (strZ (splitB (58 : Int) l) x.snd)).snd.fst]))
 (nat_lit 37 + (1 : Nat))),
 (nat_lit 7,
 PV.row false (BRow.strs (splitB (58 : Int) l)) (0 : Nat)),
 ((8 : Nat), PV.int Go.IntKind.i64 (x.snd + (1 : Int))), ((9 : Nat), PV.undef),
 ((10 : Nat), PV.undef), ((11 : Nat), PV.undef), ((12 : Nat), PV.undef),
 ((13 : Nat), PV.undef), (nat_lit 15, PV.bool (decide (l = (ByteArray.mk #[]).data.toList))),
 (nat_lit 21,
 PV.bool (decide ((8 : Int) < Int.ofNat (splitB (58 : Int) l).length))),
 ((26 : Nat), PV.undef), ((48 : Nat), PV.undef), ((63 : Nat), PV.undef)]
 [] =
 VS.mk []
 [(nat_lit 0, PV.str l), (nat_lit 1, PV.bool last),
 (nat_lit 4, PV.row true (BRow.ints Go.IntKind.i64 []) ((4 : Nat) + (32 : Nat))),
 (nat_lit 5, PV.bool false),
 ((6 : Nat),
 PV.row false
 (BRow.ints Go.IntKind.i64
 (x.fst.snd ++
 [(fourR
 (strZ (splitB (58 : Int) l) x.snd)).fst,
 (fourR
 (strZ (splitB (58 : Int) l) x.snd)).snd.fst]))
 ((6 : Nat) + (32 : Nat))),
 (nat_lit 7,
 PV.row false (BRow.strs (splitB (58 : Int) l)) (0 : Nat)),
 ((8 : Nat), PV.int Go.IntKind.i64 (x.snd + (1 : Int))), ((9 : Nat), PV.undef),
 ((10 : Nat), PV.undef), ((11 : Nat), PV.undef), ((12 : Nat), PV.undef),
 ((13 : Nat), PV.undef), (nat_lit 15, PV.bool (decide (l = (ByteArray.mk #[]).data.toList))),
 (nat_lit 21,
 PV.bool (decide ((8 : Int) < Int.ofNat (splitB (58 : Int) l).length))),
 ((26 : Nat), PV.undef), ((48 : Nat), PV.undef), ((63 : Nat), PV.undef)]
 [] ∧
 RowI l last false
 (x.fst.snd ++
 [(fourR
 (strZ (splitB (58 : Int) l) x.snd)).fst,
 (fourR
 (strZ (splitB (58 : Int) l) x.snd)).snd.fst])
 (x.snd + (1 : Int)) ∧
 (↑(splitB (58 : Int) l).length + (1 : Int) - (x.snd + (1 : Int))).toNat <
 (↑(splitB (58 : Int) l).length + (1 : Int) - x.snd).toNat) ∧
 ((bif
 bif
 (fourR
 (strZ (splitB (58 : Int) l) x.snd)).snd.snd then
 last
 else false then
 decide (x.snd = Int.ofNat (splitB (58 : Int) l).length - (1 : Int))
 else false) =
 false →
 within x.snd (Int.ofNat (splitB (58 : Int) l).length) ∧
 (List.length (strZ (splitB (58 : Int) l) x.snd)).le (1000000 : Nat) ∧
 ((!((pieceV (5 : Nat) (0 : Int)
 (strZ (splitB (58 : Int) l) x.snd)).snd &&
 decide
 ((1 : Nat) ≤ List.length (strZ (splitB (58 : Int) l) x.snd) ∧
 List.length (strZ (splitB (58 : Int) l) x.snd) ≤ (4 : Nat)))) =
 true →
 k (PV.tup [PV.row x.fst.fst (BRow.ints Go.IntKind.i64 x.fst.snd) (0 : Nat), PV.bool false])) ∧
 ((!((pieceV (5 : Nat) (0 : Int)
 (strZ (splitB (58 : Int) l) x.snd)).snd &&
 decide
 ((1 : Nat) ≤ List.length (strZ (splitB (58 : Int) l) x.snd) ∧
 List.length (strZ (splitB (58 : Int) l) x.snd) ≤ (4 : Nat)))) =
 false →
 Int.ofNat
 (x.fst.snd ++
 [(pieceV (5 : Nat) (0 : Int)
 (strZ (splitB (58 : Int) l) x.snd)).fst]).length ≤
 maxRow ∧
 inI64 (x.snd + (1 : Int)) ∧
 VS.mk []
 [(nat_lit 0, PV.str l), (nat_lit 1, PV.bool last),
 (nat_lit 4, PV.row true (BRow.ints Go.IntKind.i64 []) ((4 : Nat) + (32 : Nat))),
 (nat_lit 5, PV.bool false),
 ((6 : Nat),
 PV.row false
 (BRow.ints Go.IntKind.i64
 (x.fst.snd ++
 [(pieceV (5 : Nat) (0 : Int)
 (strZ (splitB (58 : Int) l) x.snd)).fst]))
 (nat_lit 37 + (1 : Nat))),
 (nat_lit 7,
 PV.row false (BRow.strs (splitB (58 : Int) l)) (0 : Nat)),
 ((8 : Nat), PV.int Go.IntKind.i64 (x.snd + (1 : Int))), ((9 : Nat), PV.undef),
 ((10 : Nat), PV.undef), ((11 : Nat), PV.undef), ((12 : Nat), PV.undef),
 ((13 : Nat), PV.undef), (nat_lit 15, PV.bool (decide (l = (ByteArray.mk #[]).data.toList))),
 (nat_lit 21,
 PV.bool
 (decide ((8 : Int) < Int.ofNat (splitB (58 : Int) l).length))),
 ((26 : Nat), PV.undef), ((48 : Nat), PV.undef), ((63 : Nat), PV.undef)]
 [] =
 VS.mk []
 [(nat_lit 0, PV.str l), (nat_lit 1, PV.bool last),
 (nat_lit 4, PV.row true (BRow.ints Go.IntKind.i64 []) ((4 : Nat) + (32 : Nat))),
 (nat_lit 5, PV.bool false),
 ((6 : Nat),
 PV.row false
 (BRow.ints Go.IntKind.i64
 (x.fst.snd ++
 [(pieceV (5 : Nat) (0 : Int)
 (strZ (splitB (58 : Int) l) x.snd)).fst]))
 ((6 : Nat) + (32 : Nat))),
 (nat_lit 7,
 PV.row false (BRow.strs (splitB (58 : Int) l)) (0 : Nat)),
 ((8 : Nat), PV.int Go.IntKind.i64 (x.snd + (1 : Int))), ((9 : Nat), PV.undef),
 ((10 : Nat), PV.undef), ((11 : Nat), PV.undef), ((12 : Nat), PV.undef),
 ((13 : Nat), PV.undef), (nat_lit 15, PV.bool (decide (l = (ByteArray.mk #[]).data.toList))),
 (nat_lit 21,
 PV.bool
 (decide ((8 : Int) < Int.ofNat (splitB (58 : Int) l).length))),
 ((26 : Nat), PV.undef), ((48 : Nat), PV.undef), ((63 : Nat), PV.undef)]
 [] ∧
 RowI l last false
 (x.fst.snd ++
 [(pieceV (5 : Nat) (0 : Int)
 (strZ (splitB (58 : Int) l) x.snd)).fst])
 (x.snd + (1 : Int)) ∧
 (↑(splitB (58 : Int) l).length + (1 : Int) - (x.snd + (1 : Int))).toNat <
 (↑(splitB (58 : Int) l).length + (1 : Int) - x.snd).toNat))) ∧
 (decide (x.snd < Int.ofNat (splitB (58 : Int) l).length) = false →
 k (PV.tup [PV.row x.fst.fst (BRow.ints Go.IntKind.i64 x.fst.snd) (0 : Nat), PV.bool true]))))) := by kernel_rfl
attribute [local irreducible] Go.Vc.evF
theorem ok_row (l : Bs) (last : Bool) : FuncOk Tryz.prog noT 43 [.str l, .bool last] ⟨l.length ≤ 1000, .tup [.row (decide ((rowR l last).1 = [])) (.ints .i64 (rowR l last).1) 0, .bool (rowR l last).2]⟩ := evF_ok (by kernel_rfl) X_row_ok (H := H_row l last) (fuel := 1000) Tryz.func43 (by kernel_rfl) fun hpre => (vc_row l last _).mpr (by
  have leaf : ∀ (nl : Bool) (o : List Int) (b : Bool), nl = decide (o = []) → rowR l last = (o, b) → PV.tup [.row nl (.ints .i64 o) 0, .bool b] = PV.tup [.row (decide ((rowR l last).1 = [])) (.ints .i64 (rowR l last).1) 0, .bool (rowR l last).2] := fun nl o b h1 h2 => by rw [h2, h1]
  refine ⟨fun h => leaf _ _ _ rfl ?_, fun h => ⟨⟨hpre, by omega, by omega⟩, fun h8 => leaf _ _ _ rfl ?_, fun h8 => ?_⟩⟩
  · have : l = [] := of_decide_eq_true h
    unfold rowR; rw [if_pos this]
  · have h1 : ¬ l = [] := of_decide_eq_false h
    have h2 : (8 : Int) < ((splitB 58 l).length : Int) := of_decide_eq_true h8
    unfold rowR; rw [if_neg h1, if_pos (by omega)]
  · have h1 : ¬ l = [] := of_decide_eq_false h
    have h2 : ¬ (8 : Int) < ((splitB 58 l).length : Int) := of_decide_eq_false h8
    have hpl := splitB_each 58 l
    have hr0 : rowGo last (splitB 58 l) [] = rowR l last := by unfold rowR; rw [if_neg h1, if_neg (by omega)]
    refine ⟨rfl, ⟨by omega, by omega, rfl, by simp, hr0⟩, fun x hx => ⟨fun hlt => ?_, fun hge => ?_⟩⟩
    · obtain ⟨⟨nl, o⟩, i⟩ := x
      obtain ⟨i0, i1, hn, ho, hg⟩ := hx
      dsimp only at i0 i1 hn ho hg hlt ⊢
      have hi : i < ((splitB 58 l).length : Int) := of_decide_eq_true hlt
      have wi : within i (Int.ofNat (splitB 58 l).length) := ⟨i0, hi⟩
      have hmem : strZ (splitB 58 l) i ∈ splitB 58 l := by
        unfold strZ
        rw [List.getD_eq_getElem?_getD, List.getElem?_eq_getElem (by omega)]
        exact List.getElem_mem _
      have hdr : (splitB 58 l).drop i.toNat = strZ (splitB 58 l) i :: (splitB 58 l).drop (i.toNat + 1) := by
        unfold strZ
        rw [List.drop_eq_getElem_cons (by omega), List.getD_eq_getElem?_getD, List.getElem?_eq_getElem (by omega)]
        rfl
      have hps : (splitB 58 l).drop (i.toNat + 1) = [] ↔ i = ((splitB 58 l).length : Int) - 1 := by
        rw [← List.length_eq_zero_iff, List.length_drop]; omega
      have hp := hpl _ hmem
      rw [hdr, rowGo] at hg
      have e1 : (i + 1).toNat = i.toNat + 1 := by omega
      generalize hP : strZ (splitB 58 l) i = P at *
      have hpc : pieceR P = ((pieceV 5 0 P).1, (pieceV 5 0 P).2 && decide (1 ≤ P.length ∧ P.length ≤ 4)) := rfl
      have hml : maxRow = 16777216 := rfl
      simp only [andB6, falB6, Bool.and_eq_true, decide_eq_true_eq]
      refine ⟨wi, by show P.length ≤ 1000; omega, fun _ => ⟨by show _ ≤ ((splitB 58 l).length : Int) - 1; omega, by show ((splitB 58 l).length : Int) - 1 ≤ _; omega⟩, fun hc => ?_, fun hc => ?_⟩
      · have hc2 : (splitB 58 l).drop (i.toNat + 1) = [] := hps.2 hc.2
        rw [if_pos ⟨hc.1, hc2⟩] at hg
        refine ⟨?_, ⟨by omega, by omega⟩, trivial, ⟨by omega, by omega, by simp, ?_, ?_⟩, by omega⟩
        · show ((o ++ [(fourR P).1, (fourR P).2.1]).length : Int) ≤ maxRow
          rw [List.length_append]; show ((o.length + 2 : Nat) : Int) ≤ _; omega
        · rw [List.length_append]; show o.length + 2 ≤ _; omega
        · rw [e1, hc2]
          exact hg
      · rw [if_neg (fun hh => hc ⟨hh.1, hps.1 hh.2⟩)] at hg
        refine ⟨wi, by show P.length ≤ 1000000; omega, fun hb => leaf _ _ _ hn ?_, fun hb => ?_⟩
        · rw [if_neg (fun hh => by rw [hpc] at hh; rw [notB6] at hb; exact hb hh)] at hg
          exact hg.symm
        · rw [if_pos (by rw [hpc]; rw [notB6] at hb; exact Classical.not_not.1 hb)] at hg
          refine ⟨?_, ⟨by omega, by omega⟩, trivial, ⟨by omega, by omega, by simp, ?_, ?_⟩, by omega⟩
          · show ((o ++ [(pieceV 5 0 P).1]).length : Int) ≤ maxRow
            rw [List.length_append]; show ((o.length + 1 : Nat) : Int) ≤ _; omega
          · rw [List.length_append]; show o.length + 1 ≤ _; omega
          · rw [e1]
            exact hg
    · obtain ⟨⟨nl, o⟩, i⟩ := x
      obtain ⟨i0, i1, hn, ho, hg⟩ := hx
      dsimp only at i0 i1 hn ho hg hge ⊢
      have hi : ¬ i < ((splitB 58 l).length : Int) := of_decide_eq_false hge
      rw [List.drop_eq_nil_of_le (by omega)] at hg
      exact leaf _ _ _ hn hg.symm)
def ent_row : List PV → Option CallR := fun xs => match xs with
  | [.str l, .bool last] => some ⟨l.length ≤ 1000, .tup [.row (decide ((rowR l last).1 = [])) (.ints .i64 (rowR l last).1) 0, .bool (rowR l last).2]⟩
  | _ => none
theorem ent_row_ok : ∀ xs c, ent_row xs = some c → FuncOk Tryz.prog noT 43 xs c := fun xs c h => by
  unfold ent_row at h
  split at h
  · injection h with h; subst h; exact ok_row _ _
  · cases h
end Go.Proofs.YtjljhkjpogjdhaaGreatDoor
end
