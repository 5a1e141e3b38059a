import Derived.ProofKit
import Derived.Test.YtaphadmcjimmeaaDoorProg
import Derived.Laws.Bits64b
import Derived.Test.YtaphadmcjimmeaaDoorHb6
import Derived.Test.YtaphadmcjimmeaaDoorHb7
import Derived.Test.YtaphadmcjimmeaaDoorHb8
import Derived.Test.YtaphadmcjimmeaaDoorHb12
import Derived.Test.YtaphadmcjimmeaaDoorHb13
import Derived.Test.YtaphadmcjimmeaaDoorHb16
import Derived.Test.YtaphadmcjimmeaaDoorHb17
set_option linter.unusedVariables false
set_option linter.unusedSimpArgs false
set_option maxRecDepth 100000
set_option maxHeartbeats 4000000
namespace Go.Proofs.YtaphadmcjimmeaaDoor
open Go Go.Proofs Go.RowKit Go.Vc
def TabZ (w : World) (g : Nat) (k : IntKind) (zs : List Int) : Prop := ∃ t, w.heap[g]? = some (.cells (zs.map fun z => Value.int k z).toArray t (0, 0))
theorem TabZ.lt {w : World} {g : Nat} {k : IntKind} {zs : List Int} (h : TabZ w g k zs) : g < w.heap.size := by
  obtain ⟨t, h⟩ := h
  exact (Array.getElem?_eq_some_iff.1 h).1
theorem TabZ.same {w w' : World} {g : Nat} {k : IntKind} {zs : List Int} (h : TabZ w g k zs) (hb : w'.heap[g]? = w.heap[g]?) : TabZ w' g k zs := by
  obtain ⟨t, h⟩ := h
  exact ⟨t, by rw [hb]; exact h⟩
def NumZ (w : World) (g : Nat) : Prop := ∃ m, w.cell? ⟨g, 0, none⟩ = some (.int .i64 m)
theorem NumZ.lt {w : World} {g : Nat} (h : NumZ w g) : g < w.heap.size := by
  obtain ⟨m, h⟩ := h
  refine Classical.byContradiction fun hn => ?_
  unfold World.cell? at h
  rw [Array.getElem?_eq_none (show w.heap.size ≤ g by omega)] at h
  cases h
theorem NumZ.same {w w' : World} {g : Nat} (h : NumZ w g) (hb : w'.heap[g]? = w.heap[g]?) : NumZ w' g := by
  obtain ⟨m, h⟩ := h
  refine ⟨m, ?_⟩
  unfold World.cell? at h ⊢
  rw [hb]
  exact h
def deB64 : List Int := [0, 1, 56, 2, 57, 49, 28, 3, 61, 58, 42, 50, 38, 29, 17, 4, 62, 47, 59, 36, 45, 43, 51, 22, 53, 39, 33, 30, 24, 18, 12, 5, 63, 55, 48, 27, 60, 41, 37, 16, 46, 35, 44, 21, 52, 32, 23, 11, 54, 26, 40, 15, 34, 20, 31, 10, 25, 14, 19, 9, 13, 8, 7, 6]
def TabH (w : World) : Prop := TabZ w 1 .u64 Lib.pow10Tab ∧ NumZ w 0 ∧ TabZ w 3 .u8 deB64
instance wdH : Wd := ⟨TabH, max 1 (max 0 3) + 1, fun w h => by have := h.1.lt; have := h.2.1.lt; have := h.2.2.lt; omega, fun w w' _ _ _ _ hb h => ⟨h.1.same (hb _ (by omega)), h.2.1.same (hb _ (by omega)), h.2.2.same (hb _ (by omega))⟩⟩
theorem TabH.tab {w : World} (h : TabH w) : Tab w := by
  obtain ⟨⟨t, h⟩, -⟩ := h
  unfold Tab Lib.TabIs World.var?
  rw [show Program.globalNamed Tryd.prog "internal/strconv.uint64pow10" = some 1 by kernel_rfl]
  simp only [Option.bind_some, h]
theorem ok_behind (l : Bs) (i : Int) : FuncOk Tryd.prog noT 32 [.str l, .int .i64 i] ⟨0 ≤ i ∧ i ≤ l.length ∧ l.length ≤ 1000000, .int .i64 (i + (hexLen (l.drop i.toNat) : Int))⟩ :=
  FuncOk.of_calls Tryd.func32 (by kernel_rfl) rfl fun ⟨h0, h1, h2⟩ F w vs _ _ hw hx => by
    obtain ⟨_, _, rfl, r1, _, _, rfl, r2, rfl⟩ := hx
    obtain rfl := r1
    obtain rfl := r2
    obtain ⟨n, rfl⟩ := Int.eq_ofNat_of_zero_le h0
    refine ⟨_, (behind_any l n w h2 (by omega)).mono fun e w' ⟨he, hw'⟩ => ⟨he, hw' ▸ Below.refl _ _⟩, fun G w => ?_⟩
    show Value.int _ _ = Value.int _ _
    rw [Int.toNat_natCast]; push_cast; rfl
theorem ok_number (l : Bs) : FuncOk Tryd.prog noT 33 [.str l] ⟨l.length ≤ 4 ∧ ∀ i, i < l.length → 0 ≤ hexN (byt l i), .int .u16 (hexW l)⟩ :=
  FuncOk.of_calls Tryd.func33 (by kernel_rfl) rfl fun ⟨h0, h1⟩ F w vs _ _ hw hx => by
    obtain ⟨_, _, rfl, r1, rfl⟩ := hx
    obtain rfl := r1
    exact ⟨_, (num16_any l w h0 h1).mono fun e w' ⟨he, hw'⟩ => ⟨he, hw' ▸ Below.refl _ _⟩, fun G w => rfl⟩
theorem ok_dotted (l : Bs) : FuncOk Tryd.prog noT 34 [.str l] ⟨l.length ≤ 1000000, .tup [.int .u32 (dotV l), .bool (dotO l)]⟩ :=
  FuncOk.of_calls Tryd.func34 (by kernel_rfl) rfl fun h F w vs _ _ hw hx => by
    obtain ⟨_, _, rfl, r1, rfl⟩ := hx
    obtain rfl := r1
    exact ⟨_, dotted_any l w h (TabH.tab hw), fun G w => ⟨_, ⟨_, _, rfl, rfl, _, _, rfl, rfl, rfl⟩, rfl⟩⟩
theorem ok_spread (p : List Int) (c g : Int) : FuncOk Tryd.prog noT 35 [.arr 8 (.ints .u16 p), .int .i64 c, .int .i64 g] ⟨p.length = 8 ∧ 0 ≤ g ∧ g ≤ c ∧ c ≤ 7, .arr 8 (.ints .u16 (spreadM p c.toNat g.toNat))⟩ :=
  FuncOk.of_calls Tryd.func35 (by kernel_rfl) rfl fun ⟨hp, h0, h1, h2⟩ F w vs _ _ hw hx => by
    obtain ⟨_, _, rfl, r1, _, _, rfl, r2, _, _, rfl, r3, rfl⟩ := hx
    obtain ⟨-, rfl⟩ := r1
    obtain rfl := r2
    obtain rfl := r3
    have := spread_any p c.toNat g.toNat w hp (by omega) (by omega)
    rw [Int.toNat_of_nonneg (by omega), Int.toNat_of_nonneg h0] at this
    exact ⟨_, this, fun G w => ⟨by show List.length (List.map _ _) = 8; rw [List.length_map]; unfold spreadM; simp; omega, rfl⟩⟩
def preB (l m : Bs) : Bool := Lib.hasPrefix l m
theorem ok_prefix (l m : Bs) : FuncOk Tryd.prog noT 8 [.str l, .str m] ⟨True, .bool (preB l m)⟩ :=
  FuncOk.of_calls Tryd.func8 (by kernel_rfl) rfl fun _ F w vs _ _ hw hx => by
    obtain ⟨_, _, rfl, r1, _, _, rfl, r2, rfl⟩ := hx
    obtain rfl := r1
    obtain rfl := r2
    exact ⟨_, (Tryd.strings_HasPrefix ⟨l.toArray⟩ ⟨m.toArray⟩ w).mono fun e w' ⟨he, hw'⟩ => ⟨he, hw' ▸ Below.refl _ _⟩, fun G w => rfl⟩
def conB (l m : Bs) : Bool := Lib.containsAny l m
theorem ok_con (l m : Bs) : FuncOk Tryd.prog noT 11 [.str l, .str m] ⟨l.length ≤ 1000000 ∧ m.length ≤ 1000000 ∧ (∀ b ∈ m, b.toNat < 128), .bool (conB l m)⟩ :=
  FuncOk.of_calls Tryd.func11 (by kernel_rfl) rfl fun ⟨h0, h1, h2⟩ F w vs _ _ hw hx => by
    obtain ⟨_, _, rfl, r1, _, _, rfl, r2, rfl⟩ := hx
    obtain rfl := r1
    obtain rfl := r2
    exact ⟨_, conAny Tryd.lays150 (by kernel_rfl) ⟨l.toArray⟩ ⟨m.toArray⟩ w (by show l.length < 4294967281; omega) (by show m.length < 4294967281; omega) (fun j b hj => h2 b (List.mem_of_getElem? hj)), fun G w => rfl⟩
def hasB (l m : Bs) : Bool := Lib.contains l m
theorem ok_has (l m : Bs) : FuncOk Tryd.prog noT 37 [.str l, .str m] ⟨l.length ≤ 1000000, .bool (hasB l m)⟩ :=
  FuncOk.of_calls Tryd.func37 (by kernel_rfl) rfl fun h0 F w vs _ _ hw hx => by
    obtain ⟨_, _, rfl, r1, _, _, rfl, r2, rfl⟩ := hx
    obtain rfl := r1
    obtain rfl := r2
    obtain ⟨k, hk⟩ := (show TabH w from hw).2.1
    exact ⟨_, (Tryd.strings_Contains ⟨l.toArray⟩ ⟨m.toArray⟩ k w (by show l.length < 4294967281; omega) hk).mono fun e w' ⟨he, hw'⟩ => ⟨he, hw' ▸ Below.refl _ _⟩, fun G w => rfl⟩
def end4 (l : Bs) : Bool := endsB ((trimL l).drop (lastK (trimL l)))
theorem ok_ends (l : Bs) : FuncOk Tryd.prog noT 23 [.str l] ⟨l.length ≤ 1000000, .bool (end4 l)⟩ :=
  FuncOk.of_calls Tryd.func23 (by kernel_rfl) rfl fun h F w vs _ _ hw hx => by
    obtain ⟨_, _, rfl, r1, rfl⟩ := hx
    obtain rfl := r1
    exact ⟨_, (Ends_any l w h).mono fun e w' ⟨he, hw'⟩ => ⟨he, hw' ▸ Below.refl _ _⟩, fun G w => rfl⟩
def fourO (l : Bs) : Bool := (parseL (splitB 46 (trimL l)) 4 0).2
theorem ok_pfour (l : Bs) : FuncOk Tryd.prog noT 24 [.str l] ⟨l.length ≤ 1000000, .tup [.int .u32 (dotV l), .bool (fourO l)]⟩ :=
  FuncOk.of_calls Tryd.func24 (by kernel_rfl) rfl fun h F w vs _ _ hw hx => by
    obtain ⟨_, _, rfl, r1, rfl⟩ := hx
    obtain rfl := r1
    exact ⟨_, Parse_any l w h, fun G w => ⟨_, ⟨_, _, rfl, rfl, _, _, rfl, rfl, rfl⟩, rfl⟩⟩
def runB (l : Bs) (r : Int) : Bool := decide (r < 128) && decide (0 ≤ Lib.indexByte l r.toNat.toUInt8)
theorem ok_crune (l : Bs) (r : Int) : FuncOk Tryd.prog noT 39 [.str l, .int .i32 r] ⟨0 ≤ r ∧ r ≤ 2147483647 ∧ (∀ b ∈ l, b.toNat < 128), .bool (runB l r)⟩ :=
  FuncOk.of_calls Tryd.func39 (by kernel_rfl) rfl fun ⟨h0, h1, h2⟩ F w vs _ _ hw hx => by
    obtain ⟨_, _, rfl, r1, _, _, rfl, r2, rfl⟩ := hx
    obtain rfl := r1
    obtain rfl := r2
    by_cases h : r < 128
    · refine ⟨_, (Tryd.strings_ContainsRune_ascii ⟨l.toArray⟩ r w h0 h).mono fun e w' ⟨he, hw'⟩ => ⟨he, hw' ▸ Below.refl _ _⟩, fun G w => ?_⟩
      show Value.bool _ = Value.bool _
      unfold runB
      rw [decide_eq_true h]; rfl
    · refine ⟨_, conRune_far Tryd.lays151 ⟨l.toArray⟩ r w (fun j b hj => h2 b (List.mem_of_getElem? hj)) (by omega) h1, fun G w => ?_⟩
      show Value.bool _ = Value.bool _
      unfold runB
      rw [decide_eq_false h]; rfl
def ent_behind : List PV → Option CallR := fun xs => match xs with | [.str l, .int .i64 i] => some ⟨0 ≤ i ∧ i ≤ l.length ∧ l.length ≤ 1000000, .int .i64 (i + (hexLen (l.drop i.toNat) : Int))⟩ | _ => none
theorem ent_behind_ok : ∀ xs c, ent_behind xs = some c → FuncOk Tryd.prog noT 32 xs c := fun xs c h => by
  unfold ent_behind at h
  split at h
  · injection h with h; subst h; exact ok_behind _ _
  · cases h
def ent_number : List PV → Option CallR := fun xs => match xs with | [.str l] => some ⟨l.length ≤ 4 ∧ ∀ i, i < l.length → 0 ≤ hexN (byt l i), .int .u16 (hexW l)⟩ | _ => none
theorem ent_number_ok : ∀ xs c, ent_number xs = some c → FuncOk Tryd.prog noT 33 xs c := fun xs c h => by
  unfold ent_number at h
  split at h
  · injection h with h; subst h; exact ok_number _
  · cases h
def ent_dotted : List PV → Option CallR := fun xs => match xs with | [.str l] => some ⟨l.length ≤ 1000000, .tup [.int .u32 (dotV l), .bool (dotO l)]⟩ | _ => none
theorem ent_dotted_ok : ∀ xs c, ent_dotted xs = some c → FuncOk Tryd.prog noT 34 xs c := fun xs c h => by
  unfold ent_dotted at h
  split at h
  · injection h with h; subst h; exact ok_dotted _
  · cases h
def ent_spread : List PV → Option CallR := fun xs => match xs with | [.arr 8 (.ints .u16 p), .int .i64 c, .int .i64 g] => some ⟨p.length = 8 ∧ 0 ≤ g ∧ g ≤ c ∧ c ≤ 7, .arr 8 (.ints .u16 (spreadM p c.toNat g.toNat))⟩ | _ => none
theorem ent_spread_ok : ∀ xs c, ent_spread xs = some c → FuncOk Tryd.prog noT 35 xs c := fun xs c h => by
  unfold ent_spread at h
  split at h
  · injection h with h; subst h; exact ok_spread _ _ _
  · cases h
def ent_prefix : List PV → Option CallR := fun xs => match xs with | [.str l, .str m] => some ⟨True, .bool (preB l m)⟩ | _ => none
theorem ent_prefix_ok : ∀ xs c, ent_prefix xs = some c → FuncOk Tryd.prog noT 8 xs c := fun xs c h => by
  unfold ent_prefix at h
  split at h
  · injection h with h; subst h; exact ok_prefix _ _
  · cases h
def ent_con : List PV → Option CallR := fun xs => match xs with | [.str l, .str m] => some ⟨l.length ≤ 1000000 ∧ m.length ≤ 1000000 ∧ (∀ b ∈ m, b.toNat < 128), .bool (conB l m)⟩ | _ => none
theorem ent_con_ok : ∀ xs c, ent_con xs = some c → FuncOk Tryd.prog noT 11 xs c := fun xs c h => by
  unfold ent_con at h
  split at h
  · injection h with h; subst h; exact ok_con _ _
  · cases h
def ent_has : List PV → Option CallR := fun xs => match xs with | [.str l, .str m] => some ⟨l.length ≤ 1000000, .bool (hasB l m)⟩ | _ => none
theorem ent_has_ok : ∀ xs c, ent_has xs = some c → FuncOk Tryd.prog noT 37 xs c := fun xs c h => by
  unfold ent_has at h
  split at h
  · injection h with h; subst h; exact ok_has _ _
  · cases h
def ent_ends : List PV → Option CallR := fun xs => match xs with | [.str l] => some ⟨l.length ≤ 1000000, .bool (end4 l)⟩ | _ => none
theorem ent_ends_ok : ∀ xs c, ent_ends xs = some c → FuncOk Tryd.prog noT 23 xs c := fun xs c h => by
  unfold ent_ends at h
  split at h
  · injection h with h; subst h; exact ok_ends _
  · cases h
def ent_pfour : List PV → Option CallR := fun xs => match xs with | [.str l] => some ⟨l.length ≤ 1000000, .tup [.int .u32 (dotV l), .bool (fourO l)]⟩ | _ => none
theorem ent_pfour_ok : ∀ xs c, ent_pfour xs = some c → FuncOk Tryd.prog noT 24 xs c := fun xs c h => by
  unfold ent_pfour at h
  split at h
  · injection h with h; subst h; exact ok_pfour _
  · cases h
def ent_crune : List PV → Option CallR := fun xs => match xs with | [.str l, .int .i32 r] => some ⟨0 ≤ r ∧ r ≤ 2147483647 ∧ (∀ b ∈ l, b.toNat < 128), .bool (runB l r)⟩ | _ => none
theorem ent_crune_ok : ∀ xs c, ent_crune xs = some c → FuncOk Tryd.prog noT 39 xs c := fun xs c h => by
  unfold ent_crune at h
  split at h
  · injection h with h; subst h; exact ok_crune _ _
  · cases h
theorem ok_noughts (p : List Int) : FuncOk Tryd.prog noT 29 [.arr 8 (.ints .u16 p)] ⟨IsP p, .tup [.int .i64 (nought p).1, .int .i64 (nought p).2]⟩ :=
  FuncOk.of_calls Tryd.func29 (by kernel_rfl) rfl fun hp F w vs _ _ hw hx => by
    obtain ⟨_, _, rfl, ⟨_, rfl⟩, rfl⟩ := hx
    exact ⟨_, (noughts_any p w hp).mono fun e w' ⟨he, hw'⟩ => ⟨he, hw' ▸ (Below.refl _ _).alloc (Nat.le_refl _) _⟩, fun G w => ⟨_, ⟨_, _, rfl, rfl, _, _, rfl, rfl, rfl⟩, rfl⟩⟩
def ent_noughts : List PV → Option CallR := fun xs => match xs with | [.arr 8 (.ints .u16 p)] => some ⟨IsP p, .tup [.int .i64 (nought p).1, .int .i64 (nought p).2]⟩ | _ => none
theorem ent_noughts_ok : ∀ xs c, ent_noughts xs = some c → FuncOk Tryd.prog noT 29 xs c := fun xs c h => by
  unfold ent_noughts at h
  split at h
  · injection h with h; subst h; exact ok_noughts _
  · cases h
theorem tz16_any (w : World) (h : TabH w) : Calls Tryd.prog 84 #[.int .u64 16] w fun e w' => e = .returned (.int .i64 4) ∧ w = w' := by
  obtain ⟨-, -, t, h⟩ := h
  have hc : w.cell? ⟨3, 15, none⟩ = some (.int .u8 4) := by
    rw [cell_of_row w _ 15 _ t (0, 0) h]; rfl
  clear h
  have key : IntKind.u64.wrap (bits BinOp.and IntKind.u64 (16 : Int) (IntKind.u64.wrap (-(16 : Int))) * 285870213051353865) / 288230376151711744 = (15 : Int) := by decide +kernel
  go_enter Tryd.func84, Tryd.ntmps84
  go_wp2_with (simp only [key])
  go_ret
  exact ⟨rfl, by trivial⟩
theorem ok_tz64 : FuncOk Tryd.prog noT 84 [.int .u64 16] ⟨True, .int .i64 4⟩ :=
  FuncOk.of_calls Tryd.func84 (by kernel_rfl) rfl fun hp F w vs _ _ hw hx => by
    obtain ⟨_, _, rfl, rfl, rfl⟩ := hx
    exact ⟨_, (tz16_any w hw).mono fun e w' ⟨he, hw'⟩ => ⟨he, hw' ▸ Below.refl _ _⟩, fun G w => rfl⟩
def ent_tz64 : List PV → Option CallR := fun xs => match xs with | [.int .u64 16] => some ⟨True, .int .i64 4⟩ | _ => none
theorem ent_tz64_ok : ∀ xs c, ent_tz64 xs = some c → FuncOk Tryd.prog noT 84 xs c := fun xs c h => by
  unfold ent_tz64 at h
  split at h
  · injection h with h; subst h; exact ok_tz64
  · cases h
def body6 (k : PV → Prop) (J1 J2 : Prop) (l : Bs) (C G A : Int) (p : List Int) : Prop :=
  ((0 : Int) ≤ A ∧ A ≤ ↑(List.length l) ∧ List.length l ≤ (1000000 : Nat)) ∧ (decide (A + ↑(hexLen (List.drop A.toNat l)) < lenZ l) = true → within (A + ↑(hexLen (List.drop A.toNat l))) (lenZ l)) ∧ ((bif decide (A + ↑(hexLen (List.drop A.toNat l)) < lenZ l) then decide (byteZ l (A + ↑(hexLen (List.drop A.toNat l))) = (46 : Int)) else false) = true → upto A (lenZ l) (lenZ l) ∧ (dropZ l A).length.le (1000000 : Nat) ∧ ((bif !dotO (dropZ l A) then true else decide ((6 : Int) < C)) = true → k (PV.tup [PV.arr (8 : Nat) (BRow.ints IntKind.u16 (List.replicate (8 : Nat) (0 : Int))), PV.bool false])) ∧ ((bif !dotO (dropZ l A) then true else decide ((6 : Int) < C)) = false → inI64 (C + (1 : Int)) ∧ (0 : Int) ≤ (16 : Int) ∧ within C ↑(8 : Nat) ∧ (within C ↑(8 : Nat) ∧ True) ∧ within (C + (1 : Int)) ↑(8 : Nat) ∧ (within (C + (1 : Int)) ↑(8 : Nat) ∧ True) ∧ inI64 (C + (2 : Int)) ∧ ((bif decide (G < (0 : Int)) then decide (C + (2 : Int) = (8 : Int)) else false) = true → k (PV.tup [PV.arr (8 : Nat) (BRow.ints IntKind.u16 (setZ (setZ p C (IntKind.u16.wrap (shrZ IntKind.u32 (dotV (dropZ l A)) (16 : Int)))) (C + (1 : Int)) (IntKind.u16.wrap (dotV (dropZ l A))))), PV.bool true])) ∧ ((bif decide (G < (0 : Int)) then decide (C + (2 : Int) = (8 : Int)) else false) = false → ((bif decide ((0 : Int) ≤ G) then decide (C + (2 : Int) < (8 : Int)) else false) = true → ((setZ (setZ p C (IntKind.u16.wrap (shrZ IntKind.u32 (dotV (dropZ l A)) (16 : Int)))) (C + (1 : Int)) (IntKind.u16.wrap (dotV (dropZ l A)))).length = (8 : Nat) ∧ (0 : Int) ≤ G ∧ G ≤ C + (2 : Int) ∧ C + (2 : Int) ≤ (7 : Int)) ∧ k (PV.tup [PV.arr (8 : Nat) (BRow.ints IntKind.u16 (spreadM (setZ (setZ p C (IntKind.u16.wrap (shrZ IntKind.u32 (dotV (dropZ l A)) (16 : Int)))) (C + (1 : Int)) (IntKind.u16.wrap (dotV (dropZ l A)))) (C + (2 : Int)).toNat G.toNat)), PV.bool true])) ∧ ((bif decide ((0 : Int) ≤ G) then decide (C + (2 : Int) < (8 : Int)) else false) = false → k (PV.tup [PV.arr (8 : Nat) (BRow.ints IntKind.u16 (List.replicate (8 : Nat) (0 : Int))), PV.bool false]))))) ∧ ((bif decide (A + ↑(hexLen (List.drop A.toNat l)) < lenZ l) then decide (byteZ l (A + ↑(hexLen (List.drop A.toNat l))) = (46 : Int)) else false) = false → ((bif decide (C = (8 : Int)) then true else decide (A + ↑(hexLen (List.drop A.toNat l)) = A)) = false → inI64 (A + (4 : Int))) ∧ ((bif bif decide (C = (8 : Int)) then true else decide (A + ↑(hexLen (List.drop A.toNat l)) = A) then true else decide (A + (4 : Int) < A + ↑(hexLen (List.drop A.toNat l)))) = true → k (PV.tup [PV.arr (8 : Nat) (BRow.ints IntKind.u16 (List.replicate (8 : Nat) (0 : Int))), PV.bool false])) ∧ ((bif bif decide (C = (8 : Int)) then true else decide (A + ↑(hexLen (List.drop A.toNat l)) = A) then true else decide (A + (4 : Int) < A + ↑(hexLen (List.drop A.toNat l)))) = false → upto A (A + ↑(hexLen (List.drop A.toNat l))) (lenZ l) ∧ ((cutZ l A (A + ↑(hexLen (List.drop A.toNat l)))).length ≤ (4 : Nat) ∧ ∀ (i : Nat), i < (cutZ l A (A + ↑(hexLen (List.drop A.toNat l)))).length → (0 : Int) ≤ hexN (byt (cutZ l A (A + ↑(hexLen (List.drop A.toNat l)))) i)) ∧ within C ↑(8 : Nat) ∧ (within C ↑(8 : Nat) ∧ True) ∧ inI64 (C + (1 : Int)) ∧ (decide (A + ↑(hexLen (List.drop A.toNat l)) = lenZ l) = true → ((bif decide (G < (0 : Int)) then decide (C + (1 : Int) = (8 : Int)) else false) = true → k (PV.tup [PV.arr (8 : Nat) (BRow.ints IntKind.u16 (setZ p C (hexW (cutZ l A (A + ↑(hexLen (List.drop A.toNat l))))))), PV.bool true])) ∧ ((bif decide (G < (0 : Int)) then decide (C + (1 : Int) = (8 : Int)) else false) = false → ((bif decide ((0 : Int) ≤ G) then decide (C + (1 : Int) < (8 : Int)) else false) = true → ((setZ p C (hexW (cutZ l A (A + ↑(hexLen (List.drop A.toNat l)))))).length = (8 : Nat) ∧ (0 : Int) ≤ G ∧ G ≤ C + (1 : Int) ∧ C + (1 : Int) ≤ (7 : Int)) ∧ k (PV.tup [PV.arr (8 : Nat) (BRow.ints IntKind.u16 (spreadM (setZ p C (hexW (cutZ l A (A + ↑(hexLen (List.drop A.toNat l)))))) (C + (1 : Int)).toNat G.toNat)), PV.bool true])) ∧ ((bif decide ((0 : Int) ≤ G) then decide (C + (1 : Int) < (8 : Int)) else false) = false → k (PV.tup [PV.arr (8 : Nat) (BRow.ints IntKind.u16 (List.replicate (8 : Nat) (0 : Int))), PV.bool false])))) ∧ (decide (A + ↑(hexLen (List.drop A.toNat l)) = lenZ l) = false → within (A + ↑(hexLen (List.drop A.toNat l))) (lenZ l) ∧ ((!decide (byteZ l (A + ↑(hexLen (List.drop A.toNat l))) = (58 : Int))) = false → inI64 (A + ↑(hexLen (List.drop A.toNat l)) + (1 : Int))) ∧ ((bif !decide (byteZ l (A + ↑(hexLen (List.drop A.toNat l))) = (58 : Int)) then true else decide (A + ↑(hexLen (List.drop A.toNat l)) + (1 : Int) = lenZ l)) = true → k (PV.tup [PV.arr (8 : Nat) (BRow.ints IntKind.u16 (List.replicate (8 : Nat) (0 : Int))), PV.bool false])) ∧ ((bif !decide (byteZ l (A + ↑(hexLen (List.drop A.toNat l))) = (58 : Int)) then true else decide (A + ↑(hexLen (List.drop A.toNat l)) + (1 : Int) = lenZ l)) = false → inI64 (A + ↑(hexLen (List.drop A.toNat l)) + (1 : Int)) ∧ within (A + ↑(hexLen (List.drop A.toNat l)) + (1 : Int)) (lenZ l) ∧ ((!decide (byteZ l (A + ↑(hexLen (List.drop A.toNat l)) + (1 : Int)) = (58 : Int))) = true → J1) ∧ ((!decide (byteZ l (A + ↑(hexLen (List.drop A.toNat l)) + (1 : Int)) = (58 : Int))) = false → (decide ((0 : Int) ≤ G) = true → k (PV.tup [PV.arr (8 : Nat) (BRow.ints IntKind.u16 (List.replicate (8 : Nat) (0 : Int))), PV.bool false])) ∧ (decide ((0 : Int) ≤ G) = false → inI64 (A + ↑(hexLen (List.drop A.toNat l)) + (1 : Int) + (1 : Int)) ∧ (decide (A + ↑(hexLen (List.drop A.toNat l)) + (1 : Int) + (1 : Int) < lenZ l) = true → J2) ∧ (decide (A + ↑(hexLen (List.drop A.toNat l)) + (1 : Int) + (1 : Int) < lenZ l) = false → ((bif decide (C + (1 : Int) < (0 : Int)) then decide (C + (1 : Int) = (8 : Int)) else false) = true → k (PV.tup [PV.arr (8 : Nat) (BRow.ints IntKind.u16 (setZ p C (hexW (cutZ l A (A + ↑(hexLen (List.drop A.toNat l))))))), PV.bool true])) ∧ ((bif decide (C + (1 : Int) < (0 : Int)) then decide (C + (1 : Int) = (8 : Int)) else false) = false → ((bif decide ((0 : Int) ≤ C + (1 : Int)) then decide (C + (1 : Int) < (8 : Int)) else false) = true → ((setZ p C (hexW (cutZ l A (A + ↑(hexLen (List.drop A.toNat l)))))).length = (8 : Nat) ∧ (0 : Int) ≤ C + (1 : Int) ∧ C + (1 : Int) ≤ C + (1 : Int) ∧ C + (1 : Int) ≤ (7 : Int)) ∧ k (PV.tup [PV.arr (8 : Nat) (BRow.ints IntKind.u16 (spreadM (setZ p C (hexW (cutZ l A (A + ↑(hexLen (List.drop A.toNat l)))))) (C + (1 : Int)).toNat (C + (1 : Int)).toNat)), PV.bool true])) ∧ ((bif decide ((0 : Int) ≤ C + (1 : Int)) then decide (C + (1 : Int) < (8 : Int)) else false) = false → k (PV.tup [PV.arr (8 : Nat) (BRow.ints IntKind.u16 (List.replicate (8 : Nat) (0 : Int))), PV.bool false]))))))))))
theorem andB6 (a b : Bool) : (bif a then b else false) = (a && b) := by cases a <;> rfl
theorem orB6 (a b : Bool) : (bif a then true else b) = (a || b) := by cases a <;> rfl
theorem notB6 (a : Bool) : ((!a) = true) = ¬ (a = true) := by cases a <;> simp
theorem falB6 (a : Bool) : (a = false) = ¬ (a = true) := by cases a <;> simp
theorem pad_setZ (acc : List Int) (x : Int) (h : acc.length < 8) : setZ (pad acc) (acc.length : Int) x = pad (acc ++ [x]) := by
  unfold setZ pad
  rw [Int.toNat_natCast, List.set_append_right _ _ (by simp), Nat.sub_self, show 8 - acc.length = (8 - (acc ++ [x]).length) + 1 by simp; omega, List.replicate_succ, List.set_cons_zero, List.append_assoc]
  rfl
theorem byteZ_byt (l : Bs) (e : Nat) : byteZ l (e : Int) = byt l e := by unfold byteZ byt; rw [Int.toNat_natCast]
theorem pad_full (acc : List Int) (h : acc.length = 8) : pad acc = acc := by unfold pad; rw [h]; simp
theorem body6_ok (k : PV → Prop) (J1 J2 : Prop) (l : Bs) (G : Int) (i e : Nat) (acc : List Int) (R : List Int × Bool) (hl : l.length ≤ 1000000) (h8 : acc.length ≤ 8) (g1 : -1 ≤ G) (g2 : G ≤ acc.length) (hi : i ≤ l.length) (he : i + hexLen (l.drop i) = e)
    (hs : six1 l (9 - acc.length) acc G i = R) (hk : k (.tup [.arr 8 (.ints .u16 R.1), .bool R.2]))
    (H1 : ∀ a, a.length = acc.length + 1 → setZ (pad acc) (acc.length : Int) (hexW (cutZ l (i : Int) (e : Int))) = pad a → a.length ≤ 8 → e + 1 ≤ l.length → six1 l (9 - a.length) a G (e + 1) = R → J1)
    (H2 : ∀ a, a.length = acc.length + 1 → setZ (pad acc) (acc.length : Int) (hexW (cutZ l (i : Int) (e : Int))) = pad a → a.length ≤ 8 → e + 2 ≤ l.length → six1 l (9 - a.length) a (acc.length + 1 : Nat) (e + 2) = R → J2) :
    body6 k J1 J2 l acc.length G i (pad acc) := by
  unfold body6
  have hE : (i : Int) + ((hexLen (l.drop i) : Nat) : Int) = (e : Int) := by omega
  have hcut : cutZ l (i : Int) (e : Int) = (l.take e).drop i := by unfold cutZ; rw [Int.toNat_natCast, Int.toNat_natCast]
  have hdr : dropZ l (i : Int) = l.drop i := by unfold dropZ; rw [Int.toNat_natCast]
  have hel : e ≤ l.length := by have := hexLen_le (l.drop i); rw [List.length_drop] at this; omega
  have hb2 : byteZ l ((e : Int) + 1) = byt l (e + 1) := by rw [← byteZ_byt]; push_cast; rfl
  rw [six1_step l acc G i e h8 he] at hs
  have leaf : ∀ (L : List Int) (b : Bool), R = (L, b) → k (.tup [.arr 8 (.ints .u16 L), .bool b]) := fun L b h => by rw [h] at hk; exact hk
  have lw : R = wrong6 → k (.tup [.arr 8 (.ints .u16 (List.replicate 8 0)), .bool false]) := fun h => leaf _ _ h
  simp only [Int.toNat_natCast, hE, hcut, hdr, byteZ_byt, hb2, andB6, orB6, falB6, notB6, Bool.and_eq_true, Bool.or_eq_true, decide_eq_true_eq, lenZ, within, upto, inI64] at H1 H2 ⊢
  have fin : ∀ (a : List Int) (g C' : Int) (P : List Int), a.length ≤ 8 → C' = a.length → P = pad a → g ≤ C' → fin6 a g = R → ((g < 0 ∧ C' = 8 → k (.tup [.arr 8 (.ints .u16 P), .bool true])) ∧ (¬ (g < 0 ∧ C' = 8) → ((0 ≤ g ∧ C' < 8 → (P.length = 8 ∧ 0 ≤ g ∧ g ≤ C' ∧ C' ≤ 7) ∧ k (.tup [.arr 8 (.ints .u16 (spreadM P C'.toNat g.toNat)), .bool true])) ∧ (¬ (0 ≤ g ∧ C' < 8) → k (.tup [.arr 8 (.ints .u16 (List.replicate 8 0)), .bool false]))))) := by
    intro a g C' P ha hC hP hg hf
    subst hC hP
    unfold fin6 at hf
    refine ⟨fun h => ?_, fun h => ⟨fun h2 => ⟨⟨pad_len ha, h2.1, hg, by omega⟩, ?_⟩, fun h2 => lw ?_⟩⟩
    · rw [if_pos ⟨h.1, by omega⟩] at hf
      rw [pad_full a (by omega)]
      exact leaf _ _ hf.symm
    · rw [if_neg (by omega), if_pos ⟨h2.1, by omega⟩] at hf
      rw [Int.toNat_natCast]
      exact leaf _ _ hf.symm
    · rw [if_neg (by omega), if_neg (by omega)] at hf
      exact hf.symm
  refine ⟨⟨by omega, by omega, hl⟩, fun h => ⟨by omega, h⟩, fun h46 => ?_, fun h46 => ?_⟩
  · rw [if_pos ⟨by omega, h46.2⟩] at hs
    unfold bytes6 at hs
    refine ⟨⟨by omega, by omega, by omega⟩, ?_, fun hd => ?_, fun hd => ?_⟩
    · show (l.drop i).length ≤ 1000000
      rw [List.length_drop]; omega
    · rw [if_pos (by rcases hd with hd | hd; exact .inl (by simpa using hd); exact .inr (by omega))] at hs
      exact lw hs.symm
    · have hd1 : dotO (l.drop i) = true := Classical.byContradiction fun h => hd (.inl h)
      have hd2 : acc.length ≤ 6 := by omega
      rw [if_neg (by rw [hd1]; intro h; rcases h with h | h; cases h; omega)] at hs
      obtain ⟨v0, v1⟩ := dotV_bd (l.drop i)
      have e1 : IntKind.u16.wrap (shrZ IntKind.u32 (dotV (l.drop i)) 16) = dotV (l.drop i) / 65536 := by
        have : shrZ IntKind.u32 (dotV (l.drop i)) 16 = dotV (l.drop i) / 65536 := by
          unfold shrZ
          rw [show (2 : Int) ^ min (Int.toNat 16) IntKind.u32.bits = 65536 by decide, Int.fdiv_eq_ediv_of_nonneg _ (by decide)]
        rw [this]
        exact IntWalk.u16_in _ (by omega)
      have e2 : IntKind.u16.wrap (dotV (l.drop i)) = dotV (l.drop i) % 65536 := by
        simp [IntKind.wrap, IntKind.bits, IntKind.signed]
      have e3 : setZ (setZ (pad acc) (acc.length : Int) (dotV (l.drop i) / 65536)) ((acc.length : Int) + 1) (dotV (l.drop i) % 65536) = pad (acc ++ [dotV (l.drop i) / 65536] ++ [dotV (l.drop i) % 65536]) := by
        rw [pad_setZ _ _ (by omega), show (acc.length : Int) + 1 = ((acc ++ [dotV (l.drop i) / 65536]).length : Int) by simp, pad_setZ _ _ (by simp; omega)]
      rw [e1, e2, e3]
      exact ⟨⟨by omega, by omega⟩, by omega, ⟨by omega, by omega⟩, ⟨⟨by omega, by omega⟩, trivial⟩, ⟨by omega, by omega⟩, ⟨⟨by omega, by omega⟩, trivial⟩, ⟨by omega, by omega⟩, fin _ G _ _ (by simp; omega) (by simp) rfl (by omega) hs⟩
  · rw [if_neg (by intro h; exact h46 ⟨by omega, h.2⟩)] at hs
    refine ⟨fun _ => ⟨by omega, by omega⟩, fun h => ?_, fun h => ?_⟩
    · rw [if_pos (by omega)] at hs
      exact lw hs.symm
    · rw [if_neg (by omega)] at hs
      have h7 : acc.length < 8 := by omega
      obtain ⟨d1, d2⟩ := piece_digits l i e he (by omega)
      have hl1 : (acc ++ [hexW ((l.take e).drop i)]).length = acc.length + 1 := by simp
      rw [pad_setZ _ _ h7]
      refine ⟨⟨by omega, by omega, by omega⟩, ⟨d1, d2⟩, ⟨by omega, by omega⟩, ⟨⟨by omega, by omega⟩, trivial⟩, ⟨by omega, by omega⟩, fun hq => ?_, fun hq => ?_⟩
      · rw [if_pos (by omega)] at hs
        exact fin _ G _ _ (by omega) (by rw [hl1]; push_cast; rfl) rfl (by omega) hs
      · rw [if_neg (by omega)] at hs
        refine ⟨⟨by omega, by omega⟩, fun _ => ⟨by omega, by omega⟩, fun h5 => ?_, fun h5 => ?_⟩
        · rw [if_pos (by rcases h5 with h5 | h5; exact .inl h5; exact .inr (by omega))] at hs
          exact lw hs.symm
        · rw [if_neg (by intro h6; exact h5 (by rcases h6 with h6 | h6; exact .inl h6; exact .inr (by omega)))] at hs
          refine ⟨⟨by omega, by omega⟩, ⟨by omega, by omega⟩, fun h9 => ?_, fun h9 => ⟨fun hg => ?_, fun hg => ⟨⟨by omega, by omega⟩, fun hlt => ?_, fun hlt => ?_⟩⟩⟩
          · rw [if_pos h9, ← hl1] at hs
            exact H1 _ hl1 (pad_setZ _ _ h7) (by omega) (by omega) hs
          · rw [if_neg h9, if_pos hg] at hs
            exact lw hs.symm
          · rw [if_neg h9, if_neg hg, if_pos (by omega)] at hs
            exact H2 _ hl1 (pad_setZ _ _ h7) (by omega) (by omega) (by rw [hl1]; exact hs)
          · rw [if_neg h9, if_neg hg, if_neg (by omega)] at hs
            exact fin _ _ _ _ (by omega) (by rw [hl1]; push_cast; rfl) rfl (by omega) hs
section
theorem pre_len {l : Bs} (h : Lib.hasPrefix l [58, 58] = true) : 2 ≤ l.length := by
  match l, h with
  | [], h => cases h
  | [a], h => unfold Lib.hasPrefix at h; simp [List.isPrefixOf] at h
  | _ :: _ :: _, _ => simp
def X_parse6 : Tbl := tblX [(32, ent_behind), (33, ent_number), (34, ent_dotted), (35, ent_spread), (8, ent_prefix)]
def H_parse6 (l : Bs) : Loops := fun i => bif Nat.beq i 1000000 then some ⟨(Int) × (Int) × (Int) × (List Int), (fun s x => VS.mk [] [(0, .str l), (2, .ptr 34 0), (3, .bool false), (4, .ptr 36 0), (5, .int .u32 0), (6, .bool false), (7, .int .i64 x.1), (8, .int .i64 x.2.1), (9, .int .i64 x.2.2.1), (10, .undef), (13, .undef), (17, .undef), (30, .undef), (43, .undef), (56, .undef), (67, .undef), (73, .undef), (75, .undef), (82, .undef), (95, .undef), (113, .undef), (120, .undef)] [(36, .arr 8 (.ints .u16 x.2.2.2)), (34, .arr 8 (.ints .u16 (List.replicate 8 0)))]), (fun s => (s.int 7, s.int 8, s.int 9, VS.ints (VS.mk [] s.lh []) 36)), (fun s x => let c := x.1; let g := x.2.1; let a := x.2.2.1; let p := x.2.2.2; ∃ acc : List Int, c = acc.length ∧ acc.length ≤ 8 ∧ p = pad acc ∧ -1 ≤ g ∧ g ≤ c ∧ 0 ≤ a ∧ a ≤ l.length ∧ six1 l (9 - acc.length) acc g a.toNat = six l), (fun s x => let c := x.1; let g := x.2.1; let a := x.2.2.1; let p := x.2.2.2; (9 - c).toNat), [10, 13, 17, 30, 43, 56, 67, 73, 75, 82]⟩ else none
theorem X_parse6_ok : XOk Tryd.prog noT X_parse6 := tblX_cons ent_behind_ok (tblX_cons ent_number_ok (tblX_cons ent_dotted_ok (tblX_cons ent_spread_ok (tblX_cons ent_prefix_ok (tblX_nil)))))
theorem vc_parse6 (l : Bs) (k : PV → Prop) : evF Tryd.prog X_parse6 noT (H_parse6 l) 1000 Tryd.f17 [.str l] k = (
  True ∧
 ((!preB l (ByteArray.mk #[58, 58]).data.toList) = true →
 VS.mk []
 [(0, PV.str l), (2, PV.ptr ((2 : Nat) + (32 : Nat)) (0 : Nat)), (3, PV.bool false),
 (4, PV.ptr ((4 : Nat) + (32 : Nat)) (0 : Nat)), (5, PV.int .u32 (0 : Int)),
 (6, PV.bool false), (7, PV.int .i64 (0 : Int)), (8, PV.int .i64 (-1 : Int)),
 (9, PV.int .i64 (0 : Int)), ((10 : Nat), PV.undef), ((13 : Nat), PV.undef), ((17 : Nat), PV.undef),
 ((30 : Nat), PV.undef), ((43 : Nat), PV.undef), ((56 : Nat), PV.undef), ((67 : Nat), PV.undef),
 ((73 : Nat), PV.undef), ((75 : Nat), PV.undef), ((82 : Nat), PV.undef), (95, PV.undef),
 (113, PV.undef), (120, PV.undef)]
 [((4 : Nat) + (32 : Nat), PV.arr (8 : Nat) (BRow.ints .u16 (List.replicate (8 : Nat) (0 : Int)))),
 ((2 : Nat) + (32 : Nat), PV.arr (8 : Nat) (BRow.ints .u16 (List.replicate (8 : Nat) (0 : Int))))] =
 VS.mk []
 [((0 : Nat), PV.str l), ((2 : Nat), PV.ptr (34 : Nat) (0 : Nat)), ((3 : Nat), PV.bool false),
 ((4 : Nat), PV.ptr (36 : Nat) (0 : Nat)), ((5 : Nat), PV.int .u32 (0 : Int)), ((6 : Nat), PV.bool false),
 ((7 : Nat), PV.int .i64 (0 : Int)), ((8 : Nat), PV.int .i64 (-1 : Int)),
 ((9 : Nat), PV.int .i64 (0 : Int)), ((10 : Nat), PV.undef), ((13 : Nat), PV.undef), ((17 : Nat), PV.undef),
 ((30 : Nat), PV.undef), ((43 : Nat), PV.undef), ((56 : Nat), PV.undef), ((67 : Nat), PV.undef),
 ((73 : Nat), PV.undef), ((75 : Nat), PV.undef), ((82 : Nat), PV.undef), ((95 : Nat), PV.undef),
 ((113 : Nat), PV.undef), ((120 : Nat), PV.undef)]
 [((36 : Nat), PV.arr (8 : Nat) (BRow.ints .u16 (List.replicate (8 : Nat) (0 : Int)))),
 ((34 : Nat), PV.arr (8 : Nat) (BRow.ints .u16 (List.replicate (8 : Nat) (0 : Int))))] ∧
 (∃ (acc : List Int),
 (0 : Int) = ↑acc.length ∧
 acc.length ≤ (8 : Nat) ∧
 List.replicate (8 : Nat) (0 : Int) = pad acc ∧
 (-1 : Int) ≤ (-1 : Int) ∧
 (-1 : Int) ≤ (0 : Int) ∧
 (0 : Int) ≤ (0 : Int) ∧
 (0 : Int) ≤ ↑(List.length l) ∧
 six1 l ((9 : Nat) - acc.length) acc (-1 : Int) (Int.toNat (0 : Int)) =
 six l) ∧
 ∀ (x : Int × Int × Int × List Int),
 (∃ (acc : List Int),
 x.1 = ↑acc.length ∧
 acc.length ≤ (8 : Nat) ∧
 x.2.2.2 = pad acc ∧
 (-1 : Int) ≤ x.2.1 ∧
 x.2.1 ≤ x.1 ∧
 (0 : Int) ≤ x.2.2.1 ∧
 x.2.2.1 ≤ ↑(List.length l) ∧
 six1 l ((9 : Nat) - acc.length) acc x.2.1 x.2.2.1.toNat =
 six l) →
 ((0 : Int) ≤ x.2.2.1 ∧ x.2.2.1 ≤ ↑(List.length l) ∧ List.length l ≤ (1000000 : Nat)) ∧
 (decide (x.2.2.1 + ↑(hexLen (List.drop x.2.2.1.toNat l)) < lenZ l) = true →
 within (x.2.2.1 + ↑(hexLen (List.drop x.2.2.1.toNat l))) (lenZ l)) ∧
 ((bif decide (x.2.2.1 + ↑(hexLen (List.drop x.2.2.1.toNat l)) < lenZ l) then
 decide (byteZ l (x.2.2.1 + ↑(hexLen (List.drop x.2.2.1.toNat l))) = (46 : Int))
 else false) =
 true →
 upto x.2.2.1 (lenZ l) (lenZ l) ∧
 (dropZ l x.2.2.1).length.le (1000000 : Nat) ∧
 ((bif !dotO (dropZ l x.2.2.1) then true else decide ((6 : Int) < x.1)) = true →
 k
 (PV.tup
 [PV.arr (8 : Nat) (BRow.ints .u16 (List.replicate (8 : Nat) (0 : Int))), PV.bool false])) ∧
 ((bif !dotO (dropZ l x.2.2.1) then true else decide ((6 : Int) < x.1)) = false →
 inI64 (x.1 + (1 : Int)) ∧
 (0 : Int) ≤ (16 : Int) ∧
 within x.1 ↑(8 : Nat) ∧
 (within x.1 ↑(8 : Nat) ∧ True) ∧
 within (x.1 + (1 : Int)) ↑(8 : Nat) ∧
 (within (x.1 + (1 : Int)) ↑(8 : Nat) ∧ True) ∧
 inI64 (x.1 + (2 : Int)) ∧
 ((bif decide (x.2.1 < (0 : Int)) then decide (x.1 + (2 : Int) = (8 : Int)) else false) = true →
 k
 (PV.tup
 [PV.arr (8 : Nat)
 (BRow.ints .u16
 (setZ
 (setZ x.2.2.2 x.1
 (Go.IntKind.u16.wrap
 (shrZ .u32 (dotV (dropZ l x.2.2.1))
 (16 : Int))))
 (x.1 + (1 : Int))
 (Go.IntKind.u16.wrap (dotV (dropZ l x.2.2.1))))),
 PV.bool true])) ∧
 ((bif decide (x.2.1 < (0 : Int)) then decide (x.1 + (2 : Int) = (8 : Int)) else false) = false →
 ((bif decide ((0 : Int) ≤ x.2.1) then decide (x.1 + (2 : Int) < (8 : Int)) else false) = true →
 ((setZ
 (setZ x.2.2.2 x.1
 (Go.IntKind.u16.wrap
 (shrZ .u32 (dotV (dropZ l x.2.2.1))
 (16 : Int))))
 (x.1 + (1 : Int))
 (Go.IntKind.u16.wrap
 (dotV (dropZ l x.2.2.1)))).length =
 (8 : Nat) ∧
 (0 : Int) ≤ x.2.1 ∧ x.2.1 ≤ x.1 + (2 : Int) ∧ x.1 + (2 : Int) ≤ (7 : Int)) ∧
 k
 (PV.tup
 [PV.arr (8 : Nat)
 (BRow.ints .u16
 (spreadM
 (setZ
 (setZ x.2.2.2 x.1
 (Go.IntKind.u16.wrap
 (shrZ .u32
 (dotV (dropZ l x.2.2.1)) (16 : Int))))
 (x.1 + (1 : Int))
 (Go.IntKind.u16.wrap (dotV (dropZ l x.2.2.1))))
 (x.1 + (2 : Int)).toNat x.2.1.toNat)),
 PV.bool true])) ∧
 ((bif decide ((0 : Int) ≤ x.2.1) then decide (x.1 + (2 : Int) < (8 : Int)) else false) = false →
 k
 (PV.tup
 [PV.arr (8 : Nat) (BRow.ints .u16 (List.replicate (8 : Nat) (0 : Int))),
 PV.bool false]))))) ∧
 ((bif decide (x.2.2.1 + ↑(hexLen (List.drop x.2.2.1.toNat l)) < lenZ l) then
 decide (byteZ l (x.2.2.1 + ↑(hexLen (List.drop x.2.2.1.toNat l))) = (46 : Int))
 else false) =
 false →
 ((bif decide (x.1 = (8 : Int)) then true
 else decide (x.2.2.1 + ↑(hexLen (List.drop x.2.2.1.toNat l)) = x.2.2.1)) =
 false →
 inI64 (x.2.2.1 + (4 : Int))) ∧
 ((bif
 bif decide (x.1 = (8 : Int)) then true
 else decide (x.2.2.1 + ↑(hexLen (List.drop x.2.2.1.toNat l)) = x.2.2.1) then
 true
 else
 decide
 (x.2.2.1 + (4 : Int) < x.2.2.1 + ↑(hexLen (List.drop x.2.2.1.toNat l)))) =
 true →
 k
 (PV.tup
 [PV.arr (8 : Nat) (BRow.ints .u16 (List.replicate (8 : Nat) (0 : Int))), PV.bool false])) ∧
 ((bif
 bif decide (x.1 = (8 : Int)) then true
 else decide (x.2.2.1 + ↑(hexLen (List.drop x.2.2.1.toNat l)) = x.2.2.1) then
 true
 else
 decide
 (x.2.2.1 + (4 : Int) < x.2.2.1 + ↑(hexLen (List.drop x.2.2.1.toNat l)))) =
 false →
 upto x.2.2.1 (x.2.2.1 + ↑(hexLen (List.drop x.2.2.1.toNat l)))
 (lenZ l) ∧
 ((cutZ l x.2.2.1
 (x.2.2.1 + ↑(hexLen (List.drop x.2.2.1.toNat l)))).length ≤
 (4 : Nat) ∧
 ∀ (i : Nat),
 i <
 (cutZ l x.2.2.1
 (x.2.2.1 + ↑(hexLen (List.drop x.2.2.1.toNat l)))).length →
 (0 : Int) ≤
 hexN
 (byt
 (cutZ l x.2.2.1
 (x.2.2.1 + ↑(hexLen (List.drop x.2.2.1.toNat l))))
 i)) ∧
 within x.1 ↑(8 : Nat) ∧
 (within x.1 ↑(8 : Nat) ∧ True) ∧
 inI64 (x.1 + (1 : Int)) ∧
 (decide (x.2.2.1 + ↑(hexLen (List.drop x.2.2.1.toNat l)) = lenZ l) =
 true →
 ((bif decide (x.2.1 < (0 : Int)) then decide (x.1 + (1 : Int) = (8 : Int)) else false) = true →
 k
 (PV.tup
 [PV.arr (8 : Nat)
 (BRow.ints .u16
 (setZ x.2.2.2 x.1
 (hexW
 (cutZ l x.2.2.1
 (x.2.2.1 + ↑(hexLen (List.drop x.2.2.1.toNat l))))))),
 PV.bool true])) ∧
 ((bif decide (x.2.1 < (0 : Int)) then decide (x.1 + (1 : Int) = (8 : Int)) else false) = false →
 ((bif decide ((0 : Int) ≤ x.2.1) then decide (x.1 + (1 : Int) < (8 : Int)) else false) = true →
 ((setZ x.2.2.2 x.1
 (hexW
 (cutZ l x.2.2.1
 (x.2.2.1 +
 ↑(hexLen (List.drop x.2.2.1.toNat l)))))).length =
 (8 : Nat) ∧
 (0 : Int) ≤ x.2.1 ∧ x.2.1 ≤ x.1 + (1 : Int) ∧ x.1 + (1 : Int) ≤ (7 : Int)) ∧
 k
 (PV.tup
 [PV.arr (8 : Nat)
 (BRow.ints .u16
 (spreadM
 (setZ x.2.2.2 x.1
 (hexW
 (cutZ l x.2.2.1
 (x.2.2.1 +
 ↑(hexLen (List.drop x.2.2.1.toNat l))))))
 (x.1 + (1 : Int)).toNat x.2.1.toNat)),
 PV.bool true])) ∧
 ((bif decide ((0 : Int) ≤ x.2.1) then decide (x.1 + (1 : Int) < (8 : Int)) else false) = false →
 k
 (PV.tup
 [PV.arr (8 : Nat) (BRow.ints .u16 (List.replicate (8 : Nat) (0 : Int))),
 PV.bool false])))) ∧
 (decide (x.2.2.1 + ↑(hexLen (List.drop x.2.2.1.toNat l)) = lenZ l) =
 false →
 within (x.2.2.1 + ↑(hexLen (List.drop x.2.2.1.toNat l)))
 (lenZ l) ∧
 ((!decide
 (byteZ l
 (x.2.2.1 + ↑(hexLen (List.drop x.2.2.1.toNat l))) =
 (58 : Int))) =
 false →
 inI64
 (x.2.2.1 + ↑(hexLen (List.drop x.2.2.1.toNat l)) + (1 : Int))) ∧
 ((bif
 !decide
 (byteZ l
 (x.2.2.1 + ↑(hexLen (List.drop x.2.2.1.toNat l))) =
 (58 : Int)) then
 true
 else
 decide
 (x.2.2.1 + ↑(hexLen (List.drop x.2.2.1.toNat l)) +
 (1 : Int) =
 lenZ l)) =
 true →
 k
 (PV.tup
 [PV.arr (8 : Nat) (BRow.ints .u16 (List.replicate (8 : Nat) (0 : Int))),
 PV.bool false])) ∧
 ((bif
 !decide
 (byteZ l
 (x.2.2.1 + ↑(hexLen (List.drop x.2.2.1.toNat l))) =
 (58 : Int)) then
 true
 else
 decide
 (x.2.2.1 + ↑(hexLen (List.drop x.2.2.1.toNat l)) +
 (1 : Int) =
 lenZ l)) =
 false →
 inI64
 (x.2.2.1 + ↑(hexLen (List.drop x.2.2.1.toNat l)) + (1 : Int)) ∧
 within
 (x.2.2.1 + ↑(hexLen (List.drop x.2.2.1.toNat l)) + (1 : Int))
 (lenZ l) ∧
 ((!decide
 (byteZ l
 (x.2.2.1 +
 ↑(hexLen (List.drop x.2.2.1.toNat l)) +
 (1 : Int)) =
 (58 : Int))) =
 true →
 EqS (VS.mk []
 [((0 : Nat), PV.str l), ((2 : Nat), PV.ptr (34 : Nat) (0 : Nat)),
 ((3 : Nat), PV.bool false), ((4 : Nat), PV.ptr (36 : Nat) (0 : Nat)),
 ((5 : Nat), PV.int .u32 (0 : Int)), ((6 : Nat), PV.bool false),
 ((7 : Nat), PV.int .i64 (x.1 + (1 : Int))),
 ((8 : Nat), PV.int .i64 x.2.1),
 ((9 : Nat),
 PV.int .i64
 (x.2.2.1 +
 ↑(hexLen (List.drop x.2.2.1.toNat l)) +
 (1 : Int))),
 ((10 : Nat), PV.undef), ((13 : Nat), PV.undef), ((17 : Nat), PV.undef),
 ((30 : Nat), PV.undef), ((43 : Nat), PV.undef), ((56 : Nat), PV.undef),
 ((67 : Nat), PV.undef), ((73 : Nat), PV.undef), ((75 : Nat), PV.undef),
 ((82 : Nat), PV.undef), ((95 : Nat), PV.undef), ((113 : Nat), PV.undef),
 ((120 : Nat), PV.undef)]
 [((36 : Nat),
 PV.arr (8 : Nat)
 (BRow.ints .u16
 (setZ x.2.2.2 x.1
 (hexW
 (cutZ l x.2.2.1
 (x.2.2.1 +
 ↑(hexLen
 (List.drop x.2.2.1.toNat l)))))))),
 ((34 : Nat),
 PV.arr (8 : Nat)
 (BRow.ints .u16 (List.replicate (8 : Nat) (0 : Int))))]) ∧
 (∃ (acc : List Int),
 x.1 + (1 : Int) = ↑acc.length ∧
 acc.length ≤ (8 : Nat) ∧
 setZ x.2.2.2 x.1
 (hexW
 (cutZ l x.2.2.1
 (x.2.2.1 +
 ↑(hexLen (List.drop x.2.2.1.toNat l))))) =
 pad acc ∧
 (-1 : Int) ≤ x.2.1 ∧
 x.2.1 ≤ x.1 + (1 : Int) ∧
 (0 : Int) ≤
 x.2.2.1 +
 ↑(hexLen (List.drop x.2.2.1.toNat l)) +
 (1 : Int) ∧
 x.2.2.1 +
 ↑(hexLen (List.drop x.2.2.1.toNat l)) +
 (1 : Int) ≤
 ↑(List.length l) ∧
 six1 l ((9 : Nat) - acc.length) acc x.2.1
 (x.2.2.1 +
 ↑(hexLen
 (List.drop x.2.2.1.toNat l)) +
 (1 : Int)).toNat =
 six l) ∧
 ((9 : Int) - (x.1 + (1 : Int))).toNat < ((9 : Int) - x.1).toNat) ∧
 ((!decide
 (byteZ l
 (x.2.2.1 +
 ↑(hexLen (List.drop x.2.2.1.toNat l)) +
 (1 : Int)) =
 (58 : Int))) =
 false →
 (decide ((0 : Int) ≤ x.2.1) = true →
 k
 (PV.tup
 [PV.arr (8 : Nat) (BRow.ints .u16 (List.replicate (8 : Nat) (0 : Int))),
 PV.bool false])) ∧
 (decide ((0 : Int) ≤ x.2.1) = false →
 inI64
 (x.2.2.1 + ↑(hexLen (List.drop x.2.2.1.toNat l)) +
 (1 : Int) +
 (1 : Int)) ∧
 (decide
 (x.2.2.1 +
 ↑(hexLen (List.drop x.2.2.1.toNat l)) +
 (1 : Int) +
 (1 : Int) <
 lenZ l) =
 true →
 EqS (VS.mk []
 [((0 : Nat), PV.str l), ((2 : Nat), PV.ptr (34 : Nat) (0 : Nat)),
 ((3 : Nat), PV.bool false), ((4 : Nat), PV.ptr (36 : Nat) (0 : Nat)),
 ((5 : Nat), PV.int .u32 (0 : Int)),
 ((6 : Nat), PV.bool false),
 ((7 : Nat), PV.int .i64 (x.1 + (1 : Int))),
 ((8 : Nat), PV.int .i64 (x.1 + (1 : Int))),
 ((9 : Nat),
 PV.int .i64
 (x.2.2.1 +
 ↑(hexLen
 (List.drop x.2.2.1.toNat l)) +
 (1 : Int) +
 (1 : Int))),
 ((10 : Nat), PV.undef), ((13 : Nat), PV.undef),
 ((17 : Nat), PV.undef), ((30 : Nat), PV.undef),
 ((43 : Nat), PV.undef), ((56 : Nat), PV.undef),
 ((67 : Nat), PV.undef), ((73 : Nat), PV.undef),
 ((75 : Nat), PV.undef), ((82 : Nat), PV.undef),
 ((95 : Nat), PV.undef), ((113 : Nat), PV.undef),
 ((120 : Nat), PV.undef)]
 [((36 : Nat),
 PV.arr (8 : Nat)
 (BRow.ints .u16
 (setZ x.2.2.2 x.1
 (hexW
 (cutZ l x.2.2.1
 (x.2.2.1 +
 ↑(hexLen
 (List.drop x.2.2.1.toNat l)))))))),
 ((34 : Nat),
 PV.arr (8 : Nat)
 (BRow.ints .u16 (List.replicate (8 : Nat) (0 : Int))))]) ∧
 (∃ (acc : List Int),
 x.1 + (1 : Int) = ↑acc.length ∧
 acc.length ≤ (8 : Nat) ∧
 setZ x.2.2.2 x.1
 (hexW
 (cutZ l x.2.2.1
 (x.2.2.1 +
 ↑(hexLen
 (List.drop x.2.2.1.toNat l))))) =
 pad acc ∧
 (-1 : Int) ≤ x.1 + (1 : Int) ∧
 x.1 + (1 : Int) ≤ x.1 + (1 : Int) ∧
 (0 : Int) ≤
 x.2.2.1 +
 ↑(hexLen
 (List.drop x.2.2.1.toNat l)) +
 (1 : Int) +
 (1 : Int) ∧
 x.2.2.1 +
 ↑(hexLen
 (List.drop x.2.2.1.toNat l)) +
 (1 : Int) +
 (1 : Int) ≤
 ↑(List.length l) ∧
 six1 l ((9 : Nat) - acc.length) acc
 (x.1 + (1 : Int))
 (x.2.2.1 +
 ↑(hexLen
 (List.drop x.2.2.1.toNat l)) +
 (1 : Int) +
 (1 : Int)).toNat =
 six l) ∧
 ((9 : Int) - (x.1 + (1 : Int))).toNat < ((9 : Int) - x.1).toNat) ∧
 (decide
 (x.2.2.1 +
 ↑(hexLen (List.drop x.2.2.1.toNat l)) +
 (1 : Int) +
 (1 : Int) <
 lenZ l) =
 false →
 ((bif decide (x.1 + (1 : Int) < (0 : Int)) then decide (x.1 + (1 : Int) = (8 : Int))
 else false) =
 true →
 k
 (PV.tup
 [PV.arr (8 : Nat)
 (BRow.ints .u16
 (setZ x.2.2.2 x.1
 (hexW
 (cutZ l x.2.2.1
 (x.2.2.1 +
 ↑(hexLen
 (List.drop x.2.2.1.toNat l))))))),
 PV.bool true])) ∧
 ((bif decide (x.1 + (1 : Int) < (0 : Int)) then decide (x.1 + (1 : Int) = (8 : Int))
 else false) =
 false →
 ((bif decide ((0 : Int) ≤ x.1 + (1 : Int)) then decide (x.1 + (1 : Int) < (8 : Int))
 else false) =
 true →
 ((setZ x.2.2.2 x.1
 (hexW
 (cutZ l x.2.2.1
 (x.2.2.1 +
 ↑(hexLen
 (List.drop x.2.2.1.toNat l)))))).length =
 (8 : Nat) ∧
 (0 : Int) ≤ x.1 + (1 : Int) ∧
 x.1 + (1 : Int) ≤ x.1 + (1 : Int) ∧ x.1 + (1 : Int) ≤ (7 : Int)) ∧
 k
 (PV.tup
 [PV.arr (8 : Nat)
 (BRow.ints .u16
 (spreadM
 (setZ x.2.2.2 x.1
 (hexW
 (cutZ l x.2.2.1
 (x.2.2.1 +
 ↑(hexLen
 (List.drop x.2.2.1.toNat l))))))
 (x.1 + (1 : Int)).toNat (x.1 + (1 : Int)).toNat)),
 PV.bool true])) ∧
 ((bif decide ((0 : Int) ≤ x.1 + (1 : Int)) then
 decide (x.1 + (1 : Int) < (8 : Int))
 else false) =
 false →
 k
 (PV.tup
 [PV.arr (8 : Nat)
 (BRow.ints .u16 (List.replicate (8 : Nat) (0 : Int))),
 PV.bool false]))))))))))) ∧
 ((!preB l (ByteArray.mk #[58, 58]).data.toList) = false →
 (decide ((2 : Int) = lenZ l) = true →
 (false = true → k (PV.tup [PV.arr (8 : Nat) (BRow.ints .u16 (List.replicate (8 : Nat) (0 : Int))), PV.bool true])) ∧
 (false = false →
 (decide ((0 : Int) < (8 : Int)) = true →
 ((List.replicate (8 : Nat) (0 : Int)).length = (8 : Nat) ∧ (0 : Int) ≤ (0 : Int) ∧ (0 : Int) ≤ (0 : Int) ∧ (0 : Int) ≤ (7 : Int)) ∧
 k
 (PV.tup
 [PV.arr (8 : Nat)
 (BRow.ints .u16
 (spreadM (List.replicate (8 : Nat) (0 : Int)) (Int.toNat (0 : Int)) (Int.toNat (0 : Int)))),
 PV.bool true])) ∧
 (decide ((0 : Int) < (8 : Int)) = false →
 k (PV.tup [PV.arr (8 : Nat) (BRow.ints .u16 (List.replicate (8 : Nat) (0 : Int))), PV.bool false])))) ∧
 (decide ((2 : Int) = lenZ l) = false →
 ((0 : Int) ≤ (2 : Int) ∧ (2 : Int) ≤ ↑(List.length l) ∧ List.length l ≤ (1000000 : Nat)) ∧
 (decide ((2 : Int) + ↑(hexLen (List.drop (Int.toNat (2 : Int)) l)) < lenZ l) = true →
 within ((2 : Int) + ↑(hexLen (List.drop (Int.toNat (2 : Int)) l))) (lenZ l)) ∧
 ((bif decide ((2 : Int) + ↑(hexLen (List.drop (Int.toNat (2 : Int)) l)) < lenZ l) then
 decide (byteZ l ((2 : Int) + ↑(hexLen (List.drop (Int.toNat (2 : Int)) l))) = (46 : Int))
 else false) =
 true →
 upto (2 : Int) (lenZ l) (lenZ l) ∧
 (dropZ l (2 : Int)).length.le (1000000 : Nat) ∧
 ((bif !dotO (dropZ l (2 : Int)) then true else decide ((6 : Int) < (0 : Int))) = true →
 k
 (PV.tup
 [PV.arr (8 : Nat) (BRow.ints .u16 (List.replicate (8 : Nat) (0 : Int))), PV.bool false])) ∧
 ((bif !dotO (dropZ l (2 : Int)) then true else decide ((6 : Int) < (0 : Int))) = false →
 inI64 ((0 : Int) + (1 : Int)) ∧
 (0 : Int) ≤ (16 : Int) ∧
 within (0 : Int) ↑(8 : Nat) ∧
 (within (0 : Int) ↑(8 : Nat) ∧ True) ∧
 within ((0 : Int) + (1 : Int)) ↑(8 : Nat) ∧
 (within ((0 : Int) + (1 : Int)) ↑(8 : Nat) ∧ True) ∧
 inI64 ((0 : Int) + (2 : Int)) ∧
 (false = true →
 k
 (PV.tup
 [PV.arr (8 : Nat)
 (BRow.ints .u16
 (setZ
 (setZ (List.replicate (8 : Nat) (0 : Int)) (0 : Int)
 (Go.IntKind.u16.wrap
 (shrZ .u32 (dotV (dropZ l (2 : Int)))
 (16 : Int))))
 ((0 : Int) + (1 : Int))
 (Go.IntKind.u16.wrap (dotV (dropZ l (2 : Int)))))),
 PV.bool true])) ∧
 (false = false →
 (decide ((0 : Int) + (2 : Int) < (8 : Int)) = true →
 ((setZ
 (setZ (List.replicate (8 : Nat) (0 : Int)) (0 : Int)
 (Go.IntKind.u16.wrap
 (shrZ .u32 (dotV (dropZ l (2 : Int)))
 (16 : Int))))
 ((0 : Int) + (1 : Int))
 (Go.IntKind.u16.wrap (dotV (dropZ l (2 : Int))))).length =
 (8 : Nat) ∧
 (0 : Int) ≤ (0 : Int) ∧ (0 : Int) ≤ (0 : Int) + (2 : Int) ∧ (0 : Int) + (2 : Int) ≤ (7 : Int)) ∧
 k
 (PV.tup
 [PV.arr (8 : Nat)
 (BRow.ints .u16
 (spreadM
 (setZ
 (setZ (List.replicate (8 : Nat) (0 : Int)) (0 : Int)
 (Go.IntKind.u16.wrap
 (shrZ .u32 (dotV (dropZ l (2 : Int)))
 (16 : Int))))
 ((0 : Int) + (1 : Int))
 (Go.IntKind.u16.wrap (dotV (dropZ l (2 : Int)))))
 ((0 : Int) + (2 : Int)).toNat (Int.toNat (0 : Int)))),
 PV.bool true])) ∧
 (decide ((0 : Int) + (2 : Int) < (8 : Int)) = false →
 k
 (PV.tup
 [PV.arr (8 : Nat) (BRow.ints .u16 (List.replicate (8 : Nat) (0 : Int))),
 PV.bool false]))))) ∧
 ((bif decide ((2 : Int) + ↑(hexLen (List.drop (Int.toNat (2 : Int)) l)) < lenZ l) then
 decide (byteZ l ((2 : Int) + ↑(hexLen (List.drop (Int.toNat (2 : Int)) l))) = (46 : Int))
 else false) =
 false →
 (decide ((2 : Int) + ↑(hexLen (List.drop (Int.toNat (2 : Int)) l)) = (2 : Int)) = false →
 inI64 ((2 : Int) + (4 : Int))) ∧
 ((bif decide ((2 : Int) + ↑(hexLen (List.drop (Int.toNat (2 : Int)) l)) = (2 : Int)) then true
 else decide ((2 : Int) + (4 : Int) < (2 : Int) + ↑(hexLen (List.drop (Int.toNat (2 : Int)) l)))) =
 true →
 k (PV.tup [PV.arr (8 : Nat) (BRow.ints .u16 (List.replicate (8 : Nat) (0 : Int))), PV.bool false])) ∧
 ((bif decide ((2 : Int) + ↑(hexLen (List.drop (Int.toNat (2 : Int)) l)) = (2 : Int)) then true
 else decide ((2 : Int) + (4 : Int) < (2 : Int) + ↑(hexLen (List.drop (Int.toNat (2 : Int)) l)))) =
 false →
 upto (2 : Int) ((2 : Int) + ↑(hexLen (List.drop (Int.toNat (2 : Int)) l))) (lenZ l) ∧
 ((cutZ l (2 : Int) ((2 : Int) + ↑(hexLen (List.drop (Int.toNat (2 : Int)) l)))).length ≤
 (4 : Nat) ∧
 ∀ (i : Nat),
 i < (cutZ l (2 : Int) ((2 : Int) + ↑(hexLen (List.drop (Int.toNat (2 : Int)) l)))).length →
 (0 : Int) ≤
 hexN
 (byt
 (cutZ l (2 : Int) ((2 : Int) + ↑(hexLen (List.drop (Int.toNat (2 : Int)) l))))
 i)) ∧
 within (0 : Int) ↑(8 : Nat) ∧
 (within (0 : Int) ↑(8 : Nat) ∧ True) ∧
 inI64 ((0 : Int) + (1 : Int)) ∧
 (decide ((2 : Int) + ↑(hexLen (List.drop (Int.toNat (2 : Int)) l)) = lenZ l) = true →
 (false = true →
 k
 (PV.tup
 [PV.arr (8 : Nat)
 (BRow.ints .u16
 (setZ (List.replicate (8 : Nat) (0 : Int)) (0 : Int)
 (hexW
 (cutZ l (2 : Int)
 ((2 : Int) + ↑(hexLen (List.drop (Int.toNat (2 : Int)) l))))))),
 PV.bool true])) ∧
 (false = false →
 (decide ((0 : Int) + (1 : Int) < (8 : Int)) = true →
 ((setZ (List.replicate (8 : Nat) (0 : Int)) (0 : Int)
 (hexW
 (cutZ l (2 : Int)
 ((2 : Int) +
 ↑(hexLen (List.drop (Int.toNat (2 : Int)) l)))))).length =
 (8 : Nat) ∧
 (0 : Int) ≤ (0 : Int) ∧ (0 : Int) ≤ (0 : Int) + (1 : Int) ∧ (0 : Int) + (1 : Int) ≤ (7 : Int)) ∧
 k
 (PV.tup
 [PV.arr (8 : Nat)
 (BRow.ints .u16
 (spreadM
 (setZ (List.replicate (8 : Nat) (0 : Int)) (0 : Int)
 (hexW
 (cutZ l (2 : Int)
 ((2 : Int) + ↑(hexLen (List.drop (Int.toNat (2 : Int)) l))))))
 ((0 : Int) + (1 : Int)).toNat (Int.toNat (0 : Int)))),
 PV.bool true])) ∧
 (decide ((0 : Int) + (1 : Int) < (8 : Int)) = false →
 k
 (PV.tup
 [PV.arr (8 : Nat) (BRow.ints .u16 (List.replicate (8 : Nat) (0 : Int))),
 PV.bool false])))) ∧
 (decide ((2 : Int) + ↑(hexLen (List.drop (Int.toNat (2 : Int)) l)) = lenZ l) = false →
 within ((2 : Int) + ↑(hexLen (List.drop (Int.toNat (2 : Int)) l))) (lenZ l) ∧
 ((!decide
 (byteZ l ((2 : Int) + ↑(hexLen (List.drop (Int.toNat (2 : Int)) l))) =
 (58 : Int))) =
 false →
 inI64
 ((2 : Int) + ↑(hexLen (List.drop (Int.toNat (2 : Int)) l)) + (1 : Int))) ∧
 ((bif
 !decide
 (byteZ l
 ((2 : Int) + ↑(hexLen (List.drop (Int.toNat (2 : Int)) l))) =
 (58 : Int)) then
 true
 else
 decide
 ((2 : Int) + ↑(hexLen (List.drop (Int.toNat (2 : Int)) l)) + (1 : Int) =
 lenZ l)) =
 true →
 k
 (PV.tup
 [PV.arr (8 : Nat) (BRow.ints .u16 (List.replicate (8 : Nat) (0 : Int))),
 PV.bool false])) ∧
 ((bif
 !decide
 (byteZ l
 ((2 : Int) + ↑(hexLen (List.drop (Int.toNat (2 : Int)) l))) =
 (58 : Int)) then
 true
 else
 decide
 ((2 : Int) + ↑(hexLen (List.drop (Int.toNat (2 : Int)) l)) + (1 : Int) =
 lenZ l)) =
 false →
 inI64
 ((2 : Int) + ↑(hexLen (List.drop (Int.toNat (2 : Int)) l)) + (1 : Int)) ∧
 within
 ((2 : Int) + ↑(hexLen (List.drop (Int.toNat (2 : Int)) l)) + (1 : Int))
 (lenZ l) ∧
 ((!decide
 (byteZ l
 ((2 : Int) + ↑(hexLen (List.drop (Int.toNat (2 : Int)) l)) +
 (1 : Int)) =
 (58 : Int))) =
 true →
 VS.mk []
 [(0, PV.str l), (2, PV.ptr ((2 : Nat) + (32 : Nat)) (0 : Nat)),
 (3, PV.bool false), (4, PV.ptr ((4 : Nat) + (32 : Nat)) (0 : Nat)),
 (5, PV.int .u32 (0 : Int)), (6, PV.bool false),
 (7, PV.int .i64 ((0 : Int) + (1 : Int))),
 (8, PV.int .i64 (0 : Int)),
 (9,
 PV.int .i64
 ((2 : Int) + ↑(hexLen (List.drop (Int.toNat (2 : Int)) l)) +
 (1 : Int))),
 ((10 : Nat), PV.undef), ((13 : Nat), PV.undef), ((17 : Nat), PV.undef),
 ((30 : Nat), PV.undef), ((43 : Nat), PV.undef), ((56 : Nat), PV.undef),
 ((67 : Nat), PV.undef), ((73 : Nat), PV.undef), ((75 : Nat), PV.undef),
 ((82 : Nat), PV.undef), (95, PV.undef), (113, PV.undef),
 (120, PV.undef)]
 [((4 : Nat) + (32 : Nat),
 PV.arr (8 : Nat)
 (BRow.ints .u16
 (setZ (List.replicate (8 : Nat) (0 : Int)) (0 : Int)
 (hexW
 (cutZ l (2 : Int)
 ((2 : Int) +
 ↑(hexLen (List.drop (Int.toNat (2 : Int)) l)))))))),
 ((2 : Nat) + (32 : Nat),
 PV.arr (8 : Nat) (BRow.ints .u16 (List.replicate (8 : Nat) (0 : Int))))] =
 VS.mk []
 [((0 : Nat), PV.str l), ((2 : Nat), PV.ptr (34 : Nat) (0 : Nat)),
 ((3 : Nat), PV.bool false), ((4 : Nat), PV.ptr (36 : Nat) (0 : Nat)),
 ((5 : Nat), PV.int .u32 (0 : Int)), ((6 : Nat), PV.bool false),
 ((7 : Nat), PV.int .i64 ((0 : Int) + (1 : Int))),
 ((8 : Nat), PV.int .i64 (0 : Int)),
 ((9 : Nat),
 PV.int .i64
 ((2 : Int) + ↑(hexLen (List.drop (Int.toNat (2 : Int)) l)) +
 (1 : Int))),
 ((10 : Nat), PV.undef), ((13 : Nat), PV.undef), ((17 : Nat), PV.undef),
 ((30 : Nat), PV.undef), ((43 : Nat), PV.undef), ((56 : Nat), PV.undef),
 ((67 : Nat), PV.undef), ((73 : Nat), PV.undef), ((75 : Nat), PV.undef),
 ((82 : Nat), PV.undef), ((95 : Nat), PV.undef), ((113 : Nat), PV.undef),
 ((120 : Nat), PV.undef)]
 [((36 : Nat),
 PV.arr (8 : Nat)
 (BRow.ints .u16
 (setZ (List.replicate (8 : Nat) (0 : Int)) (0 : Int)
 (hexW
 (cutZ l (2 : Int)
 ((2 : Int) +
 ↑(hexLen (List.drop (Int.toNat (2 : Int)) l)))))))),
 ((34 : Nat),
 PV.arr (8 : Nat) (BRow.ints .u16 (List.replicate (8 : Nat) (0 : Int))))] ∧
 (∃ (acc : List Int),
 (0 : Int) + (1 : Int) = ↑acc.length ∧
 acc.length ≤ (8 : Nat) ∧
 setZ (List.replicate (8 : Nat) (0 : Int)) (0 : Int)
 (hexW
 (cutZ l (2 : Int)
 ((2 : Int) +
 ↑(hexLen (List.drop (Int.toNat (2 : Int)) l))))) =
 pad acc ∧
 (-1 : Int) ≤ (0 : Int) ∧
 (0 : Int) ≤ (0 : Int) + (1 : Int) ∧
 (0 : Int) ≤
 (2 : Int) +
 ↑(hexLen (List.drop (Int.toNat (2 : Int)) l)) +
 (1 : Int) ∧
 (2 : Int) +
 ↑(hexLen (List.drop (Int.toNat (2 : Int)) l)) +
 (1 : Int) ≤
 ↑(List.length l) ∧
 six1 l ((9 : Nat) - acc.length) acc (0 : Int)
 ((2 : Int) +
 ↑(hexLen
 (List.drop (Int.toNat (2 : Int)) l)) +
 (1 : Int)).toNat =
 six l) ∧
 ∀ (x : Int × Int × Int × List Int),
 (∃ (acc : List Int),
 x.1 = ↑acc.length ∧
 acc.length ≤ (8 : Nat) ∧
 x.2.2.2 = pad acc ∧
 (-1 : Int) ≤ x.2.1 ∧
 x.2.1 ≤ x.1 ∧
 (0 : Int) ≤ x.2.2.1 ∧
 x.2.2.1 ≤ ↑(List.length l) ∧
 six1 l ((9 : Nat) - acc.length) acc x.2.1
 x.2.2.1.toNat =
 six l) →
 ((0 : Int) ≤ x.2.2.1 ∧ x.2.2.1 ≤ ↑(List.length l) ∧ List.length l ≤ (1000000 : Nat)) ∧
 (decide
 (x.2.2.1 +
 ↑(hexLen (List.drop x.2.2.1.toNat l)) <
 lenZ l) =
 true →
 within
 (x.2.2.1 +
 ↑(hexLen (List.drop x.2.2.1.toNat l)))
 (lenZ l)) ∧
 ((bif
 decide
 (x.2.2.1 +
 ↑(hexLen (List.drop x.2.2.1.toNat l)) <
 lenZ l) then
 decide
 (byteZ l
 (x.2.2.1 +
 ↑(hexLen (List.drop x.2.2.1.toNat l))) =
 (46 : Int))
 else false) =
 true →
 upto x.2.2.1 (lenZ l) (lenZ l) ∧
 (dropZ l x.2.2.1).length.le (1000000 : Nat) ∧
 ((bif !dotO (dropZ l x.2.2.1) then true
 else decide ((6 : Int) < x.1)) =
 true →
 k
 (PV.tup
 [PV.arr (8 : Nat)
 (BRow.ints .u16 (List.replicate (8 : Nat) (0 : Int))),
 PV.bool false])) ∧
 ((bif !dotO (dropZ l x.2.2.1) then true
 else decide ((6 : Int) < x.1)) =
 false →
 inI64 (x.1 + (1 : Int)) ∧
 (0 : Int) ≤ (16 : Int) ∧
 within x.1 ↑(8 : Nat) ∧
 (within x.1 ↑(8 : Nat) ∧ True) ∧
 within (x.1 + (1 : Int)) ↑(8 : Nat) ∧
 (within (x.1 + (1 : Int)) ↑(8 : Nat) ∧ True) ∧
 inI64 (x.1 + (2 : Int)) ∧
 ((bif decide (x.2.1 < (0 : Int)) then
 decide (x.1 + (2 : Int) = (8 : Int))
 else false) =
 true →
 k
 (PV.tup
 [PV.arr (8 : Nat)
 (BRow.ints .u16
 (setZ
 (setZ x.2.2.2 x.1
 (Go.IntKind.u16.wrap
 (shrZ .u32
 (dotV
 (dropZ l x.2.2.1))
 (16 : Int))))
 (x.1 + (1 : Int))
 (Go.IntKind.u16.wrap
 (dotV
 (dropZ l x.2.2.1))))),
 PV.bool true])) ∧
 ((bif decide (x.2.1 < (0 : Int)) then
 decide (x.1 + (2 : Int) = (8 : Int))
 else false) =
 false →
 ((bif decide ((0 : Int) ≤ x.2.1) then
 decide (x.1 + (2 : Int) < (8 : Int))
 else false) =
 true →
 ((setZ
 (setZ x.2.2.2 x.1
 (Go.IntKind.u16.wrap
 (shrZ .u32
 (dotV
 (dropZ l x.2.2.1))
 (16 : Int))))
 (x.1 + (1 : Int))
 (Go.IntKind.u16.wrap
 (dotV
 (dropZ l x.2.2.1)))).length =
 (8 : Nat) ∧
 (0 : Int) ≤ x.2.1 ∧
 x.2.1 ≤ x.1 + (2 : Int) ∧
 x.1 + (2 : Int) ≤ (7 : Int)) ∧
 k
 (PV.tup
 [PV.arr (8 : Nat)
 (BRow.ints .u16
 (spreadM
 (setZ
 (setZ x.2.2.2 x.1
 (Go.IntKind.u16.wrap
 (shrZ .u32
 (dotV
 (dropZ l x.2.2.1))
 (16 : Int))))
 (x.1 + (1 : Int))
 (Go.IntKind.u16.wrap
 (dotV
 (dropZ l x.2.2.1))))
 (x.1 + (2 : Int)).toNat x.2.1.toNat)),
 PV.bool true])) ∧
 ((bif decide ((0 : Int) ≤ x.2.1) then
 decide (x.1 + (2 : Int) < (8 : Int))
 else false) =
 false →
 k
 (PV.tup
 [PV.arr (8 : Nat)
 (BRow.ints .u16
 (List.replicate (8 : Nat) (0 : Int))),
 PV.bool false]))))) ∧
 ((bif
 decide
 (x.2.2.1 +
 ↑(hexLen (List.drop x.2.2.1.toNat l)) <
 lenZ l) then
 decide
 (byteZ l
 (x.2.2.1 +
 ↑(hexLen (List.drop x.2.2.1.toNat l))) =
 (46 : Int))
 else false) =
 false →
 ((bif decide (x.1 = (8 : Int)) then true
 else
 decide
 (x.2.2.1 +
 ↑(hexLen (List.drop x.2.2.1.toNat l)) =
 x.2.2.1)) =
 false →
 inI64 (x.2.2.1 + (4 : Int))) ∧
 ((bif
 bif decide (x.1 = (8 : Int)) then true
 else
 decide
 (x.2.2.1 +
 ↑(hexLen
 (List.drop x.2.2.1.toNat l)) =
 x.2.2.1) then
 true
 else
 decide
 (x.2.2.1 + (4 : Int) <
 x.2.2.1 +
 ↑(hexLen
 (List.drop x.2.2.1.toNat l)))) =
 true →
 k
 (PV.tup
 [PV.arr (8 : Nat)
 (BRow.ints .u16 (List.replicate (8 : Nat) (0 : Int))),
 PV.bool false])) ∧
 ((bif
 bif decide (x.1 = (8 : Int)) then true
 else
 decide
 (x.2.2.1 +
 ↑(hexLen
 (List.drop x.2.2.1.toNat l)) =
 x.2.2.1) then
 true
 else
 decide
 (x.2.2.1 + (4 : Int) <
 x.2.2.1 +
 ↑(hexLen
 (List.drop x.2.2.1.toNat l)))) =
 false →
 upto x.2.2.1
 (x.2.2.1 +
 ↑(hexLen (List.drop x.2.2.1.toNat l)))
 (lenZ l) ∧
 ((cutZ l x.2.2.1
 (x.2.2.1 +
 ↑(hexLen
 (List.drop x.2.2.1.toNat l)))).length ≤
 (4 : Nat) ∧
 ∀ (i : Nat),
 i <
 (cutZ l x.2.2.1
 (x.2.2.1 +
 ↑(hexLen
 (List.drop x.2.2.1.toNat l)))).length →
 (0 : Int) ≤
 hexN
 (byt
 (cutZ l x.2.2.1
 (x.2.2.1 +
 ↑(hexLen
 (List.drop x.2.2.1.toNat l))))
 i)) ∧
 within x.1 ↑(8 : Nat) ∧
 (within x.1 ↑(8 : Nat) ∧ True) ∧
 inI64 (x.1 + (1 : Int)) ∧
 (decide
 (x.2.2.1 +
 ↑(hexLen
 (List.drop x.2.2.1.toNat l)) =
 lenZ l) =
 true →
 ((bif decide (x.2.1 < (0 : Int)) then
 decide (x.1 + (1 : Int) = (8 : Int))
 else false) =
 true →
 k
 (PV.tup
 [PV.arr (8 : Nat)
 (BRow.ints .u16
 (setZ x.2.2.2 x.1
 (hexW
 (cutZ l x.2.2.1
 (x.2.2.1 +
 ↑(hexLen
 (List.drop x.2.2.1.toNat l))))))),
 PV.bool true])) ∧
 ((bif decide (x.2.1 < (0 : Int)) then
 decide (x.1 + (1 : Int) = (8 : Int))
 else false) =
 false →
 ((bif decide ((0 : Int) ≤ x.2.1) then
 decide (x.1 + (1 : Int) < (8 : Int))
 else false) =
 true →
 ((setZ x.2.2.2 x.1
 (hexW
 (cutZ l x.2.2.1
 (x.2.2.1 +
 ↑(hexLen
 (List.drop x.2.2.1.toNat
 l)))))).length =
 (8 : Nat) ∧
 (0 : Int) ≤ x.2.1 ∧
 x.2.1 ≤ x.1 + (1 : Int) ∧
 x.1 + (1 : Int) ≤ (7 : Int)) ∧
 k
 (PV.tup
 [PV.arr (8 : Nat)
 (BRow.ints .u16
 (spreadM
 (setZ x.2.2.2 x.1
 (hexW
 (cutZ l x.2.2.1
 (x.2.2.1 +
 ↑(hexLen
 (List.drop x.2.2.1.toNat
 l))))))
 (x.1 + (1 : Int)).toNat x.2.1.toNat)),
 PV.bool true])) ∧
 ((bif decide ((0 : Int) ≤ x.2.1) then
 decide (x.1 + (1 : Int) < (8 : Int))
 else false) =
 false →
 k
 (PV.tup
 [PV.arr (8 : Nat)
 (BRow.ints .u16
 (List.replicate (8 : Nat) (0 : Int))),
 PV.bool false])))) ∧
 (decide
 (x.2.2.1 +
 ↑(hexLen
 (List.drop x.2.2.1.toNat l)) =
 lenZ l) =
 false →
 within
 (x.2.2.1 +
 ↑(hexLen
 (List.drop x.2.2.1.toNat l)))
 (lenZ l) ∧
 ((!decide
 (byteZ l
 (x.2.2.1 +
 ↑(hexLen
 (List.drop x.2.2.1.toNat l))) =
 (58 : Int))) =
 false →
 inI64
 (x.2.2.1 +
 ↑(hexLen
 (List.drop x.2.2.1.toNat l)) +
 (1 : Int))) ∧
 ((bif
 !decide
 (byteZ l
 (x.2.2.1 +
 ↑(hexLen
 (List.drop x.2.2.1.toNat l))) =
 (58 : Int)) then
 true
 else
 decide
 (x.2.2.1 +
 ↑(hexLen
 (List.drop x.2.2.1.toNat l)) +
 (1 : Int) =
 lenZ l)) =
 true →
 k
 (PV.tup
 [PV.arr (8 : Nat)
 (BRow.ints .u16
 (List.replicate (8 : Nat) (0 : Int))),
 PV.bool false])) ∧
 ((bif
 !decide
 (byteZ l
 (x.2.2.1 +
 ↑(hexLen
 (List.drop x.2.2.1.toNat l))) =
 (58 : Int)) then
 true
 else
 decide
 (x.2.2.1 +
 ↑(hexLen
 (List.drop x.2.2.1.toNat l)) +
 (1 : Int) =
 lenZ l)) =
 false →
 inI64
 (x.2.2.1 +
 ↑(hexLen
 (List.drop x.2.2.1.toNat l)) +
 (1 : Int)) ∧
 within
 (x.2.2.1 +
 ↑(hexLen
 (List.drop x.2.2.1.toNat l)) +
 (1 : Int))
 (lenZ l) ∧
 ((!decide
 (byteZ l
 (x.2.2.1 +
 ↑(hexLen
 (List.drop x.2.2.1.toNat l)) +
 (1 : Int)) =
 (58 : Int))) =
 true →
 EqS (VS.mk []
 [((0 : Nat), PV.str l),
 ((2 : Nat),
 PV.ptr (34 : Nat) (0 : Nat)),
 ((3 : Nat), PV.bool false),
 ((4 : Nat),
 PV.ptr (36 : Nat) (0 : Nat)),
 ((5 : Nat),
 PV.int .u32 (0 : Int)),
 ((6 : Nat), PV.bool false),
 ((7 : Nat),
 PV.int .i64
 (x.1 + (1 : Int))),
 ((8 : Nat),
 PV.int .i64 x.2.1),
 ((9 : Nat),
 PV.int .i64
 (x.2.2.1 +
 ↑(hexLen
 (List.drop x.2.2.1.toNat
 l)) +
 (1 : Int))),
 ((10 : Nat), PV.undef),
 ((13 : Nat), PV.undef),
 ((17 : Nat), PV.undef),
 ((30 : Nat), PV.undef),
 ((43 : Nat), PV.undef),
 ((56 : Nat), PV.undef),
 ((67 : Nat), PV.undef),
 ((73 : Nat), PV.undef),
 ((75 : Nat), PV.undef),
 ((82 : Nat), PV.undef),
 ((95 : Nat), PV.undef),
 ((113 : Nat), PV.undef),
 ((120 : Nat), PV.undef)]
 [((36 : Nat),
 PV.arr (8 : Nat)
 (BRow.ints .u16
 (setZ x.2.2.2 x.1
 (hexW
 (cutZ l x.2.2.1
 (x.2.2.1 +
 ↑(hexLen
 (List.drop
 x.2.2.1.toNat
 l)))))))),
 ((34 : Nat),
 PV.arr (8 : Nat)
 (BRow.ints .u16
 (List.replicate (8 : Nat)
 (0 : Int))))]) ∧
 (∃ (acc : List Int),
 x.1 + (1 : Int) = ↑acc.length ∧
 acc.length ≤ (8 : Nat) ∧
 setZ x.2.2.2 x.1
 (hexW
 (cutZ l x.2.2.1
 (x.2.2.1 +
 ↑(hexLen
 (List.drop
 x.2.2.1.toNat
 l))))) =
 pad acc ∧
 (-1 : Int) ≤ x.2.1 ∧
 x.2.1 ≤ x.1 + (1 : Int) ∧
 (0 : Int) ≤
 x.2.2.1 +
 ↑(hexLen
 (List.drop
 x.2.2.1.toNat
 l)) +
 (1 : Int) ∧
 x.2.2.1 +
 ↑(hexLen
 (List.drop
 x.2.2.1.toNat
 l)) +
 (1 : Int) ≤
 ↑(List.length l) ∧
 six1
 l ((9 : Nat) - acc.length) acc
 x.2.1
 (x.2.2.1 +
 ↑(hexLen
 (List.drop
 x.2.2.1.toNat
 l)) +
 (1 : Int)).toNat =
 six
 l) ∧
 ((9 : Int) - (x.1 + (1 : Int))).toNat <
 ((9 : Int) - x.1).toNat) ∧
 ((!decide
 (byteZ l
 (x.2.2.1 +
 ↑(hexLen
 (List.drop x.2.2.1.toNat l)) +
 (1 : Int)) =
 (58 : Int))) =
 false →
 (decide ((0 : Int) ≤ x.2.1) = true →
 k
 (PV.tup
 [PV.arr (8 : Nat)
 (BRow.ints .u16
 (List.replicate (8 : Nat) (0 : Int))),
 PV.bool false])) ∧
 (decide ((0 : Int) ≤ x.2.1) = false →
 inI64
 (x.2.2.1 +
 ↑(hexLen
 (List.drop x.2.2.1.toNat l)) +
 (1 : Int) +
 (1 : Int)) ∧
 (decide
 (x.2.2.1 +
 ↑(hexLen
 (List.drop
 x.2.2.1.toNat l)) +
 (1 : Int) +
 (1 : Int) <
 lenZ l) =
 true →
 EqS (VS.mk []
 [((0 : Nat), PV.str l),
 ((2 : Nat),
 PV.ptr (34 : Nat)
 (0 : Nat)),
 ((3 : Nat), PV.bool false),
 ((4 : Nat),
 PV.ptr (36 : Nat)
 (0 : Nat)),
 ((5 : Nat),
 PV.int .u32
 (0 : Int)),
 ((6 : Nat), PV.bool false),
 ((7 : Nat),
 PV.int .i64
 (x.1 + (1 : Int))),
 ((8 : Nat),
 PV.int .i64
 (x.1 + (1 : Int))),
 ((9 : Nat),
 PV.int .i64
 (x.2.2.1 +
 ↑(hexLen
 (List.drop
 x.2.2.1.toNat
 l)) +
 (1 : Int) +
 (1 : Int))),
 ((10 : Nat), PV.undef),
 ((13 : Nat), PV.undef),
 ((17 : Nat), PV.undef),
 ((30 : Nat), PV.undef),
 ((43 : Nat), PV.undef),
 ((56 : Nat), PV.undef),
 ((67 : Nat), PV.undef),
 ((73 : Nat), PV.undef),
 ((75 : Nat), PV.undef),
 ((82 : Nat), PV.undef),
 ((95 : Nat), PV.undef),
 ((113 : Nat), PV.undef),
 ((120 : Nat), PV.undef)]
 [((36 : Nat),
 PV.arr (8 : Nat)
 (BRow.ints .u16
 (setZ x.2.2.2
 x.1
 (hexW
 (cutZ l
 x.2.2.1
 (x.2.2.1 +
 ↑(hexLen
 (List.drop
 x.2.2.1.toNat
 l)))))))),
 ((34 : Nat),
 PV.arr (8 : Nat)
 (BRow.ints .u16
 (List.replicate (8 : Nat)
 (0 : Int))))]) ∧
 (∃ (acc : List Int),
 x.1 + (1 : Int) = ↑acc.length ∧
 acc.length ≤ (8 : Nat) ∧
 setZ x.2.2.2 x.1
 (hexW
 (cutZ l
 x.2.2.1
 (x.2.2.1 +
 ↑(hexLen
 (List.drop
 x.2.2.1.toNat
 l))))) =
 pad
 acc ∧
 (-1 : Int) ≤ x.1 + (1 : Int) ∧
 x.1 + (1 : Int) ≤
 x.1 + (1 : Int) ∧
 (0 : Int) ≤
 x.2.2.1 +
 ↑(hexLen
 (List.drop
 x.2.2.1.toNat
 l)) +
 (1 : Int) +
 (1 : Int) ∧
 x.2.2.1 +
 ↑(hexLen
 (List.drop
 x.2.2.1.toNat
 l)) +
 (1 : Int) +
 (1 : Int) ≤
 ↑(List.length l) ∧
 six1
 l
 ((9 : Nat) -
 acc.length)
 acc
 (x.1 + (1 : Int))
 (x.2.2.1 +
 ↑(hexLen
 (List.drop
 x.2.2.1.toNat
 l)) +
 (1 : Int) +
 (1 :
 Int)).toNat =
 six
 l) ∧
 ((9 : Int) -
 (x.1 + (1 : Int))).toNat <
 ((9 : Int) - x.1).toNat) ∧
 (decide
 (x.2.2.1 +
 ↑(hexLen
 (List.drop
 x.2.2.1.toNat l)) +
 (1 : Int) +
 (1 : Int) <
 lenZ l) =
 false →
 ((bif
 decide
 (x.1 + (1 : Int) <
 (0 : Int)) then
 decide
 (x.1 + (1 : Int) = (8 : Int))
 else false) =
 true →
 k
 (PV.tup
 [PV.arr (8 : Nat)
 (BRow.ints .u16
 (setZ x.2.2.2
 x.1
 (hexW
 (cutZ l
 x.2.2.1
 (x.2.2.1 +
 ↑(hexLen
 (List.drop
 x.2.2.1.toNat
 l))))))),
 PV.bool true])) ∧
 ((bif
 decide
 (x.1 + (1 : Int) <
 (0 : Int)) then
 decide
 (x.1 + (1 : Int) = (8 : Int))
 else false) =
 false →
 ((bif
 decide
 ((0 : Int) ≤
 x.1 + (1 : Int)) then
 decide
 (x.1 + (1 : Int) <
 (8 : Int))
 else false) =
 true →
 ((setZ x.2.2.2 x.1
 (hexW
 (cutZ l
 x.2.2.1
 (x.2.2.1 +
 ↑(hexLen
 (List.drop
 x.2.2.1.toNat
 l)))))).length =
 (8 : Nat) ∧
 (0 : Int) ≤ x.1 + (1 : Int) ∧
 x.1 + (1 : Int) ≤
 x.1 + (1 : Int) ∧
 x.1 + (1 : Int) ≤
 (7 : Int)) ∧
 k
 (PV.tup
 [PV.arr (8 : Nat)
 (BRow.ints
 .u16
 (spreadM
 (setZ
 x.2.2.2 x.1
 (hexW
 (cutZ l
 x.2.2.1
 (x.2.2.1 +
 ↑(hexLen
 (List.drop
 x.2.2.1.toNat
 l))))))
 (x.1 +
 (1 : Int)).toNat
 (x.1 +
 (1 :
 Int)).toNat)),
 PV.bool true])) ∧
 ((bif
 decide
 ((0 : Int) ≤
 x.1 + (1 : Int)) then
 decide
 (x.1 + (1 : Int) <
 (8 : Int))
 else false) =
 false →
 k
 (PV.tup
 [PV.arr (8 : Nat)
 (BRow.ints
 .u16
 (List.replicate (8 : Nat)
 (0 : Int))),
 PV.bool
 false]))))))))))) ∧
 ((!decide
 (byteZ l
 ((2 : Int) + ↑(hexLen (List.drop (Int.toNat (2 : Int)) l)) +
 (1 : Int)) =
 (58 : Int))) =
 false →
 (decide ((0 : Int) ≤ (0 : Int)) = true →
 k
 (PV.tup
 [PV.arr (8 : Nat) (BRow.ints .u16 (List.replicate (8 : Nat) (0 : Int))),
 PV.bool false])) ∧
 (decide ((0 : Int) ≤ (0 : Int)) = false →
 inI64
 ((2 : Int) + ↑(hexLen (List.drop (Int.toNat (2 : Int)) l)) +
 (1 : Int) +
 (1 : Int)) ∧
 (decide
 ((2 : Int) + ↑(hexLen (List.drop (Int.toNat (2 : Int)) l)) +
 (1 : Int) +
 (1 : Int) <
 lenZ l) =
 true →
 VS.mk []
 [(0, PV.str l),
 (2, PV.ptr ((2 : Nat) + (32 : Nat)) (0 : Nat)),
 (3, PV.bool false),
 (4, PV.ptr ((4 : Nat) + (32 : Nat)) (0 : Nat)),
 (5, PV.int .u32 (0 : Int)), (6, PV.bool false),
 (7, PV.int .i64 ((0 : Int) + (1 : Int))),
 (8, PV.int .i64 ((0 : Int) + (1 : Int))),
 (9,
 PV.int .i64
 ((2 : Int) +
 ↑(hexLen (List.drop (Int.toNat (2 : Int)) l)) +
 (1 : Int) +
 (1 : Int))),
 ((10 : Nat), PV.undef), ((13 : Nat), PV.undef),
 ((17 : Nat), PV.undef), ((30 : Nat), PV.undef),
 ((43 : Nat), PV.undef), ((56 : Nat), PV.undef),
 ((67 : Nat), PV.undef), ((73 : Nat), PV.undef),
 ((75 : Nat), PV.undef), ((82 : Nat), PV.undef),
 (95, PV.undef), (113, PV.undef),
 (120, PV.undef)]
 [((4 : Nat) + (32 : Nat),
 PV.arr (8 : Nat)
 (BRow.ints .u16
 (setZ (List.replicate (8 : Nat) (0 : Int)) (0 : Int)
 (hexW
 (cutZ l (2 : Int)
 ((2 : Int) +
 ↑(hexLen
 (List.drop (Int.toNat (2 : Int)) l)))))))),
 ((2 : Nat) + (32 : Nat),
 PV.arr (8 : Nat)
 (BRow.ints .u16 (List.replicate (8 : Nat) (0 : Int))))] =
 VS.mk []
 [((0 : Nat), PV.str l), ((2 : Nat), PV.ptr (34 : Nat) (0 : Nat)),
 ((3 : Nat), PV.bool false), ((4 : Nat), PV.ptr (36 : Nat) (0 : Nat)),
 ((5 : Nat), PV.int .u32 (0 : Int)), ((6 : Nat), PV.bool false),
 ((7 : Nat), PV.int .i64 ((0 : Int) + (1 : Int))),
 ((8 : Nat), PV.int .i64 ((0 : Int) + (1 : Int))),
 ((9 : Nat),
 PV.int .i64
 ((2 : Int) +
 ↑(hexLen (List.drop (Int.toNat (2 : Int)) l)) +
 (1 : Int) +
 (1 : Int))),
 ((10 : Nat), PV.undef), ((13 : Nat), PV.undef),
 ((17 : Nat), PV.undef), ((30 : Nat), PV.undef),
 ((43 : Nat), PV.undef), ((56 : Nat), PV.undef),
 ((67 : Nat), PV.undef), ((73 : Nat), PV.undef),
 ((75 : Nat), PV.undef), ((82 : Nat), PV.undef),
 ((95 : Nat), PV.undef), ((113 : Nat), PV.undef),
 ((120 : Nat), PV.undef)]
 [((36 : Nat),
 PV.arr (8 : Nat)
 (BRow.ints .u16
 (setZ (List.replicate (8 : Nat) (0 : Int)) (0 : Int)
 (hexW
 (cutZ l (2 : Int)
 ((2 : Int) +
 ↑(hexLen
 (List.drop (Int.toNat (2 : Int)) l)))))))),
 ((34 : Nat),
 PV.arr (8 : Nat)
 (BRow.ints .u16 (List.replicate (8 : Nat) (0 : Int))))] ∧
 (∃ (acc : List Int),
 (0 : Int) + (1 : Int) = ↑acc.length ∧
 acc.length ≤ (8 : Nat) ∧
 setZ (List.replicate (8 : Nat) (0 : Int)) (0 : Int)
 (hexW
 (cutZ l (2 : Int)
 ((2 : Int) +
 ↑(hexLen
 (List.drop (Int.toNat (2 : Int)) l))))) =
 pad acc ∧
 (-1 : Int) ≤ (0 : Int) + (1 : Int) ∧
 (0 : Int) + (1 : Int) ≤ (0 : Int) + (1 : Int) ∧
 (0 : Int) ≤
 (2 : Int) +
 ↑(hexLen
 (List.drop (Int.toNat (2 : Int)) l)) +
 (1 : Int) +
 (1 : Int) ∧
 (2 : Int) +
 ↑(hexLen
 (List.drop (Int.toNat (2 : Int)) l)) +
 (1 : Int) +
 (1 : Int) ≤
 ↑(List.length l) ∧
 six1 l ((9 : Nat) - acc.length) acc
 ((0 : Int) + (1 : Int))
 ((2 : Int) +
 ↑(hexLen
 (List.drop (Int.toNat (2 : Int)) l)) +
 (1 : Int) +
 (1 : Int)).toNat =
 six l) ∧
 ∀ (x : Int × Int × Int × List Int),
 (∃ (acc : List Int),
 x.1 = ↑acc.length ∧
 acc.length ≤ (8 : Nat) ∧
 x.2.2.2 = pad acc ∧
 (-1 : Int) ≤ x.2.1 ∧
 x.2.1 ≤ x.1 ∧
 (0 : Int) ≤ x.2.2.1 ∧
 x.2.2.1 ≤ ↑(List.length l) ∧
 six1 l ((9 : Nat) - acc.length) acc
 x.2.1 x.2.2.1.toNat =
 six l) →
 ((0 : Int) ≤ x.2.2.1 ∧
 x.2.2.1 ≤ ↑(List.length l) ∧ List.length l ≤ (1000000 : Nat)) ∧
 (decide
 (x.2.2.1 +
 ↑(hexLen
 (List.drop x.2.2.1.toNat l)) <
 lenZ l) =
 true →
 within
 (x.2.2.1 +
 ↑(hexLen (List.drop x.2.2.1.toNat l)))
 (lenZ l)) ∧
 ((bif
 decide
 (x.2.2.1 +
 ↑(hexLen
 (List.drop x.2.2.1.toNat l)) <
 lenZ l) then
 decide
 (byteZ l
 (x.2.2.1 +
 ↑(hexLen
 (List.drop x.2.2.1.toNat l))) =
 (46 : Int))
 else false) =
 true →
 upto x.2.2.1 (lenZ l) (lenZ l) ∧
 (dropZ l x.2.2.1).length.le (1000000 : Nat) ∧
 ((bif
 !dotO
 (dropZ l x.2.2.1) then
 true
 else decide ((6 : Int) < x.1)) =
 true →
 k
 (PV.tup
 [PV.arr (8 : Nat)
 (BRow.ints .u16
 (List.replicate (8 : Nat) (0 : Int))),
 PV.bool false])) ∧
 ((bif
 !dotO
 (dropZ l x.2.2.1) then
 true
 else decide ((6 : Int) < x.1)) =
 false →
 inI64 (x.1 + (1 : Int)) ∧
 (0 : Int) ≤ (16 : Int) ∧
 within x.1 ↑(8 : Nat) ∧
 (within x.1 ↑(8 : Nat) ∧ True) ∧
 within (x.1 + (1 : Int)) ↑(8 : Nat) ∧
 (within (x.1 + (1 : Int)) ↑(8 : Nat) ∧ True) ∧
 inI64 (x.1 + (2 : Int)) ∧
 ((bif decide (x.2.1 < (0 : Int)) then
 decide (x.1 + (2 : Int) = (8 : Int))
 else false) =
 true →
 k
 (PV.tup
 [PV.arr (8 : Nat)
 (BRow.ints .u16
 (setZ
 (setZ x.2.2.2 x.1
 (Go.IntKind.u16.wrap
 (shrZ .u32
 (dotV
 (dropZ l x.2.2.1))
 (16 : Int))))
 (x.1 + (1 : Int))
 (Go.IntKind.u16.wrap
 (dotV
 (dropZ l x.2.2.1))))),
 PV.bool true])) ∧
 ((bif decide (x.2.1 < (0 : Int)) then
 decide (x.1 + (2 : Int) = (8 : Int))
 else false) =
 false →
 ((bif decide ((0 : Int) ≤ x.2.1) then
 decide (x.1 + (2 : Int) < (8 : Int))
 else false) =
 true →
 ((setZ
 (setZ x.2.2.2 x.1
 (Go.IntKind.u16.wrap
 (shrZ .u32
 (dotV
 (dropZ l x.2.2.1))
 (16 : Int))))
 (x.1 + (1 : Int))
 (Go.IntKind.u16.wrap
 (dotV
 (dropZ l
 x.2.2.1)))).length =
 (8 : Nat) ∧
 (0 : Int) ≤ x.2.1 ∧
 x.2.1 ≤ x.1 + (2 : Int) ∧
 x.1 + (2 : Int) ≤ (7 : Int)) ∧
 k
 (PV.tup
 [PV.arr (8 : Nat)
 (BRow.ints .u16
 (spreadM
 (setZ
 (setZ x.2.2.2 x.1
 (Go.IntKind.u16.wrap
 (shrZ .u32
 (dotV
 (dropZ l
 x.2.2.1))
 (16 : Int))))
 (x.1 + (1 : Int))
 (Go.IntKind.u16.wrap
 (dotV
 (dropZ l
 x.2.2.1))))
 (x.1 + (2 : Int)).toNat
 x.2.1.toNat)),
 PV.bool true])) ∧
 ((bif decide ((0 : Int) ≤ x.2.1) then
 decide (x.1 + (2 : Int) < (8 : Int))
 else false) =
 false →
 k
 (PV.tup
 [PV.arr (8 : Nat)
 (BRow.ints .u16
 (List.replicate (8 : Nat) (0 : Int))),
 PV.bool false]))))) ∧
 ((bif
 decide
 (x.2.2.1 +
 ↑(hexLen
 (List.drop x.2.2.1.toNat l)) <
 lenZ l) then
 decide
 (byteZ l
 (x.2.2.1 +
 ↑(hexLen
 (List.drop x.2.2.1.toNat l))) =
 (46 : Int))
 else false) =
 false →
 ((bif decide (x.1 = (8 : Int)) then true
 else
 decide
 (x.2.2.1 +
 ↑(hexLen
 (List.drop x.2.2.1.toNat l)) =
 x.2.2.1)) =
 false →
 inI64 (x.2.2.1 + (4 : Int))) ∧
 ((bif
 bif decide (x.1 = (8 : Int)) then true
 else
 decide
 (x.2.2.1 +
 ↑(hexLen
 (List.drop x.2.2.1.toNat l)) =
 x.2.2.1) then
 true
 else
 decide
 (x.2.2.1 + (4 : Int) <
 x.2.2.1 +
 ↑(hexLen
 (List.drop x.2.2.1.toNat l)))) =
 true →
 k
 (PV.tup
 [PV.arr (8 : Nat)
 (BRow.ints .u16
 (List.replicate (8 : Nat) (0 : Int))),
 PV.bool false])) ∧
 ((bif
 bif decide (x.1 = (8 : Int)) then true
 else
 decide
 (x.2.2.1 +
 ↑(hexLen
 (List.drop x.2.2.1.toNat l)) =
 x.2.2.1) then
 true
 else
 decide
 (x.2.2.1 + (4 : Int) <
 x.2.2.1 +
 ↑(hexLen
 (List.drop x.2.2.1.toNat l)))) =
 false →
 upto x.2.2.1
 (x.2.2.1 +
 ↑(hexLen
 (List.drop x.2.2.1.toNat l)))
 (lenZ l) ∧
 ((cutZ l x.2.2.1
 (x.2.2.1 +
 ↑(hexLen
 (List.drop x.2.2.1.toNat l)))).length ≤
 (4 : Nat) ∧
 ∀ (i : Nat),
 i <
 (cutZ l x.2.2.1
 (x.2.2.1 +
 ↑(hexLen
 (List.drop x.2.2.1.toNat l)))).length →
 (0 : Int) ≤
 hexN
 (byt
 (cutZ l x.2.2.1
 (x.2.2.1 +
 ↑(hexLen
 (List.drop x.2.2.1.toNat l))))
 i)) ∧
 within x.1 ↑(8 : Nat) ∧
 (within x.1 ↑(8 : Nat) ∧ True) ∧
 inI64 (x.1 + (1 : Int)) ∧
 (decide
 (x.2.2.1 +
 ↑(hexLen
 (List.drop x.2.2.1.toNat l)) =
 lenZ l) =
 true →
 ((bif decide (x.2.1 < (0 : Int)) then
 decide (x.1 + (1 : Int) = (8 : Int))
 else false) =
 true →
 k
 (PV.tup
 [PV.arr (8 : Nat)
 (BRow.ints .u16
 (setZ x.2.2.2 x.1
 (hexW
 (cutZ l x.2.2.1
 (x.2.2.1 +
 ↑(hexLen
 (List.drop x.2.2.1.toNat
 l))))))),
 PV.bool true])) ∧
 ((bif decide (x.2.1 < (0 : Int)) then
 decide (x.1 + (1 : Int) = (8 : Int))
 else false) =
 false →
 ((bif decide ((0 : Int) ≤ x.2.1) then
 decide (x.1 + (1 : Int) < (8 : Int))
 else false) =
 true →
 ((setZ x.2.2.2 x.1
 (hexW
 (cutZ l x.2.2.1
 (x.2.2.1 +
 ↑(hexLen
 (List.drop x.2.2.1.toNat
 l)))))).length =
 (8 : Nat) ∧
 (0 : Int) ≤ x.2.1 ∧
 x.2.1 ≤ x.1 + (1 : Int) ∧
 x.1 + (1 : Int) ≤ (7 : Int)) ∧
 k
 (PV.tup
 [PV.arr (8 : Nat)
 (BRow.ints .u16
 (spreadM
 (setZ x.2.2.2 x.1
 (hexW
 (cutZ l x.2.2.1
 (x.2.2.1 +
 ↑(hexLen
 (List.drop
 x.2.2.1.toNat
 l))))))
 (x.1 + (1 : Int)).toNat
 x.2.1.toNat)),
 PV.bool true])) ∧
 ((bif decide ((0 : Int) ≤ x.2.1) then
 decide (x.1 + (1 : Int) < (8 : Int))
 else false) =
 false →
 k
 (PV.tup
 [PV.arr (8 : Nat)
 (BRow.ints .u16
 (List.replicate (8 : Nat) (0 : Int))),
 PV.bool false])))) ∧
 (decide
 (x.2.2.1 +
 ↑(hexLen
 (List.drop x.2.2.1.toNat l)) =
 lenZ l) =
 false →
 within
 (x.2.2.1 +
 ↑(hexLen
 (List.drop x.2.2.1.toNat l)))
 (lenZ l) ∧
 ((!decide
 (byteZ l
 (x.2.2.1 +
 ↑(hexLen
 (List.drop x.2.2.1.toNat l))) =
 (58 : Int))) =
 false →
 inI64
 (x.2.2.1 +
 ↑(hexLen
 (List.drop x.2.2.1.toNat l)) +
 (1 : Int))) ∧
 ((bif
 !decide
 (byteZ l
 (x.2.2.1 +
 ↑(hexLen
 (List.drop x.2.2.1.toNat
 l))) =
 (58 : Int)) then
 true
 else
 decide
 (x.2.2.1 +
 ↑(hexLen
 (List.drop x.2.2.1.toNat l)) +
 (1 : Int) =
 lenZ l)) =
 true →
 k
 (PV.tup
 [PV.arr (8 : Nat)
 (BRow.ints .u16
 (List.replicate (8 : Nat) (0 : Int))),
 PV.bool false])) ∧
 ((bif
 !decide
 (byteZ l
 (x.2.2.1 +
 ↑(hexLen
 (List.drop x.2.2.1.toNat
 l))) =
 (58 : Int)) then
 true
 else
 decide
 (x.2.2.1 +
 ↑(hexLen
 (List.drop x.2.2.1.toNat l)) +
 (1 : Int) =
 lenZ l)) =
 false →
 inI64
 (x.2.2.1 +
 ↑(hexLen
 (List.drop x.2.2.1.toNat l)) +
 (1 : Int)) ∧
 within
 (x.2.2.1 +
 ↑(hexLen
 (List.drop x.2.2.1.toNat l)) +
 (1 : Int))
 (lenZ l) ∧
 ((!decide
 (byteZ l
 (x.2.2.1 +
 ↑(hexLen
 (List.drop
 x.2.2.1.toNat
 l)) +
 (1 : Int)) =
 (58 : Int))) =
 true →
 EqS (VS.mk []
 [((0 : Nat), PV.str l),
 ((2 : Nat),
 PV.ptr (34 : Nat)
 (0 : Nat)),
 ((3 : Nat), PV.bool false),
 ((4 : Nat),
 PV.ptr (36 : Nat)
 (0 : Nat)),
 ((5 : Nat),
 PV.int .u32
 (0 : Int)),
 ((6 : Nat), PV.bool false),
 ((7 : Nat),
 PV.int .i64
 (x.1 + (1 : Int))),
 ((8 : Nat),
 PV.int .i64
 x.2.1),
 ((9 : Nat),
 PV.int .i64
 (x.2.2.1 +
 ↑(hexLen
 (List.drop
 x.2.2.1.toNat
 l)) +
 (1 : Int))),
 ((10 : Nat), PV.undef),
 ((13 : Nat), PV.undef),
 ((17 : Nat), PV.undef),
 ((30 : Nat), PV.undef),
 ((43 : Nat), PV.undef),
 ((56 : Nat), PV.undef),
 ((67 : Nat), PV.undef),
 ((73 : Nat), PV.undef),
 ((75 : Nat), PV.undef),
 ((82 : Nat), PV.undef),
 ((95 : Nat), PV.undef),
 ((113 : Nat), PV.undef),
 ((120 : Nat), PV.undef)]
 [((36 : Nat),
 PV.arr (8 : Nat)
 (BRow.ints .u16
 (setZ x.2.2.2
 x.1
 (hexW
 (cutZ l
 x.2.2.1
 (x.2.2.1 +
 ↑(hexLen
 (List.drop
 x.2.2.1.toNat
 l)))))))),
 ((34 : Nat),
 PV.arr (8 : Nat)
 (BRow.ints .u16
 (List.replicate (8 : Nat)
 (0 : Int))))]) ∧
 (∃ (acc : List Int),
 x.1 + (1 : Int) = ↑acc.length ∧
 acc.length ≤ (8 : Nat) ∧
 setZ x.2.2.2 x.1
 (hexW
 (cutZ l
 x.2.2.1
 (x.2.2.1 +
 ↑(hexLen
 (List.drop
 x.2.2.1.toNat
 l))))) =
 pad
 acc ∧
 (-1 : Int) ≤ x.2.1 ∧
 x.2.1 ≤
 x.1 + (1 : Int) ∧
 (0 : Int) ≤
 x.2.2.1 +
 ↑(hexLen
 (List.drop
 x.2.2.1.toNat
 l)) +
 (1 : Int) ∧
 x.2.2.1 +
 ↑(hexLen
 (List.drop
 x.2.2.1.toNat
 l)) +
 (1 : Int) ≤
 ↑(List.length l) ∧
 six1
 l
 ((9 : Nat) -
 acc.length)
 acc x.2.1
 (x.2.2.1 +
 ↑(hexLen
 (List.drop
 x.2.2.1.toNat
 l)) +
 (1 :
 Int)).toNat =
 six
 l) ∧
 ((9 : Int) -
 (x.1 + (1 : Int))).toNat <
 ((9 : Int) - x.1).toNat) ∧
 ((!decide
 (byteZ l
 (x.2.2.1 +
 ↑(hexLen
 (List.drop
 x.2.2.1.toNat
 l)) +
 (1 : Int)) =
 (58 : Int))) =
 false →
 (decide ((0 : Int) ≤ x.2.1) = true →
 k
 (PV.tup
 [PV.arr (8 : Nat)
 (BRow.ints .u16
 (List.replicate (8 : Nat)
 (0 : Int))),
 PV.bool false])) ∧
 (decide ((0 : Int) ≤ x.2.1) = false →
 inI64
 (x.2.2.1 +
 ↑(hexLen
 (List.drop
 x.2.2.1.toNat
 l)) +
 (1 : Int) +
 (1 : Int)) ∧
 (decide
 (x.2.2.1 +
 ↑(hexLen
 (List.drop
 x.2.2.1.toNat
 l)) +
 (1 : Int) +
 (1 : Int) <
 lenZ l) =
 true →
 EqS (VS.mk []
 [((0 : Nat),
 PV.str l),
 ((2 : Nat),
 PV.ptr (34 : Nat)
 (0 : Nat)),
 ((3 : Nat),
 PV.bool false),
 ((4 : Nat),
 PV.ptr (36 : Nat)
 (0 : Nat)),
 ((5 : Nat),
 PV.int
 .u32
 (0 : Int)),
 ((6 : Nat),
 PV.bool false),
 ((7 : Nat),
 PV.int
 .i64
 (x.1 + (1 : Int))),
 ((8 : Nat),
 PV.int
 .i64
 (x.1 + (1 : Int))),
 ((9 : Nat),
 PV.int
 .i64
 (x.2.2.1 +
 ↑(hexLen
 (List.drop
 x.2.2.1.toNat
 l)) +
 (1 : Int) +
 (1 : Int))),
 ((10 : Nat),
 PV.undef),
 ((13 : Nat),
 PV.undef),
 ((17 : Nat),
 PV.undef),
 ((30 : Nat),
 PV.undef),
 ((43 : Nat),
 PV.undef),
 ((56 : Nat),
 PV.undef),
 ((67 : Nat),
 PV.undef),
 ((73 : Nat),
 PV.undef),
 ((75 : Nat),
 PV.undef),
 ((82 : Nat),
 PV.undef),
 ((95 : Nat),
 PV.undef),
 ((113 : Nat),
 PV.undef),
 ((120 : Nat),
 PV.undef)]
 [((36 : Nat),
 PV.arr (8 : Nat)
 (BRow.ints
 .u16
 (setZ
 x.2.2.2
 x.1
 (hexW
 (cutZ l
 x.2.2.1
 (x.2.2.1 +
 ↑(hexLen
 (List.drop
 x.2.2.1.toNat
 l)))))))),
 ((34 : Nat),
 PV.arr (8 : Nat)
 (BRow.ints
 .u16
 (List.replicate
 (8 : Nat)
 (0 : Int))))]) ∧
 (∃ (acc : List Int),
 x.1 + (1 : Int) =
 ↑acc.length ∧
 acc.length ≤ (8 : Nat) ∧
 setZ x.2.2.2
 x.1
 (hexW
 (cutZ l
 x.2.2.1
 (x.2.2.1 +
 ↑(hexLen
 (List.drop
 x.2.2.1.toNat
 l))))) =
 pad
 acc ∧
 (-1 : Int) ≤
 x.1 +
 (1 : Int) ∧
 x.1 + (1 : Int) ≤
 x.1 +
 (1 : Int) ∧
 (0 : Int) ≤
 x.2.2.1 +
 ↑(hexLen
 (List.drop
 x.2.2.1.toNat
 l)) +
 (1 :
 Int) +
 (1 : Int) ∧
 x.2.2.1 +
 ↑(hexLen
 (List.drop
 x.2.2.1.toNat
 l)) +
 (1 :
 Int) +
 (1 :
 Int) ≤
 ↑(List.length
 l) ∧
 six1
 l
 ((9 :
 Nat) -
 acc.length)
 acc
 (x.1 +
 (1 :
 Int))
 (x.2.2.1 +
 ↑(hexLen
 (List.drop
 x.2.2.1.toNat
 l)) +
 (1 :
 Int) +
 (1 :
 Int)).toNat =
 six
 l) ∧
 ((9 : Int) -
 (x.1 +
 (1 : Int))).toNat <
 ((9 : Int) - x.1).toNat) ∧
 (decide
 (x.2.2.1 +
 ↑(hexLen
 (List.drop
 x.2.2.1.toNat
 l)) +
 (1 : Int) +
 (1 : Int) <
 lenZ l) =
 false →
 ((bif
 decide
 (x.1 + (1 : Int) <
 (0 : Int)) then
 decide
 (x.1 + (1 : Int) =
 (8 : Int))
 else false) =
 true →
 k
 (PV.tup
 [PV.arr (8 : Nat)
 (BRow.ints
 .u16
 (setZ
 x.2.2.2
 x.1
 (hexW
 (cutZ l
 x.2.2.1
 (x.2.2.1 +
 ↑(hexLen
 (List.drop
 x.2.2.1.toNat
 l))))))),
 PV.bool true])) ∧
 ((bif
 decide
 (x.1 + (1 : Int) <
 (0 : Int)) then
 decide
 (x.1 + (1 : Int) =
 (8 : Int))
 else false) =
 false →
 ((bif
 decide
 ((0 : Int) ≤
 x.1 +
 (1 :
 Int)) then
 decide
 (x.1 + (1 : Int) <
 (8 : Int))
 else false) =
 true →
 ((setZ x.2.2.2
 x.1
 (hexW
 (cutZ l
 x.2.2.1
 (x.2.2.1 +
 ↑(hexLen
 (List.drop
 x.2.2.1.toNat
 l)))))).length =
 (8 : Nat) ∧
 (0 : Int) ≤
 x.1 +
 (1 : Int) ∧
 x.1 + (1 : Int) ≤
 x.1 +
 (1 : Int) ∧
 x.1 +
 (1 : Int) ≤
 (7 : Int)) ∧
 k
 (PV.tup
 [PV.arr
 (8 : Nat)
 (BRow.ints
 .u16
 (spreadM
 (setZ
 x.2.2.2
 x.1
 (hexW
 (cutZ
 l
 x.2.2.1
 (x.2.2.1 +
 ↑(hexLen
 (List.drop
 x.2.2.1.toNat
 l))))))
 (x.1 +
 (1 :
 Int)).toNat
 (x.1 +
 (1 :
 Int)).toNat)),
 PV.bool
 true])) ∧
 ((bif
 decide
 ((0 : Int) ≤
 x.1 +
 (1 :
 Int)) then
 decide
 (x.1 + (1 : Int) <
 (8 : Int))
 else false) =
 false →
 k
 (PV.tup
 [PV.arr
 (8 : Nat)
 (BRow.ints
 .u16
 (List.replicate
 (8 : Nat)
 (0 : Int))),
 PV.bool
 false]))))))))))) ∧
 (decide
 ((2 : Int) + ↑(hexLen (List.drop (Int.toNat (2 : Int)) l)) +
 (1 : Int) +
 (1 : Int) <
 lenZ l) =
 false →
 (false = true →
 k
 (PV.tup
 [PV.arr (8 : Nat)
 (BRow.ints .u16
 (setZ (List.replicate (8 : Nat) (0 : Int)) (0 : Int)
 (hexW
 (cutZ l (2 : Int)
 ((2 : Int) +
 ↑(hexLen
 (List.drop (Int.toNat (2 : Int)) l))))))),
 PV.bool true])) ∧
 (false = false →
 (decide ((0 : Int) + (1 : Int) < (8 : Int)) = true →
 ((setZ (List.replicate (8 : Nat) (0 : Int)) (0 : Int)
 (hexW
 (cutZ l (2 : Int)
 ((2 : Int) +
 ↑(hexLen
 (List.drop (Int.toNat (2 : Int)) l)))))).length =
 (8 : Nat) ∧
 (0 : Int) ≤ (0 : Int) + (1 : Int) ∧
 (0 : Int) + (1 : Int) ≤ (0 : Int) + (1 : Int) ∧
 (0 : Int) + (1 : Int) ≤ (7 : Int)) ∧
 k
 (PV.tup
 [PV.arr (8 : Nat)
 (BRow.ints .u16
 (spreadM
 (setZ (List.replicate (8 : Nat) (0 : Int)) (0 : Int)
 (hexW
 (cutZ l (2 : Int)
 ((2 : Int) +
 ↑(hexLen
 (List.drop (Int.toNat (2 : Int)) l))))))
 ((0 : Int) + (1 : Int)).toNat ((0 : Int) + (1 : Int)).toNat)),
 PV.bool true])) ∧
 (decide ((0 : Int) + (1 : Int) < (8 : Int)) = false →
 k
 (PV.tup
 [PV.arr (8 : Nat)
 (BRow.ints .u16 (List.replicate (8 : Nat) (0 : Int))),
 PV.bool false]))))))))))))) := by kernel_rfl
attribute [local irreducible] Go.Vc.evF
theorem ok_parse6 (l : Bs) : FuncOk Tryd.prog noT 17 [.str l] ⟨l.length ≤ 1000000, .tup [.arr 8 (.ints .u16 (six l).1), .bool (six l).2]⟩ := evF_ok (by kernel_rfl) X_parse6_ok (H := H_parse6 l) (fuel := 1000) Tryd.func17 (by kernel_rfl) fun hpre => (vc_parse6 l _).mpr (by
  refine ⟨trivial, fun hp => ⟨rfl, ⟨[], rfl, by decide, rfl, by omega, by omega, by omega, by omega, ?_⟩, fun x hx => ?_⟩, fun hp => ⟨fun h2 => ?_, fun h2 => ?_⟩⟩
  · rw [notB6] at hp
    have hp2 : ¬ Lib.hasPrefix l [58, 58] = true := hp
    show six1 l 9 [] (-1) 0 = six l
    unfold six
    rw [if_neg hp2]
  · obtain ⟨c, g, a, p⟩ := x
    obtain ⟨acc, hC, h8, hp', g1, g2, a0, a1, hs⟩ := hx
    dsimp only at hC hp' g1 g2 a0 a1 hs
    subst hC hp'
    obtain ⟨i, rfl⟩ := Int.eq_ofNat_of_zero_le a0
    rw [Int.toNat_natCast] at hs
    have hE : (i : Int) + ((hexLen (l.drop ((i : Int).toNat)) : Nat) : Int) = ((i + hexLen (l.drop i) : Nat) : Int) := by rw [Int.toNat_natCast]; push_cast; rfl
    refine body6_ok (fun v => v = .tup [.arr 8 (.ints .u16 (six l).1), .bool (six l).2]) _ _ l g i (i + hexLen (l.drop i)) acc (six l) hpre h8 g1 g2 (by omega) rfl hs rfl (fun a h1 h2 h3 h4 h5 => ?_) (fun a h1 h2 h3 h4 h5 => ?_)
    · exact ⟨rfl, ⟨a, by rw [h1]; push_cast; rfl, h3, by rw [hE]; exact h2, g1, by dsimp only; omega, by dsimp only; omega, by dsimp only; rw [hE]; omega, by rw [hE, show ((i + hexLen (l.drop i) : Nat) : Int) + 1 = ((i + hexLen (l.drop i) + 1 : Nat) : Int) by push_cast; rfl, Int.toNat_natCast]; exact h5⟩, by dsimp only; omega⟩
    · exact ⟨rfl, ⟨a, by rw [h1]; push_cast; rfl, h3, by rw [hE]; exact h2, by dsimp only; omega, by dsimp only; omega, by dsimp only; omega, by dsimp only; rw [hE]; omega, by rw [hE, show ((i + hexLen (l.drop i) : Nat) : Int) + 1 + 1 = ((i + hexLen (l.drop i) + 2 : Nat) : Int) by push_cast; omega, Int.toNat_natCast]; exact h5⟩, by dsimp only; omega⟩
  · have hp2 : Lib.hasPrefix l [58, 58] = true := by
      have hp3 : (!Lib.hasPrefix l [58, 58]) = false := hp
      rw [Bool.not_eq_false'] at hp3
      exact hp3
    have h3 : l.length = 2 := by have h4 : (2 : Int) = (l.length : Int) := of_decide_eq_true h2; omega
    have h5 : six l = (spreadM (pad []) 0 0, true) := by unfold six; rw [if_pos hp2, if_pos h3]; rfl
    refine ⟨(fun h => by cases h), fun _ => ⟨fun _ => ⟨⟨rfl, by omega, by omega, by omega⟩, ?_⟩, (fun h => by cases h)⟩⟩
    show PV.tup _ = PV.tup _
    rw [h5]
    rfl
  · have hp2 : Lib.hasPrefix l [58, 58] = true := by
      have hp3 : (!Lib.hasPrefix l [58, 58]) = false := hp
      rw [Bool.not_eq_false'] at hp3
      exact hp3
    have h3 : ¬ l.length = 2 := by have h4 : ¬ (2 : Int) = (l.length : Int) := of_decide_eq_false h2; omega
    have h5 : six1 l 9 [] 0 2 = six l := by unfold six; rw [if_pos hp2, if_neg h3]
    have h6 : 2 ≤ l.length := pre_len hp2
    refine body6_ok (fun v => v = .tup [.arr 8 (.ints .u16 (six l).1), .bool (six l).2]) _ _ l 0 2 (2 + hexLen (l.drop 2)) [] (six l) hpre (by decide) (by omega) (by simp) h6 rfl h5 rfl (fun a h1 h2 h3 h4 h5 => ?_) (fun a h1 h2 h3 h4 h5 => ?_)
    · refine ⟨rfl, ⟨a, by rw [h1]; rfl, h3, h2, by omega, by omega, by omega, by show (2 : Int) + ((hexLen (l.drop 2) : Nat) : Int) + 1 ≤ _; omega, ?_⟩, fun x hx => ?_⟩
      · rw [show ((2 : Int) + ((hexLen (l.drop (Int.toNat 2)) : Nat) : Int) + 1).toNat = 2 + hexLen (l.drop 2) + 1 by show ((2 : Int) + ((hexLen (l.drop 2) : Nat) : Int) + 1).toNat = _; omega]
        exact h5
      · obtain ⟨c, g, a, p⟩ := x
        obtain ⟨acc, hC, h8, hp', g1, g2, a0, a1, hs⟩ := hx
        dsimp only at hC hp' g1 g2 a0 a1 hs
        subst hC hp'
        obtain ⟨i, rfl⟩ := Int.eq_ofNat_of_zero_le a0
        rw [Int.toNat_natCast] at hs
        have hE : (i : Int) + ((hexLen (l.drop ((i : Int).toNat)) : Nat) : Int) = ((i + hexLen (l.drop i) : Nat) : Int) := by rw [Int.toNat_natCast]; push_cast; rfl
        refine body6_ok (fun v => v = .tup [.arr 8 (.ints .u16 (six l).1), .bool (six l).2]) _ _ l g i (i + hexLen (l.drop i)) acc (six l) hpre h8 g1 g2 (by omega) rfl hs rfl (fun a h1 h2 h3 h4 h5 => ?_) (fun a h1 h2 h3 h4 h5 => ?_)
        · exact ⟨rfl, ⟨a, by rw [h1]; push_cast; rfl, h3, by rw [hE]; exact h2, g1, by dsimp only; omega, by dsimp only; omega, by dsimp only; rw [hE]; omega, by rw [hE, show ((i + hexLen (l.drop i) : Nat) : Int) + 1 = ((i + hexLen (l.drop i) + 1 : Nat) : Int) by push_cast; rfl, Int.toNat_natCast]; exact h5⟩, by dsimp only; omega⟩
        · exact ⟨rfl, ⟨a, by rw [h1]; push_cast; rfl, h3, by rw [hE]; exact h2, by dsimp only; omega, by dsimp only; omega, by dsimp only; omega, by dsimp only; rw [hE]; omega, by rw [hE, show ((i + hexLen (l.drop i) : Nat) : Int) + 1 + 1 = ((i + hexLen (l.drop i) + 2 : Nat) : Int) by push_cast; omega, Int.toNat_natCast]; exact h5⟩, by dsimp only; omega⟩
    · refine ⟨rfl, ⟨a, by rw [h1]; rfl, h3, h2, by omega, by omega, by omega, by show (2 : Int) + ((hexLen (l.drop 2) : Nat) : Int) + 1 + 1 ≤ _; omega, ?_⟩, fun x hx => ?_⟩
      · rw [show ((2 : Int) + ((hexLen (l.drop (Int.toNat 2)) : Nat) : Int) + 1 + 1).toNat = 2 + hexLen (l.drop 2) + 2 by show ((2 : Int) + ((hexLen (l.drop 2) : Nat) : Int) + 1 + 1).toNat = _; omega]
        exact h5
      · obtain ⟨c, g, a, p⟩ := x
        obtain ⟨acc, hC, h8, hp', g1, g2, a0, a1, hs⟩ := hx
        dsimp only at hC hp' g1 g2 a0 a1 hs
        subst hC hp'
        obtain ⟨i, rfl⟩ := Int.eq_ofNat_of_zero_le a0
        rw [Int.toNat_natCast] at hs
        have hE : (i : Int) + ((hexLen (l.drop ((i : Int).toNat)) : Nat) : Int) = ((i + hexLen (l.drop i) : Nat) : Int) := by rw [Int.toNat_natCast]; push_cast; rfl
        refine body6_ok (fun v => v = .tup [.arr 8 (.ints .u16 (six l).1), .bool (six l).2]) _ _ l g i (i + hexLen (l.drop i)) acc (six l) hpre h8 g1 g2 (by omega) rfl hs rfl (fun a h1 h2 h3 h4 h5 => ?_) (fun a h1 h2 h3 h4 h5 => ?_)
        · exact ⟨rfl, ⟨a, by rw [h1]; push_cast; rfl, h3, by rw [hE]; exact h2, g1, by dsimp only; omega, by dsimp only; omega, by dsimp only; rw [hE]; omega, by rw [hE, show ((i + hexLen (l.drop i) : Nat) : Int) + 1 = ((i + hexLen (l.drop i) + 1 : Nat) : Int) by push_cast; rfl, Int.toNat_natCast]; exact h5⟩, by dsimp only; omega⟩
        · exact ⟨rfl, ⟨a, by rw [h1]; push_cast; rfl, h3, by rw [hE]; exact h2, by dsimp only; omega, by dsimp only; omega, by dsimp only; omega, by dsimp only; rw [hE]; omega, by rw [hE, show ((i + hexLen (l.drop i) : Nat) : Int) + 1 + 1 = ((i + hexLen (l.drop i) + 2 : Nat) : Int) by push_cast; omega, Int.toNat_natCast]; exact h5⟩, by dsimp only; omega⟩)
def ent_parse6 : List PV → Option CallR := fun xs => match xs with
  | [.str l] => some ⟨l.length ≤ 1000000, .tup [.arr 8 (.ints .u16 (six l).1), .bool (six l).2]⟩
  | _ => none
theorem ent_parse6_ok : ∀ xs c, ent_parse6 xs = some c → FuncOk Tryd.prog noT 17 xs c := fun xs c h => by
  unfold ent_parse6 at h
  split at h
  · injection h with h; subst h; exact ok_parse6 _
  · cases h
end
section
def X_digit : Tbl := tblX []
def H_digit (z : Int) : Loops := fun i => none
theorem X_digit_ok : XOk Tryd.prog noT X_digit := tblX_nil
theorem vc_digit (z : Int) (k : PV → Prop) : evF Tryd.prog X_digit noT (H_digit z) 1000 Tryd.f56 [.int .u8 z] k = (
  k (PV.bool (bif decide ((48 : Int) ≤ z) then decide (z ≤ (57 : Int)) else false))) := by kernel_rfl
attribute [local irreducible] Go.Vc.evF
theorem ok_digit (z : Int) : FuncOk Tryd.prog noT 56 [.int .u8 z] ⟨True, .bool (decide (48 ≤ z ∧ z ≤ 57))⟩ := evF_ok (by kernel_rfl) X_digit_ok (H := H_digit z) (fuel := 1000) Tryd.func56 (by kernel_rfl) fun hpre => (vc_digit z _).mpr (by
  show PV.bool _ = PV.bool _
  congr 1
  by_cases h : 48 ≤ z <;> simp [h])
def ent_digit : List PV → Option CallR := fun xs => match xs with
  | [.int .u8 z] => some ⟨True, .bool (decide (48 ≤ z ∧ z ≤ 57))⟩
  | _ => none
theorem ent_digit_ok : ∀ xs c, ent_digit xs = some c → FuncOk Tryd.prog noT 56 xs c := fun xs c h => by
  unfold ent_digit at h
  split at h
  · injection h with h; subst h; exact ok_digit _
  · cases h
end
section
def hxZ (z : Int) : Int := if 48 ≤ z ∧ z ≤ 57 then z - 48 else if 97 ≤ z ∧ z ≤ 102 then z - 87 else if 65 ≤ z ∧ z ≤ 70 then z - 55 else -1
def X_hex : Tbl := tblX [(56, ent_digit)]
def H_hex (z : Int) : Loops := fun i => none
theorem X_hex_ok : XOk Tryd.prog noT X_hex := tblX_cons ent_digit_ok (tblX_nil)
theorem vc_hex (z : Int) (k : PV → Prop) : evF Tryd.prog X_hex noT (H_hex z) 1000 Tryd.f36 [.int .u8 z] k = (
  True ∧
 (decide ((48 : Int) ≤ z ∧ z ≤ (57 : Int)) = true → k (PV.int .i64 (Go.IntKind.i64.wrap (Go.IntKind.u8.wrap (z - (48 : Int)))))) ∧
 (decide ((48 : Int) ≤ z ∧ z ≤ (57 : Int)) = false →
 ((bif decide ((97 : Int) ≤ z) then decide (z ≤ (102 : Int)) else false) = true →
 inI64 (Go.IntKind.i64.wrap (Go.IntKind.u8.wrap (z - (97 : Int))) + (10 : Int)) ∧
 k (PV.int .i64 (Go.IntKind.i64.wrap (Go.IntKind.u8.wrap (z - (97 : Int))) + (10 : Int)))) ∧
 ((bif decide ((97 : Int) ≤ z) then decide (z ≤ (102 : Int)) else false) = false →
 ((bif decide ((65 : Int) ≤ z) then decide (z ≤ (70 : Int)) else false) = true →
 inI64 (Go.IntKind.i64.wrap (Go.IntKind.u8.wrap (z - (65 : Int))) + (10 : Int)) ∧
 k (PV.int .i64 (Go.IntKind.i64.wrap (Go.IntKind.u8.wrap (z - (65 : Int))) + (10 : Int)))) ∧
 ((bif decide ((65 : Int) ≤ z) then decide (z ≤ (70 : Int)) else false) = false → k (PV.int .i64 (-1 : Int)))))) := by kernel_rfl
attribute [local irreducible] Go.Vc.evF
theorem ok_hex (z : Int) : FuncOk Tryd.prog noT 36 [.int .u8 z] ⟨0 ≤ z ∧ z ≤ 255, .int .i64 (hxZ z)⟩ := evF_ok (by kernel_rfl) X_hex_ok (H := H_hex z) (fuel := 1000) Tryd.func36 (by kernel_rfl) fun hpre => (vc_hex z _).mpr (by
  have w8 : ∀ a : Int, 0 ≤ a ∧ a ≤ 15 → IntKind.u8.wrap a = a := fun a h => IntWalk.u8_in _ (by omega)
  have w64 : ∀ a : Int, 0 ≤ a ∧ a ≤ 15 → IntKind.i64.wrap a = a := fun a h => IntWalk.i64_in _ (by omega)
  have yes : ∀ a b : Int, (bif decide (a ≤ z) then decide (z ≤ b) else false) = true → a ≤ z ∧ z ≤ b := fun a b h => by
    cases e : decide (a ≤ z) with
    | false => rw [e] at h; cases h
    | true => rw [e] at h; exact ⟨of_decide_eq_true e, of_decide_eq_true h⟩
  have no : ∀ a b : Int, (bif decide (a ≤ z) then decide (z ≤ b) else false) = false → ¬ (a ≤ z ∧ z ≤ b) := fun a b h g => by
    rw [decide_eq_true g.1, decide_eq_true g.2] at h
    cases h
  refine ⟨trivial, fun h => ?_, fun h => ⟨fun h2 => ?_, fun h2 => ⟨fun h3 => ?_, fun h3 => ?_⟩⟩⟩
  · have h1 := of_decide_eq_true h
    rw [w8 _ (by omega), w64 _ (by omega)]
    unfold hxZ; rw [if_pos h1]
  · have h1 := of_decide_eq_false h
    have h4 := yes _ _ h2
    rw [w8 _ (by omega), w64 _ (by omega)]
    refine ⟨by unfold inI64; omega, ?_⟩
    unfold hxZ; rw [if_neg h1, if_pos h4]; congr 1; omega
  · have h1 := of_decide_eq_false h
    have h5 := no _ _ h2
    have h4 := yes _ _ h3
    rw [w8 _ (by omega), w64 _ (by omega)]
    refine ⟨by unfold inI64; omega, ?_⟩
    unfold hxZ; rw [if_neg h1, if_neg h5, if_pos h4]; congr 1; omega
  · have h1 := of_decide_eq_false h
    unfold hxZ; rw [if_neg h1, if_neg (no _ _ h2), if_neg (no _ _ h3)])
def ent_hex : List PV → Option CallR := fun xs => match xs with
  | [.int .u8 z] => some ⟨0 ≤ z ∧ z ≤ 255, .int .i64 (hxZ z)⟩
  | _ => none
theorem ent_hex_ok : ∀ xs c, ent_hex xs = some c → FuncOk Tryd.prog noT 36 xs c := fun xs c h => by
  unfold ent_hex at h
  split at h
  · injection h with h; subst h; exact ok_hex _
  · cases h
end
section
def decP : Bs → Bs
  | [] => []
  | b :: r => match r with
    | h :: g :: t => if b.toNat = 37 ∧ 0 ≤ hxZ h.toNat ∧ 0 ≤ hxZ g.toNat then zByte (hxZ h.toNat * 16 + hxZ g.toNat) :: decP t else b :: decP (h :: g :: t)
    | [h] => [b, h]
    | [] => [b]
theorem decP_cons (b : UInt8) (r : Bs) : decP (b :: r) = if b.toNat = 37 ∧ 2 ≤ r.length ∧ 0 ≤ hxZ (byt r 0) ∧ 0 ≤ hxZ (byt r 1) then zByte (hxZ (byt r 0) * 16 + hxZ (byt r 1)) :: decP (r.drop 2) else b :: decP r := by
  match r with
  | [] => rw [if_neg (fun h => by have := h.2.1; simp at this)]; rfl
  | [h] => rw [if_neg (fun h => by have := h.2.1; simp at this)]; rfl
  | h :: g :: t =>
    show (if b.toNat = 37 ∧ 0 ≤ hxZ h.toNat ∧ 0 ≤ hxZ g.toNat then zByte (hxZ h.toNat * 16 + hxZ g.toNat) :: decP t else b :: decP (h :: g :: t)) = _
    have e0 : byt (h :: g :: t) 0 = (h.toNat : Int) := rfl
    have e1 : byt (h :: g :: t) 1 = (g.toNat : Int) := rfl
    rw [e0, e1]
    by_cases hc : b.toNat = 37 ∧ 0 ≤ hxZ h.toNat ∧ 0 ≤ hxZ g.toNat
    · rw [if_pos hc, if_pos ⟨hc.1, by simp, hc.2.1, hc.2.2⟩]; rfl
    · rw [if_neg hc, if_neg (fun h => hc ⟨h.1, h.2.2.1, h.2.2.2⟩)]
theorem hxZ_le (z : Int) : hxZ z ≤ 15 := by unfold hxZ; repeat' split; all_goals omega
theorem or_hex {h g : Int} (h0 : 0 ≤ h) (h1 : h ≤ 15) (g0 : 0 ≤ g) (g1 : g ≤ 15) : IntKind.u8.wrap (bitsZ .or .i64 (shlZ .i64 h 4) g) = h * 16 + g := by
  have key : ∀ a b : Fin 16, IntKind.u8.wrap (bitsZ .or .i64 (shlZ .i64 (a.val : Int) 4) (b.val : Int)) = (a.val : Int) * 16 + (b.val : Int) := by decide +kernel
  have := key ⟨h.toNat, by omega⟩ ⟨g.toNat, by omega⟩
  dsimp only at this
  rw [show ((h.toNat : Nat) : Int) = h by omega, show ((g.toNat : Nat) : Int) = g by omega] at this
  exact this
theorem byZ_at (l : Bs) (j : Nat) : byteZ l (j : Int) = byt l j := rfl
theorem drop_byt (l : Bs) (j : Nat) (h : j < l.length) : l.drop j = zByte (byt l j) :: l.drop (j + 1) := by
  rw [List.drop_eq_getElem_cons h]
  congr 1
  show _ = zByte (byteZ l (j : Int))
  rw [zByte_byteZ]
  rw [List.getD_eq_getElem?_getD, Int.toNat_natCast, List.getElem?_eq_getElem h]; rfl
theorem byt_drop' (l : Bs) (i j : Nat) : byt (l.drop i) j = byt l (i + j) := by unfold byt; rw [List.getD_eq_getElem?_getD, List.getD_eq_getElem?_getD, List.getElem?_drop]
theorem zB_nat {b : Int} (h0 : 0 ≤ b) (h1 : b ≤ 255) : (((zByte b).toNat : Nat) : Int) = b := by
  unfold zByte
  rw [show (UInt8.ofNat b.toNat).toNat = b.toNat % 256 from UInt8.toNat_ofNat' ..]
  omega
theorem byt_range (l : Bs) (j : Nat) : 0 ≤ byt l j ∧ byt l j ≤ 255 := byteZ_range l (j : Int)
theorem decP_at (l : Bs) (j : Nat) (h : j < l.length) : decP (l.drop j) = if byt l j = 37 ∧ j + 2 < l.length ∧ 0 ≤ hxZ (byt l (j + 1)) ∧ 0 ≤ hxZ (byt l (j + 2)) then zByte (hxZ (byt l (j + 1)) * 16 + hxZ (byt l (j + 2))) :: decP (l.drop (j + 3)) else zByte (byt l j) :: decP (l.drop (j + 1)) := by
  have hr := byt_range l j
  have e : ((zByte (byt l j)).toNat = 37) ↔ byt l j = 37 := by have := zB_nat hr.1 hr.2; omega
  rw [drop_byt l j h, decP_cons, byt_drop', byt_drop', List.length_drop, List.drop_drop]
  by_cases hc : byt l j = 37 ∧ j + 2 < l.length ∧ 0 ≤ hxZ (byt l (j + 1)) ∧ 0 ≤ hxZ (byt l (j + 2))
  · rw [if_pos hc, if_pos ⟨e.2 hc.1, by omega, hc.2.2.1, hc.2.2.2⟩]
  · rw [if_neg hc, if_neg (fun g => hc ⟨e.1 g.1, by omega, g.2.2.1, g.2.2.2⟩)]
def DecI (l : Bs) (o : Bool × Bs) (i : Int) : Prop := ∃ j : Nat, i = j ∧ j ≤ l.length ∧ o.1 = false ∧ o.2 ++ decP (l.drop j) = decP l ∧ o.2.length ≤ j
def X_pdec : Tbl := tblX [(36, ent_hex)]
def H_pdec (l : Bs) : Loops := fun i => bif Nat.beq i 3 then some ⟨(Bool × Bs) × (Int), (fun s x => (((((((s.row s 3 x.1.1 (.bytes x.1.2)).put 4 (.int .i64 x.2)).put 5 .undef).put 6 .undef).put 13 .undef).put 26 .undef).put 42 .undef)), (fun s => ((s.nil 3, s.bytes 3), s.int 4)), (fun s x => let b := x.1; let i := x.2; DecI l b i), (fun s x => let b := x.1; let i := x.2; ((l.length : Int) - i).toNat), [5, 6, 13, 26, 42]⟩ else none
theorem X_pdec_ok : XOk Tryd.prog noT X_pdec := tblX_cons ent_hex_ok (tblX_nil)
theorem vc_pdec (l : Bs) (k : PV → Prop) : evF Tryd.prog X_pdec noT (H_pdec l) 1000 Tryd.f19 [.str l] k = (
  ((0 : Int) ≤ (0 : Int) ∧ (0 : Int) ≤ lenZ l ∧ lenZ l ≤ maxRow) ∧
 VS.mk []
 [(0, PV.str l), (2, PV.row true (BRow.bytes []) ((2 : Nat) + (32 : Nat))),
 (3, PV.row false (BRow.bytes (List.replicate (Int.toNat (0 : Int)) (0 : UInt8))) ((9 : Nat) + (32 : Nat))),
 (4, PV.int .i64 (0 : Int)), ((5 : Nat), PV.undef), ((6 : Nat), PV.undef), ((13 : Nat), PV.undef),
 ((26 : Nat), PV.undef), ((42 : Nat), PV.undef)]
 [] =
 VS.mk []
 [(0, PV.str l), (2, PV.row true (BRow.bytes []) ((2 : Nat) + (32 : Nat))),
 ((3 : Nat), PV.row false (BRow.bytes (List.replicate (Int.toNat (0 : Int)) (0 : UInt8))) ((9 : Nat) + (32 : Nat))),
 ((4 : Nat), PV.int .i64 (0 : Int)), ((5 : Nat), PV.undef), ((6 : Nat), PV.undef), ((13 : Nat), PV.undef),
 ((26 : Nat), PV.undef), ((42 : Nat), PV.undef)]
 [] ∧
 DecI l (false, List.replicate (Int.toNat (0 : Int)) (0 : UInt8)) (0 : Int) ∧
 ∀ (x : (Bool × Bs) × Int),
 DecI l x.1 x.2 →
 (decide (x.2 < lenZ l) = true →
 within x.2 (lenZ l) ∧
 (decide (byteZ l x.2 = (37 : Int)) = true → inI64 (x.2 + (2 : Int))) ∧
 ((bif decide (byteZ l x.2 = (37 : Int)) then decide (x.2 + (2 : Int) < lenZ l) else false) = true →
 inI64 (x.2 + (1 : Int)) ∧
 within (x.2 + (1 : Int)) (lenZ l) ∧
 ((0 : Int) ≤ byteZ l (x.2 + (1 : Int)) ∧ byteZ l (x.2 + (1 : Int)) ≤ (255 : Int)) ∧
 inI64 (x.2 + (2 : Int)) ∧
 within (x.2 + (2 : Int)) (lenZ l) ∧
 ((0 : Int) ≤ byteZ l (x.2 + (2 : Int)) ∧ byteZ l (x.2 + (2 : Int)) ≤ (255 : Int)) ∧
 ((bif decide ((0 : Int) ≤ hxZ (byteZ l (x.2 + (1 : Int)))) then
 decide ((0 : Int) ≤ hxZ (byteZ l (x.2 + (2 : Int))))
 else false) =
 true →
 (0 : Int) ≤ (4 : Int) ∧
 allU8
 [PV.int .u8
 (Go.IntKind.u8.wrap
 (bitsZ Go.BinOp.or .i64
 (shlZ .i64 (hxZ (byteZ l (x.2 + (1 : Int))))
 (4 : Int))
 (hxZ (byteZ l (x.2 + (2 : Int))))))] ∧
 Int.ofNat
 (List.length
 (x.1.2 ++
 [zByte
 (Go.IntKind.u8.wrap
 (bitsZ Go.BinOp.or .i64
 (shlZ .i64 (hxZ (byteZ l (x.2 + (1 : Int))))
 (4 : Int))
 (hxZ (byteZ l (x.2 + (2 : Int))))))])) ≤
 maxRow ∧
 inI64 (x.2 + (2 : Int)) ∧
 inI64 (x.2 + (2 : Int) + (1 : Int)) ∧
 VS.mk []
 [(0, PV.str l),
 (2, PV.row true (BRow.bytes []) ((2 : Nat) + (32 : Nat))),
 ((3 : Nat),
 PV.row false
 (BRow.bytes
 (x.1.2 ++
 [zByte
 (Go.IntKind.u8.wrap
 (bitsZ Go.BinOp.or .i64
 (shlZ .i64
 (hxZ (byteZ l (x.2 + (1 : Int)))) (4 : Int))
 (hxZ (byteZ l (x.2 + (2 : Int))))))]))
 (nat_lit 40 + (1 : Nat))),
 ((4 : Nat), PV.int .i64 (x.2 + (2 : Int) + (1 : Int))), ((5 : Nat), PV.undef),
 ((6 : Nat), PV.undef), ((13 : Nat), PV.undef), ((26 : Nat), PV.undef),
 ((42 : Nat), PV.undef)]
 [] =
 VS.mk []
 [(0, PV.str l),
 (2, PV.row true (BRow.bytes []) ((2 : Nat) + (32 : Nat))),
 ((3 : Nat),
 PV.row false
 (BRow.bytes
 (x.1.2 ++
 [zByte
 (Go.IntKind.u8.wrap
 (bitsZ Go.BinOp.or .i64
 (shlZ .i64
 (hxZ (byteZ l (x.2 + (1 : Int)))) (4 : Int))
 (hxZ (byteZ l (x.2 + (2 : Int))))))]))
 ((9 : Nat) + (32 : Nat))),
 ((4 : Nat), PV.int .i64 (x.2 + (2 : Int) + (1 : Int))), ((5 : Nat), PV.undef),
 ((6 : Nat), PV.undef), ((13 : Nat), PV.undef), ((26 : Nat), PV.undef),
 ((42 : Nat), PV.undef)]
 [] ∧
 DecI l
 (false,
 x.1.2 ++
 [zByte
 (Go.IntKind.u8.wrap
 (bitsZ Go.BinOp.or .i64
 (shlZ .i64
 (hxZ (byteZ l (x.2 + (1 : Int)))) (4 : Int))
 (hxZ (byteZ l (x.2 + (2 : Int))))))])
 (x.2 + (2 : Int) + (1 : Int)) ∧
 (↑(List.length l) - (x.2 + (2 : Int) + (1 : Int))).toNat < (↑(List.length l) - x.2).toNat) ∧
 ((bif decide ((0 : Int) ≤ hxZ (byteZ l (x.2 + (1 : Int)))) then
 decide ((0 : Int) ≤ hxZ (byteZ l (x.2 + (2 : Int))))
 else false) =
 false →
 within x.2 (lenZ l) ∧
 allU8 [PV.int .u8 (byteZ l x.2)] ∧
 Int.ofNat (List.length (x.1.2 ++ [zByte (byteZ l x.2)])) ≤ maxRow ∧
 inI64 (x.2 + (1 : Int)) ∧
 VS.mk []
 [(0, PV.str l), (2, PV.row true (BRow.bytes []) ((2 : Nat) + (32 : Nat))),
 ((3 : Nat),
 PV.row false (BRow.bytes (x.1.2 ++ [zByte (byteZ l x.2)]))
 (nat_lit 40 + (1 : Nat))),
 ((4 : Nat), PV.int .i64 (x.2 + (1 : Int))), ((5 : Nat), PV.undef),
 ((6 : Nat), PV.undef), ((13 : Nat), PV.undef), ((26 : Nat), PV.undef),
 ((42 : Nat), PV.undef)]
 [] =
 VS.mk []
 [(0, PV.str l), (2, PV.row true (BRow.bytes []) ((2 : Nat) + (32 : Nat))),
 ((3 : Nat),
 PV.row false (BRow.bytes (x.1.2 ++ [zByte (byteZ l x.2)]))
 ((9 : Nat) + (32 : Nat))),
 ((4 : Nat), PV.int .i64 (x.2 + (1 : Int))), ((5 : Nat), PV.undef),
 ((6 : Nat), PV.undef), ((13 : Nat), PV.undef), ((26 : Nat), PV.undef),
 ((42 : Nat), PV.undef)]
 [] ∧
 DecI l (false, x.1.2 ++ [zByte (byteZ l x.2)])
 (x.2 + (1 : Int)) ∧
 (↑(List.length l) - (x.2 + (1 : Int))).toNat < (↑(List.length l) - x.2).toNat)) ∧
 ((bif decide (byteZ l x.2 = (37 : Int)) then decide (x.2 + (2 : Int) < lenZ l) else false) = false →
 within x.2 (lenZ l) ∧
 allU8 [PV.int .u8 (byteZ l x.2)] ∧
 Int.ofNat (List.length (x.1.2 ++ [zByte (byteZ l x.2)])) ≤ maxRow ∧
 inI64 (x.2 + (1 : Int)) ∧
 VS.mk []
 [(0, PV.str l), (2, PV.row true (BRow.bytes []) ((2 : Nat) + (32 : Nat))),
 ((3 : Nat),
 PV.row false (BRow.bytes (x.1.2 ++ [zByte (byteZ l x.2)])) (nat_lit 40 + (1 : Nat))),
 ((4 : Nat), PV.int .i64 (x.2 + (1 : Int))), ((5 : Nat), PV.undef), ((6 : Nat), PV.undef),
 ((13 : Nat), PV.undef), ((26 : Nat), PV.undef), ((42 : Nat), PV.undef)]
 [] =
 VS.mk []
 [(0, PV.str l), (2, PV.row true (BRow.bytes []) ((2 : Nat) + (32 : Nat))),
 ((3 : Nat),
 PV.row false (BRow.bytes (x.1.2 ++ [zByte (byteZ l x.2)])) ((9 : Nat) + (32 : Nat))),
 ((4 : Nat), PV.int .i64 (x.2 + (1 : Int))), ((5 : Nat), PV.undef), ((6 : Nat), PV.undef),
 ((13 : Nat), PV.undef), ((26 : Nat), PV.undef), ((42 : Nat), PV.undef)]
 [] ∧
 DecI l (false, x.1.2 ++ [zByte (byteZ l x.2)]) (x.2 + (1 : Int)) ∧
 (↑(List.length l) - (x.2 + (1 : Int))).toNat < (↑(List.length l) - x.2).toNat)) ∧
 (decide (x.2 < lenZ l) = false → k (PV.row x.1.1 (BRow.bytes x.1.2) (0 : Nat)))) := by kernel_rfl
attribute [local irreducible] Go.Vc.evF
theorem ok_pdec (l : Bs) : FuncOk Tryd.prog noT 19 [.str l] ⟨l.length ≤ 1000000, .row false (.bytes (decP l)) 0⟩ := evF_ok (by kernel_rfl) X_pdec_ok (H := H_pdec l) (fuel := 1000) Tryd.func19 (by kernel_rfl) fun hpre => (vc_pdec l _).mpr (by
  obtain hl := hpre
  refine ⟨⟨by omega, by unfold lenZ; omega, by unfold lenZ; show _ ≤ (16777216 : Int); omega⟩, rfl, ⟨0, rfl, by omega, rfl, rfl, by show 0 ≤ 0; omega⟩, fun x hx => ?_⟩
  obtain ⟨⟨nl, o⟩, i⟩ := x
  obtain ⟨j, h1, h2, h3, h4, h5⟩ := hx
  dsimp only at h1 h2 h3 h4 h5 ⊢
  subst h1 h3
  have e1 : (j : Int) + 1 = ((j + 1 : Nat) : Int) := by push_cast; rfl
  have e2 : (j : Int) + 2 = ((j + 2 : Nat) : Int) := by push_cast; rfl
  have e3 : ((j + 2 : Nat) : Int) + 1 = ((j + 3 : Nat) : Int) := by push_cast; rfl
  have hu : ∀ z : Int, 0 ≤ z ∧ z ≤ 255 → allU8 [.int .u8 z] := fun z hz => by simp [allU8]; exact hz
  rw [e1, e2, e3, byZ_at l j, byZ_at l (j + 1), byZ_at l (j + 2)]
  have r0 := byt_range l j
  have r1 := byt_range l (j + 1)
  have r2 := byt_range l (j + 2)
  have hm : (o ++ [zByte 0]).length = o.length + 1 := by rw [List.length_append]; rfl
  have stay : j < l.length → (byt l j = 37 ∧ j + 2 < l.length ∧ 0 ≤ hxZ (byt l (j + 1)) ∧ 0 ≤ hxZ (byt l (j + 2)) → False) → DecI l (false, o ++ [zByte (byt l j)]) ((j + 1 : Nat) : Int) := fun hj hc => by
    refine ⟨j + 1, rfl, by omega, rfl, ?_, by show (o ++ [_]).length ≤ _; rw [List.length_append]; show o.length + 1 ≤ _; omega⟩
    show (o ++ [_]) ++ _ = _
    rw [← h4, decP_at l j hj, if_neg hc, List.append_assoc]; rfl
  refine ⟨fun h => ?_, fun h => ?_⟩
  · have hj : j < l.length := by have := of_decide_eq_true h; unfold lenZ at this; omega
    refine ⟨by unfold within lenZ; omega, fun _ => by unfold inI64; omega, fun hc => ?_, fun hc => ?_⟩
    · have hb : byt l j = 37 ∧ j + 2 < l.length := by
        cases e : decide (byt l j = 37) with
        | false => rw [e] at hc; cases hc
        | true => rw [e] at hc; exact ⟨of_decide_eq_true e, by have := of_decide_eq_true hc; unfold lenZ at this; omega⟩
      refine ⟨by unfold inI64; omega, by unfold within lenZ; omega, r1, by unfold inI64; omega, by unfold within lenZ; omega, r2, fun hd => ?_, fun hd => ?_⟩
      · have hh : 0 ≤ hxZ (byt l (j + 1)) ∧ 0 ≤ hxZ (byt l (j + 2)) := by
          cases e : decide (0 ≤ hxZ (byt l (j + 1))) with
          | false => rw [e] at hd; cases hd
          | true => rw [e] at hd; exact ⟨of_decide_eq_true e, of_decide_eq_true hd⟩
        have le1 := hxZ_le (byt l (j + 1))
        have le2 := hxZ_le (byt l (j + 2))
        rw [or_hex hh.1 le1 hh.2 le2]
        refine ⟨by omega, hu _ (by omega), ?_, by unfold inI64; omega, by unfold inI64; omega, rfl, ⟨j + 3, rfl, by omega, rfl, ?_, ?_⟩, by omega⟩
        · rw [List.length_append]; show ((o.length + 1 : Nat) : Int) ≤ 16777216; omega
        · show (o ++ [_]) ++ _ = _
          rw [← h4, decP_at l j hj, if_pos ⟨hb.1, hb.2, hh.1, hh.2⟩, List.append_assoc]; rfl
        · show (o ++ [_]).length ≤ _; rw [List.length_append]; show o.length + 1 ≤ _; omega
      · refine ⟨by unfold within lenZ; omega, hu _ r0, ?_, by unfold inI64; omega, rfl, stay hj (fun g => ?_), by omega⟩
        · rw [List.length_append]; show ((o.length + 1 : Nat) : Int) ≤ 16777216; omega
        · rw [decide_eq_true g.2.2.1, decide_eq_true g.2.2.2] at hd; cases hd
    · refine ⟨by unfold within lenZ; omega, hu _ r0, ?_, by unfold inI64; omega, rfl, stay hj (fun g => ?_), by omega⟩
      · rw [List.length_append]; show ((o.length + 1 : Nat) : Int) ≤ 16777216; omega
      · rw [decide_eq_true g.1, decide_eq_true (show ((j + 2 : Nat) : Int) < lenZ l by unfold lenZ; omega)] at hc; cases hc
  · have hj : j = l.length := by have := of_decide_eq_false h; unfold lenZ at this; omega
    subst hj
    rw [List.drop_length] at h4
    have : o = decP l := by rw [← h4]; exact (List.append_nil o).symm
    show PV.row false _ _ = PV.row false _ _
    rw [this])
def ent_pdec : List PV → Option CallR := fun xs => match xs with
  | [.str l] => some ⟨l.length ≤ 1000000, .row false (.bytes (decP l)) 0⟩
  | _ => none
theorem ent_pdec_ok : ∀ xs c, ent_pdec xs = some c → FuncOk Tryd.prog noT 19 xs c := fun xs c h => by
  unfold ent_pdec at h
  split at h
  · injection h with h; subst h; exact ok_pdec _
  · cases h
end
section
theorem i64_lt {n : Nat} {i : Int} (h : decide (i < (n : Int)) = true) : i < n := of_decide_eq_true h
def lowB1 (c : UInt8) : UInt8 := if 65 ≤ c.toNat ∧ c.toNat ≤ 90 then c + 32 else c
def lowB (l : Bs) : Bs := l.map lowB1
theorem lowB_at {l : Bs} {z : Int} (h0 : 0 ≤ z) (h1 : z < (l.length : Int)) : (lowB l)[z.toNat]? = some (lowB1 (l.getD z.toNat 0)) := by
  have : z.toNat < l.length := by omega
  unfold lowB
  rw [List.getElem?_map, List.getElem?_eq_getElem this, List.getD_eq_getElem?_getD, List.getElem?_eq_getElem this]
  rfl
theorem low_yes {l : Bs} {z : Int} (h : (bif decide ((65 : Int) ≤ byteZ l z) then decide (byteZ l z ≤ (90 : Int)) else false) = true) : IntKind.u8.wrap (byteZ l z + (32 : Int)) = byteZ l z + 32 ∧ byteZ l z ≤ 90 ∧ zByte (byteZ l z + 32) = lowB1 (l.getD z.toNat 0) := by
  have hr := byteZ_range l z
  cases h1 : decide ((65 : Int) ≤ byteZ l z) with
  | false => rw [h1] at h; cases h
  | true =>
    rw [h1] at h
    have h2 : byteZ l z ≤ 90 := of_decide_eq_true h
    have h3 : 65 ≤ byteZ l z := of_decide_eq_true h1
    refine ⟨IntWalk.u8_in _ (by omega), h2, ?_⟩
    unfold byteZ at h2 h3
    unfold lowB1 zByte byteZ
    rw [if_pos (by omega)]
    apply UInt8.toNat_inj.1
    rw [UInt8.toNat_add]
    have e : (((l.getD z.toNat 0).toNat : Int) + 32).toNat = (l.getD z.toNat 0).toNat + 32 := by omega
    rw [e]
    simp
theorem low_no {l : Bs} {z : Int} (h : (bif decide ((65 : Int) ≤ byteZ l z) then decide (byteZ l z ≤ (90 : Int)) else false) = false) : zByte (byteZ l z) = lowB1 (l.getD z.toNat 0) := by
  rw [zByte_byteZ]
  unfold lowB1
  rw [if_neg]
  intro hh
  have h3 : (65 : Int) ≤ byteZ l z := by unfold byteZ; omega
  have h4 : byteZ l z ≤ (90 : Int) := by unfold byteZ; omega
  rw [decide_eq_true h3, decide_eq_true h4] at h
  cases h
def X_lower : Tbl := tblX []
def H_lower (nl : Bool) (l : Bs) : Loops := fun i => bif Nat.beq i 3 then some ⟨(Bool × Bs) × (Int), (fun s x => ((((((s.row s 3 x.1.1 (.bytes x.1.2)).put 11 (.int .i64 x.2)).put 4 .undef).put 5 .undef).put 12 .undef).put 21 .undef)), (fun s => ((s.nil 3, s.bytes 3), s.int 11)), (fun s x => let low := x.1; let i := x.2; 0 ≤ i ∧ i ≤ l.length ∧ low.1 = false ∧ low.2 = (lowB l).take i.toNat ++ List.replicate (l.length - i.toNat) 0), (fun s x => let low := x.1; let i := x.2; ((l.length : Int) - i).toNat), [4, 5, 12, 21]⟩ else none
theorem X_lower_ok : XOk Tryd.prog noT X_lower := tblX_nil
theorem vc_lower (nl : Bool) (l : Bs) (k : PV → Prop) : evF Tryd.prog X_lower noT (H_lower nl l) 1000 Tryd.f18 [.row nl (.bytes l) 0] k = (
  ((0 : Int) ≤ Int.ofNat (List.length l) ∧ Int.ofNat (List.length l) ≤ Int.ofNat (List.length l) ∧ Int.ofNat (List.length l) ≤ maxRow) ∧
 VS.mk []
 [(0, PV.row nl (BRow.bytes l) (0 : Nat)), (2, PV.str (ByteArray.mk #[]).data.toList),
 (3, PV.row false (BRow.bytes (List.replicate (Int.ofNat (List.length l)).toNat (0 : UInt8))) ((8 : Nat) + (32 : Nat))),
 ((4 : Nat), PV.undef), ((5 : Nat), PV.undef), (9, PV.row nl (BRow.bytes l) (0 : Nat)),
 (10, PV.int .i64 (Int.ofNat (List.length l))), (11, PV.int .i64 (0 : Int)),
 ((12 : Nat), PV.undef), ((21 : Nat), PV.undef)]
 [] =
 VS.mk []
 [(0, PV.row nl (BRow.bytes l) (0 : Nat)), (2, PV.str (ByteArray.mk #[]).data.toList),
 ((3 : Nat), PV.row false (BRow.bytes (List.replicate (Int.ofNat (List.length l)).toNat (0 : UInt8))) ((8 : Nat) + (32 : Nat))),
 ((4 : Nat), PV.undef), ((5 : Nat), PV.undef), (9, PV.row nl (BRow.bytes l) (0 : Nat)),
 (10, PV.int .i64 (Int.ofNat (List.length l))), ((11 : Nat), PV.int .i64 (0 : Int)),
 ((12 : Nat), PV.undef), ((21 : Nat), PV.undef)]
 [] ∧
 ((0 : Int) ≤ (0 : Int) ∧
 (0 : Int) ≤ ↑(List.length l) ∧
 false = false ∧
 List.replicate (Int.ofNat (List.length l)).toNat (0 : UInt8) =
 List.take (Int.toNat (0 : Int)) (lowB l) ++ List.replicate (List.length l - Int.toNat (0 : Int)) (0 : UInt8)) ∧
 ∀ (x : (Bool × Bs) × Int),
 (0 : Int) ≤ x.2 ∧
 x.2 ≤ ↑(List.length l) ∧
 x.1.1 = false ∧
 x.1.2 = List.take x.2.toNat (lowB l) ++ List.replicate (List.length l - x.2.toNat) (0 : UInt8) →
 (decide (x.2 < Int.ofNat (List.length l)) = true →
 within x.2 (Int.ofNat (List.length l)) ∧
 ((bif decide ((65 : Int) ≤ byteZ l x.2) then decide (byteZ l x.2 ≤ (90 : Int)) else false) = true →
 within x.2 (Int.ofNat (List.length x.1.2)) ∧
 ((0 : Int) ≤ Go.IntKind.u8.wrap (byteZ l x.2 + (32 : Int)) ∧
 Go.IntKind.u8.wrap (byteZ l x.2 + (32 : Int)) ≤ (255 : Int)) ∧
 inI64 (x.2 + (1 : Int)) ∧
 VS.mk []
 [(0, PV.row nl (BRow.bytes l) (0 : Nat)), (2, PV.str (ByteArray.mk #[]).data.toList),
 ((3 : Nat),
 PV.row x.1.1
 (BRow.bytes (setZ x.1.2 x.2 (zByte (Go.IntKind.u8.wrap (byteZ l x.2 + (32 : Int))))))
 ((8 : Nat) + (32 : Nat))),
 ((4 : Nat), PV.undef), ((5 : Nat), PV.undef), (9, PV.row nl (BRow.bytes l) (0 : Nat)),
 (10, PV.int .i64 (Int.ofNat (List.length l))),
 ((11 : Nat), PV.int .i64 (x.2 + (1 : Int))), ((12 : Nat), PV.undef), ((21 : Nat), PV.undef)]
 [] =
 VS.mk []
 [(0, PV.row nl (BRow.bytes l) (0 : Nat)), (2, PV.str (ByteArray.mk #[]).data.toList),
 ((3 : Nat),
 PV.row x.1.1
 (BRow.bytes (setZ x.1.2 x.2 (zByte (Go.IntKind.u8.wrap (byteZ l x.2 + (32 : Int))))))
 ((8 : Nat) + (32 : Nat))),
 ((4 : Nat), PV.undef), ((5 : Nat), PV.undef), (9, PV.row nl (BRow.bytes l) (0 : Nat)),
 (10, PV.int .i64 (Int.ofNat (List.length l))),
 ((11 : Nat), PV.int .i64 (x.2 + (1 : Int))), ((12 : Nat), PV.undef), ((21 : Nat), PV.undef)]
 [] ∧
 ((0 : Int) ≤ x.2 + (1 : Int) ∧
 x.2 + (1 : Int) ≤ ↑(List.length l) ∧
 x.1.1 = false ∧
 setZ x.1.2 x.2 (zByte (Go.IntKind.u8.wrap (byteZ l x.2 + (32 : Int)))) =
 List.take (x.2 + (1 : Int)).toNat (lowB l) ++
 List.replicate (List.length l - (x.2 + (1 : Int)).toNat) (0 : UInt8)) ∧
 (↑(List.length l) - (x.2 + (1 : Int))).toNat < (↑(List.length l) - x.2).toNat) ∧
 ((bif decide ((65 : Int) ≤ byteZ l x.2) then decide (byteZ l x.2 ≤ (90 : Int)) else false) = false →
 within x.2 (Int.ofNat (List.length x.1.2)) ∧
 ((0 : Int) ≤ byteZ l x.2 ∧ byteZ l x.2 ≤ (255 : Int)) ∧
 inI64 (x.2 + (1 : Int)) ∧
 VS.mk []
 [(0, PV.row nl (BRow.bytes l) (0 : Nat)), (2, PV.str (ByteArray.mk #[]).data.toList),
 ((3 : Nat),
 PV.row x.1.1 (BRow.bytes (setZ x.1.2 x.2 (zByte (byteZ l x.2))))
 ((8 : Nat) + (32 : Nat))),
 ((4 : Nat), PV.undef), ((5 : Nat), PV.undef), (9, PV.row nl (BRow.bytes l) (0 : Nat)),
 (10, PV.int .i64 (Int.ofNat (List.length l))),
 ((11 : Nat), PV.int .i64 (x.2 + (1 : Int))), ((12 : Nat), PV.undef), ((21 : Nat), PV.undef)]
 [] =
 VS.mk []
 [(0, PV.row nl (BRow.bytes l) (0 : Nat)), (2, PV.str (ByteArray.mk #[]).data.toList),
 ((3 : Nat),
 PV.row x.1.1 (BRow.bytes (setZ x.1.2 x.2 (zByte (byteZ l x.2))))
 ((8 : Nat) + (32 : Nat))),
 ((4 : Nat), PV.undef), ((5 : Nat), PV.undef), (9, PV.row nl (BRow.bytes l) (0 : Nat)),
 (10, PV.int .i64 (Int.ofNat (List.length l))),
 ((11 : Nat), PV.int .i64 (x.2 + (1 : Int))), ((12 : Nat), PV.undef), ((21 : Nat), PV.undef)]
 [] ∧
 ((0 : Int) ≤ x.2 + (1 : Int) ∧
 x.2 + (1 : Int) ≤ ↑(List.length l) ∧
 x.1.1 = false ∧
 setZ x.1.2 x.2 (zByte (byteZ l x.2)) =
 List.take (x.2 + (1 : Int)).toNat (lowB l) ++
 List.replicate (List.length l - (x.2 + (1 : Int)).toNat) (0 : UInt8)) ∧
 (↑(List.length l) - (x.2 + (1 : Int))).toNat < (↑(List.length l) - x.2).toNat)) ∧
 (decide (x.2 < Int.ofNat (List.length l)) = false → k (PV.str x.1.2))) := by kernel_rfl
attribute [local irreducible] Go.Vc.evF
theorem ok_lower (nl : Bool) (l : Bs) : FuncOk Tryd.prog noT 18 [.row nl (.bytes l) 0] ⟨l.length ≤ 1000000, .str (lowB l)⟩ := evF_ok (by kernel_rfl) X_lower_ok (H := H_lower nl l) (fuel := 1000) Tryd.func18 (by kernel_rfl) fun hpre => (vc_lower nl l _).mpr (by
  have hll : (lowB l).length = l.length := by unfold lowB; simp
  simp only [Int.ofNat_eq_natCast] at *
  refine ⟨⟨by omega, by omega, by unfold maxRow; omega⟩, trivial, ⟨by omega, by omega, trivial, by simp⟩, fun x hx => ⟨fun h => ?_, fun h => ?_⟩⟩
  · obtain ⟨h0, h1, h2, h3⟩ := hx
    have hlt := i64_lt h
    have hbr := byteZ_range l x.2
    have hlen : x.1.2.length = l.length := by rw [h3, List.length_append, List.length_take, List.length_replicate, hll]; omega
    have step : ∀ b, b = lowB1 (l.getD x.2.toNat 0) → setZ x.1.2 x.2 b = List.take (x.2 + 1).toNat (lowB l) ++ List.replicate (List.length l - (x.2 + 1).toNat) 0 := fun b hb => by
      unfold setZ
      rw [show (x.2 + 1).toNat = x.2.toNat + 1 by omega, h3]
      exact set_fill hll.symm (by rw [lowB_at h0 hlt, hb])
    refine ⟨⟨h0, hlt⟩, fun hc => ?_, fun hc => ?_⟩
    · obtain ⟨c1, c2, c3⟩ := low_yes hc
      rw [c1]
      refine ⟨⟨h0, by rw [hlen]; exact hlt⟩, ⟨by omega, by omega⟩, ⟨by omega, by omega⟩, trivial, ⟨by omega, by omega, h2, step _ c3⟩, by omega⟩
    · refine ⟨⟨h0, by rw [hlen]; exact hlt⟩, ⟨by omega, by omega⟩, ⟨by omega, by omega⟩, trivial, ⟨by omega, by omega, h2, step _ (low_no hc)⟩, by omega⟩
  · obtain ⟨h0, h1, h2, h3⟩ := hx
    have hge : ¬ x.2 < (l.length : Int) := of_decide_eq_false h
    show PV.str _ = PV.str _
    rw [h3, show x.2.toNat = l.length by omega, ← hll, List.take_length]
    simp)
def ent_lower : List PV → Option CallR := fun xs => match xs with
  | [.row nl (.bytes l) 0] => some ⟨l.length ≤ 1000000, .str (lowB l)⟩
  | _ => none
theorem ent_lower_ok : ∀ xs c, ent_lower xs = some c → FuncOk Tryd.prog noT 18 xs c := fun xs c h => by
  unfold ent_lower at h
  split at h
  · injection h with h; subst h; exact ok_lower _ _
  · cases h
end
section
def neverL : Bs := [0, 9, 10, 13, 32, 35, 47, 58, 60, 62, 63, 64, 91, 92, 93, 94, 124]
def nodB (r : Int) : Bool := decide (r < 32) || decide (r = 37) || decide (r = 127) || runB neverL r
def X_nodom : Tbl := tblX [(39, ent_crune)]
def H_nodom (r : Int) : Loops := fun i => none
theorem X_nodom_ok : XOk Tryd.prog noT X_nodom := tblX_cons ent_crune_ok (tblX_nil)
theorem vc_nodom (r : Int) (k : PV → Prop) : evF Tryd.prog X_nodom noT (H_nodom r) 1000 Tryd.f22 [.int .i32 r] k = (
  ((bif bif decide (r < (32 : Int)) then true else decide (r = (37 : Int)) then true else decide (r = (127 : Int))) = false →
 (0 : Int) ≤ r ∧
 r ≤ (2147483647 : Int) ∧
 ∀ (b : UInt8),
 b ∈
 (ByteArray.mk
 #[0, 9, 10, 13, 32, 35, 47, 58, 60, 62, 63, 64, 91, 92, 93, 94, 124]).data.toList →
 b.toNat < (128 : Nat)) ∧
 k
 (PV.bool
 (bif bif bif decide (r < (32 : Int)) then true else decide (r = (37 : Int)) then true else decide (r = (127 : Int)) then true
 else
 runB
 (ByteArray.mk
 #[0, 9, 10, 13, 32, 35, 47, 58, 60, 62, 63, 64, 91, 92, 93, 94, 124]).data.toList
 r))) := by kernel_rfl
attribute [local irreducible] Go.Vc.evF
theorem ok_nodom (r : Int) : FuncOk Tryd.prog noT 22 [.int .i32 r] ⟨0 ≤ r ∧ r ≤ 1114111, .bool (nodB r)⟩ := evF_ok (by kernel_rfl) X_nodom_ok (H := H_nodom r) (fuel := 1000) Tryd.func22 (by kernel_rfl) fun hpre => (vc_nodom r _).mpr (by
  refine ⟨fun _ => ⟨by omega, by omega, by decide⟩, ?_⟩
  show PV.bool _ = PV.bool _
  unfold nodB neverL
  cases decide (r < 32) <;> cases decide (r = 37) <;> cases decide (r = 127) <;> rfl)
end
section
def X_ipow : Tbl := tblX []
def H_ipow  : Loops := fun i => none
theorem X_ipow_ok : XOk Tryd.prog noT X_ipow := tblX_nil
theorem vc_ipow  (k : PV → Prop) : evF Tryd.prog X_ipow noT (H_ipow ) 1000 Tryd.f80 [.int .i64 16] k = (
  inI64 ((16 : Int) - (1 : Int)) ∧ k (PV.bool (decide (bitsZ Go.BinOp.and .i64 (16 : Int) ((16 : Int) - (1 : Int)) = (0 : Int))))) := by kernel_rfl
attribute [local irreducible] Go.Vc.evF
theorem ok_ipow  : FuncOk Tryd.prog noT 80 [.int .i64 16] ⟨True, .bool true⟩ := evF_ok (by kernel_rfl) X_ipow_ok (H := H_ipow ) (fuel := 1000) Tryd.func80 (by kernel_rfl) fun hpre => (vc_ipow  _).mpr (by
  exact ⟨by unfold inI64; omega, congrArg PV.bool (by decide +kernel)⟩)
def ent_ipow : List PV → Option CallR := fun xs => match xs with
  | [.int .i64 16] => some ⟨True, .bool true⟩
  | _ => none
theorem ent_ipow_ok : ∀ xs c, ent_ipow xs = some c → FuncOk Tryd.prog noT 80 xs c := fun xs c h => by
  unfold ent_ipow at h
  split at h
  · injection h with h; subst h; exact ok_ipow 
  · cases h
end
section
def X_tz : Tbl := tblX [(84, ent_tz64)]
def H_tz  : Loops := fun i => none
theorem X_tz_ok : XOk Tryd.prog noT X_tz := tblX_cons ent_tz64_ok (tblX_nil)
theorem vc_tz  (k : PV → Prop) : evF Tryd.prog X_tz noT (H_tz ) 1000 Tryd.f81 [.int .u64 16] k = (
  (false = true → False) ∧ (false = false → True ∧ k (PV.int .i64 (4 : Int)))) := by kernel_rfl
attribute [local irreducible] Go.Vc.evF
theorem ok_tz  : FuncOk Tryd.prog noT 81 [.int .u64 16] ⟨True, .int .i64 4⟩ := evF_ok (by kernel_rfl) X_tz_ok (H := H_tz ) (fuel := 1000) Tryd.func81 (by kernel_rfl) fun hpre => (vc_tz  _).mpr (by
  exact ⟨fun h => (by cases h), fun _ => ⟨trivial, rfl⟩⟩)
def ent_tz : List PV → Option CallR := fun xs => match xs with
  | [.int .u64 16] => some ⟨True, .int .i64 4⟩
  | _ => none
theorem ent_tz_ok : ∀ xs c, ent_tz xs = some c → FuncOk Tryd.prog noT 81 xs c := fun xs c h => by
  unfold ent_tz at h
  split at h
  · injection h with h; subst h; exact ok_tz 
  · cases h
end
section
abbrev DGS : Bs := (ByteArray.mk #[48, 49, 50, 51, 52, 53, 54, 55, 56, 57, 97, 98, 99, 100, 101, 102, 103, 104, 105, 106, 107, 108, 109, 110, 111, 112, 113, 114, 115, 116, 117, 118, 119, 120, 121, 122]).data.toList
theorem dgs_at : ∀ k : Fin 16, 0 ≤ byteZ DGS (k.val : Int) ∧ byteZ DGS (k.val : Int) ≤ 255 ∧ zByte (byteZ DGS (k.val : Int)) = dx k.val := by decide +kernel
theorem dgs_len : lenZ DGS = 36 := by decide
theorem and15q (m : Nat) (h : m < 65536) : bitsZ BinOp.and IntKind.u64 (m : Int) 15 = ((m % 16 : Nat) : Int) := by
  have := bits_and_u64_nat m 15 (by omega) (by decide)
  rw [show m &&& 15 = m % 16 from Nat.and_two_pow_sub_one_eq_mod m 4] at this
  exact this
theorem shr4q (m : Nat) : shrZ IntKind.u64 (m : Int) 4 = ((m / 16 : Nat) : Int) := by
  unfold shrZ
  rw [show min (4 : Int).toNat IntKind.u64.bits = 4 by decide, Int.fdiv_eq_ediv_of_nonneg _ (by decide)]
  show (m : Int) / 16 = _
  omega
theorem drop_set {l : Bs} {j : Nat} (h : j < l.length) (c : UInt8) : (l.set j c).drop j = c :: l.drop (j + 1) := by
  rw [List.drop_eq_getElem_cons (by rw [List.length_set]; exact h), List.getElem_set_self, List.drop_set_of_lt (by omega)]
def X_fbits : Tbl := tblX [(80, ent_ipow), (81, ent_tz)]
def H_fbits (nb : Bool) (b : Bs) (u : Int) : Loops := fun i => bif Nat.beq i 11 then some ⟨(Int) × (Int) × (Bs), (fun s x => ((VS.mk ((s.put 1 (.int .u64 x.1)).put 13 (.int .i64 x.2.1)).loc ((s.put 1 (.int .u64 x.1)).put 13 (.int .i64 x.2.1)).env (setN 44 (.arr 65 (.bytes x.2.2)) ((s.put 1 (.int .u64 x.1)).put 13 (.int .i64 x.2.1)).lh)).put 46 .undef)), (fun s => (s.int 1, s.int 13, VS.bytes (VS.mk [] s.lh []) 44)), (fun s x => let u1 := x.1; let i := x.2.1; let a := x.2.2; 61 < i ∧ i ≤ 65 ∧ 0 ≤ u1 ∧ u1 < 65536 ∧ a.length = 65 ∧ (i = 62 → u1 < 16) ∧ (i = 63 → u1 < 256) ∧ (i = 64 → u1 < 4096) ∧ hx4 u1.toNat ++ a.drop i.toNat = hx4 u.toNat), (fun s x => let u1 := x.1; let i := x.2.1; let a := x.2.2; u1.toNat), [46]⟩ else none
theorem X_fbits_ok : XOk Tryd.prog noT X_fbits := tblX_cons ent_ipow_ok (tblX_cons ent_tz_ok (tblX_nil))
theorem vc_fbits (nb : Bool) (b : Bs) (u : Int) (k : PV → Prop) : evR Tryd.prog X_fbits noT (H_fbits nb b u) 1000 Tryd.f71 [.row nb (.bytes b) 1, .int .u64 u, .int .i64 16, .bool false, .bool true] k = (
  (decide ((36 : Int) < (16 : Int)) = true → False) ∧
 (decide ((36 : Int) < (16 : Int)) = false →
 (false = true →
 True ∧
 (true = true →
 True ∧
 VS.mk []
 [(0, PV.row nb (BRow.bytes b) (1 : Nat)),
 (1, PV.int .u64 (Go.IntKind.u64.wrap ((0 : Int) - u))), (2, PV.int .i64 (16 : Int)),
 (3, PV.bool false), (4, PV.bool true),
 (10, PV.row true (BRow.bytes []) ((10 : Nat) + (32 : Nat))),
 (11, PV.str (ByteArray.mk #[]).data.toList), (12, PV.ptr ((12 : Nat) + (32 : Nat)) (0 : Nat)),
 (13, PV.int .i64 (65 : Int)), (14, PV.int .u64 (Go.IntKind.u64.wrap (4 : Int))),
 (15, PV.int .u64 (Go.IntKind.u64.wrap (16 : Int))),
 (16, PV.int .u64 (Go.IntKind.u64.wrap (Go.IntKind.u64.wrap (16 : Int) - (1 : Int)))),
 (17, PV.undef), (18, PV.undef), (28, PV.bool (decide ((36 : Int) < (16 : Int)))),
 (30, PV.bool false), (34, PV.bool true), ((46 : Nat), PV.undef), (68, PV.undef),
 (89, PV.undef), (94, PV.undef)]
 [((12 : Nat) + (32 : Nat), PV.arr (65 : Nat) (BRow.bytes (List.replicate (65 : Nat) (0 : UInt8))))] =
 VS.mk []
 [(0, PV.row nb (BRow.bytes b) (1 : Nat)),
 ((1 : Nat), PV.int .u64 (Go.IntKind.u64.wrap ((0 : Int) - u))), (2, PV.int .i64 (16 : Int)),
 (3, PV.bool false), (4, PV.bool true),
 (10, PV.row true (BRow.bytes []) ((10 : Nat) + (32 : Nat))),
 (11, PV.str (ByteArray.mk #[]).data.toList), (12, PV.ptr ((12 : Nat) + (32 : Nat)) (0 : Nat)),
 ((13 : Nat), PV.int .i64 (65 : Int)), (14, PV.int .u64 (Go.IntKind.u64.wrap (4 : Int))),
 (15, PV.int .u64 (Go.IntKind.u64.wrap (16 : Int))),
 (16, PV.int .u64 (Go.IntKind.u64.wrap (Go.IntKind.u64.wrap (16 : Int) - (1 : Int)))),
 (17, PV.undef), (18, PV.undef), (28, PV.bool (decide ((36 : Int) < (16 : Int)))),
 (30, PV.bool false), (34, PV.bool true), ((46 : Nat), PV.undef), (68, PV.undef),
 (89, PV.undef), (94, PV.undef)]
 [((44 : Nat), PV.arr (65 : Nat) (BRow.bytes (List.replicate (65 : Nat) (0 : UInt8))))] ∧
 ((61 : Int) < (65 : Int) ∧
 (65 : Int) ≤ (65 : Int) ∧
 (0 : Int) ≤ Go.IntKind.u64.wrap ((0 : Int) - u) ∧
 Go.IntKind.u64.wrap ((0 : Int) - u) < (65536 : Int) ∧
 (List.replicate (65 : Nat) (0 : UInt8)).length = (65 : Nat) ∧
 ((65 : Int) = (62 : Int) → Go.IntKind.u64.wrap ((0 : Int) - u) < (16 : Int)) ∧
 ((65 : Int) = (63 : Int) → Go.IntKind.u64.wrap ((0 : Int) - u) < (256 : Int)) ∧
 ((65 : Int) = (64 : Int) → Go.IntKind.u64.wrap ((0 : Int) - u) < (4096 : Int)) ∧
 hx4 (Go.IntKind.u64.wrap ((0 : Int) - u)).toNat ++
 List.drop (Int.toNat (65 : Int)) (List.replicate (65 : Nat) (0 : UInt8)) =
 hx4 u.toNat) ∧
 ∀ (x : Int × Int × Bs),
 (61 : Int) < x.2.1 ∧
 x.2.1 ≤ (65 : Int) ∧
 (0 : Int) ≤ x.1 ∧
 x.1 < (65536 : Int) ∧
 List.length x.2.2 = (65 : Nat) ∧
 (x.2.1 = (62 : Int) → x.1 < (16 : Int)) ∧
 (x.2.1 = (63 : Int) → x.1 < (256 : Int)) ∧
 (x.2.1 = (64 : Int) → x.1 < (4096 : Int)) ∧
 hx4 x.1.toNat ++ List.drop x.2.1.toNat x.2.2 =
 hx4 u.toNat →
 (decide (Go.IntKind.u64.wrap (16 : Int) ≤ x.1) = true →
 inI64 (x.2.1 - (1 : Int)) ∧
 within (bitsZ Go.BinOp.and .u64 x.1 (Go.IntKind.u64.wrap (Go.IntKind.u64.wrap (16 : Int) - (1 : Int))))
 (lenZ
 (ByteArray.mk
 #[48, 49, 50, 51, 52, 53, 54, 55, 56, 57, 97, 98, 99, 100, 101, 102, 103, 104, 105, 106, 107, 108, 109, 110, 111, 112, 113, 114, 115, 116, 117, 118, 119, 120, 121, 122]).data.toList) ∧
 within (x.2.1 - (1 : Int)) ↑(65 : Nat) ∧
 (within (x.2.1 - (1 : Int)) ↑(65 : Nat) ∧
 (0 : Int) ≤
 byteZ
 (ByteArray.mk
 #[48, 49, 50, 51, 52, 53, 54, 55, 56, 57, 97, 98, 99, 100, 101, 102, 103, 104, 105, 106, 107, 108, 109, 110, 111, 112, 113, 114, 115, 116, 117, 118, 119, 120, 121, 122]).data.toList
 (bitsZ Go.BinOp.and .u64 x.1 (Go.IntKind.u64.wrap (Go.IntKind.u64.wrap (16 : Int) - (1 : Int)))) ∧
 byteZ
 (ByteArray.mk
 #[48, 49, 50, 51, 52, 53, 54, 55, 56, 57, 97, 98, 99, 100, 101, 102, 103, 104, 105, 106, 107, 108, 109, 110, 111, 112, 113, 114, 115, 116, 117, 118, 119, 120, 121, 122]).data.toList
 (bitsZ Go.BinOp.and .u64 x.1 (Go.IntKind.u64.wrap (Go.IntKind.u64.wrap (16 : Int) - (1 : Int)))) ≤
 (255 : Int)) ∧
 (0 : Int) ≤ Go.IntKind.u64.wrap (4 : Int) ∧
 VS.mk []
 [(0, PV.row nb (BRow.bytes b) (1 : Nat)),
 ((1 : Nat), PV.int .u64 (shrZ .u64 x.1 (Go.IntKind.u64.wrap (4 : Int)))),
 (2, PV.int .i64 (16 : Int)), (3, PV.bool false),
 (4, PV.bool true), (10, PV.row true (BRow.bytes []) ((10 : Nat) + (32 : Nat))),
 (11, PV.str (ByteArray.mk #[]).data.toList),
 (12, PV.ptr ((12 : Nat) + (32 : Nat)) (0 : Nat)),
 ((13 : Nat), PV.int .i64 (x.2.1 - (1 : Int))),
 (14, PV.int .u64 (Go.IntKind.u64.wrap (4 : Int))),
 (15, PV.int .u64 (Go.IntKind.u64.wrap (16 : Int))),
 (16, PV.int .u64 (Go.IntKind.u64.wrap (Go.IntKind.u64.wrap (16 : Int) - (1 : Int)))),
 (17, PV.undef), (18, PV.undef),
 (28, PV.bool (decide ((36 : Int) < (16 : Int)))), (30, PV.bool false),
 (34, PV.bool true), ((46 : Nat), PV.undef), (68, PV.undef),
 (89, PV.undef), (94, PV.undef)]
 [((12 : Nat) + (32 : Nat),
 PV.arr (65 : Nat)
 (BRow.bytes
 (setZ x.2.2 (x.2.1 - (1 : Int))
 (zByte
 (byteZ
 (ByteArray.mk
 #[48, 49, 50, 51, 52, 53, 54, 55, 56, 57, 97, 98, 99, 100, 101, 102, 103, 104, 105, 106, 107, 108, 109, 110, 111, 112, 113, 114, 115, 116, 117, 118, 119, 120, 121, 122]).data.toList
 (bitsZ Go.BinOp.and .u64 x.1
 (Go.IntKind.u64.wrap (Go.IntKind.u64.wrap (16 : Int) - (1 : Int)))))))))] =
 VS.mk []
 [(0, PV.row nb (BRow.bytes b) (1 : Nat)),
 ((1 : Nat), PV.int .u64 (shrZ .u64 x.1 (Go.IntKind.u64.wrap (4 : Int)))),
 (2, PV.int .i64 (16 : Int)), (3, PV.bool false),
 (4, PV.bool true), (10, PV.row true (BRow.bytes []) ((10 : Nat) + (32 : Nat))),
 (11, PV.str (ByteArray.mk #[]).data.toList),
 (12, PV.ptr ((12 : Nat) + (32 : Nat)) (0 : Nat)),
 ((13 : Nat), PV.int .i64 (x.2.1 - (1 : Int))),
 (14, PV.int .u64 (Go.IntKind.u64.wrap (4 : Int))),
 (15, PV.int .u64 (Go.IntKind.u64.wrap (16 : Int))),
 (16, PV.int .u64 (Go.IntKind.u64.wrap (Go.IntKind.u64.wrap (16 : Int) - (1 : Int)))),
 (17, PV.undef), (18, PV.undef),
 (28, PV.bool (decide ((36 : Int) < (16 : Int)))), (30, PV.bool false),
 (34, PV.bool true), ((46 : Nat), PV.undef), (68, PV.undef),
 (89, PV.undef), (94, PV.undef)]
 [((44 : Nat),
 PV.arr (65 : Nat)
 (BRow.bytes
 (setZ x.2.2 (x.2.1 - (1 : Int))
 (zByte
 (byteZ
 (ByteArray.mk
 #[48, 49, 50, 51, 52, 53, 54, 55, 56, 57, 97, 98, 99, 100, 101, 102, 103, 104, 105, 106, 107, 108, 109, 110, 111, 112, 113, 114, 115, 116, 117, 118, 119, 120, 121, 122]).data.toList
 (bitsZ Go.BinOp.and .u64 x.1
 (Go.IntKind.u64.wrap (Go.IntKind.u64.wrap (16 : Int) - (1 : Int)))))))))] ∧
 ((61 : Int) < x.2.1 - (1 : Int) ∧
 x.2.1 - (1 : Int) ≤ (65 : Int) ∧
 (0 : Int) ≤ shrZ .u64 x.1 (Go.IntKind.u64.wrap (4 : Int)) ∧
 shrZ .u64 x.1 (Go.IntKind.u64.wrap (4 : Int)) < (65536 : Int) ∧
 (setZ x.2.2 (x.2.1 - (1 : Int))
 (zByte
 (byteZ
 (ByteArray.mk
 #[48, 49, 50, 51, 52, 53, 54, 55, 56, 57, 97, 98, 99, 100, 101, 102, 103, 104, 105, 106, 107, 108, 109, 110, 111, 112, 113, 114, 115, 116, 117, 118, 119, 120, 121, 122]).data.toList
 (bitsZ Go.BinOp.and .u64 x.1
 (Go.IntKind.u64.wrap (Go.IntKind.u64.wrap (16 : Int) - (1 : Int))))))).length =
 (65 : Nat) ∧
 (x.2.1 - (1 : Int) = (62 : Int) →
 shrZ .u64 x.1 (Go.IntKind.u64.wrap (4 : Int)) < (16 : Int)) ∧
 (x.2.1 - (1 : Int) = (63 : Int) →
 shrZ .u64 x.1 (Go.IntKind.u64.wrap (4 : Int)) < (256 : Int)) ∧
 (x.2.1 - (1 : Int) = (64 : Int) →
 shrZ .u64 x.1 (Go.IntKind.u64.wrap (4 : Int)) < (4096 : Int)) ∧
 hx4
 (shrZ .u64 x.1 (Go.IntKind.u64.wrap (4 : Int))).toNat ++
 List.drop (x.2.1 - (1 : Int)).toNat
 (setZ x.2.2 (x.2.1 - (1 : Int))
 (zByte
 (byteZ
 (ByteArray.mk
 #[48, 49, 50, 51, 52, 53, 54, 55, 56, 57, 97, 98, 99, 100, 101, 102, 103, 104, 105, 106, 107, 108, 109, 110, 111, 112, 113, 114, 115, 116, 117, 118, 119, 120, 121, 122]).data.toList
 (bitsZ Go.BinOp.and .u64 x.1
 (Go.IntKind.u64.wrap (Go.IntKind.u64.wrap (16 : Int) - (1 : Int))))))) =
 hx4 u.toNat) ∧
 (shrZ .u64 x.1 (Go.IntKind.u64.wrap (4 : Int))).toNat < x.1.toNat) ∧
 (decide (Go.IntKind.u64.wrap (16 : Int) ≤ x.1) = false →
 inI64 (x.2.1 - (1 : Int)) ∧
 within x.1
 (lenZ
 (ByteArray.mk
 #[48, 49, 50, 51, 52, 53, 54, 55, 56, 57, 97, 98, 99, 100, 101, 102, 103, 104, 105, 106, 107, 108, 109, 110, 111, 112, 113, 114, 115, 116, 117, 118, 119, 120, 121, 122]).data.toList) ∧
 within (x.2.1 - (1 : Int)) ↑(65 : Nat) ∧
 (within (x.2.1 - (1 : Int)) ↑(65 : Nat) ∧
 (0 : Int) ≤
 byteZ
 (ByteArray.mk
 #[48, 49, 50, 51, 52, 53, 54, 55, 56, 57, 97, 98, 99, 100, 101, 102, 103, 104, 105, 106, 107, 108, 109, 110, 111, 112, 113, 114, 115, 116, 117, 118, 119, 120, 121, 122]).data.toList
 x.1 ∧
 byteZ
 (ByteArray.mk
 #[48, 49, 50, 51, 52, 53, 54, 55, 56, 57, 97, 98, 99, 100, 101, 102, 103, 104, 105, 106, 107, 108, 109, 110, 111, 112, 113, 114, 115, 116, 117, 118, 119, 120, 121, 122]).data.toList
 x.1 ≤
 (255 : Int)) ∧
 (false = true →
 inI64 (x.2.1 - (1 : Int) - (1 : Int)) ∧
 within (x.2.1 - (1 : Int) - (1 : Int)) ↑(65 : Nat) ∧
 (within (x.2.1 - (1 : Int) - (1 : Int)) ↑(65 : Nat) ∧ (0 : Int) ≤ (45 : Int) ∧ (45 : Int) ≤ (255 : Int)) ∧
 (true = true →
 upto (x.2.1 - (1 : Int) - (1 : Int)) ↑(65 : Nat) ↑(65 : Nat) ∧
 (x.2.1 - (1 : Int) - (1 : Int) + (↑(65 : Nat) - (x.2.1 - (1 : Int) - (1 : Int))) ≤
 Int.ofNat
 (setZ
 (setZ x.2.2 (x.2.1 - (1 : Int))
 (zByte
 (byteZ
 (ByteArray.mk
 #[48, 49, 50, 51, 52, 53, 54, 55, 56, 57, 97, 98, 99, 100, 101, 102, 103, 104, 105, 106, 107, 108, 109, 110, 111, 112, 113, 114, 115, 116, 117, 118, 119, 120, 121, 122]).data.toList
 x.1)))
 (x.2.1 - (1 : Int) - (1 : Int)) (zByte (45 : Int))).length ∧
 Int.ofNat
 (List.length
 (b ++
 cutZ
 (setZ
 (setZ x.2.2 (x.2.1 - (1 : Int))
 (zByte
 (byteZ
 (ByteArray.mk
 #[48, 49, 50, 51, 52, 53, 54, 55, 56, 57, 97, 98, 99, 100, 101, 102, 103, 104, 105, 106, 107, 108, 109, 110, 111, 112, 113, 114, 115, 116, 117, 118, 119, 120, 121, 122]).data.toList
 x.1)))
 (x.2.1 - (1 : Int) - (1 : Int)) (zByte (45 : Int)))
 (x.2.1 - (1 : Int) - (1 : Int))
 (x.2.1 - (1 : Int) - (1 : Int) + (↑(65 : Nat) - (x.2.1 - (1 : Int) - (1 : Int)))))) ≤
 maxRow) ∧
 k
 (PV.tup
 [PV.row
 (bif
 List.rec true
 (fun (head : UInt8) (tail : List UInt8) (tail_ih : (fun (x : List UInt8) ↦ Bool) tail) ↦
 false)
 (cutZ
 (setZ
 (setZ x.2.2 (x.2.1 - (1 : Int))
 (zByte
 (byteZ
 (ByteArray.mk
 #[48, 49, 50, 51, 52, 53, 54, 55, 56, 57, 97, 98, 99, 100, 101, 102, 103, 104, 105, 106, 107, 108, 109, 110, 111, 112, 113, 114, 115, 116, 117, 118, 119, 120, 121, 122]).data.toList
 x.1)))
 (x.2.1 - (1 : Int) - (1 : Int)) (zByte (45 : Int)))
 (x.2.1 - (1 : Int) - (1 : Int))
 (x.2.1 - (1 : Int) - (1 : Int) +
 (↑(65 : Nat) - (x.2.1 - (1 : Int) - (1 : Int))))) then
 nb
 else false)
 (BRow.bytes
 (b ++
 cutZ
 (setZ
 (setZ x.2.2 (x.2.1 - (1 : Int))
 (zByte
 (byteZ
 (ByteArray.mk
 #[48, 49, 50, 51, 52, 53, 54, 55, 56, 57, 97, 98, 99, 100, 101, 102, 103, 104, 105, 106, 107, 108, 109, 110, 111, 112, 113, 114, 115, 116, 117, 118, 119, 120, 121, 122]).data.toList
 x.1)))
 (x.2.1 - (1 : Int) - (1 : Int)) (zByte (45 : Int)))
 (x.2.1 - (1 : Int) - (1 : Int))
 (x.2.1 - (1 : Int) - (1 : Int) + (↑(65 : Nat) - (x.2.1 - (1 : Int) - (1 : Int))))))
 (Nat.succ (nat_lit 0)),
 PV.str (ByteArray.mk #[]).data.toList])) ∧
 (true = false → upto (x.2.1 - (1 : Int) - (1 : Int)) ↑(65 : Nat) ↑(65 : Nat) ∧ False)) ∧
 (false = false →
 (true = true →
 upto (x.2.1 - (1 : Int)) ↑(65 : Nat) ↑(65 : Nat) ∧
 (x.2.1 - (1 : Int) + (↑(65 : Nat) - (x.2.1 - (1 : Int))) ≤
 Int.ofNat
 (setZ x.2.2 (x.2.1 - (1 : Int))
 (zByte
 (byteZ
 (ByteArray.mk
 #[48, 49, 50, 51, 52, 53, 54, 55, 56, 57, 97, 98, 99, 100, 101, 102, 103, 104, 105, 106, 107, 108, 109, 110, 111, 112, 113, 114, 115, 116, 117, 118, 119, 120, 121, 122]).data.toList
 x.1))).length ∧
 Int.ofNat
 (List.length
 (b ++
 cutZ
 (setZ x.2.2 (x.2.1 - (1 : Int))
 (zByte
 (byteZ
 (ByteArray.mk
 #[48, 49, 50, 51, 52, 53, 54, 55, 56, 57, 97, 98, 99, 100, 101, 102, 103, 104, 105, 106, 107, 108, 109, 110, 111, 112, 113, 114, 115, 116, 117, 118, 119, 120, 121, 122]).data.toList
 x.1)))
 (x.2.1 - (1 : Int)) (x.2.1 - (1 : Int) + (↑(65 : Nat) - (x.2.1 - (1 : Int)))))) ≤
 maxRow) ∧
 k
 (PV.tup
 [PV.row
 (bif
 List.rec true
 (fun (head : UInt8) (tail : List UInt8) (tail_ih : (fun (x : List UInt8) ↦ Bool) tail) ↦ false)
 (cutZ
 (setZ x.2.2 (x.2.1 - (1 : Int))
 (zByte
 (byteZ
 (ByteArray.mk
 #[48, 49, 50, 51, 52, 53, 54, 55, 56, 57, 97, 98, 99, 100, 101, 102, 103, 104, 105, 106, 107, 108, 109, 110, 111, 112, 113, 114, 115, 116, 117, 118, 119, 120, 121, 122]).data.toList
 x.1)))
 (x.2.1 - (1 : Int)) (x.2.1 - (1 : Int) + (↑(65 : Nat) - (x.2.1 - (1 : Int))))) then
 nb
 else false)
 (BRow.bytes
 (b ++
 cutZ
 (setZ x.2.2 (x.2.1 - (1 : Int))
 (zByte
 (byteZ
 (ByteArray.mk
 #[48, 49, 50, 51, 52, 53, 54, 55, 56, 57, 97, 98, 99, 100, 101, 102, 103, 104, 105, 106, 107, 108, 109, 110, 111, 112, 113, 114, 115, 116, 117, 118, 119, 120, 121, 122]).data.toList
 x.1)))
 (x.2.1 - (1 : Int)) (x.2.1 - (1 : Int) + (↑(65 : Nat) - (x.2.1 - (1 : Int))))))
 (Nat.succ (nat_lit 0)),
 PV.str (ByteArray.mk #[]).data.toList])) ∧
 (true = false → upto (x.2.1 - (1 : Int)) ↑(65 : Nat) ↑(65 : Nat) ∧ False)))) ∧
 (true = false → False)) ∧
 (false = false →
 True ∧
 (true = true →
 True ∧
 VS.mk []
 [(0, PV.row nb (BRow.bytes b) (1 : Nat)), (1, PV.int .u64 u),
 (2, PV.int .i64 (16 : Int)), (3, PV.bool false), (4, PV.bool true),
 (10, PV.row true (BRow.bytes []) ((10 : Nat) + (32 : Nat))),
 (11, PV.str (ByteArray.mk #[]).data.toList), (12, PV.ptr ((12 : Nat) + (32 : Nat)) (0 : Nat)),
 (13, PV.int .i64 (65 : Int)), (14, PV.int .u64 (Go.IntKind.u64.wrap (4 : Int))),
 (15, PV.int .u64 (Go.IntKind.u64.wrap (16 : Int))),
 (16, PV.int .u64 (Go.IntKind.u64.wrap (Go.IntKind.u64.wrap (16 : Int) - (1 : Int)))),
 (17, PV.undef), (18, PV.undef), (28, PV.bool (decide ((36 : Int) < (16 : Int)))),
 (30, PV.bool false), (34, PV.bool true), ((46 : Nat), PV.undef), (68, PV.undef),
 (89, PV.undef), (94, PV.undef)]
 [((12 : Nat) + (32 : Nat), PV.arr (65 : Nat) (BRow.bytes (List.replicate (65 : Nat) (0 : UInt8))))] =
 VS.mk []
 [(0, PV.row nb (BRow.bytes b) (1 : Nat)), ((1 : Nat), PV.int .u64 u),
 (2, PV.int .i64 (16 : Int)), (3, PV.bool false), (4, PV.bool true),
 (10, PV.row true (BRow.bytes []) ((10 : Nat) + (32 : Nat))),
 (11, PV.str (ByteArray.mk #[]).data.toList), (12, PV.ptr ((12 : Nat) + (32 : Nat)) (0 : Nat)),
 ((13 : Nat), PV.int .i64 (65 : Int)), (14, PV.int .u64 (Go.IntKind.u64.wrap (4 : Int))),
 (15, PV.int .u64 (Go.IntKind.u64.wrap (16 : Int))),
 (16, PV.int .u64 (Go.IntKind.u64.wrap (Go.IntKind.u64.wrap (16 : Int) - (1 : Int)))),
 (17, PV.undef), (18, PV.undef), (28, PV.bool (decide ((36 : Int) < (16 : Int)))),
 (30, PV.bool false), (34, PV.bool true), ((46 : Nat), PV.undef), (68, PV.undef),
 (89, PV.undef), (94, PV.undef)]
 [((44 : Nat), PV.arr (65 : Nat) (BRow.bytes (List.replicate (65 : Nat) (0 : UInt8))))] ∧
 ((61 : Int) < (65 : Int) ∧
 (65 : Int) ≤ (65 : Int) ∧
 (0 : Int) ≤ u ∧
 u < (65536 : Int) ∧
 (List.replicate (65 : Nat) (0 : UInt8)).length = (65 : Nat) ∧
 ((65 : Int) = (62 : Int) → u < (16 : Int)) ∧
 ((65 : Int) = (63 : Int) → u < (256 : Int)) ∧
 ((65 : Int) = (64 : Int) → u < (4096 : Int)) ∧
 hx4 u.toNat ++ List.drop (Int.toNat (65 : Int)) (List.replicate (65 : Nat) (0 : UInt8)) =
 hx4 u.toNat) ∧
 ∀ (x : Int × Int × Bs),
 (61 : Int) < x.2.1 ∧
 x.2.1 ≤ (65 : Int) ∧
 (0 : Int) ≤ x.1 ∧
 x.1 < (65536 : Int) ∧
 List.length x.2.2 = (65 : Nat) ∧
 (x.2.1 = (62 : Int) → x.1 < (16 : Int)) ∧
 (x.2.1 = (63 : Int) → x.1 < (256 : Int)) ∧
 (x.2.1 = (64 : Int) → x.1 < (4096 : Int)) ∧
 hx4 x.1.toNat ++ List.drop x.2.1.toNat x.2.2 =
 hx4 u.toNat →
 (decide (Go.IntKind.u64.wrap (16 : Int) ≤ x.1) = true →
 inI64 (x.2.1 - (1 : Int)) ∧
 within (bitsZ Go.BinOp.and .u64 x.1 (Go.IntKind.u64.wrap (Go.IntKind.u64.wrap (16 : Int) - (1 : Int))))
 (lenZ
 (ByteArray.mk
 #[48, 49, 50, 51, 52, 53, 54, 55, 56, 57, 97, 98, 99, 100, 101, 102, 103, 104, 105, 106, 107, 108, 109, 110, 111, 112, 113, 114, 115, 116, 117, 118, 119, 120, 121, 122]).data.toList) ∧
 within (x.2.1 - (1 : Int)) ↑(65 : Nat) ∧
 (within (x.2.1 - (1 : Int)) ↑(65 : Nat) ∧
 (0 : Int) ≤
 byteZ
 (ByteArray.mk
 #[48, 49, 50, 51, 52, 53, 54, 55, 56, 57, 97, 98, 99, 100, 101, 102, 103, 104, 105, 106, 107, 108, 109, 110, 111, 112, 113, 114, 115, 116, 117, 118, 119, 120, 121, 122]).data.toList
 (bitsZ Go.BinOp.and .u64 x.1 (Go.IntKind.u64.wrap (Go.IntKind.u64.wrap (16 : Int) - (1 : Int)))) ∧
 byteZ
 (ByteArray.mk
 #[48, 49, 50, 51, 52, 53, 54, 55, 56, 57, 97, 98, 99, 100, 101, 102, 103, 104, 105, 106, 107, 108, 109, 110, 111, 112, 113, 114, 115, 116, 117, 118, 119, 120, 121, 122]).data.toList
 (bitsZ Go.BinOp.and .u64 x.1 (Go.IntKind.u64.wrap (Go.IntKind.u64.wrap (16 : Int) - (1 : Int)))) ≤
 (255 : Int)) ∧
 (0 : Int) ≤ Go.IntKind.u64.wrap (4 : Int) ∧
 VS.mk []
 [(0, PV.row nb (BRow.bytes b) (1 : Nat)),
 ((1 : Nat), PV.int .u64 (shrZ .u64 x.1 (Go.IntKind.u64.wrap (4 : Int)))),
 (2, PV.int .i64 (16 : Int)), (3, PV.bool false),
 (4, PV.bool true), (10, PV.row true (BRow.bytes []) ((10 : Nat) + (32 : Nat))),
 (11, PV.str (ByteArray.mk #[]).data.toList),
 (12, PV.ptr ((12 : Nat) + (32 : Nat)) (0 : Nat)),
 ((13 : Nat), PV.int .i64 (x.2.1 - (1 : Int))),
 (14, PV.int .u64 (Go.IntKind.u64.wrap (4 : Int))),
 (15, PV.int .u64 (Go.IntKind.u64.wrap (16 : Int))),
 (16, PV.int .u64 (Go.IntKind.u64.wrap (Go.IntKind.u64.wrap (16 : Int) - (1 : Int)))),
 (17, PV.undef), (18, PV.undef),
 (28, PV.bool (decide ((36 : Int) < (16 : Int)))), (30, PV.bool false),
 (34, PV.bool true), ((46 : Nat), PV.undef), (68, PV.undef),
 (89, PV.undef), (94, PV.undef)]
 [((12 : Nat) + (32 : Nat),
 PV.arr (65 : Nat)
 (BRow.bytes
 (setZ x.2.2 (x.2.1 - (1 : Int))
 (zByte
 (byteZ
 (ByteArray.mk
 #[48, 49, 50, 51, 52, 53, 54, 55, 56, 57, 97, 98, 99, 100, 101, 102, 103, 104, 105, 106, 107, 108, 109, 110, 111, 112, 113, 114, 115, 116, 117, 118, 119, 120, 121, 122]).data.toList
 (bitsZ Go.BinOp.and .u64 x.1
 (Go.IntKind.u64.wrap (Go.IntKind.u64.wrap (16 : Int) - (1 : Int)))))))))] =
 VS.mk []
 [(0, PV.row nb (BRow.bytes b) (1 : Nat)),
 ((1 : Nat), PV.int .u64 (shrZ .u64 x.1 (Go.IntKind.u64.wrap (4 : Int)))),
 (2, PV.int .i64 (16 : Int)), (3, PV.bool false),
 (4, PV.bool true), (10, PV.row true (BRow.bytes []) ((10 : Nat) + (32 : Nat))),
 (11, PV.str (ByteArray.mk #[]).data.toList),
 (12, PV.ptr ((12 : Nat) + (32 : Nat)) (0 : Nat)),
 ((13 : Nat), PV.int .i64 (x.2.1 - (1 : Int))),
 (14, PV.int .u64 (Go.IntKind.u64.wrap (4 : Int))),
 (15, PV.int .u64 (Go.IntKind.u64.wrap (16 : Int))),
 (16, PV.int .u64 (Go.IntKind.u64.wrap (Go.IntKind.u64.wrap (16 : Int) - (1 : Int)))),
 (17, PV.undef), (18, PV.undef),
 (28, PV.bool (decide ((36 : Int) < (16 : Int)))), (30, PV.bool false),
 (34, PV.bool true), ((46 : Nat), PV.undef), (68, PV.undef),
 (89, PV.undef), (94, PV.undef)]
 [((44 : Nat),
 PV.arr (65 : Nat)
 (BRow.bytes
 (setZ x.2.2 (x.2.1 - (1 : Int))
 (zByte
 (byteZ
 (ByteArray.mk
 #[48, 49, 50, 51, 52, 53, 54, 55, 56, 57, 97, 98, 99, 100, 101, 102, 103, 104, 105, 106, 107, 108, 109, 110, 111, 112, 113, 114, 115, 116, 117, 118, 119, 120, 121, 122]).data.toList
 (bitsZ Go.BinOp.and .u64 x.1
 (Go.IntKind.u64.wrap (Go.IntKind.u64.wrap (16 : Int) - (1 : Int)))))))))] ∧
 ((61 : Int) < x.2.1 - (1 : Int) ∧
 x.2.1 - (1 : Int) ≤ (65 : Int) ∧
 (0 : Int) ≤ shrZ .u64 x.1 (Go.IntKind.u64.wrap (4 : Int)) ∧
 shrZ .u64 x.1 (Go.IntKind.u64.wrap (4 : Int)) < (65536 : Int) ∧
 (setZ x.2.2 (x.2.1 - (1 : Int))
 (zByte
 (byteZ
 (ByteArray.mk
 #[48, 49, 50, 51, 52, 53, 54, 55, 56, 57, 97, 98, 99, 100, 101, 102, 103, 104, 105, 106, 107, 108, 109, 110, 111, 112, 113, 114, 115, 116, 117, 118, 119, 120, 121, 122]).data.toList
 (bitsZ Go.BinOp.and .u64 x.1
 (Go.IntKind.u64.wrap (Go.IntKind.u64.wrap (16 : Int) - (1 : Int))))))).length =
 (65 : Nat) ∧
 (x.2.1 - (1 : Int) = (62 : Int) →
 shrZ .u64 x.1 (Go.IntKind.u64.wrap (4 : Int)) < (16 : Int)) ∧
 (x.2.1 - (1 : Int) = (63 : Int) →
 shrZ .u64 x.1 (Go.IntKind.u64.wrap (4 : Int)) < (256 : Int)) ∧
 (x.2.1 - (1 : Int) = (64 : Int) →
 shrZ .u64 x.1 (Go.IntKind.u64.wrap (4 : Int)) < (4096 : Int)) ∧
 hx4
 (shrZ .u64 x.1 (Go.IntKind.u64.wrap (4 : Int))).toNat ++
 List.drop (x.2.1 - (1 : Int)).toNat
 (setZ x.2.2 (x.2.1 - (1 : Int))
 (zByte
 (byteZ
 (ByteArray.mk
 #[48, 49, 50, 51, 52, 53, 54, 55, 56, 57, 97, 98, 99, 100, 101, 102, 103, 104, 105, 106, 107, 108, 109, 110, 111, 112, 113, 114, 115, 116, 117, 118, 119, 120, 121, 122]).data.toList
 (bitsZ Go.BinOp.and .u64 x.1
 (Go.IntKind.u64.wrap (Go.IntKind.u64.wrap (16 : Int) - (1 : Int))))))) =
 hx4 u.toNat) ∧
 (shrZ .u64 x.1 (Go.IntKind.u64.wrap (4 : Int))).toNat < x.1.toNat) ∧
 (decide (Go.IntKind.u64.wrap (16 : Int) ≤ x.1) = false →
 inI64 (x.2.1 - (1 : Int)) ∧
 within x.1
 (lenZ
 (ByteArray.mk
 #[48, 49, 50, 51, 52, 53, 54, 55, 56, 57, 97, 98, 99, 100, 101, 102, 103, 104, 105, 106, 107, 108, 109, 110, 111, 112, 113, 114, 115, 116, 117, 118, 119, 120, 121, 122]).data.toList) ∧
 within (x.2.1 - (1 : Int)) ↑(65 : Nat) ∧
 (within (x.2.1 - (1 : Int)) ↑(65 : Nat) ∧
 (0 : Int) ≤
 byteZ
 (ByteArray.mk
 #[48, 49, 50, 51, 52, 53, 54, 55, 56, 57, 97, 98, 99, 100, 101, 102, 103, 104, 105, 106, 107, 108, 109, 110, 111, 112, 113, 114, 115, 116, 117, 118, 119, 120, 121, 122]).data.toList
 x.1 ∧
 byteZ
 (ByteArray.mk
 #[48, 49, 50, 51, 52, 53, 54, 55, 56, 57, 97, 98, 99, 100, 101, 102, 103, 104, 105, 106, 107, 108, 109, 110, 111, 112, 113, 114, 115, 116, 117, 118, 119, 120, 121, 122]).data.toList
 x.1 ≤
 (255 : Int)) ∧
 (false = true →
 inI64 (x.2.1 - (1 : Int) - (1 : Int)) ∧
 within (x.2.1 - (1 : Int) - (1 : Int)) ↑(65 : Nat) ∧
 (within (x.2.1 - (1 : Int) - (1 : Int)) ↑(65 : Nat) ∧ (0 : Int) ≤ (45 : Int) ∧ (45 : Int) ≤ (255 : Int)) ∧
 (true = true →
 upto (x.2.1 - (1 : Int) - (1 : Int)) ↑(65 : Nat) ↑(65 : Nat) ∧
 (x.2.1 - (1 : Int) - (1 : Int) + (↑(65 : Nat) - (x.2.1 - (1 : Int) - (1 : Int))) ≤
 Int.ofNat
 (setZ
 (setZ x.2.2 (x.2.1 - (1 : Int))
 (zByte
 (byteZ
 (ByteArray.mk
 #[48, 49, 50, 51, 52, 53, 54, 55, 56, 57, 97, 98, 99, 100, 101, 102, 103, 104, 105, 106, 107, 108, 109, 110, 111, 112, 113, 114, 115, 116, 117, 118, 119, 120, 121, 122]).data.toList
 x.1)))
 (x.2.1 - (1 : Int) - (1 : Int)) (zByte (45 : Int))).length ∧
 Int.ofNat
 (List.length
 (b ++
 cutZ
 (setZ
 (setZ x.2.2 (x.2.1 - (1 : Int))
 (zByte
 (byteZ
 (ByteArray.mk
 #[48, 49, 50, 51, 52, 53, 54, 55, 56, 57, 97, 98, 99, 100, 101, 102, 103, 104, 105, 106, 107, 108, 109, 110, 111, 112, 113, 114, 115, 116, 117, 118, 119, 120, 121, 122]).data.toList
 x.1)))
 (x.2.1 - (1 : Int) - (1 : Int)) (zByte (45 : Int)))
 (x.2.1 - (1 : Int) - (1 : Int))
 (x.2.1 - (1 : Int) - (1 : Int) + (↑(65 : Nat) - (x.2.1 - (1 : Int) - (1 : Int)))))) ≤
 maxRow) ∧
 k
 (PV.tup
 [PV.row
 (bif
 List.rec true
 (fun (head : UInt8) (tail : List UInt8) (tail_ih : (fun (x : List UInt8) ↦ Bool) tail) ↦
 false)
 (cutZ
 (setZ
 (setZ x.2.2 (x.2.1 - (1 : Int))
 (zByte
 (byteZ
 (ByteArray.mk
 #[48, 49, 50, 51, 52, 53, 54, 55, 56, 57, 97, 98, 99, 100, 101, 102, 103, 104, 105, 106, 107, 108, 109, 110, 111, 112, 113, 114, 115, 116, 117, 118, 119, 120, 121, 122]).data.toList
 x.1)))
 (x.2.1 - (1 : Int) - (1 : Int)) (zByte (45 : Int)))
 (x.2.1 - (1 : Int) - (1 : Int))
 (x.2.1 - (1 : Int) - (1 : Int) +
 (↑(65 : Nat) - (x.2.1 - (1 : Int) - (1 : Int))))) then
 nb
 else false)
 (BRow.bytes
 (b ++
 cutZ
 (setZ
 (setZ x.2.2 (x.2.1 - (1 : Int))
 (zByte
 (byteZ
 (ByteArray.mk
 #[48, 49, 50, 51, 52, 53, 54, 55, 56, 57, 97, 98, 99, 100, 101, 102, 103, 104, 105, 106, 107, 108, 109, 110, 111, 112, 113, 114, 115, 116, 117, 118, 119, 120, 121, 122]).data.toList
 x.1)))
 (x.2.1 - (1 : Int) - (1 : Int)) (zByte (45 : Int)))
 (x.2.1 - (1 : Int) - (1 : Int))
 (x.2.1 - (1 : Int) - (1 : Int) + (↑(65 : Nat) - (x.2.1 - (1 : Int) - (1 : Int))))))
 (Nat.succ (nat_lit 0)),
 PV.str (ByteArray.mk #[]).data.toList])) ∧
 (true = false → upto (x.2.1 - (1 : Int) - (1 : Int)) ↑(65 : Nat) ↑(65 : Nat) ∧ False)) ∧
 (false = false →
 (true = true →
 upto (x.2.1 - (1 : Int)) ↑(65 : Nat) ↑(65 : Nat) ∧
 (x.2.1 - (1 : Int) + (↑(65 : Nat) - (x.2.1 - (1 : Int))) ≤
 Int.ofNat
 (setZ x.2.2 (x.2.1 - (1 : Int))
 (zByte
 (byteZ
 (ByteArray.mk
 #[48, 49, 50, 51, 52, 53, 54, 55, 56, 57, 97, 98, 99, 100, 101, 102, 103, 104, 105, 106, 107, 108, 109, 110, 111, 112, 113, 114, 115, 116, 117, 118, 119, 120, 121, 122]).data.toList
 x.1))).length ∧
 Int.ofNat
 (List.length
 (b ++
 cutZ
 (setZ x.2.2 (x.2.1 - (1 : Int))
 (zByte
 (byteZ
 (ByteArray.mk
 #[48, 49, 50, 51, 52, 53, 54, 55, 56, 57, 97, 98, 99, 100, 101, 102, 103, 104, 105, 106, 107, 108, 109, 110, 111, 112, 113, 114, 115, 116, 117, 118, 119, 120, 121, 122]).data.toList
 x.1)))
 (x.2.1 - (1 : Int)) (x.2.1 - (1 : Int) + (↑(65 : Nat) - (x.2.1 - (1 : Int)))))) ≤
 maxRow) ∧
 k
 (PV.tup
 [PV.row
 (bif
 List.rec true
 (fun (head : UInt8) (tail : List UInt8) (tail_ih : (fun (x : List UInt8) ↦ Bool) tail) ↦ false)
 (cutZ
 (setZ x.2.2 (x.2.1 - (1 : Int))
 (zByte
 (byteZ
 (ByteArray.mk
 #[48, 49, 50, 51, 52, 53, 54, 55, 56, 57, 97, 98, 99, 100, 101, 102, 103, 104, 105, 106, 107, 108, 109, 110, 111, 112, 113, 114, 115, 116, 117, 118, 119, 120, 121, 122]).data.toList
 x.1)))
 (x.2.1 - (1 : Int)) (x.2.1 - (1 : Int) + (↑(65 : Nat) - (x.2.1 - (1 : Int))))) then
 nb
 else false)
 (BRow.bytes
 (b ++
 cutZ
 (setZ x.2.2 (x.2.1 - (1 : Int))
 (zByte
 (byteZ
 (ByteArray.mk
 #[48, 49, 50, 51, 52, 53, 54, 55, 56, 57, 97, 98, 99, 100, 101, 102, 103, 104, 105, 106, 107, 108, 109, 110, 111, 112, 113, 114, 115, 116, 117, 118, 119, 120, 121, 122]).data.toList
 x.1)))
 (x.2.1 - (1 : Int)) (x.2.1 - (1 : Int) + (↑(65 : Nat) - (x.2.1 - (1 : Int))))))
 (Nat.succ (nat_lit 0)),
 PV.str (ByteArray.mk #[]).data.toList])) ∧
 (true = false → upto (x.2.1 - (1 : Int)) ↑(65 : Nat) ↑(65 : Nat) ∧ False)))) ∧
 (true = false → False)))) := by kernel_rfl
attribute [local irreducible] Go.Vc.evF Go.Vc.evR
theorem ok_fbits (nb : Bool) (b : Bs) (u : Int) : FuncOk Tryd.prog noT 71 [.row nb (.bytes b) 1, .int .u64 u, .int .i64 16, .bool false, .bool true] ⟨0 ≤ u ∧ u < 65536 ∧ b.length ≤ 1000000, .tup [.row false (.bytes (b ++ hx4 u.toNat)) 1, .str []]⟩ := evH_ok (by kernel_rfl) X_fbits_ok (H := H_fbits nb b u) (fuel := 1000) Tryd.func71 (by kernel_rfl) fun hpre => (vc_fbits nb b u _).mpr (by
  obtain ⟨h0, h1, hb⟩ := hpre
  have w16 : IntKind.u64.wrap 16 = 16 := by decide
  have w15 : IntKind.u64.wrap (16 - 1) = 15 := by decide
  have w4 : IntKind.u64.wrap 4 = 4 := by decide
  have hmr : maxRow = 16777216 := rfl
  have hlu := hx4_len u.toNat
  simp only [w16, w15, w4]
  refine ⟨fun h => absurd h (by decide), fun _ => ⟨fun h => Bool.noConfusion h, fun _ => ⟨trivial, fun _ => ⟨trivial, by first | rfl | trivial, ⟨by omega, by omega, by omega, by omega, by first | rfl | decide, fun h => by omega, fun h => by omega, fun h => by omega, ?_⟩, fun x hx => ?_⟩, fun h => Bool.noConfusion h⟩⟩⟩
  · rw [show List.drop (Int.toNat 65) (List.replicate 65 (0 : UInt8)) = [] by decide]; simp
  obtain ⟨u1, i, a⟩ := x
  obtain ⟨g0, g1, g2, g3, g4, g5, g6, g7, g8⟩ := hx
  simp only at g0 g1 g2 g3 g4 g5 g6 g7 g8
  obtain ⟨m, rfl⟩ := Int.eq_ofNat_of_zero_le g2
  obtain ⟨j, rfl⟩ : ∃ j : Nat, i = (j : Int) + 1 := ⟨(i - 1).toNat, by omega⟩
  have e1 : (j : Int) + 1 - 1 = j := by omega
  have e2 : ((j : Int) + 1).toNat = j + 1 := by omega
  simp only [e1]
  rw [e2, Int.toNat_natCast] at g8
  have hj : j < a.length := by omega
  refine ⟨fun d => ?_, fun d => ?_⟩
  · have d1 : 16 ≤ m := by have := of_decide_eq_true d; omega
    obtain ⟨t1, t2, t3⟩ := dgs_at ⟨m % 16, by omega⟩
    simp only at t1 t2 t3
    simp only [and15q m (by omega), shr4q, t3, Int.toNat_natCast]
    refine ⟨by unfold inI64; omega, ⟨by omega, by rw [dgs_len]; omega⟩, ⟨by omega, by omega⟩, ⟨⟨by omega, by omega⟩, t1, t2⟩, by omega, by first | rfl | trivial, ⟨by omega, by omega, by omega, by omega, by unfold setZ; rw [List.length_set]; exact g4, fun h => by omega, fun h => by omega, fun h => by omega, ?_⟩, by omega⟩
    unfold setZ
    rw [Int.toNat_natCast, drop_set hj, ← g8, hx4_step d1 (by omega)]
    simp
  · have d1 : ¬ 16 ≤ m := by have := of_decide_eq_false d; omega
    obtain ⟨t1, t2, t3⟩ := dgs_at ⟨m, by omega⟩
    simp only at t1 t2 t3
    have hc : cutZ (setZ a (j : Int) (dx m)) (j : Int) ((j : Int) + (((65 : Nat) : Int) - (j : Int))) = hx4 u.toNat := by
      unfold cutZ setZ
      rw [show ((j : Int) + (((65 : Nat) : Int) - (j : Int))).toNat = 65 by omega, List.take_of_length_le (by rw [List.length_set]; omega), Int.toNat_natCast, drop_set hj, ← g8, hx4_small (by omega)]
      rfl
    simp only [t3, hc]
    refine ⟨by unfold inI64; omega, ⟨by omega, by rw [dgs_len]; omega⟩, ⟨by omega, by omega⟩, ⟨⟨by omega, by omega⟩, t1, t2⟩, fun h => Bool.noConfusion h, fun _ => ⟨fun _ => ⟨⟨by omega, by omega, by omega⟩, ⟨?_, ?_⟩, ?_⟩, fun h => Bool.noConfusion h⟩⟩
    · unfold setZ
      rw [List.length_set, Int.ofNat_eq_natCast]; omega
    · rw [List.length_append, Int.ofNat_eq_natCast]; omega
    · have hne : (List.rec (motive := fun _ => Bool) true (fun _ _ _ => false) (hx4 u.toNat) : Bool) = false := by
        cases hh : hx4 u.toNat with
        | nil => rw [hh] at hlu; simp at hlu
        | cons c l => rfl
      intro G w v hr
      rw [hne] at hr
      exact hr)
def ent_fbits : List PV → Option CallR := fun xs => match xs with
  | [.row nb (.bytes b) 1, .int .u64 u, .int .i64 16, .bool false, .bool true] => some ⟨0 ≤ u ∧ u < 65536 ∧ b.length ≤ 1000000, .tup [.row false (.bytes (b ++ hx4 u.toNat)) 1, .str []]⟩
  | _ => none
theorem ent_fbits_ok : ∀ xs c, ent_fbits xs = some c → FuncOk Tryd.prog noT 71 xs c := fun xs c h => by
  unfold ent_fbits at h
  split at h
  · injection h with h; subst h; exact ok_fbits _ _ _
  · cases h
end
section
def X_iapp : Tbl := tblX [(71, ent_fbits)]
def H_iapp (nb : Bool) (b : Bs) (u : Int) : Loops := fun i => none
theorem X_iapp_ok : XOk Tryd.prog noT X_iapp := tblX_cons ent_fbits_ok (tblX_nil)
theorem vc_iapp (nb : Bool) (b : Bs) (u : Int) (k : PV → Prop) : evR Tryd.prog X_iapp noT (H_iapp nb b u) 1000 Tryd.f54 [.row nb (.bytes b) 1, .int .u64 u, .int .i64 16] k = (
  (decide ((16 : Int) = (10 : Int)) = true → (decide (u < (100 : Int)) = true → False) ∧ (decide (u < (100 : Int)) = false → False)) ∧
 (decide ((16 : Int) = (10 : Int)) = false →
 ((0 : Int) ≤ u ∧ u < (65536 : Int) ∧ List.length b ≤ (1000000 : Nat)) ∧
 k (PV.row false (BRow.bytes (b ++ hx4 u.toNat)) (Nat.succ (nat_lit 0))))) := by kernel_rfl
attribute [local irreducible] Go.Vc.evF Go.Vc.evR
theorem ok_iapp (nb : Bool) (b : Bs) (u : Int) : FuncOk Tryd.prog noT 54 [.row nb (.bytes b) 1, .int .u64 u, .int .i64 16] ⟨0 ≤ u ∧ u < 65536 ∧ b.length ≤ 1000000, .row false (.bytes (b ++ hx4 u.toNat)) 1⟩ := evH_ok (by kernel_rfl) X_iapp_ok (H := H_iapp nb b u) (fuel := 1000) Tryd.func54 (by kernel_rfl) fun hpre => (vc_iapp nb b u _).mpr (by
  exact ⟨fun h => absurd h (by decide), fun _ => ⟨hpre, fun G w v hr => hr⟩⟩)
def ent_iapp : List PV → Option CallR := fun xs => match xs with
  | [.row nb (.bytes b) 1, .int .u64 u, .int .i64 16] => some ⟨0 ≤ u ∧ u < 65536 ∧ b.length ≤ 1000000, .row false (.bytes (b ++ hx4 u.toNat)) 1⟩
  | _ => none
theorem ent_iapp_ok : ∀ xs c, ent_iapp xs = some c → FuncOk Tryd.prog noT 54 xs c := fun xs c h => by
  unfold ent_iapp at h
  split at h
  · injection h with h; subst h; exact ok_iapp _ _ _
  · cases h
end
section
def X_sapp : Tbl := tblX [(54, ent_iapp)]
def H_sapp (nb : Bool) (b : Bs) (u : Int) : Loops := fun i => none
theorem X_sapp_ok : XOk Tryd.prog noT X_sapp := tblX_cons ent_iapp_ok (tblX_nil)
theorem vc_sapp (nb : Bool) (b : Bs) (u : Int) (k : PV → Prop) : evR Tryd.prog X_sapp noT (H_sapp nb b u) 1000 Tryd.f30 [.row nb (.bytes b) 1, .int .u64 u, .int .i64 16] k = (
  ((0 : Int) ≤ u ∧ u < (65536 : Int) ∧ List.length b ≤ (1000000 : Nat)) ∧
 k (PV.row false (BRow.bytes (b ++ hx4 u.toNat)) (Nat.succ (nat_lit 0)))) := by kernel_rfl
attribute [local irreducible] Go.Vc.evF Go.Vc.evR
theorem ok_sapp (nb : Bool) (b : Bs) (u : Int) : FuncOk Tryd.prog noT 30 [.row nb (.bytes b) 1, .int .u64 u, .int .i64 16] ⟨0 ≤ u ∧ u < 65536 ∧ b.length ≤ 1000000, .row false (.bytes (b ++ hx4 u.toNat)) 1⟩ := evH_ok (by kernel_rfl) X_sapp_ok (H := H_sapp nb b u) (fuel := 1000) Tryd.func30 (by kernel_rfl) fun hpre => (vc_sapp nb b u _).mpr (by
  exact ⟨hpre, fun G w v hr => hr⟩)
def ent_sapp : List PV → Option CallR := fun xs => match xs with
  | [.row nb (.bytes b) 1, .int .u64 u, .int .i64 16] => some ⟨0 ≤ u ∧ u < 65536 ∧ b.length ≤ 1000000, .row false (.bytes (b ++ hx4 u.toNat)) 1⟩
  | _ => none
theorem ent_sapp_ok : ∀ xs c, ent_sapp xs = some c → FuncOk Tryd.prog noT 30 xs c := fun xs c h => by
  unfold ent_sapp at h
  split at h
  · injection h with h; subst h; exact ok_sapp _ _ _
  · cases h
end
section
def lenB (l : Bs) : Int := l.length
def shI (p : List Int) (i : Int) (o : Bs) : Prop := ∃ n : Nat, 9 ≤ n + i ∧ shwF p (nought p).1 (nought p).2 n i o = shw p
def X_show6 : Tbl := tblX [(29, ent_noughts), (30, ent_sapp)]
def H_show6 (p : List Int) : Loops := fun i => bif Nat.beq i 4 then some ⟨(Bool × Bs) × (Int), (fun s x => (((((s.row s 5 x.1.1 (.bytes x.1.2)).put 6 (.int .i64 x.2)).put 13 .undef).put 18 .undef).put 29 .undef)), (fun s => ((s.nil 5, s.bytes 5), s.int 6)), (fun s x => let o := x.1; let i := x.2; 0 ≤ i ∧ i ≤ 8 ∧ lenB o.2 ≤ 5 * i ∧ shI p i o.2), (fun s x => let o := x.1; let i := x.2; (8 - i).toNat), [13, 18, 29]⟩ else none
theorem X_show6_ok : XOk Tryd.prog noT X_show6 := tblX_cons ent_noughts_ok (tblX_cons ent_sapp_ok (tblX_nil))
theorem vc_show6 (p : List Int) (k : PV → Prop) : evF Tryd.prog X_show6 noT (H_show6 p) 1000 Tryd.f13 [.arr 8 (.ints .u16 p)] k = (
  (p.length = (8 : Nat) ∧ ∀ (i : Nat), (0 : Int) ≤ p.getD i (0 : Int) ∧ p.getD i (0 : Int) < (65536 : Int)) ∧
 VS.mk []
 [(0, PV.arr (8 : Nat) (BRow.ints .u16 p)), (1, PV.ptr ((1 : Nat) + (32 : Nat)) (0 : Nat)),
 (2, PV.str (ByteArray.mk #[]).data.toList), (3, PV.int .i64 (nought p).1),
 (4, PV.int .i64 (nought p).2),
 (5, PV.row true (BRow.bytes []) ((5 : Nat) + (32 : Nat))), (6, PV.int .i64 (0 : Int)),
 ((13 : Nat), PV.undef), ((18 : Nat), PV.undef), ((29 : Nat), PV.undef)]
 [((1 : Nat) + (32 : Nat), PV.arr (8 : Nat) (BRow.ints .u16 p))] =
 VS.mk []
 [(0, PV.arr (8 : Nat) (BRow.ints .u16 p)), (1, PV.ptr ((1 : Nat) + (32 : Nat)) (0 : Nat)),
 (2, PV.str (ByteArray.mk #[]).data.toList), (3, PV.int .i64 (nought p).1),
 (4, PV.int .i64 (nought p).2),
 ((5 : Nat), PV.row true (BRow.bytes []) ((5 : Nat) + (32 : Nat))), ((6 : Nat), PV.int .i64 (0 : Int)),
 ((13 : Nat), PV.undef), ((18 : Nat), PV.undef), ((29 : Nat), PV.undef)]
 [((1 : Nat) + (32 : Nat), PV.arr (8 : Nat) (BRow.ints .u16 p))] ∧
 ((0 : Int) ≤ (0 : Int) ∧
 (0 : Int) ≤ (8 : Int) ∧ lenB [] ≤ (5 : Int) * (0 : Int) ∧ shI p (0 : Int) []) ∧
 ∀ (x : (Bool × Bs) × Int),
 (0 : Int) ≤ x.2 ∧
 x.2 ≤ (8 : Int) ∧ lenB x.1.2 ≤ (5 : Int) * x.2 ∧ shI p x.2 x.1.2 →
 (decide (x.2 < (8 : Int)) = true →
 (decide (x.2 = (nought p).1) = true →
 Int.ofNat (List.length (x.1.2 ++ (ByteArray.mk #[58, 58]).data.toList)) ≤ maxRow ∧
 inI64 ((nought p).2 - (1 : Int)) ∧
 inI64 ((nought p).2 - (1 : Int) + (1 : Int)) ∧
 VS.mk []
 [(0, PV.arr (8 : Nat) (BRow.ints .u16 p)),
 (1, PV.ptr ((1 : Nat) + (32 : Nat)) (0 : Nat)), (2, PV.str (ByteArray.mk #[]).data.toList),
 (3, PV.int .i64 (nought p).1),
 (4, PV.int .i64 (nought p).2),
 ((5 : Nat),
 PV.row false (BRow.bytes (x.1.2 ++ (ByteArray.mk #[58, 58]).data.toList))
 (nat_lit 36 + (1 : Nat))),
 ((6 : Nat), PV.int .i64 ((nought p).2 - (1 : Int) + (1 : Int))),
 ((13 : Nat), PV.undef), ((18 : Nat), PV.undef), ((29 : Nat), PV.undef)]
 [((1 : Nat) + (32 : Nat), PV.arr (8 : Nat) (BRow.ints .u16 p))] =
 VS.mk []
 [(0, PV.arr (8 : Nat) (BRow.ints .u16 p)),
 (1, PV.ptr ((1 : Nat) + (32 : Nat)) (0 : Nat)), (2, PV.str (ByteArray.mk #[]).data.toList),
 (3, PV.int .i64 (nought p).1),
 (4, PV.int .i64 (nought p).2),
 ((5 : Nat),
 PV.row false (BRow.bytes (x.1.2 ++ (ByteArray.mk #[58, 58]).data.toList))
 ((5 : Nat) + (32 : Nat))),
 ((6 : Nat), PV.int .i64 ((nought p).2 - (1 : Int) + (1 : Int))),
 ((13 : Nat), PV.undef), ((18 : Nat), PV.undef), ((29 : Nat), PV.undef)]
 [((1 : Nat) + (32 : Nat), PV.arr (8 : Nat) (BRow.ints .u16 p))] ∧
 ((0 : Int) ≤ (nought p).2 - (1 : Int) + (1 : Int) ∧
 (nought p).2 - (1 : Int) + (1 : Int) ≤ (8 : Int) ∧
 lenB (x.1.2 ++ (ByteArray.mk #[58, 58]).data.toList) ≤
 (5 : Int) * ((nought p).2 - (1 : Int) + (1 : Int)) ∧
 shI p ((nought p).2 - (1 : Int) + (1 : Int))
 (x.1.2 ++ (ByteArray.mk #[58, 58]).data.toList)) ∧
 ((8 : Int) - ((nought p).2 - (1 : Int) + (1 : Int))).toNat < ((8 : Int) - x.2).toNat) ∧
 (decide (x.2 = (nought p).1) = false →
 ((bif decide ((0 : Int) < x.2) then !decide (x.2 = (nought p).2) else false) = true →
 allU8 [PV.int .u8 (58 : Int)] ∧
 Int.ofNat (List.length (x.1.2 ++ [zByte (58 : Int)])) ≤ maxRow ∧
 within x.2 ↑(8 : Nat) ∧
 within x.2 ↑(8 : Nat) ∧
 ((0 : Int) ≤ Go.IntKind.u64.wrap (intZ p x.2) ∧
 Go.IntKind.u64.wrap (intZ p x.2) < (65536 : Int) ∧
 List.length (x.1.2 ++ [zByte (58 : Int)]) ≤ (1000000 : Nat)) ∧
 inI64 (x.2 + (1 : Int)) ∧
 VS.mk []
 [(0, PV.arr (8 : Nat) (BRow.ints .u16 p)),
 (1, PV.ptr ((1 : Nat) + (32 : Nat)) (0 : Nat)),
 (2, PV.str (ByteArray.mk #[]).data.toList),
 (3, PV.int .i64 (nought p).1),
 (4, PV.int .i64 (nought p).2),
 ((5 : Nat),
 PV.row false
 (BRow.bytes
 (x.1.2 ++ [zByte (58 : Int)] ++
 hx4 (Go.IntKind.u64.wrap (intZ p x.2)).toNat))
 (nat_lit 36 + (1 : Nat))),
 ((6 : Nat), PV.int .i64 (x.2 + (1 : Int))), ((13 : Nat), PV.undef),
 ((18 : Nat), PV.undef), ((29 : Nat), PV.undef)]
 [((1 : Nat) + (32 : Nat), PV.arr (8 : Nat) (BRow.ints .u16 p))] =
 VS.mk []
 [(0, PV.arr (8 : Nat) (BRow.ints .u16 p)),
 (1, PV.ptr ((1 : Nat) + (32 : Nat)) (0 : Nat)),
 (2, PV.str (ByteArray.mk #[]).data.toList),
 (3, PV.int .i64 (nought p).1),
 (4, PV.int .i64 (nought p).2),
 ((5 : Nat),
 PV.row false
 (BRow.bytes
 (x.1.2 ++ [zByte (58 : Int)] ++
 hx4 (Go.IntKind.u64.wrap (intZ p x.2)).toNat))
 ((5 : Nat) + (32 : Nat))),
 ((6 : Nat), PV.int .i64 (x.2 + (1 : Int))), ((13 : Nat), PV.undef),
 ((18 : Nat), PV.undef), ((29 : Nat), PV.undef)]
 [((1 : Nat) + (32 : Nat), PV.arr (8 : Nat) (BRow.ints .u16 p))] ∧
 ((0 : Int) ≤ x.2 + (1 : Int) ∧
 x.2 + (1 : Int) ≤ (8 : Int) ∧
 lenB
 (x.1.2 ++ [zByte (58 : Int)] ++
 hx4 (Go.IntKind.u64.wrap (intZ p x.2)).toNat) ≤
 (5 : Int) * (x.2 + (1 : Int)) ∧
 shI p (x.2 + (1 : Int))
 (x.1.2 ++ [zByte (58 : Int)] ++
 hx4 (Go.IntKind.u64.wrap (intZ p x.2)).toNat)) ∧
 ((8 : Int) - (x.2 + (1 : Int))).toNat < ((8 : Int) - x.2).toNat) ∧
 ((bif decide ((0 : Int) < x.2) then !decide (x.2 = (nought p).2) else false) = false →
 within x.2 ↑(8 : Nat) ∧
 within x.2 ↑(8 : Nat) ∧
 ((0 : Int) ≤ Go.IntKind.u64.wrap (intZ p x.2) ∧
 Go.IntKind.u64.wrap (intZ p x.2) < (65536 : Int) ∧ List.length x.1.2 ≤ (1000000 : Nat)) ∧
 inI64 (x.2 + (1 : Int)) ∧
 VS.mk []
 [(0, PV.arr (8 : Nat) (BRow.ints .u16 p)),
 (1, PV.ptr ((1 : Nat) + (32 : Nat)) (0 : Nat)), (2, PV.str (ByteArray.mk #[]).data.toList),
 (3, PV.int .i64 (nought p).1),
 (4, PV.int .i64 (nought p).2),
 ((5 : Nat),
 PV.row false
 (BRow.bytes (x.1.2 ++ hx4 (Go.IntKind.u64.wrap (intZ p x.2)).toNat))
 (nat_lit 36 + (1 : Nat))),
 ((6 : Nat), PV.int .i64 (x.2 + (1 : Int))), ((13 : Nat), PV.undef), ((18 : Nat), PV.undef),
 ((29 : Nat), PV.undef)]
 [((1 : Nat) + (32 : Nat), PV.arr (8 : Nat) (BRow.ints .u16 p))] =
 VS.mk []
 [(0, PV.arr (8 : Nat) (BRow.ints .u16 p)),
 (1, PV.ptr ((1 : Nat) + (32 : Nat)) (0 : Nat)), (2, PV.str (ByteArray.mk #[]).data.toList),
 (3, PV.int .i64 (nought p).1),
 (4, PV.int .i64 (nought p).2),
 ((5 : Nat),
 PV.row false
 (BRow.bytes (x.1.2 ++ hx4 (Go.IntKind.u64.wrap (intZ p x.2)).toNat))
 ((5 : Nat) + (32 : Nat))),
 ((6 : Nat), PV.int .i64 (x.2 + (1 : Int))), ((13 : Nat), PV.undef), ((18 : Nat), PV.undef),
 ((29 : Nat), PV.undef)]
 [((1 : Nat) + (32 : Nat), PV.arr (8 : Nat) (BRow.ints .u16 p))] ∧
 ((0 : Int) ≤ x.2 + (1 : Int) ∧
 x.2 + (1 : Int) ≤ (8 : Int) ∧
 lenB
 (x.1.2 ++ hx4 (Go.IntKind.u64.wrap (intZ p x.2)).toNat) ≤
 (5 : Int) * (x.2 + (1 : Int)) ∧
 shI p (x.2 + (1 : Int))
 (x.1.2 ++ hx4 (Go.IntKind.u64.wrap (intZ p x.2)).toNat)) ∧
 ((8 : Int) - (x.2 + (1 : Int))).toNat < ((8 : Int) - x.2).toNat))) ∧
 (decide (x.2 < (8 : Int)) = false → k (PV.str x.1.2))) := by kernel_rfl
attribute [local irreducible] Go.Vc.evF
theorem ok_show6 (p : List Int) : FuncOk Tryd.prog noT 13 [.arr 8 (.ints .u16 p)] ⟨IsP p, .str (shw p)⟩ := evF_ok (by kernel_rfl) X_show6_ok (H := H_show6 p) (fuel := 1000) Tryd.func13 (by kernel_rfl) fun hpre => (vc_show6 p _).mpr (by
  have hp := hpre
  have hmr : maxRow = 16777216 := rfl
  have hg := gap_is p hp.1
  have z58 : zByte 58 = (58 : UInt8) := by decide
  have hlb : ∀ l : Bs, lenB l = (l.length : Int) := fun _ => rfl
  refine ⟨hp, by first | rfl | trivial, ⟨by omega, by omega, by rw [hlb]; simp, ⟨9, by omega, rfl⟩⟩, fun x hx => ?_⟩
  obtain ⟨⟨nl, o⟩, i⟩ := x
  obtain ⟨h0, h1, h2, h3⟩ := hx
  simp only at h0 h1 h2 h3
  obtain ⟨n, hn, hs⟩ := h3
  rw [hlb] at h2
  refine ⟨fun d => ?_, fun d => ?_⟩
  · have d1 : i < 8 := of_decide_eq_true d
    have hbd := hp.2 i.toNat
    have hw : IntKind.u64.wrap (intZ p i) = p.getD i.toNat 0 := by
      show (p.getD i.toNat 0) % 18446744073709551616 = _; omega
    have hl4 := hx4_len (p.getD i.toNat 0).toNat
    obtain ⟨n, rfl⟩ : ∃ k, n = k + 1 := ⟨n - 1, by omega⟩
    rw [shwF, if_pos d1] at hs
    simp only [hw, z58]
    refine ⟨fun e => ?_, fun e => ?_⟩
    · have e1 : i = (nought p).1 := of_decide_eq_true e
      rw [if_pos e1] at hs
      have hen : (nought p).2 - 1 + 1 = (nought p).2 := by omega
      have hlen : (o ++ (ByteArray.mk #[58, 58]).data.toList).length = o.length + 2 := by rw [List.length_append]; rfl
      simp only [hen, hlb, hlen, Int.ofNat_eq_natCast]
      exact ⟨by omega, by unfold inI64; omega, by unfold inI64; omega, by first | rfl | trivial, ⟨by omega, by omega, by omega, ⟨n, by omega, hs⟩⟩, by omega⟩
    · have e1 : ¬ i = (nought p).1 := of_decide_eq_false e
      rw [if_neg e1] at hs
      refine ⟨fun f => ?_, fun f => ?_⟩
      · have f1 : 0 < i ∧ i ≠ (nought p).2 := by
          by_cases c1 : 0 < i <;> by_cases c2 : i = (nought p).2 <;> simp [c1, c2] at f ⊢
        rw [if_pos f1] at hs
        simp only [hlb, List.length_append, List.length_cons, List.length_nil, Int.ofNat_eq_natCast]
        exact ⟨⟨by show (0 : Int) ≤ 58; omega, by show (58 : Int) ≤ 255; omega⟩, by omega, ⟨by omega, by omega⟩, ⟨by omega, by omega⟩, ⟨hbd.1, hbd.2, by omega⟩, by unfold inI64; omega, by first | rfl | trivial, ⟨by omega, by omega, by omega, ⟨n, by omega, hs⟩⟩, by omega⟩
      · have f1 : ¬ (0 < i ∧ i ≠ (nought p).2) := by
          rintro ⟨c1, c2⟩
          simp [c1, c2] at f
        rw [if_neg f1] at hs
        simp only [hlb, List.length_append, List.length_cons, List.length_nil, Int.ofNat_eq_natCast]
        exact ⟨⟨by omega, by omega⟩, ⟨by omega, by omega⟩, ⟨hbd.1, hbd.2, by omega⟩, by unfold inI64; omega, by first | rfl | trivial, ⟨by omega, by omega, by omega, ⟨n, by omega, hs⟩⟩, by omega⟩
  · have d1 : ¬ i < 8 := of_decide_eq_false d
    show PV.str _ = PV.str _
    rw [← hs]
    cases n with
    | zero => rfl
    | succ n => rw [shwF, if_neg d1])
def ent_show6 : List PV → Option CallR := fun xs => match xs with
  | [.arr 8 (.ints .u16 p)] => some ⟨IsP p, .str (shw p)⟩
  | _ => none
theorem ent_show6_ok : ∀ xs c, ent_show6 xs = some c → FuncOk Tryd.prog noT 13 xs c := fun xs c h => by
  unfold ent_show6 at h
  split at h
  · injection h with h; subst h; exact ok_show6 _
  · cases h
end
theorem ok_ip4s (z : Int) : FuncOk Tryd.prog noT 14 [.int .u32 z] ⟨0 ≤ z ∧ z < 4294967296, .str (showL z.toNat)⟩ :=
  FuncOk.of_calls Tryd.func14 (by kernel_rfl) rfl fun ⟨h0, h1⟩ F w vs _ _ hw hx => by
    obtain ⟨_, _, rfl, r1, rfl⟩ := hx
    obtain rfl := r1
    obtain ⟨n, rfl⟩ := Int.eq_ofNat_of_zero_le h0
    exact ⟨_, Show_any n w (by omega) (TabH.tab hw), fun G w => by show Value.string _ = Value.string _; rw [Int.toNat_natCast]⟩
def ent_ip4s : List PV → Option CallR := fun xs => match xs with | [.int .u32 z] => some ⟨0 ≤ z ∧ z < 4294967296, .str (showL z.toNat)⟩ | _ => none
theorem ent_ip4s_ok : ∀ xs c, ent_ip4s xs = some c → FuncOk Tryd.prog noT 14 xs c := fun xs c h => by
  unfold ent_ip4s at h
  split at h
  · injection h with h; subst h; exact ok_ip4s _
  · cases h
section
theorem shwF_len (p : List Int) (bg en : Int) : ∀ (n : Nat) (i : Int) (b : List UInt8), (shwF p bg en n i b).length ≤ b.length + 7 * n := by
  intro n
  induction n with
  | zero => intro i b; unfold shwF; omega
  | succ n ih =>
    intro i b
    unfold shwF
    have hx := (hx4_len (p.getD i.toNat 0).toNat).2
    repeat' split
    all_goals first
      | omega
      | (refine Nat.le_trans (ih _ _) ?_; simp only [List.length_append, List.length_cons, List.length_nil]; omega)
theorem shw_len (p : List Int) : (shw p).length ≤ 63 := shwF_len p _ _ 9 0 []
theorem dec256_len : ∀ m : Fin 256, (Lib.decDigits m.val).length ≤ 3 := by decide +kernel
theorem showL_len {n : Nat} (h : n < 4294967296) : (showL n).length ≤ 15 := by
  have h0 := dec256_len ⟨q0 n, by unfold q0; omega⟩
  have h1 := dec256_len ⟨q1 n, by unfold q1; omega⟩
  have h2 := dec256_len ⟨q2 n, by unfold q2; omega⟩
  have h3 := dec256_len ⟨q3 n, by unfold q3; omega⟩
  dsimp only at h0 h1 h2 h3
  unfold showL
  simp only [List.length_append, List.length_cons, List.length_nil]
  omega
def hshw (kd : Int) (l : Bs) (n : Int) (p : List Int) : Bs := if kd = 4 then (91 : UInt8) :: (shw p ++ [93]) else if kd = 3 then showL n.toNat else if kd = 2 ∨ kd = 5 then l else []
theorem hshw_len {kd : Int} {l : Bs} {n : Int} {p : List Int} (hl : l.length ≤ 2000) (h0 : 0 ≤ n) (h1 : n < 4294967296) : (hshw kd l n p).length ≤ 2000 := by
  unfold hshw
  have := shw_len p
  have := showL_len (show n.toNat < 4294967296 by omega)
  repeat' split
  all_goals try simp only [List.length_append, List.length_cons, List.length_nil]
  all_goals omega
def X_gshow : Tbl := tblX [(13, ent_show6), (14, ent_ip4s)]
def H_gshow (kd : Int) (l : Bs) (n : Int) (p : List Int) : Loops := fun i => none
theorem X_gshow_ok : XOk Tryd.prog noT X_gshow := tblX_cons ent_show6_ok (tblX_cons ent_ip4s_ok (tblX_nil))
theorem vc_gshow (kd : Int) (l : Bs) (n : Int) (p : List Int) (k : PV → Prop) : evF Tryd.prog X_gshow noT (H_gshow kd l n p) 1000 Tryd.f6 [.agg [.int .i64 kd, .str l, .int .u32 n, .arr 8 (.ints .u16 p)]] k = (
  (decide (kd = (4 : Int)) = true →
 (p.length = (8 : Nat) ∧ ∀ (i : Nat), (0 : Int) ≤ p.getD i (0 : Int) ∧ p.getD i (0 : Int) < (65536 : Int)) ∧
 (ByteArray.mk #[91]).data.toList.length + (shw p).length ≤ Go.Vc.maxLen ∧
 List.length ((ByteArray.mk #[91]).data.toList ++ shw p) + (ByteArray.mk #[93]).data.toList.length ≤
 Go.Vc.maxLen ∧
 k (PV.str ((ByteArray.mk #[91]).data.toList ++ shw p ++ (ByteArray.mk #[93]).data.toList))) ∧
 (decide (kd = (4 : Int)) = false →
 (decide (kd = (3 : Int)) = true → ((0 : Int) ≤ n ∧ n < (4294967296 : Int)) ∧ k (PV.str (showL n.toNat))) ∧
 (decide (kd = (3 : Int)) = false →
 (decide (kd = (2 : Int)) = true →
 (decide (kd = (2 : Int)) = true → k (PV.str l)) ∧ (decide (kd = (2 : Int)) = false → k (PV.str (ByteArray.mk #[]).data.toList))) ∧
 (decide (kd = (2 : Int)) = false →
 (decide (kd = (5 : Int)) = true → k (PV.str l)) ∧ (decide (kd = (5 : Int)) = false → k (PV.str (ByteArray.mk #[]).data.toList)))))) := by kernel_rfl
attribute [local irreducible] Go.Vc.evF
theorem ok_gshow (kd : Int) (l : Bs) (n : Int) (p : List Int) : FuncOk Tryd.prog noT 6 [.agg [.int .i64 kd, .str l, .int .u32 n, .arr 8 (.ints .u16 p)]] ⟨l.length ≤ 2000 ∧ 0 ≤ n ∧ n < 4294967296 ∧ IsP p, .str (hshw kd l n p)⟩ := evF_ok (by kernel_rfl) X_gshow_ok (H := H_gshow kd l n p) (fuel := 1000) Tryd.func6 (by kernel_rfl) fun hpre => (vc_gshow kd l n p _).mpr (by
  obtain ⟨hl, h0, h1, hp⟩ := hpre
  have e91 : (ByteArray.mk #[91]).data.toList = ([91] : Bs) := rfl
  have e93 : (ByteArray.mk #[93]).data.toList = ([93] : Bs) := rfl
  have hs := shw_len p
  have hm : (1000 : Nat) ≤ Go.Vc.maxLen := by decide
  rw [e91, e93]
  refine ⟨fun h => ⟨hp, ?_, ?_, ?_⟩, fun h => ⟨fun h3 => ⟨⟨h0, h1⟩, ?_⟩, fun h3 => ⟨fun h2 => ⟨fun _ => ?_, fun g => absurd (h2.symm.trans g) (by decide)⟩, fun h2 => ⟨fun h5 => ?_, fun h5 => ?_⟩⟩⟩⟩
  · simp only [List.length_cons, List.length_nil]; omega
  · simp only [List.length_append, List.length_cons, List.length_nil]; omega
  · refine congrArg PV.str ?_
    unfold hshw; rw [if_pos (of_decide_eq_true h)]; rfl
  · refine congrArg PV.str ?_
    unfold hshw; rw [if_neg (of_decide_eq_false h), if_pos (of_decide_eq_true h3)]
  · refine congrArg PV.str ?_
    unfold hshw; rw [if_neg (of_decide_eq_false h), if_neg (of_decide_eq_false h3), if_pos (Or.inl (of_decide_eq_true h2))]
  · refine congrArg PV.str ?_
    unfold hshw; rw [if_neg (of_decide_eq_false h), if_neg (of_decide_eq_false h3), if_pos (Or.inr (of_decide_eq_true h5))]
  · refine congrArg PV.str ?_
    unfold hshw; rw [if_neg (of_decide_eq_false h), if_neg (of_decide_eq_false h3), if_neg (fun g => g.elim (of_decide_eq_false h2) (of_decide_eq_false h5))])
def ent_gshow : List PV → Option CallR := fun xs => match xs with
  | [.agg [.int .i64 kd, .str l, .int .u32 n, .arr 8 (.ints .u16 p)]] => some ⟨l.length ≤ 2000 ∧ 0 ≤ n ∧ n < 4294967296 ∧ IsP p, .str (hshw kd l n p)⟩
  | _ => none
theorem ent_gshow_ok : ∀ xs c, ent_gshow xs = some c → FuncOk Tryd.prog noT 6 xs c := fun xs c h => by
  unfold ent_gshow at h
  split at h
  · injection h with h; subst h; exact ok_gshow _ _ _ _
  · cases h
end
end Go.Proofs.YtaphadmcjimmeaaDoor
