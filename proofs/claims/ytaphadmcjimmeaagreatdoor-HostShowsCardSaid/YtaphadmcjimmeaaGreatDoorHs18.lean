import Derived.ProofKit
import Derived.Test.YtaphadmcjimmeaaGreatDoorProg
import Derived.Laws.Bits64b
import Derived.Test.YtaphadmcjimmeaaGreatDoorHs6
import Derived.Test.YtaphadmcjimmeaaGreatDoorHs7
import Derived.Test.YtaphadmcjimmeaaGreatDoorHs8
import Derived.Test.YtaphadmcjimmeaaGreatDoorHs12
import Derived.Test.YtaphadmcjimmeaaGreatDoorHs13
import Derived.Test.YtaphadmcjimmeaaGreatDoorHs16
import Derived.Test.YtaphadmcjimmeaaGreatDoorHs17
set_option linter.unusedVariables false
set_option linter.unusedSimpArgs false
set_option maxRecDepth 100000
set_option maxHeartbeats 4000000
namespace Go.Proofs.YtaphadmcjimmeaaGreatDoor
open Go Go.Proofs Go.RowKit Go.Vc
def TabZ (w : World) (g : Nat) (k : IntKind) (zs : List Int) : Prop := ∃ t, w.heap[g]? = some (.cells (zs.map fun z => Value.int k z).toArray t (0, 0))
theorem TabZ.lt {w : World} {g : Nat} {k : IntKind} {zs : List Int} (h : TabZ w g k zs) : g < w.heap.size := by
  obtain ⟨t, h⟩ := h
  exact (Array.getElem?_eq_some_iff.1 h).1
theorem TabZ.same {w w' : World} {g : Nat} {k : IntKind} {zs : List Int} (h : TabZ w g k zs) (hb : w'.heap[g]? = w.heap[g]?) : TabZ w' g k zs := by
  obtain ⟨t, h⟩ := h
  exact ⟨t, by rw [hb]; exact h⟩
def NumZ (w : World) (g : Nat) : Prop := ∃ m, w.cell? ⟨g, 0, none⟩ = some (.int .i64 m)
theorem NumZ.lt {w : World} {g : Nat} (h : NumZ w g) : g < w.heap.size := by
  obtain ⟨m, h⟩ := h
  refine Classical.byContradiction fun hn => ?_
  unfold World.cell? at h
  rw [Array.getElem?_eq_none (show w.heap.size ≤ g by omega)] at h
  cases h
theorem NumZ.same {w w' : World} {g : Nat} (h : NumZ w g) (hb : w'.heap[g]? = w.heap[g]?) : NumZ w' g := by
  obtain ⟨m, h⟩ := h
  refine ⟨m, ?_⟩
  unfold World.cell? at h ⊢
  rw [hb]
  exact h
def deB64 : List Int := [0, 1, 56, 2, 57, 49, 28, 3, 61, 58, 42, 50, 38, 29, 17, 4, 62, 47, 59, 36, 45, 43, 51, 22, 53, 39, 33, 30, 24, 18, 12, 5, 63, 55, 48, 27, 60, 41, 37, 16, 46, 35, 44, 21, 52, 32, 23, 11, 54, 26, 40, 15, 34, 20, 31, 10, 25, 14, 19, 9, 13, 8, 7, 6]
def TabH (w : World) : Prop := TabZ w 0 .u64 Lib.pow10Tab ∧ NumZ w 1 ∧ TabZ w 3 .u8 deB64
instance wdH : Wd := ⟨TabH, max 0 (max 1 3) + 1, fun w h => by have := h.1.lt; have := h.2.1.lt; have := h.2.2.lt; omega, fun w w' _ _ _ _ hb h => ⟨h.1.same (hb _ (by omega)), h.2.1.same (hb _ (by omega)), h.2.2.same (hb _ (by omega))⟩⟩
theorem TabH.tab {w : World} (h : TabH w) : Tab w := by
  obtain ⟨⟨t, h⟩, -⟩ := h
  unfold Tab Lib.TabIs World.var?
  rw [show Program.globalNamed Tryz.prog "internal/strconv.uint64pow10" = some 0 by kernel_rfl]
  simp only [Option.bind_some, h]
theorem ok_behind (l : Bs) (i : Int) : FuncOk Tryz.prog noT 59 [.str l, .int .i64 i] ⟨0 ≤ i ∧ i ≤ l.length ∧ l.length ≤ 1000000, .int .i64 (i + (hexLen (l.drop i.toNat) : Int))⟩ :=
  FuncOk.of_calls Tryz.func59 (by kernel_rfl) rfl fun ⟨h0, h1, h2⟩ F w vs _ _ hw hx => by
    obtain ⟨_, _, rfl, r1, _, _, rfl, r2, rfl⟩ := hx
    obtain rfl := r1
    obtain rfl := r2
    obtain ⟨n, rfl⟩ := Int.eq_ofNat_of_zero_le h0
    refine ⟨_, (behind_any l n w h2 (by omega)).mono fun e w' ⟨he, hw'⟩ => ⟨he, hw' ▸ Below.refl _ _⟩, fun G w => ?_⟩
    show Value.int _ _ = Value.int _ _
    rw [Int.toNat_natCast]; push_cast; rfl
theorem ok_number (l : Bs) : FuncOk Tryz.prog noT 60 [.str l] ⟨l.length ≤ 4 ∧ ∀ i, i < l.length → 0 ≤ hexN (byt l i), .int .u16 (hexW l)⟩ :=
  FuncOk.of_calls Tryz.func60 (by kernel_rfl) rfl fun ⟨h0, h1⟩ F w vs _ _ hw hx => by
    obtain ⟨_, _, rfl, r1, rfl⟩ := hx
    obtain rfl := r1
    exact ⟨_, (num16_any l w h0 h1).mono fun e w' ⟨he, hw'⟩ => ⟨he, hw' ▸ Below.refl _ _⟩, fun G w => rfl⟩
theorem ok_dotted (l : Bs) : FuncOk Tryz.prog noT 61 [.str l] ⟨l.length ≤ 1000000, .tup [.int .u32 (dotV l), .bool (dotO l)]⟩ :=
  FuncOk.of_calls Tryz.func61 (by kernel_rfl) rfl fun h F w vs _ _ hw hx => by
    obtain ⟨_, _, rfl, r1, rfl⟩ := hx
    obtain rfl := r1
    exact ⟨_, dotted_any l w h (TabH.tab hw), fun G w => ⟨_, ⟨_, _, rfl, rfl, _, _, rfl, rfl, rfl⟩, rfl⟩⟩
theorem ok_spread (p : List Int) (c g : Int) : FuncOk Tryz.prog noT 62 [.arr 8 (.ints .u16 p), .int .i64 c, .int .i64 g] ⟨p.length = 8 ∧ 0 ≤ g ∧ g ≤ c ∧ c ≤ 7, .arr 8 (.ints .u16 (spreadM p c.toNat g.toNat))⟩ :=
  FuncOk.of_calls Tryz.func62 (by kernel_rfl) rfl fun ⟨hp, h0, h1, h2⟩ F w vs _ _ hw hx => by
    obtain ⟨_, _, rfl, r1, _, _, rfl, r2, _, _, rfl, r3, rfl⟩ := hx
    obtain ⟨-, rfl⟩ := r1
    obtain rfl := r2
    obtain rfl := r3
    have := spread_any p c.toNat g.toNat w hp (by omega) (by omega)
    rw [Int.toNat_of_nonneg (by omega), Int.toNat_of_nonneg h0] at this
    exact ⟨_, this, fun G w => ⟨by show List.length (List.map _ _) = 8; rw [List.length_map]; unfold spreadM; simp; omega, rfl⟩⟩
def preB (l m : Bs) : Bool := Lib.hasPrefix l m
theorem ok_prefix (l m : Bs) : FuncOk Tryz.prog noT 15 [.str l, .str m] ⟨True, .bool (preB l m)⟩ :=
  FuncOk.of_calls Tryz.func15 (by kernel_rfl) rfl fun _ F w vs _ _ hw hx => by
    obtain ⟨_, _, rfl, r1, _, _, rfl, r2, rfl⟩ := hx
    obtain rfl := r1
    obtain rfl := r2
    exact ⟨_, (Tryz.strings_HasPrefix ⟨l.toArray⟩ ⟨m.toArray⟩ w).mono fun e w' ⟨he, hw'⟩ => ⟨he, hw' ▸ Below.refl _ _⟩, fun G w => rfl⟩
def conB (l m : Bs) : Bool := Lib.containsAny l m
theorem ok_con (l m : Bs) : FuncOk Tryz.prog noT 18 [.str l, .str m] ⟨l.length ≤ 1000000 ∧ m.length ≤ 1000000 ∧ (∀ b ∈ m, b.toNat < 128), .bool (conB l m)⟩ :=
  FuncOk.of_calls Tryz.func18 (by kernel_rfl) rfl fun ⟨h0, h1, h2⟩ F w vs _ _ hw hx => by
    obtain ⟨_, _, rfl, r1, _, _, rfl, r2, rfl⟩ := hx
    obtain rfl := r1
    obtain rfl := r2
    exact ⟨_, conAny Tryz.lays150 (by kernel_rfl) ⟨l.toArray⟩ ⟨m.toArray⟩ w (by show l.length < 4294967281; omega) (by show m.length < 4294967281; omega) (fun j b hj => h2 b (List.mem_of_getElem? hj)), fun G w => rfl⟩
def hasB (l m : Bs) : Bool := Lib.contains l m
theorem ok_has (l m : Bs) : FuncOk Tryz.prog noT 64 [.str l, .str m] ⟨l.length ≤ 1000000, .bool (hasB l m)⟩ :=
  FuncOk.of_calls Tryz.func64 (by kernel_rfl) rfl fun h0 F w vs _ _ hw hx => by
    obtain ⟨_, _, rfl, r1, _, _, rfl, r2, rfl⟩ := hx
    obtain rfl := r1
    obtain rfl := r2
    obtain ⟨k, hk⟩ := (show TabH w from hw).2.1
    exact ⟨_, (Tryz.strings_Contains ⟨l.toArray⟩ ⟨m.toArray⟩ k w (by show l.length < 4294967281; omega) hk).mono fun e w' ⟨he, hw'⟩ => ⟨he, hw' ▸ Below.refl _ _⟩, fun G w => rfl⟩
def end4 (l : Bs) : Bool := endsB ((trimL l).drop (lastK (trimL l)))
theorem ok_ends (l : Bs) : FuncOk Tryz.prog noT 41 [.str l] ⟨l.length ≤ 1000000, .bool (end4 l)⟩ :=
  FuncOk.of_calls Tryz.func41 (by kernel_rfl) rfl fun h F w vs _ _ hw hx => by
    obtain ⟨_, _, rfl, r1, rfl⟩ := hx
    obtain rfl := r1
    exact ⟨_, (Ends_any l w h).mono fun e w' ⟨he, hw'⟩ => ⟨he, hw' ▸ Below.refl _ _⟩, fun G w => rfl⟩
def fourO (l : Bs) : Bool := (parseL (splitB 46 (trimL l)) 4 0).2
theorem ok_pfour (l : Bs) : FuncOk Tryz.prog noT 42 [.str l] ⟨l.length ≤ 1000000, .tup [.int .u32 (dotV l), .bool (fourO l)]⟩ :=
  FuncOk.of_calls Tryz.func42 (by kernel_rfl) rfl fun h F w vs _ _ hw hx => by
    obtain ⟨_, _, rfl, r1, rfl⟩ := hx
    obtain rfl := r1
    exact ⟨_, Parse_any l w h, fun G w => ⟨_, ⟨_, _, rfl, rfl, _, _, rfl, rfl, rfl⟩, rfl⟩⟩
def runB (l : Bs) (r : Int) : Bool := decide (r < 128) && decide (0 ≤ Lib.indexByte l r.toNat.toUInt8)
theorem ok_crune (l : Bs) (r : Int) : FuncOk Tryz.prog noT 66 [.str l, .int .i32 r] ⟨0 ≤ r ∧ r ≤ 2147483647 ∧ (∀ b ∈ l, b.toNat < 128), .bool (runB l r)⟩ :=
  FuncOk.of_calls Tryz.func66 (by kernel_rfl) rfl fun ⟨h0, h1, h2⟩ F w vs _ _ hw hx => by
    obtain ⟨_, _, rfl, r1, _, _, rfl, r2, rfl⟩ := hx
    obtain rfl := r1
    obtain rfl := r2
    by_cases h : r < 128
    · refine ⟨_, (Tryz.strings_ContainsRune_ascii ⟨l.toArray⟩ r w h0 h).mono fun e w' ⟨he, hw'⟩ => ⟨he, hw' ▸ Below.refl _ _⟩, fun G w => ?_⟩
      show Value.bool _ = Value.bool _
      unfold runB
      rw [decide_eq_true h]; rfl
    · refine ⟨_, conRune_far Tryz.lays151 ⟨l.toArray⟩ r w (fun j b hj => h2 b (List.mem_of_getElem? hj)) (by omega) h1, fun G w => ?_⟩
      show Value.bool _ = Value.bool _
      unfold runB
      rw [decide_eq_false h]; rfl
def ent_behind : List PV → Option CallR := fun xs => match xs with | [.str l, .int .i64 i] => some ⟨0 ≤ i ∧ i ≤ l.length ∧ l.length ≤ 1000000, .int .i64 (i + (hexLen (l.drop i.toNat) : Int))⟩ | _ => none
theorem ent_behind_ok : ∀ xs c, ent_behind xs = some c → FuncOk Tryz.prog noT 59 xs c := fun xs c h => by
  unfold ent_behind at h
  split at h
  · injection h with h; subst h; exact ok_behind _ _
  · cases h
def ent_number : List PV → Option CallR := fun xs => match xs with | [.str l] => some ⟨l.length ≤ 4 ∧ ∀ i, i < l.length → 0 ≤ hexN (byt l i), .int .u16 (hexW l)⟩ | _ => none
theorem ent_number_ok : ∀ xs c, ent_number xs = some c → FuncOk Tryz.prog noT 60 xs c := fun xs c h => by
  unfold ent_number at h
  split at h
  · injection h with h; subst h; exact ok_number _
  · cases h
def ent_dotted : List PV → Option CallR := fun xs => match xs with | [.str l] => some ⟨l.length ≤ 1000000, .tup [.int .u32 (dotV l), .bool (dotO l)]⟩ | _ => none
theorem ent_dotted_ok : ∀ xs c, ent_dotted xs = some c → FuncOk Tryz.prog noT 61 xs c := fun xs c h => by
  unfold ent_dotted at h
  split at h
  · injection h with h; subst h; exact ok_dotted _
  · cases h
def ent_spread : List PV → Option CallR := fun xs => match xs with | [.arr 8 (.ints .u16 p), .int .i64 c, .int .i64 g] => some ⟨p.length = 8 ∧ 0 ≤ g ∧ g ≤ c ∧ c ≤ 7, .arr 8 (.ints .u16 (spreadM p c.toNat g.toNat))⟩ | _ => none
theorem ent_spread_ok : ∀ xs c, ent_spread xs = some c → FuncOk Tryz.prog noT 62 xs c := fun xs c h => by
  unfold ent_spread at h
  split at h
  · injection h with h; subst h; exact ok_spread _ _ _
  · cases h
def ent_prefix : List PV → Option CallR := fun xs => match xs with | [.str l, .str m] => some ⟨True, .bool (preB l m)⟩ | _ => none
theorem ent_prefix_ok : ∀ xs c, ent_prefix xs = some c → FuncOk Tryz.prog noT 15 xs c := fun xs c h => by
  unfold ent_prefix at h
  split at h
  · injection h with h; subst h; exact ok_prefix _ _
  · cases h
def ent_con : List PV → Option CallR := fun xs => match xs with | [.str l, .str m] => some ⟨l.length ≤ 1000000 ∧ m.length ≤ 1000000 ∧ (∀ b ∈ m, b.toNat < 128), .bool (conB l m)⟩ | _ => none
theorem ent_con_ok : ∀ xs c, ent_con xs = some c → FuncOk Tryz.prog noT 18 xs c := fun xs c h => by
  unfold ent_con at h
  split at h
  · injection h with h; subst h; exact ok_con _ _
  · cases h
def ent_has : List PV → Option CallR := fun xs => match xs with | [.str l, .str m] => some ⟨l.length ≤ 1000000, .bool (hasB l m)⟩ | _ => none
theorem ent_has_ok : ∀ xs c, ent_has xs = some c → FuncOk Tryz.prog noT 64 xs c := fun xs c h => by
  unfold ent_has at h
  split at h
  · injection h with h; subst h; exact ok_has _ _
  · cases h
def ent_ends : List PV → Option CallR := fun xs => match xs with | [.str l] => some ⟨l.length ≤ 1000000, .bool (end4 l)⟩ | _ => none
theorem ent_ends_ok : ∀ xs c, ent_ends xs = some c → FuncOk Tryz.prog noT 41 xs c := fun xs c h => by
  unfold ent_ends at h
  split at h
  · injection h with h; subst h; exact ok_ends _
  · cases h
def ent_pfour : List PV → Option CallR := fun xs => match xs with | [.str l] => some ⟨l.length ≤ 1000000, .tup [.int .u32 (dotV l), .bool (fourO l)]⟩ | _ => none
theorem ent_pfour_ok : ∀ xs c, ent_pfour xs = some c → FuncOk Tryz.prog noT 42 xs c := fun xs c h => by
  unfold ent_pfour at h
  split at h
  · injection h with h; subst h; exact ok_pfour _
  · cases h
def ent_crune : List PV → Option CallR := fun xs => match xs with | [.str l, .int .i32 r] => some ⟨0 ≤ r ∧ r ≤ 2147483647 ∧ (∀ b ∈ l, b.toNat < 128), .bool (runB l r)⟩ | _ => none
theorem ent_crune_ok : ∀ xs c, ent_crune xs = some c → FuncOk Tryz.prog noT 66 xs c := fun xs c h => by
  unfold ent_crune at h
  split at h
  · injection h with h; subst h; exact ok_crune _ _
  · cases h
theorem ok_noughts (p : List Int) : FuncOk Tryz.prog noT 20 [.arr 8 (.ints .u16 p)] ⟨IsP p, .tup [.int .i64 (nought p).1, .int .i64 (nought p).2]⟩ :=
  FuncOk.of_calls Tryz.func20 (by kernel_rfl) rfl fun hp F w vs _ _ hw hx => by
    obtain ⟨_, _, rfl, ⟨_, rfl⟩, rfl⟩ := hx
    exact ⟨_, (noughts_any p w hp).mono fun e w' ⟨he, hw'⟩ => ⟨he, hw' ▸ (Below.refl _ _).alloc (Nat.le_refl _) _⟩, fun G w => ⟨_, ⟨_, _, rfl, rfl, _, _, rfl, rfl, rfl⟩, rfl⟩⟩
def ent_noughts : List PV → Option CallR := fun xs => match xs with | [.arr 8 (.ints .u16 p)] => some ⟨IsP p, .tup [.int .i64 (nought p).1, .int .i64 (nought p).2]⟩ | _ => none
theorem ent_noughts_ok : ∀ xs c, ent_noughts xs = some c → FuncOk Tryz.prog noT 20 xs c := fun xs c h => by
  unfold ent_noughts at h
  split at h
  · injection h with h; subst h; exact ok_noughts _
  · cases h
theorem tz16_any (w : World) (h : TabH w) : Calls Tryz.prog 115 #[.int .u64 16] w fun e w' => e = .returned (.int .i64 4) ∧ w = w' := by
  obtain ⟨-, -, t, h⟩ := h
  have hc : w.cell? ⟨3, 15, none⟩ = some (.int .u8 4) := by
    rw [cell_of_row w _ 15 _ t (0, 0) h]; rfl
  clear h
  have key : IntKind.u64.wrap (bits BinOp.and IntKind.u64 (16 : Int) (IntKind.u64.wrap (-(16 : Int))) * 285870213051353865) / 288230376151711744 = (15 : Int) := by decide +kernel
  go_enter Tryz.func115, Tryz.ntmps115
  go_wp2_with (simp only [key])
  go_ret
  exact ⟨rfl, by trivial⟩
theorem ok_tz64 : FuncOk Tryz.prog noT 115 [.int .u64 16] ⟨True, .int .i64 4⟩ :=
  FuncOk.of_calls Tryz.func115 (by kernel_rfl) rfl fun hp F w vs _ _ hw hx => by
    obtain ⟨_, _, rfl, rfl, rfl⟩ := hx
    exact ⟨_, (tz16_any w hw).mono fun e w' ⟨he, hw'⟩ => ⟨he, hw' ▸ Below.refl _ _⟩, fun G w => rfl⟩
def ent_tz64 : List PV → Option CallR := fun xs => match xs with | [.int .u64 16] => some ⟨True, .int .i64 4⟩ | _ => none
theorem ent_tz64_ok : ∀ xs c, ent_tz64 xs = some c → FuncOk Tryz.prog noT 115 xs c := fun xs c h => by
  unfold ent_tz64 at h
  split at h
  · injection h with h; subst h; exact ok_tz64
  · cases h
section
def X_ipow : Tbl := tblX []
def H_ipow  : Loops := fun i => none
theorem X_ipow_ok : XOk Tryz.prog noT X_ipow := tblX_nil
theorem vc_ipow  (k : PV → Prop) : evF Tryz.prog X_ipow noT (H_ipow ) 1000 Tryz.f106 [.int .i64 16] k = (
  inI64 ((16 : Int) - (1 : Int)) ∧ k (PV.bool (decide (bitsZ Go.BinOp.and .i64 (16 : Int) ((16 : Int) - (1 : Int)) = (0 : Int))))) := by kernel_rfl
attribute [local irreducible] Go.Vc.evF
theorem ok_ipow  : FuncOk Tryz.prog noT 106 [.int .i64 16] ⟨True, .bool true⟩ := evF_ok (by kernel_rfl) X_ipow_ok (H := H_ipow ) (fuel := 1000) Tryz.func106 (by kernel_rfl) fun hpre => (vc_ipow  _).mpr (by
  exact ⟨by unfold inI64; omega, congrArg PV.bool (by decide +kernel)⟩)
def ent_ipow : List PV → Option CallR := fun xs => match xs with
  | [.int .i64 16] => some ⟨True, .bool true⟩
  | _ => none
theorem ent_ipow_ok : ∀ xs c, ent_ipow xs = some c → FuncOk Tryz.prog noT 106 xs c := fun xs c h => by
  unfold ent_ipow at h
  split at h
  · injection h with h; subst h; exact ok_ipow 
  · cases h
end
section
def X_tz : Tbl := tblX [(115, ent_tz64)]
def H_tz  : Loops := fun i => none
theorem X_tz_ok : XOk Tryz.prog noT X_tz := tblX_cons ent_tz64_ok (tblX_nil)
theorem vc_tz  (k : PV → Prop) : evF Tryz.prog X_tz noT (H_tz ) 1000 Tryz.f107 [.int .u64 16] k = (
  (false = true → False) ∧ (false = false → True ∧ k (PV.int .i64 (4 : Int)))) := by kernel_rfl
attribute [local irreducible] Go.Vc.evF
theorem ok_tz  : FuncOk Tryz.prog noT 107 [.int .u64 16] ⟨True, .int .i64 4⟩ := evF_ok (by kernel_rfl) X_tz_ok (H := H_tz ) (fuel := 1000) Tryz.func107 (by kernel_rfl) fun hpre => (vc_tz  _).mpr (by
  exact ⟨fun h => (by cases h), fun _ => ⟨trivial, rfl⟩⟩)
def ent_tz : List PV → Option CallR := fun xs => match xs with
  | [.int .u64 16] => some ⟨True, .int .i64 4⟩
  | _ => none
theorem ent_tz_ok : ∀ xs c, ent_tz xs = some c → FuncOk Tryz.prog noT 107 xs c := fun xs c h => by
  unfold ent_tz at h
  split at h
  · injection h with h; subst h; exact ok_tz 
  · cases h
end
section
abbrev DGS : Bs := (ByteArray.mk #[48, 49, 50, 51, 52, 53, 54, 55, 56, 57, 97, 98, 99, 100, 101, 102, 103, 104, 105, 106, 107, 108, 109, 110, 111, 112, 113, 114, 115, 116, 117, 118, 119, 120, 121, 122]).data.toList
theorem dgs_at : ∀ k : Fin 16, 0 ≤ byteZ DGS (k.val : Int) ∧ byteZ DGS (k.val : Int) ≤ 255 ∧ zByte (byteZ DGS (k.val : Int)) = dx k.val := by decide +kernel
theorem dgs_len : lenZ DGS = 36 := by decide
theorem and15q (m : Nat) (h : m < 65536) : bitsZ BinOp.and IntKind.u64 (m : Int) 15 = ((m % 16 : Nat) : Int) := by
  have := bits_and_u64_nat m 15 (by omega) (by decide)
  rw [show m &&& 15 = m % 16 from Nat.and_two_pow_sub_one_eq_mod m 4] at this
  exact this
theorem shr4q (m : Nat) : shrZ IntKind.u64 (m : Int) 4 = ((m / 16 : Nat) : Int) := by
  unfold shrZ
  rw [show min (4 : Int).toNat IntKind.u64.bits = 4 by decide, Int.fdiv_eq_ediv_of_nonneg _ (by decide)]
  show (m : Int) / 16 = _
  omega
theorem drop_set {l : Bs} {j : Nat} (h : j < l.length) (c : UInt8) : (l.set j c).drop j = c :: l.drop (j + 1) := by
  rw [List.drop_eq_getElem_cons (by rw [List.length_set]; exact h), List.getElem_set_self, List.drop_set_of_lt (by omega)]
def X_fbits : Tbl := tblX [(106, ent_ipow), (107, ent_tz)]
def H_fbits (nb : Bool) (b : Bs) (u : Int) : Loops := fun i => bif Nat.beq i 11 then some ⟨(Int) × (Int) × (Bs), (fun s x => ((VS.mk ((s.put 1 (.int .u64 x.1)).put 13 (.int .i64 x.2.1)).loc ((s.put 1 (.int .u64 x.1)).put 13 (.int .i64 x.2.1)).env (setN 44 (.arr 65 (.bytes x.2.2)) ((s.put 1 (.int .u64 x.1)).put 13 (.int .i64 x.2.1)).lh)).put 46 .undef)), (fun s => (s.int 1, s.int 13, VS.bytes (VS.mk [] s.lh []) 44)), (fun s x => let u1 := x.1; let i := x.2.1; let a := x.2.2; 61 < i ∧ i ≤ 65 ∧ 0 ≤ u1 ∧ u1 < 65536 ∧ a.length = 65 ∧ (i = 62 → u1 < 16) ∧ (i = 63 → u1 < 256) ∧ (i = 64 → u1 < 4096) ∧ hx4 u1.toNat ++ a.drop i.toNat = hx4 u.toNat), (fun s x => let u1 := x.1; let i := x.2.1; let a := x.2.2; u1.toNat), [46]⟩ else none
theorem X_fbits_ok : XOk Tryz.prog noT X_fbits := tblX_cons ent_ipow_ok (tblX_cons ent_tz_ok (tblX_nil))
theorem vc_fbits (nb : Bool) (b : Bs) (u : Int) (k : PV → Prop) : evR Tryz.prog X_fbits noT (H_fbits nb b u) 1000 Tryz.f84 [.row nb (.bytes b) 1, .int .u64 u, .int .i64 16, .bool false, .bool true] k = (
  (decide ((36 : Int) < (16 : Int)) = true → False) ∧
 (decide ((36 : Int) < (16 : Int)) = false →
 (false = true →
 True ∧
 (true = true →
 True ∧
 VS.mk []
 [(0, PV.row nb (BRow.bytes b) (1 : Nat)),
 (1, PV.int .u64 (Go.IntKind.u64.wrap ((0 : Int) - u))), (2, PV.int .i64 (16 : Int)),
 (3, PV.bool false), (4, PV.bool true),
 (10, PV.row true (BRow.bytes []) ((10 : Nat) + (32 : Nat))),
 (11, PV.str (ByteArray.mk #[]).data.toList), (12, PV.ptr ((12 : Nat) + (32 : Nat)) (0 : Nat)),
 (13, PV.int .i64 (65 : Int)), (14, PV.int .u64 (Go.IntKind.u64.wrap (4 : Int))),
 (15, PV.int .u64 (Go.IntKind.u64.wrap (16 : Int))),
 (16, PV.int .u64 (Go.IntKind.u64.wrap (Go.IntKind.u64.wrap (16 : Int) - (1 : Int)))),
 (17, PV.undef), (18, PV.undef), (28, PV.bool (decide ((36 : Int) < (16 : Int)))),
 (30, PV.bool false), (34, PV.bool true), ((46 : Nat), PV.undef), (68, PV.undef),
 (89, PV.undef), (94, PV.undef)]
 [((12 : Nat) + (32 : Nat), PV.arr (65 : Nat) (BRow.bytes (List.replicate (65 : Nat) (0 : UInt8))))] =
 VS.mk []
 [(0, PV.row nb (BRow.bytes b) (1 : Nat)),
 ((1 : Nat), PV.int .u64 (Go.IntKind.u64.wrap ((0 : Int) - u))), (2, PV.int .i64 (16 : Int)),
 (3, PV.bool false), (4, PV.bool true),
 (10, PV.row true (BRow.bytes []) ((10 : Nat) + (32 : Nat))),
 (11, PV.str (ByteArray.mk #[]).data.toList), (12, PV.ptr ((12 : Nat) + (32 : Nat)) (0 : Nat)),
 ((13 : Nat), PV.int .i64 (65 : Int)), (14, PV.int .u64 (Go.IntKind.u64.wrap (4 : Int))),
 (15, PV.int .u64 (Go.IntKind.u64.wrap (16 : Int))),
 (16, PV.int .u64 (Go.IntKind.u64.wrap (Go.IntKind.u64.wrap (16 : Int) - (1 : Int)))),
 (17, PV.undef), (18, PV.undef), (28, PV.bool (decide ((36 : Int) < (16 : Int)))),
 (30, PV.bool false), (34, PV.bool true), ((46 : Nat), PV.undef), (68, PV.undef),
 (89, PV.undef), (94, PV.undef)]
 [((44 : Nat), PV.arr (65 : Nat) (BRow.bytes (List.replicate (65 : Nat) (0 : UInt8))))] ∧
 ((61 : Int) < (65 : Int) ∧
 (65 : Int) ≤ (65 : Int) ∧
 (0 : Int) ≤ Go.IntKind.u64.wrap ((0 : Int) - u) ∧
 Go.IntKind.u64.wrap ((0 : Int) - u) < (65536 : Int) ∧
 (List.replicate (65 : Nat) (0 : UInt8)).length = (65 : Nat) ∧
 ((65 : Int) = (62 : Int) → Go.IntKind.u64.wrap ((0 : Int) - u) < (16 : Int)) ∧
 ((65 : Int) = (63 : Int) → Go.IntKind.u64.wrap ((0 : Int) - u) < (256 : Int)) ∧
 ((65 : Int) = (64 : Int) → Go.IntKind.u64.wrap ((0 : Int) - u) < (4096 : Int)) ∧
 hx4 (Go.IntKind.u64.wrap ((0 : Int) - u)).toNat ++
 List.drop (Int.toNat (65 : Int)) (List.replicate (65 : Nat) (0 : UInt8)) =
 hx4 u.toNat) ∧
 ∀ (x : Int × Int × Bs),
 (61 : Int) < x.2.1 ∧
 x.2.1 ≤ (65 : Int) ∧
 (0 : Int) ≤ x.1 ∧
 x.1 < (65536 : Int) ∧
 List.length x.2.2 = (65 : Nat) ∧
 (x.2.1 = (62 : Int) → x.1 < (16 : Int)) ∧
 (x.2.1 = (63 : Int) → x.1 < (256 : Int)) ∧
 (x.2.1 = (64 : Int) → x.1 < (4096 : Int)) ∧
 hx4 x.1.toNat ++ List.drop x.2.1.toNat x.2.2 =
 hx4 u.toNat →
 (decide (Go.IntKind.u64.wrap (16 : Int) ≤ x.1) = true →
 inI64 (x.2.1 - (1 : Int)) ∧
 within (bitsZ Go.BinOp.and .u64 x.1 (Go.IntKind.u64.wrap (Go.IntKind.u64.wrap (16 : Int) - (1 : Int))))
 (lenZ
 (ByteArray.mk
 #[48, 49, 50, 51, 52, 53, 54, 55, 56, 57, 97, 98, 99, 100, 101, 102, 103, 104, 105, 106, 107, 108, 109, 110, 111, 112, 113, 114, 115, 116, 117, 118, 119, 120, 121, 122]).data.toList) ∧
 within (x.2.1 - (1 : Int)) ↑(65 : Nat) ∧
 (within (x.2.1 - (1 : Int)) ↑(65 : Nat) ∧
 (0 : Int) ≤
 byteZ
 (ByteArray.mk
 #[48, 49, 50, 51, 52, 53, 54, 55, 56, 57, 97, 98, 99, 100, 101, 102, 103, 104, 105, 106, 107, 108, 109, 110, 111, 112, 113, 114, 115, 116, 117, 118, 119, 120, 121, 122]).data.toList
 (bitsZ Go.BinOp.and .u64 x.1 (Go.IntKind.u64.wrap (Go.IntKind.u64.wrap (16 : Int) - (1 : Int)))) ∧
 byteZ
 (ByteArray.mk
 #[48, 49, 50, 51, 52, 53, 54, 55, 56, 57, 97, 98, 99, 100, 101, 102, 103, 104, 105, 106, 107, 108, 109, 110, 111, 112, 113, 114, 115, 116, 117, 118, 119, 120, 121, 122]).data.toList
 (bitsZ Go.BinOp.and .u64 x.1 (Go.IntKind.u64.wrap (Go.IntKind.u64.wrap (16 : Int) - (1 : Int)))) ≤
 (255 : Int)) ∧
 (0 : Int) ≤ Go.IntKind.u64.wrap (4 : Int) ∧
 VS.mk []
 [(0, PV.row nb (BRow.bytes b) (1 : Nat)),
 ((1 : Nat), PV.int .u64 (shrZ .u64 x.1 (Go.IntKind.u64.wrap (4 : Int)))),
 (2, PV.int .i64 (16 : Int)), (3, PV.bool false),
 (4, PV.bool true), (10, PV.row true (BRow.bytes []) ((10 : Nat) + (32 : Nat))),
 (11, PV.str (ByteArray.mk #[]).data.toList),
 (12, PV.ptr ((12 : Nat) + (32 : Nat)) (0 : Nat)),
 ((13 : Nat), PV.int .i64 (x.2.1 - (1 : Int))),
 (14, PV.int .u64 (Go.IntKind.u64.wrap (4 : Int))),
 (15, PV.int .u64 (Go.IntKind.u64.wrap (16 : Int))),
 (16, PV.int .u64 (Go.IntKind.u64.wrap (Go.IntKind.u64.wrap (16 : Int) - (1 : Int)))),
 (17, PV.undef), (18, PV.undef),
 (28, PV.bool (decide ((36 : Int) < (16 : Int)))), (30, PV.bool false),
 (34, PV.bool true), ((46 : Nat), PV.undef), (68, PV.undef),
 (89, PV.undef), (94, PV.undef)]
 [((12 : Nat) + (32 : Nat),
 PV.arr (65 : Nat)
 (BRow.bytes
 (setZ x.2.2 (x.2.1 - (1 : Int))
 (zByte
 (byteZ
 (ByteArray.mk
 #[48, 49, 50, 51, 52, 53, 54, 55, 56, 57, 97, 98, 99, 100, 101, 102, 103, 104, 105, 106, 107, 108, 109, 110, 111, 112, 113, 114, 115, 116, 117, 118, 119, 120, 121, 122]).data.toList
 (bitsZ Go.BinOp.and .u64 x.1
 (Go.IntKind.u64.wrap (Go.IntKind.u64.wrap (16 : Int) - (1 : Int)))))))))] =
 VS.mk []
 [(0, PV.row nb (BRow.bytes b) (1 : Nat)),
 ((1 : Nat), PV.int .u64 (shrZ .u64 x.1 (Go.IntKind.u64.wrap (4 : Int)))),
 (2, PV.int .i64 (16 : Int)), (3, PV.bool false),
 (4, PV.bool true), (10, PV.row true (BRow.bytes []) ((10 : Nat) + (32 : Nat))),
 (11, PV.str (ByteArray.mk #[]).data.toList),
 (12, PV.ptr ((12 : Nat) + (32 : Nat)) (0 : Nat)),
 ((13 : Nat), PV.int .i64 (x.2.1 - (1 : Int))),
 (14, PV.int .u64 (Go.IntKind.u64.wrap (4 : Int))),
 (15, PV.int .u64 (Go.IntKind.u64.wrap (16 : Int))),
 (16, PV.int .u64 (Go.IntKind.u64.wrap (Go.IntKind.u64.wrap (16 : Int) - (1 : Int)))),
 (17, PV.undef), (18, PV.undef),
 (28, PV.bool (decide ((36 : Int) < (16 : Int)))), (30, PV.bool false),
 (34, PV.bool true), ((46 : Nat), PV.undef), (68, PV.undef),
 (89, PV.undef), (94, PV.undef)]
 [((44 : Nat),
 PV.arr (65 : Nat)
 (BRow.bytes
 (setZ x.2.2 (x.2.1 - (1 : Int))
 (zByte
 (byteZ
 (ByteArray.mk
 #[48, 49, 50, 51, 52, 53, 54, 55, 56, 57, 97, 98, 99, 100, 101, 102, 103, 104, 105, 106, 107, 108, 109, 110, 111, 112, 113, 114, 115, 116, 117, 118, 119, 120, 121, 122]).data.toList
 (bitsZ Go.BinOp.and .u64 x.1
 (Go.IntKind.u64.wrap (Go.IntKind.u64.wrap (16 : Int) - (1 : Int)))))))))] ∧
 ((61 : Int) < x.2.1 - (1 : Int) ∧
 x.2.1 - (1 : Int) ≤ (65 : Int) ∧
 (0 : Int) ≤ shrZ .u64 x.1 (Go.IntKind.u64.wrap (4 : Int)) ∧
 shrZ .u64 x.1 (Go.IntKind.u64.wrap (4 : Int)) < (65536 : Int) ∧
 (setZ x.2.2 (x.2.1 - (1 : Int))
 (zByte
 (byteZ
 (ByteArray.mk
 #[48, 49, 50, 51, 52, 53, 54, 55, 56, 57, 97, 98, 99, 100, 101, 102, 103, 104, 105, 106, 107, 108, 109, 110, 111, 112, 113, 114, 115, 116, 117, 118, 119, 120, 121, 122]).data.toList
 (bitsZ Go.BinOp.and .u64 x.1
 (Go.IntKind.u64.wrap (Go.IntKind.u64.wrap (16 : Int) - (1 : Int))))))).length =
 (65 : Nat) ∧
 (x.2.1 - (1 : Int) = (62 : Int) →
 shrZ .u64 x.1 (Go.IntKind.u64.wrap (4 : Int)) < (16 : Int)) ∧
 (x.2.1 - (1 : Int) = (63 : Int) →
 shrZ .u64 x.1 (Go.IntKind.u64.wrap (4 : Int)) < (256 : Int)) ∧
 (x.2.1 - (1 : Int) = (64 : Int) →
 shrZ .u64 x.1 (Go.IntKind.u64.wrap (4 : Int)) < (4096 : Int)) ∧
 hx4
 (shrZ .u64 x.1 (Go.IntKind.u64.wrap (4 : Int))).toNat ++
 List.drop (x.2.1 - (1 : Int)).toNat
 (setZ x.2.2 (x.2.1 - (1 : Int))
 (zByte
 (byteZ
 (ByteArray.mk
 #[48, 49, 50, 51, 52, 53, 54, 55, 56, 57, 97, 98, 99, 100, 101, 102, 103, 104, 105, 106, 107, 108, 109, 110, 111, 112, 113, 114, 115, 116, 117, 118, 119, 120, 121, 122]).data.toList
 (bitsZ Go.BinOp.and .u64 x.1
 (Go.IntKind.u64.wrap (Go.IntKind.u64.wrap (16 : Int) - (1 : Int))))))) =
 hx4 u.toNat) ∧
 (shrZ .u64 x.1 (Go.IntKind.u64.wrap (4 : Int))).toNat < x.1.toNat) ∧
 (decide (Go.IntKind.u64.wrap (16 : Int) ≤ x.1) = false →
 inI64 (x.2.1 - (1 : Int)) ∧
 within x.1
 (lenZ
 (ByteArray.mk
 #[48, 49, 50, 51, 52, 53, 54, 55, 56, 57, 97, 98, 99, 100, 101, 102, 103, 104, 105, 106, 107, 108, 109, 110, 111, 112, 113, 114, 115, 116, 117, 118, 119, 120, 121, 122]).data.toList) ∧
 within (x.2.1 - (1 : Int)) ↑(65 : Nat) ∧
 (within (x.2.1 - (1 : Int)) ↑(65 : Nat) ∧
 (0 : Int) ≤
 byteZ
 (ByteArray.mk
 #[48, 49, 50, 51, 52, 53, 54, 55, 56, 57, 97, 98, 99, 100, 101, 102, 103, 104, 105, 106, 107, 108, 109, 110, 111, 112, 113, 114, 115, 116, 117, 118, 119, 120, 121, 122]).data.toList
 x.1 ∧
 byteZ
 (ByteArray.mk
 #[48, 49, 50, 51, 52, 53, 54, 55, 56, 57, 97, 98, 99, 100, 101, 102, 103, 104, 105, 106, 107, 108, 109, 110, 111, 112, 113, 114, 115, 116, 117, 118, 119, 120, 121, 122]).data.toList
 x.1 ≤
 (255 : Int)) ∧
 (false = true →
 inI64 (x.2.1 - (1 : Int) - (1 : Int)) ∧
 within (x.2.1 - (1 : Int) - (1 : Int)) ↑(65 : Nat) ∧
 (within (x.2.1 - (1 : Int) - (1 : Int)) ↑(65 : Nat) ∧ (0 : Int) ≤ (45 : Int) ∧ (45 : Int) ≤ (255 : Int)) ∧
 (true = true →
 upto (x.2.1 - (1 : Int) - (1 : Int)) ↑(65 : Nat) ↑(65 : Nat) ∧
 (x.2.1 - (1 : Int) - (1 : Int) + (↑(65 : Nat) - (x.2.1 - (1 : Int) - (1 : Int))) ≤
 Int.ofNat
 (setZ
 (setZ x.2.2 (x.2.1 - (1 : Int))
 (zByte
 (byteZ
 (ByteArray.mk
 #[48, 49, 50, 51, 52, 53, 54, 55, 56, 57, 97, 98, 99, 100, 101, 102, 103, 104, 105, 106, 107, 108, 109, 110, 111, 112, 113, 114, 115, 116, 117, 118, 119, 120, 121, 122]).data.toList
 x.1)))
 (x.2.1 - (1 : Int) - (1 : Int)) (zByte (45 : Int))).length ∧
 Int.ofNat
 (List.length
 (b ++
 cutZ
 (setZ
 (setZ x.2.2 (x.2.1 - (1 : Int))
 (zByte
 (byteZ
 (ByteArray.mk
 #[48, 49, 50, 51, 52, 53, 54, 55, 56, 57, 97, 98, 99, 100, 101, 102, 103, 104, 105, 106, 107, 108, 109, 110, 111, 112, 113, 114, 115, 116, 117, 118, 119, 120, 121, 122]).data.toList
 x.1)))
 (x.2.1 - (1 : Int) - (1 : Int)) (zByte (45 : Int)))
 (x.2.1 - (1 : Int) - (1 : Int))
 (x.2.1 - (1 : Int) - (1 : Int) + (↑(65 : Nat) - (x.2.1 - (1 : Int) - (1 : Int)))))) ≤
 maxRow) ∧
 k
 (PV.tup
 [PV.row
 (bif
 List.rec true
 (fun (head : UInt8) (tail : List UInt8) (tail_ih : (fun (x : List UInt8) ↦ Bool) tail) ↦
 false)
 (cutZ
 (setZ
 (setZ x.2.2 (x.2.1 - (1 : Int))
 (zByte
 (byteZ
 (ByteArray.mk
 #[48, 49, 50, 51, 52, 53, 54, 55, 56, 57, 97, 98, 99, 100, 101, 102, 103, 104, 105, 106, 107, 108, 109, 110, 111, 112, 113, 114, 115, 116, 117, 118, 119, 120, 121, 122]).data.toList
 x.1)))
 (x.2.1 - (1 : Int) - (1 : Int)) (zByte (45 : Int)))
 (x.2.1 - (1 : Int) - (1 : Int))
 (x.2.1 - (1 : Int) - (1 : Int) +
 (↑(65 : Nat) - (x.2.1 - (1 : Int) - (1 : Int))))) then
 nb
 else false)
 (BRow.bytes
 (b ++
 cutZ
 (setZ
 (setZ x.2.2 (x.2.1 - (1 : Int))
 (zByte
 (byteZ
 (ByteArray.mk
 #[48, 49, 50, 51, 52, 53, 54, 55, 56, 57, 97, 98, 99, 100, 101, 102, 103, 104, 105, 106, 107, 108, 109, 110, 111, 112, 113, 114, 115, 116, 117, 118, 119, 120, 121, 122]).data.toList
 x.1)))
 (x.2.1 - (1 : Int) - (1 : Int)) (zByte (45 : Int)))
 (x.2.1 - (1 : Int) - (1 : Int))
 (x.2.1 - (1 : Int) - (1 : Int) + (↑(65 : Nat) - (x.2.1 - (1 : Int) - (1 : Int))))))
 (Nat.succ (nat_lit 0)),
 PV.str (ByteArray.mk #[]).data.toList])) ∧
 (true = false → upto (x.2.1 - (1 : Int) - (1 : Int)) ↑(65 : Nat) ↑(65 : Nat) ∧ False)) ∧
 (false = false →
 (true = true →
 upto (x.2.1 - (1 : Int)) ↑(65 : Nat) ↑(65 : Nat) ∧
 (x.2.1 - (1 : Int) + (↑(65 : Nat) - (x.2.1 - (1 : Int))) ≤
 Int.ofNat
 (setZ x.2.2 (x.2.1 - (1 : Int))
 (zByte
 (byteZ
 (ByteArray.mk
 #[48, 49, 50, 51, 52, 53, 54, 55, 56, 57, 97, 98, 99, 100, 101, 102, 103, 104, 105, 106, 107, 108, 109, 110, 111, 112, 113, 114, 115, 116, 117, 118, 119, 120, 121, 122]).data.toList
 x.1))).length ∧
 Int.ofNat
 (List.length
 (b ++
 cutZ
 (setZ x.2.2 (x.2.1 - (1 : Int))
 (zByte
 (byteZ
 (ByteArray.mk
 #[48, 49, 50, 51, 52, 53, 54, 55, 56, 57, 97, 98, 99, 100, 101, 102, 103, 104, 105, 106, 107, 108, 109, 110, 111, 112, 113, 114, 115, 116, 117, 118, 119, 120, 121, 122]).data.toList
 x.1)))
 (x.2.1 - (1 : Int)) (x.2.1 - (1 : Int) + (↑(65 : Nat) - (x.2.1 - (1 : Int)))))) ≤
 maxRow) ∧
 k
 (PV.tup
 [PV.row
 (bif
 List.rec true
 (fun (head : UInt8) (tail : List UInt8) (tail_ih : (fun (x : List UInt8) ↦ Bool) tail) ↦ false)
 (cutZ
 (setZ x.2.2 (x.2.1 - (1 : Int))
 (zByte
 (byteZ
 (ByteArray.mk
 #[48, 49, 50, 51, 52, 53, 54, 55, 56, 57, 97, 98, 99, 100, 101, 102, 103, 104, 105, 106, 107, 108, 109, 110, 111, 112, 113, 114, 115, 116, 117, 118, 119, 120, 121, 122]).data.toList
 x.1)))
 (x.2.1 - (1 : Int)) (x.2.1 - (1 : Int) + (↑(65 : Nat) - (x.2.1 - (1 : Int))))) then
 nb
 else false)
 (BRow.bytes
 (b ++
 cutZ
 (setZ x.2.2 (x.2.1 - (1 : Int))
 (zByte
 (byteZ
 (ByteArray.mk
 #[48, 49, 50, 51, 52, 53, 54, 55, 56, 57, 97, 98, 99, 100, 101, 102, 103, 104, 105, 106, 107, 108, 109, 110, 111, 112, 113, 114, 115, 116, 117, 118, 119, 120, 121, 122]).data.toList
 x.1)))
 (x.2.1 - (1 : Int)) (x.2.1 - (1 : Int) + (↑(65 : Nat) - (x.2.1 - (1 : Int))))))
 (Nat.succ (nat_lit 0)),
 PV.str (ByteArray.mk #[]).data.toList])) ∧
 (true = false → upto (x.2.1 - (1 : Int)) ↑(65 : Nat) ↑(65 : Nat) ∧ False)))) ∧
 (true = false → False)) ∧
 (false = false →
 True ∧
 (true = true →
 True ∧
 VS.mk []
 [(0, PV.row nb (BRow.bytes b) (1 : Nat)), (1, PV.int .u64 u),
 (2, PV.int .i64 (16 : Int)), (3, PV.bool false), (4, PV.bool true),
 (10, PV.row true (BRow.bytes []) ((10 : Nat) + (32 : Nat))),
 (11, PV.str (ByteArray.mk #[]).data.toList), (12, PV.ptr ((12 : Nat) + (32 : Nat)) (0 : Nat)),
 (13, PV.int .i64 (65 : Int)), (14, PV.int .u64 (Go.IntKind.u64.wrap (4 : Int))),
 (15, PV.int .u64 (Go.IntKind.u64.wrap (16 : Int))),
 (16, PV.int .u64 (Go.IntKind.u64.wrap (Go.IntKind.u64.wrap (16 : Int) - (1 : Int)))),
 (17, PV.undef), (18, PV.undef), (28, PV.bool (decide ((36 : Int) < (16 : Int)))),
 (30, PV.bool false), (34, PV.bool true), ((46 : Nat), PV.undef), (68, PV.undef),
 (89, PV.undef), (94, PV.undef)]
 [((12 : Nat) + (32 : Nat), PV.arr (65 : Nat) (BRow.bytes (List.replicate (65 : Nat) (0 : UInt8))))] =
 VS.mk []
 [(0, PV.row nb (BRow.bytes b) (1 : Nat)), ((1 : Nat), PV.int .u64 u),
 (2, PV.int .i64 (16 : Int)), (3, PV.bool false), (4, PV.bool true),
 (10, PV.row true (BRow.bytes []) ((10 : Nat) + (32 : Nat))),
 (11, PV.str (ByteArray.mk #[]).data.toList), (12, PV.ptr ((12 : Nat) + (32 : Nat)) (0 : Nat)),
 ((13 : Nat), PV.int .i64 (65 : Int)), (14, PV.int .u64 (Go.IntKind.u64.wrap (4 : Int))),
 (15, PV.int .u64 (Go.IntKind.u64.wrap (16 : Int))),
 (16, PV.int .u64 (Go.IntKind.u64.wrap (Go.IntKind.u64.wrap (16 : Int) - (1 : Int)))),
 (17, PV.undef), (18, PV.undef), (28, PV.bool (decide ((36 : Int) < (16 : Int)))),
 (30, PV.bool false), (34, PV.bool true), ((46 : Nat), PV.undef), (68, PV.undef),
 (89, PV.undef), (94, PV.undef)]
 [((44 : Nat), PV.arr (65 : Nat) (BRow.bytes (List.replicate (65 : Nat) (0 : UInt8))))] ∧
 ((61 : Int) < (65 : Int) ∧
 (65 : Int) ≤ (65 : Int) ∧
 (0 : Int) ≤ u ∧
 u < (65536 : Int) ∧
 (List.replicate (65 : Nat) (0 : UInt8)).length = (65 : Nat) ∧
 ((65 : Int) = (62 : Int) → u < (16 : Int)) ∧
 ((65 : Int) = (63 : Int) → u < (256 : Int)) ∧
 ((65 : Int) = (64 : Int) → u < (4096 : Int)) ∧
 hx4 u.toNat ++
 List.drop (Int.toNat (65 : Int)) (List.replicate (65 : Nat) (0 : UInt8)) =
 hx4 u.toNat) ∧
 ∀ (x : Int × Int × Bs),
 (61 : Int) < x.2.1 ∧
 x.2.1 ≤ (65 : Int) ∧
 (0 : Int) ≤ x.1 ∧
 x.1 < (65536 : Int) ∧
 List.length x.2.2 = (65 : Nat) ∧
 (x.2.1 = (62 : Int) → x.1 < (16 : Int)) ∧
 (x.2.1 = (63 : Int) → x.1 < (256 : Int)) ∧
 (x.2.1 = (64 : Int) → x.1 < (4096 : Int)) ∧
 hx4 x.1.toNat ++ List.drop x.2.1.toNat x.2.2 =
 hx4 u.toNat →
 (decide (Go.IntKind.u64.wrap (16 : Int) ≤ x.1) = true →
 inI64 (x.2.1 - (1 : Int)) ∧
 within (bitsZ Go.BinOp.and .u64 x.1 (Go.IntKind.u64.wrap (Go.IntKind.u64.wrap (16 : Int) - (1 : Int))))
 (lenZ
 (ByteArray.mk
 #[48, 49, 50, 51, 52, 53, 54, 55, 56, 57, 97, 98, 99, 100, 101, 102, 103, 104, 105, 106, 107, 108, 109, 110, 111, 112, 113, 114, 115, 116, 117, 118, 119, 120, 121, 122]).data.toList) ∧
 within (x.2.1 - (1 : Int)) ↑(65 : Nat) ∧
 (within (x.2.1 - (1 : Int)) ↑(65 : Nat) ∧
 (0 : Int) ≤
 byteZ
 (ByteArray.mk
 #[48, 49, 50, 51, 52, 53, 54, 55, 56, 57, 97, 98, 99, 100, 101, 102, 103, 104, 105, 106, 107, 108, 109, 110, 111, 112, 113, 114, 115, 116, 117, 118, 119, 120, 121, 122]).data.toList
 (bitsZ Go.BinOp.and .u64 x.1 (Go.IntKind.u64.wrap (Go.IntKind.u64.wrap (16 : Int) - (1 : Int)))) ∧
 byteZ
 (ByteArray.mk
 #[48, 49, 50, 51, 52, 53, 54, 55, 56, 57, 97, 98, 99, 100, 101, 102, 103, 104, 105, 106, 107, 108, 109, 110, 111, 112, 113, 114, 115, 116, 117, 118, 119, 120, 121, 122]).data.toList
 (bitsZ Go.BinOp.and .u64 x.1 (Go.IntKind.u64.wrap (Go.IntKind.u64.wrap (16 : Int) - (1 : Int)))) ≤
 (255 : Int)) ∧
 (0 : Int) ≤ Go.IntKind.u64.wrap (4 : Int) ∧
 VS.mk []
 [(0, PV.row nb (BRow.bytes b) (1 : Nat)),
 ((1 : Nat), PV.int .u64 (shrZ .u64 x.1 (Go.IntKind.u64.wrap (4 : Int)))),
 (2, PV.int .i64 (16 : Int)), (3, PV.bool false),
 (4, PV.bool true), (10, PV.row true (BRow.bytes []) ((10 : Nat) + (32 : Nat))),
 (11, PV.str (ByteArray.mk #[]).data.toList),
 (12, PV.ptr ((12 : Nat) + (32 : Nat)) (0 : Nat)),
 ((13 : Nat), PV.int .i64 (x.2.1 - (1 : Int))),
 (14, PV.int .u64 (Go.IntKind.u64.wrap (4 : Int))),
 (15, PV.int .u64 (Go.IntKind.u64.wrap (16 : Int))),
 (16, PV.int .u64 (Go.IntKind.u64.wrap (Go.IntKind.u64.wrap (16 : Int) - (1 : Int)))),
 (17, PV.undef), (18, PV.undef),
 (28, PV.bool (decide ((36 : Int) < (16 : Int)))), (30, PV.bool false),
 (34, PV.bool true), ((46 : Nat), PV.undef), (68, PV.undef),
 (89, PV.undef), (94, PV.undef)]
 [((12 : Nat) + (32 : Nat),
 PV.arr (65 : Nat)
 (BRow.bytes
 (setZ x.2.2 (x.2.1 - (1 : Int))
 (zByte
 (byteZ
 (ByteArray.mk
 #[48, 49, 50, 51, 52, 53, 54, 55, 56, 57, 97, 98, 99, 100, 101, 102, 103, 104, 105, 106, 107, 108, 109, 110, 111, 112, 113, 114, 115, 116, 117, 118, 119, 120, 121, 122]).data.toList
 (bitsZ Go.BinOp.and .u64 x.1
 (Go.IntKind.u64.wrap (Go.IntKind.u64.wrap (16 : Int) - (1 : Int)))))))))] =
 VS.mk []
 [(0, PV.row nb (BRow.bytes b) (1 : Nat)),
 ((1 : Nat), PV.int .u64 (shrZ .u64 x.1 (Go.IntKind.u64.wrap (4 : Int)))),
 (2, PV.int .i64 (16 : Int)), (3, PV.bool false),
 (4, PV.bool true), (10, PV.row true (BRow.bytes []) ((10 : Nat) + (32 : Nat))),
 (11, PV.str (ByteArray.mk #[]).data.toList),
 (12, PV.ptr ((12 : Nat) + (32 : Nat)) (0 : Nat)),
 ((13 : Nat), PV.int .i64 (x.2.1 - (1 : Int))),
 (14, PV.int .u64 (Go.IntKind.u64.wrap (4 : Int))),
 (15, PV.int .u64 (Go.IntKind.u64.wrap (16 : Int))),
 (16, PV.int .u64 (Go.IntKind.u64.wrap (Go.IntKind.u64.wrap (16 : Int) - (1 : Int)))),
 (17, PV.undef), (18, PV.undef),
 (28, PV.bool (decide ((36 : Int) < (16 : Int)))), (30, PV.bool false),
 (34, PV.bool true), ((46 : Nat), PV.undef), (68, PV.undef),
 (89, PV.undef), (94, PV.undef)]
 [((44 : Nat),
 PV.arr (65 : Nat)
 (BRow.bytes
 (setZ x.2.2 (x.2.1 - (1 : Int))
 (zByte
 (byteZ
 (ByteArray.mk
 #[48, 49, 50, 51, 52, 53, 54, 55, 56, 57, 97, 98, 99, 100, 101, 102, 103, 104, 105, 106, 107, 108, 109, 110, 111, 112, 113, 114, 115, 116, 117, 118, 119, 120, 121, 122]).data.toList
 (bitsZ Go.BinOp.and .u64 x.1
 (Go.IntKind.u64.wrap (Go.IntKind.u64.wrap (16 : Int) - (1 : Int)))))))))] ∧
 ((61 : Int) < x.2.1 - (1 : Int) ∧
 x.2.1 - (1 : Int) ≤ (65 : Int) ∧
 (0 : Int) ≤ shrZ .u64 x.1 (Go.IntKind.u64.wrap (4 : Int)) ∧
 shrZ .u64 x.1 (Go.IntKind.u64.wrap (4 : Int)) < (65536 : Int) ∧
 (setZ x.2.2 (x.2.1 - (1 : Int))
 (zByte
 (byteZ
 (ByteArray.mk
 #[48, 49, 50, 51, 52, 53, 54, 55, 56, 57, 97, 98, 99, 100, 101, 102, 103, 104, 105, 106, 107, 108, 109, 110, 111, 112, 113, 114, 115, 116, 117, 118, 119, 120, 121, 122]).data.toList
 (bitsZ Go.BinOp.and .u64 x.1
 (Go.IntKind.u64.wrap (Go.IntKind.u64.wrap (16 : Int) - (1 : Int))))))).length =
 (65 : Nat) ∧
 (x.2.1 - (1 : Int) = (62 : Int) →
 shrZ .u64 x.1 (Go.IntKind.u64.wrap (4 : Int)) < (16 : Int)) ∧
 (x.2.1 - (1 : Int) = (63 : Int) →
 shrZ .u64 x.1 (Go.IntKind.u64.wrap (4 : Int)) < (256 : Int)) ∧
 (x.2.1 - (1 : Int) = (64 : Int) →
 shrZ .u64 x.1 (Go.IntKind.u64.wrap (4 : Int)) < (4096 : Int)) ∧
 hx4
 (shrZ .u64 x.1 (Go.IntKind.u64.wrap (4 : Int))).toNat ++
 List.drop (x.2.1 - (1 : Int)).toNat
 (setZ x.2.2 (x.2.1 - (1 : Int))
 (zByte
 (byteZ
 (ByteArray.mk
 #[48, 49, 50, 51, 52, 53, 54, 55, 56, 57, 97, 98, 99, 100, 101, 102, 103, 104, 105, 106, 107, 108, 109, 110, 111, 112, 113, 114, 115, 116, 117, 118, 119, 120, 121, 122]).data.toList
 (bitsZ Go.BinOp.and .u64 x.1
 (Go.IntKind.u64.wrap (Go.IntKind.u64.wrap (16 : Int) - (1 : Int))))))) =
 hx4 u.toNat) ∧
 (shrZ .u64 x.1 (Go.IntKind.u64.wrap (4 : Int))).toNat < x.1.toNat) ∧
 (decide (Go.IntKind.u64.wrap (16 : Int) ≤ x.1) = false →
 inI64 (x.2.1 - (1 : Int)) ∧
 within x.1
 (lenZ
 (ByteArray.mk
 #[48, 49, 50, 51, 52, 53, 54, 55, 56, 57, 97, 98, 99, 100, 101, 102, 103, 104, 105, 106, 107, 108, 109, 110, 111, 112, 113, 114, 115, 116, 117, 118, 119, 120, 121, 122]).data.toList) ∧
 within (x.2.1 - (1 : Int)) ↑(65 : Nat) ∧
 (within (x.2.1 - (1 : Int)) ↑(65 : Nat) ∧
 (0 : Int) ≤
 byteZ
 (ByteArray.mk
 #[48, 49, 50, 51, 52, 53, 54, 55, 56, 57, 97, 98, 99, 100, 101, 102, 103, 104, 105, 106, 107, 108, 109, 110, 111, 112, 113, 114, 115, 116, 117, 118, 119, 120, 121, 122]).data.toList
 x.1 ∧
 byteZ
 (ByteArray.mk
 #[48, 49, 50, 51, 52, 53, 54, 55, 56, 57, 97, 98, 99, 100, 101, 102, 103, 104, 105, 106, 107, 108, 109, 110, 111, 112, 113, 114, 115, 116, 117, 118, 119, 120, 121, 122]).data.toList
 x.1 ≤
 (255 : Int)) ∧
 (false = true →
 inI64 (x.2.1 - (1 : Int) - (1 : Int)) ∧
 within (x.2.1 - (1 : Int) - (1 : Int)) ↑(65 : Nat) ∧
 (within (x.2.1 - (1 : Int) - (1 : Int)) ↑(65 : Nat) ∧ (0 : Int) ≤ (45 : Int) ∧ (45 : Int) ≤ (255 : Int)) ∧
 (true = true →
 upto (x.2.1 - (1 : Int) - (1 : Int)) ↑(65 : Nat) ↑(65 : Nat) ∧
 (x.2.1 - (1 : Int) - (1 : Int) + (↑(65 : Nat) - (x.2.1 - (1 : Int) - (1 : Int))) ≤
 Int.ofNat
 (setZ
 (setZ x.2.2 (x.2.1 - (1 : Int))
 (zByte
 (byteZ
 (ByteArray.mk
 #[48, 49, 50, 51, 52, 53, 54, 55, 56, 57, 97, 98, 99, 100, 101, 102, 103, 104, 105, 106, 107, 108, 109, 110, 111, 112, 113, 114, 115, 116, 117, 118, 119, 120, 121, 122]).data.toList
 x.1)))
 (x.2.1 - (1 : Int) - (1 : Int)) (zByte (45 : Int))).length ∧
 Int.ofNat
 (List.length
 (b ++
 cutZ
 (setZ
 (setZ x.2.2 (x.2.1 - (1 : Int))
 (zByte
 (byteZ
 (ByteArray.mk
 #[48, 49, 50, 51, 52, 53, 54, 55, 56, 57, 97, 98, 99, 100, 101, 102, 103, 104, 105, 106, 107, 108, 109, 110, 111, 112, 113, 114, 115, 116, 117, 118, 119, 120, 121, 122]).data.toList
 x.1)))
 (x.2.1 - (1 : Int) - (1 : Int)) (zByte (45 : Int)))
 (x.2.1 - (1 : Int) - (1 : Int))
 (x.2.1 - (1 : Int) - (1 : Int) + (↑(65 : Nat) - (x.2.1 - (1 : Int) - (1 : Int)))))) ≤
 maxRow) ∧
 k
 (PV.tup
 [PV.row
 (bif
 List.rec true
 (fun (head : UInt8) (tail : List UInt8) (tail_ih : (fun (x : List UInt8) ↦ Bool) tail) ↦
 false)
 (cutZ
 (setZ
 (setZ x.2.2 (x.2.1 - (1 : Int))
 (zByte
 (byteZ
 (ByteArray.mk
 #[48, 49, 50, 51, 52, 53, 54, 55, 56, 57, 97, 98, 99, 100, 101, 102, 103, 104, 105, 106, 107, 108, 109, 110, 111, 112, 113, 114, 115, 116, 117, 118, 119, 120, 121, 122]).data.toList
 x.1)))
 (x.2.1 - (1 : Int) - (1 : Int)) (zByte (45 : Int)))
 (x.2.1 - (1 : Int) - (1 : Int))
 (x.2.1 - (1 : Int) - (1 : Int) +
 (↑(65 : Nat) - (x.2.1 - (1 : Int) - (1 : Int))))) then
 nb
 else false)
 (BRow.bytes
 (b ++
 cutZ
 (setZ
 (setZ x.2.2 (x.2.1 - (1 : Int))
 (zByte
 (byteZ
 (ByteArray.mk
 #[48, 49, 50, 51, 52, 53, 54, 55, 56, 57, 97, 98, 99, 100, 101, 102, 103, 104, 105, 106, 107, 108, 109, 110, 111, 112, 113, 114, 115, 116, 117, 118, 119, 120, 121, 122]).data.toList
 x.1)))
 (x.2.1 - (1 : Int) - (1 : Int)) (zByte (45 : Int)))
 (x.2.1 - (1 : Int) - (1 : Int))
 (x.2.1 - (1 : Int) - (1 : Int) + (↑(65 : Nat) - (x.2.1 - (1 : Int) - (1 : Int))))))
 (Nat.succ (nat_lit 0)),
 PV.str (ByteArray.mk #[]).data.toList])) ∧
 (true = false → upto (x.2.1 - (1 : Int) - (1 : Int)) ↑(65 : Nat) ↑(65 : Nat) ∧ False)) ∧
 (false = false →
 (true = true →
 upto (x.2.1 - (1 : Int)) ↑(65 : Nat) ↑(65 : Nat) ∧
 (x.2.1 - (1 : Int) + (↑(65 : Nat) - (x.2.1 - (1 : Int))) ≤
 Int.ofNat
 (setZ x.2.2 (x.2.1 - (1 : Int))
 (zByte
 (byteZ
 (ByteArray.mk
 #[48, 49, 50, 51, 52, 53, 54, 55, 56, 57, 97, 98, 99, 100, 101, 102, 103, 104, 105, 106, 107, 108, 109, 110, 111, 112, 113, 114, 115, 116, 117, 118, 119, 120, 121, 122]).data.toList
 x.1))).length ∧
 Int.ofNat
 (List.length
 (b ++
 cutZ
 (setZ x.2.2 (x.2.1 - (1 : Int))
 (zByte
 (byteZ
 (ByteArray.mk
 #[48, 49, 50, 51, 52, 53, 54, 55, 56, 57, 97, 98, 99, 100, 101, 102, 103, 104, 105, 106, 107, 108, 109, 110, 111, 112, 113, 114, 115, 116, 117, 118, 119, 120, 121, 122]).data.toList
 x.1)))
 (x.2.1 - (1 : Int)) (x.2.1 - (1 : Int) + (↑(65 : Nat) - (x.2.1 - (1 : Int)))))) ≤
 maxRow) ∧
 k
 (PV.tup
 [PV.row
 (bif
 List.rec true
 (fun (head : UInt8) (tail : List UInt8) (tail_ih : (fun (x : List UInt8) ↦ Bool) tail) ↦ false)
 (cutZ
 (setZ x.2.2 (x.2.1 - (1 : Int))
 (zByte
 (byteZ
 (ByteArray.mk
 #[48, 49, 50, 51, 52, 53, 54, 55, 56, 57, 97, 98, 99, 100, 101, 102, 103, 104, 105, 106, 107, 108, 109, 110, 111, 112, 113, 114, 115, 116, 117, 118, 119, 120, 121, 122]).data.toList
 x.1)))
 (x.2.1 - (1 : Int)) (x.2.1 - (1 : Int) + (↑(65 : Nat) - (x.2.1 - (1 : Int))))) then
 nb
 else false)
 (BRow.bytes
 (b ++
 cutZ
 (setZ x.2.2 (x.2.1 - (1 : Int))
 (zByte
 (byteZ
 (ByteArray.mk
 #[48, 49, 50, 51, 52, 53, 54, 55, 56, 57, 97, 98, 99, 100, 101, 102, 103, 104, 105, 106, 107, 108, 109, 110, 111, 112, 113, 114, 115, 116, 117, 118, 119, 120, 121, 122]).data.toList
 x.1)))
 (x.2.1 - (1 : Int)) (x.2.1 - (1 : Int) + (↑(65 : Nat) - (x.2.1 - (1 : Int))))))
 (Nat.succ (nat_lit 0)),
 PV.str (ByteArray.mk #[]).data.toList])) ∧
 (true = false → upto (x.2.1 - (1 : Int)) ↑(65 : Nat) ↑(65 : Nat) ∧ False)))) ∧
 (true = false → False)))) := by kernel_rfl
attribute [local irreducible] Go.Vc.evF Go.Vc.evR
theorem ok_fbits (nb : Bool) (b : Bs) (u : Int) : FuncOk Tryz.prog noT 84 [.row nb (.bytes b) 1, .int .u64 u, .int .i64 16, .bool false, .bool true] ⟨0 ≤ u ∧ u < 65536 ∧ b.length ≤ 1000000, .tup [.row false (.bytes (b ++ hx4 u.toNat)) 1, .str []]⟩ := evH_ok (by kernel_rfl) X_fbits_ok (H := H_fbits nb b u) (fuel := 1000) Tryz.func84 (by kernel_rfl) fun hpre => (vc_fbits nb b u _).mpr (by
  obtain ⟨h0, h1, hb⟩ := hpre
  have w16 : IntKind.u64.wrap 16 = 16 := by decide
  have w15 : IntKind.u64.wrap (16 - 1) = 15 := by decide
  have w4 : IntKind.u64.wrap 4 = 4 := by decide
  have hmr : maxRow = 16777216 := rfl
  have hlu := hx4_len u.toNat
  simp only [w16, w15, w4]
  refine ⟨fun h => absurd h (by decide), fun _ => ⟨fun h => Bool.noConfusion h, fun _ => ⟨trivial, fun _ => ⟨trivial, by first | rfl | trivial, ⟨by omega, by omega, by omega, by omega, by first | rfl | decide, fun h => by omega, fun h => by omega, fun h => by omega, ?_⟩, fun x hx => ?_⟩, fun h => Bool.noConfusion h⟩⟩⟩
  · rw [show List.drop (Int.toNat 65) (List.replicate 65 (0 : UInt8)) = [] by decide]; simp
  obtain ⟨u1, i, a⟩ := x
  obtain ⟨g0, g1, g2, g3, g4, g5, g6, g7, g8⟩ := hx
  simp only at g0 g1 g2 g3 g4 g5 g6 g7 g8
  obtain ⟨m, rfl⟩ := Int.eq_ofNat_of_zero_le g2
  obtain ⟨j, rfl⟩ : ∃ j : Nat, i = (j : Int) + 1 := ⟨(i - 1).toNat, by omega⟩
  have e1 : (j : Int) + 1 - 1 = j := by omega
  have e2 : ((j : Int) + 1).toNat = j + 1 := by omega
  simp only [e1]
  rw [e2, Int.toNat_natCast] at g8
  have hj : j < a.length := by omega
  refine ⟨fun d => ?_, fun d => ?_⟩
  · have d1 : 16 ≤ m := by have := of_decide_eq_true d; omega
    obtain ⟨t1, t2, t3⟩ := dgs_at ⟨m % 16, by omega⟩
    simp only at t1 t2 t3
    simp only [and15q m (by omega), shr4q, t3, Int.toNat_natCast]
    refine ⟨by unfold inI64; omega, ⟨by omega, by rw [dgs_len]; omega⟩, ⟨by omega, by omega⟩, ⟨⟨by omega, by omega⟩, t1, t2⟩, by omega, by first | rfl | trivial, ⟨by omega, by omega, by omega, by omega, by unfold setZ; rw [List.length_set]; exact g4, fun h => by omega, fun h => by omega, fun h => by omega, ?_⟩, by omega⟩
    unfold setZ
    rw [Int.toNat_natCast, drop_set hj, ← g8, hx4_step d1 (by omega)]
    simp
  · have d1 : ¬ 16 ≤ m := by have := of_decide_eq_false d; omega
    obtain ⟨t1, t2, t3⟩ := dgs_at ⟨m, by omega⟩
    simp only at t1 t2 t3
    have hc : cutZ (setZ a (j : Int) (dx m)) (j : Int) ((j : Int) + (((65 : Nat) : Int) - (j : Int))) = hx4 u.toNat := by
      unfold cutZ setZ
      rw [show ((j : Int) + (((65 : Nat) : Int) - (j : Int))).toNat = 65 by omega, List.take_of_length_le (by rw [List.length_set]; omega), Int.toNat_natCast, drop_set hj, ← g8, hx4_small (by omega)]
      rfl
    simp only [t3, hc]
    refine ⟨by unfold inI64; omega, ⟨by omega, by rw [dgs_len]; omega⟩, ⟨by omega, by omega⟩, ⟨⟨by omega, by omega⟩, t1, t2⟩, fun h => Bool.noConfusion h, fun _ => ⟨fun _ => ⟨⟨by omega, by omega, by omega⟩, ⟨?_, ?_⟩, ?_⟩, fun h => Bool.noConfusion h⟩⟩
    · unfold setZ
      rw [List.length_set, Int.ofNat_eq_natCast]; omega
    · rw [List.length_append, Int.ofNat_eq_natCast]; omega
    · have hne : (List.rec (motive := fun _ => Bool) true (fun _ _ _ => false) (hx4 u.toNat) : Bool) = false := by
        cases hh : hx4 u.toNat with
        | nil => rw [hh] at hlu; simp at hlu
        | cons c l => rfl
      intro G w v hr
      rw [hne] at hr
      exact hr)
def ent_fbits : List PV → Option CallR := fun xs => match xs with
  | [.row nb (.bytes b) 1, .int .u64 u, .int .i64 16, .bool false, .bool true] => some ⟨0 ≤ u ∧ u < 65536 ∧ b.length ≤ 1000000, .tup [.row false (.bytes (b ++ hx4 u.toNat)) 1, .str []]⟩
  | _ => none
theorem ent_fbits_ok : ∀ xs c, ent_fbits xs = some c → FuncOk Tryz.prog noT 84 xs c := fun xs c h => by
  unfold ent_fbits at h
  split at h
  · injection h with h; subst h; exact ok_fbits _ _ _
  · cases h
end
section
def X_iapp : Tbl := tblX [(84, ent_fbits)]
def H_iapp (nb : Bool) (b : Bs) (u : Int) : Loops := fun i => none
theorem X_iapp_ok : XOk Tryz.prog noT X_iapp := tblX_cons ent_fbits_ok (tblX_nil)
theorem vc_iapp (nb : Bool) (b : Bs) (u : Int) (k : PV → Prop) : evR Tryz.prog X_iapp noT (H_iapp nb b u) 1000 Tryz.f47 [.row nb (.bytes b) 1, .int .u64 u, .int .i64 16] k = (
  (decide ((16 : Int) = (10 : Int)) = true → (decide (u < (100 : Int)) = true → False) ∧ (decide (u < (100 : Int)) = false → False)) ∧
 (decide ((16 : Int) = (10 : Int)) = false →
 ((0 : Int) ≤ u ∧ u < (65536 : Int) ∧ List.length b ≤ (1000000 : Nat)) ∧
 k (PV.row false (BRow.bytes (b ++ hx4 u.toNat)) (Nat.succ (nat_lit 0))))) := by kernel_rfl
attribute [local irreducible] Go.Vc.evF Go.Vc.evR
theorem ok_iapp (nb : Bool) (b : Bs) (u : Int) : FuncOk Tryz.prog noT 47 [.row nb (.bytes b) 1, .int .u64 u, .int .i64 16] ⟨0 ≤ u ∧ u < 65536 ∧ b.length ≤ 1000000, .row false (.bytes (b ++ hx4 u.toNat)) 1⟩ := evH_ok (by kernel_rfl) X_iapp_ok (H := H_iapp nb b u) (fuel := 1000) Tryz.func47 (by kernel_rfl) fun hpre => (vc_iapp nb b u _).mpr (by
  exact ⟨fun h => absurd h (by decide), fun _ => ⟨hpre, fun G w v hr => hr⟩⟩)
def ent_iapp : List PV → Option CallR := fun xs => match xs with
  | [.row nb (.bytes b) 1, .int .u64 u, .int .i64 16] => some ⟨0 ≤ u ∧ u < 65536 ∧ b.length ≤ 1000000, .row false (.bytes (b ++ hx4 u.toNat)) 1⟩
  | _ => none
theorem ent_iapp_ok : ∀ xs c, ent_iapp xs = some c → FuncOk Tryz.prog noT 47 xs c := fun xs c h => by
  unfold ent_iapp at h
  split at h
  · injection h with h; subst h; exact ok_iapp _ _ _
  · cases h
end
section
def X_sapp : Tbl := tblX [(47, ent_iapp)]
def H_sapp (nb : Bool) (b : Bs) (u : Int) : Loops := fun i => none
theorem X_sapp_ok : XOk Tryz.prog noT X_sapp := tblX_cons ent_iapp_ok (tblX_nil)
theorem vc_sapp (nb : Bool) (b : Bs) (u : Int) (k : PV → Prop) : evR Tryz.prog X_sapp noT (H_sapp nb b u) 1000 Tryz.f21 [.row nb (.bytes b) 1, .int .u64 u, .int .i64 16] k = (
  ((0 : Int) ≤ u ∧ u < (65536 : Int) ∧ List.length b ≤ (1000000 : Nat)) ∧
 k (PV.row false (BRow.bytes (b ++ hx4 u.toNat)) (Nat.succ (nat_lit 0)))) := by kernel_rfl
attribute [local irreducible] Go.Vc.evF Go.Vc.evR
theorem ok_sapp (nb : Bool) (b : Bs) (u : Int) : FuncOk Tryz.prog noT 21 [.row nb (.bytes b) 1, .int .u64 u, .int .i64 16] ⟨0 ≤ u ∧ u < 65536 ∧ b.length ≤ 1000000, .row false (.bytes (b ++ hx4 u.toNat)) 1⟩ := evH_ok (by kernel_rfl) X_sapp_ok (H := H_sapp nb b u) (fuel := 1000) Tryz.func21 (by kernel_rfl) fun hpre => (vc_sapp nb b u _).mpr (by
  exact ⟨hpre, fun G w v hr => hr⟩)
def ent_sapp : List PV → Option CallR := fun xs => match xs with
  | [.row nb (.bytes b) 1, .int .u64 u, .int .i64 16] => some ⟨0 ≤ u ∧ u < 65536 ∧ b.length ≤ 1000000, .row false (.bytes (b ++ hx4 u.toNat)) 1⟩
  | _ => none
theorem ent_sapp_ok : ∀ xs c, ent_sapp xs = some c → FuncOk Tryz.prog noT 21 xs c := fun xs c h => by
  unfold ent_sapp at h
  split at h
  · injection h with h; subst h; exact ok_sapp _ _ _
  · cases h
end
section
def lenB (l : Bs) : Int := l.length
def shI (p : List Int) (i : Int) (o : Bs) : Prop := ∃ n : Nat, 9 ≤ n + i ∧ shwF p (nought p).1 (nought p).2 n i o = shw p
def X_show6 : Tbl := tblX [(20, ent_noughts), (21, ent_sapp)]
def H_show6 (p : List Int) : Loops := fun i => bif Nat.beq i 4 then some ⟨(Bool × Bs) × (Int), (fun s x => (((((s.row s 5 x.1.1 (.bytes x.1.2)).put 6 (.int .i64 x.2)).put 13 .undef).put 18 .undef).put 29 .undef)), (fun s => ((s.nil 5, s.bytes 5), s.int 6)), (fun s x => let o := x.1; let i := x.2; 0 ≤ i ∧ i ≤ 8 ∧ lenB o.2 ≤ 5 * i ∧ shI p i o.2), (fun s x => let o := x.1; let i := x.2; (8 - i).toNat), [13, 18, 29]⟩ else none
theorem X_show6_ok : XOk Tryz.prog noT X_show6 := tblX_cons ent_noughts_ok (tblX_cons ent_sapp_ok (tblX_nil))
theorem vc_show6 (p : List Int) (k : PV → Prop) : evF Tryz.prog X_show6 noT (H_show6 p) 1000 Tryz.f10 [.arr 8 (.ints .u16 p)] k = (
  (p.length = (8 : Nat) ∧ ∀ (i : Nat), (0 : Int) ≤ p.getD i (0 : Int) ∧ p.getD i (0 : Int) < (65536 : Int)) ∧
 VS.mk []
 [(0, PV.arr (8 : Nat) (BRow.ints .u16 p)), (1, PV.ptr ((1 : Nat) + (32 : Nat)) (0 : Nat)),
 (2, PV.str (ByteArray.mk #[]).data.toList), (3, PV.int .i64 (nought p).1),
 (4, PV.int .i64 (nought p).2),
 (5, PV.row true (BRow.bytes []) ((5 : Nat) + (32 : Nat))), (6, PV.int .i64 (0 : Int)),
 ((13 : Nat), PV.undef), ((18 : Nat), PV.undef), ((29 : Nat), PV.undef)]
 [((1 : Nat) + (32 : Nat), PV.arr (8 : Nat) (BRow.ints .u16 p))] =
 VS.mk []
 [(0, PV.arr (8 : Nat) (BRow.ints .u16 p)), (1, PV.ptr ((1 : Nat) + (32 : Nat)) (0 : Nat)),
 (2, PV.str (ByteArray.mk #[]).data.toList), (3, PV.int .i64 (nought p).1),
 (4, PV.int .i64 (nought p).2),
 ((5 : Nat), PV.row true (BRow.bytes []) ((5 : Nat) + (32 : Nat))), ((6 : Nat), PV.int .i64 (0 : Int)),
 ((13 : Nat), PV.undef), ((18 : Nat), PV.undef), ((29 : Nat), PV.undef)]
 [((1 : Nat) + (32 : Nat), PV.arr (8 : Nat) (BRow.ints .u16 p))] ∧
 ((0 : Int) ≤ (0 : Int) ∧
 (0 : Int) ≤ (8 : Int) ∧ lenB [] ≤ (5 : Int) * (0 : Int) ∧ shI p (0 : Int) []) ∧
 ∀ (x : (Bool × Bs) × Int),
 (0 : Int) ≤ x.2 ∧
 x.2 ≤ (8 : Int) ∧
 lenB x.1.2 ≤ (5 : Int) * x.2 ∧ shI p x.2 x.1.2 →
 (decide (x.2 < (8 : Int)) = true →
 (decide (x.2 = (nought p).1) = true →
 Int.ofNat (List.length (x.1.2 ++ (ByteArray.mk #[58, 58]).data.toList)) ≤ maxRow ∧
 inI64 ((nought p).2 - (1 : Int)) ∧
 inI64 ((nought p).2 - (1 : Int) + (1 : Int)) ∧
 VS.mk []
 [(0, PV.arr (8 : Nat) (BRow.ints .u16 p)),
 (1, PV.ptr ((1 : Nat) + (32 : Nat)) (0 : Nat)), (2, PV.str (ByteArray.mk #[]).data.toList),
 (3, PV.int .i64 (nought p).1),
 (4, PV.int .i64 (nought p).2),
 ((5 : Nat),
 PV.row false (BRow.bytes (x.1.2 ++ (ByteArray.mk #[58, 58]).data.toList))
 (nat_lit 36 + (1 : Nat))),
 ((6 : Nat), PV.int .i64 ((nought p).2 - (1 : Int) + (1 : Int))),
 ((13 : Nat), PV.undef), ((18 : Nat), PV.undef), ((29 : Nat), PV.undef)]
 [((1 : Nat) + (32 : Nat), PV.arr (8 : Nat) (BRow.ints .u16 p))] =
 VS.mk []
 [(0, PV.arr (8 : Nat) (BRow.ints .u16 p)),
 (1, PV.ptr ((1 : Nat) + (32 : Nat)) (0 : Nat)), (2, PV.str (ByteArray.mk #[]).data.toList),
 (3, PV.int .i64 (nought p).1),
 (4, PV.int .i64 (nought p).2),
 ((5 : Nat),
 PV.row false (BRow.bytes (x.1.2 ++ (ByteArray.mk #[58, 58]).data.toList))
 ((5 : Nat) + (32 : Nat))),
 ((6 : Nat), PV.int .i64 ((nought p).2 - (1 : Int) + (1 : Int))),
 ((13 : Nat), PV.undef), ((18 : Nat), PV.undef), ((29 : Nat), PV.undef)]
 [((1 : Nat) + (32 : Nat), PV.arr (8 : Nat) (BRow.ints .u16 p))] ∧
 ((0 : Int) ≤ (nought p).2 - (1 : Int) + (1 : Int) ∧
 (nought p).2 - (1 : Int) + (1 : Int) ≤ (8 : Int) ∧
 lenB (x.1.2 ++ (ByteArray.mk #[58, 58]).data.toList) ≤
 (5 : Int) * ((nought p).2 - (1 : Int) + (1 : Int)) ∧
 shI p ((nought p).2 - (1 : Int) + (1 : Int))
 (x.1.2 ++ (ByteArray.mk #[58, 58]).data.toList)) ∧
 ((8 : Int) - ((nought p).2 - (1 : Int) + (1 : Int))).toNat < ((8 : Int) - x.2).toNat) ∧
 (decide (x.2 = (nought p).1) = false →
 ((bif decide ((0 : Int) < x.2) then !decide (x.2 = (nought p).2) else false) = true →
 allU8 [PV.int .u8 (58 : Int)] ∧
 Int.ofNat (List.length (x.1.2 ++ [zByte (58 : Int)])) ≤ maxRow ∧
 within x.2 ↑(8 : Nat) ∧
 within x.2 ↑(8 : Nat) ∧
 ((0 : Int) ≤ Go.IntKind.u64.wrap (intZ p x.2) ∧
 Go.IntKind.u64.wrap (intZ p x.2) < (65536 : Int) ∧
 List.length (x.1.2 ++ [zByte (58 : Int)]) ≤ (1000000 : Nat)) ∧
 inI64 (x.2 + (1 : Int)) ∧
 VS.mk []
 [(0, PV.arr (8 : Nat) (BRow.ints .u16 p)),
 (1, PV.ptr ((1 : Nat) + (32 : Nat)) (0 : Nat)),
 (2, PV.str (ByteArray.mk #[]).data.toList),
 (3, PV.int .i64 (nought p).1),
 (4, PV.int .i64 (nought p).2),
 ((5 : Nat),
 PV.row false
 (BRow.bytes
 (x.1.2 ++ [zByte (58 : Int)] ++
 hx4 (Go.IntKind.u64.wrap (intZ p x.2)).toNat))
 (nat_lit 36 + (1 : Nat))),
 ((6 : Nat), PV.int .i64 (x.2 + (1 : Int))), ((13 : Nat), PV.undef),
 ((18 : Nat), PV.undef), ((29 : Nat), PV.undef)]
 [((1 : Nat) + (32 : Nat), PV.arr (8 : Nat) (BRow.ints .u16 p))] =
 VS.mk []
 [(0, PV.arr (8 : Nat) (BRow.ints .u16 p)),
 (1, PV.ptr ((1 : Nat) + (32 : Nat)) (0 : Nat)),
 (2, PV.str (ByteArray.mk #[]).data.toList),
 (3, PV.int .i64 (nought p).1),
 (4, PV.int .i64 (nought p).2),
 ((5 : Nat),
 PV.row false
 (BRow.bytes
 (x.1.2 ++ [zByte (58 : Int)] ++
 hx4 (Go.IntKind.u64.wrap (intZ p x.2)).toNat))
 ((5 : Nat) + (32 : Nat))),
 ((6 : Nat), PV.int .i64 (x.2 + (1 : Int))), ((13 : Nat), PV.undef),
 ((18 : Nat), PV.undef), ((29 : Nat), PV.undef)]
 [((1 : Nat) + (32 : Nat), PV.arr (8 : Nat) (BRow.ints .u16 p))] ∧
 ((0 : Int) ≤ x.2 + (1 : Int) ∧
 x.2 + (1 : Int) ≤ (8 : Int) ∧
 lenB
 (x.1.2 ++ [zByte (58 : Int)] ++
 hx4 (Go.IntKind.u64.wrap (intZ p x.2)).toNat) ≤
 (5 : Int) * (x.2 + (1 : Int)) ∧
 shI p (x.2 + (1 : Int))
 (x.1.2 ++ [zByte (58 : Int)] ++
 hx4 (Go.IntKind.u64.wrap (intZ p x.2)).toNat)) ∧
 ((8 : Int) - (x.2 + (1 : Int))).toNat < ((8 : Int) - x.2).toNat) ∧
 ((bif decide ((0 : Int) < x.2) then !decide (x.2 = (nought p).2) else false) = false →
 within x.2 ↑(8 : Nat) ∧
 within x.2 ↑(8 : Nat) ∧
 ((0 : Int) ≤ Go.IntKind.u64.wrap (intZ p x.2) ∧
 Go.IntKind.u64.wrap (intZ p x.2) < (65536 : Int) ∧ List.length x.1.2 ≤ (1000000 : Nat)) ∧
 inI64 (x.2 + (1 : Int)) ∧
 VS.mk []
 [(0, PV.arr (8 : Nat) (BRow.ints .u16 p)),
 (1, PV.ptr ((1 : Nat) + (32 : Nat)) (0 : Nat)), (2, PV.str (ByteArray.mk #[]).data.toList),
 (3, PV.int .i64 (nought p).1),
 (4, PV.int .i64 (nought p).2),
 ((5 : Nat),
 PV.row false
 (BRow.bytes
 (x.1.2 ++ hx4 (Go.IntKind.u64.wrap (intZ p x.2)).toNat))
 (nat_lit 36 + (1 : Nat))),
 ((6 : Nat), PV.int .i64 (x.2 + (1 : Int))), ((13 : Nat), PV.undef), ((18 : Nat), PV.undef),
 ((29 : Nat), PV.undef)]
 [((1 : Nat) + (32 : Nat), PV.arr (8 : Nat) (BRow.ints .u16 p))] =
 VS.mk []
 [(0, PV.arr (8 : Nat) (BRow.ints .u16 p)),
 (1, PV.ptr ((1 : Nat) + (32 : Nat)) (0 : Nat)), (2, PV.str (ByteArray.mk #[]).data.toList),
 (3, PV.int .i64 (nought p).1),
 (4, PV.int .i64 (nought p).2),
 ((5 : Nat),
 PV.row false
 (BRow.bytes
 (x.1.2 ++ hx4 (Go.IntKind.u64.wrap (intZ p x.2)).toNat))
 ((5 : Nat) + (32 : Nat))),
 ((6 : Nat), PV.int .i64 (x.2 + (1 : Int))), ((13 : Nat), PV.undef), ((18 : Nat), PV.undef),
 ((29 : Nat), PV.undef)]
 [((1 : Nat) + (32 : Nat), PV.arr (8 : Nat) (BRow.ints .u16 p))] ∧
 ((0 : Int) ≤ x.2 + (1 : Int) ∧
 x.2 + (1 : Int) ≤ (8 : Int) ∧
 lenB
 (x.1.2 ++ hx4 (Go.IntKind.u64.wrap (intZ p x.2)).toNat) ≤
 (5 : Int) * (x.2 + (1 : Int)) ∧
 shI p (x.2 + (1 : Int))
 (x.1.2 ++ hx4 (Go.IntKind.u64.wrap (intZ p x.2)).toNat)) ∧
 ((8 : Int) - (x.2 + (1 : Int))).toNat < ((8 : Int) - x.2).toNat))) ∧
 (decide (x.2 < (8 : Int)) = false → k (PV.str x.1.2))) := by kernel_rfl
attribute [local irreducible] Go.Vc.evF
theorem ok_show6 (p : List Int) : FuncOk Tryz.prog noT 10 [.arr 8 (.ints .u16 p)] ⟨IsP p, .str (shw p)⟩ := evF_ok (by kernel_rfl) X_show6_ok (H := H_show6 p) (fuel := 1000) Tryz.func10 (by kernel_rfl) fun hpre => (vc_show6 p _).mpr (by
  have hp := hpre
  have hmr : maxRow = 16777216 := rfl
  have hg := gap_is p hp.1
  have z58 : zByte 58 = (58 : UInt8) := by decide
  have hlb : ∀ l : Bs, lenB l = (l.length : Int) := fun _ => rfl
  refine ⟨hp, by first | rfl | trivial, ⟨by omega, by omega, by rw [hlb]; simp, ⟨9, by omega, rfl⟩⟩, fun x hx => ?_⟩
  obtain ⟨⟨nl, o⟩, i⟩ := x
  obtain ⟨h0, h1, h2, h3⟩ := hx
  simp only at h0 h1 h2 h3
  obtain ⟨n, hn, hs⟩ := h3
  rw [hlb] at h2
  refine ⟨fun d => ?_, fun d => ?_⟩
  · have d1 : i < 8 := of_decide_eq_true d
    have hbd := hp.2 i.toNat
    have hw : IntKind.u64.wrap (intZ p i) = p.getD i.toNat 0 := by
      show (p.getD i.toNat 0) % 18446744073709551616 = _; omega
    have hl4 := hx4_len (p.getD i.toNat 0).toNat
    obtain ⟨n, rfl⟩ : ∃ k, n = k + 1 := ⟨n - 1, by omega⟩
    rw [shwF, if_pos d1] at hs
    simp only [hw, z58]
    refine ⟨fun e => ?_, fun e => ?_⟩
    · have e1 : i = (nought p).1 := of_decide_eq_true e
      rw [if_pos e1] at hs
      have hen : (nought p).2 - 1 + 1 = (nought p).2 := by omega
      have hlen : (o ++ (ByteArray.mk #[58, 58]).data.toList).length = o.length + 2 := by rw [List.length_append]; rfl
      simp only [hen, hlb, hlen, Int.ofNat_eq_natCast]
      exact ⟨by omega, by unfold inI64; omega, by unfold inI64; omega, by first | rfl | trivial, ⟨by omega, by omega, by omega, ⟨n, by omega, hs⟩⟩, by omega⟩
    · have e1 : ¬ i = (nought p).1 := of_decide_eq_false e
      rw [if_neg e1] at hs
      refine ⟨fun f => ?_, fun f => ?_⟩
      · have f1 : 0 < i ∧ i ≠ (nought p).2 := by
          by_cases c1 : 0 < i <;> by_cases c2 : i = (nought p).2 <;> simp [c1, c2] at f ⊢
        rw [if_pos f1] at hs
        simp only [hlb, List.length_append, List.length_cons, List.length_nil, Int.ofNat_eq_natCast]
        exact ⟨⟨by show (0 : Int) ≤ 58; omega, by show (58 : Int) ≤ 255; omega⟩, by omega, ⟨by omega, by omega⟩, ⟨by omega, by omega⟩, ⟨hbd.1, hbd.2, by omega⟩, by unfold inI64; omega, by first | rfl | trivial, ⟨by omega, by omega, by omega, ⟨n, by omega, hs⟩⟩, by omega⟩
      · have f1 : ¬ (0 < i ∧ i ≠ (nought p).2) := by
          rintro ⟨c1, c2⟩
          simp [c1, c2] at f
        rw [if_neg f1] at hs
        simp only [hlb, List.length_append, List.length_cons, List.length_nil, Int.ofNat_eq_natCast]
        exact ⟨⟨by omega, by omega⟩, ⟨by omega, by omega⟩, ⟨hbd.1, hbd.2, by omega⟩, by unfold inI64; omega, by first | rfl | trivial, ⟨by omega, by omega, by omega, ⟨n, by omega, hs⟩⟩, by omega⟩
  · have d1 : ¬ i < 8 := of_decide_eq_false d
    show PV.str _ = PV.str _
    rw [← hs]
    cases n with
    | zero => rfl
    | succ n => rw [shwF, if_neg d1])
def ent_show6 : List PV → Option CallR := fun xs => match xs with
  | [.arr 8 (.ints .u16 p)] => some ⟨IsP p, .str (shw p)⟩
  | _ => none
theorem ent_show6_ok : ∀ xs c, ent_show6 xs = some c → FuncOk Tryz.prog noT 10 xs c := fun xs c h => by
  unfold ent_show6 at h
  split at h
  · injection h with h; subst h; exact ok_show6 _
  · cases h
end
theorem ok_r8s (z : Int) : FuncOk Tryz.prog noT 13 [.int .u32 z] ⟨0 ≤ z ∧ z < 4294967296, .str (showL z.toNat)⟩ :=
  FuncOk.of_calls Tryz.func13 (by kernel_rfl) rfl fun ⟨h0, h1⟩ F w vs _ _ hw hx => by
    obtain ⟨_, _, rfl, r1, rfl⟩ := hx
    obtain rfl := r1
    obtain ⟨n, rfl⟩ := Int.eq_ofNat_of_zero_le h0
    exact ⟨_, rShow_any n w (by omega), fun G w => by show Value.string _ = Value.string _; rw [Int.toNat_natCast]⟩
def ent_r8s : List PV → Option CallR := fun xs => match xs with | [.int .u32 z] => some ⟨0 ≤ z ∧ z < 4294967296, .str (showL z.toNat)⟩ | _ => none
theorem ent_r8s_ok : ∀ xs c, ent_r8s xs = some c → FuncOk Tryz.prog noT 13 xs c := fun xs c h => by
  unfold ent_r8s at h
  split at h
  · injection h with h; subst h; exact ok_r8s _
  · cases h
theorem ok_ip4s (z : Int) : FuncOk Tryz.prog noT 11 [.int .u32 z] ⟨0 ≤ z ∧ z < 4294967296, .str (showL z.toNat)⟩ :=
  FuncOk.of_calls Tryz.func11 (by kernel_rfl) rfl fun ⟨h0, h1⟩ F w vs _ _ hw hx => by
    obtain ⟨_, _, rfl, r1, rfl⟩ := hx
    obtain rfl := r1
    obtain ⟨n, rfl⟩ := Int.eq_ofNat_of_zero_le h0
    exact ⟨_, Show_any n w (by omega) (TabH.tab hw), fun G w => by show Value.string _ = Value.string _; rw [Int.toNat_natCast]⟩
def ent_ip4s : List PV → Option CallR := fun xs => match xs with | [.int .u32 z] => some ⟨0 ≤ z ∧ z < 4294967296, .str (showL z.toNat)⟩ | _ => none
theorem ent_ip4s_ok : ∀ xs c, ent_ip4s xs = some c → FuncOk Tryz.prog noT 11 xs c := fun xs c h => by
  unfold ent_ip4s at h
  split at h
  · injection h with h; subst h; exact ok_ip4s _
  · cases h
section
theorem shwF_len (p : List Int) (bg en : Int) : ∀ (n : Nat) (i : Int) (b : List UInt8), (shwF p bg en n i b).length ≤ b.length + 7 * n := by
  intro n
  induction n with
  | zero => intro i b; unfold shwF; omega
  | succ n ih =>
    intro i b
    unfold shwF
    have hx := (hx4_len (p.getD i.toNat 0).toNat).2
    repeat' split
    all_goals first
      | omega
      | (refine Nat.le_trans (ih _ _) ?_; simp only [List.length_append, List.length_cons, List.length_nil]; omega)
theorem shw_len (p : List Int) : (shw p).length ≤ 63 := shwF_len p _ _ 9 0 []
theorem dec256_len : ∀ m : Fin 256, (Lib.decDigits m.val).length ≤ 3 := by decide +kernel
theorem showL_len {n : Nat} (h : n < 4294967296) : (showL n).length ≤ 15 := by
  have h0 := dec256_len ⟨q0 n, by unfold q0; omega⟩
  have h1 := dec256_len ⟨q1 n, by unfold q1; omega⟩
  have h2 := dec256_len ⟨q2 n, by unfold q2; omega⟩
  have h3 := dec256_len ⟨q3 n, by unfold q3; omega⟩
  dsimp only at h0 h1 h2 h3
  unfold showL
  simp only [List.length_append, List.length_cons, List.length_nil]
  omega
def hshw (kd : Int) (l : Bs) (n : Int) (p : List Int) : Bs := if kd = 4 then (91 : UInt8) :: (shw p ++ [93]) else if kd = 3 then showL n.toNat else if kd = 2 ∨ kd = 5 then l else []
theorem hshw_len {kd : Int} {l : Bs} {n : Int} {p : List Int} (hl : l.length ≤ 1000) (h0 : 0 ≤ n) (h1 : n < 4294967296) : (hshw kd l n p).length ≤ 1000 := by
  unfold hshw
  have := shw_len p
  have := showL_len (show n.toNat < 4294967296 by omega)
  repeat' split
  all_goals try simp only [List.length_append, List.length_cons, List.length_nil]
  all_goals omega
def X_gshow : Tbl := tblX [(10, ent_show6), (11, ent_ip4s)]
def H_gshow (kd : Int) (l : Bs) (n : Int) (p : List Int) : Loops := fun i => none
theorem X_gshow_ok : XOk Tryz.prog noT X_gshow := tblX_cons ent_show6_ok (tblX_cons ent_ip4s_ok (tblX_nil))
theorem vc_gshow (kd : Int) (l : Bs) (n : Int) (p : List Int) (k : PV → Prop) : evF Tryz.prog X_gshow noT (H_gshow kd l n p) 1000 Tryz.f5 [.agg [.int .i64 kd, .str l, .int .u32 n, .arr 8 (.ints .u16 p)]] k = (
  (decide (kd = (4 : Int)) = true →
 (p.length = (8 : Nat) ∧ ∀ (i : Nat), (0 : Int) ≤ p.getD i (0 : Int) ∧ p.getD i (0 : Int) < (65536 : Int)) ∧
 (ByteArray.mk #[91]).data.toList.length + (shw p).length ≤ Go.Vc.maxLen ∧
 List.length ((ByteArray.mk #[91]).data.toList ++ shw p) +
 (ByteArray.mk #[93]).data.toList.length ≤
 Go.Vc.maxLen ∧
 k
 (PV.str
 ((ByteArray.mk #[91]).data.toList ++ shw p ++ (ByteArray.mk #[93]).data.toList))) ∧
 (decide (kd = (4 : Int)) = false →
 (decide (kd = (3 : Int)) = true → ((0 : Int) ≤ n ∧ n < (4294967296 : Int)) ∧ k (PV.str (showL n.toNat))) ∧
 (decide (kd = (3 : Int)) = false →
 (decide (kd = (2 : Int)) = true →
 (decide (kd = (2 : Int)) = true → k (PV.str l)) ∧ (decide (kd = (2 : Int)) = false → k (PV.str (ByteArray.mk #[]).data.toList))) ∧
 (decide (kd = (2 : Int)) = false →
 (decide (kd = (5 : Int)) = true → k (PV.str l)) ∧ (decide (kd = (5 : Int)) = false → k (PV.str (ByteArray.mk #[]).data.toList)))))) := by kernel_rfl
attribute [local irreducible] Go.Vc.evF
theorem ok_gshow (kd : Int) (l : Bs) (n : Int) (p : List Int) : FuncOk Tryz.prog noT 5 [.agg [.int .i64 kd, .str l, .int .u32 n, .arr 8 (.ints .u16 p)]] ⟨l.length ≤ 1000 ∧ 0 ≤ n ∧ n < 4294967296 ∧ IsP p, .str (hshw kd l n p)⟩ := evF_ok (by kernel_rfl) X_gshow_ok (H := H_gshow kd l n p) (fuel := 1000) Tryz.func5 (by kernel_rfl) fun hpre => (vc_gshow kd l n p _).mpr (by
  obtain ⟨hl, h0, h1, hp⟩ := hpre
  have e91 : (ByteArray.mk #[91]).data.toList = ([91] : Bs) := rfl
  have e93 : (ByteArray.mk #[93]).data.toList = ([93] : Bs) := rfl
  have hs := shw_len p
  have hm : (1000 : Nat) ≤ Go.Vc.maxLen := by decide
  rw [e91, e93]
  refine ⟨fun h => ⟨hp, ?_, ?_, ?_⟩, fun h => ⟨fun h3 => ⟨⟨h0, h1⟩, ?_⟩, fun h3 => ⟨fun h2 => ⟨fun _ => ?_, fun g => absurd (h2.symm.trans g) (by decide)⟩, fun h2 => ⟨fun h5 => ?_, fun h5 => ?_⟩⟩⟩⟩
  · simp only [List.length_cons, List.length_nil]; omega
  · simp only [List.length_append, List.length_cons, List.length_nil]; omega
  · refine congrArg PV.str ?_
    unfold hshw; rw [if_pos (of_decide_eq_true h)]; rfl
  · refine congrArg PV.str ?_
    unfold hshw; rw [if_neg (of_decide_eq_false h), if_pos (of_decide_eq_true h3)]
  · refine congrArg PV.str ?_
    unfold hshw; rw [if_neg (of_decide_eq_false h), if_neg (of_decide_eq_false h3), if_pos (Or.inl (of_decide_eq_true h2))]
  · refine congrArg PV.str ?_
    unfold hshw; rw [if_neg (of_decide_eq_false h), if_neg (of_decide_eq_false h3), if_pos (Or.inr (of_decide_eq_true h5))]
  · refine congrArg PV.str ?_
    unfold hshw; rw [if_neg (of_decide_eq_false h), if_neg (of_decide_eq_false h3), if_neg (fun g => g.elim (of_decide_eq_false h2) (of_decide_eq_false h5))])
def ent_gshow : List PV → Option CallR := fun xs => match xs with
  | [.agg [.int .i64 kd, .str l, .int .u32 n, .arr 8 (.ints .u16 p)]] => some ⟨l.length ≤ 1000 ∧ 0 ≤ n ∧ n < 4294967296 ∧ IsP p, .str (hshw kd l n p)⟩
  | _ => none
theorem ent_gshow_ok : ∀ xs c, ent_gshow xs = some c → FuncOk Tryz.prog noT 5 xs c := fun xs c h => by
  unfold ent_gshow at h
  split at h
  · injection h with h; subst h; exact ok_gshow _ _ _ _
  · cases h
end
section
def zrn (p : List Int) (a : Int) : Int := (zEnd (zer p) a.toNat : Int) - a
def X_rzeros : Tbl := tblX []
def H_rzeros (p : List Int) (at0 : Int) : Loops := fun i => bif Nat.beq i 2 then some ⟨(Int), (fun s x => ((s.put 5 (.int .i64 x)).put 17 .undef)), (fun s => s.int 5), (fun s x => let n := x; 0 ≤ n ∧ at0 + n ≤ 8 ∧ zrn p (at0 + n) + n = zrn p at0), (fun s x => let n := x; (8 - at0 - n).toNat), [17]⟩ else none
theorem X_rzeros_ok : XOk Tryz.prog noT X_rzeros := tblX_nil
theorem vc_rzeros (p : List Int) (at0 : Int) (k : PV → Prop) : evF Tryz.prog X_rzeros noT (H_rzeros p at0) 1000 Tryz.f22 [.arr 8 (.ints .u16 p), .int .i64 at0] k = (
  VS.mk []
 [(0, PV.arr (8 : Nat) (BRow.ints .u16 p)), (1, PV.int .i64 at0),
 (2, PV.ptr ((2 : Nat) + (32 : Nat)) (0 : Nat)), (4, PV.int .i64 (0 : Int)),
 (5, PV.int .i64 (0 : Int)), ((17 : Nat), PV.undef)]
 [((2 : Nat) + (32 : Nat), PV.arr (8 : Nat) (BRow.ints .u16 p))] =
 VS.mk []
 [(0, PV.arr (8 : Nat) (BRow.ints .u16 p)), (1, PV.int .i64 at0),
 (2, PV.ptr ((2 : Nat) + (32 : Nat)) (0 : Nat)), (4, PV.int .i64 (0 : Int)),
 ((5 : Nat), PV.int .i64 (0 : Int)), ((17 : Nat), PV.undef)]
 [((2 : Nat) + (32 : Nat), PV.arr (8 : Nat) (BRow.ints .u16 p))] ∧
 ((0 : Int) ≤ (0 : Int) ∧
 at0 + (0 : Int) ≤ (8 : Int) ∧ zrn p (at0 + (0 : Int)) + (0 : Int) = zrn p at0) ∧
 ∀ (x : Int),
 (0 : Int) ≤ x ∧ at0 + x ≤ (8 : Int) ∧ zrn p (at0 + x) + x = zrn p at0 →
 inI64 (at0 + x) ∧
 (decide (at0 + x < (8 : Int)) = true → inI64 (at0 + x)) ∧
 (decide (at0 + x < (8 : Int)) = true → within (at0 + x) ↑(8 : Nat)) ∧
 (decide (at0 + x < (8 : Int)) = true → within (at0 + x) ↑(8 : Nat)) ∧
 ((bif decide (at0 + x < (8 : Int)) then decide (intZ p (at0 + x) = (0 : Int)) else false) = true →
 inI64 (x + (1 : Int)) ∧
 VS.mk []
 [(0, PV.arr (8 : Nat) (BRow.ints .u16 p)), (1, PV.int .i64 at0),
 (2, PV.ptr ((2 : Nat) + (32 : Nat)) (0 : Nat)), (4, PV.int .i64 (0 : Int)),
 ((5 : Nat), PV.int .i64 (x + (1 : Int))), ((17 : Nat), PV.undef)]
 [((2 : Nat) + (32 : Nat), PV.arr (8 : Nat) (BRow.ints .u16 p))] =
 VS.mk []
 [(0, PV.arr (8 : Nat) (BRow.ints .u16 p)), (1, PV.int .i64 at0),
 (2, PV.ptr ((2 : Nat) + (32 : Nat)) (0 : Nat)), (4, PV.int .i64 (0 : Int)),
 ((5 : Nat), PV.int .i64 (x + (1 : Int))), ((17 : Nat), PV.undef)]
 [((2 : Nat) + (32 : Nat), PV.arr (8 : Nat) (BRow.ints .u16 p))] ∧
 ((0 : Int) ≤ x + (1 : Int) ∧
 at0 + (x + (1 : Int)) ≤ (8 : Int) ∧
 zrn p (at0 + (x + (1 : Int))) + (x + (1 : Int)) =
 zrn p at0) ∧
 ((8 : Int) - at0 - (x + (1 : Int))).toNat < ((8 : Int) - at0 - x).toNat) ∧
 ((bif decide (at0 + x < (8 : Int)) then decide (intZ p (at0 + x) = (0 : Int)) else false) = false → k (PV.int .i64 x))) := by kernel_rfl
attribute [local irreducible] Go.Vc.evF
theorem ok_rzeros (p : List Int) (at0 : Int) : FuncOk Tryz.prog noT 22 [.arr 8 (.ints .u16 p), .int .i64 at0] ⟨IsP p ∧ 0 ≤ at0 ∧ at0 < 8, .int .i64 (zrn p at0)⟩ := evF_ok (by kernel_rfl) X_rzeros_ok (H := H_rzeros p at0) (fuel := 1000) Tryz.func22 (by kernel_rfl) fun hpre => (vc_rzeros p at0 _).mpr (by
  obtain ⟨hp, h0, h1⟩ := hpre
  have hl : (zer p).length = 8 := by unfold zer; rw [List.length_map]; exact hp.1
  have h8 := hp.1
  refine ⟨by first | rfl | trivial, ⟨by omega, by omega, by rw [Int.add_zero, Int.add_zero]⟩, fun x hx => ?_⟩
  obtain ⟨g0, g1, g2⟩ := hx
  obtain ⟨j, hj⟩ : ∃ j : Nat, at0 + x = j := ⟨(at0 + x).toNat, by omega⟩
  have e1 : at0 + (x + 1) = ((j + 1 : Nat) : Int) := by omega
  have hi : intZ p (j : Int) = p.getD j 0 := by unfold intZ; rw [Int.toNat_natCast]
  rw [hj] at g2
  simp only [hj, e1]
  refine ⟨by unfold inI64; omega, fun _ => by unfold inI64; omega, fun d => ⟨by omega, by have := of_decide_eq_true d; omega⟩, fun d => ⟨by omega, by have := of_decide_eq_true d; omega⟩, fun f => ?_, fun f => ?_⟩
  · have f1 : (j : Int) < 8 ∧ intZ p (j : Int) = 0 := by
      by_cases c1 : (j : Int) < 8 <;> by_cases c2 : intZ p (j : Int) = 0 <;> simp [c1, c2] at f ⊢
    have hz := zEnd_on (zer p) j (by omega) (by rw [zer_at p j (by omega), ← hi, f1.2]; rfl)
    refine ⟨by unfold inI64; omega, by first | rfl | trivial, ⟨by omega, by omega, ?_⟩, by omega⟩
    unfold zrn at g2 ⊢
    rw [Int.toNat_natCast] at g2 ⊢
    rw [hz] at g2
    omega
  · have hz : zEnd (zer p) j = j := by
      refine zEnd_off (zer p) j ?_
      by_cases c1 : j < 8
      · rw [zer_at p j (by omega), ← hi]
        have : ¬ intZ p (j : Int) = 0 := fun c2 => by simp [show (j : Int) < 8 by omega, c2] at f
        simpa using this
      · rw [List.getD_eq_getElem?_getD, List.getElem?_eq_none (by omega)]; rfl
    show PV.int _ _ = PV.int _ _
    unfold zrn at g2 ⊢
    rw [Int.toNat_natCast, hz] at g2
    congr 1
    omega)
def ent_rzeros : List PV → Option CallR := fun xs => match xs with
  | [.arr 8 (.ints .u16 p), .int .i64 at0] => some ⟨IsP p ∧ 0 ≤ at0 ∧ at0 < 8, .int .i64 (zrn p at0)⟩
  | _ => none
theorem ent_rzeros_ok : ∀ xs c, ent_rzeros xs = some c → FuncOk Tryz.prog noT 22 xs c := fun xs c h => by
  unfold ent_rzeros at h
  split at h
  · injection h with h; subst h; exact ok_rzeros _ _
  · cases h
end
section
theorem exI9 [Wd] {P : Program} {T : Tabs} {f : FuncId} {xs : List PV} {p : Nat → Prop} {r : PV} (h : ∀ n, FuncOk P T f xs ⟨p n, r⟩) (hnm : NoN xs := by exact ⟨rfl, rfl⟩) : FuncOk P T f xs ⟨∃ n, p n, r⟩ := .of_plain hnm fun ⟨n, hp⟩ => (h n).plain hnm hp
abbrev HX6 : Bs := (ByteArray.mk #[48, 49, 50, 51, 52, 53, 54, 55, 56, 57, 97, 98, 99, 100, 101, 102]).data.toList
theorem hx6_at : ∀ k : Fin 16, cutZ HX6 (k.val : Int) ((k.val : Int) + 1) = [dx k.val] := by decide +kernel
theorem hx6_len : lenZ HX6 = 16 := by decide
def ent_rhex (dn : Nat) : List PV → Option CallR := fun xs => match xs with
  | [.int .i64 n] => some ⟨0 ≤ n ∧ n < 65536 ∧ n < 16 ^ dn ∧ 0 < dn, .str (hx4 n.toNat)⟩
  | _ => none
def X_rhex (m : Nat) : Tbl := tblX [(23, ent_rhex m)]
def H_rhex (m : Nat) (n : Int) : Loops := fun i => none
theorem X_rhex_ok (m : Nat) (ih : ∀ xs c, ent_rhex m xs = some c → FuncOk Tryz.prog noT 23 xs c) : XOk Tryz.prog noT (X_rhex m) := tblX_cons ih (tblX_nil)
theorem vc_rhex (m : Nat) (n : Int) (k : PV → Prop) : evF Tryz.prog (X_rhex m) noT (H_rhex m n) 1000 Tryz.f23 [.int .i64 n] k = (
  (decide (n < (16 : Int)) = true →
 inI64 (n + (1 : Int)) ∧
 upto n (n + (1 : Int))
 (lenZ
 (ByteArray.mk
 #[48, 49, 50, 51, 52, 53, 54, 55, 56, 57, 97, 98, 99, 100, 101, 102]).data.toList) ∧
 k
 (PV.str
 (cutZ
 (ByteArray.mk
 #[48, 49, 50, 51, 52, 53, 54, 55, 56, 57, 97, 98, 99, 100, 101, 102]).data.toList
 n (n + (1 : Int))))) ∧
 (decide (n < (16 : Int)) = false →
 ((0 : Int) ≤ n ∧ (0 : Int) < (16 : Int) ∧ n ≤ (9223372036854775807 : Int)) ∧
 ((0 : Int) ≤ n / (16 : Int) ∧ n / (16 : Int) < (65536 : Int) ∧ n / (16 : Int) < (16 : Int) ^ m ∧ (0 : Nat) < m) ∧
 ((0 : Int) ≤ n ∧ (0 : Int) < (16 : Int)) ∧
 ((0 : Int) ≤ n ∧ (0 : Int) < (16 : Int)) ∧
 inI64 (n % (16 : Int) + (1 : Int)) ∧
 upto (n % (16 : Int)) (n % (16 : Int) + (1 : Int))
 (lenZ
 (ByteArray.mk
 #[48, 49, 50, 51, 52, 53, 54, 55, 56, 57, 97, 98, 99, 100, 101, 102]).data.toList) ∧
 (hx4 (n / (16 : Int)).toNat).length +
 (cutZ
 (ByteArray.mk
 #[48, 49, 50, 51, 52, 53, 54, 55, 56, 57, 97, 98, 99, 100, 101, 102]).data.toList
 (n % (16 : Int)) (n % (16 : Int) + (1 : Int))).length ≤
 Go.Vc.maxLen ∧
 k
 (PV.str
 (hx4 (n / (16 : Int)).toNat ++
 cutZ
 (ByteArray.mk
 #[48, 49, 50, 51, 52, 53, 54, 55, 56, 57, 97, 98, 99, 100, 101, 102]).data.toList
 (n % (16 : Int)) (n % (16 : Int) + (1 : Int)))))) := by kernel_rfl
attribute [local irreducible] Go.Vc.evF
theorem ok_rhex (m : Nat) (ih : ∀ xs c, ent_rhex m xs = some c → FuncOk Tryz.prog noT 23 xs c) (n : Int) : FuncOk Tryz.prog noT 23 [.int .i64 n] ⟨0 ≤ n ∧ n < 65536 ∧ n < 16 ^ (m + 1) ∧ 0 < (m + 1), .str (hx4 n.toNat)⟩ := evF_ok (by kernel_rfl) (X_rhex_ok m ih) (H := H_rhex m n) (fuel := 1000) Tryz.func23 (by kernel_rfl) fun hpre => (vc_rhex m n _).mpr (by
  obtain ⟨h0, h1, h2, h3⟩ := hpre
  obtain ⟨k', rfl⟩ := Int.eq_ofNat_of_zero_le h0
  have hmx : Go.Vc.maxLen = 1099511627776 := rfl
  have e16 : ∀ q : Nat, ((16 ^ q : Nat) : Int) = (16 : Int) ^ q := fun q => by rw [Int.natCast_pow]; rfl
  have h2' : k' < 16 ^ (m + 1) := by
    have : ((k' : Nat) : Int) < ((16 ^ (m + 1) : Nat) : Int) := by rw [e16]; exact h2
    exact Int.ofNat_lt.1 this
  refine ⟨fun d => ?_, fun d => ?_⟩
  · have d1 : k' < 16 := by have := of_decide_eq_true d; omega
    have hc := hx6_at ⟨k', d1⟩
    simp only at hc
    rw [hc]
    refine ⟨by unfold inI64; omega, ⟨by omega, by omega, by rw [hx6_len]; omega⟩, ?_⟩
    show PV.str _ = PV.str _
    rw [Int.toNat_natCast, hx4_small d1]
  · have d1 : ¬ k' < 16 := by have := of_decide_eq_false d; omega
    have e1 : (k' : Int) / 16 = ((k' / 16 : Nat) : Int) := by omega
    have e2 : (k' : Int) % 16 = ((k' % 16 : Nat) : Int) := by omega
    have hc := hx6_at ⟨k' % 16, by omega⟩
    simp only at hc
    have hl := hx4_len (k' / 16)
    have hm : 0 < m := by
      cases m with
      | zero => exact absurd h2' (by show ¬ k' < 16; omega)
      | succ m => omega
    have hq : k' / 16 < 16 ^ m := by rw [Nat.div_lt_iff_lt_mul (by decide)]; rw [Nat.pow_succ] at h2'; exact h2'
    have hq' : ((k' / 16 : Nat) : Int) < 16 ^ m := by
      rw [← e16]; exact Int.ofNat_lt.2 hq
    simp only [e1, e2, Int.toNat_natCast, hc]
    refine ⟨⟨by omega, by omega, by omega⟩, ⟨by omega, by omega, hq', hm⟩, ⟨by omega, by omega⟩, ⟨by omega, by omega⟩, by unfold inI64; omega, ⟨by omega, by omega, by rw [hx6_len]; omega⟩, by rw [List.length_singleton]; omega, ?_⟩
    show PV.str _ = PV.str _
    rw [hx4_step (n := k') (by omega) (by omega)])
theorem ent_rhex_ok : ∀ (n : Nat) xs c, ent_rhex n xs = some c → FuncOk Tryz.prog noT 23 xs c
  | 0, xs, c, h => by
    unfold ent_rhex at h
    split at h
    · injection h with h; subst h; exact .of_plain ⟨rfl, rfl⟩ fun hp => False.elim (absurd hp.2.2.2 (by decide))
    · cases h
  | m + 1, xs, c, h => by
    unfold ent_rhex at h
    split at h
    · injection h with h; subst h; exact ok_rhex m (ent_rhex_ok m) _
    · cases h
def entA_rhex : List PV → Option CallR := fun xs => match xs with
  | [.int .i64 n] => some ⟨∃ dn : Nat, 0 ≤ n ∧ n < 65536 ∧ n < 16 ^ dn ∧ 0 < dn, .str (hx4 n.toNat)⟩
  | _ => none
theorem entA_rhex_ok : ∀ xs c, entA_rhex xs = some c → FuncOk Tryz.prog noT 23 xs c := fun xs c h => by
  unfold entA_rhex at h
  split at h
  · injection h with h; subst h; exact exI9 fun n => ent_rhex_ok n _ _ rfl
  · cases h
end
section
def rfm (z : List Bool) : Nat → Nat → Int → Int → Int × Int
  | 0, i, f, m => (f, m)
  | n + 1, i, f, m => if m < (zEnd z i : Int) - i then rfm z n (i + 1) i ((zEnd z i : Int) - i) else rfm z n (i + 1) f m
def rI (p : List Int) (i f m : Int) : Prop := rfm (zer p) (8 - i.toNat) i.toNat f m = rfm (zer p) 8 0 8 1
def rJ (p : List Int) (f m i : Int) (o : Bs) : Prop := ∃ n : Nat, 9 ≤ n + i ∧ shwR p f (f + m) n i o = shw p
def gapR (z : List Bool) : Bool := match rfm z 8 0 8 1, noughtAt z 0 (-1) (-1) with
  | (f, m), (b, e) => decide ((f = 8 ∧ b = -1 ∧ e = -1 ∧ m = 1) ∨ (f = b ∧ f + m = e ∧ 0 ≤ f ∧ 2 ≤ m ∧ f + m ≤ 8))
theorem gapR_all : ∀ a b c d e f g h : Bool, gapR [a, b, c, d, e, f, g, h] = true := by decide +kernel
theorem rfm_is (p : List Int) (h8 : p.length = 8) : ((rfm (zer p) 8 0 8 1).1 = 8 ∧ (nought p).1 = -1 ∧ (nought p).2 = -1 ∧ (rfm (zer p) 8 0 8 1).2 = 1) ∨ ((rfm (zer p) 8 0 8 1).1 = (nought p).1 ∧ (rfm (zer p) 8 0 8 1).1 + (rfm (zer p) 8 0 8 1).2 = (nought p).2 ∧ 0 ≤ (rfm (zer p) 8 0 8 1).1 ∧ 2 ≤ (rfm (zer p) 8 0 8 1).2 ∧ (rfm (zer p) 8 0 8 1).1 + (rfm (zer p) 8 0 8 1).2 ≤ 8) := by
  have hz : gapR (zer p) = true := by
    match p, h8 with
    | [a, b, c, d, e, f, g, h], _ => exact gapR_all ..
  unfold gapR at hz
  rw [show noughtAt (zer p) 0 (-1) (-1) = nought p from rfl] at hz
  exact of_decide_eq_true hz
theorem shwR_far (p : List Int) (e : Int) : ∀ (n : Nat) (i : Int) (b : List UInt8), 0 ≤ i → shwR p 8 e n i b = shwR p (-1) (-1) n i b
  | 0, i, b, _ => rfl
  | n + 1, i, b, h0 => by
    unfold shwR
    by_cases h8 : i < 8
    · rw [if_pos h8, if_pos h8, if_neg (show ¬ i = 8 by omega), if_neg (show ¬ i = -1 by omega)]
      exact shwR_far p e n (i + 1) _ (by omega)
    · rw [if_neg h8, if_neg h8]
theorem rJ_start (p : List Int) (hp : IsP p) : shwR p (rfm (zer p) 8 0 8 1).1 ((rfm (zer p) 8 0 8 1).1 + (rfm (zer p) 8 0 8 1).2) 9 0 [] = shw p := by
  have hs := shw_ref p hp
  rcases rfm_is p hp.1 with ⟨h1, h2, h3, h4⟩ | ⟨h1, h2, -⟩
  · rw [h1, h4, shwR_far p _ 9 0 [] (by omega), ← hs, h2, h3]
  · rw [h2, h1, hs]
theorem zEnd_le (z : List Bool) (i : Nat) (h : i ≤ z.length) : zEnd z i ≤ z.length := by
  unfold zEnd
  have := (List.takeWhile_sublist (p := (· == true)) (l := z.drop i)).length_le
  rw [List.length_drop] at this
  omega
theorem last58 (o : Bs) (h : o ≠ []) : byteZ o (lenZ o - 1) = 58 ↔ o.getLast? = some 58 := by
  have hl : 0 < o.length := List.length_pos_iff.2 h
  rw [List.getLast?_eq_getElem?, List.getElem?_eq_getElem (by omega)]
  unfold byteZ
  rw [show (lenZ o - 1).toNat = o.length - 1 by unfold lenZ; omega, List.getD_eq_getElem?_getD, List.getElem?_eq_getElem (by omega)]
  show ((o[o.length - 1].toNat : Nat) : Int) = 58 ↔ _
  constructor
  · intro e
    have : o[o.length - 1].toNat = (58 : UInt8).toNat := by have e2 : (58 : UInt8).toNat = 58 := rfl; omega
    rw [UInt8.toNat_inj.1 this]
  · intro e
    injection e with e
    rw [e]; rfl
def X_rshow6 : Tbl := tblX [(22, ent_rzeros), (23, entA_rhex)]
def H_rshow6 (p : List Int) : Loops := fun i => bif Nat.beq i 3 then some ⟨(Int) × (Int) × (Int), (fun s x => ((((((s.put 3 (.int .i64 x.1)).put 4 (.int .i64 x.2.1)).put 5 (.int .i64 x.2.2)).put 6 .undef).put 10 .undef).put 18 .undef)), (fun s => (s.int 3, s.int 4, s.int 5)), (fun s x => let f := x.1; let m := x.2.1; let i := x.2.2; 0 ≤ i ∧ i ≤ 8 ∧ 0 ≤ f ∧ f ≤ 8 ∧ 1 ≤ m ∧ m ≤ 8 ∧ rI p i f m), (fun s x => let f := x.1; let m := x.2.1; let i := x.2.2; (8 - i).toNat), [6, 10, 18]⟩ else bif Nat.beq i 10 then some ⟨(Bs) × (Int), (fun s x => (((((s.put 7 (.str x.1)).put 8 (.int .i64 x.2)).put 22 .undef).put 27 .undef).put 43 .undef)), (fun s => (s.str 7, s.int 8)), (fun s x => let o := x.1; let i := x.2; 0 ≤ i ∧ i ≤ 8 ∧ lenB o ≤ 5 * i ∧ rJ p (s.int 3) (s.int 4) i o), (fun s x => let o := x.1; let i := x.2; (8 - i).toNat), [22, 27, 43]⟩ else none
theorem X_rshow6_ok : XOk Tryz.prog noT X_rshow6 := tblX_cons ent_rzeros_ok (tblX_cons entA_rhex_ok (tblX_nil))
theorem vc_rshow6 (p : List Int) (k : PV → Prop) : evF Tryz.prog X_rshow6 noT (H_rshow6 p) 1000 Tryz.f12 [.arr 8 (.ints .u16 p)] k = (
  VS.mk []
 [(0, PV.arr (8 : Nat) (BRow.ints .u16 p)), (1, PV.ptr ((1 : Nat) + (32 : Nat)) (0 : Nat)),
 (2, PV.str (ByteArray.mk #[]).data.toList), (3, PV.int .i64 (8 : Int)),
 (4, PV.int .i64 (1 : Int)), (5, PV.int .i64 (0 : Int)), ((6 : Nat), PV.undef),
 (7, PV.undef), (8, PV.undef), ((10 : Nat), PV.undef), ((18 : Nat), PV.undef), (22, PV.undef),
 (27, PV.undef), (43, PV.undef)]
 [((1 : Nat) + (32 : Nat), PV.arr (8 : Nat) (BRow.ints .u16 p))] =
 VS.mk []
 [(0, PV.arr (8 : Nat) (BRow.ints .u16 p)), (1, PV.ptr ((1 : Nat) + (32 : Nat)) (0 : Nat)),
 (2, PV.str (ByteArray.mk #[]).data.toList), ((3 : Nat), PV.int .i64 (8 : Int)),
 ((4 : Nat), PV.int .i64 (1 : Int)), ((5 : Nat), PV.int .i64 (0 : Int)), ((6 : Nat), PV.undef),
 (7, PV.undef), (8, PV.undef), ((10 : Nat), PV.undef), ((18 : Nat), PV.undef), (22, PV.undef),
 (27, PV.undef), (43, PV.undef)]
 [((1 : Nat) + (32 : Nat), PV.arr (8 : Nat) (BRow.ints .u16 p))] ∧
 ((0 : Int) ≤ (0 : Int) ∧
 (0 : Int) ≤ (8 : Int) ∧
 (0 : Int) ≤ (8 : Int) ∧
 (8 : Int) ≤ (8 : Int) ∧ (1 : Int) ≤ (1 : Int) ∧ (1 : Int) ≤ (8 : Int) ∧ rI p (0 : Int) (8 : Int) (1 : Int)) ∧
 ∀ (x : Int × Int × Int),
 (0 : Int) ≤ x.2.2 ∧
 x.2.2 ≤ (8 : Int) ∧
 (0 : Int) ≤ x.1 ∧
 x.1 ≤ (8 : Int) ∧ (1 : Int) ≤ x.2.1 ∧ x.2.1 ≤ (8 : Int) ∧ rI p x.2.2 x.1 x.2.1 →
 (decide (x.2.2 < (8 : Int)) = true →
 (IsP p ∧ (0 : Int) ≤ x.2.2 ∧ x.2.2 < (8 : Int)) ∧
 (decide (x.2.1 < zrn p x.2.2) = true →
 inI64 (x.2.2 + (1 : Int)) ∧
 VS.mk []
 [(0, PV.arr (8 : Nat) (BRow.ints .u16 p)), (1, PV.ptr ((1 : Nat) + (32 : Nat)) (0 : Nat)),
 (2, PV.str (ByteArray.mk #[]).data.toList), ((3 : Nat), PV.int .i64 x.2.2),
 ((4 : Nat), PV.int .i64 (zrn p x.2.2)),
 ((5 : Nat), PV.int .i64 (x.2.2 + (1 : Int))), ((6 : Nat), PV.undef), (7, PV.undef),
 (8, PV.undef), ((10 : Nat), PV.undef), ((18 : Nat), PV.undef), (22, PV.undef),
 (27, PV.undef), (43, PV.undef)]
 [((1 : Nat) + (32 : Nat), PV.arr (8 : Nat) (BRow.ints .u16 p))] =
 VS.mk []
 [(0, PV.arr (8 : Nat) (BRow.ints .u16 p)), (1, PV.ptr ((1 : Nat) + (32 : Nat)) (0 : Nat)),
 (2, PV.str (ByteArray.mk #[]).data.toList), ((3 : Nat), PV.int .i64 x.2.2),
 ((4 : Nat), PV.int .i64 (zrn p x.2.2)),
 ((5 : Nat), PV.int .i64 (x.2.2 + (1 : Int))), ((6 : Nat), PV.undef), (7, PV.undef),
 (8, PV.undef), ((10 : Nat), PV.undef), ((18 : Nat), PV.undef), (22, PV.undef),
 (27, PV.undef), (43, PV.undef)]
 [((1 : Nat) + (32 : Nat), PV.arr (8 : Nat) (BRow.ints .u16 p))] ∧
 ((0 : Int) ≤ x.2.2 + (1 : Int) ∧
 x.2.2 + (1 : Int) ≤ (8 : Int) ∧
 (0 : Int) ≤ x.2.2 ∧
 x.2.2 ≤ (8 : Int) ∧
 (1 : Int) ≤ zrn p x.2.2 ∧
 zrn p x.2.2 ≤ (8 : Int) ∧
 rI p (x.2.2 + (1 : Int)) x.2.2
 (zrn p x.2.2)) ∧
 ((8 : Int) - (x.2.2 + (1 : Int))).toNat < ((8 : Int) - x.2.2).toNat) ∧
 (decide (x.2.1 < zrn p x.2.2) = false →
 inI64 (x.2.2 + (1 : Int)) ∧
 VS.mk []
 [(0, PV.arr (8 : Nat) (BRow.ints .u16 p)), (1, PV.ptr ((1 : Nat) + (32 : Nat)) (0 : Nat)),
 (2, PV.str (ByteArray.mk #[]).data.toList), ((3 : Nat), PV.int .i64 x.1),
 ((4 : Nat), PV.int .i64 x.2.1), ((5 : Nat), PV.int .i64 (x.2.2 + (1 : Int))),
 ((6 : Nat), PV.undef), (7, PV.undef), (8, PV.undef), ((10 : Nat), PV.undef),
 ((18 : Nat), PV.undef), (22, PV.undef), (27, PV.undef), (43, PV.undef)]
 [((1 : Nat) + (32 : Nat), PV.arr (8 : Nat) (BRow.ints .u16 p))] =
 VS.mk []
 [(0, PV.arr (8 : Nat) (BRow.ints .u16 p)), (1, PV.ptr ((1 : Nat) + (32 : Nat)) (0 : Nat)),
 (2, PV.str (ByteArray.mk #[]).data.toList), ((3 : Nat), PV.int .i64 x.1),
 ((4 : Nat), PV.int .i64 x.2.1), ((5 : Nat), PV.int .i64 (x.2.2 + (1 : Int))),
 ((6 : Nat), PV.undef), (7, PV.undef), (8, PV.undef), ((10 : Nat), PV.undef),
 ((18 : Nat), PV.undef), (22, PV.undef), (27, PV.undef), (43, PV.undef)]
 [((1 : Nat) + (32 : Nat), PV.arr (8 : Nat) (BRow.ints .u16 p))] ∧
 ((0 : Int) ≤ x.2.2 + (1 : Int) ∧
 x.2.2 + (1 : Int) ≤ (8 : Int) ∧
 (0 : Int) ≤ x.1 ∧
 x.1 ≤ (8 : Int) ∧
 (1 : Int) ≤ x.2.1 ∧
 x.2.1 ≤ (8 : Int) ∧ rI p (x.2.2 + (1 : Int)) x.1 x.2.1) ∧
 ((8 : Int) - (x.2.2 + (1 : Int))).toNat < ((8 : Int) - x.2.2).toNat)) ∧
 (decide (x.2.2 < (8 : Int)) = false →
 VS.mk []
 [(0, PV.arr (8 : Nat) (BRow.ints .u16 p)), (1, PV.ptr ((1 : Nat) + (32 : Nat)) (0 : Nat)),
 (2, PV.str (ByteArray.mk #[]).data.toList), ((3 : Nat), PV.int .i64 x.1),
 ((4 : Nat), PV.int .i64 x.2.1), ((5 : Nat), PV.int .i64 x.2.2), ((6 : Nat), PV.undef),
 (7, PV.str (ByteArray.mk #[]).data.toList), (8, PV.int .i64 (0 : Int)),
 ((10 : Nat), PV.bool (decide (x.2.2 < (8 : Int)))), ((18 : Nat), PV.undef), ((22 : Nat), PV.undef),
 ((27 : Nat), PV.undef), ((43 : Nat), PV.undef)]
 [((1 : Nat) + (32 : Nat), PV.arr (8 : Nat) (BRow.ints .u16 p))] =
 VS.mk []
 [(0, PV.arr (8 : Nat) (BRow.ints .u16 p)), (1, PV.ptr ((1 : Nat) + (32 : Nat)) (0 : Nat)),
 (2, PV.str (ByteArray.mk #[]).data.toList), ((3 : Nat), PV.int .i64 x.1),
 ((4 : Nat), PV.int .i64 x.2.1), ((5 : Nat), PV.int .i64 x.2.2), ((6 : Nat), PV.undef),
 ((7 : Nat), PV.str (ByteArray.mk #[]).data.toList), ((8 : Nat), PV.int .i64 (0 : Int)),
 ((10 : Nat), PV.bool (decide (x.2.2 < (8 : Int)))), ((18 : Nat), PV.undef), ((22 : Nat), PV.undef),
 ((27 : Nat), PV.undef), ((43 : Nat), PV.undef)]
 [((1 : Nat) + (32 : Nat), PV.arr (8 : Nat) (BRow.ints .u16 p))] ∧
 ((0 : Int) ≤ (0 : Int) ∧
 (0 : Int) ≤ (8 : Int) ∧
 lenB (ByteArray.mk #[]).data.toList ≤ (5 : Int) * (0 : Int) ∧
 rJ p x.1 x.2.1 (0 : Int) (ByteArray.mk #[]).data.toList) ∧
 ∀ (x_1 : Bs × Int),
 (0 : Int) ≤ x_1.2 ∧
 x_1.2 ≤ (8 : Int) ∧
 lenB x_1.1 ≤ (5 : Int) * x_1.2 ∧
 rJ p x.1 x.2.1 x_1.2 x_1.1 →
 (decide (x_1.2 < (8 : Int)) = true →
 (decide (x_1.2 = x.1) = true →
 List.length x_1.1 + (ByteArray.mk #[58, 58]).data.toList.length ≤ Go.Vc.maxLen ∧
 inI64 (x_1.2 + x.2.1) ∧
 inI64 (x_1.2 + x.2.1 - (1 : Int)) ∧
 inI64 (x_1.2 + x.2.1 - (1 : Int) + (1 : Int)) ∧
 VS.mk []
 [(0, PV.arr (8 : Nat) (BRow.ints .u16 p)),
 (1, PV.ptr ((1 : Nat) + (32 : Nat)) (0 : Nat)),
 (2, PV.str (ByteArray.mk #[]).data.toList), ((3 : Nat), PV.int .i64 x.1),
 ((4 : Nat), PV.int .i64 x.2.1), ((5 : Nat), PV.int .i64 x.2.2),
 ((6 : Nat), PV.undef),
 ((7 : Nat), PV.str (x_1.1 ++ (ByteArray.mk #[58, 58]).data.toList)),
 ((8 : Nat), PV.int .i64 (x_1.2 + x.2.1 - (1 : Int) + (1 : Int))),
 ((10 : Nat), PV.bool (decide (x.2.2 < (8 : Int)))), ((18 : Nat), PV.undef),
 ((22 : Nat), PV.undef), ((27 : Nat), PV.undef), ((43 : Nat), PV.undef)]
 [((1 : Nat) + (32 : Nat), PV.arr (8 : Nat) (BRow.ints .u16 p))] =
 VS.mk []
 [(0, PV.arr (8 : Nat) (BRow.ints .u16 p)),
 (1, PV.ptr ((1 : Nat) + (32 : Nat)) (0 : Nat)),
 (2, PV.str (ByteArray.mk #[]).data.toList), ((3 : Nat), PV.int .i64 x.1),
 ((4 : Nat), PV.int .i64 x.2.1), ((5 : Nat), PV.int .i64 x.2.2),
 ((6 : Nat), PV.undef),
 ((7 : Nat), PV.str (x_1.1 ++ (ByteArray.mk #[58, 58]).data.toList)),
 ((8 : Nat), PV.int .i64 (x_1.2 + x.2.1 - (1 : Int) + (1 : Int))),
 ((10 : Nat), PV.bool (decide (x.2.2 < (8 : Int)))), ((18 : Nat), PV.undef),
 ((22 : Nat), PV.undef), ((27 : Nat), PV.undef), ((43 : Nat), PV.undef)]
 [((1 : Nat) + (32 : Nat), PV.arr (8 : Nat) (BRow.ints .u16 p))] ∧
 ((0 : Int) ≤ x_1.2 + x.2.1 - (1 : Int) + (1 : Int) ∧
 x_1.2 + x.2.1 - (1 : Int) + (1 : Int) ≤ (8 : Int) ∧
 lenB (x_1.1 ++ (ByteArray.mk #[58, 58]).data.toList) ≤
 (5 : Int) * (x_1.2 + x.2.1 - (1 : Int) + (1 : Int)) ∧
 rJ p x.1 x.2.1 (x_1.2 + x.2.1 - (1 : Int) + (1 : Int))
 (x_1.1 ++ (ByteArray.mk #[58, 58]).data.toList)) ∧
 ((8 : Int) - (x_1.2 + x.2.1 - (1 : Int) + (1 : Int))).toNat < ((8 : Int) - x_1.2).toNat) ∧
 (decide (x_1.2 = x.1) = false →
 ((!decide (x_1.1 = (ByteArray.mk #[]).data.toList)) = true → inI64 (lenZ x_1.1 - (1 : Int))) ∧
 ((!decide (x_1.1 = (ByteArray.mk #[]).data.toList)) = true →
 within (lenZ x_1.1 - (1 : Int)) (lenZ x_1.1)) ∧
 ((bif !decide (x_1.1 = (ByteArray.mk #[]).data.toList) then
 !decide (byteZ x_1.1 (lenZ x_1.1 - (1 : Int)) = (58 : Int))
 else false) =
 true →
 List.length x_1.1 + (ByteArray.mk #[58]).data.toList.length ≤ Go.Vc.maxLen ∧
 within x_1.2 ↑(8 : Nat) ∧
 within x_1.2 ↑(8 : Nat) ∧
 (∃ (dn : Nat),
 (0 : Int) ≤ Go.IntKind.i64.wrap (intZ p x_1.2) ∧
 Go.IntKind.i64.wrap (intZ p x_1.2) < (65536 : Int) ∧
 Go.IntKind.i64.wrap (intZ p x_1.2) < (16 : Int) ^ dn ∧ (0 : Nat) < dn) ∧
 List.length (x_1.1 ++ (ByteArray.mk #[58]).data.toList) +
 (hx4 (Go.IntKind.i64.wrap (intZ p x_1.2)).toNat).length ≤
 Go.Vc.maxLen ∧
 inI64 (x_1.2 + (1 : Int)) ∧
 VS.mk []
 [(0, PV.arr (8 : Nat) (BRow.ints .u16 p)),
 (1, PV.ptr ((1 : Nat) + (32 : Nat)) (0 : Nat)),
 (2, PV.str (ByteArray.mk #[]).data.toList),
 ((3 : Nat), PV.int .i64 x.1), ((4 : Nat), PV.int .i64 x.2.1),
 ((5 : Nat), PV.int .i64 x.2.2), ((6 : Nat), PV.undef),
 ((7 : Nat),
 PV.str
 (x_1.1 ++ (ByteArray.mk #[58]).data.toList ++
 hx4 (Go.IntKind.i64.wrap (intZ p x_1.2)).toNat)),
 ((8 : Nat), PV.int .i64 (x_1.2 + (1 : Int))),
 ((10 : Nat), PV.bool (decide (x.2.2 < (8 : Int)))), ((18 : Nat), PV.undef),
 ((22 : Nat), PV.undef), ((27 : Nat), PV.undef), ((43 : Nat), PV.undef)]
 [((1 : Nat) + (32 : Nat), PV.arr (8 : Nat) (BRow.ints .u16 p))] =
 VS.mk []
 [(0, PV.arr (8 : Nat) (BRow.ints .u16 p)),
 (1, PV.ptr ((1 : Nat) + (32 : Nat)) (0 : Nat)),
 (2, PV.str (ByteArray.mk #[]).data.toList),
 ((3 : Nat), PV.int .i64 x.1), ((4 : Nat), PV.int .i64 x.2.1),
 ((5 : Nat), PV.int .i64 x.2.2), ((6 : Nat), PV.undef),
 ((7 : Nat),
 PV.str
 (x_1.1 ++ (ByteArray.mk #[58]).data.toList ++
 hx4 (Go.IntKind.i64.wrap (intZ p x_1.2)).toNat)),
 ((8 : Nat), PV.int .i64 (x_1.2 + (1 : Int))),
 ((10 : Nat), PV.bool (decide (x.2.2 < (8 : Int)))), ((18 : Nat), PV.undef),
 ((22 : Nat), PV.undef), ((27 : Nat), PV.undef), ((43 : Nat), PV.undef)]
 [((1 : Nat) + (32 : Nat), PV.arr (8 : Nat) (BRow.ints .u16 p))] ∧
 ((0 : Int) ≤ x_1.2 + (1 : Int) ∧
 x_1.2 + (1 : Int) ≤ (8 : Int) ∧
 lenB
 (x_1.1 ++ (ByteArray.mk #[58]).data.toList ++
 hx4 (Go.IntKind.i64.wrap (intZ p x_1.2)).toNat) ≤
 (5 : Int) * (x_1.2 + (1 : Int)) ∧
 rJ p x.1 x.2.1 (x_1.2 + (1 : Int))
 (x_1.1 ++ (ByteArray.mk #[58]).data.toList ++
 hx4 (Go.IntKind.i64.wrap (intZ p x_1.2)).toNat)) ∧
 ((8 : Int) - (x_1.2 + (1 : Int))).toNat < ((8 : Int) - x_1.2).toNat) ∧
 ((bif !decide (x_1.1 = (ByteArray.mk #[]).data.toList) then
 !decide (byteZ x_1.1 (lenZ x_1.1 - (1 : Int)) = (58 : Int))
 else false) =
 false →
 within x_1.2 ↑(8 : Nat) ∧
 within x_1.2 ↑(8 : Nat) ∧
 (∃ (dn : Nat),
 (0 : Int) ≤ Go.IntKind.i64.wrap (intZ p x_1.2) ∧
 Go.IntKind.i64.wrap (intZ p x_1.2) < (65536 : Int) ∧
 Go.IntKind.i64.wrap (intZ p x_1.2) < (16 : Int) ^ dn ∧ (0 : Nat) < dn) ∧
 List.length x_1.1 +
 (hx4 (Go.IntKind.i64.wrap (intZ p x_1.2)).toNat).length ≤
 Go.Vc.maxLen ∧
 inI64 (x_1.2 + (1 : Int)) ∧
 VS.mk []
 [(0, PV.arr (8 : Nat) (BRow.ints .u16 p)),
 (1, PV.ptr ((1 : Nat) + (32 : Nat)) (0 : Nat)),
 (2, PV.str (ByteArray.mk #[]).data.toList), ((3 : Nat), PV.int .i64 x.1),
 ((4 : Nat), PV.int .i64 x.2.1), ((5 : Nat), PV.int .i64 x.2.2),
 ((6 : Nat), PV.undef),
 ((7 : Nat),
 PV.str
 (x_1.1 ++
 hx4 (Go.IntKind.i64.wrap (intZ p x_1.2)).toNat)),
 ((8 : Nat), PV.int .i64 (x_1.2 + (1 : Int))),
 ((10 : Nat), PV.bool (decide (x.2.2 < (8 : Int)))), ((18 : Nat), PV.undef),
 ((22 : Nat), PV.undef), ((27 : Nat), PV.undef), ((43 : Nat), PV.undef)]
 [((1 : Nat) + (32 : Nat), PV.arr (8 : Nat) (BRow.ints .u16 p))] =
 VS.mk []
 [(0, PV.arr (8 : Nat) (BRow.ints .u16 p)),
 (1, PV.ptr ((1 : Nat) + (32 : Nat)) (0 : Nat)),
 (2, PV.str (ByteArray.mk #[]).data.toList), ((3 : Nat), PV.int .i64 x.1),
 ((4 : Nat), PV.int .i64 x.2.1), ((5 : Nat), PV.int .i64 x.2.2),
 ((6 : Nat), PV.undef),
 ((7 : Nat),
 PV.str
 (x_1.1 ++
 hx4 (Go.IntKind.i64.wrap (intZ p x_1.2)).toNat)),
 ((8 : Nat), PV.int .i64 (x_1.2 + (1 : Int))),
 ((10 : Nat), PV.bool (decide (x.2.2 < (8 : Int)))), ((18 : Nat), PV.undef),
 ((22 : Nat), PV.undef), ((27 : Nat), PV.undef), ((43 : Nat), PV.undef)]
 [((1 : Nat) + (32 : Nat), PV.arr (8 : Nat) (BRow.ints .u16 p))] ∧
 ((0 : Int) ≤ x_1.2 + (1 : Int) ∧
 x_1.2 + (1 : Int) ≤ (8 : Int) ∧
 lenB
 (x_1.1 ++
 hx4 (Go.IntKind.i64.wrap (intZ p x_1.2)).toNat) ≤
 (5 : Int) * (x_1.2 + (1 : Int)) ∧
 rJ p x.1 x.2.1 (x_1.2 + (1 : Int))
 (x_1.1 ++
 hx4 (Go.IntKind.i64.wrap (intZ p x_1.2)).toNat)) ∧
 ((8 : Int) - (x_1.2 + (1 : Int))).toNat < ((8 : Int) - x_1.2).toNat))) ∧
 (decide (x_1.2 < (8 : Int)) = false → k (PV.str x_1.1)))) := by kernel_rfl
attribute [local irreducible] Go.Vc.evF
theorem ok_rshow6 (p : List Int) : FuncOk Tryz.prog noT 12 [.arr 8 (.ints .u16 p)] ⟨IsP p, .str (shw p)⟩ := evF_ok (by kernel_rfl) X_rshow6_ok (H := H_rshow6 p) (fuel := 1000) Tryz.func12 (by kernel_rfl) fun hpre => (vc_rshow6 p _).mpr (by
  have hp := hpre
  have h8 := hp.1
  have hmx : Go.Vc.maxLen = 1099511627776 := rfl
  have hlb : ∀ l : Bs, lenB l = (l.length : Int) := fun _ => rfl
  have hzl : (zer p).length = 8 := by unfold zer; rw [List.length_map]; exact hp.1
  refine ⟨by first | rfl | trivial, ⟨by omega, by omega, by omega, by omega, by omega, by omega, rfl⟩, fun x hx => ?_⟩
  obtain ⟨f, m, i⟩ := x
  obtain ⟨a0, a1, a2, a3, a4, a5, a6⟩ := hx
  simp only at a0 a1 a2 a3 a4 a5 a6
  obtain ⟨j, rfl⟩ := Int.eq_ofNat_of_zero_le a0
  refine ⟨fun d => ?_, fun d => ?_⟩
  · have d1 : j < 8 := by have : (j : Int) < 8 := of_decide_eq_true d; omega
    have hz0 : zrn p (j : Int) = (zEnd (zer p) j : Int) - j := by unfold zrn; rw [Int.toNat_natCast]
    have z1 := zEnd_ge (zer p) j
    have z2 := zEnd_le (zer p) j (by omega)
    have e1 : ((j : Int) + 1).toNat = j + 1 := by omega
    unfold rI at a6 ⊢
    rw [Int.toNat_natCast, show 8 - j = (8 - (j + 1)) + 1 by omega, rfm] at a6
    simp only [e1]
    refine ⟨⟨hp, by omega, by omega⟩, fun e => ?_, fun e => ?_⟩
    · have e2 : m < zrn p (j : Int) := of_decide_eq_true e
      rw [← hz0, if_pos e2] at a6
      exact ⟨by unfold inI64; omega, by first | rfl | trivial, ⟨by omega, by omega, by omega, by omega, by omega, by omega, a6⟩, by omega⟩
    · have e2 : ¬ m < zrn p (j : Int) := of_decide_eq_false e
      rw [← hz0, if_neg e2] at a6
      exact ⟨by unfold inI64; omega, by first | rfl | trivial, ⟨by omega, by omega, by omega, by omega, by omega, by omega, a6⟩, by omega⟩
  have d1 : ¬ (j : Int) < 8 := of_decide_eq_false d
  have a7 : (f, m) = rfm (zer p) 8 0 8 1 := by
    unfold rI at a6
    rw [← a6, Int.toNat_natCast, show 8 - j = 0 by omega]; rfl
  have hS := rJ_start p hp
  have hT := rfm_is p h8
  rw [← a7] at hS hT
  simp only at hS hT
  refine ⟨by first | rfl | trivial, ⟨by omega, by omega, by decide, ⟨9, by omega, hS⟩⟩, fun y hy => ?_⟩
  obtain ⟨o, i⟩ := y
  obtain ⟨b0, b1, b2, b3⟩ := hy
  simp only at b0 b1 b2 b3
  obtain ⟨n, hn, hs⟩ := b3
  rw [hlb] at b2
  refine ⟨fun d2 => ?_, fun d2 => ?_⟩
  · have d3 : i < 8 := of_decide_eq_true d2
    have hbd := hp.2 i.toNat
    have hw : IntKind.i64.wrap (intZ p i) = p.getD i.toNat 0 := by
      rw [IntKind.wrap_i64]; show _ = _; unfold intZ; omega
    have hl4 := hx4_len (p.getD i.toNat 0).toNat
    obtain ⟨n, rfl⟩ : ∃ k, n = k + 1 := ⟨n - 1, by omega⟩
    rw [shwR, if_pos d3] at hs
    simp only [hw]
    refine ⟨fun e => ?_, fun e => ?_⟩
    · have e1 : i = f := of_decide_eq_true e
      rw [if_pos e1] at hs
      have hm : 2 ≤ m ∧ f + m ≤ 8 := by omega
      have hen : i + m - 1 + 1 = f + m := by omega
      have hlen : (o ++ (ByteArray.mk #[58, 58]).data.toList).length = o.length + 2 := by rw [List.length_append]; rfl
      have hl2 : (ByteArray.mk #[58, 58]).data.toList.length = 2 := rfl
      simp only [hen, hlb, hlen, hl2]
      exact ⟨by omega, by unfold inI64; omega, by unfold inI64; omega, by unfold inI64; omega, by first | rfl | trivial, ⟨by omega, by omega, by omega, ⟨n, by omega, hs⟩⟩, by omega⟩
    · have e1 : ¬ i = f := of_decide_eq_false e
      rw [if_neg e1] at hs
      have hlz : lenZ o = (o.length : Int) := rfl
      have hE : ∀ g : (!decide (o = (ByteArray.mk #[]).data.toList)) = true, 0 < o.length := fun g => by
        rcases Nat.eq_zero_or_pos o.length with h | h
        · have : o = [] := List.eq_nil_of_length_eq_zero h
          subst this; cases g
        · exact h
      have hd : ∃ dn : Nat, 0 ≤ p.getD i.toNat 0 ∧ p.getD i.toNat 0 < 65536 ∧ p.getD i.toNat 0 < 16 ^ dn ∧ 0 < dn := ⟨4, hbd.1, hbd.2, by have := hbd.2; show _ < (65536 : Int); omega, by decide⟩
      refine ⟨fun g => by have := hE g; unfold inI64; omega, fun g => by have := hE g; exact ⟨by omega, by omega⟩, fun g => ?_, fun g => ?_⟩
      · have g1 : o ≠ [] := by rintro rfl; cases g
        have g2 : o.getLast? ≠ some 58 := fun h => by
          have h2 := (last58 o g1).2 h
          rw [decide_eq_true h2] at g
          cases hq : (!decide (o = (ByteArray.mk #[]).data.toList)) <;> rw [hq] at g <;> cases g
        rw [if_pos ⟨g1, g2⟩] at hs
        have hl1 : (ByteArray.mk #[58]).data.toList.length = 1 := rfl
        simp only [hlb, List.length_append, hl1]
        exact ⟨by omega, ⟨by omega, by omega⟩, ⟨by omega, by omega⟩, hd, by omega, by unfold inI64; omega, by first | rfl | trivial, ⟨by omega, by omega, by omega, ⟨n, by omega, hs⟩⟩, by omega⟩
      · have g2 : ¬ (o ≠ [] ∧ o.getLast? ≠ some 58) := by
          rintro ⟨h1, h2⟩
          have h3 : decide (byteZ o (lenZ o - 1) = 58) = false := decide_eq_false fun h => h2 ((last58 o h1).1 h)
          have h4 : decide (o = (ByteArray.mk #[]).data.toList) = false := decide_eq_false h1
          rw [h3, h4] at g
          cases g
        rw [if_neg g2] at hs
        simp only [hlb, List.length_append]
        exact ⟨⟨by omega, by omega⟩, ⟨by omega, by omega⟩, hd, by omega, by unfold inI64; omega, by first | rfl | trivial, ⟨by omega, by omega, by omega, ⟨n, by omega, hs⟩⟩, by omega⟩
  · have d3 : ¬ i < 8 := of_decide_eq_false d2
    show PV.str _ = PV.str _
    rw [← hs]
    cases n with
    | zero => rfl
    | succ n => rw [shwR, if_neg d3])
def ent_rshow6 : List PV → Option CallR := fun xs => match xs with
  | [.arr 8 (.ints .u16 p)] => some ⟨IsP p, .str (shw p)⟩
  | _ => none
theorem ent_rshow6_ok : ∀ xs c, ent_rshow6 xs = some c → FuncOk Tryz.prog noT 12 xs c := fun xs c h => by
  unfold ent_rshow6 at h
  split at h
  · injection h with h; subst h; exact ok_rshow6 _
  · cases h
end
section
def X_rgshow : Tbl := tblX [(12, ent_rshow6), (13, ent_r8s)]
def H_rgshow (kd : Int) (l : Bs) (n : Int) (p : List Int) : Loops := fun i => none
theorem X_rgshow_ok : XOk Tryz.prog noT X_rgshow := tblX_cons ent_rshow6_ok (tblX_cons ent_r8s_ok (tblX_nil))
theorem vc_rgshow (kd : Int) (l : Bs) (n : Int) (p : List Int) (k : PV → Prop) : evF Tryz.prog X_rgshow noT (H_rgshow kd l n p) 1000 Tryz.f6 [.agg [.int .i64 kd, .str l, .int .u32 n, .arr 8 (.ints .u16 p)]] k = (
  (decide (kd = (4 : Int)) = true →
 (p.length = (8 : Nat) ∧ ∀ (i : Nat), (0 : Int) ≤ p.getD i (0 : Int) ∧ p.getD i (0 : Int) < (65536 : Int)) ∧
 (ByteArray.mk #[91]).data.toList.length + (shw p).length ≤ Go.Vc.maxLen ∧
 List.length ((ByteArray.mk #[91]).data.toList ++ shw p) +
 (ByteArray.mk #[93]).data.toList.length ≤
 Go.Vc.maxLen ∧
 k
 (PV.str
 ((ByteArray.mk #[91]).data.toList ++ shw p ++ (ByteArray.mk #[93]).data.toList))) ∧
 (decide (kd = (4 : Int)) = false →
 (decide (kd = (3 : Int)) = true → ((0 : Int) ≤ n ∧ n < (4294967296 : Int)) ∧ k (PV.str (showL n.toNat))) ∧
 (decide (kd = (3 : Int)) = false →
 (decide (kd = (2 : Int)) = true →
 (decide (kd = (2 : Int)) = true → k (PV.str l)) ∧ (decide (kd = (2 : Int)) = false → k (PV.str (ByteArray.mk #[]).data.toList))) ∧
 (decide (kd = (2 : Int)) = false →
 (decide (kd = (5 : Int)) = true → k (PV.str l)) ∧ (decide (kd = (5 : Int)) = false → k (PV.str (ByteArray.mk #[]).data.toList)))))) := by kernel_rfl
attribute [local irreducible] Go.Vc.evF
theorem ok_rgshow (kd : Int) (l : Bs) (n : Int) (p : List Int) : FuncOk Tryz.prog noT 6 [.agg [.int .i64 kd, .str l, .int .u32 n, .arr 8 (.ints .u16 p)]] ⟨l.length ≤ 1000 ∧ 0 ≤ n ∧ n < 4294967296 ∧ IsP p, .str (hshw kd l n p)⟩ := evF_ok (by kernel_rfl) X_rgshow_ok (H := H_rgshow kd l n p) (fuel := 1000) Tryz.func6 (by kernel_rfl) fun hpre => (vc_rgshow kd l n p _).mpr (by
  obtain ⟨hl, h0, h1, hp⟩ := hpre
  have e91 : (ByteArray.mk #[91]).data.toList = ([91] : Bs) := rfl
  have e93 : (ByteArray.mk #[93]).data.toList = ([93] : Bs) := rfl
  have hs := shw_len p
  have hm : (1000 : Nat) ≤ Go.Vc.maxLen := by decide
  rw [e91, e93]
  refine ⟨fun h => ⟨hp, ?_, ?_, ?_⟩, fun h => ⟨fun h3 => ⟨⟨h0, h1⟩, ?_⟩, fun h3 => ⟨fun h2 => ⟨fun _ => ?_, fun g => absurd (h2.symm.trans g) (by decide)⟩, fun h2 => ⟨fun h5 => ?_, fun h5 => ?_⟩⟩⟩⟩
  · simp only [List.length_cons, List.length_nil]; omega
  · simp only [List.length_append, List.length_cons, List.length_nil]; omega
  · refine congrArg PV.str ?_
    unfold hshw; rw [if_pos (of_decide_eq_true h)]; rfl
  · refine congrArg PV.str ?_
    unfold hshw; rw [if_neg (of_decide_eq_false h), if_pos (of_decide_eq_true h3)]
  · refine congrArg PV.str ?_
    unfold hshw; rw [if_neg (of_decide_eq_false h), if_neg (of_decide_eq_false h3), if_pos (Or.inl (of_decide_eq_true h2))]
  · refine congrArg PV.str ?_
    unfold hshw; rw [if_neg (of_decide_eq_false h), if_neg (of_decide_eq_false h3), if_pos (Or.inr (of_decide_eq_true h5))]
  · refine congrArg PV.str ?_
    unfold hshw; rw [if_neg (of_decide_eq_false h), if_neg (of_decide_eq_false h3), if_neg (fun g => g.elim (of_decide_eq_false h2) (of_decide_eq_false h5))])
def ent_rgshow : List PV → Option CallR := fun xs => match xs with
  | [.agg [.int .i64 kd, .str l, .int .u32 n, .arr 8 (.ints .u16 p)]] => some ⟨l.length ≤ 1000 ∧ 0 ≤ n ∧ n < 4294967296 ∧ IsP p, .str (hshw kd l n p)⟩
  | _ => none
theorem ent_rgshow_ok : ∀ xs c, ent_rgshow xs = some c → FuncOk Tryz.prog noT 6 xs c := fun xs c h => by
  unfold ent_rgshow at h
  split at h
  · injection h with h; subst h; exact ok_rgshow _ _ _ _
  · cases h
end
def body6 (k : PV → Prop) (J1 J2 : Prop) (l : Bs) (C G A : Int) (p : List Int) : Prop :=
  ((0 : Int) ≤ A ∧ A ≤ ↑(List.length l) ∧ List.length l ≤ (1000000 : Nat)) ∧ (decide (A + ↑(hexLen (List.drop A.toNat l)) < lenZ l) = true → within (A + ↑(hexLen (List.drop A.toNat l))) (lenZ l)) ∧ ((bif decide (A + ↑(hexLen (List.drop A.toNat l)) < lenZ l) then decide (byteZ l (A + ↑(hexLen (List.drop A.toNat l))) = (46 : Int)) else false) = true → upto A (lenZ l) (lenZ l) ∧ (dropZ l A).length.le (1000000 : Nat) ∧ ((bif !dotO (dropZ l A) then true else decide ((6 : Int) < C)) = true → k (PV.tup [PV.arr (8 : Nat) (BRow.ints IntKind.u16 (List.replicate (8 : Nat) (0 : Int))), PV.bool false])) ∧ ((bif !dotO (dropZ l A) then true else decide ((6 : Int) < C)) = false → inI64 (C + (1 : Int)) ∧ (0 : Int) ≤ (16 : Int) ∧ within C ↑(8 : Nat) ∧ (within C ↑(8 : Nat) ∧ True) ∧ within (C + (1 : Int)) ↑(8 : Nat) ∧ (within (C + (1 : Int)) ↑(8 : Nat) ∧ True) ∧ inI64 (C + (2 : Int)) ∧ ((bif decide (G < (0 : Int)) then decide (C + (2 : Int) = (8 : Int)) else false) = true → k (PV.tup [PV.arr (8 : Nat) (BRow.ints IntKind.u16 (setZ (setZ p C (IntKind.u16.wrap (shrZ IntKind.u32 (dotV (dropZ l A)) (16 : Int)))) (C + (1 : Int)) (IntKind.u16.wrap (dotV (dropZ l A))))), PV.bool true])) ∧ ((bif decide (G < (0 : Int)) then decide (C + (2 : Int) = (8 : Int)) else false) = false → ((bif decide ((0 : Int) ≤ G) then decide (C + (2 : Int) < (8 : Int)) else false) = true → ((setZ (setZ p C (IntKind.u16.wrap (shrZ IntKind.u32 (dotV (dropZ l A)) (16 : Int)))) (C + (1 : Int)) (IntKind.u16.wrap (dotV (dropZ l A)))).length = (8 : Nat) ∧ (0 : Int) ≤ G ∧ G ≤ C + (2 : Int) ∧ C + (2 : Int) ≤ (7 : Int)) ∧ k (PV.tup [PV.arr (8 : Nat) (BRow.ints IntKind.u16 (spreadM (setZ (setZ p C (IntKind.u16.wrap (shrZ IntKind.u32 (dotV (dropZ l A)) (16 : Int)))) (C + (1 : Int)) (IntKind.u16.wrap (dotV (dropZ l A)))) (C + (2 : Int)).toNat G.toNat)), PV.bool true])) ∧ ((bif decide ((0 : Int) ≤ G) then decide (C + (2 : Int) < (8 : Int)) else false) = false → k (PV.tup [PV.arr (8 : Nat) (BRow.ints IntKind.u16 (List.replicate (8 : Nat) (0 : Int))), PV.bool false]))))) ∧ ((bif decide (A + ↑(hexLen (List.drop A.toNat l)) < lenZ l) then decide (byteZ l (A + ↑(hexLen (List.drop A.toNat l))) = (46 : Int)) else false) = false → ((bif decide (C = (8 : Int)) then true else decide (A + ↑(hexLen (List.drop A.toNat l)) = A)) = false → inI64 (A + (4 : Int))) ∧ ((bif bif decide (C = (8 : Int)) then true else decide (A + ↑(hexLen (List.drop A.toNat l)) = A) then true else decide (A + (4 : Int) < A + ↑(hexLen (List.drop A.toNat l)))) = true → k (PV.tup [PV.arr (8 : Nat) (BRow.ints IntKind.u16 (List.replicate (8 : Nat) (0 : Int))), PV.bool false])) ∧ ((bif bif decide (C = (8 : Int)) then true else decide (A + ↑(hexLen (List.drop A.toNat l)) = A) then true else decide (A + (4 : Int) < A + ↑(hexLen (List.drop A.toNat l)))) = false → upto A (A + ↑(hexLen (List.drop A.toNat l))) (lenZ l) ∧ ((cutZ l A (A + ↑(hexLen (List.drop A.toNat l)))).length ≤ (4 : Nat) ∧ ∀ (i : Nat), i < (cutZ l A (A + ↑(hexLen (List.drop A.toNat l)))).length → (0 : Int) ≤ hexN (byt (cutZ l A (A + ↑(hexLen (List.drop A.toNat l)))) i)) ∧ within C ↑(8 : Nat) ∧ (within C ↑(8 : Nat) ∧ True) ∧ inI64 (C + (1 : Int)) ∧ (decide (A + ↑(hexLen (List.drop A.toNat l)) = lenZ l) = true → ((bif decide (G < (0 : Int)) then decide (C + (1 : Int) = (8 : Int)) else false) = true → k (PV.tup [PV.arr (8 : Nat) (BRow.ints IntKind.u16 (setZ p C (hexW (cutZ l A (A + ↑(hexLen (List.drop A.toNat l))))))), PV.bool true])) ∧ ((bif decide (G < (0 : Int)) then decide (C + (1 : Int) = (8 : Int)) else false) = false → ((bif decide ((0 : Int) ≤ G) then decide (C + (1 : Int) < (8 : Int)) else false) = true → ((setZ p C (hexW (cutZ l A (A + ↑(hexLen (List.drop A.toNat l)))))).length = (8 : Nat) ∧ (0 : Int) ≤ G ∧ G ≤ C + (1 : Int) ∧ C + (1 : Int) ≤ (7 : Int)) ∧ k (PV.tup [PV.arr (8 : Nat) (BRow.ints IntKind.u16 (spreadM (setZ p C (hexW (cutZ l A (A + ↑(hexLen (List.drop A.toNat l)))))) (C + (1 : Int)).toNat G.toNat)), PV.bool true])) ∧ ((bif decide ((0 : Int) ≤ G) then decide (C + (1 : Int) < (8 : Int)) else false) = false → k (PV.tup [PV.arr (8 : Nat) (BRow.ints IntKind.u16 (List.replicate (8 : Nat) (0 : Int))), PV.bool false])))) ∧ (decide (A + ↑(hexLen (List.drop A.toNat l)) = lenZ l) = false → within (A + ↑(hexLen (List.drop A.toNat l))) (lenZ l) ∧ ((!decide (byteZ l (A + ↑(hexLen (List.drop A.toNat l))) = (58 : Int))) = false → inI64 (A + ↑(hexLen (List.drop A.toNat l)) + (1 : Int))) ∧ ((bif !decide (byteZ l (A + ↑(hexLen (List.drop A.toNat l))) = (58 : Int)) then true else decide (A + ↑(hexLen (List.drop A.toNat l)) + (1 : Int) = lenZ l)) = true → k (PV.tup [PV.arr (8 : Nat) (BRow.ints IntKind.u16 (List.replicate (8 : Nat) (0 : Int))), PV.bool false])) ∧ ((bif !decide (byteZ l (A + ↑(hexLen (List.drop A.toNat l))) = (58 : Int)) then true else decide (A + ↑(hexLen (List.drop A.toNat l)) + (1 : Int) = lenZ l)) = false → inI64 (A + ↑(hexLen (List.drop A.toNat l)) + (1 : Int)) ∧ within (A + ↑(hexLen (List.drop A.toNat l)) + (1 : Int)) (lenZ l) ∧ ((!decide (byteZ l (A + ↑(hexLen (List.drop A.toNat l)) + (1 : Int)) = (58 : Int))) = true → J1) ∧ ((!decide (byteZ l (A + ↑(hexLen (List.drop A.toNat l)) + (1 : Int)) = (58 : Int))) = false → (decide ((0 : Int) ≤ G) = true → k (PV.tup [PV.arr (8 : Nat) (BRow.ints IntKind.u16 (List.replicate (8 : Nat) (0 : Int))), PV.bool false])) ∧ (decide ((0 : Int) ≤ G) = false → inI64 (A + ↑(hexLen (List.drop A.toNat l)) + (1 : Int) + (1 : Int)) ∧ (decide (A + ↑(hexLen (List.drop A.toNat l)) + (1 : Int) + (1 : Int) < lenZ l) = true → J2) ∧ (decide (A + ↑(hexLen (List.drop A.toNat l)) + (1 : Int) + (1 : Int) < lenZ l) = false → ((bif decide (C + (1 : Int) < (0 : Int)) then decide (C + (1 : Int) = (8 : Int)) else false) = true → k (PV.tup [PV.arr (8 : Nat) (BRow.ints IntKind.u16 (setZ p C (hexW (cutZ l A (A + ↑(hexLen (List.drop A.toNat l))))))), PV.bool true])) ∧ ((bif decide (C + (1 : Int) < (0 : Int)) then decide (C + (1 : Int) = (8 : Int)) else false) = false → ((bif decide ((0 : Int) ≤ C + (1 : Int)) then decide (C + (1 : Int) < (8 : Int)) else false) = true → ((setZ p C (hexW (cutZ l A (A + ↑(hexLen (List.drop A.toNat l)))))).length = (8 : Nat) ∧ (0 : Int) ≤ C + (1 : Int) ∧ C + (1 : Int) ≤ C + (1 : Int) ∧ C + (1 : Int) ≤ (7 : Int)) ∧ k (PV.tup [PV.arr (8 : Nat) (BRow.ints IntKind.u16 (spreadM (setZ p C (hexW (cutZ l A (A + ↑(hexLen (List.drop A.toNat l)))))) (C + (1 : Int)).toNat (C + (1 : Int)).toNat)), PV.bool true])) ∧ ((bif decide ((0 : Int) ≤ C + (1 : Int)) then decide (C + (1 : Int) < (8 : Int)) else false) = false → k (PV.tup [PV.arr (8 : Nat) (BRow.ints IntKind.u16 (List.replicate (8 : Nat) (0 : Int))), PV.bool false]))))))))))
theorem andB6 (a b : Bool) : (bif a then b else false) = (a && b) := by cases a <;> rfl
theorem orB6 (a b : Bool) : (bif a then true else b) = (a || b) := by cases a <;> rfl
theorem notB6 (a : Bool) : ((!a) = true) = ¬ (a = true) := by cases a <;> simp
theorem falB6 (a : Bool) : (a = false) = ¬ (a = true) := by cases a <;> simp
theorem pad_setZ (acc : List Int) (x : Int) (h : acc.length < 8) : setZ (pad acc) (acc.length : Int) x = pad (acc ++ [x]) := by
  unfold setZ pad
  rw [Int.toNat_natCast, List.set_append_right _ _ (by simp), Nat.sub_self, show 8 - acc.length = (8 - (acc ++ [x]).length) + 1 by simp; omega, List.replicate_succ, List.set_cons_zero, List.append_assoc]
  rfl
theorem byteZ_byt (l : Bs) (e : Nat) : byteZ l (e : Int) = byt l e := by unfold byteZ byt; rw [Int.toNat_natCast]
theorem pad_full (acc : List Int) (h : acc.length = 8) : pad acc = acc := by unfold pad; rw [h]; simp
theorem body6_ok (k : PV → Prop) (J1 J2 : Prop) (l : Bs) (G : Int) (i e : Nat) (acc : List Int) (R : List Int × Bool) (hl : l.length ≤ 1000000) (h8 : acc.length ≤ 8) (g1 : -1 ≤ G) (g2 : G ≤ acc.length) (hi : i ≤ l.length) (he : i + hexLen (l.drop i) = e)
    (hs : six1 l (9 - acc.length) acc G i = R) (hk : k (.tup [.arr 8 (.ints .u16 R.1), .bool R.2]))
    (H1 : ∀ a, a.length = acc.length + 1 → setZ (pad acc) (acc.length : Int) (hexW (cutZ l (i : Int) (e : Int))) = pad a → a.length ≤ 8 → e + 1 ≤ l.length → six1 l (9 - a.length) a G (e + 1) = R → J1)
    (H2 : ∀ a, a.length = acc.length + 1 → setZ (pad acc) (acc.length : Int) (hexW (cutZ l (i : Int) (e : Int))) = pad a → a.length ≤ 8 → e + 2 ≤ l.length → six1 l (9 - a.length) a (acc.length + 1 : Nat) (e + 2) = R → J2) :
    body6 k J1 J2 l acc.length G i (pad acc) := by
  unfold body6
  have hE : (i : Int) + ((hexLen (l.drop i) : Nat) : Int) = (e : Int) := by omega
  have hcut : cutZ l (i : Int) (e : Int) = (l.take e).drop i := by unfold cutZ; rw [Int.toNat_natCast, Int.toNat_natCast]
  have hdr : dropZ l (i : Int) = l.drop i := by unfold dropZ; rw [Int.toNat_natCast]
  have hel : e ≤ l.length := by have := hexLen_le (l.drop i); rw [List.length_drop] at this; omega
  have hb2 : byteZ l ((e : Int) + 1) = byt l (e + 1) := by rw [← byteZ_byt]; push_cast; rfl
  rw [six1_step l acc G i e h8 he] at hs
  have leaf : ∀ (L : List Int) (b : Bool), R = (L, b) → k (.tup [.arr 8 (.ints .u16 L), .bool b]) := fun L b h => by rw [h] at hk; exact hk
  have lw : R = wrong6 → k (.tup [.arr 8 (.ints .u16 (List.replicate 8 0)), .bool false]) := fun h => leaf _ _ h
  simp only [Int.toNat_natCast, hE, hcut, hdr, byteZ_byt, hb2, andB6, orB6, falB6, notB6, Bool.and_eq_true, Bool.or_eq_true, decide_eq_true_eq, lenZ, within, upto, inI64] at H1 H2 ⊢
  have fin : ∀ (a : List Int) (g C' : Int) (P : List Int), a.length ≤ 8 → C' = a.length → P = pad a → g ≤ C' → fin6 a g = R → ((g < 0 ∧ C' = 8 → k (.tup [.arr 8 (.ints .u16 P), .bool true])) ∧ (¬ (g < 0 ∧ C' = 8) → ((0 ≤ g ∧ C' < 8 → (P.length = 8 ∧ 0 ≤ g ∧ g ≤ C' ∧ C' ≤ 7) ∧ k (.tup [.arr 8 (.ints .u16 (spreadM P C'.toNat g.toNat)), .bool true])) ∧ (¬ (0 ≤ g ∧ C' < 8) → k (.tup [.arr 8 (.ints .u16 (List.replicate 8 0)), .bool false]))))) := by
    intro a g C' P ha hC hP hg hf
    subst hC hP
    unfold fin6 at hf
    refine ⟨fun h => ?_, fun h => ⟨fun h2 => ⟨⟨pad_len ha, h2.1, hg, by omega⟩, ?_⟩, fun h2 => lw ?_⟩⟩
    · rw [if_pos ⟨h.1, by omega⟩] at hf
      rw [pad_full a (by omega)]
      exact leaf _ _ hf.symm
    · rw [if_neg (by omega), if_pos ⟨h2.1, by omega⟩] at hf
      rw [Int.toNat_natCast]
      exact leaf _ _ hf.symm
    · rw [if_neg (by omega), if_neg (by omega)] at hf
      exact hf.symm
  refine ⟨⟨by omega, by omega, hl⟩, fun h => ⟨by omega, h⟩, fun h46 => ?_, fun h46 => ?_⟩
  · rw [if_pos ⟨by omega, h46.2⟩] at hs
    unfold bytes6 at hs
    refine ⟨⟨by omega, by omega, by omega⟩, ?_, fun hd => ?_, fun hd => ?_⟩
    · show (l.drop i).length ≤ 1000000
      rw [List.length_drop]; omega
    · rw [if_pos (by rcases hd with hd | hd; exact .inl (by simpa using hd); exact .inr (by omega))] at hs
      exact lw hs.symm
    · have hd1 : dotO (l.drop i) = true := Classical.byContradiction fun h => hd (.inl h)
      have hd2 : acc.length ≤ 6 := by omega
      rw [if_neg (by rw [hd1]; intro h; rcases h with h | h; cases h; omega)] at hs
      obtain ⟨v0, v1⟩ := dotV_bd (l.drop i)
      have e1 : IntKind.u16.wrap (shrZ IntKind.u32 (dotV (l.drop i)) 16) = dotV (l.drop i) / 65536 := by
        have : shrZ IntKind.u32 (dotV (l.drop i)) 16 = dotV (l.drop i) / 65536 := by
          unfold shrZ
          rw [show (2 : Int) ^ min (Int.toNat 16) IntKind.u32.bits = 65536 by decide, Int.fdiv_eq_ediv_of_nonneg _ (by decide)]
        rw [this]
        exact IntWalk.u16_in _ (by omega)
      have e2 : IntKind.u16.wrap (dotV (l.drop i)) = dotV (l.drop i) % 65536 := by
        simp [IntKind.wrap, IntKind.bits, IntKind.signed]
      have e3 : setZ (setZ (pad acc) (acc.length : Int) (dotV (l.drop i) / 65536)) ((acc.length : Int) + 1) (dotV (l.drop i) % 65536) = pad (acc ++ [dotV (l.drop i) / 65536] ++ [dotV (l.drop i) % 65536]) := by
        rw [pad_setZ _ _ (by omega), show (acc.length : Int) + 1 = ((acc ++ [dotV (l.drop i) / 65536]).length : Int) by simp, pad_setZ _ _ (by simp; omega)]
      rw [e1, e2, e3]
      exact ⟨⟨by omega, by omega⟩, by omega, ⟨by omega, by omega⟩, ⟨⟨by omega, by omega⟩, trivial⟩, ⟨by omega, by omega⟩, ⟨⟨by omega, by omega⟩, trivial⟩, ⟨by omega, by omega⟩, fin _ G _ _ (by simp; omega) (by simp) rfl (by omega) hs⟩
  · rw [if_neg (by intro h; exact h46 ⟨by omega, h.2⟩)] at hs
    refine ⟨fun _ => ⟨by omega, by omega⟩, fun h => ?_, fun h => ?_⟩
    · rw [if_pos (by omega)] at hs
      exact lw hs.symm
    · rw [if_neg (by omega)] at hs
      have h7 : acc.length < 8 := by omega
      obtain ⟨d1, d2⟩ := piece_digits l i e he (by omega)
      have hl1 : (acc ++ [hexW ((l.take e).drop i)]).length = acc.length + 1 := by simp
      rw [pad_setZ _ _ h7]
      refine ⟨⟨by omega, by omega, by omega⟩, ⟨d1, d2⟩, ⟨by omega, by omega⟩, ⟨⟨by omega, by omega⟩, trivial⟩, ⟨by omega, by omega⟩, fun hq => ?_, fun hq => ?_⟩
      · rw [if_pos (by omega)] at hs
        exact fin _ G _ _ (by omega) (by rw [hl1]; push_cast; rfl) rfl (by omega) hs
      · rw [if_neg (by omega)] at hs
        refine ⟨⟨by omega, by omega⟩, fun _ => ⟨by omega, by omega⟩, fun h5 => ?_, fun h5 => ?_⟩
        · rw [if_pos (by rcases h5 with h5 | h5; exact .inl h5; exact .inr (by omega))] at hs
          exact lw hs.symm
        · rw [if_neg (by intro h6; exact h5 (by rcases h6 with h6 | h6; exact .inl h6; exact .inr (by omega)))] at hs
          refine ⟨⟨by omega, by omega⟩, ⟨by omega, by omega⟩, fun h9 => ?_, fun h9 => ⟨fun hg => ?_, fun hg => ⟨⟨by omega, by omega⟩, fun hlt => ?_, fun hlt => ?_⟩⟩⟩
          · rw [if_pos h9, ← hl1] at hs
            exact H1 _ hl1 (pad_setZ _ _ h7) (by omega) (by omega) hs
          · rw [if_neg h9, if_pos hg] at hs
            exact lw hs.symm
          · rw [if_neg h9, if_neg hg, if_pos (by omega)] at hs
            exact H2 _ hl1 (pad_setZ _ _ h7) (by omega) (by omega) (by rw [hl1]; exact hs)
          · rw [if_neg h9, if_neg hg, if_neg (by omega)] at hs
            exact fin _ _ _ _ (by omega) (by rw [hl1]; push_cast; rfl) rfl (by omega) hs
section
theorem pre_len {l : Bs} (h : Lib.hasPrefix l [58, 58] = true) : 2 ≤ l.length := by
  match l, h with
  | [], h => cases h
  | [a], h => unfold Lib.hasPrefix at h; simp [List.isPrefixOf] at h
  | _ :: _ :: _, _ => simp
def X_parse6 : Tbl := tblX [(59, ent_behind), (60, ent_number), (61, ent_dotted), (62, ent_spread), (15, ent_prefix)]
def H_parse6 (l : Bs) : Loops := fun i => bif Nat.beq i 1000000 then some ⟨(Int) × (Int) × (Int) × (List Int), (fun s x => VS.mk [] [(0, .str l), (2, .ptr 34 0), (3, .bool false), (4, .ptr 36 0), (5, .int .u32 0), (6, .bool false), (7, .int .i64 x.1), (8, .int .i64 x.2.1), (9, .int .i64 x.2.2.1), (10, .undef), (13, .undef), (17, .undef), (30, .undef), (43, .undef), (56, .undef), (67, .undef), (73, .undef), (75, .undef), (82, .undef), (95, .undef), (113, .undef), (120, .undef)] [(36, .arr 8 (.ints .u16 x.2.2.2)), (34, .arr 8 (.ints .u16 (List.replicate 8 0)))]), (fun s => (s.int 7, s.int 8, s.int 9, VS.ints (VS.mk [] s.lh []) 36)), (fun s x => let c := x.1; let g := x.2.1; let a := x.2.2.1; let p := x.2.2.2; ∃ acc : List Int, c = acc.length ∧ acc.length ≤ 8 ∧ p = pad acc ∧ -1 ≤ g ∧ g ≤ c ∧ 0 ≤ a ∧ a ≤ l.length ∧ six1 l (9 - acc.length) acc g a.toNat = six l), (fun s x => let c := x.1; let g := x.2.1; let a := x.2.2.1; let p := x.2.2.2; (9 - c).toNat), [10, 13, 17, 30, 43, 56, 67, 73, 75, 82]⟩ else none
theorem X_parse6_ok : XOk Tryz.prog noT X_parse6 := tblX_cons ent_behind_ok (tblX_cons ent_number_ok (tblX_cons ent_dotted_ok (tblX_cons ent_spread_ok (tblX_cons ent_prefix_ok (tblX_nil)))))
theorem vc_parse6 (l : Bs) (k : PV → Prop) : evF Tryz.prog X_parse6 noT (H_parse6 l) 1000 Tryz.f35 [.str l] k = (
  True ∧
 ((!preB l (ByteArray.mk #[58, 58]).data.toList) = true →
 VS.mk []
 [(0, PV.str l), (2, PV.ptr ((2 : Nat) + (32 : Nat)) (0 : Nat)), (3, PV.bool false),
 (4, PV.ptr ((4 : Nat) + (32 : Nat)) (0 : Nat)), (5, PV.int .u32 (0 : Int)),
 (6, PV.bool false), (7, PV.int .i64 (0 : Int)), (8, PV.int .i64 (-1 : Int)),
 (9, PV.int .i64 (0 : Int)), ((10 : Nat), PV.undef), ((13 : Nat), PV.undef), ((17 : Nat), PV.undef),
 ((30 : Nat), PV.undef), ((43 : Nat), PV.undef), ((56 : Nat), PV.undef), ((67 : Nat), PV.undef),
 ((73 : Nat), PV.undef), ((75 : Nat), PV.undef), ((82 : Nat), PV.undef), (95, PV.undef),
 (113, PV.undef), (120, PV.undef)]
 [((4 : Nat) + (32 : Nat), PV.arr (8 : Nat) (BRow.ints .u16 (List.replicate (8 : Nat) (0 : Int)))),
 ((2 : Nat) + (32 : Nat), PV.arr (8 : Nat) (BRow.ints .u16 (List.replicate (8 : Nat) (0 : Int))))] =
 VS.mk []
 [((0 : Nat), PV.str l), ((2 : Nat), PV.ptr (34 : Nat) (0 : Nat)), ((3 : Nat), PV.bool false),
 ((4 : Nat), PV.ptr (36 : Nat) (0 : Nat)), ((5 : Nat), PV.int .u32 (0 : Int)), ((6 : Nat), PV.bool false),
 ((7 : Nat), PV.int .i64 (0 : Int)), ((8 : Nat), PV.int .i64 (-1 : Int)),
 ((9 : Nat), PV.int .i64 (0 : Int)), ((10 : Nat), PV.undef), ((13 : Nat), PV.undef), ((17 : Nat), PV.undef),
 ((30 : Nat), PV.undef), ((43 : Nat), PV.undef), ((56 : Nat), PV.undef), ((67 : Nat), PV.undef),
 ((73 : Nat), PV.undef), ((75 : Nat), PV.undef), ((82 : Nat), PV.undef), ((95 : Nat), PV.undef),
 ((113 : Nat), PV.undef), ((120 : Nat), PV.undef)]
 [((36 : Nat), PV.arr (8 : Nat) (BRow.ints .u16 (List.replicate (8 : Nat) (0 : Int)))),
 ((34 : Nat), PV.arr (8 : Nat) (BRow.ints .u16 (List.replicate (8 : Nat) (0 : Int))))] ∧
 (∃ (acc : List Int),
 (0 : Int) = ↑acc.length ∧
 acc.length ≤ (8 : Nat) ∧
 List.replicate (8 : Nat) (0 : Int) = pad acc ∧
 (-1 : Int) ≤ (-1 : Int) ∧
 (-1 : Int) ≤ (0 : Int) ∧
 (0 : Int) ≤ (0 : Int) ∧
 (0 : Int) ≤ ↑(List.length l) ∧
 six1 l ((9 : Nat) - acc.length) acc (-1 : Int) (Int.toNat (0 : Int)) =
 six l) ∧
 ∀ (x : Int × Int × Int × List Int),
 (∃ (acc : List Int),
 x.1 = ↑acc.length ∧
 acc.length ≤ (8 : Nat) ∧
 x.2.2.2 = pad acc ∧
 (-1 : Int) ≤ x.2.1 ∧
 x.2.1 ≤ x.1 ∧
 (0 : Int) ≤ x.2.2.1 ∧
 x.2.2.1 ≤ ↑(List.length l) ∧
 six1 l ((9 : Nat) - acc.length) acc x.2.1 x.2.2.1.toNat =
 six l) →
 ((0 : Int) ≤ x.2.2.1 ∧ x.2.2.1 ≤ ↑(List.length l) ∧ List.length l ≤ (1000000 : Nat)) ∧
 (decide (x.2.2.1 + ↑(hexLen (List.drop x.2.2.1.toNat l)) < lenZ l) = true →
 within (x.2.2.1 + ↑(hexLen (List.drop x.2.2.1.toNat l))) (lenZ l)) ∧
 ((bif decide (x.2.2.1 + ↑(hexLen (List.drop x.2.2.1.toNat l)) < lenZ l) then
 decide (byteZ l (x.2.2.1 + ↑(hexLen (List.drop x.2.2.1.toNat l))) = (46 : Int))
 else false) =
 true →
 upto x.2.2.1 (lenZ l) (lenZ l) ∧
 (dropZ l x.2.2.1).length.le (1000000 : Nat) ∧
 ((bif !dotO (dropZ l x.2.2.1) then true else decide ((6 : Int) < x.1)) = true →
 k
 (PV.tup
 [PV.arr (8 : Nat) (BRow.ints .u16 (List.replicate (8 : Nat) (0 : Int))), PV.bool false])) ∧
 ((bif !dotO (dropZ l x.2.2.1) then true else decide ((6 : Int) < x.1)) = false →
 inI64 (x.1 + (1 : Int)) ∧
 (0 : Int) ≤ (16 : Int) ∧
 within x.1 ↑(8 : Nat) ∧
 (within x.1 ↑(8 : Nat) ∧ True) ∧
 within (x.1 + (1 : Int)) ↑(8 : Nat) ∧
 (within (x.1 + (1 : Int)) ↑(8 : Nat) ∧ True) ∧
 inI64 (x.1 + (2 : Int)) ∧
 ((bif decide (x.2.1 < (0 : Int)) then decide (x.1 + (2 : Int) = (8 : Int)) else false) = true →
 k
 (PV.tup
 [PV.arr (8 : Nat)
 (BRow.ints .u16
 (setZ
 (setZ x.2.2.2 x.1
 (Go.IntKind.u16.wrap
 (shrZ .u32
 (dotV (dropZ l x.2.2.1)) (16 : Int))))
 (x.1 + (1 : Int))
 (Go.IntKind.u16.wrap (dotV (dropZ l x.2.2.1))))),
 PV.bool true])) ∧
 ((bif decide (x.2.1 < (0 : Int)) then decide (x.1 + (2 : Int) = (8 : Int)) else false) = false →
 ((bif decide ((0 : Int) ≤ x.2.1) then decide (x.1 + (2 : Int) < (8 : Int)) else false) = true →
 ((setZ
 (setZ x.2.2.2 x.1
 (Go.IntKind.u16.wrap
 (shrZ .u32
 (dotV (dropZ l x.2.2.1)) (16 : Int))))
 (x.1 + (1 : Int))
 (Go.IntKind.u16.wrap
 (dotV (dropZ l x.2.2.1)))).length =
 (8 : Nat) ∧
 (0 : Int) ≤ x.2.1 ∧ x.2.1 ≤ x.1 + (2 : Int) ∧ x.1 + (2 : Int) ≤ (7 : Int)) ∧
 k
 (PV.tup
 [PV.arr (8 : Nat)
 (BRow.ints .u16
 (spreadM
 (setZ
 (setZ x.2.2.2 x.1
 (Go.IntKind.u16.wrap
 (shrZ .u32
 (dotV (dropZ l x.2.2.1)) (16 : Int))))
 (x.1 + (1 : Int))
 (Go.IntKind.u16.wrap
 (dotV (dropZ l x.2.2.1))))
 (x.1 + (2 : Int)).toNat x.2.1.toNat)),
 PV.bool true])) ∧
 ((bif decide ((0 : Int) ≤ x.2.1) then decide (x.1 + (2 : Int) < (8 : Int)) else false) = false →
 k
 (PV.tup
 [PV.arr (8 : Nat) (BRow.ints .u16 (List.replicate (8 : Nat) (0 : Int))),
 PV.bool false]))))) ∧
 ((bif decide (x.2.2.1 + ↑(hexLen (List.drop x.2.2.1.toNat l)) < lenZ l) then
 decide (byteZ l (x.2.2.1 + ↑(hexLen (List.drop x.2.2.1.toNat l))) = (46 : Int))
 else false) =
 false →
 ((bif decide (x.1 = (8 : Int)) then true
 else decide (x.2.2.1 + ↑(hexLen (List.drop x.2.2.1.toNat l)) = x.2.2.1)) =
 false →
 inI64 (x.2.2.1 + (4 : Int))) ∧
 ((bif
 bif decide (x.1 = (8 : Int)) then true
 else
 decide
 (x.2.2.1 + ↑(hexLen (List.drop x.2.2.1.toNat l)) = x.2.2.1) then
 true
 else
 decide
 (x.2.2.1 + (4 : Int) <
 x.2.2.1 + ↑(hexLen (List.drop x.2.2.1.toNat l)))) =
 true →
 k
 (PV.tup
 [PV.arr (8 : Nat) (BRow.ints .u16 (List.replicate (8 : Nat) (0 : Int))), PV.bool false])) ∧
 ((bif
 bif decide (x.1 = (8 : Int)) then true
 else
 decide
 (x.2.2.1 + ↑(hexLen (List.drop x.2.2.1.toNat l)) = x.2.2.1) then
 true
 else
 decide
 (x.2.2.1 + (4 : Int) <
 x.2.2.1 + ↑(hexLen (List.drop x.2.2.1.toNat l)))) =
 false →
 upto x.2.2.1 (x.2.2.1 + ↑(hexLen (List.drop x.2.2.1.toNat l)))
 (lenZ l) ∧
 ((cutZ l x.2.2.1
 (x.2.2.1 + ↑(hexLen (List.drop x.2.2.1.toNat l)))).length ≤
 (4 : Nat) ∧
 ∀ (i : Nat),
 i <
 (cutZ l x.2.2.1
 (x.2.2.1 + ↑(hexLen (List.drop x.2.2.1.toNat l)))).length →
 (0 : Int) ≤
 hexN
 (byt
 (cutZ l x.2.2.1
 (x.2.2.1 + ↑(hexLen (List.drop x.2.2.1.toNat l))))
 i)) ∧
 within x.1 ↑(8 : Nat) ∧
 (within x.1 ↑(8 : Nat) ∧ True) ∧
 inI64 (x.1 + (1 : Int)) ∧
 (decide (x.2.2.1 + ↑(hexLen (List.drop x.2.2.1.toNat l)) = lenZ l) =
 true →
 ((bif decide (x.2.1 < (0 : Int)) then decide (x.1 + (1 : Int) = (8 : Int)) else false) = true →
 k
 (PV.tup
 [PV.arr (8 : Nat)
 (BRow.ints .u16
 (setZ x.2.2.2 x.1
 (hexW
 (cutZ l x.2.2.1
 (x.2.2.1 +
 ↑(hexLen (List.drop x.2.2.1.toNat l))))))),
 PV.bool true])) ∧
 ((bif decide (x.2.1 < (0 : Int)) then decide (x.1 + (1 : Int) = (8 : Int)) else false) = false →
 ((bif decide ((0 : Int) ≤ x.2.1) then decide (x.1 + (1 : Int) < (8 : Int)) else false) = true →
 ((setZ x.2.2.2 x.1
 (hexW
 (cutZ l x.2.2.1
 (x.2.2.1 +
 ↑(hexLen (List.drop x.2.2.1.toNat l)))))).length =
 (8 : Nat) ∧
 (0 : Int) ≤ x.2.1 ∧ x.2.1 ≤ x.1 + (1 : Int) ∧ x.1 + (1 : Int) ≤ (7 : Int)) ∧
 k
 (PV.tup
 [PV.arr (8 : Nat)
 (BRow.ints .u16
 (spreadM
 (setZ x.2.2.2 x.1
 (hexW
 (cutZ l x.2.2.1
 (x.2.2.1 +
 ↑(hexLen (List.drop x.2.2.1.toNat l))))))
 (x.1 + (1 : Int)).toNat x.2.1.toNat)),
 PV.bool true])) ∧
 ((bif decide ((0 : Int) ≤ x.2.1) then decide (x.1 + (1 : Int) < (8 : Int)) else false) = false →
 k
 (PV.tup
 [PV.arr (8 : Nat) (BRow.ints .u16 (List.replicate (8 : Nat) (0 : Int))),
 PV.bool false])))) ∧
 (decide
 (x.2.2.1 + ↑(hexLen (List.drop x.2.2.1.toNat l)) = lenZ l) =
 false →
 within (x.2.2.1 + ↑(hexLen (List.drop x.2.2.1.toNat l)))
 (lenZ l) ∧
 ((!decide
 (byteZ l
 (x.2.2.1 + ↑(hexLen (List.drop x.2.2.1.toNat l))) =
 (58 : Int))) =
 false →
 inI64
 (x.2.2.1 + ↑(hexLen (List.drop x.2.2.1.toNat l)) +
 (1 : Int))) ∧
 ((bif
 !decide
 (byteZ l
 (x.2.2.1 +
 ↑(hexLen (List.drop x.2.2.1.toNat l))) =
 (58 : Int)) then
 true
 else
 decide
 (x.2.2.1 + ↑(hexLen (List.drop x.2.2.1.toNat l)) +
 (1 : Int) =
 lenZ l)) =
 true →
 k
 (PV.tup
 [PV.arr (8 : Nat) (BRow.ints .u16 (List.replicate (8 : Nat) (0 : Int))),
 PV.bool false])) ∧
 ((bif
 !decide
 (byteZ l
 (x.2.2.1 +
 ↑(hexLen (List.drop x.2.2.1.toNat l))) =
 (58 : Int)) then
 true
 else
 decide
 (x.2.2.1 + ↑(hexLen (List.drop x.2.2.1.toNat l)) +
 (1 : Int) =
 lenZ l)) =
 false →
 inI64
 (x.2.2.1 + ↑(hexLen (List.drop x.2.2.1.toNat l)) +
 (1 : Int)) ∧
 within
 (x.2.2.1 + ↑(hexLen (List.drop x.2.2.1.toNat l)) +
 (1 : Int))
 (lenZ l) ∧
 ((!decide
 (byteZ l
 (x.2.2.1 +
 ↑(hexLen (List.drop x.2.2.1.toNat l)) +
 (1 : Int)) =
 (58 : Int))) =
 true →
 EqS (VS.mk []
 [((0 : Nat), PV.str l), ((2 : Nat), PV.ptr (34 : Nat) (0 : Nat)),
 ((3 : Nat), PV.bool false), ((4 : Nat), PV.ptr (36 : Nat) (0 : Nat)),
 ((5 : Nat), PV.int .u32 (0 : Int)), ((6 : Nat), PV.bool false),
 ((7 : Nat), PV.int .i64 (x.1 + (1 : Int))),
 ((8 : Nat), PV.int .i64 x.2.1),
 ((9 : Nat),
 PV.int .i64
 (x.2.2.1 +
 ↑(hexLen (List.drop x.2.2.1.toNat l)) +
 (1 : Int))),
 ((10 : Nat), PV.undef), ((13 : Nat), PV.undef), ((17 : Nat), PV.undef),
 ((30 : Nat), PV.undef), ((43 : Nat), PV.undef), ((56 : Nat), PV.undef),
 ((67 : Nat), PV.undef), ((73 : Nat), PV.undef), ((75 : Nat), PV.undef),
 ((82 : Nat), PV.undef), ((95 : Nat), PV.undef), ((113 : Nat), PV.undef),
 ((120 : Nat), PV.undef)]
 [((36 : Nat),
 PV.arr (8 : Nat)
 (BRow.ints .u16
 (setZ x.2.2.2 x.1
 (hexW
 (cutZ l x.2.2.1
 (x.2.2.1 +
 ↑(hexLen
 (List.drop x.2.2.1.toNat l)))))))),
 ((34 : Nat),
 PV.arr (8 : Nat)
 (BRow.ints .u16 (List.replicate (8 : Nat) (0 : Int))))]) ∧
 (∃ (acc : List Int),
 x.1 + (1 : Int) = ↑acc.length ∧
 acc.length ≤ (8 : Nat) ∧
 setZ x.2.2.2 x.1
 (hexW
 (cutZ l x.2.2.1
 (x.2.2.1 +
 ↑(hexLen
 (List.drop x.2.2.1.toNat l))))) =
 pad acc ∧
 (-1 : Int) ≤ x.2.1 ∧
 x.2.1 ≤ x.1 + (1 : Int) ∧
 (0 : Int) ≤
 x.2.2.1 +
 ↑(hexLen
 (List.drop x.2.2.1.toNat l)) +
 (1 : Int) ∧
 x.2.2.1 +
 ↑(hexLen
 (List.drop x.2.2.1.toNat l)) +
 (1 : Int) ≤
 ↑(List.length l) ∧
 six1 l ((9 : Nat) - acc.length) acc x.2.1
 (x.2.2.1 +
 ↑(hexLen
 (List.drop x.2.2.1.toNat l)) +
 (1 : Int)).toNat =
 six l) ∧
 ((9 : Int) - (x.1 + (1 : Int))).toNat < ((9 : Int) - x.1).toNat) ∧
 ((!decide
 (byteZ l
 (x.2.2.1 +
 ↑(hexLen (List.drop x.2.2.1.toNat l)) +
 (1 : Int)) =
 (58 : Int))) =
 false →
 (decide ((0 : Int) ≤ x.2.1) = true →
 k
 (PV.tup
 [PV.arr (8 : Nat) (BRow.ints .u16 (List.replicate (8 : Nat) (0 : Int))),
 PV.bool false])) ∧
 (decide ((0 : Int) ≤ x.2.1) = false →
 inI64
 (x.2.2.1 +
 ↑(hexLen (List.drop x.2.2.1.toNat l)) +
 (1 : Int) +
 (1 : Int)) ∧
 (decide
 (x.2.2.1 +
 ↑(hexLen
 (List.drop x.2.2.1.toNat l)) +
 (1 : Int) +
 (1 : Int) <
 lenZ l) =
 true →
 EqS (VS.mk []
 [((0 : Nat), PV.str l), ((2 : Nat), PV.ptr (34 : Nat) (0 : Nat)),
 ((3 : Nat), PV.bool false), ((4 : Nat), PV.ptr (36 : Nat) (0 : Nat)),
 ((5 : Nat), PV.int .u32 (0 : Int)),
 ((6 : Nat), PV.bool false),
 ((7 : Nat), PV.int .i64 (x.1 + (1 : Int))),
 ((8 : Nat), PV.int .i64 (x.1 + (1 : Int))),
 ((9 : Nat),
 PV.int .i64
 (x.2.2.1 +
 ↑(hexLen
 (List.drop x.2.2.1.toNat l)) +
 (1 : Int) +
 (1 : Int))),
 ((10 : Nat), PV.undef), ((13 : Nat), PV.undef),
 ((17 : Nat), PV.undef), ((30 : Nat), PV.undef),
 ((43 : Nat), PV.undef), ((56 : Nat), PV.undef),
 ((67 : Nat), PV.undef), ((73 : Nat), PV.undef),
 ((75 : Nat), PV.undef), ((82 : Nat), PV.undef),
 ((95 : Nat), PV.undef), ((113 : Nat), PV.undef),
 ((120 : Nat), PV.undef)]
 [((36 : Nat),
 PV.arr (8 : Nat)
 (BRow.ints .u16
 (setZ x.2.2.2 x.1
 (hexW
 (cutZ l x.2.2.1
 (x.2.2.1 +
 ↑(hexLen
 (List.drop x.2.2.1.toNat l)))))))),
 ((34 : Nat),
 PV.arr (8 : Nat)
 (BRow.ints .u16 (List.replicate (8 : Nat) (0 : Int))))]) ∧
 (∃ (acc : List Int),
 x.1 + (1 : Int) = ↑acc.length ∧
 acc.length ≤ (8 : Nat) ∧
 setZ x.2.2.2 x.1
 (hexW
 (cutZ l x.2.2.1
 (x.2.2.1 +
 ↑(hexLen
 (List.drop x.2.2.1.toNat l))))) =
 pad acc ∧
 (-1 : Int) ≤ x.1 + (1 : Int) ∧
 x.1 + (1 : Int) ≤ x.1 + (1 : Int) ∧
 (0 : Int) ≤
 x.2.2.1 +
 ↑(hexLen
 (List.drop x.2.2.1.toNat l)) +
 (1 : Int) +
 (1 : Int) ∧
 x.2.2.1 +
 ↑(hexLen
 (List.drop x.2.2.1.toNat l)) +
 (1 : Int) +
 (1 : Int) ≤
 ↑(List.length l) ∧
 six1 l ((9 : Nat) - acc.length) acc
 (x.1 + (1 : Int))
 (x.2.2.1 +
 ↑(hexLen
 (List.drop x.2.2.1.toNat l)) +
 (1 : Int) +
 (1 : Int)).toNat =
 six l) ∧
 ((9 : Int) - (x.1 + (1 : Int))).toNat < ((9 : Int) - x.1).toNat) ∧
 (decide
 (x.2.2.1 +
 ↑(hexLen
 (List.drop x.2.2.1.toNat l)) +
 (1 : Int) +
 (1 : Int) <
 lenZ l) =
 false →
 ((bif decide (x.1 + (1 : Int) < (0 : Int)) then decide (x.1 + (1 : Int) = (8 : Int))
 else false) =
 true →
 k
 (PV.tup
 [PV.arr (8 : Nat)
 (BRow.ints .u16
 (setZ x.2.2.2 x.1
 (hexW
 (cutZ l x.2.2.1
 (x.2.2.1 +
 ↑(hexLen
 (List.drop x.2.2.1.toNat l))))))),
 PV.bool true])) ∧
 ((bif decide (x.1 + (1 : Int) < (0 : Int)) then decide (x.1 + (1 : Int) = (8 : Int))
 else false) =
 false →
 ((bif decide ((0 : Int) ≤ x.1 + (1 : Int)) then decide (x.1 + (1 : Int) < (8 : Int))
 else false) =
 true →
 ((setZ x.2.2.2 x.1
 (hexW
 (cutZ l x.2.2.1
 (x.2.2.1 +
 ↑(hexLen
 (List.drop x.2.2.1.toNat l)))))).length =
 (8 : Nat) ∧
 (0 : Int) ≤ x.1 + (1 : Int) ∧
 x.1 + (1 : Int) ≤ x.1 + (1 : Int) ∧ x.1 + (1 : Int) ≤ (7 : Int)) ∧
 k
 (PV.tup
 [PV.arr (8 : Nat)
 (BRow.ints .u16
 (spreadM
 (setZ x.2.2.2 x.1
 (hexW
 (cutZ l x.2.2.1
 (x.2.2.1 +
 ↑(hexLen
 (List.drop x.2.2.1.toNat l))))))
 (x.1 + (1 : Int)).toNat (x.1 + (1 : Int)).toNat)),
 PV.bool true])) ∧
 ((bif decide ((0 : Int) ≤ x.1 + (1 : Int)) then
 decide (x.1 + (1 : Int) < (8 : Int))
 else false) =
 false →
 k
 (PV.tup
 [PV.arr (8 : Nat)
 (BRow.ints .u16 (List.replicate (8 : Nat) (0 : Int))),
 PV.bool false]))))))))))) ∧
 ((!preB l (ByteArray.mk #[58, 58]).data.toList) = false →
 (decide ((2 : Int) = lenZ l) = true →
 (false = true → k (PV.tup [PV.arr (8 : Nat) (BRow.ints .u16 (List.replicate (8 : Nat) (0 : Int))), PV.bool true])) ∧
 (false = false →
 (decide ((0 : Int) < (8 : Int)) = true →
 ((List.replicate (8 : Nat) (0 : Int)).length = (8 : Nat) ∧ (0 : Int) ≤ (0 : Int) ∧ (0 : Int) ≤ (0 : Int) ∧ (0 : Int) ≤ (7 : Int)) ∧
 k
 (PV.tup
 [PV.arr (8 : Nat)
 (BRow.ints .u16
 (spreadM (List.replicate (8 : Nat) (0 : Int)) (Int.toNat (0 : Int)) (Int.toNat (0 : Int)))),
 PV.bool true])) ∧
 (decide ((0 : Int) < (8 : Int)) = false →
 k (PV.tup [PV.arr (8 : Nat) (BRow.ints .u16 (List.replicate (8 : Nat) (0 : Int))), PV.bool false])))) ∧
 (decide ((2 : Int) = lenZ l) = false →
 ((0 : Int) ≤ (2 : Int) ∧ (2 : Int) ≤ ↑(List.length l) ∧ List.length l ≤ (1000000 : Nat)) ∧
 (decide ((2 : Int) + ↑(hexLen (List.drop (Int.toNat (2 : Int)) l)) < lenZ l) = true →
 within ((2 : Int) + ↑(hexLen (List.drop (Int.toNat (2 : Int)) l))) (lenZ l)) ∧
 ((bif decide ((2 : Int) + ↑(hexLen (List.drop (Int.toNat (2 : Int)) l)) < lenZ l) then
 decide (byteZ l ((2 : Int) + ↑(hexLen (List.drop (Int.toNat (2 : Int)) l))) = (46 : Int))
 else false) =
 true →
 upto (2 : Int) (lenZ l) (lenZ l) ∧
 (dropZ l (2 : Int)).length.le (1000000 : Nat) ∧
 ((bif !dotO (dropZ l (2 : Int)) then true else decide ((6 : Int) < (0 : Int))) = true →
 k
 (PV.tup
 [PV.arr (8 : Nat) (BRow.ints .u16 (List.replicate (8 : Nat) (0 : Int))), PV.bool false])) ∧
 ((bif !dotO (dropZ l (2 : Int)) then true else decide ((6 : Int) < (0 : Int))) = false →
 inI64 ((0 : Int) + (1 : Int)) ∧
 (0 : Int) ≤ (16 : Int) ∧
 within (0 : Int) ↑(8 : Nat) ∧
 (within (0 : Int) ↑(8 : Nat) ∧ True) ∧
 within ((0 : Int) + (1 : Int)) ↑(8 : Nat) ∧
 (within ((0 : Int) + (1 : Int)) ↑(8 : Nat) ∧ True) ∧
 inI64 ((0 : Int) + (2 : Int)) ∧
 (false = true →
 k
 (PV.tup
 [PV.arr (8 : Nat)
 (BRow.ints .u16
 (setZ
 (setZ (List.replicate (8 : Nat) (0 : Int)) (0 : Int)
 (Go.IntKind.u16.wrap
 (shrZ .u32 (dotV (dropZ l (2 : Int)))
 (16 : Int))))
 ((0 : Int) + (1 : Int))
 (Go.IntKind.u16.wrap (dotV (dropZ l (2 : Int)))))),
 PV.bool true])) ∧
 (false = false →
 (decide ((0 : Int) + (2 : Int) < (8 : Int)) = true →
 ((setZ
 (setZ (List.replicate (8 : Nat) (0 : Int)) (0 : Int)
 (Go.IntKind.u16.wrap
 (shrZ .u32 (dotV (dropZ l (2 : Int)))
 (16 : Int))))
 ((0 : Int) + (1 : Int))
 (Go.IntKind.u16.wrap (dotV (dropZ l (2 : Int))))).length =
 (8 : Nat) ∧
 (0 : Int) ≤ (0 : Int) ∧ (0 : Int) ≤ (0 : Int) + (2 : Int) ∧ (0 : Int) + (2 : Int) ≤ (7 : Int)) ∧
 k
 (PV.tup
 [PV.arr (8 : Nat)
 (BRow.ints .u16
 (spreadM
 (setZ
 (setZ (List.replicate (8 : Nat) (0 : Int)) (0 : Int)
 (Go.IntKind.u16.wrap
 (shrZ .u32
 (dotV (dropZ l (2 : Int))) (16 : Int))))
 ((0 : Int) + (1 : Int))
 (Go.IntKind.u16.wrap (dotV (dropZ l (2 : Int)))))
 ((0 : Int) + (2 : Int)).toNat (Int.toNat (0 : Int)))),
 PV.bool true])) ∧
 (decide ((0 : Int) + (2 : Int) < (8 : Int)) = false →
 k
 (PV.tup
 [PV.arr (8 : Nat) (BRow.ints .u16 (List.replicate (8 : Nat) (0 : Int))),
 PV.bool false]))))) ∧
 ((bif decide ((2 : Int) + ↑(hexLen (List.drop (Int.toNat (2 : Int)) l)) < lenZ l) then
 decide (byteZ l ((2 : Int) + ↑(hexLen (List.drop (Int.toNat (2 : Int)) l))) = (46 : Int))
 else false) =
 false →
 (decide ((2 : Int) + ↑(hexLen (List.drop (Int.toNat (2 : Int)) l)) = (2 : Int)) = false →
 inI64 ((2 : Int) + (4 : Int))) ∧
 ((bif decide ((2 : Int) + ↑(hexLen (List.drop (Int.toNat (2 : Int)) l)) = (2 : Int)) then true
 else decide ((2 : Int) + (4 : Int) < (2 : Int) + ↑(hexLen (List.drop (Int.toNat (2 : Int)) l)))) =
 true →
 k (PV.tup [PV.arr (8 : Nat) (BRow.ints .u16 (List.replicate (8 : Nat) (0 : Int))), PV.bool false])) ∧
 ((bif decide ((2 : Int) + ↑(hexLen (List.drop (Int.toNat (2 : Int)) l)) = (2 : Int)) then true
 else decide ((2 : Int) + (4 : Int) < (2 : Int) + ↑(hexLen (List.drop (Int.toNat (2 : Int)) l)))) =
 false →
 upto (2 : Int) ((2 : Int) + ↑(hexLen (List.drop (Int.toNat (2 : Int)) l))) (lenZ l) ∧
 ((cutZ l (2 : Int) ((2 : Int) + ↑(hexLen (List.drop (Int.toNat (2 : Int)) l)))).length ≤
 (4 : Nat) ∧
 ∀ (i : Nat),
 i <
 (cutZ l (2 : Int)
 ((2 : Int) + ↑(hexLen (List.drop (Int.toNat (2 : Int)) l)))).length →
 (0 : Int) ≤
 hexN
 (byt
 (cutZ l (2 : Int) ((2 : Int) + ↑(hexLen (List.drop (Int.toNat (2 : Int)) l))))
 i)) ∧
 within (0 : Int) ↑(8 : Nat) ∧
 (within (0 : Int) ↑(8 : Nat) ∧ True) ∧
 inI64 ((0 : Int) + (1 : Int)) ∧
 (decide ((2 : Int) + ↑(hexLen (List.drop (Int.toNat (2 : Int)) l)) = lenZ l) =
 true →
 (false = true →
 k
 (PV.tup
 [PV.arr (8 : Nat)
 (BRow.ints .u16
 (setZ (List.replicate (8 : Nat) (0 : Int)) (0 : Int)
 (hexW
 (cutZ l (2 : Int)
 ((2 : Int) + ↑(hexLen (List.drop (Int.toNat (2 : Int)) l))))))),
 PV.bool true])) ∧
 (false = false →
 (decide ((0 : Int) + (1 : Int) < (8 : Int)) = true →
 ((setZ (List.replicate (8 : Nat) (0 : Int)) (0 : Int)
 (hexW
 (cutZ l (2 : Int)
 ((2 : Int) +
 ↑(hexLen (List.drop (Int.toNat (2 : Int)) l)))))).length =
 (8 : Nat) ∧
 (0 : Int) ≤ (0 : Int) ∧ (0 : Int) ≤ (0 : Int) + (1 : Int) ∧ (0 : Int) + (1 : Int) ≤ (7 : Int)) ∧
 k
 (PV.tup
 [PV.arr (8 : Nat)
 (BRow.ints .u16
 (spreadM
 (setZ (List.replicate (8 : Nat) (0 : Int)) (0 : Int)
 (hexW
 (cutZ l (2 : Int)
 ((2 : Int) +
 ↑(hexLen (List.drop (Int.toNat (2 : Int)) l))))))
 ((0 : Int) + (1 : Int)).toNat (Int.toNat (0 : Int)))),
 PV.bool true])) ∧
 (decide ((0 : Int) + (1 : Int) < (8 : Int)) = false →
 k
 (PV.tup
 [PV.arr (8 : Nat) (BRow.ints .u16 (List.replicate (8 : Nat) (0 : Int))),
 PV.bool false])))) ∧
 (decide ((2 : Int) + ↑(hexLen (List.drop (Int.toNat (2 : Int)) l)) = lenZ l) =
 false →
 within ((2 : Int) + ↑(hexLen (List.drop (Int.toNat (2 : Int)) l)))
 (lenZ l) ∧
 ((!decide
 (byteZ l
 ((2 : Int) + ↑(hexLen (List.drop (Int.toNat (2 : Int)) l))) =
 (58 : Int))) =
 false →
 inI64
 ((2 : Int) + ↑(hexLen (List.drop (Int.toNat (2 : Int)) l)) + (1 : Int))) ∧
 ((bif
 !decide
 (byteZ l
 ((2 : Int) + ↑(hexLen (List.drop (Int.toNat (2 : Int)) l))) =
 (58 : Int)) then
 true
 else
 decide
 ((2 : Int) + ↑(hexLen (List.drop (Int.toNat (2 : Int)) l)) + (1 : Int) =
 lenZ l)) =
 true →
 k
 (PV.tup
 [PV.arr (8 : Nat) (BRow.ints .u16 (List.replicate (8 : Nat) (0 : Int))),
 PV.bool false])) ∧
 ((bif
 !decide
 (byteZ l
 ((2 : Int) + ↑(hexLen (List.drop (Int.toNat (2 : Int)) l))) =
 (58 : Int)) then
 true
 else
 decide
 ((2 : Int) + ↑(hexLen (List.drop (Int.toNat (2 : Int)) l)) + (1 : Int) =
 lenZ l)) =
 false →
 inI64
 ((2 : Int) + ↑(hexLen (List.drop (Int.toNat (2 : Int)) l)) + (1 : Int)) ∧
 within
 ((2 : Int) + ↑(hexLen (List.drop (Int.toNat (2 : Int)) l)) + (1 : Int))
 (lenZ l) ∧
 ((!decide
 (byteZ l
 ((2 : Int) + ↑(hexLen (List.drop (Int.toNat (2 : Int)) l)) +
 (1 : Int)) =
 (58 : Int))) =
 true →
 VS.mk []
 [(0, PV.str l), (2, PV.ptr ((2 : Nat) + (32 : Nat)) (0 : Nat)),
 (3, PV.bool false), (4, PV.ptr ((4 : Nat) + (32 : Nat)) (0 : Nat)),
 (5, PV.int .u32 (0 : Int)), (6, PV.bool false),
 (7, PV.int .i64 ((0 : Int) + (1 : Int))),
 (8, PV.int .i64 (0 : Int)),
 (9,
 PV.int .i64
 ((2 : Int) +
 ↑(hexLen (List.drop (Int.toNat (2 : Int)) l)) +
 (1 : Int))),
 ((10 : Nat), PV.undef), ((13 : Nat), PV.undef), ((17 : Nat), PV.undef),
 ((30 : Nat), PV.undef), ((43 : Nat), PV.undef), ((56 : Nat), PV.undef),
 ((67 : Nat), PV.undef), ((73 : Nat), PV.undef), ((75 : Nat), PV.undef),
 ((82 : Nat), PV.undef), (95, PV.undef), (113, PV.undef),
 (120, PV.undef)]
 [((4 : Nat) + (32 : Nat),
 PV.arr (8 : Nat)
 (BRow.ints .u16
 (setZ (List.replicate (8 : Nat) (0 : Int)) (0 : Int)
 (hexW
 (cutZ l (2 : Int)
 ((2 : Int) +
 ↑(hexLen
 (List.drop (Int.toNat (2 : Int)) l)))))))),
 ((2 : Nat) + (32 : Nat),
 PV.arr (8 : Nat) (BRow.ints .u16 (List.replicate (8 : Nat) (0 : Int))))] =
 VS.mk []
 [((0 : Nat), PV.str l), ((2 : Nat), PV.ptr (34 : Nat) (0 : Nat)),
 ((3 : Nat), PV.bool false), ((4 : Nat), PV.ptr (36 : Nat) (0 : Nat)),
 ((5 : Nat), PV.int .u32 (0 : Int)), ((6 : Nat), PV.bool false),
 ((7 : Nat), PV.int .i64 ((0 : Int) + (1 : Int))),
 ((8 : Nat), PV.int .i64 (0 : Int)),
 ((9 : Nat),
 PV.int .i64
 ((2 : Int) +
 ↑(hexLen (List.drop (Int.toNat (2 : Int)) l)) +
 (1 : Int))),
 ((10 : Nat), PV.undef), ((13 : Nat), PV.undef), ((17 : Nat), PV.undef),
 ((30 : Nat), PV.undef), ((43 : Nat), PV.undef), ((56 : Nat), PV.undef),
 ((67 : Nat), PV.undef), ((73 : Nat), PV.undef), ((75 : Nat), PV.undef),
 ((82 : Nat), PV.undef), ((95 : Nat), PV.undef), ((113 : Nat), PV.undef),
 ((120 : Nat), PV.undef)]
 [((36 : Nat),
 PV.arr (8 : Nat)
 (BRow.ints .u16
 (setZ (List.replicate (8 : Nat) (0 : Int)) (0 : Int)
 (hexW
 (cutZ l (2 : Int)
 ((2 : Int) +
 ↑(hexLen
 (List.drop (Int.toNat (2 : Int)) l)))))))),
 ((34 : Nat),
 PV.arr (8 : Nat) (BRow.ints .u16 (List.replicate (8 : Nat) (0 : Int))))] ∧
 (∃ (acc : List Int),
 (0 : Int) + (1 : Int) = ↑acc.length ∧
 acc.length ≤ (8 : Nat) ∧
 setZ (List.replicate (8 : Nat) (0 : Int)) (0 : Int)
 (hexW
 (cutZ l (2 : Int)
 ((2 : Int) +
 ↑(hexLen
 (List.drop (Int.toNat (2 : Int)) l))))) =
 pad acc ∧
 (-1 : Int) ≤ (0 : Int) ∧
 (0 : Int) ≤ (0 : Int) + (1 : Int) ∧
 (0 : Int) ≤
 (2 : Int) +
 ↑(hexLen
 (List.drop (Int.toNat (2 : Int)) l)) +
 (1 : Int) ∧
 (2 : Int) +
 ↑(hexLen
 (List.drop (Int.toNat (2 : Int)) l)) +
 (1 : Int) ≤
 ↑(List.length l) ∧
 six1 l ((9 : Nat) - acc.length) acc (0 : Int)
 ((2 : Int) +
 ↑(hexLen
 (List.drop (Int.toNat (2 : Int)) l)) +
 (1 : Int)).toNat =
 six l) ∧
 ∀ (x : Int × Int × Int × List Int),
 (∃ (acc : List Int),
 x.1 = ↑acc.length ∧
 acc.length ≤ (8 : Nat) ∧
 x.2.2.2 = pad acc ∧
 (-1 : Int) ≤ x.2.1 ∧
 x.2.1 ≤ x.1 ∧
 (0 : Int) ≤ x.2.2.1 ∧
 x.2.2.1 ≤ ↑(List.length l) ∧
 six1 l ((9 : Nat) - acc.length) acc x.2.1
 x.2.2.1.toNat =
 six l) →
 ((0 : Int) ≤ x.2.2.1 ∧ x.2.2.1 ≤ ↑(List.length l) ∧ List.length l ≤ (1000000 : Nat)) ∧
 (decide
 (x.2.2.1 +
 ↑(hexLen (List.drop x.2.2.1.toNat l)) <
 lenZ l) =
 true →
 within
 (x.2.2.1 +
 ↑(hexLen (List.drop x.2.2.1.toNat l)))
 (lenZ l)) ∧
 ((bif
 decide
 (x.2.2.1 +
 ↑(hexLen
 (List.drop x.2.2.1.toNat l)) <
 lenZ l) then
 decide
 (byteZ l
 (x.2.2.1 +
 ↑(hexLen
 (List.drop x.2.2.1.toNat l))) =
 (46 : Int))
 else false) =
 true →
 upto x.2.2.1 (lenZ l) (lenZ l) ∧
 (dropZ l x.2.2.1).length.le (1000000 : Nat) ∧
 ((bif !dotO (dropZ l x.2.2.1) then
 true
 else decide ((6 : Int) < x.1)) =
 true →
 k
 (PV.tup
 [PV.arr (8 : Nat)
 (BRow.ints .u16 (List.replicate (8 : Nat) (0 : Int))),
 PV.bool false])) ∧
 ((bif !dotO (dropZ l x.2.2.1) then
 true
 else decide ((6 : Int) < x.1)) =
 false →
 inI64 (x.1 + (1 : Int)) ∧
 (0 : Int) ≤ (16 : Int) ∧
 within x.1 ↑(8 : Nat) ∧
 (within x.1 ↑(8 : Nat) ∧ True) ∧
 within (x.1 + (1 : Int)) ↑(8 : Nat) ∧
 (within (x.1 + (1 : Int)) ↑(8 : Nat) ∧ True) ∧
 inI64 (x.1 + (2 : Int)) ∧
 ((bif decide (x.2.1 < (0 : Int)) then
 decide (x.1 + (2 : Int) = (8 : Int))
 else false) =
 true →
 k
 (PV.tup
 [PV.arr (8 : Nat)
 (BRow.ints .u16
 (setZ
 (setZ x.2.2.2 x.1
 (Go.IntKind.u16.wrap
 (shrZ .u32
 (dotV
 (dropZ l x.2.2.1))
 (16 : Int))))
 (x.1 + (1 : Int))
 (Go.IntKind.u16.wrap
 (dotV
 (dropZ l x.2.2.1))))),
 PV.bool true])) ∧
 ((bif decide (x.2.1 < (0 : Int)) then
 decide (x.1 + (2 : Int) = (8 : Int))
 else false) =
 false →
 ((bif decide ((0 : Int) ≤ x.2.1) then
 decide (x.1 + (2 : Int) < (8 : Int))
 else false) =
 true →
 ((setZ
 (setZ x.2.2.2 x.1
 (Go.IntKind.u16.wrap
 (shrZ .u32
 (dotV
 (dropZ l x.2.2.1))
 (16 : Int))))
 (x.1 + (1 : Int))
 (Go.IntKind.u16.wrap
 (dotV
 (dropZ l x.2.2.1)))).length =
 (8 : Nat) ∧
 (0 : Int) ≤ x.2.1 ∧
 x.2.1 ≤ x.1 + (2 : Int) ∧
 x.1 + (2 : Int) ≤ (7 : Int)) ∧
 k
 (PV.tup
 [PV.arr (8 : Nat)
 (BRow.ints .u16
 (spreadM
 (setZ
 (setZ x.2.2.2 x.1
 (Go.IntKind.u16.wrap
 (shrZ .u32
 (dotV
 (dropZ l x.2.2.1))
 (16 : Int))))
 (x.1 + (1 : Int))
 (Go.IntKind.u16.wrap
 (dotV
 (dropZ l x.2.2.1))))
 (x.1 + (2 : Int)).toNat x.2.1.toNat)),
 PV.bool true])) ∧
 ((bif decide ((0 : Int) ≤ x.2.1) then
 decide (x.1 + (2 : Int) < (8 : Int))
 else false) =
 false →
 k
 (PV.tup
 [PV.arr (8 : Nat)
 (BRow.ints .u16
 (List.replicate (8 : Nat) (0 : Int))),
 PV.bool false]))))) ∧
 ((bif
 decide
 (x.2.2.1 +
 ↑(hexLen
 (List.drop x.2.2.1.toNat l)) <
 lenZ l) then
 decide
 (byteZ l
 (x.2.2.1 +
 ↑(hexLen
 (List.drop x.2.2.1.toNat l))) =
 (46 : Int))
 else false) =
 false →
 ((bif decide (x.1 = (8 : Int)) then true
 else
 decide
 (x.2.2.1 +
 ↑(hexLen
 (List.drop x.2.2.1.toNat l)) =
 x.2.2.1)) =
 false →
 inI64 (x.2.2.1 + (4 : Int))) ∧
 ((bif
 bif decide (x.1 = (8 : Int)) then true
 else
 decide
 (x.2.2.1 +
 ↑(hexLen
 (List.drop x.2.2.1.toNat l)) =
 x.2.2.1) then
 true
 else
 decide
 (x.2.2.1 + (4 : Int) <
 x.2.2.1 +
 ↑(hexLen
 (List.drop x.2.2.1.toNat l)))) =
 true →
 k
 (PV.tup
 [PV.arr (8 : Nat)
 (BRow.ints .u16 (List.replicate (8 : Nat) (0 : Int))),
 PV.bool false])) ∧
 ((bif
 bif decide (x.1 = (8 : Int)) then true
 else
 decide
 (x.2.2.1 +
 ↑(hexLen
 (List.drop x.2.2.1.toNat l)) =
 x.2.2.1) then
 true
 else
 decide
 (x.2.2.1 + (4 : Int) <
 x.2.2.1 +
 ↑(hexLen
 (List.drop x.2.2.1.toNat l)))) =
 false →
 upto x.2.2.1
 (x.2.2.1 +
 ↑(hexLen
 (List.drop x.2.2.1.toNat l)))
 (lenZ l) ∧
 ((cutZ l x.2.2.1
 (x.2.2.1 +
 ↑(hexLen
 (List.drop x.2.2.1.toNat l)))).length ≤
 (4 : Nat) ∧
 ∀ (i : Nat),
 i <
 (cutZ l x.2.2.1
 (x.2.2.1 +
 ↑(hexLen
 (List.drop x.2.2.1.toNat l)))).length →
 (0 : Int) ≤
 hexN
 (byt
 (cutZ l x.2.2.1
 (x.2.2.1 +
 ↑(hexLen
 (List.drop x.2.2.1.toNat l))))
 i)) ∧
 within x.1 ↑(8 : Nat) ∧
 (within x.1 ↑(8 : Nat) ∧ True) ∧
 inI64 (x.1 + (1 : Int)) ∧
 (decide
 (x.2.2.1 +
 ↑(hexLen
 (List.drop x.2.2.1.toNat l)) =
 lenZ l) =
 true →
 ((bif decide (x.2.1 < (0 : Int)) then
 decide (x.1 + (1 : Int) = (8 : Int))
 else false) =
 true →
 k
 (PV.tup
 [PV.arr (8 : Nat)
 (BRow.ints .u16
 (setZ x.2.2.2 x.1
 (hexW
 (cutZ l x.2.2.1
 (x.2.2.1 +
 ↑(hexLen
 (List.drop x.2.2.1.toNat l))))))),
 PV.bool true])) ∧
 ((bif decide (x.2.1 < (0 : Int)) then
 decide (x.1 + (1 : Int) = (8 : Int))
 else false) =
 false →
 ((bif decide ((0 : Int) ≤ x.2.1) then
 decide (x.1 + (1 : Int) < (8 : Int))
 else false) =
 true →
 ((setZ x.2.2.2 x.1
 (hexW
 (cutZ l x.2.2.1
 (x.2.2.1 +
 ↑(hexLen
 (List.drop x.2.2.1.toNat
 l)))))).length =
 (8 : Nat) ∧
 (0 : Int) ≤ x.2.1 ∧
 x.2.1 ≤ x.1 + (1 : Int) ∧
 x.1 + (1 : Int) ≤ (7 : Int)) ∧
 k
 (PV.tup
 [PV.arr (8 : Nat)
 (BRow.ints .u16
 (spreadM
 (setZ x.2.2.2 x.1
 (hexW
 (cutZ l x.2.2.1
 (x.2.2.1 +
 ↑(hexLen
 (List.drop x.2.2.1.toNat
 l))))))
 (x.1 + (1 : Int)).toNat x.2.1.toNat)),
 PV.bool true])) ∧
 ((bif decide ((0 : Int) ≤ x.2.1) then
 decide (x.1 + (1 : Int) < (8 : Int))
 else false) =
 false →
 k
 (PV.tup
 [PV.arr (8 : Nat)
 (BRow.ints .u16
 (List.replicate (8 : Nat) (0 : Int))),
 PV.bool false])))) ∧
 (decide
 (x.2.2.1 +
 ↑(hexLen
 (List.drop x.2.2.1.toNat l)) =
 lenZ l) =
 false →
 within
 (x.2.2.1 +
 ↑(hexLen
 (List.drop x.2.2.1.toNat l)))
 (lenZ l) ∧
 ((!decide
 (byteZ l
 (x.2.2.1 +
 ↑(hexLen
 (List.drop x.2.2.1.toNat l))) =
 (58 : Int))) =
 false →
 inI64
 (x.2.2.1 +
 ↑(hexLen
 (List.drop x.2.2.1.toNat l)) +
 (1 : Int))) ∧
 ((bif
 !decide
 (byteZ l
 (x.2.2.1 +
 ↑(hexLen
 (List.drop x.2.2.1.toNat l))) =
 (58 : Int)) then
 true
 else
 decide
 (x.2.2.1 +
 ↑(hexLen
 (List.drop x.2.2.1.toNat l)) +
 (1 : Int) =
 lenZ l)) =
 true →
 k
 (PV.tup
 [PV.arr (8 : Nat)
 (BRow.ints .u16
 (List.replicate (8 : Nat) (0 : Int))),
 PV.bool false])) ∧
 ((bif
 !decide
 (byteZ l
 (x.2.2.1 +
 ↑(hexLen
 (List.drop x.2.2.1.toNat l))) =
 (58 : Int)) then
 true
 else
 decide
 (x.2.2.1 +
 ↑(hexLen
 (List.drop x.2.2.1.toNat l)) +
 (1 : Int) =
 lenZ l)) =
 false →
 inI64
 (x.2.2.1 +
 ↑(hexLen
 (List.drop x.2.2.1.toNat l)) +
 (1 : Int)) ∧
 within
 (x.2.2.1 +
 ↑(hexLen
 (List.drop x.2.2.1.toNat l)) +
 (1 : Int))
 (lenZ l) ∧
 ((!decide
 (byteZ l
 (x.2.2.1 +
 ↑(hexLen
 (List.drop x.2.2.1.toNat l)) +
 (1 : Int)) =
 (58 : Int))) =
 true →
 EqS (VS.mk []
 [((0 : Nat), PV.str l),
 ((2 : Nat),
 PV.ptr (34 : Nat) (0 : Nat)),
 ((3 : Nat), PV.bool false),
 ((4 : Nat),
 PV.ptr (36 : Nat) (0 : Nat)),
 ((5 : Nat),
 PV.int .u32 (0 : Int)),
 ((6 : Nat), PV.bool false),
 ((7 : Nat),
 PV.int .i64
 (x.1 + (1 : Int))),
 ((8 : Nat),
 PV.int .i64 x.2.1),
 ((9 : Nat),
 PV.int .i64
 (x.2.2.1 +
 ↑(hexLen
 (List.drop x.2.2.1.toNat
 l)) +
 (1 : Int))),
 ((10 : Nat), PV.undef),
 ((13 : Nat), PV.undef),
 ((17 : Nat), PV.undef),
 ((30 : Nat), PV.undef),
 ((43 : Nat), PV.undef),
 ((56 : Nat), PV.undef),
 ((67 : Nat), PV.undef),
 ((73 : Nat), PV.undef),
 ((75 : Nat), PV.undef),
 ((82 : Nat), PV.undef),
 ((95 : Nat), PV.undef),
 ((113 : Nat), PV.undef),
 ((120 : Nat), PV.undef)]
 [((36 : Nat),
 PV.arr (8 : Nat)
 (BRow.ints .u16
 (setZ x.2.2.2 x.1
 (hexW
 (cutZ l x.2.2.1
 (x.2.2.1 +
 ↑(hexLen
 (List.drop
 x.2.2.1.toNat
 l)))))))),
 ((34 : Nat),
 PV.arr (8 : Nat)
 (BRow.ints .u16
 (List.replicate (8 : Nat)
 (0 : Int))))]) ∧
 (∃ (acc : List Int),
 x.1 + (1 : Int) = ↑acc.length ∧
 acc.length ≤ (8 : Nat) ∧
 setZ x.2.2.2 x.1
 (hexW
 (cutZ l x.2.2.1
 (x.2.2.1 +
 ↑(hexLen
 (List.drop
 x.2.2.1.toNat
 l))))) =
 pad
 acc ∧
 (-1 : Int) ≤ x.2.1 ∧
 x.2.1 ≤ x.1 + (1 : Int) ∧
 (0 : Int) ≤
 x.2.2.1 +
 ↑(hexLen
 (List.drop
 x.2.2.1.toNat
 l)) +
 (1 : Int) ∧
 x.2.2.1 +
 ↑(hexLen
 (List.drop
 x.2.2.1.toNat
 l)) +
 (1 : Int) ≤
 ↑(List.length l) ∧
 six1
 l ((9 : Nat) - acc.length) acc
 x.2.1
 (x.2.2.1 +
 ↑(hexLen
 (List.drop
 x.2.2.1.toNat
 l)) +
 (1 : Int)).toNat =
 six
 l) ∧
 ((9 : Int) - (x.1 + (1 : Int))).toNat <
 ((9 : Int) - x.1).toNat) ∧
 ((!decide
 (byteZ l
 (x.2.2.1 +
 ↑(hexLen
 (List.drop x.2.2.1.toNat l)) +
 (1 : Int)) =
 (58 : Int))) =
 false →
 (decide ((0 : Int) ≤ x.2.1) = true →
 k
 (PV.tup
 [PV.arr (8 : Nat)
 (BRow.ints .u16
 (List.replicate (8 : Nat) (0 : Int))),
 PV.bool false])) ∧
 (decide ((0 : Int) ≤ x.2.1) = false →
 inI64
 (x.2.2.1 +
 ↑(hexLen
 (List.drop x.2.2.1.toNat l)) +
 (1 : Int) +
 (1 : Int)) ∧
 (decide
 (x.2.2.1 +
 ↑(hexLen
 (List.drop
 x.2.2.1.toNat l)) +
 (1 : Int) +
 (1 : Int) <
 lenZ l) =
 true →
 EqS (VS.mk []
 [((0 : Nat), PV.str l),
 ((2 : Nat),
 PV.ptr (34 : Nat)
 (0 : Nat)),
 ((3 : Nat), PV.bool false),
 ((4 : Nat),
 PV.ptr (36 : Nat)
 (0 : Nat)),
 ((5 : Nat),
 PV.int .u32
 (0 : Int)),
 ((6 : Nat), PV.bool false),
 ((7 : Nat),
 PV.int .i64
 (x.1 + (1 : Int))),
 ((8 : Nat),
 PV.int .i64
 (x.1 + (1 : Int))),
 ((9 : Nat),
 PV.int .i64
 (x.2.2.1 +
 ↑(hexLen
 (List.drop
 x.2.2.1.toNat
 l)) +
 (1 : Int) +
 (1 : Int))),
 ((10 : Nat), PV.undef),
 ((13 : Nat), PV.undef),
 ((17 : Nat), PV.undef),
 ((30 : Nat), PV.undef),
 ((43 : Nat), PV.undef),
 ((56 : Nat), PV.undef),
 ((67 : Nat), PV.undef),
 ((73 : Nat), PV.undef),
 ((75 : Nat), PV.undef),
 ((82 : Nat), PV.undef),
 ((95 : Nat), PV.undef),
 ((113 : Nat), PV.undef),
 ((120 : Nat), PV.undef)]
 [((36 : Nat),
 PV.arr (8 : Nat)
 (BRow.ints .u16
 (setZ x.2.2.2
 x.1
 (hexW
 (cutZ l
 x.2.2.1
 (x.2.2.1 +
 ↑(hexLen
 (List.drop
 x.2.2.1.toNat
 l)))))))),
 ((34 : Nat),
 PV.arr (8 : Nat)
 (BRow.ints .u16
 (List.replicate (8 : Nat)
 (0 : Int))))]) ∧
 (∃ (acc : List Int),
 x.1 + (1 : Int) = ↑acc.length ∧
 acc.length ≤ (8 : Nat) ∧
 setZ x.2.2.2 x.1
 (hexW
 (cutZ l
 x.2.2.1
 (x.2.2.1 +
 ↑(hexLen
 (List.drop
 x.2.2.1.toNat
 l))))) =
 pad
 acc ∧
 (-1 : Int) ≤ x.1 + (1 : Int) ∧
 x.1 + (1 : Int) ≤
 x.1 + (1 : Int) ∧
 (0 : Int) ≤
 x.2.2.1 +
 ↑(hexLen
 (List.drop
 x.2.2.1.toNat
 l)) +
 (1 : Int) +
 (1 : Int) ∧
 x.2.2.1 +
 ↑(hexLen
 (List.drop
 x.2.2.1.toNat
 l)) +
 (1 : Int) +
 (1 : Int) ≤
 ↑(List.length l) ∧
 six1
 l
 ((9 : Nat) -
 acc.length)
 acc
 (x.1 + (1 : Int))
 (x.2.2.1 +
 ↑(hexLen
 (List.drop
 x.2.2.1.toNat
 l)) +
 (1 : Int) +
 (1 :
 Int)).toNat =
 six
 l) ∧
 ((9 : Int) -
 (x.1 + (1 : Int))).toNat <
 ((9 : Int) - x.1).toNat) ∧
 (decide
 (x.2.2.1 +
 ↑(hexLen
 (List.drop
 x.2.2.1.toNat l)) +
 (1 : Int) +
 (1 : Int) <
 lenZ l) =
 false →
 ((bif
 decide
 (x.1 + (1 : Int) <
 (0 : Int)) then
 decide
 (x.1 + (1 : Int) = (8 : Int))
 else false) =
 true →
 k
 (PV.tup
 [PV.arr (8 : Nat)
 (BRow.ints .u16
 (setZ x.2.2.2
 x.1
 (hexW
 (cutZ l
 x.2.2.1
 (x.2.2.1 +
 ↑(hexLen
 (List.drop
 x.2.2.1.toNat
 l))))))),
 PV.bool true])) ∧
 ((bif
 decide
 (x.1 + (1 : Int) <
 (0 : Int)) then
 decide
 (x.1 + (1 : Int) = (8 : Int))
 else false) =
 false →
 ((bif
 decide
 ((0 : Int) ≤
 x.1 + (1 : Int)) then
 decide
 (x.1 + (1 : Int) <
 (8 : Int))
 else false) =
 true →
 ((setZ x.2.2.2 x.1
 (hexW
 (cutZ l
 x.2.2.1
 (x.2.2.1 +
 ↑(hexLen
 (List.drop
 x.2.2.1.toNat
 l)))))).length =
 (8 : Nat) ∧
 (0 : Int) ≤ x.1 + (1 : Int) ∧
 x.1 + (1 : Int) ≤
 x.1 + (1 : Int) ∧
 x.1 + (1 : Int) ≤
 (7 : Int)) ∧
 k
 (PV.tup
 [PV.arr (8 : Nat)
 (BRow.ints
 .u16
 (spreadM
 (setZ
 x.2.2.2 x.1
 (hexW
 (cutZ l
 x.2.2.1
 (x.2.2.1 +
 ↑(hexLen
 (List.drop
 x.2.2.1.toNat
 l))))))
 (x.1 +
 (1 : Int)).toNat
 (x.1 +
 (1 :
 Int)).toNat)),
 PV.bool true])) ∧
 ((bif
 decide
 ((0 : Int) ≤
 x.1 + (1 : Int)) then
 decide
 (x.1 + (1 : Int) <
 (8 : Int))
 else false) =
 false →
 k
 (PV.tup
 [PV.arr (8 : Nat)
 (BRow.ints
 .u16
 (List.replicate (8 : Nat)
 (0 : Int))),
 PV.bool
 false]))))))))))) ∧
 ((!decide
 (byteZ l
 ((2 : Int) + ↑(hexLen (List.drop (Int.toNat (2 : Int)) l)) +
 (1 : Int)) =
 (58 : Int))) =
 false →
 (decide ((0 : Int) ≤ (0 : Int)) = true →
 k
 (PV.tup
 [PV.arr (8 : Nat) (BRow.ints .u16 (List.replicate (8 : Nat) (0 : Int))),
 PV.bool false])) ∧
 (decide ((0 : Int) ≤ (0 : Int)) = false →
 inI64
 ((2 : Int) + ↑(hexLen (List.drop (Int.toNat (2 : Int)) l)) +
 (1 : Int) +
 (1 : Int)) ∧
 (decide
 ((2 : Int) +
 ↑(hexLen (List.drop (Int.toNat (2 : Int)) l)) +
 (1 : Int) +
 (1 : Int) <
 lenZ l) =
 true →
 VS.mk []
 [(0, PV.str l),
 (2, PV.ptr ((2 : Nat) + (32 : Nat)) (0 : Nat)),
 (3, PV.bool false),
 (4, PV.ptr ((4 : Nat) + (32 : Nat)) (0 : Nat)),
 (5, PV.int .u32 (0 : Int)), (6, PV.bool false),
 (7, PV.int .i64 ((0 : Int) + (1 : Int))),
 (8, PV.int .i64 ((0 : Int) + (1 : Int))),
 (9,
 PV.int .i64
 ((2 : Int) +
 ↑(hexLen
 (List.drop (Int.toNat (2 : Int)) l)) +
 (1 : Int) +
 (1 : Int))),
 ((10 : Nat), PV.undef), ((13 : Nat), PV.undef),
 ((17 : Nat), PV.undef), ((30 : Nat), PV.undef),
 ((43 : Nat), PV.undef), ((56 : Nat), PV.undef),
 ((67 : Nat), PV.undef), ((73 : Nat), PV.undef),
 ((75 : Nat), PV.undef), ((82 : Nat), PV.undef),
 (95, PV.undef), (113, PV.undef),
 (120, PV.undef)]
 [((4 : Nat) + (32 : Nat),
 PV.arr (8 : Nat)
 (BRow.ints .u16
 (setZ (List.replicate (8 : Nat) (0 : Int)) (0 : Int)
 (hexW
 (cutZ l (2 : Int)
 ((2 : Int) +
 ↑(hexLen
 (List.drop (Int.toNat (2 : Int)) l)))))))),
 ((2 : Nat) + (32 : Nat),
 PV.arr (8 : Nat)
 (BRow.ints .u16 (List.replicate (8 : Nat) (0 : Int))))] =
 VS.mk []
 [((0 : Nat), PV.str l), ((2 : Nat), PV.ptr (34 : Nat) (0 : Nat)),
 ((3 : Nat), PV.bool false), ((4 : Nat), PV.ptr (36 : Nat) (0 : Nat)),
 ((5 : Nat), PV.int .u32 (0 : Int)), ((6 : Nat), PV.bool false),
 ((7 : Nat), PV.int .i64 ((0 : Int) + (1 : Int))),
 ((8 : Nat), PV.int .i64 ((0 : Int) + (1 : Int))),
 ((9 : Nat),
 PV.int .i64
 ((2 : Int) +
 ↑(hexLen
 (List.drop (Int.toNat (2 : Int)) l)) +
 (1 : Int) +
 (1 : Int))),
 ((10 : Nat), PV.undef), ((13 : Nat), PV.undef),
 ((17 : Nat), PV.undef), ((30 : Nat), PV.undef),
 ((43 : Nat), PV.undef), ((56 : Nat), PV.undef),
 ((67 : Nat), PV.undef), ((73 : Nat), PV.undef),
 ((75 : Nat), PV.undef), ((82 : Nat), PV.undef),
 ((95 : Nat), PV.undef), ((113 : Nat), PV.undef),
 ((120 : Nat), PV.undef)]
 [((36 : Nat),
 PV.arr (8 : Nat)
 (BRow.ints .u16
 (setZ (List.replicate (8 : Nat) (0 : Int)) (0 : Int)
 (hexW
 (cutZ l (2 : Int)
 ((2 : Int) +
 ↑(hexLen
 (List.drop (Int.toNat (2 : Int)) l)))))))),
 ((34 : Nat),
 PV.arr (8 : Nat)
 (BRow.ints .u16 (List.replicate (8 : Nat) (0 : Int))))] ∧
 (∃ (acc : List Int),
 (0 : Int) + (1 : Int) = ↑acc.length ∧
 acc.length ≤ (8 : Nat) ∧
 setZ (List.replicate (8 : Nat) (0 : Int)) (0 : Int)
 (hexW
 (cutZ l (2 : Int)
 ((2 : Int) +
 ↑(hexLen
 (List.drop (Int.toNat (2 : Int)) l))))) =
 pad acc ∧
 (-1 : Int) ≤ (0 : Int) + (1 : Int) ∧
 (0 : Int) + (1 : Int) ≤ (0 : Int) + (1 : Int) ∧
 (0 : Int) ≤
 (2 : Int) +
 ↑(hexLen
 (List.drop (Int.toNat (2 : Int)) l)) +
 (1 : Int) +
 (1 : Int) ∧
 (2 : Int) +
 ↑(hexLen
 (List.drop (Int.toNat (2 : Int)) l)) +
 (1 : Int) +
 (1 : Int) ≤
 ↑(List.length l) ∧
 six1 l ((9 : Nat) - acc.length) acc
 ((0 : Int) + (1 : Int))
 ((2 : Int) +
 ↑(hexLen
 (List.drop (Int.toNat (2 : Int)) l)) +
 (1 : Int) +
 (1 : Int)).toNat =
 six l) ∧
 ∀ (x : Int × Int × Int × List Int),
 (∃ (acc : List Int),
 x.1 = ↑acc.length ∧
 acc.length ≤ (8 : Nat) ∧
 x.2.2.2 = pad acc ∧
 (-1 : Int) ≤ x.2.1 ∧
 x.2.1 ≤ x.1 ∧
 (0 : Int) ≤ x.2.2.1 ∧
 x.2.2.1 ≤ ↑(List.length l) ∧
 six1 l ((9 : Nat) - acc.length) acc
 x.2.1 x.2.2.1.toNat =
 six l) →
 ((0 : Int) ≤ x.2.2.1 ∧
 x.2.2.1 ≤ ↑(List.length l) ∧ List.length l ≤ (1000000 : Nat)) ∧
 (decide
 (x.2.2.1 +
 ↑(hexLen
 (List.drop x.2.2.1.toNat l)) <
 lenZ l) =
 true →
 within
 (x.2.2.1 +
 ↑(hexLen
 (List.drop x.2.2.1.toNat l)))
 (lenZ l)) ∧
 ((bif
 decide
 (x.2.2.1 +
 ↑(hexLen
 (List.drop x.2.2.1.toNat l)) <
 lenZ l) then
 decide
 (byteZ l
 (x.2.2.1 +
 ↑(hexLen
 (List.drop x.2.2.1.toNat l))) =
 (46 : Int))
 else false) =
 true →
 upto x.2.2.1 (lenZ l) (lenZ l) ∧
 (dropZ l x.2.2.1).length.le (1000000 : Nat) ∧
 ((bif
 !dotO
 (dropZ l x.2.2.1) then
 true
 else decide ((6 : Int) < x.1)) =
 true →
 k
 (PV.tup
 [PV.arr (8 : Nat)
 (BRow.ints .u16
 (List.replicate (8 : Nat) (0 : Int))),
 PV.bool false])) ∧
 ((bif
 !dotO
 (dropZ l x.2.2.1) then
 true
 else decide ((6 : Int) < x.1)) =
 false →
 inI64 (x.1 + (1 : Int)) ∧
 (0 : Int) ≤ (16 : Int) ∧
 within x.1 ↑(8 : Nat) ∧
 (within x.1 ↑(8 : Nat) ∧ True) ∧
 within (x.1 + (1 : Int)) ↑(8 : Nat) ∧
 (within (x.1 + (1 : Int)) ↑(8 : Nat) ∧ True) ∧
 inI64 (x.1 + (2 : Int)) ∧
 ((bif decide (x.2.1 < (0 : Int)) then
 decide (x.1 + (2 : Int) = (8 : Int))
 else false) =
 true →
 k
 (PV.tup
 [PV.arr (8 : Nat)
 (BRow.ints .u16
 (setZ
 (setZ x.2.2.2 x.1
 (Go.IntKind.u16.wrap
 (shrZ .u32
 (dotV
 (dropZ l x.2.2.1))
 (16 : Int))))
 (x.1 + (1 : Int))
 (Go.IntKind.u16.wrap
 (dotV
 (dropZ l x.2.2.1))))),
 PV.bool true])) ∧
 ((bif decide (x.2.1 < (0 : Int)) then
 decide (x.1 + (2 : Int) = (8 : Int))
 else false) =
 false →
 ((bif decide ((0 : Int) ≤ x.2.1) then
 decide (x.1 + (2 : Int) < (8 : Int))
 else false) =
 true →
 ((setZ
 (setZ x.2.2.2 x.1
 (Go.IntKind.u16.wrap
 (shrZ .u32
 (dotV
 (dropZ l x.2.2.1))
 (16 : Int))))
 (x.1 + (1 : Int))
 (Go.IntKind.u16.wrap
 (dotV
 (dropZ l
 x.2.2.1)))).length =
 (8 : Nat) ∧
 (0 : Int) ≤ x.2.1 ∧
 x.2.1 ≤ x.1 + (2 : Int) ∧
 x.1 + (2 : Int) ≤ (7 : Int)) ∧
 k
 (PV.tup
 [PV.arr (8 : Nat)
 (BRow.ints .u16
 (spreadM
 (setZ
 (setZ x.2.2.2 x.1
 (Go.IntKind.u16.wrap
 (shrZ .u32
 (dotV
 (dropZ l
 x.2.2.1))
 (16 : Int))))
 (x.1 + (1 : Int))
 (Go.IntKind.u16.wrap
 (dotV
 (dropZ l
 x.2.2.1))))
 (x.1 + (2 : Int)).toNat
 x.2.1.toNat)),
 PV.bool true])) ∧
 ((bif decide ((0 : Int) ≤ x.2.1) then
 decide (x.1 + (2 : Int) < (8 : Int))
 else false) =
 false →
 k
 (PV.tup
 [PV.arr (8 : Nat)
 (BRow.ints .u16
 (List.replicate (8 : Nat) (0 : Int))),
 PV.bool false]))))) ∧
 ((bif
 decide
 (x.2.2.1 +
 ↑(hexLen
 (List.drop x.2.2.1.toNat l)) <
 lenZ l) then
 decide
 (byteZ l
 (x.2.2.1 +
 ↑(hexLen
 (List.drop x.2.2.1.toNat l))) =
 (46 : Int))
 else false) =
 false →
 ((bif decide (x.1 = (8 : Int)) then true
 else
 decide
 (x.2.2.1 +
 ↑(hexLen
 (List.drop x.2.2.1.toNat l)) =
 x.2.2.1)) =
 false →
 inI64 (x.2.2.1 + (4 : Int))) ∧
 ((bif
 bif decide (x.1 = (8 : Int)) then true
 else
 decide
 (x.2.2.1 +
 ↑(hexLen
 (List.drop x.2.2.1.toNat l)) =
 x.2.2.1) then
 true
 else
 decide
 (x.2.2.1 + (4 : Int) <
 x.2.2.1 +
 ↑(hexLen
 (List.drop x.2.2.1.toNat l)))) =
 true →
 k
 (PV.tup
 [PV.arr (8 : Nat)
 (BRow.ints .u16
 (List.replicate (8 : Nat) (0 : Int))),
 PV.bool false])) ∧
 ((bif
 bif decide (x.1 = (8 : Int)) then true
 else
 decide
 (x.2.2.1 +
 ↑(hexLen
 (List.drop x.2.2.1.toNat l)) =
 x.2.2.1) then
 true
 else
 decide
 (x.2.2.1 + (4 : Int) <
 x.2.2.1 +
 ↑(hexLen
 (List.drop x.2.2.1.toNat l)))) =
 false →
 upto x.2.2.1
 (x.2.2.1 +
 ↑(hexLen
 (List.drop x.2.2.1.toNat l)))
 (lenZ l) ∧
 ((cutZ l x.2.2.1
 (x.2.2.1 +
 ↑(hexLen
 (List.drop x.2.2.1.toNat l)))).length ≤
 (4 : Nat) ∧
 ∀ (i : Nat),
 i <
 (cutZ l x.2.2.1
 (x.2.2.1 +
 ↑(hexLen
 (List.drop x.2.2.1.toNat l)))).length →
 (0 : Int) ≤
 hexN
 (byt
 (cutZ l x.2.2.1
 (x.2.2.1 +
 ↑(hexLen
 (List.drop x.2.2.1.toNat l))))
 i)) ∧
 within x.1 ↑(8 : Nat) ∧
 (within x.1 ↑(8 : Nat) ∧ True) ∧
 inI64 (x.1 + (1 : Int)) ∧
 (decide
 (x.2.2.1 +
 ↑(hexLen
 (List.drop x.2.2.1.toNat l)) =
 lenZ l) =
 true →
 ((bif decide (x.2.1 < (0 : Int)) then
 decide (x.1 + (1 : Int) = (8 : Int))
 else false) =
 true →
 k
 (PV.tup
 [PV.arr (8 : Nat)
 (BRow.ints .u16
 (setZ x.2.2.2 x.1
 (hexW
 (cutZ l x.2.2.1
 (x.2.2.1 +
 ↑(hexLen
 (List.drop x.2.2.1.toNat
 l))))))),
 PV.bool true])) ∧
 ((bif decide (x.2.1 < (0 : Int)) then
 decide (x.1 + (1 : Int) = (8 : Int))
 else false) =
 false →
 ((bif decide ((0 : Int) ≤ x.2.1) then
 decide (x.1 + (1 : Int) < (8 : Int))
 else false) =
 true →
 ((setZ x.2.2.2 x.1
 (hexW
 (cutZ l x.2.2.1
 (x.2.2.1 +
 ↑(hexLen
 (List.drop x.2.2.1.toNat
 l)))))).length =
 (8 : Nat) ∧
 (0 : Int) ≤ x.2.1 ∧
 x.2.1 ≤ x.1 + (1 : Int) ∧
 x.1 + (1 : Int) ≤ (7 : Int)) ∧
 k
 (PV.tup
 [PV.arr (8 : Nat)
 (BRow.ints .u16
 (spreadM
 (setZ x.2.2.2 x.1
 (hexW
 (cutZ l x.2.2.1
 (x.2.2.1 +
 ↑(hexLen
 (List.drop
 x.2.2.1.toNat
 l))))))
 (x.1 + (1 : Int)).toNat
 x.2.1.toNat)),
 PV.bool true])) ∧
 ((bif decide ((0 : Int) ≤ x.2.1) then
 decide (x.1 + (1 : Int) < (8 : Int))
 else false) =
 false →
 k
 (PV.tup
 [PV.arr (8 : Nat)
 (BRow.ints .u16
 (List.replicate (8 : Nat) (0 : Int))),
 PV.bool false])))) ∧
 (decide
 (x.2.2.1 +
 ↑(hexLen
 (List.drop x.2.2.1.toNat l)) =
 lenZ l) =
 false →
 within
 (x.2.2.1 +
 ↑(hexLen
 (List.drop x.2.2.1.toNat l)))
 (lenZ l) ∧
 ((!decide
 (byteZ l
 (x.2.2.1 +
 ↑(hexLen
 (List.drop x.2.2.1.toNat l))) =
 (58 : Int))) =
 false →
 inI64
 (x.2.2.1 +
 ↑(hexLen
 (List.drop x.2.2.1.toNat l)) +
 (1 : Int))) ∧
 ((bif
 !decide
 (byteZ l
 (x.2.2.1 +
 ↑(hexLen
 (List.drop x.2.2.1.toNat
 l))) =
 (58 : Int)) then
 true
 else
 decide
 (x.2.2.1 +
 ↑(hexLen
 (List.drop x.2.2.1.toNat l)) +
 (1 : Int) =
 lenZ l)) =
 true →
 k
 (PV.tup
 [PV.arr (8 : Nat)
 (BRow.ints .u16
 (List.replicate (8 : Nat) (0 : Int))),
 PV.bool false])) ∧
 ((bif
 !decide
 (byteZ l
 (x.2.2.1 +
 ↑(hexLen
 (List.drop x.2.2.1.toNat
 l))) =
 (58 : Int)) then
 true
 else
 decide
 (x.2.2.1 +
 ↑(hexLen
 (List.drop x.2.2.1.toNat l)) +
 (1 : Int) =
 lenZ l)) =
 false →
 inI64
 (x.2.2.1 +
 ↑(hexLen
 (List.drop x.2.2.1.toNat l)) +
 (1 : Int)) ∧
 within
 (x.2.2.1 +
 ↑(hexLen
 (List.drop x.2.2.1.toNat l)) +
 (1 : Int))
 (lenZ l) ∧
 ((!decide
 (byteZ l
 (x.2.2.1 +
 ↑(hexLen
 (List.drop
 x.2.2.1.toNat
 l)) +
 (1 : Int)) =
 (58 : Int))) =
 true →
 EqS (VS.mk []
 [((0 : Nat), PV.str l),
 ((2 : Nat),
 PV.ptr (34 : Nat)
 (0 : Nat)),
 ((3 : Nat), PV.bool false),
 ((4 : Nat),
 PV.ptr (36 : Nat)
 (0 : Nat)),
 ((5 : Nat),
 PV.int .u32
 (0 : Int)),
 ((6 : Nat), PV.bool false),
 ((7 : Nat),
 PV.int .i64
 (x.1 + (1 : Int))),
 ((8 : Nat),
 PV.int .i64
 x.2.1),
 ((9 : Nat),
 PV.int .i64
 (x.2.2.1 +
 ↑(hexLen
 (List.drop
 x.2.2.1.toNat
 l)) +
 (1 : Int))),
 ((10 : Nat), PV.undef),
 ((13 : Nat), PV.undef),
 ((17 : Nat), PV.undef),
 ((30 : Nat), PV.undef),
 ((43 : Nat), PV.undef),
 ((56 : Nat), PV.undef),
 ((67 : Nat), PV.undef),
 ((73 : Nat), PV.undef),
 ((75 : Nat), PV.undef),
 ((82 : Nat), PV.undef),
 ((95 : Nat), PV.undef),
 ((113 : Nat), PV.undef),
 ((120 : Nat), PV.undef)]
 [((36 : Nat),
 PV.arr (8 : Nat)
 (BRow.ints .u16
 (setZ x.2.2.2
 x.1
 (hexW
 (cutZ l
 x.2.2.1
 (x.2.2.1 +
 ↑(hexLen
 (List.drop
 x.2.2.1.toNat
 l)))))))),
 ((34 : Nat),
 PV.arr (8 : Nat)
 (BRow.ints .u16
 (List.replicate (8 : Nat)
 (0 : Int))))]) ∧
 (∃ (acc : List Int),
 x.1 + (1 : Int) = ↑acc.length ∧
 acc.length ≤ (8 : Nat) ∧
 setZ x.2.2.2 x.1
 (hexW
 (cutZ l
 x.2.2.1
 (x.2.2.1 +
 ↑(hexLen
 (List.drop
 x.2.2.1.toNat
 l))))) =
 pad
 acc ∧
 (-1 : Int) ≤ x.2.1 ∧
 x.2.1 ≤
 x.1 + (1 : Int) ∧
 (0 : Int) ≤
 x.2.2.1 +
 ↑(hexLen
 (List.drop
 x.2.2.1.toNat
 l)) +
 (1 : Int) ∧
 x.2.2.1 +
 ↑(hexLen
 (List.drop
 x.2.2.1.toNat
 l)) +
 (1 : Int) ≤
 ↑(List.length l) ∧
 six1
 l
 ((9 : Nat) -
 acc.length)
 acc x.2.1
 (x.2.2.1 +
 ↑(hexLen
 (List.drop
 x.2.2.1.toNat
 l)) +
 (1 :
 Int)).toNat =
 six
 l) ∧
 ((9 : Int) -
 (x.1 + (1 : Int))).toNat <
 ((9 : Int) - x.1).toNat) ∧
 ((!decide
 (byteZ l
 (x.2.2.1 +
 ↑(hexLen
 (List.drop
 x.2.2.1.toNat
 l)) +
 (1 : Int)) =
 (58 : Int))) =
 false →
 (decide ((0 : Int) ≤ x.2.1) = true →
 k
 (PV.tup
 [PV.arr (8 : Nat)
 (BRow.ints .u16
 (List.replicate (8 : Nat)
 (0 : Int))),
 PV.bool false])) ∧
 (decide ((0 : Int) ≤ x.2.1) = false →
 inI64
 (x.2.2.1 +
 ↑(hexLen
 (List.drop
 x.2.2.1.toNat
 l)) +
 (1 : Int) +
 (1 : Int)) ∧
 (decide
 (x.2.2.1 +
 ↑(hexLen
 (List.drop
 x.2.2.1.toNat
 l)) +
 (1 : Int) +
 (1 : Int) <
 lenZ l) =
 true →
 EqS (VS.mk []
 [((0 : Nat),
 PV.str l),
 ((2 : Nat),
 PV.ptr (34 : Nat)
 (0 : Nat)),
 ((3 : Nat),
 PV.bool false),
 ((4 : Nat),
 PV.ptr (36 : Nat)
 (0 : Nat)),
 ((5 : Nat),
 PV.int
 .u32
 (0 : Int)),
 ((6 : Nat),
 PV.bool false),
 ((7 : Nat),
 PV.int
 .i64
 (x.1 + (1 : Int))),
 ((8 : Nat),
 PV.int
 .i64
 (x.1 + (1 : Int))),
 ((9 : Nat),
 PV.int
 .i64
 (x.2.2.1 +
 ↑(hexLen
 (List.drop
 x.2.2.1.toNat
 l)) +
 (1 : Int) +
 (1 : Int))),
 ((10 : Nat),
 PV.undef),
 ((13 : Nat),
 PV.undef),
 ((17 : Nat),
 PV.undef),
 ((30 : Nat),
 PV.undef),
 ((43 : Nat),
 PV.undef),
 ((56 : Nat),
 PV.undef),
 ((67 : Nat),
 PV.undef),
 ((73 : Nat),
 PV.undef),
 ((75 : Nat),
 PV.undef),
 ((82 : Nat),
 PV.undef),
 ((95 : Nat),
 PV.undef),
 ((113 : Nat),
 PV.undef),
 ((120 : Nat),
 PV.undef)]
 [((36 : Nat),
 PV.arr (8 : Nat)
 (BRow.ints
 .u16
 (setZ
 x.2.2.2
 x.1
 (hexW
 (cutZ l
 x.2.2.1
 (x.2.2.1 +
 ↑(hexLen
 (List.drop
 x.2.2.1.toNat
 l)))))))),
 ((34 : Nat),
 PV.arr (8 : Nat)
 (BRow.ints
 .u16
 (List.replicate
 (8 : Nat)
 (0 : Int))))]) ∧
 (∃ (acc : List Int),
 x.1 + (1 : Int) =
 ↑acc.length ∧
 acc.length ≤ (8 : Nat) ∧
 setZ x.2.2.2
 x.1
 (hexW
 (cutZ l
 x.2.2.1
 (x.2.2.1 +
 ↑(hexLen
 (List.drop
 x.2.2.1.toNat
 l))))) =
 pad
 acc ∧
 (-1 : Int) ≤
 x.1 +
 (1 : Int) ∧
 x.1 + (1 : Int) ≤
 x.1 +
 (1 : Int) ∧
 (0 : Int) ≤
 x.2.2.1 +
 ↑(hexLen
 (List.drop
 x.2.2.1.toNat
 l)) +
 (1 :
 Int) +
 (1 : Int) ∧
 x.2.2.1 +
 ↑(hexLen
 (List.drop
 x.2.2.1.toNat
 l)) +
 (1 :
 Int) +
 (1 :
 Int) ≤
 ↑(List.length
 l) ∧
 six1
 l
 ((9 :
 Nat) -
 acc.length)
 acc
 (x.1 +
 (1 :
 Int))
 (x.2.2.1 +
 ↑(hexLen
 (List.drop
 x.2.2.1.toNat
 l)) +
 (1 :
 Int) +
 (1 :
 Int)).toNat =
 six
 l) ∧
 ((9 : Int) -
 (x.1 +
 (1 : Int))).toNat <
 ((9 : Int) - x.1).toNat) ∧
 (decide
 (x.2.2.1 +
 ↑(hexLen
 (List.drop
 x.2.2.1.toNat
 l)) +
 (1 : Int) +
 (1 : Int) <
 lenZ l) =
 false →
 ((bif
 decide
 (x.1 + (1 : Int) <
 (0 : Int)) then
 decide
 (x.1 + (1 : Int) =
 (8 : Int))
 else false) =
 true →
 k
 (PV.tup
 [PV.arr (8 : Nat)
 (BRow.ints
 .u16
 (setZ
 x.2.2.2
 x.1
 (hexW
 (cutZ l
 x.2.2.1
 (x.2.2.1 +
 ↑(hexLen
 (List.drop
 x.2.2.1.toNat
 l))))))),
 PV.bool true])) ∧
 ((bif
 decide
 (x.1 + (1 : Int) <
 (0 : Int)) then
 decide
 (x.1 + (1 : Int) =
 (8 : Int))
 else false) =
 false →
 ((bif
 decide
 ((0 : Int) ≤
 x.1 +
 (1 :
 Int)) then
 decide
 (x.1 + (1 : Int) <
 (8 : Int))
 else false) =
 true →
 ((setZ x.2.2.2
 x.1
 (hexW
 (cutZ l
 x.2.2.1
 (x.2.2.1 +
 ↑(hexLen
 (List.drop
 x.2.2.1.toNat
 l)))))).length =
 (8 : Nat) ∧
 (0 : Int) ≤
 x.1 +
 (1 : Int) ∧
 x.1 + (1 : Int) ≤
 x.1 +
 (1 : Int) ∧
 x.1 +
 (1 : Int) ≤
 (7 : Int)) ∧
 k
 (PV.tup
 [PV.arr
 (8 : Nat)
 (BRow.ints
 .u16
 (spreadM
 (setZ
 x.2.2.2
 x.1
 (hexW
 (cutZ
 l
 x.2.2.1
 (x.2.2.1 +
 ↑(hexLen
 (List.drop
 x.2.2.1.toNat
 l))))))
 (x.1 +
 (1 :
 Int)).toNat
 (x.1 +
 (1 :
 Int)).toNat)),
 PV.bool
 true])) ∧
 ((bif
 decide
 ((0 : Int) ≤
 x.1 +
 (1 :
 Int)) then
 decide
 (x.1 + (1 : Int) <
 (8 : Int))
 else false) =
 false →
 k
 (PV.tup
 [PV.arr
 (8 : Nat)
 (BRow.ints
 .u16
 (List.replicate
 (8 : Nat)
 (0 : Int))),
 PV.bool
 false]))))))))))) ∧
 (decide
 ((2 : Int) +
 ↑(hexLen (List.drop (Int.toNat (2 : Int)) l)) +
 (1 : Int) +
 (1 : Int) <
 lenZ l) =
 false →
 (false = true →
 k
 (PV.tup
 [PV.arr (8 : Nat)
 (BRow.ints .u16
 (setZ (List.replicate (8 : Nat) (0 : Int)) (0 : Int)
 (hexW
 (cutZ l (2 : Int)
 ((2 : Int) +
 ↑(hexLen
 (List.drop (Int.toNat (2 : Int)) l))))))),
 PV.bool true])) ∧
 (false = false →
 (decide ((0 : Int) + (1 : Int) < (8 : Int)) = true →
 ((setZ (List.replicate (8 : Nat) (0 : Int)) (0 : Int)
 (hexW
 (cutZ l (2 : Int)
 ((2 : Int) +
 ↑(hexLen
 (List.drop (Int.toNat (2 : Int)) l)))))).length =
 (8 : Nat) ∧
 (0 : Int) ≤ (0 : Int) + (1 : Int) ∧
 (0 : Int) + (1 : Int) ≤ (0 : Int) + (1 : Int) ∧
 (0 : Int) + (1 : Int) ≤ (7 : Int)) ∧
 k
 (PV.tup
 [PV.arr (8 : Nat)
 (BRow.ints .u16
 (spreadM
 (setZ (List.replicate (8 : Nat) (0 : Int)) (0 : Int)
 (hexW
 (cutZ l (2 : Int)
 ((2 : Int) +
 ↑(hexLen
 (List.drop (Int.toNat (2 : Int)) l))))))
 ((0 : Int) + (1 : Int)).toNat ((0 : Int) + (1 : Int)).toNat)),
 PV.bool true])) ∧
 (decide ((0 : Int) + (1 : Int) < (8 : Int)) = false →
 k
 (PV.tup
 [PV.arr (8 : Nat)
 (BRow.ints .u16 (List.replicate (8 : Nat) (0 : Int))),
 PV.bool false]))))))))))))) := by kernel_rfl
attribute [local irreducible] Go.Vc.evF
theorem ok_parse6 (l : Bs) : FuncOk Tryz.prog noT 35 [.str l] ⟨l.length ≤ 1000000, .tup [.arr 8 (.ints .u16 (six l).1), .bool (six l).2]⟩ := evF_ok (by kernel_rfl) X_parse6_ok (H := H_parse6 l) (fuel := 1000) Tryz.func35 (by kernel_rfl) fun hpre => (vc_parse6 l _).mpr (by
  refine ⟨trivial, fun hp => ⟨rfl, ⟨[], rfl, by decide, rfl, by omega, by omega, by omega, by omega, ?_⟩, fun x hx => ?_⟩, fun hp => ⟨fun h2 => ?_, fun h2 => ?_⟩⟩
  · rw [notB6] at hp
    have hp2 : ¬ Lib.hasPrefix l [58, 58] = true := hp
    show six1 l 9 [] (-1) 0 = six l
    unfold six
    rw [if_neg hp2]
  · obtain ⟨c, g, a, p⟩ := x
    obtain ⟨acc, hC, h8, hp', g1, g2, a0, a1, hs⟩ := hx
    dsimp only at hC hp' g1 g2 a0 a1 hs
    subst hC hp'
    obtain ⟨i, rfl⟩ := Int.eq_ofNat_of_zero_le a0
    rw [Int.toNat_natCast] at hs
    have hE : (i : Int) + ((hexLen (l.drop ((i : Int).toNat)) : Nat) : Int) = ((i + hexLen (l.drop i) : Nat) : Int) := by rw [Int.toNat_natCast]; push_cast; rfl
    refine body6_ok (fun v => v = .tup [.arr 8 (.ints .u16 (six l).1), .bool (six l).2]) _ _ l g i (i + hexLen (l.drop i)) acc (six l) hpre h8 g1 g2 (by omega) rfl hs rfl (fun a h1 h2 h3 h4 h5 => ?_) (fun a h1 h2 h3 h4 h5 => ?_)
    · exact ⟨rfl, ⟨a, by rw [h1]; push_cast; rfl, h3, by rw [hE]; exact h2, g1, by dsimp only; omega, by dsimp only; omega, by dsimp only; rw [hE]; omega, by rw [hE, show ((i + hexLen (l.drop i) : Nat) : Int) + 1 = ((i + hexLen (l.drop i) + 1 : Nat) : Int) by push_cast; rfl, Int.toNat_natCast]; exact h5⟩, by dsimp only; omega⟩
    · exact ⟨rfl, ⟨a, by rw [h1]; push_cast; rfl, h3, by rw [hE]; exact h2, by dsimp only; omega, by dsimp only; omega, by dsimp only; omega, by dsimp only; rw [hE]; omega, by rw [hE, show ((i + hexLen (l.drop i) : Nat) : Int) + 1 + 1 = ((i + hexLen (l.drop i) + 2 : Nat) : Int) by push_cast; omega, Int.toNat_natCast]; exact h5⟩, by dsimp only; omega⟩
  · have hp2 : Lib.hasPrefix l [58, 58] = true := by
      have hp3 : (!Lib.hasPrefix l [58, 58]) = false := hp
      rw [Bool.not_eq_false'] at hp3
      exact hp3
    have h3 : l.length = 2 := by have h4 : (2 : Int) = (l.length : Int) := of_decide_eq_true h2; omega
    have h5 : six l = (spreadM (pad []) 0 0, true) := by unfold six; rw [if_pos hp2, if_pos h3]; rfl
    refine ⟨(fun h => by cases h), fun _ => ⟨fun _ => ⟨⟨rfl, by omega, by omega, by omega⟩, ?_⟩, (fun h => by cases h)⟩⟩
    show PV.tup _ = PV.tup _
    rw [h5]
    rfl
  · have hp2 : Lib.hasPrefix l [58, 58] = true := by
      have hp3 : (!Lib.hasPrefix l [58, 58]) = false := hp
      rw [Bool.not_eq_false'] at hp3
      exact hp3
    have h3 : ¬ l.length = 2 := by have h4 : ¬ (2 : Int) = (l.length : Int) := of_decide_eq_false h2; omega
    have h5 : six1 l 9 [] 0 2 = six l := by unfold six; rw [if_pos hp2, if_neg h3]
    have h6 : 2 ≤ l.length := pre_len hp2
    refine body6_ok (fun v => v = .tup [.arr 8 (.ints .u16 (six l).1), .bool (six l).2]) _ _ l 0 2 (2 + hexLen (l.drop 2)) [] (six l) hpre (by decide) (by omega) (by simp) h6 rfl h5 rfl (fun a h1 h2 h3 h4 h5 => ?_) (fun a h1 h2 h3 h4 h5 => ?_)
    · refine ⟨rfl, ⟨a, by rw [h1]; rfl, h3, h2, by omega, by omega, by omega, by show (2 : Int) + ((hexLen (l.drop 2) : Nat) : Int) + 1 ≤ _; omega, ?_⟩, fun x hx => ?_⟩
      · rw [show ((2 : Int) + ((hexLen (l.drop (Int.toNat 2)) : Nat) : Int) + 1).toNat = 2 + hexLen (l.drop 2) + 1 by show ((2 : Int) + ((hexLen (l.drop 2) : Nat) : Int) + 1).toNat = _; omega]
        exact h5
      · obtain ⟨c, g, a, p⟩ := x
        obtain ⟨acc, hC, h8, hp', g1, g2, a0, a1, hs⟩ := hx
        dsimp only at hC hp' g1 g2 a0 a1 hs
        subst hC hp'
        obtain ⟨i, rfl⟩ := Int.eq_ofNat_of_zero_le a0
        rw [Int.toNat_natCast] at hs
        have hE : (i : Int) + ((hexLen (l.drop ((i : Int).toNat)) : Nat) : Int) = ((i + hexLen (l.drop i) : Nat) : Int) := by rw [Int.toNat_natCast]; push_cast; rfl
        refine body6_ok (fun v => v = .tup [.arr 8 (.ints .u16 (six l).1), .bool (six l).2]) _ _ l g i (i + hexLen (l.drop i)) acc (six l) hpre h8 g1 g2 (by omega) rfl hs rfl (fun a h1 h2 h3 h4 h5 => ?_) (fun a h1 h2 h3 h4 h5 => ?_)
        · exact ⟨rfl, ⟨a, by rw [h1]; push_cast; rfl, h3, by rw [hE]; exact h2, g1, by dsimp only; omega, by dsimp only; omega, by dsimp only; rw [hE]; omega, by rw [hE, show ((i + hexLen (l.drop i) : Nat) : Int) + 1 = ((i + hexLen (l.drop i) + 1 : Nat) : Int) by push_cast; rfl, Int.toNat_natCast]; exact h5⟩, by dsimp only; omega⟩
        · exact ⟨rfl, ⟨a, by rw [h1]; push_cast; rfl, h3, by rw [hE]; exact h2, by dsimp only; omega, by dsimp only; omega, by dsimp only; omega, by dsimp only; rw [hE]; omega, by rw [hE, show ((i + hexLen (l.drop i) : Nat) : Int) + 1 + 1 = ((i + hexLen (l.drop i) + 2 : Nat) : Int) by push_cast; omega, Int.toNat_natCast]; exact h5⟩, by dsimp only; omega⟩
    · refine ⟨rfl, ⟨a, by rw [h1]; rfl, h3, h2, by omega, by omega, by omega, by show (2 : Int) + ((hexLen (l.drop 2) : Nat) : Int) + 1 + 1 ≤ _; omega, ?_⟩, fun x hx => ?_⟩
      · rw [show ((2 : Int) + ((hexLen (l.drop (Int.toNat 2)) : Nat) : Int) + 1 + 1).toNat = 2 + hexLen (l.drop 2) + 2 by show ((2 : Int) + ((hexLen (l.drop 2) : Nat) : Int) + 1 + 1).toNat = _; omega]
        exact h5
      · obtain ⟨c, g, a, p⟩ := x
        obtain ⟨acc, hC, h8, hp', g1, g2, a0, a1, hs⟩ := hx
        dsimp only at hC hp' g1 g2 a0 a1 hs
        subst hC hp'
        obtain ⟨i, rfl⟩ := Int.eq_ofNat_of_zero_le a0
        rw [Int.toNat_natCast] at hs
        have hE : (i : Int) + ((hexLen (l.drop ((i : Int).toNat)) : Nat) : Int) = ((i + hexLen (l.drop i) : Nat) : Int) := by rw [Int.toNat_natCast]; push_cast; rfl
        refine body6_ok (fun v => v = .tup [.arr 8 (.ints .u16 (six l).1), .bool (six l).2]) _ _ l g i (i + hexLen (l.drop i)) acc (six l) hpre h8 g1 g2 (by omega) rfl hs rfl (fun a h1 h2 h3 h4 h5 => ?_) (fun a h1 h2 h3 h4 h5 => ?_)
        · exact ⟨rfl, ⟨a, by rw [h1]; push_cast; rfl, h3, by rw [hE]; exact h2, g1, by dsimp only; omega, by dsimp only; omega, by dsimp only; rw [hE]; omega, by rw [hE, show ((i + hexLen (l.drop i) : Nat) : Int) + 1 = ((i + hexLen (l.drop i) + 1 : Nat) : Int) by push_cast; rfl, Int.toNat_natCast]; exact h5⟩, by dsimp only; omega⟩
        · exact ⟨rfl, ⟨a, by rw [h1]; push_cast; rfl, h3, by rw [hE]; exact h2, by dsimp only; omega, by dsimp only; omega, by dsimp only; omega, by dsimp only; rw [hE]; omega, by rw [hE, show ((i + hexLen (l.drop i) : Nat) : Int) + 1 + 1 = ((i + hexLen (l.drop i) + 2 : Nat) : Int) by push_cast; omega, Int.toNat_natCast]; exact h5⟩, by dsimp only; omega⟩)
def ent_parse6 : List PV → Option CallR := fun xs => match xs with
  | [.str l] => some ⟨l.length ≤ 1000000, .tup [.arr 8 (.ints .u16 (six l).1), .bool (six l).2]⟩
  | _ => none
theorem ent_parse6_ok : ∀ xs c, ent_parse6 xs = some c → FuncOk Tryz.prog noT 35 xs c := fun xs c h => by
  unfold ent_parse6 at h
  split at h
  · injection h with h; subst h; exact ok_parse6 _
  · cases h
end
section
def X_digit : Tbl := tblX []
def H_digit (z : Int) : Loops := fun i => none
theorem X_digit_ok : XOk Tryz.prog noT X_digit := tblX_nil
theorem vc_digit (z : Int) (k : PV → Prop) : evF Tryz.prog X_digit noT (H_digit z) 1000 Tryz.f91 [.int .u8 z] k = (
  k (PV.bool (bif decide ((48 : Int) ≤ z) then decide (z ≤ (57 : Int)) else false))) := by kernel_rfl
attribute [local irreducible] Go.Vc.evF
theorem ok_digit (z : Int) : FuncOk Tryz.prog noT 91 [.int .u8 z] ⟨True, .bool (decide (48 ≤ z ∧ z ≤ 57))⟩ := evF_ok (by kernel_rfl) X_digit_ok (H := H_digit z) (fuel := 1000) Tryz.func91 (by kernel_rfl) fun hpre => (vc_digit z _).mpr (by
  show PV.bool _ = PV.bool _
  congr 1
  by_cases h : 48 ≤ z <;> simp [h])
def ent_digit : List PV → Option CallR := fun xs => match xs with
  | [.int .u8 z] => some ⟨True, .bool (decide (48 ≤ z ∧ z ≤ 57))⟩
  | _ => none
theorem ent_digit_ok : ∀ xs c, ent_digit xs = some c → FuncOk Tryz.prog noT 91 xs c := fun xs c h => by
  unfold ent_digit at h
  split at h
  · injection h with h; subst h; exact ok_digit _
  · cases h
end
section
def hxZ (z : Int) : Int := if 48 ≤ z ∧ z ≤ 57 then z - 48 else if 97 ≤ z ∧ z ≤ 102 then z - 87 else if 65 ≤ z ∧ z ≤ 70 then z - 55 else -1
def X_hex : Tbl := tblX [(91, ent_digit)]
def H_hex (z : Int) : Loops := fun i => none
theorem X_hex_ok : XOk Tryz.prog noT X_hex := tblX_cons ent_digit_ok (tblX_nil)
theorem vc_hex (z : Int) (k : PV → Prop) : evF Tryz.prog X_hex noT (H_hex z) 1000 Tryz.f63 [.int .u8 z] k = (
  True ∧
 (decide ((48 : Int) ≤ z ∧ z ≤ (57 : Int)) = true → k (PV.int .i64 (Go.IntKind.i64.wrap (Go.IntKind.u8.wrap (z - (48 : Int)))))) ∧
 (decide ((48 : Int) ≤ z ∧ z ≤ (57 : Int)) = false →
 ((bif decide ((97 : Int) ≤ z) then decide (z ≤ (102 : Int)) else false) = true →
 inI64 (Go.IntKind.i64.wrap (Go.IntKind.u8.wrap (z - (97 : Int))) + (10 : Int)) ∧
 k (PV.int .i64 (Go.IntKind.i64.wrap (Go.IntKind.u8.wrap (z - (97 : Int))) + (10 : Int)))) ∧
 ((bif decide ((97 : Int) ≤ z) then decide (z ≤ (102 : Int)) else false) = false →
 ((bif decide ((65 : Int) ≤ z) then decide (z ≤ (70 : Int)) else false) = true →
 inI64 (Go.IntKind.i64.wrap (Go.IntKind.u8.wrap (z - (65 : Int))) + (10 : Int)) ∧
 k (PV.int .i64 (Go.IntKind.i64.wrap (Go.IntKind.u8.wrap (z - (65 : Int))) + (10 : Int)))) ∧
 ((bif decide ((65 : Int) ≤ z) then decide (z ≤ (70 : Int)) else false) = false → k (PV.int .i64 (-1 : Int)))))) := by kernel_rfl
attribute [local irreducible] Go.Vc.evF
theorem ok_hex (z : Int) : FuncOk Tryz.prog noT 63 [.int .u8 z] ⟨0 ≤ z ∧ z ≤ 255, .int .i64 (hxZ z)⟩ := evF_ok (by kernel_rfl) X_hex_ok (H := H_hex z) (fuel := 1000) Tryz.func63 (by kernel_rfl) fun hpre => (vc_hex z _).mpr (by
  have w8 : ∀ a : Int, 0 ≤ a ∧ a ≤ 15 → IntKind.u8.wrap a = a := fun a h => IntWalk.u8_in _ (by omega)
  have w64 : ∀ a : Int, 0 ≤ a ∧ a ≤ 15 → IntKind.i64.wrap a = a := fun a h => IntWalk.i64_in _ (by omega)
  have yes : ∀ a b : Int, (bif decide (a ≤ z) then decide (z ≤ b) else false) = true → a ≤ z ∧ z ≤ b := fun a b h => by
    cases e : decide (a ≤ z) with
    | false => rw [e] at h; cases h
    | true => rw [e] at h; exact ⟨of_decide_eq_true e, of_decide_eq_true h⟩
  have no : ∀ a b : Int, (bif decide (a ≤ z) then decide (z ≤ b) else false) = false → ¬ (a ≤ z ∧ z ≤ b) := fun a b h g => by
    rw [decide_eq_true g.1, decide_eq_true g.2] at h
    cases h
  refine ⟨trivial, fun h => ?_, fun h => ⟨fun h2 => ?_, fun h2 => ⟨fun h3 => ?_, fun h3 => ?_⟩⟩⟩
  · have h1 := of_decide_eq_true h
    rw [w8 _ (by omega), w64 _ (by omega)]
    unfold hxZ; rw [if_pos h1]
  · have h1 := of_decide_eq_false h
    have h4 := yes _ _ h2
    rw [w8 _ (by omega), w64 _ (by omega)]
    refine ⟨by unfold inI64; omega, ?_⟩
    unfold hxZ; rw [if_neg h1, if_pos h4]; congr 1; omega
  · have h1 := of_decide_eq_false h
    have h5 := no _ _ h2
    have h4 := yes _ _ h3
    rw [w8 _ (by omega), w64 _ (by omega)]
    refine ⟨by unfold inI64; omega, ?_⟩
    unfold hxZ; rw [if_neg h1, if_neg h5, if_pos h4]; congr 1; omega
  · have h1 := of_decide_eq_false h
    unfold hxZ; rw [if_neg h1, if_neg (no _ _ h2), if_neg (no _ _ h3)])
def ent_hex : List PV → Option CallR := fun xs => match xs with
  | [.int .u8 z] => some ⟨0 ≤ z ∧ z ≤ 255, .int .i64 (hxZ z)⟩
  | _ => none
theorem ent_hex_ok : ∀ xs c, ent_hex xs = some c → FuncOk Tryz.prog noT 63 xs c := fun xs c h => by
  unfold ent_hex at h
  split at h
  · injection h with h; subst h; exact ok_hex _
  · cases h
end
section
def decP : Bs → Bs
  | [] => []
  | b :: r => match r with
    | h :: g :: t => if b.toNat = 37 ∧ 0 ≤ hxZ h.toNat ∧ 0 ≤ hxZ g.toNat then zByte (hxZ h.toNat * 16 + hxZ g.toNat) :: decP t else b :: decP (h :: g :: t)
    | [h] => [b, h]
    | [] => [b]
theorem decP_cons (b : UInt8) (r : Bs) : decP (b :: r) = if b.toNat = 37 ∧ 2 ≤ r.length ∧ 0 ≤ hxZ (byt r 0) ∧ 0 ≤ hxZ (byt r 1) then zByte (hxZ (byt r 0) * 16 + hxZ (byt r 1)) :: decP (r.drop 2) else b :: decP r := by
  match r with
  | [] => rw [if_neg (fun h => by have := h.2.1; simp at this)]; rfl
  | [h] => rw [if_neg (fun h => by have := h.2.1; simp at this)]; rfl
  | h :: g :: t =>
    show (if b.toNat = 37 ∧ 0 ≤ hxZ h.toNat ∧ 0 ≤ hxZ g.toNat then zByte (hxZ h.toNat * 16 + hxZ g.toNat) :: decP t else b :: decP (h :: g :: t)) = _
    have e0 : byt (h :: g :: t) 0 = (h.toNat : Int) := rfl
    have e1 : byt (h :: g :: t) 1 = (g.toNat : Int) := rfl
    rw [e0, e1]
    by_cases hc : b.toNat = 37 ∧ 0 ≤ hxZ h.toNat ∧ 0 ≤ hxZ g.toNat
    · rw [if_pos hc, if_pos ⟨hc.1, by simp, hc.2.1, hc.2.2⟩]; rfl
    · rw [if_neg hc, if_neg (fun h => hc ⟨h.1, h.2.2.1, h.2.2.2⟩)]
theorem hxZ_le (z : Int) : hxZ z ≤ 15 := by unfold hxZ; repeat' split; all_goals omega
theorem or_hex {h g : Int} (h0 : 0 ≤ h) (h1 : h ≤ 15) (g0 : 0 ≤ g) (g1 : g ≤ 15) : IntKind.u8.wrap (bitsZ .or .i64 (shlZ .i64 h 4) g) = h * 16 + g := by
  have key : ∀ a b : Fin 16, IntKind.u8.wrap (bitsZ .or .i64 (shlZ .i64 (a.val : Int) 4) (b.val : Int)) = (a.val : Int) * 16 + (b.val : Int) := by decide +kernel
  have := key ⟨h.toNat, by omega⟩ ⟨g.toNat, by omega⟩
  dsimp only at this
  rw [show ((h.toNat : Nat) : Int) = h by omega, show ((g.toNat : Nat) : Int) = g by omega] at this
  exact this
theorem byZ_at (l : Bs) (j : Nat) : byteZ l (j : Int) = byt l j := rfl
theorem drop_byt (l : Bs) (j : Nat) (h : j < l.length) : l.drop j = zByte (byt l j) :: l.drop (j + 1) := by
  rw [List.drop_eq_getElem_cons h]
  congr 1
  show _ = zByte (byteZ l (j : Int))
  rw [zByte_byteZ]
  rw [List.getD_eq_getElem?_getD, Int.toNat_natCast, List.getElem?_eq_getElem h]; rfl
theorem byt_drop' (l : Bs) (i j : Nat) : byt (l.drop i) j = byt l (i + j) := by unfold byt; rw [List.getD_eq_getElem?_getD, List.getD_eq_getElem?_getD, List.getElem?_drop]
theorem zB_nat {b : Int} (h0 : 0 ≤ b) (h1 : b ≤ 255) : (((zByte b).toNat : Nat) : Int) = b := by
  unfold zByte
  rw [show (UInt8.ofNat b.toNat).toNat = b.toNat % 256 from UInt8.toNat_ofNat' ..]
  omega
theorem byt_range (l : Bs) (j : Nat) : 0 ≤ byt l j ∧ byt l j ≤ 255 := byteZ_range l (j : Int)
theorem decP_at (l : Bs) (j : Nat) (h : j < l.length) : decP (l.drop j) = if byt l j = 37 ∧ j + 2 < l.length ∧ 0 ≤ hxZ (byt l (j + 1)) ∧ 0 ≤ hxZ (byt l (j + 2)) then zByte (hxZ (byt l (j + 1)) * 16 + hxZ (byt l (j + 2))) :: decP (l.drop (j + 3)) else zByte (byt l j) :: decP (l.drop (j + 1)) := by
  have hr := byt_range l j
  have e : ((zByte (byt l j)).toNat = 37) ↔ byt l j = 37 := by have := zB_nat hr.1 hr.2; omega
  rw [drop_byt l j h, decP_cons, byt_drop', byt_drop', List.length_drop, List.drop_drop]
  by_cases hc : byt l j = 37 ∧ j + 2 < l.length ∧ 0 ≤ hxZ (byt l (j + 1)) ∧ 0 ≤ hxZ (byt l (j + 2))
  · rw [if_pos hc, if_pos ⟨e.2 hc.1, by omega, hc.2.2.1, hc.2.2.2⟩]
  · rw [if_neg hc, if_neg (fun g => hc ⟨e.1 g.1, by omega, g.2.2.1, g.2.2.2⟩)]
def DecI (l : Bs) (o : Bool × Bs) (i : Int) : Prop := ∃ j : Nat, i = j ∧ j ≤ l.length ∧ o.1 = false ∧ o.2 ++ decP (l.drop j) = decP l ∧ o.2.length ≤ j
def X_pdec : Tbl := tblX [(63, ent_hex)]
def H_pdec (l : Bs) : Loops := fun i => bif Nat.beq i 3 then some ⟨(Bool × Bs) × (Int), (fun s x => (((((((s.row s 3 x.1.1 (.bytes x.1.2)).put 4 (.int .i64 x.2)).put 5 .undef).put 6 .undef).put 13 .undef).put 26 .undef).put 42 .undef)), (fun s => ((s.nil 3, s.bytes 3), s.int 4)), (fun s x => let b := x.1; let i := x.2; DecI l b i), (fun s x => let b := x.1; let i := x.2; ((l.length : Int) - i).toNat), [5, 6, 13, 26, 42]⟩ else none
theorem X_pdec_ok : XOk Tryz.prog noT X_pdec := tblX_cons ent_hex_ok (tblX_nil)
theorem vc_pdec (l : Bs) (k : PV → Prop) : evF Tryz.prog X_pdec noT (H_pdec l) 1000 Tryz.f37 [.str l] k = (
  ((0 : Int) ≤ (0 : Int) ∧ (0 : Int) ≤ lenZ l ∧ lenZ l ≤ maxRow) ∧
 VS.mk []
 [(0, PV.str l), (2, PV.row true (BRow.bytes []) ((2 : Nat) + (32 : Nat))),
 (3, PV.row false (BRow.bytes (List.replicate (Int.toNat (0 : Int)) (0 : UInt8))) ((9 : Nat) + (32 : Nat))),
 (4, PV.int .i64 (0 : Int)), ((5 : Nat), PV.undef), ((6 : Nat), PV.undef), ((13 : Nat), PV.undef),
 ((26 : Nat), PV.undef), ((42 : Nat), PV.undef)]
 [] =
 VS.mk []
 [(0, PV.str l), (2, PV.row true (BRow.bytes []) ((2 : Nat) + (32 : Nat))),
 ((3 : Nat), PV.row false (BRow.bytes (List.replicate (Int.toNat (0 : Int)) (0 : UInt8))) ((9 : Nat) + (32 : Nat))),
 ((4 : Nat), PV.int .i64 (0 : Int)), ((5 : Nat), PV.undef), ((6 : Nat), PV.undef), ((13 : Nat), PV.undef),
 ((26 : Nat), PV.undef), ((42 : Nat), PV.undef)]
 [] ∧
 DecI l (false, List.replicate (Int.toNat (0 : Int)) (0 : UInt8)) (0 : Int) ∧
 ∀ (x : (Bool × Bs) × Int),
 DecI l x.1 x.2 →
 (decide (x.2 < lenZ l) = true →
 within x.2 (lenZ l) ∧
 (decide (byteZ l x.2 = (37 : Int)) = true → inI64 (x.2 + (2 : Int))) ∧
 ((bif decide (byteZ l x.2 = (37 : Int)) then decide (x.2 + (2 : Int) < lenZ l) else false) = true →
 inI64 (x.2 + (1 : Int)) ∧
 within (x.2 + (1 : Int)) (lenZ l) ∧
 ((0 : Int) ≤ byteZ l (x.2 + (1 : Int)) ∧ byteZ l (x.2 + (1 : Int)) ≤ (255 : Int)) ∧
 inI64 (x.2 + (2 : Int)) ∧
 within (x.2 + (2 : Int)) (lenZ l) ∧
 ((0 : Int) ≤ byteZ l (x.2 + (2 : Int)) ∧ byteZ l (x.2 + (2 : Int)) ≤ (255 : Int)) ∧
 ((bif decide ((0 : Int) ≤ hxZ (byteZ l (x.2 + (1 : Int)))) then
 decide ((0 : Int) ≤ hxZ (byteZ l (x.2 + (2 : Int))))
 else false) =
 true →
 (0 : Int) ≤ (4 : Int) ∧
 allU8
 [PV.int .u8
 (Go.IntKind.u8.wrap
 (bitsZ Go.BinOp.or .i64
 (shlZ .i64 (hxZ (byteZ l (x.2 + (1 : Int))))
 (4 : Int))
 (hxZ (byteZ l (x.2 + (2 : Int))))))] ∧
 Int.ofNat
 (List.length
 (x.1.2 ++
 [zByte
 (Go.IntKind.u8.wrap
 (bitsZ Go.BinOp.or .i64
 (shlZ .i64
 (hxZ (byteZ l (x.2 + (1 : Int)))) (4 : Int))
 (hxZ (byteZ l (x.2 + (2 : Int))))))])) ≤
 maxRow ∧
 inI64 (x.2 + (2 : Int)) ∧
 inI64 (x.2 + (2 : Int) + (1 : Int)) ∧
 VS.mk []
 [(0, PV.str l),
 (2, PV.row true (BRow.bytes []) ((2 : Nat) + (32 : Nat))),
 ((3 : Nat),
 PV.row false
 (BRow.bytes
 (x.1.2 ++
 [zByte
 (Go.IntKind.u8.wrap
 (bitsZ Go.BinOp.or .i64
 (shlZ .i64
 (hxZ (byteZ l (x.2 + (1 : Int))))
 (4 : Int))
 (hxZ (byteZ l (x.2 + (2 : Int))))))]))
 (nat_lit 40 + (1 : Nat))),
 ((4 : Nat), PV.int .i64 (x.2 + (2 : Int) + (1 : Int))), ((5 : Nat), PV.undef),
 ((6 : Nat), PV.undef), ((13 : Nat), PV.undef), ((26 : Nat), PV.undef),
 ((42 : Nat), PV.undef)]
 [] =
 VS.mk []
 [(0, PV.str l),
 (2, PV.row true (BRow.bytes []) ((2 : Nat) + (32 : Nat))),
 ((3 : Nat),
 PV.row false
 (BRow.bytes
 (x.1.2 ++
 [zByte
 (Go.IntKind.u8.wrap
 (bitsZ Go.BinOp.or .i64
 (shlZ .i64
 (hxZ (byteZ l (x.2 + (1 : Int))))
 (4 : Int))
 (hxZ (byteZ l (x.2 + (2 : Int))))))]))
 ((9 : Nat) + (32 : Nat))),
 ((4 : Nat), PV.int .i64 (x.2 + (2 : Int) + (1 : Int))), ((5 : Nat), PV.undef),
 ((6 : Nat), PV.undef), ((13 : Nat), PV.undef), ((26 : Nat), PV.undef),
 ((42 : Nat), PV.undef)]
 [] ∧
 DecI l
 (false,
 x.1.2 ++
 [zByte
 (Go.IntKind.u8.wrap
 (bitsZ Go.BinOp.or .i64
 (shlZ .i64
 (hxZ (byteZ l (x.2 + (1 : Int)))) (4 : Int))
 (hxZ (byteZ l (x.2 + (2 : Int))))))])
 (x.2 + (2 : Int) + (1 : Int)) ∧
 (↑(List.length l) - (x.2 + (2 : Int) + (1 : Int))).toNat < (↑(List.length l) - x.2).toNat) ∧
 ((bif decide ((0 : Int) ≤ hxZ (byteZ l (x.2 + (1 : Int)))) then
 decide ((0 : Int) ≤ hxZ (byteZ l (x.2 + (2 : Int))))
 else false) =
 false →
 within x.2 (lenZ l) ∧
 allU8 [PV.int .u8 (byteZ l x.2)] ∧
 Int.ofNat (List.length (x.1.2 ++ [zByte (byteZ l x.2)])) ≤ maxRow ∧
 inI64 (x.2 + (1 : Int)) ∧
 VS.mk []
 [(0, PV.str l), (2, PV.row true (BRow.bytes []) ((2 : Nat) + (32 : Nat))),
 ((3 : Nat),
 PV.row false (BRow.bytes (x.1.2 ++ [zByte (byteZ l x.2)]))
 (nat_lit 40 + (1 : Nat))),
 ((4 : Nat), PV.int .i64 (x.2 + (1 : Int))), ((5 : Nat), PV.undef),
 ((6 : Nat), PV.undef), ((13 : Nat), PV.undef), ((26 : Nat), PV.undef),
 ((42 : Nat), PV.undef)]
 [] =
 VS.mk []
 [(0, PV.str l), (2, PV.row true (BRow.bytes []) ((2 : Nat) + (32 : Nat))),
 ((3 : Nat),
 PV.row false (BRow.bytes (x.1.2 ++ [zByte (byteZ l x.2)]))
 ((9 : Nat) + (32 : Nat))),
 ((4 : Nat), PV.int .i64 (x.2 + (1 : Int))), ((5 : Nat), PV.undef),
 ((6 : Nat), PV.undef), ((13 : Nat), PV.undef), ((26 : Nat), PV.undef),
 ((42 : Nat), PV.undef)]
 [] ∧
 DecI l (false, x.1.2 ++ [zByte (byteZ l x.2)])
 (x.2 + (1 : Int)) ∧
 (↑(List.length l) - (x.2 + (1 : Int))).toNat < (↑(List.length l) - x.2).toNat)) ∧
 ((bif decide (byteZ l x.2 = (37 : Int)) then decide (x.2 + (2 : Int) < lenZ l) else false) = false →
 within x.2 (lenZ l) ∧
 allU8 [PV.int .u8 (byteZ l x.2)] ∧
 Int.ofNat (List.length (x.1.2 ++ [zByte (byteZ l x.2)])) ≤ maxRow ∧
 inI64 (x.2 + (1 : Int)) ∧
 VS.mk []
 [(0, PV.str l), (2, PV.row true (BRow.bytes []) ((2 : Nat) + (32 : Nat))),
 ((3 : Nat),
 PV.row false (BRow.bytes (x.1.2 ++ [zByte (byteZ l x.2)])) (nat_lit 40 + (1 : Nat))),
 ((4 : Nat), PV.int .i64 (x.2 + (1 : Int))), ((5 : Nat), PV.undef), ((6 : Nat), PV.undef),
 ((13 : Nat), PV.undef), ((26 : Nat), PV.undef), ((42 : Nat), PV.undef)]
 [] =
 VS.mk []
 [(0, PV.str l), (2, PV.row true (BRow.bytes []) ((2 : Nat) + (32 : Nat))),
 ((3 : Nat),
 PV.row false (BRow.bytes (x.1.2 ++ [zByte (byteZ l x.2)])) ((9 : Nat) + (32 : Nat))),
 ((4 : Nat), PV.int .i64 (x.2 + (1 : Int))), ((5 : Nat), PV.undef), ((6 : Nat), PV.undef),
 ((13 : Nat), PV.undef), ((26 : Nat), PV.undef), ((42 : Nat), PV.undef)]
 [] ∧
 DecI l (false, x.1.2 ++ [zByte (byteZ l x.2)]) (x.2 + (1 : Int)) ∧
 (↑(List.length l) - (x.2 + (1 : Int))).toNat < (↑(List.length l) - x.2).toNat)) ∧
 (decide (x.2 < lenZ l) = false → k (PV.row x.1.1 (BRow.bytes x.1.2) (0 : Nat)))) := by kernel_rfl
attribute [local irreducible] Go.Vc.evF
theorem ok_pdec (l : Bs) : FuncOk Tryz.prog noT 37 [.str l] ⟨l.length ≤ 1000000, .row false (.bytes (decP l)) 0⟩ := evF_ok (by kernel_rfl) X_pdec_ok (H := H_pdec l) (fuel := 1000) Tryz.func37 (by kernel_rfl) fun hpre => (vc_pdec l _).mpr (by
  obtain hl := hpre
  refine ⟨⟨by omega, by unfold lenZ; omega, by unfold lenZ; show _ ≤ (16777216 : Int); omega⟩, rfl, ⟨0, rfl, by omega, rfl, rfl, by show 0 ≤ 0; omega⟩, fun x hx => ?_⟩
  obtain ⟨⟨nl, o⟩, i⟩ := x
  obtain ⟨j, h1, h2, h3, h4, h5⟩ := hx
  dsimp only at h1 h2 h3 h4 h5 ⊢
  subst h1 h3
  have e1 : (j : Int) + 1 = ((j + 1 : Nat) : Int) := by push_cast; rfl
  have e2 : (j : Int) + 2 = ((j + 2 : Nat) : Int) := by push_cast; rfl
  have e3 : ((j + 2 : Nat) : Int) + 1 = ((j + 3 : Nat) : Int) := by push_cast; rfl
  have hu : ∀ z : Int, 0 ≤ z ∧ z ≤ 255 → allU8 [.int .u8 z] := fun z hz => by simp [allU8]; exact hz
  rw [e1, e2, e3, byZ_at l j, byZ_at l (j + 1), byZ_at l (j + 2)]
  have r0 := byt_range l j
  have r1 := byt_range l (j + 1)
  have r2 := byt_range l (j + 2)
  have hm : (o ++ [zByte 0]).length = o.length + 1 := by rw [List.length_append]; rfl
  have stay : j < l.length → (byt l j = 37 ∧ j + 2 < l.length ∧ 0 ≤ hxZ (byt l (j + 1)) ∧ 0 ≤ hxZ (byt l (j + 2)) → False) → DecI l (false, o ++ [zByte (byt l j)]) ((j + 1 : Nat) : Int) := fun hj hc => by
    refine ⟨j + 1, rfl, by omega, rfl, ?_, by show (o ++ [_]).length ≤ _; rw [List.length_append]; show o.length + 1 ≤ _; omega⟩
    show (o ++ [_]) ++ _ = _
    rw [← h4, decP_at l j hj, if_neg hc, List.append_assoc]; rfl
  refine ⟨fun h => ?_, fun h => ?_⟩
  · have hj : j < l.length := by have := of_decide_eq_true h; unfold lenZ at this; omega
    refine ⟨by unfold within lenZ; omega, fun _ => by unfold inI64; omega, fun hc => ?_, fun hc => ?_⟩
    · have hb : byt l j = 37 ∧ j + 2 < l.length := by
        cases e : decide (byt l j = 37) with
        | false => rw [e] at hc; cases hc
        | true => rw [e] at hc; exact ⟨of_decide_eq_true e, by have := of_decide_eq_true hc; unfold lenZ at this; omega⟩
      refine ⟨by unfold inI64; omega, by unfold within lenZ; omega, r1, by unfold inI64; omega, by unfold within lenZ; omega, r2, fun hd => ?_, fun hd => ?_⟩
      · have hh : 0 ≤ hxZ (byt l (j + 1)) ∧ 0 ≤ hxZ (byt l (j + 2)) := by
          cases e : decide (0 ≤ hxZ (byt l (j + 1))) with
          | false => rw [e] at hd; cases hd
          | true => rw [e] at hd; exact ⟨of_decide_eq_true e, of_decide_eq_true hd⟩
        have le1 := hxZ_le (byt l (j + 1))
        have le2 := hxZ_le (byt l (j + 2))
        rw [or_hex hh.1 le1 hh.2 le2]
        refine ⟨by omega, hu _ (by omega), ?_, by unfold inI64; omega, by unfold inI64; omega, rfl, ⟨j + 3, rfl, by omega, rfl, ?_, ?_⟩, by omega⟩
        · rw [List.length_append]; show ((o.length + 1 : Nat) : Int) ≤ 16777216; omega
        · show (o ++ [_]) ++ _ = _
          rw [← h4, decP_at l j hj, if_pos ⟨hb.1, hb.2, hh.1, hh.2⟩, List.append_assoc]; rfl
        · show (o ++ [_]).length ≤ _; rw [List.length_append]; show o.length + 1 ≤ _; omega
      · refine ⟨by unfold within lenZ; omega, hu _ r0, ?_, by unfold inI64; omega, rfl, stay hj (fun g => ?_), by omega⟩
        · rw [List.length_append]; show ((o.length + 1 : Nat) : Int) ≤ 16777216; omega
        · rw [decide_eq_true g.2.2.1, decide_eq_true g.2.2.2] at hd; cases hd
    · refine ⟨by unfold within lenZ; omega, hu _ r0, ?_, by unfold inI64; omega, rfl, stay hj (fun g => ?_), by omega⟩
      · rw [List.length_append]; show ((o.length + 1 : Nat) : Int) ≤ 16777216; omega
      · rw [decide_eq_true g.1, decide_eq_true (show ((j + 2 : Nat) : Int) < lenZ l by unfold lenZ; omega)] at hc; cases hc
  · have hj : j = l.length := by have := of_decide_eq_false h; unfold lenZ at this; omega
    subst hj
    rw [List.drop_length] at h4
    have : o = decP l := by rw [← h4]; exact (List.append_nil o).symm
    show PV.row false _ _ = PV.row false _ _
    rw [this])
def ent_pdec : List PV → Option CallR := fun xs => match xs with
  | [.str l] => some ⟨l.length ≤ 1000000, .row false (.bytes (decP l)) 0⟩
  | _ => none
theorem ent_pdec_ok : ∀ xs c, ent_pdec xs = some c → FuncOk Tryz.prog noT 37 xs c := fun xs c h => by
  unfold ent_pdec at h
  split at h
  · injection h with h; subst h; exact ok_pdec _
  · cases h
end
section
theorem i64_lt {n : Nat} {i : Int} (h : decide (i < (n : Int)) = true) : i < n := of_decide_eq_true h
def lowB1 (c : UInt8) : UInt8 := if 65 ≤ c.toNat ∧ c.toNat ≤ 90 then c + 32 else c
def lowB (l : Bs) : Bs := l.map lowB1
theorem lowB_at {l : Bs} {z : Int} (h0 : 0 ≤ z) (h1 : z < (l.length : Int)) : (lowB l)[z.toNat]? = some (lowB1 (l.getD z.toNat 0)) := by
  have : z.toNat < l.length := by omega
  unfold lowB
  rw [List.getElem?_map, List.getElem?_eq_getElem this, List.getD_eq_getElem?_getD, List.getElem?_eq_getElem this]
  rfl
theorem low_yes {l : Bs} {z : Int} (h : (bif decide ((65 : Int) ≤ byteZ l z) then decide (byteZ l z ≤ (90 : Int)) else false) = true) : IntKind.u8.wrap (byteZ l z + (32 : Int)) = byteZ l z + 32 ∧ byteZ l z ≤ 90 ∧ zByte (byteZ l z + 32) = lowB1 (l.getD z.toNat 0) := by
  have hr := byteZ_range l z
  cases h1 : decide ((65 : Int) ≤ byteZ l z) with
  | false => rw [h1] at h; cases h
  | true =>
    rw [h1] at h
    have h2 : byteZ l z ≤ 90 := of_decide_eq_true h
    have h3 : 65 ≤ byteZ l z := of_decide_eq_true h1
    refine ⟨IntWalk.u8_in _ (by omega), h2, ?_⟩
    unfold byteZ at h2 h3
    unfold lowB1 zByte byteZ
    rw [if_pos (by omega)]
    apply UInt8.toNat_inj.1
    rw [UInt8.toNat_add]
    have e : (((l.getD z.toNat 0).toNat : Int) + 32).toNat = (l.getD z.toNat 0).toNat + 32 := by omega
    rw [e]
    simp
theorem low_no {l : Bs} {z : Int} (h : (bif decide ((65 : Int) ≤ byteZ l z) then decide (byteZ l z ≤ (90 : Int)) else false) = false) : zByte (byteZ l z) = lowB1 (l.getD z.toNat 0) := by
  rw [zByte_byteZ]
  unfold lowB1
  rw [if_neg]
  intro hh
  have h3 : (65 : Int) ≤ byteZ l z := by unfold byteZ; omega
  have h4 : byteZ l z ≤ (90 : Int) := by unfold byteZ; omega
  rw [decide_eq_true h3, decide_eq_true h4] at h
  cases h
def X_lower : Tbl := tblX []
def H_lower (nl : Bool) (l : Bs) : Loops := fun i => bif Nat.beq i 3 then some ⟨(Bool × Bs) × (Int), (fun s x => ((((((s.row s 3 x.1.1 (.bytes x.1.2)).put 11 (.int .i64 x.2)).put 4 .undef).put 5 .undef).put 12 .undef).put 21 .undef)), (fun s => ((s.nil 3, s.bytes 3), s.int 11)), (fun s x => let low := x.1; let i := x.2; 0 ≤ i ∧ i ≤ l.length ∧ low.1 = false ∧ low.2 = (lowB l).take i.toNat ++ List.replicate (l.length - i.toNat) 0), (fun s x => let low := x.1; let i := x.2; ((l.length : Int) - i).toNat), [4, 5, 12, 21]⟩ else none
theorem X_lower_ok : XOk Tryz.prog noT X_lower := tblX_nil
theorem vc_lower (nl : Bool) (l : Bs) (k : PV → Prop) : evF Tryz.prog X_lower noT (H_lower nl l) 1000 Tryz.f36 [.row nl (.bytes l) 0] k = (
  ((0 : Int) ≤ Int.ofNat (List.length l) ∧ Int.ofNat (List.length l) ≤ Int.ofNat (List.length l) ∧ Int.ofNat (List.length l) ≤ maxRow) ∧
 VS.mk []
 [(0, PV.row nl (BRow.bytes l) (0 : Nat)), (2, PV.str (ByteArray.mk #[]).data.toList),
 (3, PV.row false (BRow.bytes (List.replicate (Int.ofNat (List.length l)).toNat (0 : UInt8))) ((8 : Nat) + (32 : Nat))),
 ((4 : Nat), PV.undef), ((5 : Nat), PV.undef), (9, PV.row nl (BRow.bytes l) (0 : Nat)),
 (10, PV.int .i64 (Int.ofNat (List.length l))), (11, PV.int .i64 (0 : Int)),
 ((12 : Nat), PV.undef), ((21 : Nat), PV.undef)]
 [] =
 VS.mk []
 [(0, PV.row nl (BRow.bytes l) (0 : Nat)), (2, PV.str (ByteArray.mk #[]).data.toList),
 ((3 : Nat), PV.row false (BRow.bytes (List.replicate (Int.ofNat (List.length l)).toNat (0 : UInt8))) ((8 : Nat) + (32 : Nat))),
 ((4 : Nat), PV.undef), ((5 : Nat), PV.undef), (9, PV.row nl (BRow.bytes l) (0 : Nat)),
 (10, PV.int .i64 (Int.ofNat (List.length l))), ((11 : Nat), PV.int .i64 (0 : Int)),
 ((12 : Nat), PV.undef), ((21 : Nat), PV.undef)]
 [] ∧
 ((0 : Int) ≤ (0 : Int) ∧
 (0 : Int) ≤ ↑(List.length l) ∧
 false = false ∧
 List.replicate (Int.ofNat (List.length l)).toNat (0 : UInt8) =
 List.take (Int.toNat (0 : Int)) (lowB l) ++
 List.replicate (List.length l - Int.toNat (0 : Int)) (0 : UInt8)) ∧
 ∀ (x : (Bool × Bs) × Int),
 (0 : Int) ≤ x.2 ∧
 x.2 ≤ ↑(List.length l) ∧
 x.1.1 = false ∧
 x.1.2 = List.take x.2.toNat (lowB l) ++ List.replicate (List.length l - x.2.toNat) (0 : UInt8) →
 (decide (x.2 < Int.ofNat (List.length l)) = true →
 within x.2 (Int.ofNat (List.length l)) ∧
 ((bif decide ((65 : Int) ≤ byteZ l x.2) then decide (byteZ l x.2 ≤ (90 : Int)) else false) = true →
 within x.2 (Int.ofNat (List.length x.1.2)) ∧
 ((0 : Int) ≤ Go.IntKind.u8.wrap (byteZ l x.2 + (32 : Int)) ∧
 Go.IntKind.u8.wrap (byteZ l x.2 + (32 : Int)) ≤ (255 : Int)) ∧
 inI64 (x.2 + (1 : Int)) ∧
 VS.mk []
 [(0, PV.row nl (BRow.bytes l) (0 : Nat)), (2, PV.str (ByteArray.mk #[]).data.toList),
 ((3 : Nat),
 PV.row x.1.1
 (BRow.bytes (setZ x.1.2 x.2 (zByte (Go.IntKind.u8.wrap (byteZ l x.2 + (32 : Int))))))
 ((8 : Nat) + (32 : Nat))),
 ((4 : Nat), PV.undef), ((5 : Nat), PV.undef), (9, PV.row nl (BRow.bytes l) (0 : Nat)),
 (10, PV.int .i64 (Int.ofNat (List.length l))),
 ((11 : Nat), PV.int .i64 (x.2 + (1 : Int))), ((12 : Nat), PV.undef), ((21 : Nat), PV.undef)]
 [] =
 VS.mk []
 [(0, PV.row nl (BRow.bytes l) (0 : Nat)), (2, PV.str (ByteArray.mk #[]).data.toList),
 ((3 : Nat),
 PV.row x.1.1
 (BRow.bytes (setZ x.1.2 x.2 (zByte (Go.IntKind.u8.wrap (byteZ l x.2 + (32 : Int))))))
 ((8 : Nat) + (32 : Nat))),
 ((4 : Nat), PV.undef), ((5 : Nat), PV.undef), (9, PV.row nl (BRow.bytes l) (0 : Nat)),
 (10, PV.int .i64 (Int.ofNat (List.length l))),
 ((11 : Nat), PV.int .i64 (x.2 + (1 : Int))), ((12 : Nat), PV.undef), ((21 : Nat), PV.undef)]
 [] ∧
 ((0 : Int) ≤ x.2 + (1 : Int) ∧
 x.2 + (1 : Int) ≤ ↑(List.length l) ∧
 x.1.1 = false ∧
 setZ x.1.2 x.2 (zByte (Go.IntKind.u8.wrap (byteZ l x.2 + (32 : Int)))) =
 List.take (x.2 + (1 : Int)).toNat (lowB l) ++
 List.replicate (List.length l - (x.2 + (1 : Int)).toNat) (0 : UInt8)) ∧
 (↑(List.length l) - (x.2 + (1 : Int))).toNat < (↑(List.length l) - x.2).toNat) ∧
 ((bif decide ((65 : Int) ≤ byteZ l x.2) then decide (byteZ l x.2 ≤ (90 : Int)) else false) = false →
 within x.2 (Int.ofNat (List.length x.1.2)) ∧
 ((0 : Int) ≤ byteZ l x.2 ∧ byteZ l x.2 ≤ (255 : Int)) ∧
 inI64 (x.2 + (1 : Int)) ∧
 VS.mk []
 [(0, PV.row nl (BRow.bytes l) (0 : Nat)), (2, PV.str (ByteArray.mk #[]).data.toList),
 ((3 : Nat),
 PV.row x.1.1 (BRow.bytes (setZ x.1.2 x.2 (zByte (byteZ l x.2))))
 ((8 : Nat) + (32 : Nat))),
 ((4 : Nat), PV.undef), ((5 : Nat), PV.undef), (9, PV.row nl (BRow.bytes l) (0 : Nat)),
 (10, PV.int .i64 (Int.ofNat (List.length l))),
 ((11 : Nat), PV.int .i64 (x.2 + (1 : Int))), ((12 : Nat), PV.undef), ((21 : Nat), PV.undef)]
 [] =
 VS.mk []
 [(0, PV.row nl (BRow.bytes l) (0 : Nat)), (2, PV.str (ByteArray.mk #[]).data.toList),
 ((3 : Nat),
 PV.row x.1.1 (BRow.bytes (setZ x.1.2 x.2 (zByte (byteZ l x.2))))
 ((8 : Nat) + (32 : Nat))),
 ((4 : Nat), PV.undef), ((5 : Nat), PV.undef), (9, PV.row nl (BRow.bytes l) (0 : Nat)),
 (10, PV.int .i64 (Int.ofNat (List.length l))),
 ((11 : Nat), PV.int .i64 (x.2 + (1 : Int))), ((12 : Nat), PV.undef), ((21 : Nat), PV.undef)]
 [] ∧
 ((0 : Int) ≤ x.2 + (1 : Int) ∧
 x.2 + (1 : Int) ≤ ↑(List.length l) ∧
 x.1.1 = false ∧
 setZ x.1.2 x.2 (zByte (byteZ l x.2)) =
 List.take (x.2 + (1 : Int)).toNat (lowB l) ++
 List.replicate (List.length l - (x.2 + (1 : Int)).toNat) (0 : UInt8)) ∧
 (↑(List.length l) - (x.2 + (1 : Int))).toNat < (↑(List.length l) - x.2).toNat)) ∧
 (decide (x.2 < Int.ofNat (List.length l)) = false → k (PV.str x.1.2))) := by kernel_rfl
attribute [local irreducible] Go.Vc.evF
theorem ok_lower (nl : Bool) (l : Bs) : FuncOk Tryz.prog noT 36 [.row nl (.bytes l) 0] ⟨l.length ≤ 1000000, .str (lowB l)⟩ := evF_ok (by kernel_rfl) X_lower_ok (H := H_lower nl l) (fuel := 1000) Tryz.func36 (by kernel_rfl) fun hpre => (vc_lower nl l _).mpr (by
  have hll : (lowB l).length = l.length := by unfold lowB; simp
  simp only [Int.ofNat_eq_natCast] at *
  refine ⟨⟨by omega, by omega, by unfold maxRow; omega⟩, trivial, ⟨by omega, by omega, trivial, by simp⟩, fun x hx => ⟨fun h => ?_, fun h => ?_⟩⟩
  · obtain ⟨h0, h1, h2, h3⟩ := hx
    have hlt := i64_lt h
    have hbr := byteZ_range l x.2
    have hlen : x.1.2.length = l.length := by rw [h3, List.length_append, List.length_take, List.length_replicate, hll]; omega
    have step : ∀ b, b = lowB1 (l.getD x.2.toNat 0) → setZ x.1.2 x.2 b = List.take (x.2 + 1).toNat (lowB l) ++ List.replicate (List.length l - (x.2 + 1).toNat) 0 := fun b hb => by
      unfold setZ
      rw [show (x.2 + 1).toNat = x.2.toNat + 1 by omega, h3]
      exact set_fill hll.symm (by rw [lowB_at h0 hlt, hb])
    refine ⟨⟨h0, hlt⟩, fun hc => ?_, fun hc => ?_⟩
    · obtain ⟨c1, c2, c3⟩ := low_yes hc
      rw [c1]
      refine ⟨⟨h0, by rw [hlen]; exact hlt⟩, ⟨by omega, by omega⟩, ⟨by omega, by omega⟩, trivial, ⟨by omega, by omega, h2, step _ c3⟩, by omega⟩
    · refine ⟨⟨h0, by rw [hlen]; exact hlt⟩, ⟨by omega, by omega⟩, ⟨by omega, by omega⟩, trivial, ⟨by omega, by omega, h2, step _ (low_no hc)⟩, by omega⟩
  · obtain ⟨h0, h1, h2, h3⟩ := hx
    have hge : ¬ x.2 < (l.length : Int) := of_decide_eq_false h
    show PV.str _ = PV.str _
    rw [h3, show x.2.toNat = l.length by omega, ← hll, List.take_length]
    simp)
def ent_lower : List PV → Option CallR := fun xs => match xs with
  | [.row nl (.bytes l) 0] => some ⟨l.length ≤ 1000000, .str (lowB l)⟩
  | _ => none
theorem ent_lower_ok : ∀ xs c, ent_lower xs = some c → FuncOk Tryz.prog noT 36 xs c := fun xs c h => by
  unfold ent_lower at h
  split at h
  · injection h with h; subst h; exact ok_lower _ _
  · cases h
end
section
def neverL : Bs := [0, 9, 10, 13, 32, 35, 47, 58, 60, 62, 63, 64, 91, 92, 93, 94, 124]
def nodB (r : Int) : Bool := decide (r < 32) || decide (r = 37) || decide (r = 127) || runB neverL r
def X_nodom : Tbl := tblX [(66, ent_crune)]
def H_nodom (r : Int) : Loops := fun i => none
theorem X_nodom_ok : XOk Tryz.prog noT X_nodom := tblX_cons ent_crune_ok (tblX_nil)
theorem vc_nodom (r : Int) (k : PV → Prop) : evF Tryz.prog X_nodom noT (H_nodom r) 1000 Tryz.f40 [.int .i32 r] k = (
  ((bif bif decide (r < (32 : Int)) then true else decide (r = (37 : Int)) then true else decide (r = (127 : Int))) = false →
 (0 : Int) ≤ r ∧
 r ≤ (2147483647 : Int) ∧
 ∀ (b : UInt8),
 b ∈
 (ByteArray.mk
 #[0, 9, 10, 13, 32, 35, 47, 58, 60, 62, 63, 64, 91, 92, 93, 94, 124]).data.toList →
 b.toNat < (128 : Nat)) ∧
 k
 (PV.bool
 (bif bif bif decide (r < (32 : Int)) then true else decide (r = (37 : Int)) then true else decide (r = (127 : Int)) then true
 else
 runB
 (ByteArray.mk
 #[0, 9, 10, 13, 32, 35, 47, 58, 60, 62, 63, 64, 91, 92, 93, 94, 124]).data.toList
 r))) := by kernel_rfl
attribute [local irreducible] Go.Vc.evF
theorem ok_nodom (r : Int) : FuncOk Tryz.prog noT 40 [.int .i32 r] ⟨0 ≤ r ∧ r ≤ 1114111, .bool (nodB r)⟩ := evF_ok (by kernel_rfl) X_nodom_ok (H := H_nodom r) (fuel := 1000) Tryz.func40 (by kernel_rfl) fun hpre => (vc_nodom r _).mpr (by
  refine ⟨fun _ => ⟨by omega, by omega, by decide⟩, ?_⟩
  show PV.bool _ = PV.bool _
  unfold nodB neverL
  cases decide (r < 32) <;> cases decide (r = 37) <;> cases decide (r = 127) <;> rfl)
end
section
def X_rdig : Tbl := tblX []
def H_rdig (z : Int) : Loops := fun i => none
theorem X_rdig_ok : XOk Tryz.prog noT X_rdig := tblX_nil
theorem vc_rdig (z : Int) (k : PV → Prop) : evF Tryz.prog X_rdig noT (H_rdig z) 1000 Tryz.f54 [.int .u8 z] k = (
  ((bif decide ((48 : Int) ≤ z) then decide (z ≤ (57 : Int)) else false) = true →
 k (PV.int .i64 (Go.IntKind.i64.wrap (Go.IntKind.u8.wrap (z - (48 : Int)))))) ∧
 ((bif decide ((48 : Int) ≤ z) then decide (z ≤ (57 : Int)) else false) = false →
 ((bif decide ((97 : Int) ≤ z) then decide (z ≤ (102 : Int)) else false) = true →
 inI64 (Go.IntKind.i64.wrap (Go.IntKind.u8.wrap (z - (97 : Int))) + (10 : Int)) ∧
 k (PV.int .i64 (Go.IntKind.i64.wrap (Go.IntKind.u8.wrap (z - (97 : Int))) + (10 : Int)))) ∧
 ((bif decide ((97 : Int) ≤ z) then decide (z ≤ (102 : Int)) else false) = false →
 ((bif decide ((65 : Int) ≤ z) then decide (z ≤ (70 : Int)) else false) = true →
 inI64 (Go.IntKind.i64.wrap (Go.IntKind.u8.wrap (z - (65 : Int))) + (10 : Int)) ∧
 k (PV.int .i64 (Go.IntKind.i64.wrap (Go.IntKind.u8.wrap (z - (65 : Int))) + (10 : Int)))) ∧
 ((bif decide ((65 : Int) ≤ z) then decide (z ≤ (70 : Int)) else false) = false → k (PV.int .i64 (-1 : Int)))))) := by kernel_rfl
attribute [local irreducible] Go.Vc.evF
theorem ok_rdig (z : Int) : FuncOk Tryz.prog noT 54 [.int .u8 z] ⟨0 ≤ z ∧ z ≤ 255, .int .i64 (hexN z)⟩ := evF_ok (by kernel_rfl) X_rdig_ok (H := H_rdig z) (fuel := 1000) Tryz.func54 (by kernel_rfl) fun hpre => (vc_rdig z _).mpr (by
  have w8 : ∀ x : Int, 0 ≤ x ∧ x ≤ 255 → IntKind.u8.wrap x = x := fun x h => IntWalk.u8_in x h
  have w64 : ∀ x : Int, -9223372036854775808 ≤ x ∧ x ≤ 9223372036854775807 → IntKind.i64.wrap x = x := fun x h => IntWalk.i64_in x h
  have leaf : ∀ a b : Int, a = b → PV.int .i64 a = PV.int .i64 b := fun a b h => by rw [h]
  simp only [andB6, falB6, Bool.and_eq_true, decide_eq_true_eq]
  refine ⟨fun h => leaf _ _ ?_, fun h => ⟨fun h2 => ?_, fun h2 => ⟨fun h3 => ?_, fun h3 => leaf _ _ ?_⟩⟩⟩
  · rw [w8 _ (by omega), w64 _ (by omega)]; unfold hexN; rw [if_pos h]
  · rw [w8 _ (by omega), w64 _ (by omega)]
    refine ⟨⟨by omega, by omega⟩, leaf _ _ ?_⟩
    unfold hexN; rw [if_neg h, if_pos h2]; omega
  · rw [w8 _ (by omega), w64 _ (by omega)]
    refine ⟨⟨by omega, by omega⟩, leaf _ _ ?_⟩
    unfold hexN; rw [if_neg h, if_neg h2, if_pos h3]; omega
  · unfold hexN; rw [if_neg h, if_neg h2, if_neg h3])
def ent_rdig : List PV → Option CallR := fun xs => match xs with
  | [.int .u8 z] => some ⟨0 ≤ z ∧ z ≤ 255, .int .i64 (hexN z)⟩
  | _ => none
theorem ent_rdig_ok : ∀ xs c, ent_rdig xs = some c → FuncOk Tryz.prog noT 54 xs c := fun xs c h => by
  unfold ent_rdig at h
  split at h
  · injection h with h; subst h; exact ok_rdig _
  · cases h
end
section
def pieceV : Nat → Int → Bs → Int × Bool
  | 0, n, _ => (n, true)
  | _ + 1, n, [] => (n, true)
  | k + 1, n, c :: r => if hexN (c.toNat : Int) < 0 then (0, false) else pieceV k (n * 16 + hexN (c.toNat : Int)) r
def pieceR (l : Bs) : Int × Bool := ((pieceV 5 0 l).1, (pieceV 5 0 l).2 && decide (1 ≤ l.length ∧ l.length ≤ 4))
def PieceI (l : Bs) (n i : Int) : Prop := 0 ≤ i ∧ i ≤ 5 ∧ i ≤ l.length ∧ 0 ≤ n ∧ n < 16 ^ i.toNat ∧ pieceV (5 - i.toNat) n (l.drop i.toNat) = pieceV 5 0 l
theorem drop_one {l : Bs} {z : Int} (h0 : 0 ≤ z) (h1 : z < (l.length : Int)) : l.drop z.toNat = l.getD z.toNat 0 :: l.drop (z.toNat + 1) := by
  rw [List.drop_eq_getElem_cons (by omega), List.getD_eq_getElem?_getD, List.getElem?_eq_getElem (by omega)]
  rfl
def X_piece : Tbl := tblX [(54, ent_rdig)]
def H_piece (l : Bs) : Loops := fun i => bif Nat.beq i 3 then some ⟨(Int) × (Int), (fun s x => (((((s.put 4 (.int .i64 x.1)).put 5 (.int .i64 x.2)).put 6 .undef).put 14 .undef).put 22 .undef)), (fun s => (s.int 4, s.int 5)), (fun s x => let n := x.1; let i := x.2; PieceI l n i), (fun s x => let n := x.1; let i := x.2; (5 - i).toNat), [6, 14, 22]⟩ else none
theorem X_piece_ok : XOk Tryz.prog noT X_piece := tblX_cons ent_rdig_ok (tblX_nil)
theorem vc_piece (l : Bs) (k : PV → Prop) : evF Tryz.prog X_piece noT (H_piece l) 1000 Tryz.f86 [.str l] k = (
  VS.mk []
 [(0, PV.str l), (2, PV.int .i64 (0 : Int)), (3, PV.bool false),
 (4, PV.int .i64 (0 : Int)), (5, PV.int .i64 (0 : Int)), ((6 : Nat), PV.undef),
 ((14 : Nat), PV.undef), ((22 : Nat), PV.undef)]
 [] =
 VS.mk []
 [(0, PV.str l), (2, PV.int .i64 (0 : Int)), (3, PV.bool false),
 ((4 : Nat), PV.int .i64 (0 : Int)), ((5 : Nat), PV.int .i64 (0 : Int)), ((6 : Nat), PV.undef),
 ((14 : Nat), PV.undef), ((22 : Nat), PV.undef)]
 [] ∧
 PieceI l (0 : Int) (0 : Int) ∧
 ∀ (x : Int × Int),
 PieceI l x.1 x.2 →
 ((bif decide (x.2 < lenZ l) then decide (x.2 < (5 : Int)) else false) = true →
 within x.2 (lenZ l) ∧
 ((0 : Int) ≤ byteZ l x.2 ∧ byteZ l x.2 ≤ (255 : Int)) ∧
 (decide (hexN (byteZ l x.2) < (0 : Int)) = true →
 k (PV.tup [PV.int .i64 (0 : Int), PV.bool false])) ∧
 (decide (hexN (byteZ l x.2) < (0 : Int)) = false →
 inI64 (x.1 * (16 : Int)) ∧
 inI64 (x.1 * (16 : Int) + hexN (byteZ l x.2)) ∧
 inI64 (x.2 + (1 : Int)) ∧
 VS.mk []
 [(0, PV.str l), (2, PV.int .i64 (0 : Int)), (3, PV.bool false),
 ((4 : Nat),
 PV.int .i64 (x.1 * (16 : Int) + hexN (byteZ l x.2))),
 ((5 : Nat), PV.int .i64 (x.2 + (1 : Int))), ((6 : Nat), PV.undef), ((14 : Nat), PV.undef),
 ((22 : Nat), PV.undef)]
 [] =
 VS.mk []
 [(0, PV.str l), (2, PV.int .i64 (0 : Int)), (3, PV.bool false),
 ((4 : Nat),
 PV.int .i64 (x.1 * (16 : Int) + hexN (byteZ l x.2))),
 ((5 : Nat), PV.int .i64 (x.2 + (1 : Int))), ((6 : Nat), PV.undef), ((14 : Nat), PV.undef),
 ((22 : Nat), PV.undef)]
 [] ∧
 PieceI l (x.1 * (16 : Int) + hexN (byteZ l x.2))
 (x.2 + (1 : Int)) ∧
 ((5 : Int) - (x.2 + (1 : Int))).toNat < ((5 : Int) - x.2).toNat)) ∧
 ((bif decide (x.2 < lenZ l) then decide (x.2 < (5 : Int)) else false) = false →
 k
 (PV.tup
 [PV.int .i64 x.1, PV.bool (bif decide ((1 : Int) ≤ lenZ l) then decide (lenZ l ≤ (4 : Int)) else false)]))) := by kernel_rfl
attribute [local irreducible] Go.Vc.evF
theorem ok_piece (l : Bs) : FuncOk Tryz.prog noT 86 [.str l] ⟨l.length ≤ 1000000, .tup [.int .i64 (pieceR l).1, .bool (pieceR l).2]⟩ := evF_ok (by kernel_rfl) X_piece_ok (H := H_piece l) (fuel := 1000) Tryz.func86 (by kernel_rfl) fun hpre => (vc_piece l _).mpr (by
  refine ⟨rfl, ⟨by omega, by omega, by omega, by omega, by decide, rfl⟩, fun x hx => ⟨fun h => ?_, fun h => ?_⟩⟩
  · obtain ⟨n, i⟩ := x
    obtain ⟨h0, h1, h2, h3, h4, h5⟩ := hx
    dsimp only at h0 h1 h2 h3 h4 h5 h ⊢
    simp only [andB6, Bool.and_eq_true, decide_eq_true_eq] at h
    have hlt : i < (l.length : Int) := h.1
    obtain ⟨k, hk⟩ : ∃ k, 5 - i.toNat = k + 1 := ⟨4 - i.toNat, by omega⟩
    have hd := hexN_bd (byteZ l i)
    rw [hk, drop_one h0 hlt, pieceV] at h5
    have hby : byteZ l i = ((l.getD i.toNat 0).toNat : Int) := rfl
    have hp16 : n < 1048576 := Int.lt_of_lt_of_le h4 (by
      have : i.toNat = 0 ∨ i.toNat = 1 ∨ i.toNat = 2 ∨ i.toNat = 3 ∨ i.toNat = 4 := by omega
      rcases this with e | e | e | e | e <;> rw [e] <;> decide)
    refine ⟨⟨h0, hlt⟩, byteZ_range l i, fun hn => ?_, fun hn => ?_⟩
    · have hn' := of_decide_eq_true hn
      rw [if_pos (by rw [← hby]; exact hn')] at h5
      show PV.tup _ = PV.tup _
      unfold pieceR
      rw [← h5]
      rfl
    · have hn' := of_decide_eq_false hn
      rw [if_neg (by rw [← hby]; exact hn')] at h5
      refine ⟨⟨by omega, by omega⟩, ⟨by omega, by omega⟩, ⟨by omega, by omega⟩, rfl, ⟨by omega, by omega, by omega, by omega, ?_, ?_⟩, by omega⟩
      · rw [show (i + 1).toNat = i.toNat + 1 by omega, Int.pow_succ]
        omega
      · rw [show (i + 1).toNat = i.toNat + 1 by omega, show 5 - (i.toNat + 1) = k by omega, hby]
        exact h5
  · obtain ⟨n, i⟩ := x
    obtain ⟨h0, h1, h2, h3, h4, h5⟩ := hx
    dsimp only at h0 h1 h2 h3 h4 h5 h ⊢
    simp only [andB6, falB6, Bool.and_eq_true, decide_eq_true_eq] at h
    have h6 : pieceV 5 0 l = (n, true) := by
      rw [← h5]
      by_cases hi : i < (l.length : Int)
      · have : i = 5 := by have : ¬ i < 5 := fun e => h ⟨hi, e⟩; omega
        rw [this]; rfl
      · rw [List.drop_eq_nil_of_le (by omega)]
        cases hk : 5 - i.toNat <;> rfl
    show PV.tup _ = PV.tup _
    unfold pieceR
    rw [h6]
    show PV.tup [.int .i64 n, .bool (bif decide ((1 : Int) ≤ (l.length : Int)) then decide ((l.length : Int) ≤ 4) else false)] = PV.tup [.int .i64 n, .bool (true && decide (1 ≤ l.length ∧ l.length ≤ 4))]
    congr 3
    rw [andB6, Bool.true_and, ← Bool.decide_and]
    congr 2
    apply propext
    constructor <;> intro ⟨a, b⟩ <;> exact ⟨by omega, by omega⟩)
def ent_piece : List PV → Option CallR := fun xs => match xs with
  | [.str l] => some ⟨l.length ≤ 1000000, .tup [.int .i64 (pieceR l).1, .bool (pieceR l).2]⟩
  | _ => none
theorem ent_piece_ok : ∀ xs c, ent_piece xs = some c → FuncOk Tryz.prog noT 86 xs c := fun xs c h => by
  unfold ent_piece at h
  split at h
  · injection h with h; subst h; exact ok_piece _
  · cases h
end
section
def glueP (p : Bs) : List Bs → List Bs
  | [] => []
  | h :: t => (p ++ h) :: t
def PartsI (l : Bs) (z : Int) (nl : Bool) (o : List Bs) (a i : Int) : Prop := 0 ≤ a ∧ 0 ≤ i ∧ nl = decide (o = []) ∧ (o.length : Int) ≤ i ∧ ((i ≤ l.length ∧ a ≤ i ∧ splitB z l = o ++ glueP ((l.take i.toNat).drop a.toNat) (splitB z (l.drop i.toNat))) ∨ (i = l.length + 1 ∧ o = splitB z l))
theorem glue_nil (S : List Bs) : glueP [] S = S := by cases S <;> rfl
theorem splitB_some (c : Int) : ∀ l : Bs, ∃ h t, splitB c l = h :: t
  | [] => ⟨_, _, rfl⟩
  | b :: t => by
    obtain ⟨h, r, e⟩ := splitB_some c t
    by_cases hb : (b.toNat : Int) = c
    · exact ⟨_, _, splitB_yes hb t⟩
    · exact ⟨_, _, splitB_no hb e⟩
def X_parts : Tbl := tblX []
def H_parts (l : Bs) (z : Int) : Loops := fun i => bif Nat.beq i 4 then some ⟨(Bool × List Bs) × (Int) × (Int), (fun s x => (((((s.row s 5 x.1.1 (.strs x.1.2)).put 6 (.int .i64 x.2.1)).put 7 (.int .i64 x.2.2)).put 11 .undef).put 24 .undef)), (fun s => ((s.nil 5, s.strs 5), s.int 6, s.int 7)), (fun s x => let o := x.1; let a := x.2.1; let i := x.2.2; PartsI l z o.1 o.2 a i), (fun s x => let o := x.1; let a := x.2.1; let i := x.2.2; ((l.length : Int) + 1 - i).toNat), [11, 24]⟩ else none
theorem X_parts_ok : XOk Tryz.prog noT X_parts := tblX_nil
theorem vc_parts (l : Bs) (z : Int) (k : PV → Prop) : evF Tryz.prog X_parts noT (H_parts l z) 1000 Tryz.f55 [.str l, .int .u8 z] k = (
  VS.mk []
 [(0, PV.str l), (1, PV.int .u8 z), (4, PV.row true (BRow.strs []) ((4 : Nat) + (32 : Nat))),
 (5, PV.row true (BRow.strs []) ((5 : Nat) + (32 : Nat))), (6, PV.int .i64 (0 : Int)),
 (7, PV.int .i64 (0 : Int)), ((11 : Nat), PV.undef), ((24 : Nat), PV.undef)]
 [] =
 VS.mk []
 [(0, PV.str l), (1, PV.int .u8 z), (4, PV.row true (BRow.strs []) ((4 : Nat) + (32 : Nat))),
 ((5 : Nat), PV.row true (BRow.strs []) ((5 : Nat) + (32 : Nat))), ((6 : Nat), PV.int .i64 (0 : Int)),
 ((7 : Nat), PV.int .i64 (0 : Int)), ((11 : Nat), PV.undef), ((24 : Nat), PV.undef)]
 [] ∧
 PartsI l z true [] (0 : Int) (0 : Int) ∧
 ∀ (x : (Bool × List Bs) × Int × Int),
 PartsI l z x.1.1 x.1.2 x.2.1 x.2.2 →
 (decide (x.2.2 ≤ lenZ l) = true →
 (decide (x.2.2 = lenZ l) = false → within x.2.2 (lenZ l)) ∧
 ((bif decide (x.2.2 = lenZ l) then true else decide (byteZ l x.2.2 = z)) = true →
 upto x.2.1 x.2.2 (lenZ l) ∧
 Int.ofNat (x.1.2 ++ [cutZ l x.2.1 x.2.2]).length ≤ maxRow ∧
 inI64 (x.2.2 + (1 : Int)) ∧
 inI64 (x.2.2 + (1 : Int)) ∧
 VS.mk []
 [(0, PV.str l), (1, PV.int .u8 z),
 (4, PV.row true (BRow.strs []) ((4 : Nat) + (32 : Nat))),
 ((5 : Nat), PV.row false (BRow.strs (x.1.2 ++ [cutZ l x.2.1 x.2.2])) (nat_lit 36 + (1 : Nat))),
 ((6 : Nat), PV.int .i64 (x.2.2 + (1 : Int))),
 ((7 : Nat), PV.int .i64 (x.2.2 + (1 : Int))), ((11 : Nat), PV.undef), ((24 : Nat), PV.undef)]
 [] =
 VS.mk []
 [(0, PV.str l), (1, PV.int .u8 z),
 (4, PV.row true (BRow.strs []) ((4 : Nat) + (32 : Nat))),
 ((5 : Nat), PV.row false (BRow.strs (x.1.2 ++ [cutZ l x.2.1 x.2.2])) ((5 : Nat) + (32 : Nat))),
 ((6 : Nat), PV.int .i64 (x.2.2 + (1 : Int))),
 ((7 : Nat), PV.int .i64 (x.2.2 + (1 : Int))), ((11 : Nat), PV.undef), ((24 : Nat), PV.undef)]
 [] ∧
 PartsI l z false (x.1.2 ++ [cutZ l x.2.1 x.2.2]) (x.2.2 + (1 : Int))
 (x.2.2 + (1 : Int)) ∧
 (↑(List.length l) + (1 : Int) - (x.2.2 + (1 : Int))).toNat < (↑(List.length l) + (1 : Int) - x.2.2).toNat) ∧
 ((bif decide (x.2.2 = lenZ l) then true else decide (byteZ l x.2.2 = z)) = false →
 inI64 (x.2.2 + (1 : Int)) ∧
 VS.mk []
 [(0, PV.str l), (1, PV.int .u8 z),
 (4, PV.row true (BRow.strs []) ((4 : Nat) + (32 : Nat))),
 ((5 : Nat), PV.row x.1.1 (BRow.strs x.1.2) ((5 : Nat) + (32 : Nat))),
 ((6 : Nat), PV.int .i64 x.2.1), ((7 : Nat), PV.int .i64 (x.2.2 + (1 : Int))),
 ((11 : Nat), PV.undef), ((24 : Nat), PV.undef)]
 [] =
 VS.mk []
 [(0, PV.str l), (1, PV.int .u8 z),
 (4, PV.row true (BRow.strs []) ((4 : Nat) + (32 : Nat))),
 ((5 : Nat), PV.row x.1.1 (BRow.strs x.1.2) ((5 : Nat) + (32 : Nat))),
 ((6 : Nat), PV.int .i64 x.2.1), ((7 : Nat), PV.int .i64 (x.2.2 + (1 : Int))),
 ((11 : Nat), PV.undef), ((24 : Nat), PV.undef)]
 [] ∧
 PartsI l z x.1.1 x.1.2 x.2.1 (x.2.2 + (1 : Int)) ∧
 (↑(List.length l) + (1 : Int) - (x.2.2 + (1 : Int))).toNat < (↑(List.length l) + (1 : Int) - x.2.2).toNat)) ∧
 (decide (x.2.2 ≤ lenZ l) = false → k (PV.row x.1.1 (BRow.strs x.1.2) (0 : Nat)))) := by kernel_rfl
attribute [local irreducible] Go.Vc.evF
theorem ok_parts (l : Bs) (z : Int) : FuncOk Tryz.prog noT 55 [.str l, .int .u8 z] ⟨l.length ≤ 1000 ∧ 0 ≤ z ∧ z ≤ 255, .row false (.strs (splitB z l)) 0⟩ := evF_ok (by kernel_rfl) X_parts_ok (H := H_parts l z) (fuel := 1000) Tryz.func55 (by kernel_rfl) fun hpre => (vc_parts l z _).mpr (by
  refine ⟨rfl, ⟨by omega, by omega, rfl, by decide, .inl ⟨by omega, by omega, by show splitB z l = [] ++ glueP [] (splitB z l); rw [glue_nil]; rfl⟩⟩, fun x hx => ⟨fun h => ?_, fun h => ?_⟩⟩
  · obtain ⟨⟨nl, o⟩, a, i⟩ := x
    obtain ⟨h0, h1, h2, h3, h4⟩ := hx
    dsimp only at h0 h1 h2 h3 h4 h ⊢
    have hle : i ≤ (l.length : Int) := of_decide_eq_true h
    rcases h4 with ⟨-, hai, hs⟩ | ⟨h4, -⟩
    · have hcut : cutZ l a i = (l.take i.toNat).drop a.toNat := rfl
      have hne : ∀ p : Bs, false = decide (o ++ [p] = []) := fun p => by simp
      refine ⟨fun hq => ?_, fun hq => ?_, fun hq => ?_⟩
      · have : ¬ i = (l.length : Int) := of_decide_eq_false hq
        exact ⟨h1, by unfold lenZ; omega⟩
      · rw [orB6, Bool.or_eq_true, decide_eq_true_eq, decide_eq_true_eq] at hq
        refine ⟨⟨h0, hai, hle⟩, ?_, ⟨by omega, by omega⟩, ⟨by omega, by omega⟩, rfl, ⟨by omega, by omega, hne _, ?_, ?_⟩, by omega⟩
        · show ((o ++ [cutZ l a i]).length : Int) ≤ 16777216
          rw [List.length_append, List.length_singleton]; omega
        · rw [List.length_append, List.length_singleton]; omega
        · by_cases he : i = (l.length : Int)
          · refine .inr ⟨by omega, ?_⟩
            rw [hs, hcut, show l.drop i.toNat = [] from List.drop_eq_nil_of_le (by omega)]
            show _ = o ++ glueP _ [[]]
            simp [glueP]
          · have hlt : i < (l.length : Int) := by omega
            have hby : byteZ l i = z := by rcases hq with hq | hq; exact absurd hq he; exact hq
            refine .inl ⟨by omega, by omega, ?_⟩
            rw [hs, hcut, drop_one h1 hlt, splitB_yes (show ((l.getD i.toNat 0).toNat : Int) = z from hby)]
            rw [show (i + 1).toNat = i.toNat + 1 by omega, show (l.take (i.toNat + 1)).drop (i.toNat + 1) = [] from List.drop_eq_nil_of_le (by rw [List.length_take]; omega), glue_nil]
            simp [glueP]
      · rw [orB6, falB6, Bool.or_eq_true, decide_eq_true_eq, decide_eq_true_eq] at hq
        have hlt : i < (l.length : Int) := by have : ¬ i = lenZ l := fun e => hq (.inl e); unfold lenZ at this; omega
        refine ⟨⟨by omega, by omega⟩, rfl, ⟨by omega, by omega, h2, by omega, .inl ⟨by omega, by omega, ?_⟩⟩, by omega⟩
        obtain ⟨hh, tt, e⟩ := splitB_some z (l.drop (i.toNat + 1))
        rw [hs, drop_one h1 hlt, splitB_no (fun e2 => hq (.inr e2)) e, show (i + 1).toNat = i.toNat + 1 by omega, e]
        have ht : (l.take (i.toNat + 1)).drop a.toNat = (l.take i.toNat).drop a.toNat ++ [l.getD i.toNat 0] := by
          rw [List.take_add_one, List.getElem?_eq_getElem (by omega), List.drop_append_of_le_length (by rw [List.length_take]; omega), List.getD_eq_getElem?_getD, List.getElem?_eq_getElem (by omega)]
          rfl
        rw [ht]
        simp [glueP]
    · omega
  · obtain ⟨⟨nl, o⟩, a, i⟩ := x
    obtain ⟨h0, h1, h2, h3, h4⟩ := hx
    dsimp only at h0 h1 h2 h3 h4 h ⊢
    have hgt : ¬ i ≤ (l.length : Int) := of_decide_eq_false h
    rcases h4 with ⟨h4, -⟩ | ⟨-, h4⟩
    · omega
    · obtain ⟨hh, tt, e⟩ := splitB_some z l
      have hn : nl = false := by rw [h2, h4, e]; rfl
      show PV.row _ _ _ = PV.row _ _ _
      rw [hn, h4])
def ent_parts : List PV → Option CallR := fun xs => match xs with
  | [.str l, .int .u8 z] => some ⟨l.length ≤ 1000 ∧ 0 ≤ z ∧ z ≤ 255, .row false (.strs (splitB z l)) 0⟩
  | _ => none
theorem ent_parts_ok : ∀ xs c, ent_parts xs = some c → FuncOk Tryz.prog noT 55 xs c := fun xs c h => by
  unfold ent_parts at h
  split at h
  · injection h with h; subst h; exact ok_parts _ _
  · cases h
end
section
def digB10 (c : UInt8) : Bool := decide (48 ≤ c.toNat ∧ c.toNat ≤ 57)
def decVal (p : Bs) : Int := p.foldl (fun v c => v * 10 + ((c.toNat : Int) - 48)) 0
def shapeP (p : Bs) : Bool := decide (1 ≤ p.length ∧ p.length ≤ 3) && !(decide (1 < p.length) && decide (byteZ p 0 = 48))
def goodP (p : Bs) : Bool := shapeP p && p.all digB10 && decide (decVal p ≤ 255)
def fourR (l : Bs) : Int × Int × Bool := match splitB 46 l with
  | [a, b, c, d] => if (goodP a && goodP b && goodP c && goodP d) = true then (decVal a * 256 + decVal b, decVal c * 256 + decVal d, true) else (0, 0, false)
  | _ => (0, 0, false)
def FourI (L : List Bs) (n : List Int) (i : Int) : Prop := 0 ≤ i ∧ i ≤ 4 ∧ L.length = 4 ∧ n = (L.take i.toNat).map decVal ++ List.replicate (4 - i.toNat) 0 ∧ ∀ p ∈ L.take i.toNat, goodP p = true
def FourK (L : List Bs) (i : Int) (n : List Int) (k : Int) : Prop := 0 ≤ k ∧ k ≤ (strZ L i).length ∧ shapeP (strZ L i) = true ∧ n = (L.take i.toNat).map decVal ++ decVal ((strZ L i).take k.toNat) :: List.replicate (3 - i.toNat) 0 ∧ ∀ c ∈ (strZ L i).take k.toNat, digB10 c = true
theorem decVal_snoc (q : Bs) (c : UInt8) : decVal (q ++ [c]) = decVal q * 10 + ((c.toNat : Int) - 48) := by unfold decVal; rw [List.foldl_append]; rfl
theorem decVal_bd : ∀ (n : Nat) (p : Bs), p.length = n → (∀ c ∈ p, digB10 c = true) → 0 ≤ decVal p ∧ decVal p < 10 ^ n
  | 0, p, hn, _ => by rw [List.length_eq_zero_iff.1 hn]; exact ⟨by decide, by decide⟩
  | n + 1, p, hn, h => by
    rcases List.eq_nil_or_concat p with rfl | ⟨q, c, rfl⟩
    · simp at hn
    · rw [List.concat_eq_append] at h hn ⊢
      obtain ⟨a, b⟩ := decVal_bd n q (by simpa using hn) (fun d hd => h d (by simp [hd]))
      have hc := of_decide_eq_true (h c (by simp))
      rw [decVal_snoc, Int.pow_succ]
      omega
theorem four_bad {l : Bs} (h4 : (splitB 46 l).length = 4) {p : Bs} (hp : p ∈ splitB 46 l) (hg : ¬ goodP p = true) : fourR l = (0, 0, false) := by
  unfold fourR
  match hq : splitB 46 l, h4, hp with
  | [a, b, c, d], _, hp =>
    dsimp only
    rw [if_neg]
    intro h
    simp only [Bool.and_eq_true] at h
    simp only [List.mem_cons, List.not_mem_nil, or_false] at hp
    rcases hp with rfl | rfl | rfl | rfl
    · exact hg h.1.1.1
    · exact hg h.1.1.2
    · exact hg h.1.2
    · exact hg h.2
theorem four_len {l : Bs} (h4 : ¬ (splitB 46 l).length = 4) : fourR l = (0, 0, false) := by
  unfold fourR
  split
  · rename_i h; rw [h] at h4; exact absurd rfl h4
  · rfl
theorem or_i64 (a b : Int) (ha0 : 0 ≤ a) (ha : a ≤ 255) (hb0 : 0 ≤ b) (hb : b ≤ 255) : bitsZ BinOp.or IntKind.i64 (shlZ IntKind.i64 a 8) b = a * 256 + b := by
  obtain ⟨x, rfl⟩ := Int.eq_ofNat_of_zero_le ha0
  obtain ⟨y, rfl⟩ := Int.eq_ofNat_of_zero_le hb0
  have e1 : shlZ IntKind.i64 (x : Int) 8 = ((x * 256 : Nat) : Int) := by
    unfold shlZ
    rw [show (2 : Int) ^ min (Int.toNat 8) IntKind.i64.bits = 256 by decide]
    exact (IntWalk.i64_in _ (by omega)).trans (by omega)
  rw [e1, show bitsZ BinOp.or IntKind.i64 ((x * 256 : Nat) : Int) (y : Int) = IntKind.i64.wrap ((BitVec.ofInt 64 ((x * 256 : Nat) : Int) ||| BitVec.ofInt 64 (y : Int)).toNat : Int) from rfl, BitVec.ofInt_natCast, BitVec.ofInt_natCast, BitVec.toNat_or, BitVec.toNat_ofNat, BitVec.toNat_ofNat, Nat.mod_eq_of_lt (by omega), Nat.mod_eq_of_lt (by omega)]
  have e2 : x * 256 ||| y = x * 256 + y := by
    have := Nat.shiftLeft_add_eq_or_of_lt (i := 8) (b := y) (by omega) x
    rw [Nat.shiftLeft_eq] at this
    exact this.symm
  rw [e2, IntWalk.i64_in _ (by omega)]
  omega
def X_four : Tbl := tblX [(55, ent_parts)]
def H_four (l : Bs) : Loops := fun i => bif Nat.beq i 6 then some ⟨(List Int) × (Int), (fun s x => ((((((((VS.mk s.loc s.env (setN 38 (.arr 4 (.ints .i64 x.1)) s.lh)).put 7 (.int .i64 x.2)).put 8 .undef).put 15 .undef).put 47 .undef).put 54 .undef).put 72 .undef).put 91 .undef)), (fun s => (VS.ints (VS.mk [] s.lh []) 38, s.int 7)), (fun s x => let n := x.1; let i := x.2; FourI (s.strs 5) n i), (fun s x => let n := x.1; let i := x.2; (4 - i).toNat), [8, 15, 47, 54, 72, 91]⟩ else bif Nat.beq i 11 then some ⟨(List Int) × (Int), (fun s x => ((((VS.mk s.loc s.env (setN 38 (.arr 4 (.ints .i64 x.1)) s.lh)).put 8 (.int .i64 x.2)).put 54 .undef).put 72 .undef)), (fun s => (VS.ints (VS.mk [] s.lh []) 38, s.int 8)), (fun s x => let n := x.1; let k := x.2; FourK (s.strs 5) (s.int 7) n k), (fun s x => let n := x.1; let k := x.2; ((strZ (s.strs 5) (s.int 7)).length + 1 - k : Int).toNat), [54, 72]⟩ else none
theorem X_four_ok : XOk Tryz.prog noT X_four := tblX_cons ent_parts_ok (tblX_nil)
theorem vc_four (l : Bs) (k : PV → Prop) : evF Tryz.prog X_four noT (H_four l) 1000 Tryz.f85 [.str l] k = (
  (List.length l ≤ (1000 : Nat) ∧ (0 : Int) ≤ (46 : Int) ∧ (46 : Int) ≤ (255 : Int)) ∧
 ((!decide (Int.ofNat (splitB (46 : Int) l).length = (4 : Int))) = true →
 k (PV.tup [PV.int .i64 (0 : Int), PV.int .i64 (0 : Int), PV.bool false])) ∧
 ((!decide (Int.ofNat (splitB (46 : Int) l).length = (4 : Int))) = false →
 VS.mk []
 [(0, PV.str l), (2, PV.int .i64 (0 : Int)), (3, PV.int .i64 (0 : Int)),
 (4, PV.bool false),
 (5, PV.row false (BRow.strs (splitB (46 : Int) l)) (0 : Nat)),
 (6, PV.ptr ((6 : Nat) + (32 : Nat)) (0 : Nat)), (7, PV.int .i64 (0 : Int)), ((8 : Nat), PV.undef),
 (13, PV.bool !decide (Int.ofNat (splitB (46 : Int) l).length = (4 : Int))),
 ((15 : Nat), PV.undef), ((47 : Nat), PV.undef), ((54 : Nat), PV.undef), ((72 : Nat), PV.undef),
 ((91 : Nat), PV.undef)]
 [((6 : Nat) + (32 : Nat), PV.arr (4 : Nat) (BRow.ints .i64 (List.replicate (4 : Nat) (0 : Int))))] =
 VS.mk []
 [(0, PV.str l), (2, PV.int .i64 (0 : Int)), (3, PV.int .i64 (0 : Int)),
 (4, PV.bool false),
 (5, PV.row false (BRow.strs (splitB (46 : Int) l)) (0 : Nat)),
 (6, PV.ptr ((6 : Nat) + (32 : Nat)) (0 : Nat)), ((7 : Nat), PV.int .i64 (0 : Int)), ((8 : Nat), PV.undef),
 (13, PV.bool !decide (Int.ofNat (splitB (46 : Int) l).length = (4 : Int))),
 ((15 : Nat), PV.undef), ((47 : Nat), PV.undef), ((54 : Nat), PV.undef), ((72 : Nat), PV.undef),
 ((91 : Nat), PV.undef)]
 [((38 : Nat), PV.arr (4 : Nat) (BRow.ints .i64 (List.replicate (4 : Nat) (0 : Int))))] ∧
 FourI (splitB (46 : Int) l) (List.replicate (4 : Nat) (0 : Int)) (0 : Int) ∧
 ∀ (x : List Int × Int),
 FourI (splitB (46 : Int) l) x.1 x.2 →
 (decide (x.2 < (4 : Int)) = true →
 within x.2 (Int.ofNat (splitB (46 : Int) l).length) ∧
 (decide (lenZ (strZ (splitB (46 : Int) l) x.2) < (1 : Int)) = false →
 within x.2 (Int.ofNat (splitB (46 : Int) l).length)) ∧
 ((bif decide (lenZ (strZ (splitB (46 : Int) l) x.2) < (1 : Int)) then true
 else decide ((3 : Int) < lenZ (strZ (splitB (46 : Int) l) x.2))) =
 false →
 within x.2 (Int.ofNat (splitB (46 : Int) l).length)) ∧
 ((bif decide (lenZ (strZ (splitB (46 : Int) l) x.2) < (1 : Int)) then true
 else decide ((3 : Int) < lenZ (strZ (splitB (46 : Int) l) x.2))) =
 false →
 decide ((1 : Int) < lenZ (strZ (splitB (46 : Int) l) x.2)) = true →
 within x.2 (Int.ofNat (splitB (46 : Int) l).length)) ∧
 ((bif decide (lenZ (strZ (splitB (46 : Int) l) x.2) < (1 : Int)) then true
 else decide ((3 : Int) < lenZ (strZ (splitB (46 : Int) l) x.2))) =
 false →
 decide ((1 : Int) < lenZ (strZ (splitB (46 : Int) l) x.2)) = true →
 within (0 : Int) (lenZ (strZ (splitB (46 : Int) l) x.2))) ∧
 ((bif
 bif decide (lenZ (strZ (splitB (46 : Int) l) x.2) < (1 : Int)) then true
 else decide ((3 : Int) < lenZ (strZ (splitB (46 : Int) l) x.2)) then
 true
 else
 bif decide ((1 : Int) < lenZ (strZ (splitB (46 : Int) l) x.2)) then
 decide (byteZ (strZ (splitB (46 : Int) l) x.2) (0 : Int) = (48 : Int))
 else false) =
 true →
 k (PV.tup [PV.int .i64 (0 : Int), PV.int .i64 (0 : Int), PV.bool false])) ∧
 ((bif
 bif decide (lenZ (strZ (splitB (46 : Int) l) x.2) < (1 : Int)) then true
 else decide ((3 : Int) < lenZ (strZ (splitB (46 : Int) l) x.2)) then
 true
 else
 bif decide ((1 : Int) < lenZ (strZ (splitB (46 : Int) l) x.2)) then
 decide (byteZ (strZ (splitB (46 : Int) l) x.2) (0 : Int) = (48 : Int))
 else false) =
 false →
 VS.mk []
 [(0, PV.str l), (2, PV.int .i64 (0 : Int)),
 (3, PV.int .i64 (0 : Int)), (4, PV.bool false),
 (5, PV.row false (BRow.strs (splitB (46 : Int) l)) (0 : Nat)),
 (6, PV.ptr ((6 : Nat) + (32 : Nat)) (0 : Nat)), ((7 : Nat), PV.int .i64 x.2),
 ((8 : Nat), PV.int .i64 (0 : Int)),
 (13,
 PV.bool !decide (Int.ofNat (splitB (46 : Int) l).length = (4 : Int))),
 ((15 : Nat), PV.bool (decide (x.2 < (4 : Int)))),
 ((47 : Nat),
 PV.bool
 (bif
 bif
 decide
 (lenZ (strZ (splitB (46 : Int) l) x.2) < (1 : Int)) then
 true
 else
 decide
 ((3 : Int) < lenZ (strZ (splitB (46 : Int) l) x.2)) then
 true
 else
 bif
 decide
 ((1 : Int) < lenZ (strZ (splitB (46 : Int) l) x.2)) then
 decide
 (byteZ (strZ (splitB (46 : Int) l) x.2) (0 : Int) =
 (48 : Int))
 else false)),
 ((54 : Nat), PV.undef), ((72 : Nat), PV.undef), ((91 : Nat), PV.undef)]
 [((38 : Nat), PV.arr (4 : Nat) (BRow.ints .i64 x.1))] =
 VS.mk []
 [(0, PV.str l), (2, PV.int .i64 (0 : Int)),
 (3, PV.int .i64 (0 : Int)), (4, PV.bool false),
 (5, PV.row false (BRow.strs (splitB (46 : Int) l)) (0 : Nat)),
 (6, PV.ptr ((6 : Nat) + (32 : Nat)) (0 : Nat)), ((7 : Nat), PV.int .i64 x.2),
 ((8 : Nat), PV.int .i64 (0 : Int)),
 (13,
 PV.bool !decide (Int.ofNat (splitB (46 : Int) l).length = (4 : Int))),
 ((15 : Nat), PV.bool (decide (x.2 < (4 : Int)))),
 ((47 : Nat),
 PV.bool
 (bif
 bif
 decide
 (lenZ (strZ (splitB (46 : Int) l) x.2) < (1 : Int)) then
 true
 else
 decide
 ((3 : Int) < lenZ (strZ (splitB (46 : Int) l) x.2)) then
 true
 else
 bif
 decide
 ((1 : Int) < lenZ (strZ (splitB (46 : Int) l) x.2)) then
 decide
 (byteZ (strZ (splitB (46 : Int) l) x.2) (0 : Int) =
 (48 : Int))
 else false)),
 ((54 : Nat), PV.undef), ((72 : Nat), PV.undef), ((91 : Nat), PV.undef)]
 [((38 : Nat), PV.arr (4 : Nat) (BRow.ints .i64 x.1))] ∧
 FourK (splitB (46 : Int) l) x.2 x.1 (0 : Int) ∧
 ∀ (x_1 : List Int × Int),
 FourK (splitB (46 : Int) l) x.2 x_1.1
 x_1.2 →
 within x.2 (Int.ofNat (splitB (46 : Int) l).length) ∧
 (decide (x_1.2 < lenZ (strZ (splitB (46 : Int) l) x.2)) = true →
 within x.2 (Int.ofNat (splitB (46 : Int) l).length) ∧
 within x_1.2 (lenZ (strZ (splitB (46 : Int) l) x.2)) ∧
 (decide
 (byteZ (strZ (splitB (46 : Int) l) x.2) x_1.2 <
 (48 : Int)) =
 false →
 within x.2 (Int.ofNat (splitB (46 : Int) l).length)) ∧
 (decide
 (byteZ (strZ (splitB (46 : Int) l) x.2) x_1.2 <
 (48 : Int)) =
 false →
 within x_1.2
 (lenZ (strZ (splitB (46 : Int) l) x.2))) ∧
 ((bif
 decide
 (byteZ (strZ (splitB (46 : Int) l) x.2)
 x_1.2 <
 (48 : Int)) then
 true
 else
 decide
 ((57 : Int) <
 byteZ (strZ (splitB (46 : Int) l) x.2)
 x_1.2)) =
 true →
 k
 (PV.tup
 [PV.int .i64 (0 : Int), PV.int .i64 (0 : Int),
 PV.bool false])) ∧
 ((bif
 decide
 (byteZ (strZ (splitB (46 : Int) l) x.2)
 x_1.2 <
 (48 : Int)) then
 true
 else
 decide
 ((57 : Int) <
 byteZ (strZ (splitB (46 : Int) l) x.2)
 x_1.2)) =
 false →
 within x.2 ↑(4 : Nat) ∧
 within x.2 ↑(4 : Nat) ∧
 inI64 (intZ x_1.1 x.2 * (10 : Int)) ∧
 within x.2
 (Int.ofNat (splitB (46 : Int) l).length) ∧
 within x_1.2
 (lenZ
 (strZ (splitB (46 : Int) l) x.2)) ∧
 inI64
 (intZ x_1.1 x.2 * (10 : Int) +
 Go.IntKind.i64.wrap
 (Go.IntKind.u8.wrap
 (byteZ
 (strZ (splitB (46 : Int) l) x.2)
 x_1.2 -
 (48 : Int)))) ∧
 within x.2 ↑(4 : Nat) ∧
 (within x.2 ↑(4 : Nat) ∧ True) ∧
 inI64 (x_1.2 + (1 : Int)) ∧
 VS.mk []
 [(0, PV.str l),
 (2, PV.int .i64 (0 : Int)),
 (3, PV.int .i64 (0 : Int)),
 (4, PV.bool false),
 (5,
 PV.row false
 (BRow.strs
 (splitB (46 : Int) l))
 (0 : Nat)),
 (6, PV.ptr ((6 : Nat) + (32 : Nat)) (0 : Nat)),
 ((7 : Nat), PV.int .i64 x.2),
 ((8 : Nat), PV.int .i64 (x_1.2 + (1 : Int))),
 (13,
 PV.bool
 !decide
 (Int.ofNat
 (splitB (46 : Int)
 l).length =
 (4 : Int))),
 ((15 : Nat), PV.bool (decide (x.2 < (4 : Int)))),
 ((47 : Nat),
 PV.bool
 (bif
 bif
 decide
 (lenZ
 (strZ
 (splitB (46 : Int)
 l)
 x.2) <
 (1 : Int)) then
 true
 else
 decide
 ((3 : Int) <
 lenZ
 (strZ
 (splitB (46 : Int) l)
 x.2)) then
 true
 else
 bif
 decide
 ((1 : Int) <
 lenZ
 (strZ
 (splitB (46 : Int) l)
 x.2)) then
 decide
 (byteZ
 (strZ
 (splitB (46 : Int) l)
 x.2)
 (0 : Int) =
 (48 : Int))
 else false)),
 ((54 : Nat), PV.undef), ((72 : Nat), PV.undef),
 ((91 : Nat), PV.undef)]
 [((6 : Nat) + (32 : Nat),
 PV.arr (4 : Nat)
 (BRow.ints .i64
 (setZ x_1.1 x.2
 (intZ x_1.1 x.2 * (10 : Int) +
 Go.IntKind.i64.wrap
 (Go.IntKind.u8.wrap
 (byteZ
 (strZ
 (splitB (46 : Int)
 l)
 x.2)
 x_1.2 -
 (48 : Int)))))))] =
 VS.mk []
 [(0, PV.str l),
 (2, PV.int .i64 (0 : Int)),
 (3, PV.int .i64 (0 : Int)),
 (4, PV.bool false),
 (5,
 PV.row false
 (BRow.strs
 (splitB (46 : Int) l))
 (0 : Nat)),
 (6, PV.ptr ((6 : Nat) + (32 : Nat)) (0 : Nat)),
 ((7 : Nat), PV.int .i64 x.2),
 ((8 : Nat), PV.int .i64 (x_1.2 + (1 : Int))),
 (13,
 PV.bool
 !decide
 (Int.ofNat
 (splitB (46 : Int)
 l).length =
 (4 : Int))),
 ((15 : Nat), PV.bool (decide (x.2 < (4 : Int)))),
 ((47 : Nat),
 PV.bool
 (bif
 bif
 decide
 (lenZ
 (strZ
 (splitB (46 : Int)
 l)
 x.2) <
 (1 : Int)) then
 true
 else
 decide
 ((3 : Int) <
 lenZ
 (strZ
 (splitB (46 : Int) l)
 x.2)) then
 true
 else
 bif
 decide
 ((1 : Int) <
 lenZ
 (strZ
 (splitB (46 : Int) l)
 x.2)) then
 decide
 (byteZ
 (strZ
 (splitB (46 : Int) l)
 x.2)
 (0 : Int) =
 (48 : Int))
 else false)),
 ((54 : Nat), PV.undef), ((72 : Nat), PV.undef),
 ((91 : Nat), PV.undef)]
 [((38 : Nat),
 PV.arr (4 : Nat)
 (BRow.ints .i64
 (setZ x_1.1 x.2
 (intZ x_1.1 x.2 * (10 : Int) +
 Go.IntKind.i64.wrap
 (Go.IntKind.u8.wrap
 (byteZ
 (strZ
 (splitB (46 : Int)
 l)
 x.2)
 x_1.2 -
 (48 : Int)))))))] ∧
 FourK
 (splitB (46 : Int) l) x.2
 (setZ x_1.1 x.2
 (intZ x_1.1 x.2 * (10 : Int) +
 Go.IntKind.i64.wrap
 (Go.IntKind.u8.wrap
 (byteZ
 (strZ
 (splitB (46 : Int) l) x.2)
 x_1.2 -
 (48 : Int)))))
 (x_1.2 + (1 : Int)) ∧
 (↑(List.length
 (strZ
 (splitB (46 : Int) l)
 x.2)) +
 (1 : Int) -
 (x_1.2 + (1 : Int))).toNat <
 (↑(List.length
 (strZ
 (splitB (46 : Int) l)
 x.2)) +
 (1 : Int) -
 x_1.2).toNat)) ∧
 (decide (x_1.2 < lenZ (strZ (splitB (46 : Int) l) x.2)) =
 false →
 within x.2 ↑(4 : Nat) ∧
 within x.2 ↑(4 : Nat) ∧
 (decide ((255 : Int) < intZ x_1.1 x.2) = true →
 k
 (PV.tup
 [PV.int .i64 (0 : Int), PV.int .i64 (0 : Int),
 PV.bool false])) ∧
 (decide ((255 : Int) < intZ x_1.1 x.2) = false →
 inI64 (x.2 + (1 : Int)) ∧
 VS.mk []
 [(0, PV.str l), (2, PV.int .i64 (0 : Int)),
 (3, PV.int .i64 (0 : Int)), (4, PV.bool false),
 (5,
 PV.row false (BRow.strs (splitB (46 : Int) l))
 (0 : Nat)),
 (6, PV.ptr ((6 : Nat) + (32 : Nat)) (0 : Nat)),
 ((7 : Nat), PV.int .i64 (x.2 + (1 : Int))), ((8 : Nat), PV.undef),
 (13,
 PV.bool
 !decide
 (Int.ofNat (splitB (46 : Int) l).length =
 (4 : Int))),
 ((15 : Nat), PV.undef), ((47 : Nat), PV.undef), ((54 : Nat), PV.undef),
 ((72 : Nat), PV.undef), ((91 : Nat), PV.undef)]
 [((38 : Nat), PV.arr (4 : Nat) (BRow.ints .i64 x_1.1))] =
 VS.mk []
 [(0, PV.str l), (2, PV.int .i64 (0 : Int)),
 (3, PV.int .i64 (0 : Int)), (4, PV.bool false),
 (5,
 PV.row false (BRow.strs (splitB (46 : Int) l))
 (0 : Nat)),
 (6, PV.ptr ((6 : Nat) + (32 : Nat)) (0 : Nat)),
 ((7 : Nat), PV.int .i64 (x.2 + (1 : Int))), ((8 : Nat), PV.undef),
 (13,
 PV.bool
 !decide
 (Int.ofNat (splitB (46 : Int) l).length =
 (4 : Int))),
 ((15 : Nat), PV.undef), ((47 : Nat), PV.undef), ((54 : Nat), PV.undef),
 ((72 : Nat), PV.undef), ((91 : Nat), PV.undef)]
 [((38 : Nat), PV.arr (4 : Nat) (BRow.ints .i64 x_1.1))] ∧
 FourI (splitB (46 : Int) l)
 x_1.1 (x.2 + (1 : Int)) ∧
 ((4 : Int) - (x.2 + (1 : Int))).toNat < ((4 : Int) - x.2).toNat)))) ∧
 (decide (x.2 < (4 : Int)) = false →
 within (0 : Int) ↑(4 : Nat) ∧
 within (0 : Int) ↑(4 : Nat) ∧
 (0 : Int) ≤ (8 : Int) ∧
 within (1 : Int) ↑(4 : Nat) ∧
 within (1 : Int) ↑(4 : Nat) ∧
 within (2 : Int) ↑(4 : Nat) ∧
 within (2 : Int) ↑(4 : Nat) ∧
 (0 : Int) ≤ (8 : Int) ∧
 within (3 : Int) ↑(4 : Nat) ∧
 within (3 : Int) ↑(4 : Nat) ∧
 k
 (PV.tup
 [PV.int .i64
 (bitsZ Go.BinOp.or .i64 (shlZ .i64 (intZ x.1 (0 : Int)) (8 : Int))
 (intZ x.1 (1 : Int))),
 PV.int .i64
 (bitsZ Go.BinOp.or .i64 (shlZ .i64 (intZ x.1 (2 : Int)) (8 : Int))
 (intZ x.1 (3 : Int))),
 PV.bool true])))) := by kernel_rfl
attribute [local irreducible] Go.Vc.evF
theorem ok_four (l : Bs) : FuncOk Tryz.prog noT 85 [.str l] ⟨l.length ≤ 1000, .tup [.int .i64 (fourR l).1, .int .i64 (fourR l).2.1, .bool (fourR l).2.2]⟩ := evF_ok (by kernel_rfl) X_four_ok (H := H_four l) (fuel := 1000) Tryz.func85 (by kernel_rfl) fun hpre => (vc_four l _).mpr (by
  have leaf0 : fourR l = (0, 0, false) → PV.tup [PV.int .i64 0, PV.int .i64 0, PV.bool false] = PV.tup [.int .i64 (fourR l).1, .int .i64 (fourR l).2.1, .bool (fourR l).2.2] := fun h => by rw [h]
  refine ⟨⟨hpre, by omega, by omega⟩, fun h => leaf0 ?_, fun h => ?_⟩
  · rw [notB6, decide_eq_true_eq] at h
    exact four_len (fun e => h (by rw [e]; rfl))
  · rw [falB6, notB6, decide_eq_true_eq] at h
    have h4 : (splitB 46 l).length = 4 := by
      exact Int.ofNat.inj (Classical.not_not.1 h : Int.ofNat (splitB 46 l).length = Int.ofNat 4)
    have hbad : ∀ p ∈ splitB 46 l, ¬ goodP p = true → fourR l = (0, 0, false) := fun p hp hg => four_bad h4 hp hg
    have hgood : (∀ p ∈ splitB 46 l, goodP p = true) → ∃ a b c d, splitB 46 l = [a, b, c, d] ∧ fourR l = (decVal a * 256 + decVal b, decVal c * 256 + decVal d, true) := fun hg => by
      match hq : splitB 46 l, h4, hg with
      | [a, b, c, d], _, hg =>
        refine ⟨a, b, c, d, rfl, ?_⟩
        unfold fourR
        rw [hq]
        dsimp only
        rw [if_pos (by rw [hg a (by simp), hg b (by simp), hg c (by simp), hg d (by simp)]; rfl)]
    generalize splitB 46 l = L at *
    clear h
    refine ⟨rfl, ⟨by omega, by omega, h4, rfl, fun p hp => by cases hp⟩, fun x hx => ⟨fun h => ?_, fun h => ?_⟩⟩
    · obtain ⟨n, i⟩ := x
      obtain ⟨i0, i4, -, hn, hg⟩ := hx
      dsimp only at i0 i4 hn hg h ⊢
      have hi : i < 4 := of_decide_eq_true h
      have wi : within i (Int.ofNat L.length) := ⟨i0, by show i < (L.length : Int); omega⟩
      have wi4 : within i ((4 : Nat) : Int) := ⟨i0, by omega⟩
      have hmem : strZ L i ∈ L := by
        unfold strZ
        rw [List.getD_eq_getElem?_getD, List.getElem?_eq_getElem (by omega)]
        exact List.getElem_mem _
      have htk : L.take (i + 1).toNat = L.take i.toNat ++ [strZ L i] := by
        unfold strZ
        rw [show (i + 1).toNat = i.toNat + 1 by omega, List.take_add_one, List.getElem?_eq_getElem (by omega), List.getD_eq_getElem?_getD, List.getElem?_eq_getElem (by omega)]
        rfl
      have hlA : ((L.take i.toNat).map decVal).length = i.toNat := by rw [List.length_map, List.length_take]; omega
      have hbp := hbad _ hmem
      generalize hP : strZ L i = P at *
      have hsh : shapeP P = true ↔ ¬ (((lenZ P < 1 ∨ 3 < lenZ P)) ∨ (1 < lenZ P ∧ byteZ P 0 = 48)) := by
        unfold shapeP lenZ
        rw [Bool.and_eq_true, decide_eq_true_eq, notB6, Bool.and_eq_true, decide_eq_true_eq, decide_eq_true_eq]
        constructor
        · intro ⟨a, b⟩ c
          rcases c with c | ⟨c, d⟩
          · omega
          · exact b ⟨by omega, d⟩
        · intro a
          refine ⟨?_, fun ⟨b, c⟩ => a (.inr ⟨by omega, c⟩)⟩
          have := fun b => a (.inl b)
          omega
      simp only [andB6, orB6, falB6, Bool.and_eq_true, Bool.or_eq_true, decide_eq_true_eq]
      refine ⟨wi, fun _ => wi, fun _ => wi, fun _ _ => wi, fun _ h1 => ⟨by omega, by omega⟩, fun hb => leaf0 (hbp fun hgp => ?_), fun hb => ?_⟩
      · unfold goodP at hgp
        rw [Bool.and_eq_true, Bool.and_eq_true] at hgp
        exact (hsh.1 hgp.1.1) hb
      · have hs := hsh.2 hb
        have hlp : P.length ≤ 3 := by have h3 : ¬ (3 < lenZ P) := fun c => hb (.inl (.inr c)); unfold lenZ at h3; omega
        refine ⟨trivial, ⟨by omega, by omega, by rw [hP]; exact hs, ?_, fun c hc => by cases hc⟩, fun y hy => ?_⟩
        · rw [hn, show 4 - i.toNat = (3 - i.toNat) + 1 by omega, List.replicate_succ]
          rfl
        · obtain ⟨n2, k⟩ := y
          obtain ⟨k0, k1, -, hn2, hd⟩ := hy
          dsimp only at k0 k1 hn2 hd ⊢
          rw [hP] at k1 hn2 hd
          have hget : intZ n2 i = decVal (P.take k.toNat) := by
            unfold intZ
            rw [hn2, List.getD_eq_getElem?_getD, List.getElem?_append_right (by omega), hlA, Nat.sub_self]; rfl
          have hset : ∀ v : Int, setZ n2 i v = (L.take i.toNat).map decVal ++ v :: List.replicate (3 - i.toNat) 0 := fun v => by
            unfold setZ
            rw [hn2, List.set_append_right _ _ (by omega), hlA, Nat.sub_self, List.set_cons_zero]
          obtain ⟨v0, v1⟩ := decVal_bd _ (P.take k.toNat) rfl hd
          have v2 : decVal (P.take k.toNat) < 1000 := Int.lt_of_lt_of_le v1 (by
            rw [List.length_take]
            have : min k.toNat P.length = 0 ∨ min k.toNat P.length = 1 ∨ min k.toNat P.length = 2 ∨ min k.toNat P.length = 3 := by omega
            rcases this with e | e | e | e <;> rw [e] <;> decide)
          rw [hget]
          refine ⟨wi, fun hlt => ?_, fun hge => ?_⟩
          · have hlt' : k < (P.length : Int) := hlt
            have wk : within k (lenZ P) := ⟨k0, hlt'⟩
            have hby : byteZ P k = ((P.getD k.toNat 0).toNat : Int) := rfl
            have hbr := byteZ_range P k
            have htk2 : P.take (k + 1).toNat = P.take k.toNat ++ [P.getD k.toNat 0] := by
              rw [show (k + 1).toNat = k.toNat + 1 by omega, List.take_add_one, List.getElem?_eq_getElem (by omega), List.getD_eq_getElem?_getD, List.getElem?_eq_getElem (by omega)]
              rfl
            refine ⟨wi, wk, fun _ => wi, fun _ => wk, fun hb2 => leaf0 (hbp fun hgp => ?_), fun hb2 => ?_⟩
            · unfold goodP at hgp
              rw [Bool.and_eq_true, Bool.and_eq_true, List.all_eq_true] at hgp
              have hm : P.getD k.toNat 0 ∈ P := by
                rw [List.getD_eq_getElem?_getD, List.getElem?_eq_getElem (by omega)]
                exact List.getElem_mem _
              have := of_decide_eq_true (hgp.1.2 _ hm)
              omega
            · have e8 : IntKind.i64.wrap (IntKind.u8.wrap (byteZ P k - 48)) = byteZ P k - 48 := by
                rw [IntWalk.u8_in _ (by omega), IntWalk.i64_in _ (by omega)]
              rw [e8, hset]
              refine ⟨wi4, wi4, ⟨by omega, by omega⟩, wi, wk, ⟨by omega, by omega⟩, wi4, ⟨wi4, trivial⟩, ⟨by omega, by omega⟩, trivial, ⟨by omega, by rw [hP]; omega, by rw [hP]; exact hs, ?_, ?_⟩, by omega⟩
              · rw [hP, htk2, decVal_snoc, hby]
              · rw [hP, htk2]
                intro c hc
                rw [List.mem_append, List.mem_singleton] at hc
                rcases hc with hc | rfl
                · exact hd c hc
                · exact decide_eq_true (by omega)
          · have hge' : ¬ k < (P.length : Int) := hge
            have hall : P.take k.toNat = P := List.take_of_length_le (by omega)
            rw [hall] at hd v0 v1 v2 hn2 ⊢
            refine ⟨wi4, wi4, fun hb2 => leaf0 (hbp fun hgp => ?_), fun hb2 => ⟨⟨by omega, by omega⟩, trivial, ⟨by omega, by omega, h4, ?_, ?_⟩, by omega⟩⟩
            · unfold goodP at hgp
              rw [Bool.and_eq_true, decide_eq_true_eq] at hgp
              omega
            · rw [htk, hn2, List.map_append, show 4 - (i + 1).toNat = 3 - i.toNat by omega]
              simp
            · rw [htk]
              intro p hp
              rw [List.mem_append, List.mem_singleton] at hp
              rcases hp with hp | rfl
              · exact hg p hp
              · unfold goodP
                rw [hs, List.all_eq_true.2 hd, decide_eq_true (by omega)]; rfl
    · obtain ⟨n, i⟩ := x
      obtain ⟨i0, i4, -, hn, hg⟩ := hx
      dsimp only at i0 i4 hn hg h ⊢
      have hi : ¬ i < 4 := of_decide_eq_false h
      obtain rfl : i = 4 := by omega
      have hg2 : ∀ p ∈ L, goodP p = true := by rw [show Int.toNat 4 = L.length by omega, List.take_length] at hg; exact hg
      obtain ⟨a, b, c, d, hL, hr⟩ := hgood hg2
      have bd : ∀ p, p ∈ L → 0 ≤ decVal p ∧ decVal p ≤ 255 := fun p hp => by
        have := hg2 p hp
        unfold goodP at this
        rw [Bool.and_eq_true, Bool.and_eq_true, List.all_eq_true, decide_eq_true_eq] at this
        exact ⟨(decVal_bd _ p rfl this.1.2).1, this.2⟩
      have ba := bd a (by rw [hL]; simp)
      have bb := bd b (by rw [hL]; simp)
      have bc := bd c (by rw [hL]; simp)
      have bdd := bd d (by rw [hL]; simp)
      rw [hL] at hn
      replace hn : n = [decVal a, decVal b, decVal c, decVal d] := hn
      have w : ∀ j : Int, 0 ≤ j → j < 4 → within j ((4 : Nat) : Int) := fun j a b => ⟨a, by omega⟩
      refine ⟨w _ (by omega) (by omega), w _ (by omega) (by omega), by omega, w _ (by omega) (by omega), w _ (by omega) (by omega), w _ (by omega) (by omega), w _ (by omega) (by omega), by omega, w _ (by omega) (by omega), w _ (by omega) (by omega), ?_⟩
      rw [hn, show intZ [decVal a, decVal b, decVal c, decVal d] 0 = decVal a from rfl, show intZ [decVal a, decVal b, decVal c, decVal d] 1 = decVal b from rfl, show intZ [decVal a, decVal b, decVal c, decVal d] 2 = decVal c from rfl, show intZ [decVal a, decVal b, decVal c, decVal d] 3 = decVal d from rfl,
        or_i64 _ _ ba.1 ba.2 bb.1 bb.2, or_i64 _ _ bc.1 bc.2 bdd.1 bdd.2]
      show PV.tup _ = PV.tup _
      rw [hr])
def ent_four : List PV → Option CallR := fun xs => match xs with
  | [.str l] => some ⟨l.length ≤ 1000, .tup [.int .i64 (fourR l).1, .int .i64 (fourR l).2.1, .bool (fourR l).2.2]⟩
  | _ => none
theorem ent_four_ok : ∀ xs c, ent_four xs = some c → FuncOk Tryz.prog noT 85 xs c := fun xs c h => by
  unfold ent_four at h
  split at h
  · injection h with h; subst h; exact ok_four _
  · cases h
end
section
def rowGo (last : Bool) : List Bs → List Int → List Int × Bool
  | [], out => (out, true)
  | p :: ps, out => if ((fourR p).2.2 = true ∧ last = true) ∧ ps = [] then (out ++ [(fourR p).1, (fourR p).2.1], true) else if (pieceR p).2 = true then rowGo last ps (out ++ [(pieceR p).1]) else (out, false)
def rowR (l : Bs) (last : Bool) : List Int × Bool := if l = [] then ([], true) else if 8 < (splitB 58 l).length then ([], false) else rowGo last (splitB 58 l) []
def RowI (l : Bs) (last : Bool) (nl : Bool) (o : List Int) (i : Int) : Prop := 0 ≤ i ∧ i ≤ (splitB 58 l).length ∧ nl = decide (o = []) ∧ o.length ≤ 2 * i.toNat ∧ rowGo last ((splitB 58 l).drop i.toNat) o = rowR l last
theorem splitB_each (c : Int) : ∀ (l : Bs), ∀ p ∈ splitB c l, p.length ≤ l.length
  | [], p, hp => by
    have : p = [] := by simpa [splitB] using hp
    rw [this]; simp
  | b :: t, p, hp => by
    obtain ⟨h, r, e⟩ := splitB_some c t
    have ih := splitB_each c t
    by_cases hb : (b.toNat : Int) = c
    · rw [splitB_yes hb, List.mem_cons] at hp
      rcases hp with rfl | hp
      · simp
      · have := ih p hp; rw [List.length_cons]; omega
    · rw [splitB_no hb e, List.mem_cons] at hp
      rw [e] at ih
      rcases hp with rfl | hp
      · have := ih h (by simp); rw [List.length_cons, List.length_cons]; omega
      · have := ih p (by simp [hp]); rw [List.length_cons]; omega
def X_row : Tbl := tblX [(55, ent_parts), (85, ent_four), (86, ent_piece)]
def H_row (l : Bs) (last : Bool) : Loops := fun i => bif Nat.beq i 8 then some ⟨(Bool × List Int) × (Int), (fun s x => ((((((((((s.row s 6 x.1.1 (.ints .i64 x.1.2)).put 8 (.int .i64 x.2)).put 9 .undef).put 10 .undef).put 11 .undef).put 12 .undef).put 13 .undef).put 26 .undef).put 48 .undef).put 63 .undef)), (fun s => ((s.nil 6, s.ints 6), s.int 8)), (fun s x => let o := x.1; let i := x.2; RowI l last o.1 o.2 i), (fun s x => let o := x.1; let i := x.2; ((splitB 58 l).length + 1 - i : Int).toNat), [9, 10, 11, 12, 13, 26, 48, 63]⟩ else none
theorem X_row_ok : XOk Tryz.prog noT X_row := tblX_cons ent_parts_ok (tblX_cons ent_four_ok (tblX_cons ent_piece_ok (tblX_nil)))
theorem vc_row (l : Bs) (last : Bool) (k : PV → Prop) : evF Tryz.prog X_row noT (H_row l last) 1000 Tryz.f48 [.str l, .bool last] k = (
  (decide (l = (ByteArray.mk #[]).data.toList) = true → k (PV.tup [PV.row true (BRow.ints .i64 []) (0 : Nat), PV.bool true])) ∧
 (decide (l = (ByteArray.mk #[]).data.toList) = false →
 (List.length l ≤ (1000 : Nat) ∧ (0 : Int) ≤ (58 : Int) ∧ (58 : Int) ≤ (255 : Int)) ∧
 (decide ((8 : Int) < Int.ofNat (splitB (58 : Int) l).length) = true →
 k (PV.tup [PV.row true (BRow.ints .i64 []) (0 : Nat), PV.bool false])) ∧
 (decide ((8 : Int) < Int.ofNat (splitB (58 : Int) l).length) = false →
 VS.mk []
 [(0, PV.str l), (1, PV.bool last),
 (4, PV.row true (BRow.ints .i64 []) ((4 : Nat) + (32 : Nat))), (5, PV.bool false),
 (6, PV.row true (BRow.ints .i64 []) ((6 : Nat) + (32 : Nat))),
 (7, PV.row false (BRow.strs (splitB (58 : Int) l)) (0 : Nat)),
 (8, PV.int .i64 (0 : Int)), ((9 : Nat), PV.undef), ((10 : Nat), PV.undef), ((11 : Nat), PV.undef),
 ((12 : Nat), PV.undef), ((13 : Nat), PV.undef), (15, PV.bool (decide (l = (ByteArray.mk #[]).data.toList))),
 (21, PV.bool (decide ((8 : Int) < Int.ofNat (splitB (58 : Int) l).length))),
 ((26 : Nat), PV.undef), ((48 : Nat), PV.undef), ((63 : Nat), PV.undef)]
 [] =
 VS.mk []
 [(0, PV.str l), (1, PV.bool last),
 (4, PV.row true (BRow.ints .i64 []) ((4 : Nat) + (32 : Nat))), (5, PV.bool false),
 ((6 : Nat), PV.row true (BRow.ints .i64 []) ((6 : Nat) + (32 : Nat))),
 (7, PV.row false (BRow.strs (splitB (58 : Int) l)) (0 : Nat)),
 ((8 : Nat), PV.int .i64 (0 : Int)), ((9 : Nat), PV.undef), ((10 : Nat), PV.undef), ((11 : Nat), PV.undef),
 ((12 : Nat), PV.undef), ((13 : Nat), PV.undef), (15, PV.bool (decide (l = (ByteArray.mk #[]).data.toList))),
 (21, PV.bool (decide ((8 : Int) < Int.ofNat (splitB (58 : Int) l).length))),
 ((26 : Nat), PV.undef), ((48 : Nat), PV.undef), ((63 : Nat), PV.undef)]
 [] ∧
 RowI l last true [] (0 : Int) ∧
 ∀ (x : (Bool × List Int) × Int),
 RowI l last x.1.1 x.1.2 x.2 →
 (decide (x.2 < Int.ofNat (splitB (58 : Int) l).length) = true →
 within x.2 (Int.ofNat (splitB (58 : Int) l).length) ∧
 (List.length (strZ (splitB (58 : Int) l) x.2)).le (1000 : Nat) ∧
 ((bif
 (fourR
 (strZ (splitB (58 : Int) l) x.2)).2.2 then
 last
 else false) =
 true →
 inI64 (Int.ofNat (splitB (58 : Int) l).length - (1 : Int))) ∧
 ((bif
 bif
 (fourR
 (strZ (splitB (58 : Int) l) x.2)).2.2 then
 last
 else false then
 decide (x.2 = Int.ofNat (splitB (58 : Int) l).length - (1 : Int))
 else false) =
 true →
 Int.ofNat
 (x.1.2 ++
 [(fourR
 (strZ (splitB (58 : Int) l) x.2)).1,
 (fourR
 (strZ (splitB (58 : Int) l) x.2)).2.1]).length ≤
 maxRow ∧
 inI64 (x.2 + (1 : Int)) ∧
 VS.mk []
 [(0, PV.str l), (1, PV.bool last),
 (4, PV.row true (BRow.ints .i64 []) ((4 : Nat) + (32 : Nat))),
 (5, PV.bool false),
 ((6 : Nat),
 PV.row false
 (BRow.ints .i64
 (x.1.2 ++
 [(fourR
 (strZ (splitB (58 : Int) l) x.2)).1,
 (fourR
 (strZ (splitB (58 : Int) l) x.2)).2.1]))
 (nat_lit 37 + (1 : Nat))),
 (7,
 PV.row false (BRow.strs (splitB (58 : Int) l)) (0 : Nat)),
 ((8 : Nat), PV.int .i64 (x.2 + (1 : Int))), ((9 : Nat), PV.undef),
 ((10 : Nat), PV.undef), ((11 : Nat), PV.undef), ((12 : Nat), PV.undef),
 ((13 : Nat), PV.undef), (15, PV.bool (decide (l = (ByteArray.mk #[]).data.toList))),
 (21,
 PV.bool (decide ((8 : Int) < Int.ofNat (splitB (58 : Int) l).length))),
 ((26 : Nat), PV.undef), ((48 : Nat), PV.undef), ((63 : Nat), PV.undef)]
 [] =
 VS.mk []
 [(0, PV.str l), (1, PV.bool last),
 (4, PV.row true (BRow.ints .i64 []) ((4 : Nat) + (32 : Nat))),
 (5, PV.bool false),
 ((6 : Nat),
 PV.row false
 (BRow.ints .i64
 (x.1.2 ++
 [(fourR
 (strZ (splitB (58 : Int) l) x.2)).1,
 (fourR
 (strZ (splitB (58 : Int) l) x.2)).2.1]))
 ((6 : Nat) + (32 : Nat))),
 (7,
 PV.row false (BRow.strs (splitB (58 : Int) l)) (0 : Nat)),
 ((8 : Nat), PV.int .i64 (x.2 + (1 : Int))), ((9 : Nat), PV.undef),
 ((10 : Nat), PV.undef), ((11 : Nat), PV.undef), ((12 : Nat), PV.undef),
 ((13 : Nat), PV.undef), (15, PV.bool (decide (l = (ByteArray.mk #[]).data.toList))),
 (21,
 PV.bool (decide ((8 : Int) < Int.ofNat (splitB (58 : Int) l).length))),
 ((26 : Nat), PV.undef), ((48 : Nat), PV.undef), ((63 : Nat), PV.undef)]
 [] ∧
 RowI l last false
 (x.1.2 ++
 [(fourR
 (strZ (splitB (58 : Int) l) x.2)).1,
 (fourR
 (strZ (splitB (58 : Int) l) x.2)).2.1])
 (x.2 + (1 : Int)) ∧
 (↑(splitB (58 : Int) l).length + (1 : Int) - (x.2 + (1 : Int))).toNat <
 (↑(splitB (58 : Int) l).length + (1 : Int) - x.2).toNat) ∧
 ((bif
 bif
 (fourR
 (strZ (splitB (58 : Int) l) x.2)).2.2 then
 last
 else false then
 decide (x.2 = Int.ofNat (splitB (58 : Int) l).length - (1 : Int))
 else false) =
 false →
 within x.2 (Int.ofNat (splitB (58 : Int) l).length) ∧
 (List.length (strZ (splitB (58 : Int) l) x.2)).le (1000000 : Nat) ∧
 ((!((pieceV (5 : Nat) (0 : Int)
 (strZ (splitB (58 : Int) l) x.2)).2 &&
 decide
 ((1 : Nat) ≤ List.length (strZ (splitB (58 : Int) l) x.2) ∧
 List.length (strZ (splitB (58 : Int) l) x.2) ≤ (4 : Nat)))) =
 true →
 k (PV.tup [PV.row x.1.1 (BRow.ints .i64 x.1.2) (0 : Nat), PV.bool false])) ∧
 ((!((pieceV (5 : Nat) (0 : Int)
 (strZ (splitB (58 : Int) l) x.2)).2 &&
 decide
 ((1 : Nat) ≤ List.length (strZ (splitB (58 : Int) l) x.2) ∧
 List.length (strZ (splitB (58 : Int) l) x.2) ≤ (4 : Nat)))) =
 false →
 Int.ofNat
 (x.1.2 ++
 [(pieceV (5 : Nat) (0 : Int)
 (strZ (splitB (58 : Int) l) x.2)).1]).length ≤
 maxRow ∧
 inI64 (x.2 + (1 : Int)) ∧
 VS.mk []
 [(0, PV.str l), (1, PV.bool last),
 (4, PV.row true (BRow.ints .i64 []) ((4 : Nat) + (32 : Nat))),
 (5, PV.bool false),
 ((6 : Nat),
 PV.row false
 (BRow.ints .i64
 (x.1.2 ++
 [(pieceV (5 : Nat) (0 : Int)
 (strZ (splitB (58 : Int) l) x.2)).1]))
 (nat_lit 37 + (1 : Nat))),
 (7,
 PV.row false (BRow.strs (splitB (58 : Int) l)) (0 : Nat)),
 ((8 : Nat), PV.int .i64 (x.2 + (1 : Int))), ((9 : Nat), PV.undef),
 ((10 : Nat), PV.undef), ((11 : Nat), PV.undef), ((12 : Nat), PV.undef),
 ((13 : Nat), PV.undef), (15, PV.bool (decide (l = (ByteArray.mk #[]).data.toList))),
 (21,
 PV.bool
 (decide ((8 : Int) < Int.ofNat (splitB (58 : Int) l).length))),
 ((26 : Nat), PV.undef), ((48 : Nat), PV.undef), ((63 : Nat), PV.undef)]
 [] =
 VS.mk []
 [(0, PV.str l), (1, PV.bool last),
 (4, PV.row true (BRow.ints .i64 []) ((4 : Nat) + (32 : Nat))),
 (5, PV.bool false),
 ((6 : Nat),
 PV.row false
 (BRow.ints .i64
 (x.1.2 ++
 [(pieceV (5 : Nat) (0 : Int)
 (strZ (splitB (58 : Int) l) x.2)).1]))
 ((6 : Nat) + (32 : Nat))),
 (7,
 PV.row false (BRow.strs (splitB (58 : Int) l)) (0 : Nat)),
 ((8 : Nat), PV.int .i64 (x.2 + (1 : Int))), ((9 : Nat), PV.undef),
 ((10 : Nat), PV.undef), ((11 : Nat), PV.undef), ((12 : Nat), PV.undef),
 ((13 : Nat), PV.undef), (15, PV.bool (decide (l = (ByteArray.mk #[]).data.toList))),
 (21,
 PV.bool
 (decide ((8 : Int) < Int.ofNat (splitB (58 : Int) l).length))),
 ((26 : Nat), PV.undef), ((48 : Nat), PV.undef), ((63 : Nat), PV.undef)]
 [] ∧
 RowI l last false
 (x.1.2 ++
 [(pieceV (5 : Nat) (0 : Int)
 (strZ (splitB (58 : Int) l) x.2)).1])
 (x.2 + (1 : Int)) ∧
 (↑(splitB (58 : Int) l).length + (1 : Int) - (x.2 + (1 : Int))).toNat <
 (↑(splitB (58 : Int) l).length + (1 : Int) - x.2).toNat))) ∧
 (decide (x.2 < Int.ofNat (splitB (58 : Int) l).length) = false →
 k (PV.tup [PV.row x.1.1 (BRow.ints .i64 x.1.2) (0 : Nat), PV.bool true]))))) := by kernel_rfl
attribute [local irreducible] Go.Vc.evF
theorem ok_row (l : Bs) (last : Bool) : FuncOk Tryz.prog noT 48 [.str l, .bool last] ⟨l.length ≤ 1000, .tup [.row (decide ((rowR l last).1 = [])) (.ints .i64 (rowR l last).1) 0, .bool (rowR l last).2]⟩ := evF_ok (by kernel_rfl) X_row_ok (H := H_row l last) (fuel := 1000) Tryz.func48 (by kernel_rfl) fun hpre => (vc_row l last _).mpr (by
  have leaf : ∀ (nl : Bool) (o : List Int) (b : Bool), nl = decide (o = []) → rowR l last = (o, b) → PV.tup [.row nl (.ints .i64 o) 0, .bool b] = PV.tup [.row (decide ((rowR l last).1 = [])) (.ints .i64 (rowR l last).1) 0, .bool (rowR l last).2] := fun nl o b h1 h2 => by rw [h2, h1]
  refine ⟨fun h => leaf _ _ _ rfl ?_, fun h => ⟨⟨hpre, by omega, by omega⟩, fun h8 => leaf _ _ _ rfl ?_, fun h8 => ?_⟩⟩
  · have : l = [] := of_decide_eq_true h
    unfold rowR; rw [if_pos this]
  · have h1 : ¬ l = [] := of_decide_eq_false h
    have h2 : (8 : Int) < ((splitB 58 l).length : Int) := of_decide_eq_true h8
    unfold rowR; rw [if_neg h1, if_pos (by omega)]
  · have h1 : ¬ l = [] := of_decide_eq_false h
    have h2 : ¬ (8 : Int) < ((splitB 58 l).length : Int) := of_decide_eq_false h8
    have hpl := splitB_each 58 l
    have hr0 : rowGo last (splitB 58 l) [] = rowR l last := by unfold rowR; rw [if_neg h1, if_neg (by omega)]
    refine ⟨rfl, ⟨by omega, by omega, rfl, by simp, hr0⟩, fun x hx => ⟨fun hlt => ?_, fun hge => ?_⟩⟩
    · obtain ⟨⟨nl, o⟩, i⟩ := x
      obtain ⟨i0, i1, hn, ho, hg⟩ := hx
      dsimp only at i0 i1 hn ho hg hlt ⊢
      have hi : i < ((splitB 58 l).length : Int) := of_decide_eq_true hlt
      have wi : within i (Int.ofNat (splitB 58 l).length) := ⟨i0, hi⟩
      have hmem : strZ (splitB 58 l) i ∈ splitB 58 l := by
        unfold strZ
        rw [List.getD_eq_getElem?_getD, List.getElem?_eq_getElem (by omega)]
        exact List.getElem_mem _
      have hdr : (splitB 58 l).drop i.toNat = strZ (splitB 58 l) i :: (splitB 58 l).drop (i.toNat + 1) := by
        unfold strZ
        rw [List.drop_eq_getElem_cons (by omega), List.getD_eq_getElem?_getD, List.getElem?_eq_getElem (by omega)]
        rfl
      have hps : (splitB 58 l).drop (i.toNat + 1) = [] ↔ i = ((splitB 58 l).length : Int) - 1 := by
        rw [← List.length_eq_zero_iff, List.length_drop]; omega
      have hp := hpl _ hmem
      rw [hdr, rowGo] at hg
      have e1 : (i + 1).toNat = i.toNat + 1 := by omega
      generalize hP : strZ (splitB 58 l) i = P at *
      have hpc : pieceR P = ((pieceV 5 0 P).1, (pieceV 5 0 P).2 && decide (1 ≤ P.length ∧ P.length ≤ 4)) := rfl
      have hml : maxRow = 16777216 := rfl
      simp only [andB6, falB6, Bool.and_eq_true, decide_eq_true_eq]
      refine ⟨wi, by show P.length ≤ 1000; omega, fun _ => ⟨by show _ ≤ ((splitB 58 l).length : Int) - 1; omega, by show ((splitB 58 l).length : Int) - 1 ≤ _; omega⟩, fun hc => ?_, fun hc => ?_⟩
      · have hc2 : (splitB 58 l).drop (i.toNat + 1) = [] := hps.2 hc.2
        rw [if_pos ⟨hc.1, hc2⟩] at hg
        refine ⟨?_, ⟨by omega, by omega⟩, trivial, ⟨by omega, by omega, by simp, ?_, ?_⟩, by omega⟩
        · show ((o ++ [(fourR P).1, (fourR P).2.1]).length : Int) ≤ maxRow
          rw [List.length_append]; show ((o.length + 2 : Nat) : Int) ≤ _; omega
        · rw [List.length_append]; show o.length + 2 ≤ _; omega
        · rw [e1, hc2]
          exact hg
      · rw [if_neg (fun hh => hc ⟨hh.1, hps.1 hh.2⟩)] at hg
        refine ⟨wi, by show P.length ≤ 1000000; omega, fun hb => leaf _ _ _ hn ?_, fun hb => ?_⟩
        · rw [if_neg (fun hh => by rw [hpc] at hh; rw [notB6] at hb; exact hb hh)] at hg
          exact hg.symm
        · rw [if_pos (by rw [hpc]; rw [notB6] at hb; exact Classical.not_not.1 hb)] at hg
          refine ⟨?_, ⟨by omega, by omega⟩, trivial, ⟨by omega, by omega, by simp, ?_, ?_⟩, by omega⟩
          · show ((o ++ [(pieceV 5 0 P).1]).length : Int) ≤ maxRow
            rw [List.length_append]; show ((o.length + 1 : Nat) : Int) ≤ _; omega
          · rw [List.length_append]; show o.length + 1 ≤ _; omega
          · rw [e1]
            exact hg
    · obtain ⟨⟨nl, o⟩, i⟩ := x
      obtain ⟨i0, i1, hn, ho, hg⟩ := hx
      dsimp only at i0 i1 hn ho hg hge ⊢
      have hi : ¬ i < ((splitB 58 l).length : Int) := of_decide_eq_false hge
      rw [List.drop_eq_nil_of_le (by omega)] at hg
      exact leaf _ _ _ hn hg.symm)
def ent_row : List PV → Option CallR := fun xs => match xs with
  | [.str l, .bool last] => some ⟨l.length ≤ 1000, .tup [.row (decide ((rowR l last).1 = [])) (.ints .i64 (rowR l last).1) 0, .bool (rowR l last).2]⟩
  | _ => none
theorem ent_row_ok : ∀ xs c, ent_row xs = some c → FuncOk Tryz.prog noT 48 xs c := fun xs c h => by
  unfold ent_row at h
  split at h
  · injection h with h; subst h; exact ok_row _ _
  · cases h
end
section
def DecJ (l : Bs) (o : Bool × Bs) (i : Int) : Prop := ∃ j : Nat, i = j ∧ j ≤ l.length ∧ o.1 = o.2.isEmpty ∧ o.2 ++ decP (l.drop j) = decP l ∧ o.2.length ≤ j
def decE (l : Bs) : Bool := (decP l).isEmpty
def X_rpdec : Tbl := tblX [(54, ent_rdig)]
def H_rpdec (l : Bs) : Loops := fun i => bif Nat.beq i 3 then some ⟨(Bool × Bs) × (Int), (fun s x => ((((s.row s 3 x.1.1 (.bytes x.1.2)).put 4 (.int .i64 x.2)).put 8 .undef).put 37 .undef)), (fun s => ((s.nil 3, s.bytes 3), s.int 4)), (fun s x => let b := x.1; let i := x.2; DecJ l b i), (fun s x => let b := x.1; let i := x.2; ((l.length : Int) - i).toNat), [8, 37]⟩ else none
theorem X_rpdec_ok : XOk Tryz.prog noT X_rpdec := tblX_cons ent_rdig_ok (tblX_nil)
theorem vc_rpdec (l : Bs) (k : PV → Prop) : evF Tryz.prog X_rpdec noT (H_rpdec l) 1000 Tryz.f29 [.str l] k = (
  VS.mk []
 [(0, PV.str l), (2, PV.row true (BRow.bytes []) ((2 : Nat) + (32 : Nat))),
 (3, PV.row true (BRow.bytes []) ((3 : Nat) + (32 : Nat))), (4, PV.int .i64 (0 : Int)),
 ((8 : Nat), PV.undef), ((37 : Nat), PV.undef)]
 [] =
 VS.mk []
 [(0, PV.str l), (2, PV.row true (BRow.bytes []) ((2 : Nat) + (32 : Nat))),
 ((3 : Nat), PV.row true (BRow.bytes []) ((3 : Nat) + (32 : Nat))), ((4 : Nat), PV.int .i64 (0 : Int)),
 ((8 : Nat), PV.undef), ((37 : Nat), PV.undef)]
 [] ∧
 DecJ l (true, []) (0 : Int) ∧
 ∀ (x : (Bool × Bs) × Int),
 DecJ l x.1 x.2 →
 (decide (x.2 < lenZ l) = true →
 within x.2 (lenZ l) ∧
 (decide (byteZ l x.2 = (37 : Int)) = true → inI64 (lenZ l - x.2)) ∧
 ((bif decide (byteZ l x.2 = (37 : Int)) then decide ((2 : Int) < lenZ l - x.2) else false) = true →
 inI64 (x.2 + (1 : Int))) ∧
 ((bif decide (byteZ l x.2 = (37 : Int)) then decide ((2 : Int) < lenZ l - x.2) else false) = true →
 within (x.2 + (1 : Int)) (lenZ l)) ∧
 ((bif decide (byteZ l x.2 = (37 : Int)) then decide ((2 : Int) < lenZ l - x.2) else false) = true →
 (0 : Int) ≤ byteZ l (x.2 + (1 : Int)) ∧ byteZ l (x.2 + (1 : Int)) ≤ (255 : Int)) ∧
 ((bif bif decide (byteZ l x.2 = (37 : Int)) then decide ((2 : Int) < lenZ l - x.2) else false then
 decide ((0 : Int) ≤ hexN (byteZ l (x.2 + (1 : Int))))
 else false) =
 true →
 inI64 (x.2 + (2 : Int))) ∧
 ((bif bif decide (byteZ l x.2 = (37 : Int)) then decide ((2 : Int) < lenZ l - x.2) else false then
 decide ((0 : Int) ≤ hexN (byteZ l (x.2 + (1 : Int))))
 else false) =
 true →
 within (x.2 + (2 : Int)) (lenZ l)) ∧
 ((bif bif decide (byteZ l x.2 = (37 : Int)) then decide ((2 : Int) < lenZ l - x.2) else false then
 decide ((0 : Int) ≤ hexN (byteZ l (x.2 + (1 : Int))))
 else false) =
 true →
 (0 : Int) ≤ byteZ l (x.2 + (2 : Int)) ∧ byteZ l (x.2 + (2 : Int)) ≤ (255 : Int)) ∧
 ((bif
 bif bif decide (byteZ l x.2 = (37 : Int)) then decide ((2 : Int) < lenZ l - x.2) else false then
 decide ((0 : Int) ≤ hexN (byteZ l (x.2 + (1 : Int))))
 else false then
 decide ((0 : Int) ≤ hexN (byteZ l (x.2 + (2 : Int))))
 else false) =
 true →
 inI64 (x.2 + (1 : Int)) ∧
 within (x.2 + (1 : Int)) (lenZ l) ∧
 ((0 : Int) ≤ byteZ l (x.2 + (1 : Int)) ∧ byteZ l (x.2 + (1 : Int)) ≤ (255 : Int)) ∧
 (0 : Int) ≤ (4 : Int) ∧
 inI64 (x.2 + (2 : Int)) ∧
 within (x.2 + (2 : Int)) (lenZ l) ∧
 ((0 : Int) ≤ byteZ l (x.2 + (2 : Int)) ∧ byteZ l (x.2 + (2 : Int)) ≤ (255 : Int)) ∧
 allU8
 [PV.int .u8
 (Go.IntKind.u8.wrap
 (bitsZ Go.BinOp.or .i64
 (shlZ .i64
 (hexN (byteZ l (x.2 + (1 : Int)))) (4 : Int))
 (hexN (byteZ l (x.2 + (2 : Int))))))] ∧
 Int.ofNat
 (List.length
 (x.1.2 ++
 [zByte
 (Go.IntKind.u8.wrap
 (bitsZ Go.BinOp.or .i64
 (shlZ .i64
 (hexN (byteZ l (x.2 + (1 : Int)))) (4 : Int))
 (hexN (byteZ l (x.2 + (2 : Int))))))])) ≤
 maxRow ∧
 inI64 (x.2 + (2 : Int)) ∧
 inI64 (x.2 + (2 : Int) + (1 : Int)) ∧
 VS.mk []
 [(0, PV.str l),
 (2, PV.row true (BRow.bytes []) ((2 : Nat) + (32 : Nat))),
 ((3 : Nat),
 PV.row false
 (BRow.bytes
 (x.1.2 ++
 [zByte
 (Go.IntKind.u8.wrap
 (bitsZ Go.BinOp.or .i64
 (shlZ .i64
 (hexN (byteZ l (x.2 + (1 : Int))))
 (4 : Int))
 (hexN
 (byteZ l (x.2 + (2 : Int))))))]))
 (nat_lit 34 + (1 : Nat))),
 ((4 : Nat), PV.int .i64 (x.2 + (2 : Int) + (1 : Int))),
 ((8 : Nat), PV.undef), ((37 : Nat), PV.undef)]
 [] =
 VS.mk []
 [(0, PV.str l),
 (2, PV.row true (BRow.bytes []) ((2 : Nat) + (32 : Nat))),
 ((3 : Nat),
 PV.row false
 (BRow.bytes
 (x.1.2 ++
 [zByte
 (Go.IntKind.u8.wrap
 (bitsZ Go.BinOp.or .i64
 (shlZ .i64
 (hexN (byteZ l (x.2 + (1 : Int))))
 (4 : Int))
 (hexN
 (byteZ l (x.2 + (2 : Int))))))]))
 ((3 : Nat) + (32 : Nat))),
 ((4 : Nat), PV.int .i64 (x.2 + (2 : Int) + (1 : Int))),
 ((8 : Nat), PV.undef), ((37 : Nat), PV.undef)]
 [] ∧
 DecJ l
 (false,
 x.1.2 ++
 [zByte
 (Go.IntKind.u8.wrap
 (bitsZ Go.BinOp.or .i64
 (shlZ .i64
 (hexN (byteZ l (x.2 + (1 : Int))))
 (4 : Int))
 (hexN (byteZ l (x.2 + (2 : Int))))))])
 (x.2 + (2 : Int) + (1 : Int)) ∧
 (↑(List.length l) - (x.2 + (2 : Int) + (1 : Int))).toNat < (↑(List.length l) - x.2).toNat) ∧
 ((bif
 bif bif decide (byteZ l x.2 = (37 : Int)) then decide ((2 : Int) < lenZ l - x.2) else false then
 decide ((0 : Int) ≤ hexN (byteZ l (x.2 + (1 : Int))))
 else false then
 decide ((0 : Int) ≤ hexN (byteZ l (x.2 + (2 : Int))))
 else false) =
 false →
 within x.2 (lenZ l) ∧
 allU8 [PV.int .u8 (byteZ l x.2)] ∧
 Int.ofNat (List.length (x.1.2 ++ [zByte (byteZ l x.2)])) ≤ maxRow ∧
 inI64 (x.2 + (1 : Int)) ∧
 VS.mk []
 [(0, PV.str l), (2, PV.row true (BRow.bytes []) ((2 : Nat) + (32 : Nat))),
 ((3 : Nat),
 PV.row false (BRow.bytes (x.1.2 ++ [zByte (byteZ l x.2)]))
 (nat_lit 34 + (1 : Nat))),
 ((4 : Nat), PV.int .i64 (x.2 + (1 : Int))), ((8 : Nat), PV.undef),
 ((37 : Nat), PV.undef)]
 [] =
 VS.mk []
 [(0, PV.str l), (2, PV.row true (BRow.bytes []) ((2 : Nat) + (32 : Nat))),
 ((3 : Nat),
 PV.row false (BRow.bytes (x.1.2 ++ [zByte (byteZ l x.2)]))
 ((3 : Nat) + (32 : Nat))),
 ((4 : Nat), PV.int .i64 (x.2 + (1 : Int))), ((8 : Nat), PV.undef),
 ((37 : Nat), PV.undef)]
 [] ∧
 DecJ l (false, x.1.2 ++ [zByte (byteZ l x.2)])
 (x.2 + (1 : Int)) ∧
 (↑(List.length l) - (x.2 + (1 : Int))).toNat < (↑(List.length l) - x.2).toNat)) ∧
 (decide (x.2 < lenZ l) = false → k (PV.row x.1.1 (BRow.bytes x.1.2) (0 : Nat)))) := by kernel_rfl
attribute [local irreducible] Go.Vc.evF
theorem ok_rpdec (l : Bs) : FuncOk Tryz.prog noT 29 [.str l] ⟨l.length ≤ 1000000, .row (decE l) (.bytes (decP l)) 0⟩ := evF_ok (by kernel_rfl) X_rpdec_ok (H := H_rpdec l) (fuel := 1000) Tryz.func29 (by kernel_rfl) fun hpre => (vc_rpdec l _).mpr (by
  have hl := hpre
  have andB : ∀ a b : Bool, (bif a then b else false) = true → a = true ∧ b = true := fun a b h => by
    cases a
    · cases h
    · exact ⟨rfl, h⟩
  refine ⟨rfl, ⟨0, rfl, by omega, rfl, rfl, Nat.le_refl _⟩, fun x hx => ?_⟩
  obtain ⟨⟨nl, o⟩, i⟩ := x
  obtain ⟨j, h1, h2, h3, h4, h5⟩ := hx
  dsimp only at h1 h2 h3 h4 h5 ⊢
  subst h1
  have e1 : (j : Int) + 1 = ((j + 1 : Nat) : Int) := by push_cast; rfl
  have e2 : (j : Int) + 2 = ((j + 2 : Nat) : Int) := by push_cast; rfl
  have e3 : ((j + 2 : Nat) : Int) + 1 = ((j + 3 : Nat) : Int) := by push_cast; rfl
  have hu : ∀ z : Int, 0 ≤ z ∧ z ≤ 255 → allU8 [.int .u8 z] := fun z hz => by simp [allU8]; exact hz
  have hh1 : hexN (byt l (j + 1)) = hxZ (byt l (j + 1)) := rfl
  have hh2 : hexN (byt l (j + 2)) = hxZ (byt l (j + 2)) := rfl
  rw [e1, e2, e3, byZ_at l j, byZ_at l (j + 1), byZ_at l (j + 2), hh1, hh2]
  have r0 := byt_range l j
  have r1 := byt_range l (j + 1)
  have r2 := byt_range l (j + 2)
  have le1 := hxZ_le (byt l (j + 1))
  have le2 := hxZ_le (byt l (j + 2))
  have go : ∀ (c : UInt8) (d : Nat), j < d → d ≤ l.length → decP (l.drop j) = c :: decP (l.drop d) → DecJ l (false, o ++ [c]) (d : Int) := fun c d hd hd2 hc => by
    refine ⟨d, rfl, hd2, by simp, ?_, by show (o ++ [_]).length ≤ _; rw [List.length_append]; show o.length + 1 ≤ _; omega⟩
    show (o ++ [_]) ++ _ = _
    rw [← h4, hc, List.append_assoc]; rfl
  refine ⟨fun h => ?_, fun h => ?_⟩
  · have hj : j < l.length := by have := of_decide_eq_true h; unfold lenZ at this; omega
    have F2 : (bif decide (byt l j = 37) then decide (2 < lenZ l - (j : Int)) else false) = true → byt l j = 37 ∧ j + 2 < l.length := fun h => by
      obtain ⟨a, b⟩ := andB _ _ h
      have := of_decide_eq_true b
      unfold lenZ at this
      exact ⟨of_decide_eq_true a, by omega⟩
    refine ⟨by unfold within lenZ; omega, fun _ => by unfold inI64 lenZ; omega, fun _ => by unfold inI64; omega, fun h => by have := F2 h; unfold within lenZ; omega, fun _ => r1, fun _ => by unfold inI64; omega, fun h => by have := F2 (andB _ _ h).1; unfold within lenZ; omega, fun _ => r2, fun h => ?_, fun h => ?_⟩
    · obtain ⟨hA, hG⟩ := andB _ _ h
      obtain ⟨hA1, hH⟩ := andB _ _ hA
      have hF := F2 hA1
      have hH' := of_decide_eq_true hH
      have hG' := of_decide_eq_true hG
      rw [or_hex hH' le1 hG' le2]
      refine ⟨by unfold inI64; omega, by unfold within lenZ; omega, r1, by omega, by unfold inI64; omega, by unfold within lenZ; omega, r2, hu _ (by omega), ?_, by unfold inI64; omega, by unfold inI64; omega, rfl, go _ (j + 3) (by omega) (by omega) ?_, by omega⟩
      · rw [List.length_append]; show ((o.length + 1 : Nat) : Int) ≤ 16777216; omega
      · rw [decP_at l j hj, if_pos ⟨hF.1, hF.2, hH', hG'⟩]
    · refine ⟨by unfold within lenZ; omega, hu _ r0, ?_, by unfold inI64; omega, rfl, go _ (j + 1) (by omega) (by omega) ?_, by omega⟩
      · rw [List.length_append]; show ((o.length + 1 : Nat) : Int) ≤ 16777216; omega
      · rw [decP_at l j hj, if_neg]
        intro g
        rw [decide_eq_true g.1, decide_eq_true (show 2 < lenZ l - (j : Int) by unfold lenZ; omega), decide_eq_true g.2.2.1, decide_eq_true g.2.2.2] at h
        cases h
  · have hj : j = l.length := by have := of_decide_eq_false h; unfold lenZ at this; omega
    subst hj
    rw [List.drop_length] at h4
    have e4 : o = decP l := by rw [← h4]; exact (List.append_nil o).symm
    show PV.row nl _ _ = PV.row (decE l) _ _
    unfold decE
    rw [h3, e4])
def ent_rpdec : List PV → Option CallR := fun xs => match xs with
  | [.str l] => some ⟨l.length ≤ 1000000, .row (decE l) (.bytes (decP l)) 0⟩
  | _ => none
theorem ent_rpdec_ok : ∀ xs c, ent_rpdec xs = some c → FuncOk Tryz.prog noT 29 xs c := fun xs c h => by
  unfold ent_rpdec at h
  split at h
  · injection h with h; subst h; exact ok_rpdec _
  · cases h
end
section
def X_rlower : Tbl := tblX []
def H_rlower (l : Bs) : Loops := fun i => bif Nat.beq i 3 then some ⟨(Bool × Bs) × (Int), (fun s x => ((((s.row s 3 x.1.1 (.bytes x.1.2)).put 4 (.int .i64 x.2)).put 10 .undef).put 24 .undef)), (fun s => ((s.nil 3, s.bytes 3), s.int 4)), (fun s x => let b := x.1; let i := x.2; 0 ≤ i ∧ i ≤ l.length ∧ b.1 = false ∧ b.2 = (lowB l).take i.toNat ++ l.drop i.toNat), (fun s x => let b := x.1; let i := x.2; ((l.length : Int) - i).toNat), [10, 24]⟩ else none
theorem X_rlower_ok : XOk Tryz.prog noT X_rlower := tblX_nil
theorem vc_rlower (l : Bs) (k : PV → Prop) : evF Tryz.prog X_rlower noT (H_rlower l) 1000 Tryz.f28 [.str l] k = (
  List.length l ≤ Go.Vc.maxLen ∧
 VS.mk []
 [(0, PV.str l), (2, PV.str (ByteArray.mk #[]).data.toList),
 (3, PV.row false (BRow.bytes l) ((6 : Nat) + (32 : Nat))), (4, PV.int .i64 (0 : Int)),
 ((10 : Nat), PV.undef), ((24 : Nat), PV.undef)]
 [] =
 VS.mk []
 [(0, PV.str l), (2, PV.str (ByteArray.mk #[]).data.toList),
 ((3 : Nat), PV.row false (BRow.bytes l) ((6 : Nat) + (32 : Nat))), ((4 : Nat), PV.int .i64 (0 : Int)),
 ((10 : Nat), PV.undef), ((24 : Nat), PV.undef)]
 [] ∧
 ((0 : Int) ≤ (0 : Int) ∧
 (0 : Int) ≤ ↑(List.length l) ∧
 false = false ∧ l = List.take (Int.toNat (0 : Int)) (lowB l) ++ List.drop (Int.toNat (0 : Int)) l) ∧
 ∀ (x : (Bool × Bs) × Int),
 (0 : Int) ≤ x.2 ∧
 x.2 ≤ ↑(List.length l) ∧
 x.1.1 = false ∧ x.1.2 = List.take x.2.toNat (lowB l) ++ List.drop x.2.toNat l →
 (decide (x.2 < Int.ofNat (List.length x.1.2)) = true →
 within x.2 (Int.ofNat (List.length x.1.2)) ∧
 (decide ((65 : Int) ≤ byteZ x.1.2 x.2) = true → within x.2 (Int.ofNat (List.length x.1.2))) ∧
 ((bif decide ((65 : Int) ≤ byteZ x.1.2 x.2) then decide (byteZ x.1.2 x.2 ≤ (90 : Int)) else false) = true →
 within x.2 (Int.ofNat (List.length x.1.2)) ∧
 within x.2 (Int.ofNat (List.length x.1.2)) ∧
 ((0 : Int) ≤ Go.IntKind.u8.wrap (byteZ x.1.2 x.2 + (32 : Int)) ∧
 Go.IntKind.u8.wrap (byteZ x.1.2 x.2 + (32 : Int)) ≤ (255 : Int)) ∧
 inI64 (x.2 + (1 : Int)) ∧
 VS.mk []
 [(0, PV.str l), (2, PV.str (ByteArray.mk #[]).data.toList),
 ((3 : Nat),
 PV.row x.1.1
 (BRow.bytes
 (setZ x.1.2 x.2 (zByte (Go.IntKind.u8.wrap (byteZ x.1.2 x.2 + (32 : Int))))))
 ((6 : Nat) + (32 : Nat))),
 ((4 : Nat), PV.int .i64 (x.2 + (1 : Int))), ((10 : Nat), PV.undef), ((24 : Nat), PV.undef)]
 [] =
 VS.mk []
 [(0, PV.str l), (2, PV.str (ByteArray.mk #[]).data.toList),
 ((3 : Nat),
 PV.row x.1.1
 (BRow.bytes
 (setZ x.1.2 x.2 (zByte (Go.IntKind.u8.wrap (byteZ x.1.2 x.2 + (32 : Int))))))
 ((6 : Nat) + (32 : Nat))),
 ((4 : Nat), PV.int .i64 (x.2 + (1 : Int))), ((10 : Nat), PV.undef), ((24 : Nat), PV.undef)]
 [] ∧
 ((0 : Int) ≤ x.2 + (1 : Int) ∧
 x.2 + (1 : Int) ≤ ↑(List.length l) ∧
 x.1.1 = false ∧
 setZ x.1.2 x.2 (zByte (Go.IntKind.u8.wrap (byteZ x.1.2 x.2 + (32 : Int)))) =
 List.take (x.2 + (1 : Int)).toNat (lowB l) ++
 List.drop (x.2 + (1 : Int)).toNat l) ∧
 (↑(List.length l) - (x.2 + (1 : Int))).toNat < (↑(List.length l) - x.2).toNat) ∧
 ((bif decide ((65 : Int) ≤ byteZ x.1.2 x.2) then decide (byteZ x.1.2 x.2 ≤ (90 : Int)) else false) = false →
 inI64 (x.2 + (1 : Int)) ∧
 VS.mk []
 [(0, PV.str l), (2, PV.str (ByteArray.mk #[]).data.toList),
 ((3 : Nat), PV.row x.1.1 (BRow.bytes x.1.2) ((6 : Nat) + (32 : Nat))),
 ((4 : Nat), PV.int .i64 (x.2 + (1 : Int))), ((10 : Nat), PV.undef), ((24 : Nat), PV.undef)]
 [] =
 VS.mk []
 [(0, PV.str l), (2, PV.str (ByteArray.mk #[]).data.toList),
 ((3 : Nat), PV.row x.1.1 (BRow.bytes x.1.2) ((6 : Nat) + (32 : Nat))),
 ((4 : Nat), PV.int .i64 (x.2 + (1 : Int))), ((10 : Nat), PV.undef), ((24 : Nat), PV.undef)]
 [] ∧
 ((0 : Int) ≤ x.2 + (1 : Int) ∧
 x.2 + (1 : Int) ≤ ↑(List.length l) ∧
 x.1.1 = false ∧
 x.1.2 =
 List.take (x.2 + (1 : Int)).toNat (lowB l) ++ List.drop (x.2 + (1 : Int)).toNat l) ∧
 (↑(List.length l) - (x.2 + (1 : Int))).toNat < (↑(List.length l) - x.2).toNat)) ∧
 (decide (x.2 < Int.ofNat (List.length x.1.2)) = false → k (PV.str x.1.2))) := by kernel_rfl
attribute [local irreducible] Go.Vc.evF
theorem ok_rlower (l : Bs) : FuncOk Tryz.prog noT 28 [.str l] ⟨l.length ≤ 1000000, .str (lowB l)⟩ := evF_ok (by kernel_rfl) X_rlower_ok (H := H_rlower l) (fuel := 1000) Tryz.func28 (by kernel_rfl) fun hpre => (vc_rlower l _).mpr (by
  have hll : (lowB l).length = l.length := by unfold lowB; simp
  simp only [Int.ofNat_eq_natCast] at *
  refine ⟨by show l.length ≤ 1099511627776; omega, trivial, ⟨by omega, by omega, trivial, by simp⟩, fun x hx => ⟨fun h => ?_, fun h => ?_⟩⟩
  · obtain ⟨h0, h1, h2, h3⟩ := hx
    have hlen : x.1.2.length = l.length := by rw [h3, List.length_append, List.length_take, List.length_drop, hll]; omega
    have hlt := i64_lt h
    rw [hlen] at hlt
    have hbr := byteZ_range l x.2
    have hby : byteZ x.1.2 x.2 = byteZ l x.2 := by
      unfold byteZ
      congr 2
      rw [h3, List.getD_eq_getElem?_getD, List.getD_eq_getElem?_getD, List.getElem?_append_right (by rw [List.length_take, hll]; omega), List.length_take, hll, List.getElem?_drop]
      congr 2
      omega
    have hat : l.getD x.2.toNat 0 = l[x.2.toNat]'(by omega) := by rw [List.getD_eq_getElem?_getD, List.getElem?_eq_getElem (by omega)]; rfl
    have step : ∀ b, b = lowB1 (l.getD x.2.toNat 0) → setZ x.1.2 x.2 b = List.take (x.2 + 1).toNat (lowB l) ++ List.drop (x.2 + 1).toNat l := fun b hb => by
      unfold setZ
      rw [show (x.2 + 1).toNat = x.2.toNat + 1 by omega, h3]
      exact set_over_tail hll.symm (by rw [lowB_at h0 hlt, hb])
    rw [hby, hlen]
    refine ⟨⟨h0, hlt⟩, fun _ => ⟨h0, hlt⟩, fun hc => ?_, fun hc => ?_⟩
    · obtain ⟨c1, c2, c3⟩ := low_yes hc
      rw [c1]
      refine ⟨⟨h0, hlt⟩, ⟨h0, hlt⟩, ⟨by omega, by omega⟩, ⟨by omega, by omega⟩, trivial, ⟨by omega, by omega, h2, step _ c3⟩, by omega⟩
    · refine ⟨⟨by omega, by omega⟩, trivial, ⟨by omega, by omega, h2, ?_⟩, by omega⟩
      rw [← step _ (low_no hc), zByte_byteZ, hat]
      unfold setZ
      have e : x.1.2[x.2.toNat]? = some (l[x.2.toNat]'(by omega)) := by
        have := hby
        unfold byteZ at this
        have h5 : x.1.2.getD x.2.toNat 0 = l.getD x.2.toNat 0 := UInt8.toNat_inj.1 (by omega)
        rw [List.getD_eq_getElem?_getD, List.getElem?_eq_getElem (show x.2.toNat < x.1.2.length by omega), hat] at h5
        rw [List.getElem?_eq_getElem (show x.2.toNat < x.1.2.length by omega)]
        exact congrArg some h5
      obtain ⟨q1, q2⟩ := List.getElem?_eq_some_iff.1 e
      rw [← q2, List.set_getElem_self]
  · obtain ⟨h0, h1, h2, h3⟩ := hx
    have hlen : x.1.2.length = l.length := by rw [h3, List.length_append, List.length_take, List.length_drop, hll]; omega
    have hge : ¬ x.2 < (x.1.2.length : Int) := of_decide_eq_false h
    show PV.str _ = PV.str _
    rw [h3, show x.2.toNat = l.length by omega]
    rw [List.drop_length, List.append_nil, ← hll, List.take_length])
def ent_rlower : List PV → Option CallR := fun xs => match xs with
  | [.str l] => some ⟨l.length ≤ 1000000, .str (lowB l)⟩
  | _ => none
theorem ent_rlower_ok : ∀ xs c, ent_rlower xs = some c → FuncOk Tryz.prog noT 28 xs c := fun xs c h => by
  unfold ent_rlower at h
  split at h
  · injection h with h; subst h; exact ok_rlower _
  · cases h
end
end Go.Proofs.YtaphadmcjimmeaaGreatDoor
