/- ip6: what its callees do, for the calculus by values. -/
import Derived.Test.YtklgahppjdgkmaaDoorR4
import Derived.Test.YtklgahppjdgkmaaDoorSixA
import Derived.Test.YtklgahppjdgkmaaDoorSixC
import Derived.Test.YtklgahppjdgkmaaDoorSixD
import Derived.Test.YtklgahppjdgkmaaDoorShelf
import Derived.Test.YtklgahppjdgkmaaDoorAwake9
set_option linter.unusedVariables false
namespace Go.Proofs.YtklgahppjdgkmaaDoor
open Go Go.Proofs Go.RowKit Go.Vc

/-- A table lies as it is told. -/
def TabZ (w : World) (g : Nat) (k : IntKind) (zs : List Int) : Prop := ∃ t, w.heap[g]? = some (.cells (zs.map fun z => Value.int k z).toArray t (0, 0))
theorem TabZ.below {w w' : World} {g : Nat} {k : IntKind} {zs : List Int} (h : TabZ w g k zs) (hb : Below w.heap.size w w') : TabZ w' g k zs := by
  obtain ⟨t, h⟩ := h
  exact ⟨t, by rw [hb.block g (Array.getElem?_eq_some_iff.1 h).1]; exact h⟩
def deB32 : List Int := [0, 1, 28, 2, 29, 14, 24, 3, 30, 22, 20, 15, 25, 17, 4, 8, 31, 27, 13, 23, 21, 19, 16, 7, 26, 12, 18, 6, 11, 5, 10, 9]
def deB64 : List Int := [0, 1, 56, 2, 57, 49, 28, 3, 61, 58, 42, 50, 38, 29, 17, 4, 62, 47, 59, 36, 45, 43, 51, 22, 53, 39, 33, 30, 24, 18, 12, 5, 63, 55, 48, 27, 60, 41, 37, 16, 46, 35, 44, 21, 52, 32, 23, 11, 54, 26, 40, 15, 34, 20, 31, 10, 25, 14, 19, 9, 13, 8, 7, 6]
def Tab9 (w : World) : Prop := TabZ w 0 .u64 Lib.pow10Tab ∧ TabZ w 2 .u8 deB32 ∧ TabZ w 3 .u8 deB64
instance wd9 : Wd := ⟨Tab9, fun w w' hb h => ⟨h.1.below hb, h.2.1.below hb, h.2.2.below hb⟩⟩
theorem Tab9.tab {w : World} (h : Tab9 w) : Tab w := by
  obtain ⟨⟨t, h⟩, -⟩ := h
  unfold Tab Lib.TabIs World.var?
  rw [show Program.globalNamed Tryd.prog "internal/strconv.uint64pow10" = some 0 by kernel_rfl]
  simp only [Option.bind_some, h]
theorem Tab9.awake {w : World} (h : Tab9 w) : Calls Tryd.prog 7 #[] w fun e w' => e = .returned (.bool true) ∧ Below w.heap.size w w' := by
  obtain ⟨⟨t0, h0⟩, ⟨t2, h2⟩, ⟨t3, h3⟩⟩ := h
  refine Go.Ev.awake9 t0 t2 t3 w fun t ht => ?_
  simp only [Go.Ev.tabs9, List.mem_cons, List.not_mem_nil, or_false] at ht
  have one : ∀ (k : IntKind) (l : List Int), ∀ u ∈ l.map (fun z => Value.int k z), u.oneCell' = true := fun k l u hu => by obtain ⟨z, -, rfl⟩ := List.mem_map.1 hu; rfl
  rcases ht with rfl | rfl | rfl
  · exact ⟨by dsimp only; omega, Lib.pow10Tab.map (fun z => Value.int .u64 z), by kernel_rfl, one _ _, h0⟩
  · exact ⟨by dsimp only; omega, deB32.map (fun z => Value.int .u8 z), by kernel_rfl, one _ _, h2⟩
  · exact ⟨by dsimp only; omega, deB64.map (fun z => Value.int .u8 z), by kernel_rfl, one _ _, h3⟩
theorem ok_awake : FuncOk Tryd.prog noT 7 [] ⟨True, .bool true⟩ :=
  FuncOk.of_calls Tryd.func7 (by kernel_rfl) rfl fun _ F w vs _ _ hw hx => by
    obtain rfl : vs = [] := hx
    exact ⟨.bool true, Tab9.awake hw, fun G w => rfl⟩
theorem ok_behind (l : Bs) (i : Int) : FuncOk Tryd.prog noT 16 [.str l, .int .i64 i] ⟨0 ≤ i ∧ i ≤ l.length ∧ l.length ≤ 1000000, .int .i64 (i + (hexLen (l.drop i.toNat) : Int))⟩ :=
  FuncOk.of_calls Tryd.func16 (by kernel_rfl) rfl fun ⟨h0, h1, h2⟩ F w vs _ _ hw hx => by
    obtain ⟨_, _, rfl, r1, _, _, rfl, r2, rfl⟩ := hx
    obtain rfl := r1
    obtain rfl := r2
    obtain ⟨n, rfl⟩ := Int.eq_ofNat_of_zero_le h0
    refine ⟨_, (behind_any l n w h2 (by omega)).mono fun e w' ⟨he, hw'⟩ => ⟨he, hw' ▸ Below.refl _ _⟩, fun G w => ?_⟩
    show Value.int _ _ = Value.int _ _
    rw [Int.toNat_natCast]; push_cast; rfl
theorem ok_number (l : Bs) : FuncOk Tryd.prog noT 17 [.str l] ⟨l.length ≤ 4 ∧ ∀ i, i < l.length → 0 ≤ hexN (byt l i), .int .u16 (hexW l)⟩ :=
  FuncOk.of_calls Tryd.func17 (by kernel_rfl) rfl fun ⟨h0, h1⟩ F w vs _ _ hw hx => by
    obtain ⟨_, _, rfl, r1, rfl⟩ := hx
    obtain rfl := r1
    exact ⟨_, (num16_any l w h0 h1).mono fun e w' ⟨he, hw'⟩ => ⟨he, hw' ▸ Below.refl _ _⟩, fun G w => rfl⟩
theorem ok_dotted (l : Bs) : FuncOk Tryd.prog noT 18 [.str l] ⟨l.length ≤ 1000000, .tup [.int .u32 (dotV l), .bool (dotO l)]⟩ :=
  FuncOk.of_calls Tryd.func18 (by kernel_rfl) rfl fun h F w vs _ _ hw hx => by
    obtain ⟨_, _, rfl, r1, rfl⟩ := hx
    obtain rfl := r1
    exact ⟨_, dotted_any l w h (Tab9.tab hw), fun G w => ⟨_, ⟨_, _, rfl, rfl, _, _, rfl, rfl, rfl⟩, rfl⟩⟩
theorem ok_spread (p : List Int) (c g : Int) : FuncOk Tryd.prog noT 19 [.arr 8 (.ints .u16 p), .int .i64 c, .int .i64 g] ⟨p.length = 8 ∧ 0 ≤ g ∧ g ≤ c ∧ c ≤ 7, .arr 8 (.ints .u16 (spreadM p c.toNat g.toNat))⟩ :=
  FuncOk.of_calls Tryd.func19 (by kernel_rfl) rfl fun ⟨hp, h0, h1, h2⟩ F w vs _ _ hw hx => by
    obtain ⟨_, _, rfl, r1, _, _, rfl, r2, _, _, rfl, r3, rfl⟩ := hx
    obtain ⟨-, rfl⟩ := r1
    obtain rfl := r2
    obtain rfl := r3
    have := spread_any p c.toNat g.toNat w hp (by omega) (by omega)
    rw [Int.toNat_of_nonneg (by omega), Int.toNat_of_nonneg h0] at this
    exact ⟨_, this, fun G w => ⟨by show List.length (List.map _ _) = 8; rw [List.length_map]; unfold spreadM; simp; omega, rfl⟩⟩
def preB (l m : Bs) : Bool := Lib.hasPrefix l m
theorem ok_prefix (l m : Bs) : FuncOk Tryd.prog noT 15 [.str l, .str m] ⟨True, .bool (preB l m)⟩ :=
  FuncOk.of_calls Tryd.func15 (by kernel_rfl) rfl fun _ F w vs _ _ hw hx => by
    obtain ⟨_, _, rfl, r1, _, _, rfl, r2, rfl⟩ := hx
    obtain rfl := r1
    obtain rfl := r2
    exact ⟨_, (Tryd.strings_HasPrefix ⟨l.toArray⟩ ⟨m.toArray⟩ w).mono fun e w' ⟨he, hw'⟩ => ⟨he, hw' ▸ Below.refl _ _⟩, fun G w => rfl⟩
def ent_awake : List PV → Option CallR := fun xs => match xs with | [] => some ⟨True, .bool true⟩ | _ => none
theorem ent_awake_ok : ∀ xs c, ent_awake xs = some c → FuncOk Tryd.prog noT 7 xs c := fun xs c h => by
  unfold ent_awake at h
  split at h
  · injection h with h; subst h; exact ok_awake
  · cases h
def ent_behind : List PV → Option CallR := fun xs => match xs with | [.str l, .int .i64 i] => some ⟨0 ≤ i ∧ i ≤ l.length ∧ l.length ≤ 1000000, .int .i64 (i + (hexLen (l.drop i.toNat) : Int))⟩ | _ => none
theorem ent_behind_ok : ∀ xs c, ent_behind xs = some c → FuncOk Tryd.prog noT 16 xs c := fun xs c h => by
  unfold ent_behind at h
  split at h
  · injection h with h; subst h; exact ok_behind _ _
  · cases h
def ent_number : List PV → Option CallR := fun xs => match xs with | [.str l] => some ⟨l.length ≤ 4 ∧ ∀ i, i < l.length → 0 ≤ hexN (byt l i), .int .u16 (hexW l)⟩ | _ => none
theorem ent_number_ok : ∀ xs c, ent_number xs = some c → FuncOk Tryd.prog noT 17 xs c := fun xs c h => by
  unfold ent_number at h
  split at h
  · injection h with h; subst h; exact ok_number _
  · cases h
def ent_dotted : List PV → Option CallR := fun xs => match xs with | [.str l] => some ⟨l.length ≤ 1000000, .tup [.int .u32 (dotV l), .bool (dotO l)]⟩ | _ => none
theorem ent_dotted_ok : ∀ xs c, ent_dotted xs = some c → FuncOk Tryd.prog noT 18 xs c := fun xs c h => by
  unfold ent_dotted at h
  split at h
  · injection h with h; subst h; exact ok_dotted _
  · cases h
def ent_spread : List PV → Option CallR := fun xs => match xs with | [.arr 8 (.ints .u16 p), .int .i64 c, .int .i64 g] => some ⟨p.length = 8 ∧ 0 ≤ g ∧ g ≤ c ∧ c ≤ 7, .arr 8 (.ints .u16 (spreadM p c.toNat g.toNat))⟩ | _ => none
theorem ent_spread_ok : ∀ xs c, ent_spread xs = some c → FuncOk Tryd.prog noT 19 xs c := fun xs c h => by
  unfold ent_spread at h
  split at h
  · injection h with h; subst h; exact ok_spread _ _ _
  · cases h
def ent_prefix : List PV → Option CallR := fun xs => match xs with | [.str l, .str m] => some ⟨True, .bool (preB l m)⟩ | _ => none
theorem ent_prefix_ok : ∀ xs c, ent_prefix xs = some c → FuncOk Tryd.prog noT 15 xs c := fun xs c h => by
  unfold ent_prefix at h
  split at h
  · injection h with h; subst h; exact ok_prefix _ _
  · cases h
end Go.Proofs.YtklgahppjdgkmaaDoor
