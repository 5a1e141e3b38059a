import Derived.IntWalk
import Derived.Test.YthgchelpfacgmaaDoorSb6
import Derived.Test.YthgchelpfacgmaaDoorSb11
import Derived.Test.YthgchelpfacgmaaDoorSb16
set_option linter.unusedVariables false
set_option linter.unusedSimpArgs false
set_option maxRecDepth 100000
namespace Go.Proofs.YthgchelpfacgmaaDoor
open Go Go.Proofs Go.RowKit Go.Vc
def TabZ (w : World) (g : Nat) (k : IntKind) (zs : List Int) : Prop := ∃ t, w.heap[g]? = some (.cells (zs.map fun z => Value.int k z).toArray t (0, 0))
theorem TabZ.below {w w' : World} {g : Nat} {k : IntKind} {zs : List Int} (h : TabZ w g k zs) (hb : Below w.heap.size w w') : TabZ w' g k zs := by
  obtain ⟨t, h⟩ := h
  exact ⟨t, by rw [hb.block g (Array.getElem?_eq_some_iff.1 h).1]; exact h⟩
def deB32 : List Int := [0, 1, 28, 2, 29, 14, 24, 3, 30, 22, 20, 15, 25, 17, 4, 8, 31, 27, 13, 23, 21, 19, 16, 7, 26, 12, 18, 6, 11, 5, 10, 9]
def deB64 : List Int := [0, 1, 56, 2, 57, 49, 28, 3, 61, 58, 42, 50, 38, 29, 17, 4, 62, 47, 59, 36, 45, 43, 51, 22, 53, 39, 33, 30, 24, 18, 12, 5, 63, 55, 48, 27, 60, 41, 37, 16, 46, 35, 44, 21, 52, 32, 23, 11, 54, 26, 40, 15, 34, 20, 31, 10, 25, 14, 19, 9, 13, 8, 7, 6]
def Tab9 (w : World) : Prop := TabZ w 0 .u64 Lib.pow10Tab ∧ TabZ w 1 .u8 deB32 ∧ TabZ w 2 .u8 deB64
theorem TabZ.lt {w : World} {g : Nat} {k : IntKind} {zs : List Int} (h : TabZ w g k zs) : g < w.heap.size := by
  obtain ⟨t, h⟩ := h
  exact (Array.getElem?_eq_some_iff.1 h).1
theorem TabZ.same {w w' : World} {g : Nat} {k : IntKind} {zs : List Int} (h : TabZ w g k zs) (hb : w'.heap[g]? = w.heap[g]?) : TabZ w' g k zs := by
  obtain ⟨t, h⟩ := h
  exact ⟨t, by rw [hb]; exact h⟩
instance wd9 : Wd := ⟨Tab9, max 0 (max 1 2) + 1, fun w h => by have := h.1.lt; have := h.2.1.lt; have := h.2.2.lt; omega, fun w w' _ _ _ _ hb h => ⟨h.1.same (hb _ (by omega)), h.2.1.same (hb _ (by omega)), h.2.2.same (hb _ (by omega))⟩⟩
theorem Tab9.tab {w : World} (h : Tab9 w) : Tab w := by
  obtain ⟨⟨t, h⟩, -⟩ := h
  unfold Tab Lib.TabIs World.var?
  rw [show Program.globalNamed Tryd.prog "internal/strconv.uint64pow10" = some 0 by kernel_rfl]
  simp only [Option.bind_some, h]
theorem ok_behind (l : Bs) (i : Int) : FuncOk Tryd.prog noT 11 [.str l, .int .i64 i] ⟨0 ≤ i ∧ i ≤ l.length ∧ l.length ≤ 1000000, .int .i64 (i + (hexLen (l.drop i.toNat) : Int))⟩ :=
  FuncOk.of_calls Tryd.func11 (by kernel_rfl) rfl fun ⟨h0, h1, h2⟩ F w vs _ _ hw hx => by
    obtain ⟨_, _, rfl, r1, _, _, rfl, r2, rfl⟩ := hx
    obtain rfl := r1
    obtain rfl := r2
    obtain ⟨n, rfl⟩ := Int.eq_ofNat_of_zero_le h0
    refine ⟨_, (behind_any l n w h2 (by omega)).mono fun e w' ⟨he, hw'⟩ => ⟨he, hw' ▸ Below.refl _ _⟩, fun G w => ?_⟩
    show Value.int _ _ = Value.int _ _
    rw [Int.toNat_natCast]; push_cast; rfl
theorem ok_number (l : Bs) : FuncOk Tryd.prog noT 12 [.str l] ⟨l.length ≤ 4 ∧ ∀ i, i < l.length → 0 ≤ hexN (byt l i), .int .u16 (hexW l)⟩ :=
  FuncOk.of_calls Tryd.func12 (by kernel_rfl) rfl fun ⟨h0, h1⟩ F w vs _ _ hw hx => by
    obtain ⟨_, _, rfl, r1, rfl⟩ := hx
    obtain rfl := r1
    exact ⟨_, (num16_any l w h0 h1).mono fun e w' ⟨he, hw'⟩ => ⟨he, hw' ▸ Below.refl _ _⟩, fun G w => rfl⟩
theorem ok_dotted (l : Bs) : FuncOk Tryd.prog noT 13 [.str l] ⟨l.length ≤ 1000000, .tup [.int .u32 (dotV l), .bool (dotO l)]⟩ :=
  FuncOk.of_calls Tryd.func13 (by kernel_rfl) rfl fun h F w vs _ _ hw hx => by
    obtain ⟨_, _, rfl, r1, rfl⟩ := hx
    obtain rfl := r1
    exact ⟨_, dotted_any l w h (Tab9.tab hw), fun G w => ⟨_, ⟨_, _, rfl, rfl, _, _, rfl, rfl, rfl⟩, rfl⟩⟩
theorem ok_spread (p : List Int) (c g : Int) : FuncOk Tryd.prog noT 14 [.arr 8 (.ints .u16 p), .int .i64 c, .int .i64 g] ⟨p.length = 8 ∧ 0 ≤ g ∧ g ≤ c ∧ c ≤ 7, .arr 8 (.ints .u16 (spreadM p c.toNat g.toNat))⟩ :=
  FuncOk.of_calls Tryd.func14 (by kernel_rfl) rfl fun ⟨hp, h0, h1, h2⟩ F w vs _ _ hw hx => by
    obtain ⟨_, _, rfl, r1, _, _, rfl, r2, _, _, rfl, r3, rfl⟩ := hx
    obtain ⟨-, rfl⟩ := r1
    obtain rfl := r2
    obtain rfl := r3
    have := spread_any p c.toNat g.toNat w hp (by omega) (by omega)
    rw [Int.toNat_of_nonneg (by omega), Int.toNat_of_nonneg h0] at this
    exact ⟨_, this, fun G w => ⟨by show List.length (List.map _ _) = 8; rw [List.length_map]; unfold spreadM; simp; omega, rfl⟩⟩
def preB (l m : Bs) : Bool := Lib.hasPrefix l m
theorem ok_prefix (l m : Bs) : FuncOk Tryd.prog noT 10 [.str l, .str m] ⟨True, .bool (preB l m)⟩ :=
  FuncOk.of_calls Tryd.func10 (by kernel_rfl) rfl fun _ F w vs _ _ hw hx => by
    obtain ⟨_, _, rfl, r1, _, _, rfl, r2, rfl⟩ := hx
    obtain rfl := r1
    obtain rfl := r2
    exact ⟨_, (Tryd.strings_HasPrefix ⟨l.toArray⟩ ⟨m.toArray⟩ w).mono fun e w' ⟨he, hw'⟩ => ⟨he, hw' ▸ Below.refl _ _⟩, fun G w => rfl⟩
def ent_behind : List PV → Option CallR := fun xs => match xs with | [.str l, .int .i64 i] => some ⟨0 ≤ i ∧ i ≤ l.length ∧ l.length ≤ 1000000, .int .i64 (i + (hexLen (l.drop i.toNat) : Int))⟩ | _ => none
theorem ent_behind_ok : ∀ xs c, ent_behind xs = some c → FuncOk Tryd.prog noT 11 xs c := fun xs c h => by
  unfold ent_behind at h
  split at h
  · injection h with h; subst h; exact ok_behind _ _
  · cases h
def ent_number : List PV → Option CallR := fun xs => match xs with | [.str l] => some ⟨l.length ≤ 4 ∧ ∀ i, i < l.length → 0 ≤ hexN (byt l i), .int .u16 (hexW l)⟩ | _ => none
theorem ent_number_ok : ∀ xs c, ent_number xs = some c → FuncOk Tryd.prog noT 12 xs c := fun xs c h => by
  unfold ent_number at h
  split at h
  · injection h with h; subst h; exact ok_number _
  · cases h
def ent_dotted : List PV → Option CallR := fun xs => match xs with | [.str l] => some ⟨l.length ≤ 1000000, .tup [.int .u32 (dotV l), .bool (dotO l)]⟩ | _ => none
theorem ent_dotted_ok : ∀ xs c, ent_dotted xs = some c → FuncOk Tryd.prog noT 13 xs c := fun xs c h => by
  unfold ent_dotted at h
  split at h
  · injection h with h; subst h; exact ok_dotted _
  · cases h
def ent_spread : List PV → Option CallR := fun xs => match xs with | [.arr 8 (.ints .u16 p), .int .i64 c, .int .i64 g] => some ⟨p.length = 8 ∧ 0 ≤ g ∧ g ≤ c ∧ c ≤ 7, .arr 8 (.ints .u16 (spreadM p c.toNat g.toNat))⟩ | _ => none
theorem ent_spread_ok : ∀ xs c, ent_spread xs = some c → FuncOk Tryd.prog noT 14 xs c := fun xs c h => by
  unfold ent_spread at h
  split at h
  · injection h with h; subst h; exact ok_spread _ _ _
  · cases h
def ent_prefix : List PV → Option CallR := fun xs => match xs with | [.str l, .str m] => some ⟨True, .bool (preB l m)⟩ | _ => none
theorem ent_prefix_ok : ∀ xs c, ent_prefix xs = some c → FuncOk Tryd.prog noT 10 xs c := fun xs c h => by
  unfold ent_prefix at h
  split at h
  · injection h with h; subst h; exact ok_prefix _ _
  · cases h
theorem ok_noughts (p : List Int) : FuncOk Tryd.prog noT 8 [.arr 8 (.ints .u16 p)] ⟨IsP p, .tup [.int .i64 (nought p).1, .int .i64 (nought p).2]⟩ :=
  FuncOk.of_calls Tryd.func8 (by kernel_rfl) rfl fun hp F w vs _ _ hw hx => by
    obtain ⟨_, _, rfl, ⟨_, rfl⟩, rfl⟩ := hx
    exact ⟨_, (noughts_any p w hp).mono fun e w' ⟨he, hw'⟩ => ⟨he, hw' ▸ (Below.refl _ _).alloc (Nat.le_refl _) _⟩, fun G w => ⟨_, ⟨_, _, rfl, rfl, _, _, rfl, rfl, rfl⟩, rfl⟩⟩
def ent_noughts : List PV → Option CallR := fun xs => match xs with | [.arr 8 (.ints .u16 p)] => some ⟨IsP p, .tup [.int .i64 (nought p).1, .int .i64 (nought p).2]⟩ | _ => none
theorem ent_noughts_ok : ∀ xs c, ent_noughts xs = some c → FuncOk Tryd.prog noT 8 xs c := fun xs c h => by
  unfold ent_noughts at h
  split at h
  · injection h with h; subst h; exact ok_noughts _
  · cases h
theorem tz16_any (w : World) (h : Tab9 w) : Calls Tryd.prog 40 #[.int .u64 16] w fun e w' => e = .returned (.int .i64 4) ∧ w = w' := by
  obtain ⟨-, -, t, h⟩ := h
  have hc : w.cell? ⟨2, 15, none⟩ = some (.int .u8 4) := by
    rw [cell_of_row w _ 15 _ t (0, 0) h]; rfl
  clear h
  have key : IntKind.u64.wrap (bits BinOp.and IntKind.u64 (16 : Int) (IntKind.u64.wrap (-(16 : Int))) * 285870213051353865) / 288230376151711744 = (15 : Int) := by decide +kernel
  go_enter Tryd.func40, Tryd.ntmps40
  go_wp2_with (simp only [key])
  go_ret
  exact ⟨rfl, by trivial⟩
theorem ok_tz64 : FuncOk Tryd.prog noT 40 [.int .u64 16] ⟨True, .int .i64 4⟩ :=
  FuncOk.of_calls Tryd.func40 (by kernel_rfl) rfl fun hp F w vs _ _ hw hx => by
    obtain ⟨_, _, rfl, rfl, rfl⟩ := hx
    exact ⟨_, (tz16_any w hw).mono fun e w' ⟨he, hw'⟩ => ⟨he, hw' ▸ Below.refl _ _⟩, fun G w => rfl⟩
def ent_tz64 : List PV → Option CallR := fun xs => match xs with | [.int .u64 16] => some ⟨True, .int .i64 4⟩ | _ => none
theorem ent_tz64_ok : ∀ xs c, ent_tz64 xs = some c → FuncOk Tryd.prog noT 40 xs c := fun xs c h => by
  unfold ent_tz64 at h
  split at h
  · injection h with h; subst h; exact ok_tz64
  · cases h
def body6 (k : PV → Prop) (J1 J2 : Prop) (l : Bs) (C G A : Int) (p : List Int) : Prop :=
  ((0 : Int) ≤ A ∧ A ≤ ↑(List.length l) ∧ List.length l ≤ (1000000 : Nat)) ∧ (decide (A + ↑(hexLen (List.drop A.toNat l)) < lenZ l) = true → within (A + ↑(hexLen (List.drop A.toNat l))) (lenZ l)) ∧ ((bif decide (A + ↑(hexLen (List.drop A.toNat l)) < lenZ l) then decide (byteZ l (A + ↑(hexLen (List.drop A.toNat l))) = (46 : Int)) else false) = true → upto A (lenZ l) (lenZ l) ∧ (dropZ l A).length.le (1000000 : Nat) ∧ ((bif !dotO (dropZ l A) then true else decide ((6 : Int) < C)) = true → k (PV.tup [PV.arr (8 : Nat) (BRow.ints IntKind.u16 (List.replicate (8 : Nat) (0 : Int))), PV.bool false])) ∧ ((bif !dotO (dropZ l A) then true else decide ((6 : Int) < C)) = false → inI64 (C + (1 : Int)) ∧ (0 : Int) ≤ (16 : Int) ∧ within C ↑(8 : Nat) ∧ (within C ↑(8 : Nat) ∧ True) ∧ within (C + (1 : Int)) ↑(8 : Nat) ∧ (within (C + (1 : Int)) ↑(8 : Nat) ∧ True) ∧ inI64 (C + (2 : Int)) ∧ ((bif decide (G < (0 : Int)) then decide (C + (2 : Int) = (8 : Int)) else false) = true → k (PV.tup [PV.arr (8 : Nat) (BRow.ints IntKind.u16 (setZ (setZ p C (IntKind.u16.wrap (shrZ IntKind.u32 (dotV (dropZ l A)) (16 : Int)))) (C + (1 : Int)) (IntKind.u16.wrap (dotV (dropZ l A))))), PV.bool true])) ∧ ((bif decide (G < (0 : Int)) then decide (C + (2 : Int) = (8 : Int)) else false) = false → ((bif decide ((0 : Int) ≤ G) then decide (C + (2 : Int) < (8 : Int)) else false) = true → ((setZ (setZ p C (IntKind.u16.wrap (shrZ IntKind.u32 (dotV (dropZ l A)) (16 : Int)))) (C + (1 : Int)) (IntKind.u16.wrap (dotV (dropZ l A)))).length = (8 : Nat) ∧ (0 : Int) ≤ G ∧ G ≤ C + (2 : Int) ∧ C + (2 : Int) ≤ (7 : Int)) ∧ k (PV.tup [PV.arr (8 : Nat) (BRow.ints IntKind.u16 (spreadM (setZ (setZ p C (IntKind.u16.wrap (shrZ IntKind.u32 (dotV (dropZ l A)) (16 : Int)))) (C + (1 : Int)) (IntKind.u16.wrap (dotV (dropZ l A)))) (C + (2 : Int)).toNat G.toNat)), PV.bool true])) ∧ ((bif decide ((0 : Int) ≤ G) then decide (C + (2 : Int) < (8 : Int)) else false) = false → k (PV.tup [PV.arr (8 : Nat) (BRow.ints IntKind.u16 (List.replicate (8 : Nat) (0 : Int))), PV.bool false]))))) ∧ ((bif decide (A + ↑(hexLen (List.drop A.toNat l)) < lenZ l) then decide (byteZ l (A + ↑(hexLen (List.drop A.toNat l))) = (46 : Int)) else false) = false → ((bif decide (C = (8 : Int)) then true else decide (A + ↑(hexLen (List.drop A.toNat l)) = A)) = false → inI64 (A + (4 : Int))) ∧ ((bif bif decide (C = (8 : Int)) then true else decide (A + ↑(hexLen (List.drop A.toNat l)) = A) then true else decide (A + (4 : Int) < A + ↑(hexLen (List.drop A.toNat l)))) = true → k (PV.tup [PV.arr (8 : Nat) (BRow.ints IntKind.u16 (List.replicate (8 : Nat) (0 : Int))), PV.bool false])) ∧ ((bif bif decide (C = (8 : Int)) then true else decide (A + ↑(hexLen (List.drop A.toNat l)) = A) then true else decide (A + (4 : Int) < A + ↑(hexLen (List.drop A.toNat l)))) = false → upto A (A + ↑(hexLen (List.drop A.toNat l))) (lenZ l) ∧ ((cutZ l A (A + ↑(hexLen (List.drop A.toNat l)))).length ≤ (4 : Nat) ∧ ∀ (i : Nat), i < (cutZ l A (A + ↑(hexLen (List.drop A.toNat l)))).length → (0 : Int) ≤ hexN (byt (cutZ l A (A + ↑(hexLen (List.drop A.toNat l)))) i)) ∧ within C ↑(8 : Nat) ∧ (within C ↑(8 : Nat) ∧ True) ∧ inI64 (C + (1 : Int)) ∧ (decide (A + ↑(hexLen (List.drop A.toNat l)) = lenZ l) = true → ((bif decide (G < (0 : Int)) then decide (C + (1 : Int) = (8 : Int)) else false) = true → k (PV.tup [PV.arr (8 : Nat) (BRow.ints IntKind.u16 (setZ p C (hexW (cutZ l A (A + ↑(hexLen (List.drop A.toNat l))))))), PV.bool true])) ∧ ((bif decide (G < (0 : Int)) then decide (C + (1 : Int) = (8 : Int)) else false) = false → ((bif decide ((0 : Int) ≤ G) then decide (C + (1 : Int) < (8 : Int)) else false) = true → ((setZ p C (hexW (cutZ l A (A + ↑(hexLen (List.drop A.toNat l)))))).length = (8 : Nat) ∧ (0 : Int) ≤ G ∧ G ≤ C + (1 : Int) ∧ C + (1 : Int) ≤ (7 : Int)) ∧ k (PV.tup [PV.arr (8 : Nat) (BRow.ints IntKind.u16 (spreadM (setZ p C (hexW (cutZ l A (A + ↑(hexLen (List.drop A.toNat l)))))) (C + (1 : Int)).toNat G.toNat)), PV.bool true])) ∧ ((bif decide ((0 : Int) ≤ G) then decide (C + (1 : Int) < (8 : Int)) else false) = false → k (PV.tup [PV.arr (8 : Nat) (BRow.ints IntKind.u16 (List.replicate (8 : Nat) (0 : Int))), PV.bool false])))) ∧ (decide (A + ↑(hexLen (List.drop A.toNat l)) = lenZ l) = false → within (A + ↑(hexLen (List.drop A.toNat l))) (lenZ l) ∧ ((!decide (byteZ l (A + ↑(hexLen (List.drop A.toNat l))) = (58 : Int))) = false → inI64 (A + ↑(hexLen (List.drop A.toNat l)) + (1 : Int))) ∧ ((bif !decide (byteZ l (A + ↑(hexLen (List.drop A.toNat l))) = (58 : Int)) then true else decide (A + ↑(hexLen (List.drop A.toNat l)) + (1 : Int) = lenZ l)) = true → k (PV.tup [PV.arr (8 : Nat) (BRow.ints IntKind.u16 (List.replicate (8 : Nat) (0 : Int))), PV.bool false])) ∧ ((bif !decide (byteZ l (A + ↑(hexLen (List.drop A.toNat l))) = (58 : Int)) then true else decide (A + ↑(hexLen (List.drop A.toNat l)) + (1 : Int) = lenZ l)) = false → inI64 (A + ↑(hexLen (List.drop A.toNat l)) + (1 : Int)) ∧ within (A + ↑(hexLen (List.drop A.toNat l)) + (1 : Int)) (lenZ l) ∧ ((!decide (byteZ l (A + ↑(hexLen (List.drop A.toNat l)) + (1 : Int)) = (58 : Int))) = true → J1) ∧ ((!decide (byteZ l (A + ↑(hexLen (List.drop A.toNat l)) + (1 : Int)) = (58 : Int))) = false → (decide ((0 : Int) ≤ G) = true → k (PV.tup [PV.arr (8 : Nat) (BRow.ints IntKind.u16 (List.replicate (8 : Nat) (0 : Int))), PV.bool false])) ∧ (decide ((0 : Int) ≤ G) = false → inI64 (A + ↑(hexLen (List.drop A.toNat l)) + (1 : Int) + (1 : Int)) ∧ (decide (A + ↑(hexLen (List.drop A.toNat l)) + (1 : Int) + (1 : Int) < lenZ l) = true → J2) ∧ (decide (A + ↑(hexLen (List.drop A.toNat l)) + (1 : Int) + (1 : Int) < lenZ l) = false → ((bif decide (C + (1 : Int) < (0 : Int)) then decide (C + (1 : Int) = (8 : Int)) else false) = true → k (PV.tup [PV.arr (8 : Nat) (BRow.ints IntKind.u16 (setZ p C (hexW (cutZ l A (A + ↑(hexLen (List.drop A.toNat l))))))), PV.bool true])) ∧ ((bif decide (C + (1 : Int) < (0 : Int)) then decide (C + (1 : Int) = (8 : Int)) else false) = false → ((bif decide ((0 : Int) ≤ C + (1 : Int)) then decide (C + (1 : Int) < (8 : Int)) else false) = true → ((setZ p C (hexW (cutZ l A (A + ↑(hexLen (List.drop A.toNat l)))))).length = (8 : Nat) ∧ (0 : Int) ≤ C + (1 : Int) ∧ C + (1 : Int) ≤ C + (1 : Int) ∧ C + (1 : Int) ≤ (7 : Int)) ∧ k (PV.tup [PV.arr (8 : Nat) (BRow.ints IntKind.u16 (spreadM (setZ p C (hexW (cutZ l A (A + ↑(hexLen (List.drop A.toNat l)))))) (C + (1 : Int)).toNat (C + (1 : Int)).toNat)), PV.bool true])) ∧ ((bif decide ((0 : Int) ≤ C + (1 : Int)) then decide (C + (1 : Int) < (8 : Int)) else false) = false → k (PV.tup [PV.arr (8 : Nat) (BRow.ints IntKind.u16 (List.replicate (8 : Nat) (0 : Int))), PV.bool false]))))))))))
theorem andB6 (a b : Bool) : (bif a then b else false) = (a && b) := by cases a <;> rfl
theorem orB6 (a b : Bool) : (bif a then true else b) = (a || b) := by cases a <;> rfl
theorem notB6 (a : Bool) : ((!a) = true) = ¬ (a = true) := by cases a <;> simp
theorem falB6 (a : Bool) : (a = false) = ¬ (a = true) := by cases a <;> simp
theorem pad_setZ (acc : List Int) (x : Int) (h : acc.length < 8) : setZ (pad acc) (acc.length : Int) x = pad (acc ++ [x]) := by
  unfold setZ pad
  rw [Int.toNat_natCast, List.set_append_right _ _ (by simp), Nat.sub_self, show 8 - acc.length = (8 - (acc ++ [x]).length) + 1 by simp; omega, List.replicate_succ, List.set_cons_zero, List.append_assoc]
  rfl
theorem byteZ_byt (l : Bs) (e : Nat) : byteZ l (e : Int) = byt l e := by unfold byteZ byt; rw [Int.toNat_natCast]
theorem pad_full (acc : List Int) (h : acc.length = 8) : pad acc = acc := by unfold pad; rw [h]; simp
theorem body6_ok (k : PV → Prop) (J1 J2 : Prop) (l : Bs) (G : Int) (i e : Nat) (acc : List Int) (R : List Int × Bool) (hl : l.length ≤ 1000000) (h8 : acc.length ≤ 8) (g1 : -1 ≤ G) (g2 : G ≤ acc.length) (hi : i ≤ l.length) (he : i + hexLen (l.drop i) = e)
    (hs : six1 l (9 - acc.length) acc G i = R) (hk : k (.tup [.arr 8 (.ints .u16 R.1), .bool R.2]))
    (H1 : ∀ a, a.length = acc.length + 1 → setZ (pad acc) (acc.length : Int) (hexW (cutZ l (i : Int) (e : Int))) = pad a → a.length ≤ 8 → e + 1 ≤ l.length → six1 l (9 - a.length) a G (e + 1) = R → J1)
    (H2 : ∀ a, a.length = acc.length + 1 → setZ (pad acc) (acc.length : Int) (hexW (cutZ l (i : Int) (e : Int))) = pad a → a.length ≤ 8 → e + 2 ≤ l.length → six1 l (9 - a.length) a (acc.length + 1 : Nat) (e + 2) = R → J2) :
    body6 k J1 J2 l acc.length G i (pad acc) := by
  unfold body6
  have hE : (i : Int) + ((hexLen (l.drop i) : Nat) : Int) = (e : Int) := by omega
  have hcut : cutZ l (i : Int) (e : Int) = (l.take e).drop i := by unfold cutZ; rw [Int.toNat_natCast, Int.toNat_natCast]
  have hdr : dropZ l (i : Int) = l.drop i := by unfold dropZ; rw [Int.toNat_natCast]
  have hel : e ≤ l.length := by have := hexLen_le (l.drop i); rw [List.length_drop] at this; omega
  have hb2 : byteZ l ((e : Int) + 1) = byt l (e + 1) := by rw [← byteZ_byt]; push_cast; rfl
  rw [six1_step l acc G i e h8 he] at hs
  have leaf : ∀ (L : List Int) (b : Bool), R = (L, b) → k (.tup [.arr 8 (.ints .u16 L), .bool b]) := fun L b h => by rw [h] at hk; exact hk
  have lw : R = wrong6 → k (.tup [.arr 8 (.ints .u16 (List.replicate 8 0)), .bool false]) := fun h => leaf _ _ h
  simp only [Int.toNat_natCast, hE, hcut, hdr, byteZ_byt, hb2, andB6, orB6, falB6, notB6, Bool.and_eq_true, Bool.or_eq_true, decide_eq_true_eq, lenZ, within, upto, inI64] at H1 H2 ⊢
  have fin : ∀ (a : List Int) (g C' : Int) (P : List Int), a.length ≤ 8 → C' = a.length → P = pad a → g ≤ C' → fin6 a g = R → ((g < 0 ∧ C' = 8 → k (.tup [.arr 8 (.ints .u16 P), .bool true])) ∧ (¬ (g < 0 ∧ C' = 8) → ((0 ≤ g ∧ C' < 8 → (P.length = 8 ∧ 0 ≤ g ∧ g ≤ C' ∧ C' ≤ 7) ∧ k (.tup [.arr 8 (.ints .u16 (spreadM P C'.toNat g.toNat)), .bool true])) ∧ (¬ (0 ≤ g ∧ C' < 8) → k (.tup [.arr 8 (.ints .u16 (List.replicate 8 0)), .bool false]))))) := by
    intro a g C' P ha hC hP hg hf
    subst hC hP
    unfold fin6 at hf
    refine ⟨fun h => ?_, fun h => ⟨fun h2 => ⟨⟨pad_len ha, h2.1, hg, by omega⟩, ?_⟩, fun h2 => lw ?_⟩⟩
    · rw [if_pos ⟨h.1, by omega⟩] at hf
      rw [pad_full a (by omega)]
      exact leaf _ _ hf.symm
    · rw [if_neg (by omega), if_pos ⟨h2.1, by omega⟩] at hf
      rw [Int.toNat_natCast]
      exact leaf _ _ hf.symm
    · rw [if_neg (by omega), if_neg (by omega)] at hf
      exact hf.symm
  refine ⟨⟨by omega, by omega, hl⟩, fun h => ⟨by omega, h⟩, fun h46 => ?_, fun h46 => ?_⟩
  · rw [if_pos ⟨by omega, h46.2⟩] at hs
    unfold bytes6 at hs
    refine ⟨⟨by omega, by omega, by omega⟩, ?_, fun hd => ?_, fun hd => ?_⟩
    · show (l.drop i).length ≤ 1000000
      rw [List.length_drop]; omega
    · rw [if_pos (by rcases hd with hd | hd; exact .inl (by simpa using hd); exact .inr (by omega))] at hs
      exact lw hs.symm
    · have hd1 : dotO (l.drop i) = true := Classical.byContradiction fun h => hd (.inl h)
      have hd2 : acc.length ≤ 6 := by omega
      rw [if_neg (by rw [hd1]; intro h; rcases h with h | h; cases h; omega)] at hs
      obtain ⟨v0, v1⟩ := dotV_bd (l.drop i)
      have e1 : IntKind.u16.wrap (shrZ IntKind.u32 (dotV (l.drop i)) 16) = dotV (l.drop i) / 65536 := by
        have : shrZ IntKind.u32 (dotV (l.drop i)) 16 = dotV (l.drop i) / 65536 := by
          unfold shrZ
          rw [show (2 : Int) ^ min (Int.toNat 16) IntKind.u32.bits = 65536 by decide, Int.fdiv_eq_ediv_of_nonneg _ (by decide)]
        rw [this]
        exact IntWalk.u16_in _ (by omega)
      have e2 : IntKind.u16.wrap (dotV (l.drop i)) = dotV (l.drop i) % 65536 := by
        simp [IntKind.wrap, IntKind.bits, IntKind.signed]
      have e3 : setZ (setZ (pad acc) (acc.length : Int) (dotV (l.drop i) / 65536)) ((acc.length : Int) + 1) (dotV (l.drop i) % 65536) = pad (acc ++ [dotV (l.drop i) / 65536] ++ [dotV (l.drop i) % 65536]) := by
        rw [pad_setZ _ _ (by omega), show (acc.length : Int) + 1 = ((acc ++ [dotV (l.drop i) / 65536]).length : Int) by simp, pad_setZ _ _ (by simp; omega)]
      rw [e1, e2, e3]
      exact ⟨⟨by omega, by omega⟩, by omega, ⟨by omega, by omega⟩, ⟨⟨by omega, by omega⟩, trivial⟩, ⟨by omega, by omega⟩, ⟨⟨by omega, by omega⟩, trivial⟩, ⟨by omega, by omega⟩, fin _ G _ _ (by simp; omega) (by simp) rfl (by omega) hs⟩
  · rw [if_neg (by intro h; exact h46 ⟨by omega, h.2⟩)] at hs
    refine ⟨fun _ => ⟨by omega, by omega⟩, fun h => ?_, fun h => ?_⟩
    · rw [if_pos (by omega)] at hs
      exact lw hs.symm
    · rw [if_neg (by omega)] at hs
      have h7 : acc.length < 8 := by omega
      obtain ⟨d1, d2⟩ := piece_digits l i e he (by omega)
      have hl1 : (acc ++ [hexW ((l.take e).drop i)]).length = acc.length + 1 := by simp
      rw [pad_setZ _ _ h7]
      refine ⟨⟨by omega, by omega, by omega⟩, ⟨d1, d2⟩, ⟨by omega, by omega⟩, ⟨⟨by omega, by omega⟩, trivial⟩, ⟨by omega, by omega⟩, fun hq => ?_, fun hq => ?_⟩
      · rw [if_pos (by omega)] at hs
        exact fin _ G _ _ (by omega) (by rw [hl1]; push_cast; rfl) rfl (by omega) hs
      · rw [if_neg (by omega)] at hs
        refine ⟨⟨by omega, by omega⟩, fun _ => ⟨by omega, by omega⟩, fun h5 => ?_, fun h5 => ?_⟩
        · rw [if_pos (by rcases h5 with h5 | h5; exact .inl h5; exact .inr (by omega))] at hs
          exact lw hs.symm
        · rw [if_neg (by intro h6; exact h5 (by rcases h6 with h6 | h6; exact .inl h6; exact .inr (by omega)))] at hs
          refine ⟨⟨by omega, by omega⟩, ⟨by omega, by omega⟩, fun h9 => ?_, fun h9 => ⟨fun hg => ?_, fun hg => ⟨⟨by omega, by omega⟩, fun hlt => ?_, fun hlt => ?_⟩⟩⟩
          · rw [if_pos h9, ← hl1] at hs
            exact H1 _ hl1 (pad_setZ _ _ h7) (by omega) (by omega) hs
          · rw [if_neg h9, if_pos hg] at hs
            exact lw hs.symm
          · rw [if_neg h9, if_neg hg, if_pos (by omega)] at hs
            exact H2 _ hl1 (pad_setZ _ _ h7) (by omega) (by omega) (by rw [hl1]; exact hs)
          · rw [if_neg h9, if_neg hg, if_neg (by omega)] at hs
            exact fin _ _ _ _ (by omega) (by rw [hl1]; push_cast; rfl) rfl (by omega) hs
end Go.Proofs.YthgchelpfacgmaaDoor
