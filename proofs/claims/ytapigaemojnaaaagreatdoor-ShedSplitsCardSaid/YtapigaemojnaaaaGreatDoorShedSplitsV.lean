/- Its functions, each with what it does. -/
import Derived.Test.YtapigaemojnaaaaGreatDoorVc10
import Derived.Test.YtapigaemojnaaaaGreatDoorSh
import Derived.Test.YtapigaemojnaaaaGreatDoorSplitM
import Derived.Test.YtapigaemojnaaaaGreatDoorFin
import Derived.Test.YtapigaemojnaaaaGreatDoorProg
import Derived.ProofKit
import Derived.IntWalk
import Derived.Lib.Bytealg
set_option linter.unusedVariables false
set_option linter.unusedSimpArgs false
set_option maxRecDepth 100000
set_option maxHeartbeats 4000000
/- What has no Go text, or stands on the shelf, for the calculus by values: IndexByteString, ContainsAny. -/
namespace Go.Proofs.YtapigaemojnaaaaGreatDoor
open Go Go.Proofs Go.RowKit Go.Vc
attribute [local instance] Go.Vc.noW
def idxB (l : Bs) (c : Int) : Int := Lib.indexByte l (zByte c)
def conB (l m : Bs) : Bool := Lib.containsAny l m
theorem ok_ixs (l : Bs) (c : Int) : FuncOk Tryz.prog noT 70 [.str l, .int .u8 c] ⟨0 ≤ c ∧ c ≤ 255, .int .i64 (idxB l c)⟩ :=
  .of_plain rfl fun ⟨h0, h1⟩ F w vs hF hT hwd hx => .inr (by
    obtain ⟨_, _, rfl, r1, _, _, rfl, r2, rfl⟩ := hx
    obtain rfl := r1
    obtain rfl := r2
    refine ⟨.int .i64 (idxB l c), w, ?_, F, Below.refl _ _, FLe.refl _, hF, fun b o q h => .inl h, rfl⟩
    rw [run_callFunc_extern Tryz.func70 (by kernel_rfl) (by kernel_rfl) (by kernel_rfl) (e := Extern.BytealgIndexByte.indexByte) (by kernel_rfl)]
    have := Lib.run_indexByteString (P := Tryz.prog) ⟨l.toArray⟩ c w
    show (Sem.run Tryz.prog (Extern.BytealgIndexByte.indexByte #[.string ⟨l.toArray⟩, .int .u8 c]) w).andThen _ = _
    rw [this]
    rfl)
def ent_ixs : List PV → Option CallR := fun xs => match xs with | [.str l, .int .u8 c] => some ⟨0 ≤ c ∧ c ≤ 255, .int .i64 (idxB l c)⟩ | _ => none
theorem ent_ixs_ok : ∀ xs c, ent_ixs xs = some c → FuncOk Tryz.prog noT 70 xs c := fun xs c h => by
  unfold ent_ixs at h
  split at h
  · injection h with h; subst h; exact ok_ixs _ _
  · cases h
theorem ok_con (l m : Bs) : FuncOk Tryz.prog noT 15 [.str l, .str m] ⟨l.length ≤ 1000000 ∧ m.length ≤ 1000000 ∧ (∀ b ∈ m, b.toNat < 128), .bool (conB l m)⟩ :=
  FuncOk.of_calls Tryz.func15 (by kernel_rfl) rfl fun ⟨h0, h1, h2⟩ F w vs _ _ hw hx => by
    obtain ⟨_, _, rfl, r1, _, _, rfl, r2, rfl⟩ := hx
    obtain rfl := r1
    obtain rfl := r2
    exact ⟨_, conAny Tryz.lays150 (by kernel_rfl) ⟨l.toArray⟩ ⟨m.toArray⟩ w (by show l.length < 4294967281; omega) (by show m.length < 4294967281; omega) (fun j b hj => h2 b (List.mem_of_getElem? hj)), fun G w => rfl⟩
def ent_con : List PV → Option CallR := fun xs => match xs with | [.str l, .str m] => some ⟨l.length ≤ 1000000 ∧ m.length ≤ 1000000 ∧ (∀ b ∈ m, b.toNat < 128), .bool (conB l m)⟩ | _ => none
theorem ent_con_ok : ∀ xs c, ent_con xs = some c → FuncOk Tryz.prog noT 15 xs c := fun xs c h => by
  unfold ent_con at h
  split at h
  · injection h with h; subst h; exact ok_con _ _
  · cases h
end Go.Proofs.YtapigaemojnaaaaGreatDoor

/- The function gossamer/gossamerref8.Parts does what is told of it. -/
namespace Go.Proofs.YtapigaemojnaaaaGreatDoor
open Go Go.Proofs Go.RowKit Go.Vc
attribute [local instance] Go.Vc.noW

/-- Where Parts stands: what is told, from where on, up to where. -/
def PartsAt (c : Int) (l : List UInt8) (i at' : Nat) (done : List (List UInt8)) : Prop :=
  (i ≤ l.length → at' ≤ i ∧ splitB c l = done ++ splitB c (l.drop at') ∧ ∀ q, at' ≤ q → q < i → byt l q ≠ c) ∧ (i = l.length + 1 → splitB c l = done)
theorem partsAt_start (c : Int) (l : List UInt8) : PartsAt c l 0 0 [] := ⟨fun _ => ⟨Nat.le_refl _, rfl, fun q h1 h2 => by omega⟩, fun h => by omega⟩
theorem partsAt_hit {c : Int} {l : List UInt8} {i at' : Nat} {done : List (List UInt8)} (h : PartsAt c l i at' done) (hi : i < l.length) (hc : byt l i = c) :
    PartsAt c l (i + 1) (i + 1) (done ++ [(l.take i).drop at']) := by
  obtain ⟨h1, h2, h3⟩ := h.1 (by omega)
  refine ⟨fun _ => ⟨Nat.le_refl _, ?_, fun q h4 h5 => by omega⟩, fun h => by omega⟩
  have hs := splitB_hit c (i - at') (l.drop at') (by simp; omega) (fun q hq => by rw [byt_drop]; exact h3 _ (by omega) (by omega)) (by rw [byt_drop, show at' + (i - at') = i by omega]; exact hc)
  rw [h2, hs, List.drop_take, List.drop_drop, show at' + (i - at' + 1) = i + 1 by omega]
  simp
theorem partsAt_miss {c : Int} {l : List UInt8} {i at' : Nat} {done : List (List UInt8)} (h : PartsAt c l i at' done) (hi : i < l.length) (hc : byt l i ≠ c) :
    PartsAt c l (i + 1) at' done := by
  obtain ⟨h1, h2, h3⟩ := h.1 (by omega)
  refine ⟨fun _ => ⟨by omega, h2, fun q h4 h5 => ?_⟩, fun h => by omega⟩
  rcases Nat.lt_or_ge q i with h | h
  · exact h3 q h4 h
  · obtain rfl : q = i := by omega
    exact hc
theorem partsAt_end {c : Int} {l : List UInt8} {at' : Nat} {done : List (List UInt8)} (h : PartsAt c l l.length at' done) :
    PartsAt c l (l.length + 1) (l.length + 1) (done ++ [l.drop at']) := by
  obtain ⟨h1, h2, h3⟩ := h.1 (Nat.le_refl _)
  refine ⟨fun h => by omega, fun _ => ?_⟩
  have hs := splitB_end c (l.drop at') (fun q hq => by rw [byt_drop]; simp at hq; exact h3 _ (by omega) (by omega))
  rw [h2, hs]
theorem partsAt_done_len {c : Int} {l : List UInt8} {i at' : Nat} {done : List (List UInt8)} (h : PartsAt c l i at' done) (hi : i ≤ l.length) : done.length ≤ l.length + 1 := by
  obtain ⟨h1, h2, h3⟩ := h.1 hi
  have := (splitB_len c l).1
  rw [h2] at this
  simp at this; omega
def PartsI (c : Int) (l : Bs) (i a : Int) (nl : Bool) (o : List Bs) : Prop := ∃ (j b : Nat), i = j ∧ a = b ∧ j ≤ l.length + 1 ∧ nl = o.isEmpty ∧ o.length ≤ j ∧ PartsAt c l j b o

def X_parts : Tbl := tblX []
def H_parts (l : Bs) (c : Int) : Loops := fun i => bif Nat.beq i 4 then some ⟨(Bool × List Bs) × (Int) × (Int), (fun s x => (((((s.row s 5 x.1.1 (.strs x.1.2)).put 6 (.int .i64 x.2.1)).put 7 (.int .i64 x.2.2)).put 11 .undef).put 24 .undef)), (fun s => ((s.nil 5, s.strs 5), s.int 6, s.int 7)), (fun s x => let o := x.1; let a := x.2.1; let i := x.2.2; PartsI c l i a o.1 o.2), (fun s x => let o := x.1; let a := x.2.1; let i := x.2.2; ((l.length : Int) + 1 - i).toNat), [11, 24]⟩ else none
theorem X_parts_ok : XOk Tryz.prog noT X_parts := tblX_nil
theorem vc_parts (l : Bs) (c : Int) (k : PV → Prop) : evF Tryz.prog X_parts noT (H_parts l c) 1000 Tryz.f17 [.str l, .int .u8 c] k = (
  VS.mk []
 [(nat_lit 0, PV.str l), (nat_lit 1, PV.int Go.IntKind.u8 c), (nat_lit 4, PV.row true (BRow.strs []) ((4 : Nat) + (32 : Nat))),
 (nat_lit 5, PV.row true (BRow.strs []) ((5 : Nat) + (32 : Nat))), (nat_lit 6, PV.int Go.IntKind.i64 (0 : Int)),
 (nat_lit 7, PV.int Go.IntKind.i64 (0 : Int)), ((11 : Nat), PV.undef), ((24 : Nat), PV.undef)]
 [] =
 VS.mk []
 [(nat_lit 0, PV.str l), (nat_lit 1, PV.int Go.IntKind.u8 c), (nat_lit 4, PV.row true (BRow.strs []) ((4 : Nat) + (32 : Nat))),
 ((5 : Nat), PV.row true (BRow.strs []) ((5 : Nat) + (32 : Nat))), ((6 : Nat), PV.int Go.IntKind.i64 (0 : Int)),
 ((7 : Nat), PV.int Go.IntKind.i64 (0 : Int)), ((11 : Nat), PV.undef), ((24 : Nat), PV.undef)]
 [] ∧
 PartsI c l (0 : Int) (0 : Int) true [] ∧
 ∀ (x : (Bool × List Bs) × Int × Int),
 PartsI c l x.snd.snd x.snd.fst x.fst.fst x.fst.snd →
 (decide (x.snd.snd ≤ lenZ l) = true →
 (decide (x.snd.snd = lenZ l) = false → within x.snd.snd (lenZ l)) ∧
 ((bif decide (x.snd.snd = lenZ l) then true else decide (byteZ l x.snd.snd = c)) = true →
 upto x.snd.fst x.snd.snd (lenZ l) ∧
 Int.ofNat (x.fst.snd ++ [cutZ l x.snd.fst x.snd.snd]).length ≤ maxRow ∧
 inI64 (x.snd.snd + (1 : Int)) ∧
 inI64 (x.snd.snd + (1 : Int)) ∧
 VS.mk []
 [(nat_lit 0, PV.str l), (nat_lit 1, PV.int Go.IntKind.u8 c),
 (nat_lit 4, PV.row true (BRow.strs []) ((4 : Nat) + (32 : Nat))),
 ((5 : Nat), PV.row false (BRow.strs (x.fst.snd ++ [cutZ l x.snd.fst x.snd.snd])) (nat_lit 36 + (1 : Nat))),
 ((6 : Nat), PV.int Go.IntKind.i64 (x.snd.snd + (1 : Int))),
 ((7 : Nat), PV.int Go.IntKind.i64 (x.snd.snd + (1 : Int))), ((11 : Nat), PV.undef), ((24 : Nat), PV.undef)]
 [] =
 VS.mk []
 [(nat_lit 0, PV.str l), (nat_lit 1, PV.int Go.IntKind.u8 c),
 (nat_lit 4, PV.row true (BRow.strs []) ((4 : Nat) + (32 : Nat))),
 ((5 : Nat), PV.row false (BRow.strs (x.fst.snd ++ [cutZ l x.snd.fst x.snd.snd])) ((5 : Nat) + (32 : Nat))),
 ((6 : Nat), PV.int Go.IntKind.i64 (x.snd.snd + (1 : Int))),
 ((7 : Nat), PV.int Go.IntKind.i64 (x.snd.snd + (1 : Int))), ((11 : Nat), PV.undef), ((24 : Nat), PV.undef)]
 [] ∧
 PartsI c l (x.snd.snd + (1 : Int)) (x.snd.snd + (1 : Int)) false
 (x.fst.snd ++ [cutZ l x.snd.fst x.snd.snd]) ∧
 (↑(List.length l) + (1 : Int) - (x.snd.snd + (1 : Int))).toNat < (↑(List.length l) + (1 : Int) - x.snd.snd).toNat) ∧
 ((bif decide (x.snd.snd = lenZ l) then true else decide (byteZ l x.snd.snd = c)) = false →
 inI64 (x.snd.snd + (1 : Int)) ∧
 VS.mk []
 [(nat_lit 0, PV.str l), (nat_lit 1, PV.int Go.IntKind.u8 c),
 (nat_lit 4, PV.row true (BRow.strs []) ((4 : Nat) + (32 : Nat))),
 ((5 : Nat), PV.row x.fst.fst (BRow.strs x.fst.snd) ((5 : Nat) + (32 : Nat))),
 ((6 : Nat), PV.int Go.IntKind.i64 x.snd.fst), ((7 : Nat), PV.int Go.IntKind.i64 (x.snd.snd + (1 : Int))),
 ((11 : Nat), PV.undef), ((24 : Nat), PV.undef)]
 [] =
 VS.mk []
 [(nat_lit 0, PV.str l), (nat_lit 1, PV.int Go.IntKind.u8 c),
 (nat_lit 4, PV.row true (BRow.strs []) ((4 : Nat) + (32 : Nat))),
 ((5 : Nat), PV.row x.fst.fst (BRow.strs x.fst.snd) ((5 : Nat) + (32 : Nat))),
 ((6 : Nat), PV.int Go.IntKind.i64 x.snd.fst), ((7 : Nat), PV.int Go.IntKind.i64 (x.snd.snd + (1 : Int))),
 ((11 : Nat), PV.undef), ((24 : Nat), PV.undef)]
 [] ∧
 PartsI c l (x.snd.snd + (1 : Int)) x.snd.fst x.fst.fst x.fst.snd ∧
 (↑(List.length l) + (1 : Int) - (x.snd.snd + (1 : Int))).toNat < (↑(List.length l) + (1 : Int) - x.snd.snd).toNat)) ∧
 (decide (x.snd.snd ≤ lenZ l) = false → k (PV.row x.fst.fst (BRow.strs x.fst.snd) (0 : Nat)))) := by kernel_rfl
attribute [local irreducible] Go.Vc.evF
theorem ok_parts (l : Bs) (c : Int) : FuncOk Tryz.prog noT 17 [.str l, .int .u8 c] ⟨l.length ≤ 1000000 ∧ 0 ≤ c ∧ c ≤ 255, .row false (.strs (splitB c l)) 0⟩ := evF_ok (by kernel_rfl) X_parts_ok (H := H_parts l c) (fuel := 1000) Tryz.func17 (by kernel_rfl) fun hpre => (vc_parts l c _).mpr (by
  obtain ⟨hl, c0, c1⟩ := hpre
  refine ⟨rfl, ⟨0, 0, rfl, rfl, by omega, rfl, Nat.le_refl _, partsAt_start c l⟩, fun x hx => ?_⟩
  obtain ⟨⟨nl, o⟩, a, i⟩ := x
  obtain ⟨j, b, h1, h2, h3, h4, h5, hP⟩ := hx
  dsimp only at h1 h2 h3 h4 h5 hP ⊢
  subst h1 h2 h4
  refine ⟨fun h => ?_, fun h => ?_⟩
  · have hj : j ≤ l.length := by have := of_decide_eq_true h; unfold lenZ at this; omega
    have hP1 := (hP.1 hj).1
    have hby : byteZ l (j : Int) = byt l j := rfl
    have hcut : cutZ l (b : Int) (j : Int) = (l.take j).drop b := by unfold cutZ; simp
    have e1 : ((j : Int) + 1) = ((j + 1 : Nat) : Int) := by push_cast; rfl
    refine ⟨fun hne => ?_, fun hc => ?_, fun hc => ?_⟩
    · have := of_decide_eq_false hne; unfold within; unfold lenZ at this ⊢; omega
    · rw [hcut]
      have hP2 : PartsAt c l (j + 1) (j + 1) (o ++ [(l.take j).drop b]) := by
        by_cases e : j = l.length
        · subst e
          rw [List.take_length]
          exact partsAt_end hP
        · have hc2 : decide (byteZ l (j : Int) = c) = true := by
            rw [decide_eq_false (show ¬ (j : Int) = lenZ l by unfold lenZ; omega)] at hc
            exact hc
          exact partsAt_hit hP (by omega) (of_decide_eq_true hc2)
      refine ⟨⟨by omega, by omega, by unfold lenZ; omega⟩, ?_, ⟨by omega, by omega⟩, ⟨by omega, by omega⟩, rfl, ⟨j + 1, j + 1, e1, e1, by omega, ?_, ?_, hP2⟩, by omega⟩
      · rw [List.length_append]; show ((o.length + 1 : Nat) : Int) ≤ 16777216; omega
      · cases o <;> rfl
      · rw [List.length_append]; show o.length + 1 ≤ j + 1; omega
    · have hne : ¬ j = l.length := fun e => by
        rw [decide_eq_true (show (j : Int) = lenZ l by unfold lenZ; omega)] at hc
        cases hc
      have hc2 : byt l j ≠ c := by
        rw [decide_eq_false (show ¬ (j : Int) = lenZ l by unfold lenZ; omega)] at hc
        exact of_decide_eq_false hc
      exact ⟨⟨by omega, by omega⟩, rfl, ⟨j + 1, b, e1, rfl, by omega, rfl, by omega, partsAt_miss hP (by omega) hc2⟩, by omega⟩
  · have hj : j = l.length + 1 := by have := of_decide_eq_false h; unfold lenZ at this; omega
    have hs := hP.2 hj
    have hne := splitB_ne c l
    rw [hs] at hne
    cases o with
    | nil => exact absurd rfl hne
    | cons p ps => show PV.row false _ _ = PV.row false _ _; rw [hs])
def ent_parts : List PV → Option CallR := fun xs => match xs with
  | [.str l, .int .u8 c] => some ⟨l.length ≤ 1000000 ∧ 0 ≤ c ∧ c ≤ 255, .row false (.strs (splitB c l)) 0⟩
  | _ => none
theorem ent_parts_ok : ∀ xs c, ent_parts xs = some c → FuncOk Tryz.prog noT 17 xs c := fun xs c h => by
  unfold ent_parts at h
  split at h
  · injection h with h; subst h; exact ok_parts _ _
  · cases h
end Go.Proofs.YtapigaemojnaaaaGreatDoor

/- The function internal/stringslite.IndexByte does what is told of it. -/
namespace Go.Proofs.YtapigaemojnaaaaGreatDoor
open Go Go.Proofs Go.RowKit Go.Vc
attribute [local instance] Go.Vc.noW

def X_ixl : Tbl := tblX [(70, ent_ixs)]
def H_ixl (l : Bs) (c : Int) : Loops := fun i => none
theorem X_ixl_ok : XOk Tryz.prog noT X_ixl := tblX_cons ent_ixs_ok (tblX_nil)
theorem vc_ixl (l : Bs) (c : Int) (k : PV → Prop) : evF Tryz.prog X_ixl noT (H_ixl l c) 1000 Tryz.f35 [.str l, .int .u8 c] k = (
  ((0 : Int) ≤ c ∧ c ≤ (255 : Int)) ∧ k (PV.int Go.IntKind.i64 (idxB l c))) := by kernel_rfl
attribute [local irreducible] Go.Vc.evF
theorem ok_ixl (l : Bs) (c : Int) : FuncOk Tryz.prog noT 35 [.str l, .int .u8 c] ⟨0 ≤ c ∧ c ≤ 255, .int .i64 (idxB l c)⟩ := evF_ok (by kernel_rfl) X_ixl_ok (H := H_ixl l c) (fuel := 1000) Tryz.func35 (by kernel_rfl) fun hpre => (vc_ixl l c _).mpr (by
  exact ⟨hpre, rfl⟩)
def ent_ixl : List PV → Option CallR := fun xs => match xs with
  | [.str l, .int .u8 c] => some ⟨0 ≤ c ∧ c ≤ 255, .int .i64 (idxB l c)⟩
  | _ => none
theorem ent_ixl_ok : ∀ xs c, ent_ixl xs = some c → FuncOk Tryz.prog noT 35 xs c := fun xs c h => by
  unfold ent_ixl at h
  split at h
  · injection h with h; subst h; exact ok_ixl _ _
  · cases h
end Go.Proofs.YtapigaemojnaaaaGreatDoor

/- The function strings.IndexByte does what is told of it. -/
namespace Go.Proofs.YtapigaemojnaaaaGreatDoor
open Go Go.Proofs Go.RowKit Go.Vc
attribute [local instance] Go.Vc.noW

def X_ixb : Tbl := tblX [(35, ent_ixl)]
def H_ixb (l : Bs) (c : Int) : Loops := fun i => none
theorem X_ixb_ok : XOk Tryz.prog noT X_ixb := tblX_cons ent_ixl_ok (tblX_nil)
theorem vc_ixb (l : Bs) (c : Int) (k : PV → Prop) : evF Tryz.prog X_ixb noT (H_ixb l c) 1000 Tryz.f13 [.str l, .int .u8 c] k = (
  ((0 : Int) ≤ c ∧ c ≤ (255 : Int)) ∧ k (PV.int Go.IntKind.i64 (idxB l c))) := by kernel_rfl
attribute [local irreducible] Go.Vc.evF
theorem ok_ixb (l : Bs) (c : Int) : FuncOk Tryz.prog noT 13 [.str l, .int .u8 c] ⟨0 ≤ c ∧ c ≤ 255, .int .i64 (idxB l c)⟩ := evF_ok (by kernel_rfl) X_ixb_ok (H := H_ixb l c) (fuel := 1000) Tryz.func13 (by kernel_rfl) fun hpre => (vc_ixb l c _).mpr (by
  exact ⟨hpre, rfl⟩)
def ent_ixb : List PV → Option CallR := fun xs => match xs with
  | [.str l, .int .u8 c] => some ⟨0 ≤ c ∧ c ≤ 255, .int .i64 (idxB l c)⟩
  | _ => none
theorem ent_ixb_ok : ∀ xs c, ent_ixb xs = some c → FuncOk Tryz.prog noT 13 xs c := fun xs c h => by
  unfold ent_ixb at h
  split at h
  · injection h with h; subst h; exact ok_ixb _ _
  · cases h
end Go.Proofs.YtapigaemojnaaaaGreatDoor

/- The function internal/stringslite.HasPrefix does what is told of it. -/
namespace Go.Proofs.YtapigaemojnaaaaGreatDoor
open Go Go.Proofs Go.RowKit Go.Vc
attribute [local instance] Go.Vc.noW
def preB (l m : Bs) : Bool := bif decide (lenZ m ≤ lenZ l) then decide (takeZ l (lenZ m) = m) else false

def X_lpre : Tbl := tblX []
def H_lpre (l m : Bs) : Loops := fun i => none
theorem X_lpre_ok : XOk Tryz.prog noT X_lpre := tblX_nil
theorem vc_lpre (l m : Bs) (k : PV → Prop) : evF Tryz.prog X_lpre noT (H_lpre l m) 1000 Tryz.f36 [.str l, .str m] k = (
  (decide (lenZ m ≤ lenZ l) = true → upto (0 : Int) (lenZ m) (lenZ l)) ∧
 k (PV.bool (bif decide (lenZ m ≤ lenZ l) then decide (takeZ l (lenZ m) = m) else false))) := by kernel_rfl
attribute [local irreducible] Go.Vc.evF
theorem ok_lpre (l m : Bs) : FuncOk Tryz.prog noT 36 [.str l, .str m] ⟨True, .bool (preB l m)⟩ := evF_ok (by kernel_rfl) X_lpre_ok (H := H_lpre l m) (fuel := 1000) Tryz.func36 (by kernel_rfl) fun hpre => (vc_lpre l m _).mpr (by
  exact ⟨fun h => ⟨by omega, by unfold lenZ; omega, of_decide_eq_true h⟩, rfl⟩)
def ent_lpre : List PV → Option CallR := fun xs => match xs with
  | [.str l, .str m] => some ⟨True, .bool (preB l m)⟩
  | _ => none
theorem ent_lpre_ok : ∀ xs c, ent_lpre xs = some c → FuncOk Tryz.prog noT 36 xs c := fun xs c h => by
  unfold ent_lpre at h
  split at h
  · injection h with h; subst h; exact ok_lpre _ _
  · cases h
end Go.Proofs.YtapigaemojnaaaaGreatDoor

/- The function internal/stringslite.HasSuffix does what is told of it. -/
namespace Go.Proofs.YtapigaemojnaaaaGreatDoor
open Go Go.Proofs Go.RowKit Go.Vc
attribute [local instance] Go.Vc.noW
def sufB (l m : Bs) : Bool := bif decide (lenZ m ≤ lenZ l) then decide (dropZ l (lenZ l - lenZ m) = m) else false

def X_lsuf : Tbl := tblX []
def H_lsuf (l m : Bs) : Loops := fun i => none
theorem X_lsuf_ok : XOk Tryz.prog noT X_lsuf := tblX_nil
theorem vc_lsuf (l m : Bs) (k : PV → Prop) : evF Tryz.prog X_lsuf noT (H_lsuf l m) 1000 Tryz.f38 [.str l, .str m] k = (
  (decide (lenZ m ≤ lenZ l) = true → inI64 (lenZ l - lenZ m)) ∧
 (decide (lenZ m ≤ lenZ l) = true → upto (lenZ l - lenZ m) (lenZ l) (lenZ l)) ∧
 k (PV.bool (bif decide (lenZ m ≤ lenZ l) then decide (dropZ l (lenZ l - lenZ m) = m) else false))) := by kernel_rfl
attribute [local irreducible] Go.Vc.evF
theorem ok_lsuf (l m : Bs) : FuncOk Tryz.prog noT 38 [.str l, .str m] ⟨l.length ≤ 1000000 ∧ m.length ≤ 1000000, .bool (sufB l m)⟩ := evF_ok (by kernel_rfl) X_lsuf_ok (H := H_lsuf l m) (fuel := 1000) Tryz.func38 (by kernel_rfl) fun hpre => (vc_lsuf l m _).mpr (by
  exact ⟨fun h => ⟨by unfold lenZ; omega, by unfold lenZ; omega⟩, fun h => ⟨by have := of_decide_eq_true h; omega, by unfold lenZ; omega, Int.le_refl _⟩, rfl⟩)
def ent_lsuf : List PV → Option CallR := fun xs => match xs with
  | [.str l, .str m] => some ⟨l.length ≤ 1000000 ∧ m.length ≤ 1000000, .bool (sufB l m)⟩
  | _ => none
theorem ent_lsuf_ok : ∀ xs c, ent_lsuf xs = some c → FuncOk Tryz.prog noT 38 xs c := fun xs c h => by
  unfold ent_lsuf at h
  split at h
  · injection h with h; subst h; exact ok_lsuf _ _
  · cases h
end Go.Proofs.YtapigaemojnaaaaGreatDoor

/- The function strings.HasPrefix does what is told of it. -/
namespace Go.Proofs.YtapigaemojnaaaaGreatDoor
open Go Go.Proofs Go.RowKit Go.Vc
attribute [local instance] Go.Vc.noW

def X_pre : Tbl := tblX [(36, ent_lpre)]
def H_pre (l m : Bs) : Loops := fun i => none
theorem X_pre_ok : XOk Tryz.prog noT X_pre := tblX_cons ent_lpre_ok (tblX_nil)
theorem vc_pre (l m : Bs) (k : PV → Prop) : evF Tryz.prog X_pre noT (H_pre l m) 1000 Tryz.f14 [.str l, .str m] k = (
  True ∧ k (PV.bool (preB l m))) := by kernel_rfl
attribute [local irreducible] Go.Vc.evF
theorem ok_pre (l m : Bs) : FuncOk Tryz.prog noT 14 [.str l, .str m] ⟨True, .bool (preB l m)⟩ := evF_ok (by kernel_rfl) X_pre_ok (H := H_pre l m) (fuel := 1000) Tryz.func14 (by kernel_rfl) fun hpre => (vc_pre l m _).mpr (by
  exact ⟨trivial, rfl⟩)
def ent_pre : List PV → Option CallR := fun xs => match xs with
  | [.str l, .str m] => some ⟨True, .bool (preB l m)⟩
  | _ => none
theorem ent_pre_ok : ∀ xs c, ent_pre xs = some c → FuncOk Tryz.prog noT 14 xs c := fun xs c h => by
  unfold ent_pre at h
  split at h
  · injection h with h; subst h; exact ok_pre _ _
  · cases h
end Go.Proofs.YtapigaemojnaaaaGreatDoor

/- The function strings.HasSuffix does what is told of it. -/
namespace Go.Proofs.YtapigaemojnaaaaGreatDoor
open Go Go.Proofs Go.RowKit Go.Vc
attribute [local instance] Go.Vc.noW

def X_suf : Tbl := tblX [(38, ent_lsuf)]
def H_suf (l m : Bs) : Loops := fun i => none
theorem X_suf_ok : XOk Tryz.prog noT X_suf := tblX_cons ent_lsuf_ok (tblX_nil)
theorem vc_suf (l m : Bs) (k : PV → Prop) : evF Tryz.prog X_suf noT (H_suf l m) 1000 Tryz.f16 [.str l, .str m] k = (
  (List.length l ≤ (1000000 : Nat) ∧ List.length m ≤ (1000000 : Nat)) ∧ k (PV.bool (sufB l m))) := by kernel_rfl
attribute [local irreducible] Go.Vc.evF
theorem ok_suf (l m : Bs) : FuncOk Tryz.prog noT 16 [.str l, .str m] ⟨l.length ≤ 1000000 ∧ m.length ≤ 1000000, .bool (sufB l m)⟩ := evF_ok (by kernel_rfl) X_suf_ok (H := H_suf l m) (fuel := 1000) Tryz.func16 (by kernel_rfl) fun hpre => (vc_suf l m _).mpr (by
  exact ⟨hpre, rfl⟩)
def ent_suf : List PV → Option CallR := fun xs => match xs with
  | [.str l, .str m] => some ⟨l.length ≤ 1000000 ∧ m.length ≤ 1000000, .bool (sufB l m)⟩
  | _ => none
theorem ent_suf_ok : ∀ xs c, ent_suf xs = some c → FuncOk Tryz.prog noT 16 xs c := fun xs c h => by
  unfold ent_suf at h
  split at h
  · injection h with h; subst h; exact ok_suf _ _
  · cases h
end Go.Proofs.YtapigaemojnaaaaGreatDoor

/- The function gossamer/shed.Split does what is told of it. -/
namespace Go.Proofs.YtapigaemojnaaaaGreatDoor
open Go Go.Proofs Go.RowKit Go.Vc
attribute [local instance] Go.Vc.noW

def fsl : Bs → Nat
  | [] => 0
  | b :: r => if b.toNat = 47 then 0 else fsl r + 1
theorem fsl_le : ∀ l : Bs, fsl l ≤ l.length
  | [] => Nat.le_refl _
  | b :: r => by unfold fsl; have := fsl_le r; split <;> simp <;> omega
theorem fsl_lt : ∀ {l : Bs} {q : Nat}, q < fsl l → byt l q ≠ 47
  | [], q, h => by unfold fsl at h; omega
  | b :: r, q, h => by
    unfold fsl at h
    split at h
    · omega
    · cases q with
      | zero => rw [byt0]; omega
      | succ q => rw [bytS]; exact fsl_lt (by omega)
theorem fsl_at : ∀ {l : Bs}, fsl l < l.length → byt l (fsl l) = 47
  | [], h => by simp at h
  | b :: r, h => by
    unfold fsl at h ⊢
    split
    · rename_i hb; rw [byt0]; omega
    · rename_i hb
      rw [if_neg hb] at h
      rw [bytS]; exact fsl_at (by simpa using h)
theorem idx_fsl : ∀ l : Bs, Lib.indexByte l 47 = if fsl l < l.length then (fsl l : Int) else -1
  | [] => rfl
  | b :: r => by
    have hge := Lib.indexByte_ge r 47
    have ih := idx_fsl r
    rw [show Lib.indexByte (b :: r) 47 = if b == 47 then 0 else if Lib.indexByte r 47 == -1 then -1 else Lib.indexByte r 47 + 1 from rfl, ih, show fsl (b :: r) = if b.toNat = 47 then 0 else fsl r + 1 from rfl]
    by_cases h : b.toNat = 47
    · have e : b = 47 := UInt8.toNat_inj.1 h
      rw [if_pos h, e]
      simp
    · have e : (b == (47 : UInt8)) = false := by
        rw [beq_eq_false_iff_ne]; intro e; rw [e] at h; exact h rfl
      rw [e, if_neg h, if_neg (by decide)]
      have hlen : (b :: r).length = r.length + 1 := rfl
      by_cases g : fsl r < r.length
      · have g2 : (((fsl r : Nat) : Int) == -1) = false := by rw [beq_eq_false_iff_ne]; omega
        rw [if_pos g, g2, if_neg (by decide), if_pos (by omega)]
        push_cast; rfl
      · rw [if_neg g, if_neg (show ¬ fsl r + 1 < (b :: r).length by omega)]
        rfl
theorem split_fsl (l : Bs) : splitB 47 l = if fsl l < l.length then l.take (fsl l) :: splitB 47 (l.drop (fsl l + 1)) else [l] := by
  by_cases h : fsl l < l.length
  · rw [if_pos h]
    exact splitB_hit 47 (fsl l) l h (fun q hq => fsl_lt hq) (fsl_at h)
  · rw [if_neg h]
    exact splitB_end 47 l fun q hq => fsl_lt (by have := fsl_le l; omega)
def isAt (l : Bs) : Bool := match l with | b :: _ => decide (b.toNat = 64) | [] => false
def nameN (l : Bs) : Option Nat := if isAt l = true then (if fsl l + 1 < l.length ∧ byt l (fsl l + 1) ≠ 47 then some (fsl l + 1 + fsl (l.drop (fsl l + 1))) else none) else some (fsl l)
def endsB (l : Bs) : Bool := decide (0 < l.length ∧ byt l (l.length - 1) = 47)
def badN (b : UInt8) : Bool := decide (b.toNat = 92 ∨ b.toNat = 37)
def splitN (l : Bs) (n : Nat) : Bs × Bs × Int := if l.take n = [] ∨ byt l 0 = 46 ∨ (l.take n).any badN = true ∨ endsB (l.drop n) = true then ([], [], 15) else (l.take n, 46 :: l.drop n, 0)
def splitM (l : Bs) : Bs × Bs × Int := match nameN l with
  | none => ([], [], 15)
  | some n => splitN l n
theorem conAny_bad : ∀ l : Bs, Lib.containsAny l [92, 37] = l.any badN := by
  intro l
  unfold Lib.containsAny
  induction l with
  | nil => rfl
  | cons b r ih =>
    have hge := Lib.indexAny_ge [92, 37] r
    have hb : ([92, 37] : List UInt8).contains b = badN b := by
      unfold badN
      rw [Bool.eq_iff_iff, decide_eq_true_iff]
      simp only [List.contains_cons, List.contains_nil, Bool.or_false, Bool.or_eq_true, beq_iff_eq]
      constructor
      · rintro (h | h)
        · rw [h]; exact .inl rfl
        · rw [h]; exact .inr rfl
      · rintro (h | h)
        · exact .inl (UInt8.toNat_inj.1 h)
        · exact .inr (UInt8.toNat_inj.1 h)
    rw [List.any_cons, ← ih, show Lib.indexAny (b :: r) [92, 37] = if ([92, 37] : List UInt8).contains b then 0 else if Lib.indexAny r [92, 37] == -1 then -1 else Lib.indexAny r [92, 37] + 1 from rfl, hb]
    cases badN b with
    | true => simp
    | false =>
      rw [Bool.false_or]
      simp only [Bool.false_eq_true, if_false]
      by_cases h : Lib.indexAny r [92, 37] = -1
      · rw [h]; rfl
      · have : (Lib.indexAny r [92, 37] == -1) = false := by rw [beq_eq_false_iff_ne]; exact h
        rw [this]
        simp only [Bool.false_eq_true, if_false]
        rw [decide_eq_decide]
        omega
def TailC (l : Bs) (e : Int) (k : PV → Prop) : Prop := upto (0 : Int) e (lenZ l) ∧ upto e (lenZ l) (lenZ l) ∧ (decide (takeZ l e = (ByteArray.mk #[]).data.toList) = false → within (0 : Int) (lenZ (takeZ l e))) ∧ ((bif decide (takeZ l e = (ByteArray.mk #[]).data.toList) then true else decide (byteZ (takeZ l e) (0 : Int) = (46 : Int))) = false → (takeZ l e).length ≤ (1000000 : Nat) ∧ (ByteArray.mk #[(92 : UInt8), (37 : UInt8)]).data.toList.length ≤ (1000000 : Nat) ∧ ∀ (b : UInt8), b ∈ (ByteArray.mk #[(92 : UInt8), (37 : UInt8)]).data.toList → b.toNat < (128 : Nat)) ∧ ((bif bif decide (takeZ l e = (ByteArray.mk #[]).data.toList) then true else decide (byteZ (takeZ l e) (0 : Int) = (46 : Int)) then true else conB (takeZ l e) (ByteArray.mk #[(92 : UInt8), (37 : UInt8)]).data.toList) = false → (dropZ l e).length ≤ (1000000 : Nat) ∧ (ByteArray.mk #[(47 : UInt8)]).data.toList.length ≤ (1000000 : Nat)) ∧ ((bif bif bif decide (takeZ l e = (ByteArray.mk #[]).data.toList) then true else decide (byteZ (takeZ l e) (0 : Int) = (46 : Int)) then true else conB (takeZ l e) (ByteArray.mk #[(92 : UInt8), (37 : UInt8)]).data.toList then true else sufB (dropZ l e) (ByteArray.mk #[(47 : UInt8)]).data.toList) = true → k (PV.tup [PV.str (ByteArray.mk #[]).data.toList, PV.str (ByteArray.mk #[]).data.toList, PV.int IntKind.i64 (15 : Int)])) ∧ ((bif bif bif decide (takeZ l e = (ByteArray.mk #[]).data.toList) then true else decide (byteZ (takeZ l e) (0 : Int) = (46 : Int)) then true else conB (takeZ l e) (ByteArray.mk #[(92 : UInt8), (37 : UInt8)]).data.toList then true else sufB (dropZ l e) (ByteArray.mk #[(47 : UInt8)]).data.toList) = false → (ByteArray.mk #[(46 : UInt8)]).data.toList.length + (dropZ l e).length ≤ Go.Vc.maxLen ∧ k (PV.tup [PV.str (takeZ l e), PV.str ((ByteArray.mk #[(46 : UInt8)]).data.toList ++ dropZ l e), PV.int IntKind.i64 (0 : Int)]))
theorem pre_at (l : Bs) : preB l [64] = isAt l := by
  unfold preB isAt lenZ takeZ
  cases l with
  | nil => rfl
  | cons b r =>
    rw [decide_eq_true (show (([64] : Bs).length : Int) ≤ ((b :: r).length : Int) by simp; omega)]
    show decide (List.take 1 (b :: r) = [64]) = _
    rw [decide_eq_decide]
    simp only [List.take_succ_cons, List.take_zero, List.cons.injEq, and_true]
    exact ⟨fun h => by rw [h]; rfl, fun h => UInt8.toNat_inj.1 h⟩
theorem suf_at (l : Bs) : sufB l [47] = endsB l := by
  unfold sufB endsB lenZ dropZ
  by_cases h : 0 < l.length
  · rw [decide_eq_true (show (([47] : Bs).length : Int) ≤ (l.length : Int) by show (1 : Int) ≤ _; omega)]
    show decide (l.drop ((l.length : Int) - 1).toNat = [47]) = _
    rw [show ((l.length : Int) - 1).toNat = l.length - 1 by omega, List.drop_eq_getElem_cons (by omega), show l.length - 1 + 1 = l.length by omega, List.drop_length, decide_eq_decide]
    have hb : byt l (l.length - 1) = ((l[l.length - 1]'(by omega)).toNat : Int) := by
      unfold byt; rw [List.getD_eq_getElem?_getD, List.getElem?_eq_getElem (by omega)]; rfl
    rw [hb]
    simp only [List.cons.injEq, and_true]
    exact ⟨fun g => ⟨h, by rw [g]; rfl⟩, fun g => UInt8.toNat_inj.1 (by have := g.2; have h2 : (47 : UInt8).toNat = 47 := rfl; omega)⟩
  · rw [decide_eq_false (show ¬ (([47] : Bs).length : Int) ≤ (l.length : Int) by show ¬ (1 : Int) ≤ _; omega)]
    symm
    rw [cond_false]
    exact decide_eq_false fun g => h g.1
theorem tail_ok (l : Bs) (hl : l.length ≤ 1000000) (n : Nat) (hn : n ≤ l.length) (k : PV → Prop) (hk : k (.tup [.str (splitN l n).1, .str (splitN l n).2.1, .int .i64 (splitN l n).2.2])) : TailC l (n : Int) k := by
  have ht : takeZ l (n : Int) = l.take n := rfl
  have hd : dropZ l (n : Int) = l.drop n := rfl
  unfold TailC
  rw [ht, hd]
  have hlt : (l.take n).length ≤ 1000000 := by rw [List.length_take]; omega
  have hld : (l.drop n).length ≤ 1000000 := by rw [List.length_drop]; omega
  have hcn : conB (l.take n) [92, 37] = (l.take n).any badN := conAny_bad _
  have hsf : sufB (l.drop n) [47] = endsB (l.drop n) := suf_at _
  have hb : l.take n ≠ [] → byteZ (l.take n) 0 = byt l 0 := fun h => by
    cases l with
    | nil => simp at h
    | cons b r => cases n with
      | zero => simp at h
      | succ n => rfl
  have ea : (ByteArray.mk #[]).data.toList = ([] : Bs) := rfl
  have eb : (ByteArray.mk #[(92 : UInt8), (37 : UInt8)]).data.toList = ([92, 37] : Bs) := rfl
  have ec : (ByteArray.mk #[(47 : UInt8)]).data.toList = ([47] : Bs) := rfl
  have ed : (ByteArray.mk #[(46 : UInt8)]).data.toList = ([46] : Bs) := rfl
  simp only [ea, eb, ec, ed, hcn, hsf]
  refine ⟨⟨by omega, by omega, by unfold lenZ; omega⟩, ⟨by omega, by unfold lenZ; omega, Int.le_refl _⟩, fun h => ?_, fun _ => ⟨hlt, by decide, fun b hb => ?_⟩, fun _ => ⟨hld, by decide⟩, fun h => ?_, fun h => ⟨?_, ?_⟩⟩
  · have h1 : l.take n ≠ [] := of_decide_eq_false h
    have : 0 < (l.take n).length := List.length_pos_iff.2 h1
    unfold within lenZ; omega
  · rcases List.mem_cons.1 hb with rfl | hb
    · decide
    · rw [List.mem_singleton.1 hb]; decide
  · unfold splitN at hk
    rw [if_pos] at hk
    · exact hk
    · by_cases h1 : l.take n = []
      · exact .inl h1
      · refine .inr ?_
        rw [decide_eq_false h1, hb h1] at h
        cases h2 : decide (byt l 0 = 46) with
        | true => exact .inl (of_decide_eq_true h2)
        | false =>
          rw [h2] at h
          cases h3 : (l.take n).any badN with
          | true => exact .inr (.inl rfl)
          | false => rw [h3] at h; exact .inr (.inr h)
  · have hml : Go.Vc.maxLen = 1099511627776 := rfl
    have h46 : ([46] : Bs).length = 1 := rfl
    omega
  · unfold splitN at hk
    rw [if_neg] at hk
    · exact hk
    · intro hh
      by_cases h1 : l.take n = []
      · rw [decide_eq_true h1] at h; cases h
      · rw [decide_eq_false h1, hb h1] at h
        rcases hh with h2 | h2 | h2 | h2
        · exact h1 h2
        · rw [decide_eq_true h2] at h; cases h
        · rw [h2] at h
          cases h3 : decide (byt l 0 = 46) <;> rw [h3] at h <;> cases h
        · rw [h2] at h
          cases h3 : decide (byt l 0 = 46) <;> cases h4 : (l.take n).any badN <;> rw [h3, h4] at h <;> cases h
theorem idxB_fsl (l : Bs) : idxB l 47 = if fsl l < l.length then (fsl l : Int) else -1 := idx_fsl l

def X_split : Tbl := tblX [(13, ent_ixb), (14, ent_pre), (16, ent_suf), (15, ent_con)]
def H_split (l : Bs) : Loops := fun i => none
theorem X_split_ok : XOk Tryz.prog noT X_split := tblX_cons ent_ixb_ok (tblX_cons ent_pre_ok (tblX_cons ent_suf_ok (tblX_cons ent_con_ok (tblX_nil))))
theorem vc_split (l : Bs) (k : PV → Prop) : evF Tryz.prog X_split noT (H_split l) 1000 Tryz.f5 [.str l] k = (
  ((0 : Int) ≤ (47 : Int) ∧ (47 : Int) ≤ (255 : Int)) ∧
 True ∧
 (preB l (ByteArray.mk #[(64 : UInt8)]).data.toList = true →
 (decide (idxB l (47 : Int) < (0 : Int)) = false →
 inI64 (idxB l (47 : Int) + (1 : Int))) ∧
 ((bif decide (idxB l (47 : Int) < (0 : Int)) then true
 else decide (idxB l (47 : Int) + (1 : Int) = lenZ l)) =
 false →
 inI64 (idxB l (47 : Int) + (1 : Int))) ∧
 ((bif decide (idxB l (47 : Int) < (0 : Int)) then true
 else decide (idxB l (47 : Int) + (1 : Int) = lenZ l)) =
 false →
 within (idxB l (47 : Int) + (1 : Int)) (lenZ l)) ∧
 ((bif
 bif decide (idxB l (47 : Int) < (0 : Int)) then true
 else decide (idxB l (47 : Int) + (1 : Int) = lenZ l) then
 true
 else decide (byteZ l (idxB l (47 : Int) + (1 : Int)) = (47 : Int))) =
 true →
 k
 (PV.tup
 [PV.str (ByteArray.mk #[]).data.toList, PV.str (ByteArray.mk #[]).data.toList, PV.int Go.IntKind.i64 (15 : Int)])) ∧
 ((bif
 bif decide (idxB l (47 : Int) < (0 : Int)) then true
 else decide (idxB l (47 : Int) + (1 : Int) = lenZ l) then
 true
 else decide (byteZ l (idxB l (47 : Int) + (1 : Int)) = (47 : Int))) =
 false →
 inI64 (idxB l (47 : Int) + (1 : Int)) ∧
 upto (idxB l (47 : Int) + (1 : Int)) (lenZ l) (lenZ l) ∧
 ((0 : Int) ≤ (47 : Int) ∧ (47 : Int) ≤ (255 : Int)) ∧
 (decide
 ((0 : Int) ≤
 idxB (dropZ l (idxB l (47 : Int) + (1 : Int)))
 (47 : Int)) =
 true →
 inI64
 ((1 : Int) +
 idxB (dropZ l (idxB l (47 : Int) + (1 : Int)))
 (47 : Int)) ∧
 inI64
 (idxB l (47 : Int) +
 ((1 : Int) +
 idxB
 (dropZ l (idxB l (47 : Int) + (1 : Int))) (47 : Int))) ∧
 (decide
 (idxB l (47 : Int) +
 ((1 : Int) +
 idxB
 (dropZ l (idxB l (47 : Int) + (1 : Int))) (47 : Int)) <
 (0 : Int)) =
 true →
 upto (0 : Int) (lenZ l) (lenZ l) ∧
 upto (lenZ l) (lenZ l) (lenZ l) ∧
 (decide (takeZ l (lenZ l) = (ByteArray.mk #[]).data.toList) = false →
 within (0 : Int) (lenZ (takeZ l (lenZ l)))) ∧
 ((bif decide (takeZ l (lenZ l) = (ByteArray.mk #[]).data.toList) then true
 else decide (byteZ (takeZ l (lenZ l)) (0 : Int) = (46 : Int))) =
 false →
 (takeZ l (lenZ l)).length ≤ (1000000 : Nat) ∧
 (ByteArray.mk #[(92 : UInt8), (37 : UInt8)]).data.toList.length ≤ (1000000 : Nat) ∧
 ∀ (b : UInt8), b ∈ (ByteArray.mk #[(92 : UInt8), (37 : UInt8)]).data.toList → b.toNat < (128 : Nat)) ∧
 ((bif
 bif decide (takeZ l (lenZ l) = (ByteArray.mk #[]).data.toList) then true
 else decide (byteZ (takeZ l (lenZ l)) (0 : Int) = (46 : Int)) then
 true
 else
 conB (takeZ l (lenZ l))
 (ByteArray.mk #[(92 : UInt8), (37 : UInt8)]).data.toList) =
 false →
 (dropZ l (lenZ l)).length ≤ (1000000 : Nat) ∧
 (ByteArray.mk #[(47 : UInt8)]).data.toList.length ≤ (1000000 : Nat)) ∧
 ((bif
 bif
 bif decide (takeZ l (lenZ l) = (ByteArray.mk #[]).data.toList) then true
 else decide (byteZ (takeZ l (lenZ l)) (0 : Int) = (46 : Int)) then
 true
 else
 conB (takeZ l (lenZ l))
 (ByteArray.mk #[(92 : UInt8), (37 : UInt8)]).data.toList then
 true
 else
 sufB (dropZ l (lenZ l))
 (ByteArray.mk #[(47 : UInt8)]).data.toList) =
 true →
 k
 (PV.tup
 [PV.str (ByteArray.mk #[]).data.toList, PV.str (ByteArray.mk #[]).data.toList,
 PV.int Go.IntKind.i64 (15 : Int)])) ∧
 ((bif
 bif
 bif decide (takeZ l (lenZ l) = (ByteArray.mk #[]).data.toList) then true
 else decide (byteZ (takeZ l (lenZ l)) (0 : Int) = (46 : Int)) then
 true
 else
 conB (takeZ l (lenZ l))
 (ByteArray.mk #[(92 : UInt8), (37 : UInt8)]).data.toList then
 true
 else
 sufB (dropZ l (lenZ l))
 (ByteArray.mk #[(47 : UInt8)]).data.toList) =
 false →
 (ByteArray.mk #[(46 : UInt8)]).data.toList.length + (dropZ l (lenZ l)).length ≤ Go.Vc.maxLen ∧
 k
 (PV.tup
 [PV.str (takeZ l (lenZ l)),
 PV.str ((ByteArray.mk #[(46 : UInt8)]).data.toList ++ dropZ l (lenZ l)),
 PV.int Go.IntKind.i64 (0 : Int)]))) ∧
 (decide
 (idxB l (47 : Int) +
 ((1 : Int) +
 idxB
 (dropZ l (idxB l (47 : Int) + (1 : Int))) (47 : Int)) <
 (0 : Int)) =
 false →
 upto (0 : Int)
 (idxB l (47 : Int) +
 ((1 : Int) +
 idxB
 (dropZ l (idxB l (47 : Int) + (1 : Int))) (47 : Int)))
 (lenZ l) ∧
 upto
 (idxB l (47 : Int) +
 ((1 : Int) +
 idxB
 (dropZ l (idxB l (47 : Int) + (1 : Int))) (47 : Int)))
 (lenZ l) (lenZ l) ∧
 (decide
 (takeZ l
 (idxB l (47 : Int) +
 ((1 : Int) +
 idxB
 (dropZ l (idxB l (47 : Int) + (1 : Int))) (47 : Int))) =
 (ByteArray.mk #[]).data.toList) =
 false →
 within (0 : Int)
 (lenZ
 (takeZ l
 (idxB l (47 : Int) +
 ((1 : Int) +
 idxB
 (dropZ l (idxB l (47 : Int) + (1 : Int))) (47 : Int)))))) ∧
 ((bif
 decide
 (takeZ l
 (idxB l (47 : Int) +
 ((1 : Int) +
 idxB
 (dropZ l (idxB l (47 : Int) + (1 : Int)))
 (47 : Int))) =
 (ByteArray.mk #[]).data.toList) then
 true
 else
 decide
 (byteZ
 (takeZ l
 (idxB l (47 : Int) +
 ((1 : Int) +
 idxB
 (dropZ l (idxB l (47 : Int) + (1 : Int)))
 (47 : Int))))
 (0 : Int) =
 (46 : Int))) =
 false →
 (takeZ l
 (idxB l (47 : Int) +
 ((1 : Int) +
 idxB
 (dropZ l (idxB l (47 : Int) + (1 : Int)))
 (47 : Int)))).length ≤
 (1000000 : Nat) ∧
 (ByteArray.mk #[(92 : UInt8), (37 : UInt8)]).data.toList.length ≤ (1000000 : Nat) ∧
 ∀ (b : UInt8), b ∈ (ByteArray.mk #[(92 : UInt8), (37 : UInt8)]).data.toList → b.toNat < (128 : Nat)) ∧
 ((bif
 bif
 decide
 (takeZ l
 (idxB l (47 : Int) +
 ((1 : Int) +
 idxB
 (dropZ l (idxB l (47 : Int) + (1 : Int)))
 (47 : Int))) =
 (ByteArray.mk #[]).data.toList) then
 true
 else
 decide
 (byteZ
 (takeZ l
 (idxB l (47 : Int) +
 ((1 : Int) +
 idxB
 (dropZ l (idxB l (47 : Int) + (1 : Int)))
 (47 : Int))))
 (0 : Int) =
 (46 : Int)) then
 true
 else
 conB
 (takeZ l
 (idxB l (47 : Int) +
 ((1 : Int) +
 idxB
 (dropZ l (idxB l (47 : Int) + (1 : Int))) (47 : Int))))
 (ByteArray.mk #[(92 : UInt8), (37 : UInt8)]).data.toList) =
 false →
 (dropZ l
 (idxB l (47 : Int) +
 ((1 : Int) +
 idxB
 (dropZ l (idxB l (47 : Int) + (1 : Int)))
 (47 : Int)))).length ≤
 (1000000 : Nat) ∧
 (ByteArray.mk #[(47 : UInt8)]).data.toList.length ≤ (1000000 : Nat)) ∧
 ((bif
 bif
 bif
 decide
 (takeZ l
 (idxB l (47 : Int) +
 ((1 : Int) +
 idxB
 (dropZ l (idxB l (47 : Int) + (1 : Int)))
 (47 : Int))) =
 (ByteArray.mk #[]).data.toList) then
 true
 else
 decide
 (byteZ
 (takeZ l
 (idxB l (47 : Int) +
 ((1 : Int) +
 idxB
 (dropZ l (idxB l (47 : Int) + (1 : Int)))
 (47 : Int))))
 (0 : Int) =
 (46 : Int)) then
 true
 else
 conB
 (takeZ l
 (idxB l (47 : Int) +
 ((1 : Int) +
 idxB
 (dropZ l (idxB l (47 : Int) + (1 : Int)))
 (47 : Int))))
 (ByteArray.mk #[(92 : UInt8), (37 : UInt8)]).data.toList then
 true
 else
 sufB
 (dropZ l
 (idxB l (47 : Int) +
 ((1 : Int) +
 idxB
 (dropZ l (idxB l (47 : Int) + (1 : Int)))
 (47 : Int))))
 (ByteArray.mk #[(47 : UInt8)]).data.toList) =
 true →
 k
 (PV.tup
 [PV.str (ByteArray.mk #[]).data.toList, PV.str (ByteArray.mk #[]).data.toList,
 PV.int Go.IntKind.i64 (15 : Int)])) ∧
 ((bif
 bif
 bif
 decide
 (takeZ l
 (idxB l (47 : Int) +
 ((1 : Int) +
 idxB
 (dropZ l (idxB l (47 : Int) + (1 : Int)))
 (47 : Int))) =
 (ByteArray.mk #[]).data.toList) then
 true
 else
 decide
 (byteZ
 (takeZ l
 (idxB l (47 : Int) +
 ((1 : Int) +
 idxB
 (dropZ l (idxB l (47 : Int) + (1 : Int)))
 (47 : Int))))
 (0 : Int) =
 (46 : Int)) then
 true
 else
 conB
 (takeZ l
 (idxB l (47 : Int) +
 ((1 : Int) +
 idxB
 (dropZ l (idxB l (47 : Int) + (1 : Int)))
 (47 : Int))))
 (ByteArray.mk #[(92 : UInt8), (37 : UInt8)]).data.toList then
 true
 else
 sufB
 (dropZ l
 (idxB l (47 : Int) +
 ((1 : Int) +
 idxB
 (dropZ l (idxB l (47 : Int) + (1 : Int)))
 (47 : Int))))
 (ByteArray.mk #[(47 : UInt8)]).data.toList) =
 false →
 (ByteArray.mk #[(46 : UInt8)]).data.toList.length +
 (dropZ l
 (idxB l (47 : Int) +
 ((1 : Int) +
 idxB
 (dropZ l (idxB l (47 : Int) + (1 : Int)))
 (47 : Int)))).length ≤
 Go.Vc.maxLen ∧
 k
 (PV.tup
 [PV.str
 (takeZ l
 (idxB l (47 : Int) +
 ((1 : Int) +
 idxB
 (dropZ l (idxB l (47 : Int) + (1 : Int)))
 (47 : Int)))),
 PV.str
 ((ByteArray.mk #[(46 : UInt8)]).data.toList ++
 dropZ l
 (idxB l (47 : Int) +
 ((1 : Int) +
 idxB
 (dropZ l (idxB l (47 : Int) + (1 : Int)))
 (47 : Int)))),
 PV.int Go.IntKind.i64 (0 : Int)])))) ∧
 (decide
 ((0 : Int) ≤
 idxB (dropZ l (idxB l (47 : Int) + (1 : Int)))
 (47 : Int)) =
 false →
 (decide (lenZ l < (0 : Int)) = true →
 upto (0 : Int) (lenZ l) (lenZ l) ∧
 upto (lenZ l) (lenZ l) (lenZ l) ∧
 (decide (takeZ l (lenZ l) = (ByteArray.mk #[]).data.toList) = false →
 within (0 : Int) (lenZ (takeZ l (lenZ l)))) ∧
 ((bif decide (takeZ l (lenZ l) = (ByteArray.mk #[]).data.toList) then true
 else decide (byteZ (takeZ l (lenZ l)) (0 : Int) = (46 : Int))) =
 false →
 (takeZ l (lenZ l)).length ≤ (1000000 : Nat) ∧
 (ByteArray.mk #[(92 : UInt8), (37 : UInt8)]).data.toList.length ≤ (1000000 : Nat) ∧
 ∀ (b : UInt8), b ∈ (ByteArray.mk #[(92 : UInt8), (37 : UInt8)]).data.toList → b.toNat < (128 : Nat)) ∧
 ((bif
 bif decide (takeZ l (lenZ l) = (ByteArray.mk #[]).data.toList) then true
 else decide (byteZ (takeZ l (lenZ l)) (0 : Int) = (46 : Int)) then
 true
 else
 conB (takeZ l (lenZ l))
 (ByteArray.mk #[(92 : UInt8), (37 : UInt8)]).data.toList) =
 false →
 (dropZ l (lenZ l)).length ≤ (1000000 : Nat) ∧
 (ByteArray.mk #[(47 : UInt8)]).data.toList.length ≤ (1000000 : Nat)) ∧
 ((bif
 bif
 bif decide (takeZ l (lenZ l) = (ByteArray.mk #[]).data.toList) then true
 else decide (byteZ (takeZ l (lenZ l)) (0 : Int) = (46 : Int)) then
 true
 else
 conB (takeZ l (lenZ l))
 (ByteArray.mk #[(92 : UInt8), (37 : UInt8)]).data.toList then
 true
 else
 sufB (dropZ l (lenZ l))
 (ByteArray.mk #[(47 : UInt8)]).data.toList) =
 true →
 k
 (PV.tup
 [PV.str (ByteArray.mk #[]).data.toList, PV.str (ByteArray.mk #[]).data.toList,
 PV.int Go.IntKind.i64 (15 : Int)])) ∧
 ((bif
 bif
 bif decide (takeZ l (lenZ l) = (ByteArray.mk #[]).data.toList) then true
 else decide (byteZ (takeZ l (lenZ l)) (0 : Int) = (46 : Int)) then
 true
 else
 conB (takeZ l (lenZ l))
 (ByteArray.mk #[(92 : UInt8), (37 : UInt8)]).data.toList then
 true
 else
 sufB (dropZ l (lenZ l))
 (ByteArray.mk #[(47 : UInt8)]).data.toList) =
 false →
 (ByteArray.mk #[(46 : UInt8)]).data.toList.length + (dropZ l (lenZ l)).length ≤ Go.Vc.maxLen ∧
 k
 (PV.tup
 [PV.str (takeZ l (lenZ l)),
 PV.str ((ByteArray.mk #[(46 : UInt8)]).data.toList ++ dropZ l (lenZ l)),
 PV.int Go.IntKind.i64 (0 : Int)]))) ∧
 (decide (lenZ l < (0 : Int)) = false →
 upto (0 : Int) (lenZ l) (lenZ l) ∧
 upto (lenZ l) (lenZ l) (lenZ l) ∧
 (decide (takeZ l (lenZ l) = (ByteArray.mk #[]).data.toList) = false →
 within (0 : Int) (lenZ (takeZ l (lenZ l)))) ∧
 ((bif decide (takeZ l (lenZ l) = (ByteArray.mk #[]).data.toList) then true
 else decide (byteZ (takeZ l (lenZ l)) (0 : Int) = (46 : Int))) =
 false →
 (takeZ l (lenZ l)).length ≤ (1000000 : Nat) ∧
 (ByteArray.mk #[(92 : UInt8), (37 : UInt8)]).data.toList.length ≤ (1000000 : Nat) ∧
 ∀ (b : UInt8), b ∈ (ByteArray.mk #[(92 : UInt8), (37 : UInt8)]).data.toList → b.toNat < (128 : Nat)) ∧
 ((bif
 bif decide (takeZ l (lenZ l) = (ByteArray.mk #[]).data.toList) then true
 else decide (byteZ (takeZ l (lenZ l)) (0 : Int) = (46 : Int)) then
 true
 else
 conB (takeZ l (lenZ l))
 (ByteArray.mk #[(92 : UInt8), (37 : UInt8)]).data.toList) =
 false →
 (dropZ l (lenZ l)).length ≤ (1000000 : Nat) ∧
 (ByteArray.mk #[(47 : UInt8)]).data.toList.length ≤ (1000000 : Nat)) ∧
 ((bif
 bif
 bif decide (takeZ l (lenZ l) = (ByteArray.mk #[]).data.toList) then true
 else decide (byteZ (takeZ l (lenZ l)) (0 : Int) = (46 : Int)) then
 true
 else
 conB (takeZ l (lenZ l))
 (ByteArray.mk #[(92 : UInt8), (37 : UInt8)]).data.toList then
 true
 else
 sufB (dropZ l (lenZ l))
 (ByteArray.mk #[(47 : UInt8)]).data.toList) =
 true →
 k
 (PV.tup
 [PV.str (ByteArray.mk #[]).data.toList, PV.str (ByteArray.mk #[]).data.toList,
 PV.int Go.IntKind.i64 (15 : Int)])) ∧
 ((bif
 bif
 bif decide (takeZ l (lenZ l) = (ByteArray.mk #[]).data.toList) then true
 else decide (byteZ (takeZ l (lenZ l)) (0 : Int) = (46 : Int)) then
 true
 else
 conB (takeZ l (lenZ l))
 (ByteArray.mk #[(92 : UInt8), (37 : UInt8)]).data.toList then
 true
 else
 sufB (dropZ l (lenZ l))
 (ByteArray.mk #[(47 : UInt8)]).data.toList) =
 false →
 (ByteArray.mk #[(46 : UInt8)]).data.toList.length + (dropZ l (lenZ l)).length ≤ Go.Vc.maxLen ∧
 k
 (PV.tup
 [PV.str (takeZ l (lenZ l)),
 PV.str ((ByteArray.mk #[(46 : UInt8)]).data.toList ++ dropZ l (lenZ l)),
 PV.int Go.IntKind.i64 (0 : Int)])))))) ∧
 (preB l (ByteArray.mk #[(64 : UInt8)]).data.toList = false →
 (decide (idxB l (47 : Int) < (0 : Int)) = true →
 upto (0 : Int) (lenZ l) (lenZ l) ∧
 upto (lenZ l) (lenZ l) (lenZ l) ∧
 (decide (takeZ l (lenZ l) = (ByteArray.mk #[]).data.toList) = false →
 within (0 : Int) (lenZ (takeZ l (lenZ l)))) ∧
 ((bif decide (takeZ l (lenZ l) = (ByteArray.mk #[]).data.toList) then true
 else decide (byteZ (takeZ l (lenZ l)) (0 : Int) = (46 : Int))) =
 false →
 (takeZ l (lenZ l)).length ≤ (1000000 : Nat) ∧
 (ByteArray.mk #[(92 : UInt8), (37 : UInt8)]).data.toList.length ≤ (1000000 : Nat) ∧
 ∀ (b : UInt8), b ∈ (ByteArray.mk #[(92 : UInt8), (37 : UInt8)]).data.toList → b.toNat < (128 : Nat)) ∧
 ((bif
 bif decide (takeZ l (lenZ l) = (ByteArray.mk #[]).data.toList) then true
 else decide (byteZ (takeZ l (lenZ l)) (0 : Int) = (46 : Int)) then
 true
 else
 conB (takeZ l (lenZ l)) (ByteArray.mk #[(92 : UInt8), (37 : UInt8)]).data.toList) =
 false →
 (dropZ l (lenZ l)).length ≤ (1000000 : Nat) ∧ (ByteArray.mk #[(47 : UInt8)]).data.toList.length ≤ (1000000 : Nat)) ∧
 ((bif
 bif
 bif decide (takeZ l (lenZ l) = (ByteArray.mk #[]).data.toList) then true
 else decide (byteZ (takeZ l (lenZ l)) (0 : Int) = (46 : Int)) then
 true
 else
 conB (takeZ l (lenZ l))
 (ByteArray.mk #[(92 : UInt8), (37 : UInt8)]).data.toList then
 true
 else sufB (dropZ l (lenZ l)) (ByteArray.mk #[(47 : UInt8)]).data.toList) =
 true →
 k
 (PV.tup
 [PV.str (ByteArray.mk #[]).data.toList, PV.str (ByteArray.mk #[]).data.toList,
 PV.int Go.IntKind.i64 (15 : Int)])) ∧
 ((bif
 bif
 bif decide (takeZ l (lenZ l) = (ByteArray.mk #[]).data.toList) then true
 else decide (byteZ (takeZ l (lenZ l)) (0 : Int) = (46 : Int)) then
 true
 else
 conB (takeZ l (lenZ l))
 (ByteArray.mk #[(92 : UInt8), (37 : UInt8)]).data.toList then
 true
 else sufB (dropZ l (lenZ l)) (ByteArray.mk #[(47 : UInt8)]).data.toList) =
 false →
 (ByteArray.mk #[(46 : UInt8)]).data.toList.length + (dropZ l (lenZ l)).length ≤ Go.Vc.maxLen ∧
 k
 (PV.tup
 [PV.str (takeZ l (lenZ l)),
 PV.str ((ByteArray.mk #[(46 : UInt8)]).data.toList ++ dropZ l (lenZ l)),
 PV.int Go.IntKind.i64 (0 : Int)]))) ∧
 (decide (idxB l (47 : Int) < (0 : Int)) = false →
 upto (0 : Int) (idxB l (47 : Int)) (lenZ l) ∧
 upto (idxB l (47 : Int)) (lenZ l) (lenZ l) ∧
 (decide (takeZ l (idxB l (47 : Int)) = (ByteArray.mk #[]).data.toList) = false →
 within (0 : Int) (lenZ (takeZ l (idxB l (47 : Int))))) ∧
 ((bif decide (takeZ l (idxB l (47 : Int)) = (ByteArray.mk #[]).data.toList) then true
 else decide (byteZ (takeZ l (idxB l (47 : Int))) (0 : Int) = (46 : Int))) =
 false →
 (takeZ l (idxB l (47 : Int))).length ≤ (1000000 : Nat) ∧
 (ByteArray.mk #[(92 : UInt8), (37 : UInt8)]).data.toList.length ≤ (1000000 : Nat) ∧
 ∀ (b : UInt8), b ∈ (ByteArray.mk #[(92 : UInt8), (37 : UInt8)]).data.toList → b.toNat < (128 : Nat)) ∧
 ((bif
 bif decide (takeZ l (idxB l (47 : Int)) = (ByteArray.mk #[]).data.toList) then true
 else decide (byteZ (takeZ l (idxB l (47 : Int))) (0 : Int) = (46 : Int)) then
 true
 else
 conB (takeZ l (idxB l (47 : Int)))
 (ByteArray.mk #[(92 : UInt8), (37 : UInt8)]).data.toList) =
 false →
 (dropZ l (idxB l (47 : Int))).length ≤ (1000000 : Nat) ∧
 (ByteArray.mk #[(47 : UInt8)]).data.toList.length ≤ (1000000 : Nat)) ∧
 ((bif
 bif
 bif decide (takeZ l (idxB l (47 : Int)) = (ByteArray.mk #[]).data.toList) then
 true
 else
 decide (byteZ (takeZ l (idxB l (47 : Int))) (0 : Int) = (46 : Int)) then
 true
 else
 conB (takeZ l (idxB l (47 : Int)))
 (ByteArray.mk #[(92 : UInt8), (37 : UInt8)]).data.toList then
 true
 else
 sufB (dropZ l (idxB l (47 : Int)))
 (ByteArray.mk #[(47 : UInt8)]).data.toList) =
 true →
 k
 (PV.tup
 [PV.str (ByteArray.mk #[]).data.toList, PV.str (ByteArray.mk #[]).data.toList,
 PV.int Go.IntKind.i64 (15 : Int)])) ∧
 ((bif
 bif
 bif decide (takeZ l (idxB l (47 : Int)) = (ByteArray.mk #[]).data.toList) then
 true
 else
 decide (byteZ (takeZ l (idxB l (47 : Int))) (0 : Int) = (46 : Int)) then
 true
 else
 conB (takeZ l (idxB l (47 : Int)))
 (ByteArray.mk #[(92 : UInt8), (37 : UInt8)]).data.toList then
 true
 else
 sufB (dropZ l (idxB l (47 : Int)))
 (ByteArray.mk #[(47 : UInt8)]).data.toList) =
 false →
 (ByteArray.mk #[(46 : UInt8)]).data.toList.length + (dropZ l (idxB l (47 : Int))).length ≤
 Go.Vc.maxLen ∧
 k
 (PV.tup
 [PV.str (takeZ l (idxB l (47 : Int))),
 PV.str
 ((ByteArray.mk #[(46 : UInt8)]).data.toList ++ dropZ l (idxB l (47 : Int))),
 PV.int Go.IntKind.i64 (0 : Int)]))))) := by kernel_rfl
attribute [local irreducible] Go.Vc.evF
theorem ok_split (l : Bs) : FuncOk Tryz.prog noT 5 [.str l] ⟨l.length ≤ 1000000, .tup [.str (splitM l).1, .str (splitM l).2.1, .int .i64 (splitM l).2.2]⟩ := evF_ok (by kernel_rfl) X_split_ok (H := H_split l) (fuel := 1000) Tryz.func5 (by kernel_rfl) fun hpre => (vc_split l _).mpr (by
  have hf := fsl_le l
  have hi := idxB_fsl l
  have ea : (ByteArray.mk #[]).data.toList = ([] : Bs) := rfl
  have e64 : (ByteArray.mk #[(64 : UInt8)]).data.toList = ([64] : Bs) := rfl
  have hT : ∀ n : Nat, n ≤ l.length → splitM l = splitN l n → TailC l (n : Int) (fun v => v = PV.tup [.str (splitM l).1, .str (splitM l).2.1, .int .i64 (splitM l).2.2]) := fun n hn he => tail_ok l hpre n hn _ (by rw [he])
  have bad : splitM l = ([], [], 15) → PV.tup [.str (ByteArray.mk #[]).data.toList, .str (ByteArray.mk #[]).data.toList, .int .i64 15] = PV.tup [.str (splitM l).1, .str (splitM l).2.1, .int .i64 (splitM l).2.2] := fun h => by rw [h]
  rw [e64, pre_at]
  refine ⟨⟨by omega, by omega⟩, trivial, fun hat => ?_, fun hat => ?_⟩
  · by_cases hs : fsl l < l.length
    · rw [if_pos hs] at hi
      rw [hi]
      have hd : dropZ l ((fsl l : Int) + 1) = l.drop (fsl l + 1) := by unfold dropZ; congr 1
      have hby : byteZ l ((fsl l : Int) + 1) = byt l (fsl l + 1) := by unfold byteZ byt; congr 2
      rw [hd, hby]
      have hf2 := fsl_le (l.drop (fsl l + 1))
      have hi2 := idxB_fsl (l.drop (fsl l + 1))
      rw [List.length_drop] at hf2 hi2
      rw [decide_eq_false (show ¬ (fsl l : Int) < 0 by omega)]
      refine ⟨fun _ => ⟨by omega, by omega⟩, fun _ => ⟨by omega, by omega⟩, fun h => ?_, fun h => ?_, fun h => ?_⟩
      · have := of_decide_eq_false h
        unfold lenZ at this; unfold within lenZ; omega
      · refine bad ?_
        unfold splitM nameN
        rw [if_pos hat, if_neg]
        intro g
        rw [cond_false, decide_eq_false (show ¬ (fsl l : Int) + 1 = lenZ l by unfold lenZ; omega)] at h
        exact g.2 (of_decide_eq_true h)
      · have g1 : ¬ (fsl l : Int) + 1 = lenZ l := fun g => by
          rw [cond_false, decide_eq_true g] at h; cases h
        rw [cond_false, decide_eq_false g1] at h
        have g2 : ¬ byt l (fsl l + 1) = 47 := of_decide_eq_false h
        unfold lenZ at g1
        have hM : splitM l = splitN l (fsl l + 1 + fsl (l.drop (fsl l + 1))) := by
          unfold splitM nameN
          rw [if_pos hat, if_pos ⟨by omega, g2⟩]
        refine ⟨⟨by omega, by omega⟩, ⟨by omega, by unfold lenZ; omega, Int.le_refl _⟩, ⟨by omega, by omega⟩, fun h3 => ?_, fun h3 => ?_⟩
        · by_cases hs2 : fsl (l.drop (fsl l + 1)) < l.length - (fsl l + 1)
          · rw [if_pos hs2] at hi2
            rw [hi2]
            refine ⟨⟨by omega, by omega⟩, ⟨by omega, by omega⟩, fun h4 => ?_, fun _ => ?_⟩
            · have := of_decide_eq_true h4; omega
            · have := hT (fsl l + 1 + fsl (l.drop (fsl l + 1))) (by omega) hM
              rw [show (fsl l : Int) + (1 + (fsl (l.drop (fsl l + 1)) : Int)) = ((fsl l + 1 + fsl (l.drop (fsl l + 1)) : Nat) : Int) by push_cast; omega]
              exact this
          · rw [if_neg hs2] at hi2
            rw [hi2] at h3
            exact absurd (of_decide_eq_true h3) (by decide)
        · have hs2 : ¬ fsl (l.drop (fsl l + 1)) < l.length - (fsl l + 1) := fun g => by
            rw [if_pos g] at hi2
            rw [hi2] at h3
            have := of_decide_eq_false h3
            omega
          refine ⟨fun h4 => ?_, fun _ => ?_⟩
          · have := of_decide_eq_true h4
            unfold lenZ at this; omega
          · have := hT l.length (Nat.le_refl _) (by rw [hM]; congr 1; omega)
            exact this
    · rw [if_neg hs] at hi
      rw [hi]
      refine ⟨fun h => ?_, fun h => ?_, fun h => ?_, fun _ => ?_, fun h => ?_⟩
      · exact absurd h (by decide)
      · exact absurd h (by simp)
      · exact absurd h (by simp)
      · refine bad ?_
        unfold splitM nameN
        rw [if_pos hat, if_neg (fun g => by omega)]
      · exact absurd h (by simp)
  · have hM : splitM l = splitN l (fsl l) := by
      unfold splitM nameN
      rw [hat, if_neg (by decide)]
    refine ⟨fun h => ?_, fun h => ?_⟩
    · have hs : ¬ fsl l < l.length := fun g => by
        rw [if_pos g] at hi
        rw [hi] at h
        have := of_decide_eq_true h
        omega
      exact hT l.length (Nat.le_refl _) (by rw [hM]; congr 1; omega)
    · have hs : fsl l < l.length := Classical.byContradiction fun g => by
        rw [if_neg g] at hi
        rw [hi] at h
        exact absurd (of_decide_eq_false h) (by decide)
      rw [if_pos hs] at hi
      rw [hi]
      have hh := hT (fsl l) hf hM
      unfold TailC at hh
      exact hh)
def ent_split : List PV → Option CallR := fun xs => match xs with
  | [.str l] => some ⟨l.length ≤ 1000000, .tup [.str (splitM l).1, .str (splitM l).2.1, .int .i64 (splitM l).2.2]⟩
  | _ => none
theorem ent_split_ok : ∀ xs c, ent_split xs = some c → FuncOk Tryz.prog noT 5 xs c := fun xs c h => by
  unfold ent_split at h
  split at h
  · injection h with h; subst h; exact ok_split _
  · cases h
end Go.Proofs.YtapigaemojnaaaaGreatDoor

/- The function gossamer/gossamerref18.Ends does what is told of it. -/
namespace Go.Proofs.YtapigaemojnaaaaGreatDoor
open Go Go.Proofs Go.RowKit Go.Vc
attribute [local instance] Go.Vc.noW

def RsI (l : Bs) (i : Int) : Prop := ∃ j : Nat, i = j ∧ j ≤ l.length ∧ (l.take j).any badN = false
theorem part0 (l : Bs) : strZ (splitB 47 l) 0 = l.take (fsl l) := by
  rw [split_fsl]
  split
  · rfl
  · show l = _
    rw [List.take_of_length_le (by omega)]
theorem part1 (l : Bs) (h : fsl l < l.length) : strZ (splitB 47 l) 1 = (l.drop (fsl l + 1)).take (fsl (l.drop (fsl l + 1))) := by
  rw [← part0 (l.drop (fsl l + 1)), split_fsl l, if_pos h]
  rfl
theorem parts2 (l : Bs) : lenZ (splitB 47 l) < 2 ↔ ¬ fsl l < l.length := by
  have hn := (splitB_len 47 (l.drop (fsl l + 1))).2
  rw [split_fsl]
  unfold lenZ
  split
  · rename_i h
    constructor
    · intro g; rw [List.length_cons] at g; omega
    · intro g; exact absurd h g
  · rename_i h
    exact ⟨fun _ => h, fun _ => by show ((1 : Nat) : Int) < 2; decide⟩
theorem part1_nil (d : Bs) : d.take (fsl d) = [] ↔ ¬ (0 < d.length ∧ byt d 0 ≠ 47) := by
  cases d with
  | nil => simp
  | cons b r =>
    rw [byt0]
    unfold fsl
    by_cases h : b.toNat = 47
    · rw [if_pos h]; simp [h]
    · rw [if_neg h]; simp; omega
theorem two_join (l : Bs) (m : Nat) (h : fsl l < l.length) : l.take (fsl l) ++ ([47] ++ (l.drop (fsl l + 1)).take m) = l.take (fsl l + 1 + m) := by
  rw [List.take_add, ← List.append_assoc]
  congr 1
  rw [List.take_add_one, List.getElem?_eq_getElem h]
  have := fsl_at h
  unfold byt at this
  rw [List.getD_eq_getElem?_getD, List.getElem?_eq_getElem h] at this
  have e : l[fsl l] = (47 : UInt8) := UInt8.toNat_inj.1 (by have h2 : (47 : UInt8).toNat = 47 := rfl; dsimp at this; omega)
  rw [e]; rfl
theorem isAt_byte {l : Bs} (h : l ≠ []) : decide (byteZ l 0 = 64) = isAt l := by
  cases l with
  | nil => exact absurd rfl h
  | cons b r =>
    show decide (((b.toNat : Nat) : Int) = 64) = decide (b.toNat = 64)
    rw [decide_eq_decide]; omega
theorem any_step (l : Bs) (j : Nat) (h : j < l.length) : (l.take (j + 1)).any badN = ((l.take j).any badN || badN (l.getD j 0)) := by
  rw [List.take_add_one, List.getElem?_eq_getElem h, List.any_append, List.getD_eq_getElem?_getD, List.getElem?_eq_getElem h]
  simp
def TailR (l w : Bs) (V1 : Prop) (V2 : Int → Prop) (k : PV → Prop) : Prop := upto (lenZ w) (lenZ l) (lenZ l) ∧ (decide (w = (ByteArray.mk #[]).data.toList) = false → within (0 : Int) (lenZ w)) ∧ ((bif decide (w = (ByteArray.mk #[]).data.toList) then true else decide (byteZ w (0 : Int) = (46 : Int))) = false → (dropZ l (lenZ w)).length.le (1000000 : Nat)) ∧ ((bif bif decide (w = (ByteArray.mk #[]).data.toList) then true else decide (byteZ w (0 : Int) = (46 : Int)) then true else endsB (dropZ l (lenZ w))) = true → k (PV.tup [PV.str (ByteArray.mk #[]).data.toList, PV.str (ByteArray.mk #[]).data.toList, PV.int IntKind.i64 (15 : Int)])) ∧ ((bif bif decide (w = (ByteArray.mk #[]).data.toList) then true else decide (byteZ w (0 : Int) = (46 : Int)) then true else endsB (dropZ l (lenZ w))) = false → V1 ∧ RsI l (0 : Int) ∧ ∀ (x : Int), RsI l x → (decide (x < lenZ w) = true → within x (lenZ w) ∧ (decide (byteZ w x = (92 : Int)) = false → within x (lenZ w)) ∧ ((bif decide (byteZ w x = (92 : Int)) then true else decide (byteZ w x = (37 : Int))) = true → k (PV.tup [PV.str (ByteArray.mk #[]).data.toList, PV.str (ByteArray.mk #[]).data.toList, PV.int IntKind.i64 (15 : Int)])) ∧ ((bif decide (byteZ w x = (92 : Int)) then true else decide (byteZ w x = (37 : Int))) = false → inI64 (x + (1 : Int)) ∧ V2 x ∧ RsI l (x + (1 : Int)) ∧ ((List.length l : Int) - (x + (1 : Int))).toNat < ((List.length l : Int) - x).toNat)) ∧ (decide (x < lenZ w) = false → (ByteArray.mk #[(46 : UInt8)]).data.toList.length + (dropZ l (lenZ w)).length ≤ Go.Vc.maxLen ∧ k (PV.tup [PV.str w, PV.str ((ByteArray.mk #[(46 : UInt8)]).data.toList ++ dropZ l (lenZ w)), PV.int IntKind.i64 (0 : Int)])))
theorem tailR_ok (l : Bs) (hl : l.length ≤ 1000000) (n : Nat) (hn : n ≤ l.length) (V1 : Prop) (V2 : Int → Prop) (k : PV → Prop) (v1 : V1) (v2 : ∀ x, V2 x) (hk : k (.tup [.str (splitN l n).1, .str (splitN l n).2.1, .int .i64 (splitN l n).2.2])) : TailR l (l.take n) V1 V2 k := by
  have hwl : (l.take n).length = n := by rw [List.length_take]; omega
  have hlz : lenZ (l.take n) = (n : Int) := by unfold lenZ; rw [hwl]
  have hd : dropZ l (n : Int) = l.drop n := rfl
  have hb : l.take n ≠ [] → byteZ (l.take n) 0 = byt l 0 := fun h => by
    cases l with
    | nil => simp at h
    | cons b r => cases n with
      | zero => simp at h
      | succ n => rfl
  have hbj : ∀ j : Nat, j < n → byteZ (l.take n) (j : Int) = byt l j := fun j hj => by
    show (((l.take n).getD j 0).toNat : Int) = ((l.getD j 0).toNat : Int)
    rw [List.getD_eq_getElem?_getD, List.getD_eq_getElem?_getD, List.getElem?_take_of_lt hj]
  have bad : (l.take n = [] ∨ byt l 0 = 46 ∨ (l.take n).any badN = true ∨ endsB (l.drop n) = true) → k (.tup [.str [], .str [], .int .i64 15]) := fun h => by
    unfold splitN at hk; rw [if_pos h] at hk; exact hk
  have hbad : ∀ j : Nat, j < l.length → (badN (l.getD j 0) = true ↔ byt l j = 92 ∨ byt l j = 37) := fun j hj => by
    unfold badN byt
    rw [decide_eq_true_iff]; omega
  unfold TailR
  rw [hlz, hd]
  refine ⟨⟨by omega, by unfold lenZ; omega, Int.le_refl _⟩, fun h => ?_, fun _ => (by show (l.drop n).length ≤ 1000000; rw [List.length_drop]; omega), fun h => bad ?_, fun h => ⟨v1, ⟨0, rfl, by omega, rfl⟩, fun x hx => ?_⟩⟩
  · have h1 : l.take n ≠ [] := of_decide_eq_false h
    have : 0 < (l.take n).length := List.length_pos_iff.2 h1
    unfold within; omega
  · by_cases h1 : l.take n = (ByteArray.mk #[]).data.toList
    · exact .inl h1
    · rw [decide_eq_false h1, hb h1] at h
      cases h2 : decide (byt l 0 = 46) with
      | true => exact .inr (.inl (of_decide_eq_true h2))
      | false => rw [h2] at h; exact .inr (.inr (.inr h))
  · obtain ⟨j, rfl, hj, ha⟩ := hx
    have e1 : (j : Int) + 1 = ((j + 1 : Nat) : Int) := by push_cast; rfl
    refine ⟨fun hx => ?_, fun hx => ?_⟩
    · have hjn : j < n := by have := of_decide_eq_true hx; omega
      rw [hbj j hjn]
      have hs := any_step l j (by omega)
      refine ⟨by unfold within; omega, fun _ => by unfold within; omega, fun hc => bad (.inr (.inr (.inl ?_))), fun hc => ⟨by unfold inI64; omega, v2 _, ⟨j + 1, e1, by omega, ?_⟩, by omega⟩⟩
      · have hb1 : badN (l.getD j 0) = true := (hbad j (by omega)).2 (by
          cases e : decide (byt l j = 92) with
          | true => exact .inl (of_decide_eq_true e)
          | false => rw [e] at hc; exact .inr (of_decide_eq_true hc))
        rw [List.any_eq_true]
        refine ⟨l.getD j 0, ?_, hb1⟩
        rw [List.getD_eq_getElem?_getD, List.getElem?_eq_getElem (by omega)]
        have hm : (l.take n)[j]? = some (l[j]'(by omega)) := by rw [List.getElem?_take_of_lt hjn, List.getElem?_eq_getElem (by omega)]
        exact List.mem_of_getElem? hm
      · rw [hs, ha, Bool.false_or]
        cases e : badN (l.getD j 0) with
        | false => rfl
        | true =>
          rcases (hbad j (by omega)).1 e with g | g
          · rw [decide_eq_true g] at hc; cases hc
          · rw [decide_eq_true g] at hc
            cases e2 : decide (byt l j = 92) <;> rw [e2] at hc <;> cases hc
    · have hjn : n ≤ j := by have := of_decide_eq_false hx; omega
      have hml : Go.Vc.maxLen = 1099511627776 := rfl
      have hany : (l.take n).any badN = false := by
        rw [List.any_eq_false] at ha ⊢
        intro b hb
        refine ha b ?_
        rw [show l.take n = (l.take j).take n by rw [List.take_take, Nat.min_eq_left hjn]] at hb
        exact List.mem_of_mem_take hb
      refine ⟨by show ([46] : Bs).length + (l.drop n).length ≤ _; have h46 : ([46] : Bs).length = 1 := rfl; rw [List.length_drop]; omega, ?_⟩
      unfold splitN at hk
      rw [if_neg] at hk
      · exact hk
      · intro hh
        by_cases h1 : l.take n = (ByteArray.mk #[]).data.toList
        · rw [decide_eq_true h1] at h; cases h
        · rw [decide_eq_false h1, hb h1] at h
          rcases hh with h2 | h2 | h2 | h2
          · exact h1 h2
          · rw [decide_eq_true h2] at h; cases h
          · rw [hany] at h2; cases h2
          · rw [h2] at h
            cases h3 : decide (byt l 0 = 46) <;> rw [h3] at h <;> cases h

def X_ends18 : Tbl := tblX []
def H_ends18 (l : Bs) : Loops := fun i => none
theorem X_ends18_ok : XOk Tryz.prog noT X_ends18 := tblX_nil
theorem vc_ends18 (l : Bs) (k : PV → Prop) : evF Tryz.prog X_ends18 noT (H_ends18 l) 1000 Tryz.f18 [.str l] k = (
  (decide ((0 : Int) < lenZ l) = true → inI64 (lenZ l - (1 : Int))) ∧
 (decide ((0 : Int) < lenZ l) = true → within (lenZ l - (1 : Int)) (lenZ l)) ∧
 k (PV.bool (bif decide ((0 : Int) < lenZ l) then decide (byteZ l (lenZ l - (1 : Int)) = (47 : Int)) else false))) := by kernel_rfl
attribute [local irreducible] Go.Vc.evF
theorem ok_ends18 (l : Bs) : FuncOk Tryz.prog noT 18 [.str l] ⟨l.length ≤ 1000000, .bool (endsB l)⟩ := evF_ok (by kernel_rfl) X_ends18_ok (H := H_ends18 l) (fuel := 1000) Tryz.func18 (by kernel_rfl) fun hpre => (vc_ends18 l _).mpr (by
  have key : (bif decide (0 < lenZ l) then decide (byteZ l (lenZ l - 1) = 47) else false) = endsB l := by
    unfold endsB
    by_cases h : 0 < l.length
    · have e : byteZ l (lenZ l - 1) = byt l (l.length - 1) := by unfold byteZ byt lenZ; congr 2; congr 1; omega
      rw [decide_eq_true (show (0 : Int) < lenZ l by unfold lenZ; omega), cond_true, e, decide_eq_decide]
      exact ⟨fun g => ⟨h, g⟩, fun g => g.2⟩
    · rw [decide_eq_false (show ¬ (0 : Int) < lenZ l by unfold lenZ; omega), cond_false]
      symm
      exact decide_eq_false fun g => h g.1
  rw [key]
  refine ⟨fun h => ?_, fun h => ?_, rfl⟩
  · have := of_decide_eq_true h; unfold inI64; unfold lenZ at this ⊢; omega
  · have := of_decide_eq_true h; unfold within; unfold lenZ at this ⊢; omega)
def ent_ends18 : List PV → Option CallR := fun xs => match xs with
  | [.str l] => some ⟨l.length ≤ 1000000, .bool (endsB l)⟩
  | _ => none
theorem ent_ends18_ok : ∀ xs c, ent_ends18 xs = some c → FuncOk Tryz.prog noT 18 xs c := fun xs c h => by
  unfold ent_ends18 at h
  split at h
  · injection h with h; subst h; exact ok_ends18 _
  · cases h
end Go.Proofs.YtapigaemojnaaaaGreatDoor

/- The function gossamer/gossamerref27.Split does what is told of it. -/
namespace Go.Proofs.YtapigaemojnaaaaGreatDoor
open Go Go.Proofs Go.RowKit Go.Vc
attribute [local instance] Go.Vc.noW

def X_rsplit : Tbl := tblX [(17, ent_parts), (18, ent_ends18)]
def H_rsplit (l : Bs) : Loops := fun i => bif Nat.beq i 13 then some ⟨(Int), (fun s x => (((s.put 8 (.int .i64 x)).put 54 .undef).put 66 .undef)), (fun s => s.int 8), (fun s x => let i := x; RsI l i), (fun s x => let i := x; ((l.length : Int) - i).toNat), [54, 66]⟩ else none
theorem X_rsplit_ok : XOk Tryz.prog noT X_rsplit := tblX_cons ent_parts_ok (tblX_cons ent_ends18_ok (tblX_nil))
theorem vc_rsplit (l : Bs) (k : PV → Prop) : evF Tryz.prog X_rsplit noT (H_rsplit l) 1000 Tryz.f6 [.str l] k = (
  (decide (l = (ByteArray.mk #[]).data.toList) = true →
 k (PV.tup [PV.str (ByteArray.mk #[]).data.toList, PV.str (ByteArray.mk #[]).data.toList, PV.int Go.IntKind.i64 (15 : Int)])) ∧
 (decide (l = (ByteArray.mk #[]).data.toList) = false →
 (List.length l ≤ (1000000 : Nat) ∧ (0 : Int) ≤ (47 : Int) ∧ (47 : Int) ≤ (255 : Int)) ∧
 within (0 : Int) (Int.ofNat (splitB (47 : Int) l).length) ∧
 within (0 : Int) (lenZ l) ∧
 (decide (byteZ l (0 : Int) = (64 : Int)) = true →
 (decide (Int.ofNat (splitB (47 : Int) l).length < (2 : Int)) = false →
 within (1 : Int) (Int.ofNat (splitB (47 : Int) l).length)) ∧
 ((bif decide (Int.ofNat (splitB (47 : Int) l).length < (2 : Int)) then true
 else decide (strZ (splitB (47 : Int) l) (1 : Int) = (ByteArray.mk #[]).data.toList)) =
 true →
 k
 (PV.tup
 [PV.str (ByteArray.mk #[]).data.toList, PV.str (ByteArray.mk #[]).data.toList, PV.int Go.IntKind.i64 (15 : Int)])) ∧
 ((bif decide (Int.ofNat (splitB (47 : Int) l).length < (2 : Int)) then true
 else decide (strZ (splitB (47 : Int) l) (1 : Int) = (ByteArray.mk #[]).data.toList)) =
 false →
 within (0 : Int) (Int.ofNat (splitB (47 : Int) l).length) ∧
 List.length (strZ (splitB (47 : Int) l) (0 : Int)) +
 (ByteArray.mk #[(47 : UInt8)]).data.toList.length ≤
 Go.Vc.maxLen ∧
 within (1 : Int) (Int.ofNat (splitB (47 : Int) l).length) ∧
 List.length
 (strZ (splitB (47 : Int) l) (0 : Int) ++
 (ByteArray.mk #[(47 : UInt8)]).data.toList) +
 List.length (strZ (splitB (47 : Int) l) (1 : Int)) ≤
 Go.Vc.maxLen ∧
 upto
 (lenZ
 (strZ (splitB (47 : Int) l) (0 : Int) ++
 (ByteArray.mk #[(47 : UInt8)]).data.toList ++
 strZ (splitB (47 : Int) l) (1 : Int)))
 (lenZ l) (lenZ l) ∧
 (decide
 (strZ (splitB (47 : Int) l) (0 : Int) ++
 (ByteArray.mk #[(47 : UInt8)]).data.toList ++
 strZ (splitB (47 : Int) l) (1 : Int) =
 (ByteArray.mk #[]).data.toList) =
 false →
 within (0 : Int)
 (lenZ
 (strZ (splitB (47 : Int) l) (0 : Int) ++
 (ByteArray.mk #[(47 : UInt8)]).data.toList ++
 strZ (splitB (47 : Int) l) (1 : Int)))) ∧
 ((bif
 decide
 (strZ (splitB (47 : Int) l) (0 : Int) ++
 (ByteArray.mk #[(47 : UInt8)]).data.toList ++
 strZ (splitB (47 : Int) l) (1 : Int) =
 (ByteArray.mk #[]).data.toList) then
 true
 else
 decide
 (byteZ
 (strZ (splitB (47 : Int) l) (0 : Int) ++
 (ByteArray.mk #[(47 : UInt8)]).data.toList ++
 strZ (splitB (47 : Int) l) (1 : Int))
 (0 : Int) =
 (46 : Int))) =
 false →
 (dropZ l
 (lenZ
 (strZ (splitB (47 : Int) l) (0 : Int) ++
 (ByteArray.mk #[(47 : UInt8)]).data.toList ++
 strZ (splitB (47 : Int) l) (1 : Int)))).length.le
 (1000000 : Nat)) ∧
 ((bif
 bif
 decide
 (strZ (splitB (47 : Int) l) (0 : Int) ++
 (ByteArray.mk #[(47 : UInt8)]).data.toList ++
 strZ (splitB (47 : Int) l) (1 : Int) =
 (ByteArray.mk #[]).data.toList) then
 true
 else
 decide
 (byteZ
 (strZ (splitB (47 : Int) l) (0 : Int) ++
 (ByteArray.mk #[(47 : UInt8)]).data.toList ++
 strZ (splitB (47 : Int) l) (1 : Int))
 (0 : Int) =
 (46 : Int)) then
 true
 else
 endsB
 (dropZ l
 (lenZ
 (strZ (splitB (47 : Int) l) (0 : Int) ++
 (ByteArray.mk #[(47 : UInt8)]).data.toList ++
 strZ (splitB (47 : Int) l) (1 : Int))))) =
 true →
 k
 (PV.tup
 [PV.str (ByteArray.mk #[]).data.toList, PV.str (ByteArray.mk #[]).data.toList,
 PV.int Go.IntKind.i64 (15 : Int)])) ∧
 ((bif
 bif
 decide
 (strZ (splitB (47 : Int) l) (0 : Int) ++
 (ByteArray.mk #[(47 : UInt8)]).data.toList ++
 strZ (splitB (47 : Int) l) (1 : Int) =
 (ByteArray.mk #[]).data.toList) then
 true
 else
 decide
 (byteZ
 (strZ (splitB (47 : Int) l) (0 : Int) ++
 (ByteArray.mk #[(47 : UInt8)]).data.toList ++
 strZ (splitB (47 : Int) l) (1 : Int))
 (0 : Int) =
 (46 : Int)) then
 true
 else
 endsB
 (dropZ l
 (lenZ
 (strZ (splitB (47 : Int) l) (0 : Int) ++
 (ByteArray.mk #[(47 : UInt8)]).data.toList ++
 strZ (splitB (47 : Int) l) (1 : Int))))) =
 false →
 VS.mk []
 [(nat_lit 0, PV.str l), (nat_lit 2, PV.str (ByteArray.mk #[]).data.toList),
 (nat_lit 3, PV.str (ByteArray.mk #[]).data.toList), (nat_lit 4, PV.int Go.IntKind.i64 (0 : Int)),
 (nat_lit 5,
 PV.row false (BRow.strs (splitB (47 : Int) l)) (0 : Nat)),
 (nat_lit 6,
 PV.str
 (strZ (splitB (47 : Int) l) (0 : Int) ++
 (ByteArray.mk #[(47 : UInt8)]).data.toList ++
 strZ (splitB (47 : Int) l) (1 : Int))),
 (nat_lit 7,
 PV.str
 (dropZ l
 (lenZ
 (strZ (splitB (47 : Int) l) (0 : Int) ++
 (ByteArray.mk #[(47 : UInt8)]).data.toList ++
 strZ (splitB (47 : Int) l) (1 : Int))))),
 (nat_lit 8, PV.int Go.IntKind.i64 (0 : Int)),
 (nat_lit 10, PV.bool (decide (l = (ByteArray.mk #[]).data.toList))),
 (nat_lit 18, PV.bool (decide (byteZ l (0 : Int) = (64 : Int)))),
 (nat_lit 27,
 PV.bool
 (bif decide (Int.ofNat (splitB (47 : Int) l).length < (2 : Int)) then true
 else
 decide
 (strZ (splitB (47 : Int) l) (1 : Int) =
 (ByteArray.mk #[]).data.toList))),
 (nat_lit 50,
 PV.bool
 (bif
 bif
 decide
 (strZ (splitB (47 : Int) l) (0 : Int) ++
 (ByteArray.mk #[(47 : UInt8)]).data.toList ++
 strZ (splitB (47 : Int) l) (1 : Int) =
 (ByteArray.mk #[]).data.toList) then
 true
 else
 decide
 (byteZ
 (strZ (splitB (47 : Int) l) (0 : Int) ++
 (ByteArray.mk #[(47 : UInt8)]).data.toList ++
 strZ (splitB (47 : Int) l) (1 : Int))
 (0 : Int) =
 (46 : Int)) then
 true
 else
 endsB
 (dropZ l
 (lenZ
 (strZ (splitB (47 : Int) l) (0 : Int) ++
 (ByteArray.mk #[(47 : UInt8)]).data.toList ++
 strZ (splitB (47 : Int) l) (1 : Int)))))),
 ((54 : Nat), PV.undef), ((66 : Nat), PV.undef)]
 [] =
 VS.mk []
 [(nat_lit 0, PV.str l), (nat_lit 2, PV.str (ByteArray.mk #[]).data.toList),
 (nat_lit 3, PV.str (ByteArray.mk #[]).data.toList), (nat_lit 4, PV.int Go.IntKind.i64 (0 : Int)),
 (nat_lit 5,
 PV.row false (BRow.strs (splitB (47 : Int) l)) (0 : Nat)),
 (nat_lit 6,
 PV.str
 (strZ (splitB (47 : Int) l) (0 : Int) ++
 (ByteArray.mk #[(47 : UInt8)]).data.toList ++
 strZ (splitB (47 : Int) l) (1 : Int))),
 (nat_lit 7,
 PV.str
 (dropZ l
 (lenZ
 (strZ (splitB (47 : Int) l) (0 : Int) ++
 (ByteArray.mk #[(47 : UInt8)]).data.toList ++
 strZ (splitB (47 : Int) l) (1 : Int))))),
 ((8 : Nat), PV.int Go.IntKind.i64 (0 : Int)),
 (nat_lit 10, PV.bool (decide (l = (ByteArray.mk #[]).data.toList))),
 (nat_lit 18, PV.bool (decide (byteZ l (0 : Int) = (64 : Int)))),
 (nat_lit 27,
 PV.bool
 (bif decide (Int.ofNat (splitB (47 : Int) l).length < (2 : Int)) then true
 else
 decide
 (strZ (splitB (47 : Int) l) (1 : Int) =
 (ByteArray.mk #[]).data.toList))),
 (nat_lit 50,
 PV.bool
 (bif
 bif
 decide
 (strZ (splitB (47 : Int) l) (0 : Int) ++
 (ByteArray.mk #[(47 : UInt8)]).data.toList ++
 strZ (splitB (47 : Int) l) (1 : Int) =
 (ByteArray.mk #[]).data.toList) then
 true
 else
 decide
 (byteZ
 (strZ (splitB (47 : Int) l) (0 : Int) ++
 (ByteArray.mk #[(47 : UInt8)]).data.toList ++
 strZ (splitB (47 : Int) l) (1 : Int))
 (0 : Int) =
 (46 : Int)) then
 true
 else
 endsB
 (dropZ l
 (lenZ
 (strZ (splitB (47 : Int) l) (0 : Int) ++
 (ByteArray.mk #[(47 : UInt8)]).data.toList ++
 strZ (splitB (47 : Int) l) (1 : Int)))))),
 ((54 : Nat), PV.undef), ((66 : Nat), PV.undef)]
 [] ∧
 RsI l (0 : Int) ∧
 ∀ (x : Int),
 RsI l x →
 (decide
 (x <
 lenZ
 (strZ (splitB (47 : Int) l) (0 : Int) ++
 (ByteArray.mk #[(47 : UInt8)]).data.toList ++
 strZ (splitB (47 : Int) l) (1 : Int))) =
 true →
 within x
 (lenZ
 (strZ (splitB (47 : Int) l) (0 : Int) ++
 (ByteArray.mk #[(47 : UInt8)]).data.toList ++
 strZ (splitB (47 : Int) l) (1 : Int))) ∧
 (decide
 (byteZ
 (strZ (splitB (47 : Int) l) (0 : Int) ++
 (ByteArray.mk #[(47 : UInt8)]).data.toList ++
 strZ (splitB (47 : Int) l) (1 : Int))
 x =
 (92 : Int)) =
 false →
 within x
 (lenZ
 (strZ (splitB (47 : Int) l) (0 : Int) ++
 (ByteArray.mk #[(47 : UInt8)]).data.toList ++
 strZ (splitB (47 : Int) l) (1 : Int)))) ∧
 ((bif
 decide
 (byteZ
 (strZ (splitB (47 : Int) l) (0 : Int) ++
 (ByteArray.mk #[(47 : UInt8)]).data.toList ++
 strZ (splitB (47 : Int) l) (1 : Int))
 x =
 (92 : Int)) then
 true
 else
 decide
 (byteZ
 (strZ (splitB (47 : Int) l) (0 : Int) ++
 (ByteArray.mk #[(47 : UInt8)]).data.toList ++
 strZ (splitB (47 : Int) l) (1 : Int))
 x =
 (37 : Int))) =
 true →
 k
 (PV.tup
 [PV.str (ByteArray.mk #[]).data.toList, PV.str (ByteArray.mk #[]).data.toList,
 PV.int Go.IntKind.i64 (15 : Int)])) ∧
 ((bif
 decide
 (byteZ
 (strZ (splitB (47 : Int) l) (0 : Int) ++
 (ByteArray.mk #[(47 : UInt8)]).data.toList ++
 strZ (splitB (47 : Int) l) (1 : Int))
 x =
 (92 : Int)) then
 true
 else
 decide
 (byteZ
 (strZ (splitB (47 : Int) l) (0 : Int) ++
 (ByteArray.mk #[(47 : UInt8)]).data.toList ++
 strZ (splitB (47 : Int) l) (1 : Int))
 x =
 (37 : Int))) =
 false →
 inI64 (x + (1 : Int)) ∧
 VS.mk []
 [(nat_lit 0, PV.str l), (nat_lit 2, PV.str (ByteArray.mk #[]).data.toList),
 (nat_lit 3, PV.str (ByteArray.mk #[]).data.toList),
 (nat_lit 4, PV.int Go.IntKind.i64 (0 : Int)),
 (nat_lit 5,
 PV.row false
 (BRow.strs (splitB (47 : Int) l)) (0 : Nat)),
 (nat_lit 6,
 PV.str
 (strZ (splitB (47 : Int) l) (0 : Int) ++
 (ByteArray.mk #[(47 : UInt8)]).data.toList ++
 strZ (splitB (47 : Int) l) (1 : Int))),
 (nat_lit 7,
 PV.str
 (dropZ l
 (lenZ
 (strZ (splitB (47 : Int) l) (0 : Int) ++
 (ByteArray.mk #[(47 : UInt8)]).data.toList ++
 strZ (splitB (47 : Int) l)
 (1 : Int))))),
 ((8 : Nat), PV.int Go.IntKind.i64 (x + (1 : Int))),
 (nat_lit 10, PV.bool (decide (l = (ByteArray.mk #[]).data.toList))),
 (nat_lit 18, PV.bool (decide (byteZ l (0 : Int) = (64 : Int)))),
 (nat_lit 27,
 PV.bool
 (bif
 decide
 (Int.ofNat (splitB (47 : Int) l).length <
 (2 : Int)) then
 true
 else
 decide
 (strZ (splitB (47 : Int) l) (1 : Int) =
 (ByteArray.mk #[]).data.toList))),
 (nat_lit 50,
 PV.bool
 (bif
 bif
 decide
 (strZ (splitB (47 : Int) l)
 (0 : Int) ++
 (ByteArray.mk #[(47 : UInt8)]).data.toList ++
 strZ (splitB (47 : Int) l)
 (1 : Int) =
 (ByteArray.mk #[]).data.toList) then
 true
 else
 decide
 (byteZ
 (strZ (splitB (47 : Int) l)
 (0 : Int) ++
 (ByteArray.mk #[(47 : UInt8)]).data.toList ++
 strZ (splitB (47 : Int) l)
 (1 : Int))
 (0 : Int) =
 (46 : Int)) then
 true
 else
 endsB
 (dropZ l
 (lenZ
 (strZ (splitB (47 : Int) l)
 (0 : Int) ++
 (ByteArray.mk #[(47 : UInt8)]).data.toList ++
 strZ (splitB (47 : Int) l)
 (1 : Int)))))),
 ((54 : Nat), PV.undef), ((66 : Nat), PV.undef)]
 [] =
 VS.mk []
 [(nat_lit 0, PV.str l), (nat_lit 2, PV.str (ByteArray.mk #[]).data.toList),
 (nat_lit 3, PV.str (ByteArray.mk #[]).data.toList),
 (nat_lit 4, PV.int Go.IntKind.i64 (0 : Int)),
 (nat_lit 5,
 PV.row false
 (BRow.strs (splitB (47 : Int) l)) (0 : Nat)),
 (nat_lit 6,
 PV.str
 (strZ (splitB (47 : Int) l) (0 : Int) ++
 (ByteArray.mk #[(47 : UInt8)]).data.toList ++
 strZ (splitB (47 : Int) l) (1 : Int))),
 (nat_lit 7,
 PV.str
 (dropZ l
 (lenZ
 (strZ (splitB (47 : Int) l) (0 : Int) ++
 (ByteArray.mk #[(47 : UInt8)]).data.toList ++
 strZ (splitB (47 : Int) l)
 (1 : Int))))),
 ((8 : Nat), PV.int Go.IntKind.i64 (x + (1 : Int))),
 (nat_lit 10, PV.bool (decide (l = (ByteArray.mk #[]).data.toList))),
 (nat_lit 18, PV.bool (decide (byteZ l (0 : Int) = (64 : Int)))),
 (nat_lit 27,
 PV.bool
 (bif
 decide
 (Int.ofNat (splitB (47 : Int) l).length <
 (2 : Int)) then
 true
 else
 decide
 (strZ (splitB (47 : Int) l) (1 : Int) =
 (ByteArray.mk #[]).data.toList))),
 (nat_lit 50,
 PV.bool
 (bif
 bif
 decide
 (strZ (splitB (47 : Int) l)
 (0 : Int) ++
 (ByteArray.mk #[(47 : UInt8)]).data.toList ++
 strZ (splitB (47 : Int) l)
 (1 : Int) =
 (ByteArray.mk #[]).data.toList) then
 true
 else
 decide
 (byteZ
 (strZ (splitB (47 : Int) l)
 (0 : Int) ++
 (ByteArray.mk #[(47 : UInt8)]).data.toList ++
 strZ (splitB (47 : Int) l)
 (1 : Int))
 (0 : Int) =
 (46 : Int)) then
 true
 else
 endsB
 (dropZ l
 (lenZ
 (strZ (splitB (47 : Int) l)
 (0 : Int) ++
 (ByteArray.mk #[(47 : UInt8)]).data.toList ++
 strZ (splitB (47 : Int) l)
 (1 : Int)))))),
 ((54 : Nat), PV.undef), ((66 : Nat), PV.undef)]
 [] ∧
 RsI l (x + (1 : Int)) ∧
 (↑(List.length l) - (x + (1 : Int))).toNat < (↑(List.length l) - x).toNat)) ∧
 (decide
 (x <
 lenZ
 (strZ (splitB (47 : Int) l) (0 : Int) ++
 (ByteArray.mk #[(47 : UInt8)]).data.toList ++
 strZ (splitB (47 : Int) l) (1 : Int))) =
 false →
 (ByteArray.mk #[(46 : UInt8)]).data.toList.length +
 (dropZ l
 (lenZ
 (strZ (splitB (47 : Int) l) (0 : Int) ++
 (ByteArray.mk #[(47 : UInt8)]).data.toList ++
 strZ (splitB (47 : Int) l) (1 : Int)))).length ≤
 Go.Vc.maxLen ∧
 k
 (PV.tup
 [PV.str
 (strZ (splitB (47 : Int) l) (0 : Int) ++
 (ByteArray.mk #[(47 : UInt8)]).data.toList ++
 strZ (splitB (47 : Int) l) (1 : Int)),
 PV.str
 ((ByteArray.mk #[(46 : UInt8)]).data.toList ++
 dropZ l
 (lenZ
 (strZ (splitB (47 : Int) l) (0 : Int) ++
 (ByteArray.mk #[(47 : UInt8)]).data.toList ++
 strZ (splitB (47 : Int) l) (1 : Int)))),
 PV.int Go.IntKind.i64 (0 : Int)]))))) ∧
 (decide (byteZ l (0 : Int) = (64 : Int)) = false →
 upto (lenZ (strZ (splitB (47 : Int) l) (0 : Int))) (lenZ l) (lenZ l) ∧
 (decide (strZ (splitB (47 : Int) l) (0 : Int) = (ByteArray.mk #[]).data.toList) = false →
 within (0 : Int) (lenZ (strZ (splitB (47 : Int) l) (0 : Int)))) ∧
 ((bif decide (strZ (splitB (47 : Int) l) (0 : Int) = (ByteArray.mk #[]).data.toList) then true
 else decide (byteZ (strZ (splitB (47 : Int) l) (0 : Int)) (0 : Int) = (46 : Int))) =
 false →
 (dropZ l (lenZ (strZ (splitB (47 : Int) l) (0 : Int)))).length.le (1000000 : Nat)) ∧
 ((bif
 bif decide (strZ (splitB (47 : Int) l) (0 : Int) = (ByteArray.mk #[]).data.toList) then
 true
 else
 decide
 (byteZ (strZ (splitB (47 : Int) l) (0 : Int)) (0 : Int) = (46 : Int)) then
 true
 else
 endsB
 (dropZ l (lenZ (strZ (splitB (47 : Int) l) (0 : Int))))) =
 true →
 k
 (PV.tup
 [PV.str (ByteArray.mk #[]).data.toList, PV.str (ByteArray.mk #[]).data.toList,
 PV.int Go.IntKind.i64 (15 : Int)])) ∧
 ((bif
 bif decide (strZ (splitB (47 : Int) l) (0 : Int) = (ByteArray.mk #[]).data.toList) then
 true
 else
 decide
 (byteZ (strZ (splitB (47 : Int) l) (0 : Int)) (0 : Int) = (46 : Int)) then
 true
 else
 endsB
 (dropZ l (lenZ (strZ (splitB (47 : Int) l) (0 : Int))))) =
 false →
 VS.mk []
 [(nat_lit 0, PV.str l), (nat_lit 2, PV.str (ByteArray.mk #[]).data.toList),
 (nat_lit 3, PV.str (ByteArray.mk #[]).data.toList), (nat_lit 4, PV.int Go.IntKind.i64 (0 : Int)),
 (nat_lit 5, PV.row false (BRow.strs (splitB (47 : Int) l)) (0 : Nat)),
 (nat_lit 6, PV.str (strZ (splitB (47 : Int) l) (0 : Int))),
 (nat_lit 7,
 PV.str (dropZ l (lenZ (strZ (splitB (47 : Int) l) (0 : Int))))),
 (nat_lit 8, PV.int Go.IntKind.i64 (0 : Int)), (nat_lit 10, PV.bool (decide (l = (ByteArray.mk #[]).data.toList))),
 (nat_lit 18, PV.bool (decide (byteZ l (0 : Int) = (64 : Int)))), (nat_lit 27, PV.undef),
 (nat_lit 50,
 PV.bool
 (bif
 bif
 decide
 (strZ (splitB (47 : Int) l) (0 : Int) =
 (ByteArray.mk #[]).data.toList) then
 true
 else
 decide
 (byteZ (strZ (splitB (47 : Int) l) (0 : Int)) (0 : Int) =
 (46 : Int)) then
 true
 else
 endsB
 (dropZ l (lenZ (strZ (splitB (47 : Int) l) (0 : Int)))))),
 ((54 : Nat), PV.undef), ((66 : Nat), PV.undef)]
 [] =
 VS.mk []
 [(nat_lit 0, PV.str l), (nat_lit 2, PV.str (ByteArray.mk #[]).data.toList),
 (nat_lit 3, PV.str (ByteArray.mk #[]).data.toList), (nat_lit 4, PV.int Go.IntKind.i64 (0 : Int)),
 (nat_lit 5, PV.row false (BRow.strs (splitB (47 : Int) l)) (0 : Nat)),
 (nat_lit 6, PV.str (strZ (splitB (47 : Int) l) (0 : Int))),
 (nat_lit 7,
 PV.str (dropZ l (lenZ (strZ (splitB (47 : Int) l) (0 : Int))))),
 ((8 : Nat), PV.int Go.IntKind.i64 (0 : Int)), (nat_lit 10, PV.bool (decide (l = (ByteArray.mk #[]).data.toList))),
 (nat_lit 18, PV.bool (decide (byteZ l (0 : Int) = (64 : Int)))), (nat_lit 27, PV.undef),
 (nat_lit 50,
 PV.bool
 (bif
 bif
 decide
 (strZ (splitB (47 : Int) l) (0 : Int) =
 (ByteArray.mk #[]).data.toList) then
 true
 else
 decide
 (byteZ (strZ (splitB (47 : Int) l) (0 : Int)) (0 : Int) =
 (46 : Int)) then
 true
 else
 endsB
 (dropZ l (lenZ (strZ (splitB (47 : Int) l) (0 : Int)))))),
 ((54 : Nat), PV.undef), ((66 : Nat), PV.undef)]
 [] ∧
 RsI l (0 : Int) ∧
 ∀ (x : Int),
 RsI l x →
 (decide (x < lenZ (strZ (splitB (47 : Int) l) (0 : Int))) = true →
 within x (lenZ (strZ (splitB (47 : Int) l) (0 : Int))) ∧
 (decide (byteZ (strZ (splitB (47 : Int) l) (0 : Int)) x = (92 : Int)) =
 false →
 within x (lenZ (strZ (splitB (47 : Int) l) (0 : Int)))) ∧
 ((bif
 decide
 (byteZ (strZ (splitB (47 : Int) l) (0 : Int)) x =
 (92 : Int)) then
 true
 else
 decide
 (byteZ (strZ (splitB (47 : Int) l) (0 : Int)) x =
 (37 : Int))) =
 true →
 k
 (PV.tup
 [PV.str (ByteArray.mk #[]).data.toList, PV.str (ByteArray.mk #[]).data.toList,
 PV.int Go.IntKind.i64 (15 : Int)])) ∧
 ((bif
 decide
 (byteZ (strZ (splitB (47 : Int) l) (0 : Int)) x =
 (92 : Int)) then
 true
 else
 decide
 (byteZ (strZ (splitB (47 : Int) l) (0 : Int)) x =
 (37 : Int))) =
 false →
 inI64 (x + (1 : Int)) ∧
 VS.mk []
 [(nat_lit 0, PV.str l), (nat_lit 2, PV.str (ByteArray.mk #[]).data.toList),
 (nat_lit 3, PV.str (ByteArray.mk #[]).data.toList),
 (nat_lit 4, PV.int Go.IntKind.i64 (0 : Int)),
 (nat_lit 5,
 PV.row false (BRow.strs (splitB (47 : Int) l))
 (0 : Nat)),
 (nat_lit 6,
 PV.str (strZ (splitB (47 : Int) l) (0 : Int))),
 (nat_lit 7,
 PV.str
 (dropZ l
 (lenZ (strZ (splitB (47 : Int) l) (0 : Int))))),
 ((8 : Nat), PV.int Go.IntKind.i64 (x + (1 : Int))),
 (nat_lit 10, PV.bool (decide (l = (ByteArray.mk #[]).data.toList))),
 (nat_lit 18, PV.bool (decide (byteZ l (0 : Int) = (64 : Int)))), (nat_lit 27, PV.undef),
 (nat_lit 50,
 PV.bool
 (bif
 bif
 decide
 (strZ (splitB (47 : Int) l) (0 : Int) =
 (ByteArray.mk #[]).data.toList) then
 true
 else
 decide
 (byteZ (strZ (splitB (47 : Int) l) (0 : Int))
 (0 : Int) =
 (46 : Int)) then
 true
 else
 endsB
 (dropZ l
 (lenZ
 (strZ (splitB (47 : Int) l) (0 : Int)))))),
 ((54 : Nat), PV.undef), ((66 : Nat), PV.undef)]
 [] =
 VS.mk []
 [(nat_lit 0, PV.str l), (nat_lit 2, PV.str (ByteArray.mk #[]).data.toList),
 (nat_lit 3, PV.str (ByteArray.mk #[]).data.toList),
 (nat_lit 4, PV.int Go.IntKind.i64 (0 : Int)),
 (nat_lit 5,
 PV.row false (BRow.strs (splitB (47 : Int) l))
 (0 : Nat)),
 (nat_lit 6,
 PV.str (strZ (splitB (47 : Int) l) (0 : Int))),
 (nat_lit 7,
 PV.str
 (dropZ l
 (lenZ (strZ (splitB (47 : Int) l) (0 : Int))))),
 ((8 : Nat), PV.int Go.IntKind.i64 (x + (1 : Int))),
 (nat_lit 10, PV.bool (decide (l = (ByteArray.mk #[]).data.toList))),
 (nat_lit 18, PV.bool (decide (byteZ l (0 : Int) = (64 : Int)))), (nat_lit 27, PV.undef),
 (nat_lit 50,
 PV.bool
 (bif
 bif
 decide
 (strZ (splitB (47 : Int) l) (0 : Int) =
 (ByteArray.mk #[]).data.toList) then
 true
 else
 decide
 (byteZ (strZ (splitB (47 : Int) l) (0 : Int))
 (0 : Int) =
 (46 : Int)) then
 true
 else
 endsB
 (dropZ l
 (lenZ
 (strZ (splitB (47 : Int) l) (0 : Int)))))),
 ((54 : Nat), PV.undef), ((66 : Nat), PV.undef)]
 [] ∧
 RsI l (x + (1 : Int)) ∧
 (↑(List.length l) - (x + (1 : Int))).toNat < (↑(List.length l) - x).toNat)) ∧
 (decide (x < lenZ (strZ (splitB (47 : Int) l) (0 : Int))) = false →
 (ByteArray.mk #[(46 : UInt8)]).data.toList.length +
 (dropZ l (lenZ (strZ (splitB (47 : Int) l) (0 : Int)))).length ≤
 Go.Vc.maxLen ∧
 k
 (PV.tup
 [PV.str (strZ (splitB (47 : Int) l) (0 : Int)),
 PV.str
 ((ByteArray.mk #[(46 : UInt8)]).data.toList ++
 dropZ l (lenZ (strZ (splitB (47 : Int) l) (0 : Int)))),
 PV.int Go.IntKind.i64 (0 : Int)])))))) := by kernel_rfl
attribute [local irreducible] Go.Vc.evF
theorem ok_rsplit (l : Bs) : FuncOk Tryz.prog noT 6 [.str l] ⟨l.length ≤ 1000000, .tup [.str (splitM l).1, .str (splitM l).2.1, .int .i64 (splitM l).2.2]⟩ := evF_ok (by kernel_rfl) X_rsplit_ok (H := H_rsplit l) (fuel := 1000) Tryz.func6 (by kernel_rfl) fun hpre => (vc_rsplit l _).mpr (by
  have ea : (ByteArray.mk #[]).data.toList = ([] : Bs) := rfl
  have hf := fsl_le l
  have hlen : Int.ofNat (splitB 47 l).length = lenZ (splitB 47 l) := rfl
  have hp2 := parts2 l
  have h1p : 1 ≤ (splitB 47 l).length := (splitB_len 47 l).2
  rw [hlen]
  refine ⟨fun h => ?_, fun h => ?_⟩
  · have e : l = [] := of_decide_eq_true h
    rw [e]; rfl
  · have hne : l ≠ [] := of_decide_eq_false h
    have h0 : 0 < l.length := List.length_pos_iff.2 hne
    have hw0 : within 0 (lenZ (splitB 47 l)) := by unfold within lenZ; omega
    rw [isAt_byte hne]
    refine ⟨⟨hpre, by decide, by decide⟩, hw0, by unfold within lenZ; omega, fun hat => ?_, fun hat => ?_⟩
    · have hN : nameN l = if fsl l + 1 < l.length ∧ byt l (fsl l + 1) ≠ 47 then some (fsl l + 1 + fsl (l.drop (fsl l + 1))) else none := by unfold nameN; rw [if_pos hat]
      have hd0 : byt (l.drop (fsl l + 1)) 0 = byt l (fsl l + 1) := by unfold byt; rw [List.getD_eq_getElem?_getD, List.getD_eq_getElem?_getD, List.getElem?_drop]
      have hnil := part1_nil (l.drop (fsl l + 1))
      rw [hd0, List.length_drop] at hnil
      refine ⟨fun h2 => ?_, fun h2 => ?_, fun h2 => ?_⟩
      · have := of_decide_eq_false h2; unfold within; omega
      · have : splitM l = ([], [], 15) := by
          unfold splitM
          rw [hN, if_neg]
          intro g
          cases e : decide (lenZ (splitB 47 l) < 2) with
          | true => exact hp2.1 (of_decide_eq_true e) (by omega)
          | false =>
            rw [e] at h2
            have h3 : strZ (splitB 47 l) 1 = [] := of_decide_eq_true h2
            rw [part1 l (Classical.byContradiction fun g2 => by have := hp2.2 g2; rw [decide_eq_true this] at e; cases e)] at h3
            exact hnil.1 h3 ⟨by omega, g.2⟩
        rw [this]
      · cases e : decide (lenZ (splitB 47 l) < 2) with
        | true => rw [e] at h2; cases h2
        | false =>
          rw [e] at h2
          have hs : fsl l < l.length := Classical.byContradiction fun g2 => by have := hp2.2 g2; rw [decide_eq_true this] at e; cases e
          have h3 : ¬ strZ (splitB 47 l) 1 = [] := of_decide_eq_false h2
          rw [part1 l hs] at h3
          have g : fsl l + 1 < l.length ∧ byt l (fsl l + 1) ≠ 47 := Classical.byContradiction fun g => h3 (hnil.2 fun g2 => g ⟨by omega, g2.2⟩)
          have hM : splitM l = splitN l (fsl l + 1 + fsl (l.drop (fsl l + 1))) := by unfold splitM; rw [hN, if_pos g]
          have hf2 := fsl_le (l.drop (fsl l + 1))
          rw [List.length_drop] at hf2
          have e47 : (ByteArray.mk #[(47 : UInt8)]).data.toList = ([47] : Bs) := rfl
          rw [part0, part1 l hs, e47, List.append_assoc, two_join l _ hs]
          have hml : Go.Vc.maxLen = 1099511627776 := rfl
          have h47 : ([47] : Bs).length = 1 := rfl
          refine ⟨hw0, by rw [List.length_take]; omega, by have := of_decide_eq_false e; unfold within; omega, by rw [List.length_append, List.length_take, List.length_take, List.length_drop]; omega, ?_⟩
          refine tailR_ok l hpre (fsl l + 1 + fsl (l.drop (fsl l + 1))) (by omega) _ _ (fun v => v = PV.tup [.str (splitM l).1, .str (splitM l).2.1, .int .i64 (splitM l).2.2]) ?_ ?_ (by rw [hM])
          · rfl
          · exact fun x => rfl
    · have hM : splitM l = splitN l (fsl l) := by
        unfold splitM nameN
        rw [hat, if_neg (by decide)]
      rw [part0]
      refine tailR_ok l hpre (fsl l) hf _ _ (fun v => v = PV.tup [.str (splitM l).1, .str (splitM l).2.1, .int .i64 (splitM l).2.2]) ?_ ?_ (by rw [hM])
      · rfl
      · exact fun x => rfl)
def ent_rsplit : List PV → Option CallR := fun xs => match xs with
  | [.str l] => some ⟨l.length ≤ 1000000, .tup [.str (splitM l).1, .str (splitM l).2.1, .int .i64 (splitM l).2.2]⟩
  | _ => none
theorem ent_rsplit_ok : ∀ xs c, ent_rsplit xs = some c → FuncOk Tryz.prog noT 6 xs c := fun xs c h => by
  unfold ent_rsplit at h
  split at h
  · injection h with h; subst h; exact ok_rsplit _
  · cases h
end Go.Proofs.YtapigaemojnaaaaGreatDoor

/- What awake says. -/
namespace Go.Proofs.YtapigaemojnaaaaGreatDoor
open Go Go.Proofs Go.RowKit Go.Vc
attribute [local instance] Go.Vc.noW
theorem awake_calls (w : World) : Calls Tryz.prog 4 (([] : List Value).toArray) w fun e w' => e = .returned (.bool true) ∧ Below w.heap.size w w' :=
  runs0.plain (n := 6) Tryz.func4 rfl (by decide +kernel) (xs := []) rfl (awake_eval _) w
theorem ok_awake : FuncOk Tryz.prog noT 4 [] ⟨True, .bool true⟩ :=
  FuncOk.of_calls (fn := Tryz.f4) Tryz.func4 (by kernel_rfl) rfl fun _ F w vs hF hT _ hx => ⟨.bool true, by rw [show vs = [] from hx]; exact awake_calls w, fun G w => rfl⟩
def ent_awake : List PV → Option CallR := fun xs => match xs with
  | [] => some ⟨True, .bool true⟩
  | _ => none
theorem ent_awake_ok : ∀ xs c, ent_awake xs = some c → FuncOk Tryz.prog noT 4 xs c := fun xs c h => by
  unfold ent_awake at h
  split at h
  · injection h with h; subst h; exact ok_awake
  · cases h
end Go.Proofs.YtapigaemojnaaaaGreatDoor

/- The function gossamer/gossamerlaw27.ShedSplits does what is told of it. -/
namespace Go.Proofs.YtapigaemojnaaaaGreatDoor
open Go Go.Proofs Go.RowKit Go.Vc
attribute [local instance] Go.Vc.noW

theorem splitM_or (l : Bs) : splitM l = ([], [], 15) ∨ ∃ m, m ≤ l.length ∧ splitM l = (l.take m, 46 :: l.drop m, 0) := by
  have hf := fsl_le l
  have main : ∀ n, n ≤ l.length → splitN l n = ([], [], 15) ∨ ∃ m, m ≤ l.length ∧ splitN l n = (l.take m, 46 :: l.drop m, 0) := fun n hn => by
    by_cases hc : l.take n = [] ∨ byt l 0 = 46 ∨ (l.take n).any badN = true ∨ endsB (l.drop n) = true
    · exact .inl (by unfold splitN; rw [if_pos hc])
    · exact .inr ⟨n, hn, by unfold splitN; rw [if_neg hc]⟩
  have conv : ∀ n, n ≤ l.length → nameN l = some n → splitM l = ([], [], 15) ∨ ∃ m, m ≤ l.length ∧ splitM l = (l.take m, 46 :: l.drop m, 0) := fun n hn h => by
    have : splitM l = splitN l n := by unfold splitM; rw [h]
    rw [this]
    exact main n hn
  by_cases ha : isAt l = true
  · by_cases hg : fsl l + 1 < l.length ∧ byt l (fsl l + 1) ≠ 47
    · have hf2 := fsl_le (l.drop (fsl l + 1))
      rw [List.length_drop] at hf2
      exact conv (fsl l + 1 + fsl (l.drop (fsl l + 1))) (by omega) (by unfold nameN; rw [if_pos ha, if_pos hg])
    · left
      have : nameN l = none := by unfold nameN; rw [if_pos ha, if_neg hg]
      unfold splitM; rw [this]
  · exact conv (fsl l) hf (by unfold nameN; rw [if_neg ha])

def X_law : Tbl := tblX [(5, ent_split), (6, ent_rsplit), (4, ent_awake)]
def H_law (l : Bs) : Loops := fun i => none
theorem X_law_ok : XOk Tryz.prog noT X_law := tblX_cons ent_split_ok (tblX_cons ent_rsplit_ok (tblX_cons ent_awake_ok (tblX_nil)))
theorem vc_law (l : Bs) (k : PV → Prop) : evF Tryz.prog X_law noT (H_law l) 1000 Tryz.f3 [.str l] k = (
  (decide ((80 : Int) < lenZ l) = true → True ∧ k (PV.bool true)) ∧
 (decide ((80 : Int) < lenZ l) = false →
 (List.length l).le (1000000 : Nat) ∧
 (List.length l).le (1000000 : Nat) ∧
 ((bif
 bif !decide ((splitM l).fst = (splitM l).fst) then true
 else !decide ((splitM l).snd.fst = (splitM l).snd.fst) then
 true
 else !decide ((splitM l).snd.snd = (splitM l).snd.snd)) =
 true →
 k (PV.bool false)) ∧
 ((bif
 bif !decide ((splitM l).fst = (splitM l).fst) then true
 else !decide ((splitM l).snd.fst = (splitM l).snd.fst) then
 true
 else !decide ((splitM l).snd.snd = (splitM l).snd.snd)) =
 false →
 ((!decide ((splitM l).snd.snd = (0 : Int))) = false →
 decide ((0 : Int) < lenZ (splitM l).snd.fst) = true →
 upto (1 : Int) (lenZ (splitM l).snd.fst)
 (lenZ (splitM l).snd.fst)) ∧
 ((!decide ((splitM l).snd.snd = (0 : Int))) = false →
 decide ((0 : Int) < lenZ (splitM l).snd.fst) = true →
 List.length (splitM l).fst +
 (dropZ (splitM l).snd.fst (1 : Int)).length ≤
 Go.Vc.maxLen) ∧
 ((bif !decide ((splitM l).snd.snd = (0 : Int)) then true
 else
 bif decide ((0 : Int) < lenZ (splitM l).snd.fst) then
 decide
 ((splitM l).fst ++
 dropZ (splitM l).snd.fst (1 : Int) =
 l)
 else false) =
 true →
 True) ∧
 k
 (PV.bool
 (bif
 bif !decide ((splitM l).snd.snd = (0 : Int)) then true
 else
 bif decide ((0 : Int) < lenZ (splitM l).snd.fst) then
 decide
 ((splitM l).fst ++
 dropZ (splitM l).snd.fst (1 : Int) =
 l)
 else false then
 true
 else false))))) := by kernel_rfl
attribute [local irreducible] Go.Vc.evF
theorem ok_law (l : Bs) : FuncOk Tryz.prog noT 3 [.str l] ⟨True, .bool true⟩ := evF_ok (by kernel_rfl) X_law_ok (H := H_law l) (fuel := 1000) Tryz.func3 (by kernel_rfl) fun hpre => (vc_law l _).mpr (by
  have hsz : lenZ l ≤ 80 → l.length ≤ 1000000 := fun h => by unfold lenZ at h; omega
  have hml : Go.Vc.maxLen = 1099511627776 := rfl
  refine ⟨fun _ => ⟨trivial, rfl⟩, fun h => ?_⟩
  have h80 : lenZ l ≤ 80 := by have := of_decide_eq_false h; omega
  refine ⟨hsz h80, hsz h80, ?_⟩
  have hl := hsz h80
  rcases splitM_or l with he | ⟨n, hn, he⟩
  · rw [he]
    refine ⟨fun h => ?_, fun h => ⟨fun h2 => ?_, fun h2 => ?_, fun h2 => trivial, rfl⟩⟩
    · exact absurd h (by simp)
    · exact absurd h2 (by simp)
    · exact absurd h2 (by simp)
  · rw [he]
    have hz : 0 < lenZ (46 :: l.drop n) := by unfold lenZ; rw [List.length_cons]; omega
    have hd : dropZ ((46 : UInt8) :: l.drop n) 1 = l.drop n := rfl
    refine ⟨fun h => ?_, fun h => ⟨fun _ _ => ⟨by omega, by show (1 : Int) ≤ lenZ (46 :: l.drop n); omega, Int.le_refl _⟩, fun _ _ => ?_, fun _ => trivial, ?_⟩⟩
    · exact absurd h (by simp)
    · show (l.take n).length + (l.drop n).length ≤ _
      rw [List.length_take, List.length_drop]; omega
    · show PV.bool (bif bif !decide ((0 : Int) = 0) then true else bif decide (0 < lenZ (46 :: l.drop n)) then decide (l.take n ++ dropZ ((46 : UInt8) :: l.drop n) 1 = l) else false then true else false) = PV.bool true
      rw [decide_eq_true hz, hd, decide_eq_true (List.take_append_drop n l)]
      rfl)
end Go.Proofs.YtapigaemojnaaaaGreatDoor

