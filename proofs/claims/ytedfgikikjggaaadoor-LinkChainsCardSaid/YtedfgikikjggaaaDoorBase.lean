/- What all texts of this seat share: rows of cells, slices that read as lists. -/
import Derived.Test.YtedfgikikjggaaaDoorRows
import Derived.Test.YtedfgikikjggaaaDoorPure
import Derived.WalkKit
import Derived.WalkSpells
import Derived.WalkLawsBesides
import Derived.Lib.Hide
import Derived.Deep.QuietTactic
import Derived.BigQuiet
import Derived.WalkSmall
set_option linter.unusedVariables false
set_option linter.unusedSimpArgs false
namespace Go.Proofs.YtedfgikikjggaaaDoor
open Go.RowKit

def u8V (b : UInt8) : Value := .int .u8 (b.toNat : Int)
theorem u8V_mk {n : Int} (h0 : 0 ≤ n) (h1 : n ≤ 255) : u8V (mkB n) = .int .u8 n := by unfold u8V; rw [mkB_val h0 h1]
/-- n cells from off on in block b hold what f tells. -/
def Cells (w : World) (b off n : Nat) (f : Nat → Value) : Prop := ∀ i, i < n → w.cell? ⟨b, off + i, none⟩ = some (f i)
theorem Cells.at {w : World} {b off n : Nat} {f : Nat → Value} (h : Cells w b off n f) (i : Nat) (hi : i < n) : w.cell? ⟨b, off + i, none⟩ = some (f i) := h i hi
theorem Cells.lt {w : World} {b off n : Nat} {f : Nat → Value} (h : Cells w b off n f) (hn : 0 < n) : b < w.heap.size :=
  World.block_lt_of_cell? w _ (h 0 hn)

/-- A slice value that reads, in w, as n one-cell elements f. -/
def IsSl (w : World) (v : Value) (n : Nat) (f : Nat → Value) : Prop :=
  ∃ a cap, v = .slice a n cap ∧ n ≤ cap ∧ cap ≤ maxLen ∧ (a = none → cap = 0) ∧ (0 < n → ∃ b off, a = some ⟨b, off, none⟩ ∧ Cells w b off n f)

def u8At (l : List UInt8) (i : Nat) : Value := .int .u8 (byt l i)
def Is8 (w : World) (v : Value) (l : List UInt8) : Prop := IsSl w v l.length (u8At l)
def i32At (l : List Int) (i : Nat) : Value := .int .i32 (l.getD i 0)
def Is32 (w : World) (v : Value) (l : List Int) : Prop := IsSl w v l.length (i32At l)

theorem Cells.below {w w' : World} {B b off n : Nat} {f : Nat → Value} (h : Cells w b off n f) (hw : Below B w w') (hb : b < B) : Cells w' b off n f := by
  intro i hi
  rw [hw.cell (p := ⟨b, off + i, none⟩) hb]; exact h i hi
theorem Cells.le {w : World} {b off n m : Nat} {f : Nat → Value} (h : Cells w b off n f) (hm : m ≤ n) : Cells w b off m f := fun i hi => h i (by omega)
theorem Cells.drop {w : World} {b off n : Nat} {f : Nat → Value} (h : Cells w b off n f) (k m : Nat) (hm : k + m ≤ n) : Cells w b (off + k) m (fun i => f (k + i)) := by
  intro i hi
  have := h (k + i) (by omega)
  rwa [← Nat.add_assoc] at this
theorem IsSl.below {w w' : World} {v : Value} {n : Nat} {f : Nat → Value} (h : IsSl w v n f) (hw : Below w.heap.size w w') : IsSl w' v n f := by
  obtain ⟨a, cap, hv, h1, h2, h4, h3⟩ := h
  refine ⟨a, cap, hv, h1, h2, h4, fun hn => ?_⟩
  obtain ⟨b, off, ha, hc⟩ := h3 hn
  exact ⟨b, off, ha, hc.below hw (hc.lt hn)⟩
theorem IsSl.drew {w : World} {v : Value} {n k : Nat} {f : Nat → Value} (h : IsSl w v n f) : IsSl (w.drewN k) v n f := h
theorem Is8.drew {w : World} {v : Value} {l : List UInt8} (h : Is8 w v l) (k : Nat) : Is8 (w.drewN k) v l := h
theorem Is32.drew {w : World} {v : Value} {l : List Int} (h : Is32 w v l) (k : Nat) : Is32 (w.drewN k) v l := h
theorem Is8.below {w w' : World} {v : Value} {l : List UInt8} (h : Is8 w v l) (hw : Below w.heap.size w w') : Is8 w' v l := IsSl.below h hw
theorem Is32.below {w w' : World} {v : Value} {l : List Int} (h : Is32 w v l) (hw : Below w.heap.size w w') : Is32 w' v l := IsSl.below h hw
theorem ext_trans {a b c : World} (h : Below a.heap.size a b) (k : Below b.heap.size b c) : Below a.heap.size a c := h.trans (k.mono h.size)
theorem ext_alloc (w : World) (o : Obj) : Below w.heap.size w (w.alloc o) := (Below.refl _ _).alloc (Nat.le_refl _) _
theorem below_dr {B : Nat} {a w : World} (h : RowKit.Below B a w) (n : Nat) : RowKit.Below B a (w.drewN n) := h.trans ⟨rfl, rfl, rfl, Nat.le_refl _, fun _ _ => rfl⟩
theorem ext_drew (w : World) (n : Nat) : Below w.heap.size w (w.drewN n) := below_dr (Below.refl _ _) n
/-- What a law is told of a slice of integers that came in (as the shell of a proof types it). -/
def IsRow (k : IntKind) (w : World) (a : Option Addr) (len cap : Nat) (zs : List Int) : Prop :=
  (a = none ∧ len = 0 ∧ cap = 0 ∧ zs = []) ∨
  ∃ x, a = some x ∧ len ≤ cap ∧ cap ≤ maxLen ∧ zs.length = cap ∧ (∀ i, i < zs.length → w.cell? (x.add i) = some (.int k (zs.getD i 0))) ∧ ∀ n ∈ zs, (Lit.int k n).wf = true
theorem addr_add (g j : Nat) : Addr.add ⟨g, 0, none⟩ j = ⟨g, j, none⟩ := by unfold Addr.add; split <;> simp_all
theorem addr_add_off (g o j : Nat) : Addr.add ⟨g, o, none⟩ j = ⟨g, o + j, none⟩ := by unfold Addr.add; split <;> simp_all
theorem addr_spot (x : Addr) (w : World) {v : Value} (h : w.cell? (x.add 0) = some v) : x = ⟨x.block, x.off, none⟩ := by
  obtain ⟨b, off, spot⟩ := x
  have hs := World.cell?_spot h
  rw [show Addr.add ⟨b, off, spot⟩ 0 = ⟨b, off, spot⟩ by simp [Addr.add]] at hs
  have hs : spot = none := by simpa using hs
  subst hs
  rfl
theorem addr_add_any (x : Addr) (j : Nat) (w : World) {v : Value} (hx : x = ⟨x.block, x.off, none⟩) (h : w.cell? (x.add j) = some v) : w.cell? ⟨x.block, x.off + j, none⟩ = some v := by
  rw [hx] at h
  rwa [addr_add_off] at h
theorem isRow_sl {k : IntKind} {w : World} {a : Option Addr} {len cap : Nat} {zs : List Int} (h : IsRow k w a len cap zs) :
    (zs.take len).length = len ∧ (∀ n ∈ zs.take len, (Lit.int k n).wf = true) ∧ IsSl w (.slice a len cap) len (fun i => .int k ((zs.take len).getD i 0)) := by
  rcases h with ⟨rfl, rfl, rfl, rfl⟩ | ⟨x, rfl, h1, h2, h3, h4, h5⟩
  · exact ⟨rfl, by simp, none, 0, rfl, Nat.le_refl _, by unfold maxLen; omega, fun _ => rfl, fun h => by omega⟩
  · refine ⟨by simp; omega, fun n hn => h5 n (List.mem_of_mem_take hn), some x, cap, rfl, h1, h2, (fun h => by cases h), fun hn => ?_⟩
    have h0 := addr_spot x w (h4 0 (by omega))
    refine ⟨x.block, x.off, by rw [← h0], fun i hi => ?_⟩
    rw [addr_add_any x i w h0 (h4 i (by omega))]
    simp [List.getD, hi]
theorem isRow8 {w : World} {a : Option Addr} {len cap : Nat} {zs : List Int} (h : IsRow .u8 w a len cap zs) : ∃ l : List UInt8, len = l.length ∧ Is8 w (.slice a len cap) l := by
  obtain ⟨h1, h2, h3⟩ := isRow_sl h
  refine ⟨(zs.take len).map mkB, by rw [List.length_map, h1], ?_⟩
  unfold Is8
  rw [List.length_map, h1]
  have hf : (fun i => Value.int .u8 ((zs.take len).getD i 0)) = (fun i => if i < len then u8At ((zs.take len).map mkB) i else Value.int .u8 ((zs.take len).getD i 0)) := by
    funext i
    split
    · rename_i hi
      have hi' : i < (zs.take len).length := by omega
      have hw := h2 ((zs.take len)[i]) (List.getElem_mem _)
      have hb : 0 ≤ (zs.take len)[i] ∧ (zs.take len)[i] ≤ 255 := by
        generalize (zs.take len)[i] = x at *
        simp [Lit.wf, IntKind.min, IntKind.max, IntKind.signed, IntKind.bits] at hw; omega
      have e1 : byt ((zs.take len).map mkB) i = (zs.take len)[i] := by
        unfold byt
        rw [List.getD_eq_getElem?_getD, List.getElem?_map, List.getElem?_eq_getElem hi']
        exact mkB_val hb.1 hb.2
      unfold u8At
      rw [e1, List.getD_eq_getElem?_getD, List.getElem?_eq_getElem hi']; rfl
    · rfl
  obtain ⟨a', cap', q1, q2, q3, q4, q5⟩ := h3
  refine ⟨a', cap', q1, q2, q3, q4, fun hn => ?_⟩
  obtain ⟨b, off, q6, q7⟩ := q5 hn
  refine ⟨b, off, q6, fun i hi => ?_⟩
  rw [q7 i hi, hf]
  simp [hi]
theorem isRow32 {w : World} {a : Option Addr} {len cap : Nat} {zs : List Int} (h : IsRow .i32 w a len cap zs) :
    ∃ l : List Int, len = l.length ∧ Is32 w (.slice a len cap) l ∧ ∀ i, i < l.length → -2147483648 ≤ l.getD i 0 ∧ l.getD i 0 ≤ 2147483647 := by
  obtain ⟨h1, h2, h3⟩ := isRow_sl h
  refine ⟨zs.take len, h1.symm, by unfold Is32; rw [h1]; exact h3, fun i hi => ?_⟩
  have hw := h2 ((zs.take len)[i]) (List.getElem_mem _)
  rw [List.getD_eq_getElem?_getD, List.getElem?_eq_getElem hi]
  show _ ≤ (zs.take len)[i] ∧ (zs.take len)[i] ≤ _
  generalize (zs.take len)[i] = x at *
  simp [Lit.wf, IntKind.min, IntKind.max, IntKind.signed, IntKind.bits] at hw; omega
/-- Every world that has all of w's blocks as they were. -/
def ExtC (w w' : World) : Prop := Below w.heap.size w w'
theorem extC_refl (w : World) : ExtC w w := Below.refl _ _
theorem extC_all (w : World) (p : Prop) : (∀ w', ExtC w w' → p) = p := propext ⟨fun h => h w (extC_refl w), fun h _ _ => h⟩
attribute [simp, go_sem] extC_all
/-- A region that draws its order, each operation of which yields one value in every world that extends w, and extends it. -/
theorem wp_region_ext {P : Program} {id : Nat} {Q : Exit → Act → World → Prop} {a : Act} {w : World} {l : List Oper} (hm : P.follows .mixedOrders = true) (hB : Region.lexB .any l.toArray = true)
    (h : wpQuiet P l.toArray (ExtC w) (fun a' => ∀ w', ExtC w w' → Q .normal a' w') l a) : (Code.region id l.toArray true).wp P Q a w :=
  wp_region_quiet (C := ExtC w) hm hB (show Below _ _ _ from below_dr (Below.refl _ _) 1) (by simpa using h)
/-- l[k:] where something is left. -/
theorem Is8.dropAt {w : World} {b off cap : Nat} {l : List UInt8} (h : Cells w b off l.length (u8At l)) (k : Nat) (hk : k < l.length) (hc : l.length ≤ cap) (hm : cap ≤ maxLen) :
    Is8 w (.slice (some ⟨b, off + k, none⟩) (l.length - k) (cap - k)) (l.drop k) := by
  refine ⟨_, _, by rw [List.length_drop], by simp; omega, by omega, (fun h => by cases h), fun _ => ⟨b, off + k, rfl, ?_⟩⟩
  have := h.drop k (l.drop k).length (by simp; omega)
  intro i hi
  rw [this i hi]
  simp [u8At, byt_drop]
end Go.Proofs.YtedfgikikjggaaaDoor
