import Derived.Test.YthgchelpfacgmaaDoorRows
import Derived.WalkKit
import Derived.WalkSpells
import Derived.WalkLawsBesides
import Derived.Lib.Hide
import Derived.Deep.QuietTactic
import Derived.BigQuiet
import Derived.WalkSmall
import Derived.Test.YthgchelpfacgmaaDoorSb7
set_option linter.unusedVariables false
set_option linter.unusedSimpArgs false
namespace Go.Proofs.YthgchelpfacgmaaDoor
open Go.RowKit
def u8V (b : UInt8) : Value := .int .u8 (b.toNat : Int)
def Cells (w : World) (b off n : Nat) (f : Nat → Value) : Prop := ∀ i, i < n → w.cell? ⟨b, off + i, none⟩ = some (f i)
theorem Cells.at {w : World} {b off n : Nat} {f : Nat → Value} (h : Cells w b off n f) (i : Nat) (hi : i < n) : w.cell? ⟨b, off + i, none⟩ = some (f i) := h i hi
theorem Cells.lt {w : World} {b off n : Nat} {f : Nat → Value} (h : Cells w b off n f) (hn : 0 < n) : b < w.heap.size :=
  World.block_lt_of_cell? w _ (h 0 hn)
def IsSl (w : World) (v : Value) (n : Nat) (f : Nat → Value) : Prop :=
  ∃ a cap, v = .slice a n cap ∧ n ≤ cap ∧ cap ≤ maxLen ∧ (a = none → cap = 0) ∧ (0 < n → ∃ b off, a = some ⟨b, off, none⟩ ∧ Cells w b off n f)
def u8At (l : List UInt8) (i : Nat) : Value := .int .u8 (byt l i)
def Is8 (w : World) (v : Value) (l : List UInt8) : Prop := IsSl w v l.length (u8At l)
def i32At (l : List Int) (i : Nat) : Value := .int .i32 (l.getD i 0)
def Is32 (w : World) (v : Value) (l : List Int) : Prop := IsSl w v l.length (i32At l)
theorem Cells.below {w w' : World} {B b off n : Nat} {f : Nat → Value} (h : Cells w b off n f) (hw : Below B w w') (hb : b < B) : Cells w' b off n f := by
  intro i hi
  rw [hw.cell (p := ⟨b, off + i, none⟩) hb]; exact h i hi
theorem Cells.le {w : World} {b off n m : Nat} {f : Nat → Value} (h : Cells w b off n f) (hm : m ≤ n) : Cells w b off m f := fun i hi => h i (by omega)
theorem Cells.drop {w : World} {b off n : Nat} {f : Nat → Value} (h : Cells w b off n f) (k m : Nat) (hm : k + m ≤ n) : Cells w b (off + k) m (fun i => f (k + i)) := by
  intro i hi
  have := h (k + i) (by omega)
  rwa [← Nat.add_assoc] at this
theorem IsSl.below {w w' : World} {v : Value} {n : Nat} {f : Nat → Value} (h : IsSl w v n f) (hw : Below w.heap.size w w') : IsSl w' v n f := by
  obtain ⟨a, cap, hv, h1, h2, h4, h3⟩ := h
  refine ⟨a, cap, hv, h1, h2, h4, fun hn => ?_⟩
  obtain ⟨b, off, ha, hc⟩ := h3 hn
  exact ⟨b, off, ha, hc.below hw (hc.lt hn)⟩
theorem IsSl.drew {w : World} {v : Value} {n k : Nat} {f : Nat → Value} (h : IsSl w v n f) : IsSl (w.drewN k) v n f := h
theorem Is8.drew {w : World} {v : Value} {l : List UInt8} (h : Is8 w v l) (k : Nat) : Is8 (w.drewN k) v l := h
theorem Is32.drew {w : World} {v : Value} {l : List Int} (h : Is32 w v l) (k : Nat) : Is32 (w.drewN k) v l := h
theorem Is8.below {w w' : World} {v : Value} {l : List UInt8} (h : Is8 w v l) (hw : Below w.heap.size w w') : Is8 w' v l := IsSl.below h hw
theorem Is32.below {w w' : World} {v : Value} {l : List Int} (h : Is32 w v l) (hw : Below w.heap.size w w') : Is32 w' v l := IsSl.below h hw
theorem ext_trans {a b c : World} (h : Below a.heap.size a b) (k : Below b.heap.size b c) : Below a.heap.size a c := h.trans (k.mono h.size)
theorem below_dr {B : Nat} {a w : World} (h : RowKit.Below B a w) (n : Nat) : RowKit.Below B a (w.drewN n) := h.trans ⟨rfl, rfl, rfl, Nat.le_refl _, fun _ _ => rfl⟩
theorem ext_drew (w : World) (n : Nat) : Below w.heap.size w (w.drewN n) := below_dr (Below.refl _ _) n
theorem addr_add (g j : Nat) : Addr.add ⟨g, 0, none⟩ j = ⟨g, j, none⟩ := by unfold Addr.add; split <;> simp_all
theorem addr_add_off (g o j : Nat) : Addr.add ⟨g, o, none⟩ j = ⟨g, o + j, none⟩ := by unfold Addr.add; split <;> simp_all
def ExtC (w w' : World) : Prop := Below w.heap.size w w'
theorem extC_refl (w : World) : ExtC w w := Below.refl _ _
theorem extC_all (w : World) (p : Prop) : (∀ w', ExtC w w' → p) = p := propext ⟨fun h => h w (extC_refl w), fun h _ _ => h⟩
attribute [simp, go_sem] extC_all
end Go.Proofs.YthgchelpfacgmaaDoor
