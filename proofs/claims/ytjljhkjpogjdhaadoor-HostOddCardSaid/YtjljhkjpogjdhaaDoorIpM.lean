/- The plain mathematics of ip4's numbers. No program. -/
import Derived.Test.YtjljhkjpogjdhaaDoorHexM
import Derived.Test.YtjljhkjpogjdhaaDoorSplitM
set_option linter.unusedVariables false
set_option linter.unusedSimpArgs false
namespace Go.Proofs.YtjljhkjpogjdhaaDoor

/-- A text without a dot at its end. -/
def trimL (l : List UInt8) : List UInt8 := if 0 < l.length ∧ byt l (l.length - 1) = 46 then l.take (l.length - 1) else l
def hexP (l : List UInt8) : Bool := decide (2 ≤ l.length ∧ byt l 0 = 48 ∧ (byt l 1 = 120 ∨ byt l 1 = 88))
def hexR (l : List UInt8) : List UInt8 := if hexP l = true then l.drop 2 else []
/-- All are digits of a base. -/
def onlyB (n : Int) : List UInt8 → Bool
  | [] => true
  | b :: t => decide (0 ≤ hexN (b.toNat : Int) ∧ hexN (b.toNat : Int) < n) && onlyB n t
def stepV (n v : Int) (c : Int) : Int := min (v * n + hexN c) 4294967296
def valV (n : Int) (v : Int) (l : List UInt8) : Int := l.foldl (fun v b => stepV n v (b.toNat : Int)) v
def baseN (l : List UInt8) : Int := if hexP l = true then 16 else if 1 < l.length ∧ byt l 0 = 48 then 8 else 10
def bodyL (l : List UInt8) : List UInt8 := if hexP l = true then l.drop 2 else l
/-- A part's number; is it one? -/
def numO (l : List UInt8) : Bool := (hexP l || decide (0 < l.length)) && onlyB (baseN l) (bodyL l)
def numV (l : List UInt8) : Int := if numO l = true then valV (baseN l) 0 (bodyL l) else 0
theorem onlyB_step (n : Int) : ∀ (l : List UInt8) (i : Nat), i < l.length → onlyB n (l.drop i) = (decide (0 ≤ hexN (byt l i) ∧ hexN (byt l i) < n) && onlyB n (l.drop (i + 1))) := by
  intro l i hi
  rw [List.drop_eq_getElem_cons hi]
  show (decide _ && _) = _
  have e : byt l i = ((l[i]).toNat : Int) := by unfold byt; simp [List.getD, hi]
  rw [e]
theorem valV_take (n : Int) (l : List UInt8) (i : Nat) (h : i < l.length) : valV n 0 (l.take (i + 1)) = stepV n (valV n 0 (l.take i)) (byt l i) := by
  unfold valV
  rw [List.take_succ_eq_append_getElem h, List.foldl_append]
  have e : byt l i = ((l[i]).toNat : Int) := by unfold byt; simp [List.getD, h]
  rw [e]; rfl
theorem onlyB_at (n : Int) : ∀ (l : List UInt8), onlyB n l = true → ∀ i, i < l.length → 0 ≤ hexN (byt l i) ∧ hexN (byt l i) < n := by
  intro l
  induction l with
  | nil => intro _ i hi; simp at hi
  | cons b t ih =>
    intro h i hi
    have h2 : decide (0 ≤ hexN (b.toNat : Int) ∧ hexN (b.toNat : Int) < n) = true ∧ onlyB n t = true := by
      have h' : (decide (0 ≤ hexN (b.toNat : Int) ∧ hexN (b.toNat : Int) < n) && onlyB n t) = true := h
      rwa [Bool.and_eq_true] at h'
    cases i with
    | zero => rw [byt0]; exact of_decide_eq_true h2.1
    | succ i => rw [bytS]; exact ih h2.2 i (by simpa using hi)
theorem valV_bd (n : Int) (hn : 0 ≤ n) (l : List UInt8) (h : ∀ i, i < l.length → 0 ≤ hexN (byt l i)) : ∀ i, i ≤ l.length → 0 ≤ valV n 0 (l.take i) ∧ valV n 0 (l.take i) ≤ 4294967296 := by
  intro i
  induction i with
  | zero => intro _; simp [valV]
  | succ i ih =>
    intro hi
    obtain ⟨h1, h2⟩ := ih (by omega)
    rw [valV_take n l i (by omega)]
    have h3 := h i (by omega)
    have h4 : 0 ≤ valV n 0 (l.take i) * n := Int.mul_nonneg h1 hn
    unfold stepV
    omega
end Go.Proofs.YtjljhkjpogjdhaaDoor
