/- The evaluator: what is asked of a function that makes a tree, as one test. -/
import Derived.Test.YtniednnklbdciaaDoorEvTI
import Derived.Test.YtniednnklbdciaaDoorEvTJ
set_option linter.unusedVariables false
set_option linter.unusedSectionVars false
set_option linter.unusedSimpArgs false
namespace Go.Ev
open Go.RowKit

def dstB (N : Nat) (l : List Oper) : Bool := l.all fun o => match o.dst with
  | some d => decide (d < N)
  | none => true
theorem dstB_lt {N : Nat} {l : List Oper} (h : dstB N l = true) : ∀ o ∈ l, ∀ d, o.dst = some d → d < N := fun o ho d hd => by
  have := List.all_eq_true.1 h o ho
  rw [hd] at this
  simpa using this
def b14 : List Oper → Bool
  | [⟨_, .next (.tmp t) false, _, _, _, _⟩, ⟨_, .extract (.tmp u) 0, _, _, _, _⟩] => t == 60 && u == 61
  | _ => false
def d14 : List Oper → Bool
  | [x, y] => x.dst == some 61 && x.guard == none && y.dst == some 62 && y.guard == none
  | _ => false
def b15 : List Oper → Bool
  | ⟨_, .entry (.tmp t), _, _, _, _⟩ :: _ => t == 60
  | _ => false
def d15 : List Oper → Bool
  | x :: _ => x.dst == some 63 && x.guard == none
  | _ => false
def b17 (fs fc : Nat) : List Oper → Bool
  | [⟨_, .call ⟨.value (.func f), args, _⟩, _, _, _, _⟩] => f == fs && (match args.toList with
    | [.tmp t, .func g] => t == 78 && g == fc
    | _ => false)
  | _ => false
def d17 : List Oper → Bool
  | [o] => o.guard == none && o.dst != some 4
  | _ => false
/-- The test. -/
def partsB (N : Nat) (p : NewParts) (fs fc : Nat) : Bool :=
  b14 p.ops14.toList && d14 p.ops14.toList && b15 p.ops15.toList && d15 p.ops15.toList && Nat.ble 64 N && dstB N p.ops15.toList && dstB N p.ops17.toList.dropLast && b17 fs fc (p.ops17.toList.drop (p.ops17.toList.length - 1)) && d17 (p.ops17.toList.drop (p.ops17.toList.length - 1))
theorem parts_of {P : Program} {N keep : Nat} {p : NewParts} {fs fc : Nat} (hm : P.follows .mixedOrders = true) (hs : SortAt P fs fc) (h : partsB N p fs fc = true) : Cy P N keep p ∧ Cz P N keep p fs fc := by
  unfold partsB at h
  simp only [Bool.and_eq_true] at h
  obtain ⟨⟨⟨⟨⟨⟨⟨⟨h1, h2⟩, h3⟩, h4⟩, h5⟩, h6⟩, h7⟩, h8⟩, h9⟩ := h
  refine ⟨⟨hm, ?_, ?_, Nat.le_of_ble_eq_true h5, dstB_lt h6⟩, ⟨dstB_lt h7, ?_, hs⟩⟩
  · unfold b14 at h1
    split at h1
    · rename_i e
      rw [e] at h2 ⊢
      simp only [d14, Bool.and_eq_true, beq_iff_eq] at h1 h2
      obtain ⟨rfl, rfl⟩ := h1
      exact ⟨_, _, rfl, rfl, h2.1.1.1, h2.1.1.2, rfl, h2.1.2, h2.2⟩
    · cases h1
  · unfold b15 at h3
    split at h3
    · rename_i e
      rw [e] at h4 ⊢
      simp only [d15, Bool.and_eq_true, beq_iff_eq] at h3 h4
      obtain rfl := h3
      exact ⟨_, _, rfl, rfl, h4.1, h4.2⟩
    · cases h3
  · have hl : p.ops17.toList = p.ops17.toList.dropLast ++ p.ops17.toList.drop (p.ops17.toList.length - 1) := by
      rw [List.dropLast_eq_take]; exact (List.take_append_drop _ _).symm
    unfold b17 at h8
    split at h8
    · rename_i e
      rw [e] at h9 hl
      simp only [d17, Bool.and_eq_true, beq_iff_eq, bne_iff_ne, ne_eq] at h8 h9
      obtain ⟨rfl, h8⟩ := h8
      split at h8
      · rename_i e2
        simp only [Bool.and_eq_true, beq_iff_eq] at h8
        obtain ⟨rfl, rfl⟩ := h8
        exact ⟨_, _, _, hl, rfl, e2, h9.1, h9.2⟩
      · cases h8
    · cases h8
theorem treeAt_of {P : Program} {f fs fc : Nat} {fn : Func} {p : NewParts} (hm : P.follows .mixedOrders = true) (hs : SortAt P fs fc) (hf : P.funcs[f]? = some fn) (hn : (fn.name == "runtime.NumGoroutine") = false) (hb : fn.body = some p.code) (h : partsB fn.ntmps p fs fc = true) : TreeAt P f :=
  let ⟨h1, h2⟩ := parts_of (keep := keepF fn) hm hs h
  ⟨⟨fn, p, fs, fc, hf, hn, hb, h1, h2⟩⟩
end Go.Ev
