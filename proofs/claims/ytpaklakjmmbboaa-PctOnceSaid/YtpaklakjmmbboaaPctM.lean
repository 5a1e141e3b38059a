/- The plain mathematics of pct. No program. -/
import Derived.Test.YtpaklakjmmbboaaUtfM
set_option linter.unusedVariables false
set_option linter.unusedSimpArgs false
namespace Go.Proofs.Ytpaklakjmmbboaa

def mFrag : List UInt8 := [32, 34, 60, 62, 96]
def mQuery : List UInt8 := [32, 34, 35, 60, 62]
def mSpec : List UInt8 := [32, 34, 35, 60, 62, 39]
def mPath : List UInt8 := [32, 34, 35, 60, 62, 63, 94, 96, 123, 125]
def mUser2 : List UInt8 := [47, 58, 59, 61, 64, 91, 92, 93, 124]
def mComp2 : List UInt8 := [36, 37, 38, 43, 44]
def moreS (k : Int) : List UInt8 := if k = 1 then mFrag else if k = 2 then mQuery else if k = 3 then mSpec else if k = 4 then mPath else if k = 5 then mPath ++ mUser2 else if k = 6 then mPath ++ mUser2 ++ mComp2 else []
def moreOk (k : Int) : Bool := decide (0 ≤ k ∧ k ≤ 6)
def inB (has : List UInt8) (r : Int) : Bool := if r < 0 ∨ 1114111 < r then false else if r < 32 ∨ 126 < r then true else decide (mkB r ∈ has)
def pinB (k r : Int) : Bool := moreOk k && inB (moreS k) r
theorem moreOk_t {k : Int} (h : 0 ≤ k ∧ k ≤ 6) : moreOk k = true := decide_eq_true h
theorem moreOk_f {k : Int} (h : ¬ (0 ≤ k ∧ k ≤ 6)) : moreOk k = false := decide_eq_false h
theorem inB_out {has : List UInt8} {r : Int} (h : r < 0 ∨ 1114111 < r) : inB has r = false := by unfold inB; rw [if_pos h]
theorem inB_high {has : List UInt8} {r : Int} (h0 : 0 ≤ r) (h1 : r ≤ 1114111) (h : r < 32 ∨ 126 < r) : inB has r = true := by unfold inB; rw [if_neg (by omega), if_pos h]
theorem inB_mid {has : List UInt8} {r : Int} (h0 : 32 ≤ r) (h1 : r ≤ 126) : inB has r = decide (mkB r ∈ has) := by unfold inB; rw [if_neg (by omega), if_neg (by omega)]

def hexN (c : Int) : Int := if 48 ≤ c ∧ c ≤ 57 then c - 48 else if 97 ≤ c ∧ c ≤ 102 then c - 87 else if 65 ≤ c ∧ c ≤ 70 then c - 55 else -1
theorem hexN_bd (c : Int) : -1 ≤ hexN c ∧ hexN c ≤ 15 := by unfold hexN; (repeat' split) <;> omega
def isPair (l : List UInt8) (k : Nat) : Prop := byt l k = 37 ∧ k + 2 < l.length ∧ 0 ≤ hexN (byt l (k + 1)) ∧ 0 ≤ hexN (byt l (k + 2))
instance (l : List UInt8) (k : Nat) : Decidable (isPair l k) := by unfold isPair; infer_instance
def pdecF : Nat → List UInt8 → List UInt8
  | 0, _ => []
  | f + 1, l => if l.length = 0 then [] else if isPair l 0 then mkB (hexN (byt l 1) * 16 + hexN (byt l 2)) :: pdecF f (l.drop 3) else mkB (byt l 0) :: pdecF f (l.drop 1)
def pdec (l : List UInt8) : List UInt8 := pdecF l.length l
theorem pdecF_fuel : ∀ (f g : Nat) (l : List UInt8), l.length ≤ f → l.length ≤ g → pdecF f l = pdecF g l := by
  intro f
  induction f with
  | zero => intro g l hf _; cases g with
    | zero => rfl
    | succ g => have : l.length = 0 := by omega
                simp [pdecF, this]
  | succ f ih => intro g l hf hg; cases g with
    | zero => have : l.length = 0 := by omega
              simp [pdecF, this]
    | succ g =>
      unfold pdecF
      by_cases h : l.length = 0
      · rw [if_pos h, if_pos h]
      · rw [if_neg h, if_neg h, ih g (l.drop 3) (by simp; omega) (by simp; omega), ih g (l.drop 1) (by simp; omega) (by simp; omega)]
theorem pdec_nil {l : List UInt8} (h : l.length = 0) : pdec l = [] := by unfold pdec; rw [h]; rfl
theorem pdec_unf {l : List UInt8} (h : 0 < l.length) : pdec l = if isPair l 0 then mkB (hexN (byt l 1) * 16 + hexN (byt l 2)) :: pdec (l.drop 3) else mkB (byt l 0) :: pdec (l.drop 1) := by
  unfold pdec
  conv => lhs; rw [show l.length = (l.length - 1) + 1 from by omega]
  rw [show ∀ f, pdecF (f + 1) l = if l.length = 0 then [] else if isPair l 0 then mkB (hexN (byt l 1) * 16 + hexN (byt l 2)) :: pdecF f (l.drop 3) else mkB (byt l 0) :: pdecF f (l.drop 1) from fun _ => rfl, if_neg (by omega)]
  rw [pdecF_fuel (l.length - 1) (l.drop 3).length _ (by simp; omega) (Nat.le_refl _), pdecF_fuel (l.length - 1) (l.drop 1).length _ (by simp) (Nat.le_refl _)]
theorem isPair_drop (l : List UInt8) (k : Nat) : isPair (l.drop k) 0 ↔ isPair l k := by
  unfold isPair
  rw [byt_drop, byt_drop, byt_drop, List.length_drop]
  simp only [Nat.add_zero, Nat.zero_add]
  constructor
  · rintro ⟨a, b, c, d⟩; exact ⟨a, by omega, c, d⟩
  · rintro ⟨a, b, c, d⟩; exact ⟨a, by omega, c, d⟩
theorem pdec_pair {l : List UInt8} {k : Nat} (h : isPair l k) : pdec (l.drop k) = mkB (hexN (byt l (k + 1)) * 16 + hexN (byt l (k + 2))) :: pdec (l.drop (k + 3)) := by
  have hk : k + 2 < l.length := h.2.1
  rw [pdec_unf (by simp; omega), if_pos ((isPair_drop l k).2 h), byt_drop, byt_drop, List.drop_drop]
theorem pdec_one {l : List UInt8} {k : Nat} (hk : k < l.length) (h : ¬ isPair l k) : pdec (l.drop k) = mkB (byt l k) :: pdec (l.drop (k + 1)) := by
  rw [pdec_unf (by simp; omega), if_neg (fun c => h ((isPair_drop l k).1 c)), byt_drop, List.drop_drop]; rfl

def upS : List UInt8 := [48, 49, 50, 51, 52, 53, 54, 55, 56, 57, 65, 66, 67, 68, 69, 70]
def up (n : Int) : UInt8 := upS.getD n.toNat 0
/-- A byte by a set: itself, or behind %. -/
def pe (has : List UInt8) (c : UInt8) : List UInt8 := if inB has c.toNat then [37, up ((c.toNat : Int) / 16), up ((c.toNat : Int) % 16)] else [c]
def penc (has : List UInt8) (l : List UInt8) : List UInt8 := l.flatMap (pe has)
theorem penc_append (has a b : List UInt8) : penc has (a ++ b) = penc has a ++ penc has b := by unfold penc; simp
theorem penc_none (has l : List UInt8) (h : ∀ i, i < l.length → inB has (byt l i) = false) : penc has l = l := by
  induction l with
  | nil => rfl
  | cons b t ih =>
    have h0 := h 0 (by simp)
    rw [byt_zero] at h0
    have ht := ih fun i hi => by have := h (i + 1) (by simp; omega); rwa [byt_succ] at this
    show pe has b ++ penc has t = b :: t
    rw [ht]; unfold pe; rw [h0]; rfl
theorem penc_len (has l : List UInt8) : (penc has l).length ≤ 3 * l.length := by
  induction l with
  | nil => simp [penc]
  | cons b t ih =>
    have : (pe has b).length ≤ 3 := by unfold pe; split <;> simp
    show (pe has b ++ penc has t).length ≤ _
    simp; omega
theorem penc_take (has l : List UInt8) (k : Nat) (hk : k < l.length) : penc has (l.take (k + 1)) = penc has (l.take k) ++ pe has (l.getD k 0) := by
  rw [List.take_succ_eq_append_getElem hk, penc_append]
  simp [penc, List.getD, hk]
end Go.Proofs.Ytpaklakjmmbboaa
