/- ip6: models of its functions. -/
import Derived.Test.YtjljhkjpogjdhaaDoorIpD
import Derived.Test.YtjljhkjpogjdhaaDoorIpI
set_option linter.unusedVariables false
set_option linter.unusedSimpArgs false
namespace Go.Proofs.YtjljhkjpogjdhaaDoor
open Go.RowKit

/-- Eight pieces, as the program holds them. -/
def u16V (x : Int) : Value := .int .u16 x
def aggP (p : List Int) : Value := .agg (p.map u16V).toArray
def IsP (p : List Int) : Prop := p.length = 8 ∧ ∀ i, 0 ≤ p.getD i 0 ∧ p.getD i 0 < 65536
/-- How many hex digits stand ahead. -/
def hexLen : List UInt8 → Nat
  | [] => 0
  | b :: t => if 0 ≤ hexN (b.toNat : Int) then hexLen t + 1 else 0
theorem hexLen_le : ∀ (l : List UInt8), hexLen l ≤ l.length
  | [] => Nat.le_refl _
  | b :: t => by unfold hexLen; have := hexLen_le t; split <;> simp <;> omega
theorem hexLen_drop : ∀ (l : List UInt8) (i : Nat), i < l.length → 0 ≤ hexN (byt l i) → i + hexLen (l.drop i) = (i + 1) + hexLen (l.drop (i + 1))
  | [], i, h, _ => by simp at h
  | b :: t, 0, _, h => by
    rw [byt0] at h
    simp only [List.drop_zero, List.drop_succ_cons]
    rw [hexLen, if_pos h]; omega
  | b :: t, i + 1, hi, h => by
    rw [bytS] at h
    have := hexLen_drop t i (by simpa using hi) h
    simp only [List.drop_succ_cons]; omega
theorem hexLen_stop : ∀ (l : List UInt8) (i : Nat), (i < l.length → hexN (byt l i) < 0) → hexLen (l.drop i) = 0
  | [], i, _ => by simp [hexLen]
  | b :: t, 0, h => by
    have := h (by simp)
    rw [byt0] at this
    rw [List.drop_zero, hexLen, if_neg (by omega)]
  | b :: t, i + 1, h => by
    rw [List.drop_succ_cons]
    exact hexLen_stop t i (fun hi => by have := h (by simpa using hi); rwa [bytS] at this)
/-- What hex digits tell. -/
def hexW (l : List UInt8) : Int := l.foldl (fun v b => v * 16 + hexN (b.toNat : Int)) 0
theorem hexW_take (l : List UInt8) (i : Nat) (h : i < l.length) : hexW (l.take (i + 1)) = hexW (l.take i) * 16 + hexN (byt l i) := by
  unfold hexW
  rw [List.take_add_one, List.foldl_append]
  simp [byt, List.getD, List.getElem?_eq_getElem h]
theorem hexW_bd (l : List UInt8) (h : ∀ i, i < l.length → 0 ≤ hexN (byt l i)) : ∀ i, i ≤ l.length → 0 ≤ hexW (l.take i) ∧ hexW (l.take i) < 16 ^ i
  | 0, _ => by simp [hexW]
  | i + 1, hi => by
    obtain ⟨a, b⟩ := hexW_bd l h i (by omega)
    have c := h i (by omega)
    have d := hexN_bd (byt l i)
    rw [hexW_take l i (by omega), Int.pow_succ]
    omega
/-- Where a row of pieces 0 that begins there ends. -/
def zEnd (z : List Bool) (i : Nat) : Nat := i + ((z.drop i).takeWhile (· == true)).length
theorem zEnd_on (z : List Bool) (i : Nat) (h : i < z.length) (hz : z.getD i false = true) : zEnd z i = zEnd z (i + 1) := by
  unfold zEnd
  have : z[i] = true := by simpa [List.getD, h] using hz
  rw [List.drop_eq_getElem_cons h, List.takeWhile_cons, this]
  simp; omega
theorem zEnd_off (z : List Bool) (i : Nat) (hz : z.getD i false = false) : zEnd z i = i := by
  unfold zEnd
  by_cases h : i < z.length
  · have : z[i] = false := by simpa [List.getD, h] using hz
    rw [List.drop_eq_getElem_cons h, List.takeWhile_cons, this]
    simp
  · rw [List.drop_eq_nil_of_le (by omega)]; simp
theorem zEnd_ge (z : List Bool) (i : Nat) : i ≤ zEnd z i := by unfold zEnd; omega
/-- The longest row of pieces 0, as the program looks for it. -/
def noughtF (z : List Bool) : Nat → Nat → Int → Int → Int × Int
  | 0, _, b, e => (b, e)
  | k + 1, i, b, e => if i < 8 then (if max (e - b) 1 < (zEnd z i : Int) - i then noughtF z k (zEnd z i + 1) i (zEnd z i) else noughtF z k (zEnd z i + 1) b e) else (b, e)
theorem noughtF_fuel (z : List Bool) : ∀ (k m i : Nat) (b e : Int), 9 ≤ k + i → 9 ≤ m + i → noughtF z k i b e = noughtF z m i b e
  | 0, m, i, b, e, h, h2 => by cases m with | zero => rfl | succ m => rw [noughtF, noughtF, if_neg (by omega)]
  | k + 1, 0, i, b, e, h, h2 => by rw [noughtF, noughtF, if_neg (by omega)]
  | k + 1, m + 1, i, b, e, h, h2 => by
    have := zEnd_ge z i
    rw [noughtF, noughtF]
    split
    · split
      · exact noughtF_fuel z k m _ _ _ (by omega) (by omega)
      · exact noughtF_fuel z k m _ _ _ (by omega) (by omega)
    · rfl
/-- From a place on. -/
def noughtAt (z : List Bool) (i : Nat) (b e : Int) : Int × Int := noughtF z (10 - i) i b e
theorem noughtAt_end (z : List Bool) (i : Nat) (b e : Int) (h : 8 ≤ i) : noughtAt z i b e = (b, e) := by
  unfold noughtAt
  cases 10 - i with
  | zero => rfl
  | succ k => rw [noughtF, if_neg (by omega)]
theorem noughtAt_yes (z : List Bool) (i : Nat) (b e : Int) (h : i < 8) (hx : max (e - b) 1 < (zEnd z i : Int) - i) : noughtAt z i b e = noughtAt z (zEnd z i + 1) i (zEnd z i) := by
  have := zEnd_ge z i
  unfold noughtAt
  rw [show 10 - i = (9 - i) + 1 by omega, noughtF, if_pos h, if_pos hx]
  exact noughtF_fuel _ _ _ _ _ _ (by omega) (by omega)
theorem noughtAt_no (z : List Bool) (i : Nat) (b e : Int) (h : i < 8) (hx : ¬ max (e - b) 1 < (zEnd z i : Int) - i) : noughtAt z i b e = noughtAt z (zEnd z i + 1) b e := by
  have := zEnd_ge z i
  unfold noughtAt
  rw [show 10 - i = (9 - i) + 1 by omega, noughtF, if_pos h, if_neg hx]
  exact noughtF_fuel _ _ _ _ _ _ (by omega) (by omega)
/-- Which pieces are 0. -/
def zer (p : List Int) : List Bool := p.map (fun x => x == 0)
theorem zer_at (p : List Int) (i : Nat) (h : i < p.length) : (zer p).getD i false = (p.getD i 0 == 0) := by
  unfold zer; simp [List.getD, h]
def nought (p : List Int) : Int × Int := noughtAt (zer p) 0 (-1) (-1)
/-- Four numbers with dots between, as they are told. -/
def dotV (l : List UInt8) : Int := (parseL (splitB 46 (trimL l)) 4 0).1
def dotO (l : List UInt8) : Bool := (parseL (splitB 46 (trimL l)) 4 0).2 && (showL (dotV l).toNat == l)
theorem parseL_bd : ∀ (ps : List (List UInt8)) (left : Nat) (sum : Int), 1 ≤ left → left ≤ 4 → 0 ≤ sum → sum < 256 ^ (4 - left) → 0 ≤ (parseL ps left sum).1 ∧ (parseL ps left sum).1 < 4294967296
  | [], left, sum, _, _, _, _ => by simp [parseL]
  | p :: ps, left, sum, h1, h4, h0, hs => by
    obtain ⟨v0, v1⟩ := numV_bd p
    cases hb : numO p with
    | false => rw [parse_bad hb]; decide
    | true =>
      by_cases hp : ps = []
      · subst hp
        rw [parse_end hb]
        split
        · decide
        · rename_i hv
          have : left = 1 ∨ left = 2 ∨ left = 3 ∨ left = 4 := by omega
          rcases this with rfl | rfl | rfl | rfl <;> simp at hv hs ⊢ <;> omega
      · rw [parse_on hb hp]
        split
        · decide
        · rename_i hv
          refine parseL_bd ps (left - 1) _ (by omega) (by omega) (by omega) ?_
          have : left = 2 ∨ left = 3 ∨ left = 4 := by omega
          rcases this with rfl | rfl | rfl <;> simp at hv hs ⊢ <;> omega
theorem dotV_bd (l : List UInt8) : 0 ≤ dotV l ∧ dotV l < 4294967296 := parseL_bd _ 4 0 (by decide) (by decide) (by decide) (by decide)
/-- Pieces 0 laid behind the first g of c pieces. -/
def spreadM (p : List Int) (c g : Nat) : List Int := p.take g ++ List.replicate (8 - c) 0 ++ (p.take c).drop g
/-- The array that holds the pieces read so far. -/
def pad (acc : List Int) : List Int := acc ++ List.replicate (8 - acc.length) 0
theorem pad_len {acc : List Int} (h : acc.length ≤ 8) : (pad acc).length = 8 := by unfold pad; simp; omega
theorem pad_at (acc : List Int) (h : acc.length < 8) : ((pad acc).map u16V)[acc.length]? = some (.int .u16 0) := by
  unfold pad
  rw [List.map_append, List.getElem?_append_right (by simp), List.map_replicate, List.length_map, Nat.sub_self, List.getElem?_replicate, if_pos (by omega)]
  rfl
theorem pad_set (acc : List Int) (x : Int) (h : acc.length < 8) : ((pad acc).map u16V).set acc.length (.int .u16 x) = (pad (acc ++ [x])).map u16V := by
  unfold pad
  rw [List.map_append, List.set_append_right _ _ (by simp), List.length_map, Nat.sub_self, List.map_replicate, show 8 - acc.length = (8 - (acc ++ [x]).length) + 1 by simp; omega, List.replicate_succ, List.set_cons_zero, List.map_append, List.map_append, List.map_replicate, List.append_assoc]
  rfl
def wrong6 : List Int × Bool := (List.replicate 8 0, false)
/-- What is told where the text ends. -/
def fin6 (acc : List Int) (gap : Int) : List Int × Bool :=
  if gap < 0 ∧ acc.length = 8 then (acc, true) else if 0 ≤ gap ∧ acc.length < 8 then (spreadM (pad acc) acc.length gap.toNat, true) else wrong6
def bytes6 (l : List UInt8) (acc : List Int) (gap : Int) (at' : Nat) : List Int × Bool :=
  if dotO (l.drop at') = false ∨ 6 < acc.length then wrong6 else fin6 (acc ++ [dotV (l.drop at') / 65536] ++ [dotV (l.drop at') % 65536]) gap
/-- What is told from a piece on. -/
def six1 (l : List UInt8) : Nat → List Int → Int → Nat → List Int × Bool
  | 0, _, _, _ => wrong6
  | k + 1, acc, gap, at' =>
    if at' + hexLen (l.drop at') < l.length ∧ byt l (at' + hexLen (l.drop at')) = 46 then bytes6 l acc gap at'
    else if acc.length = 8 ∨ hexLen (l.drop at') = 0 ∨ 4 < hexLen (l.drop at') then wrong6
    else if at' + hexLen (l.drop at') = l.length then fin6 (acc ++ [hexW ((l.take (at' + hexLen (l.drop at'))).drop at')]) gap
    else if byt l (at' + hexLen (l.drop at')) ≠ 58 ∨ at' + hexLen (l.drop at') + 1 = l.length then wrong6
    else if byt l (at' + hexLen (l.drop at') + 1) ≠ 58 then six1 l k (acc ++ [hexW ((l.take (at' + hexLen (l.drop at'))).drop at')]) gap (at' + hexLen (l.drop at') + 1)
    else if 0 ≤ gap then wrong6
    else if at' + hexLen (l.drop at') + 1 + 1 < l.length then six1 l k (acc ++ [hexW ((l.take (at' + hexLen (l.drop at'))).drop at')]) (acc.length + 1 : Nat) (at' + hexLen (l.drop at') + 1 + 1)
    else fin6 (acc ++ [hexW ((l.take (at' + hexLen (l.drop at'))).drop at')]) (acc.length + 1 : Nat)
def six (l : List UInt8) : List Int × Bool :=
  if Lib.hasPrefix l [58, 58] = true then (if l.length = 2 then fin6 [] 0 else six1 l 9 [] 0 2) else six1 l 9 [] (-1) 0
/-- One step, at a place that is named. -/
theorem six1_step (l : List UInt8) (acc : List Int) (gap : Int) (i e : Nat) (hc : acc.length ≤ 8) (he : i + hexLen (l.drop i) = e) :
    six1 l (9 - acc.length) acc gap i =
      if e < l.length ∧ byt l e = 46 then bytes6 l acc gap i
      else if acc.length = 8 ∨ e = i ∨ i + 4 < e then wrong6
      else if e = l.length then fin6 (acc ++ [hexW ((l.take e).drop i)]) gap
      else if byt l e ≠ 58 ∨ e + 1 = l.length then wrong6
      else if byt l (e + 1) ≠ 58 then six1 l (9 - (acc.length + 1)) (acc ++ [hexW ((l.take e).drop i)]) gap (e + 1)
      else if 0 ≤ gap then wrong6
      else if e + 1 + 1 < l.length then six1 l (9 - (acc.length + 1)) (acc ++ [hexW ((l.take e).drop i)]) (acc.length + 1 : Nat) (e + 1 + 1)
      else fin6 (acc ++ [hexW ((l.take e).drop i)]) (acc.length + 1 : Nat) := by
  obtain ⟨k, hk⟩ : ∃ k, 9 - acc.length = k + 1 := ⟨8 - acc.length, by omega⟩
  rw [hk, show 9 - (acc.length + 1) = k by omega, six1, he]
  have h1 : (hexLen (l.drop i) = 0 ∨ 4 < hexLen (l.drop i)) = (e = i ∨ i + 4 < e) := by rw [← he]; apply propext; constructor <;> intro h <;> omega
  simp only [h1]
/-- The digits of a piece. -/
theorem hexLen_all : ∀ (l : List UInt8) (j : Nat), j < hexLen l → 0 ≤ hexN (byt l j)
  | [], j, h => by simp [hexLen] at h
  | b :: t, 0, h => by
    unfold hexLen at h
    split at h
    · rw [byt0]; assumption
    · omega
  | b :: t, j + 1, h => by
    unfold hexLen at h
    split at h
    · rw [bytS]; exact hexLen_all t j (by omega)
    · omega
theorem piece_digits (l : List UInt8) (i e : Nat) (he : i + hexLen (l.drop i) = e) (h4 : e ≤ i + 4) :
    ((l.take e).drop i).length ≤ 4 ∧ ∀ j, j < ((l.take e).drop i).length → 0 ≤ hexN (byt ((l.take e).drop i) j) := by
  refine ⟨by simp; omega, fun j hj => ?_⟩
  have hj2 : j < hexLen (l.drop i) := by simp at hj; omega
  have := hexLen_all (l.drop i) j hj2
  have e1 : byt ((l.take e).drop i) j = byt (l.drop i) j := by
    unfold byt
    congr 2
    simp only [List.getD]
    rw [List.getElem?_drop, List.getElem?_drop, List.getElem?_take, if_pos (by omega)]
  rw [e1]; exact this
end Go.Proofs.YtjljhkjpogjdhaaDoor
