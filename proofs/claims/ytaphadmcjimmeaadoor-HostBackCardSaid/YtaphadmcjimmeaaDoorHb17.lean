import Derived.Test.YtaphadmcjimmeaaDoorHb10
import Derived.Test.YtaphadmcjimmeaaDoorHb13
import Derived.Test.YtaphadmcjimmeaaDoorHb14
import Derived.Test.YtaphadmcjimmeaaDoorHb15
import Derived.Test.YtaphadmcjimmeaaDoorHb16
set_option linter.unusedVariables false
set_option linter.unusedSimpArgs false
namespace Go.Proofs.YtaphadmcjimmeaaDoor
open Go.RowKit
def u16V (x : Int) : Value := .int .u16 x
def IsP (p : List Int) : Prop := p.length = 8 ∧ ∀ i, 0 ≤ p.getD i 0 ∧ p.getD i 0 < 65536
def hexLen : List UInt8 → Nat
  | [] => 0
  | b :: t => if 0 ≤ hexN (b.toNat : Int) then hexLen t + 1 else 0
theorem hexLen_le : ∀ (l : List UInt8), hexLen l ≤ l.length
  | [] => Nat.le_refl _
  | b :: t => by unfold hexLen; have := hexLen_le t; split <;> simp <;> omega
theorem hexLen_drop : ∀ (l : List UInt8) (i : Nat), i < l.length → 0 ≤ hexN (byt l i) → i + hexLen (l.drop i) = (i + 1) + hexLen (l.drop (i + 1))
  | [], i, h, _ => by simp at h
  | b :: t, 0, _, h => by
    rw [byt0] at h
    simp only [List.drop_zero, List.drop_succ_cons]
    rw [hexLen, if_pos h]; omega
  | b :: t, i + 1, hi, h => by
    rw [bytS] at h
    have := hexLen_drop t i (by simpa using hi) h
    simp only [List.drop_succ_cons]; omega
theorem hexLen_stop : ∀ (l : List UInt8) (i : Nat), (i < l.length → hexN (byt l i) < 0) → hexLen (l.drop i) = 0
  | [], i, _ => by simp [hexLen]
  | b :: t, 0, h => by
    have := h (by simp)
    rw [byt0] at this
    rw [List.drop_zero, hexLen, if_neg (by omega)]
  | b :: t, i + 1, h => by
    rw [List.drop_succ_cons]
    exact hexLen_stop t i (fun hi => by have := h (by simpa using hi); rwa [bytS] at this)
def hexW (l : List UInt8) : Int := l.foldl (fun v b => v * 16 + hexN (b.toNat : Int)) 0
theorem hexW_take (l : List UInt8) (i : Nat) (h : i < l.length) : hexW (l.take (i + 1)) = hexW (l.take i) * 16 + hexN (byt l i) := by
  unfold hexW
  rw [List.take_add_one, List.foldl_append]
  simp [byt, List.getD, List.getElem?_eq_getElem h]
theorem hexW_bd (l : List UInt8) (h : ∀ i, i < l.length → 0 ≤ hexN (byt l i)) : ∀ i, i ≤ l.length → 0 ≤ hexW (l.take i) ∧ hexW (l.take i) < 16 ^ i
  | 0, _ => by simp [hexW]
  | i + 1, hi => by
    obtain ⟨a, b⟩ := hexW_bd l h i (by omega)
    have c := h i (by omega)
    have d := hexN_bd (byt l i)
    rw [hexW_take l i (by omega), Int.pow_succ]
    omega
def zEnd (z : List Bool) (i : Nat) : Nat := i + ((z.drop i).takeWhile (· == true)).length
theorem zEnd_on (z : List Bool) (i : Nat) (h : i < z.length) (hz : z.getD i false = true) : zEnd z i = zEnd z (i + 1) := by
  unfold zEnd
  have : z[i] = true := by simpa [List.getD, h] using hz
  rw [List.drop_eq_getElem_cons h, List.takeWhile_cons, this]
  simp; omega
theorem zEnd_off (z : List Bool) (i : Nat) (hz : z.getD i false = false) : zEnd z i = i := by
  unfold zEnd
  by_cases h : i < z.length
  · have : z[i] = false := by simpa [List.getD, h] using hz
    rw [List.drop_eq_getElem_cons h, List.takeWhile_cons, this]
    simp
  · rw [List.drop_eq_nil_of_le (by omega)]; simp
theorem zEnd_ge (z : List Bool) (i : Nat) : i ≤ zEnd z i := by unfold zEnd; omega
def noughtF (z : List Bool) : Nat → Nat → Int → Int → Int × Int
  | 0, _, b, e => (b, e)
  | k + 1, i, b, e => if i < 8 then (if max (e - b) 1 < (zEnd z i : Int) - i then noughtF z k (zEnd z i + 1) i (zEnd z i) else noughtF z k (zEnd z i + 1) b e) else (b, e)
theorem noughtF_fuel (z : List Bool) : ∀ (k m i : Nat) (b e : Int), 9 ≤ k + i → 9 ≤ m + i → noughtF z k i b e = noughtF z m i b e
  | 0, m, i, b, e, h, h2 => by cases m with | zero => rfl | succ m => rw [noughtF, noughtF, if_neg (by omega)]
  | k + 1, 0, i, b, e, h, h2 => by rw [noughtF, noughtF, if_neg (by omega)]
  | k + 1, m + 1, i, b, e, h, h2 => by
    have := zEnd_ge z i
    rw [noughtF, noughtF]
    split
    · split
      · exact noughtF_fuel z k m _ _ _ (by omega) (by omega)
      · exact noughtF_fuel z k m _ _ _ (by omega) (by omega)
    · rfl
def noughtAt (z : List Bool) (i : Nat) (b e : Int) : Int × Int := noughtF z (10 - i) i b e
theorem noughtAt_end (z : List Bool) (i : Nat) (b e : Int) (h : 8 ≤ i) : noughtAt z i b e = (b, e) := by
  unfold noughtAt
  cases 10 - i with
  | zero => rfl
  | succ k => rw [noughtF, if_neg (by omega)]
theorem noughtAt_yes (z : List Bool) (i : Nat) (b e : Int) (h : i < 8) (hx : max (e - b) 1 < (zEnd z i : Int) - i) : noughtAt z i b e = noughtAt z (zEnd z i + 1) i (zEnd z i) := by
  have := zEnd_ge z i
  unfold noughtAt
  rw [show 10 - i = (9 - i) + 1 by omega, noughtF, if_pos h, if_pos hx]
  exact noughtF_fuel _ _ _ _ _ _ (by omega) (by omega)
theorem noughtAt_no (z : List Bool) (i : Nat) (b e : Int) (h : i < 8) (hx : ¬ max (e - b) 1 < (zEnd z i : Int) - i) : noughtAt z i b e = noughtAt z (zEnd z i + 1) b e := by
  have := zEnd_ge z i
  unfold noughtAt
  rw [show 10 - i = (9 - i) + 1 by omega, noughtF, if_pos h, if_neg hx]
  exact noughtF_fuel _ _ _ _ _ _ (by omega) (by omega)
def zer (p : List Int) : List Bool := p.map (fun x => x == 0)
theorem zer_at (p : List Int) (i : Nat) (h : i < p.length) : (zer p).getD i false = (p.getD i 0 == 0) := by
  unfold zer; simp [List.getD, h]
def nought (p : List Int) : Int × Int := noughtAt (zer p) 0 (-1) (-1)
def dotV (l : List UInt8) : Int := (parseL (splitB 46 (trimL l)) 4 0).1
def dotO (l : List UInt8) : Bool := (parseL (splitB 46 (trimL l)) 4 0).2 && (showL (dotV l).toNat == l)
theorem parseL_bd : ∀ (ps : List (List UInt8)) (left : Nat) (sum : Int), 1 ≤ left → left ≤ 4 → 0 ≤ sum → sum < 256 ^ (4 - left) → 0 ≤ (parseL ps left sum).1 ∧ (parseL ps left sum).1 < 4294967296
  | [], left, sum, _, _, _, _ => by simp [parseL]
  | p :: ps, left, sum, h1, h4, h0, hs => by
    obtain ⟨v0, v1⟩ := numV_bd p
    cases hb : numO p with
    | false => rw [parse_bad hb]; decide
    | true =>
      by_cases hp : ps = []
      · subst hp
        rw [parse_end hb]
        split
        · decide
        · rename_i hv
          have : left = 1 ∨ left = 2 ∨ left = 3 ∨ left = 4 := by omega
          rcases this with rfl | rfl | rfl | rfl <;> simp at hv hs ⊢ <;> omega
      · rw [parse_on hb hp]
        split
        · decide
        · rename_i hv
          refine parseL_bd ps (left - 1) _ (by omega) (by omega) (by omega) ?_
          have : left = 2 ∨ left = 3 ∨ left = 4 := by omega
          rcases this with rfl | rfl | rfl <;> simp at hv hs ⊢ <;> omega
theorem dotV_bd (l : List UInt8) : 0 ≤ dotV l ∧ dotV l < 4294967296 := parseL_bd _ 4 0 (by decide) (by decide) (by decide) (by decide)
def spreadM (p : List Int) (c g : Nat) : List Int := p.take g ++ List.replicate (8 - c) 0 ++ (p.take c).drop g
def pad (acc : List Int) : List Int := acc ++ List.replicate (8 - acc.length) 0
theorem pad_len {acc : List Int} (h : acc.length ≤ 8) : (pad acc).length = 8 := by unfold pad; simp; omega
def wrong6 : List Int × Bool := (List.replicate 8 0, false)
def fin6 (acc : List Int) (gap : Int) : List Int × Bool :=
  if gap < 0 ∧ acc.length = 8 then (acc, true) else if 0 ≤ gap ∧ acc.length < 8 then (spreadM (pad acc) acc.length gap.toNat, true) else wrong6
def bytes6 (l : List UInt8) (acc : List Int) (gap : Int) (at' : Nat) : List Int × Bool :=
  if dotO (l.drop at') = false ∨ 6 < acc.length then wrong6 else fin6 (acc ++ [dotV (l.drop at') / 65536] ++ [dotV (l.drop at') % 65536]) gap
def six1 (l : List UInt8) : Nat → List Int → Int → Nat → List Int × Bool
  | 0, _, _, _ => wrong6
  | k + 1, acc, gap, at' =>
    if at' + hexLen (l.drop at') < l.length ∧ byt l (at' + hexLen (l.drop at')) = 46 then bytes6 l acc gap at'
    else if acc.length = 8 ∨ hexLen (l.drop at') = 0 ∨ 4 < hexLen (l.drop at') then wrong6
    else if at' + hexLen (l.drop at') = l.length then fin6 (acc ++ [hexW ((l.take (at' + hexLen (l.drop at'))).drop at')]) gap
    else if byt l (at' + hexLen (l.drop at')) ≠ 58 ∨ at' + hexLen (l.drop at') + 1 = l.length then wrong6
    else if byt l (at' + hexLen (l.drop at') + 1) ≠ 58 then six1 l k (acc ++ [hexW ((l.take (at' + hexLen (l.drop at'))).drop at')]) gap (at' + hexLen (l.drop at') + 1)
    else if 0 ≤ gap then wrong6
    else if at' + hexLen (l.drop at') + 1 + 1 < l.length then six1 l k (acc ++ [hexW ((l.take (at' + hexLen (l.drop at'))).drop at')]) (acc.length + 1 : Nat) (at' + hexLen (l.drop at') + 1 + 1)
    else fin6 (acc ++ [hexW ((l.take (at' + hexLen (l.drop at'))).drop at')]) (acc.length + 1 : Nat)
def six (l : List UInt8) : List Int × Bool :=
  if Lib.hasPrefix l [58, 58] = true then (if l.length = 2 then fin6 [] 0 else six1 l 9 [] 0 2) else six1 l 9 [] (-1) 0
theorem six1_step (l : List UInt8) (acc : List Int) (gap : Int) (i e : Nat) (hc : acc.length ≤ 8) (he : i + hexLen (l.drop i) = e) :
    six1 l (9 - acc.length) acc gap i =
      if e < l.length ∧ byt l e = 46 then bytes6 l acc gap i
      else if acc.length = 8 ∨ e = i ∨ i + 4 < e then wrong6
      else if e = l.length then fin6 (acc ++ [hexW ((l.take e).drop i)]) gap
      else if byt l e ≠ 58 ∨ e + 1 = l.length then wrong6
      else if byt l (e + 1) ≠ 58 then six1 l (9 - (acc.length + 1)) (acc ++ [hexW ((l.take e).drop i)]) gap (e + 1)
      else if 0 ≤ gap then wrong6
      else if e + 1 + 1 < l.length then six1 l (9 - (acc.length + 1)) (acc ++ [hexW ((l.take e).drop i)]) (acc.length + 1 : Nat) (e + 1 + 1)
      else fin6 (acc ++ [hexW ((l.take e).drop i)]) (acc.length + 1 : Nat) := by
  obtain ⟨k, hk⟩ : ∃ k, 9 - acc.length = k + 1 := ⟨8 - acc.length, by omega⟩
  rw [hk, show 9 - (acc.length + 1) = k by omega, six1, he]
  have h1 : (hexLen (l.drop i) = 0 ∨ 4 < hexLen (l.drop i)) = (e = i ∨ i + 4 < e) := by rw [← he]; apply propext; constructor <;> intro h <;> omega
  simp only [h1]
theorem hexLen_all : ∀ (l : List UInt8) (j : Nat), j < hexLen l → 0 ≤ hexN (byt l j)
  | [], j, h => by simp [hexLen] at h
  | b :: t, 0, h => by
    unfold hexLen at h
    split at h
    · rw [byt0]; assumption
    · omega
  | b :: t, j + 1, h => by
    unfold hexLen at h
    split at h
    · rw [bytS]; exact hexLen_all t j (by omega)
    · omega
theorem piece_digits (l : List UInt8) (i e : Nat) (he : i + hexLen (l.drop i) = e) (h4 : e ≤ i + 4) :
    ((l.take e).drop i).length ≤ 4 ∧ ∀ j, j < ((l.take e).drop i).length → 0 ≤ hexN (byt ((l.take e).drop i) j) := by
  refine ⟨by simp; omega, fun j hj => ?_⟩
  have hj2 : j < hexLen (l.drop i) := by simp at hj; omega
  have := hexLen_all (l.drop i) j hj2
  have e1 : byt ((l.take e).drop i) j = byt (l.drop i) j := by
    unfold byt
    congr 2
    simp only [List.getD]
    rw [List.getElem?_drop, List.getElem?_drop, List.getElem?_take, if_pos (by omega)]
  rw [e1]; exact this
set_option maxHeartbeats 1000000 in
theorem behind_any (l : List UInt8) (i : Nat) (w : World) (hm : l.length ≤ 1000000) (hi : i ≤ l.length) :
    Calls Tryd.prog 32 #[.string ⟨l.toArray⟩, .int .i64 i] w fun e w' => e = .returned (.int .i64 ((i + hexLen (l.drop i) : Nat) : Int)) ∧ w = w' := by
  have HD := Lib.hid (hexLen_drop l)
  have HS := Lib.hid (hexLen_stop l)
  obtain ⟨R, hR⟩ : ∃ R : Nat, i + hexLen (l.drop i) = R := ⟨_, rfl⟩
  rw [hR]
  have HR := Lib.hid hR
  clear hR
  go_enter Tryd.func32, Tryd.ntmps32
  go_wp2_with fail
  go_loopw [1] (fun t1 wr => ∃ j : Nat, j ≤ l.length ∧ t1 = .int .i64 j ∧ Hid (j + hexLen (l.drop j) = R) ∧ wr = w) (fun t1 _ => l.length - (intOf t1).toNat)
  case atStart => exact ⟨i, hi, rfl, HR, rfl⟩
  case round =>
    obtain ⟨j, hj, rfl, HI, rfl⟩ := hrel
    by_cases hlt : j < l.length
    · have hltI : (j : Int) < (l.length : Int) := by omega
      have b0 := byt_lo l j
      have b1 := byt_hi l j
      obtain ⟨x0, x1⟩ := hexN_bd (byt l j)
      have HX := Lib.hid (hex_any (byt l j) · b0 b1)
      have HDj := Lib.hid (HD.out j hlt)
      have HSj := Lib.hid (HS.out j)
      obtain ⟨x, hx⟩ : ∃ x, hexN (byt l j) = x := ⟨_, rfl⟩
      rw [hx] at x0 x1 HX HDj HSj
      clear hx
      by_cases h1 : x < 0
      · have H1 : Hid (R = j) := Lib.hid (by rw [← HI.out, HSj.out (fun _ => h1)]; rfl)
        go_wp2_with fail
        refine (HX.out _).mono ?_
        rintro e w' ⟨rfl, rfl⟩
        go_wp2_with fail
        go_ret
        exact ⟨by rw [H1.out]; rfl, by trivial⟩
      · have H1 : Hid ((j + 1) + hexLen (l.drop (j + 1)) = R) := Lib.hid (by rw [← HDj.out (by omega)]; exact HI.out)
        go_wp2_with fail
        refine (HX.out _).mono ?_
        rintro e w' ⟨rfl, rfl⟩
        go_wp2_with fail
        exact ⟨⟨j + 1, by omega, by go_num, H1, by trivial⟩, by simp [intOf]; omega⟩
    · have H1 : Hid (R = j) := Lib.hid (by rw [← HI.out, HS.out j (fun h => absurd h hlt)]; rfl)
      obtain rfl : j = l.length := by omega
      go_wp2_with fail
      go_ret
      exact ⟨by rw [H1.out]; rfl, by trivial⟩
theorem wraps_u16 (n : Int) (h0 : 0 ≤ n) (h1 : n < 2 ^ 16) : IntKind.u16.wrap n = n := by
  simp [IntKind.wrap, IntKind.bits, IntKind.signed]; omega
theorem u16_or4 (x y : Int) (hx0 : 0 ≤ x) (hx1 : x < 4096) (hy : 0 ≤ y) (h : y < 16) : bits .or .u16 (x * 16) y = x * 16 + y :=
  bits_join .u16 16 (by decide) wraps_u16 4 _ _ (by omega) (by omega) (by omega) hy (by omega) (by omega)
theorem pow16_le {i : Nat} (h : i ≤ 3) : (16 : Int) ^ i ≤ 4096 := by
  have : i = 0 ∨ i = 1 ∨ i = 2 ∨ i = 3 := by omega
  rcases this with rfl | rfl | rfl | rfl <;> decide
set_option maxHeartbeats 1000000 in
theorem num16_any (l : List UInt8) (w : World) (hm : l.length ≤ 4) (hh : ∀ i, i < l.length → 0 ≤ hexN (byt l i)) :
    Calls Tryd.prog 33 #[.string ⟨l.toArray⟩] w fun e w' => e = .returned (.int .u16 (hexW l)) ∧ w = w' := by
  have HT := Lib.hid (hexW_take l)
  have HB := Lib.hid (hexW_bd l hh)
  have HH := Lib.hid hh
  clear hh
  go_enter Tryd.func33, Tryd.ntmps33
  go_wp2_with fail
  go_loopw [3, 4, 7] (fun tn t4 ti wr => ∃ i : Nat, i ≤ l.length ∧ ti = .int .i64 i ∧ tn = .int .u16 (hexW (l.take i)) ∧ wr = w) (fun _ _ ti _ => l.length - (intOf ti).toNat)
  case atStart => exact ⟨0, by omega, rfl, rfl, rfl⟩
  case round =>
    obtain ⟨i, hi, rfl, rfl, rfl⟩ := hrel
    by_cases hlt : i < l.length
    · have hltI : (i : Int) < (l.length : Int) := by omega
      have b0 := byt_lo l i
      have b1 := byt_hi l i
      obtain ⟨x0, x1⟩ := hexN_bd (byt l i)
      have x2 := HH.out i hlt
      have HX := Lib.hid (hex_any (byt l i) · b0 b1)
      have HTi := Lib.hid (HT.out i hlt)
      obtain ⟨v0, v1⟩ := HB.out i hi
      have v2 := pow16_le (show i ≤ 3 by omega)
      have v3 : hexW (l.take i) < 4096 := by omega
      obtain ⟨x, hx⟩ : ∃ x, hexN (byt l i) = x := ⟨_, rfl⟩
      rw [hx] at x0 x1 x2 HX HTi
      clear hx
      obtain ⟨v, hv⟩ : ∃ v, hexW (l.take i) = v := ⟨_, rfl⟩
      rw [hv] at v0 v3 HTi
      rw [hv]
      clear hv v1 v2
      have hor : bits .or .u16 (v * 16) x = v * 16 + x := u16_or4 v x v0 v3 x2 (by omega)
      go_wp2_with fail
      refine (HX.out _).mono ?_
      rintro e w' ⟨rfl, rfl⟩
      go_wp2_with fail
      exact ⟨⟨i + 1, by omega, by go_num, by rw [HTi.out], by trivial⟩, by simp [intOf]; omega⟩
    · obtain rfl : i = l.length := by omega
      rw [List.take_length]
      go_wp2_with fail
      go_ret
      exact ⟨by first | rfl | trivial, by trivial⟩
theorem one16 (l : List Int) : ∀ v ∈ l.map u16V, v.oneCell' = true := by
  intro v hv; obtain ⟨x, -, rfl⟩ := List.mem_map.1 hv; rfl
set_option maxRecDepth 100000 in
set_option maxHeartbeats 1000000 in
theorem spread_any (p : List Int) (c g : Nat) (w : World) (hp : p.length = 8) (hg : g ≤ c) (hc : c ≤ 7) :
    Calls Tryd.prog 35 #[.agg (p.map u16V).toArray, .int .i64 c, .int .i64 g] w fun e w' => e = .returned (.agg ((spreadM p c g).map u16V).toArray) ∧ Below w.heap.size w w' := by
  obtain ⟨cs, hcs⟩ : ∃ cs, p.map u16V = cs := ⟨_, rfl⟩
  have HCS := Lib.hid hcs
  rw [hcs]
  clear hcs
  have hql : (spreadM p c g).length = 8 := by unfold spreadM; simp; omega
  obtain ⟨q, hq⟩ : ∃ q, spreadM p c g = q := ⟨_, rfl⟩
  have HQ := Lib.hid hq
  rw [hq] at hql ⊢
  clear hq
  go_enter Tryd.func35, Tryd.ntmps35
  go_wp2_with fail
  obtain ⟨W, hW⟩ : ∃ W, ((w.alloc (.cells cs.toArray 25)).alloc (.cells #[.int .u16 0, .int .u16 0, .int .u16 0, .int .u16 0, .int .u16 0, .int .u16 0, .int .u16 0, .int .u16 0] 25)).alloc (.cells #[.int .u16 0, .int .u16 0, .int .u16 0, .int .u16 0, .int .u16 0, .int .u16 0, .int .u16 0, .int .u16 0] 25) = W := ⟨_, rfl⟩
  have B0 : Hid (Box W w.heap.size 25 cs) := Lib.hid (by rw [← hW]; exact ((Box.new w _ cs).alloc _).alloc _)
  have B1 : Hid (Box W (w.heap.size + 1) 25 ((List.replicate 8 0).map u16V)) := Lib.hid (by
    rw [← hW]
    have := (Box.new (w.alloc (.cells cs.toArray 25)) 25 ((List.replicate 8 0).map u16V)).alloc (.cells #[.int .u16 0, .int .u16 0, .int .u16 0, .int .u16 0, .int .u16 0, .int .u16 0, .int .u16 0, .int .u16 0] 25)
    rw [show (w.alloc (.cells cs.toArray 25)).heap.size = w.heap.size + 1 from hsz_alloc _ _] at this
    exact this)
  have B2 : Hid (Box W (w.heap.size + 1 + 1) 25 ((List.replicate 8 0).map u16V)) := Lib.hid (by
    rw [← hW]
    have := (Box.new ((w.alloc (.cells cs.toArray 25)).alloc (.cells #[.int .u16 0, .int .u16 0, .int .u16 0, .int .u16 0, .int .u16 0, .int .u16 0, .int .u16 0, .int .u16 0] 25)) 25 ((List.replicate 8 0).map u16V))
    rw [show ((w.alloc (.cells cs.toArray 25)).alloc (.cells #[.int .u16 0, .int .u16 0, .int .u16 0, .int .u16 0, .int .u16 0, .int .u16 0, .int .u16 0, .int .u16 0] 25)).heap.size = w.heap.size + 1 + 1 by rw [hsz_alloc, hsz_alloc]] at this
    exact this)
  have BB : Hid (Below w.heap.size w W) := Lib.hid (by rw [← hW]; exact ((((Below.refl _ _).alloc (Nat.le_refl _) _).alloc (by rw [hsz_alloc]; omega) _).alloc (by rw [hsz_alloc, hsz_alloc]; omega) _))
  rw [hW]
  clear hW
  obtain ⟨b0, hb0⟩ : ∃ b, w.heap.size = b := ⟨_, rfl⟩
  have HB0 := Lib.hid hb0
  rw [hb0] at B0 B1 B2 BB ⊢
  clear hb0
  obtain ⟨b1, hb1⟩ : ∃ b, b0 + 1 = b := ⟨_, rfl⟩
  rw [hb1] at B1 B2 ⊢
  obtain ⟨b2, hb2⟩ : ∃ b, b1 + 1 = b := ⟨_, rfl⟩
  rw [hb2] at B2 ⊢
  have HN : Hid (b0 < b1 ∧ b1 < b2) := Lib.hid (by omega)
  clear hb1 hb2
  have hc1 : (Builtin.copy_ #[83, 83] 3 #[.slice (some ⟨b2, 0, none⟩) 8 8, .slice (some ⟨b0, 0, none⟩) g 8]).run Tryd.prog W.drew = .ok (goInt g) (W.drew.setRow b2 (((p.take g ++ List.replicate (8 - g) 0).map u16V)).toArray) := by
    have hl : ((p.take g).map u16V).length = g := by simp; omega
    have := run_copy_row (P := Tryd.prog) W.drew 83 83 3 24 b2 0 8 8 ⟨b0, 0, none⟩ g 8 ((List.replicate 8 0).map u16V).toArray 25 ((p.take g).map u16V) (by first | exact Tryd.underlying83 | kernel_rfl) (by kernel_rfl) (B2.out.drew 1) (by rw [hl]; show g = min g 8; omega)
      (fun j v hj => by
        rw [addr_add, show W.drew.cell? ⟨b0, j, none⟩ = cs[j]? from (B0.out.drew 1).cell j, ← HCS.out]
        have hjl : j < g := by have := (List.getElem?_eq_some_iff.1 hj).1; omega
        rw [← hj]; simp [List.getElem?_take, hjl]) (by rw [hl]; simp; omega) (one16 _)
    rw [hl] at this
    rw [this]
    congr 2
    rw [List.map_append, List.map_replicate, List.map_replicate]
    simp only [List.take_zero, List.nil_append, List.drop_replicate, Nat.zero_add]
  obtain ⟨W2, hW2⟩ : ∃ W2, W.drew.setRow b2 (((p.take g ++ List.replicate (8 - g) 0).map u16V)).toArray = W2 := ⟨_, rfl⟩
  have D0 : Hid (Box W2 b0 25 cs) := Lib.hid (by rw [← hW2]; exact setRow_box (B0.out.drew 1) _ (by have := HN.out; omega))
  have D1 : Hid (Box W2 b1 25 ((List.replicate 8 0).map u16V)) := Lib.hid (by rw [← hW2]; exact setRow_box (B1.out.drew 1) _ (by have := HN.out; omega))
  have D2 : Hid (Box W2 b2 25 ((p.take g ++ List.replicate (8 - g) 0).map u16V)) := Lib.hid (by rw [← hW2]; exact setRow_box_self (B2.out.drew 1) _)
  have DB : Hid (Below b0 w W2) := Lib.hid (by rw [← hW2]; exact setRow_below (below_dr BB.out 1) _ (by have := HN.out; omega))
  rw [hW2] at hc1
  clear hW2
  have cg : (g : Int) ≤ 8 := by omega
  go_region
  clear hc1
  have HF0 : Hid (p.map u16V = cs) := HCS
  by_cases hd : c = g
  · subst hd
    have hc2 : (Builtin.copy_ #[83, 83] 3 #[.slice (some ⟨b2, 0, none⟩) 0 0, .slice (some ⟨b0, c, none⟩) 0 (8 - c)]).run Tryd.prog W2.drew = .ok (goInt 0) W2.drew :=
      run_copy_none (P := Tryd.prog) W2.drew 83 83 3 24 _ _ 0 0 0 (8 - c) (by first | exact Tryd.underlying83 | kernel_rfl) (by kernel_rfl) (by rfl)
    have HS : Hid (spreadM p c c = p.take c ++ List.replicate (8 - c) 0) := Lib.hid (by unfold spreadM; rw [List.drop_eq_nil_of_le (by simp; omega), List.append_nil])
    have D2n := D2.out
    rw [← HS.out, HQ.out] at D2n
    go_wp2_with fail
    go_region
    clear hc2
    obtain ⟨W3, hW3⟩ : ∃ W3, W2.drew = W3 := ⟨_, rfl⟩
    have C2 : Box W3 b2 25 (q.map u16V) := by rw [← hW3]; exact D2n.drew 1
    have C1 : Box W3 b1 25 ((List.replicate 8 0).map u16V) := by rw [← hW3]; exact D1.out.drew 1
    have CB := Lib.hid (show Below b0 w W3 by rw [← hW3]; exact below_dr DB.out 1)
    rw [hW3]
    clear hW3 D2n
    have HI : Hid ((Tryd.prog.info? 25).map (·.size) = some (q.map u16V).length) := Lib.hid (by rw [List.length_map, hql]; kernel_rfl)
    have HC2 := Lib.hid C2
    have HC1 := Lib.hid C1
    have HO := Lib.hid (one16 q)
    have HL : Hid (((List.replicate 8 (0 : Int)).map u16V).length = (q.map u16V).length) := Lib.hid (by simp; exact hql.symm)
    have E1 := Lib.hid (setRow_box_self C1 (q.map u16V))
    have EB := Lib.hid (setRow_below CB.out (q.map u16V).toArray (by have := HN.out; omega : b0 ≤ b1))
    clear C1 C2
    obtain ⟨vs, hvs⟩ : ∃ vs, q.map u16V = vs := ⟨_, rfl⟩
    rw [hvs] at HI HC2 HO HL E1 EB
    have HV := Lib.hid hvs
    clear hvs
    go_wp2_with (first
      | (refine wpList_loadRow (by rfl) 25 _ rfl b2 vs rfl 8 24 (by first | exact Tryd.underlying25 | kernel_rfl) HI.out HC2.out ?_)
      | (refine wpList_storeRow (by rfl) 25 _ _ rfl rfl b1 _ vs rfl rfl HI.out HC1.out HL.out HO.out ?_))
    refine bodyPost_ret (v := .agg vs.toArray) ?_ rfl ⟨by rw [HV.out], by rw [HB0.out]; exact EB.out⟩
    exact results_cell_row rfl _ _ b1 25 vs.toArray (0, 0) _ (by rfl) E1.out (by first | exact Tryd.underlying25 | kernel_rfl) rfl (by simpa using HI.out)
  · obtain ⟨d, hd2⟩ : ∃ d, c - g = d := ⟨_, rfl⟩
    obtain ⟨k, hk2⟩ : ∃ k, 8 - d = k := ⟨_, rfl⟩
    have d1 : (c : Int) - g = d := by omega
    have d2 : (8 : Int) - d = k := by omega
    have k1 : (k : Int) ≤ 8 := by omega
    have k2 : (g : Int) ≤ c := by omega
    have k3 : (c : Int) ≤ 8 := by omega
    have k4 : k < 8 := by omega
    have k5 : g < 8 := by omega
    have hc2 : (Builtin.copy_ #[83, 83] 3 #[.slice (some ⟨b2, k, none⟩) (8 - k) (8 - k), .slice (some ⟨b0, g, none⟩) d (8 - g)]).run Tryd.prog W2.drew = .ok (goInt d) (W2.drew.setRow b2 ((spreadM p c g).map u16V).toArray) := by
      have hl : (((p.take c).drop g).map u16V).length = d := by simp; omega
      have hbx : W2.drew.heap[b2]? = some (.cells ((p.take g ++ List.replicate (8 - g) 0).map u16V).toArray 25 (0, 0)) := D2.out.drew 1
      have := run_copy_row (P := Tryd.prog) W2.drew 83 83 3 24 b2 k (8 - k) (8 - k) ⟨b0, g, none⟩ d (8 - g) _ 25 (((p.take c).drop g).map u16V) (by first | exact Tryd.underlying83 | kernel_rfl) (by kernel_rfl) hbx (by rw [hl]; show d = min d (8 - k); omega)
        (fun j v hj => by
          rw [addr_add_off, show W2.drew.cell? ⟨b0, g + j, none⟩ = cs[g + j]? from (D0.out.drew 1).cell (g + j), ← HCS.out]
          have hjl : j < d := by have := (List.getElem?_eq_some_iff.1 hj).1; omega
          rw [← hj]; simp [List.getElem?_take, show g + j < c by omega]) (by rw [hl]; simp; omega) (one16 _)
      rw [hl] at this
      rw [this]
      congr 2
      unfold spreadM
      have e1 : ((p.take g ++ List.replicate (8 - g) (0 : Int)).map u16V).take k = (p.take g ++ List.replicate (8 - c) (0 : Int)).map u16V := by
        rw [← List.map_take, List.take_append, List.take_of_length_le (by simp; omega), List.take_replicate]
        congr 3
        simp; omega
      have e2 : ((p.take g ++ List.replicate (8 - g) (0 : Int)).map u16V).drop (k + d) = [] := List.drop_eq_nil_of_le (by simp; omega)
      rw [List.toList_toArray, e1, e2, List.append_nil, ← List.map_append]
    have HB := Lib.hid (setRow_box_self (D2.out.drew 1) ((spreadM p c g).map u16V))
    rw [HQ.out] at hc2 HB
    go_wp2_with fail
    go_region
    clear hc2
    obtain ⟨W3, hW3⟩ : ∃ W3, W2.drew.setRow b2 (q.map u16V).toArray = W3 := ⟨_, rfl⟩
    have C2 : Box W3 b2 25 (q.map u16V) := by rw [← hW3]; exact HB.out
    have C1 : Box W3 b1 25 ((List.replicate 8 0).map u16V) := by rw [← hW3]; exact setRow_box (D1.out.drew 1) _ (by have := HN.out; omega)
    have CB := Lib.hid (show Below b0 w W3 by rw [← hW3]; exact setRow_below (below_dr DB.out 1) _ (by have := HN.out; omega))
    rw [hW3]
    clear hW3 HB
    have HI : Hid ((Tryd.prog.info? 25).map (·.size) = some (q.map u16V).length) := Lib.hid (by rw [List.length_map, hql]; kernel_rfl)
    have HC2 := Lib.hid C2
    have HC1 := Lib.hid C1
    have HO := Lib.hid (one16 q)
    have HL : Hid (((List.replicate 8 (0 : Int)).map u16V).length = (q.map u16V).length) := Lib.hid (by simp; exact hql.symm)
    have E1 := Lib.hid (setRow_box_self C1 (q.map u16V))
    have EB := Lib.hid (setRow_below CB.out (q.map u16V).toArray (by have := HN.out; omega : b0 ≤ b1))
    clear C1 C2
    obtain ⟨vs, hvs⟩ : ∃ vs, q.map u16V = vs := ⟨_, rfl⟩
    rw [hvs] at HI HC2 HO HL E1 EB
    have HV := Lib.hid hvs
    clear hvs
    go_wp2_with (first
      | (refine wpList_loadRow (by rfl) 25 _ rfl b2 vs rfl 8 24 (by first | exact Tryd.underlying25 | kernel_rfl) HI.out HC2.out ?_)
      | (refine wpList_storeRow (by rfl) 25 _ _ rfl rfl b1 _ vs rfl rfl HI.out HC1.out HL.out HO.out ?_))
    refine bodyPost_ret (v := .agg vs.toArray) ?_ rfl ⟨by rw [HV.out], by rw [HB0.out]; exact EB.out⟩
    exact results_cell_row rfl _ _ b1 25 vs.toArray (0, 0) _ (by rfl) E1.out (by first | exact Tryd.underlying25 | kernel_rfl) rfl (by simpa using HI.out)
theorem tupU32B {a a' : Int} {c c' : Bool} (h1 : a = a') (h3 : c = c') : Ending.returned (.tuple #[.int .u32 a, .bool c]) = .returned (.tuple #[.int .u32 a', .bool c']) := by rw [h1, h3]
set_option maxHeartbeats 1000000 in
theorem dotted_any (l : List UInt8) (w : World) (hm : l.length ≤ 1000000) (htab : Tab w) :
    Calls Tryd.prog 34 #[.string ⟨l.toArray⟩] w fun e w' => e = .returned (.tuple #[.int .u32 (dotV l), .bool (dotO l)]) ∧ Below w.heap.size w w' := by
  have HP : Hid (∀ w, Calls Tryd.prog 24 #[.string ⟨l.toArray⟩] w fun e w' => e = .returned (.tuple #[.int .u32 (dotV l), .bool (parseL (splitB 46 (trimL l)) 4 0).2]) ∧ Below w.heap.size w w') := Lib.hid (fun w => Parse_any l w hm)
  obtain ⟨v0, v1⟩ := dotV_bd l
  have HT := Lib.hid htab
  clear htab
  have HO : Hid (dotO l = ((parseL (splitB 46 (trimL l)) 4 0).2 && (showL (dotV l).toNat == l))) := Lib.hid rfl
  obtain ⟨v, hv⟩ := Int.eq_ofNat_of_zero_le v0
  rw [hv] at HP HO v1 ⊢
  clear v0 hv
  have HS : Hid (∀ w', Below w.heap.size w w' → Calls Tryd.prog 14 #[.int .u32 v] w' fun e w2 => e = .returned (.string ⟨(showL v).toArray⟩) ∧ Below w'.heap.size w' w2) := Lib.hid (fun w' hb => Show_any v w' (by omega) (HT.out.below hb))
  rw [show ((v : Int)).toNat = v by omega] at HO
  obtain ⟨t, ht⟩ : ∃ t, showL v = t := ⟨_, rfl⟩
  rw [ht] at HO HS
  clear ht
  cases hk : (parseL (splitB 46 (trimL l)) 4 0).2 with
  | false =>
    rw [hk] at HP HO
    clear hk
    go_enter Tryd.func34, Tryd.ntmps34
    go_wp2_with fail
    refine (HP.out _).mono ?_
    rintro e w1 ⟨rfl, hb1⟩
    have HB1 := Lib.hid hb1
    clear hb1
    go_wp2_with fail
    go_ret2
    exact ⟨tupU32B rfl HO.out.symm, HB1.out⟩
  | true =>
    rw [hk] at HP HO
    clear hk
    cases ht : (t == l) with
    | false =>
      rw [ht] at HO
      go_enter Tryd.func34, Tryd.ntmps34
      go_wp2_with fail
      refine (HP.out _).mono ?_
      rintro e w1 ⟨rfl, hb1⟩
      have HB1 := Lib.hid hb1
      clear hb1
      go_wp2_with fail
      refine (HS.out _ HB1.out).mono ?_
      rintro e w2 ⟨rfl, hb2⟩
      have HB2 := Lib.hid (ext_trans HB1.out hb2)
      clear hb2
      go_wp2_with fail
      go_ret2
      exact ⟨tupU32B rfl HO.out.symm, HB2.out⟩
    | true =>
      rw [ht] at HO
      go_enter Tryd.func34, Tryd.ntmps34
      go_wp2_with fail
      refine (HP.out _).mono ?_
      rintro e w1 ⟨rfl, hb1⟩
      have HB1 := Lib.hid hb1
      clear hb1
      go_wp2_with fail
      refine (HS.out _ HB1.out).mono ?_
      rintro e w2 ⟨rfl, hb2⟩
      have HB2 := Lib.hid (ext_trans HB1.out hb2)
      clear hb2
      go_wp2_with fail
      go_ret2
      exact ⟨tupU32B rfl HO.out.symm, HB2.out⟩
theorem tup2I {a a' c c' : Int} (h1 : a = a') (h3 : c = c') : Ending.returned (.tuple #[.int .i64 a, .int .i64 c]) = .returned (.tuple #[.int .i64 a', .int .i64 c']) := by rw [h1, h3]
set_option maxHeartbeats 1000000 in
theorem noughts_any (p : List Int) (w : World) (hp : IsP p) :
    Calls Tryd.prog 29 #[.agg (p.map u16V).toArray] w fun e w' => e = .returned (.tuple #[.int .i64 (nought p).1, .int .i64 (nought p).2]) ∧ w' = w.alloc (.cells (p.map u16V).toArray 25) := by
  obtain ⟨h8, hb⟩ := hp
  have HB := Lib.hid hb
  clear hb
  obtain ⟨R, hR⟩ : ∃ R, nought p = R := ⟨_, rfl⟩
  have HR : Hid (noughtAt (zer p) 0 (-1) (-1) = R) := Lib.hid hR
  rw [hR]
  clear hR
  have HZ : Hid (∀ i, i < 8 → (zer p).getD i false = (p.getD i 0 == 0)) := Lib.hid (fun i h => zer_at p i (by omega))
  have HZL : Hid ((zer p).length = 8) := Lib.hid (by unfold zer; rw [List.length_map]; exact h8)
  obtain ⟨z, hz⟩ : ∃ z, zer p = z := ⟨_, rfl⟩
  rw [hz] at HR HZ HZL
  clear hz
  have HC : Hid (∀ i, i < 8 → (w.alloc (.cells (p.map u16V).toArray 25)).cell? ⟨w.heap.size, i, none⟩ = some (.int .u16 (p.getD i 0))) := Lib.hid (fun i hi => by
    rw [(Box.new w 25 (p.map u16V)).cell i]
    simp [List.getD, u16V, show i < p.length by omega])
  have HP := Lib.hid h8
  clear h8
  go_enter Tryd.func29, Tryd.ntmps29
  go_wp2_with fail
  obtain ⟨W, hW⟩ : ∃ W, w.alloc (.cells (p.map u16V).toArray 25) = W := ⟨_, rfl⟩
  rw [hW] at HC ⊢
  have HW := Lib.hid hW
  clear hW
  go_loopw [4, 5, 6] (fun tb te ti wr => ∃ (i : Nat) (b e : Int), i ≤ 9 ∧ -1 ≤ b ∧ b ≤ 8 ∧ -1 ≤ e ∧ e ≤ 8 ∧ ti = .int .i64 i ∧ tb = .int .i64 b ∧ te = .int .i64 e ∧ Hid (noughtAt z i b e = R) ∧ wr = W) (fun _ _ ti _ => 9 - (intOf ti).toNat)
  case atStart => exact ⟨0, -1, -1, by decide, by decide, by decide, by decide, by decide, rfl, rfl, rfl, HR, rfl⟩
  case round =>
    obtain ⟨i, b, e, hi, hb0, hb1, he0, he1, rfl, rfl, rfl, HI, rfl⟩ := hrel
    by_cases hlt : i < 8
    · have hltI : (i : Int) < 8 := by omega
      obtain ⟨wo, rfl⟩ : ∃ x, x = wr := ⟨wr, rfl⟩
      go_wp2_with fail
      go_loopw [6] (fun tj wr => ∃ j : Nat, i ≤ j ∧ j ≤ 8 ∧ tj = .int .i64 j ∧ Hid (zEnd z i = zEnd z j) ∧ wr = wo) (fun tj _ => 8 - (intOf tj).toNat)
      case atStart => exact ⟨i, by omega, by omega, rfl, Lib.hid rfl, rfl⟩
      case round =>
        obtain ⟨j, hij, hj, rfl, HJ, rfl⟩ := hrel
        by_cases hjl : j < 8
        · have hjI : (j : Int) < 8 := by omega
          have hcell := HC.out j hjl
          by_cases hx : p.getD j 0 = 0
          · rw [hx] at hcell
            have HN : Hid (zEnd z i = zEnd z (j + 1)) := Lib.hid (by
              rw [HJ.out, zEnd_on z j (by rw [HZL.out]; exact hjl) (by rw [HZ.out j hjl, hx]; rfl)])
            clear hx
            go_wp2_with fail
            exact ⟨⟨j + 1, by omega, by omega, by go_num, HN, by trivial⟩, by simp [intOf]; omega⟩
          · have HN : Hid (zEnd z i = j) := Lib.hid (by
              rw [HJ.out, zEnd_off z j (by rw [HZ.out j hjl, beq_eq_false_iff_ne]; exact hx)])
            obtain ⟨x, hxe⟩ : ∃ x, p.getD j 0 = x := ⟨_, rfl⟩
            rw [hxe] at hx hcell
            have hne : (x == 0) = false := by rw [beq_eq_false_iff_ne]; exact hx
            clear hxe hx
            by_cases hm : e - b ≤ 1
            · by_cases hx : 1 < (j : Int) - i
              · have HF : Hid (noughtAt z (j + 1) i (j : Nat) = R) := Lib.hid (by
                  rw [← HI.out, noughtAt_yes z i b e hlt (by rw [HN.out]; omega), HN.out])
                go_wp2_with fail
                exact ⟨⟨j + 1, i, j, by omega, by omega, by omega, by omega, by omega, by first | rfl | go_num, rfl, rfl, HF, by trivial⟩, by simp [intOf]; omega⟩
              · have HF : Hid (noughtAt z (j + 1) b e = R) := Lib.hid (by
                  rw [← HI.out, noughtAt_no z i b e hlt (by rw [HN.out]; omega), HN.out])
                go_wp2_with fail
                exact ⟨⟨j + 1, b, e, by omega, by omega, by omega, by omega, by omega, by first | rfl | go_num, rfl, rfl, HF, by trivial⟩, by simp [intOf]; omega⟩
            · by_cases hx : e - b < (j : Int) - i
              · have HF : Hid (noughtAt z (j + 1) i (j : Nat) = R) := Lib.hid (by
                  rw [← HI.out, noughtAt_yes z i b e hlt (by rw [HN.out]; omega), HN.out])
                go_wp2_with fail
                exact ⟨⟨j + 1, i, j, by omega, by omega, by omega, by omega, by omega, by first | rfl | go_num, rfl, rfl, HF, by trivial⟩, by simp [intOf]; omega⟩
              · have HF : Hid (noughtAt z (j + 1) b e = R) := Lib.hid (by
                  rw [← HI.out, noughtAt_no z i b e hlt (by rw [HN.out]; omega), HN.out])
                go_wp2_with fail
                exact ⟨⟨j + 1, b, e, by omega, by omega, by omega, by omega, by omega, by first | rfl | go_num, rfl, rfl, HF, by trivial⟩, by simp [intOf]; omega⟩
        · obtain rfl : j = 8 := by omega
          have HN : Hid (zEnd z i = 8) := Lib.hid (by
              rw [HJ.out, zEnd_off z 8 (by rw [List.getD, List.getElem?_eq_none (by rw [HZL.out]; exact Nat.le_refl _)]; rfl)])
          by_cases hm : e - b ≤ 1
          · by_cases hx : 1 < (8 : Int) - i
            · have HF : Hid (noughtAt z (8 + 1) i (8 : Nat) = R) := Lib.hid (by
                rw [← HI.out, noughtAt_yes z i b e hlt (by rw [HN.out]; omega), HN.out])
              go_wp2_with fail
              exact ⟨⟨8 + 1, i, 8, by omega, by omega, by omega, by omega, by omega, by first | rfl | go_num, rfl, rfl, HF, by trivial⟩, by simp [intOf]; omega⟩
            · have HF : Hid (noughtAt z (8 + 1) b e = R) := Lib.hid (by
                rw [← HI.out, noughtAt_no z i b e hlt (by rw [HN.out]; omega), HN.out])
              go_wp2_with fail
              exact ⟨⟨8 + 1, b, e, by omega, by omega, by omega, by omega, by omega, by first | rfl | go_num, rfl, rfl, HF, by trivial⟩, by simp [intOf]; omega⟩
          · by_cases hx : e - b < (8 : Int) - i
            · have HF : Hid (noughtAt z (8 + 1) i (8 : Nat) = R) := Lib.hid (by
                rw [← HI.out, noughtAt_yes z i b e hlt (by rw [HN.out]; omega), HN.out])
              go_wp2_with fail
              exact ⟨⟨8 + 1, i, 8, by omega, by omega, by omega, by omega, by omega, by first | rfl | go_num, rfl, rfl, HF, by trivial⟩, by simp [intOf]; omega⟩
            · have HF : Hid (noughtAt z (8 + 1) b e = R) := Lib.hid (by
                rw [← HI.out, noughtAt_no z i b e hlt (by rw [HN.out]; omega), HN.out])
              go_wp2_with fail
              exact ⟨⟨8 + 1, b, e, by omega, by omega, by omega, by omega, by omega, by first | rfl | go_num, rfl, rfl, HF, by trivial⟩, by simp [intOf]; omega⟩
    · have H1 : Hid (R = (b, e)) := Lib.hid (by rw [← HI.out, noughtAt_end z i b e (by omega)])
      have hge : ¬ (i : Int) < 8 := by omega
      go_wp2_with fail
      go_ret2
      exact ⟨tup2I (by rw [H1.out]) (by rw [H1.out]), HW.out.symm⟩
section
def HexB (P : List UInt8) : Prop := ∀ b ∈ P, 0 ≤ hexN (b.toNat : Int)
structure Piece (P : List UInt8) : Prop where
  hex : HexB P
  lo : 1 ≤ P.length
  hi : P.length ≤ 4
def Off (r : List UInt8) : Prop := r = [] ∨ hexN (byt r 0) < 0
theorem hexLen_piece : ∀ {P r : List UInt8}, HexB P → Off r → hexLen (P ++ r) = P.length
  | [], r, _, ho => by
    rcases ho with rfl | ho
    · rfl
    · cases r with
      | nil => rfl
      | cons b t => rw [byt0] at ho; rw [List.nil_append, hexLen, if_neg (by omega)]; rfl
  | b :: P, r, hp, ho => by
    rw [List.cons_append, hexLen, if_pos (hp b (List.mem_cons_self ..)), hexLen_piece (fun c hc => hp c (List.mem_cons_of_mem _ hc)) ho, List.length_cons]
theorem byt_r (a b : List UInt8) (i : Nat) : byt (a ++ b) (a.length + i) = byt b i := by
  unfold byt; rw [List.getD_eq_getElem?_getD, List.getD_eq_getElem?_getD, List.getElem?_append_right (by omega)]; congr 4; omega
theorem piece_first {P r : List UInt8} (hp : Piece P) : 0 ≤ hexN (byt (P ++ r) 0) := by
  have h := hp.lo
  match P, hp, h with
  | b :: t, hp, _ => exact hp.hex b (List.mem_cons_self ..)
section
variable {l A P Q : List UInt8} {acc : List Int} {gap : Int}
theorem six_at (hl : l = A ++ (P ++ Q)) (hp : HexB P) (ho : Off Q) (hc : acc.length ≤ 8) :
    A.length + hexLen (l.drop A.length) = A.length + P.length ∧ (l.take (A.length + P.length)).drop A.length = P ∧ (∀ i, byt l (A.length + P.length + i) = byt Q i) ∧ l.length = A.length + P.length + Q.length := by
  subst hl
  refine ⟨by rw [List.drop_left, hexLen_piece hp ho], ?_, fun i => ?_, by simp; omega⟩
  · rw [List.take_append, List.take_of_length_le (by omega), Nat.add_sub_cancel_left, List.drop_left, List.take_left]
  · rw [Nat.add_assoc, byt_r, byt_r]
theorem six_on (hl : l = A ++ (P ++ 58 :: Q)) (hp : Piece P) (hq : Q ≠ []) (hq2 : byt Q 0 ≠ 58) (hc : acc.length < 8) :
    six1 l (9 - acc.length) acc gap A.length = six1 l (9 - (acc ++ [hexW P]).length) (acc ++ [hexW P]) gap (A ++ (P ++ [58])).length := by
  obtain ⟨h1, h2, h3, h4⟩ := six_at (acc := acc) hl hp.hex (.inr (by rw [byt0]; decide)) (by omega)
  have hb : byt l (A.length + P.length) = 58 := by have := h3 0; rw [byt0] at this; exact this
  have hb1 : byt l (A.length + P.length + 1) = byt Q 0 := by have := h3 1; rw [bytS] at this; exact this
  have := hp.lo
  have := hp.hi
  have hql : 1 ≤ Q.length := List.length_pos_iff.2 hq
  rw [List.length_cons] at h4
  rw [six1_step l acc gap A.length (A.length + P.length) (by omega) h1, if_neg (by rw [hb]; omega), if_neg (by omega), if_neg (by omega), if_neg (by rw [hb]; omega), if_pos (by rw [hb1]; exact hq2), h2]
  rw [List.length_append, List.length_append, List.length_append, List.length_singleton, List.length_singleton, Nat.add_assoc A.length]
theorem six_gap (hl : l = A ++ (P ++ 58 :: 58 :: Q)) (hp : Piece P) (hc : acc.length < 8) (hg : gap < 0) :
    six1 l (9 - acc.length) acc gap A.length = if Q = [] then fin6 (acc ++ [hexW P]) (acc.length + 1 : Nat) else six1 l (9 - (acc ++ [hexW P]).length) (acc ++ [hexW P]) (acc.length + 1 : Nat) (A ++ (P ++ [58, 58])).length := by
  obtain ⟨h1, h2, h3, h4⟩ := six_at (acc := acc) hl hp.hex (.inr (by rw [byt0]; decide)) (by omega)
  have hb : byt l (A.length + P.length) = 58 := by have := h3 0; rw [byt0] at this; exact this
  have hb1 : byt l (A.length + P.length + 1) = 58 := by have := h3 1; rw [bytS, byt0] at this; exact this
  have := hp.lo
  have := hp.hi
  rw [List.length_cons, List.length_cons] at h4
  rw [six1_step l acc gap A.length (A.length + P.length) (by omega) h1, if_neg (by rw [hb]; omega), if_neg (by omega), if_neg (by omega), if_neg (by rw [hb]; omega), if_neg (by rw [hb1]; omega), if_neg (by omega), h2]
  by_cases hq : Q = []
  · rw [if_pos hq, if_neg (by rw [hq] at h4; simp at h4; omega)]
  · have hql : 1 ≤ Q.length := List.length_pos_iff.2 hq
    rw [if_neg hq, if_pos (by omega)]
    rw [List.length_append, List.length_append, List.length_append, List.length_singleton, Nat.add_assoc A.length]
    simp [Nat.add_assoc]
theorem six_end (hl : l = A ++ P) (hp : Piece P) (hc : acc.length < 8) : six1 l (9 - acc.length) acc gap A.length = fin6 (acc ++ [hexW P]) gap := by
  obtain ⟨h1, h2, h3, h4⟩ := six_at (l := l) (A := A) (P := P) (acc := acc) (Q := []) (by rw [hl, List.append_nil]) hp.hex (.inl rfl) (by omega)
  have := hp.lo
  have := hp.hi
  simp at h4
  rw [six1_step l acc gap A.length (A.length + P.length) (by omega) h1, if_neg (by omega), if_neg (by omega), if_pos (by omega), h2]
def colons (ps : List (List UInt8)) : List UInt8 := ps.flatMap fun p => p ++ [58]
theorem colons_cons (p : List UInt8) (ps : List (List UInt8)) : colons (p :: ps) = p ++ [58] ++ colons ps := rfl
end
theorem six_run : ∀ (ps : List (List UInt8)) (l A Q : List UInt8) (acc : List Int) (gap : Int), l = A ++ (colons ps ++ Q) → (∀ p ∈ ps, Piece p) → Q ≠ [] → byt Q 0 ≠ 58 → acc.length + ps.length ≤ 8 →
    six1 l (9 - acc.length) acc gap A.length = six1 l (9 - (acc ++ ps.map hexW).length) (acc ++ ps.map hexW) gap (A ++ colons ps).length
  | [], l, A, Q, acc, gap, hl, hp, hq, hq2, hc => by simp [colons]
  | p :: ps, l, A, Q, acc, gap, hl, hp, hq, hq2, hc => by
    have hpp := hp p (List.mem_cons_self ..)
    have hps : ∀ q ∈ ps, Piece q := fun q hq => hp q (List.mem_cons_of_mem _ hq)
    rw [List.length_cons] at hc
    have e1 : l = A ++ (p ++ 58 :: (colons ps ++ Q)) := by rw [hl, colons_cons]; simp
    have e2 : colons ps ++ Q ≠ [] := by intro h; exact hq (List.append_eq_nil_iff.1 h).2
    have e3 : byt (colons ps ++ Q) 0 ≠ 58 := by
      cases ps with
      | nil => exact hq2
      | cons r rs =>
        have := piece_first (r := [58] ++ colons rs ++ Q) (hps r (List.mem_cons_self ..))
        rw [colons_cons]
        intro h
        rw [show r ++ [58] ++ colons rs ++ Q = r ++ ([58] ++ colons rs ++ Q) by simp, ] at h
        rw [h] at this
        exact absurd this (by decide)
    rw [six_on e1 hpp e2 e3 (by omega)]
    rw [six_run ps l (A ++ (p ++ [58])) Q (acc ++ [hexW p]) gap (by rw [hl, colons_cons]; simp) hps hq hq2 (by simp; omega)]
    rw [colons_cons]
    simp
theorem prefix_no {l : List UInt8} (h : byt l 0 ≠ 58 ∨ byt l 1 ≠ 58) : ¬ Lib.hasPrefix l [58, 58] = true := by
  intro hp
  unfold Lib.hasPrefix at hp
  match l, h, hp with
  | [], h, hp => cases hp
  | [a], h, hp => simp [List.isPrefixOf] at hp
  | a :: b :: t, h, hp =>
    simp only [List.isPrefixOf, Bool.and_eq_true, beq_iff_eq] at hp
    obtain ⟨rfl, rfl, -⟩ := hp
    rcases h with h | h <;> exact h rfl
theorem six_eight (ps : List (List UInt8)) (p : List UInt8) (hp : ∀ q ∈ ps, Piece q) (hq : Piece p) (hn : ps.length = 7) : six (colons ps ++ p) = (ps.map hexW ++ [hexW p], true) := by
  have hf : byt (colons ps ++ p) 0 ≠ 58 := by
    match ps, hp, hn with
    | r :: rs, hp, _ =>
      have := piece_first (r := [58] ++ colons rs ++ p) (hp r (List.mem_cons_self ..))
      rw [colons_cons]
      intro h
      rw [show r ++ [58] ++ colons rs ++ p = r ++ ([58] ++ colons rs ++ p) by simp] at h
      rw [h] at this
      exact absurd this (by decide)
  have hpn : p ≠ [] := by intro h; have := hq.lo; rw [h] at this; simp at this
  have hp0 : byt p 0 ≠ 58 := by
    intro h
    have := piece_first (r := []) hq
    rw [List.append_nil, h] at this
    exact absurd this (by decide)
  unfold six
  rw [if_neg (prefix_no (.inl hf))]
  have := six_run ps (colons ps ++ p) [] p [] (-1) rfl hp hpn hp0 (by simp; omega)
  rw [show (9 : Nat) - ([] : List Int).length = 9 from rfl, show ([] : List UInt8).length = 0 from rfl] at this
  rw [this, List.nil_append, List.nil_append, six_end rfl hq (by simp; omega)]
  unfold fin6
  rw [if_pos ⟨by decide, by simp; omega⟩]
end
theorem byt_appL {l m : List UInt8} {q : Nat} (h : q < l.length) : byt (l ++ m) q = byt l q := by
  unfold byt; rw [List.getD_eq_getElem?_getD, List.getD_eq_getElem?_getD, List.getElem?_append_left h]
theorem byt_appR (l m : List UInt8) (q : Nat) : byt (l ++ m) (l.length + q) = byt m q := by
  unfold byt; rw [List.getD_eq_getElem?_getD, List.getD_eq_getElem?_getD, List.getElem?_append_right (by omega), Nat.add_sub_cancel_left]
def sgn (k : Nat) : UInt8 := if k < 10 then UInt8.ofNat (48 + k) else if k = 10 then 97 else if k = 11 then 66 else if k = 12 then 99 else if k = 13 then 68 else if k = 14 then 101 else 70
theorem sgn_hex : ∀ k : Fin 16, hexN ((sgn k.val).toNat : Int) = (k.val : Int) := by decide +kernel
theorem sgn_dot : ∀ k : Fin 16, ((sgn k.val).toNat : Int) ≠ 46 ∧ ((sgn k.val).toNat : Int) ≠ 120 ∧ ((sgn k.val).toNat : Int) ≠ 88 ∧ (k.val ≠ 0 → ((sgn k.val).toNat : Int) ≠ 48) := by decide +kernel
def digB (b x : Nat) : List UInt8 := if h : x < b ∨ b < 2 then [sgn x] else digB b (x / b) ++ [sgn (x % b)]
termination_by x
decreasing_by exact Nat.div_lt_self (by omega) (by omega)
theorem digB_small {b x : Nat} (h : x < b) : digB b x = [sgn x] := by rw [digB, dif_pos (.inl h)]
theorem digB_great {b x : Nat} (h : ¬ x < b) (hb : 2 ≤ b) : digB b x = digB b (x / b) ++ [sgn (x % b)] := by rw [digB, dif_neg (by omega)]
theorem digB_dec (x : Nat) : Lib.decDigits x = digB 10 x := by
  induction x using Nat.strongRecOn with
  | _ x ih =>
    by_cases h : x < 10
    · rw [digB_small h, Lib.decDigits_one h]
      unfold sgn
      rw [if_pos h]
    · rw [digB_great h (by decide), dec_great h, ih (x / 10) (by omega), mkB_dig]
      congr 2
      unfold sgn
      rw [if_pos (Nat.mod_lt _ (by decide))]
def isBase (b : Nat) : Prop := b = 8 ∨ b = 10 ∨ b = 16
theorem digB_len {b : Nat} (hb : isBase b) (x : Nat) : 1 ≤ (digB b x).length := by
  by_cases h : x < b
  · rw [digB_small h]; simp
  · rw [digB_great h (by unfold isBase at hb; omega)]; simp
theorem digB_len50 {b : Nat} (hb : isBase b) : ∀ (k x : Nat), x < 8 ^ (k + 1) → (digB b x).length ≤ k + 1 := by
  intro k
  induction k with
  | zero => intro x h; rw [digB_small (by unfold isBase at hb; omega)]; simp
  | succ k ih =>
    intro x h
    by_cases h2 : x < b
    · rw [digB_small h2]; simp
    · have := ih (x / b) (by
        have h3 : x / b ≤ x / 8 := Nat.div_le_div_left (by unfold isBase at hb; omega) (by decide)
        have h4 : x / 8 < 8 ^ (k + 1) := by rw [Nat.div_lt_iff_lt_mul (by decide), ← Nat.pow_succ]; exact h
        omega)
      rw [digB_great h2 (by unfold isBase at hb; omega)]; simp; omega
theorem digB_100 {b : Nat} (hb : isBase b) (x : Nat) (h : x < 1000000000000) : (digB b x).length ≤ 50 := digB_len50 hb 49 x (Nat.lt_trans h (by decide))
theorem onlyB_append (n : Int) (l m : List UInt8) : onlyB n (l ++ m) = (onlyB n l && onlyB n m) := by
  induction l with
  | nil => simp [onlyB]
  | cons b t ih => show (decide _ && onlyB n (t ++ m)) = ((decide _ && onlyB n t) && onlyB n m); rw [ih, Bool.and_assoc]
theorem valV_snoc (n : Int) (l : List UInt8) (c : UInt8) : valV n 0 (l ++ [c]) = stepV n (valV n 0 l) (c.toNat : Int) := by unfold valV; rw [List.foldl_append]; rfl
theorem onlyB_sgn {b k : Nat} (hb : isBase b) (h : k < b) : onlyB b [sgn k] = true := by
  have h1 := sgn_hex ⟨k, by unfold isBase at hb; omega⟩
  have h1 : hexN ((sgn k).toNat : Int) = (k : Int) := h1
  show (decide _ && true) = true
  rw [h1, decide_eq_true ⟨by omega, by omega⟩]; rfl
theorem digB_only {b : Nat} (hb : isBase b) (x : Nat) : onlyB b (digB b x) = true := by
  induction x using Nat.strongRecOn with
  | _ x ih =>
    have h2 : 2 ≤ b := by unfold isBase at hb; omega
    by_cases h : x < b
    · rw [digB_small h]; exact onlyB_sgn hb h
    · rw [digB_great h h2, onlyB_append, ih (x / b) (Nat.div_lt_self (by omega) (by omega)), onlyB_sgn hb (Nat.mod_lt _ (by omega))]; rfl
theorem digB_val {b : Nat} (hb : isBase b) (x : Nat) : valV b 0 (digB b x) = min (x : Int) 4294967296 := by
  induction x using Nat.strongRecOn with
  | _ x ih =>
    have h2 : 2 ≤ b := by unfold isBase at hb; omega
    by_cases h : x < b
    · rw [digB_small h]
      have h1 : hexN ((sgn x).toNat : Int) = (x : Int) := sgn_hex ⟨x, by unfold isBase at hb; omega⟩
      show stepV b 0 ((sgn x).toNat : Int) = _
      unfold stepV
      rw [h1]; simp
    · have h1 : hexN ((sgn (x % b)).toNat : Int) = ((x % b : Nat) : Int) := sgn_hex ⟨x % b, by have := Nat.mod_lt x (show 0 < b by omega); unfold isBase at hb; omega⟩
      rw [digB_great h h2, valV_snoc, ih (x / b) (Nat.div_lt_self (by omega) (by omega))]
      unfold stepV
      rw [h1]
      rcases hb with rfl | rfl | rfl <;> omega
theorem digB_signs {b : Nat} (hb : isBase b) (x : Nat) : ∀ q, q < (digB b x).length → byt (digB b x) q ≠ 46 ∧ byt (digB b x) q ≠ 120 ∧ byt (digB b x) q ≠ 88 := by
  induction x using Nat.strongRecOn with
  | _ x ih =>
    have h2 : 2 ≤ b := by unfold isBase at hb; omega
    have one : ∀ k, k < b → ∀ q, q < [sgn k].length → byt [sgn k] q ≠ 46 ∧ byt [sgn k] q ≠ 120 ∧ byt [sgn k] q ≠ 88 := by
      intro k hk q hq
      obtain rfl : q = 0 := by simpa using hq
      have := sgn_dot ⟨k, by unfold isBase at hb; omega⟩
      exact ⟨this.1, this.2.1, this.2.2.1⟩
    by_cases h : x < b
    · rw [digB_small h]; exact one x h
    · rw [digB_great h h2]
      intro q hq
      have hi := ih (x / b) (Nat.div_lt_self (by omega) (by omega))
      by_cases hq2 : q < (digB b (x / b)).length
      · have e : byt (digB b (x / b) ++ [sgn (x % b)]) q = byt (digB b (x / b)) q := byt_appL hq2
        rw [e]; exact hi q hq2
      · have hq3 : q = (digB b (x / b)).length := by simp at hq; omega
        have e : byt (digB b (x / b) ++ [sgn (x % b)]) q = byt [sgn (x % b)] 0 := by rw [hq3]; exact byt_appR _ _ 0
        rw [e]; exact one _ (Nat.mod_lt _ (by omega)) 0 (by simp)
theorem digB_first {b : Nat} (hb : isBase b) (x : Nat) (hx : 0 < x) : byt (digB b x) 0 ≠ 48 := by
  induction x using Nat.strongRecOn with
  | _ x ih =>
    have h2 : 2 ≤ b := by unfold isBase at hb; omega
    by_cases h : x < b
    · rw [digB_small h]
      exact (sgn_dot ⟨x, by unfold isBase at hb; omega⟩).2.2.2 (by show x ≠ 0; omega)
    · have hp : 0 < x / b := Nat.div_pos (by omega) (by omega)
      have hi := ih (x / b) (Nat.div_lt_self (by omega) (by omega)) hp
      have hl := digB_len hb (x / b)
      rw [digB_great h h2]
      have e : byt (digB b (x / b) ++ [sgn (x % b)]) 0 = byt (digB b (x / b)) 0 := byt_appL (by omega)
      rw [e]; exact hi
structure NumT (t : List UInt8) (v : Int) : Prop where
  o : numO t = true
  v : numV t = v
  d : ∀ q, q < t.length → byt t q ≠ 46
  l : 1 ≤ t.length
  m : t.length ≤ 60
theorem numT_dec (x : Nat) (hx : x < 1000000000000) : NumT (digB 10 x) (min (x : Int) 4294967296) := by
  have hb : isBase 10 := .inr (.inl rfl)
  have hl := digB_len hb x
  have hs := digB_signs hb x
  have hp : hexP (digB 10 x) = false := by
    unfold hexP
    rw [decide_eq_false_iff_not]
    rintro ⟨h1, h2, h3⟩
    have := hs 1 (by omega)
    rcases h3 with h3 | h3
    · exact this.2.1 h3
    · exact this.2.2 h3
  have hbase : baseN (digB 10 x) = 10 := by
    unfold baseN
    rw [if_neg (by rw [hp]; simp), if_neg]
    rintro ⟨h1, h2⟩
    by_cases h0 : 0 < x
    · exact digB_first hb x h0 h2
    · obtain rfl : x = 0 := by omega
      rw [digB_small (by decide)] at h1; simp at h1
  have hbody : bodyL (digB 10 x) = digB 10 x := by unfold bodyL; rw [if_neg (by rw [hp]; simp)]
  have ho : numO (digB 10 x) = true := by
    unfold numO
    rw [hbase, hbody, show onlyB 10 (digB 10 x) = true from digB_only hb x, decide_eq_true (show 0 < (digB 10 x).length by omega)]; simp
  refine ⟨ho, ?_, fun q hq => (hs q hq).1, hl, by have := digB_100 hb x hx; omega⟩
  · unfold numV; rw [if_pos ho, hbase, hbody]; exact digB_val hb x
def joinD : List (List UInt8) → List UInt8
  | [] => []
  | [p] => p
  | p :: q :: ps => p ++ 46 :: joinD (q :: ps)
theorem joinD_cons (p : List UInt8) {ps : List (List UInt8)} (h : ps ≠ []) : joinD (p :: ps) = p ++ 46 :: joinD ps := by
  cases ps with
  | nil => exact absurd rfl h
  | cons q ps => rfl
theorem splitB_joinD : ∀ (ps : List (List UInt8)), ps ≠ [] → (∀ p ∈ ps, ∀ q, q < p.length → byt p q ≠ 46) → splitB 46 (joinD ps) = ps := by
  intro ps
  induction ps with
  | nil => intro h; exact absurd rfl h
  | cons p ps ih =>
    intro _ hd
    have he : splitB 46 p = [p] := splitB_end 46 p (hd p List.mem_cons_self)
    by_cases h : ps = []
    · subst h; exact he
    · rw [joinD_cons p h, splitB_joins 46 46 rfl, he, ih h (fun q hq => hd q (List.mem_cons_of_mem _ hq))]; rfl
theorem joinD_snoc : ∀ (ps : List (List UInt8)) (p : List UInt8), ps ≠ [] → joinD (ps ++ [p]) = joinD ps ++ 46 :: p := by
  intro ps
  induction ps with
  | nil => intro p h; exact absurd rfl h
  | cons a ps ih =>
    intro p _
    by_cases h : ps = []
    · subst h; rfl
    · rw [List.cons_append, joinD_cons a (by simp), joinD_cons a h, ih p h]; simp
theorem parts_of (ps : List (List UInt8)) (p : List UInt8) (dot : Bool) (hp : ∀ r ∈ ps ++ [p], ∀ q, q < r.length → byt r q ≠ 46) (hl : 1 ≤ p.length) :
    splitB 46 (trimL (joinD (ps ++ [p]) ++ if dot then [46] else [])) = ps ++ [p] := by
  have hs := splitB_joinD (ps ++ [p]) (by simp) hp
  have ht : trimL (joinD (ps ++ [p]) ++ if dot then [46] else []) = joinD (ps ++ [p]) := by
    cases dot with
    | true =>
      generalize joinD (ps ++ [p]) = s
      unfold trimL
      have e : byt (s ++ [46]) (s.length + 0) = 46 := by rw [byt_appR]; rfl
      show (if 0 < (s ++ [46]).length ∧ byt (s ++ [46]) ((s ++ [46]).length - 1) = 46 then (s ++ [46]).take ((s ++ [46]).length - 1) else s ++ [46]) = s
      have e2 : (s ++ [(46 : UInt8)]).length - 1 = s.length := by simp
      rw [if_pos ⟨by simp, by rw [e2]; exact e⟩, e2]
      simp
    | false =>
      have hj : ∃ r, joinD (ps ++ [p]) = r ++ p := by
        by_cases h : ps = []
        · subst h; exact ⟨[], rfl⟩
        · exact ⟨joinD ps ++ [46], by rw [joinD_snoc ps p h]; simp⟩
      obtain ⟨r, hr⟩ := hj
      rw [hr]
      have hlast := hp p (by simp) (p.length - 1) (by omega)
      unfold trimL
      rw [if_neg]
      · simp
      · rintro ⟨_, h2⟩
        have e : byt (r ++ p) ((r ++ p).length - 1) = byt p (p.length - 1) := by
          rw [show (r ++ p).length - 1 = r.length + (p.length - 1) by simp; omega]
          exact byt_appR _ _ _
        apply hlast
        rw [← e]
        simpa using h2
  rw [ht, hs]
theorem show_join (n : Nat) : showL n = joinD ([digB 10 (q0 n), digB 10 (q1 n), digB 10 (q2 n)] ++ [digB 10 (q3 n)]) := by
  unfold showL
  rw [digB_dec, digB_dec, digB_dec, digB_dec]
  show _ = digB 10 (q0 n) ++ 46 :: (digB 10 (q1 n) ++ 46 :: (digB 10 (q2 n) ++ 46 :: digB 10 (q3 n)))
  simp
theorem show_parts (n : Nat) (hn : n < 4294967296) : splitB 46 (trimL (showL n)) = [digB 10 (q0 n), digB 10 (q1 n), digB 10 (q2 n), digB 10 (q3 n)] := by
  have a0 := numT_dec (q0 n) (by unfold q0; omega)
  have a1 := numT_dec (q1 n) (by unfold q1; omega)
  have a2 := numT_dec (q2 n) (by unfold q2; omega)
  have a3 := numT_dec (q3 n) (by unfold q3; omega)
  have := parts_of [digB 10 (q0 n), digB 10 (q1 n), digB 10 (q2 n)] (digB 10 (q3 n)) false (by
    intro r hr
    simp at hr
    rcases hr with rfl | rfl | rfl | rfl
    · exact a0.d
    · exact a1.d
    · exact a2.d
    · exact a3.d) a3.l
  rw [← show_join] at this
  simpa using this
theorem show_reads (n : Nat) (hn : n < 4294967296) : parseL (splitB 46 (trimL (showL n))) 4 0 = ((n : Int), true) := by
  have a0 := numT_dec (q0 n) (by unfold q0; omega)
  have a1 := numT_dec (q1 n) (by unfold q1; omega)
  have a2 := numT_dec (q2 n) (by unfold q2; omega)
  have a3 := numT_dec (q3 n) (by unfold q3; omega)
  have hs := show_parts n hn
  rw [hs, parse_on a0.o (by simp), if_neg (by rw [a0.v]; unfold q0; omega), parse_on a1.o (by simp), if_neg (by rw [a1.v]; unfold q1; omega), parse_on a2.o (by simp), if_neg (by rw [a2.v]; unfold q2; omega),
    parse_end a3.o, if_neg (by rw [a3.v]; unfold q3; simp; omega), a0.v, a1.v, a2.v, a3.v]
  congr 1
  unfold q0 q1 q2 q3
  simp; omega
section
def jn : List (List UInt8) → List UInt8
  | [] => []
  | p :: ps => if ps = [] then p else p ++ 58 :: jn ps
theorem jn_snoc : ∀ (ps : List (List UInt8)) (p : List UInt8), jn (ps ++ [p]) = colons ps ++ p
  | [], p => by simp [jn, colons]
  | q :: ps, p => by
    rw [List.cons_append, jn, if_neg (by simp), jn_snoc ps p, colons_cons]
    simp
section
variable {l A : List UInt8} {acc : List Int} {gap : Int}
end
theorem colons_ne {ps : List (List UInt8)} {Q : List UInt8} (hp : ∀ p ∈ ps, Piece p) (hq : byt Q 0 ≠ 58) : byt (colons ps ++ Q) 0 ≠ 58 := by
  cases ps with
  | nil => exact hq
  | cons r rs =>
    have := piece_first (r := [58] ++ colons rs ++ Q) (hp r (List.mem_cons_self ..))
    rw [colons_cons]
    intro h
    rw [show r ++ [58] ++ colons rs ++ Q = r ++ ([58] ++ colons rs ++ Q) by simp] at h
    rw [h] at this
    exact absurd this (by decide)
theorem piece_ne {p : List UInt8} (hp : Piece p) : p ≠ [] ∧ byt p 0 ≠ 58 := by
  refine ⟨fun h => by have := hp.lo; rw [h] at this; simp at this, fun h => ?_⟩
  have := piece_first (r := []) hp
  rw [List.append_nil, h] at this
  exact absurd this (by decide)
theorem six_head (ps : List (List UInt8)) (R : List UInt8) (hp : ∀ p ∈ ps, Piece p) (hn : ps.length ≤ 7) :
    six (jn ps ++ 58 :: 58 :: R) = if R = [] then fin6 (ps.map hexW) ps.length else six1 (jn ps ++ 58 :: 58 :: R) (9 - (ps.map hexW).length) (ps.map hexW) ps.length (jn ps ++ [58, 58]).length := by
  rcases List.eq_nil_or_concat ps with rfl | ⟨qs, q, rfl⟩
  · unfold six
    rw [if_pos (by unfold Lib.hasPrefix; simp [jn, List.isPrefixOf])]
    by_cases hR : R = []
    · rw [if_pos hR, if_pos (by rw [hR]; rfl)]; rfl
    · have := List.length_pos_iff.2 hR
      rw [if_neg hR, if_neg (by show (R.length + 1 + 1) ≠ 2; omega)]; rfl
  · rw [List.concat_eq_append] at hp hn ⊢
    have hq := hp q (by simp)
    have hqs : ∀ p ∈ qs, Piece p := fun p h => hp p (by simp [h])
    rw [List.length_append, List.length_singleton] at hn
    rw [jn_snoc]
    have hq2 : byt (q ++ 58 :: 58 :: R) 0 ≠ 58 := by
      intro h
      have := piece_first (r := 58 :: 58 :: R) hq
      rw [h] at this
      exact absurd this (by decide)
    have e : colons qs ++ q ++ 58 :: 58 :: R = colons qs ++ (q ++ 58 :: 58 :: R) := by simp
    rw [e]
    unfold six
    rw [if_neg (prefix_no (.inl (colons_ne hqs hq2)))]
    have := six_run qs (colons qs ++ (q ++ 58 :: 58 :: R)) [] (q ++ 58 :: 58 :: R) [] (-1) rfl hqs (by simp) hq2 (by simp; omega)
    rw [show (9 : Nat) - ([] : List Int).length = 9 from rfl, show ([] : List UInt8).length = 0 from rfl] at this
    rw [this, List.nil_append, List.nil_append, six_gap rfl hq (by simp; omega) (by decide)]
    have e1 : List.map hexW (qs ++ [q]) = List.map hexW qs ++ [hexW q] := by simp
    have e2 : (List.map hexW qs).length + 1 = (qs ++ [q]).length := by simp
    rw [e1, e2]
    rw [show colons qs ++ (q ++ [58, 58]) = colons qs ++ q ++ [58, 58] by simp]
theorem six_tail {l A : List UInt8} {acc : List Int} {gap : Int} (ps : List (List UInt8)) (hl : l = A ++ jn ps) (hne : ps ≠ []) (hp : ∀ p ∈ ps, Piece p) (hc : acc.length + ps.length ≤ 8) :
    six1 l (9 - acc.length) acc gap A.length = fin6 (acc ++ ps.map hexW) gap := by
  rcases List.eq_nil_or_concat ps with rfl | ⟨qs, q, rfl⟩
  · exact absurd rfl hne
  · rw [List.concat_eq_append] at hl hp hc ⊢
    rw [jn_snoc] at hl
    have hq := hp q (by simp)
    rw [List.length_append, List.length_singleton] at hc
    obtain ⟨n1, n2⟩ := piece_ne hq
    rw [six_run qs l A q acc gap hl (fun p h => hp p (by simp [h])) n1 n2 (by omega), six_end (by rw [hl]; simp) hq (by simp; omega)]
    simp
theorem fin_gap (xs ys : List Int) (h : xs.length + ys.length < 8) : fin6 (xs ++ ys) xs.length = (xs ++ List.replicate (8 - (xs.length + ys.length)) 0 ++ ys, true) := by
  unfold fin6
  rw [if_neg (by omega), if_pos ⟨by omega, by simp; omega⟩]
  congr 1
  unfold spreadM pad
  have e1 : (xs ++ ys ++ List.replicate (8 - (xs ++ ys).length) 0).take xs.length = xs := by rw [List.append_assoc, List.take_left]
  have e2 : (xs ++ ys ++ List.replicate (8 - (xs ++ ys).length) 0).take (xs ++ ys).length = xs ++ ys := List.take_left
  rw [Int.toNat_natCast, e1, e2, List.drop_left, List.length_append]
theorem gap_pieces (ps qs : List (List UInt8)) (hp : ∀ p ∈ ps, Piece p) (hq : ∀ p ∈ qs, Piece p) (hn : ps.length + qs.length ≤ 7) :
    six (jn ps ++ 58 :: 58 :: jn qs) = (ps.map hexW ++ List.replicate (8 - (ps.length + qs.length)) 0 ++ qs.map hexW, true) := by
  rw [six_head ps (jn qs) hp (by omega)]
  have hf := fin_gap (ps.map hexW) (qs.map hexW) (by simp; omega)
  rw [List.length_map, List.length_map] at hf
  by_cases h : qs = []
  · subst h
    rw [if_pos (show jn [] = [] from rfl), ← hf]
    simp
  · rw [if_neg, six_tail (A := jn ps ++ [58, 58]) qs (by simp) h hq (by simp; omega), hf]
    intro hj
    rcases List.eq_nil_or_concat qs with rfl | ⟨rs, r, rfl⟩
    · exact h rfl
    · rw [List.concat_eq_append, jn_snoc] at hj
      exact (piece_ne (hq r (by simp))).1 (List.append_eq_nil_iff.1 hj).2
end
def dx (k : Nat) : UInt8 := UInt8.ofNat (if k < 10 then 48 + k else 87 + k)
def hx4 (n : Nat) : List UInt8 := if n < 16 then [dx n] else if n < 256 then [dx (n / 16), dx (n % 16)] else if n < 4096 then [dx (n / 256), dx (n / 16 % 16), dx (n % 16)] else [dx (n / 4096), dx (n / 256 % 16), dx (n / 16 % 16), dx (n % 16)]
theorem hx4_small {n : Nat} (h : n < 16) : hx4 n = [dx n] := by unfold hx4; rw [if_pos h]
theorem hx4_step {n : Nat} (h : 16 ≤ n) (h2 : n < 65536) : hx4 n = hx4 (n / 16) ++ [dx (n % 16)] := by
  unfold hx4
  rw [if_neg (by omega)]
  by_cases h3 : n < 256
  · rw [if_pos h3, if_pos (by omega)]; rfl
  rw [if_neg h3]
  by_cases h4 : n < 4096
  · rw [if_pos h4, if_neg (by omega), if_pos (by omega), show n / 16 / 16 = n / 256 by omega]; rfl
  rw [if_neg h4, if_neg (by omega), if_neg (by omega), if_pos (by omega), show n / 16 / 256 = n / 4096 by omega, show n / 16 / 16 % 16 = n / 256 % 16 by omega]
  rfl
theorem hx4_len (n : Nat) : 1 ≤ (hx4 n).length ∧ (hx4 n).length ≤ 4 := by
  unfold hx4
  repeat' split
  all_goals simp
theorem dx_hex : ∀ k : Fin 16, hexN ((dx k.val).toNat : Int) = (k.val : Int) := by decide +kernel
theorem hx4_mem {n : Nat} (hn : n < 65536) : ∀ b ∈ hx4 n, ∃ k : Fin 16, b = dx k.val := by
  intro b hb
  unfold hx4 at hb
  split at hb
  · simp only [List.mem_cons, List.not_mem_nil, or_false] at hb
    exact ⟨⟨n, by omega⟩, hb⟩
  split at hb
  · simp only [List.mem_cons, List.not_mem_nil, or_false] at hb
    rcases hb with rfl | rfl
    · exact ⟨⟨n / 16, by omega⟩, rfl⟩
    · exact ⟨⟨n % 16, by omega⟩, rfl⟩
  split at hb
  · simp only [List.mem_cons, List.not_mem_nil, or_false] at hb
    rcases hb with rfl | rfl | rfl
    · exact ⟨⟨n / 256, by omega⟩, rfl⟩
    · exact ⟨⟨n / 16 % 16, by omega⟩, rfl⟩
    · exact ⟨⟨n % 16, by omega⟩, rfl⟩
  · simp only [List.mem_cons, List.not_mem_nil, or_false] at hb
    rcases hb with rfl | rfl | rfl | rfl
    · exact ⟨⟨n / 4096, by omega⟩, rfl⟩
    · exact ⟨⟨n / 256 % 16, by omega⟩, rfl⟩
    · exact ⟨⟨n / 16 % 16, by omega⟩, rfl⟩
    · exact ⟨⟨n % 16, by omega⟩, rfl⟩
theorem hx4_piece {n : Nat} (hn : n < 65536) : Piece (hx4 n) := by
  refine ⟨fun b hb => ?_, (hx4_len n).1, (hx4_len n).2⟩
  obtain ⟨k, rfl⟩ := hx4_mem hn b hb
  rw [dx_hex]; omega
theorem hexW_snoc (l : List UInt8) (c : UInt8) : hexW (l ++ [c]) = hexW l * 16 + hexN (c.toNat : Int) := by unfold hexW; rw [List.foldl_append]; rfl
theorem hx4_val : ∀ (k n : Nat), n < 16 ^ (k + 1) → n < 65536 → hexW (hx4 n) = (n : Int)
  | 0, n, h, _ => by
    have h : n < 16 := h
    rw [hx4_small h]
    have := dx_hex ⟨n, h⟩
    unfold hexW
    simp only [List.foldl_cons, List.foldl_nil]
    rw [this]; simp
  | k + 1, n, h, h2 => by
    by_cases h3 : n < 16
    · rw [hx4_small h3]
      have := dx_hex ⟨n, h3⟩
      unfold hexW
      simp only [List.foldl_cons, List.foldl_nil]
      rw [this]; simp
    · have h4 : n / 16 < 16 ^ (k + 1) := by rw [Nat.div_lt_iff_lt_mul (by decide)]; rw [Nat.pow_succ] at h; exact h
      rw [hx4_step (by omega) h2, hexW_snoc, hx4_val k (n / 16) h4 (by omega)]
      have := dx_hex ⟨n % 16, by omega⟩
      rw [this]
      show ((n / 16 : Nat) : Int) * 16 + ((n % 16 : Nat) : Int) = n
      omega
theorem hexW_hx4 {n : Nat} (h : n < 65536) : hexW (hx4 n) = (n : Int) := hx4_val 3 n (by omega) h
def shwF (p : List Int) (bg en : Int) : Nat → Int → List UInt8 → List UInt8
  | 0, _, b => b
  | n + 1, i, b => if i < 8 then (if i = bg then shwF p bg en n en (b ++ [58, 58]) else shwF p bg en n (i + 1) ((if 0 < i ∧ i ≠ en then b ++ [58] else b) ++ hx4 (p.getD i.toNat 0).toNat)) else b
def shw (p : List Int) : List UInt8 := shwF p (nought p).1 (nought p).2 9 0 []
def gapB (z : List Bool) : Bool := match noughtAt z 0 (-1) (-1) with
  | (b, e) => decide (b = -1 ∧ e = -1) || (decide (0 ≤ b ∧ b + 2 ≤ e ∧ e ≤ 8) && (List.range 8).all fun i => !decide (b ≤ i ∧ (i : Int) < e) || z.getD i false)
theorem gap_all : ∀ a b c d e f g h : Bool, gapB [a, b, c, d, e, f, g, h] = true := by decide +kernel
theorem gap_is (p : List Int) (h8 : p.length = 8) : ((nought p).1 = -1 ∧ (nought p).2 = -1) ∨ (0 ≤ (nought p).1 ∧ (nought p).1 + 2 ≤ (nought p).2 ∧ (nought p).2 ≤ 8 ∧ ∀ i : Nat, i < 8 → (nought p).1 ≤ i → (i : Int) < (nought p).2 → p.getD i 0 = 0) := by
  have hz : gapB (zer p) = true := by
    match p, h8 with
    | [a, b, c, d, e, f, g, h], _ => exact gap_all ..
  unfold gapB at hz
  rw [show noughtAt (zer p) 0 (-1) (-1) = nought p from rfl] at hz
  obtain ⟨R, hR⟩ : ∃ R, nought p = R := ⟨_, rfl⟩
  rw [hR] at hz ⊢
  obtain ⟨b, e⟩ := R
  dsimp only at hz ⊢
  rw [Bool.or_eq_true, Bool.and_eq_true, decide_eq_true_eq, decide_eq_true_eq, List.all_eq_true] at hz
  rcases hz with h | ⟨h1, h2⟩
  · exact .inl h
  · refine .inr ⟨h1.1, h1.2.1, h1.2.2, fun i hi hb he => ?_⟩
    have h3 := h2 i (List.mem_range.2 hi)
    rw [Bool.or_eq_true] at h3
    rcases h3 with h3 | h3
    · simp [hb, he] at h3
    · rw [zer_at p i (by omega)] at h3
      simpa using h3
theorem shw_gap (a b c d e f g h : Nat) (ha : a < 65536) (hb : b < 65536) (hc : c < 65536) (hd : d < 65536) (he : e < 65536) (hf : f < 65536) (hg : g < 65536) (hh : h < 65536) (m n : Nat) (hm : m + 2 ≤ n) (hn : n ≤ 8) (hz : ∀ i : Nat, i < 8 → m ≤ i → i < n → [a, b, c, d, e, f, g, h].getD i 0 = 0) :
    six (shwF [(a : Int), b, c, d, e, f, g, h] m n 9 0 []) = ([(a : Int), b, c, d, e, f, g, h], true) := by
  have hL : ∀ q ∈ [hx4 a, hx4 b, hx4 c, hx4 d, hx4 e, hx4 f, hx4 g, hx4 h], Piece q := by
    intro q hq
    simp only [List.mem_cons, List.not_mem_nil, or_false] at hq
    rcases hq with rfl | rfl | rfl | rfl | rfl | rfl | rfl | rfl <;> exact hx4_piece (by assumption)
  have hp := gap_pieces ([hx4 a, hx4 b, hx4 c, hx4 d, hx4 e, hx4 f, hx4 g, hx4 h].take m) ([hx4 a, hx4 b, hx4 c, hx4 d, hx4 e, hx4 f, hx4 g, hx4 h].drop n) (fun q hq => hL q (List.mem_of_mem_take hq)) (fun q hq => hL q (List.mem_of_mem_drop hq)) (by simp only [List.length_take, List.length_drop, List.length_cons, List.length_nil]; omega)
  have va := hexW_hx4 ha
  have vb := hexW_hx4 hb
  have vc := hexW_hx4 hc
  have vd := hexW_hx4 hd
  have ve := hexW_hx4 he
  have vf := hexW_hx4 hf
  have vg := hexW_hx4 hg
  have vh := hexW_hx4 hh
  have z0 := hz 0 (by decide)
  have z1 := hz 1 (by decide)
  have z2 := hz 2 (by decide)
  have z3 := hz 3 (by decide)
  have z4 := hz 4 (by decide)
  have z5 := hz 5 (by decide)
  have z6 := hz 6 (by decide)
  have z7 := hz 7 (by decide)
  simp only [List.getD_cons_zero, List.getD_cons_succ] at z0 z1 z2 z3 z4 z5 z6 z7
  clear hz hL
  rcases (by omega : m = 0 ∨ m = 1 ∨ m = 2 ∨ m = 3 ∨ m = 4 ∨ m = 5 ∨ m = 6) with rfl | rfl | rfl | rfl | rfl | rfl | rfl <;>
  rcases (by omega : n = 2 ∨ n = 3 ∨ n = 4 ∨ n = 5 ∨ n = 6 ∨ n = 7 ∨ n = 8) with rfl | rfl | rfl | rfl | rfl | rfl | rfl <;>
  first
  | (exfalso; omega)
  | (refine Eq.trans (congrArg six ?_) (hp.trans ?_)
     · simp [shwF, jn]
     · simp_all)
theorem shw_six (p : List Int) (hp : IsP p) : six (shw p) = (p, true) := by
  obtain ⟨h8, hb⟩ := hp
  have hgp := gap_is p h8
  unfold shw
  match p, h8, hb, hgp with
  | [a, b, c, d, e, f, g, h], _, hb, hgp =>
  obtain ⟨a, rfl⟩ := Int.eq_ofNat_of_zero_le (hb 0).1
  obtain ⟨b, rfl⟩ := Int.eq_ofNat_of_zero_le (hb 1).1
  obtain ⟨c, rfl⟩ := Int.eq_ofNat_of_zero_le (hb 2).1
  obtain ⟨d, rfl⟩ := Int.eq_ofNat_of_zero_le (hb 3).1
  obtain ⟨e, rfl⟩ := Int.eq_ofNat_of_zero_le (hb 4).1
  obtain ⟨f, rfl⟩ := Int.eq_ofNat_of_zero_le (hb 5).1
  obtain ⟨g, rfl⟩ := Int.eq_ofNat_of_zero_le (hb 6).1
  obtain ⟨h, rfl⟩ := Int.eq_ofNat_of_zero_le (hb 7).1
  have ha : a < 65536 := by have := (hb 0).2; simp only [List.getD_cons_zero] at this; omega
  have hb' : b < 65536 := by have := (hb 1).2; simp only [List.getD_cons_zero, List.getD_cons_succ] at this; omega
  have hc : c < 65536 := by have := (hb 2).2; simp only [List.getD_cons_zero, List.getD_cons_succ] at this; omega
  have hd : d < 65536 := by have := (hb 3).2; simp only [List.getD_cons_zero, List.getD_cons_succ] at this; omega
  have he : e < 65536 := by have := (hb 4).2; simp only [List.getD_cons_zero, List.getD_cons_succ] at this; omega
  have hf : f < 65536 := by have := (hb 5).2; simp only [List.getD_cons_zero, List.getD_cons_succ] at this; omega
  have hg : g < 65536 := by have := (hb 6).2; simp only [List.getD_cons_zero, List.getD_cons_succ] at this; omega
  have hh : h < 65536 := by have := (hb 7).2; simp only [List.getD_cons_zero, List.getD_cons_succ] at this; omega
  obtain ⟨R, hR⟩ : ∃ R, nought [(a : Int), b, c, d, e, f, g, h] = R := ⟨_, rfl⟩
  rw [hR] at hgp ⊢
  obtain ⟨u, v⟩ := R
  dsimp only at hgp ⊢
  rcases hgp with ⟨rfl, rfl⟩ | ⟨h0, h1, h2, hz⟩
  · have h7 : ∀ q ∈ [hx4 a, hx4 b, hx4 c, hx4 d, hx4 e, hx4 f, hx4 g], Piece q := by
      intro q hq
      simp only [List.mem_cons, List.not_mem_nil, or_false] at hq
      rcases hq with rfl | rfl | rfl | rfl | rfl | rfl | rfl <;> exact hx4_piece (by assumption)
    have := six_eight _ _ h7 (hx4_piece hh) rfl
    refine Eq.trans (congrArg six ?_) (this.trans ?_)
    · simp [shwF, colons]
    · simp [hexW_hx4 ha, hexW_hx4 hb', hexW_hx4 hc, hexW_hx4 hd, hexW_hx4 he, hexW_hx4 hf, hexW_hx4 hg, hexW_hx4 hh]
  · obtain ⟨m, rfl⟩ := Int.eq_ofNat_of_zero_le h0
    obtain ⟨n, rfl⟩ := Int.eq_ofNat_of_zero_le (show 0 ≤ v by omega)
    refine shw_gap a b c d e f g h ha hb' hc hd he hf hg hh m n (by omega) (by omega) fun i hi hm hn => ?_
    have := hz i hi (by omega) (by omega)
    match i, hi with
    | 0, _ => simpa using this
    | 1, _ => simpa using this
    | 2, _ => simpa using this
    | 3, _ => simpa using this
    | 4, _ => simpa using this
    | 5, _ => simpa using this
    | 6, _ => simpa using this
    | 7, _ => simpa using this
end Go.Proofs.YtaphadmcjimmeaaDoor
